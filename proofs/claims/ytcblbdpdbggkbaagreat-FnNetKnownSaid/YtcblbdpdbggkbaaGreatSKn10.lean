/-
  What the laws of Kn need of the texts before it, part 10.
-/
import Derived.ArgAppend
import Derived.BigQuiet
import Derived.Carry
import Derived.ChangeSame
import Derived.Deep.AppendLies
import Derived.Deep.Cut
import Derived.Deep.DeepCutAuto
import Derived.Deep.DrawnRows
import Derived.Deep.Fields
import Derived.Deep.Matrix
import Derived.Deep.MidRow
import Derived.Deep.OwnRows
import Derived.Deep.QuietTactic
import Derived.Deep.RegionHeld3
import Derived.Deep.RegionLaw
import Derived.Deep.RegionLawGrows
import Derived.Deep.RegionWith
import Derived.Deep.Slices
import Derived.Deep.WholeRow
import Derived.DeepKeys5
import Derived.Handy
import Derived.IntWalk
import Derived.KernelRfl
import Derived.Laws.AppendOwnNone
import Derived.Laws.EntriesVeiled
import Derived.Laws.ResultCell
import Derived.Lib.AppendZerosOnto
import Derived.Lib.Hide
import Derived.Lib.QuietBelow
import Derived.Lib.SliceRun
import Derived.Lib.SmallJoins
import Derived.Lib.Walk
import Derived.LoopIn
import Derived.LoopN
import Derived.LoopNIn
import Derived.Maps.AppendAt
import Derived.Maps.Keyed
import Derived.Maps.Own
import Derived.OneCell
import Derived.OpenShut
import Derived.OrdersHeld
import Derived.OwnWalkIn
import Derived.RangeFuncBound
import Derived.RangeFuncBox
import Derived.RangeFuncCalls
import Derived.RangeFuncLeaves
import Derived.RangeFuncNested
import Derived.RegionTactic
import Derived.Shelf.Abstract
import Derived.Shelf.RegionOpen
import Derived.Shelf.SlSortCmp.InsertionK
import Derived.StillTail
import Derived.TacticsInMore
import Derived.Test.YtcblbdpdbggkbaaGreatRows
import Derived.WalkKit
import Derived.WalkLawsBesides
import Derived.WalkSmall
import Derived.WalkSpells
import Derived.Test.YtcblbdpdbggkbaaGreatSKn9
set_option maxRecDepth 100000
set_option maxHeartbeats 16000000
set_option linter.unusedVariables false
set_option linter.unusedSectionVars false
set_option linter.unusedSimpArgs false
namespace Go.Proofs.YtcblbdpdbggkbaaGreat
theorem zBk {P:Prop} (h:P:=by
 go_wp2;go_ret;exact⟨by rw[F.out];rfl,H2.out.below⟩):P:=h
theorem zBr {P:Prop} (h:P:=by
 have F:Hid (jE rs born=false):=hd_ (by unfold jE;rw[P0.out];rfl);clear hq1 hq2;go_wp2;go_ret;exact⟨by rw[F.out];rfl,rfl⟩):P:=h
theorem zBw {P:Prop} (h:P:=by
 go_wp2;go_ret;exact⟨by rw[F.out];rfl,by first|rfl|trivial⟩):P:=h
theorem zBC {P:Prop} (h:P:=by
 go_wp2;go_ret;exact⟨none,0,rfl,M.nil _ _ _ (M.start w)⟩):P:=h
theorem zBG {P:Prop} (h:P:=by
 go_wp2;go_ret;exact⟨by rw[F.out];rfl,H3.out.below⟩):P:=h
theorem zBN {P:Prop} (h:P:=by
 go_wp2;go_roundw
 case rel=>exact⟨k+1,o_,gn_,H2.out.drop,NY.out⟩
 case measure=>simp[intOf];omega):P:=h
end Go.Proofs.YtcblbdpdbggkbaaGreat
namespace Go.Proofs.YtcblbdpdbggkbaaGreat
open _root_.Go.Proofs.Tryz
open Go.RowKit Go.Sort
theorem aA4 (w:World) (V:SV) (s:Sm) (x:Option Addr) (n c:Nat) (rs:List (List Int)) (h:RdS w V s) (hu:Rws w (.slice x n c) rs):
  Calls prog 153 #[.agg #[.slice V.xr V.nr V.cr,.slice V.xf V.nf V.cf,.slice V.xt V.nt V.ct,iv s.lo,iv s.al,.slice V.xk V.nk V.ck,iv s.ka],.iface 36 (.agg #[.slice x n c])] w fun e w'=>∃y m d,e=.returned (.tuple #[.agg #[.slice y m d,.slice V.xf V.nf V.cf,.slice V.xt V.nt V.ct,iv s.lo,iv s.al,.slice V.xk V.nk V.ck,iv s.ka],.bool (kZ s.rs rs)])/\dV w' w.heap.size w'.heap.size (.slice y m d) (rP s.rs rs)/\Below w.heap.size w w':=by
 have I1:=fun w=>aMr (.agg #[.slice x n c]) w
 have hA:=((((Below.refl w.heap.size w).alloc lr_ (.cells (cS V s) 46)).alloc (by simp) (.cells #[zn,zn,zn,iv 0,iv 0,zn,iv 0] 46)).alloc (by simp;omega) (.cells #[.slice x n c] 36))
 have X:=((aR.new w 46 (.slice V.xr V.nr V.cr) (.slice V.xf V.nf V.cf) (.slice V.xt V.nt V.ct) (iv s.lo) (iv s.al) (.slice V.xk V.nk V.ck) (iv s.ka)).alloc (.cells #[zn,zn,zn,iv 0,iv 0,zn,iv 0] 46)).alloc (.cells #[.slice x n c] 36);have R:=(aR.new (w.alloc (.cells (cS V s) 46)) 46 zn zn zn (iv 0) (iv 0) zn (iv 0)).alloc (.cells #[.slice x n c] 36);rw[World.size_alloc]at R
 have D:=Go.Boxed.new ((w.alloc (.cells (cS V s) 46)).alloc (.cells #[zn,zn,zn,iv 0,iv 0,zn,iv 0] 46)) 36 (.slice x n c);rw[World.size_alloc,World.size_alloc]at D;obtain⟨ax0,ax1,ax2,ax3,ax4,ax5,ax6⟩:=(X).cells;have ad0:=(D).cell;obtain⟨W1,hW⟩:=nm_ (((w.alloc (.cells (cS V s) 46)).alloc (.cells #[zn,zn,zn,iv 0,iv 0,zn,iv 0] 46)).alloc (.cells #[.slice x n c] 36));rw[<-hW]at hA X R D
 have S:Hid (RdS W1 V s):=hd_ (h.below hA lr_);have P:=hd_ (hu.below hA lr_);have B:=hd_ hA;have SZ0:Hid (w.heap.size+2<=W1.heap.size):=by show _<=_;rw[hW];simp
 clear hA h hu;have KA:=aJY W1 (.slice V.xr V.nr V.cr) (.slice x n c) s.rs rs S.out.r P.out;obtain⟨A,hA⟩:=nm_ (rP s.rs rs);have HA:=hd_ hA;rw[<-hA]at KA;generalize kZ s.rs rs=ok at KA ⊢;clear hA;go_enter func153,ntmps153
 go_wp2_with fail
 rw[<-hW];clear hW ax0 ax1 ax2 ax3 ax4 ax5 ax6 ad0;refine (KA).mono ?_;rintro e w1 ⟨y,d,rfl,ho,hb⟩;obtain⟨m,hm⟩:=nm_ ((A).length);rw[<-hm]at ho ⊢;have Sw0:=hd_ hb.size;clear hm KA;clear S;clear P;clear D;replace X:=X.later hb;replace R:=R.later hb;replace B:=hd_ (B.out.trans (hb.mono B.out.size));have O:=hd_ (ho);clear hb;obtain⟨cx0,cx1,cx2,cx3,cx4,cx5,cx6⟩:=(X).cells
 obtain⟨cr0,cr1,cr2,cr3,cr4,cr5,cr6⟩:=(R).cells;have frx:=X.free;have frr:=R.free;clear ho;have Y:=X;replace Y:=Y.set0 (.slice y m d);obtain⟨y0,y1,y2,y3,y4,y5,y6⟩:=Y.cells;clear Y;have G1:=hd_ (aF w1 ⟨w.heap.size,0,none⟩ (.slice y m d));have BX:Hid (Below w.heap.size w ((w1.setCell ⟨w.heap.size,0,none⟩ (.slice y m d)))):=hd_ ((B.out.setCell lr_ _));have RX:=R.kept G1.out (by simp)
 have SZ:Hid (w.heap.size+2<=W1.heap.size):=SZ0;have Sw:Hid (W1.heap.size<=w1.heap.size):=Sw0;clear X R B;go_wp2;show bodyPost _ _ _ _ _ (set7 (w1.setCell ⟨w.heap.size,0,none⟩ (.slice y m d)) (w.heap.size+1) (.slice y m d) (.slice V.xf V.nf V.cf) (.slice V.xt V.nt V.ct) (iv s.lo) (iv s.al) (.slice V.xk V.nk V.ck) (iv s.ka))
 generalize (w1.setCell ⟨w.heap.size,0,none⟩ (.slice y m d))=WX at G1 BX RX ⊢;have G2:=dI WX (w.heap.size+1) (.slice y m d) (.slice V.xf V.nf V.cf) (.slice V.xt V.nt V.ct) (iv s.lo) (iv s.al) (.slice V.xk V.nk V.ck) (iv s.ka);have Y:=RX.set (.slice y m d) (.slice V.xf V.nf V.cf) (.slice V.xt V.nt V.ct) (iv s.lo) (iv s.al) (.slice V.xk V.nk V.ck) (iv s.ka)
 have BF:=bB BX.out (Nat.le_add_right _ 1) (.slice y m d) (.slice V.xf V.nf V.cf) (.slice V.xt V.nt V.ct) (iv s.lo) (iv s.al) (.slice V.xk V.nk V.ck) (iv s.ka);generalize set7 WX (w.heap.size+1) (.slice y m d) (.slice V.xf V.nf V.cf) (.slice V.xt V.nt V.ct) (iv s.lo) (iv s.al) (.slice V.xk V.nk V.ck) (iv s.ka)=WF at G2 Y BF ⊢;have s1:=SZ.out;have s2:=Sw.out;have s3:=G1.out.size
 have s4:=G2.size;have HK:dO (fun k=>k<W1.heap.size) w1 WF:=(dO.of_grown G1.out (show w.heap.size<W1.heap.size by omega)).trans (dO.of_grown G2 (show w.heap.size+1<W1.heap.size by omega));obtain⟨d0,d1,d2,d3,d4,d5,d6⟩:=Y.cells
 refine bodyPost_ret (v:=.tuple #[.agg #[.slice y m d,.slice V.xf V.nf V.cf,.slice V.xt V.nt V.ct,iv s.lo,iv s.al,.slice V.xk V.nk V.ck,iv s.ka],.bool ok]) (by simp[results,results153,go_sem,d0,d1,d2,d3,d4,d5,d6]) rfl ?_;rw[<-HA.out];exact⟨y,m,d,rfl,((O.out.keptB HK (fun k q1 _ q=>by omega)).base o_).upto o_ lr_,BF⟩
theorem aFB (w:World) (V:SV) (s:Sm) (x:Option Addr) (n c:Nat) (zs:List Int) (h:RdS w V s) (hu:dE w (.slice x n c) zs):
  Calls prog 153 #[.agg #[.slice V.xr V.nr V.cr,.slice V.xf V.nf V.cf,.slice V.xt V.nt V.ct,iv s.lo,iv s.al,.slice V.xk V.nk V.ck,iv s.ka],.iface 38 (.agg #[.slice x n c])] w fun e w'=>∃y m d,e=.returned (.tuple #[.agg #[.slice V.xr V.nr V.cr,.slice y m d,.slice V.xt V.nt V.ct,iv s.lo,iv s.al,.slice V.xk V.nk V.ck,iv s.ka],.bool (fY s.zs zs)])/\cE w' w.heap.size (.slice y m d) (mV s.zs zs)/\Below w.heap.size w w':=by
 have I1:=fun w=>(aLI (.agg #[.slice x n c]) w).1
 have I2:=fun w=>(aLI (.agg #[.slice x n c]) w).2
 have hA:=((((Below.refl w.heap.size w).alloc lr_ (.cells (cS V s) 46)).alloc (by simp) (.cells #[zn,zn,zn,iv 0,iv 0,zn,iv 0] 46)).alloc (by simp;omega) (.cells #[.slice x n c] 38))
 have X:=((aR.new w 46 (.slice V.xr V.nr V.cr) (.slice V.xf V.nf V.cf) (.slice V.xt V.nt V.ct) (iv s.lo) (iv s.al) (.slice V.xk V.nk V.ck) (iv s.ka)).alloc (.cells #[zn,zn,zn,iv 0,iv 0,zn,iv 0] 46)).alloc (.cells #[.slice x n c] 38);have R:=(aR.new (w.alloc (.cells (cS V s) 46)) 46 zn zn zn (iv 0) (iv 0) zn (iv 0)).alloc (.cells #[.slice x n c] 38);rw[World.size_alloc]at R
 have D:=Go.Boxed.new ((w.alloc (.cells (cS V s) 46)).alloc (.cells #[zn,zn,zn,iv 0,iv 0,zn,iv 0] 46)) 38 (.slice x n c);rw[World.size_alloc,World.size_alloc]at D;obtain⟨ax0,ax1,ax2,ax3,ax4,ax5,ax6⟩:=(X).cells;have ad0:=(D).cell;obtain⟨W1,hW⟩:=nm_ (((w.alloc (.cells (cS V s) 46)).alloc (.cells #[zn,zn,zn,iv 0,iv 0,zn,iv 0] 46)).alloc (.cells #[.slice x n c] 38));rw[<-hW]at hA X R D
 have S:Hid (RdS W1 V s):=hd_ (h.below hA lr_);have P:=hd_ (hu.below hA lr_);have B:=hd_ hA;have SZ0:Hid (w.heap.size+2<=W1.heap.size):=by show _<=_;rw[hW];simp
 clear hA h hu;have KA:=wU W1 (.slice V.xf V.nf V.cf) (.slice x n c) s.zs zs S.out.f P.out;obtain⟨A,hA⟩:=nm_ (mV s.zs zs);have HA:=hd_ hA;rw[<-hA]at KA;generalize fY s.zs zs=ok at KA ⊢;clear hA;go_enter func153,ntmps153
 go_wp2_with fail
 rw[<-hW];clear hW ax0 ax1 ax2 ax3 ax4 ax5 ax6 ad0;refine (KA).mono ?_;rintro e w1 ⟨v,rfl,ho,hb⟩;obtain⟨y,d,rfl⟩:=ho.form';obtain⟨m,hm⟩:=nm_ ((A).length);rw[<-hm]at ho ⊢;have Sw0:=hd_ hb.size;clear hm KA;clear S;clear P;clear D;replace X:=X.later hb;replace R:=R.later hb;replace B:=hd_ (B.out.trans (hb.mono B.out.size));have O:=hd_ (ho);clear hb;obtain⟨cx0,cx1,cx2,cx3,cx4,cx5,cx6⟩:=(X).cells
 obtain⟨cr0,cr1,cr2,cr3,cr4,cr5,cr6⟩:=(R).cells;have frx:=X.free;have frr:=R.free;clear ho;have Y:=X;replace Y:=Y.set1 (.slice y m d);obtain⟨y0,y1,y2,y3,y4,y5,y6⟩:=Y.cells;clear Y;have G1:=hd_ (aF w1 ⟨w.heap.size,1,none⟩ (.slice y m d));have BX:Hid (Below w.heap.size w ((w1.setCell ⟨w.heap.size,1,none⟩ (.slice y m d)))):=hd_ ((B.out.setCell lr_ _));have RX:=R.kept G1.out (by simp)
 have SZ:Hid (w.heap.size+2<=W1.heap.size):=SZ0;have Sw:Hid (W1.heap.size<=w1.heap.size):=Sw0;clear X R B;go_wp2;show bodyPost _ _ _ _ _ (set7 (w1.setCell ⟨w.heap.size,1,none⟩ (.slice y m d)) (w.heap.size+1) (.slice V.xr V.nr V.cr) (.slice y m d) (.slice V.xt V.nt V.ct) (iv s.lo) (iv s.al) (.slice V.xk V.nk V.ck) (iv s.ka))
 generalize (w1.setCell ⟨w.heap.size,1,none⟩ (.slice y m d))=WX at G1 BX RX ⊢;have G2:=dI WX (w.heap.size+1) (.slice V.xr V.nr V.cr) (.slice y m d) (.slice V.xt V.nt V.ct) (iv s.lo) (iv s.al) (.slice V.xk V.nk V.ck) (iv s.ka);have Y:=RX.set (.slice V.xr V.nr V.cr) (.slice y m d) (.slice V.xt V.nt V.ct) (iv s.lo) (iv s.al) (.slice V.xk V.nk V.ck) (iv s.ka)
 have BF:=bB BX.out (Nat.le_add_right _ 1) (.slice V.xr V.nr V.cr) (.slice y m d) (.slice V.xt V.nt V.ct) (iv s.lo) (iv s.al) (.slice V.xk V.nk V.ck) (iv s.ka);generalize set7 WX (w.heap.size+1) (.slice V.xr V.nr V.cr) (.slice y m d) (.slice V.xt V.nt V.ct) (iv s.lo) (iv s.al) (.slice V.xk V.nk V.ck) (iv s.ka)=WF at G2 Y BF ⊢;have s1:=SZ.out;have s2:=Sw.out;have s3:=G1.out.size
 have s4:=G2.size;have HK:dO (fun k=>k<W1.heap.size) w1 WF:=(dO.of_grown G1.out (show w.heap.size<W1.heap.size by omega)).trans (dO.of_grown G2 (show w.heap.size+1<W1.heap.size by omega));obtain⟨d0,d1,d2,d3,d4,d5,d6⟩:=Y.cells
 refine bodyPost_ret (v:=.tuple #[.agg #[.slice V.xr V.nr V.cr,.slice y m d,.slice V.xt V.nt V.ct,iv s.lo,iv s.al,.slice V.xk V.nk V.ck,iv s.ka],.bool ok]) (by simp[results,results153,go_sem,d0,d1,d2,d3,d4,d5,d6]) rfl ?_;rw[<-HA.out];exact⟨y,m,d,rfl,aU (cV O.out HK (fun k e q=>by have:=(World.ownsRow.lt O.out k e).1;omega)) o_,BF⟩
theorem aFS (w:World) (V:SV) (s:Sm) (x:Option Addr) (n c:Nat) (ps:List T.Pr) (lo al:Int) (h:RdS w V s) (hu:T.Prs w (.slice x n c) ps):
  Calls prog 153 #[.agg #[.slice V.xr V.nr V.cr,.slice V.xf V.nf V.cf,.slice V.xt V.nt V.ct,iv s.lo,iv s.al,.slice V.xk V.nk V.ck,iv s.ka],.iface 41 (.agg #[.slice x n c,iv lo,iv al])] w fun e w'=>∃y m d,e=.returned (.tuple #[.agg #[.slice V.xr V.nr V.cr,.slice V.xf V.nf V.cf,.slice y m d,.int .i64 (T.jY s.ps s.lo s.al ps lo al).2.1,.int .i64 (T.jY s.ps s.lo s.al ps lo al).2.2,.slice V.xk V.nk V.ck,iv s.ka],.bool (T.iV s.ps s.lo s.al ps lo al)])/\T.aJ w' w.heap.size (.slice y m d) (T.jY s.ps s.lo s.al ps lo al).1/\Below w.heap.size w w':=by
 have I1:=fun w=>(aKr (.agg #[.slice x n c,iv lo,iv al]) w).1
 have I2:=fun w=>(aKr (.agg #[.slice x n c,iv lo,iv al]) w).2.1
 have I3:=fun w=>(aKr (.agg #[.slice x n c,iv lo,iv al]) w).2.2
 have hA:=((((Below.refl w.heap.size w).alloc lr_ (.cells (cS V s) 46)).alloc (by simp) (.cells #[zn,zn,zn,iv 0,iv 0,zn,iv 0] 46)).alloc (by simp;omega) (.cells #[.slice x n c,iv lo,iv al] 41))
 have X:=((aR.new w 46 (.slice V.xr V.nr V.cr) (.slice V.xf V.nf V.cf) (.slice V.xt V.nt V.ct) (iv s.lo) (iv s.al) (.slice V.xk V.nk V.ck) (iv s.ka)).alloc (.cells #[zn,zn,zn,iv 0,iv 0,zn,iv 0] 46)).alloc (.cells #[.slice x n c,iv lo,iv al] 41);have R:=(aR.new (w.alloc (.cells (cS V s) 46)) 46 zn zn zn (iv 0) (iv 0) zn (iv 0)).alloc (.cells #[.slice x n c,iv lo,iv al] 41)
 rw[World.size_alloc]at R;have D:=T.cD.new ((w.alloc (.cells (cS V s) 46)).alloc (.cells #[zn,zn,zn,iv 0,iv 0,zn,iv 0] 46)) 41 (.slice x n c) (iv lo) (iv al);rw[World.size_alloc,World.size_alloc]at D;obtain⟨ax0,ax1,ax2,ax3,ax4,ax5,ax6⟩:=(X).cells;have ad0:=(D).cell0;have ad1:=(D).cell1;have ad2:=(D).cell2
 obtain⟨W1,hW⟩:=nm_ (((w.alloc (.cells (cS V s) 46)).alloc (.cells #[zn,zn,zn,iv 0,iv 0,zn,iv 0] 46)).alloc (.cells #[.slice x n c,iv lo,iv al] 41));rw[<-hW]at hA X R D;have S:Hid (RdS W1 V s):=hd_ (h.below hA lr_);have P:=hd_ (hu.below hA lr_);have B:=hd_ hA;have SZ0:Hid (w.heap.size+2<=W1.heap.size):=by show _<=_;rw[hW];simp
 clear hA h hu;have KA:=T.vI W1 (.slice V.xt V.nt V.ct) (.slice x n c) s.ps ps s.lo s.al lo al S.out.t P.out;generalize T.jY s.ps s.lo s.al ps lo al=A at KA ⊢;generalize T.iV s.ps s.lo s.al ps lo al=ok at KA ⊢;go_enter func153,ntmps153
 go_wp2_with fail
 rw[<-hW];clear hW ax0 ax1 ax2 ax3 ax4 ax5 ax6 ad0 ad1 ad2;refine (KA).mono ?_;rintro e w1 ⟨v,rfl,ho,hb⟩;obtain⟨y,d,rfl⟩:=ho.form';obtain⟨m,hm⟩:=nm_ ((A.1).length);rw[<-hm]at ho ⊢;have Sw0:=hd_ hb.size;clear hm KA;clear S;clear P;clear D;replace X:=X.later hb;replace R:=R.later hb;replace B:=hd_ (B.out.trans (hb.mono B.out.size));have O:=hd_ (ho);clear hb
 obtain⟨cx0,cx1,cx2,cx3,cx4,cx5,cx6⟩:=(X).cells;obtain⟨cr0,cr1,cr2,cr3,cr4,cr5,cr6⟩:=(R).cells;have frx:=X.free;have frr:=R.free;clear ho;have Y:=X;replace Y:=Y.set2 (.slice y m d);replace Y:=Y.set3 (iv A.2.1);replace Y:=Y.set4 (iv A.2.2);obtain⟨y0,y1,y2,y3,y4,y5,y6⟩:=Y.cells;clear Y
 have G1:=hd_ (bC (bC (aF w1 ⟨w.heap.size,2,none⟩ (.slice y m d)) (aF _ ⟨w.heap.size,3,none⟩ (iv A.2.1))) (aF _ ⟨w.heap.size,4,none⟩ (iv A.2.2)))
 have BX:Hid (Below w.heap.size w ((((w1.setCell ⟨w.heap.size,2,none⟩ (.slice y m d)).setCell ⟨w.heap.size,3,none⟩ (iv A.2.1)).setCell ⟨w.heap.size,4,none⟩ (iv A.2.2)))):=hd_ ((((B.out.setCell lr_ _).setCell lr_ _).setCell lr_ _));have RX:=R.kept G1.out (by simp);have SZ:Hid (w.heap.size+2<=W1.heap.size):=SZ0;have Sw:Hid (W1.heap.size<=w1.heap.size):=Sw0;clear X R B;go_wp2
 show bodyPost _ _ _ _ _ (set7 (((w1.setCell ⟨w.heap.size,2,none⟩ (.slice y m d)).setCell ⟨w.heap.size,3,none⟩ (iv A.2.1)).setCell ⟨w.heap.size,4,none⟩ (iv A.2.2)) (w.heap.size+1) (.slice V.xr V.nr V.cr) (.slice V.xf V.nf V.cf) (.slice y m d) (iv A.2.1) (iv A.2.2) (.slice V.xk V.nk V.ck) (iv s.ka))
 generalize (((w1.setCell ⟨w.heap.size,2,none⟩ (.slice y m d)).setCell ⟨w.heap.size,3,none⟩ (iv A.2.1)).setCell ⟨w.heap.size,4,none⟩ (iv A.2.2))=WX at G1 BX RX ⊢;have G2:=dI WX (w.heap.size+1) (.slice V.xr V.nr V.cr) (.slice V.xf V.nf V.cf) (.slice y m d) (iv A.2.1) (iv A.2.2) (.slice V.xk V.nk V.ck) (iv s.ka)
 have Y:=RX.set (.slice V.xr V.nr V.cr) (.slice V.xf V.nf V.cf) (.slice y m d) (iv A.2.1) (iv A.2.2) (.slice V.xk V.nk V.ck) (iv s.ka);have BF:=bB BX.out (Nat.le_add_right _ 1) (.slice V.xr V.nr V.cr) (.slice V.xf V.nf V.cf) (.slice y m d) (iv A.2.1) (iv A.2.2) (.slice V.xk V.nk V.ck) (iv s.ka)
 generalize set7 WX (w.heap.size+1) (.slice V.xr V.nr V.cr) (.slice V.xf V.nf V.cf) (.slice y m d) (iv A.2.1) (iv A.2.2) (.slice V.xk V.nk V.ck) (iv s.ka)=WF at G2 Y BF ⊢;have s1:=SZ.out;have s2:=Sw.out;have s3:=G1.out.size;have s4:=G2.size
 have HK:dO (fun k=>k<W1.heap.size) w1 WF:=(dO.of_grown G1.out (show w.heap.size<W1.heap.size by omega)).trans (dO.of_grown G2 (show w.heap.size+1<W1.heap.size by omega));obtain⟨d0,d1,d2,d3,d4,d5,d6⟩:=Y.cells
 refine bodyPost_ret (v:=.tuple #[.agg #[.slice V.xr V.nr V.cr,.slice V.xf V.nf V.cf,.slice y m d,iv A.2.1,iv A.2.2,.slice V.xk V.nk V.ck,iv s.ka],.bool ok]) (by simp[results,results153,go_sem,d0,d1,d2,d3,d4,d5,d6]) rfl ?_;exact⟨y,m,d,rfl,aU (cV O.out HK (fun k e q=>by have:=(World.ownsRow.lt O.out k e).1;omega)) o_,BF⟩
theorem aGk (w:World) (V:SV) (s:Sm) (x:Option Addr) (n c:Nat) (ps:List K.Pr) (al:Int) (h:RdS w V s) (hu:K.Prs w (.slice x n c) ps):
  Calls prog 153 #[.agg #[.slice V.xr V.nr V.cr,.slice V.xf V.nf V.cf,.slice V.xt V.nt V.ct,iv s.lo,iv s.al,.slice V.xk V.nk V.ck,iv s.ka],.iface 44 (.agg #[.slice x n c,iv al])] w fun e w'=>∃y m d,e=.returned (.tuple #[.agg #[.slice V.xr V.nr V.cr,.slice V.xf V.nf V.cf,.slice V.xt V.nt V.ct,iv s.lo,iv s.al,.slice y m d,.int .i64 (K.jD s.ks s.ka ps al).2],.bool (K.dZ s.ks s.ka ps al)])/\K.aJ w' w.heap.size (.slice y m d) (K.jD s.ks s.ka ps al).1/\Below w.heap.size w w':=by
 have I1:=fun w=>(aGp (.agg #[.slice x n c,iv al]) w).1
 have I2:=fun w=>(aGp (.agg #[.slice x n c,iv al]) w).2.1
 have I3:=fun w=>(aGp (.agg #[.slice x n c,iv al]) w).2.2.1
 have I4:=fun w=>(aGp (.agg #[.slice x n c,iv al]) w).2.2.2
 have hA:=((((Below.refl w.heap.size w).alloc lr_ (.cells (cS V s) 46)).alloc (by simp) (.cells #[zn,zn,zn,iv 0,iv 0,zn,iv 0] 46)).alloc (by simp;omega) (.cells #[.slice x n c,iv al] 44))
 have X:=((aR.new w 46 (.slice V.xr V.nr V.cr) (.slice V.xf V.nf V.cf) (.slice V.xt V.nt V.ct) (iv s.lo) (iv s.al) (.slice V.xk V.nk V.ck) (iv s.ka)).alloc (.cells #[zn,zn,zn,iv 0,iv 0,zn,iv 0] 46)).alloc (.cells #[.slice x n c,iv al] 44);have R:=(aR.new (w.alloc (.cells (cS V s) 46)) 46 zn zn zn (iv 0) (iv 0) zn (iv 0)).alloc (.cells #[.slice x n c,iv al] 44);rw[World.size_alloc]at R
 have D:=K.bD.new ((w.alloc (.cells (cS V s) 46)).alloc (.cells #[zn,zn,zn,iv 0,iv 0,zn,iv 0] 46)) 44 (.slice x n c) (iv al);rw[World.size_alloc,World.size_alloc]at D;obtain⟨ax0,ax1,ax2,ax3,ax4,ax5,ax6⟩:=(X).cells;have ad0:=(D).cell0;have ad1:=(D).cell1;obtain⟨W1,hW⟩:=nm_ (((w.alloc (.cells (cS V s) 46)).alloc (.cells #[zn,zn,zn,iv 0,iv 0,zn,iv 0] 46)).alloc (.cells #[.slice x n c,iv al] 44))
 rw[<-hW]at hA X R D;have S:Hid (RdS W1 V s):=hd_ (h.below hA lr_);have P:=hd_ (hu.below hA lr_);have B:=hd_ hA;have SZ0:Hid (w.heap.size+2<=W1.heap.size):=by show _<=_;rw[hW];simp
 clear hA h hu;have KA:=K.uG W1 (.slice V.xk V.nk V.ck) (.slice x n c) s.ks s.ka ps al S.out.k P.out;generalize K.jD s.ks s.ka ps al=A at KA ⊢;generalize K.dZ s.ks s.ka ps al=ok at KA ⊢;go_enter func153,ntmps153
 go_wp2_with fail
 rw[<-hW];clear hW ax0 ax1 ax2 ax3 ax4 ax5 ax6 ad0 ad1;refine (KA).mono ?_;rintro e w1 ⟨v,rfl,ho,hb⟩;obtain⟨y,d,rfl⟩:=ho.form';obtain⟨m,hm⟩:=nm_ ((A.1).length);rw[<-hm]at ho ⊢;have Sw0:=hd_ hb.size;clear hm KA;clear S;clear P;clear D;replace X:=X.later hb;replace R:=R.later hb;replace B:=hd_ (B.out.trans (hb.mono B.out.size));have O:=hd_ (ho);clear hb;obtain⟨cx0,cx1,cx2,cx3,cx4,cx5,cx6⟩:=(X).cells
 obtain⟨cr0,cr1,cr2,cr3,cr4,cr5,cr6⟩:=(R).cells;have frx:=X.free;have frr:=R.free;clear ho;have Y:=X;replace Y:=Y.set5 (.slice y m d);replace Y:=Y.set6 (iv A.2);obtain⟨y0,y1,y2,y3,y4,y5,y6⟩:=Y.cells;clear Y;have G1:=hd_ (bC (aF w1 ⟨w.heap.size,5,none⟩ (.slice y m d)) (aF _ ⟨w.heap.size,6,none⟩ (iv A.2)))
 have BX:Hid (Below w.heap.size w (((w1.setCell ⟨w.heap.size,5,none⟩ (.slice y m d)).setCell ⟨w.heap.size,6,none⟩ (iv A.2)))):=hd_ (((B.out.setCell lr_ _).setCell lr_ _));have RX:=R.kept G1.out (by simp);have SZ:Hid (w.heap.size+2<=W1.heap.size):=SZ0;have Sw:Hid (W1.heap.size<=w1.heap.size):=Sw0;clear X R B;go_wp2
 show bodyPost _ _ _ _ _ (set7 ((w1.setCell ⟨w.heap.size,5,none⟩ (.slice y m d)).setCell ⟨w.heap.size,6,none⟩ (iv A.2)) (w.heap.size+1) (.slice V.xr V.nr V.cr) (.slice V.xf V.nf V.cf) (.slice V.xt V.nt V.ct) (iv s.lo) (iv s.al) (.slice y m d) (iv A.2))
 generalize ((w1.setCell ⟨w.heap.size,5,none⟩ (.slice y m d)).setCell ⟨w.heap.size,6,none⟩ (iv A.2))=WX at G1 BX RX ⊢;have G2:=dI WX (w.heap.size+1) (.slice V.xr V.nr V.cr) (.slice V.xf V.nf V.cf) (.slice V.xt V.nt V.ct) (iv s.lo) (iv s.al) (.slice y m d) (iv A.2)
 have Y:=RX.set (.slice V.xr V.nr V.cr) (.slice V.xf V.nf V.cf) (.slice V.xt V.nt V.ct) (iv s.lo) (iv s.al) (.slice y m d) (iv A.2);have BF:=bB BX.out (Nat.le_add_right _ 1) (.slice V.xr V.nr V.cr) (.slice V.xf V.nf V.cf) (.slice V.xt V.nt V.ct) (iv s.lo) (iv s.al) (.slice y m d) (iv A.2)
 generalize set7 WX (w.heap.size+1) (.slice V.xr V.nr V.cr) (.slice V.xf V.nf V.cf) (.slice V.xt V.nt V.ct) (iv s.lo) (iv s.al) (.slice y m d) (iv A.2)=WF at G2 Y BF ⊢;have s1:=SZ.out;have s2:=Sw.out;have s3:=G1.out.size;have s4:=G2.size
 have HK:dO (fun k=>k<W1.heap.size) w1 WF:=(dO.of_grown G1.out (show w.heap.size<W1.heap.size by omega)).trans (dO.of_grown G2 (show w.heap.size+1<W1.heap.size by omega));obtain⟨d0,d1,d2,d3,d4,d5,d6⟩:=Y.cells
 refine bodyPost_ret (v:=.tuple #[.agg #[.slice V.xr V.nr V.cr,.slice V.xf V.nf V.cf,.slice V.xt V.nt V.ct,iv s.lo,iv s.al,.slice y m d,iv A.2],.bool ok]) (by simp[results,results153,go_sem,d0,d1,d2,d3,d4,d5,d6]) rfl ?_;exact⟨y,m,d,rfl,aU (cV O.out HK (fun k e q=>by have:=(World.ownsRow.lt O.out k e).1;omega)) o_,BF⟩
theorem aBS (w:World) (V1 V2:SV) (a b:Sm) (h1:RdS w V1 a) (h2:RdS w V2 b) (okA:okS a=false):
  Calls prog 78 #[.agg #[.slice V1.xr V1.nr V1.cr,.slice V1.xf V1.nf V1.cf,.slice V1.xt V1.nt V1.ct,iv a.lo,iv a.al,.slice V1.xk V1.nk V1.ck,iv a.ka],.agg #[.slice V2.xr V2.nr V2.cr,.slice V2.xf V2.nf V2.cf,.slice V2.xt V2.nt V2.ct,iv b.lo,iv b.al,.slice V2.xk V2.nk V2.ck,iv b.ka]] w fun e w'=>∃U,e=.returned (.tuple #[.agg #[.slice U.xr U.nr U.cr,.slice U.xf U.nf U.cf,.slice U.xt U.nt U.ct,.int .i64 (gW a b).lo,.int .i64 (gW a b).al,.slice U.xk U.nk U.ck,.int .i64 (gW a b).ka],.bool (dT a b)])/\bN w' w.heap.size w'.heap.size U (gW a b)/\Below w.heap.size w w':=by
 have hno:dT a b=false:=by unfold dT;rw[okA];rfl
 have hA:=(((Below.refl w.heap.size w).alloc lr_ (.cells (cS V1 a) 46)).alloc (by simp) (.cells (cS V2 b) 46)).alloc (by simp;omega) (.cells #[zn,zn,zn,iv 0,iv 0,zn,iv 0] 46)
 have XA:=((aR.new w 46 (.slice V1.xr V1.nr V1.cr) (.slice V1.xf V1.nf V1.cf) (.slice V1.xt V1.nt V1.ct) (iv a.lo) (iv a.al) (.slice V1.xk V1.nk V1.ck) (iv a.ka)).alloc (.cells (cS V2 b) 46)).alloc (.cells #[zn,zn,zn,iv 0,iv 0,zn,iv 0] 46)
 have XB:=(aR.new (w.alloc (.cells (cS V1 a) 46)) 46 (.slice V2.xr V2.nr V2.cr) (.slice V2.xf V2.nf V2.cf) (.slice V2.xt V2.nt V2.ct) (iv b.lo) (iv b.al) (.slice V2.xk V2.nk V2.ck) (iv b.ka)).alloc (.cells #[zn,zn,zn,iv 0,iv 0,zn,iv 0] 46);rw[World.size_alloc]at XB;have R:=aR.new ((w.alloc (.cells (cS V1 a) 46)).alloc (.cells (cS V2 b) 46)) 46 zn zn zn (iv 0) (iv 0) zn (iv 0)
 rw[World.size_alloc,World.size_alloc]at R;obtain⟨axa0,axa1,axa2,axa3,axa4,axa5,axa6⟩:=(XA).cells;obtain⟨W0,hW⟩:=nm_ (((w.alloc (.cells (cS V1 a) 46)).alloc (.cells (cS V2 b) 46)).alloc (.cells #[zn,zn,zn,iv 0,iv 0,zn,iv 0] 46));rw[<-hW]at hA XA XB R;have B:=hd_ hA;have H1:=hd_ h1;have H2:=hd_ h2;have SZ:Hid (W0.heap.size=w.heap.size+3):=by show _=_;rw[hW];simp
 clear hA h1 h2;have K1:=jR W0 V1 a (H1.out.below B.out lr_);rw[okA]at K1;go_enter func78,ntmps78
 go_wp2_with fail
 rw[<-hW];clear hW axa0 axa1 axa2 axa3 axa4 axa5 axa6;refine (K1).mono ?_;rintro e w1 ⟨rfl,hb⟩;clear K1;have SZ1:=hd_ hb.size;replace XA:=XA.later hb;replace XB:=XB.later hb;replace R:=R.later hb;replace B:=hd_ (B.out.trans (hb.mono B.out.size));clear hb;obtain⟨cr0,cr1,cr2,cr3,cr4,cr5,cr6⟩:=(R).cells;have frr:=R.free;have fin:=R.set zn zn zn (iv 0) (iv 0) zn (iv 0)
 have OF:=bN.box7 (bN.none _ _ _ B.out.size lr_) R zn zn zn (iv 0) (iv 0) zn (iv 0);have BF:=bB B.out (show w.heap.size<=w.heap.size+1+1 by omega) zn zn zn (iv 0) (iv 0) zn (iv 0);have SF:=cT w1 (w.heap.size+1+1) zn zn zn (iv 0) (iv 0) zn (iv 0);have HF:=hd_ (And.intro (bN.base OF lr_ (Nat.le_of_eq SF.symm) lr_) BF);have HY:=hd_ fin;clear fin OF BF SF;go_wp2
 show bodyPost _ _ _ _ _ (set7 w1 (w.heap.size+1+1) zn zn zn (iv 0) (iv 0) zn (iv 0))
 obtain⟨d0,d1,d2,d3,d4,d5,d6⟩:=HY.out.cells;generalize set7 w1 (w.heap.size+1+1) zn zn zn (iv 0) (iv 0) zn (iv 0)=WF at HF d0 d1 d2 d3 d4 d5 d6 ⊢;refine bodyPost_ret (v:=.tuple #[.agg #[zn,zn,zn,iv 0,iv 0,zn,iv 0],.bool false]) (by simp[results,results78,go_sem,d0,d1,d2,d3,d4,d5,d6]) rfl ?_;rw[wV hno,hno];exact⟨SV.none,rfl,HF.out⟩
theorem aBy (w:World) (V1 V2:SV) (a b:Sm) (h1:RdS w V1 a) (h2:RdS w V2 b) (okA:okS a=true) (okB':okS b=false):
  Calls prog 78 #[.agg #[.slice V1.xr V1.nr V1.cr,.slice V1.xf V1.nf V1.cf,.slice V1.xt V1.nt V1.ct,iv a.lo,iv a.al,.slice V1.xk V1.nk V1.ck,iv a.ka],.agg #[.slice V2.xr V2.nr V2.cr,.slice V2.xf V2.nf V2.cf,.slice V2.xt V2.nt V2.ct,iv b.lo,iv b.al,.slice V2.xk V2.nk V2.ck,iv b.ka]] w fun e w'=>∃U,e=.returned (.tuple #[.agg #[.slice U.xr U.nr U.cr,.slice U.xf U.nf U.cf,.slice U.xt U.nt U.ct,.int .i64 (gW a b).lo,.int .i64 (gW a b).al,.slice U.xk U.nk U.ck,.int .i64 (gW a b).ka],.bool (dT a b)])/\bN w' w.heap.size w'.heap.size U (gW a b)/\Below w.heap.size w w':=by
 have hno:dT a b=false:=by unfold dT;rw[okB'];cases okS a<;>rfl
 have hA:=(((Below.refl w.heap.size w).alloc lr_ (.cells (cS V1 a) 46)).alloc (by simp) (.cells (cS V2 b) 46)).alloc (by simp;omega) (.cells #[zn,zn,zn,iv 0,iv 0,zn,iv 0] 46)
 have XA:=((aR.new w 46 (.slice V1.xr V1.nr V1.cr) (.slice V1.xf V1.nf V1.cf) (.slice V1.xt V1.nt V1.ct) (iv a.lo) (iv a.al) (.slice V1.xk V1.nk V1.ck) (iv a.ka)).alloc (.cells (cS V2 b) 46)).alloc (.cells #[zn,zn,zn,iv 0,iv 0,zn,iv 0] 46)
 have XB:=(aR.new (w.alloc (.cells (cS V1 a) 46)) 46 (.slice V2.xr V2.nr V2.cr) (.slice V2.xf V2.nf V2.cf) (.slice V2.xt V2.nt V2.ct) (iv b.lo) (iv b.al) (.slice V2.xk V2.nk V2.ck) (iv b.ka)).alloc (.cells #[zn,zn,zn,iv 0,iv 0,zn,iv 0] 46);rw[World.size_alloc]at XB;have R:=aR.new ((w.alloc (.cells (cS V1 a) 46)).alloc (.cells (cS V2 b) 46)) 46 zn zn zn (iv 0) (iv 0) zn (iv 0)
 rw[World.size_alloc,World.size_alloc]at R;obtain⟨axa0,axa1,axa2,axa3,axa4,axa5,axa6⟩:=(XA).cells;obtain⟨W0,hW⟩:=nm_ (((w.alloc (.cells (cS V1 a) 46)).alloc (.cells (cS V2 b) 46)).alloc (.cells #[zn,zn,zn,iv 0,iv 0,zn,iv 0] 46));rw[<-hW]at hA XA XB R;have B:=hd_ hA;have H1:=hd_ h1;have H2:=hd_ h2;have SZ:Hid (W0.heap.size=w.heap.size+3):=by show _=_;rw[hW];simp
 clear hA h1 h2;have K1:=jR W0 V1 a (H1.out.below B.out lr_);rw[okA]at K1;go_enter func78,ntmps78
 go_wp2_with fail
 rw[<-hW];clear hW axa0 axa1 axa2 axa3 axa4 axa5 axa6;refine (K1).mono ?_;rintro e w1 ⟨rfl,hb⟩;clear K1;have SZ1:=hd_ hb.size;replace XA:=XA.later hb;replace XB:=XB.later hb;replace R:=R.later hb;replace B:=hd_ (B.out.trans (hb.mono B.out.size));clear hb;obtain⟨cxb0,cxb1,cxb2,cxb3,cxb4,cxb5,cxb6⟩:=(XB).cells;have frr:=R.free;have K1:=jR w1 V2 b (H2.out.below B.out lr_);rw[okB']at K1
 go_wp2_with fail
 refine (K1).mono ?_;rintro e w2 ⟨rfl,hb⟩;clear K1;clear cxb0 cxb1 cxb2 cxb3 cxb4 cxb5 cxb6 frr;replace XA:=XA.later hb;replace XB:=XB.later hb;replace R:=R.later hb;replace B:=hd_ (B.out.trans (hb.mono B.out.size));clear hb;obtain⟨cr0,cr1,cr2,cr3,cr4,cr5,cr6⟩:=(R).cells;have frr:=R.free;have fin:=R.set zn zn zn (iv 0) (iv 0) zn (iv 0)
 have OF:=bN.box7 (bN.none _ _ _ B.out.size lr_) R zn zn zn (iv 0) (iv 0) zn (iv 0);have BF:=bB B.out (show w.heap.size<=w.heap.size+1+1 by omega) zn zn zn (iv 0) (iv 0) zn (iv 0);have SF:=cT w2 (w.heap.size+1+1) zn zn zn (iv 0) (iv 0) zn (iv 0);have HF:=hd_ (And.intro (bN.base OF lr_ (Nat.le_of_eq SF.symm) lr_) BF);have HY:=hd_ fin;clear fin OF BF SF;go_wp2
 show bodyPost _ _ _ _ _ (set7 w2 (w.heap.size+1+1) zn zn zn (iv 0) (iv 0) zn (iv 0))
 obtain⟨d0,d1,d2,d3,d4,d5,d6⟩:=HY.out.cells;generalize set7 w2 (w.heap.size+1+1) zn zn zn (iv 0) (iv 0) zn (iv 0)=WF at HF d0 d1 d2 d3 d4 d5 d6 ⊢;refine bodyPost_ret (v:=.tuple #[.agg #[zn,zn,zn,iv 0,iv 0,zn,iv 0],.bool false]) (by simp[results,results78,go_sem,d0,d1,d2,d3,d4,d5,d6]) rfl ?_;rw[wV hno,hno];exact⟨SV.none,rfl,HF.out⟩
theorem aAr (w:World) (V1 V2:SV) (a b:Sm) (h1:RdS w V1 a) (h2:RdS w V2 b) (okA:okS a=true) (okB':okS b=true) (hs:¬a.al+b.al<=2000):
  Calls prog 78 #[.agg #[.slice V1.xr V1.nr V1.cr,.slice V1.xf V1.nf V1.cf,.slice V1.xt V1.nt V1.ct,iv a.lo,iv a.al,.slice V1.xk V1.nk V1.ck,iv a.ka],.agg #[.slice V2.xr V2.nr V2.cr,.slice V2.xf V2.nf V2.cf,.slice V2.xt V2.nt V2.ct,iv b.lo,iv b.al,.slice V2.xk V2.nk V2.ck,iv b.ka]] w fun e w'=>∃U,e=.returned (.tuple #[.agg #[.slice U.xr U.nr U.cr,.slice U.xf U.nf U.cf,.slice U.xt U.nt U.ct,.int .i64 (gW a b).lo,.int .i64 (gW a b).al,.slice U.xk U.nk U.ck,.int .i64 (gW a b).ka],.bool (dT a b)])/\bN w' w.heap.size w'.heap.size U (gW a b)/\Below w.heap.size w w':=by
 have hno:dT a b=false:=by unfold dT;rw[okA,okB',decide_eq_false hs];rfl
 have hj:kZ a.rs b.rs=false:=by
  cases q:kZ a.rs b.rs with
  |false=>rfl
  |true=>have:=(nG _ _).1 q;have:=((eZ _).1 okA).ra;have:=((eZ _).1 okB').ra;omega
 have hA:=(((Below.refl w.heap.size w).alloc lr_ (.cells (cS V1 a) 46)).alloc (by simp) (.cells (cS V2 b) 46)).alloc (by simp;omega) (.cells #[zn,zn,zn,iv 0,iv 0,zn,iv 0] 46)
 have XA:=((aR.new w 46 (.slice V1.xr V1.nr V1.cr) (.slice V1.xf V1.nf V1.cf) (.slice V1.xt V1.nt V1.ct) (iv a.lo) (iv a.al) (.slice V1.xk V1.nk V1.ck) (iv a.ka)).alloc (.cells (cS V2 b) 46)).alloc (.cells #[zn,zn,zn,iv 0,iv 0,zn,iv 0] 46)
 have XB:=(aR.new (w.alloc (.cells (cS V1 a) 46)) 46 (.slice V2.xr V2.nr V2.cr) (.slice V2.xf V2.nf V2.cf) (.slice V2.xt V2.nt V2.ct) (iv b.lo) (iv b.al) (.slice V2.xk V2.nk V2.ck) (iv b.ka)).alloc (.cells #[zn,zn,zn,iv 0,iv 0,zn,iv 0] 46);rw[World.size_alloc]at XB;have R:=aR.new ((w.alloc (.cells (cS V1 a) 46)).alloc (.cells (cS V2 b) 46)) 46 zn zn zn (iv 0) (iv 0) zn (iv 0)
 rw[World.size_alloc,World.size_alloc]at R;obtain⟨axa0,axa1,axa2,axa3,axa4,axa5,axa6⟩:=(XA).cells;obtain⟨W0,hW⟩:=nm_ (((w.alloc (.cells (cS V1 a) 46)).alloc (.cells (cS V2 b) 46)).alloc (.cells #[zn,zn,zn,iv 0,iv 0,zn,iv 0] 46));rw[<-hW]at hA XA XB R;have B:=hd_ hA;have H1:=hd_ h1;have H2:=hd_ h2;have SZ:Hid (W0.heap.size=w.heap.size+3):=by show _=_;rw[hW];simp
 clear hA h1 h2;have K1:=jR W0 V1 a (H1.out.below B.out lr_);rw[okA]at K1;go_enter func78,ntmps78
 go_wp2_with fail
 rw[<-hW];clear hW axa0 axa1 axa2 axa3 axa4 axa5 axa6;refine (K1).mono ?_;rintro e w1 ⟨rfl,hb⟩;clear K1;have SZ1:=hd_ hb.size;replace XA:=XA.later hb;replace XB:=XB.later hb;replace R:=R.later hb;replace B:=hd_ (B.out.trans (hb.mono B.out.size));clear hb;obtain⟨cxb0,cxb1,cxb2,cxb3,cxb4,cxb5,cxb6⟩:=(XB).cells;have frr:=R.free;have K1:=jR w1 V2 b (H2.out.below B.out lr_);rw[okB']at K1
 go_wp2_with fail
 refine (K1).mono ?_;rintro e w2 ⟨rfl,hb⟩;clear K1;have SZ2:=hd_ (Nat.le_trans (Nat.le_of_eq SZ.out.symm) (Nat.le_trans SZ1.out hb.size));clear cxb0 cxb1 cxb2 cxb3 cxb4 cxb5 cxb6 frr;replace XA:=XA.later hb;replace XB:=XB.later hb;replace R:=R.later hb;replace B:=hd_ (B.out.trans (hb.mono B.out.size));clear hb;obtain⟨cxa0,cxa1,cxa2,cxa3,cxa4,cxa5,cxa6⟩:=(XA).cells
 obtain⟨cxb0,cxb1,cxb2,cxb3,cxb4,cxb5,cxb6⟩:=(XB).cells;have hA:=B.out.alloc B.out.size (.cells (cS V1 a) 46);have X6:=aR.new w2 46 (.slice V1.xr V1.nr V1.cr) (.slice V1.xf V1.nf V1.cf) (.slice V1.xt V1.nt V1.ct) (iv a.lo) (iv a.al) (.slice V1.xk V1.nk V1.ck) (iv a.ka);obtain⟨W2,hW⟩:=nm_ (w2.alloc (.cells (cS V1 a) 46));have hsz:=B.out.size;have L6:=hd_ hsz;have S6:=hd_ SZ2.out;clear hsz
 replace XA:=XA.alloc (.cells (cS V1 a) 46);replace XB:=XB.alloc (.cells (cS V1 a) 46);replace R:=R.alloc (.cells (cS V1 a) 46);obtain⟨bxb0,bxb1,bxb2,bxb3,bxb4,bxb5,bxb6⟩:=(XB).cells;rw[<-hW]at hA X6 XA XB R;replace B:=hd_ hA;clear hA;have IW:=fun w=>yN (aBH V2) (aBN V2) (aBF V2 b) (aBA V2 b) w
 unfold aBH aBN aBF aBA at IW;have I1:=fun w=>(IW w).1
 have I2:=fun w=>(IW w).2.1
 have I3:=fun w=>(IW w).2.2.1
 have I4:=fun w=>(IW w).2.2.2
 clear IW;have K1:=xO W2 V2 b;unfold aBH aBN aBF aBA at K1
 go_wp2_with fail
 rw[<-hW];clear hW bxb0 bxb1 bxb2 bxb3 bxb4 bxb5 bxb6;clear cxa0 cxa1 cxa2 cxa3 cxa4 cxa5 cxa6 cxb0 cxb1 cxb2 cxb3 cxb4 cxb5 cxb6;refine (K1).mono ?_;rintro e w3 ⟨rfl,hb⟩;clear K1;replace XA:=XA.later hb;replace XB:=XB.later hb;replace R:=R.later hb;replace B:=hd_ (B.out.trans (hb.mono B.out.size));replace X6:=X6.later hb;clear hb;obtain⟨cx60,cx61,cx62,cx63,cx64,cx65,cx66⟩:=(X6).cells;clear XB
 go_wp2;refine wp_loop_rounds 5 ?_;rw[rounds_succ];have K1:=aA4 w3 V1 a V2.xr V2.nr V2.cr b.rs (H1.out.below B.out lr_) (H2.out.below B.out lr_).r;rw[hj]at K1
 go_wp2_with fail
 refine (K1).mono ?_;rintro e w4 ⟨y,m,d,rfl,ho,hb⟩;clear K1 ho;clear XA;clear X6;clear cx60 cx61 cx62 cx63 cx64 cx65 cx66;replace R:=R.later hb;replace B:=hd_ (B.out.trans (hb.mono B.out.size));clear hb;obtain⟨W4,hW⟩:=nm_ (w4.alloc (.cells #[.slice y m d,.slice V1.xf V1.nf V1.cf,.slice V1.xt V1.nt V1.ct,iv a.lo,iv a.al,.slice V1.xk V1.nk V1.ck,iv a.ka] 46))
 obtain⟨ar0,ar1,ar2,ar3,ar4,ar5,ar6⟩:=((R.alloc (.cells #[.slice y m d,.slice V1.xf V1.nf V1.cf,.slice V1.xt V1.nt V1.ct,iv a.lo,iv a.al,.slice V1.xk V1.nk V1.ck,iv a.ka] 46))).cells;have frr:=(R.alloc (.cells #[.slice y m d,.slice V1.xf V1.nf V1.cf,.slice V1.xt V1.nt V1.ct,iv a.lo,iv a.al,.slice V1.xk V1.nk V1.ck,iv a.ka] 46)).free
 replace R:=R.alloc (.cells #[.slice y m d,.slice V1.xf V1.nf V1.cf,.slice V1.xt V1.nt V1.ct,iv a.lo,iv a.al,.slice V1.xk V1.nk V1.ck,iv a.ka] 46);rw[<-hW]at R;replace B:=hd_ ((B.out).alloc (Nat.le_trans B.out.size (by simp)) (.cells #[.slice y m d,.slice V1.xf V1.nf V1.cf,.slice V1.xt V1.nt V1.ct,iv a.lo,iv a.al,.slice V1.xk V1.nk V1.ck,iv a.ka] 46));rw[<-hW]at B
 have X9:=aR.new w4 46 (.slice y m d) (.slice V1.xf V1.nf V1.cf) (.slice V1.xt V1.nt V1.ct) (iv a.lo) (iv a.al) (.slice V1.xk V1.nk V1.ck) (iv a.ka);rw[<-hW]at X9;have fin:=R.set zn zn zn (iv 0) (iv 0) zn (iv 0);have OF:=bN.box7 (bN.none _ _ _ B.out.size lr_) R zn zn zn (iv 0) (iv 0) zn (iv 0)
 have BF:=bB B.out (show w.heap.size<=w.heap.size+1+1 by omega) zn zn zn (iv 0) (iv 0) zn (iv 0);have SF:=cT W4 (w.heap.size+1+1) zn zn zn (iv 0) (iv 0) zn (iv 0);have HF:=hd_ (And.intro (bN.base OF lr_ (Nat.le_of_eq SF.symm) lr_) BF);have HY:=hd_ fin;clear fin OF BF SF;go_wp2;rw[<-hW];clear hW ar0 ar1 ar2 ar3 ar4 ar5 ar6 frr
 show bodyPost _ _ _ _ _ (set7 W4 (w.heap.size+1+1) zn zn zn (iv 0) (iv 0) zn (iv 0))
 obtain⟨d0,d1,d2,d3,d4,d5,d6⟩:=HY.out.cells;generalize set7 W4 (w.heap.size+1+1) zn zn zn (iv 0) (iv 0) zn (iv 0)=WF at HF d0 d1 d2 d3 d4 d5 d6 ⊢;refine bodyPost_ret (v:=.tuple #[.agg #[zn,zn,zn,iv 0,iv 0,zn,iv 0],.bool false]) (by simp[results,results78,go_sem,d0,d1,d2,d3,d4,d5,d6]) rfl ?_;rw[wV hno,hno];exact⟨SV.none,rfl,HF.out⟩
theorem aBt (w:World) (V1 V2:SV) (a b:Sm) (h1:RdS w V1 a) (h2:RdS w V2 b) (hok:dT a b=true):
  Calls prog 78 #[.agg #[.slice V1.xr V1.nr V1.cr,.slice V1.xf V1.nf V1.cf,.slice V1.xt V1.nt V1.ct,iv a.lo,iv a.al,.slice V1.xk V1.nk V1.ck,iv a.ka],.agg #[.slice V2.xr V2.nr V2.cr,.slice V2.xf V2.nf V2.cf,.slice V2.xt V2.nt V2.ct,iv b.lo,iv b.al,.slice V2.xk V2.nk V2.ck,iv b.ka]] w fun e w'=>∃U,e=.returned (.tuple #[.agg #[.slice U.xr U.nr U.cr,.slice U.xf U.nf U.cf,.slice U.xt U.nt U.ct,.int .i64 (gW a b).lo,.int .i64 (gW a b).al,.slice U.xk U.nk U.ck,.int .i64 (gW a b).ka],.bool (dT a b)])/\bN w' w.heap.size w'.heap.size U (gW a b)/\Below w.heap.size w w':=by
 have okA:=(eZ _).2 (tK hok).oka;have okB':=(eZ _).2 (tK hok).okb;have jr:=(tK hok).r;have jf:=(tK hok).f;have jt:=(tK hok).t;have jk:=(tK hok).k;have JA:=hd_ (aHP jr);have HOK:=hd_ hok;clear hok
 have hA:=(((Below.refl w.heap.size w).alloc lr_ (.cells (cS V1 a) 46)).alloc (by simp) (.cells (cS V2 b) 46)).alloc (by simp;omega) (.cells #[zn,zn,zn,iv 0,iv 0,zn,iv 0] 46)
 have XA:=((aR.new w 46 (.slice V1.xr V1.nr V1.cr) (.slice V1.xf V1.nf V1.cf) (.slice V1.xt V1.nt V1.ct) (iv a.lo) (iv a.al) (.slice V1.xk V1.nk V1.ck) (iv a.ka)).alloc (.cells (cS V2 b) 46)).alloc (.cells #[zn,zn,zn,iv 0,iv 0,zn,iv 0] 46)
 have XB:=(aR.new (w.alloc (.cells (cS V1 a) 46)) 46 (.slice V2.xr V2.nr V2.cr) (.slice V2.xf V2.nf V2.cf) (.slice V2.xt V2.nt V2.ct) (iv b.lo) (iv b.al) (.slice V2.xk V2.nk V2.ck) (iv b.ka)).alloc (.cells #[zn,zn,zn,iv 0,iv 0,zn,iv 0] 46);rw[World.size_alloc]at XB;have R:=aR.new ((w.alloc (.cells (cS V1 a) 46)).alloc (.cells (cS V2 b) 46)) 46 zn zn zn (iv 0) (iv 0) zn (iv 0)
 rw[World.size_alloc,World.size_alloc]at R;obtain⟨axa0,axa1,axa2,axa3,axa4,axa5,axa6⟩:=(XA).cells;obtain⟨W0,hW⟩:=nm_ (((w.alloc (.cells (cS V1 a) 46)).alloc (.cells (cS V2 b) 46)).alloc (.cells #[zn,zn,zn,iv 0,iv 0,zn,iv 0] 46));rw[<-hW]at hA XA XB R;have B:=hd_ hA;have H1:=hd_ h1;have H2:=hd_ h2;have SZ:Hid (W0.heap.size=w.heap.size+3):=by show _=_;rw[hW];simp
 clear hA h1 h2;have K1:=jR W0 V1 a (H1.out.below B.out lr_);rw[okA]at K1;go_enter func78,ntmps78
 go_wp2_with fail
 rw[<-hW];clear hW axa0 axa1 axa2 axa3 axa4 axa5 axa6;refine (K1).mono ?_;rintro e w1 ⟨rfl,hb⟩;clear K1;have SZ1:=hd_ hb.size;replace XA:=XA.later hb;replace XB:=XB.later hb;replace R:=R.later hb;replace B:=hd_ (B.out.trans (hb.mono B.out.size));clear hb;obtain⟨cxb0,cxb1,cxb2,cxb3,cxb4,cxb5,cxb6⟩:=(XB).cells;have frr:=R.free;have K1:=jR w1 V2 b (H2.out.below B.out lr_);rw[okB']at K1
 go_wp2_with fail
 refine (K1).mono ?_;rintro e w2 ⟨rfl,hb⟩;clear K1;have SZ2:=hd_ (Nat.le_trans (Nat.le_of_eq SZ.out.symm) (Nat.le_trans SZ1.out hb.size));clear cxb0 cxb1 cxb2 cxb3 cxb4 cxb5 cxb6 frr;replace XA:=XA.later hb;replace XB:=XB.later hb;replace R:=R.later hb;replace B:=hd_ (B.out.trans (hb.mono B.out.size));clear hb;obtain⟨cxa0,cxa1,cxa2,cxa3,cxa4,cxa5,cxa6⟩:=(XA).cells
 obtain⟨cxb0,cxb1,cxb2,cxb3,cxb4,cxb5,cxb6⟩:=(XB).cells;have hA:=B.out.alloc B.out.size (.cells (cS V1 a) 46);have X6:=aR.new w2 46 (.slice V1.xr V1.nr V1.cr) (.slice V1.xf V1.nf V1.cf) (.slice V1.xt V1.nt V1.ct) (iv a.lo) (iv a.al) (.slice V1.xk V1.nk V1.ck) (iv a.ka);obtain⟨W2,hW⟩:=nm_ (w2.alloc (.cells (cS V1 a) 46));have hsz:=B.out.size;have L6:=hd_ hsz;have S6:=hd_ SZ2.out;clear hsz
 replace XA:=XA.alloc (.cells (cS V1 a) 46);replace XB:=XB.alloc (.cells (cS V1 a) 46);replace R:=R.alloc (.cells (cS V1 a) 46);obtain⟨bxb0,bxb1,bxb2,bxb3,bxb4,bxb5,bxb6⟩:=(XB).cells;rw[<-hW]at hA X6 XA XB R;replace B:=hd_ hA;clear hA;have IW:=fun w=>yN (aBH V2) (aBN V2) (aBF V2 b) (aBA V2 b) w
 unfold aBH aBN aBF aBA at IW;have I1:=fun w=>(IW w).1
 have I2:=fun w=>(IW w).2.1
 have I3:=fun w=>(IW w).2.2.1
 have I4:=fun w=>(IW w).2.2.2
 clear IW;have K1:=xO W2 V2 b;unfold aBH aBN aBF aBA at K1
 go_wp2_with fail
 rw[<-hW];clear hW bxb0 bxb1 bxb2 bxb3 bxb4 bxb5 bxb6;clear cxa0 cxa1 cxa2 cxa3 cxa4 cxa5 cxa6 cxb0 cxb1 cxb2 cxb3 cxb4 cxb5 cxb6;refine (K1).mono ?_;rintro e w3 ⟨rfl,hb⟩;clear K1;replace XA:=XA.later hb;replace XB:=XB.later hb;replace R:=R.later hb;replace B:=hd_ (B.out.trans (hb.mono B.out.size));replace X6:=X6.later hb;clear hb;obtain⟨cx60,cx61,cx62,cx63,cx64,cx65,cx66⟩:=(X6).cells;clear XB
 go_wp2;refine wp_loop_rounds 5 ?_;rw[rounds_succ];clear XA;have Q:=H1.out.below B.out lr_;have K1:=aA4 w3 ⟨V1.xr,V1.nr,V1.cr,V1.xf,V1.nf,V1.cf,V1.xt,V1.nt,V1.ct,V1.xk,V1.nk,V1.ck⟩ ⟨a.rs,a.zs,a.ps,a.lo,a.al,a.ks,a.ka⟩ V2.xr V2.nr V2.cr b.rs ⟨Q.r,Q.f,Q.t,Q.k⟩ (H2.out.below B.out lr_).r;simp only at K1;rw[jr]at K1;clear Q
 go_wp2_with fail
 refine (K1).mono ?_;rintro e w4 ⟨y0,m0,d0',rfl,ho,hb⟩;clear K1;have M0:=hd_ B.out.size;have N0:=hd_ hb.size;have q6:=S6.out;clear cx60 cx61 cx62 cx63 cx64 cx65 cx66;replace R:=R.later hb;replace B:=hd_ (B.out.trans (hb.mono B.out.size));replace X6:=X6.later hb;have O0:=hd_ (ho);clear hb
 obtain⟨W4,hW⟩:=nm_ (set7 (w4.alloc (.cells #[.slice y0 m0 d0',.slice V1.xf V1.nf V1.cf,.slice V1.xt V1.nt V1.ct,iv (a.lo),iv (a.al),.slice V1.xk V1.nk V1.ck,iv (a.ka)] 46)) w2.heap.size (.slice y0 m0 d0') (.slice V1.xf V1.nf V1.cf) (.slice V1.xt V1.nt V1.ct) (iv (a.lo)) (iv (a.al)) (.slice V1.xk V1.nk V1.ck) (iv (a.ka)))
 obtain⟨ax60,ax61,ax62,ax63,ax64,ax65,ax66⟩:=((X6.alloc (.cells #[.slice y0 m0 d0',.slice V1.xf V1.nf V1.cf,.slice V1.xt V1.nt V1.ct,iv (a.lo),iv (a.al),.slice V1.xk V1.nk V1.ck,iv (a.ka)] 46))).cells;have frx6:=(X6.alloc (.cells #[.slice y0 m0 d0',.slice V1.xf V1.nf V1.cf,.slice V1.xt V1.nt V1.ct,iv (a.lo),iv (a.al),.slice V1.xk V1.nk V1.ck,iv (a.ka)] 46)).free
 replace R:=R.alloc (.cells #[.slice y0 m0 d0',.slice V1.xf V1.nf V1.cf,.slice V1.xt V1.nt V1.ct,iv (a.lo),iv (a.al),.slice V1.xk V1.nk V1.ck,iv (a.ka)] 46);replace B:=hd_ ((B.out).alloc (Nat.le_trans B.out.size (by simp)) (.cells #[.slice y0 m0 d0',.slice V1.xf V1.nf V1.cf,.slice V1.xt V1.nt V1.ct,iv (a.lo),iv (a.al),.slice V1.xk V1.nk V1.ck,iv (a.ka)] 46))
 replace X6:=X6.alloc (.cells #[.slice y0 m0 d0',.slice V1.xf V1.nf V1.cf,.slice V1.xt V1.nt V1.ct,iv (a.lo),iv (a.al),.slice V1.xk V1.nk V1.ck,iv (a.ka)] 46);replace O0:=hd_ (O0.out.alloc (.cells #[.slice y0 m0 d0',.slice V1.xf V1.nf V1.cf,.slice V1.xt V1.nt V1.ct,iv (a.lo),iv (a.al),.slice V1.xk V1.nk V1.ck,iv (a.ka)] 46))
 replace R:=R.kept (dI _ w2.heap.size (.slice y0 m0 d0') (.slice V1.xf V1.nf V1.cf) (.slice V1.xt V1.nt V1.ct) (iv (a.lo)) (iv (a.al)) (.slice V1.xk V1.nk V1.ck) (iv (a.ka))) (by simp;omega);replace B:=hd_ (bB B.out L6.out (.slice y0 m0 d0') (.slice V1.xf V1.nf V1.cf) (.slice V1.xt V1.nt V1.ct) (iv (a.lo)) (iv (a.al)) (.slice V1.xk V1.nk V1.ck) (iv (a.ka)))
 replace O0:=hd_ (O0.out.box7 X6 (.slice y0 m0 d0') (.slice V1.xf V1.nf V1.cf) (.slice V1.xt V1.nt V1.ct) (iv (a.lo)) (iv (a.al)) (.slice V1.xk V1.nk V1.ck) (iv (a.ka)));replace X6:=X6.set (.slice y0 m0 d0') (.slice V1.xf V1.nf V1.cf) (.slice V1.xt V1.nt V1.ct) (iv (a.lo)) (iv (a.al)) (.slice V1.xk V1.nk V1.ck) (iv (a.ka));rw[<-hW]at R;rw[<-hW]at B;rw[<-hW]at X6;rw[<-hW]at O0;unfold set7 at hW
 go_wp2_with fail
 rw[<-hW];clear hW ax60 ax61 ax62 ax63 ax64 ax65 ax66 frx6;clear ho q6;rw[rounds_succ];obtain⟨cx60,cx61,cx62,cx63,cx64,cx65,cx66⟩:=(X6).cells;have Q:=H1.out.below B.out lr_;have K1:=aFB W4 ⟨y0,m0,d0',V1.xf,V1.nf,V1.cf,V1.xt,V1.nt,V1.ct,V1.xk,V1.nk,V1.ck⟩ ⟨rP a.rs b.rs,a.zs,a.ps,a.lo,a.al,a.ks,a.ka⟩ V2.xf V2.nf V2.cf b.zs ⟨O0.out.rd,Q.f,Q.t,Q.k⟩ (H2.out.below B.out lr_).f;simp only at K1
 rw[jf]at K1;clear Q
 go_wp2_with fail
 refine (K1).mono ?_;rintro e w5 ⟨y1,m1,d1',rfl,ho,hb⟩;clear K1;have M1:=hd_ B.out.size;have N1:=hd_ hb.size;have q6:=S6.out;have T1:=hd_ (show w4.heap.size<=W4.heap.size from Nat.le_trans (O0.out.top) lr_);clear cx60 cx61 cx62 cx63 cx64 cx65 cx66;replace R:=R.later hb;replace B:=hd_ (B.out.trans (hb.mono B.out.size));replace X6:=X6.later hb;replace O0:=hd_ (O0.out.below hb);have O1:=hd_ (ho)
 clear hb;obtain⟨W5,hW⟩:=nm_ (set7 (w5.alloc (.cells #[.slice y0 m0 d0',.slice y1 m1 d1',.slice V1.xt V1.nt V1.ct,iv (a.lo),iv (a.al),.slice V1.xk V1.nk V1.ck,iv (a.ka)] 46)) w2.heap.size (.slice y0 m0 d0') (.slice y1 m1 d1') (.slice V1.xt V1.nt V1.ct) (iv (a.lo)) (iv (a.al)) (.slice V1.xk V1.nk V1.ck) (iv (a.ka)))
 obtain⟨ax60,ax61,ax62,ax63,ax64,ax65,ax66⟩:=((X6.alloc (.cells #[.slice y0 m0 d0',.slice y1 m1 d1',.slice V1.xt V1.nt V1.ct,iv (a.lo),iv (a.al),.slice V1.xk V1.nk V1.ck,iv (a.ka)] 46))).cells;have frx6:=(X6.alloc (.cells #[.slice y0 m0 d0',.slice y1 m1 d1',.slice V1.xt V1.nt V1.ct,iv (a.lo),iv (a.al),.slice V1.xk V1.nk V1.ck,iv (a.ka)] 46)).free
 replace R:=R.alloc (.cells #[.slice y0 m0 d0',.slice y1 m1 d1',.slice V1.xt V1.nt V1.ct,iv (a.lo),iv (a.al),.slice V1.xk V1.nk V1.ck,iv (a.ka)] 46);replace B:=hd_ ((B.out).alloc (Nat.le_trans B.out.size (by simp)) (.cells #[.slice y0 m0 d0',.slice y1 m1 d1',.slice V1.xt V1.nt V1.ct,iv (a.lo),iv (a.al),.slice V1.xk V1.nk V1.ck,iv (a.ka)] 46))
 replace X6:=X6.alloc (.cells #[.slice y0 m0 d0',.slice y1 m1 d1',.slice V1.xt V1.nt V1.ct,iv (a.lo),iv (a.al),.slice V1.xk V1.nk V1.ck,iv (a.ka)] 46);replace O0:=hd_ (O0.out.alloc (.cells #[.slice y0 m0 d0',.slice y1 m1 d1',.slice V1.xt V1.nt V1.ct,iv (a.lo),iv (a.al),.slice V1.xk V1.nk V1.ck,iv (a.ka)] 46))
 replace O1:=hd_ (O1.out.alloc (.cells #[.slice y0 m0 d0',.slice y1 m1 d1',.slice V1.xt V1.nt V1.ct,iv (a.lo),iv (a.al),.slice V1.xk V1.nk V1.ck,iv (a.ka)] 46));replace R:=R.kept (dI _ w2.heap.size (.slice y0 m0 d0') (.slice y1 m1 d1') (.slice V1.xt V1.nt V1.ct) (iv (a.lo)) (iv (a.al)) (.slice V1.xk V1.nk V1.ck) (iv (a.ka))) (by simp;omega)
 replace B:=hd_ (bB B.out L6.out (.slice y0 m0 d0') (.slice y1 m1 d1') (.slice V1.xt V1.nt V1.ct) (iv (a.lo)) (iv (a.al)) (.slice V1.xk V1.nk V1.ck) (iv (a.ka)));replace O0:=hd_ (O0.out.box7 X6 (.slice y0 m0 d0') (.slice y1 m1 d1') (.slice V1.xt V1.nt V1.ct) (iv (a.lo)) (iv (a.al)) (.slice V1.xk V1.nk V1.ck) (iv (a.ka)))
 replace O1:=hd_ (O1.out.box7 X6 (.slice y0 m0 d0') (.slice y1 m1 d1') (.slice V1.xt V1.nt V1.ct) (iv (a.lo)) (iv (a.al)) (.slice V1.xk V1.nk V1.ck) (iv (a.ka)));replace X6:=X6.set (.slice y0 m0 d0') (.slice y1 m1 d1') (.slice V1.xt V1.nt V1.ct) (iv (a.lo)) (iv (a.al)) (.slice V1.xk V1.nk V1.ck) (iv (a.ka));rw[<-hW]at R;rw[<-hW]at B;rw[<-hW]at X6;rw[<-hW]at O0;rw[<-hW]at O1;unfold set7 at hW
 go_wp2_with fail
 rw[<-hW];clear hW ax60 ax61 ax62 ax63 ax64 ax65 ax66 frx6;clear ho q6;rw[rounds_succ];obtain⟨cx60,cx61,cx62,cx63,cx64,cx65,cx66⟩:=(X6).cells;have Q:=H1.out.below B.out lr_
 have K1:=aFS W5 ⟨y0,m0,d0',y1,m1,d1',V1.xt,V1.nt,V1.ct,V1.xk,V1.nk,V1.ck⟩ ⟨rP a.rs b.rs,mV a.zs b.zs,a.ps,a.lo,a.al,a.ks,a.ka⟩ V2.xt V2.nt V2.ct b.ps b.lo b.al ⟨O0.out.rd,O1.out.rd,Q.t,Q.k⟩ (H2.out.below B.out lr_).t;simp only at K1;rw[jt]at K1;clear Q;generalize hgjT:T.jY a.ps a.lo a.al b.ps b.lo b.al=jT at K1;have HGjT:=hd_ hgjT;clear hgjT
 go_wp2_with fail
 refine (K1).mono ?_;rintro e w6 ⟨y2,m2,d2',rfl,ho,hb⟩;clear K1;have M2:=hd_ B.out.size;have N2:=hd_ hb.size;have q6:=S6.out;clear cx60 cx61 cx62 cx63 cx64 cx65 cx66;replace R:=R.later hb;replace B:=hd_ (B.out.trans (hb.mono B.out.size));replace X6:=X6.later hb;replace O0:=hd_ (O0.out.below hb);replace O1:=hd_ (O1.out.below hb);have O2:=hd_ (ho);clear hb
 obtain⟨W6,hW⟩:=nm_ (set7 (w6.alloc (.cells #[.slice y0 m0 d0',.slice y1 m1 d1',.slice y2 m2 d2',iv (jT.2.1),iv (jT.2.2),.slice V1.xk V1.nk V1.ck,iv (a.ka)] 46)) w2.heap.size (.slice y0 m0 d0') (.slice y1 m1 d1') (.slice y2 m2 d2') (iv (jT.2.1)) (iv (jT.2.2)) (.slice V1.xk V1.nk V1.ck) (iv (a.ka)))
 obtain⟨ax60,ax61,ax62,ax63,ax64,ax65,ax66⟩:=((X6.alloc (.cells #[.slice y0 m0 d0',.slice y1 m1 d1',.slice y2 m2 d2',iv (jT.2.1),iv (jT.2.2),.slice V1.xk V1.nk V1.ck,iv (a.ka)] 46))).cells;have frx6:=(X6.alloc (.cells #[.slice y0 m0 d0',.slice y1 m1 d1',.slice y2 m2 d2',iv (jT.2.1),iv (jT.2.2),.slice V1.xk V1.nk V1.ck,iv (a.ka)] 46)).free
 replace R:=R.alloc (.cells #[.slice y0 m0 d0',.slice y1 m1 d1',.slice y2 m2 d2',iv (jT.2.1),iv (jT.2.2),.slice V1.xk V1.nk V1.ck,iv (a.ka)] 46);replace B:=hd_ ((B.out).alloc (Nat.le_trans B.out.size (by simp)) (.cells #[.slice y0 m0 d0',.slice y1 m1 d1',.slice y2 m2 d2',iv (jT.2.1),iv (jT.2.2),.slice V1.xk V1.nk V1.ck,iv (a.ka)] 46))
 replace X6:=X6.alloc (.cells #[.slice y0 m0 d0',.slice y1 m1 d1',.slice y2 m2 d2',iv (jT.2.1),iv (jT.2.2),.slice V1.xk V1.nk V1.ck,iv (a.ka)] 46);replace O0:=hd_ (O0.out.alloc (.cells #[.slice y0 m0 d0',.slice y1 m1 d1',.slice y2 m2 d2',iv (jT.2.1),iv (jT.2.2),.slice V1.xk V1.nk V1.ck,iv (a.ka)] 46))
 replace O1:=hd_ (O1.out.alloc (.cells #[.slice y0 m0 d0',.slice y1 m1 d1',.slice y2 m2 d2',iv (jT.2.1),iv (jT.2.2),.slice V1.xk V1.nk V1.ck,iv (a.ka)] 46));replace O2:=hd_ (O2.out.alloc (.cells #[.slice y0 m0 d0',.slice y1 m1 d1',.slice y2 m2 d2',iv (jT.2.1),iv (jT.2.2),.slice V1.xk V1.nk V1.ck,iv (a.ka)] 46))
 replace R:=R.kept (dI _ w2.heap.size (.slice y0 m0 d0') (.slice y1 m1 d1') (.slice y2 m2 d2') (iv (jT.2.1)) (iv (jT.2.2)) (.slice V1.xk V1.nk V1.ck) (iv (a.ka))) (by simp;omega);replace B:=hd_ (bB B.out L6.out (.slice y0 m0 d0') (.slice y1 m1 d1') (.slice y2 m2 d2') (iv (jT.2.1)) (iv (jT.2.2)) (.slice V1.xk V1.nk V1.ck) (iv (a.ka)))
 replace O0:=hd_ (O0.out.box7 X6 (.slice y0 m0 d0') (.slice y1 m1 d1') (.slice y2 m2 d2') (iv (jT.2.1)) (iv (jT.2.2)) (.slice V1.xk V1.nk V1.ck) (iv (a.ka)));replace O1:=hd_ (O1.out.box7 X6 (.slice y0 m0 d0') (.slice y1 m1 d1') (.slice y2 m2 d2') (iv (jT.2.1)) (iv (jT.2.2)) (.slice V1.xk V1.nk V1.ck) (iv (a.ka)))
 replace O2:=hd_ (O2.out.box7 X6 (.slice y0 m0 d0') (.slice y1 m1 d1') (.slice y2 m2 d2') (iv (jT.2.1)) (iv (jT.2.2)) (.slice V1.xk V1.nk V1.ck) (iv (a.ka)));replace X6:=X6.set (.slice y0 m0 d0') (.slice y1 m1 d1') (.slice y2 m2 d2') (iv (jT.2.1)) (iv (jT.2.2)) (.slice V1.xk V1.nk V1.ck) (iv (a.ka));rw[<-hW]at R;rw[<-hW]at B;rw[<-hW]at X6;rw[<-hW]at O0;rw[<-hW]at O1;rw[<-hW]at O2;unfold set7 at hW
 go_wp2_with fail
 rw[<-hW];clear hW ax60 ax61 ax62 ax63 ax64 ax65 ax66 frx6;clear ho q6;rw[rounds_succ];obtain⟨cx60,cx61,cx62,cx63,cx64,cx65,cx66⟩:=(X6).cells;have Q:=H1.out.below B.out lr_;have K1:=aGk W6 ⟨y0,m0,d0',y1,m1,d1',y2,m2,d2',V1.xk,V1.nk,V1.ck⟩ ⟨rP a.rs b.rs,mV a.zs b.zs,jT.1,jT.2.1,jT.2.2,a.ks,a.ka⟩ V2.xk V2.nk V2.ck b.ks b.ka ⟨O0.out.rd,O1.out.rd,O2.out.rd,Q.k⟩ (H2.out.below B.out lr_).k
 simp only at K1;rw[jk]at K1;clear Q;generalize hgjK:K.jD a.ks a.ka b.ks b.ka=jK at K1;have HGjK:=hd_ hgjK;clear hgjK
 go_wp2_with fail
 refine (K1).mono ?_;rintro e w7 ⟨y3,m3,d3',rfl,ho,hb⟩;clear K1;have M3:=hd_ B.out.size;have N3:=hd_ hb.size;have q6:=S6.out;clear cx60 cx61 cx62 cx63 cx64 cx65 cx66;replace R:=R.later hb;replace B:=hd_ (B.out.trans (hb.mono B.out.size));replace X6:=X6.later hb;replace O0:=hd_ (O0.out.below hb);replace O1:=hd_ (O1.out.below hb);replace O2:=hd_ (O2.out.below hb);have O3:=hd_ (ho);clear hb
 obtain⟨W7,hW⟩:=nm_ (set7 (w7.alloc (.cells #[.slice y0 m0 d0',.slice y1 m1 d1',.slice y2 m2 d2',iv (jT.2.1),iv (jT.2.2),.slice y3 m3 d3',iv (jK.2)] 46)) w2.heap.size (.slice y0 m0 d0') (.slice y1 m1 d1') (.slice y2 m2 d2') (iv (jT.2.1)) (iv (jT.2.2)) (.slice y3 m3 d3') (iv (jK.2)))
 obtain⟨ax60,ax61,ax62,ax63,ax64,ax65,ax66⟩:=((X6.alloc (.cells #[.slice y0 m0 d0',.slice y1 m1 d1',.slice y2 m2 d2',iv (jT.2.1),iv (jT.2.2),.slice y3 m3 d3',iv (jK.2)] 46))).cells;have frx6:=(X6.alloc (.cells #[.slice y0 m0 d0',.slice y1 m1 d1',.slice y2 m2 d2',iv (jT.2.1),iv (jT.2.2),.slice y3 m3 d3',iv (jK.2)] 46)).free
 replace R:=R.alloc (.cells #[.slice y0 m0 d0',.slice y1 m1 d1',.slice y2 m2 d2',iv (jT.2.1),iv (jT.2.2),.slice y3 m3 d3',iv (jK.2)] 46);replace B:=hd_ ((B.out).alloc (Nat.le_trans B.out.size (by simp)) (.cells #[.slice y0 m0 d0',.slice y1 m1 d1',.slice y2 m2 d2',iv (jT.2.1),iv (jT.2.2),.slice y3 m3 d3',iv (jK.2)] 46))
 replace X6:=X6.alloc (.cells #[.slice y0 m0 d0',.slice y1 m1 d1',.slice y2 m2 d2',iv (jT.2.1),iv (jT.2.2),.slice y3 m3 d3',iv (jK.2)] 46);replace O0:=hd_ (O0.out.alloc (.cells #[.slice y0 m0 d0',.slice y1 m1 d1',.slice y2 m2 d2',iv (jT.2.1),iv (jT.2.2),.slice y3 m3 d3',iv (jK.2)] 46))
 replace O1:=hd_ (O1.out.alloc (.cells #[.slice y0 m0 d0',.slice y1 m1 d1',.slice y2 m2 d2',iv (jT.2.1),iv (jT.2.2),.slice y3 m3 d3',iv (jK.2)] 46));replace O2:=hd_ (O2.out.alloc (.cells #[.slice y0 m0 d0',.slice y1 m1 d1',.slice y2 m2 d2',iv (jT.2.1),iv (jT.2.2),.slice y3 m3 d3',iv (jK.2)] 46))
 replace O3:=hd_ (O3.out.alloc (.cells #[.slice y0 m0 d0',.slice y1 m1 d1',.slice y2 m2 d2',iv (jT.2.1),iv (jT.2.2),.slice y3 m3 d3',iv (jK.2)] 46));replace R:=R.kept (dI _ w2.heap.size (.slice y0 m0 d0') (.slice y1 m1 d1') (.slice y2 m2 d2') (iv (jT.2.1)) (iv (jT.2.2)) (.slice y3 m3 d3') (iv (jK.2))) (by simp;omega)
 replace B:=hd_ (bB B.out L6.out (.slice y0 m0 d0') (.slice y1 m1 d1') (.slice y2 m2 d2') (iv (jT.2.1)) (iv (jT.2.2)) (.slice y3 m3 d3') (iv (jK.2)));replace O0:=hd_ (O0.out.box7 X6 (.slice y0 m0 d0') (.slice y1 m1 d1') (.slice y2 m2 d2') (iv (jT.2.1)) (iv (jT.2.2)) (.slice y3 m3 d3') (iv (jK.2)))
 replace O1:=hd_ (O1.out.box7 X6 (.slice y0 m0 d0') (.slice y1 m1 d1') (.slice y2 m2 d2') (iv (jT.2.1)) (iv (jT.2.2)) (.slice y3 m3 d3') (iv (jK.2)));replace O2:=hd_ (O2.out.box7 X6 (.slice y0 m0 d0') (.slice y1 m1 d1') (.slice y2 m2 d2') (iv (jT.2.1)) (iv (jT.2.2)) (.slice y3 m3 d3') (iv (jK.2)))
 replace O3:=hd_ (O3.out.box7 X6 (.slice y0 m0 d0') (.slice y1 m1 d1') (.slice y2 m2 d2') (iv (jT.2.1)) (iv (jT.2.2)) (.slice y3 m3 d3') (iv (jK.2)));replace X6:=X6.set (.slice y0 m0 d0') (.slice y1 m1 d1') (.slice y2 m2 d2') (iv (jT.2.1)) (iv (jT.2.2)) (.slice y3 m3 d3') (iv (jK.2));rw[<-hW]at R;rw[<-hW]at B;rw[<-hW]at X6;rw[<-hW]at O0;rw[<-hW]at O1;rw[<-hW]at O2;rw[<-hW]at O3;unfold set7 at hW
 go_wp2_with fail
 rw[<-hW];clear hW ax60 ax61 ax62 ax63 ax64 ax65 ax66 frx6;clear ho q6;rw[rounds_succ];obtain⟨cx60,cx61,cx62,cx63,cx64,cx65,cx66⟩:=(X6).cells;obtain⟨cr0,cr1,cr2,cr3,cr4,cr5,cr6⟩:=(R).cells;have frr:=R.free;have EJ:=hd_ (show gW a b=⟨rP a.rs b.rs,mV a.zs b.zs,jT.1,jT.2.1,jT.2.2,jK.1,jK.2⟩ by rw[aCA HOK.out,JA.out];unfold aCY;rw[HGjT.out,HGjK.out])
 have fin:=R.set (.slice y0 m0 d0') (.slice y1 m1 d1') (.slice y2 m2 d2') (iv (jT.2.1)) (iv (jT.2.2)) (.slice y3 m3 d3') (iv (jK.2))
 have OF:=bN.box7 (bN.make (V:=⟨y0,m0,d0',y1,m1,d1',y2,m2,d2',y3,m3,d3'⟩) (s:=⟨rP a.rs b.rs,mV a.zs b.zs,jT.1,jT.2.1,jT.2.2,jK.1,jK.2⟩) O0.out O1.out O2.out O3.out M0.out (Nat.le_trans M0.out N0.out) T1.out M2.out M3.out) R (.slice y0 m0 d0') (.slice y1 m1 d1') (.slice y2 m2 d2') (iv (jT.2.1)) (iv (jT.2.2)) (.slice y3 m3 d3') (iv (jK.2))
 have BF:=bB B.out (show w.heap.size<=w.heap.size+1+1 by omega) (.slice y0 m0 d0') (.slice y1 m1 d1') (.slice y2 m2 d2') (iv (jT.2.1)) (iv (jT.2.2)) (.slice y3 m3 d3') (iv (jK.2));have SF:=cT W7 (w.heap.size+1+1) (.slice y0 m0 d0') (.slice y1 m1 d1') (.slice y2 m2 d2') (iv (jT.2.1)) (iv (jT.2.2)) (.slice y3 m3 d3') (iv (jK.2))
 have HF:=hd_ (And.intro (bN.base OF lr_ (Nat.le_of_eq SF.symm) lr_) BF);have HY:=hd_ fin;clear fin OF BF SF;go_wp2;show bodyPost _ _ _ _ _ (set7 W7 (w.heap.size+1+1) (.slice y0 m0 d0') (.slice y1 m1 d1') (.slice y2 m2 d2') (iv (jT.2.1)) (iv (jT.2.2)) (.slice y3 m3 d3') (iv (jK.2)))
 obtain⟨d0,d1,d2,d3,d4,d5,d6⟩:=HY.out.cells;generalize set7 W7 (w.heap.size+1+1) (.slice y0 m0 d0') (.slice y1 m1 d1') (.slice y2 m2 d2') (iv (jT.2.1)) (iv (jT.2.2)) (.slice y3 m3 d3') (iv (jK.2))=WF at HF d0 d1 d2 d3 d4 d5 d6 ⊢
 refine bodyPost_ret (v:=.tuple #[.agg #[.slice y0 m0 d0',.slice y1 m1 d1',.slice y2 m2 d2',iv (jT.2.1),iv (jT.2.2),.slice y3 m3 d3',iv (jK.2)],.bool true]) (by simp[results,results78,go_sem,d0,d1,d2,d3,d4,d5,d6]) rfl ?_;rw[EJ.out,HOK.out];exact⟨⟨y0,m0,d0',y1,m1,d1',y2,m2,d2',y3,m3,d3'⟩,rfl,HF.out⟩
theorem aDf (w:World) (V1 V2:SV) (a b:Sm) (h1:RdS w V1 a) (h2:RdS w V2 b):
  Calls prog 78 #[.agg #[.slice V1.xr V1.nr V1.cr,.slice V1.xf V1.nf V1.cf,.slice V1.xt V1.nt V1.ct,iv a.lo,iv a.al,.slice V1.xk V1.nk V1.ck,iv a.ka],.agg #[.slice V2.xr V2.nr V2.cr,.slice V2.xf V2.nf V2.cf,.slice V2.xt V2.nt V2.ct,iv b.lo,iv b.al,.slice V2.xk V2.nk V2.ck,iv b.ka]] w fun e w'=>∃U,e=.returned (.tuple #[.agg #[.slice U.xr U.nr U.cr,.slice U.xf U.nf U.cf,.slice U.xt U.nt U.ct,.int .i64 (gW a b).lo,.int .i64 (gW a b).al,.slice U.xk U.nk U.ck,.int .i64 (gW a b).ka],.bool (dT a b)])/\bN w' w.heap.size w'.heap.size U (gW a b)/\Below w.heap.size w w':=by
 cases okA:okS a with
 |false=>exact aBS w V1 V2 a b h1 h2 okA
 |true=>
  cases okB:okS b with
  |false=>exact aBy w V1 V2 a b h1 h2 okA okB
  |true=>
   by_cases hs:a.al+b.al<=2000
   ·exact aBt w V1 V2 a b h1 h2 ((zC a b).2 ⟨(eZ _).1 okA,(eZ _).1 okB,hs⟩)
   ·exact aAr w V1 V2 a b h1 h2 okA okB hs
theorem aE3 (w:World) (V:SV) (s:Sm) (t:Int) (h1:RdS w V s):
  Calls prog 104 #[.agg #[.slice V.xr V.nr V.cr,.slice V.xf V.nf V.cf,.slice V.xt V.nt V.ct,iv s.lo,iv s.al,.slice V.xk V.nk V.ck,iv s.ka],iv t] w fun e w'=>∃U,e=.returned (.tuple #[.agg #[.slice U.xr U.nr U.cr,.slice U.xf U.nf U.cf,.slice U.xt U.nt U.ct,.int .i64 (dC s t).lo,.int .i64 (dC s t).al,.slice U.xk U.nk U.ck,.int .i64 (dC s t).ka],.bool (cF s t)])/\bN w' w.heap.size w'.heap.size U (dC s t)/\Below w.heap.size w w':=by
 have hA:=((Below.refl w.heap.size w).alloc lr_ (.cells (cS V s) 46)).alloc (by simp) (.cells #[zn,zn,zn,iv 0,iv 0,zn,iv 0] 46);have XA:=(aR.new w 46 (.slice V.xr V.nr V.cr) (.slice V.xf V.nf V.cf) (.slice V.xt V.nt V.ct) (iv s.lo) (iv s.al) (.slice V.xk V.nk V.ck) (iv s.ka)).alloc (.cells #[zn,zn,zn,iv 0,iv 0,zn,iv 0] 46)
 have R:=aR.new (w.alloc (.cells (cS V s) 46)) 46 zn zn zn (iv 0) (iv 0) zn (iv 0);rw[World.size_alloc]at R;obtain⟨axa0,axa1,axa2,axa3,axa4,axa5,axa6⟩:=(XA).cells;obtain⟨W0,hW⟩:=nm_ ((w.alloc (.cells (cS V s) 46)).alloc (.cells #[zn,zn,zn,iv 0,iv 0,zn,iv 0] 46));rw[<-hW]at hA XA R;have B:=hd_ hA;have H1:=hd_ h1;have SZ:=hd_ hA.size;clear hA h1
 have K1:Hid (Calls prog 174 #[iv t] W0.drew fun e w'=>∃V,e=.returned (vS V (xB t))/\bN w' W0.drew.heap.size w'.heap.size V (xB t)/\Below W0.drew.heap.size W0.drew w'):=hd_ (aJ7 W0.drew t);generalize hso:xB t=so at K1;have J1:gW s so=dC s t:=by rw[<-hso];exact aGY s t
 have J2:dT s so=cF s t:=by rw[<-hso];exact uL s t
 clear hso
 have KJ:Hid (∀(W:World) (V2:SV),RdS W V s->RdS W V2 so->Calls prog 78 #[.agg #[.slice V.xr V.nr V.cr,.slice V.xf V.nf V.cf,.slice V.xt V.nt V.ct,iv s.lo,iv s.al,.slice V.xk V.nk V.ck,iv s.ka],.agg #[.slice V2.xr V2.nr V2.cr,.slice V2.xf V2.nf V2.cf,.slice V2.xt V2.nt V2.ct,iv so.lo,iv so.al,.slice V2.xk V2.nk V2.ck,iv so.ka]] W fun e w'=>∃U,e=.returned (.tuple #[.agg #[.slice U.xr U.nr U.cr,.slice U.xf U.nf U.cf,.slice U.xt U.nt U.ct,.int .i64 (dC s t).lo,.int .i64 (dC s t).al,.slice U.xk U.nk U.ck,.int .i64 (dC s t).ka],.bool (cF s t)])/\bN w' W.heap.size w'.heap.size U (dC s t)/\Below W.heap.size W w'):=hd_ fun W V2 p q=>by
  have h:=aDf W V V2 s so p q;rw[J1,J2]at h;exact h
 clear J1 J2;generalize dC s t=r at KJ ⊢;generalize cF s t=ok at KJ ⊢;go_enter func104,ntmps104
 go_wp2_with fail
 rw[<-hW];clear hW axa0 axa1 axa2 axa3 axa4 axa5 axa6;obtain⟨cxa0,cxa1,cxa2,cxa3,cxa4,cxa5,cxa6⟩:=(XA).cells;go_wp2
 go_region_with (first
    |(go_at_call 174;refine K1.out.mono ?_;rintro e w1 ⟨V2,rfl,ho,hb⟩;have XA1:=XA.drew.later hb;obtain⟨e0,e1,e2,e3,e4,e5,e6⟩:=XA1.cells;have HO:=hd_ ho;have HB:=hd_ hb;clear ho hb)
    |(go_at_call 78;refine (KJ.out w1 V2 ((H1.out.below B.out lr_).below (Below.trans (Below.drew (Below.refl _ W0)) HB.out) lr_) HO.out.rd).mono ?_;rintro e w2 ⟨U,rfl,hu,hb⟩;have R2:=(R.drew.later HB.out).later hb;obtain⟨r0,r1,r2,r3,r4,r5,r6⟩:=R2.cells;have fr:=R2.free;have HU:=hd_ hu;have HB2:=hd_ hb;clear hu hb))
 all_goals
  replace B:=hd_ (B.out.trans ((Below.trans (Below.drew (Below.refl _ W0)) (HB.out.trans (HB2.out.mono HB.out.size))).mono B.out.size));have fin:=R2.set (.slice U.xr U.nr U.cr) (.slice U.xf U.nf U.cf) (.slice U.xt U.nt U.ct) (iv r.lo) (iv r.al) (.slice U.xk U.nk U.ck) (iv r.ka)
  have OF:=bN.box7 (HU.out.base (B':=w.heap.size) (Nat.le_trans (Nat.le_trans (show w.heap.size<=W0.heap.size from SZ.out) HB.out.size) lr_) lr_ lr_) R2 (.slice U.xr U.nr U.cr) (.slice U.xf U.nf U.cf) (.slice U.xt U.nt U.ct) (iv r.lo) (iv r.al) (.slice U.xk U.nk U.ck) (iv r.ka)
  have BF:=bB B.out (Nat.le_add_right w.heap.size 1) (.slice U.xr U.nr U.cr) (.slice U.xf U.nf U.cf) (.slice U.xt U.nt U.ct) (iv r.lo) (iv r.al) (.slice U.xk U.nk U.ck) (iv r.ka);have SF:=cT w2 (w.heap.size+1) (.slice U.xr U.nr U.cr) (.slice U.xf U.nf U.cf) (.slice U.xt U.nt U.ct) (iv r.lo) (iv r.al) (.slice U.xk U.nk U.ck) (iv r.ka)
  have HF:=hd_ (And.intro (bN.base OF lr_ (Nat.le_of_eq SF.symm) lr_) BF);have HY:=hd_ fin;clear fin OF BF SF;go_wp2;show bodyPost _ _ _ _ _ (set7 w2 (w.heap.size+1) (.slice U.xr U.nr U.cr) (.slice U.xf U.nf U.cf) (.slice U.xt U.nt U.ct) (iv r.lo) (iv r.al) (.slice U.xk U.nk U.ck) (iv r.ka))
  obtain⟨d0,d1,d2,d3,d4,d5,d6⟩:=HY.out.cells;generalize set7 w2 (w.heap.size+1) (.slice U.xr U.nr U.cr) (.slice U.xf U.nf U.cf) (.slice U.xt U.nt U.ct) (iv r.lo) (iv r.al) (.slice U.xk U.nk U.ck) (iv r.ka)=WF at HF d0 d1 d2 d3 d4 d5 d6 ⊢
  refine bodyPost_ret (v:=.tuple #[.agg #[.slice U.xr U.nr U.cr,.slice U.xf U.nf U.cf,.slice U.xt U.nt U.ct,iv r.lo,iv r.al,.slice U.xk U.nk U.ck,iv r.ka],.bool ok]) (by simp[results,results104,go_sem,d0,d1,d2,d3,d4,d5,d6]) rfl ?_;exact⟨U,rfl,HF.out⟩
end Go.Proofs.YtcblbdpdbggkbaaGreat
namespace Go.Proofs.YtcblbdpdbggkbaaGreat
open _root_.Go.Proofs.Tryz
open Go.RowKit Go.Sort Go.ChangeMaps
namespace N
theorem uI (w:World) (V:SV) (e:En):
  Calls prog 201 #[aAn V e] w fun r w'=>r=.returned (.agg #[iv e.node,iv e.born,iv e.num])/\Below w.heap.size w w':=by
 have h0:=(M.start w).alloc #[iv e.node,iv e.born,iv e.num,.slice V.xr V.nr V.cr,.slice V.xf V.nf V.cf,.slice V.xt V.nt V.ct,.int .i64 (e.s).lo,.int .i64 (e.s).al,.slice V.xk V.nk V.ck,.int .i64 (e.s).ka] 64;have h1:=h0.alloc #[iv e.node,iv e.born,iv e.num] 234;simp only[World.size_alloc]at h1;have H1:=hd_ h1;obtain⟨e0,e1,e2⟩:=h1.cells3;have H0:=(h0.alloc #[iv 0,iv 0,iv 0] 234).p1.cells10
 obtain⟨d0,d1,d2,d3,d4,d5,d6,d7,d8,d9⟩:=H0;clear h0 h1;go_enter func201,ntmps201;go_wp2;exact bodyPost_ret (v:=.agg #[iv e.node,iv e.born,iv e.num]) (by simp[results,results201,go_sem,e0,e1,e2]) rfl ⟨rfl,H1.out.below⟩
def bW (n:Nt) (k:Int × Int × Int):Sm:=upS ((aN n k.1 k.2.1).take k.2.2.toNat)
theorem aH9 {n:Nt} {a b:Int} {q:Nat} {l:List Int} (hl:aN n a b=l) (hq:q<l.length) {z:Int} (hz:z=(q:Int)+1):bW n (a,b,z)=dC (bW n (a,b,(q:Int))) (l.getD q 0):=by
 subst hz;unfold bW;simp only[hl,Int.toNat_natCast];rw[show ((q:Int)+1).toNat=q+1 by omega];exact aAb hq
theorem aF7 {n:Nt} {w0:World} {v1 v2 v3:Value} {x4:Option Addr} {c4:Nat} (hn:iP w0 v1 v2 v3 (.slice x4 5 c4) n) (hs:oX n) {i j:Nat} (hi:i<5) (hj:j<(aO n (i:Int)).length):
  ∀(q:Nat),q<=(aN n (i:Int) (j:Int)).length->∀{l:List Ch} {w:World} {m:Nat} {z:Int},z=(q:Int)->M w0.heap.size w0 w (kT m (bW n)::l)->
  Calls prog 200 #[.agg #[.slice x4 5 c4,.map (some m)],.agg #[iv (i:Int),iv (j:Int),iv z]] w fun r w'=>∃V s,r=.returned (vS V s)/\s=bW n ((i:Int),(j:Int),z)/\M w0.heap.size w0 w' (rM m (bW n) V s::l):=by
 obtain⟨f4,n4⟩:=hn.past;obtain⟨rs,hrs⟩:∃rs,n.past[i]? =some rs:=⟨_,List.getElem?_eq_getElem (by rw[hs.past];exact hi)⟩
 have eR:aO n (i:Int)=rs:=by unfold aO;rw[List.getD_eq_getElem?_getD,Int.toNat_natCast,hrs];rfl
 obtain⟨g4,xr,cr,fr,rfl,_,_,rr,rc,rm,y0⟩:=jO n4 hrs;rw[eR]at hj;obtain⟨lp,hlp⟩:∃lp,rs[j]? =some lp:=⟨_,List.getElem?_eq_getElem hj⟩
 have EP:Hid (aN n (i:Int) (j:Int)=lp):=hd_ (by unfold aN;rw[eR,List.getD_eq_getElem?_getD,Int.toNat_natCast,hlp];rfl);obtain⟨g5,xl,cl,fl,rfl,_,_,rl,lc,lm,y1⟩:=lH rr hlp;have IB:Hid (dE w0 (.slice xl lp.length cl) lp):=hd_ (by
    obtain⟨v,ev,ho,_⟩:=mI rl
    cases ev
    exact ho)
 have Y0:=hd_ y0;have Y1:=hd_ y1;have i0:(0:Int)<=(i:Int):=o_;have i5:(i:Int)<5:=o_;have j0:(0:Int)<=(j:Int):=o_;have j1:(j:Int)<(rs.length:Int):=o_;have IO:=hd_ (show aIr (i:Int)from⟨o_,o_⟩);unfold maxLen at rm lm;have JO:=hd_ (show aIr (j:Int)from⟨o_,o_⟩);rw[EP.out];have LM:=hd_ (Nat.le_trans lc lm);have RM:rs.length<=2 ^ 63 - 1:=o_;clear n4 hrs eR rr hlp rl lc lm rc rm y0 y1 hn hs hi hj;intro q
 induction q with
 |zero=>
  intro _ l w m z hz hm;subst hz;have h0:=((hm.alloc #[.slice (some ⟨g4,0,none⟩) 5 c4,.map (some m)] 120).alloc #[iv (i:Int),iv (j:Int),iv 0] 234).alloc #[zn,zn,zn,iv 0,iv 0,zn,iv 0] 46;simp only[World.size_alloc]at h0
  obtain⟨W,hW⟩:=nm_ (((w.alloc (.cells #[.slice (some ⟨g4,0,none⟩) 5 c4,.map (some m)] 120)).alloc (.cells #[iv (i:Int),iv (j:Int),iv 0] 234)).alloc (.cells #[zn,zn,zn,iv 0,iv 0,zn,iv 0] 46));obtain⟨p2,hp2⟩:=nm_ w.heap.size;obtain⟨p3,hp3⟩:=nm_ (w.heap.size+1);obtain⟨p4,hp4⟩:=nm_ (w.heap.size+1+1);rw[<-hW, <-hp4, <-hp3, <-hp2]at h0;have H:=hd_ h0;obtain⟨b0,b1,b2⟩:=h0.p1.cells3
  obtain⟨d0,d1,d2,d3,d4,d5,d6⟩:=h0.cells7;have ff:=h0.free;clear h0 hm;have KN:=hd_ (aEu W);obtain⟨sn,hsn⟩:=nm_ dK;rw[<-hsn]at KN;have SN:=hd_ hsn;clear hsn;go_enter func200,ntmps200
  go_wp2_with fail
  rw[<-hW];clear hW b0 b1 b2 d0 d1 d2 d3 d4 d5 d6 ff;refine KN.out.mono ?_;rintro r w1 ⟨V,rfl,ho,hb⟩;have H2:=hd_ (H.out.sum hb ho);clear H ho hb KN;rw[<-hp4];clear hp2 hp3 hp4
  go_wp2_with (refine dG H2.out.p1 (vs:=[.slice V.xr V.nr V.cr,.slice V.xf V.nf V.cf,.slice V.xt V.nt V.ct,iv sn.lo,iv sn.al,.slice V.xk V.nk V.ck,iv sn.ka]) (ys:=#[.slice V.xr V.nr V.cr,.slice V.xf V.nf V.cf,.slice V.xt V.nt V.ct,iv sn.lo,iv sn.al,.slice V.xk V.nk V.ck,iv sn.ka]) rfl rfl rfl rfl aDJ rfl (by simp) (by simp[pK]) ?_;intro w2 h3;have H4:=hd_ h3;clear h3 H2)
  obtain⟨e0,e1,e2,e3,e4,e5,e6⟩:=H4.out.cells7;exact bodyPost_ret (v:=.agg #[.slice V.xr V.nr V.cr,.slice V.xf V.nf V.cf,.slice V.xt V.nt V.ct,iv sn.lo,iv sn.al,.slice V.xk V.nk V.ck,iv sn.ka]) (by simp[results,results200,go_sem,e0,e1,e2,e3,e4,e5,e6]) rfl ⟨V,sn,rfl,SN.out,aE6 H4.out.drop.p1.drop.p1.drop⟩
 |succ q ih=>
  intro hq l w m z hz hm;have bw:IntKind.i64.wrap (z - 1)=(q:Int):=by have:=LM.out;rw[hz,IntWalk.i64_in _ o_];omega
  have gz:(z==0)=false:=by rw[hz];simp;omega
  have hz':z=(q:Int)+1:=o_;have ES:=hd_ (aH9 EP.out o_ hz');obtain⟨b6,o6,rfl,c6⟩:=xD IB.out (show q<lp.length by omega);obtain⟨vq,hvq⟩:=nm_ (lp.getD q 0);rw[<-hvq]at c6 ES;have C6:=hd_ c6;clear c6;clear hvq;have q0:(0:Int)<=(q:Int):=o_;have q1:(q:Int)<(lp.length:Int):=o_
  have MO:=hd_ (show aDX ((i:Int),(j:Int),z)from⟨IO.out,JO.out,(show -9223372036854775808<=z/\z<9223372036854775808 by have:=LM.out;omega)⟩);have IH:=hd_ (fun (l':List Ch) (w':World) (h:M w0.heap.size w0 w' (kT m (bW n)::l'))=>ih o_ (l:=l') (w:=w') (m:=m) (z:=(q:Int)) rfl h)
  have h0:=((hm.alloc #[.slice (some ⟨g4,0,none⟩) 5 c4,.map (some m)] 120).alloc #[iv (i:Int),iv (j:Int),iv z] 234).alloc #[zn,zn,zn,iv 0,iv 0,zn,iv 0] 46;simp only[World.size_alloc]at h0;obtain⟨W,hW⟩:=nm_ (((w.alloc (.cells #[.slice (some ⟨g4,0,none⟩) 5 c4,.map (some m)] 120)).alloc (.cells #[iv (i:Int),iv (j:Int),iv z] 234)).alloc (.cells #[zn,zn,zn,iv 0,iv 0,zn,iv 0] 46))
  obtain⟨p2,hp2⟩:=nm_ w.heap.size;obtain⟨p3,hp3⟩:=nm_ (w.heap.size+1);obtain⟨p4,hp4⟩:=nm_ (w.heap.size+1+1);rw[<-hW, <-hp4, <-hp3, <-hp2]at h0;have H:=hd_ h0;obtain⟨b0,b1,b2⟩:=h0.p1.cells3;obtain⟨a0,a1⟩:=h0.p2.cells2;clear h0 hm hz hz' ih hq;go_enter func200,ntmps200;go_upto_region 3 with fail
  rw[<-hW, <-hp4, <-hp3, <-hp2];clear hW hp2 hp3 hp4;obtain⟨b,V0,s0,LL0,hb⟩:=aHN H.out.p3 MO.out;have LL:(Instr.lookup 118 (.map (some m)) (.agg #[iv (i:Int),iv (j:Int),iv z]) true).run prog W=.ok (.tuple #[.agg #[.slice V0.xr V0.nr V0.cr,.slice V0.xf V0.nf V0.cf,.slice V0.xt V0.nt V0.ct,iv s0.lo,iv s0.al,.slice V0.xk V0.nk V0.ck,iv s0.ka],.bool b]) W:=LL0;have HB:=hd_ hb;clear hb LL0
  cases b with
  |true=>
   obtain⟨e0,h1⟩:=HB.out rfl;have E0:=hd_ e0;have H5:=hd_ (h1.alloc (cS V0 s0) 46);clear h1 e0 HB H;obtain⟨p5,hp5⟩:=nm_ W.heap.size;obtain⟨W5,hW5⟩:=nm_ (W.alloc (.cells (cS V0 s0) 46));rw[<-hp5, <-hW5]at H5;obtain⟨x0,x1,x2,x3,x4,x5,x6⟩:=H5.out.cells7;go_upto_region 4 with fail
   rw[<-hW5, <-hp5];clear hp5 hW5 LL a0 a1 b0 b1 b2
   go_wp2_with (refine dG H5.out.p2 (vs:=[.slice V0.xr V0.nr V0.cr,.slice V0.xf V0.nf V0.cf,.slice V0.xt V0.nt V0.ct,iv s0.lo,iv s0.al,.slice V0.xk V0.nk V0.ck,iv s0.ka]) (ys:=#[.slice V0.xr V0.nr V0.cr,.slice V0.xf V0.nf V0.cf,.slice V0.xt V0.nt V0.ct,iv s0.lo,iv s0.al,.slice V0.xk V0.nk V0.ck,iv s0.ka]) rfl rfl rfl rfl aDJ rfl (by simp) (by simp[pK]) ?_;intro w2 h3;have H6:=hd_ h3;clear h3 H5)
   obtain⟨e0,e1,e2,e3,e4,e5,e6⟩:=H6.out.cells7;exact bodyPost_ret (v:=.agg #[.slice V0.xr V0.nr V0.cr,.slice V0.xf V0.nf V0.cf,.slice V0.xt V0.nt V0.ct,iv s0.lo,iv s0.al,.slice V0.xk V0.nk V0.ck,iv s0.ka]) (by simp[results,results200,go_sem,e0,e1,e2,e3,e4,e5,e6]) rfl ⟨V0,s0,rfl,E0.out,H6.out.drop.drop.p2.drop.p1 |>.p1.p1.drop |> fun h=>h⟩
  |false=>
   clear HB;have h5:=H.out.alloc (cS V0 s0) 46;obtain⟨p5,hp5⟩:=nm_ W.heap.size;obtain⟨W5,hW5⟩:=nm_ (W.alloc (.cells (cS V0 s0) 46));rw[<-hW5, <-hp5]at h5;have H5:=hd_ h5;clear h5 H;go_upto_region 4 with fail
   rw[<-hW5, <-hp5];clear hp5 hW5 LL a0 a1 b0 b1 b2;obtain⟨b0,b1,b2⟩:=H5.out.p2.cells3;have h6:=H5.out.alloc #[iv (i:Int),iv (j:Int),iv (q:Int)] 234;obtain⟨p7,hp7⟩:=nm_ W5.heap.size;obtain⟨W6,hW6⟩:=nm_ (W5.alloc (.cells #[iv (i:Int),iv (j:Int),iv (q:Int)] 234));rw[<-hW6, <-hp7]at h6;have H6:=hd_ h6.drew;clear h6 H5;go_upto_region 6 with fail
   rw[<-hW6, <-hp7];clear hp7 hW6 b0 b1 b2
   have hcells:∀(W':World) (c1 c2:Ch) (l':List Ch) (vs:Array Value),M w0.heap.size w0 W' (c1::aL p7 234 #[iv (i:Int),iv (j:Int),iv (q:Int)]::aL p5 46 vs::c2::aL p3 234 #[iv (i:Int),iv (j:Int),iv z]::aL p2 120 #[.slice (some ⟨g4,0,none⟩) 5 c4,.map (some m)]::l')->aH W' [(⟨p2,0,none⟩,.slice (some ⟨g4,0,none⟩) 5 c4),(⟨p2,1,none⟩,.map (some m)),(⟨p3,0,none⟩,.int .i64 (i:Int)),(⟨p3,1,none⟩,.int .i64 (j:Int)),(⟨p3,2,none⟩,.int .i64 z),(⟨p7,0,none⟩,.int .i64 (i:Int)),(⟨p7,1,none⟩,.int .i64 (j:Int)),(⟨p7,2,none⟩,.int .i64 (q:Int)),(⟨g4,i,none⟩,.slice (some ⟨g5,0,none⟩) rs.length cr),(⟨g5,j,none⟩,.slice (some ⟨b6,o6,none⟩) lp.length cl),(⟨b6,o6+q,none⟩,.int .i64 vq)]:=fun _ _ _ _ _ h=>by
    obtain⟨m0,m1,m2⟩:=h.p1.cells3;obtain⟨k0,k1,k2⟩:=h.p4.cells3;obtain⟨t0,t1⟩:=h.p5.cells2;exact⟨t0,t1,k0,k1,k2,m0,m1,m2,cell_later h.below Y0.out,cell_later h.below Y1.out,cell_later h.below C6.out,trivial⟩
   have HC:=hd_ hcells
   have KA:Hid (∀(W':World) (V1:SV) (s1:Sm),RdS W' V1 s1->Calls prog 104 #[.agg #[.slice V1.xr V1.nr V1.cr,.slice V1.xf V1.nf V1.cf,.slice V1.xt V1.nt V1.ct,iv s1.lo,iv s1.al,.slice V1.xk V1.nk V1.ck,iv s1.ka],iv vq] W' fun e w'=>∃U ok,e=.returned (.tuple #[.agg #[.slice U.xr U.nr U.cr,.slice U.xf U.nf U.cf,.slice U.xt U.nt U.ct,.int .i64 (dC s1 vq).lo,.int .i64 (dC s1 vq).al,.slice U.xk U.nk U.ck,.int .i64 (dC s1 vq).ka],.bool ok])/\bN w' W'.heap.size w'.heap.size U (dC s1 vq)/\Below W'.heap.size W' w'):=hd_ fun W' V1 s1 h1=>(aE3 W' V1 s1 vq h1).mono fun e w' ⟨U,h1,h2,h3⟩=>⟨U,_,h1,h2,h3⟩
   clear hcells
   refine aC 99 (.tk 0 2 (.tk 3 14 (.alt 2 (.alt 17 (.tk 18 3 (.alt 21 .done .nomore)) .nomore) .nomore))) (fun w'=>aH w' [(⟨p2,0,none⟩,.slice (some ⟨g4,0,none⟩) 5 c4),(⟨p2,1,none⟩,.map (some m)),(⟨p3,0,none⟩,.int .i64 (i:Int)),(⟨p3,1,none⟩,.int .i64 (j:Int)),(⟨p3,2,none⟩,.int .i64 z),(⟨p7,0,none⟩,.int .i64 (i:Int)),(⟨p7,1,none⟩,.int .i64 (j:Int)),(⟨p7,2,none⟩,.int .i64 (q:Int)),(⟨g4,i,none⟩,.slice (some ⟨g5,0,none⟩) rs.length cr),(⟨g5,j,none⟩,.slice (some ⟨b6,o6,none⟩) lp.length cl),(⟨b6,o6+q,none⟩,.int .i64 vq)]) kr_ kr_ (fun _ _ _ _ _ h=>h) (HC.out _ _ _ _ _ H6.out.p5) ?_
   repeat (first|refine tC_ ?_|refine tB_ ?_)
   refine aB r_ (fun K' hK=>?_);go_simp;refine (IH.out _ _ H6.out.p5).mono ?_;rintro e' w1 ⟨V1,s1,rfl,es1,hm1⟩;have HM1:=hd_ hm1;have ES1:Hid (dC s1 vq=bW n ((i:Int),(j:Int),z)):=hd_ (by rw[ES.out,es1]);clear es1 hm1 IH H6 ES;refine hK _ _ (.inr (HC.out _ _ _ _ _ HM1.out)) ?_;clear hK K'
   try refine tP_ ?_
   refine aB r_ (fun K' hK=>?_);go_simp;refine (KA.out w1 V1 s1 (aCO HM1.out)).mono ?_;rintro e' w2 ⟨U,ok,rfl,ho,hb⟩;obtain⟨sk,hsk⟩:=nm_ (dC s1 vq);rw[<-hsk]at ES1 ho;rw[<-hsk];have HM2:=hd_ (aE6 ((sD HM1.out).sum hb ho));clear hsk ho hb KA HM1;refine hK _ _ (.inr (HC.out _ _ _ _ _ HM2.out)) ?_;clear hK K'
   try refine tP_ ?_
   repeat (first|refine tC_ ?_|refine tB_ ?_)
   refine aB r_ (fun K' hK=>?_);refine mN HM2.out.p2 (vs:=[.slice U.xr U.nr U.cr,.slice U.xf U.nf U.cf,.slice U.xt U.nt U.ct,iv sk.lo,iv sk.al,.slice U.xk U.nk U.ck,iv sk.ka]) (ys:=#[.slice U.xr U.nr U.cr,.slice U.xf U.nf U.cf,.slice U.xt U.nt U.ct,iv sk.lo,iv sk.al,.slice U.xk U.nk U.ck,iv sk.ka]) rfl rfl rfl rfl aDJ rfl (by simp) (by simp[pK]) ?_;intro w3 h3
   have HM3:=hd_ h3.p2.p2;clear h3 HM2;refine hK _ _ (.inr (HC.out _ _ _ _ _ HM3.out)) ?_;clear hK K'
   try refine tP_ ?_
   refine aD ?_;obtain⟨x0,x1,x2,x3,x4,x5,x6⟩:=HM3.out.p2.cells7;obtain⟨b0,b1,b2⟩:=HM3.out.p4.cells3;obtain⟨a0,a1⟩:=HM3.out.p5.cells2
   go_wp2_with (first|(refine aE4 HM3.out MO.out ES1.out rfl rfl rfl rfl rfl rfl rfl ?_;intro w4 h4;have HM4:=hd_ h4;obtain⟨z0,z1,z2,z3,z4,z5,z6⟩:=h4.p2.cells7;clear h4 HM3)|(refine dG HM4.out.p3 (vs:=[.slice U.xr U.nr U.cr,.slice U.xf U.nf U.cf,.slice U.xt U.nt U.ct,iv sk.lo,iv sk.al,.slice U.xk U.nk U.ck,iv sk.ka]) (ys:=#[.slice U.xr U.nr U.cr,.slice U.xf U.nf U.cf,.slice U.xt U.nt U.ct,iv sk.lo,iv sk.al,.slice U.xk U.nk U.ck,iv sk.ka]) rfl rfl rfl rfl aDJ rfl (by simp) (by simp[pK]) ?_;intro w5 h5;have HM5:=hd_ h5;clear h5 HM4))
   obtain⟨e0,e1,e2,e3,e4,e5,e6⟩:=HM5.out.cells7;exact bodyPost_ret (v:=.agg #[.slice U.xr U.nr U.cr,.slice U.xf U.nf U.cf,.slice U.xt U.nt U.ct,iv sk.lo,iv sk.al,.slice U.xk U.nk U.ck,iv sk.ka]) (by simp[results,results200,go_sem,e0,e1,e2,e3,e4,e5,e6]) rfl ⟨U,sk,rfl,ES1.out,HM5.out.drop.p1.drop.p1.drop.p1.drop.p1.drop⟩
end N
end Go.Proofs.YtcblbdpdbggkbaaGreat
namespace Go.Proofs.YtcblbdpdbggkbaaGreat
open _root_.Go.Proofs.Tryz
open Go.RowKit Go.Sort
namespace N
def jE (rs:List (List Int)) (born:Int):Bool:=in6 born 1 20&&(decide ((rs.length:Int)=born+1)&&(decide ((rs.getD 0 []).length=0)&&rs.all lO))
theorem aEo (w:World) {xr:Option Addr} {cr:Nat} {rs:List (List Int)} {f:List Nat} (h:uK w [.slice xr rs.length cr] rs f) (born:Int):
  Calls prog 80 #[.slice xr rs.length cr,iv born] w fun r w'=>r=.returned (.bool (jE rs born))/\w'=w:=by
 have hm:rs.length<=maxLen:=by obtain⟨_,_,_,q1,q2⟩:=cM h;omega
 unfold maxLen at hm;have H:=hd_ h;clear h;obtain⟨q1,hq1⟩:=nm_ (decide (born<1));obtain⟨q2,hq2⟩:=nm_ (decide (20<born));have g1:=hq1.symm;have g2:=hq2.symm;have P0:Hid (in6 born 1 20=(!q1&& !q2)):=hd_ (by
    rw[hq1,hq2]
    unfold in6
    by_cases x:born<1<;>by_cases y:20<born<;>simp[x,y]<;>omega)
 go_enter func80,ntmps80;rcases q1 with _|_
 case true=>
  exact zBr
 rcases q2 with _|_
 case true=>
  exact zBr
 have o1:=of_decide_eq_false hq1.symm;have o2:=of_decide_eq_false hq2.symm;have P1:Hid (jE rs born=(decide ((rs.length:Int)=born+1)&&(decide ((rs.getD 0 []).length=0)&&rs.all lO))):=hd_ (by unfold jE;rw[P0.out];rfl);have bw:IntKind.i64.wrap (born+1)=born+1:=IntWalk.i64_in _ o_;clear hq1 hq2
 by_cases hA:(rs.length:Int)=born+1
 case neg=>
  have F:Hid (jE rs born=false):=hd_ (by rw[P1.out,decide_eq_false hA];rfl);have gA:((rs.length:Int) != born+1)=true:=by simpa using hA
  clear hA;go_wp2;go_ret;exact⟨by rw[F.out];rfl,rfl⟩
 have gA:((rs.length:Int) != born+1)=false:=by simpa using hA
 have r0:0<rs.length:=o_;have r0':(0:Int)<(rs.length:Int):=o_;have HA:=hd_ hA;clear hA;obtain⟨l0,hl0⟩:∃l,rs[0]? =some l:=⟨_,List.getElem?_eq_getElem r0⟩
 obtain⟨g5,xl,cl,fl,rfl,_,_,_,_,_,b2⟩:=lH H.out hl0;have EL0:Hid (rs.getD 0 []=l0):=hd_ (by rw[List.getD_eq_getElem?_getD,hl0];rfl);clear hl0
 by_cases hB:l0.length=0
 case neg=>
  have F:Hid (jE rs born=false):=hd_ (by rw[P1.out,EL0.out,decide_eq_false hB,Bool.false_and,Bool.and_false]);have gN:0<l0.length:=o_;have gB:decide ((0:Int)<(l0.length:Int))=true:=by simpa using gN
  clear hB;go_wp2;go_ret;exact⟨by rw[F.out];rfl,rfl⟩
 have gN:¬ 0<l0.length:=o_;have gB:decide ((0:Int)<(l0.length:Int))=false:=by simpa using gN
 have FB:Hid (jE rs born=rs.all lO):=hd_ (by rw[P1.out,EL0.out,decide_eq_true HA.out,decide_eq_true hB];rfl);clear hB;go_wp2;clear b2 gA gB gN bw g1 g2 o1 o2 r0 r0';go_loopw [31] (fun z wr=>∃j:Nat,j<=rs.length/\z=.int .i64 j/\(∀(a:Nat) (x:List Int),a<j->rs[a]? =some x->lO x=true)/\wr=w) (fun z _=>rs.length - (intOf z).toNat)
 case atStart=>exact⟨0,Nat.zero_le _,rfl,fun a x h=>absurd h (Nat.not_lt_zero _),rfl⟩
 case round=>
  obtain⟨j,hj,rfl,hno,hwr⟩:=hrel;subst wr;have NO:=hd_ hno;clear hno
  by_cases hlt:j<rs.length
  ·obtain⟨lb,hlb⟩:∃l,rs[j]? =some l:=⟨_,List.getElem?_eq_getElem hlt⟩
   obtain⟨g6,xb,cb,fb,eg,_,_,rb,rbc,rbm,b3⟩:=lH H.out hlb;cases eg;have IB:Hid (dE w (.slice xb lb.length cb) lb):=hd_ (by
        obtain⟨v,ev,ho,_⟩:=mI rb
        cases ev
        exact ho)
   have HLB:=hd_ hlb;unfold maxLen at rbm;have j0:(0:Int)<=(j:Int):=o_;have j1:(j:Int)<(rs.length:Int):=o_;clear rb hlb
   by_cases hg:100<lb.length
   ·have F:Hid (jE rs born=false):=hd_ (by rw[FB.out];exact mA HLB.out (aFc hg))
    have gg:decide ((100:Int)<(lb.length:Int))=true:=decide_eq_true o_;clear hg;exact zBw
   have gg:decide ((100:Int)<(lb.length:Int))=false:=decide_eq_false o_;have HG:=hd_ hg;clear hg;go_wp2;clear gg b3;go_loopw [40] (fun z wr=>∃q:Nat,q<=lb.length/\z=.int .i64 q/\(∀a:Nat,a<q->in6 (lb.getD a 0) 0 63=true)/\wr=w) (fun z _=>lb.length - (intOf z).toNat)
   case atStart=>exact⟨0,Nat.zero_le _,rfl,fun a h=>absurd h (Nat.not_lt_zero _),rfl⟩
   case round=>
    obtain⟨q,hq,rfl,hin,hwr⟩:=hrel;subst wr;have IN:=hd_ hin;clear hin
    by_cases hql:q<lb.length
    ·obtain⟨b6,o6,rfl,c6⟩:=xD IB.out hql
     have HV:=hd_ (fun (h:in6 (lb.getD q 0) 0 63=false)=>aGI hql h);have IN2:Hid (in6 (lb.getD q 0) 0 63=true->∀a:Nat,a<q+1->in6 (lb.getD a 0) 0 63=true):=hd_ fun h a ha=>by
      by_cases e:a<q
      ·exact IN.out a e
      ·obtain rfl:a=q:=o_
       exact h
     obtain⟨v,hv⟩:=nm_ (lb.getD q 0);rw[<-hv]at c6 HV IN2;clear hv;obtain⟨t,ht⟩:=nm_ (in6 v 0 63);rw[<-ht]at HV IN2;have KI:=hd_ (aFl ht);have q0:(0:Int)<=(q:Int):=o_;have q1:(q:Int)<(lb.length:Int):=o_;clear ht
     go_wp2_with fail
     refine (KI.out _).mono ?_;rintro r w' ⟨rfl,hw'⟩;rw[<-hw'];clear hw' w' KI;cases t with
     |false=>
      have F:Hid (jE rs born=false):=hd_ (by rw[FB.out];exact mA HLB.out (HV.out rfl));clear HV IN2;exact zBw
     |true=>
      exact zBj
    ·obtain rfl:q=lb.length:=o_
     have RO:=hd_ (aKk IN.out HG.out);have NO2:Hid (∀(a:Nat) (x:List Int),a<j+1->rs[a]? =some x->lO x=true):=hd_ fun a x ha hx=>by
      exact zBO
     go_wp2;exact zBJ
  ·have F:Hid (jE rs born=true):=hd_ (by rw[FB.out];exact wQ.2 fun a x hx=>NO.out a x (by have:=(List.getElem?_eq_some_iff.1 hx).1;omega) hx)
   obtain rfl:j=rs.length:=o_;exact zBw
end N
end Go.Proofs.YtcblbdpdbggkbaaGreat
namespace Go.Proofs.YtcblbdpdbggkbaaGreat
open _root_.Go.Proofs.Tryz
open Go.RowKit Go.Sort Go.ChangeMaps
namespace N
theorem aE7 {n:Nt} {i b:Int} (h:(aO n i).all lO=true):lO (aN n i b)=true:=by
 unfold aN;rw[List.getD_eq_getElem?_getD];cases q:(aO n i)[b.toNat]? with
 |none=>rfl
 |some l=>exact List.all_eq_true.1 h l (List.mem_of_getElem? q)
theorem aIo {l:List Int} (h:lO l=true) (k:Nat):okS (upS (l.take k))=true:=by
 unfold lO at h;simp only[Bool.and_eq_true,List.all_eq_true,decide_eq_true_eq]at h;refine aGT (fun t ht=>bH.1 (h.1 t (List.mem_of_mem_take ht))) ?_;rw[List.length_take];omega
theorem aFT (a b:Sm):mO a b=mO b a:=by
 rw[Bool.eq_iff_iff,qD,qD];exact⟨Eq.symm,Eq.symm⟩
def oM (n:Nt):Prop:=∀i:Nat,i<5->(aO n (i:Int)).all lO=true
theorem aKb {n:Nt} (hf:oM n) (e:En):eS n e=(aBj n e&&mO e.s (bW n (e.node,e.born,e.num))):=by
 unfold eS aBj bW
 by_cases h:in6 e.node 0 4=true
 ·have hr:lO (aN n e.node e.born)=true:=aE7 (by
      obtain⟨a,b⟩:=bH.1 h
      have:=hf e.node.toNat o_
      rwa[show ((e.node.toNat:Nat):Int)=e.node by omega]at this)
  rw[h,aIo hr,aFT e.s,Bool.true_and,Bool.true_and,Bool.true_and,Bool.and_assoc]
 ·rw[Bool.eq_false_iff.2 h];rfl
theorem aHq {n:Nt} (hs:oX n) {e:En} (h:aBj n e=true):∃i j q:Nat,i<5/\j<(aO n (i:Int)).length/\q<=(aN n (i:Int) (j:Int)).length/\e.node=i/\e.born=j/\e.num=q:=by
 unfold aBj at h;simp only[Bool.and_eq_true,bH]at h;obtain⟨⟨a0,a1⟩,⟨b0,b1⟩,c0,c1⟩:=h;have en:((e.node.toNat:Nat):Int)=e.node:=o_;have eb:((e.born.toNat:Nat):Int)=e.born:=o_;have eq:((e.num.toNat:Nat):Int)=e.num:=o_;refine⟨e.node.toNat,e.born.toNat,e.num.toNat,o_,?_,?_,en.symm,eb.symm,eq.symm⟩
 ·have:=hs.rows e.node.toNat o_
  rw[en]at this ⊢;omega
 ·rw[en,eb];omega
theorem aHM {n:Nt} {w0:World} {v1 v2 v3:Value} {x4:Option Addr} {c4:Nat} (hn:iP w0 v1 v2 v3 (.slice x4 5 c4) n) (hs:oX n) {e:En} (he:aBj n e=true) {m:Nat} (w:World) (l:List Ch) (h:M w0.heap.size w0 w (kT m (bW n)::l)):
  Calls prog 200 #[.agg #[.slice x4 5 c4,.map (some m)],.agg #[iv e.node,iv e.born,iv e.num]] w fun r w'=>∃V s,r=.returned (vS V s)/\s=bW n (e.node,e.born,e.num)/\M w0.heap.size w0 w' (rM m (bW n) V s::l):=by
 obtain⟨i,j,q,h1,h2,h3,e1,e2,e3⟩:=aHq hs he;rw[e1,e2,e3];exact aF7 hn hs h1 h2 q h3 rfl h
theorem sY {n:Nt} {w0:World} {x1 x4:Option Addr} {c1 c4:Nat} {v2 v3:Value} (hn:iP w0 (.slice x1 5 c1) v2 v3 (.slice x4 5 c4) n) (hs:oX n) (hf:oM n) (w:World) {m:Nat} {l:List Ch} (hm:M w0.heap.size w0 w (kT m (bW n)::l)) {xk:Option Addr} {ck:Nat} {es:List En} {f:List Nat} (h:gD TY w0 [.slice xk es.length ck] es f):
  Calls prog 156 #[.agg #[.slice x1 5 c1,v2,v3,.slice x4 5 c4],.slice xk es.length ck,.agg #[.slice x4 5 c4,.map (some m)]] w fun r w'=>r=.returned (.bool (dY n es))/\M w0.heap.size w0 w' (kT m (bW n)::l):=by
 obtain⟨_,_,e1,q1,q2⟩:=cM h;have hlen:es.length<=maxLen:=Nat.le_trans q1 q2;unfold maxLen at hlen;clear e1 q1 q2;have H1:=hd_ h;have HN:=hd_ hn;have HS:=hd_ hs;have HF:=hd_ hf;have h2:=(hm.alloc #[.slice x1 5 c1,v2,v3,.slice x4 5 c4] 30).alloc #[.slice x4 5 c4,.map (some m)] 120;simp only[World.size_alloc]at h2;obtain⟨p3,hp3⟩:=nm_ w.heap.size;obtain⟨p5,hp5⟩:=nm_ (w.heap.size+1)
 obtain⟨W2,hW2⟩:=nm_ ((w.alloc (.cells #[.slice x1 5 c1,v2,v3,.slice x4 5 c4] 30)).alloc (.cells #[.slice x4 5 c4,.map (some m)] 120));rw[<-hW2, <-hp5, <-hp3]at h2;have H:=hd_ h2;clear h hn hs hf hm h2;go_enter func156,ntmps156;go_wp2;rw[<-hW2, <-hp5, <-hp3];clear hW2 hp3 hp5
 go_loopw [7,12] (fun y z wr=>∃(j:Nat) (t:Int),j<=es.length/\z=.int .i64 (j:Int)/\y=.int .i64 t/\(j=0->t= -1)/\(0<j->∃d,es[j - 1]? =some d/\t=d.node)/\(∀(a:Nat) (x:En),a<j->es[a]? =some x->eS n x=true/\(0<a->∀d:En,es[a - 1]? =some d->d.node<x.node))/\M w0.heap.size w0 wr (aL p5 120 #[.slice x4 5 c4,.map (some m)]::aL p3 30 #[.slice x1 5 c1,v2,v3,.slice x4 5 c4]::kT m (bW n)::l)) (fun _ z _=>es.length - (intOf z).toNat)
 case atStart=>exact⟨0, -1,Nat.zero_le _,rfl,rfl,fun _=>rfl,fun q=>absurd q (Nat.lt_irrefl _),fun a x h=>absurd h (Nat.not_lt_zero _),H.out⟩
 case round=>
  clear H;obtain⟨j,t,hj,rfl,rfl,t0,t1,hno,hm⟩:=hrel;have NO:=hd_ hno;have H:=hd_ hm;have T0:=hd_ t0;have T1:=hd_ t1;clear hno hm t0 t1
  by_cases hlt:j<es.length
  ·obtain⟨x,hx⟩:∃x,es[j]? =some x:=⟨_,List.getElem?_eq_getElem hlt⟩
   obtain⟨g,V,fe,rfl,_,_,sr,ca0,ca1,ca2,cas⟩:=gY H1.out hx;have RV:=hd_ (aBf sr);have hWB:=H.out.below;replace ca0:=cell_later hWB ca0;replace ca1:=cell_later hWB ca1;replace ca2:=cell_later hWB ca2;have ca3:=cell_later hWB (cas 0 _ rfl);have ca4:=cell_later hWB (cas 1 _ rfl);have ca5:=cell_later hWB (cas 2 _ rfl);have ca6:=cell_later hWB (cas 3 _ rfl)
   have ca7:=cell_later hWB (cas 4 _ rfl);have ca8:=cell_later hWB (cas 5 _ rfl);have ca9:=cell_later hWB (cas 6 _ rfl);have HX:=hd_ hx;clear cas hWB sr hx;have k0:(0:Int)<=(j:Int):=o_;have k1:(j:Int)<(es.length:Int):=o_
   have h2:=H.out.alloc #[iv x.node,iv x.born,iv x.num,.slice V.xr V.nr V.cr,.slice V.xf V.nf V.cf,.slice V.xt V.nt V.ct,.int .i64 (x.s).lo,.int .i64 (x.s).al,.slice V.xk V.nk V.ck,.int .i64 (x.s).ka] 64;obtain⟨p9,hp9⟩:=nm_ wr.heap.size
   obtain⟨W,hW⟩:=nm_ (wr.alloc (.cells #[iv x.node,iv x.born,iv x.num,.slice V.xr V.nr V.cr,.slice V.xf V.nf V.cf,.slice V.xt V.nt V.ct,.int .i64 (x.s).lo,.int .i64 (x.s).al,.slice V.xk V.nk V.ck,.int .i64 (x.s).ka] 64));rw[<-hW, <-hp9]at h2;have H2:=hd_ h2.drew;clear h2 H;go_upto_region 5 with fail
   rw[<-hW, <-hp9];clear hW hp9 ca0 ca1 ca2 ca3 ca4 ca5 ca6 ca7 ca8 ca9
   have hcells:∀(W':World) (c1':Ch) (l':List Ch),M w0.heap.size w0 W' (c1'::aL p9 64 #[iv x.node,iv x.born,iv x.num,.slice V.xr V.nr V.cr,.slice V.xf V.nf V.cf,.slice V.xt V.nt V.ct,.int .i64 (x.s).lo,.int .i64 (x.s).al,.slice V.xk V.nk V.ck,.int .i64 (x.s).ka]::aL p5 120 #[.slice x4 5 c4,.map (some m)]::aL p3 30 #[.slice x1 5 c1,v2,v3,.slice x4 5 c4]::l')->aH W' (b4L p3 (.slice x1 5 c1) v2 v3 (.slice x4 5 c4)++([(⟨p5,0,none⟩,.slice x4 5 c4),(⟨p5,1,none⟩,.map (some m))]++jJ p9 x.node x.born x.num V x.s)):=fun _ _ _ h=>by
    obtain⟨d0,d1,d2,d3,d4,d5,d6,d7,d8,d9⟩:=h.p1.cells10;obtain⟨t0,t1⟩:=h.p2.cells2;obtain⟨a0,a1,a2,a3⟩:=h.p3.cells4;exact⟨a0,a1,a2,a3,t0,t1,d0,d1,d2,d3,d4,d5,d6,d7,d8,d9,trivial⟩
   have HC:=hd_ hcells;clear hcells;have C0:=hd_ (HC.out _ _ _ H2.out.p3);have KW:=hd_ (aKc W.drew V x (HN.out.below H2.out.below lr_) HS.out);have EI:=hd_ (aKb HF.out x)
   by_cases hle:x.node<=t
   ·have F:Hid (dY n es=false):=hd_ (by
          by_cases j0:j=0
          · have tt:=T0.out j0
            refine nI HX.out (.inl ?_)
            unfold eS in6
            rw[decide_eq_false o_];rfl
          · obtain⟨d,hd,td⟩:=T1.out o_
            exact nI HX.out (.inr ⟨o_,d,hd,o_⟩))
    have gl:decide (x.node<=t)=true:=decide_eq_true hle;clear hle KW EI
    refine aC 99 (.tk 0 7 (.alt 7 (.tk 8 7 (.alt 15 (.alt 16 (.alt 17 (.tk 18 2 .done) .nomore) .nomore) .nomore)) .nomore)) (fun w'=>aH w' (b4L p3 (.slice x1 5 c1) v2 v3 (.slice x4 5 c4)++([(⟨p5,0,none⟩,.slice x4 5 c4),(⟨p5,1,none⟩,.map (some m))]++jJ p9 x.node x.born x.num V x.s))) kr_ kr_ (fun _ _ _ _ _ h=>h) C0.out ?_
    repeat (first|refine tC_ ?_|refine tB_ ?_)
    refine aB r_ (fun K' hK=>?_);go_simp;refine hK _ _ (.inr C0.out) ?_;clear hK K'
    try refine tP_ ?_
    repeat (first|refine tC_ ?_|refine tB_ ?_)
    refine aB r_ (fun K' hK=>?_);go_simp;refine hK _ _ (.inr C0.out) ?_;clear hK K'
    try refine tP_ ?_
    refine aB r_ (fun K' hK=>?_);go_simp;refine hK _ _ (.inr C0.out) ?_;clear hK K'
    try refine tP_ ?_
    refine aB r_ (fun K' hK=>?_);go_simp;refine hK _ _ (.inr C0.out) ?_;clear hK K'
    try refine tP_ ?_
    repeat (first|refine tC_ ?_|refine tB_ ?_)
    refine aD ?_;go_wp2;go_ret;exact⟨by rw[F.out];rfl,H2.out.drop.drop.drop⟩
   have gl:decide (x.node<=t)=false:=decide_eq_false hle;have HLE:=hd_ hle;clear hle;obtain⟨q1,hq1⟩:=nm_ (aBj n x);rw[<-hq1]at EI KW;cases q1 with
   |false=>
    have F:Hid (dY n es=false):=hd_ (nI HX.out (.inl (by rw[EI.out];rfl)));clear hq1 EI
    refine aC 99 (.tk 0 7 (.alt 7 (.tk 8 7 (.alt 15 (.alt 16 (.alt 17 (.tk 18 2 .done) .nomore) .nomore) .nomore)) .nomore)) (fun w'=>aH w' (b4L p3 (.slice x1 5 c1) v2 v3 (.slice x4 5 c4)++([(⟨p5,0,none⟩,.slice x4 5 c4),(⟨p5,1,none⟩,.map (some m))]++jJ p9 x.node x.born x.num V x.s))) kr_ kr_ (fun _ _ _ _ _ h=>h) C0.out ?_
    repeat (first|refine tC_ ?_|refine tB_ ?_)
    refine aB r_ (fun K' hK=>?_);go_simp;refine KW.out.mono ?_;rintro e' w1 ⟨rfl,hb⟩;have C1:=hd_ (C0.out.below hb);have H3:=hd_ (H2.out.later hb);clear hb KW H2 C0;refine hK _ _ (.inr C1.out) ?_;clear hK K'
    try refine tP_ ?_
    repeat (first|refine tC_ ?_|refine tB_ ?_)
    refine aB r_ (fun K' hK=>?_);go_simp;refine hK _ _ (.inr C1.out) ?_;clear hK K'
    try refine tP_ ?_
    refine aB r_ (fun K' hK=>?_);go_simp;refine hK _ _ (.inr C1.out) ?_;clear hK K'
    try refine tP_ ?_
    refine aB r_ (fun K' hK=>?_);go_simp;refine hK _ _ (.inr C1.out) ?_;clear hK K'
    try refine tP_ ?_
    repeat (first|refine tC_ ?_|refine tB_ ?_)
    refine aD ?_;go_wp2;go_ret;exact⟨by rw[F.out];rfl,H3.out.drop.drop.drop⟩
   |true=>
    have KS:=hd_ (fun (w':World) (l':List Ch) (h:M w0.heap.size w0 w' (kT m (bW n)::l'))=>aHM HN.out HS.out hq1.symm w' l' h);obtain⟨q2,hq2⟩:=nm_ (mO x.s (bW n (x.node,x.born,x.num)));rw[<-hq2]at EI;have Q2:=hd_ hq2;clear hq1 hq2;cases q2 with
    |false=>
     have F:Hid (dY n es=false):=hd_ (nI HX.out (.inl (by rw[EI.out];rfl)));clear EI
     refine aC 99 (.tk 0 7 (.alt 7 (.tk 8 7 (.alt 15 (.alt 16 (.alt 17 (.tk 18 2 .done) .nomore) .nomore) .nomore)) .nomore)) (fun w'=>aH w' (b4L p3 (.slice x1 5 c1) v2 v3 (.slice x4 5 c4)++([(⟨p5,0,none⟩,.slice x4 5 c4),(⟨p5,1,none⟩,.map (some m))]++jJ p9 x.node x.born x.num V x.s))) kr_ kr_ (fun _ _ _ _ _ h=>h) C0.out ?_
     repeat (first|refine tC_ ?_|refine tB_ ?_)
     refine aB r_ (fun K' hK=>?_);go_simp;refine KW.out.mono ?_;rintro e' w1 ⟨rfl,hb⟩;have C1:=hd_ (C0.out.below hb);have H3:=hd_ (H2.out.later hb);clear hb KW H2 C0;refine hK _ _ (.inr C1.out) ?_;clear hK K'
     try refine tP_ ?_
     repeat (first|refine tC_ ?_|refine tB_ ?_)
     refine aB r_ (fun K' hK=>?_);go_simp;refine (uI w1 V x).mono ?_;rintro e' w2 ⟨rfl,hb⟩;have C2:=hd_ (C1.out.below hb);have H4:=hd_ (H3.out.later hb);clear hb H3 C1;refine hK _ _ (.inr C2.out) ?_;clear hK K'
     try refine tP_ ?_
     refine aB r_ (fun K' hK=>?_);go_simp;refine (KS.out _ _ H4.out.p3).mono ?_;rintro e' w3 ⟨V3,s3,rfl,es3,hm3⟩;have H5:=hd_ hm3;have E3:=hd_ es3;clear hm3 es3 KS C2 H4;refine hK _ _ (.inr (HC.out _ _ _ H5.out)) ?_;clear hK K'
     try refine tP_ ?_
     refine aB r_ (fun K' hK=>?_);go_simp;refine (vP w3 (RV.out.below H5.out.below lr_) (aCO H5.out)).mono ?_;rintro e' w4 ⟨rfl,hb⟩;rw[E3.out];rw[<-Q2.out];have H6:=hd_ (sD (H5.out.later hb)).p3.p3.p3;have C6:=hd_ (aH.below (HC.out _ _ _ H5.out) hb);clear hb H5;refine hK _ _ (.inr C6.out) ?_;clear hK K'
     try refine tP_ ?_
     repeat (first|refine tC_ ?_|refine tB_ ?_)
     refine aD ?_;go_wp2;go_ret;exact⟨by rw[F.out];rfl,H6.out.drop.drop.drop⟩
    |true=>
     have NO2:Hid (∀(a:Nat) (y:En),a<j+1->es[a]? =some y->eS n y=true/\(0<a->∀d:En,es[a - 1]? =some d->d.node<y.node)):=hd_ fun a y ha hy=>by
      by_cases e:a<j
      ·exact NO.out a y e hy
      ·obtain rfl:a=j:=o_
       rw[HX.out]at hy;cases hy;refine⟨by rw[EI.out];rfl,fun a0 d hd=>?_⟩;obtain⟨d',hd',td⟩:=T1.out a0;rw[hd]at hd';cases hd';have:=HLE.out;omega
     have TX:Hid (0<j+1->∃d,es[j+1 - 1]? =some d/\x.node=d.node):=hd_ fun _=>⟨x,by rw[Nat.add_sub_cancel];exact HX.out,rfl⟩
     clear EI;refine aC 99 (.tk 0 7 (.alt 7 (.tk 8 7 (.alt 15 (.alt 16 (.alt 17 (.tk 18 2 .done) .nomore) .nomore) .nomore)) .nomore)) (fun w'=>aH w' (b4L p3 (.slice x1 5 c1) v2 v3 (.slice x4 5 c4)++([(⟨p5,0,none⟩,.slice x4 5 c4),(⟨p5,1,none⟩,.map (some m))]++jJ p9 x.node x.born x.num V x.s))) kr_ kr_ (fun _ _ _ _ _ h=>h) C0.out ?_
     repeat (first|refine tC_ ?_|refine tB_ ?_)
     refine aB r_ (fun K' hK=>?_);go_simp;refine KW.out.mono ?_;rintro e' w1 ⟨rfl,hb⟩;have C1:=hd_ (C0.out.below hb);have H3:=hd_ (H2.out.later hb);clear hb KW H2 C0;refine hK _ _ (.inr C1.out) ?_;clear hK K'
     try refine tP_ ?_
     repeat (first|refine tC_ ?_|refine tB_ ?_)
     refine aB r_ (fun K' hK=>?_);go_simp;refine (uI w1 V x).mono ?_;rintro e' w2 ⟨rfl,hb⟩;have C2:=hd_ (C1.out.below hb);have H4:=hd_ (H3.out.later hb);clear hb H3 C1;refine hK _ _ (.inr C2.out) ?_;clear hK K'
     try refine tP_ ?_
     refine aB r_ (fun K' hK=>?_);go_simp;refine (KS.out _ _ H4.out.p3).mono ?_;rintro e' w3 ⟨V3,s3,rfl,es3,hm3⟩;have H5:=hd_ hm3;have E3:=hd_ es3;clear hm3 es3 KS C2 H4;refine hK _ _ (.inr (HC.out _ _ _ H5.out)) ?_;clear hK K'
     try refine tP_ ?_
     refine aB r_ (fun K' hK=>?_);go_simp;refine (vP w3 (RV.out.below H5.out.below lr_) (aCO H5.out)).mono ?_;rintro e' w4 ⟨rfl,hb⟩;rw[E3.out];rw[<-Q2.out];have H6:=hd_ (sD (H5.out.later hb)).p3.p3.p3;have C6:=hd_ (aH.below (HC.out _ _ _ H5.out) hb);clear hb H5;refine hK _ _ (.inr C6.out) ?_;clear hK K'
     try refine tP_ ?_
     repeat (first|refine tC_ ?_|refine tB_ ?_)
     refine aD ?_;obtain⟨d0,d1,d2,d3,d4,d5,d6,d7,d8,d9⟩:=H6.out.cells10;go_wp2;go_roundw
     case rel=>exact⟨j+1,x.node,o_,gn_,rfl,fun q=>absurd q o_,TX.out,NO2.out,H6.out.drop⟩
     case measure=>simp[intOf];omega
  ·obtain rfl:j=es.length:=o_
   have F:Hid (dY n es=true):=hd_ (yP.2 fun a x hx=>NO.out a x (List.getElem?_eq_some_iff.1 hx).1 hx);go_wp2;go_ret;exact⟨by rw[F.out];rfl,H.out.drop.drop⟩
theorem aCP {n:Nt} {w0:World} {x1 x4:Option Addr} {c1 c4:Nat} {v2 v3:Value} (hn:iP w0 (.slice x1 5 c1) v2 v3 (.slice x4 5 c4) n) (hs:oX n) (hf:oM n) (hb:∀i:Nat,i<5->1<=(aA n (i:Int)).born) (w:World) {m:Nat} {l:List Ch} (hm:M w0.heap.size w0 w (kT m (bW n)::l)) {i:Nat} (i5:i<5):
  Calls prog 82 #[.agg #[.slice x1 5 c1,v2,v3,.slice x4 5 c4],iv (i:Int),.agg #[.slice x4 5 c4,.map (some m)]] w fun r w'=>r=.returned (.bool (dY n (aA n (i:Int)).known&&wL n (i:Int)))/\M w0.heap.size w0 w' (kT m (bW n)::l):=by
 obtain⟨f1,n1⟩:=hn.nodes;obtain⟨f4,n4⟩:=hn.past;obtain⟨nd,hnd⟩:∃nd,n.nodes[i]? =some nd:=⟨_,List.getElem?_eq_getElem (by rw[hs.nodes];exact i5)⟩
 obtain⟨rs,hrs⟩:∃rs,n.past[i]? =some rs:=⟨_,List.getElem?_eq_getElem (by rw[hs.past];exact i5)⟩
 have eN:aA n (i:Int)=nd:=by unfold aA;rw[List.getD_eq_getElem?_getD,Int.toNat_natCast,hnd];rfl
 have eR:aO n (i:Int)=rs:=by unfold aO;rw[List.getD_eq_getElem?_getD,Int.toNat_natCast,hrs];rfl
 have eL:=hs.rows i i5;have eB:=hb i i5;rw[eN]at eL eB;rw[eR]at eL;obtain⟨g1,xk,ck,fk,rfl,_,_,rk,_,_,b0,b1,b2,b3,b4⟩:=cB n1 hnd;obtain⟨g4,xr,cr,fr,rfl,_,_,rr,_,_,y0⟩:=jO n4 hrs;obtain⟨born,known,beacon,level,up⟩:=nd;simp only at eL eB b0 b1 b2 b3 b4 rk;obtain⟨j,rfl⟩:∃j:Nat,born=j:=⟨born.toNat,o_⟩
 have jr:j<rs.length:=o_;obtain⟨lp,hlp⟩:∃lp,rs[j]? =some lp:=⟨_,List.getElem?_eq_getElem jr⟩
 have EP:Hid (aN n (i:Int) (j:Int)=lp):=hd_ (by unfold aN;rw[eR,List.getD_eq_getElem?_getD,Int.toNat_natCast,hlp];rfl);obtain⟨g5,xl,cl,fl,rfl,_,_,_,lc,lm,y1⟩:=lH rr hlp;have OB:Hid (wL n (i:Int)=match bM known (i:Int)with|some e=>decide (e.born=(j:Int))&&decide (e.num=(lp.length:Int))|none=>false):=hd_ (by unfold wL;rw[eN];simp only[EP.out];cases bM known (i:Int)<;>rfl)
 rw[eN];have BJ:=hd_ eB;have Y0:=hd_ y0;have Y1:=hd_ y1;have RK:=hd_ rk;have HN:=hd_ hn;have HS:=hd_ hs;have HF:=hd_ hf;have i0:(0:Int)<=(i:Int):=o_;have i5':(i:Int)<5:=o_;have j0:(0:Int)<=(j:Int):=o_;have j1:(j:Int)<(rs.length:Int):=o_;have h1:=(hm.alloc #[.slice (some ⟨g1,0,none⟩) 5 c1,v2,v3,.slice (some ⟨g4,0,none⟩) 5 c4] 30).alloc #[.slice (some ⟨g4,0,none⟩) 5 c4,.map (some m)] 120
 simp only[World.size_alloc]at h1;obtain⟨p3,hp3⟩:=nm_ w.heap.size;obtain⟨p5,hp5⟩:=nm_ (w.heap.size+1);obtain⟨W1,hW1⟩:=nm_ ((w.alloc (.cells #[.slice (some ⟨g1,0,none⟩) 5 c1,v2,v3,.slice (some ⟨g4,0,none⟩) 5 c4] 30)).alloc (.cells #[.slice (some ⟨g4,0,none⟩) 5 c4,.map (some m)] 120));rw[<-hW1, <-hp5, <-hp3]at h1;have H1:=hd_ h1;replace b0:=cell_later h1.below b0;replace b1:=cell_later h1.below b1
 replace b2:=cell_later h1.below b2;replace b3:=cell_later h1.below b3;replace b4:=cell_later h1.below b4;obtain⟨a0,a1,a2,a3⟩:=h1.p1.cells4;have h2:=h1.alloc #[iv (j:Int),.slice xk known.length ck,iv beacon,iv level,iv up] 55;obtain⟨p7,hp7⟩:=nm_ W1.heap.size;obtain⟨W2,hW2⟩:=nm_ (W1.alloc (.cells #[iv (j:Int),.slice xk known.length ck,iv beacon,iv level,iv up] 55));rw[<-hW2, <-hp7]at h2
 have H2:=hd_ h2;have KO:=hd_ (aDv W2 ((aV aP _ _).below RK.out h2.below lr_) (i:Int));clear h1 h2 hn hs hf hb hm n1 n4 hnd hrs eN eR eL eB rk rr hlp lc lm y0 y1 jr H1;go_enter func82,ntmps82;go_upto_region 1 with fail
 rw[<-hW1, <-hp5, <-hp3];clear hW1 hp5 hp3;go_upto_region 2 with fail
 rw[<-hW2, <-hp7];clear hW2 hp7 a0 a1 a2 a3 b0 b1 b2 b3 b4;obtain⟨d0,d1,d2,d3,d4⟩:=H2.out.cells5
 go_wp2_with fail
 refine KO.out.mono ?_;rintro r w3 ⟨⟨u,rfl,hu⟩,hb⟩;have H3:=hd_ (H2.out.later hb);clear hb KO H2 d0 d1 d2 d3 d4
 obtain⟨ua,ub,uc,V,s,q1,q2,rfl,hq1,hq2,ho⟩:∃(ua ub uc:Int) (V:SV) (s:Sm) (q1 q2:Bool),u=.agg #[iv ua,iv ub,iv uc,.slice V.xr V.nr V.cr,.slice V.xf V.nf V.cf,.slice V.xt V.nt V.ct,iv s.lo,iv s.al,.slice V.xk V.nk V.ck,iv s.ka]/\(ub==(j:Int))=q1/\(uc==(lp.length:Int))=q2/\wL n (i:Int)=(q1&&q2):=by
  rcases hu with ⟨e,V,h1,h2,h3⟩|⟨h1,h3⟩
  ·refine⟨e.node,e.born,e.num,V,e.s,_,_,h3,rfl,rfl,?_⟩
   rw[OB.out,h1]
   rfl
  ·refine⟨0,0,0,SV.none,oN,false,_,h3,?_,rfl,?_⟩
   ·have:=BJ.out
    simp;omega
   ·rw[OB.out,h1]
    rfl
 have HO:=hd_ ho;clear hu ho OB;have h4:=H3.out.alloc #[iv ua,iv ub,iv uc,.slice V.xr V.nr V.cr,.slice V.xf V.nf V.cf,.slice V.xt V.nt V.ct,iv s.lo,iv s.al,.slice V.xk V.nk V.ck,iv s.ka] 64;obtain⟨p8,hp8⟩:=nm_ w3.heap.size;obtain⟨W4,hW4⟩:=nm_ (w3.alloc (.cells #[iv ua,iv ub,iv uc,.slice V.xr V.nr V.cr,.slice V.xf V.nf V.cf,.slice V.xt V.nt V.ct,iv s.lo,iv s.al,.slice V.xk V.nk V.ck,iv s.ka] 64))
 rw[<-hW4, <-hp8]at h4;have H4:=hd_ h4.drew;clear h4 H3;go_upto_region 3 with fail
 rw[<-hW4, <-hp8];clear hW4 hp8
 have hcells:∀(W':World) (c1':Ch) (l':List Ch),M w0.heap.size w0 W' (c1'::aL p8 64 #[iv ua,iv ub,iv uc,.slice V.xr V.nr V.cr,.slice V.xf V.nf V.cf,.slice V.xt V.nt V.ct,iv s.lo,iv s.al,.slice V.xk V.nk V.ck,iv s.ka]::aL p7 55 #[iv (j:Int),.slice xk known.length ck,iv beacon,iv level,iv up]::aL p5 120 #[.slice (some ⟨g4,0,none⟩) 5 c4,.map (some m)]::aL p3 30 #[.slice (some ⟨g1,0,none⟩) 5 c1,v2,v3,.slice (some ⟨g4,0,none⟩) 5 c4]::l')->aH W' (b4L p3 (.slice (some ⟨g1,0,none⟩) 5 c1) v2 v3 (.slice (some ⟨g4,0,none⟩) 5 c4)++([(⟨p5,0,none⟩,.slice (some ⟨g4,0,none⟩) 5 c4),(⟨p5,1,none⟩,.map (some m))]++(b5L p7 (iv (j:Int)) (.slice xk known.length ck) (iv beacon) (iv level) (iv up)++(jJ p8 ua ub uc V s++[(⟨g4,i,none⟩,.slice (some ⟨g5,0,none⟩) rs.length cr),(⟨g5,j,none⟩,.slice xl lp.length cl)])))):=fun _ _ _ h=>by
  obtain⟨d0,d1,d2,d3,d4,d5,d6,d7,d8,d9⟩:=h.p1.cells10;obtain⟨e0,e1,e2,e3,e4⟩:=h.p2.cells5;obtain⟨t0,t1⟩:=h.p3.cells2;obtain⟨a0,a1,a2,a3⟩:=h.p4.cells4;exact⟨a0,a1,a2,a3,t0,t1,e0,e1,e2,e3,e4,d0,d1,d2,d3,d4,d5,d6,d7,d8,d9,cell_later h.below Y0.out,cell_later h.below Y1.out,trivial⟩
 have HC:=hd_ hcells;clear hcells;obtain⟨q0,hq0⟩:=nm_ (dY n known);have KE:=hd_ (sY HN.out HS.out HF.out W4.drew H4.out.p4 RK.out);rw[<-hq0]at KE;have RES:Hid ((dY n known&&wL n (i:Int))=(q0&&(q1&&q2))):=hd_ (by rw[<-hq0,HO.out]);clear hq0 HO;have C0:=hd_ (HC.out _ _ _ H4.out.p4);refine aJA (a:=q0) (b:=q1) (c:=q2) ?_ ?_ ?_ ?_
 all_goals
  first
   |(intro e0 e1 e2;subst e0 e1 e2)
   |(intro e0 e1;subst e0 e1)
   |(intro e0;subst e0)
  refine aC 99 (.tk 0 4 (.alt 4 (.tk 5 22 (.alt 27 .done .nomore)) .nomore)) (fun w'=>aH w' (b4L p3 (.slice (some ⟨g1,0,none⟩) 5 c1) v2 v3 (.slice (some ⟨g4,0,none⟩) 5 c4)++([(⟨p5,0,none⟩,.slice (some ⟨g4,0,none⟩) 5 c4),(⟨p5,1,none⟩,.map (some m))]++(b5L p7 (iv (j:Int)) (.slice xk known.length ck) (iv beacon) (iv level) (iv up)++(jJ p8 ua ub uc V s++[(⟨g4,i,none⟩,.slice (some ⟨g5,0,none⟩) rs.length cr),(⟨g5,j,none⟩,.slice xl lp.length cl)]))))) kr_ kr_ (fun _ _ _ _ _ h=>h) C0.out ?_
  repeat (first|refine tC_ ?_|refine tB_ ?_)
  refine aB r_ (fun K' hK=>?_);go_simp;refine KE.out.mono ?_;rintro e' w5 ⟨rfl,hm5⟩;have H5:=hd_ hm5;clear hm5;refine hK _ _ (.inr (HC.out _ _ _ H5.out)) ?_;clear hK K'
  try refine tP_ ?_
  repeat (first|refine tC_ ?_|refine tB_ ?_)
  refine aB r_ (fun K' hK=>?_);go_simp;refine hK _ _ (.inr (HC.out _ _ _ H5.out)) ?_;clear hK K';refine aD ?_;go_wp2;go_ret;exact⟨by rw[RES.out];first|rfl|simp,H5.out.p1.drop.p1.drop.p1.drop.p1.drop⟩
theorem aIM (x:Wd):aCF x=two x.src x.dst:=by
 unfold aCF two;rw[Bool.and_assoc]
theorem aFb {n:Nt} {w0:World} {x1 x4:Option Addr} {c1 c4:Nat} {v2 v3:Value} (hn:iP w0 (.slice x1 5 c1) v2 v3 (.slice x4 5 c4) n) (hs:oX n) (hf:oM n) (w:World) {m:Nat} {l:List Ch} (hm:M w0.heap.size w0 w (kT m (bW n)::l)) (x:Wd) {xk:Option Addr} {ck:Nat} {f:List Nat} (h:gD TY w0 [.slice xk x.known.length ck] x.known f):
  Calls prog 83 #[.agg #[.slice x1 5 c1,v2,v3,.slice x4 5 c4],.agg #[iv x.kind,iv x.src,iv x.dst,iv x.beacon,iv x.level,.slice xk x.known.length ck],.agg #[.slice x4 5 c4,.map (some m)]] w fun r w'=>r=.returned (.bool (iT n x))/\M w0.heap.size w0 w' (kT m (bW n)::l):=by
 obtain⟨f1,n1⟩:=hn.nodes;have h1:=((hm.alloc #[.slice x1 5 c1,v2,v3,.slice x4 5 c4] 30).alloc #[iv x.kind,iv x.src,iv x.dst,iv x.beacon,iv x.level,.slice xk x.known.length ck] 123).alloc #[.slice x4 5 c4,.map (some m)] 120;simp only[World.size_alloc]at h1;obtain⟨p3,hp3⟩:=nm_ w.heap.size;obtain⟨p4,hp4⟩:=nm_ (w.heap.size+1);obtain⟨p5,hp5⟩:=nm_ (w.heap.size+1+1)
 obtain⟨W1,hW1⟩:=nm_ (((w.alloc (.cells #[.slice x1 5 c1,v2,v3,.slice x4 5 c4] 30)).alloc (.cells #[iv x.kind,iv x.src,iv x.dst,iv x.beacon,iv x.level,.slice xk x.known.length ck] 123)).alloc (.cells #[.slice x4 5 c4,.map (some m)] 120));rw[<-hW1, <-hp5, <-hp4, <-hp3]at h1;have H1:=hd_ h1;obtain⟨a0,a1,a2,a3⟩:=h1.p2.cells4;obtain⟨d0,d1,d2,d3,d4,d5⟩:=h1.p1.cells6;obtain⟨t0,t1⟩:=h1.cells2
 have HF:Hid (∀b,b=two x.src x.dst->iT n x=(b&&(if x.kind=1 then (in6 x.beacon 0 (aA n 0).beacon&&(in6 x.level 0 4&&decide (x.known.length=0)))else if x.kind=2 then (decide (x.beacon=0)&&(decide (x.level=0)&&dY n x.known))else false))):=hd_ fun b hb=>by
  unfold iT;rw[aIM,hb]
  by_cases k1:x.kind=1
  ·simp[k1]
  ·by_cases k2:x.kind=2<;>simp[k1,k2]
 obtain⟨b,hb⟩:=nm_ (two x.src x.dst);have WF:=hd_ (HF.out b hb);have KT:=hd_ (aCr W1 x.src x.dst);rw[<-hb]at KT;have HS:=hd_ hs;have HFi:=hd_ hf;have HN:=hd_ hn;have HR:=hd_ h;have N1:=hd_ n1;obtain⟨kind,src,dst,beacon,level,known⟩:=x;simp only at *;clear h1 hm HF hb hs hf hn h n1;go_enter func83,ntmps83;go_upto_region 1 with fail
 rw[<-hW1, <-hp5, <-hp4, <-hp3];clear hW1 hp5 hp4 hp3
 go_wp2_with fail
 refine KT.out.mono ?_;rintro r w2 ⟨rfl,hw2⟩;rw[<-hw2];clear hw2 w2 KT;rcases b with _|_
 case false=>
  have F:Hid (iT n ⟨kind,src,dst,beacon,level,known⟩=false):=hd_ (by rw[WF.out];rfl);go_wp2;go_ret;exact⟨by rw[F.out];rfl,H1.out.drop.drop.drop⟩
 by_cases k1:kind=1
 ·subst k1
  obtain⟨b1,hb1⟩:=nm_ (in6 beacon 0 (aA n 0).beacon);have KB:=hd_ (uH W1 (v2:=v2) (v3:=v3) (v4:=.slice x4 5 c4) ((aV aY _ _).below N1.out H1.out.below lr_) hb1);obtain⟨b2,hb2⟩:=nm_ (decide (0<=level));obtain⟨b3,hb3⟩:=nm_ (decide (level<5));obtain⟨b4,hb4⟩:=nm_ ((known.length:Int)==0);have RES:Hid (iT n ⟨1,src,dst,beacon,level,known⟩=(b1&&(b2&&(b3&&b4)))):=hd_ (by
      rw[WF.out,if_pos rfl, <-hb1,hb2,hb3,hb4]
      unfold in6
      by_cases x:0<=level<;>by_cases y:level<5<;>by_cases z:known.length=0<;>simp[x,y,z]<;>omega)
  have g2:=hb2.symm;have g3:=hb3.symm;have g4:=hb4.symm;clear hb1 hb2 hb3 hb4 WF
  go_wp2_with fail
  refine KB.out.mono ?_;rintro r w2 ⟨rfl,hb⟩;have H2:=hd_ (H1.out.later hb);clear hb KB H1 a0 a1 a2 a3 d0 d1 d2 d3 d4 d5 t0 t1;obtain⟨d0,d1,d2,d3,d4,d5⟩:=H2.out.p1.cells6;refine aIn (a:=b1) (b:=b2) (c:=b3) (d:=b4) ?_ ?_ ?_ ?_ ?_
  all_goals
   first
    |(intro e0 e1 e2 e3;subst e0 e1 e2 e3)
    |(intro e0 e1 e2;subst e0 e1 e2)
    |(intro e0 e1;subst e0 e1)
    |(intro e0;subst e0)
   go_wp2;go_ret;exact⟨by rw[RES.out];first|rfl|simp,H2.out.drop.drop.drop⟩
 have gk1:(kind==1)=false:=by simpa using k1
 by_cases k2:kind=2
 ·subst k2
  obtain⟨b1,hb1⟩:=nm_ (beacon==0);obtain⟨b2,hb2⟩:=nm_ (level==0);obtain⟨b3,hb3⟩:=nm_ (dY n known);have KE:=hd_ (sY HN.out HS.out HFi.out W1 H1.out.p3 HR.out);rw[<-hb3]at KE;have RES:Hid (iT n ⟨2,src,dst,beacon,level,known⟩=(b1&&(b2&&b3))):=hd_ (by
      rw[WF.out,if_neg k1,if_pos rfl,hb1,hb2,hb3];rfl)
  have g1:=hb1.symm;have g2:=hb2.symm;clear hb1 hb2 hb3 WF;rcases b1 with _|_
  case false=>
   go_wp2;go_ret;exact⟨by rw[RES.out];rfl,H1.out.drop.drop.drop⟩
  rcases b2 with _|_
  case false=>
   go_wp2;go_ret;exact⟨by rw[RES.out];rfl,H1.out.drop.drop.drop⟩
  go_wp2_with fail
  refine KE.out.mono ?_;rintro r w2 ⟨rfl,hm2⟩;have H2:=hd_ hm2;clear hm2 KE;go_wp2;go_ret;exact⟨by rw[RES.out];rfl,H2.out.p1.drop.p1.drop.p1.drop⟩
 have gk2:(kind==2)=false:=by simpa using k2
 have F:Hid (iT n ⟨kind,src,dst,beacon,level,known⟩=false):=hd_ (by rw[WF.out,if_neg k1,if_neg k2];rfl);clear k1 k2;go_wp2;go_ret;exact⟨by rw[F.out];rfl,H1.out.drop.drop.drop⟩
end N
end Go.Proofs.YtcblbdpdbggkbaaGreat
namespace Go.Proofs.YtcblbdpdbggkbaaGreat
open _root_.Go.Proofs.Tryz
open Go.RowKit Go.Sort
namespace N
def plB (ls:List Bool) (k:Nat):Bool:= !(ls.getD k false) || (!(decide ((k:Int) / 5=(k:Int) % 5))&&lkP ls 25 ((k:Int) % 5) ((k:Int) / 5))
def gU (ls:List Bool):Bool:=decide (ls.length=25)&&(List.range 25).all (plB ls)
theorem aAz {ls:List Bool} {k:Nat} (hk:k<25) (h:plB ls k=false):gU ls=false:=by
 unfold gU;rw[mA (i:=k) (a:=k) (p:=plB ls) (by rw[List.getElem?_range hk]) h,Bool.and_false]
theorem aB4 {ls:List Bool} (hl:ls.length=25) (h:∀k,k<25->plB ls k=true):gU ls=true:=by
 unfold gU;rw[decide_eq_true hl,List.all_eq_true.2 (fun k hk=>h k (List.mem_range.1 hk))];rfl
theorem aCQ {ls:List Bool} (hl:ls.length≠25):gU ls=false:=by
 unfold gU;rw[decide_eq_false hl];rfl
theorem aDk (w:World) {x:Option Addr} {c:Nat} {ls:List Bool} {f:List Nat} (h:sK TY w [.slice x ls.length c] ls f):
  Calls prog 79 #[.slice x ls.length c] w fun r w'=>r=.returned (.bool (gU ls))/\Below w.heap.size w w':=by
 obtain⟨n,hn⟩:=nm_ ls.length;rw[<-hn]at h ⊢
 by_cases h5:n=25
 case neg=>
  have F:Hid (gU ls=false):=hd_ (aCQ o_);have g:((n:Int) != 25)=true:=by simpa using (show (n:Int)≠25 by omega)
  clear h hn h5;go_enter func79,ntmps79;go_wp2;go_ret;exact⟨by rw[F.out];rfl,Below.refl _ _⟩
 subst h5;have H1:=hd_ h;have HL:=hd_ hn.symm;clear h hn;have KL:=hd_ (aCK w H1.out);have g:(((25:Nat):Int) != 25)=false:=by decide
 go_enter func79,ntmps79
 go_wp2_with fail
 refine KL.out.mono ?_;rintro r w1 ⟨m,g0,rfl,hm,hg⟩;have H:=hd_ hm;have HG:=hd_ hg;have HB:=hd_ hm.below;clear hm hg KL g;go_wp2;go_loopw [14] (fun z wr=>∃k:Nat,k<=25/\z=.int .i64 (k:Int)/\M w.heap.size w wr [zW vQ aBO m g0]/\(∀j,j<k->plB ls j=true)) (fun z _=>25 - (intOf z).toNat)
 case atStart=>exact⟨0,Nat.zero_le _,rfl,H.out,fun j hj=>absurd hj (Nat.not_lt_zero _)⟩
 case round=>
  clear H HB;obtain⟨k,hk,rfl,hm,hno⟩:=hrel;have H:=hd_ hm;have NO:=hd_ hno;clear hm hno
  by_cases hlt:k<25
  ·obtain⟨u,hu⟩:∃u,ls[k]? =some u:=⟨_,List.getElem?_eq_getElem (by rw[HL.out];exact hlt)⟩
   obtain⟨g1,rfl,_,c0⟩:=mX H1.out hu;have HU:Hid (plB ls k=(!u || (!(decide ((k:Int) / 5=(k:Int) % 5))&&lkP ls 25 ((k:Int) % 5) ((k:Int) / 5)))):=hd_ (by unfold plB;rw[List.getD_eq_getElem?_getD,hu];rfl);replace c0:=cell_later H.out.below c0;have KE:=hd_ (fun W=>aB1 W k hlt)
   have EO:=hd_ (show vQ ((k:Int) % 5,(k:Int) / 5)from⟨⟨by simp;omega,by simp;omega⟩,⟨by simp;omega,by simp;omega⟩⟩);have HK:=hd_ hlt;have k0:(0:Int)<=(k:Int):=o_;have k1:(k:Int)<25:=o_;clear hu
   go_wp2_with fail
   refine (KE.out _).mono ?_;rintro e w4 ⟨rfl,hb⟩;have H2:=hd_ ((H.out.later hb).alloc #[iv ((k:Int) / 5),iv ((k:Int) % 5)] 130);clear hb H KE c0;have NX:Hid (plB ls k=true->∀j,j<k+1->plB ls j=true):=hd_ fun h j hj=>by
    by_cases e:j<k
    ·exact NO.out j e
    ·obtain rfl:j=k:=o_
     exact h
   obtain⟨t,ht⟩:=nm_ (lkP ls 25 ((k:Int) % 5) ((k:Int) / 5));have LL:=aGX H2.out.p1 HG.out ((k:Int) % 5) ((k:Int) / 5) EO.out;rw[<-ht]at HU LL;clear ht;cases u with
   |false=>
    have NY:=hd_ (NX.out (by rw[HU.out];rfl));clear NX HU LL;exact zBN
   |true=>
    by_cases hq:(k:Int) / 5=(k:Int) % 5
    ·have F:Hid (gU ls=false):=hd_ (aAz HK.out (by rw[HU.out,decide_eq_true hq];rfl))
     have gq:((k:Int) / 5==(k:Int) % 5)=true:=by simpa using hq
     clear hq NX HU LL;exact zBk
    ·have gq:((k:Int) / 5==(k:Int) % 5)=false:=by simpa using hq
     have HQ:=hd_ hq;clear hq;cases t with
     |false=>
      have F:Hid (gU ls=false):=hd_ (aAz HK.out (by rw[HU.out];simp));clear NX HU;exact zBk
     |true=>
      have NY:=hd_ (NX.out (by rw[HU.out,decide_eq_false HQ.out];rfl));clear NX HU;exact zBN
  ·obtain rfl:k=25:=o_
   have F:Hid (gU ls=true):=hd_ (aB4 HL.out NO.out);exact zAA
theorem aK3 {n:Nt} {k:Nat}:n.links.getD k false=whole n ((k:Int) / 5) ((k:Int) % 5):=by
 unfold whole
 congr 1
 omega
theorem aJI {n:Nt} {a b:Int} (ha:aE a) (hb:aE b):lkP n.links 25 a b=whole n a b:=by
 unfold lkP whole;unfold aE at ha hb;rw[decide_eq_true (by omega),Bool.true_and]
theorem aF9 {n:Nt} {k:Nat} (hk:k<25):plB n.links k=(!(whole n ((k:Int) / 5) ((k:Int) % 5)) || (!(decide ((k:Int) / 5=(k:Int) % 5))&&whole n ((k:Int) % 5) ((k:Int) / 5))):=by
 unfold plB;rw[aK3,aJI (by unfold aE;omega) (by unfold aE;omega)]
theorem aI0 {n:Nt} (h:aM n):gU n.links=true:=by
 refine aB4 h.links fun k hk=>?_
 have h1:aE ((k:Int) / 5):=by unfold aE;omega
 have h2:aE ((k:Int) % 5):=by unfold aE;omega
 rw[aF9 hk]
 by_cases e:(k:Int) / 5=(k:Int) % 5
 ·rw[e,h.self _ h2];rfl
 ·rw[h.either _ _ h1 h2,decide_eq_false e]
  cases whole n ((k:Int) % 5) ((k:Int) / 5)<;>rfl
theorem aAV {n:Nt} (h:gU n.links=true):n.links.length=25/\∀k,k<25->plB n.links k=true:=by
 unfold gU at h;simp only[Bool.and_eq_true,decide_eq_true_eq,List.all_eq_true,List.mem_range]at h;exact h
theorem aF0 {n:Nt} (h:gU n.links=true) {i:Int} (hi:aE i):whole n i i=false:=by
 unfold aE at hi;have:=(aAV h).2 (i * 5+i).toNat (by omega);rw[aF9 (by omega)]at this;rw[show (((i * 5+i).toNat:Nat):Int) / 5=i by omega,show (((i * 5+i).toNat:Nat):Int) % 5=i by omega]at this;cases q:whole n i i with
 |false=>rfl
 |true=>rw[q]at this;simp at this
theorem aBb {n:Nt} (h:gU n.links=true) {i j:Int} (hi:aE i) (hj:aE j) (q:whole n i j=true):whole n j i=true:=by
 unfold aE at hi hj;have:=(aAV h).2 (i * 5+j).toNat (by omega);rw[aF9 (by omega)]at this;rw[show (((i * 5+j).toNat:Nat):Int) / 5=i by omega,show (((i * 5+j).toNat:Nat):Int) % 5=j by omega,q]at this;simp only[Bool.not_true,Bool.false_or,Bool.and_eq_true]at this;exact this.2
theorem aCL {n:Nt} (h:gU n.links=true) {i j:Int} (hi:aE i) (hj:aE j):whole n i j=whole n j i:=by
 cases q:whole n i j with
 |true=>exact (aBb h hi hj q).symm
 |false=>
  cases r:whole n j i with
  |false=>rfl
  |true=>rw[aBb h hj hi r]at q;cases q
theorem aGB {n:Nt} {i:Int}:jE (aO n i) (aA n i).born=(in6 (aA n i).born 1 20&&lD n i):=by
 unfold jE lD aN
 rfl
theorem aA8 {n:Nt}:kL n 0=(aDM n 0&&decide ((aA n 0).beacon<=1000)):=by
 unfold kL aDM in6;rw[if_pos rfl,if_pos rfl]
 by_cases a:0<=(aA n 0).beacon<;>by_cases b:(aA n 0).level=0<;>by_cases c:(aA n 0).up= -1<;>simp[a,b,c]
theorem zO {n:Nt} {i:Int} (hi:aE i) (h0:i≠0):kL n i=aDM n i:=by
 unfold kL aDM two;unfold aE at hi;rw[if_neg h0,if_neg h0];rw[Bool.eq_iff_iff]
 by_cases h:(aA n i).level=5
 ·rw[if_pos h,h]
  simp only[Bool.and_eq_true,bH,decide_eq_true_eq,beq_iff_eq]
  constructor
  ·rintro⟨a,b⟩
   exact⟨a,by omega,by simp[b],by omega,by omega⟩
  ·rintro⟨a,_,b,_⟩
   exact⟨a,by simpa using b⟩
 ·rw[if_neg h]
  simp only[Bool.and_eq_true,bH,decide_eq_true_eq]
  constructor
  ·rintro⟨a,b,c,⟨d,e⟩,f⟩
   exact⟨a,by omega,⟨fun q=>by omega,fun q=>absurd q h⟩,by omega,by omega⟩
  ·rintro⟨a,b,c,d,e⟩
   have:(aA n i).up≠ -1:=fun q=>h (c.1 q)
   exact⟨a,by omega,by omega,⟨by omega,by omega⟩,by omega⟩
structure OkI (n:Nt):Prop where
 nodes:n.nodes.length=5
 past:n.past.length=5
 links:gU n.links=true
 words:n.words.length<=24
 pasts:∀i:Nat,i<5->jE (aO n (i:Int)) (aA n (i:Int)).born=true
 hears:∀i:Nat,i<5->kL n (i:Int)=true
 known:∀i:Nat,i<5->(dY n (aA n (i:Int)).known&&wL n (i:Int))=true
 word:∀(i:Nat) (x:Wd),n.words[i]? =some x->iT n x=true
theorem aMa {n:Nt} (c:jF n=true):OkI n:=by
 have h:=hZ.1 c;have nd:∀i:Nat,i<5->aE (i:Int):=fun i hi=>by unfold aE;omega
 refine⟨h.nodes,h.past,aI0 h,h.words,fun i hi=>?_,fun i hi=>?_,fun i hi=>?_,fun i x hx=>xJ.2 (h.word x (List.mem_of_getElem? hx))⟩
 ·rw[aGB,bH.2 (h.born _ (nd i hi)),xT.2 (h.pasts _ (nd i hi))];rfl
 ·by_cases e:i=0
  ·subst e
   rw[show ((0:Nat):Int)=0 from rfl,aA8,tB.2 (h.way 0 (nd 0 hi)),decide_eq_true h.beacon];rfl
  ·rw[zO (nd i hi) (by omega),tB.2 (h.way _ (nd i hi))]
 ·rw[lE.2 (h.known _ (nd i hi)),aBe.2 (h.own _ (nd i hi))];rfl
theorem aL9 {n:Nt} (h:OkI n):jF n=true:=by
 refine hZ.2 ?_;have nd:∀i:Int,aE i->∃k:Nat,k<5/\i=k:=fun i hi=>by unfold aE at hi;exact⟨i.toNat,by omega,by omega⟩
 have hp:∀i,aE i->in6 (aA n i).born 1 20=true/\lD n i=true:=fun i hi=>by
  obtain⟨k,hk,rfl⟩:=nd i hi;have:=h.pasts k hk;rw[aGB,Bool.and_eq_true]at this;exact this
 have h0:=h.hears 0 (by omega);rw[show ((0:Nat):Int)=0 from rfl,aA8,Bool.and_eq_true,decide_eq_true_eq]at h0;refine⟨h.nodes,h.past,(aAV h.links).1,h.words,fun i hi=>bH.1 (hp i hi).1,fun i hi=>xT.1 (hp i hi).2,fun i hi=>aF0 h.links hi,fun i j hi hj=>aCL h.links hi hj,fun i hi=>?_,fun i hi=>?_,fun i hi=>?_,fun x hx=>?_,h0.2⟩
 ·obtain⟨k,hk,rfl⟩:=nd i hi
  have:=h.known k hk;rw[Bool.and_eq_true]at this;exact aBe.1 this.2
 ·obtain⟨k,hk,rfl⟩:=nd i hi
  have:=h.known k hk;rw[Bool.and_eq_true]at this;exact lE.1 this.1
 ·by_cases e:i=0
  ·rw[e];exact tB.1 h0.1
  ·obtain⟨k,hk,rfl⟩:=nd i hi
   have:=h.hears k hk;rw[zO hi e]at this;exact tB.1 this
 ·obtain⟨i,hi⟩:=List.getElem?_of_mem hx
  exact xJ.1 (h.word i x hi)
theorem sF {n:Nt} (h:OkI n->False):jF n=false:=by
 rw[Bool.eq_false_iff];exact fun c=>h (aMa c)
end N
end Go.Proofs.YtcblbdpdbggkbaaGreat
namespace Go.Proofs.YtcblbdpdbggkbaaGreat
open _root_.Go.Proofs.Tryz
open Go.RowKit Go.Sort Go.ChangeMaps
namespace N
theorem sA {rs:List (List Int)} {born:Int} (h:jE rs born=true):1<=born/\(rs.length:Int)=born+1/\rs.all lO=true:=by
 unfold jE at h;simp only[Bool.and_eq_true,bH,decide_eq_true_eq]at h;exact⟨h.1.1,h.2.1,h.2.2.2⟩
theorem aAJ (w:World) {x1 x2 x3 x4:Option Addr} {k1 c1 k2 c2 k3 c3 k4 c4:Nat} {n:Nt} (hn:iP w (.slice x1 k1 c1) (.slice x2 k2 c2) (.slice x3 k3 c3) (.slice x4 k4 c4) n):
  Calls prog 22 #[.agg #[.slice x1 k1 c1,.slice x2 k2 c2,.slice x3 k3 c3,.slice x4 k4 c4]] w fun r w'=>r=.returned (.bool (jF n))/\Below w.heap.size w w':=by
 obtain⟨f1,n1⟩:=hn.nodes;obtain⟨f2,n2⟩:=hn.links;obtain⟨f3,n3⟩:=hn.words;obtain⟨f4,n4⟩:=hn.past;have e1:=hd_ (show k1=n.nodes.length from (aT n1).1);have e2:=hd_ (show k2=n.links.length from (aT n2).1);have e3:=hd_ (show k3=n.words.length from (aT n3).1);have e4:=hd_ (show k4=n.past.length from (aT n4).1)
 have h0:=(M.start w).alloc #[.slice x1 k1 c1,.slice x2 k2 c2,.slice x3 k3 c3,.slice x4 k4 c4] 30;obtain⟨w1,hw1⟩:=nm_ (w.alloc (.cells #[.slice x1 k1 c1,.slice x2 k2 c2,.slice x3 k3 c3,.slice x4 k4 c4] 30));obtain⟨p1,hp1⟩:=nm_ w.heap.size;rw[<-hw1]at h0;have H:=hd_ (show M w.heap.size w w1 [aL p1 30 #[.slice x1 k1 c1,.slice x2 k2 c2,.slice x3 k3 c3,.slice x4 k4 c4]] by rw[hp1];exact h0)
 have HN:=hd_ hn;have N1:=hd_ n1;have N2:=hd_ n2;have N3:=hd_ n3;have N4:=hd_ n4;clear h0 hn n1 n2 n3 n4;go_enter func22,ntmps22;go_upto_region 1 with fail
 rw[<-hw1, <-hp1];clear hw1 hp1;obtain⟨a0,a1,a2,a3⟩:=H.out.cells4
 by_cases l1:k1=5
 case neg=>
  have F:=hd_ (sF (n:=n) fun h=>l1 (e1.out.trans h.nodes));have g:((k1:Int) != 5)=true:=by simpa using (show (k1:Int)≠5 by omega)
  clear l1;exact zAA
 subst l1;have g1:(((5:Nat):Int) != 5)=false:=by decide
 by_cases l4:k4=5
 case neg=>
  have F:=hd_ (sF (n:=n) fun h=>l4 (e4.out.trans h.past));have g:((k4:Int) != 5)=true:=by simpa using (show (k4:Int)≠5 by omega)
  clear l4;exact zAA
 subst l4;obtain⟨q2,hq2⟩:=nm_ (gU n.links);have KL:=hd_ (aDk w1 (x:=x2) (c:=c2) (ls:=n.links) (f:=f2) (by rw[<-e2.out];exact (aV (aG _) _ _).below N2.out H.out.below lr_));rw[<-hq2, <-e2.out]at KL;have Q2:=hd_ hq2;clear hq2
 go_wp2_with fail
 refine KL.out.mono ?_;rintro r w2 ⟨rfl,hb⟩;have H2:=hd_ (H.out.later hb);clear hb KL H a0 a1 a2 a3;obtain⟨a0,a1,a2,a3⟩:=H2.out.cells4;rcases q2 with _|_
 case false=>
  have F:=hd_ (sF (n:=n) fun h=>absurd h.links (by rw[<-Q2.out];simp));exact zBk
 by_cases l3:24<k3
 ·have F:=hd_ (sF (n:=n) fun h=>absurd h.words (by rw[<-e3.out];omega))
  have g:decide ((24:Int)<(k3:Int))=true:=decide_eq_true o_;clear l3;exact zBk
 have g3:decide ((24:Int)<(k3:Int))=false:=decide_eq_false o_;have L3:=hd_ l3;clear l3;go_wp2;clear g1 g3 a0 a1 a2 a3;go_loopw [34] (fun z wr=>∃j:Nat,j<=5/\z=.int .i64 (j:Int)/\(∀a:Nat,a<j->jE (aO n (a:Int)) (aA n (a:Int)).born=true/\kL n (a:Int)=true)/\M w.heap.size w wr [aL p1 30 #[.slice x1 5 c1,.slice x2 k2 c2,.slice x3 k3 c3,.slice x4 5 c4]]) (fun z _=>5 - (intOf z).toNat)
 case atStart=>exact⟨0,Nat.zero_le _,rfl,fun a h=>absurd h (Nat.not_lt_zero _),H2.out⟩
 case round=>
  clear H2;obtain⟨j,hj,rfl,hno,hm⟩:=hrel;have NO:=hd_ hno;have H:=hd_ hm;clear hno hm;obtain⟨a0,a1,a2,a3⟩:=H.out.cells4
  by_cases hlt:j<5
  ·obtain⟨nd,hnd⟩:∃nd,n.nodes[j]? =some nd:=⟨_,List.getElem?_eq_getElem (by rw[<-e1.out];exact hlt)⟩
   obtain⟨rs,hrs⟩:∃rs,n.past[j]? =some rs:=⟨_,List.getElem?_eq_getElem (by rw[<-e4.out];exact hlt)⟩
   have eN:aA n (j:Int)=nd:=by unfold aA;rw[List.getD_eq_getElem?_getD,Int.toNat_natCast,hnd];rfl
   have eR:aO n (j:Int)=rs:=by unfold aO;rw[List.getD_eq_getElem?_getD,Int.toNat_natCast,hrs];rfl
   obtain⟨g1,xk,ck,fk,rfl,_,_,_,_,_,b0,_⟩:=cB N1.out hnd;obtain⟨g4,xr,cr,fr,rfl,_,_,rr,_,_,y0⟩:=jO N4.out hrs;replace b0:=cell_later H.out.below b0;replace y0:=cell_later H.out.below y0;have KP:=hd_ (aEo wr (bS.below rr H.out.below lr_) nd.born)
   have KH:=hd_ (aCG wr (v2:=.slice x2 k2 c2) (v3:=.slice x3 k3 c3) (v4:=.slice (some ⟨g4,0,none⟩) 5 c4) ((aV aY _ _).below N1.out H.out.below lr_) hlt);obtain⟨q1,hq1⟩:=nm_ (jE rs nd.born);obtain⟨q2,hq2⟩:=nm_ (kL n (j:Int));rw[<-hq1]at KP;rw[<-hq2]at KH;have Q1:Hid (jE (aO n (j:Int)) (aA n (j:Int)).born=q1):=hd_ (by rw[eN,eR,hq1]);have Q2:=hd_ hq2
   have HJ:=hd_ hlt;have k0:(0:Int)<=(j:Int):=o_;have k5:(j:Int)<5:=o_;clear hq1 hq2 eN eR hnd hrs rr
   go_wp2_with fail
   refine KP.out.mono ?_;rintro r w3 ⟨rfl,hw3⟩;rw[hw3];clear hw3 w3 KP;cases q1 with
   |false=>
    have F:=hd_ (sF (n:=n) fun h=>absurd (h.pasts j HJ.out) (by rw[Q1.out];simp));exact zAA
   |true=>
    go_wp2_with fail
    refine KH.out.mono ?_;rintro r w3 ⟨rfl,hb⟩;have H3:=hd_ (H.out.later hb);clear hb KH H;cases q2 with
    |false=>
     have F:=hd_ (sF (n:=n) fun h=>absurd (h.hears j HJ.out) (by rw[<-Q2.out];simp));exact zBG
    |true=>
     have NO2:Hid (∀a:Nat,a<j+1->jE (aO n (a:Int)) (aA n (a:Int)).born=true/\kL n (a:Int)=true):=hd_ fun a ha=>by
      by_cases e:a<j
      ·exact NO.out a e
      ·obtain rfl:a=j:=o_
       exact⟨Q1.out,Q2.out.symm⟩
     go_wp2;go_roundw
     case rel=>exact⟨j+1,o_,gn_,NO2.out,H3.out⟩
     case measure=>simp[intOf];omega
  ·obtain rfl:j=5:=o_
   have hs:oX n:=⟨e1.out.symm,e4.out.symm,fun i hi=>(sA (NO.out i hi).1).2.1⟩
   have hf:oM n:=fun i hi=>(sA (NO.out i hi).1).2.2
   have hb:∀i:Nat,i<5->1<=(aA n (i:Int)).born:=fun i hi=>(sA (NO.out i hi).1).1
   have h5:=aJ3 H.out (bW n);obtain⟨m,hm⟩:=nm_ wr.heap.size;obtain⟨W4,hW4⟩:=nm_ (wr.alloc (.map #[] 0));rw[<-hW4, <-hm]at h5;have h6:=h5.alloc #[.slice x4 5 c4,.map (some m)] 120;obtain⟨p5,hp5⟩:=nm_ W4.heap.size;obtain⟨W5,hW5⟩:=nm_ (W4.alloc (.cells #[.slice x4 5 c4,.map (some m)] 120));rw[<-hW5, <-hp5]at h6;have H6:=hd_ h6.p1
   have KK:=hd_ (fun (W:World) (l:List Ch) (h:M w.heap.size w W (kT m (bW n)::l)) (i:Nat) (hi:i<5)=>aCP HN.out hs hf hb W h hi);have KWD:=hd_ (fun (W:World) (l:List Ch) (h:M w.heap.size w W (kT m (bW n)::l))=>aFb HN.out hs hf W h);have hmm:=@run_makeMap prog;have hsz:W4.heap.size=wr.heap.size+1:=by rw[hW4];simp
   have p5e:p5=m+1:=by rw[hp5,hsz,hm]
   clear h5 h6 hs hf hb;simp only[Int.cast_ofNat_Int];go_upto_region 10 with fail
   rw[<-hW4, <-hm, <-hW5, <-p5e];clear hW4 hm hW5 hsz hp5 hmm H a0 a1 a2 a3 p5e;obtain⟨t0,t1⟩:=H6.out.p1.cells2;obtain⟨a0,a1,a2,a3⟩:=H6.out.p2.cells4;go_wp2;clear t0 t1 a0 a1 a2 a3
   go_loopw [62] (fun z wr=>∃j:Nat,j<=5/\z=.int .i64 (j:Int)/\(∀a:Nat,a<j->(dY n (aA n (a:Int)).known&&wL n (a:Int))=true)/\M w.heap.size w wr (kT m (bW n)::aL p5 120 #[.slice x4 5 c4,.map (some m)]::[aL p1 30 #[.slice x1 5 c1,.slice x2 k2 c2,.slice x3 k3 c3,.slice x4 5 c4]])) (fun z _=>5 - (intOf z).toNat)
   case atStart=>exact⟨0,Nat.zero_le _,rfl,fun a h=>absurd h (Nat.not_lt_zero _),H6.out⟩
   case round=>
    clear H6;obtain⟨j,hj,rfl,hno,hm⟩:=hrel;have NO3:=hd_ hno;have H:=hd_ hm;clear hno hm;obtain⟨t0,t1⟩:=H.out.p1.cells2;obtain⟨a0,a1,a2,a3⟩:=H.out.p2.cells4
    by_cases hlt:j<5
    ·obtain⟨q1,hq1⟩:=nm_ (dY n (aA n (j:Int)).known&&wL n (j:Int))
     have KP:=hd_ (KK.out _ _ H.out j hlt);rw[<-hq1]at KP;have Q1:=hd_ hq1;have HJ:=hd_ hlt;have k0:(0:Int)<=(j:Int):=o_;have k5:(j:Int)<5:=o_;clear hq1
     go_wp2_with fail
     refine KP.out.mono ?_;rintro r w3 ⟨rfl,hm3⟩;have H3:=hd_ hm3;clear hm3 H KP t0 t1 a0 a1 a2 a3;cases q1 with
     |false=>
      have F:=hd_ (sF (n:=n) fun h=>absurd (h.known j HJ.out) (by rw[<-Q1.out];simp));exact zBG
     |true=>
      have NO2:Hid (∀a:Nat,a<j+1->(dY n (aA n (a:Int)).known&&wL n (a:Int))=true):=hd_ fun a ha=>by
       by_cases e:a<j
       ·exact NO3.out a e
       ·obtain rfl:a=j:=o_
        exact Q1.out.symm
      go_wp2;go_roundw
      case rel=>exact⟨j+1,o_,gn_,NO2.out,H3.out⟩
      case measure=>simp[intOf];omega
    ·obtain rfl:j=5:=o_
     simp only[Int.cast_ofNat_Int];go_wp2;clear t0 t1 a0 a1 a2 a3 KK;have M3:=L3.out;go_loopw [74] (fun z wr=>∃j:Nat,j<=k3/\z=.int .i64 (j:Int)/\(∀(a:Nat) (x:Wd),a<j->n.words[a]? =some x->iT n x=true)/\M w.heap.size w wr (kT m (bW n)::aL p5 120 #[.slice x4 5 c4,.map (some m)]::[aL p1 30 #[.slice x1 5 c1,.slice x2 k2 c2,.slice x3 k3 c3,.slice x4 5 c4]])) (fun z _=>k3 - (intOf z).toNat)
     case atStart=>exact⟨0,Nat.zero_le _,rfl,fun a x h=>absurd h (Nat.not_lt_zero _),H.out⟩
     case round=>
      clear H;obtain⟨j,hj,rfl,hno,hm⟩:=hrel;have NO4:=hd_ hno;have H:=hd_ hm;clear hno hm;obtain⟨a0,a1,a2,a3⟩:=H.out.p2.cells4
      by_cases hlt:j<k3
      ·obtain⟨x,hx⟩:∃x,n.words[j]? =some x:=⟨_,List.getElem?_eq_getElem (by rw[<-e3.out];exact hlt)⟩
       obtain⟨g6,xk,ck,fk,rfl,_,_,rk,_,_,b0,b1,b2,b3,b4,b5⟩:=xG N3.out hx;replace b0:=cell_later H.out.below b0;replace b1:=cell_later H.out.below b1;replace b2:=cell_later H.out.below b2;replace b3:=cell_later H.out.below b3;replace b4:=cell_later H.out.below b4;replace b5:=cell_later H.out.below b5
       have h2:=H.out.alloc #[iv x.kind,iv x.src,iv x.dst,iv x.beacon,iv x.level,.slice xk x.known.length ck] 123;obtain⟨p8,hp8⟩:=nm_ wr.heap.size;obtain⟨W2,hW2⟩:=nm_ (wr.alloc (.cells #[iv x.kind,iv x.src,iv x.dst,iv x.beacon,iv x.level,.slice xk x.known.length ck] 123));rw[<-hW2, <-hp8]at h2;have H2:=hd_ h2.p1;obtain⟨q1,hq1⟩:=nm_ (iT n x);have KP:=hd_ (KWD.out W2 _ H2.out x rk)
       rw[<-hq1]at KP;have Q1:=hd_ hq1;have HX:=hd_ hx;have k0:(0:Int)<=(j:Int):=o_;have k5:(j:Int)<(k3:Int):=o_;clear hq1 hx h2 rk H;go_upto_region 19 with fail
       rw[<-hW2, <-hp8];clear hW2 hp8 a0 a1 a2 a3 b0 b1 b2 b3 b4 b5;obtain⟨d0,d1,d2,d3,d4,d5⟩:=H2.out.p1.cells6;obtain⟨t0,t1⟩:=H2.out.p2.cells2;obtain⟨a0,a1,a2,a3⟩:=H2.out.p3.cells4
       go_wp2_with fail
       refine KP.out.mono ?_;rintro r w3 ⟨rfl,hm3⟩;have H3:=hd_ hm3;clear hm3 H2 KP d0 d1 d2 d3 d4 d5 t0 t1 a0 a1 a2 a3;cases q1 with
       |false=>
        have F:=hd_ (sF (n:=n) fun h=>absurd (h.word j x HX.out) (by rw[<-Q1.out];simp));exact zBG
       |true=>
        have NO2:Hid (∀(a:Nat) (y:Wd),a<j+1->n.words[a]? =some y->iT n y=true):=hd_ fun a y ha hy=>by
         by_cases e:a<j
         ·exact NO4.out a y e hy
         ·obtain rfl:a=j:=o_
          rw[HX.out]at hy;cases hy;exact Q1.out.symm
        go_wp2;go_roundw
        case rel=>exact⟨j+1,o_,gn_,NO2.out,H3.out.p1.drop⟩
        case measure=>simp[intOf];omega
      ·obtain rfl:j=k3:=o_
       have F:Hid (jF n=true):=hd_ (aL9 ⟨e1.out.symm,e4.out.symm,Q2.out.symm,by rw[<-e3.out];omega,fun i hi=>(NO.out i hi).1,fun i hi=>(NO.out i hi).2,NO3.out,fun i x hx=>NO4.out i x (by have:=(List.getElem?_eq_some_iff.1 hx).1;rw[<-e3.out]at this;exact this) hx⟩);exact zAA
end N
end Go.Proofs.YtcblbdpdbggkbaaGreat
namespace Go.Proofs.YtcblbdpdbggkbaaGreat
open _root_.Go.Proofs.Tryz
open Go.RowKit Go.Sort
theorem aEc (A:List (List Int)) (h:∀i,i<A.length->(A.getD i []).length<=8):∀n,n<=A.length->aCt A n<=8 * n
 | 0,_=>Nat.le_refl _
 |n+1,hn=>by have h1:=aEc A h n o_;have h2:=h n o_;show aCt A n+(A.getD n []).length<=_;omega
structure aLp (A:List (List Int)):Prop where
 len:A.length<=1048576
 row:∀i,i<A.length->(A.getD i []).length<=1048576
 all:aCt A A.length<=100000000
 lenM:A.length<=maxLen
 rowM:∀i,i<A.length->(A.getD i []).length<=maxLen
theorem aLp.small {A:List (List Int)} (h:A.length<=3/\(∀i,i<A.length->A.getD i []=A.getD i []/\(A.getD i []).length<=8)):aLp A:=
 ⟨by omega,fun i hi=>by have:=(h.2 i hi).2;omega,by have:=aEc A (fun i hi=>(h.2 i hi).2) A.length lr_;omega,by unfold maxLen;omega,fun i hi=>by have:=(h.2 i hi).2;unfold maxLen;omega⟩
end Go.Proofs.YtcblbdpdbggkbaaGreat

namespace Go.Proofs.YtcblbdpdbggkbaaGreat
open _root_.Go.Proofs.Tryz
open Go.RowKit Go.Sort
structure aFm (s:Sm):Prop where
 r:aLp s.rs
 f:s.zs.length<=1048576
 t:s.ps.length<=1048576
 k:s.ks.length<=1048576
theorem wI.lens {s:Sm} (h:wI s):aFm s:=⟨aLp.small ⟨h.r.1,fun i hi=>⟨rfl,h.r.2 i hi⟩⟩,by have:=h.f;omega,by have:=h.t;omega,by have:=h.k;omega⟩
end Go.Proofs.YtcblbdpdbggkbaaGreat
namespace Go.Proofs.YtcblbdpdbggkbaaGreat
open _root_.Go.Proofs.Tryz
open Go.RowKit Go.Sort
namespace N
variable {B:Nat} {w0 w:World} {l:List Ch} {v:Value} {k:Int}
def aFO (v:Value) (ps:List (Int × Int)):Ch:=qX.ch [v] ps
def aFp (v:Value) (ps:List (Int × Int)):Ch:=rD.ch [v] ps
variable {B:Nat} {w0 w:World} {l:List Ch} {v:Value} {k:Int}
theorem _root_.Go.Proofs.YtcblbdpdbggkbaaGreat.M.sumWhole {V:SV} {s:Sm} (h:M B w0 w (rQ (.slice V.xr V.nr V.cr) s.rs::uJ (.slice V.xf V.nf V.cf) s.zs::aFO (.slice V.xt V.nt V.ct) s.ps::aFp (.slice V.xk V.nk V.ck) s.ks::l)):M B w0 w (bF.ch (cS V s) s::l):=
 (M.sep (M.p1 (M.sep (M.p1 (M.sep (M.p1 (h.perm (List.reverse_perm [_,_,_,_] |>.symm.append_right l)))))))).to fun f hf nd=>by
  obtain⟨f1,_,rfl,h1,f2,_,rfl,h2,f3,f4,rfl,h3,h4⟩:=hf;exact⟨_,⟨V,f1,f2,f3,f4,rfl,rfl,h1,h2,h3,h4⟩,nd,fun b hb=>hb⟩
variable {B:Nat} {w0 w:World} {l:List Ch} {v:Value} {k:Int}
variable {B:Nat} {w0 w:World} {l:List Ch} {v:Value} {k:Int}
end N
end Go.Proofs.YtcblbdpdbggkbaaGreat
namespace Go.Proofs.YtcblbdpdbggkbaaGreat
open _root_.Go.Proofs.Tryz
open Go.RowKit Go.Sort
theorem RdL.later {α:Type} {enc:α->List Value} {w w':World} {u:Value} {ys:List α} (h:RdL enc w u ys) (hb:Below w.heap.size w w'):RdL enc w' u ys:=by
 rcases h with ⟨rfl,rfl⟩|⟨ad,c,rfl,hc⟩
 ·exact .inl ⟨rfl,rfl⟩
 ·exact .inr ⟨ad,c,rfl,fun j z hz=>(hb.cell (World.block_lt_of_cell? _ _ (hc j z hz))).trans (hc j z hz)⟩
namespace N
theorem aLK:SlT prog 39 213 (.agg #[iv 0,iv 0]) 2 16:=⟨underlying39,by kernel_rfl,rfl,by decide⟩
theorem aLC:SlT prog 42 152 (.agg #[iv 0,iv 0]) 2 16:=⟨underlying42,by kernel_rfl,rfl,by decide⟩
theorem fE (a:Int):∀u ∈ kY a,u.oneCell'=true:=fun u hu=>by rw[List.mem_singleton.1 hu];rfl
theorem rI (a:Int × Int):∀u ∈ qH a,u.oneCell'=true:=fun u hu=>by
 rcases List.mem_cons.1 hu with rfl|hu
 ·rfl
 ·rw[List.mem_singleton.1 hu];rfl
theorem zD (w:World) {v:Value} {zs:List Int} (h:RdL kY w v zs) (hl:zs.length<=1048576):
  Calls prog 274 #[v] w fun r w'=>∃y c,r=.returned (.slice y zs.length c)/\M w.heap.size w w' [fL (aG kY) 3 1 (.slice y zs.length c) zs]:=by
 have q:=fun (w:World) (a:Option Addr) (n c n' c':Nat)=>Lib.run_eql_slice_nil (P:=prog) w _ _ a n c n' c' underlying23
 rcases h with ⟨rfl,rfl⟩|⟨ad,c,rfl,hc⟩
 ·go_enter func274,ntmps274
  exact zBC
 ·have H0:=hd_ (((M.start w).alloc #[] 3).empty (aG kY) 1)
  have R:=hd_ (RdL.later (enc:=kY) (.inr ⟨ad,c,rfl,hc⟩) H0.out.below);clear hc;go_enter func274,ntmps274
  go_wp2_with (at_builtin;go_loud (refine dW sJ (fun _=>rfl) fE H0.out R.out rfl rfl rfl rfl (by rw[List.length_nil];unfold maxLen;omega) (by rw[List.length_nil];omega) (N:=zs.length) (by rw[List.length_nil,Nat.zero_add]) ?_);intro y c w' h1;have H1:=hd_ h1;clear h1)
  go_ret;exact⟨_,_,rfl,H1.out⟩
theorem aDR (w:World) {v:Value} {zs:List (Int × Int)} (h:RdL qH w v zs) (hl:zs.length<=1048576):
  Calls prog 275 #[v] w fun r w'=>∃y c,r=.returned (.slice y zs.length c)/\M w.heap.size w w' [fL (aG qH) 213 2 (.slice y zs.length c) zs]:=by
 have q:=fun (w:World) (a:Option Addr) (n c n' c':Nat)=>Lib.run_eql_slice_nil (P:=prog) w _ _ a n c n' c' underlying39
 rcases h with ⟨rfl,rfl⟩|⟨ad,c,rfl,hc⟩
 ·go_enter func275,ntmps275
  exact zBC
 ·have H0:=hd_ (((M.start w).alloc #[] 213).empty (aG qH) 2)
  have R:=hd_ (RdL.later (enc:=qH) (.inr ⟨ad,c,rfl,hc⟩) H0.out.below);clear hc;go_enter func275,ntmps275
  go_wp2_with (at_builtin;go_loud (refine dW aLK (fun _=>rfl) rI H0.out R.out rfl rfl rfl rfl (by rw[List.length_nil];unfold maxLen;omega) (by rw[List.length_nil];omega) (N:=zs.length) (by rw[List.length_nil,Nat.zero_add]) ?_);intro y c w' h1;have H1:=hd_ h1;clear h1)
  go_ret;exact⟨_,_,rfl,H1.out⟩
theorem aDL (w:World) {v:Value} {zs:List (Int × Int)} (h:RdL qH w v zs) (hl:zs.length<=1048576):
  Calls prog 276 #[v] w fun r w'=>∃y c,r=.returned (.slice y zs.length c)/\M w.heap.size w w' [fL (aG qH) 152 2 (.slice y zs.length c) zs]:=by
 have q:=fun (w:World) (a:Option Addr) (n c n' c':Nat)=>Lib.run_eql_slice_nil (P:=prog) w _ _ a n c n' c' underlying42
 rcases h with ⟨rfl,rfl⟩|⟨ad,c,rfl,hc⟩
 ·go_enter func276,ntmps276
  exact zBC
 ·have H0:=hd_ (((M.start w).alloc #[] 152).empty (aG qH) 2)
  have R:=hd_ (RdL.later (enc:=qH) (.inr ⟨ad,c,rfl,hc⟩) H0.out.below);clear hc;go_enter func276,ntmps276
  go_wp2_with (at_builtin;go_loud (refine dW aLC (fun _=>rfl) rI H0.out R.out rfl rfl rfl rfl (by rw[List.length_nil];unfold maxLen;omega) (by rw[List.length_nil];omega) (N:=zs.length) (by rw[List.length_nil,Nat.zero_add]) ?_);intro y c w' h1;have H1:=hd_ h1;clear h1)
  go_ret;exact⟨_,_,rfl,H1.out⟩
theorem xK (w:World) {x:Option Addr} {k c:Nat} {rs:List (List Int)} {f:List Nat} (h:uK w [.slice x k c] rs f) (hk:rs.length<=1048576) (hr:∀r ∈ rs,r.length<=1048576):
  Calls prog 273 #[.slice x k c] w fun r w'=>∃y cy,r=.returned (.slice y rs.length cy)/\M w.heap.size w w' [rQ (.slice y rs.length cy) rs]:=by
 obtain rfl:k=rs.length:=(aT h).1;have H1:=hd_ h;have HR:=hd_ hr;clear h hr;have KC:Hid (Calls prog 298 #[.slice x rs.length c,.func (.func 274) #[] #[]] w fun r w'=>∃y cy,r=.returned (.slice y rs.length cy)/\M w.heap.size w w' [rQ (.slice y rs.length cy) rs]):=by
  refine hd_ ?_;go_enter func298,ntmps298;go_wp2;go_loopw [5,10] (fun y z wr=>∃(j cy:Nat) (xy:Option Addr),j<=rs.length/\z=.int .i64 (j:Int)/\y=.slice xy j cy/\M w.heap.size w wr [rQ (.slice xy j cy) (rs.take j)]) (fun _ z _=>rs.length - (intOf z).toNat)
  case atStart=>exact⟨0,0,none,Nat.zero_le _,rfl,rfl,M.nil cK 23 1 (M.start w)⟩
  case round=>
   obtain⟨j,cy,xy,hj,rfl,rfl,hM⟩:=hrel;have H:=hd_ hM;clear hM
   by_cases hlt:j<rs.length
   ·obtain⟨r,hr⟩:∃r,rs[j]? =some r:=⟨_,List.getElem?_eq_getElem hlt⟩
    obtain⟨g,xr,cr,fr,rfl,_,_,rr,_,_,b1⟩:=lH H1.out hr;have RL:=hd_ ((RdL.fl rr).later H.out.below);have LL:r.length<=1048576:=HR.out r (List.mem_of_getElem? hr);have ST:=hd_ (lX hr);have LT:Hid ((rs.take j).length=j):=hd_ (by rw[List.length_take];omega);replace b1:=cell_later H.out.below b1;have KI:=hd_ (zD wr RL.out LL);obtain⟨m,hm⟩:=nm_ r.length;rw[<-hm]at KI b1
    have j0:(0:Int)<=(j:Int):=o_;have j1:(j:Int)<(rs.length:Int):=o_;clear rr hr hm RL LL
    go_wp2_with fail
    refine KI.out.mono ?_;rintro r2 w2 ⟨y2,c2,rfl,hm⟩;have H3:=hd_ ((H.out.plus hm).soft.p1.alloc #[.slice y2 m c2] 23);clear hm KI H b1
    go_wp2_with (at_builtin;go_loud (refine dA rA tT H3.out rfl rfl rfl rfl (by rw[LT.out];unfold maxLen;omega) (by rw[LT.out];omega) (N:=j+1) (by rw[LT.out]) ?_);intro y3 c3 w3 h4;have H4:=hd_ h4;clear h4 H3)
    go_roundw
    case rel=>exact⟨j+1,c3,y3,o_,gn_,rfl,by rw[ST.out];exact H4.out⟩
    case measure=>simp[intOf];omega
   ·obtain rfl:j=rs.length:=o_
    have ST:Hid (rs.take rs.length=rs):=hd_ List.take_length;rw[ST.out]at H;go_wp2;go_ret;exact⟨_,_,rfl,H.out⟩
 go_enter func273,ntmps273
 go_wp2_with fail
 refine KC.out.mono ?_;rintro r w' ⟨y,cy,rfl,hm⟩;have H:=hd_ hm;clear hm;go_wp2;go_ret;exact⟨_,_,rfl,H.out⟩
end N
end Go.Proofs.YtcblbdpdbggkbaaGreat
namespace Go.Proofs.YtcblbdpdbggkbaaGreat
open _root_.Go.Proofs.Tryz
open Go.RowKit Go.Sort
namespace N
theorem dU {B a k k':Nat} {w0 w:World} {l:List Ch} (h:M B w0 w (rdC w0 B a k::l)) (hk:k<=k'):M B w0 w (rdC w0 B a k'::l):=
 h.to fun f hf nd=>by
  exact zBx
section
variable {B a b k:Nat} {e:TypeId} {w0 w:World} {l:List Ch}
theorem aCN {x:Int} (h:M B w0 w (aL b e #[iv x]::l)):RdL kY w (.slice (some ⟨b,0,none⟩) 1 1) [x]:=
 .inr ⟨_,1,rfl,fun j z hz=>by
    match j,hz with
    | 0,hz=>have e:Value.int .i64 x=z:=Option.some.inj hz;rw[<-e];exact h.cell rfl
    |j+1,hz=>simp[kY]at hz⟩
theorem aFR {x y:Int} (h:M B w0 w (aL b e #[iv x,iv y]::l)):RdL kY w (.slice (some ⟨b,0,none⟩) 2 2) [x,y]:=
 .inr ⟨_,2,rfl,fun j z hz=>by
    match j,hz with
    | 0,hz=>have e:Value.int .i64 x=z:=Option.some.inj hz;rw[<-e];exact h.cell rfl
    | 1,hz=>have e:Value.int .i64 y=z:=Option.some.inj hz;rw[<-e];exact h.cell rfl
    |j+2,hz=>simp[kY]at hz⟩
end
section
variable {B a k:Nat} {w0 w:World} {l:List Ch}
abbrev aGy (v:Value) (zs:List Int):Ch:=fL (aG kY) 3 1 v zs
end
variable {w:World} {v:Value} {k:Int} {fp:List Nat}
theorem aCq {V:SV} {s:Sm} {f:List Nat} (h:rS w (cS V s) s f):∃f1 f2 f3 f4,uK w [.slice V.xr V.nr V.cr] s.rs f1/\uD w [.slice V.xf V.nf V.cf] s.zs f2/\aBn w [.slice V.xt V.nt V.ct] s.ps f3/\aAx w [.slice V.xk V.nk V.ck] s.ks f4:=by
 obtain⟨U,f1,f2,f3,f4,e,rfl,h1,h2,h3,h4⟩:=h;obtain⟨a1,a2,a3,a4⟩:SV.r U=SV.r V/\SV.f U=SV.f V/\SV.t U=SV.t V/\SV.k U=SV.k V:=by
  simp only[List.cons.injEq,Value.slice.injEq,and_true,true_and]at e;obtain⟨⟨a1,a2,a3⟩,⟨b1,b2,b3⟩,⟨c1,c2,c3⟩,d1,d2,d3⟩:=e;simp only[SV.r,SV.f,SV.t,SV.k,a1,a2,a3,b1,b2,b3,c1,c2,c3,d1,d2,d3,and_self]
 rw[a1]at h1;rw[a2]at h2;rw[a3]at h3;rw[a4]at h4;exact⟨f1,f2,f3,f4,h1,h2,h3,h4⟩
variable {w:World} {v:Value} {k:Int} {fp:List Nat}
end N
end Go.Proofs.YtcblbdpdbggkbaaGreat
