/-
  What the law FnExactNetKnown needs of the texts before it, part 6.
-/
import Derived.Deep.DeepCutAuto
import Derived.Deep.RegionWith
import Derived.Lib.SliceRun
import Derived.LoopN
import Derived.Test.YtcblbdpdbggkbaaGreatSFnExactNetKnown5
set_option maxRecDepth 100000
set_option maxHeartbeats 16000000
set_option linter.unusedVariables false
set_option linter.unusedSectionVars false
set_option linter.unusedSimpArgs false
set_option linter.unusedVariables false
namespace Go.Proofs.YtcblbdpdbggkbaaGreat
open Go.RowKit Go.Sort
theorem zQ (w:World) (V:SV) (s:Sm) (x:Option Addr) (n c:Nat) (rs:List (List Int)) (h:RdS w V s) (hu:Rws w (.slice x n c) rs):
  Calls Tryz.prog 153 #[.agg #[.slice V.xr V.nr V.cr,.slice V.xf V.nf V.cf,.slice V.xt V.nt V.ct,.int .i64 s.lo,.int .i64 s.al,.slice V.xk V.nk V.ck,.int .i64 s.ka],.iface 36 (.agg #[.slice x n c])] w fun e w'=>∃y m d,e=.returned (.tuple #[.agg #[.slice y m d,.slice V.xf V.nf V.cf,.slice V.xt V.nt V.ct,.int .i64 s.lo,.int .i64 s.al,.slice V.xk V.nk V.ck,.int .i64 s.ka],.bool (jY s.rs rs)])/\dC w' w.heap.size w'.heap.size (.slice y m d) (pY s.rs rs)/\Below w.heap.size w w':=by
 have I1:=fun w=>aLG (.agg #[.slice x n c]) w
 have hA:=((((Below.refl w.heap.size w).alloc lr_ (.cells #[.slice V.xr V.nr V.cr,.slice V.xf V.nf V.cf,.slice V.xt V.nt V.ct,.int .i64 s.lo,.int .i64 s.al,.slice V.xk V.nk V.ck,.int .i64 s.ka] 46)).alloc (by simp) (.cells #[.slice none 0 0,.slice none 0 0,.slice none 0 0,.int .i64 0,.int .i64 0,.slice none 0 0,.int .i64 0] 46)).alloc (by simp;omega) (.cells #[.slice x n c] 36))
 have X:=((aM.new w 46 (.slice V.xr V.nr V.cr) (.slice V.xf V.nf V.cf) (.slice V.xt V.nt V.ct) (.int .i64 s.lo) (.int .i64 s.al) (.slice V.xk V.nk V.ck) (.int .i64 s.ka)).alloc (.cells #[.slice none 0 0,.slice none 0 0,.slice none 0 0,.int .i64 0,.int .i64 0,.slice none 0 0,.int .i64 0] 46)).alloc (.cells #[.slice x n c] 36)
 have R:=(aM.new (w.alloc (.cells #[.slice V.xr V.nr V.cr,.slice V.xf V.nf V.cf,.slice V.xt V.nt V.ct,.int .i64 s.lo,.int .i64 s.al,.slice V.xk V.nk V.ck,.int .i64 s.ka] 46)) 46 (.slice none 0 0) (.slice none 0 0) (.slice none 0 0) (.int .i64 0) (.int .i64 0) (.slice none 0 0) (.int .i64 0)).alloc (.cells #[.slice x n c] 36);rw[World.size_alloc]at R
 have D:=Go.Boxed.new ((w.alloc (.cells #[.slice V.xr V.nr V.cr,.slice V.xf V.nf V.cf,.slice V.xt V.nt V.ct,.int .i64 s.lo,.int .i64 s.al,.slice V.xk V.nk V.ck,.int .i64 s.ka] 46)).alloc (.cells #[.slice none 0 0,.slice none 0 0,.slice none 0 0,.int .i64 0,.int .i64 0,.slice none 0 0,.int .i64 0] 46)) 36 (.slice x n c);rw[World.size_alloc,World.size_alloc]at D
 obtain⟨ax0,ax1,ax2,ax3,ax4,ax5,ax6⟩:=(X).cells;have ad0:=(D).cell
 obtain⟨W1,hW⟩:∃W,W=((w.alloc (.cells #[.slice V.xr V.nr V.cr,.slice V.xf V.nf V.cf,.slice V.xt V.nt V.ct,.int .i64 s.lo,.int .i64 s.al,.slice V.xk V.nk V.ck,.int .i64 s.ka] 46)).alloc (.cells #[.slice none 0 0,.slice none 0 0,.slice none 0 0,.int .i64 0,.int .i64 0,.slice none 0 0,.int .i64 0] 46)).alloc (.cells #[.slice x n c] 36):=⟨_,rfl⟩
 rw[<-hW]at hA X R D;have S:Hid (RdS W1 V s):=hd_ (h.below hA lr_);have P:=hd_ (hu.below hA lr_);have B:=hd_ hA;have SZ0:Hid (w.heap.size+2<=W1.heap.size):=by show _<=_;rw[hW];simp
 clear hA h hu;have KA:=aHR W1 (.slice V.xr V.nr V.cr) (.slice x n c) s.rs rs S.out.r P.out;obtain⟨A,hA⟩:∃A,A=pY s.rs rs:=⟨_,rfl⟩
 have HA:=hd_ hA;rw[<-hA]at KA;generalize jY s.rs rs=ok at KA ⊢;clear hA;go_enter Tryz.func153,Tryz.ntmps153
 go_wp2_with fail
 rw[<-hW];clear hW ax0 ax1 ax2 ax3 ax4 ax5 ax6 ad0;refine (KA).mono ?_;rintro e w1 ⟨y,d,rfl,ho,hb⟩;obtain⟨m,hm⟩:∃m,m=(A).length:=⟨_,rfl⟩
 rw[<-hm]at ho ⊢;have Sw0:=hd_ hb.size;clear hm KA;clear S;clear P;clear D;replace X:=X.later hb;replace R:=R.later hb;replace B:=hd_ (B.out.trans (hb.mono B.out.size));have O:=hd_ (ho);clear hb;obtain⟨cx0,cx1,cx2,cx3,cx4,cx5,cx6⟩:=(X).cells;obtain⟨cr0,cr1,cr2,cr3,cr4,cr5,cr6⟩:=(R).cells;have frx:=X.free;have frr:=R.free;clear ho;have Y:=X;replace Y:=Y.set0 (.slice y m d)
 obtain⟨y0,y1,y2,y3,y4,y5,y6⟩:=Y.cells;clear Y;have G1:=hd_ (aA w1 ⟨w.heap.size,0,none⟩ (.slice y m d));have BX:Hid (Below w.heap.size w ((w1.setCell ⟨w.heap.size,0,none⟩ (.slice y m d)))):=hd_ ((B.out.setCell lr_ _));have RX:=R.kept G1.out (by simp);have SZ:Hid (w.heap.size+2<=W1.heap.size):=SZ0;have Sw:Hid (W1.heap.size<=w1.heap.size):=Sw0;clear X R B;go_wp2
 show bodyPost _ _ _ _ _ (set7 (w1.setCell ⟨w.heap.size,0,none⟩ (.slice y m d)) (w.heap.size+1) (.slice y m d) (.slice V.xf V.nf V.cf) (.slice V.xt V.nt V.ct) (.int .i64 s.lo) (.int .i64 s.al) (.slice V.xk V.nk V.ck) (.int .i64 s.ka))
 generalize (w1.setCell ⟨w.heap.size,0,none⟩ (.slice y m d))=WX at G1 BX RX ⊢;have G2:=cZ WX (w.heap.size+1) (.slice y m d) (.slice V.xf V.nf V.cf) (.slice V.xt V.nt V.ct) (.int .i64 s.lo) (.int .i64 s.al) (.slice V.xk V.nk V.ck) (.int .i64 s.ka)
 have Y:=RX.set (.slice y m d) (.slice V.xf V.nf V.cf) (.slice V.xt V.nt V.ct) (.int .i64 s.lo) (.int .i64 s.al) (.slice V.xk V.nk V.ck) (.int .i64 s.ka);have BF:=aW BX.out (Nat.le_add_right _ 1) (.slice y m d) (.slice V.xf V.nf V.cf) (.slice V.xt V.nt V.ct) (.int .i64 s.lo) (.int .i64 s.al) (.slice V.xk V.nk V.ck) (.int .i64 s.ka)
 generalize set7 WX (w.heap.size+1) (.slice y m d) (.slice V.xf V.nf V.cf) (.slice V.xt V.nt V.ct) (.int .i64 s.lo) (.int .i64 s.al) (.slice V.xk V.nk V.ck) (.int .i64 s.ka)=WF at G2 Y BF ⊢;have s1:=SZ.out;have s2:=Sw.out;have s3:=G1.out.size;have s4:=G2.size
 have HK:dB (fun k=>k<W1.heap.size) w1 WF:=(dB.of_grown G1.out (show w.heap.size<W1.heap.size by omega)).trans (dB.of_grown G2 (show w.heap.size+1<W1.heap.size by omega));obtain⟨d0,d1,d2,d3,d4,d5,d6⟩:=Y.cells
 refine bodyPost_ret (v:=.tuple #[.agg #[.slice y m d,.slice V.xf V.nf V.cf,.slice V.xt V.nt V.ct,.int .i64 s.lo,.int .i64 s.al,.slice V.xk V.nk V.ck,.int .i64 s.ka],.bool ok]) (by simp[results,Tryz.results153,go_sem,d0,d1,d2,d3,d4,d5,d6]) rfl ?_;rw[<-HA.out];exact⟨y,m,d,rfl,((O.out.keptB HK (fun k q1 _ q=>by omega)).base (by omega)).upto (by omega) lr_,BF⟩
theorem aEL (w:World) (V:SV) (s:Sm) (x:Option Addr) (n c:Nat) (zs:List Int) (h:RdS w V s) (hu:cW w (.slice x n c) zs):
  Calls Tryz.prog 153 #[.agg #[.slice V.xr V.nr V.cr,.slice V.xf V.nf V.cf,.slice V.xt V.nt V.ct,.int .i64 s.lo,.int .i64 s.al,.slice V.xk V.nk V.ck,.int .i64 s.ka],.iface 38 (.agg #[.slice x n c])] w fun e w'=>∃y m d,e=.returned (.tuple #[.agg #[.slice V.xr V.nr V.cr,.slice y m d,.slice V.xt V.nt V.ct,.int .i64 s.lo,.int .i64 s.al,.slice V.xk V.nk V.ck,.int .i64 s.ka],.bool (fO s.zs zs)])/\bG w' w.heap.size (.slice y m d) (lL s.zs zs)/\Below w.heap.size w w':=by
 have I1:=fun w=>(aKY (.agg #[.slice x n c]) w).1
 have I2:=fun w=>(aKY (.agg #[.slice x n c]) w).2
 have hA:=((((Below.refl w.heap.size w).alloc lr_ (.cells #[.slice V.xr V.nr V.cr,.slice V.xf V.nf V.cf,.slice V.xt V.nt V.ct,.int .i64 s.lo,.int .i64 s.al,.slice V.xk V.nk V.ck,.int .i64 s.ka] 46)).alloc (by simp) (.cells #[.slice none 0 0,.slice none 0 0,.slice none 0 0,.int .i64 0,.int .i64 0,.slice none 0 0,.int .i64 0] 46)).alloc (by simp;omega) (.cells #[.slice x n c] 38))
 have X:=((aM.new w 46 (.slice V.xr V.nr V.cr) (.slice V.xf V.nf V.cf) (.slice V.xt V.nt V.ct) (.int .i64 s.lo) (.int .i64 s.al) (.slice V.xk V.nk V.ck) (.int .i64 s.ka)).alloc (.cells #[.slice none 0 0,.slice none 0 0,.slice none 0 0,.int .i64 0,.int .i64 0,.slice none 0 0,.int .i64 0] 46)).alloc (.cells #[.slice x n c] 38)
 have R:=(aM.new (w.alloc (.cells #[.slice V.xr V.nr V.cr,.slice V.xf V.nf V.cf,.slice V.xt V.nt V.ct,.int .i64 s.lo,.int .i64 s.al,.slice V.xk V.nk V.ck,.int .i64 s.ka] 46)) 46 (.slice none 0 0) (.slice none 0 0) (.slice none 0 0) (.int .i64 0) (.int .i64 0) (.slice none 0 0) (.int .i64 0)).alloc (.cells #[.slice x n c] 38);rw[World.size_alloc]at R
 have D:=Go.Boxed.new ((w.alloc (.cells #[.slice V.xr V.nr V.cr,.slice V.xf V.nf V.cf,.slice V.xt V.nt V.ct,.int .i64 s.lo,.int .i64 s.al,.slice V.xk V.nk V.ck,.int .i64 s.ka] 46)).alloc (.cells #[.slice none 0 0,.slice none 0 0,.slice none 0 0,.int .i64 0,.int .i64 0,.slice none 0 0,.int .i64 0] 46)) 38 (.slice x n c);rw[World.size_alloc,World.size_alloc]at D
 obtain⟨ax0,ax1,ax2,ax3,ax4,ax5,ax6⟩:=(X).cells;have ad0:=(D).cell
 obtain⟨W1,hW⟩:∃W,W=((w.alloc (.cells #[.slice V.xr V.nr V.cr,.slice V.xf V.nf V.cf,.slice V.xt V.nt V.ct,.int .i64 s.lo,.int .i64 s.al,.slice V.xk V.nk V.ck,.int .i64 s.ka] 46)).alloc (.cells #[.slice none 0 0,.slice none 0 0,.slice none 0 0,.int .i64 0,.int .i64 0,.slice none 0 0,.int .i64 0] 46)).alloc (.cells #[.slice x n c] 38):=⟨_,rfl⟩
 rw[<-hW]at hA X R D;have S:Hid (RdS W1 V s):=hd_ (h.below hA lr_);have P:=hd_ (hu.below hA lr_);have B:=hd_ hA;have SZ0:Hid (w.heap.size+2<=W1.heap.size):=by show _<=_;rw[hW];simp
 clear hA h hu;have KA:=tN W1 (.slice V.xf V.nf V.cf) (.slice x n c) s.zs zs S.out.f P.out;obtain⟨A,hA⟩:∃A,A=lL s.zs zs:=⟨_,rfl⟩
 have HA:=hd_ hA;rw[<-hA]at KA;generalize fO s.zs zs=ok at KA ⊢;clear hA;go_enter Tryz.func153,Tryz.ntmps153
 go_wp2_with fail
 rw[<-hW];clear hW ax0 ax1 ax2 ax3 ax4 ax5 ax6 ad0;refine (KA).mono ?_;rintro e w1 ⟨v,rfl,ho,hb⟩;obtain⟨y,d,rfl⟩:=ho.form';obtain⟨m,hm⟩:∃m,m=(A).length:=⟨_,rfl⟩
 rw[<-hm]at ho ⊢;have Sw0:=hd_ hb.size;clear hm KA;clear S;clear P;clear D;replace X:=X.later hb;replace R:=R.later hb;replace B:=hd_ (B.out.trans (hb.mono B.out.size));have O:=hd_ (ho);clear hb;obtain⟨cx0,cx1,cx2,cx3,cx4,cx5,cx6⟩:=(X).cells;obtain⟨cr0,cr1,cr2,cr3,cr4,cr5,cr6⟩:=(R).cells;have frx:=X.free;have frr:=R.free;clear ho;have Y:=X;replace Y:=Y.set1 (.slice y m d)
 obtain⟨y0,y1,y2,y3,y4,y5,y6⟩:=Y.cells;clear Y;have G1:=hd_ (aA w1 ⟨w.heap.size,1,none⟩ (.slice y m d));have BX:Hid (Below w.heap.size w ((w1.setCell ⟨w.heap.size,1,none⟩ (.slice y m d)))):=hd_ ((B.out.setCell lr_ _));have RX:=R.kept G1.out (by simp);have SZ:Hid (w.heap.size+2<=W1.heap.size):=SZ0;have Sw:Hid (W1.heap.size<=w1.heap.size):=Sw0;clear X R B;go_wp2
 show bodyPost _ _ _ _ _ (set7 (w1.setCell ⟨w.heap.size,1,none⟩ (.slice y m d)) (w.heap.size+1) (.slice V.xr V.nr V.cr) (.slice y m d) (.slice V.xt V.nt V.ct) (.int .i64 s.lo) (.int .i64 s.al) (.slice V.xk V.nk V.ck) (.int .i64 s.ka))
 generalize (w1.setCell ⟨w.heap.size,1,none⟩ (.slice y m d))=WX at G1 BX RX ⊢;have G2:=cZ WX (w.heap.size+1) (.slice V.xr V.nr V.cr) (.slice y m d) (.slice V.xt V.nt V.ct) (.int .i64 s.lo) (.int .i64 s.al) (.slice V.xk V.nk V.ck) (.int .i64 s.ka)
 have Y:=RX.set (.slice V.xr V.nr V.cr) (.slice y m d) (.slice V.xt V.nt V.ct) (.int .i64 s.lo) (.int .i64 s.al) (.slice V.xk V.nk V.ck) (.int .i64 s.ka);have BF:=aW BX.out (Nat.le_add_right _ 1) (.slice V.xr V.nr V.cr) (.slice y m d) (.slice V.xt V.nt V.ct) (.int .i64 s.lo) (.int .i64 s.al) (.slice V.xk V.nk V.ck) (.int .i64 s.ka)
 generalize set7 WX (w.heap.size+1) (.slice V.xr V.nr V.cr) (.slice y m d) (.slice V.xt V.nt V.ct) (.int .i64 s.lo) (.int .i64 s.al) (.slice V.xk V.nk V.ck) (.int .i64 s.ka)=WF at G2 Y BF ⊢;have s1:=SZ.out;have s2:=Sw.out;have s3:=G1.out.size;have s4:=G2.size
 have HK:dB (fun k=>k<W1.heap.size) w1 WF:=(dB.of_grown G1.out (show w.heap.size<W1.heap.size by omega)).trans (dB.of_grown G2 (show w.heap.size+1<W1.heap.size by omega));obtain⟨d0,d1,d2,d3,d4,d5,d6⟩:=Y.cells
 refine bodyPost_ret (v:=.tuple #[.agg #[.slice V.xr V.nr V.cr,.slice y m d,.slice V.xt V.nt V.ct,.int .i64 s.lo,.int .i64 s.al,.slice V.xk V.nk V.ck,.int .i64 s.ka],.bool ok]) (by simp[results,Tryz.results153,go_sem,d0,d1,d2,d3,d4,d5,d6]) rfl ?_;rw[<-HA.out];exact⟨y,m,d,rfl,aR (cH O.out HK (fun k e q=>by have:=(World.ownsRow.lt O.out k e).1;omega)) (by omega),BF⟩
theorem aFu (w:World) (V:SV) (s:Sm) (x:Option Addr) (n c:Nat) (ps:List T.Pr) (lo al:Int) (h:RdS w V s) (hu:T.Prs w (.slice x n c) ps):
  Calls Tryz.prog 153 #[.agg #[.slice V.xr V.nr V.cr,.slice V.xf V.nf V.cf,.slice V.xt V.nt V.ct,.int .i64 s.lo,.int .i64 s.al,.slice V.xk V.nk V.ck,.int .i64 s.ka],.iface 41 (.agg #[.slice x n c,.int .i64 lo,.int .i64 al])] w fun e w'=>∃y m d,e=.returned (.tuple #[.agg #[.slice V.xr V.nr V.cr,.slice V.xf V.nf V.cf,.slice y m d,.int .i64 (T.jD s.ps s.lo s.al ps lo al).2.1,.int .i64 (T.jD s.ps s.lo s.al ps lo al).2.2,.slice V.xk V.nk V.ck,.int .i64 s.ka],.bool (T.hZ s.ps s.lo s.al ps lo al)])/\T.aK w' w.heap.size (.slice y m d) (T.jD s.ps s.lo s.al ps lo al).1/\Below w.heap.size w w':=by
 have I1:=fun w=>(aIr (.agg #[.slice x n c,.int .i64 lo,.int .i64 al]) w).1
 have I2:=fun w=>(aIr (.agg #[.slice x n c,.int .i64 lo,.int .i64 al]) w).2.1
 have I3:=fun w=>(aIr (.agg #[.slice x n c,.int .i64 lo,.int .i64 al]) w).2.2
 have hA:=((((Below.refl w.heap.size w).alloc lr_ (.cells #[.slice V.xr V.nr V.cr,.slice V.xf V.nf V.cf,.slice V.xt V.nt V.ct,.int .i64 s.lo,.int .i64 s.al,.slice V.xk V.nk V.ck,.int .i64 s.ka] 46)).alloc (by simp) (.cells #[.slice none 0 0,.slice none 0 0,.slice none 0 0,.int .i64 0,.int .i64 0,.slice none 0 0,.int .i64 0] 46)).alloc (by simp;omega) (.cells #[.slice x n c,.int .i64 lo,.int .i64 al] 41))
 have X:=((aM.new w 46 (.slice V.xr V.nr V.cr) (.slice V.xf V.nf V.cf) (.slice V.xt V.nt V.ct) (.int .i64 s.lo) (.int .i64 s.al) (.slice V.xk V.nk V.ck) (.int .i64 s.ka)).alloc (.cells #[.slice none 0 0,.slice none 0 0,.slice none 0 0,.int .i64 0,.int .i64 0,.slice none 0 0,.int .i64 0] 46)).alloc (.cells #[.slice x n c,.int .i64 lo,.int .i64 al] 41)
 have R:=(aM.new (w.alloc (.cells #[.slice V.xr V.nr V.cr,.slice V.xf V.nf V.cf,.slice V.xt V.nt V.ct,.int .i64 s.lo,.int .i64 s.al,.slice V.xk V.nk V.ck,.int .i64 s.ka] 46)) 46 (.slice none 0 0) (.slice none 0 0) (.slice none 0 0) (.int .i64 0) (.int .i64 0) (.slice none 0 0) (.int .i64 0)).alloc (.cells #[.slice x n c,.int .i64 lo,.int .i64 al] 41);rw[World.size_alloc]at R
 have D:=T.bN.new ((w.alloc (.cells #[.slice V.xr V.nr V.cr,.slice V.xf V.nf V.cf,.slice V.xt V.nt V.ct,.int .i64 s.lo,.int .i64 s.al,.slice V.xk V.nk V.ck,.int .i64 s.ka] 46)).alloc (.cells #[.slice none 0 0,.slice none 0 0,.slice none 0 0,.int .i64 0,.int .i64 0,.slice none 0 0,.int .i64 0] 46)) 41 (.slice x n c) (.int .i64 lo) (.int .i64 al);rw[World.size_alloc,World.size_alloc]at D
 obtain⟨ax0,ax1,ax2,ax3,ax4,ax5,ax6⟩:=(X).cells;have ad0:=(D).cell0;have ad1:=(D).cell1;have ad2:=(D).cell2
 obtain⟨W1,hW⟩:∃W,W=((w.alloc (.cells #[.slice V.xr V.nr V.cr,.slice V.xf V.nf V.cf,.slice V.xt V.nt V.ct,.int .i64 s.lo,.int .i64 s.al,.slice V.xk V.nk V.ck,.int .i64 s.ka] 46)).alloc (.cells #[.slice none 0 0,.slice none 0 0,.slice none 0 0,.int .i64 0,.int .i64 0,.slice none 0 0,.int .i64 0] 46)).alloc (.cells #[.slice x n c,.int .i64 lo,.int .i64 al] 41):=⟨_,rfl⟩
 rw[<-hW]at hA X R D;have S:Hid (RdS W1 V s):=hd_ (h.below hA lr_);have P:=hd_ (hu.below hA lr_);have B:=hd_ hA;have SZ0:Hid (w.heap.size+2<=W1.heap.size):=by show _<=_;rw[hW];simp
 clear hA h hu;have KA:=T.tS W1 (.slice V.xt V.nt V.ct) (.slice x n c) s.ps ps s.lo s.al lo al S.out.t P.out;generalize T.jD s.ps s.lo s.al ps lo al=A at KA ⊢;generalize T.hZ s.ps s.lo s.al ps lo al=ok at KA ⊢;go_enter Tryz.func153,Tryz.ntmps153
 go_wp2_with fail
 rw[<-hW];clear hW ax0 ax1 ax2 ax3 ax4 ax5 ax6 ad0 ad1 ad2;refine (KA).mono ?_;rintro e w1 ⟨v,rfl,ho,hb⟩;obtain⟨y,d,rfl⟩:=ho.form';obtain⟨m,hm⟩:∃m,m=(A.1).length:=⟨_,rfl⟩
 rw[<-hm]at ho ⊢;have Sw0:=hd_ hb.size;clear hm KA;clear S;clear P;clear D;replace X:=X.later hb;replace R:=R.later hb;replace B:=hd_ (B.out.trans (hb.mono B.out.size));have O:=hd_ (ho);clear hb;obtain⟨cx0,cx1,cx2,cx3,cx4,cx5,cx6⟩:=(X).cells;obtain⟨cr0,cr1,cr2,cr3,cr4,cr5,cr6⟩:=(R).cells;have frx:=X.free;have frr:=R.free;clear ho;have Y:=X;replace Y:=Y.set2 (.slice y m d)
 replace Y:=Y.set3 (.int .i64 A.2.1);replace Y:=Y.set4 (.int .i64 A.2.2);obtain⟨y0,y1,y2,y3,y4,y5,y6⟩:=Y.cells;clear Y;have G1:=hd_ (aQ (aQ (aA w1 ⟨w.heap.size,2,none⟩ (.slice y m d)) (aA _ ⟨w.heap.size,3,none⟩ (.int .i64 A.2.1))) (aA _ ⟨w.heap.size,4,none⟩ (.int .i64 A.2.2)))
 have BX:Hid (Below w.heap.size w ((((w1.setCell ⟨w.heap.size,2,none⟩ (.slice y m d)).setCell ⟨w.heap.size,3,none⟩ (.int .i64 A.2.1)).setCell ⟨w.heap.size,4,none⟩ (.int .i64 A.2.2)))):=hd_ ((((B.out.setCell lr_ _).setCell lr_ _).setCell lr_ _));have RX:=R.kept G1.out (by simp);have SZ:Hid (w.heap.size+2<=W1.heap.size):=SZ0;have Sw:Hid (W1.heap.size<=w1.heap.size):=Sw0;clear X R B;go_wp2
 show bodyPost _ _ _ _ _ (set7 (((w1.setCell ⟨w.heap.size,2,none⟩ (.slice y m d)).setCell ⟨w.heap.size,3,none⟩ (.int .i64 A.2.1)).setCell ⟨w.heap.size,4,none⟩ (.int .i64 A.2.2)) (w.heap.size+1) (.slice V.xr V.nr V.cr) (.slice V.xf V.nf V.cf) (.slice y m d) (.int .i64 A.2.1) (.int .i64 A.2.2) (.slice V.xk V.nk V.ck) (.int .i64 s.ka))
 generalize (((w1.setCell ⟨w.heap.size,2,none⟩ (.slice y m d)).setCell ⟨w.heap.size,3,none⟩ (.int .i64 A.2.1)).setCell ⟨w.heap.size,4,none⟩ (.int .i64 A.2.2))=WX at G1 BX RX ⊢;have G2:=cZ WX (w.heap.size+1) (.slice V.xr V.nr V.cr) (.slice V.xf V.nf V.cf) (.slice y m d) (.int .i64 A.2.1) (.int .i64 A.2.2) (.slice V.xk V.nk V.ck) (.int .i64 s.ka)
 have Y:=RX.set (.slice V.xr V.nr V.cr) (.slice V.xf V.nf V.cf) (.slice y m d) (.int .i64 A.2.1) (.int .i64 A.2.2) (.slice V.xk V.nk V.ck) (.int .i64 s.ka);have BF:=aW BX.out (Nat.le_add_right _ 1) (.slice V.xr V.nr V.cr) (.slice V.xf V.nf V.cf) (.slice y m d) (.int .i64 A.2.1) (.int .i64 A.2.2) (.slice V.xk V.nk V.ck) (.int .i64 s.ka)
 generalize set7 WX (w.heap.size+1) (.slice V.xr V.nr V.cr) (.slice V.xf V.nf V.cf) (.slice y m d) (.int .i64 A.2.1) (.int .i64 A.2.2) (.slice V.xk V.nk V.ck) (.int .i64 s.ka)=WF at G2 Y BF ⊢;have s1:=SZ.out;have s2:=Sw.out;have s3:=G1.out.size;have s4:=G2.size
 have HK:dB (fun k=>k<W1.heap.size) w1 WF:=(dB.of_grown G1.out (show w.heap.size<W1.heap.size by omega)).trans (dB.of_grown G2 (show w.heap.size+1<W1.heap.size by omega));obtain⟨d0,d1,d2,d3,d4,d5,d6⟩:=Y.cells
 refine bodyPost_ret (v:=.tuple #[.agg #[.slice V.xr V.nr V.cr,.slice V.xf V.nf V.cf,.slice y m d,.int .i64 A.2.1,.int .i64 A.2.2,.slice V.xk V.nk V.ck,.int .i64 s.ka],.bool ok]) (by simp[results,Tryz.results153,go_sem,d0,d1,d2,d3,d4,d5,d6]) rfl ?_;exact⟨y,m,d,rfl,aR (cH O.out HK (fun k e q=>by have:=(World.ownsRow.lt O.out k e).1;omega)) (by omega),BF⟩
theorem aFM (w:World) (V:SV) (s:Sm) (x:Option Addr) (n c:Nat) (ps:List K.Pr) (al:Int) (h:RdS w V s) (hu:K.Prs w (.slice x n c) ps):
  Calls Tryz.prog 153 #[.agg #[.slice V.xr V.nr V.cr,.slice V.xf V.nf V.cf,.slice V.xt V.nt V.ct,.int .i64 s.lo,.int .i64 s.al,.slice V.xk V.nk V.ck,.int .i64 s.ka],.iface 44 (.agg #[.slice x n c,.int .i64 al])] w fun e w'=>∃y m d,e=.returned (.tuple #[.agg #[.slice V.xr V.nr V.cr,.slice V.xf V.nf V.cf,.slice V.xt V.nt V.ct,.int .i64 s.lo,.int .i64 s.al,.slice y m d,.int .i64 (K.iG s.ks s.ka ps al).2],.bool (K.dN s.ks s.ka ps al)])/\K.aK w' w.heap.size (.slice y m d) (K.iG s.ks s.ka ps al).1/\Below w.heap.size w w':=by
 have I1:=fun w=>(aF7 (.agg #[.slice x n c,.int .i64 al]) w).1
 have I2:=fun w=>(aF7 (.agg #[.slice x n c,.int .i64 al]) w).2.1
 have I3:=fun w=>(aF7 (.agg #[.slice x n c,.int .i64 al]) w).2.2.1
 have I4:=fun w=>(aF7 (.agg #[.slice x n c,.int .i64 al]) w).2.2.2
 have hA:=((((Below.refl w.heap.size w).alloc lr_ (.cells #[.slice V.xr V.nr V.cr,.slice V.xf V.nf V.cf,.slice V.xt V.nt V.ct,.int .i64 s.lo,.int .i64 s.al,.slice V.xk V.nk V.ck,.int .i64 s.ka] 46)).alloc (by simp) (.cells #[.slice none 0 0,.slice none 0 0,.slice none 0 0,.int .i64 0,.int .i64 0,.slice none 0 0,.int .i64 0] 46)).alloc (by simp;omega) (.cells #[.slice x n c,.int .i64 al] 44))
 have X:=((aM.new w 46 (.slice V.xr V.nr V.cr) (.slice V.xf V.nf V.cf) (.slice V.xt V.nt V.ct) (.int .i64 s.lo) (.int .i64 s.al) (.slice V.xk V.nk V.ck) (.int .i64 s.ka)).alloc (.cells #[.slice none 0 0,.slice none 0 0,.slice none 0 0,.int .i64 0,.int .i64 0,.slice none 0 0,.int .i64 0] 46)).alloc (.cells #[.slice x n c,.int .i64 al] 44)
 have R:=(aM.new (w.alloc (.cells #[.slice V.xr V.nr V.cr,.slice V.xf V.nf V.cf,.slice V.xt V.nt V.ct,.int .i64 s.lo,.int .i64 s.al,.slice V.xk V.nk V.ck,.int .i64 s.ka] 46)) 46 (.slice none 0 0) (.slice none 0 0) (.slice none 0 0) (.int .i64 0) (.int .i64 0) (.slice none 0 0) (.int .i64 0)).alloc (.cells #[.slice x n c,.int .i64 al] 44);rw[World.size_alloc]at R
 have D:=K.aY.new ((w.alloc (.cells #[.slice V.xr V.nr V.cr,.slice V.xf V.nf V.cf,.slice V.xt V.nt V.ct,.int .i64 s.lo,.int .i64 s.al,.slice V.xk V.nk V.ck,.int .i64 s.ka] 46)).alloc (.cells #[.slice none 0 0,.slice none 0 0,.slice none 0 0,.int .i64 0,.int .i64 0,.slice none 0 0,.int .i64 0] 46)) 44 (.slice x n c) (.int .i64 al);rw[World.size_alloc,World.size_alloc]at D
 obtain⟨ax0,ax1,ax2,ax3,ax4,ax5,ax6⟩:=(X).cells;have ad0:=(D).cell0;have ad1:=(D).cell1
 obtain⟨W1,hW⟩:∃W,W=((w.alloc (.cells #[.slice V.xr V.nr V.cr,.slice V.xf V.nf V.cf,.slice V.xt V.nt V.ct,.int .i64 s.lo,.int .i64 s.al,.slice V.xk V.nk V.ck,.int .i64 s.ka] 46)).alloc (.cells #[.slice none 0 0,.slice none 0 0,.slice none 0 0,.int .i64 0,.int .i64 0,.slice none 0 0,.int .i64 0] 46)).alloc (.cells #[.slice x n c,.int .i64 al] 44):=⟨_,rfl⟩
 rw[<-hW]at hA X R D;have S:Hid (RdS W1 V s):=hd_ (h.below hA lr_);have P:=hd_ (hu.below hA lr_);have B:=hd_ hA;have SZ0:Hid (w.heap.size+2<=W1.heap.size):=by show _<=_;rw[hW];simp
 clear hA h hu;have KA:=K.sF W1 (.slice V.xk V.nk V.ck) (.slice x n c) s.ks s.ka ps al S.out.k P.out;generalize K.iG s.ks s.ka ps al=A at KA ⊢;generalize K.dN s.ks s.ka ps al=ok at KA ⊢;go_enter Tryz.func153,Tryz.ntmps153
 go_wp2_with fail
 rw[<-hW];clear hW ax0 ax1 ax2 ax3 ax4 ax5 ax6 ad0 ad1;refine (KA).mono ?_;rintro e w1 ⟨v,rfl,ho,hb⟩;obtain⟨y,d,rfl⟩:=ho.form';obtain⟨m,hm⟩:∃m,m=(A.1).length:=⟨_,rfl⟩
 rw[<-hm]at ho ⊢;have Sw0:=hd_ hb.size;clear hm KA;clear S;clear P;clear D;replace X:=X.later hb;replace R:=R.later hb;replace B:=hd_ (B.out.trans (hb.mono B.out.size));have O:=hd_ (ho);clear hb;obtain⟨cx0,cx1,cx2,cx3,cx4,cx5,cx6⟩:=(X).cells;obtain⟨cr0,cr1,cr2,cr3,cr4,cr5,cr6⟩:=(R).cells;have frx:=X.free;have frr:=R.free;clear ho;have Y:=X;replace Y:=Y.set5 (.slice y m d)
 replace Y:=Y.set6 (.int .i64 A.2);obtain⟨y0,y1,y2,y3,y4,y5,y6⟩:=Y.cells;clear Y;have G1:=hd_ (aQ (aA w1 ⟨w.heap.size,5,none⟩ (.slice y m d)) (aA _ ⟨w.heap.size,6,none⟩ (.int .i64 A.2)))
 have BX:Hid (Below w.heap.size w (((w1.setCell ⟨w.heap.size,5,none⟩ (.slice y m d)).setCell ⟨w.heap.size,6,none⟩ (.int .i64 A.2)))):=hd_ (((B.out.setCell lr_ _).setCell lr_ _));have RX:=R.kept G1.out (by simp);have SZ:Hid (w.heap.size+2<=W1.heap.size):=SZ0;have Sw:Hid (W1.heap.size<=w1.heap.size):=Sw0;clear X R B;go_wp2
 show bodyPost _ _ _ _ _ (set7 ((w1.setCell ⟨w.heap.size,5,none⟩ (.slice y m d)).setCell ⟨w.heap.size,6,none⟩ (.int .i64 A.2)) (w.heap.size+1) (.slice V.xr V.nr V.cr) (.slice V.xf V.nf V.cf) (.slice V.xt V.nt V.ct) (.int .i64 s.lo) (.int .i64 s.al) (.slice y m d) (.int .i64 A.2))
 generalize ((w1.setCell ⟨w.heap.size,5,none⟩ (.slice y m d)).setCell ⟨w.heap.size,6,none⟩ (.int .i64 A.2))=WX at G1 BX RX ⊢;have G2:=cZ WX (w.heap.size+1) (.slice V.xr V.nr V.cr) (.slice V.xf V.nf V.cf) (.slice V.xt V.nt V.ct) (.int .i64 s.lo) (.int .i64 s.al) (.slice y m d) (.int .i64 A.2)
 have Y:=RX.set (.slice V.xr V.nr V.cr) (.slice V.xf V.nf V.cf) (.slice V.xt V.nt V.ct) (.int .i64 s.lo) (.int .i64 s.al) (.slice y m d) (.int .i64 A.2);have BF:=aW BX.out (Nat.le_add_right _ 1) (.slice V.xr V.nr V.cr) (.slice V.xf V.nf V.cf) (.slice V.xt V.nt V.ct) (.int .i64 s.lo) (.int .i64 s.al) (.slice y m d) (.int .i64 A.2)
 generalize set7 WX (w.heap.size+1) (.slice V.xr V.nr V.cr) (.slice V.xf V.nf V.cf) (.slice V.xt V.nt V.ct) (.int .i64 s.lo) (.int .i64 s.al) (.slice y m d) (.int .i64 A.2)=WF at G2 Y BF ⊢;have s1:=SZ.out;have s2:=Sw.out;have s3:=G1.out.size;have s4:=G2.size
 have HK:dB (fun k=>k<W1.heap.size) w1 WF:=(dB.of_grown G1.out (show w.heap.size<W1.heap.size by omega)).trans (dB.of_grown G2 (show w.heap.size+1<W1.heap.size by omega));obtain⟨d0,d1,d2,d3,d4,d5,d6⟩:=Y.cells
 refine bodyPost_ret (v:=.tuple #[.agg #[.slice V.xr V.nr V.cr,.slice V.xf V.nf V.cf,.slice V.xt V.nt V.ct,.int .i64 s.lo,.int .i64 s.al,.slice y m d,.int .i64 A.2],.bool ok]) (by simp[results,Tryz.results153,go_sem,d0,d1,d2,d3,d4,d5,d6]) rfl ?_;exact⟨y,m,d,rfl,aR (cH O.out HK (fun k e q=>by have:=(World.ownsRow.lt O.out k e).1;omega)) (by omega),BF⟩
end Go.Proofs.YtcblbdpdbggkbaaGreat
set_option linter.unusedVariables false
namespace Go.Proofs.YtcblbdpdbggkbaaGreat
open Go.RowKit Go.Sort
theorem aAQ (w:World) (V1 V2:SV) (a b:Sm) (h1:RdS w V1 a) (h2:RdS w V2 b) (okA:okS a=false):
  Calls Tryz.prog 78 #[.agg #[.slice V1.xr V1.nr V1.cr,.slice V1.xf V1.nf V1.cf,.slice V1.xt V1.nt V1.ct,.int .i64 a.lo,.int .i64 a.al,.slice V1.xk V1.nk V1.ck,.int .i64 a.ka],.agg #[.slice V2.xr V2.nr V2.cr,.slice V2.xf V2.nf V2.cf,.slice V2.xt V2.nt V2.ct,.int .i64 b.lo,.int .i64 b.al,.slice V2.xk V2.nk V2.ck,.int .i64 b.ka]] w fun e w'=>∃U,e=.returned (.tuple #[.agg #[.slice U.xr U.nr U.cr,.slice U.xf U.nf U.cf,.slice U.xt U.nt U.ct,.int .i64 (gI a b).lo,.int .i64 (gI a b).al,.slice U.xk U.nk U.ck,.int .i64 (gI a b).ka],.bool (dF a b)])/\bH w' w.heap.size w'.heap.size U (gI a b)/\Below w.heap.size w w':=by
 have hno:dF a b=false:=by unfold dF;rw[okA];rfl
 have hA:=(((Below.refl w.heap.size w).alloc lr_ (.cells #[.slice V1.xr V1.nr V1.cr,.slice V1.xf V1.nf V1.cf,.slice V1.xt V1.nt V1.ct,.int .i64 a.lo,.int .i64 a.al,.slice V1.xk V1.nk V1.ck,.int .i64 a.ka] 46)).alloc (by simp) (.cells #[.slice V2.xr V2.nr V2.cr,.slice V2.xf V2.nf V2.cf,.slice V2.xt V2.nt V2.ct,.int .i64 b.lo,.int .i64 b.al,.slice V2.xk V2.nk V2.ck,.int .i64 b.ka] 46)).alloc (by simp;omega) (.cells #[.slice none 0 0,.slice none 0 0,.slice none 0 0,.int .i64 0,.int .i64 0,.slice none 0 0,.int .i64 0] 46)
 have XA:=((aM.new w 46 (.slice V1.xr V1.nr V1.cr) (.slice V1.xf V1.nf V1.cf) (.slice V1.xt V1.nt V1.ct) (.int .i64 a.lo) (.int .i64 a.al) (.slice V1.xk V1.nk V1.ck) (.int .i64 a.ka)).alloc (.cells #[.slice V2.xr V2.nr V2.cr,.slice V2.xf V2.nf V2.cf,.slice V2.xt V2.nt V2.ct,.int .i64 b.lo,.int .i64 b.al,.slice V2.xk V2.nk V2.ck,.int .i64 b.ka] 46)).alloc (.cells #[.slice none 0 0,.slice none 0 0,.slice none 0 0,.int .i64 0,.int .i64 0,.slice none 0 0,.int .i64 0] 46)
 have XB:=(aM.new (w.alloc (.cells #[.slice V1.xr V1.nr V1.cr,.slice V1.xf V1.nf V1.cf,.slice V1.xt V1.nt V1.ct,.int .i64 a.lo,.int .i64 a.al,.slice V1.xk V1.nk V1.ck,.int .i64 a.ka] 46)) 46 (.slice V2.xr V2.nr V2.cr) (.slice V2.xf V2.nf V2.cf) (.slice V2.xt V2.nt V2.ct) (.int .i64 b.lo) (.int .i64 b.al) (.slice V2.xk V2.nk V2.ck) (.int .i64 b.ka)).alloc (.cells #[.slice none 0 0,.slice none 0 0,.slice none 0 0,.int .i64 0,.int .i64 0,.slice none 0 0,.int .i64 0] 46)
 rw[World.size_alloc]at XB
 have R:=aM.new ((w.alloc (.cells #[.slice V1.xr V1.nr V1.cr,.slice V1.xf V1.nf V1.cf,.slice V1.xt V1.nt V1.ct,.int .i64 a.lo,.int .i64 a.al,.slice V1.xk V1.nk V1.ck,.int .i64 a.ka] 46)).alloc (.cells #[.slice V2.xr V2.nr V2.cr,.slice V2.xf V2.nf V2.cf,.slice V2.xt V2.nt V2.ct,.int .i64 b.lo,.int .i64 b.al,.slice V2.xk V2.nk V2.ck,.int .i64 b.ka] 46)) 46 (.slice none 0 0) (.slice none 0 0) (.slice none 0 0) (.int .i64 0) (.int .i64 0) (.slice none 0 0) (.int .i64 0)
 rw[World.size_alloc,World.size_alloc]at R;obtain⟨axa0,axa1,axa2,axa3,axa4,axa5,axa6⟩:=(XA).cells
 obtain⟨W0,hW⟩:∃W,W=((w.alloc (.cells #[.slice V1.xr V1.nr V1.cr,.slice V1.xf V1.nf V1.cf,.slice V1.xt V1.nt V1.ct,.int .i64 a.lo,.int .i64 a.al,.slice V1.xk V1.nk V1.ck,.int .i64 a.ka] 46)).alloc (.cells #[.slice V2.xr V2.nr V2.cr,.slice V2.xf V2.nf V2.cf,.slice V2.xt V2.nt V2.ct,.int .i64 b.lo,.int .i64 b.al,.slice V2.xk V2.nk V2.ck,.int .i64 b.ka] 46)).alloc (.cells #[.slice none 0 0,.slice none 0 0,.slice none 0 0,.int .i64 0,.int .i64 0,.slice none 0 0,.int .i64 0] 46):=⟨_,rfl⟩
 rw[<-hW]at hA XA XB R;have B:=hd_ hA;have H1:=hd_ h1;have H2:=hd_ h2;have SZ:Hid (W0.heap.size=w.heap.size+3):=by show _=_;rw[hW];simp
 clear hA h1 h2;have K1:=iV W0 V1 a (H1.out.below B.out lr_);rw[okA]at K1;go_enter Tryz.func78,Tryz.ntmps78
 go_wp2_with fail
 rw[<-hW];clear hW axa0 axa1 axa2 axa3 axa4 axa5 axa6;refine (K1).mono ?_;rintro e w1 ⟨rfl,hb⟩;clear K1;have SZ1:=hd_ hb.size;replace XA:=XA.later hb;replace XB:=XB.later hb;replace R:=R.later hb;replace B:=hd_ (B.out.trans (hb.mono B.out.size));clear hb;obtain⟨cr0,cr1,cr2,cr3,cr4,cr5,cr6⟩:=(R).cells;have frr:=R.free
 have fin:=R.set (.slice none 0 0) (.slice none 0 0) (.slice none 0 0) (.int .i64 0) (.int .i64 0) (.slice none 0 0) (.int .i64 0);have OF:=bH.box7 (bH.none _ _ _ B.out.size lr_) R (.slice none 0 0) (.slice none 0 0) (.slice none 0 0) (.int .i64 0) (.int .i64 0) (.slice none 0 0) (.int .i64 0)
 have BF:=aW B.out (show w.heap.size<=w.heap.size+1+1 by omega) (.slice none 0 0) (.slice none 0 0) (.slice none 0 0) (.int .i64 0) (.int .i64 0) (.slice none 0 0) (.int .i64 0);have SF:=cG w1 (w.heap.size+1+1) (.slice none 0 0) (.slice none 0 0) (.slice none 0 0) (.int .i64 0) (.int .i64 0) (.slice none 0 0) (.int .i64 0)
 have HF:=hd_ (And.intro (bH.base OF lr_ (Nat.le_of_eq SF.symm) lr_) BF);have HY:=hd_ fin;clear fin OF BF SF;go_wp2;show bodyPost _ _ _ _ _ (set7 w1 (w.heap.size+1+1) (.slice none 0 0) (.slice none 0 0) (.slice none 0 0) (.int .i64 0) (.int .i64 0) (.slice none 0 0) (.int .i64 0))
 obtain⟨d0,d1,d2,d3,d4,d5,d6⟩:=HY.out.cells;generalize set7 w1 (w.heap.size+1+1) (.slice none 0 0) (.slice none 0 0) (.slice none 0 0) (.int .i64 0) (.int .i64 0) (.slice none 0 0) (.int .i64 0)=WF at HF d0 d1 d2 d3 d4 d5 d6 ⊢
 refine bodyPost_ret (v:=.tuple #[.agg #[.slice none 0 0,.slice none 0 0,.slice none 0 0,.int .i64 0,.int .i64 0,.slice none 0 0,.int .i64 0],.bool false]) (by simp[results,Tryz.results78,go_sem,d0,d1,d2,d3,d4,d5,d6]) rfl ?_;rw[uC hno,hno];exact⟨SV.none,rfl,HF.out⟩
theorem aAJ (w:World) (V1 V2:SV) (a b:Sm) (h1:RdS w V1 a) (h2:RdS w V2 b) (okA:okS a=true) (okB':okS b=false):
  Calls Tryz.prog 78 #[.agg #[.slice V1.xr V1.nr V1.cr,.slice V1.xf V1.nf V1.cf,.slice V1.xt V1.nt V1.ct,.int .i64 a.lo,.int .i64 a.al,.slice V1.xk V1.nk V1.ck,.int .i64 a.ka],.agg #[.slice V2.xr V2.nr V2.cr,.slice V2.xf V2.nf V2.cf,.slice V2.xt V2.nt V2.ct,.int .i64 b.lo,.int .i64 b.al,.slice V2.xk V2.nk V2.ck,.int .i64 b.ka]] w fun e w'=>∃U,e=.returned (.tuple #[.agg #[.slice U.xr U.nr U.cr,.slice U.xf U.nf U.cf,.slice U.xt U.nt U.ct,.int .i64 (gI a b).lo,.int .i64 (gI a b).al,.slice U.xk U.nk U.ck,.int .i64 (gI a b).ka],.bool (dF a b)])/\bH w' w.heap.size w'.heap.size U (gI a b)/\Below w.heap.size w w':=by
 have hno:dF a b=false:=by unfold dF;rw[okB'];cases okS a<;>rfl
 have hA:=(((Below.refl w.heap.size w).alloc lr_ (.cells #[.slice V1.xr V1.nr V1.cr,.slice V1.xf V1.nf V1.cf,.slice V1.xt V1.nt V1.ct,.int .i64 a.lo,.int .i64 a.al,.slice V1.xk V1.nk V1.ck,.int .i64 a.ka] 46)).alloc (by simp) (.cells #[.slice V2.xr V2.nr V2.cr,.slice V2.xf V2.nf V2.cf,.slice V2.xt V2.nt V2.ct,.int .i64 b.lo,.int .i64 b.al,.slice V2.xk V2.nk V2.ck,.int .i64 b.ka] 46)).alloc (by simp;omega) (.cells #[.slice none 0 0,.slice none 0 0,.slice none 0 0,.int .i64 0,.int .i64 0,.slice none 0 0,.int .i64 0] 46)
 have XA:=((aM.new w 46 (.slice V1.xr V1.nr V1.cr) (.slice V1.xf V1.nf V1.cf) (.slice V1.xt V1.nt V1.ct) (.int .i64 a.lo) (.int .i64 a.al) (.slice V1.xk V1.nk V1.ck) (.int .i64 a.ka)).alloc (.cells #[.slice V2.xr V2.nr V2.cr,.slice V2.xf V2.nf V2.cf,.slice V2.xt V2.nt V2.ct,.int .i64 b.lo,.int .i64 b.al,.slice V2.xk V2.nk V2.ck,.int .i64 b.ka] 46)).alloc (.cells #[.slice none 0 0,.slice none 0 0,.slice none 0 0,.int .i64 0,.int .i64 0,.slice none 0 0,.int .i64 0] 46)
 have XB:=(aM.new (w.alloc (.cells #[.slice V1.xr V1.nr V1.cr,.slice V1.xf V1.nf V1.cf,.slice V1.xt V1.nt V1.ct,.int .i64 a.lo,.int .i64 a.al,.slice V1.xk V1.nk V1.ck,.int .i64 a.ka] 46)) 46 (.slice V2.xr V2.nr V2.cr) (.slice V2.xf V2.nf V2.cf) (.slice V2.xt V2.nt V2.ct) (.int .i64 b.lo) (.int .i64 b.al) (.slice V2.xk V2.nk V2.ck) (.int .i64 b.ka)).alloc (.cells #[.slice none 0 0,.slice none 0 0,.slice none 0 0,.int .i64 0,.int .i64 0,.slice none 0 0,.int .i64 0] 46)
 rw[World.size_alloc]at XB
 have R:=aM.new ((w.alloc (.cells #[.slice V1.xr V1.nr V1.cr,.slice V1.xf V1.nf V1.cf,.slice V1.xt V1.nt V1.ct,.int .i64 a.lo,.int .i64 a.al,.slice V1.xk V1.nk V1.ck,.int .i64 a.ka] 46)).alloc (.cells #[.slice V2.xr V2.nr V2.cr,.slice V2.xf V2.nf V2.cf,.slice V2.xt V2.nt V2.ct,.int .i64 b.lo,.int .i64 b.al,.slice V2.xk V2.nk V2.ck,.int .i64 b.ka] 46)) 46 (.slice none 0 0) (.slice none 0 0) (.slice none 0 0) (.int .i64 0) (.int .i64 0) (.slice none 0 0) (.int .i64 0)
 rw[World.size_alloc,World.size_alloc]at R;obtain⟨axa0,axa1,axa2,axa3,axa4,axa5,axa6⟩:=(XA).cells
 obtain⟨W0,hW⟩:∃W,W=((w.alloc (.cells #[.slice V1.xr V1.nr V1.cr,.slice V1.xf V1.nf V1.cf,.slice V1.xt V1.nt V1.ct,.int .i64 a.lo,.int .i64 a.al,.slice V1.xk V1.nk V1.ck,.int .i64 a.ka] 46)).alloc (.cells #[.slice V2.xr V2.nr V2.cr,.slice V2.xf V2.nf V2.cf,.slice V2.xt V2.nt V2.ct,.int .i64 b.lo,.int .i64 b.al,.slice V2.xk V2.nk V2.ck,.int .i64 b.ka] 46)).alloc (.cells #[.slice none 0 0,.slice none 0 0,.slice none 0 0,.int .i64 0,.int .i64 0,.slice none 0 0,.int .i64 0] 46):=⟨_,rfl⟩
 rw[<-hW]at hA XA XB R;have B:=hd_ hA;have H1:=hd_ h1;have H2:=hd_ h2;have SZ:Hid (W0.heap.size=w.heap.size+3):=by show _=_;rw[hW];simp
 clear hA h1 h2;have K1:=iV W0 V1 a (H1.out.below B.out lr_);rw[okA]at K1;go_enter Tryz.func78,Tryz.ntmps78
 go_wp2_with fail
 rw[<-hW];clear hW axa0 axa1 axa2 axa3 axa4 axa5 axa6;refine (K1).mono ?_;rintro e w1 ⟨rfl,hb⟩;clear K1;have SZ1:=hd_ hb.size;replace XA:=XA.later hb;replace XB:=XB.later hb;replace R:=R.later hb;replace B:=hd_ (B.out.trans (hb.mono B.out.size));clear hb;obtain⟨cxb0,cxb1,cxb2,cxb3,cxb4,cxb5,cxb6⟩:=(XB).cells;have frr:=R.free;have K1:=iV w1 V2 b (H2.out.below B.out lr_);rw[okB']at K1
 go_wp2_with fail
 refine (K1).mono ?_;rintro e w2 ⟨rfl,hb⟩;clear K1;clear cxb0 cxb1 cxb2 cxb3 cxb4 cxb5 cxb6 frr;replace XA:=XA.later hb;replace XB:=XB.later hb;replace R:=R.later hb;replace B:=hd_ (B.out.trans (hb.mono B.out.size));clear hb;obtain⟨cr0,cr1,cr2,cr3,cr4,cr5,cr6⟩:=(R).cells;have frr:=R.free
 have fin:=R.set (.slice none 0 0) (.slice none 0 0) (.slice none 0 0) (.int .i64 0) (.int .i64 0) (.slice none 0 0) (.int .i64 0);have OF:=bH.box7 (bH.none _ _ _ B.out.size lr_) R (.slice none 0 0) (.slice none 0 0) (.slice none 0 0) (.int .i64 0) (.int .i64 0) (.slice none 0 0) (.int .i64 0)
 have BF:=aW B.out (show w.heap.size<=w.heap.size+1+1 by omega) (.slice none 0 0) (.slice none 0 0) (.slice none 0 0) (.int .i64 0) (.int .i64 0) (.slice none 0 0) (.int .i64 0);have SF:=cG w2 (w.heap.size+1+1) (.slice none 0 0) (.slice none 0 0) (.slice none 0 0) (.int .i64 0) (.int .i64 0) (.slice none 0 0) (.int .i64 0)
 have HF:=hd_ (And.intro (bH.base OF lr_ (Nat.le_of_eq SF.symm) lr_) BF);have HY:=hd_ fin;clear fin OF BF SF;go_wp2;show bodyPost _ _ _ _ _ (set7 w2 (w.heap.size+1+1) (.slice none 0 0) (.slice none 0 0) (.slice none 0 0) (.int .i64 0) (.int .i64 0) (.slice none 0 0) (.int .i64 0))
 obtain⟨d0,d1,d2,d3,d4,d5,d6⟩:=HY.out.cells;generalize set7 w2 (w.heap.size+1+1) (.slice none 0 0) (.slice none 0 0) (.slice none 0 0) (.int .i64 0) (.int .i64 0) (.slice none 0 0) (.int .i64 0)=WF at HF d0 d1 d2 d3 d4 d5 d6 ⊢
 refine bodyPost_ret (v:=.tuple #[.agg #[.slice none 0 0,.slice none 0 0,.slice none 0 0,.int .i64 0,.int .i64 0,.slice none 0 0,.int .i64 0],.bool false]) (by simp[results,Tryz.results78,go_sem,d0,d1,d2,d3,d4,d5,d6]) rfl ?_;rw[uC hno,hno];exact⟨SV.none,rfl,HF.out⟩
theorem aAe (w:World) (V1 V2:SV) (a b:Sm) (h1:RdS w V1 a) (h2:RdS w V2 b) (okA:okS a=true) (okB':okS b=true) (hs:¬a.al+b.al<=2000):
  Calls Tryz.prog 78 #[.agg #[.slice V1.xr V1.nr V1.cr,.slice V1.xf V1.nf V1.cf,.slice V1.xt V1.nt V1.ct,.int .i64 a.lo,.int .i64 a.al,.slice V1.xk V1.nk V1.ck,.int .i64 a.ka],.agg #[.slice V2.xr V2.nr V2.cr,.slice V2.xf V2.nf V2.cf,.slice V2.xt V2.nt V2.ct,.int .i64 b.lo,.int .i64 b.al,.slice V2.xk V2.nk V2.ck,.int .i64 b.ka]] w fun e w'=>∃U,e=.returned (.tuple #[.agg #[.slice U.xr U.nr U.cr,.slice U.xf U.nf U.cf,.slice U.xt U.nt U.ct,.int .i64 (gI a b).lo,.int .i64 (gI a b).al,.slice U.xk U.nk U.ck,.int .i64 (gI a b).ka],.bool (dF a b)])/\bH w' w.heap.size w'.heap.size U (gI a b)/\Below w.heap.size w w':=by
 have hno:dF a b=false:=by unfold dF;rw[okA,okB',decide_eq_false hs];rfl
 have hj:jY a.rs b.rs=false:=by
  cases q:jY a.rs b.rs with
  |false=>rfl
  |true=>have:=(lW _ _).1 q;have:=((dV _).1 okA).ra;have:=((dV _).1 okB').ra;omega
 have hA:=(((Below.refl w.heap.size w).alloc lr_ (.cells #[.slice V1.xr V1.nr V1.cr,.slice V1.xf V1.nf V1.cf,.slice V1.xt V1.nt V1.ct,.int .i64 a.lo,.int .i64 a.al,.slice V1.xk V1.nk V1.ck,.int .i64 a.ka] 46)).alloc (by simp) (.cells #[.slice V2.xr V2.nr V2.cr,.slice V2.xf V2.nf V2.cf,.slice V2.xt V2.nt V2.ct,.int .i64 b.lo,.int .i64 b.al,.slice V2.xk V2.nk V2.ck,.int .i64 b.ka] 46)).alloc (by simp;omega) (.cells #[.slice none 0 0,.slice none 0 0,.slice none 0 0,.int .i64 0,.int .i64 0,.slice none 0 0,.int .i64 0] 46)
 have XA:=((aM.new w 46 (.slice V1.xr V1.nr V1.cr) (.slice V1.xf V1.nf V1.cf) (.slice V1.xt V1.nt V1.ct) (.int .i64 a.lo) (.int .i64 a.al) (.slice V1.xk V1.nk V1.ck) (.int .i64 a.ka)).alloc (.cells #[.slice V2.xr V2.nr V2.cr,.slice V2.xf V2.nf V2.cf,.slice V2.xt V2.nt V2.ct,.int .i64 b.lo,.int .i64 b.al,.slice V2.xk V2.nk V2.ck,.int .i64 b.ka] 46)).alloc (.cells #[.slice none 0 0,.slice none 0 0,.slice none 0 0,.int .i64 0,.int .i64 0,.slice none 0 0,.int .i64 0] 46)
 have XB:=(aM.new (w.alloc (.cells #[.slice V1.xr V1.nr V1.cr,.slice V1.xf V1.nf V1.cf,.slice V1.xt V1.nt V1.ct,.int .i64 a.lo,.int .i64 a.al,.slice V1.xk V1.nk V1.ck,.int .i64 a.ka] 46)) 46 (.slice V2.xr V2.nr V2.cr) (.slice V2.xf V2.nf V2.cf) (.slice V2.xt V2.nt V2.ct) (.int .i64 b.lo) (.int .i64 b.al) (.slice V2.xk V2.nk V2.ck) (.int .i64 b.ka)).alloc (.cells #[.slice none 0 0,.slice none 0 0,.slice none 0 0,.int .i64 0,.int .i64 0,.slice none 0 0,.int .i64 0] 46)
 rw[World.size_alloc]at XB
 have R:=aM.new ((w.alloc (.cells #[.slice V1.xr V1.nr V1.cr,.slice V1.xf V1.nf V1.cf,.slice V1.xt V1.nt V1.ct,.int .i64 a.lo,.int .i64 a.al,.slice V1.xk V1.nk V1.ck,.int .i64 a.ka] 46)).alloc (.cells #[.slice V2.xr V2.nr V2.cr,.slice V2.xf V2.nf V2.cf,.slice V2.xt V2.nt V2.ct,.int .i64 b.lo,.int .i64 b.al,.slice V2.xk V2.nk V2.ck,.int .i64 b.ka] 46)) 46 (.slice none 0 0) (.slice none 0 0) (.slice none 0 0) (.int .i64 0) (.int .i64 0) (.slice none 0 0) (.int .i64 0)
 rw[World.size_alloc,World.size_alloc]at R;obtain⟨axa0,axa1,axa2,axa3,axa4,axa5,axa6⟩:=(XA).cells
 obtain⟨W0,hW⟩:∃W,W=((w.alloc (.cells #[.slice V1.xr V1.nr V1.cr,.slice V1.xf V1.nf V1.cf,.slice V1.xt V1.nt V1.ct,.int .i64 a.lo,.int .i64 a.al,.slice V1.xk V1.nk V1.ck,.int .i64 a.ka] 46)).alloc (.cells #[.slice V2.xr V2.nr V2.cr,.slice V2.xf V2.nf V2.cf,.slice V2.xt V2.nt V2.ct,.int .i64 b.lo,.int .i64 b.al,.slice V2.xk V2.nk V2.ck,.int .i64 b.ka] 46)).alloc (.cells #[.slice none 0 0,.slice none 0 0,.slice none 0 0,.int .i64 0,.int .i64 0,.slice none 0 0,.int .i64 0] 46):=⟨_,rfl⟩
 rw[<-hW]at hA XA XB R;have B:=hd_ hA;have H1:=hd_ h1;have H2:=hd_ h2;have SZ:Hid (W0.heap.size=w.heap.size+3):=by show _=_;rw[hW];simp
 clear hA h1 h2;have K1:=iV W0 V1 a (H1.out.below B.out lr_);rw[okA]at K1;go_enter Tryz.func78,Tryz.ntmps78
 go_wp2_with fail
 rw[<-hW];clear hW axa0 axa1 axa2 axa3 axa4 axa5 axa6;refine (K1).mono ?_;rintro e w1 ⟨rfl,hb⟩;clear K1;have SZ1:=hd_ hb.size;replace XA:=XA.later hb;replace XB:=XB.later hb;replace R:=R.later hb;replace B:=hd_ (B.out.trans (hb.mono B.out.size));clear hb;obtain⟨cxb0,cxb1,cxb2,cxb3,cxb4,cxb5,cxb6⟩:=(XB).cells;have frr:=R.free;have K1:=iV w1 V2 b (H2.out.below B.out lr_);rw[okB']at K1
 go_wp2_with fail
 refine (K1).mono ?_;rintro e w2 ⟨rfl,hb⟩;clear K1;have SZ2:=hd_ (Nat.le_trans (Nat.le_of_eq SZ.out.symm) (Nat.le_trans SZ1.out hb.size));clear cxb0 cxb1 cxb2 cxb3 cxb4 cxb5 cxb6 frr;replace XA:=XA.later hb;replace XB:=XB.later hb;replace R:=R.later hb;replace B:=hd_ (B.out.trans (hb.mono B.out.size));clear hb;obtain⟨cxa0,cxa1,cxa2,cxa3,cxa4,cxa5,cxa6⟩:=(XA).cells
 obtain⟨cxb0,cxb1,cxb2,cxb3,cxb4,cxb5,cxb6⟩:=(XB).cells;have hA:=B.out.alloc B.out.size (.cells #[.slice V1.xr V1.nr V1.cr,.slice V1.xf V1.nf V1.cf,.slice V1.xt V1.nt V1.ct,.int .i64 a.lo,.int .i64 a.al,.slice V1.xk V1.nk V1.ck,.int .i64 a.ka] 46)
 have X6:=aM.new w2 46 (.slice V1.xr V1.nr V1.cr) (.slice V1.xf V1.nf V1.cf) (.slice V1.xt V1.nt V1.ct) (.int .i64 a.lo) (.int .i64 a.al) (.slice V1.xk V1.nk V1.ck) (.int .i64 a.ka);obtain⟨W2,hW⟩:∃W,W=w2.alloc (.cells #[.slice V1.xr V1.nr V1.cr,.slice V1.xf V1.nf V1.cf,.slice V1.xt V1.nt V1.ct,.int .i64 a.lo,.int .i64 a.al,.slice V1.xk V1.nk V1.ck,.int .i64 a.ka] 46):=⟨_,rfl⟩
 have hsz:=B.out.size;have L6:=hd_ hsz;have S6:=hd_ SZ2.out;clear hsz;replace XA:=XA.alloc (.cells #[.slice V1.xr V1.nr V1.cr,.slice V1.xf V1.nf V1.cf,.slice V1.xt V1.nt V1.ct,.int .i64 a.lo,.int .i64 a.al,.slice V1.xk V1.nk V1.ck,.int .i64 a.ka] 46)
 replace XB:=XB.alloc (.cells #[.slice V1.xr V1.nr V1.cr,.slice V1.xf V1.nf V1.cf,.slice V1.xt V1.nt V1.ct,.int .i64 a.lo,.int .i64 a.al,.slice V1.xk V1.nk V1.ck,.int .i64 a.ka] 46);replace R:=R.alloc (.cells #[.slice V1.xr V1.nr V1.cr,.slice V1.xf V1.nf V1.cf,.slice V1.xt V1.nt V1.ct,.int .i64 a.lo,.int .i64 a.al,.slice V1.xk V1.nk V1.ck,.int .i64 a.ka] 46)
 obtain⟨bxb0,bxb1,bxb2,bxb3,bxb4,bxb5,bxb6⟩:=(XB).cells;rw[<-hW]at hA X6 XA XB R;replace B:=hd_ hA;clear hA;have IW:=fun w=>vH (aAt V2) (aAp V2) (aAA V2 b) (aAO V2 b) w
 unfold aAt aAp aAA aAO at IW;have I1:=fun w=>(IW w).1
 have I2:=fun w=>(IW w).2.1
 have I3:=fun w=>(IW w).2.2.1
 have I4:=fun w=>(IW w).2.2.2
 clear IW;have K1:=vY W2 V2 b;unfold aAt aAp aAA aAO at K1
 go_wp2_with fail
 rw[<-hW];clear hW bxb0 bxb1 bxb2 bxb3 bxb4 bxb5 bxb6;clear cxa0 cxa1 cxa2 cxa3 cxa4 cxa5 cxa6 cxb0 cxb1 cxb2 cxb3 cxb4 cxb5 cxb6;refine (K1).mono ?_;rintro e w3 ⟨rfl,hb⟩;clear K1;replace XA:=XA.later hb;replace XB:=XB.later hb;replace R:=R.later hb;replace B:=hd_ (B.out.trans (hb.mono B.out.size));replace X6:=X6.later hb;clear hb;obtain⟨cx60,cx61,cx62,cx63,cx64,cx65,cx66⟩:=(X6).cells;clear XB
 go_wp2;refine wp_loop_rounds 5 ?_;rw[rounds_succ];have K1:=zQ w3 V1 a V2.xr V2.nr V2.cr b.rs (H1.out.below B.out lr_) (H2.out.below B.out lr_).r;rw[hj]at K1
 go_wp2_with fail
 refine (K1).mono ?_;rintro e w4 ⟨y,m,d,rfl,ho,hb⟩;clear K1 ho;clear XA;clear X6;clear cx60 cx61 cx62 cx63 cx64 cx65 cx66;replace R:=R.later hb;replace B:=hd_ (B.out.trans (hb.mono B.out.size));clear hb;obtain⟨W4,hW⟩:∃W,W=(w4.alloc (.cells #[.slice y m d,.slice V1.xf V1.nf V1.cf,.slice V1.xt V1.nt V1.ct,.int .i64 a.lo,.int .i64 a.al,.slice V1.xk V1.nk V1.ck,.int .i64 a.ka] 46)):=⟨_,rfl⟩
 obtain⟨ar0,ar1,ar2,ar3,ar4,ar5,ar6⟩:=((R.alloc (.cells #[.slice y m d,.slice V1.xf V1.nf V1.cf,.slice V1.xt V1.nt V1.ct,.int .i64 a.lo,.int .i64 a.al,.slice V1.xk V1.nk V1.ck,.int .i64 a.ka] 46))).cells;have frr:=(R.alloc (.cells #[.slice y m d,.slice V1.xf V1.nf V1.cf,.slice V1.xt V1.nt V1.ct,.int .i64 a.lo,.int .i64 a.al,.slice V1.xk V1.nk V1.ck,.int .i64 a.ka] 46)).free
 replace R:=R.alloc (.cells #[.slice y m d,.slice V1.xf V1.nf V1.cf,.slice V1.xt V1.nt V1.ct,.int .i64 a.lo,.int .i64 a.al,.slice V1.xk V1.nk V1.ck,.int .i64 a.ka] 46);rw[<-hW]at R;replace B:=hd_ ((B.out).alloc (Nat.le_trans B.out.size (by simp)) (.cells #[.slice y m d,.slice V1.xf V1.nf V1.cf,.slice V1.xt V1.nt V1.ct,.int .i64 a.lo,.int .i64 a.al,.slice V1.xk V1.nk V1.ck,.int .i64 a.ka] 46))
 rw[<-hW]at B;have X9:=aM.new w4 46 (.slice y m d) (.slice V1.xf V1.nf V1.cf) (.slice V1.xt V1.nt V1.ct) (.int .i64 a.lo) (.int .i64 a.al) (.slice V1.xk V1.nk V1.ck) (.int .i64 a.ka);rw[<-hW]at X9;have fin:=R.set (.slice none 0 0) (.slice none 0 0) (.slice none 0 0) (.int .i64 0) (.int .i64 0) (.slice none 0 0) (.int .i64 0)
 have OF:=bH.box7 (bH.none _ _ _ B.out.size lr_) R (.slice none 0 0) (.slice none 0 0) (.slice none 0 0) (.int .i64 0) (.int .i64 0) (.slice none 0 0) (.int .i64 0);have BF:=aW B.out (show w.heap.size<=w.heap.size+1+1 by omega) (.slice none 0 0) (.slice none 0 0) (.slice none 0 0) (.int .i64 0) (.int .i64 0) (.slice none 0 0) (.int .i64 0)
 have SF:=cG W4 (w.heap.size+1+1) (.slice none 0 0) (.slice none 0 0) (.slice none 0 0) (.int .i64 0) (.int .i64 0) (.slice none 0 0) (.int .i64 0);have HF:=hd_ (And.intro (bH.base OF lr_ (Nat.le_of_eq SF.symm) lr_) BF);have HY:=hd_ fin;clear fin OF BF SF;go_wp2;rw[<-hW];clear hW ar0 ar1 ar2 ar3 ar4 ar5 ar6 frr
 show bodyPost _ _ _ _ _ (set7 W4 (w.heap.size+1+1) (.slice none 0 0) (.slice none 0 0) (.slice none 0 0) (.int .i64 0) (.int .i64 0) (.slice none 0 0) (.int .i64 0))
 obtain⟨d0,d1,d2,d3,d4,d5,d6⟩:=HY.out.cells;generalize set7 W4 (w.heap.size+1+1) (.slice none 0 0) (.slice none 0 0) (.slice none 0 0) (.int .i64 0) (.int .i64 0) (.slice none 0 0) (.int .i64 0)=WF at HF d0 d1 d2 d3 d4 d5 d6 ⊢
 refine bodyPost_ret (v:=.tuple #[.agg #[.slice none 0 0,.slice none 0 0,.slice none 0 0,.int .i64 0,.int .i64 0,.slice none 0 0,.int .i64 0],.bool false]) (by simp[results,Tryz.results78,go_sem,d0,d1,d2,d3,d4,d5,d6]) rfl ?_;rw[uC hno,hno];exact⟨SV.none,rfl,HF.out⟩
theorem aAS (w:World) (V1 V2:SV) (a b:Sm) (h1:RdS w V1 a) (h2:RdS w V2 b) (hok:dF a b=true):
  Calls Tryz.prog 78 #[.agg #[.slice V1.xr V1.nr V1.cr,.slice V1.xf V1.nf V1.cf,.slice V1.xt V1.nt V1.ct,.int .i64 a.lo,.int .i64 a.al,.slice V1.xk V1.nk V1.ck,.int .i64 a.ka],.agg #[.slice V2.xr V2.nr V2.cr,.slice V2.xf V2.nf V2.cf,.slice V2.xt V2.nt V2.ct,.int .i64 b.lo,.int .i64 b.al,.slice V2.xk V2.nk V2.ck,.int .i64 b.ka]] w fun e w'=>∃U,e=.returned (.tuple #[.agg #[.slice U.xr U.nr U.cr,.slice U.xf U.nf U.cf,.slice U.xt U.nt U.ct,.int .i64 (gI a b).lo,.int .i64 (gI a b).al,.slice U.xk U.nk U.ck,.int .i64 (gI a b).ka],.bool (dF a b)])/\bH w' w.heap.size w'.heap.size U (gI a b)/\Below w.heap.size w w':=by
 have okA:=(dV _).2 (rO hok).oka;have okB':=(dV _).2 (rO hok).okb;have jr:=(rO hok).r;have jf:=(rO hok).f;have jt:=(rO hok).t;have jk:=(rO hok).k;have JA:=hd_ (aHl jr);have HOK:=hd_ hok;clear hok
 have hA:=(((Below.refl w.heap.size w).alloc lr_ (.cells #[.slice V1.xr V1.nr V1.cr,.slice V1.xf V1.nf V1.cf,.slice V1.xt V1.nt V1.ct,.int .i64 a.lo,.int .i64 a.al,.slice V1.xk V1.nk V1.ck,.int .i64 a.ka] 46)).alloc (by simp) (.cells #[.slice V2.xr V2.nr V2.cr,.slice V2.xf V2.nf V2.cf,.slice V2.xt V2.nt V2.ct,.int .i64 b.lo,.int .i64 b.al,.slice V2.xk V2.nk V2.ck,.int .i64 b.ka] 46)).alloc (by simp;omega) (.cells #[.slice none 0 0,.slice none 0 0,.slice none 0 0,.int .i64 0,.int .i64 0,.slice none 0 0,.int .i64 0] 46)
 have XA:=((aM.new w 46 (.slice V1.xr V1.nr V1.cr) (.slice V1.xf V1.nf V1.cf) (.slice V1.xt V1.nt V1.ct) (.int .i64 a.lo) (.int .i64 a.al) (.slice V1.xk V1.nk V1.ck) (.int .i64 a.ka)).alloc (.cells #[.slice V2.xr V2.nr V2.cr,.slice V2.xf V2.nf V2.cf,.slice V2.xt V2.nt V2.ct,.int .i64 b.lo,.int .i64 b.al,.slice V2.xk V2.nk V2.ck,.int .i64 b.ka] 46)).alloc (.cells #[.slice none 0 0,.slice none 0 0,.slice none 0 0,.int .i64 0,.int .i64 0,.slice none 0 0,.int .i64 0] 46)
 have XB:=(aM.new (w.alloc (.cells #[.slice V1.xr V1.nr V1.cr,.slice V1.xf V1.nf V1.cf,.slice V1.xt V1.nt V1.ct,.int .i64 a.lo,.int .i64 a.al,.slice V1.xk V1.nk V1.ck,.int .i64 a.ka] 46)) 46 (.slice V2.xr V2.nr V2.cr) (.slice V2.xf V2.nf V2.cf) (.slice V2.xt V2.nt V2.ct) (.int .i64 b.lo) (.int .i64 b.al) (.slice V2.xk V2.nk V2.ck) (.int .i64 b.ka)).alloc (.cells #[.slice none 0 0,.slice none 0 0,.slice none 0 0,.int .i64 0,.int .i64 0,.slice none 0 0,.int .i64 0] 46)
 rw[World.size_alloc]at XB
 have R:=aM.new ((w.alloc (.cells #[.slice V1.xr V1.nr V1.cr,.slice V1.xf V1.nf V1.cf,.slice V1.xt V1.nt V1.ct,.int .i64 a.lo,.int .i64 a.al,.slice V1.xk V1.nk V1.ck,.int .i64 a.ka] 46)).alloc (.cells #[.slice V2.xr V2.nr V2.cr,.slice V2.xf V2.nf V2.cf,.slice V2.xt V2.nt V2.ct,.int .i64 b.lo,.int .i64 b.al,.slice V2.xk V2.nk V2.ck,.int .i64 b.ka] 46)) 46 (.slice none 0 0) (.slice none 0 0) (.slice none 0 0) (.int .i64 0) (.int .i64 0) (.slice none 0 0) (.int .i64 0)
 rw[World.size_alloc,World.size_alloc]at R;obtain⟨axa0,axa1,axa2,axa3,axa4,axa5,axa6⟩:=(XA).cells
 obtain⟨W0,hW⟩:∃W,W=((w.alloc (.cells #[.slice V1.xr V1.nr V1.cr,.slice V1.xf V1.nf V1.cf,.slice V1.xt V1.nt V1.ct,.int .i64 a.lo,.int .i64 a.al,.slice V1.xk V1.nk V1.ck,.int .i64 a.ka] 46)).alloc (.cells #[.slice V2.xr V2.nr V2.cr,.slice V2.xf V2.nf V2.cf,.slice V2.xt V2.nt V2.ct,.int .i64 b.lo,.int .i64 b.al,.slice V2.xk V2.nk V2.ck,.int .i64 b.ka] 46)).alloc (.cells #[.slice none 0 0,.slice none 0 0,.slice none 0 0,.int .i64 0,.int .i64 0,.slice none 0 0,.int .i64 0] 46):=⟨_,rfl⟩
 rw[<-hW]at hA XA XB R;have B:=hd_ hA;have H1:=hd_ h1;have H2:=hd_ h2;have SZ:Hid (W0.heap.size=w.heap.size+3):=by show _=_;rw[hW];simp
 clear hA h1 h2;have K1:=iV W0 V1 a (H1.out.below B.out lr_);rw[okA]at K1;go_enter Tryz.func78,Tryz.ntmps78
 go_wp2_with fail
 rw[<-hW];clear hW axa0 axa1 axa2 axa3 axa4 axa5 axa6;refine (K1).mono ?_;rintro e w1 ⟨rfl,hb⟩;clear K1;have SZ1:=hd_ hb.size;replace XA:=XA.later hb;replace XB:=XB.later hb;replace R:=R.later hb;replace B:=hd_ (B.out.trans (hb.mono B.out.size));clear hb;obtain⟨cxb0,cxb1,cxb2,cxb3,cxb4,cxb5,cxb6⟩:=(XB).cells;have frr:=R.free;have K1:=iV w1 V2 b (H2.out.below B.out lr_);rw[okB']at K1
 go_wp2_with fail
 refine (K1).mono ?_;rintro e w2 ⟨rfl,hb⟩;clear K1;have SZ2:=hd_ (Nat.le_trans (Nat.le_of_eq SZ.out.symm) (Nat.le_trans SZ1.out hb.size));clear cxb0 cxb1 cxb2 cxb3 cxb4 cxb5 cxb6 frr;replace XA:=XA.later hb;replace XB:=XB.later hb;replace R:=R.later hb;replace B:=hd_ (B.out.trans (hb.mono B.out.size));clear hb;obtain⟨cxa0,cxa1,cxa2,cxa3,cxa4,cxa5,cxa6⟩:=(XA).cells
 obtain⟨cxb0,cxb1,cxb2,cxb3,cxb4,cxb5,cxb6⟩:=(XB).cells;have hA:=B.out.alloc B.out.size (.cells #[.slice V1.xr V1.nr V1.cr,.slice V1.xf V1.nf V1.cf,.slice V1.xt V1.nt V1.ct,.int .i64 a.lo,.int .i64 a.al,.slice V1.xk V1.nk V1.ck,.int .i64 a.ka] 46)
 have X6:=aM.new w2 46 (.slice V1.xr V1.nr V1.cr) (.slice V1.xf V1.nf V1.cf) (.slice V1.xt V1.nt V1.ct) (.int .i64 a.lo) (.int .i64 a.al) (.slice V1.xk V1.nk V1.ck) (.int .i64 a.ka);obtain⟨W2,hW⟩:∃W,W=w2.alloc (.cells #[.slice V1.xr V1.nr V1.cr,.slice V1.xf V1.nf V1.cf,.slice V1.xt V1.nt V1.ct,.int .i64 a.lo,.int .i64 a.al,.slice V1.xk V1.nk V1.ck,.int .i64 a.ka] 46):=⟨_,rfl⟩
 have hsz:=B.out.size;have L6:=hd_ hsz;have S6:=hd_ SZ2.out;clear hsz;replace XA:=XA.alloc (.cells #[.slice V1.xr V1.nr V1.cr,.slice V1.xf V1.nf V1.cf,.slice V1.xt V1.nt V1.ct,.int .i64 a.lo,.int .i64 a.al,.slice V1.xk V1.nk V1.ck,.int .i64 a.ka] 46)
 replace XB:=XB.alloc (.cells #[.slice V1.xr V1.nr V1.cr,.slice V1.xf V1.nf V1.cf,.slice V1.xt V1.nt V1.ct,.int .i64 a.lo,.int .i64 a.al,.slice V1.xk V1.nk V1.ck,.int .i64 a.ka] 46);replace R:=R.alloc (.cells #[.slice V1.xr V1.nr V1.cr,.slice V1.xf V1.nf V1.cf,.slice V1.xt V1.nt V1.ct,.int .i64 a.lo,.int .i64 a.al,.slice V1.xk V1.nk V1.ck,.int .i64 a.ka] 46)
 obtain⟨bxb0,bxb1,bxb2,bxb3,bxb4,bxb5,bxb6⟩:=(XB).cells;rw[<-hW]at hA X6 XA XB R;replace B:=hd_ hA;clear hA;have IW:=fun w=>vH (aAt V2) (aAp V2) (aAA V2 b) (aAO V2 b) w
 unfold aAt aAp aAA aAO at IW;have I1:=fun w=>(IW w).1
 have I2:=fun w=>(IW w).2.1
 have I3:=fun w=>(IW w).2.2.1
 have I4:=fun w=>(IW w).2.2.2
 clear IW;have K1:=vY W2 V2 b;unfold aAt aAp aAA aAO at K1
 go_wp2_with fail
 rw[<-hW];clear hW bxb0 bxb1 bxb2 bxb3 bxb4 bxb5 bxb6;clear cxa0 cxa1 cxa2 cxa3 cxa4 cxa5 cxa6 cxb0 cxb1 cxb2 cxb3 cxb4 cxb5 cxb6;refine (K1).mono ?_;rintro e w3 ⟨rfl,hb⟩;clear K1;replace XA:=XA.later hb;replace XB:=XB.later hb;replace R:=R.later hb;replace B:=hd_ (B.out.trans (hb.mono B.out.size));replace X6:=X6.later hb;clear hb;obtain⟨cx60,cx61,cx62,cx63,cx64,cx65,cx66⟩:=(X6).cells;clear XB
 go_wp2;refine wp_loop_rounds 5 ?_;rw[rounds_succ];clear XA;have Q:=H1.out.below B.out lr_;have K1:=zQ w3 ⟨V1.xr,V1.nr,V1.cr,V1.xf,V1.nf,V1.cf,V1.xt,V1.nt,V1.ct,V1.xk,V1.nk,V1.ck⟩ ⟨a.rs,a.zs,a.ps,a.lo,a.al,a.ks,a.ka⟩ V2.xr V2.nr V2.cr b.rs ⟨Q.r,Q.f,Q.t,Q.k⟩ (H2.out.below B.out lr_).r;simp only at K1;rw[jr]at K1;clear Q
 go_wp2_with fail
 refine (K1).mono ?_;rintro e w4 ⟨y0,m0,d0',rfl,ho,hb⟩;clear K1;have M0:=hd_ B.out.size;have N0:=hd_ hb.size;have q6:=S6.out;clear cx60 cx61 cx62 cx63 cx64 cx65 cx66;replace R:=R.later hb;replace B:=hd_ (B.out.trans (hb.mono B.out.size));replace X6:=X6.later hb;have O0:=hd_ (ho);clear hb
 obtain⟨W4,hW⟩:∃W,W=(set7 (w4.alloc (.cells #[.slice y0 m0 d0',.slice V1.xf V1.nf V1.cf,.slice V1.xt V1.nt V1.ct,.int .i64 (a.lo),.int .i64 (a.al),.slice V1.xk V1.nk V1.ck,.int .i64 (a.ka)] 46)) w2.heap.size (.slice y0 m0 d0') (.slice V1.xf V1.nf V1.cf) (.slice V1.xt V1.nt V1.ct) (.int .i64 (a.lo)) (.int .i64 (a.al)) (.slice V1.xk V1.nk V1.ck) (.int .i64 (a.ka))):=⟨_,rfl⟩
 obtain⟨ax60,ax61,ax62,ax63,ax64,ax65,ax66⟩:=((X6.alloc (.cells #[.slice y0 m0 d0',.slice V1.xf V1.nf V1.cf,.slice V1.xt V1.nt V1.ct,.int .i64 (a.lo),.int .i64 (a.al),.slice V1.xk V1.nk V1.ck,.int .i64 (a.ka)] 46))).cells
 have frx6:=(X6.alloc (.cells #[.slice y0 m0 d0',.slice V1.xf V1.nf V1.cf,.slice V1.xt V1.nt V1.ct,.int .i64 (a.lo),.int .i64 (a.al),.slice V1.xk V1.nk V1.ck,.int .i64 (a.ka)] 46)).free;replace R:=R.alloc (.cells #[.slice y0 m0 d0',.slice V1.xf V1.nf V1.cf,.slice V1.xt V1.nt V1.ct,.int .i64 (a.lo),.int .i64 (a.al),.slice V1.xk V1.nk V1.ck,.int .i64 (a.ka)] 46)
 replace B:=hd_ ((B.out).alloc (Nat.le_trans B.out.size (by simp)) (.cells #[.slice y0 m0 d0',.slice V1.xf V1.nf V1.cf,.slice V1.xt V1.nt V1.ct,.int .i64 (a.lo),.int .i64 (a.al),.slice V1.xk V1.nk V1.ck,.int .i64 (a.ka)] 46))
 replace X6:=X6.alloc (.cells #[.slice y0 m0 d0',.slice V1.xf V1.nf V1.cf,.slice V1.xt V1.nt V1.ct,.int .i64 (a.lo),.int .i64 (a.al),.slice V1.xk V1.nk V1.ck,.int .i64 (a.ka)] 46);replace O0:=hd_ (O0.out.alloc (.cells #[.slice y0 m0 d0',.slice V1.xf V1.nf V1.cf,.slice V1.xt V1.nt V1.ct,.int .i64 (a.lo),.int .i64 (a.al),.slice V1.xk V1.nk V1.ck,.int .i64 (a.ka)] 46))
 replace R:=R.kept (cZ _ w2.heap.size (.slice y0 m0 d0') (.slice V1.xf V1.nf V1.cf) (.slice V1.xt V1.nt V1.ct) (.int .i64 (a.lo)) (.int .i64 (a.al)) (.slice V1.xk V1.nk V1.ck) (.int .i64 (a.ka))) (by simp;omega)
 replace B:=hd_ (aW B.out L6.out (.slice y0 m0 d0') (.slice V1.xf V1.nf V1.cf) (.slice V1.xt V1.nt V1.ct) (.int .i64 (a.lo)) (.int .i64 (a.al)) (.slice V1.xk V1.nk V1.ck) (.int .i64 (a.ka)));replace O0:=hd_ (O0.out.box7 X6 (.slice y0 m0 d0') (.slice V1.xf V1.nf V1.cf) (.slice V1.xt V1.nt V1.ct) (.int .i64 (a.lo)) (.int .i64 (a.al)) (.slice V1.xk V1.nk V1.ck) (.int .i64 (a.ka)))
 replace X6:=X6.set (.slice y0 m0 d0') (.slice V1.xf V1.nf V1.cf) (.slice V1.xt V1.nt V1.ct) (.int .i64 (a.lo)) (.int .i64 (a.al)) (.slice V1.xk V1.nk V1.ck) (.int .i64 (a.ka));rw[<-hW]at R;rw[<-hW]at B;rw[<-hW]at X6;rw[<-hW]at O0;unfold set7 at hW
 go_wp2_with fail
 rw[<-hW];clear hW ax60 ax61 ax62 ax63 ax64 ax65 ax66 frx6;clear ho q6;rw[rounds_succ];obtain⟨cx60,cx61,cx62,cx63,cx64,cx65,cx66⟩:=(X6).cells;have Q:=H1.out.below B.out lr_;have K1:=aEL W4 ⟨y0,m0,d0',V1.xf,V1.nf,V1.cf,V1.xt,V1.nt,V1.ct,V1.xk,V1.nk,V1.ck⟩ ⟨pY a.rs b.rs,a.zs,a.ps,a.lo,a.al,a.ks,a.ka⟩ V2.xf V2.nf V2.cf b.zs ⟨O0.out.rd,Q.f,Q.t,Q.k⟩ (H2.out.below B.out lr_).f;simp only at K1
 rw[jf]at K1;clear Q
 go_wp2_with fail
 refine (K1).mono ?_;rintro e w5 ⟨y1,m1,d1',rfl,ho,hb⟩;clear K1;have M1:=hd_ B.out.size;have N1:=hd_ hb.size;have q6:=S6.out;have T1:=hd_ (show w4.heap.size<=W4.heap.size from Nat.le_trans (O0.out.top) lr_);clear cx60 cx61 cx62 cx63 cx64 cx65 cx66;replace R:=R.later hb;replace B:=hd_ (B.out.trans (hb.mono B.out.size));replace X6:=X6.later hb;replace O0:=hd_ (O0.out.below hb);have O1:=hd_ (ho)
 clear hb;obtain⟨W5,hW⟩:∃W,W=(set7 (w5.alloc (.cells #[.slice y0 m0 d0',.slice y1 m1 d1',.slice V1.xt V1.nt V1.ct,.int .i64 (a.lo),.int .i64 (a.al),.slice V1.xk V1.nk V1.ck,.int .i64 (a.ka)] 46)) w2.heap.size (.slice y0 m0 d0') (.slice y1 m1 d1') (.slice V1.xt V1.nt V1.ct) (.int .i64 (a.lo)) (.int .i64 (a.al)) (.slice V1.xk V1.nk V1.ck) (.int .i64 (a.ka))):=⟨_,rfl⟩
 obtain⟨ax60,ax61,ax62,ax63,ax64,ax65,ax66⟩:=((X6.alloc (.cells #[.slice y0 m0 d0',.slice y1 m1 d1',.slice V1.xt V1.nt V1.ct,.int .i64 (a.lo),.int .i64 (a.al),.slice V1.xk V1.nk V1.ck,.int .i64 (a.ka)] 46))).cells;have frx6:=(X6.alloc (.cells #[.slice y0 m0 d0',.slice y1 m1 d1',.slice V1.xt V1.nt V1.ct,.int .i64 (a.lo),.int .i64 (a.al),.slice V1.xk V1.nk V1.ck,.int .i64 (a.ka)] 46)).free
 replace R:=R.alloc (.cells #[.slice y0 m0 d0',.slice y1 m1 d1',.slice V1.xt V1.nt V1.ct,.int .i64 (a.lo),.int .i64 (a.al),.slice V1.xk V1.nk V1.ck,.int .i64 (a.ka)] 46);replace B:=hd_ ((B.out).alloc (Nat.le_trans B.out.size (by simp)) (.cells #[.slice y0 m0 d0',.slice y1 m1 d1',.slice V1.xt V1.nt V1.ct,.int .i64 (a.lo),.int .i64 (a.al),.slice V1.xk V1.nk V1.ck,.int .i64 (a.ka)] 46))
 replace X6:=X6.alloc (.cells #[.slice y0 m0 d0',.slice y1 m1 d1',.slice V1.xt V1.nt V1.ct,.int .i64 (a.lo),.int .i64 (a.al),.slice V1.xk V1.nk V1.ck,.int .i64 (a.ka)] 46);replace O0:=hd_ (O0.out.alloc (.cells #[.slice y0 m0 d0',.slice y1 m1 d1',.slice V1.xt V1.nt V1.ct,.int .i64 (a.lo),.int .i64 (a.al),.slice V1.xk V1.nk V1.ck,.int .i64 (a.ka)] 46))
 replace O1:=hd_ (O1.out.alloc (.cells #[.slice y0 m0 d0',.slice y1 m1 d1',.slice V1.xt V1.nt V1.ct,.int .i64 (a.lo),.int .i64 (a.al),.slice V1.xk V1.nk V1.ck,.int .i64 (a.ka)] 46));replace R:=R.kept (cZ _ w2.heap.size (.slice y0 m0 d0') (.slice y1 m1 d1') (.slice V1.xt V1.nt V1.ct) (.int .i64 (a.lo)) (.int .i64 (a.al)) (.slice V1.xk V1.nk V1.ck) (.int .i64 (a.ka))) (by simp;omega)
 replace B:=hd_ (aW B.out L6.out (.slice y0 m0 d0') (.slice y1 m1 d1') (.slice V1.xt V1.nt V1.ct) (.int .i64 (a.lo)) (.int .i64 (a.al)) (.slice V1.xk V1.nk V1.ck) (.int .i64 (a.ka)));replace O0:=hd_ (O0.out.box7 X6 (.slice y0 m0 d0') (.slice y1 m1 d1') (.slice V1.xt V1.nt V1.ct) (.int .i64 (a.lo)) (.int .i64 (a.al)) (.slice V1.xk V1.nk V1.ck) (.int .i64 (a.ka)))
 replace O1:=hd_ (O1.out.box7 X6 (.slice y0 m0 d0') (.slice y1 m1 d1') (.slice V1.xt V1.nt V1.ct) (.int .i64 (a.lo)) (.int .i64 (a.al)) (.slice V1.xk V1.nk V1.ck) (.int .i64 (a.ka)));replace X6:=X6.set (.slice y0 m0 d0') (.slice y1 m1 d1') (.slice V1.xt V1.nt V1.ct) (.int .i64 (a.lo)) (.int .i64 (a.al)) (.slice V1.xk V1.nk V1.ck) (.int .i64 (a.ka));rw[<-hW]at R;rw[<-hW]at B;rw[<-hW]at X6
 rw[<-hW]at O0;rw[<-hW]at O1;unfold set7 at hW
 go_wp2_with fail
 rw[<-hW];clear hW ax60 ax61 ax62 ax63 ax64 ax65 ax66 frx6;clear ho q6;rw[rounds_succ];obtain⟨cx60,cx61,cx62,cx63,cx64,cx65,cx66⟩:=(X6).cells;have Q:=H1.out.below B.out lr_
 have K1:=aFu W5 ⟨y0,m0,d0',y1,m1,d1',V1.xt,V1.nt,V1.ct,V1.xk,V1.nk,V1.ck⟩ ⟨pY a.rs b.rs,lL a.zs b.zs,a.ps,a.lo,a.al,a.ks,a.ka⟩ V2.xt V2.nt V2.ct b.ps b.lo b.al ⟨O0.out.rd,O1.out.rd,Q.t,Q.k⟩ (H2.out.below B.out lr_).t;simp only at K1;rw[jt]at K1;clear Q;generalize hgjT:T.jD a.ps a.lo a.al b.ps b.lo b.al=jT at K1;have HGjT:=hd_ hgjT;clear hgjT
 go_wp2_with fail
 refine (K1).mono ?_;rintro e w6 ⟨y2,m2,d2',rfl,ho,hb⟩;clear K1;have M2:=hd_ B.out.size;have N2:=hd_ hb.size;have q6:=S6.out;clear cx60 cx61 cx62 cx63 cx64 cx65 cx66;replace R:=R.later hb;replace B:=hd_ (B.out.trans (hb.mono B.out.size));replace X6:=X6.later hb;replace O0:=hd_ (O0.out.below hb);replace O1:=hd_ (O1.out.below hb);have O2:=hd_ (ho);clear hb
 obtain⟨W6,hW⟩:∃W,W=(set7 (w6.alloc (.cells #[.slice y0 m0 d0',.slice y1 m1 d1',.slice y2 m2 d2',.int .i64 (jT.2.1),.int .i64 (jT.2.2),.slice V1.xk V1.nk V1.ck,.int .i64 (a.ka)] 46)) w2.heap.size (.slice y0 m0 d0') (.slice y1 m1 d1') (.slice y2 m2 d2') (.int .i64 (jT.2.1)) (.int .i64 (jT.2.2)) (.slice V1.xk V1.nk V1.ck) (.int .i64 (a.ka))):=⟨_,rfl⟩
 obtain⟨ax60,ax61,ax62,ax63,ax64,ax65,ax66⟩:=((X6.alloc (.cells #[.slice y0 m0 d0',.slice y1 m1 d1',.slice y2 m2 d2',.int .i64 (jT.2.1),.int .i64 (jT.2.2),.slice V1.xk V1.nk V1.ck,.int .i64 (a.ka)] 46))).cells;have frx6:=(X6.alloc (.cells #[.slice y0 m0 d0',.slice y1 m1 d1',.slice y2 m2 d2',.int .i64 (jT.2.1),.int .i64 (jT.2.2),.slice V1.xk V1.nk V1.ck,.int .i64 (a.ka)] 46)).free
 replace R:=R.alloc (.cells #[.slice y0 m0 d0',.slice y1 m1 d1',.slice y2 m2 d2',.int .i64 (jT.2.1),.int .i64 (jT.2.2),.slice V1.xk V1.nk V1.ck,.int .i64 (a.ka)] 46);replace B:=hd_ ((B.out).alloc (Nat.le_trans B.out.size (by simp)) (.cells #[.slice y0 m0 d0',.slice y1 m1 d1',.slice y2 m2 d2',.int .i64 (jT.2.1),.int .i64 (jT.2.2),.slice V1.xk V1.nk V1.ck,.int .i64 (a.ka)] 46))
 replace X6:=X6.alloc (.cells #[.slice y0 m0 d0',.slice y1 m1 d1',.slice y2 m2 d2',.int .i64 (jT.2.1),.int .i64 (jT.2.2),.slice V1.xk V1.nk V1.ck,.int .i64 (a.ka)] 46);replace O0:=hd_ (O0.out.alloc (.cells #[.slice y0 m0 d0',.slice y1 m1 d1',.slice y2 m2 d2',.int .i64 (jT.2.1),.int .i64 (jT.2.2),.slice V1.xk V1.nk V1.ck,.int .i64 (a.ka)] 46))
 replace O1:=hd_ (O1.out.alloc (.cells #[.slice y0 m0 d0',.slice y1 m1 d1',.slice y2 m2 d2',.int .i64 (jT.2.1),.int .i64 (jT.2.2),.slice V1.xk V1.nk V1.ck,.int .i64 (a.ka)] 46));replace O2:=hd_ (O2.out.alloc (.cells #[.slice y0 m0 d0',.slice y1 m1 d1',.slice y2 m2 d2',.int .i64 (jT.2.1),.int .i64 (jT.2.2),.slice V1.xk V1.nk V1.ck,.int .i64 (a.ka)] 46))
 replace R:=R.kept (cZ _ w2.heap.size (.slice y0 m0 d0') (.slice y1 m1 d1') (.slice y2 m2 d2') (.int .i64 (jT.2.1)) (.int .i64 (jT.2.2)) (.slice V1.xk V1.nk V1.ck) (.int .i64 (a.ka))) (by simp;omega);replace B:=hd_ (aW B.out L6.out (.slice y0 m0 d0') (.slice y1 m1 d1') (.slice y2 m2 d2') (.int .i64 (jT.2.1)) (.int .i64 (jT.2.2)) (.slice V1.xk V1.nk V1.ck) (.int .i64 (a.ka)))
 replace O0:=hd_ (O0.out.box7 X6 (.slice y0 m0 d0') (.slice y1 m1 d1') (.slice y2 m2 d2') (.int .i64 (jT.2.1)) (.int .i64 (jT.2.2)) (.slice V1.xk V1.nk V1.ck) (.int .i64 (a.ka)));replace O1:=hd_ (O1.out.box7 X6 (.slice y0 m0 d0') (.slice y1 m1 d1') (.slice y2 m2 d2') (.int .i64 (jT.2.1)) (.int .i64 (jT.2.2)) (.slice V1.xk V1.nk V1.ck) (.int .i64 (a.ka)))
 replace O2:=hd_ (O2.out.box7 X6 (.slice y0 m0 d0') (.slice y1 m1 d1') (.slice y2 m2 d2') (.int .i64 (jT.2.1)) (.int .i64 (jT.2.2)) (.slice V1.xk V1.nk V1.ck) (.int .i64 (a.ka)));replace X6:=X6.set (.slice y0 m0 d0') (.slice y1 m1 d1') (.slice y2 m2 d2') (.int .i64 (jT.2.1)) (.int .i64 (jT.2.2)) (.slice V1.xk V1.nk V1.ck) (.int .i64 (a.ka));rw[<-hW]at R;rw[<-hW]at B;rw[<-hW]at X6;rw[<-hW]at O0
 rw[<-hW]at O1;rw[<-hW]at O2;unfold set7 at hW
 go_wp2_with fail
 rw[<-hW];clear hW ax60 ax61 ax62 ax63 ax64 ax65 ax66 frx6;clear ho q6;rw[rounds_succ];obtain⟨cx60,cx61,cx62,cx63,cx64,cx65,cx66⟩:=(X6).cells;have Q:=H1.out.below B.out lr_;have K1:=aFM W6 ⟨y0,m0,d0',y1,m1,d1',y2,m2,d2',V1.xk,V1.nk,V1.ck⟩ ⟨pY a.rs b.rs,lL a.zs b.zs,jT.1,jT.2.1,jT.2.2,a.ks,a.ka⟩ V2.xk V2.nk V2.ck b.ks b.ka ⟨O0.out.rd,O1.out.rd,O2.out.rd,Q.k⟩ (H2.out.below B.out lr_).k
 simp only at K1;rw[jk]at K1;clear Q;generalize hgjK:K.iG a.ks a.ka b.ks b.ka=jK at K1;have HGjK:=hd_ hgjK;clear hgjK
 go_wp2_with fail
 refine (K1).mono ?_;rintro e w7 ⟨y3,m3,d3',rfl,ho,hb⟩;clear K1;have M3:=hd_ B.out.size;have N3:=hd_ hb.size;have q6:=S6.out;clear cx60 cx61 cx62 cx63 cx64 cx65 cx66;replace R:=R.later hb;replace B:=hd_ (B.out.trans (hb.mono B.out.size));replace X6:=X6.later hb;replace O0:=hd_ (O0.out.below hb);replace O1:=hd_ (O1.out.below hb);replace O2:=hd_ (O2.out.below hb);have O3:=hd_ (ho);clear hb
 obtain⟨W7,hW⟩:∃W,W=(set7 (w7.alloc (.cells #[.slice y0 m0 d0',.slice y1 m1 d1',.slice y2 m2 d2',.int .i64 (jT.2.1),.int .i64 (jT.2.2),.slice y3 m3 d3',.int .i64 (jK.2)] 46)) w2.heap.size (.slice y0 m0 d0') (.slice y1 m1 d1') (.slice y2 m2 d2') (.int .i64 (jT.2.1)) (.int .i64 (jT.2.2)) (.slice y3 m3 d3') (.int .i64 (jK.2))):=⟨_,rfl⟩
 obtain⟨ax60,ax61,ax62,ax63,ax64,ax65,ax66⟩:=((X6.alloc (.cells #[.slice y0 m0 d0',.slice y1 m1 d1',.slice y2 m2 d2',.int .i64 (jT.2.1),.int .i64 (jT.2.2),.slice y3 m3 d3',.int .i64 (jK.2)] 46))).cells;have frx6:=(X6.alloc (.cells #[.slice y0 m0 d0',.slice y1 m1 d1',.slice y2 m2 d2',.int .i64 (jT.2.1),.int .i64 (jT.2.2),.slice y3 m3 d3',.int .i64 (jK.2)] 46)).free
 replace R:=R.alloc (.cells #[.slice y0 m0 d0',.slice y1 m1 d1',.slice y2 m2 d2',.int .i64 (jT.2.1),.int .i64 (jT.2.2),.slice y3 m3 d3',.int .i64 (jK.2)] 46);replace B:=hd_ ((B.out).alloc (Nat.le_trans B.out.size (by simp)) (.cells #[.slice y0 m0 d0',.slice y1 m1 d1',.slice y2 m2 d2',.int .i64 (jT.2.1),.int .i64 (jT.2.2),.slice y3 m3 d3',.int .i64 (jK.2)] 46))
 replace X6:=X6.alloc (.cells #[.slice y0 m0 d0',.slice y1 m1 d1',.slice y2 m2 d2',.int .i64 (jT.2.1),.int .i64 (jT.2.2),.slice y3 m3 d3',.int .i64 (jK.2)] 46);replace O0:=hd_ (O0.out.alloc (.cells #[.slice y0 m0 d0',.slice y1 m1 d1',.slice y2 m2 d2',.int .i64 (jT.2.1),.int .i64 (jT.2.2),.slice y3 m3 d3',.int .i64 (jK.2)] 46))
 replace O1:=hd_ (O1.out.alloc (.cells #[.slice y0 m0 d0',.slice y1 m1 d1',.slice y2 m2 d2',.int .i64 (jT.2.1),.int .i64 (jT.2.2),.slice y3 m3 d3',.int .i64 (jK.2)] 46));replace O2:=hd_ (O2.out.alloc (.cells #[.slice y0 m0 d0',.slice y1 m1 d1',.slice y2 m2 d2',.int .i64 (jT.2.1),.int .i64 (jT.2.2),.slice y3 m3 d3',.int .i64 (jK.2)] 46))
 replace O3:=hd_ (O3.out.alloc (.cells #[.slice y0 m0 d0',.slice y1 m1 d1',.slice y2 m2 d2',.int .i64 (jT.2.1),.int .i64 (jT.2.2),.slice y3 m3 d3',.int .i64 (jK.2)] 46));replace R:=R.kept (cZ _ w2.heap.size (.slice y0 m0 d0') (.slice y1 m1 d1') (.slice y2 m2 d2') (.int .i64 (jT.2.1)) (.int .i64 (jT.2.2)) (.slice y3 m3 d3') (.int .i64 (jK.2))) (by simp;omega)
 replace B:=hd_ (aW B.out L6.out (.slice y0 m0 d0') (.slice y1 m1 d1') (.slice y2 m2 d2') (.int .i64 (jT.2.1)) (.int .i64 (jT.2.2)) (.slice y3 m3 d3') (.int .i64 (jK.2)));replace O0:=hd_ (O0.out.box7 X6 (.slice y0 m0 d0') (.slice y1 m1 d1') (.slice y2 m2 d2') (.int .i64 (jT.2.1)) (.int .i64 (jT.2.2)) (.slice y3 m3 d3') (.int .i64 (jK.2)))
 replace O1:=hd_ (O1.out.box7 X6 (.slice y0 m0 d0') (.slice y1 m1 d1') (.slice y2 m2 d2') (.int .i64 (jT.2.1)) (.int .i64 (jT.2.2)) (.slice y3 m3 d3') (.int .i64 (jK.2)));replace O2:=hd_ (O2.out.box7 X6 (.slice y0 m0 d0') (.slice y1 m1 d1') (.slice y2 m2 d2') (.int .i64 (jT.2.1)) (.int .i64 (jT.2.2)) (.slice y3 m3 d3') (.int .i64 (jK.2)))
 replace O3:=hd_ (O3.out.box7 X6 (.slice y0 m0 d0') (.slice y1 m1 d1') (.slice y2 m2 d2') (.int .i64 (jT.2.1)) (.int .i64 (jT.2.2)) (.slice y3 m3 d3') (.int .i64 (jK.2)));replace X6:=X6.set (.slice y0 m0 d0') (.slice y1 m1 d1') (.slice y2 m2 d2') (.int .i64 (jT.2.1)) (.int .i64 (jT.2.2)) (.slice y3 m3 d3') (.int .i64 (jK.2));rw[<-hW]at R;rw[<-hW]at B;rw[<-hW]at X6;rw[<-hW]at O0;rw[<-hW]at O1
 rw[<-hW]at O2;rw[<-hW]at O3;unfold set7 at hW
 go_wp2_with fail
 rw[<-hW];clear hW ax60 ax61 ax62 ax63 ax64 ax65 ax66 frx6;clear ho q6;rw[rounds_succ];obtain⟨cx60,cx61,cx62,cx63,cx64,cx65,cx66⟩:=(X6).cells;obtain⟨cr0,cr1,cr2,cr3,cr4,cr5,cr6⟩:=(R).cells;have frr:=R.free;have EJ:=hd_ (show gI a b=⟨pY a.rs b.rs,lL a.zs b.zs,jT.1,jT.2.1,jT.2.2,jK.1,jK.2⟩ by rw[aAU HOK.out,JA.out];unfold aCK;rw[HGjT.out,HGjK.out])
 have fin:=R.set (.slice y0 m0 d0') (.slice y1 m1 d1') (.slice y2 m2 d2') (.int .i64 (jT.2.1)) (.int .i64 (jT.2.2)) (.slice y3 m3 d3') (.int .i64 (jK.2))
 have OF:=bH.box7 (bH.make (V:=⟨y0,m0,d0',y1,m1,d1',y2,m2,d2',y3,m3,d3'⟩) (s:=⟨pY a.rs b.rs,lL a.zs b.zs,jT.1,jT.2.1,jT.2.2,jK.1,jK.2⟩) O0.out O1.out O2.out O3.out M0.out (Nat.le_trans M0.out N0.out) T1.out M2.out M3.out) R (.slice y0 m0 d0') (.slice y1 m1 d1') (.slice y2 m2 d2') (.int .i64 (jT.2.1)) (.int .i64 (jT.2.2)) (.slice y3 m3 d3') (.int .i64 (jK.2))
 have BF:=aW B.out (show w.heap.size<=w.heap.size+1+1 by omega) (.slice y0 m0 d0') (.slice y1 m1 d1') (.slice y2 m2 d2') (.int .i64 (jT.2.1)) (.int .i64 (jT.2.2)) (.slice y3 m3 d3') (.int .i64 (jK.2));have SF:=cG W7 (w.heap.size+1+1) (.slice y0 m0 d0') (.slice y1 m1 d1') (.slice y2 m2 d2') (.int .i64 (jT.2.1)) (.int .i64 (jT.2.2)) (.slice y3 m3 d3') (.int .i64 (jK.2))
 have HF:=hd_ (And.intro (bH.base OF lr_ (Nat.le_of_eq SF.symm) lr_) BF);have HY:=hd_ fin;clear fin OF BF SF;go_wp2;show bodyPost _ _ _ _ _ (set7 W7 (w.heap.size+1+1) (.slice y0 m0 d0') (.slice y1 m1 d1') (.slice y2 m2 d2') (.int .i64 (jT.2.1)) (.int .i64 (jT.2.2)) (.slice y3 m3 d3') (.int .i64 (jK.2)))
 obtain⟨d0,d1,d2,d3,d4,d5,d6⟩:=HY.out.cells;generalize set7 W7 (w.heap.size+1+1) (.slice y0 m0 d0') (.slice y1 m1 d1') (.slice y2 m2 d2') (.int .i64 (jT.2.1)) (.int .i64 (jT.2.2)) (.slice y3 m3 d3') (.int .i64 (jK.2))=WF at HF d0 d1 d2 d3 d4 d5 d6 ⊢
 refine bodyPost_ret (v:=.tuple #[.agg #[.slice y0 m0 d0',.slice y1 m1 d1',.slice y2 m2 d2',.int .i64 (jT.2.1),.int .i64 (jT.2.2),.slice y3 m3 d3',.int .i64 (jK.2)],.bool true]) (by simp[results,Tryz.results78,go_sem,d0,d1,d2,d3,d4,d5,d6]) rfl ?_;rw[EJ.out,HOK.out];exact⟨⟨y0,m0,d0',y1,m1,d1',y2,m2,d2',y3,m3,d3'⟩,rfl,HF.out⟩
theorem aCE (w:World) (V1 V2:SV) (a b:Sm) (h1:RdS w V1 a) (h2:RdS w V2 b):
  Calls Tryz.prog 78 #[.agg #[.slice V1.xr V1.nr V1.cr,.slice V1.xf V1.nf V1.cf,.slice V1.xt V1.nt V1.ct,.int .i64 a.lo,.int .i64 a.al,.slice V1.xk V1.nk V1.ck,.int .i64 a.ka],.agg #[.slice V2.xr V2.nr V2.cr,.slice V2.xf V2.nf V2.cf,.slice V2.xt V2.nt V2.ct,.int .i64 b.lo,.int .i64 b.al,.slice V2.xk V2.nk V2.ck,.int .i64 b.ka]] w fun e w'=>∃U,e=.returned (.tuple #[.agg #[.slice U.xr U.nr U.cr,.slice U.xf U.nf U.cf,.slice U.xt U.nt U.ct,.int .i64 (gI a b).lo,.int .i64 (gI a b).al,.slice U.xk U.nk U.ck,.int .i64 (gI a b).ka],.bool (dF a b)])/\bH w' w.heap.size w'.heap.size U (gI a b)/\Below w.heap.size w w':=by
 cases okA:okS a with
 |false=>exact aAQ w V1 V2 a b h1 h2 okA
 |true=>
  cases okB:okS b with
  |false=>exact aAJ w V1 V2 a b h1 h2 okA okB
  |true=>
   by_cases hs:a.al+b.al<=2000
   ·exact aAS w V1 V2 a b h1 h2 ((wR a b).2 ⟨(dV _).1 okA,(dV _).1 okB,hs⟩)
   ·exact aAe w V1 V2 a b h1 h2 okA okB hs
end Go.Proofs.YtcblbdpdbggkbaaGreat
set_option linter.unusedVariables false
namespace Go.Proofs.YtcblbdpdbggkbaaGreat
open Go.RowKit Go.Sort
theorem aDb (w:World) (V:SV) (s:Sm) (t:Int) (h1:RdS w V s):
  Calls Tryz.prog 104 #[.agg #[.slice V.xr V.nr V.cr,.slice V.xf V.nf V.cf,.slice V.xt V.nt V.ct,.int .i64 s.lo,.int .i64 s.al,.slice V.xk V.nk V.ck,.int .i64 s.ka],.int .i64 t] w fun e w'=>∃U,e=.returned (.tuple #[.agg #[.slice U.xr U.nr U.cr,.slice U.xf U.nf U.cf,.slice U.xt U.nt U.ct,.int .i64 (dK s t).lo,.int .i64 (dK s t).al,.slice U.xk U.nk U.ck,.int .i64 (dK s t).ka],.bool (bY s t)])/\bH w' w.heap.size w'.heap.size U (dK s t)/\Below w.heap.size w w':=by
 have hA:=((Below.refl w.heap.size w).alloc lr_ (.cells #[.slice V.xr V.nr V.cr,.slice V.xf V.nf V.cf,.slice V.xt V.nt V.ct,.int .i64 s.lo,.int .i64 s.al,.slice V.xk V.nk V.ck,.int .i64 s.ka] 46)).alloc (by simp) (.cells #[.slice none 0 0,.slice none 0 0,.slice none 0 0,.int .i64 0,.int .i64 0,.slice none 0 0,.int .i64 0] 46)
 have XA:=(aM.new w 46 (.slice V.xr V.nr V.cr) (.slice V.xf V.nf V.cf) (.slice V.xt V.nt V.ct) (.int .i64 s.lo) (.int .i64 s.al) (.slice V.xk V.nk V.ck) (.int .i64 s.ka)).alloc (.cells #[.slice none 0 0,.slice none 0 0,.slice none 0 0,.int .i64 0,.int .i64 0,.slice none 0 0,.int .i64 0] 46)
 have R:=aM.new (w.alloc (.cells #[.slice V.xr V.nr V.cr,.slice V.xf V.nf V.cf,.slice V.xt V.nt V.ct,.int .i64 s.lo,.int .i64 s.al,.slice V.xk V.nk V.ck,.int .i64 s.ka] 46)) 46 (.slice none 0 0) (.slice none 0 0) (.slice none 0 0) (.int .i64 0) (.int .i64 0) (.slice none 0 0) (.int .i64 0);rw[World.size_alloc]at R;obtain⟨axa0,axa1,axa2,axa3,axa4,axa5,axa6⟩:=(XA).cells
 obtain⟨W0,hW⟩:∃W,W=(w.alloc (.cells #[.slice V.xr V.nr V.cr,.slice V.xf V.nf V.cf,.slice V.xt V.nt V.ct,.int .i64 s.lo,.int .i64 s.al,.slice V.xk V.nk V.ck,.int .i64 s.ka] 46)).alloc (.cells #[.slice none 0 0,.slice none 0 0,.slice none 0 0,.int .i64 0,.int .i64 0,.slice none 0 0,.int .i64 0] 46):=⟨_,rfl⟩
 rw[<-hW]at hA XA R;have B:=hd_ hA;have H1:=hd_ h1;have SZ:=hd_ hA.size;clear hA h1
 have K1:Hid (Calls Tryz.prog 174 #[.int .i64 t] W0.drew fun e w'=>∃V,e=.returned (.agg #[.slice V.xr V.nr V.cr,.slice V.xf V.nf V.cf,.slice V.xt V.nt V.ct,.int .i64 (qE t).lo,.int .i64 (qE t).al,.slice V.xk V.nk V.ck,.int .i64 (qE t).ka])/\bH w' W0.drew.heap.size w'.heap.size V (qE t)/\Below W0.drew.heap.size W0.drew w'):=hd_ (aJQ W0.drew t);generalize hso:qE t=so at K1
 have J1:gI s so=dK s t:=by rw[<-hso];exact aGp s t
 have J2:dF s so=bY s t:=by rw[<-hso];exact sT s t
 clear hso
 have KJ:Hid (∀(W:World) (V2:SV),RdS W V s->RdS W V2 so->Calls Tryz.prog 78 #[.agg #[.slice V.xr V.nr V.cr,.slice V.xf V.nf V.cf,.slice V.xt V.nt V.ct,.int .i64 s.lo,.int .i64 s.al,.slice V.xk V.nk V.ck,.int .i64 s.ka],.agg #[.slice V2.xr V2.nr V2.cr,.slice V2.xf V2.nf V2.cf,.slice V2.xt V2.nt V2.ct,.int .i64 so.lo,.int .i64 so.al,.slice V2.xk V2.nk V2.ck,.int .i64 so.ka]] W fun e w'=>∃U,e=.returned (.tuple #[.agg #[.slice U.xr U.nr U.cr,.slice U.xf U.nf U.cf,.slice U.xt U.nt U.ct,.int .i64 (dK s t).lo,.int .i64 (dK s t).al,.slice U.xk U.nk U.ck,.int .i64 (dK s t).ka],.bool (bY s t)])/\bH w' W.heap.size w'.heap.size U (dK s t)/\Below W.heap.size W w'):=hd_ fun W V2 p q=>by
  have h:=aCE W V V2 s so p q;rw[J1,J2]at h;exact h
 clear J1 J2;generalize dK s t=r at KJ ⊢;generalize bY s t=ok at KJ ⊢;go_enter Tryz.func104,Tryz.ntmps104
 go_wp2_with fail
 rw[<-hW];clear hW axa0 axa1 axa2 axa3 axa4 axa5 axa6;obtain⟨cxa0,cxa1,cxa2,cxa3,cxa4,cxa5,cxa6⟩:=(XA).cells;go_wp2
 go_region_with (first
    |(go_at_call 174;refine K1.out.mono ?_;rintro e w1 ⟨V2,rfl,ho,hb⟩;have XA1:=XA.drew.later hb;obtain⟨e0,e1,e2,e3,e4,e5,e6⟩:=XA1.cells;have HO:=hd_ ho;have HB:=hd_ hb;clear ho hb)
    |(go_at_call 78;refine (KJ.out w1 V2 ((H1.out.below B.out lr_).below (Below.trans (Below.drew (Below.refl _ W0)) HB.out) lr_) HO.out.rd).mono ?_;rintro e w2 ⟨U,rfl,hu,hb⟩;have R2:=(R.drew.later HB.out).later hb;obtain⟨r0,r1,r2,r3,r4,r5,r6⟩:=R2.cells;have fr:=R2.free;have HU:=hd_ hu;have HB2:=hd_ hb;clear hu hb))
 all_goals
  replace B:=hd_ (B.out.trans ((Below.trans (Below.drew (Below.refl _ W0)) (HB.out.trans (HB2.out.mono HB.out.size))).mono B.out.size));have fin:=R2.set (.slice U.xr U.nr U.cr) (.slice U.xf U.nf U.cf) (.slice U.xt U.nt U.ct) (.int .i64 r.lo) (.int .i64 r.al) (.slice U.xk U.nk U.ck) (.int .i64 r.ka)
  have OF:=bH.box7 (HU.out.base (B':=w.heap.size) (Nat.le_trans (Nat.le_trans (show w.heap.size<=W0.heap.size from SZ.out) HB.out.size) lr_) lr_ lr_) R2 (.slice U.xr U.nr U.cr) (.slice U.xf U.nf U.cf) (.slice U.xt U.nt U.ct) (.int .i64 r.lo) (.int .i64 r.al) (.slice U.xk U.nk U.ck) (.int .i64 r.ka)
  have BF:=aW B.out (Nat.le_add_right w.heap.size 1) (.slice U.xr U.nr U.cr) (.slice U.xf U.nf U.cf) (.slice U.xt U.nt U.ct) (.int .i64 r.lo) (.int .i64 r.al) (.slice U.xk U.nk U.ck) (.int .i64 r.ka);have SF:=cG w2 (w.heap.size+1) (.slice U.xr U.nr U.cr) (.slice U.xf U.nf U.cf) (.slice U.xt U.nt U.ct) (.int .i64 r.lo) (.int .i64 r.al) (.slice U.xk U.nk U.ck) (.int .i64 r.ka)
  have HF:=hd_ (And.intro (bH.base OF lr_ (Nat.le_of_eq SF.symm) lr_) BF);have HY:=hd_ fin;clear fin OF BF SF;go_wp2;show bodyPost _ _ _ _ _ (set7 w2 (w.heap.size+1) (.slice U.xr U.nr U.cr) (.slice U.xf U.nf U.cf) (.slice U.xt U.nt U.ct) (.int .i64 r.lo) (.int .i64 r.al) (.slice U.xk U.nk U.ck) (.int .i64 r.ka))
  obtain⟨d0,d1,d2,d3,d4,d5,d6⟩:=HY.out.cells;generalize set7 w2 (w.heap.size+1) (.slice U.xr U.nr U.cr) (.slice U.xf U.nf U.cf) (.slice U.xt U.nt U.ct) (.int .i64 r.lo) (.int .i64 r.al) (.slice U.xk U.nk U.ck) (.int .i64 r.ka)=WF at HF d0 d1 d2 d3 d4 d5 d6 ⊢
  refine bodyPost_ret (v:=.tuple #[.agg #[.slice U.xr U.nr U.cr,.slice U.xf U.nf U.cf,.slice U.xt U.nt U.ct,.int .i64 r.lo,.int .i64 r.al,.slice U.xk U.nk U.ck,.int .i64 r.ka],.bool ok]) (by simp[results,Tryz.results104,go_sem,d0,d1,d2,d3,d4,d5,d6]) rfl ?_;exact⟨U,rfl,HF.out⟩
end Go.Proofs.YtcblbdpdbggkbaaGreat
set_option linter.unusedVariables false
set_option linter.unusedSectionVars false
set_option linter.unusedSimpArgs false
namespace Go.Proofs.YtcblbdpdbggkbaaGreat
open Go.RowKit Go.Sort Go.ChangeMaps
namespace N
theorem sK (w:World) (V:SV) (e:En):
  Calls Tryz.prog 201 #[aAH V e] w fun r w'=>r=.returned (.agg #[.int .i64 e.node,.int .i64 e.born,.int .i64 e.num])/\Below w.heap.size w w':=by
 have h0:=(M.start w).alloc #[.int .i64 e.node,.int .i64 e.born,.int .i64 e.num,.slice V.xr V.nr V.cr,.slice V.xf V.nf V.cf,.slice V.xt V.nt V.ct,.int .i64 (e.s).lo,.int .i64 (e.s).al,.slice V.xk V.nk V.ck,.int .i64 (e.s).ka] 64;have h1:=h0.alloc #[.int .i64 e.node,.int .i64 e.born,.int .i64 e.num] 234;simp only[World.size_alloc]at h1;have H1:=hd_ h1;obtain⟨e0,e1,e2⟩:=h1.cells3
 have H0:=(h0.alloc #[.int .i64 0,.int .i64 0,.int .i64 0] 234).p1.cells10;obtain⟨d0,d1,d2,d3,d4,d5,d6,d7,d8,d9⟩:=H0;clear h0 h1;go_enter Tryz.func201,Tryz.ntmps201;go_wp2;exact bodyPost_ret (v:=.agg #[.int .i64 e.node,.int .i64 e.born,.int .i64 e.num]) (by simp[results,Tryz.results201,go_sem,e0,e1,e2]) rfl ⟨rfl,H1.out.below⟩
def bQ (n:Nt) (k:Int × Int × Int):Sm:=upS ((bZ n k.1 k.2.1).take k.2.2.toNat)
theorem aGE {n:Nt} {a b:Int} {q:Nat} {l:List Int} (hl:bZ n a b=l) (hq:q<l.length) {z:Int} (hz:z=(q:Int)+1):bQ n (a,b,z)=dK (bQ n (a,b,(q:Int))) (l.getD q 0):=by
 subst hz;unfold bQ;simp only[hl,Int.toNat_natCast];rw[show ((q:Int)+1).toNat=q+1 by omega];exact xC hq
theorem aFe {n:Nt} {w0:World} {v1 v2 v3:Value} {x4:Option Addr} {c4:Nat} (hn:iL w0 v1 v2 v3 (.slice x4 5 c4) n) (hs:nK n) {i j:Nat} (hi:i<5) (hj:j<(cS n (i:Int)).length):
  ∀(q:Nat),q<=(bZ n (i:Int) (j:Int)).length->∀{l:List Ch} {w:World} {m:Nat} {z:Int},z=(q:Int)->M w0.heap.size w0 w (jR m (bQ n)::l)->
  Calls Tryz.prog 200 #[.agg #[.slice x4 5 c4,.map (some m)],.agg #[.int .i64 (i:Int),.int .i64 (j:Int),.int .i64 z]] w fun r w'=>∃V s,r=.returned (.agg #[.slice V.xr V.nr V.cr,.slice V.xf V.nf V.cf,.slice V.xt V.nt V.ct,.int .i64 s.lo,.int .i64 s.al,.slice V.xk V.nk V.ck,.int .i64 s.ka])/\s=bQ n ((i:Int),(j:Int),z)/\M w0.heap.size w0 w' (pZ m (bQ n) V s::l):=by
 obtain⟨f4,n4⟩:=hn.past;obtain⟨rs,hrs⟩:∃rs,n.past[i]? =some rs:=⟨_,List.getElem?_eq_getElem (by rw[hs.past];exact hi)⟩
 have eR:cS n (i:Int)=rs:=by unfold cS;rw[List.getD_eq_getElem?_getD,Int.toNat_natCast,hrs];rfl
 obtain⟨g4,xr,cr,fr,rfl,_,_,rr,rc,rm,y0⟩:=lP n4 hrs;rw[eR]at hj;obtain⟨lp,hlp⟩:∃lp,rs[j]? =some lp:=⟨_,List.getElem?_eq_getElem hj⟩
 have EP:Hid (bZ n (i:Int) (j:Int)=lp):=hd_ (by unfold bZ;rw[eR,List.getD_eq_getElem?_getD,Int.toNat_natCast,hlp];rfl);obtain⟨g5,xl,cl,fl,rfl,_,_,rl,lc,lm,y1⟩:=lE rr hlp;have IB:Hid (cW w0 (.slice xl lp.length cl) lp):=hd_ (by
    obtain⟨v,ev,ho,_⟩:=hO rl
    cases ev
    exact ho)
 have Y0:=hd_ y0;have Y1:=hd_ y1;have i0:(0:Int)<=(i:Int):=by omega
 have i5:(i:Int)<5:=by omega
 have j0:(0:Int)<=(j:Int):=by omega
 have j1:(j:Int)<(rs.length:Int):=by omega
 have IO:=hd_ (show aIc (i:Int)from⟨by omega,by omega⟩);unfold maxLen at rm lm;have JO:=hd_ (show aIc (j:Int)from⟨by omega,by omega⟩);rw[EP.out];have LM:=hd_ (Nat.le_trans lc lm);have RM:rs.length<=2 ^ 63 - 1:=by omega
 clear n4 hrs eR rr hlp rl lc lm rc rm y0 y1 hn hs hi hj;intro q
 induction q with
 |zero=>
  intro _ l w m z hz hm;subst hz;have h0:=((hm.alloc #[.slice (some ⟨g4,0,none⟩) 5 c4,.map (some m)] 120).alloc #[.int .i64 (i:Int),.int .i64 (j:Int),.int .i64 0] 234).alloc #[.slice none 0 0,.slice none 0 0,.slice none 0 0,.int .i64 0,.int .i64 0,.slice none 0 0,.int .i64 0] 46;simp only[World.size_alloc]at h0
  obtain⟨W,hW⟩:∃W,W=((w.alloc (.cells #[.slice (some ⟨g4,0,none⟩) 5 c4,.map (some m)] 120)).alloc (.cells #[.int .i64 (i:Int),.int .i64 (j:Int),.int .i64 0] 234)).alloc (.cells #[.slice none 0 0,.slice none 0 0,.slice none 0 0,.int .i64 0,.int .i64 0,.slice none 0 0,.int .i64 0] 46):=⟨_,rfl⟩
  obtain⟨p2,hp2⟩:∃p,p=w.heap.size:=⟨_,rfl⟩
  obtain⟨p3,hp3⟩:∃p,p=w.heap.size+1:=⟨_,rfl⟩
  obtain⟨p4,hp4⟩:∃p,p=w.heap.size+1+1:=⟨_,rfl⟩
  rw[<-hW, <-hp4, <-hp3, <-hp2]at h0;have H:=hd_ h0;obtain⟨b0,b1,b2⟩:=h0.p1.cells3;obtain⟨d0,d1,d2,d3,d4,d5,d6⟩:=h0.cells7;have ff:=h0.free;clear h0 hm;have KN:=hd_ (aCQ W);obtain⟨sn,hsn⟩:∃s,s=eC:=⟨_,rfl⟩
  rw[<-hsn]at KN;have SN:=hd_ hsn;clear hsn;go_enter Tryz.func200,Tryz.ntmps200
  go_wp2_with fail
  rw[<-hW];clear hW b0 b1 b2 d0 d1 d2 d3 d4 d5 d6 ff;refine KN.out.mono ?_;rintro r w1 ⟨V,rfl,ho,hb⟩;have H2:=hd_ (H.out.sum hb ho);clear H ho hb KN;rw[<-hp4];clear hp2 hp3 hp4
  go_wp2_with (refine cF H2.out.p1 (vs:=[.slice V.xr V.nr V.cr,.slice V.xf V.nf V.cf,.slice V.xt V.nt V.ct,.int .i64 sn.lo,.int .i64 sn.al,.slice V.xk V.nk V.ck,.int .i64 sn.ka]) (ys:=#[.slice V.xr V.nr V.cr,.slice V.xf V.nf V.cf,.slice V.xt V.nt V.ct,.int .i64 sn.lo,.int .i64 sn.al,.slice V.xk V.nk V.ck,.int .i64 sn.ka]) rfl rfl rfl rfl aB0 rfl (by simp) (by simp[qF]) ?_;intro w2 h3;have H4:=hd_ h3;clear h3 H2)
  obtain⟨e0,e1,e2,e3,e4,e5,e6⟩:=H4.out.cells7;exact bodyPost_ret (v:=.agg #[.slice V.xr V.nr V.cr,.slice V.xf V.nf V.cf,.slice V.xt V.nt V.ct,.int .i64 sn.lo,.int .i64 sn.al,.slice V.xk V.nk V.ck,.int .i64 sn.ka]) (by simp[results,Tryz.results200,go_sem,e0,e1,e2,e3,e4,e5,e6]) rfl ⟨V,sn,rfl,SN.out,aEj H4.out.drop.p1.drop.p1.drop⟩
 |succ q ih=>
  intro hq l w m z hz hm;have bw:IntKind.i64.wrap (z - 1)=(q:Int):=by have:=LM.out;rw[hz,IntWalk.i64_in _ (by omega)];omega
  have gz:(z==0)=false:=by rw[hz];simp;omega
  have hz':z=(q:Int)+1:=by omega
  have ES:=hd_ (aGE EP.out (by omega) hz');obtain⟨b6,o6,rfl,c6⟩:=uO IB.out (show q<lp.length by omega);obtain⟨vq,hvq⟩:∃v,v=lp.getD q 0:=⟨_,rfl⟩
  rw[<-hvq]at c6 ES;have C6:=hd_ c6;clear c6;clear hvq;have q0:(0:Int)<=(q:Int):=by omega
  have q1:(q:Int)<(lp.length:Int):=by omega
  have MO:=hd_ (show aEe ((i:Int),(j:Int),z)from⟨IO.out,JO.out,(show -9223372036854775808<=z/\z<9223372036854775808 by have:=LM.out;omega)⟩);have IH:=hd_ (fun (l':List Ch) (w':World) (h:M w0.heap.size w0 w' (jR m (bQ n)::l'))=>ih (by omega) (l:=l') (w:=w') (m:=m) (z:=(q:Int)) rfl h)
  have h0:=((hm.alloc #[.slice (some ⟨g4,0,none⟩) 5 c4,.map (some m)] 120).alloc #[.int .i64 (i:Int),.int .i64 (j:Int),.int .i64 z] 234).alloc #[.slice none 0 0,.slice none 0 0,.slice none 0 0,.int .i64 0,.int .i64 0,.slice none 0 0,.int .i64 0] 46;simp only[World.size_alloc]at h0
  obtain⟨W,hW⟩:∃W,W=((w.alloc (.cells #[.slice (some ⟨g4,0,none⟩) 5 c4,.map (some m)] 120)).alloc (.cells #[.int .i64 (i:Int),.int .i64 (j:Int),.int .i64 z] 234)).alloc (.cells #[.slice none 0 0,.slice none 0 0,.slice none 0 0,.int .i64 0,.int .i64 0,.slice none 0 0,.int .i64 0] 46):=⟨_,rfl⟩
  obtain⟨p2,hp2⟩:∃p,p=w.heap.size:=⟨_,rfl⟩
  obtain⟨p3,hp3⟩:∃p,p=w.heap.size+1:=⟨_,rfl⟩
  obtain⟨p4,hp4⟩:∃p,p=w.heap.size+1+1:=⟨_,rfl⟩
  rw[<-hW, <-hp4, <-hp3, <-hp2]at h0;have H:=hd_ h0;obtain⟨b0,b1,b2⟩:=h0.p1.cells3;obtain⟨a0,a1⟩:=h0.p2.cells2;clear h0 hm hz hz' ih hq;go_enter Tryz.func200,Tryz.ntmps200;go_upto_region 3 with fail
  rw[<-hW, <-hp4, <-hp3, <-hp2];clear hW hp2 hp3 hp4;obtain⟨b,V0,s0,LL0,hb⟩:=aGG H.out.p3 MO.out
  have LL:(Instr.lookup 118 (.map (some m)) (.agg #[.int .i64 (i:Int),.int .i64 (j:Int),.int .i64 z]) true).run Tryz.prog W=.ok (.tuple #[.agg #[.slice V0.xr V0.nr V0.cr,.slice V0.xf V0.nf V0.cf,.slice V0.xt V0.nt V0.ct,.int .i64 s0.lo,.int .i64 s0.al,.slice V0.xk V0.nk V0.ck,.int .i64 s0.ka],.bool b]) W:=LL0;have HB:=hd_ hb;clear hb LL0;cases b with
  |true=>
   obtain⟨e0,h1⟩:=HB.out rfl;have E0:=hd_ e0;have H5:=hd_ (h1.alloc #[.slice V0.xr V0.nr V0.cr,.slice V0.xf V0.nf V0.cf,.slice V0.xt V0.nt V0.ct,.int .i64 s0.lo,.int .i64 s0.al,.slice V0.xk V0.nk V0.ck,.int .i64 s0.ka] 46);clear h1 e0 HB H;obtain⟨p5,hp5⟩:∃p,p=W.heap.size:=⟨_,rfl⟩
   obtain⟨W5,hW5⟩:∃W',W'=W.alloc (.cells #[.slice V0.xr V0.nr V0.cr,.slice V0.xf V0.nf V0.cf,.slice V0.xt V0.nt V0.ct,.int .i64 s0.lo,.int .i64 s0.al,.slice V0.xk V0.nk V0.ck,.int .i64 s0.ka] 46):=⟨_,rfl⟩
   rw[<-hp5, <-hW5]at H5;obtain⟨x0,x1,x2,x3,x4,x5,x6⟩:=H5.out.cells7;go_upto_region 4 with fail
   rw[<-hW5, <-hp5];clear hp5 hW5 LL a0 a1 b0 b1 b2
   go_wp2_with (refine cF H5.out.p2 (vs:=[.slice V0.xr V0.nr V0.cr,.slice V0.xf V0.nf V0.cf,.slice V0.xt V0.nt V0.ct,.int .i64 s0.lo,.int .i64 s0.al,.slice V0.xk V0.nk V0.ck,.int .i64 s0.ka]) (ys:=#[.slice V0.xr V0.nr V0.cr,.slice V0.xf V0.nf V0.cf,.slice V0.xt V0.nt V0.ct,.int .i64 s0.lo,.int .i64 s0.al,.slice V0.xk V0.nk V0.ck,.int .i64 s0.ka]) rfl rfl rfl rfl aB0 rfl (by simp) (by simp[qF]) ?_;intro w2 h3;have H6:=hd_ h3;clear h3 H5)
   obtain⟨e0,e1,e2,e3,e4,e5,e6⟩:=H6.out.cells7;exact bodyPost_ret (v:=.agg #[.slice V0.xr V0.nr V0.cr,.slice V0.xf V0.nf V0.cf,.slice V0.xt V0.nt V0.ct,.int .i64 s0.lo,.int .i64 s0.al,.slice V0.xk V0.nk V0.ck,.int .i64 s0.ka]) (by simp[results,Tryz.results200,go_sem,e0,e1,e2,e3,e4,e5,e6]) rfl ⟨V0,s0,rfl,E0.out,H6.out.drop.drop.p2.drop.p1 |>.p1.p1.drop |> fun h=>h⟩
  |false=>
   clear HB;have h5:=H.out.alloc #[.slice V0.xr V0.nr V0.cr,.slice V0.xf V0.nf V0.cf,.slice V0.xt V0.nt V0.ct,.int .i64 s0.lo,.int .i64 s0.al,.slice V0.xk V0.nk V0.ck,.int .i64 s0.ka] 46;obtain⟨p5,hp5⟩:∃p,p=W.heap.size:=⟨_,rfl⟩
   obtain⟨W5,hW5⟩:∃W',W'=W.alloc (.cells #[.slice V0.xr V0.nr V0.cr,.slice V0.xf V0.nf V0.cf,.slice V0.xt V0.nt V0.ct,.int .i64 s0.lo,.int .i64 s0.al,.slice V0.xk V0.nk V0.ck,.int .i64 s0.ka] 46):=⟨_,rfl⟩
   rw[<-hW5, <-hp5]at h5;have H5:=hd_ h5;clear h5 H;go_upto_region 4 with fail
   rw[<-hW5, <-hp5];clear hp5 hW5 LL a0 a1 b0 b1 b2;obtain⟨b0,b1,b2⟩:=H5.out.p2.cells3;have h6:=H5.out.alloc #[.int .i64 (i:Int),.int .i64 (j:Int),.int .i64 (q:Int)] 234;obtain⟨p7,hp7⟩:∃p,p=W5.heap.size:=⟨_,rfl⟩
   obtain⟨W6,hW6⟩:∃W',W'=W5.alloc (.cells #[.int .i64 (i:Int),.int .i64 (j:Int),.int .i64 (q:Int)] 234):=⟨_,rfl⟩
   rw[<-hW6, <-hp7]at h6;have H6:=hd_ h6.drew;clear h6 H5;go_upto_region 6 with fail
   rw[<-hW6, <-hp7];clear hp7 hW6 b0 b1 b2
   have hcells:∀(W':World) (c1 c2:Ch) (l':List Ch) (vs:Array Value),M w0.heap.size w0 W' (c1::bU p7 234 #[.int .i64 (i:Int),.int .i64 (j:Int),.int .i64 (q:Int)]::bU p5 46 vs::c2::bU p3 234 #[.int .i64 (i:Int),.int .i64 (j:Int),.int .i64 z]::bU p2 120 #[.slice (some ⟨g4,0,none⟩) 5 c4,.map (some m)]::l')->aJ W' [(⟨p2,0,none⟩,.slice (some ⟨g4,0,none⟩) 5 c4),(⟨p2,1,none⟩,.map (some m)),(⟨p3,0,none⟩,.int .i64 (i:Int)),(⟨p3,1,none⟩,.int .i64 (j:Int)),(⟨p3,2,none⟩,.int .i64 z),(⟨p7,0,none⟩,.int .i64 (i:Int)),(⟨p7,1,none⟩,.int .i64 (j:Int)),(⟨p7,2,none⟩,.int .i64 (q:Int)),(⟨g4,i,none⟩,.slice (some ⟨g5,0,none⟩) rs.length cr),(⟨g5,j,none⟩,.slice (some ⟨b6,o6,none⟩) lp.length cl),(⟨b6,o6+q,none⟩,.int .i64 vq)]:=fun _ _ _ _ _ h=>by
    obtain⟨m0,m1,m2⟩:=h.p1.cells3;obtain⟨k0,k1,k2⟩:=h.p4.cells3;obtain⟨t0,t1⟩:=h.p5.cells2;exact⟨t0,t1,k0,k1,k2,m0,m1,m2,cell_later h.below Y0.out,cell_later h.below Y1.out,cell_later h.below C6.out,trivial⟩
   have HC:=hd_ hcells
   have KA:Hid (∀(W':World) (V1:SV) (s1:Sm),RdS W' V1 s1->Calls Tryz.prog 104 #[.agg #[.slice V1.xr V1.nr V1.cr,.slice V1.xf V1.nf V1.cf,.slice V1.xt V1.nt V1.ct,.int .i64 s1.lo,.int .i64 s1.al,.slice V1.xk V1.nk V1.ck,.int .i64 s1.ka],.int .i64 vq] W' fun e w'=>∃U ok,e=.returned (.tuple #[.agg #[.slice U.xr U.nr U.cr,.slice U.xf U.nf U.cf,.slice U.xt U.nt U.ct,.int .i64 (dK s1 vq).lo,.int .i64 (dK s1 vq).al,.slice U.xk U.nk U.ck,.int .i64 (dK s1 vq).ka],.bool ok])/\bH w' W'.heap.size w'.heap.size U (dK s1 vq)/\Below W'.heap.size W' w'):=hd_ fun W' V1 s1 h1=>(aDb W' V1 s1 vq h1).mono fun e w' ⟨U,h1,h2,h3⟩=>⟨U,_,h1,h2,h3⟩
   clear hcells
   refine aE 99 (.tk 0 2 (.tk 3 14 (.alt 2 (.alt 17 (.tk 18 3 (.alt 21 .done .nomore)) .nomore) .nomore))) (fun w'=>aJ w' [(⟨p2,0,none⟩,.slice (some ⟨g4,0,none⟩) 5 c4),(⟨p2,1,none⟩,.map (some m)),(⟨p3,0,none⟩,.int .i64 (i:Int)),(⟨p3,1,none⟩,.int .i64 (j:Int)),(⟨p3,2,none⟩,.int .i64 z),(⟨p7,0,none⟩,.int .i64 (i:Int)),(⟨p7,1,none⟩,.int .i64 (j:Int)),(⟨p7,2,none⟩,.int .i64 (q:Int)),(⟨g4,i,none⟩,.slice (some ⟨g5,0,none⟩) rs.length cr),(⟨g5,j,none⟩,.slice (some ⟨b6,o6,none⟩) lp.length cl),(⟨b6,o6+q,none⟩,.int .i64 vq)]) (by kernel_rfl) (by kernel_rfl) (fun _ _ _ _ _ h=>h) (HC.out _ _ _ _ _ H6.out.p5) ?_
   repeat ((first|(refine aC (by rfl) (by rfl) ?_;apply Exists.intro;refine⟨fun w' hw'=>?_,?_⟩;(· ((try simp only[aJ,aF,b4L,b5L,b6L,b7L,bD,N.bR,and_true]at hw');go_simp;(try with_reducible rfl))))|(refine aB (by rfl) (by rfl) ?_));simp only[Act.put,List.getElem_toArray,List.getElem_cons_succ,pg3,pg4,pg5,pg6])
   refine aD (by rfl) (fun K' hK=>?_);go_simp;refine (IH.out _ _ H6.out.p5).mono ?_;rintro e' w1 ⟨V1,s1,rfl,es1,hm1⟩;have HM1:=hd_ hm1;have ES1:Hid (dK s1 vq=bQ n ((i:Int),(j:Int),z)):=hd_ (by rw[ES.out,es1]);clear es1 hm1 IH H6 ES;refine hK _ _ (.inr (HC.out _ _ _ _ _ HM1.out)) ?_;clear hK K'
   try simp only[Act.put,List.getElem_toArray,List.getElem_cons_succ,pg3,pg4,pg5,pg6]
   refine aD (by rfl) (fun K' hK=>?_);go_simp;refine (KA.out w1 V1 s1 (aCH HM1.out)).mono ?_;rintro e' w2 ⟨U,ok,rfl,ho,hb⟩;obtain⟨sk,hsk⟩:∃s,s=dK s1 vq:=⟨_,rfl⟩
   rw[<-hsk]at ES1 ho;rw[<-hsk];have HM2:=hd_ (aEj ((qL HM1.out).sum hb ho));clear hsk ho hb KA HM1;refine hK _ _ (.inr (HC.out _ _ _ _ _ HM2.out)) ?_;clear hK K'
   try simp only[Act.put,List.getElem_toArray,List.getElem_cons_succ,pg3,pg4,pg5,pg6]
   repeat ((first|(refine aC (by rfl) (by rfl) ?_;apply Exists.intro;refine⟨fun w' hw'=>?_,?_⟩;(· ((try simp only[aJ,aF,b4L,b5L,b6L,b7L,bD,N.bR,and_true]at hw');go_simp;(try with_reducible rfl))))|(refine aB (by rfl) (by rfl) ?_));simp only[Act.put,List.getElem_toArray,List.getElem_cons_succ,pg3,pg4,pg5,pg6])
   refine aD (by rfl) (fun K' hK=>?_)
   refine aDY HM2.out.p2 (vs:=[.slice U.xr U.nr U.cr,.slice U.xf U.nf U.cf,.slice U.xt U.nt U.ct,.int .i64 sk.lo,.int .i64 sk.al,.slice U.xk U.nk U.ck,.int .i64 sk.ka]) (ys:=#[.slice U.xr U.nr U.cr,.slice U.xf U.nf U.cf,.slice U.xt U.nt U.ct,.int .i64 sk.lo,.int .i64 sk.al,.slice U.xk U.nk U.ck,.int .i64 sk.ka]) rfl rfl rfl rfl aB0 rfl (by simp) (by simp[qF]) ?_;intro w3 h3
   have HM3:=hd_ h3.p2.p2;clear h3 HM2;refine hK _ _ (.inr (HC.out _ _ _ _ _ HM3.out)) ?_;clear hK K'
   try simp only[Act.put,List.getElem_toArray,List.getElem_cons_succ,pg3,pg4,pg5,pg6]
   refine aI ?_;obtain⟨x0,x1,x2,x3,x4,x5,x6⟩:=HM3.out.p2.cells7;obtain⟨b0,b1,b2⟩:=HM3.out.p4.cells3;obtain⟨a0,a1⟩:=HM3.out.p5.cells2
   go_wp2_with (first|(refine aD0 HM3.out MO.out ES1.out rfl rfl rfl rfl rfl rfl rfl ?_;intro w4 h4;have HM4:=hd_ h4;obtain⟨z0,z1,z2,z3,z4,z5,z6⟩:=h4.p2.cells7;clear h4 HM3)|(refine cF HM4.out.p3 (vs:=[.slice U.xr U.nr U.cr,.slice U.xf U.nf U.cf,.slice U.xt U.nt U.ct,.int .i64 sk.lo,.int .i64 sk.al,.slice U.xk U.nk U.ck,.int .i64 sk.ka]) (ys:=#[.slice U.xr U.nr U.cr,.slice U.xf U.nf U.cf,.slice U.xt U.nt U.ct,.int .i64 sk.lo,.int .i64 sk.al,.slice U.xk U.nk U.ck,.int .i64 sk.ka]) rfl rfl rfl rfl aB0 rfl (by simp) (by simp[qF]) ?_;intro w5 h5;have HM5:=hd_ h5;clear h5 HM4))
   obtain⟨e0,e1,e2,e3,e4,e5,e6⟩:=HM5.out.cells7;exact bodyPost_ret (v:=.agg #[.slice U.xr U.nr U.cr,.slice U.xf U.nf U.cf,.slice U.xt U.nt U.ct,.int .i64 sk.lo,.int .i64 sk.al,.slice U.xk U.nk U.ck,.int .i64 sk.ka]) (by simp[results,Tryz.results200,go_sem,e0,e1,e2,e3,e4,e5,e6]) rfl ⟨U,sk,rfl,ES1.out,HM5.out.drop.p1.drop.p1.drop.p1.drop.p1.drop⟩
end N
end Go.Proofs.YtcblbdpdbggkbaaGreat
set_option linter.unusedVariables false
set_option linter.unusedSectionVars false
set_option linter.unusedSimpArgs false
namespace Go.Proofs.YtcblbdpdbggkbaaGreat
open Go.RowKit Go.Sort
namespace N
theorem sH (w:World) {x1:Option Addr} {c1:Nat} {v2 v3 v4:Value} {n:Nt} {f:List Nat} (h1:oS TY w [.slice x1 5 c1] n.nodes f) {beacon:Int} {b:Bool} (hb:b=in6 beacon 0 (aG n 0).beacon):
  Calls Tryz.prog 154 #[.agg #[.slice x1 5 c1,v2,v3,v4],.int .i64 beacon] w fun r w'=>r=.returned (.bool b)/\Below w.heap.size w w':=by
 have h5:n.nodes.length=5:=(aO h1).1.symm;obtain⟨r0,hr0⟩:∃nd,n.nodes[0]? =some nd:=⟨_,List.getElem?_eq_getElem (by rw[h5];decide)⟩
 have e0:aG n 0=r0:=by unfold aG;rw[List.getD_eq_getElem?_getD,show (0:Int).toNat=0 from rfl,hr0];rfl
 rw[e0]at hb;have H0:=(M.start w).alloc #[.slice x1 5 c1,v2,v3,v4] 30;have HB:=hd_ H0.below;obtain⟨a0,a1,a2,a3⟩:=H0.cells4;obtain⟨g1,xk,ck,fk,rfl,_,_,_,_,_,z0,z1,z2,z3,z4⟩:=fQ h1 hr0;replace z2:=cell_later H0.below z2;simp only[Nat.zero_mul,Nat.zero_add]at z2;obtain⟨q1,hq1⟩:∃b,b=decide (0<=beacon):=⟨_,rfl⟩
 obtain⟨q2,hq2⟩:∃b,b=decide (beacon<=r0.beacon):=⟨_,rfl⟩
 have E:Hid (b=(q1&&q2)):=hd_ (by
    rw[hb,hq1,hq2]
    unfold in6
    by_cases x:0<=beacon<;>by_cases y:beacon<=r0.beacon<;>simp[x,y])
 have g1':=hq1.symm;have g2':=hq2.symm;clear hb hq1 hq2 H0 e0 hr0 h5 h1 z0 z1 z3 z4;go_enter Tryz.func154,Tryz.ntmps154;rcases q1 with _|_
 all_goals
  go_wp2;go_ret;exact⟨by rw[E.out];rfl,HB.out⟩
theorem aGq {a b:Int} {t:Bool} (h:t=two a b) (w:World):Calls Tryz.prog 70 #[.int .i64 a,.int .i64 b] w fun e w'=>e=.returned (.bool t)/\w=w':=by
 rw[h];exact aBy w a b
def jO (n:Nt) (i:Int):Bool:=in6 (aG n i).beacon 0 (aG n 0).beacon&&(if i=0 then ((aG n i).level==0)&&(((aG n i).up== -1)&&decide ((aG n i).beacon<=1000))else if (aG n i).level=5 then (aG n i).up== -1 else decide (1<=(aG n i).level)&&(decide ((aG n i).level<5)&&two i (aG n i).up))
theorem aB4 (w:World) {x1:Option Addr} {c1:Nat} {v2 v3 v4:Value} {n:Nt} {f:List Nat} (h1:oS TY w [.slice x1 5 c1] n.nodes f) {i:Nat} (i5:i<5):
  Calls Tryz.prog 81 #[.agg #[.slice x1 5 c1,v2,v3,v4],.int .i64 (i:Int)] w fun r w'=>r=.returned (.bool (jO n i))/\Below w.heap.size w w':=by
 have h5:n.nodes.length=5:=(aO h1).1.symm;obtain⟨nd,hnd⟩:∃nd,n.nodes[i]? =some nd:=⟨_,List.getElem?_eq_getElem (by rw[h5];exact i5)⟩
 have eN:aG n (i:Int)=nd:=by unfold aG;rw[List.getD_eq_getElem?_getD,Int.toNat_natCast,hnd];rfl
 have HB0:Hid (jO n (i:Int)=(in6 nd.beacon 0 (aG n 0).beacon&&(if (i:Int)=0 then (nd.level==0)&&((nd.up== -1)&&decide (nd.beacon<=1000))else if nd.level=5 then nd.up== -1 else decide (1<=nd.level)&&(decide (nd.level<5)&&two i nd.up)))):=hd_ (by unfold jO;rw[eN]);have H0:=((M.start w).alloc #[.slice x1 5 c1,v2,v3,v4] 30)
 obtain⟨w1,hw1⟩:∃W,W=w.alloc (.cells #[.slice x1 5 c1,v2,v3,v4] 30):=⟨_,rfl⟩
 obtain⟨p1,hp1⟩:∃p,p=w.heap.size:=⟨_,rfl⟩
 have HP:=hd_ hp1;rw[<-hw1, <-hp1]at H0;have hWB:Below w.heap.size w w1:=by have:=H0.below;rwa[hp1]at this
 obtain⟨g1,xk,ck,fk,rfl,_,_,_,_,_,b0,b1,b2,b3,b4⟩:=fQ h1 hnd;replace b0:=cell_later hWB b0;replace b1:=cell_later hWB b1;replace b2:=cell_later hWB b2;replace b3:=cell_later hWB b3;replace b4:=cell_later hWB b4;obtain⟨a0,a1,a2,a3⟩:=H0.cells4;have H1:=H0.alloc #[.int .i64 nd.born,.slice xk nd.known.length ck,.int .i64 nd.beacon,.int .i64 nd.level,.int .i64 nd.up] 55
 obtain⟨p2,hp2⟩:∃p,p=w1.heap.size:=⟨_,rfl⟩
 rw[<-hp2]at H1;obtain⟨w2,hw2⟩:∃W,W=w1.alloc (.cells #[.int .i64 nd.born,.slice xk nd.known.length ck,.int .i64 nd.beacon,.int .i64 nd.level,.int .i64 nd.up] 55):=⟨_,rfl⟩
 rw[<-hw2]at H1;have H:=hd_ H1;have hWB2:Below w.heap.size w w2:=by have:=H1.below;rwa[hp1]at this
 obtain⟨c0,c1',c2,c3⟩:=H1.p1.cells4;obtain⟨d0,d1,d2,d3,d4⟩:=H1.cells5;obtain⟨t1,ht1⟩:∃b,b=in6 nd.beacon 0 (aG n 0).beacon:=⟨_,rfl⟩
 have KB:=hd_ (sH w2 (v2:=v2) (v3:=v3) (v4:=v4) ((aP cC _ _).below h1 hWB2 lr_) ht1);rw[<-ht1]at HB0;have i0:(0:Int)<=(i:Int):=by omega
 have i5':(i:Int)<5:=by omega
 have HSZ:=hd_ (show w1.heap.size=w.heap.size+1 by rw[hw1];simp);clear ht1 H0 H1 hWB hWB2 h1 h5 hnd eN c0 c1' c2 c3 d0 d1 d2 d3 d4 a0 a1 a2 a3;rw[hw1]at b0 b1 b2 b3 b4;go_enter Tryz.func81,Tryz.ntmps81
 go_wp2_with fail
 rw[<-hw1, <-HSZ.out, <-hp1, <-hp2, <-hw2];clear hw1 hp1 hp2 hw2 b0 b1 b2 b3 b4;refine KB.out.mono ?_;rintro e w3 ⟨rfl,hb⟩;have H3:=hd_ (H.out.later hb);clear hb KB H;obtain⟨d0,d1,d2,d3,d4⟩:=H3.out.cells5;rcases t1 with _|_
 case false=>
  go_wp2;go_ret;exact⟨by rw[HB0.out];rfl,by rw[<-HP.out];exact H3.out.below⟩
 by_cases hi:i=0
 ·subst hi
  obtain⟨l0,hl0⟩:∃b,b=(nd.level==0):=⟨_,rfl⟩
  obtain⟨u0,hu0⟩:∃b,b=(nd.up== -1):=⟨_,rfl⟩
  obtain⟨b0,hb0⟩:∃b,b=decide (nd.beacon<=1000):=⟨_,rfl⟩
  have NB2:Hid (jO n ((0:Nat):Int)=(l0&&(u0&&b0))):=hd_ (by rw[HB0.out,if_pos (by rfl),hl0,hu0,hb0];rfl);have ga:=hl0.symm;have gb:=hu0.symm;have gc:=hb0.symm;clear hl0 hu0 hb0 HB0;refine aCd (a:=l0) (b:=u0) ?_ ?_ ?_
  all_goals
   first
    |(intro e1 e2;subst e1 e2)
    |(intro e1;subst e1)
   go_wp2;go_ret;exact⟨by rw[NB2.out];rfl,by rw[<-HP.out];exact H3.out.below⟩
 have hi':((i:Int)==0)=false:=by simpa using hi
 by_cases hl:nd.level=5
 ·have gl:(nd.level==5)=true:=by simpa using hl
  have NB2:Hid (jO n (i:Int)=(nd.up== -1)):=hd_ (by rw[HB0.out,if_neg (by simpa using hi),if_pos hl];rfl);clear hl;go_wp2;go_ret;exact⟨by rw[NB2.out];rfl,by rw[<-HP.out];exact H3.out.below⟩
 have gl:(nd.level==5)=false:=by simpa using hl
 obtain⟨q1,hq1⟩:∃b,b=decide (1<=nd.level):=⟨_,rfl⟩
 obtain⟨q2,hq2⟩:∃b,b=decide (nd.level<5):=⟨_,rfl⟩
 obtain⟨q3,hq3⟩:∃b,b=two (i:Int) nd.up:=⟨_,rfl⟩
 have NB2:Hid (jO n (i:Int)=(q1&&(q2&&q3))):=hd_ (by rw[HB0.out,if_neg (by simpa using hi),if_neg hl,hq1,hq2,hq3];rfl);have ga:=hq1.symm;have gb:=hq2.symm;have K3:=hd_ (aGq hq3);clear hq1 hq2 hq3 hl hi HB0;refine aCd (a:=q1) (b:=q2) ?_ ?_ ?last
 case last=>
  intro e1 e2;subst e1 e2
  go_wp2_with fail
  refine (K3.out _).mono ?_;rintro e' w' ⟨rfl,hw'⟩;rw[<-hw'];clear hw' w' K3;go_wp2;go_ret;exact⟨by rw[NB2.out];simp,by rw[<-HP.out];exact H3.out.below⟩
 all_goals
  first
   |(intro e1 e2;subst e1 e2)
   |(intro e1;subst e1)
  go_wp2;go_ret;exact⟨by rw[NB2.out];rfl,by rw[<-HP.out];exact H3.out.below⟩
theorem aE6 {a:Int} {b:Bool} (h:b=in6 a 0 63) (w:World):Calls Tryz.prog 106 #[.int .i64 a] w fun e w'=>e=.returned (.bool b)/\w=w':=by
 cases b with
 |true=>exact iZ a w (cL.1 h.symm).1 (by have:=(cL.1 h.symm).2;omega)
 |false=>exact mJ a w (by have:=of_decide_eq_false h.symm;omega)
end N
end Go.Proofs.YtcblbdpdbggkbaaGreat
set_option linter.unusedVariables false
set_option linter.unusedSectionVars false
set_option linter.unusedSimpArgs false
namespace Go.Proofs.YtcblbdpdbggkbaaGreat
open Go.RowKit Go.Sort
namespace N
def iH (rs:List (List Int)) (born:Int):Bool:=in6 born 1 20&&(decide ((rs.length:Int)=born+1)&&(decide ((rs.getD 0 []).length=0)&&rs.all kC))
theorem aDE (w:World) {xr:Option Addr} {cr:Nat} {rs:List (List Int)} {f:List Nat} (h:oL w [.slice xr rs.length cr] rs f) (born:Int):
  Calls Tryz.prog 80 #[.slice xr rs.length cr,.int .i64 born] w fun r w'=>r=.returned (.bool (iH rs born))/\w'=w:=by
 have hm:rs.length<=maxLen:=by obtain⟨_,_,_,q1,q2⟩:=aS h;omega
 unfold maxLen at hm;have H:=hd_ h;clear h;obtain⟨q1,hq1⟩:∃b,b=decide (born<1):=⟨_,rfl⟩
 obtain⟨q2,hq2⟩:∃b,b=decide (20<born):=⟨_,rfl⟩
 have g1:=hq1.symm;have g2:=hq2.symm;have P0:Hid (in6 born 1 20=(!q1&& !q2)):=hd_ (by
    rw[hq1,hq2]
    unfold in6
    by_cases x:born<1<;>by_cases y:20<born<;>simp[x,y]<;>omega)
 go_enter Tryz.func80,Tryz.ntmps80;rcases q1 with _|_
 case true=>
  have F:Hid (iH rs born=false):=hd_ (by unfold iH;rw[P0.out];rfl);clear hq1 hq2;go_wp2;go_ret;exact⟨by rw[F.out];rfl,rfl⟩
 rcases q2 with _|_
 case true=>
  have F:Hid (iH rs born=false):=hd_ (by unfold iH;rw[P0.out];rfl);clear hq1 hq2;go_wp2;go_ret;exact⟨by rw[F.out];rfl,rfl⟩
 have o1:=of_decide_eq_false hq1.symm;have o2:=of_decide_eq_false hq2.symm;have P1:Hid (iH rs born=(decide ((rs.length:Int)=born+1)&&(decide ((rs.getD 0 []).length=0)&&rs.all kC))):=hd_ (by unfold iH;rw[P0.out];rfl);have bw:IntKind.i64.wrap (born+1)=born+1:=IntWalk.i64_in _ (by omega);clear hq1 hq2
 by_cases hA:(rs.length:Int)=born+1
 case neg=>
  have F:Hid (iH rs born=false):=hd_ (by rw[P1.out,decide_eq_false hA];rfl);have gA:((rs.length:Int) != born+1)=true:=by simpa using hA
  clear hA;go_wp2;go_ret;exact⟨by rw[F.out];rfl,rfl⟩
 have gA:((rs.length:Int) != born+1)=false:=by simpa using hA
 have r0:0<rs.length:=by omega
 have r0':(0:Int)<(rs.length:Int):=by omega
 have HA:=hd_ hA;clear hA;obtain⟨l0,hl0⟩:∃l,rs[0]? =some l:=⟨_,List.getElem?_eq_getElem r0⟩
 obtain⟨g5,xl,cl,fl,rfl,_,_,_,_,_,b2⟩:=lE H.out hl0;have EL0:Hid (rs.getD 0 []=l0):=hd_ (by rw[List.getD_eq_getElem?_getD,hl0];rfl);clear hl0
 by_cases hB:l0.length=0
 case neg=>
  have F:Hid (iH rs born=false):=hd_ (by rw[P1.out,EL0.out,decide_eq_false hB,Bool.false_and,Bool.and_false]);have gN:0<l0.length:=by omega
  have gB:decide ((0:Int)<(l0.length:Int))=true:=by simpa using gN
  clear hB;go_wp2;go_ret;exact⟨by rw[F.out];rfl,rfl⟩
 have gN:¬ 0<l0.length:=by omega
 have gB:decide ((0:Int)<(l0.length:Int))=false:=by simpa using gN
 have FB:Hid (iH rs born=rs.all kC):=hd_ (by rw[P1.out,EL0.out,decide_eq_true HA.out,decide_eq_true hB];rfl);clear hB;go_wp2;clear b2 gA gB gN bw g1 g2 o1 o2 r0 r0';go_loopw [31] (fun z wr=>∃j:Nat,j<=rs.length/\z=.int .i64 j/\(∀(a:Nat) (x:List Int),a<j->rs[a]? =some x->kC x=true)/\wr=w) (fun z _=>rs.length - (intOf z).toNat)
 case atStart=>exact⟨0,Nat.zero_le _,rfl,fun a x h=>absurd h (Nat.not_lt_zero _),rfl⟩
 case round=>
  obtain⟨j,hj,rfl,hno,hwr⟩:=hrel;subst wr;have NO:=hd_ hno;clear hno
  by_cases hlt:j<rs.length
  ·obtain⟨lb,hlb⟩:∃l,rs[j]? =some l:=⟨_,List.getElem?_eq_getElem hlt⟩
   obtain⟨g6,xb,cb,fb,eg,_,_,rb,rbc,rbm,b3⟩:=lE H.out hlb;cases eg;have IB:Hid (cW w (.slice xb lb.length cb) lb):=hd_ (by
        obtain⟨v,ev,ho,_⟩:=hO rb
        cases ev
        exact ho)
   have HLB:=hd_ hlb;unfold maxLen at rbm;have j0:(0:Int)<=(j:Int):=by omega
   have j1:(j:Int)<(rs.length:Int):=by omega
   clear rb hlb
   by_cases hg:100<lb.length
   ·have F:Hid (iH rs born=false):=hd_ (by rw[FB.out];exact kN HLB.out (aDg hg))
    have gg:decide ((100:Int)<(lb.length:Int))=true:=decide_eq_true (by omega);clear hg;go_wp2;go_ret;exact⟨by rw[F.out];rfl,by first|rfl|trivial⟩
   have gg:decide ((100:Int)<(lb.length:Int))=false:=decide_eq_false (by omega);have HG:=hd_ hg;clear hg;go_wp2;clear gg b3;go_loopw [40] (fun z wr=>∃q:Nat,q<=lb.length/\z=.int .i64 q/\(∀a:Nat,a<q->in6 (lb.getD a 0) 0 63=true)/\wr=w) (fun z _=>lb.length - (intOf z).toNat)
   case atStart=>exact⟨0,Nat.zero_le _,rfl,fun a h=>absurd h (Nat.not_lt_zero _),rfl⟩
   case round=>
    obtain⟨q,hq,rfl,hin,hwr⟩:=hrel;subst wr;have IN:=hd_ hin;clear hin
    by_cases hql:q<lb.length
    ·obtain⟨b6,o6,rfl,c6⟩:=uO IB.out hql
     have HV:=hd_ (fun (h:in6 (lb.getD q 0) 0 63=false)=>aF2 hql h);have IN2:Hid (in6 (lb.getD q 0) 0 63=true->∀a:Nat,a<q+1->in6 (lb.getD a 0) 0 63=true):=hd_ fun h a ha=>by
      by_cases e:a<q
      ·exact IN.out a e
      ·obtain rfl:a=q:=by omega
       exact h
     obtain⟨v,hv⟩:∃v,v=lb.getD q 0:=⟨_,rfl⟩
     rw[<-hv]at c6 HV IN2;clear hv;obtain⟨t,ht⟩:∃t,t=in6 v 0 63:=⟨_,rfl⟩
     rw[<-ht]at HV IN2;have KI:=hd_ (aE6 ht);have q0:(0:Int)<=(q:Int):=by omega
     have q1:(q:Int)<(lb.length:Int):=by omega
     clear ht
     go_wp2_with fail
     refine (KI.out _).mono ?_;rintro r w' ⟨rfl,hw'⟩;rw[<-hw'];clear hw' w' KI;cases t with
     |false=>
      have F:Hid (iH rs born=false):=hd_ (by rw[FB.out];exact kN HLB.out (HV.out rfl));clear HV IN2;go_wp2;go_ret;exact⟨by rw[F.out];rfl,by first|rfl|trivial⟩
     |true=>
      have IN3:=hd_ (IN2.out rfl);clear HV IN2;go_wp2;go_roundw
      case rel=>exact⟨q+1,by omega,by go_num,IN3.out,by first|rfl|trivial⟩
      case measure=>simp[intOf];omega
    ·obtain rfl:q=lb.length:=by omega
     have RO:=hd_ (aIF IN.out HG.out);have NO2:Hid (∀(a:Nat) (x:List Int),a<j+1->rs[a]? =some x->kC x=true):=hd_ fun a x ha hx=>by
      by_cases e:a<j
      ·exact NO.out a x e hx
      ·obtain rfl:a=j:=by omega
       rw[HLB.out]at hx;cases hx;exact RO.out
     go_wp2;go_roundw
     case rel=>exact⟨j+1,by omega,by go_num,NO2.out,by first|rfl|trivial⟩
     case measure=>simp[intOf];omega
  ·have F:Hid (iH rs born=true):=hd_ (by rw[FB.out];exact uM.2 fun a x hx=>NO.out a x (by have:=(List.getElem?_eq_some_iff.1 hx).1;omega) hx)
   obtain rfl:j=rs.length:=by omega
   go_wp2;go_ret;exact⟨by rw[F.out];rfl,by first|rfl|trivial⟩
end N
end Go.Proofs.YtcblbdpdbggkbaaGreat
set_option linter.unusedVariables false
set_option linter.unusedSectionVars false
set_option linter.unusedSimpArgs false
namespace Go.Proofs.YtcblbdpdbggkbaaGreat
open Go.RowKit Go.Sort Go.ChangeMaps
namespace N
theorem aDD {n:Nt} {i b:Int} (h:(cS n i).all kC=true):kC (bZ n i b)=true:=by
 unfold bZ;rw[List.getD_eq_getElem?_getD];cases q:(cS n i)[b.toNat]? with
 |none=>rfl
 |some l=>exact List.all_eq_true.1 h l (List.mem_of_getElem? q)
theorem aJT {l:List Int} (h:kC l=true) (k:Nat):okS (upS (l.take k))=true:=by
 unfold kC at h;simp only[Bool.and_eq_true,List.all_eq_true,decide_eq_true_eq]at h;refine aKM (fun t ht=>cL.1 (h.1 t (List.mem_of_mem_take ht))) ?_;rw[List.length_take];omega
theorem aEG (a b:Sm):kS a b=kS b a:=by
 rw[Bool.eq_iff_iff,oI,oI];exact⟨Eq.symm,Eq.symm⟩
def mX (n:Nt):Prop:=∀i:Nat,i<5->(cS n (i:Int)).all kC=true
theorem aJm {n:Nt} (hf:mX n) (e:En):dX n e=(yY n e&&kS e.s (bQ n (e.node,e.born,e.num))):=by
 unfold dX yY bQ
 by_cases h:in6 e.node 0 4=true
 ·have hr:kC (bZ n e.node e.born)=true:=aDD (by
      obtain⟨a,b⟩:=cL.1 h
      have:=hf e.node.toNat (by omega)
      rwa[show ((e.node.toNat:Nat):Int)=e.node by omega]at this)
  rw[h,aJT hr,aEG e.s,Bool.true_and,Bool.true_and,Bool.true_and,Bool.and_assoc]
 ·rw[Bool.eq_false_iff.2 h];rfl
theorem aGJ {n:Nt} (hs:nK n) {e:En} (h:yY n e=true):∃i j q:Nat,i<5/\j<(cS n (i:Int)).length/\q<=(bZ n (i:Int) (j:Int)).length/\e.node=i/\e.born=j/\e.num=q:=by
 unfold yY at h;simp only[Bool.and_eq_true,cL]at h;obtain⟨⟨a0,a1⟩,⟨b0,b1⟩,c0,c1⟩:=h;have en:((e.node.toNat:Nat):Int)=e.node:=by omega
 have eb:((e.born.toNat:Nat):Int)=e.born:=by omega
 have eq:((e.num.toNat:Nat):Int)=e.num:=by omega
 refine⟨e.node.toNat,e.born.toNat,e.num.toNat,by omega,?_,?_,en.symm,eb.symm,eq.symm⟩
 ·have:=hs.rows e.node.toNat (by omega)
  rw[en]at this ⊢;omega
 ·rw[en,eb];omega
theorem aGW {n:Nt} {w0:World} {v1 v2 v3:Value} {x4:Option Addr} {c4:Nat} (hn:iL w0 v1 v2 v3 (.slice x4 5 c4) n) (hs:nK n) {e:En} (he:yY n e=true) {m:Nat} (w:World) (l:List Ch) (h:M w0.heap.size w0 w (jR m (bQ n)::l)):
  Calls Tryz.prog 200 #[.agg #[.slice x4 5 c4,.map (some m)],.agg #[.int .i64 e.node,.int .i64 e.born,.int .i64 e.num]] w fun r w'=>∃V s,r=.returned (.agg #[.slice V.xr V.nr V.cr,.slice V.xf V.nf V.cf,.slice V.xt V.nt V.ct,.int .i64 s.lo,.int .i64 s.al,.slice V.xk V.nk V.ck,.int .i64 s.ka])/\s=bQ n (e.node,e.born,e.num)/\M w0.heap.size w0 w' (pZ m (bQ n) V s::l):=by
 obtain⟨i,j,q,h1,h2,h3,e1,e2,e3⟩:=aGJ hs he;rw[e1,e2,e3];exact aFe hn hs h1 h2 q h3 rfl h
theorem rB {n:Nt} {w0:World} {x1 x4:Option Addr} {c1 c4:Nat} {v2 v3:Value} (hn:iL w0 (.slice x1 5 c1) v2 v3 (.slice x4 5 c4) n) (hs:nK n) (hf:mX n) (w:World) {m:Nat} {l:List Ch} (hm:M w0.heap.size w0 w (jR m (bQ n)::l)) {xk:Option Addr} {ck:Nat} {es:List En} {f:List Nat} (h:eF TY w0 [.slice xk es.length ck] es f):
  Calls Tryz.prog 156 #[.agg #[.slice x1 5 c1,v2,v3,.slice x4 5 c4],.slice xk es.length ck,.agg #[.slice x4 5 c4,.map (some m)]] w fun r w'=>r=.returned (.bool (dJ n es))/\M w0.heap.size w0 w' (jR m (bQ n)::l):=by
 obtain⟨_,_,e1,q1,q2⟩:=aS h;have hlen:es.length<=maxLen:=Nat.le_trans q1 q2;unfold maxLen at hlen;clear e1 q1 q2;have H1:=hd_ h;have HN:=hd_ hn;have HS:=hd_ hs;have HF:=hd_ hf;have h2:=(hm.alloc #[.slice x1 5 c1,v2,v3,.slice x4 5 c4] 30).alloc #[.slice x4 5 c4,.map (some m)] 120;simp only[World.size_alloc]at h2;obtain⟨p3,hp3⟩:∃p,p=w.heap.size:=⟨_,rfl⟩
 obtain⟨p5,hp5⟩:∃p,p=w.heap.size+1:=⟨_,rfl⟩
 obtain⟨W2,hW2⟩:∃W',W'=(w.alloc (.cells #[.slice x1 5 c1,v2,v3,.slice x4 5 c4] 30)).alloc (.cells #[.slice x4 5 c4,.map (some m)] 120):=⟨_,rfl⟩
 rw[<-hW2, <-hp5, <-hp3]at h2;have H:=hd_ h2;clear h hn hs hf hm h2;go_enter Tryz.func156,Tryz.ntmps156;go_wp2;rw[<-hW2, <-hp5, <-hp3];clear hW2 hp3 hp5
 go_loopw [7,12] (fun y z wr=>∃(j:Nat) (t:Int),j<=es.length/\z=.int .i64 (j:Int)/\y=.int .i64 t/\(j=0->t= -1)/\(0<j->∃d,es[j - 1]? =some d/\t=d.node)/\(∀(a:Nat) (x:En),a<j->es[a]? =some x->dX n x=true/\(0<a->∀d:En,es[a - 1]? =some d->d.node<x.node))/\M w0.heap.size w0 wr (bU p5 120 #[.slice x4 5 c4,.map (some m)]::bU p3 30 #[.slice x1 5 c1,v2,v3,.slice x4 5 c4]::jR m (bQ n)::l)) (fun _ z _=>es.length - (intOf z).toNat)
 case atStart=>exact⟨0, -1,Nat.zero_le _,rfl,rfl,fun _=>rfl,fun q=>absurd q (Nat.lt_irrefl _),fun a x h=>absurd h (Nat.not_lt_zero _),H.out⟩
 case round=>
  clear H;obtain⟨j,t,hj,rfl,rfl,t0,t1,hno,hm⟩:=hrel;have NO:=hd_ hno;have H:=hd_ hm;have T0:=hd_ t0;have T1:=hd_ t1;clear hno hm t0 t1
  by_cases hlt:j<es.length
  ·obtain⟨x,hx⟩:∃x,es[j]? =some x:=⟨_,List.getElem?_eq_getElem hlt⟩
   obtain⟨g,V,fe,rfl,_,_,sr,ca0,ca1,ca2,cas⟩:=iO H1.out hx;have RV:=hd_ (aCM sr);have hWB:=H.out.below;replace ca0:=cell_later hWB ca0;replace ca1:=cell_later hWB ca1;replace ca2:=cell_later hWB ca2;have ca3:=cell_later hWB (cas 0 _ rfl);have ca4:=cell_later hWB (cas 1 _ rfl);have ca5:=cell_later hWB (cas 2 _ rfl);have ca6:=cell_later hWB (cas 3 _ rfl)
   have ca7:=cell_later hWB (cas 4 _ rfl);have ca8:=cell_later hWB (cas 5 _ rfl);have ca9:=cell_later hWB (cas 6 _ rfl);have HX:=hd_ hx;clear cas hWB sr hx;have k0:(0:Int)<=(j:Int):=by omega
   have k1:(j:Int)<(es.length:Int):=by omega
   have h2:=H.out.alloc #[.int .i64 x.node,.int .i64 x.born,.int .i64 x.num,.slice V.xr V.nr V.cr,.slice V.xf V.nf V.cf,.slice V.xt V.nt V.ct,.int .i64 (x.s).lo,.int .i64 (x.s).al,.slice V.xk V.nk V.ck,.int .i64 (x.s).ka] 64;obtain⟨p9,hp9⟩:∃p,p=wr.heap.size:=⟨_,rfl⟩
   obtain⟨W,hW⟩:∃W',W'=wr.alloc (.cells #[.int .i64 x.node,.int .i64 x.born,.int .i64 x.num,.slice V.xr V.nr V.cr,.slice V.xf V.nf V.cf,.slice V.xt V.nt V.ct,.int .i64 (x.s).lo,.int .i64 (x.s).al,.slice V.xk V.nk V.ck,.int .i64 (x.s).ka] 64):=⟨_,rfl⟩
   rw[<-hW, <-hp9]at h2;have H2:=hd_ h2.drew;clear h2 H;go_upto_region 5 with fail
   rw[<-hW, <-hp9];clear hW hp9 ca0 ca1 ca2 ca3 ca4 ca5 ca6 ca7 ca8 ca9
   have hcells:∀(W':World) (c1':Ch) (l':List Ch),M w0.heap.size w0 W' (c1'::bU p9 64 #[.int .i64 x.node,.int .i64 x.born,.int .i64 x.num,.slice V.xr V.nr V.cr,.slice V.xf V.nf V.cf,.slice V.xt V.nt V.ct,.int .i64 (x.s).lo,.int .i64 (x.s).al,.slice V.xk V.nk V.ck,.int .i64 (x.s).ka]::bU p5 120 #[.slice x4 5 c4,.map (some m)]::bU p3 30 #[.slice x1 5 c1,v2,v3,.slice x4 5 c4]::l')->aJ W' (b4L p3 (.slice x1 5 c1) v2 v3 (.slice x4 5 c4)++([(⟨p5,0,none⟩,.slice x4 5 c4),(⟨p5,1,none⟩,.map (some m))]++bD p9 x.node x.born x.num V x.s)):=fun _ _ _ h=>by
    obtain⟨d0,d1,d2,d3,d4,d5,d6,d7,d8,d9⟩:=h.p1.cells10;obtain⟨t0,t1⟩:=h.p2.cells2;obtain⟨a0,a1,a2,a3⟩:=h.p3.cells4;exact⟨a0,a1,a2,a3,t0,t1,d0,d1,d2,d3,d4,d5,d6,d7,d8,d9,trivial⟩
   have HC:=hd_ hcells;clear hcells;have C0:=hd_ (HC.out _ _ _ H2.out.p3);have KW:=hd_ (aJP W.drew V x (HN.out.below H2.out.below lr_) HS.out);have EI:=hd_ (aJm HF.out x)
   by_cases hle:x.node<=t
   ·have F:Hid (dJ n es=false):=hd_ (by
          by_cases j0:j=0
          · have tt:=T0.out j0
            refine lY HX.out (.inl ?_)
            unfold dX in6
            rw[decide_eq_false (by omega)];rfl
          · obtain⟨d,hd,td⟩:=T1.out (by omega)
            exact lY HX.out (.inr ⟨by omega,d,hd,by omega⟩))
    have gl:decide (x.node<=t)=true:=decide_eq_true hle;clear hle KW EI
    refine aE 99 (.tk 0 7 (.alt 7 (.tk 8 7 (.alt 15 (.alt 16 (.alt 17 (.tk 18 2 .done) .nomore) .nomore) .nomore)) .nomore)) (fun w'=>aJ w' (b4L p3 (.slice x1 5 c1) v2 v3 (.slice x4 5 c4)++([(⟨p5,0,none⟩,.slice x4 5 c4),(⟨p5,1,none⟩,.map (some m))]++bD p9 x.node x.born x.num V x.s))) (by kernel_rfl) (by kernel_rfl) (fun _ _ _ _ _ h=>h) C0.out ?_
    repeat ((first|(refine aC (by rfl) (by rfl) ?_;apply Exists.intro;refine⟨fun w' hw'=>?_,?_⟩;(· ((try simp only[aJ,aF,b4L,b5L,b6L,b7L,bD,N.bR,and_true]at hw');go_simp;(try with_reducible rfl))))|(refine aB (by rfl) (by rfl) ?_));simp only[Act.put,List.getElem_toArray,List.getElem_cons_succ,pg3,pg4,pg5,pg6])
    refine aD (by rfl) (fun K' hK=>?_);go_simp;refine hK _ _ (.inr C0.out) ?_;clear hK K'
    try simp only[Act.put,List.getElem_toArray,List.getElem_cons_succ,pg3,pg4,pg5,pg6]
    repeat ((first|(refine aC (by rfl) (by rfl) ?_;apply Exists.intro;refine⟨fun w' hw'=>?_,?_⟩;(· ((try simp only[aJ,aF,b4L,b5L,b6L,b7L,bD,N.bR,and_true]at hw');go_simp;(try with_reducible rfl))))|(refine aB (by rfl) (by rfl) ?_));simp only[Act.put,List.getElem_toArray,List.getElem_cons_succ,pg3,pg4,pg5,pg6])
    refine aD (by rfl) (fun K' hK=>?_);go_simp;refine hK _ _ (.inr C0.out) ?_;clear hK K'
    try simp only[Act.put,List.getElem_toArray,List.getElem_cons_succ,pg3,pg4,pg5,pg6]
    refine aD (by rfl) (fun K' hK=>?_);go_simp;refine hK _ _ (.inr C0.out) ?_;clear hK K'
    try simp only[Act.put,List.getElem_toArray,List.getElem_cons_succ,pg3,pg4,pg5,pg6]
    refine aD (by rfl) (fun K' hK=>?_);go_simp;refine hK _ _ (.inr C0.out) ?_;clear hK K'
    try simp only[Act.put,List.getElem_toArray,List.getElem_cons_succ,pg3,pg4,pg5,pg6]
    repeat ((first|(refine aC (by rfl) (by rfl) ?_;apply Exists.intro;refine⟨fun w' hw'=>?_,?_⟩;(· ((try simp only[aJ,aF,b4L,b5L,b6L,b7L,bD,N.bR,and_true]at hw');go_simp;(try with_reducible rfl))))|(refine aB (by rfl) (by rfl) ?_));simp only[Act.put,List.getElem_toArray,List.getElem_cons_succ,pg3,pg4,pg5,pg6])
    refine aI ?_;go_wp2;go_ret;exact⟨by rw[F.out];rfl,H2.out.drop.drop.drop⟩
   have gl:decide (x.node<=t)=false:=decide_eq_false hle;have HLE:=hd_ hle;clear hle;obtain⟨q1,hq1⟩:∃q,q=yY n x:=⟨_,rfl⟩
   rw[<-hq1]at EI KW;cases q1 with
   |false=>
    have F:Hid (dJ n es=false):=hd_ (lY HX.out (.inl (by rw[EI.out];rfl)));clear hq1 EI
    refine aE 99 (.tk 0 7 (.alt 7 (.tk 8 7 (.alt 15 (.alt 16 (.alt 17 (.tk 18 2 .done) .nomore) .nomore) .nomore)) .nomore)) (fun w'=>aJ w' (b4L p3 (.slice x1 5 c1) v2 v3 (.slice x4 5 c4)++([(⟨p5,0,none⟩,.slice x4 5 c4),(⟨p5,1,none⟩,.map (some m))]++bD p9 x.node x.born x.num V x.s))) (by kernel_rfl) (by kernel_rfl) (fun _ _ _ _ _ h=>h) C0.out ?_
    repeat ((first|(refine aC (by rfl) (by rfl) ?_;apply Exists.intro;refine⟨fun w' hw'=>?_,?_⟩;(· ((try simp only[aJ,aF,b4L,b5L,b6L,b7L,bD,N.bR,and_true]at hw');go_simp;(try with_reducible rfl))))|(refine aB (by rfl) (by rfl) ?_));simp only[Act.put,List.getElem_toArray,List.getElem_cons_succ,pg3,pg4,pg5,pg6])
    refine aD (by rfl) (fun K' hK=>?_);go_simp;refine KW.out.mono ?_;rintro e' w1 ⟨rfl,hb⟩;have C1:=hd_ (C0.out.below hb);have H3:=hd_ (H2.out.later hb);clear hb KW H2 C0;refine hK _ _ (.inr C1.out) ?_;clear hK K'
    try simp only[Act.put,List.getElem_toArray,List.getElem_cons_succ,pg3,pg4,pg5,pg6]
    repeat ((first|(refine aC (by rfl) (by rfl) ?_;apply Exists.intro;refine⟨fun w' hw'=>?_,?_⟩;(· ((try simp only[aJ,aF,b4L,b5L,b6L,b7L,bD,N.bR,and_true]at hw');go_simp;(try with_reducible rfl))))|(refine aB (by rfl) (by rfl) ?_));simp only[Act.put,List.getElem_toArray,List.getElem_cons_succ,pg3,pg4,pg5,pg6])
    refine aD (by rfl) (fun K' hK=>?_);go_simp;refine hK _ _ (.inr C1.out) ?_;clear hK K'
    try simp only[Act.put,List.getElem_toArray,List.getElem_cons_succ,pg3,pg4,pg5,pg6]
    refine aD (by rfl) (fun K' hK=>?_);go_simp;refine hK _ _ (.inr C1.out) ?_;clear hK K'
    try simp only[Act.put,List.getElem_toArray,List.getElem_cons_succ,pg3,pg4,pg5,pg6]
    refine aD (by rfl) (fun K' hK=>?_);go_simp;refine hK _ _ (.inr C1.out) ?_;clear hK K'
    try simp only[Act.put,List.getElem_toArray,List.getElem_cons_succ,pg3,pg4,pg5,pg6]
    repeat ((first|(refine aC (by rfl) (by rfl) ?_;apply Exists.intro;refine⟨fun w' hw'=>?_,?_⟩;(· ((try simp only[aJ,aF,b4L,b5L,b6L,b7L,bD,N.bR,and_true]at hw');go_simp;(try with_reducible rfl))))|(refine aB (by rfl) (by rfl) ?_));simp only[Act.put,List.getElem_toArray,List.getElem_cons_succ,pg3,pg4,pg5,pg6])
    refine aI ?_;go_wp2;go_ret;exact⟨by rw[F.out];rfl,H3.out.drop.drop.drop⟩
   |true=>
    have KS:=hd_ (fun (w':World) (l':List Ch) (h:M w0.heap.size w0 w' (jR m (bQ n)::l'))=>aGW HN.out HS.out hq1.symm w' l' h);obtain⟨q2,hq2⟩:∃q,q=kS x.s (bQ n (x.node,x.born,x.num)):=⟨_,rfl⟩
    rw[<-hq2]at EI;have Q2:=hd_ hq2;clear hq1 hq2;cases q2 with
    |false=>
     have F:Hid (dJ n es=false):=hd_ (lY HX.out (.inl (by rw[EI.out];rfl)));clear EI
     refine aE 99 (.tk 0 7 (.alt 7 (.tk 8 7 (.alt 15 (.alt 16 (.alt 17 (.tk 18 2 .done) .nomore) .nomore) .nomore)) .nomore)) (fun w'=>aJ w' (b4L p3 (.slice x1 5 c1) v2 v3 (.slice x4 5 c4)++([(⟨p5,0,none⟩,.slice x4 5 c4),(⟨p5,1,none⟩,.map (some m))]++bD p9 x.node x.born x.num V x.s))) (by kernel_rfl) (by kernel_rfl) (fun _ _ _ _ _ h=>h) C0.out ?_
     repeat ((first|(refine aC (by rfl) (by rfl) ?_;apply Exists.intro;refine⟨fun w' hw'=>?_,?_⟩;(· ((try simp only[aJ,aF,b4L,b5L,b6L,b7L,bD,N.bR,and_true]at hw');go_simp;(try with_reducible rfl))))|(refine aB (by rfl) (by rfl) ?_));simp only[Act.put,List.getElem_toArray,List.getElem_cons_succ,pg3,pg4,pg5,pg6])
     refine aD (by rfl) (fun K' hK=>?_);go_simp;refine KW.out.mono ?_;rintro e' w1 ⟨rfl,hb⟩;have C1:=hd_ (C0.out.below hb);have H3:=hd_ (H2.out.later hb);clear hb KW H2 C0;refine hK _ _ (.inr C1.out) ?_;clear hK K'
     try simp only[Act.put,List.getElem_toArray,List.getElem_cons_succ,pg3,pg4,pg5,pg6]
     repeat ((first|(refine aC (by rfl) (by rfl) ?_;apply Exists.intro;refine⟨fun w' hw'=>?_,?_⟩;(· ((try simp only[aJ,aF,b4L,b5L,b6L,b7L,bD,N.bR,and_true]at hw');go_simp;(try with_reducible rfl))))|(refine aB (by rfl) (by rfl) ?_));simp only[Act.put,List.getElem_toArray,List.getElem_cons_succ,pg3,pg4,pg5,pg6])
     refine aD (by rfl) (fun K' hK=>?_);go_simp;refine (sK w1 V x).mono ?_;rintro e' w2 ⟨rfl,hb⟩;have C2:=hd_ (C1.out.below hb);have H4:=hd_ (H3.out.later hb);clear hb H3 C1;refine hK _ _ (.inr C2.out) ?_;clear hK K'
     try simp only[Act.put,List.getElem_toArray,List.getElem_cons_succ,pg3,pg4,pg5,pg6]
     refine aD (by rfl) (fun K' hK=>?_);go_simp;refine (KS.out _ _ H4.out.p3).mono ?_;rintro e' w3 ⟨V3,s3,rfl,es3,hm3⟩;have H5:=hd_ hm3;have E3:=hd_ es3;clear hm3 es3 KS C2 H4;refine hK _ _ (.inr (HC.out _ _ _ H5.out)) ?_;clear hK K'
     try simp only[Act.put,List.getElem_toArray,List.getElem_cons_succ,pg3,pg4,pg5,pg6]
     refine aD (by rfl) (fun K' hK=>?_);go_simp;refine (uK w3 (RV.out.below H5.out.below lr_) (aCH H5.out)).mono ?_;rintro e' w4 ⟨rfl,hb⟩;rw[E3.out];rw[<-Q2.out];have H6:=hd_ (qL (H5.out.later hb)).p3.p3.p3;have C6:=hd_ (aJ.below (HC.out _ _ _ H5.out) hb);clear hb H5;refine hK _ _ (.inr C6.out) ?_;clear hK K'
     try simp only[Act.put,List.getElem_toArray,List.getElem_cons_succ,pg3,pg4,pg5,pg6]
     repeat ((first|(refine aC (by rfl) (by rfl) ?_;apply Exists.intro;refine⟨fun w' hw'=>?_,?_⟩;(· ((try simp only[aJ,aF,b4L,b5L,b6L,b7L,bD,N.bR,and_true]at hw');go_simp;(try with_reducible rfl))))|(refine aB (by rfl) (by rfl) ?_));simp only[Act.put,List.getElem_toArray,List.getElem_cons_succ,pg3,pg4,pg5,pg6])
     refine aI ?_;go_wp2;go_ret;exact⟨by rw[F.out];rfl,H6.out.drop.drop.drop⟩
    |true=>
     have NO2:Hid (∀(a:Nat) (y:En),a<j+1->es[a]? =some y->dX n y=true/\(0<a->∀d:En,es[a - 1]? =some d->d.node<y.node)):=hd_ fun a y ha hy=>by
      by_cases e:a<j
      ·exact NO.out a y e hy
      ·obtain rfl:a=j:=by omega
       rw[HX.out]at hy;cases hy;refine⟨by rw[EI.out];rfl,fun a0 d hd=>?_⟩;obtain⟨d',hd',td⟩:=T1.out a0;rw[hd]at hd';cases hd';have:=HLE.out;omega
     have TX:Hid (0<j+1->∃d,es[j+1 - 1]? =some d/\x.node=d.node):=hd_ fun _=>⟨x,by rw[Nat.add_sub_cancel];exact HX.out,rfl⟩
     clear EI;refine aE 99 (.tk 0 7 (.alt 7 (.tk 8 7 (.alt 15 (.alt 16 (.alt 17 (.tk 18 2 .done) .nomore) .nomore) .nomore)) .nomore)) (fun w'=>aJ w' (b4L p3 (.slice x1 5 c1) v2 v3 (.slice x4 5 c4)++([(⟨p5,0,none⟩,.slice x4 5 c4),(⟨p5,1,none⟩,.map (some m))]++bD p9 x.node x.born x.num V x.s))) (by kernel_rfl) (by kernel_rfl) (fun _ _ _ _ _ h=>h) C0.out ?_
     repeat ((first|(refine aC (by rfl) (by rfl) ?_;apply Exists.intro;refine⟨fun w' hw'=>?_,?_⟩;(· ((try simp only[aJ,aF,b4L,b5L,b6L,b7L,bD,N.bR,and_true]at hw');go_simp;(try with_reducible rfl))))|(refine aB (by rfl) (by rfl) ?_));simp only[Act.put,List.getElem_toArray,List.getElem_cons_succ,pg3,pg4,pg5,pg6])
     refine aD (by rfl) (fun K' hK=>?_);go_simp;refine KW.out.mono ?_;rintro e' w1 ⟨rfl,hb⟩;have C1:=hd_ (C0.out.below hb);have H3:=hd_ (H2.out.later hb);clear hb KW H2 C0;refine hK _ _ (.inr C1.out) ?_;clear hK K'
     try simp only[Act.put,List.getElem_toArray,List.getElem_cons_succ,pg3,pg4,pg5,pg6]
     repeat ((first|(refine aC (by rfl) (by rfl) ?_;apply Exists.intro;refine⟨fun w' hw'=>?_,?_⟩;(· ((try simp only[aJ,aF,b4L,b5L,b6L,b7L,bD,N.bR,and_true]at hw');go_simp;(try with_reducible rfl))))|(refine aB (by rfl) (by rfl) ?_));simp only[Act.put,List.getElem_toArray,List.getElem_cons_succ,pg3,pg4,pg5,pg6])
     refine aD (by rfl) (fun K' hK=>?_);go_simp;refine (sK w1 V x).mono ?_;rintro e' w2 ⟨rfl,hb⟩;have C2:=hd_ (C1.out.below hb);have H4:=hd_ (H3.out.later hb);clear hb H3 C1;refine hK _ _ (.inr C2.out) ?_;clear hK K'
     try simp only[Act.put,List.getElem_toArray,List.getElem_cons_succ,pg3,pg4,pg5,pg6]
     refine aD (by rfl) (fun K' hK=>?_);go_simp;refine (KS.out _ _ H4.out.p3).mono ?_;rintro e' w3 ⟨V3,s3,rfl,es3,hm3⟩;have H5:=hd_ hm3;have E3:=hd_ es3;clear hm3 es3 KS C2 H4;refine hK _ _ (.inr (HC.out _ _ _ H5.out)) ?_;clear hK K'
     try simp only[Act.put,List.getElem_toArray,List.getElem_cons_succ,pg3,pg4,pg5,pg6]
     refine aD (by rfl) (fun K' hK=>?_);go_simp;refine (uK w3 (RV.out.below H5.out.below lr_) (aCH H5.out)).mono ?_;rintro e' w4 ⟨rfl,hb⟩;rw[E3.out];rw[<-Q2.out];have H6:=hd_ (qL (H5.out.later hb)).p3.p3.p3;have C6:=hd_ (aJ.below (HC.out _ _ _ H5.out) hb);clear hb H5;refine hK _ _ (.inr C6.out) ?_;clear hK K'
     try simp only[Act.put,List.getElem_toArray,List.getElem_cons_succ,pg3,pg4,pg5,pg6]
     repeat ((first|(refine aC (by rfl) (by rfl) ?_;apply Exists.intro;refine⟨fun w' hw'=>?_,?_⟩;(· ((try simp only[aJ,aF,b4L,b5L,b6L,b7L,bD,N.bR,and_true]at hw');go_simp;(try with_reducible rfl))))|(refine aB (by rfl) (by rfl) ?_));simp only[Act.put,List.getElem_toArray,List.getElem_cons_succ,pg3,pg4,pg5,pg6])
     refine aI ?_;obtain⟨d0,d1,d2,d3,d4,d5,d6,d7,d8,d9⟩:=H6.out.cells10;go_wp2;go_roundw
     case rel=>exact⟨j+1,x.node,by omega,by go_num,rfl,fun q=>absurd q (by omega),TX.out,NO2.out,H6.out.drop⟩
     case measure=>simp[intOf];omega
  ·obtain rfl:j=es.length:=by omega
   have F:Hid (dJ n es=true):=hd_ (vR.2 fun a x hx=>NO.out a x (List.getElem?_eq_some_iff.1 hx).1 hx);go_wp2;go_ret;exact⟨by rw[F.out];rfl,H.out.drop.drop⟩
end N
end Go.Proofs.YtcblbdpdbggkbaaGreat
set_option linter.unusedVariables false
set_option linter.unusedSectionVars false
set_option linter.unusedSimpArgs false
namespace Go.Proofs.YtcblbdpdbggkbaaGreat
open Go.RowKit Go.Sort Go.ChangeMaps
namespace N
theorem aBZ {n:Nt} {w0:World} {x1 x4:Option Addr} {c1 c4:Nat} {v2 v3:Value} (hn:iL w0 (.slice x1 5 c1) v2 v3 (.slice x4 5 c4) n) (hs:nK n) (hf:mX n) (hb:∀i:Nat,i<5->1<=(aG n (i:Int)).born) (w:World) {m:Nat} {l:List Ch} (hm:M w0.heap.size w0 w (jR m (bQ n)::l)) {i:Nat} (i5:i<5):
  Calls Tryz.prog 82 #[.agg #[.slice x1 5 c1,v2,v3,.slice x4 5 c4],.int .i64 (i:Int),.agg #[.slice x4 5 c4,.map (some m)]] w fun r w'=>r=.returned (.bool (dJ n (aG n (i:Int)).known&&tJ n (i:Int)))/\M w0.heap.size w0 w' (jR m (bQ n)::l):=by
 obtain⟨f1,n1⟩:=hn.nodes;obtain⟨f4,n4⟩:=hn.past;obtain⟨nd,hnd⟩:∃nd,n.nodes[i]? =some nd:=⟨_,List.getElem?_eq_getElem (by rw[hs.nodes];exact i5)⟩
 obtain⟨rs,hrs⟩:∃rs,n.past[i]? =some rs:=⟨_,List.getElem?_eq_getElem (by rw[hs.past];exact i5)⟩
 have eN:aG n (i:Int)=nd:=by unfold aG;rw[List.getD_eq_getElem?_getD,Int.toNat_natCast,hnd];rfl
 have eR:cS n (i:Int)=rs:=by unfold cS;rw[List.getD_eq_getElem?_getD,Int.toNat_natCast,hrs];rfl
 have eL:=hs.rows i i5;have eB:=hb i i5;rw[eN]at eL eB;rw[eR]at eL;obtain⟨g1,xk,ck,fk,rfl,_,_,rk,_,_,b0,b1,b2,b3,b4⟩:=fQ n1 hnd;obtain⟨g4,xr,cr,fr,rfl,_,_,rr,_,_,y0⟩:=lP n4 hrs;obtain⟨born,known,beacon,level,up⟩:=nd;simp only at eL eB b0 b1 b2 b3 b4 rk;obtain⟨j,rfl⟩:∃j:Nat,born=j:=⟨born.toNat,by omega⟩
 have jr:j<rs.length:=by omega
 obtain⟨lp,hlp⟩:∃lp,rs[j]? =some lp:=⟨_,List.getElem?_eq_getElem jr⟩
 have EP:Hid (bZ n (i:Int) (j:Int)=lp):=hd_ (by unfold bZ;rw[eR,List.getD_eq_getElem?_getD,Int.toNat_natCast,hlp];rfl);obtain⟨g5,xl,cl,fl,rfl,_,_,_,lc,lm,y1⟩:=lE rr hlp;have OB:Hid (tJ n (i:Int)=match kX known (i:Int)with|some e=>decide (e.born=(j:Int))&&decide (e.num=(lp.length:Int))|none=>false):=hd_ (by unfold tJ;rw[eN];simp only[EP.out];cases kX known (i:Int)<;>rfl)
 rw[eN];have BJ:=hd_ eB;have Y0:=hd_ y0;have Y1:=hd_ y1;have RK:=hd_ rk;have HN:=hd_ hn;have HS:=hd_ hs;have HF:=hd_ hf;have i0:(0:Int)<=(i:Int):=by omega
 have i5':(i:Int)<5:=by omega
 have j0:(0:Int)<=(j:Int):=by omega
 have j1:(j:Int)<(rs.length:Int):=by omega
 have h1:=(hm.alloc #[.slice (some ⟨g1,0,none⟩) 5 c1,v2,v3,.slice (some ⟨g4,0,none⟩) 5 c4] 30).alloc #[.slice (some ⟨g4,0,none⟩) 5 c4,.map (some m)] 120;simp only[World.size_alloc]at h1;obtain⟨p3,hp3⟩:∃p,p=w.heap.size:=⟨_,rfl⟩
 obtain⟨p5,hp5⟩:∃p,p=w.heap.size+1:=⟨_,rfl⟩
 obtain⟨W1,hW1⟩:∃W',W'=(w.alloc (.cells #[.slice (some ⟨g1,0,none⟩) 5 c1,v2,v3,.slice (some ⟨g4,0,none⟩) 5 c4] 30)).alloc (.cells #[.slice (some ⟨g4,0,none⟩) 5 c4,.map (some m)] 120):=⟨_,rfl⟩
 rw[<-hW1, <-hp5, <-hp3]at h1;have H1:=hd_ h1;replace b0:=cell_later h1.below b0;replace b1:=cell_later h1.below b1;replace b2:=cell_later h1.below b2;replace b3:=cell_later h1.below b3;replace b4:=cell_later h1.below b4;obtain⟨a0,a1,a2,a3⟩:=h1.p1.cells4;have h2:=h1.alloc #[.int .i64 (j:Int),.slice xk known.length ck,.int .i64 beacon,.int .i64 level,.int .i64 up] 55
 obtain⟨p7,hp7⟩:∃p,p=W1.heap.size:=⟨_,rfl⟩
 obtain⟨W2,hW2⟩:∃W',W'=W1.alloc (.cells #[.int .i64 (j:Int),.slice xk known.length ck,.int .i64 beacon,.int .i64 level,.int .i64 up] 55):=⟨_,rfl⟩
 rw[<-hW2, <-hp7]at h2;have H2:=hd_ h2;have KO:=hd_ (aBY W2 ((aP aU _ _).below RK.out h2.below lr_) (i:Int));clear h1 h2 hn hs hf hb hm n1 n4 hnd hrs eN eR eL eB rk rr hlp lc lm y0 y1 jr H1;go_enter Tryz.func82,Tryz.ntmps82;go_upto_region 1 with fail
 rw[<-hW1, <-hp5, <-hp3];clear hW1 hp5 hp3;go_upto_region 2 with fail
 rw[<-hW2, <-hp7];clear hW2 hp7 a0 a1 a2 a3 b0 b1 b2 b3 b4;obtain⟨d0,d1,d2,d3,d4⟩:=H2.out.cells5
 go_wp2_with fail
 refine KO.out.mono ?_;rintro r w3 ⟨⟨u,rfl,hu⟩,hb⟩;have H3:=hd_ (H2.out.later hb);clear hb KO H2 d0 d1 d2 d3 d4
 obtain⟨ua,ub,uc,V,s,q1,q2,rfl,hq1,hq2,ho⟩:∃(ua ub uc:Int) (V:SV) (s:Sm) (q1 q2:Bool),u=.agg #[.int .i64 ua,.int .i64 ub,.int .i64 uc,.slice V.xr V.nr V.cr,.slice V.xf V.nf V.cf,.slice V.xt V.nt V.ct,.int .i64 s.lo,.int .i64 s.al,.slice V.xk V.nk V.ck,.int .i64 s.ka]/\(ub==(j:Int))=q1/\(uc==(lp.length:Int))=q2/\tJ n (i:Int)=(q1&&q2):=by
  rcases hu with ⟨e,V,h1,h2,h3⟩|⟨h1,h3⟩
  ·refine⟨e.node,e.born,e.num,V,e.s,_,_,h3,rfl,rfl,?_⟩
   rw[OB.out,h1]
   rfl
  ·refine⟨0,0,0,SV.none,nT,false,_,h3,?_,rfl,?_⟩
   ·have:=BJ.out
    simp;omega
   ·rw[OB.out,h1]
    rfl
 have HO:=hd_ ho;clear hu ho OB;have h4:=H3.out.alloc #[.int .i64 ua,.int .i64 ub,.int .i64 uc,.slice V.xr V.nr V.cr,.slice V.xf V.nf V.cf,.slice V.xt V.nt V.ct,.int .i64 s.lo,.int .i64 s.al,.slice V.xk V.nk V.ck,.int .i64 s.ka] 64;obtain⟨p8,hp8⟩:∃p,p=w3.heap.size:=⟨_,rfl⟩
 obtain⟨W4,hW4⟩:∃W',W'=w3.alloc (.cells #[.int .i64 ua,.int .i64 ub,.int .i64 uc,.slice V.xr V.nr V.cr,.slice V.xf V.nf V.cf,.slice V.xt V.nt V.ct,.int .i64 s.lo,.int .i64 s.al,.slice V.xk V.nk V.ck,.int .i64 s.ka] 64):=⟨_,rfl⟩
 rw[<-hW4, <-hp8]at h4;have H4:=hd_ h4.drew;clear h4 H3;go_upto_region 3 with fail
 rw[<-hW4, <-hp8];clear hW4 hp8
 have hcells:∀(W':World) (c1':Ch) (l':List Ch),M w0.heap.size w0 W' (c1'::bU p8 64 #[.int .i64 ua,.int .i64 ub,.int .i64 uc,.slice V.xr V.nr V.cr,.slice V.xf V.nf V.cf,.slice V.xt V.nt V.ct,.int .i64 s.lo,.int .i64 s.al,.slice V.xk V.nk V.ck,.int .i64 s.ka]::bU p7 55 #[.int .i64 (j:Int),.slice xk known.length ck,.int .i64 beacon,.int .i64 level,.int .i64 up]::bU p5 120 #[.slice (some ⟨g4,0,none⟩) 5 c4,.map (some m)]::bU p3 30 #[.slice (some ⟨g1,0,none⟩) 5 c1,v2,v3,.slice (some ⟨g4,0,none⟩) 5 c4]::l')->aJ W' (b4L p3 (.slice (some ⟨g1,0,none⟩) 5 c1) v2 v3 (.slice (some ⟨g4,0,none⟩) 5 c4)++([(⟨p5,0,none⟩,.slice (some ⟨g4,0,none⟩) 5 c4),(⟨p5,1,none⟩,.map (some m))]++(b5L p7 (.int .i64 (j:Int)) (.slice xk known.length ck) (.int .i64 beacon) (.int .i64 level) (.int .i64 up)++(bD p8 ua ub uc V s++[(⟨g4,i,none⟩,.slice (some ⟨g5,0,none⟩) rs.length cr),(⟨g5,j,none⟩,.slice xl lp.length cl)])))):=fun _ _ _ h=>by
  obtain⟨d0,d1,d2,d3,d4,d5,d6,d7,d8,d9⟩:=h.p1.cells10;obtain⟨e0,e1,e2,e3,e4⟩:=h.p2.cells5;obtain⟨t0,t1⟩:=h.p3.cells2;obtain⟨a0,a1,a2,a3⟩:=h.p4.cells4;exact⟨a0,a1,a2,a3,t0,t1,e0,e1,e2,e3,e4,d0,d1,d2,d3,d4,d5,d6,d7,d8,d9,cell_later h.below Y0.out,cell_later h.below Y1.out,trivial⟩
 have HC:=hd_ hcells;clear hcells;obtain⟨q0,hq0⟩:∃q,q=dJ n known:=⟨_,rfl⟩
 have KE:=hd_ (rB HN.out HS.out HF.out W4.drew H4.out.p4 RK.out);rw[<-hq0]at KE;have RES:Hid ((dJ n known&&tJ n (i:Int))=(q0&&(q1&&q2))):=hd_ (by rw[<-hq0,HO.out]);clear hq0 HO;have C0:=hd_ (HC.out _ _ _ H4.out.p4);refine aI6 (a:=q0) (b:=q1) (c:=q2) ?_ ?_ ?_ ?_
 all_goals
  first
   |(intro e0 e1 e2;subst e0 e1 e2)
   |(intro e0 e1;subst e0 e1)
   |(intro e0;subst e0)
  refine aE 99 (.tk 0 4 (.alt 4 (.tk 5 22 (.alt 27 .done .nomore)) .nomore)) (fun w'=>aJ w' (b4L p3 (.slice (some ⟨g1,0,none⟩) 5 c1) v2 v3 (.slice (some ⟨g4,0,none⟩) 5 c4)++([(⟨p5,0,none⟩,.slice (some ⟨g4,0,none⟩) 5 c4),(⟨p5,1,none⟩,.map (some m))]++(b5L p7 (.int .i64 (j:Int)) (.slice xk known.length ck) (.int .i64 beacon) (.int .i64 level) (.int .i64 up)++(bD p8 ua ub uc V s++[(⟨g4,i,none⟩,.slice (some ⟨g5,0,none⟩) rs.length cr),(⟨g5,j,none⟩,.slice xl lp.length cl)]))))) (by kernel_rfl) (by kernel_rfl) (fun _ _ _ _ _ h=>h) C0.out ?_
  repeat ((first|(refine aC (by rfl) (by rfl) ?_;apply Exists.intro;refine⟨fun w' hw'=>?_,?_⟩;(· ((try simp only[aJ,aF,b4L,b5L,b6L,b7L,bD,N.bR,and_true]at hw');go_simp;(try with_reducible rfl))))|(refine aB (by rfl) (by rfl) ?_));simp only[Act.put,List.getElem_toArray,List.getElem_cons_succ,pg3,pg4,pg5,pg6])
  refine aD (by rfl) (fun K' hK=>?_);go_simp;refine KE.out.mono ?_;rintro e' w5 ⟨rfl,hm5⟩;have H5:=hd_ hm5;clear hm5;refine hK _ _ (.inr (HC.out _ _ _ H5.out)) ?_;clear hK K'
  try simp only[Act.put,List.getElem_toArray,List.getElem_cons_succ,pg3,pg4,pg5,pg6]
  repeat ((first|(refine aC (by rfl) (by rfl) ?_;apply Exists.intro;refine⟨fun w' hw'=>?_,?_⟩;(· ((try simp only[aJ,aF,b4L,b5L,b6L,b7L,bD,N.bR,and_true]at hw');go_simp;(try with_reducible rfl))))|(refine aB (by rfl) (by rfl) ?_));simp only[Act.put,List.getElem_toArray,List.getElem_cons_succ,pg3,pg4,pg5,pg6])
  refine aD (by rfl) (fun K' hK=>?_);go_simp;refine hK _ _ (.inr (HC.out _ _ _ H5.out)) ?_;clear hK K';refine aI ?_;go_wp2;go_ret;exact⟨by rw[RES.out];first|rfl|simp,H5.out.p1.drop.p1.drop.p1.drop.p1.drop⟩
end N
end Go.Proofs.YtcblbdpdbggkbaaGreat
set_option linter.unusedVariables false
set_option linter.unusedSectionVars false
set_option linter.unusedSimpArgs false
namespace Go.Proofs.YtcblbdpdbggkbaaGreat
open Go.RowKit Go.Sort Go.ChangeMaps
namespace N
theorem aIU (x:Wd):aBm x=two x.src x.dst:=by
 unfold aBm two;rw[Bool.and_assoc]
theorem aC4 {n:Nt} {w0:World} {x1 x4:Option Addr} {c1 c4:Nat} {v2 v3:Value} (hn:iL w0 (.slice x1 5 c1) v2 v3 (.slice x4 5 c4) n) (hs:nK n) (hf:mX n) (w:World) {m:Nat} {l:List Ch} (hm:M w0.heap.size w0 w (jR m (bQ n)::l)) (x:Wd) {xk:Option Addr} {ck:Nat} {f:List Nat} (h:eF TY w0 [.slice xk x.known.length ck] x.known f):
  Calls Tryz.prog 83 #[.agg #[.slice x1 5 c1,v2,v3,.slice x4 5 c4],.agg #[.int .i64 x.kind,.int .i64 x.src,.int .i64 x.dst,.int .i64 x.beacon,.int .i64 x.level,.slice xk x.known.length ck],.agg #[.slice x4 5 c4,.map (some m)]] w fun r w'=>r=.returned (.bool (gX n x))/\M w0.heap.size w0 w' (jR m (bQ n)::l):=by
 obtain⟨f1,n1⟩:=hn.nodes;have h1:=((hm.alloc #[.slice x1 5 c1,v2,v3,.slice x4 5 c4] 30).alloc #[.int .i64 x.kind,.int .i64 x.src,.int .i64 x.dst,.int .i64 x.beacon,.int .i64 x.level,.slice xk x.known.length ck] 123).alloc #[.slice x4 5 c4,.map (some m)] 120;simp only[World.size_alloc]at h1;obtain⟨p3,hp3⟩:∃p,p=w.heap.size:=⟨_,rfl⟩
 obtain⟨p4,hp4⟩:∃p,p=w.heap.size+1:=⟨_,rfl⟩
 obtain⟨p5,hp5⟩:∃p,p=w.heap.size+1+1:=⟨_,rfl⟩
 obtain⟨W1,hW1⟩:∃W',W'=((w.alloc (.cells #[.slice x1 5 c1,v2,v3,.slice x4 5 c4] 30)).alloc (.cells #[.int .i64 x.kind,.int .i64 x.src,.int .i64 x.dst,.int .i64 x.beacon,.int .i64 x.level,.slice xk x.known.length ck] 123)).alloc (.cells #[.slice x4 5 c4,.map (some m)] 120):=⟨_,rfl⟩
 rw[<-hW1, <-hp5, <-hp4, <-hp3]at h1;have H1:=hd_ h1;obtain⟨a0,a1,a2,a3⟩:=h1.p2.cells4;obtain⟨d0,d1,d2,d3,d4,d5⟩:=h1.p1.cells6;obtain⟨t0,t1⟩:=h1.cells2
 have HF:Hid (∀b,b=two x.src x.dst->gX n x=(b&&(if x.kind=1 then (in6 x.beacon 0 (aG n 0).beacon&&(in6 x.level 0 4&&decide (x.known.length=0)))else if x.kind=2 then (decide (x.beacon=0)&&(decide (x.level=0)&&dJ n x.known))else false))):=hd_ fun b hb=>by
  unfold gX;rw[aIU,hb]
  by_cases k1:x.kind=1
  ·simp[k1]
  ·by_cases k2:x.kind=2<;>simp[k1,k2]
 obtain⟨b,hb⟩:∃b,b=two x.src x.dst:=⟨_,rfl⟩
 have WF:=hd_ (HF.out b hb);have KT:=hd_ (aBy W1 x.src x.dst);rw[<-hb]at KT;have HS:=hd_ hs;have HFi:=hd_ hf;have HN:=hd_ hn;have HR:=hd_ h;have N1:=hd_ n1;obtain⟨kind,src,dst,beacon,level,known⟩:=x;simp only at *;clear h1 hm HF hb hs hf hn h n1;go_enter Tryz.func83,Tryz.ntmps83;go_upto_region 1 with fail
 rw[<-hW1, <-hp5, <-hp4, <-hp3];clear hW1 hp5 hp4 hp3
 go_wp2_with fail
 refine KT.out.mono ?_;rintro r w2 ⟨rfl,hw2⟩;rw[<-hw2];clear hw2 w2 KT;rcases b with _|_
 case false=>
  have F:Hid (gX n ⟨kind,src,dst,beacon,level,known⟩=false):=hd_ (by rw[WF.out];rfl);go_wp2;go_ret;exact⟨by rw[F.out];rfl,H1.out.drop.drop.drop⟩
 by_cases k1:kind=1
 ·subst k1
  obtain⟨b1,hb1⟩:∃b,b=in6 beacon 0 (aG n 0).beacon:=⟨_,rfl⟩
  have KB:=hd_ (sH W1 (v2:=v2) (v3:=v3) (v4:=.slice x4 5 c4) ((aP cC _ _).below N1.out H1.out.below lr_) hb1);obtain⟨b2,hb2⟩:∃b,b=decide (0<=level):=⟨_,rfl⟩
  obtain⟨b3,hb3⟩:∃b,b=decide (level<5):=⟨_,rfl⟩
  obtain⟨b4,hb4⟩:∃b,b=((known.length:Int)==0):=⟨_,rfl⟩
  have RES:Hid (gX n ⟨1,src,dst,beacon,level,known⟩=(b1&&(b2&&(b3&&b4)))):=hd_ (by
      rw[WF.out,if_pos rfl, <-hb1,hb2,hb3,hb4]
      unfold in6
      by_cases x:0<=level<;>by_cases y:level<5<;>by_cases z:known.length=0<;>simp[x,y,z]<;>omega)
  have g2:=hb2.symm;have g3:=hb3.symm;have g4:=hb4.symm;clear hb1 hb2 hb3 hb4 WF
  go_wp2_with fail
  refine KB.out.mono ?_;rintro r w2 ⟨rfl,hb⟩;have H2:=hd_ (H1.out.later hb);clear hb KB H1 a0 a1 a2 a3 d0 d1 d2 d3 d4 d5 t0 t1;obtain⟨d0,d1,d2,d3,d4,d5⟩:=H2.out.p1.cells6;refine aI4 (a:=b1) (b:=b2) (c:=b3) (d:=b4) ?_ ?_ ?_ ?_ ?_
  all_goals
   first
    |(intro e0 e1 e2 e3;subst e0 e1 e2 e3)
    |(intro e0 e1 e2;subst e0 e1 e2)
    |(intro e0 e1;subst e0 e1)
    |(intro e0;subst e0)
   go_wp2;go_ret;exact⟨by rw[RES.out];first|rfl|simp,H2.out.drop.drop.drop⟩
 have gk1:(kind==1)=false:=by simpa using k1
 by_cases k2:kind=2
 ·subst k2
  obtain⟨b1,hb1⟩:∃b,b=(beacon==0):=⟨_,rfl⟩
  obtain⟨b2,hb2⟩:∃b,b=(level==0):=⟨_,rfl⟩
  obtain⟨b3,hb3⟩:∃b,b=dJ n known:=⟨_,rfl⟩
  have KE:=hd_ (rB HN.out HS.out HFi.out W1 H1.out.p3 HR.out);rw[<-hb3]at KE;have RES:Hid (gX n ⟨2,src,dst,beacon,level,known⟩=(b1&&(b2&&b3))):=hd_ (by
      rw[WF.out,if_neg k1,if_pos rfl,hb1,hb2,hb3];rfl)
  have g1:=hb1.symm;have g2:=hb2.symm;clear hb1 hb2 hb3 WF;rcases b1 with _|_
  case false=>
   go_wp2;go_ret;exact⟨by rw[RES.out];rfl,H1.out.drop.drop.drop⟩
  rcases b2 with _|_
  case false=>
   go_wp2;go_ret;exact⟨by rw[RES.out];rfl,H1.out.drop.drop.drop⟩
  go_wp2_with fail
  refine KE.out.mono ?_;rintro r w2 ⟨rfl,hm2⟩;have H2:=hd_ hm2;clear hm2 KE;go_wp2;go_ret;exact⟨by rw[RES.out];rfl,H2.out.p1.drop.p1.drop.p1.drop⟩
 have gk2:(kind==2)=false:=by simpa using k2
 have F:Hid (gX n ⟨kind,src,dst,beacon,level,known⟩=false):=hd_ (by rw[WF.out,if_neg k1,if_neg k2];rfl);clear k1 k2;go_wp2;go_ret;exact⟨by rw[F.out];rfl,H1.out.drop.drop.drop⟩
end N
end Go.Proofs.YtcblbdpdbggkbaaGreat
set_option linter.unusedVariables false
set_option linter.unusedSectionVars false
set_option linter.unusedSimpArgs false
namespace Go.Proofs.YtcblbdpdbggkbaaGreat
open Go.RowKit Go.Sort
namespace N
def plB (ls:List Bool) (k:Nat):Bool:= !(ls.getD k false) || (!(decide ((k:Int) / 5=(k:Int) % 5))&&lkP ls 25 ((k:Int) % 5) ((k:Int) / 5))
def gE (ls:List Bool):Bool:=decide (ls.length=25)&&(List.range 25).all (plB ls)
theorem zP {ls:List Bool} {k:Nat} (hk:k<25) (h:plB ls k=false):gE ls=false:=by
 unfold gE;rw[kN (i:=k) (a:=k) (p:=plB ls) (by rw[List.getElem?_range hk]) h,Bool.and_false]
theorem aBp {ls:List Bool} (hl:ls.length=25) (h:∀k,k<25->plB ls k=true):gE ls=true:=by
 unfold gE;rw[decide_eq_true hl,List.all_eq_true.2 (fun k hk=>h k (List.mem_range.1 hk))];rfl
theorem aB9 {ls:List Bool} (hl:ls.length≠25):gE ls=false:=by
 unfold gE;rw[decide_eq_false hl];rfl
theorem aBG (w:World) {x:Option Addr} {c:Nat} {ls:List Bool} {f:List Nat} (h:pE TY w [.slice x ls.length c] ls f):
  Calls Tryz.prog 79 #[.slice x ls.length c] w fun r w'=>r=.returned (.bool (gE ls))/\Below w.heap.size w w':=by
 obtain⟨n,hn⟩:∃n,n=ls.length:=⟨_,rfl⟩
 rw[<-hn]at h ⊢
 by_cases h5:n=25
 case neg=>
  have F:Hid (gE ls=false):=hd_ (aB9 (by omega));have g:((n:Int) != 25)=true:=by simpa using (show (n:Int)≠25 by omega)
  clear h hn h5;go_enter Tryz.func79,Tryz.ntmps79;go_wp2;go_ret;exact⟨by rw[F.out];rfl,Below.refl _ _⟩
 subst h5;have H1:=hd_ h;have HL:=hd_ hn.symm;clear h hn;have KL:=hd_ (aCn w H1.out);have g:(((25:Nat):Int) != 25)=false:=by decide
 go_enter Tryz.func79,Tryz.ntmps79
 go_wp2_with fail
 refine KL.out.mono ?_;rintro r w1 ⟨m,g0,rfl,hm,hg⟩;have H:=hd_ hm;have HG:=hd_ hg;have HB:=hd_ hm.below;clear hm hg KL g;go_wp2;go_loopw [14] (fun z wr=>∃k:Nat,k<=25/\z=.int .i64 (k:Int)/\M w.heap.size w wr [wZ uD aAM m g0]/\(∀j,j<k->plB ls j=true)) (fun z _=>25 - (intOf z).toNat)
 case atStart=>exact⟨0,Nat.zero_le _,rfl,H.out,fun j hj=>absurd hj (Nat.not_lt_zero _)⟩
 case round=>
  clear H HB;obtain⟨k,hk,rfl,hm,hno⟩:=hrel;have H:=hd_ hm;have NO:=hd_ hno;clear hm hno
  by_cases hlt:k<25
  ·obtain⟨u,hu⟩:∃u,ls[k]? =some u:=⟨_,List.getElem?_eq_getElem (by rw[HL.out];exact hlt)⟩
   obtain⟨g1,rfl,_,c0⟩:=nC H1.out hu;have HU:Hid (plB ls k=(!u || (!(decide ((k:Int) / 5=(k:Int) % 5))&&lkP ls 25 ((k:Int) % 5) ((k:Int) / 5)))):=hd_ (by unfold plB;rw[List.getD_eq_getElem?_getD,hu];rfl);replace c0:=cell_later H.out.below c0;have KE:=hd_ (fun W=>aBf W k hlt)
   have EO:=hd_ (show uD ((k:Int) % 5,(k:Int) / 5)from⟨⟨by simp;omega,by simp;omega⟩,⟨by simp;omega,by simp;omega⟩⟩);have HK:=hd_ hlt;have k0:(0:Int)<=(k:Int):=by omega
   have k1:(k:Int)<25:=by omega
   clear hu
   go_wp2_with fail
   refine (KE.out _).mono ?_;rintro e w4 ⟨rfl,hb⟩;have H2:=hd_ ((H.out.later hb).alloc #[.int .i64 ((k:Int) / 5),.int .i64 ((k:Int) % 5)] 130);clear hb H KE c0;have NX:Hid (plB ls k=true->∀j,j<k+1->plB ls j=true):=hd_ fun h j hj=>by
    by_cases e:j<k
    ·exact NO.out j e
    ·obtain rfl:j=k:=by omega
     exact h
   obtain⟨t,ht⟩:∃t,t=lkP ls 25 ((k:Int) % 5) ((k:Int) / 5):=⟨_,rfl⟩
   have LL:=aHM H2.out.p1 HG.out ((k:Int) % 5) ((k:Int) / 5) EO.out;rw[<-ht]at HU LL;clear ht;cases u with
   |false=>
    have NY:=hd_ (NX.out (by rw[HU.out];rfl));clear NX HU LL;go_wp2;go_roundw
    case rel=>exact⟨k+1,by omega,by go_num,H2.out.drop,NY.out⟩
    case measure=>simp[intOf];omega
   |true=>
    by_cases hq:(k:Int) / 5=(k:Int) % 5
    ·have F:Hid (gE ls=false):=hd_ (zP HK.out (by rw[HU.out,decide_eq_true hq];rfl))
     have gq:((k:Int) / 5==(k:Int) % 5)=true:=by simpa using hq
     clear hq NX HU LL;go_wp2;go_ret;exact⟨by rw[F.out];rfl,H2.out.below⟩
    ·have gq:((k:Int) / 5==(k:Int) % 5)=false:=by simpa using hq
     have HQ:=hd_ hq;clear hq;cases t with
     |false=>
      have F:Hid (gE ls=false):=hd_ (zP HK.out (by rw[HU.out];simp));clear NX HU;go_wp2;go_ret;exact⟨by rw[F.out];rfl,H2.out.below⟩
     |true=>
      have NY:=hd_ (NX.out (by rw[HU.out,decide_eq_false HQ.out];rfl));clear NX HU;go_wp2;go_roundw
      case rel=>exact⟨k+1,by omega,by go_num,H2.out.drop,NY.out⟩
      case measure=>simp[intOf];omega
  ·obtain rfl:k=25:=by omega
   have F:Hid (gE ls=true):=hd_ (aBp HL.out NO.out);go_wp2;go_ret;exact⟨by rw[F.out];rfl,H.out.below⟩
end N
end Go.Proofs.YtcblbdpdbggkbaaGreat
set_option linter.unusedVariables false
set_option linter.unusedSectionVars false
set_option linter.unusedSimpArgs false
namespace Go.Proofs.YtcblbdpdbggkbaaGreat
open Go.RowKit Go.Sort
namespace N
theorem aKw {n:Nt} {k:Nat}:n.links.getD k false=eA n ((k:Int) / 5) ((k:Int) % 5):=by
 unfold eA
 congr 1
 omega
theorem aIy {n:Nt} {a b:Int} (ha:bF a) (hb:bF b):lkP n.links 25 a b=eA n a b:=by
 unfold lkP eA;unfold bF at ha hb;rw[decide_eq_true (by omega),Bool.true_and]
theorem aFf {n:Nt} {k:Nat} (hk:k<25):plB n.links k=(!(eA n ((k:Int) / 5) ((k:Int) % 5)) || (!(decide ((k:Int) / 5=(k:Int) % 5))&&eA n ((k:Int) % 5) ((k:Int) / 5))):=by
 unfold plB;rw[aKw,aIy (by unfold bF;omega) (by unfold bF;omega)]
theorem aJJ {n:Nt} (h:aK6 n):gE n.links=true:=by
 refine aBp h.links fun k hk=>?_
 have h1:bF ((k:Int) / 5):=by unfold bF;omega
 have h2:bF ((k:Int) % 5):=by unfold bF;omega
 rw[aFf hk]
 by_cases e:(k:Int) / 5=(k:Int) % 5
 ·rw[e,h.self _ h2];rfl
 ·rw[h.either _ _ h1 h2,decide_eq_false e]
  cases eA n ((k:Int) % 5) ((k:Int) / 5)<;>rfl
theorem xY {n:Nt} (h:gE n.links=true):n.links.length=25/\∀k,k<25->plB n.links k=true:=by
 unfold gE at h;simp only[Bool.and_eq_true,decide_eq_true_eq,List.all_eq_true,List.mem_range]at h;exact h
theorem aE0 {n:Nt} (h:gE n.links=true) {i:Int} (hi:bF i):eA n i i=false:=by
 unfold bF at hi;have:=(xY h).2 (i * 5+i).toNat (by omega);rw[aFf (by omega)]at this;rw[show (((i * 5+i).toNat:Nat):Int) / 5=i by omega,show (((i * 5+i).toNat:Nat):Int) % 5=i by omega]at this;cases q:eA n i i with
 |false=>rfl
 |true=>rw[q]at this;simp at this
theorem xW {n:Nt} (h:gE n.links=true) {i j:Int} (hi:bF i) (hj:bF j) (q:eA n i j=true):eA n j i=true:=by
 unfold bF at hi hj;have:=(xY h).2 (i * 5+j).toNat (by omega);rw[aFf (by omega)]at this;rw[show (((i * 5+j).toNat:Nat):Int) / 5=i by omega,show (((i * 5+j).toNat:Nat):Int) % 5=j by omega,q]at this;simp only[Bool.not_true,Bool.false_or,Bool.and_eq_true]at this;exact this.2
theorem aCI {n:Nt} (h:gE n.links=true) {i j:Int} (hi:bF i) (hj:bF j):eA n i j=eA n j i:=by
 cases q:eA n i j with
 |true=>exact (xW h hi hj q).symm
 |false=>
  cases r:eA n j i with
  |false=>rfl
  |true=>rw[xW h hj hi r]at q;cases q
theorem aGa {n:Nt} {i:Int}:iH (cS n i) (aG n i).born=(in6 (aG n i).born 1 20&&jX n i):=by
 unfold iH jX bZ
 rfl
theorem yH {n:Nt}:jO n 0=(aDV n 0&&decide ((aG n 0).beacon<=1000)):=by
 unfold jO aDV in6;rw[if_pos rfl,if_pos rfl]
 by_cases a:0<=(aG n 0).beacon<;>by_cases b:(aG n 0).level=0<;>by_cases c:(aG n 0).up= -1<;>simp[a,b,c]
theorem wX {n:Nt} {i:Int} (hi:bF i) (h0:i≠0):jO n i=aDV n i:=by
 unfold jO aDV two;unfold bF at hi;rw[if_neg h0,if_neg h0];rw[Bool.eq_iff_iff]
 by_cases h:(aG n i).level=5
 ·rw[if_pos h,h]
  simp only[Bool.and_eq_true,cL,decide_eq_true_eq,beq_iff_eq]
  constructor
  ·rintro⟨a,b⟩
   exact⟨a,by omega,by simp[b],by omega,by omega⟩
  ·rintro⟨a,_,b,_⟩
   exact⟨a,by simpa using b⟩
 ·rw[if_neg h]
  simp only[Bool.and_eq_true,cL,decide_eq_true_eq]
  constructor
  ·rintro⟨a,b,c,⟨d,e⟩,f⟩
   exact⟨a,by omega,⟨fun q=>by omega,fun q=>absurd q h⟩,by omega,by omega⟩
  ·rintro⟨a,b,c,d,e⟩
   have:(aG n i).up≠ -1:=fun q=>h (c.1 q)
   exact⟨a,by omega,by omega,⟨by omega,by omega⟩,by omega⟩
structure OkI (n:Nt):Prop where
 nodes:n.nodes.length=5
 past:n.past.length=5
 links:gE n.links=true
 words:n.words.length<=24
 pasts:∀i:Nat,i<5->iH (cS n (i:Int)) (aG n (i:Int)).born=true
 hears:∀i:Nat,i<5->jO n (i:Int)=true
 known:∀i:Nat,i<5->(dJ n (aG n (i:Int)).known&&tJ n (i:Int))=true
 word:∀(i:Nat) (x:Wd),n.words[i]? =some x->gX n x=true
theorem aLu {n:Nt} (c:kZ n=true):OkI n:=by
 have h:=aDl.1 c;have nd:∀i:Nat,i<5->bF (i:Int):=fun i hi=>by unfold bF;omega
 refine⟨h.nodes,h.past,aJJ h,h.words,fun i hi=>?_,fun i hi=>?_,fun i hi=>?_,fun i x hx=>wC.2 (h.word x (List.mem_of_getElem? hx))⟩
 ·rw[aGa,cL.2 (h.born _ (nd i hi)),vP.2 (h.pasts _ (nd i hi))];rfl
 ·by_cases e:i=0
  ·subst e
   rw[show ((0:Nat):Int)=0 from rfl,yH,rD.2 (h.way 0 (nd 0 hi)),decide_eq_true h.beacon];rfl
  ·rw[wX (nd i hi) (by omega),rD.2 (h.way _ (nd i hi))]
 ·rw[kE.2 (h.known _ (nd i hi)),yR.2 (h.own _ (nd i hi))];rfl
theorem aLh {n:Nt} (h:OkI n):kZ n=true:=by
 refine aDl.2 ?_;have nd:∀i:Int,bF i->∃k:Nat,k<5/\i=k:=fun i hi=>by unfold bF at hi;exact⟨i.toNat,by omega,by omega⟩
 have hp:∀i,bF i->in6 (aG n i).born 1 20=true/\jX n i=true:=fun i hi=>by
  obtain⟨k,hk,rfl⟩:=nd i hi;have:=h.pasts k hk;rw[aGa,Bool.and_eq_true]at this;exact this
 have h0:=h.hears 0 (by omega);rw[show ((0:Nat):Int)=0 from rfl,yH,Bool.and_eq_true,decide_eq_true_eq]at h0;refine⟨h.nodes,h.past,(xY h.links).1,h.words,fun i hi=>cL.1 (hp i hi).1,fun i hi=>vP.1 (hp i hi).2,fun i hi=>aE0 h.links hi,fun i j hi hj=>aCI h.links hi hj,fun i hi=>?_,fun i hi=>?_,fun i hi=>?_,fun x hx=>?_,h0.2⟩
 ·obtain⟨k,hk,rfl⟩:=nd i hi
  have:=h.known k hk;rw[Bool.and_eq_true]at this;exact yR.1 this.2
 ·obtain⟨k,hk,rfl⟩:=nd i hi
  have:=h.known k hk;rw[Bool.and_eq_true]at this;exact kE.1 this.1
 ·by_cases e:i=0
  ·rw[e];exact rD.1 h0.1
  ·obtain⟨k,hk,rfl⟩:=nd i hi
   have:=h.hears k hk;rw[wX hi e]at this;exact rD.1 this
 ·obtain⟨i,hi⟩:=List.getElem?_of_mem hx
  exact wC.1 (h.word i x hi)
theorem qO {n:Nt} (h:OkI n->False):kZ n=false:=by
 rw[Bool.eq_false_iff];exact fun c=>h (aLu c)
end N
end Go.Proofs.YtcblbdpdbggkbaaGreat
set_option linter.unusedVariables false
set_option linter.unusedSectionVars false
set_option linter.unusedSimpArgs false
namespace Go.Proofs.YtcblbdpdbggkbaaGreat
open Go.RowKit Go.Sort Go.ChangeMaps
namespace N
theorem rC {rs:List (List Int)} {born:Int} (h:iH rs born=true):1<=born/\(rs.length:Int)=born+1/\rs.all kC=true:=by
 unfold iH at h;simp only[Bool.and_eq_true,cL,decide_eq_true_eq]at h;exact⟨h.1.1,h.2.1,h.2.2.2⟩
theorem aEw (w:World) {x1 x2 x3 x4:Option Addr} {k1 c1 k2 c2 k3 c3 k4 c4:Nat} {n:Nt} (hn:iL w (.slice x1 k1 c1) (.slice x2 k2 c2) (.slice x3 k3 c3) (.slice x4 k4 c4) n):
  Calls Tryz.prog 22 #[.agg #[.slice x1 k1 c1,.slice x2 k2 c2,.slice x3 k3 c3,.slice x4 k4 c4]] w fun r w'=>r=.returned (.bool (kZ n))/\Below w.heap.size w w':=by
 obtain⟨f1,n1⟩:=hn.nodes;obtain⟨f2,n2⟩:=hn.links;obtain⟨f3,n3⟩:=hn.words;obtain⟨f4,n4⟩:=hn.past;have e1:=hd_ (show k1=n.nodes.length from (aO n1).1);have e2:=hd_ (show k2=n.links.length from (aO n2).1);have e3:=hd_ (show k3=n.words.length from (aO n3).1);have e4:=hd_ (show k4=n.past.length from (aO n4).1)
 have h0:=(M.start w).alloc #[.slice x1 k1 c1,.slice x2 k2 c2,.slice x3 k3 c3,.slice x4 k4 c4] 30;obtain⟨w1,hw1⟩:∃W,W=w.alloc (.cells #[.slice x1 k1 c1,.slice x2 k2 c2,.slice x3 k3 c3,.slice x4 k4 c4] 30):=⟨_,rfl⟩
 obtain⟨p1,hp1⟩:∃p,p=w.heap.size:=⟨_,rfl⟩
 rw[<-hw1]at h0;have H:=hd_ (show M w.heap.size w w1 [bU p1 30 #[.slice x1 k1 c1,.slice x2 k2 c2,.slice x3 k3 c3,.slice x4 k4 c4]] by rw[hp1];exact h0);have HN:=hd_ hn;have N1:=hd_ n1;have N2:=hd_ n2;have N3:=hd_ n3;have N4:=hd_ n4;clear h0 hn n1 n2 n3 n4;go_enter Tryz.func22,Tryz.ntmps22;go_upto_region 1 with fail
 rw[<-hw1, <-hp1];clear hw1 hp1;obtain⟨a0,a1,a2,a3⟩:=H.out.cells4
 by_cases l1:k1=5
 case neg=>
  have F:=hd_ (qO (n:=n) fun h=>l1 (e1.out.trans h.nodes));have g:((k1:Int) != 5)=true:=by simpa using (show (k1:Int)≠5 by omega)
  clear l1;go_wp2;go_ret;exact⟨by rw[F.out];rfl,H.out.below⟩
 subst l1;have g1:(((5:Nat):Int) != 5)=false:=by decide
 by_cases l4:k4=5
 case neg=>
  have F:=hd_ (qO (n:=n) fun h=>l4 (e4.out.trans h.past));have g:((k4:Int) != 5)=true:=by simpa using (show (k4:Int)≠5 by omega)
  clear l4;go_wp2;go_ret;exact⟨by rw[F.out];rfl,H.out.below⟩
 subst l4;obtain⟨q2,hq2⟩:∃q,q=gE n.links:=⟨_,rfl⟩
 have KL:=hd_ (aBG w1 (x:=x2) (c:=c2) (ls:=n.links) (f:=f2) (by rw[<-e2.out];exact (aP (aT _) _ _).below N2.out H.out.below lr_));rw[<-hq2, <-e2.out]at KL;have Q2:=hd_ hq2;clear hq2
 go_wp2_with fail
 refine KL.out.mono ?_;rintro r w2 ⟨rfl,hb⟩;have H2:=hd_ (H.out.later hb);clear hb KL H a0 a1 a2 a3;obtain⟨a0,a1,a2,a3⟩:=H2.out.cells4;rcases q2 with _|_
 case false=>
  have F:=hd_ (qO (n:=n) fun h=>absurd h.links (by rw[<-Q2.out];simp));go_wp2;go_ret;exact⟨by rw[F.out];rfl,H2.out.below⟩
 by_cases l3:24<k3
 ·have F:=hd_ (qO (n:=n) fun h=>absurd h.words (by rw[<-e3.out];omega))
  have g:decide ((24:Int)<(k3:Int))=true:=decide_eq_true (by omega);clear l3;go_wp2;go_ret;exact⟨by rw[F.out];rfl,H2.out.below⟩
 have g3:decide ((24:Int)<(k3:Int))=false:=decide_eq_false (by omega);have L3:=hd_ l3;clear l3;go_wp2;clear g1 g3 a0 a1 a2 a3;go_loopw [34] (fun z wr=>∃j:Nat,j<=5/\z=.int .i64 (j:Int)/\(∀a:Nat,a<j->iH (cS n (a:Int)) (aG n (a:Int)).born=true/\jO n (a:Int)=true)/\M w.heap.size w wr [bU p1 30 #[.slice x1 5 c1,.slice x2 k2 c2,.slice x3 k3 c3,.slice x4 5 c4]]) (fun z _=>5 - (intOf z).toNat)
 case atStart=>exact⟨0,Nat.zero_le _,rfl,fun a h=>absurd h (Nat.not_lt_zero _),H2.out⟩
 case round=>
  clear H2;obtain⟨j,hj,rfl,hno,hm⟩:=hrel;have NO:=hd_ hno;have H:=hd_ hm;clear hno hm;obtain⟨a0,a1,a2,a3⟩:=H.out.cells4
  by_cases hlt:j<5
  ·obtain⟨nd,hnd⟩:∃nd,n.nodes[j]? =some nd:=⟨_,List.getElem?_eq_getElem (by rw[<-e1.out];exact hlt)⟩
   obtain⟨rs,hrs⟩:∃rs,n.past[j]? =some rs:=⟨_,List.getElem?_eq_getElem (by rw[<-e4.out];exact hlt)⟩
   have eN:aG n (j:Int)=nd:=by unfold aG;rw[List.getD_eq_getElem?_getD,Int.toNat_natCast,hnd];rfl
   have eR:cS n (j:Int)=rs:=by unfold cS;rw[List.getD_eq_getElem?_getD,Int.toNat_natCast,hrs];rfl
   obtain⟨g1,xk,ck,fk,rfl,_,_,_,_,_,b0,_⟩:=fQ N1.out hnd;obtain⟨g4,xr,cr,fr,rfl,_,_,rr,_,_,y0⟩:=lP N4.out hrs;replace b0:=cell_later H.out.below b0;replace y0:=cell_later H.out.below y0;have KP:=hd_ (aDE wr (cB.below rr H.out.below lr_) nd.born)
   have KH:=hd_ (aB4 wr (v2:=.slice x2 k2 c2) (v3:=.slice x3 k3 c3) (v4:=.slice (some ⟨g4,0,none⟩) 5 c4) ((aP cC _ _).below N1.out H.out.below lr_) hlt);obtain⟨q1,hq1⟩:∃q,q=iH rs nd.born:=⟨_,rfl⟩
   obtain⟨q2,hq2⟩:∃q,q=jO n (j:Int):=⟨_,rfl⟩
   rw[<-hq1]at KP;rw[<-hq2]at KH;have Q1:Hid (iH (cS n (j:Int)) (aG n (j:Int)).born=q1):=hd_ (by rw[eN,eR,hq1]);have Q2:=hd_ hq2;have HJ:=hd_ hlt;have k0:(0:Int)<=(j:Int):=by omega
   have k5:(j:Int)<5:=by omega
   clear hq1 hq2 eN eR hnd hrs rr
   go_wp2_with fail
   refine KP.out.mono ?_;rintro r w3 ⟨rfl,hw3⟩;rw[hw3];clear hw3 w3 KP;cases q1 with
   |false=>
    have F:=hd_ (qO (n:=n) fun h=>absurd (h.pasts j HJ.out) (by rw[Q1.out];simp));go_wp2;go_ret;exact⟨by rw[F.out];rfl,H.out.below⟩
   |true=>
    go_wp2_with fail
    refine KH.out.mono ?_;rintro r w3 ⟨rfl,hb⟩;have H3:=hd_ (H.out.later hb);clear hb KH H;cases q2 with
    |false=>
     have F:=hd_ (qO (n:=n) fun h=>absurd (h.hears j HJ.out) (by rw[<-Q2.out];simp));go_wp2;go_ret;exact⟨by rw[F.out];rfl,H3.out.below⟩
    |true=>
     have NO2:Hid (∀a:Nat,a<j+1->iH (cS n (a:Int)) (aG n (a:Int)).born=true/\jO n (a:Int)=true):=hd_ fun a ha=>by
      by_cases e:a<j
      ·exact NO.out a e
      ·obtain rfl:a=j:=by omega
       exact⟨Q1.out,Q2.out.symm⟩
     go_wp2;go_roundw
     case rel=>exact⟨j+1,by omega,by go_num,NO2.out,H3.out⟩
     case measure=>simp[intOf];omega
  ·obtain rfl:j=5:=by omega
   have hs:nK n:=⟨e1.out.symm,e4.out.symm,fun i hi=>(rC (NO.out i hi).1).2.1⟩
   have hf:mX n:=fun i hi=>(rC (NO.out i hi).1).2.2
   have hb:∀i:Nat,i<5->1<=(aG n (i:Int)).born:=fun i hi=>(rC (NO.out i hi).1).1
   have h5:=aIk H.out (bQ n);obtain⟨m,hm⟩:∃m,m=wr.heap.size:=⟨_,rfl⟩
   obtain⟨W4,hW4⟩:∃W',W'=wr.alloc (.map #[] 0):=⟨_,rfl⟩
   rw[<-hW4, <-hm]at h5;have h6:=h5.alloc #[.slice x4 5 c4,.map (some m)] 120;obtain⟨p5,hp5⟩:∃p,p=W4.heap.size:=⟨_,rfl⟩
   obtain⟨W5,hW5⟩:∃W',W'=W4.alloc (.cells #[.slice x4 5 c4,.map (some m)] 120):=⟨_,rfl⟩
   rw[<-hW5, <-hp5]at h6;have H6:=hd_ h6.p1;have KK:=hd_ (fun (W:World) (l:List Ch) (h:M w.heap.size w W (jR m (bQ n)::l)) (i:Nat) (hi:i<5)=>aBZ HN.out hs hf hb W h hi);have KWD:=hd_ (fun (W:World) (l:List Ch) (h:M w.heap.size w W (jR m (bQ n)::l))=>aC4 HN.out hs hf W h);have hmm:=@run_makeMap Tryz.prog;have hsz:W4.heap.size=wr.heap.size+1:=by rw[hW4];simp
   have p5e:p5=m+1:=by rw[hp5,hsz,hm]
   clear h5 h6 hs hf hb;simp only[Int.cast_ofNat_Int];go_upto_region 10 with fail
   rw[<-hW4, <-hm, <-hW5, <-p5e];clear hW4 hm hW5 hsz hp5 hmm H a0 a1 a2 a3 p5e;obtain⟨t0,t1⟩:=H6.out.p1.cells2;obtain⟨a0,a1,a2,a3⟩:=H6.out.p2.cells4;go_wp2;clear t0 t1 a0 a1 a2 a3
   go_loopw [62] (fun z wr=>∃j:Nat,j<=5/\z=.int .i64 (j:Int)/\(∀a:Nat,a<j->(dJ n (aG n (a:Int)).known&&tJ n (a:Int))=true)/\M w.heap.size w wr (jR m (bQ n)::bU p5 120 #[.slice x4 5 c4,.map (some m)]::[bU p1 30 #[.slice x1 5 c1,.slice x2 k2 c2,.slice x3 k3 c3,.slice x4 5 c4]])) (fun z _=>5 - (intOf z).toNat)
   case atStart=>exact⟨0,Nat.zero_le _,rfl,fun a h=>absurd h (Nat.not_lt_zero _),H6.out⟩
   case round=>
    clear H6;obtain⟨j,hj,rfl,hno,hm⟩:=hrel;have NO3:=hd_ hno;have H:=hd_ hm;clear hno hm;obtain⟨t0,t1⟩:=H.out.p1.cells2;obtain⟨a0,a1,a2,a3⟩:=H.out.p2.cells4
    by_cases hlt:j<5
    ·obtain⟨q1,hq1⟩:∃q,q=(dJ n (aG n (j:Int)).known&&tJ n (j:Int)):=⟨_,rfl⟩
     have KP:=hd_ (KK.out _ _ H.out j hlt);rw[<-hq1]at KP;have Q1:=hd_ hq1;have HJ:=hd_ hlt;have k0:(0:Int)<=(j:Int):=by omega
     have k5:(j:Int)<5:=by omega
     clear hq1
     go_wp2_with fail
     refine KP.out.mono ?_;rintro r w3 ⟨rfl,hm3⟩;have H3:=hd_ hm3;clear hm3 H KP t0 t1 a0 a1 a2 a3;cases q1 with
     |false=>
      have F:=hd_ (qO (n:=n) fun h=>absurd (h.known j HJ.out) (by rw[<-Q1.out];simp));go_wp2;go_ret;exact⟨by rw[F.out];rfl,H3.out.below⟩
     |true=>
      have NO2:Hid (∀a:Nat,a<j+1->(dJ n (aG n (a:Int)).known&&tJ n (a:Int))=true):=hd_ fun a ha=>by
       by_cases e:a<j
       ·exact NO3.out a e
       ·obtain rfl:a=j:=by omega
        exact Q1.out.symm
      go_wp2;go_roundw
      case rel=>exact⟨j+1,by omega,by go_num,NO2.out,H3.out⟩
      case measure=>simp[intOf];omega
    ·obtain rfl:j=5:=by omega
     simp only[Int.cast_ofNat_Int];go_wp2;clear t0 t1 a0 a1 a2 a3 KK;have M3:=L3.out;go_loopw [74] (fun z wr=>∃j:Nat,j<=k3/\z=.int .i64 (j:Int)/\(∀(a:Nat) (x:Wd),a<j->n.words[a]? =some x->gX n x=true)/\M w.heap.size w wr (jR m (bQ n)::bU p5 120 #[.slice x4 5 c4,.map (some m)]::[bU p1 30 #[.slice x1 5 c1,.slice x2 k2 c2,.slice x3 k3 c3,.slice x4 5 c4]])) (fun z _=>k3 - (intOf z).toNat)
     case atStart=>exact⟨0,Nat.zero_le _,rfl,fun a x h=>absurd h (Nat.not_lt_zero _),H.out⟩
     case round=>
      clear H;obtain⟨j,hj,rfl,hno,hm⟩:=hrel;have NO4:=hd_ hno;have H:=hd_ hm;clear hno hm;obtain⟨a0,a1,a2,a3⟩:=H.out.p2.cells4
      by_cases hlt:j<k3
      ·obtain⟨x,hx⟩:∃x,n.words[j]? =some x:=⟨_,List.getElem?_eq_getElem (by rw[<-e3.out];exact hlt)⟩
       obtain⟨g6,xk,ck,fk,rfl,_,_,rk,_,_,b0,b1,b2,b3,b4,b5⟩:=tI N3.out hx;replace b0:=cell_later H.out.below b0;replace b1:=cell_later H.out.below b1;replace b2:=cell_later H.out.below b2;replace b3:=cell_later H.out.below b3;replace b4:=cell_later H.out.below b4;replace b5:=cell_later H.out.below b5
       have h2:=H.out.alloc #[.int .i64 x.kind,.int .i64 x.src,.int .i64 x.dst,.int .i64 x.beacon,.int .i64 x.level,.slice xk x.known.length ck] 123;obtain⟨p8,hp8⟩:∃p,p=wr.heap.size:=⟨_,rfl⟩
       obtain⟨W2,hW2⟩:∃W',W'=wr.alloc (.cells #[.int .i64 x.kind,.int .i64 x.src,.int .i64 x.dst,.int .i64 x.beacon,.int .i64 x.level,.slice xk x.known.length ck] 123):=⟨_,rfl⟩
       rw[<-hW2, <-hp8]at h2;have H2:=hd_ h2.p1;obtain⟨q1,hq1⟩:∃q,q=gX n x:=⟨_,rfl⟩
       have KP:=hd_ (KWD.out W2 _ H2.out x rk);rw[<-hq1]at KP;have Q1:=hd_ hq1;have HX:=hd_ hx;have k0:(0:Int)<=(j:Int):=by omega
       have k5:(j:Int)<(k3:Int):=by omega
       clear hq1 hx h2 rk H;go_upto_region 19 with fail
       rw[<-hW2, <-hp8];clear hW2 hp8 a0 a1 a2 a3 b0 b1 b2 b3 b4 b5;obtain⟨d0,d1,d2,d3,d4,d5⟩:=H2.out.p1.cells6;obtain⟨t0,t1⟩:=H2.out.p2.cells2;obtain⟨a0,a1,a2,a3⟩:=H2.out.p3.cells4
       go_wp2_with fail
       refine KP.out.mono ?_;rintro r w3 ⟨rfl,hm3⟩;have H3:=hd_ hm3;clear hm3 H2 KP d0 d1 d2 d3 d4 d5 t0 t1 a0 a1 a2 a3;cases q1 with
       |false=>
        have F:=hd_ (qO (n:=n) fun h=>absurd (h.word j x HX.out) (by rw[<-Q1.out];simp));go_wp2;go_ret;exact⟨by rw[F.out];rfl,H3.out.below⟩
       |true=>
        have NO2:Hid (∀(a:Nat) (y:Wd),a<j+1->n.words[a]? =some y->gX n y=true):=hd_ fun a y ha hy=>by
         by_cases e:a<j
         ·exact NO4.out a y e hy
         ·obtain rfl:a=j:=by omega
          rw[HX.out]at hy;cases hy;exact Q1.out.symm
        go_wp2;go_roundw
        case rel=>exact⟨j+1,by omega,by go_num,NO2.out,H3.out.p1.drop⟩
        case measure=>simp[intOf];omega
      ·obtain rfl:j=k3:=by omega
       have F:Hid (kZ n=true):=hd_ (aLh ⟨e1.out.symm,e4.out.symm,Q2.out.symm,by rw[<-e3.out];omega,fun i hi=>(NO.out i hi).1,fun i hi=>(NO.out i hi).2,NO3.out,fun i x hx=>NO4.out i x (by have:=(List.getElem?_eq_some_iff.1 hx).1;rw[<-e3.out]at this;exact this) hx⟩);go_wp2;go_ret;exact⟨by rw[F.out];rfl,H.out.below⟩
end N
end Go.Proofs.YtcblbdpdbggkbaaGreat
set_option linter.unusedVariables false
set_option linter.unusedSectionVars false
set_option linter.unusedSimpArgs false
namespace Go.Proofs.YtcblbdpdbggkbaaGreat
open Go.RowKit Go.Sort Go.Deep
namespace N
def aLs (v1 v2 v3 v4:Value) (n:Nt):Ch:=(sQ (T:=TY)).ch [v1,v2,v3,v4] n
section
variable {B:Nat} {w w0 w':World} {l:List Ch} {v1 v2 v3 v4:Value} {n:Nt}
theorem _root_.Go.Proofs.YtcblbdpdbggkbaaGreat.M.gotNet (h:M B w0 w l) (hU:M w.heap.size w w' [lJ v1 n.nodes,kA v2 n.links,lF v3 n.words,nX v4 n.past]):M B w0 w' (aLs v1 v2 v3 v4 n::l):=by
 obtain⟨fp,s⟩:=hU.net;exact h.got sQ hU.below s
theorem _root_.Go.Proofs.YtcblbdpdbggkbaaGreat.M.netR' (h:M B w0 w (aLs v1 v2 v3 v4 n::l)):∃f,aGl TY w [v1,v2,v3,v4] n f:=let ⟨f,hf,_⟩:=h.first;⟨f,hf⟩
theorem _root_.Go.Proofs.YtcblbdpdbggkbaaGreat.M.netIs (h:M B w0 w (aLs v1 v2 v3 v4 n::l)):iL w v1 v2 v3 v4 n:=by
 obtain⟨f,hf⟩:=h.netR';obtain⟨_,_,_,_,f1,f2,f3,f4,e,_,h1,h2,h3,h4⟩:=oJ.1 hf;cases e;exact⟨⟨f1,h1⟩,⟨f2,h2⟩,⟨f3,h3⟩,f4,h4⟩
end
theorem aGM.n {n:Nt} (h:aGM n):aLV n:=⟨fun x hx=>(h.node x hx).sums,fun x hx=>(h.word x hx).sums⟩
end N
end Go.Proofs.YtcblbdpdbggkbaaGreat
set_option linter.unusedVariables false
set_option linter.unusedSectionVars false
set_option linter.unusedSimpArgs false
namespace Go.Proofs.YtcblbdpdbggkbaaGreat.N
open Go.RowKit Go.Sort
def bL {α:Type} (c:α->Int) (l:List α):Int:=(l.map c).sum
def mkL {α:Type} (f:α->Int->α) (c:α->Int):List α->Int->List α
 | [],_=>[]
 |x::xs,k=>f x k::mkL f c xs (k+c x)
section
variable {α:Type} {f:α->Int->α} {c:α->Int}
theorem gZ:bL c []=0:=rfl
theorem mA (x:α) (xs:List α):bL c (x::xs)=c x+bL c xs:=by unfold bL;rw[List.map_cons,List.sum_cons]
theorem aDw (a b:List α):bL c (a++b)=bL c a+bL c b:=by unfold bL;rw[List.map_append,List.sum_append]
theorem fH (h:∀x,0<=c x):∀l:List α,0<=bL c l
 | []=>Int.le_refl _
 |x::xs=>by have:=fH h xs;have:=h x;rw[mA];omega
theorem gF {l:List α} {i:Nat} {x:α} (h:l[i]? =some x):bL c (l.take (i+1))=bL c (l.take i)+c x:=by
 rw[List.take_add_one,h,aDw];show _+bL c [x]=_
 rw[mA,gZ,Int.add_zero]
theorem kD (h:∀x,0<=c x) (l:List α) (i:Nat):bL c (l.take i)<=bL c l:=by
 have e:bL c l=bL c (l.take i)+bL c (l.drop i):=by rw[<-aDw,List.take_append_drop]
 have:=fH h (l.drop i);omega
theorem xG:∀(l:List α) (k:Int),(mkL f c l k).length=l.length
 | [],_=>rfl
 |x::xs,k=>by show (mkL f c xs _).length+1=xs.length+1;rw[xG xs]
theorem aGj:∀(a b:List α) (k:Int),mkL f c (a++b) k=mkL f c a k++mkL f c b (k+bL c a)
 | [],b,k=>by rw[gZ,Int.add_zero];rfl
 |x::xs,b,k=>by
  show f x k::mkL f c (xs++b) (k+c x)=f x k::(mkL f c xs (k+c x)++_)
  rw[aGj xs b,mA,Int.add_assoc]
theorem aFE:∀{l:List α} {i:Nat} {x:α},l[i]? =some x->∀k,(mkL f c l k)[i]? =some (f x (k+bL c (l.take i)))
 | [],i,x,h,k=>by simp at h
 |y::ys,0,x,h,k=>by
  have:y=x:=by simpa using h
  subst this;show some (f y k)=_
  rw[List.take_zero,gZ,Int.add_zero]
 |y::ys,i+1,x,h,k=>by
  have h':ys[i]? =some x:=by simpa using h
  show (mkL f c ys (k+c y))[i]? =_
  rw[aFE h',List.take_succ_cons,mA,Int.add_assoc]
theorem rG {l:List α} {i:Nat} {x:α} (h:l[i]? =some x) (k:Int):(mkL f c (l.take i) k++l.drop i).set i (f x (k+bL c (l.take i)))=mkL f c (l.take (i+1)) k++l.drop (i+1)/\(mkL f c (l.take i) k++l.drop i)[i]? =some x:=by
 obtain⟨hi,rfl⟩:=List.getElem?_eq_some_iff.1 h;have ln:(mkL f c (l.take i) k).length=i:=by rw[xG,List.length_take];omega
 have d:l.drop i=l[i]::l.drop (i+1):=List.drop_eq_getElem_cons hi
 constructor
 ·rw[d,List.set_append_right _ _ (by omega),ln,Nat.sub_self,List.set_cons_zero,List.take_add_one,h,aGj]
  show _=(_++[f l[i] _])++_
  rw[List.append_assoc];rfl
 ·rw[List.getElem?_append_right (by omega),ln,Nat.sub_self,d];rfl
end
def fP (l:List Int):Int:=l.length
def mkI (l:List Int) (k:Int):List Int:=(List.range l.length).map fun (i:Nat)=>k+(i:Int)
def oO (l:List (Int × Int)) (k:Int):List (Int × Int):=(List.range l.length).map fun (i:Nat)=>(k+2 * (i:Int),k+2 * (i:Int)+1)
def mkB (l:List Bool) (k:Int):List Bool:=(List.range l.length).map fun (i:Nat)=>decide ((k+(i:Int)).tmod 3=0)
def iR (rs:List (List Int)):Int:=bL fP rs
def mkR (rs:List (List Int)) (k:Int):List (List Int):=mkL mkI fP rs k
def aDy (s:Sm):Int:=iR s.rs+s.zs.length+2 * s.ps.length+2+2 * s.ks.length+1
def mkS (s:Sm) (k:Int):Sm:=
 let k1:=k+iR s.rs
 let k2:=k1+s.zs.length
 let k3:=k2+2 * s.ps.length
 let k4:=k3+2
 let k5:=k4+2 * s.ks.length
 ⟨mkR s.rs k,mkI s.zs k1,oO s.ps k2,k3,k3+1,oO s.ks k4,k5⟩
def jL (e:En):Int:=3+aDy e.s
def mkE (e:En) (k:Int):En:=⟨k,k+1,k+2,mkS e.s (k+3)⟩
def mY (es:List En):Int:=bL jL es
def mkK (es:List En) (k:Int):List En:=mkL mkE jL es k
def iK (x:Nd):Int:=1+mY x.known+3
def mkN (x:Nd) (k:Int):Nd:=⟨k,mkK x.known (k+1),k+1+mY x.known,k+1+mY x.known+1,k+1+mY x.known+2⟩
def jW (x:Wd):Int:=5+mY x.known
def mkW (x:Wd) (k:Int):Wd:=⟨k,k+1,k+2,k+3,k+4,mkK x.known (k+5)⟩
def aLq (ps:List (List (List Int))):Int:=bL iR ps
def aFC (ps:List (List (List Int))) (k:Int):List (List (List Int)):=mkL mkR iR ps k
def sD (n:Nt):Int:=bL iK n.nodes+n.links.length+bL jW n.words+aLq n.past
def aLQ (n:Nt) (k:Int):Nt:=
 let k1:=k+bL iK n.nodes
 let k2:=k1+n.links.length
 let k3:=k2+bL jW n.words
 ⟨mkL mkN iK n.nodes k,mkB n.links k1,mkL mkW jW n.words k2,aFC n.past k3⟩
theorem nG (l:List Int):0<=fP l:=Int.natCast_nonneg _
theorem iT (rs:List (List Int)):0<=iR rs:=fH nG rs
theorem aJ2 (s:Sm):0<=aDy s:=by have:=iT s.rs;unfold aDy;omega
theorem rT (e:En):0<=jL e:=by have:=aJ2 e.s;unfold jL;omega
theorem uA (es:List En):0<=mY es:=fH rT es
theorem xA (x:Nd):0<=iK x:=by have:=uA x.known;unfold iK;omega
theorem xF (x:Wd):0<=jW x:=by have:=uA x.known;unfold jW;omega
theorem aKW (ps:List (List (List Int))):0<=aLq ps:=fH iT ps
end Go.Proofs.YtcblbdpdbggkbaaGreat.N
namespace Go.Proofs.YtcblbdpdbggkbaaGreat
open Go.RowKit Go.Sort
namespace N
variable {B:Nat} {w0 w:World} {l:List Ch} {v:Value} {k:Int}
theorem xX {w w':World} {v:Value} (h:w.grownBy w' v.ownBlock):dB (fun b=>b ∈ v.ownBlock.toList) w w':=by
 cases e:v.ownBlock with
 |none=>rw[e]at h;exact⟨h.1,h.2,h.3,h.4,fun b hb _=>h.5 b hb (by simp)⟩
 |some g=>rw[e]at h;exact dB.of_grown h (by simp)
def sV (v:Value) (ps:List (Int × Int)):Ch:=pH.ch [v] ps
def sN (v:Value) (ps:List (Int × Int)):Ch:=pO.ch [v] ps
theorem aE8 (w:World) (x:Option Addr) (c:Nat) (k:Int):Calls Tryz.prog 53 #[.slice x 0 c,.int .i64 k] w fun r w'=>r=.returned (.int .i64 k)/\w=w':=by
 go_enter Tryz.func53,Tryz.ntmps53;go_wp2;refine wp_loop_rounds 1 ?_;rw[rounds_succ];go_wp2;go_ret;exact⟨rfl,rfl⟩
theorem aJZ {zs:List Int} (h:M B w0 w (tX v zs::l)) (hk:0<=k) (hc:k+fP zs<=200000000):
  Calls Tryz.prog 53 #[v,.int .i64 k] w fun r w'=>r=.returned (.int .i64 (k+fP zs))/\M B w0 w' (tX v (mkI zs k)::l):=by
 have hn:(zs.length:Int)<=200000000:=by unfold fP at hc;omega
 obtain⟨f,hf,_⟩:=h.first;obtain⟨v',e,_,o⟩:=hO hf;cases e
 by_cases hz:zs=[]
 ·obtain⟨x,c,rfl,_⟩:=kI hf
  subst hz;refine (aE8 w x c k).mono ?_;rintro r w' ⟨rfl,rfl⟩;exact⟨by rw[show fP []=0 from rfl,Int.add_zero],h⟩
 obtain⟨o,_⟩:=o hz;have hk2:k<=200000000:=by have:=nG zs;omega
 refine (aCk w 0 v zs k o (by omega) hk (by omega)).mono ?_;rintro r w' ⟨rfl,o',hg⟩;refine⟨rfl,h.turn fun f hf nd lo=>?_⟩;obtain⟨_,e,_,q⟩:=hO hf;cases e;obtain⟨_,rfl⟩:=q hz;exact⟨xX hg,_,aAf o',nd,fun b hb=>.inl hb⟩
theorem aF9 {zs:List Int} (h:M B w0 w (tX v zs::l)) (hk:0<=k) (hc:k+fP zs<=100000000):
  Calls Tryz.prog 53 #[v,.int .i64 k] w fun r w'=>r=.returned (.int .i64 (k+fP zs))/\M B w0 w' (tX v (mkI zs k)::l):=aJZ h hk (by omega)
theorem aEr (w:World) (x:Option Addr) (c:Nat) (k:Int):Calls Tryz.prog 130 #[.slice x 0 c,.int .i64 k] w fun r w'=>r=.returned (.int .i64 k)/\w=w':=by
 go_enter Tryz.func130,Tryz.ntmps130;go_wp2;refine wp_loop_rounds 1 ?_;rw[rounds_succ];go_wp2;go_ret;exact⟨rfl,rfl⟩
theorem aKJ {ps:List (Int × Int)} (h:M B w0 w (sV v ps::l)) (hk:0<=k) (hc:k+2 * (ps.length:Int)<=100000000):
  Calls Tryz.prog 130 #[v,.int .i64 k] w fun r w'=>r=.returned (.int .i64 (k+2 * (ps.length:Int)))/\M B w0 w' (sV v (oO ps k)::l):=by
 obtain⟨f,hf,_⟩:=h.first;obtain⟨v',e,_,o⟩:=rQ hf;cases e
 by_cases hz:ps=[]
 ·obtain⟨x,c,rfl,_⟩:=kI hf
  subst hz;refine (aEr w x c k).mono ?_;rintro r w' ⟨rfl,rfl⟩;exact⟨by simp,h⟩
 obtain⟨o,_⟩:=o hz;refine (T.aAo w 0 v ps k o (by omega) hk (by omega)).mono ?_;rintro r w' ⟨rfl,o',hg⟩;refine⟨rfl,h.turn fun f hf nd lo=>?_⟩;obtain⟨_,e,_,q⟩:=rQ hf;cases e;obtain⟨_,rfl⟩:=q hz;exact⟨xX hg,_,aBn o',nd,fun b hb=>.inl hb⟩
theorem aDv (w:World) (x:Option Addr) (c:Nat) (k:Int):Calls Tryz.prog 131 #[.slice x 0 c,.int .i64 k] w fun r w'=>r=.returned (.int .i64 k)/\w=w':=by
 go_enter Tryz.func131,Tryz.ntmps131;go_wp2;refine wp_loop_rounds 1 ?_;rw[rounds_succ];go_wp2;go_ret;exact⟨rfl,rfl⟩
theorem aJi {ps:List (Int × Int)} (h:M B w0 w (sN v ps::l)) (hk:0<=k) (hc:k+2 * (ps.length:Int)<=100000000):
  Calls Tryz.prog 131 #[v,.int .i64 k] w fun r w'=>r=.returned (.int .i64 (k+2 * (ps.length:Int)))/\M B w0 w' (sN v (oO ps k)::l):=by
 obtain⟨f,hf,_⟩:=h.first;obtain⟨v',e,_,o⟩:=rZ hf;cases e
 by_cases hz:ps=[]
 ·obtain⟨x,c,rfl,_⟩:=kI hf
  subst hz;refine (aDv w x c k).mono ?_;rintro r w' ⟨rfl,rfl⟩;exact⟨by simp,h⟩
 obtain⟨o,_⟩:=o hz;refine (K.aAn w 0 v ps k o (by omega) hk (by omega)).mono ?_;rintro r w' ⟨rfl,o',hg⟩;refine⟨rfl,h.turn fun f hf nd lo=>?_⟩;obtain⟨_,e,_,q⟩:=rZ hf;cases e;obtain⟨_,rfl⟩:=q hz;exact⟨xX hg,_,aAY o',nd,fun b hb=>.inl hb⟩
theorem aCR {xs:List (List Int)} (h:M B w0 w (nD v xs::l)) (hk:0<=k) (hc:k+bL fP xs<=100000000):
  Calls Tryz.prog 129 #[v,.int .i64 k] w fun r w'=>r=.returned (.int .i64 (k+bL fP xs))/\M B w0 w' (nD v (mkL mkI fP xs k)::l):=by
 obtain⟨x,n,c,rfl,hn,hm⟩:∃x n c,v=.slice x n c/\n=xs.length/\n<=maxLen:=by obtain⟨f,hf,_⟩:=h.first;obtain⟨_,_,e,q1,q2⟩:=aS hf;exact⟨_,_,_,e,rfl,Nat.le_trans q1 q2⟩
 unfold maxLen at hm;have HC:=hd_ (And.intro hk hc);have HN:=hd_ hn;have H:=hd_ h;clear h hk hc hn;go_enter Tryz.func129,Tryz.ntmps129;go_wp2;go_loopw [1,5] (fun q i wr=>∃j:Nat,j<=n/\i=.int .i64 (j:Int)/\q=.int .i64 (k+bL fP (xs.take j))/\M B w0 wr (nD (.slice x n c) (mkL mkI fP (xs.take j) k++xs.drop j)::l)) (fun _ i _=>n - (intOf i).toNat)
 case atStart=>exact⟨0,Nat.zero_le _,rfl,by rw[List.take_zero,gZ,Int.add_zero],H.out⟩
 case round=>
  clear H;obtain⟨j,hj,rfl,rfl,h⟩:=hrel;obtain⟨kk,hkk⟩:∃kk,kk=k+bL fP (xs.take j):=⟨_,rfl⟩
  have KK:=hd_ hkk;rw[<-hkk]
  by_cases hlt:j<n
  ·obtain⟨a,ha⟩:∃a,xs[j]? =some a:=⟨_,List.getElem?_eq_getElem (by rw[<-HN.out];exact hlt)⟩
   obtain⟨e1,e2⟩:=rG (f:=mkI) (c:=fP) ha k;rw[<-hkk]at e1;obtain⟨g,cap,ci,e,_,h1⟩:=M.open gW h e2;injection e with q1 q2 q3
   subst q1 q3;obtain⟨y,cy,rfl⟩:∃y cy,ci=[.slice y a.length cy]:=by
    obtain⟨f,hf,_⟩:=h1.first;obtain⟨v,e,_⟩:=hO hf;subst e;obtain⟨y,c,rfl,_⟩:=kI hf;exact⟨_,_,rfl⟩
   have hjl:j<(mkL mkI fP (xs.take j) k++xs.drop j).length:=by rw[<-q2];exact hlt
   have cz:=h1.p1.hcell1 hjl;have k0:0<=kk:=by have:=fH nG (xs.take j);have:=HC.out.1;omega
   have k1:kk+fP a<=100000000:=by
    have:=kD nG xs (j+1);rw[gF ha]at this;have:=HC.out.2;omega
   have SP:=hd_ (gF (c:=fP) ha);have E1:=hd_ e1;have HL:=hd_ hjl;have KC:=hd_ (aF9 h1 k0 k1);have j0:(0:Int)<=(j:Int):=by omega
   have j1:(j:Int)<(n:Int):=by omega
   obtain⟨m,hm2⟩:∃m,m=a.length:=⟨_,rfl⟩
   rw[<-hm2]at KC cz;clear h h1 e1 e2 q2 hjl hkk ha hm2
   go_wp2_with fail
   refine KC.out.mono ?_;rintro r w1 ⟨rfl,h2⟩;have F:=hd_ (show M B w0 w1 (nD _ _::l)from E1.out ▸ h2.close HL.out);clear h2 KC cz;go_wp2;go_roundw
   case rel=>exact⟨j+1,hlt,by go_num,(by rw[SP.out, <-Int.add_assoc, <-KK.out];try rfl),F.out⟩
   case measure=>simp[intOf];omega
  ·obtain rfl:j=n:=by omega
   have F:=hd_ h;clear h;go_wp2;go_ret;have e1:xs.take j=xs:=List.take_of_length_le (by rw[HN.out];exact Nat.le_refl _);have e2:xs.drop j=[]:=List.drop_eq_nil_of_le (by rw[HN.out];exact Nat.le_refl _);have F:=F.out;rw[e1,e2,List.append_nil]at F;rw[KK.out,e1];exact⟨rfl,F⟩
theorem aH4 {xs:List (List (List Int))} (h:M B w0 w (nX v xs::l)) (hk:0<=k) (hc:k+bL iR xs<=100000000):
  Calls Tryz.prog 127 #[v,.int .i64 k] w fun r w'=>r=.returned (.int .i64 (k+bL iR xs))/\M B w0 w' (nX v (mkL mkR iR xs k)::l):=by
 obtain⟨x,n,c,rfl,hn,hm⟩:∃x n c,v=.slice x n c/\n=xs.length/\n<=maxLen:=by obtain⟨f,hf,_⟩:=h.first;obtain⟨_,_,e,q1,q2⟩:=aS hf;exact⟨_,_,_,e,rfl,Nat.le_trans q1 q2⟩
 unfold maxLen at hm;have HC:=hd_ (And.intro hk hc);have HN:=hd_ hn;have H:=hd_ h;clear h hk hc hn;go_enter Tryz.func127,Tryz.ntmps127;go_wp2;go_loopw [1,5] (fun q i wr=>∃j:Nat,j<=n/\i=.int .i64 (j:Int)/\q=.int .i64 (k+bL iR (xs.take j))/\M B w0 wr (nX (.slice x n c) (mkL mkR iR (xs.take j) k++xs.drop j)::l)) (fun _ i _=>n - (intOf i).toNat)
 case atStart=>exact⟨0,Nat.zero_le _,rfl,by rw[List.take_zero,gZ,Int.add_zero],H.out⟩
 case round=>
  clear H;obtain⟨j,hj,rfl,rfl,h⟩:=hrel;obtain⟨kk,hkk⟩:∃kk,kk=k+bL iR (xs.take j):=⟨_,rfl⟩
  have KK:=hd_ hkk;rw[<-hkk]
  by_cases hlt:j<n
  ·obtain⟨a,ha⟩:∃a,xs[j]? =some a:=⟨_,List.getElem?_eq_getElem (by rw[<-HN.out];exact hlt)⟩
   obtain⟨e1,e2⟩:=rG (f:=mkR) (c:=iR) ha k;rw[<-hkk]at e1;obtain⟨g,cap,ci,e,_,h1⟩:=M.open cB h e2;injection e with q1 q2 q3
   subst q1 q3;obtain⟨y,cy,rfl⟩:∃y cy,ci=[.slice y a.length cy]:=by
    obtain⟨f,hf,_⟩:=h1.first;obtain⟨v,_,_,e,_⟩:=lB hf;subst e;obtain⟨y,c,q,_⟩:=aS hf;cases q;exact⟨_,_,rfl⟩
   have hjl:j<(mkL mkR iR (xs.take j) k++xs.drop j).length:=by rw[<-q2];exact hlt
   have cz:=h1.p1.hcell1 hjl;have k0:0<=kk:=by have:=fH iT (xs.take j);have:=HC.out.1;omega
   have k1:kk+iR a<=100000000:=by
    have:=kD iT xs (j+1);rw[gF ha]at this;have:=HC.out.2;omega
   have SP:=hd_ (gF (c:=iR) ha);have E1:=hd_ e1;have HL:=hd_ hjl;have KC:=hd_ (aCR h1 k0 k1);have j0:(0:Int)<=(j:Int):=by omega
   have j1:(j:Int)<(n:Int):=by omega
   obtain⟨m,hm2⟩:∃m,m=a.length:=⟨_,rfl⟩
   rw[<-hm2]at KC cz;clear h h1 e1 e2 q2 hjl hkk ha hm2
   go_wp2_with fail
   refine KC.out.mono ?_;rintro r w1 ⟨rfl,h2⟩;have F:=hd_ (show M B w0 w1 (nX _ _::l)from E1.out ▸ h2.close HL.out);clear h2 KC cz;go_wp2;go_roundw
   case rel=>exact⟨j+1,hlt,by go_num,(by rw[SP.out, <-Int.add_assoc, <-KK.out];try rfl),F.out⟩
   case measure=>simp[intOf];omega
  ·obtain rfl:j=n:=by omega
   have F:=hd_ h;clear h;go_wp2;go_ret;have e1:xs.take j=xs:=List.take_of_length_le (by rw[HN.out];exact Nat.le_refl _);have e2:xs.drop j=[]:=List.drop_eq_nil_of_le (by rw[HN.out];exact Nat.le_refl _);have F:=F.out;rw[e1,e2,List.append_nil]at F;rw[KK.out,e1];exact⟨rfl,F⟩
variable {B:Nat} {w0 w:World} {l:List Ch} {v:Value} {k:Int}
theorem _root_.Go.Proofs.YtcblbdpdbggkbaaGreat.M.sumParts {V:SV} {s:Sm} (h:M B w0 w (bC.ch [.slice V.xr V.nr V.cr,.slice V.xf V.nf V.cf,.slice V.xt V.nt V.ct,.int .i64 s.lo,.int .i64 s.al,.slice V.xk V.nk V.ck,.int .i64 s.ka] s::l)):M B w0 w (nD (.slice V.xr V.nr V.cr) s.rs::tX (.slice V.xf V.nf V.cf) s.zs::sV (.slice V.xt V.nt V.ct) s.ps::sN (.slice V.xk V.nk V.ck) s.ks::l):=by
 have e:M B w0 w ((nD (.slice V.xr V.nr V.cr) s.rs).sep ((tX (.slice V.xf V.nf V.cf) s.zs).sep ((sV (.slice V.xt V.nt V.ct) s.ps).sep (sN (.slice V.xk V.nk V.ck) s.ks)))::l):=h.to fun f hf nd=>by
  obtain⟨U,f1,f2,f3,f4,e,rfl,h1,h2,h3,h4⟩:=hf;obtain⟨a1,a2,a3,a4⟩:SV.r U=SV.r V/\SV.f U=SV.f V/\SV.t U=SV.t V/\SV.k U=SV.k V:=by
   simp only[List.cons.injEq,Value.slice.injEq,and_true,true_and]at e;obtain⟨⟨a1,a2,a3⟩,⟨b1,b2,b3⟩,⟨c1,c2,c3⟩,d1,d2,d3⟩:=e;simp only[SV.r,SV.f,SV.t,SV.k,a1,a2,a3,b1,b2,b3,c1,c2,c3,d1,d2,d3,and_self]
  rw[a1]at h1;rw[a2]at h2;rw[a3]at h3;rw[a4]at h4;exact⟨_,⟨f1,_,rfl,h1,f2,_,rfl,h2,f3,f4,rfl,h3,h4⟩,nd,fun b hb=>hb⟩
 exact (e.two.p1.two.p1.two.p1).perm (List.reverse_perm [_,_,_,_] |>.append_right l)
theorem _root_.Go.Proofs.YtcblbdpdbggkbaaGreat.M.sumWhole {V:SV} {s:Sm} (h:M B w0 w (nD (.slice V.xr V.nr V.cr) s.rs::tX (.slice V.xf V.nf V.cf) s.zs::sV (.slice V.xt V.nt V.ct) s.ps::sN (.slice V.xk V.nk V.ck) s.ks::l)):M B w0 w (bC.ch [.slice V.xr V.nr V.cr,.slice V.xf V.nf V.cf,.slice V.xt V.nt V.ct,.int .i64 s.lo,.int .i64 s.al,.slice V.xk V.nk V.ck,.int .i64 s.ka] s::l):=
 (M.sep (M.p1 (M.sep (M.p1 (M.sep (M.p1 (h.perm (List.reverse_perm [_,_,_,_] |>.symm.append_right l)))))))).to fun f hf nd=>by
  obtain⟨f1,_,rfl,h1,f2,_,rfl,h2,f3,f4,rfl,h3,h4⟩:=hf;exact⟨_,⟨V,f1,f2,f3,f4,rfl,rfl,h1,h2,h3,h4⟩,nd,fun b hb=>hb⟩
theorem aBN {xs:List En} (h:M B w0 w (gH v xs::l)) (hk:0<=k) (hc:k+mY xs<=100000000):
  Calls Tryz.prog 56 #[v,.int .i64 k] w fun r w'=>r=.returned (.int .i64 (k+mY xs))/\M B w0 w' (gH v (mkK xs k)::l):=by
 obtain⟨x,n,c,rfl,hn,hm⟩:∃x n c,v=.slice x n c/\n=xs.length/\n<=maxLen:=by obtain⟨f,hf,_⟩:=h.first;obtain⟨_,_,e,q1,q2⟩:=aS hf;exact⟨_,_,_,e,rfl,Nat.le_trans q1 q2⟩
 unfold maxLen at hm;unfold mY mkK at *;have HC:=hd_ (And.intro hk hc);have HN:=hd_ hn;have H:=hd_ h;clear h hk hc hn;go_enter Tryz.func56,Tryz.ntmps56;go_wp2;go_loopw [1,5] (fun q i wr=>∃j:Nat,j<=n/\i=.int .i64 (j:Int)/\q=.int .i64 (k+bL jL (xs.take j))/\M B w0 wr (gH (.slice x n c) (mkL mkE jL (xs.take j) k++xs.drop j)::l)) (fun _ i _=>n - (intOf i).toNat)
 case atStart=>exact⟨0,Nat.zero_le _,rfl,by rw[List.take_zero,gZ,Int.add_zero],H.out⟩
 case round=>
  clear H;obtain⟨j,hj,rfl,rfl,h⟩:=hrel;obtain⟨kk,hkk⟩:∃kk,kk=k+bL jL (xs.take j):=⟨_,rfl⟩
  have KK:=hd_ hkk;rw[<-hkk]
  by_cases hlt:j<n
  ·obtain⟨a,ha⟩:∃a,xs[j]? =some a:=⟨_,List.getElem?_eq_getElem (by rw[<-HN.out];exact hlt)⟩
   obtain⟨e1,e2⟩:=rG (f:=mkE) (c:=jL) ha k;rw[<-hkk]at e1;obtain⟨g,cap,ci,e,_,h1⟩:=M.open aU h e2;injection e with q1 q2 q3
   subst q1 q3;obtain⟨V,rfl⟩:∃V:SV,ci=[.int .i64 a.node,.int .i64 a.born,.int .i64 a.num,.slice V.xr V.nr V.cr,.slice V.xf V.nf V.cf,.slice V.xt V.nt V.ct,.int .i64 (a.s).lo,.int .i64 (a.s).al,.slice V.xk V.nk V.ck,.int .i64 (a.s).ka]:=by
    obtain⟨f,hf,_⟩:=h1.first;obtain⟨cs,rfl,hs⟩:=kL.1 hf;obtain⟨V,_,_,_,_,rfl,_⟩:=hs;exact⟨V,rfl⟩
   have h2:M B w0 wr (bC.ch [.slice V.xr V.nr V.cr,.slice V.xf V.nf V.cf,.slice V.xt V.nt V.ct,.int .i64 (a.s).lo,.int .i64 (a.s).al,.slice V.xk V.nk V.ck,.int .i64 (a.s).ka] a.s::jE aU 64 10 j (.slice (some ⟨g,0,none⟩) n c) (mkL mkE jL (xs.take j) k++xs.drop j) [.int .i64 a.node,.int .i64 a.born,.int .i64 a.num,.slice V.xr V.nr V.cr,.slice V.xf V.nf V.cf,.slice V.xt V.nt V.ct,.int .i64 (a.s).lo,.int .i64 (a.s).al,.slice V.xk V.nk V.ck,.int .i64 (a.s).ka]::l):=h1.to fun f hf nd=>by
    obtain⟨cs,e,hs⟩:=kL.1 hf;simp only[List.cons.injEq,true_and]at e;rw[<-e]at hs;exact⟨f,hs,nd,fun b hb=>hb⟩
   have hjl:j<(mkL mkE jL (xs.take j) k++xs.drop j).length:=by rw[<-q2];exact hlt
   have H3:=hd_ (h2.sumParts.p4);have k0:0<=kk:=by have:=fH rT (xs.take j);have:=HC.out.1;omega
   have k1:kk+jL a<=100000000:=by
    have:=kD rT xs (j+1);rw[gF ha]at this;have:=HC.out.2;omega
   have SP:=hd_ (gF (c:=jL) ha);have E1:=hd_ e1;have HL:=hd_ hjl;have j0:(0:Int)<=(j:Int):=by omega
   have j1:(j:Int)<(n:Int):=by omega
   have ec:jL a=3+aDy a.s:=rfl;have es:aDy a.s=iR a.s.rs+a.s.zs.length+2 * a.s.ps.length+2+2 * a.s.ks.length+1:=rfl;have nr:=iT a.s.rs;have CB:=hd_ (show kk+3+iR a.s.rs+a.s.zs.length+2 * a.s.ps.length+2+2 * a.s.ks.length+1<=100000000 by omega);have b1:kk<=100000000:=by omega
   obtain⟨a0,a1,a2,sm⟩:=a;obtain⟨rs,zs,ps,lo,al,ks,ka⟩:=sm;simp only at H3 CB E1 SP;have z0:=H3.out.hcell (j:=0) HL.out rfl;have z1:=H3.out.hcell (j:=1) HL.out rfl;have z2:=H3.out.hcell (j:=2) HL.out rfl;have z3:=H3.out.hcell (j:=3) HL.out rfl;have fz:=H3.out.hfree;simp only[Nat.add_zero]at z0;clear h h1 h2 e1 e2 q2 hjl hkk ha k1 ec es nr
   go_wp2_with fail
   rw[show kk+1+1+1=kk+3 by omega];have h4:=((H3.out.hset (j:=0) HL.out (by decide) (.int .i64 kk)).hset (j:=1) HL.out (by decide) (.int .i64 (kk+1))).hset (j:=2) HL.out (by decide) (.int .i64 (kk+1+1));simp only[List.set_cons_zero,List.set_cons_succ,Nat.add_zero]at h4;rw[show kk+1+1=kk+2 by omega]at h4 ⊢;have nr:=iT rs
   refine (aCR h4.p1 (k:=kk+3) (by omega) (by have:=CB.out;show kk+3+iR rs<=100000000;omega)).mono ?_;rintro r w1 ⟨rfl,h5⟩;rw[show kk+3+bL fP rs=kk+3+iR rs from rfl];obtain⟨k4,hk4⟩:∃k4,k4=kk+3+iR rs:=⟨_,rfl⟩
   rw[<-hk4];have K4:=hd_ hk4;have H5:=hd_ h5;clear h4 h5 z0 z1 z2 z3 fz H3 hk4 nr;have z4:=H5.out.p1.hcell (j:=4) HL.out rfl
   go_wp2_with fail
   have nr:=iT rs;refine (aF9 H5.out.p2 (k:=k4) (by have:=K4.out;omega) (by have:=K4.out;have:=CB.out;show k4+zs.length<=100000000;omega)).mono ?_;rintro r w2 ⟨rfl,h6⟩;rw[show k4+fP zs=k4+zs.length from rfl];obtain⟨k5,hk5⟩:∃k5,k5=k4+zs.length:=⟨_,rfl⟩
   rw[<-hk5];have K5:=hd_ hk5;have H6:=hd_ h6;clear h6 z4 H5 hk5 nr;have z5:=H6.out.p2.hcell (j:=5) HL.out rfl
   go_wp2_with fail
   have nr:=iT rs;refine (aKJ H6.out.p3 (k:=k5) (by have:=K4.out;have:=K5.out;omega) (by have:=K4.out;have:=K5.out;have:=CB.out;omega)).mono ?_;rintro r w3 ⟨rfl,h7⟩;obtain⟨k6,hk6⟩:∃k6,k6=k5+2 * (ps.length:Int):=⟨_,rfl⟩
   rw[<-hk6];have K6:=hd_ hk6;have H7:=hd_ h7;have c0:0<=k6:=by have:=K4.out;have:=K5.out;omega
   have c1:k6<=100000000:=by have:=K4.out;have:=K5.out;have:=CB.out;omega
   clear h7 z5 H6 hk6 nr;have z6:=H7.out.p3.hcell (j:=6) HL.out rfl;have z7:=H7.out.p3.hcell (j:=7) HL.out rfl;have z8:=H7.out.p3.hcell (j:=8) HL.out rfl;have fz:=H7.out.p3.hfree
   go_wp2_with fail
   have h8:=(H7.out.p3.hset (j:=6) HL.out (by decide) (.int .i64 k6)).hset (j:=7) HL.out (by decide) (.int .i64 (k6+1));simp only[List.set_cons_zero,List.set_cons_succ]at h8;rw[show k6+1+1=k6+2 by omega];refine (aJi h8.p4 (k:=k6+2) (by omega) (by have:=iT rs;have:=K4.out;have:=K5.out;have:=K6.out;have:=CB.out;omega)).mono ?_;rintro r w4 ⟨rfl,h9⟩
   obtain⟨k7,hk7⟩:∃k7,k7=k6+2+2 * (ks.length:Int):=⟨_,rfl⟩
   rw[<-hk7];have d0:0<=k7:=by omega
   have d1:k7<=100000000:=by have:=iT rs;have:=K4.out;have:=K5.out;have:=K6.out;have:=CB.out;omega
   have K7:=hd_ hk7;have H9:=hd_ h9;clear h8 h9 z6 z7 z8 fz H7 hk7;have z9:=H9.out.p1.hcell (j:=9) HL.out rfl;have fz:=H9.out.p1.hfree;have h10:=H9.out.p1.hset (j:=9) HL.out (by decide) (.int .i64 k7);simp only[List.set_cons_zero,List.set_cons_succ]at h10;have h11:=(h10.perm (List.reverse_perm [_,_,_,_,_] |>.symm.append_right l))
   have h12:=(M.entry (i:=kk) (born:=kk+1) (num:=kk+2) (M.sumWhole (V:=V) (s:=⟨mkR rs (kk+3),mkI zs k4,oO ps k5,k6,k6+1,oO ks (k6+2),k7⟩) h11)).close HL.out;have e:mkE ⟨a0,a1,a2,⟨rs,zs,ps,lo,al,ks,ka⟩⟩ kk=⟨kk,kk+1,kk+2,⟨mkR rs (kk+3),mkI zs k4,oO ps k5,k6,k6+1,oO ks (k6+2),k7⟩⟩:=by rw[K7.out,K6.out,K5.out,K4.out];rfl
   rw[<-e,E1.out]at h12;have F:=hd_ h12;have E7:=hd_ (show k7+1=k+bL jL (xs.take (j+1)) by
        rw[SP.out, <-Int.add_assoc, <-KK.out]
        show k7+1=kk+(3+(iR rs+zs.length+2 * ps.length+2+2 * ks.length+1))
        have:=K4.out;have:=K5.out;have:=K6.out;have:=K7.out
        omega)
   clear h10 h11 h12 e H9;go_wp2;go_roundw
   case rel=>exact⟨j+1,hlt,by go_num,by rw[E7.out],F.out⟩
   case measure=>simp[intOf];omega
  ·obtain rfl:j=n:=by omega
   have F:=hd_ h;clear h;go_wp2;go_ret;have e1:xs.take j=xs:=List.take_of_length_le (by rw[HN.out];exact Nat.le_refl _);have e2:xs.drop j=[]:=List.drop_eq_nil_of_le (by rw[HN.out];exact Nat.le_refl _);have F:=F.out;rw[e1,e2,List.append_nil]at F;rw[KK.out,e1];exact⟨rfl,F⟩
variable {B:Nat} {w0 w:World} {l:List Ch} {v:Value} {k:Int}
theorem aIN {xs:List Nd} (h:M B w0 w (lJ v xs::l)) (hk:0<=k) (hc:k+bL iK xs<=100000000):
  Calls Tryz.prog 124 #[v,.int .i64 k] w fun r w'=>r=.returned (.int .i64 (k+bL iK xs))/\M B w0 w' (lJ v (mkL mkN iK xs k)::l):=by
 obtain⟨x,n,c,rfl,hn,hm⟩:∃x n c,v=.slice x n c/\n=xs.length/\n<=maxLen:=by obtain⟨f,hf,_⟩:=h.first;obtain⟨_,_,e,q1,q2⟩:=aS hf;exact⟨_,_,_,e,rfl,Nat.le_trans q1 q2⟩
 unfold maxLen at hm;have HC:=hd_ (And.intro hk hc);have HN:=hd_ hn;have H:=hd_ h;clear h hk hc hn;go_enter Tryz.func124,Tryz.ntmps124;go_wp2;go_loopw [1,5] (fun q i wr=>∃j:Nat,j<=n/\i=.int .i64 (j:Int)/\q=.int .i64 (k+bL iK (xs.take j))/\M B w0 wr (lJ (.slice x n c) (mkL mkN iK (xs.take j) k++xs.drop j)::l)) (fun _ i _=>n - (intOf i).toNat)
 case atStart=>exact⟨0,Nat.zero_le _,rfl,by rw[List.take_zero,gZ,Int.add_zero],H.out⟩
 case round=>
  clear H;obtain⟨j,hj,rfl,rfl,h⟩:=hrel;obtain⟨kk,hkk⟩:∃kk,kk=k+bL iK (xs.take j):=⟨_,rfl⟩
  have KK:=hd_ hkk;rw[<-hkk]
  by_cases hlt:j<n
  ·obtain⟨a,ha⟩:∃a,xs[j]? =some a:=⟨_,List.getElem?_eq_getElem (by rw[<-HN.out];exact hlt)⟩
   obtain⟨e1,e2⟩:=rG (f:=mkN) (c:=iK) ha k;rw[<-hkk]at e1;obtain⟨g,cap,ci,e,_,h1⟩:=M.open (cC (T:=TY)) h e2;injection e with q1 q2 q3
   subst q1 q3;obtain⟨y,m,cy,rfl⟩:∃y m cy,ci=[.int .i64 a.born,.slice y m cy,.int .i64 a.beacon,.int .i64 a.level,.int .i64 a.up]:=by
    obtain⟨f,hf,_⟩:=h1.first;obtain⟨u,rfl,hs⟩:=lX.1 hf;obtain⟨y,c,rfl,_⟩:=aS hs;exact⟨y,_,c,rfl⟩
   have h2:M B w0 wr (gH (.slice y m cy) a.known::jE (cC (T:=TY)) 55 5 j (.slice (some ⟨g,0,none⟩) n c) (mkL mkN iK (xs.take j) k++xs.drop j) [.int .i64 a.born,.slice y m cy,.int .i64 a.beacon,.int .i64 a.level,.int .i64 a.up]::l):=h1.to fun f hf nd=>by
    obtain⟨u,e,hs⟩:=lX.1 hf;simp only[List.cons.injEq,true_and,and_true]at e;rw[<-e]at hs;exact⟨f,hs,nd,fun b hb=>hb⟩
   have hjl:j<(mkL mkN iK (xs.take j) k++xs.drop j).length:=by rw[<-q2];exact hlt
   have H3:=hd_ h2.p1;have k0:0<=kk:=by have:=fH xA (xs.take j);have:=HC.out.1;omega
   have k1:kk+iK a<=100000000:=by
    have:=kD xA xs (j+1);rw[gF ha]at this;have:=HC.out.2;omega
   have SP:=hd_ (gF (c:=iK) ha);have E1:=hd_ e1;have HL:=hd_ hjl;have j0:(0:Int)<=(j:Int):=by omega
   have j1:(j:Int)<(n:Int):=by omega
   have cn:=uA a.known;have CB:=hd_ (show kk+(1+mY a.known+3)<=100000000 from k1);have b1:kk<=100000000:=by have:=CB.out;omega
   clear h h1 h2 e1 e2 q2 hjl hkk ha k1;have z0:=H3.out.hcell (j:=0) HL.out rfl;have z1:=H3.out.hcell (j:=1) HL.out rfl;have fz:=H3.out.hfree;simp only[Nat.add_zero]at z0
   go_wp2_with fail
   have h4:=H3.out.hset (j:=0) HL.out (by decide) (.int .i64 kk);simp only[List.set_cons_zero,List.set_cons_succ,Nat.add_zero]at h4;refine (aBN h4.p1 (k:=kk+1) (by omega) (by have:=CB.out;omega)).mono ?_;rintro r w1 ⟨rfl,h5⟩;obtain⟨k4,hk4⟩:∃k4,k4=kk+1+mY a.known:=⟨_,rfl⟩
   rw[<-hk4];have K4:=hd_ hk4;have H5:=hd_ h5.p1;have c0:0<=k4:=by omega
   have c1:k4<=100000000:=by have:=CB.out;omega
   clear h4 h5 z0 z1 fz H3 hk4;have z2:=H5.out.hcell (j:=2) HL.out rfl;have z3:=H5.out.hcell (j:=3) HL.out rfl;have z4:=H5.out.hcell (j:=4) HL.out rfl;have fz:=H5.out.hfree;have h10:=((H5.out.hset (j:=2) HL.out (by decide) (.int .i64 k4)).hset (j:=3) HL.out (by decide) (.int .i64 (k4+1))).hset (j:=4) HL.out (by decide) (.int .i64 (k4+1+1));simp only[List.set_cons_zero,List.set_cons_succ]at h10
   have h12:=M.close (M.node (born:=kk) (beacon:=k4) (level:=k4+1) (up:=k4+1+1) h10.p1) HL.out;have e:mkN a kk=⟨kk,mkK a.known (kk+1),k4,k4+1,k4+1+1⟩:=by rw[K4.out];unfold mkN;congr 1;omega
   rw[<-e,E1.out]at h12;have F:=hd_ (show M B w0 _ (lJ _ _::l)from h12);have E7:=hd_ (show k4+1+1+1=k+bL iK (xs.take (j+1)) by
        rw[SP.out, <-Int.add_assoc, <-KK.out]
        show k4+1+1+1=kk+(1+mY a.known+3)
        have:=K4.out
        omega)
   clear h10 h12 e H5;go_wp2;go_roundw
   case rel=>exact⟨j+1,hlt,by go_num,by rw[E7.out],F.out⟩
   case measure=>simp[intOf];omega
  ·obtain rfl:j=n:=by omega
   have F:=hd_ h;clear h;go_wp2;go_ret;have e1:xs.take j=xs:=List.take_of_length_le (by rw[HN.out];exact Nat.le_refl _);have e2:xs.drop j=[]:=List.drop_eq_nil_of_le (by rw[HN.out];exact Nat.le_refl _);have F:=F.out;rw[e1,e2,List.append_nil]at F;rw[KK.out,e1];exact⟨rfl,F⟩
theorem aJz {xs:List Wd} (h:M B w0 w (lF v xs::l)) (hk:0<=k) (hc:k+bL jW xs<=100000000):
  Calls Tryz.prog 126 #[v,.int .i64 k] w fun r w'=>r=.returned (.int .i64 (k+bL jW xs))/\M B w0 w' (lF v (mkL mkW jW xs k)::l):=by
 obtain⟨x,n,c,rfl,hn,hm⟩:∃x n c,v=.slice x n c/\n=xs.length/\n<=maxLen:=by obtain⟨f,hf,_⟩:=h.first;obtain⟨_,_,e,q1,q2⟩:=aS hf;exact⟨_,_,_,e,rfl,Nat.le_trans q1 q2⟩
 unfold maxLen at hm;have HC:=hd_ (And.intro hk hc);have HN:=hd_ hn;have H:=hd_ h;clear h hk hc hn;go_enter Tryz.func126,Tryz.ntmps126;go_wp2;go_loopw [1,5] (fun q i wr=>∃j:Nat,j<=n/\i=.int .i64 (j:Int)/\q=.int .i64 (k+bL jW (xs.take j))/\M B w0 wr (lF (.slice x n c) (mkL mkW jW (xs.take j) k++xs.drop j)::l)) (fun _ i _=>n - (intOf i).toNat)
 case atStart=>exact⟨0,Nat.zero_le _,rfl,by rw[List.take_zero,gZ,Int.add_zero],H.out⟩
 case round=>
  clear H;obtain⟨j,hj,rfl,rfl,h⟩:=hrel;obtain⟨kk,hkk⟩:∃kk,kk=k+bL jW (xs.take j):=⟨_,rfl⟩
  have KK:=hd_ hkk;rw[<-hkk]
  by_cases hlt:j<n
  ·obtain⟨a,ha⟩:∃a,xs[j]? =some a:=⟨_,List.getElem?_eq_getElem (by rw[<-HN.out];exact hlt)⟩
   obtain⟨e1,e2⟩:=rG (f:=mkW) (c:=jW) ha k;rw[<-hkk]at e1;obtain⟨g,cap,ci,e,_,h1⟩:=M.open (fE (T:=TY)) h e2;injection e with q1 q2 q3
   subst q1 q3;obtain⟨y,m,cy,rfl⟩:∃y m cy,ci=[.int .i64 a.kind,.int .i64 a.src,.int .i64 a.dst,.int .i64 a.beacon,.int .i64 a.level,.slice y m cy]:=by
    obtain⟨f,hf,_⟩:=h1.first;obtain⟨u,rfl,hs⟩:=lU.1 hf;obtain⟨y,c,rfl,_⟩:=aS hs;exact⟨y,_,c,rfl⟩
   have h2:M B w0 wr (gH (.slice y m cy) a.known::jE (fE (T:=TY)) 123 6 j (.slice (some ⟨g,0,none⟩) n c) (mkL mkW jW (xs.take j) k++xs.drop j) [.int .i64 a.kind,.int .i64 a.src,.int .i64 a.dst,.int .i64 a.beacon,.int .i64 a.level,.slice y m cy]::l):=h1.to fun f hf nd=>by
    obtain⟨u,e,hs⟩:=lU.1 hf;simp only[List.cons.injEq,true_and,and_true]at e;rw[<-e]at hs;exact⟨f,hs,nd,fun b hb=>hb⟩
   have hjl:j<(mkL mkW jW (xs.take j) k++xs.drop j).length:=by rw[<-q2];exact hlt
   have H3:=hd_ h2.p1;have k0:0<=kk:=by have:=fH xF (xs.take j);have:=HC.out.1;omega
   have k1:kk+jW a<=100000000:=by
    have:=kD xF xs (j+1);rw[gF ha]at this;have:=HC.out.2;omega
   have SP:=hd_ (gF (c:=jW) ha);have E1:=hd_ e1;have HL:=hd_ hjl;have j0:(0:Int)<=(j:Int):=by omega
   have j1:(j:Int)<(n:Int):=by omega
   have cn:=uA a.known;have CB:=hd_ (show kk+(5+mY a.known)<=100000000 from k1);have b1:kk<=100000000:=by have:=CB.out;omega
   clear h h1 h2 e1 e2 q2 hjl hkk ha k1;have z0:=H3.out.hcell (j:=0) HL.out rfl;have z1:=H3.out.hcell (j:=1) HL.out rfl;have z2:=H3.out.hcell (j:=2) HL.out rfl;have z3:=H3.out.hcell (j:=3) HL.out rfl;have z4:=H3.out.hcell (j:=4) HL.out rfl;have z5:=H3.out.hcell (j:=5) HL.out rfl;have fz:=H3.out.hfree;simp only[Nat.add_zero]at z0
   go_wp2_with fail
   have h4:=((((H3.out.hset (j:=0) HL.out (by decide) (.int .i64 kk)).hset (j:=1) HL.out (by decide) (.int .i64 (kk+1))).hset (j:=2) HL.out (by decide) (.int .i64 (kk+1+1))).hset (j:=3) HL.out (by decide) (.int .i64 (kk+1+1+1))).hset (j:=4) HL.out (by decide) (.int .i64 (kk+1+1+1+1));simp only[List.set_cons_zero,List.set_cons_succ,Nat.add_zero]at h4
   refine (aBN h4.p1 (k:=kk+1+1+1+1+1) (by omega) (by have:=CB.out;omega)).mono ?_;rintro r w1 ⟨rfl,h5⟩;have e5:kk+1+1+1+1+1=kk+5:=by omega
   have h12:=M.close (M.word (kind:=kk) (src:=kk+1) (dst:=kk+1+1) (beacon:=kk+1+1+1) (level:=kk+1+1+1+1) h5) HL.out;have e:mkW a kk=⟨kk,kk+1,kk+1+1,kk+1+1+1,kk+1+1+1+1,mkK a.known (kk+1+1+1+1+1)⟩:=by rw[e5];unfold mkW;congr 1<;>omega
   rw[<-e,E1.out]at h12;have F:=hd_ (show M B w0 _ (lF _ _::l)from h12);have E7:=hd_ (show kk+1+1+1+1+1+mY a.known=k+bL jW (xs.take (j+1)) by
        rw[SP.out, <-Int.add_assoc, <-KK.out]
        show kk+1+1+1+1+1+mY a.known=kk+(5+mY a.known)
        omega)
   clear h4 h5 h12 e e5 H3 z0 z1 z2 z3 z4 z5 fz;go_wp2;go_roundw
   case rel=>exact⟨j+1,hlt,by go_num,by rw[E7.out],F.out⟩
   case measure=>simp[intOf];omega
  ·obtain rfl:j=n:=by omega
   have F:=hd_ h;clear h;go_wp2;go_ret;have e1:xs.take j=xs:=List.take_of_length_le (by rw[HN.out];exact Nat.le_refl _);have e2:xs.drop j=[]:=List.drop_eq_nil_of_le (by rw[HN.out];exact Nat.le_refl _);have F:=F.out;rw[e1,e2,List.append_nil]at F;rw[KK.out,e1];exact⟨rfl,F⟩
theorem aIR {xs:List Bool} {j:Nat} (h:j<xs.length) (k:Int):(mkB (xs.take j) k++xs.drop j).set j (decide ((k+(j:Int)).tmod 3=0))=mkB (xs.take (j+1)) k++xs.drop (j+1):=by
 have ln:(mkB (xs.take j) k).length=j:=by unfold mkB;simp;omega
 rw[List.drop_eq_getElem_cons h,List.set_append_right _ _ (by omega),ln,Nat.sub_self,List.set_cons_zero];unfold mkB;rw[List.length_take,List.length_take,show min (j+1) xs.length=min j xs.length+1 by omega,List.range_succ,List.map_append,List.append_assoc,show min j xs.length=j by omega]
 rfl
theorem aKa (xs:List Bool) (k:Int):(mkB xs k).length=xs.length:=by unfold mkB;simp
theorem aIj {xs:List Bool} (h:M B w0 w (kA v xs::l)) (hk:0<=k) (hc:k+(xs.length:Int)<=100000000):
  Calls Tryz.prog 125 #[v,.int .i64 k] w fun r w'=>r=.returned (.int .i64 (k+(xs.length:Int)))/\M B w0 w' (kA v (mkB xs k)::l):=by
 obtain⟨x,n,c,rfl,hn,hm⟩:∃x n c,v=.slice x n c/\n=xs.length/\n<=maxLen:=by obtain⟨f,hf,_⟩:=h.first;obtain⟨_,_,e,q1,q2⟩:=aS hf;exact⟨_,_,_,e,rfl,Nat.le_trans q1 q2⟩
 unfold maxLen at hm;rw[<-hn]at hc ⊢;have HC:=hd_ (And.intro hk hc);have HN:=hd_ hn;have H:=hd_ h;clear h hk hc hn;go_enter Tryz.func125,Tryz.ntmps125;go_wp2;go_loopw [1,5] (fun q i wr=>∃j:Nat,j<=n/\i=.int .i64 (j:Int)/\q=.int .i64 (k+(j:Int))/\M B w0 wr (kA (.slice x n c) (mkB (xs.take j) k++xs.drop j)::l)) (fun _ i _=>n - (intOf i).toNat)
 case atStart=>exact⟨0,Nat.zero_le _,rfl,by simp,H.out⟩
 case round=>
  clear H;obtain⟨j,hj,rfl,rfl,h⟩:=hrel
  by_cases hlt:j<n
  ·obtain⟨kk,hkk⟩:∃kk,kk=k+(j:Int):=⟨_,rfl⟩
   have KK:=hd_ hkk;rw[<-hkk];have hjx:j<xs.length:=by rw[<-HN.out];exact hlt
   have hjl:j<(mkB (xs.take j) k++xs.drop j).length:=by rw[List.length_append,aKa,List.length_take,List.length_drop];omega
   obtain⟨g,rfl⟩:∃g,x=some ⟨g,0,none⟩:=by
    obtain⟨f,hf,_⟩:=h.first;obtain⟨g,hx,_⟩:=nC (T:=TY) hf (List.getElem?_eq_getElem hjl);exact⟨g,hx⟩
   obtain⟨⟨z,cz⟩,fz,h1⟩:=M.setEl h hjl (decide (kk.tmod 3=0)) (u:=.bool (decide (kk.tmod 3=0))) rfl;have e:=aIR hjx k;rw[<-hkk]at e;rw[e]at h1;have F:=hd_ (show M B w0 _ (kA _ _::l)from h1);have j0:(0:Int)<=(j:Int):=by omega
   have j1:(j:Int)<(n:Int):=by omega
   have k0:0<=kk:=by have:=HC.out.1;omega
   have k1:kk<=100000000:=by have:=HC.out.2;omega
   have q3:kk.tmod 3=kk % 3:=Int.tmod_eq_emod_of_nonneg k0;rw[q3]at F;clear h h1 e hjx hjl hkk q3;go_wp2;go_roundw
   case rel=>exact⟨j+1,hlt,by go_num,by rw[KK.out];go_num,F.out⟩
   case measure=>simp[intOf];omega
  ·obtain rfl:j=n:=by omega
   have F:=hd_ h;clear h;go_wp2;go_ret;have e1:xs.take j=xs:=List.take_of_length_le (by rw[HN.out];exact Nat.le_refl _);have e2:xs.drop j=[]:=List.drop_eq_nil_of_le (by rw[HN.out];exact Nat.le_refl _);have F:=F.out;rw[e1,e2,List.append_nil]at F;exact⟨rfl,F⟩
variable {B:Nat} {w0 w:World} {l:List Ch} {v:Value} {k:Int}
def aKy (v1 v2 v3 v4:Value) (a:Nt):Ch:=(sQ (T:=TY)).ch [v1,v2,v3,v4] a
theorem _root_.Go.Proofs.YtcblbdpdbggkbaaGreat.M.netParts {v1 v2 v3 v4:Value} {a:Nt} (h:M B w0 w (aKy v1 v2 v3 v4 a::l)):M B w0 w (lJ v1 a.nodes::kA v2 a.links::lF v3 a.words::nX v4 a.past::l):=by
 have e:M B w0 w ((lJ v1 a.nodes).sep ((kA v2 a.links).sep ((lF v3 a.words).sep (nX v4 a.past)))::l):=h.to fun f hf nd=>by
  obtain⟨_,_,_,_,f1,f2,f3,f4,e,rfl,h1,h2,h3,h4⟩:=oJ.1 hf;cases e;exact⟨_,⟨f1,_,rfl,h1,f2,_,rfl,h2,f3,f4,rfl,h3,h4⟩,nd,fun b hb=>hb⟩
 exact (e.two.p1.two.p1.two.p1).perm (List.reverse_perm [_,_,_,_] |>.append_right l)
theorem _root_.Go.Proofs.YtcblbdpdbggkbaaGreat.M.netWhole {v1 v2 v3 v4:Value} {a:Nt} (h:M B w0 w (lJ v1 a.nodes::kA v2 a.links::lF v3 a.words::nX v4 a.past::l)):M B w0 w (aKy v1 v2 v3 v4 a::l):=
 (M.sep (M.p1 (M.sep (M.p1 (M.sep (M.p1 (h.perm (List.reverse_perm [_,_,_,_] |>.symm.append_right l)))))))).to fun f hf nd=>by
  obtain⟨f1,_,rfl,h1,f2,_,rfl,h2,f3,f4,rfl,h3,h4⟩:=hf;exact⟨_,oJ.2 ⟨_,_,_,_,f1,f2,f3,f4,rfl,rfl,h1,h2,h3,h4⟩,nd,fun b hb=>hb⟩
theorem aHr (a:Nt):sD a=bL iK a.nodes+a.links.length+bL jW a.words+bL iR a.past:=rfl
theorem aH9 (a:Nt):0<=bL iK a.nodes/\0<=bL jW a.words/\0<=bL iR a.past:=⟨fH xA _,fH xF _,fH iT _⟩
theorem aHG {a:Nt} {xa xb xc xd:Option Addr} {na nb nc nd ca cb cc cd:Nat} (h:M B w0 w (aKy (.slice xa na ca) (.slice xb nb cb) (.slice xc nc cc) (.slice xd nd cd) a::l)) (hk:0<=k) (hc:k+sD a<=100000000):
  Calls Tryz.prog 52 #[.agg #[.slice xa na ca,.slice xb nb cb,.slice xc nc cc,.slice xd nd cd],.int .i64 k] w fun r w'=>r=.returned (.int .i64 (k+sD a))/\M B w0 w' (aKy (.slice xa na ca) (.slice xb nb cb) (.slice xc nc cc) (.slice xd nd cd) (aLQ a k)::l):=by
 obtain⟨p1,p2,p3⟩:=aH9 a;have ei:=aHr a;have B1:=hd_ (show 0<=k/\k+bL iK a.nodes<=100000000 by omega);have B2:=hd_ (show 0<=k+bL iK a.nodes/\k+bL iK a.nodes+(a.links.length:Int)<=100000000 by omega);have B3:=hd_ (show 0<=k+bL iK a.nodes+(a.links.length:Int)/\k+bL iK a.nodes+(a.links.length:Int)+bL jW a.words<=100000000 by omega)
 have B4:=hd_ (show 0<=k+bL iK a.nodes+(a.links.length:Int)+bL jW a.words/\k+bL iK a.nodes+(a.links.length:Int)+bL jW a.words+bL iR a.past<=100000000 by omega);have EI:=hd_ (show k+bL iK a.nodes+(a.links.length:Int)+bL jW a.words+bL iR a.past=k+sD a by omega);have H:=hd_ (h.netParts.alloc #[.slice xa na ca,.slice xb nb cb,.slice xc nc cc,.slice xd nd cd] 30)
 obtain⟨c0,c1,c2,c3⟩:=H.out.cells4;clear h hk hc p1 p2 p3 ei;go_enter Tryz.func52,Tryz.ntmps52
 go_wp2_with fail
 refine (aIN H.out.p1 B1.out.1 B1.out.2).mono ?_;rintro r w1 ⟨rfl,h1⟩;have H1:=hd_ h1;clear h1 c0 c1 c2 c3 H;obtain⟨k1,hk1⟩:∃k1,k1=k+bL iK a.nodes:=⟨_,rfl⟩
 rw[<-hk1];have K1:=hd_ hk1;rw[<-hk1]at B2;clear hk1;obtain⟨c0,c1,c2,c3⟩:=H1.out.p1.cells4
 go_wp2_with fail
 refine (aIj H1.out.p2 B2.out.1 B2.out.2).mono ?_;rintro r w2 ⟨rfl,h2⟩;have H2:=hd_ h2;clear h2 c0 c1 c2 c3 H1;obtain⟨k2,hk2⟩:∃k2,k2=k1+(a.links.length:Int):=⟨_,rfl⟩
 rw[<-hk2];have K2:=hd_ hk2;rw[<-K1.out, <-hk2]at B3;clear hk2;obtain⟨c0,c1,c2,c3⟩:=H2.out.p2.cells4
 go_wp2_with fail
 refine (aJz H2.out.p3 B3.out.1 B3.out.2).mono ?_;rintro r w3 ⟨rfl,h3⟩;have H3:=hd_ h3;clear h3 c0 c1 c2 c3 H2;obtain⟨k3,hk3⟩:∃k3,k3=k2+bL jW a.words:=⟨_,rfl⟩
 rw[<-hk3];have K3:=hd_ hk3;rw[<-K1.out, <-K2.out, <-hk3]at B4;clear hk3;obtain⟨c0,c1,c2,c3⟩:=H3.out.p3.cells4
 go_wp2_with fail
 refine (aH4 H3.out.p4 B4.out.1 B4.out.2).mono ?_;rintro r w4 ⟨rfl,h4⟩;have F:=hd_ (h4.perm (List.reverse_perm [_,_,_,_,_] |>.symm.append_right l));clear h4 c0 c1 c2 c3 H3;go_wp2;go_ret;have e:aLQ a k=⟨mkL mkN iK a.nodes k,mkB a.links k1,mkL mkW jW a.words k2,aFC a.past k3⟩:=by rw[K3.out,K2.out,K1.out];rfl
 refine⟨by rw[<-EI.out,K3.out,K2.out,K1.out];rfl,?_⟩;rw[e];exact M.netWhole (a:=⟨mkL mkN iK a.nodes k,mkB a.links k1,mkL mkW jW a.words k2,aFC a.past k3⟩) F.out.drop
end N
end Go.Proofs.YtcblbdpdbggkbaaGreat
set_option linter.unusedVariables false
set_option linter.unusedSectionVars false
set_option linter.unusedSimpArgs false
namespace Go.Proofs.YtcblbdpdbggkbaaGreat
open Go.RowKit Go.Sort
namespace N
variable {w:World} {v:Value} {k:Int} {fp:List Nat}
theorem aGy {zs:List Int} (h:sG w [v] (mkI zs k) fp) (hk:0<=k) (hc:k+fP zs<=200000000):
  Calls Tryz.prog 54 #[v,.int .i64 k] w fun r w'=>r=.returned (.int .i64 (k+fP zs))/\w=w':=by
 have hk2:k<=200000000:=by have:=nG zs;omega
 have hn:(zs.length:Int)<=200000000:=by unfold fP at hc;omega
 obtain⟨_,e,o,_⟩:=hO h;cases e;exact aEa w v zs.length k (by omega) hk (by omega) o
theorem aDH {zs:List Int} (h:sG w [v] (mkI zs k) fp) (hk:0<=k) (hc:k+fP zs<=100000000):
  Calls Tryz.prog 54 #[v,.int .i64 k] w fun r w'=>r=.returned (.int .i64 (k+fP zs))/\w=w':=aGy h hk (by omega)
theorem aIP {ps:List (Int × Int)} (h:vV w [v] (oO ps k) fp) (hk:0<=k) (hc:k+2 * (ps.length:Int)<=100000000):
  Calls Tryz.prog 133 #[v,.int .i64 k] w fun r w'=>r=.returned (.int .i64 (k+2 * (ps.length:Int)))/\w=w':=by
 obtain⟨_,e,o,_⟩:=rQ h;cases e;obtain⟨x,c,rfl,_⟩:=kI h;rw[show (oO ps k).length=ps.length by unfold oO;simp];refine T.aCc w x c ps.length k (by omega) hk (by omega) ?_;have r:=o;rw[show (oO ps k).length=ps.length by unfold oO;simp]at r;exact r
theorem aHf {ps:List (Int × Int)} (h:wF w [v] (oO ps k) fp) (hk:0<=k) (hc:k+2 * (ps.length:Int)<=100000000):
  Calls Tryz.prog 134 #[v,.int .i64 k] w fun r w'=>r=.returned (.int .i64 (k+2 * (ps.length:Int)))/\w=w':=by
 obtain⟨_,e,o,_⟩:=rZ h;cases e;obtain⟨x,c,rfl,_⟩:=kI h;rw[show (oO ps k).length=ps.length by unfold oO;simp];refine K.aCl w x c ps.length k (by omega) hk (by omega) ?_;have r:=o;rw[show (oO ps k).length=ps.length by unfold oO;simp]at r;exact r
theorem aHF {xs:List (List Int)} (h:oL w [v] (mkL mkI fP xs k) fp) (hk:0<=k) (hc:k+bL fP xs<=100000000):
  Calls Tryz.prog 132 #[v,.int .i64 k] w fun r w'=>r=.returned (.int .i64 (k+bL fP xs))/\w=w':=by
 obtain⟨x,n,c,rfl,hn,hm⟩:∃x n c,v=.slice x n c/\n=xs.length/\n<=maxLen:=by obtain⟨_,_,e,q1,q2⟩:=aS h;exact⟨_,_,_,e,by rw[xG],Nat.le_trans q1 q2⟩
 unfold maxLen at hm;have HC:=hd_ (And.intro hk hc);have HN:=hd_ hn;have H:=hd_ h;clear h hk hc hn;go_enter Tryz.func132,Tryz.ntmps132;go_wp2;go_loopw [1,5] (fun q i wr=>∃j:Nat,j<=n/\i=.int .i64 (j:Int)/\q=.int .i64 (k+bL fP (xs.take j))/\w=wr) (fun _ i _=>n - (intOf i).toNat)
 case atStart=>exact⟨0,Nat.zero_le _,rfl,by rw[List.take_zero,gZ,Int.add_zero],rfl⟩
 case round=>
  obtain⟨j,hj,rfl,rfl,rfl⟩:=hrel;obtain⟨kk,hkk⟩:∃kk,kk=k+bL fP (xs.take j):=⟨_,rfl⟩
  have KK:=hd_ hkk;rw[<-hkk]
  by_cases hlt:j<n
  ·obtain⟨a,ha⟩:∃a,xs[j]? =some a:=⟨_,List.getElem?_eq_getElem (by rw[<-HN.out];exact hlt)⟩
   have e2:=aFE (f:=mkI) (c:=fP) ha k;rw[<-hkk]at e2;obtain⟨g,xr,cr,fr,rfl,_,_,r1,_,_,cz⟩:=lE H.out e2;have k0:0<=kk:=by have:=fH nG (xs.take j);have:=HC.out.1;omega
   have k1:kk+fP a<=100000000:=by
    have:=kD nG xs (j+1);rw[gF ha]at this;have:=HC.out.2;omega
   have SP:=hd_ (gF (c:=fP) ha);have ca:=nG a;have j0:(0:Int)<=(j:Int):=by omega
   have j1:(j:Int)<(n:Int):=by omega
   have KC:=hd_ (aDH r1 k0 k1);obtain⟨m,hm2⟩:∃m,m=(mkI a kk).length:=⟨_,rfl⟩
   rw[<-hm2]at KC cz;have s0:0<=kk+fP a:=by have q:0<=fP a:=ca;omega
   clear r1 e2 hkk ha hm2
   go_wp2_with fail
   refine KC.out.mono ?_;rintro r w1 ⟨rfl,rfl⟩;clear KC;go_wp2;go_roundw
   case rel=>exact⟨j+1,hlt,by go_num,(by rw[SP.out, <-Int.add_assoc, <-KK.out];try rfl),by trivial⟩
   case measure=>simp[intOf];omega
  ·obtain rfl:j=n:=by omega
   go_wp2;go_ret;have e1:xs.take j=xs:=List.take_of_length_le (by rw[HN.out];exact Nat.le_refl _);rw[KK.out,e1];exact⟨rfl,by trivial⟩
theorem vS {V:SV} {s:Sm} {f:List Nat} (h:pC w [.slice V.xr V.nr V.cr,.slice V.xf V.nf V.cf,.slice V.xt V.nt V.ct,.int .i64 s.lo,.int .i64 s.al,.slice V.xk V.nk V.ck,.int .i64 s.ka] s f):∃f1 f2 f3 f4,oL w [.slice V.xr V.nr V.cr] s.rs f1/\sG w [.slice V.xf V.nf V.cf] s.zs f2/\vV w [.slice V.xt V.nt V.ct] s.ps f3/\wF w [.slice V.xk V.nk V.ck] s.ks f4:=by
 obtain⟨U,f1,f2,f3,f4,e,rfl,h1,h2,h3,h4⟩:=h;obtain⟨a1,a2,a3,a4⟩:SV.r U=SV.r V/\SV.f U=SV.f V/\SV.t U=SV.t V/\SV.k U=SV.k V:=by
  simp only[List.cons.injEq,Value.slice.injEq,and_true,true_and]at e;obtain⟨⟨a1,a2,a3⟩,⟨b1,b2,b3⟩,⟨c1,c2,c3⟩,d1,d2,d3⟩:=e;simp only[SV.r,SV.f,SV.t,SV.k,a1,a2,a3,b1,b2,b3,c1,c2,c3,d1,d2,d3,and_self]
 rw[a1]at h1;rw[a2]at h2;rw[a3]at h3;rw[a4]at h4;exact⟨f1,f2,f3,f4,h1,h2,h3,h4⟩
theorem aC5 {xs:List En} (h:eF TY w [v] (mkL mkE jL xs k) fp) (hk:0<=k) (hc:k+bL jL xs<=100000000):
  Calls Tryz.prog 57 #[v,.int .i64 k] w fun r w'=>r=.returned (.int .i64 (k+bL jL xs))/\w=w':=by
 obtain⟨x,n,c,rfl,hn,hm⟩:∃x n c,v=.slice x n c/\n=xs.length/\n<=maxLen:=by obtain⟨_,_,e,q1,q2⟩:=aS h;exact⟨_,_,_,e,by rw[xG],Nat.le_trans q1 q2⟩
 unfold maxLen at hm;have HC:=hd_ (And.intro hk hc);have HN:=hd_ hn;have H:=hd_ h;clear h hk hc hn;go_enter Tryz.func57,Tryz.ntmps57;go_wp2;go_loopw [1,5] (fun q i wr=>∃j:Nat,j<=n/\i=.int .i64 (j:Int)/\q=.int .i64 (k+bL jL (xs.take j))/\w=wr) (fun _ i _=>n - (intOf i).toNat)
 case atStart=>exact⟨0,Nat.zero_le _,rfl,by rw[List.take_zero,gZ,Int.add_zero],rfl⟩
 case round=>
  obtain⟨j,hj,rfl,rfl,rfl⟩:=hrel;obtain⟨kk,hkk⟩:∃kk,kk=k+bL jL (xs.take j):=⟨_,rfl⟩
  have KK:=hd_ hkk;rw[<-hkk]
  by_cases hlt:j<n
  ·obtain⟨a,ha⟩:∃a,xs[j]? =some a:=⟨_,List.getElem?_eq_getElem (by rw[<-HN.out];exact hlt)⟩
   have e2:=aFE (f:=mkE) (c:=jL) ha k;rw[<-hkk]at e2
   skip
   have k0:0<=kk:=by have:=fH rT (xs.take j);have:=HC.out.1;omega
   have k1:kk+jL a<=100000000:=by
    have:=kD rT xs (j+1);rw[gF ha]at this;have:=HC.out.2;omega
   have SP:=hd_ (gF (c:=jL) ha);have ca:=rT a;have j0:(0:Int)<=(j:Int):=by omega
   have j1:(j:Int)<(n:Int):=by omega
   have CB:=hd_ (show kk+(3+(iR a.s.rs+a.s.zs.length+2 * a.s.ps.length+2+2 * a.s.ks.length+1))<=100000000 from k1);have EQ:=hd_ (show jL a=3+(iR a.s.rs+a.s.zs.length+2 * a.s.ps.length+2+2 * a.s.ks.length+1)from rfl);obtain⟨k4,hk4⟩:∃k4,k4=kk+3+iR a.s.rs:=⟨_,rfl⟩
   obtain⟨k5,hk5⟩:∃k5,k5=k4+a.s.zs.length:=⟨_,rfl⟩
   obtain⟨k6,hk6⟩:∃k6,k6=k5+2 * (a.s.ps.length:Int):=⟨_,rfl⟩
   obtain⟨k7,hk7⟩:∃k7,k7=k6+2+2 * (a.s.ks.length:Int):=⟨_,rfl⟩
   have he:mkE a kk=⟨kk,kk+1,kk+1+1,⟨mkR a.s.rs (kk+3),mkI a.s.zs k4,oO a.s.ps k5,k6,k6+1,oO a.s.ks (k6+2),k7⟩⟩:=by rw[show kk+1+1=kk+2 by omega,hk7,hk6,hk5,hk4];rfl
   rw[he]at e2;obtain⟨g,V,fe,rfl,_,_,r1,z0,z1,z2,zs⟩:=iO H.out e2;simp only at z0 z1 z2;have z3:=zs 0 _ rfl;have z4:=zs 1 _ rfl;have z5:=zs 2 _ rfl;have z6:=zs 3 _ rfl;have z7:=zs 4 _ rfl;have z8:=zs 5 _ rfl;have z9:=zs 6 _ rfl;simp only[Nat.add_zero,Nat.reduceAdd]at z3 z4 z5 z6 z7 z8 z9;obtain⟨f1,f2,f3,f4,r2,r3,r4,r5⟩:=vS r1;simp only at r2 r3 r4 r5;have nr:=iT a.s.rs
   have C1:=hd_ (aHF (k:=kk+3) r2 (by omega) (by have:=CB.out;show kk+3+iR a.s.rs<=100000000;omega));have C2:=hd_ (aDH (k:=k4) r3 (by omega) (by have:=CB.out;show k4+a.s.zs.length<=100000000;omega));have C3:=hd_ (aIP (k:=k5) r4 (by omega) (by have:=CB.out;omega));have C4:=hd_ (aHf (k:=k6+2) r5 (by omega) (by have:=CB.out;omega));have b0:kk<=100000000:=by have:=CB.out;omega
   have b4:0<=k4:=by omega
   have b5:0<=k5:=by omega
   have b6:0<=k6:=by omega
   have b6':k6<=100000000:=by have:=CB.out;omega
   have b7:0<=k7:=by omega
   have b7':k7<=100000000:=by have:=CB.out;omega
   have K4:=hd_ hk4;have K5:=hd_ hk5;have K6:=hd_ hk6;have K7:=hd_ hk7;have E7:=hd_ (show k7+1=k+bL jL (xs.take (j+1)) by
        rw[SP.out, <-Int.add_assoc, <-KK.out,EQ.out]
        omega)
   clear r1 r2 r3 r4 r5 zs e2 he hk4 hk5 hk6 hk7 hkk ha k1 ca nr
   go_wp2_with fail
   rw[show kk+1+1+1=kk+3 by omega];refine C1.out.mono ?_;rintro r w1 ⟨rfl,rfl⟩;rw[show kk+3+bL fP a.s.rs=k4 from K4.out.symm]
   go_wp2_with fail
   refine C2.out.mono ?_;rintro r w1 ⟨rfl,rfl⟩;rw[show k4+fP a.s.zs=k5 from K5.out.symm]
   go_wp2_with fail
   refine C3.out.mono ?_;rintro r w1 ⟨rfl,rfl⟩;rw[<-K6.out]
   go_wp2_with fail
   rw[show k6+1+1=k6+2 by omega];refine C4.out.mono ?_;rintro r w1 ⟨rfl,rfl⟩;rw[<-K7.out];go_wp2;go_roundw
   case rel=>exact⟨j+1,hlt,by go_num,(by rw[E7.out]),by trivial⟩
   case measure=>simp[intOf];omega
  ·obtain rfl:j=n:=by omega
   go_wp2;go_ret;have e1:xs.take j=xs:=List.take_of_length_le (by rw[HN.out];exact Nat.le_refl _);rw[KK.out,e1];exact⟨rfl,by trivial⟩
variable {w:World} {v:Value} {k:Int} {fp:List Nat}
end N
end Go.Proofs.YtcblbdpdbggkbaaGreat
set_option linter.unusedVariables false
set_option linter.unusedSectionVars false
set_option linter.unusedSimpArgs false
namespace Go.Proofs.YtcblbdpdbggkbaaGreat.N
open Go.RowKit Go.Sort
theorem aAV (rs:List (List Int)):∀k,k<=rs.length->bL fP (rs.take k)=(dO rs k:Nat)
 | 0,_=>rfl
 |k+1,h=>by
  obtain⟨x,hx⟩:∃x,rs[k]? =some x:=⟨_,List.getElem?_eq_getElem h⟩
  rw[gF hx,aAV rs k (by omega)];show _+fP x=((dO rs k+(rs.getD k []).length:Nat):Int)
  rw[List.getD_eq_getElem?_getD,hx];unfold fP;simp
theorem yD (rs:List (List Int)):iR rs=(dO rs rs.length:Nat):=by
 have:=aAV rs rs.length lr_;rwa[List.take_length]at this
theorem zC {α:Type} {c:α->Int} {f:α->Nat} (h:∀x,c x<=6 * ((1+f x:Nat):Int)):∀l:List α,bL c l<=6 * ((l.length+szS f l:Nat):Int)
 | []=>Int.le_refl _
 |x::xs=>by
  have h1:=zC h xs;have h2:=h x;have e:szS f (x::xs)=f x+szS f xs:=by unfold szS;rw[List.map_cons,List.sum_cons]
  rw[mA,e,List.length_cons];omega
theorem aGb (es:List En):mY es<=6 * (szK es:Int):=by
 refine zC (fun e=>?_) es;have:=yD e.s.rs;unfold jL aDy rM;omega
theorem aJI (n:Nt):sD n<=6 * (aE3 n:Int):=by
 have h1:=zC (c:=iK) (f:=fun x=>szK x.known) (fun x=>by have:=aGb x.known;unfold iK;omega) n.nodes;have h2:=zC (c:=jW) (f:=fun x=>szK x.known) (fun x=>by have:=aGb x.known;unfold jW;omega) n.words;have h3:=zC (c:=iR) (f:=fun rs=>rs.length+dO rs rs.length) (fun rs=>by have:=yD rs;omega) n.past;unfold sD aLq aE3 aAy aAG szP;omega
theorem aHP (n:Nt):0<=sD n:=by
 have h1:=fH xA n.nodes;have h2:=fH xF n.words;have h3:=aKW n.past;unfold sD;omega
end Go.Proofs.YtcblbdpdbggkbaaGreat.N
set_option linter.unusedVariables false
set_option linter.unusedSectionVars false
set_option linter.unusedSimpArgs false
namespace Go.Proofs.YtcblbdpdbggkbaaGreat
open Go.RowKit Go.Sort
section
variable {α:Type} {e:TypeId} {size:Nat} {w w' w0:World} {B:Nat} {l:List Ch} {xs ys:List α} {v u:Value} {enc:α->List Value}
def RdL (enc:α->List Value) (w:World) (u:Value) (ys:List α):Prop:=(u=.slice none 0 0/\ys=[])\/∃ad c,u=.slice (some ad) ys.length c/\∀(j:Nat) z,(ys.flatMap enc)[j]? =some z->w.cell? (ad.add j)=some z
theorem RdL.row {n:Nat} {base:Nat} (h:w.ownsRow base e size v n (ys.flatMap enc)) (hn:n=ys.length):RdL enc w v ys:=by
 rcases h.2 with ⟨rfl,q⟩|⟨g,cap,cur,rfl,_,hb,h1,h2,h3,h4⟩
 ·exact .inl ⟨rfl,List.eq_nil_of_length_eq_zero (by omega)⟩
 ·refine .inr ⟨_,cap,by rw[hn],fun j z hz=>?_⟩
  have hj:j<n * size:=by have:=(List.getElem?_eq_some_iff.1 hz).1;rwa[h.1]at this
  rw[Addr.add_mid,Nat.zero_add,World.ownsRow.cellAt h _ hj,hz]
theorem RdL.fl {f:List Nat} (h:flR e size enc w [v] ys f):RdL enc w v ys:=by
 rcases h with h|⟨rfl,_,b,o,e1,_⟩
 ·obtain⟨_,e1,o,_⟩:=iY h
  cases e1;exact RdL.row o rfl
 ·cases e1
  exact .inr ⟨_,0,rfl,fun j z hz=>by simp at hz⟩
theorem aKl {P:Program} {t:TypeId} {z:Value} {bytes:Nat} (T:SlT P t e z size bytes) (hl:∀a,(enc a).length=size) (h1:∀(a:α),∀u ∈ enc a,u.oneCell'=true) (h:M B w0 w (iJ (aT enc) e size v xs::l)) (hy:RdL enc w u ys)
  (ty:TypeId) (h63:xs.length+ys.length<=maxLen) (hby:(xs.length+ys.length) * bytes<=140737488355328):
  ∃y cap w',(Builtin.append_ #[t,t] ty #[v,u]).run P w=.ok (.slice y (xs.length+ys.length) cap) w'/\M B w0 w' (iJ (aT enc) e size (.slice y (xs.length+ys.length) cap) (xs++ys)::l):=by
 obtain⟨i,hi,hz,hs,hb⟩:=info_parts T.info;obtain⟨f,hf,_⟩:=h.first;obtain⟨_,e1,ho,rfl⟩:=iY hf;cases e1;rcases hy with ⟨rfl,rfl⟩|⟨ad,c,rfl,hc⟩
 ·obtain⟨x,c,rfl⟩:=vO ho
  exact⟨x,c,w,run_append_owned_none (P:=P) (w:=w) 0 t ty e i size T.und hi _ _ _ ho,by rw[List.append_nil];exact h⟩
 ·have fl:∀zs:List α,(zs.flatMap enc).length=zs.length * size:=fun zs=>by
   induction zs with
   |nil=>simp
   |cons a zs ih=>rw[List.flatMap_cons,List.length_append,ih,hl,List.length_cons,Nat.succ_mul,Nat.add_comm]
  obtain⟨v',w',hr,h2,h3,_,h4⟩:=run_append_own_at (P:=P) w 0 t ty e i z size bytes T.und hi hz hs hb T.zs T.pos v xs.length (xs.flatMap enc) ho ad ys.length c (ys.flatMap enc) (fl ys) hc
   (fun q hq=>by obtain⟨a,_,ha⟩:=List.mem_flatMap.1 hq;exact h1 a q ha) h63 hby (Nat.zero_le _)
  obtain⟨y,cap,rfl⟩:=vO h2;refine⟨y,cap,w',hr,h.turn fun f hf nd lo=>?_⟩;obtain⟨_,e1,_,rfl⟩:=iY hf;cases e1;refine⟨⟨h3.os,h3.tape,h3.output,h3.size,fun k hk hs=>h3.block k hk fun q=>hs (by rw[<-q];simp)⟩,_,kP (enc:=enc) (xs:=xs++ys) (by rw[List.flatMap_append,List.length_append];exact h2) hl,fK _,fun b hb=>?_⟩;rcases h4 with q|q
  ·rw[q]at hb;exact .inl hb
  ·rw[q]at hb
   rw[show b=w.heap.size by simpa using hb];exact .inr lr_
theorem aLw {P:Program} {t:TypeId} {z:Value} {bytes:Nat} (T:SlT P t e z size bytes) (hl:∀a,(enc a).length=size) (h1:∀(a:α),∀u ∈ enc a,u.oneCell'=true) (h:M B w0 w (iJ (aT enc) e size v xs::l)) (hy:RdL enc w u ys)
  {o:Oper} {a:Act} {K:Act->World->Prop} {Q:Exit->Act->World->Prop} {s x:Operand} (ho:o.op=.call { callee:=.builtin .append,args:=#[s,x],argTypes:=#[t,t] }) {N:Nat} (hs:a.eval s=v) (hu:a.eval x=u)
  (h63:xs.length+ys.length<=maxLen) (hby:(xs.length+ys.length) * bytes<=140737488355328) (hN:N=xs.length+ys.length)
  (k:∀y cap w',M B w0 w' (iJ (aT enc) e size (.slice y N cap) (xs++ys)::l)->K (a.put o.dst (.slice y N cap)) w'):o.wp P a w K Q:=by
 obtain⟨y,cap,w',hr,hM⟩:=aKl T hl h1 h hy o.type h63 hby;unfold Oper.wp execOp;simp only[ho,resolve,invoke,builtin,Sem.run_bind,Sem.run_pure,Result.andThen_ok,List.map_toArray,List.map_cons,List.map_nil,hs,hu,hr];rw[hN]at k;exact k y cap w' hM
theorem kB {P:Program} {t:TypeId} {z:Value} {bytes:Nat} (T:SlT P t e z size bytes) (hl:∀a,(enc a).length=size) (h1:∀(a:α),∀u ∈ enc a,u.oneCell'=true) (h:M B w0 w (iJ (aT enc) e size v xs::l)) (hy:RdL enc w u ys)
  {ops:Array Oper} {rest:List Oper} {o:Oper} {a:Act} {Q:Exit->Act->World->Prop} {s x:Operand} (hgd:o.guard=none) (ho:o.op=.call { callee:=.builtin .append,args:=#[s,x],argTypes:=#[t,t] }) {N:Nat} (hs:a.eval s=v) (hu:a.eval x=u)
  (h63:xs.length+ys.length<=maxLen) (hby:(xs.length+ys.length) * bytes<=140737488355328) (hN:N=xs.length+ys.length)
  (k:∀y cap w',M B w0 w' (iJ (aT enc) e size (.slice y N cap) (xs++ys)::l)->wpList P ops Q rest (a.put o.dst (.slice y N cap)) w'):wpList P ops Q (o::rest) a w:=
 wpList_plain hgd fun _ hK=>aLw T hl h1 h hy ho hs hu h63 hby hN fun y cap w' hM=>hK _ _ (k y cap w' hM)
end
end Go.Proofs.YtcblbdpdbggkbaaGreat
set_option linter.unusedVariables false
set_option linter.unusedSectionVars false
set_option linter.unusedSimpArgs false
namespace Go.Proofs.YtcblbdpdbggkbaaGreat
open Go.RowKit Go.Sort
namespace N
theorem aKx {l:List Int} (h:kC l=true):l.length<=100:=by
 unfold kC at h;rw[Bool.and_eq_true,decide_eq_true_eq]at h;exact h.2
theorem mM {n:Nt} (h:kZ n=true):nK n/\mX n:=by
 unfold kZ aBb at h;simp only[Bool.and_eq_true,decide_eq_true_eq,List.all_eq_true,List.mem_range]at h;obtain⟨⟨h1,h2,_⟩,h3,_⟩:=h;refine⟨aC3 h1 h2 h3,fun i hi=>?_⟩;have:=h3 i hi;unfold nM jX at this;simp only[Bool.and_eq_true,decide_eq_true_eq]at this;exact this.2.1.2.2
end N
end Go.Proofs.YtcblbdpdbggkbaaGreat
set_option linter.unusedVariables false
set_option linter.unusedSectionVars false
set_option linter.unusedSimpArgs false
namespace Go.Proofs.YtcblbdpdbggkbaaGreat.N
open Go.RowKit Go.Sort
theorem _root_.Go.Proofs.YtcblbdpdbggkbaaGreat.M.knownRd {B:Nat} {w0 w:World} {l:List Ch} {v:Value} {es:List En} (h:M B w0 w (gH v es::l)):∃f,eF TY w [v] es f:=let ⟨f,hf,_⟩:=h.first;⟨f,hf⟩
end Go.Proofs.YtcblbdpdbggkbaaGreat.N
set_option linter.unusedVariables false
set_option linter.unusedSectionVars false
set_option linter.unusedSimpArgs false
namespace Go.Proofs.YtcblbdpdbggkbaaGreat
open Go.RowKit Go.Sort
theorem RdL.later {α:Type} {enc:α->List Value} {w w':World} {u:Value} {ys:List α} (h:RdL enc w u ys) (hb:Below w.heap.size w w'):RdL enc w' u ys:=by
 rcases h with ⟨rfl,rfl⟩|⟨ad,c,rfl,hc⟩
 ·exact .inl ⟨rfl,rfl⟩
 ·exact .inr ⟨ad,c,rfl,fun j z hz=>(hb.cell (World.block_lt_of_cell? _ _ (hc j z hz))).trans (hc j z hz)⟩
namespace N
theorem aLe:SlT Tryz.prog 39 213 (.agg #[.int .i64 0,.int .i64 0]) 2 16:=⟨Tryz.underlying39,by kernel_rfl,rfl,by decide⟩
theorem aLf:SlT Tryz.prog 42 152 (.agg #[.int .i64 0,.int .i64 0]) 2 16:=⟨Tryz.underlying42,by kernel_rfl,rfl,by decide⟩
theorem aBA (a:Int):∀u ∈ aDf a,u.oneCell'=true:=fun u hu=>by rw[List.mem_singleton.1 hu];rfl
theorem pG (a:Int × Int):∀u ∈ nZ a,u.oneCell'=true:=fun u hu=>by
 rcases List.mem_cons.1 hu with rfl|hu
 ·rfl
 ·rw[List.mem_singleton.1 hu];rfl
theorem wK (w:World) {v:Value} {zs:List Int} (h:RdL aDf w v zs) (hl:zs.length<=1048576):
  Calls Tryz.prog 274 #[v] w fun r w'=>∃y c,r=.returned (.slice y zs.length c)/\M w.heap.size w w' [iJ (aT aDf) 3 1 (.slice y zs.length c) zs]:=by
 have q:=fun (w:World) (a:Option Addr) (n c n' c':Nat)=>Lib.run_eql_slice_nil (P:=Tryz.prog) w _ _ a n c n' c' Tryz.underlying23
 rcases h with ⟨rfl,rfl⟩|⟨ad,c,rfl,hc⟩
 ·go_enter Tryz.func274,Tryz.ntmps274
  go_wp2;go_ret;exact⟨none,0,rfl,M.nil _ _ _ (M.start w)⟩
 ·have H0:=hd_ (((M.start w).alloc #[] 3).empty (aT aDf) 1)
  have R:=hd_ (RdL.later (enc:=aDf) (.inr ⟨ad,c,rfl,hc⟩) H0.out.below);clear hc;go_enter Tryz.func274,Tryz.ntmps274
  go_wp2_with (at_builtin;go_loud (refine kB aLP (fun _=>rfl) aBA H0.out R.out rfl rfl rfl rfl (by rw[List.length_nil];unfold maxLen;omega) (by rw[List.length_nil];omega) (N:=zs.length) (by rw[List.length_nil,Nat.zero_add]) ?_);intro y c w' h1;have H1:=hd_ h1;clear h1)
  go_ret;exact⟨_,_,rfl,H1.out⟩
theorem aDC (w:World) {v:Value} {zs:List (Int × Int)} (h:RdL nZ w v zs) (hl:zs.length<=1048576):
  Calls Tryz.prog 275 #[v] w fun r w'=>∃y c,r=.returned (.slice y zs.length c)/\M w.heap.size w w' [iJ (aT nZ) 213 2 (.slice y zs.length c) zs]:=by
 have q:=fun (w:World) (a:Option Addr) (n c n' c':Nat)=>Lib.run_eql_slice_nil (P:=Tryz.prog) w _ _ a n c n' c' Tryz.underlying39
 rcases h with ⟨rfl,rfl⟩|⟨ad,c,rfl,hc⟩
 ·go_enter Tryz.func275,Tryz.ntmps275
  go_wp2;go_ret;exact⟨none,0,rfl,M.nil _ _ _ (M.start w)⟩
 ·have H0:=hd_ (((M.start w).alloc #[] 213).empty (aT nZ) 2)
  have R:=hd_ (RdL.later (enc:=nZ) (.inr ⟨ad,c,rfl,hc⟩) H0.out.below);clear hc;go_enter Tryz.func275,Tryz.ntmps275
  go_wp2_with (at_builtin;go_loud (refine kB aLe (fun _=>rfl) pG H0.out R.out rfl rfl rfl rfl (by rw[List.length_nil];unfold maxLen;omega) (by rw[List.length_nil];omega) (N:=zs.length) (by rw[List.length_nil,Nat.zero_add]) ?_);intro y c w' h1;have H1:=hd_ h1;clear h1)
  go_ret;exact⟨_,_,rfl,H1.out⟩
theorem aCW (w:World) {v:Value} {zs:List (Int × Int)} (h:RdL nZ w v zs) (hl:zs.length<=1048576):
  Calls Tryz.prog 276 #[v] w fun r w'=>∃y c,r=.returned (.slice y zs.length c)/\M w.heap.size w w' [iJ (aT nZ) 152 2 (.slice y zs.length c) zs]:=by
 have q:=fun (w:World) (a:Option Addr) (n c n' c':Nat)=>Lib.run_eql_slice_nil (P:=Tryz.prog) w _ _ a n c n' c' Tryz.underlying42
 rcases h with ⟨rfl,rfl⟩|⟨ad,c,rfl,hc⟩
 ·go_enter Tryz.func276,Tryz.ntmps276
  go_wp2;go_ret;exact⟨none,0,rfl,M.nil _ _ _ (M.start w)⟩
 ·have H0:=hd_ (((M.start w).alloc #[] 152).empty (aT nZ) 2)
  have R:=hd_ (RdL.later (enc:=nZ) (.inr ⟨ad,c,rfl,hc⟩) H0.out.below);clear hc;go_enter Tryz.func276,Tryz.ntmps276
  go_wp2_with (at_builtin;go_loud (refine kB aLf (fun _=>rfl) pG H0.out R.out rfl rfl rfl rfl (by rw[List.length_nil];unfold maxLen;omega) (by rw[List.length_nil];omega) (N:=zs.length) (by rw[List.length_nil,Nat.zero_add]) ?_);intro y c w' h1;have H1:=hd_ h1;clear h1)
  go_ret;exact⟨_,_,rfl,H1.out⟩
theorem vJ (w:World) {x:Option Addr} {k c:Nat} {rs:List (List Int)} {f:List Nat} (h:oL w [.slice x k c] rs f) (hk:rs.length<=1048576) (hr:∀r ∈ rs,r.length<=1048576):
  Calls Tryz.prog 273 #[.slice x k c] w fun r w'=>∃y cy,r=.returned (.slice y rs.length cy)/\M w.heap.size w w' [nD (.slice y rs.length cy) rs]:=by
 obtain rfl:k=rs.length:=(aO h).1;have H1:=hd_ h;have HR:=hd_ hr;clear h hr;have KC:Hid (Calls Tryz.prog 298 #[.slice x rs.length c,.func (.func 274) #[] #[]] w fun r w'=>∃y cy,r=.returned (.slice y rs.length cy)/\M w.heap.size w w' [nD (.slice y rs.length cy) rs]):=by
  refine hd_ ?_;go_enter Tryz.func298,Tryz.ntmps298;go_wp2;go_loopw [5,10] (fun y z wr=>∃(j cy:Nat) (xy:Option Addr),j<=rs.length/\z=.int .i64 (j:Int)/\y=.slice xy j cy/\M w.heap.size w wr [nD (.slice xy j cy) (rs.take j)]) (fun _ z _=>rs.length - (intOf z).toNat)
  case atStart=>exact⟨0,0,none,Nat.zero_le _,rfl,rfl,M.nil gW 23 1 (M.start w)⟩
  case round=>
   obtain⟨j,cy,xy,hj,rfl,rfl,hM⟩:=hrel;have H:=hd_ hM;clear hM
   by_cases hlt:j<rs.length
   ·obtain⟨r,hr⟩:∃r,rs[j]? =some r:=⟨_,List.getElem?_eq_getElem hlt⟩
    obtain⟨g,xr,cr,fr,rfl,_,_,rr,_,_,b1⟩:=lE H1.out hr;have RL:=hd_ ((RdL.fl rr).later H.out.below);have LL:r.length<=1048576:=HR.out r (List.mem_of_getElem? hr);have ST:=hd_ (aBJ hr);have LT:Hid ((rs.take j).length=j):=hd_ (by rw[List.length_take];omega);replace b1:=cell_later H.out.below b1;have KI:=hd_ (wK wr RL.out LL);obtain⟨m,hm⟩:∃m,m=r.length:=⟨_,rfl⟩
    rw[<-hm]at KI b1;have j0:(0:Int)<=(j:Int):=by omega
    have j1:(j:Int)<(rs.length:Int):=by omega
    clear rr hr hm RL LL
    go_wp2_with fail
    refine KI.out.mono ?_;rintro r2 w2 ⟨y2,c2,rfl,hm⟩;have H3:=hd_ ((H.out.plus hm).soft.p1.alloc #[.slice y2 m c2] 23);clear hm KI H b1
    go_wp2_with (at_builtin;go_loud (refine tD aG1 xL H3.out rfl rfl rfl rfl (by rw[LT.out];unfold maxLen;omega) (by rw[LT.out];omega) (N:=j+1) (by rw[LT.out]) ?_);intro y3 c3 w3 h4;have H4:=hd_ h4;clear h4 H3)
    go_roundw
    case rel=>exact⟨j+1,c3,y3,by omega,by go_num,rfl,by rw[ST.out];exact H4.out⟩
    case measure=>simp[intOf];omega
   ·obtain rfl:j=rs.length:=by omega
    have ST:Hid (rs.take rs.length=rs):=hd_ List.take_length;rw[ST.out]at H;go_wp2;go_ret;exact⟨_,_,rfl,H.out⟩
 go_enter Tryz.func273,Tryz.ntmps273
 go_wp2_with fail
 refine KC.out.mono ?_;rintro r w' ⟨y,cy,rfl,hm⟩;have H:=hd_ hm;clear hm;go_wp2;go_ret;exact⟨_,_,rfl,H.out⟩
end N
end Go.Proofs.YtcblbdpdbggkbaaGreat
set_option linter.unusedVariables false
set_option linter.unusedSectionVars false
set_option linter.unusedSimpArgs false
namespace Go.Proofs.YtcblbdpdbggkbaaGreat
open Go.RowKit Go.Sort
namespace N
theorem yT (w:World) {V:SV} {s:Sm} {f:List Nat} (h:pC w [.slice V.xr V.nr V.cr,.slice V.xf V.nf V.cf,.slice V.xt V.nt V.ct,.int .i64 s.lo,.int .i64 s.al,.slice V.xk V.nk V.ck,.int .i64 s.ka] s f) (hl:qD s):
  Calls Tryz.prog 217 #[.agg #[.slice V.xr V.nr V.cr,.slice V.xf V.nf V.cf,.slice V.xt V.nt V.ct,.int .i64 s.lo,.int .i64 s.al,.slice V.xk V.nk V.ck,.int .i64 s.ka]] w fun r w'=>∃U:SV,r=.returned (.agg #[.slice U.xr U.nr U.cr,.slice U.xf U.nf U.cf,.slice U.xt U.nt U.ct,.int .i64 s.lo,.int .i64 s.al,.slice U.xk U.nk U.ck,.int .i64 s.ka])/\M w.heap.size w w' [bC.ch [.slice U.xr U.nr U.cr,.slice U.xf U.nf U.cf,.slice U.xt U.nt U.ct,.int .i64 s.lo,.int .i64 s.al,.slice U.xk U.nk U.ck,.int .i64 s.ka] s]:=by
 obtain⟨fr,ff,ft,fk,hr,hf,ht,hk⟩:=vS h;have LR:=hd_ (And.intro hl.r.1 hl.r.2);have LF:=hd_ hl.f;have LT:=hd_ hl.t;have LK:=hd_ hl.k;have HR:=hd_ hr;have HF:=hd_ (RdL.fl hf);have HT:=hd_ (RdL.fl ht);have HK:=hd_ (RdL.fl hk);clear h hl hr hf ht hk
 have X:=((M.start w).alloc #[.slice V.xr V.nr V.cr,.slice V.xf V.nf V.cf,.slice V.xt V.nt V.ct,.int .i64 s.lo,.int .i64 s.al,.slice V.xk V.nk V.ck,.int .i64 s.ka] 46).alloc #[.slice none 0 0,.slice none 0 0,.slice none 0 0,.int .i64 0,.int .i64 0,.slice none 0 0,.int .i64 0] 46;simp only[World.size_alloc]at X;obtain⟨p1,hp1⟩:∃p,p=w.heap.size:=⟨_,rfl⟩
 obtain⟨p2,hp2⟩:∃p,p=w.heap.size+1:=⟨_,rfl⟩
 obtain⟨W0,hW0⟩:∃W,W=(w.alloc (.cells #[.slice V.xr V.nr V.cr,.slice V.xf V.nf V.cf,.slice V.xt V.nt V.ct,.int .i64 s.lo,.int .i64 s.al,.slice V.xk V.nk V.ck,.int .i64 s.ka] 46)).alloc (.cells #[.slice none 0 0,.slice none 0 0,.slice none 0 0,.int .i64 0,.int .i64 0,.slice none 0 0,.int .i64 0] 46):=⟨_,rfl⟩
 rw[<-hW0, <-hp2]at X;have H0:=hd_ (show M w.heap.size w W0 [bU p1 46 #[.slice V.xr V.nr V.cr,.slice V.xf V.nf V.cf,.slice V.xt V.nt V.ct,.int .i64 s.lo,.int .i64 s.al,.slice V.xk V.nk V.ck,.int .i64 s.ka],bU p2 46 #[.slice none 0 0,.slice none 0 0,.slice none 0 0,.int .i64 0,.int .i64 0,.slice none 0 0,.int .i64 0]] by rw[hp1];exact X.p1);clear X;go_enter Tryz.func217,Tryz.ntmps217
 go_upto_region 1 with fail
 rw[<-hW0, <-hp2, <-hp1];clear hW0 hp2 hp1;obtain⟨c0,c1,c2,c3,c4,c5,c6⟩:=H0.out.cells7;have K1:=hd_ (vJ W0 (cB.below HR.out H0.out.below lr_) LR.out.1 (fun r hr=>by obtain⟨i,hi,rfl⟩:=List.getElem_of_mem hr;have:=LR.out.2 i hi;rwa[List.getD_eq_getElem?_getD,List.getElem?_eq_getElem hi]at this))
 go_wp2_with fail
 refine K1.out.mono ?_;rintro r v1 ⟨yr,dr,rfl,hm⟩;have X:=(H0.out.plus hm).p1;clear hm K1 H0 c0 c1 c2 c3 c4 c5 c6;obtain⟨c0,c1,c2,c3,c4,c5,c6⟩:=X.cells7;have cf:=X.free;have Y:=X.set (i:=0) (.slice yr s.rs.length dr);simp only[List.setIfInBounds_toArray,List.set_cons_zero,List.set_cons_succ]at Y;obtain⟨W1,hW⟩:∃W,W=v1.setCell ⟨p1,0,none⟩ (.slice yr s.rs.length dr):=⟨_,rfl⟩
 rw[<-hW]at Y;have H1:=hd_ Y;clear X Y;go_upto_region 2 with fail
 rw[<-hW];clear hW c0 c1 c2 c3 c4 c5 c6 cf;obtain⟨c0,c1,c2,c3,c4,c5,c6⟩:=H1.out.cells7;have K2:=hd_ (wK W1 (HF.out.later H1.out.below) LF.out)
 go_wp2_with fail
 refine K2.out.mono ?_;rintro r v2 ⟨yf,df,rfl,hm⟩;have X:=(H1.out.plus hm).soft.p1;clear hm K2 H1 c0 c1 c2 c3 c4 c5 c6;obtain⟨c0,c1,c2,c3,c4,c5,c6⟩:=X.cells7;have cf:=X.free;have Y:=X.set (i:=1) (.slice yf s.zs.length df);simp only[List.setIfInBounds_toArray,List.set_cons_zero,List.set_cons_succ]at Y;obtain⟨W2,hW⟩:∃W,W=v2.setCell ⟨p1,1,none⟩ (.slice yf s.zs.length df):=⟨_,rfl⟩
 rw[<-hW]at Y;have H2:=hd_ Y;clear X Y;go_upto_region 3 with fail
 rw[<-hW];clear hW c0 c1 c2 c3 c4 c5 c6 cf;obtain⟨c0,c1,c2,c3,c4,c5,c6⟩:=H2.out.cells7;have K3:=hd_ (aDC W2 (HT.out.later H2.out.below) LT.out)
 go_wp2_with fail
 refine K3.out.mono ?_;rintro r v3 ⟨yt,dt,rfl,hm⟩;have X:=(H2.out.plus hm).soft.p1;clear hm K3 H2 c0 c1 c2 c3 c4 c5 c6;obtain⟨c0,c1,c2,c3,c4,c5,c6⟩:=X.cells7;have cf:=X.free;have Y:=X.set (i:=2) (.slice yt s.ps.length dt);simp only[List.setIfInBounds_toArray,List.set_cons_zero,List.set_cons_succ]at Y;obtain⟨W3,hW⟩:∃W,W=v3.setCell ⟨p1,2,none⟩ (.slice yt s.ps.length dt):=⟨_,rfl⟩
 rw[<-hW]at Y;have H3:=hd_ Y;clear X Y;go_upto_region 4 with fail
 rw[<-hW];clear hW c0 c1 c2 c3 c4 c5 c6 cf;obtain⟨c0,c1,c2,c3,c4,c5,c6⟩:=H3.out.cells7;have K4:=hd_ (aCW W3 (HK.out.later H3.out.below) LK.out)
 go_wp2_with fail
 refine K4.out.mono ?_;rintro r v4 ⟨yk,dk,rfl,hm⟩;have X:=(H3.out.plus hm).soft.p1;clear hm K4 H3 c0 c1 c2 c3 c4 c5 c6;obtain⟨c0,c1,c2,c3,c4,c5,c6⟩:=X.cells7;have cf:=X.free;have Y:=X.set (i:=5) (.slice yk s.ks.length dk);simp only[List.setIfInBounds_toArray,List.set_cons_zero,List.set_cons_succ]at Y;obtain⟨W4,hW⟩:∃W,W=v4.setCell ⟨p1,5,none⟩ (.slice yk s.ks.length dk):=⟨_,rfl⟩
 rw[<-hW]at Y;have H4:=hd_ Y;clear X Y;go_upto_region 5 with fail
 rw[<-hW];clear hW c0 c1 c2 c3 c4 c5 c6 cf;obtain⟨U,hU⟩:∃U:SV,U=⟨yr,s.rs.length,dr,yf,s.zs.length,df,yt,s.ps.length,dt,yk,s.ks.length,dk⟩:=⟨_,rfl⟩
 have H5:=hd_ (show M w.heap.size w W4 (bU p1 46 #[.slice U.xr U.nr U.cr,.slice U.xf U.nf U.cf,.slice U.xt U.nt U.ct,.int .i64 s.lo,.int .i64 s.al,.slice U.xk U.nk U.ck,.int .i64 s.ka]::sN (.slice U.xk U.nk U.ck) s.ks::sV (.slice U.xt U.nt U.ct) s.ps::tX (.slice U.xf U.nf U.cf) s.zs::nD (.slice U.xr U.nr U.cr) s.rs::[bU p2 46 #[.slice none 0 0,.slice none 0 0,.slice none 0 0,.int .i64 0,.int .i64 0,.slice none 0 0,.int .i64 0]]) by rw[hU];exact H4.out)
 have EU:Hid (∀x:SV,x=⟨yr,s.rs.length,dr,yf,s.zs.length,df,yt,s.ps.length,dt,yk,s.ks.length,dk⟩->True):=hd_ fun _ _=>trivial
 obtain⟨c0,c1,c2,c3,c4,c5,c6⟩:=H5.out.cells7;have ev:(#[.slice yr s.rs.length dr,.slice yf s.zs.length df,.slice yt s.ps.length dt,.int .i64 s.lo,.int .i64 s.al,.slice yk s.ks.length dk,.int .i64 s.ka]:Array Value)=#[.slice U.xr U.nr U.cr,.slice U.xf U.nf U.cf,.slice U.xt U.nt U.ct,.int .i64 s.lo,.int .i64 s.al,.slice U.xk U.nk U.ck,.int .i64 s.ka]:=by rw[hU]
 go_wp2_with (go_loud (refine cF H5.out.p5 (vs:=[.slice U.xr U.nr U.cr,.slice U.xf U.nf U.cf,.slice U.xt U.nt U.ct,.int .i64 s.lo,.int .i64 s.al,.slice U.xk U.nk U.ck,.int .i64 s.ka]) (ys:=#[.slice U.xr U.nr U.cr,.slice U.xf U.nf U.cf,.slice U.xt U.nt U.ct,.int .i64 s.lo,.int .i64 s.al,.slice U.xk U.nk U.ck,.int .i64 s.ka]) rfl rfl rfl (by first|rfl|simp) aB0 rfl (by simp) (by simp[qF]) ?_);intro w9 h9;have H9:=hd_ h9;clear h9 H5)
 obtain⟨e0,e1,e2,e3,e4,e5,e6⟩:=H9.out.cells7;exact bodyPost_ret (v:=.agg #[.slice U.xr U.nr U.cr,.slice U.xf U.nf U.cf,.slice U.xt U.nt U.ct,.int .i64 s.lo,.int .i64 s.al,.slice U.xk U.nk U.ck,.int .i64 s.ka]) (by simp[results,Tryz.results217,go_sem,e0,e1,e2,e3,e4,e5,e6]) rfl ⟨U,rfl,M.sumWhole ((H9.out.drop.drop).perm (List.reverse_perm [_,_,_,_] |>.symm))⟩
theorem uV (w:World) {V:SV} {e:En} {f:List Nat} (h:pC w [.slice V.xr V.nr V.cr,.slice V.xf V.nf V.cf,.slice V.xt V.nt V.ct,.int .i64 (e.s).lo,.int .i64 (e.s).al,.slice V.xk V.nk V.ck,.int .i64 (e.s).ka] e.s f) (hl:qD e.s):
  Calls Tryz.prog 166 #[aAH V e] w fun r w'=>∃U,r=.returned (aAH U e)/\M w.heap.size w w' [aLI U e]:=by
 obtain⟨node,born,num,s⟩:=e;simp only at h hl;show Calls Tryz.prog 166 #[.agg #[.int .i64 node,.int .i64 born,.int .i64 num,.slice V.xr V.nr V.cr,.slice V.xf V.nf V.cf,.slice V.xt V.nt V.ct,.int .i64 s.lo,.int .i64 s.al,.slice V.xk V.nk V.ck,.int .i64 s.ka]] w _
 have HS:=hd_ h;have HL:=hd_ hl;clear h hl
 have X:=((M.start w).alloc #[.int .i64 node,.int .i64 born,.int .i64 num,.slice V.xr V.nr V.cr,.slice V.xf V.nf V.cf,.slice V.xt V.nt V.ct,.int .i64 s.lo,.int .i64 s.al,.slice V.xk V.nk V.ck,.int .i64 s.ka] 64).alloc #[.int .i64 0,.int .i64 0,.int .i64 0,.slice none 0 0,.slice none 0 0,.slice none 0 0,.int .i64 0,.int .i64 0,.slice none 0 0,.int .i64 0] 64;simp only[World.size_alloc]at X
 obtain⟨p1,hp1⟩:∃p,p=w.heap.size:=⟨_,rfl⟩
 obtain⟨p2,hp2⟩:∃p,p=w.heap.size+1:=⟨_,rfl⟩
 obtain⟨W0,hW0⟩:∃W,W=(w.alloc (.cells #[.int .i64 node,.int .i64 born,.int .i64 num,.slice V.xr V.nr V.cr,.slice V.xf V.nf V.cf,.slice V.xt V.nt V.ct,.int .i64 s.lo,.int .i64 s.al,.slice V.xk V.nk V.ck,.int .i64 s.ka] 64)).alloc (.cells #[.int .i64 0,.int .i64 0,.int .i64 0,.slice none 0 0,.slice none 0 0,.slice none 0 0,.int .i64 0,.int .i64 0,.slice none 0 0,.int .i64 0] 64):=⟨_,rfl⟩
 rw[<-hW0, <-hp2]at X
 have H0:=hd_ (show M w.heap.size w W0 [bU p1 64 #[.int .i64 node,.int .i64 born,.int .i64 num,.slice V.xr V.nr V.cr,.slice V.xf V.nf V.cf,.slice V.xt V.nt V.ct,.int .i64 s.lo,.int .i64 s.al,.slice V.xk V.nk V.ck,.int .i64 s.ka],bU p2 64 #[.int .i64 0,.int .i64 0,.int .i64 0,.slice none 0 0,.slice none 0 0,.slice none 0 0,.int .i64 0,.int .i64 0,.slice none 0 0,.int .i64 0]] by rw[hp1];exact X.p1)
 clear X;go_enter Tryz.func166,Tryz.ntmps166;go_upto_region 1 with fail
 rw[<-hW0, <-hp2, <-hp1];clear hW0 hp2 hp1;obtain⟨c0,c1,c2,c3,c4,c5,c6,c7,c8,c9⟩:=H0.out.cells10;have K1:=hd_ (yT W0 (bC.below HS.out H0.out.below lr_) HL.out)
 go_wp2_with fail
 refine K1.out.mono ?_;rintro r v1 ⟨U,rfl,hm⟩;have H1:=hd_ (H0.out.plus hm).p1;clear hm K1 H0 c0 c1 c2 c3 c4 c5 c6 c7 c8 c9
 go_wp2_with (first|(refine cF H1.out (vs:=[.slice U.xr U.nr U.cr,.slice U.xf U.nf U.cf,.slice U.xt U.nt U.ct,.int .i64 s.lo,.int .i64 s.al,.slice U.xk U.nk U.ck,.int .i64 s.ka]) (ys:=#[.int .i64 node,.int .i64 born,.int .i64 num,.slice U.xr U.nr U.cr,.slice U.xf U.nf U.cf,.slice U.xt U.nt U.ct,.int .i64 s.lo,.int .i64 s.al,.slice U.xk U.nk U.ck,.int .i64 s.ka]) rfl rfl rfl rfl aB0 rfl (by simp) (by simp[qF]) ?_;intro w2 h2;have H2:=hd_ h2;obtain⟨c0,c1,c2,c3,c4,c5,c6,c7,c8,c9⟩:=h2.cells10;clear h2 H1)|(refine cF H2.out.p2 (vs:=[.int .i64 node,.int .i64 born,.int .i64 num,.slice U.xr U.nr U.cr,.slice U.xf U.nf U.cf,.slice U.xt U.nt U.ct,.int .i64 s.lo,.int .i64 s.al,.slice U.xk U.nk U.ck,.int .i64 s.ka]) (ys:=#[.int .i64 node,.int .i64 born,.int .i64 num,.slice U.xr U.nr U.cr,.slice U.xf U.nf U.cf,.slice U.xt U.nt U.ct,.int .i64 s.lo,.int .i64 s.al,.slice U.xk U.nk U.ck,.int .i64 s.ka]) rfl rfl rfl rfl aLi rfl (by simp) (by simp[qF]) ?_;intro w3 h3;have H3:=hd_ h3;clear h3 H2))
 obtain⟨e0,e1,e2,e3,e4,e5,e6,e7,e8,e9⟩:=H3.out.cells10;exact bodyPost_ret (v:=.agg #[.int .i64 node,.int .i64 born,.int .i64 num,.slice U.xr U.nr U.cr,.slice U.xf U.nf U.cf,.slice U.xt U.nt U.ct,.int .i64 s.lo,.int .i64 s.al,.slice U.xk U.nk U.ck,.int .i64 s.ka]) (by simp[results,Tryz.results166,go_sem,e0,e1,e2,e3,e4,e5,e6,e7,e8,e9]) rfl ⟨U,rfl,(H3.out.drop.drop.entry node born num)⟩
theorem sX (w:World) {x:Option Addr} {c:Nat} {es:List En} {f:List Nat} (h:eF TY w [.slice x es.length c] es f) (hk:es.length<=1048576) (hr:∀e ∈ es,qD e.s):
  Calls Tryz.prog 96 #[.slice x es.length c] w fun r w'=>∃y cy,r=.returned (.slice y es.length cy)/\M w.heap.size w w' [gH (.slice y es.length cy) es]:=by
 have H1:=hd_ h;have HR:=hd_ hr;clear h hr;have KC:Hid (Calls Tryz.prog 165 #[.slice x es.length c,.func (.func 166) #[] #[]] w fun r w'=>∃y cy,r=.returned (.slice y es.length cy)/\M w.heap.size w w' [gH (.slice y es.length cy) es]):=by
  refine hd_ ?_;go_enter Tryz.func165,Tryz.ntmps165;go_wp2;go_loopw [5,10] (fun y z wr=>∃(j cy:Nat) (xy:Option Addr),j<=es.length/\z=.int .i64 (j:Int)/\y=.slice xy j cy/\M w.heap.size w wr [gH (.slice xy j cy) (es.take j)]) (fun _ z _=>es.length - (intOf z).toNat)
  case atStart=>exact⟨0,0,none,Nat.zero_le _,rfl,rfl,M.nil aU 64 10 (M.start w)⟩
  case round=>
   obtain⟨j,cy,xy,hj,rfl,rfl,hM⟩:=hrel;have H:=hd_ hM;clear hM
   by_cases hlt:j<es.length
   ·obtain⟨e,he⟩:∃e,es[j]? =some e:=⟨_,List.getElem?_eq_getElem hlt⟩
    obtain⟨g,V,fe,rfl,_,_,sr,ca0,ca1,ca2,cas⟩:=iO H1.out he;have hWB:=H.out.below;have LL:qD e.s:=HR.out e (List.mem_of_getElem? he);have ST:=hd_ (aBJ he);have LT:Hid ((es.take j).length=j):=hd_ (by rw[List.length_take];omega);replace ca0:=cell_later hWB ca0;replace ca1:=cell_later hWB ca1;replace ca2:=cell_later hWB ca2;have ca3:=cell_later hWB (cas 0 _ rfl)
    have ca4:=cell_later hWB (cas 1 _ rfl);have ca5:=cell_later hWB (cas 2 _ rfl);have ca6:=cell_later hWB (cas 3 _ rfl);have ca7:=cell_later hWB (cas 4 _ rfl);have ca8:=cell_later hWB (cas 5 _ rfl);have ca9:=cell_later hWB (cas 6 _ rfl);have j0:(0:Int)<=(j:Int):=by omega
    have j1:(j:Int)<(es.length:Int):=by omega
    have h2:=H.out.alloc #[.int .i64 e.node,.int .i64 e.born,.int .i64 e.num,.slice V.xr V.nr V.cr,.slice V.xf V.nf V.cf,.slice V.xt V.nt V.ct,.int .i64 (e.s).lo,.int .i64 (e.s).al,.slice V.xk V.nk V.ck,.int .i64 (e.s).ka] 64;obtain⟨p7,hp7⟩:∃p,p=wr.heap.size:=⟨_,rfl⟩
    obtain⟨W,hW⟩:∃W',W'=wr.alloc (.cells #[.int .i64 e.node,.int .i64 e.born,.int .i64 e.num,.slice V.xr V.nr V.cr,.slice V.xf V.nf V.cf,.slice V.xt V.nt V.ct,.int .i64 (e.s).lo,.int .i64 (e.s).al,.slice V.xk V.nk V.ck,.int .i64 (e.s).ka] 64):=⟨_,rfl⟩
    rw[<-hW, <-hp7]at h2;have H2:=hd_ h2;have KE:=hd_ (uV W (V:=V) (e:=e) (bC.below sr h2.below lr_) LL);clear h2 cas hWB sr he LL H;go_upto_region 5 with fail
    rw[<-hW, <-hp7];clear hW hp7 ca0 ca1 ca2 ca3 ca4 ca5 ca6 ca7 ca8 ca9;obtain⟨d0,d1,d2,d3,d4,d5,d6,d7,d8,d9⟩:=H2.out.cells10
    go_wp2_with fail
    refine KE.out.mono ?_;rintro r2 w2 ⟨U,rfl,hm⟩;have H3:=hd_ ((H2.out.plus hm).p2.alloc #[.int .i64 e.node,.int .i64 e.born,.int .i64 e.num,.slice U.xr U.nr U.cr,.slice U.xf U.nf U.cf,.slice U.xt U.nt U.ct,.int .i64 (e.s).lo,.int .i64 (e.s).al,.slice U.xk U.nk U.ck,.int .i64 (e.s).ka] 64);clear hm KE H2 d0 d1 d2 d3 d4 d5 d6 d7 d8 d9;unfold aAH
    go_wp2_with (at_builtin;go_loud (refine tD aLB zM H3.out rfl rfl rfl rfl (by rw[LT.out];unfold maxLen;omega) (by rw[LT.out];omega) (N:=j+1) (by rw[LT.out]) ?_);intro y3 c3 w3 h4;have H4:=hd_ h4;clear h4 H3)
    go_roundw
    case rel=>exact⟨j+1,c3,y3,by omega,by go_num,rfl,by rw[ST.out];exact H4.out.p1.drop⟩
    case measure=>simp[intOf];omega
   ·obtain rfl:j=es.length:=by omega
    have ST:Hid (es.take es.length=es):=hd_ List.take_length;rw[ST.out]at H;go_wp2;go_ret;exact⟨_,_,rfl,H.out⟩
 go_enter Tryz.func96,Tryz.ntmps96
 go_wp2_with fail
 refine KC.out.mono ?_;rintro r w' ⟨y,cy,rfl,hm⟩;have H:=hd_ hm;clear hm;go_wp2;go_ret;exact⟨_,_,rfl,H.out⟩
end N
end Go.Proofs.YtcblbdpdbggkbaaGreat
set_option linter.unusedVariables false
set_option linter.unusedSectionVars false
set_option linter.unusedSimpArgs false
namespace Go.Proofs.YtcblbdpdbggkbaaGreat.N
open Go.RowKit Go.Sort
theorem aGd:∀{a:List Int} {lo:Int},a.Pairwise (· <·)->(∀x ∈ a,lo<=x/\x<=4)->lo<=5->(a.length:Int)<=5 - lo
 | [],lo,_,_,h=>by simp;omega
 |x::a,lo,ha,h,_=>by
  have hx:=List.pairwise_cons.1 ha;have h1:=h x List.mem_cons_self;have:=aGd (a:=a) (lo:=x+1) hx.2 (fun y hy=>⟨by have:=hx.1 y hy;omega,(h y (List.mem_cons_of_mem _ hy)).2⟩) (by omega);simp only[List.length_cons];omega
section
variable {ls:List Bool} {R:List Int} {b:Int}
end
end Go.Proofs.YtcblbdpdbggkbaaGreat.N
set_option linter.unusedVariables false
set_option linter.unusedSectionVars false
set_option linter.unusedSimpArgs false
namespace Go.Proofs.YtcblbdpdbggkbaaGreat
open Go.RowKit Go.Sort
namespace N
theorem aAa {n:Nt} (h:kZ n=true) {i:Int} (hi:in6 i 0 4=true):sC n (aG n i).known/\(aG n i).known≠[]:=by
 unfold kZ at h;simp only[Bool.and_eq_true,List.all_eq_true,List.mem_range]at h;obtain⟨-, -,h3, -⟩:=h;obtain⟨a,b⟩:=cL.1 hi;have:=h3 i.toNat (by omega);rw[show ((i.toNat:Nat):Int)=i by omega]at this;unfold mN tJ at this;rw[Bool.and_eq_true,Bool.and_eq_true]at this;refine⟨kE.1 this.2.1,fun e=>?_⟩;have t1:=this.1;rw[e]at t1;simp[kX]at t1
theorem aHg {n:Nt} {es:List En} (h:sC n es):es.length<=5:=by
 have h1:(es.map fun e=>e.node).Pairwise (· <·):=List.pairwise_map.2 h.asc;have h2:=aGd (lo:=0) h1 (fun x hx=>by
    obtain⟨e,he,rfl⟩:=List.mem_map.1 hx
    exact (h.all e he).node) (by omega)
 rw[List.length_map]at h2;omega
theorem aFL {n:Nt} {es:List En} (hf:mX n) (h:sC n es) (e:En) (he:e ∈ es):okS e.s=true/\e.s.al<=100/\qD e.s:=by
 have T:=h.all e he;have hl:((bZ n e.node e.born).take e.num.toNat).length<=100:=by
  have hr:kC (bZ n e.node e.born)=true:=aDD (by
      have a:=T.node
      unfold bF at a
      have:=hf e.node.toNat (by omega)
      rwa[show ((e.node.toNat:Nat):Int)=e.node by omega]at this)
  have:=aKx hr;rw[List.length_take];omega
 rw[T.s];have:=(aJU T.ok).1;exact⟨T.ok,by omega,(aIm _).lens⟩
def dE (n:Nt) (i:Int):List En:=if kZ n=true/\in6 i 0 4=true then (aG n i).known else []
theorem lC (n:Nt) (i:Int):(dE n i).length<=5/\∀e ∈ dE n i,okS e.s=true/\e.s.al<=100/\qD e.s:=by
 unfold dE
 split
 ·rename_i h
  exact⟨aHg (aAa h.1 h.2).1,aFL (mM h.1).2 (aAa h.1 h.2).1⟩
 ·exact⟨Nat.zero_le _,fun e he=>by cases he⟩
theorem aAx (w:World) {x1 x2 x3 x4:Option Addr} {k1 c1 k2 c2 k3 c3 k4 c4:Nat} {n:Nt} (hn:iL w (.slice x1 k1 c1) (.slice x2 k2 c2) (.slice x3 k3 c3) (.slice x4 k4 c4) n) (i:Int):
  Calls Tryz.prog 32 #[.agg #[.slice x1 k1 c1,.slice x2 k2 c2,.slice x3 k3 c3,.slice x4 k4 c4],.int .i64 i] w fun r w'=>∃y c,r=.returned (.slice y (dE n i).length c)/\M w.heap.size w w' [gH (.slice y (dE n i).length c) (dE n i)]:=by
 have HN:=hd_ hn;have KF:=hd_ (lC n i);have h0:=(M.start w).alloc #[.slice x1 k1 c1,.slice x2 k2 c2,.slice x3 k3 c3,.slice x4 k4 c4] 30;obtain⟨p2,hp2⟩:∃p,p=w.heap.size:=⟨_,rfl⟩
 obtain⟨W1,hW1⟩:∃W',W'=w.alloc (.cells #[.slice x1 k1 c1,.slice x2 k2 c2,.slice x3 k3 c3,.slice x4 k4 c4] 30):=⟨_,rfl⟩
 rw[<-hW1]at h0;have H1:=hd_ (show M w.heap.size w W1 [bU p2 30 #[.slice x1 k1 c1,.slice x2 k2 c2,.slice x3 k3 c3,.slice x4 k4 c4]] by rw[hp2];exact h0);clear h0 hn;go_enter Tryz.func32,Tryz.ntmps32;go_upto_region 1 with fail
 rw[<-hW1, <-hp2];clear hW1 hp2;obtain⟨a0,a1,a2,a3⟩:=H1.out.cells4;obtain⟨q,hq⟩:∃q,q=kZ n:=⟨_,rfl⟩
 have KN:=hd_ (aEw W1 (HN.out.below H1.out.below lr_));rw[<-hq]at KN;have HQ:=hd_ hq;clear hq
 have NIL:Hid (dE n i=[]->∀w',M w.heap.size w w' [bU p2 30 #[.slice x1 k1 c1,.slice x2 k2 c2,.slice x3 k3 c3,.slice x4 k4 c4]]->∃y c,Ending.returned (Value.slice none 0 0)=.returned (.slice y (dE n i).length c)/\M w.heap.size w w' [gH (.slice y (dE n i).length c) (dE n i)]):=hd_ fun e w' h=>by
  rw[e];exact⟨none,0,rfl,(M.nil aU 64 10 h).p1.drop⟩
 go_wp2_with fail
 refine KN.out.mono ?_;rintro r w2 ⟨rfl,hb⟩;have H2:=hd_ (H1.out.later hb);clear hb KN H1 a0 a1 a2 a3;cases q with
 |false=>
  have F:=hd_ (NIL.out (by unfold dE;rw[if_neg (by rw[<-HQ.out];simp)]) _ H2.out);go_wp2;go_ret;exact F.out
 |true=>
  cases gi:in6 i 0 4 with
  |false=>
   have G:=hd_ gi;have F:=hd_ (NIL.out (by unfold dE;rw[if_neg (by rw[gi];simp)]) _ H2.out);clear gi
   go_wp2_with fail
   refine (rX _ i G.out).mono ?_;rintro r w' ⟨rfl,hw⟩;rw[<-hw];clear hw w';go_wp2;go_ret;exact F.out
  |true=>
   have G:=hd_ gi;have EF:Hid (dE n i=(aG n i).known):=hd_ (by unfold dE;rw[if_pos ⟨HQ.out.symm,gi⟩]);obtain⟨iA,iB⟩:=cL.1 gi;obtain⟨f1,n1⟩:=HN.out.nodes;obtain rfl:k1=5:=(aO n1).1.trans (mM HQ.out.symm).1.nodes;obtain⟨j,rfl⟩:∃j:Nat,i=j:=⟨i.toNat,by omega⟩
   have j5:j<5:=by omega
   obtain⟨nd,hnd⟩:∃nd,n.nodes[j]? =some nd:=⟨_,List.getElem?_eq_getElem (by rw[(mM HQ.out.symm).1.nodes];exact j5)⟩
   have eN:aG n (j:Int)=nd:=by unfold aG;rw[List.getD_eq_getElem?_getD,Int.toNat_natCast,hnd];rfl
   rw[eN]at EF;obtain⟨g1,xk,ck,fk,rfl,_,_,kr,_,_,b0,b1,_⟩:=fQ n1 hnd;have j0:(0:Int)<=(j:Int):=by omega
   have j1:(j:Int)<5:=by omega
   have R:=hd_ kr;replace b1:=cell_later H2.out.below b1;obtain⟨a0,a1,a2,a3⟩:=H2.out.cells4;clear gi hnd eN b0 n1 kr iA iB;have KE:=hd_ (sX w2 (es:=nd.known) ((aP aU _ _).below R.out H2.out.below lr_) (by rw[<-EF.out];have:=KF.out.1;omega) (by rw[<-EF.out];exact fun e he=>(KF.out.2 e he).2.2))
   go_wp2_with fail
   refine (mQ _ _ G.out).mono ?_;rintro r w' ⟨rfl,hw⟩;rw[<-hw];clear hw w'
   go_wp2_with fail
   refine KE.out.mono ?_;rintro r w3 ⟨y,cy,rfl,hm⟩;have H3:=hd_ (H2.out.plus hm);clear hm KE H2 a0 a1 a2 a3 b1;go_wp2;go_ret;exact⟨y,cy,by rw[EF.out];rfl,by rw[EF.out];exact H3.out.p1.drop⟩
end N
end Go.Proofs.YtcblbdpdbggkbaaGreat
