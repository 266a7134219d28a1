/-
  What the laws of XS need of the texts before it, part 13.
-/
import Derived.ArgAppend
import Derived.Below
import Derived.BigQuiet
import Derived.Carry
import Derived.ChangeAt
import Derived.ChangeOld
import Derived.ChangeSame
import Derived.Deep.AppendLies
import Derived.Deep.Cut
import Derived.Deep.DeepCutAuto
import Derived.Deep.DrawnRows
import Derived.Deep.Fields
import Derived.Deep.Matrix
import Derived.Deep.MidRow
import Derived.Deep.OwnRows
import Derived.Deep.QuietTactic
import Derived.Deep.RegionHeld3
import Derived.Deep.RegionLaw
import Derived.Deep.RegionLawGrows
import Derived.Deep.RegionWith
import Derived.Deep.Slices
import Derived.Deep.WholeRow
import Derived.DeepKeys5
import Derived.Handy
import Derived.IntWalk
import Derived.JoinedOf
import Derived.KernelRfl
import Derived.Laws.AppendOwnNone
import Derived.Laws.EntriesVeiled
import Derived.Laws.ResultCell
import Derived.Lib.AppendZerosOnto
import Derived.Lib.Hide
import Derived.Lib.QuietBelow
import Derived.Lib.SliceRun
import Derived.Lib.SmallJoins
import Derived.Lib.Walk
import Derived.LoopIn
import Derived.LoopN
import Derived.LoopNIn
import Derived.Maps.AppendAt
import Derived.Maps.Keyed
import Derived.Maps.Own
import Derived.OneCell
import Derived.OpenShut
import Derived.OrdersHeld
import Derived.OwnWalkIn
import Derived.RangeFuncBound
import Derived.RangeFuncBox
import Derived.RangeFuncCalls
import Derived.RangeFuncLeaves
import Derived.RangeFuncNested
import Derived.RegionTactic
import Derived.Shelf.Abstract
import Derived.Shelf.RegionOpen
import Derived.Shelf.SlSortCmp.InsertionK
import Derived.StillTail
import Derived.TacticsInMore
import Derived.Test.YtcblbdpdbggkbaaGreatChecked
import Derived.Test.YtcblbdpdbggkbaaGreatRows
import Derived.WalkKit
import Derived.WalkLawsBesides
import Derived.WalkSmall
import Derived.WalkSpells
import Derived.Test.YtcblbdpdbggkbaaGreatSXS12
set_option maxRecDepth 100000
set_option maxHeartbeats 16000000
set_option linter.unusedVariables false
set_option linter.unusedSectionVars false
set_option linter.unusedSimpArgs false
namespace Go.Proofs.YtcblbdpdbggkbaaGreat
open _root_.Go.Proofs.Tryz
theorem zAB {P:Prop} (h:P:=by
 obtain⟨e0,e1,e2,e3,e4,e5,e6⟩:=H5.out.cells7;rw[F.out];exact bodyPost_ret (v:=.tuple #[.agg #[.slice SV0.xr SV0.nr SV0.cr,.slice SV0.xf SV0.nf SV0.cf,.slice SV0.xt SV0.nt SV0.ct,iv eC.lo,iv eC.al,.slice SV0.xk SV0.nk SV0.ck,iv eC.ka],.bool false]) (by simp[results,results37,go_sem,e0,e1,e2,e3,e4,e5,e6]) rfl ⟨SV0,rfl,(H5.out.noSum.p1.drop.p1.drop)⟩):P:=h
end Go.Proofs.YtcblbdpdbggkbaaGreat
namespace Go.Proofs.YtcblbdpdbggkbaaGreat
open _root_.Go.Proofs.Tryz
open Go.RowKit Go.Sort
namespace N
def aL6 (w:World) (o:Option Sm) (r:Ending) (w':World):Prop:=∃U:SV,r=.returned (.tuple #[.agg #[.slice U.xr U.nr U.cr,.slice U.xf U.nf U.cf,.slice U.xt U.nt U.ct,.int .i64 (o.getD eC).lo,.int .i64 (o.getD eC).al,.slice U.xk U.nk U.ck,.int .i64 (o.getD eC).ka],.bool o.isSome])/\M w.heap.size w w' [aQ.ch (cS U (o.getD eC)) (o.getD eC)]
def SV0:SV:=⟨none,0,0,none,0,0,none,0,0,none,0,0⟩
theorem _root_.Go.Proofs.YtcblbdpdbggkbaaGreat.M.noSum {B:Nat} {w0 w:World} {l:List Ch} (h:M B w0 w l):M B w0 w (aQ.ch (cS SV0 eC) eC::l):=
 M.sumWhole (V:=SV0) (s:=eC) (M.nil fG 23 1 (M.nil (aO aEv) 3 1 (M.nil (aO pN) 213 2 (M.nil (aO pN) 152 2 h).soft).soft).soft)
theorem _root_.Go.Proofs.YtcblbdpdbggkbaaGreat.M.rdS {B:Nat} {w0 w:World} {l:List Ch} {V:SV} {s:Sm} (h:M B w0 w (aQ.ch (cS V s) s::l)):RdS w V s:=let ⟨_,hf,_⟩:=h.first;tU hf
theorem _root_.Go.Proofs.YtcblbdpdbggkbaaGreat.M.knownR' {B:Nat} {w0 w:World} {l:List Ch} {v:Value} {es:List En} (h:M B w0 w (jG v es::l)):∃f,fU TY w [v] es f:=let ⟨f,hf,_⟩:=h.first;⟨f,hf⟩
theorem aD5 (w:World) {x1 x2 x3 x4:Option Addr} {k1 c1 k2 c2 k3 c3 k4 c4:Nat} {n:Nt} (hn:jF w (.slice x1 k1 c1) (.slice x2 k2 c2) (.slice x3 k3 c3) (.slice x4 k4 c4) n) (i:Int):
  Calls prog 21 #[.agg #[.slice x1 k1 c1,.slice x2 k2 c2,.slice x3 k3 c3,.slice x4 k4 c4],iv i] w (aL6 w (yP n i)):=by
 have HN:=hd_ hn;rw[aGR];obtain⟨kl,kf⟩:=sG n i;obtain⟨es,hes⟩:=nm_ (gH n i);have KK:=hd_ (fun (W:World) (hb:Below w.heap.size w W)=>aBm W (hn.below hb lr_) i);rw[<-hes]at kl kf KK ⊢;obtain⟨o,hoo⟩:∃o:Option Sm,o=if es.length=0 then none else some (rE es):=⟨_,rfl⟩
 rw[<-hoo];have OE:=hd_ hoo;clear hoo;have KF:=hd_ (fun e he=>And.intro (kf e he).1 (kf e he).2.1);have KL:=hd_ kl;have X:=((M.start w).alloc #[.slice x1 k1 c1,.slice x2 k2 c2,.slice x3 k3 c3,.slice x4 k4 c4] 30).alloc #[zn,zn,zn,iv 0,iv 0,zn,iv 0] 46;simp only[World.size_alloc]at X;obtain⟨p2,hp2⟩:=nm_ w.heap.size;obtain⟨p4,hp4⟩:=nm_ (w.heap.size+1)
 obtain⟨W0,hW0⟩:=nm_ ((w.alloc (.cells #[.slice x1 k1 c1,.slice x2 k2 c2,.slice x3 k3 c3,.slice x4 k4 c4] 30)).alloc (.cells #[zn,zn,zn,iv 0,iv 0,zn,iv 0] 46));rw[<-hW0, <-hp4]at X;have H0:=hd_ (show M w.heap.size w W0 [bO p4 46 #[zn,zn,zn,iv 0,iv 0,zn,iv 0],bO p2 30 #[.slice x1 k1 c1,.slice x2 k2 c2,.slice x3 k3 c3,.slice x4 k4 c4]] by rw[hp2];exact X);clear X hn hes kf kl
 go_enter func21,ntmps21;go_upto_region 1 with fail
 rw[<-hW0, <-hp4, <-hp2];clear hW0 hp4 hp2;have KN:=hd_ (yC W0)
 go_wp2_with (go_at_call 77;refine KN.out.mono ?_;rintro r w1 ⟨V,rfl,ho,hb⟩;have h1:=(H0.out.sum hb ho).alloc (cS V fE) 46;obtain⟨a0,a1,a2,a3⟩:=h1.p3.cells4;clear KN)
 obtain⟨p6,hp6⟩:=nm_ w1.heap.size;obtain⟨W1,hW1⟩:=nm_ (w1.alloc (.cells (cS V fE) 46));rw[<-hW1, <-hp6]at h1;have H1:=hd_ h1;clear h1 ho hb H0 a0 a1 a2 a3;rw[<-hW1, <-hp6];clear hW1 hp6;refine (KK.out _ H1.out.below).mono ?_;rintro r w2 ⟨y,cy,rfl,hm⟩;have H2:=hd_ (H1.out.plus hm).p2;obtain⟨ne,hne⟩:=nm_ es.length;rw[<-hne]at H2 ⊢;have n5:ne<=5:=by rw[hne];exact KL.out
 have NE:=hd_ hne;clear hm H1 KK hne;go_wp2;go_loopw [7,15] (fun b z wr=>∃(j:Nat) (V:SV) (s:Sm),j<=ne/\z=.int .i64 (j:Int)/\b=.bool (decide (0<j))/\s=rE (es.take j)/\M w.heap.size w wr [aQ.ch (cS V s) s,jG (.slice y ne cy) es,bO p6 46 (cS V s),bO p4 46 #[zn,zn,zn,iv 0,iv 0,zn,iv 0]]) (fun _ z _=>ne - (intOf z).toNat)
 case atStart=>exact⟨0,V,fE,Nat.zero_le _,rfl,rfl,rfl,H2.out.p4.drop⟩
 case round=>
  clear H2;obtain⟨j,V,s,hj,rfl,rfl,hs,hM⟩:=hrel;have H:=hd_ hM;have HS:=hd_ hs;clear hM hs
  by_cases hlt:j<ne
  ·obtain⟨e,he⟩:∃e,es[j]? =some e:=⟨_,List.getElem?_eq_getElem (by rw[<-NE.out];exact hlt)⟩
   obtain⟨fe,hfe⟩:=H.out.p1.knownR';obtain⟨g,Ve,_,rfl,_,_,sr,ca0,ca1,ca2,cas⟩:=jP hfe he;obtain⟨st,jo⟩:=aCp KF.out KL.out he;have ca3:=cas 0 _ rfl;have ca4:=cas 1 _ rfl;have ca5:=cas 2 _ rfl;have ca6:=cas 3 _ rfl;have ca7:=cas 4 _ rfl;have ca8:=cas 5 _ rfl;have ca9:=cas 6 _ rfl;have j0:(0:Int)<=(j:Int):=o_;have j1:(j:Int)<(ne:Int):=o_;rw[<-HS.out]at st jo;have ST:=hd_ st
   have JO:=hd_ jo;have h2:=H.out.alloc #[iv e.node,iv e.born,iv e.num,.slice Ve.xr Ve.nr Ve.cr,.slice Ve.xf Ve.nf Ve.cf,.slice Ve.xt Ve.nt Ve.ct,.int .i64 (e.s).lo,.int .i64 (e.s).al,.slice Ve.xk Ve.nk Ve.ck,.int .i64 (e.s).ka] 64;obtain⟨p9,hp9⟩:=nm_ wr.heap.size
   obtain⟨W,hW⟩:=nm_ (wr.alloc (.cells #[iv e.node,iv e.born,iv e.num,.slice Ve.xr Ve.nr Ve.cr,.slice Ve.xf Ve.nf Ve.cf,.slice Ve.xt Ve.nt Ve.ct,.int .i64 (e.s).lo,.int .i64 (e.s).al,.slice Ve.xk Ve.nk Ve.ck,.int .i64 (e.s).ka] 64));have bW:Below wr.heap.size wr W:=by rw[hW];exact (Below.refl _ _).alloc lr_ _
   rw[<-hW, <-hp9]at h2;have H3:=hd_ h2;have KJ:=hd_ (uQ W V Ve s e.s h2.p1.rdS (tU (aQ.below sr bW lr_)));rw[jo, <-st]at KJ;clear h2 cas sr he hfe bW st jo H HS;go_upto_region 5 with fail
   rw[<-hW, <-hp9];clear hW hp9 ca0 ca1 ca2 ca3 ca4 ca5 ca6 ca7 ca8 ca9;obtain⟨d0,d1,d2,d3,d4,d5,d6,d7,d8,d9⟩:=H3.out.cells10;obtain⟨b0,b1,b2,b3,b4,b5,b6⟩:=H3.out.p3.cells7;obtain⟨s2,hs2⟩:=nm_ (rE (es.take (j+1)));have ES:=hd_ hs2;rw[<-hs2]at KJ;clear hs2
   go_wp2_with fail
   refine KJ.out.mono ?_;rintro r2 w3 ⟨U,rfl,ho,hb⟩;have H4:=hd_ (H3.out.sum hb ho);clear ho hb KJ H3 d0 d1 d2 d3 d4 d5 d6 d7 d8 d9 b0 b1 b2 b3 b4 b5 b6
   go_wp2_with (refine bE H4.out.p4 (vs:=[.slice U.xr U.nr U.cr,.slice U.xf U.nf U.cf,.slice U.xt U.nt U.ct,iv s2.lo,iv s2.al,.slice U.xk U.nk U.ck,iv s2.ka]) (ys:=#[.slice U.xr U.nr U.cr,.slice U.xf U.nf U.cf,.slice U.xt U.nt U.ct,iv s2.lo,iv s2.al,.slice U.xk U.nk U.ck,iv s2.ka]) rfl rfl rfl rfl vD rfl (by simp) (by simp[nO]) ?_;intro w5 h5;have H5:=hd_ h5;clear h5 H4)
   go_roundw
   case rel=>exact⟨j+1,U,s2,o_,gn_,by simp,ES.out,(H5.out.p2.drop.p1.p2.drop.p2.p1)⟩
   case measure=>simp[intOf];omega
  ·obtain rfl:j=ne:=o_
   have ST:Hid (es.take j=es):=hd_ (by rw[NE.out];exact List.take_length);rw[ST.out]at HS
   by_cases hz:j=0
   ·subst hz
    have F:Hid (o=none):=hd_ (OE.out.trans (if_pos NE.out.symm));have g0:decide (0<0)=false:=rfl;obtain⟨b0,b1,b2,b3,b4,b5,b6⟩:=H.out.p3.cells7
    go_wp2_with (refine bE H.out.p3 (vs:=[.slice SV0.xr SV0.nr SV0.cr,.slice SV0.xf SV0.nf SV0.cf,.slice SV0.xt SV0.nt SV0.ct,iv eC.lo,iv eC.al,.slice SV0.xk SV0.nk SV0.ck,iv eC.ka]) (ys:=#[.slice SV0.xr SV0.nr SV0.cr,.slice SV0.xf SV0.nf SV0.cf,.slice SV0.xt SV0.nt SV0.ct,iv eC.lo,iv eC.al,.slice SV0.xk SV0.nk SV0.ck,iv eC.ka]) rfl rfl rfl rfl vD rfl (by simp) (by simp[nO]) ?_;intro w5 h5;have H5:=hd_ h5;clear h5 H)
    obtain⟨e0,e1,e2,e3,e4,e5,e6⟩:=H5.out.cells7;rw[F.out];exact bodyPost_ret (v:=.tuple #[.agg #[.slice SV0.xr SV0.nr SV0.cr,.slice SV0.xf SV0.nf SV0.cf,.slice SV0.xt SV0.nt SV0.ct,iv eC.lo,iv eC.al,.slice SV0.xk SV0.nk SV0.ck,iv eC.ka],.bool false]) (by simp[results,results21,go_sem,e0,e1,e2,e3,e4,e5,e6]) rfl ⟨SV0,rfl,(H5.out.noSum.p1.drop.p1.drop.p1.drop.p1.drop)⟩
   ·have F:Hid (o=some (rE es)):=hd_ (OE.out.trans (if_neg (by rw[<-NE.out];exact hz)))
    have g0:decide (0<j)=true:=decide_eq_true o_;rw[<-HS.out]at F;obtain⟨d0,d1,d2,d3,d4,d5,d6⟩:=H.out.p2.cells7
    go_wp2_with (refine bE H.out.p3 (vs:=[.slice V.xr V.nr V.cr,.slice V.xf V.nf V.cf,.slice V.xt V.nt V.ct,iv s.lo,iv s.al,.slice V.xk V.nk V.ck,iv s.ka]) (ys:=#[.slice V.xr V.nr V.cr,.slice V.xf V.nf V.cf,.slice V.xt V.nt V.ct,iv s.lo,iv s.al,.slice V.xk V.nk V.ck,iv s.ka]) rfl rfl rfl rfl vD rfl (by simp) (by simp[nO]) ?_;intro w5 h5;have H5:=hd_ h5;clear h5 H)
    obtain⟨e0,e1,e2,e3,e4,e5,e6⟩:=H5.out.cells7;rw[F.out];exact bodyPost_ret (v:=.tuple #[.agg #[.slice V.xr V.nr V.cr,.slice V.xf V.nf V.cf,.slice V.xt V.nt V.ct,iv s.lo,iv s.al,.slice V.xk V.nk V.ck,iv s.ka],.bool true]) (by simp[results,results21,go_sem,e0,e1,e2,e3,e4,e5,e6]) rfl ⟨V,rfl,H5.out.drop.p1.drop.p1.drop⟩
end N
end Go.Proofs.YtcblbdpdbggkbaaGreat
namespace Go.Proofs.YtcblbdpdbggkbaaGreat
open _root_.Go.Proofs.Tryz
open Go.RowKit Go.Sort
theorem aBe (w:World) (V1 V2:SV) (a b:Sm) (h1:RdS w V1 a) (h2:RdS w V2 b) (okA:okS a=false):
  Calls prog 100 #[.agg #[.slice V1.xr V1.nr V1.cr,.slice V1.xf V1.nf V1.cf,.slice V1.xt V1.nt V1.ct,iv a.lo,iv a.al,.slice V1.xk V1.nk V1.ck,iv a.ka],.agg #[.slice V2.xr V2.nr V2.cr,.slice V2.xf V2.nf V2.cf,.slice V2.xt V2.nt V2.ct,iv b.lo,iv b.al,.slice V2.xk V2.nk V2.ck,iv b.ka]] w fun e w'=>∃U,e=.returned (.tuple #[.agg #[.slice U.xr U.nr U.cr,.slice U.xf U.nf U.cf,.slice U.xt U.nt U.ct,.int .i64 (bY a b).lo,.int .i64 (bY a b).al,.slice U.xk U.nk U.ck,.int .i64 (bY a b).ka],.bool (aY a b)])/\aV w' w.heap.size w'.heap.size U (bY a b)/\Below w.heap.size w w':=by
 have hno:aY a b=false:=by unfold aY;rw[okA];rfl
 have hA:=(((Below.refl w.heap.size w).alloc lr_ (.cells (cS V1 a) 46)).alloc (by simp) (.cells (cS V2 b) 46)).alloc (by simp;omega) (.cells #[zn,zn,zn,iv 0,iv 0,zn,iv 0] 46)
 have XA:=((aI.new w 46 (.slice V1.xr V1.nr V1.cr) (.slice V1.xf V1.nf V1.cf) (.slice V1.xt V1.nt V1.ct) (iv a.lo) (iv a.al) (.slice V1.xk V1.nk V1.ck) (iv a.ka)).alloc (.cells (cS V2 b) 46)).alloc (.cells #[zn,zn,zn,iv 0,iv 0,zn,iv 0] 46)
 have XB:=(aI.new (w.alloc (.cells (cS V1 a) 46)) 46 (.slice V2.xr V2.nr V2.cr) (.slice V2.xf V2.nf V2.cf) (.slice V2.xt V2.nt V2.ct) (iv b.lo) (iv b.al) (.slice V2.xk V2.nk V2.ck) (iv b.ka)).alloc (.cells #[zn,zn,zn,iv 0,iv 0,zn,iv 0] 46);rw[World.size_alloc]at XB;have R:=aI.new ((w.alloc (.cells (cS V1 a) 46)).alloc (.cells (cS V2 b) 46)) 46 zn zn zn (iv 0) (iv 0) zn (iv 0)
 rw[World.size_alloc,World.size_alloc]at R;obtain⟨axa0,axa1,axa2,axa3,axa4,axa5,axa6⟩:=(XA).cells;obtain⟨W0,hW⟩:=nm_ (((w.alloc (.cells (cS V1 a) 46)).alloc (.cells (cS V2 b) 46)).alloc (.cells #[zn,zn,zn,iv 0,iv 0,zn,iv 0] 46));rw[<-hW]at hA XA XB R;have B:=hd_ hA;have H1:=hd_ h1;have H2:=hd_ h2;have SZ:Hid (W0.heap.size=w.heap.size+3):=by show _=_;rw[hW];simp
 clear hA h1 h2;have K1:=fP W0 V1 a (H1.out.below B.out lr_);rw[okA]at K1;go_enter func100,ntmps100
 go_wp2_with fail
 rw[<-hW];clear hW axa0 axa1 axa2 axa3 axa4 axa5 axa6;refine (K1).mono ?_;rintro e w1 ⟨rfl,hb⟩;clear K1;have SZ1:=hd_ hb.size;replace XA:=XA.later hb;replace XB:=XB.later hb;replace R:=R.later hb;replace B:=hd_ (B.out.trans (hb.mono B.out.size));clear hb;obtain⟨cr0,cr1,cr2,cr3,cr4,cr5,cr6⟩:=(R).cells;have frr:=R.free;have fin:=R.set zn zn zn (iv 0) (iv 0) zn (iv 0)
 have OF:=aV.box7 (aV.none _ _ _ B.out.size lr_) R zn zn zn (iv 0) (iv 0) zn (iv 0);have BF:=aR B.out (show w.heap.size<=w.heap.size+1+1 by omega) zn zn zn (iv 0) (iv 0) zn (iv 0);have SF:=bS w1 (w.heap.size+1+1) zn zn zn (iv 0) (iv 0) zn (iv 0);have HF:=hd_ (And.intro (aV.base OF lr_ (Nat.le_of_eq SF.symm) lr_) BF);have HY:=hd_ fin;clear fin OF BF SF;go_wp2
 show bodyPost _ _ _ _ _ (set7 w1 (w.heap.size+1+1) zn zn zn (iv 0) (iv 0) zn (iv 0))
 obtain⟨d0,d1,d2,d3,d4,d5,d6⟩:=HY.out.cells;generalize set7 w1 (w.heap.size+1+1) zn zn zn (iv 0) (iv 0) zn (iv 0)=WF at HF d0 d1 d2 d3 d4 d5 d6 ⊢;refine bodyPost_ret (v:=.tuple #[.agg #[zn,zn,zn,iv 0,iv 0,zn,iv 0],.bool false]) (by simp[results,results100,go_sem,d0,d1,d2,d3,d4,d5,d6]) rfl ?_;rw[nM hno,hno];exact⟨SV.none,rfl,HF.out⟩
theorem aBK (w:World) (V1 V2:SV) (a b:Sm) (h1:RdS w V1 a) (h2:RdS w V2 b) (okA:okS a=true) (okB':okS b=false):
  Calls prog 100 #[.agg #[.slice V1.xr V1.nr V1.cr,.slice V1.xf V1.nf V1.cf,.slice V1.xt V1.nt V1.ct,iv a.lo,iv a.al,.slice V1.xk V1.nk V1.ck,iv a.ka],.agg #[.slice V2.xr V2.nr V2.cr,.slice V2.xf V2.nf V2.cf,.slice V2.xt V2.nt V2.ct,iv b.lo,iv b.al,.slice V2.xk V2.nk V2.ck,iv b.ka]] w fun e w'=>∃U,e=.returned (.tuple #[.agg #[.slice U.xr U.nr U.cr,.slice U.xf U.nf U.cf,.slice U.xt U.nt U.ct,.int .i64 (bY a b).lo,.int .i64 (bY a b).al,.slice U.xk U.nk U.ck,.int .i64 (bY a b).ka],.bool (aY a b)])/\aV w' w.heap.size w'.heap.size U (bY a b)/\Below w.heap.size w w':=by
 have hno:aY a b=false:=by unfold aY;rw[okB'];cases okS a<;>rfl
 have hA:=(((Below.refl w.heap.size w).alloc lr_ (.cells (cS V1 a) 46)).alloc (by simp) (.cells (cS V2 b) 46)).alloc (by simp;omega) (.cells #[zn,zn,zn,iv 0,iv 0,zn,iv 0] 46)
 have XA:=((aI.new w 46 (.slice V1.xr V1.nr V1.cr) (.slice V1.xf V1.nf V1.cf) (.slice V1.xt V1.nt V1.ct) (iv a.lo) (iv a.al) (.slice V1.xk V1.nk V1.ck) (iv a.ka)).alloc (.cells (cS V2 b) 46)).alloc (.cells #[zn,zn,zn,iv 0,iv 0,zn,iv 0] 46)
 have XB:=(aI.new (w.alloc (.cells (cS V1 a) 46)) 46 (.slice V2.xr V2.nr V2.cr) (.slice V2.xf V2.nf V2.cf) (.slice V2.xt V2.nt V2.ct) (iv b.lo) (iv b.al) (.slice V2.xk V2.nk V2.ck) (iv b.ka)).alloc (.cells #[zn,zn,zn,iv 0,iv 0,zn,iv 0] 46);rw[World.size_alloc]at XB;have R:=aI.new ((w.alloc (.cells (cS V1 a) 46)).alloc (.cells (cS V2 b) 46)) 46 zn zn zn (iv 0) (iv 0) zn (iv 0)
 rw[World.size_alloc,World.size_alloc]at R;obtain⟨axa0,axa1,axa2,axa3,axa4,axa5,axa6⟩:=(XA).cells;obtain⟨W0,hW⟩:=nm_ (((w.alloc (.cells (cS V1 a) 46)).alloc (.cells (cS V2 b) 46)).alloc (.cells #[zn,zn,zn,iv 0,iv 0,zn,iv 0] 46));rw[<-hW]at hA XA XB R;have B:=hd_ hA;have H1:=hd_ h1;have H2:=hd_ h2;have SZ:Hid (W0.heap.size=w.heap.size+3):=by show _=_;rw[hW];simp
 clear hA h1 h2;have K1:=fP W0 V1 a (H1.out.below B.out lr_);rw[okA]at K1;go_enter func100,ntmps100
 go_wp2_with fail
 rw[<-hW];clear hW axa0 axa1 axa2 axa3 axa4 axa5 axa6;refine (K1).mono ?_;rintro e w1 ⟨rfl,hb⟩;clear K1;have SZ1:=hd_ hb.size;replace XA:=XA.later hb;replace XB:=XB.later hb;replace R:=R.later hb;replace B:=hd_ (B.out.trans (hb.mono B.out.size));clear hb;obtain⟨cxb0,cxb1,cxb2,cxb3,cxb4,cxb5,cxb6⟩:=(XB).cells;have frr:=R.free;have K1:=fP w1 V2 b (H2.out.below B.out lr_);rw[okB']at K1
 go_wp2_with fail
 refine (K1).mono ?_;rintro e w2 ⟨rfl,hb⟩;clear K1;clear cxb0 cxb1 cxb2 cxb3 cxb4 cxb5 cxb6 frr;replace XA:=XA.later hb;replace XB:=XB.later hb;replace R:=R.later hb;replace B:=hd_ (B.out.trans (hb.mono B.out.size));clear hb;obtain⟨cr0,cr1,cr2,cr3,cr4,cr5,cr6⟩:=(R).cells;have frr:=R.free;have fin:=R.set zn zn zn (iv 0) (iv 0) zn (iv 0)
 have OF:=aV.box7 (aV.none _ _ _ B.out.size lr_) R zn zn zn (iv 0) (iv 0) zn (iv 0);have BF:=aR B.out (show w.heap.size<=w.heap.size+1+1 by omega) zn zn zn (iv 0) (iv 0) zn (iv 0);have SF:=bS w2 (w.heap.size+1+1) zn zn zn (iv 0) (iv 0) zn (iv 0);have HF:=hd_ (And.intro (aV.base OF lr_ (Nat.le_of_eq SF.symm) lr_) BF);have HY:=hd_ fin;clear fin OF BF SF;go_wp2
 show bodyPost _ _ _ _ _ (set7 w2 (w.heap.size+1+1) zn zn zn (iv 0) (iv 0) zn (iv 0))
 obtain⟨d0,d1,d2,d3,d4,d5,d6⟩:=HY.out.cells;generalize set7 w2 (w.heap.size+1+1) zn zn zn (iv 0) (iv 0) zn (iv 0)=WF at HF d0 d1 d2 d3 d4 d5 d6 ⊢;refine bodyPost_ret (v:=.tuple #[.agg #[zn,zn,zn,iv 0,iv 0,zn,iv 0],.bool false]) (by simp[results,results100,go_sem,d0,d1,d2,d3,d4,d5,d6]) rfl ?_;rw[nM hno,hno];exact⟨SV.none,rfl,HF.out⟩
theorem aA5 (w:World) (V1 V2:SV) (a b:Sm) (h1:RdS w V1 a) (h2:RdS w V2 b) (okA:okS a=true) (okB':okS b=true) (hs:¬a.al+b.al<=2000):
  Calls prog 100 #[.agg #[.slice V1.xr V1.nr V1.cr,.slice V1.xf V1.nf V1.cf,.slice V1.xt V1.nt V1.ct,iv a.lo,iv a.al,.slice V1.xk V1.nk V1.ck,iv a.ka],.agg #[.slice V2.xr V2.nr V2.cr,.slice V2.xf V2.nf V2.cf,.slice V2.xt V2.nt V2.ct,iv b.lo,iv b.al,.slice V2.xk V2.nk V2.ck,iv b.ka]] w fun e w'=>∃U,e=.returned (.tuple #[.agg #[.slice U.xr U.nr U.cr,.slice U.xf U.nf U.cf,.slice U.xt U.nt U.ct,.int .i64 (bY a b).lo,.int .i64 (bY a b).al,.slice U.xk U.nk U.ck,.int .i64 (bY a b).ka],.bool (aY a b)])/\aV w' w.heap.size w'.heap.size U (bY a b)/\Below w.heap.size w w':=by
 have hno:aY a b=false:=by unfold aY;rw[okA,okB',decide_eq_false hs];rfl
 have a0:=((bM _).1 okA).al0;have b0:=((bM _).1 okB').al0;have ws:IntKind.i64.wrap (a.al+b.al)=a.al+b.al:=IntWalk.i64_in _ o_;have gt:2000<a.al+b.al:=o_;have HS:=hd_ hs;clear hs;have hA:=(((Below.refl w.heap.size w).alloc lr_ (.cells (cS V1 a) 46)).alloc (by simp) (.cells (cS V2 b) 46)).alloc (by simp;omega) (.cells #[zn,zn,zn,iv 0,iv 0,zn,iv 0] 46)
 have XA:=((aI.new w 46 (.slice V1.xr V1.nr V1.cr) (.slice V1.xf V1.nf V1.cf) (.slice V1.xt V1.nt V1.ct) (iv a.lo) (iv a.al) (.slice V1.xk V1.nk V1.ck) (iv a.ka)).alloc (.cells (cS V2 b) 46)).alloc (.cells #[zn,zn,zn,iv 0,iv 0,zn,iv 0] 46)
 have XB:=(aI.new (w.alloc (.cells (cS V1 a) 46)) 46 (.slice V2.xr V2.nr V2.cr) (.slice V2.xf V2.nf V2.cf) (.slice V2.xt V2.nt V2.ct) (iv b.lo) (iv b.al) (.slice V2.xk V2.nk V2.ck) (iv b.ka)).alloc (.cells #[zn,zn,zn,iv 0,iv 0,zn,iv 0] 46);rw[World.size_alloc]at XB;have R:=aI.new ((w.alloc (.cells (cS V1 a) 46)).alloc (.cells (cS V2 b) 46)) 46 zn zn zn (iv 0) (iv 0) zn (iv 0)
 rw[World.size_alloc,World.size_alloc]at R;obtain⟨axa0,axa1,axa2,axa3,axa4,axa5,axa6⟩:=(XA).cells;obtain⟨W0,hW⟩:=nm_ (((w.alloc (.cells (cS V1 a) 46)).alloc (.cells (cS V2 b) 46)).alloc (.cells #[zn,zn,zn,iv 0,iv 0,zn,iv 0] 46));rw[<-hW]at hA XA XB R;have B:=hd_ hA;have H1:=hd_ h1;have H2:=hd_ h2;have SZ:Hid (W0.heap.size=w.heap.size+3):=by show _=_;rw[hW];simp
 clear hA h1 h2;have K1:=fP W0 V1 a (H1.out.below B.out lr_);rw[okA]at K1;go_enter func100,ntmps100
 go_wp2_with fail
 rw[<-hW];clear hW axa0 axa1 axa2 axa3 axa4 axa5 axa6;refine (K1).mono ?_;rintro e w1 ⟨rfl,hb⟩;clear K1;have SZ1:=hd_ hb.size;replace XA:=XA.later hb;replace XB:=XB.later hb;replace R:=R.later hb;replace B:=hd_ (B.out.trans (hb.mono B.out.size));clear hb;obtain⟨cxb0,cxb1,cxb2,cxb3,cxb4,cxb5,cxb6⟩:=(XB).cells;have frr:=R.free;have K1:=fP w1 V2 b (H2.out.below B.out lr_);rw[okB']at K1
 go_wp2_with fail
 refine (K1).mono ?_;rintro e w2 ⟨rfl,hb⟩;clear K1;clear cxb0 cxb1 cxb2 cxb3 cxb4 cxb5 cxb6 frr;replace XA:=XA.later hb;replace XB:=XB.later hb;replace R:=R.later hb;replace B:=hd_ (B.out.trans (hb.mono B.out.size));clear hb;obtain⟨cxa0,cxa1,cxa2,cxa3,cxa4,cxa5,cxa6⟩:=(XA).cells;obtain⟨cxb0,cxb1,cxb2,cxb3,cxb4,cxb5,cxb6⟩:=(XB).cells;obtain⟨cr0,cr1,cr2,cr3,cr4,cr5,cr6⟩:=(R).cells;have frr:=R.free
 have fin:=R.set zn zn zn (iv 0) (iv 0) zn (iv 0);have OF:=aV.box7 (aV.none _ _ _ B.out.size lr_) R zn zn zn (iv 0) (iv 0) zn (iv 0);have BF:=aR B.out (show w.heap.size<=w.heap.size+1+1 by omega) zn zn zn (iv 0) (iv 0) zn (iv 0);have SF:=bS w2 (w.heap.size+1+1) zn zn zn (iv 0) (iv 0) zn (iv 0);have HF:=hd_ (And.intro (aV.base OF lr_ (Nat.le_of_eq SF.symm) lr_) BF)
 have HY:=hd_ fin;clear fin OF BF SF;go_wp2;show bodyPost _ _ _ _ _ (set7 w2 (w.heap.size+1+1) zn zn zn (iv 0) (iv 0) zn (iv 0))
 obtain⟨d0,d1,d2,d3,d4,d5,d6⟩:=HY.out.cells;generalize set7 w2 (w.heap.size+1+1) zn zn zn (iv 0) (iv 0) zn (iv 0)=WF at HF d0 d1 d2 d3 d4 d5 d6 ⊢;refine bodyPost_ret (v:=.tuple #[.agg #[zn,zn,zn,iv 0,iv 0,zn,iv 0],.bool false]) (by simp[results,results100,go_sem,d0,d1,d2,d3,d4,d5,d6]) rfl ?_;rw[nM hno,hno];exact⟨SV.none,rfl,HF.out⟩
theorem aBR (w:World) (V1 V2:SV) (a b:Sm) (h1:RdS w V1 a) (h2:RdS w V2 b) (hok:aY a b=true):
  Calls prog 100 #[.agg #[.slice V1.xr V1.nr V1.cr,.slice V1.xf V1.nf V1.cf,.slice V1.xt V1.nt V1.ct,iv a.lo,iv a.al,.slice V1.xk V1.nk V1.ck,iv a.ka],.agg #[.slice V2.xr V2.nr V2.cr,.slice V2.xf V2.nf V2.cf,.slice V2.xt V2.nt V2.ct,iv b.lo,iv b.al,.slice V2.xk V2.nk V2.ck,iv b.ka]] w fun e w'=>∃U,e=.returned (.tuple #[.agg #[.slice U.xr U.nr U.cr,.slice U.xf U.nf U.cf,.slice U.xt U.nt U.ct,.int .i64 (bY a b).lo,.int .i64 (bY a b).al,.slice U.xk U.nk U.ck,.int .i64 (bY a b).ka],.bool (aY a b)])/\aV w' w.heap.size w'.heap.size U (bY a b)/\Below w.heap.size w w':=by
 have AA:=mX hok;have okA:=(bM _).2 AA.oka;have okB':=(bM _).2 AA.okb;have rm:=AA.room;have a0:=AA.oka.al0;have b0:=AA.okb.al0;have ws:IntKind.i64.wrap (a.al+b.al)=a.al+b.al:=IntWalk.i64_in _ o_;have JA:=hd_ (aCj AA.r);clear AA
 have hA:=(((Below.refl w.heap.size w).alloc lr_ (.cells (cS V1 a) 46)).alloc (by simp) (.cells (cS V2 b) 46)).alloc (by simp;omega) (.cells #[zn,zn,zn,iv 0,iv 0,zn,iv 0] 46)
 have XA:=((aI.new w 46 (.slice V1.xr V1.nr V1.cr) (.slice V1.xf V1.nf V1.cf) (.slice V1.xt V1.nt V1.ct) (iv a.lo) (iv a.al) (.slice V1.xk V1.nk V1.ck) (iv a.ka)).alloc (.cells (cS V2 b) 46)).alloc (.cells #[zn,zn,zn,iv 0,iv 0,zn,iv 0] 46)
 have XB:=(aI.new (w.alloc (.cells (cS V1 a) 46)) 46 (.slice V2.xr V2.nr V2.cr) (.slice V2.xf V2.nf V2.cf) (.slice V2.xt V2.nt V2.ct) (iv b.lo) (iv b.al) (.slice V2.xk V2.nk V2.ck) (iv b.ka)).alloc (.cells #[zn,zn,zn,iv 0,iv 0,zn,iv 0] 46);rw[World.size_alloc]at XB;have R:=aI.new ((w.alloc (.cells (cS V1 a) 46)).alloc (.cells (cS V2 b) 46)) 46 zn zn zn (iv 0) (iv 0) zn (iv 0)
 rw[World.size_alloc,World.size_alloc]at R;obtain⟨axa0,axa1,axa2,axa3,axa4,axa5,axa6⟩:=(XA).cells;obtain⟨W0,hW⟩:=nm_ (((w.alloc (.cells (cS V1 a) 46)).alloc (.cells (cS V2 b) 46)).alloc (.cells #[zn,zn,zn,iv 0,iv 0,zn,iv 0] 46));rw[<-hW]at hA XA XB R;have B:=hd_ hA;have H1:=hd_ h1;have H2:=hd_ h2;have SZ:Hid (W0.heap.size=w.heap.size+3):=by show _=_;rw[hW];simp
 clear hA h1 h2;have K1:=fP W0 V1 a (H1.out.below B.out lr_);rw[okA]at K1;go_enter func100,ntmps100
 go_wp2_with fail
 rw[<-hW];clear hW axa0 axa1 axa2 axa3 axa4 axa5 axa6;refine (K1).mono ?_;rintro e w1 ⟨rfl,hb⟩;clear K1;have SZ1:=hd_ hb.size;replace XA:=XA.later hb;replace XB:=XB.later hb;replace R:=R.later hb;replace B:=hd_ (B.out.trans (hb.mono B.out.size));clear hb;obtain⟨cxb0,cxb1,cxb2,cxb3,cxb4,cxb5,cxb6⟩:=(XB).cells;have frr:=R.free;have HOK:=hd_ hok;clear hok
 have K1:=fP w1 V2 b (H2.out.below B.out lr_);rw[okB']at K1
 go_wp2_with fail
 refine (K1).mono ?_;rintro e w2 ⟨rfl,hb⟩;clear K1;have SZ2:=hd_ (Nat.le_trans (Nat.le_of_eq SZ.out.symm) (Nat.le_trans SZ1.out hb.size));have LL:=hd_ (Nat.le_trans B.out.size hb.size);clear cxb0 cxb1 cxb2 cxb3 cxb4 cxb5 cxb6 frr;replace XA:=XA.later hb;replace XB:=XB.later hb;replace R:=R.later hb;replace B:=hd_ (B.out.trans (hb.mono B.out.size));clear hb
 obtain⟨cxa0,cxa1,cxa2,cxa3,cxa4,cxa5,cxa6⟩:=(XA).cells;obtain⟨cxb0,cxb1,cxb2,cxb3,cxb4,cxb5,cxb6⟩:=(XB).cells;have hA:=B.out.alloc B.out.size (.cells #[zn,zn,zn,iv 0,iv 0,zn,iv 0] 46);have X6:=aI.new w2 46 zn zn zn (iv 0) (iv 0) zn (iv 0);obtain⟨W2,hW⟩:=nm_ (w2.alloc (.cells #[zn,zn,zn,iv 0,iv 0,zn,iv 0] 46));replace XA:=XA.alloc (.cells #[zn,zn,zn,iv 0,iv 0,zn,iv 0] 46)
 replace XB:=XB.alloc (.cells #[zn,zn,zn,iv 0,iv 0,zn,iv 0] 46);replace R:=R.alloc (.cells #[zn,zn,zn,iv 0,iv 0,zn,iv 0] 46);obtain⟨bxa0,bxa1,bxa2,bxa3,bxa4,bxa5,bxa6⟩:=(XA).cells;obtain⟨bxb0,bxb1,bxb2,bxb3,bxb4,bxb5,bxb6⟩:=(XB).cells;rw[<-hW]at hA X6 XA XB R;replace B:=hd_ hA;clear hA
 go_wp2_with fail
 rw[<-hW];clear hW bxa0 bxa1 bxa2 bxa3 bxa4 bxa5 bxa6 bxb0 bxb1 bxb2 bxb3 bxb4 bxb5 bxb6;clear cxa0 cxa1 cxa2 cxa3 cxa4 cxa5 cxa6 cxb0 cxb1 cxb2 cxb3 cxb4 cxb5 cxb6;have Q:=H1.out.below B.out lr_;have Q2:=H2.out.below B.out lr_;have K1:=aJ8 W2 (.slice V1.xr V1.nr V1.cr) (.slice V2.xr V2.nr V2.cr) a.rs b.rs Q.r Q2.r;generalize hA:mQ a.rs b.rs=A0 at K1;have HA0:=hd_ hA
 generalize hO a.rs b.rs=ok0 at K1;clear hA Q Q2
 go_wp2_with fail
 refine (K1).mono ?_;rintro e w3 ⟨y0,c0',rfl,ho,hb⟩;obtain⟨m0,hm⟩:=nm_ ((A0).length);rw[<-hm]at ho ⊢;clear hm K1;have M0:=hd_ B.out.size;have q6:=SZ2.out;have N0:=hd_ hb.size;replace XA:=XA.later hb;replace XB:=XB.later hb;replace R:=R.later hb;replace B:=hd_ (B.out.trans (hb.mono B.out.size));replace X6:=X6.later hb;have O0:=hd_ (ho);clear hb
 obtain⟨W3,hW⟩:=nm_ (w3.setCell ⟨w2.heap.size,0,none⟩ (.slice y0 m0 c0'));obtain⟨ax60,ax61,ax62,ax63,ax64,ax65,ax66⟩:=(X6).cells;have frx6:=X6.free;replace B:=hd_ (B.out);replace XA:=XA.kept (aA _ ⟨w2.heap.size,0,none⟩ (.slice y0 m0 c0')) (by simp;omega);replace XB:=XB.kept (aA _ ⟨w2.heap.size,0,none⟩ (.slice y0 m0 c0')) (by simp;omega)
 replace R:=R.kept (aA _ ⟨w2.heap.size,0,none⟩ (.slice y0 m0 c0')) (by simp;omega);replace B:=hd_ (B.out.setCell (p:=⟨w2.heap.size,0,none⟩) LL.out (.slice y0 m0 c0'));replace O0:=hd_ (O0.out.cell7 X6 0 (.slice y0 m0 c0'));replace X6:=X6.set0 (.slice y0 m0 c0');obtain⟨bxa0,bxa1,bxa2,bxa3,bxa4,bxa5,bxa6⟩:=(XA).cells;obtain⟨bxb0,bxb1,bxb2,bxb3,bxb4,bxb5,bxb6⟩:=(XB).cells;rw[<-hW]at XA
 rw[<-hW]at XB;rw[<-hW]at R;rw[<-hW]at B;rw[<-hW]at X6;rw[<-hW]at O0
 go_wp2_with fail
 rw[<-hW];clear hW ax60 ax61 ax62 ax63 ax64 ax65 ax66 frx6 bxa0 bxa1 bxa2 bxa3 bxa4 bxa5 bxa6 bxb0 bxb1 bxb2 bxb3 bxb4 bxb5 bxb6;clear ho q6;have Q:=H1.out.below B.out lr_;have Q2:=H2.out.below B.out lr_;have K1:=aDL W3 (.slice V1.xf V1.nf V1.cf) (.slice V2.xf V2.nf V2.cf) a.zs b.zs Q.f Q2.f;generalize hA:fH a.zs b.zs=A1 at K1;have HA1:=hd_ hA;generalize aU a.zs b.zs=ok1 at K1
 clear hA Q Q2
 go_wp2_with fail
 refine (K1).mono ?_;rintro e w4 ⟨v,rfl,ho,hb⟩;obtain⟨y1,c1',rfl⟩:=ho.form';obtain⟨m1,hm⟩:=nm_ ((A1).length);rw[<-hm]at ho ⊢;clear hm K1;have M1:=hd_ B.out.size;have q6:=SZ2.out;have T1:=hd_ O0.out.top;replace XA:=XA.later hb;replace XB:=XB.later hb;replace R:=R.later hb;replace B:=hd_ (B.out.trans (hb.mono B.out.size));replace X6:=X6.later hb;replace O0:=hd_ (O0.out.below hb);have O1:=hd_ (ho)
 clear hb;obtain⟨W4,hW⟩:=nm_ (w4.setCell ⟨w2.heap.size,1,none⟩ (.slice y1 m1 c1'));obtain⟨ax60,ax61,ax62,ax63,ax64,ax65,ax66⟩:=(X6).cells;have frx6:=X6.free;replace B:=hd_ (B.out);replace XA:=XA.kept (aA _ ⟨w2.heap.size,1,none⟩ (.slice y1 m1 c1')) (by simp;omega);replace XB:=XB.kept (aA _ ⟨w2.heap.size,1,none⟩ (.slice y1 m1 c1')) (by simp;omega)
 replace R:=R.kept (aA _ ⟨w2.heap.size,1,none⟩ (.slice y1 m1 c1')) (by simp;omega);replace B:=hd_ (B.out.setCell (p:=⟨w2.heap.size,1,none⟩) LL.out (.slice y1 m1 c1'));replace O0:=hd_ (O0.out.cell7 X6 1 (.slice y1 m1 c1'));replace O1:=hd_ (O1.out.cell7 X6 1 (.slice y1 m1 c1'));replace X6:=X6.set1 (.slice y1 m1 c1');obtain⟨bxa0,bxa1,bxa2,bxa3,bxa4,bxa5,bxa6⟩:=(XA).cells
 obtain⟨bxb0,bxb1,bxb2,bxb3,bxb4,bxb5,bxb6⟩:=(XB).cells;rw[<-hW]at XA;rw[<-hW]at XB;rw[<-hW]at R;rw[<-hW]at B;rw[<-hW]at X6;rw[<-hW]at O0;rw[<-hW]at O1
 go_wp2_with fail
 rw[<-hW];clear hW ax60 ax61 ax62 ax63 ax64 ax65 ax66 frx6 bxa0 bxa1 bxa2 bxa3 bxa4 bxa5 bxa6 bxb0 bxb1 bxb2 bxb3 bxb4 bxb5 bxb6;clear ho q6;have Q:=H1.out.below B.out lr_;have Q2:=H2.out.below B.out lr_;have K1:=T.aDE W4 (.slice V1.xt V1.nt V1.ct) (.slice V2.xt V2.nt V2.ct) a.ps b.ps a.lo a.al b.lo b.al Q.t Q2.t;generalize hA:T.eO a.ps a.lo a.al b.ps b.lo b.al=A2 at K1
 have HA2:=hd_ hA;generalize T.fB a.ps a.lo a.al b.ps b.lo b.al=ok2 at K1;clear hA Q Q2
 go_wp2_with fail
 refine (K1).mono ?_;rintro e w5 ⟨v,rfl,ho,hb⟩;obtain⟨y2,c2',rfl⟩:=ho.form';obtain⟨m2,hm⟩:=nm_ ((A2.1).length);rw[<-hm]at ho ⊢;clear hm K1;have M2:=hd_ B.out.size;have q6:=SZ2.out;replace XA:=XA.later hb;replace XB:=XB.later hb;replace R:=R.later hb;replace B:=hd_ (B.out.trans (hb.mono B.out.size));replace X6:=X6.later hb;replace O0:=hd_ (O0.out.below hb);replace O1:=hd_ (O1.out.below hb)
 have O2:=hd_ (ho);clear hb;obtain⟨W5,hW⟩:=nm_ (((w5.setCell ⟨w2.heap.size,2,none⟩ (.slice y2 m2 c2')).setCell ⟨w2.heap.size,3,none⟩ (iv A2.2.1)).setCell ⟨w2.heap.size,4,none⟩ (iv A2.2.2));obtain⟨ax60,ax61,ax62,ax63,ax64,ax65,ax66⟩:=(X6).cells;have frx6:=X6.free;replace B:=hd_ (B.out);replace XA:=XA.kept (aA _ ⟨w2.heap.size,2,none⟩ (.slice y2 m2 c2')) (by simp;omega)
 replace XB:=XB.kept (aA _ ⟨w2.heap.size,2,none⟩ (.slice y2 m2 c2')) (by simp;omega);replace R:=R.kept (aA _ ⟨w2.heap.size,2,none⟩ (.slice y2 m2 c2')) (by simp;omega);replace B:=hd_ (B.out.setCell (p:=⟨w2.heap.size,2,none⟩) LL.out (.slice y2 m2 c2'));replace O0:=hd_ (O0.out.cell7 X6 2 (.slice y2 m2 c2'));replace O1:=hd_ (O1.out.cell7 X6 2 (.slice y2 m2 c2'))
 replace O2:=hd_ (O2.out.cell7 X6 2 (.slice y2 m2 c2'));replace X6:=X6.set2 (.slice y2 m2 c2');replace XA:=XA.kept (aA _ ⟨w2.heap.size,3,none⟩ (iv A2.2.1)) (by simp;omega);replace XB:=XB.kept (aA _ ⟨w2.heap.size,3,none⟩ (iv A2.2.1)) (by simp;omega);replace R:=R.kept (aA _ ⟨w2.heap.size,3,none⟩ (iv A2.2.1)) (by simp;omega)
 replace B:=hd_ (B.out.setCell (p:=⟨w2.heap.size,3,none⟩) LL.out (iv A2.2.1));replace O0:=hd_ (O0.out.cell7 X6 3 (iv A2.2.1));replace O1:=hd_ (O1.out.cell7 X6 3 (iv A2.2.1));replace O2:=hd_ (O2.out.cell7 X6 3 (iv A2.2.1));replace X6:=X6.set3 (iv A2.2.1);replace XA:=XA.kept (aA _ ⟨w2.heap.size,4,none⟩ (iv A2.2.2)) (by simp;omega)
 replace XB:=XB.kept (aA _ ⟨w2.heap.size,4,none⟩ (iv A2.2.2)) (by simp;omega);replace R:=R.kept (aA _ ⟨w2.heap.size,4,none⟩ (iv A2.2.2)) (by simp;omega);replace B:=hd_ (B.out.setCell (p:=⟨w2.heap.size,4,none⟩) LL.out (iv A2.2.2));replace O0:=hd_ (O0.out.cell7 X6 4 (iv A2.2.2));replace O1:=hd_ (O1.out.cell7 X6 4 (iv A2.2.2));replace O2:=hd_ (O2.out.cell7 X6 4 (iv A2.2.2))
 replace X6:=X6.set4 (iv A2.2.2);obtain⟨bxa0,bxa1,bxa2,bxa3,bxa4,bxa5,bxa6⟩:=(XA).cells;obtain⟨bxb0,bxb1,bxb2,bxb3,bxb4,bxb5,bxb6⟩:=(XB).cells;rw[<-hW]at XA;rw[<-hW]at XB;rw[<-hW]at R;rw[<-hW]at B;rw[<-hW]at X6;rw[<-hW]at O0;rw[<-hW]at O1;rw[<-hW]at O2
 go_wp2_with fail
 rw[<-hW];clear hW ax60 ax61 ax62 ax63 ax64 ax65 ax66 frx6 bxa0 bxa1 bxa2 bxa3 bxa4 bxa5 bxa6 bxb0 bxb1 bxb2 bxb3 bxb4 bxb5 bxb6;clear ho q6;have Q:=H1.out.below B.out lr_;have Q2:=H2.out.below B.out lr_;have K1:=K.aBf W5 (.slice V1.xk V1.nk V1.ck) (.slice V2.xk V2.nk V2.ck) a.ks a.ka b.ks b.ka Q.k Q2.k;generalize hA:K.gK a.ks a.ka b.ks b.ka=A3 at K1;have HA3:=hd_ hA
 generalize K.dD a.ks a.ka b.ks b.ka=ok3 at K1;clear hA Q Q2
 go_wp2_with fail
 refine (K1).mono ?_;rintro e w6 ⟨v,rfl,ho,hb⟩;obtain⟨y3,c3',rfl⟩:=ho.form';obtain⟨m3,hm⟩:=nm_ ((A3.1).length);rw[<-hm]at ho ⊢;clear hm K1;have M3:=hd_ B.out.size;have q6:=SZ2.out;replace XA:=XA.later hb;replace XB:=XB.later hb;replace R:=R.later hb;replace B:=hd_ (B.out.trans (hb.mono B.out.size));replace X6:=X6.later hb;replace O0:=hd_ (O0.out.below hb);replace O1:=hd_ (O1.out.below hb)
 replace O2:=hd_ (O2.out.below hb);have O3:=hd_ (ho);clear hb;obtain⟨W6,hW⟩:=nm_ ((w6.setCell ⟨w2.heap.size,5,none⟩ (.slice y3 m3 c3')).setCell ⟨w2.heap.size,6,none⟩ (iv A3.2));obtain⟨ax60,ax61,ax62,ax63,ax64,ax65,ax66⟩:=(X6).cells;have frx6:=X6.free;replace B:=hd_ (B.out);replace XA:=XA.kept (aA _ ⟨w2.heap.size,5,none⟩ (.slice y3 m3 c3')) (by simp;omega)
 replace XB:=XB.kept (aA _ ⟨w2.heap.size,5,none⟩ (.slice y3 m3 c3')) (by simp;omega);replace R:=R.kept (aA _ ⟨w2.heap.size,5,none⟩ (.slice y3 m3 c3')) (by simp;omega);replace B:=hd_ (B.out.setCell (p:=⟨w2.heap.size,5,none⟩) LL.out (.slice y3 m3 c3'));replace O0:=hd_ (O0.out.cell7 X6 5 (.slice y3 m3 c3'));replace O1:=hd_ (O1.out.cell7 X6 5 (.slice y3 m3 c3'))
 replace O2:=hd_ (O2.out.cell7 X6 5 (.slice y3 m3 c3'));replace O3:=hd_ (O3.out.cell7 X6 5 (.slice y3 m3 c3'));replace X6:=X6.set5 (.slice y3 m3 c3');replace XA:=XA.kept (aA _ ⟨w2.heap.size,6,none⟩ (iv A3.2)) (by simp;omega);replace XB:=XB.kept (aA _ ⟨w2.heap.size,6,none⟩ (iv A3.2)) (by simp;omega)
 replace R:=R.kept (aA _ ⟨w2.heap.size,6,none⟩ (iv A3.2)) (by simp;omega);replace B:=hd_ (B.out.setCell (p:=⟨w2.heap.size,6,none⟩) LL.out (iv A3.2));replace O0:=hd_ (O0.out.cell7 X6 6 (iv A3.2));replace O1:=hd_ (O1.out.cell7 X6 6 (iv A3.2));replace O2:=hd_ (O2.out.cell7 X6 6 (iv A3.2));replace O3:=hd_ (O3.out.cell7 X6 6 (iv A3.2));replace X6:=X6.set6 (iv A3.2)
 obtain⟨bx60,bx61,bx62,bx63,bx64,bx65,bx66⟩:=(X6).cells;obtain⟨br0,br1,br2,br3,br4,br5,br6⟩:=(R).cells;have fbr:=R.free;rw[<-hW]at XA;rw[<-hW]at XB;rw[<-hW]at R;rw[<-hW]at B;rw[<-hW]at X6;rw[<-hW]at O0;rw[<-hW]at O1;rw[<-hW]at O2;rw[<-hW]at O3;clear ho q6;have EJ:=hd_ (show (bY a b)=⟨A0,A1,A2.1,A2.2.1,A2.2.2,A3.1,A3.2⟩ by rw[kC HOK.out];unfold zM;rw[<-JA.out,HA0.out,HA1.out,HA2.out,HA3.out])
 have fin:=R.set (.slice y0 m0 c0') (.slice y1 m1 c1') (.slice y2 m2 c2') (iv A2.2.1) (iv A2.2.2) (.slice y3 m3 c3') (iv A3.2)
 have OF:=aV.box7 (aV.make (V:=⟨y0,m0,c0',y1,m1,c1',y2,m2,c2',y3,m3,c3'⟩) (s:=⟨A0,A1,A2.1,A2.2.1,A2.2.2,A3.1,A3.2⟩) O0.out O1.out O2.out O3.out M0.out (Nat.le_trans M0.out N0.out) T1.out M2.out M3.out) R (.slice y0 m0 c0') (.slice y1 m1 c1') (.slice y2 m2 c2') (iv A2.2.1) (iv A2.2.2) (.slice y3 m3 c3') (iv A3.2)
 have BF:=aR B.out (show w.heap.size<=w.heap.size+1+1 by omega) (.slice y0 m0 c0') (.slice y1 m1 c1') (.slice y2 m2 c2') (iv A2.2.1) (iv A2.2.2) (.slice y3 m3 c3') (iv A3.2);have SF:=bS W6 (w.heap.size+1+1) (.slice y0 m0 c0') (.slice y1 m1 c1') (.slice y2 m2 c2') (iv A2.2.1) (iv A2.2.2) (.slice y3 m3 c3') (iv A3.2)
 have HF:=hd_ (And.intro (aV.base OF lr_ (Nat.le_of_eq SF.symm) lr_) BF);have HY:=hd_ fin;clear fin OF BF SF;go_wp2;rw[<-hW];clear hW ax60 ax61 ax62 ax63 ax64 ax65 ax66 frx6 bx60 bx61 bx62 bx63 bx64 bx65 bx66 br0 br1 br2 br3 br4 br5 br6 fbr
 show bodyPost _ _ _ _ _ (set7 W6 (w.heap.size+1+1) (.slice y0 m0 c0') (.slice y1 m1 c1') (.slice y2 m2 c2') (iv A2.2.1) (iv A2.2.2) (.slice y3 m3 c3') (iv A3.2))
 obtain⟨d0,d1,d2,d3,d4,d5,d6⟩:=HY.out.cells;generalize set7 W6 (w.heap.size+1+1) (.slice y0 m0 c0') (.slice y1 m1 c1') (.slice y2 m2 c2') (iv A2.2.1) (iv A2.2.2) (.slice y3 m3 c3') (iv A3.2)=WF at HF d0 d1 d2 d3 d4 d5 d6 ⊢
 refine bodyPost_ret (v:=.tuple #[.agg #[.slice y0 m0 c0',.slice y1 m1 c1',.slice y2 m2 c2',iv A2.2.1,iv A2.2.2,.slice y3 m3 c3',iv A3.2],.bool true]) (by simp[results,results100,go_sem,d0,d1,d2,d3,d4,d5,d6]) rfl ?_;rw[EJ.out,HOK.out];exact⟨⟨y0,m0,c0',y1,m1,c1',y2,m2,c2',y3,m3,c3'⟩,rfl,HF.out⟩
theorem aDQ (w:World) (V1 V2:SV) (a b:Sm) (h1:RdS w V1 a) (h2:RdS w V2 b):
  Calls prog 100 #[.agg #[.slice V1.xr V1.nr V1.cr,.slice V1.xf V1.nf V1.cf,.slice V1.xt V1.nt V1.ct,iv a.lo,iv a.al,.slice V1.xk V1.nk V1.ck,iv a.ka],.agg #[.slice V2.xr V2.nr V2.cr,.slice V2.xf V2.nf V2.cf,.slice V2.xt V2.nt V2.ct,iv b.lo,iv b.al,.slice V2.xk V2.nk V2.ck,iv b.ka]] w fun e w'=>∃U,e=.returned (.tuple #[.agg #[.slice U.xr U.nr U.cr,.slice U.xf U.nf U.cf,.slice U.xt U.nt U.ct,.int .i64 (bY a b).lo,.int .i64 (bY a b).al,.slice U.xk U.nk U.ck,.int .i64 (bY a b).ka],.bool (aY a b)])/\aV w' w.heap.size w'.heap.size U (bY a b)/\Below w.heap.size w w':=by
 cases okA:okS a with
 |false=>exact aBe w V1 V2 a b h1 h2 okA
 |true=>
  cases okB:okS b with
  |false=>exact aBK w V1 V2 a b h1 h2 okA okB
  |true=>
   by_cases hs:a.al+b.al<=2000
   ·exact aBR w V1 V2 a b h1 h2 ((kB a b).2 ⟨(bM _).1 okA,(bM _).1 okB,hs⟩)
   ·exact aA5 w V1 V2 a b h1 h2 okA okB hs
end Go.Proofs.YtcblbdpdbggkbaaGreat
namespace Go.Proofs.YtcblbdpdbggkbaaGreat.N
open _root_.Go.Proofs.Tryz
open Go.RowKit Go.Sort
theorem aHC {α:Type} {c:α->Int} {b:Int}:∀{l:List α},(∀x ∈ l,c x<=b)->cD c l<=b * l.length
 | [],_=>by rw[jN];simp
 |x::xs,h=>by
  have h1:=aHC (l:=xs) fun y hy=>h y (List.mem_cons_of_mem _ hy)
  have h2:=h x List.mem_cons_self;rw[nD,List.length_cons,show ((xs.length+1:Nat):Int)=(xs.length:Int)+1 by omega,Int.mul_add,Int.mul_one];omega
theorem aFY {s:Sm} (h:xZ s):aDJ s<=400:=by
 have hr:eF s.rs<=8 * s.rs.length:=aHC fun r hr=>by
  obtain⟨i,hi,rfl⟩:=List.getElem_of_mem hr;have:=h.r.2 i hi;rw[List.getD_eq_getElem?_getD,List.getElem?_eq_getElem hi]at this;unfold gL;simp at this;omega
 have:=h.r.1;have:=h.f;have:=h.t;have:=h.k;unfold aDJ;omega
end Go.Proofs.YtcblbdpdbggkbaaGreat.N
namespace Go.Proofs.YtcblbdpdbggkbaaGreat
open _root_.Go.Proofs.Tryz
open Go.RowKit Go.Sort
namespace N
section
variable {B:Nat} {w0 w:World} {l:List Ch} {k:Int} {x:Option Addr} {n c:Nat} {fp:List Nat}
def aBz (s:Sm):Int:=eF s.rs+s.zs.length+2 * s.ps.length+2 * s.ks.length
def mkV (s:Sm) (k:Int):Sm:=⟨mkR s.rs k,mkI s.zs (k+eF s.rs),lR s.ps (k+eF s.rs+s.zs.length),s.lo,s.al,lR s.ks (k+eF s.rs+s.zs.length+2 * s.ps.length),s.ka⟩
theorem aEw {xs:List (List Int)} (h:M B w0 w (oG (.slice x n c) xs::l)) (hk:0<=k) (hc:k+eF xs<=100000000):
  Calls prog 139 #[.agg #[.slice x n c],iv k] w fun r w'=>r=.returned (iv (k+eF xs))/\M B w0 w' (oG (.slice x n c) (mkR xs k)::l):=by
 have h0:=h.alloc #[.slice x n c] 36;obtain⟨W,hW⟩:=nm_ (w.alloc (.cells #[.slice x n c] 36));obtain⟨p,hp⟩:=nm_ w.heap.size;rw[<-hW, <-hp]at h0;have H:=hd_ h0;have KM:=hd_ (aAF (k:=k) h0.p1 hk hc);clear h h0;go_enter func139,ntmps139;go_upto_region 1 with fail
 rw[<-hW, <-hp];clear hW hp;have a0:=H.out.cells1
 go_wp2_with fail
 refine KM.out.mono ?_;rintro r w1 ⟨rfl,h1⟩;have H1:=hd_ h1.p1.drop;clear h1 H KM;go_wp2;go_ret;exact⟨rfl,H1.out⟩
theorem aEr {xs:List (List Int)} (h:oD w [.slice x n c] (mkR xs k) fp) (hk:0<=k) (hc:k+eF xs<=100000000) (nn:0<=eF xs):
  Calls prog 143 #[.agg #[.slice x n c],iv k] w fun r w'=>r=.returned (iv (k+eF xs))/\Below w.heap.size w w':=by
 have h0:=(M.start w).alloc #[.slice x n c] 36;obtain⟨W,hW⟩:=nm_ (w.alloc (.cells #[.slice x n c] 36));obtain⟨p,hp⟩:=nm_ w.heap.size;rw[<-hW]at h0;have H:=hd_ (show M w.heap.size w W [bO p 36 #[.slice x n c]] by rw[hp];exact h0);have KM:=hd_ (aHH (k:=k) (cA.below h h0.below lr_) hk hc);have g:¬k+eF xs<0:=o_;clear h h0 hc hk nn;go_enter func143,ntmps143
 go_upto_region 1 with fail
 rw[<-hW, <-hp];clear hW hp;have a0:=H.out.cells1
 go_wp2_with fail
 refine KM.out.mono ?_;rintro r w1 ⟨rfl,hw⟩;rw[<-hw];clear hw w1 KM;rw[show cD gL xs=eF xs from rfl];go_wp2;go_ret;exact⟨rfl,H.out.below⟩
theorem aIX {xs:List Int} (h:M B w0 w (tJ (.slice x n c) xs::l)) (hk:0<=k) (hc:k+(xs.length:Int)<=100000000):
  Calls prog 140 #[.agg #[.slice x n c],iv k] w fun r w'=>r=.returned (iv (k+(xs.length:Int)))/\M B w0 w' (tJ (.slice x n c) (mkI xs k)::l):=by
 have h0:=h.alloc #[.slice x n c] 38;obtain⟨W,hW⟩:=nm_ (w.alloc (.cells #[.slice x n c] 38));obtain⟨p,hp⟩:=nm_ w.heap.size;rw[<-hW, <-hp]at h0;have H:=hd_ h0;have KM:=hd_ (aCY (k:=k) h0.p1 hk hc);clear h h0;go_enter func140,ntmps140;go_upto_region 1 with fail
 rw[<-hW, <-hp];clear hW hp;have a0:=H.out.cells1
 go_wp2_with fail
 refine KM.out.mono ?_;rintro r w1 ⟨rfl,h1⟩;have H1:=hd_ h1.p1.drop;clear h1 H KM;go_wp2;go_ret;exact⟨rfl,H1.out⟩
theorem aI7 {xs:List Int} (h:sP w [.slice x n c] (mkI xs k) fp) (hk:0<=k) (hc:k+(xs.length:Int)<=100000000) (nn:0<=(xs.length:Int)):
  Calls prog 144 #[.agg #[.slice x n c],iv k] w fun r w'=>r=.returned (iv (k+(xs.length:Int)))/\Below w.heap.size w w':=by
 have h0:=(M.start w).alloc #[.slice x n c] 38;obtain⟨W,hW⟩:=nm_ (w.alloc (.cells #[.slice x n c] 38));obtain⟨p,hp⟩:=nm_ w.heap.size;rw[<-hW]at h0;have H:=hd_ (show M w.heap.size w W [bO p 38 #[.slice x n c]] by rw[hp];exact h0);have KM:=hd_ (aEM (k:=k) (fG.below h h0.below lr_) hk hc);have g:¬k+(xs.length:Int)<0:=o_;clear h h0 hc hk nn;go_enter func144,ntmps144
 go_upto_region 1 with fail
 rw[<-hW, <-hp];clear hW hp;have a0:=H.out.cells1
 go_wp2_with fail
 refine KM.out.mono ?_;rintro r w1 ⟨rfl,hw⟩;rw[<-hw];clear hw w1 KM;rw[show gL xs=(xs.length:Int)from rfl];go_wp2;go_ret;exact⟨rfl,H.out.below⟩
theorem aIx {xs:List (Int × Int)} (lo:Int) (al:Int) (h:M B w0 w (rS (.slice x n c) xs::l)) (hk:0<=k) (hc:k+2 * (xs.length:Int)<=100000000):
  Calls prog 141 #[.agg #[.slice x n c,iv lo,iv al],iv k] w fun r w'=>r=.returned (iv (k+2 * (xs.length:Int)))/\M B w0 w' (rS (.slice x n c) (lR xs k)::l):=by
 have h0:=h.alloc #[.slice x n c,iv lo,iv al] 41;obtain⟨W,hW⟩:=nm_ (w.alloc (.cells #[.slice x n c,iv lo,iv al] 41));obtain⟨p,hp⟩:=nm_ w.heap.size;rw[<-hW, <-hp]at h0;have H:=hd_ h0;have KM:=hd_ (aHs (k:=k) h0.p1 hk hc);clear h h0;go_enter func141,ntmps141;go_upto_region 1 with fail
 rw[<-hW, <-hp];clear hW hp;obtain⟨a0,a1,a2⟩:=H.out.cells3
 go_wp2_with fail
 refine KM.out.mono ?_;rintro r w1 ⟨rfl,h1⟩;have H1:=hd_ h1.p1.drop;clear h1 H KM;go_wp2;go_ret;exact⟨rfl,H1.out⟩
theorem aHX {xs:List (Int × Int)} (lo:Int) (al:Int) (h:uI w [.slice x n c] (lR xs k) fp) (hk:0<=k) (hc:k+2 * (xs.length:Int)<=100000000) (nn:0<=2 * (xs.length:Int)):
  Calls prog 145 #[.agg #[.slice x n c,iv lo,iv al],iv k] w fun r w'=>r=.returned (iv (k+2 * (xs.length:Int)))/\Below w.heap.size w w':=by
 have h0:=(M.start w).alloc #[.slice x n c,iv lo,iv al] 41;obtain⟨W,hW⟩:=nm_ (w.alloc (.cells #[.slice x n c,iv lo,iv al] 41));obtain⟨p,hp⟩:=nm_ w.heap.size;rw[<-hW]at h0;have H:=hd_ (show M w.heap.size w W [bO p 41 #[.slice x n c,iv lo,iv al]] by rw[hp];exact h0);have KM:=hd_ (aJ5 (k:=k) (kN.below h h0.below lr_) hk hc);have g:¬k+2 * (xs.length:Int)<0:=o_;clear h h0 hc hk nn
 go_enter func145,ntmps145;go_upto_region 1 with fail
 rw[<-hW, <-hp];clear hW hp;obtain⟨a0,a1,a2⟩:=H.out.cells3
 go_wp2_with fail
 refine KM.out.mono ?_;rintro r w1 ⟨rfl,hw⟩;rw[<-hw];clear hw w1 KM
 skip
 go_wp2;go_ret;exact⟨rfl,H.out.below⟩
theorem aGL {xs:List (Int × Int)} (ka:Int) (h:M B w0 w (sO (.slice x n c) xs::l)) (hk:0<=k) (hc:k+2 * (xs.length:Int)<=100000000):
  Calls prog 142 #[.agg #[.slice x n c,iv ka],iv k] w fun r w'=>r=.returned (iv (k+2 * (xs.length:Int)))/\M B w0 w' (sO (.slice x n c) (lR xs k)::l):=by
 have h0:=h.alloc #[.slice x n c,iv ka] 44;obtain⟨W,hW⟩:=nm_ (w.alloc (.cells #[.slice x n c,iv ka] 44));obtain⟨p,hp⟩:=nm_ w.heap.size;rw[<-hW, <-hp]at h0;have H:=hd_ h0;have KM:=hd_ (aD7 (k:=k) h0.p1 hk hc);clear h h0;go_enter func142,ntmps142;go_upto_region 1 with fail
 rw[<-hW, <-hp];clear hW hp;obtain⟨a0,a1⟩:=H.out.cells2
 go_wp2_with fail
 refine KM.out.mono ?_;rintro r w1 ⟨rfl,h1⟩;have H1:=hd_ h1.p1.drop;clear h1 H KM;go_wp2;go_ret;exact⟨rfl,H1.out⟩
theorem aGN {xs:List (Int × Int)} (ka:Int) (h:uK w [.slice x n c] (lR xs k) fp) (hk:0<=k) (hc:k+2 * (xs.length:Int)<=100000000) (nn:0<=2 * (xs.length:Int)):
  Calls prog 146 #[.agg #[.slice x n c,iv ka],iv k] w fun r w'=>r=.returned (iv (k+2 * (xs.length:Int)))/\Below w.heap.size w w':=by
 have h0:=(M.start w).alloc #[.slice x n c,iv ka] 44;obtain⟨W,hW⟩:=nm_ (w.alloc (.cells #[.slice x n c,iv ka] 44));obtain⟨p,hp⟩:=nm_ w.heap.size;rw[<-hW]at h0;have H:=hd_ (show M w.heap.size w W [bO p 44 #[.slice x n c,iv ka]] by rw[hp];exact h0);have KM:=hd_ (aIk (k:=k) (kM.below h h0.below lr_) hk hc);have g:¬k+2 * (xs.length:Int)<0:=o_;clear h h0 hc hk nn
 go_enter func146,ntmps146;go_upto_region 1 with fail
 rw[<-hW, <-hp];clear hW hp;obtain⟨a0,a1⟩:=H.out.cells2
 go_wp2_with fail
 refine KM.out.mono ?_;rintro r w1 ⟨rfl,hw⟩;rw[<-hw];clear hw w1 KM
 skip
 go_wp2;go_ret;exact⟨rfl,H.out.below⟩
theorem aIe {V:SV} {s:Sm} (h:M B w0 w (aQ.ch (cS V s) s::l)) (hk:0<=k) (hc:k+aBz s<=100000000):
  Calls prog 59 #[.agg #[.slice V.xr V.nr V.cr,.slice V.xf V.nf V.cf,.slice V.xt V.nt V.ct,iv s.lo,iv s.al,.slice V.xk V.nk V.ck,iv s.ka],iv k] w fun r w'=>r=.returned (iv (k+aBz s))/\M B w0 w' (aQ.ch (cS V s) (mkV s k)::l):=by
 obtain⟨rs,zs,ps,lo,al,ks,ka⟩:=s;simp only[aBz,mkV]at *;have n0:=iH rs;have h0:=(h.alloc #[.slice V.xr V.nr V.cr,.slice V.xf V.nf V.cf,.slice V.xt V.nt V.ct,iv lo,iv al,.slice V.xk V.nk V.ck,iv ka] 46)
 obtain⟨W,hW⟩:=nm_ (w.alloc (.cells #[.slice V.xr V.nr V.cr,.slice V.xf V.nf V.cf,.slice V.xt V.nt V.ct,iv lo,iv al,.slice V.xk V.nk V.ck,iv ka] 46));obtain⟨p,hp⟩:=nm_ w.heap.size;rw[<-hW, <-hp]at h0;have h1:=M.sumParts (V:=V) (s:=⟨rs,zs,ps,lo,al,ks,ka⟩) h0.p1;simp only at h1;have H:=hd_ h1;clear h h0 h1;go_enter func59,ntmps59;go_upto_region 1 with fail
 rw[<-hW, <-hp];clear hW hp;obtain⟨a0,a1,a2,a3,a4,a5,a6⟩:=H.out.p4.cells7
 go_wp2_with fail
 refine (aEw (k:=k) H.out hk o_).mono ?_;rintro r w1 ⟨rfl,h1⟩;have H1:=hd_ h1;clear h1 H a0 a1 a2 a3 a4 a5 a6;obtain⟨a0,a1,a2,a3,a4,a5,a6⟩:=H1.out.p4.cells7
 go_wp2_with fail
 refine (aIX (k:=k+eF rs) H1.out.p1 o_ o_).mono ?_;rintro r w2 ⟨rfl,h2⟩;have H2:=hd_ h2;clear h2 H1 a0 a1 a2 a3 a4 a5 a6;obtain⟨a0,a1,a2,a3,a4,a5,a6⟩:=H2.out.p4.cells7
 go_wp2_with fail
 refine (aIx (k:=k+eF rs+zs.length) lo al H2.out.p2 o_ o_).mono ?_;rintro r w3 ⟨rfl,h3⟩;have H3:=hd_ h3;clear h3 H2 a0 a1 a2 a3 a4 a5 a6;obtain⟨a0,a1,a2,a3,a4,a5,a6⟩:=H3.out.p4.cells7
 go_wp2_with fail
 refine (aGL (k:=k+eF rs+zs.length+2 * ps.length) ka H3.out.p3 o_ o_).mono ?_;rintro r w4 ⟨rfl,h4⟩;have h5:=h4.p4.drop.p1.p2.p3;have H5:=hd_ (M.sumWhole (V:=V) (s:=⟨mkR rs k,mkI zs (k+eF rs),lR ps (k+eF rs+zs.length),lo,al,lR ks (k+eF rs+zs.length+2 * ps.length),ka⟩) h5);clear h4 h5 H3 a0 a1 a2 a3 a4 a5 a6;go_wp2;go_ret
 exact⟨congrArg (fun z=>Ending.returned (Value.int .i64 z)) (show k+eF rs+(zs.length:Int)+2 * (ps.length:Int)+2 * (ks.length:Int)=k+(eF rs+zs.length+2 * ps.length+2 * ks.length) by omega),H5.out⟩
theorem aB2 {V:SV} {s:Sm} (h:qC w (cS V s) (mkV s k) fp) (hk:0<=k) (hc:k+aBz s<=100000000):
  Calls prog 60 #[.agg #[.slice V.xr V.nr V.cr,.slice V.xf V.nf V.cf,.slice V.xt V.nt V.ct,iv s.lo,iv s.al,.slice V.xk V.nk V.ck,iv s.ka],iv k] w fun r w'=>r=.returned (iv (k+aBz s))/\Below w.heap.size w w':=by
 obtain⟨rs,zs,ps,lo,al,ks,ka⟩:=s;simp only[aBz,mkV]at *;have n0:=iH rs;obtain⟨V',f1,f2,f3,f4,e,_,r1,r2,r3,r4⟩:=h;obtain⟨e1,e2,e3,e4⟩:SV.r V'=SV.r V/\SV.f V'=SV.f V/\SV.t V'=SV.t V/\SV.k V'=SV.k V:=by
  exact zAp
 simp only at r1 r2 r3 r4;rw[e1]at r1;rw[e2]at r2;rw[e3]at r3;rw[e4]at r4;unfold SV.r at r1;unfold SV.f at r2;unfold SV.t at r3;unfold SV.k at r4;clear e e1 e2 e3 e4;have h0:=(M.start w).alloc #[.slice V.xr V.nr V.cr,.slice V.xf V.nf V.cf,.slice V.xt V.nt V.ct,iv lo,iv al,.slice V.xk V.nk V.ck,iv ka] 46
 obtain⟨W,hW⟩:=nm_ (w.alloc (.cells #[.slice V.xr V.nr V.cr,.slice V.xf V.nf V.cf,.slice V.xt V.nt V.ct,iv lo,iv al,.slice V.xk V.nk V.ck,iv ka] 46));obtain⟨p,hp⟩:=nm_ w.heap.size;rw[<-hW]at h0;have H:=hd_ (show M w.heap.size w W [bO p 46 #[.slice V.xr V.nr V.cr,.slice V.xf V.nf V.cf,.slice V.xt V.nt V.ct,iv lo,iv al,.slice V.xk V.nk V.ck,iv ka]] by rw[hp];exact h0)
 have K1:=hd_ (fun (W:World) (hb:Below w.heap.size w W)=>aEr (k:=k) (cA.below r1 hb lr_) hk o_ n0);have K2:=hd_ (fun (W:World) (hb:Below w.heap.size w W)=>aI7 (k:=k+eF rs) (fG.below r2 hb lr_) o_ o_ o_);have K3:=hd_ (fun (W:World) (hb:Below w.heap.size w W)=>aHX (k:=k+eF rs+zs.length) lo al (kN.below r3 hb lr_) o_ o_ o_)
 have K4:=hd_ (fun (W:World) (hb:Below w.heap.size w W)=>aGN (k:=k+eF rs+zs.length+2 * ps.length) ka (kM.below r4 hb lr_) o_ o_ o_);have g1:¬k+eF rs<0:=o_;have g2:¬k+eF rs+(zs.length:Int)<0:=o_;have g3:¬k+eF rs+(zs.length:Int)+2 * (ps.length:Int)<0:=o_;have g4:¬k+eF rs+(zs.length:Int)+2 * (ps.length:Int)+2 * (ks.length:Int)<0:=o_;clear h0 r1 r2 r3 r4 hk hc n0
 go_enter func60,ntmps60;go_upto_region 1 with fail
 rw[<-hW, <-hp];clear hW hp;obtain⟨a0,a1,a2,a3,a4,a5,a6⟩:=H.out.cells7
 go_wp2_with fail
 refine (K1.out _ H.out.below).mono ?_;rintro r w1 ⟨rfl,hb⟩;have H1:=hd_ (H.out.later hb);clear hb H K1 a0 a1 a2 a3 a4 a5 a6;obtain⟨a0,a1,a2,a3,a4,a5,a6⟩:=H1.out.cells7
 go_wp2_with fail
 refine (K2.out _ H1.out.below).mono ?_;rintro r w2 ⟨rfl,hb⟩;have H2:=hd_ (H1.out.later hb);clear hb H1 K2 a0 a1 a2 a3 a4 a5 a6;obtain⟨a0,a1,a2,a3,a4,a5,a6⟩:=H2.out.cells7
 go_wp2_with fail
 refine (K3.out _ H2.out.below).mono ?_;rintro r w3 ⟨rfl,hb⟩;have H3:=hd_ (H2.out.later hb);clear hb H2 K3 a0 a1 a2 a3 a4 a5 a6;obtain⟨a0,a1,a2,a3,a4,a5,a6⟩:=H3.out.cells7
 go_wp2_with fail
 refine (K4.out _ H3.out.below).mono ?_;rintro r w4 ⟨rfl,hb⟩;have H4:=hd_ (H3.out.later hb);clear hb H3 K4 a0 a1 a2 a3 a4 a5 a6;go_wp2;go_ret;exact⟨congrArg (fun z=>Ending.returned (Value.int .i64 z)) (show k+eF rs+(zs.length:Int)+2 * (ps.length:Int)+2 * (ks.length:Int)=k+(eF rs+zs.length+2 * ps.length+2 * ks.length) by omega),H4.out.below⟩
end
theorem aEs (w:World) {x1 x2 x3 x4:Option Addr} {k1 c1 k2 c2 k3 c3 k4 c4:Nat} {n:Nt} (hn:jF w (.slice x1 k1 c1) (.slice x2 k2 c2) (.slice x3 k3 c3) (.slice x4 k4 c4) n) (i:Int):
  Calls prog 37 #[.agg #[.slice x1 k1 c1,.slice x2 k2 c2,.slice x3 k3 c3,.slice x4 k4 c4],iv i] w (aL6 w (yP n i)):=by
 have HN:=hd_ hn;have SE:=hd_ (show jW n=true/\in6 i 0 4=true->yP n i=some (rE (aD n i).known)from fun h=>by unfold yP;rw[if_pos h]);have SN:=hd_ (show ¬(jW n=true/\in6 i 0 4=true)->yP n i=none from fun h=>by unfold yP;rw[if_neg h]);obtain⟨o,ho⟩:=nm_ (yP n i);rw[<-ho]at SE SN ⊢
 have X:=((M.start w).alloc #[.slice x1 k1 c1,.slice x2 k2 c2,.slice x3 k3 c3,.slice x4 k4 c4] 30).alloc #[zn,zn,zn,iv 0,iv 0,zn,iv 0] 46;simp only[World.size_alloc]at X;obtain⟨p2,hp2⟩:=nm_ w.heap.size;obtain⟨p4,hp4⟩:=nm_ (w.heap.size+1);obtain⟨W0,hW0⟩:=nm_ ((w.alloc (.cells #[.slice x1 k1 c1,.slice x2 k2 c2,.slice x3 k3 c3,.slice x4 k4 c4] 30)).alloc (.cells #[zn,zn,zn,iv 0,iv 0,zn,iv 0] 46))
 rw[<-hW0, <-hp4]at X;have H0:=hd_ (show M w.heap.size w W0 [bO p4 46 #[zn,zn,zn,iv 0,iv 0,zn,iv 0],bO p2 30 #[.slice x1 k1 c1,.slice x2 k2 c2,.slice x3 k3 c3,.slice x4 k4 c4]] by rw[hp2];exact X);clear X hn ho;go_enter func37,ntmps37;go_upto_region 1 with fail
 rw[<-hW0, <-hp4, <-hp2];clear hW0 hp4 hp2;obtain⟨a0,a1,a2,a3⟩:=H0.out.p1.cells4;obtain⟨q,hq⟩:=nm_ (jW n);have KN:=hd_ (aFC W0 (HN.out.below H0.out.below lr_));rw[<-hq]at KN SE SN;have HQ:=hd_ hq;clear hq
 go_wp2_with fail
 refine KN.out.mono ?_;rintro r w2 ⟨rfl,hb⟩;have H2:=hd_ (H0.out.later hb);clear hb KN H0 a0 a1 a2 a3;obtain⟨b0,b1,b2,b3,b4,b5,b6⟩:=H2.out.cells7;cases q with
 |false=>
  have F:=hd_ (SN.out (by simp));clear SE SN
  go_wp2_with (refine bE H2.out (vs:=[.slice SV0.xr SV0.nr SV0.cr,.slice SV0.xf SV0.nf SV0.cf,.slice SV0.xt SV0.nt SV0.ct,iv eC.lo,iv eC.al,.slice SV0.xk SV0.nk SV0.ck,iv eC.ka]) (ys:=#[.slice SV0.xr SV0.nr SV0.cr,.slice SV0.xf SV0.nf SV0.cf,.slice SV0.xt SV0.nt SV0.ct,iv eC.lo,iv eC.al,.slice SV0.xk SV0.nk SV0.ck,iv eC.ka]) rfl rfl rfl rfl vD rfl (by simp) (by simp[nO]) ?_;intro w5 h5;have H5:=hd_ h5;clear h5 H2)
  exact zAB
 |true=>
  have KI:=hd_ (mF i 0 4 w2);cases gi:in6 i 0 4 with
  |false=>
   rw[gi]at KI;have F:=hd_ (SN.out (by rw[gi];simp));clear SE SN gi
   go_wp2_with (first|(go_at_call 66;refine KI.out.mono ?_;rintro r w' ⟨rfl,hw⟩;rw[hw];clear hw w' KI)|(refine bE H2.out (vs:=[.slice SV0.xr SV0.nr SV0.cr,.slice SV0.xf SV0.nf SV0.cf,.slice SV0.xt SV0.nt SV0.ct,iv eC.lo,iv eC.al,.slice SV0.xk SV0.nk SV0.ck,iv eC.ka]) (ys:=#[.slice SV0.xr SV0.nr SV0.cr,.slice SV0.xf SV0.nf SV0.cf,.slice SV0.xt SV0.nt SV0.ct,iv eC.lo,iv eC.al,.slice SV0.xk SV0.nk SV0.ck,iv eC.ka]) rfl rfl rfl rfl vD rfl (by simp) (by simp[nO]) ?_;intro w5 h5;have H5:=hd_ h5;clear h5 H2))
   exact zAB
  |true=>
   rw[gi]at KI;have FO:=SE.out ⟨rfl,gi⟩;obtain⟨hs,hf⟩:=qF HQ.out.symm;obtain⟨hk,hne⟩:=qE HQ.out.symm gi;obtain⟨iA,iB⟩:=cO.1 gi;obtain⟨f1,n1⟩:=HN.out.nodes;obtain rfl:k1=5:=(aK n1).1.trans hs.nodes;obtain⟨m,rfl⟩:∃j:Nat,i=j:=⟨i.toNat,o_⟩
   have m5:m<5:=o_;obtain⟨nd,hnd⟩:∃nd,n.nodes[m]? =some nd:=⟨_,List.getElem?_eq_getElem (by rw[hs.nodes];exact m5)⟩
   have eN:aD n (m:Int)=nd:=by unfold aD;rw[List.getD_eq_getElem?_getD,Int.toNat_natCast,hnd];rfl
   rw[eN]at hk FO;obtain⟨g1,xk,ck,fk,rfl,_,_,kr,_,_,z0,z1,_⟩:=gM n1 hnd;obtain⟨es,hes⟩:=nm_ nd.known;rw[<-hes]at hk FO kr z1;have F:=hd_ FO;have KL:=hd_ (aB9 hk);have KF:Hid (∀e ∈ es,okS e.s=true/\e.s.al<=100):=hd_ fun e he=>⟨(uE hf hk e he).1,(uE hf hk e he).2.1⟩
   have KR:=hd_ kr;obtain⟨ne,hn2⟩:=nm_ es.length;rw[<-hn2]at z1 KR;have n5:ne<=5:=by rw[hn2];exact KL.out
   have NE:=hd_ hn2;have m0:(0:Int)<=(m:Int):=o_;have m1:(m:Int)<5:=o_;replace z1:=cell_later H2.out.below z1;obtain⟨a0,a1,a2,a3⟩:=H2.out.p1.cells4;have KS:=hd_ (yB w2);clear SE SN gi FO hs hf hk hne iA iB n1 hnd eN kr z0 hes hn2 b0 b1 b2 b3 b4 b5 b6
   go_wp2_with (first|(go_at_call 66;refine KI.out.mono ?_;rintro r w' ⟨rfl,hw⟩;rw[hw];clear hw w' KI)|(go_at_call 99;refine KS.out.mono ?_;rintro r w3 ⟨V,rfl,ho,hb⟩;have h3:=(H2.out.sum hb ho).alloc (cS V fE) 46;clear a0 a1 a2 a3;obtain⟨a0,a1,a2,a3⟩:=h3.p3.cells4;replace z1:=cell_later ((Below.refl w3.heap.size w3).alloc lr_ (.cells (cS V fE) 46)) (cell_later hb z1);clear KS H2 ho hb))
   obtain⟨p6,hp6⟩:=nm_ w3.heap.size;rw[<-hp6]at h3;have H3:=hd_ h3;rw[<-hp6];clear h3 hp6 a0 a1 a2 a3 z1;generalize w3.alloc (.cells (cS V fE) 46)=W3 at H3 ⊢;go_loopw [8] (fun z wr=>∃(j:Nat) (V:SV) (s:Sm),j<=ne/\z=.int .i64 (j:Int)/\s=rE (es.take j)/\M w.heap.size w wr [aQ.ch (cS V s) s,bO p6 46 (cS V s),bO p4 46 #[zn,zn,zn,iv 0,iv 0,zn,iv 0]]) (fun z _=>ne - (intOf z).toNat)
   case atStart=>exact⟨0,V,fE,Nat.zero_le _,rfl,rfl,H3.out.p1.p3.drop⟩
   case round=>
    clear H3;obtain⟨j,V,s,hj,rfl,hs,hM⟩:=hrel;have H:=hd_ hM;have HS:=hd_ hs;clear hM hs
    by_cases hlt:j<ne
    ·obtain⟨e,he⟩:∃e,es[j]? =some e:=⟨_,List.getElem?_eq_getElem (by rw[<-NE.out];exact hlt)⟩
     obtain⟨g,Ve,_,rfl,_,_,sr,ca0,ca1,ca2,cas⟩:=jP (by rw[NE.out]at KR;exact KR.out) he;obtain⟨st,jo⟩:=aCp KF.out KL.out he;rw[<-HS.out]at st jo;have hD:=H.out.drew;obtain⟨W,hW⟩:=nm_ wr.drew;rw[<-hW]at hD;have EW:=hd_ hW
     have CF:Hid (∀W':World,Below w.heap.size w W'->bD W' (zY g j Ve e)):=hd_ fun W' hb=>⟨cell_later hb ca0,cell_later hb ca1,cell_later hb ca2,cell_later hb (cas 0 _ rfl),cell_later hb (cas 1 _ rfl),cell_later hb (cas 2 _ rfl),cell_later hb (cas 3 _ rfl),cell_later hb (cas 4 _ rfl),cell_later hb (cas 5 _ rfl),cell_later hb (cas 6 _ rfl),trivial⟩
     obtain⟨b0,b1,b2,b3,b4,b5,b6⟩:=hD.p1.cells7;have j0:(0:Int)<=(j:Int):=o_;have j1:(j:Int)<(ne:Int):=o_;have KJ:=hd_ (aDQ W V Ve s e.s hD.rdS (tU (aQ.below sr hD.below lr_)));obtain⟨s2,hs2⟩:=nm_ (rE (es.take (j+1)));have ES:=hd_ hs2;rw[jo, <-st, <-hs2]at KJ;have HD:=hd_ hD;clear cas sr he st jo hs2 hD H hW HS ca0 ca1 ca2;go_upto_region 8 with fail
     refine aC 99 (.tk 1 5 (.alt 0 (.alt 6 (.tk 7 3 (.alt 10 .done .nomore)) .nomore) .nomore)) (fun w'=>bD w' (zY g j Ve e)) kr_ kr_ (fun _ _ _ _ _ h=>h) (by rw[<-EW.out];exact CF.out _ HD.out.below) ?_;rw[<-EW.out]
     repeat (first|refine tC_ ?_|refine tB_ ?_)
     refine aB r_ (fun K hK=>?_);go_simp;refine hK _ _ (.inr (CF.out _ HD.out.below)) ?_;clear hK K
     try refine tP_ ?_
     clear b0 b1 b2 b3 b4 b5 b6;refine aB r_ (fun K hK=>?_);go_simp;refine KJ.out.mono ?_;rintro r2 w4 ⟨U,rfl,ho,hb⟩;have H4:=hd_ (HD.out.sum hb ho);clear ho hb HD KJ;refine hK _ _ (.inr (CF.out _ H4.out.below)) ?_;clear hK K
     try refine tP_ ?_
     repeat (first|refine tC_ ?_|refine tB_ ?_)
     refine aB r_ (fun K hK=>yM H4.out.p2 (vs:=[.slice U.xr U.nr U.cr,.slice U.xf U.nf U.cf,.slice U.xt U.nt U.ct,iv s2.lo,iv s2.al,.slice U.xk U.nk U.ck,iv s2.ka]) (ys:=#[.slice U.xr U.nr U.cr,.slice U.xf U.nf U.cf,.slice U.xt U.nt U.ct,iv s2.lo,iv s2.al,.slice U.xk U.nk U.ck,iv s2.ka]) r_ r_ r_ r_ vD rfl (by simp) (by simp[nO]) (fun w5 h5=>?_))
     have H5:=hd_ h5;clear h5 H4;refine hK _ _ (.inr (CF.out _ H5.out.below)) ?_;clear hK K
     try refine tP_ ?_
     refine aG ?_;go_wp2;go_roundw
     case rel=>exact⟨j+1,U,s2,o_,gn_,ES.out,H5.out.p2.drop.p1⟩
     case measure=>simp[intOf];omega
    ·obtain rfl:j=ne:=o_
     have ST:Hid (es.take j=es):=hd_ (by rw[NE.out];exact List.take_length);rw[ST.out]at HS;obtain⟨d0,d1,d2,d3,d4,d5,d6⟩:=H.out.p1.cells7;rw[<-HS.out]at F
     go_wp2_with (refine bE H.out.p2 (vs:=[.slice V.xr V.nr V.cr,.slice V.xf V.nf V.cf,.slice V.xt V.nt V.ct,iv s.lo,iv s.al,.slice V.xk V.nk V.ck,iv s.ka]) (ys:=#[.slice V.xr V.nr V.cr,.slice V.xf V.nf V.cf,.slice V.xt V.nt V.ct,iv s.lo,iv s.al,.slice V.xk V.nk V.ck,iv s.ka]) rfl rfl rfl rfl vD rfl (by simp) (by simp[nO]) ?_;intro w5 h5;have H5:=hd_ h5;clear h5 H)
     obtain⟨e0,e1,e2,e3,e4,e5,e6⟩:=H5.out.cells7;rw[F.out];exact bodyPost_ret (v:=.tuple #[.agg #[.slice V.xr V.nr V.cr,.slice V.xf V.nf V.cf,.slice V.xt V.nt V.ct,iv s.lo,iv s.al,.slice V.xk V.nk V.ck,iv s.ka],.bool true]) (by simp[results,results37,go_sem,e0,e1,e2,e3,e4,e5,e6]) rfl ⟨V,rfl,H5.out.drop.p1.drop⟩
theorem aGM {n:Nt} (h:aHm n) {es:List En} (k:∀e ∈ es,aBS n e):aK5 n es=aFb n es:=by
 unfold aK5 aFb;rw[if_pos (vL.2 h)]
 induction es with
 |nil=>rfl
 |cons e es ih=>
  have T:=k e (List.mem_cons_self ..);rw[List.flatMap_cons,List.flatMap_cons,ih fun x hx=>k x (List.mem_cons_of_mem _ hx)];unfold aNk;rw[if_pos]
  ·rfl
  ·unfold wG
   rw[cO.2 T.node,cO.2 T.born,cO.2 T.num];rfl
theorem aIz {n:Nt} {i:Int} {s:Sm} (h:yP n i=some s):kW s (aK5 n (gH n i))/\s.al<=500/\0<=s.al:=by
 unfold yP at h
 split at h
 ·rename_i c
  cases h;have ok:=vL.1 c.1;have hi:bA i:=cO.1 c.2;have K:=ok.known i hi;obtain⟨l5,kf⟩:=sG n i;have e:gH n i=(aD n i).known:=by unfold gH;rw[if_pos c]
  rw[e]at l5 kf ⊢;rw[aGM ok K.all];have S:=(aCL (fun e he=>⟨(kf e he).1,(kf e he).2.1⟩) l5 _ lr_).2;rw[List.take_length]at S;have T:=aF8 ok hi;refine⟨T,?_,?_⟩
  ·omega
  ·have:=T.al
   have e2:rE (aD n i).known=aMA (aD n i).known:=rfl;rw[e2];omega
 ·cases h
end N
end Go.Proofs.YtcblbdpdbggkbaaGreat
namespace Go.Proofs.YtcblbdpdbggkbaaGreat
open _root_.Go.Proofs.Tryz
open Go
def aKy:List Nat:=[104,97,114,110,101,115,115,32,52,55,98,57,53,55,48,102,50,98,49,100,51,51,53,98,53,100,50,48,54,100,54,102,56,51,54,55,51,53,54,51,55,57,57,55,97,54,48,97,97,98,102,52,99,52,99,102,101,97,55,52,48,48,52,51,98,52,55,100,99,48,98,55,32,99,117,116,32]
def aMv:List Nat:=[97,116,32,108,111,111,112,46,101,120,97,109,112,108,101,47,105,110,107,108,105,110,103,47,108,97,119,115,46,70,110,78,101,116,78,101,119,32,108,111,111,112,46,101,120,97,109,112,108,101,47,105,110,107,108,105,110,103,47,108,97,119,115,46,70,110,78,101,116,79,107,32,108,111,111,112,46,101,120,97,109,112,108,101,47,105,110,107,108,105,110,103,47,108,97,119,115,46,70,110,78,101,116,82,101,97,99,104,32,108,111,111,112,46,101,120,97,109,112,108,101,47,105,110,107,108,105,110,103,47,108,97,119,115,46,70,110,78,101,116,82,101,97,99,104,80,97,116,104,32,108,111,111,112,46,101,120,97,109,112,108,101,47,105,110,107,108,105,110,103,47,108,97,119,115,46,70,110,78,101,116,75,110,111,119,110,32,108,111,111,112,46,101,120,97,109,112,108,101,47,105,110,107,108,105,110,103,47,108,97,119,115,46,70,110,78,101,116,83,117,109,32,108,111,111,112,46,101,120,97,109,112,108,101,47,105,110,107,108,105,110,103,47,108,97,119,115,46,70,110,78,101,116,83,117,109,71,101,116,32,108,111,111,112,46,101,120,97,109,112,108,101,47,105,110,107,108,105,110,103,47,108,97,119,115,46,70,110,78,101,116,83,117,109,70,97,114,32,108,111,111,112,46,101,120,97,109,112,108,101,47,105,110,107,108,105,110,103,47,108,97,119,115,46,70,110,78,101,116,76,105,115,116,32,108,111,111,112,46,101,120,97,109,112,108,101,47,105,110,107,108,105,110,103,47,108,97,119,115,46,70,110,69,120,97,99,116,78,101,116,79,107,32,108,111,111,112,46,101,120,97,109,112,108,101,47,105,110,107,108,105,110,103,47,108,97,119,115,46,70,110,69,120,97,99,116,78,101,116,82,101,97,99,104,32,108,111,111,112,46,101,120,97,109,112,108,101,47,105,110,107,108,105,110,103,47,108,97,119,115,46,70,110,69,120,97,99,116,78,101,116,75,110,111,119,110,32,108,111,111,112,46,101,120,97,109,112,108,101,47,105,110,107,108,105,110,103,47,108,97,119,115,46,70,110,69,120,97,99,116,78,101,116,83,117,109,32,108,111,111,112,46,101,120,97,109,112,108,101,47,105,110,107,108,105,110,103,47,108,97,119,115,46,70,110,69,120,97,99,116,78,101,116,76,105,115,116]
theorem a1:prog.initOrder=String.ofList (aKy.map Char.ofNat++aMv.map Char.ofNat):=by kernel_rfl
theorem a2:prog.initOrder.toList=aKy.map Char.ofNat++aMv.map Char.ofNat:=by rw[a1,String.toList_ofList]
theorem a3 (t:List Char):behindMainWord (wordsSigns (aKy.map Char.ofNat++t))= "cut".toList::wordsSigns t:=by kernel_rfl
theorem bm:∃X,behindMainWord (wordsSigns prog.initOrder.toList)= "cut".toList::X:=⟨_,by rw[a2,a3]⟩
theorem aME {P:Program} {c:List Char} {rest:List (List Char)} (h:behindMainWord (wordsSigns P.initOrder.toList)=c::rest):P.mayEnter=
  (((c== "gc".toList || c== "spec".toList)&&(rest.isEmpty || rest.head? ==some "stop".toList)) ||
    (c== "carried".toList&&rest.take 2==["gc".toList, "cut".toList]&& !P.laysLater&& !P.bearsReflect) ||
    ((stripLifts liftWords (c::rest)).2.head? ==some "cut".toList&&
      ((stripLifts liftWords (c::rest)).1.contains "finals" || !P.laysLater)&&((stripLifts liftWords (c::rest)).1.contains "reflectrows" || !P.bearsReflect)&&
      ((stripLifts liftWords (c::rest)).1.contains "reflectrows" || !(stripLifts liftWords (c::rest)).1.contains "leanrows")&&
      P.doorFits (stripLifts liftWords (c::rest)).1)):=by
 unfold Program.mayEnter;rw[h]
theorem aL3 {P:Program} {c:List Char} {rest:List (List Char)} (h:behindMainWord (wordsSigns P.initOrder.toList)=c::rest):P.headLifts=if (stripLifts liftWords (c::rest)).2.head? ==some "cut".toList then (stripLifts liftWords (c::rest)).1 else []:=by
 unfold Program.headLifts;rw[h]
theorem aMq (X:List (List Char)):stripLifts liftWords ("cut".toList::X)=([], "cut".toList::X):=by kernel_rfl
theorem aLo {P:Program} {rest:List (List Char)} (h:behindMainWord (wordsSigns P.initOrder.toList)= "cut".toList::rest):P.make=some .cut:=by
 unfold Program.make;rw[h];kernel_rfl
theorem aLU {P:Program} {rest:List (List Char)} (h:behindMainWord (wordsSigns P.initOrder.toList)= "cut".toList::rest) (h1:P.laysLater=false) (h2:P.bearsReflect=false) (h3:P.doorFits []=true):P.mayEnter=true:=by
 rw[aME h,aMq,h1,h2,h3];kernel_rfl
theorem aHJ {P:Program} {rest:List (List Char)} (h:behindMainWord (wordsSigns P.initOrder.toList)= "cut".toList::rest):P.liftsFinal=false:=by
 unfold Program.liftsFinal;rw[aL3 h,h,aMq];kernel_rfl
theorem aM3:prog.laysLater=false:=by kernel_rfl
theorem aNn:prog.bearsReflect=false:=by kernel_rfl
theorem aNd:prog.doorFits []=true:=by kernel_rfl
theorem mayE:prog.mayEnter=true:=by
 obtain⟨X,h⟩:=bm;exact aLU h aM3 aNn aNd
theorem liftF:prog.liftsFinal=false:=by
 obtain⟨X,h⟩:=bm;exact aHJ h
theorem makeC:prog.make=some .cut:=by
 obtain⟨X,h⟩:=bm;exact aLo h
end Go.Proofs.YtcblbdpdbggkbaaGreat
