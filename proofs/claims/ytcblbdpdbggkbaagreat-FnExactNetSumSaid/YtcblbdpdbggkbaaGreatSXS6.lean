/-
  What the laws of XS need of the texts before it, part 6.
-/
import Derived.ArgAppend
import Derived.BigQuiet
import Derived.Deep.AppendLies
import Derived.Deep.Cut
import Derived.Deep.DeepCutAuto
import Derived.Deep.DrawnRows
import Derived.Deep.MidRow
import Derived.Deep.OwnRows
import Derived.Deep.QuietTactic
import Derived.Deep.RegionHeld3
import Derived.Deep.RegionLaw
import Derived.Deep.RegionLawGrows
import Derived.Deep.RegionWith
import Derived.Deep.WholeRow
import Derived.IntWalk
import Derived.Laws.AppendOwnNone
import Derived.Laws.EntriesVeiled
import Derived.Laws.ResultCell
import Derived.Lib.AppendZerosOnto
import Derived.Lib.Hide
import Derived.Lib.QuietBelow
import Derived.Lib.SliceRun
import Derived.Lib.Walk
import Derived.LoopIn
import Derived.LoopNIn
import Derived.Maps.AppendAt
import Derived.OneCell
import Derived.OpenShut
import Derived.OwnWalkIn
import Derived.RangeFuncBound
import Derived.RangeFuncBox
import Derived.RangeFuncCalls
import Derived.RangeFuncLeaves
import Derived.RangeFuncNested
import Derived.Shelf.Abstract
import Derived.Shelf.RegionOpen
import Derived.Shelf.SlSortCmp.InsertionK
import Derived.StillTail
import Derived.TacticsInMore
import Derived.Test.YtcblbdpdbggkbaaGreatRows
import Derived.WalkKit
import Derived.WalkLawsBesides
import Derived.WalkSpells
import Derived.Test.YtcblbdpdbggkbaaGreatSXS3
import Derived.Test.YtcblbdpdbggkbaaGreatSXS5
set_option maxRecDepth 100000
set_option maxHeartbeats 16000000
set_option linter.unusedVariables false
set_option linter.unusedSectionVars false
set_option linter.unusedSimpArgs false
namespace Go.Proofs.YtcblbdpdbggkbaaGreat
open _root_.Go.Proofs.Tryz
theorem zi {P:Prop} (h:P:=by
 clear hF
 go_wp2_with fail
 go_quiet (fail)
 go_wp2_with fail
 go_quiet (fail)
 go_wp2_with fail
 go_quiet (with_reducible exact yH KM.out)
 go_upto_region 13 with fail
 rw[GOF.out]
 by_cases hc2:c=2
 ·subst hc2
  obtain rfl:n=2:=o_;have QD:=hd_ (fun q=>(FQ.out q).drop2);rw[if_pos rfl]at QD;simp only[Nat.sub_self]at QD
  go_wp2_with (first|(at_builtin;refine iI rfl _ _ rfl W.heap.size 0 0 _ _ rfl (Que.alloc (QD.out _) _) (by rw[pG];have:=HN.out;have:=HM.out;omega) (J:Int) ⟨(F _).heap.size,0,none⟩ rfl (cell_one_new _ _ _) (by have:=FS.out;simp[FS.out];omega) (by have:=HN.out;omega) ?_;intro y' c' w' row hq' hgr hrow))
  rw[LST.out]at hq';go_roundw
  case rel=>exact⟨J - 1,1,y',c',o_,by have:=HN.out;omega,rfl,hq',by rw[hs.out,e.out];exact ((FA.out _).alloc _).keep hgr hrow HB2.out.1,((FX.out _).alloc _).keep hgr hrow HB2.out.2,qJ ((FB.out _).alloc (FB.out _).size _) hgr hrow (by have:=HB2.out.1;omega) (by have:=(FB.out 0).size;simp[FS.out]at this ⊢;omega),by have:=hgr.size;simp[FS.out]at this;omega⟩
  case measure=>simp[aJ2]
 ·have QD:=hd_ (fun q=>(FQ.out q).drop2)
  rw[if_neg hc2]at QD
  go_wp2_with (first|(at_builtin;refine iI rfl _ _ rfl W.heap.size (n - 2) (c - 2) _ _ rfl (Que.alloc (QD.out _) _) (by rw[pG];have:=HN.out;have:=HM.out;omega) (J:Int) ⟨(F _).heap.size,0,none⟩ rfl (cell_one_new _ _ _) (by have:=FS.out;simp[FS.out];omega) (by have:=HN.out;omega) ?_;intro y' c' w' row hq' hgr hrow))
  rw[LST.out]at hq';go_roundw
  case rel=>exact⟨J - 1,n - 2+1,y',c',o_,by have:=HN.out;omega,rfl,hq',by rw[hs.out,e.out];exact ((FA.out _).alloc _).keep hgr hrow HB2.out.1,((FX.out _).alloc _).keep hgr hrow HB2.out.2,qJ ((FB.out _).alloc (FB.out _).size _) hgr hrow (by have:=HB2.out.1;omega) (by have:=(FB.out 0).size;simp[FS.out]at this ⊢;omega),by have:=hgr.size;simp[FS.out]at this;omega⟩
  case measure=>simp[aJ2];omega):P:=h
theorem zAG {P:Prop} (h:P:=by
 have h:=aS.new ((w.alloc (.cells #[u,iv a] 44)).alloc (.cells #[v,iv b] 44)) 44 zn (iv 0);rw[hW];simpa using h):P:=h
theorem zAH {P:Prop} (h:P:=by
 have h:=(aS.new (w.alloc (.cells #[u,iv a] 44)) 44 v (iv b)).alloc (.cells #[zn,iv 0] 44);rw[hW];simpa using h):P:=h
theorem zAV {P:Prop} (h:P:=by
 go_wp2;exact bodyPost_ret (v:=.tuple #[.agg #[zn,iv 0],.bool false]) (by simp[results,results313,go_sem,hr0,hr1]) rfl ⟨rfl,BZ.out⟩):P:=h
theorem zAX {P:Prop} (h:P:=by
 exact bodyPost_ret (v:=.tuple #[.agg #[zn,iv 0],.bool false]) (by simp[results,results198,go_sem,hr0,hr1]) rfl ⟨rfl,BZ.out⟩):P:=h
theorem zAY {P:Prop} (h:P:=by
 exact bodyPost_ret (v:=.tuple #[.agg #[zn,iv 0],.bool false]) (by simp[results,results173,go_sem,hr0,hr1]) rfl ⟨rfl,BZ.out⟩):P:=h
theorem zBS {P:Prop} (h:P:=by
 go_wp2_with fail
 rw[<-hwk];clear hwk
 go_quiet (fail)
 exact zAn):P:=h
theorem zB3 {P:Prop} (h:P:=by
 unfold dD at hno;rw[h1,h2]at hno;simp at hno;exact⟨((dN _ _).1 h1).1,((dN _ _).1 h2).1,hno⟩):P:=h
end Go.Proofs.YtcblbdpdbggkbaaGreat
namespace Go.Proofs.YtcblbdpdbggkbaaGreat.K
open _root_.Go.Proofs.Tryz
open Go.RowKit Go.Sort
theorem dS.knB {ps:List Pr} {all:Int} (h:dS ps all):KnB ps:=fun i hi=>by
 have:=(h.2.1 i hi).1;omega
theorem xQ {ps:List Pr} (h:KnB ps) (hl:ps.length<=300):BdN (dB ps) 600000:=fun i=>by
 have:=aAU h ps.length lr_ i;rw[List.take_of_length_le lr_]at this;omega
def mO (N:List Int) (all:Int):List Pr:=kV (sqz N (all / 8) 63)
def fT (ps:List Pr) (all t:Int):Bool:=cL ps all&&(decide (0<=t/\t<=63)&&decide (all<2000))
def mG (ps:List Pr) (all t:Int):List Pr × Int:=if fT ps all t then (mO (mV (dB ps) (64+t,1)) (all+1),all+1)else ([],0)
theorem aC9 {ps:List Pr} {all t:Int} (h:fT ps all t=false):mG ps all t=([],0):=by simp[mG,h]
theorem aK3 {ps:List Pr} {all t:Int} (h:fT ps all t=true):mG ps all t=(mO (mV (dB ps) (64+t,1)) (all+1),all+1):=by simp[mG,h]
theorem aAL {ps:List Pr} {all t:Int} (h:fT ps all t=true):cL ps all=true/\(0<=t/\t<=63)/\all<2000:=by
 unfold fT at h;simpa using h
theorem aBo (w:World) (u:Value) (ps:List Pr) (all t:Int) (hp:Prs w u ps) (hok:cL ps all=true) (ht:0<=t/\t<=63) (ha:all<2000):
  Calls prog 313 #[.agg #[u,iv all],iv t] w fun e w'=>∃v,e=.returned (.tuple #[.agg #[v,iv (all+1)],.bool true])/\aF w' w.heap.size v (mO (mV (dB ps) (64+t,1)) (all+1))/\Below w.heap.size w w':=by
 have RK:=(dN _ _).1 hok;have kf:=yR (k:=ps.length) RK.2.1;have kb:=RK.knB;have nb:=xQ kb o_;have ha0:=RK.1.1;obtain⟨W0,hW0⟩:=nm_ ((w.alloc (.cells #[u,iv all] 44)).alloc (.cells #[zn,iv 0] 44));have hA:Below w.heap.size w W0:=by rw[hW0];exact ((Below.refl w.heap.size w).alloc lr_ _).alloc (by simp) _
 have X0:aS W0 w.heap.size 44 u (iv all):=by rw[hW0];exact (aS.new _ _ _ _).alloc _
 have R0:aS W0 (w.heap.size+1) 44 zn (iv 0):=by
  have h:=aS.new (w.alloc (.cells #[u,iv all] 44)) 44 zn (iv 0);rw[hW0];simpa using h
 have sW:W0.heap.size=w.heap.size+2:=by rw[hW0];simp
 have I0:=hd_ (hp.below hA lr_);have K:=hd_ (iS W0 u ps all I0.out);rw[hok]at K;obtain⟨x,c,hu,_,_⟩:=hp.form;obtain⟨n,hn⟩:=nm_ ps.length;rw[<-hn]at hu kf
 have KN:Hid (∀W,Prs W (.slice x n c) ps->Calls prog 228 #[.slice x n c] W fun e w'=>e=.returned (.slice (some ⟨W.heap.size,0,none⟩) 128 128)/\jJ w' W.heap.size W.heap.size 128 128 (dB ps)/\Below W.heap.size W w'):=fun W h=>aCw W x n c ps hn.symm h o_ kb
 subst hu;obtain⟨T,hT⟩:∃T:Nat,(64:Int)+t=(T:Int):=⟨(64+t).toNat,o_⟩
 have T1:(T:Int)<128:=o_;have T2:(64:Int)<=(T:Int):=o_;obtain⟨N,hN⟩:=nm_ (dB ps);rw[<-hN]at KN nb;obtain⟨V,hV⟩:=nm_ (N.getD T 0);have bV:=nb T;rw[<-hV]at bV;have eN:mV (dB ps) (64+t,1)=N.set T (V+1):=by
  unfold mV;simp only[hT,Int.toNat_natCast, <-hN, <-hV]
 rw[eN];have KQ:Hid (∀W B g c,jJ W B g 128 c (N.set T (V+1))->Calls prog 230 #[.slice (some ⟨g,0,none⟩) 128 c,iv (all+1)] W fun e w'=>e=.returned (.slice (some ⟨g,0,none⟩) 128 c)/\jJ w' B g 128 c (sqz (N.set T (V+1)) ((all+1) / 8) 63)/\W.grownBy w' (some g)):=fun W B g c h=>
  vQ W B g c _ (all+1) 600001 h (BdN.set (fun i=>by have:=nb i;omega) T o_ o_) o_ o_ o_
 have HVV:=hd_ hV;have EL:Hid (kV (sqz (N.set T (V+1)) ((all+1) / 8) 63)=mO (N.set T (V+1)) (all+1)):=by show _=_;unfold mO;rfl
 obtain⟨Q,hQ⟩:=nm_ (sqz (N.set T (V+1)) ((all+1) / 8) 63);rw[<-hQ]at KQ EL;generalize mO (N.set T (V+1)) (all+1)=ds at *;have HW0:=hd_ hW0;have HA:=hd_ hA;have HS:=hd_ sW;have x0:=X0.cell0;have x1:=X0.cell1;have KT:Hid (∀W,Calls prog 66 #[iv t,iv 0,iv 63] W fun e w'=>e=.returned (.bool true)/\W=w'):=fun W=>aJ t 0 63 W ht.1 ht.2
 clear hA hW0 hn hp hok RK kb nb eN hN hV hQ sW kf;go_enter func313,ntmps313
 go_wp2_with fail
 rw[<-HW0.out]
 go_wp2_with fail
 refine K.out.mono ?_;rintro e w1 ⟨rfl,hb1⟩;have X1:=X0.later hb1;have R1:=R0.later hb1;have B1:=hd_ (HA.out.trans (hb1.mono HA.out.size));have I1:=hd_ (I0.out.below hb1 lr_);have S1:w.heap.size+2<=w1.heap.size:=by have:=hb1.size;have:=HS.out;omega
 clear hb1 X0 R0 x0 x1 K HA I0;have x0:=X1.cell0;have x1:=X1.cell1
 go_wp2_with fail
 refine (KT.out _).mono ?_;rintro e w' ⟨rfl,rfl⟩;have hge:decide ((2000:Int)<=all)=false:=decide_eq_false o_;have HT:=hd_ (And.intro hT (And.intro T1 (And.intro T2 (And.intro bV (And.intro S1 (And.intro ha0 ht))))));clear hT T1 T2 bV S1 ha0 ht
 go_wp2_with fail
 obtain⟨hT,T1,T2,bV,S1,ha0,ht⟩:=HT.out;refine (KN.out w1 I1.out).mono ?_;rintro e w2 ⟨rfl,hr,hb2⟩;have X2:=X1.later hb2;have R2:=R1.later hb2;have B2:=hd_ (B1.out.trans (hb2.mono B1.out.size));have c0:=hr.cell (i:=T) o_;rw[<-HVV.out]at c0;have f0:=hr.free T;have RS:=hd_ (hr.set T (V+1));have gS:=aA w2 ⟨w1.heap.size,T,none⟩ (iv (V+1));have X3:=X2.kept gS (by simp;omega)
 have R3:=R2.kept gS (by simp;omega);have B3:Hid (Below w.heap.size w (w2.setCell ⟨w1.heap.size,T,none⟩ (iv (V+1)))):=hd_ (B2.out.setCell (by show w.heap.size<=w1.heap.size;omega) _);have ws0:IntKind.i64.wrap (V+1)=V+1:=IntWalk.i64_in _ o_;obtain⟨w3,hw3⟩:=nm_ (w2.setCell ⟨w1.heap.size,T,none⟩ (iv (V+1)));have l2:w1.heap.size<w2.heap.size:=hr.lt.2;have z3:w3.heap.size=w2.heap.size:=by rw[hw3];simp
 rw[<-hw3]at RS X3 R3 B3;clear hb2 hr x0 x1 X1 R1 X2 R2 gS
 go_wp2_with fail
 rw[<-hw3];clear hw3 c0 f0;have x0:=X3.cell0;have x1:=X3.cell1;have ws:IntKind.i64.wrap (all+1)=all+1:=IntWalk.i64_in _ o_;have KD:=hd_ (KQ.out w3.drew w1.heap.size w1.heap.size 128 (RS.out.drewN 1))
 go_region_with (first|(go_at_call 230;refine KD.out.mono ?_;rintro e w4 ⟨rfl,hr4,hg4⟩;have X4:=X3.drew.kept hg4 (by simp;omega);have y0:=X4.cell0;have y1:=X4.cell1;have R4:=R3.drew.kept hg4 (by simp;omega);have KE:=hd_ (aB0 w4 w1.heap.size w1.heap.size 128 Q hr4))|(go_at_call 229;refine KE.out.mono ?_;rintro e w5 ⟨v,rfl,ho5,hb5⟩;rw[EL.out]at ho5;obtain⟨xz,cz,rfl,_,_⟩:=ho5.form;have R5:=R4.later hb5;have f2:=R5.free;have z0:=R5.cell0;have z1:=R5.cell1;have X5:=X4.later hb5;have q0:=X5.cell0;have q1:=X5.cell1))
 all_goals
  have RZ:=R5.set (.slice xz ds.length cz) (iv (all+1));have hr0:=RZ.cell0;have hr1:=RZ.cell1;have s4:w3.heap.size<=w4.heap.size:=hg4.size;have B4:=hd_ ((B3.out.trans (Below.drew (Below.refl _ _))).trans (oJ hg4 (by show w.heap.size<=w1.heap.size;omega) (by show w.heap.size<=w3.heap.size;omega)))
  have OZ:=hd_ ((ho5.set2 (R5.not_row dc_ ho5) (.slice xz ds.length cz) (iv (all+1))).base (B':=w.heap.size) o_);have BZ:=hd_ (gF (b:=w.heap.size+1) (B4.out.trans (hb5.mono o_)) (Nat.le_succ _) (.slice xz ds.length cz) (iv (all+1)));clear ho5 hb5 hr4 hg4 X4 R4 X5 R5 RZ y0 y1 f2 z0 z1 q0 q1 s4 B4;go_wp2
  exact bodyPost_ret (v:=.tuple #[.agg #[.slice xz ds.length cz,iv (all+1)],.bool true]) (by simp[results,results313,go_sem,hr0,hr1]) rfl ⟨_,rfl,OZ.out,BZ.out⟩
theorem aDI (w:World) (u:Value) (ps:List Pr) (all t:Int) (hp:Prs w u ps) (hno:fT ps all t=false):
  Calls prog 313 #[.agg #[u,iv all],iv t] w fun e w'=>e=.returned (.tuple #[.agg #[zn,iv 0],.bool false])/\Below w.heap.size w w':=by
 obtain⟨W0,hW0⟩:=nm_ ((w.alloc (.cells #[u,iv all] 44)).alloc (.cells #[zn,iv 0] 44));have hA:Below w.heap.size w W0:=by rw[hW0];exact ((Below.refl w.heap.size w).alloc lr_ _).alloc (by simp) _
 have X0:aS W0 w.heap.size 44 u (iv all):=by rw[hW0];exact (aS.new _ _ _ _).alloc _
 have R0:aS W0 (w.heap.size+1) 44 zn (iv 0):=by
  have h:=aS.new (w.alloc (.cells #[u,iv all] 44)) 44 zn (iv 0);rw[hW0];simpa using h
 have K:=hd_ (iS W0 u ps all (hp.below hA lr_));obtain⟨x,c,hu,_,_⟩:=hp.form;obtain⟨n,hn⟩:=nm_ ps.length;rw[<-hn]at hu;subst hu;have HW0:=hd_ hW0;have HA:=hd_ hA;have x0:=X0.cell0;have x1:=X0.cell1;have HY:Hid (cL ps all=true->(t<0\/63<t)\/((0<=t/\t<=63)/\2000<=all)):=fun h=>by
  unfold fT at hno;rw[h]at hno;simp at hno;omega
 have END:Hid (∀w1,Below W0.heap.size W0 w1->aS w1 (w.heap.size+1) 44 zn (iv 0)/\Below w.heap.size w ((w1.setCell ⟨w.heap.size+1,0,none⟩ zn).setCell ⟨w.heap.size+1,1,none⟩ (iv 0))):=fun w1 h=>
  ⟨R0.later h,gF (b:=w.heap.size+1) (hA.trans (h.mono hA.size)) (Nat.le_succ _) zn (iv 0)⟩
 generalize cL ps all=ok at K HY;clear hA hW0 hn hp hno;cases ok with
 |false=>
  clear HY;go_enter func313,ntmps313
  go_wp2_with fail
  rw[<-HW0.out]
  go_wp2_with fail
  refine K.out.mono ?_;rintro e w1 ⟨rfl,hb1⟩;obtain⟨R1,hl⟩:=END.out w1 hb1;have BZ:=hd_ hl;have z0:=R1.cell0;have z1:=R1.cell1;have f2:=R1.free;have RZ:=R1.set zn (iv 0);have hr0:=RZ.cell0;have hr1:=RZ.cell1;clear R1 RZ x0 x1 X0 R0 hb1 hl;exact zAV
 |true=>
  rcases HY.out rfl with ht|⟨ht,ha⟩
  ·clear HY
   go_enter func313,ntmps313
   go_wp2_with fail
   rw[<-HW0.out]
   go_wp2_with fail
   refine K.out.mono ?_;rintro e w1 ⟨rfl,hb1⟩;obtain⟨R1,hl⟩:=END.out w1 hb1;have BZ:=hd_ hl;have z0:=R1.cell0;have z1:=R1.cell1;have f2:=R1.free;have RZ:=R1.set zn (iv 0);have hr0:=RZ.cell0;have hr1:=RZ.cell1;clear R1 RZ x0 x1 X0 R0 hb1 hl
   go_wp2_with fail
   refine (fY t 0 63 _ ht).mono ?_;rintro e w' ⟨rfl,rfl⟩;exact zAV
  ·have hge:decide ((2000:Int)<=all)=true:=decide_eq_true ha
   clear HY;go_enter func313,ntmps313
   go_wp2_with fail
   rw[<-HW0.out]
   go_wp2_with fail
   refine K.out.mono ?_;rintro e w1 ⟨rfl,hb1⟩;obtain⟨R1,hl⟩:=END.out w1 hb1;have BZ:=hd_ hl;have X1:=X0.later hb1;have z0:=R1.cell0;have z1:=R1.cell1;have f2:=R1.free;have RZ:=R1.set zn (iv 0);have hr0:=RZ.cell0;have hr1:=RZ.cell1;clear R1 RZ x0 x1 X0 R0 hb1 hl;have x0:=X1.cell0;have x1:=X1.cell1
   go_wp2_with fail
   refine (aJ t 0 63 _ ht.1 ht.2).mono ?_;rintro e w' ⟨rfl,rfl⟩;clear ha ht;exact zAV
theorem aDd (w:World) (u:Value) (ps:List Pr) (all t:Int) (hp:Prs w u ps):
  Calls prog 313 #[.agg #[u,iv all],iv t] w fun e w'=>∃v,e=.returned (.tuple #[.agg #[v,.int .i64 (mG ps all t).2],.bool (fT ps all t)])/\aF w' w.heap.size v (mG ps all t).1/\Below w.heap.size w w':=by
 cases h:fT ps all t with
 |false=>
  rw[aC9 h];exact (aDI w u ps all t hp h).mono fun e w' ⟨he,hb⟩=>⟨_,he,aF.nil _ _,hb⟩
 |true=>
  rw[aK3 h];obtain⟨a,b,c⟩:=aAL h;exact aBo w u ps all t hp a b c
end Go.Proofs.YtcblbdpdbggkbaaGreat.K
namespace Go.Proofs.YtcblbdpdbggkbaaGreat.K
open _root_.Go.Proofs.Tryz
def wN (g:Int->Bool) (N:List Int):Nat->Int
 | 0=>0
 |k+1=>wN g N k+if g ((k+1:Nat):Int)then N.getD (k+1) 0 else 0
def wP (g:Int->Bool):List Pr->Int
 | []=>0
 |p::ps=>(if g p.1 then p.2 else 0)+wP g ps
theorem lE (g:Int->Bool) (ps qs:List Pr):wP g (ps++qs)=wP g ps+wP g qs:=by
 induction ps with
 |nil=>simp[wP]
 |cons p ps ih=>simp only[List.cons_append,wP,ih];omega
theorem wX (ps:List Pr) (t:Int):gX ps t=wP (fun a=>decide (kK a<=t)) ps:=by
 induction ps with
 |nil=>rfl
 |cons p ps ih=>simp[gX,wP,ih]
theorem aA2 (ps:List Pr) (t:Int):kL ps t=wP (fun a=>decide (rO a<=t)) ps:=by
 induction ps with
 |nil=>rfl
 |cons p ps ih=>simp[kL,wP,ih]
theorem aDr (ps:List Pr):cC ps=wP (fun _=>true) ps:=by
 induction ps with
 |nil=>rfl
 |cons p ps ih=>rw[wP, <-ih];simp[cC]
theorem iF (N:List Int) (i:Nat) (x:Int) (h:i<N.length):(N.set i x).getD i 0=x:=by
 rw[List.getD_eq_getElem?_getD,List.getElem?_set_self h];rfl
theorem bQ (N:List Int) (i j:Nat) (x:Int) (h:i≠j):(N.set i x).getD j 0=N.getD j 0:=by simp[h]
theorem aEm (n i:Nat):(List.replicate n (0:Int)).getD i 0=0:=by
 by_cases hi:i<n<;>simp[hi]
theorem aCQ (g:Int->Bool) (N:List Int) (i:Nat) (x:Int) (h0:1<=i) (h1:i<N.length):∀k,wN g (N.set i x) k=wN g N k+if i<=k then (if g (i:Int)then x - N.getD i 0 else 0)else 0:=by
 intro k
 induction k with
 |zero=>simp[wN,show ¬i<=0 by omega]
 |succ k ih=>
  simp only[wN,ih]
  by_cases e:i=k+1
  ·subst e
   rw[iF N _ x h1];simp only[show ¬k+1<=k by omega,if_false,Nat.le_refl,if_true];cases hg:g ((k+1:Nat):Int)
   ·simp only[Bool.false_eq_true,if_false]
   ·simp only[if_true];omega
  ·rw[bQ N i (k+1) x e]
   by_cases hk:i<=k
   ·rw[if_pos hk,if_pos (show i<=k+1 by omega)];ac_rfl
   ·rw[if_neg hk,if_neg (show ¬i<=k+1 by omega)];ac_rfl
theorem aH8 (g:Int->Bool) {N:List Int} (h:∀i,0<=N.getD i 0):∀k,0<=wN g N k:=by
 intro k
 induction k with
 |zero=>exact Int.le_refl _
 |succ k ih=>simp only[wN];have:=h (k+1);split<;>omega
theorem aML {N:List Int} (h:∀i,0<=N.getD i 0):∀k i,1<=i->i<=k->N.getD i 0<=wN (fun _=>true) N k:=by
 intro k
 induction k with
 |zero=>intro i h1 h2;omega
 |succ k ih=>
  intro i h1 h2;simp only[wN,if_true];have:=h (k+1)
  by_cases e:i=k+1
  ·subst e;have:=aH8 (fun _=>true) h k;omega
  ·have:=ih i h1 (by omega);omega
theorem aMi (N:List Int) (i:Nat) (h0:1<=i):∀k,wN (fun a=>decide (a=(i:Int))) N k=if i<=k then N.getD i 0 else 0:=by
 intro k
 induction k with
 |zero=>simp[wN,show ¬i<=0 by omega]
 |succ k ih=>
  simp only[wN,ih,decide_eq_true_eq]
  by_cases e:i=k+1
  ·subst e;simp[show ¬k+1<=k by omega]
  ·rw[if_neg (show ¬(((k+1:Nat):Int)=(i:Int)) by omega)]
   by_cases hk:i<=k
   ·rw[if_pos hk,if_pos (by omega)];omega
   ·rw[if_neg hk,if_neg (by omega)];omega
theorem aDF (g:Int->Bool) {N:List Int} (h:∀i,0<=N.getD i 0):∀k,wP g (iG N k)=wN g N k:=by
 intro k
 induction k with
 |zero=>rfl
 |succ k ih=>
  rw[iG,lE,ih,wN];have:=h (k+1)
  by_cases hp:0<N.getD (k+1) 0
  ·rw[if_pos hp];simp[wP]
  ·rw[if_neg hp,show N.getD (k+1) 0=0 by omega];simp[wP]
theorem aJA (a:List Int) (p:Pr):(mV a p).length=a.length:=by simp[mV]
theorem aF7 (ps:List Pr) (p:Pr):dB (ps++[p])=mV (dB ps) p:=by simp[dB]
def AtK (ps:List Pr):Prop:=∀p ∈ ps,1<=p.1/\p.1<=127
theorem AtK.append {ps qs:List Pr} (h:AtK ps) (h':AtK qs):AtK (ps++qs):=fun p hp=>by
 rcases List.mem_append.1 hp with a|a
 ·exact h p a
 ·exact h' p a
theorem aMf (g:Int->Bool) (a:List Int) (p:Pr) (ha:a.length=128) (h:1<=p.1/\p.1<=127):wN g (mV a p) 127=wN g a 127+if g p.1 then p.2 else 0:=by
 unfold mV;have e:((p.1.toNat:Nat):Int)=p.1:=by omega
 rw[aCQ g a p.1.toNat _ (by omega) (by omega),if_pos (by omega),e]
 by_cases hg:g p.1=true
 ·rw[if_pos hg,if_pos hg];omega
 ·rw[if_neg hg,if_neg hg]
theorem yT (g:Int->Bool) (ps:List Pr) (h:AtK ps):wN g (dB ps) 127=wP g ps:=by
 have e0:∀k,wN g (List.replicate 128 0) k=0:=by
  intro k
  induction k with
  |zero=>rfl
  |succ k ih=>
   have:=aEm 128 (k+1);rw[wN,ih,this];simp
 have:∀(ps:List Pr) (a:List Int),a.length=128->AtK ps->wN g (ps.foldl mV a) 127=wN g a 127+wP g ps:=by
  intro ps
  induction ps with
  |nil=>intro a _ _;simp[wP]
  |cons p ps ih=>
   intro a ha hk;rw[List.foldl_cons,ih _ (by rw[aJA];exact ha) (fun q hq=>hk q (List.mem_cons_of_mem _ hq)),aMf g a p ha (hk p (List.mem_cons_self ..)),wP];omega
 unfold dB;rw[this ps _ (by simp) h,e0];omega
theorem aD4 (a:List Int) (p:Pr) (h:1<=p.1):(mV a p).getD 0 0=a.getD 0 0:=by
 unfold mV;exact bQ _ _ _ _ (by omega)
theorem aCU (ps:List Pr) (h:AtK ps):(dB ps).getD 0 0=0:=by
 have:∀(ps:List Pr) (a:List Int),AtK ps->(ps.foldl mV a).getD 0 0=a.getD 0 0:=by
  intro ps
  induction ps with
  |nil=>intro a _;rfl
  |cons p ps ih=>
   intro a hk;rw[List.foldl_cons,ih _ (fun q hq=>hk q (List.mem_cons_of_mem _ hq)),aD4 a p (hk p (List.mem_cons_self ..)).1]
 unfold dB;rw[this ps _ h];rfl
theorem aLl (ps:List Pr) (h:∀p ∈ ps,0<=p.2):∀i,0<=(dB ps).getD i 0:=by
 have:∀(ps:List Pr) (a:List Int),(∀p ∈ ps,0<=p.2)->(∀i,0<=a.getD i 0)->∀i,0<=(ps.foldl mV a).getD i 0:=by
  intro ps
  induction ps with
  |nil=>intro a _ ha;exact ha
  |cons p ps ih=>
   intro a hk ha;rw[List.foldl_cons];refine ih _ (fun q hq=>hk q (List.mem_cons_of_mem _ hq)) (fun i=>?_);unfold mV
   by_cases e:p.1.toNat=i
   ·subst e
    by_cases hl:p.1.toNat<a.length
    ·rw[iF _ _ _ hl];have:=ha p.1.toNat;have:=hk p (List.mem_cons_self ..);omega
    ·rw[List.set_eq_of_length_le (by omega)];exact ha _
   ·rw[bQ _ _ _ _ e];exact ha i
 exact this ps _ h (fun i=>by rw[aEm];exact Int.le_refl _)
theorem aF2 (g:Int->Bool) (N:List Int) (D:Int) (j:Nat) (hl:N.length=128) (h1:1<=j) (h2:j<=63):
  wN g (sq1 N D j) 127=wN g N 127+if 0<N.getD (2 * j) 0+N.getD (2 * j+1) 0/\N.getD (2 * j) 0+N.getD (2 * j+1) 0+N.getD j 0<=D then (if g (j:Int)then N.getD (2 * j) 0+N.getD (2 * j+1) 0 else 0) - (if g ((2 * j:Nat):Int)then N.getD (2 * j) 0 else 0) - (if g ((2 * j+1:Nat):Int)then N.getD (2 * j+1) 0 else 0)else 0:=by
 unfold sq1
 split
 ·rw[aCQ g _ (2 * j+1) 0 (by omega) (by simp;omega),aCQ g _ (2 * j) 0 (by omega) (by simp;omega),aCQ g N j _ h1 (by omega)]
  rw[bQ _ _ _ _ (show 2 * j≠2 * j+1 by omega),bQ _ _ _ _ (show j≠2 * j+1 by omega),bQ _ _ _ _ (show j≠2 * j by omega)];rw[if_pos (show 2 * j+1<=127 by omega),if_pos (show 2 * j<=127 by omega),if_pos (show j<=127 by omega)]
  split<;>split<;>split<;>omega
 ·omega
theorem aMD {N:List Int} {D:Int} (h:∀i,0<=N.getD i 0) (j:Nat):∀i,0<=(sq1 N D j).getD i 0:=fun i=>by
 unfold sq1
 split
 ·have s:∀(M:List Int) (k:Nat) (x:Int),(∀i,0<=M.getD i 0)->0<=x->∀i,0<=(M.set k x).getD i 0:=fun M k x hM hx i=>by
   by_cases e:k=i
   ·subst e
    by_cases hl:k<M.length
    ·rw[iF _ _ _ hl];exact hx
    ·rw[List.set_eq_of_length_le (by omega)];exact hM _
   ·rw[bQ _ _ _ _ e];exact hM i
  exact s _ _ _ (s _ _ _ (s _ _ _ h (by have:=h j;have:=h (2 * j);have:=h (2 * j+1);omega)) (Int.le_refl _)) (Int.le_refl _) i
 ·exact h i
def aEW (N:List Int) (D:Int):Prop:=∀i,1<=i->i<64->N.getD i 0<=D
theorem aLp {N:List Int} {D:Int} (h:aEW N D) (d0:0<=D) (hl:N.length=128) (j:Nat) (hj:j<=63):aEW (sq1 N D j) D:=fun i h1 h2=>by
 unfold sq1
 split
 ·rename_i hc
  by_cases e3:2 * j+1=i
  ·subst e3;rw[iF _ _ _ (by simp;omega)];exact d0
  rw[bQ _ _ _ _ e3]
  by_cases e2:2 * j=i
  ·subst e2;rw[iF _ _ _ (by simp;omega)];exact d0
  rw[bQ _ _ _ _ e2]
  by_cases e1:j=i
  ·subst e1;rw[iF _ _ _ (by omega)];omega
  rw[bQ _ _ _ _ e1];exact h i h1 h2
 ·exact h i h1 h2
theorem aMu {N:List Int} {D:Int} (j:Nat) (hj:1<=j):(sq1 N D j).getD 0 0=N.getD 0 0:=by
 unfold sq1
 split
 ·rw[bQ _ _ _ _ (by omega),bQ _ _ _ _ (by omega),bQ _ _ _ _ (by omega)]
 ·rfl
structure SqK (N:List Int) (D:Int) (Z:List Int):Prop where
 nn:∀i,0<=Z.getD i 0
 len:Z.length=128
 cap:aEW Z D
 zero:Z.getD 0 0=N.getD 0 0
 sum:wN (fun _=>true) Z 127=wN (fun _=>true) N 127
 least:∀t,wN (fun a=>decide (kK a<=t)) Z 127<=wN (fun a=>decide (kK a<=t)) N 127
 most:∀t,wN (fun a=>decide (rO a<=t)) N 127<=wN (fun a=>decide (rO a<=t)) Z 127
theorem aHQ (j:Nat) (h1:1<=j) (h2:j<=63):rO ((2 * j:Nat):Int)=rO (j:Int)/\rO (j:Int)<=rO ((2 * j+1:Nat):Int)/\kK ((2 * j+1:Nat):Int)=kK (j:Int)/\kK ((2 * j:Nat):Int)<=kK (j:Int):=by
 have a:=(uU (j - 1) (by omega)).2.2 (by omega);have b:=(uU (2 * j - 1) (by omega)).1;have c:=(uU (2 * j) (by omega)).1;rw[show ((j - 1:Nat):Int)+1=(j:Int) by omega]at a;rw[show ((2 * j - 1:Nat):Int)+1=2 * (j:Int) by omega]at b;rw[show ((2 * j:Nat):Int)+1=2 * (j:Int)+1 by omega]at c;rw[show ((2 * j:Nat):Int)=2 * (j:Int) by omega,show ((2 * j+1:Nat):Int)=2 * (j:Int)+1 by omega]
 omega
theorem aJF {N:List Int} {D:Int} (nn:∀i,0<=N.getD i 0) (hl:N.length=128) (hc:aEW N D) (d0:0<=D):∀s,s<=63->SqK N D (sqz N D s):=by
 intro s
 induction s with
 |zero=>intro _;exact⟨nn,hl,hc,rfl,rfl,fun _=>Int.le_refl _,fun _=>Int.le_refl _⟩
 |succ s ih=>
  intro hs;have Z:=ih (by omega);rw[sqz];obtain⟨j,hj⟩:∃j,j=63 - s:=⟨_,rfl⟩
  rw[<-hj];generalize sqz N D s=M at *;have n1:=Z.nn (2 * j);have n2:=Z.nn (2 * j+1);obtain⟨k1,k2,k3,k4⟩:=aHQ j (by omega) (by omega);refine⟨aMD Z.nn j,by rw[aHk];exact Z.len,aLp Z.cap d0 Z.len j (by omega),(aMu j (by omega)).trans Z.zero,?_,fun t=>?_,fun t=>?_⟩
  ·rw[aF2 _ M D j Z.len (by omega) (by omega), <-Z.sum]
   simp only[if_true]
   split<;>omega
  ·rw[aF2 _ M D j Z.len (by omega) (by omega)]
   have:=Z.least t;simp only[decide_eq_true_eq]
   split
   ·split<;>split<;>split<;>omega
   ·omega
  ·rw[aF2 _ M D j Z.len (by omega) (by omega)]
   have:=Z.most t;simp only[decide_eq_true_eq]
   split
   ·split<;>split<;>split<;>omega
   ·omega
theorem wF {N:List Int}:∀k p,p ∈ iG N k->∃a:Nat,1<=a/\a<=k/\p=((a:Int),N.getD a 0)/\0<N.getD a 0:=by
 intro k
 induction k with
 |zero=>intro p hp;cases hp
 |succ k ih=>
  intro p hp;rw[iG]at hp;rcases List.mem_append.1 hp with h|h
  ·obtain⟨a,h1,h2,h3⟩:=ih p h
   exact⟨a,h1,by omega,h3⟩
  ·by_cases hq:0<N.getD (k+1) 0
   ·rw[if_pos hq]at h
    exact⟨k+1,by omega,Nat.le_refl _,by simpa using h,hq⟩
   ·rw[if_neg hq]at h;cases h
theorem aJd {N:List Int}:∀k,(iG N k).Pairwise (fun p q=>p.1<q.1):=by
 intro k
 induction k with
 |zero=>exact .nil
 |succ k ih=>
  rw[iG];refine List.pairwise_append.2 ⟨ih,?_,fun p hp q hq=>?_⟩
  ·split
   ·exact List.pairwise_singleton _ _
   ·exact .nil
  ·obtain⟨a,_,h2,rfl,_⟩:=wF k p hp
   split at hq
   ·obtain rfl:q=_:=by simpa using hq
    show (a:Int)<((k+1:Nat):Int)
    omega
   ·cases hq
theorem aMX {ps:List Pr} (h:ps.Pairwise (fun p q=>p.1<q.1)) {i j:Nat} (hi:i<j) (hj:j<ps.length):(pr ps i).1<(pr ps j).1:=by
 have:=List.pairwise_iff_getElem.1 h i j (by omega) hj hi;simp only[pr,List.getD_eq_getElem?_getD,List.getElem?_eq_getElem hj,List.getElem?_eq_getElem (show i<ps.length by omega),Option.getD_some];exact this
theorem aMJ {ps:List Pr} (h:∀i,i+1<ps.length->(pr ps i).1<(pr ps (i+1)).1):ps.Pairwise (fun p q=>p.1<q.1):=by
 have s:∀d i,i+d+1<ps.length->(pr ps i).1<(pr ps (i+d+1)).1:=by
  intro d
  induction d with
  |zero=>intro i hi;exact h i hi
  |succ d ih=>intro i hi;have a:=ih i (by omega);have b:=h (i+d+1) (by omega);rw[show i+(d+1)+1=i+d+1+1 by omega];omega
 refine List.pairwise_iff_getElem.2 (fun i j hi hj hij=>?_);have:=s (j - i - 1) i (by omega);rw[show i+(j - i - 1)+1=j by omega]at this;simpa[pr,hi,hj]using this
theorem dS.asc {ps:List Pr} {all:Int} (h:dS ps all):ps.Pairwise (fun p q=>p.1<q.1):=aMJ (fun i hi=>by
  have:=(h.2.1 (i+1) hi).2.1 (by omega)
  simpa using this)
theorem dS.atK {ps:List Pr} {all:Int} (h:dS ps all):AtK ps:=fun p hp=>by
 obtain⟨i,hi,rfl⟩:=kX hp;exact (h.2.1 i hi).1.1
theorem dS.num {ps:List Pr} {all:Int} (h:dS ps all):∀p ∈ ps,1<=p.2/\p.2<=2000/\(p.1<64->p.2<=all / 8):=fun p hp=>by
 obtain⟨i,hi,rfl⟩:=kX hp;exact⟨(h.2.1 i hi).1.2.1,(h.2.1 i hi).1.2.2,(h.2.1 i hi).2.2⟩
theorem aDV {ps:List Pr} {all:Int} (h0:0<=all/\all<=2000) (ha:ps.Pairwise (fun p q=>p.1<q.1)) (hk:AtK ps) (hn:∀p ∈ ps,1<=p.2/\p.2<=2000/\(p.1<64->p.2<=all / 8)) (hs:cC ps=all):dS ps all:=
 ⟨h0,fun i hi=>⟨⟨hk _ (jI hi),(hn _ (jI hi)).1,(hn _ (jI hi)).2.1⟩,fun h=>aMX ha (by omega) hi,(hn _ (jI hi)).2.2⟩,hs⟩
theorem aKs {N:List Int} {all:Int} (nn:∀i,0<=N.getD i 0) (hl:N.length=128) (hc:aEW N (all / 8)) (h0:0<=all/\all<=2000) (hs:wN (fun _=>true) N 127=all):dS (mO N all) all:=by
 have Z:=aJF nn hl hc (by omega) 63 lr_;unfold mO kV;generalize sqz N (all / 8) 63=Y at Z ⊢;refine aDV h0 (aJd 127) (fun p hp=>?_) (fun p hp=>?_) (by rw[aDr,aDF _ Z.nn,Z.sum];exact hs)
 ·obtain⟨a,h1,h2,rfl,_⟩:=wF 127 p hp
  show 1<=(a:Int)/\(a:Int)<=127
  omega
 ·obtain⟨a,h1,h2,rfl,h3⟩:=wF 127 p hp
  have:=aML Z.nn 127 a h1 h2;rw[Z.sum,hs]at this;refine⟨?_,?_,fun h=>?_⟩
  ·show 1<=Y.getD a 0;omega
  ·show Y.getD a 0<=(2000:Int);omega
  ·exact Z.cap a h1 (by have:(a:Int)<64:=h;omega)
theorem aEp {N:List Int} {all:Int} (nn:∀i,0<=N.getD i 0) (hl:N.length=128) (hc:aEW N (all / 8)) (h0:0<=all) (t:Int):gX (mO N all) t<=wN (fun a=>decide (kK a<=t)) N 127:=by
 have Z:=aJF nn hl hc (by omega) 63 lr_;rw[wX,mO,kV,aDF _ Z.nn];exact Z.least t
theorem aGZ {N:List Int} {all:Int} (nn:∀i,0<=N.getD i 0) (hl:N.length=128) (hc:aEW N (all / 8)) (h0:0<=all) (t:Int):wN (fun a=>decide (rO a<=t)) N 127<=kL (mO N all) t:=by
 have Z:=aJF nn hl hc (by omega) 63 lr_;rw[aA2,mO,kV,aDF _ Z.nn];exact Z.most t
def cnt (g:Int->Bool):Nat->Nat
 | 0=>0
 |k+1=>cnt g k+if g ((k+1:Nat):Int)then 1 else 0
theorem aJy (g:Int->Bool) {k m:Nat} (h:k<=m):cnt g k<=cnt g m:=by
 induction m with
 |zero=>simp[show k=0 by omega]
 |succ m ih=>
  by_cases e:k=m+1
  ·subst e;exact Nat.le_refl _
  ·have:=ih (by omega);simp only[cnt];omega
theorem aMK (g:Int->Bool) (D:Int) (d0:0<=D):∀(ps:List Pr),ps.Pairwise (fun p q=>p.1<q.1)->AtK ps->(∀p ∈ ps,g p.1=true->p.2<=D)->∀k:Nat,k<=127->(∀p ∈ ps,(k:Int)<p.1)->wP g ps+D * (cnt g k:Int)<=D * (cnt g 127:Int):=by
 have ml:∀a b:Nat,a<=b->D * (cnt g a:Int)<=D * (cnt g b:Int):=fun a b h=>Int.mul_le_mul_of_nonneg_left (by have:=aJy g h;omega) d0
 intro ps
 induction ps with
 |nil=>intro _ _ _ k hk _;have:=ml k 127 hk;simp only[wP];omega
 |cons p ps ih=>
  intro ha hk hD k hk1 hlt;obtain⟨h1,h2⟩:=List.pairwise_cons.1 ha;obtain⟨b1,b2⟩:=hk p (List.mem_cons_self ..);have hkp:=hlt p (List.mem_cons_self ..);obtain⟨a,hpa⟩:∃a:Nat,p.1=((a+1:Nat):Int):=⟨p.1.toNat - 1,by omega⟩
  have I:=ih h2 (fun q hq=>hk q (List.mem_cons_of_mem _ hq)) (fun q hq=>hD q (List.mem_cons_of_mem _ hq)) (a+1) (by omega) (fun q hq=>by have:=h1 q hq;omega);have M:=ml k a (by omega);have hp:=hD p (List.mem_cons_self ..);simp only[wP,cnt]at I ⊢;rw[hpa]at hp ⊢
  split
  ·rename_i hg
   rw[if_pos hg,Int.natCast_add,Int.mul_add]at I;have:=hp hg;simp only[Int.natCast_one,Int.mul_one]at I;omega
  ·rename_i hg
   rw[if_neg hg]at I;simp only[Nat.add_zero]at I;omega
theorem aLV (g:Int->Bool) (D:Int) (d0:0<=D) (ps:List Pr) (ha:ps.Pairwise (fun p q=>p.1<q.1)) (hk:AtK ps) (hD:∀p ∈ ps,g p.1=true->p.2<=D):wP g ps<=D * (cnt g 127:Int):=by
 have:=aMK g D d0 ps ha hk hD 0 (by omega) (fun p hp=>by have:=(hk p hp).1;omega);simpa[cnt]using this
theorem aLe:∀i:Nat,i<128->cnt (fun a=>decide (a=(i:Int))) 127<=1:=by decide+kernel
theorem aCS (ps:List Pr) (h:AtK ps) (i:Nat) (h1:1<=i) (h2:i<=127):(dB ps).getD i 0=wP (fun a=>decide (a=(i:Int))) ps:=by
 have:=yT (fun a=>decide (a=(i:Int))) ps h;rw[aMi _ i h1,if_pos h2]at this;exact this
theorem aEY {ps:List Pr} {a:Int} (h:dS ps a) (i:Nat) (h1:1<=i) (h2:i<64):wP (fun x=>decide (x=(i:Int))) ps<=a / 8:=by
 have d0:0<=a / 8:=by have:=h.1.1;omega
 have:=aLV (fun x=>decide (x=(i:Int))) (a / 8) d0 ps h.asc h.atK (fun p hp hg=>by
    have e:p.1=(i:Int):=by simpa using hg
    exact (h.num p hp).2.2 (by omega))
 have c:=aLe i (by omega);have:(a / 8) * (cnt (fun x=>decide (x=(i:Int))) 127:Int)<=(a / 8) * 1:=Int.mul_le_mul_of_nonneg_left (by omega) d0;omega
theorem aAT {ps qs:List Pr} {a b:Int} (h:dS ps a) (h':dS qs b):aEW (dB (ps++qs)) ((a+b) / 8):=fun i h1 h2=>by
 rw[aCS _ (h.atK.append h'.atK) i h1 (by omega),lE];have:=aEY h i h1 h2;have:=aEY h' i h1 h2;omega
theorem aDK {ps qs:List Pr} {a b:Int} (h:dS ps a) (h':dS qs b):∀i,0<=(dB (ps++qs)).getD i 0:=aLl _ (fun p hp=>by
  rcases List.mem_append.1 hp with e|e
  · have:=(h.num p e).1;omega
  · have:=(h'.num p e).1;omega)
def mP (ps:List Pr) (a:Int) (qs:List Pr) (b:Int):List Pr:=mO (dB (ps++qs)) (a+b)
section
variable {ps qs:List Pr} {a b:Int}
theorem aLq (h:dS ps a) (h':dS qs b) (hs:a+b<=2000):dS (mP ps a qs b) (a+b):=
 aKs (aDK h h') (lG _) (aAT h h') ⟨by have:=h.1.1;have:=h'.1.1;omega,hs⟩ (by
    rw[yT _ _ (h.atK.append h'.atK),lE, <-aDr, <-aDr,h.2.2,h'.2.2])
theorem aFR (h:dS ps a) (h':dS qs b) (t:Int):gX (mP ps a qs b) t<=gX ps t+gX qs t:=by
 have:=aEp (aDK h h') (lG _) (aAT h h') (by have:=h.1.1;have:=h'.1.1;omega) t;rw[yT _ _ (h.atK.append h'.atK),lE, <-wX, <-wX]at this;exact this
theorem aIK (h:dS ps a) (h':dS qs b) (t:Int):kL ps t+kL qs t<=kL (mP ps a qs b) t:=by
 have:=aGZ (aDK h h') (lG _) (aAT h h') (by have:=h.1.1;have:=h'.1.1;omega) t;rw[yT _ _ (h.atK.append h'.atK),lE, <-aA2, <-aA2]at this;exact this
theorem aHM (h:dS ps a) (h':dS qs b):mP ps a qs b=mP qs b ps a:=by
 have e:dB (ps++qs)=dB (qs++ps):=by
  refine List.ext_getElem (by rw[lG,lG]) (fun i h1 h2=>?_);have g1:(dB (ps++qs)).getD i 0=(dB (qs++ps)).getD i 0:=by
   rw[lG]at h1
   by_cases h0:i=0
   ·subst h0;rw[aCU _ (h.atK.append h'.atK),aCU _ (h'.atK.append h.atK)]
   ·rw[aCS _ (h.atK.append h'.atK) i (by omega) (by omega),aCS _ (h'.atK.append h.atK) i (by omega) (by omega),lE,lE];omega
  simpa[List.getD_eq_getElem?_getD,h1,h2]using g1
 unfold mP;rw[e,Int.add_comm]
end
theorem aMB (t:Int) (h:0<=t/\t<=63):dS [(64+t,1)] 1:=
 aDV (by omega) (List.pairwise_singleton _ _) (fun p hp=>by (obtain rfl:p=_:=by simpa using hp);show 1<=64+t/\64+t<=127;omega)
  (fun p hp=>by (obtain rfl:p=_:=by simpa using hp);exact⟨Int.le_refl _,by show (1:Int)<=2000;omega,fun h'=>by have:64+t<64:=h';omega⟩) rfl
theorem aDY (t:Int) (h:0<=t/\t<=63):rO (64+t)=t/\kK (64+t)=t:=by
 obtain⟨T,rfl⟩:∃T:Nat,t=(T:Int):=⟨t.toNat,by omega⟩
 have:=(uU (63+T) (by omega)).2.1 (by omega);rw[show ((63+T:Nat):Int)+1=64+(T:Int) by omega]at this;omega
theorem aH7 (t i:Int) (h:0<=t/\t<=63):gX [(64+t,1)] i=if t<=i then 1 else 0:=by
 simp[gX,(aDY t h).2]
theorem aKe (t i:Int) (h:0<=t/\t<=63):kL [(64+t,1)] i=if t<=i then 1 else 0:=by
 simp[kL,(aDY t h).1]
theorem aJG (ps:List Pr) (a t:Int):mO (mV (dB ps) (64+t,1)) (a+1)=mP ps a [(64+t,1)] 1:=by
 unfold mP;rw[aF7]
theorem aLR {N:List Int} {D:Int} (nn:∀i,0<=N.getD i 0) (hl:N.length=128) (j:Nat) (h1:1<=j) (h2:j<=63):
  (if N.getD j 0+(N.getD (2 * j) 0+N.getD (2 * j+1) 0)<=D then ((N.set j (N.getD j 0+(N.getD (2 * j) 0+N.getD (2 * j+1) 0))).set (2 * j) 0).set (2 * j+1) 0 else N)=sq1 N D j:=by
 unfold sq1;have a:=nn (2 * j);have b:=nn (2 * j+1)
 by_cases c:N.getD j 0+(N.getD (2 * j) 0+N.getD (2 * j+1) 0)<=D
 ·rw[if_pos c]
  by_cases p:0<N.getD (2 * j) 0+N.getD (2 * j+1) 0
  ·rw[if_pos ⟨p,by omega⟩]
  ·rw[if_neg (fun h=>p h.1)]
   have z1:N.getD (2 * j) 0=0:=by omega
   have z2:N.getD (2 * j+1) 0=0:=by omega
   have st:∀i,i<128->N.set i (N.getD i 0)=N:=fun i hi=>by
    rw[List.getD_eq_getElem?_getD,List.getElem?_eq_getElem (by omega)];exact List.set_getElem_self _
   have s1:=st j (by omega);have s2:=st (2 * j) (by omega);have s3:=st (2 * j+1) (by omega);rw[z1]at s2;rw[z2]at s3;rw[z1,z2,show N.getD j 0+(0+0)=N.getD j 0 by omega,s1,s2,s3]
 ·rw[if_neg c,if_neg (fun h=>c (by omega))]
end Go.Proofs.YtcblbdpdbggkbaaGreat.K
namespace Go.Proofs.YtcblbdpdbggkbaaGreat.K
open _root_.Go.Proofs.Tryz
open Go.RowKit Go.Sort
theorem lP (a:Int) (w:World) (h0:0<=a) (h1:a<=2000):
  Calls prog 180 #[iv a] w fun e w'=>e=.returned (.bool true)/\w=w':=by
 go_enter func180,ntmps180;go_wp2;go_ret;exact⟨rfl,rfl⟩
theorem pX (a:Int) (w:World) (h:a<0\/2000<a):
  Calls prog 180 #[iv a] w fun e w'=>e=.returned (.bool false)/\w=w':=by
 rcases h with h|h
 ·have h':¬ 0<=a:=o_
  go_enter func180,ntmps180;exact zt
 ·have h':¬a<=2000:=o_
  have h'':0<=a:=o_;go_enter func180,ntmps180;exact zt
def aBW (a all:Int):Int:=if a<64 then all / 8 else all
theorem yG (a all:Int) (w:World) (h0:0<=all) (h1:all<=2000):
  Calls prog 181 #[iv a,iv all] w fun e w'=>e=.returned (iv (aBW a all))/\w=w':=by
 have hD:all.tdiv 8=all / 8:=Int.tdiv_eq_ediv_of_nonneg h0;have hw:IntKind.i64.wrap (all / 8)=all / 8:=IntWalk.i64_in _ o_;unfold aBW
 by_cases h:a<64
 ·rw[if_pos h]
  go_enter func181,ntmps181;exact zt
 ·rw[if_neg h]
  clear hD hw;go_enter func181,ntmps181;exact zt
def kD (ps:List Pr) (k:Nat):Int:=if k=0 then 0 else (pr ps (k - 1)).1
theorem dS.le_all {ps:List Pr} {all:Int} (h:dS ps all) (k:Nat) (hk:k<ps.length):(pr ps k).2<=all:=by
 have g:∀(m:Nat),m<=ps.length->k<m->(pr ps k).2<=cC (ps.take m)/\0<=cC (ps.take m):=by
  intro m
  induction m with
  |zero=>intro _ h;omega
  |succ m ih=>
   intro hm hkm;have b:=aDB (k:=m) o_ (fun i hi=>h.2.1 i o_);have g:=(h.2.1 m o_).1.2;rw[kF ps m o_]
   by_cases e:k=m
   ·subst e;omega
   ·have:=ih o_ o_;omega
 have:=(g ps.length lr_ hk).1;rw[List.take_of_length_le lr_,h.2.2]at this;exact this
theorem aFp (w:World) (x:Option Addr) (n c:Nat) (ps:List Pr) (all:Int) (hl:ps.length=n) (hp:Prs w (.slice x n c) ps) (hn:n<=maxLen):
  Calls prog 110 #[.agg #[.slice x n c,iv all]] w fun e w'=>e=.returned (.bool (cL ps all))/\Below w.heap.size w w':=by
 unfold maxLen at hn;have HPR:=hd_ hp;have HP:=hd_ hp.cells;have HL:=hd_ hl;obtain⟨W,hW⟩:=nm_ (w.alloc (.cells #[.slice x n c,iv all] 44));have hA:Below w.heap.size w W:=by rw[hW];exact (Below.refl w.heap.size w).alloc lr_ _
 have sW:W.heap.size=w.heap.size+1:=by rw[hW];simp
 have X:aS W w.heap.size 44 (.slice x n c) (iv all):=by rw[hW];exact aS.new _ _ _ _
 have HA:=hd_ hA;have HS:=hd_ sW;have HX:=hd_ X;have x0:=X.cell0;have x1:=X.cell1;clear hl hp hA sW X
 by_cases ha:all<0\/2000<all
 ·have bd:Hid (cL ps all=false):=nF (fun q=>by have:=q.1;omega)
  go_enter func110,ntmps110
  go_wp2_with fail
  rw[<-hW];clear hW
  go_wp2_with fail
  refine (pX _ _ ha).mono ?_;rintro e w' ⟨rfl,rfl⟩;go_wp2;go_ret;exact⟨aH bd.out.symm,HA.out⟩
 have ha0:0<=all:=o_;have ha1:all<=2000:=o_;go_enter func110,ntmps110
 go_wp2_with fail
 rw[<-hW];clear hW
 go_wp2_with fail
 refine (lP _ _ ha0 ha1).mono ?_;rintro e w' ⟨rfl,rfl⟩;go_wp2;go_loopw [3,4,14] (fun q l i wr=>∃k:Nat,k<=n/\i=.int .i64 k/\q=.int .i64 (cC (ps.take k))/\l=.int .i64 (kD ps k)/\(∀i,i<k->KnG ps all i)/\Below (w.heap.size+1) W wr) (fun _ _ i _=>n - (intOf i).toNat)
 case atStart=>exact⟨0,Nat.zero_le _,rfl,rfl,rfl,fun _ h=>absurd h (Nat.not_lt_zero _),Below.refl _ _⟩
 case round=>
  obtain⟨k,hk,rfl,rfl,rfl,hg,hbl⟩:=hrel;have G:=hd_ hg;have HB:=hd_ hbl;have kf:=yR hg;have hsb:=aDB (by rw[HL.out];exact hk) hg;have hX1:=HX.out.below HB.out (Nat.lt_succ_self _);have cw0:=hX1.cell0;have cw1:=hX1.cell1;have FIN:=hd_ (HA.out.trans (HB.out.mono (Nat.le_succ _)));have sw:w.heap.size+1<=wr.heap.size:=by have:=HB.out.size;have:=HS.out;omega
  by_cases hlt:k<n
  ·obtain⟨b,o,rfl,hb,h1,h2⟩:=HP.out k (by rw[HL.out];exact hlt)
   have tr:∀j v,w.cell? ⟨b,j,none⟩=some v->wr.cell? ⟨b,j,none⟩=some v:=fun j v h=>by
    exact zAz
   replace h1:=tr _ _ h1;replace h2:=tr _ _ h2;have HQ:Hid (KnG ps all k↔(((1<=(pr ps k).1/\(pr ps k).1<=127)/\1<=(pr ps k).2/\(pr ps k).2<=2000)/\(0<k->(pr ps (k - 1)).1<(pr ps k).1)/\((pr ps k).1<64->(pr ps k).2<=all / 8))):=Iff.rfl;have bad:Hid (¬KnG ps all k->cL ps all=false):=fun h=>nF (fun q=>h (q.2.1 k (by rw[HL.out];exact hlt)))
   have badM:Hid (all<(pr ps k).2->cL ps all=false):=fun h=>nF (fun q=>by have:=q.le_all k (by rw[HL.out];exact hlt);omega)
   have hs:=hd_ (kF ps k (by rw[HL.out];exact hlt));have hlv:Hid (kD ps (k+1)=(pr ps k).1):=by show kD ps (k+1)=_;simp[kD]
   -- the knot eX
   have hL0:Hid (k=0->kD ps k=0):=fun h=>by simp[kD,h]
   have hL1:Hid (0<k->kD ps k=(pr ps (k - 1)).1):=fun h=>by simp[kD,show k≠0 by omega]
   have hLG:Hid (0<=kD ps k/\kD ps k<=127):=by
    show _/\_
    by_cases h:k=0
    ·rw[hL0.out h];omega
    ·rw[hL1.out o_];have:=(G.out (k - 1) o_).1.1;omega
   generalize pr ps k=q at h1 h2 HQ hs badM hlv;generalize pr ps (k - 1)=q' at HQ hL1;obtain⟨t,m⟩:=q;generalize kD ps k=L at *;have k0:(0:Int)<=(k:Int):=o_;have kn:(k:Int)<(n:Int):=o_
   -- the world with this round's box
   obtain⟨wk,hwk⟩:=nm_ (wr.alloc (.cells #[iv t,iv m] 152));have hK:Below wr.heap.size wr wk:=by rw[hwk];exact (Below.refl _ _).alloc lr_ _
   have bK:aS wk wr.heap.size 152 (iv t) (iv m):=by rw[hwk];exact aS.new _ _ _ _
   have y0:=bK.cell0;have y1:=bK.cell1;have yX:=hX1.later hK;have xk1:=yX.cell1;have HB2:=hd_ (HB.out.trans (hK.mono sw));have FIN2:=hd_ (FIN.out.trans (hK.mono FIN.out.size));generalize hSS:cC (ps.take k)=S at *;obtain⟨M,hM⟩:=nm_ (aBW t all);have HM:=hd_ hM
   have KM:Hid (∀W,Calls prog 181 #[iv t,iv all] W fun e w'=>e=.returned (iv M)/\W=w'):=fun W=>by rw[hM];exact yG t all W ha0 ha1
   clear hg hbl tr hX1 bK yX hSS hK hM
   by_cases hlo:t<=L
   ·have eL:decide (t<=L)=true:=decide_eq_true hlo
    have bd:=hd_ (bad.out (fun q=>by
          have g:=HQ.out.1 q
          by_cases h:k=0
          · have:=hL0.out h;have:=g.1.1.1;(try simp at this);omega
          · have:=hL1.out o_;have:=g.2.1 o_;(try simp at this);omega))
    clear HQ bad badM hs hlv hL0 hL1 hLG HM KM
    exact zBS
   have eL:decide (t<=L)=false:=decide_eq_false hlo
   by_cases hhi:128<=t
   ·have eH:decide (128<=t)=true:=decide_eq_true hhi
    have bd:=hd_ (bad.out (fun q=>by have:=(HQ.out.1 q).1.1.2;(try simp at this);omega));clear HQ bad badM hs hlv hL0 hL1 hLG HM KM
    exact zBS
   have eH:decide (128<=t)=false:=decide_eq_false hhi
   by_cases hm:m<1
   ·have eM:decide (m<1)=true:=decide_eq_true hm
    have bd:=hd_ (bad.out (fun q=>by have:=(HQ.out.1 q).1.2.1;(try simp at this);omega));clear HQ bad badM hs hlv hL0 hL1 hLG HM KM
    exact zBS
   have eM:decide (m<1)=false:=decide_eq_false hm
   by_cases hmm:M<m
   ·have eMM:decide (M<m)=true:=decide_eq_true hmm
    have bd:Hid (cL ps all=false):=by
     show _=_
     have e:=HM.out;unfold aBW at e
     by_cases h64:t<64
     ·rw[if_pos h64]at e
      exact bad.out (fun q=>by have:=(HQ.out.1 q).2.2 h64;(try simp at this);omega)
     ·rw[if_neg h64]at e
      exact badM.out (by show all<m;omega)
    clear HQ bad badM hs hlv hL0 hL1 hLG HM
    go_wp2_with fail
    rw[<-hwk];clear hwk
    go_quiet (with_reducible exact aE (KM.out _))
    exact zAn
   have eMM:decide (M<m)=false:=decide_eq_false hmm;have good:Hid (KnG ps all k):=by
    refine HQ.out.2 ?_;have hLG':=hLG.out;have e:=HM.out;unfold aBW at e;refine⟨⟨⟨?_,?_⟩,?_,?_⟩,fun h=>?_,fun h=>?_⟩
    ·show 1<=t;omega
    ·show t<=127;omega
    ·show 1<=m;omega
    ·show m<=2000
     split at e<;>omega
    ·show q'.1<t
     have:=hL1.out h;omega
    ·have h':t<64:=h
     rw[if_pos h']at e;show m<=all / 8;omega
   have mle:m<=2000:=by have:=HQ.out.1 good.out;exact this.1.2.2
   have LV:=hlv.out;simp only at LV;have HLV:=hd_ LV;clear HQ bad badM hlv hL0 hL1 hLG HM LV
   go_wp2_with fail
   rw[<-hwk];clear hwk
   go_quiet (with_reducible exact aE (KM.out _))
   go_wp2;go_roundw
   case rel=>exact⟨k+1,o_,gn_,by rw[hs.out],by rw[HLV.out],fun i hi=>by
        by_cases h:i<k
        · exact G.out i h
        · obtain rfl:i=k:=o_
          exact good.out,below_drewN HB2.out _⟩
   case measure=>simp[intOf];omega
  ·exact zAa
theorem mD (w:World) (u:Value) (ps:List Pr) (all:Int) (hp:Prs w u ps):
  Calls prog 110 #[.agg #[u,iv all]] w fun e w'=>e=.returned (.bool (cL ps all))/\Below w.heap.size w w':=by
 obtain⟨x,c,rfl,hc0,hc⟩:=hp.form;exact aFp w x _ c ps all rfl hp o_
end Go.Proofs.YtcblbdpdbggkbaaGreat.K

namespace Go.Proofs.YtcblbdpdbggkbaaGreat.K
open _root_.Go.Proofs.Tryz
open Go.RowKit Go.Sort
def iK (N:List Int):Array Value:=(bG N).toArray
theorem pS (N:List Int):(iK N).size=N.length:=by simp[iK,bG]
theorem aFA:(prog.info? 281).map (fun i=>(i.zero,i.size))=some (some (.agg (iK (List.replicate 128 0))),128):=by kernel_rfl
theorem aAP:(prog.info? 281).map (·.size)=some 128:=(zero_of_info aFA).2
theorem aKG (w:World):(zeroValue 281).run prog w=.ok (.agg (iK (List.replicate 128 0))) w:=(zero_of_info aFA).1 w
def eA (W:World) (b:Nat) (N:List Int):Prop:=N.length=128/\W.heap[b]? =some (.cells (iK N) 281 (0,0))
section
variable {W W':World} {b:Nat} {N:List Int}
theorem eA.lt (h:eA W b N):b<W.heap.size:=(Array.getElem?_eq_some_iff.1 h.2).1
theorem eA.new (W:World) (N:List Int) (hl:N.length=128):eA (W.alloc (.cells (iK N) 281)) W.heap.size N:=⟨hl,heap_alloc_new W _⟩
theorem eA.below (h:eA W b N) {B:Nat} (hb:Below B W W') (hB:b<B):eA W' b N:=⟨h.1,(hb.block b hB).trans h.2⟩
theorem eA.later (h:eA W b N) (hb:Below W.heap.size W W'):eA W' b N:=h.below hb h.lt
theorem eA.drewN (h:eA W b N) (n:Nat):eA (W.drewN n) b N:=h
theorem eA.alloc (h:eA W b N) (o:Obj):eA (W.alloc o) b N:=h.later ((Below.refl _ _).alloc lr_ o)
theorem eA.kept {row:Option Nat} (h:eA W b N) (hg:W.grownBy W' row) (hr:row≠some b):eA W' b N:=⟨h.1,(hg.block b h.lt (fun e=>hr e.symm)).trans h.2⟩
theorem eA.cell (h:eA W b N) {i:Nat} (hi:i<128):W.cell? ⟨b,i,none⟩=some (.int .i64 (N.getD i 0)):=by
 rw[cell_of_row W b i _ _ _ h.2];unfold iK;rw[List.getElem?_toArray];exact iM N i (by rw[h.1];exact hi)
theorem eA.free (h:eA W b N) (i:Nat):W.frozen? ⟨b,i,none⟩=false:=by simp[World.frozen?,h.2]
theorem eA.set (h:eA W b N) (i:Nat) (x:Int):eA (W.setCell ⟨b,i,none⟩ (iv x)) b (N.set i x):=by
 refine⟨by simpa using h.1,?_⟩;rw[heap_setCell_same W b i _ _ _ h.2];unfold iK;simp[bG,List.map_set]
theorem eA.grown (W:World) (b i:Nat) (x:Value):W.grownBy (W.setCell ⟨b,i,none⟩ x) (some b):=aA W ⟨b,i,none⟩ x
theorem eA.loadVar (h:eA W b N):(loadVar 281 ⟨b,0,none⟩).run prog W=.ok (.agg (iK N)) W:=
 run_loadVar_row W b _ _ _ _ _ h.2 underlying281 rfl (by rw[pS,h.1];exact aAP)
theorem eA.load (h:eA W b N):(Instr.loadAt 281 (.pointer (some ⟨b,0,none⟩))).run prog W=.ok (.agg (iK N)) W:=by
 simp only[Instr.loadAt,Instr.sureAddr,Sem.run_bind,Sem.run_pure,Result.andThen];exact run_loadVar_row W b _ _ _ _ _ h.2 underlying281 rfl (by rw[pS,h.1];exact aAP)
end
theorem aLa (N:List Int):(iK N).all (·.oneCell')=true:=by
 unfold iK;exact all_oneCell_toArray (fun v hv=>by
    unfold bG at hv
    obtain⟨z,_,rfl⟩:=List.mem_map.1 hv
    rfl)
section
variable {ops:Array Oper} {rest:List Oper} {o:Oper} {a:Act} {w:World} {Q:Exit->Act->World->Prop}
theorem sM (hgd:o.guard=none) (x:Operand) (ho:o.op=.box 281 x) (N:List Int) (hx:a.eval x=.agg (iK N))
  (h:wpList prog ops Q rest (a.put o.dst (.pointer (some ⟨w.heap.size,0,none⟩))) (w.alloc (.cells (iK N) 281))):wpList prog ops Q (o::rest) a w:=by
 refine wpList_plain hgd fun K hK=>?_
 unfold Oper.wp execOp;simp only[ho,hx,Instr.box,newVar,Value.cells,Sem.run_bind,Sem.run_pure];exact hK _ _ h
theorem pR (hgd:o.guard=none) (ho:o.op=.alloc 281)
  (h:wpList prog ops Q rest (a.put o.dst (.pointer (some ⟨w.heap.size,0,none⟩))) (w.alloc (.cells (iK (List.replicate 128 0)) 281))):wpList prog ops Q (o::rest) a w:=by
 refine wpList_plain hgd fun K hK=>?_
 unfold Oper.wp execOp;simp only[ho,Instr.alloc,newVar,Value.cells,Sem.run_bind,Sem.run_pure,Result.andThen_ok,aKG];exact hK _ _ h
theorem mI (hgd:o.guard=none) (x:Operand) (ho:o.op=.load 281 x) (b:Nat) (N:List Int) (hx:a.eval x=.pointer (some ⟨b,0,none⟩)) (hA:eA w b N)
  (h:wpList prog ops Q rest (a.put o.dst (.agg (iK N))) w):wpList prog ops Q (o::rest) a w:=by
 refine wpList_plain hgd fun K hK=>?_
 have hl:=hA.load;unfold Oper.wp execOp;simp only[ho,hx,Sem.run_bind,Sem.run_pure,hl,Result.andThen_ok];exact hK _ _ h
theorem wM (hgd:o.guard=none) (x y:Operand) (ho:o.op=.index 281 x y) (N:List Int) (k:Nat) (hx:a.eval x=.agg (iK N)) (hy:a.eval y=.int .i64 (k:Int)) (hl:N.length=128) (hk:k<128)
  (h:wpList prog ops Q rest (a.put o.dst (iv (N.getD k 0))) w):wpList prog ops Q (o::rest) a w:=by
 refine wpList_plain hgd fun K hK=>?_
 have hg:(iK N)[k]? =some (.int .i64 (N.getD k 0)):=by unfold iK;rw[List.getElem?_toArray];exact iM N k (by omega)
 have hr:(Instr.index 281 (.agg (iK N)) (iv (k:Int))).run prog w=.ok (iv (N.getD k 0)) w:=by
  have h1:(0:Int)<=(k:Int)/\(k:Int)<(128:Nat):=by omega
  unfold Instr.index;simp only[asIntOf,Sem.run_bind,Sem.run_pure,Result.andThen_ok,run_underlying underlying281,if_pos h1];have hz:(sizeOf 3).run prog w=.ok 1 w:=by
   cases hq:prog.info? 3 with
   |none=>have:=rL;simp[hq]at this
   |some i=>have:=rL;simp[hq]at this;simp[sizeOf,typeInfo,hq,this]
  simp[part,hz,hg]
 unfold Oper.wp execOp;simp only[ho,hx,hy,Sem.run_bind,Sem.run_pure,hr,Result.andThen_ok];exact hK _ _ h
theorem xT (hgd:o.guard=none) (x y:Operand) (ho:o.op=.store 281 x y) (b:Nat) (M N:List Int) (hx:a.eval x=.pointer (some ⟨b,0,none⟩)) (hy:a.eval y=.agg (iK N)) (hA:eA w b M) (hl:N.length=128)
  (h:wpList prog ops Q rest (a.put o.dst undef) (w.setRow b (iK N))):wpList prog ops Q (o::rest) a w:=by
 refine wpList_plain hgd fun K hK=>?_
 have hs:=run_storeVar_row (P:=prog) w b 281 281 (iK M) (iK N) hA.2 (by rw[pS,hl];exact aAP) (by rw[pS,pS,hA.1,hl]) (aLa N);unfold Oper.wp execOp;simp only[ho,hx,hy,Instr.storeAt,Instr.sureAddr,Sem.run_bind,Sem.run_pure,Result.andThen_ok,hs];exact hK _ _ h
end
theorem eA.setRow {W:World} {b:Nat} {M N:List Int} (h:eA W b M) (hl:N.length=128):eA (W.setRow b (iK N)) b N:=⟨hl,setRow_heap W b _ _ _ _ h.2⟩
theorem zO (W:World) (b:Nat) (c:Array Value):W.grownBy (W.setRow b c) (some b):=⟨rfl,rfl,rfl,by simp,fun k _ hk=>setRow_other W b k c (fun e=>hk (by rw[e]))⟩
theorem aFD (w:World) (N:List Int) (hl:N.length=128) (h0:N.getD 0 0=0):
  Calls prog 253 #[.agg (iK N)] w fun e w'=>∃v,e=.returned v/\aF w' w.heap.size v (kV N)/\Below w.heap.size w w':=by
 obtain⟨i0,hi,hz0,hz1,hz2⟩:=info_parts dY;have HA:=hd_ (eA.new w N hl);obtain⟨W,hW⟩:=nm_ (w.alloc (.cells (iK N) 281));have hB:Below w.heap.size w W:=by rw[hW];exact (Below.refl _ _).alloc lr_ _
 have HB0:=hd_ hB;rw[<-hW]at HA;clear hB;go_enter func253,ntmps253;go_upto_region 0 with fail
 go_step
 refine sM rfl _ rfl N rfl ?_;rw[<-hW];clear hW
 go_wp2_with (refine mI rfl _ rfl _ N rfl HA.out ?_)
 go_loopw [3,7] (fun o i wr=>∃(k no:Nat) (x:Option Addr) (co:Nat),k<=128/\i=.int .i64 ((k:Nat):Int)/\o=.slice x no co/\no=(iG N (k - 1)).length/\aF wr W.heap.size (.slice x no co) (iG N (k - 1))/\Below W.heap.size W wr) (fun _ i _=>128 - (intOf i).toNat)
 case atStart=>exact⟨0,0,none,0,Nat.zero_le _,rfl,rfl,rfl,aF.nil _ _,Below.refl _ _⟩
 case round=>
  obtain⟨k,no,x,co,hk,rfl,rfl,hno,hown,hbl⟩:=hrel
  by_cases hlt:k<128
  ·have k0:(0:Int)<=(k:Int):=o_
   have kn:(k:Int)<128:=o_;have ho:wr.ownsRow W.heap.size 152 2 (.slice x no co) no (prs (iG N (k - 1))):=by have h:=hown;unfold aF at h;rw[<-hno]at h;exact h
   have HO:=hd_ ho;have HN:=hd_ hno;have HB:=hd_ hbl;have HL:=hd_ hl;have szr:=hbl.size;have nb:no<=127:=by have:=aB7 N (k - 1);omega
   have hs:Hid (iG N (k+1 - 1)=iG N (k - 1)++if 0<N.getD k 0 then [((k:Int),N.getD k 0)]else []):=by
    show _=_
    by_cases hk0:k=0
    ·subst hk0;rw[h0];simp[iG]
    ·obtain⟨j,rfl⟩:∃j,k=j+1:=⟨k - 1,o_⟩
     rfl
   have step:∀V,V=N.getD k 0->Hid (V=N.getD k 0):=fun V h=>h
   clear h0 hown hno hbl hl ho;go_upto_region 4 with fail
   go_step
   go_step
   go_step
   go_step
   refine wM rfl _ _ rfl N k rfl rfl HL.out hlt ?_;generalize iG N (k - 1)=os at *;generalize N.getD k 0=V at *
   by_cases hp:0<V
   ·have e:=hd_ (hs.out.trans (by rw[if_pos hp]))
    go_wp2_with (first|(at_builtin;refine wpList_append_own _ rfl _ _ 42 rfl W.heap.size 152 i0 (.agg #[iv 0,iv 0]) 2 16 underlying42 hi hz0 hz1 hz2 rfl dc_ _ _ _ rfl (HO.out.alloc _) ⟨wr.heap.size,0,none⟩ 1 1 [iv k,iv V] rfl rfl (dI _ _ _ _) (by simp[Value.oneCell']) (by unfold maxLen;omega) o_ (by simp;omega) ?_;intro v1 w3 ho1 hg1 _;obtain⟨g_v1,c_v1,rfl,_,_⟩:=World.ownsRow.form ho1 (Nat.succ_pos _)))
    go_roundw
    case rel=>exact⟨k+1,no+1,_,_,o_,gn_,rfl,by rw[e.out];simp[HN.out],by rw[e.out];exact fM ho1 HN.out,bU HB.out szr HO.out hg1⟩
    case measure=>simp[intOf];omega
   ·have e:=hd_ (hs.out.trans (by rw[if_neg hp,List.append_nil]))
    have OW:Hid (aF wr W.heap.size (.slice x no co) os):=by show aF _ _ _ _;unfold aF;rw[<-HN.out];exact HO.out
    go_wp2;go_roundw
    case rel=>exact⟨k+1,no,_,_,o_,gn_,rfl,by rw[e.out];exact HN.out,by rw[e.out];exact OW.out,HB.out⟩
    case measure=>simp[intOf];omega
  ·obtain rfl:k=128:=o_
   have HO:=hd_ hown;have HB:=hd_ (HB0.out.trans (hbl.mono HB0.out.size));have HS:=hd_ HB0.out.size;clear h0 hno hbl hl HA hlt hk hown;go_wp2;go_ret;exact⟨_,rfl,HO.out.base HS.out,HB.out⟩
def Que (w:World) (B:Nat) (x:Option Addr) (c:Nat) (zs:List Int):Prop:=
 ∃g o,x=some ⟨g,o,none⟩/\B<=g/\g<w.heap.size/\zs.length<=c/\c<=maxLen/\
  (∀i,i<zs.length->w.cell? ⟨g,o+i,none⟩=some (.int .i64 (zs.getD i 0)))/\
  ∀i,i<c->(w.cell? ⟨g,o+i,none⟩).isSome=true/\w.frozen? ⟨g,o+i,none⟩=false
section
variable {w w':World} {B c:Nat} {x:Option Addr} {zs:List Int}
theorem Que.of_own {n:Nat} (h:w.ownsRow B 3 1 (.slice x n c) n (bG zs)) (hn:n=zs.length) (h0:0<n):Que w B x c zs:=by
 rcases h.2 with ⟨_,h00⟩|⟨g,cap,cur,e,hb,hg,hnc,hcm,hcs,ht⟩
 ·omega
 ·obtain⟨rfl,_,rfl⟩:=Value.slice.inj e
  refine⟨g,0,rfl,hb,(Array.getElem?_eq_some_iff.1 hg).1,o_,hcm,fun i hi=>?_,fun i hi=>⟨?_,by simp[World.frozen?,hg]⟩⟩
  ·rw[Nat.zero_add]
   exact (World.ownsRow.cellAt h i o_).trans (iM _ _ hi)
  ·rw[cell_of_row w g (0+i) cur _ _ hg,Array.getElem?_eq_getElem o_]
   rfl
theorem Que.keep (h:Que w B x c zs) (hb:∀g,B<=g->g<w.heap.size->w'.heap[g]? =w.heap[g]?) (hs:w.heap.size<=w'.heap.size):Que w' B x c zs:=by
 obtain⟨g,o,rfl,h1,h2,h3,h4,h5,h6⟩:=h;have e:=hb g h1 h2;refine⟨g,o,rfl,h1,Nat.lt_of_lt_of_le h2 hs,h3,h4,fun i hi=>?_,fun i hi=>?_⟩
 ·rw[World.cell?_of_block (a:=⟨g,o+i,none⟩) e];exact h5 i hi
 ·rw[World.cell?_of_block (a:=⟨g,o+i,none⟩) e,World.frozen?_of_block (a:=⟨g,o+i,none⟩) e];exact h6 i hi
theorem Que.alloc (h:Que w B x c zs) (o:Obj):Que (w.alloc o) B x c zs:=h.keep (fun g _ hg=>heap_alloc_old w o hg) (by simp)
theorem Que.drewN (h:Que w B x c zs) (n:Nat):Que (w.drewN n) B x c zs:=h
theorem Que.set (h:Que w B x c zs) (b i:Nat) (v:Value) (hb:b<B):Que (w.setCell ⟨b,i,none⟩ v) B x c zs:=h.keep (fun g hg _=>heap_setCell_other w ⟨b,i,none⟩ g v (by show g≠b;omega)) (by simp)
theorem Que.at (h:Que w B x c zs):∃g o,x=some ⟨g,o,none⟩/\B<=g/\g<w.heap.size/\zs.length<=c/\c<=maxLen/\∀i,i<zs.length->w.cell? ⟨g,o+i,none⟩=some (.int .i64 (zs.getD i 0)):=by
 obtain⟨g,o,rfl,h1,h2,h3,h4,h5,h6⟩:=h;exact⟨g,o,rfl,h1,h2,h3,h4,h5⟩
theorem Que.drop2 {g o:Nat} {a b:Int} (h:Que w B (some ⟨g,o,none⟩) c (a::b::zs)):Que w B (some (if c=2 then⟨g,o,none⟩else⟨g,o+2,none⟩)) (c - 2) zs:=by
 obtain⟨g',o',e,h1,h2,h3,h4,h5,h6⟩:=h;cases e;simp only[List.length_cons]at h3 h5
 by_cases hc:c=2
 ·rw[if_pos hc]
  have hz:zs.length=0:=o_;exact⟨g,o,rfl,h1,h2,o_,o_,fun i hi=>by omega,fun i hi=>by omega⟩
 ·rw[if_neg hc]
  refine⟨g,o+2,rfl,h1,h2,o_,o_,fun i hi=>?_,fun i hi=>?_⟩
  ·have:=h5 (i+2) o_
   rw[show o+2+i=o+(i+2) by omega]
   first|(simp;done)|simpa using this
  ·rw[show o+2+i=o+(i+2) by omega]
   exact h6 (i+2) o_
end
section
variable {ops:Array Oper} {rest:List Oper} {o:Oper} {a:Act} {w:World} {Q:Exit->Act->World->Prop}
theorem iI (hgd:o.guard=none) (s x:Operand) (ho:o.op=.call { callee:=.builtin .append,args:=#[s,x],argTypes:=#[ 23,23 ] })
  (B n c:Nat) (y:Option Addr) (zs:List Int) (hs:a.eval s=.slice y n c) (hq:Que w B y c zs) (hn:n=zs.length) (z:Int) (ad:Addr) (hx:a.eval x=.slice (some ad) 1 1) (hc:∀j u,[Value.int .i64 z][j]? =some u->w.cell? (ad.add j)=some u)
  (hB:B<=w.heap.size) (hsm:n<=1000)
  (h:∀y' c' w' row,Que w' B y' c' (zs++[z])->w.grownBy w' row->(∀k,row=some k->B<=k)->wpList prog ops Q rest (a.put o.dst (.slice y' (n+1) c')) w'):
  wpList prog ops Q (o::rest) a w:=by
 obtain⟨i0,hi,hz0,hz1,hz2⟩:=info_parts rL;have hq':=hq;obtain⟨g,off,rfl,h1,h2,h3,h4,h5,h6⟩:=hq;have getl:∀i,i<zs.length+1->(zs++[z]).getD i 0=if i<zs.length then zs.getD i 0 else z:=fun i hi=>by
  by_cases e:i<zs.length
  ·rw[if_pos e];simp[List.getD_eq_getElem?_getD,List.getElem?_append_left e]
  ·rw[if_neg e]
   obtain rfl:i=zs.length:=o_;simp
 refine wpList_append_arg w hgd s x 23 ho 3 i0 (iv 0) 1 8 underlying23 hi hz0 hz1 hz2 rfl dc_ g off n c (bG zs) hs (by rw[nS,hn];omega) (fun j u hj=>?_) ad 1 1 [iv z] hx rfl hc (by simp[Value.oneCell']) (fun hr j hj=>?_) (by unfold maxLen;omega) o_ (fun hr=>?_) (fun hg v' w' ho' hgr=>?_)
 ·have hj':j<zs.length:=by have:=(List.getElem?_eq_some_iff.1 hj).1;rwa[nS]at this
  rw[h5 j hj', <-iM zs j hj',hj]
 ·obtain rfl:j=0:=by simpa using hj
  exact h6 (n * 1) o_
 ·have e1:off+n * 1=off+n:=o_
  have hcell:=h6 n o_;have eq:w.setCells g (off+n * 1) [iv z]=w.setCell ⟨g,off+n,none⟩ (iv z):=by rw[e1];rfl
  rw[eq];refine h _ _ _ (some g) ⟨g,off,rfl,h1,by simpa using h2,by simp;omega,h4,fun i hi=>?_,fun i hi=>?_⟩ (aA w ⟨g,off+n,none⟩ _) (fun k e=>by cases e;exact h1)
  ·simp only[List.length_append,List.length_cons,List.length_nil]at hi
   rw[getl i o_]
   by_cases e:i<zs.length
   ·rw[if_pos e,World.cell?_setCell_other _ _ _ _ (fun q=>by have:=congrArg Addr.off q;simp at this;omega)];exact h5 i e
   ·rw[if_neg e,show i=n by omega]
    exact World.cell?_setCell_same' _ _ _ hcell.1
  ·rw[World.frozen?_setCell]
   refine⟨?_,(h6 i hi).2⟩
   by_cases e:i=n
   ·subst e;rw[World.cell?_setCell_same' _ _ _ hcell.1];rfl
   ·rw[World.cell?_setCell_other _ _ _ _ (fun q=>by have:=congrArg Addr.off q;simp at this;omega)];exact (h6 i hi).1
 ·have f:=ho'
  rw[show bG zs++[Value.int .i64 z]=bG (zs++[z]) by simp[bG]]at f;rcases f.2 with ⟨_,h00⟩|⟨g',cap,cur,rfl,hb,hg',_⟩
  ·omega
  ·have q:=Que.of_own (aM f hB) (by simp[hn]) (Nat.succ_pos _)
   exact h _ _ _ none q hgr (fun k e=>by cases e)
end
theorem eA.keep {w w':World} {b B:Nat} {N:List Int} {row:Option Nat} (h:eA w b N) (hg:w.grownBy w' row) (hr:∀k,row=some k->B<=k) (hb:b<B):eA w' b N:=h.kept hg (fun e=>by have:=hr b e;omega)
theorem qJ {w0 w w':World} {B C:Nat} {row:Option Nat} (h:Below C w0 w) (hg:w.grownBy w' row) (hr:∀k,row=some k->B<=k) (hC:C<=B) (hw:C<=w.heap.size):Below C w0 w':=
 h.trans ⟨hg.os,hg.tape,hg.output,hg.size,fun k hk=>hg.block k o_ (fun e=>by have:=hr k e.symm;omega)⟩
def sA (p:Int):Nat->List Int
 | 0=>[]
 |n+1=>p::sA (p - 1) n
theorem pG (p:Int) (n:Nat):(sA p n).length=n:=by
 induction n generalizing p with
 |zero=>rfl
 |succ n ih=>simp[sA,ih]
theorem aCa (p:Int) (n:Nat):sA p n++[p - n]=sA p (n+1):=by
 induction n generalizing p with
 |zero=>simp[sA]
 |succ n ih=>
  have:=ih (p - 1);rw[show p - 1 - (n:Int)=p - ((n+1:Nat):Int) by omega]at this;rw[sA,List.cons_append,this]
  rfl
def aJ2:Value->Nat
 | .slice _ n _=>n
 |_=>0
theorem aJX (p:Int) (n:Nat):sA p (n+2)=p::(p - 1)::sA (p - 1 - 1) n:=rfl
theorem yH {P:Program} {f:FuncId} {args:Array Value} {w:World} {m n:Nat} {v:Value}
  (h:∀W,Calls P f args W fun e w'=>e=.returned v/\W=w'):Calls P f args (w.drewN (m+n)) fun e w''=>e=.returned v/\∃k,w''=w.drewN (m+k):=
 (h _).mono fun _ _ ⟨he,hm⟩=>⟨he,n,hm.symm⟩
theorem aFn (w:World) (N:List Int) (all:Int) (hl:N.length=128) (hb:BdN N 600000) (a0:0<=all) (a1:all<=2000):
  Calls prog 254 #[.agg (iK N),iv all] w fun e w'=>e=.returned (.agg (iK (sqz N (all / 8) 63)))/\Below w.heap.size w w':=by
 obtain⟨i0,hi,hz0,hz1,hz2⟩:=info_parts rL;obtain⟨D,hDD⟩:=nm_ (all / 8);have hD0:0<=D:=o_;have hD1:D<=250:=o_;rw[<-hDD];have HDD:=hd_ hDD;obtain⟨Z0,hZ0⟩:=nm_ (List.replicate 128 (0:Int));have hz128:Z0.length=128:=by rw[hZ0];simp
 obtain⟨W,hW⟩:=nm_ ((w.alloc (.cells (iK N) 281)).alloc (.cells (iK Z0) 281));have hA:Below w.heap.size w W:=by rw[hW];exact ((Below.refl _ _).alloc lr_ _).alloc (by simp) _
 have sW:W.heap.size=w.heap.size+2:=by rw[hW];simp
 have R0:eA W w.heap.size N:=by rw[hW];exact (eA.new w N hl).alloc _
 have R1:eA W (w.heap.size+1) Z0:=by rw[hW];have:=eA.new (w.alloc (.cells (iK N) 281)) Z0 hz128;rwa[World.size_alloc]at this
 have HA:=hd_ hA;have HS:=hd_ sW;have HR0:=hd_ R0;have HR1:=hd_ R1;have HB:=hd_ hb;have HL:=hd_ hl;have HZ:=hd_ hZ0;clear hA sW R0 R1 hb hl hDD hz128 hZ0;go_enter func254,ntmps254;go_upto_region 0 with fail
 go_step
 refine sM rfl _ rfl N rfl ?_;refine pR rfl rfl ?_;rw[<-HZ.out];rw[<-hW];clear hW;rw[World.size_alloc]
 go_wp2_with fail
 go_loopw [5,6] (fun q i wr=>∃(j:Nat) (I:Int) (x:Option Addr) (c:Nat),j<=64/\I=127 - (j:Int)/\i=.int .i64 I/\q=.slice x j c/\wr.ownsRow W.heap.size 3 1 (.slice x j c) j (bG (sA 127 j))/\Below W.heap.size W wr) (fun _ i _=>(intOf i).toNat)
 case atStart=>exact⟨0,127,none,0,o_,rfl,rfl,rfl,World.ownsRow_nil _ _ _ 1,Below.refl _ _⟩
 case round=>
  obtain⟨j,I,x,c,hj,hI,rfl,rfl,ho,hbl⟩:=hrel;have HO:=hd_ ho;have HBL:=hd_ hbl;have szr:=hbl.size;have hdn:=hd_ (aCa 127 j)
  by_cases hlt:j<64
  ·have I0:64<=I:=o_
   have I1:I<=127:=o_;have e:Hid (bG (sA 127 j)++[Value.int .i64 I]=bG (sA 127 (j+1))):=by
    show _=_
    rw[<-hdn.out,hI];simp[bG]
   have HI:=hd_ hI;clear ho hbl hI
   go_wp2_with (first|(at_builtin;refine wpList_append_own _ rfl _ _ 23 rfl W.heap.size 3 i0 (iv 0) 1 8 underlying23 hi hz0 hz1 hz2 rfl dc_ _ _ _ rfl (HO.out.alloc _) ⟨wr.heap.size,0,none⟩ 1 1 [iv I] rfl rfl (cell_one_new _ _ _) (by simp[Value.oneCell']) (by unfold maxLen;omega) o_ (by simp;omega) ?_;intro v1 w3 ho1 hg1 _;obtain⟨g_v1,c_v1,rfl,_,_⟩:=World.ownsRow.form ho1 (Nat.succ_pos _)))
   go_roundw
   case rel=>exact⟨j+1,I - 1,_,_,o_,by have:=HI.out;omega,rfl,rfl,by rw[<-e.out];exact ho1,bU HBL.out szr HO.out hg1⟩
   case measure=>simp[intOf];omega
  ·obtain rfl:j=64:=o_
   obtain rfl:I=63:=o_;have HQ0:=hd_ (Que.of_own ho (by rw[pG]) o_);have HX0:=hd_ (HR0.out.below hbl HR0.out.lt);have HX1:=hd_ (HR1.out.below hbl HR1.out.lt);have HB0:=hd_ (HA.out.trans (hbl.mono HA.out.size));clear ho hbl hI HO HBL hlt hj hdn
   go_wp2_with fail
   go_loopw [5] (fun q wx=>∃(J n:Nat) (y:Option Addr) (c:Nat),J<=63/\n=J+1/\q=.slice y n c/\Que wx W.heap.size y c (sA (2 * (J:Int)+1) (J+1))/\eA wx w.heap.size (sqz N D (63 - J))/\eA wx (w.heap.size+1) Z0/\Below w.heap.size w wx/\W.heap.size<=wx.heap.size) (fun q _=>aJ2 q)
   case atStart=>exact⟨63,64,_,_,Nat.le_refl _,rfl,rfl,HQ0.out,HX0.out,HX1.out,HB0.out,szr⟩
   case round=>
    clear HQ0 HX0 HX1 HB0 HA HR0 HR1 szr;obtain⟨J,n,y,c,hJ,hn,rfl,hq,hx0,hx1,hbl,szr⟩:=hrel;have HQ:=hd_ hq;have HX1:=hd_ hx1;have HBL:=hd_ hbl
    by_cases h1:1<=J
    ·obtain⟨m,hm⟩:=nm_ (J - 1)
     obtain⟨g,o,rfl,hg0,hg1,hc0,hc1,hcells⟩:=hq.at;rw[pG]at hc0 hcells;have q0:=hcells 0 o_;have q1:=hcells 1 o_;rw[show J+1=m+2 by omega,aJX]at q0 q1 HQ;simp only[Nat.add_zero,List.getD_cons_zero,List.getD_cons_succ]at q0 q1;obtain⟨I,hI⟩:∃I:Nat,I=2 * J:=⟨_,rfl⟩
     obtain⟨I1,hI1⟩:∃I1:Nat,I1=2 * J+1:=⟨_,rfl⟩
     have eI1:2 * (J:Int)+1=(I1:Int):=o_;have eI:(I1:Int) - 1=(I:Int):=o_;rw[eI1,eI]at q1 HQ;rw[eI1]at q0;have bd:=aKO HB.out (show D<=600000 by omega) o_ (63 - J);have hs:=hd_ (show sqz N D (63 - (J - 1))=sq1 (sqz N D (63 - J)) D J by rw[show 63 - (J - 1)=(63 - J)+1 by omega,sqz,show 63 - (63 - J)=J by omega]);have lZ:(sqz N D (63 - J)).length=128:=by rw[aCW];exact HL.out
     have hany:=aLR (D:=D) (fun i=>(bd i).1) lZ J h1 hJ;generalize sqz N D (63 - J)=Z at *;have cI:=hx0.cell (i:=I) o_;have cI1:=hx0.cell (i:=I1) o_;have cJ:=hx0.cell (i:=J) o_;have fI:=hx0.free I;have fI1:=hx0.free I1;have fJ:=hx0.free J;have bI:=bd I;have bI1:=bd I1;have bJ:=bd J;rw[<-hI1, <-hI]at hany;obtain⟨V0,hV0⟩:=nm_ (Z.getD I 0);obtain⟨V1,hV1⟩:=nm_ (Z.getD I1 0)
     obtain⟨VJ,hVJ⟩:=nm_ (Z.getD J 0);rw[<-hV0, <-hV1, <-hVJ]at hany;rw[<-hV0]at cI bI;rw[<-hV1]at cI1 bI1;rw[<-hVJ]at cJ bJ;have HANY:=hd_ hany;have HR:=hd_ hx0;have w1:IntKind.i64.wrap (V0+V1)=V0+V1:=IntWalk.i64_in _ o_;have w2:IntKind.i64.wrap (VJ+(V0+V1))=VJ+(V0+V1):=IntWalk.i64_in _ o_;have j0:(J:Int)<64:=o_;have j128:(J:Int)<128:=o_;have jj:(0:Int)<=(J:Int):=o_;have i0':(I:Int)<128:=o_
     have i1':(I1:Int)<128:=o_;have n2:(1:Int)<(n:Int):=o_;have hsh:(I1:Int) / 2=(J:Int):=o_;have KM:Hid (∀W,Calls prog 181 #[iv J,iv all] W fun e w'=>e=.returned (iv D)/\W=w'):=fun W=>by
      have h:=yG J all W a0 a1;unfold aBW at h;rw[if_pos o_, <-HDD.out]at h;exact h
     have HI:=hd_ hI;have HI1:=hd_ hI1;have HM:=hd_ hm;have HN:=hd_ hn;clear hn hm hcells hV0 hV1 hVJ hany hx0 hx1 hbl hq eI eI1 hI hI1 bd lZ;have hge:(1:Int)<=(J:Int):=o_;have HB2:Hid (w.heap.size<W.heap.size/\w.heap.size+1<W.heap.size):=by show _/\_;have:=HS.out;omega
     have nc:n<=c:=by have:=HN.out;omega
     have n22:(2:Int)<=(n:Int):=o_;have LST:Hid (sA ((I:Int) - 1) m++[(J:Int)]=sA (2 * ((J - 1:Nat):Int)+1) (J - 1+1)):=by
      show _=_
      have h:=aCa ((I:Int) - 1) m;have e1:=HI.out;have e2:=HM.out;rw[show (I:Int) - 1 - (m:Int)=(J:Int) by omega]at h;rw[h,show 2 * ((J - 1:Nat):Int)+1=(I:Int) - 1 by omega,show J - 1+1=m+1 by omega]
     by_cases c2:VJ+(V0+V1)<=D
     ·have e:=hd_ (HANY.out.symm.trans (if_pos c2))
      have dc:decide (VJ+(V0+V1)<=D)=true:=decide_eq_true c2;have ne1:I≠J:=by have:=HI.out;omega
      have ne2:I1≠J:=by have:=HI1.out;omega
      have ne3:I1≠I:=by have:=HI1.out;have:=HI.out;omega
      obtain⟨F,hF⟩:∃F:Nat->World,F=fun q=>(((wr.drewN q).setCell ⟨w.heap.size,J,none⟩ (iv (VJ+(V0+V1)))).setCell ⟨w.heap.size,I,none⟩ (iv 0)).setCell ⟨w.heap.size,I1,none⟩ (iv 0):=⟨_,rfl⟩
      have FA:Hid (∀q,eA (F q) w.heap.size (((Z.set J (VJ+(V0+V1))).set I 0).set I1 0)):=fun q=>by rw[hF];exact (((HR.out.drewN q).set J _).set I 0).set I1 0
      have FX:Hid (∀q,eA (F q) (w.heap.size+1) Z0):=fun q=>by rw[hF];exact (((HX1.out.drewN q).kept (eA.grown _ _ _ _) (by simp)).kept (eA.grown _ _ _ _) (by simp)).kept (eA.grown _ _ _ _) (by simp)
      have FB:Hid (∀q,Below w.heap.size w (F q)):=fun q=>by rw[hF];exact (((below_drewN HBL.out q).setCell lr_ _).setCell lr_ _).setCell lr_ _
      have FS:Hid (∀q,(F q).heap.size=wr.heap.size):=fun q=>by rw[hF];simp
      have FQ:Hid (∀q,Que (F q) W.heap.size (some ⟨g,o,none⟩) c (↑I1:: ↑I::sA (↑I - 1) m)):=fun q=>by rw[hF];exact (((HQ.out.drewN q).set _ _ _ HB2.out.1).set _ _ _ HB2.out.1).set _ _ _ HB2.out.1
      have GOF:Hid (∀q,(((wr.drewN q).setCell ⟨w.heap.size,J,none⟩ (iv (VJ+(V0+V1)))).setCell ⟨w.heap.size,I,none⟩ (iv 0)).setCell ⟨w.heap.size,I1,none⟩ (iv 0)=F q):=fun q=>by rw[hF]
      exact zi
     ·have e:=hd_ (HANY.out.symm.trans (if_neg c2))
      have dc:decide (VJ+(V0+V1)<=D)=false:=decide_eq_false c2;obtain⟨F,hF⟩:∃F:Nat->World,F=fun q=>wr.drewN q:=⟨_,rfl⟩
      have FA:Hid (∀q,eA (F q) w.heap.size Z):=fun q=>by rw[hF];exact HR.out.drewN q
      have FX:Hid (∀q,eA (F q) (w.heap.size+1) Z0):=fun q=>by rw[hF];exact HX1.out.drewN q
      have FB:Hid (∀q,Below w.heap.size w (F q)):=fun q=>by rw[hF];exact below_drewN HBL.out q
      have FS:Hid (∀q,(F q).heap.size=wr.heap.size):=fun q=>by rw[hF];simp
      have FQ:Hid (∀q,Que (F q) W.heap.size (some ⟨g,o,none⟩) c (↑I1:: ↑I::sA (↑I - 1) m)):=fun q=>by rw[hF];exact HQ.out.drewN q
      have GOF:Hid (∀a b c,((wr.drewN a).drewN b).drewN c=F (a+b+c)):=fun a b c=>by rw[hF,World.drewN_drewN,World.drewN_drewN];show wr.drewN _=wr.drewN _;rw[Nat.add_assoc]
      exact zi
    ·obtain rfl:J=0:=o_
     obtain rfl:n=1:=o_;obtain⟨y',c',hy⟩:∃y' c',y=y'/\c=c':=⟨_,_,rfl,rfl⟩
     have HA0:=hd_ hx0;have z63:Hid (sqz N D (63 - 0)=sqz N D 63):=hd_ rfl;have lQ:Hid ((sqz N D 63).length=128):=by show _=_;rw[aCW];exact HL.out
     rw[z63.out]at HA0;obtain⟨S,hS⟩:=nm_ (sqz N D 63);rw[<-hS]at HA0 lQ;have HSS:=hd_ hS;have HA1:=hd_ (HX1.out.setRow lQ.out);have hld:=HA1.out.loadVar;have FIN:=hd_ (HBL.out.trans (oJ (zO wr (w.heap.size+1) (iK S)) (show w.heap.size<=w.heap.size+1 by omega) HBL.out.size));clear hq hx0 hx1 hbl hy hJ h1 hn hS
     go_wp2_with (first|(refine mI rfl _ rfl _ S rfl HA0.out ?_)|(refine xT rfl _ _ rfl _ Z0 S rfl rfl HX1.out lQ.out ?_))
     exact bodyPost_ret (v:=.agg (iK S)) (by simp[results,results254,asAddr,hld]) rfl ⟨by rw[HSS.out],FIN.out⟩
theorem iQ {w:World} {B:Nat} {e:TypeId} {size n:Nat} {v:Value} {xs:List Value} (h:w.ownsRow B e size v n xs):∃x c,v=.slice x n c:=by
 exact zAy
theorem kO (ps:List Pr):∀u ∈ prs ps,u.oneCell'=true:=by
 induction ps with
 |nil=>intro u hu;cases hu
 |cons p ps ih=>
  exact zBY
theorem Prs.news {w:World} {b o n c:Nat} {ps:List Pr} (h:Prs w (.slice (some ⟨b,o,none⟩) n c) ps):∀j u,(prs ps)[j]? =some u->w.cell? ((⟨b,o,none⟩:Addr).add j)=some u:=fun j u hu=>by
 exact zAC
theorem tR (n:Nat) (w:World) (hn:n<=300):Calls prog 291 #[zn,iv n] w fun e w'=>∃v,e=.returned v/\aF w' w.heap.size v []/\Below w.heap.size w w':=by
 obtain⟨i0,hi,hz0,hz1,hz2⟩:=info_parts dY
 by_cases h0:n=0
 ·subst h0
  go_enter func291,ntmps291;go_wp2;go_ret;exact⟨_,rfl,aF.nil _ _,Below.refl _ _⟩
 ·have h1:¬((n:Int)<0):=o_
  have h4:(0:Int)<(n:Int):=o_;have hrz:∀ty,(Builtin.append_ #[42,3 ] ty #[zn,iv (n:Int)]).run prog w=
    .ok (.slice (some ⟨w.heap.size,0,none⟩) n (grownCap w n 0 152)) (w.drew.alloc (.cells ((([]:List Value).toArray++Builtin.zeroCells (Value.agg #[iv 0,iv 0]).cells n)++Builtin.zeroCells (Value.agg #[iv 0,iv 0]).cells (grownCap w n 0 152 - n)) 152)):=fun ty=>by
   have h:=Lib.run_append_grow_zeros w 42 3 ty 152 i0 _ .i64 .i64 underlying42 underlying3 hi hz0 none 0 0 [] (run_firstCells_none w.drew i0.size 0 0 0) n o_ (by rw[hz1];omega) o_ o_ (by rw[hz2];omega)
    (by rw[Nat.zero_add];exact growslice_fits o_ (by rw[hz2];omega))
   rw[Nat.zero_add]at h;exact h
  have hGn:n<=grownCap w n 0 152:=grownCap_ge w _ _ _;have hG63:=grownCap_le_maxLen w n 0 152 (by unfold maxLen;omega);have hsz:∀G,n<=G->((([]:List Value).toArray++Builtin.zeroCells (Value.agg #[iv 0,iv 0]).cells n)++Builtin.zeroCells (Value.agg #[iv 0,iv 0]).cells (G - n)).size=G * 2:=fun G hG=>by
   simp only[Array.size_append,size_zeroCells,Value.cells];simp;omega
  obtain⟨G,hG⟩:=nm_ (grownCap w n 0 152);rw[<-hG]at hrz hGn hG63;obtain⟨CS,hCS⟩:=nm_ ((([]:List Value).toArray++Builtin.zeroCells (Value.agg #[iv 0,iv 0]).cells n)++Builtin.zeroCells (Value.agg #[iv 0,iv 0]).cells (G - n));have hs:=hsz G hGn;rw[<-hCS]at hrz hs
  have FIN:Hid (aF (w.drew.alloc (.cells CS 152)) w.heap.size (.slice (some ⟨w.heap.size,0,none⟩) 0 G) []/\Below w.heap.size w (w.drew.alloc (.cells CS 152))):=
   ⟨World.ownsRow_made w.drew CS G lr_ hG63 hs,(Below.drew (Below.refl _ _)).alloc lr_ _⟩
  have hGi:(n:Int)<=(G:Int):=o_;have hG0:(0:Int)<=(G:Int):=o_;have hG64:(G:Int)<=9223372036854775807:=by unfold maxLen at hG63;omega
  clear hG hCS hsz hs;go_enter func291,ntmps291
  exact zBx
theorem xR (w:World) (g na nb ca cb:Nat) (x y:Option Addr) (ps qs:List Pr) (ha:ps.length=na) (hb:qs.length=nb) (la:na<=127) (lb:nb<=127) (hp:Prs w (.slice x na ca) ps) (hq:Prs w (.slice y nb cb) qs)
  (c0:w.cell? ⟨g,0,none⟩=some (.slice x na ca)) (c1:w.cell? ⟨g,1,none⟩=some (.slice y nb cb)):
  Calls prog 252 #[.slice (some ⟨g,0,none⟩) 2 2] w fun e w'=>∃v,e=.returned v/\aF w' w.heap.size v (ps++qs)/\Below w.heap.size w w':=by
 obtain⟨i0,hi,hz0,hz1,hz2⟩:=info_parts dY;have HA:=hd_ ha;have HB:=hd_ hb;have HP:=hd_ hp;have HQ:=hd_ hq;have C0:=hd_ c0;have C1:=hd_ c1;have n0:¬(na:Int)<0:=o_;have n1:¬(na:Int)+(nb:Int)<0:=o_;have KG:Hid (Calls prog 291 #[zn,iv ((na:Int)+(nb:Int))] w fun e w'=>∃v,e=.returned v/\aF w' w.heap.size v []/\Below w.heap.size w w'):=by
  have h:=tR (na+nb) w o_;rw[Int.natCast_add]at h;exact h
 have NP:Hid (x=none->ps=[]/\na=0/\ca=0):=fun e=>by
  exact zBX
 have NQ:Hid (y=none->qs=[]/\nb=0/\cb=0):=fun e=>by
  exact zBW
 have SX:Hid (∀a,x=some a->∃b o,a=⟨b,o,none⟩):=fun a e=>by
  rcases HP.out with ⟨e',_⟩|⟨b,o,c,e',_⟩
  ·rw[e]at e';cases e'
  ·exact zA0
 have SY:Hid (∀a,y=some a->∃b o,a=⟨b,o,none⟩):=fun a e=>by
  rcases HQ.out with ⟨e',_⟩|⟨b,o,c,e',_⟩
  ·rw[e]at e';cases e'
  ·exact zA0
 clear ha hb hp hq;go_enter func252,ntmps252;go_wp2;refine wp_loop_rounds 3 ?_;rw[rounds_succ];go_wp2;rw[rounds_succ];go_wp2;rw[rounds_succ]
 go_wp2_with fail
 refine KG.out.mono ?_;rintro e w1 ⟨v,rfl,ho1,hb1⟩;obtain⟨z,cz,rfl,_,_⟩:=ho1.form;have d0:=cell_later hb1 C0.out;have d1:=cell_later hb1 C1.out;have P1:=hd_ (HP.out.below hb1 lr_);have Q1:=hd_ (HQ.out.below hb1 lr_);have O1:Hid (w1.ownsRow w.heap.size 152 2 (.slice z 0 cz) 0 []):=ho1;have B1:=hd_ hb1;have s1:=hb1.size;have D1:=hd_ d1;have gl:g<w.heap.size:=World.block_lt_of_cell? _ _ C1.out
 clear ho1 hb1 c0 c1 KG;simp only[List.length_nil];go_wp2;refine wp_loop_rounds 3 ?_;rw[rounds_succ]
 -- the first
 rcases hx:x with _|⟨bx,ox,sx⟩
 ·subst hx
  obtain⟨rfl,rfl,rfl⟩:=NP.out rfl;rcases hy:y with _|⟨by',oy,sy⟩
  ·subst hy
   obtain⟨rfl,rfl,rfl⟩:=NQ.out rfl
   go_wp2_with (first|(at_builtin;refine wpList_append_own_none rfl _ _ 42 rfl w.heap.size 152 i0 2 underlying42 hi (.slice z 0 cz) 0 [] rfl O1.out rfl ?_;have tok1:True:=trivial))
   rw[rounds_succ]
   go_wp2_with (first|(at_builtin;refine wpList_append_own_none rfl _ _ 42 rfl w.heap.size 152 i0 2 underlying42 hi (.slice z 0 cz) 0 [] rfl O1.out rfl ?_;have tok2:True:=trivial))
   rw[rounds_succ];go_wp2;go_ret;exact⟨_,rfl,O1.out,B1.out⟩
  ·obtain⟨by2,oy2,ey⟩:=SY.out _ hy
   obtain⟨rfl,rfl,rfl⟩:by'=by2/\oy=oy2/\sy=none:=by injection ey with e1 e2 e3;exact⟨e1,e2,e3⟩
   subst hy;clear ey
   go_wp2_with (first|(at_builtin;refine wpList_append_own_none rfl _ _ 42 rfl w.heap.size 152 i0 2 underlying42 hi (.slice z 0 cz) 0 [] rfl O1.out rfl ?_;have tok1:True:=trivial))
   rw[rounds_succ]
   go_wp2_with (first|(at_builtin;refine wpList_append_own _ rfl _ _ 42 rfl w.heap.size 152 i0 (.agg #[iv 0,iv 0]) 2 16 underlying42 hi hz0 hz1 hz2 rfl dc_ (.slice z 0 cz) 0 [] rfl O1.out ⟨by',oy,none⟩ nb cb (prs qs) rfl (by rw[eZ,HB.out]) (Q1.out.news) (kO _) (by unfold maxLen;omega) o_ o_ ?_;intro v3 w3 ho3 hg3 _;have O3:=hd_ ho3;obtain⟨z3,cz3,rfl⟩:=iQ ho3;have B3:=hd_ (B1.out.grown hg3 B1.out.size (fun k e=>(O1.out.lt k e).1))))
   exact zBJ
 ·obtain⟨bx',ox',ex⟩:=SX.out _ hx
  obtain⟨rfl,rfl,rfl⟩:bx=bx'/\ox=ox'/\sx=none:=by injection ex with e1 e2 e3;exact⟨e1,e2,e3⟩
  subst hx;clear ex;rcases hy:y with _|⟨by',oy,sy⟩
  ·subst hy
   obtain⟨rfl,rfl,rfl⟩:=NQ.out rfl
   go_wp2_with (first|(at_builtin;refine wpList_append_own _ rfl _ _ 42 rfl w.heap.size 152 i0 (.agg #[iv 0,iv 0]) 2 16 underlying42 hi hz0 hz1 hz2 rfl dc_ (.slice z 0 cz) 0 [] rfl O1.out ⟨bx,ox,none⟩ na ca (prs ps) rfl (by rw[eZ,HA.out]) (P1.out.news) (kO _) (by unfold maxLen;omega) o_ o_ ?_;intro v2 w2 ho2 hg2 _;simp only[Nat.zero_add,List.nil_append]at ho2;obtain⟨z2,cz2,rfl⟩:=iQ ho2;have O2:=hd_ ho2;have B2:=hd_ (B1.out.grown hg2 B1.out.size (fun k e=>(O1.out.lt k e).1));have d2:=hg2.cell D1.out (fun e=>by have:=(O1.out.lt _ e.symm).1;simp only at this;omega);have s2:=hg2.size;have Q2:=hd_ (HQ.out.below B2.out lr_)))
   rw[rounds_succ]
   go_wp2_with (first|(at_builtin;refine wpList_append_own_none rfl _ _ 42 rfl w.heap.size 152 i0 2 underlying42 hi (.slice z2 na cz2) na (prs ps) rfl O2.out rfl ?_;have tok2:True:=trivial))
   exact zBG
  ·obtain⟨by2,oy2,ey⟩:=SY.out _ hy
   obtain⟨rfl,rfl,rfl⟩:by'=by2/\oy=oy2/\sy=none:=by injection ey with e1 e2 e3;exact⟨e1,e2,e3⟩
   subst hy;clear ey
   go_wp2_with (first|(at_builtin;refine wpList_append_own _ rfl _ _ 42 rfl w.heap.size 152 i0 (.agg #[iv 0,iv 0]) 2 16 underlying42 hi hz0 hz1 hz2 rfl dc_ (.slice z 0 cz) 0 [] rfl O1.out ⟨bx,ox,none⟩ na ca (prs ps) rfl (by rw[eZ,HA.out]) (P1.out.news) (kO _) (by unfold maxLen;omega) o_ o_ ?_;intro v2 w2 ho2 hg2 _;simp only[Nat.zero_add,List.nil_append]at ho2;obtain⟨z2,cz2,rfl⟩:=iQ ho2;have O2:=hd_ ho2;have B2:=hd_ (B1.out.grown hg2 B1.out.size (fun k e=>(O1.out.lt k e).1));have d2:=hg2.cell D1.out (fun e=>by have:=(O1.out.lt _ e.symm).1;simp only at this;omega);have s2:=hg2.size;have Q2:=hd_ (HQ.out.below B2.out lr_)))
   rw[rounds_succ]
   go_wp2_with (first|(at_builtin;refine wpList_append_own _ rfl _ _ 42 rfl w.heap.size 152 i0 (.agg #[iv 0,iv 0]) 2 16 underlying42 hi hz0 hz1 hz2 rfl dc_ (.slice z2 na cz2) na (prs ps) rfl O2.out ⟨by',oy,none⟩ nb cb (prs qs) rfl (by rw[eZ,HB.out]) (Q2.out.news) (kO _) (by unfold maxLen;omega) o_ o_ ?_;intro v3 w3 ho3 hg3 _;have O3:=hd_ ho3;obtain⟨z3,cz3,rfl⟩:=iQ ho3;have B3:=hd_ (B2.out.grown hg3 B2.out.size (fun k e=>(O2.out.lt k e).1))))
   exact zBs
def dD (ps:List Pr) (a:Int) (qs:List Pr) (b:Int):Bool:=cL ps a&&(cL qs b&&decide (a+b<=2000))
def gK (ps:List Pr) (a:Int) (qs:List Pr) (b:Int):List Pr × Int:=if dD ps a qs b then (mP ps a qs b,a+b)else ([],0)
theorem aEe {ps:List Pr} {a:Int} {qs:List Pr} {b:Int} (h:dD ps a qs b=false):gK ps a qs b=([],0):=by simp[gK,h]
theorem sZ {ps:List Pr} {a:Int} {qs:List Pr} {b:Int} (h:dD ps a qs b=true):gK ps a qs b=(mP ps a qs b,a+b):=by simp[gK,h]
theorem rI {ps:List Pr} {a:Int} {qs:List Pr} {b:Int} (h:dD ps a qs b=true):cL ps a=true/\cL qs b=true/\a+b<=2000:=by
  unfold dD at h;simpa using h
theorem aNh (N:List Int) (D:Int):∀s,s<=63->(sqz N D s).getD 0 0=N.getD 0 0:=by
  intro s
  induction s with
  |zero=>intro _;rfl
  |succ s ih=>intro h;rw[sqz,aMu _ o_];exact ih o_
theorem dS.len {ps:List Pr} {all:Int} (h:dS ps all):ps.length<=127:=yR h.2.1
theorem KnB.append {ps qs:List Pr} (h:KnB ps) (h':KnB qs):KnB (ps++qs):=fun i hi=>by
  have m:∀{l:List Pr},KnB l->∀p ∈ l,(0<=p.1/\p.1<=127)/\0<=p.2/\p.2<=2000:=fun hl p hp=>by
    obtain⟨j,hj,rfl⟩:=kX hp;exact hl j hj
  rcases List.mem_append.1 (jI hi)with e|e
  · exact m h _ e
  · exact m h' _ e
theorem aAE (w:World) (u v:Value) (ps:List Pr) (a:Int) (qs:List Pr) (b:Int) (hp:Prs w u ps) (hq:Prs w v qs) (ka:cL ps a=true) (kb:cL qs b=true) (hab:a+b<=2000):
    Calls prog 198 #[.agg #[u,iv a],.agg #[v,iv b]] w fun e w'=>∃x,e=.returned (.tuple #[.agg #[x,iv (a+b)],.bool true])/\aF w' w.heap.size x (mP ps a qs b)/\Below w.heap.size w w':=by
  have PA:=(dN _ _).1 ka;have PB:=(dN _ _).1 kb;have la:=PA.len;have lb:=PB.len;have kn:=PA.knB.append PB.knB;have aa:=PA.1.1;have bb:=PB.1.1;have hat:=PA.atK.append PB.atK;have HAT:=hd_ hat;obtain⟨W,hW⟩:=nm_ (((w.alloc (.cells #[u,iv a] 44)).alloc (.cells #[v,iv b] 44)).alloc (.cells #[zn,iv 0] 44))
  have hA:Below w.heap.size w W:=by rw[hW];exact (((Below.refl _ _).alloc lr_ _).alloc (by simp) _).alloc (by simp;omega) _
  have sW:W.heap.size=w.heap.size+3:=by rw[hW];simp
  have X:aS W w.heap.size 44 u (iv a):=by rw[hW];exact ((aS.new _ _ _ _).alloc _).alloc _
  have Y:aS W (w.heap.size+1) 44 v (iv b):=by
    exact zAH
  have R:aS W (w.heap.size+1+1) 44 zn (iv 0):=by
    exact zAG
  have IA:=hd_ (hp.below hA lr_);have IB:=hd_ (hq.below hA lr_);have KA:=hd_ (mD W u ps a IA.out);have KB:Hid (∀W,Prs W v qs->Calls prog 110 #[.agg #[v,iv b]] W fun e w'=>e=.returned (.bool true)/\Below W.heap.size W w'):=fun W h=>by rw[<-kb];exact mD W v qs b h
  rw[ka]at KA;obtain⟨x,c,rfl,_,_⟩:=hp.form;obtain⟨y,d,rfl,_,_⟩:=hq.form;obtain⟨na,hna⟩:=nm_ ps.length;obtain⟨nb,hnb⟩:=nm_ qs.length;rw[<-hna]at KA hW X IA la;rw[<-hnb]at KB hW Y IB lb;rw[<-hna, <-hnb];have HNA:=hd_ hna;have HNB:=hd_ hnb;have HA:=hd_ hA;have HS:=hd_ sW;have KN:=hd_ kn;obtain⟨A,hAll⟩:=nm_ (a+b);rw[<-hAll]at hab ⊢;have ws:IntKind.i64.wrap (a+b)=A:=by rw[hAll];exact IntWalk.i64_in _ o_
  have hgt:decide ((2000:Int)<A)=false:=decide_eq_false o_;have HAL:=hd_ hAll;have A0:0<=A:=o_;have EB:Hid (mP ps a qs b=kV (sqz (dB (ps++qs)) (A / 8) 63)):=by show _=_;unfold mP mO;rw[hAll]
  have x0:=X.cell0;have x1:=X.cell1;have y0:=Y.cell0;have y1:=Y.cell1;clear hp hq ka kb PA PB kn hat hA sW hna hnb hAll;go_enter func198,ntmps198
  go_wp2_with fail
  rw[<-hW];clear hW
  go_wp2_with fail
  refine KA.out.mono ?_;rintro e w1 ⟨rfl,hb1⟩;have X1:=X.later hb1;have Y1:=Y.later hb1;have R1:=R.later hb1;have B1:=hd_ (HA.out.trans (hb1.mono HA.out.size));have IA1:=hd_ (IA.out.below hb1 lr_);have IB1:=hd_ (IB.out.below hb1 lr_);clear hb1 X Y R x0 x1 y0 y1 KA IA IB;have x0:=X1.cell0;have x1:=X1.cell1;have y0:=Y1.cell0;have y1:=Y1.cell1
  go_wp2_with fail
  refine (KB.out _ IB1.out).mono ?_;rintro e w2 ⟨rfl,hb2⟩;have X2:=X1.later hb2;have Y2:=Y1.later hb2;have R2:=R1.later hb2;have B2:=hd_ (B1.out.trans (hb2.mono B1.out.size));have IA2:=hd_ (IA1.out.below hb2 lr_);have IB2:=hd_ (IB1.out.below hb2 lr_);clear hb2 X1 Y1 R1 x0 x1 y0 y1 KB IA1 IB1;have x0:=X2.cell0;have x1:=X2.cell1;have y0:=Y2.cell0;have y1:=Y2.cell1;go_upto_region 4 with fail
  go_step
  refine pR rfl rfl ?_;obtain⟨W3,hW⟩:=nm_ (w2.alloc (.cells (iK (List.replicate 128 0)) 281));rw[<-hW];have N3:Hid (eA W3 w2.heap.size (List.replicate 128 0)):=by show eA _ _ _;rw[hW];exact eA.new w2 _ (by simp)
  have hA3:Below w2.heap.size w2 W3:=by rw[hW];exact (Below.refl _ _).alloc lr_ _
  have s3:W3.heap.size=w2.heap.size+1:=by rw[hW];simp
  have X3:=X2.later hA3;have Y3:=Y2.later hA3;have R3:=R2.later hA3;have B3:=hd_ (B2.out.trans (hA3.mono B2.out.size));have IA3:=hd_ (IA2.out.below hA3 lr_);have IB3:=hd_ (IB2.out.below hA3 lr_);have S3:=hd_ s3;have LR:=hd_ R2.lt;clear hW hA3 s3 X2 Y2 R2 x0 x1 y0 y1 IA2 IB2 B2;have x0:=X3.cell0;have y0:=Y3.cell0
  -- the two lists,in one literal
  obtain⟨W4,hW4⟩:=nm_ (W3.alloc (.cells #[.slice x na c,.slice y nb d] 42));have hA4:Below W3.heap.size W3 W4:=by rw[hW4];exact (Below.refl _ _).alloc lr_ _
  have KC:Hid (Calls prog 252 #[.slice (some ⟨W3.heap.size,0,none⟩) 2 2] W4 fun e w'=>∃v,e=.returned v/\aF w' W4.heap.size v (ps++qs)/\Below W4.heap.size W4 w'):=
    xR W4 W3.heap.size na nb c d x y ps qs HNA.out.symm HNB.out.symm la lb (IA3.out.below hA4 lr_) (IB3.out.below hA4 lr_) (by rw[hW4];simp) (by rw[hW4];simp)
  have X4:=X3.later hA4;have Y4:=Y3.later hA4;have R4:=R3.later hA4;have N4:=hd_ (N3.out.later hA4);have B4:=hd_ (B3.out.trans (hA4.mono B3.out.size));have S4:=hd_ hA4.size;clear X3 Y3 R3 N3 B3 IA3 IB3 hA4
  go_wp2_with fail
  rw[<-hW4];clear hW4 x0 y0;refine KC.out.mono ?_;rintro e w5 ⟨v,rfl,ho5,hb5⟩;have R5:=R4.later hb5;have N5:=hd_ (N4.out.later hb5);have B5:=hd_ (B4.out.trans (hb5.mono B4.out.size));obtain⟨z,cz,rfl,_,_⟩:=ho5.form;have hcs:=ho5.rd.cells;obtain⟨n,hn⟩:=nm_ ((ps++qs).length);have n300:n<=300:=by rw[hn,List.length_append, <-HNA.out, <-HNB.out];omega
  have HP5:Hid (∀i,i<n->∃b o,z=some ⟨b,o,none⟩/\b<w5.heap.size/\b≠w2.heap.size/\w5.cell? ⟨b,o+i * 2,none⟩=some (.int .i64 (pr (ps++qs) i).1)/\w5.cell? ⟨b,o+i * 2+1,none⟩=some (.int .i64 (pr (ps++qs) i).2)):=fun i hi=>by
    obtain⟨b,o,e,h1,h2,h3⟩:=hcs i (by rw[<-hn];exact hi);refine⟨b,o,e,h1,?_,h2,h3⟩;have:=(World.ownsRow.lt ho5 b (by rw[e];rfl)).1;have:=S3.out;have:=S4.out;omega
  rw[<-hn];have HN:=hd_ hn;have SZ5:Hid (w2.heap.size<w5.heap.size):=by show _<_;have:=S3.out;have:=S4.out;have:=hb5.size;omega
  have LR5:Hid (w.heap.size+1+1<w2.heap.size):=LR;clear ho5 hb5 hcs hn X4 Y4 R4 N4 B4 KC;generalize hps:ps++qs=ks at *
  go_wp2_with fail
  go_loopw [39] (fun i wr=>∃k:Nat,k<=n/\i=.int .i64 k/\eA wr w2.heap.size (dB (ks.take k))/\w5.grownBy wr (some w2.heap.size)) (fun i _=>n - (intOf i).toNat)
  case atStart=>exact⟨0,Nat.zero_le _,rfl,N5.out,eS _ _⟩
  case round=>
    obtain⟨k,hk,rfl,hrow,hgr⟩:=hrel;have HR:=hd_ hrow;have HG:=hd_ hgr
    by_cases hlt:k<n
    · obtain⟨g,o,rfl,hg,hne,h1,h2⟩:=HP5.out k hlt
      have e5:=hgr.block g hg (fun e=>hne (by cases e;rfl));rw[<-World.cell?_of_block (a:=⟨g,o+k * 2,none⟩) e5]at h1;rw[<-World.cell?_of_block (a:=⟨g,o+k * 2+1,none⟩) e5]at h2;have gk:=KN.out k (by rw[<-HN.out];exact hlt);have bd:=aAU KN.out k (by rw[<-HN.out];omega);have hs:=hd_ (uJ ks k (by rw[<-HN.out];exact hlt));generalize pr ks k=q at h1 h2 hs gk;obtain⟨t,m⟩:=q
      simp only at h1 h2 gk;obtain⟨⟨t0,t1⟩,m0,m1⟩:=gk;obtain⟨T,rfl⟩:∃T:Nat,t=(T:Int):=⟨t.toNat,o_⟩
      have T1:(T:Int)<128:=o_;have bT:=bd T;unfold mV at hs;simp only[Int.toNat_natCast]at hs;have l2:w2.heap.size<wr.heap.size:=Nat.lt_of_lt_of_le SZ5.out hgr.size;obtain⟨wk,hwk⟩:=nm_ (wr.alloc (.cells #[iv T,iv m] 152));have hK:Below wr.heap.size wr wk:=by rw[hwk];exact (Below.refl _ _).alloc lr_ _
      have bK:aS wk wr.heap.size 152 (iv T) (iv m):=by rw[hwk];exact aS.new _ _ _ _
      have k0':=bK.cell0;have k1':=bK.cell1;have HRK:=hd_ (HR.out.later hK);have HGK:=hd_ (aL HG.out (cU (row:=some w2.heap.size) hK));have c0:=HRK.out.cell (i:=T) o_;have f0:=HRK.out.free T;generalize dB (ks.take k)=N at *;obtain⟨V,hV⟩:=nm_ (N.getD T 0);rw[<-hV]at c0 bT hs;have kk0:(0:Int)<=(k:Int):=o_;have kn':(k:Int)<(n:Int):=o_
      have wsV:IntKind.i64.wrap (V+m)=V+m:=IntWalk.i64_in _ o_;have r0:=cell_regrown c0;have r1:=cell_regrown k0';have r2:=cell_regrown k1';clear hrow hgr bd hV e5 bK
      go_wp2_with fail
      rw[<-hwk];clear hwk;refine iP (C:=fun w'=>∃p:Regrown,w'=grow (redrawn wk p.d) p.os) 8 _ rfl rfl rfl kr_ kr_ kr_ kr_ kr_ ⟨⟨wk.drawn+1,#[]⟩,by rw[grow_empty];rfl⟩ ?_;simp only[List.take_succ_cons,List.take_zero]
      repeat (refine cK (fun K hK=>?_);go_simp;first|(refine hK _ ?_;clear hK K)|(apply Exists.intro;refine⟨fun _=>?_,hK _ ?_⟩;(fail);clear hK K))
      refine dE ?_;intro _ hw';obtain⟨⟨dq,oq⟩,hw''⟩:=hw';subst hw'';have hb_w4:=below_regrown wk dq oq;obtain⟨w4,hq_w4⟩:=nm_ (grow (redrawn wk dq) oq);rw[<-hq_w4]at hb_w4 ⊢;clear hq_w4;have R4:=HRK.out.later (hb_w4);have d0:=R4.cell (i:=T) o_;have d1:=R4.free T;have RS:=hd_ (R4.set T (V+m))
      have GS:=hd_ (aL (aL HGK.out (cU (row:=some w2.heap.size) hb_w4)) (aA w4 ⟨w2.heap.size,T,none⟩ (iv (V+m))));clear R4 hb_w4 r0 r1 r2 c0 f0 h1 h2 wsV k0' k1' hK;go_wp2;go_roundw
      case rel=>exact⟨k+1,o_,gn_,by rw[hs.out];exact RS.out,GS.out⟩
      case measure=>simp[intOf];omega
    · obtain rfl:k=n:=o_
      have e1:ks.take k=ks:=List.take_of_length_le (by rw[<-HN.out];exact Nat.le_refl _);rw[e1]at HR;have nb6:=xQ KN.out (by rw[<-HN.out];exact n300);have n0:=aCU ks HAT.out;have nl:=lG ks;have Rr:=R5.kept hgr (by simp;have:=LR5.out;omega);have Br:Hid (Below w.heap.size w wr):=hd_ (B5.out.trans (oJ hgr (by have:=LR5.out;omega) B5.out.size))
      clear hrow hgr e1 HP5 HN hk hlt R5 N5 B5;generalize dB ks=N at *;have KS:=hd_ (aFn wr N A nl nb6 A0 hab);have lq:(sqz N (A / 8) 63).length=128:=by rw[aCW];exact nl
      have q0:(sqz N (A / 8) 63).getD 0 0=0:=(aNh N (A / 8) 63 lr_).trans n0;generalize sqz N (A / 8) 63=Q at *;have KO:Hid (∀W,Calls prog 253 #[.agg (iK Q)] W fun e w'=>∃v,e=.returned v/\aF w' W.heap.size v (kV Q)/\Below W.heap.size W w'):=fun W=>aFD W Q lq q0
      generalize kV Q=ls at *;have SR:Hid (w.heap.size+1+1<wr.heap.size):=Rr.lt;clear nb6 n0 nl lq q0
      go_wp2_with (refine mI rfl _ rfl _ N rfl HR.out ?_)
      refine KS.out.mono ?_;rintro e w6 ⟨rfl,hb6⟩;have R6:=Rr.later hb6;have B6:=hd_ (Br.out.trans (hb6.mono Br.out.size));have S6:=hd_ hb6.size;clear hb6 Rr Br
      go_wp2_with fail
      refine (KO.out _).mono ?_;rintro e w7 ⟨v,rfl,ho7,hb7⟩;obtain⟨xz,cz',rfl,_,_⟩:=ho7.form;have R7:=R6.later hb7;have B7:=hd_ (B6.out.trans (hb7.mono B6.out.size));have z0:=R7.cell0;have z1:=R7.cell1;have f2:=R7.free;have RZ:=R7.set (.slice xz ls.length cz') (iv A);have hr0:=RZ.cell0;have hr1:=RZ.cell1
      have OZ:=hd_ ((ho7.set2 (R7.not_row dc_ ho7) (.slice xz ls.length cz') (iv A)).base (B':=w.heap.size) (by have:=S6.out;have:=SR.out;omega));have BZ:=hd_ (gF (b:=w.heap.size+1+1) B7.out o_ (.slice xz ls.length cz') (iv A));clear ho7 hb7 R7 RZ R6;go_wp2
      exact bodyPost_ret (v:=.tuple #[.agg #[.slice xz ls.length cz',iv A],.bool true]) (by simp[results,results198,go_sem,hr0,hr1]) rfl ⟨_,rfl,by rw[EB.out];exact OZ.out,BZ.out⟩
theorem aBr (w:World) (u v:Value) (ps:List Pr) (a:Int) (qs:List Pr) (b:Int) (hp:Prs w u ps) (hq:Prs w v qs) (hno:dD ps a qs b=false):
    Calls prog 198 #[.agg #[u,iv a],.agg #[v,iv b]] w fun e w'=>e=.returned (.tuple #[.agg #[zn,iv 0],.bool false])/\Below w.heap.size w w':=by
  obtain⟨W,hW⟩:=nm_ (((w.alloc (.cells #[u,iv a] 44)).alloc (.cells #[v,iv b] 44)).alloc (.cells #[zn,iv 0] 44));have hA:Below w.heap.size w W:=by rw[hW];exact (((Below.refl _ _).alloc lr_ _).alloc (by simp) _).alloc (by simp;omega) _
  have X:aS W w.heap.size 44 u (iv a):=by rw[hW];exact ((aS.new _ _ _ _).alloc _).alloc _
  have Y:aS W (w.heap.size+1) 44 v (iv b):=by
    exact zAH
  have R:aS W (w.heap.size+1+1) 44 zn (iv 0):=by
    exact zAG
  have IA:=hd_ (hp.below hA lr_);have IB:=hd_ (hq.below hA lr_);have KA:=hd_ (mD W u ps a IA.out);have KB:Hid (∀W,Prs W v qs->Calls prog 110 #[.agg #[v,iv b]] W fun e w'=>e=.returned (.bool (cL qs b))/\Below W.heap.size W w'):=fun W h=>mD W v qs b h
  obtain⟨x,c,rfl,_,_⟩:=hp.form;obtain⟨y,d,rfl,_,_⟩:=hq.form;obtain⟨na,hna⟩:=nm_ ps.length;obtain⟨nb,hnb⟩:=nm_ qs.length;rw[<-hna]at KA hW X IA;rw[<-hnb]at KB hW Y IB;rw[<-hna, <-hnb];have HA:=hd_ hA;have x0:=X.cell0;have x1:=X.cell1;have y0:=Y.cell0;have y1:=Y.cell1;have CASES:Hid (cL ps a=true->cL qs b=true->(0<=a/\a<=2000)/\(0<=b/\b<=2000)/\2000<a+b):=fun h1 h2=>by
    exact zB3
  have HW:=hd_ hW;have END:Hid (∀w1,Below W.heap.size W w1->aS w1 (w.heap.size+1+1) 44 zn (iv 0)/\Below w.heap.size w ((w1.setCell ⟨w.heap.size+1+1,0,none⟩ zn).setCell ⟨w.heap.size+1+1,1,none⟩ (iv 0))):=fun w1 h=>
    ⟨R.later h,gF (b:=w.heap.size+1+1) (hA.trans (h.mono hA.size)) o_ zn (iv 0)⟩
  clear hp hq hno hA hna hnb hW R;cases ka:cL ps a with
  |false=>
    rw[ka]at KA;clear CASES ka;go_enter func198,ntmps198
    go_wp2_with fail
    rw[<-HW.out]
    go_wp2_with fail
    refine KA.out.mono ?_;rintro e w1 ⟨rfl,hb1⟩;obtain⟨R1,hl⟩:=END.out w1 hb1;have BZ:=hd_ hl;have z0:=R1.cell0;have z1:=R1.cell1;have f2:=R1.free;have RZ:=R1.set zn (iv 0);have hr0:=RZ.cell0;have hr1:=RZ.cell1;clear R1 RZ x0 x1 y0 y1 X Y hb1 hl;go_wp2;exact zAX
  |true=>
    rw[ka]at KA;cases kb:cL qs b with
    |false=>
      rw[kb]at KB;clear CASES ka kb;go_enter func198,ntmps198
      go_wp2_with fail
      rw[<-HW.out]
      go_wp2_with fail
      refine KA.out.mono ?_;rintro e w1 ⟨rfl,hb1⟩;have X1:=X.later hb1;have Y1:=Y.later hb1;have IB1:=hd_ (IB.out.below hb1 lr_);have HB1:=hd_ hb1;clear hb1 X Y x0 x1 y0 y1;have x0:=X1.cell0;have x1:=X1.cell1;have y0:=Y1.cell0;have y1:=Y1.cell1
      go_wp2_with fail
      refine (KB.out _ IB1.out).mono ?_;rintro e w2 ⟨rfl,hb2⟩;obtain⟨R1,hl⟩:=END.out w2 (HB1.out.trans (hb2.mono HB1.out.size));have BZ:=hd_ hl;have z0:=R1.cell0;have z1:=R1.cell1;have f2:=R1.free;have RZ:=R1.set zn (iv 0);have hr0:=RZ.cell0;have hr1:=RZ.cell1;clear R1 RZ x0 x1 y0 y1 X1 Y1 hb2 hl;go_wp2
      exact zAX
    |true=>
      rw[kb]at KB;obtain⟨⟨a0,a1⟩,⟨b0,b1⟩,hs⟩:=CASES.out ka kb;have ws:IntKind.i64.wrap (a+b)=a+b:=IntWalk.i64_in _ o_;have hgt:decide ((2000:Int)<a+b)=true:=decide_eq_true hs;clear CASES ka kb;go_enter func198,ntmps198
      go_wp2_with fail
      rw[<-HW.out]
      go_wp2_with fail
      refine KA.out.mono ?_;rintro e w1 ⟨rfl,hb1⟩;have X1:=X.later hb1;have Y1:=Y.later hb1;have IB1:=hd_ (IB.out.below hb1 lr_);have HB1:=hd_ hb1;clear hb1 X Y x0 x1 y0 y1;have x0:=X1.cell0;have x1:=X1.cell1;have y0:=Y1.cell0;have y1:=Y1.cell1
      go_wp2_with fail
      refine (KB.out _ IB1.out).mono ?_;rintro e w2 ⟨rfl,hb2⟩;obtain⟨R1,hl⟩:=END.out w2 (HB1.out.trans (hb2.mono HB1.out.size));have X2:=X1.later hb2;have Y2:=Y1.later hb2;have BZ:=hd_ hl;have z0:=R1.cell0;have z1:=R1.cell1;have f2:=R1.free;have RZ:=R1.set zn (iv 0);have hr0:=RZ.cell0;have hr1:=RZ.cell1;clear R1 RZ x0 x1 y0 y1 X1 Y1 hb2 hl;have x1:=X2.cell1;have y1:=Y2.cell1;clear X2 Y2
      go_wp2;exact zAX
theorem tO (w:World) (u v:Value) (ps:List Pr) (a:Int) (qs:List Pr) (b:Int) (hp:Prs w u ps) (hq:Prs w v qs):
    Calls prog 198 #[.agg #[u,iv a],.agg #[v,iv b]] w fun e w'=>∃x,e=.returned (.tuple #[.agg #[x,.int .i64 (gK ps a qs b).2],.bool (dD ps a qs b)])/\aF w' w.heap.size x (gK ps a qs b).1/\Below w.heap.size w w':=by
  cases h:dD ps a qs b with
  |false=>
    rw[aEe h];exact (aBr w u v ps a qs b hp hq h).mono fun e w' ⟨he,hb⟩=>⟨_,he,aF.nil _ _,hb⟩
  |true=>
    rw[sZ h];obtain⟨k1,k2,k3⟩:=rI h;exact aAE w u v ps a qs b hp hq k1 k2 k3
theorem aAm (ps:List Pr) (a t:Int) (h:0<=t/\t<=63):dD ps a [(64+t,1)] 1=fT ps a t/\gK ps a [(64+t,1)] 1=mG ps a t:=by
  have e:dD ps a [(64+t,1)] 1=fT ps a t:=by
    unfold dD fT;rw[(dN _ _).2 (aMB t h)];have h1:decide (0<=t/\t<=63)=true:=decide_eq_true h;have h2:decide (a+1<=2000)=decide (a<2000):=decide_eq_decide.2 ⟨fun _=>by omega,fun _=>by omega⟩;rw[h1,h2]
  refine⟨e,?_⟩;unfold gK mG;rw[e,aJG]
theorem aDS (w:World) (u:Value) (ps:List Pr) (all t:Int) (hp:Prs w u ps):
    Calls prog 234 #[.agg #[u,iv all],iv t] w fun e w'=>∃v,e=.returned (.tuple #[.agg #[v,.int .i64 (mG ps all t).2],.bool (fT ps all t)])/\aF w' w.heap.size v (mG ps all t).1/\Below w.heap.size w w':=by
  obtain⟨W,hW⟩:=nm_ ((w.alloc (.cells #[u,iv all] 44)).alloc (.cells #[zn,iv 0] 44));have hA:Below w.heap.size w W:=by rw[hW];exact ((Below.refl _ _).alloc lr_ _).alloc (by simp) _
  have sW:W.heap.size=w.heap.size+2:=by rw[hW];simp
  have X:aS W w.heap.size 44 u (iv all):=by rw[hW];exact (aS.new _ _ _ _).alloc _
  have R:aS W (w.heap.size+1) 44 zn (iv 0):=by
    have h:=aS.new (w.alloc (.cells #[u,iv all] 44)) 44 zn (iv 0);rw[hW];simpa using h
  have IA:=hd_ (hp.below hA lr_);obtain⟨x,c,rfl,_,_⟩:=hp.form;obtain⟨n,hn⟩:=nm_ ps.length;rw[<-hn]at hW X IA ⊢;have HN:=hd_ hn;have HA:=hd_ hA;have HS:=hd_ sW;have x0:=X.cell0;have x1:=X.cell1
  by_cases ht:0<=t/\t<=63
  · have AJ:=aAm ps all t ht
    rw[<-AJ.1, <-AJ.2]
    -- one thing,counted once
    obtain⟨W1,hW1⟩:=nm_ (W.alloc (.cells #[iv (64+t),iv 1] 152));have hA1:Below W.heap.size W W1:=by rw[hW1];exact (Below.refl _ _).alloc lr_ _
    have O1:Prs W1 (.slice (some ⟨W.heap.size,0,none⟩) 1 1) [(64+t,1)]:=by
      refine .inr ⟨W.heap.size,0,1,rfl,by simp,by simp[maxLen],by rw[hW1];simp,fun i hi=>?_⟩;obtain rfl:i=0:=by simpa using hi
      rw[hW1];simp[pr]
    have KJ:=hd_ (tO W1 _ _ ps all [(64+t,1)] 1 (IA.out.below hA1 lr_) O1);have R1:=R.later hA1;have B1:=hd_ (HA.out.trans (hA1.mono HA.out.size));have S1:=hd_ hA1.size;generalize gK ps all [(64+t,1)] 1=J at *;generalize dD ps all [(64+t,1)] 1=ok at *;obtain⟨js,ja⟩:=J;simp only at KJ ⊢;have wt:IntKind.i64.wrap (64+t)=64+t:=IntWalk.i64_in _ o_
    have KT:Hid (∀W,Calls prog 106 #[iv t] W fun e w'=>e=.returned (.bool true)/\W=w'):=fun W=>jZ t W ht.1 o_
    have HJ1:=hd_ (aF.base (B':=w.heap.size) (w:=W) (B:=w.heap.size+1) (aF.nil _ _) (Nat.le_succ _));clear hp hA sW hn hA1 O1 X R AJ HJ1 ht;go_enter func234,ntmps234
    go_wp2_with fail
    rw[<-hW];clear hW
    go_wp2_with fail
    refine (KT.out _).mono ?_;rintro e w' ⟨rfl,rfl⟩
    go_wp2_with fail
    rw[<-hW1];clear hW1;refine KJ.out.mono ?_;rintro e w2 ⟨v,rfl,ho,hb⟩;obtain⟨xz,cz,rfl,_,_⟩:=ho.form;have R2:=R1.later hb;have B2:=hd_ (B1.out.trans (hb.mono B1.out.size));have z0:=R2.cell0;have z1:=R2.cell1;have f2:=R2.free;have RZ:=R2.set (.slice xz js.length cz) (iv ja);have hr0:=RZ.cell0;have hr1:=RZ.cell1
    have OZ:=hd_ ((ho.set2 (R2.not_row dc_ ho) (.slice xz js.length cz) (iv ja)).base (B':=w.heap.size) (by have:=HS.out;have:=S1.out;omega));have BZ:=hd_ (gF (b:=w.heap.size+1) B2.out (Nat.le_succ _) (.slice xz js.length cz) (iv ja));clear ho hb R2 RZ R1 x0 x1;go_wp2
    exact bodyPost_ret (v:=.tuple #[.agg #[.slice xz js.length cz,iv ja],.bool ok]) (by simp[results,results234,go_sem,hr0,hr1]) rfl ⟨_,rfl,OZ.out,BZ.out⟩
  · have hno:fT ps all t=false:=by unfold fT;simp[ht]
    rw[aC9 hno,hno];have KT:Hid (∀W,Calls prog 106 #[iv t] W fun e w'=>e=.returned (.bool false)/\W=w'):=fun W=>nI t W o_
    have BZ:=hd_ (gF (b:=w.heap.size+1) HA.out (Nat.le_succ _) zn (iv 0));have z0:=R.cell0;have z1:=R.cell1;have f2:=R.free;have RZ:=R.set zn (iv 0);have hr0:=RZ.cell0;have hr1:=RZ.cell1;clear hp hA sW hn X R RZ x0 x1 ht hno;go_enter func234,ntmps234
    go_wp2_with fail
    rw[<-hW];clear hW
    go_wp2_with fail
    refine (KT.out _).mono ?_;rintro e w' ⟨rfl,rfl⟩;go_wp2;exact bodyPost_ret (v:=.tuple #[.agg #[zn,iv 0],.bool false]) (by simp[results,results234,go_sem,hr0,hr1]) rfl ⟨_,rfl,aF.nil _ _,BZ.out⟩
theorem aAd (w:World) (ty:TypeId) (B:Nat) (v u:Value) (ps qs:List Pr) (ho:aF w B v ps) (hq:Prs w u qs) (l1:ps.length<=1000) (l2:qs.length<=1000) (hB:B<=w.heap.size):
    ∃x c w',(Builtin.append_ #[ 42,42 ] ty #[v,u]).run prog w=.ok (.slice x (ps.length+qs.length) c) w'/\aF w' B (.slice x (ps.length+qs.length) c) (ps++qs)/\w.grownBy w' v.ownBlock:=by
  obtain⟨i0,hi,hz0,hz1,hz2⟩:=info_parts dY;rcases hq with ⟨rfl,rfl⟩|⟨b,o,cap,rfl,hc0,hc1,hb,hcell⟩
  · obtain⟨x,c,rfl,_,_⟩:=ho.form
    refine⟨x,c,w,run_append_owned_none (P:=prog) (w:=w) B 42 ty 152 i0 2 underlying42 hi _ _ _ ho,by simpa using ho,eS _ _⟩
  · have news:∀j z,(prs qs)[j]? =some z->w.cell? ((⟨b,o,none⟩:Addr).add j)=some z:=
      Prs.news (w:=w) (b:=b) (o:=o) (n:=qs.length) (c:=cap) (ps:=qs) (.inr ⟨b,o,cap,rfl,hc0,hc1,hb,hcell⟩)
    obtain⟨v',w',hr,h2,h3,_,_⟩:=run_append_own_at (P:=prog) w B 42 ty 152 i0 (.agg #[iv 0,iv 0]) 2 16 underlying42 hi hz0 hz1 hz2 rfl dc_ v ps.length (prs ps) ho ⟨b,o,none⟩ qs.length cap (prs qs) (eZ qs) news (kO qs) (by unfold maxLen;omega) o_ hB;obtain⟨x,c,rfl⟩:=iQ h2;refine⟨x,c,w',hr,?_,h3⟩;unfold aF;rw[qX,List.length_append];exact h2
theorem aBx {o:Oper} {a:Act} {w:World} {K:Act->World->Prop} {Q:Exit->Act->World->Prop} (s x:Operand) (ho:o.op=.call { callee:=.builtin .append,args:=#[s,x],argTypes:=#[ 42,42 ] })
    (B n m N:Nat) (v u:Value) (ps qs:List Pr) (hs:a.eval s=v) (hx:a.eval x=u) (hown:aF w B v ps) (hq:Prs w u qs) (l1:ps.length<=1000) (l2:qs.length<=1000) (hn:n=ps.length) (hm:m=qs.length) (hN:N=n+m) (hB:B<=w.heap.size)
    (h:∀y c w',aF w' B (.slice y N c) (ps++qs)->w.grownBy w' v.ownBlock->K (a.put o.dst (.slice y N c)) w'):o.wp prog a w K Q:=by
  obtain⟨y,c,w',hr,h2,h3⟩:=aAd w o.type B v u ps qs hown hq l1 l2 hB;rw[<-hn, <-hm, <-hN]at hr h2;unfold Oper.wp execOp;simp only[ho,resolve,invoke,builtin,Sem.run_bind,Sem.run_pure,Result.andThen_ok,List.map_toArray,List.map_cons,List.map_nil,hs,hx,hr];exact h y c w' h2 h3
theorem rB {ops:Array Oper} {o:Oper} {a:Act} {w:World} {K:Act->World->Prop} {Q:Exit->Act->World->Prop} {E:Prop} (hgd:o.guard=none) (s x:Operand) (ho:o.op=.call { callee:=.builtin .append,args:=#[s,x],argTypes:=#[ 42,42 ] })
    (B n m N:Nat) (v u:Value) (ps qs:List Pr) (hs:a.eval s=v) (hx:a.eval x=u) (hown:aF w B v ps) (hq:Prs w u qs) (l1:ps.length<=1000) (l2:qs.length<=1000) (hn:n=ps.length) (hm:m=qs.length) (hN:N=n+m) (hB:B<=w.heap.size)
    (h:∀y c w',aF w' B (.slice y N c) (ps++qs)->w.grownBy w' v.ownBlock->K (a.put o.dst (.slice y N c)) w'):
    if Region.wanted o (yielded ops a.tmps)=true then Oper.wp prog o a w K Q else E:=by
  have hw:Region.wanted o (yielded ops a.tmps)=true:=by simp[Region.wanted,hgd]
  rw[if_pos hw];exact aBx s x ho B n m N v u ps qs hs hx hown hq l1 l2 hn hm hN hB h
structure aNe (w w2 wx:World) (g:Nat) (NN:List Int) (x:Option Addr) (na c:Nat) (a:Int) (y:Option Addr) (nb d:Nat) (b:Int):Prop where
  new:w2.heap.size<=g
  row:jJ wx g g 128 128 NN
  X:aS wx w.heap.size 44 (.slice x na c) (iv a)
  Y:aS wx (w.heap.size+1) 44 (.slice y nb d) (iv b)
  R:aS wx (w.heap.size+1+1) 44 zn (iv 0)
  B:Below w2.heap.size w2 wx
theorem aAu (w:World) (u v:Value) (ps:List Pr) (a:Int) (qs:List Pr) (b:Int) (hp:Prs w u ps) (hq:Prs w v qs) (ka:cL ps a=true) (kb:cL qs b=true) (hab:a+b<=2000):
    Calls prog 173 #[.agg #[u,iv a],.agg #[v,iv b]] w fun e w'=>∃x,e=.returned (.tuple #[.agg #[x,iv (a+b)],.bool true])/\aF w' w.heap.size x (mP ps a qs b)/\Below w.heap.size w w':=by
  have PA:=(dN _ _).1 ka;have PB:=(dN _ _).1 kb;have la:=PA.len;have lb:=PB.len;have kn:=PA.knB.append PB.knB;have aa:=PA.1.1;have bb:=PB.1.1;have hat:=PA.atK.append PB.atK;have HAT:=hd_ hat;obtain⟨W,hW⟩:=nm_ (((w.alloc (.cells #[u,iv a] 44)).alloc (.cells #[v,iv b] 44)).alloc (.cells #[zn,iv 0] 44))
  have hA:Below w.heap.size w W:=by rw[hW];exact (((Below.refl _ _).alloc lr_ _).alloc (by simp) _).alloc (by simp;omega) _
  have sW:W.heap.size=w.heap.size+3:=by rw[hW];simp
  have X:aS W w.heap.size 44 u (iv a):=by rw[hW];exact ((aS.new _ _ _ _).alloc _).alloc _
  have Y:aS W (w.heap.size+1) 44 v (iv b):=by
    exact zAH
  have R:aS W (w.heap.size+1+1) 44 zn (iv 0):=by
    exact zAG
  have IA:=hd_ (hp.below hA lr_);have IB:=hd_ (hq.below hA lr_);have KA:=hd_ (iS W u ps a IA.out);have KB:Hid (∀W,Prs W v qs->Calls prog 222 #[.agg #[v,iv b]] W fun e w'=>e=.returned (.bool true)/\Below W.heap.size W w'):=fun W h=>by rw[<-kb];exact iS W v qs b h
  rw[ka]at KA;obtain⟨x,c,rfl,_,_⟩:=hp.form;obtain⟨y,d,rfl,_,_⟩:=hq.form;obtain⟨na,hna⟩:=nm_ ps.length;obtain⟨nb,hnb⟩:=nm_ qs.length;rw[<-hna]at KA hW X IA la;rw[<-hnb]at KB hW Y IB lb;rw[<-hna, <-hnb];have HNA:=hd_ hna;have HNB:=hd_ hnb;have HA:=hd_ hA;have HS:=hd_ sW;have KN:=hd_ kn;obtain⟨A,hAll⟩:=nm_ (a+b);rw[<-hAll]at hab ⊢;have ws:IntKind.i64.wrap (a+b)=A:=by rw[hAll];exact IntWalk.i64_in _ o_
  have hgt:decide ((2000:Int)<A)=false:=decide_eq_false o_;have HAL:=hd_ hAll;have A0:0<=A:=o_;have EB:Hid (mP ps a qs b=kV (sqz (dB (ps++qs)) (A / 8) 63)):=by show _=_;unfold mP mO;rw[hAll]
  have x0:=X.cell0;have x1:=X.cell1;have y0:=Y.cell0;have y1:=Y.cell1;clear hp hq ka kb PA PB kn hat hA sW hna hnb hAll;go_enter func173,ntmps173
  go_wp2_with fail
  rw[<-hW];clear hW
  go_wp2_with fail
  refine KA.out.mono ?_;rintro e w1 ⟨rfl,hb1⟩;have X1:=X.later hb1;have Y1:=Y.later hb1;have R1:=R.later hb1;have B1:=hd_ (HA.out.trans (hb1.mono HA.out.size));have IA1:=hd_ (IA.out.below hb1 lr_);have IB1:=hd_ (IB.out.below hb1 lr_);clear hb1 X Y R x0 x1 y0 y1 KA IA IB;have x0:=X1.cell0;have x1:=X1.cell1;have y0:=Y1.cell0;have y1:=Y1.cell1
  go_wp2_with fail
  refine (KB.out _ IB1.out).mono ?_;rintro e w2 ⟨rfl,hb2⟩;have X2:=X1.later hb2;have Y2:=Y1.later hb2;have R2:=R1.later hb2;have B2:=hd_ (B1.out.trans (hb2.mono B1.out.size));have IA2:=hd_ (IA1.out.below hb2 lr_);have IB2:=hd_ (IB1.out.below hb2 lr_);clear hb2 X1 Y1 R1 x0 x1 y0 y1 KB IA1 IB1;have x0:=X2.cell0;have x1:=X2.cell1;have y0:=Y2.cell0;have y1:=Y2.cell1
  have nb6:=xQ KN.out (by rw[List.length_append, <-HNA.out, <-HNB.out];omega);have KNN:Hid (∀W x c,Prs W (.slice x (na+nb) c) (ps++qs)->Calls prog 228 #[.slice x (na+nb) c] W fun e w'=>e=.returned (.slice (some ⟨W.heap.size,0,none⟩) 128 128)/\jJ w' W.heap.size W.heap.size 128 128 (dB (ps++qs))/\Below W.heap.size W w'):=fun W x c h=>
    aCw W x (na+nb) c (ps++qs) (by rw[List.length_append, <-HNA.out, <-HNB.out]) h o_ KN.out
  generalize dB (ps++qs)=NN at *;have KQ:Hid (∀W B g c,jJ W B g 128 c NN->Calls prog 230 #[.slice (some ⟨g,0,none⟩) 128 c,iv A] W fun e w'=>e=.returned (.slice (some ⟨g,0,none⟩) 128 c)/\jJ w' B g 128 c (sqz NN (A / 8) 63)/\W.grownBy w' (some g)):=fun W B g c h=>
    vQ W B g c _ A 600000 h nb6 A0 o_ o_
  generalize sqz NN (A / 8) 63=Q at *;clear nb6;go_upto_region 3 with fail
  -- the literal of nothing
  have lxy:w.heap.size+1+1<w2.heap.size:=R2.lt;have hBA:=((Below.refl w2.heap.size w2).alloc lr_ (.cells #[] 152)).drew;have OE:Hid (aF (w2.alloc (.cells #[] 152)).drew w2.heap.size (.slice (some ⟨w2.heap.size,0,none⟩) 0 0) []):=hd_ (World.ownsRow.drew (lJ w2 w2.heap.size lr_));have XA:=(X2.alloc (.cells #[] 152)).drew;have YA:=(Y2.alloc (.cells #[] 152)).drew
  have RA:=(R2.alloc (.cells #[] 152)).drew;have PA:=hd_ (IA2.out.below hBA lr_);have HBA:=hd_ hBA;have xa0:=XA.cell0;have ya0:=YA.cell0;have LXY:=hd_ lxy;have HXA:=hd_ XA;have HYA:=hd_ YA;have HRA:=hd_ RA;have x0d:=X2.drew.cell0;have y0d:=Y2.drew.cell0;clear hBA XA YA RA lxy X2 Y2 R2 x0 x1 y0 y1
  go_cut [6] (fun q wx=>∃g,q=.slice (some ⟨g,0,none⟩) 128 128/\aNe w w2 wx g NN x na c a y nb d b)
  case first=>
    go_region_law ((first
        |(refine rB rfl _ _ r_ w2.heap.size 0 na na _ _ [] ps r_ r_ OE.out PA.out (by simp) (by rw[<-HNA.out];omega) rfl HNA.out o_ (by simp) ?_;intro y1 c1 w5 ho5 hg5;have X5:=HXA.out.kept hg5 (by simp[Value.ownBlock];have:=LXY.out;omega);have Y5:=HYA.out.kept hg5 (by simp[Value.ownBlock];have:=LXY.out;omega);have R5:=HRA.out.kept hg5 (by simp[Value.ownBlock];have:=LXY.out;omega);have x50:=X5.cell0;have y50:=Y5.cell0;have B5:=hd_ (HBA.out.grown hg5 HBA.out.size (fun k e=>by simp[Value.ownBlock]at e;omega));have P5:=hd_ (IB2.out.below B5.out lr_))
        |(refine rB rfl _ _ r_ w2.heap.size na nb (na+nb) _ _ ps qs r_ r_ ho5 P5.out (by rw[<-HNA.out];omega) (by rw[<-HNB.out];omega) HNA.out HNB.out rfl B5.out.size ?_;intro y2 c2 w6 ho6 hg6;have X6:=hd_ (X5.kept hg6 (X5.not_row dc_ ho5));have Y6:=hd_ (Y5.kept hg6 (Y5.not_row dc_ ho5));have R6:=hd_ (R5.kept hg6 (R5.not_row dc_ ho5));have B6:=hd_ (B5.out.grown hg6 B5.out.size (fun k e=>(World.ownsRow.lt ho5 k e).1));clear X5 Y5 R5 x50 y50)
        |(go_simp;go_at_call 228;refine (KNN.out _ _ _ ho6.rd).mono ?_;rintro e w7 ⟨rfl,hr7,hb7⟩;have CUT:=hd_ (aNe.mk (g:=w6.heap.size) B6.out.size hr7 (X6.out.later hb7) (Y6.out.later hb7) (R6.out.later hb7) (B6.out.trans (hb7.mono B6.out.size)));clear hr7 hb7 ho6 ho5 hg5 hg6)))
    all_goals (go_wp2_with fail;go_meet)
    all_goals exact⟨_,rfl,CUT.out⟩
  case rest=>
    obtain⟨g,rfl,hc⟩:=hcut;have hgl:=hc.row.lt.2;have g0:=hc.new;have KD:=hd_ (KQ.out wc.drew g g 128 (hc.row.drewN 1));have HX:=hd_ hc.X.drew;have HY:=hd_ hc.Y.drew;have HR:=hd_ hc.R.drew;have HBL:Hid (Below w.heap.size w wc.drew):=hd_ ((B2.out.trans (hc.B.mono B2.out.size)).trans (Below.drew (Below.refl _ _)));have x1:=hc.X.drew.cell1;have y1:=hc.Y.drew.cell1;have x1':=hc.X.cell1
    have y1':=hc.Y.cell1;have lxy:=LXY.out;clear hc;go_upto_region 4 with fail
    go_region_held3 (fun w'=>w'.cell? ⟨w.heap.size,1,none⟩=some (.int .i64 a)/\w'.cell? ⟨w.heap.size+1,1,none⟩=some (.int .i64 b)) (first|(with_reducible exact⟨x1,y1⟩)|(with_reducible exact⟨p1,q1⟩)|(with_reducible exact⟨q0,q0'⟩)|(with_reducible exact⟨r0,r0'⟩))
     (first
      |(go_at_call 230;refine KD.out.mono ?_;rintro e w4 ⟨rfl,hr4,hg4⟩;have X4:=HX.out.kept hg4 (by simp;omega);have Y4:=HY.out.kept hg4 (by simp;omega);have R4:=HR.out.kept hg4 (by simp;omega);have p1:=X4.cell1;have q1:=Y4.cell1;have B4:=hd_ (HBL.out.trans (oJ hg4 o_ HBL.out.size));have KE:=hd_ (aB0 w4 g g 128 Q hr4);have SZ:=hd_ hg4.size;clear hr4 hg4)
      |(go_at_call 229;refine KE.out.mono ?_;rintro e w5 ⟨v,rfl,ho5,hb5⟩;obtain⟨xz,cz,rfl,_,_⟩:=ho5.form;have R5:=R4.later hb5;have f2:=R5.free;have z0:=R5.cell0;have z1:=R5.cell1;have X5:=X4.later hb5;have q0:=X5.cell1;have Y5:=Y4.later hb5;have q0':=Y5.cell1;have B5:=hd_ (B4.out.trans (hb5.mono B4.out.size));have XZ:=X5.kept ((aA w5 ⟨w.heap.size+1+1,0,none⟩ (.slice xz (kV Q).length cz)).trans (aA _ ⟨w.heap.size+1+1,1,none⟩ (iv A))) (by simp;omega);have YZ:=Y5.kept ((aA w5 ⟨w.heap.size+1+1,0,none⟩ (.slice xz (kV Q).length cz)).trans (aA _ ⟨w.heap.size+1+1,1,none⟩ (iv A))) (by simp);have r0:=XZ.cell1;have r0':=YZ.cell1;clear XZ YZ hb5))
    have RZ:=R5.set (.slice xz (kV Q).length cz) (iv A);have hr0:=RZ.cell0;have hr1:=RZ.cell1;have OZ:=hd_ ((ho5.set2 (R5.not_row dc_ ho5) (.slice xz (kV Q).length cz) (iv A)).base (B':=w.heap.size) (by have:=SZ.out;simp at this;omega));have BZ:=hd_ (gF (b:=w.heap.size+1+1) B5.out o_ (.slice xz (kV Q).length cz) (iv A))
    clear ho5 X4 Y4 R4 X5 Y5 R5 RZ f2 z0 z1 q0 q0' p1 q1 r0 r0';go_wp2;exact bodyPost_ret (v:=.tuple #[.agg #[.slice xz (kV Q).length cz,iv A],.bool true]) (by simp[results,results173,go_sem,hr0,hr1]) rfl ⟨_,rfl,by rw[EB.out];exact OZ.out,BZ.out⟩
theorem aBN (w:World) (u v:Value) (ps:List Pr) (a:Int) (qs:List Pr) (b:Int) (hp:Prs w u ps) (hq:Prs w v qs) (hno:dD ps a qs b=false):
    Calls prog 173 #[.agg #[u,iv a],.agg #[v,iv b]] w fun e w'=>e=.returned (.tuple #[.agg #[zn,iv 0],.bool false])/\Below w.heap.size w w':=by
  obtain⟨W,hW⟩:=nm_ (((w.alloc (.cells #[u,iv a] 44)).alloc (.cells #[v,iv b] 44)).alloc (.cells #[zn,iv 0] 44));have hA:Below w.heap.size w W:=by rw[hW];exact (((Below.refl _ _).alloc lr_ _).alloc (by simp) _).alloc (by simp;omega) _
  have X:aS W w.heap.size 44 u (iv a):=by rw[hW];exact ((aS.new _ _ _ _).alloc _).alloc _
  have Y:aS W (w.heap.size+1) 44 v (iv b):=by
    exact zAH
  have R:aS W (w.heap.size+1+1) 44 zn (iv 0):=by
    exact zAG
  have IA:=hd_ (hp.below hA lr_);have IB:=hd_ (hq.below hA lr_);have KA:=hd_ (iS W u ps a IA.out);have KB:Hid (∀W,Prs W v qs->Calls prog 222 #[.agg #[v,iv b]] W fun e w'=>e=.returned (.bool (cL qs b))/\Below W.heap.size W w'):=fun W h=>iS W v qs b h
  obtain⟨x,c,rfl,_,_⟩:=hp.form;obtain⟨y,d,rfl,_,_⟩:=hq.form;obtain⟨na,hna⟩:=nm_ ps.length;obtain⟨nb,hnb⟩:=nm_ qs.length;rw[<-hna]at KA hW X IA;rw[<-hnb]at KB hW Y IB;rw[<-hna, <-hnb];have HA:=hd_ hA;have x0:=X.cell0;have x1:=X.cell1;have y0:=Y.cell0;have y1:=Y.cell1;have CASES:Hid (cL ps a=true->cL qs b=true->(0<=a/\a<=2000)/\(0<=b/\b<=2000)/\2000<a+b):=fun h1 h2=>by
    exact zB3
  have HW:=hd_ hW;have END:Hid (∀w1,Below W.heap.size W w1->aS w1 (w.heap.size+1+1) 44 zn (iv 0)/\Below w.heap.size w ((w1.setCell ⟨w.heap.size+1+1,0,none⟩ zn).setCell ⟨w.heap.size+1+1,1,none⟩ (iv 0))):=fun w1 h=>
    ⟨R.later h,gF (b:=w.heap.size+1+1) (hA.trans (h.mono hA.size)) o_ zn (iv 0)⟩
  clear hp hq hno hA hna hnb hW R;cases ka:cL ps a with
  |false=>
    rw[ka]at KA;clear CASES ka;go_enter func173,ntmps173
    go_wp2_with fail
    rw[<-HW.out]
    go_wp2_with fail
    refine KA.out.mono ?_;rintro e w1 ⟨rfl,hb1⟩;obtain⟨R1,hl⟩:=END.out w1 hb1;have BZ:=hd_ hl;have z0:=R1.cell0;have z1:=R1.cell1;have f2:=R1.free;have RZ:=R1.set zn (iv 0);have hr0:=RZ.cell0;have hr1:=RZ.cell1;clear R1 RZ x0 x1 y0 y1 X Y hb1 hl;go_wp2;exact zAY
  |true=>
    rw[ka]at KA;cases kb:cL qs b with
    |false=>
      rw[kb]at KB;clear CASES ka kb;go_enter func173,ntmps173
      go_wp2_with fail
      rw[<-HW.out]
      go_wp2_with fail
      refine KA.out.mono ?_;rintro e w1 ⟨rfl,hb1⟩;have X1:=X.later hb1;have Y1:=Y.later hb1;have IB1:=hd_ (IB.out.below hb1 lr_);have HB1:=hd_ hb1;clear hb1 X Y x0 x1 y0 y1;have x0:=X1.cell0;have x1:=X1.cell1;have y0:=Y1.cell0;have y1:=Y1.cell1
      go_wp2_with fail
      refine (KB.out _ IB1.out).mono ?_;rintro e w2 ⟨rfl,hb2⟩;obtain⟨R1,hl⟩:=END.out w2 (HB1.out.trans (hb2.mono HB1.out.size));have BZ:=hd_ hl;have z0:=R1.cell0;have z1:=R1.cell1;have f2:=R1.free;have RZ:=R1.set zn (iv 0);have hr0:=RZ.cell0;have hr1:=RZ.cell1;clear R1 RZ x0 x1 y0 y1 X1 Y1 hb2 hl;go_wp2
      exact zAY
    |true=>
      rw[kb]at KB;obtain⟨⟨a0,a1⟩,⟨b0,b1⟩,hs⟩:=CASES.out ka kb;have ws:IntKind.i64.wrap (a+b)=a+b:=IntWalk.i64_in _ o_;have hgt:decide ((2000:Int)<a+b)=true:=decide_eq_true hs;clear CASES ka kb;go_enter func173,ntmps173
      go_wp2_with fail
      rw[<-HW.out]
      go_wp2_with fail
      refine KA.out.mono ?_;rintro e w1 ⟨rfl,hb1⟩;have X1:=X.later hb1;have Y1:=Y.later hb1;have IB1:=hd_ (IB.out.below hb1 lr_);have HB1:=hd_ hb1;clear hb1 X Y x0 x1 y0 y1;have x0:=X1.cell0;have x1:=X1.cell1;have y0:=Y1.cell0;have y1:=Y1.cell1
      go_wp2_with fail
      refine (KB.out _ IB1.out).mono ?_;rintro e w2 ⟨rfl,hb2⟩;obtain⟨R1,hl⟩:=END.out w2 (HB1.out.trans (hb2.mono HB1.out.size));have X2:=X1.later hb2;have Y2:=Y1.later hb2;have BZ:=hd_ hl;have z0:=R1.cell0;have z1:=R1.cell1;have f2:=R1.free;have RZ:=R1.set zn (iv 0);have hr0:=RZ.cell0;have hr1:=RZ.cell1;clear R1 RZ x0 x1 y0 y1 X1 Y1 hb2 hl;have x1:=X2.cell1;have y1:=Y2.cell1;clear X2 Y2
      go_wp2;exact zAY
theorem aBf (w:World) (u v:Value) (ps:List Pr) (a:Int) (qs:List Pr) (b:Int) (hp:Prs w u ps) (hq:Prs w v qs):
    Calls prog 173 #[.agg #[u,iv a],.agg #[v,iv b]] w fun e w'=>∃x,e=.returned (.tuple #[.agg #[x,.int .i64 (gK ps a qs b).2],.bool (dD ps a qs b)])/\aF w' w.heap.size x (gK ps a qs b).1/\Below w.heap.size w w':=by
  cases h:dD ps a qs b with
  |false=>
    rw[aEe h];exact (aBN w u v ps a qs b hp hq h).mono fun e w' ⟨he,hb⟩=>⟨_,he,aF.nil _ _,hb⟩
  |true=>
    rw[sZ h];obtain⟨k1,k2,k3⟩:=rI h;exact aAu w u v ps a qs b hp hq k1 k2 k3
end Go.Proofs.YtcblbdpdbggkbaaGreat.K
namespace Go.Proofs.YtcblbdpdbggkbaaGreat.K
open _root_.Go.Proofs.Tryz
theorem wJ {ps qs:List Pr} {a b:Int} (h:dD ps a qs b=true):
    dS ps a/\dS qs b/\dD qs b ps a=true/\gK qs b ps a=gK ps a qs b/\(gK ps a qs b).2=a+b/\dS (gK ps a qs b).1 (gK ps a qs b).2/\
      ∀t:Int,gX (gK ps a qs b).1 t<=gX ps t+gX qs t/\kL ps t+kL qs t<=kL (gK ps a qs b).1 t:=by
  obtain⟨ka,kb,hs⟩:=rI h;have PA:=(dN _ _).1 ka;have PB:=(dN _ _).1 kb;have hb:dD qs b ps a=true:=by
    unfold dD;rw[ka,kb];simp;omega
  rw[sZ h,sZ hb];refine⟨PA,PB,hb,?_,rfl,aLq PA PB hs,fun t=>⟨aFR PA PB t,aIK PA PB t⟩⟩;rw[aHM PB PA,Int.add_comm]
theorem aFx {ps:List Pr} {a t:Int} (h:fT ps a t=true):
    dS ps a/\(0<=t/\t<=63)/\(mG ps a t).2=a+1/\dS (mG ps a t).1 (mG ps a t).2/\
      ∀i:Int,gX (mG ps a t).1 i<=gX ps i+(if t<=i then 1 else 0)/\kL ps i+(if t<=i then 1 else 0)<=kL (mG ps a t).1 i:=by
  obtain⟨ka,ht,hs⟩:=aAL h;have J:=aAm ps a t ht;rw[<-J.1]at h;obtain⟨p1,p2,p3,p4,p5,p6,p7⟩:=wJ h;rw[<-J.2];refine⟨p1,ht,p5,p6,fun i=>?_⟩;have:=p7 i;rw[aH7 t i ht,aKe t i ht]at this;exact this
end Go.Proofs.YtcblbdpdbggkbaaGreat.K
namespace Go.Proofs.YtcblbdpdbggkbaaGreat
open _root_.Go.Proofs.Tryz
open Go.RowKit Go.Sort
structure Sm where
 rs:List (List Int)
 zs:List Int
 ps:List T.Pr
 lo:Int
 al:Int
 ks:List K.Pr
 ka:Int
def eC:Sm:=⟨[],[],[],0,0,[],0⟩
def fE:Sm:=⟨gW,[],[],0,0,[],0⟩
def okS (s:Sm):Bool:=okB s.rs&&(eE s.zs&&(T.cV s.ps s.lo s.al&&(K.cL s.ks s.ka&&(decide (dA s.rs=s.al)&&(decide (s.al=s.ka)&&decide (0<s.zs.length↔0<s.al))))))
structure Ok (s:Sm):Prop where
 r:okB s.rs=true
 f:eE s.zs=true
 t:T.cV s.ps s.lo s.al=true
 k:K.cL s.ks s.ka=true
 ra:dA s.rs=s.al
 ta:s.al=s.ka
 fa:0<s.zs.length↔0<s.al
theorem bM (s:Sm):okS s=true↔Ok s:=by
 unfold okS;simp only[Bool.and_eq_true,decide_eq_true_eq];exact⟨fun⟨a,b,c,d,e,f,g⟩=>⟨a,b,c,d,e,f,g⟩,fun⟨a,b,c,d,e,f,g⟩=>⟨a,b,c,d,e,f,g⟩⟩
theorem aKf:okS eC=false:=rfl
theorem sU:okS fE=true:=by decide+kernel
theorem Ok.al0 {s:Sm} (h:Ok s):0<=s.al/\s.al<=2000:=by
 have:=((T.cG _ _ _).1 h.t).1;exact this.2.2
def cH (s:Sm) (t:Int):Bool:=okS s&&(decide (0<=t/\t<=63)&&decide (s.al<2000))
def aAb (s:Sm) (t:Int):Sm:=⟨tH s.rs t 1,kP s.zs t,(T.gJ s.ps s.lo s.al t).1,(T.gJ s.ps s.lo s.al t).2.1,(T.gJ s.ps s.lo s.al t).2.2,(K.mG s.ks s.ka t).1,(K.mG s.ks s.ka t).2⟩
def eT (s:Sm) (t:Int):Sm:=if cH s t=true then aAb s t else eC
theorem mW {s:Sm} {t:Int} (h:cH s t=false):eT s t=eC:=if_neg (by rw[h];simp)
theorem kH {s:Sm} {t:Int} (h:cH s t=true):eT s t=aAb s t:=if_pos h
theorem jR (s:Sm) (t:Int):cH s t=true↔Ok s/\(0<=t/\t<=63)/\s.al<2000:=by
 unfold cH;simp only[Bool.and_eq_true,decide_eq_true_eq,bM]
structure aKz (s:Sm) (u:Int):Prop where
 ok:Ok s
 thing:0<=u/\u<=63
 room:s.al<2000
 r:nZ s.rs u 1=true
 f:fF s.zs u=true
 t:T.iJ s.ps s.lo s.al u=true
 k:K.fT s.ks s.ka u=true
theorem wZ {s:Sm} {t:Int} (h:cH s t=true):aKz s t:=by
 obtain⟨ok,ht,hr⟩:=(jR s t).1 h;have ra:=ok.ra;have ta:=ok.ta;refine⟨ok,ht,hr,(kQ _ _ _).2 ⟨ok.r,ht.1,by omega,by omega,by omega⟩,?_,?_,?_⟩
 ·unfold fF jL
  rw[ok.f,decide_eq_true (by omega)];rfl
 ·unfold T.iJ T.isT
  rw[ok.t,decide_eq_true (by omega),decide_eq_true (by omega)];rfl
 ·unfold K.fT
  rw[ok.k,decide_eq_true (by omega),decide_eq_true (by omega)];rfl
theorem tB {s:Sm} {t:Int} (h:cH s t=true):Ok (eT s t)/\(eT s t).al=s.al+1:=by
 have A:=wZ h;have R:=aLw A.r;have F:=aI5 A.f;have M:=T.aHx A.t;have S:=K.aFx A.k;have f0:0<(kP s.zs t).length:=by
  apply Classical.byContradiction;intro q;have e:kP s.zs t=[]:=List.eq_nil_of_length_eq_zero (by omega);rw[sF A.f,uN (kS A.ok.f)]at e;have:fW t ∈ dG s.zs [fW t]:=(fK _ _ _).2 (.inr (by simp));unfold dW at e;have e':dG s.zs [fW t]=[]:=by
   cases hq:dG s.zs [fW t]with
   |nil=>rfl
   |cons x l=>rw[hq]at e;simp at e
  rw[e']at this;simp at this
 rw[kH h];have a0:=A.ok.al0;refine⟨⟨R.1,F.1,M.top,(K.dN _ _).2 S.2.2.2.1,?_,?_,?_⟩,M.na'⟩
 ·show dA (tH s.rs t 1)=(T.gJ s.ps s.lo s.al t).2.2
  rw[R.2,M.na',A.ok.ra]
 ·show (T.gJ s.ps s.lo s.al t).2.2=(K.mG s.ks s.ka t).2
  rw[M.na',S.2.2.1,A.ok.ta]
 ·show 0<(kP s.zs t).length↔0<(T.gJ s.ps s.lo s.al t).2.2
  rw[M.na'];exact⟨fun _=>by omega,fun _=>f0⟩
def aY (a b:Sm):Bool:=okS a&&(okS b&&decide (a.al+b.al<=2000))
def zM (a b:Sm):Sm:=⟨dP a.rs b.rs,fH a.zs b.zs,(T.eO a.ps a.lo a.al b.ps b.lo b.al).1,(T.eO a.ps a.lo a.al b.ps b.lo b.al).2.1,(T.eO a.ps a.lo a.al b.ps b.lo b.al).2.2,(K.gK a.ks a.ka b.ks b.ka).1,(K.gK a.ks a.ka b.ks b.ka).2⟩
def bY (a b:Sm):Sm:=if aY a b=true then zM a b else eC
theorem nM {a b:Sm} (h:aY a b=false):bY a b=eC:=if_neg (by rw[h];simp)
theorem kC {a b:Sm} (h:aY a b=true):bY a b=zM a b:=if_pos h
theorem kB (a b:Sm):aY a b=true↔Ok a/\Ok b/\a.al+b.al<=2000:=by
 unfold aY;simp only[Bool.and_eq_true,decide_eq_true_eq,bM]
structure aLy (a b:Sm):Prop where
 oka:Ok a
 okb:Ok b
 room:a.al+b.al<=2000
 r:hO a.rs b.rs=true
 f:aU a.zs b.zs=true
 t:T.fB a.ps a.lo a.al b.ps b.lo b.al=true
 k:K.dD a.ks a.ka b.ks b.ka=true
theorem mX {a b:Sm} (h:aY a b=true):aLy a b:=by
 obtain⟨oa,ob,hr⟩:=(kB a b).1 h;have:=oa.ra;have:=oa.ta;have:=ob.ra;have:=ob.ta;refine⟨oa,ob,hr,(jC _ _).2 ⟨oa.r,ob.r,by omega⟩,?_,?_,?_⟩
 ·unfold aU
  rw[oa.f,ob.f];rfl
 ·unfold T.fB
  rw[oa.t,ob.t,decide_eq_true (by omega)];rfl
 ·unfold K.dD
  rw[oa.k,ob.k,decide_eq_true (by omega)];rfl
theorem aIJ {zs ys:List Int}:(0<(dW zs ys).length)↔(0<zs.length\/0<ys.length):=by
 have key:dW zs ys=[]↔zs=[]/\ys=[]:=by
  unfold dW
  constructor
  ·intro e
   have e':dG zs ys=[]:=by
    cases hq:dG zs ys with
    |nil=>rfl
    |cons x l=>rw[hq]at e;simp at e
   have none:∀z,z ∉ dG zs ys:=by rw[e'];simp
   constructor
   ·cases zs with
    |nil=>rfl
    |cons z l=>exact absurd ((fK ys (z::l) z).2 (.inl (by simp))) (none z)
   ·cases ys with
    |nil=>rfl
    |cons z l=>exact absurd ((fK (z::l) zs z).2 (.inr (by simp))) (none z)
  ·rintro⟨rfl,rfl⟩;rfl
 rw[List.length_pos_iff,List.length_pos_iff,List.length_pos_iff]
 constructor
 ·intro h
  apply Classical.byContradiction;intro q;exact h (key.2 ⟨Classical.byContradiction fun e=>q (.inl e),Classical.byContradiction fun e=>q (.inr e)⟩)
 ·intro h e
  obtain⟨e1,e2⟩:=key.1 e;rcases h with h|h
  ·exact h e1
  ·exact h e2
theorem aEH {a b:Sm} (h:aY a b=true):Ok (bY a b)/\(bY a b).al=a.al+b.al:=by
 have A:=mX h;have R:=aEk A.r;have M:=T.aA1 A.t;have S:=K.wJ A.k;have a0:=A.oka.al0;have b0:=A.okb.al0;rw[kC h];refine⟨⟨R.1,oZ _ _,M.top,(K.dN _ _).2 S.2.2.2.2.2.1,?_,?_,?_⟩,M.na'⟩
 ·show dA (dP a.rs b.rs)=(T.eO a.ps a.lo a.al b.ps b.lo b.al).2.2
  rw[R.2,M.na',A.oka.ra,A.okb.ra]
 ·show (T.eO a.ps a.lo a.al b.ps b.lo b.al).2.2=(K.gK a.ks a.ka b.ks b.ka).2
  rw[M.na',S.2.2.2.2.1,A.oka.ta,A.okb.ta]
 ·show 0<(fH a.zs b.zs).length↔0<(T.eO a.ps a.lo a.al b.ps b.lo b.al).2.2
  rw[M.na',iE A.f,aIJ,A.oka.fa,A.okb.fa];omega
def uM (t:Int):Sm:=eT fE t
theorem aLg:Ok fE:=(bM _).1 sU
theorem pE (t:Int):cH fE t=decide (0<=t/\t<=63):=by
 unfold cH;rw[sU];show (true&&(_&&decide ((0:Int)<2000)))=_
 simp
theorem aJ0:∀t:Fin 64,K.mG [] 0 (t.val:Int)=([(64+(t.val:Int),1)],1):=by decide+kernel
theorem aLN:∀t:Fin 64,T.gJ [] 0 0 (t.val:Int)=([((t.val:Int),1)],0,1):=by decide+kernel
theorem aLC:∀t:Fin 64,kP [] (t.val:Int)=[fW (t.val:Int)]:=by decide+kernel
theorem aJt:∀t:Fin 64,tH gW (t.val:Int) 1=wB (t.val:Int) 1:=by decide+kernel
theorem aMz {t:Int} (h0:0<=t) (h1:t<=63):uM t=⟨wB t 1,[fW t],[(t,1)],0,1,[(64+t,1)],1⟩:=by
 obtain⟨n,rfl⟩:=Int.eq_ofNat_of_zero_le h0;have hn:n<64:=by omega
 have a:=aJ0 ⟨n,hn⟩;have b:=aLN ⟨n,hn⟩;have c:=aLC ⟨n,hn⟩;have d:=aJt ⟨n,hn⟩;simp only at a b c d;unfold uM;rw[kH (by rw[pE];simp;omega)];unfold aAb fE;simp only[a,b,c,d]
theorem aJ6 {t:Int} (h:¬(0<=t/\t<=63)):uM t=eC:=mW (by rw[pE];exact decide_eq_false h)
theorem tW (s:Sm) (t:Int):aY s (uM t)=cH s t:=by
 by_cases h:0<=t/\t<=63
 ·have o:=(tB (s:=fE) (t:=t) (by rw[pE];exact decide_eq_true h))
  have e:(uM t).al=1:=o.2;unfold aY cH;rw[(bM (uM t)).2 o.1,e,decide_eq_true h,show decide (s.al+1<=2000)=decide (s.al<2000)from decide_eq_decide.2 ⟨fun q=>by omega,fun q=>by omega⟩]
 ·rw[aJ6 h]
  unfold aY cH;rw[aKf,decide_eq_false h];cases okS s<;>rfl
theorem aIv (s:Sm) (t:Int):bY s (uM t)=eT s t:=by
 by_cases h:cH s t=true
 ·have A:=wZ h
  rw[kH h,kC (by rw[tW];exact h),aMz A.thing.1 A.thing.2];unfold zM aAb;simp only;rw[T.xS,pP, <-wO A.r,(K.aAm s.ks s.ka t A.thing).2]
 ·rw[Bool.not_eq_true]at h
  rw[mW h,nM (by rw[tW];exact h)]
def upS (l:List Int):Sm:=l.foldl eT fE
theorem aAk (l:List Int) (t:Int):upS (l++[t])=eT (upS l) t:=by simp[upS]
theorem aKR (t:Int):eT eC t=eC:=mW rfl
theorem aL2 (l:List Int):l.foldl eT eC=eC:=by
 induction l with
 |nil=>rfl
 |cons t l ih=>simp only[List.foldl_cons,aKR,ih]
theorem aMc {l:List Int} {k:Nat} (hk:k<l.length) (h:cH (upS (l.take k)) (l.getD k 0)=false):upS l=eC:=by
 have e:l=l.take k++(l.getD k 0::l.drop (k+1)):=by
  conv=>lhs;rw[<-List.take_append_drop k l]
  rw[List.drop_eq_getElem_cons hk];simp[hk]
 rw[e];unfold upS;rw[List.foldl_append];show List.foldl eT (eT (upS (l.take k)) (l.getD k 0)) _=_
 rw[mW h,aL2]
theorem zC {l:List Int} {k:Nat} (hk:k<l.length):upS (l.take (k+1))=eT (upS (l.take k)) (l.getD k 0):=by
 rw[List.take_succ_eq_append_getElem hk,aAk];simp[hk]
theorem aCI {P:List Int->Sm->Prop} (h0:P [] fE) (h1:∀l s t,P l s->aKz s t->P (l++[t]) (aAb s t)):∀l:List Int,okS (upS l)=true->P l (upS l):=by
 have key:∀n (l:List Int),l.length=n->okS (upS l)=true->P l (upS l):=by
  intro n
  induction n with
  |zero=>intro l hl _;obtain rfl:=List.eq_nil_of_length_eq_zero hl;exact h0
  |succ n ih=>
   intro l hl ok;have e:l=l.take n++[l.getD n 0]:=by
    conv=>lhs;rw[<-List.take_of_length_le (Nat.le_of_eq hl)]
    rw[List.take_succ_eq_append_getElem (by omega)];simp[show n<l.length by omega]
   rw[e]at ok ⊢;rw[aAk]at ok ⊢
   by_cases ha:cH (upS (l.take n)) (l.getD n 0)=true
   ·have A:=wZ ha
    rw[kH ha];exact h1 _ _ _ (ih (l.take n) (by simp;omega) ((bM _).2 A.ok)) A
   ·rw[Bool.not_eq_true]at ha
    rw[mW ha]at ok;exact absurd ok (by rw[aKf];simp)
 exact fun l=>key l.length l rfl
theorem pV {l:List Int} (h:okS (upS l)=true):(upS l).al=l.length/\∀t ∈ l,0<=t/\t<=63:=by
 refine aCI (P:=fun l s=>s.al=l.length/\∀t ∈ l,0<=t/\t<=63) ⟨rfl,by simp⟩ (fun l s t hp A=>⟨?_,fun u hu=>?_⟩) l h
 ·have:=(tB (s:=s) (t:=t) ((jR _ _).2 ⟨A.ok,A.thing,A.room⟩))
  rw[kH ((jR _ _).2 ⟨A.ok,A.thing,A.room⟩)]at this;rw[this.2,hp.1];simp
 ·rcases List.mem_append.1 hu with q|q
  ·exact hp.2 u q
  ·rw[List.mem_singleton.1 q];exact A.thing
theorem aCV {l:List Int} (h:∀t ∈ l,0<=t/\t<=63) (hl:l.length<=2000):okS (upS l)=true:=by
 have key:∀n,n<=l.length->okS (upS (l.take n))=true:=by
  intro n
  induction n with
  |zero=>intro _;rw[List.take_zero];exact sU
  |succ n ih=>
   intro hn;have ok:=ih (by omega);rw[zC (by omega)];have g:=h (l.getD n 0) (lW l n 0 (by omega));have e:=(pV ok).1;rw[List.length_take]at e;have ha:cH (upS (l.take n)) (l.getD n 0)=true:=(jR _ _).2 ⟨(bM _).1 ok,g,by omega⟩;exact (bM _).2 (tB ha).1
 have:=key l.length lr_;rwa[List.take_length]at this
theorem aNg {l:List Int} (h:okS (upS l)=false):upS l=eC:=by
 have key:∀n,n<=l.length->okS (upS (l.take n))=true\/upS (l.take n)=eC:=by
  intro n
  induction n with
  |zero=>intro _;left;rw[List.take_zero];exact sU
  |succ n ih=>
   intro hn;rw[zC (by omega)]
   by_cases ha:cH (upS (l.take n)) (l.getD n 0)=true
   ·left;exact (bM _).2 (tB ha).1
   ·rw[Bool.not_eq_true]at ha
    right;exact mW ha
 have:=key l.length lr_;rw[List.take_length,h]at this;rcases this with q|q
 ·cases q
 ·exact q
abbrev cnt (l:List Int) (p:Int->Bool):Int:=((l.countP p:Nat):Int)
theorem aFo (l:List Int) (t:Int) (p:Int->Bool):cnt (l++[t]) p=cnt l p+if p t=true then 1 else 0:=by
 show (((l++[t]).countP p:Nat):Int)=_
 rw[List.countP_append,List.countP_cons,List.countP_nil]
 by_cases h:p t=true<;>simp[h]
theorem aAo (l m:List Int) (p:Int->Bool):cnt (l++m) p=cnt l p+cnt m p:=by
 show (((l++m).countP p:Nat):Int)=_
 rw[List.countP_append];exact Int.natCast_add _ _
abbrev aA4 (l:List Int) (t:Int):Int:=cnt l fun z=>decide (z=t)
abbrev zF (l:List Int) (t:Int):Int:=cnt l fun z=>decide (z<=t)
theorem aI6 (l:List Int) (u t:Int):aA4 (l++[u]) t=aA4 l t+if u=t then 1 else 0:=by
 refine (aFo l u _).trans ?_;simp only[decide_eq_true_eq]
theorem aIY (l:List Int) (u t:Int):zF (l++[u]) t=zF l t+if u<=t then 1 else 0:=by
 refine (aFo l u _).trans ?_;simp only[decide_eq_true_eq]
theorem T.over_nn {ps:List T.Pr} (h:∀p ∈ ps,0<=p.2):0<=T.bN ps:=(T.vG h).2
theorem T.add_tot {ps:List T.Pr} {lost all t:Int} (h:T.iJ ps lost all t=true) (u:Int):
  T.tot (T.gJ ps lost all t).1 u<=T.tot ps u+(if t=u then 1 else 0)/\T.tot ps u+(if t=u then 1 else 0)+lost<=T.tot (T.gJ ps lost all t).1 u+(T.gJ ps lost all t).2.1:=by
 have A:=(T.cG _ _ _).1 (T.aHx h).was;have up:=(A.asc.up).put (x:=(t,1));have pos:=(A.pos).put (x:=(t,1)) (show (0:Int)<1 by decide);have nn:∀p ∈ T.dC ps (t,1),0<=p.2:=fun p hp=>by have:=pos p hp;omega
 have L:=T.zR up (T.over_nn nn) nn u;have P:=T.aDP ps (t,1) u;rw[T.aA9 h];show T.tot (T.cE _ _) u<=_/\_<=T.tot (T.cE _ _) u+(lost+T.bN _)
 simp only at P;omega
theorem T.join_tot {ps qs:List T.Pr} {la aa lb ab:Int} (h:T.fB ps la aa qs lb ab=true) (u:Int):
  T.tot (T.eO ps la aa qs lb ab).1 u<=T.tot ps u+T.tot qs u/\T.tot ps u+T.tot qs u+(la+lb)<=T.tot (T.eO ps la aa qs lb ab).1 u+(T.eO ps la aa qs lb ab).2.1:=by
 have A:=(T.cG _ _ _).1 (T.aA1 h).was;rw[<-T.xV]at h;have B:=(T.cG _ _ _).1 (T.aA1 h).was;rw[T.xV]at h;obtain⟨up,pos,_,tt⟩:=T.lD ps qs A.asc.up A.pos B.pos;have nn:∀p ∈ T.bL ps qs,0<=p.2:=fun p hp=>by have:=pos p hp;omega
 have L:=T.zR up (T.over_nn nn) nn u;have P:=tt u;rw[T.oW h];show T.tot (T.cE _ _) u<=_/\_<=T.tot (T.cE _ _) u+(la+lb+T.bN _)
 omega
theorem aJY:∀l:List Int,okS (upS l)=true->∀t,T.tot (upS l).ps t<=aA4 l t/\aA4 l t<=T.tot (upS l).ps t+(upS l).lo:=
 aCI (P:=fun l s=>∀t,T.tot s.ps t<=aA4 l t/\aA4 l t<=T.tot s.ps t+s.lo) (fun t=>⟨Int.le_refl _,Int.le_refl _⟩) (fun l s u hp A t=>by
    have h1:=hp t
    have h2:=T.add_tot A.t t
    show T.tot (T.gJ s.ps s.lo s.al u).1 t<=_/\_<=T.tot (T.gJ s.ps s.lo s.al u).1 t+(T.gJ s.ps s.lo s.al u).2.1
    rw[aI6]
    omega)
theorem aIc:∀l:List Int,okS (upS l)=true->∀t,K.gX (upS l).ks t<=zF l t/\zF l t<=K.kL (upS l).ks t:=
 aCI (P:=fun l s=>∀t,K.gX s.ks t<=zF l t/\zF l t<=K.kL s.ks t) (fun t=>⟨Int.le_refl _,Int.le_refl _⟩) (fun l s u hp A t=>by
    have h1:=hp t
    have h2:=(K.aFx A.k).2.2.2.2 t
    show K.gX (K.mG s.ks s.ka u).1 t<=_/\_<=K.kL (K.mG s.ks s.ka u).1 t
    rw[aIY]
    omega)
theorem aE5 {a:List Int} (ha:okS (upS a)=true):∀b:List Int,okS (upS b)=true->(upS a).al+(upS b).al<=2000->dP (upS a).rs (upS b).rs=(upS (a++b)).rs/\fH (upS a).zs (upS b).zs=(upS (a++b)).zs:=by
 intro b hb;have oa:=(bM _).1 ha;have oka:=pV ha;refine (aCI (P:=fun b s=>(∀t ∈ b,0<=t/\t<=63)/\s.al=b.length/\Ok s/\((upS a).al+s.al<=2000->dP (upS a).rs s.rs=(upS (a++b)).rs/\fH (upS a).zs s.zs=(upS (a++b)).zs)) ⟨by simp,rfl,aLg,fun _=>?_⟩ (fun l s u hp A=>?_) b hb).2.2.2
 ·rw[List.append_nil]
  refine⟨(aJe oa.r).2,?_⟩;have hj:aU (upS a).zs fE.zs=true:=by unfold aU;rw[oa.f];rfl
  rw[iE hj];show ((upS a).zs).take 6=_
  exact List.take_of_length_le ((vJ _).1 oa.f).1
 ·obtain⟨h1,h2,h3,h4⟩:=hp
  have hadd:cH s u=true:=(jR _ _).2 ⟨A.ok,A.thing,A.room⟩;have hs:=tB hadd;rw[kH hadd]at hs;refine⟨fun t ht=>?_,by rw[hs.2,h2];simp,hs.1,fun hr=>?_⟩
  ·rcases List.mem_append.1 ht with q|q
   ·exact h1 t q
   ·rw[List.mem_singleton.1 q];exact A.thing
  ·rw[hs.2]at hr
   obtain⟨r1,r2⟩:=h4 (by omega);have lenA:=oka.1;have okab:okS (upS (a++l))=true:=aCV (fun t ht=>by
        rcases List.mem_append.1 ht with q|q
        · exact oka.2 t q
        · exact h1 t q) (by rw[List.length_append];omega)
   have lab:=(pV okab).1;rw[List.length_append]at lab;have hadd':cH (upS (a++l)) u=true:=(jR _ _).2 ⟨(bM _).1 okab,A.thing,by omega⟩;have A':=wZ hadd';rw[<-List.append_assoc,aAk,kH hadd']
   constructor
   ·show dP _ (tH s.rs u 1)=tH (upS (a++l)).rs u 1
    rw[wO A.r,wO A'.r,aED,r1]
   ·show fH _ (kP s.zs u)=kP (upS (a++l)).zs u
    have hm:aU s.zs [fW u]=true:=by rw[uV];exact A.f
    have hj:aU (upS a).zs s.zs=true:=by unfold aU;rw[oa.f,A.ok.f];rfl
    rw[<-pP, <-pP, <-r2];have J:=aFW (xs:=[fW u]) hj;refine J.2 ?_;rw[J.1,hm,Bool.true_and];unfold aU;rw[oa.f,oZ];rfl
end Go.Proofs.YtcblbdpdbggkbaaGreat
