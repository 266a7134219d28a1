/-
  What the laws of Reach need of the texts before it, part 5.
-/
import Derived.ArgAppend
import Derived.BigQuiet
import Derived.Deep.AppendLies
import Derived.Deep.Cut
import Derived.Deep.DeepCutAuto
import Derived.Deep.DrawnRows
import Derived.Deep.MidRow
import Derived.Deep.OwnRows
import Derived.Deep.QuietTactic
import Derived.Deep.RegionHeld3
import Derived.Deep.RegionLaw
import Derived.Deep.RegionLawGrows
import Derived.Deep.RegionWith
import Derived.Deep.WholeRow
import Derived.DeepKeys5
import Derived.IntWalk
import Derived.KernelRfl
import Derived.Laws.AppendOwnNone
import Derived.Laws.EntriesVeiled
import Derived.Laws.ResultCell
import Derived.Lib.AppendZerosOnto
import Derived.Lib.Hide
import Derived.Lib.QuietBelow
import Derived.Lib.SliceRun
import Derived.Lib.Walk
import Derived.LoopIn
import Derived.LoopNIn
import Derived.Maps.AppendAt
import Derived.Maps.Keyed
import Derived.OneCell
import Derived.OpenShut
import Derived.OrdersHeld
import Derived.OwnWalkIn
import Derived.RangeFuncBound
import Derived.RangeFuncBox
import Derived.RangeFuncCalls
import Derived.RangeFuncLeaves
import Derived.RangeFuncNested
import Derived.RegionTactic
import Derived.Shelf.Abstract
import Derived.Shelf.RegionOpen
import Derived.Shelf.SlSortCmp.InsertionK
import Derived.StillTail
import Derived.TacticsInMore
import Derived.Test.YtcblbdpdbggkbaaGreatRows
import Derived.WalkKit
import Derived.WalkLawsBesides
import Derived.WalkSpells
import Derived.Test.YtcblbdpdbggkbaaGreatSReach3
import Derived.Test.YtcblbdpdbggkbaaGreatSReach4
set_option maxRecDepth 100000
set_option maxHeartbeats 16000000
set_option linter.unusedVariables false
set_option linter.unusedSectionVars false
set_option linter.unusedSimpArgs false
namespace Go.Proofs.YtcblbdpdbggkbaaGreat.K
open Go.RowKit Go.Sort
theorem RankP.knB {ps:List Pr} {all:Int} (h:RankP ps all):KnB ps:=fun i hi=>by
 have:=(h.2.1 i hi).1;omega
theorem numsV_all {ps:List Pr} (h:KnB ps) (hl:ps.length<=300):BdN (numsV ps) 600000:=fun i=>by
 have:=numsV_bd h ps.length lr_ i;rw[List.take_of_length_le lr_]at this;omega
def doneK (N:List Int) (all:Int):List Pr:=listV (sqz N (all / 8) 63)
def addOkK (ps:List Pr) (all t:Int):Bool:=rankB ps all&&(decide (0<=t/\t<=63)&&decide (all<2000))
def addK (ps:List Pr) (all t:Int):List Pr × Int:=if addOkK ps all t then (doneK (addN (numsV ps) (64+t,1)) (all+1),all+1)else ([],0)
theorem addK_no {ps:List Pr} {all t:Int} (h:addOkK ps all t=false):addK ps all t=([],0):=by simp[addK,h]
theorem addK_yes {ps:List Pr} {all t:Int} (h:addOkK ps all t=true):addK ps all t=(doneK (addN (numsV ps) (64+t,1)) (all+1),all+1):=by simp[addK,h]
theorem addOkK_yes {ps:List Pr} {all t:Int} (h:addOkK ps all t=true):rankB ps all=true/\(0<=t/\t<=63)/\all<2000:=by
 unfold addOkK at h;simpa using h
theorem spRankAdd_yes (w:World) (u:Value) (ps:List Pr) (all t:Int) (hp:Prs w u ps) (hok:rankB ps all=true) (ht:0<=t/\t<=63) (ha:all<2000):
  Calls Tryz.prog 313 #[.agg #[u,iv all],iv t] w fun e w'=>∃v,e=.returned (.tuple #[.agg #[v,iv (all+1)],.bool true])/\OwnP w' w.heap.size v (doneK (addN (numsV ps) (64+t,1)) (all+1))/\Below w.heap.size w w':=by
 have RK:=(rankB_iff _ _).1 hok;have kf:=knG_few (k:=ps.length) RK.2.1;have kb:=RK.knB;have nb:=numsV_all kb o_;have ha0:=RK.1.1;obtain⟨W0,hW0⟩:=nm_ ((w.alloc (.cells #[u,iv all] 44)).alloc (.cells #[zn,iv 0] 44));have hA:Below w.heap.size w W0:=by rw[hW0];exact ((Below.refl w.heap.size w).alloc lr_ _).alloc (by simp) _
 have X0:Box2 W0 w.heap.size 44 u (iv all):=by rw[hW0];exact (Box2.new _ _ _ _).alloc _
 have R0:Box2 W0 (w.heap.size+1) 44 zn (iv 0):=by
  have h:=Box2.new (w.alloc (.cells #[u,iv all] 44)) 44 zn (iv 0);rw[hW0];simpa using h
 have sW:W0.heap.size=w.heap.size+2:=by rw[hW0];simp
 have I0:=hd_ (hp.below hA lr_);have K:=hd_ (spRankOk_at W0 u ps all I0.out);rw[hok]at K;obtain⟨x,c,hu,_,_⟩:=hp.form;obtain⟨n,hn⟩:=nm_ ps.length;rw[<-hn]at hu kf
 have KN:Hid (∀W,Prs W (.slice x n c) ps->Calls Tryz.prog 228 #[.slice x n c] W fun e w'=>e=.returned (.slice (some ⟨W.heap.size,0,none⟩) 128 128)/\RowI w' W.heap.size W.heap.size 128 128 (numsV ps)/\Below W.heap.size W w'):=fun W h=>l4Nums_in W x n c ps hn.symm h o_ kb
 subst hu;obtain⟨T,hT⟩:∃T:Nat,(64:Int)+t=(T:Int):=⟨(64+t).toNat,o_⟩
 have T1:(T:Int)<128:=o_;have T2:(64:Int)<=(T:Int):=o_;obtain⟨N,hN⟩:=nm_ (numsV ps);rw[<-hN]at KN nb;obtain⟨V,hV⟩:=nm_ (N.getD T 0);have bV:=nb T;rw[<-hV]at bV;have eN:addN (numsV ps) (64+t,1)=N.set T (V+1):=by
  unfold addN;simp only[hT,Int.toNat_natCast, <-hN, <-hV]
 rw[eN];have KQ:Hid (∀W B g c,RowI W B g 128 c (N.set T (V+1))->Calls Tryz.prog 230 #[.slice (some ⟨g,0,none⟩) 128 c,iv (all+1)] W fun e w'=>e=.returned (.slice (some ⟨g,0,none⟩) 128 c)/\RowI w' B g 128 c (sqz (N.set T (V+1)) ((all+1) / 8) 63)/\W.grownBy w' (some g)):=fun W B g c h=>
  l4Squeeze_at W B g c _ (all+1) 600001 h (BdN.set (fun i=>by have:=nb i;omega) T o_ o_) o_ o_ o_
 have HVV:=hd_ hV;have EL:Hid (listV (sqz (N.set T (V+1)) ((all+1) / 8) 63)=doneK (N.set T (V+1)) (all+1)):=by show _=_;unfold doneK;rfl
 obtain⟨Q,hQ⟩:=nm_ (sqz (N.set T (V+1)) ((all+1) / 8) 63);rw[<-hQ]at KQ EL;generalize doneK (N.set T (V+1)) (all+1)=ds at *;have HW0:=hd_ hW0;have HA:=hd_ hA;have HS:=hd_ sW;have x0:=X0.cell0;have x1:=X0.cell1;have KT:Hid (∀W,Calls Tryz.prog 66 #[iv t,iv 0,iv 63] W fun e w'=>e=.returned (.bool true)/\W=w'):=fun W=>l6In_yes t 0 63 W ht.1 ht.2
 clear hA hW0 hn hp hok RK kb nb eN hN hV hQ sW kf;go_enter Tryz.func313,Tryz.ntmps313
 go_wp2_with fail
 rw[<-HW0.out]
 go_wp2_with fail
 refine K.out.mono ?_;rintro e w1 ⟨rfl,hb1⟩;have X1:=X0.later hb1;have R1:=R0.later hb1;have B1:=hd_ (HA.out.trans (hb1.mono HA.out.size));have I1:=hd_ (I0.out.below hb1 lr_);have S1:w.heap.size+2<=w1.heap.size:=by have:=hb1.size;have:=HS.out;omega
 clear hb1 X0 R0 x0 x1 K HA I0;have x0:=X1.cell0;have x1:=X1.cell1
 go_wp2_with fail
 refine (KT.out _).mono ?_;rintro e w' ⟨rfl,rfl⟩;have hge:decide ((2000:Int)<=all)=false:=decide_eq_false o_;have HT:=hd_ (And.intro hT (And.intro T1 (And.intro T2 (And.intro bV (And.intro S1 (And.intro ha0 ht))))));clear hT T1 T2 bV S1 ha0 ht
 go_wp2_with fail
 obtain⟨hT,T1,T2,bV,S1,ha0,ht⟩:=HT.out;refine (KN.out w1 I1.out).mono ?_;rintro e w2 ⟨rfl,hr,hb2⟩;have X2:=X1.later hb2;have R2:=R1.later hb2;have B2:=hd_ (B1.out.trans (hb2.mono B1.out.size));have c0:=hr.cell (i:=T) o_;rw[<-HVV.out]at c0;have f0:=hr.free T;have RS:=hd_ (hr.set T (V+1));have gS:=grownBy_setCell w2 ⟨w1.heap.size,T,none⟩ (iv (V+1));have X3:=X2.kept gS (by simp;omega)
 have R3:=R2.kept gS (by simp;omega);have B3:Hid (Below w.heap.size w (w2.setCell ⟨w1.heap.size,T,none⟩ (iv (V+1)))):=hd_ (B2.out.setCell (by show w.heap.size<=w1.heap.size;omega) _);have ws0:IntKind.i64.wrap (V+1)=V+1:=IntWalk.i64_in _ o_;obtain⟨w3,hw3⟩:=nm_ (w2.setCell ⟨w1.heap.size,T,none⟩ (iv (V+1)));have l2:w1.heap.size<w2.heap.size:=hr.lt.2;have z3:w3.heap.size=w2.heap.size:=by rw[hw3];simp
 rw[<-hw3]at RS X3 R3 B3;clear hb2 hr x0 x1 X1 R1 X2 R2 gS
 go_wp2_with fail
 rw[<-hw3];clear hw3 c0 f0;have x0:=X3.cell0;have x1:=X3.cell1;have ws:IntKind.i64.wrap (all+1)=all+1:=IntWalk.i64_in _ o_;have KD:=hd_ (KQ.out w3.drew w1.heap.size w1.heap.size 128 (RS.out.drewN 1))
 go_region_with (first|(go_at_call 230;refine KD.out.mono ?_;rintro e w4 ⟨rfl,hr4,hg4⟩;have X4:=X3.drew.kept hg4 (by simp;omega);have y0:=X4.cell0;have y1:=X4.cell1;have R4:=R3.drew.kept hg4 (by simp;omega);have KE:=hd_ (l4List_at w4 w1.heap.size w1.heap.size 128 Q hr4))|(go_at_call 229;refine KE.out.mono ?_;rintro e w5 ⟨v,rfl,ho5,hb5⟩;rw[EL.out]at ho5;obtain⟨xz,cz,rfl,_,_⟩:=ho5.form;have R5:=R4.later hb5;have f2:=R5.free;have z0:=R5.cell0;have z1:=R5.cell1;have X5:=X4.later hb5;have q0:=X5.cell0;have q1:=X5.cell1))
 all_goals
  have RZ:=R5.set (.slice xz ds.length cz) (iv (all+1));have hr0:=RZ.cell0;have hr1:=RZ.cell1;have s4:w3.heap.size<=w4.heap.size:=hg4.size;have B4:=hd_ ((B3.out.trans (Below.drew (Below.refl _ _))).trans (below_grown hg4 (by show w.heap.size<=w1.heap.size;omega) (by show w.heap.size<=w3.heap.size;omega)))
  have OZ:=hd_ ((ho5.set2 (R5.not_row (by decide) ho5) (.slice xz ds.length cz) (iv (all+1))).base (B':=w.heap.size) o_);have BZ:=hd_ (below_set2 (b:=w.heap.size+1) (B4.out.trans (hb5.mono o_)) (Nat.le_succ _) (.slice xz ds.length cz) (iv (all+1)));clear ho5 hb5 hr4 hg4 X4 R4 X5 R5 RZ y0 y1 f2 z0 z1 q0 q1 s4 B4;go_wp2
  exact bodyPost_ret (v:=.tuple #[.agg #[.slice xz ds.length cz,iv (all+1)],.bool true]) (by simp[results,Tryz.results313,go_sem,hr0,hr1]) rfl ⟨_,rfl,OZ.out,BZ.out⟩
theorem spRankAdd_no (w:World) (u:Value) (ps:List Pr) (all t:Int) (hp:Prs w u ps) (hno:addOkK ps all t=false):
  Calls Tryz.prog 313 #[.agg #[u,iv all],iv t] w fun e w'=>e=.returned (.tuple #[.agg #[zn,iv 0],.bool false])/\Below w.heap.size w w':=by
 obtain⟨W0,hW0⟩:=nm_ ((w.alloc (.cells #[u,iv all] 44)).alloc (.cells #[zn,iv 0] 44));have hA:Below w.heap.size w W0:=by rw[hW0];exact ((Below.refl w.heap.size w).alloc lr_ _).alloc (by simp) _
 have X0:Box2 W0 w.heap.size 44 u (iv all):=by rw[hW0];exact (Box2.new _ _ _ _).alloc _
 have R0:Box2 W0 (w.heap.size+1) 44 zn (iv 0):=by
  have h:=Box2.new (w.alloc (.cells #[u,iv all] 44)) 44 zn (iv 0);rw[hW0];simpa using h
 have K:=hd_ (spRankOk_at W0 u ps all (hp.below hA lr_));obtain⟨x,c,hu,_,_⟩:=hp.form;obtain⟨n,hn⟩:=nm_ ps.length;rw[<-hn]at hu;subst hu;have HW0:=hd_ hW0;have HA:=hd_ hA;have x0:=X0.cell0;have x1:=X0.cell1;have HY:Hid (rankB ps all=true->(t<0\/63<t)\/((0<=t/\t<=63)/\2000<=all)):=fun h=>by
  unfold addOkK at hno;rw[h]at hno;simp at hno;omega
 have END:Hid (∀w1,Below W0.heap.size W0 w1->Box2 w1 (w.heap.size+1) 44 zn (iv 0)/\Below w.heap.size w ((w1.setCell ⟨w.heap.size+1,0,none⟩ zn).setCell ⟨w.heap.size+1,1,none⟩ (iv 0))):=fun w1 h=>
  ⟨R0.later h,below_set2 (b:=w.heap.size+1) (hA.trans (h.mono hA.size)) (Nat.le_succ _) zn (iv 0)⟩
 generalize rankB ps all=ok at K HY;clear hA hW0 hn hp hno;cases ok with
 |false=>
  clear HY;go_enter Tryz.func313,Tryz.ntmps313
  go_wp2_with fail
  rw[<-HW0.out]
  go_wp2_with fail
  refine K.out.mono ?_;rintro e w1 ⟨rfl,hb1⟩;obtain⟨R1,hl⟩:=END.out w1 hb1;have BZ:=hd_ hl;have z0:=R1.cell0;have z1:=R1.cell1;have f2:=R1.free;have RZ:=R1.set zn (iv 0);have hr0:=RZ.cell0;have hr1:=RZ.cell1;clear R1 RZ x0 x1 X0 R0 hb1 hl;go_wp2;exact bodyPost_ret (v:=.tuple #[.agg #[zn,iv 0],.bool false]) (by simp[results,Tryz.results313,go_sem,hr0,hr1]) rfl ⟨rfl,BZ.out⟩
 |true=>
  rcases HY.out rfl with ht|⟨ht,ha⟩
  ·clear HY
   go_enter Tryz.func313,Tryz.ntmps313
   go_wp2_with fail
   rw[<-HW0.out]
   go_wp2_with fail
   refine K.out.mono ?_;rintro e w1 ⟨rfl,hb1⟩;obtain⟨R1,hl⟩:=END.out w1 hb1;have BZ:=hd_ hl;have z0:=R1.cell0;have z1:=R1.cell1;have f2:=R1.free;have RZ:=R1.set zn (iv 0);have hr0:=RZ.cell0;have hr1:=RZ.cell1;clear R1 RZ x0 x1 X0 R0 hb1 hl
   go_wp2_with fail
   refine (l6In_no t 0 63 _ ht).mono ?_;rintro e w' ⟨rfl,rfl⟩;go_wp2;exact bodyPost_ret (v:=.tuple #[.agg #[zn,iv 0],.bool false]) (by simp[results,Tryz.results313,go_sem,hr0,hr1]) rfl ⟨rfl,BZ.out⟩
  ·have hge:decide ((2000:Int)<=all)=true:=decide_eq_true ha
   clear HY;go_enter Tryz.func313,Tryz.ntmps313
   go_wp2_with fail
   rw[<-HW0.out]
   go_wp2_with fail
   refine K.out.mono ?_;rintro e w1 ⟨rfl,hb1⟩;obtain⟨R1,hl⟩:=END.out w1 hb1;have BZ:=hd_ hl;have X1:=X0.later hb1;have z0:=R1.cell0;have z1:=R1.cell1;have f2:=R1.free;have RZ:=R1.set zn (iv 0);have hr0:=RZ.cell0;have hr1:=RZ.cell1;clear R1 RZ x0 x1 X0 R0 hb1 hl;have x0:=X1.cell0;have x1:=X1.cell1
   go_wp2_with fail
   refine (l6In_yes t 0 63 _ ht.1 ht.2).mono ?_;rintro e w' ⟨rfl,rfl⟩;clear ha ht;go_wp2;exact bodyPost_ret (v:=.tuple #[.agg #[zn,iv 0],.bool false]) (by simp[results,Tryz.results313,go_sem,hr0,hr1]) rfl ⟨rfl,BZ.out⟩
theorem spRankAdd_at (w:World) (u:Value) (ps:List Pr) (all t:Int) (hp:Prs w u ps):
  Calls Tryz.prog 313 #[.agg #[u,iv all],iv t] w fun e w'=>∃v,e=.returned (.tuple #[.agg #[v,.int .i64 (addK ps all t).2],.bool (addOkK ps all t)])/\OwnP w' w.heap.size v (addK ps all t).1/\Below w.heap.size w w':=by
 cases h:addOkK ps all t with
 |false=>
  rw[addK_no h];exact (spRankAdd_no w u ps all t hp h).mono fun e w' ⟨he,hb⟩=>⟨_,he,OwnP.nil _ _,hb⟩
 |true=>
  rw[addK_yes h];obtain⟨a,b,c⟩:=addOkK_yes h;exact spRankAdd_yes w u ps all t hp a b c
end Go.Proofs.YtcblbdpdbggkbaaGreat.K
namespace Go.Proofs.YtcblbdpdbggkbaaGreat.K
def wN (g:Int->Bool) (N:List Int):Nat->Int
 | 0=>0
 |k+1=>wN g N k+if g ((k+1:Nat):Int)then N.getD (k+1) 0 else 0
def wP (g:Int->Bool):List Pr->Int
 | []=>0
 |p::ps=>(if g p.1 then p.2 else 0)+wP g ps
theorem wP_append (g:Int->Bool) (ps qs:List Pr):wP g (ps++qs)=wP g ps+wP g qs:=by
 induction ps with
 |nil=>simp[wP]
 |cons p ps ih=>simp only[List.cons_append,wP,ih];omega
theorem leastP_wP (ps:List Pr) (t:Int):leastP ps t=wP (fun a=>decide (highT a<=t)) ps:=by
 induction ps with
 |nil=>rfl
 |cons p ps ih=>simp[leastP,wP,ih]
theorem mostP_wP (ps:List Pr) (t:Int):mostP ps t=wP (fun a=>decide (lowT a<=t)) ps:=by
 induction ps with
 |nil=>rfl
 |cons p ps ih=>simp[mostP,wP,ih]
theorem sumP_wP (ps:List Pr):sumP ps=wP (fun _=>true) ps:=by
 induction ps with
 |nil=>rfl
 |cons p ps ih=>rw[wP, <-ih];simp[sumP]
theorem getD_set_same (N:List Int) (i:Nat) (x:Int) (h:i<N.length):(N.set i x).getD i 0=x:=by
 rw[List.getD_eq_getElem?_getD,List.getElem?_set_self h];rfl
theorem getD_set_other (N:List Int) (i j:Nat) (x:Int) (h:i≠j):(N.set i x).getD j 0=N.getD j 0:=by simp[h]
theorem getD_rep (n i:Nat):(List.replicate n (0:Int)).getD i 0=0:=by
 by_cases hi:i<n<;>simp[hi]
theorem wN_set (g:Int->Bool) (N:List Int) (i:Nat) (x:Int) (h0:1<=i) (h1:i<N.length):∀k,wN g (N.set i x) k=wN g N k+if i<=k then (if g (i:Int)then x - N.getD i 0 else 0)else 0:=by
 intro k
 induction k with
 |zero=>simp[wN,show ¬i<=0 by omega]
 |succ k ih=>
  simp only[wN,ih]
  by_cases e:i=k+1
  ·subst e
   rw[getD_set_same N _ x h1];simp only[show ¬k+1<=k by omega,if_false,Nat.le_refl,if_true];cases hg:g ((k+1:Nat):Int)
   ·simp only[Bool.false_eq_true,if_false]
   ·simp only[if_true];omega
  ·rw[getD_set_other N i (k+1) x e]
   by_cases hk:i<=k
   ·rw[if_pos hk,if_pos (show i<=k+1 by omega)];ac_rfl
   ·rw[if_neg hk,if_neg (show ¬i<=k+1 by omega)];ac_rfl
theorem wN_nonneg (g:Int->Bool) {N:List Int} (h:∀i,0<=N.getD i 0):∀k,0<=wN g N k:=by
 intro k
 induction k with
 |zero=>exact Int.le_refl _
 |succ k ih=>simp only[wN];have:=h (k+1);split<;>omega
theorem wN_one {N:List Int} (h:∀i,0<=N.getD i 0):∀k i,1<=i->i<=k->N.getD i 0<=wN (fun _=>true) N k:=by
 intro k
 induction k with
 |zero=>intro i h1 h2;omega
 |succ k ih=>
  intro i h1 h2;simp only[wN,if_true];have:=h (k+1)
  by_cases e:i=k+1
  ·subst e;have:=wN_nonneg (fun _=>true) h k;omega
  ·have:=ih i h1 (by omega);omega
theorem wN_just (N:List Int) (i:Nat) (h0:1<=i):∀k,wN (fun a=>decide (a=(i:Int))) N k=if i<=k then N.getD i 0 else 0:=by
 intro k
 induction k with
 |zero=>simp[wN,show ¬i<=0 by omega]
 |succ k ih=>
  simp only[wN,ih,decide_eq_true_eq]
  by_cases e:i=k+1
  ·subst e;simp[show ¬k+1<=k by omega]
  ·rw[if_neg (show ¬(((k+1:Nat):Int)=(i:Int)) by omega)]
   by_cases hk:i<=k
   ·rw[if_pos hk,if_pos (by omega)];omega
   ·rw[if_neg hk,if_neg (by omega)];omega
theorem wP_list (g:Int->Bool) {N:List Int} (h:∀i,0<=N.getD i 0):∀k,wP g (listK N k)=wN g N k:=by
 intro k
 induction k with
 |zero=>rfl
 |succ k ih=>
  rw[listK,wP_append,ih,wN];have:=h (k+1)
  by_cases hp:0<N.getD (k+1) 0
  ·rw[if_pos hp];simp[wP]
  ·rw[if_neg hp,show N.getD (k+1) 0=0 by omega];simp[wP]
theorem addN_len (a:List Int) (p:Pr):(addN a p).length=a.length:=by simp[addN]
theorem numsV_snoc (ps:List Pr) (p:Pr):numsV (ps++[p])=addN (numsV ps) p:=by simp[numsV]
def AtK (ps:List Pr):Prop:=∀p ∈ ps,1<=p.1/\p.1<=127
theorem AtK.append {ps qs:List Pr} (h:AtK ps) (h':AtK qs):AtK (ps++qs):=fun p hp=>by
 rcases List.mem_append.1 hp with a|a
 ·exact h p a
 ·exact h' p a
theorem wN_addN (g:Int->Bool) (a:List Int) (p:Pr) (ha:a.length=128) (h:1<=p.1/\p.1<=127):wN g (addN a p) 127=wN g a 127+if g p.1 then p.2 else 0:=by
 unfold addN;have e:((p.1.toNat:Nat):Int)=p.1:=by omega
 rw[wN_set g a p.1.toNat _ (by omega) (by omega),if_pos (by omega),e]
 by_cases hg:g p.1=true
 ·rw[if_pos hg,if_pos hg];omega
 ·rw[if_neg hg,if_neg hg]
theorem wN_nums (g:Int->Bool) (ps:List Pr) (h:AtK ps):wN g (numsV ps) 127=wP g ps:=by
 have e0:∀k,wN g (List.replicate 128 0) k=0:=by
  intro k
  induction k with
  |zero=>rfl
  |succ k ih=>
   have:=getD_rep 128 (k+1);rw[wN,ih,this];simp
 have:∀(ps:List Pr) (a:List Int),a.length=128->AtK ps->wN g (ps.foldl addN a) 127=wN g a 127+wP g ps:=by
  intro ps
  induction ps with
  |nil=>intro a _ _;simp[wP]
  |cons p ps ih=>
   intro a ha hk;rw[List.foldl_cons,ih _ (by rw[addN_len];exact ha) (fun q hq=>hk q (List.mem_cons_of_mem _ hq)),wN_addN g a p ha (hk p (List.mem_cons_self ..)),wP];omega
 unfold numsV;rw[this ps _ (by simp) h,e0];omega
theorem getD_addN_0 (a:List Int) (p:Pr) (h:1<=p.1):(addN a p).getD 0 0=a.getD 0 0:=by
 unfold addN;exact getD_set_other _ _ _ _ (by omega)
theorem numsV_0 (ps:List Pr) (h:AtK ps):(numsV ps).getD 0 0=0:=by
 have:∀(ps:List Pr) (a:List Int),AtK ps->(ps.foldl addN a).getD 0 0=a.getD 0 0:=by
  intro ps
  induction ps with
  |nil=>intro a _;rfl
  |cons p ps ih=>
   intro a hk;rw[List.foldl_cons,ih _ (fun q hq=>hk q (List.mem_cons_of_mem _ hq)),getD_addN_0 a p (hk p (List.mem_cons_self ..)).1]
 unfold numsV;rw[this ps _ h];rfl
theorem numsV_nn (ps:List Pr) (h:∀p ∈ ps,0<=p.2):∀i,0<=(numsV ps).getD i 0:=by
 have:∀(ps:List Pr) (a:List Int),(∀p ∈ ps,0<=p.2)->(∀i,0<=a.getD i 0)->∀i,0<=(ps.foldl addN a).getD i 0:=by
  intro ps
  induction ps with
  |nil=>intro a _ ha;exact ha
  |cons p ps ih=>
   intro a hk ha;rw[List.foldl_cons];refine ih _ (fun q hq=>hk q (List.mem_cons_of_mem _ hq)) (fun i=>?_);unfold addN
   by_cases e:p.1.toNat=i
   ·subst e
    by_cases hl:p.1.toNat<a.length
    ·rw[getD_set_same _ _ _ hl];have:=ha p.1.toNat;have:=hk p (List.mem_cons_self ..);omega
    ·rw[List.set_eq_of_length_le (by omega)];exact ha _
   ·rw[getD_set_other _ _ _ _ e];exact ha i
 exact this ps _ h (fun i=>by rw[getD_rep];exact Int.le_refl _)
theorem wN_sq1 (g:Int->Bool) (N:List Int) (D:Int) (j:Nat) (hl:N.length=128) (h1:1<=j) (h2:j<=63):
  wN g (sq1 N D j) 127=wN g N 127+if 0<N.getD (2 * j) 0+N.getD (2 * j+1) 0/\N.getD (2 * j) 0+N.getD (2 * j+1) 0+N.getD j 0<=D then (if g (j:Int)then N.getD (2 * j) 0+N.getD (2 * j+1) 0 else 0) - (if g ((2 * j:Nat):Int)then N.getD (2 * j) 0 else 0) - (if g ((2 * j+1:Nat):Int)then N.getD (2 * j+1) 0 else 0)else 0:=by
 unfold sq1
 split
 ·rw[wN_set g _ (2 * j+1) 0 (by omega) (by simp;omega),wN_set g _ (2 * j) 0 (by omega) (by simp;omega),wN_set g N j _ h1 (by omega)]
  rw[getD_set_other _ _ _ _ (show 2 * j≠2 * j+1 by omega),getD_set_other _ _ _ _ (show j≠2 * j+1 by omega),getD_set_other _ _ _ _ (show j≠2 * j by omega)];rw[if_pos (show 2 * j+1<=127 by omega),if_pos (show 2 * j<=127 by omega),if_pos (show j<=127 by omega)]
  split<;>split<;>split<;>omega
 ·omega
theorem sq1_nn {N:List Int} {D:Int} (h:∀i,0<=N.getD i 0) (j:Nat):∀i,0<=(sq1 N D j).getD i 0:=fun i=>by
 unfold sq1
 split
 ·have s:∀(M:List Int) (k:Nat) (x:Int),(∀i,0<=M.getD i 0)->0<=x->∀i,0<=(M.set k x).getD i 0:=fun M k x hM hx i=>by
   by_cases e:k=i
   ·subst e
    by_cases hl:k<M.length
    ·rw[getD_set_same _ _ _ hl];exact hx
    ·rw[List.set_eq_of_length_le (by omega)];exact hM _
   ·rw[getD_set_other _ _ _ _ e];exact hM i
  exact s _ _ _ (s _ _ _ (s _ _ _ h (by have:=h j;have:=h (2 * j);have:=h (2 * j+1);omega)) (Int.le_refl _)) (Int.le_refl _) i
 ·exact h i
def CapN (N:List Int) (D:Int):Prop:=∀i,1<=i->i<64->N.getD i 0<=D
theorem sq1_cap {N:List Int} {D:Int} (h:CapN N D) (d0:0<=D) (hl:N.length=128) (j:Nat) (hj:j<=63):CapN (sq1 N D j) D:=fun i h1 h2=>by
 unfold sq1
 split
 ·rename_i hc
  by_cases e3:2 * j+1=i
  ·subst e3;rw[getD_set_same _ _ _ (by simp;omega)];exact d0
  rw[getD_set_other _ _ _ _ e3]
  by_cases e2:2 * j=i
  ·subst e2;rw[getD_set_same _ _ _ (by simp;omega)];exact d0
  rw[getD_set_other _ _ _ _ e2]
  by_cases e1:j=i
  ·subst e1;rw[getD_set_same _ _ _ (by omega)];omega
  rw[getD_set_other _ _ _ _ e1];exact h i h1 h2
 ·exact h i h1 h2
theorem sq1_0 {N:List Int} {D:Int} (j:Nat) (hj:1<=j):(sq1 N D j).getD 0 0=N.getD 0 0:=by
 unfold sq1
 split
 ·rw[getD_set_other _ _ _ _ (by omega),getD_set_other _ _ _ _ (by omega),getD_set_other _ _ _ _ (by omega)]
 ·rfl
structure SqK (N:List Int) (D:Int) (Z:List Int):Prop where
 nn:∀i,0<=Z.getD i 0
 len:Z.length=128
 cap:CapN Z D
 zero:Z.getD 0 0=N.getD 0 0
 sum:wN (fun _=>true) Z 127=wN (fun _=>true) N 127
 least:∀t,wN (fun a=>decide (highT a<=t)) Z 127<=wN (fun a=>decide (highT a<=t)) N 127
 most:∀t,wN (fun a=>decide (lowT a<=t)) N 127<=wN (fun a=>decide (lowT a<=t)) Z 127
theorem span_kids (j:Nat) (h1:1<=j) (h2:j<=63):lowT ((2 * j:Nat):Int)=lowT (j:Int)/\lowT (j:Int)<=lowT ((2 * j+1:Nat):Int)/\highT ((2 * j+1:Nat):Int)=highT (j:Int)/\highT ((2 * j:Nat):Int)<=highT (j:Int):=by
 have a:=(span_all (j - 1) (by omega)).2.2 (by omega);have b:=(span_all (2 * j - 1) (by omega)).1;have c:=(span_all (2 * j) (by omega)).1;rw[show ((j - 1:Nat):Int)+1=(j:Int) by omega]at a;rw[show ((2 * j - 1:Nat):Int)+1=2 * (j:Int) by omega]at b;rw[show ((2 * j:Nat):Int)+1=2 * (j:Int)+1 by omega]at c;rw[show ((2 * j:Nat):Int)=2 * (j:Int) by omega,show ((2 * j+1:Nat):Int)=2 * (j:Int)+1 by omega]
 omega
theorem sqz_k {N:List Int} {D:Int} (nn:∀i,0<=N.getD i 0) (hl:N.length=128) (hc:CapN N D) (d0:0<=D):∀s,s<=63->SqK N D (sqz N D s):=by
 intro s
 induction s with
 |zero=>intro _;exact⟨nn,hl,hc,rfl,rfl,fun _=>Int.le_refl _,fun _=>Int.le_refl _⟩
 |succ s ih=>
  intro hs;have Z:=ih (by omega);rw[sqz];obtain⟨j,hj⟩:∃j,j=63 - s:=⟨_,rfl⟩
  rw[<-hj];generalize sqz N D s=M at *;have n1:=Z.nn (2 * j);have n2:=Z.nn (2 * j+1);obtain⟨k1,k2,k3,k4⟩:=span_kids j (by omega) (by omega);refine⟨sq1_nn Z.nn j,by rw[sq1_len];exact Z.len,sq1_cap Z.cap d0 Z.len j (by omega),(sq1_0 j (by omega)).trans Z.zero,?_,fun t=>?_,fun t=>?_⟩
  ·rw[wN_sq1 _ M D j Z.len (by omega) (by omega), <-Z.sum]
   simp only[if_true]
   split<;>omega
  ·rw[wN_sq1 _ M D j Z.len (by omega) (by omega)]
   have:=Z.least t;simp only[decide_eq_true_eq]
   split
   ·split<;>split<;>split<;>omega
   ·omega
  ·rw[wN_sq1 _ M D j Z.len (by omega) (by omega)]
   have:=Z.most t;simp only[decide_eq_true_eq]
   split
   ·split<;>split<;>split<;>omega
   ·omega
theorem listK_mem {N:List Int}:∀k p,p ∈ listK N k->∃a:Nat,1<=a/\a<=k/\p=((a:Int),N.getD a 0)/\0<N.getD a 0:=by
 intro k
 induction k with
 |zero=>intro p hp;cases hp
 |succ k ih=>
  intro p hp;rw[listK]at hp;rcases List.mem_append.1 hp with h|h
  ·obtain⟨a,h1,h2,h3⟩:=ih p h
   exact⟨a,h1,by omega,h3⟩
  ·by_cases hq:0<N.getD (k+1) 0
   ·rw[if_pos hq]at h
    exact⟨k+1,by omega,Nat.le_refl _,by simpa using h,hq⟩
   ·rw[if_neg hq]at h;cases h
theorem listK_asc {N:List Int}:∀k,(listK N k).Pairwise (fun p q=>p.1<q.1):=by
 intro k
 induction k with
 |zero=>exact .nil
 |succ k ih=>
  rw[listK];refine List.pairwise_append.2 ⟨ih,?_,fun p hp q hq=>?_⟩
  ·split
   ·exact List.pairwise_singleton _ _
   ·exact .nil
  ·obtain⟨a,_,h2,rfl,_⟩:=listK_mem k p hp
   split at hq
   ·obtain rfl:q=_:=by simpa using hq
    show (a:Int)<((k+1:Nat):Int)
    omega
   ·cases hq
theorem pr_asc {ps:List Pr} (h:ps.Pairwise (fun p q=>p.1<q.1)) {i j:Nat} (hi:i<j) (hj:j<ps.length):(pr ps i).1<(pr ps j).1:=by
 have:=List.pairwise_iff_getElem.1 h i j (by omega) hj hi;simp only[pr,List.getD_eq_getElem?_getD,List.getElem?_eq_getElem hj,List.getElem?_eq_getElem (show i<ps.length by omega),Option.getD_some];exact this
theorem asc_pr {ps:List Pr} (h:∀i,i+1<ps.length->(pr ps i).1<(pr ps (i+1)).1):ps.Pairwise (fun p q=>p.1<q.1):=by
 have s:∀d i,i+d+1<ps.length->(pr ps i).1<(pr ps (i+d+1)).1:=by
  intro d
  induction d with
  |zero=>intro i hi;exact h i hi
  |succ d ih=>intro i hi;have a:=ih i (by omega);have b:=h (i+d+1) (by omega);rw[show i+(d+1)+1=i+d+1+1 by omega];omega
 refine List.pairwise_iff_getElem.2 (fun i j hi hj hij=>?_);have:=s (j - i - 1) i (by omega);rw[show i+(j - i - 1)+1=j by omega]at this;simpa[pr,hi,hj]using this
theorem RankP.asc {ps:List Pr} {all:Int} (h:RankP ps all):ps.Pairwise (fun p q=>p.1<q.1):=asc_pr (fun i hi=>by
  have:=(h.2.1 (i+1) hi).2.1 (by omega)
  simpa using this)
theorem RankP.atK {ps:List Pr} {all:Int} (h:RankP ps all):AtK ps:=fun p hp=>by
 obtain⟨i,hi,rfl⟩:=pr_at hp;exact (h.2.1 i hi).1.1
theorem RankP.num {ps:List Pr} {all:Int} (h:RankP ps all):∀p ∈ ps,1<=p.2/\p.2<=2000/\(p.1<64->p.2<=all / 8):=fun p hp=>by
 obtain⟨i,hi,rfl⟩:=pr_at hp;exact⟨(h.2.1 i hi).1.2.1,(h.2.1 i hi).1.2.2,(h.2.1 i hi).2.2⟩
theorem rankP_of {ps:List Pr} {all:Int} (h0:0<=all/\all<=2000) (ha:ps.Pairwise (fun p q=>p.1<q.1)) (hk:AtK ps) (hn:∀p ∈ ps,1<=p.2/\p.2<=2000/\(p.1<64->p.2<=all / 8)) (hs:sumP ps=all):RankP ps all:=
 ⟨h0,fun i hi=>⟨⟨hk _ (pr_mem hi),(hn _ (pr_mem hi)).1,(hn _ (pr_mem hi)).2.1⟩,fun h=>pr_asc ha (by omega) hi,(hn _ (pr_mem hi)).2.2⟩,hs⟩
theorem doneK_ok {N:List Int} {all:Int} (nn:∀i,0<=N.getD i 0) (hl:N.length=128) (hc:CapN N (all / 8)) (h0:0<=all/\all<=2000) (hs:wN (fun _=>true) N 127=all):RankP (doneK N all) all:=by
 have Z:=sqz_k nn hl hc (by omega) 63 lr_;unfold doneK listV;generalize sqz N (all / 8) 63=Y at Z ⊢;refine rankP_of h0 (listK_asc 127) (fun p hp=>?_) (fun p hp=>?_) (by rw[sumP_wP,wP_list _ Z.nn,Z.sum];exact hs)
 ·obtain⟨a,h1,h2,rfl,_⟩:=listK_mem 127 p hp
  show 1<=(a:Int)/\(a:Int)<=127
  omega
 ·obtain⟨a,h1,h2,rfl,h3⟩:=listK_mem 127 p hp
  have:=wN_one Z.nn 127 a h1 h2;rw[Z.sum,hs]at this;refine⟨?_,?_,fun h=>?_⟩
  ·show 1<=Y.getD a 0;omega
  ·show Y.getD a 0<=(2000:Int);omega
  ·exact Z.cap a h1 (by have:(a:Int)<64:=h;omega)
theorem doneK_least {N:List Int} {all:Int} (nn:∀i,0<=N.getD i 0) (hl:N.length=128) (hc:CapN N (all / 8)) (h0:0<=all) (t:Int):leastP (doneK N all) t<=wN (fun a=>decide (highT a<=t)) N 127:=by
 have Z:=sqz_k nn hl hc (by omega) 63 lr_;rw[leastP_wP,doneK,listV,wP_list _ Z.nn];exact Z.least t
theorem doneK_most {N:List Int} {all:Int} (nn:∀i,0<=N.getD i 0) (hl:N.length=128) (hc:CapN N (all / 8)) (h0:0<=all) (t:Int):wN (fun a=>decide (lowT a<=t)) N 127<=mostP (doneK N all) t:=by
 have Z:=sqz_k nn hl hc (by omega) 63 lr_;rw[mostP_wP,doneK,listV,wP_list _ Z.nn];exact Z.most t
def cnt (g:Int->Bool):Nat->Nat
 | 0=>0
 |k+1=>cnt g k+if g ((k+1:Nat):Int)then 1 else 0
theorem cnt_mono (g:Int->Bool) {k m:Nat} (h:k<=m):cnt g k<=cnt g m:=by
 induction m with
 |zero=>simp[show k=0 by omega]
 |succ m ih=>
  by_cases e:k=m+1
  ·subst e;exact Nat.le_refl _
  ·have:=ih (by omega);simp only[cnt];omega
theorem wP_cnt (g:Int->Bool) (D:Int) (d0:0<=D):∀(ps:List Pr),ps.Pairwise (fun p q=>p.1<q.1)->AtK ps->(∀p ∈ ps,g p.1=true->p.2<=D)->∀k:Nat,k<=127->(∀p ∈ ps,(k:Int)<p.1)->wP g ps+D * (cnt g k:Int)<=D * (cnt g 127:Int):=by
 have ml:∀a b:Nat,a<=b->D * (cnt g a:Int)<=D * (cnt g b:Int):=fun a b h=>Int.mul_le_mul_of_nonneg_left (by have:=cnt_mono g h;omega) d0
 intro ps
 induction ps with
 |nil=>intro _ _ _ k hk _;have:=ml k 127 hk;simp only[wP];omega
 |cons p ps ih=>
  intro ha hk hD k hk1 hlt;obtain⟨h1,h2⟩:=List.pairwise_cons.1 ha;obtain⟨b1,b2⟩:=hk p (List.mem_cons_self ..);have hkp:=hlt p (List.mem_cons_self ..);obtain⟨a,hpa⟩:∃a:Nat,p.1=((a+1:Nat):Int):=⟨p.1.toNat - 1,by omega⟩
  have I:=ih h2 (fun q hq=>hk q (List.mem_cons_of_mem _ hq)) (fun q hq=>hD q (List.mem_cons_of_mem _ hq)) (a+1) (by omega) (fun q hq=>by have:=h1 q hq;omega);have M:=ml k a (by omega);have hp:=hD p (List.mem_cons_self ..);simp only[wP,cnt]at I ⊢;rw[hpa]at hp ⊢
  split
  ·rename_i hg
   rw[if_pos hg,Int.natCast_add,Int.mul_add]at I;have:=hp hg;simp only[Int.natCast_one,Int.mul_one]at I;omega
  ·rename_i hg
   rw[if_neg hg]at I;simp only[Nat.add_zero]at I;omega
theorem wP_cnt0 (g:Int->Bool) (D:Int) (d0:0<=D) (ps:List Pr) (ha:ps.Pairwise (fun p q=>p.1<q.1)) (hk:AtK ps) (hD:∀p ∈ ps,g p.1=true->p.2<=D):wP g ps<=D * (cnt g 127:Int):=by
 have:=wP_cnt g D d0 ps ha hk hD 0 (by omega) (fun p hp=>by have:=(hk p hp).1;omega);simpa[cnt]using this
theorem cnt_just:∀i:Nat,i<128->cnt (fun a=>decide (a=(i:Int))) 127<=1:=by decide+kernel
theorem nums_at (ps:List Pr) (h:AtK ps) (i:Nat) (h1:1<=i) (h2:i<=127):(numsV ps).getD i 0=wP (fun a=>decide (a=(i:Int))) ps:=by
 have:=wN_nums (fun a=>decide (a=(i:Int))) ps h;rw[wN_just _ i h1,if_pos h2]at this;exact this
theorem just_cap {ps:List Pr} {a:Int} (h:RankP ps a) (i:Nat) (h1:1<=i) (h2:i<64):wP (fun x=>decide (x=(i:Int))) ps<=a / 8:=by
 have d0:0<=a / 8:=by have:=h.1.1;omega
 have:=wP_cnt0 (fun x=>decide (x=(i:Int))) (a / 8) d0 ps h.asc h.atK (fun p hp hg=>by
    have e:p.1=(i:Int):=by simpa using hg
    exact (h.num p hp).2.2 (by omega))
 have c:=cnt_just i (by omega);have:(a / 8) * (cnt (fun x=>decide (x=(i:Int))) 127:Int)<=(a / 8) * 1:=Int.mul_le_mul_of_nonneg_left (by omega) d0;omega
theorem join_cap {ps qs:List Pr} {a b:Int} (h:RankP ps a) (h':RankP qs b):CapN (numsV (ps++qs)) ((a+b) / 8):=fun i h1 h2=>by
 rw[nums_at _ (h.atK.append h'.atK) i h1 (by omega),wP_append];have:=just_cap h i h1 h2;have:=just_cap h' i h1 h2;omega
theorem join_nn {ps qs:List Pr} {a b:Int} (h:RankP ps a) (h':RankP qs b):∀i,0<=(numsV (ps++qs)).getD i 0:=numsV_nn _ (fun p hp=>by
  rcases List.mem_append.1 hp with e|e
  · have:=(h.num p e).1;omega
  · have:=(h'.num p e).1;omega)
def bothK (ps:List Pr) (a:Int) (qs:List Pr) (b:Int):List Pr:=doneK (numsV (ps++qs)) (a+b)
section
variable {ps qs:List Pr} {a b:Int}
theorem both_ok (h:RankP ps a) (h':RankP qs b) (hs:a+b<=2000):RankP (bothK ps a qs b) (a+b):=
 doneK_ok (join_nn h h') (numsV_len _) (join_cap h h') ⟨by have:=h.1.1;have:=h'.1.1;omega,hs⟩ (by
    rw[wN_nums _ _ (h.atK.append h'.atK),wP_append, <-sumP_wP, <-sumP_wP,h.2.2,h'.2.2])
theorem both_least (h:RankP ps a) (h':RankP qs b) (t:Int):leastP (bothK ps a qs b) t<=leastP ps t+leastP qs t:=by
 have:=doneK_least (join_nn h h') (numsV_len _) (join_cap h h') (by have:=h.1.1;have:=h'.1.1;omega) t;rw[wN_nums _ _ (h.atK.append h'.atK),wP_append, <-leastP_wP, <-leastP_wP]at this;exact this
theorem both_most (h:RankP ps a) (h':RankP qs b) (t:Int):mostP ps t+mostP qs t<=mostP (bothK ps a qs b) t:=by
 have:=doneK_most (join_nn h h') (numsV_len _) (join_cap h h') (by have:=h.1.1;have:=h'.1.1;omega) t;rw[wN_nums _ _ (h.atK.append h'.atK),wP_append, <-mostP_wP, <-mostP_wP]at this;exact this
theorem both_comm (h:RankP ps a) (h':RankP qs b):bothK ps a qs b=bothK qs b ps a:=by
 have e:numsV (ps++qs)=numsV (qs++ps):=by
  refine List.ext_getElem (by rw[numsV_len,numsV_len]) (fun i h1 h2=>?_);have g1:(numsV (ps++qs)).getD i 0=(numsV (qs++ps)).getD i 0:=by
   rw[numsV_len]at h1
   by_cases h0:i=0
   ·subst h0;rw[numsV_0 _ (h.atK.append h'.atK),numsV_0 _ (h'.atK.append h.atK)]
   ·rw[nums_at _ (h.atK.append h'.atK) i (by omega) (by omega),nums_at _ (h'.atK.append h.atK) i (by omega) (by omega),wP_append,wP_append];omega
  simpa[List.getD_eq_getElem?_getD,h1,h2]using g1
 unfold bothK;rw[e,Int.add_comm]
end
theorem one_ok (t:Int) (h:0<=t/\t<=63):RankP [(64+t,1)] 1:=
 rankP_of (by omega) (List.pairwise_singleton _ _) (fun p hp=>by (obtain rfl:p=_:=by simpa using hp);show 1<=64+t/\64+t<=127;omega)
  (fun p hp=>by (obtain rfl:p=_:=by simpa using hp);exact⟨Int.le_refl _,by show (1:Int)<=2000;omega,fun h'=>by have:64+t<64:=h';omega⟩) rfl
theorem one_span (t:Int) (h:0<=t/\t<=63):lowT (64+t)=t/\highT (64+t)=t:=by
 obtain⟨T,rfl⟩:∃T:Nat,t=(T:Int):=⟨t.toNat,by omega⟩
 have:=(span_all (63+T) (by omega)).2.1 (by omega);rw[show ((63+T:Nat):Int)+1=64+(T:Int) by omega]at this;omega
theorem one_least (t i:Int) (h:0<=t/\t<=63):leastP [(64+t,1)] i=if t<=i then 1 else 0:=by
 simp[leastP,(one_span t h).2]
theorem one_most (t i:Int) (h:0<=t/\t<=63):mostP [(64+t,1)] i=if t<=i then 1 else 0:=by
 simp[mostP,(one_span t h).1]
theorem add_both (ps:List Pr) (a t:Int):doneK (addN (numsV ps) (64+t,1)) (a+1)=bothK ps a [(64+t,1)] 1:=by
 unfold bothK;rw[numsV_snoc]
end Go.Proofs.YtcblbdpdbggkbaaGreat.K
namespace Go.Proofs.YtcblbdpdbggkbaaGreat.K
open Go.RowKit Go.Sort
def joinOkK (ps:List Pr) (a:Int) (qs:List Pr) (b:Int):Bool:=rankB ps a&&(rankB qs b&&decide (a+b<=2000))
def joinK (ps:List Pr) (a:Int) (qs:List Pr) (b:Int):List Pr × Int:=if joinOkK ps a qs b then (bothK ps a qs b,a+b)else ([],0)
theorem joinK_yes {ps:List Pr} {a:Int} {qs:List Pr} {b:Int} (h:joinOkK ps a qs b=true):joinK ps a qs b=(bothK ps a qs b,a+b):=by simp[joinK,h]
theorem joinOkK_yes {ps:List Pr} {a:Int} {qs:List Pr} {b:Int} (h:joinOkK ps a qs b=true):rankB ps a=true/\rankB qs b=true/\a+b<=2000:=by
 unfold joinOkK at h;simpa using h
theorem add_join (ps:List Pr) (a t:Int) (h:0<=t/\t<=63):joinOkK ps a [(64+t,1)] 1=addOkK ps a t/\joinK ps a [(64+t,1)] 1=addK ps a t:=by
 have e:joinOkK ps a [(64+t,1)] 1=addOkK ps a t:=by
  unfold joinOkK addOkK;rw[(rankB_iff _ _).2 (one_ok t h)];have h1:decide (0<=t/\t<=63)=true:=decide_eq_true h;have h2:decide (a+1<=2000)=decide (a<2000):=decide_eq_decide.2 ⟨fun _=>by omega,fun _=>by omega⟩;rw[h1,h2]
 refine⟨e,?_⟩;unfold joinK addK;rw[e,add_both]
end Go.Proofs.YtcblbdpdbggkbaaGreat.K
namespace Go.Proofs.YtcblbdpdbggkbaaGreat.K
theorem joinK_say {ps qs:List Pr} {a b:Int} (h:joinOkK ps a qs b=true):
  RankP ps a/\RankP qs b/\joinOkK qs b ps a=true/\joinK qs b ps a=joinK ps a qs b/\(joinK ps a qs b).2=a+b/\RankP (joinK ps a qs b).1 (joinK ps a qs b).2/\
   ∀t:Int,leastP (joinK ps a qs b).1 t<=leastP ps t+leastP qs t/\mostP ps t+mostP qs t<=mostP (joinK ps a qs b).1 t:=by
 obtain⟨ka,kb,hs⟩:=joinOkK_yes h;have PA:=(rankB_iff _ _).1 ka;have PB:=(rankB_iff _ _).1 kb;have hb:joinOkK qs b ps a=true:=by
  unfold joinOkK;rw[ka,kb];simp;omega
 rw[joinK_yes h,joinK_yes hb];refine⟨PA,PB,hb,?_,rfl,both_ok PA PB hs,fun t=>⟨both_least PA PB t,both_most PA PB t⟩⟩;rw[both_comm PB PA,Int.add_comm]
theorem addK_say {ps:List Pr} {a t:Int} (h:addOkK ps a t=true):
  RankP ps a/\(0<=t/\t<=63)/\(addK ps a t).2=a+1/\RankP (addK ps a t).1 (addK ps a t).2/\
   ∀i:Int,leastP (addK ps a t).1 i<=leastP ps i+(if t<=i then 1 else 0)/\mostP ps i+(if t<=i then 1 else 0)<=mostP (addK ps a t).1 i:=by
 obtain⟨ka,ht,hs⟩:=addOkK_yes h;have J:=add_join ps a t ht;rw[<-J.1]at h;obtain⟨p1,p2,p3,p4,p5,p6,p7⟩:=joinK_say h;rw[<-J.2];refine⟨p1,ht,p5,p6,fun i=>?_⟩;have:=p7 i;rw[one_least t i ht,one_most t i ht]at this;exact this
end Go.Proofs.YtcblbdpdbggkbaaGreat.K
namespace Go.Proofs.YtcblbdpdbggkbaaGreat
open Go.RowKit Go.Sort
structure Sm where
 rs:List (List Int)
 zs:List Int
 ps:List T.Pr
 lo:Int
 al:Int
 ks:List K.Pr
 ka:Int
def noSm:Sm:=⟨[],[],[],0,0,[],0⟩
def newSm:Sm:=⟨zero3,[],[],0,0,[],0⟩
def okS (s:Sm):Bool:=okB s.rs&&(fewB s.zs&&(T.topB s.ps s.lo s.al&&(K.rankB s.ks s.ka&&(decide (allV s.rs=s.al)&&(decide (s.al=s.ka)&&decide (0<s.zs.length↔0<s.al))))))
structure Ok (s:Sm):Prop where
 r:okB s.rs=true
 f:fewB s.zs=true
 t:T.topB s.ps s.lo s.al=true
 k:K.rankB s.ks s.ka=true
 ra:allV s.rs=s.al
 ta:s.al=s.ka
 fa:0<s.zs.length↔0<s.al
theorem okS_iff (s:Sm):okS s=true↔Ok s:=by
 unfold okS;simp only[Bool.and_eq_true,decide_eq_true_eq];exact⟨fun⟨a,b,c,d,e,f,g⟩=>⟨a,b,c,d,e,f,g⟩,fun⟨a,b,c,d,e,f,g⟩=>⟨a,b,c,d,e,f,g⟩⟩
theorem okS_no:okS noSm=false:=rfl
theorem okS_new:okS newSm=true:=by decide+kernel
theorem Ok.al0 {s:Sm} (h:Ok s):0<=s.al/\s.al<=2000:=by
 have:=((T.topB_iff _ _ _).1 h.t).1;exact this.2.2
def addOkS (s:Sm) (t:Int):Bool:=okS s&&(decide (0<=t/\t<=63)&&decide (s.al<2000))
def addS0 (s:Sm) (t:Int):Sm:=⟨addV s.rs t 1,addF s.zs t,(T.addT s.ps s.lo s.al t).1,(T.addT s.ps s.lo s.al t).2.1,(T.addT s.ps s.lo s.al t).2.2,(K.addK s.ks s.ka t).1,(K.addK s.ks s.ka t).2⟩
def addS (s:Sm) (t:Int):Sm:=if addOkS s t=true then addS0 s t else noSm
theorem addS_no {s:Sm} {t:Int} (h:addOkS s t=false):addS s t=noSm:=if_neg (by rw[h];simp)
theorem addS_yes {s:Sm} {t:Int} (h:addOkS s t=true):addS s t=addS0 s t:=if_pos h
theorem addOkS_iff (s:Sm) (t:Int):addOkS s t=true↔Ok s/\(0<=t/\t<=63)/\s.al<2000:=by
 unfold addOkS;simp only[Bool.and_eq_true,decide_eq_true_eq,okS_iff]
structure AddAll (s:Sm) (u:Int):Prop where
 ok:Ok s
 thing:0<=u/\u<=63
 room:s.al<2000
 r:addB s.rs u 1=true
 f:addOkF s.zs u=true
 t:T.addOk s.ps s.lo s.al u=true
 k:K.addOkK s.ks s.ka u=true
theorem addAll {s:Sm} {t:Int} (h:addOkS s t=true):AddAll s t:=by
 obtain⟨ok,ht,hr⟩:=(addOkS_iff s t).1 h;have ra:=ok.ra;have ta:=ok.ta;refine⟨ok,ht,hr,(addB_iff _ _ _).2 ⟨ok.r,ht.1,by omega,by omega,by omega⟩,?_,?_,?_⟩
 ·unfold addOkF inThings
  rw[ok.f,decide_eq_true (by omega)];rfl
 ·unfold T.addOk T.isT
  rw[ok.t,decide_eq_true (by omega),decide_eq_true (by omega)];rfl
 ·unfold K.addOkK
  rw[ok.k,decide_eq_true (by omega),decide_eq_true (by omega)];rfl
theorem addS_ok {s:Sm} {t:Int} (h:addOkS s t=true):Ok (addS s t)/\(addS s t).al=s.al+1:=by
 have A:=addAll h;have R:=okB_add A.r;have F:=add_again A.f;have M:=T.addMore A.t;have S:=K.addK_say A.k;have f0:0<(addF s.zs t).length:=by
  apply Classical.byContradiction;intro q;have e:addF s.zs t=[]:=List.eq_nil_of_length_eq_zero (by omega);rw[addF_yes A.f,put_join (few_asc A.ok.f)]at e;have:markV t ∈ unionL s.zs [markV t]:=(union_mem _ _ _).2 (.inr (by simp));unfold joinV6 at e;have e':unionL s.zs [markV t]=[]:=by
   cases hq:unionL s.zs [markV t]with
   |nil=>rfl
   |cons x l=>rw[hq]at e;simp at e
  rw[e']at this;simp at this
 rw[addS_yes h];have a0:=A.ok.al0;refine⟨⟨R.1,F.1,M.top,(K.rankB_iff _ _).2 S.2.2.2.1,?_,?_,?_⟩,M.na'⟩
 ·show allV (addV s.rs t 1)=(T.addT s.ps s.lo s.al t).2.2
  rw[R.2,M.na',A.ok.ra]
 ·show (T.addT s.ps s.lo s.al t).2.2=(K.addK s.ks s.ka t).2
  rw[M.na',S.2.2.1,A.ok.ta]
 ·show 0<(addF s.zs t).length↔0<(T.addT s.ps s.lo s.al t).2.2
  rw[M.na'];exact⟨fun _=>by omega,fun _=>f0⟩
def upS (l:List Int):Sm:=l.foldl addS newSm
theorem upS_snoc (l:List Int) (t:Int):upS (l++[t])=addS (upS l) t:=by simp[upS]
theorem add_noSm (t:Int):addS noSm t=noSm:=addS_no rfl
theorem up_noSm (l:List Int):l.foldl addS noSm=noSm:=by
 induction l with
 |nil=>rfl
 |cons t l ih=>simp only[List.foldl_cons,add_noSm,ih]
theorem up_stop {l:List Int} {k:Nat} (hk:k<l.length) (h:addOkS (upS (l.take k)) (l.getD k 0)=false):upS l=noSm:=by
 have e:l=l.take k++(l.getD k 0::l.drop (k+1)):=by
  conv=>lhs;rw[<-List.take_append_drop k l]
  rw[List.drop_eq_getElem_cons hk];simp[hk]
 rw[e];unfold upS;rw[List.foldl_append];show List.foldl addS (addS (upS (l.take k)) (l.getD k 0)) _=_
 rw[addS_no h,up_noSm]
theorem up_take {l:List Int} {k:Nat} (hk:k<l.length):upS (l.take (k+1))=addS (upS (l.take k)) (l.getD k 0):=by
 rw[List.take_succ_eq_append_getElem hk,upS_snoc];simp[hk]
theorem up_ind {P:List Int->Sm->Prop} (h0:P [] newSm) (h1:∀l s t,P l s->AddAll s t->P (l++[t]) (addS0 s t)):∀l:List Int,okS (upS l)=true->P l (upS l):=by
 have key:∀n (l:List Int),l.length=n->okS (upS l)=true->P l (upS l):=by
  intro n
  induction n with
  |zero=>intro l hl _;obtain rfl:=List.eq_nil_of_length_eq_zero hl;exact h0
  |succ n ih=>
   intro l hl ok;have e:l=l.take n++[l.getD n 0]:=by
    conv=>lhs;rw[<-List.take_of_length_le (Nat.le_of_eq hl)]
    rw[List.take_succ_eq_append_getElem (by omega)];simp[show n<l.length by omega]
   rw[e]at ok ⊢;rw[upS_snoc]at ok ⊢
   by_cases ha:addOkS (upS (l.take n)) (l.getD n 0)=true
   ·have A:=addAll ha
    rw[addS_yes ha];exact h1 _ _ _ (ih (l.take n) (by simp;omega) ((okS_iff _).2 A.ok)) A
   ·rw[Bool.not_eq_true]at ha
    rw[addS_no ha]at ok;exact absurd ok (by rw[okS_no];simp)
 exact fun l=>key l.length l rfl
theorem okS_up {l:List Int} (h:okS (upS l)=true):(upS l).al=l.length/\∀t ∈ l,0<=t/\t<=63:=by
 refine up_ind (P:=fun l s=>s.al=l.length/\∀t ∈ l,0<=t/\t<=63) ⟨rfl,by simp⟩ (fun l s t hp A=>⟨?_,fun u hu=>?_⟩) l h
 ·have:=(addS_ok (s:=s) (t:=t) ((addOkS_iff _ _).2 ⟨A.ok,A.thing,A.room⟩))
  rw[addS_yes ((addOkS_iff _ _).2 ⟨A.ok,A.thing,A.room⟩)]at this;rw[this.2,hp.1];simp
 ·rcases List.mem_append.1 hu with q|q
  ·exact hp.2 u q
  ·rw[List.mem_singleton.1 q];exact A.thing
theorem up_fine {l:List Int} (h:∀t ∈ l,0<=t/\t<=63) (hl:l.length<=2000):okS (upS l)=true:=by
 have key:∀n,n<=l.length->okS (upS (l.take n))=true:=by
  intro n
  induction n with
  |zero=>intro _;rw[List.take_zero];exact okS_new
  |succ n ih=>
   intro hn;have ok:=ih (by omega);rw[up_take (by omega)];have g:=h (l.getD n 0) (getD_mem l n 0 (by omega));have e:=(okS_up ok).1;rw[List.length_take]at e;have ha:addOkS (upS (l.take n)) (l.getD n 0)=true:=(addOkS_iff _ _).2 ⟨(okS_iff _).1 ok,g,by omega⟩;exact (okS_iff _).2 (addS_ok ha).1
 have:=key l.length lr_;rwa[List.take_length]at this
def Box7 (W:World) (b:Nat) (t:TypeId) (x0 x1 x2 x3 x4 x5 x6:Value):Prop:=W.heap[b]? =some (.cells #[x0,x1,x2,x3,x4,x5,x6] t (0,0))
section
variable {W W':World} {b:Nat} {t:TypeId} {x0 x1 x2 x3 x4 x5 x6:Value}
theorem Box7.lt (h:Box7 W b t x0 x1 x2 x3 x4 x5 x6):b<W.heap.size:=(Array.getElem?_eq_some_iff.1 h).1
theorem Box7.new (W:World) (t:TypeId) (x0 x1 x2 x3 x4 x5 x6:Value):Box7 (W.alloc (.cells #[x0,x1,x2,x3,x4,x5,x6] t)) W.heap.size t x0 x1 x2 x3 x4 x5 x6:=heap_alloc_new W _
theorem Box7.below (h:Box7 W b t x0 x1 x2 x3 x4 x5 x6) {B:Nat} (hb:Below B W W') (hB:b<B):Box7 W' b t x0 x1 x2 x3 x4 x5 x6:=(hb.block b hB).trans h
theorem Box7.later (h:Box7 W b t x0 x1 x2 x3 x4 x5 x6) (hb:Below W.heap.size W W'):Box7 W' b t x0 x1 x2 x3 x4 x5 x6:=h.below hb h.lt
theorem Box7.drew (h:Box7 W b t x0 x1 x2 x3 x4 x5 x6):Box7 W.drew b t x0 x1 x2 x3 x4 x5 x6:=h
theorem Box7.alloc (h:Box7 W b t x0 x1 x2 x3 x4 x5 x6) (o:Obj):Box7 (W.alloc o) b t x0 x1 x2 x3 x4 x5 x6:=h.later ((Below.refl _ _).alloc lr_ o)
theorem Box7.kept {row:Option Nat} (h:Box7 W b t x0 x1 x2 x3 x4 x5 x6) (hg:W.grownBy W' row) (hr:row≠some b):Box7 W' b t x0 x1 x2 x3 x4 x5 x6:=(hg.block b h.lt (fun e=>hr e.symm)).trans h
theorem Box7.cell0 (h:Box7 W b t x0 x1 x2 x3 x4 x5 x6):W.cell? ⟨b,0,none⟩=some x0:=by unfold Box7 at h;simp[World.cell?,h]
theorem Box7.cell1 (h:Box7 W b t x0 x1 x2 x3 x4 x5 x6):W.cell? ⟨b,1,none⟩=some x1:=by unfold Box7 at h;simp[World.cell?,h]
theorem Box7.cell2 (h:Box7 W b t x0 x1 x2 x3 x4 x5 x6):W.cell? ⟨b,2,none⟩=some x2:=by unfold Box7 at h;simp[World.cell?,h]
theorem Box7.cell3 (h:Box7 W b t x0 x1 x2 x3 x4 x5 x6):W.cell? ⟨b,3,none⟩=some x3:=by unfold Box7 at h;simp[World.cell?,h]
theorem Box7.cell4 (h:Box7 W b t x0 x1 x2 x3 x4 x5 x6):W.cell? ⟨b,4,none⟩=some x4:=by unfold Box7 at h;simp[World.cell?,h]
theorem Box7.cell5 (h:Box7 W b t x0 x1 x2 x3 x4 x5 x6):W.cell? ⟨b,5,none⟩=some x5:=by unfold Box7 at h;simp[World.cell?,h]
theorem Box7.cell6 (h:Box7 W b t x0 x1 x2 x3 x4 x5 x6):W.cell? ⟨b,6,none⟩=some x6:=by unfold Box7 at h;simp[World.cell?,h]
theorem Box7.cells (h:Box7 W b t x0 x1 x2 x3 x4 x5 x6):W.cell? ⟨b,0,none⟩=some x0/\W.cell? ⟨b,1,none⟩=some x1/\W.cell? ⟨b,2,none⟩=some x2/\W.cell? ⟨b,3,none⟩=some x3/\W.cell? ⟨b,4,none⟩=some x4/\W.cell? ⟨b,5,none⟩=some x5/\W.cell? ⟨b,6,none⟩=some x6:=
 ⟨h.cell0,h.cell1,h.cell2,h.cell3,h.cell4,h.cell5,h.cell6⟩
theorem Box7.free (h:Box7 W b t x0 x1 x2 x3 x4 x5 x6) (i:Nat):W.frozen? ⟨b,i,none⟩=false:=by unfold Box7 at h;simp[World.frozen?,h]
theorem Box7.set0 (h:Box7 W b t x0 x1 x2 x3 x4 x5 x6) (u:Value):Box7 (W.setCell ⟨b,0,none⟩ u) b t u x1 x2 x3 x4 x5 x6:=by unfold Box7 at h ⊢;rw[heap_setCell_same W b 0 _ _ _ h];rfl
theorem Box7.set1 (h:Box7 W b t x0 x1 x2 x3 x4 x5 x6) (u:Value):Box7 (W.setCell ⟨b,1,none⟩ u) b t x0 u x2 x3 x4 x5 x6:=by unfold Box7 at h ⊢;rw[heap_setCell_same W b 1 _ _ _ h];rfl
theorem Box7.set2 (h:Box7 W b t x0 x1 x2 x3 x4 x5 x6) (u:Value):Box7 (W.setCell ⟨b,2,none⟩ u) b t x0 x1 u x3 x4 x5 x6:=by unfold Box7 at h ⊢;rw[heap_setCell_same W b 2 _ _ _ h];rfl
theorem Box7.set3 (h:Box7 W b t x0 x1 x2 x3 x4 x5 x6) (u:Value):Box7 (W.setCell ⟨b,3,none⟩ u) b t x0 x1 x2 u x4 x5 x6:=by unfold Box7 at h ⊢;rw[heap_setCell_same W b 3 _ _ _ h];rfl
theorem Box7.set4 (h:Box7 W b t x0 x1 x2 x3 x4 x5 x6) (u:Value):Box7 (W.setCell ⟨b,4,none⟩ u) b t x0 x1 x2 x3 u x5 x6:=by unfold Box7 at h ⊢;rw[heap_setCell_same W b 4 _ _ _ h];rfl
theorem Box7.set5 (h:Box7 W b t x0 x1 x2 x3 x4 x5 x6) (u:Value):Box7 (W.setCell ⟨b,5,none⟩ u) b t x0 x1 x2 x3 x4 u x6:=by unfold Box7 at h ⊢;rw[heap_setCell_same W b 5 _ _ _ h];rfl
theorem Box7.set6 (h:Box7 W b t x0 x1 x2 x3 x4 x5 x6) (u:Value):Box7 (W.setCell ⟨b,6,none⟩ u) b t x0 x1 x2 x3 x4 x5 u:=by unfold Box7 at h ⊢;rw[heap_setCell_same W b 6 _ _ _ h];rfl
theorem Box7.not_row {B:Nat} {e:TypeId} {size n:Nat} {v:Value} {xs:List Value} (h:Box7 W b t x0 x1 x2 x3 x4 x5 x6) (ht:t≠e) (ho:W.ownsRow B e size v n xs):v.ownBlock≠some b:=fun hb=>by
 rcases ho.2 with ⟨rfl,_⟩|⟨g,cap,cur,rfl,_,hg,_⟩
 ·cases hb
 ·obtain rfl:g=b:=by simpa[Value.ownBlock]using hb
  unfold Box7 at h;rw[hg]at h;cases h;exact ht rfl
end
def set7 (W:World) (b:Nat) (x0 x1 x2 x3 x4 x5 x6:Value):World:=
 ((((((W.setCell ⟨b,0,none⟩ x0).setCell ⟨b,1,none⟩ x1).setCell ⟨b,2,none⟩ x2).setCell ⟨b,3,none⟩ x3).setCell ⟨b,4,none⟩ x4).setCell ⟨b,5,none⟩ x5).setCell ⟨b,6,none⟩ x6
theorem set7_grown (W:World) (b:Nat) (x0 x1 x2 x3 x4 x5 x6:Value):W.grownBy (set7 W b x0 x1 x2 x3 x4 x5 x6) (some b):=
 grownBy_trans (grownBy_trans (grownBy_trans (grownBy_trans (grownBy_trans (grownBy_trans (grownBy_setCell W ⟨b,0,none⟩ x0) (grownBy_setCell _ ⟨b,1,none⟩ x1)) (grownBy_setCell _ ⟨b,2,none⟩ x2)) (grownBy_setCell _ ⟨b,3,none⟩ x3)) (grownBy_setCell _ ⟨b,4,none⟩ x4)) (grownBy_setCell _ ⟨b,5,none⟩ x5)) (grownBy_setCell _ ⟨b,6,none⟩ x6)
theorem Box7.set {W:World} {b:Nat} {t:TypeId} {x0 x1 x2 x3 x4 x5 x6:Value} (h:Box7 W b t x0 x1 x2 x3 x4 x5 x6) (y0 y1 y2 y3 y4 y5 y6:Value):Box7 (set7 W b y0 y1 y2 y3 y4 y5 y6) b t y0 y1 y2 y3 y4 y5 y6:=
 ((((((h.set0 y0).set1 y1).set2 y2).set3 y3).set4 y4).set5 y5).set6 y6
theorem below_set7 {B b:Nat} {w W:World} (h:Below B w W) (hb:B<=b) (x0 x1 x2 x3 x4 x5 x6:Value):Below B w (set7 W b x0 x1 x2 x3 x4 x5 x6):=((((((h.setCell hb _).setCell hb _).setCell hb _).setCell hb _).setCell hb _).setCell hb _).setCell hb _
theorem set7_size (W:World) (b:Nat) (x0 x1 x2 x3 x4 x5 x6:Value):(set7 W b x0 x1 x2 x3 x4 x5 x6).heap.size=W.heap.size:=by unfold set7;simp
structure SV where
 xr:Option Addr
 nr:Nat
 cr:Nat
 xf:Option Addr
 nf:Nat
 cf:Nat
 xt:Option Addr
 nt:Nat
 ct:Nat
 xk:Option Addr
 nk:Nat
 ck:Nat
inductive S7_ where
 |mk (V:SV) (s:Sm)
inductive C7_ where
 |mk (V:SV) (s:Sm)
def vS (V:SV) (s:Sm):S7_:=.mk V s
def cS (V:SV) (s:Sm):C7_:=.mk V s
instance (V:SV) (s:Sm):CoeDep S7_ (vS V s) Value:=⟨.agg #[.slice V.xr V.nr V.cr,.slice V.xf V.nf V.cf,.slice V.xt V.nt V.ct,iv s.lo,iv s.al,.slice V.xk V.nk V.ck,iv s.ka]⟩
instance (V:SV) (s:Sm):CoeDep C7_ (cS V s) (Array Value):=⟨#[.slice V.xr V.nr V.cr,.slice V.xf V.nf V.cf,.slice V.xt V.nt V.ct,iv s.lo,iv s.al,.slice V.xk V.nk V.ck,iv s.ka]⟩
instance (V:SV) (s:Sm):CoeDep C7_ (cS V s) (List Value):=⟨[.slice V.xr V.nr V.cr,.slice V.xf V.nf V.cf,.slice V.xt V.nt V.ct,iv s.lo,iv s.al,.slice V.xk V.nk V.ck,iv s.ka]⟩
def SV.none:SV:=⟨.none,0,0,.none,0,0,.none,0,0,.none,0,0⟩
def SV.r (V:SV):Value:=.slice V.xr V.nr V.cr
def SV.f (V:SV):Value:=.slice V.xf V.nf V.cf
def SV.t (V:SV):Value:=.slice V.xt V.nt V.ct
def SV.k (V:SV):Value:=.slice V.xk V.nk V.ck
def BoxS (W:World) (b:Nat) (V:SV) (s:Sm):Prop:=Box7 W b 46 V.r V.f V.t (iv s.lo) (iv s.al) V.k (iv s.ka)
theorem BoxS.box {W:World} {b:Nat} {V:SV} {s:Sm} (h:BoxS W b V s):Box7 W b 46 (.slice V.xr V.nr V.cr) (.slice V.xf V.nf V.cf) (.slice V.xt V.nt V.ct) (iv s.lo) (iv s.al) (.slice V.xk V.nk V.ck) (iv s.ka):=h
theorem Ints.len {w:World} {x:Option Addr} {n c:Nat} {zs:List Int} (h:Ints w (.slice x n c) zs):n=zs.length:=by
 rcases h with ⟨e,rfl⟩|⟨b,o,cap,e,_⟩
 ·simp at e;simp[e]
 ·simp at e;omega
theorem Rws.len {w:World} {x:Option Addr} {n c:Nat} {zs:List (List Int)} (h:Rws w (.slice x n c) zs):n=zs.length:=by
 rcases h with ⟨e,rfl⟩|⟨b,o,cap,e,_⟩
 ·simp at e;simp[e]
 ·simp at e;omega
theorem T.Prs.len {w:World} {x:Option Addr} {n c:Nat} {zs:List T.Pr} (h:T.Prs w (.slice x n c) zs):n=zs.length:=by
 rcases h with ⟨e,rfl⟩|⟨b,o,cap,e,_⟩
 ·simp at e;simp[e]
 ·simp at e;omega
theorem K.Prs.len {w:World} {x:Option Addr} {n c:Nat} {zs:List K.Pr} (h:K.Prs w (.slice x n c) zs):n=zs.length:=by
 rcases h with ⟨e,rfl⟩|⟨b,o,cap,e,_⟩
 ·simp at e;simp[e]
 ·simp at e;omega
structure RdS (w:World) (V:SV) (s:Sm):Prop where
 r:Rws w V.r s.rs
 f:Ints w V.f s.zs
 t:T.Prs w V.t s.ps
 k:K.Prs w V.k s.ks
theorem RdS.below {w w':World} {V:SV} {s:Sm} (h:RdS w V s) {B:Nat} (hb:Below B w w') (hB:w.heap.size<=B):RdS w' V s:=⟨h.r.below hb hB,h.f.below hb hB,h.t.below hb hB,h.k.below hb hB⟩
theorem RdS.lens {w:World} {V:SV} {s:Sm} (h:RdS w V s):V.nr=s.rs.length/\V.nf=s.zs.length/\V.nt=s.ps.length/\V.nk=s.ks.length:=⟨Rws.len h.r,Ints.len h.f,T.Prs.len h.t,K.Prs.len h.k⟩
theorem RdS.later {w w':World} {V:SV} {s:Sm} (h:RdS w V s) (hb:Below w.heap.size w w'):RdS w' V s:=h.below hb lr_
theorem RdS.alloc {w:World} {V:SV} {s:Sm} (h:RdS w V s) (o:Obj):RdS (w.alloc o) V s:=h.later ((Below.refl _ _).alloc lr_ o)
theorem RdS.drew {w:World} {V:SV} {s:Sm} (h:RdS w V s):RdS w.drew V s:=h.later (Below.drew (Below.refl _ _))
structure OwnS (w:World) (B U:Nat) (V:SV) (s:Sm):Prop where
 mid:∃M,B<=M/\M<=U/\OwnRR w B M V.r s.rs/\OwnI w M V.f s.zs
 t:T.OwnP w B V.t s.ps
 k:K.OwnP w B V.k s.ks
 ft:∀g,V.f.ownBlock=some g->g<U
 tt:∀g,V.t.ownBlock=some g->g<U
 kt:∀g,V.k.ownBlock=some g->g<U
 top:U<=w.heap.size
theorem OwnS.rd {w:World} {B U:Nat} {V:SV} {s:Sm} (h:OwnS w B U V s):RdS w V s:=by
 obtain⟨M,_,_,hr,hf⟩:=h.mid;exact⟨hr.rd,hf.rd,h.t.rd,h.k.rd⟩
theorem OwnS.below {w w':World} {B U:Nat} {V:SV} {s:Sm} (h:OwnS w B U V s) (hb:Below w.heap.size w w'):OwnS w' B U V s:=by
 obtain⟨M,h1,h2,hr,hf⟩:=h.mid;exact⟨⟨M,h1,h2,hr.below hb,hf.below hb⟩,h.t.below hb,h.k.below hb,h.ft,h.tt,h.kt,Nat.le_trans h.top hb.size⟩
theorem OwnS.alloc {w:World} {B U:Nat} {V:SV} {s:Sm} (h:OwnS w B U V s) (o:Obj):OwnS (w.alloc o) B U V s:=h.below ((Below.refl _ _).alloc lr_ o)
theorem OwnRR.base {w:World} {B B' U:Nat} {v:Value} {rs:List (List Int)} (h:OwnRR w B U v rs) (hB:B'<=B):OwnRR w B' U v rs:=by
 obtain⟨G,C,h,h1,h2,h3⟩:=h;exact⟨G,C,⟨ownsRow_base h.hdr hB,fun i hi=>ownsRow_base (h.row i hi) hB,h.off,h.apart⟩,h1,h2,h3⟩
theorem OwnS.base {w:World} {B B' U U':Nat} {V:SV} {s:Sm} (h:OwnS w B U V s) (hB:B'<=B) (hT:U<=U') (hU':U'<=w.heap.size):OwnS w B' U' V s:=by
 obtain⟨M,h1,h2,hr,hf⟩:=h.mid;exact⟨⟨M,o_,o_,hr.base hB,hf⟩,ownsRow_base h.t hB,ownsRow_base h.k hB,fun g e=>by have:=h.ft g e;omega,fun g e=>by have:=h.tt g e;omega,fun g e=>by have:=h.kt g e;omega,hU'⟩
theorem OwnS.none (w:World) (B U:Nat) (hB:B<=U) (hT:U<=w.heap.size):OwnS w B U SV.none noSm:=
 ⟨⟨U,hB,Nat.le_refl _,OwnRR.nil _ _ _ hT,World.ownsRow_nil _ _ _ _⟩,World.ownsRow_nil _ _ _ _,World.ownsRow_nil _ _ _ _,fun _ e=>(by cases e),fun _ e=>(by cases e),fun _ e=>(by cases e),hT⟩
structure Small (s:Sm):Prop where
 r:s.rs.length<=3/\∀i,i<s.rs.length->(s.rs.getD i []).length<=8
 f:s.zs.length<=6
 t:s.ps.length<=4
 k:s.ks.length<=127
theorem K.rank_len {ps:List K.Pr} {all:Int} (h:K.rankB ps all=true):ps.length<=127:=by
 have P:=(K.rankB_iff _ _).1 h
 by_cases h0:ps.length=0
 ·omega
 ·have a:=K.knG_at P.2.1 (ps.length - 1) o_
  have b:=(P.2.1 (ps.length - 1) o_).1.1.2;omega
theorem Ok.small {s:Sm} (h:Ok s):Small s:=by
 obtain⟨l3,g⟩:=(okB_iff _).1 h.r;exact⟨⟨Nat.le_of_eq l3,fun i hi=>Nat.le_of_eq (g i o_).1⟩,((fewB_iff _).1 h.f).1,((T.topB_iff _ _ _).1 h.t).1.1,K.rank_len h.k⟩
theorem own_ne {w:World} {B B':Nat} {e e':TypeId} {z z' n n':Nat} {u v:Value} {xs ys:List Value} (h:w.ownsRow B e z u n xs) (h':w.ownsRow B' e' z' v n' ys) (he:e≠e'):u.ownBlock=none\/u.ownBlock≠v.ownBlock:=by
 rcases h.2 with ⟨rfl,_⟩|⟨g,cap,cur,rfl,_,hg,_⟩
 ·exact .inl rfl
 ·refine .inr fun q=>?_
  rcases h'.2 with ⟨rfl,_⟩|⟨g',cap',cur',rfl,_,hg',_⟩
  ·cases q
  ·have q':g=g':=by simpa[Value.ownBlock]using q
   subst q';rw[hg]at hg';simp at hg';exact he hg'.2
end Go.Proofs.YtcblbdpdbggkbaaGreat
namespace Go.Proofs.YtcblbdpdbggkbaaGreat.N
open Go.RowKit Go.Sort
structure En where
 node:Int
 born:Int
 num:Int
 s:Sm
structure Nd where
 born:Int
 known:List En
 beacon:Int
 level:Int
 up:Int
structure Wd where
 kind:Int
 src:Int
 dst:Int
 beacon:Int
 level:Int
 known:List En
structure Nt where
 nodes:List Nd
 links:List Bool
 words:List Wd
 past:List (List (List Int))
def in6 (x a b:Int):Bool:=decide (a<=x/\x<=b)
def noNd:Nd:=⟨0,[],0,0,0⟩
def noNt:Nt:=⟨[],[],[],[]⟩
def nodeAt (n:Nt) (i:Int):Nd:=n.nodes.getD i.toNat noNd
def rowsAt (n:Nt) (i:Int):List (List Int):=n.past.getD i.toNat []
def pastAt (n:Nt) (i b:Int):List Int:=(rowsAt n i).getD b.toNat []
def whole (n:Nt) (a b:Int):Bool:=n.links.getD (a * 5+b).toNat false
def isNode (i:Int):Prop:=0<=i/\i<=4
structure TrueE (n:Nt) (e:En):Prop where
 node:isNode e.node
 born:1<=e.born/\e.born<=(nodeAt n e.node).born
 num:0<=e.num/\e.num<=(pastAt n e.node e.born).length
 ok:okS (upS ((pastAt n e.node e.born).take e.num.toNat))=true
 s:e.s=upS ((pastAt n e.node e.born).take e.num.toNat)
def Before (x y:En):Prop:=x.node<y.node
structure KnownOk (n:Nt) (es:List En):Prop where
 all:∀e ∈ es,TrueE n e
 asc:es.Pairwise Before
def findE (es:List En) (i:Int):Option En:=es.find? fun e=>e.node==i
structure PastOk (n:Nt) (i:Int):Prop where
 len:((rowsAt n i).length:Int)=(nodeAt n i).born+1
 none:pastAt n i 0=[]
 few:∀l ∈ rowsAt n i,l.length<=100
 things:∀l ∈ rowsAt n i,∀t ∈ l,0<=t/\t<=63
def OwnOk (n:Nt) (i:Int):Prop:=∃e,findE (nodeAt n i).known i=some e/\e.born=(nodeAt n i).born/\e.num=(pastAt n i (nodeAt n i).born).length
structure WayOk (n:Nt) (i:Int):Prop where
 beacon:0<=(nodeAt n i).beacon/\(nodeAt n i).beacon<=(nodeAt n 0).beacon
 root:i=0->(nodeAt n i).level=0/\(nodeAt n i).up= -1
 level:i≠0->1<=(nodeAt n i).level/\(nodeAt n i).level<=5
 none:i≠0->((nodeAt n i).up= -1↔(nodeAt n i).level=5)
 up:i≠0->(-1<=(nodeAt n i).up/\(nodeAt n i).up<=4)/\(nodeAt n i).up≠i
structure WordOk (n:Nt) (w:Wd):Prop where
 src:isNode w.src
 dst:isNode w.dst
 other:w.src≠w.dst
 kind:w.kind=1/\(0<=w.beacon/\w.beacon<=(nodeAt n 0).beacon)/\(0<=w.level/\w.level<=4)/\w.known=[]\/w.kind=2/\w.beacon=0/\w.level=0/\KnownOk n w.known
structure NetOk (n:Nt):Prop where
 nodes:n.nodes.length=5
 past:n.past.length=5
 links:n.links.length=25
 words:n.words.length<=24
 born:∀i,isNode i->1<=(nodeAt n i).born/\(nodeAt n i).born<=20
 pasts:∀i,isNode i->PastOk n i
 self:∀i,isNode i->whole n i i=false
 either:∀i j,isNode i->isNode j->whole n i j=whole n j i
 own:∀i,isNode i->OwnOk n i
 known:∀i,isNode i->KnownOk n (nodeAt n i).known
 way:∀i,isNode i->WayOk n i
 word:∀w ∈ n.words,WordOk n w
 beacon:(nodeAt n 0).beacon<=1000
def newer (a b:En):Bool:=decide (b.born<a.born) || (decide (a.born=b.born)&&decide (b.num<a.num))
def putE:List En->En->List En
 | [],e=>[e]
 |x::xs,e=>if x.node<e.node then x::putE xs e else if x.node=e.node then (if newer e x=true then e else x)::xs else e::x::xs
theorem put_mem:∀{es:List En} {e x:En},x ∈ putE es e->x=e\/x ∈ es
 | [],e,x,h=>.inl (List.mem_singleton.1 h)
 |y::ys,e,x,h=>by
  unfold putE at h
  split at h
  ·rcases List.mem_cons.1 h with h|h
   ·exact .inr (by simp[h])
   ·rcases put_mem h with h|h
    ·exact .inl h
    ·exact .inr (by simp[h])
  ·split at h
   ·rcases List.mem_cons.1 h with h|h
    ·split at h
     ·exact .inl h
     ·exact .inr (by simp[h])
    ·exact .inr (by simp[h])
   ·rcases List.mem_cons.1 h with h|h
    ·exact .inl h
    ·exact .inr h
theorem put_asc:∀{es:List En} {e:En},es.Pairwise Before->(putE es e).Pairwise Before
 | [],e,_=>List.pairwise_singleton _ _
 |y::ys,e,h=>by
  have hy:=List.pairwise_cons.1 h;unfold putE
  split
  ·rename_i h1
   refine List.pairwise_cons.2 ⟨fun z hz=>?_,put_asc hy.2⟩;rcases put_mem hz with rfl|hz
   ·exact h1
   ·exact hy.1 z hz
  ·rename_i h1
   split
   ·rename_i h2
    refine List.pairwise_cons.2 ⟨fun z hz=>?_,hy.2⟩;have:=hy.1 z hz;unfold Before at this ⊢
    split<;>omega
   ·rename_i h2
    refine List.pairwise_cons.2 ⟨fun z hz=>?_,h⟩;unfold Before;rcases List.mem_cons.1 hz with rfl|hz
    ·omega
    ·have:=hy.1 z hz
     unfold Before at this;omega
theorem find_cons (x:En) (xs:List En) (i:Int):findE (x::xs) i=if x.node=i then some x else findE xs i:=by
 unfold findE;rw[List.find?_cons]
 by_cases h:x.node=i
 ·simp[h]
 ·have:(x.node==i)=false:=by simpa using h
  simp[this,h]
theorem find_some {es:List En} {i:Int} {e:En} (h:findE es i=some e):e ∈ es/\e.node=i:=by
 have:=List.find?_some h;exact⟨List.mem_of_find?_eq_some h,by simpa using this⟩
theorem find_none {es:List En} {i:Int} (h:∀e ∈ es,e.node≠i):findE es i=none:=by
 unfold findE;rw[List.find?_eq_none];intro e he;simpa using h e he
theorem put_find:∀{es:List En} {e:En},es.Pairwise Before->∀i,findE (putE es e) i=if i=e.node then some (match findE es i with|some x=>if newer e x=true then e else x|none=>e)else findE es i
 | [],e,_,i=>by
  unfold putE;rw[find_cons]
  by_cases h:i=e.node
  ·simp[h,findE]
  ·have h':¬e.node=i:=fun q=>h q.symm
   simp[h,h',findE]
 |y::ys,e,h,i=>by
  have hy:=List.pairwise_cons.1 h;unfold putE
  split
  ·rename_i h1
   rw[find_cons,find_cons,put_find hy.2 i]
   by_cases q:y.node=i
   ·subst q
    have:¬y.node=e.node:=by omega
    simp[this]
   ·simp[q]
  ·rename_i h1
   split
   ·rename_i h2
    rw[find_cons,find_cons]
    by_cases q:i=e.node
    ·subst q
     rw[if_pos rfl]
     by_cases nw:newer e y=true
     ·simp[nw,h2]
     ·simp[nw,h2]
    ·have q2:¬y.node=i:=by omega
     have q3:¬(if newer e y=true then e else y).node=i:=by split<;>omega
     rw[if_neg q3,if_neg q,if_neg q2]
   ·rename_i h2
    rw[find_cons]
    by_cases q:i=e.node
    ·subst q
     have hn:findE (y::ys) e.node=none:=find_none fun z hz=>by
      rcases List.mem_cons.1 hz with rfl|hz
      ·exact h2
      ·have:=hy.1 z hz
       unfold Before at this;omega
     rw[if_pos rfl,if_pos rfl,hn]
    ·have q2:¬e.node=i:=fun x=>q x.symm
     rw[if_neg q2,if_neg q]
def l21Born (i born:Int):Nd:=⟨born,[⟨i,born,0,newSm⟩],0,if i=0 then 0 else 5, -1⟩
def setNode (n:Nt) (i:Int) (x:Nd):Nt:={ n with nodes:=n.nodes.set i.toNat x }
def sendN (n:Nt) (w:Wd):Nt × Bool:=if whole n w.src w.dst=true/\n.words.length<24 then ({ n with words:=n.words++[w] },true)else (n,false)
def countN (n:Nt) (i t:Int):Option Nt:=
 let x:=nodeAt n i
 if (0<=t/\t<=63)/\(pastAt n i x.born).length<100 then
  let own:=(findE x.known i).getD ⟨0,0,0,noSm⟩
  some { n with past:=n.past.set i.toNat ((rowsAt n i).set x.born.toNat (pastAt n i x.born++[t])),nodes:=n.nodes.set i.toNat { x with known:=putE x.known ⟨i,x.born,own.num+1,addS own.s t⟩ } }
 else none
def helloN (n:Nt) (i:Int):Nt × Bool:=
 let x:=nodeAt n i
 if x.level<5 then (List.range 5).foldl (fun (m:Nt × Bool) (k:Nat)=>if (k:Int)=i then m else ((sendN m.1 ⟨1,i,k,x.beacon,x.level,[]⟩).1,m.2 || (sendN m.1 ⟨1,i,k,x.beacon,x.level,[]⟩).2)) (n,false)else (n,false)
def tellN (n:Nt) (i:Int):Nt × Bool:=
 let x:=nodeAt n i
 if x.up<0 then (n,false)else sendN n ⟨2,i,x.up,0,0,x.known⟩
def putAll (es:List En) (i:Int) (news:List En):List En:=news.foldl (fun ks e=>if e.node=i then ks else putE ks e) es
def hearN (n:Nt) (w:Wd):Nt:=
 let x:=nodeAt n w.dst
 if w.kind=2 then setNode n w.dst { x with known:=putAll x.known w.dst w.known }
 else if w.dst=0\/(5<=w.level+1/\w.beacon<=x.beacon)then n
 else if x.beacon<w.beacon\/(w.beacon=x.beacon/\w.level+1<x.level)then setNode n w.dst { x with beacon:=w.beacon,level:=w.level+1,up:=if 5<=w.level+1 then -1 else w.src }
 else n
def isWord (n:Nt) (at_:Int):Prop:=0<=at_/\at_<n.words.length
instance (n:Nt) (at_:Int):Decidable (isWord n at_):=by unfold isWord;infer_instance
instance (i:Int):Decidable (isNode i):=by unfold isNode;infer_instance
def wordAt (n:Nt) (at_:Int):Wd:=n.words.getD at_.toNat ⟨0,0,0,0,0,[]⟩
def dropW (n:Nt) (at_:Int):Nt:={ n with words:=n.words.eraseIdx at_.toNat }
def takeN (n:Nt) (at_:Int) (heard kept:Bool):Option Nt:=
 if isWord n at_ then
  let m:=if heard=true then hearN n (wordAt n at_)else n
  some (if kept=true then m else dropW m at_)
 else none
def crashN (n:Nt) (i:Int):Option Nt:=
 let x:=nodeAt n i
 if x.born+1<=20 then
  some { n with nodes:=n.nodes.set i.toNat { l21Born i (x.born+1)with beacon:=if i=0 then x.beacon else 0 },past:=n.past.set i.toNat (rowsAt n i++[[]]) }
 else none
def linkN (n:Nt) (a b:Int) (w:Bool):Option Nt:=
 if a=b\/whole n a b=w then none else some { n with links:=(n.links.set (a * 5+b).toNat w).set (b * 5+a).toNat w }
def someIf (m:Nt × Bool):Option Nt:=if m.2=true then some m.1 else none
def doN (n:Nt) (d:De):Option Nt:=
 if d.kind=4 then takeN n d.a true false
 else if d.kind=5 then takeN n d.a true true
 else if d.kind=6 then takeN n d.a false false
 else if d.kind=8 then (if (nodeAt n 0).beacon+1<=1000 then some (setNode n 0 { nodeAt n 0 with beacon:=(nodeAt n 0).beacon+1 })else none)
 else if isNode d.a then
  (if d.kind=1 then countN n d.a d.b
     else if d.kind=2 then someIf (helloN n d.a)
     else if d.kind=3 then someIf (tellN n d.a)
     else if d.kind=7 then crashN n d.a
     else if d.kind=9\/d.kind=10 then (if isNode d.b then linkN n d.a d.b (decide (d.kind=10))else none)
     else none)
 else none
def runN (n:Nt) (ds:List De):Nt:=ds.foldl (fun m d=>(doN m d).getD m) n
def allN (n:Nt):Nt:={ n.words.foldl hearN n with words:=[] }
def roundN (f:Nt->Int->Nt) (n:Nt):Nt:=(List.range 5).foldl (fun (m:Nt) (k:Nat)=>allN (f m (k:Int))) n
def restN (n:Nt):Nt:=
 let n0:=allN n
 let n1:=setNode n0 0 { nodeAt n0 0 with beacon:=(nodeAt n0 0).beacon+1 }
 let n2:=(List.range 5).foldl (fun m _=>roundN (fun m i=>(helloN m i).1) m) n1
 (List.range 5).foldl (fun m _=>roundN (fun m i=>(tellN m i).1) m) n2
def pairsB:List Int->Bool
 |a::b::l=>(in6 a 0 4&&(in6 b 0 4&&decide (a≠b)))&&pairsB l
 |_=>true
def setLinks (ls:List Bool):List Int->List Bool
 |a::b::l=>setLinks ((ls.set (a * 5+b).toNat true).set (b * 5+a).toNat true) l
 |_=>ls
def baseN:Nt:=⟨(List.range 5).map (fun i:Nat=>l21Born i 1),List.replicate 25 false,[],List.replicate 5 [[],[]]⟩
def newN (l:List Int):Option Nt:=if (l.length % 2=0/\l.length<=40)/\pairsB l=true then some { baseN with links:=setLinks baseN.links l }else none
end Go.Proofs.YtcblbdpdbggkbaaGreat.N
namespace Go.Proofs.YtcblbdpdbggkbaaGreat
open Go.RowKit Go.Sort
def encP2 (p:Int × Int):List Value:=[.int .i64 p.1,.int .i64 p.2]
def pairsR:Rep (List (Int × Int)):=flR 213 2 encP2
def knotsR:Rep (List (Int × Int)):=flR 152 2 encP2
theorem pairsR_frame:pairsR.Frame:=flR_frame
theorem knotsR_frame:knotsR.Frame:=flR_frame
theorem ints_flat (zs:List Int):zs.flatMap encI=ints zs:=by
 induction zs with
 |nil=>rfl
 |cons z zs ih=>rw[List.flatMap_cons,ih];rfl
theorem intsR_of {w:World} {B:Nat} {v:Value} {zs:List Int} (h:OwnI w B v zs):intsR w [v] zs v.ownBlock.toList:=
 .inl (slc_flat_of (by rw[ints_flat];exact h) (fun _=>rfl))
theorem intsR_to {w:World} {cs:List Value} {zs:List Int} {fp:List Nat} (h:intsR w cs zs fp):∃v,cs=[v]/\Ints w v zs/\(zs≠[]->OwnI w 0 v zs/\fp=v.ownBlock.toList):=by
 rcases h with h|⟨rfl,rfl,b,o,rfl,hb⟩
 ·obtain⟨v,e,ho,hf⟩:=slc_flat_to h
  rw[ints_flat]at ho;exact⟨v,e,OwnI.rd ho,fun _=>⟨ho,hf⟩⟩
 ·exact⟨_,rfl,.inr ⟨b,o,0,rfl,Nat.le_refl _,Nat.zero_le _,hb,fun i hi=>absurd hi (Nat.not_lt_zero i)⟩,fun q=>absurd rfl q⟩
theorem pairsR_of {w:World} {B:Nat} {v:Value} {ps:List T.Pr} (h:T.OwnP w B v ps):pairsR w [v] ps v.ownBlock.toList:=.inl (slc_flat_of h (fun _=>rfl))
theorem pairsR_to {w:World} {cs:List Value} {ps:List T.Pr} {fp:List Nat} (h:pairsR w cs ps fp):∃v,cs=[v]/\T.Prs w v ps/\(ps≠[]->T.OwnP w 0 v ps/\fp=v.ownBlock.toList):=by
 rcases h with h|⟨rfl,rfl,b,o,rfl,hb⟩
 ·obtain⟨v,e,ho,hf⟩:=slc_flat_to h
  exact⟨v,e,T.OwnP.rd ho,fun _=>⟨ho,hf⟩⟩
 ·exact⟨_,rfl,.inr ⟨b,o,0,rfl,Nat.le_refl _,Nat.zero_le _,hb,fun i hi=>absurd hi (Nat.not_lt_zero i)⟩,fun q=>absurd rfl q⟩
theorem knotsR_of {w:World} {B:Nat} {v:Value} {ps:List K.Pr} (h:K.OwnP w B v ps):knotsR w [v] ps v.ownBlock.toList:=.inl (slc_flat_of h (fun _=>rfl))
theorem knotsR_to {w:World} {cs:List Value} {ps:List K.Pr} {fp:List Nat} (h:knotsR w cs ps fp):∃v,cs=[v]/\K.Prs w v ps/\(ps≠[]->K.OwnP w 0 v ps/\fp=v.ownBlock.toList):=by
 rcases h with h|⟨rfl,rfl,b,o,rfl,hb⟩
 ·obtain⟨v,e,ho,hf⟩:=slc_flat_to h
  exact⟨v,e,K.OwnP.rd ho,fun _=>⟨ho,hf⟩⟩
 ·exact⟨_,rfl,.inr ⟨b,o,0,rfl,Nat.le_refl _,Nat.zero_le _,hb,fun i hi=>absurd hi (Nat.not_lt_zero i)⟩,fun q=>absurd rfl q⟩
theorem rowsR_of {w:World} {B:Nat} {v:Value} {rs:List (List Int)} {G C:Nat->Nat} (h:OwnR w B v rs G C):rowsR w [v] rs (v.ownBlock.toList++(List.range rs.length).map G):=by
 refine⟨v,fun i=>[rowV rs G C i],fun i=>[G i],rfl,?_,fun i hi=>rfl,fun i a hi=>?_,?_⟩
 ·rw[one_flat]
  exact ownsRow_base h.hdr (Nat.zero_le _)
 ·have hlt:=(List.getElem?_eq_some_iff.1 hi).1
  have e:rs.getD i []=a:=by rw[List.getD_eq_getElem?_getD,hi];rfl
  have r:=h.row i hlt;rw[e]at r;exact intsR_of r
 ·rw[one_flat]
theorem rowsR_rd {w:World} {cs:List Value} {rs:List (List Int)} {fp:List Nat} (h:rowsR w cs rs fp):∃v,cs=[v]/\Rws w v rs:=by
 obtain⟨v,c,f,rfl,ho,hl,ha,rfl⟩:=h;refine⟨v,rfl,?_⟩;rcases ho.2 with ⟨rfl,h0⟩|⟨g,cap,cur,rfl,hb,hg,hn,hc,hs,ht⟩
 ·exact .inl ⟨rfl,List.eq_nil_of_length_eq_zero h0⟩
 ·refine .inr ⟨g,0,cap,rfl,hn,hc,(Array.getElem?_eq_some_iff.1 hg).1,fun i hi=>?_⟩
  obtain⟨x,hx,hox,_⟩:=intsR_to (ha i _ (List.getElem?_eq_getElem hi));have q:=World.ownsRow.cellAt ho i (by omega);have z:=flat_at (k:=0) hl hi (by omega);rw[Nat.mul_one,Nat.add_zero]at z;refine⟨x,by rw[Nat.zero_add,q,z,hx];rfl,?_⟩;rw[List.getD_eq_getElem?_getD,List.getElem?_eq_getElem hi];exact hox
def sumR:Rep Sm:=fun w cs s fp=>∃V f1 f2 f3 f4,cs=[.slice V.xr V.nr V.cr,.slice V.xf V.nf V.cf,.slice V.xt V.nt V.ct,.int .i64 s.lo,.int .i64 s.al,.slice V.xk V.nk V.ck,.int .i64 s.ka]/\fp=f1++(f2++(f3++f4))/\rowsR w [SV.r V] s.rs f1/\intsR w [SV.f V] s.zs f2/\pairsR w [SV.t V] s.ps f3/\knotsR w [SV.k V] s.ks f4
theorem sumR_frame:sumR.Frame:=by
 refine⟨?_,?_⟩
 ·rintro w cs s fp ⟨V,f1,f2,f3,f4,rfl,rfl,h1,h2,h3,h4⟩ b hm
  simp only[List.mem_append]at hm;rcases hm with hm|hm|hm|hm
  ·exact rowsR_frame.lt h1 b hm
  ·exact intsR_frame.lt h2 b hm
  ·exact pairsR_frame.lt h3 b hm
  ·exact knotsR_frame.lt h4 b hm
 ·rintro w w' cs s fp ⟨V,f1,f2,f3,f4,rfl,rfl,h1,h2,h3,h4⟩ hk hs
  exact⟨V,f1,f2,f3,f4,rfl,rfl,rowsR_frame.keep h1 (fun b hm=>hk b (by simp[hm])) hs,intsR_frame.keep h2 (fun b hm=>hk b (by simp[hm])) hs,pairsR_frame.keep h3 (fun b hm=>hk b (by simp[hm])) hs,knotsR_frame.keep h4 (fun b hm=>hk b (by simp[hm])) hs⟩
theorem sumR_rd {w:World} {cs:List Value} {s:Sm} {fp:List Nat} (h:sumR w cs s fp):∃V,cs=[.slice V.xr V.nr V.cr,.slice V.xf V.nf V.cf,.slice V.xt V.nt V.ct,.int .i64 s.lo,.int .i64 s.al,.slice V.xk V.nk V.ck,.int .i64 s.ka]/\RdS w V s:=by
 obtain⟨V,f1,f2,f3,f4,rfl,rfl,h1,h2,h3,h4⟩:=h;obtain⟨v1,e1,r1⟩:=rowsR_rd h1;obtain⟨v2,e2,r2,_⟩:=intsR_to h2;obtain⟨v3,e3,r3,_⟩:=pairsR_to h3;obtain⟨v4,e4,r4,_⟩:=knotsR_to h4;cases e1;cases e2;cases e3;cases e4;exact⟨V,rfl,r1,r2,r3,r4⟩
theorem OwnS.rep {w:World} {B U:Nat} {V:SV} {s:Sm} (h:OwnS w B U V s):∃fp,sumR w [.slice V.xr V.nr V.cr,.slice V.xf V.nf V.cf,.slice V.xt V.nt V.ct,.int .i64 s.lo,.int .i64 s.al,.slice V.xk V.nk V.ck,.int .i64 s.ka] s fp/\fp.Nodup/\∀b ∈ fp,B<=b/\b<U:=by
 obtain⟨M,m1,m2,⟨G,C,o,q1,q2,q3⟩,hf⟩:=h.mid;refine⟨_,⟨V,_,_,_,_,rfl,rfl,rowsR_of o,intsR_of hf,pairsR_of h.t,knotsR_of h.k⟩,?_,?_⟩
 ·have gG:∀i,i<s.rs.length->B<=G i/\G i<M:=fun i hi=>⟨((o.row i hi).lt (G i) rfl).1,q2 i hi⟩
  have gr:∀b,V.r.ownBlock=some b->B<=b/\b<M:=fun b e=>⟨(World.ownsRow.lt o.hdr b e).1,q1 b e⟩
  have gf:∀b,V.f.ownBlock=some b->M<=b:=fun b e=>(World.ownsRow.lt hf b e).1
  have tr:∀b,V.t.ownBlock=some b->V.r.ownBlock≠some b:=fun b e e'=>by
   rcases own_ne h.t o.hdr (by decide)with n|n
   ·rw[n]at e;cases e
   ·exact n (e.trans e'.symm)
  have tg:∀b,V.t.ownBlock=some b->∀i,i<s.rs.length->G i≠b:=fun b e i hi e'=>by
   rcases own_ne h.t (o.row i hi) (by decide)with n|n
   ·rw[n]at e;cases e
   ·exact n (e.trans (by rw[<-e'];rfl))
  have tf:∀b,V.t.ownBlock=some b->V.f.ownBlock≠some b:=fun b e e'=>by
   rcases own_ne h.t hf (by decide)with n|n
   ·rw[n]at e;cases e
   ·exact n (e.trans e'.symm)
  have kr:∀b,V.k.ownBlock=some b->V.r.ownBlock≠some b:=fun b e e'=>by
   rcases own_ne h.k o.hdr (by decide)with n|n
   ·rw[n]at e;cases e
   ·exact n (e.trans e'.symm)
  have kg:∀b,V.k.ownBlock=some b->∀i,i<s.rs.length->G i≠b:=fun b e i hi e'=>by
   rcases own_ne h.k (o.row i hi) (by decide)with n|n
   ·rw[n]at e;cases e
   ·exact n (e.trans (by rw[<-e'];rfl))
  have kf:∀b,V.k.ownBlock=some b->V.f.ownBlock≠some b:=fun b e e'=>by
   rcases own_ne h.k hf (by decide)with n|n
   ·rw[n]at e;cases e
   ·exact n (e.trans e'.symm)
  have kt:∀b,V.k.ownBlock=some b->V.t.ownBlock≠some b:=fun b e e'=>by
   rcases own_ne h.k h.t (by decide)with n|n
   ·rw[n]at e;cases e
   ·exact n (e.trans e'.symm)
  refine List.nodup_append.2 ⟨List.nodup_append.2 ⟨block_nodup _,?_,?_⟩,List.nodup_append.2 ⟨block_nodup _,List.nodup_append.2 ⟨block_nodup _,block_nodup _,?_⟩,?_⟩,?_⟩
  ·exact List.pairwise_map.2 (List.Pairwise.imp_of_mem (fun {i j} hi hj q e=>o.apart i j (List.mem_range.1 hi) (List.mem_range.1 hj) q e) List.nodup_range)
  ·intro a ha b hb e
   obtain⟨i,hi,rfl⟩:=List.mem_map.1 hb;exact o.off i (List.mem_range.1 hi) (by rw[block_mem ha,e])
  ·intro a ha b hb e
   exact kt b (block_mem hb) (by rw[block_mem ha,e])
  ·intro a ha b hb e
   rcases List.mem_append.1 hb with hb|hb
   ·exact tf b (block_mem hb) (by rw[block_mem ha,e])
   ·exact kf b (block_mem hb) (by rw[block_mem ha,e])
  ·intro a ha b hb e
   subst e;rcases List.mem_append.1 ha with ha|ha
   ·have e1:=block_mem ha
    rcases List.mem_append.1 hb with hb|hb
    ·have:=gf a (block_mem hb);have:=(gr a e1).2;omega
    ·rcases List.mem_append.1 hb with hb|hb
     ·exact tr a (block_mem hb) e1
     ·exact kr a (block_mem hb) e1
   ·obtain⟨i,hi,rfl⟩:=List.mem_map.1 ha
    have hi:=List.mem_range.1 hi;rcases List.mem_append.1 hb with hb|hb
    ·have:=gf _ (block_mem hb);have:=(gG i hi).2;omega
    ·rcases List.mem_append.1 hb with hb|hb
     ·exact tg _ (block_mem hb) i hi rfl
     ·exact kg _ (block_mem hb) i hi rfl
 ·intro b hb
  simp only[List.mem_append]at hb;rcases hb with (hb|hb)|hb|hb|hb
  ·have e:=block_mem hb
   have:=(World.ownsRow.lt o.hdr b e).1;have:=q1 b e;omega
  ·obtain⟨i,hi,rfl⟩:=List.mem_map.1 hb
   have hi:=List.mem_range.1 hi;have:=((o.row i hi).lt (G i) rfl).1;have:=q2 i hi;omega
  ·have e:=block_mem hb
   have:=(World.ownsRow.lt hf b e).1;have:=h.ft b e;omega
  ·have e:=block_mem hb
   exact⟨(World.ownsRow.lt h.t b e).1,h.tt b e⟩
  ·have e:=block_mem hb
   exact⟨(World.ownsRow.lt h.k b e).1,h.kt b e⟩
theorem sumR_one:sumR.One 7:=by
 refine⟨?_,?_⟩
 ·rintro w cs s fp ⟨V,f1,f2,f3,f4,rfl,_⟩;rfl
 ·rintro w cs s fp ⟨V,f1,f2,f3,f4,rfl,_,h1,h2,h3,h4⟩ u hu
  have o1:=(slcR_one intsR 23 1).one h1;have o2:=flR_one.one h2;have o3:=flR_one.one h3;have o4:=flR_one.one h4;simp only[List.mem_singleton,forall_eq]at o1 o2 o3 o4;simp only[List.mem_cons,List.not_mem_nil,or_false]at hu;rcases hu with rfl|rfl|rfl|rfl|rfl|rfl|rfl<;>first|assumption|rfl
namespace N
structure Ty where
 entry:TypeId
 node:TypeId
 word:TypeId
 bool:TypeId
 rows:TypeId
variable {T:Ty}
def encB (b:Bool):List Value:=[.bool b]
def entryR:Rep En:=viaR (andR intR (andR intR (andR intR sumR))) fun e=>(e.node,e.born,e.num,e.s)
def knownR (T:Ty):Rep (List En):=slcR T.entry 10 entryR
def nodeR (T:Ty):Rep Nd:=viaR (andR intR (andR (knownR T) (andR intR (andR intR intR)))) fun x=>(x.born,x.known,x.beacon,x.level,x.up)
def wordR (T:Ty):Rep Wd:=viaR (andR intR (andR intR (andR intR (andR intR (andR intR (knownR T)))))) fun x=>(x.kind,x.src,x.dst,x.beacon,x.level,x.known)
def nodesR (T:Ty):Rep (List Nd):=slcR T.node 5 (nodeR T)
def wordsR (T:Ty):Rep (List Wd):=slcR T.word 6 (wordR T)
def linksR (T:Ty):Rep (List Bool):=slcR T.bool 1 (flatR encB)
def pastR (T:Ty):Rep (List (List (List Int))):=slcR T.rows 1 rowsR
def netR (T:Ty):Rep Nt:=viaR (andR (nodesR T) (andR (linksR T) (andR (wordsR T) (pastR T)))) fun n=>(n.nodes,n.links,n.words,n.past)
theorem entryR_frame:entryR.Frame:=viaR_frame (andR_frame intR_frame (andR_frame intR_frame (andR_frame intR_frame sumR_frame))) _
theorem knownR_frame:(knownR T).Frame:=slcR_frame entryR_frame _ _
theorem nodeR_frame:(nodeR T).Frame:=viaR_frame (andR_frame intR_frame (andR_frame knownR_frame (andR_frame intR_frame (andR_frame intR_frame intR_frame)))) _
theorem wordR_frame:(wordR T).Frame:=viaR_frame (andR_frame intR_frame (andR_frame intR_frame (andR_frame intR_frame (andR_frame intR_frame (andR_frame intR_frame knownR_frame))))) _
theorem entryR_one:entryR.One 10:=viaR_one (andR_one intR_one (andR_one intR_one (andR_one intR_one sumR_one))) _
theorem nodeR_one:(nodeR T).One 5:=viaR_one (andR_one intR_one (andR_one (slcR_one _ _ _) (andR_one intR_one (andR_one intR_one intR_one)))) _
theorem wordR_one:(wordR T).One 6:=viaR_one (andR_one intR_one (andR_one intR_one (andR_one intR_one (andR_one intR_one (andR_one intR_one (slcR_one _ _ _)))))) _
section
variable {w:World} {cs:List Value} {fp:List Nat}
theorem entryR_iff {e:En}:entryR w cs e fp↔∃c,cs=.int .i64 e.node::.int .i64 e.born::.int .i64 e.num::c/\sumR w c e.s fp:=by
 constructor
 ·rintro⟨_,_,_,_,rfl,rfl,⟨rfl,rfl⟩,⟨_,_,_,_,rfl,rfl,⟨rfl,rfl⟩,⟨_,_,_,_,rfl,rfl,⟨rfl,rfl⟩,h⟩⟩⟩
  exact⟨_,rfl,h⟩
 ·rintro⟨c,rfl,h⟩
  exact⟨[_],_,[],fp,rfl,rfl,⟨rfl,rfl⟩,⟨[_],_,[],fp,rfl,rfl,⟨rfl,rfl⟩,⟨[_],_,[],fp,rfl,rfl,⟨rfl,rfl⟩,h⟩⟩⟩
theorem nodeR_iff {x:Nd}:nodeR T w cs x fp↔∃v,cs=[.int .i64 x.born,v,.int .i64 x.beacon,.int .i64 x.level,.int .i64 x.up]/\knownR T w [v] x.known fp:=by
 constructor
 ·rintro⟨_,_,_,_,rfl,rfl,⟨rfl,rfl⟩,⟨_,_,_,_,rfl,rfl,h,⟨_,_,_,_,rfl,rfl,⟨rfl,rfl⟩,⟨_,_,_,_,rfl,rfl,⟨rfl,rfl⟩,⟨rfl,rfl⟩⟩⟩⟩⟩
  obtain⟨v,c,f,rfl,h'⟩:=h;refine⟨v,rfl,?_⟩;simp only[List.nil_append,List.append_nil];exact⟨v,c,f,rfl,h'⟩
 ·rintro⟨v,rfl,h⟩
  refine⟨[_],[v,_,_,_],[],fp,rfl,rfl,⟨rfl,rfl⟩,⟨[v],[_,_,_],fp,[],rfl,(List.append_nil _).symm,h,⟨[_],[_,_],[],[],rfl,rfl,⟨rfl,rfl⟩,⟨[_],[_],[],[],rfl,rfl,⟨rfl,rfl⟩,⟨rfl,rfl⟩⟩⟩⟩⟩
theorem wordR_iff {x:Wd}:wordR T w cs x fp↔∃v,cs=[.int .i64 x.kind,.int .i64 x.src,.int .i64 x.dst,.int .i64 x.beacon,.int .i64 x.level,v]/\knownR T w [v] x.known fp:=by
 constructor
 ·rintro⟨_,_,_,_,rfl,rfl,⟨rfl,rfl⟩,⟨_,_,_,_,rfl,rfl,⟨rfl,rfl⟩,⟨_,_,_,_,rfl,rfl,⟨rfl,rfl⟩,⟨_,_,_,_,rfl,rfl,⟨rfl,rfl⟩,⟨_,_,_,_,rfl,rfl,⟨rfl,rfl⟩,h⟩⟩⟩⟩⟩
  obtain⟨v,c,f,rfl,h'⟩:=h;exact⟨v,rfl,⟨v,c,f,rfl,h'⟩⟩
 ·rintro⟨v,rfl,h⟩
  exact⟨[_],_,[],fp,rfl,rfl,⟨rfl,rfl⟩,⟨[_],_,[],fp,rfl,rfl,⟨rfl,rfl⟩,⟨[_],_,[],fp,rfl,rfl,⟨rfl,rfl⟩,⟨[_],_,[],fp,rfl,rfl,⟨rfl,rfl⟩,⟨[_],_,[],fp,rfl,rfl,⟨rfl,rfl⟩,h⟩⟩⟩⟩⟩
theorem netR_iff {n:Nt}:netR T w cs n fp↔∃v1 v2 v3 v4 f1 f2 f3 f4,cs=[v1,v2,v3,v4]/\fp=f1++(f2++(f3++f4))/\nodesR T w [v1] n.nodes f1/\linksR T w [v2] n.links f2/\wordsR T w [v3] n.words f3/\pastR T w [v4] n.past f4:=by
 constructor
 ·rintro⟨_,_,f1,_,rfl,rfl,⟨v1,a1,b1,rfl,h1⟩,⟨_,_,f2,_,rfl,rfl,⟨v2,a2,b2,rfl,h2⟩,⟨_,_,f3,f4,rfl,rfl,⟨v3,a3,b3,rfl,h3⟩,⟨v4,a4,b4,rfl,h4⟩⟩⟩⟩
  exact⟨v1,v2,v3,v4,f1,f2,f3,f4,rfl,rfl,⟨v1,a1,b1,rfl,h1⟩,⟨v2,a2,b2,rfl,h2⟩,⟨v3,a3,b3,rfl,h3⟩,⟨v4,a4,b4,rfl,h4⟩⟩
 ·rintro⟨v1,v2,v3,v4,f1,f2,f3,f4,rfl,rfl,h1,h2,h3,h4⟩
  exact⟨[v1],[v2,v3,v4],f1,_,rfl,rfl,h1,⟨[v2],[v3,v4],f2,_,rfl,rfl,h2,⟨[v3],[v4],f3,f4,rfl,rfl,h3,h4⟩⟩⟩
end
end N
end Go.Proofs.YtcblbdpdbggkbaaGreat
namespace Go.Proofs.YtcblbdpdbggkbaaGreat
open Go.RowKit Go.Sort
namespace N
variable {T:Ty} {w:World} {B:Nat} {n:Nt} {fp:List Nat} {v1 v2 v3 v4:Value}
variable {T:Ty} {w:World} {fp:List Nat} {x:Option Addr} {k c:Nat}
theorem known_at {es:List En} (h:knownR T w [.slice x k c] es fp) {i:Nat} {e:En} (hi:es[i]? =some e):∃(g:Nat) (V:SV) (fe:List Nat),x=some ⟨g,0,none⟩/\g<w.heap.size/\(∀b ∈ fe,b ∈ fp)/\sumR w [.slice V.xr V.nr V.cr,.slice V.xf V.nf V.cf,.slice V.xt V.nt V.ct,.int .i64 (e.s).lo,.int .i64 (e.s).al,.slice V.xk V.nk V.ck,.int .i64 (e.s).ka] e.s fe/\
  w.cell? ⟨g,i * 10,none⟩=some (.int .i64 e.node)/\w.cell? ⟨g,i * 10+1,none⟩=some (.int .i64 e.born)/\w.cell? ⟨g,i * 10+2,none⟩=some (.int .i64 e.num)/\
  ∀j z,([.slice V.xr V.nr V.cr,.slice V.xf V.nf V.cf,.slice V.xt V.nt V.ct,.int .i64 (e.s).lo,.int .i64 (e.s).al,.slice V.xk V.nk V.ck,.int .i64 (e.s).ka]:List Value)[j]? =some z->w.cell? ⟨g,i * 10+(3+j),none⟩=some z:=by
 obtain⟨_,at_⟩:=slcR_row h;obtain⟨g,ci,fi,q,h1,h2,h3,h4,h5⟩:=at_ hi;obtain⟨cs,rfl,hs⟩:=entryR_iff.1 h2;obtain⟨V,f1,f2,f3,f4,rfl,r⟩:=hs;refine⟨g,V,fi,q,h1,h3,⟨V,f1,f2,f3,f4,rfl,r⟩,h5 0 _ rfl,h5 1 _ rfl,h5 2 _ rfl,fun j z hz=>h5 (3+j) z ?_⟩;rw[Nat.add_comm];exact hz
theorem node_at {ns:List Nd} (h:nodesR T w [.slice x k c] ns fp) {i:Nat} {a:Nd} (hi:ns[i]? =some a):∃g xk ck fk,x=some ⟨g,0,none⟩/\g<w.heap.size/\(∀b ∈ fk,b ∈ fp)/\knownR T w [.slice xk a.known.length ck] a.known fk/\a.known.length<=ck/\ck<=maxLen/\
  w.cell? ⟨g,i * 5,none⟩=some (.int .i64 a.born)/\w.cell? ⟨g,i * 5+1,none⟩=some (.slice xk a.known.length ck)/\w.cell? ⟨g,i * 5+2,none⟩=some (.int .i64 a.beacon)/\w.cell? ⟨g,i * 5+3,none⟩=some (.int .i64 a.level)/\w.cell? ⟨g,i * 5+4,none⟩=some (.int .i64 a.up):=by
 obtain⟨_,at_⟩:=slcR_row h;obtain⟨g,ci,fi,q,h1,h2,h3,h4,h5⟩:=at_ hi;obtain⟨kn,rfl,hk⟩:=nodeR_iff.1 h2;obtain⟨xk,ck,rfl,l1,l2⟩:=slcR_value hk;exact⟨g,xk,ck,fi,q,h1,h3,hk,l1,l2,h5 0 _ rfl,h5 1 _ rfl,h5 2 _ rfl,h5 3 _ rfl,h5 4 _ rfl⟩
theorem wordR_at {ws:List Wd} (h:wordsR T w [.slice x k c] ws fp) {i:Nat} {a:Wd} (hi:ws[i]? =some a):∃g xk ck fk,x=some ⟨g,0,none⟩/\g<w.heap.size/\(∀b ∈ fk,b ∈ fp)/\knownR T w [.slice xk a.known.length ck] a.known fk/\a.known.length<=ck/\ck<=maxLen/\
  w.cell? ⟨g,i * 6,none⟩=some (.int .i64 a.kind)/\w.cell? ⟨g,i * 6+1,none⟩=some (.int .i64 a.src)/\w.cell? ⟨g,i * 6+2,none⟩=some (.int .i64 a.dst)/\w.cell? ⟨g,i * 6+3,none⟩=some (.int .i64 a.beacon)/\w.cell? ⟨g,i * 6+4,none⟩=some (.int .i64 a.level)/\w.cell? ⟨g,i * 6+5,none⟩=some (.slice xk a.known.length ck):=by
 obtain⟨_,at_⟩:=slcR_row h;obtain⟨g,ci,fi,q,h1,h2,h3,h4,h5⟩:=at_ hi;obtain⟨kn,rfl,hk⟩:=wordR_iff.1 h2;obtain⟨xk,ck,rfl,l1,l2⟩:=slcR_value hk;exact⟨g,xk,ck,fi,q,h1,h3,hk,l1,l2,h5 0 _ rfl,h5 1 _ rfl,h5 2 _ rfl,h5 3 _ rfl,h5 4 _ rfl,h5 5 _ rfl⟩
theorem link_at {ls:List Bool} (h:linksR T w [.slice x k c] ls fp) {i:Nat} {b:Bool} (hi:ls[i]? =some b):∃g,x=some ⟨g,0,none⟩/\g<w.heap.size/\w.cell? ⟨g,i,none⟩=some (.bool b):=by
 obtain⟨_,at_⟩:=slcR_row h;obtain⟨g,ci,fi,q,h1,h2,h3,h4,h5⟩:=at_ hi;refine⟨g,q,h1,?_⟩;have r:=h5 0 (.bool b) (by rw[h2.1];rfl);rwa[Nat.mul_one,Nat.add_zero]at r
theorem past_at {ps:List (List (List Int))} (h:pastR T w [.slice x k c] ps fp) {i:Nat} {rs:List (List Int)} (hi:ps[i]? =some rs):∃g xr cr fr,x=some ⟨g,0,none⟩/\g<w.heap.size/\(∀b ∈ fr,b ∈ fp)/\rowsR w [.slice xr rs.length cr] rs fr/\rs.length<=cr/\cr<=maxLen/\w.cell? ⟨g,i,none⟩=some (.slice xr rs.length cr):=by
 obtain⟨_,at_⟩:=slcR_row h;obtain⟨g,ci,fi,q,h1,h2,h3,h4,h5⟩:=at_ hi;obtain⟨vr,rfl⟩:∃vr,ci=[vr]:=by
  obtain⟨vr,a,b,e,_⟩:=h2;exact⟨vr,e⟩
 obtain⟨xr,cr,rfl,l1,l2⟩:=slcR_value h2;have r:=h5 0 _ rfl;rw[Nat.mul_one,Nat.add_zero]at r;exact⟨g,xr,cr,fi,q,h1,h3,h2,l1,l2,r⟩
theorem row_at {rs:List (List Int)} (h:rowsR w [.slice x k c] rs fp) {i:Nat} {l:List Int} (hi:rs[i]? =some l):∃g xr cr fr,x=some ⟨g,0,none⟩/\g<w.heap.size/\(∀b ∈ fr,b ∈ fp)/\intsR w [.slice xr l.length cr] l fr/\l.length<=cr/\cr<=maxLen/\w.cell? ⟨g,i,none⟩=some (.slice xr l.length cr):=by
 obtain⟨_,at_⟩:=slcR_row h;obtain⟨g,ci,fi,q,h1,h2,h3,h4,h5⟩:=at_ hi;obtain⟨vr,rfl⟩:∃vr,ci=[vr]:=by
  obtain⟨vr,e,_⟩:=intsR_to h2;exact⟨vr,e⟩
 obtain⟨xr,cr,rfl,l1,l2⟩:=flR_value h2;have r:=h5 0 _ rfl;rw[Nat.mul_one,Nat.add_zero]at r;exact⟨g,xr,cr,fi,q,h1,h3,h2,l1,l2,r⟩
end N
end Go.Proofs.YtcblbdpdbggkbaaGreat
namespace Go.Proofs.YtcblbdpdbggkbaaGreat
open Go.RowKit Go.Sort
section
variable {w w0 w':World} {B b:Nat} {l:List Ch} {t:TypeId}
theorem M.sum {V:SV} {s:Sm} (h:M B w0 w l) (hb:Below w.heap.size w w') (ho:OwnS w' w.heap.size w'.heap.size V s):M B w0 w' (sumR_frame.ch (cS V s) s::l):=by
 obtain⟨fp,h1,h2,h3⟩:=ho.rep;exact h.got sumR_frame hb ⟨h1,h2,fun b hb=>(h3 b hb).1⟩
end
namespace N
def TY:Ty:=⟨64,55,123,4,34⟩
def knownC (v:Value) (es:List En):Ch:=slcC entryR_frame 64 10 v es
def nodeC (cs:List Value) (x:Nd):Ch:=(nodeR_frame (T:=TY)).ch cs x
def wordC (cs:List Value) (x:Wd):Ch:=(wordR_frame (T:=TY)).ch cs x
def nodesC (v:Value) (xs:List Nd):Ch:=slcC (nodeR_frame (T:=TY)) 55 5 v xs
def wordsC (v:Value) (xs:List Wd):Ch:=slcC (wordR_frame (T:=TY)) 123 6 v xs
def linksC (v:Value) (xs:List Bool):Ch:=slcC (flatR_frame encB) 4 1 v xs
def intsC (v:Value) (xs:List Int):Ch:=intsR_frame.ch [v] xs
def rowsC (v:Value) (xs:List (List Int)):Ch:=slcC intsR_frame 23 1 v xs
def pastC (v:Value) (xs:List (List (List Int))):Ch:=slcC rowsR_frame 34 1 v xs
theorem entS:SlT Tryz.prog 53 64 (.agg #[iv 0,iv 0,iv 0,zn,zn,zn,iv 0,iv 0,zn,iv 0]) 10 144:=⟨Tryz.underlying53,by kernel_rfl,rfl,by decide⟩
theorem nodeS:SlT Tryz.prog 25 55 (.agg #[iv 0,zn,iv 0,iv 0,iv 0]) 5 56:=⟨Tryz.underlying25,by kernel_rfl,rfl,by decide⟩
theorem wordS:SlT Tryz.prog 27 123 (.agg #[iv 0,iv 0,iv 0,iv 0,iv 0,zn]) 6 64:=⟨Tryz.underlying27,by kernel_rfl,rfl,by decide⟩
theorem linkS:SlT Tryz.prog 26 4 (.bool false) 1 1:=⟨Tryz.underlying26,by kernel_rfl,rfl,by decide⟩
theorem intS:SlT Tryz.prog 23 3 (iv 0) 1 8:=⟨Tryz.underlying23,by kernel_rfl,rfl,by decide⟩
theorem rowS:SlT Tryz.prog 34 23 zn 1 24:=⟨Tryz.underlying34,by kernel_rfl,rfl,by decide⟩
theorem rowsS:SlT Tryz.prog 28 34 zn 1 24:=⟨Tryz.underlying28,by kernel_rfl,rfl,by decide⟩
section
variable {w w0 w':World} {B b:Nat} {l:List Ch}
theorem _root_.Go.Proofs.YtcblbdpdbggkbaaGreat.M.soft {α:Type} {enc:α->List Value} {e:TypeId} {size:Nat} {v:Value} {xs:List α} (h:M B w0 w (slcC (flatR_frame enc) e size v xs::l)):M B w0 w ((flR_frame (e:=e) (size:=size) (enc:=enc)).ch [v] xs::l):=
 h.to fun f hf nd=>⟨f,.inl hf,nd,fun _ hb=>hb⟩
theorem _root_.Go.Proofs.YtcblbdpdbggkbaaGreat.M.flat {α:Type} (enc:α->List Value) (a:α) (h:M B w0 w l):M B w0 w ((flatR_frame enc).ch (enc a) a::l):=
 h.add (Below.refl _ _) (f:=[]) ⟨rfl,rfl⟩ List.nodup_nil fun b hb=>by cases hb
theorem _root_.Go.Proofs.YtcblbdpdbggkbaaGreat.M.entry {V:SV} {s:Sm} (i born num:Int) (h:M B w0 w (sumR_frame.ch (cS V s) s::l)):M B w0 w (entryR_frame.ch [iv i,iv born,iv num,.slice V.xr V.nr V.cr,.slice V.xf V.nf V.cf,.slice V.xt V.nt V.ct,iv s.lo,iv s.al,.slice V.xk V.nk V.ck,iv s.ka] ⟨i,born,num,s⟩::l):=
 h.to fun f hf nd=>⟨f,entryR_iff.2 ⟨_,rfl,hf⟩,nd,fun _ h=>h⟩
theorem _root_.Go.Proofs.YtcblbdpdbggkbaaGreat.M.node {v:Value} {es:List En} (born beacon level up:Int) (h:M B w0 w (knownC v es::l)):M B w0 w (nodeC [iv born,v,iv beacon,iv level,iv up] ⟨born,es,beacon,level,up⟩::l):=
 h.to fun f hf nd=>⟨f,nodeR_iff.2 ⟨_,rfl,hf⟩,nd,fun _ h=>h⟩
theorem _root_.Go.Proofs.YtcblbdpdbggkbaaGreat.M.word {v:Value} {es:List En} (kind src dst beacon level:Int) (h:M B w0 w (knownC v es::l)):M B w0 w (wordC [iv kind,iv src,iv dst,iv beacon,iv level,v] ⟨kind,src,dst,beacon,level,es⟩::l):=
 h.to fun f hf nd=>⟨f,wordR_iff.2 ⟨_,rfl,hf⟩,nd,fun _ h=>h⟩
theorem _root_.Go.Proofs.YtcblbdpdbggkbaaGreat.M.net {v1 v2 v3 v4:Value} {ns:List Nd} {ls:List Bool} {ws:List Wd} {ps:List (List (List Int))} (h:M B w0 w (nodesC v1 ns::linksC v2 ls::wordsC v3 ws::pastC v4 ps::l)):∃fp,Sole (netR TY) B w [v1,v2,v3,v4] ⟨ns,ls,ws,ps⟩ fp:=by
 obtain⟨_,⟨f1,_,rfl,h1,⟨f2,_,rfl,h2,⟨f3,_,rfl,h3,⟨f4,f5,rfl,h4,_⟩⟩⟩⟩,nd,lo⟩:=h.own;have e:f1++(f2++(f3++(f4++f5)))=(f1++(f2++(f3++f4)))++f5:=by simp
 rw[e]at nd lo;exact⟨_,netR_iff.2 ⟨_,_,_,_,_,_,_,_,rfl,rfl,h1,h2,h3,h4⟩,(List.nodup_append.1 nd).1,fun b hb=>lo b (List.mem_append_left _ hb)⟩
end
end N
section
variable {α:Type} {A:Rep α} {e:TypeId} {size:Nat} {w w' w0:World} {B i:Nat} {l:List Ch} {xs:List α} {x:α} {v:Value} {ci:List Value}
def holeC (FA:A.Frame) (e:TypeId) (size i:Nat) (v:Value) (xs:List α) (ci:List Value):Ch:=⟨fun w fp=>∃c f,w.ownsRow 0 e size v xs.length ((List.range xs.length).map c).flatten/\(∀j,j<xs.length->(c j).length=size)/\c i=ci/\f i=[]/\(∀j a,j≠i->xs[j]? =some a->A w (c j) a (f j))/\fp=fps v xs.length f,
  fun⟨c,f,ho,_,_,hf,ha,e1⟩ b hb=>(by
    rw[e1]at hb
    rcases mem_split hb with q|⟨j,hj,q⟩
    · exact (ho.lt b q).2
    · by_cases ji:j=i
      · rw[ji,hf]at q;cases q
      · exact FA.lt (ha j _ ji (List.getElem?_eq_getElem hj)) b q),
  fun⟨c,f,ho,hl,hc,hf,ha,e1⟩ hk hs=>⟨c,f,ownsRow_same ho (fun g hg=>hk g (by rw[e1];exact mem_own hg)),hl,hc,hf,fun j a ji hj=>FA.keep (ha j a ji hj) (fun b hb=>hk b (by rw[e1];exact mem_el (List.getElem?_eq_some_iff.1 hj).1 hb)) hs,e1⟩⟩
theorem M.open (FA:A.Frame) (h:M B w0 w (slcC FA e size v xs::l)) (hi:xs[i]? =some x):∃g cap ci,v=.slice (some ⟨g,0,none⟩) xs.length cap/\ci.length=size/\M B w0 w (FA.ch ci x::holeC FA e size i v xs ci::l):=by
 have hlt:i<xs.length:=(List.getElem?_eq_some_iff.1 hi).1;obtain⟨f,hf,_⟩:=h.first;obtain⟨v',c,f,ev,E,_⟩:=slcR_els hf;cases ev;obtain⟨g,cap,ev⟩:∃g cap,v=.slice (some ⟨g,0,none⟩) xs.length cap:=by
  rcases E.own.2 with ⟨_,h0⟩|⟨g,cap,cur,e1,_⟩
  ·omega
  ·exact⟨g,cap,e1⟩
 have key:∀F,(slcC FA e size v xs).at_ w F->F.Nodup->∃F',((FA.ch (c i) x).sep (holeC FA e size i v xs (c i))).at_ w F'/\F'.Nodup/\∀b ∈ F',b ∈ F:=fun F hF nd=>by
  obtain⟨v2,c2,f2,ev2,E2,rfl⟩:=slcR_els hF;cases ev2;have ec:c2 i=c i:=by
   apply List.ext_getElem?;intro k
   by_cases hk:k<size
   ·have z1:(c i)[k]? =some ((c i)[k]'(by rw[E.len i hlt];exact hk)):=List.getElem?_eq_getElem _
    have z2:(c2 i)[k]? =some ((c2 i)[k]'(by rw[E2.len i hlt];exact hk)):=List.getElem?_eq_getElem _;obtain⟨g1,_,q1,_,_,_,_,r1⟩:=E.cell hlt z1;obtain⟨g2,_,q2,_,_,_,_,r2⟩:=E2.cell hlt z2;rw[q1]at q2;cases q2;rw[r1]at r2;rw[z1,z2,r2]
   ·rw[List.getElem?_eq_none (by rw[E2.len i hlt];omega),List.getElem?_eq_none (by rw[E.len i hlt];omega)]
  obtain⟨⟨n1,n2⟩,n3⟩:=fps_nodup.1 nd;have nh:(fps v xs.length (upd f2 i [])).Nodup:=fps_changed nd hlt List.nodup_nil (fun b hb=>by cases hb);have sub:∀b ∈ fps v xs.length (upd f2 i []),b ∈ fps v xs.length f2/\b ∉ f2 i:=fun b hb=>by
   rcases mem_split hb with q|⟨j,hj,q⟩
   ·exact⟨mem_own q,n3 b q i hlt⟩
   ·by_cases ji:j=i
    ·rw[ji,upd_same]at q;cases q
    ·rw[upd_other _ _ ji]at q
     exact⟨mem_el hj q,fun q2=>n2 j i hj hlt ji b q q2⟩
  refine⟨f2 i++fps v xs.length (upd f2 i []),⟨_,_,rfl,by rw[<-ec];exact E2.one i x hi,c2,upd f2 i [],ownsRow_base E2.own (Nat.zero_le _),E2.len,ec,upd_same _ _ _,fun j a ji hj=>by rw[upd_other _ _ ji];exact E2.one j a hj,rfl⟩,List.nodup_append.2 ⟨n1 i hlt,nh,fun a h1 b h2 e1=>(sub b h2).2 (by rw[<-e1];exact h1)⟩,fun b hb=>?_⟩;rcases List.mem_append.1 hb with q|q
  ·exact mem_el hlt q
  ·exact (sub b q).1
 exact⟨g,cap,c i,ev,E.len i hlt,(h.to key).two⟩
theorem M.close {FA:A.Frame} (h:M B w0 w (FA.ch ci x::holeC FA e size i v xs ci::l)) (hi:i<xs.length):M B w0 w (slcC FA e size v (xs.set i x)::l):=
 h.sep.to fun F hF nd=>by
  obtain⟨f1,_,rfl,hx,c,f,ho,hl,hc,hf,ha,rfl⟩:=hF;obtain⟨n1,n2,n3⟩:=List.nodup_append.1 nd;have ln:(xs.set i x).length=xs.length:=List.length_set;refine⟨fps v (xs.set i x).length (upd f i f1),Els.rep (B:=0) ⟨by rw[ln];exact ho,fun j hj=>hl j (by rw[<-ln];exact hj),fun j a hj=>?_⟩,?_,fun b hb=>?_⟩
  ·by_cases ji:j=i
   ·subst ji
    rw[upd_same];rw[List.getElem?_set_self hi]at hj;cases hj;rw[hc];exact hx
   ·rw[upd_other _ _ ji]
    rw[List.getElem?_set_ne (fun q=>ji q.symm)]at hj;exact ha j a ji hj
  ·rw[ln]
   refine fps_changed n2 hi n1 fun b hb=>.inr fun q=>n3 b hb b q rfl
  ·rw[ln]at hb
   rcases fps_mem_changed hb with q|q
   ·exact List.mem_append_right _ q
   ·exact List.mem_append_left _ q
section
variable {g n cap j:Nat} {FA:A.Frame} {u:Value}
theorem M.hcell (h:M B w0 w (holeC FA e size i (.slice (some ⟨g,0,none⟩) n cap) xs ci::l)) (hi:i<xs.length) (hj:ci[j]? =some u):w.cell? ⟨g,i * size+j,none⟩=some u:=by
 obtain⟨F,⟨c,f,ho,hl,hc,hf,ha,rfl⟩,_⟩:=h.first;have hk:j<size:=by have:=(List.getElem?_eq_some_iff.1 hj).1;rw[<-hc,hl i hi]at this;exact this
 have lt:i * size+j<xs.length * size:=by
  have:i * size+size<=xs.length * size:=by rw[<-Nat.succ_mul];exact Nat.mul_le_mul_right _ hi
  omega
 have ho':w.ownsRow 0 e size (.slice (some ⟨g,0,none⟩) xs.length cap) xs.length ((List.range xs.length).map c).flatten:=by
  rcases ho.2 with ⟨q,_⟩|⟨_,_,_,q,_⟩
  ·cases q
  ·cases q;exact ho
 have:=World.ownsRow.cellAt ho' _ lt;rw[this,flat_at hl hi hk,hc,hj]
theorem M.hfree (h:M B w0 w (holeC FA e size i (.slice (some ⟨g,0,none⟩) n cap) xs ci::l)) (k:Nat):w.frozen? ⟨g,k,none⟩=false:=by
 obtain⟨F,⟨c,f,ho,_⟩,_⟩:=h.first;rcases ho.2 with ⟨q,_⟩|⟨g',cap',cur,q,_,hg,_⟩
 ·cases q
 ·cases q;simp[World.frozen?,hg]
theorem M.hset (h:M B w0 w (holeC FA e size i (.slice (some ⟨g,0,none⟩) n cap) xs ci::l)) (hi:i<xs.length) (hj:j<size) (u:Value):M B w0 (w.setCell ⟨g,i * size+j,none⟩ u) (holeC FA e size i (.slice (some ⟨g,0,none⟩) n cap) xs (ci.set j u)::l):=
 h.turn fun F hF nd lo=>by
  obtain⟨c,f,ho,hl,hc,hf,ha,rfl⟩:=hF;obtain⟨⟨n1,n2⟩,n3⟩:=fps_nodup.1 nd;have ho':w.ownsRow 0 e size (.slice (some ⟨g,0,none⟩) xs.length cap) xs.length ((List.range xs.length).map c).flatten:=by
   rcases ho.2 with ⟨q,_⟩|⟨_,_,_,q,_⟩
   ·cases q
   ·cases q;exact ho
  have en:n=xs.length:=by
   rcases ho.2 with ⟨q,_⟩|⟨_,_,_,q,_⟩
   ·cases q
   ·cases q;rfl
  obtain⟨s1,s2⟩:=World.ownsRow.stored ho' (i * size+j) u;refine⟨KeptB.of_grown s2 (mem_own rfl),fps (.slice (some ⟨g,0,none⟩) n cap) xs.length f,⟨upd c i (ci.set j u),f,?_,fun k hk=>?_,upd_same _ _ _,hf,fun k a ki hk=>?_,rfl⟩,nd,fun b hb=>.inl hb⟩
  ·rw[<-hc, <-flat_set hl hi hj,en];exact s1
  ·by_cases q:k=i
   ·rw[q,upd_same,List.length_set, <-hc];exact hl i hi
   ·rw[upd_other _ _ q];exact hl k hk
  ·rw[upd_other _ _ ki]
   have kl:=(List.getElem?_eq_some_iff.1 hk).1;exact FA.keep (ha k a ki hk) (fun b hb=>s2.block b (FA.lt (ha k a ki hk) b hb) fun q=>n3 b q.symm k kl hb) s2.size
theorem M.hcell1 {u:Value} (h:M B w0 w (holeC FA e 1 i (.slice (some ⟨g,0,none⟩) n cap) xs [u]::l)) (hi:i<xs.length):w.cell? ⟨g,i,none⟩=some u:=by
 have:=h.hcell (j:=0) (u:=u) hi rfl;rwa[Nat.mul_one,Nat.add_zero]at this
theorem M.hset1 {u:Value} (h:M B w0 w (holeC FA e 1 i (.slice (some ⟨g,0,none⟩) n cap) xs [u]::l)) (hi:i<xs.length) (y:Value):M B w0 (w.setCell ⟨g,i,none⟩ y) (holeC FA e 1 i (.slice (some ⟨g,0,none⟩) n cap) xs [y]::l):=by
 have:=h.hset hi (j:=0) o_ y;rwa[Nat.mul_one,Nat.add_zero]at this
end
end
section
variable {α:Type} {A:Rep α} {e:TypeId} {size:Nat} {w w' w0:World} {B k:Nat} {l:List Ch} {xs:List α} {x:α} {v:Value} {c:Nat->List Value}
def looseC (FA:A.Frame) (e:TypeId) (size k:Nat) (v:Value) (xs:List α) (c:Nat->List Value):Ch:=⟨fun w fp=>∃f,w.ownsRow 0 e size v xs.length ((List.range xs.length).map c).flatten/\(∀j,j<xs.length->(c j).length=size)/\(∀j,j<k->f j=[])/\(∀j a,k<=j->xs[j]? =some a->A w (c j) a (f j))/\fp=fps v xs.length f,
  fun⟨f,ho,_,hf,ha,e1⟩ b hb=>(by
    rw[e1]at hb
    rcases mem_split hb with q|⟨j,hj,q⟩
    · exact (ho.lt b q).2
    · by_cases jk:j<k
      · rw[hf j jk]at q;cases q
      · exact FA.lt (ha j _ o_ (List.getElem?_eq_getElem hj)) b q),
  fun⟨f,ho,hl,hf,ha,e1⟩ hk hs=>⟨f,ownsRow_same ho (fun g hg=>hk g (by rw[e1];exact mem_own hg)),hl,hf,fun j a jk hj=>FA.keep (ha j a jk hj) (fun b hb=>hk b (by rw[e1];exact mem_el (List.getElem?_eq_some_iff.1 hj).1 hb)) hs,e1⟩⟩
theorem M.loose (FA:A.Frame) (h:M B w0 w (slcC FA e size v xs::l)):∃c,M B w0 w (looseC FA e size 0 v xs c::l):=by
 obtain⟨_,⟨f,g,rfl,hf,hg⟩,nd,lo⟩:=h.own;obtain⟨v',c,ff,ev,E,rfl⟩:=slcR_els hf;cases ev;exact⟨c,h.below,h.low,_,⟨_,g,rfl,⟨ff,E.own,E.len,fun j hj=>absurd hj (Nat.not_lt_zero j),fun j a _ hj=>E.one j a hj,rfl⟩,hg⟩,nd,lo⟩
theorem M.pull {FA:A.Frame} (h:M B w0 w (looseC FA e size k v xs c::l)) (hk:xs[k]? =some x):M B w0 w (FA.ch (c k) x::looseC FA e size (k+1) v xs c::l):=by
 refine M.two (h.to fun F hF nd=>?_);obtain⟨f,ho,hl,hf,ha,rfl⟩:=hF;have hlt:=(List.getElem?_eq_some_iff.1 hk).1;obtain⟨⟨n1,n2⟩,n3⟩:=fps_nodup.1 nd;have nh:(fps v xs.length (upd f k [])).Nodup:=fps_changed nd hlt List.nodup_nil (fun b hb=>by cases hb);have sub:∀b ∈ fps v xs.length (upd f k []),b ∈ fps v xs.length f/\b ∉ f k:=fun b hb=>by
  rcases mem_split hb with q|⟨j,hj,q⟩
  ·exact⟨mem_own q,n3 b q k hlt⟩
  ·by_cases ji:j=k
   ·rw[ji,upd_same]at q;cases q
   ·rw[upd_other _ _ ji]at q
    exact⟨mem_el hj q,fun q2=>n2 j k hj hlt ji b q q2⟩
 refine⟨f k++fps v xs.length (upd f k []),⟨_,_,rfl,ha k x lr_ hk,upd f k [],ho,hl,fun j hj=>?_,fun j a kj hj=>?_,rfl⟩,List.nodup_append.2 ⟨n1 k hlt,nh,fun a h1 b h2 e1=>(sub b h2).2 (by rw[<-e1];exact h1)⟩,fun b hb=>?_⟩
 ·by_cases q:j=k
  ·rw[q,upd_same]
  ·rw[upd_other _ _ q];exact hf j o_
 ·rw[upd_other _ _ o_];exact ha j a o_ hj
 ·rcases List.mem_append.1 hb with q|q
  ·exact mem_el hlt q
  ·exact (sub b q).1
theorem M.lrow {FA:A.Frame} (h:M B w0 w (looseC FA e size k v xs c::l)) {j:Nat} (hj:j<xs.length):∃g cap,v=.slice (some ⟨g,0,none⟩) xs.length cap/\xs.length<=cap/\cap<=maxLen/\(c j).length=size/\∀i u,(c j)[i]? =some u->w.cell? ⟨g,j * size+i,none⟩=some u:=by
 obtain⟨F,⟨f,ho,hl,_,_,rfl⟩,_⟩:=h.first;rcases ho.2 with ⟨rfl,h0⟩|⟨g,cap,cur,rfl,hb,hg,hn,hc,hs,ht⟩
 ·omega
 ·refine⟨g,cap,rfl,hn,hc,hl j hj,fun i u hu=>?_⟩
  have hk:i<size:=by have:=(List.getElem?_eq_some_iff.1 hu).1;rwa[hl j hj]at this
  have lt:j * size+i<xs.length * size:=by
   have:j * size+size<=xs.length * size:=by rw[<-Nat.succ_mul];exact Nat.mul_le_mul_right _ hj
   omega
  rw[World.ownsRow.cellAt ho _ lt,flat_at hl hj hk,hu]
theorem M.plus {d:Ch} {l':List Ch} (h:M B w0 w l) (k:M w.heap.size w w' (d::l')):M B w0 w' (d::l):=by
 obtain⟨f,hf,nd,lo⟩:=k.first;exact h.add k.below hf nd lo
theorem M.form {FA:A.Frame} (h:M B w0 w (slcC FA e size v xs::l)):∃x c,v=.slice x xs.length c/\xs.length<=c/\c<=maxLen:=by
 obtain⟨f,hf,_⟩:=h.first;obtain⟨x,c,e1,h1,h2⟩:=slcR_value hf;exact⟨x,c,e1,h1,h2⟩
end
namespace N
variable {w w' w0:World} {B k:Nat} {l:List Ch} {v:Value} {es:List En} {x:En} {c:Nat->List Value}
def entC (V:SV) (e:En):Ch:=entryR_frame.ch [iv e.node,iv e.born,iv e.num,.slice V.xr V.nr V.cr,.slice V.xf V.nf V.cf,.slice V.xt V.nt V.ct,.int .i64 (e.s).lo,.int .i64 (e.s).al,.slice V.xk V.nk V.ck,.int .i64 (e.s).ka] e
def looseE (k:Nat) (v:Value) (es:List En) (c:Nat->List Value):Ch:=looseC entryR_frame 64 10 k v es c
theorem _root_.Go.Proofs.YtcblbdpdbggkbaaGreat.M.pullE (h:M B w0 w (looseE k v es c::l)) (hk:es[k]? =some x):∃g cap V,v=.slice (some ⟨g,0,none⟩) es.length cap/\M B w0 w (entC V x::looseE (k+1) v es c::l)/\
  w.cell? ⟨g,k * 10,none⟩=some (.int .i64 x.node)/\w.cell? ⟨g,k * 10+1,none⟩=some (.int .i64 x.born)/\w.cell? ⟨g,k * 10+2,none⟩=some (.int .i64 x.num)/\w.cell? ⟨g,k * 10+3,none⟩=some (.slice V.xr V.nr V.cr)/\w.cell? ⟨g,k * 10+4,none⟩=some (.slice V.xf V.nf V.cf)/\w.cell? ⟨g,k * 10+5,none⟩=some (.slice V.xt V.nt V.ct)/\w.cell? ⟨g,k * 10+6,none⟩=some (.int .i64 x.s.lo)/\w.cell? ⟨g,k * 10+7,none⟩=some (.int .i64 x.s.al)/\w.cell? ⟨g,k * 10+8,none⟩=some (.slice V.xk V.nk V.ck)/\w.cell? ⟨g,k * 10+9,none⟩=some (.int .i64 x.s.ka):=by
 obtain⟨g,cap,ev,_,_,hl,hc⟩:=M.lrow h (List.getElem?_eq_some_iff.1 hk).1;have h1:=M.pull h hk;obtain⟨f,hf,_⟩:=h1.first;obtain⟨cs,ec,hs⟩:=entryR_iff.1 hf;obtain⟨V,_,_,_,_,rfl,_⟩:=hs;rw[ec]at hc h1;exact⟨g,cap,V,ev,h1,hc 0 _ rfl,hc 1 _ rfl,hc 2 _ rfl,hc 3 _ rfl,hc 4 _ rfl,hc 5 _ rfl,hc 6 _ rfl,hc 7 _ rfl,hc 8 _ rfl,hc 9 _ rfl⟩
theorem _root_.Go.Proofs.YtcblbdpdbggkbaaGreat.M.peekE (h:M B w0 w (looseE k v es c::l)) {j:Nat} (kj:k<=j) (hk:es[j]? =some x):∃g cap,v=.slice (some ⟨g,0,none⟩) es.length cap/\w.cell? ⟨g,j * 10,none⟩=some (.int .i64 x.node)/\w.cell? ⟨g,j * 10+1,none⟩=some (.int .i64 x.born)/\w.cell? ⟨g,j * 10+2,none⟩=some (.int .i64 x.num):=by
 obtain⟨g,cap,ev,_,_,hl,hc⟩:=M.lrow h (List.getElem?_eq_some_iff.1 hk).1;obtain⟨_,⟨f,_,_,_,ha,_⟩,_⟩:=h.first;obtain⟨cs,ec,hs⟩:=entryR_iff.1 (ha j x kj hk);rw[ec]at hc;exact⟨g,cap,ev,hc 0 _ rfl,hc 1 _ rfl,hc 2 _ rfl⟩
end N
theorem steps2 {a b:Bool} {P:Prop} (h0:a=false->P) (h1:a=true->b=false->P) (h2:a=true->b=true->P):P:=by
 cases a
 case false=>exact h0 rfl
 cases b
 case false=>exact h1 rfl rfl
 exact h2 rfl rfl
theorem steps3 {a b c:Bool} {P:Prop} (h0:a=false->P) (h1:a=true->b=false->P) (h2:a=true->b=true->c=false->P) (h3:a=true->b=true->c=true->P):P:=by
 cases a
 case false=>exact h0 rfl
 cases b
 case false=>exact h1 rfl rfl
 cases c
 case false=>exact h2 rfl rfl rfl
 exact h3 rfl rfl rfl
theorem steps4 {a b c d:Bool} {P:Prop} (h0:a=false->P) (h1:a=true->b=false->P) (h2:a=true->b=true->c=false->P) (h3:a=true->b=true->c=true->d=false->P) (h4:a=true->b=true->c=true->d=true->P):P:=by
 cases a
 case false=>exact h0 rfl
 cases b
 case false=>exact h1 rfl rfl
 cases c
 case false=>exact h2 rfl rfl rfl
 cases d
 case false=>exact h3 rfl rfl rfl rfl
 exact h4 rfl rfl rfl rfl
theorem steps5 {a b c d e:Bool} {P:Prop} (h0:a=false->P) (h1:a=true->b=false->P) (h2:a=true->b=true->c=false->P) (h3:a=true->b=true->c=true->d=false->P) (h4:a=true->b=true->c=true->d=true->e=false->P) (h5:a=true->b=true->c=true->d=true->e=true->P):P:=by
 cases a
 case false=>exact h0 rfl
 cases b
 case false=>exact h1 rfl rfl
 cases c
 case false=>exact h2 rfl rfl rfl
 cases d
 case false=>exact h3 rfl rfl rfl rfl
 cases e
 case false=>exact h4 rfl rfl rfl rfl rfl
 exact h5 rfl rfl rfl rfl rfl
theorem dec_iff (P Q:Prop) [Decidable P] [Decidable Q]:decide (P↔Q)=(decide P==decide Q):=by by_cases p:P<;>by_cases q:Q<;>simp[p,q]
def Cells (w:World):List (Addr × Value)->Prop
 | []=>True
 |x::l=>w.cell? x.1=some x.2/\Cells w l
theorem Cells.below {W w':World}:∀{l:List (Addr × Value)},Cells W l->Below W.heap.size W w'->Cells w' l
 | [],_,_=>trivial
 |_::_,h,hb=>⟨(hb.cell (World.block_lt_of_cell? _ _ h.1)).trans h.1,Cells.below h.2 hb⟩
theorem Cells_app {w:World} {a b:List (Addr × Value)}:Cells w (a++b)↔Cells w a/\Cells w b:=by
 induction a with
 |nil=>simp[Cells]
 |cons x l ih=>simp[Cells,ih,and_assoc]
def b4L (p:Nat) (v0 v1 v2 v3:Value):List (Addr × Value):=[(⟨p,0,none⟩,v0),(⟨p,1,none⟩,v1),(⟨p,2,none⟩,v2),(⟨p,3,none⟩,v3)]
def b5L (p:Nat) (v0 v1 v2 v3 v4:Value):List (Addr × Value):=[(⟨p,0,none⟩,v0),(⟨p,1,none⟩,v1),(⟨p,2,none⟩,v2),(⟨p,3,none⟩,v3),(⟨p,4,none⟩,v4)]
def b6L (p:Nat) (v0 v1 v2 v3 v4 v5:Value):List (Addr × Value):=[(⟨p,0,none⟩,v0),(⟨p,1,none⟩,v1),(⟨p,2,none⟩,v2),(⟨p,3,none⟩,v3),(⟨p,4,none⟩,v4),(⟨p,5,none⟩,v5)]
def b7L (p:Nat) (V:SV) (s:Sm):List (Addr × Value):=[(⟨p,0,none⟩,.slice V.xr V.nr V.cr),(⟨p,1,none⟩,.slice V.xf V.nf V.cf),(⟨p,2,none⟩,.slice V.xt V.nt V.ct),(⟨p,3,none⟩,.int .i64 s.lo),(⟨p,4,none⟩,.int .i64 s.al),(⟨p,5,none⟩,.slice V.xk V.nk V.ck),(⟨p,6,none⟩,.int .i64 s.ka)]
def b10L (p:Nat) (i b n:Int) (V:SV) (s:Sm):List (Addr × Value):=[(⟨p,0,none⟩,.int .i64 i),(⟨p,1,none⟩,.int .i64 b),(⟨p,2,none⟩,.int .i64 n),(⟨p,3,none⟩,.slice V.xr V.nr V.cr),(⟨p,4,none⟩,.slice V.xf V.nf V.cf),(⟨p,5,none⟩,.slice V.xt V.nt V.ct),(⟨p,6,none⟩,.int .i64 s.lo),(⟨p,7,none⟩,.int .i64 s.al),(⟨p,8,none⟩,.slice V.xk V.nk V.ck),(⟨p,9,none⟩,.int .i64 s.ka)]
namespace N
def entL (g j:Nat) (V:SV) (e:En):List (Addr × Value):=[(⟨g,j * 10,none⟩,.int .i64 e.node),(⟨g,j * 10+1,none⟩,.int .i64 e.born),(⟨g,j * 10+2,none⟩,.int .i64 e.num),(⟨g,j * 10+3,none⟩,.slice V.xr V.nr V.cr),(⟨g,j * 10+4,none⟩,.slice V.xf V.nf V.cf),(⟨g,j * 10+5,none⟩,.slice V.xt V.nt V.ct),(⟨g,j * 10+6,none⟩,.int .i64 e.s.lo),(⟨g,j * 10+7,none⟩,.int .i64 e.s.al),(⟨g,j * 10+8,none⟩,.slice V.xk V.nk V.ck),(⟨g,j * 10+9,none⟩,.int .i64 e.s.ka)]
structure V4 where
 a:Value
 b:Value
 c:Value
 d:Value
def liveC (p:Nat) (n:Nt):Ch:=Ch.ex fun u:V4=>(boxC p 289 #[u.a,u.b,u.c,u.d]).sep ((nodesC u.a n.nodes).sep ((linksC u.b n.links).sep ((wordsC u.c n.words).sep (pastC u.d n.past))))
section
variable {w w0:World} {B p:Nat} {l:List Ch} {n:Nt} {v1 v2 v3 v4:Value}
theorem _root_.Go.Proofs.YtcblbdpdbggkbaaGreat.M.unlive {ns:List Nd} {ls:List Bool} {ws:List Wd} {ps:List (List (List Int))} (h:M B w0 w (boxC p 289 #[v1,v2,v3,v4]::nodesC v1 ns::linksC v2 ls::wordsC v3 ws::pastC v4 ps::l)):M B w0 w (liveC p ⟨ns,ls,ws,ps⟩::l):=
 M.in (c:=fun u:V4=>(boxC p 289 #[u.a,u.b,u.c,u.d]).sep ((nodesC u.a ns).sep ((linksC u.b ls).sep ((wordsC u.c ws).sep (pastC u.d ps))))) ⟨v1,v2,v3,v4⟩ (h.p4.p4.sep.p3.sep.p2.sep.p1.sep)
theorem _root_.Go.Proofs.YtcblbdpdbggkbaaGreat.M.live (h:M B w0 w (liveC p n::l)):∃x1 c1 x2 c2 x3 c3 x4 c4,M B w0 w (boxC p 289 #[.slice x1 n.nodes.length c1,.slice x2 n.links.length c2,.slice x3 n.words.length c3,.slice x4 n.past.length c4]::nodesC (.slice x1 n.nodes.length c1) n.nodes::linksC (.slice x2 n.links.length c2) n.links::wordsC (.slice x3 n.words.length c3) n.words::pastC (.slice x4 n.past.length c4) n.past::l):=by
 obtain⟨⟨v1,v2,v3,v4⟩,h⟩:=h.ex;have h:=h.two.p1.two.p1.two.p1.two.p2.p3.p4;obtain⟨x1,c1,rfl,_⟩:=M.form h.p1;obtain⟨x2,c2,rfl,_⟩:=M.form h.p2;obtain⟨x3,c3,rfl,_⟩:=M.form h.p3;obtain⟨x4,c4,rfl,_⟩:=M.form h.p4;exact⟨x1,c1,x2,c2,x3,c3,x4,c4,h⟩
end
end N
theorem OwnR.form {w:World} {B:Nat} {u:Value} {rs:List (List Int)} {G C:Nat->Nat} (h:OwnR w B u rs G C):∃x c,u=.slice x rs.length c:=by
 rcases h.hdr.2 with ⟨rfl,h0⟩|⟨g,cap,cur,rfl,_⟩
 ·exact⟨none,0,by rw[h0]⟩
 ·exact⟨_,_,rfl⟩
theorem OwnI.form' {w:World} {B:Nat} {u:Value} {zs:List Int} (h:OwnI w B u zs):∃x c,u=.slice x zs.length c:=by
 rcases h.2 with ⟨rfl,h0⟩|⟨g,cap,cur,rfl,_⟩
 ·exact⟨none,0,by rw[h0]⟩
 ·exact⟨_,_,rfl⟩
theorem T.OwnP.form' {w:World} {B:Nat} {u:Value} {zs:List T.Pr} (h:T.OwnP w B u zs):∃x c,u=.slice x zs.length c:=by
 rcases h.2 with ⟨rfl,h0⟩|⟨g,cap,cur,rfl,_⟩
 ·exact⟨none,0,by rw[h0]⟩
 ·exact⟨_,_,rfl⟩
theorem K.OwnP.form' {w:World} {B:Nat} {u:Value} {zs:List K.Pr} (h:K.OwnP w B u zs):∃x c,u=.slice x zs.length c:=by
 rcases h.2 with ⟨rfl,h0⟩|⟨g,cap,cur,rfl,_⟩
 ·exact⟨none,0,by rw[h0]⟩
 ·exact⟨_,_,rfl⟩
theorem OwnS.rows {w:World} {B:Nat} {x:Option Addr} {n c:Nat} {rs:List (List Int)} {G C:Nat->Nat} (h:OwnR w B (.slice x n c) rs G C) (hB:B<=w.heap.size):OwnS w B w.heap.size ⟨x,n,c,Option.none,0,0,Option.none,0,0,Option.none,0,0⟩ ⟨rs,[],[],0,0,[],0⟩:=
 ⟨⟨w.heap.size,hB,Nat.le_refl _,h.bounds,World.ownsRow_nil _ _ _ _⟩,World.ownsRow_nil _ _ _ _,World.ownsRow_nil _ _ _ _,fun _ e=>(by cases e),fun _ e=>(by cases e),fun _ e=>(by cases e),Nat.le_refl _⟩
section
variable {w:World} {B U b:Nat} {x0 x1 x2 x3 x4 x5 x6:Value}
theorem OwnRR.cell7 {v:Value} {rs:List (List Int)} (h:OwnRR w B U v rs) (X:Box7 w b 46 x0 x1 x2 x3 x4 x5 x6) (i:Nat) (y:Value):OwnRR (w.setCell ⟨b,i,none⟩ y) B U v rs:=by
 obtain⟨G,C,ho,q1,q2,q3⟩:=h;have hk:KeptB (fun k=>k=b) w (w.setCell ⟨b,i,none⟩ y):=KeptB.of_grown (grownBy_setCell w ⟨b,i,none⟩ y) rfl;exact⟨G,C,⟨ownsRow_keptB ho.hdr hk fun k e1 e2=>X.not_row (by decide) ho.hdr (by rw[e1,e2]),fun i hi=>ownsRow_keptB (ho.row i hi) hk fun k e1 e2=>X.not_row (by decide) (ho.row i hi) (by rw[e1,e2]),ho.off,ho.apart⟩,q1,q2,by simpa using q3⟩
theorem OwnI.cell7 {v:Value} {zs:List Int} (h:OwnI w B v zs) (X:Box7 w b 46 x0 x1 x2 x3 x4 x5 x6) (i:Nat) (y:Value):OwnI (w.setCell ⟨b,i,none⟩ y) B v zs:=h.keep (grownBy_setCell w ⟨b,i,none⟩ y) (X.not_row (by decide) h)
theorem T.OwnP.cell7 {v:Value} {zs:List T.Pr} (h:T.OwnP w B v zs) (X:Box7 w b 46 x0 x1 x2 x3 x4 x5 x6) (i:Nat) (y:Value):T.OwnP (w.setCell ⟨b,i,none⟩ y) B v zs:=h.keep (grownBy_setCell w ⟨b,i,none⟩ y) (X.not_row (by decide) h)
theorem K.OwnP.cell7 {v:Value} {zs:List K.Pr} (h:K.OwnP w B v zs) (X:Box7 w b 46 x0 x1 x2 x3 x4 x5 x6) (i:Nat) (y:Value):K.OwnP (w.setCell ⟨b,i,none⟩ y) B v zs:=h.keep (grownBy_setCell w ⟨b,i,none⟩ y) (X.not_row (by decide) h)
end
theorem OwnS.box7 {w:World} {B U b:Nat} {V:SV} {s:Sm} {x0 x1 x2 x3 x4 x5 x6:Value} (h:OwnS w B U V s) (X:Box7 w b 46 x0 x1 x2 x3 x4 x5 x6) (y0 y1 y2 y3 y4 y5 y6:Value):OwnS (set7 w b y0 y1 y2 y3 y4 y5 y6) B U V s:=by
 obtain⟨M,h1,h2,hr,hf⟩:=h.mid;have hg:=set7_grown w b y0 y1 y2 y3 y4 y5 y6;have hk:KeptB (fun k=>k=b) w (set7 w b y0 y1 y2 y3 y4 y5 y6):=KeptB.of_grown hg rfl;have e:=set7_size w b y0 y1 y2 y3 y4 y5 y6;refine⟨⟨M,h1,h2,?_,?_⟩,?_,?_,h.ft,h.tt,h.kt,by rw[e];exact h.top⟩
 ·obtain⟨G,C,ho,q1,q2,q3⟩:=hr
  exact⟨G,C,⟨ownsRow_keptB ho.hdr hk fun k e1 e2=>X.not_row (by decide) ho.hdr (by rw[e1,e2]),fun i hi=>ownsRow_keptB (ho.row i hi) hk fun k e1 e2=>X.not_row (by decide) (ho.row i hi) (by rw[e1,e2]),ho.off,ho.apart⟩,q1,q2,by rw[e];exact q3⟩
 ·exact hf.keep hg (X.not_row (by decide) hf)
 ·exact h.t.keep hg (X.not_row (by decide) h.t)
 ·exact h.k.keep hg (X.not_row (by decide) h.k)
theorem OwnS.make {W:World} {B B1 M B2 B3 B4:Nat} {V:SV} {s:Sm} (hr:OwnRR W B1 M V.r s.rs) (hf:OwnI W B2 V.f s.zs) (ht:T.OwnP W B3 V.t s.ps) (hk:K.OwnP W B4 V.k s.ks) (h1:B<=B1) (hM:B<=M) (h2:M<=B2) (h3:B<=B3) (h4:B<=B4):OwnS W B W.heap.size V s:=
 ⟨⟨M,hM,hr.top,hr.base h1,ownsRow_base hf h2⟩,ownsRow_base ht h3,ownsRow_base hk h4,fun _ e=>(World.ownsRow.lt hf _ e).2,fun _ e=>(World.ownsRow.lt ht _ e).2,fun _ e=>(World.ownsRow.lt hk _ e).2,Nat.le_refl _⟩
structure Got (w wx:World) (P:Nat) (V:SV) (s:Sm):Prop where
 below:Below w.heap.size w wx
 own:OwnS wx w.heap.size wx.heap.size V s
 box:BoxS wx P V s
 lo:w.heap.size<=P
theorem Got.last {w wx:World} {B:Nat} {V:SV} {s:Sm} (hb:Below w.heap.size w wx) (ho:OwnS wx B wx.heap.size V s) (hB:w.heap.size<=B):Got w (wx.alloc (.cells (cS V s) 46)) wx.heap.size V s:=
 ⟨hb.alloc hb.size _,(ho.alloc _).base hB (by simp) lr_,Box7.new _ _ _ _ _ _ _ _ _,hb.size⟩
theorem Got.stored {w wx:World} {B P:Nat} {V:SV} {s:Sm} {x0 x1 x2 x3 x4 x5 x6:Value} (hb:Below w.heap.size w wx) (ho:OwnS wx B wx.heap.size V s) (hB:w.heap.size<=B) (X:Box7 wx P 46 x0 x1 x2 x3 x4 x5 x6) (hP:w.heap.size<=P):
  Got w (set7 wx P (.slice V.xr V.nr V.cr) (.slice V.xf V.nf V.cf) (.slice V.xt V.nt V.ct) (iv s.lo) (iv s.al) (.slice V.xk V.nk V.ck) (iv s.ka)) P V s:=
 ⟨below_set7 hb hP _ _ _ _ _ _ _,(ho.box7 X _ _ _ _ _ _ _).base hB (by rw[set7_size];exact Nat.le_refl _) lr_,X.set _ _ _ _ _ _ _,hP⟩
theorem spSumNew_at (w:World):
  Calls Tryz.prog 99 #[] w fun e w'=>∃V,e=.returned (vS V newSm)/\OwnS w' w.heap.size w'.heap.size V newSm/\Below w.heap.size w w':=by
 have hA:=(Below.refl w.heap.size w).alloc lr_ (.cells #[zn,zn,zn,iv 0,iv 0,zn,iv 0] 46);have X0:=Box7.new w 46 zn zn zn (iv 0) (iv 0) zn (iv 0);have HA:=hd_ hA;have S0:Hid ((w.alloc (.cells #[zn,zn,zn,iv 0,iv 0,zn,iv 0] 46)).heap.size=w.heap.size+1):=by show _=_;simp
 clear hA;go_enter Tryz.func99,Tryz.ntmps99
 go_wp2_with fail
 refine (spNew_at _).mono ?_;rintro e w1 ⟨u,G,C,rfl,ho,hb⟩;obtain⟨x,c,rfl⟩:=ho.form;have X1:=X0.later hb;have HB:=hd_ (HA.out.trans (hb.mono HA.out.size));have hs:=S0.out;rw[hs]at ho;have HS:=OwnS.box7 (OwnS.rows ho (by have:=hb.size;omega)) X1 (.slice x 3 c) zn zn (iv 0) (iv 0) zn (iv 0);have Y:=X1.set (.slice x 3 c) zn zn (iv 0) (iv 0) zn (iv 0)
 have HW:=below_set7 HB.out lr_ (.slice x 3 c) zn zn (iv 0) (iv 0) zn (iv 0);have e:=set7_size w1 w.heap.size (.slice x 3 c) zn zn (iv 0) (iv 0) zn (iv 0);obtain⟨W,hW⟩:=nm_ (set7 w1 w.heap.size (.slice x 3 c) zn zn (iv 0) (iv 0) zn (iv 0));rw[<-hW]at HS Y HW e;have fin:=hd_ (And.intro (HS.base (B':=w.heap.size) o_ (Nat.le_of_eq e.symm) lr_) HW);have YY:=hd_ Y;have f:=X1.free
 obtain⟨c0,c1,c2,c3,c4,c5,c6⟩:=X1.cells;unfold set7 at hW;have HH:=hd_ hW;clear ho hb hs S0 HS HW Y e hW;go_wp2;show bodyPost _ _ _ _ _ (((((((w1.setCell _ (.slice x 3 c)).setCell _ _).setCell _ _).setCell _ _).setCell _ _).setCell _ _).setCell _ _)
 rw[<-HH.out];obtain⟨d0,d1,d2,d3,d4,d5,d6⟩:=YY.out.cells;refine bodyPost_ret (v:=.agg #[.slice x 3 c,zn,zn,iv 0,iv 0,zn,iv 0]) (by simp[results,Tryz.results99,go_sem,d0,d1,d2,d3,d4,d5,d6]) rfl ?_;exact⟨_,rfl,fin.out⟩
end Go.Proofs.YtcblbdpdbggkbaaGreat
namespace Go.Proofs.YtcblbdpdbggkbaaGreat
open Go.RowKit Go.Sort
namespace N
theorem spLink_at (w:World) (a b:Int) (h:0<=a/\a<=4/\0<=b/\b<=4):Calls Tryz.prog 67 #[iv a,iv b] w fun e w'=>e=.returned (iv (a * 5+b))/\w=w':=by
 obtain⟨h0,h1,h2,h3⟩:=h;go_enter Tryz.func67,Tryz.ntmps67;go_wp2;go_ret;exact⟨rfl,rfl⟩
theorem spLinkN_at (w:World) {a b:Int} (h:0<=a/\a<=4/\0<=b/\b<=4) {q:Nat} (hq:a * 5+b=q):Calls Tryz.prog 67 #[iv a,iv b] w fun e w'=>e=.returned (iv (q:Int))/\w=w':=by
 rw[<-hq];exact spLink_at w a b h
theorem spNode_at {B:Nat} {w0 w:World} {l:List Ch} (h:M B w0 w l) (i born:Int):Calls Tryz.prog 68 #[iv i,iv born] w fun e w'=>∃v,e=.returned (.agg #[iv born,v,iv 0,iv (if i=0 then 0 else 5),iv (-1)])/\M B w0 w' (knownC v [⟨i,born,0,newSm⟩]::l):=by
 have h1:=hd_ (h.alloc #[iv 0,zn,iv 0,iv 0,iv 0] 55);clear h;rcases Decidable.em (i=0)with rfl|hi
 all_goals
  go_enter Tryz.func68,Tryz.ntmps68
  go_wp2_with fail
  refine (spSumNew_at _).mono ?_;rintro e w1 ⟨V,rfl,ho,hb⟩;have h2:=h1.out.sum hb ho;clear ho hb h1
 ·have h3:=h2.alloc #[iv 0,iv born,iv 0,.slice V.xr V.nr V.cr,.slice V.xf V.nf V.cf,.slice V.xt V.nt V.ct,iv newSm.lo,iv newSm.al,.slice V.xk V.nk V.ck,iv newSm.ka] 64
  have H:=hd_ (h3.p2.set5 (iv born) (.slice (some ⟨w1.heap.size,0,none⟩) 1 1) (iv 0) (iv 0) (iv (-1)));obtain⟨c0,c1,c2,c3,c4⟩:=h3.p2.cells5;have cf:=h3.p2.free;clear h2 h3;go_wp2;obtain⟨d0,d1,d2,d3,d4⟩:=H.out.cells5
  refine bodyPost_ret (v:=.agg #[iv born,.slice (some ⟨w1.heap.size,0,none⟩) 1 1,iv 0,iv 0,iv (-1)]) (by simp[results,Tryz.results68,go_sem,d0,d1,d2,d3,d4]) rfl ⟨_,rfl,(H.out.drop.p1.entry 0 born 0).p1.one entryR_frame rfl⟩
 ·have h3:=h2.alloc #[iv i,iv born,iv 0,.slice V.xr V.nr V.cr,.slice V.xf V.nf V.cf,.slice V.xt V.nt V.ct,iv newSm.lo,iv newSm.al,.slice V.xk V.nk V.ck,iv newSm.ka] 64
  have H:=hd_ (h3.p2.set5 (iv born) (.slice (some ⟨w1.heap.size,0,none⟩) 1 1) (iv 0) (iv 5) (iv (-1)));obtain⟨c0,c1,c2,c3,c4⟩:=h3.p2.cells5;have cf:=h3.p2.free;clear h2 h3;go_wp2;obtain⟨d0,d1,d2,d3,d4⟩:=H.out.cells5
  refine bodyPost_ret (v:=.agg #[iv born,.slice (some ⟨w1.heap.size,0,none⟩) 1 1,iv 0,iv 5,iv (-1)]) (by simp[results,Tryz.results68,go_sem,d0,d1,d2,d3,d4]) rfl ⟨_,rfl,(H.out.drop.p1.entry i born 0).p1.one entryR_frame rfl⟩
def AnsN (w:World) (o:Option Nt) (e:Ending) (w':World):Prop:=∃v1 v2 v3 v4 fp,e=.returned (.tuple #[.agg #[v1,v2,v3,v4],.bool o.isSome])/\Sole (netR TY) w.heap.size w' [v1,v2,v3,v4] (o.getD noNt) fp/\Below w.heap.size w w'
theorem ans_none {w w':World} {l:List Ch} (h:M w.heap.size w w' l):AnsN w none (.returned (.tuple #[.agg #[zn,zn,zn,zn],.bool false])) w':=by
 have h':M w.heap.size w w' (nodesC _ []::linksC _ []::wordsC _ []::pastC _ []::l):=(((h.nil _ _ _).nil _ _ _).nil _ _ _).nil _ _ _;obtain⟨fp,hs⟩:=h'.net;exact⟨_,_,_,_,fp,rfl,hs,h.below⟩
theorem ans_some {w w':World} {l:List Ch} {v1 v2 v3 v4:Value} {ns:List Nd} {ls:List Bool} {ws:List Wd} {ps:List (List (List Int))} (h:M w.heap.size w w' (nodesC v1 ns::linksC v2 ls::wordsC v3 ws::pastC v4 ps::l)):
  AnsN w (some ⟨ns,ls,ws,ps⟩) (.returned (.tuple #[.agg #[v1,v2,v3,v4],.bool true])) w':=by
 obtain⟨fp,hs⟩:=h.net;exact⟨_,_,_,_,fp,rfl,hs,h.below⟩
theorem l6In_yes' (w:World) (a lo hi:Int) (h:in6 a lo hi=true):Calls Tryz.prog 66 #[iv a,iv lo,iv hi] w fun e w'=>e=.returned (.bool true)/\w=w':=by
 obtain⟨h0,h1⟩:lo<=a/\a<=hi:=by simpa[in6]using h
 clear h;go_enter Tryz.func66,Tryz.ntmps66;go_wp2;go_ret;exact⟨rfl,rfl⟩
theorem l6In_no' (w:World) (a lo hi:Int) (h:in6 a lo hi=false):Calls Tryz.prog 66 #[iv a,iv lo,iv hi] w fun e w'=>e=.returned (.bool false)/\w=w':=by
 have h':¬(lo<=a/\a<=hi):=by simpa[in6]using h
 clear h
 by_cases h0:lo<=a
 ·have h1:decide (a<=hi)=false:=by simp;omega
  clear h';go_enter Tryz.func66,Tryz.ntmps66;go_wp2;go_ret;exact⟨rfl,rfl⟩
 ·have h1:decide (lo<=a)=false:=by simp;omega
  clear h' h0;go_enter Tryz.func66,Tryz.ntmps66;go_wp2;go_ret;exact⟨rfl,rfl⟩
theorem spNetNew_at (w:World) (x:Option Addr) (n c:Nat) (ks:List Int) (h:Ints w (.slice x n c) ks):Calls Tryz.prog 18 #[.slice x n c] w (AnsN w (newN ks)):=by
 obtain⟨b,o,hx⟩:∃b o,n=0\/(x=some ⟨b,o,none⟩/\b<w.heap.size/\∀i,i<n->w.cell? ⟨b,o+i,none⟩=some (.int .i64 (ks.getD i 0))):=by
  rcases h with ⟨e,rfl⟩|⟨b,o,cap,e,h1,h2,hb,hc⟩
  ·simp at e;exact⟨0,0,.inl e.2.1⟩
  ·simp at e;obtain⟨rfl,rfl,rfl⟩:=e;exact⟨b,o,.inr ⟨rfl,hb,hc⟩⟩
 have HX:=hd_ hx;have hnl:n=ks.length:=by
  rcases h with ⟨e,rfl⟩|⟨b,o,cap,e,h1,h2,_⟩
  ·simp at e;simp[e]
  ·simp at e;omega
 have HN:=hd_ hnl;have hm:n<=maxLen:=by
  rcases h with ⟨e,rfl⟩|⟨b,o,cap,e,h1,h2,_⟩
  ·rw[hnl];simp
  ·simp at e;omega
 unfold maxLen at hm;clear hx h hnl;have h0:=(M.start w).alloc #[zn,zn,zn,zn] 30;have H0:=hd_ h0;clear h0
 by_cases hs:n<=40
 ·by_cases hp:n % 2=0
  ·have n0:(0:Int)<=(n:Int):=o_
   have n1:(n:Int)<=40:=o_;have e2:(n:Int) % 2=0:=o_;go_enter Tryz.func18,Tryz.ntmps18
   go_wp2_with (at_make;refine wpList_mk linkS (enc:=encB) (z0:=false) rfl rfl (fun _=>rfl) H0.out rfl rfl 25 rfl rfl rfl rfl (by decide) (by decide) ?_;intro w1 h1 hb1;clear H0)
   have h2:=(h1.alloc #[] 123).alloc #[zn,.slice (some ⟨w.heap.size+1,0,none⟩) 25 25,.slice (some ⟨w1.heap.size,0,none⟩) 0 0,zn] 30;simp only[World.size_alloc]at h1 h2;generalize (w1.alloc (Obj.cells #[] 123)).alloc (Obj.cells #[zn,.slice (some ⟨w.heap.size+1,0,none⟩) 25 25,.slice (some ⟨w1.heap.size,0,none⟩) 0 0,zn] 30)=w2 at h2 ⊢;have H:=hd_ (h2.p1.empty (wordR_frame (T:=TY)) 6)
   clear h1 h2 hb1;generalize w1.heap.size=q1 at H ⊢;clear e2 n1;go_loopw [5] (fun i wr=>∃(j:Nat) (ls:List Bool),i=.int .i64 (j:Int)/\j % 2=0/\j<=n/\ls.length=25/\pairsB (ks.drop j)=pairsB ks/\setLinks ls (ks.drop j)=setLinks (List.replicate 25 false) ks/\
        M w.heap.size w wr [wordsC (.slice (some ⟨q1,0,none⟩) 0 0) [],boxC (q1+1) 30 #[zn,.slice (some ⟨w.heap.size+1,0,none⟩) 25 25,.slice (some ⟨q1,0,none⟩) 0 0,zn],linksC (.slice (some ⟨w.heap.size+1,0,none⟩) 25 25) ls,boxC w.heap.size 30 #[zn,zn,zn,zn]]) (fun i _=>n - (intOf i).toNat)
   case atStart=>exact⟨0,List.replicate 25 false,rfl,rfl,Nat.zero_le _,rfl,by rw[List.drop_zero],by rw[List.drop_zero],H.out⟩
   case round=>
    clear H;obtain⟨j,ls,rfl,hj2,hjn,hl,hp1,hs1,h⟩:=hrel;have HL:=hd_ hl;have HP:=hd_ hp1;have HS:=hd_ hs1;have HJ:=hd_ hj2;have H:=hd_ h;clear hl hp1 hs1 h hj2
    by_cases hlt:j<n
    ·have hj1:j+1<n:=by have:=HJ.out;omega
     obtain⟨rfl,hbw,hce⟩:=HX.out.resolve_left o_;obtain⟨ka,hka⟩:=nm_ (ks.getD j 0);obtain⟨kb,hkb⟩:=nm_ (ks.getD (j+1) 0);have ca:wr.cell? ⟨b,o+j,none⟩=some (.int .i64 ka):=by rw[hka];exact cell_later H.out.below (hce j hlt)
     have cb:wr.cell? ⟨b,o+(j+1),none⟩=some (.int .i64 kb):=by rw[hkb];exact cell_later H.out.below (hce (j+1) hj1)
     have DR:=hd_ (show ks.drop j=ka::kb::ks.drop (j+2) by
            rw[List.drop_eq_getElem_cons (by rw[<-HN.out];exact hlt),List.drop_eq_getElem_cons (by rw[<-HN.out];exact hj1),hka,hkb]
            simp[List.getD,show j<ks.length by rw[<-HN.out];exact hlt,show j+1<ks.length by rw[<-HN.out];exact hj1])
     clear hka hkb hce hbw HX;obtain⟨d0,d1,d2,d3⟩:=H.out.p3.cells4;have df:=H.out.p3.free;have F:=hd_ (H.out.p3.set4 zn zn zn zn);have BAD:=hd_ (fun q:pairsB (ka::kb::ks.drop (j+2))=false=>show newN ks=none by
            have e:=HP.out
            rw[DR.out,q]at e
            unfold newN
            rw[if_neg (fun z=>by rw[<-e]at z;cases z.2)])
     cases ga:in6 ka 0 4 with
     |false=>
      have E:=hd_ (BAD.out (by unfold pairsB;rw[ga];rfl));have GA:=hd_ ga;clear BAD ga H DR
      go_wp2_with (go_at_call 66;refine (l6In_no' _ _ _ _ GA.out).mono ?_;rintro e w' ⟨rfl,rfl⟩)
      obtain⟨e0,e1,e2',e3⟩:=F.out.cells4
      (try simp only[Exit.inBlock,Exit.then])
      refine bodyPost_ret (v:=.tuple #[.agg #[zn,zn,zn,zn],.bool false]) (by simp[results,Tryz.results18,go_sem,e0,e1,e2',e3]) rfl ?_;rw[E.out];exact ans_none F.out
     |true=>
      have GA:=hd_ ga;cases gb:in6 kb 0 4 with
      |false=>
       have E:=hd_ (BAD.out (by unfold pairsB;rw[ga,gb];rfl));have GB:=hd_ gb;clear BAD ga gb H DR
       go_wp2_with (first|(go_at_call 66;(with_reducible refine (l6In_yes' _ ka _ _ GA.out).mono ?_);rintro e w' ⟨rfl,rfl⟩)|(go_at_call 66;(with_reducible refine (l6In_no' _ kb _ _ GB.out).mono ?_);rintro e w' ⟨rfl,rfl⟩))
       obtain⟨e0,e1,e2',e3⟩:=F.out.cells4
       (try simp only[Exit.inBlock,Exit.then])
       refine bodyPost_ret (v:=.tuple #[.agg #[zn,zn,zn,zn],.bool false]) (by simp[results,Tryz.results18,go_sem,e0,e1,e2',e3]) rfl ?_;rw[E.out];exact ans_none F.out
      |true=>
       have GB:=hd_ gb
       by_cases hne:ka=kb
       ·have E:=hd_ (BAD.out (by unfold pairsB;rw[ga,gb,hne];simp))
        subst hne;clear BAD ga gb H DR
        go_wp2_with (go_at_call 66;(with_reducible refine (l6In_yes' _ ka _ _ GA.out).mono ?_);rintro e w' ⟨rfl,rfl⟩)
        obtain⟨e0,e1,e2',e3⟩:=F.out.cells4
        (try simp only[Exit.inBlock,Exit.then])
        refine bodyPost_ret (v:=.tuple #[.agg #[zn,zn,zn,zn],.bool false]) (by simp[results,Tryz.results18,go_sem,e0,e1,e2',e3]) rfl ?_;rw[E.out];exact ans_none F.out
       ·have hn':(ka==kb)=false:=by simpa using hne
        have PB:=hd_ (show pairsB (ka::kb::ks.drop (j+2))=pairsB (ks.drop (j+2)) by
                  conv=>lhs;unfold pairsB
                  rw[ga,gb,decide_eq_true hne];rfl)
        obtain⟨a0,a1⟩:0<=ka/\ka<=4:=by simpa[in6]using ga
        obtain⟨b0,b1⟩:0<=kb/\kb<=4:=by simpa[in6]using gb
        obtain⟨qa,hqa⟩:∃q:Nat,ka * 5+kb=q:=⟨(ka * 5+kb).toNat,o_⟩
        obtain⟨qb,hqb⟩:∃q:Nat,kb * 5+ka=q:=⟨(kb * 5+ka).toNat,o_⟩
        have x0:(0:Int)<=(qa:Int):=o_;have x1:(qa:Int)<25:=o_;have y0:(0:Int)<=(qb:Int):=o_;have y1:(qb:Int)<25:=o_;have QA:=hd_ (show (ka * 5+kb).toNat=qa by omega);have QB:=hd_ (show (kb * 5+ka).toNat=qb by omega);have K1:=hd_ (fun W=>spLinkN_at W (a:=ka) (b:=kb) ⟨a0,a1,b0,b1⟩ hqa);have K2:=hd_ (fun W=>spLinkN_at W (a:=kb) (b:=ka) ⟨b0,b1,a0,a1⟩ hqb)
        clear BAD F d0 d1 d2 d3 df ga gb hne hqa hqb a0 a1 b0 b1;have HL':ls.length=25:=HL.out;obtain⟨⟨z,cz⟩,fz,h1⟩:=H.out.p2.drew.setEl (i:=qa) (by rw[HL'];omega) true (u:=.bool true) rfl;obtain⟨⟨z2,cz2⟩,fz2,h2⟩:=h1.drew.setEl (i:=qb) (by rw[List.length_set,HL'];omega) true (u:=.bool true) rfl;have S1:=hd_ (H.out.p1.drew.cell (i:=1) rfl);have S2:=hd_ (h1.drew.p2.cell (i:=1) rfl)
        have CZ:=hd_ (And.intro cz fz);have CZ2:=hd_ (And.intro cz2 fz2);have H2:=hd_ h2;clear cz fz h1 cz2 fz2 h2 HL' H
        go_wp2_with (first|(go_at_call 66;(with_reducible refine (l6In_yes' _ ka _ _ GA.out).mono ?_);rintro e w' ⟨rfl,rfl⟩)|(go_at_call 66;(with_reducible refine (l6In_yes' _ kb _ _ GB.out).mono ?_);rintro e w' ⟨rfl,rfl⟩))
        refine wp_region_plan 6 (.tk 0 4 (.alt 4 (.take 5 (.alt 6 .done .nomore)) .nomore)) (fun w'=>w'.cell? ⟨q1+1,1,none⟩=some (.slice (some ⟨w.heap.size+1,0,none⟩) 25 25)) (by kernel_rfl) (by kernel_rfl) (fun _ _ _ _ _ h=>h) S1.out ?_
        repeat (first|refine tA_ ?_|refine tB_ ?_)
        refine plan_last (by rfl) (fun K hK=>?_);go_simp;refine (K1.out _).mono ?_;rintro e w' ⟨rfl,rfl⟩;refine hK _ _ (.inr S1.out) ?_;clear hK K
        try refine tP_ ?_
        repeat (first|refine tA_ ?_|refine tB_ ?_)
        obtain⟨cz,fz⟩:=CZ.out;refine plan_last (by rfl) (fun K hK=>?_);go_simp;refine hK _ _ (.inl rfl) ?_;clear hK K
        try refine tP_ ?_
        refine plan_done ?_;clear cz fz CZ S1;obtain⟨w5,hw5⟩:=nm_ ((wr.setCell ⟨w.heap.size+1,qa,none⟩ (.bool true)).drew);have hd:wr.drew.setCell ⟨w.heap.size+1,qa,none⟩ (.bool true)=w5:=hw5.symm;rw[hd]at H2 S2 CZ2;rw[<-hw5];clear hw5 hd;go_wp2
        refine wp_region_plan 6 (.tk 0 4 (.alt 4 (.take 5 (.alt 6 .done .nomore)) .nomore)) (fun w'=>w'.cell? ⟨q1+1,1,none⟩=some (.slice (some ⟨w.heap.size+1,0,none⟩) 25 25)) (by kernel_rfl) (by kernel_rfl) (fun _ _ _ _ _ h=>h) S2.out ?_
        repeat (first|refine tA_ ?_|refine tB_ ?_)
        refine plan_last (by rfl) (fun K hK=>?_);go_simp;refine (K2.out _).mono ?_;rintro e w' ⟨rfl,rfl⟩;refine hK _ _ (.inr S2.out) ?_;clear hK K
        try refine tP_ ?_
        repeat (first|refine tA_ ?_|refine tB_ ?_)
        obtain⟨cz,fz⟩:=CZ2.out;refine plan_last (by rfl) (fun K hK=>?_);go_simp;refine hK _ _ (.inl rfl) ?_;clear hK K
        try refine tP_ ?_
        refine plan_done ?_;clear cz fz;go_wp2;go_roundw
        case rel=>
         refine⟨j+2,(ls.set qa true).set qb true,by go_num,by have:=HJ.out;omega,o_,by rw[List.length_set,List.length_set];exact HL.out,?_,?_,H2.out.p2.p2⟩
         ·rw[<-PB.out, <-DR.out];exact HP.out
         ·rw[<-HS.out,DR.out]
          conv=>rhs;unfold setLinks
          rw[QA.out,QB.out]
        case measure=>simp[intOf];omega
    ·obtain rfl:j=n:=o_
     have EQ:=hd_ (show newN ks=some ⟨baseN.nodes,ls,[],baseN.past⟩ by
            have e:ks.drop j=[]:=List.drop_eq_nil_of_le (by rw[<-HN.out];exact Nat.le_refl _)
            have e1:=HS.out
            have e2:=HP.out
            rw[e]at e1 e2
            unfold newN
            rw[if_pos ⟨⟨by rw[<-HN.out];exact HJ.out,by rw[<-HN.out];exact hs⟩,e2.symm⟩]
            have:setLinks baseN.links ks=ls:=e1.symm
            rw[this];rfl)
     clear HS HP HL HX HN HJ hjn hp n0 hs hlt;go_wp2
     go_loopw [8] (fun i wr=>∃(k:Nat) (xn:Option Addr) (cn:Nat) (xp:Option Addr) (cp:Nat),i=.int .i64 (k:Int)/\k<=5/\M w.heap.size w wr [nodesC (.slice xn k cn) ((List.range k).map fun i:Nat=>l21Born i 1),pastC (.slice xp k cp) (List.replicate k [[],[]]),boxC (q1+1) 30 #[.slice xn k cn,.slice (some ⟨w.heap.size+1,0,none⟩) 25 25,.slice (some ⟨q1,0,none⟩) 0 0,.slice xp k cp],wordsC (.slice (some ⟨q1,0,none⟩) 0 0) [],linksC (.slice (some ⟨w.heap.size+1,0,none⟩) 25 25) ls,boxC w.heap.size 30 #[zn,zn,zn,zn]]) (fun i _=>5 - (intOf i).toNat)
     case atStart=>exact⟨0,none,0,none,0,rfl,Nat.zero_le _,((H.out.p1).nil rowsR_frame 34 1).nil (nodeR_frame (T:=TY)) 55 5⟩
     case round=>
      clear H;obtain⟨k,xn,cn,xp,cp,rfl,hk,h⟩:=hrel;have H:=hd_ h;clear h
      by_cases hk5:k<5
      ·go_wp2
       refine wp_region_plan 7 (.tk 0 3 (.alt 3 (.alt 4 (.alt 5 (.take 6 (.alt 7 .done .nomore)) .nomore) .nomore) .nomore)) (fun w'=>w'.cell? ⟨q1+1,0,none⟩=some (.slice xn k cn)) (by kernel_rfl) (by kernel_rfl) (fun _ _ _ _ _ h=>h) (H.out.p2.drew.cell rfl) ?_
       repeat (first|refine tA_ ?_|refine tB_ ?_)
       obtain⟨lv,hlv⟩:∃lv:Int,lv=if (k:Int)=0 then 0 else 5:=⟨_,rfl⟩
       have KN:=hd_ (spNode_at H.out.drew (k:Int) 1);have BN:=hd_ (show l21Born (k:Int) 1=⟨1,[⟨(k:Int),1,0,newSm⟩],0,lv, -1⟩ by rw[hlv];rfl);rw[<-hlv]at KN;clear hlv H;refine plan_last (by rfl) (fun K hK=>?_);go_simp;refine KN.out.mono ?_;rintro e w3 ⟨v,rfl,h1⟩;obtain⟨xv,cv,rfl⟩:∃xv cv,v=.slice xv 1 cv:=by obtain⟨f,hf,_⟩:=h1.first;obtain⟨_,_,e,_⟩:=slcR_value hf;exact⟨_,_,e⟩
       refine hK _ _ (.inr (h1.p3.cell rfl)) ?_;clear hK K
       try refine tP_ ?_
       refine plan_last (by rfl) (fun K hK=>?_);go_simp;have h2:=((h1.node 1 0 lv (-1)).p1).alloc #[iv 1,.slice xv 1 cv,iv 0,iv lv,iv (-1)] 55;refine hK _ _ (.inr (h2.p4.cell rfl)) ?_;clear hK K
       try refine tP_ ?_
       refine plan_last (by rfl) (fun K hK=>step_app nodeS (nodeR_one (T:=TY)) h2 (by rfl) (by rfl) (by rfl) (by rfl) (by simp[maxLen];omega) (by simp;omega) (N:=k+1) (by simp) (fun y cap w4 h3=>?_));refine hK _ _ (.inr (h3.p2.cell rfl)) ?_;clear hK K
       try refine tP_ ?_
       repeat (first|refine tA_ ?_|refine tB_ ?_)
       obtain⟨c0,c1,c2,c3⟩:=h3.p2.cells4;have cf:=h3.p2.free;have h4:=h3.p2.set (i:=0) (.slice y (k+1) cap);simp only[List.setIfInBounds_toArray,List.set_cons_zero,List.set_cons_succ]at h4;have H4:=hd_ h4;clear h1 h2 h3 h4 KN;refine plan_last (by rfl) (fun K hK=>?_);go_simp;refine hK _ _ (.inl rfl) ?_;clear hK K
       try refine tP_ ?_
       refine plan_done ?_;clear c0 c1 c2 c3 cf;obtain⟨w5,hw5⟩:=nm_ (w4.setCell ⟨q1+1,0,none⟩ (.slice y (k+1) cap));rw[<-hw5]at H4 ⊢;clear hw5;have h8:=(((H4.out.alloc #[] 3).alloc #[] 3).alloc #[.slice (some ⟨w5.heap.size,0,none⟩) 0 0,.slice (some ⟨w5.heap.size+1,0,none⟩) 0 0] 23).alloc #[.slice (some ⟨w5.heap.size+1+1,0,none⟩) 2 2] 34;simp only[World.size_alloc]at h8
       have h9:=(M.pair (cs:=[.slice (some ⟨w5.heap.size,0,none⟩) 0 0]) (ds:=[.slice (some ⟨w5.heap.size+1,0,none⟩) 0 0]) intsR_frame ((((h8.p3.empty (flatR_frame encI) 1).soft.p3.empty (flatR_frame encI) 1).soft.p1).p3) rfl rfl).p1.p4.p1;obtain⟨c0,c1,c2,c3⟩:=H4.out.cells4;clear h8;have H9:=hd_ h9;clear h9 H4
       go_wp2_with (at_builtin;go_loud (refine wpList_app rowsS (slcR_one _ _ _) H9.out rfl rfl rfl rfl (by simp[maxLen];omega) (by simp;omega) (N:=k+1) (by simp) ?_);intro y2 cap2 w6 h10;obtain⟨d0,d1,d2,d3⟩:=h10.p1.cells4;have df:=h10.p1.free;have h11:=h10.p1.set (i:=3) (.slice y2 (k+1) cap2);simp only[List.setIfInBounds_toArray,List.set_cons_zero,List.set_cons_succ]at h11;have H11:=hd_ h11;clear h10 h11 H9 c0 c1 c2 c3)
       go_roundw
       case rel=>
        refine⟨k+1,y,cap,y2,cap2,by go_num,hk5,?_⟩;rw[List.range_succ,List.map_append,List.replicate_succ'];have e:=H11.out.p1.p2;rw[<-BN.out]at e;exact e
       case measure=>simp[intOf];omega
      ·obtain rfl:k=5:=o_
       obtain⟨c0,c1,c2,c3⟩:=H.out.p2.cells4;obtain⟨d0,d1,d2,d3⟩:=H.out.p5.cells4;have df:=H.out.p5.free;have F:=hd_ (H.out.p5.set4 (.slice xn 5 cn) (.slice (some ⟨w.heap.size+1,0,none⟩) 25 25) (.slice (some ⟨q1,0,none⟩) 0 0) (.slice xp 5 cp));clear H;go_wp2;obtain⟨e0,e1,e2,e3⟩:=F.out.cells4
       (try simp only[Exit.inBlock,Exit.then])
       refine bodyPost_ret (v:=.tuple #[.agg #[.slice xn 5 cn,.slice (some ⟨w.heap.size+1,0,none⟩) 25 25,.slice (some ⟨q1,0,none⟩) 0 0,.slice xp 5 cp],.bool true]) (by simp[results,Tryz.results18,go_sem,e0,e1,e2,e3]) rfl ?_;rw[EQ.out];exact ans_some F.out.drop.p1.p3.p4.p3
  ·have e2:(n:Int) % 2=1:=o_
   have n0:(0:Int)<=(n:Int):=o_;have E:=hd_ (show newN ks=none by
        unfold newN
        rw[if_neg (fun z=>by have:=HN.out;omega)])
   clear hs hp;go_enter Tryz.func18,Tryz.ntmps18
   go_wp2_with (at_make;refine wpList_mk linkS (enc:=encB) (z0:=false) rfl rfl (fun _=>rfl) H0.out rfl rfl 25 rfl rfl rfl rfl (by decide) (by decide) ?_;intro w1 h1 hb1;have h2:=(h1.alloc #[] 123).alloc #[zn,.slice (some ⟨w.heap.size+1,0,none⟩) 25 25,.slice (some ⟨w1.heap.size,0,none⟩) 0 0,zn] 30;have F:=hd_ (h2.p3.set4 zn zn zn zn);obtain⟨d0,d1,d2,d3⟩:=h2.p3.cells4;have df:=h2.p3.free;clear H0 h1 h2 hb1)
   obtain⟨e0,e1,e2',e3⟩:=F.out.cells4
   (try simp only[Exit.inBlock,Exit.then])
   refine bodyPost_ret (v:=.tuple #[.agg #[zn,zn,zn,zn],.bool false]) (by simp[results,Tryz.results18,go_sem,e0,e1,e2',e3]) rfl ?_;rw[E.out];exact ans_none F.out
 ·by_cases hp:n % 2=0
  ·have e2:(n:Int) % 2=0:=o_
   have g4:decide ((40:Int)<(n:Int))=true:=by simp;omega
   have n0:(0:Int)<=(n:Int):=o_;have E:=hd_ (show newN ks=none by
        unfold newN
        rw[if_neg (fun z=>by have:=HN.out;omega)])
   clear hs hp;go_enter Tryz.func18,Tryz.ntmps18
   go_wp2_with (at_make;refine wpList_mk linkS (enc:=encB) (z0:=false) rfl rfl (fun _=>rfl) H0.out rfl rfl 25 rfl rfl rfl rfl (by decide) (by decide) ?_;intro w1 h1 hb1;have h2:=(h1.alloc #[] 123).alloc #[zn,.slice (some ⟨w.heap.size+1,0,none⟩) 25 25,.slice (some ⟨w1.heap.size,0,none⟩) 0 0,zn] 30;have F:=hd_ (h2.p3.set4 zn zn zn zn);obtain⟨d0,d1,d2,d3⟩:=h2.p3.cells4;have df:=h2.p3.free;clear H0 h1 h2 hb1)
   obtain⟨e0,e1,e2',e3⟩:=F.out.cells4
   (try simp only[Exit.inBlock,Exit.then])
   refine bodyPost_ret (v:=.tuple #[.agg #[zn,zn,zn,zn],.bool false]) (by simp[results,Tryz.results18,go_sem,e0,e1,e2',e3]) rfl ?_;rw[E.out];exact ans_none F.out
  ·have e2:(n:Int) % 2=1:=o_
   have n0:(0:Int)<=(n:Int):=o_;have E:=hd_ (show newN ks=none by
        unfold newN
        rw[if_neg (fun z=>by have:=HN.out;omega)])
   clear hs hp;go_enter Tryz.func18,Tryz.ntmps18
   go_wp2_with (at_make;refine wpList_mk linkS (enc:=encB) (z0:=false) rfl rfl (fun _=>rfl) H0.out rfl rfl 25 rfl rfl rfl rfl (by decide) (by decide) ?_;intro w1 h1 hb1;have h2:=(h1.alloc #[] 123).alloc #[zn,.slice (some ⟨w.heap.size+1,0,none⟩) 25 25,.slice (some ⟨w1.heap.size,0,none⟩) 0 0,zn] 30;have F:=hd_ (h2.p3.set4 zn zn zn zn);obtain⟨d0,d1,d2,d3⟩:=h2.p3.cells4;have df:=h2.p3.free;clear H0 h1 h2 hb1)
   obtain⟨e0,e1,e2',e3⟩:=F.out.cells4
   (try simp only[Exit.inBlock,Exit.then])
   refine bodyPost_ret (v:=.tuple #[.agg #[zn,zn,zn,zn],.bool false]) (by simp[results,Tryz.results18,go_sem,e0,e1,e2',e3]) rfl ?_;rw[E.out];exact ans_none F.out
theorem newer_is {a b:En}:newer a b=true↔b.born<a.born\/(a.born=b.born/\b.num<a.num):=by unfold newer;simp
theorem spNewer_at (w:World) (V1 V2:SV) (a b:En):
  Calls Tryz.prog 324 #[.agg #[iv a.node,iv a.born,iv a.num,.slice V1.xr V1.nr V1.cr,.slice V1.xf V1.nf V1.cf,.slice V1.xt V1.nt V1.ct,.int .i64 (a.s).lo,.int .i64 (a.s).al,.slice V1.xk V1.nk V1.ck,.int .i64 (a.s).ka],.agg #[iv b.node,iv b.born,iv b.num,.slice V2.xr V2.nr V2.cr,.slice V2.xf V2.nf V2.cf,.slice V2.xt V2.nt V2.ct,.int .i64 (b.s).lo,.int .i64 (b.s).al,.slice V2.xk V2.nk V2.ck,.int .i64 (b.s).ka]] w fun r w'=>r=.returned (.bool (newer a b))/\Below w.heap.size w w':=by
 have H:=hd_ (((M.start w).alloc #[iv a.node,iv a.born,iv a.num,.slice V1.xr V1.nr V1.cr,.slice V1.xf V1.nf V1.cf,.slice V1.xt V1.nt V1.ct,.int .i64 (a.s).lo,.int .i64 (a.s).al,.slice V1.xk V1.nk V1.ck,.int .i64 (a.s).ka] 64).alloc #[iv b.node,iv b.born,iv b.num,.slice V2.xr V2.nr V2.cr,.slice V2.xf V2.nf V2.cf,.slice V2.xt V2.nt V2.ct,.int .i64 (b.s).lo,.int .i64 (b.s).al,.slice V2.xk V2.nk V2.ck,.int .i64 (b.s).ka] 64)
 obtain⟨c0,c1,c2,c3,c4,c5,c6,c7,c8,c9⟩:=H.out.p1.cells10;obtain⟨d0,d1,d2,d3,d4,d5,d6,d7,d8,d9⟩:=H.out.cells10;simp only[World.size_alloc]at d0 d1 d2 d3 d4 d5 d6 d7 d8 d9;clear c0 c3 c4 c5 c6 c7 c8 c9 d0 d3 d4 d5 d6 d7 d8 d9
 by_cases h1:b.born<a.born
 ·have F:Hid (newer a b=true):=hd_ (newer_is.2 (.inl h1))
  go_enter Tryz.func324,Tryz.ntmps324;go_wp2;go_ret;exact⟨by rw[F.out];rfl,H.out.below⟩
 ·by_cases h2:a.born=b.born
  ·by_cases h3:b.num<a.num
   ·have F:Hid (newer a b=true):=hd_ (newer_is.2 (.inr ⟨h2,h3⟩))
    have g2:(a.born==b.born)=true:=by simpa using h2
    clear h2;go_enter Tryz.func324,Tryz.ntmps324;go_wp2;go_ret;exact⟨by rw[F.out];rfl,H.out.below⟩
   ·have F:Hid (newer a b=false):=hd_ (Bool.eq_false_iff.2 fun q=>(newer_is.1 q).elim h1 fun q=>h3 q.2)
    have g2:(a.born==b.born)=true:=by simpa using h2
    clear h2;go_enter Tryz.func324,Tryz.ntmps324;go_wp2;go_ret;exact⟨by rw[F.out];rfl,H.out.below⟩
  ·have F:Hid (newer a b=false):=hd_ (Bool.eq_false_iff.2 fun q=>(newer_is.1 q).elim h1 fun q=>h2 q.1)
   have g2:(a.born==b.born)=false:=by simpa using h2
   clear h2;go_enter Tryz.func324,Tryz.ntmps324;go_wp2;go_ret;exact⟨by rw[F.out];rfl,H.out.below⟩
end N
end Go.Proofs.YtcblbdpdbggkbaaGreat
namespace Go.Proofs.YtcblbdpdbggkbaaGreat.N
open Go.RowKit Go.Sort
theorem in6_iff {x a b:Int}:in6 x a b=true↔a<=x/\x<=b:=decide_eq_true_iff
def sameS (a b:Sm):Bool:=decide (a.rs=b.rs)&&(decide (a.zs=b.zs)&&(decide (a.ps=b.ps)&&(decide (a.lo=b.lo)&&(decide (a.al=b.al)&&(decide (a.ks=b.ks)&&decide (a.ka=b.ka))))))
theorem sameS_iff {a b:Sm}:sameS a b=true↔a=b:=by
 unfold sameS;simp only[Bool.and_eq_true,decide_eq_true_eq]
 constructor
 ·rintro⟨h1,h2,h3,h4,h5,h6,h7⟩
  cases a;cases b;simp only at h1 h2 h3 h4 h5 h6 h7;rw[h1,h2,h3,h4,h5,h6,h7]
 ·rintro rfl
  exact⟨rfl,rfl,rfl,rfl,rfl,rfl,rfl⟩
def entryB (n:Nt) (e:En):Bool:=in6 e.node 0 4&&(in6 e.born 1 (nodeAt n e.node).born&&(in6 e.num 0 (pastAt n e.node e.born).length&&(okS (upS ((pastAt n e.node e.born).take e.num.toNat))&&sameS (upS ((pastAt n e.node e.born).take e.num.toNat)) e.s)))
theorem entryB_iff {n:Nt} {e:En}:entryB n e=true↔TrueE n e:=by
 unfold entryB;simp only[Bool.and_eq_true,in6_iff,sameS_iff];exact⟨fun⟨a,b,c,d,f⟩=>⟨a,b,c,d,f.symm⟩,fun⟨a,b,c,d,f⟩=>⟨a,b,c,d,f.symm⟩⟩
def ascB:List En->Bool
 |x::y::l=>decide (x.node<y.node)&&ascB (y::l)
 |_=>true
theorem ascB_iff:∀{es:List En},ascB es=true↔es.Pairwise Before
 | []=>⟨fun _=>List.Pairwise.nil,fun _=>rfl⟩
 | [x]=>⟨fun _=>List.pairwise_singleton _ _,fun _=>rfl⟩
 |x::y::l=>by
  unfold ascB;rw[Bool.and_eq_true,decide_eq_true_eq,ascB_iff (es:=y::l),List.pairwise_cons (a:=x)]
  constructor
  ·rintro⟨h,k⟩
   refine⟨fun z hz=>?_,k⟩;rcases List.mem_cons.1 hz with rfl|hz
   ·exact h
   ·have:=(List.pairwise_cons.1 k).1 z hz
    unfold Before at this ⊢;omega
  ·rintro⟨h,k⟩
   exact⟨h y (List.mem_cons_self ..),k⟩
def knownB (n:Nt) (es:List En):Bool:=es.all (entryB n)&&ascB es
theorem knownB_iff {n:Nt} {es:List En}:knownB n es=true↔KnownOk n es:=by
 unfold knownB;rw[Bool.and_eq_true,List.all_eq_true,ascB_iff];exact⟨fun⟨a,b⟩=>⟨fun e he=>entryB_iff.1 (a e he),b⟩,fun⟨a,b⟩=>⟨fun e he=>entryB_iff.2 (a e he),b⟩⟩
def rowB (l:List Int):Bool:=l.all (fun t=>in6 t 0 63)&&decide (l.length<=100)
def pastB (n:Nt) (i:Int):Bool:=decide (((rowsAt n i).length:Int)=(nodeAt n i).born+1)&&(decide ((pastAt n i 0).length=0)&&(rowsAt n i).all rowB)
theorem pastB_iff {n:Nt} {i:Int}:pastB n i=true↔PastOk n i:=by
 unfold pastB rowB;simp only[Bool.and_eq_true,decide_eq_true_eq,List.all_eq_true,in6_iff];exact⟨fun⟨a,b,c⟩=>⟨a,List.eq_nil_of_length_eq_zero b,fun l hl=>(c l hl).2,fun l hl=>(c l hl).1⟩,fun⟨a,b,c,d⟩=>⟨a,by rw[b];rfl,fun l hl=>⟨d l hl,c l hl⟩⟩⟩
def ownB (n:Nt) (i:Int):Bool:=match findE (nodeAt n i).known i with
 |some e=>decide (e.born=(nodeAt n i).born)&&decide (e.num=(pastAt n i (nodeAt n i).born).length)
 |none=>false
theorem ownB_iff {n:Nt} {i:Int}:ownB n i=true↔OwnOk n i:=by
 unfold ownB OwnOk;cases h:findE (nodeAt n i).known i with
 |none=>simp
 |some e=>simp
def wayB (n:Nt) (i:Int):Bool:=
 if i=0 then decide ((nodeAt n i).level=0)&&(decide ((nodeAt n i).up= -1)&&decide (0<=(nodeAt n i).beacon))
 else in6 (nodeAt n i).beacon 0 (nodeAt n 0).beacon&&(in6 (nodeAt n i).level 1 5&&(decide ((nodeAt n i).up= -1↔(nodeAt n i).level=5)&&(in6 (nodeAt n i).up (-1) 4&&decide ((nodeAt n i).up≠i))))
theorem wayB_iff {n:Nt} {i:Int}:wayB n i=true↔WayOk n i:=by
 unfold wayB
 by_cases h:i=0
 ·subst h
  rw[if_pos rfl];simp only[Bool.and_eq_true,decide_eq_true_eq];exact⟨fun⟨a,b,c⟩=>⟨⟨c,Int.le_refl _⟩,fun _=>⟨a,b⟩,fun q=>absurd rfl q,fun q=>absurd rfl q,fun q=>absurd rfl q⟩,fun W=>⟨(W.root rfl).1,(W.root rfl).2,W.beacon.1⟩⟩
 ·rw[if_neg h]
  simp only[Bool.and_eq_true,decide_eq_true_eq,in6_iff];exact⟨fun⟨a,b,c,d,e⟩=>⟨a,fun q=>absurd q h,fun _=>b,fun _=>c,fun _=>⟨d,e⟩⟩,fun W=>⟨W.beacon,W.level h,W.none h,(W.up h).1,(W.up h).2⟩⟩
def nodeB (n:Nt) (i:Int):Bool:=ownB n i&&(knownB n (nodeAt n i).known&&wayB n i)
def endsB (w:Wd):Bool:=in6 w.src 0 4&&(in6 w.dst 0 4&&decide (w.src≠w.dst))
def wordB (n:Nt) (w:Wd):Bool:=
 if w.kind=1 then endsB w&&(in6 w.beacon 0 (nodeAt n 0).beacon&&(in6 w.level 0 4&&decide (w.known.length=0)))
 else if w.kind=2 then endsB w&&(decide (w.beacon=0)&&(decide (w.level=0)&&knownB n w.known))
 else false
theorem wordB_iff {n:Nt} {w:Wd}:wordB n w=true↔WordOk n w:=by
 unfold wordB endsB
 by_cases h:w.kind=1
 ·rw[if_pos h]
  simp only[Bool.and_eq_true,decide_eq_true_eq,in6_iff];refine⟨fun⟨⟨a,b,c⟩,d,e,f⟩=>⟨a,b,c,.inl ⟨h,d,e,List.eq_nil_of_length_eq_zero f⟩⟩,fun W=>⟨⟨W.src,W.dst,W.other⟩,?_⟩⟩;rcases W.kind with ⟨_,d,e,f⟩|⟨k,_⟩
  ·exact⟨d,e,by rw[f];rfl⟩
  ·omega
 ·rw[if_neg h]
  by_cases k:w.kind=2
  ·rw[if_pos k]
   simp only[Bool.and_eq_true,decide_eq_true_eq,in6_iff,knownB_iff];refine⟨fun⟨⟨a,b,c⟩,d,e,f⟩=>⟨a,b,c,.inr ⟨k,d,e,f⟩⟩,fun W=>⟨⟨W.src,W.dst,W.other⟩,?_⟩⟩;rcases W.kind with ⟨q,_⟩|⟨_,d,e,f⟩
   ·exact absurd q h
   ·exact⟨d,e,f⟩
  ·rw[if_neg k]
   refine⟨fun c=>(by cases c),fun W=>?_⟩;rcases W.kind with ⟨q,_⟩|⟨q,_⟩
   ·exact absurd q h
   ·exact absurd q k
def sizeB (n:Nt):Bool:=decide (n.nodes.length=5)&&(decide (n.past.length=5)&&(decide (n.links.length=25)&&decide (n.words.length<=24)))
def seatB (n:Nt) (a:Int):Bool:=in6 (nodeAt n a).born 1 20&&(pastB n a&&((whole n a a==false)&&(List.range a.toNat).all fun b=>whole n a (b:Int)==whole n (b:Int) a))
def okNB (n:Nt):Bool:=sizeB n&&((List.range 5).all (fun a:Nat=>seatB n a)&&((List.range 5).all (fun i:Nat=>nodeB n i)&&(n.words.all (wordB n)&&in6 (nodeAt n 0).beacon 0 1000)))
theorem five {P:Int->Prop}:(∀a ∈ List.range 5,P (a:Nat))↔∀i,isNode i->P i:=by
 constructor
 ·intro h i hi
  unfold isNode at hi;have:=h i.toNat (List.mem_range.2 (by omega));rwa[show ((i.toNat:Nat):Int)=i by omega]at this
 ·intro h a ha
  have:=List.mem_range.1 ha;exact h a ⟨by omega,by omega⟩
theorem okNB_iff {n:Nt}:okNB n=true↔NetOk n:=by
 unfold okNB;simp only[Bool.and_eq_true,List.all_eq_true];rw[five (P:=fun i=>seatB n i=true),five (P:=fun i=>nodeB n i=true)];unfold sizeB seatB nodeB;simp only[Bool.and_eq_true,decide_eq_true_eq,in6_iff,pastB_iff,List.all_eq_true,beq_iff_eq,List.mem_range,ownB_iff,knownB_iff,wayB_iff,wordB_iff]
 constructor
 ·rintro⟨⟨h1,h2,h3,h4⟩,h5,h6,h7,h8⟩
  have either:∀i j,isNode i->isNode j->j<i->whole n i j=whole n j i:=fun i j hi hj l=>by
   have:=(h5 i hi).2.2.2 j.toNat (by unfold isNode at hi hj;omega);rwa[show ((j.toNat:Nat):Int)=j by unfold isNode at hj;omega]at this
  refine⟨h1,h2,h3,h4,fun i hi=>(h5 i hi).1,fun i hi=>(h5 i hi).2.1,fun i hi=>(h5 i hi).2.2.1,fun i j hi hj=>?_,fun i hi=>(h6 i hi).1,fun i hi=>(h6 i hi).2.1,fun i hi=>(h6 i hi).2.2,h7,h8.2⟩;rcases (by omega:j<i\/i=j\/i<j)with l|l|l
  ·exact either i j hi hj l
  ·rw[l]
  ·exact (either j i hj hi l).symm
 ·intro h
  refine⟨⟨h.nodes,h.past,h.links,h.words⟩,fun i hi=>⟨h.born i hi,h.pasts i hi,h.self i hi,fun b hb=>h.either i b hi ?_⟩,fun i hi=>⟨h.own i hi,h.known i hi,h.way i hi⟩,h.word,(h.way 0 ⟨by omega,by omega⟩).beacon.1,h.beacon⟩;unfold isNode at hi ⊢;omega
end Go.Proofs.YtcblbdpdbggkbaaGreat.N
