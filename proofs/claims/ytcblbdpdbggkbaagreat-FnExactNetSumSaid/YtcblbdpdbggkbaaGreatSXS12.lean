/-
  What the laws of XS need of the texts before it, part 12.
-/
import Derived.ArgAppend
import Derived.Below
import Derived.BigQuiet
import Derived.Carry
import Derived.ChangeAt
import Derived.ChangeOld
import Derived.ChangeSame
import Derived.Deep.AppendLies
import Derived.Deep.Cut
import Derived.Deep.DeepCutAuto
import Derived.Deep.DrawnRows
import Derived.Deep.Fields
import Derived.Deep.Matrix
import Derived.Deep.MidRow
import Derived.Deep.OwnRows
import Derived.Deep.QuietTactic
import Derived.Deep.RegionHeld3
import Derived.Deep.RegionLaw
import Derived.Deep.RegionLawGrows
import Derived.Deep.RegionWith
import Derived.Deep.Slices
import Derived.Deep.WholeRow
import Derived.DeepKeys5
import Derived.Handy
import Derived.IntWalk
import Derived.KernelRfl
import Derived.Laws.AppendOwnNone
import Derived.Laws.EntriesVeiled
import Derived.Laws.ResultCell
import Derived.Lib.AppendZerosOnto
import Derived.Lib.Hide
import Derived.Lib.QuietBelow
import Derived.Lib.SliceRun
import Derived.Lib.SmallJoins
import Derived.Lib.Walk
import Derived.LoopIn
import Derived.LoopN
import Derived.LoopNIn
import Derived.Maps.AppendAt
import Derived.Maps.Keyed
import Derived.Maps.Own
import Derived.OneCell
import Derived.OpenShut
import Derived.OrdersHeld
import Derived.OwnWalkIn
import Derived.RangeFuncBound
import Derived.RangeFuncBox
import Derived.RangeFuncCalls
import Derived.RangeFuncLeaves
import Derived.RangeFuncNested
import Derived.RegionTactic
import Derived.Shelf.Abstract
import Derived.Shelf.RegionOpen
import Derived.Shelf.SlSortCmp.InsertionK
import Derived.StillTail
import Derived.TacticsInMore
import Derived.Test.YtcblbdpdbggkbaaGreatRows
import Derived.WalkKit
import Derived.WalkLawsBesides
import Derived.WalkSmall
import Derived.WalkSpells
import Derived.Test.YtcblbdpdbggkbaaGreatSXS11
set_option maxRecDepth 100000
set_option maxHeartbeats 16000000
set_option linter.unusedVariables false
set_option linter.unusedSectionVars false
set_option linter.unusedSimpArgs false
namespace Go.Proofs.YtcblbdpdbggkbaaGreat
open _root_.Go.Proofs.Tryz
theorem zm {P:Prop} (h:P:=by
 obtain rfl:j=n:=o_
 have F:=hd_ h;clear h;go_wp2;go_ret;have e1:xs.take j=xs:=List.take_of_length_le (by rw[HN.out];exact Nat.le_refl _);have e2:xs.drop j=[]:=List.drop_eq_nil_of_le (by rw[HN.out];exact Nat.le_refl _);have F:=F.out;rw[e1,e2,List.append_nil]at F;rw[KK.out,e1];exact⟨rfl,F⟩):P:=h
theorem zAp {P:Prop} (h:P:=by
 simp only[List.cons.injEq,Value.slice.injEq,and_true,true_and]at e;obtain⟨⟨a1,a2,a3⟩,⟨b1,b2,b3⟩,⟨c1,c2,c3⟩,d1,d2,d3⟩:=e;simp only[SV.r,SV.f,SV.t,SV.k,a1,a2,a3,b1,b2,b3,c1,c2,c3,d1,d2,d3,and_self]):P:=h
theorem zBe {P:Prop} (h:P:=by
 go_wp2;go_roundw
 case rel=>exact⟨j+1,hlt,gn_,by rw[E7.out],F.out⟩
 case measure=>simp[intOf];omega):P:=h
theorem zBf {P:Prop} (h:P:=by
 go_wp2;go_ret;exact⟨by rw[F.out];rfl,H.out.below⟩):P:=h
theorem zBp {P:Prop} (h:P:=by
 rw[iY ha]at this;have:=HC.out.2;omega):P:=h
theorem zBr {P:Prop} (h:P:=by
 clear h2 KC cz;go_wp2;go_roundw
 case rel=>exact⟨j+1,hlt,gn_,(by rw[SP.out, <-Int.add_assoc, <-KK.out];try rfl),F.out⟩
 case measure=>simp[intOf];omega):P:=h
theorem zBw {P:Prop} (h:P:=by
 go_wp2;go_ret;exact⟨by rw[F.out];rfl,H2.out.below⟩):P:=h
theorem zBF {P:Prop} (h:P:=by
 have F:Hid (jE rs born=false):=hd_ (by unfold jE;rw[P0.out];rfl);clear hq1 hq2;go_wp2;go_ret;exact⟨by rw[F.out];rfl,rfl⟩):P:=h
theorem zBL {P:Prop} (h:P:=by
 go_wp2;go_ret;exact⟨by rw[F.out];rfl,by first|rfl|trivial⟩):P:=h
theorem zBT {P:Prop} (h:P:=by
 go_wp2;go_ret;exact⟨none,0,rfl,M.nil _ _ _ (M.start w)⟩):P:=h
theorem zBZ {P:Prop} (h:P:=by
 go_wp2;go_ret;exact⟨by rw[F.out];rfl,H3.out.below⟩):P:=h
theorem zB5 {P:Prop} (h:P:=by
 go_wp2;go_roundw
 case rel=>exact⟨k+1,o_,gn_,H2.out.drop,NY.out⟩
 case measure=>simp[intOf];omega):P:=h
theorem zB6 {P:Prop} (h:P:=by
 simp only[List.cons.injEq,true_and,and_true]at e;rw[<-e]at hs;exact⟨f,hs,nd,fun b hb=>hb⟩):P:=h
end Go.Proofs.YtcblbdpdbggkbaaGreat
namespace Go.Proofs.YtcblbdpdbggkbaaGreat
open _root_.Go.Proofs.Tryz
open Go.RowKit Go.Sort
namespace N
theorem tI (w:World) {x1:Option Addr} {c1:Nat} {v2 v3 v4:Value} {n:Nt} {f:List Nat} (h1:qL TY w [.slice x1 5 c1] n.nodes f) {beacon:Int} {b:Bool} (hb:b=in6 beacon 0 (aD n 0).beacon):
  Calls prog 154 #[.agg #[.slice x1 5 c1,v2,v3,v4],iv beacon] w fun r w'=>r=.returned (.bool b)/\Below w.heap.size w w':=by
 have h5:n.nodes.length=5:=(aK h1).1.symm;obtain⟨r0,hr0⟩:∃nd,n.nodes[0]? =some nd:=⟨_,List.getElem?_eq_getElem (by rw[h5];decide)⟩
 have e0:aD n 0=r0:=by unfold aD;rw[List.getD_eq_getElem?_getD,show (0:Int).toNat=0 from rfl,hr0];rfl
 rw[e0]at hb;have H0:=(M.start w).alloc #[.slice x1 5 c1,v2,v3,v4] 30;have HB:=hd_ H0.below;obtain⟨a0,a1,a2,a3⟩:=H0.cells4;obtain⟨g1,xk,ck,fk,rfl,_,_,_,_,_,z0,z1,z2,z3,z4⟩:=gM h1 hr0;replace z2:=cell_later H0.below z2;simp only[Nat.zero_mul,Nat.zero_add]at z2;obtain⟨q1,hq1⟩:=nm_ (decide (0<=beacon));obtain⟨q2,hq2⟩:=nm_ (decide (beacon<=r0.beacon));have E:Hid (b=(q1&&q2)):=hd_ (by
    rw[hb,hq1,hq2]
    unfold in6
    by_cases x:0<=beacon<;>by_cases y:beacon<=r0.beacon<;>simp[x,y])
 have g1':=hq1.symm;have g2':=hq2.symm;clear hb hq1 hq2 H0 e0 hr0 h5 h1 z0 z1 z3 z4;go_enter func154,ntmps154;rcases q1 with _|_
 all_goals
  go_wp2;go_ret;exact⟨by rw[E.out];rfl,HB.out⟩
theorem aH3 {a b:Int} {t:Bool} (h:t=two a b) (w:World):Calls prog 70 #[iv a,iv b] w fun e w'=>e=.returned (.bool t)/\w=w':=by
 rw[h];exact aCy w a b
def kJ (n:Nt) (i:Int):Bool:=in6 (aD n i).beacon 0 (aD n 0).beacon&&(if i=0 then ((aD n i).level==0)&&(((aD n i).up== -1)&&decide ((aD n i).beacon<=1000))else if (aD n i).level=5 then (aD n i).up== -1 else decide (1<=(aD n i).level)&&(decide ((aD n i).level<5)&&two i (aD n i).up))
theorem aDp (w:World) {x1:Option Addr} {c1:Nat} {v2 v3 v4:Value} {n:Nt} {f:List Nat} (h1:qL TY w [.slice x1 5 c1] n.nodes f) {i:Nat} (i5:i<5):
  Calls prog 81 #[.agg #[.slice x1 5 c1,v2,v3,v4],iv (i:Int)] w fun r w'=>r=.returned (.bool (kJ n i))/\Below w.heap.size w w':=by
 have h5:n.nodes.length=5:=(aK h1).1.symm;obtain⟨nd,hnd⟩:∃nd,n.nodes[i]? =some nd:=⟨_,List.getElem?_eq_getElem (by rw[h5];exact i5)⟩
 have eN:aD n (i:Int)=nd:=by unfold aD;rw[List.getD_eq_getElem?_getD,Int.toNat_natCast,hnd];rfl
 have HB0:Hid (kJ n (i:Int)=(in6 nd.beacon 0 (aD n 0).beacon&&(if (i:Int)=0 then (nd.level==0)&&((nd.up== -1)&&decide (nd.beacon<=1000))else if nd.level=5 then nd.up== -1 else decide (1<=nd.level)&&(decide (nd.level<5)&&two i nd.up)))):=hd_ (by unfold kJ;rw[eN]);have H0:=((M.start w).alloc #[.slice x1 5 c1,v2,v3,v4] 30)
 obtain⟨w1,hw1⟩:=nm_ (w.alloc (.cells #[.slice x1 5 c1,v2,v3,v4] 30));obtain⟨p1,hp1⟩:=nm_ w.heap.size;have HP:=hd_ hp1;rw[<-hw1, <-hp1]at H0;have hWB:Below w.heap.size w w1:=by have:=H0.below;rwa[hp1]at this
 obtain⟨g1,xk,ck,fk,rfl,_,_,_,_,_,b0,b1,b2,b3,b4⟩:=gM h1 hnd;replace b0:=cell_later hWB b0;replace b1:=cell_later hWB b1;replace b2:=cell_later hWB b2;replace b3:=cell_later hWB b3;replace b4:=cell_later hWB b4;obtain⟨a0,a1,a2,a3⟩:=H0.cells4;have H1:=H0.alloc #[iv nd.born,.slice xk nd.known.length ck,iv nd.beacon,iv nd.level,iv nd.up] 55;obtain⟨p2,hp2⟩:=nm_ w1.heap.size;rw[<-hp2]at H1
 obtain⟨w2,hw2⟩:=nm_ (w1.alloc (.cells #[iv nd.born,.slice xk nd.known.length ck,iv nd.beacon,iv nd.level,iv nd.up] 55));rw[<-hw2]at H1;have H:=hd_ H1;have hWB2:Below w.heap.size w w2:=by have:=H1.below;rwa[hp1]at this
 obtain⟨c0,c1',c2,c3⟩:=H1.p1.cells4;obtain⟨d0,d1,d2,d3,d4⟩:=H1.cells5;obtain⟨t1,ht1⟩:=nm_ (in6 nd.beacon 0 (aD n 0).beacon);have KB:=hd_ (tI w2 (v2:=v2) (v3:=v3) (v4:=v4) ((aN cP _ _).below h1 hWB2 lr_) ht1);rw[<-ht1]at HB0;have i0:(0:Int)<=(i:Int):=o_;have i5':(i:Int)<5:=o_;have HSZ:=hd_ (show w1.heap.size=w.heap.size+1 by rw[hw1];simp)
 clear ht1 H0 H1 hWB hWB2 h1 h5 hnd eN c0 c1' c2 c3 d0 d1 d2 d3 d4 a0 a1 a2 a3;rw[hw1]at b0 b1 b2 b3 b4;go_enter func81,ntmps81
 go_wp2_with fail
 rw[<-hw1, <-HSZ.out, <-hp1, <-hp2, <-hw2];clear hw1 hp1 hp2 hw2 b0 b1 b2 b3 b4;refine KB.out.mono ?_;rintro e w3 ⟨rfl,hb⟩;have H3:=hd_ (H.out.later hb);clear hb KB H;obtain⟨d0,d1,d2,d3,d4⟩:=H3.out.cells5;rcases t1 with _|_
 case false=>
  go_wp2;go_ret;exact⟨by rw[HB0.out];rfl,by rw[<-HP.out];exact H3.out.below⟩
 by_cases hi:i=0
 ·subst hi
  obtain⟨l0,hl0⟩:=nm_ (nd.level==0);obtain⟨u0,hu0⟩:=nm_ (nd.up== -1);obtain⟨b0,hb0⟩:=nm_ (decide (nd.beacon<=1000));have NB2:Hid (kJ n ((0:Nat):Int)=(l0&&(u0&&b0))):=hd_ (by rw[HB0.out,if_pos r_,hl0,hu0,hb0];rfl);have ga:=hl0.symm;have gb:=hu0.symm;have gc:=hb0.symm;clear hl0 hu0 hb0 HB0;refine aDx (a:=l0) (b:=u0) ?_ ?_ ?_
  all_goals
   first
    |(intro e1 e2;subst e1 e2)
    |(intro e1;subst e1)
   go_wp2;go_ret;exact⟨by rw[NB2.out];rfl,by rw[<-HP.out];exact H3.out.below⟩
 have hi':((i:Int)==0)=false:=by simpa using hi
 by_cases hl:nd.level=5
 ·have gl:(nd.level==5)=true:=by simpa using hl
  have NB2:Hid (kJ n (i:Int)=(nd.up== -1)):=hd_ (by rw[HB0.out,if_neg (by simpa using hi),if_pos hl];rfl);clear hl;go_wp2;go_ret;exact⟨by rw[NB2.out];rfl,by rw[<-HP.out];exact H3.out.below⟩
 have gl:(nd.level==5)=false:=by simpa using hl
 obtain⟨q1,hq1⟩:=nm_ (decide (1<=nd.level));obtain⟨q2,hq2⟩:=nm_ (decide (nd.level<5));obtain⟨q3,hq3⟩:=nm_ (two (i:Int) nd.up);have NB2:Hid (kJ n (i:Int)=(q1&&(q2&&q3))):=hd_ (by rw[HB0.out,if_neg (by simpa using hi),if_neg hl,hq1,hq2,hq3];rfl);have ga:=hq1.symm;have gb:=hq2.symm;have K3:=hd_ (aH3 hq3);clear hq1 hq2 hq3 hl hi HB0;refine aDx (a:=q1) (b:=q2) ?_ ?_ ?last
 case last=>
  intro e1 e2;subst e1 e2
  go_wp2_with fail
  refine (K3.out _).mono ?_;rintro e' w' ⟨rfl,hw'⟩;rw[<-hw'];clear hw' w' K3;go_wp2;go_ret;exact⟨by rw[NB2.out];simp,by rw[<-HP.out];exact H3.out.below⟩
 all_goals
  first
   |(intro e1 e2;subst e1 e2)
   |(intro e1;subst e1)
  go_wp2;go_ret;exact⟨by rw[NB2.out];rfl,by rw[<-HP.out];exact H3.out.below⟩
theorem aGT {a:Int} {b:Bool} (h:b=in6 a 0 63) (w:World):Calls prog 106 #[iv a] w fun e w'=>e=.returned (.bool b)/\w=w':=by
 cases b with
 |true=>exact jZ a w (cO.1 h.symm).1 (by have:=(cO.1 h.symm).2;omega)
 |false=>exact nI a w (by have:=of_decide_eq_false h.symm;omega)
def jE (rs:List (List Int)) (born:Int):Bool:=in6 born 1 20&&(decide ((rs.length:Int)=born+1)&&(decide ((rs.getD 0 []).length=0)&&rs.all lA))
theorem aFg (w:World) {xr:Option Addr} {cr:Nat} {rs:List (List Int)} {f:List Nat} (h:oD w [.slice xr rs.length cr] rs f) (born:Int):
  Calls prog 80 #[.slice xr rs.length cr,iv born] w fun r w'=>r=.returned (.bool (jE rs born))/\w'=w:=by
 have hm:rs.length<=maxLen:=by obtain⟨_,_,_,q1,q2⟩:=aP h;omega
 unfold maxLen at hm;have H:=hd_ h;clear h;obtain⟨q1,hq1⟩:=nm_ (decide (born<1));obtain⟨q2,hq2⟩:=nm_ (decide (20<born));have g1:=hq1.symm;have g2:=hq2.symm;have P0:Hid (in6 born 1 20=(!q1&& !q2)):=hd_ (by
    rw[hq1,hq2]
    unfold in6
    by_cases x:born<1<;>by_cases y:20<born<;>simp[x,y]<;>omega)
 go_enter func80,ntmps80;rcases q1 with _|_
 case true=>
  exact zBF
 rcases q2 with _|_
 case true=>
  exact zBF
 have o1:=of_decide_eq_false hq1.symm;have o2:=of_decide_eq_false hq2.symm;have P1:Hid (jE rs born=(decide ((rs.length:Int)=born+1)&&(decide ((rs.getD 0 []).length=0)&&rs.all lA))):=hd_ (by unfold jE;rw[P0.out];rfl);have bw:IntKind.i64.wrap (born+1)=born+1:=IntWalk.i64_in _ o_;clear hq1 hq2
 by_cases hA:(rs.length:Int)=born+1
 case neg=>
  have F:Hid (jE rs born=false):=hd_ (by rw[P1.out,decide_eq_false hA];rfl);have gA:((rs.length:Int) != born+1)=true:=by simpa using hA
  clear hA;go_wp2;go_ret;exact⟨by rw[F.out];rfl,rfl⟩
 have gA:((rs.length:Int) != born+1)=false:=by simpa using hA
 have r0:0<rs.length:=o_;have r0':(0:Int)<(rs.length:Int):=o_;have HA:=hd_ hA;clear hA;obtain⟨l0,hl0⟩:∃l,rs[0]? =some l:=⟨_,List.getElem?_eq_getElem r0⟩
 obtain⟨g5,xl,cl,fl,rfl,_,_,_,_,_,b2⟩:=mL H.out hl0;have EL0:Hid (rs.getD 0 []=l0):=hd_ (by rw[List.getD_eq_getElem?_getD,hl0];rfl);clear hl0
 by_cases hB:l0.length=0
 case neg=>
  have F:Hid (jE rs born=false):=hd_ (by rw[P1.out,EL0.out,decide_eq_false hB,Bool.false_and,Bool.and_false]);have gN:0<l0.length:=o_;have gB:decide ((0:Int)<(l0.length:Int))=true:=by simpa using gN
  clear hB;go_wp2;go_ret;exact⟨by rw[F.out];rfl,rfl⟩
 have gN:¬ 0<l0.length:=o_;have gB:decide ((0:Int)<(l0.length:Int))=false:=by simpa using gN
 have FB:Hid (jE rs born=rs.all lA):=hd_ (by rw[P1.out,EL0.out,decide_eq_true HA.out,decide_eq_true hB];rfl);clear hB;go_wp2;clear b2 gA gB gN bw g1 g2 o1 o2 r0 r0';go_loopw [31] (fun z wr=>∃j:Nat,j<=rs.length/\z=.int .i64 j/\(∀(a:Nat) (x:List Int),a<j->rs[a]? =some x->lA x=true)/\wr=w) (fun z _=>rs.length - (intOf z).toNat)
 case atStart=>exact⟨0,Nat.zero_le _,rfl,fun a x h=>absurd h (Nat.not_lt_zero _),rfl⟩
 case round=>
  obtain⟨j,hj,rfl,hno,hwr⟩:=hrel;subst wr;have NO:=hd_ hno;clear hno
  by_cases hlt:j<rs.length
  ·obtain⟨lb,hlb⟩:∃l,rs[j]? =some l:=⟨_,List.getElem?_eq_getElem hlt⟩
   obtain⟨g6,xb,cb,fb,eg,_,_,rb,rbc,rbm,b3⟩:=mL H.out hlb;cases eg;have IB:Hid (cW w (.slice xb lb.length cb) lb):=hd_ (by
        obtain⟨v,ev,ho,_⟩:=iT rb
        cases ev
        exact ho)
   have HLB:=hd_ hlb;unfold maxLen at rbm;have j0:(0:Int)<=(j:Int):=o_;have j1:(j:Int)<(rs.length:Int):=o_;clear rb hlb
   by_cases hg:100<lb.length
   ·have F:Hid (jE rs born=false):=hd_ (by rw[FB.out];exact lM HLB.out (aFt hg))
    have gg:decide ((100:Int)<(lb.length:Int))=true:=decide_eq_true o_;clear hg;exact zBL
   have gg:decide ((100:Int)<(lb.length:Int))=false:=decide_eq_false o_;have HG:=hd_ hg;clear hg;go_wp2;clear gg b3;go_loopw [40] (fun z wr=>∃q:Nat,q<=lb.length/\z=.int .i64 q/\(∀a:Nat,a<q->in6 (lb.getD a 0) 0 63=true)/\wr=w) (fun z _=>lb.length - (intOf z).toNat)
   case atStart=>exact⟨0,Nat.zero_le _,rfl,fun a h=>absurd h (Nat.not_lt_zero _),rfl⟩
   case round=>
    obtain⟨q,hq,rfl,hin,hwr⟩:=hrel;subst wr;have IN:=hd_ hin;clear hin
    by_cases hql:q<lb.length
    ·obtain⟨b6,o6,rfl,c6⟩:=vE IB.out hql
     have HV:=hd_ (fun (h:in6 (lb.getD q 0) 0 63=false)=>aHz hql h);have IN2:Hid (in6 (lb.getD q 0) 0 63=true->∀a:Nat,a<q+1->in6 (lb.getD a 0) 0 63=true):=hd_ fun h a ha=>by
      by_cases e:a<q
      ·exact IN.out a e
      ·obtain rfl:a=q:=o_
       exact h
     obtain⟨v,hv⟩:=nm_ (lb.getD q 0);rw[<-hv]at c6 HV IN2;clear hv;obtain⟨t,ht⟩:=nm_ (in6 v 0 63);rw[<-ht]at HV IN2;have KI:=hd_ (aGT ht);have q0:(0:Int)<=(q:Int):=o_;have q1:(q:Int)<(lb.length:Int):=o_;clear ht
     go_wp2_with fail
     refine (KI.out _).mono ?_;rintro r w' ⟨rfl,hw'⟩;rw[<-hw'];clear hw' w' KI;cases t with
     |false=>
      have F:Hid (jE rs born=false):=hd_ (by rw[FB.out];exact lM HLB.out (HV.out rfl));clear HV IN2;exact zBL
     |true=>
      exact zBu
    ·obtain rfl:q=lb.length:=o_
     have RO:=hd_ (aJ9 IN.out HG.out);have NO2:Hid (∀(a:Nat) (x:List Int),a<j+1->rs[a]? =some x->lA x=true):=hd_ fun a x ha hx=>by
      exact zB7
     go_wp2;exact zBd
  ·have F:Hid (jE rs born=true):=hd_ (by rw[FB.out];exact vI.2 fun a x hx=>NO.out a x (by have:=(List.getElem?_eq_some_iff.1 hx).1;omega) hx)
   obtain rfl:j=rs.length:=o_;exact zBL
end N
end Go.Proofs.YtcblbdpdbggkbaaGreat
namespace Go.Proofs.YtcblbdpdbggkbaaGreat
open _root_.Go.Proofs.Tryz
open Go.RowKit Go.Sort Go.ChangeMaps
namespace N
theorem aEN {n:Nt} {i b:Int} (h:(dF n i).all lA=true):lA (bZ n i b)=true:=by
 unfold bZ;rw[List.getD_eq_getElem?_getD];cases q:(dF n i)[b.toNat]? with
 |none=>rfl
 |some l=>exact List.all_eq_true.1 h l (List.mem_of_getElem? q)
theorem aJJ {l:List Int} (h:lA l=true) (k:Nat):okS (upS (l.take k))=true:=by
 unfold lA at h;simp only[Bool.and_eq_true,List.all_eq_true,decide_eq_true_eq]at h;refine aCV (fun t ht=>cO.1 (h.1 t (List.mem_of_mem_take ht))) ?_;rw[List.length_take];omega
theorem aGu (a b:Sm):mE a b=mE b a:=by
 rw[Bool.eq_iff_iff,pF,pF];exact⟨Eq.symm,Eq.symm⟩
def nY (n:Nt):Prop:=∀i:Nat,i<5->(dF n (i:Int)).all lA=true
theorem aK1 {n:Nt} (hf:nY n) (e:En):fC n e=(wG n e&&mE e.s (cC n (e.node,e.born,e.num))):=by
 unfold fC wG cC
 by_cases h:in6 e.node 0 4=true
 ·have hr:lA (bZ n e.node e.born)=true:=aEN (by
      obtain⟨a,b⟩:=cO.1 h
      have:=hf e.node.toNat o_
      rwa[show ((e.node.toNat:Nat):Int)=e.node by omega]at this)
  rw[h,aJJ hr,aGu e.s,Bool.true_and,Bool.true_and,Bool.true_and,Bool.and_assoc]
 ·rw[Bool.eq_false_iff.2 h];rfl
theorem aII {n:Nt} (hs:oC n) {e:En} (h:wG n e=true):∃i j q:Nat,i<5/\j<(dF n (i:Int)).length/\q<=(bZ n (i:Int) (j:Int)).length/\e.node=i/\e.born=j/\e.num=q:=by
 unfold wG at h;simp only[Bool.and_eq_true,cO]at h;obtain⟨⟨a0,a1⟩,⟨b0,b1⟩,c0,c1⟩:=h;have en:((e.node.toNat:Nat):Int)=e.node:=o_;have eb:((e.born.toNat:Nat):Int)=e.born:=o_;have eq:((e.num.toNat:Nat):Int)=e.num:=o_;refine⟨e.node.toNat,e.born.toNat,e.num.toNat,o_,?_,?_,en.symm,eb.symm,eq.symm⟩
 ·have:=hs.rows e.node.toNat o_
  rw[en]at this ⊢;omega
 ·rw[en,eb];omega
theorem aIg {n:Nt} {w0:World} {v1 v2 v3:Value} {x4:Option Addr} {c4:Nat} (hn:jF w0 v1 v2 v3 (.slice x4 5 c4) n) (hs:oC n) {e:En} (he:wG n e=true) {m:Nat} (w:World) (l:List Ch) (h:M w0.heap.size w0 w (kR m (cC n)::l)):
  Calls prog 200 #[.agg #[.slice x4 5 c4,.map (some m)],.agg #[iv e.node,iv e.born,iv e.num]] w fun r w'=>∃V s,r=.returned (vS V s)/\s=cC n (e.node,e.born,e.num)/\M w0.heap.size w0 w' (rC m (cC n) V s::l):=by
 obtain⟨i,j,q,h1,h2,h3,e1,e2,e3⟩:=aII hs he;rw[e1,e2,e3];exact aF3 hn hs h1 h2 q h3 rfl h
theorem sD {n:Nt} {w0:World} {x1 x4:Option Addr} {c1 c4:Nat} {v2 v3:Value} (hn:jF w0 (.slice x1 5 c1) v2 v3 (.slice x4 5 c4) n) (hs:oC n) (hf:nY n) (w:World) {m:Nat} {l:List Ch} (hm:M w0.heap.size w0 w (kR m (cC n)::l)) {xk:Option Addr} {ck:Nat} {es:List En} {f:List Nat} (h:fU TY w0 [.slice xk es.length ck] es f):
  Calls prog 156 #[.agg #[.slice x1 5 c1,v2,v3,.slice x4 5 c4],.slice xk es.length ck,.agg #[.slice x4 5 c4,.map (some m)]] w fun r w'=>r=.returned (.bool (eG n es))/\M w0.heap.size w0 w' (kR m (cC n)::l):=by
 obtain⟨_,_,e1,q1,q2⟩:=aP h;have hlen:es.length<=maxLen:=Nat.le_trans q1 q2;unfold maxLen at hlen;clear e1 q1 q2;have H1:=hd_ h;have HN:=hd_ hn;have HS:=hd_ hs;have HF:=hd_ hf;have h2:=(hm.alloc #[.slice x1 5 c1,v2,v3,.slice x4 5 c4] 30).alloc #[.slice x4 5 c4,.map (some m)] 120;simp only[World.size_alloc]at h2;obtain⟨p3,hp3⟩:=nm_ w.heap.size;obtain⟨p5,hp5⟩:=nm_ (w.heap.size+1)
 obtain⟨W2,hW2⟩:=nm_ ((w.alloc (.cells #[.slice x1 5 c1,v2,v3,.slice x4 5 c4] 30)).alloc (.cells #[.slice x4 5 c4,.map (some m)] 120));rw[<-hW2, <-hp5, <-hp3]at h2;have H:=hd_ h2;clear h hn hs hf hm h2;go_enter func156,ntmps156;go_wp2;rw[<-hW2, <-hp5, <-hp3];clear hW2 hp3 hp5
 go_loopw [7,12] (fun y z wr=>∃(j:Nat) (t:Int),j<=es.length/\z=.int .i64 (j:Int)/\y=.int .i64 t/\(j=0->t= -1)/\(0<j->∃d,es[j - 1]? =some d/\t=d.node)/\(∀(a:Nat) (x:En),a<j->es[a]? =some x->fC n x=true/\(0<a->∀d:En,es[a - 1]? =some d->d.node<x.node))/\M w0.heap.size w0 wr (bO p5 120 #[.slice x4 5 c4,.map (some m)]::bO p3 30 #[.slice x1 5 c1,v2,v3,.slice x4 5 c4]::kR m (cC n)::l)) (fun _ z _=>es.length - (intOf z).toNat)
 case atStart=>exact⟨0, -1,Nat.zero_le _,rfl,rfl,fun _=>rfl,fun q=>absurd q (Nat.lt_irrefl _),fun a x h=>absurd h (Nat.not_lt_zero _),H.out⟩
 case round=>
  clear H;obtain⟨j,t,hj,rfl,rfl,t0,t1,hno,hm⟩:=hrel;have NO:=hd_ hno;have H:=hd_ hm;have T0:=hd_ t0;have T1:=hd_ t1;clear hno hm t0 t1
  by_cases hlt:j<es.length
  ·obtain⟨x,hx⟩:∃x,es[j]? =some x:=⟨_,List.getElem?_eq_getElem hlt⟩
   obtain⟨g,V,fe,rfl,_,_,sr,ca0,ca1,ca2,cas⟩:=jP H1.out hx;have RV:=hd_ (tU sr);have hWB:=H.out.below;replace ca0:=cell_later hWB ca0;replace ca1:=cell_later hWB ca1;replace ca2:=cell_later hWB ca2;have ca3:=cell_later hWB (cas 0 _ rfl);have ca4:=cell_later hWB (cas 1 _ rfl);have ca5:=cell_later hWB (cas 2 _ rfl);have ca6:=cell_later hWB (cas 3 _ rfl)
   have ca7:=cell_later hWB (cas 4 _ rfl);have ca8:=cell_later hWB (cas 5 _ rfl);have ca9:=cell_later hWB (cas 6 _ rfl);have HX:=hd_ hx;clear cas hWB sr hx;have k0:(0:Int)<=(j:Int):=o_;have k1:(j:Int)<(es.length:Int):=o_
   have h2:=H.out.alloc #[iv x.node,iv x.born,iv x.num,.slice V.xr V.nr V.cr,.slice V.xf V.nf V.cf,.slice V.xt V.nt V.ct,.int .i64 (x.s).lo,.int .i64 (x.s).al,.slice V.xk V.nk V.ck,.int .i64 (x.s).ka] 64;obtain⟨p9,hp9⟩:=nm_ wr.heap.size
   obtain⟨W,hW⟩:=nm_ (wr.alloc (.cells #[iv x.node,iv x.born,iv x.num,.slice V.xr V.nr V.cr,.slice V.xf V.nf V.cf,.slice V.xt V.nt V.ct,.int .i64 (x.s).lo,.int .i64 (x.s).al,.slice V.xk V.nk V.ck,.int .i64 (x.s).ka] 64));rw[<-hW, <-hp9]at h2;have H2:=hd_ h2.drew;clear h2 H;go_upto_region 5 with fail
   rw[<-hW, <-hp9];clear hW hp9 ca0 ca1 ca2 ca3 ca4 ca5 ca6 ca7 ca8 ca9
   have hcells:∀(W':World) (c1':Ch) (l':List Ch),M w0.heap.size w0 W' (c1'::bO p9 64 #[iv x.node,iv x.born,iv x.num,.slice V.xr V.nr V.cr,.slice V.xf V.nf V.cf,.slice V.xt V.nt V.ct,.int .i64 (x.s).lo,.int .i64 (x.s).al,.slice V.xk V.nk V.ck,.int .i64 (x.s).ka]::bO p5 120 #[.slice x4 5 c4,.map (some m)]::bO p3 30 #[.slice x1 5 c1,v2,v3,.slice x4 5 c4]::l')->bD W' (b4L p3 (.slice x1 5 c1) v2 v3 (.slice x4 5 c4)++([(⟨p5,0,none⟩,.slice x4 5 c4),(⟨p5,1,none⟩,.map (some m))]++oV p9 x.node x.born x.num V x.s)):=fun _ _ _ h=>by
    obtain⟨d0,d1,d2,d3,d4,d5,d6,d7,d8,d9⟩:=h.p1.cells10;obtain⟨t0,t1⟩:=h.p2.cells2;obtain⟨a0,a1,a2,a3⟩:=h.p3.cells4;exact⟨a0,a1,a2,a3,t0,t1,d0,d1,d2,d3,d4,d5,d6,d7,d8,d9,trivial⟩
   have HC:=hd_ hcells;clear hcells;have C0:=hd_ (HC.out _ _ _ H2.out.p3);have KW:=hd_ (aKg W.drew V x (HN.out.below H2.out.below lr_) HS.out);have EI:=hd_ (aK1 HF.out x)
   by_cases hle:x.node<=t
   ·have F:Hid (eG n es=false):=hd_ (by
          by_cases j0:j=0
          · have tt:=T0.out j0
            refine nC HX.out (.inl ?_)
            unfold fC in6
            rw[decide_eq_false o_];rfl
          · obtain⟨d,hd,td⟩:=T1.out o_
            exact nC HX.out (.inr ⟨o_,d,hd,o_⟩))
    have gl:decide (x.node<=t)=true:=decide_eq_true hle;clear hle KW EI
    refine aC 99 (.tk 0 7 (.alt 7 (.tk 8 7 (.alt 15 (.alt 16 (.alt 17 (.tk 18 2 .done) .nomore) .nomore) .nomore)) .nomore)) (fun w'=>bD w' (b4L p3 (.slice x1 5 c1) v2 v3 (.slice x4 5 c4)++([(⟨p5,0,none⟩,.slice x4 5 c4),(⟨p5,1,none⟩,.map (some m))]++oV p9 x.node x.born x.num V x.s))) kr_ kr_ (fun _ _ _ _ _ h=>h) C0.out ?_
    repeat (first|refine tC_ ?_|refine tB_ ?_)
    refine aB r_ (fun K' hK=>?_);go_simp;refine hK _ _ (.inr C0.out) ?_;clear hK K'
    try refine tP_ ?_
    repeat (first|refine tC_ ?_|refine tB_ ?_)
    refine aB r_ (fun K' hK=>?_);go_simp;refine hK _ _ (.inr C0.out) ?_;clear hK K'
    try refine tP_ ?_
    refine aB r_ (fun K' hK=>?_);go_simp;refine hK _ _ (.inr C0.out) ?_;clear hK K'
    try refine tP_ ?_
    refine aB r_ (fun K' hK=>?_);go_simp;refine hK _ _ (.inr C0.out) ?_;clear hK K'
    try refine tP_ ?_
    repeat (first|refine tC_ ?_|refine tB_ ?_)
    refine aG ?_;go_wp2;go_ret;exact⟨by rw[F.out];rfl,H2.out.drop.drop.drop⟩
   have gl:decide (x.node<=t)=false:=decide_eq_false hle;have HLE:=hd_ hle;clear hle;obtain⟨q1,hq1⟩:=nm_ (wG n x);rw[<-hq1]at EI KW;cases q1 with
   |false=>
    have F:Hid (eG n es=false):=hd_ (nC HX.out (.inl (by rw[EI.out];rfl)));clear hq1 EI
    refine aC 99 (.tk 0 7 (.alt 7 (.tk 8 7 (.alt 15 (.alt 16 (.alt 17 (.tk 18 2 .done) .nomore) .nomore) .nomore)) .nomore)) (fun w'=>bD w' (b4L p3 (.slice x1 5 c1) v2 v3 (.slice x4 5 c4)++([(⟨p5,0,none⟩,.slice x4 5 c4),(⟨p5,1,none⟩,.map (some m))]++oV p9 x.node x.born x.num V x.s))) kr_ kr_ (fun _ _ _ _ _ h=>h) C0.out ?_
    repeat (first|refine tC_ ?_|refine tB_ ?_)
    refine aB r_ (fun K' hK=>?_);go_simp;refine KW.out.mono ?_;rintro e' w1 ⟨rfl,hb⟩;have C1:=hd_ (C0.out.below hb);have H3:=hd_ (H2.out.later hb);clear hb KW H2 C0;refine hK _ _ (.inr C1.out) ?_;clear hK K'
    try refine tP_ ?_
    repeat (first|refine tC_ ?_|refine tB_ ?_)
    refine aB r_ (fun K' hK=>?_);go_simp;refine hK _ _ (.inr C1.out) ?_;clear hK K'
    try refine tP_ ?_
    refine aB r_ (fun K' hK=>?_);go_simp;refine hK _ _ (.inr C1.out) ?_;clear hK K'
    try refine tP_ ?_
    refine aB r_ (fun K' hK=>?_);go_simp;refine hK _ _ (.inr C1.out) ?_;clear hK K'
    try refine tP_ ?_
    repeat (first|refine tC_ ?_|refine tB_ ?_)
    refine aG ?_;go_wp2;go_ret;exact⟨by rw[F.out];rfl,H3.out.drop.drop.drop⟩
   |true=>
    have KS:=hd_ (fun (w':World) (l':List Ch) (h:M w0.heap.size w0 w' (kR m (cC n)::l'))=>aIg HN.out HS.out hq1.symm w' l' h);obtain⟨q2,hq2⟩:=nm_ (mE x.s (cC n (x.node,x.born,x.num)));rw[<-hq2]at EI;have Q2:=hd_ hq2;clear hq1 hq2;cases q2 with
    |false=>
     have F:Hid (eG n es=false):=hd_ (nC HX.out (.inl (by rw[EI.out];rfl)));clear EI
     refine aC 99 (.tk 0 7 (.alt 7 (.tk 8 7 (.alt 15 (.alt 16 (.alt 17 (.tk 18 2 .done) .nomore) .nomore) .nomore)) .nomore)) (fun w'=>bD w' (b4L p3 (.slice x1 5 c1) v2 v3 (.slice x4 5 c4)++([(⟨p5,0,none⟩,.slice x4 5 c4),(⟨p5,1,none⟩,.map (some m))]++oV p9 x.node x.born x.num V x.s))) kr_ kr_ (fun _ _ _ _ _ h=>h) C0.out ?_
     repeat (first|refine tC_ ?_|refine tB_ ?_)
     refine aB r_ (fun K' hK=>?_);go_simp;refine KW.out.mono ?_;rintro e' w1 ⟨rfl,hb⟩;have C1:=hd_ (C0.out.below hb);have H3:=hd_ (H2.out.later hb);clear hb KW H2 C0;refine hK _ _ (.inr C1.out) ?_;clear hK K'
     try refine tP_ ?_
     repeat (first|refine tC_ ?_|refine tB_ ?_)
     refine aB r_ (fun K' hK=>?_);go_simp;refine (tM w1 V x).mono ?_;rintro e' w2 ⟨rfl,hb⟩;have C2:=hd_ (C1.out.below hb);have H4:=hd_ (H3.out.later hb);clear hb H3 C1;refine hK _ _ (.inr C2.out) ?_;clear hK K'
     try refine tP_ ?_
     refine aB r_ (fun K' hK=>?_);go_simp;refine (KS.out _ _ H4.out.p3).mono ?_;rintro e' w3 ⟨V3,s3,rfl,es3,hm3⟩;have H5:=hd_ hm3;have E3:=hd_ es3;clear hm3 es3 KS C2 H4;refine hK _ _ (.inr (HC.out _ _ _ H5.out)) ?_;clear hK K'
     try refine tP_ ?_
     refine aB r_ (fun K' hK=>?_);go_simp;refine (vA w3 (RV.out.below H5.out.below lr_) (aC0 H5.out)).mono ?_;rintro e' w4 ⟨rfl,hb⟩;rw[E3.out];rw[<-Q2.out];have H6:=hd_ (sJ (H5.out.later hb)).p3.p3.p3;have C6:=hd_ (bD.below (HC.out _ _ _ H5.out) hb);clear hb H5;refine hK _ _ (.inr C6.out) ?_;clear hK K'
     try refine tP_ ?_
     repeat (first|refine tC_ ?_|refine tB_ ?_)
     refine aG ?_;go_wp2;go_ret;exact⟨by rw[F.out];rfl,H6.out.drop.drop.drop⟩
    |true=>
     have NO2:Hid (∀(a:Nat) (y:En),a<j+1->es[a]? =some y->fC n y=true/\(0<a->∀d:En,es[a - 1]? =some d->d.node<y.node)):=hd_ fun a y ha hy=>by
      by_cases e:a<j
      ·exact NO.out a y e hy
      ·obtain rfl:a=j:=o_
       rw[HX.out]at hy;cases hy;refine⟨by rw[EI.out];rfl,fun a0 d hd=>?_⟩;obtain⟨d',hd',td⟩:=T1.out a0;rw[hd]at hd';cases hd';have:=HLE.out;omega
     have TX:Hid (0<j+1->∃d,es[j+1 - 1]? =some d/\x.node=d.node):=hd_ fun _=>⟨x,by rw[Nat.add_sub_cancel];exact HX.out,rfl⟩
     clear EI;refine aC 99 (.tk 0 7 (.alt 7 (.tk 8 7 (.alt 15 (.alt 16 (.alt 17 (.tk 18 2 .done) .nomore) .nomore) .nomore)) .nomore)) (fun w'=>bD w' (b4L p3 (.slice x1 5 c1) v2 v3 (.slice x4 5 c4)++([(⟨p5,0,none⟩,.slice x4 5 c4),(⟨p5,1,none⟩,.map (some m))]++oV p9 x.node x.born x.num V x.s))) kr_ kr_ (fun _ _ _ _ _ h=>h) C0.out ?_
     repeat (first|refine tC_ ?_|refine tB_ ?_)
     refine aB r_ (fun K' hK=>?_);go_simp;refine KW.out.mono ?_;rintro e' w1 ⟨rfl,hb⟩;have C1:=hd_ (C0.out.below hb);have H3:=hd_ (H2.out.later hb);clear hb KW H2 C0;refine hK _ _ (.inr C1.out) ?_;clear hK K'
     try refine tP_ ?_
     repeat (first|refine tC_ ?_|refine tB_ ?_)
     refine aB r_ (fun K' hK=>?_);go_simp;refine (tM w1 V x).mono ?_;rintro e' w2 ⟨rfl,hb⟩;have C2:=hd_ (C1.out.below hb);have H4:=hd_ (H3.out.later hb);clear hb H3 C1;refine hK _ _ (.inr C2.out) ?_;clear hK K'
     try refine tP_ ?_
     refine aB r_ (fun K' hK=>?_);go_simp;refine (KS.out _ _ H4.out.p3).mono ?_;rintro e' w3 ⟨V3,s3,rfl,es3,hm3⟩;have H5:=hd_ hm3;have E3:=hd_ es3;clear hm3 es3 KS C2 H4;refine hK _ _ (.inr (HC.out _ _ _ H5.out)) ?_;clear hK K'
     try refine tP_ ?_
     refine aB r_ (fun K' hK=>?_);go_simp;refine (vA w3 (RV.out.below H5.out.below lr_) (aC0 H5.out)).mono ?_;rintro e' w4 ⟨rfl,hb⟩;rw[E3.out];rw[<-Q2.out];have H6:=hd_ (sJ (H5.out.later hb)).p3.p3.p3;have C6:=hd_ (bD.below (HC.out _ _ _ H5.out) hb);clear hb H5;refine hK _ _ (.inr C6.out) ?_;clear hK K'
     try refine tP_ ?_
     repeat (first|refine tC_ ?_|refine tB_ ?_)
     refine aG ?_;obtain⟨d0,d1,d2,d3,d4,d5,d6,d7,d8,d9⟩:=H6.out.cells10;go_wp2;go_roundw
     case rel=>exact⟨j+1,x.node,o_,gn_,rfl,fun q=>absurd q o_,TX.out,NO2.out,H6.out.drop⟩
     case measure=>simp[intOf];omega
  ·obtain rfl:j=es.length:=o_
   have F:Hid (eG n es=true):=hd_ (xE.2 fun a x hx=>NO.out a x (List.getElem?_eq_some_iff.1 hx).1 hx);go_wp2;go_ret;exact⟨by rw[F.out];rfl,H.out.drop.drop⟩
theorem aDC {n:Nt} {w0:World} {x1 x4:Option Addr} {c1 c4:Nat} {v2 v3:Value} (hn:jF w0 (.slice x1 5 c1) v2 v3 (.slice x4 5 c4) n) (hs:oC n) (hf:nY n) (hb:∀i:Nat,i<5->1<=(aD n (i:Int)).born) (w:World) {m:Nat} {l:List Ch} (hm:M w0.heap.size w0 w (kR m (cC n)::l)) {i:Nat} (i5:i<5):
  Calls prog 82 #[.agg #[.slice x1 5 c1,v2,v3,.slice x4 5 c4],iv (i:Int),.agg #[.slice x4 5 c4,.map (some m)]] w fun r w'=>r=.returned (.bool (eG n (aD n (i:Int)).known&&vZ n (i:Int)))/\M w0.heap.size w0 w' (kR m (cC n)::l):=by
 obtain⟨f1,n1⟩:=hn.nodes;obtain⟨f4,n4⟩:=hn.past;obtain⟨nd,hnd⟩:∃nd,n.nodes[i]? =some nd:=⟨_,List.getElem?_eq_getElem (by rw[hs.nodes];exact i5)⟩
 obtain⟨rs,hrs⟩:∃rs,n.past[i]? =some rs:=⟨_,List.getElem?_eq_getElem (by rw[hs.past];exact i5)⟩
 have eN:aD n (i:Int)=nd:=by unfold aD;rw[List.getD_eq_getElem?_getD,Int.toNat_natCast,hnd];rfl
 have eR:dF n (i:Int)=rs:=by unfold dF;rw[List.getD_eq_getElem?_getD,Int.toNat_natCast,hrs];rfl
 have eL:=hs.rows i i5;have eB:=hb i i5;rw[eN]at eL eB;rw[eR]at eL;obtain⟨g1,xk,ck,fk,rfl,_,_,rk,_,_,b0,b1,b2,b3,b4⟩:=gM n1 hnd;obtain⟨g4,xr,cr,fr,rfl,_,_,rr,_,_,y0⟩:=mS n4 hrs;obtain⟨born,known,beacon,level,up⟩:=nd;simp only at eL eB b0 b1 b2 b3 b4 rk;obtain⟨j,rfl⟩:∃j:Nat,born=j:=⟨born.toNat,o_⟩
 have jr:j<rs.length:=o_;obtain⟨lp,hlp⟩:∃lp,rs[j]? =some lp:=⟨_,List.getElem?_eq_getElem jr⟩
 have EP:Hid (bZ n (i:Int) (j:Int)=lp):=hd_ (by unfold bZ;rw[eR,List.getD_eq_getElem?_getD,Int.toNat_natCast,hlp];rfl);obtain⟨g5,xl,cl,fl,rfl,_,_,_,lc,lm,y1⟩:=mL rr hlp;have OB:Hid (vZ n (i:Int)=match mA known (i:Int)with|some e=>decide (e.born=(j:Int))&&decide (e.num=(lp.length:Int))|none=>false):=hd_ (by unfold vZ;rw[eN];simp only[EP.out];cases mA known (i:Int)<;>rfl)
 rw[eN];have BJ:=hd_ eB;have Y0:=hd_ y0;have Y1:=hd_ y1;have RK:=hd_ rk;have HN:=hd_ hn;have HS:=hd_ hs;have HF:=hd_ hf;have i0:(0:Int)<=(i:Int):=o_;have i5':(i:Int)<5:=o_;have j0:(0:Int)<=(j:Int):=o_;have j1:(j:Int)<(rs.length:Int):=o_;have h1:=(hm.alloc #[.slice (some ⟨g1,0,none⟩) 5 c1,v2,v3,.slice (some ⟨g4,0,none⟩) 5 c4] 30).alloc #[.slice (some ⟨g4,0,none⟩) 5 c4,.map (some m)] 120
 simp only[World.size_alloc]at h1;obtain⟨p3,hp3⟩:=nm_ w.heap.size;obtain⟨p5,hp5⟩:=nm_ (w.heap.size+1);obtain⟨W1,hW1⟩:=nm_ ((w.alloc (.cells #[.slice (some ⟨g1,0,none⟩) 5 c1,v2,v3,.slice (some ⟨g4,0,none⟩) 5 c4] 30)).alloc (.cells #[.slice (some ⟨g4,0,none⟩) 5 c4,.map (some m)] 120));rw[<-hW1, <-hp5, <-hp3]at h1;have H1:=hd_ h1;replace b0:=cell_later h1.below b0;replace b1:=cell_later h1.below b1
 replace b2:=cell_later h1.below b2;replace b3:=cell_later h1.below b3;replace b4:=cell_later h1.below b4;obtain⟨a0,a1,a2,a3⟩:=h1.p1.cells4;have h2:=h1.alloc #[iv (j:Int),.slice xk known.length ck,iv beacon,iv level,iv up] 55;obtain⟨p7,hp7⟩:=nm_ W1.heap.size;obtain⟨W2,hW2⟩:=nm_ (W1.alloc (.cells #[iv (j:Int),.slice xk known.length ck,iv beacon,iv level,iv up] 55));rw[<-hW2, <-hp7]at h2
 have H2:=hd_ h2;have KO:=hd_ (aCT W2 ((aN aX _ _).below RK.out h2.below lr_) (i:Int));clear h1 h2 hn hs hf hb hm n1 n4 hnd hrs eN eR eL eB rk rr hlp lc lm y0 y1 jr H1;go_enter func82,ntmps82;go_upto_region 1 with fail
 rw[<-hW1, <-hp5, <-hp3];clear hW1 hp5 hp3;go_upto_region 2 with fail
 rw[<-hW2, <-hp7];clear hW2 hp7 a0 a1 a2 a3 b0 b1 b2 b3 b4;obtain⟨d0,d1,d2,d3,d4⟩:=H2.out.cells5
 go_wp2_with fail
 refine KO.out.mono ?_;rintro r w3 ⟨⟨u,rfl,hu⟩,hb⟩;have H3:=hd_ (H2.out.later hb);clear hb KO H2 d0 d1 d2 d3 d4
 obtain⟨ua,ub,uc,V,s,q1,q2,rfl,hq1,hq2,ho⟩:∃(ua ub uc:Int) (V:SV) (s:Sm) (q1 q2:Bool),u=.agg #[iv ua,iv ub,iv uc,.slice V.xr V.nr V.cr,.slice V.xf V.nf V.cf,.slice V.xt V.nt V.ct,iv s.lo,iv s.al,.slice V.xk V.nk V.ck,iv s.ka]/\(ub==(j:Int))=q1/\(uc==(lp.length:Int))=q2/\vZ n (i:Int)=(q1&&q2):=by
  rcases hu with ⟨e,V,h1,h2,h3⟩|⟨h1,h3⟩
  ·refine⟨e.node,e.born,e.num,V,e.s,_,_,h3,rfl,rfl,?_⟩
   rw[OB.out,h1]
   rfl
  ·refine⟨0,0,0,SV.none,eC,false,_,h3,?_,rfl,?_⟩
   ·have:=BJ.out
    simp;omega
   ·rw[OB.out,h1]
    rfl
 have HO:=hd_ ho;clear hu ho OB;have h4:=H3.out.alloc #[iv ua,iv ub,iv uc,.slice V.xr V.nr V.cr,.slice V.xf V.nf V.cf,.slice V.xt V.nt V.ct,iv s.lo,iv s.al,.slice V.xk V.nk V.ck,iv s.ka] 64;obtain⟨p8,hp8⟩:=nm_ w3.heap.size;obtain⟨W4,hW4⟩:=nm_ (w3.alloc (.cells #[iv ua,iv ub,iv uc,.slice V.xr V.nr V.cr,.slice V.xf V.nf V.cf,.slice V.xt V.nt V.ct,iv s.lo,iv s.al,.slice V.xk V.nk V.ck,iv s.ka] 64))
 rw[<-hW4, <-hp8]at h4;have H4:=hd_ h4.drew;clear h4 H3;go_upto_region 3 with fail
 rw[<-hW4, <-hp8];clear hW4 hp8
 have hcells:∀(W':World) (c1':Ch) (l':List Ch),M w0.heap.size w0 W' (c1'::bO p8 64 #[iv ua,iv ub,iv uc,.slice V.xr V.nr V.cr,.slice V.xf V.nf V.cf,.slice V.xt V.nt V.ct,iv s.lo,iv s.al,.slice V.xk V.nk V.ck,iv s.ka]::bO p7 55 #[iv (j:Int),.slice xk known.length ck,iv beacon,iv level,iv up]::bO p5 120 #[.slice (some ⟨g4,0,none⟩) 5 c4,.map (some m)]::bO p3 30 #[.slice (some ⟨g1,0,none⟩) 5 c1,v2,v3,.slice (some ⟨g4,0,none⟩) 5 c4]::l')->bD W' (b4L p3 (.slice (some ⟨g1,0,none⟩) 5 c1) v2 v3 (.slice (some ⟨g4,0,none⟩) 5 c4)++([(⟨p5,0,none⟩,.slice (some ⟨g4,0,none⟩) 5 c4),(⟨p5,1,none⟩,.map (some m))]++(b5L p7 (iv (j:Int)) (.slice xk known.length ck) (iv beacon) (iv level) (iv up)++(oV p8 ua ub uc V s++[(⟨g4,i,none⟩,.slice (some ⟨g5,0,none⟩) rs.length cr),(⟨g5,j,none⟩,.slice xl lp.length cl)])))):=fun _ _ _ h=>by
  obtain⟨d0,d1,d2,d3,d4,d5,d6,d7,d8,d9⟩:=h.p1.cells10;obtain⟨e0,e1,e2,e3,e4⟩:=h.p2.cells5;obtain⟨t0,t1⟩:=h.p3.cells2;obtain⟨a0,a1,a2,a3⟩:=h.p4.cells4;exact⟨a0,a1,a2,a3,t0,t1,e0,e1,e2,e3,e4,d0,d1,d2,d3,d4,d5,d6,d7,d8,d9,cell_later h.below Y0.out,cell_later h.below Y1.out,trivial⟩
 have HC:=hd_ hcells;clear hcells;obtain⟨q0,hq0⟩:=nm_ (eG n known);have KE:=hd_ (sD HN.out HS.out HF.out W4.drew H4.out.p4 RK.out);rw[<-hq0]at KE;have RES:Hid ((eG n known&&vZ n (i:Int))=(q0&&(q1&&q2))):=hd_ (by rw[<-hq0,HO.out]);clear hq0 HO;have C0:=hd_ (HC.out _ _ _ H4.out.p4);refine aK7 (a:=q0) (b:=q1) (c:=q2) ?_ ?_ ?_ ?_
 all_goals
  first
   |(intro e0 e1 e2;subst e0 e1 e2)
   |(intro e0 e1;subst e0 e1)
   |(intro e0;subst e0)
  refine aC 99 (.tk 0 4 (.alt 4 (.tk 5 22 (.alt 27 .done .nomore)) .nomore)) (fun w'=>bD w' (b4L p3 (.slice (some ⟨g1,0,none⟩) 5 c1) v2 v3 (.slice (some ⟨g4,0,none⟩) 5 c4)++([(⟨p5,0,none⟩,.slice (some ⟨g4,0,none⟩) 5 c4),(⟨p5,1,none⟩,.map (some m))]++(b5L p7 (iv (j:Int)) (.slice xk known.length ck) (iv beacon) (iv level) (iv up)++(oV p8 ua ub uc V s++[(⟨g4,i,none⟩,.slice (some ⟨g5,0,none⟩) rs.length cr),(⟨g5,j,none⟩,.slice xl lp.length cl)]))))) kr_ kr_ (fun _ _ _ _ _ h=>h) C0.out ?_
  repeat (first|refine tC_ ?_|refine tB_ ?_)
  refine aB r_ (fun K' hK=>?_);go_simp;refine KE.out.mono ?_;rintro e' w5 ⟨rfl,hm5⟩;have H5:=hd_ hm5;clear hm5;refine hK _ _ (.inr (HC.out _ _ _ H5.out)) ?_;clear hK K'
  try refine tP_ ?_
  repeat (first|refine tC_ ?_|refine tB_ ?_)
  refine aB r_ (fun K' hK=>?_);go_simp;refine hK _ _ (.inr (HC.out _ _ _ H5.out)) ?_;clear hK K';refine aG ?_;go_wp2;go_ret;exact⟨by rw[RES.out];first|rfl|simp,H5.out.p1.drop.p1.drop.p1.drop.p1.drop⟩
theorem aLj (x:Wd):aCv x=two x.src x.dst:=by
 unfold aCv two;rw[Bool.and_assoc]
theorem aD3 {n:Nt} {w0:World} {x1 x4:Option Addr} {c1 c4:Nat} {v2 v3:Value} (hn:jF w0 (.slice x1 5 c1) v2 v3 (.slice x4 5 c4) n) (hs:oC n) (hf:nY n) (w:World) {m:Nat} {l:List Ch} (hm:M w0.heap.size w0 w (kR m (cC n)::l)) (x:Wd) {xk:Option Addr} {ck:Nat} {f:List Nat} (h:fU TY w0 [.slice xk x.known.length ck] x.known f):
  Calls prog 83 #[.agg #[.slice x1 5 c1,v2,v3,.slice x4 5 c4],.agg #[iv x.kind,iv x.src,iv x.dst,iv x.beacon,iv x.level,.slice xk x.known.length ck],.agg #[.slice x4 5 c4,.map (some m)]] w fun r w'=>r=.returned (.bool (iO n x))/\M w0.heap.size w0 w' (kR m (cC n)::l):=by
 obtain⟨f1,n1⟩:=hn.nodes;have h1:=((hm.alloc #[.slice x1 5 c1,v2,v3,.slice x4 5 c4] 30).alloc #[iv x.kind,iv x.src,iv x.dst,iv x.beacon,iv x.level,.slice xk x.known.length ck] 123).alloc #[.slice x4 5 c4,.map (some m)] 120;simp only[World.size_alloc]at h1;obtain⟨p3,hp3⟩:=nm_ w.heap.size;obtain⟨p4,hp4⟩:=nm_ (w.heap.size+1);obtain⟨p5,hp5⟩:=nm_ (w.heap.size+1+1)
 obtain⟨W1,hW1⟩:=nm_ (((w.alloc (.cells #[.slice x1 5 c1,v2,v3,.slice x4 5 c4] 30)).alloc (.cells #[iv x.kind,iv x.src,iv x.dst,iv x.beacon,iv x.level,.slice xk x.known.length ck] 123)).alloc (.cells #[.slice x4 5 c4,.map (some m)] 120));rw[<-hW1, <-hp5, <-hp4, <-hp3]at h1;have H1:=hd_ h1;obtain⟨a0,a1,a2,a3⟩:=h1.p2.cells4;obtain⟨d0,d1,d2,d3,d4,d5⟩:=h1.p1.cells6;obtain⟨t0,t1⟩:=h1.cells2
 have HF:Hid (∀b,b=two x.src x.dst->iO n x=(b&&(if x.kind=1 then (in6 x.beacon 0 (aD n 0).beacon&&(in6 x.level 0 4&&decide (x.known.length=0)))else if x.kind=2 then (decide (x.beacon=0)&&(decide (x.level=0)&&eG n x.known))else false))):=hd_ fun b hb=>by
  unfold iO;rw[aLj,hb]
  by_cases k1:x.kind=1
  ·simp[k1]
  ·by_cases k2:x.kind=2<;>simp[k1,k2]
 obtain⟨b,hb⟩:=nm_ (two x.src x.dst);have WF:=hd_ (HF.out b hb);have KT:=hd_ (aCy W1 x.src x.dst);rw[<-hb]at KT;have HS:=hd_ hs;have HFi:=hd_ hf;have HN:=hd_ hn;have HR:=hd_ h;have N1:=hd_ n1;obtain⟨kind,src,dst,beacon,level,known⟩:=x;simp only at *;clear h1 hm HF hb hs hf hn h n1;go_enter func83,ntmps83;go_upto_region 1 with fail
 rw[<-hW1, <-hp5, <-hp4, <-hp3];clear hW1 hp5 hp4 hp3
 go_wp2_with fail
 refine KT.out.mono ?_;rintro r w2 ⟨rfl,hw2⟩;rw[<-hw2];clear hw2 w2 KT;rcases b with _|_
 case false=>
  have F:Hid (iO n ⟨kind,src,dst,beacon,level,known⟩=false):=hd_ (by rw[WF.out];rfl);go_wp2;go_ret;exact⟨by rw[F.out];rfl,H1.out.drop.drop.drop⟩
 by_cases k1:kind=1
 ·subst k1
  obtain⟨b1,hb1⟩:=nm_ (in6 beacon 0 (aD n 0).beacon);have KB:=hd_ (tI W1 (v2:=v2) (v3:=v3) (v4:=.slice x4 5 c4) ((aN cP _ _).below N1.out H1.out.below lr_) hb1);obtain⟨b2,hb2⟩:=nm_ (decide (0<=level));obtain⟨b3,hb3⟩:=nm_ (decide (level<5));obtain⟨b4,hb4⟩:=nm_ ((known.length:Int)==0);have RES:Hid (iO n ⟨1,src,dst,beacon,level,known⟩=(b1&&(b2&&(b3&&b4)))):=hd_ (by
      rw[WF.out,if_pos rfl, <-hb1,hb2,hb3,hb4]
      unfold in6
      by_cases x:0<=level<;>by_cases y:level<5<;>by_cases z:known.length=0<;>simp[x,y,z]<;>omega)
  have g2:=hb2.symm;have g3:=hb3.symm;have g4:=hb4.symm;clear hb1 hb2 hb3 hb4 WF
  go_wp2_with fail
  refine KB.out.mono ?_;rintro r w2 ⟨rfl,hb⟩;have H2:=hd_ (H1.out.later hb);clear hb KB H1 a0 a1 a2 a3 d0 d1 d2 d3 d4 d5 t0 t1;obtain⟨d0,d1,d2,d3,d4,d5⟩:=H2.out.p1.cells6;refine aJx (a:=b1) (b:=b2) (c:=b3) (d:=b4) ?_ ?_ ?_ ?_ ?_
  all_goals
   first
    |(intro e0 e1 e2 e3;subst e0 e1 e2 e3)
    |(intro e0 e1 e2;subst e0 e1 e2)
    |(intro e0 e1;subst e0 e1)
    |(intro e0;subst e0)
   go_wp2;go_ret;exact⟨by rw[RES.out];first|rfl|simp,H2.out.drop.drop.drop⟩
 have gk1:(kind==1)=false:=by simpa using k1
 by_cases k2:kind=2
 ·subst k2
  obtain⟨b1,hb1⟩:=nm_ (beacon==0);obtain⟨b2,hb2⟩:=nm_ (level==0);obtain⟨b3,hb3⟩:=nm_ (eG n known);have KE:=hd_ (sD HN.out HS.out HFi.out W1 H1.out.p3 HR.out);rw[<-hb3]at KE;have RES:Hid (iO n ⟨2,src,dst,beacon,level,known⟩=(b1&&(b2&&b3))):=hd_ (by
      rw[WF.out,if_neg k1,if_pos rfl,hb1,hb2,hb3];rfl)
  have g1:=hb1.symm;have g2:=hb2.symm;clear hb1 hb2 hb3 WF;rcases b1 with _|_
  case false=>
   go_wp2;go_ret;exact⟨by rw[RES.out];rfl,H1.out.drop.drop.drop⟩
  rcases b2 with _|_
  case false=>
   go_wp2;go_ret;exact⟨by rw[RES.out];rfl,H1.out.drop.drop.drop⟩
  go_wp2_with fail
  refine KE.out.mono ?_;rintro r w2 ⟨rfl,hm2⟩;have H2:=hd_ hm2;clear hm2 KE;go_wp2;go_ret;exact⟨by rw[RES.out];rfl,H2.out.p1.drop.p1.drop.p1.drop⟩
 have gk2:(kind==2)=false:=by simpa using k2
 have F:Hid (iO n ⟨kind,src,dst,beacon,level,known⟩=false):=hd_ (by rw[WF.out,if_neg k1,if_neg k2];rfl);clear k1 k2;go_wp2;go_ret;exact⟨by rw[F.out];rfl,H1.out.drop.drop.drop⟩
end N
end Go.Proofs.YtcblbdpdbggkbaaGreat
namespace Go.Proofs.YtcblbdpdbggkbaaGreat
open _root_.Go.Proofs.Tryz
open Go.RowKit Go.Sort
namespace N
def plB (ls:List Bool) (k:Nat):Bool:= !(ls.getD k false) || (!(decide ((k:Int) / 5=(k:Int) % 5))&&lkP ls 25 ((k:Int) % 5) ((k:Int) / 5))
def gY (ls:List Bool):Bool:=decide (ls.length=25)&&(List.range 25).all (plB ls)
theorem aAj {ls:List Bool} {k:Nat} (hk:k<25) (h:plB ls k=false):gY ls=false:=by
 unfold gY;rw[lM (i:=k) (a:=k) (p:=plB ls) (by rw[List.getElem?_range hk]) h,Bool.and_false]
theorem aCo {ls:List Bool} (hl:ls.length=25) (h:∀k,k<25->plB ls k=true):gY ls=true:=by
 unfold gY;rw[decide_eq_true hl,List.all_eq_true.2 (fun k hk=>h k (List.mem_range.1 hk))];rfl
theorem aCC {ls:List Bool} (hl:ls.length≠25):gY ls=false:=by
 unfold gY;rw[decide_eq_false hl];rfl
theorem aC5 (w:World) {x:Option Addr} {c:Nat} {ls:List Bool} {f:List Nat} (h:qM TY w [.slice x ls.length c] ls f):
  Calls prog 79 #[.slice x ls.length c] w fun r w'=>r=.returned (.bool (gY ls))/\Below w.heap.size w w':=by
 obtain⟨n,hn⟩:=nm_ ls.length;rw[<-hn]at h ⊢
 by_cases h5:n=25
 case neg=>
  have F:Hid (gY ls=false):=hd_ (aCC o_);have g:((n:Int) != 25)=true:=by simpa using (show (n:Int)≠25 by omega)
  clear h hn h5;go_enter func79,ntmps79;go_wp2;go_ret;exact⟨by rw[F.out];rfl,Below.refl _ _⟩
 subst h5;have H1:=hd_ h;have HL:=hd_ hn.symm;clear h hn;have KL:=hd_ (aDs w H1.out);have g:(((25:Nat):Int) != 25)=false:=by decide
 go_enter func79,ntmps79
 go_wp2_with fail
 refine KL.out.mono ?_;rintro r w1 ⟨m,g0,rfl,hm,hg⟩;have H:=hd_ hm;have HG:=hd_ hg;have HB:=hd_ hm.below;clear hm hg KL g;go_wp2;go_loopw [14] (fun z wr=>∃k:Nat,k<=25/\z=.int .i64 (k:Int)/\M w.heap.size w wr [yO vX aBG m g0]/\(∀j,j<k->plB ls j=true)) (fun z _=>25 - (intOf z).toNat)
 case atStart=>exact⟨0,Nat.zero_le _,rfl,H.out,fun j hj=>absurd hj (Nat.not_lt_zero _)⟩
 case round=>
  clear H HB;obtain⟨k,hk,rfl,hm,hno⟩:=hrel;have H:=hd_ hm;have NO:=hd_ hno;clear hm hno
  by_cases hlt:k<25
  ·obtain⟨u,hu⟩:∃u,ls[k]? =some u:=⟨_,List.getElem?_eq_getElem (by rw[HL.out];exact hlt)⟩
   obtain⟨g1,rfl,_,c0⟩:=oK H1.out hu;have HU:Hid (plB ls k=(!u || (!(decide ((k:Int) / 5=(k:Int) % 5))&&lkP ls 25 ((k:Int) % 5) ((k:Int) / 5)))):=hd_ (by unfold plB;rw[List.getD_eq_getElem?_getD,hu];rfl);replace c0:=cell_later H.out.below c0;have KE:=hd_ (fun W=>aCu W k hlt)
   have EO:=hd_ (show vX ((k:Int) % 5,(k:Int) / 5)from⟨⟨by simp;omega,by simp;omega⟩,⟨by simp;omega,by simp;omega⟩⟩);have HK:=hd_ hlt;have k0:(0:Int)<=(k:Int):=o_;have k1:(k:Int)<25:=o_;clear hu
   go_wp2_with fail
   refine (KE.out _).mono ?_;rintro e w4 ⟨rfl,hb⟩;have H2:=hd_ ((H.out.later hb).alloc #[iv ((k:Int) / 5),iv ((k:Int) % 5)] 130);clear hb H KE c0;have NX:Hid (plB ls k=true->∀j,j<k+1->plB ls j=true):=hd_ fun h j hj=>by
    by_cases e:j<k
    ·exact NO.out j e
    ·obtain rfl:j=k:=o_
     exact h
   obtain⟨t,ht⟩:=nm_ (lkP ls 25 ((k:Int) % 5) ((k:Int) / 5));have LL:=aIC H2.out.p1 HG.out ((k:Int) % 5) ((k:Int) / 5) EO.out;rw[<-ht]at HU LL;clear ht;cases u with
   |false=>
    have NY:=hd_ (NX.out (by rw[HU.out];rfl));clear NX HU LL;exact zB5
   |true=>
    by_cases hq:(k:Int) / 5=(k:Int) % 5
    ·have F:Hid (gY ls=false):=hd_ (aAj HK.out (by rw[HU.out,decide_eq_true hq];rfl))
     have gq:((k:Int) / 5==(k:Int) % 5)=true:=by simpa using hq
     clear hq NX HU LL;exact zBw
    ·have gq:((k:Int) / 5==(k:Int) % 5)=false:=by simpa using hq
     have HQ:=hd_ hq;clear hq;cases t with
     |false=>
      have F:Hid (gY ls=false):=hd_ (aAj HK.out (by rw[HU.out];simp));clear NX HU;exact zBw
     |true=>
      have NY:=hd_ (NX.out (by rw[HU.out,decide_eq_false HQ.out];rfl));clear NX HU;exact zB5
  ·obtain rfl:k=25:=o_
   have F:Hid (gY ls=true):=hd_ (aCo HL.out NO.out);exact zBf
theorem aL1 {n:Nt} {k:Nat}:n.links.getD k false=fD n ((k:Int) / 5) ((k:Int) % 5):=by
 unfold fD
 congr 1
 omega
theorem aKr {n:Nt} {a b:Int} (ha:bA a) (hb:bA b):lkP n.links 25 a b=fD n a b:=by
 unfold lkP fD;unfold bA at ha hb;rw[decide_eq_true (by omega),Bool.true_and]
theorem aGd {n:Nt} {k:Nat} (hk:k<25):plB n.links k=(!(fD n ((k:Int) / 5) ((k:Int) % 5)) || (!(decide ((k:Int) / 5=(k:Int) % 5))&&fD n ((k:Int) % 5) ((k:Int) / 5))):=by
 unfold plB;rw[aL1,aKr (by unfold bA;omega) (by unfold bA;omega)]
theorem aKv {n:Nt} (h:aHm n):gY n.links=true:=by
 refine aCo h.links fun k hk=>?_
 have h1:bA ((k:Int) / 5):=by unfold bA;omega
 have h2:bA ((k:Int) % 5):=by unfold bA;omega
 rw[aGd hk]
 by_cases e:(k:Int) / 5=(k:Int) % 5
 ·rw[e,h.self _ h2];rfl
 ·rw[h.either _ _ h1 h2,decide_eq_false e]
  cases fD n ((k:Int) % 5) ((k:Int) / 5)<;>rfl
theorem aAN {n:Nt} (h:gY n.links=true):n.links.length=25/\∀k,k<25->plB n.links k=true:=by
 unfold gY at h;simp only[Bool.and_eq_true,decide_eq_true_eq,List.all_eq_true,List.mem_range]at h;exact h
theorem aGl {n:Nt} (h:gY n.links=true) {i:Int} (hi:bA i):fD n i i=false:=by
 unfold bA at hi;have:=(aAN h).2 (i * 5+i).toNat (by omega);rw[aGd (by omega)]at this;rw[show (((i * 5+i).toNat:Nat):Int) / 5=i by omega,show (((i * 5+i).toNat:Nat):Int) % 5=i by omega]at this;cases q:fD n i i with
 |false=>rfl
 |true=>rw[q]at this;simp at this
theorem zW {n:Nt} (h:gY n.links=true) {i j:Int} (hi:bA i) (hj:bA j) (q:fD n i j=true):fD n j i=true:=by
 unfold bA at hi hj;have:=(aAN h).2 (i * 5+j).toNat (by omega);rw[aGd (by omega)]at this;rw[show (((i * 5+j).toNat:Nat):Int) / 5=i by omega,show (((i * 5+j).toNat:Nat):Int) % 5=j by omega,q]at this;simp only[Bool.not_true,Bool.false_or,Bool.and_eq_true]at this;exact this.2
theorem aDU {n:Nt} (h:gY n.links=true) {i j:Int} (hi:bA i) (hj:bA j):fD n i j=fD n j i:=by
 cases q:fD n i j with
 |true=>exact (zW h hi hj q).symm
 |false=>
  cases r:fD n j i with
  |false=>rfl
  |true=>rw[zW h hj hi r]at q;cases q
theorem aHp {n:Nt} {i:Int}:jE (dF n i) (aD n i).born=(in6 (aD n i).born 1 20&&kY n i):=by
 unfold jE kY bZ
 rfl
theorem zZ {n:Nt}:kJ n 0=(aEz n 0&&decide ((aD n 0).beacon<=1000)):=by
 unfold kJ aEz in6;rw[if_pos rfl,if_pos rfl]
 by_cases a:0<=(aD n 0).beacon<;>by_cases b:(aD n 0).level=0<;>by_cases c:(aD n 0).up= -1<;>simp[a,b,c]
theorem yD {n:Nt} {i:Int} (hi:bA i) (h0:i≠0):kJ n i=aEz n i:=by
 unfold kJ aEz two;unfold bA at hi;rw[if_neg h0,if_neg h0];rw[Bool.eq_iff_iff]
 by_cases h:(aD n i).level=5
 ·rw[if_pos h,h]
  simp only[Bool.and_eq_true,cO,decide_eq_true_eq,beq_iff_eq]
  constructor
  ·rintro⟨a,b⟩
   exact⟨a,by omega,by simp[b],by omega,by omega⟩
  ·rintro⟨a,_,b,_⟩
   exact⟨a,by simpa using b⟩
 ·rw[if_neg h]
  simp only[Bool.and_eq_true,cO,decide_eq_true_eq]
  constructor
  ·rintro⟨a,b,c,⟨d,e⟩,f⟩
   exact⟨a,by omega,⟨fun q=>by omega,fun q=>absurd q h⟩,by omega,by omega⟩
  ·rintro⟨a,b,c,d,e⟩
   have:(aD n i).up≠ -1:=fun q=>h (c.1 q)
   exact⟨a,by omega,by omega,⟨by omega,by omega⟩,by omega⟩
structure OkI (n:Nt):Prop where
 nodes:n.nodes.length=5
 past:n.past.length=5
 links:gY n.links=true
 words:n.words.length<=24
 pasts:∀i:Nat,i<5->jE (dF n (i:Int)) (aD n (i:Int)).born=true
 hears:∀i:Nat,i<5->kJ n (i:Int)=true
 known:∀i:Nat,i<5->(eG n (aD n (i:Int)).known&&vZ n (i:Int))=true
 word:∀(i:Nat) (x:Wd),n.words[i]? =some x->iO n x=true
theorem aMM {n:Nt} (c:jW n=true):OkI n:=by
 have h:=vL.1 c;have nd:∀i:Nat,i<5->bA (i:Int):=fun i hi=>by unfold bA;omega
 refine⟨h.nodes,h.past,aKv h,h.words,fun i hi=>?_,fun i hi=>?_,fun i hi=>?_,fun i x hx=>xF.2 (h.word x (List.mem_of_getElem? hx))⟩
 ·rw[aHp,cO.2 (h.born _ (nd i hi)),xM.2 (h.pasts _ (nd i hi))];rfl
 ·by_cases e:i=0
  ·subst e
   rw[show ((0:Nat):Int)=0 from rfl,zZ,rK.2 (h.way 0 (nd 0 hi)),decide_eq_true h.beacon];rfl
  ·rw[yD (nd i hi) (by omega),rK.2 (h.way _ (nd i hi))]
 ·rw[lI.2 (h.known _ (nd i hi)),aAY.2 (h.own _ (nd i hi))];rfl
theorem aMC {n:Nt} (h:OkI n):jW n=true:=by
 refine vL.2 ?_;have nd:∀i:Int,bA i->∃k:Nat,k<5/\i=k:=fun i hi=>by unfold bA at hi;exact⟨i.toNat,by omega,by omega⟩
 have hp:∀i,bA i->in6 (aD n i).born 1 20=true/\kY n i=true:=fun i hi=>by
  obtain⟨k,hk,rfl⟩:=nd i hi;have:=h.pasts k hk;rw[aHp,Bool.and_eq_true]at this;exact this
 have h0:=h.hears 0 (by omega);rw[show ((0:Nat):Int)=0 from rfl,zZ,Bool.and_eq_true,decide_eq_true_eq]at h0;refine⟨h.nodes,h.past,(aAN h.links).1,h.words,fun i hi=>cO.1 (hp i hi).1,fun i hi=>xM.1 (hp i hi).2,fun i hi=>aGl h.links hi,fun i j hi hj=>aDU h.links hi hj,fun i hi=>?_,fun i hi=>?_,fun i hi=>?_,fun x hx=>?_,h0.2⟩
 ·obtain⟨k,hk,rfl⟩:=nd i hi
  have:=h.known k hk;rw[Bool.and_eq_true]at this;exact aAY.1 this.2
 ·obtain⟨k,hk,rfl⟩:=nd i hi
  have:=h.known k hk;rw[Bool.and_eq_true]at this;exact lI.1 this.1
 ·by_cases e:i=0
  ·rw[e];exact rK.1 h0.1
  ·obtain⟨k,hk,rfl⟩:=nd i hi
   have:=h.hears k hk;rw[yD hi e]at this;exact rK.1 this
 ·obtain⟨i,hi⟩:=List.getElem?_of_mem hx
  exact xF.1 (h.word i x hi)
theorem sE {n:Nt} (h:OkI n->False):jW n=false:=by
 rw[Bool.eq_false_iff];exact fun c=>h (aMM c)
end N
end Go.Proofs.YtcblbdpdbggkbaaGreat
namespace Go.Proofs.YtcblbdpdbggkbaaGreat
open _root_.Go.Proofs.Tryz
open Go.RowKit Go.Sort Go.ChangeMaps
namespace N
theorem rH {rs:List (List Int)} {born:Int} (h:jE rs born=true):1<=born/\(rs.length:Int)=born+1/\rs.all lA=true:=by
 unfold jE at h;simp only[Bool.and_eq_true,cO,decide_eq_true_eq]at h;exact⟨h.1.1,h.2.1,h.2.2.2⟩
theorem aFO (w:World) {x1 x2 x3 x4:Option Addr} {k1 c1 k2 c2 k3 c3 k4 c4:Nat} {n:Nt} (hn:jF w (.slice x1 k1 c1) (.slice x2 k2 c2) (.slice x3 k3 c3) (.slice x4 k4 c4) n):
  Calls prog 22 #[.agg #[.slice x1 k1 c1,.slice x2 k2 c2,.slice x3 k3 c3,.slice x4 k4 c4]] w fun r w'=>r=.returned (.bool (jW n))/\Below w.heap.size w w':=by
 obtain⟨f1,n1⟩:=hn.nodes;obtain⟨f2,n2⟩:=hn.links;obtain⟨f3,n3⟩:=hn.words;obtain⟨f4,n4⟩:=hn.past;have e1:=hd_ (show k1=n.nodes.length from (aK n1).1);have e2:=hd_ (show k2=n.links.length from (aK n2).1);have e3:=hd_ (show k3=n.words.length from (aK n3).1);have e4:=hd_ (show k4=n.past.length from (aK n4).1)
 have h0:=(M.start w).alloc #[.slice x1 k1 c1,.slice x2 k2 c2,.slice x3 k3 c3,.slice x4 k4 c4] 30;obtain⟨w1,hw1⟩:=nm_ (w.alloc (.cells #[.slice x1 k1 c1,.slice x2 k2 c2,.slice x3 k3 c3,.slice x4 k4 c4] 30));obtain⟨p1,hp1⟩:=nm_ w.heap.size;rw[<-hw1]at h0;have H:=hd_ (show M w.heap.size w w1 [bO p1 30 #[.slice x1 k1 c1,.slice x2 k2 c2,.slice x3 k3 c3,.slice x4 k4 c4]] by rw[hp1];exact h0)
 have HN:=hd_ hn;have N1:=hd_ n1;have N2:=hd_ n2;have N3:=hd_ n3;have N4:=hd_ n4;clear h0 hn n1 n2 n3 n4;go_enter func22,ntmps22;go_upto_region 1 with fail
 rw[<-hw1, <-hp1];clear hw1 hp1;obtain⟨a0,a1,a2,a3⟩:=H.out.cells4
 by_cases l1:k1=5
 case neg=>
  have F:=hd_ (sE (n:=n) fun h=>l1 (e1.out.trans h.nodes));have g:((k1:Int) != 5)=true:=by simpa using (show (k1:Int)≠5 by omega)
  clear l1;exact zBf
 subst l1;have g1:(((5:Nat):Int) != 5)=false:=by decide
 by_cases l4:k4=5
 case neg=>
  have F:=hd_ (sE (n:=n) fun h=>l4 (e4.out.trans h.past));have g:((k4:Int) != 5)=true:=by simpa using (show (k4:Int)≠5 by omega)
  clear l4;exact zBf
 subst l4;obtain⟨q2,hq2⟩:=nm_ (gY n.links);have KL:=hd_ (aC5 w1 (x:=x2) (c:=c2) (ls:=n.links) (f:=f2) (by rw[<-e2.out];exact (aN (aO _) _ _).below N2.out H.out.below lr_));rw[<-hq2, <-e2.out]at KL;have Q2:=hd_ hq2;clear hq2
 go_wp2_with fail
 refine KL.out.mono ?_;rintro r w2 ⟨rfl,hb⟩;have H2:=hd_ (H.out.later hb);clear hb KL H a0 a1 a2 a3;obtain⟨a0,a1,a2,a3⟩:=H2.out.cells4;rcases q2 with _|_
 case false=>
  have F:=hd_ (sE (n:=n) fun h=>absurd h.links (by rw[<-Q2.out];simp));exact zBw
 by_cases l3:24<k3
 ·have F:=hd_ (sE (n:=n) fun h=>absurd h.words (by rw[<-e3.out];omega))
  have g:decide ((24:Int)<(k3:Int))=true:=decide_eq_true o_;clear l3;exact zBw
 have g3:decide ((24:Int)<(k3:Int))=false:=decide_eq_false o_;have L3:=hd_ l3;clear l3;go_wp2;clear g1 g3 a0 a1 a2 a3;go_loopw [34] (fun z wr=>∃j:Nat,j<=5/\z=.int .i64 (j:Int)/\(∀a:Nat,a<j->jE (dF n (a:Int)) (aD n (a:Int)).born=true/\kJ n (a:Int)=true)/\M w.heap.size w wr [bO p1 30 #[.slice x1 5 c1,.slice x2 k2 c2,.slice x3 k3 c3,.slice x4 5 c4]]) (fun z _=>5 - (intOf z).toNat)
 case atStart=>exact⟨0,Nat.zero_le _,rfl,fun a h=>absurd h (Nat.not_lt_zero _),H2.out⟩
 case round=>
  clear H2;obtain⟨j,hj,rfl,hno,hm⟩:=hrel;have NO:=hd_ hno;have H:=hd_ hm;clear hno hm;obtain⟨a0,a1,a2,a3⟩:=H.out.cells4
  by_cases hlt:j<5
  ·obtain⟨nd,hnd⟩:∃nd,n.nodes[j]? =some nd:=⟨_,List.getElem?_eq_getElem (by rw[<-e1.out];exact hlt)⟩
   obtain⟨rs,hrs⟩:∃rs,n.past[j]? =some rs:=⟨_,List.getElem?_eq_getElem (by rw[<-e4.out];exact hlt)⟩
   have eN:aD n (j:Int)=nd:=by unfold aD;rw[List.getD_eq_getElem?_getD,Int.toNat_natCast,hnd];rfl
   have eR:dF n (j:Int)=rs:=by unfold dF;rw[List.getD_eq_getElem?_getD,Int.toNat_natCast,hrs];rfl
   obtain⟨g1,xk,ck,fk,rfl,_,_,_,_,_,b0,_⟩:=gM N1.out hnd;obtain⟨g4,xr,cr,fr,rfl,_,_,rr,_,_,y0⟩:=mS N4.out hrs;replace b0:=cell_later H.out.below b0;replace y0:=cell_later H.out.below y0;have KP:=hd_ (aFg wr (cA.below rr H.out.below lr_) nd.born)
   have KH:=hd_ (aDp wr (v2:=.slice x2 k2 c2) (v3:=.slice x3 k3 c3) (v4:=.slice (some ⟨g4,0,none⟩) 5 c4) ((aN cP _ _).below N1.out H.out.below lr_) hlt);obtain⟨q1,hq1⟩:=nm_ (jE rs nd.born);obtain⟨q2,hq2⟩:=nm_ (kJ n (j:Int));rw[<-hq1]at KP;rw[<-hq2]at KH;have Q1:Hid (jE (dF n (j:Int)) (aD n (j:Int)).born=q1):=hd_ (by rw[eN,eR,hq1]);have Q2:=hd_ hq2
   have HJ:=hd_ hlt;have k0:(0:Int)<=(j:Int):=o_;have k5:(j:Int)<5:=o_;clear hq1 hq2 eN eR hnd hrs rr
   go_wp2_with fail
   refine KP.out.mono ?_;rintro r w3 ⟨rfl,hw3⟩;rw[hw3];clear hw3 w3 KP;cases q1 with
   |false=>
    have F:=hd_ (sE (n:=n) fun h=>absurd (h.pasts j HJ.out) (by rw[Q1.out];simp));exact zBf
   |true=>
    go_wp2_with fail
    refine KH.out.mono ?_;rintro r w3 ⟨rfl,hb⟩;have H3:=hd_ (H.out.later hb);clear hb KH H;cases q2 with
    |false=>
     have F:=hd_ (sE (n:=n) fun h=>absurd (h.hears j HJ.out) (by rw[<-Q2.out];simp));exact zBZ
    |true=>
     have NO2:Hid (∀a:Nat,a<j+1->jE (dF n (a:Int)) (aD n (a:Int)).born=true/\kJ n (a:Int)=true):=hd_ fun a ha=>by
      by_cases e:a<j
      ·exact NO.out a e
      ·obtain rfl:a=j:=o_
       exact⟨Q1.out,Q2.out.symm⟩
     go_wp2;go_roundw
     case rel=>exact⟨j+1,o_,gn_,NO2.out,H3.out⟩
     case measure=>simp[intOf];omega
  ·obtain rfl:j=5:=o_
   have hs:oC n:=⟨e1.out.symm,e4.out.symm,fun i hi=>(rH (NO.out i hi).1).2.1⟩
   have hf:nY n:=fun i hi=>(rH (NO.out i hi).1).2.2
   have hb:∀i:Nat,i<5->1<=(aD n (i:Int)).born:=fun i hi=>(rH (NO.out i hi).1).1
   have h5:=aJW H.out (cC n);obtain⟨m,hm⟩:=nm_ wr.heap.size;obtain⟨W4,hW4⟩:=nm_ (wr.alloc (.map #[] 0));rw[<-hW4, <-hm]at h5;have h6:=h5.alloc #[.slice x4 5 c4,.map (some m)] 120;obtain⟨p5,hp5⟩:=nm_ W4.heap.size;obtain⟨W5,hW5⟩:=nm_ (W4.alloc (.cells #[.slice x4 5 c4,.map (some m)] 120));rw[<-hW5, <-hp5]at h6;have H6:=hd_ h6.p1
   have KK:=hd_ (fun (W:World) (l:List Ch) (h:M w.heap.size w W (kR m (cC n)::l)) (i:Nat) (hi:i<5)=>aDC HN.out hs hf hb W h hi);have KWD:=hd_ (fun (W:World) (l:List Ch) (h:M w.heap.size w W (kR m (cC n)::l))=>aD3 HN.out hs hf W h);have hmm:=@run_makeMap prog;have hsz:W4.heap.size=wr.heap.size+1:=by rw[hW4];simp
   have p5e:p5=m+1:=by rw[hp5,hsz,hm]
   clear h5 h6 hs hf hb;simp only[Int.cast_ofNat_Int];go_upto_region 10 with fail
   rw[<-hW4, <-hm, <-hW5, <-p5e];clear hW4 hm hW5 hsz hp5 hmm H a0 a1 a2 a3 p5e;obtain⟨t0,t1⟩:=H6.out.p1.cells2;obtain⟨a0,a1,a2,a3⟩:=H6.out.p2.cells4;go_wp2;clear t0 t1 a0 a1 a2 a3
   go_loopw [62] (fun z wr=>∃j:Nat,j<=5/\z=.int .i64 (j:Int)/\(∀a:Nat,a<j->(eG n (aD n (a:Int)).known&&vZ n (a:Int))=true)/\M w.heap.size w wr (kR m (cC n)::bO p5 120 #[.slice x4 5 c4,.map (some m)]::[bO p1 30 #[.slice x1 5 c1,.slice x2 k2 c2,.slice x3 k3 c3,.slice x4 5 c4]])) (fun z _=>5 - (intOf z).toNat)
   case atStart=>exact⟨0,Nat.zero_le _,rfl,fun a h=>absurd h (Nat.not_lt_zero _),H6.out⟩
   case round=>
    clear H6;obtain⟨j,hj,rfl,hno,hm⟩:=hrel;have NO3:=hd_ hno;have H:=hd_ hm;clear hno hm;obtain⟨t0,t1⟩:=H.out.p1.cells2;obtain⟨a0,a1,a2,a3⟩:=H.out.p2.cells4
    by_cases hlt:j<5
    ·obtain⟨q1,hq1⟩:=nm_ (eG n (aD n (j:Int)).known&&vZ n (j:Int))
     have KP:=hd_ (KK.out _ _ H.out j hlt);rw[<-hq1]at KP;have Q1:=hd_ hq1;have HJ:=hd_ hlt;have k0:(0:Int)<=(j:Int):=o_;have k5:(j:Int)<5:=o_;clear hq1
     go_wp2_with fail
     refine KP.out.mono ?_;rintro r w3 ⟨rfl,hm3⟩;have H3:=hd_ hm3;clear hm3 H KP t0 t1 a0 a1 a2 a3;cases q1 with
     |false=>
      have F:=hd_ (sE (n:=n) fun h=>absurd (h.known j HJ.out) (by rw[<-Q1.out];simp));exact zBZ
     |true=>
      have NO2:Hid (∀a:Nat,a<j+1->(eG n (aD n (a:Int)).known&&vZ n (a:Int))=true):=hd_ fun a ha=>by
       by_cases e:a<j
       ·exact NO3.out a e
       ·obtain rfl:a=j:=o_
        exact Q1.out.symm
      go_wp2;go_roundw
      case rel=>exact⟨j+1,o_,gn_,NO2.out,H3.out⟩
      case measure=>simp[intOf];omega
    ·obtain rfl:j=5:=o_
     simp only[Int.cast_ofNat_Int];go_wp2;clear t0 t1 a0 a1 a2 a3 KK;have M3:=L3.out;go_loopw [74] (fun z wr=>∃j:Nat,j<=k3/\z=.int .i64 (j:Int)/\(∀(a:Nat) (x:Wd),a<j->n.words[a]? =some x->iO n x=true)/\M w.heap.size w wr (kR m (cC n)::bO p5 120 #[.slice x4 5 c4,.map (some m)]::[bO p1 30 #[.slice x1 5 c1,.slice x2 k2 c2,.slice x3 k3 c3,.slice x4 5 c4]])) (fun z _=>k3 - (intOf z).toNat)
     case atStart=>exact⟨0,Nat.zero_le _,rfl,fun a x h=>absurd h (Nat.not_lt_zero _),H.out⟩
     case round=>
      clear H;obtain⟨j,hj,rfl,hno,hm⟩:=hrel;have NO4:=hd_ hno;have H:=hd_ hm;clear hno hm;obtain⟨a0,a1,a2,a3⟩:=H.out.p2.cells4
      by_cases hlt:j<k3
      ·obtain⟨x,hx⟩:∃x,n.words[j]? =some x:=⟨_,List.getElem?_eq_getElem (by rw[<-e3.out];exact hlt)⟩
       obtain⟨g6,xk,ck,fk,rfl,_,_,rk,_,_,b0,b1,b2,b3,b4,b5⟩:=uP N3.out hx;replace b0:=cell_later H.out.below b0;replace b1:=cell_later H.out.below b1;replace b2:=cell_later H.out.below b2;replace b3:=cell_later H.out.below b3;replace b4:=cell_later H.out.below b4;replace b5:=cell_later H.out.below b5
       have h2:=H.out.alloc #[iv x.kind,iv x.src,iv x.dst,iv x.beacon,iv x.level,.slice xk x.known.length ck] 123;obtain⟨p8,hp8⟩:=nm_ wr.heap.size;obtain⟨W2,hW2⟩:=nm_ (wr.alloc (.cells #[iv x.kind,iv x.src,iv x.dst,iv x.beacon,iv x.level,.slice xk x.known.length ck] 123));rw[<-hW2, <-hp8]at h2;have H2:=hd_ h2.p1;obtain⟨q1,hq1⟩:=nm_ (iO n x);have KP:=hd_ (KWD.out W2 _ H2.out x rk)
       rw[<-hq1]at KP;have Q1:=hd_ hq1;have HX:=hd_ hx;have k0:(0:Int)<=(j:Int):=o_;have k5:(j:Int)<(k3:Int):=o_;clear hq1 hx h2 rk H;go_upto_region 19 with fail
       rw[<-hW2, <-hp8];clear hW2 hp8 a0 a1 a2 a3 b0 b1 b2 b3 b4 b5;obtain⟨d0,d1,d2,d3,d4,d5⟩:=H2.out.p1.cells6;obtain⟨t0,t1⟩:=H2.out.p2.cells2;obtain⟨a0,a1,a2,a3⟩:=H2.out.p3.cells4
       go_wp2_with fail
       refine KP.out.mono ?_;rintro r w3 ⟨rfl,hm3⟩;have H3:=hd_ hm3;clear hm3 H2 KP d0 d1 d2 d3 d4 d5 t0 t1 a0 a1 a2 a3;cases q1 with
       |false=>
        have F:=hd_ (sE (n:=n) fun h=>absurd (h.word j x HX.out) (by rw[<-Q1.out];simp));exact zBZ
       |true=>
        have NO2:Hid (∀(a:Nat) (y:Wd),a<j+1->n.words[a]? =some y->iO n y=true):=hd_ fun a y ha hy=>by
         by_cases e:a<j
         ·exact NO4.out a y e hy
         ·obtain rfl:a=j:=o_
          rw[HX.out]at hy;cases hy;exact Q1.out.symm
        go_wp2;go_roundw
        case rel=>exact⟨j+1,o_,gn_,NO2.out,H3.out.p1.drop⟩
        case measure=>simp[intOf];omega
      ·obtain rfl:j=k3:=o_
       have F:Hid (jW n=true):=hd_ (aMC ⟨e1.out.symm,e4.out.symm,Q2.out.symm,by rw[<-e3.out];omega,fun i hi=>(NO.out i hi).1,fun i hi=>(NO.out i hi).2,NO3.out,fun i x hx=>NO4.out i x (by have:=(List.getElem?_eq_some_iff.1 hx).1;rw[<-e3.out]at this;exact this) hx⟩);exact zBf
end N
end Go.Proofs.YtcblbdpdbggkbaaGreat
namespace Go.Proofs.YtcblbdpdbggkbaaGreat
open _root_.Go.Proofs.Tryz
open Go.RowKit Go.Sort Go.Deep
namespace N
def aMU (v1 v2 v3 v4:Value) (n:Nt):Ch:=(tX (T:=TY)).ch [v1,v2,v3,v4] n
section
variable {B:Nat} {w w0 w':World} {l:List Ch} {v1 v2 v3 v4:Value} {n:Nt}
theorem _root_.Go.Proofs.YtcblbdpdbggkbaaGreat.M.gotNet (h:M B w0 w l) (hU:M w.heap.size w w' [mJ v1 n.nodes,lL v2 n.links,mN v3 n.words,pQ v4 n.past]):M B w0 w' (aMU v1 v2 v3 v4 n::l):=by
 obtain⟨fp,s⟩:=hU.net;exact h.got tX hU.below s
theorem _root_.Go.Proofs.YtcblbdpdbggkbaaGreat.M.netR' (h:M B w0 w (aMU v1 v2 v3 v4 n::l)):∃f,aIo TY w [v1,v2,v3,v4] n f:=let ⟨f,hf,_⟩:=h.first;⟨f,hf⟩
theorem _root_.Go.Proofs.YtcblbdpdbggkbaaGreat.M.netIs (h:M B w0 w (aMU v1 v2 v3 v4 n::l)):jF w v1 v2 v3 v4 n:=by
 obtain⟨f,hf⟩:=h.netR';obtain⟨_,_,_,_,f1,f2,f3,f4,e,_,h1,h2,h3,h4⟩:=pO.1 hf;cases e;exact⟨⟨f1,h1⟩,⟨f2,h2⟩,⟨f3,h3⟩,f4,h4⟩
end
theorem aIL.n {n:Nt} (h:aIL n):aM0 n:=⟨fun x hx=>(h.node x hx).sums,fun x hx=>(h.word x hx).sums⟩
end N
end Go.Proofs.YtcblbdpdbggkbaaGreat
namespace Go.Proofs.YtcblbdpdbggkbaaGreat.N
open _root_.Go.Proofs.Tryz
open Go.RowKit Go.Sort
def cD {α:Type} (c:α->Int) (l:List α):Int:=(l.map c).sum
def mkL {α:Type} (f:α->Int->α) (c:α->Int):List α->Int->List α
 | [],_=>[]
 |x::xs,k=>f x k::mkL f c xs (k+c x)
section
variable {α:Type} {f:α->Int->α} {c:α->Int}
theorem jN:cD c []=0:=rfl
theorem nD (x:α) (xs:List α):cD c (x::xs)=c x+cD c xs:=by unfold cD;rw[List.map_cons,List.sum_cons]
theorem aEJ (a b:List α):cD c (a++b)=cD c a+cD c b:=by unfold cD;rw[List.map_append,List.sum_append]
theorem gO (h:∀x,0<=c x):∀l:List α,0<=cD c l
 | []=>Int.le_refl _
 |x::xs=>by have:=gO h xs;have:=h x;rw[nD];omega
theorem iY {l:List α} {i:Nat} {x:α} (h:l[i]? =some x):cD c (l.take (i+1))=cD c (l.take i)+c x:=by
 rw[List.take_add_one,h,aEJ];show _+cD c [x]=_
 rw[nD,jN,Int.add_zero]
theorem mY (h:∀x,0<=c x) (l:List α) (i:Nat):cD c (l.take i)<=cD c l:=by
 have e:cD c l=cD c (l.take i)+cD c (l.drop i):=by rw[<-aEJ,List.take_append_drop]
 have:=gO h (l.drop i);omega
theorem aDM:∀(l:List α) (k:Int),(mkL f c l k).length=l.length
 | [],_=>rfl
 |x::xs,k=>by show (mkL f c xs _).length+1=xs.length+1;rw[aDM xs]
theorem aHc:∀(a b:List α) (k:Int),mkL f c (a++b) k=mkL f c a k++mkL f c b (k+cD c a)
 | [],b,k=>by rw[jN,Int.add_zero];rfl
 |x::xs,b,k=>by
  show f x k::mkL f c (xs++b) (k+c x)=f x k::(mkL f c xs (k+c x)++_)
  rw[aHc xs b,nD,Int.add_assoc]
theorem aLh:∀{l:List α} {i:Nat} {x:α},l[i]? =some x->∀k,(mkL f c l k)[i]? =some (f x (k+cD c (l.take i)))
 | [],i,x,h,k=>by simp at h
 |y::ys,0,x,h,k=>by
  have:y=x:=by simpa using h
  subst this;show some (f y k)=_
  rw[List.take_zero,jN,Int.add_zero]
 |y::ys,i+1,x,h,k=>by
  have h':ys[i]? =some x:=by simpa using h
  show (mkL f c ys (k+c y))[i]? =_
  rw[aLh h',List.take_succ_cons,nD,Int.add_assoc]
theorem sT {l:List α} {i:Nat} {x:α} (h:l[i]? =some x) (k:Int):(mkL f c (l.take i) k++l.drop i).set i (f x (k+cD c (l.take i)))=mkL f c (l.take (i+1)) k++l.drop (i+1)/\(mkL f c (l.take i) k++l.drop i)[i]? =some x:=by
 obtain⟨hi,rfl⟩:=List.getElem?_eq_some_iff.1 h;have ln:(mkL f c (l.take i) k).length=i:=by rw[aDM,List.length_take];omega
 have d:l.drop i=l[i]::l.drop (i+1):=List.drop_eq_getElem_cons hi
 constructor
 ·rw[d,List.set_append_right _ _ o_,ln,Nat.sub_self,List.set_cons_zero,List.take_add_one,h,aHc]
  show _=(_++[f l[i] _])++_
  rw[List.append_assoc];rfl
 ·rw[List.getElem?_append_right o_,ln,Nat.sub_self,d];rfl
end
def gL (l:List Int):Int:=l.length
def mkI (l:List Int) (k:Int):List Int:=(List.range l.length).map fun (i:Nat)=>k+(i:Int)
def lR (l:List (Int × Int)) (k:Int):List (Int × Int):=(List.range l.length).map fun (i:Nat)=>(k+2 * (i:Int),k+2 * (i:Int)+1)
def mkB (l:List Bool) (k:Int):List Bool:=(List.range l.length).map fun (i:Nat)=>decide ((k+(i:Int)).tmod 3=0)
def eF (rs:List (List Int)):Int:=cD gL rs
def mkR (rs:List (List Int)) (k:Int):List (List Int):=mkL mkI gL rs k
def aDJ (s:Sm):Int:=eF s.rs+s.zs.length+2 * s.ps.length+2+2 * s.ks.length+1
def mkS (s:Sm) (k:Int):Sm:=
 let k1:=k+eF s.rs
 let k2:=k1+s.zs.length
 let k3:=k2+2 * s.ps.length
 let k4:=k3+2
 let k5:=k4+2 * s.ks.length
 ⟨mkR s.rs k,mkI s.zs k1,lR s.ps k2,k3,k3+1,lR s.ks k4,k5⟩
def uD (e:En):Int:=3+aDJ e.s
def mkE (e:En) (k:Int):En:=⟨k,k+1,k+2,mkS e.s (k+3)⟩
def rY (es:List En):Int:=cD uD es
def mkK (es:List En) (k:Int):List En:=mkL mkE uD es k
def jO (x:Nd):Int:=1+rY x.known+3
def mkN (x:Nd) (k:Int):Nd:=⟨k,mkK x.known (k+1),k+1+rY x.known,k+1+rY x.known+1,k+1+rY x.known+2⟩
def kT (x:Wd):Int:=5+rY x.known
def mkW (x:Wd) (k:Int):Wd:=⟨k,k+1,k+2,k+3,k+4,mkK x.known (k+5)⟩
def aMV (ps:List (List (List Int))):Int:=cD eF ps
def aF1 (ps:List (List (List Int))) (k:Int):List (List (List Int)):=mkL mkR eF ps k
def tL (n:Nt):Int:=cD jO n.nodes+n.links.length+cD kT n.words+aMV n.past
def aNp (n:Nt) (k:Int):Nt:=
 let k1:=k+cD jO n.nodes
 let k2:=k1+n.links.length
 let k3:=k2+cD kT n.words
 ⟨mkL mkN jO n.nodes k,mkB n.links k1,mkL mkW kT n.words k2,aF1 n.past k3⟩
theorem oL (l:List Int):0<=gL l:=Int.natCast_nonneg _
theorem iH (rs:List (List Int)):0<=eF rs:=gO oL rs
theorem aMe (s:Sm):0<=aDJ s:=by have:=iH s.rs;unfold aDJ;omega
theorem aDR (e:En):0<=uD e:=by have:=aMe e.s;unfold uD;omega
theorem yZ (es:List En):0<=rY es:=gO aDR es
theorem zD (x:Nd):0<=jO x:=by have:=yZ x.known;unfold jO;omega
theorem yW (x:Wd):0<=kT x:=by have:=yZ x.known;unfold kT;omega
theorem aMd (ps:List (List (List Int))):0<=aMV ps:=gO iH ps
end Go.Proofs.YtcblbdpdbggkbaaGreat.N
namespace Go.Proofs.YtcblbdpdbggkbaaGreat
open _root_.Go.Proofs.Tryz
open Go.RowKit Go.Sort
namespace N
variable {B:Nat} {w0 w:World} {l:List Ch} {v:Value} {k:Int}
theorem zI {w w':World} {v:Value} (h:w.grownBy w' v.ownBlock):dZ (fun b=>b ∈ v.ownBlock.toList) w w':=by
 cases e:v.ownBlock with
 |none=>rw[e]at h;exact⟨h.1,h.2,h.3,h.4,fun b hb _=>h.5 b hb (by simp)⟩
 |some g=>rw[e]at h;exact dZ.of_grown h (by simp)
def rS (v:Value) (ps:List (Int × Int)):Ch:=kN.ch [v] ps
def sO (v:Value) (ps:List (Int × Int)):Ch:=kM.ch [v] ps
theorem aGz (w:World) (x:Option Addr) (c:Nat) (k:Int):Calls prog 53 #[.slice x 0 c,iv k] w fun r w'=>r=.returned (iv k)/\w=w':=by
 go_enter func53,ntmps53;exact zAJ
theorem aJT {zs:List Int} (h:M B w0 w (tJ v zs::l)) (hk:0<=k) (hc:k+gL zs<=200000000):
  Calls prog 53 #[v,iv k] w fun r w'=>r=.returned (iv (k+gL zs))/\M B w0 w' (tJ v (mkI zs k)::l):=by
 have hn:(zs.length:Int)<=200000000:=by unfold gL at hc;omega
 obtain⟨f,hf,_⟩:=h.first;obtain⟨v',e,_,o⟩:=iT hf;cases e
 by_cases hz:zs=[]
 ·obtain⟨x,c,rfl,_⟩:=lC hf
  subst hz;refine (aGz w x c k).mono ?_;rintro r w' ⟨rfl,rfl⟩;exact⟨by rw[show gL []=0 from rfl,Int.add_zero],h⟩
 obtain⟨o,_⟩:=o hz;have hk2:k<=200000000:=by have:=oL zs;omega
 refine (aCE w 0 v zs k o o_ hk o_).mono ?_;rintro r w' ⟨rfl,o',hg⟩;refine⟨rfl,h.turn fun f hf nd lo=>?_⟩;obtain⟨_,e,_,q⟩:=iT hf;cases e;obtain⟨_,rfl⟩:=q hz;exact⟨zI hg,_,zU o',nd,fun b hb=>.inl hb⟩
theorem aCY {zs:List Int} (h:M B w0 w (tJ v zs::l)) (hk:0<=k) (hc:k+gL zs<=100000000):
  Calls prog 53 #[v,iv k] w fun r w'=>r=.returned (iv (k+gL zs))/\M B w0 w' (tJ v (mkI zs k)::l):=aJT h hk o_
theorem aG4 (w:World) (x:Option Addr) (c:Nat) (k:Int):Calls prog 130 #[.slice x 0 c,iv k] w fun r w'=>r=.returned (iv k)/\w=w':=by
 go_enter func130,ntmps130;exact zAJ
theorem aHs {ps:List (Int × Int)} (h:M B w0 w (rS v ps::l)) (hk:0<=k) (hc:k+2 * (ps.length:Int)<=100000000):
  Calls prog 130 #[v,iv k] w fun r w'=>r=.returned (iv (k+2 * (ps.length:Int)))/\M B w0 w' (rS v (lR ps k)::l):=by
 obtain⟨f,hf,_⟩:=h.first;obtain⟨v',e,_,o⟩:=tD hf;cases e
 by_cases hz:ps=[]
 ·obtain⟨x,c,rfl,_⟩:=lC hf
  subst hz;refine (aG4 w x c k).mono ?_;rintro r w' ⟨rfl,rfl⟩;exact⟨by simp,h⟩
 obtain⟨o,_⟩:=o hz;refine (T.aBs w 0 v ps k o o_ hk o_).mono ?_;rintro r w' ⟨rfl,o',hg⟩;refine⟨rfl,h.turn fun f hf nd lo=>?_⟩;obtain⟨_,e,_,q⟩:=tD hf;cases e;obtain⟨_,rfl⟩:=q hz;exact⟨zI hg,_,aB4 o',nd,fun b hb=>.inl hb⟩
theorem aDX (w:World) (x:Option Addr) (c:Nat) (k:Int):Calls prog 131 #[.slice x 0 c,iv k] w fun r w'=>r=.returned (iv k)/\w=w':=by
 go_enter func131,ntmps131;exact zAJ
theorem aD7 {ps:List (Int × Int)} (h:M B w0 w (sO v ps::l)) (hk:0<=k) (hc:k+2 * (ps.length:Int)<=100000000):
  Calls prog 131 #[v,iv k] w fun r w'=>r=.returned (iv (k+2 * (ps.length:Int)))/\M B w0 w' (sO v (lR ps k)::l):=by
 obtain⟨f,hf,_⟩:=h.first;obtain⟨v',e,_,o⟩:=sX hf;cases e
 by_cases hz:ps=[]
 ·obtain⟨x,c,rfl,_⟩:=lC hf
  subst hz;refine (aDX w x c k).mono ?_;rintro r w' ⟨rfl,rfl⟩;exact⟨by simp,h⟩
 obtain⟨o,_⟩:=o hz;refine (K.aBl w 0 v ps k o o_ hk o_).mono ?_;rintro r w' ⟨rfl,o',hg⟩;refine⟨rfl,h.turn fun f hf nd lo=>?_⟩;obtain⟨_,e,_,q⟩:=sX hf;cases e;obtain⟨_,rfl⟩:=q hz;exact⟨zI hg,_,aCg o',nd,fun b hb=>.inl hb⟩
theorem aAF {xs:List (List Int)} (h:M B w0 w (oG v xs::l)) (hk:0<=k) (hc:k+cD gL xs<=100000000):
  Calls prog 129 #[v,iv k] w fun r w'=>r=.returned (iv (k+cD gL xs))/\M B w0 w' (oG v (mkL mkI gL xs k)::l):=by
 obtain⟨x,n,c,rfl,hn,hm⟩:∃x n c,v=.slice x n c/\n=xs.length/\n<=maxLen:=by obtain⟨f,hf,_⟩:=h.first;obtain⟨_,_,e,q1,q2⟩:=aP hf;exact⟨_,_,_,e,rfl,Nat.le_trans q1 q2⟩
 unfold maxLen at hm;have HC:=hd_ (And.intro hk hc);have HN:=hd_ hn;have H:=hd_ h;clear h hk hc hn;go_enter func129,ntmps129;go_wp2;go_loopw [1,5] (fun q i wr=>∃j:Nat,j<=n/\i=.int .i64 (j:Int)/\q=.int .i64 (k+cD gL (xs.take j))/\M B w0 wr (oG (.slice x n c) (mkL mkI gL (xs.take j) k++xs.drop j)::l)) (fun _ i _=>n - (intOf i).toNat)
 case atStart=>exact⟨0,Nat.zero_le _,rfl,by rw[List.take_zero,jN,Int.add_zero],H.out⟩
 case round=>
  clear H;obtain⟨j,hj,rfl,rfl,h⟩:=hrel;obtain⟨kk,hkk⟩:=nm_ (k+cD gL (xs.take j));have KK:=hd_ hkk;rw[<-hkk]
  by_cases hlt:j<n
  ·obtain⟨a,ha⟩:∃a,xs[j]? =some a:=⟨_,List.getElem?_eq_getElem (by rw[<-HN.out];exact hlt)⟩
   obtain⟨e1,e2⟩:=sT (f:=mkI) (c:=gL) ha k;rw[<-hkk]at e1;obtain⟨g,cap,ci,e,_,h1⟩:=M.open fG h e2;injection e with q1 q2 q3
   subst q1 q3;obtain⟨y,cy,rfl⟩:∃y cy,ci=[.slice y a.length cy]:=by
    obtain⟨f,hf,_⟩:=h1.first;obtain⟨v,e,_⟩:=iT hf;subst e;obtain⟨y,c,rfl,_⟩:=lC hf;exact⟨_,_,rfl⟩
   have hjl:j<(mkL mkI gL (xs.take j) k++xs.drop j).length:=by rw[<-q2];exact hlt
   have cz:=h1.p1.hcell1 hjl;have k0:0<=kk:=by have:=gO oL (xs.take j);have:=HC.out.1;omega
   have k1:kk+gL a<=100000000:=by
    have:=mY oL xs (j+1);exact zBp
   have SP:=hd_ (iY (c:=gL) ha);have E1:=hd_ e1;have HL:=hd_ hjl;have KC:=hd_ (aCY h1 k0 k1);have j0:(0:Int)<=(j:Int):=o_;have j1:(j:Int)<(n:Int):=o_;obtain⟨m,hm2⟩:=nm_ a.length;rw[<-hm2]at KC cz;clear h h1 e1 e2 q2 hjl hkk ha hm2
   go_wp2_with fail
   refine KC.out.mono ?_;rintro r w1 ⟨rfl,h2⟩;have F:=hd_ (show M B w0 w1 (oG _ _::l)from E1.out ▸ h2.close HL.out);exact zBr
  ·exact zm
theorem aKK {xs:List (List (List Int))} (h:M B w0 w (pQ v xs::l)) (hk:0<=k) (hc:k+cD eF xs<=100000000):
  Calls prog 127 #[v,iv k] w fun r w'=>r=.returned (iv (k+cD eF xs))/\M B w0 w' (pQ v (mkL mkR eF xs k)::l):=by
 obtain⟨x,n,c,rfl,hn,hm⟩:∃x n c,v=.slice x n c/\n=xs.length/\n<=maxLen:=by obtain⟨f,hf,_⟩:=h.first;obtain⟨_,_,e,q1,q2⟩:=aP hf;exact⟨_,_,_,e,rfl,Nat.le_trans q1 q2⟩
 unfold maxLen at hm;have HC:=hd_ (And.intro hk hc);have HN:=hd_ hn;have H:=hd_ h;clear h hk hc hn;go_enter func127,ntmps127;go_wp2;go_loopw [1,5] (fun q i wr=>∃j:Nat,j<=n/\i=.int .i64 (j:Int)/\q=.int .i64 (k+cD eF (xs.take j))/\M B w0 wr (pQ (.slice x n c) (mkL mkR eF (xs.take j) k++xs.drop j)::l)) (fun _ i _=>n - (intOf i).toNat)
 case atStart=>exact⟨0,Nat.zero_le _,rfl,by rw[List.take_zero,jN,Int.add_zero],H.out⟩
 case round=>
  clear H;obtain⟨j,hj,rfl,rfl,h⟩:=hrel;obtain⟨kk,hkk⟩:=nm_ (k+cD eF (xs.take j));have KK:=hd_ hkk;rw[<-hkk]
  by_cases hlt:j<n
  ·obtain⟨a,ha⟩:∃a,xs[j]? =some a:=⟨_,List.getElem?_eq_getElem (by rw[<-HN.out];exact hlt)⟩
   obtain⟨e1,e2⟩:=sT (f:=mkR) (c:=eF) ha k;rw[<-hkk]at e1;obtain⟨g,cap,ci,e,_,h1⟩:=M.open cA h e2;injection e with q1 q2 q3
   subst q1 q3;obtain⟨y,cy,rfl⟩:∃y cy,ci=[.slice y a.length cy]:=by
    obtain⟨f,hf,_⟩:=h1.first;obtain⟨v,_,_,e,_⟩:=mB hf;subst e;obtain⟨y,c,q,_⟩:=aP hf;cases q;exact⟨_,_,rfl⟩
   have hjl:j<(mkL mkR eF (xs.take j) k++xs.drop j).length:=by rw[<-q2];exact hlt
   have cz:=h1.p1.hcell1 hjl;have k0:0<=kk:=by have:=gO iH (xs.take j);have:=HC.out.1;omega
   have k1:kk+eF a<=100000000:=by
    have:=mY iH xs (j+1);exact zBp
   have SP:=hd_ (iY (c:=eF) ha);have E1:=hd_ e1;have HL:=hd_ hjl;have KC:=hd_ (aAF h1 k0 k1);have j0:(0:Int)<=(j:Int):=o_;have j1:(j:Int)<(n:Int):=o_;obtain⟨m,hm2⟩:=nm_ a.length;rw[<-hm2]at KC cz;clear h h1 e1 e2 q2 hjl hkk ha hm2
   go_wp2_with fail
   refine KC.out.mono ?_;rintro r w1 ⟨rfl,h2⟩;have F:=hd_ (show M B w0 w1 (pQ _ _::l)from E1.out ▸ h2.close HL.out);exact zBr
  ·exact zm
variable {B:Nat} {w0 w:World} {l:List Ch} {v:Value} {k:Int}
theorem _root_.Go.Proofs.YtcblbdpdbggkbaaGreat.M.sumParts {V:SV} {s:Sm} (h:M B w0 w (aQ.ch (cS V s) s::l)):M B w0 w (oG (.slice V.xr V.nr V.cr) s.rs::tJ (.slice V.xf V.nf V.cf) s.zs::rS (.slice V.xt V.nt V.ct) s.ps::sO (.slice V.xk V.nk V.ck) s.ks::l):=by
 have e:M B w0 w ((oG (.slice V.xr V.nr V.cr) s.rs).sep ((tJ (.slice V.xf V.nf V.cf) s.zs).sep ((rS (.slice V.xt V.nt V.ct) s.ps).sep (sO (.slice V.xk V.nk V.ck) s.ks)))::l):=h.to fun f hf nd=>by
  obtain⟨U,f1,f2,f3,f4,e,rfl,h1,h2,h3,h4⟩:=hf;obtain⟨a1,a2,a3,a4⟩:SV.r U=SV.r V/\SV.f U=SV.f V/\SV.t U=SV.t V/\SV.k U=SV.k V:=by
   exact zAp
  rw[a1]at h1;rw[a2]at h2;rw[a3]at h3;rw[a4]at h4;exact⟨_,⟨f1,_,rfl,h1,f2,_,rfl,h2,f3,f4,rfl,h3,h4⟩,nd,fun b hb=>hb⟩
 exact (e.two.p1.two.p1.two.p1).perm (List.reverse_perm [_,_,_,_] |>.append_right l)
theorem _root_.Go.Proofs.YtcblbdpdbggkbaaGreat.M.sumWhole {V:SV} {s:Sm} (h:M B w0 w (oG (.slice V.xr V.nr V.cr) s.rs::tJ (.slice V.xf V.nf V.cf) s.zs::rS (.slice V.xt V.nt V.ct) s.ps::sO (.slice V.xk V.nk V.ck) s.ks::l)):M B w0 w (aQ.ch (cS V s) s::l):=
 (M.sep (M.p1 (M.sep (M.p1 (M.sep (M.p1 (h.perm (List.reverse_perm [_,_,_,_] |>.symm.append_right l)))))))).to fun f hf nd=>by
  obtain⟨f1,_,rfl,h1,f2,_,rfl,h2,f3,f4,rfl,h3,h4⟩:=hf;exact⟨_,⟨V,f1,f2,f3,f4,rfl,rfl,h1,h2,h3,h4⟩,nd,fun b hb=>hb⟩
theorem aHE {xs:List En} (h:M B w0 w (jG v xs::l)) (hk:0<=k) (hc:k+rY xs<=100000000):
  Calls prog 56 #[v,iv k] w fun r w'=>r=.returned (iv (k+rY xs))/\M B w0 w' (jG v (mkK xs k)::l):=by
 obtain⟨x,n,c,rfl,hn,hm⟩:∃x n c,v=.slice x n c/\n=xs.length/\n<=maxLen:=by obtain⟨f,hf,_⟩:=h.first;obtain⟨_,_,e,q1,q2⟩:=aP hf;exact⟨_,_,_,e,rfl,Nat.le_trans q1 q2⟩
 unfold maxLen at hm;unfold rY mkK at *;have HC:=hd_ (And.intro hk hc);have HN:=hd_ hn;have H:=hd_ h;clear h hk hc hn;go_enter func56,ntmps56;go_wp2;go_loopw [1,5] (fun q i wr=>∃j:Nat,j<=n/\i=.int .i64 (j:Int)/\q=.int .i64 (k+cD uD (xs.take j))/\M B w0 wr (jG (.slice x n c) (mkL mkE uD (xs.take j) k++xs.drop j)::l)) (fun _ i _=>n - (intOf i).toNat)
 case atStart=>exact⟨0,Nat.zero_le _,rfl,by rw[List.take_zero,jN,Int.add_zero],H.out⟩
 case round=>
  clear H;obtain⟨j,hj,rfl,rfl,h⟩:=hrel;obtain⟨kk,hkk⟩:=nm_ (k+cD uD (xs.take j));have KK:=hd_ hkk;rw[<-hkk]
  by_cases hlt:j<n
  ·obtain⟨a,ha⟩:∃a,xs[j]? =some a:=⟨_,List.getElem?_eq_getElem (by rw[<-HN.out];exact hlt)⟩
   obtain⟨e1,e2⟩:=sT (f:=mkE) (c:=uD) ha k;rw[<-hkk]at e1;obtain⟨g,cap,ci,e,_,h1⟩:=M.open aX h e2;injection e with q1 q2 q3
   subst q1 q3;obtain⟨V,rfl⟩:∃V:SV,ci=[.int .i64 a.node,.int .i64 a.born,.int .i64 a.num,.slice V.xr V.nr V.cr,.slice V.xf V.nf V.cf,.slice V.xt V.nt V.ct,.int .i64 (a.s).lo,.int .i64 (a.s).al,.slice V.xk V.nk V.ck,.int .i64 (a.s).ka]:=by
    obtain⟨f,hf,_⟩:=h1.first;obtain⟨cs,rfl,hs⟩:=kZ.1 hf;obtain⟨V,_,_,_,_,rfl,_⟩:=hs;exact⟨V,rfl⟩
   have h2:M B w0 wr (aQ.ch (cS V (a.s)) a.s::kA aX 64 10 j (.slice (some ⟨g,0,none⟩) n c) (mkL mkE uD (xs.take j) k++xs.drop j) [iv a.node,iv a.born,iv a.num,.slice V.xr V.nr V.cr,.slice V.xf V.nf V.cf,.slice V.xt V.nt V.ct,.int .i64 (a.s).lo,.int .i64 (a.s).al,.slice V.xk V.nk V.ck,.int .i64 (a.s).ka]::l):=h1.to fun f hf nd=>by
    obtain⟨cs,e,hs⟩:=kZ.1 hf;simp only[List.cons.injEq,true_and]at e;rw[<-e]at hs;exact⟨f,hs,nd,fun b hb=>hb⟩
   have hjl:j<(mkL mkE uD (xs.take j) k++xs.drop j).length:=by rw[<-q2];exact hlt
   have H3:=hd_ (h2.sumParts.p4);have k0:0<=kk:=by have:=gO aDR (xs.take j);have:=HC.out.1;omega
   have k1:kk+uD a<=100000000:=by
    have:=mY aDR xs (j+1);exact zBp
   have SP:=hd_ (iY (c:=uD) ha);have E1:=hd_ e1;have HL:=hd_ hjl;have j0:(0:Int)<=(j:Int):=o_;have j1:(j:Int)<(n:Int):=o_;have ec:uD a=3+aDJ a.s:=rfl;have es:aDJ a.s=eF a.s.rs+a.s.zs.length+2 * a.s.ps.length+2+2 * a.s.ks.length+1:=rfl;have nr:=iH a.s.rs;have CB:=hd_ (show kk+3+eF a.s.rs+a.s.zs.length+2 * a.s.ps.length+2+2 * a.s.ks.length+1<=100000000 by omega)
   have b1:kk<=100000000:=o_;obtain⟨a0,a1,a2,sm⟩:=a;obtain⟨rs,zs,ps,lo,al,ks,ka⟩:=sm;simp only at H3 CB E1 SP;have z0:=H3.out.hcell (j:=0) HL.out rfl;have z1:=H3.out.hcell (j:=1) HL.out rfl;have z2:=H3.out.hcell (j:=2) HL.out rfl;have z3:=H3.out.hcell (j:=3) HL.out rfl;have fz:=H3.out.hfree;simp only[Nat.add_zero]at z0;clear h h1 h2 e1 e2 q2 hjl hkk ha k1 ec es nr
   go_wp2_with fail
   rw[show kk+1+1+1=kk+3 by omega];have h4:=((H3.out.hset (j:=0) HL.out dc_ (iv kk)).hset (j:=1) HL.out dc_ (iv (kk+1))).hset (j:=2) HL.out dc_ (iv (kk+1+1));simp only[List.set_cons_zero,List.set_cons_succ,Nat.add_zero]at h4;rw[show kk+1+1=kk+2 by omega]at h4 ⊢;have nr:=iH rs
   refine (aAF h4.p1 (k:=kk+3) o_ (by have:=CB.out;show kk+3+eF rs<=100000000;omega)).mono ?_;rintro r w1 ⟨rfl,h5⟩;rw[show kk+3+cD gL rs=kk+3+eF rs from rfl];obtain⟨k4,hk4⟩:=nm_ (kk+3+eF rs);rw[<-hk4];have K4:=hd_ hk4;have H5:=hd_ h5;clear h4 h5 z0 z1 z2 z3 fz H3 hk4 nr;have z4:=H5.out.p1.hcell (j:=4) HL.out rfl
   go_wp2_with fail
   have nr:=iH rs;refine (aCY H5.out.p2 (k:=k4) (by have:=K4.out;omega) (by have:=K4.out;have:=CB.out;show k4+zs.length<=100000000;omega)).mono ?_;rintro r w2 ⟨rfl,h6⟩;rw[show k4+gL zs=k4+zs.length from rfl];obtain⟨k5,hk5⟩:=nm_ (k4+zs.length);rw[<-hk5];have K5:=hd_ hk5;have H6:=hd_ h6;clear h6 z4 H5 hk5 nr;have z5:=H6.out.p2.hcell (j:=5) HL.out rfl
   go_wp2_with fail
   have nr:=iH rs;refine (aHs H6.out.p3 (k:=k5) (by have:=K4.out;have:=K5.out;omega) (by have:=K4.out;have:=K5.out;have:=CB.out;omega)).mono ?_;rintro r w3 ⟨rfl,h7⟩;obtain⟨k6,hk6⟩:=nm_ (k5+2 * (ps.length:Int));rw[<-hk6];have K6:=hd_ hk6;have H7:=hd_ h7;have c0:0<=k6:=by have:=K4.out;have:=K5.out;omega
   have c1:k6<=100000000:=by have:=K4.out;have:=K5.out;have:=CB.out;omega
   clear h7 z5 H6 hk6 nr;have z6:=H7.out.p3.hcell (j:=6) HL.out rfl;have z7:=H7.out.p3.hcell (j:=7) HL.out rfl;have z8:=H7.out.p3.hcell (j:=8) HL.out rfl;have fz:=H7.out.p3.hfree
   go_wp2_with fail
   have h8:=(H7.out.p3.hset (j:=6) HL.out dc_ (iv k6)).hset (j:=7) HL.out dc_ (iv (k6+1));simp only[List.set_cons_zero,List.set_cons_succ]at h8;rw[show k6+1+1=k6+2 by omega];refine (aD7 h8.p4 (k:=k6+2) o_ (by have:=iH rs;have:=K4.out;have:=K5.out;have:=K6.out;have:=CB.out;omega)).mono ?_;rintro r w4 ⟨rfl,h9⟩;obtain⟨k7,hk7⟩:=nm_ (k6+2+2 * (ks.length:Int));rw[<-hk7]
   have d0:0<=k7:=o_;have d1:k7<=100000000:=by have:=iH rs;have:=K4.out;have:=K5.out;have:=K6.out;have:=CB.out;omega
   have K7:=hd_ hk7;have H9:=hd_ h9;clear h8 h9 z6 z7 z8 fz H7 hk7;have z9:=H9.out.p1.hcell (j:=9) HL.out rfl;have fz:=H9.out.p1.hfree;have h10:=H9.out.p1.hset (j:=9) HL.out dc_ (iv k7);simp only[List.set_cons_zero,List.set_cons_succ]at h10;have h11:=(h10.perm (List.reverse_perm [_,_,_,_,_] |>.symm.append_right l))
   have h12:=(M.entry (i:=kk) (born:=kk+1) (num:=kk+2) (M.sumWhole (V:=V) (s:=⟨mkR rs (kk+3),mkI zs k4,lR ps k5,k6,k6+1,lR ks (k6+2),k7⟩) h11)).close HL.out;have e:mkE ⟨a0,a1,a2,⟨rs,zs,ps,lo,al,ks,ka⟩⟩ kk=⟨kk,kk+1,kk+2,⟨mkR rs (kk+3),mkI zs k4,lR ps k5,k6,k6+1,lR ks (k6+2),k7⟩⟩:=by rw[K7.out,K6.out,K5.out,K4.out];rfl
   rw[<-e,E1.out]at h12;have F:=hd_ h12;have E7:=hd_ (show k7+1=k+cD uD (xs.take (j+1)) by
        rw[SP.out, <-Int.add_assoc, <-KK.out]
        show k7+1=kk+(3+(eF rs+zs.length+2 * ps.length+2+2 * ks.length+1))
        have:=K4.out;have:=K5.out;have:=K6.out;have:=K7.out
        omega)
   clear h10 h11 h12 e H9;exact zBe
  ·exact zm
variable {B:Nat} {w0 w:World} {l:List Ch} {v:Value} {k:Int}
theorem aKd {xs:List Nd} (h:M B w0 w (mJ v xs::l)) (hk:0<=k) (hc:k+cD jO xs<=100000000):
  Calls prog 124 #[v,iv k] w fun r w'=>r=.returned (iv (k+cD jO xs))/\M B w0 w' (mJ v (mkL mkN jO xs k)::l):=by
 obtain⟨x,n,c,rfl,hn,hm⟩:∃x n c,v=.slice x n c/\n=xs.length/\n<=maxLen:=by obtain⟨f,hf,_⟩:=h.first;obtain⟨_,_,e,q1,q2⟩:=aP hf;exact⟨_,_,_,e,rfl,Nat.le_trans q1 q2⟩
 unfold maxLen at hm;have HC:=hd_ (And.intro hk hc);have HN:=hd_ hn;have H:=hd_ h;clear h hk hc hn;go_enter func124,ntmps124;go_wp2;go_loopw [1,5] (fun q i wr=>∃j:Nat,j<=n/\i=.int .i64 (j:Int)/\q=.int .i64 (k+cD jO (xs.take j))/\M B w0 wr (mJ (.slice x n c) (mkL mkN jO (xs.take j) k++xs.drop j)::l)) (fun _ i _=>n - (intOf i).toNat)
 case atStart=>exact⟨0,Nat.zero_le _,rfl,by rw[List.take_zero,jN,Int.add_zero],H.out⟩
 case round=>
  clear H;obtain⟨j,hj,rfl,rfl,h⟩:=hrel;obtain⟨kk,hkk⟩:=nm_ (k+cD jO (xs.take j));have KK:=hd_ hkk;rw[<-hkk]
  by_cases hlt:j<n
  ·obtain⟨a,ha⟩:∃a,xs[j]? =some a:=⟨_,List.getElem?_eq_getElem (by rw[<-HN.out];exact hlt)⟩
   obtain⟨e1,e2⟩:=sT (f:=mkN) (c:=jO) ha k;rw[<-hkk]at e1;obtain⟨g,cap,ci,e,_,h1⟩:=M.open (cP (T:=TY)) h e2;injection e with q1 q2 q3
   subst q1 q3;obtain⟨y,m,cy,rfl⟩:∃y m cy,ci=[.int .i64 a.born,.slice y m cy,.int .i64 a.beacon,.int .i64 a.level,.int .i64 a.up]:=by
    obtain⟨f,hf,_⟩:=h1.first;obtain⟨u,rfl,hs⟩:=nA.1 hf;obtain⟨y,c,rfl,_⟩:=aP hs;exact⟨y,_,c,rfl⟩
   have h2:M B w0 wr (jG (.slice y m cy) a.known::kA (cP (T:=TY)) 55 5 j (.slice (some ⟨g,0,none⟩) n c) (mkL mkN jO (xs.take j) k++xs.drop j) [iv a.born,.slice y m cy,iv a.beacon,iv a.level,iv a.up]::l):=h1.to fun f hf nd=>by
    obtain⟨u,e,hs⟩:=nA.1 hf;exact zB6
   have hjl:j<(mkL mkN jO (xs.take j) k++xs.drop j).length:=by rw[<-q2];exact hlt
   have H3:=hd_ h2.p1;have k0:0<=kk:=by have:=gO zD (xs.take j);have:=HC.out.1;omega
   have k1:kk+jO a<=100000000:=by
    have:=mY zD xs (j+1);exact zBp
   have SP:=hd_ (iY (c:=jO) ha);have E1:=hd_ e1;have HL:=hd_ hjl;have j0:(0:Int)<=(j:Int):=o_;have j1:(j:Int)<(n:Int):=o_;have cn:=yZ a.known;have CB:=hd_ (show kk+(1+rY a.known+3)<=100000000 from k1);have b1:kk<=100000000:=by have:=CB.out;omega
   clear h h1 h2 e1 e2 q2 hjl hkk ha k1;have z0:=H3.out.hcell (j:=0) HL.out rfl;have z1:=H3.out.hcell (j:=1) HL.out rfl;have fz:=H3.out.hfree;simp only[Nat.add_zero]at z0
   go_wp2_with fail
   have h4:=H3.out.hset (j:=0) HL.out dc_ (iv kk);simp only[List.set_cons_zero,List.set_cons_succ,Nat.add_zero]at h4;refine (aHE h4.p1 (k:=kk+1) o_ (by have:=CB.out;omega)).mono ?_;rintro r w1 ⟨rfl,h5⟩;obtain⟨k4,hk4⟩:=nm_ (kk+1+rY a.known);rw[<-hk4];have K4:=hd_ hk4;have H5:=hd_ h5.p1;have c0:0<=k4:=o_;have c1:k4<=100000000:=by have:=CB.out;omega
   clear h4 h5 z0 z1 fz H3 hk4;have z2:=H5.out.hcell (j:=2) HL.out rfl;have z3:=H5.out.hcell (j:=3) HL.out rfl;have z4:=H5.out.hcell (j:=4) HL.out rfl;have fz:=H5.out.hfree;have h10:=((H5.out.hset (j:=2) HL.out dc_ (iv k4)).hset (j:=3) HL.out dc_ (iv (k4+1))).hset (j:=4) HL.out dc_ (iv (k4+1+1));simp only[List.set_cons_zero,List.set_cons_succ]at h10
   have h12:=M.close (M.node (born:=kk) (beacon:=k4) (level:=k4+1) (up:=k4+1+1) h10.p1) HL.out;have e:mkN a kk=⟨kk,mkK a.known (kk+1),k4,k4+1,k4+1+1⟩:=by rw[K4.out];unfold mkN;congr 1;omega
   rw[<-e,E1.out]at h12;have F:=hd_ (show M B w0 _ (mJ _ _::l)from h12);have E7:=hd_ (show k4+1+1+1=k+cD jO (xs.take (j+1)) by
        rw[SP.out, <-Int.add_assoc, <-KK.out]
        show k4+1+1+1=kk+(1+rY a.known+3)
        have:=K4.out
        omega)
   clear h10 h12 e H5;exact zBe
  ·exact zm
theorem aJD {xs:List Wd} (h:M B w0 w (mN v xs::l)) (hk:0<=k) (hc:k+cD kT xs<=100000000):
  Calls prog 126 #[v,iv k] w fun r w'=>r=.returned (iv (k+cD kT xs))/\M B w0 w' (mN v (mkL mkW kT xs k)::l):=by
 obtain⟨x,n,c,rfl,hn,hm⟩:∃x n c,v=.slice x n c/\n=xs.length/\n<=maxLen:=by obtain⟨f,hf,_⟩:=h.first;obtain⟨_,_,e,q1,q2⟩:=aP hf;exact⟨_,_,_,e,rfl,Nat.le_trans q1 q2⟩
 unfold maxLen at hm;have HC:=hd_ (And.intro hk hc);have HN:=hd_ hn;have H:=hd_ h;clear h hk hc hn;go_enter func126,ntmps126;go_wp2;go_loopw [1,5] (fun q i wr=>∃j:Nat,j<=n/\i=.int .i64 (j:Int)/\q=.int .i64 (k+cD kT (xs.take j))/\M B w0 wr (mN (.slice x n c) (mkL mkW kT (xs.take j) k++xs.drop j)::l)) (fun _ i _=>n - (intOf i).toNat)
 case atStart=>exact⟨0,Nat.zero_le _,rfl,by rw[List.take_zero,jN,Int.add_zero],H.out⟩
 case round=>
  clear H;obtain⟨j,hj,rfl,rfl,h⟩:=hrel;obtain⟨kk,hkk⟩:=nm_ (k+cD kT (xs.take j));have KK:=hd_ hkk;rw[<-hkk]
  by_cases hlt:j<n
  ·obtain⟨a,ha⟩:∃a,xs[j]? =some a:=⟨_,List.getElem?_eq_getElem (by rw[<-HN.out];exact hlt)⟩
   obtain⟨e1,e2⟩:=sT (f:=mkW) (c:=kT) ha k;rw[<-hkk]at e1;obtain⟨g,cap,ci,e,_,h1⟩:=M.open (gD (T:=TY)) h e2;injection e with q1 q2 q3
   subst q1 q3;obtain⟨y,m,cy,rfl⟩:∃y m cy,ci=[.int .i64 a.kind,.int .i64 a.src,.int .i64 a.dst,.int .i64 a.beacon,.int .i64 a.level,.slice y m cy]:=by
    obtain⟨f,hf,_⟩:=h1.first;obtain⟨u,rfl,hs⟩:=mZ.1 hf;obtain⟨y,c,rfl,_⟩:=aP hs;exact⟨y,_,c,rfl⟩
   have h2:M B w0 wr (jG (.slice y m cy) a.known::kA (gD (T:=TY)) 123 6 j (.slice (some ⟨g,0,none⟩) n c) (mkL mkW kT (xs.take j) k++xs.drop j) [iv a.kind,iv a.src,iv a.dst,iv a.beacon,iv a.level,.slice y m cy]::l):=h1.to fun f hf nd=>by
    obtain⟨u,e,hs⟩:=mZ.1 hf;exact zB6
   have hjl:j<(mkL mkW kT (xs.take j) k++xs.drop j).length:=by rw[<-q2];exact hlt
   have H3:=hd_ h2.p1;have k0:0<=kk:=by have:=gO yW (xs.take j);have:=HC.out.1;omega
   have k1:kk+kT a<=100000000:=by
    have:=mY yW xs (j+1);exact zBp
   have SP:=hd_ (iY (c:=kT) ha);have E1:=hd_ e1;have HL:=hd_ hjl;have j0:(0:Int)<=(j:Int):=o_;have j1:(j:Int)<(n:Int):=o_;have cn:=yZ a.known;have CB:=hd_ (show kk+(5+rY a.known)<=100000000 from k1);have b1:kk<=100000000:=by have:=CB.out;omega
   clear h h1 h2 e1 e2 q2 hjl hkk ha k1;have z0:=H3.out.hcell (j:=0) HL.out rfl;have z1:=H3.out.hcell (j:=1) HL.out rfl;have z2:=H3.out.hcell (j:=2) HL.out rfl;have z3:=H3.out.hcell (j:=3) HL.out rfl;have z4:=H3.out.hcell (j:=4) HL.out rfl;have z5:=H3.out.hcell (j:=5) HL.out rfl;have fz:=H3.out.hfree;simp only[Nat.add_zero]at z0
   go_wp2_with fail
   have h4:=((((H3.out.hset (j:=0) HL.out dc_ (iv kk)).hset (j:=1) HL.out dc_ (iv (kk+1))).hset (j:=2) HL.out dc_ (iv (kk+1+1))).hset (j:=3) HL.out dc_ (iv (kk+1+1+1))).hset (j:=4) HL.out dc_ (iv (kk+1+1+1+1));simp only[List.set_cons_zero,List.set_cons_succ,Nat.add_zero]at h4;refine (aHE h4.p1 (k:=kk+1+1+1+1+1) o_ (by have:=CB.out;omega)).mono ?_
   rintro r w1 ⟨rfl,h5⟩;have e5:kk+1+1+1+1+1=kk+5:=o_;have h12:=M.close (M.word (kind:=kk) (src:=kk+1) (dst:=kk+1+1) (beacon:=kk+1+1+1) (level:=kk+1+1+1+1) h5) HL.out;have e:mkW a kk=⟨kk,kk+1,kk+1+1,kk+1+1+1,kk+1+1+1+1,mkK a.known (kk+1+1+1+1+1)⟩:=by rw[e5];unfold mkW;congr 1<;>omega
   rw[<-e,E1.out]at h12;have F:=hd_ (show M B w0 _ (mN _ _::l)from h12);have E7:=hd_ (show kk+1+1+1+1+1+rY a.known=k+cD kT (xs.take (j+1)) by
        rw[SP.out, <-Int.add_assoc, <-KK.out]
        show kk+1+1+1+1+1+rY a.known=kk+(5+rY a.known)
        omega)
   clear h4 h5 h12 e e5 H3 z0 z1 z2 z3 z4 z5 fz;exact zBe
  ·exact zm
theorem aKH {xs:List Bool} {j:Nat} (h:j<xs.length) (k:Int):(mkB (xs.take j) k++xs.drop j).set j (decide ((k+(j:Int)).tmod 3=0))=mkB (xs.take (j+1)) k++xs.drop (j+1):=by
 have ln:(mkB (xs.take j) k).length=j:=by unfold mkB;simp;omega
 rw[List.drop_eq_getElem_cons h,List.set_append_right _ _ o_,ln,Nat.sub_self,List.set_cons_zero];unfold mkB;rw[List.length_take,List.length_take,show min (j+1) xs.length=min j xs.length+1 by omega,List.range_succ,List.map_append,List.append_assoc,show min j xs.length=j by omega]
 rfl
theorem aMa (xs:List Bool) (k:Int):(mkB xs k).length=xs.length:=by unfold mkB;simp
theorem aJB {xs:List Bool} (h:M B w0 w (lL v xs::l)) (hk:0<=k) (hc:k+(xs.length:Int)<=100000000):
  Calls prog 125 #[v,iv k] w fun r w'=>r=.returned (iv (k+(xs.length:Int)))/\M B w0 w' (lL v (mkB xs k)::l):=by
 obtain⟨x,n,c,rfl,hn,hm⟩:∃x n c,v=.slice x n c/\n=xs.length/\n<=maxLen:=by obtain⟨f,hf,_⟩:=h.first;obtain⟨_,_,e,q1,q2⟩:=aP hf;exact⟨_,_,_,e,rfl,Nat.le_trans q1 q2⟩
 unfold maxLen at hm;rw[<-hn]at hc ⊢;have HC:=hd_ (And.intro hk hc);have HN:=hd_ hn;have H:=hd_ h;clear h hk hc hn;go_enter func125,ntmps125;go_wp2;go_loopw [1,5] (fun q i wr=>∃j:Nat,j<=n/\i=.int .i64 (j:Int)/\q=.int .i64 (k+(j:Int))/\M B w0 wr (lL (.slice x n c) (mkB (xs.take j) k++xs.drop j)::l)) (fun _ i _=>n - (intOf i).toNat)
 case atStart=>exact⟨0,Nat.zero_le _,rfl,by simp,H.out⟩
 case round=>
  clear H;obtain⟨j,hj,rfl,rfl,h⟩:=hrel
  by_cases hlt:j<n
  ·obtain⟨kk,hkk⟩:=nm_ (k+(j:Int))
   have KK:=hd_ hkk;rw[<-hkk];have hjx:j<xs.length:=by rw[<-HN.out];exact hlt
   have hjl:j<(mkB (xs.take j) k++xs.drop j).length:=by rw[List.length_append,aMa,List.length_take,List.length_drop];omega
   obtain⟨g,rfl⟩:∃g,x=some ⟨g,0,none⟩:=by
    obtain⟨f,hf,_⟩:=h.first;obtain⟨g,hx,_⟩:=oK (T:=TY) hf (List.getElem?_eq_getElem hjl);exact⟨g,hx⟩
   obtain⟨⟨z,cz⟩,fz,h1⟩:=M.setEl h hjl (decide (kk.tmod 3=0)) (u:=.bool (decide (kk.tmod 3=0))) rfl;have e:=aKH hjx k;rw[<-hkk]at e;rw[e]at h1;have F:=hd_ (show M B w0 _ (lL _ _::l)from h1);have j0:(0:Int)<=(j:Int):=o_;have j1:(j:Int)<(n:Int):=o_;have k0:0<=kk:=by have:=HC.out.1;omega
   have k1:kk<=100000000:=by have:=HC.out.2;omega
   have q3:kk.tmod 3=kk % 3:=Int.tmod_eq_emod_of_nonneg k0;rw[q3]at F;clear h h1 e hjx hjl hkk q3;go_wp2;go_roundw
   case rel=>exact⟨j+1,hlt,gn_,by rw[KK.out];go_num,F.out⟩
   case measure=>simp[intOf];omega
  ·obtain rfl:j=n:=o_
   have F:=hd_ h;clear h;go_wp2;go_ret;have e1:xs.take j=xs:=List.take_of_length_le (by rw[HN.out];exact Nat.le_refl _);have e2:xs.drop j=[]:=List.drop_eq_nil_of_le (by rw[HN.out];exact Nat.le_refl _);have F:=F.out;rw[e1,e2,List.append_nil]at F;exact⟨rfl,F⟩
variable {B:Nat} {w0 w:World} {l:List Ch} {v:Value} {k:Int}
def aLu (v1 v2 v3 v4:Value) (a:Nt):Ch:=(tX (T:=TY)).ch [v1,v2,v3,v4] a
theorem _root_.Go.Proofs.YtcblbdpdbggkbaaGreat.M.netParts {v1 v2 v3 v4:Value} {a:Nt} (h:M B w0 w (aLu v1 v2 v3 v4 a::l)):M B w0 w (mJ v1 a.nodes::lL v2 a.links::mN v3 a.words::pQ v4 a.past::l):=by
 have e:M B w0 w ((mJ v1 a.nodes).sep ((lL v2 a.links).sep ((mN v3 a.words).sep (pQ v4 a.past)))::l):=h.to fun f hf nd=>by
  obtain⟨_,_,_,_,f1,f2,f3,f4,e,rfl,h1,h2,h3,h4⟩:=pO.1 hf;cases e;exact⟨_,⟨f1,_,rfl,h1,f2,_,rfl,h2,f3,f4,rfl,h3,h4⟩,nd,fun b hb=>hb⟩
 exact (e.two.p1.two.p1.two.p1).perm (List.reverse_perm [_,_,_,_] |>.append_right l)
theorem _root_.Go.Proofs.YtcblbdpdbggkbaaGreat.M.netWhole {v1 v2 v3 v4:Value} {a:Nt} (h:M B w0 w (mJ v1 a.nodes::lL v2 a.links::mN v3 a.words::pQ v4 a.past::l)):M B w0 w (aLu v1 v2 v3 v4 a::l):=
 (M.sep (M.p1 (M.sep (M.p1 (M.sep (M.p1 (h.perm (List.reverse_perm [_,_,_,_] |>.symm.append_right l)))))))).to fun f hf nd=>by
  obtain⟨f1,_,rfl,h1,f2,_,rfl,h2,f3,f4,rfl,h3,h4⟩:=hf;exact⟨_,pO.2 ⟨_,_,_,_,f1,f2,f3,f4,rfl,rfl,h1,h2,h3,h4⟩,nd,fun b hb=>hb⟩
theorem aIH (a:Nt):tL a=cD jO a.nodes+a.links.length+cD kT a.words+cD eF a.past:=rfl
theorem aKI (a:Nt):0<=cD jO a.nodes/\0<=cD kT a.words/\0<=cD eF a.past:=⟨gO zD _,gO yW _,gO iH _⟩
theorem aH5 {a:Nt} {xa xb xc xd:Option Addr} {na nb nc nd ca cb cc cd:Nat} (h:M B w0 w (aLu (.slice xa na ca) (.slice xb nb cb) (.slice xc nc cc) (.slice xd nd cd) a::l)) (hk:0<=k) (hc:k+tL a<=100000000):
  Calls prog 52 #[.agg #[.slice xa na ca,.slice xb nb cb,.slice xc nc cc,.slice xd nd cd],iv k] w fun r w'=>r=.returned (iv (k+tL a))/\M B w0 w' (aLu (.slice xa na ca) (.slice xb nb cb) (.slice xc nc cc) (.slice xd nd cd) (aNp a k)::l):=by
 obtain⟨p1,p2,p3⟩:=aKI a;have ei:=aIH a;have B1:=hd_ (show 0<=k/\k+cD jO a.nodes<=100000000 by omega);have B2:=hd_ (show 0<=k+cD jO a.nodes/\k+cD jO a.nodes+(a.links.length:Int)<=100000000 by omega);have B3:=hd_ (show 0<=k+cD jO a.nodes+(a.links.length:Int)/\k+cD jO a.nodes+(a.links.length:Int)+cD kT a.words<=100000000 by omega)
 have B4:=hd_ (show 0<=k+cD jO a.nodes+(a.links.length:Int)+cD kT a.words/\k+cD jO a.nodes+(a.links.length:Int)+cD kT a.words+cD eF a.past<=100000000 by omega);have EI:=hd_ (show k+cD jO a.nodes+(a.links.length:Int)+cD kT a.words+cD eF a.past=k+tL a by omega);have H:=hd_ (h.netParts.alloc #[.slice xa na ca,.slice xb nb cb,.slice xc nc cc,.slice xd nd cd] 30)
 obtain⟨c0,c1,c2,c3⟩:=H.out.cells4;clear h hk hc p1 p2 p3 ei;go_enter func52,ntmps52
 go_wp2_with fail
 refine (aKd H.out.p1 B1.out.1 B1.out.2).mono ?_;rintro r w1 ⟨rfl,h1⟩;have H1:=hd_ h1;clear h1 c0 c1 c2 c3 H;obtain⟨k1,hk1⟩:=nm_ (k+cD jO a.nodes);rw[<-hk1];have K1:=hd_ hk1;rw[<-hk1]at B2;clear hk1;obtain⟨c0,c1,c2,c3⟩:=H1.out.p1.cells4
 go_wp2_with fail
 refine (aJB H1.out.p2 B2.out.1 B2.out.2).mono ?_;rintro r w2 ⟨rfl,h2⟩;have H2:=hd_ h2;clear h2 c0 c1 c2 c3 H1;obtain⟨k2,hk2⟩:=nm_ (k1+(a.links.length:Int));rw[<-hk2];have K2:=hd_ hk2;rw[<-K1.out, <-hk2]at B3;clear hk2;obtain⟨c0,c1,c2,c3⟩:=H2.out.p2.cells4
 go_wp2_with fail
 refine (aJD H2.out.p3 B3.out.1 B3.out.2).mono ?_;rintro r w3 ⟨rfl,h3⟩;have H3:=hd_ h3;clear h3 c0 c1 c2 c3 H2;obtain⟨k3,hk3⟩:=nm_ (k2+cD kT a.words);rw[<-hk3];have K3:=hd_ hk3;rw[<-K1.out, <-K2.out, <-hk3]at B4;clear hk3;obtain⟨c0,c1,c2,c3⟩:=H3.out.p3.cells4
 go_wp2_with fail
 refine (aKK H3.out.p4 B4.out.1 B4.out.2).mono ?_;rintro r w4 ⟨rfl,h4⟩;have F:=hd_ (h4.perm (List.reverse_perm [_,_,_,_,_] |>.symm.append_right l));clear h4 c0 c1 c2 c3 H3;go_wp2;go_ret;have e:aNp a k=⟨mkL mkN jO a.nodes k,mkB a.links k1,mkL mkW kT a.words k2,aF1 a.past k3⟩:=by rw[K3.out,K2.out,K1.out];rfl
 refine⟨by rw[<-EI.out,K3.out,K2.out,K1.out];rfl,?_⟩;rw[e];exact M.netWhole (a:=⟨mkL mkN jO a.nodes k,mkB a.links k1,mkL mkW kT a.words k2,aF1 a.past k3⟩) F.out.drop
variable {w:World} {v:Value} {k:Int} {fp:List Nat}
theorem aI9 {zs:List Int} (h:sP w [v] (mkI zs k) fp) (hk:0<=k) (hc:k+gL zs<=200000000):
  Calls prog 54 #[v,iv k] w fun r w'=>r=.returned (iv (k+gL zs))/\w=w':=by
 have hk2:k<=200000000:=by have:=oL zs;omega
 have hn:(zs.length:Int)<=200000000:=by unfold gL at hc;omega
 obtain⟨_,e,o,_⟩:=iT h;cases e;exact aEa w v zs.length k o_ hk o_ o
theorem aEM {zs:List Int} (h:sP w [v] (mkI zs k) fp) (hk:0<=k) (hc:k+gL zs<=100000000):
  Calls prog 54 #[v,iv k] w fun r w'=>r=.returned (iv (k+gL zs))/\w=w':=aI9 h hk o_
theorem aJ5 {ps:List (Int × Int)} (h:uI w [v] (lR ps k) fp) (hk:0<=k) (hc:k+2 * (ps.length:Int)<=100000000):
  Calls prog 133 #[v,iv k] w fun r w'=>r=.returned (iv (k+2 * (ps.length:Int)))/\w=w':=by
 obtain⟨_,e,o,_⟩:=tD h;cases e;obtain⟨x,c,rfl,_⟩:=lC h;rw[show (lR ps k).length=ps.length by unfold lR;simp];refine T.aCK w x c ps.length k o_ hk o_ ?_;have r:=o;rw[show (lR ps k).length=ps.length by unfold lR;simp]at r;exact r
theorem aIk {ps:List (Int × Int)} (h:uK w [v] (lR ps k) fp) (hk:0<=k) (hc:k+2 * (ps.length:Int)<=100000000):
  Calls prog 134 #[v,iv k] w fun r w'=>r=.returned (iv (k+2 * (ps.length:Int)))/\w=w':=by
 obtain⟨_,e,o,_⟩:=sX h;cases e;obtain⟨x,c,rfl,_⟩:=lC h;rw[show (lR ps k).length=ps.length by unfold lR;simp];refine K.aCN w x c ps.length k o_ hk o_ ?_;have r:=o;rw[show (lR ps k).length=ps.length by unfold lR;simp]at r;exact r
theorem aHH {xs:List (List Int)} (h:oD w [v] (mkL mkI gL xs k) fp) (hk:0<=k) (hc:k+cD gL xs<=100000000):
  Calls prog 132 #[v,iv k] w fun r w'=>r=.returned (iv (k+cD gL xs))/\w=w':=by
 obtain⟨x,n,c,rfl,hn,hm⟩:∃x n c,v=.slice x n c/\n=xs.length/\n<=maxLen:=by obtain⟨_,_,e,q1,q2⟩:=aP h;exact⟨_,_,_,e,by rw[aDM],Nat.le_trans q1 q2⟩
 unfold maxLen at hm;have HC:=hd_ (And.intro hk hc);have HN:=hd_ hn;have H:=hd_ h;clear h hk hc hn;go_enter func132,ntmps132;go_wp2;go_loopw [1,5] (fun q i wr=>∃j:Nat,j<=n/\i=.int .i64 (j:Int)/\q=.int .i64 (k+cD gL (xs.take j))/\w=wr) (fun _ i _=>n - (intOf i).toNat)
 case atStart=>exact⟨0,Nat.zero_le _,rfl,by rw[List.take_zero,jN,Int.add_zero],rfl⟩
 case round=>
  obtain⟨j,hj,rfl,rfl,rfl⟩:=hrel;obtain⟨kk,hkk⟩:=nm_ (k+cD gL (xs.take j));have KK:=hd_ hkk;rw[<-hkk]
  by_cases hlt:j<n
  ·obtain⟨a,ha⟩:∃a,xs[j]? =some a:=⟨_,List.getElem?_eq_getElem (by rw[<-HN.out];exact hlt)⟩
   have e2:=aLh (f:=mkI) (c:=gL) ha k;rw[<-hkk]at e2;obtain⟨g,xr,cr,fr,rfl,_,_,r1,_,_,cz⟩:=mL H.out e2;have k0:0<=kk:=by have:=gO oL (xs.take j);have:=HC.out.1;omega
   have k1:kk+gL a<=100000000:=by
    have:=mY oL xs (j+1);exact zBp
   have SP:=hd_ (iY (c:=gL) ha);have ca:=oL a;have j0:(0:Int)<=(j:Int):=o_;have j1:(j:Int)<(n:Int):=o_;have KC:=hd_ (aEM r1 k0 k1);obtain⟨m,hm2⟩:=nm_ ((mkI a kk).length);rw[<-hm2]at KC cz;have s0:0<=kk+gL a:=by have q:0<=gL a:=ca;omega
   clear r1 e2 hkk ha hm2
   go_wp2_with fail
   refine KC.out.mono ?_;rintro r w1 ⟨rfl,rfl⟩;clear KC;go_wp2;go_roundw
   case rel=>exact⟨j+1,hlt,gn_,(by rw[SP.out, <-Int.add_assoc, <-KK.out];try rfl),by trivial⟩
   case measure=>simp[intOf];omega
  ·obtain rfl:j=n:=o_
   go_wp2;go_ret;have e1:xs.take j=xs:=List.take_of_length_le (by rw[HN.out];exact Nat.le_refl _);rw[KK.out,e1];exact⟨rfl,by trivial⟩
theorem aIy {V:SV} {s:Sm} {f:List Nat} (h:qC w (cS V s) s f):∃f1 f2 f3 f4,oD w [.slice V.xr V.nr V.cr] s.rs f1/\sP w [.slice V.xf V.nf V.cf] s.zs f2/\uI w [.slice V.xt V.nt V.ct] s.ps f3/\uK w [.slice V.xk V.nk V.ck] s.ks f4:=by
 obtain⟨U,f1,f2,f3,f4,e,rfl,h1,h2,h3,h4⟩:=h;obtain⟨a1,a2,a3,a4⟩:SV.r U=SV.r V/\SV.f U=SV.f V/\SV.t U=SV.t V/\SV.k U=SV.k V:=by
  exact zAp
 rw[a1]at h1;rw[a2]at h2;rw[a3]at h3;rw[a4]at h4;exact⟨f1,f2,f3,f4,h1,h2,h3,h4⟩
variable {w:World} {v:Value} {k:Int} {fp:List Nat}
end N
end Go.Proofs.YtcblbdpdbggkbaaGreat
namespace Go.Proofs.YtcblbdpdbggkbaaGreat.N
open _root_.Go.Proofs.Tryz
open Go.RowKit Go.Sort
theorem aCe (rs:List (List Int)):∀k,k<=rs.length->cD gL (rs.take k)=(eX rs k:Nat)
 | 0,_=>rfl
 |k+1,h=>by
  obtain⟨x,hx⟩:∃x,rs[k]? =some x:=⟨_,List.getElem?_eq_getElem h⟩
  rw[iY hx,aCe rs k (by omega)];show _+gL x=((eX rs k+(rs.getD k []).length:Nat):Int)
  rw[List.getD_eq_getElem?_getD,hx];unfold gL;simp
theorem aAH (rs:List (List Int)):eF rs=(eX rs rs.length:Nat):=by
 have:=aCe rs rs.length lr_;rwa[List.take_length]at this
theorem zJ {α:Type} {c:α->Int} {f:α->Nat} (h:∀x,c x<=6 * ((1+f x:Nat):Int)):∀l:List α,cD c l<=6 * ((l.length+szS f l:Nat):Int)
 | []=>Int.le_refl _
 |x::xs=>by
  have h1:=zJ h xs;have h2:=h x;have e:szS f (x::xs)=f x+szS f xs:=by unfold szS;rw[List.map_cons,List.sum_cons]
  rw[nD,e,List.length_cons];omega
theorem aHo (es:List En):rY es<=6 * (szK es:Int):=by
 refine zJ (fun e=>?_) es;have:=aAH e.s.rs;unfold uD aDJ sR;omega
theorem aJk (n:Nt):tL n<=6 * (aFE n:Int):=by
 have h1:=zJ (c:=jO) (f:=fun x=>szK x.known) (fun x=>by have:=aHo x.known;unfold jO;omega) n.nodes;have h2:=zJ (c:=kT) (f:=fun x=>szK x.known) (fun x=>by have:=aHo x.known;unfold kT;omega) n.words;have h3:=zJ (c:=eF) (f:=fun rs=>rs.length+eX rs rs.length) (fun rs=>by have:=aAH rs;omega) n.past;unfold tL aMV aFE aBv aBQ szP;omega
theorem aKa (n:Nt):0<=tL n:=by
 have h1:=gO zD n.nodes;have h2:=gO yW n.words;have h3:=aMd n.past;unfold tL;omega
end Go.Proofs.YtcblbdpdbggkbaaGreat.N
namespace Go.Proofs.YtcblbdpdbggkbaaGreat
open _root_.Go.Proofs.Tryz
open Go.RowKit Go.Sort
section
variable {α:Type} {e:TypeId} {size:Nat} {w w' w0:World} {B:Nat} {l:List Ch} {xs ys:List α} {v u:Value} {enc:α->List Value}
def RdL (enc:α->List Value) (w:World) (u:Value) (ys:List α):Prop:=(u=.slice none 0 0/\ys=[])\/∃ad c,u=.slice (some ad) ys.length c/\∀(j:Nat) z,(ys.flatMap enc)[j]? =some z->w.cell? (ad.add j)=some z
theorem RdL.row {n:Nat} {base:Nat} (h:w.ownsRow base e size v n (ys.flatMap enc)) (hn:n=ys.length):RdL enc w v ys:=by
 rcases h.2 with ⟨rfl,q⟩|⟨g,cap,cur,rfl,_,hb,h1,h2,h3,h4⟩
 ·exact .inl ⟨rfl,List.eq_nil_of_length_eq_zero o_⟩
 ·refine .inr ⟨_,cap,by rw[hn],fun j z hz=>?_⟩
  have hj:j<n * size:=by have:=(List.getElem?_eq_some_iff.1 hz).1;rwa[h.1]at this
  rw[Addr.add_mid,Nat.zero_add,World.ownsRow.cellAt h _ hj,hz]
theorem RdL.fl {f:List Nat} (h:flR e size enc w [v] ys f):RdL enc w v ys:=by
 rcases h with h|⟨rfl,_,b,o,e1,_⟩
 ·obtain⟨_,e1,o,_⟩:=kG h
  cases e1;exact RdL.row o rfl
 ·cases e1
  exact .inr ⟨_,0,rfl,fun j z hz=>by simp at hz⟩
theorem aLn {P:Program} {t:TypeId} {z:Value} {bytes:Nat} (T:SlT P t e z size bytes) (hl:∀a,(enc a).length=size) (h1:∀(a:α),∀u ∈ enc a,u.oneCell'=true) (h:M B w0 w (jH (aO enc) e size v xs::l)) (hy:RdL enc w u ys)
  (ty:TypeId) (h63:xs.length+ys.length<=maxLen) (hby:(xs.length+ys.length) * bytes<=140737488355328):
  ∃y cap w',(Builtin.append_ #[t,t] ty #[v,u]).run P w=.ok (.slice y (xs.length+ys.length) cap) w'/\M B w0 w' (jH (aO enc) e size (.slice y (xs.length+ys.length) cap) (xs++ys)::l):=by
 obtain⟨i,hi,hz,hs,hb⟩:=info_parts T.info;obtain⟨f,hf,_⟩:=h.first;obtain⟨_,e1,ho,rfl⟩:=kG hf;cases e1;rcases hy with ⟨rfl,rfl⟩|⟨ad,c,rfl,hc⟩
 ·obtain⟨x,c,rfl⟩:=xP ho
  exact⟨x,c,w,run_append_owned_none (P:=P) (w:=w) 0 t ty e i size T.und hi _ _ _ ho,by rw[List.append_nil];exact h⟩
 ·have fl:∀zs:List α,(zs.flatMap enc).length=zs.length * size:=fun zs=>by
   induction zs with
   |nil=>simp
   |cons a zs ih=>rw[List.flatMap_cons,List.length_append,ih,hl,List.length_cons,Nat.succ_mul,Nat.add_comm]
  obtain⟨v',w',hr,h2,h3,_,h4⟩:=run_append_own_at (P:=P) w 0 t ty e i z size bytes T.und hi hz hs hb T.zs T.pos v xs.length (xs.flatMap enc) ho ad ys.length c (ys.flatMap enc) (fl ys) hc
   (fun q hq=>by obtain⟨a,_,ha⟩:=List.mem_flatMap.1 hq;exact h1 a q ha) h63 hby (Nat.zero_le _)
  obtain⟨y,cap,rfl⟩:=xP h2;refine⟨y,cap,w',hr,h.turn fun f hf nd lo=>?_⟩;obtain⟨_,e1,_,rfl⟩:=kG hf;cases e1;refine⟨⟨h3.os,h3.tape,h3.output,h3.size,fun k hk hs=>h3.block k hk fun q=>hs (by rw[<-q];simp)⟩,_,lV (enc:=enc) (xs:=xs++ys) (by rw[List.flatMap_append,List.length_append];exact h2) hl,gV _,fun b hb=>?_⟩;rcases h4 with q|q
  ·rw[q]at hb;exact .inl hb
  ·rw[q]at hb
   rw[show b=w.heap.size by simpa using hb];exact .inr lr_
theorem aMS {P:Program} {t:TypeId} {z:Value} {bytes:Nat} (T:SlT P t e z size bytes) (hl:∀a,(enc a).length=size) (h1:∀(a:α),∀u ∈ enc a,u.oneCell'=true) (h:M B w0 w (jH (aO enc) e size v xs::l)) (hy:RdL enc w u ys)
  {o:Oper} {a:Act} {K:Act->World->Prop} {Q:Exit->Act->World->Prop} {s x:Operand} (ho:o.op=.call { callee:=.builtin .append,args:=#[s,x],argTypes:=#[t,t] }) {N:Nat} (hs:a.eval s=v) (hu:a.eval x=u)
  (h63:xs.length+ys.length<=maxLen) (hby:(xs.length+ys.length) * bytes<=140737488355328) (hN:N=xs.length+ys.length)
  (k:∀y cap w',M B w0 w' (jH (aO enc) e size (.slice y N cap) (xs++ys)::l)->K (a.put o.dst (.slice y N cap)) w'):o.wp P a w K Q:=by
 obtain⟨y,cap,w',hr,hM⟩:=aLn T hl h1 h hy o.type h63 hby;unfold Oper.wp execOp;simp only[ho,resolve,invoke,builtin,Sem.run_bind,Sem.run_pure,Result.andThen_ok,List.map_toArray,List.map_cons,List.map_nil,hs,hu,hr];rw[hN]at k;exact k y cap w' hM
theorem uB {P:Program} {t:TypeId} {z:Value} {bytes:Nat} (T:SlT P t e z size bytes) (hl:∀a,(enc a).length=size) (h1:∀(a:α),∀u ∈ enc a,u.oneCell'=true) (h:M B w0 w (jH (aO enc) e size v xs::l)) (hy:RdL enc w u ys)
  {ops:Array Oper} {rest:List Oper} {o:Oper} {a:Act} {Q:Exit->Act->World->Prop} {s x:Operand} (hgd:o.guard=none) (ho:o.op=.call { callee:=.builtin .append,args:=#[s,x],argTypes:=#[t,t] }) {N:Nat} (hs:a.eval s=v) (hu:a.eval x=u)
  (h63:xs.length+ys.length<=maxLen) (hby:(xs.length+ys.length) * bytes<=140737488355328) (hN:N=xs.length+ys.length)
  (k:∀y cap w',M B w0 w' (jH (aO enc) e size (.slice y N cap) (xs++ys)::l)->wpList P ops Q rest (a.put o.dst (.slice y N cap)) w'):wpList P ops Q (o::rest) a w:=
 wpList_plain hgd fun _ hK=>aMS T hl h1 h hy ho hs hu h63 hby hN fun y cap w' hM=>hK _ _ (k y cap w' hM)
end
end Go.Proofs.YtcblbdpdbggkbaaGreat
namespace Go.Proofs.YtcblbdpdbggkbaaGreat
open _root_.Go.Proofs.Tryz
open Go.RowKit Go.Sort
namespace N
def aNk (n:Nt) (e:En):List Int:=if wG n e=true then (bZ n e.node e.born).take e.num.toNat else []
def aK5 (n:Nt) (es:List En):List Int:=if jW n=true then es.flatMap (aNk n)else []
theorem aLB {l:List Int} (h:lA l=true):l.length<=100:=by
 unfold lA at h;rw[Bool.and_eq_true,decide_eq_true_eq]at h;exact h.2
theorem qF {n:Nt} (h:jW n=true):oC n/\nY n:=by
 unfold jW aCb at h;simp only[Bool.and_eq_true,decide_eq_true_eq,List.all_eq_true,List.mem_range]at h;obtain⟨⟨h1,h2,_⟩,h3,_⟩:=h;refine⟨aEx h1 h2 h3,fun i hi=>?_⟩;have:=h3 i hi;unfold oI kY at this;simp only[Bool.and_eq_true,decide_eq_true_eq]at this;exact this.2.1.2.2
end N
end Go.Proofs.YtcblbdpdbggkbaaGreat
namespace Go.Proofs.YtcblbdpdbggkbaaGreat
open _root_.Go.Proofs.Tryz
open Go.RowKit Go.Sort
theorem RdL.later {α:Type} {enc:α->List Value} {w w':World} {u:Value} {ys:List α} (h:RdL enc w u ys) (hb:Below w.heap.size w w'):RdL enc w' u ys:=by
 rcases h with ⟨rfl,rfl⟩|⟨ad,c,rfl,hc⟩
 ·exact .inl ⟨rfl,rfl⟩
 ·exact .inr ⟨ad,c,rfl,fun j z hz=>(hb.cell (World.block_lt_of_cell? _ _ (hc j z hz))).trans (hc j z hz)⟩
namespace N
theorem aMZ:SlT prog 39 213 (.agg #[iv 0,iv 0]) 2 16:=⟨underlying39,by kernel_rfl,rfl,by decide⟩
theorem aNb:SlT prog 42 152 (.agg #[iv 0,iv 0]) 2 16:=⟨underlying42,by kernel_rfl,rfl,by decide⟩
theorem aIn (a:Int):∀u ∈ aEv a,u.oneCell'=true:=fun u hu=>by rw[List.mem_singleton.1 hu];rfl
theorem aAl (a:Int × Int):∀u ∈ pN a,u.oneCell'=true:=fun u hu=>by
 rcases List.mem_cons.1 hu with rfl|hu
 ·rfl
 ·rw[List.mem_singleton.1 hu];rfl
theorem yA (w:World) {v:Value} {zs:List Int} (h:RdL aEv w v zs) (hl:zs.length<=1048576):
  Calls prog 274 #[v] w fun r w'=>∃y c,r=.returned (.slice y zs.length c)/\M w.heap.size w w' [jH (aO aEv) 3 1 (.slice y zs.length c) zs]:=by
 have q:=fun (w:World) (a:Option Addr) (n c n' c':Nat)=>Lib.run_eql_slice_nil (P:=prog) w _ _ a n c n' c' underlying23
 rcases h with ⟨rfl,rfl⟩|⟨ad,c,rfl,hc⟩
 ·go_enter func274,ntmps274
  exact zBT
 ·have H0:=hd_ (((M.start w).alloc #[] 3).empty (aO aEv) 1)
  have R:=hd_ (RdL.later (enc:=aEv) (.inr ⟨ad,c,rfl,hc⟩) H0.out.below);clear hc;go_enter func274,ntmps274
  go_wp2_with (at_builtin;go_loud (refine uB aNu (fun _=>rfl) aIn H0.out R.out rfl rfl rfl rfl (by rw[List.length_nil];unfold maxLen;omega) (by rw[List.length_nil];omega) (N:=zs.length) (by rw[List.length_nil,Nat.zero_add]) ?_);intro y c w' h1;have H1:=hd_ h1;clear h1)
  go_ret;exact⟨_,_,rfl,H1.out⟩
theorem aEI (w:World) {v:Value} {zs:List (Int × Int)} (h:RdL pN w v zs) (hl:zs.length<=1048576):
  Calls prog 275 #[v] w fun r w'=>∃y c,r=.returned (.slice y zs.length c)/\M w.heap.size w w' [jH (aO pN) 213 2 (.slice y zs.length c) zs]:=by
 have q:=fun (w:World) (a:Option Addr) (n c n' c':Nat)=>Lib.run_eql_slice_nil (P:=prog) w _ _ a n c n' c' underlying39
 rcases h with ⟨rfl,rfl⟩|⟨ad,c,rfl,hc⟩
 ·go_enter func275,ntmps275
  exact zBT
 ·have H0:=hd_ (((M.start w).alloc #[] 213).empty (aO pN) 2)
  have R:=hd_ (RdL.later (enc:=pN) (.inr ⟨ad,c,rfl,hc⟩) H0.out.below);clear hc;go_enter func275,ntmps275
  go_wp2_with (at_builtin;go_loud (refine uB aMZ (fun _=>rfl) aAl H0.out R.out rfl rfl rfl rfl (by rw[List.length_nil];unfold maxLen;omega) (by rw[List.length_nil];omega) (N:=zs.length) (by rw[List.length_nil,Nat.zero_add]) ?_);intro y c w' h1;have H1:=hd_ h1;clear h1)
  go_ret;exact⟨_,_,rfl,H1.out⟩
theorem aFh (w:World) {v:Value} {zs:List (Int × Int)} (h:RdL pN w v zs) (hl:zs.length<=1048576):
  Calls prog 276 #[v] w fun r w'=>∃y c,r=.returned (.slice y zs.length c)/\M w.heap.size w w' [jH (aO pN) 152 2 (.slice y zs.length c) zs]:=by
 have q:=fun (w:World) (a:Option Addr) (n c n' c':Nat)=>Lib.run_eql_slice_nil (P:=prog) w _ _ a n c n' c' underlying42
 rcases h with ⟨rfl,rfl⟩|⟨ad,c,rfl,hc⟩
 ·go_enter func276,ntmps276
  exact zBT
 ·have H0:=hd_ (((M.start w).alloc #[] 152).empty (aO pN) 2)
  have R:=hd_ (RdL.later (enc:=pN) (.inr ⟨ad,c,rfl,hc⟩) H0.out.below);clear hc;go_enter func276,ntmps276
  go_wp2_with (at_builtin;go_loud (refine uB aNb (fun _=>rfl) aAl H0.out R.out rfl rfl rfl rfl (by rw[List.length_nil];unfold maxLen;omega) (by rw[List.length_nil];omega) (N:=zs.length) (by rw[List.length_nil,Nat.zero_add]) ?_);intro y c w' h1;have H1:=hd_ h1;clear h1)
  go_ret;exact⟨_,_,rfl,H1.out⟩
theorem xB (w:World) {x:Option Addr} {k c:Nat} {rs:List (List Int)} {f:List Nat} (h:oD w [.slice x k c] rs f) (hk:rs.length<=1048576) (hr:∀r ∈ rs,r.length<=1048576):
  Calls prog 273 #[.slice x k c] w fun r w'=>∃y cy,r=.returned (.slice y rs.length cy)/\M w.heap.size w w' [oG (.slice y rs.length cy) rs]:=by
 obtain rfl:k=rs.length:=(aK h).1;have H1:=hd_ h;have HR:=hd_ hr;clear h hr;have KC:Hid (Calls prog 298 #[.slice x rs.length c,.func (.func 274) #[] #[]] w fun r w'=>∃y cy,r=.returned (.slice y rs.length cy)/\M w.heap.size w w' [oG (.slice y rs.length cy) rs]):=by
  refine hd_ ?_;go_enter func298,ntmps298;go_wp2;go_loopw [5,10] (fun y z wr=>∃(j cy:Nat) (xy:Option Addr),j<=rs.length/\z=.int .i64 (j:Int)/\y=.slice xy j cy/\M w.heap.size w wr [oG (.slice xy j cy) (rs.take j)]) (fun _ z _=>rs.length - (intOf z).toNat)
  case atStart=>exact⟨0,0,none,Nat.zero_le _,rfl,rfl,M.nil fG 23 1 (M.start w)⟩
  case round=>
   obtain⟨j,cy,xy,hj,rfl,rfl,hM⟩:=hrel;have H:=hd_ hM;clear hM
   by_cases hlt:j<rs.length
   ·obtain⟨r,hr⟩:∃r,rs[j]? =some r:=⟨_,List.getElem?_eq_getElem hlt⟩
    obtain⟨g,xr,cr,fr,rfl,_,_,rr,_,_,b1⟩:=mL H1.out hr;have RL:=hd_ ((RdL.fl rr).later H.out.below);have LL:r.length<=1048576:=HR.out r (List.mem_of_getElem? hr);have ST:=hd_ (aDA hr);have LT:Hid ((rs.take j).length=j):=hd_ (by rw[List.length_take];omega);replace b1:=cell_later H.out.below b1;have KI:=hd_ (yA wr RL.out LL);obtain⟨m,hm⟩:=nm_ r.length;rw[<-hm]at KI b1
    have j0:(0:Int)<=(j:Int):=o_;have j1:(j:Int)<(rs.length:Int):=o_;clear rr hr hm RL LL
    go_wp2_with fail
    refine KI.out.mono ?_;rintro r2 w2 ⟨y2,c2,rfl,hm⟩;have H3:=hd_ ((H.out.plus hm).soft.p1.alloc #[.slice y2 m c2] 23);clear hm KI H b1
    go_wp2_with (at_builtin;go_loud (refine aAf aIs yV H3.out rfl rfl rfl rfl (by rw[LT.out];unfold maxLen;omega) (by rw[LT.out];omega) (N:=j+1) (by rw[LT.out]) ?_);intro y3 c3 w3 h4;have H4:=hd_ h4;clear h4 H3)
    go_roundw
    case rel=>exact⟨j+1,c3,y3,o_,gn_,rfl,by rw[ST.out];exact H4.out⟩
    case measure=>simp[intOf];omega
   ·obtain rfl:j=rs.length:=o_
    have ST:Hid (rs.take rs.length=rs):=hd_ List.take_length;rw[ST.out]at H;go_wp2;go_ret;exact⟨_,_,rfl,H.out⟩
 go_enter func273,ntmps273
 go_wp2_with fail
 refine KC.out.mono ?_;rintro r w' ⟨y,cy,rfl,hm⟩;have H:=hd_ hm;clear hm;go_wp2;go_ret;exact⟨_,_,rfl,H.out⟩
end N
end Go.Proofs.YtcblbdpdbggkbaaGreat
namespace Go.Proofs.YtcblbdpdbggkbaaGreat
open _root_.Go.Proofs.Tryz
open Go.RowKit Go.Sort
namespace N
theorem aAw (w:World) {V:SV} {s:Sm} {f:List Nat} (h:qC w (cS V s) s f) (hl:rF s):
  Calls prog 217 #[.agg #[.slice V.xr V.nr V.cr,.slice V.xf V.nf V.cf,.slice V.xt V.nt V.ct,iv s.lo,iv s.al,.slice V.xk V.nk V.ck,iv s.ka]] w fun r w'=>∃U:SV,r=.returned (vS U s)/\M w.heap.size w w' [aQ.ch (cS U s) s]:=by
 obtain⟨fr,ff,ft,fk,hr,hf,ht,hk⟩:=aIy h;have LR:=hd_ (And.intro hl.r.1 hl.r.2);have LF:=hd_ hl.f;have LT:=hd_ hl.t;have LK:=hd_ hl.k;have HR:=hd_ hr;have HF:=hd_ (RdL.fl hf);have HT:=hd_ (RdL.fl ht);have HK:=hd_ (RdL.fl hk);clear h hl hr hf ht hk;have X:=((M.start w).alloc (cS V s) 46).alloc #[zn,zn,zn,iv 0,iv 0,zn,iv 0] 46;simp only[World.size_alloc]at X;obtain⟨p1,hp1⟩:=nm_ w.heap.size
 obtain⟨p2,hp2⟩:=nm_ (w.heap.size+1);obtain⟨W0,hW0⟩:=nm_ ((w.alloc (.cells (cS V s) 46)).alloc (.cells #[zn,zn,zn,iv 0,iv 0,zn,iv 0] 46));rw[<-hW0, <-hp2]at X;have H0:=hd_ (show M w.heap.size w W0 [bO p1 46 (cS V s),bO p2 46 #[zn,zn,zn,iv 0,iv 0,zn,iv 0]] by rw[hp1];exact X.p1);clear X;go_enter func217,ntmps217;go_upto_region 1 with fail
 rw[<-hW0, <-hp2, <-hp1];clear hW0 hp2 hp1;obtain⟨c0,c1,c2,c3,c4,c5,c6⟩:=H0.out.cells7;have K1:=hd_ (xB W0 (cA.below HR.out H0.out.below lr_) LR.out.1 (fun r hr=>by obtain⟨i,hi,rfl⟩:=List.getElem_of_mem hr;have:=LR.out.2 i hi;rwa[List.getD_eq_getElem?_getD,List.getElem?_eq_getElem hi]at this))
 go_wp2_with fail
 refine K1.out.mono ?_;rintro r v1 ⟨yr,dr,rfl,hm⟩;have X:=(H0.out.plus hm).p1;clear hm K1 H0 c0 c1 c2 c3 c4 c5 c6;obtain⟨c0,c1,c2,c3,c4,c5,c6⟩:=X.cells7;have cf:=X.free;have Y:=X.set (i:=0) (.slice yr s.rs.length dr);simp only[List.setIfInBounds_toArray,List.set_cons_zero,List.set_cons_succ]at Y;obtain⟨W1,hW⟩:=nm_ (v1.setCell ⟨p1,0,none⟩ (.slice yr s.rs.length dr));rw[<-hW]at Y;have H1:=hd_ Y
 clear X Y;go_upto_region 2 with fail
 rw[<-hW];clear hW c0 c1 c2 c3 c4 c5 c6 cf;obtain⟨c0,c1,c2,c3,c4,c5,c6⟩:=H1.out.cells7;have K2:=hd_ (yA W1 (HF.out.later H1.out.below) LF.out)
 go_wp2_with fail
 refine K2.out.mono ?_;rintro r v2 ⟨yf,df,rfl,hm⟩;have X:=(H1.out.plus hm).soft.p1;clear hm K2 H1 c0 c1 c2 c3 c4 c5 c6;obtain⟨c0,c1,c2,c3,c4,c5,c6⟩:=X.cells7;have cf:=X.free;have Y:=X.set (i:=1) (.slice yf s.zs.length df);simp only[List.setIfInBounds_toArray,List.set_cons_zero,List.set_cons_succ]at Y;obtain⟨W2,hW⟩:=nm_ (v2.setCell ⟨p1,1,none⟩ (.slice yf s.zs.length df));rw[<-hW]at Y;have H2:=hd_ Y
 clear X Y;go_upto_region 3 with fail
 rw[<-hW];clear hW c0 c1 c2 c3 c4 c5 c6 cf;obtain⟨c0,c1,c2,c3,c4,c5,c6⟩:=H2.out.cells7;have K3:=hd_ (aEI W2 (HT.out.later H2.out.below) LT.out)
 go_wp2_with fail
 refine K3.out.mono ?_;rintro r v3 ⟨yt,dt,rfl,hm⟩;have X:=(H2.out.plus hm).soft.p1;clear hm K3 H2 c0 c1 c2 c3 c4 c5 c6;obtain⟨c0,c1,c2,c3,c4,c5,c6⟩:=X.cells7;have cf:=X.free;have Y:=X.set (i:=2) (.slice yt s.ps.length dt);simp only[List.setIfInBounds_toArray,List.set_cons_zero,List.set_cons_succ]at Y;obtain⟨W3,hW⟩:=nm_ (v3.setCell ⟨p1,2,none⟩ (.slice yt s.ps.length dt));rw[<-hW]at Y;have H3:=hd_ Y
 clear X Y;go_upto_region 4 with fail
 rw[<-hW];clear hW c0 c1 c2 c3 c4 c5 c6 cf;obtain⟨c0,c1,c2,c3,c4,c5,c6⟩:=H3.out.cells7;have K4:=hd_ (aFh W3 (HK.out.later H3.out.below) LK.out)
 go_wp2_with fail
 refine K4.out.mono ?_;rintro r v4 ⟨yk,dk,rfl,hm⟩;have X:=(H3.out.plus hm).soft.p1;clear hm K4 H3 c0 c1 c2 c3 c4 c5 c6;obtain⟨c0,c1,c2,c3,c4,c5,c6⟩:=X.cells7;have cf:=X.free;have Y:=X.set (i:=5) (.slice yk s.ks.length dk);simp only[List.setIfInBounds_toArray,List.set_cons_zero,List.set_cons_succ]at Y;obtain⟨W4,hW⟩:=nm_ (v4.setCell ⟨p1,5,none⟩ (.slice yk s.ks.length dk));rw[<-hW]at Y;have H4:=hd_ Y
 clear X Y;go_upto_region 5 with fail
 rw[<-hW];clear hW c0 c1 c2 c3 c4 c5 c6 cf;obtain⟨U,hU⟩:∃U:SV,U=⟨yr,s.rs.length,dr,yf,s.zs.length,df,yt,s.ps.length,dt,yk,s.ks.length,dk⟩:=⟨_,rfl⟩
 have H5:=hd_ (show M w.heap.size w W4 (bO p1 46 (cS U s)::sO (.slice U.xk U.nk U.ck) s.ks::rS (.slice U.xt U.nt U.ct) s.ps::tJ (.slice U.xf U.nf U.cf) s.zs::oG (.slice U.xr U.nr U.cr) s.rs::[bO p2 46 #[zn,zn,zn,iv 0,iv 0,zn,iv 0]]) by rw[hU];exact H4.out);have EU:Hid (∀x:SV,x=⟨yr,s.rs.length,dr,yf,s.zs.length,df,yt,s.ps.length,dt,yk,s.ks.length,dk⟩->True):=hd_ fun _ _=>trivial
 obtain⟨c0,c1,c2,c3,c4,c5,c6⟩:=H5.out.cells7;have ev:(#[.slice yr s.rs.length dr,.slice yf s.zs.length df,.slice yt s.ps.length dt,iv s.lo,iv s.al,.slice yk s.ks.length dk,iv s.ka]:Array Value)=#[.slice U.xr U.nr U.cr,.slice U.xf U.nf U.cf,.slice U.xt U.nt U.ct,.int .i64 s.lo,.int .i64 s.al,.slice U.xk U.nk U.ck,.int .i64 s.ka]:=by rw[hU]
 go_wp2_with (go_loud (refine bE H5.out.p5 (vs:=[.slice U.xr U.nr U.cr,.slice U.xf U.nf U.cf,.slice U.xt U.nt U.ct,.int .i64 s.lo,.int .i64 s.al,.slice U.xk U.nk U.ck,.int .i64 s.ka]) (ys:=#[.slice U.xr U.nr U.cr,.slice U.xf U.nf U.cf,.slice U.xt U.nt U.ct,.int .i64 s.lo,.int .i64 s.al,.slice U.xk U.nk U.ck,.int .i64 s.ka]) rfl rfl rfl (by first|rfl|simp) vD rfl (by simp) (by simp[nO]) ?_);intro w9 h9;have H9:=hd_ h9;clear h9 H5)
 obtain⟨e0,e1,e2,e3,e4,e5,e6⟩:=H9.out.cells7;exact bodyPost_ret (v:=.agg #[.slice U.xr U.nr U.cr,.slice U.xf U.nf U.cf,.slice U.xt U.nt U.ct,iv s.lo,iv s.al,.slice U.xk U.nk U.ck,iv s.ka]) (by simp[results,results217,go_sem,e0,e1,e2,e3,e4,e5,e6]) rfl ⟨U,rfl,M.sumWhole ((H9.out.drop.drop).perm (List.reverse_perm [_,_,_,_] |>.symm))⟩
theorem xU (w:World) {V:SV} {e:En} {f:List Nat} (h:qC w (cS V (e.s)) e.s f) (hl:rF e.s):
  Calls prog 166 #[aBw V e] w fun r w'=>∃U,r=.returned (aBw U e)/\M w.heap.size w w' [aNf U e]:=by
 obtain⟨node,born,num,s⟩:=e;simp only at h hl;show Calls prog 166 #[.agg #[iv node,iv born,iv num,.slice V.xr V.nr V.cr,.slice V.xf V.nf V.cf,.slice V.xt V.nt V.ct,iv s.lo,iv s.al,.slice V.xk V.nk V.ck,iv s.ka]] w _
 have HS:=hd_ h;have HL:=hd_ hl;clear h hl;have X:=((M.start w).alloc #[iv node,iv born,iv num,.slice V.xr V.nr V.cr,.slice V.xf V.nf V.cf,.slice V.xt V.nt V.ct,iv s.lo,iv s.al,.slice V.xk V.nk V.ck,iv s.ka] 64).alloc #[iv 0,iv 0,iv 0,zn,zn,zn,iv 0,iv 0,zn,iv 0] 64;simp only[World.size_alloc]at X;obtain⟨p1,hp1⟩:=nm_ w.heap.size;obtain⟨p2,hp2⟩:=nm_ (w.heap.size+1)
 obtain⟨W0,hW0⟩:=nm_ ((w.alloc (.cells #[iv node,iv born,iv num,.slice V.xr V.nr V.cr,.slice V.xf V.nf V.cf,.slice V.xt V.nt V.ct,iv s.lo,iv s.al,.slice V.xk V.nk V.ck,iv s.ka] 64)).alloc (.cells #[iv 0,iv 0,iv 0,zn,zn,zn,iv 0,iv 0,zn,iv 0] 64));rw[<-hW0, <-hp2]at X
 have H0:=hd_ (show M w.heap.size w W0 [bO p1 64 #[iv node,iv born,iv num,.slice V.xr V.nr V.cr,.slice V.xf V.nf V.cf,.slice V.xt V.nt V.ct,iv s.lo,iv s.al,.slice V.xk V.nk V.ck,iv s.ka],bO p2 64 #[iv 0,iv 0,iv 0,zn,zn,zn,iv 0,iv 0,zn,iv 0]] by rw[hp1];exact X.p1);clear X;go_enter func166,ntmps166;go_upto_region 1 with fail
 rw[<-hW0, <-hp2, <-hp1];clear hW0 hp2 hp1;obtain⟨c0,c1,c2,c3,c4,c5,c6,c7,c8,c9⟩:=H0.out.cells10;have K1:=hd_ (aAw W0 (aQ.below HS.out H0.out.below lr_) HL.out)
 go_wp2_with fail
 refine K1.out.mono ?_;rintro r v1 ⟨U,rfl,hm⟩;have H1:=hd_ (H0.out.plus hm).p1;clear hm K1 H0 c0 c1 c2 c3 c4 c5 c6 c7 c8 c9
 go_wp2_with (first|(refine bE H1.out (vs:=[.slice U.xr U.nr U.cr,.slice U.xf U.nf U.cf,.slice U.xt U.nt U.ct,.int .i64 s.lo,.int .i64 s.al,.slice U.xk U.nk U.ck,.int .i64 s.ka]) (ys:=#[.int .i64 node,.int .i64 born,.int .i64 num,.slice U.xr U.nr U.cr,.slice U.xf U.nf U.cf,.slice U.xt U.nt U.ct,.int .i64 s.lo,.int .i64 s.al,.slice U.xk U.nk U.ck,.int .i64 s.ka]) rfl rfl rfl rfl vD rfl (by simp) (by simp[nO]) ?_;intro w2 h2;have H2:=hd_ h2;obtain⟨c0,c1,c2,c3,c4,c5,c6,c7,c8,c9⟩:=h2.cells10;clear h2 H1)|(refine bE H2.out.p2 (vs:=[.int .i64 node,.int .i64 born,.int .i64 num,.slice U.xr U.nr U.cr,.slice U.xf U.nf U.cf,.slice U.xt U.nt U.ct,.int .i64 s.lo,.int .i64 s.al,.slice U.xk U.nk U.ck,.int .i64 s.ka]) (ys:=#[.int .i64 node,.int .i64 born,.int .i64 num,.slice U.xr U.nr U.cr,.slice U.xf U.nf U.cf,.slice U.xt U.nt U.ct,.int .i64 s.lo,.int .i64 s.al,.slice U.xk U.nk U.ck,.int .i64 s.ka]) rfl rfl rfl rfl aMG rfl (by simp) (by simp[nO]) ?_;intro w3 h3;have H3:=hd_ h3;clear h3 H2))
 obtain⟨e0,e1,e2,e3,e4,e5,e6,e7,e8,e9⟩:=H3.out.cells10;exact bodyPost_ret (v:=.agg #[iv node,iv born,iv num,.slice U.xr U.nr U.cr,.slice U.xf U.nf U.cf,.slice U.xt U.nt U.ct,iv s.lo,iv s.al,.slice U.xk U.nk U.ck,iv s.ka]) (by simp[results,results166,go_sem,e0,e1,e2,e3,e4,e5,e6,e7,e8,e9]) rfl ⟨U,rfl,(H3.out.drop.drop.entry node born num)⟩
theorem uF (w:World) {x:Option Addr} {c:Nat} {es:List En} {f:List Nat} (h:fU TY w [.slice x es.length c] es f) (hk:es.length<=1048576) (hr:∀e ∈ es,rF e.s):
  Calls prog 96 #[.slice x es.length c] w fun r w'=>∃y cy,r=.returned (.slice y es.length cy)/\M w.heap.size w w' [jG (.slice y es.length cy) es]:=by
 have H1:=hd_ h;have HR:=hd_ hr;clear h hr;have KC:Hid (Calls prog 165 #[.slice x es.length c,.func (.func 166) #[] #[]] w fun r w'=>∃y cy,r=.returned (.slice y es.length cy)/\M w.heap.size w w' [jG (.slice y es.length cy) es]):=by
  refine hd_ ?_;go_enter func165,ntmps165;go_wp2;go_loopw [5,10] (fun y z wr=>∃(j cy:Nat) (xy:Option Addr),j<=es.length/\z=.int .i64 (j:Int)/\y=.slice xy j cy/\M w.heap.size w wr [jG (.slice xy j cy) (es.take j)]) (fun _ z _=>es.length - (intOf z).toNat)
  case atStart=>exact⟨0,0,none,Nat.zero_le _,rfl,rfl,M.nil aX 64 10 (M.start w)⟩
  case round=>
   obtain⟨j,cy,xy,hj,rfl,rfl,hM⟩:=hrel;have H:=hd_ hM;clear hM
   by_cases hlt:j<es.length
   ·obtain⟨e,he⟩:∃e,es[j]? =some e:=⟨_,List.getElem?_eq_getElem hlt⟩
    obtain⟨g,V,fe,rfl,_,_,sr,ca0,ca1,ca2,cas⟩:=jP H1.out he;have hWB:=H.out.below;have LL:rF e.s:=HR.out e (List.mem_of_getElem? he);have ST:=hd_ (aDA he);have LT:Hid ((es.take j).length=j):=hd_ (by rw[List.length_take];omega);replace ca0:=cell_later hWB ca0;replace ca1:=cell_later hWB ca1;replace ca2:=cell_later hWB ca2;have ca3:=cell_later hWB (cas 0 _ rfl)
    have ca4:=cell_later hWB (cas 1 _ rfl);have ca5:=cell_later hWB (cas 2 _ rfl);have ca6:=cell_later hWB (cas 3 _ rfl);have ca7:=cell_later hWB (cas 4 _ rfl);have ca8:=cell_later hWB (cas 5 _ rfl);have ca9:=cell_later hWB (cas 6 _ rfl);have j0:(0:Int)<=(j:Int):=o_;have j1:(j:Int)<(es.length:Int):=o_
    have h2:=H.out.alloc #[iv e.node,iv e.born,iv e.num,.slice V.xr V.nr V.cr,.slice V.xf V.nf V.cf,.slice V.xt V.nt V.ct,.int .i64 (e.s).lo,.int .i64 (e.s).al,.slice V.xk V.nk V.ck,.int .i64 (e.s).ka] 64;obtain⟨p7,hp7⟩:=nm_ wr.heap.size
    obtain⟨W,hW⟩:=nm_ (wr.alloc (.cells #[iv e.node,iv e.born,iv e.num,.slice V.xr V.nr V.cr,.slice V.xf V.nf V.cf,.slice V.xt V.nt V.ct,.int .i64 (e.s).lo,.int .i64 (e.s).al,.slice V.xk V.nk V.ck,.int .i64 (e.s).ka] 64));rw[<-hW, <-hp7]at h2;have H2:=hd_ h2;have KE:=hd_ (xU W (V:=V) (e:=e) (aQ.below sr h2.below lr_) LL);clear h2 cas hWB sr he LL H
    go_upto_region 5 with fail
    rw[<-hW, <-hp7];clear hW hp7 ca0 ca1 ca2 ca3 ca4 ca5 ca6 ca7 ca8 ca9;obtain⟨d0,d1,d2,d3,d4,d5,d6,d7,d8,d9⟩:=H2.out.cells10
    go_wp2_with fail
    refine KE.out.mono ?_;rintro r2 w2 ⟨U,rfl,hm⟩;have H3:=hd_ ((H2.out.plus hm).p2.alloc #[iv e.node,iv e.born,iv e.num,.slice U.xr U.nr U.cr,.slice U.xf U.nf U.cf,.slice U.xt U.nt U.ct,.int .i64 (e.s).lo,.int .i64 (e.s).al,.slice U.xk U.nk U.ck,.int .i64 (e.s).ka] 64);clear hm KE H2 d0 d1 d2 d3 d4 d5 d6 d7 d8 d9;unfold aBw
    go_wp2_with (at_builtin;go_loud (refine aAf aNl aG6 H3.out rfl rfl rfl rfl (by rw[LT.out];unfold maxLen;omega) (by rw[LT.out];omega) (N:=j+1) (by rw[LT.out]) ?_);intro y3 c3 w3 h4;have H4:=hd_ h4;clear h4 H3)
    go_roundw
    case rel=>exact⟨j+1,c3,y3,o_,gn_,rfl,by rw[ST.out];exact H4.out.p1.drop⟩
    case measure=>simp[intOf];omega
   ·obtain rfl:j=es.length:=o_
    have ST:Hid (es.take es.length=es):=hd_ List.take_length;rw[ST.out]at H;go_wp2;go_ret;exact⟨_,_,rfl,H.out⟩
 go_enter func96,ntmps96
 go_wp2_with fail
 refine KC.out.mono ?_;rintro r w' ⟨y,cy,rfl,hm⟩;have H:=hd_ hm;clear hm;go_wp2;go_ret;exact⟨_,_,rfl,H.out⟩
theorem qE {n:Nt} (h:jW n=true) {i:Int} (hi:in6 i 0 4=true):qK n (aD n i).known/\(aD n i).known≠[]:=by
 unfold jW at h;simp only[Bool.and_eq_true,List.all_eq_true,List.mem_range]at h;obtain⟨-, -,h3, -⟩:=h;obtain⟨a,b⟩:=cO.1 hi;have:=h3 i.toNat o_;rw[show ((i.toNat:Nat):Int)=i by omega]at this;unfold nN vZ at this;rw[Bool.and_eq_true,Bool.and_eq_true]at this;refine⟨lI.1 this.2.1,fun e=>?_⟩;have t1:=this.1;rw[e]at t1;simp[mA]at t1
theorem aB9 {n:Nt} {es:List En} (h:qK n es):es.length<=5:=by
 have h1:(es.map fun e=>e.node).Pairwise (· <·):=List.pairwise_map.2 h.asc;have h2:=aHv (lo:=0) h1 (fun x hx=>by
    obtain⟨e,he,rfl⟩:=List.mem_map.1 hx
    exact (h.all e he).node) o_
 rw[List.length_map]at h2;omega
theorem uE {n:Nt} {es:List En} (hf:nY n) (h:qK n es) (e:En) (he:e ∈ es):okS e.s=true/\e.s.al<=100/\rF e.s:=by
 have T:=h.all e he;have hl:((bZ n e.node e.born).take e.num.toNat).length<=100:=by
  have hr:lA (bZ n e.node e.born)=true:=aEN (by
      have a:=T.node
      unfold bA at a
      have:=hf e.node.toNat o_
      rwa[show ((e.node.toNat:Nat):Int)=e.node by omega]at this)
  have:=aLB hr;rw[List.length_take];omega
 rw[T.s];have:=(pV T.ok).1;exact⟨T.ok,o_,(aJV _).lens⟩
def rE (es:List En):Sm:=es.foldl (fun s e=>bY s e.s) fE
theorem aCL {es:List En} (h:∀e ∈ es,okS e.s=true/\e.s.al<=100) (hl:es.length<=5):∀j,j<=es.length->okS (rE (es.take j))=true/\(rE (es.take j)).al<=100 * j
 | 0,_=>⟨(bM _).2 aLg,Int.le_refl _⟩
 |j+1,hj=>by
  obtain⟨a,b⟩:=aCL h hl j o_;obtain⟨e,he⟩:∃e,es[j]? =some e:=⟨_,List.getElem?_eq_getElem hj⟩
  obtain⟨c,d⟩:=h e (List.mem_of_getElem? he);have hk:aY (rE (es.take j)) e.s=true:=(kB _ _).2 ⟨(bM _).1 a,(bM _).1 c,o_⟩;have st:rE (es.take (j+1))=bY (rE (es.take j)) e.s:=aHA _ _ he;obtain⟨o,q⟩:=aEH hk;rw[st];exact⟨(bM _).2 o,o_⟩
theorem aCp {es:List En} (h:∀e ∈ es,okS e.s=true/\e.s.al<=100) (hl:es.length<=5) {j:Nat} {e:En} (he:es[j]? =some e):rE (es.take (j+1))=bY (rE (es.take j)) e.s/\aY (rE (es.take j)) e.s=true:=by
 have hj:=(List.getElem?_eq_some_iff.1 he).1;obtain⟨a,b⟩:=aCL h hl j o_;obtain⟨c,d⟩:=h e (List.mem_of_getElem? he);exact⟨aHA _ _ he,(kB _ _).2 ⟨(bM _).1 a,(bM _).1 c,o_⟩⟩
def gH (n:Nt) (i:Int):List En:=if jW n=true/\in6 i 0 4=true then (aD n i).known else []
def yP (n:Nt) (i:Int):Option Sm:=if jW n=true/\in6 i 0 4=true then some (rE (aD n i).known)else none
theorem aGR (n:Nt) (i:Int):yP n i=if (gH n i).length=0 then none else some (rE (gH n i)):=by
 unfold yP gH
 by_cases h:jW n=true/\in6 i 0 4=true
 ·rw[if_pos h,if_pos h,if_neg (fun e=>(qE h.1 h.2).2 (List.eq_nil_of_length_eq_zero e))]
 ·rw[if_neg h,if_neg h];rfl
theorem sG (n:Nt) (i:Int):(gH n i).length<=5/\∀e ∈ gH n i,okS e.s=true/\e.s.al<=100/\rF e.s:=by
 unfold gH
 split
 ·rename_i h
  exact⟨aB9 (qE h.1 h.2).1,uE (qF h.1).2 (qE h.1 h.2).1⟩
 ·exact⟨Nat.zero_le _,fun e he=>by cases he⟩
theorem aBm (w:World) {x1 x2 x3 x4:Option Addr} {k1 c1 k2 c2 k3 c3 k4 c4:Nat} {n:Nt} (hn:jF w (.slice x1 k1 c1) (.slice x2 k2 c2) (.slice x3 k3 c3) (.slice x4 k4 c4) n) (i:Int):
  Calls prog 32 #[.agg #[.slice x1 k1 c1,.slice x2 k2 c2,.slice x3 k3 c3,.slice x4 k4 c4],iv i] w fun r w'=>∃y c,r=.returned (.slice y (gH n i).length c)/\M w.heap.size w w' [jG (.slice y (gH n i).length c) (gH n i)]:=by
 have HN:=hd_ hn;have KF:=hd_ (sG n i);have h0:=(M.start w).alloc #[.slice x1 k1 c1,.slice x2 k2 c2,.slice x3 k3 c3,.slice x4 k4 c4] 30;obtain⟨p2,hp2⟩:=nm_ w.heap.size;obtain⟨W1,hW1⟩:=nm_ (w.alloc (.cells #[.slice x1 k1 c1,.slice x2 k2 c2,.slice x3 k3 c3,.slice x4 k4 c4] 30));rw[<-hW1]at h0
 have H1:=hd_ (show M w.heap.size w W1 [bO p2 30 #[.slice x1 k1 c1,.slice x2 k2 c2,.slice x3 k3 c3,.slice x4 k4 c4]] by rw[hp2];exact h0);clear h0 hn;go_enter func32,ntmps32;go_upto_region 1 with fail
 rw[<-hW1, <-hp2];clear hW1 hp2;obtain⟨a0,a1,a2,a3⟩:=H1.out.cells4;obtain⟨q,hq⟩:=nm_ (jW n);have KN:=hd_ (aFO W1 (HN.out.below H1.out.below lr_));rw[<-hq]at KN;have HQ:=hd_ hq;clear hq
 have NIL:Hid (gH n i=[]->∀w',M w.heap.size w w' [bO p2 30 #[.slice x1 k1 c1,.slice x2 k2 c2,.slice x3 k3 c3,.slice x4 k4 c4]]->∃y c,Ending.returned (Value.slice none 0 0)=.returned (.slice y (gH n i).length c)/\M w.heap.size w w' [jG (.slice y (gH n i).length c) (gH n i)]):=hd_ fun e w' h=>by
  rw[e];exact⟨none,0,rfl,(M.nil aX 64 10 h).p1.drop⟩
 go_wp2_with fail
 refine KN.out.mono ?_;rintro r w2 ⟨rfl,hb⟩;have H2:=hd_ (H1.out.later hb);clear hb KN H1 a0 a1 a2 a3;cases q with
 |false=>
  have F:=hd_ (NIL.out (by unfold gH;rw[if_neg (by rw[<-HQ.out];simp)]) _ H2.out);go_wp2;go_ret;exact F.out
 |true=>
  cases gi:in6 i 0 4 with
  |false=>
   have G:=hd_ gi;have F:=hd_ (NIL.out (by unfold gH;rw[if_neg (by rw[gi];simp)]) _ H2.out);clear gi
   go_wp2_with fail
   refine (tC _ i G.out).mono ?_;rintro r w' ⟨rfl,hw⟩;rw[<-hw];clear hw w';go_wp2;go_ret;exact F.out
  |true=>
   have G:=hd_ gi;have EF:Hid (gH n i=(aD n i).known):=hd_ (by unfold gH;rw[if_pos ⟨HQ.out.symm,gi⟩]);obtain⟨iA,iB⟩:=cO.1 gi;obtain⟨f1,n1⟩:=HN.out.nodes;obtain rfl:k1=5:=(aK n1).1.trans (qF HQ.out.symm).1.nodes;obtain⟨j,rfl⟩:∃j:Nat,i=j:=⟨i.toNat,o_⟩
   have j5:j<5:=o_;obtain⟨nd,hnd⟩:∃nd,n.nodes[j]? =some nd:=⟨_,List.getElem?_eq_getElem (by rw[(qF HQ.out.symm).1.nodes];exact j5)⟩
   have eN:aD n (j:Int)=nd:=by unfold aD;rw[List.getD_eq_getElem?_getD,Int.toNat_natCast,hnd];rfl
   rw[eN]at EF;obtain⟨g1,xk,ck,fk,rfl,_,_,kr,_,_,b0,b1,_⟩:=gM n1 hnd;have j0:(0:Int)<=(j:Int):=o_;have j1:(j:Int)<5:=o_;have R:=hd_ kr;replace b1:=cell_later H2.out.below b1;obtain⟨a0,a1,a2,a3⟩:=H2.out.cells4;clear gi hnd eN b0 n1 kr iA iB
   have KE:=hd_ (uF w2 (es:=nd.known) ((aN aX _ _).below R.out H2.out.below lr_) (by rw[<-EF.out];have:=KF.out.1;omega) (by rw[<-EF.out];exact fun e he=>(KF.out.2 e he).2.2))
   go_wp2_with fail
   refine (nE _ _ G.out).mono ?_;rintro r w' ⟨rfl,hw⟩;rw[<-hw];clear hw w'
   go_wp2_with fail
   refine KE.out.mono ?_;rintro r w3 ⟨y,cy,rfl,hm⟩;have H3:=hd_ (H2.out.plus hm);clear hm KE H2 a0 a1 a2 a3 b1;go_wp2;go_ret;exact⟨y,cy,by rw[EF.out];rfl,by rw[EF.out];exact H3.out.p1.drop⟩
end N
end Go.Proofs.YtcblbdpdbggkbaaGreat
