/-
  What the laws of Reach need of the texts before it, part 3.
-/
import Derived.BigQuiet
import Derived.Carry
import Derived.Deep.AppendLies
import Derived.Deep.DrawnRows
import Derived.Deep.Matrix
import Derived.Deep.OwnRows
import Derived.Deep.QuietTactic
import Derived.Deep.RegionHeld3
import Derived.Deep.RegionLaw
import Derived.Deep.RegionLawGrows
import Derived.Deep.RegionWith
import Derived.IntWalk
import Derived.Lib.Hide
import Derived.Lib.QuietBelow
import Derived.Lib.SmallJoins
import Derived.LoopIn
import Derived.LoopNIn
import Derived.Maps.AppendAt
import Derived.OneCell
import Derived.OpenShut
import Derived.OwnWalkIn
import Derived.RangeFuncBound
import Derived.RangeFuncBox
import Derived.RangeFuncCalls
import Derived.RangeFuncLeaves
import Derived.RangeFuncNested
import Derived.Shelf.Abstract
import Derived.Shelf.RegionOpen
import Derived.StillTail
import Derived.TacticsInMore
import Derived.Test.YtcblbdpdbggkbaaGreatRows
import Derived.WalkKit
import Derived.WalkLawsBesides
import Derived.WalkSpells
import Derived.Test.YtcblbdpdbggkbaaGreatSReach2
set_option maxRecDepth 100000
set_option maxHeartbeats 16000000
set_option linter.unusedVariables false
set_option linter.unusedSectionVars false
set_option linter.unusedSimpArgs false
namespace Go.Proofs.YtcblbdpdbggkbaaGreat
open Go.RowKit
theorem Ints.cases {w:World} {v:Value} {zs:List Int} (h:Ints w v zs):
  (∃x c,v=.slice x zs.length c)/\(zs.length=0\/∃b o c,v=.slice (some ⟨b,o,none⟩) zs.length c/\∀i,i<zs.length->w.cell? ⟨b,o+i,none⟩=some (.int .i64 (zs.getD i 0))):=by
 rcases h with ⟨rfl,rfl⟩|⟨b,o,c,rfl,_,_,_,hc⟩
 ·exact⟨⟨_,_,rfl⟩,.inl rfl⟩
 ·exact⟨⟨_,_,rfl⟩,.inr ⟨b,o,c,rfl,hc⟩⟩
theorem Rws.cases {w:World} {v:Value} {rs:List (List Int)} (h:Rws w v rs):
  (∃x c,v=.slice x rs.length c)/\(rs.length=0\/∃b o c,v=.slice (some ⟨b,o,none⟩) rs.length c/\∀i,i<rs.length->∃x,w.cell? ⟨b,o+i,none⟩=some x/\Ints w x (rs.getD i [])):=by
 rcases h with ⟨rfl,rfl⟩|⟨b,o,c,rfl,_,_,_,hc⟩
 ·exact⟨⟨_,_,rfl⟩,.inl rfl⟩
 ·exact⟨⟨_,_,rfl⟩,.inr ⟨b,o,c,rfl,hc⟩⟩
theorem ne_of_len {α:Type} [DecidableEq α] {a b:List α} (h:a.length≠b.length):decide (a=b)=false:=by
 simp only[decide_eq_false_iff_not];exact fun e=>h (by rw[e])
theorem ne_of_get {α:Type} [DecidableEq α] {a b:List α} {i:Nat} {d:α} (h:a.getD i d≠b.getD i d):decide (a=b)=false:=by
 simp only[decide_eq_false_iff_not];exact fun e=>h (by rw[e])
theorem eq_of_get {α:Type} [DecidableEq α] {a b:List α} {n:Nat} {d:α} (ha:a.length=n) (hb:b.length=n) (h:∀i,i<n->a.getD i d=b.getD i d):decide (a=b)=true:=by
 simp only[decide_eq_true_eq];apply List.ext_getElem o_;intro i h1 h2;have:=h i o_;simpa[h1,h2]using this
theorem lkInts_short (x y:Option Addr) (n m c d:Nat) (w:World) (h:n≠m\/(n=0/\m=0)):
  Calls Tryz.prog 28 #[.slice x n c,.slice y m d] w fun e w'=>e=.returned (.bool (decide (n=m)))/\w=w':=by
 rcases h with h|⟨rfl,rfl⟩
 ·have hn:((n:Int) != (m:Int))=true:=by simp;omega
  go_enter Tryz.func28,Tryz.ntmps28;go_wp2;go_ret;exact⟨by simpa using h,rfl⟩
 ·go_enter Tryz.func28,Tryz.ntmps28
  go_wp2;refine wp_loop_rounds 1 ?_;rw[rounds_succ];go_wp2;go_ret;exact⟨by simp,rfl⟩
theorem lkInts_long (b o c b' o' c' n:Nat) (za zb:List Int) (w:World) (hn:n<=maxLen) (ha:za.length=n) (hb:zb.length=n)
  (hca:∀i,i<n->w.cell? ⟨b,o+i,none⟩=some (.int .i64 (za.getD i 0))) (hcb:∀i,i<n->w.cell? ⟨b',o'+i,none⟩=some (.int .i64 (zb.getD i 0))):
  Calls Tryz.prog 28 #[.slice (some ⟨b,o,none⟩) n c,.slice (some ⟨b',o',none⟩) n c'] w fun e w'=>e=.returned (.bool (decide (za=zb)))/\∃m,w'=w.drewN m:=by
 unfold maxLen at hn;have Ha:=hd_ ha;have Hb:=hd_ hb;have Hca:=hd_ hca;have Hcb:=hd_ hcb;clear ha hb hca hcb;go_enter Tryz.func28,Tryz.ntmps28;go_wp2;go_loopw [5] (fun i wr=>∃k:Nat,k<=n/\i=.int .i64 k/\(∀j,j<k->za.getD j 0=zb.getD j 0)/\∃m,wr=w.drewN m) (fun i _=>n - (intOf i).toNat)
 case atStart=>exact⟨0,Nat.zero_le _,rfl,fun _ h=>absurd h (Nat.not_lt_zero _),0,rfl⟩
 case round=>
  obtain⟨k,hk,rfl,heq,m,rfl⟩:=hrel;have HE:=hd_ heq;clear heq
  by_cases hlt:k<n
  ·have h1:=Hca.out k hlt
   have h2:=Hcb.out k hlt;obtain⟨x,hx⟩:∃x,za.getD k 0=x:=⟨_,rfl⟩
   obtain⟨y,hy⟩:∃y,zb.getD k 0=y:=⟨_,rfl⟩
   rw[hx]at h1;rw[hy]at h2;have HX:=hd_ hx;have HY:=hd_ hy;clear hx hy;have k0:(0:Int)<=(k:Int):=o_;have k1:(k:Int)<(n:Int):=o_
   by_cases he:x=y
   ·subst he
    go_wp2
    go_quiet (fail)
    go_wp2;go_roundw
    case rel=>exact⟨k+1,o_,by go_num,fun j hj=>by
          by_cases h:j<k
          · exact HE.out j h
          · obtain rfl:j=k:=o_
            rw[HX.out,HY.out],_,rfl⟩
    case measure=>simp[intOf];omega
   ·have he':(x != y)=true:=by simpa using he
    go_wp2
    go_quiet (fail)
    go_wp2;go_ret;exact⟨ret_bool (ne_of_get (i:=k) (d:=0) (by rw[HX.out,HY.out];exact he)).symm,_,World.drewN_drewN _ _ _⟩
  ·have fin:Hid (decide (za=zb)=true):=eq_of_get (d:=0) Ha.out Hb.out (fun i hi=>HE.out i o_)
   go_wp2;go_ret;exact⟨ret_bool fin.out.symm,_,rfl⟩
theorem lkInts_at (w:World) (u v:Value) (za zb:List Int) (ha:Ints w u za) (hb:Ints w v zb) (hl:za.length<=maxLen):
  Calls Tryz.prog 28 #[u,v] w fun e w'=>e=.returned (.bool (decide (za=zb)))/\∃m,w'=w.drewN m:=by
 obtain⟨⟨x,c,hx⟩,qa⟩:=ha.cases;obtain⟨⟨y,d,hy⟩,qb⟩:=hb.cases
 by_cases h:za.length≠zb.length\/(za.length=0/\zb.length=0)
 ·rw[hx,hy]
  refine (lkInts_short x y _ _ c d w h).mono fun e w' ⟨he,hw⟩=>⟨?_,0,hw.symm⟩
  rw[he];refine ret_bool ?_;rcases h with h|⟨h1,h2⟩
  ·rw[ne_of_len h];simpa using h
  ·rw[List.eq_nil_of_length_eq_zero h1,List.eq_nil_of_length_eq_zero h2];simp
 ·have e:za.length=zb.length:=o_
  rcases qa with qa|⟨b,o,c,rfl,hca⟩
  ·omega
  rcases qb with qb|⟨b',o',c',rfl,hcb⟩
  ·omega
  rw[<-e]at hcb ⊢;exact lkInts_long b o c b' o' c' _ za zb w hl rfl e.symm hca hcb
def rowOkB (zs:List Int):Bool:=zs.length==8&&zs.all fun z=>decide (0<=z)&&decide (z<=2000)
def okB (rs:List (List Int)):Bool:=rs.length==3&&rs.all fun zs=>rowOkB zs&&zs.sum==(rs.getD 0 []).sum&&decide (zs.sum<=2000)
def Good (rs:List (List Int)) (i:Nat):Prop:=(rs.getD i []).length=8/\(∀k,k<8->0<=(rs.getD i []).getD k 0/\(rs.getD i []).getD k 0<=2000)/\(rs.getD i []).sum=(rs.getD 0 []).sum/\(rs.getD i []).sum<=2000
theorem okB_iff (rs:List (List Int)):okB rs=true↔rs.length=3/\∀i,i<3->Good rs i:=by
 unfold okB Good rowOkB;simp only[Bool.and_eq_true,beq_iff_eq,List.all_eq_true,decide_eq_true_eq]
 constructor
 ·rintro⟨h3,h⟩
  refine⟨h3,fun i hi=>?_⟩;have hm:rs.getD i [] ∈ rs:=getD_mem _ _ _ o_;obtain⟨⟨⟨h8,ha⟩,hs⟩,hl⟩:=h _ hm;refine⟨h8,fun k hk=>?_,hs,hl⟩;exact ha _ (getD_mem _ _ _ o_)
 ·rintro⟨h3,h⟩
  refine⟨h3,fun zs hz=>?_⟩;obtain⟨i,hi,rfl⟩:=List.getElem_of_mem hz;have h':=h i o_;simp only[List.getD_eq_getElem?_getD,List.getElem?_eq_getElem hi,Option.getD_some]at h' ⊢;refine⟨⟨⟨h'.1,fun z hz=>?_⟩,h'.2.2.1⟩,h'.2.2.2⟩;obtain⟨k,hk,rfl⟩:=List.getElem_of_mem hz;have h2:=h'.2.1 k o_;simpa[hk]using h2
theorem okB_false {rs:List (List Int)} (h:rs.length≠3\/∃i,i<3/\¬Good rs i):okB rs=false:=by
 cases hb:okB rs with
 |false=>rfl
 |true=>
  obtain⟨h3,hg⟩:=(okB_iff rs).1 hb;rcases h with h|⟨i,hi,hn⟩
  ·exact absurd h3 h
  ·exact absurd (hg i hi) hn
theorem spOk_len (u:Value) (b o cap:Nat) (n:Nat) (w:World) (h:n≠3) (hu:u=.slice none 0 0/\n=0\/u=.slice (some ⟨b,o,none⟩) n cap):
  Calls Tryz.prog 219 #[.agg #[u]] w fun e w'=>e=.returned (.bool false)/\Below w.heap.size w w':=by
 rcases hu with ⟨rfl,rfl⟩|rfl
 ·go_enter Tryz.func219,Tryz.ntmps219
  go_wp2;go_ret;exact⟨rfl,(Below.refl _ _).alloc lr_ _⟩
 ·have hn:((n:Int)==3)=false:=by simp;omega
  go_enter Tryz.func219,Tryz.ntmps219;go_wp2;go_ret;exact⟨rfl,(Below.refl _ _).alloc lr_ _⟩
theorem spOk_three (b o cap:Nat) (rs:List (List Int)) (w:World) (h3:rs.length=3) (hb:b<w.heap.size)
  (hc:∀i,i<3->∃x,w.cell? ⟨b,o+i,none⟩=some x/\Ints w x (rs.getD i [])):
  Calls Tryz.prog 219 #[.agg #[.slice (some ⟨b,o,none⟩) 3 cap]] w fun e w'=>e=.returned (.bool (okB rs))/\Below w.heap.size w w':=by
 have hok:=hd_ (okB_iff rs);have hno:=hd_ (@okB_false rs);have Hc:=hd_ hc;have H3:=hd_ h3;clear hc h3;go_enter Tryz.func219,Tryz.ntmps219;go_wp2;go_loopw [3] (fun i wr=>∃k:Nat,k<=3/\i=.int .i64 k/\(∀j,j<k->Good rs j)/\Below w.heap.size w wr/\wr.cell? ⟨w.heap.size,0,none⟩=some (.slice (some ⟨b,o,none⟩) 3 cap)) (fun i _=>3 - (intOf i).toNat)
 case atStart=>exact⟨0,Nat.zero_le _,rfl,fun _ h=>by omega,(Below.refl _ _).alloc lr_ _,by simp⟩
 case round=>
  obtain⟨k,hk,rfl,hgood,hbl,hbox⟩:=hrel;have Hbl:=hd_ hbl;clear hbl
  by_cases hlt:k<3
  ·have hltB:decide ((k:Int)<3)=true:=by simp;omega
   obtain⟨x,hx,hi⟩:=Hc.out k hlt;rw[<-Hbl.out.cell (p:=⟨b,o+k,none⟩) hb]at hx;obtain⟨zs,hzs⟩:=nm_ (rs.getD k []);rw[<-hzs]at hi;have Hzs:=hd_ hzs;have Hgood:=hd_ hgood;clear hzs hgood;have bad:Hid (¬Good rs k->okB rs=false):=fun h=>hno.out (.inr ⟨k,hlt,h⟩)
   rcases hi with ⟨rfl,hz0⟩|⟨b1,o1,c1,rfl,hl1,hm1,hb1,hc1⟩
   ·have hz0':=hd_ hz0
    clear hz0;go_wp2;go_ret;exact⟨ret_bool (bad.out (fun h=>by have:=h.1;rw[<-Hzs.out,hz0'.out]at this;simp at this)).symm,Hbl.out⟩
   by_cases h8:zs.length=8
   ·rw[h8]at hx hc1
    replace hc1:∀(i:Nat),i<8->wr.cell? ⟨b1,o1+i,none⟩=some (.int .i64 (zs.getD i 0)):=fun i hi=>by rw[Hbl.out.cell (p:=⟨b1,o1+i,none⟩) hb1];exact hc1 i hi
    have H8:=hd_ h8;have Hc1:=hd_ hc1;clear h8 hc1 hl1 hm1;go_wp2
    go_loop [4] (fun j=>∃m:Nat,m<=8/\j=.int .i64 m/\∀i,i<m->0<=zs.getD i 0/\zs.getD i 0<=2000) (fun j=>8 - (intOf j).toNat)
    case atStart=>exact⟨0,Nat.zero_le _,rfl,fun _ h=>by omega⟩
    case round=>
     obtain⟨m,hm,rfl,hin⟩:=hrel;have Hin:=hd_ hin;clear hin
     by_cases hmt:m<8
     ·have hcm:=Hc1.out m hmt
      obtain⟨y,hy⟩:=nm_ (zs.getD m 0);rw[<-hy]at hcm;have Hy:=hd_ hy;clear hy
      by_cases hr:0<=y/\y<=2000
      ·obtain⟨r0,r1⟩:=hr
       go_wp2_with (go_at_call 66;refine (l6In_yes _ _ _ _ r0 r1).mono ?_;rintro e w' ⟨rfl,rfl⟩)
       go_round
       case rel=>exact⟨m+1,o_,by go_num,fun i hi=>by
                by_cases h:i<m
                · exact Hin.out i h
                · obtain rfl:i=m:=o_
                  rw[<-Hy.out];exact⟨r0,r1⟩⟩
       case measure=>simp[intOf];omega
      ·have hr':y<0\/2000<y:=o_
       clear hr
       go_wp2_with (go_at_call 66;refine (l6In_no _ _ _ _ hr').mono ?_;rintro e w' ⟨rfl,rfl⟩)
       go_ret;exact⟨ret_bool (bad.out (fun h=>by have h':=h.2.1 m hmt;rw[<-Hzs.out, <-Hy.out]at h';omega)).symm,Hbl.out⟩
     ·have hin8:Hid (∀i,i<8->0<=zs.getD i 0/\zs.getD i 0<=2000):=fun i hi=>Hin.out i o_
      go_wp2;obtain⟨b0,o0,c0,zs0,hx0,Hzs0,H80,Hin0,Hc0⟩:∃b0 o0 c0 zs0,wr.cell? ⟨b,o,none⟩=some (.slice (some ⟨b0,o0,none⟩) 8 c0)/\Hid (zs0=rs.getD 0 [])/\Hid (zs0.length=8)/\Hid (∀i,i<8->0<=zs0.getD i 0/\zs0.getD i 0<=2000)/\
        Hid (∀(i:Nat),i<8->wr.cell? ⟨b0,o0+i,none⟩=some (.int .i64 (zs0.getD i 0))):=by
       rcases Nat.eq_zero_or_pos k with h0|h0
       ·subst h0
        exact⟨b1,o1,c1,zs,hx,Hzs.out,H8.out,hin8.out,Hc1.out⟩
       ·obtain⟨x0,hx0,hi0⟩:=Hc.out 0 o_
        rw[<-Hbl.out.cell (p:=⟨b,o+0,none⟩) hb]at hx0;have g0:=Hgood.out 0 h0;rcases hi0 with ⟨_,hz⟩|⟨b0,o0,c0,rfl,_,_,hb0,hc0⟩
        ·have:=g0.1;rw[hz]at this;simp at this
        ·rw[g0.1]at hx0 hc0
         exact⟨b0,o0,c0,_,hx0,rfl,g0.1,g0.2.1,fun i hi=>by rw[Hbl.out.cell (p:=⟨b0,o0+i,none⟩) hb0];exact hc0 i hi⟩
      obtain⟨S,hS⟩:∃S,zs.sum=S:=⟨_,rfl⟩
      obtain⟨S0,hS0⟩:∃S,zs0.sum=S:=⟨_,rfl⟩
      have HS:=hd_ hS;have HS0:=hd_ hS0;have HSS:Hid (Good rs k->S=S0/\S<=2000):=fun h=>by have:=h.2.2;rw[<-Hzs0.out, <-Hzs.out,hS,hS0]at this;exact this
      have HSG:Hid (S=S0->S<=2000->Good rs k):=fun h1 h2=>by
       unfold Good;rw[<-Hzs0.out, <-Hzs.out,hS,hS0];exact⟨H8.out,hin8.out,h1,h2⟩
      clear hS hS0;have k1:∀W:World,(∀i,i<8->W.cell? ⟨b1,o1+i,none⟩=some (.int .i64 (zs.getD i 0)))->Calls Tryz.prog 224 #[.slice (some ⟨b1,o1,none⟩) 8 c1] W fun e w'=>e=.returned (iv S)/\W=w':=fun W h=>by
       rw[<-HS.out];exact l1Sum_at b1 o1 c1 8 zs W H8.out o_ hin8.out h
      have k0:∀W:World,(∀i,i<8->W.cell? ⟨b0,o0+i,none⟩=some (.int .i64 (zs0.getD i 0)))->Calls Tryz.prog 224 #[.slice (some ⟨b0,o0,none⟩) 8 c0] W fun e w'=>e=.returned (iv S0)/\W=w':=fun W h=>by
       rw[<-HS0.out];exact l1Sum_at b0 o0 c0 8 zs0 W H80.out o_ Hin0.out h
      have K1:=hd_ k1;have K0:=hd_ k0;clear k0 k1;have ki0:(0:Int)<=(k:Int):=o_;have ki3:(k:Int)<3:=o_
      by_cases he:S=S0
      ·subst he
       by_cases h2:S<=2000
       ·have h2':¬ 2000<S:=o_
        go_quiet (first
                  |((with_reducible refine quiet_same' (K1.out _ ?_));exact Hc1.out)
                  |((with_reducible refine quiet_same' (K0.out _ ?_));exact Hc0.out))
        go_wp2;go_roundw
        case rel=>exact⟨k+1,o_,by go_num,fun j hj=>by
                  by_cases h:j<k
                  · exact Hgood.out j h
                  · obtain rfl:j=k:=o_
                    exact HSG.out rfl h2,below_drewN Hbl.out _,by simpa using hbox⟩
        case measure=>simp[intOf];omega
       ·have h2':2000<S:=o_
        go_quiet (first
                  |((with_reducible refine quiet_same' (K1.out _ ?_));exact Hc1.out)
                  |((with_reducible refine quiet_same' (K0.out _ ?_));exact Hc0.out))
        go_wp2;go_ret;exact⟨ret_bool (bad.out (fun h=>by have:=(HSS.out h).2;omega)).symm,below_drewN Hbl.out _⟩
      ·have he':(S != S0)=true:=by simpa using he
       have he2:decide (S=S0)=false:=by simpa using he
       go_quiet (first
                |((with_reducible refine quiet_same' (K1.out _ ?_));exact Hc1.out)
                |((with_reducible refine quiet_same' (K0.out _ ?_));exact Hc0.out))
       go_wp2;go_ret;exact⟨ret_bool (bad.out (fun h=>he (HSS.out h).1)).symm,below_drewN Hbl.out _⟩
   ·have hn8:((zs.length:Int)==8)=false:=by simp;omega
    clear hc1 hl1 hm1;go_wp2;go_ret;exact⟨ret_bool (bad.out (fun h=>by have:=h.1;rw[<-Hzs.out]at this;exact h8 this)).symm,Hbl.out⟩
  ·go_wp2
   go_ret;exact⟨ret_bool ((hok.out).2 ⟨H3.out,fun i hi=>hgood i o_⟩).symm,Hbl.out⟩
theorem spOk_any (u:Value) (rs:List (List Int)) (w:World) (h:Rws w u rs):
  Calls Tryz.prog 219 #[.agg #[u]] w fun e w'=>e=.returned (.bool (okB rs))/\Below w.heap.size w w':=by
 rcases h with ⟨rfl,rfl⟩|⟨b,o,cap,rfl,_,_,hb,hc⟩
 ·exact spOk_len _ 0 0 0 0 w o_ (.inl ⟨rfl,rfl⟩)
 ·by_cases h3:rs.length=3
  ·rw[h3]at hc ⊢
   exact spOk_three b o cap rs w h3 hb hc
  ·refine (spOk_len _ b o cap _ w h3 (.inr rfl)).mono fun e w' ⟨he,hb'⟩=>⟨?_,hb'⟩
   rw[okB_false (.inl h3)];exact he
def zeros:List Int:=[0,0,0,0,0,0,0,0]
theorem info_int:(Tryz.prog.info? 3).map (fun i=>(i.zero,i.size,i.bytes))=some (some (.int .i64 0),1,8):=by kernel_rfl
theorem info_ints:(Tryz.prog.info? 23).map (fun i=>(i.zero,i.size,i.bytes))=some (some (.slice none 0 0),1,24):=by kernel_rfl
theorem make8:∀w,(Instr.makeSlice 23 (iv 8) (iv 8)).run Tryz.prog w=.ok (.slice (some ⟨w.heap.size,0,none⟩) 8 8) (w.alloc (.cells (ints zeros).toArray 3)):=fun _=>by kernel_rfl
def zero3:List (List Int):=[zeros,zeros,zeros]
theorem cell_block {w:World} {b:Nat} {u:Value} {t:TypeId} (h:w.heap[b]? =some (.cells #[u] t (0,0))):w.cell? ⟨b,0,none⟩=some u/\w.frozen? ⟨b,0,none⟩=false/\b<w.heap.size:=
 ⟨by simp[World.cell?,h],by simp[World.frozen?,h],(Array.getElem?_eq_some_iff.1 h).1⟩
theorem OwnR.nil (w:World) (B:Nat):OwnR w B zn [] (fun _=>0) (fun _=>0):=
 ⟨World.ownsRow_nil w B _ 1,fun i h=>absurd h (Nat.not_lt_zero i),fun i h=>absurd h (Nat.not_lt_zero i),fun i _ h=>absurd h (Nat.not_lt_zero i)⟩
theorem OwnR.hdr_lt {w:World} {B:Nat} {u:Value} {rs:List (List Int)} {G C:Nat->Nat} (h:OwnR w B u rs G C):∀k,u.ownBlock=some k->B<=k/\k<w.heap.size:=h.hdr.lt
theorem block_keep {w w':World} {row:Option Nat} {b:Nat} {o:Obj} (h:w.heap[b]? =some o) (hg:w.grownBy w' row) (hr:row≠some b):w'.heap[b]? =some o:=by
 rw[hg.block b (Array.getElem?_eq_some_iff.1 h).1 (fun e=>hr e.symm)];exact h
theorem make_own (w:World) (B:Nat) (zs:List Int) (hB:B<=w.heap.size) (hl:zs.length<=maxLen):
  (w.alloc (.cells (ints zs).toArray 3)).ownsRow B 3 1 (.slice (some ⟨w.heap.size,0,none⟩) zs.length zs.length) zs.length (ints zs):=by
 have:=World.ownsRow_lit (base:=B) (e:=3) (size:=1) w (ints zs).toArray zs.length hB hl (by simp[ints]);simpa using this
theorem new2 (w:World) (o o':Obj):((w.alloc o).alloc o').drew.heap[w.heap.size+1]? =some o':=by
 have:=heap_alloc_new (w.alloc o) o';rw[show (w.alloc o).heap.size=w.heap.size+1 by simp]at this;exact this
theorem box_far {w w1:World} {o o':Obj} {b:Nat} {u:Value} {row:Option Nat} (c:w.cell? ⟨b,0,none⟩=some u) (f:w.frozen? ⟨b,0,none⟩=false) (l:b<w.heap.size)
  (hg:((w.alloc o).alloc o').drew.grownBy w1 row) (hr:row≠some b):w1.cell? ⟨b,0,none⟩=some u/\w1.frozen? ⟨b,0,none⟩=false:=by
 have l1:b<(w.alloc o).heap.size:=by simp;omega
 have l2:b<((w.alloc o).alloc o').drew.heap.size:=by simp;omega
 rw[hg.cell_far ⟨b,0,none⟩ l2 (Ne.symm hr),hg.frozen_far ⟨b,0,none⟩ l2 (Ne.symm hr)];simp only[World.cell?_drew,World.frozen?_drew];rw[World.cell?_alloc_past _ _ _ l1,World.cell?_alloc_past _ _ _ l,World.frozen?_alloc_past _ _ _ l1,World.frozen?_alloc_past _ _ _ l];exact⟨c,f⟩
theorem grownBy_drew {w w':World} {row:Option Nat} (h:w.grownBy w' row):w.grownBy w'.drew row:=⟨h.os,h.tape,h.output,h.size,h.block⟩
theorem row_added {w wr X w1:World} {S R B W g c gg cap:Nat} {o:Obj} {u:Value} {t:TypeId} {rs:List (List Int)} {G C:Nat->Nat} {zs:List Int}
  (HO:OwnR wr B u rs G C) (hX:wr.grownBy X none) (hz:X.ownsRow B 3 1 (.slice (some ⟨g,0,none⟩) zs.length c) zs.length (ints zs)) (hg:wr.heap.size<=g)
  (hown1:w1.ownsRow B 23 1 (.slice (some ⟨gg,0,none⟩) (rs.length+1) cap) (rs.length+1) ((List.range rs.length).map (rowV rs G C)++[.slice (some ⟨g,0,none⟩) zs.length c]))
  (hgrow:X.grownBy w1 u.ownBlock) (hat:u.ownBlock=some gg\/gg=X.heap.size)
  (hR:wr.heap[R]? =some (.cells #[u] t (0,0))) (hS:wr.heap[S]? =some o) (hRB:R<B) (hSB:S<B) (hSR:S≠R) (hbl:Below W w wr) (hWR:W<=R) (hWw:W<=w.heap.size):
  ∃G' C',OwnR (w1.setCell ⟨R,0,none⟩ (.slice (some ⟨gg,0,none⟩) (rs.length+1) cap)) B (.slice (some ⟨gg,0,none⟩) (rs.length+1) cap) (rs++[zs]) G' C'/\
   (w1.setCell ⟨R,0,none⟩ (.slice (some ⟨gg,0,none⟩) (rs.length+1) cap)).heap[S]? =some o/\
   (w1.setCell ⟨R,0,none⟩ (.slice (some ⟨gg,0,none⟩) (rs.length+1) cap)).heap[R]? =some (.cells #[.slice (some ⟨gg,0,none⟩) (rs.length+1) cap] t (0,0))/\
   Below W w (w1.setCell ⟨R,0,none⟩ (.slice (some ⟨gg,0,none⟩) (rs.length+1) cap)):=by
 have lt:∀k,u.ownBlock=some k->B<=k/\k<wr.heap.size:=HO.hdr_lt
 have HX:=HO.grown hX (fun _ e=>by cases e);have h1:=HX.snoc hz (fun e=>by have:=(lt g e).2;omega) (fun i hi e=>by have:=((HO.row i hi).lt (G i) rfl).2;omega) hown1 hgrow hat;have hRX:=block_keep hR hX (by simp);have hSX:=block_keep hS hX (by simp);have hR1:=block_keep hRX hgrow (fun e=>by have:=(lt R e).1;omega);have hS1:=block_keep hSX hgrow (fun e=>by have:=(lt S e).1;omega)
 refine⟨_,_,h1.grown (grownBy_setCell w1 ⟨R,0,none⟩ _) (fun k e=>by simp at e;omega),?_,?_,?_⟩
 ·rw[heap_setCell_other w1 ⟨R,0,none⟩ S _ hSR];exact hS1
 ·exact one_setCell hR1
 ·have hXb:Below W w X:=hbl.trans ⟨hX.os,hX.tape,hX.output,hX.size,fun k hk=>hX.block k (Nat.lt_of_lt_of_le hk (Nat.le_trans hWw hbl.size)) (by simp)⟩
  have h1b:Below W w w1:=hXb.grown hgrow (Nat.le_trans hWw hXb.size) (fun k e=>by have:=(lt k e).1;omega);exact h1b.setCell (by simpa using hWR) _
theorem spNew_at (w:World):
  Calls Tryz.prog 168 #[] w fun e w'=>∃u G C,e=.returned (.agg #[u])/\OwnR w' w.heap.size u zero3 G C/\Below w.heap.size w w':=by
 have m8:=make8;obtain⟨i0,hi,hz0,hz1,hz2⟩:=info_parts info_ints;go_enter Tryz.func168,Tryz.ntmps168;go_wp2;go_loopw [2] (fun i wr=>∃(k:Nat) (rs:List (List Int)) (u:Value) (G C:Nat->Nat),k<=3/\i=.int .i64 k/\rs=List.replicate k zeros/\OwnR wr (w.heap.size+2) u rs G C/\
      wr.heap[w.heap.size]? =some (.cells #[zn] 36 (0,0))/\wr.heap[w.heap.size+1]? =some (.cells #[u] 36 (0,0))/\Below w.heap.size w wr) (fun i _=>3 - (intOf i).toNat)
 case atStart=>
  refine⟨0,_,_,_,_,Nat.zero_le _,rfl,rfl,OwnR.nil _ _,?_,?_,((Below.refl _ _).alloc lr_ _).alloc (by simp) _⟩
  ·exact (heap_alloc_old _ _ (by simp)).trans (heap_alloc_new _ _)
  ·have:=heap_alloc_new (w.alloc (Obj.cells #[Value.slice none 0 0] 36)) (Obj.cells #[Value.slice none 0 0] 36)
   simpa using this
 case round=>
  obtain⟨k,rs,u,G,C,hk,rfl,hrs,hown,hS,hR,hbl⟩:=hrel;have HRS:=hd_ hrs;have hn:rs.length<=3:=by rw[hrs];simpa using hk
  clear hrs;obtain⟨c1,f1,l1⟩:=cell_block hR;have hb0:w.heap.size+2<=wr.heap.size:=o_;have l2:w.heap.size+1<wr.heap.size+1:=o_;have hub:u.ownBlock≠some (w.heap.size+1):=fun e=>by have:=(hown.hdr_lt _ e).1;omega
  have HO:=hd_ hown;have HS:=hd_ hS;have HR:=hd_ hR;have HB:=hd_ hbl;clear hown hS hR hbl
  by_cases hlt:k<3
  ·go_wp2_with fail
   go_region_law
    ((refine step_append_lies _ (by rfl) _ _ _ (by rfl) (w.heap.size+2) 23 i0 _ 1 24 Tryz.underlying34 hi hz0 hz1 hz2 rfl o_ u rs.length _ (by rfl) (((HO.out.hdr.alloc _).alloc _).drew)
            ⟨wr.heap.size+1,0,none⟩ 1 1 [.slice (some ⟨wr.heap.size,0,none⟩) 8 8] (by rfl) (by rfl) (World.news_of_block (cs:=#[.slice (some ⟨wr.heap.size,0,none⟩) 8 8]) (t:=23) (fr:=(0,0)) (new2 _ _ _)) (by simp[Value.oneCell'])
            o_ (by unfold maxLen;omega) o_ (by simp;omega) (wr.heap.size+2) (by simp) ?_;intro gg cap w1 hown1 hgrow hat hlt1;have d1:=box_far c1 f1 l1 hgrow hub;obtain⟨d2,d3⟩:=d1))
   all_goals
    have hX:wr.grownBy ((wr.alloc (.cells (ints zeros).toArray 3)).alloc (.cells #[.slice (some ⟨wr.heap.size,0,none⟩) 8 8] 23)).drew none:=
     grownBy_drew (grownBy_trans (World.grownBy_alloc wr _ none) (World.grownBy_alloc _ _ none))
    have hz:=(((make_own wr (w.heap.size+2) zeros hb0 (by simp[zeros,maxLen])).alloc (.cells #[.slice (some ⟨wr.heap.size,0,none⟩) 8 8] 23)).drew)
    have fin:=row_added HO.out hX hz lr_ hown1 hgrow (by simpa using hat) HR.out HS.out o_ o_ o_ HB.out o_ lr_;have FIN:=hd_ fin;clear fin hX hz hown1 hgrow hat;go_wp2;go_roundw
    case rel=>
     obtain⟨G',C',q1,q2,q3,q4⟩:=FIN.out;exact⟨k+1,rs++[zeros],_,G',C',o_,by go_num,by rw[HRS.out,List.replicate_succ'],q1,q2,q3,q4⟩
    case measure=>simp[intOf];omega
  ·obtain⟨s1,s2,s3⟩:=cell_block HS.out
   have h3:rs.length=3:=by rw[HRS.out];simp;omega
   obtain⟨g,cap,hu,hg1,hg2⟩:=World.ownsRow.form HO.out.hdr o_;subst hu;have e3:rs=zero3:=by rw[HRS.out,show k=3 by omega];rfl
   have hw:=HO.out.grown (grownBy_setCell wr ⟨w.heap.size,0,none⟩ (.slice (some ⟨g,0,none⟩) rs.length cap)) (fun k e=>by simp at e;omega);have hb:=HB.out.setCell (p:=⟨w.heap.size,0,none⟩) lr_ (.slice (some ⟨g,0,none⟩) rs.length cap);rw[e3]at hw hb;have H1:=hd_ hw;have H2:=hd_ hb;have E3:=hd_ e3;clear hw hb h3 e3;go_wp2;rw[E3.out]
   have hr:=World.cell?_setCell_same wr ⟨w.heap.size,0,none⟩ (.slice (some ⟨g,0,none⟩) zero3.length cap) s1;exact bodyPost_ret (v:=.agg #[.slice (some ⟨g,0,none⟩) zero3.length cap]) (by simp[results,Tryz.results168,go_sem,hr]) rfl ⟨_,G,C,rfl,H1.out.base o_,H2.out⟩
def Fine (zs:List Int):Prop:=zs.length=8/\(∀k,k<8->0<=zs.getD k 0)/\zs.sum<=2000
instance (zs:List Int):Decidable (Fine zs):=by unfold Fine;infer_instance
def allV (rs:List (List Int)):Int:=if okB rs=true then (rs.getD 0 []).sum else -1
theorem nonneg_mem {zs:List Int} (h:∀k,k<zs.length->0<=zs.getD k 0):∀z ∈ zs,0<=z:=fun z hz=>by
 obtain⟨k,hk,rfl⟩:=List.getElem_of_mem hz;have:=h k hk;simpa[hk]using this
theorem sum_nonneg {zs:List Int} (h:∀z ∈ zs,0<=z):0<=zs.sum:=by
 induction zs with
 |nil=>simp
 |cons a l ih=>simp only[List.sum_cons];have:=h a (by simp);have:=ih (fun z hz=>h z (by simp[hz]));omega
theorem sum_take_le {zs:List Int} (h:∀z ∈ zs,0<=z) (k:Nat):(zs.take k).sum<=zs.sum:=by
 have e:zs.sum=(zs.take k).sum+(zs.drop k).sum:=by rw[<-List.sum_append,List.take_append_drop]
 have:=sum_nonneg (fun z hz=>h z (List.mem_of_mem_drop hz):∀z ∈ zs.drop k,0<=z);omega
theorem Fine.bd {zs:List Int} (h:Fine zs):(∀z ∈ zs,0<=z)/\0<=zs.sum/\(∀k,k<8->0<=zs.getD k 0/\zs.getD k 0<=2000):=by
 have hm:=nonneg_mem (fun k hk=>h.2.1 k (by rw[<-h.1];exact hk):∀k,k<zs.length->0<=zs.getD k 0);refine⟨hm,sum_nonneg hm,fun k hk=>⟨h.2.1 k hk,?_⟩⟩;have h1:=sum_take_succ zs k (by rw[h.1];exact hk);have h2:=sum_take_le hm (k+1);have h3:=sum_nonneg (fun z hz=>hm z (List.mem_of_mem_take hz):∀z ∈ zs.take k,0<=z);have:=h.2.2;omega
theorem allV_ok {rs:List (List Int)} (h:okB rs=true):0<=allV rs/\allV rs<=2000:=by
 obtain⟨_,hg⟩:=(okB_iff rs).1 h;have f:Fine (rs.getD 0 []):=⟨(hg 0 o_).1,fun k hk=>((hg 0 o_).2.1 k hk).1,(hg 0 o_).2.2.2⟩
 unfold allV;rw[if_pos h];exact⟨f.bd.2.1,f.2.2⟩
theorem allV_not {rs:List (List Int)} (h:okB rs=false):allV rs= -1:=by unfold allV;rw[h];rfl
end Go.Proofs.YtcblbdpdbggkbaaGreat
namespace Go.Proofs.YtcblbdpdbggkbaaGreat
open Go.RowKit Go.Sort
theorem ok_form {w:World} {u:Value} {rs:List (List Int)} (h:Rws w u rs) (hok:okB rs=true):
  ∃b o cap,u=.slice (some ⟨b,o,none⟩) 3 cap/\3<=cap/\b<w.heap.size/\
   ∀i,i<3->∃bi oi ci,w.cell? ⟨b,o+i,none⟩=some (.slice (some ⟨bi,oi,none⟩) 8 ci)/\bi<w.heap.size/\∀k,k<8->w.cell? ⟨bi,oi+k,none⟩=some (.int .i64 ((rs.getD i []).getD k 0)):=by
 obtain⟨h3,hg⟩:=(okB_iff rs).1 hok;rcases h with ⟨rfl,rfl⟩|⟨b,o,cap,rfl,hcap,_,hb,hc⟩
 ·simp at h3
 refine⟨b,o,cap,by rw[h3],o_,hb,fun i hi=>?_⟩;obtain⟨x,hx,hi'⟩:=hc i o_;have g:=hg i hi;rcases hi' with ⟨_,h0⟩|⟨bi,oi,ci,rfl,_,_,hbi,hci⟩
 ·have:=g.1;rw[h0]at this;simp at this
 ·rw[g.1]at hx hci
  exact⟨bi,oi,ci,hx,hbi,hci⟩
def atV (rs:List (List Int)) (i:Nat) (t:Int):Int:=(rs.getD i []).getD (place i t).toNat 0
theorem place_nat (i t:Int):∃P:Nat,place i t=P/\P<8/\(place i t).toNat=P:=by
 have:=place_bd i t;exact⟨(place i t).toNat,o_,o_,rfl⟩
theorem atV_bd {rs:List (List Int)} (h:okB rs=true) (i:Nat) (hi:i<3) (t:Int):0<=atV rs i t/\atV rs i t<=2000:=by
 obtain⟨_,hg⟩:=(okB_iff rs).1 h;obtain⟨P,_,hP,e⟩:=place_nat i t;unfold atV;rw[e];exact (hg i hi).2.1 P hP
theorem spAll_at (w:World) (u:Value) (rs:List (List Int)) (h:Rws w u rs):
  Calls Tryz.prog 223 #[.agg #[u]] w fun e w'=>e=.returned (iv (allV rs))/\Below w.heap.size w w':=by
 have hA:=(Below.refl w.heap.size w).alloc lr_ (.cells #[u] 36);have K:=hd_ (spOk_any u rs _ (h.below hA lr_));have HA:=hd_ hA;clear hA;cases hok:okB rs with
 |false=>
  rw[hok]at K;rw[allV_not hok];obtain⟨⟨x,c,hx⟩,_⟩:=h.cases;obtain⟨n,hn⟩:=nm_ rs.length;rw[<-hn]at hx;subst hx;clear h hn hok;go_enter Tryz.func223,Tryz.ntmps223
  go_wp2_with (go_at_call 219;refine K.out.mono ?_;rintro e w1 ⟨rfl,hb1⟩)
  go_ret;exact⟨rfl,HA.out.trans (hb1.mono HA.out.size)⟩
 |true=>
  rw[hok]at K;obtain⟨b,o,cap,rfl,hcap,hb,hrow⟩:=ok_form h hok;obtain⟨b0,o0,c0,e0,l0,r0⟩:=hrow 0 o_;obtain⟨_,hg⟩:=(okB_iff rs).1 hok;have fin:Hid (allV rs=(rs.getD 0 []).sum):=if_pos hok;obtain⟨g8,gr,_,_⟩:=hg 0 o_;generalize rs.getD 0 []=z0 at g8 gr fin r0;have G8:=hd_ g8;have GR:=hd_ gr;have e0':w.cell? ⟨b,o,none⟩=some (.slice (some ⟨b0,o0,none⟩) 8 c0):=e0;have R0:=hd_ r0
  clear h hrow hok hg g8 gr e0 r0;go_enter Tryz.func223,Tryz.ntmps223
  go_wp2_with fail
  refine K.out.mono ?_;rintro e w1 ⟨rfl,hb1⟩;have L:=HA.out.trans (hb1.mono HA.out.size);have cb:w1.cell? ⟨w.heap.size,0,none⟩=some (.slice (some ⟨b,o,none⟩) 3 cap):=by rw[hb1.cell (by simp)];simp
  rw[<-L.cell (p:=⟨b,o,none⟩) hb]at e0';have KC:Hid (Calls Tryz.prog 224 #[.slice (some ⟨b0,o0,none⟩) 8 c0] w1 fun e w'=>e=.returned (iv z0.sum)/\w1=w'):=
   l1Sum_at b0 o0 c0 8 z0 w1 G8.out o_ GR.out (fun i hi=>by rw[L.cell (p:=⟨b0,o0+i,none⟩) l0];exact R0.out i hi)
  have HL:=hd_ L;clear L hb1
  go_wp2_with (go_at_call 224;refine KC.out.mono ?_;rintro e w' ⟨rfl,rfl⟩)
  go_ret;exact⟨ret_int fin.out.symm,HL.out⟩
end Go.Proofs.YtcblbdpdbggkbaaGreat
namespace Go.Proofs.YtcblbdpdbggkbaaGreat
open Go.RowKit
def ahead (rs:List (List Int)):Nat->Nat
 | 0=>0
 |i+1=>ahead rs i+(rs.getD i []).length
attribute [local go_sem ↓] Go.wp_at_zero Go.wp_at_succ
theorem news_ints {w:World} {b o n:Nat} {zs:List Int} (hn:zs.length=n) (hc:∀k,k<n->w.cell? ⟨b,o+k,none⟩=some (.int .i64 (zs.getD k 0))):
  ∀j u,(ints zs)[j]? =some u->w.cell? ((⟨b,o,none⟩:Addr).add j)=some u:=fun j u hu=>by
 have hj:j<zs.length:=by
  have:=(List.getElem?_eq_some_iff.1 hu).1;simpa[ints]using this
 have e:(⟨b,o,none⟩:Addr).add j=⟨b,o+j,none⟩:=by unfold Addr.add;split<;>simp_all
 rw[e,hc j o_];rw[ints_get _ _ hj]at hu;exact hu
theorem ints_one (zs:List Int):∀u ∈ ints zs,u.oneCell'=true:=fun u hu=>by
 obtain⟨z,_,rfl⟩:=List.mem_map.1 hu
 rfl
theorem empty_own (w:World) (B:Nat) (hB:B<=w.heap.size):(w.alloc (.cells #[] 3)).ownsRow B 3 1 (.slice (some ⟨w.heap.size,0,none⟩) 0 0) 0 []:=
 World.ownsRow_lit (base:=B) (e:=3) (size:=1) w #[] 0 hB (by simp[maxLen]) (by simp)
theorem row_added_n {w wr w1 w2:World} {S R B W g c gg cap n:Nat} {o o':Obj} {u:Value} {t:TypeId} {rs:List (List Int)} {G C:Nat->Nat} {zs:List Int} (hn:zs.length=n)
  (HO:OwnR wr B u rs G C) (hX:Below wr.heap.size wr w1) (hz:w1.ownsRow B 3 1 (.slice (some ⟨g,0,none⟩) n c) n (ints zs)) (hg:wr.heap.size<=g)
  (hown1:w2.ownsRow B 23 1 (.slice (some ⟨gg,0,none⟩) (rs.length+1) cap) (rs.length+1) ((List.range rs.length).map (rowV rs G C)++[.slice (some ⟨g,0,none⟩) n c]))
  (hgrow:(w1.alloc o').grownBy w2 u.ownBlock) (hat:u.ownBlock=some gg\/gg=w1.heap.size+1)
  (hR:wr.heap[R]? =some (.cells #[u] t (0,0))) (hS:wr.heap[S]? =some o) (hRB:R<B) (hSB:S<B) (hSR:S≠R) (hbl:Below W w wr) (hWR:W<=R) (hWw:W<=w.heap.size):
  ∃G' C',OwnR (w2.setCell ⟨R,0,none⟩ (.slice (some ⟨gg,0,none⟩) (rs.length+1) cap)) B (.slice (some ⟨gg,0,none⟩) (rs.length+1) cap) (rs++[zs]) G' C'/\
   (w2.setCell ⟨R,0,none⟩ (.slice (some ⟨gg,0,none⟩) (rs.length+1) cap)).heap[S]? =some o/\
   (w2.setCell ⟨R,0,none⟩ (.slice (some ⟨gg,0,none⟩) (rs.length+1) cap)).heap[R]? =some (.cells #[.slice (some ⟨gg,0,none⟩) (rs.length+1) cap] t (0,0))/\
   Below W w (w2.setCell ⟨R,0,none⟩ (.slice (some ⟨gg,0,none⟩) (rs.length+1) cap)):=by
 subst hn;exact row_added HO (grownBy_trans (grownBy_below hX) (World.grownBy_alloc w1 o' none)) (hz.alloc _) hg hown1 hgrow (by simpa using hat) hR hS hRB hSB hSR hbl hWR hWw
theorem three_blocks (w:World) (a b c:Obj):(((w.alloc a).alloc b).alloc c).heap[w.heap.size]? =some a/\(((w.alloc a).alloc b).alloc c).heap[w.heap.size+1]? =some b/\(((w.alloc a).alloc b).alloc c).heap[w.heap.size+2]? =some c:=by
 have e1:(w.alloc a).heap.size=w.heap.size+1:=by simp
 have e2:((w.alloc a).alloc b).heap.size=w.heap.size+2:=by simp
 have h1:=heap_alloc_new (w.alloc a) b;have h2:=heap_alloc_new ((w.alloc a).alloc b) c;rw[e1]at h1;rw[e2]at h2;exact⟨(heap_alloc_old _ _ o_).trans ((heap_alloc_old _ _ o_).trans (heap_alloc_new _ _)),(heap_alloc_old _ _ o_).trans h1,h2⟩
theorem box0_keep {wr w1 w2:World} {S R:Nat} {o o':Obj} {x:Value} {row:Option Nat} (h:wr.heap[S]? =some o) (hb:Below wr.heap.size wr w1) (hg:(w1.alloc o').grownBy w2 row) (hr:row≠some S) (hSR:S≠R):
  (w2.setCell ⟨R,0,none⟩ x).heap[S]? =some o:=by
 rw[heap_setCell_other w2 ⟨R,0,none⟩ S _ hSR];have h1:=block_keep h (grownBy_below (row:=none) hb) (by simp);have h2:=block_keep h1 (World.grownBy_alloc w1 o' none) (by simp);exact block_keep h2 hg hr
theorem take_snoc {α:Type} (l:List α) (k:Nat) (d:α) (h:k<l.length):l.take k++[l.getD k d]=l.take (k+1):=by
 rw[List.take_succ_eq_append_getElem h];simp[h]
theorem inner_keep {wr w1:World} {o:Obj} (h:(wr.alloc o).drew.grownBy w1 (some wr.heap.size)):Below wr.heap.size wr w1:=by
 have h1:Below wr.heap.size wr (wr.alloc o).drew:=((Below.refl _ _).alloc lr_ _).drew;exact h1.grown h (by simp) (fun k e=>by cases e;exact Nat.le_refl _)
theorem box_later {w w1:World} {b:Nat} {u:Value} (hb:Below w.heap.size w w1) (c:w.cell? ⟨b,0,none⟩=some u) (f:w.frozen? ⟨b,0,none⟩=false) (l:b<w.heap.size):
  w1.cell? ⟨b,0,none⟩=some u/\w1.frozen? ⟨b,0,none⟩=false/\b<w1.heap.size:=
 ⟨cell_later hb c,by rw[hb.frozen (p:=⟨b,0,none⟩) l];exact f,Nat.lt_of_lt_of_le l hb.size⟩
theorem box_far1 {w w1:World} {o:Obj} {b:Nat} {u:Value} {row:Option Nat} (c:w.cell? ⟨b,0,none⟩=some u) (f:w.frozen? ⟨b,0,none⟩=false) (l:b<w.heap.size)
  (hg:(w.alloc o).grownBy w1 row) (hr:row≠some b):w1.cell? ⟨b,0,none⟩=some u/\w1.frozen? ⟨b,0,none⟩=false:=by
 have l1:b<(w.alloc o).heap.size:=by simp;omega
 rw[hg.cell_far ⟨b,0,none⟩ l1 (Ne.symm hr),hg.frozen_far ⟨b,0,none⟩ l1 (Ne.symm hr)];rw[World.cell?_alloc_past _ _ _ l,World.frozen?_alloc_past _ _ _ l];exact⟨c,f⟩
theorem copy_three (b o cap:Nat) (rs:List (List Int)) (w:World) (hl:rs.length=3) (h8:∀i,i<3->(rs.getD i []).length=8) (hb:b<w.heap.size)
  (hrow:∀i,i<3->∃bi oi ci,w.cell? ⟨b,o+i,none⟩=some (.slice (some ⟨bi,oi,none⟩) 8 ci)/\bi<w.heap.size/\∀k,k<8->w.cell? ⟨bi,oi+k,none⟩=some (.int .i64 ((rs.getD i []).getD k 0))):
  Calls Tryz.prog 218 #[.agg #[.slice (some ⟨b,o,none⟩) 3 cap]] w fun e w'=>∃u G C,e=.returned (.agg #[u])/\OwnR w' w.heap.size u rs G C/\Below w.heap.size w w':=by
 obtain⟨i0,hi,hz0,hz1,hz2⟩:=info_parts info_ints;obtain⟨j0,hj,hy0,hy1,hy2⟩:=info_parts info_int;have HL:=hd_ hl;have H8:=hd_ h8;have HW:=hd_ hrow;clear hl h8 hrow;go_enter Tryz.func218,Tryz.ntmps218;go_wp2;go_loopw [4] (fun i wr=>∃(k:Nat) (qs:List (List Int)) (u:Value) (G C:Nat->Nat),k<=3/\i=.int .i64 k/\qs=rs.take k/\OwnR wr (w.heap.size+3) u qs G C/\
      wr.heap[w.heap.size+1]? =some (.cells #[zn] 36 (0,0))/\wr.heap[w.heap.size+2]? =some (.cells #[u] 36 (0,0))/\Below w.heap.size w wr/\
      wr.heap[w.heap.size]? =some (.cells #[.slice (some ⟨b,o,none⟩) 3 cap] 36 (0,0))) (fun i _=>3 - (intOf i).toNat)
 case atStart=>
  refine⟨0,_,_,_,_,Nat.zero_le _,rfl,rfl,OwnR.nil _ _,?_,?_,(((Below.refl _ _).alloc lr_ _).alloc (by simp) _).alloc (by simp;omega) _,?_⟩
  ·exact (three_blocks w _ _ _).2.1
  ·exact (three_blocks w _ _ _).2.2
  ·exact (three_blocks w _ _ _).1
 case round=>
  obtain⟨k,qs,u,G,C,hk,rfl,hqs,hown,hS,hR,hbl,hbx0⟩:=hrel;obtain⟨hbox,_,l0⟩:=cell_block hbx0;obtain⟨c1,f1,l1⟩:=cell_block hR;have HQ:=hd_ hqs;have hn:qs.length=k:=by rw[hqs];simp[HL.out];omega
  have HN:=hd_ hn;have hn3:qs.length<=3:=o_;have hub:u.ownBlock≠some (w.heap.size+2):=fun e=>by have:=(hown.hdr_lt _ e).1;omega
  have hb0:w.heap.size+3<=wr.heap.size:=o_;have hub0:u.ownBlock≠some w.heap.size:=fun e=>by have:=(hown.hdr_lt _ e).1;omega
  have HB0:=hd_ hbx0;have HU0:=hd_ hub0;have HO:=hd_ hown;have HS:=hd_ hS;have HR:=hd_ hR;have HB:=hd_ hbl;clear hown hS hR hbl hn hqs hbx0 hub0
  by_cases hlt:k<3
  ·obtain⟨bi,oi,ci,e1,li,hc⟩:=HW.out k hlt
   rw[<-HB.out.cell (p:=⟨b,o+k,none⟩) hb]at e1;have hzl:=H8.out k hlt;obtain⟨zs,hzs⟩:=nm_ (rs.getD k []);rw[<-hzs]at hc hzl;have hc':∀i,i<8->wr.cell? ⟨bi,oi+i,none⟩=some (.int .i64 (zs.getD i 0)):=fun i hi=>by rw[HB.out.cell (p:=⟨bi,oi+i,none⟩) li];exact hc i hi
   have hbi:bi<wr.heap.size:=by have:=HB.out.size;omega
   have HC:=hd_ hc';have HZ:=hd_ hzs;have HZL:=hd_ hzl;clear hc hc' hzs hzl;have lb:b<wr.heap.size:=by have:=HB.out.size;omega
   have ki0:(0:Int)<=(k:Int):=o_;have ki3:(k:Int)<3:=o_
   go_wp2_with fail
   go_region_law ((first
        |(refine step_append_lies _ (by rfl) _ _ _ (by rfl) (w.heap.size+3) 3 j0 _ 1 8 Tryz.underlying23 hj hy0 hy1 hy2 rfl o_ (.slice (some ⟨wr.heap.size,0,none⟩) 0 0) 0 [] (by rfl) ((empty_own wr (w.heap.size+3) hb0).drew)
            ⟨bi,oi,none⟩ 8 ci (ints zs) (by rfl) (by rw[ints_len,HZL.out]) (news_ints HZL.out (fun i hi=>(World.cell?_alloc_lt (h:=hbi) ..).trans (HC.out i hi))) (ints_one zs)
            o_ (by unfold maxLen;omega) o_ (by simp;omega) (wr.heap.size+1) (by simp) ?_;intro g1 cap1 w1 hown1 hgrow1 hat1 hlt1;have hbw:=inner_keep hgrow1;have HO1:=HO.out.below hbw lr_;have d1:=box_later hbw c1 f1 l1;obtain⟨d2,d3,d4⟩:=d1;have HBW:=hd_ hbw;have HQ1:=hd_ HO1;have HW1:=hd_ hown1;have hsz:=hbw.size;clear hbw HO1 hown1 hgrow1)
        |(refine step_append_lies _ (by rfl) _ _ _ (by rfl) (w.heap.size+3) 23 i0 _ 1 24 Tryz.underlying34 hi hz0 hz1 hz2 rfl o_ u qs.length _ (by rfl) (HQ1.out.hdr.alloc _)
            ⟨w1.heap.size,0,none⟩ 1 1 [.slice (some ⟨g1,0,none⟩) 8 cap1] (by rfl) (by rfl) (World.news_of_block (cs:=#[.slice (some ⟨g1,0,none⟩) 8 cap1]) (t:=23) (fr:=(0,0)) (heap_alloc_new w1 _)) (by simp[Value.oneCell'])
            o_ (by unfold maxLen;omega) o_ (by simp;omega) (w1.heap.size+1) (by simp) ?_;intro gg cap2 w2 hown2 hgrow2 hat2 hlt2;have d5:=box_far1 d2 d3 d4 hgrow2 hub;obtain⟨d6,d7⟩:=d5)))
   all_goals
    have hg1:wr.heap.size<=g1:=by
     rcases hat1 with h|h
     ·simp[Value.ownBlock]at h;omega
     ·omega
    have fin:=row_added_n HZL.out HO.out HBW.out HW1.out hg1 hown2 hgrow2 hat2 HR.out HS.out o_ o_ o_ HB.out o_ lr_;have hbx:=box0_keep (x:=.slice (some ⟨gg,0,none⟩) (qs.length+1) cap2) HB0.out HBW.out hgrow2 HU0.out (show w.heap.size≠w.heap.size+2 by omega);have FIN:=hd_ fin;have HBX:=hd_ hbx;clear fin hbx hown2 hgrow2 hat2 hg1 hat1;go_wp2;go_roundw
    case rel=>
     obtain⟨G',C',q1,q2,q3,q4⟩:=FIN.out;exact⟨k+1,qs++[zs],_,G',C',o_,by go_num,by rw[HQ.out,HZ.out];exact take_snoc _ _ _ (by rw[HL.out];exact hlt),q1,q2,q3,q4,HBX.out⟩
    case measure=>simp[intOf];omega
  ·obtain⟨s1,s2,s3⟩:=cell_block HS.out
   have h3:qs.length=3:=by rw[HN.out];omega
   obtain⟨g,cap',hu,hg1,hg2⟩:=World.ownsRow.form HO.out.hdr o_;subst hu;have e3:qs=rs:=by rw[HQ.out,List.take_of_length_le (by rw[HL.out];omega)]
   have hw:=HO.out.grown (grownBy_setCell wr ⟨w.heap.size+1,0,none⟩ (.slice (some ⟨g,0,none⟩) 3 cap')) (fun k e=>by simp at e;omega);have hb:=HB.out.setCell (p:=⟨w.heap.size+1,0,none⟩) (by simp) (.slice (some ⟨g,0,none⟩) 3 cap');rw[h3]at hw c1;rw[e3]at hw;have H1:=hd_ hw;have H2:=hd_ hb;have H3:=hd_ h3;clear hw hb h3 e3 hub hn3;go_wp2
   have hr:=World.cell?_setCell_same wr ⟨w.heap.size+1,0,none⟩ (.slice (some ⟨g,0,none⟩) 3 cap') s1;exact bodyPost_ret (v:=.agg #[.slice (some ⟨g,0,none⟩) 3 cap']) (by simp[results,Tryz.results218,go_sem,hr]) rfl ⟨_,G,C,rfl,H1.out.base o_,H2.out⟩
theorem copy_at (w:World) (u:Value) (rs:List (List Int)) (h:Rws w u rs) (hok:okB rs=true):
  Calls Tryz.prog 218 #[.agg #[u]] w fun e w'=>∃x c G C,e=.returned (.agg #[.slice x 3 c])/\OwnR w' w.heap.size (.slice x 3 c) rs G C/\Below w.heap.size w w':=by
 obtain⟨h3,hg⟩:=(okB_iff rs).1 hok;obtain⟨b,o,cap,rfl,_,hb,hrow⟩:=ok_form h hok;refine (copy_three b o cap rs w h3 (fun i hi=>(hg i hi).1) hb hrow).mono fun e w' ⟨u',G,C,he,ho,hb'⟩=>?_
 obtain⟨⟨x,c,hx⟩,_⟩:=ho.rws.cases;rw[h3]at hx;subst hx;exact⟨x,c,G,C,he,ho,hb'⟩
end Go.Proofs.YtcblbdpdbggkbaaGreat
namespace Go.Proofs.YtcblbdpdbggkbaaGreat
open Go.RowKit Go.Sort
def addRow (rs:List (List Int)) (t n:Int) (i:Nat):List Int:=(rs.getD i []).set (place i t).toNat (atV rs i t+n)
def addV (rs:List (List Int)) (t n:Int):List (List Int):=[addRow rs t n 0,addRow rs t n 1,addRow rs t n 2]
def addB (rs:List (List Int)) (t n:Int):Bool:=okB rs&&decide (0<=t)&&decide (t<64)&&decide (0<=n)&&decide (n<=2000 - allV rs)
theorem addB_iff (rs:List (List Int)) (t n:Int):addB rs t n=true↔okB rs=true/\0<=t/\t<64/\0<=n/\n<=2000 - allV rs:=by
 simp[addB,and_assoc]
theorem addV_get (rs:List (List Int)) (t n:Int) (i:Nat) (hi:i<3):(addV rs t n).getD i []=addRow rs t n i:=by
 rcases (by omega:i=0\/i=1\/i=2)with rfl|rfl|rfl<;>rfl
theorem eq_three {rs qs:List (List Int)} (h:rs.length=3) (h':qs.length=3) (e:∀i,i<3->rs.getD i []=qs.getD i []):rs=qs:=by
 have:=eq_of_get (d:=[]) h h' e;simpa using this
theorem spAdd_no (w:World) (u:Value) (rs:List (List Int)) (t n:Int) (h:Rws w u rs) (hno:addB rs t n=false):
  Calls Tryz.prog 310 #[.agg #[u],iv t,iv n] w fun e w'=>e=.returned (.tuple #[.agg #[zn],.bool false])/\Below w.heap.size w w':=by
 have hA:=((Below.refl w.heap.size w).alloc lr_ (.cells #[u] 36)).alloc (by simp) (.cells #[zn] 36);have K:=hd_ (spOk_any u rs _ (h.below hA lr_));have HA:=hd_ hA;clear hA;cases hok:okB rs with
 |false=>
  rw[hok]at K;obtain⟨⟨x,c,hx⟩,_⟩:=h.cases;obtain⟨m,hn⟩:=nm_ rs.length;rw[<-hn]at hx;subst hx;clear h hn hok hno;go_enter Tryz.func310,Tryz.ntmps310
  go_wp2_with fail
  refine K.out.mono ?_;rintro e w1 ⟨rfl,hb1⟩;have sz:=hb1.size;simp only[World.size_alloc]at sz;have cb:w1.cell? ⟨w.heap.size+1,0,none⟩=some (.slice none 0 0):=by rw[hb1.cell (by simp)];simp[go_sem]
  have fb:w1.frozen? ⟨w.heap.size+1,0,none⟩=false:=by rw[hb1.frozen (by simp)];simp[go_sem]
  have L:=hd_ (HA.out.trans (hb1.mono HA.out.size));clear hb1;go_wp2;have hr:=World.cell?_setCell_same w1 ⟨w.heap.size+1,0,none⟩ zn cb;exact bodyPost_ret (v:=.tuple #[.agg #[zn],.bool false]) (by simp[results,Tryz.results310,go_sem,hr]) rfl ⟨rfl,L.out.setCell (by simp) _⟩
 |true=>
  rw[hok]at K;obtain⟨b,o,cap,rfl,hcap,hb,hrow⟩:=ok_form h hok;obtain⟨b0,o0,c0,e0,l0,r0⟩:=hrow 0 o_;obtain⟨_,hg⟩:=(okB_iff rs).1 hok;have fin:Hid (allV rs=(rs.getD 0 []).sum):=if_pos hok;obtain⟨g8,gr,_,_⟩:=hg 0 o_;have av:=allV_ok hok;generalize rs.getD 0 []=z0 at g8 gr fin r0;obtain⟨S,hS⟩:=nm_ (allV rs);rw[<-hS]at av fin;have hno':(t<0\/63<t)\/(0<=t/\t<=63/\(n<0\/2000 - S<n)):=by
   apply Classical.byContradiction;intro hh;have:addB rs t n=true:=(addB_iff rs t n).2 ⟨hok,o_,o_,o_,by rw[<-hS];omega⟩;rw[this]at hno;cases hno
  have G8:=hd_ g8;have GR:=hd_ gr;have e0':w.cell? ⟨b,o,none⟩=some (.slice (some ⟨b0,o0,none⟩) 8 c0):=e0;have R0:=hd_ r0;clear h hrow hok hg g8 gr e0 r0 hno hS;rcases hno' with ht|⟨t0,t1,hn⟩
  ·go_enter Tryz.func310,Tryz.ntmps310
   go_wp2_with fail
   refine K.out.mono ?_;rintro e w1 ⟨rfl,hb1⟩;have sz:=hb1.size;simp only[World.size_alloc]at sz;have cb:w1.cell? ⟨w.heap.size+1,0,none⟩=some (.slice none 0 0):=by rw[hb1.cell (by simp)];simp[go_sem]
   have fb:w1.frozen? ⟨w.heap.size+1,0,none⟩=false:=by rw[hb1.frozen (by simp)];simp[go_sem]
   have L:=hd_ (HA.out.trans (hb1.mono HA.out.size));clear hb1
   go_wp2_with (go_at_call 66;refine (l6In_no _ _ _ _ ht).mono ?_;rintro e w' ⟨rfl,rfl⟩)
   have hr:=World.cell?_setCell_same w1 ⟨w.heap.size+1,0,none⟩ zn cb;exact bodyPost_ret (v:=.tuple #[.agg #[zn],.bool false]) (by simp[results,Tryz.results310,go_sem,hr]) rfl ⟨rfl,L.out.setCell (by simp) _⟩
  ·go_enter Tryz.func310,Tryz.ntmps310
   go_wp2_with fail
   refine K.out.mono ?_;rintro e w1 ⟨rfl,hb1⟩;have sz:=hb1.size;simp only[World.size_alloc]at sz;have cb:w1.cell? ⟨w.heap.size+1,0,none⟩=some (.slice none 0 0):=by rw[hb1.cell (by simp)];simp[go_sem]
   have ca:w1.cell? ⟨w.heap.size,0,none⟩=some (.slice (some ⟨b,o,none⟩) 3 cap):=by rw[hb1.cell (by simp;omega)];simp[go_sem]
   have fb:w1.frozen? ⟨w.heap.size+1,0,none⟩=false:=by rw[hb1.frozen (by simp)];simp[go_sem]
   have hL:=HA.out.trans (hb1.mono HA.out.size);rw[<-hL.cell (p:=⟨b,o,none⟩) hb]at e0';have KC:Hid (Calls Tryz.prog 224 #[.slice (some ⟨b0,o0,none⟩) 8 c0] w1 fun e w'=>e=.returned (iv S)/\w1=w'):=by
    rw[fin.out];exact l1Sum_at b0 o0 c0 8 z0 w1 G8.out o_ GR.out (fun i hi=>by rw[hL.cell (p:=⟨b0,o0+i,none⟩) l0];exact R0.out i hi)
   have L:=hd_ hL;clear hb1 hL
   go_wp2_with (go_at_call 66;refine (l6In_yes _ _ _ _ t0 t1).mono ?_;rintro e w' ⟨rfl,rfl⟩;clear t1)
   refine KC.out.mono ?_;rintro e w' ⟨rfl,rfl⟩
   go_wp2_with (go_at_call 66;refine (l6In_no _ _ _ _ hn).mono ?_;rintro e w' ⟨rfl,rfl⟩)
   have hr:=World.cell?_setCell_same w1 ⟨w.heap.size+1,0,none⟩ zn cb;exact bodyPost_ret (v:=.tuple #[.agg #[zn],.bool false]) (by simp[results,Tryz.results310,go_sem,hr]) rfl ⟨rfl,L.out.setCell (by simp) _⟩
theorem OwnR.hdrCell {w:World} {B g c n:Nat} {rs:List (List Int)} {G C:Nat->Nat} (h:OwnR w B (.slice (some ⟨g,0,none⟩) n c) rs G C) (hn:rs.length=n) (i:Nat) (hi:i<n):
  w.cell? ⟨g,i,none⟩=some (.slice (some ⟨G i,0,none⟩) (rs.getD i []).length (C i)):=by
 have hh:=h.hdr;rw[hn]at hh;have:=hh.cellAt i o_;rw[this,List.getElem?_map,List.getElem?_range hi]
 rfl
theorem OwnR.rowCell {w:World} {B:Nat} {u:Value} {rs:List (List Int)} {G C:Nat->Nat} (h:OwnR w B u rs G C) (i k:Nat) (hi:i<rs.length) (hk:k<(rs.getD i []).length):
  w.cell? ⟨G i,k,none⟩=some (.int .i64 ((rs.getD i []).getD k 0))/\w.frozen? ⟨G i,k,none⟩=false:=by
 have hr:=h.row i hi;exact⟨by rw[World.ownsRow.cellAt hr k o_,ints_get _ _ hk],World.ownsRow.frozenAt hr k⟩
theorem spAdd_yes (w:World) (u:Value) (rs:List (List Int)) (t n:Int) (h:Rws w u rs) (hyes:addB rs t n=true):
  Calls Tryz.prog 310 #[.agg #[u],iv t,iv n] w fun e w'=>∃x c G C,e=.returned (.tuple #[.agg #[.slice x 3 c],.bool true])/\OwnR w' w.heap.size (.slice x 3 c) (addV rs t n) G C/\Below w.heap.size w w':=by
 obtain⟨hok,t0,t1,n0,n1⟩:=(addB_iff rs t n).1 hyes;have hA:=((Below.refl w.heap.size w).alloc lr_ (.cells #[u] 36)).alloc (by simp) (.cells #[zn] 36);have K:=hd_ (spOk_any u rs _ (h.below hA lr_));have HA:=hd_ hA;rw[hok]at K;have HRW:=hd_ h;obtain⟨b,o,cap,rfl,hcap,hb,hrow⟩:=ok_form h hok;obtain⟨b0,o0,c0,e0,l0,r0⟩:=hrow 0 o_;obtain⟨h3,hg⟩:=(okB_iff rs).1 hok
 have fin:Hid (allV rs=(rs.getD 0 []).sum):=if_pos hok;obtain⟨g8,gr,_,_⟩:=hg 0 o_;have av:=allV_ok hok;have HG:=hd_ hg;have H3:=hd_ h3;have HOK:=hd_ hok;have t1':t<=63:=o_;generalize hz:rs.getD 0 []=z0 at g8 gr fin r0;clear hz;obtain⟨S,hS⟩:=nm_ (allV rs);rw[<-hS]at av fin n1;have nU:n<=2000:=o_;have G8:=hd_ g8;have GR:=hd_ gr;have e0':w.cell? ⟨b,o,none⟩=some (.slice (some ⟨b0,o0,none⟩) 8 c0):=e0
 have R0:=hd_ r0;clear h hrow hok hg g8 gr e0 r0 hS hyes hA h3;go_enter Tryz.func310,Tryz.ntmps310
 go_wp2_with fail
 refine K.out.mono ?_;rintro e w1 ⟨rfl,hb1⟩;have sz:=hb1.size;simp only[World.size_alloc]at sz;have cb:w1.cell? ⟨w.heap.size+1,0,none⟩=some (.slice none 0 0):=by rw[hb1.cell (by simp)];simp[go_sem]
 have ca:w1.cell? ⟨w.heap.size,0,none⟩=some (.slice (some ⟨b,o,none⟩) 3 cap):=by rw[hb1.cell (by simp;omega)];simp[go_sem]
 have fb:w1.frozen? ⟨w.heap.size+1,0,none⟩=false:=by rw[hb1.frozen (by simp)];simp[go_sem]
 have hL:=HA.out.trans (hb1.mono HA.out.size);rw[<-hL.cell (p:=⟨b,o,none⟩) hb]at e0';have KC:Hid (Calls Tryz.prog 224 #[.slice (some ⟨b0,o0,none⟩) 8 c0] w1 fun e w'=>e=.returned (iv S)/\w1=w'):=by
  rw[fin.out];exact l1Sum_at b0 o0 c0 8 z0 w1 G8.out o_ GR.out (fun i hi=>by rw[hL.cell (p:=⟨b0,o0+i,none⟩) l0];exact R0.out i hi)
 have KCopy:=hd_ (copy_at w1 _ rs (HRW.out.below hL lr_) HOK.out);have L:=hd_ hL;clear hb1 hL
 go_wp2_with (go_at_call 66;refine (l6In_yes _ _ _ _ t0 t1').mono ?_;rintro e w' ⟨rfl,rfl⟩;clear t1')
 refine KC.out.mono ?_;rintro e w' ⟨rfl,rfl⟩
 go_wp2_with (go_at_call 66;refine (l6In_yes _ _ _ _ n0 n1).mono ?_;rintro e w' ⟨rfl,rfl⟩;clear n1)
 go_wp2_with fail
 refine KCopy.out.mono ?_;rintro e w2 ⟨x,c,G,C,rfl,ho,hb2⟩;obtain⟨g,c',hu,hg1,hg2⟩:=World.ownsRow.form ho.hdr (by rw[H3.out];omega);rw[H3.out]at hu;obtain⟨rfl,rfl⟩:x=some ⟨g,0,none⟩/\c=c':=by simpa using hu
 clear hu;have cb2:=cell_later hb2 cb;have fb2:w2.frozen? ⟨w.heap.size+1,0,none⟩=false:=by rw[hb2.frozen (p:=⟨w.heap.size+1,0,none⟩) (by simp;omega)];exact fb
 have sz2:=hb2.size;have L2:=hd_ (L.out.trans (hb2.mono L.out.size));have HO2:=hd_ ho;clear ho hb2 cb fb ca e0';have hz:=fun (i:Nat) (hi:i<3)=>(HG.out i hi).1
 have H8:=hd_ hz;have AB:=hd_ (fun (i:Nat) (hi:i<3)=>atV_bd HOK.out i hi t);clear hz;go_wp2;go_loopw [9] (fun i wr=>∃(k:Nat) (qs:List (List Int)),k<=3/\i=.int .i64 k/\qs.length=3/\(∀j,j<3->qs.getD j []=if j<k then addRow rs t n j else rs.getD j [])/\
      OwnR wr w1.heap.size (.slice (some ⟨g,0,none⟩) 3 c) qs G C/\wr.cell? ⟨w2.heap.size,0,none⟩=some (.slice (some ⟨g,0,none⟩) 3 c)/\
      wr.cell? ⟨w.heap.size+1,0,none⟩=some (.slice none 0 0)/\wr.frozen? ⟨w.heap.size+1,0,none⟩=false/\Below w.heap.size w wr/\w2.heap.size<wr.heap.size) (fun i _=>3 - (intOf i).toNat)
 case atStart=>
  have l1:w.heap.size+1<w2.heap.size:=o_;exact⟨0,rs,Nat.zero_le _,rfl,H3.out,fun j hj=>by simp,HO2.out.below ((Below.refl _ _).alloc lr_ _) lr_,by simp,by rw[World.cell?_alloc_past _ _ _ l1];exact cb2,
      by rw[World.frozen?_alloc_past _ _ _ l1];exact fb2,L2.out.alloc L2.out.size _,by simp⟩
 case round=>
  obtain⟨k,qs,hk,rfl,hq3,hqs,hown,hbox,cr,fr,hbl,hlt2⟩:=hrel;have HQ3:=hd_ hq3;have HQ:=hd_ hqs;have HO:=hd_ hown;have HB:=hd_ hbl;clear hq3 hqs hown hbl
  by_cases hlt:k<3
  ·obtain⟨P,hP,hP8,hPn⟩:=place_nat (k:Int) t
   have hqk:qs.getD k []=rs.getD k []:=by rw[HQ.out k hlt,if_neg o_]
   have hc1:=HO.out.hdrCell HQ3.out k hlt;rw[hqk,H8.out k hlt]at hc1;have hc2:=HO.out.rowCell k P (by rw[HQ3.out];exact hlt) (by rw[hqk,H8.out k hlt];exact hP8);have ha:(qs.getD k []).getD P 0=atV rs k t:=by rw[hqk];unfold atV;rw[hPn]
   rw[ha]at hc2;obtain⟨a0,a1⟩:=AB.out k hlt;have K1:Hid (∀W,Calls Tryz.prog 320 #[iv k,iv t] W fun e w'=>e=.returned (iv P)/\Below W.heap.size W w'):=fun W=>by
    rw[<-hP];exact l1Place_yes k t W o_ o_ t0 t1
   have hst:∀w4:World,Below wr.heap.size wr w4->∃qs',qs'.length=3/\(∀j,j<3->qs'.getD j []=if j<k+1 then addRow rs t n j else rs.getD j [])/\
     OwnR (w4.setCell ⟨G k,P,none⟩ (iv (atV rs k t+n))) w1.heap.size (.slice (some ⟨g,0,none⟩) 3 c) qs' G C/\w4.grownBy (w4.setCell ⟨G k,P,none⟩ (iv (atV rs k t+n))) (some (G k)):=fun w4 hw4=>by
    have q:=(HO.out.below hw4 lr_).store k P (atV rs k t+n) (by rw[HQ3.out];exact hlt) (by rw[hqk,H8.out k hlt];exact hP8);refine⟨_,by simpa using HQ3.out,fun j hj=>?_,q.1,q.2⟩
    by_cases e:j=k
    ·subst e
     rw[if_pos o_];unfold addRow;rw[hPn,hqk];simp[HQ3.out,hlt]
    ·have e1:(qs.set k ((qs.getD k []).set P (atV rs k t+n))).getD j []=qs.getD j []:=by simp[Ne.symm e]
     rw[e1,HQ.out j hj]
     by_cases e2:j<k
     ·rw[if_pos e2,if_pos o_]
     ·rw[if_neg e2,if_neg o_]
   have HST:=hd_ hst;have HGk:Hid (w1.heap.size<=G k/\G k<w2.heap.size):=⟨((HO.out.row k (by rw[HQ3.out];exact hlt)).lt (G k) rfl).1,((HO2.out.row k (by rw[H3.out];exact hlt)).lt (G k) rfl).2⟩
   obtain⟨a,hA⟩:=nm_ (atV rs k t);rw[<-hA]at hc2 HST a0 a1;obtain⟨hc2,hf2⟩:=hc2;have lgk:G k<wr.heap.size:=World.block_lt_of_cell? _ _ hc2;have rb:=cell_regrown hbox;have r1:=cell_regrown hc1;have r2:=cell_regrown hc2;have k0:(0:Int)<=(k:Int):=o_;have k3:(k:Int)<3:=o_;have P8:(P:Int)<8:=o_;have wr1:IntKind.i64.wrap (a+n)=a+n:=IntWalk.i64_in _ o_;clear hP hPn hst hA ha hqk hP8;go_wp2
   refine wp_region_last (C:=fun w'=>∃p:Regrown,w'=grow (redrawn wr p.d) p.os) 21 _ rfl rfl rfl (by kernel_rfl) (by kernel_rfl) (by kernel_rfl) (by kernel_rfl) (by kernel_rfl) ⟨⟨wr.drawn+1,#[]⟩,by rw[grow_empty];rfl⟩ ?_;simp only[List.take_succ_cons,List.take_zero]
   repeat (refine boxed_step (fun K hK=>?_);go_simp;first|(refine hK _ ?_;clear hK K)|(apply Exists.intro;refine⟨fun _=>?_,hK _ ?_⟩;(exact Calls.regrown_of (K1.out _));clear hK K))
   refine boxed_nil ?_;intro _ hw';obtain⟨⟨dq,oq⟩,hw''⟩:=hw';subst hw'';have hb_w4:=below_regrown wr dq oq;obtain⟨w4,hq_w4⟩:=nm_ (grow (redrawn wr dq) oq);rw[<-hq_w4]at hb_w4 ⊢;clear hq_w4;have d1:=cell_later hb_w4 hc2;have d2:w4.frozen? ⟨G k,P,none⟩=false:=by rw[hb_w4.frozen (p:=⟨G k,P,none⟩) lgk];exact hf2
   have HB4:=hd_ hb_w4;clear hb_w4 rb r1 r2 wr1 hc1 hc2;go_wp2;go_roundw
   case rel=>
    obtain⟨qs',q1,q2,q3,q4⟩:=HST.out w4 HB4.out;have lw2:w2.heap.size<w4.heap.size:=by have:=HB4.out.size;omega
    have e2:G k≠w2.heap.size:=by have:=HGk.out.2;omega
    have e1:G k≠w.heap.size+1:=by have:=HGk.out.1;omega
    refine⟨k+1,qs',o_,by go_num,q1,q2,q3,?_,?_,?_,?_,by simpa using lw2⟩
    ·exact (World.cell?_setCell_other (h:=fun h=>by injection h with h;exact e2 h) ..).trans (cell_later HB4.out hbox)
    ·exact (World.cell?_setCell_other (h:=fun h=>by injection h with h;exact e1 h) ..).trans (cell_later HB4.out cr)
    ·rw[World.frozen?_setCell,HB4.out.frozen (p:=⟨w.heap.size+1,0,none⟩) (by simp;omega)];exact fr
    ·exact (HB.out.trans (HB4.out.mono HB.out.size)).setCell (by have:=HGk.out.1;simp;omega) _
   case measure=>simp[intOf];omega
  ·have hq:qs=addV rs t n:=eq_three HQ3.out rfl (fun i hi=>by rw[HQ.out i hi,if_pos o_,addV_get _ _ _ _ hi])
   have HE:=hd_ hq;clear hq;go_wp2;have hr:=World.cell?_setCell_same wr ⟨w.heap.size+1,0,none⟩ (.slice (some ⟨g,0,none⟩) 3 c) cr;have hw:=HO.out.grown (grownBy_setCell wr ⟨w.heap.size+1,0,none⟩ (.slice (some ⟨g,0,none⟩) 3 c)) (fun k e=>by simp at e;omega);rw[HE.out]at hw
   exact bodyPost_ret (v:=.tuple #[.agg #[.slice (some ⟨g,0,none⟩) 3 c],.bool true]) (by simp[results,Tryz.results310,go_sem,hr]) rfl
    ⟨_,_,G,C,rfl,hw.base o_,HB.out.setCell (by simp) _⟩
def addRows (x y:List Int):List Int:=(List.range 8).map fun k=>x.getD k 0+y.getD k 0
def joinV (ra rb:List (List Int)):List (List Int):=[addRows (ra.getD 0 []) (rb.getD 0 []),addRows (ra.getD 1 []) (rb.getD 1 []),addRows (ra.getD 2 []) (rb.getD 2 [])]
def joinB (ra rb:List (List Int)):Bool:=okB ra&&okB rb&&decide (allV ra+allV rb<=2000)
theorem joinB_iff (ra rb:List (List Int)):joinB ra rb=true↔okB ra=true/\okB rb=true/\allV ra+allV rb<=2000:=by simp[joinB,and_assoc]
theorem joinV_get (ra rb:List (List Int)) (i:Nat) (hi:i<3):(joinV ra rb).getD i []=addRows (ra.getD i []) (rb.getD i []):=by
 rcases (by omega:i=0\/i=1\/i=2)with rfl|rfl|rfl<;>rfl
theorem addRows_len (x y:List Int):(addRows x y).length=8:=by simp[addRows]
theorem addRows_get (x y:List Int) (k:Nat) (h:k<8):(addRows x y).getD k 0=x.getD k 0+y.getD k 0:=by
 simp only[addRows,List.getD_eq_getElem?_getD,List.getElem?_map,List.getElem?_range h,Option.map_some,Option.getD_some]
theorem allV_sum {rs:List (List Int)} (h:okB rs=true):(rs.getD 0 []).sum=allV rs:=(if_pos h).symm
def oneRow (t n:Int) (i:Nat):List Int:=zeros.set (place i t).toNat n
def oneV (t n:Int):List (List Int):=[oneRow t n 0,oneRow t n 1,oneRow t n 2]
theorem oneV_get (t n:Int) (i:Nat) (hi:i<3):(oneV t n).getD i []=oneRow t n i:=by
 rcases (by omega:i=0\/i=1\/i=2)with rfl|rfl|rfl<;>rfl
theorem oneRow_len (t n:Int) (i:Nat):(oneRow t n i).length=8:=by simp[oneRow,zeros]
theorem zeros_get (k:Nat):zeros.getD k 0=0:=by
 by_cases h:k<8
 ·rcases (by omega:k=0\/k=1\/k=2\/k=3\/k=4\/k=5\/k=6\/k=7)with rfl|rfl|rfl|rfl|rfl|rfl|rfl|rfl<;>rfl
 ·rw[List.getD_eq_getElem?_getD,List.getElem?_eq_none (by simp[zeros];omega)];rfl
theorem set_get (zs:List Int) (p k:Nat) (n:Int) (hp:p<zs.length):(zs.set p n).getD k 0=if k=p then n else zs.getD k 0:=by
 by_cases h:k=p
 ·subst h
  rw[if_pos rfl,List.getD_eq_getElem?_getD,List.getElem?_set_self hp];rfl
 ·rw[if_neg h]
  simp[Ne.symm h]
theorem one_sum (p:Nat) (hp:p<8) (n:Int):(zeros.set p n).sum=n:=by
 rcases (by omega:p=0\/p=1\/p=2\/p=3\/p=4\/p=5\/p=6\/p=7)with rfl|rfl|rfl|rfl|rfl|rfl|rfl|rfl<;>simp[zeros]
theorem oneRow_sum (t n:Int) (i:Nat):(oneRow t n i).sum=n:=by
 obtain⟨P,_,hP,e⟩:=place_nat i t;unfold oneRow;rw[e];exact one_sum P hP n
theorem oneRow_get (t n:Int) (i k:Nat):(oneRow t n i).getD k 0=if k=(place i t).toNat then n else 0:=by
 obtain⟨P,_,hP,e⟩:=place_nat i t;unfold oneRow;rw[e,set_get _ _ _ _ (by simpa[zeros]using hP),zeros_get]
theorem oneV_ok (t n:Int) (h:0<=n/\n<=2000):okB (oneV t n)=true:=by
 rw[okB_iff];refine⟨rfl,fun i hi=>?_⟩;unfold Good;rw[oneV_get _ _ _ hi,oneV_get _ _ 0 o_,oneRow_sum,oneRow_sum];refine⟨oneRow_len _ _ _,fun k _=>?_,rfl,h.2⟩;rw[oneRow_get]
 split<;>omega
theorem oneV_all (t n:Int) (h:0<=n/\n<=2000):allV (oneV t n)=n:=by
 rw[<-allV_sum (oneV_ok t n h),oneV_get _ _ 0 o_,oneRow_sum]
theorem oneV_bad (t n:Int) (h:n<0\/2000<n):okB (oneV t n)=false:=by
 refine okB_false (.inr ⟨0,o_,fun g=>?_⟩);have h1:=g.2.1;have h2:=g.2.2.2;rw[oneV_get _ _ 0 o_]at h1 h2;rw[oneRow_sum]at h2;obtain⟨P,_,hP,e⟩:=place_nat (0:Nat) t;have h3:=h1 P hP;rw[oneRow_get,if_pos e.symm]at h3;omega
theorem join_one (rs:List (List Int)) (t n:Int) (h0:0<=t) (h1:t<64):joinB rs (oneV t n)=addB rs t n:=by
 rw[Bool.eq_iff_iff,joinB_iff,addB_iff]
 by_cases h:0<=n/\n<=2000
 ·rw[oneV_all t n h,oneV_ok t n h]
  constructor
  ·rintro⟨a,_,b⟩;exact⟨a,h0,h1,h.1,o_⟩
  ·rintro⟨a,_,_,_,b⟩;exact⟨a,rfl,o_⟩
 ·rw[oneV_bad t n o_]
  constructor
  ·rintro⟨_,b,_⟩;cases b
  ·rintro⟨a,_,_,b,c⟩;have:=allV_ok a;omega
theorem joinV_one (rs:List (List Int)) (t n:Int) (hok:okB rs=true):joinV rs (oneV t n)=addV rs t n:=by
 obtain⟨_,hg⟩:=(okB_iff rs).1 hok;refine eq_three rfl rfl fun i hi=>?_
 rw[joinV_get _ _ _ hi,addV_get _ _ _ _ hi,oneV_get _ _ _ hi];obtain⟨P,_,hP,e⟩:=place_nat i t;have h8:=(hg i hi).1;refine of_decide_eq_true (eq_of_get (d:=0) (n:=8) (addRows_len _ _) (by simp only[addRow,List.length_set];exact h8) fun k hk=>?_);rw[addRows_get _ _ _ hk,oneRow_get];unfold addRow atV;rw[e,set_get _ _ _ _ (by rw[h8];exact hP)]
 split
 ·rename_i h;subst h;rfl
 ·omega
end Go.Proofs.YtcblbdpdbggkbaaGreat
namespace Go.Proofs.YtcblbdpdbggkbaaGreat
open Go.RowKit
theorem sum8 {zs:List Int} (h:zs.length=8):zs.sum=zs.getD 0 0+zs.getD 1 0+zs.getD 2 0+zs.getD 3 0+zs.getD 4 0+zs.getD 5 0+zs.getD 6 0+zs.getD 7 0:=by
 match zs,h with
 | [a,b,c,d,e,f,g,i],_=>simp;omega
theorem addRows_sum (x y:List Int) (hx:x.length=8) (hy:y.length=8):(addRows x y).sum=x.sum+y.sum:=by
 rw[sum8 hx,sum8 hy,sum8 (addRows_len x y)];rw[addRows_get _ _ 0 (by omega),addRows_get _ _ 1 (by omega),addRows_get _ _ 2 (by omega),addRows_get _ _ 3 (by omega),addRows_get _ _ 4 (by omega),addRows_get _ _ 5 (by omega),addRows_get _ _ 6 (by omega),addRows_get _ _ 7 (by omega)];omega
theorem okB_fine {rs:List (List Int)} (h3:rs.length=3) (h:∀i,i<3->Fine (rs.getD i [])/\(rs.getD i []).sum=(rs.getD 0 []).sum):okB rs=true:=
 (okB_iff rs).2 ⟨h3,fun i hi=>⟨(h i hi).1.1,(h i hi).1.bd.2.2,(h i hi).2,(h i hi).1.2.2⟩⟩
theorem fine_okB {rs:List (List Int)} (h:okB rs=true) (i:Nat) (hi:i<3):Fine (rs.getD i [])/\(rs.getD i []).sum=allV rs:=by
 obtain⟨_,hg⟩:=(okB_iff rs).1 h;have g:=hg i hi;exact⟨⟨g.1,fun k hk=>(g.2.1 k hk).1,g.2.2.2⟩,g.2.2.1.trans (allV_sum h)⟩
theorem okB_join {ra rb:List (List Int)} (h:joinB ra rb=true):okB (joinV ra rb)=true/\allV (joinV ra rb)=allV ra+allV rb:=by
 obtain⟨ha,hb,hs⟩:=(joinB_iff ra rb).1 h;have rowS:∀i,i<3->((joinV ra rb).getD i []).sum=allV ra+allV rb:=fun i hi=>by
  rw[joinV_get _ _ _ hi,addRows_sum _ _ (fine_okB ha i hi).1.1 (fine_okB hb i hi).1.1,(fine_okB ha i hi).2,(fine_okB hb i hi).2]
 have ok:okB (joinV ra rb)=true:=okB_fine rfl fun i hi=>by
  refine⟨⟨by rw[joinV_get _ _ _ hi];exact addRows_len _ _,fun k hk=>?_,by rw[rowS i hi];exact hs⟩,by rw[rowS i hi,rowS 0 (by omega)]⟩;rw[joinV_get _ _ _ hi,addRows_get _ _ _ hk];have:=(fine_okB ha i hi).1.2.1 k hk;have:=(fine_okB hb i hi).1.2.1 k hk;omega
 exact⟨ok,by rw[<-allV_sum ok,rowS 0 (by omega)]⟩
theorem okB_add {rs:List (List Int)} {t n:Int} (h:addB rs t n=true):okB (addV rs t n)=true/\allV (addV rs t n)=allV rs+n:=by
 obtain⟨ok,t0,t1,n0,n1⟩:=(addB_iff rs t n).1 h;have hj:=join_one rs t n t0 t1;rw[h]at hj;have:=okB_join hj;have av:=allV_ok ok;rw[joinV_one rs t n ok,oneV_all t n (by omega)]at this;exact this
def EndR (w:World) (ok:Bool) (rs:List (List Int)) (e:Ending) (w':World):Prop:=
 ∃x m c,e=.returned (.tuple #[.agg #[.slice x m c],.bool ok])/\Below w.heap.size w w'/\(ok=false->x=none/\m=0/\c=0)/\(ok=true->m=3/\∃G C,OwnR w' w.heap.size (.slice x m c) rs G C)
theorem spAdd_end (w:World) (u:Value) (rs:List (List Int)) (t n:Int) (h:Rws w u rs):Calls Tryz.prog 310 #[.agg #[u],iv t,iv n] w (EndR w (addB rs t n) (addV rs t n)):=by
 cases q:addB rs t n with
 |false=>exact (spAdd_no w u rs t n h q).mono fun e w' ⟨he,hb⟩=>⟨none,0,0,he,hb,fun _=>⟨rfl,rfl,rfl⟩,fun q=>by cases q⟩
 |true=>exact (spAdd_yes w u rs t n h q).mono fun e w' ⟨x,c,G,C,he,ho,hb⟩=>⟨x,3,c,he,hb,fun q=>(by cases q),fun _=>⟨rfl,G,C,ho⟩⟩
def resV (ok:Bool) (rs:List (List Int)):List (List Int):=if ok=true then rs else []
end Go.Proofs.YtcblbdpdbggkbaaGreat
namespace Go.Proofs.YtcblbdpdbggkbaaGreat
open Go.RowKit Go.Sort
def markV (t:Int):Int:=if 0<=t/\t<64 then (37 * t+11) % 64 else -1
theorem markV_yes {t:Int} (h0:0<=t) (h1:t<64):markV t=(37 * t+11) % 64:=if_pos ⟨h0,h1⟩
theorem markV_no {t:Int} (h:t<0\/64<=t):markV t= -1:=if_neg (by omega)
theorem markV_in {t:Int} (h0:0<=t) (h1:t<64):0<=markV t/\markV t<64:=by rw[markV_yes h0 h1];omega
theorem spMark_at (t:Int) (w:World):Calls Tryz.prog 321 #[.int .i64 t] w fun e w'=>e=.returned (.int .i64 (markV t))/\w=w':=by
 by_cases h:t<0\/63<t
 ·rw[markV_no (by omega)]
  go_enter Tryz.func321,Tryz.ntmps321
  go_wp2_with (go_at_call 66;refine (l6In_no _ _ _ _ h).mono ?_;rintro e w' ⟨rfl,rfl⟩)
  go_ret;exact⟨rfl,rfl⟩
 ·have h0:0<=t:=by omega
  have h1:t<64:=by omega
  have h2:t<=63:=by omega
  rw[markV_yes h0 h1];clear h;go_enter Tryz.func321,Tryz.ntmps321
  go_wp2_with (go_at_call 66;refine (l6In_yes _ _ _ _ h0 h2).mono ?_;rintro e w' ⟨rfl,rfl⟩)
  go_ret;exact⟨ret_int (by first|rfl|(simp;omega)|omega),rfl⟩
def FewG (zs:List Int) (i:Nat):Prop:=(0<=zs.getD i 0/\zs.getD i 0<=63)/\(0<i->zs.getD (i - 1) 0<zs.getD i 0)
instance (zs:List Int) (i:Nat):Decidable (FewG zs i):=by unfold FewG;infer_instance
def FewP (zs:List Int):Prop:=zs.length<=6/\∀i,i<zs.length->FewG zs i
instance (zs:List Int):Decidable (FewP zs):=by unfold FewP;infer_instance
def fewB (zs:List Int):Bool:=decide (FewP zs)
theorem fewB_iff (zs:List Int):fewB zs=true↔FewP zs:=by simp[fewB]
theorem fewB_long {zs:List Int} (h:6<zs.length):fewB zs=false:=by simp only[fewB,decide_eq_false_iff_not];exact fun q=>by have:=q.1;omega
theorem fewB_bad {zs:List Int} {i:Nat} (hi:i<zs.length) (h:¬FewG zs i):fewB zs=false:=by simp only[fewB,decide_eq_false_iff_not];exact fun q=>h (q.2 i hi)
theorem fewB_good {zs:List Int} (hl:zs.length<=6) (h:∀i,i<zs.length->FewG zs i):fewB zs=true:=(fewB_iff zs).2 ⟨hl,h⟩
theorem spFewOk_some (b o c n:Nat) (zs:List Int) (w:World) (hl:zs.length=n) (hn:n<=maxLen) (hb:b<w.heap.size) (hc:∀i,i<n->w.cell? ⟨b,o+i,none⟩=some (.int .i64 (zs.getD i 0))):
  Calls Tryz.prog 220 #[.agg #[.slice (some ⟨b,o,none⟩) n c]] w fun e w'=>e=.returned (.bool (fewB zs))/\Below w.heap.size w w':=by
 unfold maxLen at hn;have HC:=hd_ hc;have HL:=hd_ hl;clear hc hl;go_enter Tryz.func220,Tryz.ntmps220;go_wp2;go_loopw [3] (fun i wr=>∃k:Nat,k<=n/\i=.int .i64 k/\(∀i,i<k->FewG zs i)/\Below w.heap.size w wr/\wr.cell? ⟨w.heap.size,0,none⟩=some (.slice (some ⟨b,o,none⟩) n c)) (fun i _=>n - (intOf i).toNat)
 case atStart=>exact⟨0,Nat.zero_le _,rfl,fun _ h=>absurd h (Nat.not_lt_zero _),(Below.refl _ _).alloc lr_ _,by simp⟩
 case round=>
  obtain⟨k,hk,rfl,hg,hbl,hbox⟩:=hrel;have G:=hd_ hg;have HB:=hd_ hbl;clear hg hbl
  by_cases hlt:k<n
  ·have h1:=HC.out k hlt
   rw[<-HB.out.cell (p:=⟨b,o+k,none⟩) hb]at h1;obtain⟨x,hx⟩:∃x,zs.getD k 0=x:=⟨_,rfl⟩
   rw[hx]at h1;have HX:=hd_ hx;clear hx;have k0:(0:Int)<=(k:Int):=by omega
   have kn:(k:Int)<(n:Int):=by omega
   by_cases hr:x<0\/63<x
   ·have bad:Hid (fewB zs=false):=fewB_bad (by rw[HL.out];exact hlt) (fun q=>by have:=q.1;rw[HX.out]at this;omega)
    go_wp2
    go_quiet (with_reducible exact quiet_same' (l6In_no _ _ _ _ hr))
    go_wp2;go_ret;exact⟨ret_bool bad.out.symm,below_drewN HB.out _⟩
   have x0:0<=x:=by omega
   have x1:x<=63:=by omega
   rcases Nat.eq_zero_or_pos k with h0|h0
   ·subst h0
    have good:Hid (FewG zs 0):=⟨by rw[HX.out];exact⟨x0,x1⟩,fun h=>absurd h (Nat.lt_irrefl _)⟩
    have h1':wr.cell? ⟨b,o,none⟩=some (.int .i64 x):=h1;have z0:(0:Int)<(n:Int):=by omega
    go_wp2
    go_quiet (with_reducible exact quiet_same' (l6In_yes _ _ _ _ x0 x1))
    go_wp2;go_roundw
    case rel=>exact⟨1,by omega,by go_num,fun i hi=>by
          obtain rfl:i=0:=by omega
          exact good.out,below_drewN HB.out _,by simpa using hbox⟩
    case measure=>simp[intOf];omega
   ·obtain⟨j,rfl⟩:∃j,k=j+1:=⟨k - 1,by omega⟩
    have h2:=HC.out j (by omega);rw[<-HB.out.cell (p:=⟨b,o+j,none⟩) hb]at h2;obtain⟨y,hy'⟩:∃y,zs.getD j 0=y:=⟨_,rfl⟩
    rw[hy']at h2;have HY:=hd_ hy';clear hy';have p0:(0:Int)<((j+1:Nat):Int):=by omega
    have e1:((j+1:Nat):Int) - 1=(j:Int):=by omega
    have j0:(0:Int)<=(j:Int):=by omega
    have jn:(j:Int)<(n:Int):=by omega
    by_cases hyx:x<=y
    ·have bad:Hid (fewB zs=false):=fewB_bad (by rw[HL.out];exact hlt) (fun q=>by have:=q.2 h0;rw[HX.out,Nat.add_sub_cancel,HY.out]at this;omega)
     have hd:decide (x<=y)=true:=decide_eq_true hyx;go_wp2
     go_quiet (with_reducible exact quiet_same' (l6In_yes _ _ _ _ x0 x1))
     go_wp2;go_ret;exact⟨ret_bool bad.out.symm,below_drewN HB.out _⟩
    ·have good:Hid (FewG zs (j+1)):=⟨by rw[HX.out];exact⟨x0,x1⟩,fun _=>by rw[Nat.add_sub_cancel,HX.out,HY.out];omega⟩
     have hd:decide (x<=y)=false:=decide_eq_false hyx;go_wp2
     go_quiet (with_reducible exact quiet_same' (l6In_yes _ _ _ _ x0 x1))
     go_wp2;go_roundw
     case rel=>exact⟨j+1+1,by omega,by go_num,fun i hi=>by
            by_cases h:i<j+1
            · exact G.out i h
            · obtain rfl:i=j+1:=by omega
              exact good.out,below_drewN HB.out _,by simpa using hbox⟩
     case measure=>simp[intOf];omega
  ·by_cases h6:n<=6
   ·have good:Hid (fewB zs=true):=fewB_good (by rw[HL.out];exact h6) (fun i hi=>G.out i (by rw[HL.out]at hi;omega))
    have h6':(n:Int)<=6:=by omega
    go_wp2;go_ret;exact⟨ret_bool (by first|(rw[good.out];done)|(rw[good.out];simp;omega)),HB.out⟩
   ·have bad:Hid (fewB zs=false):=fewB_long (by rw[HL.out];omega)
    go_wp2;go_ret;exact⟨ret_bool (by first|(rw[bad.out];done)|(rw[bad.out];simp;omega)),HB.out⟩
theorem spFewOk_at (w:World) (u:Value) (zs:List Int) (h:Ints w u zs):
  Calls Tryz.prog 220 #[.agg #[u]] w fun e w'=>e=.returned (.bool (fewB zs))/\Below w.heap.size w w':=by
 rcases h with ⟨rfl,rfl⟩|⟨b,o,cap,rfl,h1,h2,hb,hc⟩
 ·have e:fewB []=true:=by decide
  rw[e];go_enter Tryz.func220,Tryz.ntmps220;go_wp2;refine wp_loop_rounds 1 ?_;rw[rounds_succ];go_wp2;go_ret;exact⟨rfl,(Below.refl _ _).alloc lr_ _⟩
 ·exact spFewOk_some b o cap _ zs w rfl (by omega) hb hc
theorem fewB_parts {zs:List Int} (h:fewB zs=true):zs.length<=6/\(∀i,i<zs.length->0<=zs.getD i 0/\zs.getD i 0<=63)/\∀i,i+1<zs.length->zs.getD i 0<zs.getD (i+1) 0:=by
 obtain⟨h1,h2⟩:=(fewB_iff zs).1 h;refine⟨h1,fun i hi=>(h2 i hi).1,fun i hi=>?_⟩;have:=(h2 (i+1) hi).2 (by omega);rwa[Nat.add_sub_cancel]at this
def inThings (t:Int):Bool:=decide (0<=t/\t<64)
theorem mem_get {zs:List Int} {x:Int}:x ∈ zs↔∃i,i<zs.length/\zs.getD i 0=x:=by
 constructor
 ·intro h
  obtain⟨i,hi,rfl⟩:=List.getElem_of_mem h;exact⟨i,hi,by simp[hi]⟩
 ·rintro⟨i,hi,rfl⟩
  exact getD_mem zs i 0 hi
theorem inThings_iff (t:Int):inThings t=true↔0<=t/\t<64:=by simp[inThings]
theorem inThings_no (t:Int):inThings t=false↔t<0\/64<=t:=by simp[inThings];omega
theorem few_info:(Tryz.prog.info? 3).map (fun i=>(i.zero,i.size,i.bytes))=some (some (.int .i64 0),1,8):=by kernel_rfl
theorem few_empty (w:World) (B:Nat) (hB:B<=w.heap.size):(w.alloc (.cells #[] 3)).ownsRow B 3 1 (.slice (some ⟨w.heap.size,0,none⟩) 0 0) 0 []:=
 World.ownsRow_lit (base:=B) (e:=3) (size:=1) w #[] 0 hB (by simp[maxLen]) (by simp)
def OwnI (w:World) (B:Nat) (v:Value) (zs:List Int):Prop:=w.ownsRow B 3 1 v zs.length (ints zs)
theorem OwnI.rd {w:World} {B:Nat} {v:Value} {zs:List Int} (h:OwnI w B v zs):Ints w v zs:=ownI_ints h
theorem OwnI.base {w:World} {B B':Nat} {v:Value} {zs:List Int} (h:OwnI w B v zs) (hB:B'<=B):OwnI w B' v zs:=ownsRow_base h hB
theorem OwnI.kept {w w':World} {B:Nat} {v:Value} {zs:List Int} {row:Option Nat} (h:OwnI w B v zs) (hg:w.grownBy w' row) (hr:∀k,row=some k->k<B):OwnI w' B v zs:=by
 refine World.ownsRow.kept h hg ?_;cases hv:v.ownBlock with
 |none=>exact .inl rfl
 |some k=>exact .inr (fun e=>by have:=(World.ownsRow.lt h k hv).1;have:=hr k e.symm;omega)
theorem OwnI.nil (w:World) (B:Nat):OwnI w B (.slice none 0 0) []:=World.ownsRow_nil w B _ 1
theorem OwnI.form {w:World} {B:Nat} {v:Value} {zs:List Int} (h:OwnI w B v zs):∃x c,v=.slice x zs.length c:=h.rd.cases.1
theorem ints_snoc (zs:List Int) (x:Int):ints (zs++[x])=ints zs++[.int .i64 x]:=by simp[ints]
theorem OwnI.take {w:World} {B n c:Nat} {x:Option Addr} {zs:List Int} (h:OwnI w B (.slice x n c) zs) (k:Nat) (hk:k<=zs.length):OwnI w B (.slice x k c) (zs.take k):=by
 have hl:(zs.take k).length=k:=by simp;omega
 have hi:ints (zs.take k)=(ints zs).take k:=by simp[ints,List.map_take]
 obtain⟨h1,h2⟩:=h;refine⟨by rw[ints_len];simp,?_⟩;rw[hl];rcases h2 with ⟨e,h0⟩|⟨g,cap,cur,e,hb,hh,hn,hm,hs,ht⟩
 ·refine .inl ⟨?_,by omega⟩
  obtain⟨rfl,rfl,rfl⟩:=Value.slice.inj e;obtain rfl:k=0:=by omega
  rfl
 ·obtain⟨rfl,rfl,rfl⟩:=Value.slice.inj e
  refine .inr ⟨g,c,cur,rfl,hb,hh,by omega,hm,hs,?_⟩;rw[hi, <-ht,List.take_take]
  congr 1
  omega
def putL (m:Int):List Int->Bool->List Int
 | [],d=>if d then []else [m]
 |x::xs,d=>(if !d&&decide (m<=x)then [m]else [])++((if x=m then []else [x])++putL m xs (d || decide (m<=x)))
def putV (zs:List Int) (m:Int):List Int:=(putL m zs false).take 6
theorem drop_cons {zs:List Int} {k:Nat} (h:k<zs.length):zs.drop k=zs.getD k 0::zs.drop (k+1):=by
 rw[List.drop_eq_getElem_cons h];simp[h]
theorem put1 (m:Int) (rest:List Int):putL m (m::rest) false=[m]++putL m rest true:=by
 show (if _ then _ else _)++((if _ then _ else _)++putL m rest _)=_
 simp
theorem put2 {m y:Int} (rest:List Int) (h:m<=y) (h':y≠m):putL m (y::rest) false=[m]++([y]++putL m rest true):=by
 show (if _ then _ else _)++((if _ then _ else _)++putL m rest _)=_
 simp[h,h']
theorem put3 (m:Int) (rest:List Int):putL m (m::rest) true=putL m rest true:=by
 show (if _ then _ else _)++((if _ then _ else _)++putL m rest _)=_
 simp
theorem put4 {m y:Int} {d:Bool} (rest:List Int) (h:d=true\/y<m) (h':y≠m):putL m (y::rest) d=[y]++putL m rest d:=by
 show (if _ then _ else _)++((if _ then _ else _)++putL m rest _)=_
 rcases h with h|h
 ·simp[h,h']
 ·have:¬m<=y:=by omega
  simp[this,h']
theorem own_snoc {w:World} {B no:Nat} {v:Value} {os:List Int} {m:Int} (h:w.ownsRow B 3 1 v (no+1) (ints os++[.int .i64 m])) (hn:no=os.length):OwnI w B v (os++[m]):=by
 unfold OwnI;rw[ints_snoc,List.length_append, <-hn];exact h
theorem below_append {w wr w':World} {o:Obj} {e:TypeId} {v:Value} {n:Nat} {xs:List Value} (hb:Below w.heap.size w wr) (ho:wr.ownsRow w.heap.size e 1 v n xs) (hg:(wr.alloc o).grownBy w' v.ownBlock):Below w.heap.size w w':=
 (hb.alloc hb.size o).grown hg (Nat.le_trans hb.size (by simp)) (fun k e=>(ho.lt k e).1)
theorem own_cap {w:World} {B n c:Nat} {e:TypeId} {x:Option Addr} {xs:List Value} (h:w.ownsRow B e 1 (.slice x n c) n xs):n<=c/\c<=maxLen:=by
 rcases h.2 with ⟨e,h0⟩|⟨g,cap,cur,e,hb,hh,hn,hm,hs,ht⟩
 ·obtain⟨_,h1,h2⟩:=Value.slice.inj e
  subst h1 h2;exact⟨Nat.le_refl _,Nat.zero_le _⟩
 ·obtain⟨_,_,h2⟩:=Value.slice.inj e
  subst h2;exact⟨hn,hm⟩
theorem cell_append {w wr w':World} {o:Obj} {e:TypeId} {v u:Value} {n:Nat} {xs:List Value} {a:Addr} (hc:wr.cell? a=some u) (ha:a.block<w.heap.size) (ho:wr.ownsRow w.heap.size e 1 v n xs) (hg:(wr.alloc o).grownBy w' v.ownBlock):w'.cell? a=some u:=
 hg.cell ((World.cell?_alloc_lt (h:=World.block_lt_of_cell? _ _ hc) ..).trans hc) (fun h=>by have:=(ho.lt _ h.symm).1;omega)
theorem l2Put_some (w:World) (b o c n:Nat) (zs:List Int) (m:Int) (hl:zs.length=n) (hn:n<=100) (hb:b<w.heap.size) (hc:∀i,i<n->w.cell? ⟨b,o+i,none⟩=some (.int .i64 (zs.getD i 0))):
  Calls Tryz.prog 225 #[.slice (some ⟨b,o,none⟩) n c,.int .i64 m] w fun e w'=>∃v,e=.returned v/\OwnI w' w.heap.size v (putV zs m)/\Below w.heap.size w w':=by
 obtain⟨i0,hi,hz0,hz1,hz2⟩:=info_parts few_info;have HL:=hd_ hl;have HC:=hd_ hc;clear hl hc;go_enter Tryz.func225,Tryz.ntmps225;go_wp2;go_loopw [5,6,7] (fun u d i wr=>∃(k:Nat) (dn:Bool) (os:List Int),k<=n/\i=.int .i64 k/\d=.bool dn/\os.length<=2 * k/\OwnI wr w.heap.size u os/\os++putL m (zs.drop k) dn=putL m zs false/\Below w.heap.size w wr) (fun _ _ i _=>n - (intOf i).toNat)
 case atStart=>exact⟨0,false,[],Nat.zero_le _,rfl,rfl,Nat.le_refl _,few_empty w w.heap.size lr_,rfl,(Below.refl _ _).alloc lr_ _⟩
 case round=>
  obtain⟨k,dn,os,hk,rfl,rfl,hos,hown,hput,hbl⟩:=hrel;obtain⟨x,cp,hu⟩:=hown.form;obtain⟨no,hno⟩:∃no,no=os.length:=⟨_,rfl⟩
  have hno2:no<=200:=by omega
  rw[<-hno]at hu;subst hu;have HN:=hd_ hno;have HP:=hd_ hput;have HB:=hd_ hbl;have hsz:=hbl.size;have ho:wr.ownsRow w.heap.size 3 1 (.slice x no cp) no (ints os):=by have h:=hown;unfold OwnI at h;rw[<-hno]at h;exact h
  have HO:=hd_ ho;clear hput hbl hown hno ho
  by_cases hlt:k<n
  ·have h1:=HC.out k hlt
   rw[<-HB.out.cell (p:=⟨b,o+k,none⟩) hb]at h1;have hd:=drop_cons (zs:=zs) (k:=k) (by rw[HL.out];exact hlt);generalize zs.getD k 0=y at h1 hd;rw[hd]at HP;clear hd;have k0:(0:Int)<=(k:Int):=by omega
   have kn:(k:Int)<(n:Int):=by omega
   cases dn with
   |false=>
    by_cases hmy:m<=y
    ·have hD:decide (m<=y)=true:=decide_eq_true hmy
     by_cases hym:y=m
     ·subst hym
      go_wp2_with (first|(at_builtin;refine wpList_append_own _ rfl _ _ 23 rfl w.heap.size 3 i0 (.int .i64 0) 1 8 Tryz.underlying23 hi hz0 hz1 hz2 rfl (by decide) _ _ _ rfl (HO.out.alloc _) ⟨wr.heap.size,0,none⟩ 1 1 [.int .i64 y] rfl rfl (cell_one_new _ _ _) (by simp[Value.oneCell']) (by unfold maxLen;omega) (by omega) (by simp;omega) ?_;intro v1 w1 ho1 hg1 _;obtain⟨g_v1,c_v1,rfl,_,_⟩:=World.ownsRow.form ho1 (Nat.succ_pos _);have c_w1:=cell_append h1 hb HO.out hg1))
      go_roundw
      case rel=>exact⟨k+1,true,os++[y],by omega,by go_num,rfl,by simp;omega,own_snoc ho1 HN.out,by rw[<-HP.out,put1,List.append_assoc],below_append HB.out HO.out hg1⟩
      case measure=>simp[intOf];omega
     ·have hne:(y != m)=true:=by simpa using hym
      have hne2:decide (y=m)=false:=decide_eq_false hym
      go_wp2_with (first|(at_builtin;refine wpList_append_own _ rfl _ _ 23 rfl w.heap.size 3 i0 (.int .i64 0) 1 8 Tryz.underlying23 hi hz0 hz1 hz2 rfl (by decide) _ _ _ rfl (HO.out.alloc _) ⟨wr.heap.size,0,none⟩ 1 1 [.int .i64 m] rfl rfl (cell_one_new _ _ _) (by simp[Value.oneCell']) (by unfold maxLen;omega) (by omega) (by simp;omega) ?_;intro v1 w1 ho1 hg1 _;obtain⟨g_v1,c_v1,rfl,_,_⟩:=World.ownsRow.form ho1 (Nat.succ_pos _);have c_w1:=cell_append h1 hb HO.out hg1)|(at_builtin;refine wpList_append_own _ rfl _ _ 23 rfl w.heap.size 3 i0 (.int .i64 0) 1 8 Tryz.underlying23 hi hz0 hz1 hz2 rfl (by decide) _ _ _ rfl (ho1.alloc _) ⟨w1.heap.size,0,none⟩ 1 1 [.int .i64 y] rfl rfl (cell_one_new _ _ _) (by simp[Value.oneCell']) (by unfold maxLen;omega) (by omega) (by simp;omega) ?_;intro v2 w2 ho2 hg2 _;obtain⟨g_v2,c_v2,rfl,_,_⟩:=World.ownsRow.form ho2 (Nat.succ_pos _)))
      go_roundw
      case rel=>
       have o1:=own_snoc ho1 HN.out;have o2:=own_snoc (os:=os++[m]) (by have h:=ho2;rw[<-ints_snoc]at h;exact h) (by simp;exact HN.out);have b1:=below_append HB.out HO.out hg1;exact⟨k+1,true,os++[m]++[y],by omega,by go_num,rfl,by simp;omega,o2,by rw[<-HP.out,put2 _ hmy hym];simp,below_append b1 ho1 hg2⟩
      case measure=>simp[intOf];omega
    ·have hD:decide (m<=y)=false:=decide_eq_false hmy
     have hym:y≠m:=by omega
     have hne:(y != m)=true:=by simpa using hym
     have hne2:decide (y=m)=false:=decide_eq_false hym
     go_wp2_with (first|(at_builtin;refine wpList_append_own _ rfl _ _ 23 rfl w.heap.size 3 i0 (.int .i64 0) 1 8 Tryz.underlying23 hi hz0 hz1 hz2 rfl (by decide) _ _ _ rfl (HO.out.alloc _) ⟨wr.heap.size,0,none⟩ 1 1 [.int .i64 y] rfl rfl (cell_one_new _ _ _) (by simp[Value.oneCell']) (by unfold maxLen;omega) (by omega) (by simp;omega) ?_;intro v1 w1 ho1 hg1 _;obtain⟨g_v1,c_v1,rfl,_,_⟩:=World.ownsRow.form ho1 (Nat.succ_pos _);have c_w1:=cell_append h1 hb HO.out hg1))
     go_roundw
     case rel=>exact⟨k+1,false,os++[y],by omega,by go_num,rfl,by simp;omega,own_snoc ho1 HN.out,by rw[<-HP.out,put4 _ (.inr (by omega)) hym,List.append_assoc],below_append HB.out HO.out hg1⟩
     case measure=>simp[intOf];omega
   |true=>
    by_cases hym:y=m
    ·subst hym
     go_wp2;go_roundw
     case rel=>exact⟨k+1,true,os,by omega,by go_num,rfl,by omega,by have h:=HO.out;rw[HN.out]at h;rw[HN.out];exact h,by rw[<-HP.out,put3],HB.out⟩
     case measure=>simp[intOf];omega
    ·have hne:(y != m)=true:=by simpa using hym
     have hne2:decide (y=m)=false:=decide_eq_false hym
     go_wp2_with (first|(at_builtin;refine wpList_append_own _ rfl _ _ 23 rfl w.heap.size 3 i0 (.int .i64 0) 1 8 Tryz.underlying23 hi hz0 hz1 hz2 rfl (by decide) _ _ _ rfl (HO.out.alloc _) ⟨wr.heap.size,0,none⟩ 1 1 [.int .i64 y] rfl rfl (cell_one_new _ _ _) (by simp[Value.oneCell']) (by unfold maxLen;omega) (by omega) (by simp;omega) ?_;intro v1 w1 ho1 hg1 _;obtain⟨g_v1,c_v1,rfl,_,_⟩:=World.ownsRow.form ho1 (Nat.succ_pos _);have c_w1:=cell_append h1 hb HO.out hg1))
     go_roundw
     case rel=>exact⟨k+1,true,os++[y],by omega,by go_num,rfl,by simp;omega,own_snoc ho1 HN.out,by rw[<-HP.out,put4 _ (.inl rfl) hym,List.append_assoc],below_append HB.out HO.out hg1⟩
     case measure=>simp[intOf];omega
  ·have hd0:zs.drop k=[]:=List.drop_of_length_le (by rw[HL.out];omega)
   rw[hd0]at HP;clear hd0;cases dn with
   |false=>
    have hPV:putL m zs false=os++[m]:=HP.out.symm;have HPV:=hd_ hPV;clear hPV
    by_cases h6:no+1<=6
    ·have h6':(no:Int)+1<=6:=by omega
     go_wp2_with (first|(at_builtin;refine wpList_append_own _ rfl _ _ 23 rfl w.heap.size 3 i0 (.int .i64 0) 1 8 Tryz.underlying23 hi hz0 hz1 hz2 rfl (by decide) _ _ _ rfl (HO.out.alloc _) ⟨wr.heap.size,0,none⟩ 1 1 [.int .i64 m] rfl rfl (cell_one_new _ _ _) (by simp[Value.oneCell']) (by unfold maxLen;omega) (by omega) (by simp;omega) ?_;intro v1 w1 ho1 hg1 _;obtain⟨g_v1,c_v1,rfl,_,_⟩:=World.ownsRow.form ho1 (Nat.succ_pos _);obtain⟨cc1,cc2⟩:=own_cap ho1))
     go_ret;refine⟨_,rfl,?_,below_append HB.out HO.out hg1⟩;have o1:=own_snoc ho1 HN.out;have e:putV zs m=os++[m]:=by unfold putV;rw[HPV.out,List.take_of_length_le (by simp;rw[<-HN.out];omega)]
     rw[e];exact o1
    ·have h6':¬(no:Int)+1<=6:=by omega
     go_wp2_with (first|(at_builtin;refine wpList_append_own _ rfl _ _ 23 rfl w.heap.size 3 i0 (.int .i64 0) 1 8 Tryz.underlying23 hi hz0 hz1 hz2 rfl (by decide) _ _ _ rfl (HO.out.alloc _) ⟨wr.heap.size,0,none⟩ 1 1 [.int .i64 m] rfl rfl (cell_one_new _ _ _) (by simp[Value.oneCell']) (by unfold maxLen;omega) (by omega) (by simp;omega) ?_;intro v1 w1 ho1 hg1 _;obtain⟨g_v1,c_v1,rfl,_,_⟩:=World.ownsRow.form ho1 (Nat.succ_pos _);obtain⟨cc1,cc2⟩:=own_cap ho1))
     go_ret;refine⟨_,rfl,?_,below_append HB.out HO.out hg1⟩;have o1:=own_snoc ho1 HN.out;have e:putV zs m=(os++[m]).take 6:=by unfold putV;rw[HPV.out]
     rw[e];exact o1.take 6 (by simp;rw[<-HN.out];omega)
   |true=>
    have hPV:putL m zs false=os:=by rw[<-HP.out];unfold putL;simp
    have HPV:=hd_ hPV;clear hPV;have hcc:=own_cap HO.out;obtain⟨cc1,cc2⟩:=hcc;have fin:∀k,k<=no->(k=no/\no<=6\/k=6)->OwnI wr w.heap.size (.slice x k cp) (putV zs m):=fun k hk h=>by
     have ho:=HO.out;have o1:OwnI wr w.heap.size (.slice x no cp) os:=by rw[HN.out]at ho;rw[HN.out];exact ho
     have hn:=HN.out;have e:putV zs m=os.take k:=by
      unfold putV;rw[HPV.out];rcases h with ⟨h,h6⟩|h
      ·rw[List.take_of_length_le (by omega),List.take_of_length_le (by omega)]
      ·rw[h]
     rw[e];exact o1.take k (by omega)
    have FIN:=hd_ fin;clear fin;have hx:(x=none/\no=0/\cp=0)\/∃g,x=some ⟨g,0,none⟩:=by
     rcases HO.out.2 with ⟨e,h0⟩|⟨g,cap,cur,e,_⟩
     ·exact .inl (by have:=Value.slice.inj e;exact this)
     ·exact .inr ⟨g,(Value.slice.inj e).1⟩
    rcases hx with ⟨rfl,rfl,rfl⟩|⟨g,rfl⟩
    ·go_wp2
     go_ret;exact⟨_,rfl,FIN.out 0 lr_ (.inl ⟨rfl,by omega⟩),HB.out⟩
    ·have cc3:(no:Int)<=(cp:Int):=by omega
     by_cases h6:no<=6
     ·have h6':(no:Int)<=6:=by omega
      go_wp2;go_ret;exact⟨_,rfl,FIN.out no lr_ (.inl ⟨rfl,h6⟩),HB.out⟩
     ·have h6':¬(no:Int)<=6:=by omega
      have c6:(6:Int)<=(cp:Int):=by omega
      go_wp2;go_ret;exact⟨_,rfl,FIN.out 6 (by omega) (.inr rfl),HB.out⟩
theorem l2Put_none (w:World) (m:Int):Calls Tryz.prog 225 #[.slice none 0 0,.int .i64 m] w fun e w'=>∃v,e=.returned v/\OwnI w' w.heap.size v (putV [] m)/\Below w.heap.size w w':=by
 obtain⟨i0,hi,hz0,hz1,hz2⟩:=info_parts few_info;have HO:=hd_ (few_empty w w.heap.size lr_);have hbl:=(Below.refl w.heap.size w).alloc lr_ (.cells #[] 3);have HB:=hd_ hbl;clear hbl;go_enter Tryz.func225,Tryz.ntmps225;go_wp2;refine wp_loop_rounds 1 ?_;rw[rounds_succ]
 go_wp2_with (first|(at_builtin;refine wpList_append_own _ rfl _ _ 23 rfl w.heap.size 3 i0 (.int .i64 0) 1 8 Tryz.underlying23 hi hz0 hz1 hz2 rfl (by decide) _ _ _ rfl (HO.out.alloc _) ⟨w.heap.size+1,0,none⟩ 1 1 [.int .i64 m] rfl rfl (by have:=cell_one_new (w.alloc (.cells #[] 3)) (.int .i64 m) 3;simpa using this) (by simp[Value.oneCell']) (by unfold maxLen;omega) (by omega) (by simp;omega) ?_;intro v1 w1 ho1 hg1 _;obtain⟨g_v1,c_v1,rfl,_,_⟩:=World.ownsRow.form ho1 (Nat.succ_pos _);obtain⟨cc1,cc2⟩:=own_cap ho1))
 go_ret;refine⟨_,rfl,?_,below_append HB.out HO.out hg1⟩;have o1:=own_snoc (os:=[]) ho1 rfl;exact o1
theorem l2Put_at (w:World) (v:Value) (zs:List Int) (m:Int) (h:Ints w v zs) (hn:zs.length<=100):
  Calls Tryz.prog 225 #[v,.int .i64 m] w fun e w'=>∃v,e=.returned v/\OwnI w' w.heap.size v (putV zs m)/\Below w.heap.size w w':=by
 rcases h with ⟨rfl,rfl⟩|⟨b,o,cap,rfl,_,_,hb,hc⟩
 ·exact l2Put_none w m
 ·exact l2Put_some w b o cap _ zs m rfl hn hb hc
def addOkF (zs:List Int) (t:Int):Bool:=fewB zs&&inThings t
def addF (zs:List Int) (t:Int):List Int:=if addOkF zs t=true then putV zs (markV t)else []
theorem addF_yes {zs:List Int} {t:Int} (h:addOkF zs t=true):addF zs t=putV zs (markV t):=if_pos h
theorem addF_no {zs:List Int} {t:Int} (h:addOkF zs t=false):addF zs t=[]:=if_neg (by rw[h];simp)
theorem spFewAdd_no (w:World) (u:Value) (zs:List Int) (t:Int) (h:Ints w u zs) (hno:addOkF zs t=false):
  Calls Tryz.prog 311 #[.agg #[u],.int .i64 t] w fun e w'=>e=.returned (.tuple #[.agg #[.slice none 0 0],.bool false])/\Below w.heap.size w w':=by
 have hA:=((Below.refl w.heap.size w).alloc lr_ (.cells #[u] 38)).alloc (by simp) (.cells #[.slice none 0 0] 38);have K:=hd_ (spFewOk_at _ u zs (h.below hA lr_));have HA:=hd_ hA;clear hA;obtain⟨⟨x,c,hx⟩,_⟩:=h.cases;obtain⟨n,hn⟩:∃n,n=zs.length:=⟨_,rfl⟩
 rw[<-hn]at hx;subst hx;clear h hn;have cr:((w.alloc (.cells #[.slice x n c] 38)).alloc (.cells #[.slice none 0 0] 38)).cell? ⟨w.heap.size+1,0,none⟩=some (.slice none 0 0):=by rw[World.cell?_alloc_at (hn:=by simp)];simp
 have fr:((w.alloc (.cells #[.slice x n c] 38)).alloc (.cells #[.slice none 0 0] 38)).frozen? ⟨w.heap.size+1,0,none⟩=false:=World.frozen?_alloc_at _ _ _ _ (by simp);cases hok:fewB zs with
 |false=>
  rw[hok]at K;clear hok hno;go_enter Tryz.func311,Tryz.ntmps311
  go_wp2_with fail
  refine K.out.mono ?_;rintro e w1 ⟨rfl,hb1⟩;have cr1:=cell_later hb1 cr;have fr1:w1.frozen? ⟨w.heap.size+1,0,none⟩=false:=by rw[hb1.frozen (by simp)];exact fr
  go_wp2;have hr:=World.cell?_setCell_same w1 ⟨w.heap.size+1,0,none⟩ (.slice none 0 0) cr1;exact bodyPost_ret (v:=.tuple #[.agg #[.slice none 0 0],.bool false]) (by simp[results,Tryz.results311,go_sem,hr]) rfl ⟨rfl,(HA.out.trans (hb1.mono HA.out.size)).setCell (by simp) _⟩
 |true=>
  rw[hok]at K;have ht:t<0\/63<t:=by
   unfold addOkF at hno;rw[hok]at hno;have:=(inThings_no t).1 (by simpa using hno);omega
  clear hok hno;go_enter Tryz.func311,Tryz.ntmps311
  go_wp2_with fail
  refine K.out.mono ?_;rintro e w1 ⟨rfl,hb1⟩;have cr1:=cell_later hb1 cr;have fr1:w1.frozen? ⟨w.heap.size+1,0,none⟩=false:=by rw[hb1.frozen (by simp)];exact fr
  go_wp2_with (go_at_call 66;refine (l6In_no _ _ _ _ ht).mono ?_;rintro e w' ⟨rfl,rfl⟩)
  have hr:=World.cell?_setCell_same w1 ⟨w.heap.size+1,0,none⟩ (.slice none 0 0) cr1;exact bodyPost_ret (v:=.tuple #[.agg #[.slice none 0 0],.bool false]) (by simp[results,Tryz.results311,go_sem,hr]) rfl ⟨rfl,(HA.out.trans (hb1.mono HA.out.size)).setCell (by simp) _⟩
theorem spFewAdd_yes (w:World) (u:Value) (zs:List Int) (t:Int) (h:Ints w u zs) (hok:fewB zs=true) (t0:0<=t) (t1:t<64):
  Calls Tryz.prog 311 #[.agg #[u],.int .i64 t] w fun e w'=>∃v,e=.returned (.tuple #[.agg #[v],.bool true])/\OwnI w' w.heap.size v (putV zs (markV t))/\Below w.heap.size w w':=by
 have hA:=((Below.refl w.heap.size w).alloc lr_ (.cells #[u] 38)).alloc (by simp) (.cells #[.slice none 0 0] 38);have I:=hd_ (h.below hA lr_);have K:=hd_ (spFewOk_at _ u zs I.out);rw[hok]at K;have HA:=hd_ hA;have hl:=(fewB_parts hok).1;have t2:t<=63:=by omega
 have KM:Hid (∀W,Calls Tryz.prog 321 #[.int .i64 t] W fun e w'=>e=.returned (.int .i64 (markV t))/\W=w'):=fun W=>spMark_at t W
 have KP:Hid (∀W,Ints W u zs->Calls Tryz.prog 225 #[u,.int .i64 (markV t)] W fun e w'=>∃v,e=.returned v/\OwnI w' W.heap.size v (putV zs (markV t))/\Below W.heap.size W w'):=fun W hW=>l2Put_at W u zs _ hW (by omega)
 clear hA;obtain⟨⟨x,c,hx⟩,_⟩:=h.cases;obtain⟨n,hn⟩:∃n,n=zs.length:=⟨_,rfl⟩
 rw[<-hn]at hx;subst hx;generalize markV t=M at *;clear h hn hok;have cb:((w.alloc (.cells #[.slice x n c] 38)).alloc (.cells #[.slice none 0 0] 38)).cell? ⟨w.heap.size,0,none⟩=some (.slice x n c):=by
  rw[World.cell?_alloc_past (hn:=by simp)];simp
 have cr:((w.alloc (.cells #[.slice x n c] 38)).alloc (.cells #[.slice none 0 0] 38)).cell? ⟨w.heap.size+1,0,none⟩=some (.slice none 0 0):=by rw[World.cell?_alloc_at (hn:=by simp)];simp
 have fr:((w.alloc (.cells #[.slice x n c] 38)).alloc (.cells #[.slice none 0 0] 38)).frozen? ⟨w.heap.size+1,0,none⟩=false:=World.frozen?_alloc_at _ _ _ _ (by simp);go_enter Tryz.func311,Tryz.ntmps311
 go_wp2_with fail
 refine K.out.mono ?_;rintro e w1 ⟨rfl,hb1⟩;have cb1:=cell_later hb1 cb;have cr1:=cell_later hb1 cr;have fr1:w1.frozen? ⟨w.heap.size+1,0,none⟩=false:=by rw[hb1.frozen (by simp)];exact fr
 have B1:=hd_ (HA.out.trans (hb1.mono HA.out.size));have I1:=hd_ (I.out.below hb1 lr_);have l1:w.heap.size+1<w1.heap.size:=World.block_lt_of_cell? _ _ cr1;clear hb1 cb cr fr I
 go_wp2_with (go_at_call 66;refine (l6In_yes _ _ _ _ t0 t2).mono ?_;rintro e w' ⟨rfl,rfl⟩)
 have KPd:Hid (Calls Tryz.prog 225 #[.slice x n c,.int .i64 M] w1.drew fun e w'=>∃v,e=.returned v/\OwnI w' w1.drew.heap.size v (putV zs M)/\Below w1.drew.heap.size w1.drew w'):=KP.out w1.drew I1.out
 go_region_with (first|(go_at_call 321;refine (KM.out _).mono ?_;rintro e w' ⟨rfl,rfl⟩)|(go_at_call 225;refine KPd.out.mono ?_;rintro e w2 ⟨v,rfl,ho2,hb2⟩;obtain⟨xv,cv,rfl⟩:=ho2.form;have cr2:=cell_later hb2 cr1;have fr2:w2.frozen? ⟨w.heap.size+1,0,none⟩=false:=(hb2.frozen (p:=⟨w.heap.size+1,0,none⟩) l1).trans fr1))
 all_goals
  have ho3:=(ho2.kept (grownBy_setCell w2 ⟨w.heap.size+1,0,none⟩ (.slice xv (putV zs M).length cv)) (fun k e=>by simp at e;simp;omega)).base (B':=w.heap.size) (by simp;omega);have hr:=World.cell?_setCell_same w2 ⟨w.heap.size+1,0,none⟩ (.slice xv (putV zs M).length cv) cr2
  have hb3:Below w.heap.size w (w2.setCell ⟨w.heap.size+1,0,none⟩ (.slice xv (putV zs M).length cv)):=((B1.out.trans (Below.drew (Below.refl _ _))).trans (hb2.mono (by simp;omega))).setCell (by simp) _;have HR:=hd_ hr;have H3:=hd_ ho3;have HB3:=hd_ hb3;clear hr ho3 hb3;go_wp2;have hr:=HR.out
  exact bodyPost_ret (v:=.tuple #[.agg #[.slice xv (putV zs M).length cv],.bool true]) (by simp[results,Tryz.results311,go_sem,hr]) rfl ⟨_,rfl,H3.out,HB3.out⟩
theorem spFewAdd_at (w:World) (u:Value) (zs:List Int) (t:Int) (h:Ints w u zs):
  Calls Tryz.prog 311 #[.agg #[u],.int .i64 t] w fun e w'=>∃v,e=.returned (.tuple #[.agg #[v],.bool (addOkF zs t)])/\OwnI w' w.heap.size v (addF zs t)/\Below w.heap.size w w':=by
 cases hok:addOkF zs t with
 |false=>
  rw[addF_no hok];exact (spFewAdd_no w u zs t h hok).mono fun e w' ⟨he,hb⟩=>⟨_,he,OwnI.nil _ _,hb⟩
 |true=>
  rw[addF_yes hok];have h':fewB zs=true/\inThings t=true:=by unfold addOkF at hok;simpa using hok
  have ht:=(inThings_iff t).1 h'.2;exact spFewAdd_yes w u zs t h h'.1 ht.1 ht.2
end Go.Proofs.YtcblbdpdbggkbaaGreat
namespace Go.Proofs.YtcblbdpdbggkbaaGreat
open Go.RowKit Go.Shelf
attribute [local go_sem] Oper.semAt_some
attribute [local go_sem] Oper.semAt_some
end Go.Proofs.YtcblbdpdbggkbaaGreat
namespace Go.Proofs.YtcblbdpdbggkbaaGreat
open Go.RowKit
abbrev Asc (zs:List Int):Prop:=zs.Pairwise (· <·)
theorem asc_ext:∀{X Y:List Int},Asc X->Asc Y->(∀z,z ∈ X↔z ∈ Y)->X=Y
 | [],[],_,_,_=>rfl
 | [],y::Y,_,_,h=>by have:=(h y).2 (by simp);simp at this
 |x::X,[],_,_,h=>by have:=(h x).1 (by simp);simp at this
 |x::X,y::Y,hx,hy,h=>by
  obtain⟨x1,x2⟩:=List.pairwise_cons.1 hx;obtain⟨y1,y2⟩:=List.pairwise_cons.1 hy;have e:x=y:=by
   have h1:=(h x).1 (by simp);have h2:=(h y).2 (by simp);simp only[List.mem_cons]at h1 h2;rcases h1 with h1|h1
   ·exact h1
   ·rcases h2 with h2|h2
    ·exact h2.symm
    ·have:=y1 x h1;have:=x1 y h2;omega
  subst e
  congr 1
  refine asc_ext x2 y2 fun z=>?_
  have hz:=h z;simp only[List.mem_cons]at hz
  constructor
  ·intro q
   have:=x1 z q;rcases hz.1 (.inr q)with e|e
   ·omega
   ·exact e
  ·intro q
   have:=y1 z q;rcases hz.2 (.inr q)with e|e
   ·omega
   ·exact e
def ins (m:Int):List Int->List Int
 | []=>[m]
 |x::xs=>if m<x then m::x::xs else if m=x then x::xs else x::ins m xs
theorem ins_mem (m:Int):∀(zs:List Int) (z:Int),z ∈ ins m zs↔z=m\/z ∈ zs
 | [],z=>by simp[ins]
 |x::xs,z=>by
  unfold ins
  by_cases h1:m<x
  ·rw[if_pos h1];simp
  ·rw[if_neg h1]
   by_cases h2:m=x
   ·rw[if_pos h2];subst h2;simp
   ·rw[if_neg h2]
    simp only[List.mem_cons,ins_mem m xs z]
    constructor
    ·rintro (h|h|h)
     ·exact .inr (.inl h)
     ·exact .inl h
     ·exact .inr (.inr h)
    ·rintro (h|h|h)
     ·exact .inr (.inl h)
     ·exact .inl h
     ·exact .inr (.inr h)
theorem ins_asc (m:Int):∀{zs:List Int},Asc zs->Asc (ins m zs)
 | [],_=>by simp[ins]
 |x::xs,h=>by
  obtain⟨h1,h2⟩:=List.pairwise_cons.1 h;unfold ins
  by_cases q1:m<x
  ·rw[if_pos q1]
   refine List.pairwise_cons.2 ⟨fun z hz=>?_,h⟩;simp only[List.mem_cons]at hz;rcases hz with rfl|hz
   ·exact q1
   ·have:=h1 z hz;omega
  ·rw[if_neg q1]
   by_cases q2:m=x
   ·rw[if_pos q2];exact h
   ·rw[if_neg q2]
    refine List.pairwise_cons.2 ⟨fun z hz=>?_,ins_asc m h2⟩;rcases (ins_mem m xs z).1 hz with rfl|hz
    ·omega
    ·exact h1 z hz
theorem ins_take (m:Int):∀(zs:List Int) (k:Nat),(ins m (zs.take k)).take k=(ins m zs).take k
 |_,0=>by simp
 | [],k+1=>by simp
 |x::xs,k+1=>by
  rw[List.take_succ_cons];unfold ins
  by_cases q1:m<x
  ·rw[if_pos q1,if_pos q1,List.take_succ_cons,List.take_succ_cons]
   congr 1
   cases k with
   |zero=>simp
   |succ k=>rw[List.take_succ_cons,List.take_succ_cons,List.take_take];congr 2;omega
  ·rw[if_neg q1,if_neg q1]
   by_cases q2:m=x
   ·rw[if_pos q2,if_pos q2,List.take_succ_cons,List.take_succ_cons,List.take_take];congr 2;omega
   ·rw[if_neg q2,if_neg q2,List.take_succ_cons,List.take_succ_cons,ins_take m xs k]
theorem putL_true (m:Int):∀{zs:List Int},(∀z ∈ zs,m<z)->putL m zs true=zs
 | [],_=>rfl
 |x::xs,h=>by
  have h1:=h x (by simp);rw[put4 _ (.inl rfl) (by omega),putL_true m (fun z hz=>h z (by simp[hz]))]
  rfl
theorem putL_ins (m:Int):∀{zs:List Int},Asc zs->putL m zs false=ins m zs
 | [],_=>rfl
 |x::xs,h=>by
  obtain⟨h1,h2⟩:=List.pairwise_cons.1 h;unfold ins
  by_cases q1:m<x
  ·rw[if_pos q1,put2 _ (by omega) (by omega),putL_true m (fun z hz=>by have:=h1 z hz;omega)];rfl
  ·rw[if_neg q1]
   by_cases q2:m=x
   ·subst q2
    rw[if_pos rfl,put1,putL_true m h1];rfl
   ·rw[if_neg q2,put4 _ (.inr (by omega)) (by omega),putL_ins m h2];rfl
def unionL (zs ys:List Int):List Int:=ys.foldl (fun acc m=>ins m acc) zs
theorem union_mem:∀(ys zs:List Int) (z:Int),z ∈ unionL zs ys↔z ∈ zs\/z ∈ ys
 | [],zs,z=>by simp[unionL]
 |y::ys,zs,z=>by
  show z ∈ unionL (ins y zs) ys↔_
  rw[union_mem ys,ins_mem];simp only[List.mem_cons]
  constructor
  ·rintro ((h|h)|h)
   ·exact .inr (.inl h)
   ·exact .inl h
   ·exact .inr (.inr h)
  ·rintro (h|h|h)
   ·exact .inl (.inr h)
   ·exact .inl (.inl h)
   ·exact .inr h
theorem union_asc:∀(ys:List Int) {zs:List Int},Asc zs->Asc (unionL zs ys)
 | [],_,h=>h
 |y::ys,_,h=>union_asc ys (ins_asc y h)
theorem union_take (k:Nat):∀(ys zs:List Int),(unionL (zs.take k) ys).take k=(unionL zs ys).take k
 | [],zs=>by show (zs.take k).take k=zs.take k;rw[List.take_take];congr 1;omega
 |y::ys,zs=>by
  show (unionL (ins y (zs.take k)) ys).take k=(unionL (ins y zs) ys).take k
  rw[<-union_take k ys (ins y (zs.take k)), <-union_take k ys (ins y zs),ins_take]
def joinV6 (zs ys:List Int):List Int:=(unionL zs ys).take 6
theorem union_comm {zs ys:List Int} (hz:Asc zs) (hy:Asc ys):unionL zs ys=unionL ys zs:=
 asc_ext (union_asc _ hz) (union_asc _ hy) fun z=>by rw[union_mem,union_mem];exact Or.comm
theorem join6_comm {zs ys:List Int} (hz:Asc zs) (hy:Asc ys):joinV6 zs ys=joinV6 ys zs:=by unfold joinV6;rw[union_comm hz hy]
theorem join6_asc {zs ys:List Int} (hz:Asc zs):Asc (joinV6 zs ys):=(union_asc ys hz).take
theorem union_assoc {zs ys xs:List Int} (hz:Asc zs) (hy:Asc ys):unionL (unionL zs ys) xs=unionL zs (unionL ys xs):=
 asc_ext (union_asc _ (union_asc _ hz)) (union_asc _ hz) fun z=>by rw[union_mem,union_mem,union_mem,union_mem];exact or_assoc
theorem join6_assoc {zs ys xs:List Int} (hz:Asc zs) (hy:Asc ys) (hx:Asc xs):joinV6 (joinV6 zs ys) xs=joinV6 zs (joinV6 ys xs):=by
 have e1:joinV6 (joinV6 zs ys) xs=(unionL (unionL zs ys) xs).take 6:=union_take 6 xs (unionL zs ys);have e2:joinV6 zs (joinV6 ys xs)=(unionL (unionL ys xs) zs).take 6:=by
  rw[join6_comm hz (join6_asc hy)];exact union_take 6 zs (unionL ys xs)
 rw[e1,e2,union_assoc hz hy,union_comm hz (union_asc _ hy)]
theorem join6_over {zs ys:List Int} (hz:Asc zs) (hy:Asc ys):joinV6 (joinV6 zs ys) ys=joinV6 zs ys:=by
 rw[join6_assoc hz hy hy];unfold joinV6;have e:unionL ys ys=ys:=asc_ext (union_asc _ hy) hy fun z=>by rw[union_mem];exact or_self_iff
 rw[e];rw[union_comm hz (List.Pairwise.take hy),union_take,union_comm hz hy]
theorem few_lt' {zs:List Int} (h:fewB zs=true):∀j i,i<j->j<zs.length->zs.getD i 0<zs.getD j 0:=by
 have hp:=(fewB_parts h).2.2;intro j
 induction j with
 |zero=>intro i hi;omega
 |succ j ih=>
  intro i hi hj;have h1:=hp j hj
  by_cases e:i=j
  ·subst e;exact h1
  ·have:=ih i (by omega) (by omega);omega
theorem few_asc {zs:List Int} (h:fewB zs=true):Asc zs:=by
 rw[Asc,List.pairwise_iff_getElem];intro i j hi hj hij;have:=few_lt' h j i hij hj;simpa[hi,hj]using this
theorem few_bd {zs:List Int} (h:fewB zs=true):∀z ∈ zs,0<=z/\z<64:=fun z hz=>by
 obtain⟨i,hi,rfl⟩:=mem_get.1 hz;have:=(fewB_parts h).2.1 i hi;omega
theorem few_of {zs:List Int} (ha:Asc zs) (hb:∀z ∈ zs,0<=z/\z<64) (hl:zs.length<=6):fewB zs=true:=by
 refine fewB_good hl fun i hi=>⟨?_,fun h0=>?_⟩
 ·have:=hb _ (getD_mem zs i 0 hi);omega
 ·have:=(List.pairwise_iff_getElem.1 ha) (i - 1) i (by omega) hi (by omega)
  simpa[hi,show i - 1<zs.length by omega]using this
theorem join6_few {zs ys:List Int} (hz:fewB zs=true) (hy:fewB ys=true):fewB (joinV6 zs ys)=true:=by
 refine few_of (join6_asc (few_asc hz)) (fun z h=>?_) (by simp[joinV6];omega);rcases (union_mem ys zs z).1 (List.mem_of_mem_take h)with h|h
 ·exact few_bd hz z h
 ·exact few_bd hy z h
theorem put_join {zs:List Int} (hz:Asc zs) (m:Int):putV zs m=joinV6 zs [m]:=by
 unfold putV joinV6;rw[putL_ins m hz];rfl
end Go.Proofs.YtcblbdpdbggkbaaGreat
namespace Go.Proofs.YtcblbdpdbggkbaaGreat
open Go.RowKit Go.Sort
def joinOkF (zs ys:List Int):Bool:=fewB zs&&fewB ys
def joinF (zs ys:List Int):List Int:=if joinOkF zs ys=true then joinV6 zs ys else []
theorem joinF_yes {zs ys:List Int} (h:joinOkF zs ys=true):joinF zs ys=joinV6 zs ys:=if_pos h
theorem joinF_no {zs ys:List Int} (h:joinOkF zs ys=false):joinF zs ys=[]:=if_neg (by rw[h];simp)
theorem joinF_few (zs ys:List Int):fewB (joinF zs ys)=true:=by
 cases h:joinOkF zs ys with
 |true=>
  rw[joinF_yes h];unfold joinOkF at h;simp only[Bool.and_eq_true]at h;exact join6_few h.1 h.2
 |false=>rw[joinF_no h];decide
theorem few_one (t:Int):fewB [markV t]=inThings t:=by
 cases h:inThings t with
 |true=>
  have ht:=(inThings_iff t).1 h;have:=markV_in ht.1 ht.2;exact few_of (by simp) (fun z hz=>by simp at hz;subst hz;exact this) (by simp)
 |false=>
  have ht:=(inThings_no t).1 h;rw[markV_no ht]
  decide
theorem join_add (zs:List Int) (t:Int):joinOkF zs [markV t]=addOkF zs t:=by unfold joinOkF addOkF;rw[few_one]
theorem joinF_add (zs:List Int) (t:Int):joinF zs [markV t]=addF zs t:=by
 cases h:addOkF zs t with
 |true=>
  rw[addF_yes h,joinF_yes (by rw[join_add];exact h)];unfold addOkF at h;simp only[Bool.and_eq_true]at h;exact (put_join (few_asc h.1) _).symm
 |false=>rw[addF_no h,joinF_no (by rw[join_add];exact h)]
end Go.Proofs.YtcblbdpdbggkbaaGreat

namespace Go.Proofs.YtcblbdpdbggkbaaGreat
open Go.RowKit Go.Sort
theorem ins_len (m:Int) (zs:List Int):zs.length<=(ins m zs).length/\(ins m zs).length<=zs.length+1:=by
 induction zs with
 |nil=>simp[ins]
 |cons x xs ih=>
  unfold ins
  split
  ·simp
  ·split
   ·simp
   ·simp only[List.length_cons];omega
theorem add_again {zs:List Int} {t:Int} (h:addOkF zs t=true):
  fewB (addF zs t)=true/\addOkF (addF zs t) t=true/\addF (addF zs t) t=addF zs t/\zs.length<=(addF zs t).length/\(addF zs t).length<=zs.length+1:=by
 have h':=h;unfold addOkF at h';simp only[Bool.and_eq_true]at h';have az:=few_asc h'.1;have f1:fewB (addF zs t)=true:=by rw[<-joinF_add];exact joinF_few _ _
 have ok1:addOkF (addF zs t) t=true:=by unfold addOkF;rw[f1,h'.2];rfl
 have e0:addF zs t=joinV6 zs [markV t]:=by rw[addF_yes h,put_join az]
 have e1:addF (addF zs t) t=addF zs t:=by
  rw[addF_yes ok1,put_join (few_asc f1),e0];exact join6_over az (by simp)
 have l6:=(fewB_parts h'.1).1;have hl:=ins_len (markV t) zs;have el:addF zs t=(ins (markV t) zs).take 6:=by rw[e0];rfl
 refine⟨f1,ok1,e1,?_,?_⟩<;>(rw[el,List.length_take];omega)
end Go.Proofs.YtcblbdpdbggkbaaGreat

namespace Go.Proofs.YtcblbdpdbggkbaaGreat
open Go.RowKit Go.Sort
theorem OwnI.keep {w w':World} {B:Nat} {v:Value} {zs:List Int} {row:Option Nat} (h:OwnI w B v zs) (hg:w.grownBy w' row) (hr:v.ownBlock≠row):OwnI w' B v zs:=World.ownsRow.kept h hg (.inr hr)
theorem OwnI.below {w w':World} {B:Nat} {v:Value} {zs:List Int} (h:OwnI w B v zs) (hb:Below w.heap.size w w'):OwnI w' B v zs:=h.kept (row:=Option.none) (grownBy_below hb) (fun _ e=>by cases e)
def OwnRR (W:World) (B T:Nat) (v:Value) (rs:List (List Int)):Prop:=∃G C,OwnR W B v rs G C/\(∀k,v.ownBlock=some k->k<T)/\(∀i,i<rs.length->G i<T)/\T<=W.heap.size
theorem OwnR.bounds {W:World} {B:Nat} {v:Value} {rs:List (List Int)} {G C:Nat->Nat} (h:OwnR W B v rs G C):OwnRR W B W.heap.size v rs:=
 ⟨G,C,h,fun k e=>(World.ownsRow.lt h.hdr k e).2,fun i hi=>((h.row i hi).lt (G i) rfl).2,Nat.le_refl _⟩
theorem OwnRR.top {W:World} {B T:Nat} {v:Value} {rs:List (List Int)} (h:OwnRR W B T v rs):T<=W.heap.size:=by obtain⟨_,_,_,_,_,h⟩:=h;exact h
theorem OwnRR.rd {W:World} {B T:Nat} {v:Value} {rs:List (List Int)} (h:OwnRR W B T v rs):Rws W v rs:=by obtain⟨G,C,h,_⟩:=h;exact h.rws
theorem OwnRR.below {W W':World} {B T:Nat} {v:Value} {rs:List (List Int)} (h:OwnRR W B T v rs) (hb:Below W.heap.size W W'):OwnRR W' B T v rs:=by
 obtain⟨G,C,h,h1,h2,h3⟩:=h;exact⟨G,C,h.below hb lr_,h1,h2,Nat.le_trans h3 hb.size⟩
theorem OwnRR.nil (W:World) (B T:Nat) (hT:T<=W.heap.size):OwnRR W B T zn []:=
 ⟨fun _=>0,fun _=>0,⟨World.ownsRow_nil W B _ 1,fun i hi=>absurd hi (Nat.not_lt_zero i),fun i hi=>absurd hi (Nat.not_lt_zero i),fun i j hi=>absurd hi (Nat.not_lt_zero i)⟩,(fun k e=>by cases e),(fun i hi=>absurd hi (Nat.not_lt_zero i)),hT⟩
theorem EndR.own {w w':World} {ok:Bool} {rs:List (List Int)} {e:Ending} (h3:ok=true->rs.length=3) (h:EndR w ok rs e w'):
  ∃x c,e=.returned (.tuple #[.agg #[.slice x (resV ok rs).length c],.bool ok])/\OwnRR w' w.heap.size w'.heap.size (.slice x (resV ok rs).length c) (resV ok rs)/\Below w.heap.size w w':=by
 obtain⟨x,m,c,he,hb,h0,h1⟩:=h;cases ok with
 |false=>obtain⟨rfl,rfl,rfl⟩:=h0 rfl;exact⟨none,0,he,OwnRR.nil _ _ _ lr_,hb⟩
 |true=>
  obtain⟨rfl,G,C,ho⟩:=h1 rfl;have e3:(resV true rs).length=3:=h3 rfl;rw[e3];exact⟨x,c,he,ho.bounds,hb⟩
theorem ownsRow_keptB {w w':World} {B:Nat} {e:TypeId} {size:Nat} {v:Value} {n:Nat} {xs:List Value} {S:Nat->Prop} (h:w.ownsRow B e size v n xs) (hk:KeptB S w w') (hS:∀k,v.ownBlock=some k->¬S k):w'.ownsRow B e size v n xs:=by
 obtain⟨h1,h2⟩:=h;refine⟨h1,?_⟩;rcases h2 with h2|⟨g,cap,cur,hv,hg,hh,r⟩
 ·exact .inl h2
 ·refine .inr ⟨g,cap,cur,hv,hg,?_,r⟩
  rw[hk.block g (Array.getElem?_eq_some_iff.1 hh).1 (hS g (by rw[hv];rfl))];exact hh
def addA (rs:List (List Int)) (t n:Int):List (List Int):=resV (addB rs t n) (addV rs t n)
theorem spAddRR (W:World) (u:Value) (rs:List (List Int)) (t n:Int) (h:Rws W u rs):Calls Tryz.prog 310 #[.agg #[u],iv t,iv n] W fun e w'=>∃x c,e=.returned (.tuple #[.agg #[.slice x (addA rs t n).length c],.bool (addB rs t n)])/\OwnRR w' W.heap.size w'.heap.size (.slice x (addA rs t n).length c) (addA rs t n)/\Below W.heap.size W w':=
 (spAdd_end W u rs t n h).mono fun _ _ he=>he.own (fun _=>rfl)
end Go.Proofs.YtcblbdpdbggkbaaGreat
namespace Go.Proofs.YtcblbdpdbggkbaaGreat
open Go.RowKit
theorem spSame_short (x y:Option Addr) (n m c d:Nat) (w:World) (h:n≠m\/(n=0/\m=0)):
  Calls Tryz.prog 296 #[.slice x n c,.slice y m d] w fun e w'=>e=.returned (.bool (decide (n=m)))/\w=w':=by
 rcases h with h|⟨rfl,rfl⟩
 ·have hn:((n:Int) != (m:Int))=true:=by simp;omega
  go_enter Tryz.func296,Tryz.ntmps296;go_wp2;go_ret;exact⟨by simpa using h,rfl⟩
 ·go_enter Tryz.func296,Tryz.ntmps296
  go_wp2;refine wp_loop_rounds 1 ?_;rw[rounds_succ];go_wp2;go_ret;exact⟨by simp,rfl⟩
theorem spSame_long (b o c b' o' c' n:Nat) (za zb:List Int) (w:World) (hn:n<=maxLen) (ha:za.length=n) (hb:zb.length=n)
  (hca:∀i,i<n->w.cell? ⟨b,o+i,none⟩=some (.int .i64 (za.getD i 0))) (hcb:∀i,i<n->w.cell? ⟨b',o'+i,none⟩=some (.int .i64 (zb.getD i 0))):
  Calls Tryz.prog 296 #[.slice (some ⟨b,o,none⟩) n c,.slice (some ⟨b',o',none⟩) n c'] w fun e w'=>e=.returned (.bool (decide (za=zb)))/\∃m,w'=w.drewN m:=by
 unfold maxLen at hn;have Ha:=hd_ ha;have Hb:=hd_ hb;have Hca:=hd_ hca;have Hcb:=hd_ hcb;clear ha hb hca hcb;go_enter Tryz.func296,Tryz.ntmps296;go_wp2;go_loopw [5] (fun i wr=>∃k:Nat,k<=n/\i=.int .i64 k/\(∀j,j<k->za.getD j 0=zb.getD j 0)/\∃m,wr=w.drewN m) (fun i _=>n - (intOf i).toNat)
 case atStart=>exact⟨0,Nat.zero_le _,rfl,fun _ h=>absurd h (Nat.not_lt_zero _),0,rfl⟩
 case round=>
  obtain⟨k,hk,rfl,heq,m,rfl⟩:=hrel;have HE:=hd_ heq;clear heq
  by_cases hlt:k<n
  ·have h1:=Hca.out k hlt
   have h2:=Hcb.out k hlt;obtain⟨x,hx⟩:∃x,za.getD k 0=x:=⟨_,rfl⟩
   obtain⟨y,hy⟩:∃y,zb.getD k 0=y:=⟨_,rfl⟩
   rw[hx]at h1;rw[hy]at h2;have HX:=hd_ hx;have HY:=hd_ hy;clear hx hy;have k0:(0:Int)<=(k:Int):=o_;have k1:(k:Int)<(n:Int):=o_
   by_cases he:x=y
   ·subst he
    go_wp2
    go_quiet (fail)
    go_wp2;go_roundw
    case rel=>exact⟨k+1,o_,by go_num,fun j hj=>by
          by_cases h:j<k
          · exact HE.out j h
          · obtain rfl:j=k:=o_
            rw[HX.out,HY.out],_,rfl⟩
    case measure=>simp[intOf];omega
   ·have he':(x != y)=true:=by simpa using he
    go_wp2
    go_quiet (fail)
    go_wp2;go_ret;exact⟨ret_bool (ne_of_get (i:=k) (d:=0) (by rw[HX.out,HY.out];exact he)).symm,_,World.drewN_drewN _ _ _⟩
  ·have fin:Hid (decide (za=zb)=true):=eq_of_get (d:=0) Ha.out Hb.out (fun i hi=>HE.out i o_)
   go_wp2;go_ret;exact⟨ret_bool fin.out.symm,_,rfl⟩
theorem spSame_at (w:World) (u v:Value) (za zb:List Int) (ha:Ints w u za) (hb:Ints w v zb) (hl:za.length<=maxLen):
  Calls Tryz.prog 296 #[u,v] w fun e w'=>e=.returned (.bool (decide (za=zb)))/\∃m,w'=w.drewN m:=by
 obtain⟨⟨x,c,hx⟩,qa⟩:=ha.cases;obtain⟨⟨y,d,hy⟩,qb⟩:=hb.cases
 by_cases h:za.length≠zb.length\/(za.length=0/\zb.length=0)
 ·rw[hx,hy]
  refine (spSame_short x y _ _ c d w h).mono fun e w' ⟨he,hw⟩=>⟨?_,0,hw.symm⟩
  rw[he];refine ret_bool ?_;rcases h with h|⟨h1,h2⟩
  ·rw[ne_of_len h];simpa using h
  ·rw[List.eq_nil_of_length_eq_zero h1,List.eq_nil_of_length_eq_zero h2];simp
 ·have e:za.length=zb.length:=o_
  rcases qa with qa|⟨b,o,c,rfl,hca⟩
  ·omega
  rcases qb with qb|⟨b',o',c',rfl,hcb⟩
  ·omega
  rw[<-e]at hcb ⊢;exact spSame_long b o c b' o' c' _ za zb w hl rfl e.symm hca hcb
end Go.Proofs.YtcblbdpdbggkbaaGreat
namespace Go.Proofs.YtcblbdpdbggkbaaGreat
open Go.RowKit Go.Sort
theorem ahead_le (A:List (List Int)) (h:∀i,i<A.length->(A.getD i []).length<=8):∀n,n<=A.length->ahead A n<=8 * n
 | 0,_=>Nat.le_refl _
 |n+1,hn=>by have h1:=ahead_le A h n o_;have h2:=h n o_;show ahead A n+(A.getD n []).length<=_;omega
structure Lens (A:List (List Int)):Prop where
 len:A.length<=1048576
 row:∀i,i<A.length->(A.getD i []).length<=1048576
 all:ahead A A.length<=100000000
 lenM:A.length<=maxLen
 rowM:∀i,i<A.length->(A.getD i []).length<=maxLen
theorem Lens.small {A:List (List Int)} (h:A.length<=3/\(∀i,i<A.length->A.getD i []=A.getD i []/\(A.getD i []).length<=8)):Lens A:=
 ⟨by omega,fun i hi=>by have:=(h.2 i hi).2;omega,by have:=ahead_le A (fun i hi=>(h.2 i hi).2) A.length lr_;omega,by unfold maxLen;omega,fun i hi=>by have:=(h.2 i hi).2;unfold maxLen;omega⟩
end Go.Proofs.YtcblbdpdbggkbaaGreat

