/-
  What the laws of Kn need of the texts before it, part 3.
-/
import Derived.BigQuiet
import Derived.Deep.AppendLies
import Derived.Deep.DrawnRows
import Derived.Deep.QuietTactic
import Derived.Deep.RegionHeld3
import Derived.Deep.RegionLaw
import Derived.Deep.RegionWith
import Derived.IntWalk
import Derived.Lib.Hide
import Derived.Lib.QuietBelow
import Derived.Maps.AppendAt
import Derived.OneCell
import Derived.StillTail
import Derived.Test.YtcblbdpdbggkbaaGreatRows
import Derived.WalkKit
import Derived.WalkLawsBesides
import Derived.WalkSpells
import Derived.Test.YtcblbdpdbggkbaaGreatSKn2
set_option maxRecDepth 100000
set_option maxHeartbeats 16000000
set_option linter.unusedVariables false
set_option linter.unusedSectionVars false
set_option linter.unusedSimpArgs false
namespace Go.Proofs.YtcblbdpdbggkbaaGreat
theorem zw {P:Prop} (h:P:=by
 obtain⟨k,hk,rfl,heq,m,rfl⟩:=hrel;have HE:=hd_ heq;clear heq
 by_cases hlt:k<n
 ·have h1:=Hca.out k hlt
  have h2:=Hcb.out k hlt;obtain⟨x,hx⟩:∃x,za.getD k 0=x:=⟨_,rfl⟩
  obtain⟨y,hy⟩:∃y,zb.getD k 0=y:=⟨_,rfl⟩
  rw[hx]at h1;rw[hy]at h2;have HX:=hd_ hx;have HY:=hd_ hy;clear hx hy;have k0:(0:Int)<=(k:Int):=o_;have k1:(k:Int)<(n:Int):=o_
  by_cases he:x=y
  ·subst he
   go_wp2
   go_quiet (fail)
   go_wp2;go_roundw
   case rel=>exact⟨k+1,o_,gn_,fun j hj=>by
         by_cases h:j<k
         · exact HE.out j h
         · obtain rfl:j=k:=o_
           rw[HX.out,HY.out],_,rfl⟩
   case measure=>simp[intOf];omega
  ·have he':(x != y)=true:=by simpa using he
   go_wp2
   go_quiet (fail)
   go_wp2;go_ret;exact⟨aK (xQ (i:=k) (d:=0) (by rw[HX.out,HY.out];exact he)).symm,_,World.drewN_drewN _ _ _⟩
 ·have fin:Hid (decide (za=zb)=true):=iH (d:=0) Ha.out Hb.out (fun i hi=>HE.out i o_)
  go_wp2;go_ret;exact⟨aK fin.out.symm,_,rfl⟩):P:=h
theorem zAt {P:Prop} (h:P:=by
 have hr:=World.cell?_setCell_same w1 ⟨w.heap.size+1,0,none⟩ zn cb;exact bodyPost_ret (v:=.tuple #[.agg #[zn],.bool false]) (by simp[results,results310,go_sem,hr]) rfl ⟨rfl,L.out.setCell (by simp) _⟩):P:=h
theorem zAC {P:Prop} (h:P:=by
 go_wp2;go_ret;exact⟨rfl,(Below.refl _ _).alloc lr_ _⟩):P:=h
theorem zAK {P:Prop} (h:P:=by
 rw[he];refine aK ?_;rcases h with h|⟨h1,h2⟩
 ·rw[yS h];simpa using h
 ·rw[List.eq_nil_of_length_eq_zero h1,List.eq_nil_of_length_eq_zero h2];simp):P:=h
theorem zAW {P:Prop} (h:P:=by
 have hr:=World.cell?_setCell_same w1 ⟨w.heap.size+1,0,none⟩ zn cr1;exact bodyPost_ret (v:=.tuple #[.agg #[zn],.bool false]) (by simp[results,results311,go_sem,hr]) rfl ⟨rfl,(HA.out.trans (hb1.mono HA.out.size)).setCell (by simp) _⟩):P:=h
theorem zBa {P:Prop} (h:P:=by
 refine World.ownsRow.kept h hg ?_;cases hv:v.ownBlock with
 |none=>exact .inl rfl
 |some k=>exact .inr (fun e=>by have:=(World.ownsRow.lt h k hv).1;have:=hr k e.symm;omega)):P:=h
theorem zBf {P:Prop} (h:P:=by
 go_enter func178,ntmps178
 go_wp2_with (go_at_call 84;refine K.out.mono ?_;rintro e w1 ⟨rfl,hb1⟩)
 go_ret;exact⟨rfl,HA.out.trans (hb1.mono HA.out.size)⟩):P:=h
theorem zBo {P:Prop} (h:P:=by
 constructor
 ·intro h
  obtain⟨i,hi,rfl⟩:=List.getElem_of_mem h;exact⟨i,hi,by simp[hi]⟩
 ·rintro⟨i,hi,rfl⟩
  exact kQ zs i 0 hi):P:=h
theorem zBp {P:Prop} (h:P:=by
 rw[fin.out];exact sU b0 o0 c0 8 z0 w1 G8.out o_ GR.out (fun i hi=>by rw[hL.cell (p:=⟨b0,o0+i,none⟩) l0];exact R0.out i hi)):P:=h
theorem zBK {P:Prop} (h:P:=by
 rcases (by omega:i=0\/i=1\/i=2)with rfl|rfl|rfl<;>rfl):P:=h
end Go.Proofs.YtcblbdpdbggkbaaGreat
namespace Go.Proofs.YtcblbdpdbggkbaaGreat
open _root_.Go.Proofs.Tryz
open Go.RowKit
theorem dE.cases {w:World} {v:Value} {zs:List Int} (h:dE w v zs):
  (∃x c,v=.slice x zs.length c)/\(zs.length=0\/∃b o c,v=.slice (some ⟨b,o,none⟩) zs.length c/\∀i,i<zs.length->w.cell? ⟨b,o+i,none⟩=some (.int .i64 (zs.getD i 0))):=by
 rcases h with ⟨rfl,rfl⟩|⟨b,o,c,rfl,_,_,_,hc⟩
 ·exact⟨⟨_,_,rfl⟩,.inl rfl⟩
 ·exact⟨⟨_,_,rfl⟩,.inr ⟨b,o,c,rfl,hc⟩⟩
theorem Rws.cases {w:World} {v:Value} {rs:List (List Int)} (h:Rws w v rs):
  (∃x c,v=.slice x rs.length c)/\(rs.length=0\/∃b o c,v=.slice (some ⟨b,o,none⟩) rs.length c/\∀i,i<rs.length->∃x,w.cell? ⟨b,o+i,none⟩=some x/\dE w x (rs.getD i [])):=by
 rcases h with ⟨rfl,rfl⟩|⟨b,o,c,rfl,_,_,_,hc⟩
 ·exact⟨⟨_,_,rfl⟩,.inl rfl⟩
 ·exact⟨⟨_,_,rfl⟩,.inr ⟨b,o,c,rfl,hc⟩⟩
theorem yS {α:Type} [DecidableEq α] {a b:List α} (h:a.length≠b.length):decide (a=b)=false:=by
 simp only[decide_eq_false_iff_not];exact fun e=>h (by rw[e])
theorem xQ {α:Type} [DecidableEq α] {a b:List α} {i:Nat} {d:α} (h:a.getD i d≠b.getD i d):decide (a=b)=false:=by
 simp only[decide_eq_false_iff_not];exact fun e=>h (by rw[e])
theorem iH {α:Type} [DecidableEq α] {a b:List α} {n:Nat} {d:α} (ha:a.length=n) (hb:b.length=n) (h:∀i,i<n->a.getD i d=b.getD i d):decide (a=b)=true:=by
 simp only[decide_eq_true_eq];apply List.ext_getElem o_;intro i h1 h2;have:=h i o_;simpa[h1,h2]using this
theorem dE.drewN {w:World} {v:Value} {zs:List Int} (h:dE w v zs) (n:Nat):dE (w.drewN n) v zs:=h
theorem aDj (x y:Option Addr) (n m c d:Nat) (w:World) (h:n≠m\/(n=0/\m=0)):
  Calls prog 28 #[.slice x n c,.slice y m d] w fun e w'=>e=.returned (.bool (decide (n=m)))/\w=w':=by
 rcases h with h|⟨rfl,rfl⟩
 ·have hn:((n:Int) != (m:Int))=true:=by simp;omega
  go_enter func28,ntmps28;go_wp2;go_ret;exact⟨by simpa using h,rfl⟩
 ·go_enter func28,ntmps28
  go_wp2;refine wp_loop_rounds 1 ?_;rw[rounds_succ];go_wp2;go_ret;exact⟨by simp,rfl⟩
theorem aEB (b o c b' o' c' n:Nat) (za zb:List Int) (w:World) (hn:n<=maxLen) (ha:za.length=n) (hb:zb.length=n)
  (hca:∀i,i<n->w.cell? ⟨b,o+i,none⟩=some (.int .i64 (za.getD i 0))) (hcb:∀i,i<n->w.cell? ⟨b',o'+i,none⟩=some (.int .i64 (zb.getD i 0))):
  Calls prog 28 #[.slice (some ⟨b,o,none⟩) n c,.slice (some ⟨b',o',none⟩) n c'] w fun e w'=>e=.returned (.bool (decide (za=zb)))/\∃m,w'=w.drewN m:=by
 unfold maxLen at hn;have Ha:=hd_ ha;have Hb:=hd_ hb;have Hca:=hd_ hca;have Hcb:=hd_ hcb;clear ha hb hca hcb;go_enter func28,ntmps28;go_wp2;go_loopw [5] (fun i wr=>∃k:Nat,k<=n/\i=.int .i64 k/\(∀j,j<k->za.getD j 0=zb.getD j 0)/\∃m,wr=w.drewN m) (fun i _=>n - (intOf i).toNat)
 case atStart=>exact⟨0,Nat.zero_le _,rfl,fun _ h=>absurd h (Nat.not_lt_zero _),0,rfl⟩
 case round=>
  exact zw
theorem aCm (w:World) (u v:Value) (za zb:List Int) (ha:dE w u za) (hb:dE w v zb) (hl:za.length<=maxLen):
  Calls prog 28 #[u,v] w fun e w'=>e=.returned (.bool (decide (za=zb)))/\∃m,w'=w.drewN m:=by
 obtain⟨⟨x,c,hx⟩,qa⟩:=ha.cases;obtain⟨⟨y,d,hy⟩,qb⟩:=hb.cases
 by_cases h:za.length≠zb.length\/(za.length=0/\zb.length=0)
 ·rw[hx,hy]
  refine (aDj x y _ _ c d w h).mono fun e w' ⟨he,hw⟩=>⟨?_,0,hw.symm⟩
  exact zAK
 ·have e:za.length=zb.length:=o_
  rcases qa with qa|⟨b,o,c,rfl,hca⟩
  ·omega
  rcases qb with qb|⟨b',o',c',rfl,hcb⟩
  ·omega
  rw[<-e]at hcb ⊢;exact aEB b o c b' o' c' _ za zb w hl rfl e.symm hca hcb
theorem aBM (x y:Option Addr) (n m c d:Nat) (w:World) (h:n≠m\/(n=0/\m=0)):
  Calls prog 42 #[.agg #[.slice x n c],.agg #[.slice y m d]] w fun e w'=>e=.returned (.bool (decide (n=m)))/\Below w.heap.size w w':=by
 rcases h with h|⟨rfl,rfl⟩
 ·have hn:((n:Int) != (m:Int))=true:=by simp;omega
  go_enter func42,ntmps42;go_wp2;go_ret;exact⟨by simpa using h,((Below.refl _ _).alloc lr_ _).alloc (by simp) _⟩
 ·go_enter func42,ntmps42
  go_wp2;refine wp_loop_rounds 1 ?_;rw[rounds_succ];go_wp2;go_ret;exact⟨by simp,((Below.refl _ _).alloc lr_ _).alloc (by simp) _⟩
theorem aDl (b o c b' o' c' n:Nat) (ra rb:List (List Int)) (w:World) (hn:n<=maxLen) (ha:ra.length=n) (hb:rb.length=n) (hla:∀i,i<n->(ra.getD i []).length<=maxLen) (hlb:b<w.heap.size) (hlb':b'<w.heap.size)
  (hca:∀i,i<n->∃x,w.cell? ⟨b,o+i,none⟩=some x/\dE w x (ra.getD i [])) (hcb:∀i,i<n->∃x,w.cell? ⟨b',o'+i,none⟩=some x/\dE w x (rb.getD i [])):
  Calls prog 42 #[.agg #[.slice (some ⟨b,o,none⟩) n c],.agg #[.slice (some ⟨b',o',none⟩) n c']] w fun e w'=>e=.returned (.bool (decide (ra=rb)))/\Below w.heap.size w w':=by
 unfold maxLen at hn;have Ha:=hd_ ha;have Hb:=hd_ hb;have Hla:=hd_ hla;have Hca:=hd_ hca;have Hcb:=hd_ hcb;clear ha hb hca hcb hla;go_enter func42,ntmps42;go_wp2
 go_loopw [5] (fun i wr=>∃k:Nat,k<=n/\i=.int .i64 k/\(∀j,j<k->ra.getD j []=rb.getD j [])/\Below w.heap.size w wr/\wr.cell? ⟨w.heap.size,0,none⟩=some (.slice (some ⟨b,o,none⟩) n c)/\wr.cell? ⟨w.heap.size+1,0,none⟩=some (.slice (some ⟨b',o',none⟩) n c')) (fun i _=>n - (intOf i).toNat)
 case atStart=>exact⟨0,Nat.zero_le _,rfl,fun _ h=>absurd h (Nat.not_lt_zero _),((Below.refl _ _).alloc lr_ _).alloc (by simp) _,by simp[go_sem],by simp[go_sem]⟩
 case round=>
  obtain⟨k,hk,rfl,heq,hbl,hbx,hby⟩:=hrel;have HE:=hd_ heq;have HB:=hd_ hbl;clear heq hbl
  by_cases hlt:k<n
  ·obtain⟨x,h1,i1⟩:=Hca.out k hlt
   obtain⟨y,h2,i2⟩:=Hcb.out k hlt;rw[<-HB.out.cell (p:=⟨b,o+k,none⟩) hlb]at h1;rw[<-HB.out.cell (p:=⟨b',o'+k,none⟩) hlb']at h2;have I1:=hd_ (i1.below HB.out lr_);have I2:=hd_ (i2.below HB.out lr_);clear i1 i2;have k0:(0:Int)<=(k:Int):=o_;have k1:(k:Int)<(n:Int):=o_
   have KC:Hid (∀q,Calls prog 28 #[x,y] (wr.drewN q) fun e w''=>e=.returned (.bool (decide (ra.getD k []=rb.getD k [])))/\∃m,w''=(wr.drewN q).drewN m):=fun q=>
    aCm (wr.drewN q) x y _ _ (I1.out.drewN q) (I2.out.drewN q) (Hla.out k hlt)
   obtain⟨⟨xa,xc,hx⟩,_⟩:=I1.out.cases;obtain⟨⟨ya,yc,hy⟩,_⟩:=I2.out.cases;obtain⟨ln,hln⟩:=nm_ ((ra.getD k []).length);obtain⟨lm,hlm⟩:=nm_ ((rb.getD k []).length);rw[<-hln]at hx;rw[<-hlm]at hy;subst hx hy;clear hln hlm I1 I2
   by_cases he:ra.getD k []=rb.getD k []
   ·rw[show decide (ra.getD k []=rb.getD k [])=true from by simpa using he]at KC
    have HEQ:=hd_ he;clear he;go_wp2
    go_quiet ((with_reducible refine Calls.quiet_of (KC.out _)))
    go_wp2;go_roundw
    case rel=>exact⟨k+1,o_,gn_,fun j hj=>by
          by_cases h:j<k
          · exact HE.out j h
          · obtain rfl:j=k:=o_
            exact HEQ.out,below_drewN HB.out _,by simpa using hbx,by simpa using hby⟩
    case measure=>simp[intOf];omega
   ·rw[show decide (ra.getD k []=rb.getD k [])=false from by simpa using he]at KC
    have HNE:=hd_ he;clear he;go_wp2
    go_quiet ((with_reducible refine Calls.quiet_of (KC.out _)))
    go_wp2;go_ret;exact⟨aK (xQ (i:=k) (d:=[]) HNE.out).symm,below_drewN HB.out _⟩
  ·have fin:Hid (decide (ra=rb)=true):=iH (d:=[]) Ha.out Hb.out (fun i hi=>HE.out i o_)
   go_wp2;go_ret;exact⟨aK fin.out.symm,HB.out⟩
theorem aFu (w:World) (u v:Value) (ra rb:List (List Int)) (ha:Rws w u ra) (hb:Rws w v rb) (hl:ra.length<=maxLen) (hla:∀i,i<ra.length->(ra.getD i []).length<=maxLen):
  Calls prog 42 #[.agg #[u],.agg #[v]] w fun e w'=>e=.returned (.bool (decide (ra=rb)))/\Below w.heap.size w w':=by
 obtain⟨⟨x,c,hx⟩,qa⟩:=ha.cases;obtain⟨⟨y,d,hy⟩,qb⟩:=hb.cases
 by_cases h:ra.length≠rb.length\/(ra.length=0/\rb.length=0)
 ·rw[hx,hy]
  refine (aBM x y _ _ c d w h).mono fun e w' ⟨he,hw⟩=>⟨?_,hw⟩
  exact zAK
 ·have e:ra.length=rb.length:=o_
  rcases ha with ⟨rfl,rfl⟩|⟨b,o,c,rfl,_,_,hlb,hca⟩
  ·exact absurd (Or.inr ⟨rfl,e.symm⟩) h
  rcases hb with ⟨rfl,rfl⟩|⟨b',o',c',rfl,_,_,hlb',hcb⟩
  ·exact absurd (Or.inr ⟨e,rfl⟩) h
  rw[<-e]at hcb ⊢;exact aDl b o c b' o' c' _ ra rb w hl rfl e.symm hla hlb hlb' hca hcb
def aIC (zs:List Int):Bool:=zs.length==8&&zs.all fun z=>decide (0<=z)&&decide (z<=2000)
def okB (rs:List (List Int)):Bool:=rs.length==3&&rs.all fun zs=>aIC zs&&zs.sum==(rs.getD 0 []).sum&&decide (zs.sum<=2000)
def aDr (rs:List (List Int)) (i:Nat):Prop:=(rs.getD i []).length=8/\(∀k,k<8->0<=(rs.getD i []).getD k 0/\(rs.getD i []).getD k 0<=2000)/\(rs.getD i []).sum=(rs.getD 0 []).sum/\(rs.getD i []).sum<=2000
theorem fM (rs:List (List Int)):okB rs=true↔rs.length=3/\∀i,i<3->aDr rs i:=by
 unfold okB aDr aIC;simp only[Bool.and_eq_true,beq_iff_eq,List.all_eq_true,decide_eq_true_eq]
 constructor
 ·rintro⟨h3,h⟩
  refine⟨h3,fun i hi=>?_⟩;have hm:rs.getD i [] ∈ rs:=kQ _ _ _ o_;obtain⟨⟨⟨h8,ha⟩,hs⟩,hl⟩:=h _ hm;refine⟨h8,fun k hk=>?_,hs,hl⟩;exact ha _ (kQ _ _ _ o_)
 ·rintro⟨h3,h⟩
  refine⟨h3,fun zs hz=>?_⟩;obtain⟨i,hi,rfl⟩:=List.getElem_of_mem hz;have h':=h i o_;simp only[List.getD_eq_getElem?_getD,List.getElem?_eq_getElem hi,Option.getD_some]at h' ⊢;refine⟨⟨⟨h'.1,fun z hz=>?_⟩,h'.2.2.1⟩,h'.2.2.2⟩;obtain⟨k,hk,rfl⟩:=List.getElem_of_mem hz;have h2:=h'.2.1 k o_;simpa[hk]using h2
theorem xP {rs:List (List Int)} (h:rs.length≠3\/∃i,i<3/\¬aDr rs i):okB rs=false:=by
 cases hb:okB rs with
 |false=>rfl
 |true=>
  obtain⟨h3,hg⟩:=(fM rs).1 hb;rcases h with h|⟨i,hi,hn⟩
  ·exact absurd h3 h
  ·exact absurd (hg i hi) hn
theorem aEQ (u:Value) (b o cap:Nat) (n:Nat) (w:World) (h:n≠3) (hu:u=.slice none 0 0/\n=0\/u=.slice (some ⟨b,o,none⟩) n cap):
  Calls prog 219 #[.agg #[u]] w fun e w'=>e=.returned (.bool false)/\Below w.heap.size w w':=by
 rcases hu with ⟨rfl,rfl⟩|rfl
 ·go_enter func219,ntmps219
  exact zAC
 ·have hn:((n:Int)==3)=false:=by simp;omega
  go_enter func219,ntmps219;exact zAC
theorem aFG (b o cap:Nat) (rs:List (List Int)) (w:World) (h3:rs.length=3) (hb:b<w.heap.size)
  (hc:∀i,i<3->∃x,w.cell? ⟨b,o+i,none⟩=some x/\dE w x (rs.getD i [])):
  Calls prog 219 #[.agg #[.slice (some ⟨b,o,none⟩) 3 cap]] w fun e w'=>e=.returned (.bool (okB rs))/\Below w.heap.size w w':=by
 have hok:=hd_ (fM rs);have hno:=hd_ (@xP rs);have Hc:=hd_ hc;have H3:=hd_ h3;clear hc h3;go_enter func219,ntmps219;go_wp2;go_loopw [3] (fun i wr=>∃k:Nat,k<=3/\i=.int .i64 k/\(∀j,j<k->aDr rs j)/\Below w.heap.size w wr/\wr.cell? ⟨w.heap.size,0,none⟩=some (.slice (some ⟨b,o,none⟩) 3 cap)) (fun i _=>3 - (intOf i).toNat)
 case atStart=>exact⟨0,Nat.zero_le _,rfl,fun _ h=>by omega,(Below.refl _ _).alloc lr_ _,by simp⟩
 case round=>
  obtain⟨k,hk,rfl,hgood,hbl,hbox⟩:=hrel;have Hbl:=hd_ hbl;clear hbl
  by_cases hlt:k<3
  ·have hltB:decide ((k:Int)<3)=true:=by simp;omega
   obtain⟨x,hx,hi⟩:=Hc.out k hlt;rw[<-Hbl.out.cell (p:=⟨b,o+k,none⟩) hb]at hx;obtain⟨zs,hzs⟩:=nm_ (rs.getD k []);rw[<-hzs]at hi;have Hzs:=hd_ hzs;have Hgood:=hd_ hgood;clear hzs hgood;have bad:Hid (¬aDr rs k->okB rs=false):=fun h=>hno.out (.inr ⟨k,hlt,h⟩)
   rcases hi with ⟨rfl,hz0⟩|⟨b1,o1,c1,rfl,hl1,hm1,hb1,hc1⟩
   ·have hz0':=hd_ hz0
    clear hz0;go_wp2;go_ret;exact⟨aK (bad.out (fun h=>by have:=h.1;rw[<-Hzs.out,hz0'.out]at this;simp at this)).symm,Hbl.out⟩
   by_cases h8:zs.length=8
   ·rw[h8]at hx hc1
    replace hc1:∀(i:Nat),i<8->wr.cell? ⟨b1,o1+i,none⟩=some (.int .i64 (zs.getD i 0)):=fun i hi=>by rw[Hbl.out.cell (p:=⟨b1,o1+i,none⟩) hb1];exact hc1 i hi
    have H8:=hd_ h8;have Hc1:=hd_ hc1;clear h8 hc1 hl1 hm1;go_wp2
    go_loop [4] (fun j=>∃m:Nat,m<=8/\j=.int .i64 m/\∀i,i<m->0<=zs.getD i 0/\zs.getD i 0<=2000) (fun j=>8 - (intOf j).toNat)
    case atStart=>exact⟨0,Nat.zero_le _,rfl,fun _ h=>by omega⟩
    case round=>
     obtain⟨m,hm,rfl,hin⟩:=hrel;have Hin:=hd_ hin;clear hin
     by_cases hmt:m<8
     ·have hcm:=Hc1.out m hmt
      obtain⟨y,hy⟩:=nm_ (zs.getD m 0);rw[<-hy]at hcm;have Hy:=hd_ hy;clear hy
      by_cases hr:0<=y/\y<=2000
      ·obtain⟨r0,r1⟩:=hr
       go_wp2_with (go_at_call 66;refine (aS _ _ _ _ r0 r1).mono ?_;rintro e w' ⟨rfl,rfl⟩)
       go_round
       case rel=>exact⟨m+1,o_,gn_,fun i hi=>by
                by_cases h:i<m
                · exact Hin.out i h
                · obtain rfl:i=m:=o_
                  rw[<-Hy.out];exact⟨r0,r1⟩⟩
       case measure=>simp[intOf];omega
      ·have hr':y<0\/2000<y:=o_
       clear hr
       go_wp2_with (go_at_call 66;refine (fZ _ _ _ _ hr').mono ?_;rintro e w' ⟨rfl,rfl⟩)
       go_ret;exact⟨aK (bad.out (fun h=>by have h':=h.2.1 m hmt;rw[<-Hzs.out, <-Hy.out]at h';omega)).symm,Hbl.out⟩
     ·have hin8:Hid (∀i,i<8->0<=zs.getD i 0/\zs.getD i 0<=2000):=fun i hi=>Hin.out i o_
      go_wp2;obtain⟨b0,o0,c0,zs0,hx0,Hzs0,H80,Hin0,Hc0⟩:∃b0 o0 c0 zs0,wr.cell? ⟨b,o,none⟩=some (.slice (some ⟨b0,o0,none⟩) 8 c0)/\Hid (zs0=rs.getD 0 [])/\Hid (zs0.length=8)/\Hid (∀i,i<8->0<=zs0.getD i 0/\zs0.getD i 0<=2000)/\
        Hid (∀(i:Nat),i<8->wr.cell? ⟨b0,o0+i,none⟩=some (.int .i64 (zs0.getD i 0))):=by
       rcases Nat.eq_zero_or_pos k with h0|h0
       ·subst h0
        exact⟨b1,o1,c1,zs,hx,Hzs.out,H8.out,hin8.out,Hc1.out⟩
       ·obtain⟨x0,hx0,hi0⟩:=Hc.out 0 o_
        rw[<-Hbl.out.cell (p:=⟨b,o+0,none⟩) hb]at hx0;have g0:=Hgood.out 0 h0;rcases hi0 with ⟨_,hz⟩|⟨b0,o0,c0,rfl,_,_,hb0,hc0⟩
        ·have:=g0.1;rw[hz]at this;simp at this
        ·rw[g0.1]at hx0 hc0
         exact⟨b0,o0,c0,_,hx0,rfl,g0.1,g0.2.1,fun i hi=>by rw[Hbl.out.cell (p:=⟨b0,o0+i,none⟩) hb0];exact hc0 i hi⟩
      obtain⟨S,hS⟩:∃S,zs.sum=S:=⟨_,rfl⟩
      obtain⟨S0,hS0⟩:∃S,zs0.sum=S:=⟨_,rfl⟩
      have HS:=hd_ hS;have HS0:=hd_ hS0;have HSS:Hid (aDr rs k->S=S0/\S<=2000):=fun h=>by have:=h.2.2;rw[<-Hzs0.out, <-Hzs.out,hS,hS0]at this;exact this
      have HSG:Hid (S=S0->S<=2000->aDr rs k):=fun h1 h2=>by
       unfold aDr;rw[<-Hzs0.out, <-Hzs.out,hS,hS0];exact⟨H8.out,hin8.out,h1,h2⟩
      clear hS hS0;have k1:∀W:World,(∀i,i<8->W.cell? ⟨b1,o1+i,none⟩=some (.int .i64 (zs.getD i 0)))->Calls prog 224 #[.slice (some ⟨b1,o1,none⟩) 8 c1] W fun e w'=>e=.returned (iv S)/\W=w':=fun W h=>by
       rw[<-HS.out];exact sU b1 o1 c1 8 zs W H8.out o_ hin8.out h
      have k0:∀W:World,(∀i,i<8->W.cell? ⟨b0,o0+i,none⟩=some (.int .i64 (zs0.getD i 0)))->Calls prog 224 #[.slice (some ⟨b0,o0,none⟩) 8 c0] W fun e w'=>e=.returned (iv S0)/\W=w':=fun W h=>by
       rw[<-HS0.out];exact sU b0 o0 c0 8 zs0 W H80.out o_ Hin0.out h
      have K1:=hd_ k1;have K0:=hd_ k0;clear k0 k1;have ki0:(0:Int)<=(k:Int):=o_;have ki3:(k:Int)<3:=o_
      by_cases he:S=S0
      ·subst he
       by_cases h2:S<=2000
       ·have h2':¬ 2000<S:=o_
        go_quiet (first
                  |((with_reducible refine aI (K1.out _ ?_));exact Hc1.out)
                  |((with_reducible refine aI (K0.out _ ?_));exact Hc0.out))
        go_wp2;go_roundw
        case rel=>exact⟨k+1,o_,gn_,fun j hj=>by
                  by_cases h:j<k
                  · exact Hgood.out j h
                  · obtain rfl:j=k:=o_
                    exact HSG.out rfl h2,below_drewN Hbl.out _,by simpa using hbox⟩
        case measure=>simp[intOf];omega
       ·have h2':2000<S:=o_
        go_quiet (first
                  |((with_reducible refine aI (K1.out _ ?_));exact Hc1.out)
                  |((with_reducible refine aI (K0.out _ ?_));exact Hc0.out))
        go_wp2;go_ret;exact⟨aK (bad.out (fun h=>by have:=(HSS.out h).2;omega)).symm,below_drewN Hbl.out _⟩
      ·have he':(S != S0)=true:=by simpa using he
       have he2:decide (S=S0)=false:=by simpa using he
       go_quiet (first
                |((with_reducible refine aI (K1.out _ ?_));exact Hc1.out)
                |((with_reducible refine aI (K0.out _ ?_));exact Hc0.out))
       go_wp2;go_ret;exact⟨aK (bad.out (fun h=>he (HSS.out h).1)).symm,below_drewN Hbl.out _⟩
   ·have hn8:((zs.length:Int)==8)=false:=by simp;omega
    clear hc1 hl1 hm1;go_wp2;go_ret;exact⟨aK (bad.out (fun h=>by have:=h.1;rw[<-Hzs.out]at this;exact h8 this)).symm,Hbl.out⟩
  ·go_wp2
   go_ret;exact⟨aK ((hok.out).2 ⟨H3.out,fun i hi=>hgood i o_⟩).symm,Hbl.out⟩
theorem xC (u:Value) (rs:List (List Int)) (w:World) (h:Rws w u rs):
  Calls prog 219 #[.agg #[u]] w fun e w'=>e=.returned (.bool (okB rs))/\Below w.heap.size w w':=by
 rcases h with ⟨rfl,rfl⟩|⟨b,o,cap,rfl,_,_,hb,hc⟩
 ·exact aEQ _ 0 0 0 0 w o_ (.inl ⟨rfl,rfl⟩)
 ·by_cases h3:rs.length=3
  ·rw[h3]at hc ⊢
   exact aFG b o cap rs w h3 hb hc
  ·refine (aEQ _ b o cap _ w h3 (.inr rfl)).mono fun e w' ⟨he,hb'⟩=>⟨?_,hb'⟩
   rw[xP (.inl h3)];exact he
def gP:List Int:=[0,0,0,0,0,0,0,0]
theorem aJ9:(prog.info? 3).map (fun i=>(i.zero,i.size,i.bytes))=some (some (.int .i64 0),1,8):=by kernel_rfl
theorem aB6:(prog.info? 23).map (fun i=>(i.zero,i.size,i.bytes))=some (some (.slice none 0 0),1,24):=by kernel_rfl
theorem aJ2:∀w,(Instr.makeSlice 23 (iv 8) (iv 8)).run prog w=.ok (.slice (some ⟨w.heap.size,0,none⟩) 8 8) (w.alloc (.cells (cC gP).toArray 3)):=fun _=>by kernel_rfl
theorem aLA:∀w,(Instr.makeSlice 34 (iv 3) (iv 3)).run prog w=.ok (.slice (some ⟨w.heap.size,0,none⟩) 3 3) (w.alloc (.cells #[zn,zn,zn] 23)):=fun _=>by kernel_rfl
def kH:List (List Int):=[gP,gP,gP]
theorem fK {w:World} {b:Nat} {u:Value} {t:TypeId} (h:w.heap[b]? =some (.cells #[u] t (0,0))):w.cell? ⟨b,0,none⟩=some u/\w.frozen? ⟨b,0,none⟩=false/\b<w.heap.size:=
 ⟨by simp[World.cell?,h],by simp[World.frozen?,h],(Array.getElem?_eq_some_iff.1 h).1⟩
theorem dP.nil (w:World) (B:Nat):dP w B zn [] (fun _=>0) (fun _=>0):=
 ⟨World.ownsRow_nil w B _ 1,fun i h=>absurd h (Nat.not_lt_zero i),fun i h=>absurd h (Nat.not_lt_zero i),fun i _ h=>absurd h (Nat.not_lt_zero i)⟩
theorem dP.hdr_lt {w:World} {B:Nat} {u:Value} {rs:List (List Int)} {G C:Nat->Nat} (h:dP w B u rs G C):∀k,u.ownBlock=some k->B<=k/\k<w.heap.size:=h.hdr.lt
theorem jV {w w':World} {row:Option Nat} {b:Nat} {o:Obj} (h:w.heap[b]? =some o) (hg:w.grownBy w' row) (hr:row≠some b):w'.heap[b]? =some o:=by
 rw[hg.block b (Array.getElem?_eq_some_iff.1 h).1 (fun e=>hr e.symm)];exact h
theorem tE (w:World) (B:Nat) (zs:List Int) (hB:B<=w.heap.size) (hl:zs.length<=maxLen):
  (w.alloc (.cells (cC zs).toArray 3)).ownsRow B 3 1 (.slice (some ⟨w.heap.size,0,none⟩) zs.length zs.length) zs.length (cC zs):=by
 have:=World.ownsRow_lit (base:=B) (e:=3) (size:=1) w (cC zs).toArray zs.length hB hl (by simp[cC]);simpa using this
theorem aMA (w:World) (o o':Obj):((w.alloc o).alloc o').drew.heap[w.heap.size+1]? =some o':=by
 have:=heap_alloc_new (w.alloc o) o';rw[show (w.alloc o).heap.size=w.heap.size+1 by simp]at this;exact this
theorem aKO {w w1:World} {o o':Obj} {b:Nat} {u:Value} {row:Option Nat} (c:w.cell? ⟨b,0,none⟩=some u) (f:w.frozen? ⟨b,0,none⟩=false) (l:b<w.heap.size)
  (hg:((w.alloc o).alloc o').drew.grownBy w1 row) (hr:row≠some b):w1.cell? ⟨b,0,none⟩=some u/\w1.frozen? ⟨b,0,none⟩=false:=by
 have l1:b<(w.alloc o).heap.size:=by simp;omega
 have l2:b<((w.alloc o).alloc o').drew.heap.size:=by simp;omega
 rw[hg.cell_far ⟨b,0,none⟩ l2 (Ne.symm hr),hg.frozen_far ⟨b,0,none⟩ l2 (Ne.symm hr)];simp only[World.cell?_drew,World.frozen?_drew];rw[World.cell?_alloc_past _ _ _ l1,World.cell?_alloc_past _ _ _ l,World.frozen?_alloc_past _ _ _ l1,World.frozen?_alloc_past _ _ _ l];exact⟨c,f⟩
theorem aDh {w w':World} {row:Option Nat} (h:w.grownBy w' row):w.grownBy w'.drew row:=⟨h.os,h.tape,h.output,h.size,h.block⟩
theorem aCp {w wr X w1:World} {S R B W g c gg cap:Nat} {o:Obj} {u:Value} {t:TypeId} {rs:List (List Int)} {G C:Nat->Nat} {zs:List Int}
  (HO:dP wr B u rs G C) (hX:wr.grownBy X none) (hz:X.ownsRow B 3 1 (.slice (some ⟨g,0,none⟩) zs.length c) zs.length (cC zs)) (hg:wr.heap.size<=g)
  (hown1:w1.ownsRow B 23 1 (.slice (some ⟨gg,0,none⟩) (rs.length+1) cap) (rs.length+1) ((List.range rs.length).map (oK rs G C)++[.slice (some ⟨g,0,none⟩) zs.length c]))
  (hgrow:X.grownBy w1 u.ownBlock) (hat:u.ownBlock=some gg\/gg=X.heap.size)
  (hR:wr.heap[R]? =some (.cells #[u] t (0,0))) (hS:wr.heap[S]? =some o) (hRB:R<B) (hSB:S<B) (hSR:S≠R) (hbl:Below W w wr) (hWR:W<=R) (hWw:W<=w.heap.size):
  ∃G' C',dP (w1.setCell ⟨R,0,none⟩ (.slice (some ⟨gg,0,none⟩) (rs.length+1) cap)) B (.slice (some ⟨gg,0,none⟩) (rs.length+1) cap) (rs++[zs]) G' C'/\
   (w1.setCell ⟨R,0,none⟩ (.slice (some ⟨gg,0,none⟩) (rs.length+1) cap)).heap[S]? =some o/\
   (w1.setCell ⟨R,0,none⟩ (.slice (some ⟨gg,0,none⟩) (rs.length+1) cap)).heap[R]? =some (.cells #[.slice (some ⟨gg,0,none⟩) (rs.length+1) cap] t (0,0))/\
   Below W w (w1.setCell ⟨R,0,none⟩ (.slice (some ⟨gg,0,none⟩) (rs.length+1) cap)):=by
 have lt:∀k,u.ownBlock=some k->B<=k/\k<wr.heap.size:=HO.hdr_lt
 have HX:=HO.grown hX (fun _ e=>by cases e);have h1:=HX.snoc hz (fun e=>by have:=(lt g e).2;omega) (fun i hi e=>by have:=((HO.row i hi).lt (G i) rfl).2;omega) hown1 hgrow hat;have hRX:=jV hR hX (by simp);have hSX:=jV hS hX (by simp);have hR1:=jV hRX hgrow (fun e=>by have:=(lt R e).1;omega);have hS1:=jV hSX hgrow (fun e=>by have:=(lt S e).1;omega)
 refine⟨_,_,h1.grown (aF w1 ⟨R,0,none⟩ _) (fun k e=>by simp at e;omega),?_,?_,?_⟩
 ·rw[heap_setCell_other w1 ⟨R,0,none⟩ S _ hSR];exact hS1
 ·exact one_setCell hR1
 ·have hXb:Below W w X:=hbl.trans ⟨hX.os,hX.tape,hX.output,hX.size,fun k hk=>hX.block k (Nat.lt_of_lt_of_le hk (Nat.le_trans hWw hbl.size)) (by simp)⟩
  have h1b:Below W w w1:=hXb.grown hgrow (Nat.le_trans hWw hXb.size) (fun k e=>by have:=(lt k e).1;omega);exact h1b.setCell (by simpa using hWR) _
theorem aKg (w:World):
  Calls prog 168 #[] w fun e w'=>∃u G C,e=.returned (.agg #[u])/\dP w' w.heap.size u kH G C/\Below w.heap.size w w':=by
 have m8:=aJ2;obtain⟨i0,hi,hz0,hz1,hz2⟩:=info_parts aB6;go_enter func168,ntmps168;go_wp2;go_loopw [2] (fun i wr=>∃(k:Nat) (rs:List (List Int)) (u:Value) (G C:Nat->Nat),k<=3/\i=.int .i64 k/\rs=List.replicate k gP/\dP wr (w.heap.size+2) u rs G C/\
      wr.heap[w.heap.size]? =some (.cells #[zn] 36 (0,0))/\wr.heap[w.heap.size+1]? =some (.cells #[u] 36 (0,0))/\Below w.heap.size w wr) (fun i _=>3 - (intOf i).toNat)
 case atStart=>
  refine⟨0,_,_,_,_,Nat.zero_le _,rfl,rfl,dP.nil _ _,?_,?_,((Below.refl _ _).alloc lr_ _).alloc (by simp) _⟩
  ·exact (heap_alloc_old _ _ (by simp)).trans (heap_alloc_new _ _)
  ·have:=heap_alloc_new (w.alloc (Obj.cells #[Value.slice none 0 0] 36)) (Obj.cells #[Value.slice none 0 0] 36)
   simpa using this
 case round=>
  obtain⟨k,rs,u,G,C,hk,rfl,hrs,hown,hS,hR,hbl⟩:=hrel;have HRS:=hd_ hrs;have hn:rs.length<=3:=by rw[hrs];simpa using hk
  clear hrs;obtain⟨c1,f1,l1⟩:=fK hR;have hb0:w.heap.size+2<=wr.heap.size:=o_;have l2:w.heap.size+1<wr.heap.size+1:=o_;have hub:u.ownBlock≠some (w.heap.size+1):=fun e=>by have:=(hown.hdr_lt _ e).1;omega
  have HO:=hd_ hown;have HS:=hd_ hS;have HR:=hd_ hR;have HB:=hd_ hbl;clear hown hS hR hbl
  by_cases hlt:k<3
  ·go_wp2_with fail
   go_region_law
    ((refine step_append_lies _ r_ _ _ _ r_ (w.heap.size+2) 23 i0 _ 1 24 underlying34 hi hz0 hz1 hz2 rfl o_ u rs.length _ r_ (((HO.out.hdr.alloc _).alloc _).drew)
            ⟨wr.heap.size+1,0,none⟩ 1 1 [.slice (some ⟨wr.heap.size,0,none⟩) 8 8] r_ r_ (World.news_of_block (cs:=#[.slice (some ⟨wr.heap.size,0,none⟩) 8 8]) (t:=23) (fr:=(0,0)) (aMA _ _ _)) (by simp[Value.oneCell'])
            o_ (by unfold maxLen;omega) o_ (by simp;omega) (wr.heap.size+2) (by simp) ?_;intro gg cap w1 hown1 hgrow hat hlt1;have d1:=aKO c1 f1 l1 hgrow hub;obtain⟨d2,d3⟩:=d1))
   all_goals
    have hX:wr.grownBy ((wr.alloc (.cells (cC gP).toArray 3)).alloc (.cells #[.slice (some ⟨wr.heap.size,0,none⟩) 8 8] 23)).drew none:=
     aDh (bC (World.grownBy_alloc wr _ none) (World.grownBy_alloc _ _ none))
    have hz:=(((tE wr (w.heap.size+2) gP hb0 (by simp[gP,maxLen])).alloc (.cells #[.slice (some ⟨wr.heap.size,0,none⟩) 8 8] 23)).drew)
    have fin:=aCp HO.out hX hz lr_ hown1 hgrow (by simpa using hat) HR.out HS.out o_ o_ o_ HB.out o_ lr_;have FIN:=hd_ fin;clear fin hX hz hown1 hgrow hat;go_wp2;go_roundw
    case rel=>
     obtain⟨G',C',q1,q2,q3,q4⟩:=FIN.out;exact⟨k+1,rs++[gP],_,G',C',o_,gn_,by rw[HRS.out,List.replicate_succ'],q1,q2,q3,q4⟩
    case measure=>simp[intOf];omega
  ·obtain⟨s1,s2,s3⟩:=fK HS.out
   have h3:rs.length=3:=by rw[HRS.out];simp;omega
   obtain⟨g,cap,hu,hg1,hg2⟩:=World.ownsRow.form HO.out.hdr o_;subst hu;have e3:rs=kH:=by rw[HRS.out,show k=3 by omega];rfl
   have hw:=HO.out.grown (aF wr ⟨w.heap.size,0,none⟩ (.slice (some ⟨g,0,none⟩) rs.length cap)) (fun k e=>by simp at e;omega);have hb:=HB.out.setCell (p:=⟨w.heap.size,0,none⟩) lr_ (.slice (some ⟨g,0,none⟩) rs.length cap);rw[e3]at hw hb;have H1:=hd_ hw;have H2:=hd_ hb;have E3:=hd_ e3;clear hw hb h3 e3;go_wp2;rw[E3.out]
   have hr:=World.cell?_setCell_same wr ⟨w.heap.size,0,none⟩ (.slice (some ⟨g,0,none⟩) kH.length cap) s1;exact bodyPost_ret (v:=.agg #[.slice (some ⟨g,0,none⟩) kH.length cap]) (by simp[results,results168,go_sem,hr]) rfl ⟨_,G,C,rfl,H1.out.base o_,H2.out⟩
theorem aH0 (w:World) (o:Obj) (r0 r1 r2:List Int) (n:Nat) (hn:w.heap.size=n) (h0:r0.length=8) (h1:r1.length=8) (h2:r2.length=8):
  dP (((((w.alloc o).alloc (.cells #[.slice (some ⟨n+1+1,0,none⟩) 8 8,.slice (some ⟨n+1+1+1,0,none⟩) 8 8,.slice (some ⟨n+1+1+1+1,0,none⟩) 8 8] 23)).alloc
      (.cells (cC r0).toArray 3)).alloc (.cells (cC r1).toArray 3)).alloc (.cells (cC r2).toArray 3)) n (.slice (some ⟨n+1,0,none⟩) 3 3) [r0,r1,r2] (fun i=>n+2+i) (fun _=>8):=by
 subst hn;have eV:∀i,oK [r0,r1,r2] (fun i=>w.heap.size+2+i) (fun _=>8) i=.slice (some ⟨w.heap.size+2+i,0,none⟩) ([r0,r1,r2].getD i []).length 8:=fun i=>rfl
 have hh:=World.ownsRow_lit (base:=w.heap.size) (e:=23) (size:=1) (w.alloc o) #[.slice (some ⟨w.heap.size+1+1,0,none⟩) 8 8,.slice (some ⟨w.heap.size+1+1+1,0,none⟩) 8 8,.slice (some ⟨w.heap.size+1+1+1+1,0,none⟩) 8 8] 3 (by simp) (by simp[maxLen]) (by simp)
 have z0:=tE ((w.alloc o).alloc (.cells #[.slice (some ⟨w.heap.size+1+1,0,none⟩) 8 8,.slice (some ⟨w.heap.size+1+1+1,0,none⟩) 8 8,.slice (some ⟨w.heap.size+1+1+1+1,0,none⟩) 8 8] 23)) w.heap.size r0 (by simp;omega) (by simp[h0,maxLen])
 have z1:=tE (((w.alloc o).alloc (.cells #[.slice (some ⟨w.heap.size+1+1,0,none⟩) 8 8,.slice (some ⟨w.heap.size+1+1+1,0,none⟩) 8 8,.slice (some ⟨w.heap.size+1+1+1+1,0,none⟩) 8 8] 23)).alloc (.cells (cC r0).toArray 3)) w.heap.size r1 (by simp;omega) (by simp[h1,maxLen])
 have z2:=tE ((((w.alloc o).alloc (.cells #[.slice (some ⟨w.heap.size+1+1,0,none⟩) 8 8,.slice (some ⟨w.heap.size+1+1+1,0,none⟩) 8 8,.slice (some ⟨w.heap.size+1+1+1+1,0,none⟩) 8 8] 23)).alloc (.cells (cC r0).toArray 3)).alloc (.cells (cC r1).toArray 3)) w.heap.size r2 (by simp;omega) (by simp[h2,maxLen]);simp only[World.size_alloc,h0,h1,h2]at hh z0 z1 z2
 refine⟨?_,fun i hi=>?_,fun i hi=>?_,fun i j hi hj hij=>?_⟩
 ·have:=((hh.alloc (.cells (cC r0).toArray 3)).alloc (.cells (cC r1).toArray 3)).alloc (.cells (cC r2).toArray 3)
  simpa[List.range_succ,oK,h0,h1,h2]using this
 ·simp only[List.length_cons,List.length_nil]at hi
  rw[eV];rcases (by omega:i=0\/i=1\/i=2)with rfl|rfl|rfl
  ·simpa[h0]using (z0.alloc (.cells (cC r1).toArray 3)).alloc (.cells (cC r2).toArray 3)
  ·simpa[h1]using z1.alloc (.cells (cC r2).toArray 3)
  ·simpa[h2]using z2
 ·simp[Value.ownBlock];omega
 ·simp;omega
theorem aAv (w:World):
  Calls prog 152 #[] w fun e w'=>∃u G C,e=.returned (.agg #[u])/\dP w' w.heap.size u kH G C/\Below w.heap.size w w':=by
 have m8:=aJ2;have m3:=aLA;go_enter func152,ntmps152;go_wp2;refine wp_loop_rounds 4 ?_;rw[rounds_succ];go_wp2;rw[rounds_succ];go_wp2;rw[rounds_succ];go_wp2;rw[rounds_succ];go_wp2;exact bodyPost_ret (v:=.agg #[.slice (some ⟨w.heap.size+1,0,none⟩) 3 3]) (by simp[results,results152,go_sem]) rfl
  ⟨_,_,_,rfl,aH0 w _ gP gP gP _ rfl rfl rfl rfl,(((((Below.refl _ _).alloc lr_ _).alloc (by simp) _).alloc (by simp;omega) _).alloc (by simp;omega) _).alloc (by simp;omega) _⟩
def oM (zs:List Int):Prop:=zs.length=8/\(∀k,k<8->0<=zs.getD k 0)/\zs.sum<=2000
instance (zs:List Int):Decidable (oM zs):=by unfold oM;infer_instance
def fV (zs:List Int):Int:=if oM zs then zs.sum else -1
def dD (rs:List (List Int)):Int:=if okB rs=true then (rs.getD 0 []).sum else -1
theorem aF8 {zs:List Int} (h:∀k,k<zs.length->0<=zs.getD k 0):∀z ∈ zs,0<=z:=fun z hz=>by
 obtain⟨k,hk,rfl⟩:=List.getElem_of_mem hz;have:=h k hk;simpa[hk]using this
theorem uZ {zs:List Int} (h:∀z ∈ zs,0<=z):0<=zs.sum:=by
 induction zs with
 |nil=>simp
 |cons a l ih=>simp only[List.sum_cons];have:=h a (by simp);have:=ih (fun z hz=>h z (by simp[hz]));omega
theorem zL {zs:List Int} (h:∀z ∈ zs,0<=z) (k:Nat):(zs.take k).sum<=zs.sum:=by
 have e:zs.sum=(zs.take k).sum+(zs.drop k).sum:=by rw[<-List.sum_append,List.take_append_drop]
 have:=uZ (fun z hz=>h z (List.mem_of_mem_drop hz):∀z ∈ zs.drop k,0<=z);omega
theorem oM.bd {zs:List Int} (h:oM zs):(∀z ∈ zs,0<=z)/\0<=zs.sum/\(∀k,k<8->0<=zs.getD k 0/\zs.getD k 0<=2000):=by
 have hm:=aF8 (fun k hk=>h.2.1 k (by rw[<-h.1];exact hk):∀k,k<zs.length->0<=zs.getD k 0);refine⟨hm,uZ hm,fun k hk=>⟨h.2.1 k hk,?_⟩⟩;have h1:=pF zs k (by rw[h.1];exact hk);have h2:=zL hm (k+1);have h3:=uZ (fun z hz=>hm z (List.mem_of_mem_take hz):∀z ∈ zs.take k,0<=z);have:=h.2.2;omega
theorem fT {zs:List Int} (h:oM zs):fV zs=zs.sum:=if_pos h
theorem mQ {zs:List Int} (h:¬oM zs):fV zs= -1:=if_neg h
theorem aGN (rs:List (List Int)):dD rs=if rs.length=3/\fV (rs.getD 1 [])=fV (rs.getD 0 [])/\fV (rs.getD 2 [])=fV (rs.getD 0 [])then fV (rs.getD 0 [])else -1:=by
 unfold dD
 by_cases hok:okB rs=true
 ·rw[if_pos hok]
  obtain⟨h3,hg⟩:=(fM rs).1 hok;have fine:∀i,i<3->oM (rs.getD i []):=fun i hi=>⟨(hg i hi).1,fun k hk=>((hg i hi).2.1 k hk).1,(hg i hi).2.2.2⟩
  rw[if_pos ⟨h3,by rw[fT (fine 1 o_),fT (fine 0 o_)];exact (hg 1 o_).2.2.1,by rw[fT (fine 2 o_),fT (fine 0 o_)];exact (hg 2 o_).2.2.1⟩,
      fT (fine 0 o_)]
 ·rw[if_neg hok]
  split
  ·rename_i h
   obtain⟨h3,h1,h2⟩:=h
   by_cases f0:oM (rs.getD 0 [])
   ·exfalso
    apply hok;rw[fM];have pos:=f0.bd.2.1;have all:∀i,i<3->oM (rs.getD i [])/\(rs.getD i []).sum=(rs.getD 0 []).sum:=fun i hi=>by
     have e:fV (rs.getD i [])=fV (rs.getD 0 []):=by
      rcases (by omega:i=0\/i=1\/i=2)with rfl|rfl|rfl
      ·rfl
      ·exact h1
      ·exact h2
     rw[fT f0]at e
     by_cases fi:oM (rs.getD i [])
     ·rw[fT fi]at e;exact⟨fi,e⟩
     ·rw[mQ fi]at e;omega
    exact⟨h3,fun i hi=>⟨(all i hi).1.1,(all i hi).1.bd.2.2,(all i hi).2,(all i hi).1.2.2⟩⟩
   ·rw[mQ f0]
  ·rfl
theorem aFC (v:Value) (x:Option Addr) (n c:Nat) (w:World) (hv:v=.slice x n c) (h:n≠8):
  Calls prog 157 #[v] w fun e w'=>e=.returned (iv (-1))/\w=w':=by
 subst hv;have hn:((n:Int)==8)=false:=by simp;omega
 go_enter func157,ntmps157;go_wp2;go_ret;exact⟨rfl,rfl⟩
theorem aC5 (b o c:Nat) (zs:List Int) (w:World) (hl:zs.length=8) (hc:∀i,i<8->w.cell? ⟨b,o+i,none⟩=some (.int .i64 (zs.getD i 0))):
  Calls prog 157 #[.slice (some ⟨b,o,none⟩) 8 c] w fun e w'=>e=.returned (iv (fV zs))/\w=w':=by
 have HL:=hd_ hl;have HC:=hd_ hc;clear hl hc;go_enter func157,ntmps157;go_wp2
 go_loop [3,11] (fun q i=>∃(j:Nat) (S:Int),j<=8/\i=.int .i64 j/\q=.int .i64 S/\(zs.take j).sum=S/\0<=S/\S<=2000/\∀i,i<j->0<=zs.getD i 0) (fun _ i=>8 - (intOf i).toNat)
 case atStart=>exact⟨0,0,Nat.zero_le _,rfl,rfl,rfl,o_,o_,fun _ h=>absurd h (Nat.not_lt_zero _)⟩
 case round=>
  obtain⟨j,S,hj,rfl,rfl,hS,S0,S1,hpos⟩:=hrel;have HS:=hd_ hS;have HP:=hd_ hpos;clear hS hpos
  by_cases hlt:j<8
  ·have hcell:=HC.out j hlt
   obtain⟨y,hy⟩:∃y,zs.getD j 0=y:=⟨_,rfl⟩
   rw[hy]at hcell;have HY:=hd_ hy;have hs:=pF zs j (by rw[HL.out];exact hlt);rw[HS.out,hy]at hs;have HT:=hd_ hs;clear hy hs
   by_cases y0:y<0
   ·have bad:Hid (fV zs= -1):=mQ (fun f=>by have:=f.2.1 j hlt;rw[HY.out]at this;omega)
    go_wp2;go_ret;exact⟨jC bad.out.symm,rfl⟩
   by_cases y1:2000 - S<y
   ·have bad:Hid (fV zs= -1):=mQ (fun f=>by have:=zL f.bd.1 (j+1);rw[HT.out]at this;have:=f.2.2;omega)
    go_wp2;go_ret;exact⟨jC bad.out.symm,rfl⟩
   ·go_wp2
    go_round
    case rel=>exact⟨j+1,S+y,o_,gn_,rfl,HT.out,o_,o_,fun i hi=>by
          by_cases h:i<j
          · exact HP.out i h
          · obtain rfl:i=j:=o_
            rw[HY.out];omega⟩
    case measure=>simp[intOf];omega
  ·obtain rfl:j=8:=o_
   have good:Hid (fV zs=S):=by
    have e:zs.sum=S:=by rw[<-HS.out,List.take_of_length_le (by rw[HL.out];exact Nat.le_refl _)]
    rw[<-e];exact fT ⟨HL.out,HP.out,by rw[e];exact S1⟩
   go_wp2;go_ret;exact⟨jC good.out.symm,rfl⟩
theorem yJ (w:World) (v:Value) (zs:List Int) (h:dE w v zs):
  Calls prog 157 #[v] w fun e w'=>e=.returned (iv (fV zs))/\w=w':=by
 obtain⟨⟨x,c,hx⟩,q⟩:=h.cases
 by_cases h8:zs.length=8
 ·rcases q with q|⟨b,o,c,rfl,hc⟩
  ·omega
  rw[h8]at hc ⊢;exact aC5 b o c zs w h8 hc
 ·rw[mQ (fun f=>h8 f.1)]
  exact aFC v x _ c w hx h8
theorem vJ (u:Value) (x:Option Addr) (n c:Nat) (w:World) (hu:u=.slice x n c) (h:n≠3):
  Calls prog 84 #[.agg #[u]] w fun e w'=>e=.returned (iv (-1))/\Below w.heap.size w w':=by
 subst hu;have hn:((n:Int)==3)=false:=by simp;omega
 go_enter func84,ntmps84;go_wp2;go_ret;exact⟨rfl,(Below.refl _ _).alloc lr_ _⟩
theorem aAo (b o cap:Nat) (rs:List (List Int)) (w:World) (h3:rs.length=3) (hcap:3<=cap) (hb:b<w.heap.size)
  (hc:∀i,i<3->∃x,w.cell? ⟨b,o+i,none⟩=some x/\dE w x (rs.getD i [])):
  Calls prog 84 #[.agg #[.slice (some ⟨b,o,none⟩) 3 cap]] w fun e w'=>e=.returned (iv (dD rs))/\Below w.heap.size w w':=by
 have HV:=hd_ (aGN rs);have H3:=hd_ h3;obtain⟨x0,h0,i0⟩:=hc 0 o_;obtain⟨x1,h1,i1⟩:=hc 1 o_;obtain⟨x2,h2,i2⟩:=hc 2 o_;have hA:=(Below.refl w.heap.size w).alloc lr_ (.cells #[.slice (some ⟨b,o,none⟩) 3 cap] 36);have J0:=hd_ (yJ _ x0 _ (i0.below hA lr_));have J1:=hd_ (yJ _ x1 _ (i1.below hA lr_));have J2:=hd_ (yJ _ x2 _ (i2.below hA lr_));have HA:=hd_ hA
 obtain⟨⟨y0,c0,e0⟩,_⟩:=i0.cases;obtain⟨⟨y1,c1,e1⟩,_⟩:=i1.cases;obtain⟨⟨y2,c2,e2⟩,_⟩:=i2.cases;obtain⟨n0,m0⟩:=nm_ ((rs.getD 0 []).length);obtain⟨n1,m1⟩:=nm_ ((rs.getD 1 []).length);obtain⟨n2,m2⟩:=nm_ ((rs.getD 2 []).length);obtain⟨V0,v0⟩:=nm_ (fV (rs.getD 0 []));obtain⟨V1,v1⟩:=nm_ (fV (rs.getD 1 []));obtain⟨V2,v2⟩:=nm_ (fV (rs.getD 2 []));rw[<-v0, <-v1, <-v2]at HV;rw[<-v0]at J0
 rw[<-v1]at J1;rw[<-v2]at J2;rw[<-m0]at e0;rw[<-m1]at e1;rw[<-m2]at e2;subst e0 e1 e2;clear i0 i1 i2 hc hA m0 m1 m2 v0 v1 v2 h3;have cap1:¬cap=1:=o_;have cap1':(1:Int)<=(cap:Int):=o_;have cap3:(3:Int)<=(cap:Int):=o_;have h0':w.cell? ⟨b,o,none⟩=some (.slice y0 n0 c0):=h0;have h2':w.cell? ⟨b,o+1+1,none⟩=some (.slice y2 n2 c2):=h2;go_enter func84,ntmps84
 go_wp2_with fail
 refine J0.out.mono ?_;rintro e w1 ⟨rfl,rfl⟩
 go_wp2_with fail
 by_cases q1:V1=V0
 ·by_cases q2:V2=V0
  ·subst q1
   subst q2;have fin:=hd_ (HV.out.trans (if_pos ⟨H3.out,rfl,rfl⟩));refine wp_loop_rounds 3 ?_;rw[rounds_succ]
   go_wp2_with fail
   refine J1.out.mono ?_;rintro e w1 ⟨rfl,rfl⟩
   go_wp2_with fail
   rw[rounds_succ]
   go_wp2_with fail
   refine J2.out.mono ?_;rintro e w1 ⟨rfl,rfl⟩
   go_wp2_with fail
   rw[rounds_succ];go_wp2;go_ret;exact⟨jC fin.out.symm,HA.out⟩
  ·subst q1
   have fin:=hd_ (HV.out.trans (if_neg (fun h=>q2 h.2.2)));have q2':(V2==V1)=false:=by simpa using q2
   refine wp_loop_rounds 3 ?_;rw[rounds_succ]
   go_wp2_with fail
   refine J1.out.mono ?_;rintro e w1 ⟨rfl,rfl⟩
   go_wp2_with fail
   rw[rounds_succ]
   go_wp2_with fail
   refine J2.out.mono ?_;rintro e w1 ⟨rfl,rfl⟩;go_wp2;go_ret;exact⟨jC fin.out.symm,HA.out⟩
 ·have fin:=hd_ (HV.out.trans (if_neg (fun h=>q1 h.2.1)))
  have q1':(V1==V0)=false:=by simpa using q1
  refine wp_loop_rounds 1 ?_;rw[rounds_succ]
  go_wp2_with fail
  refine J1.out.mono ?_;rintro e w1 ⟨rfl,rfl⟩;go_wp2;go_ret;exact⟨jC fin.out.symm,HA.out⟩
theorem rY (w:World) (u:Value) (rs:List (List Int)) (h:Rws w u rs):
  Calls prog 84 #[.agg #[u]] w fun e w'=>e=.returned (iv (dD rs))/\Below w.heap.size w w':=by
 have bad:rs.length≠3->dD rs= -1:=fun h=>by rw[aGN,if_neg (fun q=>h q.1)]
 rcases h with ⟨rfl,rfl⟩|⟨b,o,cap,rfl,hcap,_,hb,hc⟩
 ·rw[bad (by simp)]
  exact vJ _ none 0 0 w rfl o_
 ·by_cases h3:rs.length=3
  ·rw[h3]at hc hcap ⊢
   exact aAo b o cap rs w h3 hcap hb hc
  ·rw[bad h3]
   exact vJ _ _ _ _ w rfl h3
theorem oU {rs:List (List Int)} (h:okB rs=true):0<=dD rs/\dD rs<=2000:=by
 obtain⟨_,hg⟩:=(fM rs).1 h;have f:oM (rs.getD 0 []):=⟨(hg 0 o_).1,fun k hk=>((hg 0 o_).2.1 k hk).1,(hg 0 o_).2.2.2⟩
 unfold dD;rw[if_pos h];exact⟨f.bd.2.1,f.2.2⟩
theorem tC {rs:List (List Int)} (h:okB rs=false):dD rs= -1:=by unfold dD;rw[h];rfl
theorem aK1 (w:World) (u:Value) (rs:List (List Int)) (h:Rws w u rs):
  Calls prog 178 #[.agg #[u]] w fun e w'=>e=.returned (.bool (okB rs))/\Below w.heap.size w w':=by
 have hA:=(Below.refl w.heap.size w).alloc lr_ (.cells #[u] 36);have K:=hd_ (rY _ u rs (h.below hA lr_));obtain⟨⟨x,c,hx⟩,_⟩:=h.cases;have HA:=hd_ hA;obtain⟨n,hn⟩:=nm_ rs.length;rw[<-hn]at hx;subst hx;clear h hA hn;cases hok:okB rs with
 |true=>
  have v0:=(oU hok).1;obtain⟨V,hV⟩:=nm_ (dD rs);rw[<-hV]at K v0;clear hV hok;exact zBf
 |false=>
  rw[tC hok]at K;clear hok;exact zBf
end Go.Proofs.YtcblbdpdbggkbaaGreat
namespace Go.Proofs.YtcblbdpdbggkbaaGreat
open _root_.Go.Proofs.Tryz
open Go.RowKit Go.Sort
theorem tI {w:World} {u:Value} {rs:List (List Int)} (h:Rws w u rs) (hok:okB rs=true):
  ∃b o cap,u=.slice (some ⟨b,o,none⟩) 3 cap/\3<=cap/\b<w.heap.size/\
   ∀i,i<3->∃bi oi ci,w.cell? ⟨b,o+i,none⟩=some (.slice (some ⟨bi,oi,none⟩) 8 ci)/\bi<w.heap.size/\∀k,k<8->w.cell? ⟨bi,oi+k,none⟩=some (.int .i64 ((rs.getD i []).getD k 0)):=by
 obtain⟨h3,hg⟩:=(fM rs).1 hok;rcases h with ⟨rfl,rfl⟩|⟨b,o,cap,rfl,hcap,_,hb,hc⟩
 ·simp at h3
 refine⟨b,o,cap,by rw[h3],o_,hb,fun i hi=>?_⟩;obtain⟨x,hx,hi'⟩:=hc i o_;have g:=hg i hi;rcases hi' with ⟨_,h0⟩|⟨bi,oi,ci,rfl,_,_,hbi,hci⟩
 ·have:=g.1;rw[h0]at this;simp at this
 ·rw[g.1]at hx hci
  exact⟨bi,oi,ci,hx,hbi,hci⟩
def atV (rs:List (List Int)) (i:Nat) (t:Int):Int:=(rs.getD i []).getD (oR i t).toNat 0
theorem lG (i t:Int):∃P:Nat,oR i t=P/\P<8/\(oR i t).toNat=P:=by
 have:=aKt i t;exact⟨(oR i t).toNat,o_,o_,rfl⟩
theorem aLX {rs:List (List Int)} (h:okB rs=true) (i:Nat) (hi:i<3) (t:Int):0<=atV rs i t/\atV rs i t<=2000:=by
 obtain⟨_,hg⟩:=(fM rs).1 h;obtain⟨P,_,hP,e⟩:=lG i t;unfold atV;rw[e];exact (hg i hi).2.1 P hP
theorem sQ (w:World) (u:Value) (rs:List (List Int)) (h:Rws w u rs):
  Calls prog 223 #[.agg #[u]] w fun e w'=>e=.returned (iv (dD rs))/\Below w.heap.size w w':=by
 have hA:=(Below.refl w.heap.size w).alloc lr_ (.cells #[u] 36);have K:=hd_ (xC u rs _ (h.below hA lr_));have HA:=hd_ hA;clear hA;cases hok:okB rs with
 |false=>
  rw[hok]at K;rw[tC hok];obtain⟨⟨x,c,hx⟩,_⟩:=h.cases;obtain⟨n,hn⟩:=nm_ rs.length;rw[<-hn]at hx;subst hx;clear h hn hok;go_enter func223,ntmps223
  go_wp2_with (go_at_call 219;refine K.out.mono ?_;rintro e w1 ⟨rfl,hb1⟩)
  go_ret;exact⟨rfl,HA.out.trans (hb1.mono HA.out.size)⟩
 |true=>
  rw[hok]at K;obtain⟨b,o,cap,rfl,hcap,hb,hrow⟩:=tI h hok;obtain⟨b0,o0,c0,e0,l0,r0⟩:=hrow 0 o_;obtain⟨_,hg⟩:=(fM rs).1 hok;have fin:Hid (dD rs=(rs.getD 0 []).sum):=if_pos hok;obtain⟨g8,gr,_,_⟩:=hg 0 o_;generalize rs.getD 0 []=z0 at g8 gr fin r0;have G8:=hd_ g8;have GR:=hd_ gr;have e0':w.cell? ⟨b,o,none⟩=some (.slice (some ⟨b0,o0,none⟩) 8 c0):=e0;have R0:=hd_ r0
  clear h hrow hok hg g8 gr e0 r0;go_enter func223,ntmps223
  go_wp2_with fail
  refine K.out.mono ?_;rintro e w1 ⟨rfl,hb1⟩;have L:=HA.out.trans (hb1.mono HA.out.size);have cb:w1.cell? ⟨w.heap.size,0,none⟩=some (.slice (some ⟨b,o,none⟩) 3 cap):=by rw[hb1.cell (by simp)];simp
  rw[<-L.cell (p:=⟨b,o,none⟩) hb]at e0';have KC:Hid (Calls prog 224 #[.slice (some ⟨b0,o0,none⟩) 8 c0] w1 fun e w'=>e=.returned (iv z0.sum)/\w1=w'):=
   sU b0 o0 c0 8 z0 w1 G8.out o_ GR.out (fun i hi=>by rw[L.cell (p:=⟨b0,o0+i,none⟩) l0];exact R0.out i hi)
  have HL:=hd_ L;clear L hb1
  go_wp2_with (go_at_call 224;refine KC.out.mono ?_;rintro e w' ⟨rfl,rfl⟩)
  go_ret;exact⟨jC fin.out.symm,HL.out⟩
end Go.Proofs.YtcblbdpdbggkbaaGreat
namespace Go.Proofs.YtcblbdpdbggkbaaGreat
open _root_.Go.Proofs.Tryz
open Go.RowKit
def aCt (rs:List (List Int)):Nat->Nat
 | 0=>0
 |i+1=>aCt rs i+(rs.getD i []).length
attribute [local go_sem ↓] Go.wp_at_zero Go.wp_at_succ
theorem aH3 {w:World} {b o n:Nat} {zs:List Int} (hn:zs.length=n) (hc:∀k,k<n->w.cell? ⟨b,o+k,none⟩=some (.int .i64 (zs.getD k 0))):
  ∀j u,(cC zs)[j]? =some u->w.cell? ((⟨b,o,none⟩:Addr).add j)=some u:=fun j u hu=>by
 have hj:j<zs.length:=by
  have:=(List.getElem?_eq_some_iff.1 hu).1;simpa[cC]using this
 have e:(⟨b,o,none⟩:Addr).add j=⟨b,o+j,none⟩:=by unfold Addr.add;split<;>simp_all
 rw[e,hc j o_];rw[kU _ _ hj]at hu;exact hu
theorem aJK (zs:List Int):∀u ∈ cC zs,u.oneCell'=true:=fun u hu=>by
 obtain⟨z,_,rfl⟩:=List.mem_map.1 hu
 rfl
theorem aHe (w:World) (B:Nat) (hB:B<=w.heap.size):(w.alloc (.cells #[] 3)).ownsRow B 3 1 (.slice (some ⟨w.heap.size,0,none⟩) 0 0) 0 []:=
 World.ownsRow_lit (base:=B) (e:=3) (size:=1) w #[] 0 hB (by simp[maxLen]) (by simp)
theorem aEh {w wr w1 w2:World} {S R B W g c gg cap n:Nat} {o o':Obj} {u:Value} {t:TypeId} {rs:List (List Int)} {G C:Nat->Nat} {zs:List Int} (hn:zs.length=n)
  (HO:dP wr B u rs G C) (hX:Below wr.heap.size wr w1) (hz:w1.ownsRow B 3 1 (.slice (some ⟨g,0,none⟩) n c) n (cC zs)) (hg:wr.heap.size<=g)
  (hown1:w2.ownsRow B 23 1 (.slice (some ⟨gg,0,none⟩) (rs.length+1) cap) (rs.length+1) ((List.range rs.length).map (oK rs G C)++[.slice (some ⟨g,0,none⟩) n c]))
  (hgrow:(w1.alloc o').grownBy w2 u.ownBlock) (hat:u.ownBlock=some gg\/gg=w1.heap.size+1)
  (hR:wr.heap[R]? =some (.cells #[u] t (0,0))) (hS:wr.heap[S]? =some o) (hRB:R<B) (hSB:S<B) (hSR:S≠R) (hbl:Below W w wr) (hWR:W<=R) (hWw:W<=w.heap.size):
  ∃G' C',dP (w2.setCell ⟨R,0,none⟩ (.slice (some ⟨gg,0,none⟩) (rs.length+1) cap)) B (.slice (some ⟨gg,0,none⟩) (rs.length+1) cap) (rs++[zs]) G' C'/\
   (w2.setCell ⟨R,0,none⟩ (.slice (some ⟨gg,0,none⟩) (rs.length+1) cap)).heap[S]? =some o/\
   (w2.setCell ⟨R,0,none⟩ (.slice (some ⟨gg,0,none⟩) (rs.length+1) cap)).heap[R]? =some (.cells #[.slice (some ⟨gg,0,none⟩) (rs.length+1) cap] t (0,0))/\
   Below W w (w2.setCell ⟨R,0,none⟩ (.slice (some ⟨gg,0,none⟩) (rs.length+1) cap)):=by
 subst hn;exact aCp HO (bC (dH hX) (World.grownBy_alloc w1 o' none)) (hz.alloc _) hg hown1 hgrow (by simpa using hat) hR hS hRB hSB hSR hbl hWR hWw
theorem kP (w:World) (a b c:Obj):(((w.alloc a).alloc b).alloc c).heap[w.heap.size]? =some a/\(((w.alloc a).alloc b).alloc c).heap[w.heap.size+1]? =some b/\(((w.alloc a).alloc b).alloc c).heap[w.heap.size+2]? =some c:=by
 have e1:(w.alloc a).heap.size=w.heap.size+1:=by simp
 have e2:((w.alloc a).alloc b).heap.size=w.heap.size+2:=by simp
 have h1:=heap_alloc_new (w.alloc a) b;have h2:=heap_alloc_new ((w.alloc a).alloc b) c;rw[e1]at h1;rw[e2]at h2;exact⟨(heap_alloc_old _ _ o_).trans ((heap_alloc_old _ _ o_).trans (heap_alloc_new _ _)),(heap_alloc_old _ _ o_).trans h1,h2⟩
theorem aHO {wr w1 w2:World} {S R:Nat} {o o':Obj} {x:Value} {row:Option Nat} (h:wr.heap[S]? =some o) (hb:Below wr.heap.size wr w1) (hg:(w1.alloc o').grownBy w2 row) (hr:row≠some S) (hSR:S≠R):
  (w2.setCell ⟨R,0,none⟩ x).heap[S]? =some o:=by
 rw[heap_setCell_other w2 ⟨R,0,none⟩ S _ hSR];have h1:=jV h (dH (row:=none) hb) (by simp);have h2:=jV h1 (World.grownBy_alloc w1 o' none) (by simp);exact jV h2 hg hr
theorem aHA {α:Type} (l:List α) (k:Nat) (d:α) (h:k<l.length):l.take k++[l.getD k d]=l.take (k+1):=by
 rw[List.take_succ_eq_append_getElem h];simp[h]
theorem aFQ {wr w1:World} {o:Obj} (h:(wr.alloc o).drew.grownBy w1 (some wr.heap.size)):Below wr.heap.size wr w1:=by
 have h1:Below wr.heap.size wr (wr.alloc o).drew:=((Below.refl _ _).alloc lr_ _).drew;exact h1.grown h (by simp) (fun k e=>by cases e;exact Nat.le_refl _)
theorem aG5 {w w1:World} {b:Nat} {u:Value} (hb:Below w.heap.size w w1) (c:w.cell? ⟨b,0,none⟩=some u) (f:w.frozen? ⟨b,0,none⟩=false) (l:b<w.heap.size):
  w1.cell? ⟨b,0,none⟩=some u/\w1.frozen? ⟨b,0,none⟩=false/\b<w1.heap.size:=
 ⟨cell_later hb c,by rw[hb.frozen (p:=⟨b,0,none⟩) l];exact f,Nat.lt_of_lt_of_le l hb.size⟩
theorem aKi {w w1:World} {o:Obj} {b:Nat} {u:Value} {row:Option Nat} (c:w.cell? ⟨b,0,none⟩=some u) (f:w.frozen? ⟨b,0,none⟩=false) (l:b<w.heap.size)
  (hg:(w.alloc o).grownBy w1 row) (hr:row≠some b):w1.cell? ⟨b,0,none⟩=some u/\w1.frozen? ⟨b,0,none⟩=false:=by
 have l1:b<(w.alloc o).heap.size:=by simp;omega
 rw[hg.cell_far ⟨b,0,none⟩ l1 (Ne.symm hr),hg.frozen_far ⟨b,0,none⟩ l1 (Ne.symm hr)];rw[World.cell?_alloc_past _ _ _ l,World.frozen?_alloc_past _ _ _ l];exact⟨c,f⟩
theorem aFJ (b o cap:Nat) (rs:List (List Int)) (w:World) (hl:rs.length=3) (h8:∀i,i<3->(rs.getD i []).length=8) (hb:b<w.heap.size)
  (hrow:∀i,i<3->∃bi oi ci,w.cell? ⟨b,o+i,none⟩=some (.slice (some ⟨bi,oi,none⟩) 8 ci)/\bi<w.heap.size/\∀k,k<8->w.cell? ⟨bi,oi+k,none⟩=some (.int .i64 ((rs.getD i []).getD k 0))):
  Calls prog 218 #[.agg #[.slice (some ⟨b,o,none⟩) 3 cap]] w fun e w'=>∃u G C,e=.returned (.agg #[u])/\dP w' w.heap.size u rs G C/\Below w.heap.size w w':=by
 obtain⟨i0,hi,hz0,hz1,hz2⟩:=info_parts aB6;obtain⟨j0,hj,hy0,hy1,hy2⟩:=info_parts aJ9;have HL:=hd_ hl;have H8:=hd_ h8;have HW:=hd_ hrow;clear hl h8 hrow;go_enter func218,ntmps218;go_wp2;go_loopw [4] (fun i wr=>∃(k:Nat) (qs:List (List Int)) (u:Value) (G C:Nat->Nat),k<=3/\i=.int .i64 k/\qs=rs.take k/\dP wr (w.heap.size+3) u qs G C/\
      wr.heap[w.heap.size+1]? =some (.cells #[zn] 36 (0,0))/\wr.heap[w.heap.size+2]? =some (.cells #[u] 36 (0,0))/\Below w.heap.size w wr/\
      wr.heap[w.heap.size]? =some (.cells #[.slice (some ⟨b,o,none⟩) 3 cap] 36 (0,0))) (fun i _=>3 - (intOf i).toNat)
 case atStart=>
  refine⟨0,_,_,_,_,Nat.zero_le _,rfl,rfl,dP.nil _ _,?_,?_,(((Below.refl _ _).alloc lr_ _).alloc (by simp) _).alloc (by simp;omega) _,?_⟩
  ·exact (kP w _ _ _).2.1
  ·exact (kP w _ _ _).2.2
  ·exact (kP w _ _ _).1
 case round=>
  obtain⟨k,qs,u,G,C,hk,rfl,hqs,hown,hS,hR,hbl,hbx0⟩:=hrel;obtain⟨hbox,_,l0⟩:=fK hbx0;obtain⟨c1,f1,l1⟩:=fK hR;have HQ:=hd_ hqs;have hn:qs.length=k:=by rw[hqs];simp[HL.out];omega
  have HN:=hd_ hn;have hn3:qs.length<=3:=o_;have hub:u.ownBlock≠some (w.heap.size+2):=fun e=>by have:=(hown.hdr_lt _ e).1;omega
  have hb0:w.heap.size+3<=wr.heap.size:=o_;have hub0:u.ownBlock≠some w.heap.size:=fun e=>by have:=(hown.hdr_lt _ e).1;omega
  have HB0:=hd_ hbx0;have HU0:=hd_ hub0;have HO:=hd_ hown;have HS:=hd_ hS;have HR:=hd_ hR;have HB:=hd_ hbl;clear hown hS hR hbl hn hqs hbx0 hub0
  by_cases hlt:k<3
  ·obtain⟨bi,oi,ci,e1,li,hc⟩:=HW.out k hlt
   rw[<-HB.out.cell (p:=⟨b,o+k,none⟩) hb]at e1;have hzl:=H8.out k hlt;obtain⟨zs,hzs⟩:=nm_ (rs.getD k []);rw[<-hzs]at hc hzl;have hc':∀i,i<8->wr.cell? ⟨bi,oi+i,none⟩=some (.int .i64 (zs.getD i 0)):=fun i hi=>by rw[HB.out.cell (p:=⟨bi,oi+i,none⟩) li];exact hc i hi
   have hbi:bi<wr.heap.size:=by have:=HB.out.size;omega
   have HC:=hd_ hc';have HZ:=hd_ hzs;have HZL:=hd_ hzl;clear hc hc' hzs hzl;have lb:b<wr.heap.size:=by have:=HB.out.size;omega
   have ki0:(0:Int)<=(k:Int):=o_;have ki3:(k:Int)<3:=o_
   go_wp2_with fail
   go_region_law ((first
        |(refine step_append_lies _ r_ _ _ _ r_ (w.heap.size+3) 3 j0 _ 1 8 underlying23 hj hy0 hy1 hy2 rfl o_ (.slice (some ⟨wr.heap.size,0,none⟩) 0 0) 0 [] r_ ((aHe wr (w.heap.size+3) hb0).drew)
            ⟨bi,oi,none⟩ 8 ci (cC zs) r_ (by rw[wY,HZL.out]) (aH3 HZL.out (fun i hi=>(World.cell?_alloc_lt (h:=hbi) ..).trans (HC.out i hi))) (aJK zs)
            o_ (by unfold maxLen;omega) o_ (by simp;omega) (wr.heap.size+1) (by simp) ?_;intro g1 cap1 w1 hown1 hgrow1 hat1 hlt1;have hbw:=aFQ hgrow1;have HO1:=HO.out.below hbw lr_;have d1:=aG5 hbw c1 f1 l1;obtain⟨d2,d3,d4⟩:=d1;have HBW:=hd_ hbw;have HQ1:=hd_ HO1;have HW1:=hd_ hown1;have hsz:=hbw.size;clear hbw HO1 hown1 hgrow1)
        |(refine step_append_lies _ r_ _ _ _ r_ (w.heap.size+3) 23 i0 _ 1 24 underlying34 hi hz0 hz1 hz2 rfl o_ u qs.length _ r_ (HQ1.out.hdr.alloc _)
            ⟨w1.heap.size,0,none⟩ 1 1 [.slice (some ⟨g1,0,none⟩) 8 cap1] r_ r_ (World.news_of_block (cs:=#[.slice (some ⟨g1,0,none⟩) 8 cap1]) (t:=23) (fr:=(0,0)) (heap_alloc_new w1 _)) (by simp[Value.oneCell'])
            o_ (by unfold maxLen;omega) o_ (by simp;omega) (w1.heap.size+1) (by simp) ?_;intro gg cap2 w2 hown2 hgrow2 hat2 hlt2;have d5:=aKi d2 d3 d4 hgrow2 hub;obtain⟨d6,d7⟩:=d5)))
   all_goals
    have hg1:wr.heap.size<=g1:=by
     rcases hat1 with h|h
     ·simp[Value.ownBlock]at h;omega
     ·omega
    have fin:=aEh HZL.out HO.out HBW.out HW1.out hg1 hown2 hgrow2 hat2 HR.out HS.out o_ o_ o_ HB.out o_ lr_;have hbx:=aHO (x:=.slice (some ⟨gg,0,none⟩) (qs.length+1) cap2) HB0.out HBW.out hgrow2 HU0.out (show w.heap.size≠w.heap.size+2 by omega);have FIN:=hd_ fin;have HBX:=hd_ hbx;clear fin hbx hown2 hgrow2 hat2 hg1 hat1;go_wp2;go_roundw
    case rel=>
     obtain⟨G',C',q1,q2,q3,q4⟩:=FIN.out;exact⟨k+1,qs++[zs],_,G',C',o_,gn_,by rw[HQ.out,HZ.out];exact aHA _ _ _ (by rw[HL.out];exact hlt),q1,q2,q3,q4,HBX.out⟩
    case measure=>simp[intOf];omega
  ·obtain⟨s1,s2,s3⟩:=fK HS.out
   have h3:qs.length=3:=by rw[HN.out];omega
   obtain⟨g,cap',hu,hg1,hg2⟩:=World.ownsRow.form HO.out.hdr o_;subst hu;have e3:qs=rs:=by rw[HQ.out,List.take_of_length_le (by rw[HL.out];omega)]
   have hw:=HO.out.grown (aF wr ⟨w.heap.size+1,0,none⟩ (.slice (some ⟨g,0,none⟩) 3 cap')) (fun k e=>by simp at e;omega);have hb:=HB.out.setCell (p:=⟨w.heap.size+1,0,none⟩) (by simp) (.slice (some ⟨g,0,none⟩) 3 cap');rw[h3]at hw c1;rw[e3]at hw;have H1:=hd_ hw;have H2:=hd_ hb;have H3:=hd_ h3;clear hw hb h3 e3 hub hn3;go_wp2
   have hr:=World.cell?_setCell_same wr ⟨w.heap.size+1,0,none⟩ (.slice (some ⟨g,0,none⟩) 3 cap') s1;exact bodyPost_ret (v:=.agg #[.slice (some ⟨g,0,none⟩) 3 cap']) (by simp[results,results218,go_sem,hr]) rfl ⟨_,G,C,rfl,H1.out.base o_,H2.out⟩
theorem aGS (w:World) (u:Value) (rs:List (List Int)) (h:Rws w u rs) (hok:okB rs=true):
  Calls prog 218 #[.agg #[u]] w fun e w'=>∃x c G C,e=.returned (.agg #[.slice x 3 c])/\dP w' w.heap.size (.slice x 3 c) rs G C/\Below w.heap.size w w':=by
 obtain⟨h3,hg⟩:=(fM rs).1 hok;obtain⟨b,o,cap,rfl,_,hb,hrow⟩:=tI h hok;refine (aFJ b o cap rs w h3 (fun i hi=>(hg i hi).1) hb hrow).mono fun e w' ⟨u',G,C,he,ho,hb'⟩=>?_
 obtain⟨⟨x,c,hx⟩,_⟩:=ho.rws.cases;rw[h3]at hx;subst hx;exact⟨x,c,G,C,he,ho,hb'⟩
end Go.Proofs.YtcblbdpdbggkbaaGreat
namespace Go.Proofs.YtcblbdpdbggkbaaGreat
open _root_.Go.Proofs.Tryz
open Go.RowKit Go.Sort
def qU (rs:List (List Int)) (t n:Int) (i:Nat):List Int:=(rs.getD i []).set (oR i t).toNat (atV rs i t+n)
def wM (rs:List (List Int)) (t n:Int):List (List Int):=[qU rs t n 0,qU rs t n 1,qU rs t n 2]
def oL (rs:List (List Int)) (t n:Int):Bool:=okB rs&&decide (0<=t)&&decide (t<64)&&decide (0<=n)&&decide (n<=2000 - dD rs)
theorem kS (rs:List (List Int)) (t n:Int):oL rs t n=true↔okB rs=true/\0<=t/\t<64/\0<=n/\n<=2000 - dD rs:=by
 simp[oL,and_assoc]
theorem aDK (rs:List (List Int)) (t n:Int) (i:Nat) (hi:i<3):(wM rs t n).getD i []=qU rs t n i:=by
 exact zBK
theorem aBd {rs qs:List (List Int)} (h:rs.length=3) (h':qs.length=3) (e:∀i,i<3->rs.getD i []=qs.getD i []):rs=qs:=by
 have:=iH (d:=[]) h h' e;simpa using this
theorem aIE (w:World) (u:Value) (rs:List (List Int)) (t n:Int) (h:Rws w u rs) (hno:oL rs t n=false):
  Calls prog 310 #[.agg #[u],iv t,iv n] w fun e w'=>e=.returned (.tuple #[.agg #[zn],.bool false])/\Below w.heap.size w w':=by
 have hA:=((Below.refl w.heap.size w).alloc lr_ (.cells #[u] 36)).alloc (by simp) (.cells #[zn] 36);have K:=hd_ (xC u rs _ (h.below hA lr_));have HA:=hd_ hA;clear hA;cases hok:okB rs with
 |false=>
  rw[hok]at K;obtain⟨⟨x,c,hx⟩,_⟩:=h.cases;obtain⟨m,hn⟩:=nm_ rs.length;rw[<-hn]at hx;subst hx;clear h hn hok hno;go_enter func310,ntmps310
  go_wp2_with fail
  refine K.out.mono ?_;rintro e w1 ⟨rfl,hb1⟩;have sz:=hb1.size;simp only[World.size_alloc]at sz;have cb:w1.cell? ⟨w.heap.size+1,0,none⟩=some (.slice none 0 0):=by rw[hb1.cell (by simp)];simp[go_sem]
  have fb:w1.frozen? ⟨w.heap.size+1,0,none⟩=false:=by rw[hb1.frozen (by simp)];simp[go_sem]
  have L:=hd_ (HA.out.trans (hb1.mono HA.out.size));clear hb1;go_wp2;exact zAt
 |true=>
  rw[hok]at K;obtain⟨b,o,cap,rfl,hcap,hb,hrow⟩:=tI h hok;obtain⟨b0,o0,c0,e0,l0,r0⟩:=hrow 0 o_;obtain⟨_,hg⟩:=(fM rs).1 hok;have fin:Hid (dD rs=(rs.getD 0 []).sum):=if_pos hok;obtain⟨g8,gr,_,_⟩:=hg 0 o_;have av:=oU hok;generalize rs.getD 0 []=z0 at g8 gr fin r0;obtain⟨S,hS⟩:=nm_ (dD rs);rw[<-hS]at av fin;have hno':(t<0\/63<t)\/(0<=t/\t<=63/\(n<0\/2000 - S<n)):=by
   apply Classical.byContradiction;intro hh;have:oL rs t n=true:=(kS rs t n).2 ⟨hok,o_,o_,o_,by rw[<-hS];omega⟩;rw[this]at hno;cases hno
  have G8:=hd_ g8;have GR:=hd_ gr;have e0':w.cell? ⟨b,o,none⟩=some (.slice (some ⟨b0,o0,none⟩) 8 c0):=e0;have R0:=hd_ r0;clear h hrow hok hg g8 gr e0 r0 hno hS;rcases hno' with ht|⟨t0,t1,hn⟩
  ·go_enter func310,ntmps310
   go_wp2_with fail
   refine K.out.mono ?_;rintro e w1 ⟨rfl,hb1⟩;have sz:=hb1.size;simp only[World.size_alloc]at sz;have cb:w1.cell? ⟨w.heap.size+1,0,none⟩=some (.slice none 0 0):=by rw[hb1.cell (by simp)];simp[go_sem]
   have fb:w1.frozen? ⟨w.heap.size+1,0,none⟩=false:=by rw[hb1.frozen (by simp)];simp[go_sem]
   have L:=hd_ (HA.out.trans (hb1.mono HA.out.size));clear hb1
   go_wp2_with (go_at_call 66;refine (fZ _ _ _ _ ht).mono ?_;rintro e w' ⟨rfl,rfl⟩)
   exact zAt
  ·go_enter func310,ntmps310
   go_wp2_with fail
   refine K.out.mono ?_;rintro e w1 ⟨rfl,hb1⟩;have sz:=hb1.size;simp only[World.size_alloc]at sz;have cb:w1.cell? ⟨w.heap.size+1,0,none⟩=some (.slice none 0 0):=by rw[hb1.cell (by simp)];simp[go_sem]
   have ca:w1.cell? ⟨w.heap.size,0,none⟩=some (.slice (some ⟨b,o,none⟩) 3 cap):=by rw[hb1.cell (by simp;omega)];simp[go_sem]
   have fb:w1.frozen? ⟨w.heap.size+1,0,none⟩=false:=by rw[hb1.frozen (by simp)];simp[go_sem]
   have hL:=HA.out.trans (hb1.mono HA.out.size);rw[<-hL.cell (p:=⟨b,o,none⟩) hb]at e0';have KC:Hid (Calls prog 224 #[.slice (some ⟨b0,o0,none⟩) 8 c0] w1 fun e w'=>e=.returned (iv S)/\w1=w'):=by
    exact zBp
   have L:=hd_ hL;clear hb1 hL
   go_wp2_with (go_at_call 66;refine (aS _ _ _ _ t0 t1).mono ?_;rintro e w' ⟨rfl,rfl⟩;clear t1)
   refine KC.out.mono ?_;rintro e w' ⟨rfl,rfl⟩
   go_wp2_with (go_at_call 66;refine (fZ _ _ _ _ hn).mono ?_;rintro e w' ⟨rfl,rfl⟩)
   exact zAt
theorem dP.hdrCell {w:World} {B g c n:Nat} {rs:List (List Int)} {G C:Nat->Nat} (h:dP w B (.slice (some ⟨g,0,none⟩) n c) rs G C) (hn:rs.length=n) (i:Nat) (hi:i<n):
  w.cell? ⟨g,i,none⟩=some (.slice (some ⟨G i,0,none⟩) (rs.getD i []).length (C i)):=by
 have hh:=h.hdr;rw[hn]at hh;have:=hh.cellAt i o_;rw[this,List.getElem?_map,List.getElem?_range hi]
 rfl
theorem dP.rowCell {w:World} {B:Nat} {u:Value} {rs:List (List Int)} {G C:Nat->Nat} (h:dP w B u rs G C) (i k:Nat) (hi:i<rs.length) (hk:k<(rs.getD i []).length):
  w.cell? ⟨G i,k,none⟩=some (.int .i64 ((rs.getD i []).getD k 0))/\w.frozen? ⟨G i,k,none⟩=false:=by
 have hr:=h.row i hi;exact⟨by rw[World.ownsRow.cellAt hr k o_,kU _ _ hk],World.ownsRow.frozenAt hr k⟩
theorem aHc (w:World) (u:Value) (rs:List (List Int)) (t n:Int) (h:Rws w u rs) (hyes:oL rs t n=true):
  Calls prog 310 #[.agg #[u],iv t,iv n] w fun e w'=>∃x c G C,e=.returned (.tuple #[.agg #[.slice x 3 c],.bool true])/\dP w' w.heap.size (.slice x 3 c) (wM rs t n) G C/\Below w.heap.size w w':=by
 obtain⟨hok,t0,t1,n0,n1⟩:=(kS rs t n).1 hyes;have hA:=((Below.refl w.heap.size w).alloc lr_ (.cells #[u] 36)).alloc (by simp) (.cells #[zn] 36);have K:=hd_ (xC u rs _ (h.below hA lr_));have HA:=hd_ hA;rw[hok]at K;have HRW:=hd_ h;obtain⟨b,o,cap,rfl,hcap,hb,hrow⟩:=tI h hok;obtain⟨b0,o0,c0,e0,l0,r0⟩:=hrow 0 o_;obtain⟨h3,hg⟩:=(fM rs).1 hok
 have fin:Hid (dD rs=(rs.getD 0 []).sum):=if_pos hok;obtain⟨g8,gr,_,_⟩:=hg 0 o_;have av:=oU hok;have HG:=hd_ hg;have H3:=hd_ h3;have HOK:=hd_ hok;have t1':t<=63:=o_;generalize hz:rs.getD 0 []=z0 at g8 gr fin r0;clear hz;obtain⟨S,hS⟩:=nm_ (dD rs);rw[<-hS]at av fin n1;have nU:n<=2000:=o_;have G8:=hd_ g8;have GR:=hd_ gr;have e0':w.cell? ⟨b,o,none⟩=some (.slice (some ⟨b0,o0,none⟩) 8 c0):=e0
 have R0:=hd_ r0;clear h hrow hok hg g8 gr e0 r0 hS hyes hA h3;go_enter func310,ntmps310
 go_wp2_with fail
 refine K.out.mono ?_;rintro e w1 ⟨rfl,hb1⟩;have sz:=hb1.size;simp only[World.size_alloc]at sz;have cb:w1.cell? ⟨w.heap.size+1,0,none⟩=some (.slice none 0 0):=by rw[hb1.cell (by simp)];simp[go_sem]
 have ca:w1.cell? ⟨w.heap.size,0,none⟩=some (.slice (some ⟨b,o,none⟩) 3 cap):=by rw[hb1.cell (by simp;omega)];simp[go_sem]
 have fb:w1.frozen? ⟨w.heap.size+1,0,none⟩=false:=by rw[hb1.frozen (by simp)];simp[go_sem]
 have hL:=HA.out.trans (hb1.mono HA.out.size);rw[<-hL.cell (p:=⟨b,o,none⟩) hb]at e0';have KC:Hid (Calls prog 224 #[.slice (some ⟨b0,o0,none⟩) 8 c0] w1 fun e w'=>e=.returned (iv S)/\w1=w'):=by
  exact zBp
 have KCopy:=hd_ (aGS w1 _ rs (HRW.out.below hL lr_) HOK.out);have L:=hd_ hL;clear hb1 hL
 go_wp2_with (go_at_call 66;refine (aS _ _ _ _ t0 t1').mono ?_;rintro e w' ⟨rfl,rfl⟩;clear t1')
 refine KC.out.mono ?_;rintro e w' ⟨rfl,rfl⟩
 go_wp2_with (go_at_call 66;refine (aS _ _ _ _ n0 n1).mono ?_;rintro e w' ⟨rfl,rfl⟩;clear n1)
 go_wp2_with fail
 refine KCopy.out.mono ?_;rintro e w2 ⟨x,c,G,C,rfl,ho,hb2⟩;obtain⟨g,c',hu,hg1,hg2⟩:=World.ownsRow.form ho.hdr (by rw[H3.out];omega);rw[H3.out]at hu;obtain⟨rfl,rfl⟩:x=some ⟨g,0,none⟩/\c=c':=by simpa using hu
 clear hu;have cb2:=cell_later hb2 cb;have fb2:w2.frozen? ⟨w.heap.size+1,0,none⟩=false:=by rw[hb2.frozen (p:=⟨w.heap.size+1,0,none⟩) (by simp;omega)];exact fb
 have sz2:=hb2.size;have L2:=hd_ (L.out.trans (hb2.mono L.out.size));have HO2:=hd_ ho;clear ho hb2 cb fb ca e0';have hz:=fun (i:Nat) (hi:i<3)=>(HG.out i hi).1
 have H8:=hd_ hz;have AB:=hd_ (fun (i:Nat) (hi:i<3)=>aLX HOK.out i hi t);clear hz;go_wp2;go_loopw [9] (fun i wr=>∃(k:Nat) (qs:List (List Int)),k<=3/\i=.int .i64 k/\qs.length=3/\(∀j,j<3->qs.getD j []=if j<k then qU rs t n j else rs.getD j [])/\
      dP wr w1.heap.size (.slice (some ⟨g,0,none⟩) 3 c) qs G C/\wr.cell? ⟨w2.heap.size,0,none⟩=some (.slice (some ⟨g,0,none⟩) 3 c)/\
      wr.cell? ⟨w.heap.size+1,0,none⟩=some (.slice none 0 0)/\wr.frozen? ⟨w.heap.size+1,0,none⟩=false/\Below w.heap.size w wr/\w2.heap.size<wr.heap.size) (fun i _=>3 - (intOf i).toNat)
 case atStart=>
  have l1:w.heap.size+1<w2.heap.size:=o_;exact⟨0,rs,Nat.zero_le _,rfl,H3.out,fun j hj=>by simp,HO2.out.below ((Below.refl _ _).alloc lr_ _) lr_,by simp,by rw[World.cell?_alloc_past _ _ _ l1];exact cb2,
      by rw[World.frozen?_alloc_past _ _ _ l1];exact fb2,L2.out.alloc L2.out.size _,by simp⟩
 case round=>
  obtain⟨k,qs,hk,rfl,hq3,hqs,hown,hbox,cr,fr,hbl,hlt2⟩:=hrel;have HQ3:=hd_ hq3;have HQ:=hd_ hqs;have HO:=hd_ hown;have HB:=hd_ hbl;clear hq3 hqs hown hbl
  by_cases hlt:k<3
  ·obtain⟨P,hP,hP8,hPn⟩:=lG (k:Int) t
   have hqk:qs.getD k []=rs.getD k []:=by rw[HQ.out k hlt,if_neg o_]
   have hc1:=HO.out.hdrCell HQ3.out k hlt;rw[hqk,H8.out k hlt]at hc1;have hc2:=HO.out.rowCell k P (by rw[HQ3.out];exact hlt) (by rw[hqk,H8.out k hlt];exact hP8);have ha:(qs.getD k []).getD P 0=atV rs k t:=by rw[hqk];unfold atV;rw[hPn]
   rw[ha]at hc2;obtain⟨a0,a1⟩:=AB.out k hlt;have K1:Hid (∀W,Calls prog 320 #[iv k,iv t] W fun e w'=>e=.returned (iv P)/\Below W.heap.size W w'):=fun W=>by
    rw[<-hP];exact aDO k t W o_ o_ t0 t1
   have hst:∀w4:World,Below wr.heap.size wr w4->∃qs',qs'.length=3/\(∀j,j<3->qs'.getD j []=if j<k+1 then qU rs t n j else rs.getD j [])/\
     dP (w4.setCell ⟨G k,P,none⟩ (iv (atV rs k t+n))) w1.heap.size (.slice (some ⟨g,0,none⟩) 3 c) qs' G C/\w4.grownBy (w4.setCell ⟨G k,P,none⟩ (iv (atV rs k t+n))) (some (G k)):=fun w4 hw4=>by
    have q:=(HO.out.below hw4 lr_).store k P (atV rs k t+n) (by rw[HQ3.out];exact hlt) (by rw[hqk,H8.out k hlt];exact hP8);refine⟨_,by simpa using HQ3.out,fun j hj=>?_,q.1,q.2⟩
    by_cases e:j=k
    ·subst e
     rw[if_pos o_];unfold qU;rw[hPn,hqk];simp[HQ3.out,hlt]
    ·have e1:(qs.set k ((qs.getD k []).set P (atV rs k t+n))).getD j []=qs.getD j []:=by simp[Ne.symm e]
     rw[e1,HQ.out j hj]
     by_cases e2:j<k
     ·rw[if_pos e2,if_pos o_]
     ·rw[if_neg e2,if_neg o_]
   have HST:=hd_ hst;have HGk:Hid (w1.heap.size<=G k/\G k<w2.heap.size):=⟨((HO.out.row k (by rw[HQ3.out];exact hlt)).lt (G k) rfl).1,((HO2.out.row k (by rw[H3.out];exact hlt)).lt (G k) rfl).2⟩
   obtain⟨a,hA⟩:=nm_ (atV rs k t);rw[<-hA]at hc2 HST a0 a1;obtain⟨hc2,hf2⟩:=hc2;have lgk:G k<wr.heap.size:=World.block_lt_of_cell? _ _ hc2;have rb:=cell_regrown hbox;have r1:=cell_regrown hc1;have r2:=cell_regrown hc2;have k0:(0:Int)<=(k:Int):=o_;have k3:(k:Int)<3:=o_;have P8:(P:Int)<8:=o_;have wr1:IntKind.i64.wrap (a+n)=a+n:=IntWalk.i64_in _ o_;clear hP hPn hst hA ha hqk hP8;go_wp2
   refine kE (C:=fun w'=>∃p:Regrown,w'=grow (redrawn wr p.d) p.os) 21 _ rfl rfl rfl kr_ kr_ kr_ kr_ kr_ ⟨⟨wr.drawn+1,#[]⟩,by rw[grow_empty];rfl⟩ ?_;simp only[List.take_succ_cons,List.take_zero]
   repeat (refine dX (fun K hK=>?_);go_simp;first|(refine hK _ ?_;clear hK K)|(apply Exists.intro;refine⟨fun _=>?_,hK _ ?_⟩;(exact Calls.regrown_of (K1.out _));clear hK K))
   refine fF ?_;intro _ hw';obtain⟨⟨dq,oq⟩,hw''⟩:=hw';subst hw'';have hb_w4:=below_regrown wr dq oq;obtain⟨w4,hq_w4⟩:=nm_ (grow (redrawn wr dq) oq);rw[<-hq_w4]at hb_w4 ⊢;clear hq_w4;have d1:=cell_later hb_w4 hc2;have d2:w4.frozen? ⟨G k,P,none⟩=false:=by rw[hb_w4.frozen (p:=⟨G k,P,none⟩) lgk];exact hf2
   have HB4:=hd_ hb_w4;clear hb_w4 rb r1 r2 wr1 hc1 hc2;go_wp2;go_roundw
   case rel=>
    obtain⟨qs',q1,q2,q3,q4⟩:=HST.out w4 HB4.out;have lw2:w2.heap.size<w4.heap.size:=by have:=HB4.out.size;omega
    have e2:G k≠w2.heap.size:=by have:=HGk.out.2;omega
    have e1:G k≠w.heap.size+1:=by have:=HGk.out.1;omega
    refine⟨k+1,qs',o_,gn_,q1,q2,q3,?_,?_,?_,?_,by simpa using lw2⟩
    ·exact (World.cell?_setCell_other (h:=fun h=>by injection h with h;exact e2 h) ..).trans (cell_later HB4.out hbox)
    ·exact (World.cell?_setCell_other (h:=fun h=>by injection h with h;exact e1 h) ..).trans (cell_later HB4.out cr)
    ·rw[World.frozen?_setCell,HB4.out.frozen (p:=⟨w.heap.size+1,0,none⟩) (by simp;omega)];exact fr
    ·exact (HB.out.trans (HB4.out.mono HB.out.size)).setCell (by have:=HGk.out.1;simp;omega) _
   case measure=>simp[intOf];omega
  ·have hq:qs=wM rs t n:=aBd HQ3.out rfl (fun i hi=>by rw[HQ.out i hi,if_pos o_,aDK _ _ _ _ hi])
   have HE:=hd_ hq;clear hq;go_wp2;have hr:=World.cell?_setCell_same wr ⟨w.heap.size+1,0,none⟩ (.slice (some ⟨g,0,none⟩) 3 c) cr;have hw:=HO.out.grown (aF wr ⟨w.heap.size+1,0,none⟩ (.slice (some ⟨g,0,none⟩) 3 c)) (fun k e=>by simp at e;omega);rw[HE.out]at hw
   exact bodyPost_ret (v:=.tuple #[.agg #[.slice (some ⟨g,0,none⟩) 3 c],.bool true]) (by simp[results,results310,go_sem,hr]) rfl
    ⟨_,_,G,C,rfl,hw.base o_,HB.out.setCell (by simp) _⟩
def gK (x y:List Int):List Int:=(List.range 8).map fun k=>x.getD k 0+y.getD k 0
def gO (ra rb:List (List Int)):List (List Int):=[gK (ra.getD 0 []) (rb.getD 0 []),gK (ra.getD 1 []) (rb.getD 1 []),gK (ra.getD 2 []) (rb.getD 2 [])]
def kZ (ra rb:List (List Int)):Bool:=okB ra&&okB rb&&decide (dD ra+dD rb<=2000)
theorem nG (ra rb:List (List Int)):kZ ra rb=true↔okB ra=true/\okB rb=true/\dD ra+dD rb<=2000:=by simp[kZ,and_assoc]
theorem nH (ra rb:List (List Int)) (i:Nat) (hi:i<3):(gO ra rb).getD i []=gK (ra.getD i []) (rb.getD i []):=by
 exact zBK
theorem mC (x y:List Int):(gK x y).length=8:=by simp[gK]
theorem eF (x y:List Int) (k:Nat) (h:k<8):(gK x y).getD k 0=x.getD k 0+y.getD k 0:=by
 simp only[gK,List.getD_eq_getElem?_getD,List.getElem?_map,List.getElem?_range h,Option.map_some,Option.getD_some]
theorem aBs {rs:List (List Int)} (h:okB rs=true):(rs.getD 0 []).sum=dD rs:=(if_pos h).symm
theorem aLr (a b:Int) (w:World) (h: -1000000<=a/\a<=1000000) (h': -1000000<=b/\b<=1000000):
  Calls prog 285 #[iv a,iv b] w fun e w'=>e=.returned (iv (a+b))/\w=w':=by
 obtain⟨h1,h2⟩:=h;obtain⟨h3,h4⟩:=h';go_enter func285,ntmps285;go_wp2;go_ret;exact⟨rfl,rfl⟩
theorem aDt (w:World) (F:Value) (b o c b' o' c':Nat) (x y:List Int) (hF:F=.func (.func 285) #[] #[]) (hb:b<w.heap.size) (hb':b'<w.heap.size)
  (hx:∀k,k<8->(0<=x.getD k 0/\x.getD k 0<=2000)/\w.cell? ⟨b,o+k,none⟩=some (.int .i64 (x.getD k 0)))
  (hy:∀k,k<8->(0<=y.getD k 0/\y.getD k 0<=2000)/\w.cell? ⟨b',o'+k,none⟩=some (.int .i64 (y.getD k 0))):
  Calls prog 284 #[.slice (some ⟨b,o,none⟩) 8 c,.slice (some ⟨b',o',none⟩) 8 c',F] w fun e w'=>
   e=.returned (.slice (some ⟨w.heap.size,0,none⟩) 8 8)/\w'.ownsRow w.heap.size 3 1 (.slice (some ⟨w.heap.size,0,none⟩) 8 8) 8 (cC (gK x y))/\Below w.heap.size w w':=by
 have m8:=aJ2;have HX:=hd_ hx;have HY:=hd_ hy;subst hF;clear hx hy;go_enter func284,ntmps284;go_wp2;go_loopw [14] (fun i wr=>∃(m:Nat) (zs:List Int),m<=8/\i=.int .i64 m/\zs.length=8/\(∀p,p<8->zs.getD p 0=if p<m then x.getD p 0+y.getD p 0 else 0)/\
      wr.ownsRow w.heap.size 3 1 (.slice (some ⟨w.heap.size,0,none⟩) 8 8) 8 (cC zs)/\Below w.heap.size w wr/\w.heap.size<wr.heap.size) (fun i _=>8 - (intOf i).toNat)
 case atStart=>
  have h0:=tE w w.heap.size gP lr_ (by simp[gP,maxLen]);refine⟨0,gP,Nat.zero_le _,rfl,rfl,fun p hp=>?_,h0,(Below.refl _ _).alloc lr_ _,by simp⟩;rcases (by omega:p=0\/p=1\/p=2\/p=3\/p=4\/p=5\/p=6\/p=7)with rfl|rfl|rfl|rfl|rfl|rfl|rfl|rfl<;>rfl
 case round=>
  obtain⟨m,zs,hm,rfl,hl,hz,hown,hbl,hlt⟩:=hrel;have HL:=hd_ hl;have HZ:=hd_ hz;have HO:=hd_ hown;have HB:=hd_ hbl;clear hl hz hown hbl
  by_cases hmt:m<8
  ·obtain⟨⟨x0,x1⟩,xc⟩:=HX.out m hmt
   obtain⟨⟨y0,y1⟩,yc⟩:=HY.out m hmt;rw[<-HB.out.cell (p:=⟨b,o+m,none⟩) hb]at xc;rw[<-HB.out.cell (p:=⟨b',o'+m,none⟩) hb']at yc;obtain⟨v,hc⟩:∃v,wr.cell? ⟨w.heap.size,m,none⟩=some v:=by
    rw[HO.out.cellAt m o_];exact⟨_,kU _ _ (by rw[HL.out];exact hmt)⟩
   have hf:=HO.out.frozenAt m;obtain⟨a,hA⟩:=nm_ (x.getD m 0);obtain⟨d,hD⟩:=nm_ (y.getD m 0);rw[<-hA]at xc x0 x1;rw[<-hD]at yc y0 y1;have KP:Hid (∀W,Calls prog 285 #[iv a,iv d] W fun e w'=>e=.returned (iv (a+d))/\Below W.heap.size W w'):=fun W=>
    (aLr a d W o_ o_).mono fun _ _ ⟨he,hw⟩=>⟨he,by subst hw;exact Below.refl _ _⟩
   have hst:∀w4:World,Below wr.heap.size wr w4->∃zs',zs'.length=8/\(∀p,p<8->zs'.getD p 0=if p<m+1 then x.getD p 0+y.getD p 0 else 0)/\
     (w4.setCell ⟨w.heap.size,m,none⟩ (iv (a+d))).ownsRow w.heap.size 3 1 (.slice (some ⟨w.heap.size,0,none⟩) 8 8) 8 (cC zs'):=fun w4 hw4=>by
    have h1:=HO.out.kept (dH (row:=none) hw4) (.inr (by simp[Value.ownBlock]));have h2:=(h1.stored m (iv (a+d))).1;refine⟨zs.set m (a+d),by simpa using HL.out,fun p hp=>?_,by simpa[cC,List.map_set]using h2⟩
    by_cases e:p=m
    ·subst e
     rw[if_pos o_,hA,hD,List.getD_eq_getElem?_getD,List.getElem?_set_self (by rw[HL.out];exact hp)]
     rfl
    ·have e1:(zs.set m (a+d)).getD p 0=zs.getD p 0:=by simp[Ne.symm e]
     rw[e1,HZ.out p hp]
     by_cases e2:p<m
     ·rw[if_pos e2,if_pos o_]
     ·rw[if_neg e2,if_neg o_]
   have HST:=hd_ hst;have rb1:=cell_regrown xc;have rb2:=cell_regrown yc;have m0:(0:Int)<=(m:Int):=o_;have m8':(m:Int)<8:=o_;clear hst hA hD;go_wp2;refine kE (C:=fun w'=>∃p:Regrown,w'=grow (redrawn wr p.d) p.os) 13 _ rfl rfl rfl kr_ kr_ kr_ kr_ kr_ ⟨⟨wr.drawn+1,#[]⟩,by rw[grow_empty];rfl⟩ ?_
   simp only[List.take_succ_cons,List.take_zero]
   repeat (refine dX (fun K hK=>?_);go_simp;first|(refine hK _ ?_;clear hK K)|(apply Exists.intro;refine⟨fun _=>?_,hK _ ?_⟩;(with_reducible exact Calls.regrown_of (KP.out _));clear hK K))
   refine fF ?_;intro _ hw';obtain⟨⟨dq,oq⟩,hw''⟩:=hw';subst hw'';have hb_w4:=below_regrown wr dq oq;obtain⟨w4,hq_w4⟩:=nm_ (grow (redrawn wr dq) oq);rw[<-hq_w4]at hb_w4 ⊢;clear hq_w4;have d1:=cell_later hb_w4 hc;have d2:w4.frozen? ⟨w.heap.size,m,none⟩=false:=by rw[hb_w4.frozen (p:=⟨w.heap.size,m,none⟩) hlt];exact hf
   have HB4:=hd_ hb_w4;clear hb_w4 rb1 rb2 hc xc yc;go_wp2;go_roundw
   case rel=>
    obtain⟨zs',q1,q2,q3⟩:=HST.out w4 HB4.out;exact⟨m+1,zs',o_,gn_,q1,q2,q3,(HB.out.trans (HB4.out.mono HB.out.size)).setCell lr_ _,by have:=HB4.out.size;simp;omega⟩
   case measure=>simp[intOf];omega
  ·obtain rfl:m=8:=o_
   have fin:Hid (zs=gK x y):=by
    have:=iH (d:=0) HL.out (mC x y) (fun p hp=>by rw[HZ.out p hp,if_pos hp,eF _ _ _ hp]);exact (of_decide_eq_true this:zs=gK x y)
   go_wp2;go_ret;have ho:=HO.out;rw[fin.out]at ho;exact⟨rfl,ho,HB.out⟩
theorem aBw (w:World) (b o c b' o' c':Nat) (x y:List Int) (hb:b<w.heap.size) (hb':b'<w.heap.size)
  (hx:∀k,k<8->(0<=x.getD k 0/\x.getD k 0<=2000)/\w.cell? ⟨b,o+k,none⟩=some (.int .i64 (x.getD k 0)))
  (hy:∀k,k<8->(0<=y.getD k 0/\y.getD k 0<=2000)/\w.cell? ⟨b',o'+k,none⟩=some (.int .i64 (y.getD k 0))):
  Calls prog 248 #[.slice (some ⟨b,o,none⟩) 8 c,.slice (some ⟨b',o',none⟩) 8 c'] w fun e w'=>
   e=.returned (.slice (some ⟨w.heap.size,0,none⟩) 8 8)/\w'.ownsRow w.heap.size 3 1 (.slice (some ⟨w.heap.size,0,none⟩) 8 8) 8 (cC (gK x y))/\Below w.heap.size w w':=by
 have K:=hd_ (aDt w _ b o c b' o' c' x y rfl hb hb' hx hy);clear hx hy;go_enter func248,ntmps248
 go_wp2_with fail
 refine K.out.mono ?_;rintro e w1 ⟨rfl,ho,hb1⟩;go_wp2;go_ret;exact⟨rfl,ho,hb1⟩
structure aCi (w:World) (L:Nat) (ra rb:List (List Int)) (m:Nat) (G:Nat->Nat):Prop where
 hdr:∃cur,w.heap[L]? =some (.cells cur 23 (0,0))/\cur.size=3/\∀j,j<m->cur[j]? =some (.slice (some ⟨G j,0,none⟩) 8 8)
 row:∀j,j<m->w.ownsRow (L+1) 3 1 (.slice (some ⟨G j,0,none⟩) 8 8) 8 (cC (gK (ra.getD j []) (rb.getD j [])))
 apart:∀i j,i<m->j<m->i≠j->G i≠G j
theorem aCi.own {w:World} {L:Nat} {ra rb:List (List Int)} {G:Nat->Nat} (h:aCi w L ra rb 3 G):dP w L (.slice (some ⟨L,0,none⟩) 3 3) (gO ra rb) G (fun _=>8):=by
 obtain⟨cur,h1,h2,h3⟩:=h.hdr;have l8:∀i,i<3->((gO ra rb).getD i []).length=8:=fun i hi=>by rw[nH _ _ _ hi,mC]
 refine⟨⟨by simp[gO],.inr ⟨L,3,cur,rfl,Nat.le_refl _,h1,by simp[gO],by simp[maxLen],by simpa using h2,?_⟩⟩,fun i hi=>?_,fun i hi=>?_,fun i j hi hj=>h.apart i j hi hj⟩
 ·apply List.ext_getElem?
  intro i
  by_cases hi:i<3
  ·have e:oK (gO ra rb) G (fun _=>8) i=.slice (some ⟨G i,0,none⟩) 8 8:=by unfold oK;rw[l8 i hi]
   rw[List.getElem?_map,List.getElem?_range (by simpa[gO]using hi),List.getElem?_take,if_pos (by simp[gO];omega)];simp only[Array.getElem?_toList,Option.map_some,e];exact h3 i hi
  ·rw[List.getElem?_eq_none (by simp[gO];omega),List.getElem?_eq_none (by simp[gO];omega)]
 ·have hi':i<3:=by simpa[gO]using hi
  have e:oK (gO ra rb) G (fun _=>8) i=.slice (some ⟨G i,0,none⟩) 8 8:=by unfold oK;rw[l8 i hi']
  rw[e,l8 i hi',nH _ _ _ hi'];exact aU (h.row i hi') o_
 ·have hi':i<3:=by simpa[gO]using hi
  have:=((h.row i hi').lt (G i) rfl).1;simp[Value.ownBlock];omega
theorem aCi.step {w w1:World} {L m g:Nat} {ra rb:List (List Int)} {G:Nat->Nat} (h:aCi w L ra rb m G) (hm:m<3) (hb:Below w.heap.size w w1) (hg:w.heap.size<=g) (hL:L<w.heap.size)
  (ho:w1.ownsRow (L+1) 3 1 (.slice (some ⟨g,0,none⟩) 8 8) 8 (cC (gK (ra.getD m []) (rb.getD m [])))):
  aCi (w1.setCell ⟨L,m,none⟩ (.slice (some ⟨g,0,none⟩) 8 8)) L ra rb (m+1) (fun j=>if j<m then G j else g):=by
 obtain⟨cur,h1,h2,h3⟩:=h.hdr;have h1':w1.heap[L]? =some (.cells cur 23 (0,0)):=by rw[hb.block L hL];exact h1
 have lt:∀j,j<m->G j<w.heap.size/\L+1<=G j:=fun j hj=>by have:=(h.row j hj).lt (G j) rfl;exact⟨this.2,this.1⟩
 have hgs:=aF w1 ⟨L,m,none⟩ (.slice (some ⟨g,0,none⟩) 8 8);refine⟨⟨_,heap_setCell_same w1 L m cur _ _ h1',by simpa using h2,fun j hj=>?_⟩,fun j hj=>?_,fun i j hi hj hij=>?_⟩
 ·rw[Array.getElem?_setIfInBounds]
  by_cases e:j<m
  ·rw[if_neg o_,if_pos e];exact h3 j e
  ·obtain rfl:j=m:=o_
   rw[if_pos rfl,if_pos o_,if_neg o_]
 ·by_cases e:j<m
  ·simp only[if_pos e]
   have:=(h.row j e).kept (dH (row:=none) hb) (.inr (by simp[Value.ownBlock]));exact this.kept hgs (.inr (by have:=(lt j e).2;simp[Value.ownBlock];omega))
  ·obtain rfl:j=m:=o_
   simp only[if_neg e];exact ho.kept hgs (.inr (by simp[Value.ownBlock];omega))
 ·show (if i<m then G i else g)≠(if j<m then G j else g)
  by_cases e1:i<m<;>by_cases e2:j<m
  ·rw[if_pos e1,if_pos e2];exact h.apart i j e1 e2 hij
  ·rw[if_pos e1,if_neg e2];have:=(lt i e1).1;omega
  ·rw[if_neg e1,if_pos e2];have:=(lt j e2).1;omega
  ·omega
theorem aFU {w w':World} {b i:Nat} (hb:Below w.heap.size w.drew w') (h:w.frozen? ⟨b,i,none⟩=false) (hl:b<w.heap.size):w'.frozen? ⟨b,i,none⟩=false:=by
 rw[hb.frozen (p:=⟨b,i,none⟩) hl];exact h
theorem pH {w w':World} {B:Nat} (hb:Below B w.drew w'):Below B w w':=⟨hb.os,hb.tape,hb.output,hb.size,hb.block⟩
theorem aBD (w:World) (F:Value) (b o c b' o' c':Nat) (ra rb:List (List Int)) (hF:F=.func (.func 248) #[] #[]) (hb:b<w.heap.size) (hb':b'<w.heap.size)
  (ha:∀i,i<3->∃bi oi ci,w.cell? ⟨b,o+i,none⟩=some (.slice (some ⟨bi,oi,none⟩) 8 ci)/\bi<w.heap.size/\∀k,k<8->w.cell? ⟨bi,oi+k,none⟩=some (.int .i64 ((ra.getD i []).getD k 0)))
  (hr:∀i,i<3->∃bi oi ci,w.cell? ⟨b',o'+i,none⟩=some (.slice (some ⟨bi,oi,none⟩) 8 ci)/\bi<w.heap.size/\∀k,k<8->w.cell? ⟨bi,oi+k,none⟩=some (.int .i64 ((rb.getD i []).getD k 0)))
  (ga:∀i,i<3->∀k,k<8->0<=(ra.getD i []).getD k 0/\(ra.getD i []).getD k 0<=2000) (gb:∀i,i<3->∀k,k<8->0<=(rb.getD i []).getD k 0/\(rb.getD i []).getD k 0<=2000):
  Calls prog 247 #[.slice (some ⟨b,o,none⟩) 3 c,.slice (some ⟨b',o',none⟩) 3 c',F] w fun e w'=>
   ∃G,e=.returned (.slice (some ⟨w.heap.size,0,none⟩) 3 3)/\dP w' w.heap.size (.slice (some ⟨w.heap.size,0,none⟩) 3 3) (gO ra rb) G (fun _=>8)/\Below w.heap.size w w':=by
 have m3:=aLA;have HA:=hd_ ha;have HR:=hd_ hr;have GA:=hd_ ga;have GB:=hd_ gb;subst hF;clear ha hr ga gb;go_enter func247,ntmps247;go_wp2;go_loopw [14] (fun i wr=>∃(m:Nat) (G:Nat->Nat),m<=3/\i=.int .i64 m/\aCi wr w.heap.size ra rb m G/\Below w.heap.size w wr/\w.heap.size<wr.heap.size) (fun i _=>3 - (intOf i).toNat)
 case atStart=>
  exact⟨0,fun _=>0,Nat.zero_le _,rfl,⟨⟨_,heap_alloc_new w _,rfl,fun j h=>absurd h (Nat.not_lt_zero j)⟩,fun j h=>absurd h (Nat.not_lt_zero j),fun i j h=>absurd h (Nat.not_lt_zero i)⟩,(Below.refl _ _).alloc lr_ _,by simp⟩
 case round=>
  obtain⟨m,G,hm,rfl,hrow,hbl,hlt⟩:=hrel;have HW:=hd_ hrow;have HB:=hd_ hbl;clear hrow hbl
  by_cases hmt:m<3
  ·obtain⟨b1,o1,c1,e1,l1,r1⟩:=HA.out m hmt
   obtain⟨b2,o2,c2,e2,l2,r2⟩:=HR.out m hmt;rw[<-HB.out.cell (p:=⟨b,o+m,none⟩) hb]at e1;rw[<-HB.out.cell (p:=⟨b',o'+m,none⟩) hb']at e2;have KC:Hid (Calls prog 248 #[.slice (some ⟨b1,o1,none⟩) 8 c1,.slice (some ⟨b2,o2,none⟩) 8 c2] wr.drew fun e w'=>
          e=.returned (.slice (some ⟨wr.heap.size,0,none⟩) 8 8)/\w'.ownsRow wr.heap.size 3 1 (.slice (some ⟨wr.heap.size,0,none⟩) 8 8) 8 (cC (gK (ra.getD m []) (rb.getD m [])))/\Below wr.heap.size wr.drew w'):=
    aBw wr.drew b1 o1 c1 b2 o2 c2 _ _ (by have:=HB.out.size;simp;omega) (by have:=HB.out.size;simp;omega)
     (fun k hk=>⟨GA.out m hmt k hk,by rw[World.cell?_drew,HB.out.cell (p:=⟨b1,o1+k,none⟩) l1];exact r1 k hk⟩)
     (fun k hk=>⟨GB.out m hmt k hk,by rw[World.cell?_drew,HB.out.cell (p:=⟨b2,o2+k,none⟩) l2];exact r2 k hk⟩)
   obtain⟨v,hc,hf⟩:∃v,wr.cell? ⟨w.heap.size,m,none⟩=some v/\wr.frozen? ⟨w.heap.size,m,none⟩=false:=by
    obtain⟨cur,h1,h2,_⟩:=HW.out.hdr;refine⟨cur[m]'o_,?_,by simp[World.frozen?,h1]⟩;simp[World.cell?,h1,show m<cur.size by omega]
   have m0:(0:Int)<=(m:Int):=o_;have m3':(m:Int)<3:=o_;clear r1 r2;go_wp2
   go_region_with (go_at_call 248;refine KC.out.mono ?_;rintro e w4 ⟨rfl,ho,hb4⟩;have d1:=cell_later (pH hb4) hc;have d2:=aFU hb4 hf hlt;have HO4:=hd_ ho;have HB4:=hd_ hb4;clear ho hb4)
   all_goals
    have hs:=HW.out.step hmt (pH HB4.out) lr_ hlt (aU HO4.out o_);have HS:=hd_ hs;clear hs;go_wp2;go_roundw
    case rel=>exact⟨m+1,_,o_,gn_,HS.out,(HB.out.trans ((pH HB4.out).mono HB.out.size)).setCell lr_ _,by have:=HB4.out.size;simp at this ⊢;omega⟩
    case measure=>simp[intOf];omega
  ·obtain rfl:m=3:=o_
   go_wp2;go_ret;exact⟨G,rfl,HW.out.own,HB.out⟩
theorem iX (w:World) (u:Value) (rs:List (List Int)) (h:Rws w u rs) (d:Nat) (os:Array Obj):
  Calls prog 84 #[.agg #[u]] (grow (redrawn w d) os) fun e w''=>e=.returned (iv (dD rs))/\∃p:Regrown,w''=grow (redrawn w p.d) p.os:=
 Calls.regrown_of (rY _ u rs (h.below (below_regrown w d os) lr_))
theorem aCc (ra rb:List (List Int)):kZ ra rb=true↔0<=dD ra/\0<=dD rb/\dD ra+dD rb<=2000:=by
 rw[nG]
 constructor
 ·rintro⟨h1,h2,h3⟩
  exact⟨(oU h1).1,(oU h2).1,h3⟩
 ·rintro⟨h1,h2,h3⟩
  refine⟨?_,?_,h3⟩
  ·cases h:okB ra with
   |true=>rfl
   |false=>rw[tC h]at h1;omega
  ·cases h:okB rb with
   |true=>rfl
   |false=>rw[tC h]at h2;omega
theorem aGM (rs:List (List Int)): -1<=dD rs/\dD rs<=2000:=by
 cases h:okB rs with
 |true=>have:=oU h;omega
 |false=>rw[tC h];omega
theorem aHx (w:World) (u v:Value) (ra rb:List (List Int)) (ha:Rws w u ra) (hb:Rws w v rb) (hno:kZ ra rb=false):
  Calls prog 195 #[.agg #[u],.agg #[v]] w fun e w'=>e=.returned (.tuple #[.agg #[zn],.bool false])/\Below w.heap.size w w':=by
 obtain⟨w0,hw0⟩:=nm_ (((w.alloc (.cells #[u] 36)).alloc (.cells #[v] 36)).alloc (.cells #[zn] 36));have hA:Below w.heap.size w w0:=by rw[hw0];exact (((Below.refl w.heap.size w).alloc lr_ _).alloc (by simp) _).alloc (by simp;omega) _
 have tb:=kP w (.cells #[u] 36) (.cells #[v] 36) (.cells #[zn] 36);rw[<-hw0]at tb;obtain⟨ca,_,la⟩:=fK tb.1;obtain⟨cb,_,lb⟩:=fK tb.2.1;obtain⟨cr,fr,lr⟩:=fK tb.2.2;have KA:=hd_ (iX w0 u ra (ha.below hA lr_));have KB:=hd_ (iX w0 v rb (hb.below hA lr_));have HA:=hd_ hA
 have hcase:dD ra<0\/(¬dD ra<0/\dD rb<0)\/(¬dD ra<0/\¬dD rb<0/\2000<dD ra+dD rb):=by
  apply Classical.byContradiction;intro hh;have:=(aCc ra rb).2 o_;rw[this]at hno;cases hno
 have b1:=aGM ra;have b2:=aGM rb;obtain⟨⟨x,c,hx⟩,_⟩:=ha.cases;obtain⟨⟨y,d,hy⟩,_⟩:=hb.cases;obtain⟨n,hn⟩:=nm_ ra.length;obtain⟨m,hm⟩:=nm_ rb.length;rw[<-hn]at hx;rw[<-hm]at hy;subst hx hy;generalize dD ra=Sa at *;generalize dD rb=Sb at *;clear ha hb hn hm hno hA tb;have ra':=cell_regrown ca;have rb':=cell_regrown cb;go_enter func195,ntmps195;go_wp2;rw[<-hw0];clear hw0
 refine fA kr_ kr_ ?_
 repeat (refine dX (fun K hK=>?_);go_simp;first|(refine hK _ ?_;clear hK K)|(apply Exists.intro;refine⟨fun _=>?_,hK _ ?_⟩;(first|(with_reducible exact KA.out _ _)|(with_reducible exact KB.out _ _));clear hK K))
 refine fF ?_;intro _ hw';obtain⟨⟨dq,oq⟩,hw''⟩:=hw';subst hw'';have hb_w1:=below_regrown w0 dq oq;obtain⟨w1,hq_w1⟩:=nm_ (grow (redrawn w0 dq) oq);rw[<-hq_w1]at hb_w1 ⊢;clear hq_w1;have cr1:=cell_later hb_w1 cr;have fr1:w1.frozen? ⟨w.heap.size+2,0,none⟩=false:=by rw[hb_w1.frozen (p:=⟨w.heap.size+2,0,none⟩) lr];exact fr
 have L1:=hd_ (HA.out.trans (hb_w1.mono HA.out.size));clear hb_w1 ra' rb';have hr:=hd_ (World.cell?_setCell_same w1 ⟨w.heap.size+2,0,none⟩ zn cr1);rcases hcase with h|⟨h,h2⟩|⟨h,h2,h3⟩
 all_goals
  go_wp2;have hr:=hr.out;exact bodyPost_ret (v:=.tuple #[.agg #[zn],.bool false]) (by simp[results,results195,go_sem,hr]) rfl ⟨rfl,L1.out.setCell (by simp;omega) _⟩
theorem aFY (w:World) (u v:Value) (ra rb:List (List Int)) (ha:Rws w u ra) (hb:Rws w v rb) (hyes:kZ ra rb=true):
  Calls prog 195 #[.agg #[u],.agg #[v]] w fun e w'=>∃x c G C,e=.returned (.tuple #[.agg #[.slice x 3 c],.bool true])/\dP w' w.heap.size (.slice x 3 c) (gO ra rb) G C/\Below w.heap.size w w':=by
 obtain⟨hoka,hokb,_⟩:=(nG ra rb).1 hyes;obtain⟨h1,h2,h3⟩:=(aCc ra rb).1 hyes;obtain⟨w0,hw0⟩:=nm_ (((w.alloc (.cells #[u] 36)).alloc (.cells #[v] 36)).alloc (.cells #[zn] 36));have hA:Below w.heap.size w w0:=by rw[hw0];exact (((Below.refl w.heap.size w).alloc lr_ _).alloc (by simp) _).alloc (by simp;omega) _
 have tb:=kP w (.cells #[u] 36) (.cells #[v] 36) (.cells #[zn] 36);rw[<-hw0]at tb;obtain⟨ca,_,la⟩:=fK tb.1;obtain⟨cb,_,lb⟩:=fK tb.2.1;obtain⟨cr,fr,lr⟩:=fK tb.2.2;have KA:=hd_ (iX w0 u ra (ha.below hA lr_));have KB:=hd_ (iX w0 v rb (hb.below hA lr_));have HA:=hd_ hA;obtain⟨_,hga⟩:=(fM ra).1 hoka;obtain⟨_,hgb⟩:=(fM rb).1 hokb
 obtain⟨ba,oa,ka,rfl,_,hba,hrowa⟩:=tI ha hoka;obtain⟨bb,ob,kb,rfl,_,hbb,hrowb⟩:=tI hb hokb;have GA:=hd_ (fun (i:Nat) (hi:i<3)=>(hga i hi).2.1);have GB:=hd_ (fun (i:Nat) (hi:i<3)=>(hgb i hi).2.1);have RA:=hd_ hrowa;have RB:=hd_ hrowb;have n1:¬dD ra<0:=o_;have n2:¬dD rb<0:=o_;have n3:¬ 2000<dD ra+dD rb:=o_;generalize dD ra=Sa at *;generalize dD rb=Sb at *
 clear ha hb hyes hA tb hrowa hrowb hga hgb hoka hokb h1 h2 h3;have ra':=cell_regrown ca;have rb':=cell_regrown cb;go_enter func195,ntmps195;go_wp2;rw[<-hw0];clear hw0;refine fA kr_ kr_ ?_
 repeat (refine dX (fun K hK=>?_);go_simp;first|(refine hK _ ?_;clear hK K)|(apply Exists.intro;refine⟨fun _=>?_,hK _ ?_⟩;(first|(with_reducible exact KA.out _ _)|(with_reducible exact KB.out _ _));clear hK K))
 refine fF ?_;intro _ hw';obtain⟨⟨dq,oq⟩,hw''⟩:=hw';subst hw'';have hb_w1:=below_regrown w0 dq oq;obtain⟨w1,hq_w1⟩:=nm_ (grow (redrawn w0 dq) oq);rw[<-hq_w1]at hb_w1 ⊢;clear hq_w1;have ca1:=cell_later hb_w1 ca;have cb1:=cell_later hb_w1 cb;have cr1:=cell_later hb_w1 cr;have fr1:w1.frozen? ⟨w.heap.size+2,0,none⟩=false:=by rw[hb_w1.frozen (p:=⟨w.heap.size+2,0,none⟩) lr];exact fr
 have hL:=HA.out.trans (hb_w1.mono HA.out.size);have sz:=hb_w1.size;have KJ:=hd_ (aBD w1 _ ba oa ka bb ob kb ra rb rfl (by have:=hL.size;omega) (by have:=hL.size;omega)
    (fun i hi=>by
      obtain⟨bi,oi,ci,e,l,r⟩:=RA.out i hi
      exact⟨bi,oi,ci,by rw[hL.cell (p:=⟨ba,oa+i,none⟩) hba];exact e,Nat.lt_of_lt_of_le l hL.size,fun k hk=>by rw[hL.cell (p:=⟨bi,oi+k,none⟩) l];exact r k hk⟩)
    (fun i hi=>by
      obtain⟨bi,oi,ci,e,l,r⟩:=RB.out i hi
      exact⟨bi,oi,ci,by rw[hL.cell (p:=⟨bb,ob+i,none⟩) hbb];exact e,Nat.lt_of_lt_of_le l hL.size,fun k hk=>by rw[hL.cell (p:=⟨bi,oi+k,none⟩) l];exact r k hk⟩) GA.out GB.out)
 have L1:=hd_ hL;clear hb_w1 ra' rb' hL ca cb cr fr
 go_wp2_with fail
 refine KJ.out.mono ?_;rintro e w2 ⟨G,rfl,ho,hb2⟩;have cr2:=cell_later hb2 cr1;have fr2:w2.frozen? ⟨w.heap.size+2,0,none⟩=false:=by rw[hb2.frozen (p:=⟨w.heap.size+2,0,none⟩) (by simp;omega)];exact fr1
 have hw:=ho.grown (aF w2 ⟨w.heap.size+2,0,none⟩ (.slice (some ⟨w1.heap.size,0,none⟩) 3 3)) (fun k e=>by simp at e;omega);have H1:=hd_ hw;have L2:=hd_ (L1.out.trans (hb2.mono L1.out.size));clear ho hb2 hw;go_wp2;have hr:=World.cell?_setCell_same w2 ⟨w.heap.size+2,0,none⟩ (.slice (some ⟨w1.heap.size,0,none⟩) 3 3) cr2
 exact bodyPost_ret (v:=.tuple #[.agg #[.slice (some ⟨w1.heap.size,0,none⟩) 3 3],.bool true]) (by simp[results,results195,go_sem,hr]) rfl
  ⟨_,_,G,_,rfl,H1.out.base L1.out.size,L2.out.setCell (by simp;omega) _⟩
def lM (t n:Int) (i:Nat):List Int:=gP.set (oR i t).toNat n
def xU (t n:Int):List (List Int):=[lM t n 0,lM t n 1,lM t n 2]
theorem qI (t n:Int) (i:Nat) (hi:i<3):(xU t n).getD i []=lM t n i:=by
 exact zBK
theorem aF5 (t n:Int) (i:Nat):(lM t n i).length=8:=by simp[lM,gP]
theorem aCb (k:Nat):gP.getD k 0=0:=by
 by_cases h:k<8
 ·rcases (by omega:k=0\/k=1\/k=2\/k=3\/k=4\/k=5\/k=6\/k=7)with rfl|rfl|rfl|rfl|rfl|rfl|rfl|rfl<;>rfl
 ·rw[List.getD_eq_getElem?_getD,List.getElem?_eq_none (by simp[gP];omega)];rfl
theorem aGq (zs:List Int) (p k:Nat) (n:Int) (hp:p<zs.length):(zs.set p n).getD k 0=if k=p then n else zs.getD k 0:=by
 by_cases h:k=p
 ·subst h
  rw[if_pos rfl,List.getD_eq_getElem?_getD,List.getElem?_set_self hp];rfl
 ·rw[if_neg h]
  simp[Ne.symm h]
theorem aK2 (p:Nat) (hp:p<8) (n:Int):(gP.set p n).sum=n:=by
 rcases (by omega:p=0\/p=1\/p=2\/p=3\/p=4\/p=5\/p=6\/p=7)with rfl|rfl|rfl|rfl|rfl|rfl|rfl|rfl<;>simp[gP]
theorem rG (t n:Int) (i:Nat):(lM t n i).sum=n:=by
 obtain⟨P,_,hP,e⟩:=lG i t;unfold lM;rw[e];exact aK2 P hP n
theorem uV (t n:Int) (i k:Nat):(lM t n i).getD k 0=if k=(oR i t).toNat then n else 0:=by
 obtain⟨P,_,hP,e⟩:=lG i t;unfold lM;rw[e,aGq _ _ _ _ (by simpa[gP]using hP),aCb]
theorem aGC (t n:Int) (h:0<=n/\n<=2000):okB (xU t n)=true:=by
 rw[fM];refine⟨rfl,fun i hi=>?_⟩;unfold aDr;rw[qI _ _ _ hi,qI _ _ 0 o_,rG,rG];refine⟨aF5 _ _ _,fun k _=>?_,rfl,h.2⟩;rw[uV]
 split<;>omega
theorem aED (t n:Int) (h:0<=n/\n<=2000):dD (xU t n)=n:=by
 rw[<-aBs (aGC t n h),qI _ _ 0 o_,rG]
theorem aI6 (t n:Int) (h:n<0\/2000<n):okB (xU t n)=false:=by
 refine xP (.inr ⟨0,o_,fun g=>?_⟩);have h1:=g.2.1;have h2:=g.2.2.2;rw[qI _ _ 0 o_]at h1 h2;rw[rG]at h2;obtain⟨P,_,hP,e⟩:=lG (0:Nat) t;have h3:=h1 P hP;rw[uV,if_pos e.symm]at h3;omega
theorem aE1 (rs:List (List Int)) (t n:Int) (h0:0<=t) (h1:t<64):kZ rs (xU t n)=oL rs t n:=by
 rw[Bool.eq_iff_iff,nG,kS]
 by_cases h:0<=n/\n<=2000
 ·rw[aED t n h,aGC t n h]
  constructor
  ·rintro⟨a,_,b⟩;exact⟨a,h0,h1,h.1,o_⟩
  ·rintro⟨a,_,_,_,b⟩;exact⟨a,rfl,o_⟩
 ·rw[aI6 t n o_]
  constructor
  ·rintro⟨_,b,_⟩;cases b
  ·rintro⟨a,_,_,b,c⟩;have:=oU a;omega
theorem yF (rs:List (List Int)) (t n:Int) (hok:okB rs=true):gO rs (xU t n)=wM rs t n:=by
 obtain⟨_,hg⟩:=(fM rs).1 hok;refine aBd rfl rfl fun i hi=>?_
 rw[nH _ _ _ hi,aDK _ _ _ _ hi,qI _ _ _ hi];obtain⟨P,_,hP,e⟩:=lG i t;have h8:=(hg i hi).1;refine of_decide_eq_true (iH (d:=0) (n:=8) (mC _ _) (by simp only[qU,List.length_set];exact h8) fun k hk=>?_);rw[eF _ _ _ hk,uV];unfold qU atV;rw[e,aGq _ _ _ _ (by rw[h8];exact hP)]
 split
 ·rename_i h;subst h;rfl
 ·omega
theorem aHv (w:World) (u:Value) (x:Option Addr) (m c:Nat) (t n:Int) (hu:u=.slice x m c) (ht:t<0\/64<=t):
  Calls prog 231 #[.agg #[u],iv t,iv n] w fun e w'=>e=.returned (.tuple #[.agg #[zn],.bool false])/\Below w.heap.size w w':=by
 subst hu;go_enter func231,ntmps231
 go_wp2_with (go_at_call 106;refine (nS _ _ ht).mono ?_;rintro e w' ⟨rfl,rfl⟩)
 exact bodyPost_ret (v:=.tuple #[.agg #[zn],.bool false]) (by simp[results,results231,go_sem]) rfl ⟨rfl,by
    first
    |exact (((Below.refl _ _).alloc lr_ _).alloc (by simp) _).setCell (by simp) _
    |exact ((Below.refl _ _).alloc lr_ _).alloc (by simp) _⟩
def aGx (w:World) (ra rb:List (List Int)) (e:Ending) (w':World):Prop:=
 ∃x m c ok,e=.returned (.tuple #[.agg #[.slice x m c],.bool ok])/\ok=kZ ra rb/\Below w.heap.size w w'/\(ok=false->x=none/\m=0/\c=0)/\(ok=true->m=3/\∃G C,dP w' w.heap.size (.slice x m c) (gO ra rb) G C)
theorem aCs (w:World) (u v:Value) (ra rb:List (List Int)) (ha:Rws w u ra) (hb:Rws w v rb):Calls prog 195 #[.agg #[u],.agg #[v]] w (aGx w ra rb):=by
 cases h:kZ ra rb with
 |false=>exact (aHx w u v ra rb ha hb h).mono fun e w' ⟨he,hb⟩=>⟨none,0,0,false,he,h.symm,hb,fun _=>⟨rfl,rfl,rfl⟩,fun q=>by cases q⟩
 |true=>exact (aFY w u v ra rb ha hb h).mono fun e w' ⟨x,c,G,C,he,ho,hb⟩=>⟨x,3,c,true,he,h.symm,hb,fun q=>(by cases q),fun _=>⟨rfl,G,C,ho⟩⟩
theorem aF3 (w:World) (u:Value) (rs:List (List Int)) (t n:Int) (h:Rws w u rs) (t0:0<=t) (t1:t<64):
  Calls prog 231 #[.agg #[u],iv t,iv n] w fun e w'=>aGx w rs (xU t n) e w':=by
 have HR:=hd_ h;obtain⟨⟨x,c,hx⟩,_⟩:=h.cases;obtain⟨m,hm⟩:=nm_ rs.length;rw[<-hm]at hx;subst hx;clear hm h;go_enter func231,ntmps231
 go_wp2_with (go_at_call 106;refine (kC _ _ t0 t1).mono ?_;rintro e w' ⟨rfl,rfl⟩)
 refine (aAv _).mono ?_;rintro e w1 ⟨v,G,C,rfl,ho,hb1⟩;obtain⟨g,c',hu,hg1,hg2⟩:=World.ownsRow.form ho.hdr (show 0<kH.length from by simp[kH]);have h3:kH.length=3:=rfl;rw[h3]at hu;subst hu;have sz:=hb1.size;simp only[World.size_alloc]at sz hg1
 have ca:=(cell_later hb1 (show ((w.alloc (.cells #[.slice x m c] 36)).alloc (.cells #[zn] 36)).cell? ⟨w.heap.size,0,none⟩=some (.slice x m c) by simp[go_sem]))
 have cr:=(cell_later hb1 (show ((w.alloc (.cells #[.slice x m c] 36)).alloc (.cells #[zn] 36)).cell? ⟨w.heap.size+1,0,none⟩=some (.slice none 0 0) by simp[go_sem]))
 have fr:w1.frozen? ⟨w.heap.size+1,0,none⟩=false:=by rw[hb1.frozen (p:=⟨w.heap.size+1,0,none⟩) (by simp)];simp[go_sem]
 have hL:=(((Below.refl w.heap.size w).alloc lr_ (.cells #[.slice x m c] 36)).alloc (by simp) (.cells #[zn] 36)).trans (hb1.mono (by simp;omega));have L:=hd_ hL;have HO1:=hd_ ho;clear ho hb1 hL h3;go_wp2;go_loopw [19] (fun i wr=>∃(k:Nat) (qs:List (List Int)),k<=3/\i=.int .i64 k/\qs.length=3/\(∀j,j<3->qs.getD j []=if j<k then lM t n j else gP)/\
      dP wr (w.heap.size+2) (.slice (some ⟨g,0,none⟩) 3 c') qs G C/\wr.cell? ⟨w1.heap.size,0,none⟩=some (.slice (some ⟨g,0,none⟩) 3 c')/\
      wr.cell? ⟨w.heap.size,0,none⟩=some (.slice x m c)/\
      wr.cell? ⟨w.heap.size+1,0,none⟩=some (.slice none 0 0)/\wr.frozen? ⟨w.heap.size+1,0,none⟩=false/\Below w.heap.size w wr/\w1.heap.size<wr.heap.size) (fun i _=>3 - (intOf i).toNat)
 case atStart=>
  have l1:w.heap.size+1<w1.heap.size:=o_;have l0:w.heap.size<w1.heap.size:=o_;refine⟨0,kH,Nat.zero_le _,rfl,rfl,fun j hj=>?_,by simpa using HO1.out.below ((Below.refl _ _).alloc lr_ _) lr_,by simp,by rw[World.cell?_alloc_past _ _ _ l0];exact ca,by rw[World.cell?_alloc_past _ _ _ l1];exact cr,
      by rw[World.frozen?_alloc_past _ _ _ l1];exact fr,L.out.alloc L.out.size _,by simp⟩
  rcases (by omega:j=0\/j=1\/j=2)with rfl|rfl|rfl<;>rfl
 case round=>
  obtain⟨k,qs,hk,rfl,hq3,hqs,hown,hbox,hA,cR,fR,hbl,hlt2⟩:=hrel;have HQ3:=hd_ hq3;have HQ:=hd_ hqs;have HO:=hd_ hown;have HB:=hd_ hbl;clear hq3 hqs hown hbl ca cr fr
  by_cases hlt:k<3
  ·obtain⟨P,hP,hP8,hPn⟩:=lG (k:Int) t
   have hqk:qs.getD k []=gP:=by rw[HQ.out k hlt,if_neg o_]
   have hz8:gP.length=8:=rfl;have hc1:=HO.out.hdrCell HQ3.out k hlt;rw[hqk,hz8]at hc1;obtain⟨hc2,hf2⟩:=HO.out.rowCell k P (by rw[HQ3.out];exact hlt) (by rw[hqk];exact hP8);rw[hqk,aCb]at hc2;have K1:Hid (∀W,Calls prog 179 #[iv k,iv t] W fun e w'=>e=.returned (iv P)/\W=w'):=fun W=>by
    rw[<-hP];exact aA2 k t W o_ o_ t0 t1
   have q:=HO.out.store k P n (by rw[HQ3.out];exact hlt) (by rw[hqk];exact hP8);have hst:∃qs',qs'.length=3/\(∀j,j<3->qs'.getD j []=if j<k+1 then lM t n j else gP)/\dP (wr.setCell ⟨G k,P,none⟩ (iv n)) (w.heap.size+2) (.slice (some ⟨g,0,none⟩) 3 c') qs' G C:=by
    refine⟨_,by simpa using HQ3.out,fun j hj=>?_,q.1⟩
    by_cases e:j=k
    ·subst e
     rw[if_pos o_];unfold lM;rw[hPn,hqk];simp[HQ3.out,hlt]
    ·have e1:(qs.set k ((qs.getD k []).set P n)).getD j []=qs.getD j []:=by simp[Ne.symm e]
     rw[e1,HQ.out j hj]
     by_cases e2:j<k
     ·rw[if_pos e2,if_pos o_]
     ·rw[if_neg e2,if_neg o_]
   have HST:=hd_ hst;have HGk:Hid (w.heap.size+2<=G k/\G k<w1.heap.size):=⟨((HO.out.row k (by rw[HQ3.out];exact hlt)).lt (G k) rfl).1,((HO1.out.row k (show k<kH.length from hlt)).lt (G k) rfl).2⟩
   have k0:(0:Int)<=(k:Int):=o_;have k3:(k:Int)<3:=o_;have P8:(P:Int)<8:=o_;clear hP hPn hst hqk hP8 q hz8
   go_wp2_with (go_at_call 179;refine (K1.out _).mono ?_;rintro e w' ⟨rfl,rfl⟩)
   go_roundw
   case rel=>
    obtain⟨qs',q1,q2,q3⟩:=HST.out;have e2:G k≠w1.heap.size:=by have:=HGk.out.2;omega
    have e1:G k≠w.heap.size+1:=by have:=HGk.out.1;omega
    have e0:G k≠w.heap.size:=by have:=HGk.out.1;omega
    refine⟨k+1,qs',o_,gn_,q1,q2,q3,?_,?_,?_,?_,?_,by simpa using hlt2⟩
    ·exact (World.cell?_setCell_other (h:=fun h=>by injection h with h;exact e2 h) ..).trans hbox
    ·exact (World.cell?_setCell_other (h:=fun h=>by injection h with h;exact e0 h) ..).trans hA
    ·exact (World.cell?_setCell_other (h:=fun h=>by injection h with h;exact e1 h) ..).trans cR
    ·rw[World.frozen?_setCell];exact fR
    ·exact HB.out.setCell (by have:=HGk.out.1;simp;omega) _
   case measure=>simp[intOf];omega
  ·have hq:qs=xU t n:=aBd HQ3.out rfl (fun i hi=>by rw[HQ.out i hi,if_pos o_,qI _ _ _ hi])
   have ho:=HO.out;rw[hq]at ho;have KJ:=hd_ (aCs wr _ _ rs (xU t n) (HR.out.below HB.out lr_) ho.rws);clear hq ho
   go_wp2_with fail
   refine KJ.out.mono ?_;rintro e w3 ⟨z,p,d,ok,rfl,hok,hb3,hno,hyes⟩;have cR3:=cell_later hb3 cR;have fR3:w3.frozen? ⟨w.heap.size+1,0,none⟩=false:=by rw[hb3.frozen (p:=⟨w.heap.size+1,0,none⟩) (by simp;omega)];exact fR
   have hr:=hd_ (World.cell?_setCell_same w3 ⟨w.heap.size+1,0,none⟩ (.slice z p d) cR3);have hgs:=aF w3 ⟨w.heap.size+1,0,none⟩ (.slice z p d);have FIN:Hid (Below w.heap.size w (w3.setCell ⟨w.heap.size+1,0,none⟩ (.slice z p d))/\(ok=true->p=3/\∃G C,dP (w3.setCell ⟨w.heap.size+1,0,none⟩ (.slice z p d)) w.heap.size (.slice z p d) (gO rs (xU t n)) G C)):=
    ⟨(HB.out.trans (hb3.mono HB.out.size)).setCell (by simp) _,fun q=>by
          obtain⟨q1,G',C',q2⟩:=hyes q
          exact⟨q1,G',C',(q2.grown hgs (fun k e=>by simp at e;omega)).base HB.out.size⟩⟩
   have HOK:=hd_ hok;have HNO:=hd_ hno;clear hok hno hyes hb3 hgs;go_wp2;have hr:=hr.out;exact bodyPost_ret (v:=.tuple #[.agg #[.slice z p d],.bool ok]) (by simp[results,results231,go_sem,hr]) rfl ⟨z,p,d,ok,rfl,HOK.out,FIN.out.1,HNO.out,FIN.out.2⟩
end Go.Proofs.YtcblbdpdbggkbaaGreat
namespace Go.Proofs.YtcblbdpdbggkbaaGreat
open _root_.Go.Proofs.Tryz
open Go.RowKit
theorem aLW {zs:List Int} (h:zs.length=8):zs.sum=zs.getD 0 0+zs.getD 1 0+zs.getD 2 0+zs.getD 3 0+zs.getD 4 0+zs.getD 5 0+zs.getD 6 0+zs.getD 7 0:=by
 match zs,h with
 | [a,b,c,d,e,f,g,i],_=>simp;omega
theorem aEq (x y:List Int) (hx:x.length=8) (hy:y.length=8):(gK x y).sum=x.sum+y.sum:=by
 rw[aLW hx,aLW hy,aLW (mC x y)];rw[eF _ _ 0 (by omega),eF _ _ 1 (by omega),eF _ _ 2 (by omega),eF _ _ 3 (by omega),eF _ _ 4 (by omega),eF _ _ 5 (by omega),eF _ _ 6 (by omega),eF _ _ 7 (by omega)];omega
theorem aJz {rs:List (List Int)} (h3:rs.length=3) (h:∀i,i<3->oM (rs.getD i [])/\(rs.getD i []).sum=(rs.getD 0 []).sum):okB rs=true:=
 (fM rs).2 ⟨h3,fun i hi=>⟨(h i hi).1.1,(h i hi).1.bd.2.2,(h i hi).2,(h i hi).1.2.2⟩⟩
theorem pS {rs:List (List Int)} (h:okB rs=true) (i:Nat) (hi:i<3):oM (rs.getD i [])/\(rs.getD i []).sum=dD rs:=by
 obtain⟨_,hg⟩:=(fM rs).1 h;have g:=hg i hi;exact⟨⟨g.1,fun k hk=>(g.2.1 k hk).1,g.2.2.2⟩,g.2.2.1.trans (aBs h)⟩
theorem aI5 {ra rb:List (List Int)} (h:kZ ra rb=true):okB (gO ra rb)=true/\dD (gO ra rb)=dD ra+dD rb:=by
 obtain⟨ha,hb,hs⟩:=(nG ra rb).1 h;have rA:∀i,i<3->((gO ra rb).getD i []).sum=dD ra+dD rb:=fun i hi=>by
  rw[nH _ _ _ hi,aEq _ _ (pS ha i hi).1.1 (pS hb i hi).1.1,(pS ha i hi).2,(pS hb i hi).2]
 have ok:okB (gO ra rb)=true:=aJz rfl fun i hi=>by
  refine⟨⟨by rw[nH _ _ _ hi];exact mC _ _,fun k hk=>?_,by rw[rA i hi];exact hs⟩,by rw[rA i hi,rA 0 (by omega)]⟩;rw[nH _ _ _ hi,eF _ _ _ hk];have:=(pS ha i hi).1.2.1 k hk;have:=(pS hb i hi).1.2.1 k hk;omega
 exact⟨ok,by rw[<-aBs ok,rA 0 (by omega)]⟩
theorem aLi {rs:List (List Int)} {t n:Int} (h:oL rs t n=true):okB (wM rs t n)=true/\dD (wM rs t n)=dD rs+n:=by
 obtain⟨ok,t0,t1,n0,n1⟩:=(kS rs t n).1 h;have hj:=aE1 rs t n t0 t1;rw[h]at hj;have:=aI5 hj;have av:=oU ok;rw[yF rs t n ok,aED t n (by omega)]at this;exact this
def aIU (w:World) (ok:Bool) (rs:List (List Int)) (e:Ending) (w':World):Prop:=
 ∃x m c,e=.returned (.tuple #[.agg #[.slice x m c],.bool ok])/\Below w.heap.size w w'/\(ok=false->x=none/\m=0/\c=0)/\(ok=true->m=3/\∃G C,dP w' w.heap.size (.slice x m c) rs G C)
theorem aGh (w:World) (u v:Value) (ra rb:List (List Int)) (ha:Rws w u ra) (hb:Rws w v rb):Calls prog 195 #[.agg #[u],.agg #[v]] w (aIU w (kZ ra rb) (gO ra rb)):=
 (aCs w u v ra rb ha hb).mono fun e w' ⟨x,m,c,ok,he,hok,hb,h0,h1⟩=>by subst hok;exact⟨x,m,c,he,hb,h0,h1⟩
theorem aG4 (w:World) (u:Value) (rs:List (List Int)) (t n:Int) (h:Rws w u rs):Calls prog 310 #[.agg #[u],iv t,iv n] w (aIU w (oL rs t n) (wM rs t n)):=by
 cases q:oL rs t n with
 |false=>exact (aIE w u rs t n h q).mono fun e w' ⟨he,hb⟩=>⟨none,0,0,he,hb,fun _=>⟨rfl,rfl,rfl⟩,fun q=>by cases q⟩
 |true=>exact (aHc w u rs t n h q).mono fun e w' ⟨x,c,G,C,he,ho,hb⟩=>⟨x,3,c,he,hb,fun q=>(by cases q),fun _=>⟨rfl,G,C,ho⟩⟩
theorem aG1 (w:World) (u:Value) (rs:List (List Int)) (t n:Int) (h:Rws w u rs):Calls prog 231 #[.agg #[u],iv t,iv n] w (aIU w (oL rs t n) (wM rs t n)):=by
 by_cases ht:t<0\/64<=t
 ·have hno:oL rs t n=false:=by
   cases q:oL rs t n with
   |false=>rfl
   |true=>have:=(kS rs t n).1 q;omega
  obtain⟨⟨x,c,hx⟩,_⟩:=h.cases;rw[hno];exact (aHv w u x _ c t n hx ht).mono fun e w' ⟨he,hb⟩=>⟨none,0,0,he,hb,fun _=>⟨rfl,rfl,rfl⟩,fun q=>by cases q⟩
 ·have t0:0<=t:=o_
  have t1:t<64:=o_;refine (aF3 w u rs t n h t0 t1).mono fun e w' ⟨x,m,c,ok,he,hok,hb,h0,h1⟩=>?_
  rw[aE1 rs t n t0 t1]at hok;subst hok;refine⟨x,m,c,he,hb,h0,fun q=>?_⟩;obtain⟨hm,G,C,ho⟩:=h1 q;rw[yF rs t n ((kS rs t n).1 q).1]at ho;exact⟨hm,G,C,ho⟩
def aHt (ok:Bool) (rs:List (List Int)):List (List Int):=if ok=true then rs else []
theorem aH8 {rs:List (List Int)} {t n:Int} (h:oL rs t n=true):wM rs t n=gO rs (xU t n):=(yF rs t n ((kS rs t n).1 h).1).symm
end Go.Proofs.YtcblbdpdbggkbaaGreat
namespace Go.Proofs.YtcblbdpdbggkbaaGreat
open _root_.Go.Proofs.Tryz
open Go.RowKit Go.Sort
def gL (t:Int):Int:=if 0<=t/\t<64 then (37 * t+11) % 64 else -1
theorem xM {t:Int} (h0:0<=t) (h1:t<64):gL t=(37 * t+11) % 64:=if_pos ⟨h0,h1⟩
theorem aA5 {t:Int} (h:t<0\/64<=t):gL t= -1:=if_neg o_
theorem aKl {t:Int} (h0:0<=t) (h1:t<64):0<=gL t/\gL t<64:=by rw[xM h0 h1];omega
theorem aHg (t:Int) (w:World):Calls prog 176 #[iv t] w fun e w'=>e=.returned (iv (gL t))/\w=w':=by
 by_cases h:t<0\/64<=t
 ·rw[aA5 h]
  go_enter func176,ntmps176
  go_wp2_with (go_at_call 106;refine (nS _ _ h).mono ?_;rintro e w' ⟨rfl,rfl⟩)
  go_ret;exact⟨rfl,rfl⟩
 ·have h0:0<=t:=o_
  have h1:t<64:=o_;rw[xM h0 h1];clear h;go_enter func176,ntmps176
  go_wp2_with (go_at_call 106;refine (kC _ _ h0 h1).mono ?_;rintro e w' ⟨rfl,rfl⟩)
  go_ret;exact⟨jC (by first|rfl|(simp;omega)|omega),rfl⟩
theorem aIm (t:Int) (w:World):Calls prog 321 #[iv t] w fun e w'=>e=.returned (iv (gL t))/\w=w':=by
 by_cases h:t<0\/63<t
 ·rw[aA5 o_]
  go_enter func321,ntmps321
  go_wp2_with (go_at_call 66;refine (fZ _ _ _ _ h).mono ?_;rintro e w' ⟨rfl,rfl⟩)
  go_ret;exact⟨rfl,rfl⟩
 ·have h0:0<=t:=o_
  have h1:t<64:=o_;have h2:t<=63:=o_;rw[xM h0 h1];clear h;go_enter func321,ntmps321
  go_wp2_with (go_at_call 66;refine (aS _ _ _ _ h0 h2).mono ?_;rintro e w' ⟨rfl,rfl⟩)
  go_ret;exact⟨jC (by first|rfl|(simp;omega)|omega),rfl⟩
def yM (zs:List Int) (i:Nat):Prop:=(0<=zs.getD i 0/\zs.getD i 0<=63)/\(0<i->zs.getD (i - 1) 0<zs.getD i 0)
instance (zs:List Int) (i:Nat):Decidable (yM zs i):=by unfold yM;infer_instance
def aKz (zs:List Int):Prop:=zs.length<=6/\∀i,i<zs.length->yM zs i
instance (zs:List Int):Decidable (aKz zs):=by unfold aKz;infer_instance
def fD (zs:List Int):Bool:=decide (aKz zs)
def kB (zs:List Int) (k:Nat):Int:=if k=0 then -1 else zs.getD (k - 1) 0
theorem aAZ (zs:List Int):fD zs=true↔aKz zs:=by simp[fD]
theorem aCx {zs:List Int} (h:6<zs.length):fD zs=false:=by simp only[fD,decide_eq_false_iff_not];exact fun q=>by have:=q.1;omega
theorem vM {zs:List Int} {i:Nat} (hi:i<zs.length) (h:¬yM zs i):fD zs=false:=by simp only[fD,decide_eq_false_iff_not];exact fun q=>h (q.2 i hi)
theorem xL {zs:List Int} (hl:zs.length<=6) (h:∀i,i<zs.length->yM zs i):fD zs=true:=(aAZ zs).2 ⟨hl,h⟩
theorem aKs {zs:List Int} {k:Nat} (h:∀i,i<k->yM zs i): -1<=kB zs k/\kB zs k<=63:=by
 unfold kB
 split
 ·omega
 ·have:=(h (k - 1) o_).1;omega
theorem aKp {zs:List Int} {k:Nat} (h:∀i,i<k->yM zs i):yM zs k↔kB zs k<zs.getD k 0/\zs.getD k 0<64:=by
 have hb:=aKs h;unfold yM;unfold kB at hb ⊢
 split
 ·subst_vars;simp;omega
 ·have:0<k:=o_
  simp only[this,true_implies];rw[if_neg o_]at hb;omega
theorem aCT (b o c n:Nat) (zs:List Int) (w:World) (hl:zs.length=n) (hn:n<=6) (hb:b<w.heap.size) (hc:∀i,i<n->w.cell? ⟨b,o+i,none⟩=some (.int .i64 (zs.getD i 0))):
  Calls prog 175 #[.agg #[.slice (some ⟨b,o,none⟩) n c]] w fun e w'=>e=.returned (.bool (fD zs))/\Below w.heap.size w w':=by
 have hA:=(Below.refl w.heap.size w).alloc lr_ (.cells #[.slice (some ⟨b,o,none⟩) n c] 38);have HC:Hid (∀i,i<n->(w.alloc (.cells #[.slice (some ⟨b,o,none⟩) n c] 38)).cell? ⟨b,o+i,none⟩=some (.int .i64 (zs.getD i 0))):=fun i hi=>by
  rw[hA.cell (p:=⟨b,o+i,none⟩) hb];exact hc i hi
 have HL:=hd_ hl;have HA:=hd_ hA;have hn':¬(6:Int)<(n:Int):=o_;clear hc hl hA;go_enter func175,ntmps175;go_wp2
 go_loop [3,13] (fun q i=>∃k:Nat,k<=n/\i=.int .i64 k/\q=.int .i64 (kB zs k)/\∀i,i<k->yM zs i) (fun _ i=>n - (intOf i).toNat)
 case atStart=>exact⟨0,Nat.zero_le _,rfl,rfl,fun _ h=>absurd h (Nat.not_lt_zero _)⟩
 case round=>
  obtain⟨k,hk,rfl,rfl,hg⟩:=hrel;have G:=hd_ hg;have I:=hd_ (aKp hg)
  by_cases hlt:k<n
  ·have h1:=HC.out k hlt
   have hs:Hid (kB zs (k+1)=zs.getD k 0):=by show (if k+1=0 then _ else _)=_;rw[if_neg o_];rfl
   generalize zs.getD k 0=x at h1 I hs;generalize kB zs k=L at I ⊢;clear hg
   by_cases hx:x<=L
   ·have bad:Hid (fD zs=false):=vM (by rw[HL.out];exact hlt) (fun q=>by have:=(I.out.1 q).1;omega)
    go_wp2;go_ret;exact⟨aK bad.out.symm,HA.out⟩
   by_cases hy:64<=x
   ·have bad:Hid (fD zs=false):=vM (by rw[HL.out];exact hlt) (fun q=>by have:=(I.out.1 q).2;omega)
    go_wp2;go_ret;exact⟨aK bad.out.symm,HA.out⟩
   ·go_wp2
    go_round
    case rel=>exact⟨k+1,o_,gn_,by rw[hs.out],fun i hi=>by
          by_cases h:i<k
          · exact G.out i h
          · obtain rfl:i=k:=o_
            exact I.out.2 o_⟩
    case measure=>simp[intOf];omega
  ·have good:Hid (fD zs=true):=xL (by rw[HL.out];exact hn) (fun i hi=>G.out i (by rw[HL.out]at hi;omega))
   go_wp2;go_ret;exact⟨aK good.out.symm,HA.out⟩
theorem oH (w:World) (u:Value) (zs:List Int) (h:dE w u zs):
  Calls prog 175 #[.agg #[u]] w fun e w'=>e=.returned (.bool (fD zs))/\Below w.heap.size w w':=by
 obtain⟨⟨x,c,hx⟩,_⟩:=h.cases
 by_cases hn:6<zs.length
 ·rw[aCx hn]
  obtain⟨n,hn'⟩:=nm_ zs.length;rw[<-hn']at hx hn;subst hx;have h6:(6:Int)<(n:Int):=o_;clear h hn' hn;go_enter func175,ntmps175;exact zAC
 rcases h with ⟨rfl,rfl⟩|⟨b,o,cap,rfl,_,_,hb,hc⟩
 ·have e:fD []=true:=by decide
  rw[e];go_enter func175,ntmps175;go_wp2;refine wp_loop_rounds 1 ?_;rw[rounds_succ];exact zAC
 ·exact aCT b o cap _ zs w rfl o_ hb hc
theorem aC0 (b o c n:Nat) (zs:List Int) (w:World) (hl:zs.length=n) (hn:n<=maxLen) (hb:b<w.heap.size) (hc:∀i,i<n->w.cell? ⟨b,o+i,none⟩=some (.int .i64 (zs.getD i 0))):
  Calls prog 220 #[.agg #[.slice (some ⟨b,o,none⟩) n c]] w fun e w'=>e=.returned (.bool (fD zs))/\Below w.heap.size w w':=by
 unfold maxLen at hn;have HC:=hd_ hc;have HL:=hd_ hl;clear hc hl;go_enter func220,ntmps220;go_wp2;go_loopw [3] (fun i wr=>∃k:Nat,k<=n/\i=.int .i64 k/\(∀i,i<k->yM zs i)/\Below w.heap.size w wr/\wr.cell? ⟨w.heap.size,0,none⟩=some (.slice (some ⟨b,o,none⟩) n c)) (fun i _=>n - (intOf i).toNat)
 case atStart=>exact⟨0,Nat.zero_le _,rfl,fun _ h=>absurd h (Nat.not_lt_zero _),(Below.refl _ _).alloc lr_ _,by simp⟩
 case round=>
  obtain⟨k,hk,rfl,hg,hbl,hbox⟩:=hrel;have G:=hd_ hg;have HB:=hd_ hbl;clear hg hbl
  by_cases hlt:k<n
  ·have h1:=HC.out k hlt
   rw[<-HB.out.cell (p:=⟨b,o+k,none⟩) hb]at h1;obtain⟨x,hx⟩:∃x,zs.getD k 0=x:=⟨_,rfl⟩
   rw[hx]at h1;have HX:=hd_ hx;clear hx;have k0:(0:Int)<=(k:Int):=o_;have kn:(k:Int)<(n:Int):=o_
   by_cases hr:x<0\/63<x
   ·have bad:Hid (fD zs=false):=vM (by rw[HL.out];exact hlt) (fun q=>by have:=q.1;rw[HX.out]at this;omega)
    go_wp2
    go_quiet (with_reducible exact aI (fZ _ _ _ _ hr))
    go_wp2;go_ret;exact⟨aK bad.out.symm,below_drewN HB.out _⟩
   have x0:0<=x:=o_;have x1:x<=63:=o_;rcases Nat.eq_zero_or_pos k with h0|h0
   ·subst h0
    have good:Hid (yM zs 0):=⟨by rw[HX.out];exact⟨x0,x1⟩,fun h=>absurd h (Nat.lt_irrefl _)⟩
    have h1':wr.cell? ⟨b,o,none⟩=some (.int .i64 x):=h1;have z0:(0:Int)<(n:Int):=o_;go_wp2
    go_quiet (with_reducible exact aI (aS _ _ _ _ x0 x1))
    go_wp2;go_roundw
    case rel=>exact⟨1,o_,gn_,fun i hi=>by
          obtain rfl:i=0:=o_
          exact good.out,below_drewN HB.out _,by simpa using hbox⟩
    case measure=>simp[intOf];omega
   ·obtain⟨j,rfl⟩:∃j,k=j+1:=⟨k - 1,o_⟩
    have h2:=HC.out j o_;rw[<-HB.out.cell (p:=⟨b,o+j,none⟩) hb]at h2;obtain⟨y,hy'⟩:∃y,zs.getD j 0=y:=⟨_,rfl⟩
    rw[hy']at h2;have HY:=hd_ hy';clear hy';have p0:(0:Int)<((j+1:Nat):Int):=o_;have e1:((j+1:Nat):Int) - 1=(j:Int):=o_;have j0:(0:Int)<=(j:Int):=o_;have jn:(j:Int)<(n:Int):=o_
    by_cases hyx:x<=y
    ·have bad:Hid (fD zs=false):=vM (by rw[HL.out];exact hlt) (fun q=>by have:=q.2 h0;rw[HX.out,Nat.add_sub_cancel,HY.out]at this;omega)
     have hd:decide (x<=y)=true:=decide_eq_true hyx;go_wp2
     go_quiet (with_reducible exact aI (aS _ _ _ _ x0 x1))
     go_wp2;go_ret;exact⟨aK bad.out.symm,below_drewN HB.out _⟩
    ·have good:Hid (yM zs (j+1)):=⟨by rw[HX.out];exact⟨x0,x1⟩,fun _=>by rw[Nat.add_sub_cancel,HX.out,HY.out];omega⟩
     have hd:decide (x<=y)=false:=decide_eq_false hyx;go_wp2
     go_quiet (with_reducible exact aI (aS _ _ _ _ x0 x1))
     go_wp2;go_roundw
     case rel=>exact⟨j+1+1,o_,gn_,fun i hi=>by
            by_cases h:i<j+1
            · exact G.out i h
            · obtain rfl:i=j+1:=o_
              exact good.out,below_drewN HB.out _,by simpa using hbox⟩
     case measure=>simp[intOf];omega
  ·by_cases h6:n<=6
   ·have good:Hid (fD zs=true):=xL (by rw[HL.out];exact h6) (fun i hi=>G.out i (by rw[HL.out]at hi;omega))
    have h6':(n:Int)<=6:=o_;go_wp2;go_ret;exact⟨aK (by first|(rw[good.out];done)|(rw[good.out];simp;omega)),HB.out⟩
   ·have bad:Hid (fD zs=false):=aCx (by rw[HL.out];omega)
    go_wp2;go_ret;exact⟨aK (by first|(rw[bad.out];done)|(rw[bad.out];simp;omega)),HB.out⟩
theorem uX (w:World) (u:Value) (zs:List Int) (h:dE w u zs):
  Calls prog 220 #[.agg #[u]] w fun e w'=>e=.returned (.bool (fD zs))/\Below w.heap.size w w':=by
 rcases h with ⟨rfl,rfl⟩|⟨b,o,cap,rfl,h1,h2,hb,hc⟩
 ·have e:fD []=true:=by decide
  rw[e];go_enter func220,ntmps220;go_wp2;refine wp_loop_rounds 1 ?_;rw[rounds_succ];exact zAC
 ·exact aC0 b o cap _ zs w rfl o_ hb hc
theorem iS {zs:List Int} (h:fD zs=true):zs.length<=6/\(∀i,i<zs.length->0<=zs.getD i 0/\zs.getD i 0<=63)/\∀i,i+1<zs.length->zs.getD i 0<zs.getD (i+1) 0:=by
 obtain⟨h1,h2⟩:=(aAZ zs).1 h;refine⟨h1,fun i hi=>(h2 i hi).1,fun i hi=>?_⟩;have:=(h2 (i+1) hi).2 o_;rwa[Nat.add_sub_cancel]at this
def jL (t:Int):Bool:=decide (0<=t/\t<64)
theorem aKC {zs:List Int} {x:Int}:x ∈ zs↔∃i,i<zs.length/\zs.getD i 0=x:=by
 exact zBo
theorem wF (t:Int):jL t=true↔0<=t/\t<64:=by simp[jL]
theorem zQ (t:Int):jL t=false↔t<0\/64<=t:=by simp[jL];omega
theorem aAF:(prog.info? 3).map (fun i=>(i.zero,i.size,i.bytes))=some (some (.int .i64 0),1,8):=by kernel_rfl
theorem aCy (w:World) (B:Nat) (hB:B<=w.heap.size):(w.alloc (.cells #[] 3)).ownsRow B 3 1 (.slice (some ⟨w.heap.size,0,none⟩) 0 0) 0 []:=
 World.ownsRow_lit (base:=B) (e:=3) (size:=1) w #[] 0 hB (by simp[maxLen]) (by simp)
def cE (w:World) (B:Nat) (v:Value) (zs:List Int):Prop:=w.ownsRow B 3 1 v zs.length (cC zs)
theorem cE.rd {w:World} {B:Nat} {v:Value} {zs:List Int} (h:cE w B v zs):dE w v zs:=aCu h
theorem cE.base {w:World} {B B':Nat} {v:Value} {zs:List Int} (h:cE w B v zs) (hB:B'<=B):cE w B' v zs:=aU h hB
theorem cE.kept {w w':World} {B:Nat} {v:Value} {zs:List Int} {row:Option Nat} (h:cE w B v zs) (hg:w.grownBy w' row) (hr:∀k,row=some k->k<B):cE w' B v zs:=by
 exact zBa
theorem cE.alloc {w:World} {B:Nat} {v:Value} {zs:List Int} (h:cE w B v zs) (o:Obj):cE (w.alloc o) B v zs:=World.ownsRow.alloc h o
theorem cE.nil (w:World) (B:Nat):cE w B zn []:=World.ownsRow_nil w B _ 1
theorem cE.form {w:World} {B:Nat} {v:Value} {zs:List Int} (h:cE w B v zs):∃x c,v=.slice x zs.length c:=h.rd.cases.1
theorem yO (zs:List Int) (x:Int):cC (zs++[x])=cC zs++[.int .i64 x]:=by simp[cC]
theorem cE.take {w:World} {B n c:Nat} {x:Option Addr} {zs:List Int} (h:cE w B (.slice x n c) zs) (k:Nat) (hk:k<=zs.length):cE w B (.slice x k c) (zs.take k):=by
 have hl:(zs.take k).length=k:=by simp;omega
 have hi:cC (zs.take k)=(cC zs).take k:=by simp[cC,List.map_take]
 obtain⟨h1,h2⟩:=h;refine⟨by rw[wY];simp,?_⟩;rw[hl];rcases h2 with ⟨e,h0⟩|⟨g,cap,cur,e,hb,hh,hn,hm,hs,ht⟩
 ·refine .inl ⟨?_,o_⟩
  obtain⟨rfl,rfl,rfl⟩:=Value.slice.inj e;obtain rfl:k=0:=o_
  rfl
 ·obtain⟨rfl,rfl,rfl⟩:=Value.slice.inj e
  refine .inr ⟨g,c,cur,rfl,hb,hh,o_,hm,hs,?_⟩;rw[hi, <-ht,List.take_take]
  congr 1
  omega
def pG (m:Int):List Int->Bool->List Int
 | [],d=>if d then []else [m]
 |x::xs,d=>(if !d&&decide (m<=x)then [m]else [])++((if x=m then []else [x])++pG m xs (d || decide (m<=x)))
def pE (zs:List Int) (m:Int):List Int:=(pG m zs false).take 6
theorem aHF {zs:List Int} {k:Nat} (h:k<zs.length):zs.drop k=zs.getD k 0::zs.drop (k+1):=by
 rw[List.drop_eq_getElem_cons h];simp[h]
theorem aMg (m:Int) (rest:List Int):pG m (m::rest) false=[m]++pG m rest true:=by
 show (if _ then _ else _)++((if _ then _ else _)++pG m rest _)=_
 simp
theorem aMu {m y:Int} (rest:List Int) (h:m<=y) (h':y≠m):pG m (y::rest) false=[m]++([y]++pG m rest true):=by
 show (if _ then _ else _)++((if _ then _ else _)++pG m rest _)=_
 simp[h,h']
theorem aMx (m:Int) (rest:List Int):pG m (m::rest) true=pG m rest true:=by
 show (if _ then _ else _)++((if _ then _ else _)++pG m rest _)=_
 simp
theorem aLf {m y:Int} {d:Bool} (rest:List Int) (h:d=true\/y<m) (h':y≠m):pG m (y::rest) d=[y]++pG m rest d:=by
 show (if _ then _ else _)++((if _ then _ else _)++pG m rest _)=_
 rcases h with h|h
 ·simp[h,h']
 ·have:¬m<=y:=o_
  simp[this,h']
theorem mG {w:World} {B no:Nat} {v:Value} {os:List Int} {m:Int} (h:w.ownsRow B 3 1 v (no+1) (cC os++[.int .i64 m])) (hn:no=os.length):cE w B v (os++[m]):=by
 unfold cE;rw[yO,List.length_append, <-hn];exact h
theorem fU {w wr w':World} {o:Obj} {e:TypeId} {v:Value} {n:Nat} {xs:List Value} (hb:Below w.heap.size w wr) (ho:wr.ownsRow w.heap.size e 1 v n xs) (hg:(wr.alloc o).grownBy w' v.ownBlock):Below w.heap.size w w':=
 (hb.alloc hb.size o).grown hg (Nat.le_trans hb.size (by simp)) (fun k e=>(ho.lt k e).1)
theorem zZ {w:World} {B n c:Nat} {e:TypeId} {x:Option Addr} {xs:List Value} (h:w.ownsRow B e 1 (.slice x n c) n xs):n<=c/\c<=maxLen:=by
 rcases h.2 with ⟨e,h0⟩|⟨g,cap,cur,e,hb,hh,hn,hm,hs,ht⟩
 ·obtain⟨_,h1,h2⟩:=Value.slice.inj e
  subst h1 h2;exact⟨Nat.le_refl _,Nat.zero_le _⟩
 ·obtain⟨_,_,h2⟩:=Value.slice.inj e
  subst h2;exact⟨hn,hm⟩
theorem pB {w wr w':World} {o:Obj} {e:TypeId} {v u:Value} {n:Nat} {xs:List Value} {a:Addr} (hc:wr.cell? a=some u) (ha:a.block<w.heap.size) (ho:wr.ownsRow w.heap.size e 1 v n xs) (hg:(wr.alloc o).grownBy w' v.ownBlock):w'.cell? a=some u:=
 hg.cell ((World.cell?_alloc_lt (h:=World.block_lt_of_cell? _ _ hc) ..).trans hc) (fun h=>by have:=(ho.lt _ h.symm).1;omega)
theorem aGm (w:World) (b o c n:Nat) (zs:List Int) (m:Int) (hl:zs.length=n) (hn:n<=100) (hb:b<w.heap.size) (hc:∀i,i<n->w.cell? ⟨b,o+i,none⟩=some (.int .i64 (zs.getD i 0))):
  Calls prog 225 #[.slice (some ⟨b,o,none⟩) n c,iv m] w fun e w'=>∃v,e=.returned v/\cE w' w.heap.size v (pE zs m)/\Below w.heap.size w w':=by
 obtain⟨i0,hi,hz0,hz1,hz2⟩:=info_parts aAF;have HL:=hd_ hl;have HC:=hd_ hc;clear hl hc;go_enter func225,ntmps225;go_wp2;go_loopw [5,6,7] (fun u d i wr=>∃(k:Nat) (dn:Bool) (os:List Int),k<=n/\i=.int .i64 k/\d=.bool dn/\os.length<=2 * k/\cE wr w.heap.size u os/\os++pG m (zs.drop k) dn=pG m zs false/\Below w.heap.size w wr) (fun _ _ i _=>n - (intOf i).toNat)
 case atStart=>exact⟨0,false,[],Nat.zero_le _,rfl,rfl,Nat.le_refl _,aCy w w.heap.size lr_,rfl,(Below.refl _ _).alloc lr_ _⟩
 case round=>
  obtain⟨k,dn,os,hk,rfl,rfl,hos,hown,hput,hbl⟩:=hrel;obtain⟨x,cp,hu⟩:=hown.form;obtain⟨no,hno⟩:=nm_ os.length;have hno2:no<=200:=o_;rw[<-hno]at hu;subst hu;have HN:=hd_ hno;have HP:=hd_ hput;have HB:=hd_ hbl;have hsz:=hbl.size;have ho:wr.ownsRow w.heap.size 3 1 (.slice x no cp) no (cC os):=by have h:=hown;unfold cE at h;rw[<-hno]at h;exact h
  have HO:=hd_ ho;clear hput hbl hown hno ho
  by_cases hlt:k<n
  ·have h1:=HC.out k hlt
   rw[<-HB.out.cell (p:=⟨b,o+k,none⟩) hb]at h1;have hd:=aHF (zs:=zs) (k:=k) (by rw[HL.out];exact hlt);generalize zs.getD k 0=y at h1 hd;rw[hd]at HP;clear hd;have k0:(0:Int)<=(k:Int):=o_;have kn:(k:Int)<(n:Int):=o_;cases dn with
   |false=>
    by_cases hmy:m<=y
    ·have hD:decide (m<=y)=true:=decide_eq_true hmy
     by_cases hym:y=m
     ·subst hym
      go_wp2_with (first|(at_builtin;refine wpList_append_own _ rfl _ _ 23 rfl w.heap.size 3 i0 (iv 0) 1 8 underlying23 hi hz0 hz1 hz2 rfl dc_ _ _ _ rfl (HO.out.alloc _) ⟨wr.heap.size,0,none⟩ 1 1 [iv y] rfl rfl (cell_one_new _ _ _) (by simp[Value.oneCell']) (by unfold maxLen;omega) o_ (by simp;omega) ?_;intro v1 w1 ho1 hg1 _;obtain⟨g_v1,c_v1,rfl,_,_⟩:=World.ownsRow.form ho1 (Nat.succ_pos _);have c_w1:=pB h1 hb HO.out hg1))
      go_roundw
      case rel=>exact⟨k+1,true,os++[y],o_,gn_,rfl,by simp;omega,mG ho1 HN.out,by rw[<-HP.out,aMg,List.append_assoc],fU HB.out HO.out hg1⟩
      case measure=>simp[intOf];omega
     ·have hne:(y != m)=true:=by simpa using hym
      have hne2:decide (y=m)=false:=decide_eq_false hym
      go_wp2_with (first|(at_builtin;refine wpList_append_own _ rfl _ _ 23 rfl w.heap.size 3 i0 (iv 0) 1 8 underlying23 hi hz0 hz1 hz2 rfl dc_ _ _ _ rfl (HO.out.alloc _) ⟨wr.heap.size,0,none⟩ 1 1 [iv m] rfl rfl (cell_one_new _ _ _) (by simp[Value.oneCell']) (by unfold maxLen;omega) o_ (by simp;omega) ?_;intro v1 w1 ho1 hg1 _;obtain⟨g_v1,c_v1,rfl,_,_⟩:=World.ownsRow.form ho1 (Nat.succ_pos _);have c_w1:=pB h1 hb HO.out hg1)|(at_builtin;refine wpList_append_own _ rfl _ _ 23 rfl w.heap.size 3 i0 (iv 0) 1 8 underlying23 hi hz0 hz1 hz2 rfl dc_ _ _ _ rfl (ho1.alloc _) ⟨w1.heap.size,0,none⟩ 1 1 [iv y] rfl rfl (cell_one_new _ _ _) (by simp[Value.oneCell']) (by unfold maxLen;omega) o_ (by simp;omega) ?_;intro v2 w2 ho2 hg2 _;obtain⟨g_v2,c_v2,rfl,_,_⟩:=World.ownsRow.form ho2 (Nat.succ_pos _)))
      go_roundw
      case rel=>
       have o1:=mG ho1 HN.out;have o2:=mG (os:=os++[m]) (by have h:=ho2;rw[<-yO]at h;exact h) (by simp;exact HN.out);have b1:=fU HB.out HO.out hg1;exact⟨k+1,true,os++[m]++[y],o_,gn_,rfl,by simp;omega,o2,by rw[<-HP.out,aMu _ hmy hym];simp,fU b1 ho1 hg2⟩
      case measure=>simp[intOf];omega
    ·have hD:decide (m<=y)=false:=decide_eq_false hmy
     have hym:y≠m:=o_;have hne:(y != m)=true:=by simpa using hym
     have hne2:decide (y=m)=false:=decide_eq_false hym
     go_wp2_with (first|(at_builtin;refine wpList_append_own _ rfl _ _ 23 rfl w.heap.size 3 i0 (iv 0) 1 8 underlying23 hi hz0 hz1 hz2 rfl dc_ _ _ _ rfl (HO.out.alloc _) ⟨wr.heap.size,0,none⟩ 1 1 [iv y] rfl rfl (cell_one_new _ _ _) (by simp[Value.oneCell']) (by unfold maxLen;omega) o_ (by simp;omega) ?_;intro v1 w1 ho1 hg1 _;obtain⟨g_v1,c_v1,rfl,_,_⟩:=World.ownsRow.form ho1 (Nat.succ_pos _);have c_w1:=pB h1 hb HO.out hg1))
     go_roundw
     case rel=>exact⟨k+1,false,os++[y],o_,gn_,rfl,by simp;omega,mG ho1 HN.out,by rw[<-HP.out,aLf _ (.inr o_) hym,List.append_assoc],fU HB.out HO.out hg1⟩
     case measure=>simp[intOf];omega
   |true=>
    by_cases hym:y=m
    ·subst hym
     go_wp2;go_roundw
     case rel=>exact⟨k+1,true,os,o_,gn_,rfl,o_,by have h:=HO.out;rw[HN.out]at h;rw[HN.out];exact h,by rw[<-HP.out,aMx],HB.out⟩
     case measure=>simp[intOf];omega
    ·have hne:(y != m)=true:=by simpa using hym
     have hne2:decide (y=m)=false:=decide_eq_false hym
     go_wp2_with (first|(at_builtin;refine wpList_append_own _ rfl _ _ 23 rfl w.heap.size 3 i0 (iv 0) 1 8 underlying23 hi hz0 hz1 hz2 rfl dc_ _ _ _ rfl (HO.out.alloc _) ⟨wr.heap.size,0,none⟩ 1 1 [iv y] rfl rfl (cell_one_new _ _ _) (by simp[Value.oneCell']) (by unfold maxLen;omega) o_ (by simp;omega) ?_;intro v1 w1 ho1 hg1 _;obtain⟨g_v1,c_v1,rfl,_,_⟩:=World.ownsRow.form ho1 (Nat.succ_pos _);have c_w1:=pB h1 hb HO.out hg1))
     go_roundw
     case rel=>exact⟨k+1,true,os++[y],o_,gn_,rfl,by simp;omega,mG ho1 HN.out,by rw[<-HP.out,aLf _ (.inl rfl) hym,List.append_assoc],fU HB.out HO.out hg1⟩
     case measure=>simp[intOf];omega
  ·have hd0:zs.drop k=[]:=List.drop_of_length_le (by rw[HL.out];omega)
   rw[hd0]at HP;clear hd0;cases dn with
   |false=>
    have hPV:pG m zs false=os++[m]:=HP.out.symm;have HPV:=hd_ hPV;clear hPV
    by_cases h6:no+1<=6
    ·have h6':(no:Int)+1<=6:=o_
     go_wp2_with (first|(at_builtin;refine wpList_append_own _ rfl _ _ 23 rfl w.heap.size 3 i0 (iv 0) 1 8 underlying23 hi hz0 hz1 hz2 rfl dc_ _ _ _ rfl (HO.out.alloc _) ⟨wr.heap.size,0,none⟩ 1 1 [iv m] rfl rfl (cell_one_new _ _ _) (by simp[Value.oneCell']) (by unfold maxLen;omega) o_ (by simp;omega) ?_;intro v1 w1 ho1 hg1 _;obtain⟨g_v1,c_v1,rfl,_,_⟩:=World.ownsRow.form ho1 (Nat.succ_pos _);obtain⟨cc1,cc2⟩:=zZ ho1))
     go_ret;refine⟨_,rfl,?_,fU HB.out HO.out hg1⟩;have o1:=mG ho1 HN.out;have e:pE zs m=os++[m]:=by unfold pE;rw[HPV.out,List.take_of_length_le (by simp;rw[<-HN.out];omega)]
     rw[e];exact o1
    ·have h6':¬(no:Int)+1<=6:=o_
     go_wp2_with (first|(at_builtin;refine wpList_append_own _ rfl _ _ 23 rfl w.heap.size 3 i0 (iv 0) 1 8 underlying23 hi hz0 hz1 hz2 rfl dc_ _ _ _ rfl (HO.out.alloc _) ⟨wr.heap.size,0,none⟩ 1 1 [iv m] rfl rfl (cell_one_new _ _ _) (by simp[Value.oneCell']) (by unfold maxLen;omega) o_ (by simp;omega) ?_;intro v1 w1 ho1 hg1 _;obtain⟨g_v1,c_v1,rfl,_,_⟩:=World.ownsRow.form ho1 (Nat.succ_pos _);obtain⟨cc1,cc2⟩:=zZ ho1))
     go_ret;refine⟨_,rfl,?_,fU HB.out HO.out hg1⟩;have o1:=mG ho1 HN.out;have e:pE zs m=(os++[m]).take 6:=by unfold pE;rw[HPV.out]
     rw[e];exact o1.take 6 (by simp;rw[<-HN.out];omega)
   |true=>
    have hPV:pG m zs false=os:=by rw[<-HP.out];unfold pG;simp
    have HPV:=hd_ hPV;clear hPV;have hcc:=zZ HO.out;obtain⟨cc1,cc2⟩:=hcc;have fin:∀k,k<=no->(k=no/\no<=6\/k=6)->cE wr w.heap.size (.slice x k cp) (pE zs m):=fun k hk h=>by
     have ho:=HO.out;have o1:cE wr w.heap.size (.slice x no cp) os:=by rw[HN.out]at ho;rw[HN.out];exact ho
     have hn:=HN.out;have e:pE zs m=os.take k:=by
      unfold pE;rw[HPV.out];rcases h with ⟨h,h6⟩|h
      ·rw[List.take_of_length_le o_,List.take_of_length_le o_]
      ·rw[h]
     rw[e];exact o1.take k o_
    have FIN:=hd_ fin;clear fin;have hx:(x=none/\no=0/\cp=0)\/∃g,x=some ⟨g,0,none⟩:=by
     rcases HO.out.2 with ⟨e,h0⟩|⟨g,cap,cur,e,_⟩
     ·exact .inl (by have:=Value.slice.inj e;exact this)
     ·exact .inr ⟨g,(Value.slice.inj e).1⟩
    rcases hx with ⟨rfl,rfl,rfl⟩|⟨g,rfl⟩
    ·go_wp2
     go_ret;exact⟨_,rfl,FIN.out 0 lr_ (.inl ⟨rfl,o_⟩),HB.out⟩
    ·have cc3:(no:Int)<=(cp:Int):=o_
     by_cases h6:no<=6
     ·have h6':(no:Int)<=6:=o_
      go_wp2;go_ret;exact⟨_,rfl,FIN.out no lr_ (.inl ⟨rfl,h6⟩),HB.out⟩
     ·have h6':¬(no:Int)<=6:=o_
      have c6:(6:Int)<=(cp:Int):=o_;go_wp2;go_ret;exact⟨_,rfl,FIN.out 6 o_ (.inr rfl),HB.out⟩
theorem aFq (w:World) (m:Int):Calls prog 225 #[zn,iv m] w fun e w'=>∃v,e=.returned v/\cE w' w.heap.size v (pE [] m)/\Below w.heap.size w w':=by
 obtain⟨i0,hi,hz0,hz1,hz2⟩:=info_parts aAF;have HO:=hd_ (aCy w w.heap.size lr_);have hbl:=(Below.refl w.heap.size w).alloc lr_ (.cells #[] 3);have HB:=hd_ hbl;clear hbl;go_enter func225,ntmps225;go_wp2;refine wp_loop_rounds 1 ?_;rw[rounds_succ]
 go_wp2_with (first|(at_builtin;refine wpList_append_own _ rfl _ _ 23 rfl w.heap.size 3 i0 (iv 0) 1 8 underlying23 hi hz0 hz1 hz2 rfl dc_ _ _ _ rfl (HO.out.alloc _) ⟨w.heap.size+1,0,none⟩ 1 1 [iv m] rfl rfl (by have:=cell_one_new (w.alloc (.cells #[] 3)) (iv m) 3;simpa using this) (by simp[Value.oneCell']) (by unfold maxLen;omega) o_ (by simp;omega) ?_;intro v1 w1 ho1 hg1 _;obtain⟨g_v1,c_v1,rfl,_,_⟩:=World.ownsRow.form ho1 (Nat.succ_pos _);obtain⟨cc1,cc2⟩:=zZ ho1))
 go_ret;refine⟨_,rfl,?_,fU HB.out HO.out hg1⟩;have o1:=mG (os:=[]) ho1 rfl;exact o1
theorem aJC (w:World) (v:Value) (zs:List Int) (m:Int) (h:dE w v zs) (hn:zs.length<=100):
  Calls prog 225 #[v,iv m] w fun e w'=>∃v,e=.returned v/\cE w' w.heap.size v (pE zs m)/\Below w.heap.size w w':=by
 rcases h with ⟨rfl,rfl⟩|⟨b,o,cap,rfl,_,_,hb,hc⟩
 ·exact aFq w m
 ·exact aGm w b o cap _ zs m rfl hn hb hc
def fC (zs:List Int) (t:Int):Bool:=fD zs&&jL t
def lU (zs:List Int) (t:Int):List Int:=if fC zs t=true then pE zs (gL t)else []
theorem sX {zs:List Int} {t:Int} (h:fC zs t=true):lU zs t=pE zs (gL t):=if_pos h
theorem aCJ {zs:List Int} {t:Int} (h:fC zs t=false):lU zs t=[]:=if_neg (by rw[h];simp)
theorem aEP (w:World) (u:Value) (zs:List Int) (t:Int) (h:dE w u zs) (hno:fC zs t=false):
  Calls prog 311 #[.agg #[u],iv t] w fun e w'=>e=.returned (.tuple #[.agg #[zn],.bool false])/\Below w.heap.size w w':=by
 have hA:=((Below.refl w.heap.size w).alloc lr_ (.cells #[u] 38)).alloc (by simp) (.cells #[zn] 38);have K:=hd_ (uX _ u zs (h.below hA lr_));have HA:=hd_ hA;clear hA;obtain⟨⟨x,c,hx⟩,_⟩:=h.cases;obtain⟨n,hn⟩:=nm_ zs.length;rw[<-hn]at hx;subst hx;clear h hn
 have cr:((w.alloc (.cells #[.slice x n c] 38)).alloc (.cells #[zn] 38)).cell? ⟨w.heap.size+1,0,none⟩=some (.slice none 0 0):=by rw[World.cell?_alloc_at (hn:=by simp)];simp
 have fr:((w.alloc (.cells #[.slice x n c] 38)).alloc (.cells #[zn] 38)).frozen? ⟨w.heap.size+1,0,none⟩=false:=World.frozen?_alloc_at _ _ _ _ (by simp);cases hok:fD zs with
 |false=>
  rw[hok]at K;clear hok hno;go_enter func311,ntmps311
  go_wp2_with fail
  refine K.out.mono ?_;rintro e w1 ⟨rfl,hb1⟩;have cr1:=cell_later hb1 cr;have fr1:w1.frozen? ⟨w.heap.size+1,0,none⟩=false:=by rw[hb1.frozen (by simp)];exact fr
  go_wp2;exact zAW
 |true=>
  rw[hok]at K;have ht:t<0\/63<t:=by
   unfold fC at hno;rw[hok]at hno;have:=(zQ t).1 (by simpa using hno);omega
  clear hok hno;go_enter func311,ntmps311
  go_wp2_with fail
  refine K.out.mono ?_;rintro e w1 ⟨rfl,hb1⟩;have cr1:=cell_later hb1 cr;have fr1:w1.frozen? ⟨w.heap.size+1,0,none⟩=false:=by rw[hb1.frozen (by simp)];exact fr
  go_wp2_with (go_at_call 66;refine (fZ _ _ _ _ ht).mono ?_;rintro e w' ⟨rfl,rfl⟩)
  exact zAW
theorem aDA (w:World) (u:Value) (zs:List Int) (t:Int) (h:dE w u zs) (hok:fD zs=true) (t0:0<=t) (t1:t<64):
  Calls prog 311 #[.agg #[u],iv t] w fun e w'=>∃v,e=.returned (.tuple #[.agg #[v],.bool true])/\cE w' w.heap.size v (pE zs (gL t))/\Below w.heap.size w w':=by
 have hA:=((Below.refl w.heap.size w).alloc lr_ (.cells #[u] 38)).alloc (by simp) (.cells #[zn] 38);have I:=hd_ (h.below hA lr_);have K:=hd_ (uX _ u zs I.out);rw[hok]at K;have HA:=hd_ hA;have hl:=(iS hok).1;have t2:t<=63:=o_;have KM:Hid (∀W,Calls prog 321 #[iv t] W fun e w'=>e=.returned (iv (gL t))/\W=w'):=fun W=>aIm t W
 have KP:Hid (∀W,dE W u zs->Calls prog 225 #[u,iv (gL t)] W fun e w'=>∃v,e=.returned v/\cE w' W.heap.size v (pE zs (gL t))/\Below W.heap.size W w'):=fun W hW=>aJC W u zs _ hW o_
 clear hA;obtain⟨⟨x,c,hx⟩,_⟩:=h.cases;obtain⟨n,hn⟩:=nm_ zs.length;rw[<-hn]at hx;subst hx;generalize gL t=M at *;clear h hn hok;have cb:((w.alloc (.cells #[.slice x n c] 38)).alloc (.cells #[zn] 38)).cell? ⟨w.heap.size,0,none⟩=some (.slice x n c):=by
  rw[World.cell?_alloc_past (hn:=by simp)];simp
 have cr:((w.alloc (.cells #[.slice x n c] 38)).alloc (.cells #[zn] 38)).cell? ⟨w.heap.size+1,0,none⟩=some (.slice none 0 0):=by rw[World.cell?_alloc_at (hn:=by simp)];simp
 have fr:((w.alloc (.cells #[.slice x n c] 38)).alloc (.cells #[zn] 38)).frozen? ⟨w.heap.size+1,0,none⟩=false:=World.frozen?_alloc_at _ _ _ _ (by simp);go_enter func311,ntmps311
 go_wp2_with fail
 refine K.out.mono ?_;rintro e w1 ⟨rfl,hb1⟩;have cb1:=cell_later hb1 cb;have cr1:=cell_later hb1 cr;have fr1:w1.frozen? ⟨w.heap.size+1,0,none⟩=false:=by rw[hb1.frozen (by simp)];exact fr
 have B1:=hd_ (HA.out.trans (hb1.mono HA.out.size));have I1:=hd_ (I.out.below hb1 lr_);have l1:w.heap.size+1<w1.heap.size:=World.block_lt_of_cell? _ _ cr1;clear hb1 cb cr fr I
 go_wp2_with (go_at_call 66;refine (aS _ _ _ _ t0 t2).mono ?_;rintro e w' ⟨rfl,rfl⟩)
 have KPd:Hid (Calls prog 225 #[.slice x n c,iv M] w1.drew fun e w'=>∃v,e=.returned v/\cE w' w1.drew.heap.size v (pE zs M)/\Below w1.drew.heap.size w1.drew w'):=KP.out w1.drew I1.out
 go_region_with (first|(go_at_call 321;refine (KM.out _).mono ?_;rintro e w' ⟨rfl,rfl⟩)|(go_at_call 225;refine KPd.out.mono ?_;rintro e w2 ⟨v,rfl,ho2,hb2⟩;obtain⟨xv,cv,rfl⟩:=ho2.form;have cr2:=cell_later hb2 cr1;have fr2:w2.frozen? ⟨w.heap.size+1,0,none⟩=false:=(hb2.frozen (p:=⟨w.heap.size+1,0,none⟩) l1).trans fr1))
 all_goals
  have ho3:=(ho2.kept (aF w2 ⟨w.heap.size+1,0,none⟩ (.slice xv (pE zs M).length cv)) (fun k e=>by simp at e;simp;omega)).base (B':=w.heap.size) (by simp;omega);have hr:=World.cell?_setCell_same w2 ⟨w.heap.size+1,0,none⟩ (.slice xv (pE zs M).length cv) cr2
  have hb3:Below w.heap.size w (w2.setCell ⟨w.heap.size+1,0,none⟩ (.slice xv (pE zs M).length cv)):=((B1.out.trans (Below.drew (Below.refl _ _))).trans (hb2.mono (by simp;omega))).setCell (by simp) _;have HR:=hd_ hr;have H3:=hd_ ho3;have HB3:=hd_ hb3;clear hr ho3 hb3;go_wp2;have hr:=HR.out
  exact bodyPost_ret (v:=.tuple #[.agg #[.slice xv (pE zs M).length cv],.bool true]) (by simp[results,results311,go_sem,hr]) rfl ⟨_,rfl,H3.out,HB3.out⟩
theorem aEK (w:World) (u:Value) (zs:List Int) (t:Int) (h:dE w u zs):
  Calls prog 311 #[.agg #[u],iv t] w fun e w'=>∃v,e=.returned (.tuple #[.agg #[v],.bool (fC zs t)])/\cE w' w.heap.size v (lU zs t)/\Below w.heap.size w w':=by
 cases hok:fC zs t with
 |false=>
  rw[aCJ hok];exact (aEP w u zs t h hok).mono fun e w' ⟨he,hb⟩=>⟨_,he,cE.nil _ _,hb⟩
 |true=>
  rw[sX hok];have h':fD zs=true/\jL t=true:=by unfold fC at hok;simpa using hok
  have ht:=(wF t).1 h'.2;exact aDA w u zs t h h'.1 ht.1 ht.2
end Go.Proofs.YtcblbdpdbggkbaaGreat
