/-
  What the laws of Kn need of the texts before it, part 2.
-/
import Derived.BigQuiet
import Derived.Deep.AppendLies
import Derived.Deep.MidRow
import Derived.Deep.QuietTactic
import Derived.Deep.RegionHeld3
import Derived.Deep.WholeRow
import Derived.DeepKeys5
import Derived.IntWalk
import Derived.KernelRfl
import Derived.Lib.Hide
import Derived.Lib.QuietBelow
import Derived.Maps.AppendAt
import Derived.Maps.Keyed
import Derived.OpenShut
import Derived.OrdersHeld
import Derived.RegionTactic
import Derived.StillTail
import Derived.Test.YtcblbdpdbggkbaaGreatRows
import Derived.WalkKit
import Derived.WalkLawsBesides
import Derived.WalkSpells
import Derived.Test.YtcblbdpdbggkbaaGreatSKn1
set_option maxRecDepth 100000
set_option maxHeartbeats 16000000
set_option linter.unusedVariables false
set_option linter.unusedSectionVars false
set_option linter.unusedSimpArgs false
namespace Go.Proofs.YtcblbdpdbggkbaaGreat
theorem zAb {P:Prop} (h:P:=by
 go_wp2;go_ret;exact⟨rfl,rfl⟩):P:=h
theorem zA7 {P:Prop} (h:P:=by
 exact .inl ⟨rfl,List.eq_nil_of_length_eq_zero h0⟩):P:=h
theorem zBq {P:Prop} (h:P:=by
 rw[List.range_succ,List.map_append,List.flatten_append,List.length_append,im (fun i hi=>hl i o_)];simp[hl m o_,Nat.succ_mul]):P:=h
theorem zBv {P:Prop} (h:P:=by
 simp only[htake]
 split
 ·rfl
 ·split
  ·rename_i h1 h2;subst h2;simp
  ·rename_i h1 h2;rw[List.getElem?_eq_none (by simp;omega)]):P:=h
theorem zBM {P:Prop} (h:P:=by
 have:i * size+size<=xs.length * size:=by rw[<-Nat.succ_mul];exact Nat.mul_le_mul_right _ hi
 omega):P:=h
end Go.Proofs.YtcblbdpdbggkbaaGreat
namespace Go.Proofs.YtcblbdpdbggkbaaGreat
open _root_.Go.Proofs.Tryz
open Go.RowKit
theorem o_ {p:Prop} (h:p:=by omega):p:=h
theorem nm_ {α:Sort _} (a:α):∃x,x=a:=⟨a,rfl⟩
inductive IV_ where
 |mk (x:Int)
def iv (x:Int):IV_:=.mk x
instance (x:Int):CoeDep IV_ (iv x) Value:=⟨.int .i64 x⟩
inductive ZN_ where
 |mk
def zn:ZN_:=.mk
instance:CoeDep ZN_ zn Value:=⟨.slice none 0 0⟩
theorem jC {k:IntKind} {a b:Int} (h:a=b):Ending.returned (.int k a)=.returned (.int k b):=by rw[h]
theorem aK {a b:Bool} (h:a=b):Ending.returned (.bool a)=.returned (.bool b):=by rw[h]
theorem kC (a:Int) (w:World) (h0:0<=a) (h1:a<64):
  Calls prog 106 #[.int .i64 a] w fun e w'=>e=.returned (.bool true)/\w=w':=by
 go_enter func106,ntmps106;go_wp2;go_ret;exact⟨rfl,rfl⟩
theorem nS (a:Int) (w:World) (h:a<0\/64<=a):
  Calls prog 106 #[.int .i64 a] w fun e w'=>e=.returned (.bool false)/\w=w':=by
 rcases h with h|h
 ·have h':¬ 0<=a:=by omega
  go_enter func106,ntmps106;exact zAb
 ·have h':¬a<64:=by omega
  have h'':0<=a:=by omega
  go_enter func106,ntmps106;exact zAb
theorem aS (n lo hi:Int) (w:World) (h0:lo<=n) (h1:n<=hi):
  Calls prog 66 #[.int .i64 n,.int .i64 lo,.int .i64 hi] w fun e w'=>e=.returned (.bool true)/\w=w':=by
 go_enter func66,ntmps66;go_wp2;go_ret;exact⟨rfl,rfl⟩
theorem fZ (n lo hi:Int) (w:World) (h:n<lo\/hi<n):
  Calls prog 66 #[.int .i64 n,.int .i64 lo,.int .i64 hi] w fun e w'=>e=.returned (.bool false)/\w=w':=by
 by_cases h':lo<=n
 ·have h1:¬n<=hi:=by omega
  go_enter func66,ntmps66;exact zAb
 ·go_enter func66,ntmps66
  exact zAb
def oR (i t:Int):Int:=if i=0 then (3 * t+t / 8) % 8 else if i=1 then (5 * t+t / 16+1) % 8 else (t+t / 4+2) % 8
theorem aKt (i t:Int):0<=oR i t/\oR i t<8:=by unfold oR;split<;>(try split)<;>omega
theorem aA2 (i t:Int) (w:World) (h0:0<=i) (h1:i<3) (h2:0<=t) (h3:t<64):
  Calls prog 179 #[iv i,iv t] w fun e w'=>e=.returned (iv (oR i t))/\w=w':=by
 rcases (by omega:i=0\/i=1\/i=2)with rfl|rfl|rfl
 all_goals
  clear h0 h1;go_enter func179,ntmps179
  go_wp2_with (go_at_call 106;refine (kC _ _ h2 h3).mono ?_;rintro e w' ⟨rfl,rfl⟩)
  go_ret;exact⟨jC rfl,rfl⟩
theorem aDO (i t:Int) (w:World) (h0:0<=i) (h1:i<3) (h2:0<=t) (h3:t<64):
  Calls prog 320 #[iv i,iv t] w fun e w'=>e=.returned (iv (oR i t))/\Below w.heap.size w w':=by
 rcases (by omega:i=0\/i=1\/i=2)with rfl|rfl|rfl
 all_goals
  clear h0 h1;go_enter func320,ntmps320;go_wp2;go_ret;exact⟨jC (by first|(simp[oR];done)|(simp[oR];omega)),((Below.refl _ _).alloc lr_ _).alloc (by simp) _⟩
def dE (w:World) (v:Value) (zs:List Int):Prop:=
 (v=.slice none 0 0/\zs=[])\/
 ∃b o cap,v=.slice (some ⟨b,o,none⟩) zs.length cap/\zs.length<=cap/\cap<=maxLen/\b<w.heap.size/\∀i,i<zs.length->w.cell? ⟨b,o+i,none⟩=some (.int .i64 (zs.getD i 0))
def Rws (w:World) (v:Value) (rs:List (List Int)):Prop:=
 (v=.slice none 0 0/\rs=[])\/
 ∃b o cap,v=.slice (some ⟨b,o,none⟩) rs.length cap/\rs.length<=cap/\cap<=maxLen/\b<w.heap.size/\∀i,i<rs.length->∃x,w.cell? ⟨b,o+i,none⟩=some x/\dE w x (rs.getD i [])
theorem dE.below {w w':World} {v:Value} {zs:List Int} (h:dE w v zs) {B:Nat} (hb:Below B w w') (hB:w.heap.size<=B):dE w' v zs:=by
 rcases h with h|⟨b,o,cap,rfl,h1,h2,h3,h4⟩
 ·exact .inl h
 ·exact .inr ⟨b,o,cap,rfl,h1,h2,Nat.lt_of_lt_of_le h3 hb.size,fun i hi=>by rw[hb.cell (by show b<B;omega)];exact h4 i hi⟩
theorem Rws.below {w w':World} {v:Value} {rs:List (List Int)} (h:Rws w v rs) {B:Nat} (hb:Below B w w') (hB:w.heap.size<=B):Rws w' v rs:=by
 rcases h with h|⟨b,o,cap,rfl,h1,h2,h3,h4⟩
 ·exact .inl h
 ·refine .inr ⟨b,o,cap,rfl,h1,h2,Nat.lt_of_lt_of_le h3 hb.size,fun i hi=>?_⟩
  obtain⟨x,hx,hi'⟩:=h4 i hi;exact⟨x,by rw[hb.cell (by show b<B;omega)];exact hx,hi'.below hb hB⟩
theorem kQ {α:Type} (l:List α) (k:Nat) (d:α) (h:k<l.length):l.getD k d ∈ l:=by
 rw[List.getD_eq_getElem?_getD,List.getElem?_eq_getElem h];exact List.getElem_mem h
theorem pF (zs:List Int) (k:Nat) (h:k<zs.length):(zs.take (k+1)).sum=(zs.take k).sum+zs.getD k 0:=by
 rw[List.take_succ_eq_append_getElem h,List.sum_append];simp[h]
theorem aI {P:Program} {f:FuncId} {args:Array Value} {w:World} {n:Nat} {v:Value}
  (h:Calls P f args (w.drewN n) fun e w'=>e=.returned v/\w.drewN n=w'):Calls P f args (w.drewN n) fun e w''=>e=.returned v/\∃m,w''=w.drewN m:=
 h.mono fun _ _ ⟨he,hm⟩=>⟨he,n,hm.symm⟩
theorem aLS (n:Int) (zs:List Int) (h:∀z ∈ zs,0<=z/\z<=n):0<=zs.sum/\zs.sum<=n * zs.length:=by
 induction zs with
 |nil=>simp
 |cons a l ih=>
  have h1:=ih (fun z hz=>h z (by simp[hz]));have h2:=h a (by simp);simp only[List.sum_cons,List.length_cons]
  constructor
  ·omega
  ·have:n * ((l.length+1:Nat):Int)=n * (l.length:Int)+n:=by rw[Int.natCast_add,Int.mul_add];simp
   omega
theorem sU (b o cap n:Nat) (zs:List Int) (w:World) (hn:zs.length=n) (hl:n<=8) (hz:∀k,k<n->0<=zs.getD k 0/\zs.getD k 0<=2000)
  (hc:∀i,i<n->w.cell? ⟨b,o+i,none⟩=some (.int .i64 (zs.getD i 0))):
  Calls prog 224 #[.slice (some ⟨b,o,none⟩) n cap] w fun e w'=>e=.returned (iv zs.sum)/\w=w':=by
 subst hn;have hz:∀z ∈ zs,0<=z/\z<=2000:=fun z h=>by
  obtain⟨k,hk,rfl⟩:=List.getElem_of_mem h;have:=hz k hk;simpa[hk]using this
 have hp:∀k,0<=(zs.take k).sum/\(zs.take k).sum<=16000:=fun k=>by
  have h:=aLS 2000 (zs.take k) (fun z hz'=>hz z (List.mem_of_mem_take hz'));have:(zs.take k).length<=8:=by simp;omega
  omega
 have hg:∀k,k<zs.length->0<=zs.getD k 0/\zs.getD k 0<=2000:=fun k hk=>by
  have:=hz (zs.getD k 0) (by simp[hk]);exact this
 have Hhp:=hd_ hp;have Hhg:=hd_ hg;have Hc:=hd_ hc;clear hp hg hc hz;go_enter func224,ntmps224;go_wp2
 go_loop [3,4] (fun n i=>∃k:Nat,k<=zs.length/\i=.int .i64 k/\n=.int .i64 (zs.take k).sum) (fun _ i=>zs.length - (intOf i).toNat)
 case atStart=>exact⟨0,Nat.zero_le _,rfl,rfl⟩
 case round=>
  obtain⟨k,hk,rfl,rfl⟩:=hrel;have h1:=(Hhp.out k)
  by_cases hlt:k<zs.length
  ·have h2:=Hhg.out k hlt
   have h3:=Hc.out k hlt;have hs:=hd_ (pF zs k hlt);generalize zs.getD k 0=x at h2 h3 hs;go_wp2
   go_round
   case rel=>exact⟨k+1,o_,gn_,by rw[hs.out]⟩
   case measure=>simp[intOf];omega
  ·go_wp2
   go_ret;exact⟨jC (by rw[List.take_of_length_le o_]),rfl⟩
theorem bC {w w1 w2:World} {row:Option Nat} (h1:w.grownBy w1 row) (h2:w1.grownBy w2 row):w.grownBy w2 row:=
 ⟨h2.os.trans h1.os,h2.tape.trans h1.tape,h2.output.trans h1.output,Nat.le_trans h1.size h2.size,fun k hk hr=>(h2.block k (Nat.lt_of_lt_of_le hk h1.size) hr).trans (h1.block k hk hr)⟩
theorem qM (w:World) (row:Option Nat):w.grownBy w row:=⟨rfl,rfl,rfl,Nat.le_refl _,fun _ _ _=>rfl⟩
theorem dH {w w':World} {row:Option Nat} (h:Below w.heap.size w w'):w.grownBy w' row:=⟨h.os,h.tape,h.output,h.size,fun k hk _=>h.block k hk⟩
theorem lY {w w':World} {row:Option Nat} (h:w.grownBy w' row) (n:Nat):w.grownBy (w'.drewN n) row:=⟨h.os,h.tape,h.output,h.size,h.block⟩
theorem sH {w w':World} {B a:Nat} (h:w.grownBy w' (some a)) (hB:B<=a) (hw:B<=w.heap.size):Below B w w':=
 ⟨h.os,h.tape,h.output,h.size,fun k hk=>h.block k o_ (by simp;omega)⟩
theorem aF (w:World) (a:Addr) (u:Value):w.grownBy (w.setCell a u) (some a.block):=
 ⟨rfl,rfl,rfl,by simp,fun k _ hk=>heap_setCell_other w a k u (fun e=>hk (by simp[e]))⟩
structure dO (S:Nat->Prop) (w w':World):Prop where
 os:w'.os=w.os
 tape:w'.tape=w.tape
 output:w'.output=w.output
 size:w.heap.size<=w'.heap.size
 block:∀k,k<w.heap.size->¬S k->w'.heap[k]? =w.heap[k]?
theorem dO.refl (S:Nat->Prop) (w:World):dO S w w:=⟨rfl,rfl,rfl,Nat.le_refl _,fun _ _ _=>rfl⟩
theorem dO.trans {S:Nat->Prop} {a b c:World} (h:dO S a b) (k:dO S b c):dO S a c:=
 ⟨k.os.trans h.os,k.tape.trans h.tape,k.output.trans h.output,Nat.le_trans h.size k.size,fun i hi hs=>(k.block i (Nat.lt_of_lt_of_le hi h.size) hs).trans (h.block i hi hs)⟩
theorem dO.of_grown {w w':World} {g:Nat} {S:Nat->Prop} (h:w.grownBy w' (some g)) (hS:S g):dO S w w':=
 ⟨h.os,h.tape,h.output,h.size,fun k hk hs=>h.block k hk (fun e=>by cases e;exact hs hS)⟩
theorem dO.below {S:Nat->Prop} {w w':World} {B:Nat} (h:dO S w w') (hB:B<=w.heap.size) (hS:∀k,S k->B<=k):Below B w w':=
 ⟨h.os,h.tape,h.output,h.size,fun k hk=>h.block k o_ (fun hs=>by have:=hS k hs;omega)⟩
def oK (rs:List (List Int)) (G C:Nat->Nat) (i:Nat):Value:=.slice (some ⟨G i,0,none⟩) (rs.getD i []).length (C i)
def cC (zs:List Int):List Value:=zs.map (Value.int .i64)
structure dP (w:World) (B:Nat) (u:Value) (rs:List (List Int)) (G C:Nat->Nat):Prop where
 hdr:w.ownsRow B 23 1 u rs.length ((List.range rs.length).map (oK rs G C))
 row:∀i,i<rs.length->w.ownsRow B 3 1 (oK rs G C i) (rs.getD i []).length (cC (rs.getD i []))
 off:∀i,i<rs.length->u.ownBlock≠some (G i)
 apart:∀i j,i<rs.length->j<rs.length->i≠j->G i≠G j
theorem wY (zs:List Int):(cC zs).length=zs.length:=by simp[cC]
theorem kU (zs:List Int) (i:Nat) (h:i<zs.length):(cC zs)[i]? =some (.int .i64 (zs.getD i 0)):=by simp[cC,h]
theorem aCu {w:World} {B:Nat} {v:Value} {zs:List Int} (h:w.ownsRow B 3 1 v zs.length (cC zs)):dE w v zs:=by
 rcases h.2 with ⟨rfl,h0⟩|⟨g,cap,cur,rfl,hb,hg,hn,hc,hs,ht⟩
 ·exact zA7
 ·refine .inr ⟨g,0,cap,rfl,hn,hc,(Array.getElem?_eq_some_iff.1 hg).1,fun i hi=>?_⟩
  have:=World.ownsRow.cellAt h i o_;rw[Nat.zero_add,this,kU _ _ hi]
theorem dP.rws {w:World} {B:Nat} {u:Value} {rs:List (List Int)} {G C:Nat->Nat} (h:dP w B u rs G C):Rws w u rs:=by
 have hh:=h.hdr;rcases hh.2 with ⟨rfl,h0⟩|⟨g,cap,cur,rfl,hb,hg,hn,hc,hs,ht⟩
 ·exact zA7
 ·refine .inr ⟨g,0,cap,rfl,hn,hc,(Array.getElem?_eq_some_iff.1 hg).1,fun i hi=>⟨_,?_,aCu (h.row i hi)⟩⟩
  have:=World.ownsRow.cellAt hh i o_;rw[Nat.zero_add,this];simp[hi]
theorem dP.grown {w w':World} {B:Nat} {u:Value} {rs:List (List Int)} {G C:Nat->Nat} {row:Option Nat} (h:dP w B u rs G C) (hg:w.grownBy w' row) (hr:∀k,row=some k->k<B):dP w' B u rs G C:=by
 have ne:∀{v:Value} {n:Nat} {e:TypeId} {xs:List Value},w.ownsRow B e 1 v n xs->v.ownBlock=none\/v.ownBlock≠row:=fun {v n e xs} ho=>by
  cases hv:v.ownBlock with
  |none=>exact .inl rfl
  |some k=>exact .inr (fun e=>by have:=(ho.lt k hv).1;have:=hr k e.symm;omega)
 exact⟨h.hdr.kept hg (ne h.hdr),fun i hi=>(h.row i hi).kept hg (ne (h.row i hi)),h.off,h.apart⟩
theorem dP.below {w w':World} {B B':Nat} {u:Value} {rs:List (List Int)} {G C:Nat->Nat} (h:dP w B u rs G C) (hg:Below B' w w') (hB:w.heap.size<=B'):dP w' B u rs G C:=
 h.grown (row:=none) ⟨hg.os,hg.tape,hg.output,hg.size,fun k hk _=>hg.block k o_⟩ (fun _ e=>by cases e)
theorem aU {w:World} {B B':Nat} {e:TypeId} {size:Nat} {v:Value} {n:Nat} {xs:List Value} (h:w.ownsRow B e size v n xs) (hB:B'<=B):w.ownsRow B' e size v n xs:=by
 obtain⟨h1,h2⟩:=h;refine⟨h1,?_⟩;rcases h2 with h2|⟨g,cap,cur,hv,hg,r⟩
 ·exact .inl h2
 ·exact .inr ⟨g,cap,cur,hv,Nat.le_trans hB hg,r⟩
theorem dP.base {w:World} {B B':Nat} {u:Value} {rs:List (List Int)} {G C:Nat->Nat} (h:dP w B u rs G C) (hB:B'<=B):dP w B' u rs G C:=
 ⟨aU h.hdr hB,fun i hi=>aU (h.row i hi) hB,h.off,h.apart⟩
theorem dP.snoc {w w':World} {B:Nat} {u:Value} {rs:List (List Int)} {G C:Nat->Nat} (h:dP w B u rs G C) {zs:List Int} {g c gg cap:Nat}
  (hz:w.ownsRow B 3 1 (.slice (some ⟨g,0,none⟩) zs.length c) zs.length (cC zs)) (hu:u.ownBlock≠some g) (hG:∀i,i<rs.length->G i≠g)
  (hown:w'.ownsRow B 23 1 (.slice (some ⟨gg,0,none⟩) (rs.length+1) cap) (rs.length+1) ((List.range rs.length).map (oK rs G C)++[.slice (some ⟨g,0,none⟩) zs.length c]))
  (hg:w.grownBy w' u.ownBlock) (hat:u.ownBlock=some gg\/gg=w.heap.size):
  dP w' B (.slice (some ⟨gg,0,none⟩) (rs.length+1) cap) (rs++[zs]) (fun i=>if i<rs.length then G i else g) (fun i=>if i<rs.length then C i else c):=by
 have e1:∀i,i<rs.length->oK (rs++[zs]) (fun i=>if i<rs.length then G i else g) (fun i=>if i<rs.length then C i else c) i=oK rs G C i:=fun i hi=>by
  simp[oK,hi,List.getElem?_append_left]
 have e2:oK (rs++[zs]) (fun i=>if i<rs.length then G i else g) (fun i=>if i<rs.length then C i else c) rs.length=.slice (some ⟨g,0,none⟩) zs.length c:=by
  simp[oK]
 have f1:∀i,i<rs.length->(rs++[zs]).getD i []=rs.getD i []:=fun i hi=>by simp[hi,List.getElem?_append_left]
 have f2:(rs++[zs]).getD rs.length []=zs:=by simp
 have lt1:∀i,i<rs.length->G i<w.heap.size:=fun i hi=>((h.row i hi).lt (G i) rfl).2
 have ltg:g<w.heap.size:=(hz.lt g rfl).2;refine⟨?_,fun i hi=>?_,fun i hi=>?_,fun i j hi hj hij=>?_⟩
 ·simp only[List.length_append,List.length_singleton]
  rw[List.range_succ,List.map_append,List.map_singleton,e2,List.map_congr_left (fun i hi=>e1 i (List.mem_range.1 hi))];exact hown
 ·simp only[List.length_append,List.length_singleton]at hi
  by_cases hi':i<rs.length
  ·rw[e1 i hi',f1 i hi']
   exact (h.row i hi').kept hg (.inr (fun e=>h.off i hi' e.symm))
  ·obtain rfl:i=rs.length:=o_
   rw[e2,f2];exact hz.kept hg (.inr (fun e=>hu e.symm))
 ·simp only[List.length_append,List.length_singleton]at hi
  intro e;have e':gg=if i<rs.length then G i else g:=by simpa[Value.ownBlock]using e
  by_cases hi':i<rs.length
  ·rw[if_pos hi']at e'
   rcases hat with hat|hat
   ·exact h.off i hi' (by rw[hat,e'])
   ·have:=lt1 i hi';omega
  ·rw[if_neg hi']at e'
   rcases hat with hat|hat
   ·exact hu (by rw[hat,e'])
   ·omega
 ·simp only[List.length_append,List.length_singleton]at hi hj
  show (if i<rs.length then G i else g)≠(if j<rs.length then G j else g)
  by_cases hi':i<rs.length<;>by_cases hj':j<rs.length
  ·rw[if_pos hi',if_pos hj'];exact h.apart i j hi' hj' hij
  ·rw[if_pos hi',if_neg hj'];exact hG i hi'
  ·rw[if_neg hi',if_pos hj'];exact fun e=>hG j hj' e.symm
  ·omega
theorem dP.store {w:World} {B:Nat} {u:Value} {rs:List (List Int)} {G C:Nat->Nat} (h:dP w B u rs G C) (i k:Nat) (z:Int) (hi:i<rs.length) (hk:k<(rs.getD i []).length):
  dP (w.setCell ⟨G i,k,none⟩ (iv z)) B u (rs.set i ((rs.getD i []).set k z)) G C/\w.grownBy (w.setCell ⟨G i,k,none⟩ (iv z)) (some (G i)):=by
 have hg:=aF w ⟨G i,k,none⟩ (iv z);have eL:∀j,((rs.set i ((rs.getD i []).set k z)).getD j []).length=(rs.getD j []).length:=fun j=>by
  simp only[List.getD_eq_getElem?_getD,List.getElem?_set]
  by_cases e:i=j
  ·subst e;simp[hi]
  ·simp[e]
 have eV:∀j,oK (rs.set i ((rs.getD i []).set k z)) G C j=oK rs G C j:=fun j=>by unfold oK;rw[eL]
 refine⟨⟨?_,fun j hj=>?_,fun j hj=>h.off j (by simpa using hj),fun a b ha hb hab=>h.apart a b (by simpa using ha) (by simpa using hb) hab⟩,hg⟩
 ·simp only[List.length_set]
  rw[List.map_congr_left (fun j _=>eV j)];exact h.hdr.kept hg (.inr (h.off i hi))
 ·simp only[List.length_set]at hj
  rw[eV,eL]
  by_cases e:j=i
  ·subst e
   have:=((h.row j hj).stored k (iv z)).1;have e':cC ((rs.set j ((rs.getD j []).set k z)).getD j [])=(cC (rs.getD j [])).set k (iv z):=by
    simp[cC,hj,List.map_set]
   rw[e'];exact this
  ·have e':(rs.set i ((rs.getD i []).set k z)).getD j []=rs.getD j []:=by simp[Ne.symm e]
   rw[e'];exact (h.row j hj).kept hg (.inr (by simp[oK,Value.ownBlock];exact h.apart j i hj hi e))
end Go.Proofs.YtcblbdpdbggkbaaGreat
namespace Go.Proofs.YtcblbdpdbggkbaaGreat
open _root_.Go.Proofs.Tryz
open Go.RowKit Go.Sort
structure Boxed (p:Prop):Prop where
 out:p
theorem dX {P:Program} {ops:Array Oper} {C:World->Prop} {Q:Act->Prop} {a:Act} {o:Oper} {rest:List Oper}
  (h:∀K:Act->Prop,(∀a,Boxed (wpQuiet P ops C Q rest a)->K a)->if Region.wanted o (yielded ops a.tmps)then o.quiet P a C K else K (a.put o.dst undef)):Boxed (wpQuiet P ops C Q (o::rest) a):=
 ⟨wpQuiet_step fun K hK=>h K fun a ha=>hK a ha.out⟩
theorem fF {P:Program} {ops:Array Oper} {C:World->Prop} {Q:Act->Prop} {a:Act} (h:Q a):Boxed (wpQuiet P ops C Q [] a):=⟨h⟩
theorem fA {P:Program} {id:Nat} {Q:Exit->Act->World->Prop} {a:Act} {w:World} {l:List Oper} (hm:P.follows .mixedOrders=true) (hB:Region.lexB .any l.toArray=true)
  (h:Boxed (wpQuiet P l.toArray (fun w'=>∃p:Regrown,w'=grow (redrawn w p.d) p.os) (fun a'=>∀w',(∃p:Regrown,w'=grow (redrawn w p.d) p.os)->Q .normal a' w') l a)):(Code.region id l.toArray true).wp P Q a w:=
 wp_region_quiet_below hm hB h.out
def rT (o:Oper):Oper:={ o with op:=.move (.const (.bool false)) }
section
variable {P:Program} {md:Region.Mode} {C:World->Prop}
theorem aFs {A B:Array Oper} (hs:A.size=B.size) (h:∀j:Nat,(A[j]?).map Oper.after=(B[j]?).map Oper.after) (listed:Array Bool):Region.ready md A listed=Region.ready md B listed:=by
 have e:∀j,j ∈ Region.ready md A listed↔j ∈ Region.ready md B listed:=fun j=>by
  rw[mem_ready,mem_ready];have hj:=h j
  constructor
  ·rintro⟨h1,o,ho,h2⟩
   rw[ho]at hj;cases hB:B[j]? with
   |none=>rw[hB]at hj;cases hj
   |some o'=>
    rw[hB]at hj;have e:o.after=o'.after:=by simpa using hj
    exact⟨h1,o',rfl,fun e' he'=>h2 e' (by rw[e];exact he')⟩
  ·rintro⟨h1,o,ho,h2⟩
   rw[ho]at hj;cases hA:A[j]? with
   |none=>rw[hA]at hj;cases hj
   |some o'=>
    rw[hA]at hj;have e:o'.after=o.after:=by simpa using hj
    exact⟨h1,o',rfl,fun e' he'=>h2 e' (by rw[<-e];exact he')⟩
 unfold Region.ready at e ⊢;rw[hs]at e ⊢;apply List.filter_congr;intro j hj;have:=e j;simp only[List.mem_filter,hj,true_and]at this;exact Bool.eq_iff_iff.2 this
theorem aC1 {A B:Array Oper} (h:∀j:Nat,(A[j]?).bind Oper.dst=(B[j]?).bind Oper.dst) (tmps:Array Value):yielded A tmps=yielded B tmps:=by
 funext j
 have h':((A[j]?).bind fun x=>x.dst)=(B[j]?).bind fun x=>x.dst:=h j
 unfold yielded;rw[h']
theorem sI {A B:Array Oper} (h:∀tmps,yielded A tmps=yielded B tmps) {Q:Act->Prop}:∀(l:List Oper) (a:Act),wpQuiet P A C Q l a->wpQuiet P B C Q l a
 | [],_,hh=>hh
 |o::l,a,hh=>by
  unfold wpQuiet at hh ⊢;rw[<-h]
  split
  ·rename_i hw
   rw[if_pos hw]at hh;exact Oper.quiet_mono (fun a'=>sI h l a') hh
  ·rename_i hw
   rw[if_neg hw]at hh;exact sI h l _ hh
theorem rJ {A:Array Oper} {R R':Act->Prop} (ho:∀a,R a->R' a):∀(l:List Oper) (a:Act),wpQuiet P A C R l a->wpQuiet P A C R' l a
 | [],a,hh=>ho a hh
 |p::l,a,hh=>by
  unfold wpQuiet at hh ⊢
  split
  ·rename_i hw
   rw[if_pos hw]at hh;exact Oper.quiet_mono (fun a'=>rJ ho l a') hh
  ·rename_i hw
   rw[if_neg hw]at hh;exact rJ ho l _ hh
theorem rH {A:Array Oper} {R R':Act->Prop} {o:Oper} (ho:∀a,R a->wpQuiet P A C R' [o] a):∀(l:List Oper) (a:Act),wpQuiet P A C R l a->wpQuiet P A C R' (l++[o]) a
 | [],a,hh=>ho a hh
 |p::l,a,hh=>by
  rw[List.cons_append];unfold wpQuiet at hh ⊢
  split
  ·rename_i hw
   rw[if_pos hw]at hh;exact Oper.quiet_mono (fun a'=>rH ho l a') hh
  ·rename_i hw
   rw[if_neg hw]at hh;exact rH ho l _ hh
def tN (P:Program) (o:Oper) (Q:Exit->Act->World->Prop) (a:Act) (w:World):Prop:=o.wp P a w (fun a w=>Q .normal a w) Q\/(o.asks P a w/\LetsOut Q)
def aKe (A:Array Oper):Bool:=(List.range A.size).all fun i=>match A[i]? with|some o=>o.after.all fun e=>decide (e.on<i)|none=>true
theorem aBa {A:Array Oper} {listed:Array Bool} (hb:aKe A=true) (hsz:listed.size=A.size):∀(i:Nat),i<A.size->listed.getD i true=false->∃j,j ∈ Region.ready md A listed:=by
 intro i
 induction i using Nat.strongRecOn with
 |_ i ih=>
  intro hi hun
  by_cases hr:i ∈ Region.ready md A listed
  ·exact⟨i,hr⟩
  ·have ho:A[i]? =some A[i]:=Array.getElem?_eq_getElem hi
   have h1:=List.all_eq_true.1 hb i (List.mem_range.2 hi);rw[ho]at h1;simp only at h1;have:∃e ∈ A[i].after,listed.getD e.on false≠true:=by
    apply Classical.byContradiction;intro hno;apply hr;rw[mem_ready];refine⟨hun,_,ho,fun e he _=>?_⟩;apply Classical.byContradiction;exact fun hne=>hno ⟨e,he,hne⟩
   obtain⟨e,he,hne⟩:=this;have hlt:e.on<i:=by
    obtain⟨k,hk,rfl⟩:=Array.getElem_of_mem he;have:=Array.all_eq_true.1 h1 k hk;simpa using this
   refine ih e.on hlt (by omega) ?_;exact getD_in (by omega) (by simpa using hne)
theorem uE {A B:Array Oper} {n:Nat} {o:Oper} {Q':Exit->Act->World->Prop} (hn:n+1=A.size) (hsz:B.size=A.size) (hrd:∀listed,Region.ready md B listed=Region.ready md A listed)
  (hhead:∀j,j<n->B[j]? =A[j]?) (hlast:A[n]? =some o) (hquiet:B[n]? =some (rT o)) (hdst:o.dst=none) (hguard:o.guard=none) (hy:∀tmps,yielded B tmps=yielded A tmps)
  (hs:Region.sinkB md A n=true) (hc:Region.chainB md A n=true) (hback:aKe A=true):
  ∀(fuel:Nat) (listed:Array Bool) (a:Act) (w:World),HeadInv md A n listed->(∃j,j ∈ Region.ready md A listed)->C w->
   wpAnyQ P md B C (fun a'=>∀w',C w'->tN P o Q' a' w') fuel listed a->wpAny P md A Q' fuel listed a w
 | 0,listed,a,w,_,hj,_,h=>by
  obtain⟨j,hj⟩:=hj;have h0:Region.ready md B listed=[]:=h.1;rw[hrd]at h0;rw[h0]at hj;cases hj
 |fuel+1,listed,a,w,inv,hj,hw,h=>by
  obtain⟨j,hj⟩:=hj;refine⟨fun h0=>(by rw[h0]at hj;cases hj),fun i hi=>?_⟩;have h2:=h.2 i (by rw[hrd];exact hi);have hiA:i<A.size:=by
   obtain⟨_,oi,hoi,_⟩:=mem_ready.1 hi;exact (Array.getElem?_eq_some_iff.1 hoi).1
  by_cases hin:i<n
  ·-- an operation aCt of the last:the same in both
   have inv':=inv.set hi hin;have hB:B[i]? =A[i]? :=hhead i hin;have hq:qOp P A C i (wpAnyQ P md B C (fun a'=>∀w',C w'->tN P o Q' a' w') fuel (listed.setIfInBounds i true)) a:=by
    unfold qOp at h2 ⊢;rw[hB]at h2;cases hA:A[i]? with
    |none=>rw[hA]at h2;exact h2
    |some oi=>
     rw[hA]at h2;simp only at h2 ⊢;rw[hy]at h2;exact h2
   refine wpOp_of_qOp hw (fun a' w' hw' h3=>?_) hq
   -- the last is not yet carried out:something may come up
   have hlt:listed.getD n true=false:=inv.tail n lr_ o_;have hun:(listed.setIfInBounds i true).getD n true=false:=by rw[getD_set_ne true o_];exact hlt
   have hsome:=aBa (md:=md) hback inv'.size n o_ hun;exact uE hn hsz hrd hhead hlast hquiet hdst hguard hy hs hc hback fuel _ a' w' inv' hsome hw' h3
  ·obtain rfl:i=n:=o_
   -- the last:all others are carried out
   have hall:∀k,k<i->listed.getD k true=true:=fun k hk=>by
    cases hl:listed.getD k true with
    |true=>rfl
    |false=>exact absurd hi (tail_waits hs hc o_ inv _ k rfl hk hl i lr_)
   have hend:Region.ready md A (listed.setIfInBounds i true)=[]:=by
    cases hr:Region.ready md A (listed.setIfInBounds i true)with
    |nil=>rfl
    |cons x xs=>
     have hx:x ∈ Region.ready md A (listed.setIfInBounds i true):=by rw[hr];simp
     obtain⟨hu,ox,hox,_⟩:=mem_ready.1 hx;have hxA:=(Array.getElem?_eq_some_iff.1 hox).1;have hxs:x<listed.size:=by rw[inv.size];exact hxA
     by_cases e:i=x
     ·subst e
      simp[hxs]at hu
     ·rw[getD_set_ne true e]at hu
      rw[hall x o_]at hu;cases hu
   have hq:wpAnyQ P md B C (fun a'=>∀w',C w'->tN P o Q' a' w') fuel (listed.setIfInBounds i true) a:=by
    unfold qOp at h2;rw[hquiet]at h2;simp only at h2;have hp:∀v,a.put (rT o).dst v=a:=fun v=>by show a.put o.dst v=a;rw[hdst];rfl
    split at h2
    ·obtain⟨v,_,h3⟩:=h2
     rw[hp]at h3;exact h3
    ·rw[hp]at h2
     exact h2
   have hR:∀w',C w'->tN P o Q' a w':=by
    cases fuel with
    |zero=>exact hq.2
    |succ f=>exact hq.1 (by rw[hrd];exact hend)
   unfold wpOp;rw[hlast];simp only;have hwd:Region.wanted o (yielded A a.tmps)=true:=by simp[Region.wanted,hguard]
   rw[if_pos hwd];rcases hR w hw with h3|h3
   ·refine .inl (Oper.wp_mono (fun a' w' hq'=>?_) h3)
    cases fuel with
    |zero=>exact⟨hend,hq'⟩
    |succ f=>exact⟨fun _=>hq',fun k hk=>by rw[hend]at hk;cases hk⟩
   ·exact .inr h3
theorem kE {id:Nat} {Q:Exit->Act->World->Prop} {a:Act} {w:World} {l:List Oper} (n:Nat) (o:Oper) (hl:l.drop n=[o]) (hdst:o.dst=none) (hguard:o.guard=none)
  (hm:P.follows .mixedOrders=true) (hB:Region.lexB .any (l.take n++[rT o]).toArray=true) (hs:Region.sinkB .any l.toArray n=true) (hc:Region.chainB .any l.toArray n=true) (hback:aKe l.toArray=true)
  (hC:C { w with drawn:=w.drawn+1 }) (h:Boxed (wpQuiet P l.toArray C (fun a'=>∀w',C w'->wpList P l.toArray Q [o] a' w') (l.take n) a)):(Code.region id l.toArray true).wp P Q a w:=by
 replace h:=h.out;have hn:n<l.length:=by
  apply Classical.byContradiction;intro hno;rw[List.drop_of_length_le o_]at hl;cases hl
 have hlen:n+1=l.length:=by
  have:=congrArg List.length hl;simp at this;omega
 have htake:(l.take n).length=n:=by simp;omega
 have hsplit:l=l.take n++[o]:=by rw[<-hl,List.take_append_drop]
 have gA:∀j:Nat,l.toArray[j]? =if j<n then (l.take n)[j]? else if j=n then some o else none:=fun j=>by
  rw[List.getElem?_toArray]
  conv=>lhs;rw[hsplit]
  rw[List.getElem?_append];exact zBv
 have gB:∀j:Nat,(l.take n++[rT o]).toArray[j]? =if j<n then (l.take n)[j]? else if j=n then some (rT o)else none:=fun j=>by
  rw[List.getElem?_toArray,List.getElem?_append];exact zBv
 have hsz:(l.take n++[rT o]).toArray.size=l.toArray.size:=by simp;omega
 have haft:∀j:Nat,((l.take n++[rT o]).toArray[j]?).map Oper.after=(l.toArray[j]?).map Oper.after:=fun j=>by
  rw[gA,gB];split
  ·rfl
  ·split<;>rfl
 have hdd:∀j:Nat,((l.take n++[rT o]).toArray[j]?).bind Oper.dst=(l.toArray[j]?).bind Oper.dst:=fun j=>by
  rw[gA,gB];split
  ·rfl
  ·split<;>rfl
 have hy:=aC1 hdd;have hwd:∀t,Region.wanted o t=true:=fun t=>by simp[Region.wanted,hguard]
 have h1:wpQuiet P (l.take n++[rT o]).toArray C (fun a'=>∀w',C w'->tN P o Q a' w') (l.take n++[rT o]) a:=by
  refine rH (R:=fun a'=>∀w',C w'->tN P o Q a' w') (fun a' hR=>?_) _ _ (sI (fun t=>(hy t).symm) _ _ ?_)
  ·unfold wpQuiet
   have hw':Region.wanted (rT o) (yielded (l.take n++[rT o]).toArray a'.tmps)=true:=by simp[Region.wanted,rT,hguard]
   rw[if_pos hw'];refine⟨.bool false,fun w' _=>?_,?_⟩
   ·unfold Oper.quietAt
    show Oper.quietUpon P C w' (.bool false) ((execOp a'.eval (rT o)).run P w')
    simp[rT,execOp,Oper.quietUpon,Act.eval]
   ·unfold wpQuiet
    have:a'.put (rT o).dst (.bool false)=a':=by show a'.put o.dst _=a';rw[hdst];rfl
    rw[this];exact hR
  ·refine rJ (fun a' h2 w' hw'=>?_) _ _ h
   have h3:=h2 w' hw';unfold wpList at h3;rw[if_pos (hwd _)]at h3;exact h3
 refine wp_region_any hm ?_;have hlex:=hB;simp only[Region.lexB,Bool.and_eq_true]at hlex;have h2:=wpAnyQ_lex (C:=C) (md:=.any) hlex.1 (l.take n++[rT o]) 0 (Array.replicate l.toArray.size false) a (by simp) (by rw[<-hsz];simpa using hlex.2) h1;have h3:(l.take n++[rT o]).length=l.toArray.size:=by simp;omega
 rw[h3]at h2;have inv0:HeadInv .any l.toArray n (Array.replicate l.toArray.size false):=
  ⟨by simp,fun j oj _ hl=>(by rw[getD_replicate_false]at hl;cases hl),fun t _ ht=>getD_in (by simpa using ht) (getD_replicate_false _ _)⟩
 have hrd:=fun listed=>aFs (md:=.any) hsz haft listed
 refine uE (n:=n) (o:=o) (by simpa using hlen) hsz hrd (fun j hj=>by rw[gA,gB,if_pos hj,if_pos hj]) (by rw[gA,if_neg o_,if_pos rfl]) (by rw[gB,if_neg o_,if_pos rfl]) hdst hguard hy hs hc hback _ _ _ _ inv0 ?_ hC h2;exact aBa hback (by simp) n (by simpa using hn) (getD_in (by simpa using hn) (getD_replicate_false _ _))
end
end Go.Proofs.YtcblbdpdbggkbaaGreat
namespace Go.Proofs.YtcblbdpdbggkbaaGreat
open _root_.Go.Proofs.Tryz
open Go.RowKit
def Bts (w:World) (a:Nat) (v:Value) (n:Nat):Prop:=
 (n=0/\∃x cap,v=.slice x 0 cap)\/
 ∃b o cap,v=.slice (some ⟨b,o,none⟩) n cap/\n<=cap/\b<a/\∀i,i<n->∃z:Int,w.cell? ⟨b,o+i,none⟩=some (.int .u8 z)/\0<=z/\z<=255
def Rd (w:World) (a:Nat) (p:Int):Prop:=
 ∃v n,w.heap[a]? =some (.cells #[v,iv p] 186 (0,0))/\Bts w a v n/\n<=2000
theorem Bts.grown {w w':World} {a n:Nat} {v:Value} {row:Option Nat} (h:Bts w a v n) (hg:w.grownBy w' row) (hr:∀k,row=some k->a<=k):Bts w' a v n:=by
 rcases h with h|⟨b,o,cap,rfl,h1,h2,h3⟩
 ·exact .inl h
 ·refine .inr ⟨b,o,cap,rfl,h1,h2,fun i hi=>?_⟩
  obtain⟨z,hz,hb⟩:=h3 i hi;refine⟨z,hg.cell hz (fun e=>?_),hb⟩;have:=hr _ e.symm;simp at this;omega
theorem aFZ (w:World) (x:Option Addr) (n cap:Nat) (v:Value) (hv:v=.slice x n cap) (hn:n<=2000):
  Calls prog 63 #[v] w fun e w'=>e=.returned (.pointer (some ⟨w.heap.size,0,none⟩))/\w.alloc (.cells #[v,iv 0] 186)=w':=by
 subst hv;have hn':¬(2000:Int)<(n:Int):=o_;go_enter func63,ntmps63;go_wp2;go_ret;exact⟨rfl,rfl⟩
theorem aFF (w:World) (b o n cap:Nat) (hn:2000<n) (hc:n<=cap):
  Calls prog 63 #[.slice (some ⟨b,o,none⟩) n cap] w fun e w'=>e=.returned (.pointer (some ⟨w.heap.size,0,none⟩))/\w.alloc (.cells #[.slice (some ⟨b,o,none⟩) 2000 cap,iv 0] 186)=w':=by
 have hn':(2000:Int)<(n:Int):=o_;have hc':(2000:Int)<=(cap:Int):=o_;go_enter func63,ntmps63;go_wp2;go_ret;exact⟨rfl,rfl⟩
theorem aCC (a:Nat) (ha:a<1073741824):(BitVec.ofInt 64 (a:Int)).toNat=a:=by
 rw[BitVec.ofInt_natCast,BitVec.toNat_ofNat];exact Nat.mod_eq_of_lt o_
theorem zR (a b:Int) (ha:0<=a) (hb:0<=b) (ha':a<1073741824) (hb':b<1073741824):0<=bits .xor .i64 a b/\bits .xor .i64 a b<1073741824:=by
 obtain⟨A,rfl⟩:=Int.eq_ofNat_of_zero_le ha;obtain⟨B,rfl⟩:=Int.eq_ofNat_of_zero_le hb;have hx:A ^^^ B<2 ^ 30:=Nat.xor_lt_two_pow o_ o_;have e:bits .xor .i64 (A:Int) (B:Int)=((A ^^^ B:Nat):Int):=by
  show IntKind.i64.wrap ((BitVec.ofInt 64 (A:Int) ^^^ BitVec.ofInt 64 (B:Int)).toNat:Int)=_
  rw[BitVec.toNat_xor,aCC A o_,aCC B o_];exact IntWalk.i64_in _ o_
 rw[e];omega
theorem Rd.step {w:World} {a:Nat} {v u:Value} {p q:Int} {n:Nat} (hA:w.heap[a]? =some (.cells #[v,iv p] 186 (0,0))) (hB:Bts w a v n) (hn:n<=2000) (hu:u=.int .i64 q):
  Rd (w.setCell ⟨a,1,none⟩ u) a q/\w.grownBy (w.setCell ⟨a,1,none⟩ u) (some a):=by
 subst hu;have hg:w.grownBy (w.setCell ⟨a,1,none⟩ (iv q)) (some a):=⟨rfl,rfl,rfl,by simp,fun k _ hk=>heap_setCell_other w ⟨a,1,none⟩ k _ (fun e=>hk (by simp[e]))⟩
 exact⟨⟨v,n,by rw[heap_setCell_same w a 1 _ _ _ hA];rfl,hB.grown hg (fun k hk=>by cases hk;exact Nat.le_refl _),hn⟩,hg⟩
theorem Rd.drewN {w:World} {a:Nat} {p:Int} (h:Rd w a p) (n:Nat):Rd (w.drewN n) a p:=h
theorem aFH (x n:Int) (hn:1<=n):0<=x % n/\x % n<n:=⟨Int.emod_nonneg _ o_,Int.emod_lt_of_pos _ o_⟩
theorem aKV (x n:Int) (hx:0<=x) (hn:1<=n):0<=x.tmod n/\x.tmod n<n:=by rw[Int.tmod_eq_emod_of_nonneg hx];exact aFH x n hn
theorem aJF (w:World) (a:Nat) (p n:Int) (h:Rd w a p) (hp:0<=p) (hp':p<=100000) (hn:1<=n) (hn':n<=10000):
  Calls prog 65 #[.pointer (some ⟨a,0,none⟩),iv n] w fun e w'=>∃v,e=.returned (iv v)/\0<=v/\v<n/\Rd w' a (p+1)/\w.grownBy w' (some a)/\w'.cell? ⟨a,0,none⟩=w.cell? ⟨a,0,none⟩:=by
 obtain⟨bs,len,hA,hB,hlen⟩:=h;obtain⟨P,rfl⟩:=Int.eq_ofNat_of_zero_le hp;have c0:w.cell? ⟨a,0,none⟩=some bs:=by simp[World.cell?,hA]
 have c1:w.cell? ⟨a,1,none⟩=some (.int .i64 P):=by simp[World.cell?,hA]
 have f1:w.frozen? ⟨a,1,none⟩=false:=by simp[World.frozen?,hA]
 have hR:=Rd.step (u:=.int .i64 ((P:Int)+1)) hA hB hlen rfl;have HR:=hd_ hR;have d0:(w.setCell ⟨a,1,none⟩ (iv (P+1))).cell? ⟨a,0,none⟩=some bs:=(World.cell?_setCell_other (h:=by simp) ..).trans c0;have d1:(w.setCell ⟨a,1,none⟩ (iv (P+1))).cell? ⟨a,1,none⟩=some (.int .i64 (P+1)):=World.cell?_setCell_same _ _ _ c1;have HC:=hd_ (d0.trans c0.symm);have zero:0<=(0:Int)/\(0:Int)<n:=o_;clear hA hR
 by_cases h0:len=0
 ·obtain⟨x,cap,rfl⟩:∃x cap,bs=.slice x 0 cap:=by
   rcases hB with ⟨_,x,cap,rfl⟩|⟨b,o,cap,rfl,_⟩
   ·exact⟨x,cap,rfl⟩
   ·exact⟨_,cap,by rw[h0]⟩
  clear hB h0;go_enter func65,ntmps65;go_wp2;go_ret;exact⟨0,rfl,zero.1,zero.2,HR.out.1,HR.out.2,HC.out⟩
 ·rcases hB with ⟨h,_⟩|⟨b,o,cap,rfl,hc,hb,hz⟩
  ·exact absurd h h0
  have hz':∀i,i<len->∃z:Int,(w.setCell ⟨a,1,none⟩ (iv (P+1))).cell? ⟨b,o+i,none⟩=some (.int .u8 z)/\0<=z/\z<=255:=fun i hi=>by
   obtain⟨z,h1,h2⟩:=hz i hi;exact⟨z,(World.cell?_setCell_other (h:=fun h=>by injection h with h;omega) ..).trans h1,h2⟩
  have l0:((len:Int)==0)=false:=by simp;omega
  have l1:(1:Int)<=(len:Int):=o_;have n0:(n==0)=false:=by simp;omega
  have Hz:=hd_ hz';clear hz hz' hc h0
  by_cases hk:P<len
  ·obtain⟨z,hz,z0,z1⟩:=Hz.out P hk
   go_enter func65,ntmps65;go_wp2;go_ret;exact⟨_,rfl,(aFH _ _ hn).1,(aFH _ _ hn).2,HR.out.1,HR.out.2,HC.out⟩
  ·go_enter func65,ntmps65
   go_wp2;obtain⟨I1,hI1,hlt1⟩:∃I1:Nat,(P:Int).tmod (len:Int)=(I1:Int)/\I1<len:=⟨P % len,by rw[Int.tmod_eq_emod_of_nonneg o_];simp,Nat.mod_lt _ o_⟩
   obtain⟨I2,hI2,hlt2⟩:∃I2:Nat,((P:Int) * 7+3).tmod (len:Int)=(I2:Int)/\I2<len:=⟨(P * 7+3) % len,by rw[Int.tmod_eq_emod_of_nonneg o_];simp,Nat.mod_lt _ o_⟩
   obtain⟨Q,hQ,q0,q1⟩:∃Q:Int,(P:Int).tdiv (len:Int)=Q/\0<=Q/\Q<=100000:=⟨_,rfl,Int.tdiv_nonneg o_ o_,by
        rw[Int.tdiv_eq_ediv_of_nonneg o_];exact Int.le_trans (Int.ediv_le_self _ o_) hp'⟩
   have len0:¬len=0:=o_;obtain⟨z1,hz1,z10,z11⟩:=Hz.out I1 hlt1;obtain⟨z2,hz2,z20,z21⟩:=Hz.out I2 hlt2;have i1a:(0:Int)<=(I1:Int):=o_;have i1b:(I1:Int)<(len:Int):=o_;have i2a:(0:Int)<=(I2:Int):=o_;have i2b:(I2:Int)<(len:Int):=o_;have w1:IntKind.i64.wrap ((P:Int) * 7)=(P:Int) * 7:=IntWalk.i64_in _ o_;have w2:IntKind.i64.wrap ((P:Int) * 7+3)=(P:Int) * 7+3:=IntWalk.i64_in _ o_
   obtain⟨W,hW⟩:=nm_ (w.setCell ⟨a,1,none⟩ (iv ((P:Int)+1)));rw[<-hW]at d0 d1 hz1 hz2 HR HC ⊢;clear hW
   go_quiet (fail)
   clear hI1 hI2 hQ w1 w2;go_wp2;go_ret;have hx:=zR (z1 * 131+z2 * 1117+P * 29+Q * 53) ((z1 * 131+z2 * 1117+P * 29+Q * 53) / 64) o_ o_ o_ o_;have hv:=aKV _ n hx.1 hn;exact⟨_,rfl,hv.1,hv.2,HR.out.1.drewN _,lY HR.out.2 _,HC.out⟩
theorem aJf (w:World) (x:Option Addr) (len cap:Nat) (zs:List Int)
  (h:(x=none/\len=0/\cap=0/\zs=[])\/∃y,x=some y/\len<=cap/\cap<=maxLen/\zs.length=cap/\(∀i,i<zs.length->w.cell? (y.add i)=some (.int .u8 (zs.getD i 0)))/\∀n ∈ zs,(Lit.int .u8 n).wf=true):
  Bts w w.heap.size (.slice x len cap) len/\((len:Int)>1048576\/¬(1048576:Int)<len):=by
 refine⟨?_,o_⟩;rcases h with ⟨rfl,rfl,rfl,rfl⟩|⟨⟨b,o,sp⟩,rfl,h1,h2,h3,h4,h5⟩
 ·exact .inl ⟨rfl,_,_,rfl⟩
 ·by_cases h0:len=0
  ·subst h0
   exact .inl ⟨rfl,_,_,rfl⟩
  ·have hc:=h4 0 o_
   have hs:sp=none:=by simpa[Addr.add]using World.cell?_spot hc
   subst hs;refine .inr ⟨b,o,cap,rfl,h1,?_,fun i hi=>⟨zs.getD i 0,?_,?_⟩⟩
   ·simpa[Addr.add]using World.block_lt_of_cell? _ _ hc
   ·have e:(⟨b,o,none⟩:Addr).add i=⟨b,o+i,none⟩:=by unfold Addr.add;split<;>simp_all
    rw[<-e];exact h4 i o_
   ·have:=h5 (zs.getD i 0) (kQ _ _ _ o_)
    exact bounds_u8 this
end Go.Proofs.YtcblbdpdbggkbaaGreat
namespace Go.Proofs.YtcblbdpdbggkbaaGreat.N
open _root_.Go.Proofs.Tryz
structure De where
 kind:Int
 a:Int
 b:Int
end Go.Proofs.YtcblbdpdbggkbaaGreat.N
namespace Go.Proofs.YtcblbdpdbggkbaaGreat
open _root_.Go.Proofs.Tryz
open Go.RowKit Go.Sort
abbrev Rep (α:Type):=World->List Value->α->List Nat->Prop
structure Rep.Frame {α:Type} (R:Rep α):Prop where
 lt:∀{w cs a fp},R w cs a fp->∀b ∈ fp,b<w.heap.size
 keep:∀{w w' cs a fp},R w cs a fp->(∀b ∈ fp,w'.heap[b]? =w.heap[b]?)->w.heap.size<=w'.heap.size->R w' cs a fp
theorem Rep.Frame.below {α:Type} {R:Rep α} (F:R.Frame) {w w':World} {cs:List Value} {a:α} {fp:List Nat} (h:R w cs a fp) {B:Nat} (hb:Below B w w') (hB:w.heap.size<=B):R w' cs a fp:=
 F.keep h (fun b hm=>hb.block b (Nat.lt_of_lt_of_le (F.lt h b hm) hB)) hb.size
def xE:Rep Int:=fun _ cs z fp=>cs=[.int .i64 z]/\fp=[]
def sN {α β:Type} (A:Rep α) (B:Rep β):Rep (α × β):=fun w cs p fp=>∃c1 c2 f1 f2,cs=c1++c2/\fp=f1++f2/\A w c1 p.1 f1/\B w c2 p.2 f2
def aIf {α β:Type} (A:Rep α) (f:β->α):Rep β:=fun w cs b fp=>A w cs (f b) fp
def mY {α:Type} (e:TypeId) (size:Nat) (A:Rep α):Rep (List α):=fun w cs xs fp=>
 ∃(v:Value) (c:Nat->List Value) (f:Nat->List Nat),cs=[v]/\w.ownsRow 0 e size v xs.length ((List.range xs.length).map c).flatten/\(∀i,i<xs.length->(c i).length=size)/\(∀i a,xs[i]? =some a->A w (c i) a (f i))/\
  fp=v.ownBlock.toList++((List.range xs.length).map f).flatten
theorem eT:xE.Frame:=⟨fun h b hm=>absurd hm (by rw[h.2];exact List.not_mem_nil),fun h _ _=>h⟩
theorem eO {α β:Type} {A:Rep α} {B:Rep β} (FA:A.Frame) (FB:B.Frame):(sN A B).Frame:=by
 refine⟨?_,?_⟩
 ·rintro w cs a fp ⟨c1,c2,f1,f2,rfl,rfl,h1,h2⟩ b hm
  rcases List.mem_append.1 hm with hm|hm
  ·exact FA.lt h1 b hm
  ·exact FB.lt h2 b hm
 ·rintro w w' cs a fp ⟨c1,c2,f1,f2,rfl,rfl,h1,h2⟩ hk hs
  exact⟨c1,c2,f1,f2,rfl,rfl,FA.keep h1 (fun b hm=>hk b (List.mem_append_left _ hm)) hs,FB.keep h2 (fun b hm=>hk b (List.mem_append_right _ hm)) hs⟩
theorem uY {α β:Type} {A:Rep α} (FA:A.Frame) (f:β->α):(aIf A f).Frame:=⟨fun h=>FA.lt h,fun h hk hs=>FA.keep h hk hs⟩
theorem mW {w w':World} {B:Nat} {e:TypeId} {size n:Nat} {v:Value} {xs:List Value} (h:w.ownsRow B e size v n xs) (hk:∀g,v.ownBlock=some g->w'.heap[g]? =w.heap[g]?):w'.ownsRow B e size v n xs:=by
 refine⟨h.1,?_⟩;rcases h.2 with hn|⟨g,cap,cur,rfl,hb,hg,r⟩
 ·exact .inl hn
 ·exact .inr ⟨g,cap,cur,rfl,hb,(hk g rfl).trans hg,r⟩
theorem aAd {n:Nat} {f:Nat->List Nat} {b:Nat} (h:b ∈ ((List.range n).map f).flatten):∃i,i<n/\b ∈ f i:=by
 obtain⟨l,hl,hb⟩:=List.mem_flatten.1 h;obtain⟨i,hi,rfl⟩:=List.mem_map.1 hl;exact⟨i,List.mem_range.1 hi,hb⟩
theorem nO {n:Nat} {f:Nat->List Nat} {b i:Nat} (hi:i<n) (h:b ∈ f i):b ∈ ((List.range n).map f).flatten:=
 List.mem_flatten.2 ⟨f i,List.mem_map.2 ⟨i,List.mem_range.2 hi,rfl⟩,h⟩
theorem aV {α:Type} {A:Rep α} (FA:A.Frame) (e:TypeId) (size:Nat):(mY e size A).Frame:=by
 refine⟨?_,?_⟩
 ·rintro w cs xs fp ⟨v,c,f,rfl,ho,hl,ha,rfl⟩ b hm
  rcases List.mem_append.1 hm with hm|hm
  ·exact (ho.lt b (by cases hv:v.ownBlock<;>simp[hv]at hm ⊢;exact hm.symm)).2
  ·obtain⟨i,hi,hb⟩:=aAd hm
   exact FA.lt (ha i _ (List.getElem?_eq_getElem hi)) b hb
 ·rintro w w' cs xs fp ⟨v,c,f,rfl,ho,hl,ha,rfl⟩ hk hs
  refine⟨v,c,f,rfl,mW ho (fun g hg=>hk g (List.mem_append_left _ (by simp[hg]))),hl,fun i a hi=>FA.keep (ha i a hi) (fun b hm=>hk b (List.mem_append_right _ (nO ?_ hm))) hs,rfl⟩;exact (List.getElem?_eq_some_iff.1 hi).1
theorem qT {c:Nat->List Value} {size n i k:Nat} (hl:∀i,i<n->(c i).length=size) (hi:i<n) (hk:k<size):((List.range n).map c).flatten[i * size+k]? =(c i)[k]? :=by
 induction n with
 |zero=>omega
 |succ n ih=>
  have hn:((List.range n).map c).flatten.length=n * size:=by
   clear ih hi
   induction n with
   |zero=>simp
   |succ m im=>
    exact zBq
  rw[List.range_succ,List.map_append,List.flatten_append]
  by_cases h:i<n
  ·rw[List.getElem?_append_left (by rw[hn];(have:i * size+size<=n * size:=by rw[<-Nat.succ_mul];exact Nat.mul_le_mul_right _ h);omega)]
   exact ih (fun i hi=>hl i o_) h
  ·obtain rfl:i=n:=o_
   rw[List.getElem?_append_right (by rw[hn];omega),hn,Nat.add_sub_cancel_left];simp
theorem kK {c:Nat->List Value} {size n:Nat} (hl:∀i,i<n->(c i).length=size):((List.range n).map c).flatten.length=n * size:=by
 induction n with
 |zero=>simp
 |succ m im=>
  exact zBq
def aBg {α:Type} (enc:α->List Value):Rep α:=fun _ cs a fp=>cs=enc a/\fp=[]
theorem aG {α:Type} (enc:α->List Value):(aBg enc).Frame:=⟨fun h b hm=>absurd hm (by rw[h.2];exact List.not_mem_nil),fun h _ _=>h⟩
theorem aBm {α:Type} (xs:List α) (enc:α->List Value) (c:Nat->List Value) (hc:∀i a,xs[i]? =some a->c i=enc a):((List.range xs.length).map c).flatten=xs.flatMap enc:=by
 have e:(List.range xs.length).map c=xs.map enc:=by
  apply List.ext_getElem?;intro i
  by_cases h:i<xs.length
  ·have hi:=List.getElem?_eq_getElem h
   simp[h,hc i _ hi]
  ·have h':xs.length<=i:=o_
   simp[h']
 rw[e,List.flatMap_def]
theorem aES {n:Nat}:((List.range n).map fun _=>([]:List Nat)).flatten=[]:=by
 induction n with
 |zero=>rfl
 |succ n ih=>rw[List.range_succ,List.map_append,List.flatten_append,ih];rfl
theorem aEx {β:Type} (l:List Nat) (g:Nat->β):(l.map fun i=>[g i]).flatten=l.map g:=by
 induction l with
 |nil=>rfl
 |cons a l ih=>simp[ih]
section
variable {α:Type} {enc:α->List Value} {w:World} {B size:Nat} {e:TypeId} {v:Value} {xs:List α}
theorem kD (h:w.ownsRow B e size v xs.length (xs.flatMap enc)) (hl:∀a,(enc a).length=size):mY e size (aBg enc) w [v] xs v.ownBlock.toList:=by
 refine⟨v,fun i=>(xs[i]?.map enc).getD [],fun _=>[],rfl,?_,fun i hi=>?_,fun i a hi=>?_,?_⟩
 ·rw[aBm xs enc _ (fun i a hi=>by simp[hi])]
  exact aU h (Nat.zero_le _)
 ·simp[List.getElem?_eq_getElem hi,hl]
 ·exact⟨by simp[hi],rfl⟩
 ·rw[aES,List.append_nil]
theorem eE {cs:List Value} {fp:List Nat} (h:mY e size (aBg enc) w cs xs fp):∃v,cs=[v]/\w.ownsRow 0 e size v xs.length (xs.flatMap enc)/\fp=v.ownBlock.toList:=by
 obtain⟨v,c,f,rfl,ho,hl,ha,rfl⟩:=h;refine⟨v,rfl,?_,?_⟩
 ·rw[aBm xs enc c (fun i a hi=>(ha i a hi).1)]at ho
  exact ho
 ·have e:(List.range xs.length).map f=(List.range xs.length).map fun _=>[]:=List.map_congr_left fun i hi=>(ha i _ (List.getElem?_eq_getElem (List.mem_range.1 hi))).2
  rw[e,aES,List.append_nil]
end
def kY (z:Int):List Value:=[.int .i64 z]
def flR {α:Type} (e:TypeId) (size:Nat) (enc:α->List Value):Rep (List α):=fun w cs xs fp=>mY e size (aBg enc) w cs xs fp\/(xs=[]/\fp=[]/\∃b o,cs=[.slice (some ⟨b,o,none⟩) 0 0]/\b<w.heap.size)
theorem tM {α:Type} {e:TypeId} {size:Nat} {enc:α->List Value}:(flR e size enc).Frame:=
 ⟨fun h=>h.elim (fun h=>(aV (aG _) _ _).lt h) fun h b hm=>(by rw[h.2.1]at hm;cases hm),fun h hk hs=>h.elim (fun h=>.inl ((aV (aG _) _ _).keep h hk hs)) fun⟨h1,h2,b,o,h3,h4⟩=>.inr ⟨h1,h2,b,o,h3,Nat.lt_of_lt_of_le h4 hs⟩⟩
def uD:Rep (List Int):=flR 3 1 kY
def uK:Rep (List (List Int)):=mY 23 1 uD
theorem cK:uD.Frame:=tM
theorem bS:uK.Frame:=aV cK _ _
theorem bL {v:Value} {b:Nat} (h:b ∈ v.ownBlock.toList):v.ownBlock=some b:=by
 cases hv:v.ownBlock<;>simp[hv]at h ⊢
 exact h.symm
theorem fW (v:Value):v.ownBlock.toList.Nodup:=by cases v.ownBlock<;>simp
structure Rep.One {α:Type} (R:Rep α) (size:Nat):Prop where
 len:∀{w cs a fp},R w cs a fp->cs.length=size
 one:∀{w cs a fp},R w cs a fp->∀u ∈ cs,u.oneCell'=true
theorem iD:xE.One 1:=⟨fun h=>by rw[h.1];rfl,fun h u hu=>by rw[h.1]at hu;rw[List.mem_singleton.1 hu];rfl⟩
theorem iC {α β:Type} {A:Rep α} {B:Rep β} {n m:Nat} (OA:A.One n) (OB:B.One m):(sN A B).One (n+m):=by
 refine⟨?_,?_⟩
 ·rintro w cs a fp ⟨c1,c2,f1,f2,rfl,rfl,h1,h2⟩
  rw[List.length_append,OA.len h1,OB.len h2]
 ·rintro w cs a fp ⟨c1,c2,f1,f2,rfl,rfl,h1,h2⟩ u hu
  rcases List.mem_append.1 hu with hu|hu
  ·exact OA.one h1 u hu
  ·exact OB.one h2 u hu
theorem aA3 {α β:Type} {A:Rep α} {n:Nat} (OA:A.One n) (f:β->α):(aIf A f).One n:=⟨fun h=>OA.len h,fun h=>OA.one h⟩
theorem aD1 {w:World} {B:Nat} {e:TypeId} {size n:Nat} {v:Value} {xs:List Value} (h:w.ownsRow B e size v n xs):v.oneCell'=true:=by
 rcases h.2 with ⟨rfl,_⟩|⟨g,cap,cur,rfl,_⟩<;>rfl
theorem nM {α:Type} (A:Rep α) (e:TypeId) (size:Nat):(mY e size A).One 1:=by
 refine⟨?_,?_⟩
 ·rintro w cs xs fp ⟨v,c,f,rfl,_⟩;rfl
 ·rintro w cs xs fp ⟨v,c,f,rfl,ho,_⟩ u hu
  rw[List.mem_singleton.1 hu];exact aD1 ho
theorem cM {α:Type} {A:Rep α} {e:TypeId} {size:Nat} {w:World} {v:Value} {xs:List α} {fp:List Nat} (h:mY e size A w [v] xs fp):∃x c,v=.slice x xs.length c/\xs.length<=c/\c<=maxLen:=by
 obtain⟨v',c,f,ev,ho,_⟩:=h;cases ev;rcases ho.2 with ⟨rfl,h0⟩|⟨g,cap,cur,rfl,hb,hg,hn,hc,_⟩
 ·exact⟨none,0,by rw[h0],o_,Nat.zero_le _⟩
 ·exact⟨_,_,rfl,hn,hc⟩
theorem yI {α:Type} {enc:α->List Value} {e:TypeId} {size:Nat} {w:World} {v:Value} {xs:List α} {fp:List Nat} (h:flR e size enc w [v] xs fp):∃x c,v=.slice x xs.length c/\xs.length<=c/\c<=maxLen:=by
 rcases h with h|⟨rfl,_,b,o,e1,_⟩
 ·exact cM h
 ·exact⟨_,0,(List.cons.inj e1).1,Nat.le_refl _,Nat.zero_le _⟩
theorem tT {α:Type} {enc:α->List Value} {e:TypeId} {size:Nat}:(flR e size enc).One 1:=
 ⟨fun h=>h.elim (fun h=>(nM _ _ _).len h) fun⟨_,_,_,_,h,_⟩=>(by rw[h];rfl),fun h=>h.elim (fun h=>(nM _ _ _).one h) fun⟨_,_,_,_,h,_⟩ u hu=>(by rw[h]at hu;rw[List.mem_singleton.1 hu];rfl)⟩
def upd {β:Type} (f:Nat->β) (n:Nat) (x:β):Nat->β:=fun i=>if i=n then x else f i
theorem bU {β:Type} (f:Nat->β) (n:Nat) (x:β):upd f n x n=x:=if_pos rfl
theorem aX {β:Type} (f:Nat->β) {n i:Nat} (x:β) (h:i≠n):upd f n x i=f i:=if_neg h
structure Els {α:Type} (A:Rep α) (e:TypeId) (size:Nat) (w:World) (B:Nat) (v:Value) (xs:List α) (c:Nat->List Value) (f:Nat->List Nat):Prop where
 own:w.ownsRow B e size v xs.length ((List.range xs.length).map c).flatten
 len:∀i,i<xs.length->(c i).length=size
 one:∀i a,xs[i]? =some a->A w (c i) a (f i)
def fps (v:Value) (n:Nat) (f:Nat->List Nat):List Nat:=v.ownBlock.toList++((List.range n).map f).flatten
theorem lW {v:Value} {b n:Nat} {f:Nat->List Nat} (h:v.ownBlock=some b):b ∈ fps v n f:=List.mem_append_left _ (by simp[h])
theorem iK {v:Value} {b n i:Nat} {f:Nat->List Nat} (hi:i<n) (h:b ∈ f i):b ∈ fps v n f:=List.mem_append_right _ (nO hi h)
theorem jW {v:Value} {b n:Nat} {f:Nat->List Nat} (h:b ∈ fps v n f):v.ownBlock=some b\/∃i,i<n/\b ∈ f i:=by
 rcases List.mem_append.1 h with h|h
 ·exact .inl (bL h)
 ·exact .inr (aAd h)
section
variable {α:Type} {A:Rep α} {e:TypeId} {size:Nat} {w:World} {B:Nat} {v:Value} {xs:List α} {c:Nat->List Value} {f:Nat->List Nat}
theorem Els.rep (h:Els A e size w B v xs c f):mY e size A w [v] xs (fps v xs.length f):=⟨v,c,f,rfl,aU h.own (Nat.zero_le _),h.len,h.one,rfl⟩
theorem gX {cs:List Value} {fp:List Nat} (h:mY e size A w cs xs fp):∃v c f,cs=[v]/\Els A e size w 0 v xs c f/\fp=fps v xs.length f:=by
 obtain⟨v,c,f,rfl,ho,hl,ha,rfl⟩:=h;exact⟨v,c,f,rfl,⟨ho,hl,ha⟩,rfl⟩
theorem Els.nil (w:World) (B:Nat) (c:Nat->List Value) (f:Nat->List Nat):Els A e size w B zn [] c f:=⟨World.ownsRow_nil w B e size,fun i hi=>absurd hi (Nat.not_lt_zero i),fun i a hi=>by simp at hi⟩
theorem aIH (n:Nat) (c:Nat->List Value) (cs:List Value):((List.range (n+1)).map (upd c n cs)).flatten=((List.range n).map c).flatten++cs:=by
 rw[List.range_succ,List.map_append,List.flatten_append];have e:(List.range n).map (upd c n cs)=(List.range n).map c:=List.map_congr_left fun i hi=>aX c cs (by have:=List.mem_range.1 hi;omega)
 rw[e];simp[bU]
theorem Els.snoc (h:Els A e size w B v xs c f) (FA:A.Frame) {w':World} {v':Value} {cs:List Value} {a:α} {fa:List Nat} (ho:w'.ownsRow B e size v' (xs.length+1) (((List.range xs.length).map c).flatten++cs)) (hc:cs.length=size)
  (hk:∀i,i<xs.length->∀b ∈ f i,w'.heap[b]? =w.heap[b]?) (hs:w.heap.size<=w'.heap.size) (ha:A w' cs a fa):Els A e size w' B v' (xs++[a]) (upd c xs.length cs) (upd f xs.length fa):=by
 have ln:(xs++[a]).length=xs.length+1:=by simp
 refine⟨by rw[ln,aIH];exact ho,fun i hi=>?_,fun i x hx=>?_⟩
 ·rw[ln]at hi
  by_cases q:i=xs.length
  ·rw[q,bU];exact hc
  ·rw[aX _ _ q];exact h.len i o_
 ·by_cases q:i=xs.length
  ·subst q
   rw[bU,bU];have:x=a:=by simp at hx;exact hx.symm
   rw[this];exact ha
  ·have hi:i<xs.length:=by have:=(List.getElem?_eq_some_iff.1 hx).1;simp at this;omega
   rw[aX _ _ q,aX _ _ q];rw[List.getElem?_append_left hi]at hx;exact FA.keep (h.one i x hx) (hk i hi) hs
theorem Els.cell (h:Els A e size w B v xs c f) {i k:Nat} (hi:i<xs.length) {z:Value} (hz:(c i)[k]? =some z):∃g cap,v=.slice (some ⟨g,0,none⟩) xs.length cap/\B<=g/\g<w.heap.size/\xs.length<=cap/\cap<=maxLen/\w.cell? ⟨g,i * size+k,none⟩=some z:=by
 have hk:k<size:=by have:=(List.getElem?_eq_some_iff.1 hz).1;rw[h.len i hi]at this;exact this
 rcases h.own.2 with ⟨rfl,h0⟩|⟨g,cap,cur,rfl,hb,hg,hn,hc,hs,ht⟩
 ·omega
 ·refine⟨g,cap,rfl,hb,(Array.getElem?_eq_some_iff.1 hg).1,hn,hc,?_⟩
  have lt:i * size+k<xs.length * size:=by
   exact zBM
  rw[World.ownsRow.cellAt h.own _ lt,qT h.len hi hk,hz]
theorem aEN {n i k:Nat} {u:Value} (hl:∀i,i<n->(c i).length=size) (hi:i<n) (hk:k<size):((List.range n).map c).flatten.set (i * size+k) u=((List.range n).map (upd c i ((c i).set k u))).flatten:=by
 have hl':∀j,j<n->(upd c i ((c i).set k u) j).length=size:=fun j hj=>by
  by_cases q:j=i
  ·rw[q,bU,List.length_set];exact hl i hi
  ·rw[aX _ _ q];exact hl j hj
 apply List.ext_getElem?;intro j
 by_cases hj:j<n * size
 ·have s0:0<size:=o_
  obtain⟨q,r,rfl,hr,hq⟩:∃q r,j=q * size+r/\r<size/\q<n:=⟨j / size,j % size,by rw[Nat.mul_comm];exact (Nat.div_add_mod j size).symm,Nat.mod_lt _ s0,(Nat.div_lt_iff_lt_mul s0).2 hj⟩
  rw[List.getElem?_set,qT hl' hq hr,kK hl]
  by_cases d:q=i
  ·subst d
   rw[bU,List.getElem?_set]
   by_cases d2:k=r
   ·rw[if_pos (by rw[d2]),if_pos (by rw[d2];exact hj),if_pos d2,if_pos (by rw[hl q hq];exact hk)]
   ·rw[if_neg (fun x=>d2 o_),if_neg d2,qT hl hq hr]
  ·rw[aX _ _ d,if_neg ?_,qT hl hq hr]
   intro x;apply d;have x1:(i * size+k) / size=i:=by rw[Nat.mul_comm,Nat.mul_add_div s0,Nat.div_eq_of_lt hk,Nat.add_zero]
   have x2:(q * size+r) / size=q:=by rw[Nat.mul_comm,Nat.mul_add_div s0,Nat.div_eq_of_lt hr,Nat.add_zero]
   rw[<-x1,x,x2]
 ·rw[List.getElem?_eq_none (by rw[List.length_set,kK hl];omega),List.getElem?_eq_none (by rw[kK hl'];omega)]
theorem Els.set {g cap:Nat} (h:Els A e size w B (.slice (some ⟨g,0,none⟩) xs.length cap) xs c f) (FA:A.Frame) {i k:Nat} (hi:i<xs.length) (hk:k<size) {u:Value} {a:α} {fa:List Nat}
  (off:∀j,j<xs.length->j≠i->g ∉ f j) (ha:A (w.setCell ⟨g,i * size+k,none⟩ u) ((c i).set k u) a fa):
  Els A e size (w.setCell ⟨g,i * size+k,none⟩ u) B (.slice (some ⟨g,0,none⟩) xs.length cap) (xs.set i a) (upd c i ((c i).set k u)) (upd f i fa):=by
 obtain⟨s1,s2⟩:=World.ownsRow.stored h.own (i * size+k) u;have ln:(xs.set i a).length=xs.length:=List.length_set;refine⟨?_,fun j hj=>?_,fun j x hx=>?_⟩
 ·rw[ln, <-aEN h.len hi hk];exact s1
 ·rw[ln]at hj
  by_cases q:j=i
  ·rw[q,bU,List.length_set];exact h.len i hi
  ·rw[aX _ _ q];exact h.len j hj
 ·by_cases q:j=i
  ·subst q
   rw[bU,bU];rw[List.getElem?_set_self hi]at hx;rw[<-Option.some.inj hx];exact ha
  ·rw[aX _ _ q,aX _ _ q]
   rw[List.getElem?_set_ne (fun z=>q z.symm)]at hx;have hj:=(List.getElem?_eq_some_iff.1 hx).1;exact FA.keep (h.one j x hx) (fun b hb=>s2.block b (FA.lt (h.one j x hx) b hb) (fun z=>off j hj q (by rw[<-Option.some.inj z];exact hb))) s2.size
end
section
variable {v:Value} {n:Nat} {f:Nat->List Nat}
theorem aFK:((List.range n).map f).flatten.Nodup↔(∀i,i<n->(f i).Nodup)/\∀i j,i<n->j<n->i≠j->∀b ∈ f i,b ∉ f j:=by
 induction n with
 |zero=>exact⟨fun _=>⟨fun i hi=>absurd hi (Nat.not_lt_zero i),fun i j hi=>absurd hi (Nat.not_lt_zero i)⟩,fun _=>by simp⟩
 |succ n ih=>
  rw[List.range_succ,List.map_append,List.flatten_append,List.nodup_append,ih];simp only[List.map_cons,List.map_nil,List.flatten_cons,List.flatten_nil,List.append_nil]
  constructor
  ·rintro⟨⟨h1,h2⟩,h3,h4⟩
   refine⟨fun i hi=>?_,fun i j hi hj ne b hb hb'=>?_⟩
   ·by_cases q:i=n
    ·rw[q];exact h3
    ·exact h1 i o_
   ·by_cases qi:i=n
    ·subst qi
     exact h4 b (nO (show j<i by omega) hb') b hb rfl
    ·by_cases qj:j=n
     ·subst qj
      exact h4 b (nO (show i<j by omega) hb) b hb' rfl
     ·exact h2 i j o_ o_ ne b hb hb'
  ·rintro⟨h1,h2⟩
   refine⟨⟨fun i hi=>h1 i o_,fun i j hi hj=>h2 i j o_ o_⟩,h1 n o_,fun a ha b hb e=>?_⟩;subst e;obtain⟨i,hi,hm⟩:=aAd ha;exact h2 i n o_ o_ o_ a hm hb
theorem fH:(fps v n f).Nodup↔((∀i,i<n->(f i).Nodup)/\∀i j,i<n->j<n->i≠j->∀b ∈ f i,b ∉ f j)/\∀g,v.ownBlock=some g->∀i,i<n->g ∉ f i:=by
 unfold fps;rw[List.nodup_append,aFK]
 constructor
 ·rintro⟨_,h,k⟩
  exact⟨h,fun g hg i hi hm=>k g (by simp[hg]) g (nO hi hm) rfl⟩
 ·rintro⟨h,k⟩
  refine⟨fW v,h,fun a ha b hb e=>?_⟩;subst e;obtain⟨i,hi,hm⟩:=aAd hb;exact k a (bL ha) i hi hm
theorem oW (h:(fps v n f).Nodup) {i:Nat} (hi:i<n) {x:List Nat} (hx:x.Nodup) (hd:∀b ∈ x,b ∈ f i\/b ∉ fps v n f):(fps v n (upd f i x)).Nodup:=by
 obtain⟨⟨h1,h2⟩,h3⟩:=fH.1 h;have far:∀b ∈ x,∀j,j<n->j≠i->b ∉ f j:=fun b hb j hj ne hm=>by
  rcases hd b hb with q|q
  ·exact h2 i j hi hj (fun e=>ne e.symm) b q hm
  ·exact q (iK hj hm)
 refine fH.2 ⟨⟨fun j hj=>?_,fun j k hj hk ne b hb hb'=>?_⟩,fun g hg j hj hm=>?_⟩
 ·by_cases q:j=i
  ·rw[q,bU];exact hx
  ·rw[aX _ _ q];exact h1 j hj
 ·by_cases qj:j=i
  ·subst qj
   rw[bU]at hb;rw[aX _ _ (fun e=>ne e.symm)]at hb';exact far b hb k hk (fun e=>ne e.symm) hb'
  ·rw[aX _ _ qj]at hb
   by_cases qk:k=i
   ·subst qk
    rw[bU]at hb';exact far b hb' j hj qj hb
   ·rw[aX _ _ qk]at hb'
    exact h2 j k hj hk ne b hb hb'
 ·by_cases q:j=i
  ·rw[q,bU]at hm
   rcases hd g hm with d|d
   ·exact h3 g hg i hi d
   ·exact d (lW hg)
  ·rw[aX _ _ q]at hm
   exact h3 g hg j hj hm
theorem mS {i b:Nat} {x:List Nat} (h:b ∈ fps v n (upd f i x)):b ∈ fps v n f\/b ∈ x:=by
 rcases jW h with h|⟨j,hj,h⟩
 ·exact .inl (lW h)
 ·by_cases q:j=i
  ·rw[q,bU]at h;exact .inr h
  ·rw[aX _ _ q]at h;exact .inl (iK hj h)
theorem aEC (h:(fps v n f).Nodup) {v':Value} {x:List Nat} (hx:x.Nodup) (hd:∀b ∈ x,∀i,i<n->b ∉ f i) (hv:∀g,v'.ownBlock=some g->(∀i,i<n->g ∉ f i)/\g ∉ x):(fps v' (n+1) (upd f n x)).Nodup:=by
 obtain⟨⟨h1,h2⟩,_⟩:=fH.1 h;refine fH.2 ⟨⟨fun j hj=>?_,fun j k hj hk ne b hb hb'=>?_⟩,fun g hg j hj hm=>?_⟩
 ·by_cases q:j=n
  ·rw[q,bU];exact hx
  ·rw[aX _ _ q];exact h1 j (by omega)
 ·by_cases qj:j=n
  ·subst qj
   rw[bU]at hb;rw[aX _ _ (fun e=>ne e.symm)]at hb';exact hd b hb k (by omega) hb'
  ·rw[aX _ _ qj]at hb
   by_cases qk:k=n
   ·subst qk
    rw[bU]at hb';exact hd b hb' j (by omega) hb
   ·rw[aX _ _ qk]at hb'
    exact h2 j k (by omega) (by omega) ne b hb hb'
 ·by_cases q:j=n
  ·rw[q,bU]at hm;exact (hv g hg).2 hm
  ·rw[aX _ _ q]at hm;exact (hv g hg).1 j (by omega) hm
theorem qJ {b:Nat} {v':Value} {x:List Nat} (h:b ∈ fps v' (n+1) (upd f n x)):v'.ownBlock=some b\/b ∈ fps v n f\/b ∈ x:=by
 rcases jW h with h|⟨j,hj,h⟩
 ·exact .inl h
 ·by_cases q:j=n
  ·rw[q,bU]at h;exact .inr (.inr h)
  ·rw[aX _ _ q]at h;exact .inr (.inl (iK (by omega) h))
end
def pI {α:Type} (R:Rep α) (B:Nat) (w:World) (cs:List Value) (a:α) (fp:List Nat):Prop:=R w cs a fp/\fp.Nodup/\∀b ∈ fp,B<=b
section
variable {α:Type} {A:Rep α} {e:TypeId} {size:Nat} {w:World} {B:Nat} {xs:List α} {fp:List Nat}
theorem pI.set (FA:A.Frame) {g n cap:Nat} (h:pI (mY e size A) B w [.slice (some ⟨g,0,none⟩) n cap] xs fp) {i k:Nat} {x:α} (hi:xs[i]? =some x) (hk:k<size):
  n=xs.length/\g ∈ fp/\∃ci fi,A w ci x fi/\(∀b ∈ fi,b ∈ fp)/\fi.Nodup/\g ∉ fi/\ci.length=size/\(∀j z,ci[j]? =some z->w.cell? ⟨g,i * size+j,none⟩=some z)/\(∀u,w.grownBy (w.setCell ⟨g,i * size+k,none⟩ u) (some g))/\
   ∀u x' fi',A (w.setCell ⟨g,i * size+k,none⟩ u) (ci.set k u) x' fi'->fi'.Nodup->(∀b ∈ fi',(b ∈ fi\/b ∉ fp)/\B<=b)->
    ∃fp',pI (mY e size A) B (w.setCell ⟨g,i * size+k,none⟩ u) [.slice (some ⟨g,0,none⟩) n cap] (xs.set i x') fp'/\(∀b ∈ fp',b ∈ fp\/b ∈ fi'):=by
 obtain⟨hR,nd,low⟩:=h;obtain⟨v,c,f,ev,E,rfl⟩:=gX hR;have hlt:i<xs.length:=(List.getElem?_eq_some_iff.1 hi).1;cases ev;obtain⟨z,hz⟩:∃z,(c i)[k]? =some z:=⟨(c i)[k]'(by rw[E.len i hlt];exact hk),List.getElem?_eq_getElem _⟩
 obtain⟨g',cap',ev,_,_,_,_,_⟩:=E.cell hlt hz;injection ev with e1 e2 e3
 have en:n=xs.length:=e2;subst en;refine⟨rfl,lW rfl,c i,f i,E.one i x hi,fun b hb=>iK hlt hb,?_,?_,E.len i hlt,fun j z hz=>?_,fun u=>(World.ownsRow.stored E.own _ u).2,fun u x' fi' ha nf hd=>?_⟩
 ·exact (fH.1 nd).1.1 i hlt
 ·exact (fH.1 nd).2 g rfl i hlt
 ·obtain⟨g2,cap2,ev2,_,_,_,_,hc⟩:=E.cell hlt hz
  injection ev2 with q1 q2 q3
  injection q1 with q1
  injection q1 with q1
  rw[q1];exact hc
 ·have S:=E.set FA hlt hk (u:=u) (a:=x') (fa:=fi') (fun j hj _=>(fH.1 nd).2 g rfl j hj) ha
  have R:=S.rep;rw[List.length_set]at R;refine⟨_,⟨R,oW nd hlt nf (fun b hb=>(hd b hb).1),fun b hb=>?_⟩,fun b hb=>mS hb⟩;rcases mS hb with q|q
  ·exact low b q
  ·exact (hd b q).2
theorem pI.more (FA:A.Frame) {v:Value} (h:pI (mY e size A) B w [v] xs fp):∃cells,w.ownsRow B e size v xs.length cells/\cells.length=xs.length * size/\
  ∀w' v' cs x fx,w'.ownsRow B e size v' (xs.length+1) (cells++cs)->w.grownBy w' v.ownBlock->(v'.ownBlock=v.ownBlock\/∀g,v'.ownBlock=some g->w.heap.size<=g)->cs.length=size->pI A B w' cs x fx->(∀b ∈ fx,b ∉ fp)->(∀g,v'.ownBlock=some g->g ∉ fx)->
   ∃fp',pI (mY e size A) B w' [v'] (xs++[x]) fp'/\∀b ∈ fp',b ∈ fp\/b ∈ fx\/v'.ownBlock=some b:=by
 obtain⟨hR,nd,low⟩:=h;obtain⟨v0,c,f,ev,E,rfl⟩:=gX hR;cases ev;have nd':=fH.1 nd;have oB:w.ownsRow B e size v xs.length ((List.range xs.length).map c).flatten:=by
  refine⟨E.own.1,?_⟩;rcases E.own.2 with q|⟨g,cap,cur,rfl,hb,r⟩
  ·exact .inl q
  ·exact .inr ⟨g,cap,cur,rfl,low g (lW rfl),r⟩
 refine⟨_,oB,kK E.len,fun w' v' cs x fx ho hg hv hc hx hd hgx=>?_⟩;have EB:Els A e size w B v xs c f:=⟨oB,E.len,E.one⟩
 have fl:∀i,i<xs.length->∀b ∈ f i,b<w.heap.size/\some b≠v.ownBlock:=fun i hi b hb=>⟨FA.lt (E.one i _ (List.getElem?_eq_getElem hi)) b hb,fun q=>nd'.2 b q.symm i hi hb⟩
 have S:=EB.snoc FA ho hc (fun i hi b hb=>hg.block b (fl i hi b hb).1 (fl i hi b hb).2) hg.size hx.1;have R:=S.rep;rw[show (xs++[x]).length=xs.length+1 by simp]at R;refine⟨_,⟨R,aEC nd hx.2.1 (fun b hb i hi hm=>hd b hb (iK hi hm)) (fun g q=>⟨fun i hi hm=>?_,hgx g q⟩),fun b hb=>?_⟩,fun b hb=>?_⟩
 ·rcases hv with hv|hv
  ·exact (fl i hi g hm).2 (by rw[<-hv,q])
  ·have:=hv g q
   have:=(fl i hi g hm).1;omega
 ·rcases qJ (v:=v) hb with q|q|q
  ·exact (World.ownsRow.lt ho b q).1
  ·exact low b q
  ·exact hx.2.2 b q
 ·rcases qJ (v:=v) hb with q|q|q
  ·exact .inr (.inr q)
  ·exact .inl q
  ·exact .inr (.inl q)
end
section
variable {α:Type} {A:Rep α} {e:TypeId} {size:Nat} {w:World} {xs:List α} {fp:List Nat} {v:Value}
theorem aGA (h:mY e size A w [v] xs fp) {i:Nat} {x:α} (hi:xs[i]? =some x):∃g cap ci fi,v=.slice (some ⟨g,0,none⟩) xs.length cap/\g<w.heap.size/\xs.length<=cap/\cap<=maxLen/\A w ci x fi/\(∀b ∈ fi,b ∈ fp)/\ci.length=size/\∀j z,ci[j]? =some z->w.cell? ⟨g,i * size+j,none⟩=some z:=by
 obtain⟨v0,c,f,ev,E,rfl⟩:=gX h;cases ev;have hlt:i<xs.length:=(List.getElem?_eq_some_iff.1 hi).1;rcases E.own.2 with ⟨rfl,h0⟩|⟨g,cap,cur,rfl,hb,hg,hn,hc,hs,ht⟩
 ·omega
 ·refine⟨g,cap,c i,f i,rfl,(Array.getElem?_eq_some_iff.1 hg).1,hn,hc,E.one i x hi,fun b hb=>iK hlt hb,E.len i hlt,fun j z hz=>?_⟩
  obtain⟨g',cap',ev,_,_,_,_,q⟩:=E.cell hlt hz;injection ev with q1 q2 q3
  injection q1 with q1
  injection q1 with q1
  rw[q1];exact q
theorem aT {x:Option Addr} {k c:Nat} (h:mY e size A w [.slice x k c] xs fp):k=xs.length/\∀{i:Nat} {a:α},xs[i]? =some a->∃g ci fi,x=some ⟨g,0,none⟩/\g<w.heap.size/\A w ci a fi/\(∀b ∈ fi,b ∈ fp)/\ci.length=size/\∀j z,ci[j]? =some z->w.cell? ⟨g,i * size+j,none⟩=some z:=by
 refine⟨?_,fun {i a} hi=>?_⟩
 ·obtain⟨x',c',q,_⟩:=cM h
  injection q
 ·obtain⟨g,cap,ci,fi,q,h1,_,_,h2,h3,h4,h5⟩:=aGA h hi
  injection q with q1 q2 q3
  exact⟨g,ci,fi,q1,h1,h2,h3,h4,h5⟩
end
structure Ch where
 at_:World->List Nat->Prop
 lt:∀{w:World} {f:List Nat},at_ w f->∀b ∈ f,b<w.heap.size
 keep:∀{w w':World} {f:List Nat},at_ w f->(∀b ∈ f,w'.heap[b]? =w.heap[b]?)->w.heap.size<=w'.heap.size->at_ w' f
def Rep.Frame.ch {α:Type} {R:Rep α} (F:R.Frame) (cs:List Value) (a:α):Ch:=⟨fun w f=>R w cs a f,F.lt,F.keep⟩
theorem pR (b:Nat):[b].Nodup:=by simp
def emp:Ch:=⟨fun _ f=>f=[],fun h b hb=>(by rw[h]at hb;cases hb),fun h _ _=>h⟩
def aL (b:Nat) (t:TypeId) (vs:Array Value):Ch:=⟨fun w f=>w.heap[b]? =some (.cells vs t (0,0))/\f=[b],
  fun h x hx=>(by rw[h.2]at hx;rw[List.mem_singleton.1 hx];exact (Array.getElem?_eq_some_iff.1 h.1).1),
  fun h hk _=>⟨(hk b (by rw[h.2];exact List.mem_singleton_self b)).trans h.1,h.2⟩⟩
def Ch.sep (c d:Ch):Ch:=⟨fun w f=>∃f1 f2,f=f1++f2/\c.at_ w f1/\d.at_ w f2,
  fun⟨_,_,e,h1,h2⟩ b hb=>(List.mem_append.1 (by rw[e]at hb;exact hb)).elim (c.lt h1 b) (d.lt h2 b),
  fun⟨f1,f2,e,h1,h2⟩ hk hs=>⟨f1,f2,e,c.keep h1 (fun b hb=>hk b (by rw[e];exact List.mem_append_left _ hb)) hs,d.keep h2 (fun b hb=>hk b (by rw[e];exact List.mem_append_right _ hb)) hs⟩⟩
def Ch.ex {ι:Type} (c:ι->Ch):Ch:=⟨fun w f=>∃i,(c i).at_ w f,fun⟨i,h⟩=>(c i).lt h,fun⟨i,h⟩ hk hs=>⟨i,(c i).keep h hk hs⟩⟩
def zU:List Ch->Ch
 | []=>emp
 |c::l=>c.sep (zU l)
structure M (B:Nat) (w0 w:World) (l:List Ch):Prop where
 below:Below B w0 w
 low:B<=w.heap.size
 own:∃f,(zU l).at_ w f/\f.Nodup/\∀b ∈ f,B<=b
theorem M.start (w:World):M w.heap.size w w []:=⟨Below.refl _ _,Nat.le_refl _,[],rfl,List.nodup_nil,fun b hb=>by cases hb⟩
section
variable {B:Nat} {w0 w w':World} {l:List Ch} {c d:Ch}
theorem M.later (h:M B w0 w l) (hb:Below w.heap.size w w'):M B w0 w' l:=by
 obtain⟨f,ha,nd,lo⟩:=h.own;exact⟨h.below.trans (hb.mono h.low),Nat.le_trans h.low hb.size,f,(zU l).keep ha (fun b hm=>hb.block b ((zU l).lt ha b hm)) hb.size,nd,lo⟩
theorem M.drew (h:M B w0 w l):M B w0 w.drew l:=h.later (Below.drew (Below.refl _ _))
theorem M.add (h:M B w0 w l) (hb:Below w.heap.size w w') {f:List Nat} (ha:c.at_ w' f) (nd:f.Nodup) (lo:∀b ∈ f,w.heap.size<=b):M B w0 w' (c::l):=by
 obtain⟨g,hg,ng,lg⟩:=h.own;have h':=h.later hb;refine⟨h'.below,h'.low,f++g,⟨f,g,rfl,ha,(zU l).keep hg (fun b hm=>hb.block b ((zU l).lt hg b hm)) hb.size⟩,List.nodup_append.2 ⟨nd,ng,fun a h1 b h2 e=>?_⟩,fun b hm=>?_⟩
 ·have:=lo a h1;have:=(zU l).lt hg b h2;omega
 ·rcases List.mem_append.1 hm with hm|hm
  ·exact Nat.le_trans h.low (lo b hm)
  ·exact lg b hm
theorem M.got {α:Type} {R:Rep α} (F:R.Frame) {cs:List Value} {a:α} {fp:List Nat} (h:M B w0 w l) (hb:Below w.heap.size w w') (s:pI R w.heap.size w' cs a fp):M B w0 w' (F.ch cs a::l):=h.add hb s.1 s.2.1 s.2.2
theorem M.alloc (h:M B w0 w l) (vs:Array Value) (t:TypeId):M B w0 (w.alloc (.cells vs t)) (aL w.heap.size t vs::l):=
 h.add ((Below.refl _ _).alloc lr_ _) ⟨heap_alloc_new w _,rfl⟩ (pR _) fun b hb=>by rw[List.mem_singleton.1 hb];exact Nat.le_refl _
theorem M.turn (h:M B w0 w (c::l)) (k:∀f,c.at_ w f->f.Nodup->(∀b ∈ f,B<=b)->dO (fun b=>b ∈ f) w w'/\∃f',d.at_ w' f'/\f'.Nodup/\∀b ∈ f',b ∈ f\/w.heap.size<=b):M B w0 w' (d::l):=by
 obtain⟨_,⟨f,g,rfl,hc,hg⟩,nd,lo⟩:=h.own;obtain⟨n1,n2,n3⟩:=List.nodup_append.1 nd;obtain⟨hk,f',hd,nf,hf⟩:=k f hc n1 fun b hb=>lo b (List.mem_append_left _ hb)
 refine⟨h.below.trans (hk.below h.low fun b hb=>lo b (List.mem_append_left _ hb)),Nat.le_trans h.low hk.size,f'++g,⟨f',g,rfl,hd,(zU l).keep hg (fun b hm=>hk.block b ((zU l).lt hg b hm) fun q=>n3 b q b hm rfl) hk.size⟩,List.nodup_append.2 ⟨nf,n2,fun a h1 b h2 e=>?_⟩,fun b hm=>?_⟩
 ·rcases hf a h1 with q|q
  ·exact n3 a q b h2 e
  ·have:=(zU l).lt hg b h2;omega
 ·rcases List.mem_append.1 hm with hm|hm
  ·rcases hf b hm with q|q
   ·exact lo b (List.mem_append_left _ q)
   ·exact Nat.le_trans h.low q
  ·exact lo b (List.mem_append_right _ hm)
theorem M.to (h:M B w0 w (c::l)) (k:∀f,c.at_ w f->f.Nodup->∃f',d.at_ w f'/\f'.Nodup/\∀b ∈ f',b ∈ f):M B w0 w (d::l):=
 h.turn fun f hf nd _=>let ⟨f',h1,h2,h3⟩:=k f hf nd;⟨dO.refl _ _,f',h1,h2,fun b hb=>.inl (h3 b hb)⟩
theorem M.set {b i:Nat} {t:TypeId} {vs:Array Value} (h:M B w0 w (aL b t vs::l)) (u:Value):M B w0 (w.setCell ⟨b,i,none⟩ u) (aL b t (vs.setIfInBounds i u)::l):=
 h.turn fun f hf _ _=>⟨dO.of_grown (aF w ⟨b,i,none⟩ u) (by rw[hf.2];exact List.mem_singleton_self b),[b],⟨by rw[heap_setCell_same w b i _ _ _ hf.1],rfl⟩,pR _,fun x hx=>.inl (by rw[hf.2];exact hx)⟩
theorem M.first (h:M B w0 w (c::l)):∃f,c.at_ w f/\f.Nodup/\∀b ∈ f,B<=b:=by
 obtain⟨_,⟨f,g,rfl,hc,hg⟩,nd,lo⟩:=h.own;exact⟨f,hc,(List.nodup_append.1 nd).1,fun b hb=>lo b (List.mem_append_left _ hb)⟩
theorem M.drop (h:M B w0 w (c::l)):M B w0 w l:=by
 obtain⟨_,⟨f,g,rfl,hc,hg⟩,nd,lo⟩:=h.own;exact⟨h.below,h.low,g,hg,(List.nodup_append.1 nd).2.1,fun b hb=>lo b (List.mem_append_right _ hb)⟩
theorem aIk {l l':List Ch} (p:l.Perm l'):∀{w f},(zU l).at_ w f->∃f',(zU l').at_ w f'/\f.Perm f':=by
 induction p with
 |nil=>exact fun h=>⟨_,h,.refl _⟩
 |cons x _ ih=>
  rintro w f ⟨f1,f2,rfl,h1,h2⟩;obtain⟨g,hg,pg⟩:=ih h2;exact⟨f1++g,⟨f1,g,rfl,h1,hg⟩,.append_left _ pg⟩
 |swap x y l=>
  rintro w f ⟨f1,_,rfl,h1,⟨f2,f3,rfl,h2,h3⟩⟩;refine⟨f2++(f1++f3),⟨f2,_,rfl,h2,⟨f1,f3,rfl,h1,h3⟩⟩,?_⟩;rw[<-List.append_assoc, <-List.append_assoc];exact List.perm_append_comm.append_right _
 |trans _ _ i1 i2=>
  intro w f h;obtain⟨g,hg,pg⟩:=i1 h;obtain⟨k,hk,pk⟩:=i2 hg;exact⟨k,hk,pg.trans pk⟩
theorem M.perm {l':List Ch} (h:M B w0 w l) (p:l.Perm l'):M B w0 w l':=by
 obtain⟨f,ha,nd,lo⟩:=h.own;obtain⟨g,hg,pg⟩:=aIk p ha;exact⟨h.below,h.low,g,hg,pg.nodup_iff.1 nd,fun b hb=>lo b (pg.mem_iff.2 hb)⟩
theorem M.p1 {a b:Ch} (h:M B w0 w (a::b::l)):M B w0 w (b::a::l):=h.perm (.swap _ _ _)
theorem M.p2 {a b c:Ch} (h:M B w0 w (a::b::c::l)):M B w0 w (c::a::b::l):=h.perm ((List.Perm.swap _ _ _).cons a |>.trans (.swap _ _ _))
theorem jS {α:Type} (a:α):∀(k l:List α),(k++a::l).Perm (a::k++l)
 | [],l=>.refl _
 |x::k,l=>((jS a k l).cons x).trans (.swap _ _ _)
theorem M.p3 {a' b' c' d':Ch} (h:M B w0 w (a'::b'::c'::d'::l)):M B w0 w (d'::a'::b'::c'::l):=h.perm (jS d' [a',b',c'] l)
theorem M.p4 {a' b' c' d' e':Ch} (h:M B w0 w (a'::b'::c'::d'::e'::l)):M B w0 w (e'::a'::b'::c'::d'::l):=h.perm (jS e' [a',b',c',d'] l)
theorem M.p5 {a' b' c' d' e' f':Ch} (h:M B w0 w (a'::b'::c'::d'::e'::f'::l)):M B w0 w (f'::a'::b'::c'::d'::e'::l):=h.perm (jS f' [a',b',c',d',e'] l)
theorem M.p6 {a' b' c' d' e' f' g':Ch} (h:M B w0 w (a'::b'::c'::d'::e'::f'::g'::l)):M B w0 w (g'::a'::b'::c'::d'::e'::f'::l):=h.perm (jS g' [a',b',c',d',e',f'] l)
theorem M.p7 {a' b' c' d' e' f' g' h':Ch} (h:M B w0 w (a'::b'::c'::d'::e'::f'::g'::h'::l)):M B w0 w (h'::a'::b'::c'::d'::e'::f'::g'::l):=h.perm (jS h' [a',b',c',d',e',f',g'] l)
theorem M.two (h:M B w0 w (c.sep d::l)):M B w0 w (c::d::l):=by
 obtain⟨_,⟨_,g,rfl,⟨f1,f2,rfl,h1,h2⟩,hg⟩,nd,lo⟩:=h.own;rw[List.append_assoc]at nd lo;exact⟨h.below,h.low,_,⟨f1,_,rfl,h1,⟨f2,g,rfl,h2,hg⟩⟩,nd,lo⟩
theorem M.sep (h:M B w0 w (c::d::l)):M B w0 w (c.sep d::l):=by
 obtain⟨_,⟨f1,_,rfl,h1,⟨f2,g,rfl,h2,hg⟩⟩,nd,lo⟩:=h.own;rw[<-List.append_assoc]at nd lo;exact⟨h.below,h.low,_,⟨_,g,rfl,⟨f1,f2,rfl,h1,h2⟩,hg⟩,nd,lo⟩
theorem M.ex {ι:Type} {c:ι->Ch} (h:M B w0 w (Ch.ex c::l)):∃i,M B w0 w (c i::l):=by
 obtain⟨_,⟨f,g,rfl,⟨i,h1⟩,hg⟩,nd,lo⟩:=h.own;exact⟨i,h.below,h.low,_,⟨f,g,rfl,h1,hg⟩,nd,lo⟩
theorem M.in {ι:Type} {c:ι->Ch} (i:ι) (h:M B w0 w (c i::l)):M B w0 w (Ch.ex c::l):=by
 obtain⟨_,⟨f,g,rfl,h1,hg⟩,nd,lo⟩:=h.own;exact⟨h.below,h.low,_,⟨f,g,rfl,⟨i,h1⟩,hg⟩,nd,lo⟩
section
variable {b i:Nat} {t:TypeId} {vs:Array Value}
theorem M.cell (h:M B w0 w (aL b t vs::l)) {u:Value} (hi:vs[i]? =some u):w.cell? ⟨b,i,none⟩=some u:=by
 obtain⟨f,hf,_⟩:=h.first;simp[World.cell?,hf.1,hi]
theorem M.free (h:M B w0 w (aL b t vs::l)) (i:Nat):w.frozen? ⟨b,i,none⟩=false:=by
 obtain⟨f,hf,_⟩:=h.first;simp[World.frozen?,hf.1]
end
end
structure SlT (P:Program) (t e:TypeId) (z:Value) (size bytes:Nat):Prop where
 und:P.underlying t=some (.slice e)
 info:(P.info? e).map (fun i=>(i.zero,i.size,i.bytes))=some (some z,size,bytes)
 zs:z.cells.size=size
 pos:0<size
section
variable {α:Type} {A:Rep α} {e:TypeId} {size:Nat} {w w' w0:World} {B b:Nat} {l:List Ch} {xs:List α} {x:α} {v:Value} {cs:List Value}
def fL (FA:A.Frame) (e:TypeId) (size:Nat) (v:Value) (xs:List α):Ch:=(aV FA e size).ch [v] xs
theorem M.nil (FA:A.Frame) (e:TypeId) (size:Nat) (h:M B w0 w l):M B w0 w (fL FA e size zn []::l):=
 h.add (Below.refl _ _) (f:=[]) (Els.nil w 0 (fun _=>[]) fun _=>[]).rep List.nodup_nil fun b hb=>by cases hb
theorem M.empty (FA:A.Frame) (size:Nat) (h:M B w0 w (aL b e #[]::l)):M B w0 w (fL FA e size (.slice (some ⟨b,0,none⟩) 0 0) []::l):=
 h.to fun f hf nd=>⟨f,by
    obtain⟨hb,rfl⟩:=hf
    exact⟨_,fun _=>[],fun _=>[],rfl,⟨by simp,.inr ⟨b,0,#[],rfl,Nat.zero_le _,hb,Nat.le_refl _,by simp[maxLen],by simp,by simp⟩⟩,fun i hi=>absurd hi (Nat.not_lt_zero i),fun i a hi=>by simp at hi,by simp[Value.ownBlock]⟩,nd,fun _ h=>h⟩
theorem M.one (FA:A.Frame) (h:M B w0 w (aL b e cs.toArray::FA.ch cs x::l)) (hc:cs.length=size):M B w0 w (fL FA e size (.slice (some ⟨b,0,none⟩) 1 1) [x]::l):=
 h.sep.to fun f hf nd=>⟨f,by
    obtain⟨_,f2,rfl,⟨hb,rfl⟩,h2⟩:=hf
    refine⟨_,fun _=>cs,fun _=>f2,rfl,⟨by simp[hc],.inr ⟨b,1,_,rfl,Nat.zero_le _,hb,Nat.le_refl _,by simp[maxLen],by simp[hc],by simp[<-hc]⟩⟩,fun i hi=>hc,fun i a hi=>?_,by simp[Value.ownBlock]⟩
    match i,hi with
    | 0,hi=>simp at hi;subst hi;exact h2,nd,fun _ h=>h⟩
theorem M.pair {y:α} {ds:List Value} (FA:A.Frame) (h:M B w0 w (aL b e (cs++ds).toArray::FA.ch cs x::FA.ch ds y::l)) (hc:cs.length=size) (hd:ds.length=size):M B w0 w (fL FA e size (.slice (some ⟨b,0,none⟩) 2 2) [x,y]::l):=by
 refine h.sep.sep.to fun f hf nd=>⟨f,?_,nd,fun _ h=>h⟩
 obtain⟨_,f3,rfl,⟨_,f2,rfl,⟨hb,rfl⟩,hx⟩,hy⟩:=hf;refine⟨_,fun i=>if i=0 then cs else ds,fun i=>if i=0 then f2 else f3,rfl,⟨by simp[List.range_succ,hc,hd];omega,.inr ⟨b,2,_,rfl,Nat.zero_le _,hb,Nat.le_refl _,by simp[maxLen],by simp[hc,hd];omega,?_⟩⟩,fun i hi=>?_,fun i a hi=>?_,by simp[Value.ownBlock,List.range_succ]⟩
 ·simp[List.range_succ]
  rw[List.take_of_length_le];simp[hc,hd];omega
 ·show (if i=0 then cs else ds).length=size
  split
  ·exact hc
  ·exact hd
 ·match i,hi with
  | 0,hi=>simp at hi;subst hi;exact hx
  | 1,hi=>simp at hi;subst hi;exact hy
theorem M.snoc (FA:A.Frame) (h:M B w0 w (fL FA e size v xs::FA.ch cs x::l)) (hc:cs.length=size):∃cells,w.ownsRow B e size v xs.length cells/\
  ∀w' v',w'.ownsRow B e size v' (xs.length+1) (cells++cs)->w.grownBy w' v.ownBlock->(v'.ownBlock=v.ownBlock\/v'.ownBlock=some w.heap.size)->M B w0 w' (fL FA e size v' (xs++[x])::l):=by
 obtain⟨f,hf,nd,lo⟩:=h.first;obtain⟨cells,ho,_,_⟩:=pI.more FA (v:=v) (xs:=xs) ⟨hf,nd,lo⟩;refine⟨cells,ho,fun w' v' ho' hg hv=>h.sep.turn fun f hf nd lo=>?_⟩;obtain⟨f1,f2,rfl,h1,h2⟩:=hf;obtain⟨n1,n2,n3⟩:=List.nodup_append.1 nd;obtain⟨cells',ho2,_,more⟩:=pI.more FA (v:=v) (xs:=xs) ⟨h1,n1,fun b hb=>lo b (List.mem_append_left _ hb)⟩;have own:∀g,v.ownBlock=some g->g ∈ f1:=fun g hg=>by
  obtain⟨_,_,_,ev,_,e1⟩:=gX h1;cases ev;rw[e1];exact lW hg
 have ec:cells'=cells:=by
  rcases ho.2 with ⟨rfl,h0⟩|⟨g,cap,cur,rfl,_,hgg,_,_,_,ht⟩
  ·exact (List.eq_nil_of_length_eq_zero (l:=cells') (by rw[ho2.1,h0,Nat.zero_mul])).trans (List.eq_nil_of_length_eq_zero (by rw[ho.1,h0,Nat.zero_mul])).symm
  ·rcases ho2.2 with ⟨q,_⟩|⟨g2,cap2,cur2,q,_,hgg2,_,_,_,ht2⟩
   ·cases q
   ·cases q
    rw[hgg]at hgg2;cases hgg2;rw[<-ht, <-ht2]
 subst ec;have off2:∀b ∈ f2,some b≠v.ownBlock:=fun b hb q=>n3 b (own b q.symm) b hb rfl
 obtain⟨f',hS,hm⟩:=more w' v' cs x f2 ho' hg (hv.imp id fun q g hg'=>(by rw[q]at hg';cases hg';exact Nat.le_refl _)) hc
  ⟨FA.keep h2 (fun b hb=>hg.block b (FA.lt h2 b hb) (off2 b hb)) hg.size,n2,fun b hb=>lo b (List.mem_append_right _ hb)⟩ (fun b hb hb'=>n3 b hb' b hb rfl)
  (fun g hg' hm=>by
      rcases hv with q|q
      · exact off2 g hm (by rw[<-q,hg'])
      · rw[q]at hg';cases hg';exact absurd (FA.lt h2 _ hm) (Nat.lt_irrefl _))
 refine⟨⟨hg.os,hg.tape,hg.output,hg.size,fun k hk hs=>hg.block k hk fun q=>hs (List.mem_append_left _ (own k q.symm))⟩,f',hS.1,hS.2.1,fun b hb=>?_⟩;rcases hm b hb with q|q|q
 ·exact .inl (List.mem_append_left _ q)
 ·exact .inl (List.mem_append_right _ q)
 ·rcases hv with r|r
  ·exact .inl (List.mem_append_left _ (own b (by rw[<-r,q])))
  ·rw[r]at q;cases q;exact .inr lr_
theorem tH {B:Nat} {n:Nat} {ys:List Value} (h:w.ownsRow B e size v n ys):∃y c,v=.slice y n c:=by
 rcases h.2 with ⟨rfl,rfl⟩|⟨g,cap,cur,rfl,_⟩
 ·exact⟨_,_,rfl⟩
 ·exact⟨_,_,rfl⟩
theorem aK7 {P:Program} {t:TypeId} {z:Value} {bytes:Nat} (T:SlT P t e z size bytes) {FA:A.Frame} (OA:A.One size) (h:M B w0 w (aL b e cs.toArray::fL FA e size v xs::FA.ch cs x::l))
  (ty:TypeId) (c:Nat) (h63:xs.length+1<=maxLen) (hby:(xs.length+1) * bytes<=140737488355328):
  ∃y cap w',(Builtin.append_ #[t,t] ty #[v,.slice (some ⟨b,0,none⟩) 1 c]).run P w=.ok (.slice y (xs.length+1) cap) w'/\M B w0 w' (fL FA e size (.slice y (xs.length+1) cap) (xs++[x])::l):=by
 obtain⟨i,hi,hz,hs,hb⟩:=info_parts T.info;obtain⟨f,hf,_⟩:=h.drop.p1.first;have hc:cs.length=size:=OA.len hf;obtain⟨cells,ho,more⟩:=h.drop.snoc FA hc;obtain⟨v',w',hr,h1,h2,_,h4⟩:=run_append_own_at (P:=P) w B t ty e i z size bytes T.und hi hz hs hb T.zs T.pos v xs.length cells ho ⟨b,0,none⟩ 1 c cs (by rw[hc,Nat.one_mul])
  (fun j u hu=>by rw[Addr.add_mid,Nat.zero_add];exact h.cell (by simpa using hu)) (OA.one hf) h63 hby h.low
 obtain⟨y,cap,rfl⟩:=tH h1;exact⟨y,cap,w',hr,more w' _ h1 h2 h4⟩
theorem aJH {P:Program} {t:TypeId} {z:Value} {bytes:Nat} (T:SlT P t e z size bytes) {FA:A.Frame} (OA:A.One size) (h:M B w0 w (aL b e cs.toArray::fL FA e size v xs::FA.ch cs x::l))
  {o:Oper} {a:Act} {K:Act->World->Prop} {Q:Exit->Act->World->Prop} {s u:Operand} (ho:o.op=.call { callee:=.builtin .append,args:=#[s,u],argTypes:=#[t,t] }) {c N:Nat} (hs:a.eval s=v) (hu:a.eval u=.slice (some ⟨b,0,none⟩) 1 c)
  (h63:xs.length+1<=maxLen) (hby:(xs.length+1) * bytes<=140737488355328) (hN:N=xs.length+1)
  (k:∀y cap w',M B w0 w' (fL FA e size (.slice y N cap) (xs++[x])::l)->K (a.put o.dst (.slice y N cap)) w'):o.wp P a w K Q:=by
 obtain⟨y,cap,w',hr,hM⟩:=aK7 T OA h o.type c h63 hby;unfold Oper.wp execOp;simp only[ho,resolve,invoke,builtin,Sem.run_bind,Sem.run_pure,Result.andThen_ok,List.map_toArray,List.map_cons,List.map_nil,hs,hu,hr];rw[hN]at k;exact k y cap w' hM
theorem dA {P:Program} {t:TypeId} {z:Value} {bytes:Nat} (T:SlT P t e z size bytes) {FA:A.Frame} (OA:A.One size) (h:M B w0 w (aL b e cs.toArray::fL FA e size v xs::FA.ch cs x::l))
  {ops:Array Oper} {rest:List Oper} {o:Oper} {a:Act} {Q:Exit->Act->World->Prop} {s u:Operand} (hgd:o.guard=none) (ho:o.op=.call { callee:=.builtin .append,args:=#[s,u],argTypes:=#[t,t] }) {c N:Nat} (hs:a.eval s=v) (hu:a.eval u=.slice (some ⟨b,0,none⟩) 1 c)
  (h63:xs.length+1<=maxLen) (hby:(xs.length+1) * bytes<=140737488355328) (hN:N=xs.length+1)
  (k:∀y cap w',M B w0 w' (fL FA e size (.slice y N cap) (xs++[x])::l)->wpList P ops Q rest (a.put o.dst (.slice y N cap)) w'):wpList P ops Q (o::rest) a w:=
 wpList_plain hgd fun _ hK=>aJH T OA h ho hs hu h63 hby hN fun y cap w' hM=>hK _ _ (k y cap w' hM)
theorem aAP {P:Program} {t:TypeId} {z:Value} {bytes:Nat} (T:SlT P t e z size bytes) {FA:A.Frame} (OA:A.One size) (h:M B w0 w (aL b e cs.toArray::fL FA e size v xs::FA.ch cs x::l))
  {ops:Array Oper} {o:Oper} {a:Act} {K:Act->World->Prop} {Q:Exit->Act->World->Prop} {E:Prop} {s u:Operand} (hgd:o.guard=none) (ho:o.op=.call { callee:=.builtin .append,args:=#[s,u],argTypes:=#[t,t] }) {c N:Nat} (hs:a.eval s=v) (hu:a.eval u=.slice (some ⟨b,0,none⟩) 1 c)
  (h63:xs.length+1<=maxLen) (hby:(xs.length+1) * bytes<=140737488355328) (hN:N=xs.length+1)
  (k:∀y cap w',M B w0 w' (fL FA e size (.slice y N cap) (xs++[x])::l)->K (a.put o.dst (.slice y N cap)) w'):if Region.wanted o (yielded ops a.tmps)=true then Oper.wp P o a w K Q else E:=by
 rw[if_pos (by simp[Region.wanted,hgd])];exact aJH T OA h ho hs hu h63 hby hN k
theorem tX {P:Program} {t:TypeId} {z:Value} {bytes:Nat} (T:SlT P t e z 1 bytes) {enc:α->List Value} {z0:α} (hz:z.cells=#[z]) (hz0:enc z0=[z]) (hl:∀a,(enc a).length=1) (h:M B w0 w l)
  {ops:Array Oper} {rest:List Oper} {o:Oper} {a:Act} {Q:Exit->Act->World->Prop} (hgd:o.guard=none) {lo co:Operand} (hop:o.op=Op.makeSlice t lo co) {kl kc:IntKind} {L C:Int} (n:Nat) (hlo:a.eval lo=.int kl L) (hco:a.eval co=.int kc C) (hL:L=(n:Int)) (hC:C=(n:Int))
  (b2:bytes * n<=281474976710656) (b3:n<=maxLen) (k:∀w',M B w0 w' (fL (aG enc) e 1 (.slice (some ⟨w.heap.size,0,none⟩) n n) (List.replicate n z0)::l)->Below w.heap.size w w'->wpList P ops Q rest (a.put o.dst (.slice (some ⟨w.heap.size,0,none⟩) n n)) w'):wpList P ops Q (o::rest) a w:=by
 obtain⟨i,hi,hiz,hs,hb⟩:=info_parts T.info;refine wpList_make_full w hgd lo co t hop w.heap.size e i z 1 T.und hi hiz hs kl kc L C n hlo hco hL hC (by rw[hb];exact b2) b3 lr_ fun w' ho hg=>?_
 have bl:Below w.heap.size w w':=⟨hg.os,hg.tape,hg.output,hg.size,fun q hq=>hg.block q hq (by simp)⟩
 rw[hz,Nat.mul_one,toList_madeCells_one]at ho;have e1:(List.replicate n z0).flatMap enc=List.replicate n z:=by
  clear k b2 b3 hL hC ho
  induction n with
  |zero=>rfl
  |succ n ih=>rw[List.replicate_succ,List.flatMap_cons,ih,hz0];rfl
 have r:=kD (enc:=enc) (xs:=List.replicate n z0) (by rw[e1,List.length_replicate];exact ho) hl;exact k w' (h.add bl r (fW _) fun b hb=>(ho.lt b (bL hb)).1) bl
theorem M.elem {enc:α->List Value} {g n c i:Nat} {u:Value} (h:M B w0 w (fL (aG enc) e 1 (.slice (some ⟨g,0,none⟩) n c) xs::l)) (hi:xs[i]? =some x) (hu:enc x=[u]):w.cell? ⟨g,i,none⟩=some u:=by
 obtain⟨f,hf,_⟩:=h.first;obtain⟨g',cap,ci,fi,ev,_,_,_,ha,_,_,hc⟩:=aGA hf hi;cases ev;have:=hc 0 u (by rw[ha.1,hu];rfl);rwa[Nat.mul_one,Nat.add_zero]at this
theorem M.setEl {enc:α->List Value} {g n c i:Nat} (h:M B w0 w (fL (aG enc) e 1 (.slice (some ⟨g,0,none⟩) n c) xs::l)) (hi:i<xs.length) (y:α) {u:Value} (hy:enc y=[u]):
  (∃z,w.cell? ⟨g,i,none⟩=some z)/\w.frozen? ⟨g,i,none⟩=false/\M B w0 (w.setCell ⟨g,i,none⟩ u) (fL (aG enc) e 1 (.slice (some ⟨g,0,none⟩) n c) (xs.set i y)::l):=by
 obtain⟨f,hf,nd,lo⟩:=h.first;have at_:∀f,pI (mY e 1 (aBg enc)) B w [.slice (some ⟨g,0,none⟩) n c] xs f->(∃z,w.cell? ⟨g,i,none⟩=some z)/\dO (fun b=>b ∈ f) w (w.setCell ⟨g,i,none⟩ u)/\∃f',pI (mY e 1 (aBg enc)) B (w.setCell ⟨g,i,none⟩ u) [.slice (some ⟨g,0,none⟩) n c] (xs.set i y) f'/\∀b ∈ f',b ∈ f:=fun f S=>by
  obtain⟨_,mg,ci,fi,ha,_,_,_,hl,hc,_,k⟩:=pI.set (aG enc) S (i:=i) (k:=0) (List.getElem?_eq_getElem hi) o_;simp only[Nat.mul_one,Nat.add_zero]at hc k;obtain⟨f',s',m⟩:=k u y [] ⟨by match ci,hl with
      | [_],_=>rw[hy];rfl,rfl⟩ List.nodup_nil (fun b hb=>by cases hb)
  exact⟨⟨_,hc 0 _ (List.getElem?_eq_getElem o_)⟩,dO.of_grown (aF _ _ _) mg,f',s',fun b hb=>(m b hb).elim id fun q=>by cases q⟩
 obtain⟨hz,_,_⟩:=at_ f ⟨hf,nd,lo⟩;refine⟨hz,?_,h.turn fun f hf nd lo=>?_⟩
 ·obtain⟨_,_,_,ev,E,_⟩:=gX hf
  cases ev;rcases E.own.2 with ⟨q,_⟩|⟨g',cap,cur,q,_,hg,_⟩
  ·cases q
  ·cases q;simp[World.frozen?,hg]
 ·obtain⟨_,hk,f',s',m⟩:=at_ f ⟨hf,nd,lo⟩
  exact⟨hk,f',s'.1,s'.2.1,fun b hb=>.inl (m b hb)⟩
end
section
variable {w w0 w':World} {B b:Nat} {l:List Ch} {t:TypeId}
theorem M.cells2 {x0 x1:Value} (h:M B w0 w (aL b t #[x0,x1]::l)):w.cell? ⟨b,0,none⟩=some x0/\w.cell? ⟨b,1,none⟩=some x1:=
 ⟨h.cell rfl,h.cell rfl⟩
theorem M.cells3 {x0 x1 x2:Value} (h:M B w0 w (aL b t #[x0,x1,x2]::l)):w.cell? ⟨b,0,none⟩=some x0/\w.cell? ⟨b,1,none⟩=some x1/\w.cell? ⟨b,2,none⟩=some x2:=
 ⟨h.cell rfl,h.cell rfl,h.cell rfl⟩
theorem M.set3 {x0 x1 x2:Value} (h:M B w0 w (aL b t #[x0,x1,x2]::l)) (y0 y1 y2:Value):M B w0 (((w.setCell ⟨b,0,none⟩ y0).setCell ⟨b,1,none⟩ y1).setCell ⟨b,2,none⟩ y2) (aL b t #[y0,y1,y2]::l):=by
 have h0:=h.set (i:=0) y0;simp only[List.setIfInBounds_toArray,List.set_cons_zero,List.set_cons_succ]at h0;have h1:=h0.set (i:=1) y1;simp only[List.setIfInBounds_toArray,List.set_cons_zero,List.set_cons_succ]at h1;have h2:=h1.set (i:=2) y2;simp only[List.setIfInBounds_toArray,List.set_cons_zero,List.set_cons_succ]at h2;exact h2
theorem M.cells4 {x0 x1 x2 x3:Value} (h:M B w0 w (aL b t #[x0,x1,x2,x3]::l)):w.cell? ⟨b,0,none⟩=some x0/\w.cell? ⟨b,1,none⟩=some x1/\w.cell? ⟨b,2,none⟩=some x2/\w.cell? ⟨b,3,none⟩=some x3:=
 ⟨h.cell rfl,h.cell rfl,h.cell rfl,h.cell rfl⟩
theorem M.set4 {x0 x1 x2 x3:Value} (h:M B w0 w (aL b t #[x0,x1,x2,x3]::l)) (y0 y1 y2 y3:Value):M B w0 ((((w.setCell ⟨b,0,none⟩ y0).setCell ⟨b,1,none⟩ y1).setCell ⟨b,2,none⟩ y2).setCell ⟨b,3,none⟩ y3) (aL b t #[y0,y1,y2,y3]::l):=by
 have h0:=h.set (i:=0) y0;simp only[List.setIfInBounds_toArray,List.set_cons_zero,List.set_cons_succ]at h0;have h1:=h0.set (i:=1) y1;simp only[List.setIfInBounds_toArray,List.set_cons_zero,List.set_cons_succ]at h1;have h2:=h1.set (i:=2) y2;simp only[List.setIfInBounds_toArray,List.set_cons_zero,List.set_cons_succ]at h2;have h3:=h2.set (i:=3) y3
 simp only[List.setIfInBounds_toArray,List.set_cons_zero,List.set_cons_succ]at h3;exact h3
theorem M.cells5 {x0 x1 x2 x3 x4:Value} (h:M B w0 w (aL b t #[x0,x1,x2,x3,x4]::l)):w.cell? ⟨b,0,none⟩=some x0/\w.cell? ⟨b,1,none⟩=some x1/\w.cell? ⟨b,2,none⟩=some x2/\w.cell? ⟨b,3,none⟩=some x3/\w.cell? ⟨b,4,none⟩=some x4:=
 ⟨h.cell rfl,h.cell rfl,h.cell rfl,h.cell rfl,h.cell rfl⟩
theorem M.set5 {x0 x1 x2 x3 x4:Value} (h:M B w0 w (aL b t #[x0,x1,x2,x3,x4]::l)) (y0 y1 y2 y3 y4:Value):M B w0 (((((w.setCell ⟨b,0,none⟩ y0).setCell ⟨b,1,none⟩ y1).setCell ⟨b,2,none⟩ y2).setCell ⟨b,3,none⟩ y3).setCell ⟨b,4,none⟩ y4) (aL b t #[y0,y1,y2,y3,y4]::l):=by
 have h0:=h.set (i:=0) y0;simp only[List.setIfInBounds_toArray,List.set_cons_zero,List.set_cons_succ]at h0;have h1:=h0.set (i:=1) y1;simp only[List.setIfInBounds_toArray,List.set_cons_zero,List.set_cons_succ]at h1;have h2:=h1.set (i:=2) y2;simp only[List.setIfInBounds_toArray,List.set_cons_zero,List.set_cons_succ]at h2;have h3:=h2.set (i:=3) y3
 simp only[List.setIfInBounds_toArray,List.set_cons_zero,List.set_cons_succ]at h3;have h4:=h3.set (i:=4) y4;simp only[List.setIfInBounds_toArray,List.set_cons_zero,List.set_cons_succ]at h4;exact h4
theorem M.cells6 {x0 x1 x2 x3 x4 x5:Value} (h:M B w0 w (aL b t #[x0,x1,x2,x3,x4,x5]::l)):w.cell? ⟨b,0,none⟩=some x0/\w.cell? ⟨b,1,none⟩=some x1/\w.cell? ⟨b,2,none⟩=some x2/\w.cell? ⟨b,3,none⟩=some x3/\w.cell? ⟨b,4,none⟩=some x4/\w.cell? ⟨b,5,none⟩=some x5:=
 ⟨h.cell rfl,h.cell rfl,h.cell rfl,h.cell rfl,h.cell rfl,h.cell rfl⟩
theorem M.cells7 {x0 x1 x2 x3 x4 x5 x6:Value} (h:M B w0 w (aL b t #[x0,x1,x2,x3,x4,x5,x6]::l)):w.cell? ⟨b,0,none⟩=some x0/\w.cell? ⟨b,1,none⟩=some x1/\w.cell? ⟨b,2,none⟩=some x2/\w.cell? ⟨b,3,none⟩=some x3/\w.cell? ⟨b,4,none⟩=some x4/\w.cell? ⟨b,5,none⟩=some x5/\w.cell? ⟨b,6,none⟩=some x6:=
 ⟨h.cell rfl,h.cell rfl,h.cell rfl,h.cell rfl,h.cell rfl,h.cell rfl,h.cell rfl⟩
theorem M.set7 {x0 x1 x2 x3 x4 x5 x6:Value} (h:M B w0 w (aL b t #[x0,x1,x2,x3,x4,x5,x6]::l)) (y0 y1 y2 y3 y4 y5 y6:Value):M B w0 (((((((w.setCell ⟨b,0,none⟩ y0).setCell ⟨b,1,none⟩ y1).setCell ⟨b,2,none⟩ y2).setCell ⟨b,3,none⟩ y3).setCell ⟨b,4,none⟩ y4).setCell ⟨b,5,none⟩ y5).setCell ⟨b,6,none⟩ y6) (aL b t #[y0,y1,y2,y3,y4,y5,y6]::l):=by
 have h0:=h.set (i:=0) y0;simp only[List.setIfInBounds_toArray,List.set_cons_zero,List.set_cons_succ]at h0;have h1:=h0.set (i:=1) y1;simp only[List.setIfInBounds_toArray,List.set_cons_zero,List.set_cons_succ]at h1;have h2:=h1.set (i:=2) y2;simp only[List.setIfInBounds_toArray,List.set_cons_zero,List.set_cons_succ]at h2;have h3:=h2.set (i:=3) y3
 simp only[List.setIfInBounds_toArray,List.set_cons_zero,List.set_cons_succ]at h3;have h4:=h3.set (i:=4) y4;simp only[List.setIfInBounds_toArray,List.set_cons_zero,List.set_cons_succ]at h4;have h5:=h4.set (i:=5) y5;simp only[List.setIfInBounds_toArray,List.set_cons_zero,List.set_cons_succ]at h5;have h6:=h5.set (i:=6) y6
 simp only[List.setIfInBounds_toArray,List.set_cons_zero,List.set_cons_succ]at h6;exact h6
theorem M.cells10 {x0 x1 x2 x3 x4 x5 x6 x7 x8 x9:Value} (h:M B w0 w (aL b t #[x0,x1,x2,x3,x4,x5,x6,x7,x8,x9]::l)):w.cell? ⟨b,0,none⟩=some x0/\w.cell? ⟨b,1,none⟩=some x1/\w.cell? ⟨b,2,none⟩=some x2/\w.cell? ⟨b,3,none⟩=some x3/\w.cell? ⟨b,4,none⟩=some x4/\w.cell? ⟨b,5,none⟩=some x5/\w.cell? ⟨b,6,none⟩=some x6/\w.cell? ⟨b,7,none⟩=some x7/\w.cell? ⟨b,8,none⟩=some x8/\w.cell? ⟨b,9,none⟩=some x9:=
 ⟨h.cell rfl,h.cell rfl,h.cell rfl,h.cell rfl,h.cell rfl,h.cell rfl,h.cell rfl,h.cell rfl,h.cell rfl,h.cell rfl⟩
theorem M.set10 {x0 x1 x2 x3 x4 x5 x6 x7 x8 x9:Value} (h:M B w0 w (aL b t #[x0,x1,x2,x3,x4,x5,x6,x7,x8,x9]::l)) (y0 y1 y2 y3 y4 y5 y6 y7 y8 y9:Value):M B w0 ((((((((((w.setCell ⟨b,0,none⟩ y0).setCell ⟨b,1,none⟩ y1).setCell ⟨b,2,none⟩ y2).setCell ⟨b,3,none⟩ y3).setCell ⟨b,4,none⟩ y4).setCell ⟨b,5,none⟩ y5).setCell ⟨b,6,none⟩ y6).setCell ⟨b,7,none⟩ y7).setCell ⟨b,8,none⟩ y8).setCell ⟨b,9,none⟩ y9) (aL b t #[y0,y1,y2,y3,y4,y5,y6,y7,y8,y9]::l):=by
 have h0:=h.set (i:=0) y0;simp only[List.setIfInBounds_toArray,List.set_cons_zero,List.set_cons_succ]at h0;have h1:=h0.set (i:=1) y1;simp only[List.setIfInBounds_toArray,List.set_cons_zero,List.set_cons_succ]at h1;have h2:=h1.set (i:=2) y2;simp only[List.setIfInBounds_toArray,List.set_cons_zero,List.set_cons_succ]at h2;have h3:=h2.set (i:=3) y3
 simp only[List.setIfInBounds_toArray,List.set_cons_zero,List.set_cons_succ]at h3;have h4:=h3.set (i:=4) y4;simp only[List.setIfInBounds_toArray,List.set_cons_zero,List.set_cons_succ]at h4;have h5:=h4.set (i:=5) y5;simp only[List.setIfInBounds_toArray,List.set_cons_zero,List.set_cons_succ]at h5;have h6:=h5.set (i:=6) y6
 simp only[List.setIfInBounds_toArray,List.set_cons_zero,List.set_cons_succ]at h6;have h7:=h6.set (i:=7) y7;simp only[List.setIfInBounds_toArray,List.set_cons_zero,List.set_cons_succ]at h7;have h8:=h7.set (i:=8) y8;simp only[List.setIfInBounds_toArray,List.set_cons_zero,List.set_cons_succ]at h8;have h9:=h8.set (i:=9) y9
 simp only[List.setIfInBounds_toArray,List.set_cons_zero,List.set_cons_succ]at h9;exact h9
end
end Go.Proofs.YtcblbdpdbggkbaaGreat
namespace Go.Proofs.YtcblbdpdbggkbaaGreat
open _root_.Go.Proofs.Tryz
open Go.RowKit Go.Sort Go.Maps
open Go.ChangeMaps (setBlock modify_eq_set)
structure aEi (P:Program) (k:TypeId) {κ:Type} (ok:κ->Prop) (kv:κ->Value):Prop where
 keyed:Keyed P k
 key:∀x,ok x->∃l,keyOf P k (kv x)=some l
 inj:∀x y,kv x=kv y->x=y
section
variable {P:Program} {k t el:TypeId} {κ:Type} [DecidableEq κ] {ok:κ->Prop} {kv:κ->Value} {w w0 w':World} {b B:Nat} {l:List Ch} {g:κ->Option Value}
def aA7 (ok:κ->Prop) (kv:κ->Value) (w:World) (b:Nat) (g:κ->Option Value):Prop:=∃es clock,w.heap[b]? =some (.map es clock)/\(∀e ∈ es.toList,∃x,ok x/\e.key=kv x/\g x=some e.val)/\(∀x v,g x=some v->∃e ∈ es.toList,e.key=kv x)/\(es.toList.map (·.key)).Nodup
def zW (ok:κ->Prop) (kv:κ->Value) (b:Nat) (g:κ->Option Value):Ch:=⟨fun w f=>aA7 ok kv w b g/\f=[b],
  fun h x hx=>by obtain⟨⟨_,_,hb,_⟩,rfl⟩:=h;rw[List.mem_singleton.1 hx];exact (Array.getElem?_eq_some_iff.1 hb).1,
  fun h hk _=>by obtain⟨⟨es,c,hb,r⟩,rfl⟩:=h;exact⟨⟨es,c,(hk b (List.mem_singleton_self b)).trans hb,r⟩,rfl⟩⟩
theorem M.map (ok:κ->Prop) (kv:κ->Value) (h:M B w0 w l):M B w0 (w.alloc (.map #[] 0)) (zW ok kv w.heap.size (fun _=>none)::l):=
 h.add ((Below.refl _ _).alloc lr_ _) ⟨⟨#[],0,heap_alloc_new w _,fun e he=>(by simp at he),fun x v hx=>(by cases hx),by simp⟩,rfl⟩ (pR _) fun b hb=>by rw[List.mem_singleton.1 hb];exact Nat.le_refl _
theorem aA7.look (K:aEi P k ok kv) (ht:P.underlying t=some (.map k el)) {z:Value} (hz:(zeroValue el).run P w=.ok z w) (h:aA7 ok kv w b g) {x:κ} (hx:ok x) (c:Bool):
  (Instr.lookup t (.map (some b)) (kv x) c).run P w=.ok (if c then .tuple #[(g x).getD z,.bool (g x).isSome]else (g x).getD z) w:=by
 obtain⟨es,clock,hb,h1,h2,nd⟩:=h;obtain⟨lx,hl⟩:=K.key x hx;rcases K.keyed.find w hl es.toList (fun e he=>by obtain⟨y,hy,e1,_⟩:=h1 e he;rw[e1];exact K.key y hy)with ⟨f1,f2⟩|⟨j,e0,f1,f2,f3⟩
 ·have n:g x=none:=by
   cases q:g x with
   |none=>rfl
   |some v=>obtain⟨e,he,e1⟩:=h2 x v q;exact absurd e1 (f2 e he)
  simp[Instr.lookup,run_underlying ht,MapKept.run_getObj_map hb,K.keyed.check w _ hl,f1,hz,Result.andThen,n]
 ·obtain⟨y,hy,e1,e2⟩:=h1 e0 (List.mem_of_getElem? f2)
  obtain rfl:=K.inj y x (e1.symm.trans f3);simp[Instr.lookup,run_underlying ht,MapKept.run_getObj_map hb,K.keyed.check w _ hl,f1,Result.andThen,e2]
theorem aA7.store (K:aEi P k ok kv) (ht:P.underlying t=some (.map k el)) (h:aA7 ok kv w b g) {x:κ} (hx:ok x) (v:Value):
  ∃es clock,(Instr.mapUpdate t (.map (some b)) (kv x) v).run P w=.ok () (setBlock w b (.map es clock))/\aA7 ok kv (setBlock w b (.map es clock)) b (fun y=>if y=x then some v else g y):=by
 obtain⟨es,clock,hb,h1,h2,nd⟩:=h;obtain⟨lx,hl⟩:=K.key x hx;have lt:b<w.heap.size:=(Array.getElem?_eq_some_iff.1 hb).1;have here:∀o:Obj,(setBlock w b o).heap[b]? =some o:=fun o=>by simp[setBlock,lt]
 rcases K.keyed.find w hl es.toList (fun e he=>by obtain⟨y,hy,e1,_⟩:=h1 e he;rw[e1];exact K.key y hy)with ⟨f1,f2⟩|⟨j,e0,f1,f2,f3⟩
 ·refine⟨es.push ⟨kv x,v,clock⟩,clock+1,?_,_,_,here _,fun e he=>?_,fun y u hy=>?_,?_⟩
  ·simp[Instr.mapUpdate,run_underlying ht,MapKept.run_getObj_map hb,K.keyed.check w false hl,f1,MapKept.run_setObj_map _ hb,Result.andThen,setBlock]
  ·simp only[Array.toList_push,List.mem_append,List.mem_singleton]at he
   rcases he with he|rfl
   ·obtain⟨y,hy,e1,e2⟩:=h1 e he
    exact⟨y,hy,e1,(if_neg fun q=>f2 e he (by rw[e1,q])).trans e2⟩
   ·exact⟨x,hx,rfl,if_pos rfl⟩
  ·by_cases q:y=x
   ·subst q;exact⟨⟨kv y,v,clock⟩,by simp,rfl⟩
   ·replace hy:=(if_neg q).symm.trans hy
    obtain⟨e,he,e1⟩:=h2 y u hy;exact⟨e,by simp[he],e1⟩
  ·rw[Array.toList_push,List.map_append,List.nodup_append]
   refine⟨nd,by simp,fun a ha c hc q=>?_⟩;obtain⟨e,he,rfl⟩:=List.mem_map.1 ha;simp only[List.map_cons,List.map_nil,List.mem_singleton]at hc;exact f2 e he (q.trans hc)
 ·have hj:es[j]? =some e0:=by simpa using f2
  have hlist:(es.modify j (fun e'=>{ e' with key:=kv x,val:=v })).toList=es.toList.set j { e0 with key:=kv x,val:=v }:=by rw[Array.toList_modify,modify_eq_set _ _ _ _ f2]
  have jl:j<es.toList.length:=(List.getElem?_eq_some_iff.1 f2).1;refine⟨es.modify j (fun e'=>{ e' with key:=kv x,val:=v }),clock,?_,_,_,here _,fun e he=>?_,fun y u hy=>?_,?_⟩
  ·simp[Instr.mapUpdate,run_underlying ht,MapKept.run_getObj_map hb,K.keyed.check w false hl,f1,hj,f3,K.keyed.stays w hl,MapKept.run_setObj_map _ hb,Result.andThen,setBlock]
  ·rw[hlist]at he
   obtain⟨i,hi,rfl⟩:=List.getElem_of_mem he;have hi':i<es.toList.length:=by simpa using hi
   by_cases q:j=i
   ·subst q
    rw[List.getElem_set_self];exact⟨x,hx,rfl,if_pos rfl⟩
   ·rw[List.getElem_set_ne q]
    obtain⟨y,hy,e1,e2⟩:=h1 _ (List.getElem_mem hi');refine⟨y,hy,e1,(if_neg fun r=>?_).trans e2⟩
    ·have a1:(es.toList.map (·.key))[i]'(by simpa using hi')=kv x:=by rw[List.getElem_map,e1,r]
     have a2:(es.toList.map (·.key))[j]'(by simpa using jl)=kv x:=by
      rw[List.getElem?_eq_getElem jl]at f2;rw[List.getElem_map,Option.some.inj f2,f3]
     rcases Nat.lt_or_gt_of_ne q with z|z
     ·exact (List.pairwise_iff_getElem.1 nd j i (by simpa using jl) (by simpa using hi') z) (a2.trans a1.symm)
     ·exact (List.pairwise_iff_getElem.1 nd i j (by simpa using hi') (by simpa using jl) z) (a1.trans a2.symm)
  ·rw[hlist]
   by_cases q:y=x
   ·subst q;exact⟨{ e0 with key:=kv y,val:=v },List.mem_iff_getElem.2 ⟨j,by simpa using jl,by simp⟩,rfl⟩
   ·replace hy:=(if_neg q).symm.trans hy
    obtain⟨e,he,e1⟩:=h2 y u hy;obtain⟨i,hi,rfl⟩:=List.getElem_of_mem he;refine⟨es.toList[i],List.mem_iff_getElem.2 ⟨i,by simpa using hi,?_⟩,e1⟩;rw[List.getElem_set_ne];intro e2;subst e2;rw[List.getElem?_eq_getElem hi]at f2;cases f2;exact q (K.inj y x (e1.symm.trans f3))
  ·rw[hlist,List.map_set]
   have:(es.toList.map (·.key)).set j (kv x)=es.toList.map (·.key):=by
    rw[List.getElem?_eq_getElem jl]at f2;have a2:(es.toList.map (·.key))[j]'(by simpa using jl)=kv x:=by rw[List.getElem_map,Option.some.inj f2,f3]
    rw[<-a2];exact List.set_getElem_self _
   rw[this];exact nd
theorem M.look (K:aEi P k ok kv) (ht:P.underlying t=some (.map k el)) {z:Value} (hz:(zeroValue el).run P w=.ok z w) (h:M B w0 w (zW ok kv b g::l)) {x:κ} (hx:ok x) (c:Bool):
  (Instr.lookup t (.map (some b)) (kv x) c).run P w=.ok (if c then .tuple #[(g x).getD z,.bool (g x).isSome]else (g x).getD z) w:=by
 obtain⟨f,hf,_⟩:=h.first;exact hf.1.look K ht hz hx c
theorem M.store (K:aEi P k ok kv) (ht:P.underlying t=some (.map k el)) (h:M B w0 w (zW ok kv b g::l)) {x:κ} (hx:ok x) (v:Value):
  ∃w',(Instr.mapUpdate t (.map (some b)) (kv x) v).run P w=.ok () w'/\M B w0 w' (zW ok kv b (fun y=>if y=x then some v else g y)::l)/\w'.heap.size=w.heap.size:=by
 obtain⟨f,hf,_⟩:=h.first;obtain⟨es,c,hr,hm⟩:=hf.1.store K ht hx v;refine⟨_,hr,h.turn fun f hf _ _=>⟨⟨rfl,rfl,rfl,by simp[setBlock],fun q _ hq=>?_⟩,[b],⟨hm,rfl⟩,pR _,fun y hy=>.inl (by rw[hf.2];exact hy)⟩,by simp[setBlock]⟩;rw[hf.2]at hq;have ne:¬b=q:=fun e=>hq (by simp[e])
 simp[setBlock,Array.getElem?_setIfInBounds,ne]
theorem aKU (K:aEi P k ok kv) (ht:P.underlying t=some (.map k el)) (h:M B w0 w (zW ok kv b g::l)) {x:κ} (hx:ok x) {o:Oper} {a:Act} {N:Act->World->Prop} {Q:Exit->Act->World->Prop} {mo ko vo:Operand} (hop:o.op=.mapUpdate t mo ko vo) {v:Value}
  (hm:a.eval mo=.map (some b)) (hk:a.eval ko=kv x) (hv:a.eval vo=v) (n:∀w',M B w0 w' (zW ok kv b (fun y=>if y=x then some v else g y)::l)->w'.heap.size=w.heap.size->N (a.put o.dst undef) w'):o.wp P a w N Q:=by
 obtain⟨w',hr,hM,hs⟩:=h.store K ht hx v;unfold Oper.wp;simp[execOp,hop,hm,hk,hv,hr,Result.andThen,Oper.upon];exact n w' hM hs
theorem aEv (K:aEi P k ok kv) (ht:P.underlying t=some (.map k el)) (h:M B w0 w (zW ok kv b g::l)) {x:κ} (hx:ok x) {ops:Array Oper} {rest:List Oper} {o:Oper} {a:Act} {Q:Exit->Act->World->Prop} {mo ko vo:Operand} (hgd:o.guard=none) (hop:o.op=.mapUpdate t mo ko vo) {v:Value}
  (hm:a.eval mo=.map (some b)) (hk:a.eval ko=kv x) (hv:a.eval vo=v) (n:∀w',M B w0 w' (zW ok kv b (fun y=>if y=x then some v else g y)::l)->w'.heap.size=w.heap.size->wpList P ops Q rest (a.put o.dst undef) w'):wpList P ops Q (o::rest) a w:=
 wpList_plain hgd fun _ hK=>aKU K ht h hx hop hm hk hv fun w' h1 h2=>hK _ _ (n w' h1 h2)
end
end Go.Proofs.YtcblbdpdbggkbaaGreat
namespace Go.Proofs.YtcblbdpdbggkbaaGreat
open _root_.Go.Proofs.Tryz
open Go
section
variable {P:Program} {ops:Array Oper} {Q:Exit->Act->World->Prop} {md:Region.Mode} {S:World->Prop} {n:Nat}
def wpL (P:Program) (md:Region.Mode) (ops:Array Oper) (Q:Exit->Act->World->Prop) (S:World->Prop) (n:Nat):Nat->Array Bool->Act->World->Prop
 | 0,listed,a,w=>Region.ready md ops listed=[]/\Q .normal a w
 |fuel+1,listed,a,w=>
  (Region.ready md ops listed=[]->Q .normal a w)/\
  ∀i ∈ Region.ready md ops listed,wpOp P ops Q i (fun a' w'=>(i=n\/S w')/\wpL P md ops Q S n fuel (listed.setIfInBounds i true) a' w') a w
theorem aAp:∀(fuel:Nat) (listed:Array Bool) (a:Act) (w:World),wpL P md ops Q S n fuel listed a w->wpAny P md ops Q fuel listed a w
 | 0,_,_,_,h=>h
 |fuel+1,_,_,_,h=>⟨h.1,fun i hi=>wpOp_mono (fun a' w' h'=>aAp fuel _ a' w' h'.2) (h.2 i hi)⟩
def wX (md:Region.Mode) (ops:Array Oper) (listed:Array Bool):Prop:=∀j o,ops[j]? =some o->listed.getD j false=true->∀e ∈ o.after,Region.binds md e=true->listed.getD e.on false=true
def rE (md:Region.Mode) (ops:Array Oper) (k:Nat):List Nat:=match ops[k]? with
 |some o=>(o.after.toList.filter fun e=>Region.binds md e).map fun e=>e.on
 |none=>[]
def aEM (md:Region.Mode) (ops:Array Oper):Nat->List Nat->List Nat
 | 0,s=>s
 |k+1,s=>aEM md ops k (if s.contains k then rE md ops k++s else s)
theorem wX.waits {listed:Array Bool} (h:wX md ops listed) {k:Nat} (hk:listed.getD k false=true):∀i ∈ rE md ops k,listed.getD i false=true:=fun i hi=>by
 unfold rE at hi;cases ho:ops[k]? with
 |none=>rw[ho]at hi;cases hi
 |some o=>
  rw[ho]at hi;obtain⟨e,he,rfl⟩:=List.mem_map.1 hi;obtain⟨he,hb⟩:=List.mem_filter.1 he;exact h k o ho hk e (Array.mem_toList_iff.1 he) hb
theorem wX.ups {listed:Array Bool} (h:wX md ops listed):∀(k:Nat) (s:List Nat),(∀i ∈ s,listed.getD i false=true)->∀i ∈ aEM md ops k s,listed.getD i false=true
 | 0,_,hs=>hs
 |k+1,s,hs=>by
  unfold aEM;refine h.ups k _ fun i hi=>?_
  split at hi
  ·rename_i hc
   rcases List.mem_append.1 hi with hi|hi
   ·exact h.waits (hs k (by simpa using hc)) i hi
   ·exact hs i hi
  ·exact hs i hi
theorem wX.set {listed:Array Bool} (h:wX md ops listed) {i:Nat} (hi:i ∈ Region.ready md ops listed):wX md ops (listed.setIfInBounds i true):=fun j o ho hj e he hb=>by
 by_cases ij:i=j
 ·subst ij
  obtain⟨_,o',ho',hall⟩:=mem_ready.1 hi;rw[ho]at ho';cases ho';exact getD_set_true (hall e he hb)
 ·rw[getD_set_ne false ij]at hj
  exact getD_set_true (h j o ho hj e he hb)
theorem wX.none (k:Nat):wX md ops (Array.replicate k false):=fun j o _ hj=>by
 exfalso
 rcases Nat.lt_or_ge j k with q|q
 ·simp[q]at hj
 ·simp[q]at hj
theorem aId {i:Nat} (h:(match ops[n]? with|some o=>(o.after.any fun e=>Region.binds md e&&e.on==i) || (aEM md ops n (rE md ops n)).contains i|none=>true)=true) {listed:Array Bool} (hs:wX md ops listed) (hu:listed.getD i true=false):n ∉ Region.ready md ops listed:=fun hr=>by
 have hu':listed.getD i false=false:=by
  rcases Nat.lt_or_ge i listed.size with h'|h'
  ·simp[h']at hu ⊢;exact hu
  ·simp[Array.getElem?_eq_none h']at hu
 obtain⟨_,o,ho,hall⟩:=mem_ready.1 hr;rw[ho]at h;rcases Bool.or_eq_true _ _ ▸ h with h|h
 ·obtain⟨e,he,hb⟩:=Array.any_eq_true'.1 h
  simp only[Bool.and_eq_true,beq_iff_eq]at hb;have h1:=hall e he hb.1;rw[hb.2,hu']at h1;cases h1
 ·have h1:=hs.ups n (rE md ops n) (fun k hk=>by
      unfold rE at hk
      rw[ho]at hk
      obtain⟨e,he,rfl⟩:=List.mem_map.1 hk
      obtain⟨he,hb⟩:=List.mem_filter.1 he
      exact hall e (Array.mem_toList_iff.1 he) hb) i (by simpa using h)
  rw[hu']at h1;cases h1
theorem aHs {i:Nat} {oi:Oper} {v:Value} (hi:ops[i]? =some oi) (hsel:∀(j:Nat) (o:Oper) cs b,ops[j]? =some o->o.op≠.select cs b)
  (hQ:∀c a w,Q (.panic c) (a.put oi.dst v) w->Q (.panic c) a w) (hn:∀listed:Array Bool,wX md ops listed->listed.getD i true=false->n ∉ Region.ready md ops listed):
  ∀(fuel:Nat) (listed:Array Bool) (a:Act) (w:World),wX md ops listed->
   (∀j oj,ops[j]? =some oj->j≠i->listed.getD j true=false->(∀e ∈ oj.after,Region.binds md e=true->e.on≠i)->oi.apart ops oj=true)->
   i ∈ Region.ready md ops listed->YieldsIf P ops S oi v a->S w->
   wpL P md ops Q S n fuel (listed.setIfInBounds i true) (a.put oi.dst v) w->wpL P md ops Q S n (fuel+1) listed a w:=by
 intro fuel
 induction fuel with
 |zero=>
  intro listed a w _ _ hr hy hS H;refine⟨fun h=>(by rw[h]at hr;cases hr),fun j hj=>?_⟩
  by_cases hji:j=i
  ·subst hji;exact hy.wpOp hi hS ⟨.inr hS,H⟩
  ·have:=ready_mono hj hji
   rw[H.1]at this;cases this
 |succ fuel ih=>
  intro listed a w hsh hfree hr hy hS H;refine⟨fun h=>(by rw[h]at hr;cases hr),fun j hj=>?_⟩
  by_cases hji:j=i
  ·subst hji;exact hy.wpOp hi hS ⟨.inr hS,H⟩
  ·by_cases hjn:j=n
   ·subst hjn;exact absurd hj (hn listed hsh (mem_ready.1 hr).1)
   have h1:=H.2 j (ready_mono hj hji);obtain⟨hjun,oj,hoj,hall⟩:=mem_ready.1 hj;have hnot:∀e ∈ oj.after,Region.binds md e=true->e.on≠i:=fun e he hb heq=>by
    have h1:=hall e he hb;have h0:=(mem_ready.1 hr).1;rw[heq]at h1;rcases Nat.lt_or_ge i listed.size with h'|h'
    ·simp[h']at h0 h1;rw[h0]at h1;cases h1
    ·simp[Array.getElem?_eq_none h']at h1
   have h2:=wpOp_putIf hoj (hfree j oj hoj hji hjun hnot) (fun cs b=>hsel i oi cs b hi) (fun cs b=>hsel j oj cs b hoj) hQ hy h1;have hfree':∀k ok,ops[k]? =some ok->k≠i->(listed.setIfInBounds j true).getD k true=false->
     (∀e ∈ ok.after,Region.binds md e=true->e.on≠i)->oi.apart ops ok=true:=fun k ok hk hki hun hno=>by
    refine hfree k ok hk hki ?_ hno
    by_cases hjk:j=k
    ·subst hjk;exact hjun
    ·rw[getD_set_ne true hjk]at hun;exact hun
   refine wpOp_mono (fun a' w' h3=>?_) h2;have s:=h3.2.1.resolve_left hjn;refine⟨.inr s,ih (listed.setIfInBounds j true) a' w' (hsh.set hj) hfree' (ready_mono hr (Ne.symm hji)) h3.1 s ?_⟩;rw[Array.setIfInBounds_comm _ _ hji];exact h3.2.2
inductive Tr where
 |done
 |take (i:Nat) (t:Tr)
 |alt (i:Nat) (t more:Tr)
 |nomore
def Tr.idx:Tr->List Nat
 | .alt i _ m=>i::m.idx
 |_=>[]
def Tr.isDone:Tr->Bool
 | .done=>true
 |_=>false
def Tr.chk (md:Region.Mode) (ops:Array Oper) (n:Nat):Bool->Array Bool->Tr->Bool
 |_,listed,.done=>(Region.ready md ops listed).isEmpty
 |_,listed,.take i t=>Region.noSelect ops&&Region.free md ops listed i&&(Region.ready md ops listed).contains i&&(match ops[n]? with|some o=>(o.after.any fun e=>Region.binds md e&&e.on==i) || (aEM md ops n (rE md ops n)).contains i|none=>true)&&t.chk md ops n true (listed.setIfInBounds i true)
 |head,listed,.alt i t m=>(Region.ready md ops listed).contains i&&(i != n || t.isDone)&&(!head || Region.ready md ops listed==i::m.idx)&&t.chk md ops n true (listed.setIfInBounds i true)&&m.chk md ops n false listed
 |head,_,.nomore=> !head
def Tr.size:Tr->Nat
 | .done=>0
 | .take _ t=>t.size+1
 | .alt _ t m=>max (t.size+1) m.size
 | .nomore=>0
def gJ (P:Program) (ops:Array Oper) (Q:Exit->Act->World->Prop) (S:World->Prop) (n:Nat):Tr->Act->World->Prop
 | .done,a,w=>Q .normal a w
 | .take i t,a,w=>∃o v,ops[i]? =some o/\YieldsIf P ops S o v a/\gJ P ops Q S n t (a.put o.dst v) w
 | .alt i t m,a,w=>wpOp P ops Q i (fun a' w'=>(i=n\/S w')/\gJ P ops Q S n t a' w') a w/\gJ P ops Q S n m a w
 | .nomore,_,_=>True
theorem Tr.isDone_iff {t:Tr}:t.isDone=true↔t=.done:=by cases t<;>simp[Tr.isDone]
theorem nD (hQ:∀c a (d:Tmp) v w,Q (.panic c) (Act.put a (some d) v) w->Q (.panic c) a w):∀(t:Tr) (head:Bool) (listed:Array Bool) (a:Act) (w:World),wX md ops listed->t.chk md ops n head listed=true->gJ P ops Q S n t a w->
  (head=true->(S w\/t=.done)->∀F,t.size<=F->wpL P md ops Q S n F listed a w)/\(S w->∀j ∈ t.idx,∀F,t.size<=F+1->wpOp P ops Q j (fun a' w'=>(j=n\/S w')/\wpL P md ops Q S n F (listed.setIfInBounds j true) a' w') a w)
 | .done,head,listed,a,w,hsh,c,h=>by
  refine⟨fun _ _ F _=>?_,fun _ j hj=>by cases hj⟩;have e:Region.ready md ops listed=[]:=List.isEmpty_iff.1 c;cases F with
  |zero=>exact⟨e,h⟩
  |succ F=>exact⟨fun _=>h,fun i hi=>by rw[e]at hi;cases hi⟩
 | .take i t,head,listed,a,w,hsh,c,h=>by
  refine⟨fun hh hs F hF=>?_,fun _ j hj=>by cases hj⟩;obtain⟨o,v,ho,hy,hr⟩:=h;simp only[Tr.chk,Bool.and_eq_true]at c;obtain⟨⟨⟨⟨c1,c2⟩,c3⟩,c4⟩,c5⟩:=c;have s:S w:=hs.resolve_right (fun q=>by cases q);simp only[Tr.size]at hF;obtain⟨F',rfl⟩:∃F',F=F'+1:=⟨F - 1,o_⟩
  exact aHs ho (Region.noSelect_spec c1) (fun c a w=>by cases hd:o.dst with
      |none=>exact id
      |some d=>exact hQ c a d v w) (fun l hl hu=>aId c4 hl hu) F' listed a w hsh (Region.free_spec ho c2) (by simpa using c3) hy s
   ((nD hQ t true _ _ w (hsh.set (by simpa using c3)) c5 hr).1 rfl (.inl s) F' o_)
 | .alt i t m,head,listed,a,w,hsh,c,h=>by
  simp only[Tr.chk,Bool.and_eq_true]at c;obtain⟨⟨⟨⟨cr,c0⟩,c1⟩,c2⟩,c3⟩:=c;have one:∀F,t.size<=F->wpOp P ops Q i (fun a' w'=>(i=n\/S w')/\wpL P md ops Q S n F (listed.setIfInBounds i true) a' w') a w:=fun F hF=>
   wpOp_mono (fun a' w' h'=>⟨h'.1,(nD hQ t true _ a' w' (hsh.set (by simpa using cr)) c2 h'.2).1 rfl (by
        rcases h'.1 with q|q
        · refine .inr (Tr.isDone_iff.1 ?_)
          simpa[q]using c0
        · exact .inl q) F hF⟩) h.1
  have all:S w->∀j ∈ i::m.idx,∀F,max (t.size+1) m.size<=F+1->wpOp P ops Q j (fun a' w'=>(j=n\/S w')/\wpL P md ops Q S n F (listed.setIfInBounds j true) a' w') a w:=fun s j hj F hF=>by
   rcases List.mem_cons.1 hj with rfl|hj
   ·exact one F o_
   ·exact (nD hQ m false listed a w hsh c3 h.2).2 s j hj F o_
  refine⟨fun hh hs F hF=>?_,fun s j hj F hF=>all s j hj F hF⟩;have s:S w:=hs.resolve_right (fun q=>by cases q);simp only[Tr.size]at hF;obtain⟨F',rfl⟩:∃F',F=F'+1:=⟨F - 1,o_⟩
  subst hh;have e:Region.ready md ops listed=i::m.idx:=by simpa using c1
  exact⟨fun q=>(by rw[e]at q;cases q),fun j hj=>all s j (by rw[<-e];exact hj) F' hF⟩
 | .nomore,head,listed,a,w,_,c,h=>⟨fun hh=>(by subst hh;cases c),fun _ j hj=>(by cases hj)⟩
theorem aC {id:Nat} {a:Act} {w:World} (n:Nat) (t:Tr) (S:World->Prop) (hm:P.follows .mixedOrders=true) (hc:(t.chk .any ops n true (Array.replicate ops.size false)&&decide (t.size<=ops.size))=true)
  (hQ:∀c a (d:Tmp) v w,Q (.panic c) (Act.put a (some d) v) w->Q (.panic c) a w) (hS:S w.drew) (h:gJ P ops Q S n t a w.drew):(Code.region id ops true).wp P Q a w:=by
 simp only[Bool.and_eq_true,decide_eq_true_eq]at hc;exact wp_region_any hm (aAp _ _ _ _ ((nD hQ t true _ a w.drew (wX.none _) hc.1 h).1 rfl (.inl hS) _ hc.2))
theorem cQ {i:Nat} {t:Tr} {a:Act} {w:World} {o:Oper} (ho:ops[i]? =some o) (hw:Region.wanted o (yielded ops a.tmps)=true) (h:∃v,(∀w',S w'->(execOp a.eval o).run P w'=.ok (.value v) w')/\gJ P ops Q S n t (a.put o.dst v) w):gJ P ops Q S n (.take i t) a w:=
 let ⟨v,hv,h⟩:=h;⟨o,v,ho,.inl ⟨hw,hv⟩,h⟩
theorem cP {i:Nat} {t:Tr} {a:Act} {w:World} {o:Oper} (ho:ops[i]? =some o) (hw:Region.wanted o (yielded ops a.tmps)=false) (h:gJ P ops Q S n t (a.put o.dst undef) w):gJ P ops Q S n (.take i t) a w:=
 ⟨o,undef,ho,.inr ⟨hw,rfl⟩,h⟩
theorem bP {i:Nat} {t m:Tr} {a:Act} {w:World} {o:Oper} (ho:ops[i]? =some o) (h:∀K:Act->World->Prop,(∀a' w',(i=n\/S w')->gJ P ops Q S n t a' w'->K a' w')->if Region.wanted o (yielded ops a.tmps)=true then Oper.wp P o a w K Q else K (a.put o.dst undef) w)
  (hm:gJ P ops Q S n m a w):gJ P ops Q S n (.alt i t m) a w:=
 ⟨wpOp_step ho fun K' hK=>h K' fun a' w' h1 h2=>hK a' w' ⟨h1,h2⟩,hm⟩
theorem aB {i:Nat} {t:Tr} {a:Act} {w:World} {o:Oper} (ho:ops[i]? =some o) (h:∀K:Act->World->Prop,(∀a' w',(i=n\/S w')->gJ P ops Q S n t a' w'->K a' w')->if Region.wanted o (yielded ops a.tmps)=true then Oper.wp P o a w K Q else K (a.put o.dst undef) w):gJ P ops Q S n (.alt i t .nomore) a w:=
 bP ho h trivial
theorem aD {a:Act} {w:World} (h:Q .normal a w):gJ P ops Q S n .done a w:=h
theorem tA_ {i:Nat} {t:Tr} {a:Act} {w:World} {o:Oper} {v:Value} {X:Prop} (h:X) (ho:ops[i]? =some o:=by rfl) (hw:Region.wanted o (yielded ops a.tmps)=true:=by rfl) (hv:∀w',S w'->(execOp a.eval o).run P w'=.ok (.value v) w':=by intro w' hw';(try dsimp only at hw');go_simp;(try with_reducible rfl))
  (e:gJ P ops Q S n t (a.put o.dst v) w=X:=by simp only[Act.put,List.getElem_toArray,List.getElem_cons_succ,pg3,pg4,pg5,pg6];rfl):gJ P ops Q S n (.take i t) a w:=⟨o,v,ho,.inl ⟨hw,hv⟩,e.mpr h⟩
theorem tC_ {i:Nat} {t:Tr} {a:Act} {w:World} {o:Oper} {v:Value} {X:Prop} (h:X) (ho:ops[i]? =some o:=by rfl) (hw:Region.wanted o (yielded ops a.tmps)=true:=by rfl) (hv:∀w',S w'->(execOp a.eval o).run P w'=.ok (.value v) w':=by intro w' hw';(try simp only[aH,tJ,b4L,b5L,b6L,b7L,jJ,N.uB,and_true]at hw');go_simp;(try with_reducible rfl))
  (e:gJ P ops Q S n t (a.put o.dst v) w=X:=by simp only[Act.put,List.getElem_toArray,List.getElem_cons_succ,pg3,pg4,pg5,pg6];rfl):gJ P ops Q S n (.take i t) a w:=⟨o,v,ho,.inl ⟨hw,hv⟩,e.mpr h⟩
theorem tB_ {i:Nat} {t:Tr} {a:Act} {w:World} {o:Oper} {X:Prop} (h:X) (ho:ops[i]? =some o:=by rfl) (hw:Region.wanted o (yielded ops a.tmps)=false:=by rfl)
  (e:gJ P ops Q S n t (a.put o.dst undef) w=X:=by simp only[Act.put,List.getElem_toArray,List.getElem_cons_succ,pg3,pg4,pg5,pg6];rfl):gJ P ops Q S n (.take i t) a w:=⟨o,undef,ho,.inr ⟨hw,rfl⟩,e.mpr h⟩
theorem tP_ {p X:Prop} (h:X) (e:p=X:=by simp only[Act.put,List.getElem_toArray,List.getElem_cons_succ,pg3,pg4,pg5,pg6];rfl):p:=e.mpr h
end
end Go.Proofs.YtcblbdpdbggkbaaGreat
namespace Go.Proofs.YtcblbdpdbggkbaaGreat
open _root_.Go.Proofs.Tryz
open Go.RowKit Go.Sort
def rdC (w0:World) (B a k:Nat):Ch:=⟨fun w f=>(∃(v:Value) (n:Nat) (p:Int),w.heap[a]? =some (.cells #[v,iv p] 186 (0,0))/\Bts w0 B v n/\n<=2000/\0<=p/\p<=k)/\f=[a],
  fun h x hx=>by obtain⟨⟨v,n,p,hb,_⟩,rfl⟩:=h;rw[List.mem_singleton.1 hx];exact (Array.getElem?_eq_some_iff.1 hb).1,
  fun h hk _=>by obtain⟨⟨v,n,p,hb,r⟩,rfl⟩:=h;exact⟨⟨v,n,p,(hk a (List.mem_singleton_self a)).trans hb,r⟩,rfl⟩⟩
section
variable {B a k:Nat} {w0 w:World} {l:List Ch}
theorem Bts.later {w w':World} {B a n:Nat} {v:Value} (h:Bts w B v n) (hb:Below B w w') (ha:B<=a):Bts w' a v n:=by
 rcases h with h|⟨b,o,cap,rfl,h1,h2,h3⟩
 ·exact .inl h
 ·refine .inr ⟨b,o,cap,rfl,h1,o_,fun i hi=>?_⟩
  obtain⟨z,hz,r⟩:=h3 i hi;exact⟨z,(hb.cell (p:=⟨b,o+i,none⟩) h2).trans hz,r⟩
theorem M.reader (h:M B w0 w (rdC w0 B a k::l)):∃p:Int,0<=p/\p<=k/\Rd w a p:=by
 obtain⟨f,⟨⟨v,n,p,hb,ht,hn,p0,p1⟩,rfl⟩,_,lo⟩:=h.first;exact⟨p,p0,p1,v,n,hb,ht.later h.below (lo a (List.mem_singleton_self a)),hn⟩
theorem M.openRd {v:Value} {n:Nat} (h:M B w0 w l) (hv:∃x cap,v=.slice x n cap) (ht:Bts w0 B v n):
  Calls prog 63 #[v] w fun e w'=>e=.returned (.pointer (some ⟨w.heap.size,0,none⟩))/\M B w0 w' (rdC w0 B w.heap.size 0::l):=by
 have key:∀u m,Bts w0 B u m->m<=2000->M B w0 (w.alloc (.cells #[u,iv 0] 186)) (rdC w0 B w.heap.size 0::l):=fun u m hu hm=>
  (h.alloc #[u,iv 0] 186).to fun f hf nd=>⟨f,⟨⟨u,m,0,hf.1,hu,hm,Int.le_refl _,Int.le_refl _⟩,hf.2⟩,nd,fun _ q=>q⟩
 by_cases hn:n<=2000
 ·obtain⟨x,cap,rfl⟩:=hv
  refine (aFZ w x n cap _ rfl hn).mono fun e w' ⟨he,hw⟩=>⟨he,?_⟩
  subst hw;exact key _ n ht hn
 ·rcases ht with ⟨h0,_⟩|⟨b,o,cap,rfl,h1,h2,h3⟩
  ·omega
  refine (aFF w b o n cap o_ h1).mono fun e w' ⟨he,hw⟩=>⟨he,?_⟩
  subst hw;exact key _ 2000 (.inr ⟨b,o,cap,rfl,o_,h2,fun i hi=>h3 i o_⟩) lr_
theorem M.pick (h:M B w0 w (rdC w0 B a k::l)) (hk:k<=99999) (n:Int) (hn:1<=n) (hn':n<=10000):
  Calls prog 65 #[.pointer (some ⟨a,0,none⟩),iv n] w fun e w'=>∃v:Int,e=.returned (iv v)/\0<=v/\v<n/\M B w0 w' (rdC w0 B a (k+1)::l):=by
 obtain⟨p,p0,p1,hR⟩:=h.reader;refine (aJF w a p n hR p0 o_ hn hn').mono fun e w' ⟨v,he,v0,v1,hR',hg,hc⟩=>⟨v,he,v0,v1,?_⟩
 refine h.turn fun f hf _ lo=>?_
 obtain⟨⟨bs,m,q,hb,ht,hm,_⟩,rfl⟩:=hf;obtain⟨bs',m',hb',_,_⟩:=hR';have e0:bs'=bs:=by
  have c1:w.cell? ⟨a,0,none⟩=some bs:=by simp[World.cell?,hb]
  have c2:w'.cell? ⟨a,0,none⟩=some bs':=by simp[World.cell?,hb']
  rw[c1,c2]at hc;exact Option.some.inj hc
 subst e0;exact⟨dO.of_grown hg (List.mem_singleton_self a),[a],⟨⟨bs',m,p+1,hb',ht,hm,o_,o_⟩,rfl⟩,pR _,fun x hx=>.inl hx⟩
end
theorem pg3 {α:Type _} (a:α) (r:List α) (h:0<(a::r).length):(a::r)[0]=a:=rfl
theorem pg4 {α:Type _} (l:List α) (i:Nat) (a:α):l.toArray.setIfInBounds i a=(l.set i a).toArray:=List.setIfInBounds_toArray l i a
theorem pg5 {α:Type _} (a b:α) (r:List α):(a::r).set 0 b=b::r:=rfl
theorem pg6 {α:Type _} (a b:α) (r:List α) (i:Nat):(a::r).set (i+1) b=a::r.set i b:=rfl
def Tr.tk:Nat->Nat->Tr->Tr
 |_,0,t=>t
 |a,k+1,t=>.take a (Tr.tk (a+1) k t)
section
variable {α:Type} {A:Rep α} {e:TypeId} {size:Nat} {w:World} {B:Nat} {v:Value} {xs:List α} {c:Nat->List Value} {f:Nat->List Nat} {fp:List Nat}
theorem aIj {n k:Nat} (hl:∀i,i<n->(c i).length=size) (hk:k<=n):((List.range n).map c).flatten.take (k * size)=((List.range k).map c).flatten:=by
 obtain⟨m,rfl⟩:∃m,n=k+m:=⟨n - k,o_⟩
 rw[List.range_add,List.map_append,List.flatten_append,List.take_left'];exact kK fun i hi=>hl i o_
theorem aHY {n k:Nat} (hl:∀i,i<n->(c i).length=size) (hk:k<=n):((List.range n).map c).flatten.drop (k * size)=((List.range (n - k)).map fun j=>c (k+j)).flatten:=by
 obtain⟨m,rfl⟩:∃m,n=k+m:=⟨n - k,o_⟩
 rw[List.range_add,List.map_append,List.flatten_append,List.drop_left',Nat.add_sub_cancel_left,List.map_map]
 ·rfl
 ·exact kK fun i hi=>hl i o_
def skip (k j:Nat):Nat:=if j<k then j else j+1
theorem aH2 {n k:Nat} (hk:k<n):((List.range k).map c).flatten++((List.range (n - (k+1))).map fun j=>c (k+1+j)).flatten=((List.range (n - 1)).map fun j=>c (skip k j)).flatten:=by
 obtain⟨m,rfl⟩:∃m,n=k+1+m:=⟨n - (k+1),by omega⟩
 rw[show k+1+m - 1=k+m by omega,show k+1+m - (k+1)=m by omega,List.range_add,List.map_append,List.flatten_append];have a:(List.range k).map (fun j=>c (skip k j))=(List.range k).map c:=List.map_congr_left fun j hj=>by
  unfold skip;rw[if_pos (List.mem_range.1 hj)]
 have b:((List.range m).map (fun x=>k+x)).map (fun j=>c (skip k j))=(List.range m).map fun j=>c (k+1+j):=by
  rw[List.map_map];refine List.map_congr_left fun j _=>?_
  show c (skip k (k+j))=_
  unfold skip;rw[if_neg (by omega),show k+j+1=k+1+j by omega]
 rw[a,b]
theorem aJv {k j:Nat}:(xs.eraseIdx k)[j]? =xs[skip k j]? :=by
 unfold skip;rw[List.getElem?_eraseIdx]
 split<;>rfl
theorem pI.cut (FA:A.Frame) (h:pI (mY e size A) B w [v] xs fp) {k:Nat} (hk:k<xs.length):∃(cells:List Value) (g cap:Nat),v=.slice (some ⟨g,0,none⟩) xs.length cap/\cells.length=xs.length * size/\(∀j u,cells[j]? =some u->w.cell? ⟨g,j,none⟩=some u)/\xs.length<=cap/\cap<=maxLen/\g<w.heap.size/\
  ∀w' v',w'.ownsRow B e size v' (xs.length - 1) (cells.take (k * size)++cells.drop ((k+1) * size))->(∀b ∈ fp,w'.heap[b]? =w.heap[b]?)->w.heap.size<=w'.heap.size->(∀b,v'.ownBlock=some b->b ∉ fp)->
   ∃fp',pI (mY e size A) B w' [v'] (xs.eraseIdx k) fp'/\∀b ∈ fp',b ∈ fp\/v'.ownBlock=some b:=by
 obtain⟨hR,nd,low⟩:=h;obtain⟨v0,c,f,ev,E,rfl⟩:=gX hR;cases ev;have nd':=fH.1 nd;rcases E.own.2 with ⟨rfl,h0⟩|⟨g,cap,cur,rfl,hb,hg,hn,hc,hs,ht⟩
 ·omega
 ·have fl:=kK E.len
  refine⟨_,g,cap,rfl,fl,fun j u hu=>?_,hn,hc,(Array.getElem?_eq_some_iff.1 hg).1,fun w' v' ho keep hsz hv=>?_⟩
  ·rw[World.ownsRow.cellAt E.own j (by rw[<-fl];exact (List.getElem?_eq_some_iff.1 hu).1),hu]
  ·have ln:(xs.eraseIdx k).length=xs.length - 1:=by rw[List.length_eraseIdx,if_pos hk]
   rw[aIj E.len o_,aHY E.len o_,aH2 hk]at ho;have sk:∀j,j<xs.length - 1->skip k j<xs.length:=fun j hj=>by unfold skip;split<;>omega
   have S:Els A e size w' B v' (xs.eraseIdx k) (fun j=>c (skip k j)) (fun j=>f (skip k j)):=by
    refine⟨by rw[ln];exact ho,fun j hj=>E.len _ (sk j (by rw[ln]at hj;exact hj)),fun j a ha=>?_⟩;rw[aJv]at ha;have lt:=(List.getElem?_eq_some_iff.1 ha).1;exact FA.keep (E.one _ a ha) (fun b hb=>keep b (iK lt hb)) hsz
   have R:=S.rep;rw[ln]at R;refine⟨_,⟨R,fH.2 ⟨⟨fun j hj=>nd'.1.1 _ (sk j hj),fun i j hi hj ne=>nd'.1.2 _ _ (sk i hi) (sk j hj) (by unfold skip;split<;>split<;>omega)⟩,fun b q j hj hm=>hv b q (iK (sk j hj) hm)⟩,fun b hb=>?_⟩,fun b hb=>?_⟩
   ·rcases jW hb with q|⟨j,hj,q⟩
    ·exact (World.ownsRow.lt ho b q).1
    ·exact low b (iK (sk j hj) q)
   ·rcases jW hb with q|⟨j,hj,q⟩
    ·exact .inr q
    ·exact .inl (iK (sk j hj) q)
end
end Go.Proofs.YtcblbdpdbggkbaaGreat
