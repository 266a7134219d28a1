/-
  What the law FnExactNetList needs of the texts before it, part 1.
-/
import Derived.BigQuiet
import Derived.Deep.AppendLies
import Derived.Deep.DrawnRows
import Derived.Deep.QuietTactic
import Derived.Deep.RegionHeld3
import Derived.Deep.RegionLaw
import Derived.Deep.RegionWith
import Derived.IntWalk
import Derived.Lib.Hide
import Derived.Lib.QuietBelow
import Derived.LoopIn
import Derived.LoopNIn
import Derived.Maps.AppendAt
import Derived.OneCell
import Derived.OwnWalkIn
import Derived.RangeFuncBound
import Derived.RangeFuncBox
import Derived.RangeFuncCalls
import Derived.RangeFuncLeaves
import Derived.RangeFuncNested
import Derived.Shelf.Abstract
import Derived.Shelf.RegionOpen
import Derived.StillTail
import Derived.TacticsInMore
import Derived.Test.YtcblbdpdbggkbaaGreatRows
import Derived.WalkKit
import Derived.WalkLawsBesides
import Derived.WalkSpells
set_option maxRecDepth 100000
set_option maxHeartbeats 16000000
set_option linter.unusedVariables false
set_option linter.unusedSectionVars false
set_option linter.unusedSimpArgs false
namespace Go.Proofs.YtcblbdpdbggkbaaGreat
theorem hd_ {P : Prop} (h : P) : Go.RowKit.Hid P := h
theorem lr_ {n : Nat} : n ≤ n := Nat.le_refl n
end Go.Proofs.YtcblbdpdbggkbaaGreat
set_option linter.unusedVariables false
namespace Go.Proofs.YtcblbdpdbggkbaaGreat
open Go.RowKit
theorem ret_int {k:IntKind} {a b:Int} (h:a=b):Ending.returned (.int k a)=.returned (.int k b):=by rw[h]
theorem ret_bool {a b:Bool} (h:a=b):Ending.returned (.bool a)=.returned (.bool b):=by rw[h]
theorem isThing_yes (a:Int) (w:World) (h0:0<=a) (h1:a<64):
  Calls Tryz.prog 106 #[.int .i64 a] w fun e w'=>e=.returned (.bool true)/\w=w':=by
 go_enter Tryz.func106,Tryz.ntmps106;go_wp2;go_ret;exact⟨rfl,rfl⟩
theorem isThing_no (a:Int) (w:World) (h:a<0\/64<=a):
  Calls Tryz.prog 106 #[.int .i64 a] w fun e w'=>e=.returned (.bool false)/\w=w':=by
 rcases h with h|h
 ·have h':¬ 0<=a:=by omega
  go_enter Tryz.func106,Tryz.ntmps106;go_wp2;go_ret;exact⟨rfl,rfl⟩
 ·have h':¬a<64:=by omega
  have h'':0<=a:=by omega
  go_enter Tryz.func106,Tryz.ntmps106;go_wp2;go_ret;exact⟨rfl,rfl⟩
theorem l6In_yes (n lo hi:Int) (w:World) (h0:lo<=n) (h1:n<=hi):
  Calls Tryz.prog 66 #[.int .i64 n,.int .i64 lo,.int .i64 hi] w fun e w'=>e=.returned (.bool true)/\w=w':=by
 go_enter Tryz.func66,Tryz.ntmps66;go_wp2;go_ret;exact⟨rfl,rfl⟩
theorem l6In_no (n lo hi:Int) (w:World) (h:n<lo\/hi<n):
  Calls Tryz.prog 66 #[.int .i64 n,.int .i64 lo,.int .i64 hi] w fun e w'=>e=.returned (.bool false)/\w=w':=by
 by_cases h':lo<=n
 ·have h1:¬n<=hi:=by omega
  go_enter Tryz.func66,Tryz.ntmps66;go_wp2;go_ret;exact⟨rfl,rfl⟩
 ·go_enter Tryz.func66,Tryz.ntmps66
  go_wp2;go_ret;exact⟨rfl,rfl⟩
def place (i t:Int):Int:=if i=0 then (3 * t+t / 8) % 8 else if i=1 then (5 * t+t / 16+1) % 8 else (t+t / 4+2) % 8
theorem place_bd (i t:Int):0<=place i t/\place i t<8:=by unfold place;split<;>(try split)<;>omega
theorem roughPlace_yes (i t:Int) (w:World) (h0:0<=i) (h1:i<3) (h2:0<=t) (h3:t<64):
  Calls Tryz.prog 179 #[.int .i64 i,.int .i64 t] w fun e w'=>e=.returned (.int .i64 (place i t))/\w=w':=by
 rcases (by omega:i=0\/i=1\/i=2)with rfl|rfl|rfl
 all_goals
  clear h0 h1;go_enter Tryz.func179,Tryz.ntmps179
  go_wp2_with (go_at_call 106;refine (isThing_yes _ _ h2 h3).mono ?_;rintro e w' ⟨rfl,rfl⟩)
  go_ret;exact⟨ret_int rfl,rfl⟩
theorem l1Place_yes (i t:Int) (w:World) (h0:0<=i) (h1:i<3) (h2:0<=t) (h3:t<64):
  Calls Tryz.prog 320 #[.int .i64 i,.int .i64 t] w fun e w'=>e=.returned (.int .i64 (place i t))/\Below w.heap.size w w':=by
 rcases (by omega:i=0\/i=1\/i=2)with rfl|rfl|rfl
 all_goals
  clear h0 h1;go_enter Tryz.func320,Tryz.ntmps320;go_wp2;go_ret;exact⟨ret_int (by first|(simp[place];done)|(simp[place];omega)),((Below.refl _ _).alloc lr_ _).alloc (by simp) _⟩
def Ints (w:World) (v:Value) (zs:List Int):Prop:=
 (v=.slice none 0 0/\zs=[])\/
 ∃b o cap,v=.slice (some ⟨b,o,none⟩) zs.length cap/\zs.length<=cap/\cap<=maxLen/\b<w.heap.size/\∀i,i<zs.length->w.cell? ⟨b,o+i,none⟩=some (.int .i64 (zs.getD i 0))
def Rws (w:World) (v:Value) (rs:List (List Int)):Prop:=
 (v=.slice none 0 0/\rs=[])\/
 ∃b o cap,v=.slice (some ⟨b,o,none⟩) rs.length cap/\rs.length<=cap/\cap<=maxLen/\b<w.heap.size/\∀i,i<rs.length->∃x,w.cell? ⟨b,o+i,none⟩=some x/\Ints w x (rs.getD i [])
theorem Ints.below {w w':World} {v:Value} {zs:List Int} (h:Ints w v zs) {B:Nat} (hb:Below B w w') (hB:w.heap.size<=B):Ints w' v zs:=by
 rcases h with h|⟨b,o,cap,rfl,h1,h2,h3,h4⟩
 ·exact .inl h
 ·exact .inr ⟨b,o,cap,rfl,h1,h2,Nat.lt_of_lt_of_le h3 hb.size,fun i hi=>by rw[hb.cell (by show b<B;omega)];exact h4 i hi⟩
theorem Rws.below {w w':World} {v:Value} {rs:List (List Int)} (h:Rws w v rs) {B:Nat} (hb:Below B w w') (hB:w.heap.size<=B):Rws w' v rs:=by
 rcases h with h|⟨b,o,cap,rfl,h1,h2,h3,h4⟩
 ·exact .inl h
 ·refine .inr ⟨b,o,cap,rfl,h1,h2,Nat.lt_of_lt_of_le h3 hb.size,fun i hi=>?_⟩
  obtain⟨x,hx,hi'⟩:=h4 i hi;exact⟨x,by rw[hb.cell (by show b<B;omega)];exact hx,hi'.below hb hB⟩
theorem getD_mem {α:Type} (l:List α) (k:Nat) (d:α) (h:k<l.length):l.getD k d ∈ l:=by
 rw[List.getD_eq_getElem?_getD,List.getElem?_eq_getElem h];exact List.getElem_mem h
theorem sum_take_succ (zs:List Int) (k:Nat) (h:k<zs.length):(zs.take (k+1)).sum=(zs.take k).sum+zs.getD k 0:=by
 rw[List.take_succ_eq_append_getElem h,List.sum_append];simp[h]
theorem quiet_same' {P:Program} {f:FuncId} {args:Array Value} {w:World} {n:Nat} {v:Value}
  (h:Calls P f args (w.drewN n) fun e w'=>e=.returned v/\w.drewN n=w'):Calls P f args (w.drewN n) fun e w''=>e=.returned v/\∃m,w''=w.drewN m:=
 h.mono fun _ _ ⟨he,hm⟩=>⟨he,n,hm.symm⟩
theorem sum_bd (n:Int) (zs:List Int) (h:∀z ∈ zs,0<=z/\z<=n):0<=zs.sum/\zs.sum<=n * zs.length:=by
 induction zs with
 |nil=>simp
 |cons a l ih=>
  have h1:=ih (fun z hz=>h z (by simp[hz]));have h2:=h a (by simp);simp only[List.sum_cons,List.length_cons]
  constructor
  ·omega
  ·have:n * ((l.length+1:Nat):Int)=n * (l.length:Int)+n:=by rw[Int.natCast_add,Int.mul_add];simp
   omega
theorem l1Sum_at (b o cap n:Nat) (zs:List Int) (w:World) (hn:zs.length=n) (hl:n<=8) (hz:∀k,k<n->0<=zs.getD k 0/\zs.getD k 0<=2000)
  (hc:∀i,i<n->w.cell? ⟨b,o+i,none⟩=some (.int .i64 (zs.getD i 0))):
  Calls Tryz.prog 224 #[.slice (some ⟨b,o,none⟩) n cap] w fun e w'=>e=.returned (.int .i64 zs.sum)/\w=w':=by
 subst hn;have hz:∀z ∈ zs,0<=z/\z<=2000:=fun z h=>by
  obtain⟨k,hk,rfl⟩:=List.getElem_of_mem h;have:=hz k hk;simpa[hk]using this
 have hp:∀k,0<=(zs.take k).sum/\(zs.take k).sum<=16000:=fun k=>by
  have h:=sum_bd 2000 (zs.take k) (fun z hz'=>hz z (List.mem_of_mem_take hz'));have:(zs.take k).length<=8:=by simp;omega
  omega
 have hg:∀k,k<zs.length->0<=zs.getD k 0/\zs.getD k 0<=2000:=fun k hk=>by
  have:=hz (zs.getD k 0) (by simp[hk]);exact this
 have Hhp:=hd_ hp;have Hhg:=hd_ hg;have Hc:=hd_ hc;clear hp hg hc hz;go_enter Tryz.func224,Tryz.ntmps224;go_wp2
 go_loop [3,4] (fun n i=>∃k:Nat,k<=zs.length/\i=.int .i64 k/\n=.int .i64 (zs.take k).sum) (fun _ i=>zs.length - (intOf i).toNat)
 case atStart=>exact⟨0,Nat.zero_le _,rfl,rfl⟩
 case round=>
  obtain⟨k,hk,rfl,rfl⟩:=hrel;have h1:=(Hhp.out k)
  by_cases hlt:k<zs.length
  ·have h2:=Hhg.out k hlt
   have h3:=Hc.out k hlt;have hs:=hd_ (sum_take_succ zs k hlt);generalize zs.getD k 0=x at h2 h3 hs;go_wp2
   go_round
   case rel=>exact⟨k+1,by omega,by go_num,by rw[hs.out]⟩
   case measure=>simp[intOf];omega
  ·go_wp2
   go_ret;exact⟨ret_int (by rw[List.take_of_length_le (by omega)]),rfl⟩
theorem grownBy_trans {w w1 w2:World} {row:Option Nat} (h1:w.grownBy w1 row) (h2:w1.grownBy w2 row):w.grownBy w2 row:=
 ⟨h2.os.trans h1.os,h2.tape.trans h1.tape,h2.output.trans h1.output,Nat.le_trans h1.size h2.size,fun k hk hr=>(h2.block k (Nat.lt_of_lt_of_le hk h1.size) hr).trans (h1.block k hk hr)⟩
theorem grownBy_refl (w:World) (row:Option Nat):w.grownBy w row:=⟨rfl,rfl,rfl,Nat.le_refl _,fun _ _ _=>rfl⟩
theorem grownBy_below {w w':World} {row:Option Nat} (h:Below w.heap.size w w'):w.grownBy w' row:=⟨h.os,h.tape,h.output,h.size,fun k hk _=>h.block k hk⟩
theorem grownBy_drewN {w w':World} {row:Option Nat} (h:w.grownBy w' row) (n:Nat):w.grownBy (w'.drewN n) row:=⟨h.os,h.tape,h.output,h.size,h.block⟩
theorem below_grown {w w':World} {B a:Nat} (h:w.grownBy w' (some a)) (hB:B<=a) (hw:B<=w.heap.size):Below B w w':=
 ⟨h.os,h.tape,h.output,h.size,fun k hk=>h.block k (by omega) (by simp;omega)⟩
theorem grownBy_setCell (w:World) (a:Addr) (u:Value):w.grownBy (w.setCell a u) (some a.block):=
 ⟨rfl,rfl,rfl,by simp,fun k _ hk=>heap_setCell_other w a k u (fun e=>hk (by simp[e]))⟩
structure KeptB (S:Nat->Prop) (w w':World):Prop where
 os:w'.os=w.os
 tape:w'.tape=w.tape
 output:w'.output=w.output
 size:w.heap.size<=w'.heap.size
 block:∀k,k<w.heap.size->¬S k->w'.heap[k]? =w.heap[k]?
theorem KeptB.refl (S:Nat->Prop) (w:World):KeptB S w w:=⟨rfl,rfl,rfl,Nat.le_refl _,fun _ _ _=>rfl⟩
theorem KeptB.trans {S:Nat->Prop} {a b c:World} (h:KeptB S a b) (k:KeptB S b c):KeptB S a c:=
 ⟨k.os.trans h.os,k.tape.trans h.tape,k.output.trans h.output,Nat.le_trans h.size k.size,fun i hi hs=>(k.block i (Nat.lt_of_lt_of_le hi h.size) hs).trans (h.block i hi hs)⟩
theorem KeptB.of_grown {w w':World} {g:Nat} {S:Nat->Prop} (h:w.grownBy w' (some g)) (hS:S g):KeptB S w w':=
 ⟨h.os,h.tape,h.output,h.size,fun k hk hs=>h.block k hk (fun e=>by cases e;exact hs hS)⟩
theorem KeptB.below {S:Nat->Prop} {w w':World} {B:Nat} (h:KeptB S w w') (hB:B<=w.heap.size) (hS:∀k,S k->B<=k):Below B w w':=
 ⟨h.os,h.tape,h.output,h.size,fun k hk=>h.block k (by omega) (fun hs=>by have:=hS k hs;omega)⟩
def rowV (rs:List (List Int)) (G C:Nat->Nat) (i:Nat):Value:=.slice (some ⟨G i,0,none⟩) (rs.getD i []).length (C i)
def ints (zs:List Int):List Value:=zs.map (Value.int .i64)
structure OwnR (w:World) (B:Nat) (u:Value) (rs:List (List Int)) (G C:Nat->Nat):Prop where
 hdr:w.ownsRow B 23 1 u rs.length ((List.range rs.length).map (rowV rs G C))
 row:∀i,i<rs.length->w.ownsRow B 3 1 (rowV rs G C i) (rs.getD i []).length (ints (rs.getD i []))
 off:∀i,i<rs.length->u.ownBlock≠some (G i)
 apart:∀i j,i<rs.length->j<rs.length->i≠j->G i≠G j
theorem ints_len (zs:List Int):(ints zs).length=zs.length:=by simp[ints]
theorem ints_get (zs:List Int) (i:Nat) (h:i<zs.length):(ints zs)[i]? =some (.int .i64 (zs.getD i 0)):=by simp[ints,h]
theorem ownI_ints {w:World} {B:Nat} {v:Value} {zs:List Int} (h:w.ownsRow B 3 1 v zs.length (ints zs)):Ints w v zs:=by
 rcases h.2 with ⟨rfl,h0⟩|⟨g,cap,cur,rfl,hb,hg,hn,hc,hs,ht⟩
 ·exact .inl ⟨rfl,List.eq_nil_of_length_eq_zero h0⟩
 ·refine .inr ⟨g,0,cap,rfl,hn,hc,(Array.getElem?_eq_some_iff.1 hg).1,fun i hi=>?_⟩
  have:=World.ownsRow.cellAt h i (by omega);rw[Nat.zero_add,this,ints_get _ _ hi]
theorem OwnR.rws {w:World} {B:Nat} {u:Value} {rs:List (List Int)} {G C:Nat->Nat} (h:OwnR w B u rs G C):Rws w u rs:=by
 have hh:=h.hdr;rcases hh.2 with ⟨rfl,h0⟩|⟨g,cap,cur,rfl,hb,hg,hn,hc,hs,ht⟩
 ·exact .inl ⟨rfl,List.eq_nil_of_length_eq_zero h0⟩
 ·refine .inr ⟨g,0,cap,rfl,hn,hc,(Array.getElem?_eq_some_iff.1 hg).1,fun i hi=>⟨_,?_,ownI_ints (h.row i hi)⟩⟩
  have:=World.ownsRow.cellAt hh i (by omega);rw[Nat.zero_add,this];simp[hi]
theorem OwnR.grown {w w':World} {B:Nat} {u:Value} {rs:List (List Int)} {G C:Nat->Nat} {row:Option Nat} (h:OwnR w B u rs G C) (hg:w.grownBy w' row) (hr:∀k,row=some k->k<B):OwnR w' B u rs G C:=by
 have ne:∀{v:Value} {n:Nat} {e:TypeId} {xs:List Value},w.ownsRow B e 1 v n xs->v.ownBlock=none\/v.ownBlock≠row:=fun {v n e xs} ho=>by
  cases hv:v.ownBlock with
  |none=>exact .inl rfl
  |some k=>exact .inr (fun e=>by have:=(ho.lt k hv).1;have:=hr k e.symm;omega)
 exact⟨h.hdr.kept hg (ne h.hdr),fun i hi=>(h.row i hi).kept hg (ne (h.row i hi)),h.off,h.apart⟩
theorem OwnR.below {w w':World} {B B':Nat} {u:Value} {rs:List (List Int)} {G C:Nat->Nat} (h:OwnR w B u rs G C) (hg:Below B' w w') (hB:w.heap.size<=B'):OwnR w' B u rs G C:=
 h.grown (row:=none) ⟨hg.os,hg.tape,hg.output,hg.size,fun k hk _=>hg.block k (by omega)⟩ (fun _ e=>by cases e)
theorem ownsRow_base {w:World} {B B':Nat} {e:TypeId} {size:Nat} {v:Value} {n:Nat} {xs:List Value} (h:w.ownsRow B e size v n xs) (hB:B'<=B):w.ownsRow B' e size v n xs:=by
 obtain⟨h1,h2⟩:=h;refine⟨h1,?_⟩;rcases h2 with h2|⟨g,cap,cur,hv,hg,r⟩
 ·exact .inl h2
 ·exact .inr ⟨g,cap,cur,hv,Nat.le_trans hB hg,r⟩
theorem OwnR.base {w:World} {B B':Nat} {u:Value} {rs:List (List Int)} {G C:Nat->Nat} (h:OwnR w B u rs G C) (hB:B'<=B):OwnR w B' u rs G C:=
 ⟨ownsRow_base h.hdr hB,fun i hi=>ownsRow_base (h.row i hi) hB,h.off,h.apart⟩
theorem OwnR.snoc {w w':World} {B:Nat} {u:Value} {rs:List (List Int)} {G C:Nat->Nat} (h:OwnR w B u rs G C) {zs:List Int} {g c gg cap:Nat}
  (hz:w.ownsRow B 3 1 (.slice (some ⟨g,0,none⟩) zs.length c) zs.length (ints zs)) (hu:u.ownBlock≠some g) (hG:∀i,i<rs.length->G i≠g)
  (hown:w'.ownsRow B 23 1 (.slice (some ⟨gg,0,none⟩) (rs.length+1) cap) (rs.length+1) ((List.range rs.length).map (rowV rs G C)++[.slice (some ⟨g,0,none⟩) zs.length c]))
  (hg:w.grownBy w' u.ownBlock) (hat:u.ownBlock=some gg\/gg=w.heap.size):
  OwnR w' B (.slice (some ⟨gg,0,none⟩) (rs.length+1) cap) (rs++[zs]) (fun i=>if i<rs.length then G i else g) (fun i=>if i<rs.length then C i else c):=by
 have e1:∀i,i<rs.length->rowV (rs++[zs]) (fun i=>if i<rs.length then G i else g) (fun i=>if i<rs.length then C i else c) i=rowV rs G C i:=fun i hi=>by
  simp[rowV,hi,List.getElem?_append_left]
 have e2:rowV (rs++[zs]) (fun i=>if i<rs.length then G i else g) (fun i=>if i<rs.length then C i else c) rs.length=.slice (some ⟨g,0,none⟩) zs.length c:=by
  simp[rowV]
 have f1:∀i,i<rs.length->(rs++[zs]).getD i []=rs.getD i []:=fun i hi=>by simp[hi,List.getElem?_append_left]
 have f2:(rs++[zs]).getD rs.length []=zs:=by simp
 have lt1:∀i,i<rs.length->G i<w.heap.size:=fun i hi=>((h.row i hi).lt (G i) rfl).2
 have ltg:g<w.heap.size:=(hz.lt g rfl).2;refine⟨?_,fun i hi=>?_,fun i hi=>?_,fun i j hi hj hij=>?_⟩
 ·simp only[List.length_append,List.length_singleton]
  rw[List.range_succ,List.map_append,List.map_singleton,e2,List.map_congr_left (fun i hi=>e1 i (List.mem_range.1 hi))];exact hown
 ·simp only[List.length_append,List.length_singleton]at hi
  by_cases hi':i<rs.length
  ·rw[e1 i hi',f1 i hi']
   exact (h.row i hi').kept hg (.inr (fun e=>h.off i hi' e.symm))
  ·obtain rfl:i=rs.length:=by omega
   rw[e2,f2];exact hz.kept hg (.inr (fun e=>hu e.symm))
 ·simp only[List.length_append,List.length_singleton]at hi
  intro e;have e':gg=if i<rs.length then G i else g:=by simpa[Value.ownBlock]using e
  by_cases hi':i<rs.length
  ·rw[if_pos hi']at e'
   rcases hat with hat|hat
   ·exact h.off i hi' (by rw[hat,e'])
   ·have:=lt1 i hi';omega
  ·rw[if_neg hi']at e'
   rcases hat with hat|hat
   ·exact hu (by rw[hat,e'])
   ·omega
 ·simp only[List.length_append,List.length_singleton]at hi hj
  show (if i<rs.length then G i else g)≠(if j<rs.length then G j else g)
  by_cases hi':i<rs.length<;>by_cases hj':j<rs.length
  ·rw[if_pos hi',if_pos hj'];exact h.apart i j hi' hj' hij
  ·rw[if_pos hi',if_neg hj'];exact hG i hi'
  ·rw[if_neg hi',if_pos hj'];exact fun e=>hG j hj' e.symm
  ·omega
theorem OwnR.store {w:World} {B:Nat} {u:Value} {rs:List (List Int)} {G C:Nat->Nat} (h:OwnR w B u rs G C) (i k:Nat) (z:Int) (hi:i<rs.length) (hk:k<(rs.getD i []).length):
  OwnR (w.setCell ⟨G i,k,none⟩ (.int .i64 z)) B u (rs.set i ((rs.getD i []).set k z)) G C/\w.grownBy (w.setCell ⟨G i,k,none⟩ (.int .i64 z)) (some (G i)):=by
 have hg:=grownBy_setCell w ⟨G i,k,none⟩ (.int .i64 z);have eL:∀j,((rs.set i ((rs.getD i []).set k z)).getD j []).length=(rs.getD j []).length:=fun j=>by
  simp only[List.getD_eq_getElem?_getD,List.getElem?_set]
  by_cases e:i=j
  ·subst e;simp[hi]
  ·simp[e]
 have eV:∀j,rowV (rs.set i ((rs.getD i []).set k z)) G C j=rowV rs G C j:=fun j=>by unfold rowV;rw[eL]
 refine⟨⟨?_,fun j hj=>?_,fun j hj=>h.off j (by simpa using hj),fun a b ha hb hab=>h.apart a b (by simpa using ha) (by simpa using hb) hab⟩,hg⟩
 ·simp only[List.length_set]
  rw[List.map_congr_left (fun j _=>eV j)];exact h.hdr.kept hg (.inr (h.off i hi))
 ·simp only[List.length_set]at hj
  rw[eV,eL]
  by_cases e:j=i
  ·subst e
   have:=((h.row j hj).stored k (.int .i64 z)).1;have e':ints ((rs.set j ((rs.getD j []).set k z)).getD j [])=(ints (rs.getD j [])).set k (.int .i64 z):=by
    simp[ints,hj,List.map_set]
   rw[e'];exact this
  ·have e':(rs.set i ((rs.getD i []).set k z)).getD j []=rs.getD j []:=by simp[Ne.symm e]
   rw[e'];exact (h.row j hj).kept hg (.inr (by simp[rowV,Value.ownBlock];exact h.apart j i hj hi e))
end Go.Proofs.YtcblbdpdbggkbaaGreat
namespace Go.Proofs.YtcblbdpdbggkbaaGreat
open Go.RowKit Go.Sort
structure Boxed (p:Prop):Prop where
 out:p
theorem boxed_step {P:Program} {ops:Array Oper} {C:World->Prop} {Q:Act->Prop} {a:Act} {o:Oper} {rest:List Oper}
  (h:∀K:Act->Prop,(∀a,Boxed (wpQuiet P ops C Q rest a)->K a)->if Region.wanted o (yielded ops a.tmps)then o.quiet P a C K else K (a.put o.dst undef)):Boxed (wpQuiet P ops C Q (o::rest) a):=
 ⟨wpQuiet_step fun K hK=>h K fun a ha=>hK a ha.out⟩
theorem boxed_nil {P:Program} {ops:Array Oper} {C:World->Prop} {Q:Act->Prop} {a:Act} (h:Q a):Boxed (wpQuiet P ops C Q [] a):=⟨h⟩
theorem boxed_region {P:Program} {id:Nat} {Q:Exit->Act->World->Prop} {a:Act} {w:World} {l:List Oper} (hm:P.follows .mixedOrders=true) (hB:Region.lexB .any l.toArray=true)
  (h:Boxed (wpQuiet P l.toArray (fun w'=>∃p:Regrown,w'=grow (redrawn w p.d) p.os) (fun a'=>∀w',(∃p:Regrown,w'=grow (redrawn w p.d) p.os)->Q .normal a' w') l a)):(Code.region id l.toArray true).wp P Q a w:=
 wp_region_quiet_below hm hB h.out
def hush (o:Oper):Oper:={ o with op:=.move (.const (.bool false)) }
section
variable {P:Program} {md:Region.Mode} {C:World->Prop}
theorem ready_hush {A B:Array Oper} (hs:A.size=B.size) (h:∀j:Nat,(A[j]?).map Oper.after=(B[j]?).map Oper.after) (listed:Array Bool):Region.ready md A listed=Region.ready md B listed:=by
 have e:∀j,j ∈ Region.ready md A listed↔j ∈ Region.ready md B listed:=fun j=>by
  rw[mem_ready,mem_ready];have hj:=h j
  constructor
  ·rintro⟨h1,o,ho,h2⟩
   rw[ho]at hj;cases hB:B[j]? with
   |none=>rw[hB]at hj;cases hj
   |some o'=>
    rw[hB]at hj;have e:o.after=o'.after:=by simpa using hj
    exact⟨h1,o',rfl,fun e' he'=>h2 e' (by rw[e];exact he')⟩
  ·rintro⟨h1,o,ho,h2⟩
   rw[ho]at hj;cases hA:A[j]? with
   |none=>rw[hA]at hj;cases hj
   |some o'=>
    rw[hA]at hj;have e:o'.after=o.after:=by simpa using hj
    exact⟨h1,o',rfl,fun e' he'=>h2 e' (by rw[<-e];exact he')⟩
 unfold Region.ready at e ⊢;rw[hs]at e ⊢;apply List.filter_congr;intro j hj;have:=e j;simp only[List.mem_filter,hj,true_and]at this;exact Bool.eq_iff_iff.2 this
theorem yielded_hush {A B:Array Oper} (h:∀j:Nat,(A[j]?).bind Oper.dst=(B[j]?).bind Oper.dst) (tmps:Array Value):yielded A tmps=yielded B tmps:=by
 funext j
 have h':((A[j]?).bind fun x=>x.dst)=(B[j]?).bind fun x=>x.dst:=h j
 unfold yielded;rw[h']
theorem wpQuiet_ops {A B:Array Oper} (h:∀tmps,yielded A tmps=yielded B tmps) {Q:Act->Prop}:∀(l:List Oper) (a:Act),wpQuiet P A C Q l a->wpQuiet P B C Q l a
 | [],_,hh=>hh
 |o::l,a,hh=>by
  unfold wpQuiet at hh ⊢;rw[<-h]
  split
  ·rename_i hw
   rw[if_pos hw]at hh;exact Oper.quiet_mono (fun a'=>wpQuiet_ops h l a') hh
  ·rename_i hw
   rw[if_neg hw]at hh;exact wpQuiet_ops h l _ hh
theorem wpQuiet_mono {A:Array Oper} {R R':Act->Prop} (ho:∀a,R a->R' a):∀(l:List Oper) (a:Act),wpQuiet P A C R l a->wpQuiet P A C R' l a
 | [],a,hh=>ho a hh
 |p::l,a,hh=>by
  unfold wpQuiet at hh ⊢
  split
  ·rename_i hw
   rw[if_pos hw]at hh;exact Oper.quiet_mono (fun a'=>wpQuiet_mono ho l a') hh
  ·rename_i hw
   rw[if_neg hw]at hh;exact wpQuiet_mono ho l _ hh
theorem wpQuiet_snoc {A:Array Oper} {R R':Act->Prop} {o:Oper} (ho:∀a,R a->wpQuiet P A C R' [o] a):∀(l:List Oper) (a:Act),wpQuiet P A C R l a->wpQuiet P A C R' (l++[o]) a
 | [],a,hh=>ho a hh
 |p::l,a,hh=>by
  rw[List.cons_append];unfold wpQuiet at hh ⊢
  split
  ·rename_i hw
   rw[if_pos hw]at hh;exact Oper.quiet_mono (fun a'=>wpQuiet_snoc ho l a') hh
  ·rename_i hw
   rw[if_neg hw]at hh;exact wpQuiet_snoc ho l _ hh
def OutLast (P:Program) (o:Oper) (Q:Exit->Act->World->Prop) (a:Act) (w:World):Prop:=o.wp P a w (fun a w=>Q .normal a w) Q\/(o.asks P a w/\LetsOut Q)
def backB (A:Array Oper):Bool:=(List.range A.size).all fun i=>match A[i]? with|some o=>o.after.all fun e=>decide (e.on<i)|none=>true
theorem some_ready {A:Array Oper} {listed:Array Bool} (hb:backB A=true) (hsz:listed.size=A.size):∀(i:Nat),i<A.size->listed.getD i true=false->∃j,j ∈ Region.ready md A listed:=by
 intro i
 induction i using Nat.strongRecOn with
 |_ i ih=>
  intro hi hun
  by_cases hr:i ∈ Region.ready md A listed
  ·exact⟨i,hr⟩
  ·have ho:A[i]? =some A[i]:=Array.getElem?_eq_getElem hi
   have h1:=List.all_eq_true.1 hb i (List.mem_range.2 hi);rw[ho]at h1;simp only at h1;have:∃e ∈ A[i].after,listed.getD e.on false≠true:=by
    apply Classical.byContradiction;intro hno;apply hr;rw[mem_ready];refine⟨hun,_,ho,fun e he _=>?_⟩;apply Classical.byContradiction;exact fun hne=>hno ⟨e,he,hne⟩
   obtain⟨e,he,hne⟩:=this;have hlt:e.on<i:=by
    obtain⟨k,hk,rfl⟩:=Array.getElem_of_mem he;have:=Array.all_eq_true.1 h1 k hk;simpa using this
   refine ih e.on hlt (by omega) ?_;exact getD_in (by omega) (by simpa using hne)
theorem wpAny_of_hush {A B:Array Oper} {n:Nat} {o:Oper} {Q':Exit->Act->World->Prop} (hn:n+1=A.size) (hsz:B.size=A.size) (hrd:∀listed,Region.ready md B listed=Region.ready md A listed)
  (hhead:∀j,j<n->B[j]? =A[j]?) (hlast:A[n]? =some o) (hquiet:B[n]? =some (hush o)) (hdst:o.dst=none) (hguard:o.guard=none) (hy:∀tmps,yielded B tmps=yielded A tmps)
  (hs:Region.sinkB md A n=true) (hc:Region.chainB md A n=true) (hback:backB A=true):
  ∀(fuel:Nat) (listed:Array Bool) (a:Act) (w:World),HeadInv md A n listed->(∃j,j ∈ Region.ready md A listed)->C w->
   wpAnyQ P md B C (fun a'=>∀w',C w'->OutLast P o Q' a' w') fuel listed a->wpAny P md A Q' fuel listed a w
 | 0,listed,a,w,_,hj,_,h=>by
  obtain⟨j,hj⟩:=hj;have h0:Region.ready md B listed=[]:=h.1;rw[hrd]at h0;rw[h0]at hj;cases hj
 |fuel+1,listed,a,w,inv,hj,hw,h=>by
  obtain⟨j,hj⟩:=hj;refine⟨fun h0=>(by rw[h0]at hj;cases hj),fun i hi=>?_⟩;have h2:=h.2 i (by rw[hrd];exact hi);have hiA:i<A.size:=by
   obtain⟨_,oi,hoi,_⟩:=mem_ready.1 hi;exact (Array.getElem?_eq_some_iff.1 hoi).1
  by_cases hin:i<n
  ·-- an operation ahead of the last:the same in both
   have inv':=inv.set hi hin;have hB:B[i]? =A[i]? :=hhead i hin;have hq:qOp P A C i (wpAnyQ P md B C (fun a'=>∀w',C w'->OutLast P o Q' a' w') fuel (listed.setIfInBounds i true)) a:=by
    unfold qOp at h2 ⊢;rw[hB]at h2;cases hA:A[i]? with
    |none=>rw[hA]at h2;exact h2
    |some oi=>
     rw[hA]at h2;simp only at h2 ⊢;rw[hy]at h2;exact h2
   refine wpOp_of_qOp hw (fun a' w' hw' h3=>?_) hq
   -- the last is not yet carried out:something may come up
   have hlt:listed.getD n true=false:=inv.tail n lr_ (by omega);have hun:(listed.setIfInBounds i true).getD n true=false:=by rw[getD_set_ne true (by omega)];exact hlt
   have hsome:=some_ready (md:=md) hback inv'.size n (by omega) hun;exact wpAny_of_hush hn hsz hrd hhead hlast hquiet hdst hguard hy hs hc hback fuel _ a' w' inv' hsome hw' h3
  ·obtain rfl:i=n:=by omega
   -- the last:all others are carried out
   have hall:∀k,k<i->listed.getD k true=true:=fun k hk=>by
    cases hl:listed.getD k true with
    |true=>rfl
    |false=>exact absurd hi (tail_waits hs hc (by omega) inv _ k rfl hk hl i lr_)
   have hend:Region.ready md A (listed.setIfInBounds i true)=[]:=by
    cases hr:Region.ready md A (listed.setIfInBounds i true)with
    |nil=>rfl
    |cons x xs=>
     have hx:x ∈ Region.ready md A (listed.setIfInBounds i true):=by rw[hr];simp
     obtain⟨hu,ox,hox,_⟩:=mem_ready.1 hx;have hxA:=(Array.getElem?_eq_some_iff.1 hox).1;have hxs:x<listed.size:=by rw[inv.size];exact hxA
     by_cases e:i=x
     ·subst e
      simp[hxs]at hu
     ·rw[getD_set_ne true e]at hu
      rw[hall x (by omega)]at hu;cases hu
   have hq:wpAnyQ P md B C (fun a'=>∀w',C w'->OutLast P o Q' a' w') fuel (listed.setIfInBounds i true) a:=by
    unfold qOp at h2;rw[hquiet]at h2;simp only at h2;have hp:∀v,a.put (hush o).dst v=a:=fun v=>by show a.put o.dst v=a;rw[hdst];rfl
    split at h2
    ·obtain⟨v,_,h3⟩:=h2
     rw[hp]at h3;exact h3
    ·rw[hp]at h2
     exact h2
   have hR:∀w',C w'->OutLast P o Q' a w':=by
    cases fuel with
    |zero=>exact hq.2
    |succ f=>exact hq.1 (by rw[hrd];exact hend)
   unfold wpOp;rw[hlast];simp only;have hwd:Region.wanted o (yielded A a.tmps)=true:=by simp[Region.wanted,hguard]
   rw[if_pos hwd];rcases hR w hw with h3|h3
   ·refine .inl (Oper.wp_mono (fun a' w' hq'=>?_) h3)
    cases fuel with
    |zero=>exact⟨hend,hq'⟩
    |succ f=>exact⟨fun _=>hq',fun k hk=>by rw[hend]at hk;cases hk⟩
   ·exact .inr h3
theorem wp_region_last {id:Nat} {Q:Exit->Act->World->Prop} {a:Act} {w:World} {l:List Oper} (n:Nat) (o:Oper) (hl:l.drop n=[o]) (hdst:o.dst=none) (hguard:o.guard=none)
  (hm:P.follows .mixedOrders=true) (hB:Region.lexB .any (l.take n++[hush o]).toArray=true) (hs:Region.sinkB .any l.toArray n=true) (hc:Region.chainB .any l.toArray n=true) (hback:backB l.toArray=true)
  (hC:C { w with drawn:=w.drawn+1 }) (h:Boxed (wpQuiet P l.toArray C (fun a'=>∀w',C w'->wpList P l.toArray Q [o] a' w') (l.take n) a)):(Code.region id l.toArray true).wp P Q a w:=by
 replace h:=h.out;have hn:n<l.length:=by
  apply Classical.byContradiction;intro hno;rw[List.drop_of_length_le (by omega)]at hl;cases hl
 have hlen:n+1=l.length:=by
  have:=congrArg List.length hl;simp at this;omega
 have htake:(l.take n).length=n:=by simp;omega
 have hsplit:l=l.take n++[o]:=by rw[<-hl,List.take_append_drop]
 have gA:∀j:Nat,l.toArray[j]? =if j<n then (l.take n)[j]? else if j=n then some o else none:=fun j=>by
  rw[List.getElem?_toArray]
  conv=>lhs;rw[hsplit]
  rw[List.getElem?_append];simp only[htake]
  split
  ·rfl
  ·split
   ·rename_i h1 h2;subst h2;simp
   ·rename_i h1 h2;rw[List.getElem?_eq_none (by simp;omega)]
 have gB:∀j:Nat,(l.take n++[hush o]).toArray[j]? =if j<n then (l.take n)[j]? else if j=n then some (hush o)else none:=fun j=>by
  rw[List.getElem?_toArray,List.getElem?_append];simp only[htake]
  split
  ·rfl
  ·split
   ·rename_i h1 h2;subst h2;simp
   ·rename_i h1 h2;rw[List.getElem?_eq_none (by simp;omega)]
 have hsz:(l.take n++[hush o]).toArray.size=l.toArray.size:=by simp;omega
 have haft:∀j:Nat,((l.take n++[hush o]).toArray[j]?).map Oper.after=(l.toArray[j]?).map Oper.after:=fun j=>by
  rw[gA,gB];split
  ·rfl
  ·split<;>rfl
 have hdd:∀j:Nat,((l.take n++[hush o]).toArray[j]?).bind Oper.dst=(l.toArray[j]?).bind Oper.dst:=fun j=>by
  rw[gA,gB];split
  ·rfl
  ·split<;>rfl
 have hy:=yielded_hush hdd;have hwd:∀t,Region.wanted o t=true:=fun t=>by simp[Region.wanted,hguard]
 have h1:wpQuiet P (l.take n++[hush o]).toArray C (fun a'=>∀w',C w'->OutLast P o Q a' w') (l.take n++[hush o]) a:=by
  refine wpQuiet_snoc (R:=fun a'=>∀w',C w'->OutLast P o Q a' w') (fun a' hR=>?_) _ _ (wpQuiet_ops (fun t=>(hy t).symm) _ _ ?_)
  ·unfold wpQuiet
   have hw':Region.wanted (hush o) (yielded (l.take n++[hush o]).toArray a'.tmps)=true:=by simp[Region.wanted,hush,hguard]
   rw[if_pos hw'];refine⟨.bool false,fun w' _=>?_,?_⟩
   ·unfold Oper.quietAt
    show Oper.quietUpon P C w' (.bool false) ((execOp a'.eval (hush o)).run P w')
    simp[hush,execOp,Oper.quietUpon,Act.eval]
   ·unfold wpQuiet
    have:a'.put (hush o).dst (.bool false)=a':=by show a'.put o.dst _=a';rw[hdst];rfl
    rw[this];exact hR
  ·refine wpQuiet_mono (fun a' h2 w' hw'=>?_) _ _ h
   have h3:=h2 w' hw';unfold wpList at h3;rw[if_pos (hwd _)]at h3;exact h3
 refine wp_region_any hm ?_;have hlex:=hB;simp only[Region.lexB,Bool.and_eq_true]at hlex;have h2:=wpAnyQ_lex (C:=C) (md:=.any) hlex.1 (l.take n++[hush o]) 0 (Array.replicate l.toArray.size false) a (by simp) (by rw[<-hsz];simpa using hlex.2) h1;have h3:(l.take n++[hush o]).length=l.toArray.size:=by simp;omega
 rw[h3]at h2;have inv0:HeadInv .any l.toArray n (Array.replicate l.toArray.size false):=
  ⟨by simp,fun j oj _ hl=>(by rw[getD_replicate_false]at hl;cases hl),fun t _ ht=>getD_in (by simpa using ht) (getD_replicate_false _ _)⟩
 have hrd:=fun listed=>ready_hush (md:=.any) hsz haft listed
 refine wpAny_of_hush (n:=n) (o:=o) (by simpa using hlen) hsz hrd (fun j hj=>by rw[gA,gB,if_pos hj,if_pos hj]) (by rw[gA,if_neg (by omega),if_pos rfl]) (by rw[gB,if_neg (by omega),if_pos rfl]) hdst hguard hy hs hc hback _ _ _ _ inv0 ?_ hC h2;exact some_ready hback (by simp) n (by simpa using hn) (getD_in (by simpa using hn) (getD_replicate_false _ _))
end
end Go.Proofs.YtcblbdpdbggkbaaGreat
set_option linter.unusedVariables false
namespace Go.Proofs.YtcblbdpdbggkbaaGreat
open Go.RowKit
theorem Ints.cases {w:World} {v:Value} {zs:List Int} (h:Ints w v zs):
  (∃x c,v=.slice x zs.length c)/\(zs.length=0\/∃b o c,v=.slice (some ⟨b,o,none⟩) zs.length c/\∀i,i<zs.length->w.cell? ⟨b,o+i,none⟩=some (.int .i64 (zs.getD i 0))):=by
 rcases h with ⟨rfl,rfl⟩|⟨b,o,c,rfl,_,_,_,hc⟩
 ·exact⟨⟨_,_,rfl⟩,.inl rfl⟩
 ·exact⟨⟨_,_,rfl⟩,.inr ⟨b,o,c,rfl,hc⟩⟩
theorem Rws.cases {w:World} {v:Value} {rs:List (List Int)} (h:Rws w v rs):
  (∃x c,v=.slice x rs.length c)/\(rs.length=0\/∃b o c,v=.slice (some ⟨b,o,none⟩) rs.length c/\∀i,i<rs.length->∃x,w.cell? ⟨b,o+i,none⟩=some x/\Ints w x (rs.getD i [])):=by
 rcases h with ⟨rfl,rfl⟩|⟨b,o,c,rfl,_,_,_,hc⟩
 ·exact⟨⟨_,_,rfl⟩,.inl rfl⟩
 ·exact⟨⟨_,_,rfl⟩,.inr ⟨b,o,c,rfl,hc⟩⟩
theorem ne_of_len {α:Type} [DecidableEq α] {a b:List α} (h:a.length≠b.length):decide (a=b)=false:=by
 simp only[decide_eq_false_iff_not];exact fun e=>h (by rw[e])
theorem ne_of_get {α:Type} [DecidableEq α] {a b:List α} {i:Nat} {d:α} (h:a.getD i d≠b.getD i d):decide (a=b)=false:=by
 simp only[decide_eq_false_iff_not];exact fun e=>h (by rw[e])
theorem eq_of_get {α:Type} [DecidableEq α] {a b:List α} {n:Nat} {d:α} (ha:a.length=n) (hb:b.length=n) (h:∀i,i<n->a.getD i d=b.getD i d):decide (a=b)=true:=by
 simp only[decide_eq_true_eq];apply List.ext_getElem (by omega);intro i h1 h2;have:=h i (by omega);simpa[h1,h2]using this
theorem Ints.drewN {w:World} {v:Value} {zs:List Int} (h:Ints w v zs) (n:Nat):Ints (w.drewN n) v zs:=h
theorem eqIntS_short (x y:Option Addr) (n m c d:Nat) (w:World) (h:n≠m\/(n=0/\m=0)):
  Calls Tryz.prog 51 #[.slice x n c,.slice y m d] w fun e w'=>e=.returned (.bool (decide (n=m)))/\w=w':=by
 rcases h with h|⟨rfl,rfl⟩
 ·have hn:((n:Int) != (m:Int))=true:=by simp;omega
  go_enter Tryz.func51,Tryz.ntmps51;go_wp2;go_ret;exact⟨by simpa using h,rfl⟩
 ·go_enter Tryz.func51,Tryz.ntmps51
  go_wp2;refine wp_loop_rounds 1 ?_;rw[rounds_succ];go_wp2;go_ret;exact⟨by simp,rfl⟩
theorem eqIntS_long (b o c b' o' c' n:Nat) (za zb:List Int) (w:World) (hn:n<=maxLen) (ha:za.length=n) (hb:zb.length=n)
  (hca:∀i,i<n->w.cell? ⟨b,o+i,none⟩=some (.int .i64 (za.getD i 0))) (hcb:∀i,i<n->w.cell? ⟨b',o'+i,none⟩=some (.int .i64 (zb.getD i 0))):
  Calls Tryz.prog 51 #[.slice (some ⟨b,o,none⟩) n c,.slice (some ⟨b',o',none⟩) n c'] w fun e w'=>e=.returned (.bool (decide (za=zb)))/\∃m,w'=w.drewN m:=by
 unfold maxLen at hn;have Ha:=hd_ ha;have Hb:=hd_ hb;have Hca:=hd_ hca;have Hcb:=hd_ hcb;clear ha hb hca hcb;go_enter Tryz.func51,Tryz.ntmps51;go_wp2;go_loopw [5] (fun i wr=>∃k:Nat,k<=n/\i=.int .i64 k/\(∀j,j<k->za.getD j 0=zb.getD j 0)/\∃m,wr=w.drewN m) (fun i _=>n - (intOf i).toNat)
 case atStart=>exact⟨0,Nat.zero_le _,rfl,fun _ h=>absurd h (Nat.not_lt_zero _),0,rfl⟩
 case round=>
  obtain⟨k,hk,rfl,heq,m,rfl⟩:=hrel;have HE:=hd_ heq;clear heq
  by_cases hlt:k<n
  ·have h1:=Hca.out k hlt
   have h2:=Hcb.out k hlt;obtain⟨x,hx⟩:∃x,za.getD k 0=x:=⟨_,rfl⟩
   obtain⟨y,hy⟩:∃y,zb.getD k 0=y:=⟨_,rfl⟩
   rw[hx]at h1;rw[hy]at h2;have HX:=hd_ hx;have HY:=hd_ hy;clear hx hy;have k0:(0:Int)<=(k:Int):=by omega
   have k1:(k:Int)<(n:Int):=by omega
   by_cases he:x=y
   ·subst he
    go_wp2
    go_quiet (fail)
    go_wp2;go_roundw
    case rel=>exact⟨k+1,by omega,by go_num,fun j hj=>by
          by_cases h:j<k
          · exact HE.out j h
          · obtain rfl:j=k:=by omega
            rw[HX.out,HY.out],_,rfl⟩
    case measure=>simp[intOf];omega
   ·have he':(x != y)=true:=by simpa using he
    go_wp2
    go_quiet (fail)
    go_wp2;go_ret;exact⟨ret_bool (ne_of_get (i:=k) (d:=0) (by rw[HX.out,HY.out];exact he)).symm,_,World.drewN_drewN _ _ _⟩
  ·have fin:Hid (decide (za=zb)=true):=eq_of_get (d:=0) Ha.out Hb.out (fun i hi=>HE.out i (by omega))
   go_wp2;go_ret;exact⟨ret_bool fin.out.symm,_,rfl⟩
theorem eqIntS_at (w:World) (u v:Value) (za zb:List Int) (ha:Ints w u za) (hb:Ints w v zb) (hl:za.length<=maxLen):
  Calls Tryz.prog 51 #[u,v] w fun e w'=>e=.returned (.bool (decide (za=zb)))/\∃m,w'=w.drewN m:=by
 obtain⟨⟨x,c,hx⟩,qa⟩:=ha.cases;obtain⟨⟨y,d,hy⟩,qb⟩:=hb.cases
 by_cases h:za.length≠zb.length\/(za.length=0/\zb.length=0)
 ·rw[hx,hy]
  refine (eqIntS_short x y _ _ c d w h).mono fun e w' ⟨he,hw⟩=>⟨?_,0,hw.symm⟩
  rw[he];refine ret_bool ?_;rcases h with h|⟨h1,h2⟩
  ·rw[ne_of_len h];simpa using h
  ·rw[List.eq_nil_of_length_eq_zero h1,List.eq_nil_of_length_eq_zero h2];simp
 ·have e:za.length=zb.length:=by omega
  rcases qa with qa|⟨b,o,c,rfl,hca⟩
  ·omega
  rcases qb with qb|⟨b',o',c',rfl,hcb⟩
  ·omega
  rw[<-e]at hcb ⊢;exact eqIntS_long b o c b' o' c' _ za zb w hl rfl e.symm hca hcb
theorem eqIntSS_short (x y:Option Addr) (n m c d:Nat) (w:World) (h:n≠m\/(n=0/\m=0)):
  Calls Tryz.prog 190 #[.slice x n c,.slice y m d] w fun e w'=>e=.returned (.bool (decide (n=m)))/\Below w.heap.size w w':=by
 rcases h with h|⟨rfl,rfl⟩
 ·have hn:((n:Int) != (m:Int))=true:=by simp;omega
  go_enter Tryz.func190,Tryz.ntmps190;go_wp2;go_ret;exact⟨by simpa using h,Below.refl _ _⟩
 ·go_enter Tryz.func190,Tryz.ntmps190
  go_wp2;refine wp_loop_rounds 1 ?_;rw[rounds_succ];go_wp2;go_ret;exact⟨by simp,Below.refl _ _⟩
theorem eqIntSS_long (b o c b' o' c' n:Nat) (ra rb:List (List Int)) (w:World) (hn:n<=maxLen) (ha:ra.length=n) (hb:rb.length=n) (hla:∀i,i<n->(ra.getD i []).length<=maxLen) (hlb:b<w.heap.size) (hlb':b'<w.heap.size)
  (hca:∀i,i<n->∃x,w.cell? ⟨b,o+i,none⟩=some x/\Ints w x (ra.getD i [])) (hcb:∀i,i<n->∃x,w.cell? ⟨b',o'+i,none⟩=some x/\Ints w x (rb.getD i [])):
  Calls Tryz.prog 190 #[.slice (some ⟨b,o,none⟩) n c,.slice (some ⟨b',o',none⟩) n c'] w fun e w'=>e=.returned (.bool (decide (ra=rb)))/\Below w.heap.size w w':=by
 unfold maxLen at hn;have Ha:=hd_ ha;have Hb:=hd_ hb;have Hla:=hd_ hla;have Hca:=hd_ hca;have Hcb:=hd_ hcb;clear ha hb hca hcb hla;go_enter Tryz.func190,Tryz.ntmps190;go_wp2;go_loopw [5] (fun i wr=>∃k:Nat,k<=n/\i=.int .i64 k/\(∀j,j<k->ra.getD j []=rb.getD j [])/\Below w.heap.size w wr) (fun i _=>n - (intOf i).toNat)
 case atStart=>exact⟨0,Nat.zero_le _,rfl,fun _ h=>absurd h (Nat.not_lt_zero _),Below.refl _ _⟩
 case round=>
  obtain⟨k,hk,rfl,heq,hbl⟩:=hrel;have HE:=hd_ heq;have HB:=hd_ hbl;clear heq hbl
  by_cases hlt:k<n
  ·obtain⟨x,h1,i1⟩:=Hca.out k hlt
   obtain⟨y,h2,i2⟩:=Hcb.out k hlt;rw[<-HB.out.cell (p:=⟨b,o+k,none⟩) hlb]at h1;rw[<-HB.out.cell (p:=⟨b',o'+k,none⟩) hlb']at h2;have I1:=hd_ (i1.below HB.out lr_);have I2:=hd_ (i2.below HB.out lr_);clear i1 i2;have k0:(0:Int)<=(k:Int):=by omega
   have k1:(k:Int)<(n:Int):=by omega
   have KC:Hid (∀q,Calls Tryz.prog 51 #[x,y] (wr.drewN q) fun e w''=>e=.returned (.bool (decide (ra.getD k []=rb.getD k [])))/\∃m,w''=(wr.drewN q).drewN m):=fun q=>
    eqIntS_at (wr.drewN q) x y _ _ (I1.out.drewN q) (I2.out.drewN q) (Hla.out k hlt)
   obtain⟨⟨xa,xc,hx⟩,_⟩:=I1.out.cases;obtain⟨⟨ya,yc,hy⟩,_⟩:=I2.out.cases;obtain⟨ln,hln⟩:∃ln,ln=(ra.getD k []).length:=⟨_,rfl⟩
   obtain⟨lm,hlm⟩:∃lm,lm=(rb.getD k []).length:=⟨_,rfl⟩
   rw[<-hln]at hx;rw[<-hlm]at hy;subst hx hy;clear hln hlm I1 I2
   by_cases he:ra.getD k []=rb.getD k []
   ·rw[show decide (ra.getD k []=rb.getD k [])=true from by simpa using he]at KC
    have HEQ:=hd_ he;clear he;go_wp2
    go_quiet ((with_reducible refine Calls.quiet_of (KC.out _)))
    go_wp2;go_roundw
    case rel=>exact⟨k+1,by omega,by go_num,fun j hj=>by
          by_cases h:j<k
          · exact HE.out j h
          · obtain rfl:j=k:=by omega
            exact HEQ.out,below_drewN HB.out _⟩
    case measure=>simp[intOf];omega
   ·rw[show decide (ra.getD k []=rb.getD k [])=false from by simpa using he]at KC
    have HNE:=hd_ he;clear he;go_wp2
    go_quiet ((with_reducible refine Calls.quiet_of (KC.out _)))
    go_wp2;go_ret;exact⟨ret_bool (ne_of_get (i:=k) (d:=[]) HNE.out).symm,below_drewN HB.out _⟩
  ·have fin:Hid (decide (ra=rb)=true):=eq_of_get (d:=[]) Ha.out Hb.out (fun i hi=>HE.out i (by omega))
   go_wp2;go_ret;exact⟨ret_bool fin.out.symm,HB.out⟩
theorem eqIntSS_at (w:World) (u v:Value) (ra rb:List (List Int)) (ha:Rws w u ra) (hb:Rws w v rb) (hl:ra.length<=maxLen) (hla:∀i,i<ra.length->(ra.getD i []).length<=maxLen):
  Calls Tryz.prog 190 #[u,v] w fun e w'=>e=.returned (.bool (decide (ra=rb)))/\Below w.heap.size w w':=by
 obtain⟨⟨x,c,hx⟩,qa⟩:=ha.cases;obtain⟨⟨y,d,hy⟩,qb⟩:=hb.cases
 by_cases h:ra.length≠rb.length\/(ra.length=0/\rb.length=0)
 ·rw[hx,hy]
  refine (eqIntSS_short x y _ _ c d w h).mono fun e w' ⟨he,hw⟩=>⟨?_,hw⟩
  rw[he];refine ret_bool ?_;rcases h with h|⟨h1,h2⟩
  ·rw[ne_of_len h];simpa using h
  ·rw[List.eq_nil_of_length_eq_zero h1,List.eq_nil_of_length_eq_zero h2];simp
 ·have e:ra.length=rb.length:=by omega
  rcases ha with ⟨rfl,rfl⟩|⟨b,o,c,rfl,_,_,hlb,hca⟩
  ·exact absurd (Or.inr ⟨rfl,e.symm⟩) h
  rcases hb with ⟨rfl,rfl⟩|⟨b',o',c',rfl,_,_,hlb',hcb⟩
  ·exact absurd (Or.inr ⟨e,rfl⟩) h
  rw[<-e]at hcb ⊢;exact eqIntSS_long b o c b' o' c' _ ra rb w hl rfl e.symm hla hlb hlb' hca hcb
theorem eqRough_at (w:World) (u v:Value) (ra rb:List (List Int)) (ha:Rws w u ra) (hb:Rws w v rb) (hl:ra.length<=maxLen) (hla:∀i,i<ra.length->(ra.getD i []).length<=maxLen):
  Calls Tryz.prog 135 #[.agg #[u],.agg #[v]] w fun e w'=>e=.returned (.bool (decide (ra=rb)))/\Below w.heap.size w w':=by
 obtain⟨⟨x,c,hx⟩,_⟩:=ha.cases;obtain⟨⟨y,d,hy⟩,_⟩:=hb.cases;obtain⟨n,hn⟩:∃n,n=ra.length:=⟨_,rfl⟩
 obtain⟨m,hm⟩:∃m,m=rb.length:=⟨_,rfl⟩
 rw[<-hn]at hx;rw[<-hm]at hy;subst hx hy;have K:Hid (∀W,Below w.heap.size w W->Calls Tryz.prog 190 #[.slice x n c,.slice y m d] W fun e w'=>e=.returned (.bool (decide (ra=rb)))/\Below W.heap.size W w'):=fun W hW=>
  eqIntSS_at W _ _ ra rb (ha.below hW lr_) (hb.below hW lr_) hl hla
 clear ha hb hn hm hl hla
 by_cases h:ra=rb
 ·rw[show decide (ra=rb)=true from by simpa using h]at K ⊢
  clear h;go_enter Tryz.func135,Tryz.ntmps135
  go_wp2_with (go_at_call 190;refine (K.out _ (((Below.refl _ _).alloc lr_ _).alloc (by simp) _)).mono ?_;rintro e w1 ⟨rfl,hb1⟩)
  go_ret;exact⟨rfl,(((Below.refl _ _).alloc lr_ _).alloc (by simp) _).trans (hb1.mono (by simp;omega))⟩
 ·rw[show decide (ra=rb)=false from by simpa using h]at K ⊢
  clear h;go_enter Tryz.func135,Tryz.ntmps135
  go_wp2_with (go_at_call 190;refine (K.out _ (((Below.refl _ _).alloc lr_ _).alloc (by simp) _)).mono ?_;rintro e w1 ⟨rfl,hb1⟩)
  go_ret;exact⟨rfl,(((Below.refl _ _).alloc lr_ _).alloc (by simp) _).trans (hb1.mono (by simp;omega))⟩
def rowOkB (zs:List Int):Bool:=zs.length==8&&zs.all fun z=>decide (0<=z)&&decide (z<=2000)
def okB (rs:List (List Int)):Bool:=rs.length==3&&rs.all fun zs=>rowOkB zs&&zs.sum==(rs.getD 0 []).sum&&decide (zs.sum<=2000)
def Good (rs:List (List Int)) (i:Nat):Prop:=(rs.getD i []).length=8/\(∀k,k<8->0<=(rs.getD i []).getD k 0/\(rs.getD i []).getD k 0<=2000)/\(rs.getD i []).sum=(rs.getD 0 []).sum/\(rs.getD i []).sum<=2000
theorem okB_iff (rs:List (List Int)):okB rs=true↔rs.length=3/\∀i,i<3->Good rs i:=by
 unfold okB Good rowOkB;simp only[Bool.and_eq_true,beq_iff_eq,List.all_eq_true,decide_eq_true_eq]
 constructor
 ·rintro⟨h3,h⟩
  refine⟨h3,fun i hi=>?_⟩;have hm:rs.getD i [] ∈ rs:=getD_mem _ _ _ (by omega);obtain⟨⟨⟨h8,ha⟩,hs⟩,hl⟩:=h _ hm;refine⟨h8,fun k hk=>?_,hs,hl⟩;exact ha _ (getD_mem _ _ _ (by omega))
 ·rintro⟨h3,h⟩
  refine⟨h3,fun zs hz=>?_⟩;obtain⟨i,hi,rfl⟩:=List.getElem_of_mem hz;have h':=h i (by omega);simp only[List.getD_eq_getElem?_getD,List.getElem?_eq_getElem hi,Option.getD_some]at h' ⊢;refine⟨⟨⟨h'.1,fun z hz=>?_⟩,h'.2.2.1⟩,h'.2.2.2⟩;obtain⟨k,hk,rfl⟩:=List.getElem_of_mem hz;have h2:=h'.2.1 k (by omega);simpa[hk]using h2
theorem okB_false {rs:List (List Int)} (h:rs.length≠3\/∃i,i<3/\¬Good rs i):okB rs=false:=by
 cases hb:okB rs with
 |false=>rfl
 |true=>
  obtain⟨h3,hg⟩:=(okB_iff rs).1 hb;rcases h with h|⟨i,hi,hn⟩
  ·exact absurd h3 h
  ·exact absurd (hg i hi) hn
theorem spOk_len (u:Value) (b o cap:Nat) (n:Nat) (w:World) (h:n≠3) (hu:u=.slice none 0 0/\n=0\/u=.slice (some ⟨b,o,none⟩) n cap):
  Calls Tryz.prog 219 #[.agg #[u]] w fun e w'=>e=.returned (.bool false)/\Below w.heap.size w w':=by
 rcases hu with ⟨rfl,rfl⟩|rfl
 ·go_enter Tryz.func219,Tryz.ntmps219
  go_wp2;go_ret;exact⟨rfl,(Below.refl _ _).alloc lr_ _⟩
 ·have hn:((n:Int)==3)=false:=by simp;omega
  go_enter Tryz.func219,Tryz.ntmps219;go_wp2;go_ret;exact⟨rfl,(Below.refl _ _).alloc lr_ _⟩
theorem spOk_three (b o cap:Nat) (rs:List (List Int)) (w:World) (h3:rs.length=3) (hb:b<w.heap.size)
  (hc:∀i,i<3->∃x,w.cell? ⟨b,o+i,none⟩=some x/\Ints w x (rs.getD i [])):
  Calls Tryz.prog 219 #[.agg #[.slice (some ⟨b,o,none⟩) 3 cap]] w fun e w'=>e=.returned (.bool (okB rs))/\Below w.heap.size w w':=by
 have hok:=hd_ (okB_iff rs);have hno:=hd_ (@okB_false rs);have Hc:=hd_ hc;have H3:=hd_ h3;clear hc h3;go_enter Tryz.func219,Tryz.ntmps219;go_wp2;go_loopw [3] (fun i wr=>∃k:Nat,k<=3/\i=.int .i64 k/\(∀j,j<k->Good rs j)/\Below w.heap.size w wr/\wr.cell? ⟨w.heap.size,0,none⟩=some (.slice (some ⟨b,o,none⟩) 3 cap)) (fun i _=>3 - (intOf i).toNat)
 case atStart=>exact⟨0,Nat.zero_le _,rfl,fun _ h=>by omega,(Below.refl _ _).alloc lr_ _,by simp⟩
 case round=>
  obtain⟨k,hk,rfl,hgood,hbl,hbox⟩:=hrel;have Hbl:=hd_ hbl;clear hbl
  by_cases hlt:k<3
  ·have hltB:decide ((k:Int)<3)=true:=by simp;omega
   obtain⟨x,hx,hi⟩:=Hc.out k hlt;rw[<-Hbl.out.cell (p:=⟨b,o+k,none⟩) hb]at hx;obtain⟨zs,hzs⟩:∃zs,zs=rs.getD k []:=⟨_,rfl⟩
   rw[<-hzs]at hi;have Hzs:=hd_ hzs;have Hgood:=hd_ hgood;clear hzs hgood;have bad:Hid (¬Good rs k->okB rs=false):=fun h=>hno.out (.inr ⟨k,hlt,h⟩)
   rcases hi with ⟨rfl,hz0⟩|⟨b1,o1,c1,rfl,hl1,hm1,hb1,hc1⟩
   ·have hz0':=hd_ hz0
    clear hz0;go_wp2;go_ret;exact⟨ret_bool (bad.out (fun h=>by have:=h.1;rw[<-Hzs.out,hz0'.out]at this;simp at this)).symm,Hbl.out⟩
   by_cases h8:zs.length=8
   ·rw[h8]at hx hc1
    replace hc1:∀(i:Nat),i<8->wr.cell? ⟨b1,o1+i,none⟩=some (.int .i64 (zs.getD i 0)):=fun i hi=>by rw[Hbl.out.cell (p:=⟨b1,o1+i,none⟩) hb1];exact hc1 i hi
    have H8:=hd_ h8;have Hc1:=hd_ hc1;clear h8 hc1 hl1 hm1;go_wp2
    go_loop [4] (fun j=>∃m:Nat,m<=8/\j=.int .i64 m/\∀i,i<m->0<=zs.getD i 0/\zs.getD i 0<=2000) (fun j=>8 - (intOf j).toNat)
    case atStart=>exact⟨0,Nat.zero_le _,rfl,fun _ h=>by omega⟩
    case round=>
     obtain⟨m,hm,rfl,hin⟩:=hrel;have Hin:=hd_ hin;clear hin
     by_cases hmt:m<8
     ·have hcm:=Hc1.out m hmt
      obtain⟨y,hy⟩:∃y,y=zs.getD m 0:=⟨_,rfl⟩
      rw[<-hy]at hcm;have Hy:=hd_ hy;clear hy
      by_cases hr:0<=y/\y<=2000
      ·obtain⟨r0,r1⟩:=hr
       go_wp2_with (go_at_call 66;refine (l6In_yes _ _ _ _ r0 r1).mono ?_;rintro e w' ⟨rfl,rfl⟩)
       go_round
       case rel=>exact⟨m+1,by omega,by go_num,fun i hi=>by
                by_cases h:i<m
                · exact Hin.out i h
                · obtain rfl:i=m:=by omega
                  rw[<-Hy.out];exact⟨r0,r1⟩⟩
       case measure=>simp[intOf];omega
      ·have hr':y<0\/2000<y:=by omega
       clear hr
       go_wp2_with (go_at_call 66;refine (l6In_no _ _ _ _ hr').mono ?_;rintro e w' ⟨rfl,rfl⟩)
       go_ret;exact⟨ret_bool (bad.out (fun h=>by have h':=h.2.1 m hmt;rw[<-Hzs.out, <-Hy.out]at h';omega)).symm,Hbl.out⟩
     ·have hin8:Hid (∀i,i<8->0<=zs.getD i 0/\zs.getD i 0<=2000):=fun i hi=>Hin.out i (by omega)
      go_wp2;obtain⟨b0,o0,c0,zs0,hx0,Hzs0,H80,Hin0,Hc0⟩:∃b0 o0 c0 zs0,wr.cell? ⟨b,o,none⟩=some (.slice (some ⟨b0,o0,none⟩) 8 c0)/\Hid (zs0=rs.getD 0 [])/\Hid (zs0.length=8)/\Hid (∀i,i<8->0<=zs0.getD i 0/\zs0.getD i 0<=2000)/\
        Hid (∀(i:Nat),i<8->wr.cell? ⟨b0,o0+i,none⟩=some (.int .i64 (zs0.getD i 0))):=by
       rcases Nat.eq_zero_or_pos k with h0|h0
       ·subst h0
        exact⟨b1,o1,c1,zs,hx,Hzs.out,H8.out,hin8.out,Hc1.out⟩
       ·obtain⟨x0,hx0,hi0⟩:=Hc.out 0 (by omega)
        rw[<-Hbl.out.cell (p:=⟨b,o+0,none⟩) hb]at hx0;have g0:=Hgood.out 0 h0;rcases hi0 with ⟨_,hz⟩|⟨b0,o0,c0,rfl,_,_,hb0,hc0⟩
        ·have:=g0.1;rw[hz]at this;simp at this
        ·rw[g0.1]at hx0 hc0
         exact⟨b0,o0,c0,_,hx0,rfl,g0.1,g0.2.1,fun i hi=>by rw[Hbl.out.cell (p:=⟨b0,o0+i,none⟩) hb0];exact hc0 i hi⟩
      obtain⟨S,hS⟩:∃S,zs.sum=S:=⟨_,rfl⟩
      obtain⟨S0,hS0⟩:∃S,zs0.sum=S:=⟨_,rfl⟩
      have HS:=hd_ hS;have HS0:=hd_ hS0;have HSS:Hid (Good rs k->S=S0/\S<=2000):=fun h=>by have:=h.2.2;rw[<-Hzs0.out, <-Hzs.out,hS,hS0]at this;exact this
      have HSG:Hid (S=S0->S<=2000->Good rs k):=fun h1 h2=>by
       unfold Good;rw[<-Hzs0.out, <-Hzs.out,hS,hS0];exact⟨H8.out,hin8.out,h1,h2⟩
      clear hS hS0;have k1:∀W:World,(∀i,i<8->W.cell? ⟨b1,o1+i,none⟩=some (.int .i64 (zs.getD i 0)))->Calls Tryz.prog 224 #[.slice (some ⟨b1,o1,none⟩) 8 c1] W fun e w'=>e=.returned (.int .i64 S)/\W=w':=fun W h=>by
       rw[<-HS.out];exact l1Sum_at b1 o1 c1 8 zs W H8.out (by omega) hin8.out h
      have k0:∀W:World,(∀i,i<8->W.cell? ⟨b0,o0+i,none⟩=some (.int .i64 (zs0.getD i 0)))->Calls Tryz.prog 224 #[.slice (some ⟨b0,o0,none⟩) 8 c0] W fun e w'=>e=.returned (.int .i64 S0)/\W=w':=fun W h=>by
       rw[<-HS0.out];exact l1Sum_at b0 o0 c0 8 zs0 W H80.out (by omega) Hin0.out h
      have K1:=hd_ k1;have K0:=hd_ k0;clear k0 k1;have ki0:(0:Int)<=(k:Int):=by omega
      have ki3:(k:Int)<3:=by omega
      by_cases he:S=S0
      ·subst he
       by_cases h2:S<=2000
       ·have h2':¬ 2000<S:=by omega
        go_quiet (first
                  |((with_reducible refine quiet_same' (K1.out _ ?_));exact Hc1.out)
                  |((with_reducible refine quiet_same' (K0.out _ ?_));exact Hc0.out))
        go_wp2;go_roundw
        case rel=>exact⟨k+1,by omega,by go_num,fun j hj=>by
                  by_cases h:j<k
                  · exact Hgood.out j h
                  · obtain rfl:j=k:=by omega
                    exact HSG.out rfl h2,below_drewN Hbl.out _,by simpa using hbox⟩
        case measure=>simp[intOf];omega
       ·have h2':2000<S:=by omega
        go_quiet (first
                  |((with_reducible refine quiet_same' (K1.out _ ?_));exact Hc1.out)
                  |((with_reducible refine quiet_same' (K0.out _ ?_));exact Hc0.out))
        go_wp2;go_ret;exact⟨ret_bool (bad.out (fun h=>by have:=(HSS.out h).2;omega)).symm,below_drewN Hbl.out _⟩
      ·have he':(S != S0)=true:=by simpa using he
       have he2:decide (S=S0)=false:=by simpa using he
       go_quiet (first
                |((with_reducible refine quiet_same' (K1.out _ ?_));exact Hc1.out)
                |((with_reducible refine quiet_same' (K0.out _ ?_));exact Hc0.out))
       go_wp2;go_ret;exact⟨ret_bool (bad.out (fun h=>he (HSS.out h).1)).symm,below_drewN Hbl.out _⟩
   ·have hn8:((zs.length:Int)==8)=false:=by simp;omega
    clear hc1 hl1 hm1;go_wp2;go_ret;exact⟨ret_bool (bad.out (fun h=>by have:=h.1;rw[<-Hzs.out]at this;exact h8 this)).symm,Hbl.out⟩
  ·go_wp2
   go_ret;exact⟨ret_bool ((hok.out).2 ⟨H3.out,fun i hi=>hgood i (by omega)⟩).symm,Hbl.out⟩
theorem spOk_any (u:Value) (rs:List (List Int)) (w:World) (h:Rws w u rs):
  Calls Tryz.prog 219 #[.agg #[u]] w fun e w'=>e=.returned (.bool (okB rs))/\Below w.heap.size w w':=by
 rcases h with ⟨rfl,rfl⟩|⟨b,o,cap,rfl,_,_,hb,hc⟩
 ·exact spOk_len _ 0 0 0 0 w (by omega) (.inl ⟨rfl,rfl⟩)
 ·by_cases h3:rs.length=3
  ·rw[h3]at hc ⊢
   exact spOk_three b o cap rs w h3 hb hc
  ·refine (spOk_len _ b o cap _ w h3 (.inr rfl)).mono fun e w' ⟨he,hb'⟩=>⟨?_,hb'⟩
   rw[okB_false (.inl h3)];exact he
def zeros:List Int:=[0,0,0,0,0,0,0,0]
theorem info_int:(Tryz.prog.info? 3).map (fun i=>(i.zero,i.size,i.bytes))=some (some (.int .i64 0),1,8):=by kernel_rfl
theorem info_ints:(Tryz.prog.info? 23).map (fun i=>(i.zero,i.size,i.bytes))=some (some (.slice none 0 0),1,24):=by kernel_rfl
theorem make8:∀w,(Instr.makeSlice 23 (.int .i64 8) (.int .i64 8)).run Tryz.prog w=.ok (.slice (some ⟨w.heap.size,0,none⟩) 8 8) (w.alloc (.cells (ints zeros).toArray 3)):=fun _=>by kernel_rfl
theorem make3:∀w,(Instr.makeSlice 34 (.int .i64 3) (.int .i64 3)).run Tryz.prog w=.ok (.slice (some ⟨w.heap.size,0,none⟩) 3 3) (w.alloc (.cells #[.slice none 0 0,.slice none 0 0,.slice none 0 0] 23)):=fun _=>by kernel_rfl
def zero3:List (List Int):=[zeros,zeros,zeros]
theorem cell_block {w:World} {b:Nat} {u:Value} {t:TypeId} (h:w.heap[b]? =some (.cells #[u] t (0,0))):w.cell? ⟨b,0,none⟩=some u/\w.frozen? ⟨b,0,none⟩=false/\b<w.heap.size:=
 ⟨by simp[World.cell?,h],by simp[World.frozen?,h],(Array.getElem?_eq_some_iff.1 h).1⟩
theorem OwnR.nil (w:World) (B:Nat):OwnR w B (.slice none 0 0) [] (fun _=>0) (fun _=>0):=
 ⟨World.ownsRow_nil w B _ 1,fun i h=>absurd h (Nat.not_lt_zero i),fun i h=>absurd h (Nat.not_lt_zero i),fun i _ h=>absurd h (Nat.not_lt_zero i)⟩
theorem OwnR.hdr_lt {w:World} {B:Nat} {u:Value} {rs:List (List Int)} {G C:Nat->Nat} (h:OwnR w B u rs G C):∀k,u.ownBlock=some k->B<=k/\k<w.heap.size:=h.hdr.lt
theorem block_keep {w w':World} {row:Option Nat} {b:Nat} {o:Obj} (h:w.heap[b]? =some o) (hg:w.grownBy w' row) (hr:row≠some b):w'.heap[b]? =some o:=by
 rw[hg.block b (Array.getElem?_eq_some_iff.1 h).1 (fun e=>hr e.symm)];exact h
theorem make_own (w:World) (B:Nat) (zs:List Int) (hB:B<=w.heap.size) (hl:zs.length<=maxLen):
  (w.alloc (.cells (ints zs).toArray 3)).ownsRow B 3 1 (.slice (some ⟨w.heap.size,0,none⟩) zs.length zs.length) zs.length (ints zs):=by
 have:=World.ownsRow_lit (base:=B) (e:=3) (size:=1) w (ints zs).toArray zs.length hB hl (by simp[ints]);simpa using this
theorem new2 (w:World) (o o':Obj):((w.alloc o).alloc o').drew.heap[w.heap.size+1]? =some o':=by
 have:=heap_alloc_new (w.alloc o) o';rw[show (w.alloc o).heap.size=w.heap.size+1 by simp]at this;exact this
theorem box_far {w w1:World} {o o':Obj} {b:Nat} {u:Value} {row:Option Nat} (c:w.cell? ⟨b,0,none⟩=some u) (f:w.frozen? ⟨b,0,none⟩=false) (l:b<w.heap.size)
  (hg:((w.alloc o).alloc o').drew.grownBy w1 row) (hr:row≠some b):w1.cell? ⟨b,0,none⟩=some u/\w1.frozen? ⟨b,0,none⟩=false:=by
 have l1:b<(w.alloc o).heap.size:=by simp;omega
 have l2:b<((w.alloc o).alloc o').drew.heap.size:=by simp;omega
 rw[hg.cell_far ⟨b,0,none⟩ l2 (Ne.symm hr),hg.frozen_far ⟨b,0,none⟩ l2 (Ne.symm hr)];simp only[World.cell?_drew,World.frozen?_drew];rw[World.cell?_alloc_past _ _ _ l1,World.cell?_alloc_past _ _ _ l,World.frozen?_alloc_past _ _ _ l1,World.frozen?_alloc_past _ _ _ l];exact⟨c,f⟩
theorem grownBy_drew {w w':World} {row:Option Nat} (h:w.grownBy w' row):w.grownBy w'.drew row:=⟨h.os,h.tape,h.output,h.size,h.block⟩
theorem row_added {w wr X w1:World} {S R B W g c gg cap:Nat} {o:Obj} {u:Value} {t:TypeId} {rs:List (List Int)} {G C:Nat->Nat} {zs:List Int}
  (HO:OwnR wr B u rs G C) (hX:wr.grownBy X none) (hz:X.ownsRow B 3 1 (.slice (some ⟨g,0,none⟩) zs.length c) zs.length (ints zs)) (hg:wr.heap.size<=g)
  (hown1:w1.ownsRow B 23 1 (.slice (some ⟨gg,0,none⟩) (rs.length+1) cap) (rs.length+1) ((List.range rs.length).map (rowV rs G C)++[.slice (some ⟨g,0,none⟩) zs.length c]))
  (hgrow:X.grownBy w1 u.ownBlock) (hat:u.ownBlock=some gg\/gg=X.heap.size)
  (hR:wr.heap[R]? =some (.cells #[u] t (0,0))) (hS:wr.heap[S]? =some o) (hRB:R<B) (hSB:S<B) (hSR:S≠R) (hbl:Below W w wr) (hWR:W<=R) (hWw:W<=w.heap.size):
  ∃G' C',OwnR (w1.setCell ⟨R,0,none⟩ (.slice (some ⟨gg,0,none⟩) (rs.length+1) cap)) B (.slice (some ⟨gg,0,none⟩) (rs.length+1) cap) (rs++[zs]) G' C'/\
   (w1.setCell ⟨R,0,none⟩ (.slice (some ⟨gg,0,none⟩) (rs.length+1) cap)).heap[S]? =some o/\
   (w1.setCell ⟨R,0,none⟩ (.slice (some ⟨gg,0,none⟩) (rs.length+1) cap)).heap[R]? =some (.cells #[.slice (some ⟨gg,0,none⟩) (rs.length+1) cap] t (0,0))/\
   Below W w (w1.setCell ⟨R,0,none⟩ (.slice (some ⟨gg,0,none⟩) (rs.length+1) cap)):=by
 have lt:∀k,u.ownBlock=some k->B<=k/\k<wr.heap.size:=HO.hdr_lt
 have HX:=HO.grown hX (fun _ e=>by cases e);have h1:=HX.snoc hz (fun e=>by have:=(lt g e).2;omega) (fun i hi e=>by have:=((HO.row i hi).lt (G i) rfl).2;omega) hown1 hgrow hat;have hRX:=block_keep hR hX (by simp);have hSX:=block_keep hS hX (by simp);have hR1:=block_keep hRX hgrow (fun e=>by have:=(lt R e).1;omega);have hS1:=block_keep hSX hgrow (fun e=>by have:=(lt S e).1;omega)
 refine⟨_,_,h1.grown (grownBy_setCell w1 ⟨R,0,none⟩ _) (fun k e=>by simp at e;omega),?_,?_,?_⟩
 ·rw[heap_setCell_other w1 ⟨R,0,none⟩ S _ hSR];exact hS1
 ·exact one_setCell hR1
 ·have hXb:Below W w X:=hbl.trans ⟨hX.os,hX.tape,hX.output,hX.size,fun k hk=>hX.block k (Nat.lt_of_lt_of_le hk (Nat.le_trans hWw hbl.size)) (by simp)⟩
  have h1b:Below W w w1:=hXb.grown hgrow (Nat.le_trans hWw hXb.size) (fun k e=>by have:=(lt k e).1;omega);exact h1b.setCell (by simpa using hWR) _
theorem spNew_at (w:World):
  Calls Tryz.prog 168 #[] w fun e w'=>∃u G C,e=.returned (.agg #[u])/\OwnR w' w.heap.size u zero3 G C/\Below w.heap.size w w':=by
 have m8:=make8;obtain⟨i0,hi,hz0,hz1,hz2⟩:=info_parts info_ints;go_enter Tryz.func168,Tryz.ntmps168;go_wp2;go_loopw [2] (fun i wr=>∃(k:Nat) (rs:List (List Int)) (u:Value) (G C:Nat->Nat),k<=3/\i=.int .i64 k/\rs=List.replicate k zeros/\OwnR wr (w.heap.size+2) u rs G C/\
      wr.heap[w.heap.size]? =some (.cells #[.slice none 0 0] 36 (0,0))/\wr.heap[w.heap.size+1]? =some (.cells #[u] 36 (0,0))/\Below w.heap.size w wr) (fun i _=>3 - (intOf i).toNat)
 case atStart=>
  refine⟨0,_,_,_,_,Nat.zero_le _,rfl,rfl,OwnR.nil _ _,?_,?_,((Below.refl _ _).alloc lr_ _).alloc (by simp) _⟩
  ·exact (heap_alloc_old _ _ (by simp)).trans (heap_alloc_new _ _)
  ·have:=heap_alloc_new (w.alloc (Obj.cells #[Value.slice none 0 0] 36)) (Obj.cells #[Value.slice none 0 0] 36)
   simpa using this
 case round=>
  obtain⟨k,rs,u,G,C,hk,rfl,hrs,hown,hS,hR,hbl⟩:=hrel;have HRS:=hd_ hrs;have hn:rs.length<=3:=by rw[hrs];simpa using hk
  clear hrs;obtain⟨c1,f1,l1⟩:=cell_block hR;have hb0:w.heap.size+2<=wr.heap.size:=by omega
  have l2:w.heap.size+1<wr.heap.size+1:=by omega
  have hub:u.ownBlock≠some (w.heap.size+1):=fun e=>by have:=(hown.hdr_lt _ e).1;omega
  have HO:=hd_ hown;have HS:=hd_ hS;have HR:=hd_ hR;have HB:=hd_ hbl;clear hown hS hR hbl
  by_cases hlt:k<3
  ·go_wp2_with fail
   go_region_law
    ((refine step_append_lies _ (by rfl) _ _ _ (by rfl) (w.heap.size+2) 23 i0 _ 1 24 Tryz.underlying34 hi hz0 hz1 hz2 rfl (by omega) u rs.length _ (by rfl) (((HO.out.hdr.alloc _).alloc _).drew)
            ⟨wr.heap.size+1,0,none⟩ 1 1 [.slice (some ⟨wr.heap.size,0,none⟩) 8 8] (by rfl) (by rfl) (World.news_of_block (cs:=#[.slice (some ⟨wr.heap.size,0,none⟩) 8 8]) (t:=23) (fr:=(0,0)) (new2 _ _ _)) (by simp[Value.oneCell'])
            (by omega) (by unfold maxLen;omega) (by omega) (by simp;omega) (wr.heap.size+2) (by simp) ?_;intro gg cap w1 hown1 hgrow hat hlt1;have d1:=box_far c1 f1 l1 hgrow hub;obtain⟨d2,d3⟩:=d1))
   all_goals
    have hX:wr.grownBy ((wr.alloc (.cells (ints zeros).toArray 3)).alloc (.cells #[.slice (some ⟨wr.heap.size,0,none⟩) 8 8] 23)).drew none:=
     grownBy_drew (grownBy_trans (World.grownBy_alloc wr _ none) (World.grownBy_alloc _ _ none))
    have hz:=(((make_own wr (w.heap.size+2) zeros hb0 (by simp[zeros,maxLen])).alloc (.cells #[.slice (some ⟨wr.heap.size,0,none⟩) 8 8] 23)).drew)
    have fin:=row_added HO.out hX hz lr_ hown1 hgrow (by simpa using hat) HR.out HS.out (by omega) (by omega) (by omega) HB.out (by omega) lr_;have FIN:=hd_ fin;clear fin hX hz hown1 hgrow hat;go_wp2;go_roundw
    case rel=>
     obtain⟨G',C',q1,q2,q3,q4⟩:=FIN.out;exact⟨k+1,rs++[zeros],_,G',C',by omega,by go_num,by rw[HRS.out,List.replicate_succ'],q1,q2,q3,q4⟩
    case measure=>simp[intOf];omega
  ·obtain⟨s1,s2,s3⟩:=cell_block HS.out
   have h3:rs.length=3:=by rw[HRS.out];simp;omega
   obtain⟨g,cap,hu,hg1,hg2⟩:=World.ownsRow.form HO.out.hdr (by omega);subst hu;have e3:rs=zero3:=by rw[HRS.out,show k=3 by omega];rfl
   have hw:=HO.out.grown (grownBy_setCell wr ⟨w.heap.size,0,none⟩ (.slice (some ⟨g,0,none⟩) rs.length cap)) (fun k e=>by simp at e;omega);have hb:=HB.out.setCell (p:=⟨w.heap.size,0,none⟩) lr_ (.slice (some ⟨g,0,none⟩) rs.length cap);rw[e3]at hw hb;have H1:=hd_ hw;have H2:=hd_ hb;have E3:=hd_ e3;clear hw hb h3 e3;go_wp2;rw[E3.out]
   have hr:=World.cell?_setCell_same wr ⟨w.heap.size,0,none⟩ (.slice (some ⟨g,0,none⟩) zero3.length cap) s1;exact bodyPost_ret (v:=.agg #[.slice (some ⟨g,0,none⟩) zero3.length cap]) (by simp[results,Tryz.results168,go_sem,hr]) rfl ⟨_,G,C,rfl,H1.out.base (by omega),H2.out⟩
theorem own_three (w:World) (o:Obj) (r0 r1 r2:List Int) (n:Nat) (hn:w.heap.size=n) (h0:r0.length=8) (h1:r1.length=8) (h2:r2.length=8):
  OwnR (((((w.alloc o).alloc (.cells #[.slice (some ⟨n+1+1,0,none⟩) 8 8,.slice (some ⟨n+1+1+1,0,none⟩) 8 8,.slice (some ⟨n+1+1+1+1,0,none⟩) 8 8] 23)).alloc
      (.cells (ints r0).toArray 3)).alloc (.cells (ints r1).toArray 3)).alloc (.cells (ints r2).toArray 3)) n (.slice (some ⟨n+1,0,none⟩) 3 3) [r0,r1,r2] (fun i=>n+2+i) (fun _=>8):=by
 subst hn;have eV:∀i,rowV [r0,r1,r2] (fun i=>w.heap.size+2+i) (fun _=>8) i=.slice (some ⟨w.heap.size+2+i,0,none⟩) ([r0,r1,r2].getD i []).length 8:=fun i=>rfl
 have hh:=World.ownsRow_lit (base:=w.heap.size) (e:=23) (size:=1) (w.alloc o) #[.slice (some ⟨w.heap.size+1+1,0,none⟩) 8 8,.slice (some ⟨w.heap.size+1+1+1,0,none⟩) 8 8,.slice (some ⟨w.heap.size+1+1+1+1,0,none⟩) 8 8] 3 (by simp) (by simp[maxLen]) (by simp)
 have z0:=make_own ((w.alloc o).alloc (.cells #[.slice (some ⟨w.heap.size+1+1,0,none⟩) 8 8,.slice (some ⟨w.heap.size+1+1+1,0,none⟩) 8 8,.slice (some ⟨w.heap.size+1+1+1+1,0,none⟩) 8 8] 23)) w.heap.size r0 (by simp;omega) (by simp[h0,maxLen])
 have z1:=make_own (((w.alloc o).alloc (.cells #[.slice (some ⟨w.heap.size+1+1,0,none⟩) 8 8,.slice (some ⟨w.heap.size+1+1+1,0,none⟩) 8 8,.slice (some ⟨w.heap.size+1+1+1+1,0,none⟩) 8 8] 23)).alloc (.cells (ints r0).toArray 3)) w.heap.size r1 (by simp;omega) (by simp[h1,maxLen])
 have z2:=make_own ((((w.alloc o).alloc (.cells #[.slice (some ⟨w.heap.size+1+1,0,none⟩) 8 8,.slice (some ⟨w.heap.size+1+1+1,0,none⟩) 8 8,.slice (some ⟨w.heap.size+1+1+1+1,0,none⟩) 8 8] 23)).alloc (.cells (ints r0).toArray 3)).alloc (.cells (ints r1).toArray 3)) w.heap.size r2 (by simp;omega) (by simp[h2,maxLen]);simp only[World.size_alloc,h0,h1,h2]at hh z0 z1 z2
 refine⟨?_,fun i hi=>?_,fun i hi=>?_,fun i j hi hj hij=>?_⟩
 ·have:=((hh.alloc (.cells (ints r0).toArray 3)).alloc (.cells (ints r1).toArray 3)).alloc (.cells (ints r2).toArray 3)
  simpa[List.range_succ,rowV,h0,h1,h2]using this
 ·simp only[List.length_cons,List.length_nil]at hi
  rw[eV];rcases (by omega:i=0\/i=1\/i=2)with rfl|rfl|rfl
  ·simpa[h0]using (z0.alloc (.cells (ints r1).toArray 3)).alloc (.cells (ints r2).toArray 3)
  ·simpa[h1]using z1.alloc (.cells (ints r2).toArray 3)
  ·simpa[h2]using z2
 ·simp[Value.ownBlock];omega
 ·simp;omega
theorem imNew_at (w:World):
  Calls Tryz.prog 152 #[] w fun e w'=>∃u G C,e=.returned (.agg #[u])/\OwnR w' w.heap.size u zero3 G C/\Below w.heap.size w w':=by
 have m8:=make8;have m3:=make3;go_enter Tryz.func152,Tryz.ntmps152;go_wp2;refine wp_loop_rounds 4 ?_;rw[rounds_succ];go_wp2;rw[rounds_succ];go_wp2;rw[rounds_succ];go_wp2;rw[rounds_succ];go_wp2;exact bodyPost_ret (v:=.agg #[.slice (some ⟨w.heap.size+1,0,none⟩) 3 3]) (by simp[results,Tryz.results152,go_sem]) rfl
  ⟨_,_,_,rfl,own_three w _ zeros zeros zeros _ rfl rfl rfl rfl,(((((Below.refl _ _).alloc lr_ _).alloc (by simp) _).alloc (by simp;omega) _).alloc (by simp;omega) _).alloc (by simp;omega) _⟩
def Fine (zs:List Int):Prop:=zs.length=8/\(∀k,k<8->0<=zs.getD k 0)/\zs.sum<=2000
instance (zs:List Int):Decidable (Fine zs):=by unfold Fine;infer_instance
def rowAllV (zs:List Int):Int:=if Fine zs then zs.sum else -1
def allV (rs:List (List Int)):Int:=if okB rs=true then (rs.getD 0 []).sum else -1
theorem nonneg_mem {zs:List Int} (h:∀k,k<zs.length->0<=zs.getD k 0):∀z ∈ zs,0<=z:=fun z hz=>by
 obtain⟨k,hk,rfl⟩:=List.getElem_of_mem hz;have:=h k hk;simpa[hk]using this
theorem sum_nonneg {zs:List Int} (h:∀z ∈ zs,0<=z):0<=zs.sum:=by
 induction zs with
 |nil=>simp
 |cons a l ih=>simp only[List.sum_cons];have:=h a (by simp);have:=ih (fun z hz=>h z (by simp[hz]));omega
theorem sum_take_le {zs:List Int} (h:∀z ∈ zs,0<=z) (k:Nat):(zs.take k).sum<=zs.sum:=by
 have e:zs.sum=(zs.take k).sum+(zs.drop k).sum:=by rw[<-List.sum_append,List.take_append_drop]
 have:=sum_nonneg (fun z hz=>h z (List.mem_of_mem_drop hz):∀z ∈ zs.drop k,0<=z);omega
theorem Fine.bd {zs:List Int} (h:Fine zs):(∀z ∈ zs,0<=z)/\0<=zs.sum/\(∀k,k<8->0<=zs.getD k 0/\zs.getD k 0<=2000):=by
 have hm:=nonneg_mem (fun k hk=>h.2.1 k (by rw[<-h.1];exact hk):∀k,k<zs.length->0<=zs.getD k 0);refine⟨hm,sum_nonneg hm,fun k hk=>⟨h.2.1 k hk,?_⟩⟩;have h1:=sum_take_succ zs k (by rw[h.1];exact hk);have h2:=sum_take_le hm (k+1);have h3:=sum_nonneg (fun z hz=>hm z (List.mem_of_mem_take hz):∀z ∈ zs.take k,0<=z);have:=h.2.2;omega
theorem rowAllV_fine {zs:List Int} (h:Fine zs):rowAllV zs=zs.sum:=if_pos h
theorem rowAllV_not {zs:List Int} (h:¬Fine zs):rowAllV zs= -1:=if_neg h
theorem allV_eq (rs:List (List Int)):allV rs=if rs.length=3/\rowAllV (rs.getD 1 [])=rowAllV (rs.getD 0 [])/\rowAllV (rs.getD 2 [])=rowAllV (rs.getD 0 [])then rowAllV (rs.getD 0 [])else -1:=by
 unfold allV
 by_cases hok:okB rs=true
 ·rw[if_pos hok]
  obtain⟨h3,hg⟩:=(okB_iff rs).1 hok;have fine:∀i,i<3->Fine (rs.getD i []):=fun i hi=>⟨(hg i hi).1,fun k hk=>((hg i hi).2.1 k hk).1,(hg i hi).2.2.2⟩
  rw[if_pos ⟨h3,by rw[rowAllV_fine (fine 1 (by omega)),rowAllV_fine (fine 0 (by omega))];exact (hg 1 (by omega)).2.2.1,by rw[rowAllV_fine (fine 2 (by omega)),rowAllV_fine (fine 0 (by omega))];exact (hg 2 (by omega)).2.2.1⟩,
      rowAllV_fine (fine 0 (by omega))]
 ·rw[if_neg hok]
  split
  ·rename_i h
   obtain⟨h3,h1,h2⟩:=h
   by_cases f0:Fine (rs.getD 0 [])
   ·exfalso
    apply hok;rw[okB_iff];have pos:=f0.bd.2.1;have all:∀i,i<3->Fine (rs.getD i [])/\(rs.getD i []).sum=(rs.getD 0 []).sum:=fun i hi=>by
     have e:rowAllV (rs.getD i [])=rowAllV (rs.getD 0 []):=by
      rcases (by omega:i=0\/i=1\/i=2)with rfl|rfl|rfl
      ·rfl
      ·exact h1
      ·exact h2
     rw[rowAllV_fine f0]at e
     by_cases fi:Fine (rs.getD i [])
     ·rw[rowAllV_fine fi]at e;exact⟨fi,e⟩
     ·rw[rowAllV_not fi]at e;omega
    exact⟨h3,fun i hi=>⟨(all i hi).1.1,(all i hi).1.bd.2.2,(all i hi).2,(all i hi).1.2.2⟩⟩
   ·rw[rowAllV_not f0]
  ·rfl
theorem rowAll_len (v:Value) (x:Option Addr) (n c:Nat) (w:World) (hv:v=.slice x n c) (h:n≠8):
  Calls Tryz.prog 157 #[v] w fun e w'=>e=.returned (.int .i64 (-1))/\w=w':=by
 subst hv;have hn:((n:Int)==8)=false:=by simp;omega
 go_enter Tryz.func157,Tryz.ntmps157;go_wp2;go_ret;exact⟨rfl,rfl⟩
theorem rowAll_eight (b o c:Nat) (zs:List Int) (w:World) (hl:zs.length=8) (hc:∀i,i<8->w.cell? ⟨b,o+i,none⟩=some (.int .i64 (zs.getD i 0))):
  Calls Tryz.prog 157 #[.slice (some ⟨b,o,none⟩) 8 c] w fun e w'=>e=.returned (.int .i64 (rowAllV zs))/\w=w':=by
 have HL:=hd_ hl;have HC:=hd_ hc;clear hl hc;go_enter Tryz.func157,Tryz.ntmps157;go_wp2
 go_loop [3,11] (fun q i=>∃(j:Nat) (S:Int),j<=8/\i=.int .i64 j/\q=.int .i64 S/\(zs.take j).sum=S/\0<=S/\S<=2000/\∀i,i<j->0<=zs.getD i 0) (fun _ i=>8 - (intOf i).toNat)
 case atStart=>exact⟨0,0,Nat.zero_le _,rfl,rfl,rfl,by omega,by omega,fun _ h=>absurd h (Nat.not_lt_zero _)⟩
 case round=>
  obtain⟨j,S,hj,rfl,rfl,hS,S0,S1,hpos⟩:=hrel;have HS:=hd_ hS;have HP:=hd_ hpos;clear hS hpos
  by_cases hlt:j<8
  ·have hcell:=HC.out j hlt
   obtain⟨y,hy⟩:∃y,zs.getD j 0=y:=⟨_,rfl⟩
   rw[hy]at hcell;have HY:=hd_ hy;have hs:=sum_take_succ zs j (by rw[HL.out];exact hlt);rw[HS.out,hy]at hs;have HT:=hd_ hs;clear hy hs
   by_cases y0:y<0
   ·have bad:Hid (rowAllV zs= -1):=rowAllV_not (fun f=>by have:=f.2.1 j hlt;rw[HY.out]at this;omega)
    go_wp2;go_ret;exact⟨ret_int bad.out.symm,rfl⟩
   by_cases y1:2000 - S<y
   ·have bad:Hid (rowAllV zs= -1):=rowAllV_not (fun f=>by have:=sum_take_le f.bd.1 (j+1);rw[HT.out]at this;have:=f.2.2;omega)
    go_wp2;go_ret;exact⟨ret_int bad.out.symm,rfl⟩
   ·go_wp2
    go_round
    case rel=>exact⟨j+1,S+y,by omega,by go_num,rfl,HT.out,by omega,by omega,fun i hi=>by
          by_cases h:i<j
          · exact HP.out i h
          · obtain rfl:i=j:=by omega
            rw[HY.out];omega⟩
    case measure=>simp[intOf];omega
  ·obtain rfl:j=8:=by omega
   have good:Hid (rowAllV zs=S):=by
    have e:zs.sum=S:=by rw[<-HS.out,List.take_of_length_le (by rw[HL.out];exact Nat.le_refl _)]
    rw[<-e];exact rowAllV_fine ⟨HL.out,HP.out,by rw[e];exact S1⟩
   go_wp2;go_ret;exact⟨ret_int good.out.symm,rfl⟩
theorem rowAll_at (w:World) (v:Value) (zs:List Int) (h:Ints w v zs):
  Calls Tryz.prog 157 #[v] w fun e w'=>e=.returned (.int .i64 (rowAllV zs))/\w=w':=by
 obtain⟨⟨x,c,hx⟩,q⟩:=h.cases
 by_cases h8:zs.length=8
 ·rcases q with q|⟨b,o,c,rfl,hc⟩
  ·omega
  rw[h8]at hc ⊢;exact rowAll_eight b o c zs w h8 hc
 ·rw[rowAllV_not (fun f=>h8 f.1)]
  exact rowAll_len v x _ c w hx h8
theorem roughAll_len (u:Value) (x:Option Addr) (n c:Nat) (w:World) (hu:u=.slice x n c) (h:n≠3):
  Calls Tryz.prog 84 #[.agg #[u]] w fun e w'=>e=.returned (.int .i64 (-1))/\Below w.heap.size w w':=by
 subst hu;have hn:((n:Int)==3)=false:=by simp;omega
 go_enter Tryz.func84,Tryz.ntmps84;go_wp2;go_ret;exact⟨rfl,(Below.refl _ _).alloc lr_ _⟩
theorem roughAll_three (b o cap:Nat) (rs:List (List Int)) (w:World) (h3:rs.length=3) (hcap:3<=cap) (hb:b<w.heap.size)
  (hc:∀i,i<3->∃x,w.cell? ⟨b,o+i,none⟩=some x/\Ints w x (rs.getD i [])):
  Calls Tryz.prog 84 #[.agg #[.slice (some ⟨b,o,none⟩) 3 cap]] w fun e w'=>e=.returned (.int .i64 (allV rs))/\Below w.heap.size w w':=by
 have HV:=hd_ (allV_eq rs);have H3:=hd_ h3;obtain⟨x0,h0,i0⟩:=hc 0 (by omega);obtain⟨x1,h1,i1⟩:=hc 1 (by omega);obtain⟨x2,h2,i2⟩:=hc 2 (by omega);have hA:=(Below.refl w.heap.size w).alloc lr_ (.cells #[.slice (some ⟨b,o,none⟩) 3 cap] 36);have J0:=hd_ (rowAll_at _ x0 _ (i0.below hA lr_));have J1:=hd_ (rowAll_at _ x1 _ (i1.below hA lr_));have J2:=hd_ (rowAll_at _ x2 _ (i2.below hA lr_))
 have HA:=hd_ hA;obtain⟨⟨y0,c0,e0⟩,_⟩:=i0.cases;obtain⟨⟨y1,c1,e1⟩,_⟩:=i1.cases;obtain⟨⟨y2,c2,e2⟩,_⟩:=i2.cases;obtain⟨n0,m0⟩:∃n,n=(rs.getD 0 []).length:=⟨_,rfl⟩
 obtain⟨n1,m1⟩:∃n,n=(rs.getD 1 []).length:=⟨_,rfl⟩
 obtain⟨n2,m2⟩:∃n,n=(rs.getD 2 []).length:=⟨_,rfl⟩
 obtain⟨V0,v0⟩:∃n,n=rowAllV (rs.getD 0 []):=⟨_,rfl⟩
 obtain⟨V1,v1⟩:∃n,n=rowAllV (rs.getD 1 []):=⟨_,rfl⟩
 obtain⟨V2,v2⟩:∃n,n=rowAllV (rs.getD 2 []):=⟨_,rfl⟩
 rw[<-v0, <-v1, <-v2]at HV;rw[<-v0]at J0;rw[<-v1]at J1;rw[<-v2]at J2;rw[<-m0]at e0;rw[<-m1]at e1;rw[<-m2]at e2;subst e0 e1 e2;clear i0 i1 i2 hc hA m0 m1 m2 v0 v1 v2 h3;have cap1:¬cap=1:=by omega
 have cap1':(1:Int)<=(cap:Int):=by omega
 have cap3:(3:Int)<=(cap:Int):=by omega
 have h0':w.cell? ⟨b,o,none⟩=some (.slice y0 n0 c0):=h0;have h2':w.cell? ⟨b,o+1+1,none⟩=some (.slice y2 n2 c2):=h2;go_enter Tryz.func84,Tryz.ntmps84
 go_wp2_with fail
 refine J0.out.mono ?_;rintro e w1 ⟨rfl,rfl⟩
 go_wp2_with fail
 by_cases q1:V1=V0
 ·by_cases q2:V2=V0
  ·subst q1
   subst q2;have fin:=hd_ (HV.out.trans (if_pos ⟨H3.out,rfl,rfl⟩));refine wp_loop_rounds 3 ?_;rw[rounds_succ]
   go_wp2_with fail
   refine J1.out.mono ?_;rintro e w1 ⟨rfl,rfl⟩
   go_wp2_with fail
   rw[rounds_succ]
   go_wp2_with fail
   refine J2.out.mono ?_;rintro e w1 ⟨rfl,rfl⟩
   go_wp2_with fail
   rw[rounds_succ];go_wp2;go_ret;exact⟨ret_int fin.out.symm,HA.out⟩
  ·subst q1
   have fin:=hd_ (HV.out.trans (if_neg (fun h=>q2 h.2.2)));have q2':(V2==V1)=false:=by simpa using q2
   refine wp_loop_rounds 3 ?_;rw[rounds_succ]
   go_wp2_with fail
   refine J1.out.mono ?_;rintro e w1 ⟨rfl,rfl⟩
   go_wp2_with fail
   rw[rounds_succ]
   go_wp2_with fail
   refine J2.out.mono ?_;rintro e w1 ⟨rfl,rfl⟩;go_wp2;go_ret;exact⟨ret_int fin.out.symm,HA.out⟩
 ·have fin:=hd_ (HV.out.trans (if_neg (fun h=>q1 h.2.1)))
  have q1':(V1==V0)=false:=by simpa using q1
  refine wp_loop_rounds 1 ?_;rw[rounds_succ]
  go_wp2_with fail
  refine J1.out.mono ?_;rintro e w1 ⟨rfl,rfl⟩;go_wp2;go_ret;exact⟨ret_int fin.out.symm,HA.out⟩
theorem roughAll_at (w:World) (u:Value) (rs:List (List Int)) (h:Rws w u rs):
  Calls Tryz.prog 84 #[.agg #[u]] w fun e w'=>e=.returned (.int .i64 (allV rs))/\Below w.heap.size w w':=by
 have bad:rs.length≠3->allV rs= -1:=fun h=>by rw[allV_eq,if_neg (fun q=>h q.1)]
 rcases h with ⟨rfl,rfl⟩|⟨b,o,cap,rfl,hcap,_,hb,hc⟩
 ·rw[bad (by simp)]
  exact roughAll_len _ none 0 0 w rfl (by omega)
 ·by_cases h3:rs.length=3
  ·rw[h3]at hc hcap ⊢
   exact roughAll_three b o cap rs w h3 hcap hb hc
  ·rw[bad h3]
   exact roughAll_len _ _ _ _ w rfl h3
theorem allV_ok {rs:List (List Int)} (h:okB rs=true):0<=allV rs/\allV rs<=2000:=by
 obtain⟨_,hg⟩:=(okB_iff rs).1 h;have f:Fine (rs.getD 0 []):=⟨(hg 0 (by omega)).1,fun k hk=>((hg 0 (by omega)).2.1 k hk).1,(hg 0 (by omega)).2.2.2⟩
 unfold allV;rw[if_pos h];exact⟨f.bd.2.1,f.2.2⟩
theorem allV_not {rs:List (List Int)} (h:okB rs=false):allV rs= -1:=by unfold allV;rw[h];rfl
theorem imOk_at (w:World) (u:Value) (rs:List (List Int)) (h:Rws w u rs):
  Calls Tryz.prog 178 #[.agg #[u]] w fun e w'=>e=.returned (.bool (okB rs))/\Below w.heap.size w w':=by
 have hA:=(Below.refl w.heap.size w).alloc lr_ (.cells #[u] 36);have K:=hd_ (roughAll_at _ u rs (h.below hA lr_));obtain⟨⟨x,c,hx⟩,_⟩:=h.cases;have HA:=hd_ hA;obtain⟨n,hn⟩:∃n,n=rs.length:=⟨_,rfl⟩
 rw[<-hn]at hx;subst hx;clear h hA hn;cases hok:okB rs with
 |true=>
  have v0:=(allV_ok hok).1;obtain⟨V,hV⟩:∃V,V=allV rs:=⟨_,rfl⟩
  rw[<-hV]at K v0;clear hV hok;go_enter Tryz.func178,Tryz.ntmps178
  go_wp2_with (go_at_call 84;refine K.out.mono ?_;rintro e w1 ⟨rfl,hb1⟩)
  go_ret;exact⟨rfl,HA.out.trans (hb1.mono HA.out.size)⟩
 |false=>
  rw[allV_not hok]at K;clear hok;go_enter Tryz.func178,Tryz.ntmps178
  go_wp2_with (go_at_call 84;refine K.out.mono ?_;rintro e w1 ⟨rfl,hb1⟩)
  go_ret;exact⟨rfl,HA.out.trans (hb1.mono HA.out.size)⟩
end Go.Proofs.YtcblbdpdbggkbaaGreat
namespace Go.Proofs.YtcblbdpdbggkbaaGreat
open Go.RowKit Go.Sort
theorem ok_form {w:World} {u:Value} {rs:List (List Int)} (h:Rws w u rs) (hok:okB rs=true):
  ∃b o cap,u=.slice (some ⟨b,o,none⟩) 3 cap/\3<=cap/\b<w.heap.size/\
   ∀i,i<3->∃bi oi ci,w.cell? ⟨b,o+i,none⟩=some (.slice (some ⟨bi,oi,none⟩) 8 ci)/\bi<w.heap.size/\∀k,k<8->w.cell? ⟨bi,oi+k,none⟩=some (.int .i64 ((rs.getD i []).getD k 0)):=by
 obtain⟨h3,hg⟩:=(okB_iff rs).1 hok;rcases h with ⟨rfl,rfl⟩|⟨b,o,cap,rfl,hcap,_,hb,hc⟩
 ·simp at h3
 refine⟨b,o,cap,by rw[h3],by omega,hb,fun i hi=>?_⟩;obtain⟨x,hx,hi'⟩:=hc i (by omega);have g:=hg i hi;rcases hi' with ⟨_,h0⟩|⟨bi,oi,ci,rfl,_,_,hbi,hci⟩
 ·have:=g.1;rw[h0]at this;simp at this
 ·rw[g.1]at hx hci
  exact⟨bi,oi,ci,hx,hbi,hci⟩
def atV (rs:List (List Int)) (i:Nat) (t:Int):Int:=(rs.getD i []).getD (place i t).toNat 0
theorem place_nat (i t:Int):∃P:Nat,place i t=P/\P<8/\(place i t).toNat=P:=by
 have:=place_bd i t;exact⟨(place i t).toNat,by omega,by omega,rfl⟩
theorem atV_bd {rs:List (List Int)} (h:okB rs=true) (i:Nat) (hi:i<3) (t:Int):0<=atV rs i t/\atV rs i t<=2000:=by
 obtain⟨_,hg⟩:=(okB_iff rs).1 h;obtain⟨P,_,hP,e⟩:=place_nat i t;unfold atV;rw[e];exact (hg i hi).2.1 P hP
theorem spAll_at (w:World) (u:Value) (rs:List (List Int)) (h:Rws w u rs):
  Calls Tryz.prog 223 #[.agg #[u]] w fun e w'=>e=.returned (.int .i64 (allV rs))/\Below w.heap.size w w':=by
 have hA:=(Below.refl w.heap.size w).alloc lr_ (.cells #[u] 36);have K:=hd_ (spOk_any u rs _ (h.below hA lr_));have HA:=hd_ hA;clear hA;cases hok:okB rs with
 |false=>
  rw[hok]at K;rw[allV_not hok];obtain⟨⟨x,c,hx⟩,_⟩:=h.cases;obtain⟨n,hn⟩:∃n,n=rs.length:=⟨_,rfl⟩
  rw[<-hn]at hx;subst hx;clear h hn hok;go_enter Tryz.func223,Tryz.ntmps223
  go_wp2_with (go_at_call 219;refine K.out.mono ?_;rintro e w1 ⟨rfl,hb1⟩)
  go_ret;exact⟨rfl,HA.out.trans (hb1.mono HA.out.size)⟩
 |true=>
  rw[hok]at K;obtain⟨b,o,cap,rfl,hcap,hb,hrow⟩:=ok_form h hok;obtain⟨b0,o0,c0,e0,l0,r0⟩:=hrow 0 (by omega);obtain⟨_,hg⟩:=(okB_iff rs).1 hok;have fin:Hid (allV rs=(rs.getD 0 []).sum):=if_pos hok;obtain⟨g8,gr,_,_⟩:=hg 0 (by omega);generalize rs.getD 0 []=z0 at g8 gr fin r0;have G8:=hd_ g8;have GR:=hd_ gr;have e0':w.cell? ⟨b,o,none⟩=some (.slice (some ⟨b0,o0,none⟩) 8 c0):=e0;have R0:=hd_ r0
  clear h hrow hok hg g8 gr e0 r0;go_enter Tryz.func223,Tryz.ntmps223
  go_wp2_with fail
  refine K.out.mono ?_;rintro e w1 ⟨rfl,hb1⟩;have L:=HA.out.trans (hb1.mono HA.out.size);have cb:w1.cell? ⟨w.heap.size,0,none⟩=some (.slice (some ⟨b,o,none⟩) 3 cap):=by rw[hb1.cell (by simp)];simp
  rw[<-L.cell (p:=⟨b,o,none⟩) hb]at e0';have KC:Hid (Calls Tryz.prog 224 #[.slice (some ⟨b0,o0,none⟩) 8 c0] w1 fun e w'=>e=.returned (.int .i64 z0.sum)/\w1=w'):=
   l1Sum_at b0 o0 c0 8 z0 w1 G8.out (by omega) GR.out (fun i hi=>by rw[L.cell (p:=⟨b0,o0+i,none⟩) l0];exact R0.out i hi)
  have HL:=hd_ L;clear L hb1
  go_wp2_with (go_at_call 224;refine KC.out.mono ?_;rintro e w' ⟨rfl,rfl⟩)
  go_ret;exact⟨ret_int fin.out.symm,HL.out⟩
end Go.Proofs.YtcblbdpdbggkbaaGreat
namespace Go.Proofs.YtcblbdpdbggkbaaGreat
open Go.RowKit
def mkRow (k:Int) (n:Nat):List Int:=(List.range n).map fun (i:Nat)=>k+(i:Int)
def ahead (rs:List (List Int)):Nat->Nat
 | 0=>0
 |i+1=>ahead rs i+(rs.getD i []).length
theorem mkRow_len (k:Int) (n:Nat):(mkRow k n).length=n:=by simp[mkRow]
theorem mkRow_get (k:Int) (n i:Nat) (h:i<n):(mkRow k n).getD i 0=k+i:=by simp[mkRow,h]
theorem mark_set (k:Int) (zs:List Int) (j:Nat) (hj:j<zs.length):
  (ints (mkRow k j++zs.drop j)).set j (.int .i64 (k+j))=ints (mkRow k (j+1)++zs.drop (j+1)):=by
 apply List.ext_getElem?;intro i;simp only[ints,List.getElem?_set,List.getElem?_map,List.length_map,List.length_append,mkRow_len,List.length_drop];rcases Nat.lt_trichotomy i j with h|h|h
 ·rw[if_neg (by omega),List.getElem?_append_left (by rw[mkRow_len];exact h),List.getElem?_append_left (by rw[mkRow_len];omega)]
  simp[mkRow,h,show i<j+1 by omega]
 ·subst h
  rw[if_pos rfl,if_pos (by omega),List.getElem?_append_left (by rw[mkRow_len];omega)];simp[mkRow]
 ·rw[if_neg (by omega),List.getElem?_append_right (by rw[mkRow_len];omega),List.getElem?_append_right (by rw[mkRow_len];omega),mkRow_len,mkRow_len]
  simp only[List.getElem?_drop];rw[show j+(i - j)=i by omega,show j+1+(i - (j+1))=i by omega]
theorem markIntS_at (w:World) (B g c n:Nat) (zs:List Int) (k:Int) (hl:zs.length=n) (hn:n<=200000000) (hk:0<=k) (hk':k<=1000000000000)
  (h:w.ownsRow B 3 1 (.slice (some ⟨g,0,none⟩) n c) n (ints zs)):
  Calls Tryz.prog 53 #[.slice (some ⟨g,0,none⟩) n c,.int .i64 k] w fun e w'=>
   e=.returned (.int .i64 (k+n))/\w'.ownsRow B 3 1 (.slice (some ⟨g,0,none⟩) n c) n (ints (mkRow k n))/\w.grownBy w' (some g):=by
 have HL:=hd_ hl;have H:=hd_ h;clear hl h;go_enter Tryz.func53,Tryz.ntmps53;go_wp2;go_loopw [1,5] (fun q i wr=>∃j:Nat,j<=n/\i=.int .i64 j/\q=.int .i64 (k+j)/\wr.ownsRow B 3 1 (.slice (some ⟨g,0,none⟩) n c) n (ints (mkRow k j++zs.drop j))/\w.grownBy wr (some g)) (fun _ i _=>n - (intOf i).toNat)
 case atStart=>exact⟨0,Nat.zero_le _,rfl,by go_num,by simpa[mkRow]using H.out,grownBy_refl _ _⟩
 case round=>
  obtain⟨j,hj,rfl,rfl,hown,hg⟩:=hrel;have HO:=hd_ hown;have HG:=hd_ hg;clear hown hg
  by_cases hlt:j<n
  ·have hc:∃x,wr.cell? ⟨g,j,none⟩=some x:=by
    rw[HO.out.cellAt j (by omega)];exact⟨_,List.getElem?_eq_getElem (by rw[ints_len];simp[mkRow_len,HL.out];omega)⟩
   obtain⟨x,hc⟩:=hc;have hf:=HO.out.frozenAt j;have hs:=HO.out.stored j (.int .i64 (k+j));rw[mark_set k zs j (by rw[HL.out];exact hlt)]at hs;have HS:=hd_ hs;clear hs;go_wp2;go_roundw
   case rel=>exact⟨j+1,by omega,by go_num,by rw[show ((j+1:Nat):Int)=(j:Int)+1 by omega];congr 1;omega,HS.out.1,grownBy_trans HG.out HS.out.2⟩
   case measure=>simp[intOf];omega
  ·obtain rfl:j=n:=by omega
   go_wp2;go_ret;have h0:zs.drop j=[]:=List.drop_of_length_le (by rw[HL.out];exact Nat.le_refl _);have ho:=HO.out;rw[h0,List.append_nil]at ho;exact⟨rfl,ho,HG.out⟩
theorem heldIntS_at (w:World) (v:Value) (n:Nat) (k:Int) (hn:n<=200000000) (hk:0<=k) (hk':k<=1000000000000) (h:Ints w v (mkRow k n)):
  Calls Tryz.prog 54 #[v,.int .i64 k] w fun e w'=>e=.returned (.int .i64 (k+n))/\w=w':=by
 obtain⟨⟨x,c,hv⟩,q⟩:=h.cases;rw[mkRow_len]at hv q
 by_cases h0:n=0
 ·subst h0 hv
  go_enter Tryz.func54,Tryz.ntmps54;go_wp2;refine wp_loop_rounds 1 ?_;rw[rounds_succ];go_wp2;go_ret;exact⟨by simp,rfl⟩
 rcases q with q|⟨b,o,c,rfl,hc⟩
 ·omega
 have Hc:=hd_ hc;clear hc h hv;go_enter Tryz.func54,Tryz.ntmps54;go_wp2
 go_loop [1,5] (fun q i=>∃j:Nat,j<=n/\i=.int .i64 j/\q=.int .i64 (k+j)) (fun _ i=>n - (intOf i).toNat)
 case atStart=>exact⟨0,Nat.zero_le _,rfl,by go_num⟩
 case round=>
  obtain⟨j,hj,rfl,rfl⟩:=hrel
  by_cases hlt:j<n
  ·have h1:=Hc.out j hlt
   rw[mkRow_get _ _ _ hlt]at h1;go_wp2
   go_round
   case rel=>exact⟨j+1,by omega,by go_num,by rw[show ((j+1:Nat):Int)=(j:Int)+1 by omega];congr 1;omega⟩
   case measure=>simp[intOf];omega
  ·obtain rfl:j=n:=by omega
   go_wp2;go_ret;exact⟨rfl,rfl⟩
end Go.Proofs.YtcblbdpdbggkbaaGreat
set_option linter.unusedVariables false
namespace Go.Proofs.YtcblbdpdbggkbaaGreat
open Go.RowKit
attribute [local go_sem ↓] Go.wp_at_zero Go.wp_at_succ
theorem news_ints {w:World} {b o n:Nat} {zs:List Int} (hn:zs.length=n) (hc:∀k,k<n->w.cell? ⟨b,o+k,none⟩=some (.int .i64 (zs.getD k 0))):
  ∀j u,(ints zs)[j]? =some u->w.cell? ((⟨b,o,none⟩:Addr).add j)=some u:=fun j u hu=>by
 have hj:j<zs.length:=by
  have:=(List.getElem?_eq_some_iff.1 hu).1;simpa[ints]using this
 have e:(⟨b,o,none⟩:Addr).add j=⟨b,o+j,none⟩:=by unfold Addr.add;split<;>simp_all
 rw[e,hc j (by omega)];rw[ints_get _ _ hj]at hu;exact hu
theorem ints_one (zs:List Int):∀u ∈ ints zs,u.oneCell'=true:=fun u hu=>by
 obtain⟨z,_,rfl⟩:=List.mem_map.1 hu
 rfl
theorem empty_own (w:World) (B:Nat) (hB:B<=w.heap.size):(w.alloc (.cells #[] 3)).ownsRow B 3 1 (.slice (some ⟨w.heap.size,0,none⟩) 0 0) 0 []:=
 World.ownsRow_lit (base:=B) (e:=3) (size:=1) w #[] 0 hB (by simp[maxLen]) (by simp)
theorem row_added_n {w wr w1 w2:World} {S R B W g c gg cap n:Nat} {o o':Obj} {u:Value} {t:TypeId} {rs:List (List Int)} {G C:Nat->Nat} {zs:List Int} (hn:zs.length=n)
  (HO:OwnR wr B u rs G C) (hX:Below wr.heap.size wr w1) (hz:w1.ownsRow B 3 1 (.slice (some ⟨g,0,none⟩) n c) n (ints zs)) (hg:wr.heap.size<=g)
  (hown1:w2.ownsRow B 23 1 (.slice (some ⟨gg,0,none⟩) (rs.length+1) cap) (rs.length+1) ((List.range rs.length).map (rowV rs G C)++[.slice (some ⟨g,0,none⟩) n c]))
  (hgrow:(w1.alloc o').grownBy w2 u.ownBlock) (hat:u.ownBlock=some gg\/gg=w1.heap.size+1)
  (hR:wr.heap[R]? =some (.cells #[u] t (0,0))) (hS:wr.heap[S]? =some o) (hRB:R<B) (hSB:S<B) (hSR:S≠R) (hbl:Below W w wr) (hWR:W<=R) (hWw:W<=w.heap.size):
  ∃G' C',OwnR (w2.setCell ⟨R,0,none⟩ (.slice (some ⟨gg,0,none⟩) (rs.length+1) cap)) B (.slice (some ⟨gg,0,none⟩) (rs.length+1) cap) (rs++[zs]) G' C'/\
   (w2.setCell ⟨R,0,none⟩ (.slice (some ⟨gg,0,none⟩) (rs.length+1) cap)).heap[S]? =some o/\
   (w2.setCell ⟨R,0,none⟩ (.slice (some ⟨gg,0,none⟩) (rs.length+1) cap)).heap[R]? =some (.cells #[.slice (some ⟨gg,0,none⟩) (rs.length+1) cap] t (0,0))/\
   Below W w (w2.setCell ⟨R,0,none⟩ (.slice (some ⟨gg,0,none⟩) (rs.length+1) cap)):=by
 subst hn;exact row_added HO (grownBy_trans (grownBy_below hX) (World.grownBy_alloc w1 o' none)) (hz.alloc _) hg hown1 hgrow (by simpa using hat) hR hS hRB hSB hSR hbl hWR hWw
theorem three_blocks (w:World) (a b c:Obj):(((w.alloc a).alloc b).alloc c).heap[w.heap.size]? =some a/\(((w.alloc a).alloc b).alloc c).heap[w.heap.size+1]? =some b/\(((w.alloc a).alloc b).alloc c).heap[w.heap.size+2]? =some c:=by
 have e1:(w.alloc a).heap.size=w.heap.size+1:=by simp
 have e2:((w.alloc a).alloc b).heap.size=w.heap.size+2:=by simp
 have h1:=heap_alloc_new (w.alloc a) b;have h2:=heap_alloc_new ((w.alloc a).alloc b) c;rw[e1]at h1;rw[e2]at h2;exact⟨(heap_alloc_old _ _ (by omega)).trans ((heap_alloc_old _ _ (by omega)).trans (heap_alloc_new _ _)),(heap_alloc_old _ _ (by omega)).trans h1,h2⟩
theorem box0_keep {wr w1 w2:World} {S R:Nat} {o o':Obj} {x:Value} {row:Option Nat} (h:wr.heap[S]? =some o) (hb:Below wr.heap.size wr w1) (hg:(w1.alloc o').grownBy w2 row) (hr:row≠some S) (hSR:S≠R):
  (w2.setCell ⟨R,0,none⟩ x).heap[S]? =some o:=by
 rw[heap_setCell_other w2 ⟨R,0,none⟩ S _ hSR];have h1:=block_keep h (grownBy_below (row:=none) hb) (by simp);have h2:=block_keep h1 (World.grownBy_alloc w1 o' none) (by simp);exact block_keep h2 hg hr
theorem take_snoc {α:Type} (l:List α) (k:Nat) (d:α) (h:k<l.length):l.take k++[l.getD k d]=l.take (k+1):=by
 rw[List.take_succ_eq_append_getElem h];simp[h]
theorem inner_keep {wr w1:World} {o:Obj} (h:(wr.alloc o).drew.grownBy w1 (some wr.heap.size)):Below wr.heap.size wr w1:=by
 have h1:Below wr.heap.size wr (wr.alloc o).drew:=((Below.refl _ _).alloc lr_ _).drew;exact h1.grown h (by simp) (fun k e=>by cases e;exact Nat.le_refl _)
theorem box_later {w w1:World} {b:Nat} {u:Value} (hb:Below w.heap.size w w1) (c:w.cell? ⟨b,0,none⟩=some u) (f:w.frozen? ⟨b,0,none⟩=false) (l:b<w.heap.size):
  w1.cell? ⟨b,0,none⟩=some u/\w1.frozen? ⟨b,0,none⟩=false/\b<w1.heap.size:=
 ⟨cell_later hb c,by rw[hb.frozen (p:=⟨b,0,none⟩) l];exact f,Nat.lt_of_lt_of_le l hb.size⟩
theorem box_far1 {w w1:World} {o:Obj} {b:Nat} {u:Value} {row:Option Nat} (c:w.cell? ⟨b,0,none⟩=some u) (f:w.frozen? ⟨b,0,none⟩=false) (l:b<w.heap.size)
  (hg:(w.alloc o).grownBy w1 row) (hr:row≠some b):w1.cell? ⟨b,0,none⟩=some u/\w1.frozen? ⟨b,0,none⟩=false:=by
 have l1:b<(w.alloc o).heap.size:=by simp;omega
 rw[hg.cell_far ⟨b,0,none⟩ l1 (Ne.symm hr),hg.frozen_far ⟨b,0,none⟩ l1 (Ne.symm hr)];rw[World.cell?_alloc_past _ _ _ l,World.frozen?_alloc_past _ _ _ l];exact⟨c,f⟩
theorem copy_three (b o cap:Nat) (rs:List (List Int)) (w:World) (hl:rs.length=3) (h8:∀i,i<3->(rs.getD i []).length=8) (hb:b<w.heap.size)
  (hrow:∀i,i<3->∃bi oi ci,w.cell? ⟨b,o+i,none⟩=some (.slice (some ⟨bi,oi,none⟩) 8 ci)/\bi<w.heap.size/\∀k,k<8->w.cell? ⟨bi,oi+k,none⟩=some (.int .i64 ((rs.getD i []).getD k 0))):
  Calls Tryz.prog 218 #[.agg #[.slice (some ⟨b,o,none⟩) 3 cap]] w fun e w'=>∃u G C,e=.returned (.agg #[u])/\OwnR w' w.heap.size u rs G C/\Below w.heap.size w w':=by
 obtain⟨i0,hi,hz0,hz1,hz2⟩:=info_parts info_ints;obtain⟨j0,hj,hy0,hy1,hy2⟩:=info_parts info_int;have HL:=hd_ hl;have H8:=hd_ h8;have HW:=hd_ hrow;clear hl h8 hrow;go_enter Tryz.func218,Tryz.ntmps218;go_wp2;go_loopw [4] (fun i wr=>∃(k:Nat) (qs:List (List Int)) (u:Value) (G C:Nat->Nat),k<=3/\i=.int .i64 k/\qs=rs.take k/\OwnR wr (w.heap.size+3) u qs G C/\
      wr.heap[w.heap.size+1]? =some (.cells #[.slice none 0 0] 36 (0,0))/\wr.heap[w.heap.size+2]? =some (.cells #[u] 36 (0,0))/\Below w.heap.size w wr/\
      wr.heap[w.heap.size]? =some (.cells #[.slice (some ⟨b,o,none⟩) 3 cap] 36 (0,0))) (fun i _=>3 - (intOf i).toNat)
 case atStart=>
  refine⟨0,_,_,_,_,Nat.zero_le _,rfl,rfl,OwnR.nil _ _,?_,?_,(((Below.refl _ _).alloc lr_ _).alloc (by simp) _).alloc (by simp;omega) _,?_⟩
  ·exact (three_blocks w _ _ _).2.1
  ·exact (three_blocks w _ _ _).2.2
  ·exact (three_blocks w _ _ _).1
 case round=>
  obtain⟨k,qs,u,G,C,hk,rfl,hqs,hown,hS,hR,hbl,hbx0⟩:=hrel;obtain⟨hbox,_,l0⟩:=cell_block hbx0;obtain⟨c1,f1,l1⟩:=cell_block hR;have HQ:=hd_ hqs;have hn:qs.length=k:=by rw[hqs];simp[HL.out];omega
  have HN:=hd_ hn;have hn3:qs.length<=3:=by omega
  have hub:u.ownBlock≠some (w.heap.size+2):=fun e=>by have:=(hown.hdr_lt _ e).1;omega
  have hb0:w.heap.size+3<=wr.heap.size:=by omega
  have hub0:u.ownBlock≠some w.heap.size:=fun e=>by have:=(hown.hdr_lt _ e).1;omega
  have HB0:=hd_ hbx0;have HU0:=hd_ hub0;have HO:=hd_ hown;have HS:=hd_ hS;have HR:=hd_ hR;have HB:=hd_ hbl;clear hown hS hR hbl hn hqs hbx0 hub0
  by_cases hlt:k<3
  ·obtain⟨bi,oi,ci,e1,li,hc⟩:=HW.out k hlt
   rw[<-HB.out.cell (p:=⟨b,o+k,none⟩) hb]at e1;have hzl:=H8.out k hlt;obtain⟨zs,hzs⟩:∃zs,zs=rs.getD k []:=⟨_,rfl⟩
   rw[<-hzs]at hc hzl;have hc':∀i,i<8->wr.cell? ⟨bi,oi+i,none⟩=some (.int .i64 (zs.getD i 0)):=fun i hi=>by rw[HB.out.cell (p:=⟨bi,oi+i,none⟩) li];exact hc i hi
   have hbi:bi<wr.heap.size:=by have:=HB.out.size;omega
   have HC:=hd_ hc';have HZ:=hd_ hzs;have HZL:=hd_ hzl;clear hc hc' hzs hzl;have lb:b<wr.heap.size:=by have:=HB.out.size;omega
   have ki0:(0:Int)<=(k:Int):=by omega
   have ki3:(k:Int)<3:=by omega
   go_wp2_with fail
   go_region_law ((first
        |(refine step_append_lies _ (by rfl) _ _ _ (by rfl) (w.heap.size+3) 3 j0 _ 1 8 Tryz.underlying23 hj hy0 hy1 hy2 rfl (by omega) (.slice (some ⟨wr.heap.size,0,none⟩) 0 0) 0 [] (by rfl) ((empty_own wr (w.heap.size+3) hb0).drew)
            ⟨bi,oi,none⟩ 8 ci (ints zs) (by rfl) (by rw[ints_len,HZL.out]) (news_ints HZL.out (fun i hi=>(World.cell?_alloc_lt (h:=hbi) ..).trans (HC.out i hi))) (ints_one zs)
            (by omega) (by unfold maxLen;omega) (by omega) (by simp;omega) (wr.heap.size+1) (by simp) ?_;intro g1 cap1 w1 hown1 hgrow1 hat1 hlt1;have hbw:=inner_keep hgrow1;have HO1:=HO.out.below hbw lr_;have d1:=box_later hbw c1 f1 l1;obtain⟨d2,d3,d4⟩:=d1;have HBW:=hd_ hbw;have HQ1:=hd_ HO1;have HW1:=hd_ hown1;have hsz:=hbw.size;clear hbw HO1 hown1 hgrow1)
        |(refine step_append_lies _ (by rfl) _ _ _ (by rfl) (w.heap.size+3) 23 i0 _ 1 24 Tryz.underlying34 hi hz0 hz1 hz2 rfl (by omega) u qs.length _ (by rfl) (HQ1.out.hdr.alloc _)
            ⟨w1.heap.size,0,none⟩ 1 1 [.slice (some ⟨g1,0,none⟩) 8 cap1] (by rfl) (by rfl) (World.news_of_block (cs:=#[.slice (some ⟨g1,0,none⟩) 8 cap1]) (t:=23) (fr:=(0,0)) (heap_alloc_new w1 _)) (by simp[Value.oneCell'])
            (by omega) (by unfold maxLen;omega) (by omega) (by simp;omega) (w1.heap.size+1) (by simp) ?_;intro gg cap2 w2 hown2 hgrow2 hat2 hlt2;have d5:=box_far1 d2 d3 d4 hgrow2 hub;obtain⟨d6,d7⟩:=d5)))
   all_goals
    have hg1:wr.heap.size<=g1:=by
     rcases hat1 with h|h
     ·simp[Value.ownBlock]at h;omega
     ·omega
    have fin:=row_added_n HZL.out HO.out HBW.out HW1.out hg1 hown2 hgrow2 hat2 HR.out HS.out (by omega) (by omega) (by omega) HB.out (by omega) lr_;have hbx:=box0_keep (x:=.slice (some ⟨gg,0,none⟩) (qs.length+1) cap2) HB0.out HBW.out hgrow2 HU0.out (show w.heap.size≠w.heap.size+2 by omega);have FIN:=hd_ fin;have HBX:=hd_ hbx;clear fin hbx hown2 hgrow2 hat2 hg1 hat1;go_wp2;go_roundw
    case rel=>
     obtain⟨G',C',q1,q2,q3,q4⟩:=FIN.out;exact⟨k+1,qs++[zs],_,G',C',by omega,by go_num,by rw[HQ.out,HZ.out];exact take_snoc _ _ _ (by rw[HL.out];exact hlt),q1,q2,q3,q4,HBX.out⟩
    case measure=>simp[intOf];omega
  ·obtain⟨s1,s2,s3⟩:=cell_block HS.out
   have h3:qs.length=3:=by rw[HN.out];omega
   obtain⟨g,cap',hu,hg1,hg2⟩:=World.ownsRow.form HO.out.hdr (by omega);subst hu;have e3:qs=rs:=by rw[HQ.out,List.take_of_length_le (by rw[HL.out];omega)]
   have hw:=HO.out.grown (grownBy_setCell wr ⟨w.heap.size+1,0,none⟩ (.slice (some ⟨g,0,none⟩) 3 cap')) (fun k e=>by simp at e;omega);have hb:=HB.out.setCell (p:=⟨w.heap.size+1,0,none⟩) (by simp) (.slice (some ⟨g,0,none⟩) 3 cap');rw[h3]at hw c1;rw[e3]at hw;have H1:=hd_ hw;have H2:=hd_ hb;have H3:=hd_ h3;clear hw hb h3 e3 hub hn3;go_wp2
   have hr:=World.cell?_setCell_same wr ⟨w.heap.size+1,0,none⟩ (.slice (some ⟨g,0,none⟩) 3 cap') s1;exact bodyPost_ret (v:=.agg #[.slice (some ⟨g,0,none⟩) 3 cap']) (by simp[results,Tryz.results218,go_sem,hr]) rfl ⟨_,G,C,rfl,H1.out.base (by omega),H2.out⟩
theorem copy_at (w:World) (u:Value) (rs:List (List Int)) (h:Rws w u rs) (hok:okB rs=true):
  Calls Tryz.prog 218 #[.agg #[u]] w fun e w'=>∃x c G C,e=.returned (.agg #[.slice x 3 c])/\OwnR w' w.heap.size (.slice x 3 c) rs G C/\Below w.heap.size w w':=by
 obtain⟨h3,hg⟩:=(okB_iff rs).1 hok;obtain⟨b,o,cap,rfl,_,hb,hrow⟩:=ok_form h hok;refine (copy_three b o cap rs w h3 (fun i hi=>(hg i hi).1) hb hrow).mono fun e w' ⟨u',G,C,he,ho,hb'⟩=>?_
 obtain⟨⟨x,c,hx⟩,_⟩:=ho.rws.cases;rw[h3]at hx;subst hx;exact⟨x,c,G,C,he,ho,hb'⟩
end Go.Proofs.YtcblbdpdbggkbaaGreat
namespace Go.Proofs.YtcblbdpdbggkbaaGreat
open Go.RowKit Go.Sort
def addRow (rs:List (List Int)) (t n:Int) (i:Nat):List Int:=(rs.getD i []).set (place i t).toNat (atV rs i t+n)
def addV (rs:List (List Int)) (t n:Int):List (List Int):=[addRow rs t n 0,addRow rs t n 1,addRow rs t n 2]
def addB (rs:List (List Int)) (t n:Int):Bool:=okB rs&&decide (0<=t)&&decide (t<64)&&decide (0<=n)&&decide (n<=2000 - allV rs)
theorem addB_iff (rs:List (List Int)) (t n:Int):addB rs t n=true↔okB rs=true/\0<=t/\t<64/\0<=n/\n<=2000 - allV rs:=by
 simp[addB,and_assoc]
theorem addV_get (rs:List (List Int)) (t n:Int) (i:Nat) (hi:i<3):(addV rs t n).getD i []=addRow rs t n i:=by
 rcases (by omega:i=0\/i=1\/i=2)with rfl|rfl|rfl<;>rfl
theorem eq_three {rs qs:List (List Int)} (h:rs.length=3) (h':qs.length=3) (e:∀i,i<3->rs.getD i []=qs.getD i []):rs=qs:=by
 have:=eq_of_get (d:=[]) h h' e;simpa using this
theorem spAdd_no (w:World) (u:Value) (rs:List (List Int)) (t n:Int) (h:Rws w u rs) (hno:addB rs t n=false):
  Calls Tryz.prog 310 #[.agg #[u],.int .i64 t,.int .i64 n] w fun e w'=>e=.returned (.tuple #[.agg #[.slice none 0 0],.bool false])/\Below w.heap.size w w':=by
 have hA:=((Below.refl w.heap.size w).alloc lr_ (.cells #[u] 36)).alloc (by simp) (.cells #[.slice none 0 0] 36);have K:=hd_ (spOk_any u rs _ (h.below hA lr_));have HA:=hd_ hA;clear hA;cases hok:okB rs with
 |false=>
  rw[hok]at K;obtain⟨⟨x,c,hx⟩,_⟩:=h.cases;obtain⟨m,hn⟩:∃n,n=rs.length:=⟨_,rfl⟩
  rw[<-hn]at hx;subst hx;clear h hn hok hno;go_enter Tryz.func310,Tryz.ntmps310
  go_wp2_with fail
  refine K.out.mono ?_;rintro e w1 ⟨rfl,hb1⟩;have sz:=hb1.size;simp only[World.size_alloc]at sz;have cb:w1.cell? ⟨w.heap.size+1,0,none⟩=some (.slice none 0 0):=by rw[hb1.cell (by simp)];simp[go_sem]
  have fb:w1.frozen? ⟨w.heap.size+1,0,none⟩=false:=by rw[hb1.frozen (by simp)];simp[go_sem]
  have L:=hd_ (HA.out.trans (hb1.mono HA.out.size));clear hb1;go_wp2;have hr:=World.cell?_setCell_same w1 ⟨w.heap.size+1,0,none⟩ (.slice none 0 0) cb;exact bodyPost_ret (v:=.tuple #[.agg #[.slice none 0 0],.bool false]) (by simp[results,Tryz.results310,go_sem,hr]) rfl ⟨rfl,L.out.setCell (by simp) _⟩
 |true=>
  rw[hok]at K;obtain⟨b,o,cap,rfl,hcap,hb,hrow⟩:=ok_form h hok;obtain⟨b0,o0,c0,e0,l0,r0⟩:=hrow 0 (by omega);obtain⟨_,hg⟩:=(okB_iff rs).1 hok;have fin:Hid (allV rs=(rs.getD 0 []).sum):=if_pos hok;obtain⟨g8,gr,_,_⟩:=hg 0 (by omega);have av:=allV_ok hok;generalize rs.getD 0 []=z0 at g8 gr fin r0;obtain⟨S,hS⟩:∃S,S=allV rs:=⟨_,rfl⟩
  rw[<-hS]at av fin;have hno':(t<0\/63<t)\/(0<=t/\t<=63/\(n<0\/2000 - S<n)):=by
   apply Classical.byContradiction;intro hh;have:addB rs t n=true:=(addB_iff rs t n).2 ⟨hok,by omega,by omega,by omega,by rw[<-hS];omega⟩;rw[this]at hno;cases hno
  have G8:=hd_ g8;have GR:=hd_ gr;have e0':w.cell? ⟨b,o,none⟩=some (.slice (some ⟨b0,o0,none⟩) 8 c0):=e0;have R0:=hd_ r0;clear h hrow hok hg g8 gr e0 r0 hno hS;rcases hno' with ht|⟨t0,t1,hn⟩
  ·go_enter Tryz.func310,Tryz.ntmps310
   go_wp2_with fail
   refine K.out.mono ?_;rintro e w1 ⟨rfl,hb1⟩;have sz:=hb1.size;simp only[World.size_alloc]at sz;have cb:w1.cell? ⟨w.heap.size+1,0,none⟩=some (.slice none 0 0):=by rw[hb1.cell (by simp)];simp[go_sem]
   have fb:w1.frozen? ⟨w.heap.size+1,0,none⟩=false:=by rw[hb1.frozen (by simp)];simp[go_sem]
   have L:=hd_ (HA.out.trans (hb1.mono HA.out.size));clear hb1
   go_wp2_with (go_at_call 66;refine (l6In_no _ _ _ _ ht).mono ?_;rintro e w' ⟨rfl,rfl⟩)
   have hr:=World.cell?_setCell_same w1 ⟨w.heap.size+1,0,none⟩ (.slice none 0 0) cb;exact bodyPost_ret (v:=.tuple #[.agg #[.slice none 0 0],.bool false]) (by simp[results,Tryz.results310,go_sem,hr]) rfl ⟨rfl,L.out.setCell (by simp) _⟩
  ·go_enter Tryz.func310,Tryz.ntmps310
   go_wp2_with fail
   refine K.out.mono ?_;rintro e w1 ⟨rfl,hb1⟩;have sz:=hb1.size;simp only[World.size_alloc]at sz;have cb:w1.cell? ⟨w.heap.size+1,0,none⟩=some (.slice none 0 0):=by rw[hb1.cell (by simp)];simp[go_sem]
   have ca:w1.cell? ⟨w.heap.size,0,none⟩=some (.slice (some ⟨b,o,none⟩) 3 cap):=by rw[hb1.cell (by simp;omega)];simp[go_sem]
   have fb:w1.frozen? ⟨w.heap.size+1,0,none⟩=false:=by rw[hb1.frozen (by simp)];simp[go_sem]
   have hL:=HA.out.trans (hb1.mono HA.out.size);rw[<-hL.cell (p:=⟨b,o,none⟩) hb]at e0';have KC:Hid (Calls Tryz.prog 224 #[.slice (some ⟨b0,o0,none⟩) 8 c0] w1 fun e w'=>e=.returned (.int .i64 S)/\w1=w'):=by
    rw[fin.out];exact l1Sum_at b0 o0 c0 8 z0 w1 G8.out (by omega) GR.out (fun i hi=>by rw[hL.cell (p:=⟨b0,o0+i,none⟩) l0];exact R0.out i hi)
   have L:=hd_ hL;clear hb1 hL
   go_wp2_with (go_at_call 66;refine (l6In_yes _ _ _ _ t0 t1).mono ?_;rintro e w' ⟨rfl,rfl⟩;clear t1)
   refine KC.out.mono ?_;rintro e w' ⟨rfl,rfl⟩
   go_wp2_with (go_at_call 66;refine (l6In_no _ _ _ _ hn).mono ?_;rintro e w' ⟨rfl,rfl⟩)
   have hr:=World.cell?_setCell_same w1 ⟨w.heap.size+1,0,none⟩ (.slice none 0 0) cb;exact bodyPost_ret (v:=.tuple #[.agg #[.slice none 0 0],.bool false]) (by simp[results,Tryz.results310,go_sem,hr]) rfl ⟨rfl,L.out.setCell (by simp) _⟩
theorem OwnR.hdrCell {w:World} {B g c n:Nat} {rs:List (List Int)} {G C:Nat->Nat} (h:OwnR w B (.slice (some ⟨g,0,none⟩) n c) rs G C) (hn:rs.length=n) (i:Nat) (hi:i<n):
  w.cell? ⟨g,i,none⟩=some (.slice (some ⟨G i,0,none⟩) (rs.getD i []).length (C i)):=by
 have hh:=h.hdr;rw[hn]at hh;have:=hh.cellAt i (by omega);rw[this,List.getElem?_map,List.getElem?_range hi]
 rfl
theorem OwnR.rowCell {w:World} {B:Nat} {u:Value} {rs:List (List Int)} {G C:Nat->Nat} (h:OwnR w B u rs G C) (i k:Nat) (hi:i<rs.length) (hk:k<(rs.getD i []).length):
  w.cell? ⟨G i,k,none⟩=some (.int .i64 ((rs.getD i []).getD k 0))/\w.frozen? ⟨G i,k,none⟩=false:=by
 have hr:=h.row i hi;exact⟨by rw[World.ownsRow.cellAt hr k (by omega),ints_get _ _ hk],World.ownsRow.frozenAt hr k⟩
theorem spAdd_yes (w:World) (u:Value) (rs:List (List Int)) (t n:Int) (h:Rws w u rs) (hyes:addB rs t n=true):
  Calls Tryz.prog 310 #[.agg #[u],.int .i64 t,.int .i64 n] w fun e w'=>∃x c G C,e=.returned (.tuple #[.agg #[.slice x 3 c],.bool true])/\OwnR w' w.heap.size (.slice x 3 c) (addV rs t n) G C/\Below w.heap.size w w':=by
 obtain⟨hok,t0,t1,n0,n1⟩:=(addB_iff rs t n).1 hyes;have hA:=((Below.refl w.heap.size w).alloc lr_ (.cells #[u] 36)).alloc (by simp) (.cells #[.slice none 0 0] 36);have K:=hd_ (spOk_any u rs _ (h.below hA lr_));have HA:=hd_ hA;rw[hok]at K;have HRW:=hd_ h;obtain⟨b,o,cap,rfl,hcap,hb,hrow⟩:=ok_form h hok;obtain⟨b0,o0,c0,e0,l0,r0⟩:=hrow 0 (by omega);obtain⟨h3,hg⟩:=(okB_iff rs).1 hok
 have fin:Hid (allV rs=(rs.getD 0 []).sum):=if_pos hok;obtain⟨g8,gr,_,_⟩:=hg 0 (by omega);have av:=allV_ok hok;have HG:=hd_ hg;have H3:=hd_ h3;have HOK:=hd_ hok;have t1':t<=63:=by omega
 generalize hz:rs.getD 0 []=z0 at g8 gr fin r0;clear hz;obtain⟨S,hS⟩:∃S,S=allV rs:=⟨_,rfl⟩
 rw[<-hS]at av fin n1;have nU:n<=2000:=by omega
 have G8:=hd_ g8;have GR:=hd_ gr;have e0':w.cell? ⟨b,o,none⟩=some (.slice (some ⟨b0,o0,none⟩) 8 c0):=e0;have R0:=hd_ r0;clear h hrow hok hg g8 gr e0 r0 hS hyes hA h3;go_enter Tryz.func310,Tryz.ntmps310
 go_wp2_with fail
 refine K.out.mono ?_;rintro e w1 ⟨rfl,hb1⟩;have sz:=hb1.size;simp only[World.size_alloc]at sz;have cb:w1.cell? ⟨w.heap.size+1,0,none⟩=some (.slice none 0 0):=by rw[hb1.cell (by simp)];simp[go_sem]
 have ca:w1.cell? ⟨w.heap.size,0,none⟩=some (.slice (some ⟨b,o,none⟩) 3 cap):=by rw[hb1.cell (by simp;omega)];simp[go_sem]
 have fb:w1.frozen? ⟨w.heap.size+1,0,none⟩=false:=by rw[hb1.frozen (by simp)];simp[go_sem]
 have hL:=HA.out.trans (hb1.mono HA.out.size);rw[<-hL.cell (p:=⟨b,o,none⟩) hb]at e0';have KC:Hid (Calls Tryz.prog 224 #[.slice (some ⟨b0,o0,none⟩) 8 c0] w1 fun e w'=>e=.returned (.int .i64 S)/\w1=w'):=by
  rw[fin.out];exact l1Sum_at b0 o0 c0 8 z0 w1 G8.out (by omega) GR.out (fun i hi=>by rw[hL.cell (p:=⟨b0,o0+i,none⟩) l0];exact R0.out i hi)
 have KCopy:=hd_ (copy_at w1 _ rs (HRW.out.below hL lr_) HOK.out);have L:=hd_ hL;clear hb1 hL
 go_wp2_with (go_at_call 66;refine (l6In_yes _ _ _ _ t0 t1').mono ?_;rintro e w' ⟨rfl,rfl⟩;clear t1')
 refine KC.out.mono ?_;rintro e w' ⟨rfl,rfl⟩
 go_wp2_with (go_at_call 66;refine (l6In_yes _ _ _ _ n0 n1).mono ?_;rintro e w' ⟨rfl,rfl⟩;clear n1)
 go_wp2_with fail
 refine KCopy.out.mono ?_;rintro e w2 ⟨x,c,G,C,rfl,ho,hb2⟩;obtain⟨g,c',hu,hg1,hg2⟩:=World.ownsRow.form ho.hdr (by rw[H3.out];omega);rw[H3.out]at hu;obtain⟨rfl,rfl⟩:x=some ⟨g,0,none⟩/\c=c':=by simpa using hu
 clear hu;have cb2:=cell_later hb2 cb;have fb2:w2.frozen? ⟨w.heap.size+1,0,none⟩=false:=by rw[hb2.frozen (p:=⟨w.heap.size+1,0,none⟩) (by simp;omega)];exact fb
 have sz2:=hb2.size;have L2:=hd_ (L.out.trans (hb2.mono L.out.size));have HO2:=hd_ ho;clear ho hb2 cb fb ca e0';have hz:=fun (i:Nat) (hi:i<3)=>(HG.out i hi).1
 have H8:=hd_ hz;have AB:=hd_ (fun (i:Nat) (hi:i<3)=>atV_bd HOK.out i hi t);clear hz;go_wp2;go_loopw [9] (fun i wr=>∃(k:Nat) (qs:List (List Int)),k<=3/\i=.int .i64 k/\qs.length=3/\(∀j,j<3->qs.getD j []=if j<k then addRow rs t n j else rs.getD j [])/\
      OwnR wr w1.heap.size (.slice (some ⟨g,0,none⟩) 3 c) qs G C/\wr.cell? ⟨w2.heap.size,0,none⟩=some (.slice (some ⟨g,0,none⟩) 3 c)/\
      wr.cell? ⟨w.heap.size+1,0,none⟩=some (.slice none 0 0)/\wr.frozen? ⟨w.heap.size+1,0,none⟩=false/\Below w.heap.size w wr/\w2.heap.size<wr.heap.size) (fun i _=>3 - (intOf i).toNat)
 case atStart=>
  have l1:w.heap.size+1<w2.heap.size:=by omega
  exact⟨0,rs,Nat.zero_le _,rfl,H3.out,fun j hj=>by simp,HO2.out.below ((Below.refl _ _).alloc lr_ _) lr_,by simp,by rw[World.cell?_alloc_past _ _ _ l1];exact cb2,
      by rw[World.frozen?_alloc_past _ _ _ l1];exact fb2,L2.out.alloc L2.out.size _,by simp⟩
 case round=>
  obtain⟨k,qs,hk,rfl,hq3,hqs,hown,hbox,cr,fr,hbl,hlt2⟩:=hrel;have HQ3:=hd_ hq3;have HQ:=hd_ hqs;have HO:=hd_ hown;have HB:=hd_ hbl;clear hq3 hqs hown hbl
  by_cases hlt:k<3
  ·obtain⟨P,hP,hP8,hPn⟩:=place_nat (k:Int) t
   have hqk:qs.getD k []=rs.getD k []:=by rw[HQ.out k hlt,if_neg (by omega)]
   have hc1:=HO.out.hdrCell HQ3.out k hlt;rw[hqk,H8.out k hlt]at hc1;have hc2:=HO.out.rowCell k P (by rw[HQ3.out];exact hlt) (by rw[hqk,H8.out k hlt];exact hP8);have ha:(qs.getD k []).getD P 0=atV rs k t:=by rw[hqk];unfold atV;rw[hPn]
   rw[ha]at hc2;obtain⟨a0,a1⟩:=AB.out k hlt;have K1:Hid (∀W,Calls Tryz.prog 320 #[.int .i64 k,.int .i64 t] W fun e w'=>e=.returned (.int .i64 P)/\Below W.heap.size W w'):=fun W=>by
    rw[<-hP];exact l1Place_yes k t W (by omega) (by omega) t0 t1
   have hst:∀w4:World,Below wr.heap.size wr w4->∃qs',qs'.length=3/\(∀j,j<3->qs'.getD j []=if j<k+1 then addRow rs t n j else rs.getD j [])/\
     OwnR (w4.setCell ⟨G k,P,none⟩ (.int .i64 (atV rs k t+n))) w1.heap.size (.slice (some ⟨g,0,none⟩) 3 c) qs' G C/\w4.grownBy (w4.setCell ⟨G k,P,none⟩ (.int .i64 (atV rs k t+n))) (some (G k)):=fun w4 hw4=>by
    have q:=(HO.out.below hw4 lr_).store k P (atV rs k t+n) (by rw[HQ3.out];exact hlt) (by rw[hqk,H8.out k hlt];exact hP8);refine⟨_,by simpa using HQ3.out,fun j hj=>?_,q.1,q.2⟩
    by_cases e:j=k
    ·subst e
     rw[if_pos (by omega)];unfold addRow;rw[hPn,hqk];simp[HQ3.out,hlt]
    ·have e1:(qs.set k ((qs.getD k []).set P (atV rs k t+n))).getD j []=qs.getD j []:=by simp[Ne.symm e]
     rw[e1,HQ.out j hj]
     by_cases e2:j<k
     ·rw[if_pos e2,if_pos (by omega)]
     ·rw[if_neg e2,if_neg (by omega)]
   have HST:=hd_ hst;have HGk:Hid (w1.heap.size<=G k/\G k<w2.heap.size):=⟨((HO.out.row k (by rw[HQ3.out];exact hlt)).lt (G k) rfl).1,((HO2.out.row k (by rw[H3.out];exact hlt)).lt (G k) rfl).2⟩
   obtain⟨a,hA⟩:∃a,a=atV rs k t:=⟨_,rfl⟩
   rw[<-hA]at hc2 HST a0 a1;obtain⟨hc2,hf2⟩:=hc2;have lgk:G k<wr.heap.size:=World.block_lt_of_cell? _ _ hc2;have rb:=cell_regrown hbox;have r1:=cell_regrown hc1;have r2:=cell_regrown hc2;have k0:(0:Int)<=(k:Int):=by omega
   have k3:(k:Int)<3:=by omega
   have P8:(P:Int)<8:=by omega
   have wr1:IntKind.i64.wrap (a+n)=a+n:=IntWalk.i64_in _ (by omega);clear hP hPn hst hA ha hqk hP8;go_wp2;refine wp_region_last (C:=fun w'=>∃p:Regrown,w'=grow (redrawn wr p.d) p.os) 21 _ rfl rfl rfl (by kernel_rfl) (by kernel_rfl) (by kernel_rfl) (by kernel_rfl) (by kernel_rfl) ⟨⟨wr.drawn+1,#[]⟩,by rw[grow_empty];rfl⟩ ?_;simp only[List.take_succ_cons,List.take_zero]
   repeat (refine boxed_step (fun K hK=>?_);go_simp;first|(refine hK _ ?_;clear hK K)|(apply Exists.intro;refine⟨fun _=>?_,hK _ ?_⟩;(exact Calls.regrown_of (K1.out _));clear hK K))
   refine boxed_nil ?_;intro _ hw';obtain⟨⟨dq,oq⟩,hw''⟩:=hw';subst hw'';have hb_w4:=below_regrown wr dq oq;obtain⟨w4,hq_w4⟩:∃x,x=grow (redrawn wr dq) oq:=⟨_,rfl⟩
   rw[<-hq_w4]at hb_w4 ⊢;clear hq_w4;have d1:=cell_later hb_w4 hc2;have d2:w4.frozen? ⟨G k,P,none⟩=false:=by rw[hb_w4.frozen (p:=⟨G k,P,none⟩) lgk];exact hf2
   have HB4:=hd_ hb_w4;clear hb_w4 rb r1 r2 wr1 hc1 hc2;go_wp2;go_roundw
   case rel=>
    obtain⟨qs',q1,q2,q3,q4⟩:=HST.out w4 HB4.out;have lw2:w2.heap.size<w4.heap.size:=by have:=HB4.out.size;omega
    have e2:G k≠w2.heap.size:=by have:=HGk.out.2;omega
    have e1:G k≠w.heap.size+1:=by have:=HGk.out.1;omega
    refine⟨k+1,qs',by omega,by go_num,q1,q2,q3,?_,?_,?_,?_,by simpa using lw2⟩
    ·exact (World.cell?_setCell_other (h:=fun h=>by injection h with h;exact e2 h) ..).trans (cell_later HB4.out hbox)
    ·exact (World.cell?_setCell_other (h:=fun h=>by injection h with h;exact e1 h) ..).trans (cell_later HB4.out cr)
    ·rw[World.frozen?_setCell,HB4.out.frozen (p:=⟨w.heap.size+1,0,none⟩) (by simp;omega)];exact fr
    ·exact (HB.out.trans (HB4.out.mono HB.out.size)).setCell (by have:=HGk.out.1;simp;omega) _
   case measure=>simp[intOf];omega
  ·have hq:qs=addV rs t n:=eq_three HQ3.out rfl (fun i hi=>by rw[HQ.out i hi,if_pos (by omega),addV_get _ _ _ _ hi])
   have HE:=hd_ hq;clear hq;go_wp2;have hr:=World.cell?_setCell_same wr ⟨w.heap.size+1,0,none⟩ (.slice (some ⟨g,0,none⟩) 3 c) cr;have hw:=HO.out.grown (grownBy_setCell wr ⟨w.heap.size+1,0,none⟩ (.slice (some ⟨g,0,none⟩) 3 c)) (fun k e=>by simp at e;omega);rw[HE.out]at hw
   exact bodyPost_ret (v:=.tuple #[.agg #[.slice (some ⟨g,0,none⟩) 3 c],.bool true]) (by simp[results,Tryz.results310,go_sem,hr]) rfl
    ⟨_,_,G,C,rfl,hw.base (by omega),HB.out.setCell (by simp) _⟩
end Go.Proofs.YtcblbdpdbggkbaaGreat
set_option linter.unusedVariables false
namespace Go.Proofs.YtcblbdpdbggkbaaGreat
open Go.RowKit Go.Sort
def addRows (x y:List Int):List Int:=(List.range 8).map fun k=>x.getD k 0+y.getD k 0
def joinV (ra rb:List (List Int)):List (List Int):=[addRows (ra.getD 0 []) (rb.getD 0 []),addRows (ra.getD 1 []) (rb.getD 1 []),addRows (ra.getD 2 []) (rb.getD 2 [])]
def joinB (ra rb:List (List Int)):Bool:=okB ra&&okB rb&&decide (allV ra+allV rb<=2000)
theorem joinB_iff (ra rb:List (List Int)):joinB ra rb=true↔okB ra=true/\okB rb=true/\allV ra+allV rb<=2000:=by simp[joinB,and_assoc]
theorem joinV_get (ra rb:List (List Int)) (i:Nat) (hi:i<3):(joinV ra rb).getD i []=addRows (ra.getD i []) (rb.getD i []):=by
 rcases (by omega:i=0\/i=1\/i=2)with rfl|rfl|rfl<;>rfl
theorem addRows_len (x y:List Int):(addRows x y).length=8:=by simp[addRows]
theorem addRows_get (x y:List Int) (k:Nat) (h:k<8):(addRows x y).getD k 0=x.getD k 0+y.getD k 0:=by
 simp only[addRows,List.getD_eq_getElem?_getD,List.getElem?_map,List.getElem?_range h,Option.map_some,Option.getD_some]
theorem allV_sum {rs:List (List Int)} (h:okB rs=true):(rs.getD 0 []).sum=allV rs:=(if_pos h).symm
theorem plus_at (a b:Int) (w:World) (h: -1000000<=a/\a<=1000000) (h': -1000000<=b/\b<=1000000):
  Calls Tryz.prog 285 #[.int .i64 a,.int .i64 b] w fun e w'=>e=.returned (.int .i64 (a+b))/\w=w':=by
 obtain⟨h1,h2⟩:=h;obtain⟨h3,h4⟩:=h';go_enter Tryz.func285,Tryz.ntmps285;go_wp2;go_ret;exact⟨rfl,rfl⟩
theorem joinedInt_at (w:World) (F:Value) (b o c b' o' c':Nat) (x y:List Int) (hF:F=.func (.func 285) #[] #[]) (hb:b<w.heap.size) (hb':b'<w.heap.size)
  (hx:∀k,k<8->(0<=x.getD k 0/\x.getD k 0<=2000)/\w.cell? ⟨b,o+k,none⟩=some (.int .i64 (x.getD k 0)))
  (hy:∀k,k<8->(0<=y.getD k 0/\y.getD k 0<=2000)/\w.cell? ⟨b',o'+k,none⟩=some (.int .i64 (y.getD k 0))):
  Calls Tryz.prog 284 #[.slice (some ⟨b,o,none⟩) 8 c,.slice (some ⟨b',o',none⟩) 8 c',F] w fun e w'=>
   e=.returned (.slice (some ⟨w.heap.size,0,none⟩) 8 8)/\w'.ownsRow w.heap.size 3 1 (.slice (some ⟨w.heap.size,0,none⟩) 8 8) 8 (ints (addRows x y))/\Below w.heap.size w w':=by
 have m8:=make8;have HX:=hd_ hx;have HY:=hd_ hy;subst hF;clear hx hy;go_enter Tryz.func284,Tryz.ntmps284;go_wp2;go_loopw [14] (fun i wr=>∃(m:Nat) (zs:List Int),m<=8/\i=.int .i64 m/\zs.length=8/\(∀p,p<8->zs.getD p 0=if p<m then x.getD p 0+y.getD p 0 else 0)/\
      wr.ownsRow w.heap.size 3 1 (.slice (some ⟨w.heap.size,0,none⟩) 8 8) 8 (ints zs)/\Below w.heap.size w wr/\w.heap.size<wr.heap.size) (fun i _=>8 - (intOf i).toNat)
 case atStart=>
  have h0:=make_own w w.heap.size zeros lr_ (by simp[zeros,maxLen]);refine⟨0,zeros,Nat.zero_le _,rfl,rfl,fun p hp=>?_,h0,(Below.refl _ _).alloc lr_ _,by simp⟩;rcases (by omega:p=0\/p=1\/p=2\/p=3\/p=4\/p=5\/p=6\/p=7)with rfl|rfl|rfl|rfl|rfl|rfl|rfl|rfl<;>rfl
 case round=>
  obtain⟨m,zs,hm,rfl,hl,hz,hown,hbl,hlt⟩:=hrel;have HL:=hd_ hl;have HZ:=hd_ hz;have HO:=hd_ hown;have HB:=hd_ hbl;clear hl hz hown hbl
  by_cases hmt:m<8
  ·obtain⟨⟨x0,x1⟩,xc⟩:=HX.out m hmt
   obtain⟨⟨y0,y1⟩,yc⟩:=HY.out m hmt;rw[<-HB.out.cell (p:=⟨b,o+m,none⟩) hb]at xc;rw[<-HB.out.cell (p:=⟨b',o'+m,none⟩) hb']at yc;obtain⟨v,hc⟩:∃v,wr.cell? ⟨w.heap.size,m,none⟩=some v:=by
    rw[HO.out.cellAt m (by omega)];exact⟨_,ints_get _ _ (by rw[HL.out];exact hmt)⟩
   have hf:=HO.out.frozenAt m;obtain⟨a,hA⟩:∃a,a=x.getD m 0:=⟨_,rfl⟩
   obtain⟨d,hD⟩:∃a,a=y.getD m 0:=⟨_,rfl⟩
   rw[<-hA]at xc x0 x1;rw[<-hD]at yc y0 y1;have KP:Hid (∀W,Calls Tryz.prog 285 #[.int .i64 a,.int .i64 d] W fun e w'=>e=.returned (.int .i64 (a+d))/\Below W.heap.size W w'):=fun W=>
    (plus_at a d W (by omega) (by omega)).mono fun _ _ ⟨he,hw⟩=>⟨he,by subst hw;exact Below.refl _ _⟩
   have hst:∀w4:World,Below wr.heap.size wr w4->∃zs',zs'.length=8/\(∀p,p<8->zs'.getD p 0=if p<m+1 then x.getD p 0+y.getD p 0 else 0)/\
     (w4.setCell ⟨w.heap.size,m,none⟩ (.int .i64 (a+d))).ownsRow w.heap.size 3 1 (.slice (some ⟨w.heap.size,0,none⟩) 8 8) 8 (ints zs'):=fun w4 hw4=>by
    have h1:=HO.out.kept (grownBy_below (row:=none) hw4) (.inr (by simp[Value.ownBlock]));have h2:=(h1.stored m (.int .i64 (a+d))).1;refine⟨zs.set m (a+d),by simpa using HL.out,fun p hp=>?_,by simpa[ints,List.map_set]using h2⟩
    by_cases e:p=m
    ·subst e
     rw[if_pos (by omega),hA,hD,List.getD_eq_getElem?_getD,List.getElem?_set_self (by rw[HL.out];exact hp)]
     rfl
    ·have e1:(zs.set m (a+d)).getD p 0=zs.getD p 0:=by simp[Ne.symm e]
     rw[e1,HZ.out p hp]
     by_cases e2:p<m
     ·rw[if_pos e2,if_pos (by omega)]
     ·rw[if_neg e2,if_neg (by omega)]
   have HST:=hd_ hst;have rb1:=cell_regrown xc;have rb2:=cell_regrown yc;have m0:(0:Int)<=(m:Int):=by omega
   have m8':(m:Int)<8:=by omega
   clear hst hA hD;go_wp2;refine wp_region_last (C:=fun w'=>∃p:Regrown,w'=grow (redrawn wr p.d) p.os) 13 _ rfl rfl rfl (by kernel_rfl) (by kernel_rfl) (by kernel_rfl) (by kernel_rfl) (by kernel_rfl) ⟨⟨wr.drawn+1,#[]⟩,by rw[grow_empty];rfl⟩ ?_;simp only[List.take_succ_cons,List.take_zero]
   repeat (refine boxed_step (fun K hK=>?_);go_simp;first|(refine hK _ ?_;clear hK K)|(apply Exists.intro;refine⟨fun _=>?_,hK _ ?_⟩;(with_reducible exact Calls.regrown_of (KP.out _));clear hK K))
   refine boxed_nil ?_;intro _ hw';obtain⟨⟨dq,oq⟩,hw''⟩:=hw';subst hw'';have hb_w4:=below_regrown wr dq oq;obtain⟨w4,hq_w4⟩:∃x,x=grow (redrawn wr dq) oq:=⟨_,rfl⟩
   rw[<-hq_w4]at hb_w4 ⊢;clear hq_w4;have d1:=cell_later hb_w4 hc;have d2:w4.frozen? ⟨w.heap.size,m,none⟩=false:=by rw[hb_w4.frozen (p:=⟨w.heap.size,m,none⟩) hlt];exact hf
   have HB4:=hd_ hb_w4;clear hb_w4 rb1 rb2 hc xc yc;go_wp2;go_roundw
   case rel=>
    obtain⟨zs',q1,q2,q3⟩:=HST.out w4 HB4.out;exact⟨m+1,zs',by omega,by go_num,q1,q2,q3,(HB.out.trans (HB4.out.mono HB.out.size)).setCell lr_ _,by have:=HB4.out.size;simp;omega⟩
   case measure=>simp[intOf];omega
  ·obtain rfl:m=8:=by omega
   have fin:Hid (zs=addRows x y):=by
    have:=eq_of_get (d:=0) HL.out (addRows_len x y) (fun p hp=>by rw[HZ.out p hp,if_pos hp,addRows_get _ _ _ hp]);exact (of_decide_eq_true this:zs=addRows x y)
   go_wp2;go_ret;have ho:=HO.out;rw[fin.out]at ho;exact⟨rfl,ho,HB.out⟩
theorem rowsJoined_at (w:World) (b o c b' o' c':Nat) (x y:List Int) (hb:b<w.heap.size) (hb':b'<w.heap.size)
  (hx:∀k,k<8->(0<=x.getD k 0/\x.getD k 0<=2000)/\w.cell? ⟨b,o+k,none⟩=some (.int .i64 (x.getD k 0)))
  (hy:∀k,k<8->(0<=y.getD k 0/\y.getD k 0<=2000)/\w.cell? ⟨b',o'+k,none⟩=some (.int .i64 (y.getD k 0))):
  Calls Tryz.prog 248 #[.slice (some ⟨b,o,none⟩) 8 c,.slice (some ⟨b',o',none⟩) 8 c'] w fun e w'=>
   e=.returned (.slice (some ⟨w.heap.size,0,none⟩) 8 8)/\w'.ownsRow w.heap.size 3 1 (.slice (some ⟨w.heap.size,0,none⟩) 8 8) 8 (ints (addRows x y))/\Below w.heap.size w w':=by
 have K:=hd_ (joinedInt_at w _ b o c b' o' c' x y rfl hb hb' hx hy);clear hx hy;go_enter Tryz.func248,Tryz.ntmps248
 go_wp2_with fail
 refine K.out.mono ?_;rintro e w1 ⟨rfl,ho,hb1⟩;go_wp2;go_ret;exact⟨rfl,ho,hb1⟩
structure Rowed (w:World) (L:Nat) (ra rb:List (List Int)) (m:Nat) (G:Nat->Nat):Prop where
 hdr:∃cur,w.heap[L]? =some (.cells cur 23 (0,0))/\cur.size=3/\∀j,j<m->cur[j]? =some (.slice (some ⟨G j,0,none⟩) 8 8)
 row:∀j,j<m->w.ownsRow (L+1) 3 1 (.slice (some ⟨G j,0,none⟩) 8 8) 8 (ints (addRows (ra.getD j []) (rb.getD j [])))
 apart:∀i j,i<m->j<m->i≠j->G i≠G j
theorem Rowed.own {w:World} {L:Nat} {ra rb:List (List Int)} {G:Nat->Nat} (h:Rowed w L ra rb 3 G):OwnR w L (.slice (some ⟨L,0,none⟩) 3 3) (joinV ra rb) G (fun _=>8):=by
 obtain⟨cur,h1,h2,h3⟩:=h.hdr;have l8:∀i,i<3->((joinV ra rb).getD i []).length=8:=fun i hi=>by rw[joinV_get _ _ _ hi,addRows_len]
 refine⟨⟨by simp[joinV],.inr ⟨L,3,cur,rfl,Nat.le_refl _,h1,by simp[joinV],by simp[maxLen],by simpa using h2,?_⟩⟩,fun i hi=>?_,fun i hi=>?_,fun i j hi hj=>h.apart i j hi hj⟩
 ·apply List.ext_getElem?
  intro i
  by_cases hi:i<3
  ·have e:rowV (joinV ra rb) G (fun _=>8) i=.slice (some ⟨G i,0,none⟩) 8 8:=by unfold rowV;rw[l8 i hi]
   rw[List.getElem?_map,List.getElem?_range (by simpa[joinV]using hi),List.getElem?_take,if_pos (by simp[joinV];omega)];simp only[Array.getElem?_toList,Option.map_some,e];exact h3 i hi
  ·rw[List.getElem?_eq_none (by simp[joinV];omega),List.getElem?_eq_none (by simp[joinV];omega)]
 ·have hi':i<3:=by simpa[joinV]using hi
  have e:rowV (joinV ra rb) G (fun _=>8) i=.slice (some ⟨G i,0,none⟩) 8 8:=by unfold rowV;rw[l8 i hi']
  rw[e,l8 i hi',joinV_get _ _ _ hi'];exact ownsRow_base (h.row i hi') (by omega)
 ·have hi':i<3:=by simpa[joinV]using hi
  have:=((h.row i hi').lt (G i) rfl).1;simp[Value.ownBlock];omega
theorem Rowed.step {w w1:World} {L m g:Nat} {ra rb:List (List Int)} {G:Nat->Nat} (h:Rowed w L ra rb m G) (hm:m<3) (hb:Below w.heap.size w w1) (hg:w.heap.size<=g) (hL:L<w.heap.size)
  (ho:w1.ownsRow (L+1) 3 1 (.slice (some ⟨g,0,none⟩) 8 8) 8 (ints (addRows (ra.getD m []) (rb.getD m [])))):
  Rowed (w1.setCell ⟨L,m,none⟩ (.slice (some ⟨g,0,none⟩) 8 8)) L ra rb (m+1) (fun j=>if j<m then G j else g):=by
 obtain⟨cur,h1,h2,h3⟩:=h.hdr;have h1':w1.heap[L]? =some (.cells cur 23 (0,0)):=by rw[hb.block L hL];exact h1
 have lt:∀j,j<m->G j<w.heap.size/\L+1<=G j:=fun j hj=>by have:=(h.row j hj).lt (G j) rfl;exact⟨this.2,this.1⟩
 have hgs:=grownBy_setCell w1 ⟨L,m,none⟩ (.slice (some ⟨g,0,none⟩) 8 8);refine⟨⟨_,heap_setCell_same w1 L m cur _ _ h1',by simpa using h2,fun j hj=>?_⟩,fun j hj=>?_,fun i j hi hj hij=>?_⟩
 ·rw[Array.getElem?_setIfInBounds]
  by_cases e:j<m
  ·rw[if_neg (by omega),if_pos e];exact h3 j e
  ·obtain rfl:j=m:=by omega
   rw[if_pos rfl,if_pos (by omega),if_neg (by omega)]
 ·by_cases e:j<m
  ·simp only[if_pos e]
   have:=(h.row j e).kept (grownBy_below (row:=none) hb) (.inr (by simp[Value.ownBlock]));exact this.kept hgs (.inr (by have:=(lt j e).2;simp[Value.ownBlock];omega))
  ·obtain rfl:j=m:=by omega
   simp only[if_neg e];exact ho.kept hgs (.inr (by simp[Value.ownBlock];omega))
 ·show (if i<m then G i else g)≠(if j<m then G j else g)
  by_cases e1:i<m<;>by_cases e2:j<m
  ·rw[if_pos e1,if_pos e2];exact h.apart i j e1 e2 hij
  ·rw[if_pos e1,if_neg e2];have:=(lt i e1).1;omega
  ·rw[if_neg e1,if_pos e2];have:=(lt j e2).1;omega
  ·omega
theorem later_free {w w':World} {b i:Nat} (hb:Below w.heap.size w.drew w') (h:w.frozen? ⟨b,i,none⟩=false) (hl:b<w.heap.size):w'.frozen? ⟨b,i,none⟩=false:=by
 rw[hb.frozen (p:=⟨b,i,none⟩) hl];exact h
theorem below_of_drew {w w':World} {B:Nat} (hb:Below B w.drew w'):Below B w w':=⟨hb.os,hb.tape,hb.output,hb.size,hb.block⟩
theorem joinedRows_at (w:World) (F:Value) (b o c b' o' c':Nat) (ra rb:List (List Int)) (hF:F=.func (.func 248) #[] #[]) (hb:b<w.heap.size) (hb':b'<w.heap.size)
  (ha:∀i,i<3->∃bi oi ci,w.cell? ⟨b,o+i,none⟩=some (.slice (some ⟨bi,oi,none⟩) 8 ci)/\bi<w.heap.size/\∀k,k<8->w.cell? ⟨bi,oi+k,none⟩=some (.int .i64 ((ra.getD i []).getD k 0)))
  (hr:∀i,i<3->∃bi oi ci,w.cell? ⟨b',o'+i,none⟩=some (.slice (some ⟨bi,oi,none⟩) 8 ci)/\bi<w.heap.size/\∀k,k<8->w.cell? ⟨bi,oi+k,none⟩=some (.int .i64 ((rb.getD i []).getD k 0)))
  (ga:∀i,i<3->∀k,k<8->0<=(ra.getD i []).getD k 0/\(ra.getD i []).getD k 0<=2000) (gb:∀i,i<3->∀k,k<8->0<=(rb.getD i []).getD k 0/\(rb.getD i []).getD k 0<=2000):
  Calls Tryz.prog 247 #[.slice (some ⟨b,o,none⟩) 3 c,.slice (some ⟨b',o',none⟩) 3 c',F] w fun e w'=>
   ∃G,e=.returned (.slice (some ⟨w.heap.size,0,none⟩) 3 3)/\OwnR w' w.heap.size (.slice (some ⟨w.heap.size,0,none⟩) 3 3) (joinV ra rb) G (fun _=>8)/\Below w.heap.size w w':=by
 have m3:=make3;have HA:=hd_ ha;have HR:=hd_ hr;have GA:=hd_ ga;have GB:=hd_ gb;subst hF;clear ha hr ga gb;go_enter Tryz.func247,Tryz.ntmps247;go_wp2;go_loopw [14] (fun i wr=>∃(m:Nat) (G:Nat->Nat),m<=3/\i=.int .i64 m/\Rowed wr w.heap.size ra rb m G/\Below w.heap.size w wr/\w.heap.size<wr.heap.size) (fun i _=>3 - (intOf i).toNat)
 case atStart=>
  exact⟨0,fun _=>0,Nat.zero_le _,rfl,⟨⟨_,heap_alloc_new w _,rfl,fun j h=>absurd h (Nat.not_lt_zero j)⟩,fun j h=>absurd h (Nat.not_lt_zero j),fun i j h=>absurd h (Nat.not_lt_zero i)⟩,(Below.refl _ _).alloc lr_ _,by simp⟩
 case round=>
  obtain⟨m,G,hm,rfl,hrow,hbl,hlt⟩:=hrel;have HW:=hd_ hrow;have HB:=hd_ hbl;clear hrow hbl
  by_cases hmt:m<3
  ·obtain⟨b1,o1,c1,e1,l1,r1⟩:=HA.out m hmt
   obtain⟨b2,o2,c2,e2,l2,r2⟩:=HR.out m hmt;rw[<-HB.out.cell (p:=⟨b,o+m,none⟩) hb]at e1;rw[<-HB.out.cell (p:=⟨b',o'+m,none⟩) hb']at e2;have KC:Hid (Calls Tryz.prog 248 #[.slice (some ⟨b1,o1,none⟩) 8 c1,.slice (some ⟨b2,o2,none⟩) 8 c2] wr.drew fun e w'=>
          e=.returned (.slice (some ⟨wr.heap.size,0,none⟩) 8 8)/\w'.ownsRow wr.heap.size 3 1 (.slice (some ⟨wr.heap.size,0,none⟩) 8 8) 8 (ints (addRows (ra.getD m []) (rb.getD m [])))/\Below wr.heap.size wr.drew w'):=
    rowsJoined_at wr.drew b1 o1 c1 b2 o2 c2 _ _ (by have:=HB.out.size;simp;omega) (by have:=HB.out.size;simp;omega)
     (fun k hk=>⟨GA.out m hmt k hk,by rw[World.cell?_drew,HB.out.cell (p:=⟨b1,o1+k,none⟩) l1];exact r1 k hk⟩)
     (fun k hk=>⟨GB.out m hmt k hk,by rw[World.cell?_drew,HB.out.cell (p:=⟨b2,o2+k,none⟩) l2];exact r2 k hk⟩)
   obtain⟨v,hc,hf⟩:∃v,wr.cell? ⟨w.heap.size,m,none⟩=some v/\wr.frozen? ⟨w.heap.size,m,none⟩=false:=by
    obtain⟨cur,h1,h2,_⟩:=HW.out.hdr;refine⟨cur[m]'(by omega),?_,by simp[World.frozen?,h1]⟩;simp[World.cell?,h1,show m<cur.size by omega]
   have m0:(0:Int)<=(m:Int):=by omega
   have m3':(m:Int)<3:=by omega
   clear r1 r2;go_wp2
   go_region_with (go_at_call 248;refine KC.out.mono ?_;rintro e w4 ⟨rfl,ho,hb4⟩;have d1:=cell_later (below_of_drew hb4) hc;have d2:=later_free hb4 hf hlt;have HO4:=hd_ ho;have HB4:=hd_ hb4;clear ho hb4)
   all_goals
    have hs:=HW.out.step hmt (below_of_drew HB4.out) lr_ hlt (ownsRow_base HO4.out (by omega));have HS:=hd_ hs;clear hs;go_wp2;go_roundw
    case rel=>exact⟨m+1,_,by omega,by go_num,HS.out,(HB.out.trans ((below_of_drew HB4.out).mono HB.out.size)).setCell lr_ _,by have:=HB4.out.size;simp at this ⊢;omega⟩
    case measure=>simp[intOf];omega
  ·obtain rfl:m=3:=by omega
   go_wp2;go_ret;exact⟨G,rfl,HW.out.own,HB.out⟩
theorem roughAll_regrown (w:World) (u:Value) (rs:List (List Int)) (h:Rws w u rs) (d:Nat) (os:Array Obj):
  Calls Tryz.prog 84 #[.agg #[u]] (grow (redrawn w d) os) fun e w''=>e=.returned (.int .i64 (allV rs))/\∃p:Regrown,w''=grow (redrawn w p.d) p.os:=
 Calls.regrown_of (roughAll_at _ u rs (h.below (below_regrown w d os) lr_))
theorem joinB_all (ra rb:List (List Int)):joinB ra rb=true↔0<=allV ra/\0<=allV rb/\allV ra+allV rb<=2000:=by
 rw[joinB_iff]
 constructor
 ·rintro⟨h1,h2,h3⟩
  exact⟨(allV_ok h1).1,(allV_ok h2).1,h3⟩
 ·rintro⟨h1,h2,h3⟩
  refine⟨?_,?_,h3⟩
  ·cases h:okB ra with
   |true=>rfl
   |false=>rw[allV_not h]at h1;omega
  ·cases h:okB rb with
   |true=>rfl
   |false=>rw[allV_not h]at h2;omega
theorem allV_bd (rs:List (List Int)): -1<=allV rs/\allV rs<=2000:=by
 cases h:okB rs with
 |true=>have:=allV_ok h;omega
 |false=>rw[allV_not h];omega
theorem imJoin_no (w:World) (u v:Value) (ra rb:List (List Int)) (ha:Rws w u ra) (hb:Rws w v rb) (hno:joinB ra rb=false):
  Calls Tryz.prog 195 #[.agg #[u],.agg #[v]] w fun e w'=>e=.returned (.tuple #[.agg #[.slice none 0 0],.bool false])/\Below w.heap.size w w':=by
 obtain⟨w0,hw0⟩:∃x,x=((w.alloc (.cells #[u] 36)).alloc (.cells #[v] 36)).alloc (.cells #[.slice none 0 0] 36):=⟨_,rfl⟩
 have hA:Below w.heap.size w w0:=by rw[hw0];exact (((Below.refl w.heap.size w).alloc lr_ _).alloc (by simp) _).alloc (by simp;omega) _
 have tb:=three_blocks w (.cells #[u] 36) (.cells #[v] 36) (.cells #[.slice none 0 0] 36);rw[<-hw0]at tb;obtain⟨ca,_,la⟩:=cell_block tb.1;obtain⟨cb,_,lb⟩:=cell_block tb.2.1;obtain⟨cr,fr,lr⟩:=cell_block tb.2.2;have KA:=hd_ (roughAll_regrown w0 u ra (ha.below hA lr_));have KB:=hd_ (roughAll_regrown w0 v rb (hb.below hA lr_));have HA:=hd_ hA
 have hcase:allV ra<0\/(¬allV ra<0/\allV rb<0)\/(¬allV ra<0/\¬allV rb<0/\2000<allV ra+allV rb):=by
  apply Classical.byContradiction;intro hh;have:=(joinB_all ra rb).2 (by omega);rw[this]at hno;cases hno
 have b1:=allV_bd ra;have b2:=allV_bd rb;obtain⟨⟨x,c,hx⟩,_⟩:=ha.cases;obtain⟨⟨y,d,hy⟩,_⟩:=hb.cases;obtain⟨n,hn⟩:∃n,n=ra.length:=⟨_,rfl⟩
 obtain⟨m,hm⟩:∃n,n=rb.length:=⟨_,rfl⟩
 rw[<-hn]at hx;rw[<-hm]at hy;subst hx hy;generalize allV ra=Sa at *;generalize allV rb=Sb at *;clear ha hb hn hm hno hA tb;have ra':=cell_regrown ca;have rb':=cell_regrown cb;go_enter Tryz.func195,Tryz.ntmps195;go_wp2;rw[<-hw0];clear hw0;refine boxed_region (by kernel_rfl) (by kernel_rfl) ?_
 repeat (refine boxed_step (fun K hK=>?_);go_simp;first|(refine hK _ ?_;clear hK K)|(apply Exists.intro;refine⟨fun _=>?_,hK _ ?_⟩;(first|(with_reducible exact KA.out _ _)|(with_reducible exact KB.out _ _));clear hK K))
 refine boxed_nil ?_;intro _ hw';obtain⟨⟨dq,oq⟩,hw''⟩:=hw';subst hw'';have hb_w1:=below_regrown w0 dq oq;obtain⟨w1,hq_w1⟩:∃x,x=grow (redrawn w0 dq) oq:=⟨_,rfl⟩
 rw[<-hq_w1]at hb_w1 ⊢;clear hq_w1;have cr1:=cell_later hb_w1 cr;have fr1:w1.frozen? ⟨w.heap.size+2,0,none⟩=false:=by rw[hb_w1.frozen (p:=⟨w.heap.size+2,0,none⟩) lr];exact fr
 have L1:=hd_ (HA.out.trans (hb_w1.mono HA.out.size));clear hb_w1 ra' rb';have hr:=hd_ (World.cell?_setCell_same w1 ⟨w.heap.size+2,0,none⟩ (.slice none 0 0) cr1);rcases hcase with h|⟨h,h2⟩|⟨h,h2,h3⟩
 all_goals
  go_wp2;have hr:=hr.out;exact bodyPost_ret (v:=.tuple #[.agg #[.slice none 0 0],.bool false]) (by simp[results,Tryz.results195,go_sem,hr]) rfl ⟨rfl,L1.out.setCell (by simp;omega) _⟩
theorem imJoin_yes (w:World) (u v:Value) (ra rb:List (List Int)) (ha:Rws w u ra) (hb:Rws w v rb) (hyes:joinB ra rb=true):
  Calls Tryz.prog 195 #[.agg #[u],.agg #[v]] w fun e w'=>∃x c G C,e=.returned (.tuple #[.agg #[.slice x 3 c],.bool true])/\OwnR w' w.heap.size (.slice x 3 c) (joinV ra rb) G C/\Below w.heap.size w w':=by
 obtain⟨hoka,hokb,_⟩:=(joinB_iff ra rb).1 hyes;obtain⟨h1,h2,h3⟩:=(joinB_all ra rb).1 hyes;obtain⟨w0,hw0⟩:∃x,x=((w.alloc (.cells #[u] 36)).alloc (.cells #[v] 36)).alloc (.cells #[.slice none 0 0] 36):=⟨_,rfl⟩
 have hA:Below w.heap.size w w0:=by rw[hw0];exact (((Below.refl w.heap.size w).alloc lr_ _).alloc (by simp) _).alloc (by simp;omega) _
 have tb:=three_blocks w (.cells #[u] 36) (.cells #[v] 36) (.cells #[.slice none 0 0] 36);rw[<-hw0]at tb;obtain⟨ca,_,la⟩:=cell_block tb.1;obtain⟨cb,_,lb⟩:=cell_block tb.2.1;obtain⟨cr,fr,lr⟩:=cell_block tb.2.2;have KA:=hd_ (roughAll_regrown w0 u ra (ha.below hA lr_));have KB:=hd_ (roughAll_regrown w0 v rb (hb.below hA lr_));have HA:=hd_ hA;obtain⟨_,hga⟩:=(okB_iff ra).1 hoka
 obtain⟨_,hgb⟩:=(okB_iff rb).1 hokb;obtain⟨ba,oa,ka,rfl,_,hba,hrowa⟩:=ok_form ha hoka;obtain⟨bb,ob,kb,rfl,_,hbb,hrowb⟩:=ok_form hb hokb;have GA:=hd_ (fun (i:Nat) (hi:i<3)=>(hga i hi).2.1);have GB:=hd_ (fun (i:Nat) (hi:i<3)=>(hgb i hi).2.1);have RA:=hd_ hrowa;have RB:=hd_ hrowb;have n1:¬allV ra<0:=by omega
 have n2:¬allV rb<0:=by omega
 have n3:¬ 2000<allV ra+allV rb:=by omega
 generalize allV ra=Sa at *;generalize allV rb=Sb at *;clear ha hb hyes hA tb hrowa hrowb hga hgb hoka hokb h1 h2 h3;have ra':=cell_regrown ca;have rb':=cell_regrown cb;go_enter Tryz.func195,Tryz.ntmps195;go_wp2;rw[<-hw0];clear hw0;refine boxed_region (by kernel_rfl) (by kernel_rfl) ?_
 repeat (refine boxed_step (fun K hK=>?_);go_simp;first|(refine hK _ ?_;clear hK K)|(apply Exists.intro;refine⟨fun _=>?_,hK _ ?_⟩;(first|(with_reducible exact KA.out _ _)|(with_reducible exact KB.out _ _));clear hK K))
 refine boxed_nil ?_;intro _ hw';obtain⟨⟨dq,oq⟩,hw''⟩:=hw';subst hw'';have hb_w1:=below_regrown w0 dq oq;obtain⟨w1,hq_w1⟩:∃x,x=grow (redrawn w0 dq) oq:=⟨_,rfl⟩
 rw[<-hq_w1]at hb_w1 ⊢;clear hq_w1;have ca1:=cell_later hb_w1 ca;have cb1:=cell_later hb_w1 cb;have cr1:=cell_later hb_w1 cr;have fr1:w1.frozen? ⟨w.heap.size+2,0,none⟩=false:=by rw[hb_w1.frozen (p:=⟨w.heap.size+2,0,none⟩) lr];exact fr
 have hL:=HA.out.trans (hb_w1.mono HA.out.size);have sz:=hb_w1.size;have KJ:=hd_ (joinedRows_at w1 _ ba oa ka bb ob kb ra rb rfl (by have:=hL.size;omega) (by have:=hL.size;omega)
    (fun i hi=>by
      obtain⟨bi,oi,ci,e,l,r⟩:=RA.out i hi
      exact⟨bi,oi,ci,by rw[hL.cell (p:=⟨ba,oa+i,none⟩) hba];exact e,Nat.lt_of_lt_of_le l hL.size,fun k hk=>by rw[hL.cell (p:=⟨bi,oi+k,none⟩) l];exact r k hk⟩)
    (fun i hi=>by
      obtain⟨bi,oi,ci,e,l,r⟩:=RB.out i hi
      exact⟨bi,oi,ci,by rw[hL.cell (p:=⟨bb,ob+i,none⟩) hbb];exact e,Nat.lt_of_lt_of_le l hL.size,fun k hk=>by rw[hL.cell (p:=⟨bi,oi+k,none⟩) l];exact r k hk⟩) GA.out GB.out)
 have L1:=hd_ hL;clear hb_w1 ra' rb' hL ca cb cr fr
 go_wp2_with fail
 refine KJ.out.mono ?_;rintro e w2 ⟨G,rfl,ho,hb2⟩;have cr2:=cell_later hb2 cr1;have fr2:w2.frozen? ⟨w.heap.size+2,0,none⟩=false:=by rw[hb2.frozen (p:=⟨w.heap.size+2,0,none⟩) (by simp;omega)];exact fr1
 have hw:=ho.grown (grownBy_setCell w2 ⟨w.heap.size+2,0,none⟩ (.slice (some ⟨w1.heap.size,0,none⟩) 3 3)) (fun k e=>by simp at e;omega);have H1:=hd_ hw;have L2:=hd_ (L1.out.trans (hb2.mono L1.out.size));clear ho hb2 hw;go_wp2;have hr:=World.cell?_setCell_same w2 ⟨w.heap.size+2,0,none⟩ (.slice (some ⟨w1.heap.size,0,none⟩) 3 3) cr2
 exact bodyPost_ret (v:=.tuple #[.agg #[.slice (some ⟨w1.heap.size,0,none⟩) 3 3],.bool true]) (by simp[results,Tryz.results195,go_sem,hr]) rfl
  ⟨_,_,G,_,rfl,H1.out.base L1.out.size,L2.out.setCell (by simp;omega) _⟩
def oneRow (t n:Int) (i:Nat):List Int:=zeros.set (place i t).toNat n
def oneV (t n:Int):List (List Int):=[oneRow t n 0,oneRow t n 1,oneRow t n 2]
theorem oneV_get (t n:Int) (i:Nat) (hi:i<3):(oneV t n).getD i []=oneRow t n i:=by
 rcases (by omega:i=0\/i=1\/i=2)with rfl|rfl|rfl<;>rfl
theorem oneRow_len (t n:Int) (i:Nat):(oneRow t n i).length=8:=by simp[oneRow,zeros]
theorem zeros_get (k:Nat):zeros.getD k 0=0:=by
 by_cases h:k<8
 ·rcases (by omega:k=0\/k=1\/k=2\/k=3\/k=4\/k=5\/k=6\/k=7)with rfl|rfl|rfl|rfl|rfl|rfl|rfl|rfl<;>rfl
 ·rw[List.getD_eq_getElem?_getD,List.getElem?_eq_none (by simp[zeros];omega)];rfl
theorem set_get (zs:List Int) (p k:Nat) (n:Int) (hp:p<zs.length):(zs.set p n).getD k 0=if k=p then n else zs.getD k 0:=by
 by_cases h:k=p
 ·subst h
  rw[if_pos rfl,List.getD_eq_getElem?_getD,List.getElem?_set_self hp];rfl
 ·rw[if_neg h]
  simp[Ne.symm h]
theorem one_sum (p:Nat) (hp:p<8) (n:Int):(zeros.set p n).sum=n:=by
 rcases (by omega:p=0\/p=1\/p=2\/p=3\/p=4\/p=5\/p=6\/p=7)with rfl|rfl|rfl|rfl|rfl|rfl|rfl|rfl<;>simp[zeros]
theorem oneRow_sum (t n:Int) (i:Nat):(oneRow t n i).sum=n:=by
 obtain⟨P,_,hP,e⟩:=place_nat i t;unfold oneRow;rw[e];exact one_sum P hP n
theorem oneRow_get (t n:Int) (i k:Nat):(oneRow t n i).getD k 0=if k=(place i t).toNat then n else 0:=by
 obtain⟨P,_,hP,e⟩:=place_nat i t;unfold oneRow;rw[e,set_get _ _ _ _ (by simpa[zeros]using hP),zeros_get]
theorem oneV_ok (t n:Int) (h:0<=n/\n<=2000):okB (oneV t n)=true:=by
 rw[okB_iff];refine⟨rfl,fun i hi=>?_⟩;unfold Good;rw[oneV_get _ _ _ hi,oneV_get _ _ 0 (by omega),oneRow_sum,oneRow_sum];refine⟨oneRow_len _ _ _,fun k _=>?_,rfl,h.2⟩;rw[oneRow_get]
 split<;>omega
theorem oneV_all (t n:Int) (h:0<=n/\n<=2000):allV (oneV t n)=n:=by
 rw[<-allV_sum (oneV_ok t n h),oneV_get _ _ 0 (by omega),oneRow_sum]
theorem oneV_bad (t n:Int) (h:n<0\/2000<n):okB (oneV t n)=false:=by
 refine okB_false (.inr ⟨0,by omega,fun g=>?_⟩);have h1:=g.2.1;have h2:=g.2.2.2;rw[oneV_get _ _ 0 (by omega)]at h1 h2;rw[oneRow_sum]at h2;obtain⟨P,_,hP,e⟩:=place_nat (0:Nat) t;have h3:=h1 P hP;rw[oneRow_get,if_pos e.symm]at h3;omega
theorem join_one (rs:List (List Int)) (t n:Int) (h0:0<=t) (h1:t<64):joinB rs (oneV t n)=addB rs t n:=by
 rw[Bool.eq_iff_iff,joinB_iff,addB_iff]
 by_cases h:0<=n/\n<=2000
 ·rw[oneV_all t n h,oneV_ok t n h]
  constructor
  ·rintro⟨a,_,b⟩;exact⟨a,h0,h1,h.1,by omega⟩
  ·rintro⟨a,_,_,_,b⟩;exact⟨a,rfl,by omega⟩
 ·rw[oneV_bad t n (by omega)]
  constructor
  ·rintro⟨_,b,_⟩;cases b
  ·rintro⟨a,_,_,b,c⟩;have:=allV_ok a;omega
theorem joinV_one (rs:List (List Int)) (t n:Int) (hok:okB rs=true):joinV rs (oneV t n)=addV rs t n:=by
 obtain⟨_,hg⟩:=(okB_iff rs).1 hok;refine eq_three rfl rfl fun i hi=>?_
 rw[joinV_get _ _ _ hi,addV_get _ _ _ _ hi,oneV_get _ _ _ hi];obtain⟨P,_,hP,e⟩:=place_nat i t;have h8:=(hg i hi).1;refine of_decide_eq_true (eq_of_get (d:=0) (n:=8) (addRows_len _ _) (by simp only[addRow,List.length_set];exact h8) fun k hk=>?_);rw[addRows_get _ _ _ hk,oneRow_get];unfold addRow atV;rw[e,set_get _ _ _ _ (by rw[h8];exact hP)]
 split
 ·rename_i h;subst h;rfl
 ·omega
theorem imAdd_far (w:World) (u:Value) (x:Option Addr) (m c:Nat) (t n:Int) (hu:u=.slice x m c) (ht:t<0\/64<=t):
  Calls Tryz.prog 231 #[.agg #[u],.int .i64 t,.int .i64 n] w fun e w'=>e=.returned (.tuple #[.agg #[.slice none 0 0],.bool false])/\Below w.heap.size w w':=by
 subst hu;go_enter Tryz.func231,Tryz.ntmps231
 go_wp2_with (go_at_call 106;refine (isThing_no _ _ ht).mono ?_;rintro e w' ⟨rfl,rfl⟩)
 exact bodyPost_ret (v:=.tuple #[.agg #[.slice none 0 0],.bool false]) (by simp[results,Tryz.results231,go_sem]) rfl ⟨rfl,by
    first
    |exact (((Below.refl _ _).alloc lr_ _).alloc (by simp) _).setCell (by simp) _
    |exact ((Below.refl _ _).alloc lr_ _).alloc (by simp) _⟩
def JoinEnd (w:World) (ra rb:List (List Int)) (e:Ending) (w':World):Prop:=
 ∃x m c ok,e=.returned (.tuple #[.agg #[.slice x m c],.bool ok])/\ok=joinB ra rb/\Below w.heap.size w w'/\(ok=false->x=none/\m=0/\c=0)/\(ok=true->m=3/\∃G C,OwnR w' w.heap.size (.slice x m c) (joinV ra rb) G C)
theorem imJoin_at (w:World) (u v:Value) (ra rb:List (List Int)) (ha:Rws w u ra) (hb:Rws w v rb):Calls Tryz.prog 195 #[.agg #[u],.agg #[v]] w (JoinEnd w ra rb):=by
 cases h:joinB ra rb with
 |false=>exact (imJoin_no w u v ra rb ha hb h).mono fun e w' ⟨he,hb⟩=>⟨none,0,0,false,he,h.symm,hb,fun _=>⟨rfl,rfl,rfl⟩,fun q=>by cases q⟩
 |true=>exact (imJoin_yes w u v ra rb ha hb h).mono fun e w' ⟨x,c,G,C,he,ho,hb⟩=>⟨x,3,c,true,he,h.symm,hb,fun q=>(by cases q),fun _=>⟨rfl,G,C,ho⟩⟩
theorem imAdd_near (w:World) (u:Value) (rs:List (List Int)) (t n:Int) (h:Rws w u rs) (t0:0<=t) (t1:t<64):
  Calls Tryz.prog 231 #[.agg #[u],.int .i64 t,.int .i64 n] w fun e w'=>JoinEnd w rs (oneV t n) e w':=by
 have HR:=hd_ h;obtain⟨⟨x,c,hx⟩,_⟩:=h.cases;obtain⟨m,hm⟩:∃n,n=rs.length:=⟨_,rfl⟩
 rw[<-hm]at hx;subst hx;clear hm h;go_enter Tryz.func231,Tryz.ntmps231
 go_wp2_with (go_at_call 106;refine (isThing_yes _ _ t0 t1).mono ?_;rintro e w' ⟨rfl,rfl⟩)
 refine (imNew_at _).mono ?_;rintro e w1 ⟨v,G,C,rfl,ho,hb1⟩;obtain⟨g,c',hu,hg1,hg2⟩:=World.ownsRow.form ho.hdr (show 0<zero3.length from by simp[zero3]);have h3:zero3.length=3:=rfl;rw[h3]at hu;subst hu;have sz:=hb1.size;simp only[World.size_alloc]at sz hg1
 have ca:=(cell_later hb1 (show ((w.alloc (.cells #[.slice x m c] 36)).alloc (.cells #[.slice none 0 0] 36)).cell? ⟨w.heap.size,0,none⟩=some (.slice x m c) by simp[go_sem]))
 have cr:=(cell_later hb1 (show ((w.alloc (.cells #[.slice x m c] 36)).alloc (.cells #[.slice none 0 0] 36)).cell? ⟨w.heap.size+1,0,none⟩=some (.slice none 0 0) by simp[go_sem]))
 have fr:w1.frozen? ⟨w.heap.size+1,0,none⟩=false:=by rw[hb1.frozen (p:=⟨w.heap.size+1,0,none⟩) (by simp)];simp[go_sem]
 have hL:=(((Below.refl w.heap.size w).alloc lr_ (.cells #[.slice x m c] 36)).alloc (by simp) (.cells #[.slice none 0 0] 36)).trans (hb1.mono (by simp;omega));have L:=hd_ hL;have HO1:=hd_ ho;clear ho hb1 hL h3;go_wp2;go_loopw [19] (fun i wr=>∃(k:Nat) (qs:List (List Int)),k<=3/\i=.int .i64 k/\qs.length=3/\(∀j,j<3->qs.getD j []=if j<k then oneRow t n j else zeros)/\
      OwnR wr (w.heap.size+2) (.slice (some ⟨g,0,none⟩) 3 c') qs G C/\wr.cell? ⟨w1.heap.size,0,none⟩=some (.slice (some ⟨g,0,none⟩) 3 c')/\
      wr.cell? ⟨w.heap.size,0,none⟩=some (.slice x m c)/\
      wr.cell? ⟨w.heap.size+1,0,none⟩=some (.slice none 0 0)/\wr.frozen? ⟨w.heap.size+1,0,none⟩=false/\Below w.heap.size w wr/\w1.heap.size<wr.heap.size) (fun i _=>3 - (intOf i).toNat)
 case atStart=>
  have l1:w.heap.size+1<w1.heap.size:=by omega
  have l0:w.heap.size<w1.heap.size:=by omega
  refine⟨0,zero3,Nat.zero_le _,rfl,rfl,fun j hj=>?_,by simpa using HO1.out.below ((Below.refl _ _).alloc lr_ _) lr_,by simp,by rw[World.cell?_alloc_past _ _ _ l0];exact ca,by rw[World.cell?_alloc_past _ _ _ l1];exact cr,
      by rw[World.frozen?_alloc_past _ _ _ l1];exact fr,L.out.alloc L.out.size _,by simp⟩
  rcases (by omega:j=0\/j=1\/j=2)with rfl|rfl|rfl<;>rfl
 case round=>
  obtain⟨k,qs,hk,rfl,hq3,hqs,hown,hbox,hA,cR,fR,hbl,hlt2⟩:=hrel;have HQ3:=hd_ hq3;have HQ:=hd_ hqs;have HO:=hd_ hown;have HB:=hd_ hbl;clear hq3 hqs hown hbl ca cr fr
  by_cases hlt:k<3
  ·obtain⟨P,hP,hP8,hPn⟩:=place_nat (k:Int) t
   have hqk:qs.getD k []=zeros:=by rw[HQ.out k hlt,if_neg (by omega)]
   have hz8:zeros.length=8:=rfl;have hc1:=HO.out.hdrCell HQ3.out k hlt;rw[hqk,hz8]at hc1;obtain⟨hc2,hf2⟩:=HO.out.rowCell k P (by rw[HQ3.out];exact hlt) (by rw[hqk];exact hP8);rw[hqk,zeros_get]at hc2;have K1:Hid (∀W,Calls Tryz.prog 179 #[.int .i64 k,.int .i64 t] W fun e w'=>e=.returned (.int .i64 P)/\W=w'):=fun W=>by
    rw[<-hP];exact roughPlace_yes k t W (by omega) (by omega) t0 t1
   have q:=HO.out.store k P n (by rw[HQ3.out];exact hlt) (by rw[hqk];exact hP8);have hst:∃qs',qs'.length=3/\(∀j,j<3->qs'.getD j []=if j<k+1 then oneRow t n j else zeros)/\OwnR (wr.setCell ⟨G k,P,none⟩ (.int .i64 n)) (w.heap.size+2) (.slice (some ⟨g,0,none⟩) 3 c') qs' G C:=by
    refine⟨_,by simpa using HQ3.out,fun j hj=>?_,q.1⟩
    by_cases e:j=k
    ·subst e
     rw[if_pos (by omega)];unfold oneRow;rw[hPn,hqk];simp[HQ3.out,hlt]
    ·have e1:(qs.set k ((qs.getD k []).set P n)).getD j []=qs.getD j []:=by simp[Ne.symm e]
     rw[e1,HQ.out j hj]
     by_cases e2:j<k
     ·rw[if_pos e2,if_pos (by omega)]
     ·rw[if_neg e2,if_neg (by omega)]
   have HST:=hd_ hst;have HGk:Hid (w.heap.size+2<=G k/\G k<w1.heap.size):=⟨((HO.out.row k (by rw[HQ3.out];exact hlt)).lt (G k) rfl).1,((HO1.out.row k (show k<zero3.length from hlt)).lt (G k) rfl).2⟩
   have k0:(0:Int)<=(k:Int):=by omega
   have k3:(k:Int)<3:=by omega
   have P8:(P:Int)<8:=by omega
   clear hP hPn hst hqk hP8 q hz8
   go_wp2_with (go_at_call 179;refine (K1.out _).mono ?_;rintro e w' ⟨rfl,rfl⟩)
   go_roundw
   case rel=>
    obtain⟨qs',q1,q2,q3⟩:=HST.out;have e2:G k≠w1.heap.size:=by have:=HGk.out.2;omega
    have e1:G k≠w.heap.size+1:=by have:=HGk.out.1;omega
    have e0:G k≠w.heap.size:=by have:=HGk.out.1;omega
    refine⟨k+1,qs',by omega,by go_num,q1,q2,q3,?_,?_,?_,?_,?_,by simpa using hlt2⟩
    ·exact (World.cell?_setCell_other (h:=fun h=>by injection h with h;exact e2 h) ..).trans hbox
    ·exact (World.cell?_setCell_other (h:=fun h=>by injection h with h;exact e0 h) ..).trans hA
    ·exact (World.cell?_setCell_other (h:=fun h=>by injection h with h;exact e1 h) ..).trans cR
    ·rw[World.frozen?_setCell];exact fR
    ·exact HB.out.setCell (by have:=HGk.out.1;simp;omega) _
   case measure=>simp[intOf];omega
  ·have hq:qs=oneV t n:=eq_three HQ3.out rfl (fun i hi=>by rw[HQ.out i hi,if_pos (by omega),oneV_get _ _ _ hi])
   have ho:=HO.out;rw[hq]at ho;have KJ:=hd_ (imJoin_at wr _ _ rs (oneV t n) (HR.out.below HB.out lr_) ho.rws);clear hq ho
   go_wp2_with fail
   refine KJ.out.mono ?_;rintro e w3 ⟨z,p,d,ok,rfl,hok,hb3,hno,hyes⟩;have cR3:=cell_later hb3 cR;have fR3:w3.frozen? ⟨w.heap.size+1,0,none⟩=false:=by rw[hb3.frozen (p:=⟨w.heap.size+1,0,none⟩) (by simp;omega)];exact fR
   have hr:=hd_ (World.cell?_setCell_same w3 ⟨w.heap.size+1,0,none⟩ (.slice z p d) cR3);have hgs:=grownBy_setCell w3 ⟨w.heap.size+1,0,none⟩ (.slice z p d);have FIN:Hid (Below w.heap.size w (w3.setCell ⟨w.heap.size+1,0,none⟩ (.slice z p d))/\(ok=true->p=3/\∃G C,OwnR (w3.setCell ⟨w.heap.size+1,0,none⟩ (.slice z p d)) w.heap.size (.slice z p d) (joinV rs (oneV t n)) G C)):=
    ⟨(HB.out.trans (hb3.mono HB.out.size)).setCell (by simp) _,fun q=>by
          obtain⟨q1,G',C',q2⟩:=hyes q
          exact⟨q1,G',C',(q2.grown hgs (fun k e=>by simp at e;omega)).base HB.out.size⟩⟩
   have HOK:=hd_ hok;have HNO:=hd_ hno;clear hok hno hyes hb3 hgs;go_wp2;have hr:=hr.out;exact bodyPost_ret (v:=.tuple #[.agg #[.slice z p d],.bool ok]) (by simp[results,Tryz.results231,go_sem,hr]) rfl ⟨z,p,d,ok,rfl,HOK.out,FIN.out.1,HNO.out,FIN.out.2⟩
end Go.Proofs.YtcblbdpdbggkbaaGreat
namespace Go.Proofs.YtcblbdpdbggkbaaGreat
open Go.RowKit
theorem sum8 {zs:List Int} (h:zs.length=8):zs.sum=zs.getD 0 0+zs.getD 1 0+zs.getD 2 0+zs.getD 3 0+zs.getD 4 0+zs.getD 5 0+zs.getD 6 0+zs.getD 7 0:=by
 match zs,h with
 | [a,b,c,d,e,f,g,i],_=>simp;omega
theorem addRows_sum (x y:List Int) (hx:x.length=8) (hy:y.length=8):(addRows x y).sum=x.sum+y.sum:=by
 rw[sum8 hx,sum8 hy,sum8 (addRows_len x y)];rw[addRows_get _ _ 0 (by omega),addRows_get _ _ 1 (by omega),addRows_get _ _ 2 (by omega),addRows_get _ _ 3 (by omega),addRows_get _ _ 4 (by omega),addRows_get _ _ 5 (by omega),addRows_get _ _ 6 (by omega),addRows_get _ _ 7 (by omega)];omega
theorem okB_fine {rs:List (List Int)} (h3:rs.length=3) (h:∀i,i<3->Fine (rs.getD i [])/\(rs.getD i []).sum=(rs.getD 0 []).sum):okB rs=true:=
 (okB_iff rs).2 ⟨h3,fun i hi=>⟨(h i hi).1.1,(h i hi).1.bd.2.2,(h i hi).2,(h i hi).1.2.2⟩⟩
theorem fine_okB {rs:List (List Int)} (h:okB rs=true) (i:Nat) (hi:i<3):Fine (rs.getD i [])/\(rs.getD i []).sum=allV rs:=by
 obtain⟨_,hg⟩:=(okB_iff rs).1 h;have g:=hg i hi;exact⟨⟨g.1,fun k hk=>(g.2.1 k hk).1,g.2.2.2⟩,g.2.2.1.trans (allV_sum h)⟩
theorem okB_join {ra rb:List (List Int)} (h:joinB ra rb=true):okB (joinV ra rb)=true/\allV (joinV ra rb)=allV ra+allV rb:=by
 obtain⟨ha,hb,hs⟩:=(joinB_iff ra rb).1 h;have rowS:∀i,i<3->((joinV ra rb).getD i []).sum=allV ra+allV rb:=fun i hi=>by
  rw[joinV_get _ _ _ hi,addRows_sum _ _ (fine_okB ha i hi).1.1 (fine_okB hb i hi).1.1,(fine_okB ha i hi).2,(fine_okB hb i hi).2]
 have ok:okB (joinV ra rb)=true:=okB_fine rfl fun i hi=>by
  refine⟨⟨by rw[joinV_get _ _ _ hi];exact addRows_len _ _,fun k hk=>?_,by rw[rowS i hi];exact hs⟩,by rw[rowS i hi,rowS 0 (by omega)]⟩;rw[joinV_get _ _ _ hi,addRows_get _ _ _ hk];have:=(fine_okB ha i hi).1.2.1 k hk;have:=(fine_okB hb i hi).1.2.1 k hk;omega
 exact⟨ok,by rw[<-allV_sum ok,rowS 0 (by omega)]⟩
theorem okB_add {rs:List (List Int)} {t n:Int} (h:addB rs t n=true):okB (addV rs t n)=true/\allV (addV rs t n)=allV rs+n:=by
 obtain⟨ok,t0,t1,n0,n1⟩:=(addB_iff rs t n).1 h;have hj:=join_one rs t n t0 t1;rw[h]at hj;have:=okB_join hj;have av:=allV_ok ok;rw[joinV_one rs t n ok,oneV_all t n (by omega)]at this;exact this
def EndR (w:World) (ok:Bool) (rs:List (List Int)) (e:Ending) (w':World):Prop:=
 ∃x m c,e=.returned (.tuple #[.agg #[.slice x m c],.bool ok])/\Below w.heap.size w w'/\(ok=false->x=none/\m=0/\c=0)/\(ok=true->m=3/\∃G C,OwnR w' w.heap.size (.slice x m c) rs G C)
theorem imJoin_end (w:World) (u v:Value) (ra rb:List (List Int)) (ha:Rws w u ra) (hb:Rws w v rb):Calls Tryz.prog 195 #[.agg #[u],.agg #[v]] w (EndR w (joinB ra rb) (joinV ra rb)):=
 (imJoin_at w u v ra rb ha hb).mono fun e w' ⟨x,m,c,ok,he,hok,hb,h0,h1⟩=>by subst hok;exact⟨x,m,c,he,hb,h0,h1⟩
theorem spAdd_end (w:World) (u:Value) (rs:List (List Int)) (t n:Int) (h:Rws w u rs):Calls Tryz.prog 310 #[.agg #[u],.int .i64 t,.int .i64 n] w (EndR w (addB rs t n) (addV rs t n)):=by
 cases q:addB rs t n with
 |false=>exact (spAdd_no w u rs t n h q).mono fun e w' ⟨he,hb⟩=>⟨none,0,0,he,hb,fun _=>⟨rfl,rfl,rfl⟩,fun q=>by cases q⟩
 |true=>exact (spAdd_yes w u rs t n h q).mono fun e w' ⟨x,c,G,C,he,ho,hb⟩=>⟨x,3,c,he,hb,fun q=>(by cases q),fun _=>⟨rfl,G,C,ho⟩⟩
theorem imAdd_end (w:World) (u:Value) (rs:List (List Int)) (t n:Int) (h:Rws w u rs):Calls Tryz.prog 231 #[.agg #[u],.int .i64 t,.int .i64 n] w (EndR w (addB rs t n) (addV rs t n)):=by
 by_cases ht:t<0\/64<=t
 ·have hno:addB rs t n=false:=by
   cases q:addB rs t n with
   |false=>rfl
   |true=>have:=(addB_iff rs t n).1 q;omega
  obtain⟨⟨x,c,hx⟩,_⟩:=h.cases;rw[hno];exact (imAdd_far w u x _ c t n hx ht).mono fun e w' ⟨he,hb⟩=>⟨none,0,0,he,hb,fun _=>⟨rfl,rfl,rfl⟩,fun q=>by cases q⟩
 ·have t0:0<=t:=by omega
  have t1:t<64:=by omega
  refine (imAdd_near w u rs t n h t0 t1).mono fun e w' ⟨x,m,c,ok,he,hok,hb,h0,h1⟩=>?_
  rw[join_one rs t n t0 t1]at hok;subst hok;refine⟨x,m,c,he,hb,h0,fun q=>?_⟩;obtain⟨hm,G,C,ho⟩:=h1 q;rw[joinV_one rs t n ((addB_iff rs t n).1 q).1]at ho;exact⟨hm,G,C,ho⟩
def resV (ok:Bool) (rs:List (List Int)):List (List Int):=if ok=true then rs else []
end Go.Proofs.YtcblbdpdbggkbaaGreat
set_option linter.unusedVariables false
namespace Go.Proofs.YtcblbdpdbggkbaaGreat
open Go.RowKit Go.Sort
end Go.Proofs.YtcblbdpdbggkbaaGreat
namespace Go.Proofs.YtcblbdpdbggkbaaGreat
open Go.RowKit
theorem addV_join {rs:List (List Int)} {t n:Int} (h:addB rs t n=true):addV rs t n=joinV rs (oneV t n):=(joinV_one rs t n ((addB_iff rs t n).1 h).1).symm
end Go.Proofs.YtcblbdpdbggkbaaGreat
set_option linter.unusedVariables false
namespace Go.Proofs.YtcblbdpdbggkbaaGreat
open Go.RowKit Go.Sort
def markV (t:Int):Int:=if 0<=t/\t<64 then (37 * t+11) % 64 else -1
theorem markV_yes {t:Int} (h0:0<=t) (h1:t<64):markV t=(37 * t+11) % 64:=if_pos ⟨h0,h1⟩
theorem markV_no {t:Int} (h:t<0\/64<=t):markV t= -1:=if_neg (by omega)
theorem markV_in {t:Int} (h0:0<=t) (h1:t<64):0<=markV t/\markV t<64:=by rw[markV_yes h0 h1];omega
theorem imMark_at (t:Int) (w:World):Calls Tryz.prog 176 #[.int .i64 t] w fun e w'=>e=.returned (.int .i64 (markV t))/\w=w':=by
 by_cases h:t<0\/64<=t
 ·rw[markV_no h]
  go_enter Tryz.func176,Tryz.ntmps176
  go_wp2_with (go_at_call 106;refine (isThing_no _ _ h).mono ?_;rintro e w' ⟨rfl,rfl⟩)
  go_ret;exact⟨rfl,rfl⟩
 ·have h0:0<=t:=by omega
  have h1:t<64:=by omega
  rw[markV_yes h0 h1];clear h;go_enter Tryz.func176,Tryz.ntmps176
  go_wp2_with (go_at_call 106;refine (isThing_yes _ _ h0 h1).mono ?_;rintro e w' ⟨rfl,rfl⟩)
  go_ret;exact⟨ret_int (by first|rfl|(simp;omega)|omega),rfl⟩
theorem spMark_at (t:Int) (w:World):Calls Tryz.prog 321 #[.int .i64 t] w fun e w'=>e=.returned (.int .i64 (markV t))/\w=w':=by
 by_cases h:t<0\/63<t
 ·rw[markV_no (by omega)]
  go_enter Tryz.func321,Tryz.ntmps321
  go_wp2_with (go_at_call 66;refine (l6In_no _ _ _ _ h).mono ?_;rintro e w' ⟨rfl,rfl⟩)
  go_ret;exact⟨rfl,rfl⟩
 ·have h0:0<=t:=by omega
  have h1:t<64:=by omega
  have h2:t<=63:=by omega
  rw[markV_yes h0 h1];clear h;go_enter Tryz.func321,Tryz.ntmps321
  go_wp2_with (go_at_call 66;refine (l6In_yes _ _ _ _ h0 h2).mono ?_;rintro e w' ⟨rfl,rfl⟩)
  go_ret;exact⟨ret_int (by first|rfl|(simp;omega)|omega),rfl⟩
def FewG (zs:List Int) (i:Nat):Prop:=(0<=zs.getD i 0/\zs.getD i 0<=63)/\(0<i->zs.getD (i - 1) 0<zs.getD i 0)
instance (zs:List Int) (i:Nat):Decidable (FewG zs i):=by unfold FewG;infer_instance
def FewP (zs:List Int):Prop:=zs.length<=6/\∀i,i<zs.length->FewG zs i
instance (zs:List Int):Decidable (FewP zs):=by unfold FewP;infer_instance
def fewB (zs:List Int):Bool:=decide (FewP zs)
def lastV (zs:List Int) (k:Nat):Int:=if k=0 then -1 else zs.getD (k - 1) 0
theorem fewB_iff (zs:List Int):fewB zs=true↔FewP zs:=by simp[fewB]
theorem fewB_long {zs:List Int} (h:6<zs.length):fewB zs=false:=by simp only[fewB,decide_eq_false_iff_not];exact fun q=>by have:=q.1;omega
theorem fewB_bad {zs:List Int} {i:Nat} (hi:i<zs.length) (h:¬FewG zs i):fewB zs=false:=by simp only[fewB,decide_eq_false_iff_not];exact fun q=>h (q.2 i hi)
theorem fewB_good {zs:List Int} (hl:zs.length<=6) (h:∀i,i<zs.length->FewG zs i):fewB zs=true:=(fewB_iff zs).2 ⟨hl,h⟩
theorem lastV_bd {zs:List Int} {k:Nat} (h:∀i,i<k->FewG zs i): -1<=lastV zs k/\lastV zs k<=63:=by
 unfold lastV
 split
 ·omega
 ·have:=(h (k - 1) (by omega)).1;omega
theorem fewG_iff {zs:List Int} {k:Nat} (h:∀i,i<k->FewG zs i):FewG zs k↔lastV zs k<zs.getD k 0/\zs.getD k 0<64:=by
 have hb:=lastV_bd h;unfold FewG;unfold lastV at hb ⊢
 split
 ·subst_vars;simp;omega
 ·have:0<k:=by omega
  simp only[this,true_implies];rw[if_neg (by omega)]at hb;omega
theorem imFewOk_some (b o c n:Nat) (zs:List Int) (w:World) (hl:zs.length=n) (hn:n<=6) (hb:b<w.heap.size) (hc:∀i,i<n->w.cell? ⟨b,o+i,none⟩=some (.int .i64 (zs.getD i 0))):
  Calls Tryz.prog 175 #[.agg #[.slice (some ⟨b,o,none⟩) n c]] w fun e w'=>e=.returned (.bool (fewB zs))/\Below w.heap.size w w':=by
 have hA:=(Below.refl w.heap.size w).alloc lr_ (.cells #[.slice (some ⟨b,o,none⟩) n c] 38);have HC:Hid (∀i,i<n->(w.alloc (.cells #[.slice (some ⟨b,o,none⟩) n c] 38)).cell? ⟨b,o+i,none⟩=some (.int .i64 (zs.getD i 0))):=fun i hi=>by
  rw[hA.cell (p:=⟨b,o+i,none⟩) hb];exact hc i hi
 have HL:=hd_ hl;have HA:=hd_ hA;have hn':¬(6:Int)<(n:Int):=by omega
 clear hc hl hA;go_enter Tryz.func175,Tryz.ntmps175;go_wp2
 go_loop [3,13] (fun q i=>∃k:Nat,k<=n/\i=.int .i64 k/\q=.int .i64 (lastV zs k)/\∀i,i<k->FewG zs i) (fun _ i=>n - (intOf i).toNat)
 case atStart=>exact⟨0,Nat.zero_le _,rfl,rfl,fun _ h=>absurd h (Nat.not_lt_zero _)⟩
 case round=>
  obtain⟨k,hk,rfl,rfl,hg⟩:=hrel;have G:=hd_ hg;have I:=hd_ (fewG_iff hg)
  by_cases hlt:k<n
  ·have h1:=HC.out k hlt
   have hs:Hid (lastV zs (k+1)=zs.getD k 0):=by show (if k+1=0 then _ else _)=_;rw[if_neg (by omega)];rfl
   generalize zs.getD k 0=x at h1 I hs;generalize lastV zs k=L at I ⊢;clear hg
   by_cases hx:x<=L
   ·have bad:Hid (fewB zs=false):=fewB_bad (by rw[HL.out];exact hlt) (fun q=>by have:=(I.out.1 q).1;omega)
    go_wp2;go_ret;exact⟨ret_bool bad.out.symm,HA.out⟩
   by_cases hy:64<=x
   ·have bad:Hid (fewB zs=false):=fewB_bad (by rw[HL.out];exact hlt) (fun q=>by have:=(I.out.1 q).2;omega)
    go_wp2;go_ret;exact⟨ret_bool bad.out.symm,HA.out⟩
   ·go_wp2
    go_round
    case rel=>exact⟨k+1,by omega,by go_num,by rw[hs.out],fun i hi=>by
          by_cases h:i<k
          · exact G.out i h
          · obtain rfl:i=k:=by omega
            exact I.out.2 (by omega)⟩
    case measure=>simp[intOf];omega
  ·have good:Hid (fewB zs=true):=fewB_good (by rw[HL.out];exact hn) (fun i hi=>G.out i (by rw[HL.out]at hi;omega))
   go_wp2;go_ret;exact⟨ret_bool good.out.symm,HA.out⟩
theorem imFewOk_at (w:World) (u:Value) (zs:List Int) (h:Ints w u zs):
  Calls Tryz.prog 175 #[.agg #[u]] w fun e w'=>e=.returned (.bool (fewB zs))/\Below w.heap.size w w':=by
 obtain⟨⟨x,c,hx⟩,_⟩:=h.cases
 by_cases hn:6<zs.length
 ·rw[fewB_long hn]
  obtain⟨n,hn'⟩:∃n,n=zs.length:=⟨_,rfl⟩
  rw[<-hn']at hx hn;subst hx;have h6:(6:Int)<(n:Int):=by omega
  clear h hn' hn;go_enter Tryz.func175,Tryz.ntmps175;go_wp2;go_ret;exact⟨rfl,(Below.refl _ _).alloc lr_ _⟩
 rcases h with ⟨rfl,rfl⟩|⟨b,o,cap,rfl,_,_,hb,hc⟩
 ·have e:fewB []=true:=by decide
  rw[e];go_enter Tryz.func175,Tryz.ntmps175;go_wp2;refine wp_loop_rounds 1 ?_;rw[rounds_succ];go_wp2;go_ret;exact⟨rfl,(Below.refl _ _).alloc lr_ _⟩
 ·exact imFewOk_some b o cap _ zs w rfl (by omega) hb hc
theorem spFewOk_some (b o c n:Nat) (zs:List Int) (w:World) (hl:zs.length=n) (hn:n<=maxLen) (hb:b<w.heap.size) (hc:∀i,i<n->w.cell? ⟨b,o+i,none⟩=some (.int .i64 (zs.getD i 0))):
  Calls Tryz.prog 220 #[.agg #[.slice (some ⟨b,o,none⟩) n c]] w fun e w'=>e=.returned (.bool (fewB zs))/\Below w.heap.size w w':=by
 unfold maxLen at hn;have HC:=hd_ hc;have HL:=hd_ hl;clear hc hl;go_enter Tryz.func220,Tryz.ntmps220;go_wp2;go_loopw [3] (fun i wr=>∃k:Nat,k<=n/\i=.int .i64 k/\(∀i,i<k->FewG zs i)/\Below w.heap.size w wr/\wr.cell? ⟨w.heap.size,0,none⟩=some (.slice (some ⟨b,o,none⟩) n c)) (fun i _=>n - (intOf i).toNat)
 case atStart=>exact⟨0,Nat.zero_le _,rfl,fun _ h=>absurd h (Nat.not_lt_zero _),(Below.refl _ _).alloc lr_ _,by simp⟩
 case round=>
  obtain⟨k,hk,rfl,hg,hbl,hbox⟩:=hrel;have G:=hd_ hg;have HB:=hd_ hbl;clear hg hbl
  by_cases hlt:k<n
  ·have h1:=HC.out k hlt
   rw[<-HB.out.cell (p:=⟨b,o+k,none⟩) hb]at h1;obtain⟨x,hx⟩:∃x,zs.getD k 0=x:=⟨_,rfl⟩
   rw[hx]at h1;have HX:=hd_ hx;clear hx;have k0:(0:Int)<=(k:Int):=by omega
   have kn:(k:Int)<(n:Int):=by omega
   by_cases hr:x<0\/63<x
   ·have bad:Hid (fewB zs=false):=fewB_bad (by rw[HL.out];exact hlt) (fun q=>by have:=q.1;rw[HX.out]at this;omega)
    go_wp2
    go_quiet (with_reducible exact quiet_same' (l6In_no _ _ _ _ hr))
    go_wp2;go_ret;exact⟨ret_bool bad.out.symm,below_drewN HB.out _⟩
   have x0:0<=x:=by omega
   have x1:x<=63:=by omega
   rcases Nat.eq_zero_or_pos k with h0|h0
   ·subst h0
    have good:Hid (FewG zs 0):=⟨by rw[HX.out];exact⟨x0,x1⟩,fun h=>absurd h (Nat.lt_irrefl _)⟩
    have h1':wr.cell? ⟨b,o,none⟩=some (.int .i64 x):=h1;have z0:(0:Int)<(n:Int):=by omega
    go_wp2
    go_quiet (with_reducible exact quiet_same' (l6In_yes _ _ _ _ x0 x1))
    go_wp2;go_roundw
    case rel=>exact⟨1,by omega,by go_num,fun i hi=>by
          obtain rfl:i=0:=by omega
          exact good.out,below_drewN HB.out _,by simpa using hbox⟩
    case measure=>simp[intOf];omega
   ·obtain⟨j,rfl⟩:∃j,k=j+1:=⟨k - 1,by omega⟩
    have h2:=HC.out j (by omega);rw[<-HB.out.cell (p:=⟨b,o+j,none⟩) hb]at h2;obtain⟨y,hy'⟩:∃y,zs.getD j 0=y:=⟨_,rfl⟩
    rw[hy']at h2;have HY:=hd_ hy';clear hy';have p0:(0:Int)<((j+1:Nat):Int):=by omega
    have e1:((j+1:Nat):Int) - 1=(j:Int):=by omega
    have j0:(0:Int)<=(j:Int):=by omega
    have jn:(j:Int)<(n:Int):=by omega
    by_cases hyx:x<=y
    ·have bad:Hid (fewB zs=false):=fewB_bad (by rw[HL.out];exact hlt) (fun q=>by have:=q.2 h0;rw[HX.out,Nat.add_sub_cancel,HY.out]at this;omega)
     have hd:decide (x<=y)=true:=decide_eq_true hyx;go_wp2
     go_quiet (with_reducible exact quiet_same' (l6In_yes _ _ _ _ x0 x1))
     go_wp2;go_ret;exact⟨ret_bool bad.out.symm,below_drewN HB.out _⟩
    ·have good:Hid (FewG zs (j+1)):=⟨by rw[HX.out];exact⟨x0,x1⟩,fun _=>by rw[Nat.add_sub_cancel,HX.out,HY.out];omega⟩
     have hd:decide (x<=y)=false:=decide_eq_false hyx;go_wp2
     go_quiet (with_reducible exact quiet_same' (l6In_yes _ _ _ _ x0 x1))
     go_wp2;go_roundw
     case rel=>exact⟨j+1+1,by omega,by go_num,fun i hi=>by
            by_cases h:i<j+1
            · exact G.out i h
            · obtain rfl:i=j+1:=by omega
              exact good.out,below_drewN HB.out _,by simpa using hbox⟩
     case measure=>simp[intOf];omega
  ·by_cases h6:n<=6
   ·have good:Hid (fewB zs=true):=fewB_good (by rw[HL.out];exact h6) (fun i hi=>G.out i (by rw[HL.out]at hi;omega))
    have h6':(n:Int)<=6:=by omega
    go_wp2;go_ret;exact⟨ret_bool (by first|(rw[good.out];done)|(rw[good.out];simp;omega)),HB.out⟩
   ·have bad:Hid (fewB zs=false):=fewB_long (by rw[HL.out];omega)
    go_wp2;go_ret;exact⟨ret_bool (by first|(rw[bad.out];done)|(rw[bad.out];simp;omega)),HB.out⟩
theorem spFewOk_at (w:World) (u:Value) (zs:List Int) (h:Ints w u zs):
  Calls Tryz.prog 220 #[.agg #[u]] w fun e w'=>e=.returned (.bool (fewB zs))/\Below w.heap.size w w':=by
 rcases h with ⟨rfl,rfl⟩|⟨b,o,cap,rfl,h1,h2,hb,hc⟩
 ·have e:fewB []=true:=by decide
  rw[e];go_enter Tryz.func220,Tryz.ntmps220;go_wp2;refine wp_loop_rounds 1 ?_;rw[rounds_succ];go_wp2;go_ret;exact⟨rfl,(Below.refl _ _).alloc lr_ _⟩
 ·exact spFewOk_some b o cap _ zs w rfl (by omega) hb hc
theorem fewB_parts {zs:List Int} (h:fewB zs=true):zs.length<=6/\(∀i,i<zs.length->0<=zs.getD i 0/\zs.getD i 0<=63)/\∀i,i+1<zs.length->zs.getD i 0<zs.getD (i+1) 0:=by
 obtain⟨h1,h2⟩:=(fewB_iff zs).1 h;refine⟨h1,fun i hi=>(h2 i hi).1,fun i hi=>?_⟩;have:=(h2 (i+1) hi).2 (by omega);rwa[Nat.add_sub_cancel]at this
def inThings (t:Int):Bool:=decide (0<=t/\t<64)
theorem mem_get {zs:List Int} {x:Int}:x ∈ zs↔∃i,i<zs.length/\zs.getD i 0=x:=by
 constructor
 ·intro h
  obtain⟨i,hi,rfl⟩:=List.getElem_of_mem h;exact⟨i,hi,by simp[hi]⟩
 ·rintro⟨i,hi,rfl⟩
  exact getD_mem zs i 0 hi
theorem inThings_iff (t:Int):inThings t=true↔0<=t/\t<64:=by simp[inThings]
theorem inThings_no (t:Int):inThings t=false↔t<0\/64<=t:=by simp[inThings];omega
theorem few_info:(Tryz.prog.info? 3).map (fun i=>(i.zero,i.size,i.bytes))=some (some (.int .i64 0),1,8):=by kernel_rfl
theorem few_empty (w:World) (B:Nat) (hB:B<=w.heap.size):(w.alloc (.cells #[] 3)).ownsRow B 3 1 (.slice (some ⟨w.heap.size,0,none⟩) 0 0) 0 []:=
 World.ownsRow_lit (base:=B) (e:=3) (size:=1) w #[] 0 hB (by simp[maxLen]) (by simp)
def OwnI (w:World) (B:Nat) (v:Value) (zs:List Int):Prop:=w.ownsRow B 3 1 v zs.length (ints zs)
theorem OwnI.rd {w:World} {B:Nat} {v:Value} {zs:List Int} (h:OwnI w B v zs):Ints w v zs:=ownI_ints h
theorem OwnI.base {w:World} {B B':Nat} {v:Value} {zs:List Int} (h:OwnI w B v zs) (hB:B'<=B):OwnI w B' v zs:=ownsRow_base h hB
theorem OwnI.kept {w w':World} {B:Nat} {v:Value} {zs:List Int} {row:Option Nat} (h:OwnI w B v zs) (hg:w.grownBy w' row) (hr:∀k,row=some k->k<B):OwnI w' B v zs:=by
 refine World.ownsRow.kept h hg ?_;cases hv:v.ownBlock with
 |none=>exact .inl rfl
 |some k=>exact .inr (fun e=>by have:=(World.ownsRow.lt h k hv).1;have:=hr k e.symm;omega)
theorem OwnI.alloc {w:World} {B:Nat} {v:Value} {zs:List Int} (h:OwnI w B v zs) (o:Obj):OwnI (w.alloc o) B v zs:=World.ownsRow.alloc h o
theorem OwnI.nil (w:World) (B:Nat):OwnI w B (.slice none 0 0) []:=World.ownsRow_nil w B _ 1
theorem OwnI.form {w:World} {B:Nat} {v:Value} {zs:List Int} (h:OwnI w B v zs):∃x c,v=.slice x zs.length c:=h.rd.cases.1
theorem ints_snoc (zs:List Int) (x:Int):ints (zs++[x])=ints zs++[.int .i64 x]:=by simp[ints]
theorem OwnI.take {w:World} {B n c:Nat} {x:Option Addr} {zs:List Int} (h:OwnI w B (.slice x n c) zs) (k:Nat) (hk:k<=zs.length):OwnI w B (.slice x k c) (zs.take k):=by
 have hl:(zs.take k).length=k:=by simp;omega
 have hi:ints (zs.take k)=(ints zs).take k:=by simp[ints,List.map_take]
 obtain⟨h1,h2⟩:=h;refine⟨by rw[ints_len];simp,?_⟩;rw[hl];rcases h2 with ⟨e,h0⟩|⟨g,cap,cur,e,hb,hh,hn,hm,hs,ht⟩
 ·refine .inl ⟨?_,by omega⟩
  obtain⟨rfl,rfl,rfl⟩:=Value.slice.inj e;obtain rfl:k=0:=by omega
  rfl
 ·obtain⟨rfl,rfl,rfl⟩:=Value.slice.inj e
  refine .inr ⟨g,c,cur,rfl,hb,hh,by omega,hm,hs,?_⟩;rw[hi, <-ht,List.take_take]
  congr 1
  omega
def putL (m:Int):List Int->Bool->List Int
 | [],d=>if d then []else [m]
 |x::xs,d=>(if !d&&decide (m<=x)then [m]else [])++((if x=m then []else [x])++putL m xs (d || decide (m<=x)))
def putV (zs:List Int) (m:Int):List Int:=(putL m zs false).take 6
theorem drop_cons {zs:List Int} {k:Nat} (h:k<zs.length):zs.drop k=zs.getD k 0::zs.drop (k+1):=by
 rw[List.drop_eq_getElem_cons h];simp[h]
theorem put1 (m:Int) (rest:List Int):putL m (m::rest) false=[m]++putL m rest true:=by
 show (if _ then _ else _)++((if _ then _ else _)++putL m rest _)=_
 simp
theorem put2 {m y:Int} (rest:List Int) (h:m<=y) (h':y≠m):putL m (y::rest) false=[m]++([y]++putL m rest true):=by
 show (if _ then _ else _)++((if _ then _ else _)++putL m rest _)=_
 simp[h,h']
theorem put3 (m:Int) (rest:List Int):putL m (m::rest) true=putL m rest true:=by
 show (if _ then _ else _)++((if _ then _ else _)++putL m rest _)=_
 simp
theorem put4 {m y:Int} {d:Bool} (rest:List Int) (h:d=true\/y<m) (h':y≠m):putL m (y::rest) d=[y]++putL m rest d:=by
 show (if _ then _ else _)++((if _ then _ else _)++putL m rest _)=_
 rcases h with h|h
 ·simp[h,h']
 ·have:¬m<=y:=by omega
  simp[this,h']
theorem own_snoc {w:World} {B no:Nat} {v:Value} {os:List Int} {m:Int} (h:w.ownsRow B 3 1 v (no+1) (ints os++[.int .i64 m])) (hn:no=os.length):OwnI w B v (os++[m]):=by
 unfold OwnI;rw[ints_snoc,List.length_append, <-hn];exact h
theorem below_append {w wr w':World} {o:Obj} {e:TypeId} {v:Value} {n:Nat} {xs:List Value} (hb:Below w.heap.size w wr) (ho:wr.ownsRow w.heap.size e 1 v n xs) (hg:(wr.alloc o).grownBy w' v.ownBlock):Below w.heap.size w w':=
 (hb.alloc hb.size o).grown hg (Nat.le_trans hb.size (by simp)) (fun k e=>(ho.lt k e).1)
theorem own_cap {w:World} {B n c:Nat} {e:TypeId} {x:Option Addr} {xs:List Value} (h:w.ownsRow B e 1 (.slice x n c) n xs):n<=c/\c<=maxLen:=by
 rcases h.2 with ⟨e,h0⟩|⟨g,cap,cur,e,hb,hh,hn,hm,hs,ht⟩
 ·obtain⟨_,h1,h2⟩:=Value.slice.inj e
  subst h1 h2;exact⟨Nat.le_refl _,Nat.zero_le _⟩
 ·obtain⟨_,_,h2⟩:=Value.slice.inj e
  subst h2;exact⟨hn,hm⟩
theorem cell_append {w wr w':World} {o:Obj} {e:TypeId} {v u:Value} {n:Nat} {xs:List Value} {a:Addr} (hc:wr.cell? a=some u) (ha:a.block<w.heap.size) (ho:wr.ownsRow w.heap.size e 1 v n xs) (hg:(wr.alloc o).grownBy w' v.ownBlock):w'.cell? a=some u:=
 hg.cell ((World.cell?_alloc_lt (h:=World.block_lt_of_cell? _ _ hc) ..).trans hc) (fun h=>by have:=(ho.lt _ h.symm).1;omega)
theorem l2Put_some (w:World) (b o c n:Nat) (zs:List Int) (m:Int) (hl:zs.length=n) (hn:n<=100) (hb:b<w.heap.size) (hc:∀i,i<n->w.cell? ⟨b,o+i,none⟩=some (.int .i64 (zs.getD i 0))):
  Calls Tryz.prog 225 #[.slice (some ⟨b,o,none⟩) n c,.int .i64 m] w fun e w'=>∃v,e=.returned v/\OwnI w' w.heap.size v (putV zs m)/\Below w.heap.size w w':=by
 obtain⟨i0,hi,hz0,hz1,hz2⟩:=info_parts few_info;have HL:=hd_ hl;have HC:=hd_ hc;clear hl hc;go_enter Tryz.func225,Tryz.ntmps225;go_wp2;go_loopw [5,6,7] (fun u d i wr=>∃(k:Nat) (dn:Bool) (os:List Int),k<=n/\i=.int .i64 k/\d=.bool dn/\os.length<=2 * k/\OwnI wr w.heap.size u os/\os++putL m (zs.drop k) dn=putL m zs false/\Below w.heap.size w wr) (fun _ _ i _=>n - (intOf i).toNat)
 case atStart=>exact⟨0,false,[],Nat.zero_le _,rfl,rfl,Nat.le_refl _,few_empty w w.heap.size lr_,rfl,(Below.refl _ _).alloc lr_ _⟩
 case round=>
  obtain⟨k,dn,os,hk,rfl,rfl,hos,hown,hput,hbl⟩:=hrel;obtain⟨x,cp,hu⟩:=hown.form;obtain⟨no,hno⟩:∃no,no=os.length:=⟨_,rfl⟩
  have hno2:no<=200:=by omega
  rw[<-hno]at hu;subst hu;have HN:=hd_ hno;have HP:=hd_ hput;have HB:=hd_ hbl;have hsz:=hbl.size;have ho:wr.ownsRow w.heap.size 3 1 (.slice x no cp) no (ints os):=by have h:=hown;unfold OwnI at h;rw[<-hno]at h;exact h
  have HO:=hd_ ho;clear hput hbl hown hno ho
  by_cases hlt:k<n
  ·have h1:=HC.out k hlt
   rw[<-HB.out.cell (p:=⟨b,o+k,none⟩) hb]at h1;have hd:=drop_cons (zs:=zs) (k:=k) (by rw[HL.out];exact hlt);generalize zs.getD k 0=y at h1 hd;rw[hd]at HP;clear hd;have k0:(0:Int)<=(k:Int):=by omega
   have kn:(k:Int)<(n:Int):=by omega
   cases dn with
   |false=>
    by_cases hmy:m<=y
    ·have hD:decide (m<=y)=true:=decide_eq_true hmy
     by_cases hym:y=m
     ·subst hym
      go_wp2_with (first|(at_builtin;refine wpList_append_own _ rfl _ _ 23 rfl w.heap.size 3 i0 (.int .i64 0) 1 8 Tryz.underlying23 hi hz0 hz1 hz2 rfl (by decide) _ _ _ rfl (HO.out.alloc _) ⟨wr.heap.size,0,none⟩ 1 1 [.int .i64 y] rfl rfl (cell_one_new _ _ _) (by simp[Value.oneCell']) (by unfold maxLen;omega) (by omega) (by simp;omega) ?_;intro v1 w1 ho1 hg1 _;obtain⟨g_v1,c_v1,rfl,_,_⟩:=World.ownsRow.form ho1 (Nat.succ_pos _);have c_w1:=cell_append h1 hb HO.out hg1))
      go_roundw
      case rel=>exact⟨k+1,true,os++[y],by omega,by go_num,rfl,by simp;omega,own_snoc ho1 HN.out,by rw[<-HP.out,put1,List.append_assoc],below_append HB.out HO.out hg1⟩
      case measure=>simp[intOf];omega
     ·have hne:(y != m)=true:=by simpa using hym
      have hne2:decide (y=m)=false:=decide_eq_false hym
      go_wp2_with (first|(at_builtin;refine wpList_append_own _ rfl _ _ 23 rfl w.heap.size 3 i0 (.int .i64 0) 1 8 Tryz.underlying23 hi hz0 hz1 hz2 rfl (by decide) _ _ _ rfl (HO.out.alloc _) ⟨wr.heap.size,0,none⟩ 1 1 [.int .i64 m] rfl rfl (cell_one_new _ _ _) (by simp[Value.oneCell']) (by unfold maxLen;omega) (by omega) (by simp;omega) ?_;intro v1 w1 ho1 hg1 _;obtain⟨g_v1,c_v1,rfl,_,_⟩:=World.ownsRow.form ho1 (Nat.succ_pos _);have c_w1:=cell_append h1 hb HO.out hg1)|(at_builtin;refine wpList_append_own _ rfl _ _ 23 rfl w.heap.size 3 i0 (.int .i64 0) 1 8 Tryz.underlying23 hi hz0 hz1 hz2 rfl (by decide) _ _ _ rfl (ho1.alloc _) ⟨w1.heap.size,0,none⟩ 1 1 [.int .i64 y] rfl rfl (cell_one_new _ _ _) (by simp[Value.oneCell']) (by unfold maxLen;omega) (by omega) (by simp;omega) ?_;intro v2 w2 ho2 hg2 _;obtain⟨g_v2,c_v2,rfl,_,_⟩:=World.ownsRow.form ho2 (Nat.succ_pos _)))
      go_roundw
      case rel=>
       have o1:=own_snoc ho1 HN.out;have o2:=own_snoc (os:=os++[m]) (by have h:=ho2;rw[<-ints_snoc]at h;exact h) (by simp;exact HN.out);have b1:=below_append HB.out HO.out hg1;exact⟨k+1,true,os++[m]++[y],by omega,by go_num,rfl,by simp;omega,o2,by rw[<-HP.out,put2 _ hmy hym];simp,below_append b1 ho1 hg2⟩
      case measure=>simp[intOf];omega
    ·have hD:decide (m<=y)=false:=decide_eq_false hmy
     have hym:y≠m:=by omega
     have hne:(y != m)=true:=by simpa using hym
     have hne2:decide (y=m)=false:=decide_eq_false hym
     go_wp2_with (first|(at_builtin;refine wpList_append_own _ rfl _ _ 23 rfl w.heap.size 3 i0 (.int .i64 0) 1 8 Tryz.underlying23 hi hz0 hz1 hz2 rfl (by decide) _ _ _ rfl (HO.out.alloc _) ⟨wr.heap.size,0,none⟩ 1 1 [.int .i64 y] rfl rfl (cell_one_new _ _ _) (by simp[Value.oneCell']) (by unfold maxLen;omega) (by omega) (by simp;omega) ?_;intro v1 w1 ho1 hg1 _;obtain⟨g_v1,c_v1,rfl,_,_⟩:=World.ownsRow.form ho1 (Nat.succ_pos _);have c_w1:=cell_append h1 hb HO.out hg1))
     go_roundw
     case rel=>exact⟨k+1,false,os++[y],by omega,by go_num,rfl,by simp;omega,own_snoc ho1 HN.out,by rw[<-HP.out,put4 _ (.inr (by omega)) hym,List.append_assoc],below_append HB.out HO.out hg1⟩
     case measure=>simp[intOf];omega
   |true=>
    by_cases hym:y=m
    ·subst hym
     go_wp2;go_roundw
     case rel=>exact⟨k+1,true,os,by omega,by go_num,rfl,by omega,by have h:=HO.out;rw[HN.out]at h;rw[HN.out];exact h,by rw[<-HP.out,put3],HB.out⟩
     case measure=>simp[intOf];omega
    ·have hne:(y != m)=true:=by simpa using hym
     have hne2:decide (y=m)=false:=decide_eq_false hym
     go_wp2_with (first|(at_builtin;refine wpList_append_own _ rfl _ _ 23 rfl w.heap.size 3 i0 (.int .i64 0) 1 8 Tryz.underlying23 hi hz0 hz1 hz2 rfl (by decide) _ _ _ rfl (HO.out.alloc _) ⟨wr.heap.size,0,none⟩ 1 1 [.int .i64 y] rfl rfl (cell_one_new _ _ _) (by simp[Value.oneCell']) (by unfold maxLen;omega) (by omega) (by simp;omega) ?_;intro v1 w1 ho1 hg1 _;obtain⟨g_v1,c_v1,rfl,_,_⟩:=World.ownsRow.form ho1 (Nat.succ_pos _);have c_w1:=cell_append h1 hb HO.out hg1))
     go_roundw
     case rel=>exact⟨k+1,true,os++[y],by omega,by go_num,rfl,by simp;omega,own_snoc ho1 HN.out,by rw[<-HP.out,put4 _ (.inl rfl) hym,List.append_assoc],below_append HB.out HO.out hg1⟩
     case measure=>simp[intOf];omega
  ·have hd0:zs.drop k=[]:=List.drop_of_length_le (by rw[HL.out];omega)
   rw[hd0]at HP;clear hd0;cases dn with
   |false=>
    have hPV:putL m zs false=os++[m]:=HP.out.symm;have HPV:=hd_ hPV;clear hPV
    by_cases h6:no+1<=6
    ·have h6':(no:Int)+1<=6:=by omega
     go_wp2_with (first|(at_builtin;refine wpList_append_own _ rfl _ _ 23 rfl w.heap.size 3 i0 (.int .i64 0) 1 8 Tryz.underlying23 hi hz0 hz1 hz2 rfl (by decide) _ _ _ rfl (HO.out.alloc _) ⟨wr.heap.size,0,none⟩ 1 1 [.int .i64 m] rfl rfl (cell_one_new _ _ _) (by simp[Value.oneCell']) (by unfold maxLen;omega) (by omega) (by simp;omega) ?_;intro v1 w1 ho1 hg1 _;obtain⟨g_v1,c_v1,rfl,_,_⟩:=World.ownsRow.form ho1 (Nat.succ_pos _);obtain⟨cc1,cc2⟩:=own_cap ho1))
     go_ret;refine⟨_,rfl,?_,below_append HB.out HO.out hg1⟩;have o1:=own_snoc ho1 HN.out;have e:putV zs m=os++[m]:=by unfold putV;rw[HPV.out,List.take_of_length_le (by simp;rw[<-HN.out];omega)]
     rw[e];exact o1
    ·have h6':¬(no:Int)+1<=6:=by omega
     go_wp2_with (first|(at_builtin;refine wpList_append_own _ rfl _ _ 23 rfl w.heap.size 3 i0 (.int .i64 0) 1 8 Tryz.underlying23 hi hz0 hz1 hz2 rfl (by decide) _ _ _ rfl (HO.out.alloc _) ⟨wr.heap.size,0,none⟩ 1 1 [.int .i64 m] rfl rfl (cell_one_new _ _ _) (by simp[Value.oneCell']) (by unfold maxLen;omega) (by omega) (by simp;omega) ?_;intro v1 w1 ho1 hg1 _;obtain⟨g_v1,c_v1,rfl,_,_⟩:=World.ownsRow.form ho1 (Nat.succ_pos _);obtain⟨cc1,cc2⟩:=own_cap ho1))
     go_ret;refine⟨_,rfl,?_,below_append HB.out HO.out hg1⟩;have o1:=own_snoc ho1 HN.out;have e:putV zs m=(os++[m]).take 6:=by unfold putV;rw[HPV.out]
     rw[e];exact o1.take 6 (by simp;rw[<-HN.out];omega)
   |true=>
    have hPV:putL m zs false=os:=by rw[<-HP.out];unfold putL;simp
    have HPV:=hd_ hPV;clear hPV;have hcc:=own_cap HO.out;obtain⟨cc1,cc2⟩:=hcc;have fin:∀k,k<=no->(k=no/\no<=6\/k=6)->OwnI wr w.heap.size (.slice x k cp) (putV zs m):=fun k hk h=>by
     have ho:=HO.out;have o1:OwnI wr w.heap.size (.slice x no cp) os:=by rw[HN.out]at ho;rw[HN.out];exact ho
     have hn:=HN.out;have e:putV zs m=os.take k:=by
      unfold putV;rw[HPV.out];rcases h with ⟨h,h6⟩|h
      ·rw[List.take_of_length_le (by omega),List.take_of_length_le (by omega)]
      ·rw[h]
     rw[e];exact o1.take k (by omega)
    have FIN:=hd_ fin;clear fin;have hx:(x=none/\no=0/\cp=0)\/∃g,x=some ⟨g,0,none⟩:=by
     rcases HO.out.2 with ⟨e,h0⟩|⟨g,cap,cur,e,_⟩
     ·exact .inl (by have:=Value.slice.inj e;exact this)
     ·exact .inr ⟨g,(Value.slice.inj e).1⟩
    rcases hx with ⟨rfl,rfl,rfl⟩|⟨g,rfl⟩
    ·go_wp2
     go_ret;exact⟨_,rfl,FIN.out 0 lr_ (.inl ⟨rfl,by omega⟩),HB.out⟩
    ·have cc3:(no:Int)<=(cp:Int):=by omega
     by_cases h6:no<=6
     ·have h6':(no:Int)<=6:=by omega
      go_wp2;go_ret;exact⟨_,rfl,FIN.out no lr_ (.inl ⟨rfl,h6⟩),HB.out⟩
     ·have h6':¬(no:Int)<=6:=by omega
      have c6:(6:Int)<=(cp:Int):=by omega
      go_wp2;go_ret;exact⟨_,rfl,FIN.out 6 (by omega) (.inr rfl),HB.out⟩
theorem l2Put_none (w:World) (m:Int):Calls Tryz.prog 225 #[.slice none 0 0,.int .i64 m] w fun e w'=>∃v,e=.returned v/\OwnI w' w.heap.size v (putV [] m)/\Below w.heap.size w w':=by
 obtain⟨i0,hi,hz0,hz1,hz2⟩:=info_parts few_info;have HO:=hd_ (few_empty w w.heap.size lr_);have hbl:=(Below.refl w.heap.size w).alloc lr_ (.cells #[] 3);have HB:=hd_ hbl;clear hbl;go_enter Tryz.func225,Tryz.ntmps225;go_wp2;refine wp_loop_rounds 1 ?_;rw[rounds_succ]
 go_wp2_with (first|(at_builtin;refine wpList_append_own _ rfl _ _ 23 rfl w.heap.size 3 i0 (.int .i64 0) 1 8 Tryz.underlying23 hi hz0 hz1 hz2 rfl (by decide) _ _ _ rfl (HO.out.alloc _) ⟨w.heap.size+1,0,none⟩ 1 1 [.int .i64 m] rfl rfl (by have:=cell_one_new (w.alloc (.cells #[] 3)) (.int .i64 m) 3;simpa using this) (by simp[Value.oneCell']) (by unfold maxLen;omega) (by omega) (by simp;omega) ?_;intro v1 w1 ho1 hg1 _;obtain⟨g_v1,c_v1,rfl,_,_⟩:=World.ownsRow.form ho1 (Nat.succ_pos _);obtain⟨cc1,cc2⟩:=own_cap ho1))
 go_ret;refine⟨_,rfl,?_,below_append HB.out HO.out hg1⟩;have o1:=own_snoc (os:=[]) ho1 rfl;exact o1
theorem l2Put_at (w:World) (v:Value) (zs:List Int) (m:Int) (h:Ints w v zs) (hn:zs.length<=100):
  Calls Tryz.prog 225 #[v,.int .i64 m] w fun e w'=>∃v,e=.returned v/\OwnI w' w.heap.size v (putV zs m)/\Below w.heap.size w w':=by
 rcases h with ⟨rfl,rfl⟩|⟨b,o,cap,rfl,_,_,hb,hc⟩
 ·exact l2Put_none w m
 ·exact l2Put_some w b o cap _ zs m rfl hn hb hc
def addOkF (zs:List Int) (t:Int):Bool:=fewB zs&&inThings t
def addF (zs:List Int) (t:Int):List Int:=if addOkF zs t=true then putV zs (markV t)else []
theorem addF_yes {zs:List Int} {t:Int} (h:addOkF zs t=true):addF zs t=putV zs (markV t):=if_pos h
theorem addF_no {zs:List Int} {t:Int} (h:addOkF zs t=false):addF zs t=[]:=if_neg (by rw[h];simp)
theorem spFewAdd_no (w:World) (u:Value) (zs:List Int) (t:Int) (h:Ints w u zs) (hno:addOkF zs t=false):
  Calls Tryz.prog 311 #[.agg #[u],.int .i64 t] w fun e w'=>e=.returned (.tuple #[.agg #[.slice none 0 0],.bool false])/\Below w.heap.size w w':=by
 have hA:=((Below.refl w.heap.size w).alloc lr_ (.cells #[u] 38)).alloc (by simp) (.cells #[.slice none 0 0] 38);have K:=hd_ (spFewOk_at _ u zs (h.below hA lr_));have HA:=hd_ hA;clear hA;obtain⟨⟨x,c,hx⟩,_⟩:=h.cases;obtain⟨n,hn⟩:∃n,n=zs.length:=⟨_,rfl⟩
 rw[<-hn]at hx;subst hx;clear h hn;have cr:((w.alloc (.cells #[.slice x n c] 38)).alloc (.cells #[.slice none 0 0] 38)).cell? ⟨w.heap.size+1,0,none⟩=some (.slice none 0 0):=by rw[World.cell?_alloc_at (hn:=by simp)];simp
 have fr:((w.alloc (.cells #[.slice x n c] 38)).alloc (.cells #[.slice none 0 0] 38)).frozen? ⟨w.heap.size+1,0,none⟩=false:=World.frozen?_alloc_at _ _ _ _ (by simp);cases hok:fewB zs with
 |false=>
  rw[hok]at K;clear hok hno;go_enter Tryz.func311,Tryz.ntmps311
  go_wp2_with fail
  refine K.out.mono ?_;rintro e w1 ⟨rfl,hb1⟩;have cr1:=cell_later hb1 cr;have fr1:w1.frozen? ⟨w.heap.size+1,0,none⟩=false:=by rw[hb1.frozen (by simp)];exact fr
  go_wp2;have hr:=World.cell?_setCell_same w1 ⟨w.heap.size+1,0,none⟩ (.slice none 0 0) cr1;exact bodyPost_ret (v:=.tuple #[.agg #[.slice none 0 0],.bool false]) (by simp[results,Tryz.results311,go_sem,hr]) rfl ⟨rfl,(HA.out.trans (hb1.mono HA.out.size)).setCell (by simp) _⟩
 |true=>
  rw[hok]at K;have ht:t<0\/63<t:=by
   unfold addOkF at hno;rw[hok]at hno;have:=(inThings_no t).1 (by simpa using hno);omega
  clear hok hno;go_enter Tryz.func311,Tryz.ntmps311
  go_wp2_with fail
  refine K.out.mono ?_;rintro e w1 ⟨rfl,hb1⟩;have cr1:=cell_later hb1 cr;have fr1:w1.frozen? ⟨w.heap.size+1,0,none⟩=false:=by rw[hb1.frozen (by simp)];exact fr
  go_wp2_with (go_at_call 66;refine (l6In_no _ _ _ _ ht).mono ?_;rintro e w' ⟨rfl,rfl⟩)
  have hr:=World.cell?_setCell_same w1 ⟨w.heap.size+1,0,none⟩ (.slice none 0 0) cr1;exact bodyPost_ret (v:=.tuple #[.agg #[.slice none 0 0],.bool false]) (by simp[results,Tryz.results311,go_sem,hr]) rfl ⟨rfl,(HA.out.trans (hb1.mono HA.out.size)).setCell (by simp) _⟩
theorem spFewAdd_yes (w:World) (u:Value) (zs:List Int) (t:Int) (h:Ints w u zs) (hok:fewB zs=true) (t0:0<=t) (t1:t<64):
  Calls Tryz.prog 311 #[.agg #[u],.int .i64 t] w fun e w'=>∃v,e=.returned (.tuple #[.agg #[v],.bool true])/\OwnI w' w.heap.size v (putV zs (markV t))/\Below w.heap.size w w':=by
 have hA:=((Below.refl w.heap.size w).alloc lr_ (.cells #[u] 38)).alloc (by simp) (.cells #[.slice none 0 0] 38);have I:=hd_ (h.below hA lr_);have K:=hd_ (spFewOk_at _ u zs I.out);rw[hok]at K;have HA:=hd_ hA;have hl:=(fewB_parts hok).1;have t2:t<=63:=by omega
 have KM:Hid (∀W,Calls Tryz.prog 321 #[.int .i64 t] W fun e w'=>e=.returned (.int .i64 (markV t))/\W=w'):=fun W=>spMark_at t W
 have KP:Hid (∀W,Ints W u zs->Calls Tryz.prog 225 #[u,.int .i64 (markV t)] W fun e w'=>∃v,e=.returned v/\OwnI w' W.heap.size v (putV zs (markV t))/\Below W.heap.size W w'):=fun W hW=>l2Put_at W u zs _ hW (by omega)
 clear hA;obtain⟨⟨x,c,hx⟩,_⟩:=h.cases;obtain⟨n,hn⟩:∃n,n=zs.length:=⟨_,rfl⟩
 rw[<-hn]at hx;subst hx;generalize markV t=M at *;clear h hn hok;have cb:((w.alloc (.cells #[.slice x n c] 38)).alloc (.cells #[.slice none 0 0] 38)).cell? ⟨w.heap.size,0,none⟩=some (.slice x n c):=by
  rw[World.cell?_alloc_past (hn:=by simp)];simp
 have cr:((w.alloc (.cells #[.slice x n c] 38)).alloc (.cells #[.slice none 0 0] 38)).cell? ⟨w.heap.size+1,0,none⟩=some (.slice none 0 0):=by rw[World.cell?_alloc_at (hn:=by simp)];simp
 have fr:((w.alloc (.cells #[.slice x n c] 38)).alloc (.cells #[.slice none 0 0] 38)).frozen? ⟨w.heap.size+1,0,none⟩=false:=World.frozen?_alloc_at _ _ _ _ (by simp);go_enter Tryz.func311,Tryz.ntmps311
 go_wp2_with fail
 refine K.out.mono ?_;rintro e w1 ⟨rfl,hb1⟩;have cb1:=cell_later hb1 cb;have cr1:=cell_later hb1 cr;have fr1:w1.frozen? ⟨w.heap.size+1,0,none⟩=false:=by rw[hb1.frozen (by simp)];exact fr
 have B1:=hd_ (HA.out.trans (hb1.mono HA.out.size));have I1:=hd_ (I.out.below hb1 lr_);have l1:w.heap.size+1<w1.heap.size:=World.block_lt_of_cell? _ _ cr1;clear hb1 cb cr fr I
 go_wp2_with (go_at_call 66;refine (l6In_yes _ _ _ _ t0 t2).mono ?_;rintro e w' ⟨rfl,rfl⟩)
 have KPd:Hid (Calls Tryz.prog 225 #[.slice x n c,.int .i64 M] w1.drew fun e w'=>∃v,e=.returned v/\OwnI w' w1.drew.heap.size v (putV zs M)/\Below w1.drew.heap.size w1.drew w'):=KP.out w1.drew I1.out
 go_region_with (first|(go_at_call 321;refine (KM.out _).mono ?_;rintro e w' ⟨rfl,rfl⟩)|(go_at_call 225;refine KPd.out.mono ?_;rintro e w2 ⟨v,rfl,ho2,hb2⟩;obtain⟨xv,cv,rfl⟩:=ho2.form;have cr2:=cell_later hb2 cr1;have fr2:w2.frozen? ⟨w.heap.size+1,0,none⟩=false:=(hb2.frozen (p:=⟨w.heap.size+1,0,none⟩) l1).trans fr1))
 all_goals
  have ho3:=(ho2.kept (grownBy_setCell w2 ⟨w.heap.size+1,0,none⟩ (.slice xv (putV zs M).length cv)) (fun k e=>by simp at e;simp;omega)).base (B':=w.heap.size) (by simp;omega);have hr:=World.cell?_setCell_same w2 ⟨w.heap.size+1,0,none⟩ (.slice xv (putV zs M).length cv) cr2
  have hb3:Below w.heap.size w (w2.setCell ⟨w.heap.size+1,0,none⟩ (.slice xv (putV zs M).length cv)):=((B1.out.trans (Below.drew (Below.refl _ _))).trans (hb2.mono (by simp;omega))).setCell (by simp) _;have HR:=hd_ hr;have H3:=hd_ ho3;have HB3:=hd_ hb3;clear hr ho3 hb3;go_wp2;have hr:=HR.out
  exact bodyPost_ret (v:=.tuple #[.agg #[.slice xv (putV zs M).length cv],.bool true]) (by simp[results,Tryz.results311,go_sem,hr]) rfl ⟨_,rfl,H3.out,HB3.out⟩
theorem spFewAdd_at (w:World) (u:Value) (zs:List Int) (t:Int) (h:Ints w u zs):
  Calls Tryz.prog 311 #[.agg #[u],.int .i64 t] w fun e w'=>∃v,e=.returned (.tuple #[.agg #[v],.bool (addOkF zs t)])/\OwnI w' w.heap.size v (addF zs t)/\Below w.heap.size w w':=by
 cases hok:addOkF zs t with
 |false=>
  rw[addF_no hok];exact (spFewAdd_no w u zs t h hok).mono fun e w' ⟨he,hb⟩=>⟨_,he,OwnI.nil _ _,hb⟩
 |true=>
  rw[addF_yes hok];have h':fewB zs=true/\inThings t=true:=by unfold addOkF at hok;simpa using hok
  have ht:=(inThings_iff t).1 h'.2;exact spFewAdd_yes w u zs t h h'.1 ht.1 ht.2
end Go.Proofs.YtcblbdpdbggkbaaGreat
set_option linter.unusedVariables false
namespace Go.Proofs.YtcblbdpdbggkbaaGreat
open Go.RowKit Go.Shelf
attribute [local go_sem] Oper.semAt_some
def InB (n₀:Nat) (w:World) (v:Value) (zs:List Int):Prop:=
 (v=.slice none 0 0/\zs=[])\/
 ∃b o c,v=.slice (some ⟨b,o,none⟩) zs.length c/\zs.length<=c/\c<=maxLen/\b<n₀/\∀i,i<zs.length->w.cell? ⟨b,o+i,none⟩=some (.int .i64 (zs.getD i 0))
theorem InB.below {n₀:Nat} {w w':World} {v:Value} {zs:List Int} (h:InB n₀ w v zs) (hb:Below n₀ w w'):InB n₀ w' v zs:=by
 rcases h with h|⟨b,o,c,e,h1,h2,h3,h4⟩
 ·exact .inl h
 ·exact .inr ⟨b,o,c,e,h1,h2,h3,fun i hi=>(hb.cell (p:=⟨b,o+i,none⟩) h3).trans (h4 i hi)⟩
theorem Ints.inB {w:World} {v:Value} {zs:List Int} (h:Ints w v zs):InB w.heap.size w v zs:=h
def firstV (zs:List Int):Int:=match zs with| []=>64|x::_=>x
def behindV (zs:List Int) (m:Int):List Int:=if firstV zs=m then zs.tail else zs
theorem firstMark_at (n₀:Nat) (w:World) (v:Value) (zs:List Int) (h:InB n₀ w v zs):
  Calls Tryz.prog 287 #[v] w fun e w'=>e=.returned (.int .i64 (firstV zs))/\w=w':=by
 rcases h with ⟨rfl,rfl⟩|⟨b,o,c,rfl,h1,h2,_,h4⟩
 ·go_enter Tryz.func287,Tryz.ntmps287
  go_wp2;go_ret;exact⟨rfl,rfl⟩
 ·cases zs with
  |nil=>
   go_enter Tryz.func287,Tryz.ntmps287;go_wp2;go_ret;exact⟨rfl,rfl⟩
  |cons x zs=>
   have h5:w.cell? ⟨b,o,none⟩=some (.int .i64 x):=h4 0 (by simp);obtain⟨n,hn⟩:∃n,n=(x::zs).length:=⟨_,rfl⟩
   have hp:0<n:=by rw[hn];simp
   rw[<-hn];have n0:((n:Int)==0)=false:=by simp;omega
   have n1:(0:Int)<(n:Int):=by omega
   clear h1 h2 h4 hn;go_enter Tryz.func287,Tryz.ntmps287;go_wp2;go_ret;exact⟨rfl,rfl⟩
theorem behindMark_at (n₀:Nat) (w:World) (v:Value) (zs:List Int) (m:Int) (h:InB n₀ w v zs) (hm:zs=[]->m≠64):
  Calls Tryz.prog 288 #[v,.int .i64 m] w fun e w'=>∃x c,e=.returned (.slice x (behindV zs m).length c)/\InB n₀ w (.slice x (behindV zs m).length c) (behindV zs m)/\w=w':=by
 have KF:Hid (Calls Tryz.prog 287 #[v] w fun e w'=>e=.returned (.int .i64 (firstV zs))/\w=w'):=firstMark_at n₀ w v zs h
 by_cases hf:firstV zs=m
 ·have hne:zs≠[]:=fun e=>hm e (by rw[<-hf,e];rfl)
  rcases h with ⟨_,e⟩|⟨b,o,c,rfl,h1,h2,h3,h4⟩
  ·exact absurd e hne
  have hlen:0<zs.length:=List.length_pos_iff.2 hne;have tl:∀i,i<zs.tail.length->zs.tail.getD i 0=zs.getD (i+1) 0:=fun i hi=>by simp
  have lt:zs.tail.length=zs.length - 1:=by simp
  have IN:Hid (∀o' c',zs.tail.length<=c'->c'<=maxLen->(o'=o+1\/zs.tail.length=0)->InB n₀ w (.slice (some ⟨b,o',none⟩) zs.tail.length c') zs.tail):=fun o' c' q1 q2 q3=>.inr ⟨b,o',c',rfl,q1,q2,h3,fun i hi=>by
      rcases q3 with q3|q3
      · rw[tl i hi, <-h4 (i+1) (by omega),q3,show o+1+i=o+(i+1) by omega]
      · omega⟩
  have eb:behindV zs m=zs.tail:=if_pos hf;rw[eb];rw[hf]at KF;obtain⟨n,hn⟩:∃n,n=zs.length:=⟨_,rfl⟩
  obtain⟨k,hk⟩:∃k,k=zs.tail.length:=⟨_,rfl⟩
  rw[<-hn]at KF hlen lt h1;rw[<-hn, <-hk];rw[<-hk]at IN lt;have n1:(1:Int)<=(n:Int):=by omega
  have c1:(n:Int)<=(c:Int):=by omega
  have ek:k=n - 1:=lt;subst ek;clear hn hk h4 tl lt hf hne hm eb
  by_cases hc:c=1
  ·subst hc
   obtain rfl:n=1:=by omega
   go_enter Tryz.func288,Tryz.ntmps288
   go_wp2_with fail
   refine KF.out.mono ?_;rintro e w1 ⟨rfl,rfl⟩;go_wp2;go_ret;exact⟨_,_,rfl,IN.out _ _ (by omega) (by omega) (.inr (by simp)),rfl⟩
  ·go_enter Tryz.func288,Tryz.ntmps288
   go_wp2_with fail
   refine KF.out.mono ?_;rintro e w1 ⟨rfl,rfl⟩;go_wp2;go_ret;exact⟨_,_,rfl,IN.out _ _ (by omega) (by omega) (.inl rfl),rfl⟩
 ·have eb:behindV zs m=zs:=if_neg hf
  have hf':(firstV zs==m)=false:=by simpa using hf
  have hd:decide (firstV zs=m)=false:=by simpa using hf
  rw[eb];have I:=hd_ h;obtain⟨x,c,hx⟩:∃x c,v=.slice x zs.length c:=by
   rcases h with ⟨rfl,rfl⟩|⟨b,o,c,rfl,_⟩
   ·exact⟨_,_,rfl⟩
   ·exact⟨_,_,rfl⟩
  obtain⟨n,hn⟩:∃n,n=zs.length:=⟨_,rfl⟩
  rw[<-hn]at hx ⊢;subst hx;generalize firstV zs=F at *;clear h hn eb hf hm;go_enter Tryz.func288,Tryz.ntmps288
  go_wp2_with fail
  refine KF.out.mono ?_;rintro e w1 ⟨rfl,rfl⟩;go_wp2;go_ret;exact⟨_,_,rfl,I.out,rfl⟩
def bothL:Nat->List Int->List Int->List Int
 | 0,_,_=>[]
 |k+1,zs,ys=>if zs=[]/\ys=[]then []else min (firstV zs) (firstV ys)::bothL k (behindV zs (min (firstV zs) (firstV ys))) (behindV ys (min (firstV zs) (firstV ys)))
def bothV (zs ys:List Int):List Int:=bothL (zs.length+ys.length) zs ys
theorem behindV_len (zs:List Int) (m:Int):(behindV zs m).length<=zs.length:=by unfold behindV;split<;>simp
theorem firstV_ne {zs:List Int} (h:∀z ∈ zs,z<64) (hn:zs≠[]):firstV zs<64:=by
 cases zs with
 |nil=>exact absurd rfl hn
 |cons x xs=>exact h x (by simp)
theorem both_less {zs ys:List Int} (hz:∀z ∈ zs,z<64) (hy:∀z ∈ ys,z<64) (h:¬(zs=[]/\ys=[])):
  min (firstV zs) (firstV ys)<64/\(behindV zs (min (firstV zs) (firstV ys))).length+(behindV ys (min (firstV zs) (firstV ys))).length<zs.length+ys.length:=by
 have l1:=behindV_len zs (min (firstV zs) (firstV ys));have l2:=behindV_len ys (min (firstV zs) (firstV ys));have less:∀us:List Int,us≠[]->firstV us=min (firstV zs) (firstV ys)->(behindV us (min (firstV zs) (firstV ys))).length<us.length:=fun us hu e=>by
  unfold behindV;rw[if_pos e];cases us with
  |nil=>exact absurd rfl hu
  |cons x xs=>simp
 by_cases h1:zs=[]
 ·have h2:ys≠[]:=fun e=>h ⟨h1,e⟩
  have f2:=firstV_ne hy h2;have f1:firstV zs=64:=by rw[h1];rfl
  have:=less ys h2 (by omega);exact⟨by omega,by omega⟩
 ·have f1:=firstV_ne hz h1
  by_cases h3:firstV zs<=firstV ys
  ·have:=less zs h1 (by omega)
   exact⟨by omega,by omega⟩
  ·have h2:ys≠[]:=fun e=>h3 (by rw[e];show firstV zs<=64;omega)
   have:=less ys h2 (by omega);exact⟨by omega,by omega⟩
theorem behindV_mem {zs:List Int} {m z:Int} (h:z ∈ behindV zs m):z ∈ zs:=by
 unfold behindV at h
 split at h
 ·exact List.mem_of_mem_tail h
 ·exact h
def sliceN:Value->Nat
 | .slice _ n _=>n
 |_=>0
theorem both1_in (n:Nat) (hn:1<=n) (l Ba Bb n₀:Nat) (u v:Value) (zs ys:List Int) (hz:∀z ∈ zs,z<64) (hy:∀z ∈ ys,z<64) (J Jx:List Int->World->Prop)
  (hY:∀pre x W,J pre W->pre.length<zs.length+ys.length->YieldAt Fence.wide (n - 1) Tryz.prog l #[.int .i64 x] W fun e W'=>
      (e=.returned (.bool true)/\J (pre++[x]) W'/\Below n₀ W W')\/(e=.returned (.bool false)/\Jx (pre++[x]) W'))
  (hJd:∀s W1,J s W1->J s W1.drew) (W:World) (hA:W.cell? ⟨Ba,0,none⟩=some u) (hB:W.cell? ⟨Bb,0,none⟩=some v) (iA:InB n₀ W u zs) (iB:InB n₀ W v ys) (h0:J [] W):
  CallsIn Fence.wide n Tryz.prog 286 #[.func (.yield l) #[] #[],.pointer (some ⟨Ba,0,none⟩),.pointer (some ⟨Bb,0,none⟩)] W fun e W'=>(∃v,e=.returned v)/\
   ((∃xs,xs=bothV zs ys/\J xs W')\/(∃pre,pre<+:bothV zs ys/\Jx pre W')):=by
 have form:∀{v zs},InB n₀ W v zs->∃x c,v=.slice x zs.length c:=fun h=>by
  rcases h with ⟨rfl,rfl⟩|⟨b,o,c,rfl,_⟩
  ·exact⟨_,_,rfl⟩
  ·exact⟨_,_,rfl⟩
 obtain⟨xa,ca,rfl⟩:=form iA;obtain⟨xb,cb,rfl⟩:=form iB;obtain⟨na,hna⟩:∃na,na=zs.length:=⟨_,rfl⟩
 obtain⟨nb,hnb⟩:∃nb,nb=ys.length:=⟨_,rfl⟩
 rw[<-hna]at hA iA;rw[<-hnb]at hB iB;have NA:=hd_ hna;have NB:=hd_ hnb;have IA:=hd_ iA;have IB:=hd_ iB;have HY:=hd_ hY;have HZ:=hd_ hz;have HYS:=hd_ hy;have H0:=hd_ h0;clear form hna hnb iA iB hY hz hy h0;refine callsIn_of_wp Tryz.func286 rfl trivial ?_ rfl
 simp only[Tryz.ntmps286,List.size_toArray,List.length_cons,List.length_nil,Nat.reduceAdd,Nat.reduceSub,Array.replicate_succ,Array.replicate_zero,List.push_toArray,List.append_toArray,List.nil_append,List.cons_append]
 gi_wp2
 gi_region
 gi_wp2
 gi_loopw [4,5] (fun p q wr=>∃(pre xs ys':List Int) (k:Nat),InB n₀ wr p xs/\InB n₀ wr q ys'/\(∀z ∈ xs,z<64)/\(∀z ∈ ys',z<64)/\pre++bothL k xs ys'=bothV zs ys/\xs.length+ys'.length<=k/\pre.length+(xs.length+ys'.length)<=zs.length+ys.length/\sliceN p=xs.length/\sliceN q=ys'.length/\J pre wr)
  (fun p q _=>sliceN p+sliceN q)
 case atStart=>exact⟨[],zs,ys,zs.length+ys.length,IA.out,IB.out,HZ.out,HYS.out,rfl,Nat.le_refl _,by simp,NA.out,NB.out,hJd _ _ H0.out⟩
 case round=>
  obtain⟨pre,xs,ys',k,ia,ib,hx,hy',hb,hk,hpre,sa,sb,hJs⟩:=hrel;have form:∀{v zs},InB n₀ wr v zs->∃x c,v=.slice x zs.length c:=fun h=>by
   rcases h with ⟨rfl,rfl⟩|⟨b,o,c,rfl,_⟩
   ·exact⟨_,_,rfl⟩
   ·exact⟨_,_,rfl⟩
  obtain⟨ya,da,rfl⟩:=form ia;obtain⟨yb,db,rfl⟩:=form ib;clear form sa sb
  by_cases hE:xs=[]/\ys'=[]
  ·obtain⟨rfl,rfl⟩:=hE
   have fin:Hid (pre=bothV zs ys):=by
    have e:bothL k [] []=[]:=by
     cases k with
     |zero=>rfl
     |succ k=>simp[bothL]
    show pre=_
    rw[<-hb,e,List.append_nil]
   have HJ:=hd_ hJs;clear ia ib hx hy' hb hk hpre hJs
   gi_wp2
   go_end0
   exact⟨⟨_,rfl⟩,.inl ⟨pre,fin.out,HJ.out⟩⟩
  ·have hl:=both_less hx hy' hE
   obtain⟨k',rfl⟩:∃k',k=k'+1:=by
    cases k with
    |zero=>exact absurd ⟨List.eq_nil_of_length_eq_zero (by omega),List.eq_nil_of_length_eq_zero (by omega)⟩ hE
    |succ k=>exact⟨k,rfl⟩
   have hb':pre++[min (firstV xs) (firstV ys')]++bothL k' (behindV xs (min (firstV xs) (firstV ys'))) (behindV ys' (min (firstV xs) (firstV ys')))=bothV zs ys:=by
    rw[<-hb]
    conv=>rhs;unfold bothL
    rw[if_neg hE];simp
   have KA:=hd_ (firstMark_at n₀ wr _ xs ia);have KB:=hd_ (firstMark_at n₀ wr _ ys' ib);obtain⟨M,hM⟩:∃M,M=min (firstV xs) (firstV ys'):=⟨_,rfl⟩
   rw[<-hM]at hl hb';have HB:=hd_ hb';have LE:=hd_ hl;have LT:Hid (pre.length<zs.length+ys.length):=by
    have:0<xs.length+ys'.length:=by omega
    show pre.length<_
    omega
   have JS:=hd_ hJs;have RA:Hid (∀W3,Below n₀ wr W3->Calls Tryz.prog 288 #[.slice ya xs.length da,.int .i64 M] W3 fun e w'=>∃x c,e=.returned (.slice x (behindV xs M).length c)/\InB n₀ W3 (.slice x (behindV xs M).length c) (behindV xs M)/\W3=w'):=fun W3 h3=>
    behindMark_at n₀ W3 _ xs M (ia.below h3) (fun _=>by omega)
   have RB:Hid (∀W3,Below n₀ wr W3->Calls Tryz.prog 288 #[.slice yb ys'.length db,.int .i64 M] W3 fun e w'=>∃x c,e=.returned (.slice x (behindV ys' M).length c)/\InB n₀ W3 (.slice x (behindV ys' M).length c) (behindV ys' M)/\W3=w'):=fun W3 h3=>
    behindMark_at n₀ W3 _ ys' M (ib.below h3) (fun _=>by omega)
   have MA:Hid (∀z ∈ behindV xs M,z<64):=fun z h=>hx z (behindV_mem h)
   have MB:Hid (∀z ∈ behindV ys' M,z<64):=fun z h=>hy' z (behindV_mem h)
   have HPR:=hd_ hpre;have HK:=hd_ hk;have pos:0<xs.length\/(xs.length=0/\0<ys'.length):=by omega
   obtain⟨fn,tmps,assign,body,hy,hR⟩:=HY.out pre M wr hJs LT.out;obtain⟨nx,hnx⟩:∃nx,nx=xs.length:=⟨_,rfl⟩
   obtain⟨ny,hny⟩:∃ny,ny=ys'.length:=⟨_,rfl⟩
   rw[<-hnx]at KA RA pos ⊢;rw[<-hny]at KB RB pos ⊢;have NX:=hd_ hnx;have NY:=hd_ hny;generalize firstV xs=f1 at *;generalize firstV ys'=f2 at *;clear ia ib hx hy' hb hb' hk hpre hJs hl hE hnx hny;have hmin:(f1<=f2/\M=f1)\/(¬f1<=f2/\M=f2):=by omega
   clear hM;rcases pos with px|⟨rfl,py⟩
   ·have px':(0:Int)<(nx:Int):=by omega
    rcases hmin with ⟨hle,rfl⟩|⟨hle,rfl⟩
    ·gi_wp2_with (first
            |(refine⟨trivial,?_⟩;gi_at_call 287;(with_reducible refine (callsIn_wide.2 KA.out).mono ?_);rintro e w1 ⟨rfl,rfl⟩;clear KA)
            |(refine⟨trivial,?_⟩;gi_at_call 287;(with_reducible refine (callsIn_wide.2 KB.out).mono ?_);rintro e w1 ⟨rfl,rfl⟩;clear KB))
     refine hR.mono ?_;rintro e W3 (⟨rfl,hJ3,hk3⟩|⟨rfl,hJx3⟩)
     ·have RA3:=hd_ (RA.out W3 hk3)
      have RB3:=hd_ (RB.out W3 hk3);have J3:=hd_ hJ3;clear RA RB hk3 hJ3 hR hy
      gi_wp2_with (first
              |(refine⟨trivial,?_⟩;gi_at_call 288;(with_reducible refine (callsIn_wide.2 RA3.out).mono ?_);rintro e w1 ⟨qa,ea,rfl,oa,rfl⟩;clear RA3)
              |(refine⟨trivial,?_⟩;gi_at_call 288;(with_reducible refine (callsIn_wide.2 RB3.out).mono ?_);rintro e w1 ⟨qb,eb,rfl,ob,rfl⟩;clear RB3))
      go_roundw
      case rel=>exact⟨pre++[M],behindV xs M,behindV ys' M,k',oa,ob,MA.out,MB.out,HB.out,by have h1:=LE.out;have h2:=HK.out;omega,by have h1:=LE.out;have h2:=HPR.out;simp;omega,rfl,rfl,J3.out⟩
      case measure=>have h1:=LE.out;have h2:=NX.out;have h3:=NY.out;simp[sliceN];omega
     ·have JX:=hd_ hJx3
      have PF:Hid (pre++[M]<+:bothV zs ys):=⟨_,HB.out⟩
      clear hJx3
      gi_wp2
      refine bodyPost_ret (results_none rfl _ _ _) rfl ?_;exact⟨⟨_,rfl⟩,.inr ⟨pre++[M],PF.out,JX.out⟩⟩
    ·gi_wp2_with (first
            |(refine⟨trivial,?_⟩;gi_at_call 287;(with_reducible refine (callsIn_wide.2 KA.out).mono ?_);rintro e w1 ⟨rfl,rfl⟩;clear KA)
            |(refine⟨trivial,?_⟩;gi_at_call 287;(with_reducible refine (callsIn_wide.2 KB.out).mono ?_);rintro e w1 ⟨rfl,rfl⟩;clear KB))
     refine hR.mono ?_;rintro e W3 (⟨rfl,hJ3,hk3⟩|⟨rfl,hJx3⟩)
     ·have RA3:=hd_ (RA.out W3 hk3)
      have RB3:=hd_ (RB.out W3 hk3);have J3:=hd_ hJ3;clear RA RB hk3 hJ3 hR hy
      gi_wp2_with (first
              |(refine⟨trivial,?_⟩;gi_at_call 288;(with_reducible refine (callsIn_wide.2 RA3.out).mono ?_);rintro e w1 ⟨qa,ea,rfl,oa,rfl⟩;clear RA3)
              |(refine⟨trivial,?_⟩;gi_at_call 288;(with_reducible refine (callsIn_wide.2 RB3.out).mono ?_);rintro e w1 ⟨qb,eb,rfl,ob,rfl⟩;clear RB3))
      go_roundw
      case rel=>exact⟨pre++[M],behindV xs M,behindV ys' M,k',oa,ob,MA.out,MB.out,HB.out,by have h1:=LE.out;have h2:=HK.out;omega,by have h1:=LE.out;have h2:=HPR.out;simp;omega,rfl,rfl,J3.out⟩
      case measure=>have h1:=LE.out;have h2:=NX.out;have h3:=NY.out;simp[sliceN];omega
     ·have JX:=hd_ hJx3
      have PF:Hid (pre++[M]<+:bothV zs ys):=⟨_,HB.out⟩
      clear hJx3
      gi_wp2
      refine bodyPost_ret (results_none rfl _ _ _) rfl ?_;exact⟨⟨_,rfl⟩,.inr ⟨pre++[M],PF.out,JX.out⟩⟩
   ·have py':(0:Int)<(ny:Int):=by omega
    rcases hmin with ⟨hle,rfl⟩|⟨hle,rfl⟩
    ·gi_wp2_with (first
            |(refine⟨trivial,?_⟩;gi_at_call 287;(with_reducible refine (callsIn_wide.2 KA.out).mono ?_);rintro e w1 ⟨rfl,rfl⟩;clear KA)
            |(refine⟨trivial,?_⟩;gi_at_call 287;(with_reducible refine (callsIn_wide.2 KB.out).mono ?_);rintro e w1 ⟨rfl,rfl⟩;clear KB))
     refine hR.mono ?_;rintro e W3 (⟨rfl,hJ3,hk3⟩|⟨rfl,hJx3⟩)
     ·have RA3:=hd_ (RA.out W3 hk3)
      have RB3:=hd_ (RB.out W3 hk3);have J3:=hd_ hJ3;clear RA RB hk3 hJ3 hR hy
      gi_wp2_with (first
              |(refine⟨trivial,?_⟩;gi_at_call 288;(with_reducible refine (callsIn_wide.2 RA3.out).mono ?_);rintro e w1 ⟨qa,ea,rfl,oa,rfl⟩;clear RA3)
              |(refine⟨trivial,?_⟩;gi_at_call 288;(with_reducible refine (callsIn_wide.2 RB3.out).mono ?_);rintro e w1 ⟨qb,eb,rfl,ob,rfl⟩;clear RB3))
      go_roundw
      case rel=>exact⟨pre++[M],behindV xs M,behindV ys' M,k',oa,ob,MA.out,MB.out,HB.out,by have h1:=LE.out;have h2:=HK.out;omega,by have h1:=LE.out;have h2:=HPR.out;simp;omega,rfl,rfl,J3.out⟩
      case measure=>have h1:=LE.out;have h2:=NX.out;have h3:=NY.out;simp[sliceN];omega
     ·have JX:=hd_ hJx3
      have PF:Hid (pre++[M]<+:bothV zs ys):=⟨_,HB.out⟩
      clear hJx3
      gi_wp2
      refine bodyPost_ret (results_none rfl _ _ _) rfl ?_;exact⟨⟨_,rfl⟩,.inr ⟨pre++[M],PF.out,JX.out⟩⟩
    ·gi_wp2_with (first
            |(refine⟨trivial,?_⟩;gi_at_call 287;(with_reducible refine (callsIn_wide.2 KA.out).mono ?_);rintro e w1 ⟨rfl,rfl⟩;clear KA)
            |(refine⟨trivial,?_⟩;gi_at_call 287;(with_reducible refine (callsIn_wide.2 KB.out).mono ?_);rintro e w1 ⟨rfl,rfl⟩;clear KB))
     refine hR.mono ?_;rintro e W3 (⟨rfl,hJ3,hk3⟩|⟨rfl,hJx3⟩)
     ·have RA3:=hd_ (RA.out W3 hk3)
      have RB3:=hd_ (RB.out W3 hk3);have J3:=hd_ hJ3;clear RA RB hk3 hJ3 hR hy
      gi_wp2_with (first
              |(refine⟨trivial,?_⟩;gi_at_call 288;(with_reducible refine (callsIn_wide.2 RA3.out).mono ?_);rintro e w1 ⟨qa,ea,rfl,oa,rfl⟩;clear RA3)
              |(refine⟨trivial,?_⟩;gi_at_call 288;(with_reducible refine (callsIn_wide.2 RB3.out).mono ?_);rintro e w1 ⟨qb,eb,rfl,ob,rfl⟩;clear RB3))
      go_roundw
      case rel=>exact⟨pre++[M],behindV xs M,behindV ys' M,k',oa,ob,MA.out,MB.out,HB.out,by have h1:=LE.out;have h2:=HK.out;omega,by have h1:=LE.out;have h2:=HPR.out;simp;omega,rfl,rfl,J3.out⟩
      case measure=>have h1:=LE.out;have h2:=NX.out;have h3:=NY.out;simp[sliceN];omega
     ·have JX:=hd_ hJx3
      have PF:Hid (pre++[M]<+:bothV zs ys):=⟨_,HB.out⟩
      clear hJx3
      gi_wp2
      refine bodyPost_ret (results_none rfl _ _ _) rfl ?_;exact⟨⟨_,rfl⟩,.inr ⟨pre++[M],PF.out,JX.out⟩⟩
attribute [local go_sem] Oper.semAt_some
theorem marksOfBoth_at (w:World) (u v:Value) (x y:Option Addr) (n m c d:Nat) (hu:u=.slice x n c) (hv:v=.slice y m d):
  Calls Tryz.prog 249 #[u,v] w fun e w'=>e=.returned (.func (.func 286) #[] #[.pointer (some ⟨w.heap.size,0,none⟩),.pointer (some ⟨w.heap.size+1,0,none⟩)])/\w'=(w.alloc (.cells #[u] 23)).alloc (.cells #[v] 23):=by
 subst hu hv;refine (callsIn_wide (n:=3)).1 ?_;refine callsIn_of_wp Tryz.func249 rfl trivial ?_ rfl;simp only[Tryz.ntmps249,List.size_toArray,List.length_cons,List.length_nil,Nat.reduceAdd,Nat.reduceSub,Array.replicate_succ,Array.replicate_zero,List.push_toArray,List.append_toArray,List.nil_append,List.cons_append]
 gi_wp2
 go_ret;exact⟨rfl,rfl⟩
theorem mem_get' {zs:List Int} {x:Int}:x ∈ zs↔∃i,i<zs.length/\zs.getD i 0=x:=by
 constructor
 ·intro h
  obtain⟨i,hi,rfl⟩:=List.getElem_of_mem h;exact⟨i,hi,by simp[hi]⟩
 ·rintro⟨i,hi,rfl⟩
  exact getD_mem zs i 0 hi
theorem both_stops (n:Nat) (hn:1<=n) (Ba Bb n₀:Nat) (u v:Value) (zs ys:List Int) (hz:∀z ∈ zs,z<64) (hy:∀z ∈ ys,z<64) (w:World) (hBa:Ba<w.heap.size) (hBb:Bb<w.heap.size) (hn₀:n₀<=w.heap.size)
  (hA:w.cell? ⟨Ba,0,none⟩=some u) (hB:w.cell? ⟨Bb,0,none⟩=some v) (iA:InB n₀ w u zs) (iB:InB n₀ w v ys):
  SeqStopsK Fence.wide n Tryz.prog 286 #[.pointer (some ⟨Ba,0,none⟩),.pointer (some ⟨Bb,0,none⟩)] (fun x:Int=>#[Value.int .i64 x]) (Below n₀) (fun xs=>xs=bothV zs ys) (fun pre=>pre<+:bothV zs ys) (zs.length+ys.length) w:=fun l J Jx W hW hJ _ hY h0=>
 both1_in n hn l Ba Bb n₀ u v zs ys hz hy J Jx hY (fun s W1 h=>hJ s W1 W1.drew none h ⟨rfl,rfl,rfl,Nat.le_refl _,fun _ _ _=>rfl⟩ (fun _ e=>by cases e)) W ((hW.cell (p:=⟨Ba,0,none⟩) hBa).trans hA) ((hW.cell (p:=⟨Bb,0,none⟩) hBb).trans hB) (iA.below (hW.mono hn₀)) (iB.below (hW.mono hn₀)) h0
theorem imFewJoin_yes (w:World) (u v:Value) (zs ys:List Int) (ha:Ints w u zs) (hb:Ints w v ys) (oka:fewB zs=true) (okb:fewB ys=true):
  Calls Tryz.prog 196 #[.agg #[u],.agg #[v]] w fun e w'=>∃v',e=.returned (.tuple #[.agg #[v'],.bool true])/\OwnI w' w.heap.size v' ((bothV zs ys).take 6)/\Below w.heap.size w w':=by
 obtain⟨i0,hi,hz0,hz1,hz2⟩:=info_parts few_info;have hA:=(((Below.refl w.heap.size w).alloc lr_ (.cells #[u] 38)).alloc (by simp) (.cells #[v] 38)).alloc (by simp;omega) (.cells #[.slice none 0 0] 38);have z64:∀z ∈ zs,z<64:=fun z hz=>by
  obtain⟨i,hi,rfl⟩:=mem_get'.1 hz;have:=((fewB_parts oka).2.1 i hi).2;omega
 have y64:∀z ∈ ys,z<64:=fun z hz=>by
  obtain⟨i,hi,rfl⟩:=mem_get'.1 hz;have:=((fewB_parts okb).2.1 i hi).2;omega
 have la:=(fewB_parts oka).1;have lb:=(fewB_parts okb).1;have IA:=hd_ ha.inB;have IB:=hd_ hb.inB;have KA:=hd_ (imFewOk_at _ u zs (ha.below hA lr_));have JB:=hd_ (hb.below hA lr_);rw[oka]at KA;have HA:=hd_ hA;obtain⟨⟨x,c,hx⟩,_⟩:=ha.cases;obtain⟨⟨y,d,hy⟩,_⟩:=hb.cases;obtain⟨na,hna⟩:∃n,n=zs.length:=⟨_,rfl⟩
 obtain⟨nb,hnb⟩:∃n,n=ys.length:=⟨_,rfl⟩
 rw[<-hna]at hx;rw[<-hnb]at hy;have NA:=hd_ hna;have NB:=hd_ hnb;subst hx hy;obtain⟨w0,hw0⟩:∃w0,w0=((w.alloc (.cells #[.slice x na c] 38)).alloc (.cells #[.slice y nb d] 38)).alloc (.cells #[.slice none 0 0] 38):=⟨_,rfl⟩
 have c0:w0.cell? ⟨w.heap.size,0,none⟩=some (.slice x na c):=by rw[hw0,World.cell?_alloc_past (hn:=by simp;omega),World.cell?_alloc_past (hn:=by simp)];simp
 have c1:w0.cell? ⟨w.heap.size+1,0,none⟩=some (.slice y nb d):=by rw[hw0,World.cell?_alloc_past (hn:=by simp),World.cell?_alloc_at (hn:=by simp)];simp
 have b2:Go.Boxed w0 (w.heap.size+1+1) 38 (.slice none 0 0):=by
  rw[hw0];have:=Go.Boxed.new ((w.alloc (.cells #[.slice x na c] 38)).alloc (.cells #[.slice y nb d] 38)) 38 (.slice none 0 0);simpa using this
 have S0:Hid (w0.heap.size=w.heap.size+3):=by show w0.heap.size=_;rw[hw0];simp
 rw[<-hw0]at KA JB HA;have B2:=hd_ b2;have HW:=hd_ hw0;clear ha hb hA hna hnb hw0 b2 oka la lb;refine (callsIn_wide (n:=9)).1 ?_;refine callsIn_of_wp_marks Tryz.func196 rfl trivial ?_ rfl
 simp only[Tryz.ntmps196,List.size_toArray,List.length_cons,List.length_nil,Nat.reduceAdd,Nat.reduceSub,Array.replicate_succ,Array.replicate_zero,List.push_toArray,List.append_toArray,List.nil_append,List.cons_append]
 gi_wp2_with fail
 rw[<-HW.out];refine⟨trivial,(callsIn_wide.2 KA.out).mono ?_⟩;rintro e w1 ⟨rfl,hb1⟩;have c01:=cell_later hb1 c0;have c11:=cell_later hb1 c1;have KB:=hd_ (imFewOk_at w1 _ ys (JB.out.below hb1 lr_));rw[okb]at KB;have BX1:Hid (Go.Boxed w1 (w.heap.size+1+1) 38 (.slice none 0 0)):=(hb1.block _ B2.out.lt).trans B2.out;have L1:=hd_ (HA.out.trans (hb1.mono HA.out.size))
 have S1:Hid (w.heap.size+3<=w1.heap.size):=by have h1:=S0.out;have h2:=hb1.size;show _<=_;omega
 clear hb1 c0 c1 okb
 gi_wp2_with fail
 refine⟨trivial,(callsIn_wide.2 KB.out).mono ?_⟩;rintro e w2 ⟨rfl,hb2⟩;have c02:=cell_later hb2 c01;have c12:=cell_later hb2 c11;have BX2:Hid (Go.Boxed w2 (w.heap.size+1+1) 38 (.slice none 0 0)):=(hb2.block _ BX1.out.lt).trans BX1.out;have L2:=hd_ (L1.out.trans (hb2.mono L1.out.size));have S2:Hid (w.heap.size+3<=w2.heap.size):=by have h1:=S1.out;have h2:=hb2.size;show _<=_;omega
 have l0:w.heap.size<w2.heap.size:=World.block_lt_of_cell? _ _ c02;have l1:w.heap.size+1<w2.heap.size:=World.block_lt_of_cell? _ _ c12;have c03:(w2.alloc (.cells #[.slice none 0 0] 23)).cell? ⟨w.heap.size,0,none⟩=some (.slice x na c):=by rw[World.cell?_alloc_past (hn:=l0)];exact c02
 have c13:(w2.alloc (.cells #[.slice none 0 0] 23)).cell? ⟨w.heap.size+1,0,none⟩=some (.slice y nb d):=by rw[World.cell?_alloc_past (hn:=l1)];exact c12
 have e1:¬w.heap.size=w2.heap.size:=by omega
 have e2:¬w.heap.size+1=w2.heap.size:=by omega
 clear hb2 c01 c11
 gi_wp2_with fail
 refine⟨trivial,(callsIn_wide.2 (marksOfBoth_at _ _ _ x y na nb c d rfl rfl)).mono ?_⟩;rintro e w3 ⟨rfl,hw3⟩;have s3:w3.heap.size=w2.heap.size+3:=by rw[hw3];simp
 have kb:Go.Boxed w3 w2.heap.size 23 (.slice none 0 0):=by rw[hw3];exact ((Go.Boxed.new w2 23 (.slice none 0 0)).alloc _).alloc _
 have rb:Go.Boxed w3 (w.heap.size+1+1) 38 (.slice none 0 0):=by rw[hw3];exact ((BX2.out.alloc _).alloc _).alloc _
 have ca:w3.cell? ⟨w2.heap.size+1,0,none⟩=some (.slice x na c):=by rw[hw3,World.cell?_alloc_past (hn:=by simp),World.cell?_alloc_at (hn:=by simp)];simp
 have cb:w3.cell? ⟨w2.heap.size+2,0,none⟩=some (.slice y nb d):=by rw[hw3,World.cell?_alloc_at (hn:=by simp)];simp
 have hB3:Below w.heap.size w w3:=by
  have h2:=S2.out;have:=((L2.out.alloc (o:=.cells #[.slice none 0 0] 23) L2.out.size).alloc (o:=.cells #[.slice x na c] 23) (by have:=L2.out.size;simp;omega)).alloc (o:=.cells #[.slice y nb d] 23) (by have:=L2.out.size;simp;omega);rw[hw3];exact this
 have B3:=hd_ hB3;have HW3:=hd_ hw3;have lw:Hid (w.heap.size+3<=w2.heap.size):=S2.out;clear hw3 c02 c12 c03 c13 hB3 l0 l1 e1 e2;simp only[World.size_alloc]
 gi_wp2
 refine wpIn_rangeFunc_ownG rfl (by omega) (gf:=286) (lb:=#[.pointer (some ⟨w2.heap.size+1,0,none⟩),.pointer (some ⟨w2.heap.size+1+1,0,none⟩)]) rfl trivial (enters_of Tryz.func286 (by kernel_rfl) rfl)
  (both_stops 8 (by omega) (w2.heap.size+1) (w2.heap.size+2) w.heap.size _ _ zs ys z64 y64 w3 (by omega) (by omega) B3.out.size ca cb (IA.out.below B3.out) (IB.out.below B3.out)) belowK_t (belowK_b (by have:=lw.out;omega)) (Below.refl _ _) (fun _=>rfl)
  (fun (pre:List Int) W=>(∃v,Go.Boxed W w2.heap.size 23 v/\W.ownsRow w.heap.size 3 1 v pre.length (ints pre)/\True)/\Go.Boxed W (w.heap.size+1+1) 38 (.slice none 0 0)/\Below w.heap.size w W/\pre.length<=6)
  (fun c (pre:List Int) W=>(c=.exit 0/\pre.length=7)/\(∃v,Go.Boxed W w2.heap.size 23 v/\W.ownsRow w.heap.size 3 1 v 6 (ints (pre.take 6))/\True)/\Go.Boxed W (w.heap.size+1+1) 38 (.slice none 0 0)/\Below w.heap.size w W)
  (OwnFrom.and (Own.from (holdsRow_own w.heap.size w2.heap.size 23 3 1 (fun pre:List Int=>pre.length) (fun pre=>ints pre) (fun _ _=>True)) _) (OwnFrom.and (Own.from (boxed_own (w.heap.size+1+1) 38 (fun _=>.slice none 0 0)) _) (OwnFrom.and (ownFrom_below lr_ B3.out.size) (ownFrom_pure _ (fun pre:List Int=>pre.length<=6)))))
  (fun c=>OwnFrom.and (ownFrom_pure _ (fun pre:List Int=>c=.exit 0/\pre.length=7)) (OwnFrom.and (Own.from (holdsRow_own w.heap.size w2.heap.size 23 3 1 (fun _=>6) (fun pre:List Int=>ints (pre.take 6)) (fun _ _=>True)) _) (OwnFrom.and (Own.from (boxed_own (w.heap.size+1+1) 38 (fun _=>.slice none 0 0)) _) (ownFrom_below lr_ B3.out.size))))
  ⟨⟨_,kb,World.ownsRow_nil _ _ _ _,trivial⟩,rb,B3.out,by simp⟩
  (fun m=>{ tmps:=#[.agg #[.slice x na c],.agg #[.slice y nb d],.pointer (some ⟨w.heap.size,0,none⟩),.pointer (some ⟨w.heap.size+1,0,none⟩),.pointer (some ⟨w.heap.size+1+1,0,none⟩),.bool false,.pointer (some ⟨w2.heap.size,0,none⟩),.int .i64 m,.agg #[.slice x na c],.bool true,.bool false,.bool false,.agg #[.slice y nb d],.bool true,.bool false,.bool false,undef,.pointer (some ⟨w.heap.size,0,none⟩),.slice x na c,.pointer (some ⟨w.heap.size+1,0,none⟩),.slice y nb d,.func (.func 286) #[] #[.pointer (some ⟨w2.heap.size+1,0,none⟩),.pointer (some ⟨w2.heap.size+1+1,0,none⟩)],.int .i64 m,undef,undef,undef,undef,undef,undef,undef,undef,undef],defers:=[] }) ?assign ?body ?done ?stop
 case assign=>
  intro l x W K hK
  gi_wp2
  exact hK
 case body=>
  rintro l pre m W ⟨⟨v,hv,hrow,_⟩,hR,hB,hp6⟩ hlt;have hf:=(show OwnI W w.heap.size v pre from hrow).form;obtain⟨xv,cv,rfl⟩:=hf;obtain⟨np,hnp⟩:∃np,np=pre.length:=⟨_,rfl⟩
  rw[<-hnp]at hv hrow hp6;have hc:=hv.cell;have NP:=hd_ hnp;have HR:=hd_ hR;have HBW:=hd_ hB;have lS:=hB.size;have lw3:=lw.out;have dR:=hR.not_row (by decide) hrow;clear hR hB hnp hlt
  by_cases h6:np=6
  ·subst h6
   gi_wp2
   refine⟨KeepsFrom.refl _ _,⟨rfl,by simp;rw[<-NP.out]⟩,⟨_,hv,?_,trivial⟩,HR.out,HBW.out⟩;have e:(pre++[m]).take 6=pre:=by rw[List.take_append_of_le_length (by rw[<-NP.out];exact Nat.le_refl _),List.take_of_length_le (by rw[<-NP.out];exact Nat.le_refl _)]
   rw[e];exact hrow
  ·have n6:¬(np:Int)=6:=by omega
   have n6':((np:Int)==6)=false:=by simp;omega
   gi_wp2_with (gi_at_builtin;refine wpListIn_append_own _ rfl _ _ 23 rfl w.heap.size 3 i0 (.int .i64 0) 1 8 Tryz.underlying23 hi hz0 hz1 hz2 rfl (by decide) _ _ _ rfl (hrow.alloc _) ⟨W.heap.size,0,none⟩ 1 1 [.int .i64 m] rfl rfl (cell_one_new _ _ _) (by simp[Value.oneCell']) (by unfold maxLen;omega) (by omega) (by simp;omega) ?_;intro v' w1 hown' hgrow _;obtain⟨g',cap',rfl,_,_⟩:=World.ownsRow.form hown' (Nat.succ_pos _);obtain⟨hv1,hv2,hr2,hk2,hb2⟩:=hv.appended (by decide) hrow lS (by omega) hown' hgrow;have hR1:=(HR.out.alloc _).kept hgrow dR;have hc1:=hv1.cell;have hf1:=hv1.frozen)
   refine⟨hk2.from _,hb2,⟨_,hv2,?_,trivial⟩,hR1.other (by omega) _,HBW.out.trans hb2,by simp;rw[<-NP.out];omega⟩;rw[List.length_append, <-NP.out,ints_snoc];exact hr2
 case done=>
  rintro D xs W hD rfl ⟨⟨v,hv,hrow,_⟩,hR,hB,hp6⟩ hK;have hf:=(show OwnI W w.heap.size v (bothV zs ys)from hrow).form;obtain⟨xv,cv,rfl⟩:=hf;obtain⟨np,hnp⟩:∃np,np=(bothV zs ys).length:=⟨_,rfl⟩
  rw[<-hnp]at hv hrow hp6;have hc:=hv.cell;have hRc:=hR.cell;have hRf:=hR.frozen;have NP:=hd_ hnp;have HB:=hd_ hB;have lw3:=lw.out;clear hB hnp
  gi_wp2
  have hK2:=(KeepsOthers.setCell W ⟨w.heap.size+1+1,0,none⟩ (.slice xv np cv)).same D _ hK rfl;refine⟨by simp,.inl ⟨_,_,rfl,run_takeDeferred hK2,?_⟩⟩;have b4:=((hR.set (.slice xv np cv)).kept (grownBy_putObj' _ D (.deferred none)) (by simp;omega))
  have hr:=b4.cell;have o2:=(hrow.kept (grownBy_setCell' W (w.heap.size+1+1) (.slice xv np cv)) (.inr (hR.not_row (by decide) hrow).symm))
  have o3:=ownsRow_putObj o2 (.deferred none) hK2 rfl;have hb4:Below w.heap.size W (W.setCell ⟨w.heap.size+1+1,0,none⟩ (.slice xv np cv)):=(Below.refl _ _).setCell (by simp;omega) _;refine⟨.tuple #[.agg #[.slice xv np cv],.bool true],by simp[results,Tryz.results196,go_sem,hr],_,rfl,?_,(HB.out.trans hb4).trans (belowK_b (w:=w) lr_ _ D _ _ (by omega) hK2 rfl rfl)⟩;unfold OwnI
  have e:(bothV zs ys).take 6=bothV zs ys:=List.take_of_length_le (by rw[<-NP.out];exact hp6);rw[e, <-NP.out];exact o3
 case stop=>
  rintro D cj pre W hD hpf ⟨⟨rfl,h7⟩,⟨v,hv,hrow,_⟩,hR,hB⟩ hK;have l6:(pre.take 6).length=6:=by simp;omega
  have hf:=(show OwnI W w.heap.size v (pre.take 6)from by unfold OwnI;rw[l6];exact hrow).form;rw[l6]at hf;obtain⟨xv,cv,rfl⟩:=hf;obtain⟨np,hnp⟩:∃np,np=6:=⟨_,rfl⟩
  rw[<-hnp]at hv hrow;have hc:=hv.cell;have hRc:=hR.cell;have hRf:=hR.frozen;have NP:=hd_ hnp;have HB:=hd_ hB;have lw3:=lw.out;have PF:=hd_ hpf;clear hB hnp hpf
  gi_wp2
  have hK2:=(KeepsOthers.setCell W ⟨w.heap.size+1+1,0,none⟩ (.slice xv np cv)).same D _ hK rfl;refine⟨by simp,.inl ⟨_,_,rfl,run_takeDeferred hK2,?_⟩⟩;have b4:=((hR.set (.slice xv np cv)).kept (grownBy_putObj' _ D (.deferred none)) (by simp;omega))
  have hr:=b4.cell;have o2:=(hrow.kept (grownBy_setCell' W (w.heap.size+1+1) (.slice xv np cv)) (.inr (hR.not_row (by decide) hrow).symm))
  have o3:=ownsRow_putObj o2 (.deferred none) hK2 rfl;have hb4:Below w.heap.size W (W.setCell ⟨w.heap.size+1+1,0,none⟩ (.slice xv np cv)):=(Below.refl _ _).setCell (by simp;omega) _;refine⟨.tuple #[.agg #[.slice xv np cv],.bool true],by simp[results,Tryz.results196,go_sem,hr],_,rfl,?_,(HB.out.trans hb4).trans (belowK_b (w:=w) lr_ _ D _ _ (by omega) hK2 rfl rfl)⟩
  have e:(bothV zs ys).take 6=pre.take 6:=by
   obtain⟨r,hr'⟩:=PF.out;rw[<-hr',List.take_append_of_le_length (by omega)]
  unfold OwnI;rw[e,l6, <-NP.out];exact o3
end Go.Proofs.YtcblbdpdbggkbaaGreat
namespace Go.Proofs.YtcblbdpdbggkbaaGreat
open Go.RowKit
abbrev Asc (zs:List Int):Prop:=zs.Pairwise (· <·)
theorem asc_ext:∀{X Y:List Int},Asc X->Asc Y->(∀z,z ∈ X↔z ∈ Y)->X=Y
 | [],[],_,_,_=>rfl
 | [],y::Y,_,_,h=>by have:=(h y).2 (by simp);simp at this
 |x::X,[],_,_,h=>by have:=(h x).1 (by simp);simp at this
 |x::X,y::Y,hx,hy,h=>by
  obtain⟨x1,x2⟩:=List.pairwise_cons.1 hx;obtain⟨y1,y2⟩:=List.pairwise_cons.1 hy;have e:x=y:=by
   have h1:=(h x).1 (by simp);have h2:=(h y).2 (by simp);simp only[List.mem_cons]at h1 h2;rcases h1 with h1|h1
   ·exact h1
   ·rcases h2 with h2|h2
    ·exact h2.symm
    ·have:=y1 x h1;have:=x1 y h2;omega
  subst e
  congr 1
  refine asc_ext x2 y2 fun z=>?_
  have hz:=h z;simp only[List.mem_cons]at hz
  constructor
  ·intro q
   have:=x1 z q;rcases hz.1 (.inr q)with e|e
   ·omega
   ·exact e
  ·intro q
   have:=y1 z q;rcases hz.2 (.inr q)with e|e
   ·omega
   ·exact e
def ins (m:Int):List Int->List Int
 | []=>[m]
 |x::xs=>if m<x then m::x::xs else if m=x then x::xs else x::ins m xs
theorem ins_mem (m:Int):∀(zs:List Int) (z:Int),z ∈ ins m zs↔z=m\/z ∈ zs
 | [],z=>by simp[ins]
 |x::xs,z=>by
  unfold ins
  by_cases h1:m<x
  ·rw[if_pos h1];simp
  ·rw[if_neg h1]
   by_cases h2:m=x
   ·rw[if_pos h2];subst h2;simp
   ·rw[if_neg h2]
    simp only[List.mem_cons,ins_mem m xs z]
    constructor
    ·rintro (h|h|h)
     ·exact .inr (.inl h)
     ·exact .inl h
     ·exact .inr (.inr h)
    ·rintro (h|h|h)
     ·exact .inr (.inl h)
     ·exact .inl h
     ·exact .inr (.inr h)
theorem ins_asc (m:Int):∀{zs:List Int},Asc zs->Asc (ins m zs)
 | [],_=>by simp[ins]
 |x::xs,h=>by
  obtain⟨h1,h2⟩:=List.pairwise_cons.1 h;unfold ins
  by_cases q1:m<x
  ·rw[if_pos q1]
   refine List.pairwise_cons.2 ⟨fun z hz=>?_,h⟩;simp only[List.mem_cons]at hz;rcases hz with rfl|hz
   ·exact q1
   ·have:=h1 z hz;omega
  ·rw[if_neg q1]
   by_cases q2:m=x
   ·rw[if_pos q2];exact h
   ·rw[if_neg q2]
    refine List.pairwise_cons.2 ⟨fun z hz=>?_,ins_asc m h2⟩;rcases (ins_mem m xs z).1 hz with rfl|hz
    ·omega
    ·exact h1 z hz
theorem ins_take (m:Int):∀(zs:List Int) (k:Nat),(ins m (zs.take k)).take k=(ins m zs).take k
 |_,0=>by simp
 | [],k+1=>by simp
 |x::xs,k+1=>by
  rw[List.take_succ_cons];unfold ins
  by_cases q1:m<x
  ·rw[if_pos q1,if_pos q1,List.take_succ_cons,List.take_succ_cons]
   congr 1
   cases k with
   |zero=>simp
   |succ k=>rw[List.take_succ_cons,List.take_succ_cons,List.take_take];congr 2;omega
  ·rw[if_neg q1,if_neg q1]
   by_cases q2:m=x
   ·rw[if_pos q2,if_pos q2,List.take_succ_cons,List.take_succ_cons,List.take_take];congr 2;omega
   ·rw[if_neg q2,if_neg q2,List.take_succ_cons,List.take_succ_cons,ins_take m xs k]
theorem putL_true (m:Int):∀{zs:List Int},(∀z ∈ zs,m<z)->putL m zs true=zs
 | [],_=>rfl
 |x::xs,h=>by
  have h1:=h x (by simp);rw[put4 _ (.inl rfl) (by omega),putL_true m (fun z hz=>h z (by simp[hz]))]
  rfl
theorem putL_ins (m:Int):∀{zs:List Int},Asc zs->putL m zs false=ins m zs
 | [],_=>rfl
 |x::xs,h=>by
  obtain⟨h1,h2⟩:=List.pairwise_cons.1 h;unfold ins
  by_cases q1:m<x
  ·rw[if_pos q1,put2 _ (by omega) (by omega),putL_true m (fun z hz=>by have:=h1 z hz;omega)];rfl
  ·rw[if_neg q1]
   by_cases q2:m=x
   ·subst q2
    rw[if_pos rfl,put1,putL_true m h1];rfl
   ·rw[if_neg q2,put4 _ (.inr (by omega)) (by omega),putL_ins m h2];rfl
def unionL (zs ys:List Int):List Int:=ys.foldl (fun acc m=>ins m acc) zs
theorem union_mem:∀(ys zs:List Int) (z:Int),z ∈ unionL zs ys↔z ∈ zs\/z ∈ ys
 | [],zs,z=>by simp[unionL]
 |y::ys,zs,z=>by
  show z ∈ unionL (ins y zs) ys↔_
  rw[union_mem ys,ins_mem];simp only[List.mem_cons]
  constructor
  ·rintro ((h|h)|h)
   ·exact .inr (.inl h)
   ·exact .inl h
   ·exact .inr (.inr h)
  ·rintro (h|h|h)
   ·exact .inl (.inr h)
   ·exact .inl (.inl h)
   ·exact .inr h
theorem union_asc:∀(ys:List Int) {zs:List Int},Asc zs->Asc (unionL zs ys)
 | [],_,h=>h
 |y::ys,_,h=>union_asc ys (ins_asc y h)
theorem union_take (k:Nat):∀(ys zs:List Int),(unionL (zs.take k) ys).take k=(unionL zs ys).take k
 | [],zs=>by show (zs.take k).take k=zs.take k;rw[List.take_take];congr 1;omega
 |y::ys,zs=>by
  show (unionL (ins y (zs.take k)) ys).take k=(unionL (ins y zs) ys).take k
  rw[<-union_take k ys (ins y (zs.take k)), <-union_take k ys (ins y zs),ins_take]
def joinV6 (zs ys:List Int):List Int:=(unionL zs ys).take 6
theorem union_comm {zs ys:List Int} (hz:Asc zs) (hy:Asc ys):unionL zs ys=unionL ys zs:=
 asc_ext (union_asc _ hz) (union_asc _ hy) fun z=>by rw[union_mem,union_mem];exact Or.comm
theorem join6_comm {zs ys:List Int} (hz:Asc zs) (hy:Asc ys):joinV6 zs ys=joinV6 ys zs:=by unfold joinV6;rw[union_comm hz hy]
theorem join6_asc {zs ys:List Int} (hz:Asc zs):Asc (joinV6 zs ys):=(union_asc ys hz).take
theorem union_assoc {zs ys xs:List Int} (hz:Asc zs) (hy:Asc ys):unionL (unionL zs ys) xs=unionL zs (unionL ys xs):=
 asc_ext (union_asc _ (union_asc _ hz)) (union_asc _ hz) fun z=>by rw[union_mem,union_mem,union_mem,union_mem];exact or_assoc
theorem join6_assoc {zs ys xs:List Int} (hz:Asc zs) (hy:Asc ys) (hx:Asc xs):joinV6 (joinV6 zs ys) xs=joinV6 zs (joinV6 ys xs):=by
 have e1:joinV6 (joinV6 zs ys) xs=(unionL (unionL zs ys) xs).take 6:=union_take 6 xs (unionL zs ys);have e2:joinV6 zs (joinV6 ys xs)=(unionL (unionL ys xs) zs).take 6:=by
  rw[join6_comm hz (join6_asc hy)];exact union_take 6 zs (unionL ys xs)
 rw[e1,e2,union_assoc hz hy,union_comm hz (union_asc _ hy)]
theorem join6_over {zs ys:List Int} (hz:Asc zs) (hy:Asc ys):joinV6 (joinV6 zs ys) ys=joinV6 zs ys:=by
 rw[join6_assoc hz hy hy];unfold joinV6;have e:unionL ys ys=ys:=asc_ext (union_asc _ hy) hy fun z=>by rw[union_mem];exact or_self_iff
 rw[e];rw[union_comm hz (List.Pairwise.take hy),union_take,union_comm hz hy]
theorem behindV_yes {u m:Int} (us:List Int) (h:u=m):behindV (u::us) m=us:=by
 unfold behindV;rw[if_pos (show firstV (u::us)=m from h)]
 rfl
theorem behindV_no {u m:Int} (us:List Int) (h:¬u=m):behindV (u::us) m=u::us:=if_neg h
theorem bothL_mem:∀(k:Nat) (zs ys:List Int),(∀z ∈ zs,z<64)->(∀z ∈ ys,z<64)->zs.length+ys.length<=k->∀z,z ∈ bothL k zs ys↔z ∈ zs\/z ∈ ys
 | 0,zs,ys,_,_,hk,z=>by
  have h1:zs=[]:=List.eq_nil_of_length_eq_zero (by omega);have h2:ys=[]:=List.eq_nil_of_length_eq_zero (by omega);subst h1 h2;simp[bothL]
 |k+1,zs,ys,hz,hy,hk,z=>by
  unfold bothL
  by_cases hE:zs=[]/\ys=[]
  ·rw[if_pos hE,hE.1,hE.2];simp
  ·rw[if_neg hE]
   obtain⟨m64,hlt⟩:=both_less hz hy hE;obtain⟨M,hM⟩:∃M,M=min (firstV zs) (firstV ys):=⟨_,rfl⟩
   rw[<-hM]at m64 hlt ⊢;rw[List.mem_cons,bothL_mem k _ _ (fun z h=>hz z (behindV_mem h)) (fun z h=>hy z (behindV_mem h)) (by omega)];have bm:∀us:List Int,(z ∈ us/\z≠M->z ∈ behindV us M)/\(firstV us=M->us≠[]->M ∈ us):=fun us=>by
    cases us with
    |nil=>exact⟨fun h=>by simp at h,fun _ h=>absurd rfl h⟩
    |cons u us=>
     refine⟨fun h=>?_,fun h _=>by rw[<-show u=M from h];simp⟩
     by_cases e:u=M
     ·rw[behindV_yes us e]
      subst e;simp only[List.mem_cons]at h;rcases h.1 with h1|h1
      ·exact absurd h1 h.2
      ·exact h1
     ·rw[behindV_no us e]
      exact h.1
   constructor
   ·rintro (rfl|h|h)
    ·by_cases h3:firstV zs<=firstV ys
     ·have e:firstV zs=z:=by omega
      refine .inl ((bm zs).2 e fun q=>?_);rw[q]at e;rw[<-e]at m64;exact absurd m64 (by decide)
     ·have e:firstV ys=z:=by omega
      refine .inr ((bm ys).2 e fun q=>?_);rw[q]at e;rw[<-e]at m64;exact absurd m64 (by decide)
    ·exact .inl (behindV_mem h)
    ·exact .inr (behindV_mem h)
   ·intro h
    by_cases e:z=M
    ·exact .inl e
    ·exact .inr (h.imp (fun q=>(bm zs).1 ⟨q,e⟩) (fun q=>(bm ys).1 ⟨q,e⟩))
theorem behindV_asc {zs:List Int} (h:Asc zs) (m:Int):Asc (behindV zs m):=by unfold behindV;split;exact h.tail;exact h
theorem behindV_gt {zs:List Int} (h:Asc zs) {m:Int} (hm:m<=firstV zs):∀z ∈ behindV zs m,m<z:=fun z hz=>by
 cases zs with
 |nil=>have:=behindV_mem hz;cases this
 |cons x xs=>
  have h1:=(List.pairwise_cons.1 h).1;have hm':m<=x:=hm
  by_cases e:x=m
  ·rw[behindV_yes xs e]at hz
   have:=h1 z hz;omega
  ·rw[behindV_no xs e]at hz
   simp only[List.mem_cons]at hz;rcases hz with rfl|hz
   ·omega
   ·have:=h1 z hz;omega
theorem bothL_asc:∀(k:Nat) (zs ys:List Int),Asc zs->Asc ys->(∀z ∈ zs,z<64)->(∀z ∈ ys,z<64)->zs.length+ys.length<=k->Asc (bothL k zs ys)
 | 0,_,_,_,_,_,_,_=>by simp[bothL]
 |k+1,zs,ys,az,ay,hz,hy,hk=>by
  unfold bothL
  by_cases hE:zs=[]/\ys=[]
  ·rw[if_pos hE];exact List.Pairwise.nil
  ·rw[if_neg hE]
   obtain⟨m64,hlt⟩:=both_less hz hy hE;obtain⟨M,hM⟩:∃M,M=min (firstV zs) (firstV ys):=⟨_,rfl⟩
   rw[<-hM]at m64 hlt ⊢;refine List.pairwise_cons.2 ⟨fun z hz'=>?_,bothL_asc k _ _ (behindV_asc az M) (behindV_asc ay M) (fun z h=>hz z (behindV_mem h)) (fun z h=>hy z (behindV_mem h)) (by omega)⟩;rcases (bothL_mem k _ _ (fun z h=>hz z (behindV_mem h)) (fun z h=>hy z (behindV_mem h)) (by omega) z).1 hz' with h|h
   ·exact behindV_gt az (by omega) z h
   ·exact behindV_gt ay (by omega) z h
theorem both_join {zs ys:List Int} (az:Asc zs) (ay:Asc ys) (hz:∀z ∈ zs,z<64) (hy:∀z ∈ ys,z<64):(bothV zs ys).take 6=joinV6 zs ys:=by
 have:bothV zs ys=unionL zs ys:=asc_ext (bothL_asc _ _ _ az ay hz hy lr_) (union_asc _ az) fun z=>by
  rw[union_mem];exact bothL_mem _ _ _ hz hy lr_ z
 rw[this];rfl
theorem few_lt' {zs:List Int} (h:fewB zs=true):∀j i,i<j->j<zs.length->zs.getD i 0<zs.getD j 0:=by
 have hp:=(fewB_parts h).2.2;intro j
 induction j with
 |zero=>intro i hi;omega
 |succ j ih=>
  intro i hi hj;have h1:=hp j hj
  by_cases e:i=j
  ·subst e;exact h1
  ·have:=ih i (by omega) (by omega);omega
theorem few_asc {zs:List Int} (h:fewB zs=true):Asc zs:=by
 rw[Asc,List.pairwise_iff_getElem];intro i j hi hj hij;have:=few_lt' h j i hij hj;simpa[hi,hj]using this
theorem few_bd {zs:List Int} (h:fewB zs=true):∀z ∈ zs,0<=z/\z<64:=fun z hz=>by
 obtain⟨i,hi,rfl⟩:=mem_get.1 hz;have:=(fewB_parts h).2.1 i hi;omega
theorem few_of {zs:List Int} (ha:Asc zs) (hb:∀z ∈ zs,0<=z/\z<64) (hl:zs.length<=6):fewB zs=true:=by
 refine fewB_good hl fun i hi=>⟨?_,fun h0=>?_⟩
 ·have:=hb _ (getD_mem zs i 0 hi);omega
 ·have:=(List.pairwise_iff_getElem.1 ha) (i - 1) i (by omega) hi (by omega)
  simpa[hi,show i - 1<zs.length by omega]using this
theorem join6_few {zs ys:List Int} (hz:fewB zs=true) (hy:fewB ys=true):fewB (joinV6 zs ys)=true:=by
 refine few_of (join6_asc (few_asc hz)) (fun z h=>?_) (by simp[joinV6];omega);rcases (union_mem ys zs z).1 (List.mem_of_mem_take h)with h|h
 ·exact few_bd hz z h
 ·exact few_bd hy z h
theorem put_join {zs:List Int} (hz:Asc zs) (m:Int):putV zs m=joinV6 zs [m]:=by
 unfold putV joinV6;rw[putL_ins m hz];rfl
end Go.Proofs.YtcblbdpdbggkbaaGreat
namespace Go.Proofs.YtcblbdpdbggkbaaGreat
open Go.RowKit Go.Sort
def joinOkF (zs ys:List Int):Bool:=fewB zs&&fewB ys
def joinF (zs ys:List Int):List Int:=if joinOkF zs ys=true then joinV6 zs ys else []
theorem joinF_yes {zs ys:List Int} (h:joinOkF zs ys=true):joinF zs ys=joinV6 zs ys:=if_pos h
theorem joinF_no {zs ys:List Int} (h:joinOkF zs ys=false):joinF zs ys=[]:=if_neg (by rw[h];simp)
theorem joinF_few (zs ys:List Int):fewB (joinF zs ys)=true:=by
 cases h:joinOkF zs ys with
 |true=>
  rw[joinF_yes h];unfold joinOkF at h;simp only[Bool.and_eq_true]at h;exact join6_few h.1 h.2
 |false=>rw[joinF_no h];decide
theorem free_later' {w w':World} {a:Addr} (hb:Below w.heap.size w w') (h:w.frozen? a=false) (hl:a.block<w.heap.size):w'.frozen? a=false:=by rw[hb.frozen hl];exact h
theorem imFewJoin_no (w:World) (u v:Value) (zs ys:List Int) (ha:Ints w u zs) (hb:Ints w v ys) (hno:joinOkF zs ys=false):
  Calls Tryz.prog 196 #[.agg #[u],.agg #[v]] w fun e w'=>e=.returned (.tuple #[.agg #[.slice none 0 0],.bool false])/\Below w.heap.size w w':=by
 have hA:=(((Below.refl w.heap.size w).alloc lr_ (.cells #[u] 38)).alloc (by simp) (.cells #[v] 38)).alloc (by simp;omega) (.cells #[.slice none 0 0] 38);have KA:=hd_ (imFewOk_at _ u zs (ha.below hA lr_));have JB:=hd_ (hb.below hA lr_);have HA:=hd_ hA;obtain⟨⟨x,c,hx⟩,_⟩:=ha.cases;obtain⟨⟨y,d,hy⟩,_⟩:=hb.cases;obtain⟨na,hna⟩:∃n,n=zs.length:=⟨_,rfl⟩
 obtain⟨nb,hnb⟩:∃n,n=ys.length:=⟨_,rfl⟩
 rw[<-hna]at hx;rw[<-hnb]at hy;subst hx hy;obtain⟨w0,hw0⟩:∃w0,w0=((w.alloc (.cells #[.slice x na c] 38)).alloc (.cells #[.slice y nb d] 38)).alloc (.cells #[.slice none 0 0] 38):=⟨_,rfl⟩
 have c1:w0.cell? ⟨w.heap.size+1,0,none⟩=some (.slice y nb d):=by rw[hw0,World.cell?_alloc_past (hn:=by simp),World.cell?_alloc_at (hn:=by simp)];simp
 have c2:w0.cell? ⟨w.heap.size+1+1,0,none⟩=some (.slice none 0 0):=by rw[hw0,World.cell?_alloc_at (hn:=by simp)];simp
 have f2:w0.frozen? ⟨w.heap.size+1+1,0,none⟩=false:=by rw[hw0];exact World.frozen?_alloc_at _ _ _ _ (by simp)
 rw[<-hw0]at KA JB HA;have HW:=hd_ hw0;clear ha hb hA hna hnb hw0;cases hok:fewB zs with
 |false=>
  rw[hok]at KA;clear hok hno;go_enter Tryz.func196,Tryz.ntmps196
  go_wp2_with fail
  rw[<-HW.out];refine KA.out.mono ?_;rintro e w1 ⟨rfl,hb1⟩;have c21:=cell_later hb1 c2;have f21:w1.frozen? ⟨w.heap.size+1+1,0,none⟩=false:=free_later' hb1 f2 (World.block_lt_of_cell? _ _ c2);have L1:=hd_ (HA.out.trans (hb1.mono HA.out.size));clear hb1;go_wp2;have hr:=World.cell?_setCell_same w1 ⟨w.heap.size+1+1,0,none⟩ (.slice none 0 0) c21
  exact bodyPost_ret (v:=.tuple #[.agg #[.slice none 0 0],.bool false]) (by simp[results,Tryz.results196,go_sem,hr]) rfl ⟨rfl,L1.out.setCell (by simp;omega) _⟩
 |true=>
  rw[hok]at KA;have okb:fewB ys=false:=by unfold joinOkF at hno;rw[hok]at hno;simpa using hno
  clear hok hno;go_enter Tryz.func196,Tryz.ntmps196
  go_wp2_with fail
  rw[<-HW.out];refine KA.out.mono ?_;rintro e w1 ⟨rfl,hb1⟩;have c11:=cell_later hb1 c1;have c21:=cell_later hb1 c2;have f21:w1.frozen? ⟨w.heap.size+1+1,0,none⟩=false:=free_later' hb1 f2 (World.block_lt_of_cell? _ _ c2);have KB:=hd_ (imFewOk_at w1 _ ys (JB.out.below hb1 lr_));rw[okb]at KB;have L1:=hd_ (HA.out.trans (hb1.mono HA.out.size));clear hb1
  go_wp2_with fail
  refine KB.out.mono ?_;rintro e w2 ⟨rfl,hb2⟩;have c22:=cell_later hb2 c21;have f22:w2.frozen? ⟨w.heap.size+1+1,0,none⟩=false:=free_later' hb2 f21 (World.block_lt_of_cell? _ _ c21);have L2:=hd_ (L1.out.trans (hb2.mono L1.out.size));clear hb2;go_wp2;have hr:=World.cell?_setCell_same w2 ⟨w.heap.size+1+1,0,none⟩ (.slice none 0 0) c22
  exact bodyPost_ret (v:=.tuple #[.agg #[.slice none 0 0],.bool false]) (by simp[results,Tryz.results196,go_sem,hr]) rfl ⟨rfl,L2.out.setCell (by simp;omega) _⟩
theorem imFewJoin_at (w:World) (u v:Value) (zs ys:List Int) (ha:Ints w u zs) (hb:Ints w v ys):
  Calls Tryz.prog 196 #[.agg #[u],.agg #[v]] w fun e w'=>∃v',e=.returned (.tuple #[.agg #[v'],.bool (joinOkF zs ys)])/\OwnI w' w.heap.size v' (joinF zs ys)/\Below w.heap.size w w':=by
 cases hok:joinOkF zs ys with
 |false=>
  rw[joinF_no hok];exact (imFewJoin_no w u v zs ys ha hb hok).mono fun e w' ⟨he,hb⟩=>⟨_,he,OwnI.nil _ _,hb⟩
 |true=>
  rw[joinF_yes hok];have h':=hok;unfold joinOkF at h';simp only[Bool.and_eq_true]at h';rw[<-both_join (few_asc h'.1) (few_asc h'.2) (fun z h=>(few_bd h'.1 z h).2) (fun z h=>(few_bd h'.2 z h).2)];exact imFewJoin_yes w u v zs ys ha hb h'.1 h'.2
theorem few_one (t:Int):fewB [markV t]=inThings t:=by
 cases h:inThings t with
 |true=>
  have ht:=(inThings_iff t).1 h;have:=markV_in ht.1 ht.2;exact few_of (by simp) (fun z hz=>by simp at hz;subst hz;exact this) (by simp)
 |false=>
  have ht:=(inThings_no t).1 h;rw[markV_no ht]
  decide
theorem join_add (zs:List Int) (t:Int):joinOkF zs [markV t]=addOkF zs t:=by unfold joinOkF addOkF;rw[few_one]
theorem joinF_add (zs:List Int) (t:Int):joinF zs [markV t]=addF zs t:=by
 cases h:addOkF zs t with
 |true=>
  rw[addF_yes h,joinF_yes (by rw[join_add];exact h)];unfold addOkF at h;simp only[Bool.and_eq_true]at h;exact (put_join (few_asc h.1) _).symm
 |false=>rw[addF_no h,joinF_no (by rw[join_add];exact h)]
theorem imFewAdd_at (w:World) (u:Value) (zs:List Int) (t:Int) (h:Ints w u zs):
  Calls Tryz.prog 232 #[.agg #[u],.int .i64 t] w fun e w'=>∃v,e=.returned (.tuple #[.agg #[v],.bool (addOkF zs t)])/\OwnI w' w.heap.size v (addF zs t)/\Below w.heap.size w w':=by
 rw[<-join_add, <-joinF_add];have hA:=((Below.refl w.heap.size w).alloc lr_ (.cells #[u] 38)).alloc (by simp) (.cells #[.slice none 0 0] 38);have I:=h.below hA lr_;have KM:Hid (∀W,Calls Tryz.prog 176 #[.int .i64 t] W fun e w'=>e=.returned (.int .i64 (markV t))/\W=w'):=fun W=>imMark_at t W
 obtain⟨⟨x,c,hx⟩,_⟩:=h.cases;obtain⟨n,hn⟩:∃n,n=zs.length:=⟨_,rfl⟩
 rw[<-hn]at hx;subst hx;generalize markV t=M at *;obtain⟨w0,hw0⟩:∃w0,w0=(w.alloc (.cells #[.slice x n c] 38)).alloc (.cells #[.slice none 0 0] 38):=⟨_,rfl⟩
 have cb:w0.cell? ⟨w.heap.size,0,none⟩=some (.slice x n c):=by rw[hw0,World.cell?_alloc_past (hn:=by simp)];simp
 have cr:w0.cell? ⟨w.heap.size+1,0,none⟩=some (.slice none 0 0):=by rw[hw0,World.cell?_alloc_at (hn:=by simp)];simp
 have fr:w0.frozen? ⟨w.heap.size+1,0,none⟩=false:=by rw[hw0];exact World.frozen?_alloc_at _ _ _ _ (by simp)
 have S0:Hid (w0.heap.size=w.heap.size+2):=by show w0.heap.size=_;rw[hw0];simp
 rw[<-hw0]at hA I;have hA1:=(Below.refl w0.heap.size w0).drew.alloc lr_ (.cells #[.int .i64 M] 3);have i1:=I.below hA1 lr_;have i2:Ints (w0.drew.alloc (.cells #[.int .i64 M] 3)) (.slice (some ⟨w0.heap.size,0,none⟩) 1 1) [M]:=by
  refine .inr ⟨w0.heap.size,0,1,rfl,Nat.le_refl _,by unfold maxLen;omega,by simp,fun i hi=>?_⟩;obtain rfl:i=0:=by simpa using hi
  rw[World.cell?_alloc_at (hn:=by simp)];simp
 have KJ:=hd_ (imFewJoin_at (w0.drew.alloc (.cells #[.int .i64 M] 3)) _ _ zs [M] i1 i2);have cr1:=cell_later hA1 cr;have fr1:(w0.drew.alloc (.cells #[.int .i64 M] 3)).frozen? ⟨w.heap.size+1,0,none⟩=false:=free_later' hA1 fr (World.block_lt_of_cell? _ _ cr);have cb1:=cell_later hA1 cb;have HA:=hd_ hA;have HA1:=hd_ hA1;have HW:=hd_ hw0
 have l1:w.heap.size+1<w0.heap.size:=World.block_lt_of_cell? _ _ cr;have l0:w.heap.size<w0.heap.size:=by omega
 clear h hn hA I hA1 i1 i2 hw0;go_enter Tryz.func232,Tryz.ntmps232
 go_wp2_with fail
 rw[<-HW.out];clear HW
 go_region_with (first
    |(go_at_call 176;refine (KM.out _).mono ?_;rintro e w' ⟨rfl,rfl⟩)
    |(go_at_call 196;refine KJ.out.mono ?_;rintro e w3 ⟨v3,rfl,ho3,hb3⟩;obtain⟨x3,c3,rfl⟩:=ho3.form;have cr3:=cell_later hb3 cr1;have fr3:w3.frozen? ⟨w.heap.size+1,0,none⟩=false:=free_later' hb3 fr1 (World.block_lt_of_cell? _ _ cr1)))
 all_goals
  have hs:=grownBy_setCell w3 ⟨w.heap.size+1,0,none⟩ (.slice x3 (joinF zs [M]).length c3);have o3:=(ho3.kept hs (fun k e=>by simp at e;have:=S0.out;simp;omega)).base (B':=w.heap.size) (by have:=S0.out;simp;omega)
  have hb4:Below w.heap.size w (w3.setCell ⟨w.heap.size+1,0,none⟩ (.slice x3 (joinF zs [M]).length c3)):=((HA.out.trans (HA1.out.mono HA.out.size)).trans (hb3.mono (by have:=S0.out;simp;omega))).setCell (by simp) _;have hr:=World.cell?_setCell_same w3 ⟨w.heap.size+1,0,none⟩ (.slice x3 (joinF zs [M]).length c3) cr3;have O3:=hd_ o3;have HB4:=hd_ hb4;have HR:=hd_ hr;clear ho3 hb3 hs o3 hb4 hr
  generalize (joinF zs [M]).length=n3 at *;go_wp2;have hr:=HR.out;exact bodyPost_ret (v:=.tuple #[.agg #[.slice x3 n3 c3],.bool (joinOkF zs [M])]) (by simp[results,Tryz.results232,go_sem,hr]) rfl ⟨_,rfl,O3.out,HB4.out⟩
end Go.Proofs.YtcblbdpdbggkbaaGreat
set_option linter.unusedVariables false
namespace Go.Proofs.YtcblbdpdbggkbaaGreat
open Go.RowKit Go.Sort
theorem ins_len (m:Int) (zs:List Int):zs.length<=(ins m zs).length/\(ins m zs).length<=zs.length+1:=by
 induction zs with
 |nil=>simp[ins]
 |cons x xs ih=>
  unfold ins
  split
  ·simp
  ·split
   ·simp
   ·simp only[List.length_cons];omega
theorem add_again {zs:List Int} {t:Int} (h:addOkF zs t=true):
  fewB (addF zs t)=true/\addOkF (addF zs t) t=true/\addF (addF zs t) t=addF zs t/\zs.length<=(addF zs t).length/\(addF zs t).length<=zs.length+1:=by
 have h':=h;unfold addOkF at h';simp only[Bool.and_eq_true]at h';have az:=few_asc h'.1;have f1:fewB (addF zs t)=true:=by rw[<-joinF_add];exact joinF_few _ _
 have ok1:addOkF (addF zs t) t=true:=by unfold addOkF;rw[f1,h'.2];rfl
 have e0:addF zs t=joinV6 zs [markV t]:=by rw[addF_yes h,put_join az]
 have e1:addF (addF zs t) t=addF zs t:=by
  rw[addF_yes ok1,put_join (few_asc f1),e0];exact join6_over az (by simp)
 have l6:=(fewB_parts h'.1).1;have hl:=ins_len (markV t) zs;have el:addF zs t=(ins (markV t) zs).take 6:=by rw[e0];rfl
 refine⟨f1,ok1,e1,?_,?_⟩<;>(rw[el,List.length_take];omega)
end Go.Proofs.YtcblbdpdbggkbaaGreat
