/-
  What the law FnNetNew needs of the texts before it, part 1.
-/
import Derived.BigQuiet
import Derived.Deep.AppendLies
import Derived.Deep.DrawnRows
import Derived.Deep.MidRow
import Derived.Deep.QuietTactic
import Derived.Deep.RegionHeld3
import Derived.Deep.RegionLaw
import Derived.Deep.RegionWith
import Derived.Deep.WholeRow
import Derived.DeepKeys5
import Derived.IntWalk
import Derived.KernelRfl
import Derived.Lib.Hide
import Derived.Lib.QuietBelow
import Derived.LoopIn
import Derived.LoopNIn
import Derived.Maps.AppendAt
import Derived.Maps.Keyed
import Derived.OneCell
import Derived.OpenShut
import Derived.OrdersHeld
import Derived.OwnWalkIn
import Derived.RangeFuncBound
import Derived.RangeFuncBox
import Derived.RangeFuncCalls
import Derived.RangeFuncLeaves
import Derived.RangeFuncNested
import Derived.RegionTactic
import Derived.Shelf.Abstract
import Derived.Shelf.RegionOpen
import Derived.StillTail
import Derived.TacticsInMore
import Derived.Test.YtcblbdpdbggkbaaGreatRows
import Derived.WalkKit
import Derived.WalkLawsBesides
import Derived.WalkSpells
set_option maxRecDepth 100000
set_option maxHeartbeats 16000000
set_option linter.unusedVariables false
set_option linter.unusedSectionVars false
set_option linter.unusedSimpArgs false
namespace Go.Proofs.YtcblbdpdbggkbaaGreat
theorem hd_ {P : Prop} (h : P) : Go.RowKit.Hid P := h
theorem lr_ {n : Nat} : n ≤ n := Nat.le_refl n
end Go.Proofs.YtcblbdpdbggkbaaGreat
set_option linter.unusedVariables false
namespace Go.Proofs.YtcblbdpdbggkbaaGreat
open Go.RowKit
theorem ret_int {k:IntKind} {a b:Int} (h:a=b):Ending.returned (.int k a)=.returned (.int k b):=by rw[h]
theorem ret_bool {a b:Bool} (h:a=b):Ending.returned (.bool a)=.returned (.bool b):=by rw[h]
theorem isThing_yes (a:Int) (w:World) (h0:0<=a) (h1:a<64):
  Calls Tryz.prog 106 #[.int .i64 a] w fun e w'=>e=.returned (.bool true)/\w=w':=by
 go_enter Tryz.func106,Tryz.ntmps106;go_wp2;go_ret;exact⟨rfl,rfl⟩
theorem isThing_no (a:Int) (w:World) (h:a<0\/64<=a):
  Calls Tryz.prog 106 #[.int .i64 a] w fun e w'=>e=.returned (.bool false)/\w=w':=by
 rcases h with h|h
 ·have h':¬ 0<=a:=by omega
  go_enter Tryz.func106,Tryz.ntmps106;go_wp2;go_ret;exact⟨rfl,rfl⟩
 ·have h':¬a<64:=by omega
  have h'':0<=a:=by omega
  go_enter Tryz.func106,Tryz.ntmps106;go_wp2;go_ret;exact⟨rfl,rfl⟩
def place (i t:Int):Int:=if i=0 then (3 * t+t / 8) % 8 else if i=1 then (5 * t+t / 16+1) % 8 else (t+t / 4+2) % 8
theorem place_bd (i t:Int):0<=place i t/\place i t<8:=by unfold place;split<;>(try split)<;>omega
theorem roughPlace_yes (i t:Int) (w:World) (h0:0<=i) (h1:i<3) (h2:0<=t) (h3:t<64):
  Calls Tryz.prog 179 #[.int .i64 i,.int .i64 t] w fun e w'=>e=.returned (.int .i64 (place i t))/\w=w':=by
 rcases (by omega:i=0\/i=1\/i=2)with rfl|rfl|rfl
 all_goals
  clear h0 h1;go_enter Tryz.func179,Tryz.ntmps179
  go_wp2_with (go_at_call 106;refine (isThing_yes _ _ h2 h3).mono ?_;rintro e w' ⟨rfl,rfl⟩)
  go_ret;exact⟨ret_int rfl,rfl⟩
def Ints (w:World) (v:Value) (zs:List Int):Prop:=
 (v=.slice none 0 0/\zs=[])\/
 ∃b o cap,v=.slice (some ⟨b,o,none⟩) zs.length cap/\zs.length<=cap/\cap<=maxLen/\b<w.heap.size/\∀i,i<zs.length->w.cell? ⟨b,o+i,none⟩=some (.int .i64 (zs.getD i 0))
def Rws (w:World) (v:Value) (rs:List (List Int)):Prop:=
 (v=.slice none 0 0/\rs=[])\/
 ∃b o cap,v=.slice (some ⟨b,o,none⟩) rs.length cap/\rs.length<=cap/\cap<=maxLen/\b<w.heap.size/\∀i,i<rs.length->∃x,w.cell? ⟨b,o+i,none⟩=some x/\Ints w x (rs.getD i [])
theorem Ints.below {w w':World} {v:Value} {zs:List Int} (h:Ints w v zs) {B:Nat} (hb:Below B w w') (hB:w.heap.size<=B):Ints w' v zs:=by
 rcases h with h|⟨b,o,cap,rfl,h1,h2,h3,h4⟩
 ·exact .inl h
 ·exact .inr ⟨b,o,cap,rfl,h1,h2,Nat.lt_of_lt_of_le h3 hb.size,fun i hi=>by rw[hb.cell (by show b<B;omega)];exact h4 i hi⟩
theorem Rws.below {w w':World} {v:Value} {rs:List (List Int)} (h:Rws w v rs) {B:Nat} (hb:Below B w w') (hB:w.heap.size<=B):Rws w' v rs:=by
 rcases h with h|⟨b,o,cap,rfl,h1,h2,h3,h4⟩
 ·exact .inl h
 ·refine .inr ⟨b,o,cap,rfl,h1,h2,Nat.lt_of_lt_of_le h3 hb.size,fun i hi=>?_⟩
  obtain⟨x,hx,hi'⟩:=h4 i hi;exact⟨x,by rw[hb.cell (by show b<B;omega)];exact hx,hi'.below hb hB⟩
theorem getD_mem {α:Type} (l:List α) (k:Nat) (d:α) (h:k<l.length):l.getD k d ∈ l:=by
 rw[List.getD_eq_getElem?_getD,List.getElem?_eq_getElem h];exact List.getElem_mem h
theorem sum_take_succ (zs:List Int) (k:Nat) (h:k<zs.length):(zs.take (k+1)).sum=(zs.take k).sum+zs.getD k 0:=by
 rw[List.take_succ_eq_append_getElem h,List.sum_append];simp[h]
theorem quiet_same' {P:Program} {f:FuncId} {args:Array Value} {w:World} {n:Nat} {v:Value}
  (h:Calls P f args (w.drewN n) fun e w'=>e=.returned v/\w.drewN n=w'):Calls P f args (w.drewN n) fun e w''=>e=.returned v/\∃m,w''=w.drewN m:=
 h.mono fun _ _ ⟨he,hm⟩=>⟨he,n,hm.symm⟩
theorem grownBy_trans {w w1 w2:World} {row:Option Nat} (h1:w.grownBy w1 row) (h2:w1.grownBy w2 row):w.grownBy w2 row:=
 ⟨h2.os.trans h1.os,h2.tape.trans h1.tape,h2.output.trans h1.output,Nat.le_trans h1.size h2.size,fun k hk hr=>(h2.block k (Nat.lt_of_lt_of_le hk h1.size) hr).trans (h1.block k hk hr)⟩
theorem grownBy_refl (w:World) (row:Option Nat):w.grownBy w row:=⟨rfl,rfl,rfl,Nat.le_refl _,fun _ _ _=>rfl⟩
theorem grownBy_below {w w':World} {row:Option Nat} (h:Below w.heap.size w w'):w.grownBy w' row:=⟨h.os,h.tape,h.output,h.size,fun k hk _=>h.block k hk⟩
theorem grownBy_drewN {w w':World} {row:Option Nat} (h:w.grownBy w' row) (n:Nat):w.grownBy (w'.drewN n) row:=⟨h.os,h.tape,h.output,h.size,h.block⟩
theorem below_grown {w w':World} {B a:Nat} (h:w.grownBy w' (some a)) (hB:B<=a) (hw:B<=w.heap.size):Below B w w':=
 ⟨h.os,h.tape,h.output,h.size,fun k hk=>h.block k (by omega) (by simp;omega)⟩
theorem grownBy_setCell (w:World) (a:Addr) (u:Value):w.grownBy (w.setCell a u) (some a.block):=
 ⟨rfl,rfl,rfl,by simp,fun k _ hk=>heap_setCell_other w a k u (fun e=>hk (by simp[e]))⟩
structure KeptB (S:Nat->Prop) (w w':World):Prop where
 os:w'.os=w.os
 tape:w'.tape=w.tape
 output:w'.output=w.output
 size:w.heap.size<=w'.heap.size
 block:∀k,k<w.heap.size->¬S k->w'.heap[k]? =w.heap[k]?
theorem KeptB.refl (S:Nat->Prop) (w:World):KeptB S w w:=⟨rfl,rfl,rfl,Nat.le_refl _,fun _ _ _=>rfl⟩
theorem KeptB.trans {S:Nat->Prop} {a b c:World} (h:KeptB S a b) (k:KeptB S b c):KeptB S a c:=
 ⟨k.os.trans h.os,k.tape.trans h.tape,k.output.trans h.output,Nat.le_trans h.size k.size,fun i hi hs=>(k.block i (Nat.lt_of_lt_of_le hi h.size) hs).trans (h.block i hi hs)⟩
theorem KeptB.of_grown {w w':World} {g:Nat} {S:Nat->Prop} (h:w.grownBy w' (some g)) (hS:S g):KeptB S w w':=
 ⟨h.os,h.tape,h.output,h.size,fun k hk hs=>h.block k hk (fun e=>by cases e;exact hs hS)⟩
theorem KeptB.below {S:Nat->Prop} {w w':World} {B:Nat} (h:KeptB S w w') (hB:B<=w.heap.size) (hS:∀k,S k->B<=k):Below B w w':=
 ⟨h.os,h.tape,h.output,h.size,fun k hk=>h.block k (by omega) (fun hs=>by have:=hS k hs;omega)⟩
def rowV (rs:List (List Int)) (G C:Nat->Nat) (i:Nat):Value:=.slice (some ⟨G i,0,none⟩) (rs.getD i []).length (C i)
def ints (zs:List Int):List Value:=zs.map (Value.int .i64)
structure OwnR (w:World) (B:Nat) (u:Value) (rs:List (List Int)) (G C:Nat->Nat):Prop where
 hdr:w.ownsRow B 23 1 u rs.length ((List.range rs.length).map (rowV rs G C))
 row:∀i,i<rs.length->w.ownsRow B 3 1 (rowV rs G C i) (rs.getD i []).length (ints (rs.getD i []))
 off:∀i,i<rs.length->u.ownBlock≠some (G i)
 apart:∀i j,i<rs.length->j<rs.length->i≠j->G i≠G j
theorem ints_len (zs:List Int):(ints zs).length=zs.length:=by simp[ints]
theorem ints_get (zs:List Int) (i:Nat) (h:i<zs.length):(ints zs)[i]? =some (.int .i64 (zs.getD i 0)):=by simp[ints,h]
theorem ownI_ints {w:World} {B:Nat} {v:Value} {zs:List Int} (h:w.ownsRow B 3 1 v zs.length (ints zs)):Ints w v zs:=by
 rcases h.2 with ⟨rfl,h0⟩|⟨g,cap,cur,rfl,hb,hg,hn,hc,hs,ht⟩
 ·exact .inl ⟨rfl,List.eq_nil_of_length_eq_zero h0⟩
 ·refine .inr ⟨g,0,cap,rfl,hn,hc,(Array.getElem?_eq_some_iff.1 hg).1,fun i hi=>?_⟩
  have:=World.ownsRow.cellAt h i (by omega);rw[Nat.zero_add,this,ints_get _ _ hi]
theorem OwnR.rws {w:World} {B:Nat} {u:Value} {rs:List (List Int)} {G C:Nat->Nat} (h:OwnR w B u rs G C):Rws w u rs:=by
 have hh:=h.hdr;rcases hh.2 with ⟨rfl,h0⟩|⟨g,cap,cur,rfl,hb,hg,hn,hc,hs,ht⟩
 ·exact .inl ⟨rfl,List.eq_nil_of_length_eq_zero h0⟩
 ·refine .inr ⟨g,0,cap,rfl,hn,hc,(Array.getElem?_eq_some_iff.1 hg).1,fun i hi=>⟨_,?_,ownI_ints (h.row i hi)⟩⟩
  have:=World.ownsRow.cellAt hh i (by omega);rw[Nat.zero_add,this];simp[hi]
theorem OwnR.grown {w w':World} {B:Nat} {u:Value} {rs:List (List Int)} {G C:Nat->Nat} {row:Option Nat} (h:OwnR w B u rs G C) (hg:w.grownBy w' row) (hr:∀k,row=some k->k<B):OwnR w' B u rs G C:=by
 have ne:∀{v:Value} {n:Nat} {e:TypeId} {xs:List Value},w.ownsRow B e 1 v n xs->v.ownBlock=none\/v.ownBlock≠row:=fun {v n e xs} ho=>by
  cases hv:v.ownBlock with
  |none=>exact .inl rfl
  |some k=>exact .inr (fun e=>by have:=(ho.lt k hv).1;have:=hr k e.symm;omega)
 exact⟨h.hdr.kept hg (ne h.hdr),fun i hi=>(h.row i hi).kept hg (ne (h.row i hi)),h.off,h.apart⟩
theorem OwnR.below {w w':World} {B B':Nat} {u:Value} {rs:List (List Int)} {G C:Nat->Nat} (h:OwnR w B u rs G C) (hg:Below B' w w') (hB:w.heap.size<=B'):OwnR w' B u rs G C:=
 h.grown (row:=none) ⟨hg.os,hg.tape,hg.output,hg.size,fun k hk _=>hg.block k (by omega)⟩ (fun _ e=>by cases e)
theorem ownsRow_base {w:World} {B B':Nat} {e:TypeId} {size:Nat} {v:Value} {n:Nat} {xs:List Value} (h:w.ownsRow B e size v n xs) (hB:B'<=B):w.ownsRow B' e size v n xs:=by
 obtain⟨h1,h2⟩:=h;refine⟨h1,?_⟩;rcases h2 with h2|⟨g,cap,cur,hv,hg,r⟩
 ·exact .inl h2
 ·exact .inr ⟨g,cap,cur,hv,Nat.le_trans hB hg,r⟩
theorem OwnR.base {w:World} {B B':Nat} {u:Value} {rs:List (List Int)} {G C:Nat->Nat} (h:OwnR w B u rs G C) (hB:B'<=B):OwnR w B' u rs G C:=
 ⟨ownsRow_base h.hdr hB,fun i hi=>ownsRow_base (h.row i hi) hB,h.off,h.apart⟩
theorem OwnR.snoc {w w':World} {B:Nat} {u:Value} {rs:List (List Int)} {G C:Nat->Nat} (h:OwnR w B u rs G C) {zs:List Int} {g c gg cap:Nat}
  (hz:w.ownsRow B 3 1 (.slice (some ⟨g,0,none⟩) zs.length c) zs.length (ints zs)) (hu:u.ownBlock≠some g) (hG:∀i,i<rs.length->G i≠g)
  (hown:w'.ownsRow B 23 1 (.slice (some ⟨gg,0,none⟩) (rs.length+1) cap) (rs.length+1) ((List.range rs.length).map (rowV rs G C)++[.slice (some ⟨g,0,none⟩) zs.length c]))
  (hg:w.grownBy w' u.ownBlock) (hat:u.ownBlock=some gg\/gg=w.heap.size):
  OwnR w' B (.slice (some ⟨gg,0,none⟩) (rs.length+1) cap) (rs++[zs]) (fun i=>if i<rs.length then G i else g) (fun i=>if i<rs.length then C i else c):=by
 have e1:∀i,i<rs.length->rowV (rs++[zs]) (fun i=>if i<rs.length then G i else g) (fun i=>if i<rs.length then C i else c) i=rowV rs G C i:=fun i hi=>by
  simp[rowV,hi,List.getElem?_append_left]
 have e2:rowV (rs++[zs]) (fun i=>if i<rs.length then G i else g) (fun i=>if i<rs.length then C i else c) rs.length=.slice (some ⟨g,0,none⟩) zs.length c:=by
  simp[rowV]
 have f1:∀i,i<rs.length->(rs++[zs]).getD i []=rs.getD i []:=fun i hi=>by simp[hi,List.getElem?_append_left]
 have f2:(rs++[zs]).getD rs.length []=zs:=by simp
 have lt1:∀i,i<rs.length->G i<w.heap.size:=fun i hi=>((h.row i hi).lt (G i) rfl).2
 have ltg:g<w.heap.size:=(hz.lt g rfl).2;refine⟨?_,fun i hi=>?_,fun i hi=>?_,fun i j hi hj hij=>?_⟩
 ·simp only[List.length_append,List.length_singleton]
  rw[List.range_succ,List.map_append,List.map_singleton,e2,List.map_congr_left (fun i hi=>e1 i (List.mem_range.1 hi))];exact hown
 ·simp only[List.length_append,List.length_singleton]at hi
  by_cases hi':i<rs.length
  ·rw[e1 i hi',f1 i hi']
   exact (h.row i hi').kept hg (.inr (fun e=>h.off i hi' e.symm))
  ·obtain rfl:i=rs.length:=by omega
   rw[e2,f2];exact hz.kept hg (.inr (fun e=>hu e.symm))
 ·simp only[List.length_append,List.length_singleton]at hi
  intro e;have e':gg=if i<rs.length then G i else g:=by simpa[Value.ownBlock]using e
  by_cases hi':i<rs.length
  ·rw[if_pos hi']at e'
   rcases hat with hat|hat
   ·exact h.off i hi' (by rw[hat,e'])
   ·have:=lt1 i hi';omega
  ·rw[if_neg hi']at e'
   rcases hat with hat|hat
   ·exact hu (by rw[hat,e'])
   ·omega
 ·simp only[List.length_append,List.length_singleton]at hi hj
  show (if i<rs.length then G i else g)≠(if j<rs.length then G j else g)
  by_cases hi':i<rs.length<;>by_cases hj':j<rs.length
  ·rw[if_pos hi',if_pos hj'];exact h.apart i j hi' hj' hij
  ·rw[if_pos hi',if_neg hj'];exact hG i hi'
  ·rw[if_neg hi',if_pos hj'];exact fun e=>hG j hj' e.symm
  ·omega
theorem OwnR.store {w:World} {B:Nat} {u:Value} {rs:List (List Int)} {G C:Nat->Nat} (h:OwnR w B u rs G C) (i k:Nat) (z:Int) (hi:i<rs.length) (hk:k<(rs.getD i []).length):
  OwnR (w.setCell ⟨G i,k,none⟩ (.int .i64 z)) B u (rs.set i ((rs.getD i []).set k z)) G C/\w.grownBy (w.setCell ⟨G i,k,none⟩ (.int .i64 z)) (some (G i)):=by
 have hg:=grownBy_setCell w ⟨G i,k,none⟩ (.int .i64 z);have eL:∀j,((rs.set i ((rs.getD i []).set k z)).getD j []).length=(rs.getD j []).length:=fun j=>by
  simp only[List.getD_eq_getElem?_getD,List.getElem?_set]
  by_cases e:i=j
  ·subst e;simp[hi]
  ·simp[e]
 have eV:∀j,rowV (rs.set i ((rs.getD i []).set k z)) G C j=rowV rs G C j:=fun j=>by unfold rowV;rw[eL]
 refine⟨⟨?_,fun j hj=>?_,fun j hj=>h.off j (by simpa using hj),fun a b ha hb hab=>h.apart a b (by simpa using ha) (by simpa using hb) hab⟩,hg⟩
 ·simp only[List.length_set]
  rw[List.map_congr_left (fun j _=>eV j)];exact h.hdr.kept hg (.inr (h.off i hi))
 ·simp only[List.length_set]at hj
  rw[eV,eL]
  by_cases e:j=i
  ·subst e
   have:=((h.row j hj).stored k (.int .i64 z)).1;have e':ints ((rs.set j ((rs.getD j []).set k z)).getD j [])=(ints (rs.getD j [])).set k (.int .i64 z):=by
    simp[ints,hj,List.map_set]
   rw[e'];exact this
  ·have e':(rs.set i ((rs.getD i []).set k z)).getD j []=rs.getD j []:=by simp[Ne.symm e]
   rw[e'];exact (h.row j hj).kept hg (.inr (by simp[rowV,Value.ownBlock];exact h.apart j i hj hi e))
end Go.Proofs.YtcblbdpdbggkbaaGreat
namespace Go.Proofs.YtcblbdpdbggkbaaGreat
open Go.RowKit Go.Sort
structure Boxed (p:Prop):Prop where
 out:p
theorem boxed_step {P:Program} {ops:Array Oper} {C:World->Prop} {Q:Act->Prop} {a:Act} {o:Oper} {rest:List Oper}
  (h:∀K:Act->Prop,(∀a,Boxed (wpQuiet P ops C Q rest a)->K a)->if Region.wanted o (yielded ops a.tmps)then o.quiet P a C K else K (a.put o.dst undef)):Boxed (wpQuiet P ops C Q (o::rest) a):=
 ⟨wpQuiet_step fun K hK=>h K fun a ha=>hK a ha.out⟩
theorem boxed_nil {P:Program} {ops:Array Oper} {C:World->Prop} {Q:Act->Prop} {a:Act} (h:Q a):Boxed (wpQuiet P ops C Q [] a):=⟨h⟩
theorem boxed_region {P:Program} {id:Nat} {Q:Exit->Act->World->Prop} {a:Act} {w:World} {l:List Oper} (hm:P.follows .mixedOrders=true) (hB:Region.lexB .any l.toArray=true)
  (h:Boxed (wpQuiet P l.toArray (fun w'=>∃p:Regrown,w'=grow (redrawn w p.d) p.os) (fun a'=>∀w',(∃p:Regrown,w'=grow (redrawn w p.d) p.os)->Q .normal a' w') l a)):(Code.region id l.toArray true).wp P Q a w:=
 wp_region_quiet_below hm hB h.out
def hush (o:Oper):Oper:={ o with op:=.move (.const (.bool false)) }
section
variable {P:Program} {md:Region.Mode} {C:World->Prop}
theorem ready_hush {A B:Array Oper} (hs:A.size=B.size) (h:∀j:Nat,(A[j]?).map Oper.after=(B[j]?).map Oper.after) (listed:Array Bool):Region.ready md A listed=Region.ready md B listed:=by
 have e:∀j,j ∈ Region.ready md A listed↔j ∈ Region.ready md B listed:=fun j=>by
  rw[mem_ready,mem_ready];have hj:=h j
  constructor
  ·rintro⟨h1,o,ho,h2⟩
   rw[ho]at hj;cases hB:B[j]? with
   |none=>rw[hB]at hj;cases hj
   |some o'=>
    rw[hB]at hj;have e:o.after=o'.after:=by simpa using hj
    exact⟨h1,o',rfl,fun e' he'=>h2 e' (by rw[e];exact he')⟩
  ·rintro⟨h1,o,ho,h2⟩
   rw[ho]at hj;cases hA:A[j]? with
   |none=>rw[hA]at hj;cases hj
   |some o'=>
    rw[hA]at hj;have e:o'.after=o.after:=by simpa using hj
    exact⟨h1,o',rfl,fun e' he'=>h2 e' (by rw[<-e];exact he')⟩
 unfold Region.ready at e ⊢;rw[hs]at e ⊢;apply List.filter_congr;intro j hj;have:=e j;simp only[List.mem_filter,hj,true_and]at this;exact Bool.eq_iff_iff.2 this
theorem yielded_hush {A B:Array Oper} (h:∀j:Nat,(A[j]?).bind Oper.dst=(B[j]?).bind Oper.dst) (tmps:Array Value):yielded A tmps=yielded B tmps:=by
 funext j
 have h':((A[j]?).bind fun x=>x.dst)=(B[j]?).bind fun x=>x.dst:=h j
 unfold yielded;rw[h']
theorem wpQuiet_ops {A B:Array Oper} (h:∀tmps,yielded A tmps=yielded B tmps) {Q:Act->Prop}:∀(l:List Oper) (a:Act),wpQuiet P A C Q l a->wpQuiet P B C Q l a
 | [],_,hh=>hh
 |o::l,a,hh=>by
  unfold wpQuiet at hh ⊢;rw[<-h]
  split
  ·rename_i hw
   rw[if_pos hw]at hh;exact Oper.quiet_mono (fun a'=>wpQuiet_ops h l a') hh
  ·rename_i hw
   rw[if_neg hw]at hh;exact wpQuiet_ops h l _ hh
theorem wpQuiet_mono {A:Array Oper} {R R':Act->Prop} (ho:∀a,R a->R' a):∀(l:List Oper) (a:Act),wpQuiet P A C R l a->wpQuiet P A C R' l a
 | [],a,hh=>ho a hh
 |p::l,a,hh=>by
  unfold wpQuiet at hh ⊢
  split
  ·rename_i hw
   rw[if_pos hw]at hh;exact Oper.quiet_mono (fun a'=>wpQuiet_mono ho l a') hh
  ·rename_i hw
   rw[if_neg hw]at hh;exact wpQuiet_mono ho l _ hh
theorem wpQuiet_snoc {A:Array Oper} {R R':Act->Prop} {o:Oper} (ho:∀a,R a->wpQuiet P A C R' [o] a):∀(l:List Oper) (a:Act),wpQuiet P A C R l a->wpQuiet P A C R' (l++[o]) a
 | [],a,hh=>ho a hh
 |p::l,a,hh=>by
  rw[List.cons_append];unfold wpQuiet at hh ⊢
  split
  ·rename_i hw
   rw[if_pos hw]at hh;exact Oper.quiet_mono (fun a'=>wpQuiet_snoc ho l a') hh
  ·rename_i hw
   rw[if_neg hw]at hh;exact wpQuiet_snoc ho l _ hh
def OutLast (P:Program) (o:Oper) (Q:Exit->Act->World->Prop) (a:Act) (w:World):Prop:=o.wp P a w (fun a w=>Q .normal a w) Q\/(o.asks P a w/\LetsOut Q)
def backB (A:Array Oper):Bool:=(List.range A.size).all fun i=>match A[i]? with|some o=>o.after.all fun e=>decide (e.on<i)|none=>true
theorem some_ready {A:Array Oper} {listed:Array Bool} (hb:backB A=true) (hsz:listed.size=A.size):∀(i:Nat),i<A.size->listed.getD i true=false->∃j,j ∈ Region.ready md A listed:=by
 intro i
 induction i using Nat.strongRecOn with
 |_ i ih=>
  intro hi hun
  by_cases hr:i ∈ Region.ready md A listed
  ·exact⟨i,hr⟩
  ·have ho:A[i]? =some A[i]:=Array.getElem?_eq_getElem hi
   have h1:=List.all_eq_true.1 hb i (List.mem_range.2 hi);rw[ho]at h1;simp only at h1;have:∃e ∈ A[i].after,listed.getD e.on false≠true:=by
    apply Classical.byContradiction;intro hno;apply hr;rw[mem_ready];refine⟨hun,_,ho,fun e he _=>?_⟩;apply Classical.byContradiction;exact fun hne=>hno ⟨e,he,hne⟩
   obtain⟨e,he,hne⟩:=this;have hlt:e.on<i:=by
    obtain⟨k,hk,rfl⟩:=Array.getElem_of_mem he;have:=Array.all_eq_true.1 h1 k hk;simpa using this
   refine ih e.on hlt (by omega) ?_;exact getD_in (by omega) (by simpa using hne)
theorem wpAny_of_hush {A B:Array Oper} {n:Nat} {o:Oper} {Q':Exit->Act->World->Prop} (hn:n+1=A.size) (hsz:B.size=A.size) (hrd:∀listed,Region.ready md B listed=Region.ready md A listed)
  (hhead:∀j,j<n->B[j]? =A[j]?) (hlast:A[n]? =some o) (hquiet:B[n]? =some (hush o)) (hdst:o.dst=none) (hguard:o.guard=none) (hy:∀tmps,yielded B tmps=yielded A tmps)
  (hs:Region.sinkB md A n=true) (hc:Region.chainB md A n=true) (hback:backB A=true):
  ∀(fuel:Nat) (listed:Array Bool) (a:Act) (w:World),HeadInv md A n listed->(∃j,j ∈ Region.ready md A listed)->C w->
   wpAnyQ P md B C (fun a'=>∀w',C w'->OutLast P o Q' a' w') fuel listed a->wpAny P md A Q' fuel listed a w
 | 0,listed,a,w,_,hj,_,h=>by
  obtain⟨j,hj⟩:=hj;have h0:Region.ready md B listed=[]:=h.1;rw[hrd]at h0;rw[h0]at hj;cases hj
 |fuel+1,listed,a,w,inv,hj,hw,h=>by
  obtain⟨j,hj⟩:=hj;refine⟨fun h0=>(by rw[h0]at hj;cases hj),fun i hi=>?_⟩;have h2:=h.2 i (by rw[hrd];exact hi);have hiA:i<A.size:=by
   obtain⟨_,oi,hoi,_⟩:=mem_ready.1 hi;exact (Array.getElem?_eq_some_iff.1 hoi).1
  by_cases hin:i<n
  ·-- an operation ahead of the last:the same in both
   have inv':=inv.set hi hin;have hB:B[i]? =A[i]? :=hhead i hin;have hq:qOp P A C i (wpAnyQ P md B C (fun a'=>∀w',C w'->OutLast P o Q' a' w') fuel (listed.setIfInBounds i true)) a:=by
    unfold qOp at h2 ⊢;rw[hB]at h2;cases hA:A[i]? with
    |none=>rw[hA]at h2;exact h2
    |some oi=>
     rw[hA]at h2;simp only at h2 ⊢;rw[hy]at h2;exact h2
   refine wpOp_of_qOp hw (fun a' w' hw' h3=>?_) hq
   -- the last is not yet carried out:something may come up
   have hlt:listed.getD n true=false:=inv.tail n lr_ (by omega);have hun:(listed.setIfInBounds i true).getD n true=false:=by rw[getD_set_ne true (by omega)];exact hlt
   have hsome:=some_ready (md:=md) hback inv'.size n (by omega) hun;exact wpAny_of_hush hn hsz hrd hhead hlast hquiet hdst hguard hy hs hc hback fuel _ a' w' inv' hsome hw' h3
  ·obtain rfl:i=n:=by omega
   -- the last:all others are carried out
   have hall:∀k,k<i->listed.getD k true=true:=fun k hk=>by
    cases hl:listed.getD k true with
    |true=>rfl
    |false=>exact absurd hi (tail_waits hs hc (by omega) inv _ k rfl hk hl i lr_)
   have hend:Region.ready md A (listed.setIfInBounds i true)=[]:=by
    cases hr:Region.ready md A (listed.setIfInBounds i true)with
    |nil=>rfl
    |cons x xs=>
     have hx:x ∈ Region.ready md A (listed.setIfInBounds i true):=by rw[hr];simp
     obtain⟨hu,ox,hox,_⟩:=mem_ready.1 hx;have hxA:=(Array.getElem?_eq_some_iff.1 hox).1;have hxs:x<listed.size:=by rw[inv.size];exact hxA
     by_cases e:i=x
     ·subst e
      simp[hxs]at hu
     ·rw[getD_set_ne true e]at hu
      rw[hall x (by omega)]at hu;cases hu
   have hq:wpAnyQ P md B C (fun a'=>∀w',C w'->OutLast P o Q' a' w') fuel (listed.setIfInBounds i true) a:=by
    unfold qOp at h2;rw[hquiet]at h2;simp only at h2;have hp:∀v,a.put (hush o).dst v=a:=fun v=>by show a.put o.dst v=a;rw[hdst];rfl
    split at h2
    ·obtain⟨v,_,h3⟩:=h2
     rw[hp]at h3;exact h3
    ·rw[hp]at h2
     exact h2
   have hR:∀w',C w'->OutLast P o Q' a w':=by
    cases fuel with
    |zero=>exact hq.2
    |succ f=>exact hq.1 (by rw[hrd];exact hend)
   unfold wpOp;rw[hlast];simp only;have hwd:Region.wanted o (yielded A a.tmps)=true:=by simp[Region.wanted,hguard]
   rw[if_pos hwd];rcases hR w hw with h3|h3
   ·refine .inl (Oper.wp_mono (fun a' w' hq'=>?_) h3)
    cases fuel with
    |zero=>exact⟨hend,hq'⟩
    |succ f=>exact⟨fun _=>hq',fun k hk=>by rw[hend]at hk;cases hk⟩
   ·exact .inr h3
theorem wp_region_last {id:Nat} {Q:Exit->Act->World->Prop} {a:Act} {w:World} {l:List Oper} (n:Nat) (o:Oper) (hl:l.drop n=[o]) (hdst:o.dst=none) (hguard:o.guard=none)
  (hm:P.follows .mixedOrders=true) (hB:Region.lexB .any (l.take n++[hush o]).toArray=true) (hs:Region.sinkB .any l.toArray n=true) (hc:Region.chainB .any l.toArray n=true) (hback:backB l.toArray=true)
  (hC:C { w with drawn:=w.drawn+1 }) (h:Boxed (wpQuiet P l.toArray C (fun a'=>∀w',C w'->wpList P l.toArray Q [o] a' w') (l.take n) a)):(Code.region id l.toArray true).wp P Q a w:=by
 replace h:=h.out;have hn:n<l.length:=by
  apply Classical.byContradiction;intro hno;rw[List.drop_of_length_le (by omega)]at hl;cases hl
 have hlen:n+1=l.length:=by
  have:=congrArg List.length hl;simp at this;omega
 have htake:(l.take n).length=n:=by simp;omega
 have hsplit:l=l.take n++[o]:=by rw[<-hl,List.take_append_drop]
 have gA:∀j:Nat,l.toArray[j]? =if j<n then (l.take n)[j]? else if j=n then some o else none:=fun j=>by
  rw[List.getElem?_toArray]
  conv=>lhs;rw[hsplit]
  rw[List.getElem?_append];simp only[htake]
  split
  ·rfl
  ·split
   ·rename_i h1 h2;subst h2;simp
   ·rename_i h1 h2;rw[List.getElem?_eq_none (by simp;omega)]
 have gB:∀j:Nat,(l.take n++[hush o]).toArray[j]? =if j<n then (l.take n)[j]? else if j=n then some (hush o)else none:=fun j=>by
  rw[List.getElem?_toArray,List.getElem?_append];simp only[htake]
  split
  ·rfl
  ·split
   ·rename_i h1 h2;subst h2;simp
   ·rename_i h1 h2;rw[List.getElem?_eq_none (by simp;omega)]
 have hsz:(l.take n++[hush o]).toArray.size=l.toArray.size:=by simp;omega
 have haft:∀j:Nat,((l.take n++[hush o]).toArray[j]?).map Oper.after=(l.toArray[j]?).map Oper.after:=fun j=>by
  rw[gA,gB];split
  ·rfl
  ·split<;>rfl
 have hdd:∀j:Nat,((l.take n++[hush o]).toArray[j]?).bind Oper.dst=(l.toArray[j]?).bind Oper.dst:=fun j=>by
  rw[gA,gB];split
  ·rfl
  ·split<;>rfl
 have hy:=yielded_hush hdd;have hwd:∀t,Region.wanted o t=true:=fun t=>by simp[Region.wanted,hguard]
 have h1:wpQuiet P (l.take n++[hush o]).toArray C (fun a'=>∀w',C w'->OutLast P o Q a' w') (l.take n++[hush o]) a:=by
  refine wpQuiet_snoc (R:=fun a'=>∀w',C w'->OutLast P o Q a' w') (fun a' hR=>?_) _ _ (wpQuiet_ops (fun t=>(hy t).symm) _ _ ?_)
  ·unfold wpQuiet
   have hw':Region.wanted (hush o) (yielded (l.take n++[hush o]).toArray a'.tmps)=true:=by simp[Region.wanted,hush,hguard]
   rw[if_pos hw'];refine⟨.bool false,fun w' _=>?_,?_⟩
   ·unfold Oper.quietAt
    show Oper.quietUpon P C w' (.bool false) ((execOp a'.eval (hush o)).run P w')
    simp[hush,execOp,Oper.quietUpon,Act.eval]
   ·unfold wpQuiet
    have:a'.put (hush o).dst (.bool false)=a':=by show a'.put o.dst _=a';rw[hdst];rfl
    rw[this];exact hR
  ·refine wpQuiet_mono (fun a' h2 w' hw'=>?_) _ _ h
   have h3:=h2 w' hw';unfold wpList at h3;rw[if_pos (hwd _)]at h3;exact h3
 refine wp_region_any hm ?_;have hlex:=hB;simp only[Region.lexB,Bool.and_eq_true]at hlex;have h2:=wpAnyQ_lex (C:=C) (md:=.any) hlex.1 (l.take n++[hush o]) 0 (Array.replicate l.toArray.size false) a (by simp) (by rw[<-hsz];simpa using hlex.2) h1;have h3:(l.take n++[hush o]).length=l.toArray.size:=by simp;omega
 rw[h3]at h2;have inv0:HeadInv .any l.toArray n (Array.replicate l.toArray.size false):=
  ⟨by simp,fun j oj _ hl=>(by rw[getD_replicate_false]at hl;cases hl),fun t _ ht=>getD_in (by simpa using ht) (getD_replicate_false _ _)⟩
 have hrd:=fun listed=>ready_hush (md:=.any) hsz haft listed
 refine wpAny_of_hush (n:=n) (o:=o) (by simpa using hlen) hsz hrd (fun j hj=>by rw[gA,gB,if_pos hj,if_pos hj]) (by rw[gA,if_neg (by omega),if_pos rfl]) (by rw[gB,if_neg (by omega),if_pos rfl]) hdst hguard hy hs hc hback _ _ _ _ inv0 ?_ hC h2;exact some_ready hback (by simp) n (by simpa using hn) (getD_in (by simpa using hn) (getD_replicate_false _ _))
end
end Go.Proofs.YtcblbdpdbggkbaaGreat
set_option linter.unusedVariables false
namespace Go.Proofs.YtcblbdpdbggkbaaGreat
open Go.RowKit
def Bts (w:World) (a:Nat) (v:Value) (n:Nat):Prop:=
 (n=0/\∃x cap,v=.slice x 0 cap)\/
 ∃b o cap,v=.slice (some ⟨b,o,none⟩) n cap/\n<=cap/\b<a/\∀i,i<n->∃z:Int,w.cell? ⟨b,o+i,none⟩=some (.int .u8 z)/\0<=z/\z<=255
def Rd (w:World) (a:Nat) (p:Int):Prop:=
 ∃v n,w.heap[a]? =some (.cells #[v,.int .i64 p] 186 (0,0))/\Bts w a v n/\n<=2000
theorem Bts.grown {w w':World} {a n:Nat} {v:Value} {row:Option Nat} (h:Bts w a v n) (hg:w.grownBy w' row) (hr:∀k,row=some k->a<=k):Bts w' a v n:=by
 rcases h with h|⟨b,o,cap,rfl,h1,h2,h3⟩
 ·exact .inl h
 ·refine .inr ⟨b,o,cap,rfl,h1,h2,fun i hi=>?_⟩
  obtain⟨z,hz,hb⟩:=h3 i hi;refine⟨z,hg.cell hz (fun e=>?_),hb⟩;have:=hr _ e.symm;simp at this;omega
theorem open_small (w:World) (x:Option Addr) (n cap:Nat) (v:Value) (hv:v=.slice x n cap) (hn:n<=2000):
  Calls Tryz.prog 63 #[v] w fun e w'=>e=.returned (.pointer (some ⟨w.heap.size,0,none⟩))/\w.alloc (.cells #[v,.int .i64 0] 186)=w':=by
 subst hv;have hn':¬(2000:Int)<(n:Int):=by omega
 go_enter Tryz.func63,Tryz.ntmps63;go_wp2;go_ret;exact⟨rfl,rfl⟩
theorem open_great (w:World) (b o n cap:Nat) (hn:2000<n) (hc:n<=cap):
  Calls Tryz.prog 63 #[.slice (some ⟨b,o,none⟩) n cap] w fun e w'=>e=.returned (.pointer (some ⟨w.heap.size,0,none⟩))/\w.alloc (.cells #[.slice (some ⟨b,o,none⟩) 2000 cap,.int .i64 0] 186)=w':=by
 have hn':(2000:Int)<(n:Int):=by omega
 have hc':(2000:Int)<=(cap:Int):=by omega
 go_enter Tryz.func63,Tryz.ntmps63;go_wp2;go_ret;exact⟨rfl,rfl⟩
theorem ofInt_i64 (a:Nat) (ha:a<1073741824):(BitVec.ofInt 64 (a:Int)).toNat=a:=by
 rw[BitVec.ofInt_natCast,BitVec.toNat_ofNat];exact Nat.mod_eq_of_lt (by omega)
theorem bits_xor_nonneg (a b:Int) (ha:0<=a) (hb:0<=b) (ha':a<1073741824) (hb':b<1073741824):0<=bits .xor .i64 a b/\bits .xor .i64 a b<1073741824:=by
 obtain⟨A,rfl⟩:=Int.eq_ofNat_of_zero_le ha;obtain⟨B,rfl⟩:=Int.eq_ofNat_of_zero_le hb;have hx:A ^^^ B<2 ^ 30:=Nat.xor_lt_two_pow (by omega) (by omega);have e:bits .xor .i64 (A:Int) (B:Int)=((A ^^^ B:Nat):Int):=by
  show IntKind.i64.wrap ((BitVec.ofInt 64 (A:Int) ^^^ BitVec.ofInt 64 (B:Int)).toNat:Int)=_
  rw[BitVec.toNat_xor,ofInt_i64 A (by omega),ofInt_i64 B (by omega)];exact IntWalk.i64_in _ (by omega)
 rw[e];omega
theorem Rd.step {w:World} {a:Nat} {v u:Value} {p q:Int} {n:Nat} (hA:w.heap[a]? =some (.cells #[v,.int .i64 p] 186 (0,0))) (hB:Bts w a v n) (hn:n<=2000) (hu:u=.int .i64 q):
  Rd (w.setCell ⟨a,1,none⟩ u) a q/\w.grownBy (w.setCell ⟨a,1,none⟩ u) (some a):=by
 subst hu;have hg:w.grownBy (w.setCell ⟨a,1,none⟩ (.int .i64 q)) (some a):=⟨rfl,rfl,rfl,by simp,fun k _ hk=>heap_setCell_other w ⟨a,1,none⟩ k _ (fun e=>hk (by simp[e]))⟩
 exact⟨⟨v,n,by rw[heap_setCell_same w a 1 _ _ _ hA];rfl,hB.grown hg (fun k hk=>by cases hk;exact Nat.le_refl _),hn⟩,hg⟩
theorem Rd.drewN {w:World} {a:Nat} {p:Int} (h:Rd w a p) (n:Nat):Rd (w.drewN n) a p:=h
theorem mod_in (x n:Int) (hn:1<=n):0<=x % n/\x % n<n:=⟨Int.emod_nonneg _ (by omega),Int.emod_lt_of_pos _ (by omega)⟩
theorem tmod_in (x n:Int) (hx:0<=x) (hn:1<=n):0<=x.tmod n/\x.tmod n<n:=by rw[Int.tmod_eq_emod_of_nonneg hx];exact mod_in x n hn
theorem pick_atC (w:World) (a:Nat) (p n:Int) (h:Rd w a p) (hp:0<=p) (hp':p<=100000) (hn:1<=n) (hn':n<=10000):
  Calls Tryz.prog 65 #[.pointer (some ⟨a,0,none⟩),.int .i64 n] w fun e w'=>∃v,e=.returned (.int .i64 v)/\0<=v/\v<n/\Rd w' a (p+1)/\w.grownBy w' (some a)/\w'.cell? ⟨a,0,none⟩=w.cell? ⟨a,0,none⟩:=by
 obtain⟨bs,len,hA,hB,hlen⟩:=h;obtain⟨P,rfl⟩:=Int.eq_ofNat_of_zero_le hp;have c0:w.cell? ⟨a,0,none⟩=some bs:=by simp[World.cell?,hA]
 have c1:w.cell? ⟨a,1,none⟩=some (.int .i64 P):=by simp[World.cell?,hA]
 have f1:w.frozen? ⟨a,1,none⟩=false:=by simp[World.frozen?,hA]
 have hR:=Rd.step (u:=.int .i64 ((P:Int)+1)) hA hB hlen rfl;have HR:=hd_ hR;have d0:(w.setCell ⟨a,1,none⟩ (.int .i64 (P+1))).cell? ⟨a,0,none⟩=some bs:=(World.cell?_setCell_other (h:=by simp) ..).trans c0;have d1:(w.setCell ⟨a,1,none⟩ (.int .i64 (P+1))).cell? ⟨a,1,none⟩=some (.int .i64 (P+1)):=World.cell?_setCell_same _ _ _ c1;have HC:=hd_ (d0.trans c0.symm);have zero:0<=(0:Int)/\(0:Int)<n:=by omega
 clear hA hR
 by_cases h0:len=0
 ·obtain⟨x,cap,rfl⟩:∃x cap,bs=.slice x 0 cap:=by
   rcases hB with ⟨_,x,cap,rfl⟩|⟨b,o,cap,rfl,_⟩
   ·exact⟨x,cap,rfl⟩
   ·exact⟨_,cap,by rw[h0]⟩
  clear hB h0;go_enter Tryz.func65,Tryz.ntmps65;go_wp2;go_ret;exact⟨0,rfl,zero.1,zero.2,HR.out.1,HR.out.2,HC.out⟩
 ·rcases hB with ⟨h,_⟩|⟨b,o,cap,rfl,hc,hb,hz⟩
  ·exact absurd h h0
  have hz':∀i,i<len->∃z:Int,(w.setCell ⟨a,1,none⟩ (.int .i64 (P+1))).cell? ⟨b,o+i,none⟩=some (.int .u8 z)/\0<=z/\z<=255:=fun i hi=>by
   obtain⟨z,h1,h2⟩:=hz i hi;exact⟨z,(World.cell?_setCell_other (h:=fun h=>by injection h with h;omega) ..).trans h1,h2⟩
  have l0:((len:Int)==0)=false:=by simp;omega
  have l1:(1:Int)<=(len:Int):=by omega
  have n0:(n==0)=false:=by simp;omega
  have Hz:=hd_ hz';clear hz hz' hc h0
  by_cases hk:P<len
  ·obtain⟨z,hz,z0,z1⟩:=Hz.out P hk
   go_enter Tryz.func65,Tryz.ntmps65;go_wp2;go_ret;exact⟨_,rfl,(mod_in _ _ hn).1,(mod_in _ _ hn).2,HR.out.1,HR.out.2,HC.out⟩
  ·go_enter Tryz.func65,Tryz.ntmps65
   go_wp2;obtain⟨I1,hI1,hlt1⟩:∃I1:Nat,(P:Int).tmod (len:Int)=(I1:Int)/\I1<len:=⟨P % len,by rw[Int.tmod_eq_emod_of_nonneg (by omega)];simp,Nat.mod_lt _ (by omega)⟩
   obtain⟨I2,hI2,hlt2⟩:∃I2:Nat,((P:Int) * 7+3).tmod (len:Int)=(I2:Int)/\I2<len:=⟨(P * 7+3) % len,by rw[Int.tmod_eq_emod_of_nonneg (by omega)];simp,Nat.mod_lt _ (by omega)⟩
   obtain⟨Q,hQ,q0,q1⟩:∃Q:Int,(P:Int).tdiv (len:Int)=Q/\0<=Q/\Q<=100000:=⟨_,rfl,Int.tdiv_nonneg (by omega) (by omega),by
        rw[Int.tdiv_eq_ediv_of_nonneg (by omega)];exact Int.le_trans (Int.ediv_le_self _ (by omega)) hp'⟩
   have len0:¬len=0:=by omega
   obtain⟨z1,hz1,z10,z11⟩:=Hz.out I1 hlt1;obtain⟨z2,hz2,z20,z21⟩:=Hz.out I2 hlt2;have i1a:(0:Int)<=(I1:Int):=by omega
   have i1b:(I1:Int)<(len:Int):=by omega
   have i2a:(0:Int)<=(I2:Int):=by omega
   have i2b:(I2:Int)<(len:Int):=by omega
   have w1:IntKind.i64.wrap ((P:Int) * 7)=(P:Int) * 7:=IntWalk.i64_in _ (by omega);have w2:IntKind.i64.wrap ((P:Int) * 7+3)=(P:Int) * 7+3:=IntWalk.i64_in _ (by omega);obtain⟨W,hW⟩:∃W,W=w.setCell ⟨a,1,none⟩ (.int .i64 ((P:Int)+1)):=⟨_,rfl⟩
   rw[<-hW]at d0 d1 hz1 hz2 HR HC ⊢;clear hW
   go_quiet (fail)
   clear hI1 hI2 hQ w1 w2;go_wp2;go_ret;have hx:=bits_xor_nonneg (z1 * 131+z2 * 1117+P * 29+Q * 53) ((z1 * 131+z2 * 1117+P * 29+Q * 53) / 64) (by omega) (by omega) (by omega) (by omega);have hv:=tmod_in _ n hx.1 hn;exact⟨_,rfl,hv.1,hv.2,HR.out.1.drewN _,grownBy_drewN HR.out.2 _,HC.out⟩
theorem bts_of (w:World) (x:Option Addr) (len cap:Nat) (zs:List Int)
  (h:(x=none/\len=0/\cap=0/\zs=[])\/∃y,x=some y/\len<=cap/\cap<=maxLen/\zs.length=cap/\(∀i,i<zs.length->w.cell? (y.add i)=some (.int .u8 (zs.getD i 0)))/\∀n ∈ zs,(Lit.int .u8 n).wf=true):
  Bts w w.heap.size (.slice x len cap) len/\((len:Int)>1048576\/¬(1048576:Int)<len):=by
 refine⟨?_,by omega⟩;rcases h with ⟨rfl,rfl,rfl,rfl⟩|⟨⟨b,o,sp⟩,rfl,h1,h2,h3,h4,h5⟩
 ·exact .inl ⟨rfl,_,_,rfl⟩
 ·by_cases h0:len=0
  ·subst h0
   exact .inl ⟨rfl,_,_,rfl⟩
  ·have hc:=h4 0 (by omega)
   have hs:sp=none:=by simpa[Addr.add]using World.cell?_spot hc
   subst hs;refine .inr ⟨b,o,cap,rfl,h1,?_,fun i hi=>⟨zs.getD i 0,?_,?_⟩⟩
   ·simpa[Addr.add]using World.block_lt_of_cell? _ _ hc
   ·have e:(⟨b,o,none⟩:Addr).add i=⟨b,o+i,none⟩:=by unfold Addr.add;split<;>simp_all
    rw[<-e];exact h4 i (by omega)
   ·have:=h5 (zs.getD i 0) (getD_mem _ _ _ (by omega))
    exact bounds_u8 this
end Go.Proofs.YtcblbdpdbggkbaaGreat
set_option linter.unusedVariables false
set_option linter.unusedSectionVars false
set_option linter.unusedSimpArgs false
namespace Go.Proofs.YtcblbdpdbggkbaaGreat.N
end Go.Proofs.YtcblbdpdbggkbaaGreat.N
namespace Go.Proofs.YtcblbdpdbggkbaaGreat
open Go.RowKit Go.Sort
abbrev Rep (α:Type):=World->List Value->α->List Nat->Prop
structure Rep.Frame {α:Type} (R:Rep α):Prop where
 lt:∀{w cs a fp},R w cs a fp->∀b ∈ fp,b<w.heap.size
 keep:∀{w w' cs a fp},R w cs a fp->(∀b ∈ fp,w'.heap[b]? =w.heap[b]?)->w.heap.size<=w'.heap.size->R w' cs a fp
theorem Rep.Frame.below {α:Type} {R:Rep α} (F:R.Frame) {w w':World} {cs:List Value} {a:α} {fp:List Nat} (h:R w cs a fp) {B:Nat} (hb:Below B w w') (hB:w.heap.size<=B):R w' cs a fp:=
 F.keep h (fun b hm=>hb.block b (Nat.lt_of_lt_of_le (F.lt h b hm) hB)) hb.size
def intR:Rep Int:=fun _ cs z fp=>cs=[.int .i64 z]/\fp=[]
def andR {α β:Type} (A:Rep α) (B:Rep β):Rep (α × β):=fun w cs p fp=>∃c1 c2 f1 f2,cs=c1++c2/\fp=f1++f2/\A w c1 p.1 f1/\B w c2 p.2 f2
def viaR {α β:Type} (A:Rep α) (f:β->α):Rep β:=fun w cs b fp=>A w cs (f b) fp
def slcR {α:Type} (e:TypeId) (size:Nat) (A:Rep α):Rep (List α):=fun w cs xs fp=>
 ∃(v:Value) (c:Nat->List Value) (f:Nat->List Nat),cs=[v]/\w.ownsRow 0 e size v xs.length ((List.range xs.length).map c).flatten/\(∀i,i<xs.length->(c i).length=size)/\(∀i a,xs[i]? =some a->A w (c i) a (f i))/\
  fp=v.ownBlock.toList++((List.range xs.length).map f).flatten
theorem intR_frame:intR.Frame:=⟨fun h b hm=>absurd hm (by rw[h.2];exact List.not_mem_nil),fun h _ _=>h⟩
theorem andR_frame {α β:Type} {A:Rep α} {B:Rep β} (FA:A.Frame) (FB:B.Frame):(andR A B).Frame:=by
 refine⟨?_,?_⟩
 ·rintro w cs a fp ⟨c1,c2,f1,f2,rfl,rfl,h1,h2⟩ b hm
  rcases List.mem_append.1 hm with hm|hm
  ·exact FA.lt h1 b hm
  ·exact FB.lt h2 b hm
 ·rintro w w' cs a fp ⟨c1,c2,f1,f2,rfl,rfl,h1,h2⟩ hk hs
  exact⟨c1,c2,f1,f2,rfl,rfl,FA.keep h1 (fun b hm=>hk b (List.mem_append_left _ hm)) hs,FB.keep h2 (fun b hm=>hk b (List.mem_append_right _ hm)) hs⟩
theorem viaR_frame {α β:Type} {A:Rep α} (FA:A.Frame) (f:β->α):(viaR A f).Frame:=⟨fun h=>FA.lt h,fun h hk hs=>FA.keep h hk hs⟩
theorem ownsRow_same {w w':World} {B:Nat} {e:TypeId} {size n:Nat} {v:Value} {xs:List Value} (h:w.ownsRow B e size v n xs) (hk:∀g,v.ownBlock=some g->w'.heap[g]? =w.heap[g]?):w'.ownsRow B e size v n xs:=by
 refine⟨h.1,?_⟩;rcases h.2 with hn|⟨g,cap,cur,rfl,hb,hg,r⟩
 ·exact .inl hn
 ·exact .inr ⟨g,cap,cur,rfl,hb,(hk g rfl).trans hg,r⟩
theorem mem_fps {n:Nat} {f:Nat->List Nat} {b:Nat} (h:b ∈ ((List.range n).map f).flatten):∃i,i<n/\b ∈ f i:=by
 obtain⟨l,hl,hb⟩:=List.mem_flatten.1 h;obtain⟨i,hi,rfl⟩:=List.mem_map.1 hl;exact⟨i,List.mem_range.1 hi,hb⟩
theorem mem_fps_of {n:Nat} {f:Nat->List Nat} {b i:Nat} (hi:i<n) (h:b ∈ f i):b ∈ ((List.range n).map f).flatten:=
 List.mem_flatten.2 ⟨f i,List.mem_map.2 ⟨i,List.mem_range.2 hi,rfl⟩,h⟩
theorem slcR_frame {α:Type} {A:Rep α} (FA:A.Frame) (e:TypeId) (size:Nat):(slcR e size A).Frame:=by
 refine⟨?_,?_⟩
 ·rintro w cs xs fp ⟨v,c,f,rfl,ho,hl,ha,rfl⟩ b hm
  rcases List.mem_append.1 hm with hm|hm
  ·exact (ho.lt b (by cases hv:v.ownBlock<;>simp[hv]at hm ⊢;exact hm.symm)).2
  ·obtain⟨i,hi,hb⟩:=mem_fps hm
   exact FA.lt (ha i _ (List.getElem?_eq_getElem hi)) b hb
 ·rintro w w' cs xs fp ⟨v,c,f,rfl,ho,hl,ha,rfl⟩ hk hs
  refine⟨v,c,f,rfl,ownsRow_same ho (fun g hg=>hk g (List.mem_append_left _ (by simp[hg]))),hl,fun i a hi=>FA.keep (ha i a hi) (fun b hm=>hk b (List.mem_append_right _ (mem_fps_of ?_ hm))) hs,rfl⟩;exact (List.getElem?_eq_some_iff.1 hi).1
theorem flat_at {c:Nat->List Value} {size n i k:Nat} (hl:∀i,i<n->(c i).length=size) (hi:i<n) (hk:k<size):((List.range n).map c).flatten[i * size+k]? =(c i)[k]? :=by
 induction n with
 |zero=>omega
 |succ n ih=>
  have hn:((List.range n).map c).flatten.length=n * size:=by
   clear ih hi
   induction n with
   |zero=>simp
   |succ m im=>
    rw[List.range_succ,List.map_append,List.flatten_append,List.length_append,im (fun i hi=>hl i (by omega))];simp[hl m (by omega),Nat.succ_mul]
  rw[List.range_succ,List.map_append,List.flatten_append]
  by_cases h:i<n
  ·rw[List.getElem?_append_left (by rw[hn];(have:i * size+size<=n * size:=by rw[<-Nat.succ_mul];exact Nat.mul_le_mul_right _ h);omega)]
   exact ih (fun i hi=>hl i (by omega)) h
  ·obtain rfl:i=n:=by omega
   rw[List.getElem?_append_right (by rw[hn];omega),hn,Nat.add_sub_cancel_left];simp
theorem flat_len {c:Nat->List Value} {size n:Nat} (hl:∀i,i<n->(c i).length=size):((List.range n).map c).flatten.length=n * size:=by
 induction n with
 |zero=>simp
 |succ m im=>
  rw[List.range_succ,List.map_append,List.flatten_append,List.length_append,im (fun i hi=>hl i (by omega))];simp[hl m (by omega),Nat.succ_mul]
def flatR {α:Type} (enc:α->List Value):Rep α:=fun _ cs a fp=>cs=enc a/\fp=[]
theorem flatR_frame {α:Type} (enc:α->List Value):(flatR enc).Frame:=⟨fun h b hm=>absurd hm (by rw[h.2];exact List.not_mem_nil),fun h _ _=>h⟩
theorem range_flat {α:Type} (xs:List α) (enc:α->List Value) (c:Nat->List Value) (hc:∀i a,xs[i]? =some a->c i=enc a):((List.range xs.length).map c).flatten=xs.flatMap enc:=by
 have e:(List.range xs.length).map c=xs.map enc:=by
  apply List.ext_getElem?;intro i
  by_cases h:i<xs.length
  ·have hi:=List.getElem?_eq_getElem h
   simp[h,hc i _ hi]
  ·have h':xs.length<=i:=by omega
   simp[h']
 rw[e,List.flatMap_def]
theorem nil_flat {n:Nat}:((List.range n).map fun _=>([]:List Nat)).flatten=[]:=by
 induction n with
 |zero=>rfl
 |succ n ih=>rw[List.range_succ,List.map_append,List.flatten_append,ih];rfl
theorem one_flat {β:Type} (l:List Nat) (g:Nat->β):(l.map fun i=>[g i]).flatten=l.map g:=by
 induction l with
 |nil=>rfl
 |cons a l ih=>simp[ih]
section
variable {α:Type} {enc:α->List Value} {w:World} {B size:Nat} {e:TypeId} {v:Value} {xs:List α}
theorem slc_flat_of (h:w.ownsRow B e size v xs.length (xs.flatMap enc)) (hl:∀a,(enc a).length=size):slcR e size (flatR enc) w [v] xs v.ownBlock.toList:=by
 refine⟨v,fun i=>(xs[i]?.map enc).getD [],fun _=>[],rfl,?_,fun i hi=>?_,fun i a hi=>?_,?_⟩
 ·rw[range_flat xs enc _ (fun i a hi=>by simp[hi])]
  exact ownsRow_base h (Nat.zero_le _)
 ·simp[List.getElem?_eq_getElem hi,hl]
 ·exact⟨by simp[hi],rfl⟩
 ·rw[nil_flat,List.append_nil]
theorem slc_flat_to {cs:List Value} {fp:List Nat} (h:slcR e size (flatR enc) w cs xs fp):∃v,cs=[v]/\w.ownsRow 0 e size v xs.length (xs.flatMap enc)/\fp=v.ownBlock.toList:=by
 obtain⟨v,c,f,rfl,ho,hl,ha,rfl⟩:=h;refine⟨v,rfl,?_,?_⟩
 ·rw[range_flat xs enc c (fun i a hi=>(ha i a hi).1)]at ho
  exact ho
 ·have e:(List.range xs.length).map f=(List.range xs.length).map fun _=>[]:=List.map_congr_left fun i hi=>(ha i _ (List.getElem?_eq_getElem (List.mem_range.1 hi))).2
  rw[e,nil_flat,List.append_nil]
end
def encI (z:Int):List Value:=[.int .i64 z]
def flR {α:Type} (e:TypeId) (size:Nat) (enc:α->List Value):Rep (List α):=fun w cs xs fp=>slcR e size (flatR enc) w cs xs fp\/(xs=[]/\fp=[]/\∃b o,cs=[.slice (some ⟨b,o,none⟩) 0 0]/\b<w.heap.size)
theorem flR_frame {α:Type} {e:TypeId} {size:Nat} {enc:α->List Value}:(flR e size enc).Frame:=
 ⟨fun h=>h.elim (fun h=>(slcR_frame (flatR_frame _) _ _).lt h) fun h b hm=>(by rw[h.2.1]at hm;cases hm),fun h hk hs=>h.elim (fun h=>.inl ((slcR_frame (flatR_frame _) _ _).keep h hk hs)) fun⟨h1,h2,b,o,h3,h4⟩=>.inr ⟨h1,h2,b,o,h3,Nat.lt_of_lt_of_le h4 hs⟩⟩
def intsR:Rep (List Int):=flR 3 1 encI
def rowsR:Rep (List (List Int)):=slcR 23 1 intsR
theorem intsR_frame:intsR.Frame:=flR_frame
theorem rowsR_frame:rowsR.Frame:=slcR_frame intsR_frame _ _
theorem block_mem {v:Value} {b:Nat} (h:b ∈ v.ownBlock.toList):v.ownBlock=some b:=by
 cases hv:v.ownBlock<;>simp[hv]at h ⊢
 exact h.symm
theorem block_nodup (v:Value):v.ownBlock.toList.Nodup:=by cases v.ownBlock<;>simp
structure Rep.One {α:Type} (R:Rep α) (size:Nat):Prop where
 len:∀{w cs a fp},R w cs a fp->cs.length=size
 one:∀{w cs a fp},R w cs a fp->∀u ∈ cs,u.oneCell'=true
theorem intR_one:intR.One 1:=⟨fun h=>by rw[h.1];rfl,fun h u hu=>by rw[h.1]at hu;rw[List.mem_singleton.1 hu];rfl⟩
theorem andR_one {α β:Type} {A:Rep α} {B:Rep β} {n m:Nat} (OA:A.One n) (OB:B.One m):(andR A B).One (n+m):=by
 refine⟨?_,?_⟩
 ·rintro w cs a fp ⟨c1,c2,f1,f2,rfl,rfl,h1,h2⟩
  rw[List.length_append,OA.len h1,OB.len h2]
 ·rintro w cs a fp ⟨c1,c2,f1,f2,rfl,rfl,h1,h2⟩ u hu
  rcases List.mem_append.1 hu with hu|hu
  ·exact OA.one h1 u hu
  ·exact OB.one h2 u hu
theorem viaR_one {α β:Type} {A:Rep α} {n:Nat} (OA:A.One n) (f:β->α):(viaR A f).One n:=⟨fun h=>OA.len h,fun h=>OA.one h⟩
theorem own_oneCell {w:World} {B:Nat} {e:TypeId} {size n:Nat} {v:Value} {xs:List Value} (h:w.ownsRow B e size v n xs):v.oneCell'=true:=by
 rcases h.2 with ⟨rfl,_⟩|⟨g,cap,cur,rfl,_⟩<;>rfl
theorem slcR_one {α:Type} (A:Rep α) (e:TypeId) (size:Nat):(slcR e size A).One 1:=by
 refine⟨?_,?_⟩
 ·rintro w cs xs fp ⟨v,c,f,rfl,_⟩;rfl
 ·rintro w cs xs fp ⟨v,c,f,rfl,ho,_⟩ u hu
  rw[List.mem_singleton.1 hu];exact own_oneCell ho
theorem slcR_value {α:Type} {A:Rep α} {e:TypeId} {size:Nat} {w:World} {v:Value} {xs:List α} {fp:List Nat} (h:slcR e size A w [v] xs fp):∃x c,v=.slice x xs.length c/\xs.length<=c/\c<=maxLen:=by
 obtain⟨v',c,f,ev,ho,_⟩:=h;cases ev;rcases ho.2 with ⟨rfl,h0⟩|⟨g,cap,cur,rfl,hb,hg,hn,hc,_⟩
 ·exact⟨none,0,by rw[h0],by omega,Nat.zero_le _⟩
 ·exact⟨_,_,rfl,hn,hc⟩
theorem flR_value {α:Type} {enc:α->List Value} {e:TypeId} {size:Nat} {w:World} {v:Value} {xs:List α} {fp:List Nat} (h:flR e size enc w [v] xs fp):∃x c,v=.slice x xs.length c/\xs.length<=c/\c<=maxLen:=by
 rcases h with h|⟨rfl,_,b,o,e1,_⟩
 ·exact slcR_value h
 ·exact⟨_,0,(List.cons.inj e1).1,Nat.le_refl _,Nat.zero_le _⟩
theorem flR_one {α:Type} {enc:α->List Value} {e:TypeId} {size:Nat}:(flR e size enc).One 1:=
 ⟨fun h=>h.elim (fun h=>(slcR_one _ _ _).len h) fun⟨_,_,_,_,h,_⟩=>(by rw[h];rfl),fun h=>h.elim (fun h=>(slcR_one _ _ _).one h) fun⟨_,_,_,_,h,_⟩ u hu=>(by rw[h]at hu;rw[List.mem_singleton.1 hu];rfl)⟩
def upd {β:Type} (f:Nat->β) (n:Nat) (x:β):Nat->β:=fun i=>if i=n then x else f i
theorem upd_same {β:Type} (f:Nat->β) (n:Nat) (x:β):upd f n x n=x:=if_pos rfl
theorem upd_other {β:Type} (f:Nat->β) {n i:Nat} (x:β) (h:i≠n):upd f n x i=f i:=if_neg h
structure Els {α:Type} (A:Rep α) (e:TypeId) (size:Nat) (w:World) (B:Nat) (v:Value) (xs:List α) (c:Nat->List Value) (f:Nat->List Nat):Prop where
 own:w.ownsRow B e size v xs.length ((List.range xs.length).map c).flatten
 len:∀i,i<xs.length->(c i).length=size
 one:∀i a,xs[i]? =some a->A w (c i) a (f i)
def fps (v:Value) (n:Nat) (f:Nat->List Nat):List Nat:=v.ownBlock.toList++((List.range n).map f).flatten
theorem mem_own {v:Value} {b n:Nat} {f:Nat->List Nat} (h:v.ownBlock=some b):b ∈ fps v n f:=List.mem_append_left _ (by simp[h])
theorem mem_el {v:Value} {b n i:Nat} {f:Nat->List Nat} (hi:i<n) (h:b ∈ f i):b ∈ fps v n f:=List.mem_append_right _ (mem_fps_of hi h)
theorem mem_split {v:Value} {b n:Nat} {f:Nat->List Nat} (h:b ∈ fps v n f):v.ownBlock=some b\/∃i,i<n/\b ∈ f i:=by
 rcases List.mem_append.1 h with h|h
 ·exact .inl (block_mem h)
 ·exact .inr (mem_fps h)
section
variable {α:Type} {A:Rep α} {e:TypeId} {size:Nat} {w:World} {B:Nat} {v:Value} {xs:List α} {c:Nat->List Value} {f:Nat->List Nat}
theorem Els.rep (h:Els A e size w B v xs c f):slcR e size A w [v] xs (fps v xs.length f):=⟨v,c,f,rfl,ownsRow_base h.own (Nat.zero_le _),h.len,h.one,rfl⟩
theorem slcR_els {cs:List Value} {fp:List Nat} (h:slcR e size A w cs xs fp):∃v c f,cs=[v]/\Els A e size w 0 v xs c f/\fp=fps v xs.length f:=by
 obtain⟨v,c,f,rfl,ho,hl,ha,rfl⟩:=h;exact⟨v,c,f,rfl,⟨ho,hl,ha⟩,rfl⟩
theorem Els.nil (w:World) (B:Nat) (c:Nat->List Value) (f:Nat->List Nat):Els A e size w B (.slice none 0 0) [] c f:=⟨World.ownsRow_nil w B e size,fun i hi=>absurd hi (Nat.not_lt_zero i),fun i a hi=>by simp at hi⟩
theorem flat_upd (n:Nat) (c:Nat->List Value) (cs:List Value):((List.range (n+1)).map (upd c n cs)).flatten=((List.range n).map c).flatten++cs:=by
 rw[List.range_succ,List.map_append,List.flatten_append];have e:(List.range n).map (upd c n cs)=(List.range n).map c:=List.map_congr_left fun i hi=>upd_other c cs (by have:=List.mem_range.1 hi;omega)
 rw[e];simp[upd_same]
theorem Els.snoc (h:Els A e size w B v xs c f) (FA:A.Frame) {w':World} {v':Value} {cs:List Value} {a:α} {fa:List Nat} (ho:w'.ownsRow B e size v' (xs.length+1) (((List.range xs.length).map c).flatten++cs)) (hc:cs.length=size)
  (hk:∀i,i<xs.length->∀b ∈ f i,w'.heap[b]? =w.heap[b]?) (hs:w.heap.size<=w'.heap.size) (ha:A w' cs a fa):Els A e size w' B v' (xs++[a]) (upd c xs.length cs) (upd f xs.length fa):=by
 have ln:(xs++[a]).length=xs.length+1:=by simp
 refine⟨by rw[ln,flat_upd];exact ho,fun i hi=>?_,fun i x hx=>?_⟩
 ·rw[ln]at hi
  by_cases q:i=xs.length
  ·rw[q,upd_same];exact hc
  ·rw[upd_other _ _ q];exact h.len i (by omega)
 ·by_cases q:i=xs.length
  ·subst q
   rw[upd_same,upd_same];have:x=a:=by simp at hx;exact hx.symm
   rw[this];exact ha
  ·have hi:i<xs.length:=by have:=(List.getElem?_eq_some_iff.1 hx).1;simp at this;omega
   rw[upd_other _ _ q,upd_other _ _ q];rw[List.getElem?_append_left hi]at hx;exact FA.keep (h.one i x hx) (hk i hi) hs
theorem Els.cell (h:Els A e size w B v xs c f) {i k:Nat} (hi:i<xs.length) {z:Value} (hz:(c i)[k]? =some z):∃g cap,v=.slice (some ⟨g,0,none⟩) xs.length cap/\B<=g/\g<w.heap.size/\xs.length<=cap/\cap<=maxLen/\w.cell? ⟨g,i * size+k,none⟩=some z:=by
 have hk:k<size:=by have:=(List.getElem?_eq_some_iff.1 hz).1;rw[h.len i hi]at this;exact this
 rcases h.own.2 with ⟨rfl,h0⟩|⟨g,cap,cur,rfl,hb,hg,hn,hc,hs,ht⟩
 ·omega
 ·refine⟨g,cap,rfl,hb,(Array.getElem?_eq_some_iff.1 hg).1,hn,hc,?_⟩
  have lt:i * size+k<xs.length * size:=by
   have:i * size+size<=xs.length * size:=by rw[<-Nat.succ_mul];exact Nat.mul_le_mul_right _ hi
   omega
  rw[World.ownsRow.cellAt h.own _ lt,flat_at h.len hi hk,hz]
theorem flat_set {n i k:Nat} {u:Value} (hl:∀i,i<n->(c i).length=size) (hi:i<n) (hk:k<size):((List.range n).map c).flatten.set (i * size+k) u=((List.range n).map (upd c i ((c i).set k u))).flatten:=by
 have hl':∀j,j<n->(upd c i ((c i).set k u) j).length=size:=fun j hj=>by
  by_cases q:j=i
  ·rw[q,upd_same,List.length_set];exact hl i hi
  ·rw[upd_other _ _ q];exact hl j hj
 apply List.ext_getElem?;intro j
 by_cases hj:j<n * size
 ·have s0:0<size:=by omega
  obtain⟨q,r,rfl,hr,hq⟩:∃q r,j=q * size+r/\r<size/\q<n:=⟨j / size,j % size,by rw[Nat.mul_comm];exact (Nat.div_add_mod j size).symm,Nat.mod_lt _ s0,(Nat.div_lt_iff_lt_mul s0).2 hj⟩
  rw[List.getElem?_set,flat_at hl' hq hr,flat_len hl]
  by_cases d:q=i
  ·subst d
   rw[upd_same,List.getElem?_set]
   by_cases d2:k=r
   ·rw[if_pos (by rw[d2]),if_pos (by rw[d2];exact hj),if_pos d2,if_pos (by rw[hl q hq];exact hk)]
   ·rw[if_neg (fun x=>d2 (by omega)),if_neg d2,flat_at hl hq hr]
  ·rw[upd_other _ _ d,if_neg ?_,flat_at hl hq hr]
   intro x;apply d;have x1:(i * size+k) / size=i:=by rw[Nat.mul_comm,Nat.mul_add_div s0,Nat.div_eq_of_lt hk,Nat.add_zero]
   have x2:(q * size+r) / size=q:=by rw[Nat.mul_comm,Nat.mul_add_div s0,Nat.div_eq_of_lt hr,Nat.add_zero]
   rw[<-x1,x,x2]
 ·rw[List.getElem?_eq_none (by rw[List.length_set,flat_len hl];omega),List.getElem?_eq_none (by rw[flat_len hl'];omega)]
theorem Els.set {g cap:Nat} (h:Els A e size w B (.slice (some ⟨g,0,none⟩) xs.length cap) xs c f) (FA:A.Frame) {i k:Nat} (hi:i<xs.length) (hk:k<size) {u:Value} {a:α} {fa:List Nat}
  (off:∀j,j<xs.length->j≠i->g ∉ f j) (ha:A (w.setCell ⟨g,i * size+k,none⟩ u) ((c i).set k u) a fa):
  Els A e size (w.setCell ⟨g,i * size+k,none⟩ u) B (.slice (some ⟨g,0,none⟩) xs.length cap) (xs.set i a) (upd c i ((c i).set k u)) (upd f i fa):=by
 obtain⟨s1,s2⟩:=World.ownsRow.stored h.own (i * size+k) u;have ln:(xs.set i a).length=xs.length:=List.length_set;refine⟨?_,fun j hj=>?_,fun j x hx=>?_⟩
 ·rw[ln, <-flat_set h.len hi hk];exact s1
 ·rw[ln]at hj
  by_cases q:j=i
  ·rw[q,upd_same,List.length_set];exact h.len i hi
  ·rw[upd_other _ _ q];exact h.len j hj
 ·by_cases q:j=i
  ·subst q
   rw[upd_same,upd_same];rw[List.getElem?_set_self hi]at hx;rw[<-Option.some.inj hx];exact ha
  ·rw[upd_other _ _ q,upd_other _ _ q]
   rw[List.getElem?_set_ne (fun z=>q z.symm)]at hx;have hj:=(List.getElem?_eq_some_iff.1 hx).1;exact FA.keep (h.one j x hx) (fun b hb=>s2.block b (FA.lt (h.one j x hx) b hb) (fun z=>off j hj q (by rw[<-Option.some.inj z];exact hb))) s2.size
end
section
variable {v:Value} {n:Nat} {f:Nat->List Nat}
theorem flat_nodup:((List.range n).map f).flatten.Nodup↔(∀i,i<n->(f i).Nodup)/\∀i j,i<n->j<n->i≠j->∀b ∈ f i,b ∉ f j:=by
 induction n with
 |zero=>exact⟨fun _=>⟨fun i hi=>absurd hi (Nat.not_lt_zero i),fun i j hi=>absurd hi (Nat.not_lt_zero i)⟩,fun _=>by simp⟩
 |succ n ih=>
  rw[List.range_succ,List.map_append,List.flatten_append,List.nodup_append,ih];simp only[List.map_cons,List.map_nil,List.flatten_cons,List.flatten_nil,List.append_nil]
  constructor
  ·rintro⟨⟨h1,h2⟩,h3,h4⟩
   refine⟨fun i hi=>?_,fun i j hi hj ne b hb hb'=>?_⟩
   ·by_cases q:i=n
    ·rw[q];exact h3
    ·exact h1 i (by omega)
   ·by_cases qi:i=n
    ·subst qi
     exact h4 b (mem_fps_of (show j<i by omega) hb') b hb rfl
    ·by_cases qj:j=n
     ·subst qj
      exact h4 b (mem_fps_of (show i<j by omega) hb) b hb' rfl
     ·exact h2 i j (by omega) (by omega) ne b hb hb'
  ·rintro⟨h1,h2⟩
   refine⟨⟨fun i hi=>h1 i (by omega),fun i j hi hj=>h2 i j (by omega) (by omega)⟩,h1 n (by omega),fun a ha b hb e=>?_⟩;subst e;obtain⟨i,hi,hm⟩:=mem_fps ha;exact h2 i n (by omega) (by omega) (by omega) a hm hb
theorem fps_nodup:(fps v n f).Nodup↔((∀i,i<n->(f i).Nodup)/\∀i j,i<n->j<n->i≠j->∀b ∈ f i,b ∉ f j)/\∀g,v.ownBlock=some g->∀i,i<n->g ∉ f i:=by
 unfold fps;rw[List.nodup_append,flat_nodup]
 constructor
 ·rintro⟨_,h,k⟩
  exact⟨h,fun g hg i hi hm=>k g (by simp[hg]) g (mem_fps_of hi hm) rfl⟩
 ·rintro⟨h,k⟩
  refine⟨block_nodup v,h,fun a ha b hb e=>?_⟩;subst e;obtain⟨i,hi,hm⟩:=mem_fps hb;exact k a (block_mem ha) i hi hm
theorem fps_changed (h:(fps v n f).Nodup) {i:Nat} (hi:i<n) {x:List Nat} (hx:x.Nodup) (hd:∀b ∈ x,b ∈ f i\/b ∉ fps v n f):(fps v n (upd f i x)).Nodup:=by
 obtain⟨⟨h1,h2⟩,h3⟩:=fps_nodup.1 h;have far:∀b ∈ x,∀j,j<n->j≠i->b ∉ f j:=fun b hb j hj ne hm=>by
  rcases hd b hb with q|q
  ·exact h2 i j hi hj (fun e=>ne e.symm) b q hm
  ·exact q (mem_el hj hm)
 refine fps_nodup.2 ⟨⟨fun j hj=>?_,fun j k hj hk ne b hb hb'=>?_⟩,fun g hg j hj hm=>?_⟩
 ·by_cases q:j=i
  ·rw[q,upd_same];exact hx
  ·rw[upd_other _ _ q];exact h1 j hj
 ·by_cases qj:j=i
  ·subst qj
   rw[upd_same]at hb;rw[upd_other _ _ (fun e=>ne e.symm)]at hb';exact far b hb k hk (fun e=>ne e.symm) hb'
  ·rw[upd_other _ _ qj]at hb
   by_cases qk:k=i
   ·subst qk
    rw[upd_same]at hb';exact far b hb' j hj qj hb
   ·rw[upd_other _ _ qk]at hb'
    exact h2 j k hj hk ne b hb hb'
 ·by_cases q:j=i
  ·rw[q,upd_same]at hm
   rcases hd g hm with d|d
   ·exact h3 g hg i hi d
   ·exact d (mem_own hg)
  ·rw[upd_other _ _ q]at hm
   exact h3 g hg j hj hm
theorem fps_mem_changed {i b:Nat} {x:List Nat} (h:b ∈ fps v n (upd f i x)):b ∈ fps v n f\/b ∈ x:=by
 rcases mem_split h with h|⟨j,hj,h⟩
 ·exact .inl (mem_own h)
 ·by_cases q:j=i
  ·rw[q,upd_same]at h;exact .inr h
  ·rw[upd_other _ _ q]at h;exact .inl (mem_el hj h)
theorem fps_more (h:(fps v n f).Nodup) {v':Value} {x:List Nat} (hx:x.Nodup) (hd:∀b ∈ x,∀i,i<n->b ∉ f i) (hv:∀g,v'.ownBlock=some g->(∀i,i<n->g ∉ f i)/\g ∉ x):(fps v' (n+1) (upd f n x)).Nodup:=by
 obtain⟨⟨h1,h2⟩,_⟩:=fps_nodup.1 h;refine fps_nodup.2 ⟨⟨fun j hj=>?_,fun j k hj hk ne b hb hb'=>?_⟩,fun g hg j hj hm=>?_⟩
 ·by_cases q:j=n
  ·rw[q,upd_same];exact hx
  ·rw[upd_other _ _ q];exact h1 j (by omega)
 ·by_cases qj:j=n
  ·subst qj
   rw[upd_same]at hb;rw[upd_other _ _ (fun e=>ne e.symm)]at hb';exact hd b hb k (by omega) hb'
  ·rw[upd_other _ _ qj]at hb
   by_cases qk:k=n
   ·subst qk
    rw[upd_same]at hb';exact hd b hb' j (by omega) hb
   ·rw[upd_other _ _ qk]at hb'
    exact h2 j k (by omega) (by omega) ne b hb hb'
 ·by_cases q:j=n
  ·rw[q,upd_same]at hm;exact (hv g hg).2 hm
  ·rw[upd_other _ _ q]at hm;exact (hv g hg).1 j (by omega) hm
theorem fps_mem_more {b:Nat} {v':Value} {x:List Nat} (h:b ∈ fps v' (n+1) (upd f n x)):v'.ownBlock=some b\/b ∈ fps v n f\/b ∈ x:=by
 rcases mem_split h with h|⟨j,hj,h⟩
 ·exact .inl h
 ·by_cases q:j=n
  ·rw[q,upd_same]at h;exact .inr (.inr h)
  ·rw[upd_other _ _ q]at h;exact .inr (.inl (mem_el (by omega) h))
end
def Sole {α:Type} (R:Rep α) (B:Nat) (w:World) (cs:List Value) (a:α) (fp:List Nat):Prop:=R w cs a fp/\fp.Nodup/\∀b ∈ fp,B<=b
section
variable {α:Type} {A:Rep α} {e:TypeId} {size:Nat} {w:World} {B:Nat} {xs:List α} {fp:List Nat}
theorem Sole.set (FA:A.Frame) {g n cap:Nat} (h:Sole (slcR e size A) B w [.slice (some ⟨g,0,none⟩) n cap] xs fp) {i k:Nat} {x:α} (hi:xs[i]? =some x) (hk:k<size):
  n=xs.length/\g ∈ fp/\∃ci fi,A w ci x fi/\(∀b ∈ fi,b ∈ fp)/\fi.Nodup/\g ∉ fi/\ci.length=size/\(∀j z,ci[j]? =some z->w.cell? ⟨g,i * size+j,none⟩=some z)/\(∀u,w.grownBy (w.setCell ⟨g,i * size+k,none⟩ u) (some g))/\
   ∀u x' fi',A (w.setCell ⟨g,i * size+k,none⟩ u) (ci.set k u) x' fi'->fi'.Nodup->(∀b ∈ fi',(b ∈ fi\/b ∉ fp)/\B<=b)->
    ∃fp',Sole (slcR e size A) B (w.setCell ⟨g,i * size+k,none⟩ u) [.slice (some ⟨g,0,none⟩) n cap] (xs.set i x') fp'/\(∀b ∈ fp',b ∈ fp\/b ∈ fi'):=by
 obtain⟨hR,nd,low⟩:=h;obtain⟨v,c,f,ev,E,rfl⟩:=slcR_els hR;have hlt:i<xs.length:=(List.getElem?_eq_some_iff.1 hi).1;cases ev;obtain⟨z,hz⟩:∃z,(c i)[k]? =some z:=⟨(c i)[k]'(by rw[E.len i hlt];exact hk),List.getElem?_eq_getElem _⟩
 obtain⟨g',cap',ev,_,_,_,_,_⟩:=E.cell hlt hz;injection ev with e1 e2 e3
 have en:n=xs.length:=e2;subst en;refine⟨rfl,mem_own rfl,c i,f i,E.one i x hi,fun b hb=>mem_el hlt hb,?_,?_,E.len i hlt,fun j z hz=>?_,fun u=>(World.ownsRow.stored E.own _ u).2,fun u x' fi' ha nf hd=>?_⟩
 ·exact (fps_nodup.1 nd).1.1 i hlt
 ·exact (fps_nodup.1 nd).2 g rfl i hlt
 ·obtain⟨g2,cap2,ev2,_,_,_,_,hc⟩:=E.cell hlt hz
  injection ev2 with q1 q2 q3
  injection q1 with q1
  injection q1 with q1
  rw[q1];exact hc
 ·have S:=E.set FA hlt hk (u:=u) (a:=x') (fa:=fi') (fun j hj _=>(fps_nodup.1 nd).2 g rfl j hj) ha
  have R:=S.rep;rw[List.length_set]at R;refine⟨_,⟨R,fps_changed nd hlt nf (fun b hb=>(hd b hb).1),fun b hb=>?_⟩,fun b hb=>fps_mem_changed hb⟩;rcases fps_mem_changed hb with q|q
  ·exact low b q
  ·exact (hd b q).2
theorem Sole.more (FA:A.Frame) {v:Value} (h:Sole (slcR e size A) B w [v] xs fp):∃cells,w.ownsRow B e size v xs.length cells/\cells.length=xs.length * size/\
  ∀w' v' cs x fx,w'.ownsRow B e size v' (xs.length+1) (cells++cs)->w.grownBy w' v.ownBlock->(v'.ownBlock=v.ownBlock\/∀g,v'.ownBlock=some g->w.heap.size<=g)->cs.length=size->Sole A B w' cs x fx->(∀b ∈ fx,b ∉ fp)->(∀g,v'.ownBlock=some g->g ∉ fx)->
   ∃fp',Sole (slcR e size A) B w' [v'] (xs++[x]) fp'/\∀b ∈ fp',b ∈ fp\/b ∈ fx\/v'.ownBlock=some b:=by
 obtain⟨hR,nd,low⟩:=h;obtain⟨v0,c,f,ev,E,rfl⟩:=slcR_els hR;cases ev;have nd':=fps_nodup.1 nd;have oB:w.ownsRow B e size v xs.length ((List.range xs.length).map c).flatten:=by
  refine⟨E.own.1,?_⟩;rcases E.own.2 with q|⟨g,cap,cur,rfl,hb,r⟩
  ·exact .inl q
  ·exact .inr ⟨g,cap,cur,rfl,low g (mem_own rfl),r⟩
 refine⟨_,oB,flat_len E.len,fun w' v' cs x fx ho hg hv hc hx hd hgx=>?_⟩;have EB:Els A e size w B v xs c f:=⟨oB,E.len,E.one⟩
 have fl:∀i,i<xs.length->∀b ∈ f i,b<w.heap.size/\some b≠v.ownBlock:=fun i hi b hb=>⟨FA.lt (E.one i _ (List.getElem?_eq_getElem hi)) b hb,fun q=>nd'.2 b q.symm i hi hb⟩
 have S:=EB.snoc FA ho hc (fun i hi b hb=>hg.block b (fl i hi b hb).1 (fl i hi b hb).2) hg.size hx.1;have R:=S.rep;rw[show (xs++[x]).length=xs.length+1 by simp]at R;refine⟨_,⟨R,fps_more nd hx.2.1 (fun b hb i hi hm=>hd b hb (mem_el hi hm)) (fun g q=>⟨fun i hi hm=>?_,hgx g q⟩),fun b hb=>?_⟩,fun b hb=>?_⟩
 ·rcases hv with hv|hv
  ·exact (fl i hi g hm).2 (by rw[<-hv,q])
  ·have:=hv g q
   have:=(fl i hi g hm).1;omega
 ·rcases fps_mem_more (v:=v) hb with q|q|q
  ·exact (World.ownsRow.lt ho b q).1
  ·exact low b q
  ·exact hx.2.2 b q
 ·rcases fps_mem_more (v:=v) hb with q|q|q
  ·exact .inr (.inr q)
  ·exact .inl q
  ·exact .inr (.inl q)
end
section
variable {α:Type} {A:Rep α} {e:TypeId} {size:Nat} {w:World} {xs:List α} {fp:List Nat} {v:Value}
theorem slcR_at (h:slcR e size A w [v] xs fp) {i:Nat} {x:α} (hi:xs[i]? =some x):∃g cap ci fi,v=.slice (some ⟨g,0,none⟩) xs.length cap/\g<w.heap.size/\xs.length<=cap/\cap<=maxLen/\A w ci x fi/\(∀b ∈ fi,b ∈ fp)/\ci.length=size/\∀j z,ci[j]? =some z->w.cell? ⟨g,i * size+j,none⟩=some z:=by
 obtain⟨v0,c,f,ev,E,rfl⟩:=slcR_els h;cases ev;have hlt:i<xs.length:=(List.getElem?_eq_some_iff.1 hi).1;rcases E.own.2 with ⟨rfl,h0⟩|⟨g,cap,cur,rfl,hb,hg,hn,hc,hs,ht⟩
 ·omega
 ·refine⟨g,cap,c i,f i,rfl,(Array.getElem?_eq_some_iff.1 hg).1,hn,hc,E.one i x hi,fun b hb=>mem_el hlt hb,E.len i hlt,fun j z hz=>?_⟩
  obtain⟨g',cap',ev,_,_,_,_,q⟩:=E.cell hlt hz;injection ev with q1 q2 q3
  injection q1 with q1
  injection q1 with q1
  rw[q1];exact q
theorem slcR_row {x:Option Addr} {k c:Nat} (h:slcR e size A w [.slice x k c] xs fp):k=xs.length/\∀{i:Nat} {a:α},xs[i]? =some a->∃g ci fi,x=some ⟨g,0,none⟩/\g<w.heap.size/\A w ci a fi/\(∀b ∈ fi,b ∈ fp)/\ci.length=size/\∀j z,ci[j]? =some z->w.cell? ⟨g,i * size+j,none⟩=some z:=by
 refine⟨?_,fun {i a} hi=>?_⟩
 ·obtain⟨x',c',q,_⟩:=slcR_value h
  injection q
 ·obtain⟨g,cap,ci,fi,q,h1,_,_,h2,h3,h4,h5⟩:=slcR_at h hi
  injection q with q1 q2 q3
  exact⟨g,ci,fi,q1,h1,h2,h3,h4,h5⟩
end
structure Ch where
 at_:World->List Nat->Prop
 lt:∀{w:World} {f:List Nat},at_ w f->∀b ∈ f,b<w.heap.size
 keep:∀{w w':World} {f:List Nat},at_ w f->(∀b ∈ f,w'.heap[b]? =w.heap[b]?)->w.heap.size<=w'.heap.size->at_ w' f
def Rep.Frame.ch {α:Type} {R:Rep α} (F:R.Frame) (cs:List Value) (a:α):Ch:=⟨fun w f=>R w cs a f,F.lt,F.keep⟩
theorem nodup_one (b:Nat):[b].Nodup:=by simp
def emp:Ch:=⟨fun _ f=>f=[],fun h b hb=>(by rw[h]at hb;cases hb),fun h _ _=>h⟩
def boxC (b:Nat) (t:TypeId) (vs:Array Value):Ch:=⟨fun w f=>w.heap[b]? =some (.cells vs t (0,0))/\f=[b],
  fun h x hx=>(by rw[h.2]at hx;rw[List.mem_singleton.1 hx];exact (Array.getElem?_eq_some_iff.1 h.1).1),
  fun h hk _=>⟨(hk b (by rw[h.2];exact List.mem_singleton_self b)).trans h.1,h.2⟩⟩
def Ch.sep (c d:Ch):Ch:=⟨fun w f=>∃f1 f2,f=f1++f2/\c.at_ w f1/\d.at_ w f2,
  fun⟨_,_,e,h1,h2⟩ b hb=>(List.mem_append.1 (by rw[e]at hb;exact hb)).elim (c.lt h1 b) (d.lt h2 b),
  fun⟨f1,f2,e,h1,h2⟩ hk hs=>⟨f1,f2,e,c.keep h1 (fun b hb=>hk b (by rw[e];exact List.mem_append_left _ hb)) hs,d.keep h2 (fun b hb=>hk b (by rw[e];exact List.mem_append_right _ hb)) hs⟩⟩
def Ch.ex {ι:Type} (c:ι->Ch):Ch:=⟨fun w f=>∃i,(c i).at_ w f,fun⟨i,h⟩=>(c i).lt h,fun⟨i,h⟩ hk hs=>⟨i,(c i).keep h hk hs⟩⟩
def alls:List Ch->Ch
 | []=>emp
 |c::l=>c.sep (alls l)
structure M (B:Nat) (w0 w:World) (l:List Ch):Prop where
 below:Below B w0 w
 low:B<=w.heap.size
 own:∃f,(alls l).at_ w f/\f.Nodup/\∀b ∈ f,B<=b
theorem M.start (w:World):M w.heap.size w w []:=⟨Below.refl _ _,Nat.le_refl _,[],rfl,List.nodup_nil,fun b hb=>by cases hb⟩
section
variable {B:Nat} {w0 w w':World} {l:List Ch} {c d:Ch}
theorem M.later (h:M B w0 w l) (hb:Below w.heap.size w w'):M B w0 w' l:=by
 obtain⟨f,ha,nd,lo⟩:=h.own;exact⟨h.below.trans (hb.mono h.low),Nat.le_trans h.low hb.size,f,(alls l).keep ha (fun b hm=>hb.block b ((alls l).lt ha b hm)) hb.size,nd,lo⟩
theorem M.drew (h:M B w0 w l):M B w0 w.drew l:=h.later (Below.drew (Below.refl _ _))
theorem M.add (h:M B w0 w l) (hb:Below w.heap.size w w') {f:List Nat} (ha:c.at_ w' f) (nd:f.Nodup) (lo:∀b ∈ f,w.heap.size<=b):M B w0 w' (c::l):=by
 obtain⟨g,hg,ng,lg⟩:=h.own;have h':=h.later hb;refine⟨h'.below,h'.low,f++g,⟨f,g,rfl,ha,(alls l).keep hg (fun b hm=>hb.block b ((alls l).lt hg b hm)) hb.size⟩,List.nodup_append.2 ⟨nd,ng,fun a h1 b h2 e=>?_⟩,fun b hm=>?_⟩
 ·have:=lo a h1;have:=(alls l).lt hg b h2;omega
 ·rcases List.mem_append.1 hm with hm|hm
  ·exact Nat.le_trans h.low (lo b hm)
  ·exact lg b hm
theorem M.got {α:Type} {R:Rep α} (F:R.Frame) {cs:List Value} {a:α} {fp:List Nat} (h:M B w0 w l) (hb:Below w.heap.size w w') (s:Sole R w.heap.size w' cs a fp):M B w0 w' (F.ch cs a::l):=h.add hb s.1 s.2.1 s.2.2
theorem M.alloc (h:M B w0 w l) (vs:Array Value) (t:TypeId):M B w0 (w.alloc (.cells vs t)) (boxC w.heap.size t vs::l):=
 h.add ((Below.refl _ _).alloc lr_ _) ⟨heap_alloc_new w _,rfl⟩ (nodup_one _) fun b hb=>by rw[List.mem_singleton.1 hb];exact Nat.le_refl _
theorem M.turn (h:M B w0 w (c::l)) (k:∀f,c.at_ w f->f.Nodup->(∀b ∈ f,B<=b)->KeptB (fun b=>b ∈ f) w w'/\∃f',d.at_ w' f'/\f'.Nodup/\∀b ∈ f',b ∈ f\/w.heap.size<=b):M B w0 w' (d::l):=by
 obtain⟨_,⟨f,g,rfl,hc,hg⟩,nd,lo⟩:=h.own;obtain⟨n1,n2,n3⟩:=List.nodup_append.1 nd;obtain⟨hk,f',hd,nf,hf⟩:=k f hc n1 fun b hb=>lo b (List.mem_append_left _ hb)
 refine⟨h.below.trans (hk.below h.low fun b hb=>lo b (List.mem_append_left _ hb)),Nat.le_trans h.low hk.size,f'++g,⟨f',g,rfl,hd,(alls l).keep hg (fun b hm=>hk.block b ((alls l).lt hg b hm) fun q=>n3 b q b hm rfl) hk.size⟩,List.nodup_append.2 ⟨nf,n2,fun a h1 b h2 e=>?_⟩,fun b hm=>?_⟩
 ·rcases hf a h1 with q|q
  ·exact n3 a q b h2 e
  ·have:=(alls l).lt hg b h2;omega
 ·rcases List.mem_append.1 hm with hm|hm
  ·rcases hf b hm with q|q
   ·exact lo b (List.mem_append_left _ q)
   ·exact Nat.le_trans h.low q
  ·exact lo b (List.mem_append_right _ hm)
theorem M.to (h:M B w0 w (c::l)) (k:∀f,c.at_ w f->f.Nodup->∃f',d.at_ w f'/\f'.Nodup/\∀b ∈ f',b ∈ f):M B w0 w (d::l):=
 h.turn fun f hf nd _=>let ⟨f',h1,h2,h3⟩:=k f hf nd;⟨KeptB.refl _ _,f',h1,h2,fun b hb=>.inl (h3 b hb)⟩
theorem M.set {b i:Nat} {t:TypeId} {vs:Array Value} (h:M B w0 w (boxC b t vs::l)) (u:Value):M B w0 (w.setCell ⟨b,i,none⟩ u) (boxC b t (vs.setIfInBounds i u)::l):=
 h.turn fun f hf _ _=>⟨KeptB.of_grown (grownBy_setCell w ⟨b,i,none⟩ u) (by rw[hf.2];exact List.mem_singleton_self b),[b],⟨by rw[heap_setCell_same w b i _ _ _ hf.1],rfl⟩,nodup_one _,fun x hx=>.inl (by rw[hf.2];exact hx)⟩
theorem M.first (h:M B w0 w (c::l)):∃f,c.at_ w f/\f.Nodup/\∀b ∈ f,B<=b:=by
 obtain⟨_,⟨f,g,rfl,hc,hg⟩,nd,lo⟩:=h.own;exact⟨f,hc,(List.nodup_append.1 nd).1,fun b hb=>lo b (List.mem_append_left _ hb)⟩
theorem M.drop (h:M B w0 w (c::l)):M B w0 w l:=by
 obtain⟨_,⟨f,g,rfl,hc,hg⟩,nd,lo⟩:=h.own;exact⟨h.below,h.low,g,hg,(List.nodup_append.1 nd).2.1,fun b hb=>lo b (List.mem_append_right _ hb)⟩
theorem alls_perm {l l':List Ch} (p:l.Perm l'):∀{w f},(alls l).at_ w f->∃f',(alls l').at_ w f'/\f.Perm f':=by
 induction p with
 |nil=>exact fun h=>⟨_,h,.refl _⟩
 |cons x _ ih=>
  rintro w f ⟨f1,f2,rfl,h1,h2⟩;obtain⟨g,hg,pg⟩:=ih h2;exact⟨f1++g,⟨f1,g,rfl,h1,hg⟩,.append_left _ pg⟩
 |swap x y l=>
  rintro w f ⟨f1,_,rfl,h1,⟨f2,f3,rfl,h2,h3⟩⟩;refine⟨f2++(f1++f3),⟨f2,_,rfl,h2,⟨f1,f3,rfl,h1,h3⟩⟩,?_⟩;rw[<-List.append_assoc, <-List.append_assoc];exact List.perm_append_comm.append_right _
 |trans _ _ i1 i2=>
  intro w f h;obtain⟨g,hg,pg⟩:=i1 h;obtain⟨k,hk,pk⟩:=i2 hg;exact⟨k,hk,pg.trans pk⟩
theorem M.perm {l':List Ch} (h:M B w0 w l) (p:l.Perm l'):M B w0 w l':=by
 obtain⟨f,ha,nd,lo⟩:=h.own;obtain⟨g,hg,pg⟩:=alls_perm p ha;exact⟨h.below,h.low,g,hg,pg.nodup_iff.1 nd,fun b hb=>lo b (pg.mem_iff.2 hb)⟩
theorem M.p1 {a b:Ch} (h:M B w0 w (a::b::l)):M B w0 w (b::a::l):=h.perm (.swap _ _ _)
theorem M.p2 {a b c:Ch} (h:M B w0 w (a::b::c::l)):M B w0 w (c::a::b::l):=h.perm ((List.Perm.swap _ _ _).cons a |>.trans (.swap _ _ _))
theorem perm_front {α:Type} (a:α):∀(k l:List α),(k++a::l).Perm (a::k++l)
 | [],l=>.refl _
 |x::k,l=>((perm_front a k l).cons x).trans (.swap _ _ _)
theorem M.p3 {a' b' c' d':Ch} (h:M B w0 w (a'::b'::c'::d'::l)):M B w0 w (d'::a'::b'::c'::l):=h.perm (perm_front d' [a',b',c'] l)
theorem M.p4 {a' b' c' d' e':Ch} (h:M B w0 w (a'::b'::c'::d'::e'::l)):M B w0 w (e'::a'::b'::c'::d'::l):=h.perm (perm_front e' [a',b',c',d'] l)
theorem M.p5 {a' b' c' d' e' f':Ch} (h:M B w0 w (a'::b'::c'::d'::e'::f'::l)):M B w0 w (f'::a'::b'::c'::d'::e'::l):=h.perm (perm_front f' [a',b',c',d',e'] l)
theorem M.p6 {a' b' c' d' e' f' g':Ch} (h:M B w0 w (a'::b'::c'::d'::e'::f'::g'::l)):M B w0 w (g'::a'::b'::c'::d'::e'::f'::l):=h.perm (perm_front g' [a',b',c',d',e',f'] l)
theorem M.two (h:M B w0 w (c.sep d::l)):M B w0 w (c::d::l):=by
 obtain⟨_,⟨_,g,rfl,⟨f1,f2,rfl,h1,h2⟩,hg⟩,nd,lo⟩:=h.own;rw[List.append_assoc]at nd lo;exact⟨h.below,h.low,_,⟨f1,_,rfl,h1,⟨f2,g,rfl,h2,hg⟩⟩,nd,lo⟩
theorem M.sep (h:M B w0 w (c::d::l)):M B w0 w (c.sep d::l):=by
 obtain⟨_,⟨f1,_,rfl,h1,⟨f2,g,rfl,h2,hg⟩⟩,nd,lo⟩:=h.own;rw[<-List.append_assoc]at nd lo;exact⟨h.below,h.low,_,⟨_,g,rfl,⟨f1,f2,rfl,h1,h2⟩,hg⟩,nd,lo⟩
theorem M.ex {ι:Type} {c:ι->Ch} (h:M B w0 w (Ch.ex c::l)):∃i,M B w0 w (c i::l):=by
 obtain⟨_,⟨f,g,rfl,⟨i,h1⟩,hg⟩,nd,lo⟩:=h.own;exact⟨i,h.below,h.low,_,⟨f,g,rfl,h1,hg⟩,nd,lo⟩
theorem M.in {ι:Type} {c:ι->Ch} (i:ι) (h:M B w0 w (c i::l)):M B w0 w (Ch.ex c::l):=by
 obtain⟨_,⟨f,g,rfl,h1,hg⟩,nd,lo⟩:=h.own;exact⟨h.below,h.low,_,⟨f,g,rfl,⟨i,h1⟩,hg⟩,nd,lo⟩
section
variable {b i:Nat} {t:TypeId} {vs:Array Value}
theorem M.cell (h:M B w0 w (boxC b t vs::l)) {u:Value} (hi:vs[i]? =some u):w.cell? ⟨b,i,none⟩=some u:=by
 obtain⟨f,hf,_⟩:=h.first;simp[World.cell?,hf.1,hi]
theorem M.free (h:M B w0 w (boxC b t vs::l)) (i:Nat):w.frozen? ⟨b,i,none⟩=false:=by
 obtain⟨f,hf,_⟩:=h.first;simp[World.frozen?,hf.1]
end
end
structure SlT (P:Program) (t e:TypeId) (z:Value) (size bytes:Nat):Prop where
 und:P.underlying t=some (.slice e)
 info:(P.info? e).map (fun i=>(i.zero,i.size,i.bytes))=some (some z,size,bytes)
 zs:z.cells.size=size
 pos:0<size
section
variable {α:Type} {A:Rep α} {e:TypeId} {size:Nat} {w w' w0:World} {B b:Nat} {l:List Ch} {xs:List α} {x:α} {v:Value} {cs:List Value}
def slcC (FA:A.Frame) (e:TypeId) (size:Nat) (v:Value) (xs:List α):Ch:=(slcR_frame FA e size).ch [v] xs
theorem M.nil (FA:A.Frame) (e:TypeId) (size:Nat) (h:M B w0 w l):M B w0 w (slcC FA e size (.slice none 0 0) []::l):=
 h.add (Below.refl _ _) (f:=[]) (Els.nil w 0 (fun _=>[]) fun _=>[]).rep List.nodup_nil fun b hb=>by cases hb
theorem M.empty (FA:A.Frame) (size:Nat) (h:M B w0 w (boxC b e #[]::l)):M B w0 w (slcC FA e size (.slice (some ⟨b,0,none⟩) 0 0) []::l):=
 h.to fun f hf nd=>⟨f,by
    obtain⟨hb,rfl⟩:=hf
    exact⟨_,fun _=>[],fun _=>[],rfl,⟨by simp,.inr ⟨b,0,#[],rfl,Nat.zero_le _,hb,Nat.le_refl _,by simp[maxLen],by simp,by simp⟩⟩,fun i hi=>absurd hi (Nat.not_lt_zero i),fun i a hi=>by simp at hi,by simp[Value.ownBlock]⟩,nd,fun _ h=>h⟩
theorem M.one (FA:A.Frame) (h:M B w0 w (boxC b e cs.toArray::FA.ch cs x::l)) (hc:cs.length=size):M B w0 w (slcC FA e size (.slice (some ⟨b,0,none⟩) 1 1) [x]::l):=
 h.sep.to fun f hf nd=>⟨f,by
    obtain⟨_,f2,rfl,⟨hb,rfl⟩,h2⟩:=hf
    refine⟨_,fun _=>cs,fun _=>f2,rfl,⟨by simp[hc],.inr ⟨b,1,_,rfl,Nat.zero_le _,hb,Nat.le_refl _,by simp[maxLen],by simp[hc],by simp[<-hc]⟩⟩,fun i hi=>hc,fun i a hi=>?_,by simp[Value.ownBlock]⟩
    match i,hi with
    | 0,hi=>simp at hi;subst hi;exact h2,nd,fun _ h=>h⟩
theorem M.pair {y:α} {ds:List Value} (FA:A.Frame) (h:M B w0 w (boxC b e (cs++ds).toArray::FA.ch cs x::FA.ch ds y::l)) (hc:cs.length=size) (hd:ds.length=size):M B w0 w (slcC FA e size (.slice (some ⟨b,0,none⟩) 2 2) [x,y]::l):=by
 refine h.sep.sep.to fun f hf nd=>⟨f,?_,nd,fun _ h=>h⟩
 obtain⟨_,f3,rfl,⟨_,f2,rfl,⟨hb,rfl⟩,hx⟩,hy⟩:=hf;refine⟨_,fun i=>if i=0 then cs else ds,fun i=>if i=0 then f2 else f3,rfl,⟨by simp[List.range_succ,hc,hd];omega,.inr ⟨b,2,_,rfl,Nat.zero_le _,hb,Nat.le_refl _,by simp[maxLen],by simp[hc,hd];omega,?_⟩⟩,fun i hi=>?_,fun i a hi=>?_,by simp[Value.ownBlock,List.range_succ]⟩
 ·simp[List.range_succ]
  rw[List.take_of_length_le];simp[hc,hd];omega
 ·show (if i=0 then cs else ds).length=size
  split
  ·exact hc
  ·exact hd
 ·match i,hi with
  | 0,hi=>simp at hi;subst hi;exact hx
  | 1,hi=>simp at hi;subst hi;exact hy
theorem M.snoc (FA:A.Frame) (h:M B w0 w (slcC FA e size v xs::FA.ch cs x::l)) (hc:cs.length=size):∃cells,w.ownsRow B e size v xs.length cells/\
  ∀w' v',w'.ownsRow B e size v' (xs.length+1) (cells++cs)->w.grownBy w' v.ownBlock->(v'.ownBlock=v.ownBlock\/v'.ownBlock=some w.heap.size)->M B w0 w' (slcC FA e size v' (xs++[x])::l):=by
 obtain⟨f,hf,nd,lo⟩:=h.first;obtain⟨cells,ho,_,_⟩:=Sole.more FA (v:=v) (xs:=xs) ⟨hf,nd,lo⟩;refine⟨cells,ho,fun w' v' ho' hg hv=>h.sep.turn fun f hf nd lo=>?_⟩;obtain⟨f1,f2,rfl,h1,h2⟩:=hf;obtain⟨n1,n2,n3⟩:=List.nodup_append.1 nd;obtain⟨cells',ho2,_,more⟩:=Sole.more FA (v:=v) (xs:=xs) ⟨h1,n1,fun b hb=>lo b (List.mem_append_left _ hb)⟩;have own:∀g,v.ownBlock=some g->g ∈ f1:=fun g hg=>by
  obtain⟨_,_,_,ev,_,e1⟩:=slcR_els h1;cases ev;rw[e1];exact mem_own hg
 have ec:cells'=cells:=by
  rcases ho.2 with ⟨rfl,h0⟩|⟨g,cap,cur,rfl,_,hgg,_,_,_,ht⟩
  ·exact (List.eq_nil_of_length_eq_zero (l:=cells') (by rw[ho2.1,h0,Nat.zero_mul])).trans (List.eq_nil_of_length_eq_zero (by rw[ho.1,h0,Nat.zero_mul])).symm
  ·rcases ho2.2 with ⟨q,_⟩|⟨g2,cap2,cur2,q,_,hgg2,_,_,_,ht2⟩
   ·cases q
   ·cases q
    rw[hgg]at hgg2;cases hgg2;rw[<-ht, <-ht2]
 subst ec;have off2:∀b ∈ f2,some b≠v.ownBlock:=fun b hb q=>n3 b (own b q.symm) b hb rfl
 obtain⟨f',hS,hm⟩:=more w' v' cs x f2 ho' hg (hv.imp id fun q g hg'=>(by rw[q]at hg';cases hg';exact Nat.le_refl _)) hc
  ⟨FA.keep h2 (fun b hb=>hg.block b (FA.lt h2 b hb) (off2 b hb)) hg.size,n2,fun b hb=>lo b (List.mem_append_right _ hb)⟩ (fun b hb hb'=>n3 b hb' b hb rfl)
  (fun g hg' hm=>by
      rcases hv with q|q
      · exact off2 g hm (by rw[<-q,hg'])
      · rw[q]at hg';cases hg';exact absurd (FA.lt h2 _ hm) (Nat.lt_irrefl _))
 refine⟨⟨hg.os,hg.tape,hg.output,hg.size,fun k hk hs=>hg.block k hk fun q=>hs (List.mem_append_left _ (own k q.symm))⟩,f',hS.1,hS.2.1,fun b hb=>?_⟩;rcases hm b hb with q|q|q
 ·exact .inl (List.mem_append_left _ q)
 ·exact .inl (List.mem_append_right _ q)
 ·rcases hv with r|r
  ·exact .inl (List.mem_append_left _ (own b (by rw[<-r,q])))
  ·rw[r]at q;cases q;exact .inr lr_
theorem row_slice {B:Nat} {n:Nat} {ys:List Value} (h:w.ownsRow B e size v n ys):∃y c,v=.slice y n c:=by
 rcases h.2 with ⟨rfl,rfl⟩|⟨g,cap,cur,rfl,_⟩
 ·exact⟨_,_,rfl⟩
 ·exact⟨_,_,rfl⟩
theorem run_app {P:Program} {t:TypeId} {z:Value} {bytes:Nat} (T:SlT P t e z size bytes) {FA:A.Frame} (OA:A.One size) (h:M B w0 w (boxC b e cs.toArray::slcC FA e size v xs::FA.ch cs x::l))
  (ty:TypeId) (c:Nat) (h63:xs.length+1<=maxLen) (hby:(xs.length+1) * bytes<=140737488355328):
  ∃y cap w',(Builtin.append_ #[t,t] ty #[v,.slice (some ⟨b,0,none⟩) 1 c]).run P w=.ok (.slice y (xs.length+1) cap) w'/\M B w0 w' (slcC FA e size (.slice y (xs.length+1) cap) (xs++[x])::l):=by
 obtain⟨i,hi,hz,hs,hb⟩:=info_parts T.info;obtain⟨f,hf,_⟩:=h.drop.p1.first;have hc:cs.length=size:=OA.len hf;obtain⟨cells,ho,more⟩:=h.drop.snoc FA hc;obtain⟨v',w',hr,h1,h2,_,h4⟩:=run_append_own_at (P:=P) w B t ty e i z size bytes T.und hi hz hs hb T.zs T.pos v xs.length cells ho ⟨b,0,none⟩ 1 c cs (by rw[hc,Nat.one_mul])
  (fun j u hu=>by rw[Addr.add_mid,Nat.zero_add];exact h.cell (by simpa using hu)) (OA.one hf) h63 hby h.low
 obtain⟨y,cap,rfl⟩:=row_slice h1;exact⟨y,cap,w',hr,more w' _ h1 h2 h4⟩
theorem wp_app {P:Program} {t:TypeId} {z:Value} {bytes:Nat} (T:SlT P t e z size bytes) {FA:A.Frame} (OA:A.One size) (h:M B w0 w (boxC b e cs.toArray::slcC FA e size v xs::FA.ch cs x::l))
  {o:Oper} {a:Act} {K:Act->World->Prop} {Q:Exit->Act->World->Prop} {s u:Operand} (ho:o.op=.call { callee:=.builtin .append,args:=#[s,u],argTypes:=#[t,t] }) {c N:Nat} (hs:a.eval s=v) (hu:a.eval u=.slice (some ⟨b,0,none⟩) 1 c)
  (h63:xs.length+1<=maxLen) (hby:(xs.length+1) * bytes<=140737488355328) (hN:N=xs.length+1)
  (k:∀y cap w',M B w0 w' (slcC FA e size (.slice y N cap) (xs++[x])::l)->K (a.put o.dst (.slice y N cap)) w'):o.wp P a w K Q:=by
 obtain⟨y,cap,w',hr,hM⟩:=run_app T OA h o.type c h63 hby;unfold Oper.wp execOp;simp only[ho,resolve,invoke,builtin,Sem.run_bind,Sem.run_pure,Result.andThen_ok,List.map_toArray,List.map_cons,List.map_nil,hs,hu,hr];rw[hN]at k;exact k y cap w' hM
theorem wpList_app {P:Program} {t:TypeId} {z:Value} {bytes:Nat} (T:SlT P t e z size bytes) {FA:A.Frame} (OA:A.One size) (h:M B w0 w (boxC b e cs.toArray::slcC FA e size v xs::FA.ch cs x::l))
  {ops:Array Oper} {rest:List Oper} {o:Oper} {a:Act} {Q:Exit->Act->World->Prop} {s u:Operand} (hgd:o.guard=none) (ho:o.op=.call { callee:=.builtin .append,args:=#[s,u],argTypes:=#[t,t] }) {c N:Nat} (hs:a.eval s=v) (hu:a.eval u=.slice (some ⟨b,0,none⟩) 1 c)
  (h63:xs.length+1<=maxLen) (hby:(xs.length+1) * bytes<=140737488355328) (hN:N=xs.length+1)
  (k:∀y cap w',M B w0 w' (slcC FA e size (.slice y N cap) (xs++[x])::l)->wpList P ops Q rest (a.put o.dst (.slice y N cap)) w'):wpList P ops Q (o::rest) a w:=
 wpList_plain hgd fun _ hK=>wp_app T OA h ho hs hu h63 hby hN fun y cap w' hM=>hK _ _ (k y cap w' hM)
theorem step_app {P:Program} {t:TypeId} {z:Value} {bytes:Nat} (T:SlT P t e z size bytes) {FA:A.Frame} (OA:A.One size) (h:M B w0 w (boxC b e cs.toArray::slcC FA e size v xs::FA.ch cs x::l))
  {ops:Array Oper} {o:Oper} {a:Act} {K:Act->World->Prop} {Q:Exit->Act->World->Prop} {E:Prop} {s u:Operand} (hgd:o.guard=none) (ho:o.op=.call { callee:=.builtin .append,args:=#[s,u],argTypes:=#[t,t] }) {c N:Nat} (hs:a.eval s=v) (hu:a.eval u=.slice (some ⟨b,0,none⟩) 1 c)
  (h63:xs.length+1<=maxLen) (hby:(xs.length+1) * bytes<=140737488355328) (hN:N=xs.length+1)
  (k:∀y cap w',M B w0 w' (slcC FA e size (.slice y N cap) (xs++[x])::l)->K (a.put o.dst (.slice y N cap)) w'):if Region.wanted o (yielded ops a.tmps)=true then Oper.wp P o a w K Q else E:=by
 rw[if_pos (by simp[Region.wanted,hgd])];exact wp_app T OA h ho hs hu h63 hby hN k
theorem wpList_mk {P:Program} {t:TypeId} {z:Value} {bytes:Nat} (T:SlT P t e z 1 bytes) {enc:α->List Value} {z0:α} (hz:z.cells=#[z]) (hz0:enc z0=[z]) (hl:∀a,(enc a).length=1) (h:M B w0 w l)
  {ops:Array Oper} {rest:List Oper} {o:Oper} {a:Act} {Q:Exit->Act->World->Prop} (hgd:o.guard=none) {lo co:Operand} (hop:o.op=Op.makeSlice t lo co) {kl kc:IntKind} {L C:Int} (n:Nat) (hlo:a.eval lo=.int kl L) (hco:a.eval co=.int kc C) (hL:L=(n:Int)) (hC:C=(n:Int))
  (b2:bytes * n<=281474976710656) (b3:n<=maxLen) (k:∀w',M B w0 w' (slcC (flatR_frame enc) e 1 (.slice (some ⟨w.heap.size,0,none⟩) n n) (List.replicate n z0)::l)->Below w.heap.size w w'->wpList P ops Q rest (a.put o.dst (.slice (some ⟨w.heap.size,0,none⟩) n n)) w'):wpList P ops Q (o::rest) a w:=by
 obtain⟨i,hi,hiz,hs,hb⟩:=info_parts T.info;refine wpList_make_full w hgd lo co t hop w.heap.size e i z 1 T.und hi hiz hs kl kc L C n hlo hco hL hC (by rw[hb];exact b2) b3 lr_ fun w' ho hg=>?_
 have bl:Below w.heap.size w w':=⟨hg.os,hg.tape,hg.output,hg.size,fun q hq=>hg.block q hq (by simp)⟩
 rw[hz,Nat.mul_one,toList_madeCells_one]at ho;have e1:(List.replicate n z0).flatMap enc=List.replicate n z:=by
  clear k b2 b3 hL hC ho
  induction n with
  |zero=>rfl
  |succ n ih=>rw[List.replicate_succ,List.flatMap_cons,ih,hz0];rfl
 have r:=slc_flat_of (enc:=enc) (xs:=List.replicate n z0) (by rw[e1,List.length_replicate];exact ho) hl;exact k w' (h.add bl r (block_nodup _) fun b hb=>(ho.lt b (block_mem hb)).1) bl
theorem M.setEl {enc:α->List Value} {g n c i:Nat} (h:M B w0 w (slcC (flatR_frame enc) e 1 (.slice (some ⟨g,0,none⟩) n c) xs::l)) (hi:i<xs.length) (y:α) {u:Value} (hy:enc y=[u]):
  (∃z,w.cell? ⟨g,i,none⟩=some z)/\w.frozen? ⟨g,i,none⟩=false/\M B w0 (w.setCell ⟨g,i,none⟩ u) (slcC (flatR_frame enc) e 1 (.slice (some ⟨g,0,none⟩) n c) (xs.set i y)::l):=by
 obtain⟨f,hf,nd,lo⟩:=h.first;have at_:∀f,Sole (slcR e 1 (flatR enc)) B w [.slice (some ⟨g,0,none⟩) n c] xs f->(∃z,w.cell? ⟨g,i,none⟩=some z)/\KeptB (fun b=>b ∈ f) w (w.setCell ⟨g,i,none⟩ u)/\∃f',Sole (slcR e 1 (flatR enc)) B (w.setCell ⟨g,i,none⟩ u) [.slice (some ⟨g,0,none⟩) n c] (xs.set i y) f'/\∀b ∈ f',b ∈ f:=fun f S=>by
  obtain⟨_,mg,ci,fi,ha,_,_,_,hl,hc,_,k⟩:=Sole.set (flatR_frame enc) S (i:=i) (k:=0) (List.getElem?_eq_getElem hi) (by omega);simp only[Nat.mul_one,Nat.add_zero]at hc k;obtain⟨f',s',m⟩:=k u y [] ⟨by match ci,hl with
      | [_],_=>rw[hy];rfl,rfl⟩ List.nodup_nil (fun b hb=>by cases hb)
  exact⟨⟨_,hc 0 _ (List.getElem?_eq_getElem (by omega))⟩,KeptB.of_grown (grownBy_setCell _ _ _) mg,f',s',fun b hb=>(m b hb).elim id fun q=>by cases q⟩
 obtain⟨hz,_,_⟩:=at_ f ⟨hf,nd,lo⟩;refine⟨hz,?_,h.turn fun f hf nd lo=>?_⟩
 ·obtain⟨_,_,_,ev,E,_⟩:=slcR_els hf
  cases ev;rcases E.own.2 with ⟨q,_⟩|⟨g',cap,cur,q,_,hg,_⟩
  ·cases q
  ·cases q;simp[World.frozen?,hg]
 ·obtain⟨_,hk,f',s',m⟩:=at_ f ⟨hf,nd,lo⟩
  exact⟨hk,f',s'.1,s'.2.1,fun b hb=>.inl (m b hb)⟩
end
section
variable {w w0 w':World} {B b:Nat} {l:List Ch} {t:TypeId}
theorem M.cells2 {x0 x1:Value} (h:M B w0 w (boxC b t #[x0,x1]::l)):w.cell? ⟨b,0,none⟩=some x0/\w.cell? ⟨b,1,none⟩=some x1:=
 ⟨h.cell rfl,h.cell rfl⟩
theorem M.cells3 {x0 x1 x2:Value} (h:M B w0 w (boxC b t #[x0,x1,x2]::l)):w.cell? ⟨b,0,none⟩=some x0/\w.cell? ⟨b,1,none⟩=some x1/\w.cell? ⟨b,2,none⟩=some x2:=
 ⟨h.cell rfl,h.cell rfl,h.cell rfl⟩
theorem M.cells4 {x0 x1 x2 x3:Value} (h:M B w0 w (boxC b t #[x0,x1,x2,x3]::l)):w.cell? ⟨b,0,none⟩=some x0/\w.cell? ⟨b,1,none⟩=some x1/\w.cell? ⟨b,2,none⟩=some x2/\w.cell? ⟨b,3,none⟩=some x3:=
 ⟨h.cell rfl,h.cell rfl,h.cell rfl,h.cell rfl⟩
theorem M.set4 {x0 x1 x2 x3:Value} (h:M B w0 w (boxC b t #[x0,x1,x2,x3]::l)) (y0 y1 y2 y3:Value):M B w0 ((((w.setCell ⟨b,0,none⟩ y0).setCell ⟨b,1,none⟩ y1).setCell ⟨b,2,none⟩ y2).setCell ⟨b,3,none⟩ y3) (boxC b t #[y0,y1,y2,y3]::l):=by
 have h0:=h.set (i:=0) y0;simp only[List.setIfInBounds_toArray,List.set_cons_zero,List.set_cons_succ]at h0;have h1:=h0.set (i:=1) y1;simp only[List.setIfInBounds_toArray,List.set_cons_zero,List.set_cons_succ]at h1;have h2:=h1.set (i:=2) y2;simp only[List.setIfInBounds_toArray,List.set_cons_zero,List.set_cons_succ]at h2;have h3:=h2.set (i:=3) y3
 simp only[List.setIfInBounds_toArray,List.set_cons_zero,List.set_cons_succ]at h3;exact h3
theorem M.cells5 {x0 x1 x2 x3 x4:Value} (h:M B w0 w (boxC b t #[x0,x1,x2,x3,x4]::l)):w.cell? ⟨b,0,none⟩=some x0/\w.cell? ⟨b,1,none⟩=some x1/\w.cell? ⟨b,2,none⟩=some x2/\w.cell? ⟨b,3,none⟩=some x3/\w.cell? ⟨b,4,none⟩=some x4:=
 ⟨h.cell rfl,h.cell rfl,h.cell rfl,h.cell rfl,h.cell rfl⟩
theorem M.set5 {x0 x1 x2 x3 x4:Value} (h:M B w0 w (boxC b t #[x0,x1,x2,x3,x4]::l)) (y0 y1 y2 y3 y4:Value):M B w0 (((((w.setCell ⟨b,0,none⟩ y0).setCell ⟨b,1,none⟩ y1).setCell ⟨b,2,none⟩ y2).setCell ⟨b,3,none⟩ y3).setCell ⟨b,4,none⟩ y4) (boxC b t #[y0,y1,y2,y3,y4]::l):=by
 have h0:=h.set (i:=0) y0;simp only[List.setIfInBounds_toArray,List.set_cons_zero,List.set_cons_succ]at h0;have h1:=h0.set (i:=1) y1;simp only[List.setIfInBounds_toArray,List.set_cons_zero,List.set_cons_succ]at h1;have h2:=h1.set (i:=2) y2;simp only[List.setIfInBounds_toArray,List.set_cons_zero,List.set_cons_succ]at h2;have h3:=h2.set (i:=3) y3
 simp only[List.setIfInBounds_toArray,List.set_cons_zero,List.set_cons_succ]at h3;have h4:=h3.set (i:=4) y4;simp only[List.setIfInBounds_toArray,List.set_cons_zero,List.set_cons_succ]at h4;exact h4
theorem M.cells6 {x0 x1 x2 x3 x4 x5:Value} (h:M B w0 w (boxC b t #[x0,x1,x2,x3,x4,x5]::l)):w.cell? ⟨b,0,none⟩=some x0/\w.cell? ⟨b,1,none⟩=some x1/\w.cell? ⟨b,2,none⟩=some x2/\w.cell? ⟨b,3,none⟩=some x3/\w.cell? ⟨b,4,none⟩=some x4/\w.cell? ⟨b,5,none⟩=some x5:=
 ⟨h.cell rfl,h.cell rfl,h.cell rfl,h.cell rfl,h.cell rfl,h.cell rfl⟩
theorem M.cells7 {x0 x1 x2 x3 x4 x5 x6:Value} (h:M B w0 w (boxC b t #[x0,x1,x2,x3,x4,x5,x6]::l)):w.cell? ⟨b,0,none⟩=some x0/\w.cell? ⟨b,1,none⟩=some x1/\w.cell? ⟨b,2,none⟩=some x2/\w.cell? ⟨b,3,none⟩=some x3/\w.cell? ⟨b,4,none⟩=some x4/\w.cell? ⟨b,5,none⟩=some x5/\w.cell? ⟨b,6,none⟩=some x6:=
 ⟨h.cell rfl,h.cell rfl,h.cell rfl,h.cell rfl,h.cell rfl,h.cell rfl,h.cell rfl⟩
theorem M.cells10 {x0 x1 x2 x3 x4 x5 x6 x7 x8 x9:Value} (h:M B w0 w (boxC b t #[x0,x1,x2,x3,x4,x5,x6,x7,x8,x9]::l)):w.cell? ⟨b,0,none⟩=some x0/\w.cell? ⟨b,1,none⟩=some x1/\w.cell? ⟨b,2,none⟩=some x2/\w.cell? ⟨b,3,none⟩=some x3/\w.cell? ⟨b,4,none⟩=some x4/\w.cell? ⟨b,5,none⟩=some x5/\w.cell? ⟨b,6,none⟩=some x6/\w.cell? ⟨b,7,none⟩=some x7/\w.cell? ⟨b,8,none⟩=some x8/\w.cell? ⟨b,9,none⟩=some x9:=
 ⟨h.cell rfl,h.cell rfl,h.cell rfl,h.cell rfl,h.cell rfl,h.cell rfl,h.cell rfl,h.cell rfl,h.cell rfl,h.cell rfl⟩
theorem M.set10 {x0 x1 x2 x3 x4 x5 x6 x7 x8 x9:Value} (h:M B w0 w (boxC b t #[x0,x1,x2,x3,x4,x5,x6,x7,x8,x9]::l)) (y0 y1 y2 y3 y4 y5 y6 y7 y8 y9:Value):M B w0 ((((((((((w.setCell ⟨b,0,none⟩ y0).setCell ⟨b,1,none⟩ y1).setCell ⟨b,2,none⟩ y2).setCell ⟨b,3,none⟩ y3).setCell ⟨b,4,none⟩ y4).setCell ⟨b,5,none⟩ y5).setCell ⟨b,6,none⟩ y6).setCell ⟨b,7,none⟩ y7).setCell ⟨b,8,none⟩ y8).setCell ⟨b,9,none⟩ y9) (boxC b t #[y0,y1,y2,y3,y4,y5,y6,y7,y8,y9]::l):=by
 have h0:=h.set (i:=0) y0;simp only[List.setIfInBounds_toArray,List.set_cons_zero,List.set_cons_succ]at h0;have h1:=h0.set (i:=1) y1;simp only[List.setIfInBounds_toArray,List.set_cons_zero,List.set_cons_succ]at h1;have h2:=h1.set (i:=2) y2;simp only[List.setIfInBounds_toArray,List.set_cons_zero,List.set_cons_succ]at h2;have h3:=h2.set (i:=3) y3
 simp only[List.setIfInBounds_toArray,List.set_cons_zero,List.set_cons_succ]at h3;have h4:=h3.set (i:=4) y4;simp only[List.setIfInBounds_toArray,List.set_cons_zero,List.set_cons_succ]at h4;have h5:=h4.set (i:=5) y5;simp only[List.setIfInBounds_toArray,List.set_cons_zero,List.set_cons_succ]at h5;have h6:=h5.set (i:=6) y6
 simp only[List.setIfInBounds_toArray,List.set_cons_zero,List.set_cons_succ]at h6;have h7:=h6.set (i:=7) y7;simp only[List.setIfInBounds_toArray,List.set_cons_zero,List.set_cons_succ]at h7;have h8:=h7.set (i:=8) y8;simp only[List.setIfInBounds_toArray,List.set_cons_zero,List.set_cons_succ]at h8;have h9:=h8.set (i:=9) y9
 simp only[List.setIfInBounds_toArray,List.set_cons_zero,List.set_cons_succ]at h9;exact h9
end
end Go.Proofs.YtcblbdpdbggkbaaGreat
namespace Go.Proofs.YtcblbdpdbggkbaaGreat
open Go.RowKit Go.Sort Go.Maps
open Go.ChangeMaps (setBlock modify_eq_set)
structure KeyT (P:Program) (k:TypeId) {κ:Type} (ok:κ->Prop) (kv:κ->Value):Prop where
 keyed:Keyed P k
 key:∀x,ok x->∃l,keyOf P k (kv x)=some l
 inj:∀x y,kv x=kv y->x=y
section
variable {P:Program} {k t el:TypeId} {κ:Type} [DecidableEq κ] {ok:κ->Prop} {kv:κ->Value} {w w0 w':World} {b B:Nat} {l:List Ch} {g:κ->Option Value}
def MapIs (ok:κ->Prop) (kv:κ->Value) (w:World) (b:Nat) (g:κ->Option Value):Prop:=∃es clock,w.heap[b]? =some (.map es clock)/\(∀e ∈ es.toList,∃x,ok x/\e.key=kv x/\g x=some e.val)/\(∀x v,g x=some v->∃e ∈ es.toList,e.key=kv x)/\(es.toList.map (·.key)).Nodup
def mapC (ok:κ->Prop) (kv:κ->Value) (b:Nat) (g:κ->Option Value):Ch:=⟨fun w f=>MapIs ok kv w b g/\f=[b],
  fun h x hx=>by obtain⟨⟨_,_,hb,_⟩,rfl⟩:=h;rw[List.mem_singleton.1 hx];exact (Array.getElem?_eq_some_iff.1 hb).1,
  fun h hk _=>by obtain⟨⟨es,c,hb,r⟩,rfl⟩:=h;exact⟨⟨es,c,(hk b (List.mem_singleton_self b)).trans hb,r⟩,rfl⟩⟩
theorem M.map (ok:κ->Prop) (kv:κ->Value) (h:M B w0 w l):M B w0 (w.alloc (.map #[] 0)) (mapC ok kv w.heap.size (fun _=>none)::l):=
 h.add ((Below.refl _ _).alloc lr_ _) ⟨⟨#[],0,heap_alloc_new w _,fun e he=>(by simp at he),fun x v hx=>(by cases hx),by simp⟩,rfl⟩ (nodup_one _) fun b hb=>by rw[List.mem_singleton.1 hb];exact Nat.le_refl _
theorem MapIs.look (K:KeyT P k ok kv) (ht:P.underlying t=some (.map k el)) {z:Value} (hz:(zeroValue el).run P w=.ok z w) (h:MapIs ok kv w b g) {x:κ} (hx:ok x) (c:Bool):
  (Instr.lookup t (.map (some b)) (kv x) c).run P w=.ok (if c then .tuple #[(g x).getD z,.bool (g x).isSome]else (g x).getD z) w:=by
 obtain⟨es,clock,hb,h1,h2,nd⟩:=h;obtain⟨lx,hl⟩:=K.key x hx;rcases K.keyed.find w hl es.toList (fun e he=>by obtain⟨y,hy,e1,_⟩:=h1 e he;rw[e1];exact K.key y hy)with ⟨f1,f2⟩|⟨j,e0,f1,f2,f3⟩
 ·have n:g x=none:=by
   cases q:g x with
   |none=>rfl
   |some v=>obtain⟨e,he,e1⟩:=h2 x v q;exact absurd e1 (f2 e he)
  simp[Instr.lookup,run_underlying ht,MapKept.run_getObj_map hb,K.keyed.check w _ hl,f1,hz,Result.andThen,n]
 ·obtain⟨y,hy,e1,e2⟩:=h1 e0 (List.mem_of_getElem? f2)
  obtain rfl:=K.inj y x (e1.symm.trans f3);simp[Instr.lookup,run_underlying ht,MapKept.run_getObj_map hb,K.keyed.check w _ hl,f1,Result.andThen,e2]
theorem MapIs.store (K:KeyT P k ok kv) (ht:P.underlying t=some (.map k el)) (h:MapIs ok kv w b g) {x:κ} (hx:ok x) (v:Value):
  ∃es clock,(Instr.mapUpdate t (.map (some b)) (kv x) v).run P w=.ok () (setBlock w b (.map es clock))/\MapIs ok kv (setBlock w b (.map es clock)) b (fun y=>if y=x then some v else g y):=by
 obtain⟨es,clock,hb,h1,h2,nd⟩:=h;obtain⟨lx,hl⟩:=K.key x hx;have lt:b<w.heap.size:=(Array.getElem?_eq_some_iff.1 hb).1;have here:∀o:Obj,(setBlock w b o).heap[b]? =some o:=fun o=>by simp[setBlock,lt]
 rcases K.keyed.find w hl es.toList (fun e he=>by obtain⟨y,hy,e1,_⟩:=h1 e he;rw[e1];exact K.key y hy)with ⟨f1,f2⟩|⟨j,e0,f1,f2,f3⟩
 ·refine⟨es.push ⟨kv x,v,clock⟩,clock+1,?_,_,_,here _,fun e he=>?_,fun y u hy=>?_,?_⟩
  ·simp[Instr.mapUpdate,run_underlying ht,MapKept.run_getObj_map hb,K.keyed.check w false hl,f1,MapKept.run_setObj_map _ hb,Result.andThen,setBlock]
  ·simp only[Array.toList_push,List.mem_append,List.mem_singleton]at he
   rcases he with he|rfl
   ·obtain⟨y,hy,e1,e2⟩:=h1 e he
    exact⟨y,hy,e1,(if_neg fun q=>f2 e he (by rw[e1,q])).trans e2⟩
   ·exact⟨x,hx,rfl,if_pos rfl⟩
  ·by_cases q:y=x
   ·subst q;exact⟨⟨kv y,v,clock⟩,by simp,rfl⟩
   ·replace hy:=(if_neg q).symm.trans hy
    obtain⟨e,he,e1⟩:=h2 y u hy;exact⟨e,by simp[he],e1⟩
  ·rw[Array.toList_push,List.map_append,List.nodup_append]
   refine⟨nd,by simp,fun a ha c hc q=>?_⟩;obtain⟨e,he,rfl⟩:=List.mem_map.1 ha;simp only[List.map_cons,List.map_nil,List.mem_singleton]at hc;exact f2 e he (q.trans hc)
 ·have hj:es[j]? =some e0:=by simpa using f2
  have hlist:(es.modify j (fun e'=>{ e' with key:=kv x,val:=v })).toList=es.toList.set j { e0 with key:=kv x,val:=v }:=by rw[Array.toList_modify,modify_eq_set _ _ _ _ f2]
  have jl:j<es.toList.length:=(List.getElem?_eq_some_iff.1 f2).1;refine⟨es.modify j (fun e'=>{ e' with key:=kv x,val:=v }),clock,?_,_,_,here _,fun e he=>?_,fun y u hy=>?_,?_⟩
  ·simp[Instr.mapUpdate,run_underlying ht,MapKept.run_getObj_map hb,K.keyed.check w false hl,f1,hj,f3,K.keyed.stays w hl,MapKept.run_setObj_map _ hb,Result.andThen,setBlock]
  ·rw[hlist]at he
   obtain⟨i,hi,rfl⟩:=List.getElem_of_mem he;have hi':i<es.toList.length:=by simpa using hi
   by_cases q:j=i
   ·subst q
    rw[List.getElem_set_self];exact⟨x,hx,rfl,if_pos rfl⟩
   ·rw[List.getElem_set_ne q]
    obtain⟨y,hy,e1,e2⟩:=h1 _ (List.getElem_mem hi');refine⟨y,hy,e1,(if_neg fun r=>?_).trans e2⟩
    ·have a1:(es.toList.map (·.key))[i]'(by simpa using hi')=kv x:=by rw[List.getElem_map,e1,r]
     have a2:(es.toList.map (·.key))[j]'(by simpa using jl)=kv x:=by
      rw[List.getElem?_eq_getElem jl]at f2;rw[List.getElem_map,Option.some.inj f2,f3]
     rcases Nat.lt_or_gt_of_ne q with z|z
     ·exact (List.pairwise_iff_getElem.1 nd j i (by simpa using jl) (by simpa using hi') z) (a2.trans a1.symm)
     ·exact (List.pairwise_iff_getElem.1 nd i j (by simpa using hi') (by simpa using jl) z) (a1.trans a2.symm)
  ·rw[hlist]
   by_cases q:y=x
   ·subst q;exact⟨{ e0 with key:=kv y,val:=v },List.mem_iff_getElem.2 ⟨j,by simpa using jl,by simp⟩,rfl⟩
   ·replace hy:=(if_neg q).symm.trans hy
    obtain⟨e,he,e1⟩:=h2 y u hy;obtain⟨i,hi,rfl⟩:=List.getElem_of_mem he;refine⟨es.toList[i],List.mem_iff_getElem.2 ⟨i,by simpa using hi,?_⟩,e1⟩;rw[List.getElem_set_ne];intro e2;subst e2;rw[List.getElem?_eq_getElem hi]at f2;cases f2;exact q (K.inj y x (e1.symm.trans f3))
  ·rw[hlist,List.map_set]
   have:(es.toList.map (·.key)).set j (kv x)=es.toList.map (·.key):=by
    rw[List.getElem?_eq_getElem jl]at f2;have a2:(es.toList.map (·.key))[j]'(by simpa using jl)=kv x:=by rw[List.getElem_map,Option.some.inj f2,f3]
    rw[<-a2];exact List.set_getElem_self _
   rw[this];exact nd
theorem M.look (K:KeyT P k ok kv) (ht:P.underlying t=some (.map k el)) {z:Value} (hz:(zeroValue el).run P w=.ok z w) (h:M B w0 w (mapC ok kv b g::l)) {x:κ} (hx:ok x) (c:Bool):
  (Instr.lookup t (.map (some b)) (kv x) c).run P w=.ok (if c then .tuple #[(g x).getD z,.bool (g x).isSome]else (g x).getD z) w:=by
 obtain⟨f,hf,_⟩:=h.first;exact hf.1.look K ht hz hx c
theorem M.store (K:KeyT P k ok kv) (ht:P.underlying t=some (.map k el)) (h:M B w0 w (mapC ok kv b g::l)) {x:κ} (hx:ok x) (v:Value):
  ∃w',(Instr.mapUpdate t (.map (some b)) (kv x) v).run P w=.ok () w'/\M B w0 w' (mapC ok kv b (fun y=>if y=x then some v else g y)::l)/\w'.heap.size=w.heap.size:=by
 obtain⟨f,hf,_⟩:=h.first;obtain⟨es,c,hr,hm⟩:=hf.1.store K ht hx v;refine⟨_,hr,h.turn fun f hf _ _=>⟨⟨rfl,rfl,rfl,by simp[setBlock],fun q _ hq=>?_⟩,[b],⟨hm,rfl⟩,nodup_one _,fun y hy=>.inl (by rw[hf.2];exact hy)⟩,by simp[setBlock]⟩;rw[hf.2]at hq;have ne:¬b=q:=fun e=>hq (by simp[e])
 simp[setBlock,Array.getElem?_setIfInBounds,ne]
theorem wp_mset (K:KeyT P k ok kv) (ht:P.underlying t=some (.map k el)) (h:M B w0 w (mapC ok kv b g::l)) {x:κ} (hx:ok x) {o:Oper} {a:Act} {N:Act->World->Prop} {Q:Exit->Act->World->Prop} {mo ko vo:Operand} (hop:o.op=.mapUpdate t mo ko vo) {v:Value}
  (hm:a.eval mo=.map (some b)) (hk:a.eval ko=kv x) (hv:a.eval vo=v) (n:∀w',M B w0 w' (mapC ok kv b (fun y=>if y=x then some v else g y)::l)->w'.heap.size=w.heap.size->N (a.put o.dst undef) w'):o.wp P a w N Q:=by
 obtain⟨w',hr,hM,hs⟩:=h.store K ht hx v;unfold Oper.wp;simp[execOp,hop,hm,hk,hv,hr,Result.andThen,Oper.upon];exact n w' hM hs
theorem wpList_mset (K:KeyT P k ok kv) (ht:P.underlying t=some (.map k el)) (h:M B w0 w (mapC ok kv b g::l)) {x:κ} (hx:ok x) {ops:Array Oper} {rest:List Oper} {o:Oper} {a:Act} {Q:Exit->Act->World->Prop} {mo ko vo:Operand} (hgd:o.guard=none) (hop:o.op=.mapUpdate t mo ko vo) {v:Value}
  (hm:a.eval mo=.map (some b)) (hk:a.eval ko=kv x) (hv:a.eval vo=v) (n:∀w',M B w0 w' (mapC ok kv b (fun y=>if y=x then some v else g y)::l)->w'.heap.size=w.heap.size->wpList P ops Q rest (a.put o.dst undef) w'):wpList P ops Q (o::rest) a w:=
 wpList_plain hgd fun _ hK=>wp_mset K ht h hx hop hm hk hv fun w' h1 h2=>hK _ _ (n w' h1 h2)
end
end Go.Proofs.YtcblbdpdbggkbaaGreat
namespace Go.Proofs.YtcblbdpdbggkbaaGreat
open Go
section
variable {P:Program} {ops:Array Oper} {Q:Exit->Act->World->Prop} {md:Region.Mode} {S:World->Prop} {n:Nat}
def wpL (P:Program) (md:Region.Mode) (ops:Array Oper) (Q:Exit->Act->World->Prop) (S:World->Prop) (n:Nat):Nat->Array Bool->Act->World->Prop
 | 0,listed,a,w=>Region.ready md ops listed=[]/\Q .normal a w
 |fuel+1,listed,a,w=>
  (Region.ready md ops listed=[]->Q .normal a w)/\
  ∀i ∈ Region.ready md ops listed,wpOp P ops Q i (fun a' w'=>(i=n\/S w')/\wpL P md ops Q S n fuel (listed.setIfInBounds i true) a' w') a w
theorem wpAny_of_L:∀(fuel:Nat) (listed:Array Bool) (a:Act) (w:World),wpL P md ops Q S n fuel listed a w->wpAny P md ops Q fuel listed a w
 | 0,_,_,_,h=>h
 |fuel+1,_,_,_,h=>⟨h.1,fun i hi=>wpOp_mono (fun a' w' h'=>wpAny_of_L fuel _ a' w' h'.2) (h.2 i hi)⟩
theorem waits_not {i:Nat} (h:(match ops[n]? with|some o=>o.after.any fun e=>Region.binds md e&&e.on==i|none=>true)=true) {listed:Array Bool} (hu:listed.getD i true=false):n ∉ Region.ready md ops listed:=fun hr=>by
 obtain⟨_,o,ho,hall⟩:=mem_ready.1 hr;rw[ho]at h;obtain⟨e,he,hb⟩:=Array.any_eq_true'.1 h;simp only[Bool.and_eq_true,beq_iff_eq]at hb;have h1:=hall e he hb.1;rw[hb.2]at h1;rcases Nat.lt_or_ge i listed.size with h'|h'
 ·simp[h']at hu h1;rw[hu]at h1;cases h1
 ·simp[Array.getElem?_eq_none h']at h1
theorem wpL_first {i:Nat} {oi:Oper} {v:Value} (hi:ops[i]? =some oi) (hsel:∀(j:Nat) (o:Oper) cs b,ops[j]? =some o->o.op≠.select cs b)
  (hQ:∀c a w,Q (.panic c) (a.put oi.dst v) w->Q (.panic c) a w) (hn:∀listed:Array Bool,listed.getD i true=false->n ∉ Region.ready md ops listed):
  ∀(fuel:Nat) (listed:Array Bool) (a:Act) (w:World),
   (∀j oj,ops[j]? =some oj->j≠i->listed.getD j true=false->(∀e ∈ oj.after,Region.binds md e=true->e.on≠i)->oi.apart ops oj=true)->
   i ∈ Region.ready md ops listed->YieldsIf P ops S oi v a->S w->
   wpL P md ops Q S n fuel (listed.setIfInBounds i true) (a.put oi.dst v) w->wpL P md ops Q S n (fuel+1) listed a w:=by
 intro fuel
 induction fuel with
 |zero=>
  intro listed a w _ hr hy hS H;refine⟨fun h=>(by rw[h]at hr;cases hr),fun j hj=>?_⟩
  by_cases hji:j=i
  ·subst hji;exact hy.wpOp hi hS ⟨.inr hS,H⟩
  ·have:=ready_mono hj hji
   rw[H.1]at this;cases this
 |succ fuel ih=>
  intro listed a w hfree hr hy hS H;refine⟨fun h=>(by rw[h]at hr;cases hr),fun j hj=>?_⟩
  by_cases hji:j=i
  ·subst hji;exact hy.wpOp hi hS ⟨.inr hS,H⟩
  ·by_cases hjn:j=n
   ·subst hjn;exact absurd hj (hn listed (mem_ready.1 hr).1)
   have h1:=H.2 j (ready_mono hj hji);obtain⟨hjun,oj,hoj,hall⟩:=mem_ready.1 hj;have hnot:∀e ∈ oj.after,Region.binds md e=true->e.on≠i:=fun e he hb heq=>by
    have h1:=hall e he hb;have h0:=(mem_ready.1 hr).1;rw[heq]at h1;rcases Nat.lt_or_ge i listed.size with h'|h'
    ·simp[h']at h0 h1;rw[h0]at h1;cases h1
    ·simp[Array.getElem?_eq_none h']at h1
   have h2:=wpOp_putIf hoj (hfree j oj hoj hji hjun hnot) (fun cs b=>hsel i oi cs b hi) (fun cs b=>hsel j oj cs b hoj) hQ hy h1;have hfree':∀k ok,ops[k]? =some ok->k≠i->(listed.setIfInBounds j true).getD k true=false->
     (∀e ∈ ok.after,Region.binds md e=true->e.on≠i)->oi.apart ops ok=true:=fun k ok hk hki hun hno=>by
    refine hfree k ok hk hki ?_ hno
    by_cases hjk:j=k
    ·subst hjk;exact hjun
    ·rw[getD_set_ne true hjk]at hun;exact hun
   refine wpOp_mono (fun a' w' h3=>?_) h2;have s:=h3.2.1.resolve_left hjn;refine⟨.inr s,ih (listed.setIfInBounds j true) a' w' hfree' (ready_mono hr (Ne.symm hji)) h3.1 s ?_⟩;rw[Array.setIfInBounds_comm _ _ hji];exact h3.2.2
inductive Tr where
 |done
 |take (i:Nat) (t:Tr)
 |alt (i:Nat) (t more:Tr)
 |nomore
def Tr.idx:Tr->List Nat
 | .alt i _ m=>i::m.idx
 |_=>[]
def Tr.isDone:Tr->Bool
 | .done=>true
 |_=>false
def Tr.chk (md:Region.Mode) (ops:Array Oper) (n:Nat):Bool->Array Bool->Tr->Bool
 |_,listed,.done=>(Region.ready md ops listed).isEmpty
 |_,listed,.take i t=>Region.noSelect ops&&Region.free md ops listed i&&(Region.ready md ops listed).contains i&&(match ops[n]? with|some o=>o.after.any fun e=>Region.binds md e&&e.on==i|none=>true)&&t.chk md ops n true (listed.setIfInBounds i true)
 |head,listed,.alt i t m=>(i != n || t.isDone)&&(!head || Region.ready md ops listed==i::m.idx)&&t.chk md ops n true (listed.setIfInBounds i true)&&m.chk md ops n false listed
 |head,_,.nomore=> !head
def Tr.size:Tr->Nat
 | .done=>0
 | .take _ t=>t.size+1
 | .alt _ t m=>max (t.size+1) m.size
 | .nomore=>0
def stepsL (P:Program) (ops:Array Oper) (Q:Exit->Act->World->Prop) (S:World->Prop) (n:Nat):Tr->Act->World->Prop
 | .done,a,w=>Q .normal a w
 | .take i t,a,w=>∃o v,ops[i]? =some o/\YieldsIf P ops S o v a/\stepsL P ops Q S n t (a.put o.dst v) w
 | .alt i t m,a,w=>wpOp P ops Q i (fun a' w'=>(i=n\/S w')/\stepsL P ops Q S n t a' w') a w/\stepsL P ops Q S n m a w
 | .nomore,_,_=>True
theorem Tr.isDone_iff {t:Tr}:t.isDone=true↔t=.done:=by cases t<;>simp[Tr.isDone]
theorem wpL_of_steps (hQ:∀c a (d:Tmp) v w,Q (.panic c) (Act.put a (some d) v) w->Q (.panic c) a w):∀(t:Tr) (head:Bool) (listed:Array Bool) (a:Act) (w:World),t.chk md ops n head listed=true->stepsL P ops Q S n t a w->
  (head=true->(S w\/t=.done)->∀F,t.size<=F->wpL P md ops Q S n F listed a w)/\(S w->∀j ∈ t.idx,∀F,t.size<=F+1->wpOp P ops Q j (fun a' w'=>(j=n\/S w')/\wpL P md ops Q S n F (listed.setIfInBounds j true) a' w') a w)
 | .done,head,listed,a,w,c,h=>by
  refine⟨fun _ _ F _=>?_,fun _ j hj=>by cases hj⟩;have e:Region.ready md ops listed=[]:=List.isEmpty_iff.1 c;cases F with
  |zero=>exact⟨e,h⟩
  |succ F=>exact⟨fun _=>h,fun i hi=>by rw[e]at hi;cases hi⟩
 | .take i t,head,listed,a,w,c,h=>by
  refine⟨fun hh hs F hF=>?_,fun _ j hj=>by cases hj⟩;obtain⟨o,v,ho,hy,hr⟩:=h;simp only[Tr.chk,Bool.and_eq_true]at c;obtain⟨⟨⟨⟨c1,c2⟩,c3⟩,c4⟩,c5⟩:=c;have s:S w:=hs.resolve_right (fun q=>by cases q);simp only[Tr.size]at hF;obtain⟨F',rfl⟩:∃F',F=F'+1:=⟨F - 1,by omega⟩
  exact wpL_first ho (Region.noSelect_spec c1) (fun c a w=>by cases hd:o.dst with
      |none=>exact id
      |some d=>exact hQ c a d v w) (fun l hu=>waits_not c4 hu) F' listed a w (Region.free_spec ho c2) (by simpa using c3) hy s
   ((wpL_of_steps hQ t true _ _ w c5 hr).1 rfl (.inl s) F' (by omega))
 | .alt i t m,head,listed,a,w,c,h=>by
  simp only[Tr.chk,Bool.and_eq_true]at c;obtain⟨⟨⟨c0,c1⟩,c2⟩,c3⟩:=c;have one:∀F,t.size<=F->wpOp P ops Q i (fun a' w'=>(i=n\/S w')/\wpL P md ops Q S n F (listed.setIfInBounds i true) a' w') a w:=fun F hF=>
   wpOp_mono (fun a' w' h'=>⟨h'.1,(wpL_of_steps hQ t true _ a' w' c2 h'.2).1 rfl (by
        rcases h'.1 with q|q
        · refine .inr (Tr.isDone_iff.1 ?_)
          simpa[q]using c0
        · exact .inl q) F hF⟩) h.1
  have all:S w->∀j ∈ i::m.idx,∀F,max (t.size+1) m.size<=F+1->wpOp P ops Q j (fun a' w'=>(j=n\/S w')/\wpL P md ops Q S n F (listed.setIfInBounds j true) a' w') a w:=fun s j hj F hF=>by
   rcases List.mem_cons.1 hj with rfl|hj
   ·exact one F (by omega)
   ·exact (wpL_of_steps hQ m false listed a w c3 h.2).2 s j hj F (by omega)
  refine⟨fun hh hs F hF=>?_,fun s j hj F hF=>all s j hj F hF⟩;have s:S w:=hs.resolve_right (fun q=>by cases q);simp only[Tr.size]at hF;obtain⟨F',rfl⟩:∃F',F=F'+1:=⟨F - 1,by omega⟩
  subst hh;have e:Region.ready md ops listed=i::m.idx:=by simpa using c1
  exact⟨fun q=>(by rw[e]at q;cases q),fun j hj=>all s j (by rw[<-e];exact hj) F' hF⟩
 | .nomore,head,listed,a,w,c,h=>⟨fun hh=>(by subst hh;cases c),fun _ j hj=>(by cases hj)⟩
theorem wp_region_plan {id:Nat} {a:Act} {w:World} (n:Nat) (t:Tr) (S:World->Prop) (hm:P.follows .mixedOrders=true) (hc:(t.chk .any ops n true (Array.replicate ops.size false)&&decide (t.size<=ops.size))=true)
  (hQ:∀c a (d:Tmp) v w,Q (.panic c) (Act.put a (some d) v) w->Q (.panic c) a w) (hS:S w.drew) (h:stepsL P ops Q S n t a w.drew):(Code.region id ops true).wp P Q a w:=by
 simp only[Bool.and_eq_true,decide_eq_true_eq]at hc;exact wp_region_any hm (wpAny_of_L _ _ _ _ ((wpL_of_steps hQ t true _ a w.drew hc.1 h).1 rfl (.inl hS) _ hc.2))
theorem plan_take {i:Nat} {t:Tr} {a:Act} {w:World} {o:Oper} (ho:ops[i]? =some o) (hw:Region.wanted o (yielded ops a.tmps)=true) (h:∃v,(∀w',S w'->(execOp a.eval o).run P w'=.ok (.value v) w')/\stepsL P ops Q S n t (a.put o.dst v) w):stepsL P ops Q S n (.take i t) a w:=
 let ⟨v,hv,h⟩:=h;⟨o,v,ho,.inl ⟨hw,hv⟩,h⟩
theorem plan_skip {i:Nat} {t:Tr} {a:Act} {w:World} {o:Oper} (ho:ops[i]? =some o) (hw:Region.wanted o (yielded ops a.tmps)=false) (h:stepsL P ops Q S n t (a.put o.dst undef) w):stepsL P ops Q S n (.take i t) a w:=
 ⟨o,undef,ho,.inr ⟨hw,rfl⟩,h⟩
theorem plan_alt {i:Nat} {t m:Tr} {a:Act} {w:World} {o:Oper} (ho:ops[i]? =some o) (h:∀K:Act->World->Prop,(∀a' w',(i=n\/S w')->stepsL P ops Q S n t a' w'->K a' w')->if Region.wanted o (yielded ops a.tmps)=true then Oper.wp P o a w K Q else K (a.put o.dst undef) w)
  (hm:stepsL P ops Q S n m a w):stepsL P ops Q S n (.alt i t m) a w:=
 ⟨wpOp_step ho fun K' hK=>h K' fun a' w' h1 h2=>hK a' w' ⟨h1,h2⟩,hm⟩
theorem plan_last {i:Nat} {t:Tr} {a:Act} {w:World} {o:Oper} (ho:ops[i]? =some o) (h:∀K:Act->World->Prop,(∀a' w',(i=n\/S w')->stepsL P ops Q S n t a' w'->K a' w')->if Region.wanted o (yielded ops a.tmps)=true then Oper.wp P o a w K Q else K (a.put o.dst undef) w):stepsL P ops Q S n (.alt i t .nomore) a w:=
 plan_alt ho h trivial
theorem plan_done {a:Act} {w:World} (h:Q .normal a w):stepsL P ops Q S n .done a w:=h
end
end Go.Proofs.YtcblbdpdbggkbaaGreat
namespace Go.Proofs.YtcblbdpdbggkbaaGreat
open Go.RowKit Go.Sort
def rdC (w0:World) (B a k:Nat):Ch:=⟨fun w f=>(∃(v:Value) (n:Nat) (p:Int),w.heap[a]? =some (.cells #[v,.int .i64 p] 186 (0,0))/\Bts w0 B v n/\n<=2000/\0<=p/\p<=k)/\f=[a],
  fun h x hx=>by obtain⟨⟨v,n,p,hb,_⟩,rfl⟩:=h;rw[List.mem_singleton.1 hx];exact (Array.getElem?_eq_some_iff.1 hb).1,
  fun h hk _=>by obtain⟨⟨v,n,p,hb,r⟩,rfl⟩:=h;exact⟨⟨v,n,p,(hk a (List.mem_singleton_self a)).trans hb,r⟩,rfl⟩⟩
section
variable {B a k:Nat} {w0 w:World} {l:List Ch}
theorem Bts.later {w w':World} {B a n:Nat} {v:Value} (h:Bts w B v n) (hb:Below B w w') (ha:B<=a):Bts w' a v n:=by
 rcases h with h|⟨b,o,cap,rfl,h1,h2,h3⟩
 ·exact .inl h
 ·refine .inr ⟨b,o,cap,rfl,h1,by omega,fun i hi=>?_⟩
  obtain⟨z,hz,r⟩:=h3 i hi;exact⟨z,(hb.cell (p:=⟨b,o+i,none⟩) h2).trans hz,r⟩
theorem M.reader (h:M B w0 w (rdC w0 B a k::l)):∃p:Int,0<=p/\p<=k/\Rd w a p:=by
 obtain⟨f,⟨⟨v,n,p,hb,ht,hn,p0,p1⟩,rfl⟩,_,lo⟩:=h.first;exact⟨p,p0,p1,v,n,hb,ht.later h.below (lo a (List.mem_singleton_self a)),hn⟩
theorem M.openRd {v:Value} {n:Nat} (h:M B w0 w l) (hv:∃x cap,v=.slice x n cap) (ht:Bts w0 B v n):
  Calls Tryz.prog 63 #[v] w fun e w'=>e=.returned (.pointer (some ⟨w.heap.size,0,none⟩))/\M B w0 w' (rdC w0 B w.heap.size 0::l):=by
 have key:∀u m,Bts w0 B u m->m<=2000->M B w0 (w.alloc (.cells #[u,.int .i64 0] 186)) (rdC w0 B w.heap.size 0::l):=fun u m hu hm=>
  (h.alloc #[u,.int .i64 0] 186).to fun f hf nd=>⟨f,⟨⟨u,m,0,hf.1,hu,hm,Int.le_refl _,Int.le_refl _⟩,hf.2⟩,nd,fun _ q=>q⟩
 by_cases hn:n<=2000
 ·obtain⟨x,cap,rfl⟩:=hv
  refine (open_small w x n cap _ rfl hn).mono fun e w' ⟨he,hw⟩=>⟨he,?_⟩
  subst hw;exact key _ n ht hn
 ·rcases ht with ⟨h0,_⟩|⟨b,o,cap,rfl,h1,h2,h3⟩
  ·omega
  refine (open_great w b o n cap (by omega) h1).mono fun e w' ⟨he,hw⟩=>⟨he,?_⟩
  subst hw;exact key _ 2000 (.inr ⟨b,o,cap,rfl,by omega,h2,fun i hi=>h3 i (by omega)⟩) lr_
theorem M.pick (h:M B w0 w (rdC w0 B a k::l)) (hk:k<=99999) (n:Int) (hn:1<=n) (hn':n<=10000):
  Calls Tryz.prog 65 #[.pointer (some ⟨a,0,none⟩),.int .i64 n] w fun e w'=>∃v:Int,e=.returned (.int .i64 v)/\0<=v/\v<n/\M B w0 w' (rdC w0 B a (k+1)::l):=by
 obtain⟨p,p0,p1,hR⟩:=h.reader;refine (pick_atC w a p n hR p0 (by omega) hn hn').mono fun e w' ⟨v,he,v0,v1,hR',hg,hc⟩=>⟨v,he,v0,v1,?_⟩
 refine h.turn fun f hf _ lo=>?_
 obtain⟨⟨bs,m,q,hb,ht,hm,_⟩,rfl⟩:=hf;obtain⟨bs',m',hb',_,_⟩:=hR';have e0:bs'=bs:=by
  have c1:w.cell? ⟨a,0,none⟩=some bs:=by simp[World.cell?,hb]
  have c2:w'.cell? ⟨a,0,none⟩=some bs':=by simp[World.cell?,hb']
  rw[c1,c2]at hc;exact Option.some.inj hc
 subst e0;exact⟨KeptB.of_grown hg (List.mem_singleton_self a),[a],⟨⟨bs',m,p+1,hb',ht,hm,by omega,by omega⟩,rfl⟩,nodup_one _,fun x hx=>.inl hx⟩
end
section
variable {P:Program} {ops:Array Oper} {rest:List Oper} {o:Oper} {a:Act} {w w0:World} {Q:Exit->Act->World->Prop} {B b:Nat} {l:List Ch} {t:TypeId} {us vs:Array Value}
end
theorem pg3 {α:Type _} (a:α) (r:List α) (h:0<(a::r).length):(a::r)[0]=a:=rfl
theorem pg4 {α:Type _} (l:List α) (i:Nat) (a:α):l.toArray.setIfInBounds i a=(l.set i a).toArray:=List.setIfInBounds_toArray l i a
theorem pg5 {α:Type _} (a b:α) (r:List α):(a::r).set 0 b=b::r:=rfl
theorem pg6 {α:Type _} (a b:α) (r:List α) (i:Nat):(a::r).set (i+1) b=a::r.set i b:=rfl
def Tr.tk:Nat->Nat->Tr->Tr
 |_,0,t=>t
 |a,k+1,t=>.take a (Tr.tk (a+1) k t)
end Go.Proofs.YtcblbdpdbggkbaaGreat
set_option linter.unusedVariables false
namespace Go.Proofs.YtcblbdpdbggkbaaGreat
open Go.RowKit
theorem Ints.cases {w:World} {v:Value} {zs:List Int} (h:Ints w v zs):
  (∃x c,v=.slice x zs.length c)/\(zs.length=0\/∃b o c,v=.slice (some ⟨b,o,none⟩) zs.length c/\∀i,i<zs.length->w.cell? ⟨b,o+i,none⟩=some (.int .i64 (zs.getD i 0))):=by
 rcases h with ⟨rfl,rfl⟩|⟨b,o,c,rfl,_,_,_,hc⟩
 ·exact⟨⟨_,_,rfl⟩,.inl rfl⟩
 ·exact⟨⟨_,_,rfl⟩,.inr ⟨b,o,c,rfl,hc⟩⟩
theorem Rws.cases {w:World} {v:Value} {rs:List (List Int)} (h:Rws w v rs):
  (∃x c,v=.slice x rs.length c)/\(rs.length=0\/∃b o c,v=.slice (some ⟨b,o,none⟩) rs.length c/\∀i,i<rs.length->∃x,w.cell? ⟨b,o+i,none⟩=some x/\Ints w x (rs.getD i [])):=by
 rcases h with ⟨rfl,rfl⟩|⟨b,o,c,rfl,_,_,_,hc⟩
 ·exact⟨⟨_,_,rfl⟩,.inl rfl⟩
 ·exact⟨⟨_,_,rfl⟩,.inr ⟨b,o,c,rfl,hc⟩⟩
theorem ne_of_len {α:Type} [DecidableEq α] {a b:List α} (h:a.length≠b.length):decide (a=b)=false:=by
 simp only[decide_eq_false_iff_not];exact fun e=>h (by rw[e])
theorem ne_of_get {α:Type} [DecidableEq α] {a b:List α} {i:Nat} {d:α} (h:a.getD i d≠b.getD i d):decide (a=b)=false:=by
 simp only[decide_eq_false_iff_not];exact fun e=>h (by rw[e])
theorem eq_of_get {α:Type} [DecidableEq α] {a b:List α} {n:Nat} {d:α} (ha:a.length=n) (hb:b.length=n) (h:∀i,i<n->a.getD i d=b.getD i d):decide (a=b)=true:=by
 simp only[decide_eq_true_eq];apply List.ext_getElem (by omega);intro i h1 h2;have:=h i (by omega);simpa[h1,h2]using this
theorem Ints.drewN {w:World} {v:Value} {zs:List Int} (h:Ints w v zs) (n:Nat):Ints (w.drewN n) v zs:=h
theorem lkInts_short (x y:Option Addr) (n m c d:Nat) (w:World) (h:n≠m\/(n=0/\m=0)):
  Calls Tryz.prog 28 #[.slice x n c,.slice y m d] w fun e w'=>e=.returned (.bool (decide (n=m)))/\w=w':=by
 rcases h with h|⟨rfl,rfl⟩
 ·have hn:((n:Int) != (m:Int))=true:=by simp;omega
  go_enter Tryz.func28,Tryz.ntmps28;go_wp2;go_ret;exact⟨by simpa using h,rfl⟩
 ·go_enter Tryz.func28,Tryz.ntmps28
  go_wp2;refine wp_loop_rounds 1 ?_;rw[rounds_succ];go_wp2;go_ret;exact⟨by simp,rfl⟩
theorem lkInts_long (b o c b' o' c' n:Nat) (za zb:List Int) (w:World) (hn:n<=maxLen) (ha:za.length=n) (hb:zb.length=n)
  (hca:∀i,i<n->w.cell? ⟨b,o+i,none⟩=some (.int .i64 (za.getD i 0))) (hcb:∀i,i<n->w.cell? ⟨b',o'+i,none⟩=some (.int .i64 (zb.getD i 0))):
  Calls Tryz.prog 28 #[.slice (some ⟨b,o,none⟩) n c,.slice (some ⟨b',o',none⟩) n c'] w fun e w'=>e=.returned (.bool (decide (za=zb)))/\∃m,w'=w.drewN m:=by
 unfold maxLen at hn;have Ha:=hd_ ha;have Hb:=hd_ hb;have Hca:=hd_ hca;have Hcb:=hd_ hcb;clear ha hb hca hcb;go_enter Tryz.func28,Tryz.ntmps28;go_wp2;go_loopw [5] (fun i wr=>∃k:Nat,k<=n/\i=.int .i64 k/\(∀j,j<k->za.getD j 0=zb.getD j 0)/\∃m,wr=w.drewN m) (fun i _=>n - (intOf i).toNat)
 case atStart=>exact⟨0,Nat.zero_le _,rfl,fun _ h=>absurd h (Nat.not_lt_zero _),0,rfl⟩
 case round=>
  obtain⟨k,hk,rfl,heq,m,rfl⟩:=hrel;have HE:=hd_ heq;clear heq
  by_cases hlt:k<n
  ·have h1:=Hca.out k hlt
   have h2:=Hcb.out k hlt;obtain⟨x,hx⟩:∃x,za.getD k 0=x:=⟨_,rfl⟩
   obtain⟨y,hy⟩:∃y,zb.getD k 0=y:=⟨_,rfl⟩
   rw[hx]at h1;rw[hy]at h2;have HX:=hd_ hx;have HY:=hd_ hy;clear hx hy;have k0:(0:Int)<=(k:Int):=by omega
   have k1:(k:Int)<(n:Int):=by omega
   by_cases he:x=y
   ·subst he
    go_wp2
    go_quiet (fail)
    go_wp2;go_roundw
    case rel=>exact⟨k+1,by omega,by go_num,fun j hj=>by
          by_cases h:j<k
          · exact HE.out j h
          · obtain rfl:j=k:=by omega
            rw[HX.out,HY.out],_,rfl⟩
    case measure=>simp[intOf];omega
   ·have he':(x != y)=true:=by simpa using he
    go_wp2
    go_quiet (fail)
    go_wp2;go_ret;exact⟨ret_bool (ne_of_get (i:=k) (d:=0) (by rw[HX.out,HY.out];exact he)).symm,_,World.drewN_drewN _ _ _⟩
  ·have fin:Hid (decide (za=zb)=true):=eq_of_get (d:=0) Ha.out Hb.out (fun i hi=>HE.out i (by omega))
   go_wp2;go_ret;exact⟨ret_bool fin.out.symm,_,rfl⟩
theorem lkInts_at (w:World) (u v:Value) (za zb:List Int) (ha:Ints w u za) (hb:Ints w v zb) (hl:za.length<=maxLen):
  Calls Tryz.prog 28 #[u,v] w fun e w'=>e=.returned (.bool (decide (za=zb)))/\∃m,w'=w.drewN m:=by
 obtain⟨⟨x,c,hx⟩,qa⟩:=ha.cases;obtain⟨⟨y,d,hy⟩,qb⟩:=hb.cases
 by_cases h:za.length≠zb.length\/(za.length=0/\zb.length=0)
 ·rw[hx,hy]
  refine (lkInts_short x y _ _ c d w h).mono fun e w' ⟨he,hw⟩=>⟨?_,0,hw.symm⟩
  rw[he];refine ret_bool ?_;rcases h with h|⟨h1,h2⟩
  ·rw[ne_of_len h];simpa using h
  ·rw[List.eq_nil_of_length_eq_zero h1,List.eq_nil_of_length_eq_zero h2];simp
 ·have e:za.length=zb.length:=by omega
  rcases qa with qa|⟨b,o,c,rfl,hca⟩
  ·omega
  rcases qb with qb|⟨b',o',c',rfl,hcb⟩
  ·omega
  rw[<-e]at hcb ⊢;exact lkInts_long b o c b' o' c' _ za zb w hl rfl e.symm hca hcb
theorem lkRough_short (x y:Option Addr) (n m c d:Nat) (w:World) (h:n≠m\/(n=0/\m=0)):
  Calls Tryz.prog 42 #[.agg #[.slice x n c],.agg #[.slice y m d]] w fun e w'=>e=.returned (.bool (decide (n=m)))/\Below w.heap.size w w':=by
 rcases h with h|⟨rfl,rfl⟩
 ·have hn:((n:Int) != (m:Int))=true:=by simp;omega
  go_enter Tryz.func42,Tryz.ntmps42;go_wp2;go_ret;exact⟨by simpa using h,((Below.refl _ _).alloc lr_ _).alloc (by simp) _⟩
 ·go_enter Tryz.func42,Tryz.ntmps42
  go_wp2;refine wp_loop_rounds 1 ?_;rw[rounds_succ];go_wp2;go_ret;exact⟨by simp,((Below.refl _ _).alloc lr_ _).alloc (by simp) _⟩
theorem lkRough_long (b o c b' o' c' n:Nat) (ra rb:List (List Int)) (w:World) (hn:n<=maxLen) (ha:ra.length=n) (hb:rb.length=n) (hla:∀i,i<n->(ra.getD i []).length<=maxLen) (hlb:b<w.heap.size) (hlb':b'<w.heap.size)
  (hca:∀i,i<n->∃x,w.cell? ⟨b,o+i,none⟩=some x/\Ints w x (ra.getD i [])) (hcb:∀i,i<n->∃x,w.cell? ⟨b',o'+i,none⟩=some x/\Ints w x (rb.getD i [])):
  Calls Tryz.prog 42 #[.agg #[.slice (some ⟨b,o,none⟩) n c],.agg #[.slice (some ⟨b',o',none⟩) n c']] w fun e w'=>e=.returned (.bool (decide (ra=rb)))/\Below w.heap.size w w':=by
 unfold maxLen at hn;have Ha:=hd_ ha;have Hb:=hd_ hb;have Hla:=hd_ hla;have Hca:=hd_ hca;have Hcb:=hd_ hcb;clear ha hb hca hcb hla;go_enter Tryz.func42,Tryz.ntmps42;go_wp2
 go_loopw [5] (fun i wr=>∃k:Nat,k<=n/\i=.int .i64 k/\(∀j,j<k->ra.getD j []=rb.getD j [])/\Below w.heap.size w wr/\wr.cell? ⟨w.heap.size,0,none⟩=some (.slice (some ⟨b,o,none⟩) n c)/\wr.cell? ⟨w.heap.size+1,0,none⟩=some (.slice (some ⟨b',o',none⟩) n c')) (fun i _=>n - (intOf i).toNat)
 case atStart=>exact⟨0,Nat.zero_le _,rfl,fun _ h=>absurd h (Nat.not_lt_zero _),((Below.refl _ _).alloc lr_ _).alloc (by simp) _,by simp[go_sem],by simp[go_sem]⟩
 case round=>
  obtain⟨k,hk,rfl,heq,hbl,hbx,hby⟩:=hrel;have HE:=hd_ heq;have HB:=hd_ hbl;clear heq hbl
  by_cases hlt:k<n
  ·obtain⟨x,h1,i1⟩:=Hca.out k hlt
   obtain⟨y,h2,i2⟩:=Hcb.out k hlt;rw[<-HB.out.cell (p:=⟨b,o+k,none⟩) hlb]at h1;rw[<-HB.out.cell (p:=⟨b',o'+k,none⟩) hlb']at h2;have I1:=hd_ (i1.below HB.out lr_);have I2:=hd_ (i2.below HB.out lr_);clear i1 i2;have k0:(0:Int)<=(k:Int):=by omega
   have k1:(k:Int)<(n:Int):=by omega
   have KC:Hid (∀q,Calls Tryz.prog 28 #[x,y] (wr.drewN q) fun e w''=>e=.returned (.bool (decide (ra.getD k []=rb.getD k [])))/\∃m,w''=(wr.drewN q).drewN m):=fun q=>
    lkInts_at (wr.drewN q) x y _ _ (I1.out.drewN q) (I2.out.drewN q) (Hla.out k hlt)
   obtain⟨⟨xa,xc,hx⟩,_⟩:=I1.out.cases;obtain⟨⟨ya,yc,hy⟩,_⟩:=I2.out.cases;obtain⟨ln,hln⟩:∃ln,ln=(ra.getD k []).length:=⟨_,rfl⟩
   obtain⟨lm,hlm⟩:∃lm,lm=(rb.getD k []).length:=⟨_,rfl⟩
   rw[<-hln]at hx;rw[<-hlm]at hy;subst hx hy;clear hln hlm I1 I2
   by_cases he:ra.getD k []=rb.getD k []
   ·rw[show decide (ra.getD k []=rb.getD k [])=true from by simpa using he]at KC
    have HEQ:=hd_ he;clear he;go_wp2
    go_quiet ((with_reducible refine Calls.quiet_of (KC.out _)))
    go_wp2;go_roundw
    case rel=>exact⟨k+1,by omega,by go_num,fun j hj=>by
          by_cases h:j<k
          · exact HE.out j h
          · obtain rfl:j=k:=by omega
            exact HEQ.out,below_drewN HB.out _,by simpa using hbx,by simpa using hby⟩
    case measure=>simp[intOf];omega
   ·rw[show decide (ra.getD k []=rb.getD k [])=false from by simpa using he]at KC
    have HNE:=hd_ he;clear he;go_wp2
    go_quiet ((with_reducible refine Calls.quiet_of (KC.out _)))
    go_wp2;go_ret;exact⟨ret_bool (ne_of_get (i:=k) (d:=[]) HNE.out).symm,below_drewN HB.out _⟩
  ·have fin:Hid (decide (ra=rb)=true):=eq_of_get (d:=[]) Ha.out Hb.out (fun i hi=>HE.out i (by omega))
   go_wp2;go_ret;exact⟨ret_bool fin.out.symm,HB.out⟩
theorem lkRough_at (w:World) (u v:Value) (ra rb:List (List Int)) (ha:Rws w u ra) (hb:Rws w v rb) (hl:ra.length<=maxLen) (hla:∀i,i<ra.length->(ra.getD i []).length<=maxLen):
  Calls Tryz.prog 42 #[.agg #[u],.agg #[v]] w fun e w'=>e=.returned (.bool (decide (ra=rb)))/\Below w.heap.size w w':=by
 obtain⟨⟨x,c,hx⟩,qa⟩:=ha.cases;obtain⟨⟨y,d,hy⟩,qb⟩:=hb.cases
 by_cases h:ra.length≠rb.length\/(ra.length=0/\rb.length=0)
 ·rw[hx,hy]
  refine (lkRough_short x y _ _ c d w h).mono fun e w' ⟨he,hw⟩=>⟨?_,hw⟩
  rw[he];refine ret_bool ?_;rcases h with h|⟨h1,h2⟩
  ·rw[ne_of_len h];simpa using h
  ·rw[List.eq_nil_of_length_eq_zero h1,List.eq_nil_of_length_eq_zero h2];simp
 ·have e:ra.length=rb.length:=by omega
  rcases ha with ⟨rfl,rfl⟩|⟨b,o,c,rfl,_,_,hlb,hca⟩
  ·exact absurd (Or.inr ⟨rfl,e.symm⟩) h
  rcases hb with ⟨rfl,rfl⟩|⟨b',o',c',rfl,_,_,hlb',hcb⟩
  ·exact absurd (Or.inr ⟨e,rfl⟩) h
  rw[<-e]at hcb ⊢;exact lkRough_long b o c b' o' c' _ ra rb w hl rfl e.symm hla hlb hlb' hca hcb
def rowOkB (zs:List Int):Bool:=zs.length==8&&zs.all fun z=>decide (0<=z)&&decide (z<=2000)
def okB (rs:List (List Int)):Bool:=rs.length==3&&rs.all fun zs=>rowOkB zs&&zs.sum==(rs.getD 0 []).sum&&decide (zs.sum<=2000)
def Good (rs:List (List Int)) (i:Nat):Prop:=(rs.getD i []).length=8/\(∀k,k<8->0<=(rs.getD i []).getD k 0/\(rs.getD i []).getD k 0<=2000)/\(rs.getD i []).sum=(rs.getD 0 []).sum/\(rs.getD i []).sum<=2000
theorem okB_iff (rs:List (List Int)):okB rs=true↔rs.length=3/\∀i,i<3->Good rs i:=by
 unfold okB Good rowOkB;simp only[Bool.and_eq_true,beq_iff_eq,List.all_eq_true,decide_eq_true_eq]
 constructor
 ·rintro⟨h3,h⟩
  refine⟨h3,fun i hi=>?_⟩;have hm:rs.getD i [] ∈ rs:=getD_mem _ _ _ (by omega);obtain⟨⟨⟨h8,ha⟩,hs⟩,hl⟩:=h _ hm;refine⟨h8,fun k hk=>?_,hs,hl⟩;exact ha _ (getD_mem _ _ _ (by omega))
 ·rintro⟨h3,h⟩
  refine⟨h3,fun zs hz=>?_⟩;obtain⟨i,hi,rfl⟩:=List.getElem_of_mem hz;have h':=h i (by omega);simp only[List.getD_eq_getElem?_getD,List.getElem?_eq_getElem hi,Option.getD_some]at h' ⊢;refine⟨⟨⟨h'.1,fun z hz=>?_⟩,h'.2.2.1⟩,h'.2.2.2⟩;obtain⟨k,hk,rfl⟩:=List.getElem_of_mem hz;have h2:=h'.2.1 k (by omega);simpa[hk]using h2
theorem okB_false {rs:List (List Int)} (h:rs.length≠3\/∃i,i<3/\¬Good rs i):okB rs=false:=by
 cases hb:okB rs with
 |false=>rfl
 |true=>
  obtain⟨h3,hg⟩:=(okB_iff rs).1 hb;rcases h with h|⟨i,hi,hn⟩
  ·exact absurd h3 h
  ·exact absurd (hg i hi) hn
def zeros:List Int:=[0,0,0,0,0,0,0,0]
theorem info_ints:(Tryz.prog.info? 23).map (fun i=>(i.zero,i.size,i.bytes))=some (some (.slice none 0 0),1,24):=by kernel_rfl
theorem make8:∀w,(Instr.makeSlice 23 (.int .i64 8) (.int .i64 8)).run Tryz.prog w=.ok (.slice (some ⟨w.heap.size,0,none⟩) 8 8) (w.alloc (.cells (ints zeros).toArray 3)):=fun _=>by kernel_rfl
theorem make3:∀w,(Instr.makeSlice 34 (.int .i64 3) (.int .i64 3)).run Tryz.prog w=.ok (.slice (some ⟨w.heap.size,0,none⟩) 3 3) (w.alloc (.cells #[.slice none 0 0,.slice none 0 0,.slice none 0 0] 23)):=fun _=>by kernel_rfl
def zero3:List (List Int):=[zeros,zeros,zeros]
theorem cell_block {w:World} {b:Nat} {u:Value} {t:TypeId} (h:w.heap[b]? =some (.cells #[u] t (0,0))):w.cell? ⟨b,0,none⟩=some u/\w.frozen? ⟨b,0,none⟩=false/\b<w.heap.size:=
 ⟨by simp[World.cell?,h],by simp[World.frozen?,h],(Array.getElem?_eq_some_iff.1 h).1⟩
theorem OwnR.nil (w:World) (B:Nat):OwnR w B (.slice none 0 0) [] (fun _=>0) (fun _=>0):=
 ⟨World.ownsRow_nil w B _ 1,fun i h=>absurd h (Nat.not_lt_zero i),fun i h=>absurd h (Nat.not_lt_zero i),fun i _ h=>absurd h (Nat.not_lt_zero i)⟩
theorem OwnR.hdr_lt {w:World} {B:Nat} {u:Value} {rs:List (List Int)} {G C:Nat->Nat} (h:OwnR w B u rs G C):∀k,u.ownBlock=some k->B<=k/\k<w.heap.size:=h.hdr.lt
theorem block_keep {w w':World} {row:Option Nat} {b:Nat} {o:Obj} (h:w.heap[b]? =some o) (hg:w.grownBy w' row) (hr:row≠some b):w'.heap[b]? =some o:=by
 rw[hg.block b (Array.getElem?_eq_some_iff.1 h).1 (fun e=>hr e.symm)];exact h
theorem make_own (w:World) (B:Nat) (zs:List Int) (hB:B<=w.heap.size) (hl:zs.length<=maxLen):
  (w.alloc (.cells (ints zs).toArray 3)).ownsRow B 3 1 (.slice (some ⟨w.heap.size,0,none⟩) zs.length zs.length) zs.length (ints zs):=by
 have:=World.ownsRow_lit (base:=B) (e:=3) (size:=1) w (ints zs).toArray zs.length hB hl (by simp[ints]);simpa using this
theorem new2 (w:World) (o o':Obj):((w.alloc o).alloc o').drew.heap[w.heap.size+1]? =some o':=by
 have:=heap_alloc_new (w.alloc o) o';rw[show (w.alloc o).heap.size=w.heap.size+1 by simp]at this;exact this
theorem box_far {w w1:World} {o o':Obj} {b:Nat} {u:Value} {row:Option Nat} (c:w.cell? ⟨b,0,none⟩=some u) (f:w.frozen? ⟨b,0,none⟩=false) (l:b<w.heap.size)
  (hg:((w.alloc o).alloc o').drew.grownBy w1 row) (hr:row≠some b):w1.cell? ⟨b,0,none⟩=some u/\w1.frozen? ⟨b,0,none⟩=false:=by
 have l1:b<(w.alloc o).heap.size:=by simp;omega
 have l2:b<((w.alloc o).alloc o').drew.heap.size:=by simp;omega
 rw[hg.cell_far ⟨b,0,none⟩ l2 (Ne.symm hr),hg.frozen_far ⟨b,0,none⟩ l2 (Ne.symm hr)];simp only[World.cell?_drew,World.frozen?_drew];rw[World.cell?_alloc_past _ _ _ l1,World.cell?_alloc_past _ _ _ l,World.frozen?_alloc_past _ _ _ l1,World.frozen?_alloc_past _ _ _ l];exact⟨c,f⟩
theorem grownBy_drew {w w':World} {row:Option Nat} (h:w.grownBy w' row):w.grownBy w'.drew row:=⟨h.os,h.tape,h.output,h.size,h.block⟩
theorem row_added {w wr X w1:World} {S R B W g c gg cap:Nat} {o:Obj} {u:Value} {t:TypeId} {rs:List (List Int)} {G C:Nat->Nat} {zs:List Int}
  (HO:OwnR wr B u rs G C) (hX:wr.grownBy X none) (hz:X.ownsRow B 3 1 (.slice (some ⟨g,0,none⟩) zs.length c) zs.length (ints zs)) (hg:wr.heap.size<=g)
  (hown1:w1.ownsRow B 23 1 (.slice (some ⟨gg,0,none⟩) (rs.length+1) cap) (rs.length+1) ((List.range rs.length).map (rowV rs G C)++[.slice (some ⟨g,0,none⟩) zs.length c]))
  (hgrow:X.grownBy w1 u.ownBlock) (hat:u.ownBlock=some gg\/gg=X.heap.size)
  (hR:wr.heap[R]? =some (.cells #[u] t (0,0))) (hS:wr.heap[S]? =some o) (hRB:R<B) (hSB:S<B) (hSR:S≠R) (hbl:Below W w wr) (hWR:W<=R) (hWw:W<=w.heap.size):
  ∃G' C',OwnR (w1.setCell ⟨R,0,none⟩ (.slice (some ⟨gg,0,none⟩) (rs.length+1) cap)) B (.slice (some ⟨gg,0,none⟩) (rs.length+1) cap) (rs++[zs]) G' C'/\
   (w1.setCell ⟨R,0,none⟩ (.slice (some ⟨gg,0,none⟩) (rs.length+1) cap)).heap[S]? =some o/\
   (w1.setCell ⟨R,0,none⟩ (.slice (some ⟨gg,0,none⟩) (rs.length+1) cap)).heap[R]? =some (.cells #[.slice (some ⟨gg,0,none⟩) (rs.length+1) cap] t (0,0))/\
   Below W w (w1.setCell ⟨R,0,none⟩ (.slice (some ⟨gg,0,none⟩) (rs.length+1) cap)):=by
 have lt:∀k,u.ownBlock=some k->B<=k/\k<wr.heap.size:=HO.hdr_lt
 have HX:=HO.grown hX (fun _ e=>by cases e);have h1:=HX.snoc hz (fun e=>by have:=(lt g e).2;omega) (fun i hi e=>by have:=((HO.row i hi).lt (G i) rfl).2;omega) hown1 hgrow hat;have hRX:=block_keep hR hX (by simp);have hSX:=block_keep hS hX (by simp);have hR1:=block_keep hRX hgrow (fun e=>by have:=(lt R e).1;omega);have hS1:=block_keep hSX hgrow (fun e=>by have:=(lt S e).1;omega)
 refine⟨_,_,h1.grown (grownBy_setCell w1 ⟨R,0,none⟩ _) (fun k e=>by simp at e;omega),?_,?_,?_⟩
 ·rw[heap_setCell_other w1 ⟨R,0,none⟩ S _ hSR];exact hS1
 ·exact one_setCell hR1
 ·have hXb:Below W w X:=hbl.trans ⟨hX.os,hX.tape,hX.output,hX.size,fun k hk=>hX.block k (Nat.lt_of_lt_of_le hk (Nat.le_trans hWw hbl.size)) (by simp)⟩
  have h1b:Below W w w1:=hXb.grown hgrow (Nat.le_trans hWw hXb.size) (fun k e=>by have:=(lt k e).1;omega);exact h1b.setCell (by simpa using hWR) _
theorem spNew_at (w:World):
  Calls Tryz.prog 168 #[] w fun e w'=>∃u G C,e=.returned (.agg #[u])/\OwnR w' w.heap.size u zero3 G C/\Below w.heap.size w w':=by
 have m8:=make8;obtain⟨i0,hi,hz0,hz1,hz2⟩:=info_parts info_ints;go_enter Tryz.func168,Tryz.ntmps168;go_wp2;go_loopw [2] (fun i wr=>∃(k:Nat) (rs:List (List Int)) (u:Value) (G C:Nat->Nat),k<=3/\i=.int .i64 k/\rs=List.replicate k zeros/\OwnR wr (w.heap.size+2) u rs G C/\
      wr.heap[w.heap.size]? =some (.cells #[.slice none 0 0] 36 (0,0))/\wr.heap[w.heap.size+1]? =some (.cells #[u] 36 (0,0))/\Below w.heap.size w wr) (fun i _=>3 - (intOf i).toNat)
 case atStart=>
  refine⟨0,_,_,_,_,Nat.zero_le _,rfl,rfl,OwnR.nil _ _,?_,?_,((Below.refl _ _).alloc lr_ _).alloc (by simp) _⟩
  ·exact (heap_alloc_old _ _ (by simp)).trans (heap_alloc_new _ _)
  ·have:=heap_alloc_new (w.alloc (Obj.cells #[Value.slice none 0 0] 36)) (Obj.cells #[Value.slice none 0 0] 36)
   simpa using this
 case round=>
  obtain⟨k,rs,u,G,C,hk,rfl,hrs,hown,hS,hR,hbl⟩:=hrel;have HRS:=hd_ hrs;have hn:rs.length<=3:=by rw[hrs];simpa using hk
  clear hrs;obtain⟨c1,f1,l1⟩:=cell_block hR;have hb0:w.heap.size+2<=wr.heap.size:=by omega
  have l2:w.heap.size+1<wr.heap.size+1:=by omega
  have hub:u.ownBlock≠some (w.heap.size+1):=fun e=>by have:=(hown.hdr_lt _ e).1;omega
  have HO:=hd_ hown;have HS:=hd_ hS;have HR:=hd_ hR;have HB:=hd_ hbl;clear hown hS hR hbl
  by_cases hlt:k<3
  ·go_wp2_with fail
   go_region_law
    ((refine step_append_lies _ (by rfl) _ _ _ (by rfl) (w.heap.size+2) 23 i0 _ 1 24 Tryz.underlying34 hi hz0 hz1 hz2 rfl (by omega) u rs.length _ (by rfl) (((HO.out.hdr.alloc _).alloc _).drew)
            ⟨wr.heap.size+1,0,none⟩ 1 1 [.slice (some ⟨wr.heap.size,0,none⟩) 8 8] (by rfl) (by rfl) (World.news_of_block (cs:=#[.slice (some ⟨wr.heap.size,0,none⟩) 8 8]) (t:=23) (fr:=(0,0)) (new2 _ _ _)) (by simp[Value.oneCell'])
            (by omega) (by unfold maxLen;omega) (by omega) (by simp;omega) (wr.heap.size+2) (by simp) ?_;intro gg cap w1 hown1 hgrow hat hlt1;have d1:=box_far c1 f1 l1 hgrow hub;obtain⟨d2,d3⟩:=d1))
   all_goals
    have hX:wr.grownBy ((wr.alloc (.cells (ints zeros).toArray 3)).alloc (.cells #[.slice (some ⟨wr.heap.size,0,none⟩) 8 8] 23)).drew none:=
     grownBy_drew (grownBy_trans (World.grownBy_alloc wr _ none) (World.grownBy_alloc _ _ none))
    have hz:=(((make_own wr (w.heap.size+2) zeros hb0 (by simp[zeros,maxLen])).alloc (.cells #[.slice (some ⟨wr.heap.size,0,none⟩) 8 8] 23)).drew)
    have fin:=row_added HO.out hX hz lr_ hown1 hgrow (by simpa using hat) HR.out HS.out (by omega) (by omega) (by omega) HB.out (by omega) lr_;have FIN:=hd_ fin;clear fin hX hz hown1 hgrow hat;go_wp2;go_roundw
    case rel=>
     obtain⟨G',C',q1,q2,q3,q4⟩:=FIN.out;exact⟨k+1,rs++[zeros],_,G',C',by omega,by go_num,by rw[HRS.out,List.replicate_succ'],q1,q2,q3,q4⟩
    case measure=>simp[intOf];omega
  ·obtain⟨s1,s2,s3⟩:=cell_block HS.out
   have h3:rs.length=3:=by rw[HRS.out];simp;omega
   obtain⟨g,cap,hu,hg1,hg2⟩:=World.ownsRow.form HO.out.hdr (by omega);subst hu;have e3:rs=zero3:=by rw[HRS.out,show k=3 by omega];rfl
   have hw:=HO.out.grown (grownBy_setCell wr ⟨w.heap.size,0,none⟩ (.slice (some ⟨g,0,none⟩) rs.length cap)) (fun k e=>by simp at e;omega);have hb:=HB.out.setCell (p:=⟨w.heap.size,0,none⟩) lr_ (.slice (some ⟨g,0,none⟩) rs.length cap);rw[e3]at hw hb;have H1:=hd_ hw;have H2:=hd_ hb;have E3:=hd_ e3;clear hw hb h3 e3;go_wp2;rw[E3.out]
   have hr:=World.cell?_setCell_same wr ⟨w.heap.size,0,none⟩ (.slice (some ⟨g,0,none⟩) zero3.length cap) s1;exact bodyPost_ret (v:=.agg #[.slice (some ⟨g,0,none⟩) zero3.length cap]) (by simp[results,Tryz.results168,go_sem,hr]) rfl ⟨_,G,C,rfl,H1.out.base (by omega),H2.out⟩
theorem own_three (w:World) (o:Obj) (r0 r1 r2:List Int) (n:Nat) (hn:w.heap.size=n) (h0:r0.length=8) (h1:r1.length=8) (h2:r2.length=8):
  OwnR (((((w.alloc o).alloc (.cells #[.slice (some ⟨n+1+1,0,none⟩) 8 8,.slice (some ⟨n+1+1+1,0,none⟩) 8 8,.slice (some ⟨n+1+1+1+1,0,none⟩) 8 8] 23)).alloc
      (.cells (ints r0).toArray 3)).alloc (.cells (ints r1).toArray 3)).alloc (.cells (ints r2).toArray 3)) n (.slice (some ⟨n+1,0,none⟩) 3 3) [r0,r1,r2] (fun i=>n+2+i) (fun _=>8):=by
 subst hn;have eV:∀i,rowV [r0,r1,r2] (fun i=>w.heap.size+2+i) (fun _=>8) i=.slice (some ⟨w.heap.size+2+i,0,none⟩) ([r0,r1,r2].getD i []).length 8:=fun i=>rfl
 have hh:=World.ownsRow_lit (base:=w.heap.size) (e:=23) (size:=1) (w.alloc o) #[.slice (some ⟨w.heap.size+1+1,0,none⟩) 8 8,.slice (some ⟨w.heap.size+1+1+1,0,none⟩) 8 8,.slice (some ⟨w.heap.size+1+1+1+1,0,none⟩) 8 8] 3 (by simp) (by simp[maxLen]) (by simp)
 have z0:=make_own ((w.alloc o).alloc (.cells #[.slice (some ⟨w.heap.size+1+1,0,none⟩) 8 8,.slice (some ⟨w.heap.size+1+1+1,0,none⟩) 8 8,.slice (some ⟨w.heap.size+1+1+1+1,0,none⟩) 8 8] 23)) w.heap.size r0 (by simp;omega) (by simp[h0,maxLen])
 have z1:=make_own (((w.alloc o).alloc (.cells #[.slice (some ⟨w.heap.size+1+1,0,none⟩) 8 8,.slice (some ⟨w.heap.size+1+1+1,0,none⟩) 8 8,.slice (some ⟨w.heap.size+1+1+1+1,0,none⟩) 8 8] 23)).alloc (.cells (ints r0).toArray 3)) w.heap.size r1 (by simp;omega) (by simp[h1,maxLen])
 have z2:=make_own ((((w.alloc o).alloc (.cells #[.slice (some ⟨w.heap.size+1+1,0,none⟩) 8 8,.slice (some ⟨w.heap.size+1+1+1,0,none⟩) 8 8,.slice (some ⟨w.heap.size+1+1+1+1,0,none⟩) 8 8] 23)).alloc (.cells (ints r0).toArray 3)).alloc (.cells (ints r1).toArray 3)) w.heap.size r2 (by simp;omega) (by simp[h2,maxLen]);simp only[World.size_alloc,h0,h1,h2]at hh z0 z1 z2
 refine⟨?_,fun i hi=>?_,fun i hi=>?_,fun i j hi hj hij=>?_⟩
 ·have:=((hh.alloc (.cells (ints r0).toArray 3)).alloc (.cells (ints r1).toArray 3)).alloc (.cells (ints r2).toArray 3)
  simpa[List.range_succ,rowV,h0,h1,h2]using this
 ·simp only[List.length_cons,List.length_nil]at hi
  rw[eV];rcases (by omega:i=0\/i=1\/i=2)with rfl|rfl|rfl
  ·simpa[h0]using (z0.alloc (.cells (ints r1).toArray 3)).alloc (.cells (ints r2).toArray 3)
  ·simpa[h1]using z1.alloc (.cells (ints r2).toArray 3)
  ·simpa[h2]using z2
 ·simp[Value.ownBlock];omega
 ·simp;omega
theorem imNew_at (w:World):
  Calls Tryz.prog 152 #[] w fun e w'=>∃u G C,e=.returned (.agg #[u])/\OwnR w' w.heap.size u zero3 G C/\Below w.heap.size w w':=by
 have m8:=make8;have m3:=make3;go_enter Tryz.func152,Tryz.ntmps152;go_wp2;refine wp_loop_rounds 4 ?_;rw[rounds_succ];go_wp2;rw[rounds_succ];go_wp2;rw[rounds_succ];go_wp2;rw[rounds_succ];go_wp2;exact bodyPost_ret (v:=.agg #[.slice (some ⟨w.heap.size+1,0,none⟩) 3 3]) (by simp[results,Tryz.results152,go_sem]) rfl
  ⟨_,_,_,rfl,own_three w _ zeros zeros zeros _ rfl rfl rfl rfl,(((((Below.refl _ _).alloc lr_ _).alloc (by simp) _).alloc (by simp;omega) _).alloc (by simp;omega) _).alloc (by simp;omega) _⟩
def Fine (zs:List Int):Prop:=zs.length=8/\(∀k,k<8->0<=zs.getD k 0)/\zs.sum<=2000
instance (zs:List Int):Decidable (Fine zs):=by unfold Fine;infer_instance
def rowAllV (zs:List Int):Int:=if Fine zs then zs.sum else -1
def allV (rs:List (List Int)):Int:=if okB rs=true then (rs.getD 0 []).sum else -1
theorem nonneg_mem {zs:List Int} (h:∀k,k<zs.length->0<=zs.getD k 0):∀z ∈ zs,0<=z:=fun z hz=>by
 obtain⟨k,hk,rfl⟩:=List.getElem_of_mem hz;have:=h k hk;simpa[hk]using this
theorem sum_nonneg {zs:List Int} (h:∀z ∈ zs,0<=z):0<=zs.sum:=by
 induction zs with
 |nil=>simp
 |cons a l ih=>simp only[List.sum_cons];have:=h a (by simp);have:=ih (fun z hz=>h z (by simp[hz]));omega
theorem sum_take_le {zs:List Int} (h:∀z ∈ zs,0<=z) (k:Nat):(zs.take k).sum<=zs.sum:=by
 have e:zs.sum=(zs.take k).sum+(zs.drop k).sum:=by rw[<-List.sum_append,List.take_append_drop]
 have:=sum_nonneg (fun z hz=>h z (List.mem_of_mem_drop hz):∀z ∈ zs.drop k,0<=z);omega
theorem Fine.bd {zs:List Int} (h:Fine zs):(∀z ∈ zs,0<=z)/\0<=zs.sum/\(∀k,k<8->0<=zs.getD k 0/\zs.getD k 0<=2000):=by
 have hm:=nonneg_mem (fun k hk=>h.2.1 k (by rw[<-h.1];exact hk):∀k,k<zs.length->0<=zs.getD k 0);refine⟨hm,sum_nonneg hm,fun k hk=>⟨h.2.1 k hk,?_⟩⟩;have h1:=sum_take_succ zs k (by rw[h.1];exact hk);have h2:=sum_take_le hm (k+1);have h3:=sum_nonneg (fun z hz=>hm z (List.mem_of_mem_take hz):∀z ∈ zs.take k,0<=z);have:=h.2.2;omega
theorem rowAllV_fine {zs:List Int} (h:Fine zs):rowAllV zs=zs.sum:=if_pos h
theorem rowAllV_not {zs:List Int} (h:¬Fine zs):rowAllV zs= -1:=if_neg h
theorem allV_eq (rs:List (List Int)):allV rs=if rs.length=3/\rowAllV (rs.getD 1 [])=rowAllV (rs.getD 0 [])/\rowAllV (rs.getD 2 [])=rowAllV (rs.getD 0 [])then rowAllV (rs.getD 0 [])else -1:=by
 unfold allV
 by_cases hok:okB rs=true
 ·rw[if_pos hok]
  obtain⟨h3,hg⟩:=(okB_iff rs).1 hok;have fine:∀i,i<3->Fine (rs.getD i []):=fun i hi=>⟨(hg i hi).1,fun k hk=>((hg i hi).2.1 k hk).1,(hg i hi).2.2.2⟩
  rw[if_pos ⟨h3,by rw[rowAllV_fine (fine 1 (by omega)),rowAllV_fine (fine 0 (by omega))];exact (hg 1 (by omega)).2.2.1,by rw[rowAllV_fine (fine 2 (by omega)),rowAllV_fine (fine 0 (by omega))];exact (hg 2 (by omega)).2.2.1⟩,
      rowAllV_fine (fine 0 (by omega))]
 ·rw[if_neg hok]
  split
  ·rename_i h
   obtain⟨h3,h1,h2⟩:=h
   by_cases f0:Fine (rs.getD 0 [])
   ·exfalso
    apply hok;rw[okB_iff];have pos:=f0.bd.2.1;have all:∀i,i<3->Fine (rs.getD i [])/\(rs.getD i []).sum=(rs.getD 0 []).sum:=fun i hi=>by
     have e:rowAllV (rs.getD i [])=rowAllV (rs.getD 0 []):=by
      rcases (by omega:i=0\/i=1\/i=2)with rfl|rfl|rfl
      ·rfl
      ·exact h1
      ·exact h2
     rw[rowAllV_fine f0]at e
     by_cases fi:Fine (rs.getD i [])
     ·rw[rowAllV_fine fi]at e;exact⟨fi,e⟩
     ·rw[rowAllV_not fi]at e;omega
    exact⟨h3,fun i hi=>⟨(all i hi).1.1,(all i hi).1.bd.2.2,(all i hi).2,(all i hi).1.2.2⟩⟩
   ·rw[rowAllV_not f0]
  ·rfl
theorem rowAll_len (v:Value) (x:Option Addr) (n c:Nat) (w:World) (hv:v=.slice x n c) (h:n≠8):
  Calls Tryz.prog 157 #[v] w fun e w'=>e=.returned (.int .i64 (-1))/\w=w':=by
 subst hv;have hn:((n:Int)==8)=false:=by simp;omega
 go_enter Tryz.func157,Tryz.ntmps157;go_wp2;go_ret;exact⟨rfl,rfl⟩
theorem rowAll_eight (b o c:Nat) (zs:List Int) (w:World) (hl:zs.length=8) (hc:∀i,i<8->w.cell? ⟨b,o+i,none⟩=some (.int .i64 (zs.getD i 0))):
  Calls Tryz.prog 157 #[.slice (some ⟨b,o,none⟩) 8 c] w fun e w'=>e=.returned (.int .i64 (rowAllV zs))/\w=w':=by
 have HL:=hd_ hl;have HC:=hd_ hc;clear hl hc;go_enter Tryz.func157,Tryz.ntmps157;go_wp2
 go_loop [3,11] (fun q i=>∃(j:Nat) (S:Int),j<=8/\i=.int .i64 j/\q=.int .i64 S/\(zs.take j).sum=S/\0<=S/\S<=2000/\∀i,i<j->0<=zs.getD i 0) (fun _ i=>8 - (intOf i).toNat)
 case atStart=>exact⟨0,0,Nat.zero_le _,rfl,rfl,rfl,by omega,by omega,fun _ h=>absurd h (Nat.not_lt_zero _)⟩
 case round=>
  obtain⟨j,S,hj,rfl,rfl,hS,S0,S1,hpos⟩:=hrel;have HS:=hd_ hS;have HP:=hd_ hpos;clear hS hpos
  by_cases hlt:j<8
  ·have hcell:=HC.out j hlt
   obtain⟨y,hy⟩:∃y,zs.getD j 0=y:=⟨_,rfl⟩
   rw[hy]at hcell;have HY:=hd_ hy;have hs:=sum_take_succ zs j (by rw[HL.out];exact hlt);rw[HS.out,hy]at hs;have HT:=hd_ hs;clear hy hs
   by_cases y0:y<0
   ·have bad:Hid (rowAllV zs= -1):=rowAllV_not (fun f=>by have:=f.2.1 j hlt;rw[HY.out]at this;omega)
    go_wp2;go_ret;exact⟨ret_int bad.out.symm,rfl⟩
   by_cases y1:2000 - S<y
   ·have bad:Hid (rowAllV zs= -1):=rowAllV_not (fun f=>by have:=sum_take_le f.bd.1 (j+1);rw[HT.out]at this;have:=f.2.2;omega)
    go_wp2;go_ret;exact⟨ret_int bad.out.symm,rfl⟩
   ·go_wp2
    go_round
    case rel=>exact⟨j+1,S+y,by omega,by go_num,rfl,HT.out,by omega,by omega,fun i hi=>by
          by_cases h:i<j
          · exact HP.out i h
          · obtain rfl:i=j:=by omega
            rw[HY.out];omega⟩
    case measure=>simp[intOf];omega
  ·obtain rfl:j=8:=by omega
   have good:Hid (rowAllV zs=S):=by
    have e:zs.sum=S:=by rw[<-HS.out,List.take_of_length_le (by rw[HL.out];exact Nat.le_refl _)]
    rw[<-e];exact rowAllV_fine ⟨HL.out,HP.out,by rw[e];exact S1⟩
   go_wp2;go_ret;exact⟨ret_int good.out.symm,rfl⟩
theorem rowAll_at (w:World) (v:Value) (zs:List Int) (h:Ints w v zs):
  Calls Tryz.prog 157 #[v] w fun e w'=>e=.returned (.int .i64 (rowAllV zs))/\w=w':=by
 obtain⟨⟨x,c,hx⟩,q⟩:=h.cases
 by_cases h8:zs.length=8
 ·rcases q with q|⟨b,o,c,rfl,hc⟩
  ·omega
  rw[h8]at hc ⊢;exact rowAll_eight b o c zs w h8 hc
 ·rw[rowAllV_not (fun f=>h8 f.1)]
  exact rowAll_len v x _ c w hx h8
theorem roughAll_len (u:Value) (x:Option Addr) (n c:Nat) (w:World) (hu:u=.slice x n c) (h:n≠3):
  Calls Tryz.prog 84 #[.agg #[u]] w fun e w'=>e=.returned (.int .i64 (-1))/\Below w.heap.size w w':=by
 subst hu;have hn:((n:Int)==3)=false:=by simp;omega
 go_enter Tryz.func84,Tryz.ntmps84;go_wp2;go_ret;exact⟨rfl,(Below.refl _ _).alloc lr_ _⟩
theorem roughAll_three (b o cap:Nat) (rs:List (List Int)) (w:World) (h3:rs.length=3) (hcap:3<=cap) (hb:b<w.heap.size)
  (hc:∀i,i<3->∃x,w.cell? ⟨b,o+i,none⟩=some x/\Ints w x (rs.getD i [])):
  Calls Tryz.prog 84 #[.agg #[.slice (some ⟨b,o,none⟩) 3 cap]] w fun e w'=>e=.returned (.int .i64 (allV rs))/\Below w.heap.size w w':=by
 have HV:=hd_ (allV_eq rs);have H3:=hd_ h3;obtain⟨x0,h0,i0⟩:=hc 0 (by omega);obtain⟨x1,h1,i1⟩:=hc 1 (by omega);obtain⟨x2,h2,i2⟩:=hc 2 (by omega);have hA:=(Below.refl w.heap.size w).alloc lr_ (.cells #[.slice (some ⟨b,o,none⟩) 3 cap] 36);have J0:=hd_ (rowAll_at _ x0 _ (i0.below hA lr_));have J1:=hd_ (rowAll_at _ x1 _ (i1.below hA lr_));have J2:=hd_ (rowAll_at _ x2 _ (i2.below hA lr_))
 have HA:=hd_ hA;obtain⟨⟨y0,c0,e0⟩,_⟩:=i0.cases;obtain⟨⟨y1,c1,e1⟩,_⟩:=i1.cases;obtain⟨⟨y2,c2,e2⟩,_⟩:=i2.cases;obtain⟨n0,m0⟩:∃n,n=(rs.getD 0 []).length:=⟨_,rfl⟩
 obtain⟨n1,m1⟩:∃n,n=(rs.getD 1 []).length:=⟨_,rfl⟩
 obtain⟨n2,m2⟩:∃n,n=(rs.getD 2 []).length:=⟨_,rfl⟩
 obtain⟨V0,v0⟩:∃n,n=rowAllV (rs.getD 0 []):=⟨_,rfl⟩
 obtain⟨V1,v1⟩:∃n,n=rowAllV (rs.getD 1 []):=⟨_,rfl⟩
 obtain⟨V2,v2⟩:∃n,n=rowAllV (rs.getD 2 []):=⟨_,rfl⟩
 rw[<-v0, <-v1, <-v2]at HV;rw[<-v0]at J0;rw[<-v1]at J1;rw[<-v2]at J2;rw[<-m0]at e0;rw[<-m1]at e1;rw[<-m2]at e2;subst e0 e1 e2;clear i0 i1 i2 hc hA m0 m1 m2 v0 v1 v2 h3;have cap1:¬cap=1:=by omega
 have cap1':(1:Int)<=(cap:Int):=by omega
 have cap3:(3:Int)<=(cap:Int):=by omega
 have h0':w.cell? ⟨b,o,none⟩=some (.slice y0 n0 c0):=h0;have h2':w.cell? ⟨b,o+1+1,none⟩=some (.slice y2 n2 c2):=h2;go_enter Tryz.func84,Tryz.ntmps84
 go_wp2_with fail
 refine J0.out.mono ?_;rintro e w1 ⟨rfl,rfl⟩
 go_wp2_with fail
 by_cases q1:V1=V0
 ·by_cases q2:V2=V0
  ·subst q1
   subst q2;have fin:=hd_ (HV.out.trans (if_pos ⟨H3.out,rfl,rfl⟩));refine wp_loop_rounds 3 ?_;rw[rounds_succ]
   go_wp2_with fail
   refine J1.out.mono ?_;rintro e w1 ⟨rfl,rfl⟩
   go_wp2_with fail
   rw[rounds_succ]
   go_wp2_with fail
   refine J2.out.mono ?_;rintro e w1 ⟨rfl,rfl⟩
   go_wp2_with fail
   rw[rounds_succ];go_wp2;go_ret;exact⟨ret_int fin.out.symm,HA.out⟩
  ·subst q1
   have fin:=hd_ (HV.out.trans (if_neg (fun h=>q2 h.2.2)));have q2':(V2==V1)=false:=by simpa using q2
   refine wp_loop_rounds 3 ?_;rw[rounds_succ]
   go_wp2_with fail
   refine J1.out.mono ?_;rintro e w1 ⟨rfl,rfl⟩
   go_wp2_with fail
   rw[rounds_succ]
   go_wp2_with fail
   refine J2.out.mono ?_;rintro e w1 ⟨rfl,rfl⟩;go_wp2;go_ret;exact⟨ret_int fin.out.symm,HA.out⟩
 ·have fin:=hd_ (HV.out.trans (if_neg (fun h=>q1 h.2.1)))
  have q1':(V1==V0)=false:=by simpa using q1
  refine wp_loop_rounds 1 ?_;rw[rounds_succ]
  go_wp2_with fail
  refine J1.out.mono ?_;rintro e w1 ⟨rfl,rfl⟩;go_wp2;go_ret;exact⟨ret_int fin.out.symm,HA.out⟩
theorem roughAll_at (w:World) (u:Value) (rs:List (List Int)) (h:Rws w u rs):
  Calls Tryz.prog 84 #[.agg #[u]] w fun e w'=>e=.returned (.int .i64 (allV rs))/\Below w.heap.size w w':=by
 have bad:rs.length≠3->allV rs= -1:=fun h=>by rw[allV_eq,if_neg (fun q=>h q.1)]
 rcases h with ⟨rfl,rfl⟩|⟨b,o,cap,rfl,hcap,_,hb,hc⟩
 ·rw[bad (by simp)]
  exact roughAll_len _ none 0 0 w rfl (by omega)
 ·by_cases h3:rs.length=3
  ·rw[h3]at hc hcap ⊢
   exact roughAll_three b o cap rs w h3 hcap hb hc
  ·rw[bad h3]
   exact roughAll_len _ _ _ _ w rfl h3
theorem allV_ok {rs:List (List Int)} (h:okB rs=true):0<=allV rs/\allV rs<=2000:=by
 obtain⟨_,hg⟩:=(okB_iff rs).1 h;have f:Fine (rs.getD 0 []):=⟨(hg 0 (by omega)).1,fun k hk=>((hg 0 (by omega)).2.1 k hk).1,(hg 0 (by omega)).2.2.2⟩
 unfold allV;rw[if_pos h];exact⟨f.bd.2.1,f.2.2⟩
theorem allV_not {rs:List (List Int)} (h:okB rs=false):allV rs= -1:=by unfold allV;rw[h];rfl
theorem imOk_at (w:World) (u:Value) (rs:List (List Int)) (h:Rws w u rs):
  Calls Tryz.prog 178 #[.agg #[u]] w fun e w'=>e=.returned (.bool (okB rs))/\Below w.heap.size w w':=by
 have hA:=(Below.refl w.heap.size w).alloc lr_ (.cells #[u] 36);have K:=hd_ (roughAll_at _ u rs (h.below hA lr_));obtain⟨⟨x,c,hx⟩,_⟩:=h.cases;have HA:=hd_ hA;obtain⟨n,hn⟩:∃n,n=rs.length:=⟨_,rfl⟩
 rw[<-hn]at hx;subst hx;clear h hA hn;cases hok:okB rs with
 |true=>
  have v0:=(allV_ok hok).1;obtain⟨V,hV⟩:∃V,V=allV rs:=⟨_,rfl⟩
  rw[<-hV]at K v0;clear hV hok;go_enter Tryz.func178,Tryz.ntmps178
  go_wp2_with (go_at_call 84;refine K.out.mono ?_;rintro e w1 ⟨rfl,hb1⟩)
  go_ret;exact⟨rfl,HA.out.trans (hb1.mono HA.out.size)⟩
 |false=>
  rw[allV_not hok]at K;clear hok;go_enter Tryz.func178,Tryz.ntmps178
  go_wp2_with (go_at_call 84;refine K.out.mono ?_;rintro e w1 ⟨rfl,hb1⟩)
  go_ret;exact⟨rfl,HA.out.trans (hb1.mono HA.out.size)⟩
end Go.Proofs.YtcblbdpdbggkbaaGreat
namespace Go.Proofs.YtcblbdpdbggkbaaGreat
open Go.RowKit Go.Sort
theorem ok_form {w:World} {u:Value} {rs:List (List Int)} (h:Rws w u rs) (hok:okB rs=true):
  ∃b o cap,u=.slice (some ⟨b,o,none⟩) 3 cap/\3<=cap/\b<w.heap.size/\
   ∀i,i<3->∃bi oi ci,w.cell? ⟨b,o+i,none⟩=some (.slice (some ⟨bi,oi,none⟩) 8 ci)/\bi<w.heap.size/\∀k,k<8->w.cell? ⟨bi,oi+k,none⟩=some (.int .i64 ((rs.getD i []).getD k 0)):=by
 obtain⟨h3,hg⟩:=(okB_iff rs).1 hok;rcases h with ⟨rfl,rfl⟩|⟨b,o,cap,rfl,hcap,_,hb,hc⟩
 ·simp at h3
 refine⟨b,o,cap,by rw[h3],by omega,hb,fun i hi=>?_⟩;obtain⟨x,hx,hi'⟩:=hc i (by omega);have g:=hg i hi;rcases hi' with ⟨_,h0⟩|⟨bi,oi,ci,rfl,_,_,hbi,hci⟩
 ·have:=g.1;rw[h0]at this;simp at this
 ·rw[g.1]at hx hci
  exact⟨bi,oi,ci,hx,hbi,hci⟩
def atV (rs:List (List Int)) (i:Nat) (t:Int):Int:=(rs.getD i []).getD (place i t).toNat 0
theorem place_nat (i t:Int):∃P:Nat,place i t=P/\P<8/\(place i t).toNat=P:=by
 have:=place_bd i t;exact⟨(place i t).toNat,by omega,by omega,rfl⟩
end Go.Proofs.YtcblbdpdbggkbaaGreat
namespace Go.Proofs.YtcblbdpdbggkbaaGreat
open Go.RowKit
def ahead (rs:List (List Int)):Nat->Nat
 | 0=>0
 |i+1=>ahead rs i+(rs.getD i []).length
end Go.Proofs.YtcblbdpdbggkbaaGreat
set_option linter.unusedVariables false
namespace Go.Proofs.YtcblbdpdbggkbaaGreat
open Go.RowKit
attribute [local go_sem ↓] Go.wp_at_zero Go.wp_at_succ
theorem three_blocks (w:World) (a b c:Obj):(((w.alloc a).alloc b).alloc c).heap[w.heap.size]? =some a/\(((w.alloc a).alloc b).alloc c).heap[w.heap.size+1]? =some b/\(((w.alloc a).alloc b).alloc c).heap[w.heap.size+2]? =some c:=by
 have e1:(w.alloc a).heap.size=w.heap.size+1:=by simp
 have e2:((w.alloc a).alloc b).heap.size=w.heap.size+2:=by simp
 have h1:=heap_alloc_new (w.alloc a) b;have h2:=heap_alloc_new ((w.alloc a).alloc b) c;rw[e1]at h1;rw[e2]at h2;exact⟨(heap_alloc_old _ _ (by omega)).trans ((heap_alloc_old _ _ (by omega)).trans (heap_alloc_new _ _)),(heap_alloc_old _ _ (by omega)).trans h1,h2⟩
end Go.Proofs.YtcblbdpdbggkbaaGreat
namespace Go.Proofs.YtcblbdpdbggkbaaGreat
open Go.RowKit Go.Sort
def addRow (rs:List (List Int)) (t n:Int) (i:Nat):List Int:=(rs.getD i []).set (place i t).toNat (atV rs i t+n)
def addV (rs:List (List Int)) (t n:Int):List (List Int):=[addRow rs t n 0,addRow rs t n 1,addRow rs t n 2]
def addB (rs:List (List Int)) (t n:Int):Bool:=okB rs&&decide (0<=t)&&decide (t<64)&&decide (0<=n)&&decide (n<=2000 - allV rs)
theorem addB_iff (rs:List (List Int)) (t n:Int):addB rs t n=true↔okB rs=true/\0<=t/\t<64/\0<=n/\n<=2000 - allV rs:=by
 simp[addB,and_assoc]
theorem addV_get (rs:List (List Int)) (t n:Int) (i:Nat) (hi:i<3):(addV rs t n).getD i []=addRow rs t n i:=by
 rcases (by omega:i=0\/i=1\/i=2)with rfl|rfl|rfl<;>rfl
theorem eq_three {rs qs:List (List Int)} (h:rs.length=3) (h':qs.length=3) (e:∀i,i<3->rs.getD i []=qs.getD i []):rs=qs:=by
 have:=eq_of_get (d:=[]) h h' e;simpa using this
theorem OwnR.hdrCell {w:World} {B g c n:Nat} {rs:List (List Int)} {G C:Nat->Nat} (h:OwnR w B (.slice (some ⟨g,0,none⟩) n c) rs G C) (hn:rs.length=n) (i:Nat) (hi:i<n):
  w.cell? ⟨g,i,none⟩=some (.slice (some ⟨G i,0,none⟩) (rs.getD i []).length (C i)):=by
 have hh:=h.hdr;rw[hn]at hh;have:=hh.cellAt i (by omega);rw[this,List.getElem?_map,List.getElem?_range hi]
 rfl
theorem OwnR.rowCell {w:World} {B:Nat} {u:Value} {rs:List (List Int)} {G C:Nat->Nat} (h:OwnR w B u rs G C) (i k:Nat) (hi:i<rs.length) (hk:k<(rs.getD i []).length):
  w.cell? ⟨G i,k,none⟩=some (.int .i64 ((rs.getD i []).getD k 0))/\w.frozen? ⟨G i,k,none⟩=false:=by
 have hr:=h.row i hi;exact⟨by rw[World.ownsRow.cellAt hr k (by omega),ints_get _ _ hk],World.ownsRow.frozenAt hr k⟩
end Go.Proofs.YtcblbdpdbggkbaaGreat
set_option linter.unusedVariables false
namespace Go.Proofs.YtcblbdpdbggkbaaGreat
open Go.RowKit Go.Sort
def addRows (x y:List Int):List Int:=(List.range 8).map fun k=>x.getD k 0+y.getD k 0
def joinV (ra rb:List (List Int)):List (List Int):=[addRows (ra.getD 0 []) (rb.getD 0 []),addRows (ra.getD 1 []) (rb.getD 1 []),addRows (ra.getD 2 []) (rb.getD 2 [])]
def joinB (ra rb:List (List Int)):Bool:=okB ra&&okB rb&&decide (allV ra+allV rb<=2000)
theorem joinB_iff (ra rb:List (List Int)):joinB ra rb=true↔okB ra=true/\okB rb=true/\allV ra+allV rb<=2000:=by simp[joinB,and_assoc]
theorem joinV_get (ra rb:List (List Int)) (i:Nat) (hi:i<3):(joinV ra rb).getD i []=addRows (ra.getD i []) (rb.getD i []):=by
 rcases (by omega:i=0\/i=1\/i=2)with rfl|rfl|rfl<;>rfl
theorem addRows_len (x y:List Int):(addRows x y).length=8:=by simp[addRows]
theorem addRows_get (x y:List Int) (k:Nat) (h:k<8):(addRows x y).getD k 0=x.getD k 0+y.getD k 0:=by
 simp only[addRows,List.getD_eq_getElem?_getD,List.getElem?_map,List.getElem?_range h,Option.map_some,Option.getD_some]
theorem allV_sum {rs:List (List Int)} (h:okB rs=true):(rs.getD 0 []).sum=allV rs:=(if_pos h).symm
theorem plus_at (a b:Int) (w:World) (h: -1000000<=a/\a<=1000000) (h': -1000000<=b/\b<=1000000):
  Calls Tryz.prog 285 #[.int .i64 a,.int .i64 b] w fun e w'=>e=.returned (.int .i64 (a+b))/\w=w':=by
 obtain⟨h1,h2⟩:=h;obtain⟨h3,h4⟩:=h';go_enter Tryz.func285,Tryz.ntmps285;go_wp2;go_ret;exact⟨rfl,rfl⟩
theorem joinedInt_at (w:World) (F:Value) (b o c b' o' c':Nat) (x y:List Int) (hF:F=.func (.func 285) #[] #[]) (hb:b<w.heap.size) (hb':b'<w.heap.size)
  (hx:∀k,k<8->(0<=x.getD k 0/\x.getD k 0<=2000)/\w.cell? ⟨b,o+k,none⟩=some (.int .i64 (x.getD k 0)))
  (hy:∀k,k<8->(0<=y.getD k 0/\y.getD k 0<=2000)/\w.cell? ⟨b',o'+k,none⟩=some (.int .i64 (y.getD k 0))):
  Calls Tryz.prog 284 #[.slice (some ⟨b,o,none⟩) 8 c,.slice (some ⟨b',o',none⟩) 8 c',F] w fun e w'=>
   e=.returned (.slice (some ⟨w.heap.size,0,none⟩) 8 8)/\w'.ownsRow w.heap.size 3 1 (.slice (some ⟨w.heap.size,0,none⟩) 8 8) 8 (ints (addRows x y))/\Below w.heap.size w w':=by
 have m8:=make8;have HX:=hd_ hx;have HY:=hd_ hy;subst hF;clear hx hy;go_enter Tryz.func284,Tryz.ntmps284;go_wp2;go_loopw [14] (fun i wr=>∃(m:Nat) (zs:List Int),m<=8/\i=.int .i64 m/\zs.length=8/\(∀p,p<8->zs.getD p 0=if p<m then x.getD p 0+y.getD p 0 else 0)/\
      wr.ownsRow w.heap.size 3 1 (.slice (some ⟨w.heap.size,0,none⟩) 8 8) 8 (ints zs)/\Below w.heap.size w wr/\w.heap.size<wr.heap.size) (fun i _=>8 - (intOf i).toNat)
 case atStart=>
  have h0:=make_own w w.heap.size zeros lr_ (by simp[zeros,maxLen]);refine⟨0,zeros,Nat.zero_le _,rfl,rfl,fun p hp=>?_,h0,(Below.refl _ _).alloc lr_ _,by simp⟩;rcases (by omega:p=0\/p=1\/p=2\/p=3\/p=4\/p=5\/p=6\/p=7)with rfl|rfl|rfl|rfl|rfl|rfl|rfl|rfl<;>rfl
 case round=>
  obtain⟨m,zs,hm,rfl,hl,hz,hown,hbl,hlt⟩:=hrel;have HL:=hd_ hl;have HZ:=hd_ hz;have HO:=hd_ hown;have HB:=hd_ hbl;clear hl hz hown hbl
  by_cases hmt:m<8
  ·obtain⟨⟨x0,x1⟩,xc⟩:=HX.out m hmt
   obtain⟨⟨y0,y1⟩,yc⟩:=HY.out m hmt;rw[<-HB.out.cell (p:=⟨b,o+m,none⟩) hb]at xc;rw[<-HB.out.cell (p:=⟨b',o'+m,none⟩) hb']at yc;obtain⟨v,hc⟩:∃v,wr.cell? ⟨w.heap.size,m,none⟩=some v:=by
    rw[HO.out.cellAt m (by omega)];exact⟨_,ints_get _ _ (by rw[HL.out];exact hmt)⟩
   have hf:=HO.out.frozenAt m;obtain⟨a,hA⟩:∃a,a=x.getD m 0:=⟨_,rfl⟩
   obtain⟨d,hD⟩:∃a,a=y.getD m 0:=⟨_,rfl⟩
   rw[<-hA]at xc x0 x1;rw[<-hD]at yc y0 y1;have KP:Hid (∀W,Calls Tryz.prog 285 #[.int .i64 a,.int .i64 d] W fun e w'=>e=.returned (.int .i64 (a+d))/\Below W.heap.size W w'):=fun W=>
    (plus_at a d W (by omega) (by omega)).mono fun _ _ ⟨he,hw⟩=>⟨he,by subst hw;exact Below.refl _ _⟩
   have hst:∀w4:World,Below wr.heap.size wr w4->∃zs',zs'.length=8/\(∀p,p<8->zs'.getD p 0=if p<m+1 then x.getD p 0+y.getD p 0 else 0)/\
     (w4.setCell ⟨w.heap.size,m,none⟩ (.int .i64 (a+d))).ownsRow w.heap.size 3 1 (.slice (some ⟨w.heap.size,0,none⟩) 8 8) 8 (ints zs'):=fun w4 hw4=>by
    have h1:=HO.out.kept (grownBy_below (row:=none) hw4) (.inr (by simp[Value.ownBlock]));have h2:=(h1.stored m (.int .i64 (a+d))).1;refine⟨zs.set m (a+d),by simpa using HL.out,fun p hp=>?_,by simpa[ints,List.map_set]using h2⟩
    by_cases e:p=m
    ·subst e
     rw[if_pos (by omega),hA,hD,List.getD_eq_getElem?_getD,List.getElem?_set_self (by rw[HL.out];exact hp)]
     rfl
    ·have e1:(zs.set m (a+d)).getD p 0=zs.getD p 0:=by simp[Ne.symm e]
     rw[e1,HZ.out p hp]
     by_cases e2:p<m
     ·rw[if_pos e2,if_pos (by omega)]
     ·rw[if_neg e2,if_neg (by omega)]
   have HST:=hd_ hst;have rb1:=cell_regrown xc;have rb2:=cell_regrown yc;have m0:(0:Int)<=(m:Int):=by omega
   have m8':(m:Int)<8:=by omega
   clear hst hA hD;go_wp2;refine wp_region_last (C:=fun w'=>∃p:Regrown,w'=grow (redrawn wr p.d) p.os) 13 _ rfl rfl rfl (by kernel_rfl) (by kernel_rfl) (by kernel_rfl) (by kernel_rfl) (by kernel_rfl) ⟨⟨wr.drawn+1,#[]⟩,by rw[grow_empty];rfl⟩ ?_;simp only[List.take_succ_cons,List.take_zero]
   repeat (refine boxed_step (fun K hK=>?_);go_simp;first|(refine hK _ ?_;clear hK K)|(apply Exists.intro;refine⟨fun _=>?_,hK _ ?_⟩;(with_reducible exact Calls.regrown_of (KP.out _));clear hK K))
   refine boxed_nil ?_;intro _ hw';obtain⟨⟨dq,oq⟩,hw''⟩:=hw';subst hw'';have hb_w4:=below_regrown wr dq oq;obtain⟨w4,hq_w4⟩:∃x,x=grow (redrawn wr dq) oq:=⟨_,rfl⟩
   rw[<-hq_w4]at hb_w4 ⊢;clear hq_w4;have d1:=cell_later hb_w4 hc;have d2:w4.frozen? ⟨w.heap.size,m,none⟩=false:=by rw[hb_w4.frozen (p:=⟨w.heap.size,m,none⟩) hlt];exact hf
   have HB4:=hd_ hb_w4;clear hb_w4 rb1 rb2 hc xc yc;go_wp2;go_roundw
   case rel=>
    obtain⟨zs',q1,q2,q3⟩:=HST.out w4 HB4.out;exact⟨m+1,zs',by omega,by go_num,q1,q2,q3,(HB.out.trans (HB4.out.mono HB.out.size)).setCell lr_ _,by have:=HB4.out.size;simp;omega⟩
   case measure=>simp[intOf];omega
  ·obtain rfl:m=8:=by omega
   have fin:Hid (zs=addRows x y):=by
    have:=eq_of_get (d:=0) HL.out (addRows_len x y) (fun p hp=>by rw[HZ.out p hp,if_pos hp,addRows_get _ _ _ hp]);exact (of_decide_eq_true this:zs=addRows x y)
   go_wp2;go_ret;have ho:=HO.out;rw[fin.out]at ho;exact⟨rfl,ho,HB.out⟩
theorem rowsJoined_at (w:World) (b o c b' o' c':Nat) (x y:List Int) (hb:b<w.heap.size) (hb':b'<w.heap.size)
  (hx:∀k,k<8->(0<=x.getD k 0/\x.getD k 0<=2000)/\w.cell? ⟨b,o+k,none⟩=some (.int .i64 (x.getD k 0)))
  (hy:∀k,k<8->(0<=y.getD k 0/\y.getD k 0<=2000)/\w.cell? ⟨b',o'+k,none⟩=some (.int .i64 (y.getD k 0))):
  Calls Tryz.prog 248 #[.slice (some ⟨b,o,none⟩) 8 c,.slice (some ⟨b',o',none⟩) 8 c'] w fun e w'=>
   e=.returned (.slice (some ⟨w.heap.size,0,none⟩) 8 8)/\w'.ownsRow w.heap.size 3 1 (.slice (some ⟨w.heap.size,0,none⟩) 8 8) 8 (ints (addRows x y))/\Below w.heap.size w w':=by
 have K:=hd_ (joinedInt_at w _ b o c b' o' c' x y rfl hb hb' hx hy);clear hx hy;go_enter Tryz.func248,Tryz.ntmps248
 go_wp2_with fail
 refine K.out.mono ?_;rintro e w1 ⟨rfl,ho,hb1⟩;go_wp2;go_ret;exact⟨rfl,ho,hb1⟩
structure Rowed (w:World) (L:Nat) (ra rb:List (List Int)) (m:Nat) (G:Nat->Nat):Prop where
 hdr:∃cur,w.heap[L]? =some (.cells cur 23 (0,0))/\cur.size=3/\∀j,j<m->cur[j]? =some (.slice (some ⟨G j,0,none⟩) 8 8)
 row:∀j,j<m->w.ownsRow (L+1) 3 1 (.slice (some ⟨G j,0,none⟩) 8 8) 8 (ints (addRows (ra.getD j []) (rb.getD j [])))
 apart:∀i j,i<m->j<m->i≠j->G i≠G j
theorem Rowed.own {w:World} {L:Nat} {ra rb:List (List Int)} {G:Nat->Nat} (h:Rowed w L ra rb 3 G):OwnR w L (.slice (some ⟨L,0,none⟩) 3 3) (joinV ra rb) G (fun _=>8):=by
 obtain⟨cur,h1,h2,h3⟩:=h.hdr;have l8:∀i,i<3->((joinV ra rb).getD i []).length=8:=fun i hi=>by rw[joinV_get _ _ _ hi,addRows_len]
 refine⟨⟨by simp[joinV],.inr ⟨L,3,cur,rfl,Nat.le_refl _,h1,by simp[joinV],by simp[maxLen],by simpa using h2,?_⟩⟩,fun i hi=>?_,fun i hi=>?_,fun i j hi hj=>h.apart i j hi hj⟩
 ·apply List.ext_getElem?
  intro i
  by_cases hi:i<3
  ·have e:rowV (joinV ra rb) G (fun _=>8) i=.slice (some ⟨G i,0,none⟩) 8 8:=by unfold rowV;rw[l8 i hi]
   rw[List.getElem?_map,List.getElem?_range (by simpa[joinV]using hi),List.getElem?_take,if_pos (by simp[joinV];omega)];simp only[Array.getElem?_toList,Option.map_some,e];exact h3 i hi
  ·rw[List.getElem?_eq_none (by simp[joinV];omega),List.getElem?_eq_none (by simp[joinV];omega)]
 ·have hi':i<3:=by simpa[joinV]using hi
  have e:rowV (joinV ra rb) G (fun _=>8) i=.slice (some ⟨G i,0,none⟩) 8 8:=by unfold rowV;rw[l8 i hi']
  rw[e,l8 i hi',joinV_get _ _ _ hi'];exact ownsRow_base (h.row i hi') (by omega)
 ·have hi':i<3:=by simpa[joinV]using hi
  have:=((h.row i hi').lt (G i) rfl).1;simp[Value.ownBlock];omega
theorem Rowed.step {w w1:World} {L m g:Nat} {ra rb:List (List Int)} {G:Nat->Nat} (h:Rowed w L ra rb m G) (hm:m<3) (hb:Below w.heap.size w w1) (hg:w.heap.size<=g) (hL:L<w.heap.size)
  (ho:w1.ownsRow (L+1) 3 1 (.slice (some ⟨g,0,none⟩) 8 8) 8 (ints (addRows (ra.getD m []) (rb.getD m [])))):
  Rowed (w1.setCell ⟨L,m,none⟩ (.slice (some ⟨g,0,none⟩) 8 8)) L ra rb (m+1) (fun j=>if j<m then G j else g):=by
 obtain⟨cur,h1,h2,h3⟩:=h.hdr;have h1':w1.heap[L]? =some (.cells cur 23 (0,0)):=by rw[hb.block L hL];exact h1
 have lt:∀j,j<m->G j<w.heap.size/\L+1<=G j:=fun j hj=>by have:=(h.row j hj).lt (G j) rfl;exact⟨this.2,this.1⟩
 have hgs:=grownBy_setCell w1 ⟨L,m,none⟩ (.slice (some ⟨g,0,none⟩) 8 8);refine⟨⟨_,heap_setCell_same w1 L m cur _ _ h1',by simpa using h2,fun j hj=>?_⟩,fun j hj=>?_,fun i j hi hj hij=>?_⟩
 ·rw[Array.getElem?_setIfInBounds]
  by_cases e:j<m
  ·rw[if_neg (by omega),if_pos e];exact h3 j e
  ·obtain rfl:j=m:=by omega
   rw[if_pos rfl,if_pos (by omega),if_neg (by omega)]
 ·by_cases e:j<m
  ·simp only[if_pos e]
   have:=(h.row j e).kept (grownBy_below (row:=none) hb) (.inr (by simp[Value.ownBlock]));exact this.kept hgs (.inr (by have:=(lt j e).2;simp[Value.ownBlock];omega))
  ·obtain rfl:j=m:=by omega
   simp only[if_neg e];exact ho.kept hgs (.inr (by simp[Value.ownBlock];omega))
 ·show (if i<m then G i else g)≠(if j<m then G j else g)
  by_cases e1:i<m<;>by_cases e2:j<m
  ·rw[if_pos e1,if_pos e2];exact h.apart i j e1 e2 hij
  ·rw[if_pos e1,if_neg e2];have:=(lt i e1).1;omega
  ·rw[if_neg e1,if_pos e2];have:=(lt j e2).1;omega
  ·omega
theorem later_free {w w':World} {b i:Nat} (hb:Below w.heap.size w.drew w') (h:w.frozen? ⟨b,i,none⟩=false) (hl:b<w.heap.size):w'.frozen? ⟨b,i,none⟩=false:=by
 rw[hb.frozen (p:=⟨b,i,none⟩) hl];exact h
theorem below_of_drew {w w':World} {B:Nat} (hb:Below B w.drew w'):Below B w w':=⟨hb.os,hb.tape,hb.output,hb.size,hb.block⟩
theorem joinedRows_at (w:World) (F:Value) (b o c b' o' c':Nat) (ra rb:List (List Int)) (hF:F=.func (.func 248) #[] #[]) (hb:b<w.heap.size) (hb':b'<w.heap.size)
  (ha:∀i,i<3->∃bi oi ci,w.cell? ⟨b,o+i,none⟩=some (.slice (some ⟨bi,oi,none⟩) 8 ci)/\bi<w.heap.size/\∀k,k<8->w.cell? ⟨bi,oi+k,none⟩=some (.int .i64 ((ra.getD i []).getD k 0)))
  (hr:∀i,i<3->∃bi oi ci,w.cell? ⟨b',o'+i,none⟩=some (.slice (some ⟨bi,oi,none⟩) 8 ci)/\bi<w.heap.size/\∀k,k<8->w.cell? ⟨bi,oi+k,none⟩=some (.int .i64 ((rb.getD i []).getD k 0)))
  (ga:∀i,i<3->∀k,k<8->0<=(ra.getD i []).getD k 0/\(ra.getD i []).getD k 0<=2000) (gb:∀i,i<3->∀k,k<8->0<=(rb.getD i []).getD k 0/\(rb.getD i []).getD k 0<=2000):
  Calls Tryz.prog 247 #[.slice (some ⟨b,o,none⟩) 3 c,.slice (some ⟨b',o',none⟩) 3 c',F] w fun e w'=>
   ∃G,e=.returned (.slice (some ⟨w.heap.size,0,none⟩) 3 3)/\OwnR w' w.heap.size (.slice (some ⟨w.heap.size,0,none⟩) 3 3) (joinV ra rb) G (fun _=>8)/\Below w.heap.size w w':=by
 have m3:=make3;have HA:=hd_ ha;have HR:=hd_ hr;have GA:=hd_ ga;have GB:=hd_ gb;subst hF;clear ha hr ga gb;go_enter Tryz.func247,Tryz.ntmps247;go_wp2;go_loopw [14] (fun i wr=>∃(m:Nat) (G:Nat->Nat),m<=3/\i=.int .i64 m/\Rowed wr w.heap.size ra rb m G/\Below w.heap.size w wr/\w.heap.size<wr.heap.size) (fun i _=>3 - (intOf i).toNat)
 case atStart=>
  exact⟨0,fun _=>0,Nat.zero_le _,rfl,⟨⟨_,heap_alloc_new w _,rfl,fun j h=>absurd h (Nat.not_lt_zero j)⟩,fun j h=>absurd h (Nat.not_lt_zero j),fun i j h=>absurd h (Nat.not_lt_zero i)⟩,(Below.refl _ _).alloc lr_ _,by simp⟩
 case round=>
  obtain⟨m,G,hm,rfl,hrow,hbl,hlt⟩:=hrel;have HW:=hd_ hrow;have HB:=hd_ hbl;clear hrow hbl
  by_cases hmt:m<3
  ·obtain⟨b1,o1,c1,e1,l1,r1⟩:=HA.out m hmt
   obtain⟨b2,o2,c2,e2,l2,r2⟩:=HR.out m hmt;rw[<-HB.out.cell (p:=⟨b,o+m,none⟩) hb]at e1;rw[<-HB.out.cell (p:=⟨b',o'+m,none⟩) hb']at e2;have KC:Hid (Calls Tryz.prog 248 #[.slice (some ⟨b1,o1,none⟩) 8 c1,.slice (some ⟨b2,o2,none⟩) 8 c2] wr.drew fun e w'=>
          e=.returned (.slice (some ⟨wr.heap.size,0,none⟩) 8 8)/\w'.ownsRow wr.heap.size 3 1 (.slice (some ⟨wr.heap.size,0,none⟩) 8 8) 8 (ints (addRows (ra.getD m []) (rb.getD m [])))/\Below wr.heap.size wr.drew w'):=
    rowsJoined_at wr.drew b1 o1 c1 b2 o2 c2 _ _ (by have:=HB.out.size;simp;omega) (by have:=HB.out.size;simp;omega)
     (fun k hk=>⟨GA.out m hmt k hk,by rw[World.cell?_drew,HB.out.cell (p:=⟨b1,o1+k,none⟩) l1];exact r1 k hk⟩)
     (fun k hk=>⟨GB.out m hmt k hk,by rw[World.cell?_drew,HB.out.cell (p:=⟨b2,o2+k,none⟩) l2];exact r2 k hk⟩)
   obtain⟨v,hc,hf⟩:∃v,wr.cell? ⟨w.heap.size,m,none⟩=some v/\wr.frozen? ⟨w.heap.size,m,none⟩=false:=by
    obtain⟨cur,h1,h2,_⟩:=HW.out.hdr;refine⟨cur[m]'(by omega),?_,by simp[World.frozen?,h1]⟩;simp[World.cell?,h1,show m<cur.size by omega]
   have m0:(0:Int)<=(m:Int):=by omega
   have m3':(m:Int)<3:=by omega
   clear r1 r2;go_wp2
   go_region_with (go_at_call 248;refine KC.out.mono ?_;rintro e w4 ⟨rfl,ho,hb4⟩;have d1:=cell_later (below_of_drew hb4) hc;have d2:=later_free hb4 hf hlt;have HO4:=hd_ ho;have HB4:=hd_ hb4;clear ho hb4)
   all_goals
    have hs:=HW.out.step hmt (below_of_drew HB4.out) lr_ hlt (ownsRow_base HO4.out (by omega));have HS:=hd_ hs;clear hs;go_wp2;go_roundw
    case rel=>exact⟨m+1,_,by omega,by go_num,HS.out,(HB.out.trans ((below_of_drew HB4.out).mono HB.out.size)).setCell lr_ _,by have:=HB4.out.size;simp at this ⊢;omega⟩
    case measure=>simp[intOf];omega
  ·obtain rfl:m=3:=by omega
   go_wp2;go_ret;exact⟨G,rfl,HW.out.own,HB.out⟩
theorem roughAll_regrown (w:World) (u:Value) (rs:List (List Int)) (h:Rws w u rs) (d:Nat) (os:Array Obj):
  Calls Tryz.prog 84 #[.agg #[u]] (grow (redrawn w d) os) fun e w''=>e=.returned (.int .i64 (allV rs))/\∃p:Regrown,w''=grow (redrawn w p.d) p.os:=
 Calls.regrown_of (roughAll_at _ u rs (h.below (below_regrown w d os) lr_))
theorem joinB_all (ra rb:List (List Int)):joinB ra rb=true↔0<=allV ra/\0<=allV rb/\allV ra+allV rb<=2000:=by
 rw[joinB_iff]
 constructor
 ·rintro⟨h1,h2,h3⟩
  exact⟨(allV_ok h1).1,(allV_ok h2).1,h3⟩
 ·rintro⟨h1,h2,h3⟩
  refine⟨?_,?_,h3⟩
  ·cases h:okB ra with
   |true=>rfl
   |false=>rw[allV_not h]at h1;omega
  ·cases h:okB rb with
   |true=>rfl
   |false=>rw[allV_not h]at h2;omega
theorem allV_bd (rs:List (List Int)): -1<=allV rs/\allV rs<=2000:=by
 cases h:okB rs with
 |true=>have:=allV_ok h;omega
 |false=>rw[allV_not h];omega
theorem imJoin_no (w:World) (u v:Value) (ra rb:List (List Int)) (ha:Rws w u ra) (hb:Rws w v rb) (hno:joinB ra rb=false):
  Calls Tryz.prog 195 #[.agg #[u],.agg #[v]] w fun e w'=>e=.returned (.tuple #[.agg #[.slice none 0 0],.bool false])/\Below w.heap.size w w':=by
 obtain⟨w0,hw0⟩:∃x,x=((w.alloc (.cells #[u] 36)).alloc (.cells #[v] 36)).alloc (.cells #[.slice none 0 0] 36):=⟨_,rfl⟩
 have hA:Below w.heap.size w w0:=by rw[hw0];exact (((Below.refl w.heap.size w).alloc lr_ _).alloc (by simp) _).alloc (by simp;omega) _
 have tb:=three_blocks w (.cells #[u] 36) (.cells #[v] 36) (.cells #[.slice none 0 0] 36);rw[<-hw0]at tb;obtain⟨ca,_,la⟩:=cell_block tb.1;obtain⟨cb,_,lb⟩:=cell_block tb.2.1;obtain⟨cr,fr,lr⟩:=cell_block tb.2.2;have KA:=hd_ (roughAll_regrown w0 u ra (ha.below hA lr_));have KB:=hd_ (roughAll_regrown w0 v rb (hb.below hA lr_));have HA:=hd_ hA
 have hcase:allV ra<0\/(¬allV ra<0/\allV rb<0)\/(¬allV ra<0/\¬allV rb<0/\2000<allV ra+allV rb):=by
  apply Classical.byContradiction;intro hh;have:=(joinB_all ra rb).2 (by omega);rw[this]at hno;cases hno
 have b1:=allV_bd ra;have b2:=allV_bd rb;obtain⟨⟨x,c,hx⟩,_⟩:=ha.cases;obtain⟨⟨y,d,hy⟩,_⟩:=hb.cases;obtain⟨n,hn⟩:∃n,n=ra.length:=⟨_,rfl⟩
 obtain⟨m,hm⟩:∃n,n=rb.length:=⟨_,rfl⟩
 rw[<-hn]at hx;rw[<-hm]at hy;subst hx hy;generalize allV ra=Sa at *;generalize allV rb=Sb at *;clear ha hb hn hm hno hA tb;have ra':=cell_regrown ca;have rb':=cell_regrown cb;go_enter Tryz.func195,Tryz.ntmps195;go_wp2;rw[<-hw0];clear hw0;refine boxed_region (by kernel_rfl) (by kernel_rfl) ?_
 repeat (refine boxed_step (fun K hK=>?_);go_simp;first|(refine hK _ ?_;clear hK K)|(apply Exists.intro;refine⟨fun _=>?_,hK _ ?_⟩;(first|(with_reducible exact KA.out _ _)|(with_reducible exact KB.out _ _));clear hK K))
 refine boxed_nil ?_;intro _ hw';obtain⟨⟨dq,oq⟩,hw''⟩:=hw';subst hw'';have hb_w1:=below_regrown w0 dq oq;obtain⟨w1,hq_w1⟩:∃x,x=grow (redrawn w0 dq) oq:=⟨_,rfl⟩
 rw[<-hq_w1]at hb_w1 ⊢;clear hq_w1;have cr1:=cell_later hb_w1 cr;have fr1:w1.frozen? ⟨w.heap.size+2,0,none⟩=false:=by rw[hb_w1.frozen (p:=⟨w.heap.size+2,0,none⟩) lr];exact fr
 have L1:=hd_ (HA.out.trans (hb_w1.mono HA.out.size));clear hb_w1 ra' rb';have hr:=hd_ (World.cell?_setCell_same w1 ⟨w.heap.size+2,0,none⟩ (.slice none 0 0) cr1);rcases hcase with h|⟨h,h2⟩|⟨h,h2,h3⟩
 all_goals
  go_wp2;have hr:=hr.out;exact bodyPost_ret (v:=.tuple #[.agg #[.slice none 0 0],.bool false]) (by simp[results,Tryz.results195,go_sem,hr]) rfl ⟨rfl,L1.out.setCell (by simp;omega) _⟩
theorem imJoin_yes (w:World) (u v:Value) (ra rb:List (List Int)) (ha:Rws w u ra) (hb:Rws w v rb) (hyes:joinB ra rb=true):
  Calls Tryz.prog 195 #[.agg #[u],.agg #[v]] w fun e w'=>∃x c G C,e=.returned (.tuple #[.agg #[.slice x 3 c],.bool true])/\OwnR w' w.heap.size (.slice x 3 c) (joinV ra rb) G C/\Below w.heap.size w w':=by
 obtain⟨hoka,hokb,_⟩:=(joinB_iff ra rb).1 hyes;obtain⟨h1,h2,h3⟩:=(joinB_all ra rb).1 hyes;obtain⟨w0,hw0⟩:∃x,x=((w.alloc (.cells #[u] 36)).alloc (.cells #[v] 36)).alloc (.cells #[.slice none 0 0] 36):=⟨_,rfl⟩
 have hA:Below w.heap.size w w0:=by rw[hw0];exact (((Below.refl w.heap.size w).alloc lr_ _).alloc (by simp) _).alloc (by simp;omega) _
 have tb:=three_blocks w (.cells #[u] 36) (.cells #[v] 36) (.cells #[.slice none 0 0] 36);rw[<-hw0]at tb;obtain⟨ca,_,la⟩:=cell_block tb.1;obtain⟨cb,_,lb⟩:=cell_block tb.2.1;obtain⟨cr,fr,lr⟩:=cell_block tb.2.2;have KA:=hd_ (roughAll_regrown w0 u ra (ha.below hA lr_));have KB:=hd_ (roughAll_regrown w0 v rb (hb.below hA lr_));have HA:=hd_ hA;obtain⟨_,hga⟩:=(okB_iff ra).1 hoka
 obtain⟨_,hgb⟩:=(okB_iff rb).1 hokb;obtain⟨ba,oa,ka,rfl,_,hba,hrowa⟩:=ok_form ha hoka;obtain⟨bb,ob,kb,rfl,_,hbb,hrowb⟩:=ok_form hb hokb;have GA:=hd_ (fun (i:Nat) (hi:i<3)=>(hga i hi).2.1);have GB:=hd_ (fun (i:Nat) (hi:i<3)=>(hgb i hi).2.1);have RA:=hd_ hrowa;have RB:=hd_ hrowb;have n1:¬allV ra<0:=by omega
 have n2:¬allV rb<0:=by omega
 have n3:¬ 2000<allV ra+allV rb:=by omega
 generalize allV ra=Sa at *;generalize allV rb=Sb at *;clear ha hb hyes hA tb hrowa hrowb hga hgb hoka hokb h1 h2 h3;have ra':=cell_regrown ca;have rb':=cell_regrown cb;go_enter Tryz.func195,Tryz.ntmps195;go_wp2;rw[<-hw0];clear hw0;refine boxed_region (by kernel_rfl) (by kernel_rfl) ?_
 repeat (refine boxed_step (fun K hK=>?_);go_simp;first|(refine hK _ ?_;clear hK K)|(apply Exists.intro;refine⟨fun _=>?_,hK _ ?_⟩;(first|(with_reducible exact KA.out _ _)|(with_reducible exact KB.out _ _));clear hK K))
 refine boxed_nil ?_;intro _ hw';obtain⟨⟨dq,oq⟩,hw''⟩:=hw';subst hw'';have hb_w1:=below_regrown w0 dq oq;obtain⟨w1,hq_w1⟩:∃x,x=grow (redrawn w0 dq) oq:=⟨_,rfl⟩
 rw[<-hq_w1]at hb_w1 ⊢;clear hq_w1;have ca1:=cell_later hb_w1 ca;have cb1:=cell_later hb_w1 cb;have cr1:=cell_later hb_w1 cr;have fr1:w1.frozen? ⟨w.heap.size+2,0,none⟩=false:=by rw[hb_w1.frozen (p:=⟨w.heap.size+2,0,none⟩) lr];exact fr
 have hL:=HA.out.trans (hb_w1.mono HA.out.size);have sz:=hb_w1.size;have KJ:=hd_ (joinedRows_at w1 _ ba oa ka bb ob kb ra rb rfl (by have:=hL.size;omega) (by have:=hL.size;omega)
    (fun i hi=>by
      obtain⟨bi,oi,ci,e,l,r⟩:=RA.out i hi
      exact⟨bi,oi,ci,by rw[hL.cell (p:=⟨ba,oa+i,none⟩) hba];exact e,Nat.lt_of_lt_of_le l hL.size,fun k hk=>by rw[hL.cell (p:=⟨bi,oi+k,none⟩) l];exact r k hk⟩)
    (fun i hi=>by
      obtain⟨bi,oi,ci,e,l,r⟩:=RB.out i hi
      exact⟨bi,oi,ci,by rw[hL.cell (p:=⟨bb,ob+i,none⟩) hbb];exact e,Nat.lt_of_lt_of_le l hL.size,fun k hk=>by rw[hL.cell (p:=⟨bi,oi+k,none⟩) l];exact r k hk⟩) GA.out GB.out)
 have L1:=hd_ hL;clear hb_w1 ra' rb' hL ca cb cr fr
 go_wp2_with fail
 refine KJ.out.mono ?_;rintro e w2 ⟨G,rfl,ho,hb2⟩;have cr2:=cell_later hb2 cr1;have fr2:w2.frozen? ⟨w.heap.size+2,0,none⟩=false:=by rw[hb2.frozen (p:=⟨w.heap.size+2,0,none⟩) (by simp;omega)];exact fr1
 have hw:=ho.grown (grownBy_setCell w2 ⟨w.heap.size+2,0,none⟩ (.slice (some ⟨w1.heap.size,0,none⟩) 3 3)) (fun k e=>by simp at e;omega);have H1:=hd_ hw;have L2:=hd_ (L1.out.trans (hb2.mono L1.out.size));clear ho hb2 hw;go_wp2;have hr:=World.cell?_setCell_same w2 ⟨w.heap.size+2,0,none⟩ (.slice (some ⟨w1.heap.size,0,none⟩) 3 3) cr2
 exact bodyPost_ret (v:=.tuple #[.agg #[.slice (some ⟨w1.heap.size,0,none⟩) 3 3],.bool true]) (by simp[results,Tryz.results195,go_sem,hr]) rfl
  ⟨_,_,G,_,rfl,H1.out.base L1.out.size,L2.out.setCell (by simp;omega) _⟩
def oneRow (t n:Int) (i:Nat):List Int:=zeros.set (place i t).toNat n
def oneV (t n:Int):List (List Int):=[oneRow t n 0,oneRow t n 1,oneRow t n 2]
theorem oneV_get (t n:Int) (i:Nat) (hi:i<3):(oneV t n).getD i []=oneRow t n i:=by
 rcases (by omega:i=0\/i=1\/i=2)with rfl|rfl|rfl<;>rfl
theorem oneRow_len (t n:Int) (i:Nat):(oneRow t n i).length=8:=by simp[oneRow,zeros]
theorem zeros_get (k:Nat):zeros.getD k 0=0:=by
 by_cases h:k<8
 ·rcases (by omega:k=0\/k=1\/k=2\/k=3\/k=4\/k=5\/k=6\/k=7)with rfl|rfl|rfl|rfl|rfl|rfl|rfl|rfl<;>rfl
 ·rw[List.getD_eq_getElem?_getD,List.getElem?_eq_none (by simp[zeros];omega)];rfl
theorem set_get (zs:List Int) (p k:Nat) (n:Int) (hp:p<zs.length):(zs.set p n).getD k 0=if k=p then n else zs.getD k 0:=by
 by_cases h:k=p
 ·subst h
  rw[if_pos rfl,List.getD_eq_getElem?_getD,List.getElem?_set_self hp];rfl
 ·rw[if_neg h]
  simp[Ne.symm h]
theorem one_sum (p:Nat) (hp:p<8) (n:Int):(zeros.set p n).sum=n:=by
 rcases (by omega:p=0\/p=1\/p=2\/p=3\/p=4\/p=5\/p=6\/p=7)with rfl|rfl|rfl|rfl|rfl|rfl|rfl|rfl<;>simp[zeros]
theorem oneRow_sum (t n:Int) (i:Nat):(oneRow t n i).sum=n:=by
 obtain⟨P,_,hP,e⟩:=place_nat i t;unfold oneRow;rw[e];exact one_sum P hP n
theorem oneRow_get (t n:Int) (i k:Nat):(oneRow t n i).getD k 0=if k=(place i t).toNat then n else 0:=by
 obtain⟨P,_,hP,e⟩:=place_nat i t;unfold oneRow;rw[e,set_get _ _ _ _ (by simpa[zeros]using hP),zeros_get]
theorem oneV_ok (t n:Int) (h:0<=n/\n<=2000):okB (oneV t n)=true:=by
 rw[okB_iff];refine⟨rfl,fun i hi=>?_⟩;unfold Good;rw[oneV_get _ _ _ hi,oneV_get _ _ 0 (by omega),oneRow_sum,oneRow_sum];refine⟨oneRow_len _ _ _,fun k _=>?_,rfl,h.2⟩;rw[oneRow_get]
 split<;>omega
theorem oneV_all (t n:Int) (h:0<=n/\n<=2000):allV (oneV t n)=n:=by
 rw[<-allV_sum (oneV_ok t n h),oneV_get _ _ 0 (by omega),oneRow_sum]
theorem oneV_bad (t n:Int) (h:n<0\/2000<n):okB (oneV t n)=false:=by
 refine okB_false (.inr ⟨0,by omega,fun g=>?_⟩);have h1:=g.2.1;have h2:=g.2.2.2;rw[oneV_get _ _ 0 (by omega)]at h1 h2;rw[oneRow_sum]at h2;obtain⟨P,_,hP,e⟩:=place_nat (0:Nat) t;have h3:=h1 P hP;rw[oneRow_get,if_pos e.symm]at h3;omega
theorem join_one (rs:List (List Int)) (t n:Int) (h0:0<=t) (h1:t<64):joinB rs (oneV t n)=addB rs t n:=by
 rw[Bool.eq_iff_iff,joinB_iff,addB_iff]
 by_cases h:0<=n/\n<=2000
 ·rw[oneV_all t n h,oneV_ok t n h]
  constructor
  ·rintro⟨a,_,b⟩;exact⟨a,h0,h1,h.1,by omega⟩
  ·rintro⟨a,_,_,_,b⟩;exact⟨a,rfl,by omega⟩
 ·rw[oneV_bad t n (by omega)]
  constructor
  ·rintro⟨_,b,_⟩;cases b
  ·rintro⟨a,_,_,b,c⟩;have:=allV_ok a;omega
theorem joinV_one (rs:List (List Int)) (t n:Int) (hok:okB rs=true):joinV rs (oneV t n)=addV rs t n:=by
 obtain⟨_,hg⟩:=(okB_iff rs).1 hok;refine eq_three rfl rfl fun i hi=>?_
 rw[joinV_get _ _ _ hi,addV_get _ _ _ _ hi,oneV_get _ _ _ hi];obtain⟨P,_,hP,e⟩:=place_nat i t;have h8:=(hg i hi).1;refine of_decide_eq_true (eq_of_get (d:=0) (n:=8) (addRows_len _ _) (by simp only[addRow,List.length_set];exact h8) fun k hk=>?_);rw[addRows_get _ _ _ hk,oneRow_get];unfold addRow atV;rw[e,set_get _ _ _ _ (by rw[h8];exact hP)]
 split
 ·rename_i h;subst h;rfl
 ·omega
theorem imAdd_far (w:World) (u:Value) (x:Option Addr) (m c:Nat) (t n:Int) (hu:u=.slice x m c) (ht:t<0\/64<=t):
  Calls Tryz.prog 231 #[.agg #[u],.int .i64 t,.int .i64 n] w fun e w'=>e=.returned (.tuple #[.agg #[.slice none 0 0],.bool false])/\Below w.heap.size w w':=by
 subst hu;go_enter Tryz.func231,Tryz.ntmps231
 go_wp2_with (go_at_call 106;refine (isThing_no _ _ ht).mono ?_;rintro e w' ⟨rfl,rfl⟩)
 exact bodyPost_ret (v:=.tuple #[.agg #[.slice none 0 0],.bool false]) (by simp[results,Tryz.results231,go_sem]) rfl ⟨rfl,by
    first
    |exact (((Below.refl _ _).alloc lr_ _).alloc (by simp) _).setCell (by simp) _
    |exact ((Below.refl _ _).alloc lr_ _).alloc (by simp) _⟩
def JoinEnd (w:World) (ra rb:List (List Int)) (e:Ending) (w':World):Prop:=
 ∃x m c ok,e=.returned (.tuple #[.agg #[.slice x m c],.bool ok])/\ok=joinB ra rb/\Below w.heap.size w w'/\(ok=false->x=none/\m=0/\c=0)/\(ok=true->m=3/\∃G C,OwnR w' w.heap.size (.slice x m c) (joinV ra rb) G C)
theorem imJoin_at (w:World) (u v:Value) (ra rb:List (List Int)) (ha:Rws w u ra) (hb:Rws w v rb):Calls Tryz.prog 195 #[.agg #[u],.agg #[v]] w (JoinEnd w ra rb):=by
 cases h:joinB ra rb with
 |false=>exact (imJoin_no w u v ra rb ha hb h).mono fun e w' ⟨he,hb⟩=>⟨none,0,0,false,he,h.symm,hb,fun _=>⟨rfl,rfl,rfl⟩,fun q=>by cases q⟩
 |true=>exact (imJoin_yes w u v ra rb ha hb h).mono fun e w' ⟨x,c,G,C,he,ho,hb⟩=>⟨x,3,c,true,he,h.symm,hb,fun q=>(by cases q),fun _=>⟨rfl,G,C,ho⟩⟩
theorem imAdd_near (w:World) (u:Value) (rs:List (List Int)) (t n:Int) (h:Rws w u rs) (t0:0<=t) (t1:t<64):
  Calls Tryz.prog 231 #[.agg #[u],.int .i64 t,.int .i64 n] w fun e w'=>JoinEnd w rs (oneV t n) e w':=by
 have HR:=hd_ h;obtain⟨⟨x,c,hx⟩,_⟩:=h.cases;obtain⟨m,hm⟩:∃n,n=rs.length:=⟨_,rfl⟩
 rw[<-hm]at hx;subst hx;clear hm h;go_enter Tryz.func231,Tryz.ntmps231
 go_wp2_with (go_at_call 106;refine (isThing_yes _ _ t0 t1).mono ?_;rintro e w' ⟨rfl,rfl⟩)
 refine (imNew_at _).mono ?_;rintro e w1 ⟨v,G,C,rfl,ho,hb1⟩;obtain⟨g,c',hu,hg1,hg2⟩:=World.ownsRow.form ho.hdr (show 0<zero3.length from by simp[zero3]);have h3:zero3.length=3:=rfl;rw[h3]at hu;subst hu;have sz:=hb1.size;simp only[World.size_alloc]at sz hg1
 have ca:=(cell_later hb1 (show ((w.alloc (.cells #[.slice x m c] 36)).alloc (.cells #[.slice none 0 0] 36)).cell? ⟨w.heap.size,0,none⟩=some (.slice x m c) by simp[go_sem]))
 have cr:=(cell_later hb1 (show ((w.alloc (.cells #[.slice x m c] 36)).alloc (.cells #[.slice none 0 0] 36)).cell? ⟨w.heap.size+1,0,none⟩=some (.slice none 0 0) by simp[go_sem]))
 have fr:w1.frozen? ⟨w.heap.size+1,0,none⟩=false:=by rw[hb1.frozen (p:=⟨w.heap.size+1,0,none⟩) (by simp)];simp[go_sem]
 have hL:=(((Below.refl w.heap.size w).alloc lr_ (.cells #[.slice x m c] 36)).alloc (by simp) (.cells #[.slice none 0 0] 36)).trans (hb1.mono (by simp;omega));have L:=hd_ hL;have HO1:=hd_ ho;clear ho hb1 hL h3;go_wp2;go_loopw [19] (fun i wr=>∃(k:Nat) (qs:List (List Int)),k<=3/\i=.int .i64 k/\qs.length=3/\(∀j,j<3->qs.getD j []=if j<k then oneRow t n j else zeros)/\
      OwnR wr (w.heap.size+2) (.slice (some ⟨g,0,none⟩) 3 c') qs G C/\wr.cell? ⟨w1.heap.size,0,none⟩=some (.slice (some ⟨g,0,none⟩) 3 c')/\
      wr.cell? ⟨w.heap.size,0,none⟩=some (.slice x m c)/\
      wr.cell? ⟨w.heap.size+1,0,none⟩=some (.slice none 0 0)/\wr.frozen? ⟨w.heap.size+1,0,none⟩=false/\Below w.heap.size w wr/\w1.heap.size<wr.heap.size) (fun i _=>3 - (intOf i).toNat)
 case atStart=>
  have l1:w.heap.size+1<w1.heap.size:=by omega
  have l0:w.heap.size<w1.heap.size:=by omega
  refine⟨0,zero3,Nat.zero_le _,rfl,rfl,fun j hj=>?_,by simpa using HO1.out.below ((Below.refl _ _).alloc lr_ _) lr_,by simp,by rw[World.cell?_alloc_past _ _ _ l0];exact ca,by rw[World.cell?_alloc_past _ _ _ l1];exact cr,
      by rw[World.frozen?_alloc_past _ _ _ l1];exact fr,L.out.alloc L.out.size _,by simp⟩
  rcases (by omega:j=0\/j=1\/j=2)with rfl|rfl|rfl<;>rfl
 case round=>
  obtain⟨k,qs,hk,rfl,hq3,hqs,hown,hbox,hA,cR,fR,hbl,hlt2⟩:=hrel;have HQ3:=hd_ hq3;have HQ:=hd_ hqs;have HO:=hd_ hown;have HB:=hd_ hbl;clear hq3 hqs hown hbl ca cr fr
  by_cases hlt:k<3
  ·obtain⟨P,hP,hP8,hPn⟩:=place_nat (k:Int) t
   have hqk:qs.getD k []=zeros:=by rw[HQ.out k hlt,if_neg (by omega)]
   have hz8:zeros.length=8:=rfl;have hc1:=HO.out.hdrCell HQ3.out k hlt;rw[hqk,hz8]at hc1;obtain⟨hc2,hf2⟩:=HO.out.rowCell k P (by rw[HQ3.out];exact hlt) (by rw[hqk];exact hP8);rw[hqk,zeros_get]at hc2;have K1:Hid (∀W,Calls Tryz.prog 179 #[.int .i64 k,.int .i64 t] W fun e w'=>e=.returned (.int .i64 P)/\W=w'):=fun W=>by
    rw[<-hP];exact roughPlace_yes k t W (by omega) (by omega) t0 t1
   have q:=HO.out.store k P n (by rw[HQ3.out];exact hlt) (by rw[hqk];exact hP8);have hst:∃qs',qs'.length=3/\(∀j,j<3->qs'.getD j []=if j<k+1 then oneRow t n j else zeros)/\OwnR (wr.setCell ⟨G k,P,none⟩ (.int .i64 n)) (w.heap.size+2) (.slice (some ⟨g,0,none⟩) 3 c') qs' G C:=by
    refine⟨_,by simpa using HQ3.out,fun j hj=>?_,q.1⟩
    by_cases e:j=k
    ·subst e
     rw[if_pos (by omega)];unfold oneRow;rw[hPn,hqk];simp[HQ3.out,hlt]
    ·have e1:(qs.set k ((qs.getD k []).set P n)).getD j []=qs.getD j []:=by simp[Ne.symm e]
     rw[e1,HQ.out j hj]
     by_cases e2:j<k
     ·rw[if_pos e2,if_pos (by omega)]
     ·rw[if_neg e2,if_neg (by omega)]
   have HST:=hd_ hst;have HGk:Hid (w.heap.size+2<=G k/\G k<w1.heap.size):=⟨((HO.out.row k (by rw[HQ3.out];exact hlt)).lt (G k) rfl).1,((HO1.out.row k (show k<zero3.length from hlt)).lt (G k) rfl).2⟩
   have k0:(0:Int)<=(k:Int):=by omega
   have k3:(k:Int)<3:=by omega
   have P8:(P:Int)<8:=by omega
   clear hP hPn hst hqk hP8 q hz8
   go_wp2_with (go_at_call 179;refine (K1.out _).mono ?_;rintro e w' ⟨rfl,rfl⟩)
   go_roundw
   case rel=>
    obtain⟨qs',q1,q2,q3⟩:=HST.out;have e2:G k≠w1.heap.size:=by have:=HGk.out.2;omega
    have e1:G k≠w.heap.size+1:=by have:=HGk.out.1;omega
    have e0:G k≠w.heap.size:=by have:=HGk.out.1;omega
    refine⟨k+1,qs',by omega,by go_num,q1,q2,q3,?_,?_,?_,?_,?_,by simpa using hlt2⟩
    ·exact (World.cell?_setCell_other (h:=fun h=>by injection h with h;exact e2 h) ..).trans hbox
    ·exact (World.cell?_setCell_other (h:=fun h=>by injection h with h;exact e0 h) ..).trans hA
    ·exact (World.cell?_setCell_other (h:=fun h=>by injection h with h;exact e1 h) ..).trans cR
    ·rw[World.frozen?_setCell];exact fR
    ·exact HB.out.setCell (by have:=HGk.out.1;simp;omega) _
   case measure=>simp[intOf];omega
  ·have hq:qs=oneV t n:=eq_three HQ3.out rfl (fun i hi=>by rw[HQ.out i hi,if_pos (by omega),oneV_get _ _ _ hi])
   have ho:=HO.out;rw[hq]at ho;have KJ:=hd_ (imJoin_at wr _ _ rs (oneV t n) (HR.out.below HB.out lr_) ho.rws);clear hq ho
   go_wp2_with fail
   refine KJ.out.mono ?_;rintro e w3 ⟨z,p,d,ok,rfl,hok,hb3,hno,hyes⟩;have cR3:=cell_later hb3 cR;have fR3:w3.frozen? ⟨w.heap.size+1,0,none⟩=false:=by rw[hb3.frozen (p:=⟨w.heap.size+1,0,none⟩) (by simp;omega)];exact fR
   have hr:=hd_ (World.cell?_setCell_same w3 ⟨w.heap.size+1,0,none⟩ (.slice z p d) cR3);have hgs:=grownBy_setCell w3 ⟨w.heap.size+1,0,none⟩ (.slice z p d);have FIN:Hid (Below w.heap.size w (w3.setCell ⟨w.heap.size+1,0,none⟩ (.slice z p d))/\(ok=true->p=3/\∃G C,OwnR (w3.setCell ⟨w.heap.size+1,0,none⟩ (.slice z p d)) w.heap.size (.slice z p d) (joinV rs (oneV t n)) G C)):=
    ⟨(HB.out.trans (hb3.mono HB.out.size)).setCell (by simp) _,fun q=>by
          obtain⟨q1,G',C',q2⟩:=hyes q
          exact⟨q1,G',C',(q2.grown hgs (fun k e=>by simp at e;omega)).base HB.out.size⟩⟩
   have HOK:=hd_ hok;have HNO:=hd_ hno;clear hok hno hyes hb3 hgs;go_wp2;have hr:=hr.out;exact bodyPost_ret (v:=.tuple #[.agg #[.slice z p d],.bool ok]) (by simp[results,Tryz.results231,go_sem,hr]) rfl ⟨z,p,d,ok,rfl,HOK.out,FIN.out.1,HNO.out,FIN.out.2⟩
end Go.Proofs.YtcblbdpdbggkbaaGreat
namespace Go.Proofs.YtcblbdpdbggkbaaGreat
open Go.RowKit
theorem sum8 {zs:List Int} (h:zs.length=8):zs.sum=zs.getD 0 0+zs.getD 1 0+zs.getD 2 0+zs.getD 3 0+zs.getD 4 0+zs.getD 5 0+zs.getD 6 0+zs.getD 7 0:=by
 match zs,h with
 | [a,b,c,d,e,f,g,i],_=>simp;omega
theorem addRows_sum (x y:List Int) (hx:x.length=8) (hy:y.length=8):(addRows x y).sum=x.sum+y.sum:=by
 rw[sum8 hx,sum8 hy,sum8 (addRows_len x y)];rw[addRows_get _ _ 0 (by omega),addRows_get _ _ 1 (by omega),addRows_get _ _ 2 (by omega),addRows_get _ _ 3 (by omega),addRows_get _ _ 4 (by omega),addRows_get _ _ 5 (by omega),addRows_get _ _ 6 (by omega),addRows_get _ _ 7 (by omega)];omega
theorem okB_fine {rs:List (List Int)} (h3:rs.length=3) (h:∀i,i<3->Fine (rs.getD i [])/\(rs.getD i []).sum=(rs.getD 0 []).sum):okB rs=true:=
 (okB_iff rs).2 ⟨h3,fun i hi=>⟨(h i hi).1.1,(h i hi).1.bd.2.2,(h i hi).2,(h i hi).1.2.2⟩⟩
theorem fine_okB {rs:List (List Int)} (h:okB rs=true) (i:Nat) (hi:i<3):Fine (rs.getD i [])/\(rs.getD i []).sum=allV rs:=by
 obtain⟨_,hg⟩:=(okB_iff rs).1 h;have g:=hg i hi;exact⟨⟨g.1,fun k hk=>(g.2.1 k hk).1,g.2.2.2⟩,g.2.2.1.trans (allV_sum h)⟩
theorem okB_join {ra rb:List (List Int)} (h:joinB ra rb=true):okB (joinV ra rb)=true/\allV (joinV ra rb)=allV ra+allV rb:=by
 obtain⟨ha,hb,hs⟩:=(joinB_iff ra rb).1 h;have rowS:∀i,i<3->((joinV ra rb).getD i []).sum=allV ra+allV rb:=fun i hi=>by
  rw[joinV_get _ _ _ hi,addRows_sum _ _ (fine_okB ha i hi).1.1 (fine_okB hb i hi).1.1,(fine_okB ha i hi).2,(fine_okB hb i hi).2]
 have ok:okB (joinV ra rb)=true:=okB_fine rfl fun i hi=>by
  refine⟨⟨by rw[joinV_get _ _ _ hi];exact addRows_len _ _,fun k hk=>?_,by rw[rowS i hi];exact hs⟩,by rw[rowS i hi,rowS 0 (by omega)]⟩;rw[joinV_get _ _ _ hi,addRows_get _ _ _ hk];have:=(fine_okB ha i hi).1.2.1 k hk;have:=(fine_okB hb i hi).1.2.1 k hk;omega
 exact⟨ok,by rw[<-allV_sum ok,rowS 0 (by omega)]⟩
theorem okB_add {rs:List (List Int)} {t n:Int} (h:addB rs t n=true):okB (addV rs t n)=true/\allV (addV rs t n)=allV rs+n:=by
 obtain⟨ok,t0,t1,n0,n1⟩:=(addB_iff rs t n).1 h;have hj:=join_one rs t n t0 t1;rw[h]at hj;have:=okB_join hj;have av:=allV_ok ok;rw[joinV_one rs t n ok,oneV_all t n (by omega)]at this;exact this
def EndR (w:World) (ok:Bool) (rs:List (List Int)) (e:Ending) (w':World):Prop:=
 ∃x m c,e=.returned (.tuple #[.agg #[.slice x m c],.bool ok])/\Below w.heap.size w w'/\(ok=false->x=none/\m=0/\c=0)/\(ok=true->m=3/\∃G C,OwnR w' w.heap.size (.slice x m c) rs G C)
theorem imJoin_end (w:World) (u v:Value) (ra rb:List (List Int)) (ha:Rws w u ra) (hb:Rws w v rb):Calls Tryz.prog 195 #[.agg #[u],.agg #[v]] w (EndR w (joinB ra rb) (joinV ra rb)):=
 (imJoin_at w u v ra rb ha hb).mono fun e w' ⟨x,m,c,ok,he,hok,hb,h0,h1⟩=>by subst hok;exact⟨x,m,c,he,hb,h0,h1⟩
theorem imAdd_end (w:World) (u:Value) (rs:List (List Int)) (t n:Int) (h:Rws w u rs):Calls Tryz.prog 231 #[.agg #[u],.int .i64 t,.int .i64 n] w (EndR w (addB rs t n) (addV rs t n)):=by
 by_cases ht:t<0\/64<=t
 ·have hno:addB rs t n=false:=by
   cases q:addB rs t n with
   |false=>rfl
   |true=>have:=(addB_iff rs t n).1 q;omega
  obtain⟨⟨x,c,hx⟩,_⟩:=h.cases;rw[hno];exact (imAdd_far w u x _ c t n hx ht).mono fun e w' ⟨he,hb⟩=>⟨none,0,0,he,hb,fun _=>⟨rfl,rfl,rfl⟩,fun q=>by cases q⟩
 ·have t0:0<=t:=by omega
  have t1:t<64:=by omega
  refine (imAdd_near w u rs t n h t0 t1).mono fun e w' ⟨x,m,c,ok,he,hok,hb,h0,h1⟩=>?_
  rw[join_one rs t n t0 t1]at hok;subst hok;refine⟨x,m,c,he,hb,h0,fun q=>?_⟩;obtain⟨hm,G,C,ho⟩:=h1 q;rw[joinV_one rs t n ((addB_iff rs t n).1 q).1]at ho;exact⟨hm,G,C,ho⟩
def resV (ok:Bool) (rs:List (List Int)):List (List Int):=if ok=true then rs else []
end Go.Proofs.YtcblbdpdbggkbaaGreat
set_option linter.unusedVariables false
namespace Go.Proofs.YtcblbdpdbggkbaaGreat
open Go.RowKit Go.Sort
end Go.Proofs.YtcblbdpdbggkbaaGreat
namespace Go.Proofs.YtcblbdpdbggkbaaGreat
open Go.RowKit
theorem addV_join {rs:List (List Int)} {t n:Int} (h:addB rs t n=true):addV rs t n=joinV rs (oneV t n):=(joinV_one rs t n ((addB_iff rs t n).1 h).1).symm
end Go.Proofs.YtcblbdpdbggkbaaGreat
set_option linter.unusedVariables false
namespace Go.Proofs.YtcblbdpdbggkbaaGreat
open Go.RowKit Go.Sort
def markV (t:Int):Int:=if 0<=t/\t<64 then (37 * t+11) % 64 else -1
theorem markV_yes {t:Int} (h0:0<=t) (h1:t<64):markV t=(37 * t+11) % 64:=if_pos ⟨h0,h1⟩
theorem markV_no {t:Int} (h:t<0\/64<=t):markV t= -1:=if_neg (by omega)
theorem markV_in {t:Int} (h0:0<=t) (h1:t<64):0<=markV t/\markV t<64:=by rw[markV_yes h0 h1];omega
theorem imMark_at (t:Int) (w:World):Calls Tryz.prog 176 #[.int .i64 t] w fun e w'=>e=.returned (.int .i64 (markV t))/\w=w':=by
 by_cases h:t<0\/64<=t
 ·rw[markV_no h]
  go_enter Tryz.func176,Tryz.ntmps176
  go_wp2_with (go_at_call 106;refine (isThing_no _ _ h).mono ?_;rintro e w' ⟨rfl,rfl⟩)
  go_ret;exact⟨rfl,rfl⟩
 ·have h0:0<=t:=by omega
  have h1:t<64:=by omega
  rw[markV_yes h0 h1];clear h;go_enter Tryz.func176,Tryz.ntmps176
  go_wp2_with (go_at_call 106;refine (isThing_yes _ _ h0 h1).mono ?_;rintro e w' ⟨rfl,rfl⟩)
  go_ret;exact⟨ret_int (by first|rfl|(simp;omega)|omega),rfl⟩
def FewG (zs:List Int) (i:Nat):Prop:=(0<=zs.getD i 0/\zs.getD i 0<=63)/\(0<i->zs.getD (i - 1) 0<zs.getD i 0)
instance (zs:List Int) (i:Nat):Decidable (FewG zs i):=by unfold FewG;infer_instance
def FewP (zs:List Int):Prop:=zs.length<=6/\∀i,i<zs.length->FewG zs i
instance (zs:List Int):Decidable (FewP zs):=by unfold FewP;infer_instance
def fewB (zs:List Int):Bool:=decide (FewP zs)
def lastV (zs:List Int) (k:Nat):Int:=if k=0 then -1 else zs.getD (k - 1) 0
theorem fewB_iff (zs:List Int):fewB zs=true↔FewP zs:=by simp[fewB]
theorem fewB_long {zs:List Int} (h:6<zs.length):fewB zs=false:=by simp only[fewB,decide_eq_false_iff_not];exact fun q=>by have:=q.1;omega
theorem fewB_bad {zs:List Int} {i:Nat} (hi:i<zs.length) (h:¬FewG zs i):fewB zs=false:=by simp only[fewB,decide_eq_false_iff_not];exact fun q=>h (q.2 i hi)
theorem fewB_good {zs:List Int} (hl:zs.length<=6) (h:∀i,i<zs.length->FewG zs i):fewB zs=true:=(fewB_iff zs).2 ⟨hl,h⟩
theorem lastV_bd {zs:List Int} {k:Nat} (h:∀i,i<k->FewG zs i): -1<=lastV zs k/\lastV zs k<=63:=by
 unfold lastV
 split
 ·omega
 ·have:=(h (k - 1) (by omega)).1;omega
theorem fewG_iff {zs:List Int} {k:Nat} (h:∀i,i<k->FewG zs i):FewG zs k↔lastV zs k<zs.getD k 0/\zs.getD k 0<64:=by
 have hb:=lastV_bd h;unfold FewG;unfold lastV at hb ⊢
 split
 ·subst_vars;simp;omega
 ·have:0<k:=by omega
  simp only[this,true_implies];rw[if_neg (by omega)]at hb;omega
theorem imFewOk_some (b o c n:Nat) (zs:List Int) (w:World) (hl:zs.length=n) (hn:n<=6) (hb:b<w.heap.size) (hc:∀i,i<n->w.cell? ⟨b,o+i,none⟩=some (.int .i64 (zs.getD i 0))):
  Calls Tryz.prog 175 #[.agg #[.slice (some ⟨b,o,none⟩) n c]] w fun e w'=>e=.returned (.bool (fewB zs))/\Below w.heap.size w w':=by
 have hA:=(Below.refl w.heap.size w).alloc lr_ (.cells #[.slice (some ⟨b,o,none⟩) n c] 38);have HC:Hid (∀i,i<n->(w.alloc (.cells #[.slice (some ⟨b,o,none⟩) n c] 38)).cell? ⟨b,o+i,none⟩=some (.int .i64 (zs.getD i 0))):=fun i hi=>by
  rw[hA.cell (p:=⟨b,o+i,none⟩) hb];exact hc i hi
 have HL:=hd_ hl;have HA:=hd_ hA;have hn':¬(6:Int)<(n:Int):=by omega
 clear hc hl hA;go_enter Tryz.func175,Tryz.ntmps175;go_wp2
 go_loop [3,13] (fun q i=>∃k:Nat,k<=n/\i=.int .i64 k/\q=.int .i64 (lastV zs k)/\∀i,i<k->FewG zs i) (fun _ i=>n - (intOf i).toNat)
 case atStart=>exact⟨0,Nat.zero_le _,rfl,rfl,fun _ h=>absurd h (Nat.not_lt_zero _)⟩
 case round=>
  obtain⟨k,hk,rfl,rfl,hg⟩:=hrel;have G:=hd_ hg;have I:=hd_ (fewG_iff hg)
  by_cases hlt:k<n
  ·have h1:=HC.out k hlt
   have hs:Hid (lastV zs (k+1)=zs.getD k 0):=by show (if k+1=0 then _ else _)=_;rw[if_neg (by omega)];rfl
   generalize zs.getD k 0=x at h1 I hs;generalize lastV zs k=L at I ⊢;clear hg
   by_cases hx:x<=L
   ·have bad:Hid (fewB zs=false):=fewB_bad (by rw[HL.out];exact hlt) (fun q=>by have:=(I.out.1 q).1;omega)
    go_wp2;go_ret;exact⟨ret_bool bad.out.symm,HA.out⟩
   by_cases hy:64<=x
   ·have bad:Hid (fewB zs=false):=fewB_bad (by rw[HL.out];exact hlt) (fun q=>by have:=(I.out.1 q).2;omega)
    go_wp2;go_ret;exact⟨ret_bool bad.out.symm,HA.out⟩
   ·go_wp2
    go_round
    case rel=>exact⟨k+1,by omega,by go_num,by rw[hs.out],fun i hi=>by
          by_cases h:i<k
          · exact G.out i h
          · obtain rfl:i=k:=by omega
            exact I.out.2 (by omega)⟩
    case measure=>simp[intOf];omega
  ·have good:Hid (fewB zs=true):=fewB_good (by rw[HL.out];exact hn) (fun i hi=>G.out i (by rw[HL.out]at hi;omega))
   go_wp2;go_ret;exact⟨ret_bool good.out.symm,HA.out⟩
theorem imFewOk_at (w:World) (u:Value) (zs:List Int) (h:Ints w u zs):
  Calls Tryz.prog 175 #[.agg #[u]] w fun e w'=>e=.returned (.bool (fewB zs))/\Below w.heap.size w w':=by
 obtain⟨⟨x,c,hx⟩,_⟩:=h.cases
 by_cases hn:6<zs.length
 ·rw[fewB_long hn]
  obtain⟨n,hn'⟩:∃n,n=zs.length:=⟨_,rfl⟩
  rw[<-hn']at hx hn;subst hx;have h6:(6:Int)<(n:Int):=by omega
  clear h hn' hn;go_enter Tryz.func175,Tryz.ntmps175;go_wp2;go_ret;exact⟨rfl,(Below.refl _ _).alloc lr_ _⟩
 rcases h with ⟨rfl,rfl⟩|⟨b,o,cap,rfl,_,_,hb,hc⟩
 ·have e:fewB []=true:=by decide
  rw[e];go_enter Tryz.func175,Tryz.ntmps175;go_wp2;refine wp_loop_rounds 1 ?_;rw[rounds_succ];go_wp2;go_ret;exact⟨rfl,(Below.refl _ _).alloc lr_ _⟩
 ·exact imFewOk_some b o cap _ zs w rfl (by omega) hb hc
theorem fewB_parts {zs:List Int} (h:fewB zs=true):zs.length<=6/\(∀i,i<zs.length->0<=zs.getD i 0/\zs.getD i 0<=63)/\∀i,i+1<zs.length->zs.getD i 0<zs.getD (i+1) 0:=by
 obtain⟨h1,h2⟩:=(fewB_iff zs).1 h;refine⟨h1,fun i hi=>(h2 i hi).1,fun i hi=>?_⟩;have:=(h2 (i+1) hi).2 (by omega);rwa[Nat.add_sub_cancel]at this
def inThings (t:Int):Bool:=decide (0<=t/\t<64)
theorem mem_get {zs:List Int} {x:Int}:x ∈ zs↔∃i,i<zs.length/\zs.getD i 0=x:=by
 constructor
 ·intro h
  obtain⟨i,hi,rfl⟩:=List.getElem_of_mem h;exact⟨i,hi,by simp[hi]⟩
 ·rintro⟨i,hi,rfl⟩
  exact getD_mem zs i 0 hi
theorem inThings_iff (t:Int):inThings t=true↔0<=t/\t<64:=by simp[inThings]
theorem inThings_no (t:Int):inThings t=false↔t<0\/64<=t:=by simp[inThings];omega
theorem few_info:(Tryz.prog.info? 3).map (fun i=>(i.zero,i.size,i.bytes))=some (some (.int .i64 0),1,8):=by kernel_rfl
def OwnI (w:World) (B:Nat) (v:Value) (zs:List Int):Prop:=w.ownsRow B 3 1 v zs.length (ints zs)
theorem OwnI.rd {w:World} {B:Nat} {v:Value} {zs:List Int} (h:OwnI w B v zs):Ints w v zs:=ownI_ints h
theorem OwnI.base {w:World} {B B':Nat} {v:Value} {zs:List Int} (h:OwnI w B v zs) (hB:B'<=B):OwnI w B' v zs:=ownsRow_base h hB
theorem OwnI.kept {w w':World} {B:Nat} {v:Value} {zs:List Int} {row:Option Nat} (h:OwnI w B v zs) (hg:w.grownBy w' row) (hr:∀k,row=some k->k<B):OwnI w' B v zs:=by
 refine World.ownsRow.kept h hg ?_;cases hv:v.ownBlock with
 |none=>exact .inl rfl
 |some k=>exact .inr (fun e=>by have:=(World.ownsRow.lt h k hv).1;have:=hr k e.symm;omega)
theorem OwnI.alloc {w:World} {B:Nat} {v:Value} {zs:List Int} (h:OwnI w B v zs) (o:Obj):OwnI (w.alloc o) B v zs:=World.ownsRow.alloc h o
theorem OwnI.nil (w:World) (B:Nat):OwnI w B (.slice none 0 0) []:=World.ownsRow_nil w B _ 1
theorem OwnI.form {w:World} {B:Nat} {v:Value} {zs:List Int} (h:OwnI w B v zs):∃x c,v=.slice x zs.length c:=h.rd.cases.1
theorem ints_snoc (zs:List Int) (x:Int):ints (zs++[x])=ints zs++[.int .i64 x]:=by simp[ints]
def putL (m:Int):List Int->Bool->List Int
 | [],d=>if d then []else [m]
 |x::xs,d=>(if !d&&decide (m<=x)then [m]else [])++((if x=m then []else [x])++putL m xs (d || decide (m<=x)))
def putV (zs:List Int) (m:Int):List Int:=(putL m zs false).take 6
theorem put1 (m:Int) (rest:List Int):putL m (m::rest) false=[m]++putL m rest true:=by
 show (if _ then _ else _)++((if _ then _ else _)++putL m rest _)=_
 simp
theorem put2 {m y:Int} (rest:List Int) (h:m<=y) (h':y≠m):putL m (y::rest) false=[m]++([y]++putL m rest true):=by
 show (if _ then _ else _)++((if _ then _ else _)++putL m rest _)=_
 simp[h,h']
theorem put4 {m y:Int} {d:Bool} (rest:List Int) (h:d=true\/y<m) (h':y≠m):putL m (y::rest) d=[y]++putL m rest d:=by
 show (if _ then _ else _)++((if _ then _ else _)++putL m rest _)=_
 rcases h with h|h
 ·simp[h,h']
 ·have:¬m<=y:=by omega
  simp[this,h']
def addOkF (zs:List Int) (t:Int):Bool:=fewB zs&&inThings t
def addF (zs:List Int) (t:Int):List Int:=if addOkF zs t=true then putV zs (markV t)else []
theorem addF_yes {zs:List Int} {t:Int} (h:addOkF zs t=true):addF zs t=putV zs (markV t):=if_pos h
theorem addF_no {zs:List Int} {t:Int} (h:addOkF zs t=false):addF zs t=[]:=if_neg (by rw[h];simp)
end Go.Proofs.YtcblbdpdbggkbaaGreat
set_option linter.unusedVariables false
namespace Go.Proofs.YtcblbdpdbggkbaaGreat
open Go.RowKit Go.Shelf
attribute [local go_sem] Oper.semAt_some
def InB (n₀:Nat) (w:World) (v:Value) (zs:List Int):Prop:=
 (v=.slice none 0 0/\zs=[])\/
 ∃b o c,v=.slice (some ⟨b,o,none⟩) zs.length c/\zs.length<=c/\c<=maxLen/\b<n₀/\∀i,i<zs.length->w.cell? ⟨b,o+i,none⟩=some (.int .i64 (zs.getD i 0))
theorem InB.below {n₀:Nat} {w w':World} {v:Value} {zs:List Int} (h:InB n₀ w v zs) (hb:Below n₀ w w'):InB n₀ w' v zs:=by
 rcases h with h|⟨b,o,c,e,h1,h2,h3,h4⟩
 ·exact .inl h
 ·exact .inr ⟨b,o,c,e,h1,h2,h3,fun i hi=>(hb.cell (p:=⟨b,o+i,none⟩) h3).trans (h4 i hi)⟩
theorem Ints.inB {w:World} {v:Value} {zs:List Int} (h:Ints w v zs):InB w.heap.size w v zs:=h
def firstV (zs:List Int):Int:=match zs with| []=>64|x::_=>x
def behindV (zs:List Int) (m:Int):List Int:=if firstV zs=m then zs.tail else zs
theorem firstMark_at (n₀:Nat) (w:World) (v:Value) (zs:List Int) (h:InB n₀ w v zs):
  Calls Tryz.prog 287 #[v] w fun e w'=>e=.returned (.int .i64 (firstV zs))/\w=w':=by
 rcases h with ⟨rfl,rfl⟩|⟨b,o,c,rfl,h1,h2,_,h4⟩
 ·go_enter Tryz.func287,Tryz.ntmps287
  go_wp2;go_ret;exact⟨rfl,rfl⟩
 ·cases zs with
  |nil=>
   go_enter Tryz.func287,Tryz.ntmps287;go_wp2;go_ret;exact⟨rfl,rfl⟩
  |cons x zs=>
   have h5:w.cell? ⟨b,o,none⟩=some (.int .i64 x):=h4 0 (by simp);obtain⟨n,hn⟩:∃n,n=(x::zs).length:=⟨_,rfl⟩
   have hp:0<n:=by rw[hn];simp
   rw[<-hn];have n0:((n:Int)==0)=false:=by simp;omega
   have n1:(0:Int)<(n:Int):=by omega
   clear h1 h2 h4 hn;go_enter Tryz.func287,Tryz.ntmps287;go_wp2;go_ret;exact⟨rfl,rfl⟩
theorem behindMark_at (n₀:Nat) (w:World) (v:Value) (zs:List Int) (m:Int) (h:InB n₀ w v zs) (hm:zs=[]->m≠64):
  Calls Tryz.prog 288 #[v,.int .i64 m] w fun e w'=>∃x c,e=.returned (.slice x (behindV zs m).length c)/\InB n₀ w (.slice x (behindV zs m).length c) (behindV zs m)/\w=w':=by
 have KF:Hid (Calls Tryz.prog 287 #[v] w fun e w'=>e=.returned (.int .i64 (firstV zs))/\w=w'):=firstMark_at n₀ w v zs h
 by_cases hf:firstV zs=m
 ·have hne:zs≠[]:=fun e=>hm e (by rw[<-hf,e];rfl)
  rcases h with ⟨_,e⟩|⟨b,o,c,rfl,h1,h2,h3,h4⟩
  ·exact absurd e hne
  have hlen:0<zs.length:=List.length_pos_iff.2 hne;have tl:∀i,i<zs.tail.length->zs.tail.getD i 0=zs.getD (i+1) 0:=fun i hi=>by simp
  have lt:zs.tail.length=zs.length - 1:=by simp
  have IN:Hid (∀o' c',zs.tail.length<=c'->c'<=maxLen->(o'=o+1\/zs.tail.length=0)->InB n₀ w (.slice (some ⟨b,o',none⟩) zs.tail.length c') zs.tail):=fun o' c' q1 q2 q3=>.inr ⟨b,o',c',rfl,q1,q2,h3,fun i hi=>by
      rcases q3 with q3|q3
      · rw[tl i hi, <-h4 (i+1) (by omega),q3,show o+1+i=o+(i+1) by omega]
      · omega⟩
  have eb:behindV zs m=zs.tail:=if_pos hf;rw[eb];rw[hf]at KF;obtain⟨n,hn⟩:∃n,n=zs.length:=⟨_,rfl⟩
  obtain⟨k,hk⟩:∃k,k=zs.tail.length:=⟨_,rfl⟩
  rw[<-hn]at KF hlen lt h1;rw[<-hn, <-hk];rw[<-hk]at IN lt;have n1:(1:Int)<=(n:Int):=by omega
  have c1:(n:Int)<=(c:Int):=by omega
  have ek:k=n - 1:=lt;subst ek;clear hn hk h4 tl lt hf hne hm eb
  by_cases hc:c=1
  ·subst hc
   obtain rfl:n=1:=by omega
   go_enter Tryz.func288,Tryz.ntmps288
   go_wp2_with fail
   refine KF.out.mono ?_;rintro e w1 ⟨rfl,rfl⟩;go_wp2;go_ret;exact⟨_,_,rfl,IN.out _ _ (by omega) (by omega) (.inr (by simp)),rfl⟩
  ·go_enter Tryz.func288,Tryz.ntmps288
   go_wp2_with fail
   refine KF.out.mono ?_;rintro e w1 ⟨rfl,rfl⟩;go_wp2;go_ret;exact⟨_,_,rfl,IN.out _ _ (by omega) (by omega) (.inl rfl),rfl⟩
 ·have eb:behindV zs m=zs:=if_neg hf
  have hf':(firstV zs==m)=false:=by simpa using hf
  have hd:decide (firstV zs=m)=false:=by simpa using hf
  rw[eb];have I:=hd_ h;obtain⟨x,c,hx⟩:∃x c,v=.slice x zs.length c:=by
   rcases h with ⟨rfl,rfl⟩|⟨b,o,c,rfl,_⟩
   ·exact⟨_,_,rfl⟩
   ·exact⟨_,_,rfl⟩
  obtain⟨n,hn⟩:∃n,n=zs.length:=⟨_,rfl⟩
  rw[<-hn]at hx ⊢;subst hx;generalize firstV zs=F at *;clear h hn eb hf hm;go_enter Tryz.func288,Tryz.ntmps288
  go_wp2_with fail
  refine KF.out.mono ?_;rintro e w1 ⟨rfl,rfl⟩;go_wp2;go_ret;exact⟨_,_,rfl,I.out,rfl⟩
def bothL:Nat->List Int->List Int->List Int
 | 0,_,_=>[]
 |k+1,zs,ys=>if zs=[]/\ys=[]then []else min (firstV zs) (firstV ys)::bothL k (behindV zs (min (firstV zs) (firstV ys))) (behindV ys (min (firstV zs) (firstV ys)))
def bothV (zs ys:List Int):List Int:=bothL (zs.length+ys.length) zs ys
theorem behindV_len (zs:List Int) (m:Int):(behindV zs m).length<=zs.length:=by unfold behindV;split<;>simp
theorem firstV_ne {zs:List Int} (h:∀z ∈ zs,z<64) (hn:zs≠[]):firstV zs<64:=by
 cases zs with
 |nil=>exact absurd rfl hn
 |cons x xs=>exact h x (by simp)
theorem both_less {zs ys:List Int} (hz:∀z ∈ zs,z<64) (hy:∀z ∈ ys,z<64) (h:¬(zs=[]/\ys=[])):
  min (firstV zs) (firstV ys)<64/\(behindV zs (min (firstV zs) (firstV ys))).length+(behindV ys (min (firstV zs) (firstV ys))).length<zs.length+ys.length:=by
 have l1:=behindV_len zs (min (firstV zs) (firstV ys));have l2:=behindV_len ys (min (firstV zs) (firstV ys));have less:∀us:List Int,us≠[]->firstV us=min (firstV zs) (firstV ys)->(behindV us (min (firstV zs) (firstV ys))).length<us.length:=fun us hu e=>by
  unfold behindV;rw[if_pos e];cases us with
  |nil=>exact absurd rfl hu
  |cons x xs=>simp
 by_cases h1:zs=[]
 ·have h2:ys≠[]:=fun e=>h ⟨h1,e⟩
  have f2:=firstV_ne hy h2;have f1:firstV zs=64:=by rw[h1];rfl
  have:=less ys h2 (by omega);exact⟨by omega,by omega⟩
 ·have f1:=firstV_ne hz h1
  by_cases h3:firstV zs<=firstV ys
  ·have:=less zs h1 (by omega)
   exact⟨by omega,by omega⟩
  ·have h2:ys≠[]:=fun e=>h3 (by rw[e];show firstV zs<=64;omega)
   have:=less ys h2 (by omega);exact⟨by omega,by omega⟩
theorem behindV_mem {zs:List Int} {m z:Int} (h:z ∈ behindV zs m):z ∈ zs:=by
 unfold behindV at h
 split at h
 ·exact List.mem_of_mem_tail h
 ·exact h
def sliceN:Value->Nat
 | .slice _ n _=>n
 |_=>0
theorem both1_in (n:Nat) (hn:1<=n) (l Ba Bb n₀:Nat) (u v:Value) (zs ys:List Int) (hz:∀z ∈ zs,z<64) (hy:∀z ∈ ys,z<64) (J Jx:List Int->World->Prop)
  (hY:∀pre x W,J pre W->pre.length<zs.length+ys.length->YieldAt Fence.wide (n - 1) Tryz.prog l #[.int .i64 x] W fun e W'=>
      (e=.returned (.bool true)/\J (pre++[x]) W'/\Below n₀ W W')\/(e=.returned (.bool false)/\Jx (pre++[x]) W'))
  (hJd:∀s W1,J s W1->J s W1.drew) (W:World) (hA:W.cell? ⟨Ba,0,none⟩=some u) (hB:W.cell? ⟨Bb,0,none⟩=some v) (iA:InB n₀ W u zs) (iB:InB n₀ W v ys) (h0:J [] W):
  CallsIn Fence.wide n Tryz.prog 286 #[.func (.yield l) #[] #[],.pointer (some ⟨Ba,0,none⟩),.pointer (some ⟨Bb,0,none⟩)] W fun e W'=>(∃v,e=.returned v)/\
   ((∃xs,xs=bothV zs ys/\J xs W')\/(∃pre,pre<+:bothV zs ys/\Jx pre W')):=by
 have form:∀{v zs},InB n₀ W v zs->∃x c,v=.slice x zs.length c:=fun h=>by
  rcases h with ⟨rfl,rfl⟩|⟨b,o,c,rfl,_⟩
  ·exact⟨_,_,rfl⟩
  ·exact⟨_,_,rfl⟩
 obtain⟨xa,ca,rfl⟩:=form iA;obtain⟨xb,cb,rfl⟩:=form iB;obtain⟨na,hna⟩:∃na,na=zs.length:=⟨_,rfl⟩
 obtain⟨nb,hnb⟩:∃nb,nb=ys.length:=⟨_,rfl⟩
 rw[<-hna]at hA iA;rw[<-hnb]at hB iB;have NA:=hd_ hna;have NB:=hd_ hnb;have IA:=hd_ iA;have IB:=hd_ iB;have HY:=hd_ hY;have HZ:=hd_ hz;have HYS:=hd_ hy;have H0:=hd_ h0;clear form hna hnb iA iB hY hz hy h0;refine callsIn_of_wp Tryz.func286 rfl trivial ?_ rfl
 simp only[Tryz.ntmps286,List.size_toArray,List.length_cons,List.length_nil,Nat.reduceAdd,Nat.reduceSub,Array.replicate_succ,Array.replicate_zero,List.push_toArray,List.append_toArray,List.nil_append,List.cons_append]
 gi_wp2
 gi_region
 gi_wp2
 gi_loopw [4,5] (fun p q wr=>∃(pre xs ys':List Int) (k:Nat),InB n₀ wr p xs/\InB n₀ wr q ys'/\(∀z ∈ xs,z<64)/\(∀z ∈ ys',z<64)/\pre++bothL k xs ys'=bothV zs ys/\xs.length+ys'.length<=k/\pre.length+(xs.length+ys'.length)<=zs.length+ys.length/\sliceN p=xs.length/\sliceN q=ys'.length/\J pre wr)
  (fun p q _=>sliceN p+sliceN q)
 case atStart=>exact⟨[],zs,ys,zs.length+ys.length,IA.out,IB.out,HZ.out,HYS.out,rfl,Nat.le_refl _,by simp,NA.out,NB.out,hJd _ _ H0.out⟩
 case round=>
  obtain⟨pre,xs,ys',k,ia,ib,hx,hy',hb,hk,hpre,sa,sb,hJs⟩:=hrel;have form:∀{v zs},InB n₀ wr v zs->∃x c,v=.slice x zs.length c:=fun h=>by
   rcases h with ⟨rfl,rfl⟩|⟨b,o,c,rfl,_⟩
   ·exact⟨_,_,rfl⟩
   ·exact⟨_,_,rfl⟩
  obtain⟨ya,da,rfl⟩:=form ia;obtain⟨yb,db,rfl⟩:=form ib;clear form sa sb
  by_cases hE:xs=[]/\ys'=[]
  ·obtain⟨rfl,rfl⟩:=hE
   have fin:Hid (pre=bothV zs ys):=by
    have e:bothL k [] []=[]:=by
     cases k with
     |zero=>rfl
     |succ k=>simp[bothL]
    show pre=_
    rw[<-hb,e,List.append_nil]
   have HJ:=hd_ hJs;clear ia ib hx hy' hb hk hpre hJs
   gi_wp2
   go_end0
   exact⟨⟨_,rfl⟩,.inl ⟨pre,fin.out,HJ.out⟩⟩
  ·have hl:=both_less hx hy' hE
   obtain⟨k',rfl⟩:∃k',k=k'+1:=by
    cases k with
    |zero=>exact absurd ⟨List.eq_nil_of_length_eq_zero (by omega),List.eq_nil_of_length_eq_zero (by omega)⟩ hE
    |succ k=>exact⟨k,rfl⟩
   have hb':pre++[min (firstV xs) (firstV ys')]++bothL k' (behindV xs (min (firstV xs) (firstV ys'))) (behindV ys' (min (firstV xs) (firstV ys')))=bothV zs ys:=by
    rw[<-hb]
    conv=>rhs;unfold bothL
    rw[if_neg hE];simp
   have KA:=hd_ (firstMark_at n₀ wr _ xs ia);have KB:=hd_ (firstMark_at n₀ wr _ ys' ib);obtain⟨M,hM⟩:∃M,M=min (firstV xs) (firstV ys'):=⟨_,rfl⟩
   rw[<-hM]at hl hb';have HB:=hd_ hb';have LE:=hd_ hl;have LT:Hid (pre.length<zs.length+ys.length):=by
    have:0<xs.length+ys'.length:=by omega
    show pre.length<_
    omega
   have JS:=hd_ hJs;have RA:Hid (∀W3,Below n₀ wr W3->Calls Tryz.prog 288 #[.slice ya xs.length da,.int .i64 M] W3 fun e w'=>∃x c,e=.returned (.slice x (behindV xs M).length c)/\InB n₀ W3 (.slice x (behindV xs M).length c) (behindV xs M)/\W3=w'):=fun W3 h3=>
    behindMark_at n₀ W3 _ xs M (ia.below h3) (fun _=>by omega)
   have RB:Hid (∀W3,Below n₀ wr W3->Calls Tryz.prog 288 #[.slice yb ys'.length db,.int .i64 M] W3 fun e w'=>∃x c,e=.returned (.slice x (behindV ys' M).length c)/\InB n₀ W3 (.slice x (behindV ys' M).length c) (behindV ys' M)/\W3=w'):=fun W3 h3=>
    behindMark_at n₀ W3 _ ys' M (ib.below h3) (fun _=>by omega)
   have MA:Hid (∀z ∈ behindV xs M,z<64):=fun z h=>hx z (behindV_mem h)
   have MB:Hid (∀z ∈ behindV ys' M,z<64):=fun z h=>hy' z (behindV_mem h)
   have HPR:=hd_ hpre;have HK:=hd_ hk;have pos:0<xs.length\/(xs.length=0/\0<ys'.length):=by omega
   obtain⟨fn,tmps,assign,body,hy,hR⟩:=HY.out pre M wr hJs LT.out;obtain⟨nx,hnx⟩:∃nx,nx=xs.length:=⟨_,rfl⟩
   obtain⟨ny,hny⟩:∃ny,ny=ys'.length:=⟨_,rfl⟩
   rw[<-hnx]at KA RA pos ⊢;rw[<-hny]at KB RB pos ⊢;have NX:=hd_ hnx;have NY:=hd_ hny;generalize firstV xs=f1 at *;generalize firstV ys'=f2 at *;clear ia ib hx hy' hb hb' hk hpre hJs hl hE hnx hny;have hmin:(f1<=f2/\M=f1)\/(¬f1<=f2/\M=f2):=by omega
   clear hM;rcases pos with px|⟨rfl,py⟩
   ·have px':(0:Int)<(nx:Int):=by omega
    rcases hmin with ⟨hle,rfl⟩|⟨hle,rfl⟩
    ·gi_wp2_with (first
            |(refine⟨trivial,?_⟩;gi_at_call 287;(with_reducible refine (callsIn_wide.2 KA.out).mono ?_);rintro e w1 ⟨rfl,rfl⟩;clear KA)
            |(refine⟨trivial,?_⟩;gi_at_call 287;(with_reducible refine (callsIn_wide.2 KB.out).mono ?_);rintro e w1 ⟨rfl,rfl⟩;clear KB))
     refine hR.mono ?_;rintro e W3 (⟨rfl,hJ3,hk3⟩|⟨rfl,hJx3⟩)
     ·have RA3:=hd_ (RA.out W3 hk3)
      have RB3:=hd_ (RB.out W3 hk3);have J3:=hd_ hJ3;clear RA RB hk3 hJ3 hR hy
      gi_wp2_with (first
              |(refine⟨trivial,?_⟩;gi_at_call 288;(with_reducible refine (callsIn_wide.2 RA3.out).mono ?_);rintro e w1 ⟨qa,ea,rfl,oa,rfl⟩;clear RA3)
              |(refine⟨trivial,?_⟩;gi_at_call 288;(with_reducible refine (callsIn_wide.2 RB3.out).mono ?_);rintro e w1 ⟨qb,eb,rfl,ob,rfl⟩;clear RB3))
      go_roundw
      case rel=>exact⟨pre++[M],behindV xs M,behindV ys' M,k',oa,ob,MA.out,MB.out,HB.out,by have h1:=LE.out;have h2:=HK.out;omega,by have h1:=LE.out;have h2:=HPR.out;simp;omega,rfl,rfl,J3.out⟩
      case measure=>have h1:=LE.out;have h2:=NX.out;have h3:=NY.out;simp[sliceN];omega
     ·have JX:=hd_ hJx3
      have PF:Hid (pre++[M]<+:bothV zs ys):=⟨_,HB.out⟩
      clear hJx3
      gi_wp2
      refine bodyPost_ret (results_none rfl _ _ _) rfl ?_;exact⟨⟨_,rfl⟩,.inr ⟨pre++[M],PF.out,JX.out⟩⟩
    ·gi_wp2_with (first
            |(refine⟨trivial,?_⟩;gi_at_call 287;(with_reducible refine (callsIn_wide.2 KA.out).mono ?_);rintro e w1 ⟨rfl,rfl⟩;clear KA)
            |(refine⟨trivial,?_⟩;gi_at_call 287;(with_reducible refine (callsIn_wide.2 KB.out).mono ?_);rintro e w1 ⟨rfl,rfl⟩;clear KB))
     refine hR.mono ?_;rintro e W3 (⟨rfl,hJ3,hk3⟩|⟨rfl,hJx3⟩)
     ·have RA3:=hd_ (RA.out W3 hk3)
      have RB3:=hd_ (RB.out W3 hk3);have J3:=hd_ hJ3;clear RA RB hk3 hJ3 hR hy
      gi_wp2_with (first
              |(refine⟨trivial,?_⟩;gi_at_call 288;(with_reducible refine (callsIn_wide.2 RA3.out).mono ?_);rintro e w1 ⟨qa,ea,rfl,oa,rfl⟩;clear RA3)
              |(refine⟨trivial,?_⟩;gi_at_call 288;(with_reducible refine (callsIn_wide.2 RB3.out).mono ?_);rintro e w1 ⟨qb,eb,rfl,ob,rfl⟩;clear RB3))
      go_roundw
      case rel=>exact⟨pre++[M],behindV xs M,behindV ys' M,k',oa,ob,MA.out,MB.out,HB.out,by have h1:=LE.out;have h2:=HK.out;omega,by have h1:=LE.out;have h2:=HPR.out;simp;omega,rfl,rfl,J3.out⟩
      case measure=>have h1:=LE.out;have h2:=NX.out;have h3:=NY.out;simp[sliceN];omega
     ·have JX:=hd_ hJx3
      have PF:Hid (pre++[M]<+:bothV zs ys):=⟨_,HB.out⟩
      clear hJx3
      gi_wp2
      refine bodyPost_ret (results_none rfl _ _ _) rfl ?_;exact⟨⟨_,rfl⟩,.inr ⟨pre++[M],PF.out,JX.out⟩⟩
   ·have py':(0:Int)<(ny:Int):=by omega
    rcases hmin with ⟨hle,rfl⟩|⟨hle,rfl⟩
    ·gi_wp2_with (first
            |(refine⟨trivial,?_⟩;gi_at_call 287;(with_reducible refine (callsIn_wide.2 KA.out).mono ?_);rintro e w1 ⟨rfl,rfl⟩;clear KA)
            |(refine⟨trivial,?_⟩;gi_at_call 287;(with_reducible refine (callsIn_wide.2 KB.out).mono ?_);rintro e w1 ⟨rfl,rfl⟩;clear KB))
     refine hR.mono ?_;rintro e W3 (⟨rfl,hJ3,hk3⟩|⟨rfl,hJx3⟩)
     ·have RA3:=hd_ (RA.out W3 hk3)
      have RB3:=hd_ (RB.out W3 hk3);have J3:=hd_ hJ3;clear RA RB hk3 hJ3 hR hy
      gi_wp2_with (first
              |(refine⟨trivial,?_⟩;gi_at_call 288;(with_reducible refine (callsIn_wide.2 RA3.out).mono ?_);rintro e w1 ⟨qa,ea,rfl,oa,rfl⟩;clear RA3)
              |(refine⟨trivial,?_⟩;gi_at_call 288;(with_reducible refine (callsIn_wide.2 RB3.out).mono ?_);rintro e w1 ⟨qb,eb,rfl,ob,rfl⟩;clear RB3))
      go_roundw
      case rel=>exact⟨pre++[M],behindV xs M,behindV ys' M,k',oa,ob,MA.out,MB.out,HB.out,by have h1:=LE.out;have h2:=HK.out;omega,by have h1:=LE.out;have h2:=HPR.out;simp;omega,rfl,rfl,J3.out⟩
      case measure=>have h1:=LE.out;have h2:=NX.out;have h3:=NY.out;simp[sliceN];omega
     ·have JX:=hd_ hJx3
      have PF:Hid (pre++[M]<+:bothV zs ys):=⟨_,HB.out⟩
      clear hJx3
      gi_wp2
      refine bodyPost_ret (results_none rfl _ _ _) rfl ?_;exact⟨⟨_,rfl⟩,.inr ⟨pre++[M],PF.out,JX.out⟩⟩
    ·gi_wp2_with (first
            |(refine⟨trivial,?_⟩;gi_at_call 287;(with_reducible refine (callsIn_wide.2 KA.out).mono ?_);rintro e w1 ⟨rfl,rfl⟩;clear KA)
            |(refine⟨trivial,?_⟩;gi_at_call 287;(with_reducible refine (callsIn_wide.2 KB.out).mono ?_);rintro e w1 ⟨rfl,rfl⟩;clear KB))
     refine hR.mono ?_;rintro e W3 (⟨rfl,hJ3,hk3⟩|⟨rfl,hJx3⟩)
     ·have RA3:=hd_ (RA.out W3 hk3)
      have RB3:=hd_ (RB.out W3 hk3);have J3:=hd_ hJ3;clear RA RB hk3 hJ3 hR hy
      gi_wp2_with (first
              |(refine⟨trivial,?_⟩;gi_at_call 288;(with_reducible refine (callsIn_wide.2 RA3.out).mono ?_);rintro e w1 ⟨qa,ea,rfl,oa,rfl⟩;clear RA3)
              |(refine⟨trivial,?_⟩;gi_at_call 288;(with_reducible refine (callsIn_wide.2 RB3.out).mono ?_);rintro e w1 ⟨qb,eb,rfl,ob,rfl⟩;clear RB3))
      go_roundw
      case rel=>exact⟨pre++[M],behindV xs M,behindV ys' M,k',oa,ob,MA.out,MB.out,HB.out,by have h1:=LE.out;have h2:=HK.out;omega,by have h1:=LE.out;have h2:=HPR.out;simp;omega,rfl,rfl,J3.out⟩
      case measure=>have h1:=LE.out;have h2:=NX.out;have h3:=NY.out;simp[sliceN];omega
     ·have JX:=hd_ hJx3
      have PF:Hid (pre++[M]<+:bothV zs ys):=⟨_,HB.out⟩
      clear hJx3
      gi_wp2
      refine bodyPost_ret (results_none rfl _ _ _) rfl ?_;exact⟨⟨_,rfl⟩,.inr ⟨pre++[M],PF.out,JX.out⟩⟩
attribute [local go_sem] Oper.semAt_some
theorem marksOfBoth_at (w:World) (u v:Value) (x y:Option Addr) (n m c d:Nat) (hu:u=.slice x n c) (hv:v=.slice y m d):
  Calls Tryz.prog 249 #[u,v] w fun e w'=>e=.returned (.func (.func 286) #[] #[.pointer (some ⟨w.heap.size,0,none⟩),.pointer (some ⟨w.heap.size+1,0,none⟩)])/\w'=(w.alloc (.cells #[u] 23)).alloc (.cells #[v] 23):=by
 subst hu hv;refine (callsIn_wide (n:=3)).1 ?_;refine callsIn_of_wp Tryz.func249 rfl trivial ?_ rfl;simp only[Tryz.ntmps249,List.size_toArray,List.length_cons,List.length_nil,Nat.reduceAdd,Nat.reduceSub,Array.replicate_succ,Array.replicate_zero,List.push_toArray,List.append_toArray,List.nil_append,List.cons_append]
 gi_wp2
 go_ret;exact⟨rfl,rfl⟩
theorem mem_get' {zs:List Int} {x:Int}:x ∈ zs↔∃i,i<zs.length/\zs.getD i 0=x:=by
 constructor
 ·intro h
  obtain⟨i,hi,rfl⟩:=List.getElem_of_mem h;exact⟨i,hi,by simp[hi]⟩
 ·rintro⟨i,hi,rfl⟩
  exact getD_mem zs i 0 hi
theorem both_stops (n:Nat) (hn:1<=n) (Ba Bb n₀:Nat) (u v:Value) (zs ys:List Int) (hz:∀z ∈ zs,z<64) (hy:∀z ∈ ys,z<64) (w:World) (hBa:Ba<w.heap.size) (hBb:Bb<w.heap.size) (hn₀:n₀<=w.heap.size)
  (hA:w.cell? ⟨Ba,0,none⟩=some u) (hB:w.cell? ⟨Bb,0,none⟩=some v) (iA:InB n₀ w u zs) (iB:InB n₀ w v ys):
  SeqStopsK Fence.wide n Tryz.prog 286 #[.pointer (some ⟨Ba,0,none⟩),.pointer (some ⟨Bb,0,none⟩)] (fun x:Int=>#[Value.int .i64 x]) (Below n₀) (fun xs=>xs=bothV zs ys) (fun pre=>pre<+:bothV zs ys) (zs.length+ys.length) w:=fun l J Jx W hW hJ _ hY h0=>
 both1_in n hn l Ba Bb n₀ u v zs ys hz hy J Jx hY (fun s W1 h=>hJ s W1 W1.drew none h ⟨rfl,rfl,rfl,Nat.le_refl _,fun _ _ _=>rfl⟩ (fun _ e=>by cases e)) W ((hW.cell (p:=⟨Ba,0,none⟩) hBa).trans hA) ((hW.cell (p:=⟨Bb,0,none⟩) hBb).trans hB) (iA.below (hW.mono hn₀)) (iB.below (hW.mono hn₀)) h0
theorem imFewJoin_yes (w:World) (u v:Value) (zs ys:List Int) (ha:Ints w u zs) (hb:Ints w v ys) (oka:fewB zs=true) (okb:fewB ys=true):
  Calls Tryz.prog 196 #[.agg #[u],.agg #[v]] w fun e w'=>∃v',e=.returned (.tuple #[.agg #[v'],.bool true])/\OwnI w' w.heap.size v' ((bothV zs ys).take 6)/\Below w.heap.size w w':=by
 obtain⟨i0,hi,hz0,hz1,hz2⟩:=info_parts few_info;have hA:=(((Below.refl w.heap.size w).alloc lr_ (.cells #[u] 38)).alloc (by simp) (.cells #[v] 38)).alloc (by simp;omega) (.cells #[.slice none 0 0] 38);have z64:∀z ∈ zs,z<64:=fun z hz=>by
  obtain⟨i,hi,rfl⟩:=mem_get'.1 hz;have:=((fewB_parts oka).2.1 i hi).2;omega
 have y64:∀z ∈ ys,z<64:=fun z hz=>by
  obtain⟨i,hi,rfl⟩:=mem_get'.1 hz;have:=((fewB_parts okb).2.1 i hi).2;omega
 have la:=(fewB_parts oka).1;have lb:=(fewB_parts okb).1;have IA:=hd_ ha.inB;have IB:=hd_ hb.inB;have KA:=hd_ (imFewOk_at _ u zs (ha.below hA lr_));have JB:=hd_ (hb.below hA lr_);rw[oka]at KA;have HA:=hd_ hA;obtain⟨⟨x,c,hx⟩,_⟩:=ha.cases;obtain⟨⟨y,d,hy⟩,_⟩:=hb.cases;obtain⟨na,hna⟩:∃n,n=zs.length:=⟨_,rfl⟩
 obtain⟨nb,hnb⟩:∃n,n=ys.length:=⟨_,rfl⟩
 rw[<-hna]at hx;rw[<-hnb]at hy;have NA:=hd_ hna;have NB:=hd_ hnb;subst hx hy;obtain⟨w0,hw0⟩:∃w0,w0=((w.alloc (.cells #[.slice x na c] 38)).alloc (.cells #[.slice y nb d] 38)).alloc (.cells #[.slice none 0 0] 38):=⟨_,rfl⟩
 have c0:w0.cell? ⟨w.heap.size,0,none⟩=some (.slice x na c):=by rw[hw0,World.cell?_alloc_past (hn:=by simp;omega),World.cell?_alloc_past (hn:=by simp)];simp
 have c1:w0.cell? ⟨w.heap.size+1,0,none⟩=some (.slice y nb d):=by rw[hw0,World.cell?_alloc_past (hn:=by simp),World.cell?_alloc_at (hn:=by simp)];simp
 have b2:Go.Boxed w0 (w.heap.size+1+1) 38 (.slice none 0 0):=by
  rw[hw0];have:=Go.Boxed.new ((w.alloc (.cells #[.slice x na c] 38)).alloc (.cells #[.slice y nb d] 38)) 38 (.slice none 0 0);simpa using this
 have S0:Hid (w0.heap.size=w.heap.size+3):=by show w0.heap.size=_;rw[hw0];simp
 rw[<-hw0]at KA JB HA;have B2:=hd_ b2;have HW:=hd_ hw0;clear ha hb hA hna hnb hw0 b2 oka la lb;refine (callsIn_wide (n:=9)).1 ?_;refine callsIn_of_wp_marks Tryz.func196 rfl trivial ?_ rfl
 simp only[Tryz.ntmps196,List.size_toArray,List.length_cons,List.length_nil,Nat.reduceAdd,Nat.reduceSub,Array.replicate_succ,Array.replicate_zero,List.push_toArray,List.append_toArray,List.nil_append,List.cons_append]
 gi_wp2_with fail
 rw[<-HW.out];refine⟨trivial,(callsIn_wide.2 KA.out).mono ?_⟩;rintro e w1 ⟨rfl,hb1⟩;have c01:=cell_later hb1 c0;have c11:=cell_later hb1 c1;have KB:=hd_ (imFewOk_at w1 _ ys (JB.out.below hb1 lr_));rw[okb]at KB;have BX1:Hid (Go.Boxed w1 (w.heap.size+1+1) 38 (.slice none 0 0)):=(hb1.block _ B2.out.lt).trans B2.out;have L1:=hd_ (HA.out.trans (hb1.mono HA.out.size))
 have S1:Hid (w.heap.size+3<=w1.heap.size):=by have h1:=S0.out;have h2:=hb1.size;show _<=_;omega
 clear hb1 c0 c1 okb
 gi_wp2_with fail
 refine⟨trivial,(callsIn_wide.2 KB.out).mono ?_⟩;rintro e w2 ⟨rfl,hb2⟩;have c02:=cell_later hb2 c01;have c12:=cell_later hb2 c11;have BX2:Hid (Go.Boxed w2 (w.heap.size+1+1) 38 (.slice none 0 0)):=(hb2.block _ BX1.out.lt).trans BX1.out;have L2:=hd_ (L1.out.trans (hb2.mono L1.out.size));have S2:Hid (w.heap.size+3<=w2.heap.size):=by have h1:=S1.out;have h2:=hb2.size;show _<=_;omega
 have l0:w.heap.size<w2.heap.size:=World.block_lt_of_cell? _ _ c02;have l1:w.heap.size+1<w2.heap.size:=World.block_lt_of_cell? _ _ c12;have c03:(w2.alloc (.cells #[.slice none 0 0] 23)).cell? ⟨w.heap.size,0,none⟩=some (.slice x na c):=by rw[World.cell?_alloc_past (hn:=l0)];exact c02
 have c13:(w2.alloc (.cells #[.slice none 0 0] 23)).cell? ⟨w.heap.size+1,0,none⟩=some (.slice y nb d):=by rw[World.cell?_alloc_past (hn:=l1)];exact c12
 have e1:¬w.heap.size=w2.heap.size:=by omega
 have e2:¬w.heap.size+1=w2.heap.size:=by omega
 clear hb2 c01 c11
 gi_wp2_with fail
 refine⟨trivial,(callsIn_wide.2 (marksOfBoth_at _ _ _ x y na nb c d rfl rfl)).mono ?_⟩;rintro e w3 ⟨rfl,hw3⟩;have s3:w3.heap.size=w2.heap.size+3:=by rw[hw3];simp
 have kb:Go.Boxed w3 w2.heap.size 23 (.slice none 0 0):=by rw[hw3];exact ((Go.Boxed.new w2 23 (.slice none 0 0)).alloc _).alloc _
 have rb:Go.Boxed w3 (w.heap.size+1+1) 38 (.slice none 0 0):=by rw[hw3];exact ((BX2.out.alloc _).alloc _).alloc _
 have ca:w3.cell? ⟨w2.heap.size+1,0,none⟩=some (.slice x na c):=by rw[hw3,World.cell?_alloc_past (hn:=by simp),World.cell?_alloc_at (hn:=by simp)];simp
 have cb:w3.cell? ⟨w2.heap.size+2,0,none⟩=some (.slice y nb d):=by rw[hw3,World.cell?_alloc_at (hn:=by simp)];simp
 have hB3:Below w.heap.size w w3:=by
  have h2:=S2.out;have:=((L2.out.alloc (o:=.cells #[.slice none 0 0] 23) L2.out.size).alloc (o:=.cells #[.slice x na c] 23) (by have:=L2.out.size;simp;omega)).alloc (o:=.cells #[.slice y nb d] 23) (by have:=L2.out.size;simp;omega);rw[hw3];exact this
 have B3:=hd_ hB3;have HW3:=hd_ hw3;have lw:Hid (w.heap.size+3<=w2.heap.size):=S2.out;clear hw3 c02 c12 c03 c13 hB3 l0 l1 e1 e2;simp only[World.size_alloc]
 gi_wp2
 refine wpIn_rangeFunc_ownG rfl (by omega) (gf:=286) (lb:=#[.pointer (some ⟨w2.heap.size+1,0,none⟩),.pointer (some ⟨w2.heap.size+1+1,0,none⟩)]) rfl trivial (enters_of Tryz.func286 (by kernel_rfl) rfl)
  (both_stops 8 (by omega) (w2.heap.size+1) (w2.heap.size+2) w.heap.size _ _ zs ys z64 y64 w3 (by omega) (by omega) B3.out.size ca cb (IA.out.below B3.out) (IB.out.below B3.out)) belowK_t (belowK_b (by have:=lw.out;omega)) (Below.refl _ _) (fun _=>rfl)
  (fun (pre:List Int) W=>(∃v,Go.Boxed W w2.heap.size 23 v/\W.ownsRow w.heap.size 3 1 v pre.length (ints pre)/\True)/\Go.Boxed W (w.heap.size+1+1) 38 (.slice none 0 0)/\Below w.heap.size w W/\pre.length<=6)
  (fun c (pre:List Int) W=>(c=.exit 0/\pre.length=7)/\(∃v,Go.Boxed W w2.heap.size 23 v/\W.ownsRow w.heap.size 3 1 v 6 (ints (pre.take 6))/\True)/\Go.Boxed W (w.heap.size+1+1) 38 (.slice none 0 0)/\Below w.heap.size w W)
  (OwnFrom.and (Own.from (holdsRow_own w.heap.size w2.heap.size 23 3 1 (fun pre:List Int=>pre.length) (fun pre=>ints pre) (fun _ _=>True)) _) (OwnFrom.and (Own.from (boxed_own (w.heap.size+1+1) 38 (fun _=>.slice none 0 0)) _) (OwnFrom.and (ownFrom_below lr_ B3.out.size) (ownFrom_pure _ (fun pre:List Int=>pre.length<=6)))))
  (fun c=>OwnFrom.and (ownFrom_pure _ (fun pre:List Int=>c=.exit 0/\pre.length=7)) (OwnFrom.and (Own.from (holdsRow_own w.heap.size w2.heap.size 23 3 1 (fun _=>6) (fun pre:List Int=>ints (pre.take 6)) (fun _ _=>True)) _) (OwnFrom.and (Own.from (boxed_own (w.heap.size+1+1) 38 (fun _=>.slice none 0 0)) _) (ownFrom_below lr_ B3.out.size))))
  ⟨⟨_,kb,World.ownsRow_nil _ _ _ _,trivial⟩,rb,B3.out,by simp⟩
  (fun m=>{ tmps:=#[.agg #[.slice x na c],.agg #[.slice y nb d],.pointer (some ⟨w.heap.size,0,none⟩),.pointer (some ⟨w.heap.size+1,0,none⟩),.pointer (some ⟨w.heap.size+1+1,0,none⟩),.bool false,.pointer (some ⟨w2.heap.size,0,none⟩),.int .i64 m,.agg #[.slice x na c],.bool true,.bool false,.bool false,.agg #[.slice y nb d],.bool true,.bool false,.bool false,undef,.pointer (some ⟨w.heap.size,0,none⟩),.slice x na c,.pointer (some ⟨w.heap.size+1,0,none⟩),.slice y nb d,.func (.func 286) #[] #[.pointer (some ⟨w2.heap.size+1,0,none⟩),.pointer (some ⟨w2.heap.size+1+1,0,none⟩)],.int .i64 m,undef,undef,undef,undef,undef,undef,undef,undef,undef],defers:=[] }) ?assign ?body ?done ?stop
 case assign=>
  intro l x W K hK
  gi_wp2
  exact hK
 case body=>
  rintro l pre m W ⟨⟨v,hv,hrow,_⟩,hR,hB,hp6⟩ hlt;have hf:=(show OwnI W w.heap.size v pre from hrow).form;obtain⟨xv,cv,rfl⟩:=hf;obtain⟨np,hnp⟩:∃np,np=pre.length:=⟨_,rfl⟩
  rw[<-hnp]at hv hrow hp6;have hc:=hv.cell;have NP:=hd_ hnp;have HR:=hd_ hR;have HBW:=hd_ hB;have lS:=hB.size;have lw3:=lw.out;have dR:=hR.not_row (by decide) hrow;clear hR hB hnp hlt
  by_cases h6:np=6
  ·subst h6
   gi_wp2
   refine⟨KeepsFrom.refl _ _,⟨rfl,by simp;rw[<-NP.out]⟩,⟨_,hv,?_,trivial⟩,HR.out,HBW.out⟩;have e:(pre++[m]).take 6=pre:=by rw[List.take_append_of_le_length (by rw[<-NP.out];exact Nat.le_refl _),List.take_of_length_le (by rw[<-NP.out];exact Nat.le_refl _)]
   rw[e];exact hrow
  ·have n6:¬(np:Int)=6:=by omega
   have n6':((np:Int)==6)=false:=by simp;omega
   gi_wp2_with (gi_at_builtin;refine wpListIn_append_own _ rfl _ _ 23 rfl w.heap.size 3 i0 (.int .i64 0) 1 8 Tryz.underlying23 hi hz0 hz1 hz2 rfl (by decide) _ _ _ rfl (hrow.alloc _) ⟨W.heap.size,0,none⟩ 1 1 [.int .i64 m] rfl rfl (cell_one_new _ _ _) (by simp[Value.oneCell']) (by unfold maxLen;omega) (by omega) (by simp;omega) ?_;intro v' w1 hown' hgrow _;obtain⟨g',cap',rfl,_,_⟩:=World.ownsRow.form hown' (Nat.succ_pos _);obtain⟨hv1,hv2,hr2,hk2,hb2⟩:=hv.appended (by decide) hrow lS (by omega) hown' hgrow;have hR1:=(HR.out.alloc _).kept hgrow dR;have hc1:=hv1.cell;have hf1:=hv1.frozen)
   refine⟨hk2.from _,hb2,⟨_,hv2,?_,trivial⟩,hR1.other (by omega) _,HBW.out.trans hb2,by simp;rw[<-NP.out];omega⟩;rw[List.length_append, <-NP.out,ints_snoc];exact hr2
 case done=>
  rintro D xs W hD rfl ⟨⟨v,hv,hrow,_⟩,hR,hB,hp6⟩ hK;have hf:=(show OwnI W w.heap.size v (bothV zs ys)from hrow).form;obtain⟨xv,cv,rfl⟩:=hf;obtain⟨np,hnp⟩:∃np,np=(bothV zs ys).length:=⟨_,rfl⟩
  rw[<-hnp]at hv hrow hp6;have hc:=hv.cell;have hRc:=hR.cell;have hRf:=hR.frozen;have NP:=hd_ hnp;have HB:=hd_ hB;have lw3:=lw.out;clear hB hnp
  gi_wp2
  have hK2:=(KeepsOthers.setCell W ⟨w.heap.size+1+1,0,none⟩ (.slice xv np cv)).same D _ hK rfl;refine⟨by simp,.inl ⟨_,_,rfl,run_takeDeferred hK2,?_⟩⟩;have b4:=((hR.set (.slice xv np cv)).kept (grownBy_putObj' _ D (.deferred none)) (by simp;omega))
  have hr:=b4.cell;have o2:=(hrow.kept (grownBy_setCell' W (w.heap.size+1+1) (.slice xv np cv)) (.inr (hR.not_row (by decide) hrow).symm))
  have o3:=ownsRow_putObj o2 (.deferred none) hK2 rfl;have hb4:Below w.heap.size W (W.setCell ⟨w.heap.size+1+1,0,none⟩ (.slice xv np cv)):=(Below.refl _ _).setCell (by simp;omega) _;refine⟨.tuple #[.agg #[.slice xv np cv],.bool true],by simp[results,Tryz.results196,go_sem,hr],_,rfl,?_,(HB.out.trans hb4).trans (belowK_b (w:=w) lr_ _ D _ _ (by omega) hK2 rfl rfl)⟩;unfold OwnI
  have e:(bothV zs ys).take 6=bothV zs ys:=List.take_of_length_le (by rw[<-NP.out];exact hp6);rw[e, <-NP.out];exact o3
 case stop=>
  rintro D cj pre W hD hpf ⟨⟨rfl,h7⟩,⟨v,hv,hrow,_⟩,hR,hB⟩ hK;have l6:(pre.take 6).length=6:=by simp;omega
  have hf:=(show OwnI W w.heap.size v (pre.take 6)from by unfold OwnI;rw[l6];exact hrow).form;rw[l6]at hf;obtain⟨xv,cv,rfl⟩:=hf;obtain⟨np,hnp⟩:∃np,np=6:=⟨_,rfl⟩
  rw[<-hnp]at hv hrow;have hc:=hv.cell;have hRc:=hR.cell;have hRf:=hR.frozen;have NP:=hd_ hnp;have HB:=hd_ hB;have lw3:=lw.out;have PF:=hd_ hpf;clear hB hnp hpf
  gi_wp2
  have hK2:=(KeepsOthers.setCell W ⟨w.heap.size+1+1,0,none⟩ (.slice xv np cv)).same D _ hK rfl;refine⟨by simp,.inl ⟨_,_,rfl,run_takeDeferred hK2,?_⟩⟩;have b4:=((hR.set (.slice xv np cv)).kept (grownBy_putObj' _ D (.deferred none)) (by simp;omega))
  have hr:=b4.cell;have o2:=(hrow.kept (grownBy_setCell' W (w.heap.size+1+1) (.slice xv np cv)) (.inr (hR.not_row (by decide) hrow).symm))
  have o3:=ownsRow_putObj o2 (.deferred none) hK2 rfl;have hb4:Below w.heap.size W (W.setCell ⟨w.heap.size+1+1,0,none⟩ (.slice xv np cv)):=(Below.refl _ _).setCell (by simp;omega) _;refine⟨.tuple #[.agg #[.slice xv np cv],.bool true],by simp[results,Tryz.results196,go_sem,hr],_,rfl,?_,(HB.out.trans hb4).trans (belowK_b (w:=w) lr_ _ D _ _ (by omega) hK2 rfl rfl)⟩
  have e:(bothV zs ys).take 6=pre.take 6:=by
   obtain⟨r,hr'⟩:=PF.out;rw[<-hr',List.take_append_of_le_length (by omega)]
  unfold OwnI;rw[e,l6, <-NP.out];exact o3
end Go.Proofs.YtcblbdpdbggkbaaGreat
namespace Go.Proofs.YtcblbdpdbggkbaaGreat
open Go.RowKit
abbrev Asc (zs:List Int):Prop:=zs.Pairwise (· <·)
theorem asc_ext:∀{X Y:List Int},Asc X->Asc Y->(∀z,z ∈ X↔z ∈ Y)->X=Y
 | [],[],_,_,_=>rfl
 | [],y::Y,_,_,h=>by have:=(h y).2 (by simp);simp at this
 |x::X,[],_,_,h=>by have:=(h x).1 (by simp);simp at this
 |x::X,y::Y,hx,hy,h=>by
  obtain⟨x1,x2⟩:=List.pairwise_cons.1 hx;obtain⟨y1,y2⟩:=List.pairwise_cons.1 hy;have e:x=y:=by
   have h1:=(h x).1 (by simp);have h2:=(h y).2 (by simp);simp only[List.mem_cons]at h1 h2;rcases h1 with h1|h1
   ·exact h1
   ·rcases h2 with h2|h2
    ·exact h2.symm
    ·have:=y1 x h1;have:=x1 y h2;omega
  subst e
  congr 1
  refine asc_ext x2 y2 fun z=>?_
  have hz:=h z;simp only[List.mem_cons]at hz
  constructor
  ·intro q
   have:=x1 z q;rcases hz.1 (.inr q)with e|e
   ·omega
   ·exact e
  ·intro q
   have:=y1 z q;rcases hz.2 (.inr q)with e|e
   ·omega
   ·exact e
def ins (m:Int):List Int->List Int
 | []=>[m]
 |x::xs=>if m<x then m::x::xs else if m=x then x::xs else x::ins m xs
theorem ins_mem (m:Int):∀(zs:List Int) (z:Int),z ∈ ins m zs↔z=m\/z ∈ zs
 | [],z=>by simp[ins]
 |x::xs,z=>by
  unfold ins
  by_cases h1:m<x
  ·rw[if_pos h1];simp
  ·rw[if_neg h1]
   by_cases h2:m=x
   ·rw[if_pos h2];subst h2;simp
   ·rw[if_neg h2]
    simp only[List.mem_cons,ins_mem m xs z]
    constructor
    ·rintro (h|h|h)
     ·exact .inr (.inl h)
     ·exact .inl h
     ·exact .inr (.inr h)
    ·rintro (h|h|h)
     ·exact .inr (.inl h)
     ·exact .inl h
     ·exact .inr (.inr h)
theorem ins_asc (m:Int):∀{zs:List Int},Asc zs->Asc (ins m zs)
 | [],_=>by simp[ins]
 |x::xs,h=>by
  obtain⟨h1,h2⟩:=List.pairwise_cons.1 h;unfold ins
  by_cases q1:m<x
  ·rw[if_pos q1]
   refine List.pairwise_cons.2 ⟨fun z hz=>?_,h⟩;simp only[List.mem_cons]at hz;rcases hz with rfl|hz
   ·exact q1
   ·have:=h1 z hz;omega
  ·rw[if_neg q1]
   by_cases q2:m=x
   ·rw[if_pos q2];exact h
   ·rw[if_neg q2]
    refine List.pairwise_cons.2 ⟨fun z hz=>?_,ins_asc m h2⟩;rcases (ins_mem m xs z).1 hz with rfl|hz
    ·omega
    ·exact h1 z hz
theorem ins_take (m:Int):∀(zs:List Int) (k:Nat),(ins m (zs.take k)).take k=(ins m zs).take k
 |_,0=>by simp
 | [],k+1=>by simp
 |x::xs,k+1=>by
  rw[List.take_succ_cons];unfold ins
  by_cases q1:m<x
  ·rw[if_pos q1,if_pos q1,List.take_succ_cons,List.take_succ_cons]
   congr 1
   cases k with
   |zero=>simp
   |succ k=>rw[List.take_succ_cons,List.take_succ_cons,List.take_take];congr 2;omega
  ·rw[if_neg q1,if_neg q1]
   by_cases q2:m=x
   ·rw[if_pos q2,if_pos q2,List.take_succ_cons,List.take_succ_cons,List.take_take];congr 2;omega
   ·rw[if_neg q2,if_neg q2,List.take_succ_cons,List.take_succ_cons,ins_take m xs k]
theorem putL_true (m:Int):∀{zs:List Int},(∀z ∈ zs,m<z)->putL m zs true=zs
 | [],_=>rfl
 |x::xs,h=>by
  have h1:=h x (by simp);rw[put4 _ (.inl rfl) (by omega),putL_true m (fun z hz=>h z (by simp[hz]))]
  rfl
theorem putL_ins (m:Int):∀{zs:List Int},Asc zs->putL m zs false=ins m zs
 | [],_=>rfl
 |x::xs,h=>by
  obtain⟨h1,h2⟩:=List.pairwise_cons.1 h;unfold ins
  by_cases q1:m<x
  ·rw[if_pos q1,put2 _ (by omega) (by omega),putL_true m (fun z hz=>by have:=h1 z hz;omega)];rfl
  ·rw[if_neg q1]
   by_cases q2:m=x
   ·subst q2
    rw[if_pos rfl,put1,putL_true m h1];rfl
   ·rw[if_neg q2,put4 _ (.inr (by omega)) (by omega),putL_ins m h2];rfl
def unionL (zs ys:List Int):List Int:=ys.foldl (fun acc m=>ins m acc) zs
theorem union_mem:∀(ys zs:List Int) (z:Int),z ∈ unionL zs ys↔z ∈ zs\/z ∈ ys
 | [],zs,z=>by simp[unionL]
 |y::ys,zs,z=>by
  show z ∈ unionL (ins y zs) ys↔_
  rw[union_mem ys,ins_mem];simp only[List.mem_cons]
  constructor
  ·rintro ((h|h)|h)
   ·exact .inr (.inl h)
   ·exact .inl h
   ·exact .inr (.inr h)
  ·rintro (h|h|h)
   ·exact .inl (.inr h)
   ·exact .inl (.inl h)
   ·exact .inr h
theorem union_asc:∀(ys:List Int) {zs:List Int},Asc zs->Asc (unionL zs ys)
 | [],_,h=>h
 |y::ys,_,h=>union_asc ys (ins_asc y h)
theorem union_take (k:Nat):∀(ys zs:List Int),(unionL (zs.take k) ys).take k=(unionL zs ys).take k
 | [],zs=>by show (zs.take k).take k=zs.take k;rw[List.take_take];congr 1;omega
 |y::ys,zs=>by
  show (unionL (ins y (zs.take k)) ys).take k=(unionL (ins y zs) ys).take k
  rw[<-union_take k ys (ins y (zs.take k)), <-union_take k ys (ins y zs),ins_take]
def joinV6 (zs ys:List Int):List Int:=(unionL zs ys).take 6
theorem union_comm {zs ys:List Int} (hz:Asc zs) (hy:Asc ys):unionL zs ys=unionL ys zs:=
 asc_ext (union_asc _ hz) (union_asc _ hy) fun z=>by rw[union_mem,union_mem];exact Or.comm
theorem join6_comm {zs ys:List Int} (hz:Asc zs) (hy:Asc ys):joinV6 zs ys=joinV6 ys zs:=by unfold joinV6;rw[union_comm hz hy]
theorem join6_asc {zs ys:List Int} (hz:Asc zs):Asc (joinV6 zs ys):=(union_asc ys hz).take
theorem union_assoc {zs ys xs:List Int} (hz:Asc zs) (hy:Asc ys):unionL (unionL zs ys) xs=unionL zs (unionL ys xs):=
 asc_ext (union_asc _ (union_asc _ hz)) (union_asc _ hz) fun z=>by rw[union_mem,union_mem,union_mem,union_mem];exact or_assoc
theorem join6_assoc {zs ys xs:List Int} (hz:Asc zs) (hy:Asc ys) (hx:Asc xs):joinV6 (joinV6 zs ys) xs=joinV6 zs (joinV6 ys xs):=by
 have e1:joinV6 (joinV6 zs ys) xs=(unionL (unionL zs ys) xs).take 6:=union_take 6 xs (unionL zs ys);have e2:joinV6 zs (joinV6 ys xs)=(unionL (unionL ys xs) zs).take 6:=by
  rw[join6_comm hz (join6_asc hy)];exact union_take 6 zs (unionL ys xs)
 rw[e1,e2,union_assoc hz hy,union_comm hz (union_asc _ hy)]
theorem join6_over {zs ys:List Int} (hz:Asc zs) (hy:Asc ys):joinV6 (joinV6 zs ys) ys=joinV6 zs ys:=by
 rw[join6_assoc hz hy hy];unfold joinV6;have e:unionL ys ys=ys:=asc_ext (union_asc _ hy) hy fun z=>by rw[union_mem];exact or_self_iff
 rw[e];rw[union_comm hz (List.Pairwise.take hy),union_take,union_comm hz hy]
theorem behindV_yes {u m:Int} (us:List Int) (h:u=m):behindV (u::us) m=us:=by
 unfold behindV;rw[if_pos (show firstV (u::us)=m from h)]
 rfl
theorem behindV_no {u m:Int} (us:List Int) (h:¬u=m):behindV (u::us) m=u::us:=if_neg h
theorem bothL_mem:∀(k:Nat) (zs ys:List Int),(∀z ∈ zs,z<64)->(∀z ∈ ys,z<64)->zs.length+ys.length<=k->∀z,z ∈ bothL k zs ys↔z ∈ zs\/z ∈ ys
 | 0,zs,ys,_,_,hk,z=>by
  have h1:zs=[]:=List.eq_nil_of_length_eq_zero (by omega);have h2:ys=[]:=List.eq_nil_of_length_eq_zero (by omega);subst h1 h2;simp[bothL]
 |k+1,zs,ys,hz,hy,hk,z=>by
  unfold bothL
  by_cases hE:zs=[]/\ys=[]
  ·rw[if_pos hE,hE.1,hE.2];simp
  ·rw[if_neg hE]
   obtain⟨m64,hlt⟩:=both_less hz hy hE;obtain⟨M,hM⟩:∃M,M=min (firstV zs) (firstV ys):=⟨_,rfl⟩
   rw[<-hM]at m64 hlt ⊢;rw[List.mem_cons,bothL_mem k _ _ (fun z h=>hz z (behindV_mem h)) (fun z h=>hy z (behindV_mem h)) (by omega)];have bm:∀us:List Int,(z ∈ us/\z≠M->z ∈ behindV us M)/\(firstV us=M->us≠[]->M ∈ us):=fun us=>by
    cases us with
    |nil=>exact⟨fun h=>by simp at h,fun _ h=>absurd rfl h⟩
    |cons u us=>
     refine⟨fun h=>?_,fun h _=>by rw[<-show u=M from h];simp⟩
     by_cases e:u=M
     ·rw[behindV_yes us e]
      subst e;simp only[List.mem_cons]at h;rcases h.1 with h1|h1
      ·exact absurd h1 h.2
      ·exact h1
     ·rw[behindV_no us e]
      exact h.1
   constructor
   ·rintro (rfl|h|h)
    ·by_cases h3:firstV zs<=firstV ys
     ·have e:firstV zs=z:=by omega
      refine .inl ((bm zs).2 e fun q=>?_);rw[q]at e;rw[<-e]at m64;exact absurd m64 (by decide)
     ·have e:firstV ys=z:=by omega
      refine .inr ((bm ys).2 e fun q=>?_);rw[q]at e;rw[<-e]at m64;exact absurd m64 (by decide)
    ·exact .inl (behindV_mem h)
    ·exact .inr (behindV_mem h)
   ·intro h
    by_cases e:z=M
    ·exact .inl e
    ·exact .inr (h.imp (fun q=>(bm zs).1 ⟨q,e⟩) (fun q=>(bm ys).1 ⟨q,e⟩))
theorem behindV_asc {zs:List Int} (h:Asc zs) (m:Int):Asc (behindV zs m):=by unfold behindV;split;exact h.tail;exact h
theorem behindV_gt {zs:List Int} (h:Asc zs) {m:Int} (hm:m<=firstV zs):∀z ∈ behindV zs m,m<z:=fun z hz=>by
 cases zs with
 |nil=>have:=behindV_mem hz;cases this
 |cons x xs=>
  have h1:=(List.pairwise_cons.1 h).1;have hm':m<=x:=hm
  by_cases e:x=m
  ·rw[behindV_yes xs e]at hz
   have:=h1 z hz;omega
  ·rw[behindV_no xs e]at hz
   simp only[List.mem_cons]at hz;rcases hz with rfl|hz
   ·omega
   ·have:=h1 z hz;omega
theorem bothL_asc:∀(k:Nat) (zs ys:List Int),Asc zs->Asc ys->(∀z ∈ zs,z<64)->(∀z ∈ ys,z<64)->zs.length+ys.length<=k->Asc (bothL k zs ys)
 | 0,_,_,_,_,_,_,_=>by simp[bothL]
 |k+1,zs,ys,az,ay,hz,hy,hk=>by
  unfold bothL
  by_cases hE:zs=[]/\ys=[]
  ·rw[if_pos hE];exact List.Pairwise.nil
  ·rw[if_neg hE]
   obtain⟨m64,hlt⟩:=both_less hz hy hE;obtain⟨M,hM⟩:∃M,M=min (firstV zs) (firstV ys):=⟨_,rfl⟩
   rw[<-hM]at m64 hlt ⊢;refine List.pairwise_cons.2 ⟨fun z hz'=>?_,bothL_asc k _ _ (behindV_asc az M) (behindV_asc ay M) (fun z h=>hz z (behindV_mem h)) (fun z h=>hy z (behindV_mem h)) (by omega)⟩;rcases (bothL_mem k _ _ (fun z h=>hz z (behindV_mem h)) (fun z h=>hy z (behindV_mem h)) (by omega) z).1 hz' with h|h
   ·exact behindV_gt az (by omega) z h
   ·exact behindV_gt ay (by omega) z h
theorem both_join {zs ys:List Int} (az:Asc zs) (ay:Asc ys) (hz:∀z ∈ zs,z<64) (hy:∀z ∈ ys,z<64):(bothV zs ys).take 6=joinV6 zs ys:=by
 have:bothV zs ys=unionL zs ys:=asc_ext (bothL_asc _ _ _ az ay hz hy lr_) (union_asc _ az) fun z=>by
  rw[union_mem];exact bothL_mem _ _ _ hz hy lr_ z
 rw[this];rfl
theorem few_lt' {zs:List Int} (h:fewB zs=true):∀j i,i<j->j<zs.length->zs.getD i 0<zs.getD j 0:=by
 have hp:=(fewB_parts h).2.2;intro j
 induction j with
 |zero=>intro i hi;omega
 |succ j ih=>
  intro i hi hj;have h1:=hp j hj
  by_cases e:i=j
  ·subst e;exact h1
  ·have:=ih i (by omega) (by omega);omega
theorem few_asc {zs:List Int} (h:fewB zs=true):Asc zs:=by
 rw[Asc,List.pairwise_iff_getElem];intro i j hi hj hij;have:=few_lt' h j i hij hj;simpa[hi,hj]using this
theorem few_bd {zs:List Int} (h:fewB zs=true):∀z ∈ zs,0<=z/\z<64:=fun z hz=>by
 obtain⟨i,hi,rfl⟩:=mem_get.1 hz;have:=(fewB_parts h).2.1 i hi;omega
theorem few_of {zs:List Int} (ha:Asc zs) (hb:∀z ∈ zs,0<=z/\z<64) (hl:zs.length<=6):fewB zs=true:=by
 refine fewB_good hl fun i hi=>⟨?_,fun h0=>?_⟩
 ·have:=hb _ (getD_mem zs i 0 hi);omega
 ·have:=(List.pairwise_iff_getElem.1 ha) (i - 1) i (by omega) hi (by omega)
  simpa[hi,show i - 1<zs.length by omega]using this
theorem join6_few {zs ys:List Int} (hz:fewB zs=true) (hy:fewB ys=true):fewB (joinV6 zs ys)=true:=by
 refine few_of (join6_asc (few_asc hz)) (fun z h=>?_) (by simp[joinV6];omega);rcases (union_mem ys zs z).1 (List.mem_of_mem_take h)with h|h
 ·exact few_bd hz z h
 ·exact few_bd hy z h
theorem put_join {zs:List Int} (hz:Asc zs) (m:Int):putV zs m=joinV6 zs [m]:=by
 unfold putV joinV6;rw[putL_ins m hz];rfl
end Go.Proofs.YtcblbdpdbggkbaaGreat
namespace Go.Proofs.YtcblbdpdbggkbaaGreat
open Go.RowKit Go.Sort
def joinOkF (zs ys:List Int):Bool:=fewB zs&&fewB ys
def joinF (zs ys:List Int):List Int:=if joinOkF zs ys=true then joinV6 zs ys else []
theorem joinF_yes {zs ys:List Int} (h:joinOkF zs ys=true):joinF zs ys=joinV6 zs ys:=if_pos h
theorem joinF_no {zs ys:List Int} (h:joinOkF zs ys=false):joinF zs ys=[]:=if_neg (by rw[h];simp)
theorem joinF_few (zs ys:List Int):fewB (joinF zs ys)=true:=by
 cases h:joinOkF zs ys with
 |true=>
  rw[joinF_yes h];unfold joinOkF at h;simp only[Bool.and_eq_true]at h;exact join6_few h.1 h.2
 |false=>rw[joinF_no h];decide
theorem free_later' {w w':World} {a:Addr} (hb:Below w.heap.size w w') (h:w.frozen? a=false) (hl:a.block<w.heap.size):w'.frozen? a=false:=by rw[hb.frozen hl];exact h
theorem imFewJoin_no (w:World) (u v:Value) (zs ys:List Int) (ha:Ints w u zs) (hb:Ints w v ys) (hno:joinOkF zs ys=false):
  Calls Tryz.prog 196 #[.agg #[u],.agg #[v]] w fun e w'=>e=.returned (.tuple #[.agg #[.slice none 0 0],.bool false])/\Below w.heap.size w w':=by
 have hA:=(((Below.refl w.heap.size w).alloc lr_ (.cells #[u] 38)).alloc (by simp) (.cells #[v] 38)).alloc (by simp;omega) (.cells #[.slice none 0 0] 38);have KA:=hd_ (imFewOk_at _ u zs (ha.below hA lr_));have JB:=hd_ (hb.below hA lr_);have HA:=hd_ hA;obtain⟨⟨x,c,hx⟩,_⟩:=ha.cases;obtain⟨⟨y,d,hy⟩,_⟩:=hb.cases;obtain⟨na,hna⟩:∃n,n=zs.length:=⟨_,rfl⟩
 obtain⟨nb,hnb⟩:∃n,n=ys.length:=⟨_,rfl⟩
 rw[<-hna]at hx;rw[<-hnb]at hy;subst hx hy;obtain⟨w0,hw0⟩:∃w0,w0=((w.alloc (.cells #[.slice x na c] 38)).alloc (.cells #[.slice y nb d] 38)).alloc (.cells #[.slice none 0 0] 38):=⟨_,rfl⟩
 have c1:w0.cell? ⟨w.heap.size+1,0,none⟩=some (.slice y nb d):=by rw[hw0,World.cell?_alloc_past (hn:=by simp),World.cell?_alloc_at (hn:=by simp)];simp
 have c2:w0.cell? ⟨w.heap.size+1+1,0,none⟩=some (.slice none 0 0):=by rw[hw0,World.cell?_alloc_at (hn:=by simp)];simp
 have f2:w0.frozen? ⟨w.heap.size+1+1,0,none⟩=false:=by rw[hw0];exact World.frozen?_alloc_at _ _ _ _ (by simp)
 rw[<-hw0]at KA JB HA;have HW:=hd_ hw0;clear ha hb hA hna hnb hw0;cases hok:fewB zs with
 |false=>
  rw[hok]at KA;clear hok hno;go_enter Tryz.func196,Tryz.ntmps196
  go_wp2_with fail
  rw[<-HW.out];refine KA.out.mono ?_;rintro e w1 ⟨rfl,hb1⟩;have c21:=cell_later hb1 c2;have f21:w1.frozen? ⟨w.heap.size+1+1,0,none⟩=false:=free_later' hb1 f2 (World.block_lt_of_cell? _ _ c2);have L1:=hd_ (HA.out.trans (hb1.mono HA.out.size));clear hb1;go_wp2;have hr:=World.cell?_setCell_same w1 ⟨w.heap.size+1+1,0,none⟩ (.slice none 0 0) c21
  exact bodyPost_ret (v:=.tuple #[.agg #[.slice none 0 0],.bool false]) (by simp[results,Tryz.results196,go_sem,hr]) rfl ⟨rfl,L1.out.setCell (by simp;omega) _⟩
 |true=>
  rw[hok]at KA;have okb:fewB ys=false:=by unfold joinOkF at hno;rw[hok]at hno;simpa using hno
  clear hok hno;go_enter Tryz.func196,Tryz.ntmps196
  go_wp2_with fail
  rw[<-HW.out];refine KA.out.mono ?_;rintro e w1 ⟨rfl,hb1⟩;have c11:=cell_later hb1 c1;have c21:=cell_later hb1 c2;have f21:w1.frozen? ⟨w.heap.size+1+1,0,none⟩=false:=free_later' hb1 f2 (World.block_lt_of_cell? _ _ c2);have KB:=hd_ (imFewOk_at w1 _ ys (JB.out.below hb1 lr_));rw[okb]at KB;have L1:=hd_ (HA.out.trans (hb1.mono HA.out.size));clear hb1
  go_wp2_with fail
  refine KB.out.mono ?_;rintro e w2 ⟨rfl,hb2⟩;have c22:=cell_later hb2 c21;have f22:w2.frozen? ⟨w.heap.size+1+1,0,none⟩=false:=free_later' hb2 f21 (World.block_lt_of_cell? _ _ c21);have L2:=hd_ (L1.out.trans (hb2.mono L1.out.size));clear hb2;go_wp2;have hr:=World.cell?_setCell_same w2 ⟨w.heap.size+1+1,0,none⟩ (.slice none 0 0) c22
  exact bodyPost_ret (v:=.tuple #[.agg #[.slice none 0 0],.bool false]) (by simp[results,Tryz.results196,go_sem,hr]) rfl ⟨rfl,L2.out.setCell (by simp;omega) _⟩
theorem imFewJoin_at (w:World) (u v:Value) (zs ys:List Int) (ha:Ints w u zs) (hb:Ints w v ys):
  Calls Tryz.prog 196 #[.agg #[u],.agg #[v]] w fun e w'=>∃v',e=.returned (.tuple #[.agg #[v'],.bool (joinOkF zs ys)])/\OwnI w' w.heap.size v' (joinF zs ys)/\Below w.heap.size w w':=by
 cases hok:joinOkF zs ys with
 |false=>
  rw[joinF_no hok];exact (imFewJoin_no w u v zs ys ha hb hok).mono fun e w' ⟨he,hb⟩=>⟨_,he,OwnI.nil _ _,hb⟩
 |true=>
  rw[joinF_yes hok];have h':=hok;unfold joinOkF at h';simp only[Bool.and_eq_true]at h';rw[<-both_join (few_asc h'.1) (few_asc h'.2) (fun z h=>(few_bd h'.1 z h).2) (fun z h=>(few_bd h'.2 z h).2)];exact imFewJoin_yes w u v zs ys ha hb h'.1 h'.2
theorem few_one (t:Int):fewB [markV t]=inThings t:=by
 cases h:inThings t with
 |true=>
  have ht:=(inThings_iff t).1 h;have:=markV_in ht.1 ht.2;exact few_of (by simp) (fun z hz=>by simp at hz;subst hz;exact this) (by simp)
 |false=>
  have ht:=(inThings_no t).1 h;rw[markV_no ht]
  decide
theorem join_add (zs:List Int) (t:Int):joinOkF zs [markV t]=addOkF zs t:=by unfold joinOkF addOkF;rw[few_one]
theorem joinF_add (zs:List Int) (t:Int):joinF zs [markV t]=addF zs t:=by
 cases h:addOkF zs t with
 |true=>
  rw[addF_yes h,joinF_yes (by rw[join_add];exact h)];unfold addOkF at h;simp only[Bool.and_eq_true]at h;exact (put_join (few_asc h.1) _).symm
 |false=>rw[addF_no h,joinF_no (by rw[join_add];exact h)]
theorem imFewAdd_at (w:World) (u:Value) (zs:List Int) (t:Int) (h:Ints w u zs):
  Calls Tryz.prog 232 #[.agg #[u],.int .i64 t] w fun e w'=>∃v,e=.returned (.tuple #[.agg #[v],.bool (addOkF zs t)])/\OwnI w' w.heap.size v (addF zs t)/\Below w.heap.size w w':=by
 rw[<-join_add, <-joinF_add];have hA:=((Below.refl w.heap.size w).alloc lr_ (.cells #[u] 38)).alloc (by simp) (.cells #[.slice none 0 0] 38);have I:=h.below hA lr_;have KM:Hid (∀W,Calls Tryz.prog 176 #[.int .i64 t] W fun e w'=>e=.returned (.int .i64 (markV t))/\W=w'):=fun W=>imMark_at t W
 obtain⟨⟨x,c,hx⟩,_⟩:=h.cases;obtain⟨n,hn⟩:∃n,n=zs.length:=⟨_,rfl⟩
 rw[<-hn]at hx;subst hx;generalize markV t=M at *;obtain⟨w0,hw0⟩:∃w0,w0=(w.alloc (.cells #[.slice x n c] 38)).alloc (.cells #[.slice none 0 0] 38):=⟨_,rfl⟩
 have cb:w0.cell? ⟨w.heap.size,0,none⟩=some (.slice x n c):=by rw[hw0,World.cell?_alloc_past (hn:=by simp)];simp
 have cr:w0.cell? ⟨w.heap.size+1,0,none⟩=some (.slice none 0 0):=by rw[hw0,World.cell?_alloc_at (hn:=by simp)];simp
 have fr:w0.frozen? ⟨w.heap.size+1,0,none⟩=false:=by rw[hw0];exact World.frozen?_alloc_at _ _ _ _ (by simp)
 have S0:Hid (w0.heap.size=w.heap.size+2):=by show w0.heap.size=_;rw[hw0];simp
 rw[<-hw0]at hA I;have hA1:=(Below.refl w0.heap.size w0).drew.alloc lr_ (.cells #[.int .i64 M] 3);have i1:=I.below hA1 lr_;have i2:Ints (w0.drew.alloc (.cells #[.int .i64 M] 3)) (.slice (some ⟨w0.heap.size,0,none⟩) 1 1) [M]:=by
  refine .inr ⟨w0.heap.size,0,1,rfl,Nat.le_refl _,by unfold maxLen;omega,by simp,fun i hi=>?_⟩;obtain rfl:i=0:=by simpa using hi
  rw[World.cell?_alloc_at (hn:=by simp)];simp
 have KJ:=hd_ (imFewJoin_at (w0.drew.alloc (.cells #[.int .i64 M] 3)) _ _ zs [M] i1 i2);have cr1:=cell_later hA1 cr;have fr1:(w0.drew.alloc (.cells #[.int .i64 M] 3)).frozen? ⟨w.heap.size+1,0,none⟩=false:=free_later' hA1 fr (World.block_lt_of_cell? _ _ cr);have cb1:=cell_later hA1 cb;have HA:=hd_ hA;have HA1:=hd_ hA1;have HW:=hd_ hw0
 have l1:w.heap.size+1<w0.heap.size:=World.block_lt_of_cell? _ _ cr;have l0:w.heap.size<w0.heap.size:=by omega
 clear h hn hA I hA1 i1 i2 hw0;go_enter Tryz.func232,Tryz.ntmps232
 go_wp2_with fail
 rw[<-HW.out];clear HW
 go_region_with (first
    |(go_at_call 176;refine (KM.out _).mono ?_;rintro e w' ⟨rfl,rfl⟩)
    |(go_at_call 196;refine KJ.out.mono ?_;rintro e w3 ⟨v3,rfl,ho3,hb3⟩;obtain⟨x3,c3,rfl⟩:=ho3.form;have cr3:=cell_later hb3 cr1;have fr3:w3.frozen? ⟨w.heap.size+1,0,none⟩=false:=free_later' hb3 fr1 (World.block_lt_of_cell? _ _ cr1)))
 all_goals
  have hs:=grownBy_setCell w3 ⟨w.heap.size+1,0,none⟩ (.slice x3 (joinF zs [M]).length c3);have o3:=(ho3.kept hs (fun k e=>by simp at e;have:=S0.out;simp;omega)).base (B':=w.heap.size) (by have:=S0.out;simp;omega)
  have hb4:Below w.heap.size w (w3.setCell ⟨w.heap.size+1,0,none⟩ (.slice x3 (joinF zs [M]).length c3)):=((HA.out.trans (HA1.out.mono HA.out.size)).trans (hb3.mono (by have:=S0.out;simp;omega))).setCell (by simp) _;have hr:=World.cell?_setCell_same w3 ⟨w.heap.size+1,0,none⟩ (.slice x3 (joinF zs [M]).length c3) cr3;have O3:=hd_ o3;have HB4:=hd_ hb4;have HR:=hd_ hr;clear ho3 hb3 hs o3 hb4 hr
  generalize (joinF zs [M]).length=n3 at *;go_wp2;have hr:=HR.out;exact bodyPost_ret (v:=.tuple #[.agg #[.slice x3 n3 c3],.bool (joinOkF zs [M])]) (by simp[results,Tryz.results232,go_sem,hr]) rfl ⟨_,rfl,O3.out,HB4.out⟩
end Go.Proofs.YtcblbdpdbggkbaaGreat
set_option linter.unusedVariables false
namespace Go.Proofs.YtcblbdpdbggkbaaGreat
open Go.RowKit Go.Sort
theorem ins_len (m:Int) (zs:List Int):zs.length<=(ins m zs).length/\(ins m zs).length<=zs.length+1:=by
 induction zs with
 |nil=>simp[ins]
 |cons x xs ih=>
  unfold ins
  split
  ·simp
  ·split
   ·simp
   ·simp only[List.length_cons];omega
theorem add_again {zs:List Int} {t:Int} (h:addOkF zs t=true):
  fewB (addF zs t)=true/\addOkF (addF zs t) t=true/\addF (addF zs t) t=addF zs t/\zs.length<=(addF zs t).length/\(addF zs t).length<=zs.length+1:=by
 have h':=h;unfold addOkF at h';simp only[Bool.and_eq_true]at h';have az:=few_asc h'.1;have f1:fewB (addF zs t)=true:=by rw[<-joinF_add];exact joinF_few _ _
 have ok1:addOkF (addF zs t) t=true:=by unfold addOkF;rw[f1,h'.2];rfl
 have e0:addF zs t=joinV6 zs [markV t]:=by rw[addF_yes h,put_join az]
 have e1:addF (addF zs t) t=addF zs t:=by
  rw[addF_yes ok1,put_join (few_asc f1),e0];exact join6_over az (by simp)
 have l6:=(fewB_parts h'.1).1;have hl:=ins_len (markV t) zs;have el:addF zs t=(ins (markV t) zs).take 6:=by rw[e0];rfl
 refine⟨f1,ok1,e1,?_,?_⟩<;>(rw[el,List.length_take];omega)
end Go.Proofs.YtcblbdpdbggkbaaGreat
