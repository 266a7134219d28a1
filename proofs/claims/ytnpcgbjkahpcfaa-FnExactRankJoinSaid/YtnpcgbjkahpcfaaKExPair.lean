/-
  What marks leave as it was; and what a call of two turned arguments leaves: a box with what it made, and an answer.
-/
import Derived.Test.YtnpcgbjkahpcfaaKMark
namespace Go.Proofs.Ytnpcgbjkahpcfaa
open Go.RowKit Go.Sort

/-- What was made earlier stays when what was made later is written into. -/
theorem OwnP.keepL {w w' : World} {B B' : Nat} {p q : Value} {zs ys : List Pr} (hp : OwnP w B p zs) (hlt : ∀ k, p.ownBlock = some k → k < B') (hq : OwnP w B' q ys) (hg : w.grownBy w' q.ownBlock) : OwnP w' B p zs := by
  refine World.ownsRow.kept hp hg ?_
  cases hv : p.ownBlock with
  | none => exact .inl rfl
  | some k => exact .inr (fun e => by have := hlt k hv; have := (World.ownsRow.lt hq k e.symm).1; omega)
/-- And the other way round. -/
theorem OwnP.keepR {w w' : World} {B' : Nat} {p q : Value} {ys : List Pr} (hq : OwnP w B' q ys) (hlt : ∀ k, p.ownBlock = some k → k < B') (hg : w.grownBy w' p.ownBlock) : OwnP w' B' q ys := hq.kept hg hlt
theorem below_markP {w W w' : World} {B : Nat} {p : Value} {zs : List Pr} (h : Below w.heap.size w W) (hp : OwnP W B p zs) (hB : w.heap.size ≤ B) (hg : W.grownBy w' p.ownBlock) : Below w.heap.size w w' :=
  h.grown hg h.size (fun k e => by have := (World.ownsRow.lt hp k e).1; omega)
theorem Box2.mark {W w' : World} {b B : Nat} {t : TypeId} {x y p : Value} {zs : List Pr} (h : Box2 W b t x y) (ht : t ≠ 33) (hp : OwnP W B p zs) (hg : W.grownBy w' p.ownBlock) : Box2 w' b t x y := h.kept hg (h.not_row ht hp)

def MadeRank (W : World) (ns : List Pr) (na : Int) (ok : Bool) (sp sb : Value) (wx : World) : Prop :=
  ∃ P xs cs B, sp = .pointer (some ⟨P, 0, none⟩) ∧ sb = .bool ok ∧ Below W.heap.size W wx ∧ W.heap.size ≤ B ∧ OwnP wx B (.slice xs ns.length cs) ns ∧ Box2 wx P 29 (.slice xs ns.length cs) (.int .i64 na)

/-- The box was made last. -/
theorem MadeRank.last {W wc : World} {ns : List Pr} {na : Int} {ok : Bool} {B cs : Nat} {xs : Option Addr} (h : Below W.heap.size W wc) (hB : W.heap.size ≤ B) (ho : OwnP wc B (.slice xs ns.length cs) ns) :
    MadeRank W ns na ok (.pointer (some ⟨wc.heap.size, 0, none⟩)) (.bool ok) (wc.alloc (.cells #[.slice xs ns.length cs, .int .i64 na] 29)) :=
  ⟨_, _, _, _, rfl, rfl, h.alloc h.size _, hB, ho.alloc _, Box2.new _ _ _ _⟩
/-- The box was there, and is written into. -/
theorem MadeRank.stored {W wc : World} {ns : List Pr} {na : Int} {ok : Bool} {B cs P : Nat} {xs : Option Addr} {x y : Value} (h : Below W.heap.size W wc) (hB : W.heap.size ≤ B) (ho : OwnP wc B (.slice xs ns.length cs) ns) (hP : W.heap.size ≤ P) (hX : Box2 wc P 29 x y) :
    MadeRank W ns na ok (.pointer (some ⟨P, 0, none⟩)) (.bool ok) ((wc.setCell ⟨P, 0, none⟩ (.slice xs ns.length cs)).setCell ⟨P, 1, none⟩ (.int .i64 na)) :=
  ⟨_, _, _, _, rfl, rfl, below_set2 h hP _ _, hB, ho.set2 (hX.not_row (by decide) ho) _ _, hX.set _ _⟩

end Go.Proofs.Ytnpcgbjkahpcfaa
