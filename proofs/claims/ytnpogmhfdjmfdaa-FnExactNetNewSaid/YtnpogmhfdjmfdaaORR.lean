/-
  Rows and marks of one's own, between two bounds; how the counts' functions answer by such.
-/
import Derived.Test.YtnpogmhfdjmfdaaRc
import Derived.Test.YtnpogmhfdjmfdaaFa
import Derived.RangeFuncBox
set_option linter.unusedVariables false
namespace Go.Proofs.Ytnpogmhfdjmfdaa
open Go.RowKit Go.Sort

theorem OwnI.keep {w w' : World} {B : Nat} {v : Value} {zs : List Int} {row : Option Nat} (h : OwnI w B v zs) (hg : w.grownBy w' row) (hr : v.ownBlock ≠ row) : OwnI w' B v zs := World.ownsRow.kept h hg (.inr hr)
theorem OwnI.below {w w' : World} {B : Nat} {v : Value} {zs : List Int} (h : OwnI w B v zs) (hb : Below w.heap.size w w') : OwnI w' B v zs := h.kept (row := none) (grownBy_below hb) (fun _ e => by cases e)

theorem OwnI.lt {w : World} {B : Nat} {p : Value} {zs : List Int} (hp : OwnI w B p zs) : ∀ k, p.ownBlock = some k → k < w.heap.size := fun k e => (World.ownsRow.lt hp k e).2
theorem boxed_below {W w' : World} {b : Nat} {t : TypeId} {v : Value} (h : Go.Boxed W b t v) (hb : Below W.heap.size W w') : Go.Boxed w' b t v := (hb.block _ h.lt).trans h

/-- The value v is the rows rs, in blocks of the call's own, from B on and ahead of T. -/
def OwnRR (W : World) (B T : Nat) (v : Value) (rs : List (List Int)) : Prop := ∃ G C, OwnR W B v rs G C ∧ (∀ k, v.ownBlock = some k → k < T) ∧ (∀ i, i < rs.length → G i < T) ∧ T ≤ W.heap.size
theorem OwnR.bounds {W : World} {B : Nat} {v : Value} {rs : List (List Int)} {G C : Nat → Nat} (h : OwnR W B v rs G C) : OwnRR W B W.heap.size v rs :=
  ⟨G, C, h, fun k e => (World.ownsRow.lt h.hdr k e).2, fun i hi => ((h.row i hi).lt (G i) rfl).2, Nat.le_refl _⟩
theorem OwnRR.top {W : World} {B T : Nat} {v : Value} {rs : List (List Int)} (h : OwnRR W B T v rs) : T ≤ W.heap.size := by obtain ⟨_, _, _, _, _, h⟩ := h; exact h
theorem OwnRR.rd {W : World} {B T : Nat} {v : Value} {rs : List (List Int)} (h : OwnRR W B T v rs) : Rws W v rs := by obtain ⟨G, C, h, _⟩ := h; exact h.rws
theorem OwnRR.below {W W' : World} {B T : Nat} {v : Value} {rs : List (List Int)} (h : OwnRR W B T v rs) (hb : Below W.heap.size W W') : OwnRR W' B T v rs := by
  obtain ⟨G, C, h, h1, h2, h3⟩ := h; exact ⟨G, C, h.below hb (Nat.le_refl _), h1, h2, Nat.le_trans h3 hb.size⟩
theorem OwnRR.alloc {W : World} {B T : Nat} {v : Value} {rs : List (List Int)} (h : OwnRR W B T v rs) (o : Obj) : OwnRR (W.alloc o) B T v rs := h.below ((Below.refl _ _).alloc (Nat.le_refl _) o)
theorem OwnRR.nil (W : World) (B T : Nat) (hT : T ≤ W.heap.size) : OwnRR W B T (.slice none 0 0) [] :=
  ⟨fun _ => 0, fun _ => 0, ⟨World.ownsRow_nil W B _ 1, fun i hi => absurd hi (Nat.not_lt_zero i), fun i hi => absurd hi (Nat.not_lt_zero i), fun i j hi => absurd hi (Nat.not_lt_zero i)⟩, (fun k e => by cases e), (fun i hi => absurd hi (Nat.not_lt_zero i)), hT⟩
/-- How both RoughAdds and both RoughJoins answer. -/
theorem EndR.own {w w' : World} {ok : Bool} {rs : List (List Int)} {e : Ending} (h3 : ok = true → rs.length = 3) (h : EndR w ok rs e w') :
    ∃ x c, e = .returned (.tuple #[.agg #[.slice x (resV ok rs).length c], .bool ok]) ∧ OwnRR w' w.heap.size w'.heap.size (.slice x (resV ok rs).length c) (resV ok rs) ∧ Below w.heap.size w w' := by
  obtain ⟨x, m, c, he, hb, h0, h1⟩ := h
  cases ok with
  | false => obtain ⟨rfl, rfl, rfl⟩ := h0 rfl; exact ⟨none, 0, he, OwnRR.nil _ _ _ (Nat.le_refl _), hb⟩
  | true =>
    obtain ⟨rfl, G, C, ho⟩ := h1 rfl
    have e3 : (resV true rs).length = 3 := h3 rfl
    rw [e3]
    exact ⟨x, c, he, ho.bounds, hb⟩
theorem ownsRow_keptB {w w' : World} {B : Nat} {e : TypeId} {size : Nat} {v : Value} {n : Nat} {xs : List Value} {S : Nat → Prop} (h : w.ownsRow B e size v n xs) (hk : KeptB S w w') (hS : ∀ k, v.ownBlock = some k → ¬ S k) : w'.ownsRow B e size v n xs := by
  obtain ⟨h1, h2⟩ := h
  refine ⟨h1, ?_⟩
  rcases h2 with h2 | ⟨g, cap, cur, hv, hg, hh, r⟩
  · exact .inl h2
  · refine .inr ⟨g, cap, cur, hv, hg, ?_, r⟩
    rw [hk.block g (Array.getElem?_eq_some_iff.1 hh).1 (hS g (by rw [hv]; rfl))]
    exact hh
theorem OwnRR.keptB {w w' : World} {B T : Nat} {v : Value} {rs : List (List Int)} {S : Nat → Prop} (h : OwnRR w B T v rs) (hk : KeptB S w w') (hS : ∀ k, B ≤ k → k < T → ¬ S k) : OwnRR w' B T v rs := by
  obtain ⟨G, C, h, h1, h2, h3⟩ := h
  refine ⟨G, C, ⟨ownsRow_keptB h.hdr hk fun k e => hS k (World.ownsRow.lt h.hdr k e).1 (h1 k e), fun i hi => ownsRow_keptB (h.row i hi) hk fun k e => ?_, h.off, h.apart⟩, h1, h2, Nat.le_trans h3 hk.size⟩
  have l := (World.ownsRow.lt (h.row i hi) k e).1
  have e' : G i = k := by simpa [rowV, Value.ownBlock] using e
  exact hS k l (by rw [← e']; exact h2 i hi)

def addA (rs : List (List Int)) (t n : Int) : List (List Int) := resV (addB rs t n) (addV rs t n)
def joinA (ra rb : List (List Int)) : List (List Int) := resV (joinB ra rb) (joinV ra rb)

end Go.Proofs.Ytnpogmhfdjmfdaa
