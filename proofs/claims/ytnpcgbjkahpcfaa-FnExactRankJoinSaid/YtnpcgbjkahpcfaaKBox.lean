/-
  A block of two cells: a struct of two fields that lies by itself.
-/
import Derived.Test.YtnpcgbjkahpcfaaKPair
namespace Go.Proofs.Ytnpcgbjkahpcfaa
open Go.RowKit Go.Sort

/-- Block b is a struct of two cells. -/
def Box2 (W : World) (b : Nat) (t : TypeId) (x y : Value) : Prop := W.heap[b]? = some (.cells #[x, y] t (0, 0))
section
variable {W W' : World} {b : Nat} {t : TypeId} {x y : Value}
theorem Box2.lt (h : Box2 W b t x y) : b < W.heap.size := (Array.getElem?_eq_some_iff.1 h).1
theorem Box2.new (W : World) (t : TypeId) (x y : Value) : Box2 (W.alloc (.cells #[x, y] t)) W.heap.size t x y := heap_alloc_new W _
theorem Box2.below (h : Box2 W b t x y) {B : Nat} (hb : Below B W W') (hB : b < B) : Box2 W' b t x y := (hb.block b hB).trans h
theorem Box2.later (h : Box2 W b t x y) (hb : Below W.heap.size W W') : Box2 W' b t x y := h.below hb h.lt
theorem Box2.drew (h : Box2 W b t x y) : Box2 W.drew b t x y := h
theorem Box2.drewN (h : Box2 W b t x y) (n : Nat) : Box2 (W.drewN n) b t x y := h
theorem Box2.alloc (h : Box2 W b t x y) (o : Obj) : Box2 (W.alloc o) b t x y := h.later ((Below.refl _ _).alloc (Nat.le_refl _) o)
theorem Box2.kept {row : Option Nat} (h : Box2 W b t x y) (hg : W.grownBy W' row) (hr : row ≠ some b) : Box2 W' b t x y := (hg.block b h.lt (fun e => hr e.symm)).trans h
theorem Box2.cell0 (h : Box2 W b t x y) : W.cell? ⟨b, 0, none⟩ = some x := by unfold Box2 at h; simp [World.cell?, h]
theorem Box2.cell1 (h : Box2 W b t x y) : W.cell? ⟨b, 1, none⟩ = some y := by unfold Box2 at h; simp [World.cell?, h]
theorem Box2.free (h : Box2 W b t x y) (i : Nat) : W.frozen? ⟨b, i, none⟩ = false := by unfold Box2 at h; simp [World.frozen?, h]
theorem Box2.set0 (h : Box2 W b t x y) (u : Value) : Box2 (W.setCell ⟨b, 0, none⟩ u) b t u y := by unfold Box2 at h ⊢; rw [heap_setCell_same W b 0 _ _ _ h]; rfl
theorem Box2.set1 (h : Box2 W b t x y) (u : Value) : Box2 (W.setCell ⟨b, 1, none⟩ u) b t x u := by unfold Box2 at h ⊢; rw [heap_setCell_same W b 1 _ _ _ h]; rfl
theorem Box2.set (h : Box2 W b t x y) (x' y' : Value) : Box2 ((W.setCell ⟨b, 0, none⟩ x').setCell ⟨b, 1, none⟩ y') b t x' y' := (h.set0 x').set1 y'
theorem Box2.not_row {B : Nat} {e : TypeId} {size n : Nat} {v : Value} {xs : List Value} (h : Box2 W b t x y) (ht : t ≠ e) (ho : W.ownsRow B e size v n xs) : v.ownBlock ≠ some b := fun hb => by
  rcases ho.2 with ⟨rfl, _⟩ | ⟨g, cap, cur, rfl, _, hg, _⟩
  · cases hb
  · obtain rfl : g = b := by simpa [Value.ownBlock] using hb
    unfold Box2 at h
    rw [hg] at h
    cases h
    exact ht rfl
end
theorem below_set2 {B b : Nat} {w W : World} (h : Below B w W) (hb : B ≤ b) (x y : Value) : Below B w ((W.setCell ⟨b, 0, none⟩ x).setCell ⟨b, 1, none⟩ y) := (h.setCell hb _).setCell hb _
theorem OwnP.set2 {W : World} {B b : Nat} {v : Value} {ps : List Pr} (h : OwnP W B v ps) (hv : v.ownBlock ≠ some b) (x y : Value) : OwnP ((W.setCell ⟨b, 0, none⟩ x).setCell ⟨b, 1, none⟩ y) B v ps :=
  (h.keep (grownBy_setCell W ⟨b, 0, none⟩ x) hv).keep (grownBy_setCell _ ⟨b, 1, none⟩ y) hv

end Go.Proofs.Ytnpcgbjkahpcfaa
