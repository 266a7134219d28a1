/-
  A block of three cells: a struct of three fields that lies by itself.
-/
import Derived.Test.YtmlimjdmnonmpaaTPair
namespace Go.Proofs.Ytmlimjdmnonmpaa
open Go.RowKit Go.Sort

/-- Block b is a struct of three cells. -/
def Box3 (W : World) (b : Nat) (t : TypeId) (x y z : Value) : Prop := W.heap[b]? = some (.cells #[x, y, z] t (0, 0))
section
variable {W W' : World} {b : Nat} {t : TypeId} {x y z : Value}
theorem Box3.lt (h : Box3 W b t x y z) : b < W.heap.size := (Array.getElem?_eq_some_iff.1 h).1
theorem Box3.new (W : World) (t : TypeId) (x y z : Value) : Box3 (W.alloc (.cells #[x, y, z] t)) W.heap.size t x y z := heap_alloc_new W _
theorem Box3.below (h : Box3 W b t x y z) {B : Nat} (hb : Below B W W') (hB : b < B) : Box3 W' b t x y z := (hb.block b hB).trans h
theorem Box3.later (h : Box3 W b t x y z) (hb : Below W.heap.size W W') : Box3 W' b t x y z := h.below hb h.lt
theorem Box3.drew (h : Box3 W b t x y z) : Box3 W.drew b t x y z := h
theorem Box3.drewN (h : Box3 W b t x y z) (n : Nat) : Box3 (W.drewN n) b t x y z := h
theorem Box3.alloc (h : Box3 W b t x y z) (o : Obj) : Box3 (W.alloc o) b t x y z := h.later ((Below.refl _ _).alloc (Nat.le_refl _) o)
theorem Box3.kept {row : Option Nat} (h : Box3 W b t x y z) (hg : W.grownBy W' row) (hr : row ≠ some b) : Box3 W' b t x y z := (hg.block b h.lt (fun e => hr e.symm)).trans h
theorem Box3.cell0 (h : Box3 W b t x y z) : W.cell? ⟨b, 0, none⟩ = some x := by unfold Box3 at h; simp [World.cell?, h]
theorem Box3.cell1 (h : Box3 W b t x y z) : W.cell? ⟨b, 1, none⟩ = some y := by unfold Box3 at h; simp [World.cell?, h]
theorem Box3.cell2 (h : Box3 W b t x y z) : W.cell? ⟨b, 2, none⟩ = some z := by unfold Box3 at h; simp [World.cell?, h]
theorem Box3.free (h : Box3 W b t x y z) (i : Nat) : W.frozen? ⟨b, i, none⟩ = false := by unfold Box3 at h; simp [World.frozen?, h]
theorem Box3.set0 (h : Box3 W b t x y z) (u : Value) : Box3 (W.setCell ⟨b, 0, none⟩ u) b t u y z := by unfold Box3 at h ⊢; rw [heap_setCell_same W b 0 _ _ _ h]; rfl
theorem Box3.set1 (h : Box3 W b t x y z) (u : Value) : Box3 (W.setCell ⟨b, 1, none⟩ u) b t x u z := by unfold Box3 at h ⊢; rw [heap_setCell_same W b 1 _ _ _ h]; rfl
theorem Box3.set2 (h : Box3 W b t x y z) (u : Value) : Box3 (W.setCell ⟨b, 2, none⟩ u) b t x y u := by unfold Box3 at h ⊢; rw [heap_setCell_same W b 2 _ _ _ h]; rfl
theorem Box3.set (h : Box3 W b t x y z) (x' y' z' : Value) : Box3 (((W.setCell ⟨b, 0, none⟩ x').setCell ⟨b, 1, none⟩ y').setCell ⟨b, 2, none⟩ z') b t x' y' z' := ((h.set0 x').set1 y').set2 z'
theorem Box3.not_row {B : Nat} {e : TypeId} {size n : Nat} {v : Value} {xs : List Value} (h : Box3 W b t x y z) (ht : t ≠ e) (ho : W.ownsRow B e size v n xs) : v.ownBlock ≠ some b := fun hb => by
  rcases ho.2 with ⟨rfl, _⟩ | ⟨g, cap, cur, rfl, _, hg, _⟩
  · cases hb
  · obtain rfl : g = b := by simpa [Value.ownBlock] using hb
    unfold Box3 at h
    rw [hg] at h
    cases h
    exact ht rfl
end
theorem below_set3 {B b : Nat} {w W : World} (h : Below B w W) (hb : B ≤ b) (x y z : Value) : Below B w (((W.setCell ⟨b, 0, none⟩ x).setCell ⟨b, 1, none⟩ y).setCell ⟨b, 2, none⟩ z) := ((h.setCell hb _).setCell hb _).setCell hb _
theorem OwnP.set3 {W : World} {B b : Nat} {v : Value} {ps : List Pr} (h : OwnP W B v ps) (hv : v.ownBlock ≠ some b) (x y z : Value) : OwnP (((W.setCell ⟨b, 0, none⟩ x).setCell ⟨b, 1, none⟩ y).setCell ⟨b, 2, none⟩ z) B v ps :=
  ((h.keep (grownBy_setCell W ⟨b, 0, none⟩ x) hv).keep (grownBy_setCell _ ⟨b, 1, none⟩ y) hv).keep (grownBy_setCell _ ⟨b, 2, none⟩ z) hv

end Go.Proofs.Ytmlimjdmnonmpaa
