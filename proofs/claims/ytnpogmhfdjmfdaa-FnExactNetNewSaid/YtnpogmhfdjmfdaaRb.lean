/-
  Several texts in one: Copy, SpAdd.
-/
import Derived.Test.YtnpogmhfdjmfdaaRa
import Derived.Test.YtnpogmhfdjmfdaaBa
import Derived.IntWalk
set_option linter.unusedVariables false
/-
  The model's l1Copy: an ok rough count anew.
-/
namespace Go.Proofs.Ytnpogmhfdjmfdaa
open Go.RowKit
attribute [local go_sem ↓] Go.wp_at_zero Go.wp_at_succ

theorem news_ints {w : World} {b o n : Nat} {zs : List Int} (hn : zs.length = n) (hc : ∀ k, k < n → w.cell? ⟨b, o + k, none⟩ = some (.int .i64 (zs.getD k 0))) :
    ∀ j u, (ints zs)[j]? = some u → w.cell? ((⟨b, o, none⟩ : Addr).add j) = some u := fun j u hu => by
  have hj : j < zs.length := by
    have := (List.getElem?_eq_some_iff.1 hu).1
    simpa [ints] using this
  have e : (⟨b, o, none⟩ : Addr).add j = ⟨b, o + j, none⟩ := by unfold Addr.add; split <;> simp_all
  rw [e, hc j (by omega)]
  rw [ints_get _ _ hj] at hu
  exact hu
theorem ints_one (zs : List Int) : ∀ u ∈ ints zs, u.oneCell' = true := fun u hu => by
  obtain ⟨z, _, rfl⟩ := List.mem_map.1 hu
  rfl
theorem empty_own (w : World) (B : Nat) (hB : B ≤ w.heap.size) : (w.alloc (.cells #[] 3)).ownsRow B 3 1 (.slice (some ⟨w.heap.size, 0, none⟩) 0 0) 0 [] :=
  World.ownsRow_lit (base := B) (e := 3) (size := 1) w #[] 0 hB (by simp [maxLen]) (by simp)

theorem row_added_n {w wr w1 w2 : World} {S R B W g c gg cap n : Nat} {o o' : Obj} {u : Value} {t : TypeId} {rs : List (List Int)} {G C : Nat → Nat} {zs : List Int} (hn : zs.length = n)
    (HO : OwnR wr B u rs G C) (hX : Below wr.heap.size wr w1) (hz : w1.ownsRow B 3 1 (.slice (some ⟨g, 0, none⟩) n c) n (ints zs)) (hg : wr.heap.size ≤ g)
    (hown1 : w2.ownsRow B 22 1 (.slice (some ⟨gg, 0, none⟩) (rs.length + 1) cap) (rs.length + 1) ((List.range rs.length).map (rowV rs G C) ++ [.slice (some ⟨g, 0, none⟩) n c]))
    (hgrow : (w1.alloc o').grownBy w2 u.ownBlock) (hat : u.ownBlock = some gg ∨ gg = w1.heap.size + 1)
    (hR : wr.heap[R]? = some (.cells #[u] t (0, 0))) (hS : wr.heap[S]? = some o) (hRB : R < B) (hSB : S < B) (hSR : S ≠ R) (hbl : Below W w wr) (hWR : W ≤ R) (hWw : W ≤ w.heap.size) :
    ∃ G' C', OwnR (w2.setCell ⟨R, 0, none⟩ (.slice (some ⟨gg, 0, none⟩) (rs.length + 1) cap)) B (.slice (some ⟨gg, 0, none⟩) (rs.length + 1) cap) (rs ++ [zs]) G' C' ∧
      (w2.setCell ⟨R, 0, none⟩ (.slice (some ⟨gg, 0, none⟩) (rs.length + 1) cap)).heap[S]? = some o ∧
      (w2.setCell ⟨R, 0, none⟩ (.slice (some ⟨gg, 0, none⟩) (rs.length + 1) cap)).heap[R]? = some (.cells #[.slice (some ⟨gg, 0, none⟩) (rs.length + 1) cap] t (0, 0)) ∧
      Below W w (w2.setCell ⟨R, 0, none⟩ (.slice (some ⟨gg, 0, none⟩) (rs.length + 1) cap)) := by
  subst hn
  exact row_added HO (grownBy_trans (grownBy_below hX) (World.grownBy_alloc w1 o' none)) (hz.alloc _) hg hown1 hgrow (by simpa using hat) hR hS hRB hSB hSR hbl hWR hWw

theorem three_blocks (w : World) (a b c : Obj) : (((w.alloc a).alloc b).alloc c).heap[w.heap.size]? = some a ∧ (((w.alloc a).alloc b).alloc c).heap[w.heap.size + 1]? = some b ∧ (((w.alloc a).alloc b).alloc c).heap[w.heap.size + 2]? = some c := by
  have e1 : (w.alloc a).heap.size = w.heap.size + 1 := by simp
  have e2 : ((w.alloc a).alloc b).heap.size = w.heap.size + 2 := by simp
  have h1 := heap_alloc_new (w.alloc a) b
  have h2 := heap_alloc_new ((w.alloc a).alloc b) c
  rw [e1] at h1
  rw [e2] at h2
  exact ⟨(heap_alloc_old _ _ (by omega)).trans ((heap_alloc_old _ _ (by omega)).trans (heap_alloc_new _ _)), (heap_alloc_old _ _ (by omega)).trans h1, h2⟩
theorem box0_keep {wr w1 w2 : World} {S R : Nat} {o o' : Obj} {x : Value} {row : Option Nat} (h : wr.heap[S]? = some o) (hb : Below wr.heap.size wr w1) (hg : (w1.alloc o').grownBy w2 row) (hr : row ≠ some S) (hSR : S ≠ R) :
    (w2.setCell ⟨R, 0, none⟩ x).heap[S]? = some o := by
  rw [heap_setCell_other w2 ⟨R, 0, none⟩ S _ hSR]
  have h1 := block_keep h (grownBy_below (row := none) hb) (by simp)
  have h2 := block_keep h1 (World.grownBy_alloc w1 o' none) (by simp)
  exact block_keep h2 hg hr
theorem take_snoc {α : Type} (l : List α) (k : Nat) (d : α) (h : k < l.length) : l.take k ++ [l.getD k d] = l.take (k + 1) := by
  rw [List.take_succ_eq_append_getElem h]; simp [h]

theorem inner_keep {wr w1 : World} {o : Obj} (h : (wr.alloc o).drew.grownBy w1 (some wr.heap.size)) : Below wr.heap.size wr w1 := by
  have h1 : Below wr.heap.size wr (wr.alloc o).drew := ((Below.refl _ _).alloc (Nat.le_refl _) _).drew
  exact h1.grown h (by simp) (fun k e => by cases e; exact Nat.le_refl _)
theorem box_later {w w1 : World} {b : Nat} {u : Value} (hb : Below w.heap.size w w1) (c : w.cell? ⟨b, 0, none⟩ = some u) (f : w.frozen? ⟨b, 0, none⟩ = false) (l : b < w.heap.size) :
    w1.cell? ⟨b, 0, none⟩ = some u ∧ w1.frozen? ⟨b, 0, none⟩ = false ∧ b < w1.heap.size :=
  ⟨cell_later hb c, by rw [hb.frozen (p := ⟨b, 0, none⟩) l]; exact f, Nat.lt_of_lt_of_le l hb.size⟩
theorem box_far1 {w w1 : World} {o : Obj} {b : Nat} {u : Value} {row : Option Nat} (c : w.cell? ⟨b, 0, none⟩ = some u) (f : w.frozen? ⟨b, 0, none⟩ = false) (l : b < w.heap.size)
    (hg : (w.alloc o).grownBy w1 row) (hr : row ≠ some b) : w1.cell? ⟨b, 0, none⟩ = some u ∧ w1.frozen? ⟨b, 0, none⟩ = false := by
  have l1 : b < (w.alloc o).heap.size := by simp; omega
  rw [hg.cell_far ⟨b, 0, none⟩ l1 (Ne.symm hr), hg.frozen_far ⟨b, 0, none⟩ l1 (Ne.symm hr)]
  rw [World.cell?_alloc_past _ _ _ l, World.frozen?_alloc_past _ _ _ l]
  exact ⟨c, f⟩

end Go.Proofs.Ytnpogmhfdjmfdaa

/-
  The model's RoughAdd.
-/
namespace Go.Proofs.Ytnpogmhfdjmfdaa
open Go.RowKit Go.Sort

/-- Row i with n more in the place of the thing t. -/
def addRow (rs : List (List Int)) (t n : Int) (i : Nat) : List Int := (rs.getD i []).set (place i t).toNat (atV rs i t + n)
/-- A thing counted n times more. -/
def addV (rs : List (List Int)) (t n : Int) : List (List Int) := [addRow rs t n 0, addRow rs t n 1, addRow rs t n 2]
/-- Whether it can be counted. -/
def addB (rs : List (List Int)) (t n : Int) : Bool := okB rs && decide (0 ≤ t) && decide (t < 64) && decide (0 ≤ n) && decide (n ≤ 2000 - allV rs)

theorem addB_iff (rs : List (List Int)) (t n : Int) : addB rs t n = true ↔ okB rs = true ∧ 0 ≤ t ∧ t < 64 ∧ 0 ≤ n ∧ n ≤ 2000 - allV rs := by
  simp [addB, and_assoc]

theorem addV_get (rs : List (List Int)) (t n : Int) (i : Nat) (hi : i < 3) : (addV rs t n).getD i [] = addRow rs t n i := by
  rcases (by omega : i = 0 ∨ i = 1 ∨ i = 2) with rfl | rfl | rfl <;> rfl

theorem eq_three {rs qs : List (List Int)} (h : rs.length = 3) (h' : qs.length = 3) (e : ∀ i, i < 3 → rs.getD i [] = qs.getD i []) : rs = qs := by
  have := eq_of_get (d := []) h h' e
  simpa using this

theorem OwnR.hdrCell {w : World} {B g c n : Nat} {rs : List (List Int)} {G C : Nat → Nat} (h : OwnR w B (.slice (some ⟨g, 0, none⟩) n c) rs G C) (hn : rs.length = n) (i : Nat) (hi : i < n) :
    w.cell? ⟨g, i, none⟩ = some (.slice (some ⟨G i, 0, none⟩) (rs.getD i []).length (C i)) := by
  have hh := h.hdr
  rw [hn] at hh
  have := hh.cellAt i (by omega)
  rw [this, List.getElem?_map, List.getElem?_range hi]
  rfl
theorem OwnR.rowCell {w : World} {B : Nat} {u : Value} {rs : List (List Int)} {G C : Nat → Nat} (h : OwnR w B u rs G C) (i k : Nat) (hi : i < rs.length) (hk : k < (rs.getD i []).length) :
    w.cell? ⟨G i, k, none⟩ = some (.int .i64 ((rs.getD i []).getD k 0)) ∧ w.frozen? ⟨G i, k, none⟩ = false := by
  have hr := h.row i hi
  exact ⟨by rw [World.ownsRow.cellAt hr k (by omega), ints_get _ _ hk], World.ownsRow.frozenAt hr k⟩

end Go.Proofs.Ytnpogmhfdjmfdaa
