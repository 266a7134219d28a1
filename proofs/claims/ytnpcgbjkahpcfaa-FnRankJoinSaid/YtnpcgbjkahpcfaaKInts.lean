/-
  Numbers in a block of the call's own, written by place.
-/
import Derived.Test.YtnpcgbjkahpcfaaOwn
import Derived.Test.YtnpcgbjkahpcfaaLast
import Derived.Deep.OwnRows
import Derived.IntWalk
namespace Go.Proofs.Ytnpcgbjkahpcfaa
open Go.RowKit Go.Sort

theorem int_info : (Try.prog.info? 3).map (fun i => (i.zero, i.size, i.bytes)) = some (some (.int .i64 0), 1, 8) := by kernel_rfl
/-- The value v is the numbers zs, in a block of the call's own. -/
def OwnI (w : World) (B : Nat) (v : Value) (zs : List Int) : Prop := w.ownsRow B 3 1 v zs.length (ints zs)
theorem OwnI.base {w : World} {B B' : Nat} {v : Value} {zs : List Int} (h : OwnI w B v zs) (hB : B' ≤ B) : OwnI w B' v zs := ownsRow_base h hB
theorem OwnI.kept {w w' : World} {B : Nat} {v : Value} {zs : List Int} {row : Option Nat} (h : OwnI w B v zs) (hg : w.grownBy w' row) (hr : ∀ k, row = some k → k < B) : OwnI w' B v zs := by
  refine World.ownsRow.kept h hg ?_
  cases hv : v.ownBlock with
  | none => exact .inl rfl
  | some k => exact .inr (fun e => by have := (World.ownsRow.lt h k hv).1; have := hr k e.symm; omega)
theorem OwnI.keep {w w' : World} {B : Nat} {v : Value} {zs : List Int} {row : Option Nat} (h : OwnI w B v zs) (hg : w.grownBy w' row) (hr : v.ownBlock ≠ row) : OwnI w' B v zs := World.ownsRow.kept h hg (.inr hr)
theorem OwnI.below {w w' : World} {B : Nat} {v : Value} {zs : List Int} (h : OwnI w B v zs) (hb : Below w.heap.size w w') : OwnI w' B v zs := h.kept (row := none) (grownBy_below hb) (fun _ e => by cases e)
theorem OwnI.alloc {w : World} {B : Nat} {v : Value} {zs : List Int} (h : OwnI w B v zs) (o : Obj) : OwnI (w.alloc o) B v zs := World.ownsRow.alloc h o
theorem ints_set (zs : List Int) (k : Nat) (x : Int) : (ints zs).set k (.int .i64 x) = ints (zs.set k x) := by simp [ints, List.map_set]
/-- A row of n places, in block g. -/
def RowI (w : World) (B g n c : Nat) (zs : List Int) : Prop := zs.length = n ∧ w.ownsRow B 3 1 (.slice (some ⟨g, 0, none⟩) n c) n (ints zs)
section
variable {w w' : World} {B g n c : Nat} {zs : List Int}
theorem RowI.own (h : RowI w B g n c zs) : OwnI w B (.slice (some ⟨g, 0, none⟩) n c) zs := by unfold OwnI; rw [h.1]; exact h.2
theorem RowI.cell (h : RowI w B g n c zs) {i : Nat} (hi : i < n) : w.cell? ⟨g, i, none⟩ = some (.int .i64 (zs.getD i 0)) := by
  rw [h.2.cellAt i (by omega)]
  exact ints_get _ _ (by rw [h.1]; exact hi)
theorem RowI.free (h : RowI w B g n c zs) (i : Nat) : w.frozen? ⟨g, i, none⟩ = false := h.2.frozenAt i
theorem RowI.set (h : RowI w B g n c zs) (i : Nat) (x : Int) : RowI (w.setCell ⟨g, i, none⟩ (.int .i64 x)) B g n c (zs.set i x) := by
  have hs := (h.2.stored i (.int .i64 x)).1
  rw [ints_set] at hs
  exact ⟨by simpa using h.1, hs⟩
theorem RowI.grown (h : RowI w B g n c zs) (i : Nat) (x : Int) : w.grownBy (w.setCell ⟨g, i, none⟩ (.int .i64 x)) (some g) := (h.2.stored i (.int .i64 x)).2
theorem RowI.below (h : RowI w B g n c zs) (hb : Below w.heap.size w w') : RowI w' B g n c zs := by
  have h2 := h.own.below hb
  unfold OwnI at h2
  rw [h.1] at h2
  exact ⟨h.1, h2⟩
theorem RowI.alloc (h : RowI w B g n c zs) (o : Obj) : RowI (w.alloc o) B g n c zs := ⟨h.1, World.ownsRow.alloc h.2 o⟩
theorem RowI.drewN (h : RowI w B g n c zs) (k : Nat) : RowI (w.drewN k) B g n c zs := h
theorem RowI.lt (h : RowI w B g n c zs) : B ≤ g ∧ g < w.heap.size := World.ownsRow.lt h.2 g rfl
end
theorem made_ints (w : World) (n : Nat) (hn : n ≤ 1048576) : RowI (w.alloc (.cells (madeCells #[.int .i64 0] n) 3)) w.heap.size w.heap.size n n (List.replicate n 0) := by
  have := World.ownsRow_lit (base := w.heap.size) (e := 3) (size := 1) w (madeCells #[.int .i64 0] n) n (Nat.le_refl _) (by unfold maxLen; omega) (by rw [size_madeCells]; omega)
  rw [toList_madeCells_one] at this
  exact ⟨by simp, by simpa [ints] using this⟩

end Go.Proofs.Ytnpcgbjkahpcfaa
