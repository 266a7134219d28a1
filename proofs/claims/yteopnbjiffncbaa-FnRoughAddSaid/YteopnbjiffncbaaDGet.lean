/-
  Drawn rough counts, with a thing, and two of them.
-/
import Derived.Test.YteopnbjiffncbaaDRough
namespace Go.Proofs.Yteopnbjiffncbaa
open Go.RowKit Go.Sort

/-- What a draw may leave: of what was there nothing has turned. -/
theorem else_below {w w' : World} (h : Else w.heap.size w w') : Below w.heap.size w w' := below_grown h (Nat.le_refl _) (Nat.le_refl _)

set_option maxHeartbeats 1000000 in
theorem drawAll_at (w : World) (v : Value) (n : Nat) (h : ∃ x cap, v = .slice x n cap) (hb : Bts w w.heap.size v n) :
    Calls Try.prog 26 #[v] w fun e w' => ∃ x m c rs, e = .returned (.agg #[.slice x m c]) ∧ Rws w' (.slice x m c) rs ∧ Below w.heap.size w w' := by
  have hA := (Below.refl w.heap.size w).alloc (Nat.le_refl _) (.cells #[.slice none 0 0] 29)
  have hb' : Bts (w.alloc (.cells #[.slice none 0 0] 29)) (w.alloc (.cells #[.slice none 0 0] 29)).heap.size v n := by
    rcases hb with h0 | ⟨b, o, cap, hv, h1, h2, h3⟩
    · exact .inl h0
    · exact .inr ⟨b, o, cap, hv, h1, by simp; omega, fun i hi => by
        obtain ⟨z, hz, q⟩ := h3 i hi
        exact ⟨z, by rw [hA.cell (p := ⟨b, o + i, none⟩) h2]; exact hz, q⟩⟩
  have K := Lib.hid (open_rd _ v n h hb')
  have HA := Lib.hid hA
  clear h hb hb' hA
  go_enter Try.func26, Try.ntmps26
  go_wp2_with fail
  refine K.out.mono ?_
  rintro e w1 ⟨rfl, hr1, hb1⟩
  have cr : w1.cell? ⟨w.heap.size, 0, none⟩ = some (.slice none 0 0) := by rw [hb1.cell (by simp)]; simp
  have fr : w1.frozen? ⟨w.heap.size, 0, none⟩ = false := by rw [hb1.frozen (by simp)]; simp
  have L1 := Lib.hid (HA.out.trans (hb1.mono HA.out.size))
  have R1 := Lib.hid hr1
  clear hb1 hr1
  simp only [World.size_alloc] at R1 ⊢
  go_wp2_with fail
  refine (rough_at w1 (w.heap.size + 1) 0 R1.out (by omega) (by omega)).mono ?_
  rintro e w2 ⟨x, m, c, rs, q, rfl, hrs, _, _, _, hg⟩
  have cr2 := hg.cell cr (by simp)
  have fr2 : w2.frozen? ⟨w.heap.size, 0, none⟩ = false := by rw [hg.frozen_far ⟨w.heap.size, 0, none⟩ (World.block_lt_of_cell? _ _ cr) (by simp)]; exact fr
  have hL2 : Below w.heap.size w w2 := L1.out.trans (below_grown hg (by omega) L1.out.size)
  have l1 : w.heap.size < w1.heap.size := World.block_lt_of_cell? _ _ cr
  have hw := hrs (w2.setCell ⟨w.heap.size, 0, none⟩ (.slice x m c)) (fun k hk _ => heap_setCell_other w2 ⟨w.heap.size, 0, none⟩ k _ (by simp; omega)) (by simp)
  have HW := Lib.hid hw
  have L2 := Lib.hid hL2
  clear hg hrs hw hL2 cr fr
  go_wp2
  have hr := World.cell?_setCell_same w2 ⟨w.heap.size, 0, none⟩ (.slice x m c) cr2
  exact bodyPost_ret (v := .agg #[.slice x m c]) (by simp [results, Try.results26, go_sem, hr]) rfl ⟨_, _, _, rs, rfl, HW.out, L2.out.setCell (Nat.le_refl _) _⟩

end Go.Proofs.Yteopnbjiffncbaa
