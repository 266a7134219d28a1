/-
  A drawn rough count with a thing.
-/
import Derived.Test.YteopnbjiffncbaaDGet
namespace Go.Proofs.Yteopnbjiffncbaa
open Go.RowKit Go.Sort

theorem RwsIn.later {B : Nat} {w w' : World} {u : Value} {rs : List (List Int)} (h : RwsIn B w u rs) {row : Option Nat} (hg : w.grownBy w' row) (hr : ∀ k, row = some k → k < B) : RwsIn B w' u rs := fun W hk hs =>
  h W (fun k h1 h2 => (hk k h1 (Nat.lt_of_lt_of_le h2 hg.size)).trans (hg.block k h2 (fun e => by have := hr k e.symm; omega))) (Nat.le_trans hg.size hs)

set_option maxHeartbeats 1000000 in
theorem drawGet_at (w : World) (v : Value) (n : Nat) (h : ∃ x cap, v = .slice x n cap) (hb : Bts w w.heap.size v n) :
    Calls Try.prog 23 #[v] w fun e w' => ∃ x m c rs t, e = .returned (.tuple #[.agg #[.slice x m c], .int .i64 t]) ∧ Rws w' (.slice x m c) rs ∧ -1 ≤ t ∧ t ≤ 64 ∧ Below w.heap.size w w' := by
  have hA := (Below.refl w.heap.size w).alloc (Nat.le_refl _) (.cells #[.slice none 0 0] 29)
  have hb' : Bts (w.alloc (.cells #[.slice none 0 0] 29)) (w.alloc (.cells #[.slice none 0 0] 29)).heap.size v n := by
    rcases hb with h0 | ⟨b, o, cap, hv, h1, h2, h3⟩
    · exact .inl h0
    · exact .inr ⟨b, o, cap, hv, h1, by simp; omega, fun i hi => by
        obtain ⟨z, hz, q⟩ := h3 i hi
        exact ⟨z, by rw [hA.cell (p := ⟨b, o + i, none⟩) h2]; exact hz, q⟩⟩
  have K := Lib.hid (open_rd _ v n h hb')
  have HA := Lib.hid hA
  clear h hb hb' hA
  go_enter Try.func23, Try.ntmps23
  go_wp2_with fail
  refine K.out.mono ?_
  rintro e w1 ⟨rfl, hr1, hb1⟩
  have cr : w1.cell? ⟨w.heap.size, 0, none⟩ = some (.slice none 0 0) := by rw [hb1.cell (by simp)]; simp
  have fr : w1.frozen? ⟨w.heap.size, 0, none⟩ = false := by rw [hb1.frozen (by simp)]; simp
  have L1 := Lib.hid (HA.out.trans (hb1.mono HA.out.size))
  have R1 := Lib.hid hr1
  clear hb1 hr1
  simp only [World.size_alloc] at R1 ⊢
  go_wp2_with fail
  refine (rough_at w1 (w.heap.size + 1) 0 R1.out (by omega) (by omega)).mono ?_
  rintro e w2 ⟨x, m, c, rs, q, rfl, hrs, q0, q1, hr2, hg⟩
  have cr2 := hg.cell cr (by simp)
  have fr2 : w2.frozen? ⟨w.heap.size, 0, none⟩ = false := by rw [hg.frozen_far ⟨w.heap.size, 0, none⟩ (World.block_lt_of_cell? _ _ cr) (by simp)]; exact fr
  have hL2 : Below w.heap.size w w2 := L1.out.trans (below_grown hg (by omega) L1.out.size)
  have l1 : w.heap.size + 1 < w1.heap.size := R1.out.lt
  have L2 := Lib.hid hL2
  have RS := Lib.hid hrs
  have R2 := Lib.hid hr2
  clear hg hrs hL2 cr fr hr2
  go_wp2_with fail
  refine (thing_at w2 (w.heap.size + 1) q R2.out (by omega) (by omega)).mono ?_
  rintro e w3 ⟨t, _, rfl, t0, t1, _, _, _, hg⟩
  have cr3 := hg.cell cr2 (by simp)
  have fr3 : w3.frozen? ⟨w.heap.size, 0, none⟩ = false := by rw [hg.frozen_far ⟨w.heap.size, 0, none⟩ (World.block_lt_of_cell? _ _ cr2) (by simp)]; exact fr2
  have hL3 : Below w.heap.size w w3 := L2.out.trans (below_grown hg (by omega) L2.out.size)
  have hw := (RS.out.later hg (fun k e => by cases e; omega)) (w3.setCell ⟨w.heap.size, 0, none⟩ (.slice x m c)) (fun k hk _ => heap_setCell_other w3 ⟨w.heap.size, 0, none⟩ k _ (by simp; omega)) (by simp)
  have HW := Lib.hid hw
  have L3 := Lib.hid hL3
  clear hg hw hL3 cr2 fr2
  go_wp2
  have hr := World.cell?_setCell_same w3 ⟨w.heap.size, 0, none⟩ (.slice x m c) cr3
  exact bodyPost_ret (v := .tuple #[.agg #[.slice x m c], .int .i64 t]) (by simp [results, Try.results23, go_sem, hr]) rfl ⟨_, _, _, rs, t, rfl, HW.out, t0, t1, L3.out.setCell (Nat.le_refl _) _⟩

end Go.Proofs.Yteopnbjiffncbaa
