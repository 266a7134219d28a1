/-
  How many things there are by their marks, and whether a thing was counted: of the program and of its model.
-/
import Derived.Test.YteopnbjiffncbabFew
namespace Go.Proofs.Yteopnbjiffncbab
open Go.RowKit Go.Sort

/-- How many there are, and whether just so. -/
def countN (zs : List Int) : Int := if fewB zs = true then (if zs.length < 6 then (zs.length : Int) else 320 / (zs.getD 5 0 + 1)) else 0
def countJ (zs : List Int) : Bool := fewB zs && decide (zs.length < 6)
theorem countN_no {zs : List Int} (h : fewB zs = false) : countN zs = 0 := by unfold countN; rw [h]; rfl
theorem countJ_no {zs : List Int} (h : fewB zs = false) : countJ zs = false := by unfold countJ; rw [h]; rfl
theorem countN_few {zs : List Int} (h : fewB zs = true) (hl : zs.length < 6) : countN zs = zs.length := by unfold countN; rw [if_pos h, if_pos hl]
theorem countJ_few {zs : List Int} (h : fewB zs = true) (hl : zs.length < 6) : countJ zs = true := by unfold countJ; rw [h, decide_eq_true hl]; rfl
theorem countN_six {zs : List Int} (h : fewB zs = true) (hl : zs.length = 6) : countN zs = 320 / (zs.getD 5 0 + 1) := by unfold countN; rw [if_pos h, if_neg (by omega)]
theorem countJ_six {zs : List Int} (h : fewB zs = true) (hl : zs.length = 6) : countJ zs = false := by unfold countJ; rw [h, decide_eq_false (by omega)]; rfl

/-- Marks in form: the parts of the word. -/
theorem fewB_parts {zs : List Int} (h : fewB zs = true) : zs.length ≤ 6 ∧ (∀ i, i < zs.length → 0 ≤ zs.getD i 0 ∧ zs.getD i 0 ≤ 63) ∧ ∀ i, i + 1 < zs.length → zs.getD i 0 < zs.getD (i + 1) 0 := by
  obtain ⟨h1, h2⟩ := (fewB_iff zs).1 h
  refine ⟨h1, fun i hi => (h2 i hi).1, fun i hi => ?_⟩
  have := (h2 (i + 1) hi).2 (by omega)
  rwa [Nat.add_sub_cancel] at this

set_option maxHeartbeats 1000000 in
theorem imCount_at (w : World) (u : Value) (zs : List Int) (h : Ints w u zs) :
    Calls Try.prog 43 #[.agg #[u]] w fun e w' => e = .returned (.tuple #[.int .i64 (countN zs), .bool (countJ zs)]) ∧ Below w.heap.size w w' := by
  have hA := (Below.refl w.heap.size w).alloc (Nat.le_refl _) (.cells #[u] 46)
  have K := Lib.hid (imFewOk_at _ u zs (h.below hA (Nat.le_refl _)))
  have HA := Lib.hid hA
  clear hA
  obtain ⟨⟨x, c, hx⟩, q⟩ := h.cases
  cases hok : fewB zs with
  | false =>
    rw [countN_no hok, countJ_no hok]
    rw [hok] at K
    obtain ⟨n, hn⟩ : ∃ n, n = zs.length := ⟨_, rfl⟩
    rw [← hn] at hx
    subst hx
    clear h q hok hn
    go_enter Try.func43, Try.ntmps43
    go_wp2_with fail
    refine K.out.mono ?_
    rintro e w1 ⟨rfl, hb1⟩
    go_wp2
    go_ret2
    exact ⟨rfl, HA.out.trans (hb1.mono HA.out.size)⟩
  | true =>
    rw [hok] at K
    by_cases hl : zs.length < 6
    · rw [countN_few hok hl, countJ_few hok hl]
      obtain ⟨n, hn⟩ : ∃ n, n = zs.length := ⟨_, rfl⟩
      rw [← hn] at hx hl ⊢
      have cb : (w.alloc (.cells #[.slice x n c] 46)).cell? ⟨w.heap.size, 0, none⟩ = some (.slice x n c) := by simp
      subst hx
      clear h q hok hn
      have h6 : (n : Int) < 6 := by omega
      go_enter Try.func43, Try.ntmps43
      go_wp2_with fail
      refine K.out.mono ?_
      rintro e w1 ⟨rfl, hb1⟩
      have cb1 := cell_later hb1 cb
      go_wp2
      go_ret2
      exact ⟨rfl, HA.out.trans (hb1.mono HA.out.size)⟩
    · have hp := fewB_parts hok
      have h6 : zs.length = 6 := by omega
      rw [countN_six hok h6, countJ_six hok h6]
      rcases h with ⟨rfl, rfl⟩ | ⟨b, o, cap, rfl, h1, h2, hb, hc⟩
      · cases h6
      have c5 := hc 5 (by omega)
      have b5 := hp.2.1 5 (by omega)
      rw [h6] at K HA ⊢
      have cb : (w.alloc (.cells #[.slice (some ⟨b, o, none⟩) 6 cap] 46)).cell? ⟨w.heap.size, 0, none⟩ = some (.slice (some ⟨b, o, none⟩) 6 cap) := by simp
      rw [← HA.out.cell (p := ⟨b, o + 5, none⟩) hb] at c5
      generalize zs.getD 5 0 = y at *
      obtain ⟨y0, y1⟩ := b5
      have n0 : (y + 1 == 0) = false := by simp; omega
      clear hx q hc hok hp hl h6 h1 h2
      go_enter Try.func43, Try.ntmps43
      go_wp2_with fail
      refine K.out.mono ?_
      rintro e w1 ⟨rfl, hb1⟩
      have cb1 := cell_later hb1 cb
      have c51 := cell_later hb1 c5
      go_wp2
      go_ret2
      exact ⟨by simp [Int.tdiv_eq_ediv_of_nonneg], HA.out.trans (hb1.mono HA.out.size)⟩

set_option maxHeartbeats 1000000 in
theorem spCount_at (w : World) (u : Value) (zs : List Int) (h : Ints w u zs) :
    Calls Try.prog 42 #[.agg #[u]] w fun e w' => e = .returned (.tuple #[.int .i64 (countN zs), .bool (countJ zs)]) ∧ Below w.heap.size w w' := by
  have hA := (Below.refl w.heap.size w).alloc (Nat.le_refl _) (.cells #[u] 46)
  have K := Lib.hid (spFewOk_at _ u zs (h.below hA (Nat.le_refl _)))
  have HA := Lib.hid hA
  clear hA
  obtain ⟨⟨x, c, hx⟩, q⟩ := h.cases
  cases hok : fewB zs with
  | false =>
    rw [countN_no hok, countJ_no hok]
    rw [hok] at K
    obtain ⟨n, hn⟩ : ∃ n, n = zs.length := ⟨_, rfl⟩
    rw [← hn] at hx
    subst hx
    clear h q hok hn
    go_enter Try.func42, Try.ntmps42
    go_wp2_with fail
    refine K.out.mono ?_
    rintro e w1 ⟨rfl, hb1⟩
    go_wp2
    go_ret2
    exact ⟨rfl, HA.out.trans (hb1.mono HA.out.size)⟩
  | true =>
    rw [hok] at K
    by_cases hl : zs.length < 6
    · rw [countN_few hok hl, countJ_few hok hl]
      obtain ⟨n, hn⟩ : ∃ n, n = zs.length := ⟨_, rfl⟩
      rw [← hn] at hx hl ⊢
      subst hx
      clear h q hok hn
      have h6 : (n : Int) < 6 := by omega
      go_enter Try.func42, Try.ntmps42
      go_wp2_with fail
      refine K.out.mono ?_
      rintro e w1 ⟨rfl, hb1⟩
      go_wp2
      go_ret2
      exact ⟨rfl, HA.out.trans (hb1.mono HA.out.size)⟩
    · have hp := fewB_parts hok
      have h6 : zs.length = 6 := by omega
      rw [countN_six hok h6, countJ_six hok h6]
      rcases h with ⟨rfl, rfl⟩ | ⟨b, o, cap, rfl, h1, h2, hb, hc⟩
      · cases h6
      have c5 := hc 5 (by omega)
      have b5 := hp.2.1 5 (by omega)
      rw [h6] at K HA ⊢
      have cb : (w.alloc (.cells #[.slice (some ⟨b, o, none⟩) 6 cap] 46)).cell? ⟨w.heap.size, 0, none⟩ = some (.slice (some ⟨b, o, none⟩) 6 cap) := by simp
      rw [← HA.out.cell (p := ⟨b, o + 5, none⟩) hb] at c5
      generalize zs.getD 5 0 = y at *
      obtain ⟨y0, y1⟩ := b5
      have n0 : (y + 1 == 0) = false := by simp; omega
      clear hx q hc hok hp hl h6 h1 h2
      go_enter Try.func42, Try.ntmps42
      go_wp2_with fail
      refine K.out.mono ?_
      rintro e w1 ⟨rfl, hb1⟩
      have cb1 := cell_later hb1 cb
      have c51 := cell_later hb1 c5
      go_wp2
      go_ret2
      exact ⟨by simp [Int.tdiv_eq_ediv_of_nonneg], HA.out.trans (hb1.mono HA.out.size)⟩

end Go.Proofs.Yteopnbjiffncbab
