/-
  The first part of a slice of numbers.
-/
import Derived.Test.YtnoilafoeaknjaaGreatZLk
set_option linter.unusedVariables false
namespace Go.Proofs.YtnoilafoeaknjaaGreat
open Go.RowKit Go.Sort

theorem Ints.cut {w : World} {x : Option Addr} {n c : Nat} {zs : List Int} (h : Ints w (.slice x n c) zs) {k : Nat} (hk : k ≤ n) : Ints w (.slice x k c) (zs.take k) := by
  have hn := h.len
  rcases h with ⟨e, rfl⟩ | ⟨b, o, cap, e, h1, h2, h3, h4⟩
  · simp at e
    obtain rfl : k = 0 := by omega
    exact .inl ⟨by simp [e], by simp⟩
  · simp at e
    obtain ⟨rfl, -, rfl⟩ := e
    have hl : (zs.take k).length = k := by rw [List.length_take]; omega
    exact .inr ⟨b, o, c, by rw [hl], by omega, h2, h3, fun i hi => by
      have hi' : i < k := by omega
      rw [h4 i (by omega), List.getD_eq_getElem?_getD, List.getD_eq_getElem?_getD, List.getElem?_take_of_lt hi']⟩
theorem Ints.cap {w : World} {x : Option Addr} {n c : Nat} {zs : List Int} (h : Ints w (.slice x n c) zs) : n ≤ c := by
  rcases h with ⟨e, rfl⟩ | ⟨b, o, cap, e, h1, _⟩
  · simp at e; simp [e]
  · simp at e; omega
theorem Ints.addr {w : World} {x : Option Addr} {n c : Nat} {zs : List Int} (h : Ints w (.slice x n c) zs) (h0 : 0 < n) : ∃ b o, x = some ⟨b, o, none⟩ := by
  rcases h with ⟨e, rfl⟩ | ⟨b, o, cap, e, h1, _⟩
  · simp at e; omega
  · simp at e; exact ⟨b, o, e.1⟩

/-- The least of the counts of the parts, row by row. -/
def minP (l : List Int) (t : Int) : Nat → Int
  | 0 => l.length
  | j + 1 => min (minP l t j) (cntP l j t)
theorem minP_bd (l : List Int) (t : Int) : ∀ j, 0 ≤ minP l t j ∧ minP l t j ≤ l.length
  | 0 => ⟨Int.natCast_nonneg _, Int.le_refl _⟩
  | j + 1 => by
    have a := minP_bd l t j
    have b : 0 ≤ cntP l j t ∧ cntP l j t ≤ l.length := cnt_bd l _
    show 0 ≤ min _ _ ∧ min _ _ ≤ _
    omega
theorem min_told {l : List Int} (h : okS (upS l) = true) {t : Int} (h0 : 0 ≤ t) (h1 : t ≤ 63) : getV (upS l).rs t = minP l t 3 := by
  rw [rough_get h h0 h1]
  have b : 0 ≤ cntP l 0 t ∧ cntP l 0 t ≤ l.length := cnt_bd l _
  have e : minP l t 3 = min (min (min (l.length : Int) (cntP l 0 t)) (cntP l 1 t)) (cntP l 2 t) := rfl
  rw [e, Int.min_eq_right b.2]
theorem cntP_take (l : List Int) (i : Nat) (t : Int) (k : Nat) (hk : k < l.length) : cntP (l.take (k + 1)) i t = cntP (l.take k) i t + if place i (l.getD k 0) = place i t then 1 else 0 := by
  rw [List.take_succ_eq_append_getElem hk, cntP_snoc]
  simp [hk]

theorem lkRough_yes (w : World) (u v : Value) (rs : List (List Int)) (ha : Rws w u rs) (hb : Rws w v rs) (hr : rs.length ≤ 3 ∧ ∀ i, i < rs.length → (rs.getD i []).length ≤ 8) :
    Calls Tryz.prog 60 #[.agg #[u], .agg #[v]] w fun e w' => e = .returned (.bool true) ∧ Below w.heap.size w w' := by
  have K1 := lkRough_at w u v rs rs ha hb (by have := hr.1; unfold maxLen; omega) (fun i hi => by have := hr.2 i hi; unfold maxLen; omega)
  rw [decide_eq_true rfl] at K1
  exact K1
theorem lkInts_yes (w : World) (u v : Value) (zs : List Int) (ha : Ints w u zs) (hb : Ints w v zs) (hr : zs.length ≤ 6) :
    Calls Tryz.prog 61 #[u, v] w fun e w' => e = .returned (.bool true) ∧ Below w.heap.size w w' := by
  have K2 := lkInts_at w u v zs zs ha hb (by unfold maxLen; omega)
  rw [decide_eq_true rfl] at K2
  exact K2.mono fun e w' ⟨he, m, hm⟩ => ⟨he, by rw [hm]; exact below_drewN (Below.refl _ _) _⟩
theorem rev_snoc (l : List Int) (k : Nat) (hk : k < l.length) : (l.drop k).reverse = (l.drop (k + 1)).reverse ++ [l.getD k 0] := by
  rw [List.drop_eq_getElem_cons hk, List.reverse_cons]
  simp [hk]

end Go.Proofs.YtnoilafoeaknjaaGreat
