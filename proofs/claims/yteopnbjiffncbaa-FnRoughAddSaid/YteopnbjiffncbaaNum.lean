/-
  The walks of the small functions on numbers: RoughPlace of the program and of its model, and what they call.
-/
import Derived.Test.YteopnbjiffncbaaRows
import Derived.WalkKit
import Derived.WalkSpells
import Derived.WalkLawsBesides
import Derived.Lib.Hide
namespace Go.Proofs.Yteopnbjiffncbaa
open Go.RowKit

theorem ret_int {k : IntKind} {a b : Int} (h : a = b) : Ending.returned (.int k a) = .returned (.int k b) := by rw [h]
theorem ret_bool {a b : Bool} (h : a = b) : Ending.returned (.bool a) = .returned (.bool b) := by rw [h]

theorem isThing_yes (a : Int) (w : World) (h0 : 0 ≤ a) (h1 : a < 64) :
    Calls Try.prog 35 #[.int .i64 a] w fun e w' => e = .returned (.bool true) ∧ w = w' := by
  go_enter Try.func35, Try.ntmps35
  go_wp2
  go_ret
  exact ⟨rfl, rfl⟩
theorem isThing_no (a : Int) (w : World) (h : a < 0 ∨ 64 ≤ a) :
    Calls Try.prog 35 #[.int .i64 a] w fun e w' => e = .returned (.bool false) ∧ w = w' := by
  rcases h with h | h
  · have h' : ¬ 0 ≤ a := by omega
    go_enter Try.func35, Try.ntmps35
    go_wp2
    go_ret
    exact ⟨rfl, rfl⟩
  · have h' : ¬ a < 64 := by omega
    have h'' : 0 ≤ a := by omega
    go_enter Try.func35, Try.ntmps35
    go_wp2
    go_ret
    exact ⟨rfl, rfl⟩

theorem l6In_yes (n lo hi : Int) (w : World) (h0 : lo ≤ n) (h1 : n ≤ hi) :
    Calls Try.prog 36 #[.int .i64 n, .int .i64 lo, .int .i64 hi] w fun e w' => e = .returned (.bool true) ∧ w = w' := by
  go_enter Try.func36, Try.ntmps36
  go_wp2
  go_ret
  exact ⟨rfl, rfl⟩
theorem l6In_no (n lo hi : Int) (w : World) (h : n < lo ∨ hi < n) :
    Calls Try.prog 36 #[.int .i64 n, .int .i64 lo, .int .i64 hi] w fun e w' => e = .returned (.bool false) ∧ w = w' := by
  by_cases h' : lo ≤ n
  · have h1 : ¬ n ≤ hi := by omega
    go_enter Try.func36, Try.ntmps36
    go_wp2
    go_ret
    exact ⟨rfl, rfl⟩
  · go_enter Try.func36, Try.ntmps36
    go_wp2
    go_ret
    exact ⟨rfl, rfl⟩

/-- In which place of row i the thing t is counted. -/
def place (i t : Int) : Int := if i = 0 then (3 * t + t / 8) % 8 else if i = 1 then (5 * t + t / 16 + 1) % 8 else (t + t / 4 + 2) % 8
theorem place_bd (i t : Int) : 0 ≤ place i t ∧ place i t < 8 := by unfold place; split <;> (try split) <;> omega

theorem roughPlace_yes (i t : Int) (w : World) (h0 : 0 ≤ i) (h1 : i < 3) (h2 : 0 ≤ t) (h3 : t < 64) :
    Calls Try.prog 15 #[.int .i64 i, .int .i64 t] w fun e w' => e = .returned (.int .i64 (place i t)) ∧ w = w' := by
  rcases (by omega : i = 0 ∨ i = 1 ∨ i = 2) with rfl | rfl | rfl
  all_goals
    clear h0 h1
    go_enter Try.func15, Try.ntmps15
    go_wp2_with (go_at_call 35; refine (isThing_yes _ _ h2 h3).mono ?_; rintro e w' ⟨rfl, rfl⟩)
    go_ret
    exact ⟨ret_int rfl, rfl⟩
theorem roughPlace_no (i t : Int) (w : World) (h : (i < 0 ∨ 3 ≤ i) ∨ t < 0 ∨ 64 ≤ t) :
    Calls Try.prog 15 #[.int .i64 i, .int .i64 t] w fun e w' => e = .returned (.int .i64 (-1)) ∧ w = w' := by
  by_cases ht : t < 0 ∨ 64 ≤ t
  · clear h
    go_enter Try.func15, Try.ntmps15
    go_wp2_with (go_at_call 35; refine (isThing_no _ _ ht).mono ?_; rintro e w' ⟨rfl, rfl⟩)
    go_ret
    exact ⟨rfl, rfl⟩
  · have h2 : 0 ≤ t := by omega
    have h3 : t < 64 := by omega
    have n0 : (i == 0) = false := by simp; omega
    have n1 : (i == 1) = false := by simp; omega
    have n2 : (i == 2) = false := by simp; omega
    clear h ht
    go_enter Try.func15, Try.ntmps15
    go_wp2_with (go_at_call 35; refine (isThing_yes _ _ h2 h3).mono ?_; rintro e w' ⟨rfl, rfl⟩)
    go_ret
    exact ⟨rfl, rfl⟩

theorem l1Place_yes (i t : Int) (w : World) (h0 : 0 ≤ i) (h1 : i < 3) (h2 : 0 ≤ t) (h3 : t < 64) :
    Calls Try.prog 37 #[.int .i64 i, .int .i64 t] w fun e w' => e = .returned (.int .i64 (place i t)) ∧ Below w.heap.size w w' := by
  rcases (by omega : i = 0 ∨ i = 1 ∨ i = 2) with rfl | rfl | rfl
  all_goals
    clear h0 h1
    go_enter Try.func37, Try.ntmps37
    go_wp2
    go_ret
    exact ⟨ret_int (by first | (simp [place]; done) | (simp [place]; omega)), ((Below.refl _ _).alloc (Nat.le_refl _) _).alloc (by simp) _⟩
theorem spPlace_yes (i t : Int) (w : World) (h0 : 0 ≤ i) (h1 : i < 3) (h2 : 0 ≤ t) (h3 : t < 64) :
    Calls Try.prog 16 #[.int .i64 i, .int .i64 t] w fun e w' => e = .returned (.int .i64 (place i t)) ∧ Below w.heap.size w w' := by
  have h1' : i ≤ 2 := by omega
  have h3' : t ≤ 63 := by omega
  go_enter Try.func16, Try.ntmps16
  go_wp2_with (first | (go_at_call 36; refine (l6In_yes _ _ _ _ (by assumption) (by assumption)).mono ?_; rintro e w' ⟨rfl, rfl⟩) | (go_at_call 37; refine (l1Place_yes _ _ _ h0 h1 h2 h3).mono ?_; rintro e w' ⟨rfl, hb⟩))
  go_ret
  exact ⟨rfl, hb⟩
theorem spPlace_no (i t : Int) (w : World) (h : (i < 0 ∨ 3 ≤ i) ∨ t < 0 ∨ 64 ≤ t) :
    Calls Try.prog 16 #[.int .i64 i, .int .i64 t] w fun e w' => e = .returned (.int .i64 (-1)) ∧ w = w' := by
  by_cases hi : i < 0 ∨ 2 < i
  · clear h
    go_enter Try.func16, Try.ntmps16
    go_wp2_with (go_at_call 36; refine (l6In_no _ _ _ _ hi).mono ?_; rintro e w' ⟨rfl, rfl⟩)
    go_ret
    exact ⟨rfl, rfl⟩
  · have ht : t < 0 ∨ 63 < t := by omega
    have h0 : 0 ≤ i := by omega
    have h1 : i ≤ 2 := by omega
    clear h hi
    go_enter Try.func16, Try.ntmps16
    go_wp2_with (first | (go_at_call 36; with_reducible refine (l6In_yes _ _ _ _ h0 h1).mono ?_; rintro e w' ⟨rfl, rfl⟩) | (go_at_call 36; refine (l6In_no _ _ _ _ ht).mono ?_; rintro e w' ⟨rfl, rfl⟩))
    go_ret
    exact ⟨rfl, rfl⟩

end Go.Proofs.Yteopnbjiffncbaa
