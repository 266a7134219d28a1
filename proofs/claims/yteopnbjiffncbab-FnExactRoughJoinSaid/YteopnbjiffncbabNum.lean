/-
  The walks of the small functions on numbers: RoughPlace of the program and of its model, and what they call.
-/
import Derived.Test.YteopnbjiffncbabRows
import Derived.WalkKit
import Derived.WalkSpells
import Derived.WalkLawsBesides
import Derived.Lib.Hide
namespace Go.Proofs.Yteopnbjiffncbab
open Go.RowKit

theorem ret_int {k : IntKind} {a b : Int} (h : a = b) : Ending.returned (.int k a) = .returned (.int k b) := by rw [h]
theorem ret_bool {a b : Bool} (h : a = b) : Ending.returned (.bool a) = .returned (.bool b) := by rw [h]

theorem isThing_yes (a : Int) (w : World) (h0 : 0 ≤ a) (h1 : a < 64) :
    Calls Try.prog 55 #[.int .i64 a] w fun e w' => e = .returned (.bool true) ∧ w = w' := by
  go_enter Try.func55, Try.ntmps55
  go_wp2
  go_ret
  exact ⟨rfl, rfl⟩
theorem isThing_no (a : Int) (w : World) (h : a < 0 ∨ 64 ≤ a) :
    Calls Try.prog 55 #[.int .i64 a] w fun e w' => e = .returned (.bool false) ∧ w = w' := by
  rcases h with h | h
  · have h' : ¬ 0 ≤ a := by omega
    go_enter Try.func55, Try.ntmps55
    go_wp2
    go_ret
    exact ⟨rfl, rfl⟩
  · have h' : ¬ a < 64 := by omega
    have h'' : 0 ≤ a := by omega
    go_enter Try.func55, Try.ntmps55
    go_wp2
    go_ret
    exact ⟨rfl, rfl⟩

theorem l6In_yes (n lo hi : Int) (w : World) (h0 : lo ≤ n) (h1 : n ≤ hi) :
    Calls Try.prog 50 #[.int .i64 n, .int .i64 lo, .int .i64 hi] w fun e w' => e = .returned (.bool true) ∧ w = w' := by
  go_enter Try.func50, Try.ntmps50
  go_wp2
  go_ret
  exact ⟨rfl, rfl⟩
theorem l6In_no (n lo hi : Int) (w : World) (h : n < lo ∨ hi < n) :
    Calls Try.prog 50 #[.int .i64 n, .int .i64 lo, .int .i64 hi] w fun e w' => e = .returned (.bool false) ∧ w = w' := by
  by_cases h' : lo ≤ n
  · have h1 : ¬ n ≤ hi := by omega
    go_enter Try.func50, Try.ntmps50
    go_wp2
    go_ret
    exact ⟨rfl, rfl⟩
  · go_enter Try.func50, Try.ntmps50
    go_wp2
    go_ret
    exact ⟨rfl, rfl⟩

/-- In which place of row i the thing t is counted. -/
def place (i t : Int) : Int := if i = 0 then (3 * t + t / 8) % 8 else if i = 1 then (5 * t + t / 16 + 1) % 8 else (t + t / 4 + 2) % 8
theorem place_bd (i t : Int) : 0 ≤ place i t ∧ place i t < 8 := by unfold place; split <;> (try split) <;> omega

theorem roughPlace_yes (i t : Int) (w : World) (h0 : 0 ≤ i) (h1 : i < 3) (h2 : 0 ≤ t) (h3 : t < 64) :
    Calls Try.prog 56 #[.int .i64 i, .int .i64 t] w fun e w' => e = .returned (.int .i64 (place i t)) ∧ w = w' := by
  rcases (by omega : i = 0 ∨ i = 1 ∨ i = 2) with rfl | rfl | rfl
  all_goals
    clear h0 h1
    go_enter Try.func56, Try.ntmps56
    go_wp2_with (go_at_call 55; refine (isThing_yes _ _ h2 h3).mono ?_; rintro e w' ⟨rfl, rfl⟩)
    go_ret
    exact ⟨ret_int rfl, rfl⟩
theorem roughPlace_no (i t : Int) (w : World) (h : (i < 0 ∨ 3 ≤ i) ∨ t < 0 ∨ 64 ≤ t) :
    Calls Try.prog 56 #[.int .i64 i, .int .i64 t] w fun e w' => e = .returned (.int .i64 (-1)) ∧ w = w' := by
  by_cases ht : t < 0 ∨ 64 ≤ t
  · clear h
    go_enter Try.func56, Try.ntmps56
    go_wp2_with (go_at_call 55; refine (isThing_no _ _ ht).mono ?_; rintro e w' ⟨rfl, rfl⟩)
    go_ret
    exact ⟨rfl, rfl⟩
  · have h2 : 0 ≤ t := by omega
    have h3 : t < 64 := by omega
    have n0 : (i == 0) = false := by simp; omega
    have n1 : (i == 1) = false := by simp; omega
    have n2 : (i == 2) = false := by simp; omega
    clear h ht
    go_enter Try.func56, Try.ntmps56
    go_wp2_with (go_at_call 55; refine (isThing_yes _ _ h2 h3).mono ?_; rintro e w' ⟨rfl, rfl⟩)
    go_ret
    exact ⟨rfl, rfl⟩

theorem l1Place_yes (i t : Int) (w : World) (h0 : 0 ≤ i) (h1 : i < 3) (h2 : 0 ≤ t) (h3 : t < 64) :
    Calls Try.prog 54 #[.int .i64 i, .int .i64 t] w fun e w' => e = .returned (.int .i64 (place i t)) ∧ Below w.heap.size w w' := by
  rcases (by omega : i = 0 ∨ i = 1 ∨ i = 2) with rfl | rfl | rfl
  all_goals
    clear h0 h1
    go_enter Try.func54, Try.ntmps54
    go_wp2
    go_ret
    exact ⟨ret_int (by first | (simp [place]; done) | (simp [place]; omega)), ((Below.refl _ _).alloc (Nat.le_refl _) _).alloc (by simp) _⟩

end Go.Proofs.Yteopnbjiffncbab
