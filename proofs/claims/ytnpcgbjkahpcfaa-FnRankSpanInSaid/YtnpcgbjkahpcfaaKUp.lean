/-
  Going up from a thing's knot: a knot is of a thing just if one comes to it.
-/
import Derived.Test.YtnpcgbjkahpcfaaKDraw4
import Derived.Test.YtnpcgbjkahpcfaaKIm2
namespace Go.Proofs.Ytnpcgbjkahpcfaa

/-- Up from k, as long as that is above a. -/
def upK : Nat → Nat → Nat → Nat
  | 0, k, _ => k
  | f + 1, k, a => if a < k then upK f (k / 2) a else k
theorem upK_stop (f k a : Nat) (h : k ≤ a) : upK f k a = k := by
  cases f with
  | zero => rfl
  | succ f => simp [upK, show ¬ a < k by omega]
theorem upK_step (f k a : Nat) (h : a < k) : upK (f + 1) k a = upK f (k / 2) a := by simp [upK, h]
set_option maxRecDepth 100000 in
theorem up_all : ∀ t : Nat, t < 64 → ∀ n : Nat, n < 127 → (decide (upK 7 (64 + t) (n + 1) = n + 1)) = (decide (lowT ((n : Int) + 1) ≤ (t : Int)) && decide ((t : Int) ≤ highT ((n : Int) + 1))) := by decide +kernel

end Go.Proofs.Ytnpcgbjkahpcfaa
