/-
  From which thing to which one a knot is: the model's l4Span and RankSpan.
-/
import Derived.Test.YtnpcgbjkahpcfaaKPair
import Derived.IntWalk
namespace Go.Proofs.Ytnpcgbjkahpcfaa
open Go.RowKit Go.Sort

def dblL : Nat → Int → Int
  | 0, x => x
  | f + 1, x => if x < 64 then dblL f (2 * x) else x
def dblH : Nat → Int → Int → Int
  | 0, _, h => h
  | f + 1, x, h => if x < 64 then dblH f (2 * x) (2 * h + 1) else h
/-- The first, and the last, thing of a knot. -/
def lowT (a : Int) : Int := dblL 7 a - 64
def highT (a : Int) : Int := dblH 7 a a - 64
theorem dbl_stop (f : Nat) {x : Int} (h : 64 ≤ x) : dblL f x = x ∧ ∀ y, dblH f x y = y := by
  cases f with
  | zero => exact ⟨rfl, fun _ => rfl⟩
  | succ f => simp [dblL, dblH, show ¬ x < 64 by omega]
theorem dbl_step (f : Nat) {x : Int} (h : x < 64) : dblL (f + 1) x = dblL f (2 * x) ∧ ∀ y, dblH (f + 1) x y = dblH f (2 * x) (2 * y + 1) := by
  simp [dblL, dblH, h]
/-- What one knot is, of all that there are. -/
theorem span_all : ∀ n : Nat, n < 127 → (0 ≤ lowT ((n : Int) + 1) ∧ lowT ((n : Int) + 1) ≤ highT ((n : Int) + 1) ∧ highT ((n : Int) + 1) ≤ 63) ∧ (63 ≤ n → lowT ((n : Int) + 1) = (n : Int) + 1 - 64 ∧ highT ((n : Int) + 1) = (n : Int) + 1 - 64) ∧
    (n < 63 → lowT (2 * ((n : Int) + 1)) = lowT ((n : Int) + 1) ∧ highT (2 * ((n : Int) + 1)) + 1 = lowT (2 * ((n : Int) + 1) + 1) ∧ highT (2 * ((n : Int) + 1) + 1) = highT ((n : Int) + 1) ∧ highT (2 * ((n : Int) + 1)) - lowT (2 * ((n : Int) + 1)) = highT ((n : Int) + 1) - highT (2 * ((n : Int) + 1)) - 1) := by decide +kernel

set_option maxHeartbeats 1000000 in
theorem l4Span_at (w : World) (a : Int) (h1 : 1 ≤ a) (h2 : a ≤ 127) :
    Calls Try.prog 45 #[.int .i64 a] w fun e w' => e = .returned (.tuple #[.int .i64 (lowT a), .int .i64 (highT a)]) ∧ w = w' := by
  have HL : Hid (∃ L, L = dblL 7 a) := Lib.hid ⟨_, rfl⟩
  obtain ⟨L, hL⟩ := HL.out
  obtain ⟨H, hH⟩ : ∃ H, H = dblH 7 a a := ⟨_, rfl⟩
  have eL : lowT a = L - 64 := by rw [hL]; rfl
  have eH : highT a = H - 64 := by rw [hH]; rfl
  rw [eL, eH]
  have KL := Lib.hid hL
  have KH := Lib.hid hH
  clear hL hH eL eH HL
  go_enter Try.func45, Try.ntmps45
  go_wp2
  go_loopw [4, 5] (fun p q wr => ∃ (f : Nat) (x y : Int), p = .int .i64 x ∧ q = .int .i64 y ∧ 1 ≤ x ∧ x ≤ 127 ∧ x ≤ y ∧ y + 1 ≤ 2 * x ∧ L = dblL f x ∧ H = dblH f x y ∧ 64 ≤ x * 2 ^ f ∧ wr = w) (fun p _ _ => 64 - (intOf p).toNat)
  case atStart => exact ⟨7, a, a, rfl, rfl, h1, h2, Int.le_refl _, by omega, KL.out, KH.out, by omega, rfl⟩
  case round =>
    obtain ⟨f, x, y, rfl, rfl, x0, x1, y0, y1, eL, eH, hf, rfl⟩ := hrel
    have KL := Lib.hid eL
    have KH := Lib.hid eH
    have KF := Lib.hid hf
    clear eL eH hf
    by_cases hlt : x < 64
    · cases f with
      | zero => have := KF.out; simp at this; omega
      | succ f =>
        have s := dbl_step f hlt
        go_wp2
        go_roundw
        case rel => exact ⟨f, 2 * x, 2 * y + 1, by first | rfl | (go_num; done) | (congr 1; omega), by first | rfl | (congr 1; omega), by omega, by omega, by omega, by omega, KL.out.trans s.1, KH.out.trans (s.2 y), by have := KF.out; rw [Int.pow_succ] at this; rw [show 2 * x * 2 ^ f = x * (2 ^ f * 2) by rw [Int.mul_comm 2 x, Int.mul_assoc, Int.mul_comm 2 (2 ^ f)]]; exact this, by first | rfl | trivial⟩
        case measure => simp [intOf]; omega
    · have s := dbl_stop f (x := x) (by omega)
      have z1 := Lib.hid (KL.out.trans s.1)
      have z2 := Lib.hid (KH.out.trans (s.2 y))
      clear s
      go_wp2
      go_ret2
      exact ⟨by rw [z1.out, z2.out]; rfl, rfl⟩

theorem spSpan_yes (w : World) (a : Int) (h1 : 1 ≤ a) (h2 : a ≤ 127) :
    Calls Try.prog 19 #[.int .i64 a] w fun e w' => e = .returned (.tuple #[.int .i64 (lowT a), .int .i64 (highT a)]) ∧ w = w' := by
  have K := Lib.hid (l6In_yes a 1 127 w h1 h2)
  have KS := Lib.hid (l4Span_at w a h1 h2)
  go_enter Try.func19, Try.ntmps19
  go_wp2_with fail
  refine K.out.mono ?_
  rintro e w' ⟨rfl, rfl⟩
  go_wp2_with fail
  refine KS.out.mono ?_
  rintro e w' ⟨rfl, rfl⟩
  go_wp2
  go_ret2
  exact ⟨rfl, rfl⟩
theorem spSpan_no (w : World) (a : Int) (h : a < 1 ∨ 127 < a) :
    Calls Try.prog 19 #[.int .i64 a] w fun e w' => e = .returned (.tuple #[.int .i64 1, .int .i64 0]) ∧ w = w' := by
  have K := Lib.hid (l6In_no a 1 127 w h)
  go_enter Try.func19, Try.ntmps19
  go_wp2_with fail
  refine K.out.mono ?_
  rintro e w' ⟨rfl, rfl⟩
  go_wp2
  go_ret2
  exact ⟨rfl, rfl⟩

end Go.Proofs.Ytnpcgbjkahpcfaa
