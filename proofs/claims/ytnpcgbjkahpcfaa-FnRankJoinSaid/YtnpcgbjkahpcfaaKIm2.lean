/-
  Knots in the program: RankSpan.
-/
import Derived.Test.YtnpcgbjkahpcfaaKIm
namespace Go.Proofs.Ytnpcgbjkahpcfaa
open Go.RowKit Go.Sort

theorem or_one : ∀ n : Nat, n < 200 → bits BinOp.or IntKind.i64 ((n : Int) * 2) 1 = 2 * (n : Int) + 1 := by decide +kernel
theorem or_one' (y : Int) (h0 : 0 ≤ y) (h1 : y < 200) : bits BinOp.or IntKind.i64 (y * 2) 1 = 2 * y + 1 := by
  obtain ⟨n, rfl⟩ : ∃ n : Nat, y = (n : Int) := ⟨y.toNat, by omega⟩
  exact or_one n (by omega)
set_option maxHeartbeats 1000000 in
theorem imSpan_yes (w : World) (a : Int) (h1 : 1 ≤ a) (h2 : a ≤ 127) :
    Calls Try.prog 20 #[.int .i64 a] w fun e w' => e = .returned (.tuple #[.int .i64 (lowT a), .int .i64 (highT a)]) ∧ w = w' := by
  have HL : Hid (∃ L, L = dblL 7 a) := Lib.hid ⟨_, rfl⟩
  obtain ⟨L, hL⟩ := HL.out
  obtain ⟨H, hH⟩ : ∃ H, H = dblH 7 a a := ⟨_, rfl⟩
  have eL : lowT a = L - 64 := by rw [hL]; rfl
  have eH : highT a = H - 64 := by rw [hH]; rfl
  rw [eL, eH]
  have KL := Lib.hid hL
  have KH := Lib.hid hH
  clear hL hH eL eH HL
  have hlo : ¬ a < 1 := by omega
  have hhi : ¬ 128 ≤ a := by omega
  go_enter Try.func20, Try.ntmps20
  go_wp2
  go_loopw [4, 5] (fun p q wr => ∃ (f : Nat) (x y : Int), p = .int .i64 x ∧ q = .int .i64 y ∧ 1 ≤ x ∧ x ≤ 127 ∧ x ≤ y ∧ y + 1 ≤ 2 * x ∧ L = dblL f x ∧ H = dblH f x y ∧ 64 ≤ x * 2 ^ f ∧ wr = w) (fun p _ _ => 64 - (intOf p).toNat)
  case atStart => exact ⟨7, a, a, rfl, rfl, h1, h2, Int.le_refl _, by omega, KL.out, KH.out, by omega, rfl⟩
  case round =>
    obtain ⟨f, x, y, rfl, rfl, x0, x1, y0, y1, eL, eH, hf, rfl⟩ := hrel
    have KL := Lib.hid eL
    have KH := Lib.hid eH
    have KF := Lib.hid hf
    clear eL eH hf
    by_cases hlt : x < 64
    · cases f with
      | zero => have := KF.out; simp at this; omega
      | succ f =>
        have s := dbl_step f hlt
        have ho := or_one' y (by omega) (by omega)
        go_wp2
        go_roundw
        case rel => exact ⟨f, 2 * x, 2 * y + 1, by first | rfl | (go_num; done) | (congr 1; omega), by first | rfl | (congr 1; omega), by omega, by omega, by omega, by omega, KL.out.trans s.1, KH.out.trans (s.2 y), by have := KF.out; rw [Int.pow_succ] at this; rw [show 2 * x * 2 ^ f = x * (2 ^ f * 2) by rw [Int.mul_comm 2 x, Int.mul_assoc, Int.mul_comm 2 (2 ^ f)]]; exact this, by first | rfl | trivial⟩
        case measure => simp [intOf]; omega
    · have s := dbl_stop f (x := x) (by omega)
      have z1 := Lib.hid (KL.out.trans s.1)
      have z2 := Lib.hid (KH.out.trans (s.2 y))
      clear s
      go_wp2
      go_ret2
      exact ⟨by rw [z1.out, z2.out]; rfl, rfl⟩
theorem imSpan_no (w : World) (a : Int) (h : a < 1 ∨ 127 < a) :
    Calls Try.prog 20 #[.int .i64 a] w fun e w' => e = .returned (.tuple #[.int .i64 1, .int .i64 0]) ∧ w = w' := by
  rcases h with h | h
  · go_enter Try.func20, Try.ntmps20
    go_wp2
    go_ret2
    exact ⟨rfl, rfl⟩
  · have h1 : ¬ a < 1 := by omega
    have h2 : 128 ≤ a := by omega
    go_enter Try.func20, Try.ntmps20
    go_wp2
    go_ret2
    exact ⟨rfl, rfl⟩

end Go.Proofs.Ytnpcgbjkahpcfaa
