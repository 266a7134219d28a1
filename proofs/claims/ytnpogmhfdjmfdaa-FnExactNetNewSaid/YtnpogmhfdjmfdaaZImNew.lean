/-
  SumNew, of the program and of its model.
-/
import Derived.Test.YtnpogmhfdjmfdaaZOwn
set_option linter.unusedVariables false
namespace Go.Proofs.Ytnpogmhfdjmfdaa
open Go.RowKit Go.Sort

theorem imSumNew_at (w : World) :
    Calls Try.prog 32 #[] w fun e w' => ∃ V, e = .returned (.agg #[.slice V.xr V.nr V.cr, .slice V.xf V.nf V.cf, .slice V.xt V.nt V.ct, .int .i64 newSm.lo, .int .i64 newSm.al, .slice V.xk V.nk V.ck, .int .i64 newSm.ka]) ∧ OwnS w' w.heap.size w'.heap.size V newSm ∧ Below w.heap.size w w' := by
  have hA := (Below.refl w.heap.size w).alloc (Nat.le_refl _) (.cells #[.slice none 0 0, .slice none 0 0, .slice none 0 0, .int .i64 0, .int .i64 0, .slice none 0 0, .int .i64 0] 73)
  have X0 := Box7.new w 73 (.slice none 0 0) (.slice none 0 0) (.slice none 0 0) (.int .i64 0) (.int .i64 0) (.slice none 0 0) (.int .i64 0)
  have HA := Lib.hid hA
  have S0 : Hid ((w.alloc (.cells #[.slice none 0 0, .slice none 0 0, .slice none 0 0, .int .i64 0, .int .i64 0, .slice none 0 0, .int .i64 0] 73)).heap.size = w.heap.size + 1) := by show _ = _; simp
  clear hA
  go_enter Try.func32, Try.ntmps32
  go_wp2_with fail
  refine (imNew_at _).mono ?_
  rintro e w1 ⟨u, G, C, rfl, ho, hb⟩
  obtain ⟨x, c, rfl⟩ := ho.form
  have X1 := X0.later hb
  have HB := Lib.hid (HA.out.trans (hb.mono HA.out.size))
  have hs := S0.out
  rw [hs] at ho
  have HS := OwnS.box7 (OwnS.rows ho (by have := hb.size; omega)) X1 (.slice x 3 c) (.slice none 0 0) (.slice none 0 0) (.int .i64 0) (.int .i64 0) (.slice none 0 0) (.int .i64 0)
  have Y := X1.set (.slice x 3 c) (.slice none 0 0) (.slice none 0 0) (.int .i64 0) (.int .i64 0) (.slice none 0 0) (.int .i64 0)
  have HW := below_set7 HB.out (Nat.le_refl _) (.slice x 3 c) (.slice none 0 0) (.slice none 0 0) (.int .i64 0) (.int .i64 0) (.slice none 0 0) (.int .i64 0)
  have e := set7_size w1 w.heap.size (.slice x 3 c) (.slice none 0 0) (.slice none 0 0) (.int .i64 0) (.int .i64 0) (.slice none 0 0) (.int .i64 0)
  obtain ⟨W, hW⟩ : ∃ W, W = set7 w1 w.heap.size (.slice x 3 c) (.slice none 0 0) (.slice none 0 0) (.int .i64 0) (.int .i64 0) (.slice none 0 0) (.int .i64 0) := ⟨_, rfl⟩
  rw [← hW] at HS Y HW e
  have fin := Lib.hid (And.intro (HS.base (B' := w.heap.size) (by omega) (Nat.le_of_eq e.symm) (Nat.le_refl _)) HW)
  have YY := Lib.hid Y
  have f := X1.free
  obtain ⟨c0, c1, c2, c3, c4, c5, c6⟩ := X1.cells
  unfold set7 at hW
  have HH := Lib.hid hW
  clear ho hb hs S0 HS HW Y e hW
  go_wp2
  show bodyPost _ _ _ _ _ (((((((w1.setCell _ (.slice x 3 c)).setCell _ _).setCell _ _).setCell _ _).setCell _ _).setCell _ _).setCell _ _)
  rw [← HH.out]
  obtain ⟨d0, d1, d2, d3, d4, d5, d6⟩ := YY.out.cells
  refine bodyPost_ret (v := .agg #[.slice x 3 c, .slice none 0 0, .slice none 0 0, .int .i64 0, .int .i64 0, .slice none 0 0, .int .i64 0]) (by simp [results, Try.results32, go_sem, d0, d1, d2, d3, d4, d5, d6]) rfl ?_
  exact ⟨_, rfl, fin.out⟩

theorem spSumNew_at (w : World) :
    Calls Try.prog 31 #[] w fun e w' => ∃ V, e = .returned (.agg #[.slice V.xr V.nr V.cr, .slice V.xf V.nf V.cf, .slice V.xt V.nt V.ct, .int .i64 newSm.lo, .int .i64 newSm.al, .slice V.xk V.nk V.ck, .int .i64 newSm.ka]) ∧ OwnS w' w.heap.size w'.heap.size V newSm ∧ Below w.heap.size w w' := by
  have hA := (Below.refl w.heap.size w).alloc (Nat.le_refl _) (.cells #[.slice none 0 0, .slice none 0 0, .slice none 0 0, .int .i64 0, .int .i64 0, .slice none 0 0, .int .i64 0] 73)
  have X0 := Box7.new w 73 (.slice none 0 0) (.slice none 0 0) (.slice none 0 0) (.int .i64 0) (.int .i64 0) (.slice none 0 0) (.int .i64 0)
  have HA := Lib.hid hA
  have S0 : Hid ((w.alloc (.cells #[.slice none 0 0, .slice none 0 0, .slice none 0 0, .int .i64 0, .int .i64 0, .slice none 0 0, .int .i64 0] 73)).heap.size = w.heap.size + 1) := by show _ = _; simp
  clear hA
  go_enter Try.func31, Try.ntmps31
  go_wp2_with fail
  refine (spNew_at _).mono ?_
  rintro e w1 ⟨u, G, C, rfl, ho, hb⟩
  obtain ⟨x, c, rfl⟩ := ho.form
  have X1 := X0.later hb
  have HB := Lib.hid (HA.out.trans (hb.mono HA.out.size))
  have hs := S0.out
  rw [hs] at ho
  have HS := OwnS.box7 (OwnS.rows ho (by have := hb.size; omega)) X1 (.slice x 3 c) (.slice none 0 0) (.slice none 0 0) (.int .i64 0) (.int .i64 0) (.slice none 0 0) (.int .i64 0)
  have Y := X1.set (.slice x 3 c) (.slice none 0 0) (.slice none 0 0) (.int .i64 0) (.int .i64 0) (.slice none 0 0) (.int .i64 0)
  have HW := below_set7 HB.out (Nat.le_refl _) (.slice x 3 c) (.slice none 0 0) (.slice none 0 0) (.int .i64 0) (.int .i64 0) (.slice none 0 0) (.int .i64 0)
  have e := set7_size w1 w.heap.size (.slice x 3 c) (.slice none 0 0) (.slice none 0 0) (.int .i64 0) (.int .i64 0) (.slice none 0 0) (.int .i64 0)
  obtain ⟨W, hW⟩ : ∃ W, W = set7 w1 w.heap.size (.slice x 3 c) (.slice none 0 0) (.slice none 0 0) (.int .i64 0) (.int .i64 0) (.slice none 0 0) (.int .i64 0) := ⟨_, rfl⟩
  rw [← hW] at HS Y HW e
  have fin := Lib.hid (And.intro (HS.base (B' := w.heap.size) (by omega) (Nat.le_of_eq e.symm) (Nat.le_refl _)) HW)
  have YY := Lib.hid Y
  have f := X1.free
  obtain ⟨c0, c1, c2, c3, c4, c5, c6⟩ := X1.cells
  unfold set7 at hW
  have HH := Lib.hid hW
  clear ho hb hs S0 HS HW Y e hW
  go_wp2
  show bodyPost _ _ _ _ _ (((((((w1.setCell _ (.slice x 3 c)).setCell _ _).setCell _ _).setCell _ _).setCell _ _).setCell _ _).setCell _ _)
  rw [← HH.out]
  obtain ⟨d0, d1, d2, d3, d4, d5, d6⟩ := YY.out.cells
  refine bodyPost_ret (v := .agg #[.slice x 3 c, .slice none 0 0, .slice none 0 0, .int .i64 0, .int .i64 0, .slice none 0 0, .int .i64 0]) (by simp [results, Try.results31, go_sem, d0, d1, d2, d3, d4, d5, d6]) rfl ?_
  exact ⟨_, rfl, fin.out⟩

end Go.Proofs.Ytnpogmhfdjmfdaa
