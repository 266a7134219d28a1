/-
  The statement of the law FnExactRankOk: at every input the call returns true and leaves what it was given as it was.
-/
import Derived.Test.YtnpcgbjkahpcfaaKEq
import Derived.Test.YtnpcgbjkahpcfaaKConv
import Derived.Test.YtnpcgbjkahpcfaaKArg
import Derived.Test.YtnpcgbjkahpcfaaKIm
import Derived.Deep.RegionWith
import Derived.Test.YtnpcgbjkahpcfaaRows
import Derived.WalkKit
import Derived.ProofKit
import Derived.OpenShut
import Derived.ShutString
import Derived.ChangeOld
import Derived.Below
namespace Go.Proofs.Ytnpcgbjkahpcfaa.fnExactRankOk
open Go.ChangeShapes Go.WideShapes Go.ChangeAt Go.RowKit
open Go.ChangeMaps (open_string shut_string)
set_option linter.unusedVariables false

theorem own : ownKnob Try.prog.godebug = none := by kernel_rfl
theorem laidOut : laidOutB Try.prog = true := by kernel_rfl

set_option maxRecDepth 20000 in
set_option maxHeartbeats 2000000 in
theorem walk (v0 : Value) (z0 : List Pr) (al0 : Int) (w : World) (w0 : ArgP w v0 z0) :
    Calls Try.prog 12 #[.agg #[v0, .int .i64 al0]] w fun e w' => e = .returned (.bool true) ∧ Below w.heap.size w w' := by
  obtain ⟨x, c, hx⟩ := w0.form
  have W0 := Lib.hid w0
  obtain ⟨n, hn⟩ : ∃ n, n = z0.length := ⟨_, rfl⟩
  have HN := Lib.hid hn
  rw [← hn] at hx
  have hA := (Below.refl w.heap.size w).alloc (Nat.le_refl _) (.cells #[v0, .int .i64 al0] 48)
  have HA := Lib.hid hA
  have A1 := Lib.hid (w0.below hA (Nat.le_refl _))
  have KS := Lib.hid (szRank_at _ v0 z0 al0 1048576 A1.out (by omega) (by omega))
  have X0 := Box2.new w 48 v0 (.int .i64 al0)
  rw [← hn] at KS
  subst hx
  have cb0 := X0.cell0
  have cb1 := X0.cell1
  clear w0 hn hA
  by_cases hle : (1048576 : Int) < n
  · rw [szV_out hle] at KS
    go_enter Try.func12, Try.ntmps12
    go_wp2_with fail
    refine KS.out.mono ?_
    rintro e w1 ⟨rfl, hb1⟩
    go_wp2
    go_ret
    exact ⟨rfl, HA.out.trans (hb1.mono HA.out.size)⟩
  rw [szV_in (by omega)] at KS
  have n1 : n ≤ 1048576 := by omega
  have nz : ¬ (1048576 : Int) - (n : Int) < 0 := by omega
  go_enter Try.func12, Try.ntmps12
  go_wp2_with fail
  refine KS.out.mono ?_
  rintro e w1 ⟨rfl, hb1⟩
  have X1 := X0.later hb1
  have A2 := Lib.hid (A1.out.below hb1 (Nat.le_refl _))
  have B1 := Lib.hid (HA.out.trans (hb1.mono HA.out.size))
  clear hb1 cb0 cb1 X0
  have cb0 := X1.cell0
  have cb1 := X1.cell1
  go_wp2_with fail
  refine (toRank_at w1 _ z0 al0 A2.out (by rw [← HN.out]; exact n1)).mono ?_
  rintro e w2 ⟨g2, rfl, ho2, hb2⟩
  have I2 := Lib.hid ho2.rd
  rw [← HN.out] at I2 ⊢
  have X2 := X1.later hb2
  have A3 := Lib.hid (A2.out.below hb2 (Nat.le_refl _))
  have B2 := Lib.hid (B1.out.trans (hb2.mono B1.out.size))
  clear hb2 ho2 cb0 cb1 X1
  have cb0 := X2.cell0
  have cb1 := X2.cell1
  go_wp2_with fail
  refine (spRankOk_at w2 _ z0 al0 I2.out).mono ?_
  rintro e w3 ⟨rfl, hb3⟩
  have X3 := X2.later hb3
  have A4 := Lib.hid (A3.out.below hb3 (Nat.le_refl _))
  have B3 := Lib.hid (B2.out.trans (hb3.mono B2.out.size))
  clear hb3 cb0 cb1 X2 I2
  have cb0 := X3.cell0
  have cb1 := X3.cell1
  go_wp2_with fail
  refine (toRank_at w3 _ z0 al0 A4.out (by rw [← HN.out]; exact n1)).mono ?_
  rintro e w4 ⟨g4, rfl, ho4, hb4⟩
  have ho4 := ho4.rd
  rw [← HN.out] at ho4 ⊢
  have X4 := X3.later hb4
  obtain ⟨w5, hw5⟩ : ∃ w5, w5 = w4.alloc (.cells #[.slice (some ⟨g4, 0, none⟩) n n, .int .i64 al0] 29) := ⟨_, rfl⟩
  have hA5 := (Below.refl w4.heap.size w4).alloc (Nat.le_refl _) (.cells #[.slice (some ⟨g4, 0, none⟩) n n, .int .i64 al0] 29)
  rw [← hw5] at hA5
  have Y5 : Box2 w5 w4.heap.size 29 (.slice (some ⟨g4, 0, none⟩) n n) (.int .i64 al0) := by rw [hw5]; exact Box2.new _ _ _ _
  have X5 := X4.later hA5
  have A5 := Lib.hid ((A4.out.below hb4 (Nat.le_refl _)).below hA5 (Nat.le_refl _))
  have I5 := Lib.hid (ho4.below hA5 (Nat.le_refl _))
  have B5 := Lib.hid ((B3.out.trans (hb4.mono B3.out.size)).trans (hA5.mono (Nat.le_trans B3.out.size hb4.size)))
  clear hb4 ho4 cb0 cb1 X3 hA5 X4
  go_wp2_with fail
  rw [← hw5]
  refine (imRankOk_at w5 _ z0 al0 I5.out).mono ?_
  rintro e w6 ⟨rfl, hb6⟩
  have X6 := X5.later hb6
  have Y6 := Y5.later hb6
  have A6 := Lib.hid (A5.out.below hb6 (Nat.le_refl _))
  have I6 := Lib.hid (I5.out.below hb6 (Nat.le_refl _))
  have B6 := Lib.hid (B5.out.trans (hb6.mono B5.out.size))
  clear hb6 hw5 X5 Y5
  generalize rankB z0 al0 = V
  have cb0 := X6.cell0
  have cb1 := X6.cell1
  have y0 := Y6.cell0
  have y1 := Y6.cell1
  have KT : Hid (Calls Try.prog 38 #[.agg #[.slice x n c, .int .i64 al0]] w6.drew fun e w' => ∃ g, e = .returned (.agg #[.slice (some ⟨g, 0, none⟩) n n, .int .i64 al0]) ∧ OwnP w' w6.drew.heap.size (.slice (some ⟨g, 0, none⟩) n n) z0 ∧ Below w6.drew.heap.size w6.drew w') := by
    have h := toRank_at w6.drew (.slice x n c) z0 al0 A6.out (by rw [← HN.out]; exact n1)
    rw [← HN.out] at h
    exact h
  have e1 : (V != V) = false := by simp
  go_wp2
  go_region_with (first
    | (go_at_call 38; refine KT.out.mono ?_; rintro e w7 ⟨g7, rfl, ho7, hb7⟩; have Y7 := Y6.drew.later hb7; have y70 := Y7.cell0; have y71 := Y7.cell1; have KE := Lib.hid (eqRank_same w7 (.slice (some ⟨g4, 0, none⟩) n n) (.slice (some ⟨g7, 0, none⟩) n n) z0 al0 (Prs.below (show Prs w6.drew (.slice (some ⟨g4, 0, none⟩) n n) z0 from I6.out) hb7 (Nat.le_refl _)) ho7.rd (by rw [← HN.out]; exact n1)))
    | (go_at_call 39; refine KE.out.mono ?_; rintro e w8 ⟨rfl, hb8⟩))
  all_goals
    have fin := Lib.hid ((B6.out.trans (Below.drew (Below.refl _ _))).trans ((hb7.trans (hb8.mono hb7.size)).mono (Nat.le_trans B6.out.size (Nat.le_refl _))))
    clear hb7 hb8
    go_wp2
    go_ret
    exact ⟨rfl, fin.out⟩

-- the row's step
set_option maxRecDepth 100000 in
theorem lifted (os : Os) (started : os.Started) (H : Type) (enc : TypeId × Value → H) :
    ReturnsInHanded {} Try.checked os 12 .any (Rows.fnExactRankOkSpec.pre6 enc Try.prog Try.f12 Rows.fnExactRankOkRow.domain false) (Rows.fnExactRankOkSpec.post enc Try.prog Try.f12 false true false false) := by
  refine returnsInHanded_of_change (C := Try.checked) own started (by kernel_rfl) Try.func12
    (ChangeSpec.witness6 (enc := enc) (C := Try.checked) false ⟨#[], #[.agg #[.slice none 0 0, .int .i64 0]], []⟩ 8 (by kernel_rfl) (by kernel_rfl) (by kernel_rfl) (by kernel_rfl)) ?_
  intro W base args ds gs before hval0 hW hcnd _
  have hval : ∀ (j : Nat) t v, Try.f12.params[j]? = some t → args[j]? = some v → Value.okWide Try.prog W .any base t v := hval0
  have hW' := hW
  obtain ⟨p, q, hA0, hV, rfl, hfz, hnd⟩ := hW
  have hA : DataW.TrodAll enc Try.prog W 0 (fun _ => true) true Try.f12.params.toList args.toList ds p := hA0
  rw [Try.params12 ] at hA hval
  obtain ⟨v0, vs0, d0, ds0, p0, q0, hargs, rfl, rfl, h0, r0⟩ := trodAll_cons hA
  obtain ⟨rfl, rfl, rfl⟩ := trodAll_nil r0
  obtain rfl : args = #[v0] := by cases args; simp_all
  obtain ⟨rfl, rfl⟩ := trodVars_none hV
  have k0 := h0
  have lt0 : ∀ x ∈ p0, x.block < W.heap.size := by obtain ⟨m, hm⟩ := k0; exact DataW.trod_lt m _ _ _ hm
  obtain ⟨u0, z0, al0, rfl, w0⟩ := open_rank (hval 0 48 v0 rfl rfl) h0
  clear hA0 hval0
  refine (walk u0 z0 al0 W w0).mono fun e W' ⟨he, bel⟩ => ?_
  subst he
  exact ⟨_, rfl, _, _, _, [], _, [], hW', trodAll_mk1 (shut_bool Try.underlying4 _), (trodAll_cons_mk (Below.trod laidOut (by kernel_rfl) (of_decide_eq_true (by kernel_rfl)) k0 bel lt0) trodAll_mk0), rfl, bel.frame _, fun h => by cases h⟩

theorem over : Rows.fnExactRankOkRow.holds Try.pinned (OpenSpec.ofChange Rows.fnExactRankOkSpec) :=
  OpenClaim.holds_of_wide 12 Try.f12 rfl rfl rfl rfl rfl rfl rfl ⟨rfl, rfl, rfl, rfl, rfl⟩ rfl rfl rfl rfl rfl (by kernel_rfl) Try.func12 (by kernel_rfl)
    (of_decide_eq_true (by kernel_rfl)) (by unfold Func.isWrapper; first | (rw [if_pos (by decide +kernel)]; kernel_rfl) | (rw [if_neg (by decide +kernel)]; exact ⟨rfl, rfl⟩))
    (fun os started H enc _ => lifted os started H enc)

theorem proved : Rows.FnExactRankOkSaid := over
#print axioms proved
end Go.Proofs.Ytnpcgbjkahpcfaa.fnExactRankOk
