/-
  The statement of the law FnExactRoughGet: at every input the call returns true and leaves what it was given as it was.
-/
import Derived.Test.YteopnbjiffncbabExArgR
import Derived.Test.YteopnbjiffncbabImAll
import Derived.Test.YteopnbjiffncbabGet
import Derived.Deep.RegionWith
import Derived.Test.YteopnbjiffncbabRows
import Derived.WalkKit
import Derived.ProofKit
import Derived.OpenShut
import Derived.ShutString
import Derived.ChangeOld
import Derived.Below
namespace Go.Proofs.Yteopnbjiffncbab.fnExactRoughGet
open Go.ChangeShapes Go.WideShapes Go.ChangeAt Go.RowKit
open Go.ChangeMaps (open_string shut_string)
set_option linter.unusedVariables false

theorem own : ownKnob Try.prog.godebug = none := by kernel_rfl
theorem laidOut : laidOutB Try.prog = true := by kernel_rfl

set_option maxHeartbeats 2000000 in
theorem walk (v0 : Value) (z0 : List (List Int)) (a1 : Int) (w : World) (w0 : ArgR w v0 z0) (w1 : (Lit.int .i64 a1).wf = true) :
    Calls Try.prog 6 #[.agg #[v0], .int .i64 a1] w fun e w' => e = .returned (.bool true) ∧ Below w.heap.size w w' := by
  obtain ⟨x, c, hx⟩ := w0.form
  have W0 := Lib.hid w0
  obtain ⟨n, hn⟩ : ∃ n, n = z0.length := ⟨_, rfl⟩
  have HN := Lib.hid hn
  rw [← hn] at hx
  obtain ⟨q, hq⟩ : ∃ q, q = z0.length + ahead z0 z0.length := ⟨_, rfl⟩
  have HQ := Lib.hid hq
  have hA := (Below.refl w.heap.size w).alloc (Nat.le_refl _) (.cells #[v0] 29)
  have HA := Lib.hid hA
  have A1 := Lib.hid (w0.below hA (Nat.le_refl _))
  have KS := Lib.hid (szRough_at _ v0 z0 1048576 A1.out (by omega) (by omega))
  have cb : (w.alloc (.cells #[v0] 29)).cell? ⟨w.heap.size, 0, none⟩ = some v0 := by rw [hx]; simp
  rw [← hq] at KS
  subst hx
  clear w0 hn hA hq
  by_cases hle : (1048576 : Int) < q
  · rw [szV_out hle] at KS
    go_enter Try.func6, Try.ntmps6
    go_wp2_with fail
    refine KS.out.mono ?_
    rintro e w1 ⟨rfl, hb1⟩
    go_wp2
    go_ret
    exact ⟨rfl, HA.out.trans (hb1.mono HA.out.size)⟩
  rw [szV_in (by omega)] at KS
  have n1 : n ≤ 1048576 := by have h1 := HQ.out; have h2 := HN.out; omega
  have nz : ¬ (1048576 : Int) - (q : Int) < 0 := by omega
  have RL : Hid (∀ i, i < z0.length → (z0.getD i []).length ≤ 1048576) := fun i hi => by have h1 := ahead_row z0 i z0.length hi; have h2 := HQ.out; omega
  have RM : Hid (∀ i, i < z0.length → (z0.getD i []).length ≤ maxLen) := fun i hi => by have := RL.out i hi; unfold maxLen; omega
  go_enter Try.func6, Try.ntmps6
  go_wp2_with fail
  refine KS.out.mono ?_
  rintro e w1 ⟨rfl, hb1⟩
  have cb1 := cell_later hb1 cb
  have A2 := Lib.hid (A1.out.below hb1 (Nat.le_refl _))
  have B1 := Lib.hid (HA.out.trans (hb1.mono HA.out.size))
  clear hb1
  go_wp2_with fail
  refine (toRough_at w1 _ z0 A2.out (by rw [← HN.out]; exact n1) RL.out).mono ?_
  rintro e w2 ⟨g2, rfl, ho2, hb2⟩
  have ho2 := (copied_rws rfl (by rw [← HN.out]; exact n1) ho2.2.choose_spec.1 ho2.2.choose_spec.2)
  rw [← HN.out] at ho2 ⊢
  have cb2 := cell_later hb2 cb1
  have A3 := Lib.hid (A2.out.below hb2 (Nat.le_refl _))
  have B2 := Lib.hid (B1.out.trans (hb2.mono B1.out.size))
  have I2 := Lib.hid ho2
  clear hb2 ho2 cb1
  go_wp2_with fail
  refine (spGet_at w2 _ z0 a1 I2.out).mono ?_
  rintro e w3 ⟨rfl, hb3⟩
  have cb3 := cell_later hb3 cb2
  have A4 := Lib.hid (A3.out.below hb3 (Nat.le_refl _))
  have B3 := Lib.hid (B2.out.trans (hb3.mono B2.out.size))
  clear hb3 cb2 I2
  go_wp2_with fail
  refine (toRough_at w3 _ z0 A4.out (by rw [← HN.out]; exact n1) RL.out).mono ?_
  rintro e w4 ⟨g4, rfl, ho4, hb4⟩
  have ho4 := (copied_rws rfl (by rw [← HN.out]; exact n1) ho4.2.choose_spec.1 ho4.2.choose_spec.2)
  rw [← HN.out] at ho4 ⊢
  have cb4 := cell_later hb4 cb3
  have hA5 := (Below.refl w4.heap.size w4).alloc (Nat.le_refl _) (.cells #[.slice (some ⟨g4, 0, none⟩) n n] 24)
  obtain ⟨w5, hw5⟩ : ∃ w5, w5 = w4.alloc (.cells #[.slice (some ⟨g4, 0, none⟩) n n] 24) := ⟨_, rfl⟩
  rw [← hw5] at hA5
  have cx : w5.cell? ⟨w4.heap.size, 0, none⟩ = some (.slice (some ⟨g4, 0, none⟩) n n) := by rw [hw5]; simp
  have cb5 := cell_later hA5 cb4
  have A5 := Lib.hid ((A4.out.below hb4 (Nat.le_refl _)).below hA5 (Nat.le_refl _))
  have I5 := Lib.hid (ho4.below hA5 (Nat.le_refl _))
  have B5 := Lib.hid ((B3.out.trans (hb4.mono B3.out.size)).trans (hA5.mono (Nat.le_trans B3.out.size hb4.size)))
  clear hb4 ho4 cb3 hA5 cb4
  go_wp2_with fail
  rw [← hw5]
  refine (imGet_at w5 _ z0 a1 I5.out).mono ?_
  rintro e w6 ⟨rfl, hb6⟩
  have cx6 := cell_later hb6 cx
  have cb6 := cell_later hb6 cb5
  have A6 := Lib.hid (A5.out.below hb6 (Nat.le_refl _))
  have I6 := Lib.hid (I5.out.below hb6 (Nat.le_refl _))
  have B6 := Lib.hid (B5.out.trans (hb6.mono B5.out.size))
  clear hb6 hw5 cx cb5
  generalize getV z0 a1 = V
  have KT : Hid (Calls Try.prog 21 #[.agg #[.slice x n c]] w6.drew fun e w' => ∃ g, e = .returned (.agg #[.slice (some ⟨g, 0, none⟩) n n]) ∧ Rws w' (.slice (some ⟨g, 0, none⟩) n n) z0 ∧ Below w6.drew.heap.size w6.drew w') := by
    have h := toRough_at w6.drew (.slice x n c) z0 A6.out (by rw [← HN.out]; exact n1) RL.out
    refine h.mono fun e w' ⟨g, he, ho, hb⟩ => ⟨g, ?_, ?_, hb⟩
    · rw [HN.out]; exact he
    · have := (copied_rws rfl (by rw [← HN.out]; exact n1) ho.2.choose_spec.1 ho.2.choose_spec.2)
      rw [← HN.out] at this
      exact this
  have e1 : (V != V) = false := by simp
  go_wp2
  go_region_with (first
    | (go_at_call 21; refine KT.out.mono ?_; rintro e w7 ⟨g7, rfl, ho7, hb7⟩; have cx7 := cell_later hb7 (show w6.drew.cell? ⟨w4.heap.size, 0, none⟩ = some (.slice (some ⟨g4, 0, none⟩) n n) from cx6); have I7 := Lib.hid (Rws.below (show Rws w6.drew (.slice (some ⟨g4, 0, none⟩) n n) z0 from I6.out) hb7 (Nat.le_refl _)); have KE := Lib.hid (eqRough_at w7 _ _ z0 z0 I7.out ho7 (by rw [← HN.out]; unfold maxLen; omega) RM.out); rw [decide_eq_true rfl] at KE)
    | (go_at_call 16; refine KE.out.mono ?_; rintro e w8 ⟨rfl, hb8⟩))
  all_goals
    have fin := Lib.hid ((B6.out.trans (Below.drew (Below.refl _ _))).trans ((hb7.trans (hb8.mono hb7.size)).mono (Nat.le_trans B6.out.size (Nat.le_refl _))))
    clear hb7 hb8
    go_wp2
    go_ret
    exact ⟨rfl, fin.out⟩

-- the row's step
set_option maxRecDepth 100000 in
theorem lifted (os : Os) (started : os.Started) (H : Type) (enc : TypeId × Value → H) :
    ReturnsInHanded {} Try.checked os 6 .any (Rows.fnExactRoughGetSpec.pre6 enc Try.prog Try.f6 Rows.fnExactRoughGetRow.domain false) (Rows.fnExactRoughGetSpec.post enc Try.prog Try.f6 false true false false) := by
  refine returnsInHanded_of_change (C := Try.checked) own started (by kernel_rfl) Try.func6
    (ChangeSpec.witness6 (enc := enc) (C := Try.checked) false ⟨#[], #[.agg #[.slice none 0 0], .int .i64 0], []⟩ 8 (by kernel_rfl) (by kernel_rfl) (by kernel_rfl) (by kernel_rfl)) ?_
  intro W base args ds gs before hval0 hW hcnd _
  have hval : ∀ (j : Nat) t v, Try.f6.params[j]? = some t → args[j]? = some v → Value.okWide Try.prog W .any base t v := hval0
  have hW' := hW
  obtain ⟨p, q, hA0, hV, rfl, hfz, hnd⟩ := hW
  have hA : DataW.TrodAll enc Try.prog W 0 (fun _ => true) true Try.f6.params.toList args.toList ds p := hA0
  rw [Try.params6 ] at hA hval
  obtain ⟨v0, vs0, d0, ds0, p0, q0, hargs, rfl, rfl, h0, r0⟩ := trodAll_cons hA
  obtain ⟨v1, vs1, d1, ds1, p1, q1, rfl, rfl, rfl, h1, r1⟩ := trodAll_cons r0
  obtain ⟨rfl, rfl, rfl⟩ := trodAll_nil r1
  obtain rfl : args = #[v0, v1] := by cases args; simp_all
  obtain ⟨rfl, rfl⟩ := trodVars_none hV
  have k0 := h0
  have lt0 : ∀ x ∈ p0, x.block < W.heap.size := by obtain ⟨m, hm⟩ := k0; exact DataW.trod_lt m _ _ _ hm
  obtain ⟨u0, z0, rfl, w0⟩ := open_rough (hval 0 29 v0 rfl rfl) h0
  obtain ⟨a1, rfl, rfl, rfl, w1⟩ := open_int Try.underlying3 (hval 1 3 v1 rfl rfl) h1
  clear hA0 hval0
  refine (walk u0 z0 a1 W w0 w1).mono fun e W' ⟨he, bel⟩ => ?_
  subst he
  exact ⟨_, rfl, _, _, _, [], _, [], hW', trodAll_mk1 (shut_bool Try.underlying4 _), (trodAll_cons_mk (Below.trod laidOut (by kernel_rfl) (of_decide_eq_true (by kernel_rfl)) k0 bel lt0) (trodAll_cons_mk (shut_int Try.underlying3 w1) trodAll_mk0)), rfl, bel.frame _, fun h => by cases h⟩

theorem over : Rows.fnExactRoughGetRow.holds Try.pinned (OpenSpec.ofChange Rows.fnExactRoughGetSpec) :=
  OpenClaim.holds_of_wide 6 Try.f6 rfl rfl rfl rfl rfl rfl rfl ⟨rfl, rfl, rfl, rfl, rfl⟩ rfl rfl rfl rfl rfl (by kernel_rfl) Try.func6 (by kernel_rfl)
    (of_decide_eq_true (by kernel_rfl)) (by unfold Func.isWrapper; first | (rw [if_pos (by decide +kernel)]; kernel_rfl) | (rw [if_neg (by decide +kernel)]; exact ⟨rfl, rfl⟩))
    (fun os started H enc _ => lifted os started H enc)

theorem proved : Rows.FnExactRoughGetSaid := over
#print axioms proved
end Go.Proofs.Yteopnbjiffncbab.fnExactRoughGet
