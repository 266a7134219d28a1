/-
  The statement of the law FnExactRankAdd: at every input the call returns true and leaves what it was given as it was.
-/
import Derived.Deep.RegionHeld3
import Derived.Test.YtnpcgbjkahpcfaaKExPair
import Derived.Test.YtnpcgbjkahpcfaaKConv
import Derived.Test.YtnpcgbjkahpcfaaKEq
import Derived.Test.YtnpcgbjkahpcfaaKMark
import Derived.Test.YtnpcgbjkahpcfaaKLen
import Derived.Deep.RegionWith
import Derived.Deep.DeepCutAuto
import Derived.Test.YtnpcgbjkahpcfaaRows
import Derived.WalkKit
import Derived.ProofKit
import Derived.OpenShut
import Derived.ShutString
import Derived.ChangeOld
import Derived.Below
namespace Go.Proofs.Ytnpcgbjkahpcfaa.fnExactRankAdd
open Go.ChangeShapes Go.WideShapes Go.ChangeAt Go.RowKit
open Go.ChangeMaps (open_string shut_string)
set_option linter.unusedVariables false

theorem own : ownKnob Try.prog.godebug = none := by kernel_rfl
theorem laidOut : laidOutB Try.prog = true := by kernel_rfl

set_option maxRecDepth 20000 in
set_option maxRecDepth 4000 in
set_option maxHeartbeats 16000000 in
theorem walk (v0 : Value) (z0 : List Pr) (al0 : Int) (a1 : Int) (w : World) (w0 : ArgP w v0 z0) (w1 : (Lit.int .i64 a1).wf = true) :
    Calls Try.prog 13 #[.agg #[v0, .int .i64 al0], .int .i64 a1] w fun e w' => e = .returned (.bool true) ∧ Below w.heap.size w w' := by
  have SP : ∀ w u, Prs w u z0 → _ := fun w u h => spRankAdd_at w u z0 al0 a1 h
  have IM : ∀ w u, Prs w u z0 → _ := fun w u h => imRankAdd_at w u z0 al0 a1 h
  have LN0 := addK_len z0 al0 a1
  generalize addK z0 al0 a1 = TT at SP IM LN0
  generalize addOkK z0 al0 a1 = ok at SP IM
  obtain ⟨ns, na⟩ := TT
  simp only at SP IM LN0
  have HSP := Lib.hid SP
  have HIM := Lib.hid IM
  have LN := Lib.hid LN0
  clear SP IM LN0
  obtain ⟨m, hm⟩ : ∃ m, m = ns.length := ⟨_, rfl⟩
  have M := Lib.hid hm
  have m4 : m ≤ 127 := by have := LN.out; omega
  clear hm
  have ek : (ok != ok) = false := by simp
  have q0 : ¬ (1 : Int) + 2 * (m : Int) < 0 := by omega
  have q1 : ((1 : Int) + 2 * (m : Int) != 1 + 2 * (m : Int)) = false := by simp
  obtain ⟨y0, e0, hx0⟩ := w0.form
  have A0 := Lib.hid w0
  obtain ⟨n0, hn0⟩ : ∃ n, n = z0.length := ⟨_, rfl⟩
  have Z0 := Lib.hid hn0
  rw [← hn0] at hx0
  obtain ⟨W0, hW⟩ : ∃ W, W = (w.alloc (.cells #[v0, .int .i64 al0] 48)) := ⟨_, rfl⟩
  have hA : Below w.heap.size w W0 := by rw [hW]; exact ((Below.refl _ _).alloc (Nat.le_refl _) _)
  have Xr0_0 : Box2 W0 (w.heap.size) 48 v0 (.int .i64 al0) := by rw [hW]; exact (Box2.new _ _ _ _)
  have B0 := Lib.hid hA
  clear hA
  clear w0 hn0
  subst hx0
  have KS := szRank_at W0 _ z0 al0 (1048576) (A0.out.below B0.out (Nat.le_refl _)) (by omega) (by omega)
  rw [← Z0.out] at KS
  by_cases hle0 : (1048576 : Int) < n0
  · rw [szV_out hle0] at KS
    have Cr0_0_0 := Xr0_0.cell0
    have Cr0_0_1 := Xr0_0.cell1
    go_enter Try.func13, Try.ntmps13
    go_wp2_with fail
    rw [← hW]
    refine KS.mono ?_
    rintro e w1 ⟨rfl, hb⟩
    go_wp2
    go_ret
    exact ⟨rfl, B0.out.trans (hb.mono B0.out.size)⟩
  rw [szV_in (by omega)] at KS
  have n01 : n0 ≤ 1048576 := by omega
  have nz0 : ¬ (1048576 : Int) - (n0 : Int) < 0 := by omega
  go_enter Try.func13, Try.ntmps13
  go_wp2_with fail
  rw [← hW]
  clear hW
  have Cr0_0_0 := Xr0_0.cell0
  have Cr0_0_1 := Xr0_0.cell1
  refine (KS).mono ?_
  rintro e w1' ⟨rfl, hb⟩
  have Xr0_a := Xr0_0.later hb
  have B_a := Lib.hid (B0.out.trans (hb.mono B0.out.size))
  clear B0 Xr0_0 Cr0_0_0 Cr0_0_1 
  clear hb
  have Xr0_1 := Xr0_a
  have Cr0_1_0 := Xr0_1.cell0
  have Cr0_1_1 := Xr0_1.cell1
  have B1 := B_a
  clear B_a Xr0_a 
  obtain ⟨W1, hW⟩ : ∃ W, W = w1' := ⟨_, rfl⟩
  subst hW
  clear KS hle0
  go_wp2_with fail
  refine (toRank_at W1 _ z0 al0 (A0.out.below B1.out (Nat.le_refl _)) (by rw [← Z0.out]; exact n01)).mono ?_
  rintro e w2' ⟨gp, rfl, ho, hb⟩
  rw [← Z0.out] at ho ⊢
  have Sp := Lib.hid B1.out.size
  have Xr0_a := Xr0_1.later hb
  have B_a := Lib.hid (B1.out.trans (hb.mono B1.out.size))
  clear B1 Xr0_1 Cr0_1_0 Cr0_1_1 
  have Op_a := Lib.hid ho
  clear ho hb
  have Xr0_2 := Xr0_a
  have Cr0_2_0 := Xr0_2.cell0
  have Cr0_2_1 := Xr0_2.cell1
  have Op_2 := Op_a
  have B2 := B_a
  clear B_a Xr0_a Op_a
  obtain ⟨W2, hW⟩ : ∃ W, W = w2' := ⟨_, rfl⟩
  subst hW
  go_wp2_with fail
  refine (HSP.out W2 _ Op_2.out.rd).mono ?_
  rintro e w3' ⟨v, rfl, ho, hb⟩
  obtain ⟨xs, cs, rfl, _, _⟩ := ho.form
  rw [← M.out] at ho ⊢
  have Tps := Lib.hid Op_2.out.lt
  have Ss := Lib.hid B2.out.size
  have Xr0_a := Xr0_2.later hb
  have Op_a := Lib.hid (Op_2.out.below hb)
  have B_a := Lib.hid (B2.out.trans (hb.mono B2.out.size))
  clear B2 Xr0_2 Cr0_2_0 Cr0_2_1 Op_2
  have Os_a := Lib.hid ho
  clear ho hb
  have Yr0 := Xr0_a.alloc (.cells #[.slice xs m cs, .int .i64 na] 29)
  have cr00 := Yr0.cell0
  have cr01 := Yr0.cell1
  obtain ⟨W3, hW⟩ : ∃ W, W = w3'.alloc (.cells #[.slice xs m cs, .int .i64 na] 29) := ⟨_, rfl⟩
  have Xr0_3 := Yr0
  rw [← hW] at Xr0_3
  have Op_3 := Lib.hid (Op_a.out.alloc (.cells #[.slice xs m cs, .int .i64 na] 29))
  rw [← hW] at Op_3
  have Os_3 := Lib.hid (Os_a.out.alloc (.cells #[.slice xs m cs, .int .i64 na] 29))
  rw [← hW] at Os_3
  have B3 : Hid (Below w.heap.size w W3) := by rw [hW]; exact B_a.out.alloc B_a.out.size _
  have Xs_3 : Box2 W3 w3'.heap.size 29 (.slice xs m cs) (.int .i64 na) := by rw [hW]; exact Box2.new _ _ _ _
  clear B_a Xr0_a Yr0 Op_a Os_a
  go_wp2_with fail
  rw [← hW]
  clear hW cr00 cr01
  have Cr0_3_0 := Xr0_3.cell0
  have Cr0_3_1 := Xr0_3.cell1
  have Cs_3_0 := Xs_3.cell0
  have Cs_3_1 := Xs_3.cell1
  clear Op_3
  refine (toRank_at W3 _ z0 al0 (A0.out.below B3.out (Nat.le_refl _)) (by rw [← Z0.out]; exact n01)).mono ?_
  rintro e w4' ⟨gx, rfl, ho, hb⟩
  rw [← Z0.out] at ho ⊢
  have Tsx := Lib.hid Os_3.out.lt
  have Sx := Lib.hid B3.out.size
  have Xr0_a := Xr0_3.later hb
  have Xs_a := Xs_3.later hb
  have Os_a := Lib.hid (Os_3.out.below hb)
  have B_a := Lib.hid (B3.out.trans (hb.mono B3.out.size))
  clear B3 Xr0_3 Cr0_3_0 Cr0_3_1 Xs_3 Cs_3_0 Cs_3_1 Os_3
  have Ox_a := Lib.hid ho
  clear ho hb
  have Yr0 := Xr0_a.alloc (.cells #[.slice (some ⟨gx, 0, none⟩) n0 n0, .int .i64 al0] 29)
  have cr00 := Yr0.cell0
  have cr01 := Yr0.cell1
  have Ys := Xs_a.alloc (.cells #[.slice (some ⟨gx, 0, none⟩) n0 n0, .int .i64 al0] 29)
  have cs0 := Ys.cell0
  have cs1 := Ys.cell1
  obtain ⟨W4, hW⟩ : ∃ W, W = w4'.alloc (.cells #[.slice (some ⟨gx, 0, none⟩) n0 n0, .int .i64 al0] 29) := ⟨_, rfl⟩
  have Xr0_4 := Yr0
  rw [← hW] at Xr0_4
  have Xs_4 := Ys
  rw [← hW] at Xs_4
  have Os_4 := Lib.hid (Os_a.out.alloc (.cells #[.slice (some ⟨gx, 0, none⟩) n0 n0, .int .i64 al0] 29))
  rw [← hW] at Os_4
  have Ox_4 := Lib.hid (Ox_a.out.alloc (.cells #[.slice (some ⟨gx, 0, none⟩) n0 n0, .int .i64 al0] 29))
  rw [← hW] at Ox_4
  have B4 : Hid (Below w.heap.size w W4) := by rw [hW]; exact B_a.out.alloc B_a.out.size _
  have Xx_4 : Box2 W4 w4'.heap.size 29 (.slice (some ⟨gx, 0, none⟩) n0 n0) (.int .i64 al0) := by rw [hW]; exact Box2.new _ _ _ _
  clear B_a Xr0_a Yr0 Xs_a Ys Os_a Ox_a
  go_wp2_with fail
  rw [← hW]
  clear hW cr00 cr01 cs0 cs1
  have Cr0_4_0 := Xr0_4.cell0
  have Cr0_4_1 := Xr0_4.cell1
  have Cs_4_0 := Xs_4.cell0
  have Cs_4_1 := Xs_4.cell1
  have Cx_4_0 := Xx_4.cell0
  have Cx_4_1 := Xx_4.cell1
  refine (HIM.out W4 _ Ox_4.out.rd).mono ?_
  rintro e w5' ⟨v, rfl, ho, hb⟩
  obtain ⟨xg, cg, rfl, _, _⟩ := ho.form
  rw [← M.out] at ho ⊢
  have Tsg := Lib.hid Os_4.out.lt
  have Txg := Lib.hid Ox_4.out.lt
  have Sg := Lib.hid B4.out.size
  have Xr0_a := Xr0_4.later hb
  have Xs_a := Xs_4.later hb
  have Xx_a := Xx_4.later hb
  have Os_a := Lib.hid (Os_4.out.below hb)
  have Ox_a := Lib.hid (Ox_4.out.below hb)
  have B_a := Lib.hid (B4.out.trans (hb.mono B4.out.size))
  clear B4 Xr0_4 Cr0_4_0 Cr0_4_1 Xs_4 Cs_4_0 Cs_4_1 Xx_4 Cx_4_0 Cx_4_1 Os_4 Ox_4
  have Og_a := Lib.hid ho
  clear ho hb
  have Yr0 := Xr0_a.alloc (.cells #[.slice xg m cg, .int .i64 na] 29)
  have cr00 := Yr0.cell0
  have cr01 := Yr0.cell1
  have Ys := Xs_a.alloc (.cells #[.slice xg m cg, .int .i64 na] 29)
  have cs0 := Ys.cell0
  have cs1 := Ys.cell1
  have Yx := Xx_a.alloc (.cells #[.slice xg m cg, .int .i64 na] 29)
  have cx0 := Yx.cell0
  have cx1 := Yx.cell1
  obtain ⟨W5, hW⟩ : ∃ W, W = w5'.alloc (.cells #[.slice xg m cg, .int .i64 na] 29) := ⟨_, rfl⟩
  have Xr0_5 := Yr0
  rw [← hW] at Xr0_5
  have Xs_5 := Ys
  rw [← hW] at Xs_5
  have Xx_5 := Yx
  rw [← hW] at Xx_5
  have Os_5 := Lib.hid (Os_a.out.alloc (.cells #[.slice xg m cg, .int .i64 na] 29))
  rw [← hW] at Os_5
  have Ox_5 := Lib.hid (Ox_a.out.alloc (.cells #[.slice xg m cg, .int .i64 na] 29))
  rw [← hW] at Ox_5
  have Og_5 := Lib.hid (Og_a.out.alloc (.cells #[.slice xg m cg, .int .i64 na] 29))
  rw [← hW] at Og_5
  have B5 : Hid (Below w.heap.size w W5) := by rw [hW]; exact B_a.out.alloc B_a.out.size _
  have Xg_5 : Box2 W5 w5'.heap.size 29 (.slice xg m cg) (.int .i64 na) := by rw [hW]; exact Box2.new _ _ _ _
  clear B_a Xr0_a Yr0 Xs_a Ys Xx_a Yx Os_a Ox_a Og_a
  go_wp2_with fail
  rw [← hW]
  clear hW cr00 cr01 cs0 cs1 cx0 cx1
  have Cr0_5_0 := Xr0_5.cell0
  have Cr0_5_1 := Xr0_5.cell1
  have Cs_5_0 := Xs_5.cell0
  have Cs_5_1 := Xs_5.cell1
  have Cx_5_0 := Xx_5.cell0
  have Cx_5_1 := Xx_5.cell1
  have Cg_5_0 := Xg_5.cell0
  have Cg_5_1 := Xg_5.cell1
  refine (eqRank_same W5 _ _ _ na Og_5.out.rd Os_5.out.rd (by have := LN.out; omega)).mono ?_
  rintro e w6' ⟨rfl, hb⟩
  have Xr0_a := Xr0_5.later hb
  have Xs_a := Xs_5.later hb
  have Xx_a := Xx_5.later hb
  have Xg_a := Xg_5.later hb
  have Os_a := Lib.hid (Os_5.out.below hb)
  have Ox_a := Lib.hid (Ox_5.out.below hb)
  have Og_a := Lib.hid (Og_5.out.below hb)
  have B_a := Lib.hid (B5.out.trans (hb.mono B5.out.size))
  clear B5 Xr0_5 Cr0_5_0 Cr0_5_1 Xs_5 Cs_5_0 Cs_5_1 Xx_5 Cx_5_0 Cx_5_1 Xg_5 Cg_5_0 Cg_5_1 Os_5 Ox_5 Og_5
  clear hb
  have Xr0_6 := Xr0_a
  have Cr0_6_0 := Xr0_6.cell0
  have Cr0_6_1 := Xr0_6.cell1
  have Xs_6 := Xs_a
  have Cs_6_0 := Xs_6.cell0
  have Cs_6_1 := Xs_6.cell1
  have Xx_6 := Xx_a
  have Cx_6_0 := Xx_6.cell0
  have Cx_6_1 := Xx_6.cell1
  have Xg_6 := Xg_a
  have Cg_6_0 := Xg_6.cell0
  have Cg_6_1 := Xg_6.cell1
  have Os_6 := Os_a
  have Ox_6 := Ox_a
  have Og_6 := Og_a
  have B6 := B_a
  clear B_a Xr0_a Xs_a Xx_a Xg_a Os_a Ox_a Og_a
  obtain ⟨W6, hW⟩ : ∃ W, W = w6' := ⟨_, rfl⟩
  subst hW
  go_upto_region 10 with fail
  go_cut [49] (fun c wx => c = .bool false ∧ Below W6.heap.size W6 wx)
  case first =>
    have KT : Hid (Calls Try.prog 38 #[.agg #[.slice y0 n0 e0, .int .i64 al0]] W6.drew fun e w' => ∃ g, e = .returned (.agg #[.slice (some ⟨g, 0, none⟩) n0 n0, .int .i64 al0]) ∧ OwnP w' W6.drew.heap.size (.slice (some ⟨g, 0, none⟩) n0 n0) z0 ∧ Below W6.drew.heap.size W6.drew w') := by
      have h := toRank_at W6.drew (.slice y0 n0 e0) z0 al0 (A0.out.below (Below.drew B6.out) (Nat.le_refl _)) (by rw [← Z0.out]; exact n01)
      rw [← Z0.out] at h
      exact h
    have RX := Lib.hid (show Prs W6.drew _ z0 from Ox_6.out.rd)
    have XD := Xx_6.drew
    clear Xr0_6 Xs_6 Xx_6 Xg_6 Os_6 Ox_6 Og_6 B6
    go_region_with (first
      | (go_at_call 38; refine KT.out.mono ?_; rintro e w7 ⟨g7, rfl, ho7, hb7⟩; have X7 := XD.later hb7; have x70 := X7.cell0; have x71 := X7.cell1; have KE := Lib.hid (eqRank_same w7 _ _ z0 al0 (RX.out.below hb7 (Nat.le_refl _)) ho7.rd (by rw [← Z0.out]; exact n01)); clear ho7 X7)
      | (go_at_call 39; refine KE.out.mono ?_; rintro e w8 ⟨rfl, hb8⟩; have hb : Below W6.heap.size W6 w8 := (Below.drew (Below.refl _ _)).trans (hb7.trans (hb8.mono hb7.size)); clear hb7 hb8))
    all_goals (go_wp2_with fail; go_meet; exact ⟨rfl, hb⟩)
  case rest =>
    obtain ⟨rfl, hb⟩ := hcut
    have Xr0_a := Xr0_6.later hb
    have Xs_a := Xs_6.later hb
    have Xx_a := Xx_6.later hb
    have Xg_a := Xg_6.later hb
    have Os_a := Lib.hid (Os_6.out.below hb)
    have Ox_a := Lib.hid (Ox_6.out.below hb)
    have Og_a := Lib.hid (Og_6.out.below hb)
    have B_a := Lib.hid (B6.out.trans (hb.mono B6.out.size))
    clear B6 Xr0_6 Cr0_6_0 Cr0_6_1 Xs_6 Cs_6_0 Cs_6_1 Xx_6 Cx_6_0 Cx_6_1 Xg_6 Cg_6_0 Cg_6_1 Os_6 Ox_6 Og_6
    clear hb
    have Xr0_7 := Xr0_a
    have Cr0_7_0 := Xr0_7.cell0
    have Cr0_7_1 := Xr0_7.cell1
    have Xs_7 := Xs_a
    have Cs_7_0 := Xs_7.cell0
    have Cs_7_1 := Xs_7.cell1
    have Xx_7 := Xx_a
    have Cx_7_0 := Xx_7.cell0
    have Cx_7_1 := Xx_7.cell1
    have Xg_7 := Xg_a
    have Cg_7_0 := Xg_7.cell0
    have Cg_7_1 := Xg_7.cell1
    have Os_7 := Os_a
    have Ox_7 := Ox_a
    have Og_7 := Og_a
    have B7 := B_a
    clear B_a Xr0_a Xs_a Xx_a Xg_a Os_a Ox_a Og_a
    obtain ⟨W7, hW⟩ : ∃ W, W = wc := ⟨_, rfl⟩
    subst hW
    go_wp2_with fail
    refine (markRank_at W7 _ _ z0 al0 1 Ox_7.out (by rw [← Z0.out]; exact n01) (by omega) (by omega)).mono ?_
    rintro e w8' ⟨rfl, ho, hg⟩
    have Xr0_a := Xr0_7.mark (by decide) Ox_7.out hg
    have Xs_a := Xs_7.mark (by decide) Ox_7.out hg
    have Xx_a := Xx_7.mark (by decide) Ox_7.out hg
    have Xg_a := Xg_7.mark (by decide) Ox_7.out hg
    have Os_a := Lib.hid (Os_7.out.keepL Tsx.out Ox_7.out hg)
    have Og_a := Lib.hid (Og_7.out.keepR Txg.out hg)
    have B_a := Lib.hid (below_markP B7.out Ox_7.out Sx.out hg)
    clear B7 Xr0_7 Cr0_7_0 Cr0_7_1 Xs_7 Cs_7_0 Cs_7_1 Xx_7 Cx_7_0 Cx_7_1 Xg_7 Cg_7_0 Cg_7_1 Os_7 Ox_7 Og_7
    have Ox_a := Lib.hid ho
    clear ho hg
    have Xr0_8 := Xr0_a
    have Cr0_8_0 := Xr0_8.cell0
    have Cr0_8_1 := Xr0_8.cell1
    have Xs_8 := Xs_a
    have Cs_8_0 := Xs_8.cell0
    have Cs_8_1 := Xs_8.cell1
    have Xx_8 := Xx_a
    have Cx_8_0 := Xx_8.cell0
    have Cx_8_1 := Xx_8.cell1
    have Xg_8 := Xg_a
    have Cg_8_0 := Xg_8.cell0
    have Cg_8_1 := Xg_8.cell1
    have Os_8 := Os_a
    have Ox_8 := Ox_a
    have Og_8 := Og_a
    have B8 := B_a
    clear B_a Xr0_a Xs_a Xx_a Xg_a Os_a Ox_a Og_a
    obtain ⟨W8, hW⟩ : ∃ W, W = w8' := ⟨_, rfl⟩
    subst hW
    rw [← Z0.out]
    have m0 : ¬ (1 : Int) + 2 * (n0 : Int) < 0 := by omega
    go_wp2_with fail
    refine (eqRank_same W8 _ _ _ na Og_8.out.rd Os_8.out.rd (by have := LN.out; omega)).mono ?_
    rintro e w9' ⟨rfl, hb⟩
    have Xr0_a := Xr0_8.later hb
    have Xs_a := Xs_8.later hb
    have Xx_a := Xx_8.later hb
    have Xg_a := Xg_8.later hb
    have Os_a := Lib.hid (Os_8.out.below hb)
    have Ox_a := Lib.hid (Ox_8.out.below hb)
    have Og_a := Lib.hid (Og_8.out.below hb)
    have B_a := Lib.hid (B8.out.trans (hb.mono B8.out.size))
    clear B8 Xr0_8 Cr0_8_0 Cr0_8_1 Xs_8 Cs_8_0 Cs_8_1 Xx_8 Cx_8_0 Cx_8_1 Xg_8 Cg_8_0 Cg_8_1 Os_8 Ox_8 Og_8
    clear hb
    have Xr0_9 := Xr0_a
    have Cr0_9_0 := Xr0_9.cell0
    have Cr0_9_1 := Xr0_9.cell1
    have Xs_9 := Xs_a
    have Cs_9_0 := Xs_9.cell0
    have Cs_9_1 := Xs_9.cell1
    have Xx_9 := Xx_a
    have Cx_9_0 := Xx_9.cell0
    have Cx_9_1 := Xx_9.cell1
    have Xg_9 := Xg_a
    have Cg_9_0 := Xg_9.cell0
    have Cg_9_1 := Xg_9.cell1
    have Os_9 := Os_a
    have Ox_9 := Ox_a
    have Og_9 := Og_a
    have B9 := B_a
    clear B_a Xr0_a Xs_a Xx_a Xg_a Os_a Ox_a Og_a
    obtain ⟨W9, hW⟩ : ∃ W, W = w9' := ⟨_, rfl⟩
    subst hW
    go_wp2_with fail
    refine (markRank_at W9 _ _ ns na 1 Og_9.out (by have := LN.out; omega) (by omega) (by omega)).mono ?_
    rintro e w10' ⟨rfl, ho, hg⟩
    have Xr0_a := Xr0_9.mark (by decide) Og_9.out hg
    have Xs_a := Xs_9.mark (by decide) Og_9.out hg
    have Xx_a := Xx_9.mark (by decide) Og_9.out hg
    have Xg_a := Xg_9.mark (by decide) Og_9.out hg
    have Os_a := Lib.hid (Os_9.out.keepL Tsg.out Og_9.out hg)
    have Ox_a := Lib.hid (Ox_9.out.keepL Txg.out Og_9.out hg)
    have B_a := Lib.hid (below_markP B9.out Og_9.out Sg.out hg)
    clear B9 Xr0_9 Cr0_9_0 Cr0_9_1 Xs_9 Cs_9_0 Cs_9_1 Xx_9 Cx_9_0 Cx_9_1 Xg_9 Cg_9_0 Cg_9_1 Os_9 Ox_9 Og_9
    have Og_a := Lib.hid ho
    clear ho hg
    have Xr0_10 := Xr0_a
    have Cr0_10_0 := Xr0_10.cell0
    have Cr0_10_1 := Xr0_10.cell1
    have Xs_10 := Xs_a
    have Cs_10_0 := Xs_10.cell0
    have Cs_10_1 := Xs_10.cell1
    have Xx_10 := Xx_a
    have Cx_10_0 := Xx_10.cell0
    have Cx_10_1 := Xx_10.cell1
    have Xg_10 := Xg_a
    have Cg_10_0 := Xg_10.cell0
    have Cg_10_1 := Xg_10.cell1
    have Os_10 := Os_a
    have Ox_10 := Ox_a
    have Og_10 := Og_a
    have B10 := B_a
    clear B_a Xr0_a Xs_a Xx_a Xg_a Os_a Ox_a Og_a
    obtain ⟨W10, hW⟩ : ∃ W, W = w10' := ⟨_, rfl⟩
    subst hW
    rw [← M.out]
    rw [← M.out] at Og_10
    go_wp2_with fail
    refine (heldRank_at W10 _ m na 1 Og_10.out.rd (by omega) (by omega) (by omega)).mono ?_
    rintro e w11' ⟨rfl, hb⟩
    have Xr0_a := Xr0_10.later hb
    have Xs_a := Xs_10.later hb
    have Xx_a := Xx_10.later hb
    have Xg_a := Xg_10.later hb
    have Os_a := Lib.hid (Os_10.out.below hb)
    have Ox_a := Lib.hid (Ox_10.out.below hb)
    have Og_a := Lib.hid (Og_10.out.below hb)
    have B_a := Lib.hid (B10.out.trans (hb.mono B10.out.size))
    clear B10 Xr0_10 Cr0_10_0 Cr0_10_1 Xs_10 Cs_10_0 Cs_10_1 Xx_10 Cx_10_0 Cx_10_1 Xg_10 Cg_10_0 Cg_10_1 Os_10 Ox_10 Og_10
    clear hb
    have Xr0_11 := Xr0_a
    have Cr0_11_0 := Xr0_11.cell0
    have Cr0_11_1 := Xr0_11.cell1
    have Xs_11 := Xs_a
    have Cs_11_0 := Xs_11.cell0
    have Cs_11_1 := Xs_11.cell1
    have Xx_11 := Xx_a
    have Cx_11_0 := Xx_11.cell0
    have Cx_11_1 := Xx_11.cell1
    have Xg_11 := Xg_a
    have Cg_11_0 := Xg_11.cell0
    have Cg_11_1 := Xg_11.cell1
    have Os_11 := Os_a
    have Ox_11 := Ox_a
    have Og_11 := Og_a
    have B11 := B_a
    clear B_a Xr0_a Xs_a Xx_a Xg_a Os_a Ox_a Og_a
    obtain ⟨W11, hW⟩ : ∃ W, W = w11' := ⟨_, rfl⟩
    subst hW
    go_wp2_with fail
    refine (toRank_at W11 _ z0 al0 (A0.out.below B11.out (Nat.le_refl _)) (by rw [← Z0.out]; exact n01)).mono ?_
    rintro e w12' ⟨gy, rfl, ho, hb⟩
    rw [← Z0.out] at ho ⊢
    have Tsy := Lib.hid Os_11.out.lt
    have Txy := Lib.hid Ox_11.out.lt
    have Tgy := Lib.hid Og_11.out.lt
    have Sy := Lib.hid B11.out.size
    have Xr0_a := Xr0_11.later hb
    have Xs_a := Xs_11.later hb
    have Xx_a := Xx_11.later hb
    have Xg_a := Xg_11.later hb
    have Os_a := Lib.hid (Os_11.out.below hb)
    have Ox_a := Lib.hid (Ox_11.out.below hb)
    have Og_a := Lib.hid (Og_11.out.below hb)
    have B_a := Lib.hid (B11.out.trans (hb.mono B11.out.size))
    clear B11 Xr0_11 Cr0_11_0 Cr0_11_1 Xs_11 Cs_11_0 Cs_11_1 Xx_11 Cx_11_0 Cx_11_1 Xg_11 Cg_11_0 Cg_11_1 Os_11 Ox_11 Og_11
    have Oy_a := Lib.hid ho
    clear ho hb
    have Xr0_12 := Xr0_a
    have Cr0_12_0 := Xr0_12.cell0
    have Cr0_12_1 := Xr0_12.cell1
    have Xs_12 := Xs_a
    have Cs_12_0 := Xs_12.cell0
    have Cs_12_1 := Xs_12.cell1
    have Xx_12 := Xx_a
    have Cx_12_0 := Xx_12.cell0
    have Cx_12_1 := Xx_12.cell1
    have Xg_12 := Xg_a
    have Cg_12_0 := Xg_12.cell0
    have Cg_12_1 := Xg_12.cell1
    have Os_12 := Os_a
    have Ox_12 := Ox_a
    have Og_12 := Og_a
    have Oy_12 := Oy_a
    have B12 := B_a
    clear B_a Xr0_a Xs_a Xx_a Xg_a Os_a Ox_a Og_a Oy_a
    obtain ⟨W12, hW⟩ : ∃ W, W = w12' := ⟨_, rfl⟩
    subst hW
    go_wp2_with fail
    refine (HIM.out W12 _ Oy_12.out.rd).mono ?_
    rintro e w13' ⟨v, rfl, ho, hb⟩
    obtain ⟨xh, ch, rfl, _, _⟩ := ho.form
    rw [← M.out] at ho ⊢
    have Tsh := Lib.hid Os_12.out.lt
    have Txh := Lib.hid Ox_12.out.lt
    have Tgh := Lib.hid Og_12.out.lt
    have Tyh := Lib.hid Oy_12.out.lt
    have Sh := Lib.hid B12.out.size
    have Xr0_a := Xr0_12.later hb
    have Xs_a := Xs_12.later hb
    have Xx_a := Xx_12.later hb
    have Xg_a := Xg_12.later hb
    have Os_a := Lib.hid (Os_12.out.below hb)
    have Ox_a := Lib.hid (Ox_12.out.below hb)
    have Og_a := Lib.hid (Og_12.out.below hb)
    have Oy_a := Lib.hid (Oy_12.out.below hb)
    have B_a := Lib.hid (B12.out.trans (hb.mono B12.out.size))
    clear B12 Xr0_12 Cr0_12_0 Cr0_12_1 Xs_12 Cs_12_0 Cs_12_1 Xx_12 Cx_12_0 Cx_12_1 Xg_12 Cg_12_0 Cg_12_1 Os_12 Ox_12 Og_12 Oy_12
    have Oh_a := Lib.hid ho
    clear ho hb
    have Yr0 := Xr0_a.alloc (.cells #[.slice xh m ch, .int .i64 na] 29)
    have cr00 := Yr0.cell0
    have cr01 := Yr0.cell1
    have Ys := Xs_a.alloc (.cells #[.slice xh m ch, .int .i64 na] 29)
    have cs0 := Ys.cell0
    have cs1 := Ys.cell1
    have Yx := Xx_a.alloc (.cells #[.slice xh m ch, .int .i64 na] 29)
    have cx0 := Yx.cell0
    have cx1 := Yx.cell1
    have Yg := Xg_a.alloc (.cells #[.slice xh m ch, .int .i64 na] 29)
    have cg0 := Yg.cell0
    have cg1 := Yg.cell1
    obtain ⟨W13, hW⟩ : ∃ W, W = w13'.alloc (.cells #[.slice xh m ch, .int .i64 na] 29) := ⟨_, rfl⟩
    have Xr0_13 := Yr0
    rw [← hW] at Xr0_13
    have Xs_13 := Ys
    rw [← hW] at Xs_13
    have Xx_13 := Yx
    rw [← hW] at Xx_13
    have Xg_13 := Yg
    rw [← hW] at Xg_13
    have Os_13 := Lib.hid (Os_a.out.alloc (.cells #[.slice xh m ch, .int .i64 na] 29))
    rw [← hW] at Os_13
    have Ox_13 := Lib.hid (Ox_a.out.alloc (.cells #[.slice xh m ch, .int .i64 na] 29))
    rw [← hW] at Ox_13
    have Og_13 := Lib.hid (Og_a.out.alloc (.cells #[.slice xh m ch, .int .i64 na] 29))
    rw [← hW] at Og_13
    have Oy_13 := Lib.hid (Oy_a.out.alloc (.cells #[.slice xh m ch, .int .i64 na] 29))
    rw [← hW] at Oy_13
    have Oh_13 := Lib.hid (Oh_a.out.alloc (.cells #[.slice xh m ch, .int .i64 na] 29))
    rw [← hW] at Oh_13
    have B13 : Hid (Below w.heap.size w W13) := by rw [hW]; exact B_a.out.alloc B_a.out.size _
    have Xh_13 : Box2 W13 w13'.heap.size 29 (.slice xh m ch) (.int .i64 na) := by rw [hW]; exact Box2.new _ _ _ _
    clear B_a Xr0_a Yr0 Xs_a Ys Xx_a Yx Xg_a Yg Os_a Ox_a Og_a Oy_a Oh_a
    go_wp2_with fail
    rw [← hW]
    clear hW cr00 cr01 cs0 cs1 cx0 cx1 cg0 cg1
    have Cr0_13_0 := Xr0_13.cell0
    have Cr0_13_1 := Xr0_13.cell1
    have Cs_13_0 := Xs_13.cell0
    have Cs_13_1 := Xs_13.cell1
    have Cx_13_0 := Xx_13.cell0
    have Cx_13_1 := Xx_13.cell1
    have Cg_13_0 := Xg_13.cell0
    have Cg_13_1 := Xg_13.cell1
    have Ch_13_0 := Xh_13.cell0
    have Ch_13_1 := Xh_13.cell1
    clear Oy_13
    refine (eqRank_same W13 _ _ _ na Oh_13.out.rd Os_13.out.rd (by have := LN.out; omega)).mono ?_
    rintro e w14' ⟨rfl, hb⟩
    have Xr0_a := Xr0_13.later hb
    have Xs_a := Xs_13.later hb
    have Xx_a := Xx_13.later hb
    have Xg_a := Xg_13.later hb
    have Xh_a := Xh_13.later hb
    have Os_a := Lib.hid (Os_13.out.below hb)
    have Ox_a := Lib.hid (Ox_13.out.below hb)
    have Og_a := Lib.hid (Og_13.out.below hb)
    have Oh_a := Lib.hid (Oh_13.out.below hb)
    have B_a := Lib.hid (B13.out.trans (hb.mono B13.out.size))
    clear B13 Xr0_13 Cr0_13_0 Cr0_13_1 Xs_13 Cs_13_0 Cs_13_1 Xx_13 Cx_13_0 Cx_13_1 Xg_13 Cg_13_0 Cg_13_1 Xh_13 Ch_13_0 Ch_13_1 Os_13 Ox_13 Og_13 Oh_13
    clear hb
    have Xr0_14 := Xr0_a
    have Cr0_14_0 := Xr0_14.cell0
    have Cr0_14_1 := Xr0_14.cell1
    have Xs_14 := Xs_a
    have Cs_14_0 := Xs_14.cell0
    have Cs_14_1 := Xs_14.cell1
    have Xx_14 := Xx_a
    have Cx_14_0 := Xx_14.cell0
    have Cx_14_1 := Xx_14.cell1
    have Xg_14 := Xg_a
    have Cg_14_0 := Xg_14.cell0
    have Cg_14_1 := Xg_14.cell1
    have Xh_14 := Xh_a
    have Ch_14_0 := Xh_14.cell0
    have Ch_14_1 := Xh_14.cell1
    have Os_14 := Os_a
    have Ox_14 := Ox_a
    have Og_14 := Og_a
    have Oh_14 := Oh_a
    have B14 := B_a
    clear B_a Xr0_a Xs_a Xx_a Xg_a Xh_a Os_a Ox_a Og_a Oh_a
    obtain ⟨W14, hW⟩ : ∃ W, W = w14' := ⟨_, rfl⟩
    subst hW
    go_wp2_with fail
    refine (heldRank_at W14 _ m na 1 Og_14.out.rd (by omega) (by omega) (by omega)).mono ?_
    rintro e w15' ⟨rfl, hb⟩
    have Xr0_a := Xr0_14.later hb
    have Xs_a := Xs_14.later hb
    have Xx_a := Xx_14.later hb
    have Xg_a := Xg_14.later hb
    have Xh_a := Xh_14.later hb
    have Os_a := Lib.hid (Os_14.out.below hb)
    have Ox_a := Lib.hid (Ox_14.out.below hb)
    have Og_a := Lib.hid (Og_14.out.below hb)
    have Oh_a := Lib.hid (Oh_14.out.below hb)
    have B_a := Lib.hid (B14.out.trans (hb.mono B14.out.size))
    clear B14 Xr0_14 Cr0_14_0 Cr0_14_1 Xs_14 Cs_14_0 Cs_14_1 Xx_14 Cx_14_0 Cx_14_1 Xg_14 Cg_14_0 Cg_14_1 Xh_14 Ch_14_0 Ch_14_1 Os_14 Ox_14 Og_14 Oh_14
    clear hb
    have Xr0_15 := Xr0_a
    have Cr0_15_0 := Xr0_15.cell0
    have Cr0_15_1 := Xr0_15.cell1
    have Xs_15 := Xs_a
    have Cs_15_0 := Xs_15.cell0
    have Cs_15_1 := Xs_15.cell1
    have Xx_15 := Xx_a
    have Cx_15_0 := Xx_15.cell0
    have Cx_15_1 := Xx_15.cell1
    have Xg_15 := Xg_a
    have Cg_15_0 := Xg_15.cell0
    have Cg_15_1 := Xg_15.cell1
    have Xh_15 := Xh_a
    have Ch_15_0 := Xh_15.cell0
    have Ch_15_1 := Xh_15.cell1
    have Os_15 := Os_a
    have Ox_15 := Ox_a
    have Og_15 := Og_a
    have Oh_15 := Oh_a
    have B15 := B_a
    clear B_a Xr0_a Xs_a Xx_a Xg_a Xh_a Os_a Ox_a Og_a Oh_a
    obtain ⟨W15, hW⟩ : ∃ W, W = w15' := ⟨_, rfl⟩
    subst hW
    go_wp2
    go_ret
    exact ⟨rfl, B15.out⟩

-- the row's step
set_option maxRecDepth 100000 in
theorem lifted (os : Os) (started : os.Started) (H : Type) (enc : TypeId × Value → H) :
    ReturnsInHanded {} Try.checked os 13 .any (Rows.fnExactRankAddSpec.pre6 enc Try.prog Try.f13 Rows.fnExactRankAddRow.domain false) (Rows.fnExactRankAddSpec.post enc Try.prog Try.f13 false true false false) := by
  refine returnsInHanded_of_change (C := Try.checked) own started (by kernel_rfl) Try.func13
    (ChangeSpec.witness6 (enc := enc) (C := Try.checked) false ⟨#[], #[.agg #[.slice none 0 0, .int .i64 0], .int .i64 0], []⟩ 8 (by kernel_rfl) (by kernel_rfl) (by kernel_rfl) (by kernel_rfl)) ?_
  intro W base args ds gs before hval0 hW hcnd _
  have hval : ∀ (j : Nat) t v, Try.f13.params[j]? = some t → args[j]? = some v → Value.okWide Try.prog W .any base t v := hval0
  have hW' := hW
  obtain ⟨p, q, hA0, hV, rfl, hfz, hnd⟩ := hW
  have hA : DataW.TrodAll enc Try.prog W 0 (fun _ => true) true Try.f13.params.toList args.toList ds p := hA0
  rw [Try.params13 ] at hA hval
  obtain ⟨v0, vs0, d0, ds0, p0, q0, hargs, rfl, rfl, h0, r0⟩ := trodAll_cons hA
  obtain ⟨v1, vs1, d1, ds1, p1, q1, rfl, rfl, rfl, h1, r1⟩ := trodAll_cons r0
  obtain ⟨rfl, rfl, rfl⟩ := trodAll_nil r1
  obtain rfl : args = #[v0, v1] := by cases args; simp_all
  obtain ⟨rfl, rfl⟩ := trodVars_none hV
  have k0 := h0
  have lt0 : ∀ x ∈ p0, x.block < W.heap.size := by obtain ⟨m, hm⟩ := k0; exact DataW.trod_lt m _ _ _ hm
  obtain ⟨u0, z0, al0, rfl, w0⟩ := open_rank (hval 0 48 v0 rfl rfl) h0
  obtain ⟨a1, rfl, rfl, rfl, w1⟩ := open_int Try.underlying3 (hval 1 3 v1 rfl rfl) h1
  clear hA0 hval0
  refine (walk u0 z0 al0 a1 W w0 w1).mono fun e W' ⟨he, bel⟩ => ?_
  subst he
  exact ⟨_, rfl, _, _, _, [], _, [], hW', trodAll_mk1 (shut_bool Try.underlying4 _), (trodAll_cons_mk (Below.trod laidOut (by kernel_rfl) (of_decide_eq_true (by kernel_rfl)) k0 bel lt0) (trodAll_cons_mk (shut_int Try.underlying3 w1) trodAll_mk0)), rfl, bel.frame _, fun h => by cases h⟩

theorem over : Rows.fnExactRankAddRow.holds Try.pinned (OpenSpec.ofChange Rows.fnExactRankAddSpec) :=
  OpenClaim.holds_of_wide 13 Try.f13 rfl rfl rfl rfl rfl rfl rfl ⟨rfl, rfl, rfl, rfl, rfl⟩ rfl rfl rfl rfl rfl (by kernel_rfl) Try.func13 (by kernel_rfl)
    (of_decide_eq_true (by kernel_rfl)) (by unfold Func.isWrapper; first | (rw [if_pos (by decide +kernel)]; kernel_rfl) | (rw [if_neg (by decide +kernel)]; exact ⟨rfl, rfl⟩))
    (fun os started H enc _ => lifted os started H enc)

theorem proved : Rows.FnExactRankAddSaid := over
#print axioms proved
end Go.Proofs.Ytnpcgbjkahpcfaa.fnExactRankAdd
