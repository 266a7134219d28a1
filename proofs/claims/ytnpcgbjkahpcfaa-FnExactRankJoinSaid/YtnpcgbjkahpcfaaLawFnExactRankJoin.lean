/-
  The statement of the law FnExactRankJoin: at every input the call returns true and leaves what it was given as it was.
-/
import Derived.Test.YtnpcgbjkahpcfaaKSpJoin2
import Derived.Deep.RegionHeld3
import Derived.Test.YtnpcgbjkahpcfaaKExPair
import Derived.Test.YtnpcgbjkahpcfaaKConv
import Derived.Test.YtnpcgbjkahpcfaaKEq
import Derived.Test.YtnpcgbjkahpcfaaKMark
import Derived.Test.YtnpcgbjkahpcfaaKLen
import Derived.Deep.RegionWith
import Derived.Deep.DeepCutAuto
import Derived.Test.YtnpcgbjkahpcfaaRows
import Derived.WalkKit
import Derived.ProofKit
import Derived.OpenShut
import Derived.ShutString
import Derived.ChangeOld
import Derived.Below
namespace Go.Proofs.Ytnpcgbjkahpcfaa.fnExactRankJoin
open Go.ChangeShapes Go.WideShapes Go.ChangeAt Go.RowKit
open Go.ChangeMaps (open_string shut_string)
set_option linter.unusedVariables false

theorem own : ownKnob Try.prog.godebug = none := by kernel_rfl
theorem laidOut : laidOutB Try.prog = true := by kernel_rfl

set_option maxRecDepth 20000 in
set_option maxRecDepth 4000 in
set_option maxHeartbeats 16000000 in
theorem walk (v0 : Value) (z0 : List Pr) (al0 : Int) (v1 : Value) (z1 : List Pr) (al1 : Int) (w : World) (w0 : ArgP w v0 z0) (w1 : ArgP w v1 z1) :
    Calls Try.prog 14 #[.agg #[v0, .int .i64 al0], .agg #[v1, .int .i64 al1]] w fun e w' => e = .returned (.bool true) ∧ Below w.heap.size w w' := by
  have SP : ∀ w u v, Prs w u z0 → Prs w v z1 → _ := fun w u v h h' => spRankJoin_at w u v z0 al0 z1 al1 h h'
  have IM : ∀ w u v, Prs w u z0 → Prs w v z1 → _ := fun w u v h h' => imRankJoin_at w u v z0 al0 z1 al1 h h'
  have LN0 := joinK_len z0 al0 z1 al1
  generalize joinK z0 al0 z1 al1 = TT at SP IM LN0
  generalize joinOkK z0 al0 z1 al1 = ok at SP IM
  obtain ⟨ns, na⟩ := TT
  simp only at SP IM LN0
  have HSP := Lib.hid SP
  have HIM := Lib.hid IM
  have LN := Lib.hid LN0
  clear SP IM LN0
  obtain ⟨m, hm⟩ : ∃ m, m = ns.length := ⟨_, rfl⟩
  have M := Lib.hid hm
  have m4 : m ≤ 127 := by have := LN.out; omega
  clear hm
  have ek : (ok != ok) = false := by simp
  have q0 : ¬ (1 : Int) + 2 * (m : Int) < 0 := by omega
  have q1 : ((1 : Int) + 2 * (m : Int) != 1 + 2 * (m : Int)) = false := by simp
  obtain ⟨y0, e0, hx0⟩ := w0.form
  have A0 := Lib.hid w0
  obtain ⟨n0, hn0⟩ : ∃ n, n = z0.length := ⟨_, rfl⟩
  have Z0 := Lib.hid hn0
  rw [← hn0] at hx0
  obtain ⟨y1, e1, hx1⟩ := w1.form
  have A1 := Lib.hid w1
  obtain ⟨n1, hn1⟩ : ∃ n, n = z1.length := ⟨_, rfl⟩
  have Z1 := Lib.hid hn1
  rw [← hn1] at hx1
  obtain ⟨W0, hW⟩ : ∃ W, W = ((w.alloc (.cells #[v0, .int .i64 al0] 48)).alloc (.cells #[v1, .int .i64 al1] 48)) := ⟨_, rfl⟩
  have hA : Below w.heap.size w W0 := by rw [hW]; exact ((Below.refl _ _).alloc (Nat.le_refl _) _).alloc (by simp) _
  have Xr0_0 : Box2 W0 (w.heap.size) 48 v0 (.int .i64 al0) := by rw [hW]; exact ((Box2.new _ _ _ _).alloc _)
  have Xr1_0 : Box2 W0 (w.heap.size + 1) 48 v1 (.int .i64 al1) := by rw [hW]; exact (by have h := Box2.new (w.alloc (.cells #[v0, .int .i64 al0] 48)) 48 v1 (.int .i64 al1); simpa using h)
  have B0 := Lib.hid hA
  clear hA
  clear w0 hn0
  subst hx0
  clear w1 hn1
  subst hx1
  have KS := szRank_at W0 _ z0 al0 (1048576) (A0.out.below B0.out (Nat.le_refl _)) (by omega) (by omega)
  rw [← Z0.out] at KS
  by_cases hle0 : (1048576 : Int) < n0
  · rw [szV_out hle0] at KS
    have Cr0_0_0 := Xr0_0.cell0
    have Cr0_0_1 := Xr0_0.cell1
    have Cr1_0_0 := Xr1_0.cell0
    have Cr1_0_1 := Xr1_0.cell1
    go_enter Try.func14, Try.ntmps14
    go_wp2_with fail
    rw [← hW]
    refine KS.mono ?_
    rintro e w1 ⟨rfl, hb⟩
    go_wp2
    go_ret
    exact ⟨rfl, B0.out.trans (hb.mono B0.out.size)⟩
  rw [szV_in (by omega)] at KS
  have n01 : n0 ≤ 1048576 := by omega
  have nz0 : ¬ (1048576 : Int) - (n0 : Int) < 0 := by omega
  go_enter Try.func14, Try.ntmps14
  go_wp2_with fail
  rw [← hW]
  clear hW
  have Cr0_0_0 := Xr0_0.cell0
  have Cr0_0_1 := Xr0_0.cell1
  have Cr1_0_0 := Xr1_0.cell0
  have Cr1_0_1 := Xr1_0.cell1
  refine (KS).mono ?_
  rintro e w1' ⟨rfl, hb⟩
  have Xr0_a := Xr0_0.later hb
  have Xr1_a := Xr1_0.later hb
  have B_a := Lib.hid (B0.out.trans (hb.mono B0.out.size))
  clear B0 Xr0_0 Cr0_0_0 Cr0_0_1 Xr1_0 Cr1_0_0 Cr1_0_1 
  clear hb
  have Xr0_1 := Xr0_a
  have Cr0_1_0 := Xr0_1.cell0
  have Cr0_1_1 := Xr0_1.cell1
  have Xr1_1 := Xr1_a
  have Cr1_1_0 := Xr1_1.cell0
  have Cr1_1_1 := Xr1_1.cell1
  have B1 := B_a
  clear B_a Xr0_a Xr1_a 
  obtain ⟨W1, hW⟩ : ∃ W, W = w1' := ⟨_, rfl⟩
  subst hW
  clear KS hle0
  have KS := szRank_at W1 _ z1 al1 (1048576 - (n0 : Int)) (A1.out.below B1.out (Nat.le_refl _)) (by omega) (by omega)
  rw [← Z1.out] at KS
  by_cases hle1 : (1048576 - (n0 : Int) : Int) < n1
  · rw [szV_out hle1] at KS
    go_wp2_with fail
    refine KS.mono ?_
    rintro e w1 ⟨rfl, hb⟩
    go_wp2
    go_ret
    exact ⟨rfl, B1.out.trans (hb.mono B1.out.size)⟩
  rw [szV_in (by omega)] at KS
  have n11 : n1 ≤ 1048576 := by omega
  have nz1 : ¬ (1048576 - (n0 : Int) : Int) - (n1 : Int) < 0 := by omega
  go_wp2_with fail
  refine (KS).mono ?_
  rintro e w2' ⟨rfl, hb⟩
  have Xr0_a := Xr0_1.later hb
  have Xr1_a := Xr1_1.later hb
  have B_a := Lib.hid (B1.out.trans (hb.mono B1.out.size))
  clear B1 Xr0_1 Cr0_1_0 Cr0_1_1 Xr1_1 Cr1_1_0 Cr1_1_1 
  clear hb
  have Xr0_2 := Xr0_a
  have Cr0_2_0 := Xr0_2.cell0
  have Cr0_2_1 := Xr0_2.cell1
  have Xr1_2 := Xr1_a
  have Cr1_2_0 := Xr1_2.cell0
  have Cr1_2_1 := Xr1_2.cell1
  have B2 := B_a
  clear B_a Xr0_a Xr1_a 
  obtain ⟨W2, hW⟩ : ∃ W, W = w2' := ⟨_, rfl⟩
  subst hW
  clear KS hle1
  go_upto_region 8 with fail
  go_cut [6, 7] (fun sp sb wx => MadeRank W2 ns na ok sp sb wx)
  case first =>
    have A0_ := Lib.hid (A0.out.below B2.out (Nat.le_refl _))
    have A1_ := Lib.hid (A1.out.below B2.out (Nat.le_refl _))
    have D0 := Lib.hid ((Below.refl W2.heap.size W2).drew)
    have E0 := Lib.hid (D0.out.alloc D0.out.size (.cells #[.slice none 0 0, .int .i64 0] 29))
    have XE0 : Hid (Box2 (W2.drew.alloc (.cells #[.slice none 0 0, .int .i64 0] 29)) W2.heap.size 29 (.slice none 0 0) (.int .i64 0)) := Lib.hid (Box2.new W2.drew _ _ _)
    have lr0 := Xr0_2.lt
    have lr1 := Xr1_2.lt
    have HR1 := Lib.hid Xr1_2
    have CR00 := Xr0_2.drew.cell0
    have CR10 := Xr1_2.drew.cell0
    have CR01 := Xr0_2.drew.cell1
    have CR11 := Xr1_2.drew.cell1
    have HS : Hid (∀ w', Below W2.heap.size W2 w' → w'.cell? ⟨w.heap.size, 0, none⟩ = some (.slice y0 n0 e0) ∧ w'.cell? ⟨w.heap.size, 1, none⟩ = some (.int .i64 al0) ∧ w'.cell? ⟨w.heap.size + 1, 0, none⟩ = some (.slice y1 n1 e1) ∧ w'.cell? ⟨w.heap.size + 1, 1, none⟩ = some (.int .i64 al1)) := fun w' h => ⟨(Xr0_2.below h lr0).cell0, (Xr0_2.below h lr0).cell1, (Xr1_2.below h lr1).cell0, (Xr1_2.below h lr1).cell1⟩
    have E0n := Lib.hid (((Below.refl W2.heap.size W2).alloc (Nat.le_refl _) (.cells #[.slice none 0 0, .int .i64 0] 29)).drew)
    have Z1n : Hid (n1 ≤ 1048576) := Lib.hid n11
    clear Xr0_2 Xr1_2   B2
    go_region_held3 (fun w' => w'.cell? ⟨w.heap.size, 0, none⟩ = some (.slice y0 n0 e0) ∧ w'.cell? ⟨w.heap.size, 1, none⟩ = some (.int .i64 al0) ∧ w'.cell? ⟨w.heap.size + 1, 0, none⟩ = some (.slice y1 n1 e1) ∧ w'.cell? ⟨w.heap.size + 1, 1, none⟩ = some (.int .i64 al1)) (first | exact HS.out _ D0.out | exact HS.out _ E0n.out | exact HS.out _ Dan.out | exact HS.out _ Ean.out | exact HS.out _ Dbn.out | exact HS.out _ Ebn.out | exact HS.out _ Dcn.out | exact HS.out _ (Dcn.out.alloc Dcn.out.size _) | exact HS.out _ (below_set2 Dcn.out (by first | exact Nat.le_refl _ | exact Dan.out.size | exact Dbn.out.size | exact Dcn.out.size) _ _) | exact HS.out _ (below_set2 (Dcn.out.alloc Dcn.out.size _) (by first | exact Dcn.out.size) _ _))
     (first
      | (go_at_call_of 38 y0; refine (toRank_at _ (.slice y0 n0 e0) z0 al0 ?_ ?_).mono ?_; (first | exact A0_.out.below E0.out (Nat.le_refl _) | exact A0_.out.below D0.out (Nat.le_refl _)); (rw [← Z0.out]; exact n01); rintro e wa ⟨ga, rfl, ho, hb⟩; rw [← Z0.out] at ho ⊢; (first | (have Da := Lib.hid (E0.out.trans (hb.mono E0.out.size))) | (have Da := Lib.hid (D0.out.trans (hb.mono D0.out.size)))); have Ea := Lib.hid (Da.out.alloc Da.out.size (.cells #[.slice none 0 0, .int .i64 0] 29)); have Dan := Da; have Ean := Ea; have XEa := Lib.hid (Box2.new wa 29 (.slice none 0 0) (.int .i64 0)); (first | (have XP := Lib.hid (XE0.out.later hb)) | (have XP' := Lib.hid (XP.out.later hb)) | skip); have Oa := Lib.hid ho; have OEa := Lib.hid (ho.alloc (.cells #[.slice none 0 0, .int .i64 0] 29)); have HRa := Lib.hid (HR1.out.later (show Below W2.heap.size W2 wa from Da.out)); have CRa0 := HRa.out.cell0; have CRa1 := HRa.out.cell1; have lra := Nat.lt_of_lt_of_le lr1 Da.out.size; clear ho hb)
      | (go_at_call_of 38 y1; refine (toRank_at _ (.slice y1 n1 e1) z1 al1 ?_ ?_).mono ?_; (first | exact A1_.out.below Ea.out (Nat.le_refl _) | exact A1_.out.below Da.out (Nat.le_refl _)); (rw [← Z1.out]; exact n11); rintro e wb ⟨gb, rfl, ho, hb⟩; rw [← Z1.out] at ho ⊢; (first | (have Db := Lib.hid (Ea.out.trans (hb.mono Ea.out.size))) | (have Db := Lib.hid (Da.out.trans (hb.mono Da.out.size)))); have Eb := Lib.hid (Db.out.alloc Db.out.size (.cells #[.slice none 0 0, .int .i64 0] 29)); have Dbn := Db; have Ebn := Eb; have XEb := Lib.hid (Box2.new wb 29 (.slice none 0 0) (.int .i64 0)); (first | (have XP := Lib.hid (XEa.out.later hb)) | (have XP' := Lib.hid (XP.out.later hb)) | skip); have Ob := Lib.hid ho; have OEb := Lib.hid (ho.alloc (.cells #[.slice none 0 0, .int .i64 0] 29)); (first | (have Oa' := Lib.hid (Oa.out.below hb)) | (have Oa' := Lib.hid (OEa.out.below hb))); have OEa' := Lib.hid (Oa'.out.alloc (.cells #[.slice none 0 0, .int .i64 0] 29)); clear ho hb)
      | (go_at_call 35; refine (HSP.out _ (.slice (some ⟨ga, 0, none⟩) n0 n0) (.slice (some ⟨gb, 0, none⟩) n1 n1) ?_ ?_).mono ?_; (first | exact Oa'.out.rd | exact OEa'.out.rd); (first | exact Ob.out.rd | exact OEb.out.rd); rintro e wc ⟨v, rfl, ho, hb⟩; obtain ⟨xs, cs, rfl, _, _⟩ := ho.form; (first | (have Dc := Lib.hid (Eb.out.trans (hb.mono Eb.out.size))) | (have Dc := Lib.hid (Db.out.trans (hb.mono Db.out.size)))); (first | (have XP2 := Lib.hid (XEb.out.later hb)) | (have XP2 := Lib.hid (XP'.out.later hb)) | (have XP2 := Lib.hid (XP.out.later hb)) | skip); (try (have cp0 := XP2.out.cell0; have cp1 := XP2.out.cell1; have fp := XP2.out.free)); have Oc := Lib.hid ho; have Dcn := Dc; clear ho hb))
    all_goals (go_wp2_with fail; go_meet)
    all_goals first
      | exact MadeRank.last Dc.out Db.out.size Oc.out
      | exact MadeRank.stored Dc.out (by first | exact Db.out.size | exact Eb.out.size) Oc.out (by first | exact Nat.le_refl _ | exact Da.out.size | exact Db.out.size) XP2.out
  case rest =>
    obtain ⟨ps, xs, cs, Ls, rfl, rfl, hb, hL, ho, hX⟩ := hcut
    rw [← M.out] at ho hX
    have Ss := Lib.hid (Nat.le_trans B2.out.size hL)
    have Xr0_a := Xr0_2.later hb
    have Xr1_a := Xr1_2.later hb
    have B_a := Lib.hid (B2.out.trans (hb.mono B2.out.size))
    clear B2 Xr0_2 Cr0_2_0 Cr0_2_1 Xr1_2 Cr1_2_0 Cr1_2_1 
    have Os_a := Lib.hid ho
    have Xs_a := hX
    clear ho hb hX hL
    have Xr0_3 := Xr0_a
    have Cr0_3_0 := Xr0_3.cell0
    have Cr0_3_1 := Xr0_3.cell1
    have Xr1_3 := Xr1_a
    have Cr1_3_0 := Xr1_3.cell0
    have Cr1_3_1 := Xr1_3.cell1
    have Xs_3 := Xs_a
    have Cs_3_0 := Xs_3.cell0
    have Cs_3_1 := Xs_3.cell1
    have Os_3 := Os_a
    have B3 := B_a
    clear B_a Xr0_a Xr1_a Xs_a Os_a
    obtain ⟨W3, hW⟩ : ∃ W, W = wc := ⟨_, rfl⟩
    subst hW
    go_wp2_with fail
    refine (toRank_at W3 _ z0 al0 (A0.out.below B3.out (Nat.le_refl _)) (by rw [← Z0.out]; exact n01)).mono ?_
    rintro e w4' ⟨gx, rfl, ho, hb⟩
    rw [← Z0.out] at ho ⊢
    have Tsx := Lib.hid Os_3.out.lt
    have Sx := Lib.hid B3.out.size
    have Xr0_a := Xr0_3.later hb
    have Xr1_a := Xr1_3.later hb
    have Xs_a := Xs_3.later hb
    have Os_a := Lib.hid (Os_3.out.below hb)
    have B_a := Lib.hid (B3.out.trans (hb.mono B3.out.size))
    clear B3 Xr0_3 Cr0_3_0 Cr0_3_1 Xr1_3 Cr1_3_0 Cr1_3_1 Xs_3 Cs_3_0 Cs_3_1 Os_3
    have Ox_a := Lib.hid ho
    clear ho hb
    have Yr0 := Xr0_a.alloc (.cells #[.slice (some ⟨gx, 0, none⟩) n0 n0, .int .i64 al0] 29)
    have cr00 := Yr0.cell0
    have cr01 := Yr0.cell1
    have Yr1 := Xr1_a.alloc (.cells #[.slice (some ⟨gx, 0, none⟩) n0 n0, .int .i64 al0] 29)
    have cr10 := Yr1.cell0
    have cr11 := Yr1.cell1
    have Ys := Xs_a.alloc (.cells #[.slice (some ⟨gx, 0, none⟩) n0 n0, .int .i64 al0] 29)
    have cs0 := Ys.cell0
    have cs1 := Ys.cell1
    obtain ⟨W4, hW⟩ : ∃ W, W = w4'.alloc (.cells #[.slice (some ⟨gx, 0, none⟩) n0 n0, .int .i64 al0] 29) := ⟨_, rfl⟩
    have Xr0_4 := Yr0
    rw [← hW] at Xr0_4
    have Xr1_4 := Yr1
    rw [← hW] at Xr1_4
    have Xs_4 := Ys
    rw [← hW] at Xs_4
    have Os_4 := Lib.hid (Os_a.out.alloc (.cells #[.slice (some ⟨gx, 0, none⟩) n0 n0, .int .i64 al0] 29))
    rw [← hW] at Os_4
    have Ox_4 := Lib.hid (Ox_a.out.alloc (.cells #[.slice (some ⟨gx, 0, none⟩) n0 n0, .int .i64 al0] 29))
    rw [← hW] at Ox_4
    have B4 : Hid (Below w.heap.size w W4) := by rw [hW]; exact B_a.out.alloc B_a.out.size _
    have Xx_4 : Box2 W4 w4'.heap.size 29 (.slice (some ⟨gx, 0, none⟩) n0 n0) (.int .i64 al0) := by rw [hW]; exact Box2.new _ _ _ _
    clear B_a Xr0_a Yr0 Xr1_a Yr1 Xs_a Ys Os_a Ox_a
    go_wp2_with fail
    rw [← hW]
    clear hW cr00 cr01 cr10 cr11 cs0 cs1
    have Cr0_4_0 := Xr0_4.cell0
    have Cr0_4_1 := Xr0_4.cell1
    have Cr1_4_0 := Xr1_4.cell0
    have Cr1_4_1 := Xr1_4.cell1
    have Cs_4_0 := Xs_4.cell0
    have Cs_4_1 := Xs_4.cell1
    have Cx_4_0 := Xx_4.cell0
    have Cx_4_1 := Xx_4.cell1
    refine (toRank_at W4 _ z1 al1 (A1.out.below B4.out (Nat.le_refl _)) (by rw [← Z1.out]; exact n11)).mono ?_
    rintro e w5' ⟨gy, rfl, ho, hb⟩
    rw [← Z1.out] at ho ⊢
    have Tsy := Lib.hid Os_4.out.lt
    have Txy := Lib.hid Ox_4.out.lt
    have Sy := Lib.hid B4.out.size
    have Xr0_a := Xr0_4.later hb
    have Xr1_a := Xr1_4.later hb
    have Xs_a := Xs_4.later hb
    have Xx_a := Xx_4.later hb
    have Os_a := Lib.hid (Os_4.out.below hb)
    have Ox_a := Lib.hid (Ox_4.out.below hb)
    have B_a := Lib.hid (B4.out.trans (hb.mono B4.out.size))
    clear B4 Xr0_4 Cr0_4_0 Cr0_4_1 Xr1_4 Cr1_4_0 Cr1_4_1 Xs_4 Cs_4_0 Cs_4_1 Xx_4 Cx_4_0 Cx_4_1 Os_4 Ox_4
    have Oy_a := Lib.hid ho
    clear ho hb
    have Yr0 := Xr0_a.alloc (.cells #[.slice (some ⟨gy, 0, none⟩) n1 n1, .int .i64 al1] 29)
    have cr00 := Yr0.cell0
    have cr01 := Yr0.cell1
    have Yr1 := Xr1_a.alloc (.cells #[.slice (some ⟨gy, 0, none⟩) n1 n1, .int .i64 al1] 29)
    have cr10 := Yr1.cell0
    have cr11 := Yr1.cell1
    have Ys := Xs_a.alloc (.cells #[.slice (some ⟨gy, 0, none⟩) n1 n1, .int .i64 al1] 29)
    have cs0 := Ys.cell0
    have cs1 := Ys.cell1
    have Yx := Xx_a.alloc (.cells #[.slice (some ⟨gy, 0, none⟩) n1 n1, .int .i64 al1] 29)
    have cx0 := Yx.cell0
    have cx1 := Yx.cell1
    obtain ⟨W5, hW⟩ : ∃ W, W = w5'.alloc (.cells #[.slice (some ⟨gy, 0, none⟩) n1 n1, .int .i64 al1] 29) := ⟨_, rfl⟩
    have Xr0_5 := Yr0
    rw [← hW] at Xr0_5
    have Xr1_5 := Yr1
    rw [← hW] at Xr1_5
    have Xs_5 := Ys
    rw [← hW] at Xs_5
    have Xx_5 := Yx
    rw [← hW] at Xx_5
    have Os_5 := Lib.hid (Os_a.out.alloc (.cells #[.slice (some ⟨gy, 0, none⟩) n1 n1, .int .i64 al1] 29))
    rw [← hW] at Os_5
    have Ox_5 := Lib.hid (Ox_a.out.alloc (.cells #[.slice (some ⟨gy, 0, none⟩) n1 n1, .int .i64 al1] 29))
    rw [← hW] at Ox_5
    have Oy_5 := Lib.hid (Oy_a.out.alloc (.cells #[.slice (some ⟨gy, 0, none⟩) n1 n1, .int .i64 al1] 29))
    rw [← hW] at Oy_5
    have B5 : Hid (Below w.heap.size w W5) := by rw [hW]; exact B_a.out.alloc B_a.out.size _
    have Xy_5 : Box2 W5 w5'.heap.size 29 (.slice (some ⟨gy, 0, none⟩) n1 n1) (.int .i64 al1) := by rw [hW]; exact Box2.new _ _ _ _
    clear B_a Xr0_a Yr0 Xr1_a Yr1 Xs_a Ys Xx_a Yx Os_a Ox_a Oy_a
    go_wp2_with fail
    rw [← hW]
    clear hW cr00 cr01 cr10 cr11 cs0 cs1 cx0 cx1
    have Cr0_5_0 := Xr0_5.cell0
    have Cr0_5_1 := Xr0_5.cell1
    have Cr1_5_0 := Xr1_5.cell0
    have Cr1_5_1 := Xr1_5.cell1
    have Cs_5_0 := Xs_5.cell0
    have Cs_5_1 := Xs_5.cell1
    have Cx_5_0 := Xx_5.cell0
    have Cx_5_1 := Xx_5.cell1
    have Cy_5_0 := Xy_5.cell0
    have Cy_5_1 := Xy_5.cell1
    refine (HIM.out W5 _ _ Ox_5.out.rd Oy_5.out.rd).mono ?_
    rintro e w6' ⟨v, rfl, ho, hb⟩
    obtain ⟨xg, cg, rfl, _, _⟩ := ho.form
    rw [← M.out] at ho ⊢
    have Tsg := Lib.hid Os_5.out.lt
    have Txg := Lib.hid Ox_5.out.lt
    have Tyg := Lib.hid Oy_5.out.lt
    have Sg := Lib.hid B5.out.size
    have Xr0_a := Xr0_5.later hb
    have Xr1_a := Xr1_5.later hb
    have Xs_a := Xs_5.later hb
    have Xx_a := Xx_5.later hb
    have Xy_a := Xy_5.later hb
    have Os_a := Lib.hid (Os_5.out.below hb)
    have Ox_a := Lib.hid (Ox_5.out.below hb)
    have Oy_a := Lib.hid (Oy_5.out.below hb)
    have B_a := Lib.hid (B5.out.trans (hb.mono B5.out.size))
    clear B5 Xr0_5 Cr0_5_0 Cr0_5_1 Xr1_5 Cr1_5_0 Cr1_5_1 Xs_5 Cs_5_0 Cs_5_1 Xx_5 Cx_5_0 Cx_5_1 Xy_5 Cy_5_0 Cy_5_1 Os_5 Ox_5 Oy_5
    have Og_a := Lib.hid ho
    clear ho hb
    have Yr0 := Xr0_a.alloc (.cells #[.slice xg m cg, .int .i64 na] 29)
    have cr00 := Yr0.cell0
    have cr01 := Yr0.cell1
    have Yr1 := Xr1_a.alloc (.cells #[.slice xg m cg, .int .i64 na] 29)
    have cr10 := Yr1.cell0
    have cr11 := Yr1.cell1
    have Ys := Xs_a.alloc (.cells #[.slice xg m cg, .int .i64 na] 29)
    have cs0 := Ys.cell0
    have cs1 := Ys.cell1
    have Yx := Xx_a.alloc (.cells #[.slice xg m cg, .int .i64 na] 29)
    have cx0 := Yx.cell0
    have cx1 := Yx.cell1
    have Yy := Xy_a.alloc (.cells #[.slice xg m cg, .int .i64 na] 29)
    have cy0 := Yy.cell0
    have cy1 := Yy.cell1
    obtain ⟨W6, hW⟩ : ∃ W, W = w6'.alloc (.cells #[.slice xg m cg, .int .i64 na] 29) := ⟨_, rfl⟩
    have Xr0_6 := Yr0
    rw [← hW] at Xr0_6
    have Xr1_6 := Yr1
    rw [← hW] at Xr1_6
    have Xs_6 := Ys
    rw [← hW] at Xs_6
    have Xx_6 := Yx
    rw [← hW] at Xx_6
    have Xy_6 := Yy
    rw [← hW] at Xy_6
    have Os_6 := Lib.hid (Os_a.out.alloc (.cells #[.slice xg m cg, .int .i64 na] 29))
    rw [← hW] at Os_6
    have Ox_6 := Lib.hid (Ox_a.out.alloc (.cells #[.slice xg m cg, .int .i64 na] 29))
    rw [← hW] at Ox_6
    have Oy_6 := Lib.hid (Oy_a.out.alloc (.cells #[.slice xg m cg, .int .i64 na] 29))
    rw [← hW] at Oy_6
    have Og_6 := Lib.hid (Og_a.out.alloc (.cells #[.slice xg m cg, .int .i64 na] 29))
    rw [← hW] at Og_6
    have B6 : Hid (Below w.heap.size w W6) := by rw [hW]; exact B_a.out.alloc B_a.out.size _
    have Xg_6 : Box2 W6 w6'.heap.size 29 (.slice xg m cg) (.int .i64 na) := by rw [hW]; exact Box2.new _ _ _ _
    clear B_a Xr0_a Yr0 Xr1_a Yr1 Xs_a Ys Xx_a Yx Xy_a Yy Os_a Ox_a Oy_a Og_a
    go_wp2_with fail
    rw [← hW]
    clear hW cr00 cr01 cr10 cr11 cs0 cs1 cx0 cx1 cy0 cy1
    have Cr0_6_0 := Xr0_6.cell0
    have Cr0_6_1 := Xr0_6.cell1
    have Cr1_6_0 := Xr1_6.cell0
    have Cr1_6_1 := Xr1_6.cell1
    have Cs_6_0 := Xs_6.cell0
    have Cs_6_1 := Xs_6.cell1
    have Cx_6_0 := Xx_6.cell0
    have Cx_6_1 := Xx_6.cell1
    have Cy_6_0 := Xy_6.cell0
    have Cy_6_1 := Xy_6.cell1
    have Cg_6_0 := Xg_6.cell0
    have Cg_6_1 := Xg_6.cell1
    refine (eqRank_same W6 _ _ _ na Og_6.out.rd Os_6.out.rd (by have := LN.out; omega)).mono ?_
    rintro e w7' ⟨rfl, hb⟩
    have Xr0_a := Xr0_6.later hb
    have Xr1_a := Xr1_6.later hb
    have Xs_a := Xs_6.later hb
    have Xx_a := Xx_6.later hb
    have Xy_a := Xy_6.later hb
    have Xg_a := Xg_6.later hb
    have Os_a := Lib.hid (Os_6.out.below hb)
    have Ox_a := Lib.hid (Ox_6.out.below hb)
    have Oy_a := Lib.hid (Oy_6.out.below hb)
    have Og_a := Lib.hid (Og_6.out.below hb)
    have B_a := Lib.hid (B6.out.trans (hb.mono B6.out.size))
    clear B6 Xr0_6 Cr0_6_0 Cr0_6_1 Xr1_6 Cr1_6_0 Cr1_6_1 Xs_6 Cs_6_0 Cs_6_1 Xx_6 Cx_6_0 Cx_6_1 Xy_6 Cy_6_0 Cy_6_1 Xg_6 Cg_6_0 Cg_6_1 Os_6 Ox_6 Oy_6 Og_6
    clear hb
    have Xr0_7 := Xr0_a
    have Cr0_7_0 := Xr0_7.cell0
    have Cr0_7_1 := Xr0_7.cell1
    have Xr1_7 := Xr1_a
    have Cr1_7_0 := Xr1_7.cell0
    have Cr1_7_1 := Xr1_7.cell1
    have Xs_7 := Xs_a
    have Cs_7_0 := Xs_7.cell0
    have Cs_7_1 := Xs_7.cell1
    have Xx_7 := Xx_a
    have Cx_7_0 := Xx_7.cell0
    have Cx_7_1 := Xx_7.cell1
    have Xy_7 := Xy_a
    have Cy_7_0 := Xy_7.cell0
    have Cy_7_1 := Xy_7.cell1
    have Xg_7 := Xg_a
    have Cg_7_0 := Xg_7.cell0
    have Cg_7_1 := Xg_7.cell1
    have Os_7 := Os_a
    have Ox_7 := Ox_a
    have Oy_7 := Oy_a
    have Og_7 := Og_a
    have B7 := B_a
    clear B_a Xr0_a Xr1_a Xs_a Xx_a Xy_a Xg_a Os_a Ox_a Oy_a Og_a
    obtain ⟨W7, hW⟩ : ∃ W, W = w7' := ⟨_, rfl⟩
    subst hW
    go_upto_region 14 with fail
    go_cut [58] (fun c wx => c = .bool false ∧ Below W7.heap.size W7 wx)
    case first =>
      have KT : Hid (Calls Try.prog 38 #[.agg #[.slice y0 n0 e0, .int .i64 al0]] W7.drew fun e w' => ∃ g, e = .returned (.agg #[.slice (some ⟨g, 0, none⟩) n0 n0, .int .i64 al0]) ∧ OwnP w' W7.drew.heap.size (.slice (some ⟨g, 0, none⟩) n0 n0) z0 ∧ Below W7.drew.heap.size W7.drew w') := by
        have h := toRank_at W7.drew (.slice y0 n0 e0) z0 al0 (A0.out.below (Below.drew B7.out) (Nat.le_refl _)) (by rw [← Z0.out]; exact n01)
        rw [← Z0.out] at h
        exact h
      have RX := Lib.hid (show Prs W7.drew _ z0 from Ox_7.out.rd)
      have XD := Xx_7.drew
      clear Xr0_7 Xr1_7 Xs_7 Xx_7 Xy_7 Xg_7 Os_7 Ox_7 Oy_7 Og_7 B7
      go_region_with (first
        | (go_at_call 38; refine KT.out.mono ?_; rintro e w7 ⟨g7, rfl, ho7, hb7⟩; have X7 := XD.later hb7; have x70 := X7.cell0; have x71 := X7.cell1; have KE := Lib.hid (eqRank_same w7 _ _ z0 al0 (RX.out.below hb7 (Nat.le_refl _)) ho7.rd (by rw [← Z0.out]; exact n01)); clear ho7 X7)
        | (go_at_call 39; refine KE.out.mono ?_; rintro e w8 ⟨rfl, hb8⟩; have hb : Below W7.heap.size W7 w8 := (Below.drew (Below.refl _ _)).trans (hb7.trans (hb8.mono hb7.size)); clear hb7 hb8))
      all_goals (go_wp2_with fail; go_meet; exact ⟨rfl, hb⟩)
    case rest =>
      obtain ⟨rfl, hb⟩ := hcut
      have Xr0_a := Xr0_7.later hb
      have Xr1_a := Xr1_7.later hb
      have Xs_a := Xs_7.later hb
      have Xx_a := Xx_7.later hb
      have Xy_a := Xy_7.later hb
      have Xg_a := Xg_7.later hb
      have Os_a := Lib.hid (Os_7.out.below hb)
      have Ox_a := Lib.hid (Ox_7.out.below hb)
      have Oy_a := Lib.hid (Oy_7.out.below hb)
      have Og_a := Lib.hid (Og_7.out.below hb)
      have B_a := Lib.hid (B7.out.trans (hb.mono B7.out.size))
      clear B7 Xr0_7 Cr0_7_0 Cr0_7_1 Xr1_7 Cr1_7_0 Cr1_7_1 Xs_7 Cs_7_0 Cs_7_1 Xx_7 Cx_7_0 Cx_7_1 Xy_7 Cy_7_0 Cy_7_1 Xg_7 Cg_7_0 Cg_7_1 Os_7 Ox_7 Oy_7 Og_7
      clear hb
      have Xr0_8 := Xr0_a
      have Cr0_8_0 := Xr0_8.cell0
      have Cr0_8_1 := Xr0_8.cell1
      have Xr1_8 := Xr1_a
      have Cr1_8_0 := Xr1_8.cell0
      have Cr1_8_1 := Xr1_8.cell1
      have Xs_8 := Xs_a
      have Cs_8_0 := Xs_8.cell0
      have Cs_8_1 := Xs_8.cell1
      have Xx_8 := Xx_a
      have Cx_8_0 := Xx_8.cell0
      have Cx_8_1 := Xx_8.cell1
      have Xy_8 := Xy_a
      have Cy_8_0 := Xy_8.cell0
      have Cy_8_1 := Xy_8.cell1
      have Xg_8 := Xg_a
      have Cg_8_0 := Xg_8.cell0
      have Cg_8_1 := Xg_8.cell1
      have Os_8 := Os_a
      have Ox_8 := Ox_a
      have Oy_8 := Oy_a
      have Og_8 := Og_a
      have B8 := B_a
      clear B_a Xr0_a Xr1_a Xs_a Xx_a Xy_a Xg_a Os_a Ox_a Oy_a Og_a
      obtain ⟨W8, hW⟩ : ∃ W, W = wc := ⟨_, rfl⟩
      subst hW
      go_upto_region 16 with fail
      go_cut [63] (fun c wx => c = .bool false ∧ Below W8.heap.size W8 wx)
      case first =>
        have KT : Hid (Calls Try.prog 38 #[.agg #[.slice y1 n1 e1, .int .i64 al1]] W8.drew fun e w' => ∃ g, e = .returned (.agg #[.slice (some ⟨g, 0, none⟩) n1 n1, .int .i64 al1]) ∧ OwnP w' W8.drew.heap.size (.slice (some ⟨g, 0, none⟩) n1 n1) z1 ∧ Below W8.drew.heap.size W8.drew w') := by
          have h := toRank_at W8.drew (.slice y1 n1 e1) z1 al1 (A1.out.below (Below.drew B8.out) (Nat.le_refl _)) (by rw [← Z1.out]; exact n11)
          rw [← Z1.out] at h
          exact h
        have RX := Lib.hid (show Prs W8.drew _ z1 from Oy_8.out.rd)
        have XD := Xy_8.drew
        clear Xr0_8 Xr1_8 Xs_8 Xx_8 Xy_8 Xg_8 Os_8 Ox_8 Oy_8 Og_8 B8
        go_region_with (first
          | (go_at_call 38; refine KT.out.mono ?_; rintro e w7 ⟨g7, rfl, ho7, hb7⟩; have X7 := XD.later hb7; have x70 := X7.cell0; have x71 := X7.cell1; have KE := Lib.hid (eqRank_same w7 _ _ z1 al1 (RX.out.below hb7 (Nat.le_refl _)) ho7.rd (by rw [← Z1.out]; exact n11)); clear ho7 X7)
          | (go_at_call 39; refine KE.out.mono ?_; rintro e w8 ⟨rfl, hb8⟩; have hb : Below W8.heap.size W8 w8 := (Below.drew (Below.refl _ _)).trans (hb7.trans (hb8.mono hb7.size)); clear hb7 hb8))
        all_goals (go_wp2_with fail; go_meet; exact ⟨rfl, hb⟩)
      case rest =>
        obtain ⟨rfl, hb⟩ := hcut
        have Xr0_a := Xr0_8.later hb
        have Xr1_a := Xr1_8.later hb
        have Xs_a := Xs_8.later hb
        have Xx_a := Xx_8.later hb
        have Xy_a := Xy_8.later hb
        have Xg_a := Xg_8.later hb
        have Os_a := Lib.hid (Os_8.out.below hb)
        have Ox_a := Lib.hid (Ox_8.out.below hb)
        have Oy_a := Lib.hid (Oy_8.out.below hb)
        have Og_a := Lib.hid (Og_8.out.below hb)
        have B_a := Lib.hid (B8.out.trans (hb.mono B8.out.size))
        clear B8 Xr0_8 Cr0_8_0 Cr0_8_1 Xr1_8 Cr1_8_0 Cr1_8_1 Xs_8 Cs_8_0 Cs_8_1 Xx_8 Cx_8_0 Cx_8_1 Xy_8 Cy_8_0 Cy_8_1 Xg_8 Cg_8_0 Cg_8_1 Os_8 Ox_8 Oy_8 Og_8
        clear hb
        have Xr0_9 := Xr0_a
        have Cr0_9_0 := Xr0_9.cell0
        have Cr0_9_1 := Xr0_9.cell1
        have Xr1_9 := Xr1_a
        have Cr1_9_0 := Xr1_9.cell0
        have Cr1_9_1 := Xr1_9.cell1
        have Xs_9 := Xs_a
        have Cs_9_0 := Xs_9.cell0
        have Cs_9_1 := Xs_9.cell1
        have Xx_9 := Xx_a
        have Cx_9_0 := Xx_9.cell0
        have Cx_9_1 := Xx_9.cell1
        have Xy_9 := Xy_a
        have Cy_9_0 := Xy_9.cell0
        have Cy_9_1 := Xy_9.cell1
        have Xg_9 := Xg_a
        have Cg_9_0 := Xg_9.cell0
        have Cg_9_1 := Xg_9.cell1
        have Os_9 := Os_a
        have Ox_9 := Ox_a
        have Oy_9 := Oy_a
        have Og_9 := Og_a
        have B9 := B_a
        clear B_a Xr0_a Xr1_a Xs_a Xx_a Xy_a Xg_a Os_a Ox_a Oy_a Og_a
        obtain ⟨W9, hW⟩ : ∃ W, W = wc := ⟨_, rfl⟩
        subst hW
        go_wp2_with fail
        refine (markRank_at W9 _ _ z0 al0 1 Ox_9.out (by rw [← Z0.out]; exact n01) (by omega) (by omega)).mono ?_
        rintro e w10' ⟨rfl, ho, hg⟩
        have Xr0_a := Xr0_9.mark (by decide) Ox_9.out hg
        have Xr1_a := Xr1_9.mark (by decide) Ox_9.out hg
        have Xs_a := Xs_9.mark (by decide) Ox_9.out hg
        have Xx_a := Xx_9.mark (by decide) Ox_9.out hg
        have Xy_a := Xy_9.mark (by decide) Ox_9.out hg
        have Xg_a := Xg_9.mark (by decide) Ox_9.out hg
        have Os_a := Lib.hid (Os_9.out.keepL Tsx.out Ox_9.out hg)
        have Oy_a := Lib.hid (Oy_9.out.keepR Txy.out hg)
        have Og_a := Lib.hid (Og_9.out.keepR Txg.out hg)
        have B_a := Lib.hid (below_markP B9.out Ox_9.out Sx.out hg)
        clear B9 Xr0_9 Cr0_9_0 Cr0_9_1 Xr1_9 Cr1_9_0 Cr1_9_1 Xs_9 Cs_9_0 Cs_9_1 Xx_9 Cx_9_0 Cx_9_1 Xy_9 Cy_9_0 Cy_9_1 Xg_9 Cg_9_0 Cg_9_1 Os_9 Ox_9 Oy_9 Og_9
        have Ox_a := Lib.hid ho
        clear ho hg
        have Xr0_10 := Xr0_a
        have Cr0_10_0 := Xr0_10.cell0
        have Cr0_10_1 := Xr0_10.cell1
        have Xr1_10 := Xr1_a
        have Cr1_10_0 := Xr1_10.cell0
        have Cr1_10_1 := Xr1_10.cell1
        have Xs_10 := Xs_a
        have Cs_10_0 := Xs_10.cell0
        have Cs_10_1 := Xs_10.cell1
        have Xx_10 := Xx_a
        have Cx_10_0 := Xx_10.cell0
        have Cx_10_1 := Xx_10.cell1
        have Xy_10 := Xy_a
        have Cy_10_0 := Xy_10.cell0
        have Cy_10_1 := Xy_10.cell1
        have Xg_10 := Xg_a
        have Cg_10_0 := Xg_10.cell0
        have Cg_10_1 := Xg_10.cell1
        have Os_10 := Os_a
        have Ox_10 := Ox_a
        have Oy_10 := Oy_a
        have Og_10 := Og_a
        have B10 := B_a
        clear B_a Xr0_a Xr1_a Xs_a Xx_a Xy_a Xg_a Os_a Ox_a Oy_a Og_a
        obtain ⟨W10, hW⟩ : ∃ W, W = w10' := ⟨_, rfl⟩
        subst hW
        rw [← Z0.out]
        have m0 : ¬ (1 : Int) + 2 * (n0 : Int) < 0 := by omega
        go_wp2_with fail
        refine (markRank_at W10 _ _ z1 al1 (1 + 2 * (n0 : Int)) Oy_10.out (by rw [← Z1.out]; exact n11) (by omega) (by omega)).mono ?_
        rintro e w11' ⟨rfl, ho, hg⟩
        have Xr0_a := Xr0_10.mark (by decide) Oy_10.out hg
        have Xr1_a := Xr1_10.mark (by decide) Oy_10.out hg
        have Xs_a := Xs_10.mark (by decide) Oy_10.out hg
        have Xx_a := Xx_10.mark (by decide) Oy_10.out hg
        have Xy_a := Xy_10.mark (by decide) Oy_10.out hg
        have Xg_a := Xg_10.mark (by decide) Oy_10.out hg
        have Os_a := Lib.hid (Os_10.out.keepL Tsy.out Oy_10.out hg)
        have Ox_a := Lib.hid (Ox_10.out.keepL Txy.out Oy_10.out hg)
        have Og_a := Lib.hid (Og_10.out.keepR Tyg.out hg)
        have B_a := Lib.hid (below_markP B10.out Oy_10.out Sy.out hg)
        clear B10 Xr0_10 Cr0_10_0 Cr0_10_1 Xr1_10 Cr1_10_0 Cr1_10_1 Xs_10 Cs_10_0 Cs_10_1 Xx_10 Cx_10_0 Cx_10_1 Xy_10 Cy_10_0 Cy_10_1 Xg_10 Cg_10_0 Cg_10_1 Os_10 Ox_10 Oy_10 Og_10
        have Oy_a := Lib.hid ho
        clear ho hg
        have Xr0_11 := Xr0_a
        have Cr0_11_0 := Xr0_11.cell0
        have Cr0_11_1 := Xr0_11.cell1
        have Xr1_11 := Xr1_a
        have Cr1_11_0 := Xr1_11.cell0
        have Cr1_11_1 := Xr1_11.cell1
        have Xs_11 := Xs_a
        have Cs_11_0 := Xs_11.cell0
        have Cs_11_1 := Xs_11.cell1
        have Xx_11 := Xx_a
        have Cx_11_0 := Xx_11.cell0
        have Cx_11_1 := Xx_11.cell1
        have Xy_11 := Xy_a
        have Cy_11_0 := Xy_11.cell0
        have Cy_11_1 := Xy_11.cell1
        have Xg_11 := Xg_a
        have Cg_11_0 := Xg_11.cell0
        have Cg_11_1 := Xg_11.cell1
        have Os_11 := Os_a
        have Ox_11 := Ox_a
        have Oy_11 := Oy_a
        have Og_11 := Og_a
        have B11 := B_a
        clear B_a Xr0_a Xr1_a Xs_a Xx_a Xy_a Xg_a Os_a Ox_a Oy_a Og_a
        obtain ⟨W11, hW⟩ : ∃ W, W = w11' := ⟨_, rfl⟩
        subst hW
        rw [← Z1.out]
        have m1 : ¬ (1 : Int) + 2 * (n0 : Int) + 2 * (n1 : Int) < 0 := by omega
        go_wp2_with fail
        refine (eqRank_same W11 _ _ _ na Og_11.out.rd Os_11.out.rd (by have := LN.out; omega)).mono ?_
        rintro e w12' ⟨rfl, hb⟩
        have Xr0_a := Xr0_11.later hb
        have Xr1_a := Xr1_11.later hb
        have Xs_a := Xs_11.later hb
        have Xx_a := Xx_11.later hb
        have Xy_a := Xy_11.later hb
        have Xg_a := Xg_11.later hb
        have Os_a := Lib.hid (Os_11.out.below hb)
        have Ox_a := Lib.hid (Ox_11.out.below hb)
        have Oy_a := Lib.hid (Oy_11.out.below hb)
        have Og_a := Lib.hid (Og_11.out.below hb)
        have B_a := Lib.hid (B11.out.trans (hb.mono B11.out.size))
        clear B11 Xr0_11 Cr0_11_0 Cr0_11_1 Xr1_11 Cr1_11_0 Cr1_11_1 Xs_11 Cs_11_0 Cs_11_1 Xx_11 Cx_11_0 Cx_11_1 Xy_11 Cy_11_0 Cy_11_1 Xg_11 Cg_11_0 Cg_11_1 Os_11 Ox_11 Oy_11 Og_11
        clear hb
        have Xr0_12 := Xr0_a
        have Cr0_12_0 := Xr0_12.cell0
        have Cr0_12_1 := Xr0_12.cell1
        have Xr1_12 := Xr1_a
        have Cr1_12_0 := Xr1_12.cell0
        have Cr1_12_1 := Xr1_12.cell1
        have Xs_12 := Xs_a
        have Cs_12_0 := Xs_12.cell0
        have Cs_12_1 := Xs_12.cell1
        have Xx_12 := Xx_a
        have Cx_12_0 := Xx_12.cell0
        have Cx_12_1 := Xx_12.cell1
        have Xy_12 := Xy_a
        have Cy_12_0 := Xy_12.cell0
        have Cy_12_1 := Xy_12.cell1
        have Xg_12 := Xg_a
        have Cg_12_0 := Xg_12.cell0
        have Cg_12_1 := Xg_12.cell1
        have Os_12 := Os_a
        have Ox_12 := Ox_a
        have Oy_12 := Oy_a
        have Og_12 := Og_a
        have B12 := B_a
        clear B_a Xr0_a Xr1_a Xs_a Xx_a Xy_a Xg_a Os_a Ox_a Oy_a Og_a
        obtain ⟨W12, hW⟩ : ∃ W, W = w12' := ⟨_, rfl⟩
        subst hW
        go_wp2_with fail
        refine (markRank_at W12 _ _ ns na 1 Og_12.out (by have := LN.out; omega) (by omega) (by omega)).mono ?_
        rintro e w13' ⟨rfl, ho, hg⟩
        have Xr0_a := Xr0_12.mark (by decide) Og_12.out hg
        have Xr1_a := Xr1_12.mark (by decide) Og_12.out hg
        have Xs_a := Xs_12.mark (by decide) Og_12.out hg
        have Xx_a := Xx_12.mark (by decide) Og_12.out hg
        have Xy_a := Xy_12.mark (by decide) Og_12.out hg
        have Xg_a := Xg_12.mark (by decide) Og_12.out hg
        have Os_a := Lib.hid (Os_12.out.keepL Tsg.out Og_12.out hg)
        have Ox_a := Lib.hid (Ox_12.out.keepL Txg.out Og_12.out hg)
        have Oy_a := Lib.hid (Oy_12.out.keepL Tyg.out Og_12.out hg)
        have B_a := Lib.hid (below_markP B12.out Og_12.out Sg.out hg)
        clear B12 Xr0_12 Cr0_12_0 Cr0_12_1 Xr1_12 Cr1_12_0 Cr1_12_1 Xs_12 Cs_12_0 Cs_12_1 Xx_12 Cx_12_0 Cx_12_1 Xy_12 Cy_12_0 Cy_12_1 Xg_12 Cg_12_0 Cg_12_1 Os_12 Ox_12 Oy_12 Og_12
        have Og_a := Lib.hid ho
        clear ho hg
        have Xr0_13 := Xr0_a
        have Cr0_13_0 := Xr0_13.cell0
        have Cr0_13_1 := Xr0_13.cell1
        have Xr1_13 := Xr1_a
        have Cr1_13_0 := Xr1_13.cell0
        have Cr1_13_1 := Xr1_13.cell1
        have Xs_13 := Xs_a
        have Cs_13_0 := Xs_13.cell0
        have Cs_13_1 := Xs_13.cell1
        have Xx_13 := Xx_a
        have Cx_13_0 := Xx_13.cell0
        have Cx_13_1 := Xx_13.cell1
        have Xy_13 := Xy_a
        have Cy_13_0 := Xy_13.cell0
        have Cy_13_1 := Xy_13.cell1
        have Xg_13 := Xg_a
        have Cg_13_0 := Xg_13.cell0
        have Cg_13_1 := Xg_13.cell1
        have Os_13 := Os_a
        have Ox_13 := Ox_a
        have Oy_13 := Oy_a
        have Og_13 := Og_a
        have B13 := B_a
        clear B_a Xr0_a Xr1_a Xs_a Xx_a Xy_a Xg_a Os_a Ox_a Oy_a Og_a
        obtain ⟨W13, hW⟩ : ∃ W, W = w13' := ⟨_, rfl⟩
        subst hW
        rw [← M.out]
        rw [← M.out] at Og_13
        go_wp2_with fail
        refine (heldRank_at W13 _ m na 1 Og_13.out.rd (by omega) (by omega) (by omega)).mono ?_
        rintro e w14' ⟨rfl, hb⟩
        have Xr0_a := Xr0_13.later hb
        have Xr1_a := Xr1_13.later hb
        have Xs_a := Xs_13.later hb
        have Xx_a := Xx_13.later hb
        have Xy_a := Xy_13.later hb
        have Xg_a := Xg_13.later hb
        have Os_a := Lib.hid (Os_13.out.below hb)
        have Ox_a := Lib.hid (Ox_13.out.below hb)
        have Oy_a := Lib.hid (Oy_13.out.below hb)
        have Og_a := Lib.hid (Og_13.out.below hb)
        have B_a := Lib.hid (B13.out.trans (hb.mono B13.out.size))
        clear B13 Xr0_13 Cr0_13_0 Cr0_13_1 Xr1_13 Cr1_13_0 Cr1_13_1 Xs_13 Cs_13_0 Cs_13_1 Xx_13 Cx_13_0 Cx_13_1 Xy_13 Cy_13_0 Cy_13_1 Xg_13 Cg_13_0 Cg_13_1 Os_13 Ox_13 Oy_13 Og_13
        clear hb
        have Xr0_14 := Xr0_a
        have Cr0_14_0 := Xr0_14.cell0
        have Cr0_14_1 := Xr0_14.cell1
        have Xr1_14 := Xr1_a
        have Cr1_14_0 := Xr1_14.cell0
        have Cr1_14_1 := Xr1_14.cell1
        have Xs_14 := Xs_a
        have Cs_14_0 := Xs_14.cell0
        have Cs_14_1 := Xs_14.cell1
        have Xx_14 := Xx_a
        have Cx_14_0 := Xx_14.cell0
        have Cx_14_1 := Xx_14.cell1
        have Xy_14 := Xy_a
        have Cy_14_0 := Xy_14.cell0
        have Cy_14_1 := Xy_14.cell1
        have Xg_14 := Xg_a
        have Cg_14_0 := Xg_14.cell0
        have Cg_14_1 := Xg_14.cell1
        have Os_14 := Os_a
        have Ox_14 := Ox_a
        have Oy_14 := Oy_a
        have Og_14 := Og_a
        have B14 := B_a
        clear B_a Xr0_a Xr1_a Xs_a Xx_a Xy_a Xg_a Os_a Ox_a Oy_a Og_a
        obtain ⟨W14, hW⟩ : ∃ W, W = w14' := ⟨_, rfl⟩
        subst hW
        go_upto_region 31 with fail
        go_cut [15, 16] (fun sp sb wx => MadeRank W14 ns na ok sp sb wx)
        case first =>
          have A0_ := Lib.hid (A0.out.below B14.out (Nat.le_refl _))
          have A1_ := Lib.hid (A1.out.below B14.out (Nat.le_refl _))
          have D0 := Lib.hid ((Below.refl W14.heap.size W14).drew)
          have E0 := Lib.hid (D0.out.alloc D0.out.size (.cells #[.slice none 0 0, .int .i64 0] 29))
          have XE0 : Hid (Box2 (W14.drew.alloc (.cells #[.slice none 0 0, .int .i64 0] 29)) W14.heap.size 29 (.slice none 0 0) (.int .i64 0)) := Lib.hid (Box2.new W14.drew _ _ _)
          have lr0 := Xr0_14.lt
          have lr1 := Xr1_14.lt
          have HR1 := Lib.hid Xr1_14
          have CR00 := Xr0_14.drew.cell0
          have CR10 := Xr1_14.drew.cell0
          have CR01 := Xr0_14.drew.cell1
          have CR11 := Xr1_14.drew.cell1
          have HS : Hid (∀ w', Below W14.heap.size W14 w' → w'.cell? ⟨w.heap.size, 0, none⟩ = some (.slice y0 n0 e0) ∧ w'.cell? ⟨w.heap.size, 1, none⟩ = some (.int .i64 al0) ∧ w'.cell? ⟨w.heap.size + 1, 0, none⟩ = some (.slice y1 n1 e1) ∧ w'.cell? ⟨w.heap.size + 1, 1, none⟩ = some (.int .i64 al1)) := fun w' h => ⟨(Xr0_14.below h lr0).cell0, (Xr0_14.below h lr0).cell1, (Xr1_14.below h lr1).cell0, (Xr1_14.below h lr1).cell1⟩
          have E0n := Lib.hid (((Below.refl W14.heap.size W14).alloc (Nat.le_refl _) (.cells #[.slice none 0 0, .int .i64 0] 29)).drew)
          have Z1n : Hid (n1 ≤ 1048576) := Lib.hid n11
          clear Xr0_14 Xr1_14 Xs_14 Xx_14 Xy_14 Xg_14 Cs_14_0 Cs_14_1 Cx_14_0 Cx_14_1 Cy_14_0 Cy_14_1 Cg_14_0 Cg_14_1 Os_14 Ox_14 Oy_14 Og_14 B14
          go_region_held3 (fun w' => w'.cell? ⟨w.heap.size, 0, none⟩ = some (.slice y0 n0 e0) ∧ w'.cell? ⟨w.heap.size, 1, none⟩ = some (.int .i64 al0) ∧ w'.cell? ⟨w.heap.size + 1, 0, none⟩ = some (.slice y1 n1 e1) ∧ w'.cell? ⟨w.heap.size + 1, 1, none⟩ = some (.int .i64 al1)) (first | exact HS.out _ D0.out | exact HS.out _ E0n.out | exact HS.out _ Dan.out | exact HS.out _ Ean.out | exact HS.out _ Dbn.out | exact HS.out _ Ebn.out | exact HS.out _ Dcn.out | exact HS.out _ (Dcn.out.alloc Dcn.out.size _) | exact HS.out _ (below_set2 Dcn.out (by first | exact Nat.le_refl _ | exact Dan.out.size | exact Dbn.out.size | exact Dcn.out.size) _ _) | exact HS.out _ (below_set2 (Dcn.out.alloc Dcn.out.size _) (by first | exact Dcn.out.size) _ _))
           (first
            | (go_at_call_of 38 y0; refine (toRank_at _ (.slice y0 n0 e0) z0 al0 ?_ ?_).mono ?_; (first | exact A0_.out.below E0.out (Nat.le_refl _) | exact A0_.out.below D0.out (Nat.le_refl _)); (rw [← Z0.out]; exact n01); rintro e wa ⟨ga, rfl, ho, hb⟩; rw [← Z0.out] at ho ⊢; (first | (have Da := Lib.hid (E0.out.trans (hb.mono E0.out.size))) | (have Da := Lib.hid (D0.out.trans (hb.mono D0.out.size)))); have Ea := Lib.hid (Da.out.alloc Da.out.size (.cells #[.slice none 0 0, .int .i64 0] 29)); have Dan := Da; have Ean := Ea; have XEa := Lib.hid (Box2.new wa 29 (.slice none 0 0) (.int .i64 0)); (first | (have XP := Lib.hid (XE0.out.later hb)) | (have XP' := Lib.hid (XP.out.later hb)) | skip); have Oa := Lib.hid ho; have OEa := Lib.hid (ho.alloc (.cells #[.slice none 0 0, .int .i64 0] 29)); have HRa := Lib.hid (HR1.out.later (show Below W14.heap.size W14 wa from Da.out)); have CRa0 := HRa.out.cell0; have CRa1 := HRa.out.cell1; have lra := Nat.lt_of_lt_of_le lr1 Da.out.size; clear ho hb)
            | (go_at_call_of 38 y1; refine (toRank_at _ (.slice y1 n1 e1) z1 al1 ?_ ?_).mono ?_; (first | exact A1_.out.below Ea.out (Nat.le_refl _) | exact A1_.out.below Da.out (Nat.le_refl _)); (rw [← Z1.out]; exact n11); rintro e wb ⟨gb, rfl, ho, hb⟩; rw [← Z1.out] at ho ⊢; (first | (have Db := Lib.hid (Ea.out.trans (hb.mono Ea.out.size))) | (have Db := Lib.hid (Da.out.trans (hb.mono Da.out.size)))); have Eb := Lib.hid (Db.out.alloc Db.out.size (.cells #[.slice none 0 0, .int .i64 0] 29)); have Dbn := Db; have Ebn := Eb; have XEb := Lib.hid (Box2.new wb 29 (.slice none 0 0) (.int .i64 0)); (first | (have XP := Lib.hid (XEa.out.later hb)) | (have XP' := Lib.hid (XP.out.later hb)) | skip); have Ob := Lib.hid ho; have OEb := Lib.hid (ho.alloc (.cells #[.slice none 0 0, .int .i64 0] 29)); (first | (have Oa' := Lib.hid (Oa.out.below hb)) | (have Oa' := Lib.hid (OEa.out.below hb))); have OEa' := Lib.hid (Oa'.out.alloc (.cells #[.slice none 0 0, .int .i64 0] 29)); clear ho hb)
            | (go_at_call 36; refine (HIM.out _ (.slice (some ⟨ga, 0, none⟩) n0 n0) (.slice (some ⟨gb, 0, none⟩) n1 n1) ?_ ?_).mono ?_; (first | exact Oa'.out.rd | exact OEa'.out.rd); (first | exact Ob.out.rd | exact OEb.out.rd); rintro e wc ⟨v, rfl, ho, hb⟩; obtain ⟨xs, cs, rfl, _, _⟩ := ho.form; (first | (have Dc := Lib.hid (Eb.out.trans (hb.mono Eb.out.size))) | (have Dc := Lib.hid (Db.out.trans (hb.mono Db.out.size)))); (first | (have XP2 := Lib.hid (XEb.out.later hb)) | (have XP2 := Lib.hid (XP'.out.later hb)) | (have XP2 := Lib.hid (XP.out.later hb)) | skip); (try (have cp0 := XP2.out.cell0; have cp1 := XP2.out.cell1; have fp := XP2.out.free)); have Oc := Lib.hid ho; have Dcn := Dc; clear ho hb))
          all_goals (go_wp2_with fail; go_meet)
          all_goals first
            | exact MadeRank.last Dc.out Db.out.size Oc.out
            | exact MadeRank.stored Dc.out (by first | exact Db.out.size | exact Eb.out.size) Oc.out (by first | exact Nat.le_refl _ | exact Da.out.size | exact Db.out.size) XP2.out
        case rest =>
          obtain ⟨ph, xh, ch, Lh, rfl, rfl, hb, hL, ho, hX⟩ := hcut
          rw [← M.out] at ho hX
          have Tsh := Lib.hid (fun j e => Nat.lt_of_lt_of_le (Os_14.out.lt j e) hL)
          have Txh := Lib.hid (fun j e => Nat.lt_of_lt_of_le (Ox_14.out.lt j e) hL)
          have Tyh := Lib.hid (fun j e => Nat.lt_of_lt_of_le (Oy_14.out.lt j e) hL)
          have Tgh := Lib.hid (fun j e => Nat.lt_of_lt_of_le (Og_14.out.lt j e) hL)
          have Sh := Lib.hid (Nat.le_trans B14.out.size hL)
          have Xr0_a := Xr0_14.later hb
          have Xr1_a := Xr1_14.later hb
          have Xs_a := Xs_14.later hb
          have Xx_a := Xx_14.later hb
          have Xy_a := Xy_14.later hb
          have Xg_a := Xg_14.later hb
          have Os_a := Lib.hid (Os_14.out.below hb)
          have Ox_a := Lib.hid (Ox_14.out.below hb)
          have Oy_a := Lib.hid (Oy_14.out.below hb)
          have Og_a := Lib.hid (Og_14.out.below hb)
          have B_a := Lib.hid (B14.out.trans (hb.mono B14.out.size))
          clear B14 Xr0_14 Cr0_14_0 Cr0_14_1 Xr1_14 Cr1_14_0 Cr1_14_1 Xs_14 Cs_14_0 Cs_14_1 Xx_14 Cx_14_0 Cx_14_1 Xy_14 Cy_14_0 Cy_14_1 Xg_14 Cg_14_0 Cg_14_1 Os_14 Ox_14 Oy_14 Og_14
          have Oh_a := Lib.hid ho
          have Xh_a := hX
          clear ho hb hX hL
          have Xr0_15 := Xr0_a
          have Cr0_15_0 := Xr0_15.cell0
          have Cr0_15_1 := Xr0_15.cell1
          have Xr1_15 := Xr1_a
          have Cr1_15_0 := Xr1_15.cell0
          have Cr1_15_1 := Xr1_15.cell1
          have Xs_15 := Xs_a
          have Cs_15_0 := Xs_15.cell0
          have Cs_15_1 := Xs_15.cell1
          have Xx_15 := Xx_a
          have Cx_15_0 := Xx_15.cell0
          have Cx_15_1 := Xx_15.cell1
          have Xy_15 := Xy_a
          have Cy_15_0 := Xy_15.cell0
          have Cy_15_1 := Xy_15.cell1
          have Xg_15 := Xg_a
          have Cg_15_0 := Xg_15.cell0
          have Cg_15_1 := Xg_15.cell1
          have Xh_15 := Xh_a
          have Ch_15_0 := Xh_15.cell0
          have Ch_15_1 := Xh_15.cell1
          have Os_15 := Os_a
          have Ox_15 := Ox_a
          have Oy_15 := Oy_a
          have Og_15 := Og_a
          have Oh_15 := Oh_a
          have B15 := B_a
          clear B_a Xr0_a Xr1_a Xs_a Xx_a Xy_a Xg_a Xh_a Os_a Ox_a Oy_a Og_a Oh_a
          obtain ⟨W15, hW⟩ : ∃ W, W = wc := ⟨_, rfl⟩
          subst hW
          go_wp2_with fail
          refine (eqRank_same W15 _ _ _ na Oh_15.out.rd Os_15.out.rd (by have := LN.out; omega)).mono ?_
          rintro e w16' ⟨rfl, hb⟩
          have Xr0_a := Xr0_15.later hb
          have Xr1_a := Xr1_15.later hb
          have Xs_a := Xs_15.later hb
          have Xx_a := Xx_15.later hb
          have Xy_a := Xy_15.later hb
          have Xg_a := Xg_15.later hb
          have Xh_a := Xh_15.later hb
          have Os_a := Lib.hid (Os_15.out.below hb)
          have Ox_a := Lib.hid (Ox_15.out.below hb)
          have Oy_a := Lib.hid (Oy_15.out.below hb)
          have Og_a := Lib.hid (Og_15.out.below hb)
          have Oh_a := Lib.hid (Oh_15.out.below hb)
          have B_a := Lib.hid (B15.out.trans (hb.mono B15.out.size))
          clear B15 Xr0_15 Cr0_15_0 Cr0_15_1 Xr1_15 Cr1_15_0 Cr1_15_1 Xs_15 Cs_15_0 Cs_15_1 Xx_15 Cx_15_0 Cx_15_1 Xy_15 Cy_15_0 Cy_15_1 Xg_15 Cg_15_0 Cg_15_1 Xh_15 Ch_15_0 Ch_15_1 Os_15 Ox_15 Oy_15 Og_15 Oh_15
          clear hb
          have Xr0_16 := Xr0_a
          have Cr0_16_0 := Xr0_16.cell0
          have Cr0_16_1 := Xr0_16.cell1
          have Xr1_16 := Xr1_a
          have Cr1_16_0 := Xr1_16.cell0
          have Cr1_16_1 := Xr1_16.cell1
          have Xs_16 := Xs_a
          have Cs_16_0 := Xs_16.cell0
          have Cs_16_1 := Xs_16.cell1
          have Xx_16 := Xx_a
          have Cx_16_0 := Xx_16.cell0
          have Cx_16_1 := Xx_16.cell1
          have Xy_16 := Xy_a
          have Cy_16_0 := Xy_16.cell0
          have Cy_16_1 := Xy_16.cell1
          have Xg_16 := Xg_a
          have Cg_16_0 := Xg_16.cell0
          have Cg_16_1 := Xg_16.cell1
          have Xh_16 := Xh_a
          have Ch_16_0 := Xh_16.cell0
          have Ch_16_1 := Xh_16.cell1
          have Os_16 := Os_a
          have Ox_16 := Ox_a
          have Oy_16 := Oy_a
          have Og_16 := Og_a
          have Oh_16 := Oh_a
          have B16 := B_a
          clear B_a Xr0_a Xr1_a Xs_a Xx_a Xy_a Xg_a Xh_a Os_a Ox_a Oy_a Og_a Oh_a
          obtain ⟨W16, hW⟩ : ∃ W, W = w16' := ⟨_, rfl⟩
          subst hW
          go_wp2_with fail
          refine (heldRank_at W16 _ m na 1 Og_16.out.rd (by omega) (by omega) (by omega)).mono ?_
          rintro e w17' ⟨rfl, hb⟩
          have Xr0_a := Xr0_16.later hb
          have Xr1_a := Xr1_16.later hb
          have Xs_a := Xs_16.later hb
          have Xx_a := Xx_16.later hb
          have Xy_a := Xy_16.later hb
          have Xg_a := Xg_16.later hb
          have Xh_a := Xh_16.later hb
          have Os_a := Lib.hid (Os_16.out.below hb)
          have Ox_a := Lib.hid (Ox_16.out.below hb)
          have Oy_a := Lib.hid (Oy_16.out.below hb)
          have Og_a := Lib.hid (Og_16.out.below hb)
          have Oh_a := Lib.hid (Oh_16.out.below hb)
          have B_a := Lib.hid (B16.out.trans (hb.mono B16.out.size))
          clear B16 Xr0_16 Cr0_16_0 Cr0_16_1 Xr1_16 Cr1_16_0 Cr1_16_1 Xs_16 Cs_16_0 Cs_16_1 Xx_16 Cx_16_0 Cx_16_1 Xy_16 Cy_16_0 Cy_16_1 Xg_16 Cg_16_0 Cg_16_1 Xh_16 Ch_16_0 Ch_16_1 Os_16 Ox_16 Oy_16 Og_16 Oh_16
          clear hb
          have Xr0_17 := Xr0_a
          have Cr0_17_0 := Xr0_17.cell0
          have Cr0_17_1 := Xr0_17.cell1
          have Xr1_17 := Xr1_a
          have Cr1_17_0 := Xr1_17.cell0
          have Cr1_17_1 := Xr1_17.cell1
          have Xs_17 := Xs_a
          have Cs_17_0 := Xs_17.cell0
          have Cs_17_1 := Xs_17.cell1
          have Xx_17 := Xx_a
          have Cx_17_0 := Xx_17.cell0
          have Cx_17_1 := Xx_17.cell1
          have Xy_17 := Xy_a
          have Cy_17_0 := Xy_17.cell0
          have Cy_17_1 := Xy_17.cell1
          have Xg_17 := Xg_a
          have Cg_17_0 := Xg_17.cell0
          have Cg_17_1 := Xg_17.cell1
          have Xh_17 := Xh_a
          have Ch_17_0 := Xh_17.cell0
          have Ch_17_1 := Xh_17.cell1
          have Os_17 := Os_a
          have Ox_17 := Ox_a
          have Oy_17 := Oy_a
          have Og_17 := Og_a
          have Oh_17 := Oh_a
          have B17 := B_a
          clear B_a Xr0_a Xr1_a Xs_a Xx_a Xy_a Xg_a Xh_a Os_a Ox_a Oy_a Og_a Oh_a
          obtain ⟨W17, hW⟩ : ∃ W, W = w17' := ⟨_, rfl⟩
          subst hW
          go_wp2
          go_ret
          exact ⟨rfl, B17.out⟩

-- the row's step
set_option maxRecDepth 100000 in
theorem lifted (os : Os) (started : os.Started) (H : Type) (enc : TypeId × Value → H) :
    ReturnsInHanded {} Try.checked os 14 .any (Rows.fnExactRankJoinSpec.pre6 enc Try.prog Try.f14 Rows.fnExactRankJoinRow.domain false) (Rows.fnExactRankJoinSpec.post enc Try.prog Try.f14 false true false false) := by
  refine returnsInHanded_of_change (C := Try.checked) own started (by kernel_rfl) Try.func14
    (ChangeSpec.witness6 (enc := enc) (C := Try.checked) false ⟨#[], #[.agg #[.slice none 0 0, .int .i64 0], .agg #[.slice none 0 0, .int .i64 0]], []⟩ 8 (by kernel_rfl) (by kernel_rfl) (by kernel_rfl) (by kernel_rfl)) ?_
  intro W base args ds gs before hval0 hW hcnd _
  have hval : ∀ (j : Nat) t v, Try.f14.params[j]? = some t → args[j]? = some v → Value.okWide Try.prog W .any base t v := hval0
  have hW' := hW
  obtain ⟨p, q, hA0, hV, rfl, hfz, hnd⟩ := hW
  have hA : DataW.TrodAll enc Try.prog W 0 (fun _ => true) true Try.f14.params.toList args.toList ds p := hA0
  rw [Try.params14 ] at hA hval
  obtain ⟨v0, vs0, d0, ds0, p0, q0, hargs, rfl, rfl, h0, r0⟩ := trodAll_cons hA
  obtain ⟨v1, vs1, d1, ds1, p1, q1, rfl, rfl, rfl, h1, r1⟩ := trodAll_cons r0
  obtain ⟨rfl, rfl, rfl⟩ := trodAll_nil r1
  obtain rfl : args = #[v0, v1] := by cases args; simp_all
  obtain ⟨rfl, rfl⟩ := trodVars_none hV
  have k0 := h0
  have lt0 : ∀ x ∈ p0, x.block < W.heap.size := by obtain ⟨m, hm⟩ := k0; exact DataW.trod_lt m _ _ _ hm
  obtain ⟨u0, z0, al0, rfl, w0⟩ := open_rank (hval 0 48 v0 rfl rfl) h0
  have k1 := h1
  have lt1 : ∀ x ∈ p1, x.block < W.heap.size := by obtain ⟨m, hm⟩ := k1; exact DataW.trod_lt m _ _ _ hm
  obtain ⟨u1, z1, al1, rfl, w1⟩ := open_rank (hval 1 48 v1 rfl rfl) h1
  clear hA0 hval0
  refine (walk u0 z0 al0 u1 z1 al1 W w0 w1).mono fun e W' ⟨he, bel⟩ => ?_
  subst he
  exact ⟨_, rfl, _, _, _, [], _, [], hW', trodAll_mk1 (shut_bool Try.underlying4 _), (trodAll_cons_mk (Below.trod laidOut (by kernel_rfl) (of_decide_eq_true (by kernel_rfl)) k0 bel lt0) (trodAll_cons_mk (Below.trod laidOut (by kernel_rfl) (of_decide_eq_true (by kernel_rfl)) k1 bel lt1) trodAll_mk0)), rfl, bel.frame _, fun h => by cases h⟩

theorem over : Rows.fnExactRankJoinRow.holds Try.pinned (OpenSpec.ofChange Rows.fnExactRankJoinSpec) :=
  OpenClaim.holds_of_wide 14 Try.f14 rfl rfl rfl rfl rfl rfl rfl ⟨rfl, rfl, rfl, rfl, rfl⟩ rfl rfl rfl rfl rfl (by kernel_rfl) Try.func14 (by kernel_rfl)
    (of_decide_eq_true (by kernel_rfl)) (by unfold Func.isWrapper; first | (rw [if_pos (by decide +kernel)]; kernel_rfl) | (rw [if_neg (by decide +kernel)]; exact ⟨rfl, rfl⟩))
    (fun os started H enc _ => lifted os started H enc)

theorem proved : Rows.FnExactRankJoinSaid := over
#print axioms proved
end Go.Proofs.Ytnpcgbjkahpcfaa.fnExactRankJoin
