/-
  The statement of the law FnExactRoughJoin: at every input the call returns true and leaves what it was given as it was.
-/
import Derived.Test.YteopnbjiffncbabExPairR
import Derived.Deep.RegionWith
import Derived.Deep.DeepCutAuto
import Derived.Test.YteopnbjiffncbabRows
import Derived.WalkKit
import Derived.ProofKit
import Derived.OpenShut
import Derived.ShutString
import Derived.ChangeOld
import Derived.Below
namespace Go.Proofs.Yteopnbjiffncbab.fnExactRoughJoin
open Go.ChangeShapes Go.WideShapes Go.ChangeAt Go.RowKit
open Go.ChangeMaps (open_string shut_string)
set_option linter.unusedVariables false

theorem own : ownKnob Try.prog.godebug = none := by kernel_rfl
theorem laidOut : laidOutB Try.prog = true := by kernel_rfl

set_option maxRecDepth 20000 in
set_option maxRecDepth 4000 in
set_option maxHeartbeats 16000000 in
theorem walk (v0 : Value) (z0 : List (List Int)) (v1 : Value) (z1 : List (List Int)) (w : World) (w0 : ArgR w v0 z0) (w1 : ArgR w v1 z1) :
    Calls Try.prog 8 #[.agg #[v0], .agg #[v1]] w fun e w' => e = .returned (.bool true) ∧ Below w.heap.size w w' := by
  obtain ⟨y0, e0, hx0⟩ := w0.form
  have A0 := Lib.hid w0
  obtain ⟨n0, hn0⟩ : ∃ n, n = z0.length := ⟨_, rfl⟩
  have Z0 := Lib.hid hn0
  rw [← hn0] at hx0
  obtain ⟨y1, e1, hx1⟩ := w1.form
  have A1 := Lib.hid w1
  obtain ⟨n1, hn1⟩ : ∃ n, n = z1.length := ⟨_, rfl⟩
  have Z1 := Lib.hid hn1
  rw [← hn1] at hx1
  obtain ⟨W0, hW⟩ : ∃ W, W = ((w.alloc (.cells #[v0] 29)).alloc (.cells #[v1] 29)) := ⟨_, rfl⟩
  have hA : Below w.heap.size w W0 := by rw [hW]; exact ((Below.refl _ _).alloc (Nat.le_refl _) _).alloc (by simp) _
  have Xr0_0 : Go.Boxed W0 (w.heap.size) 29 v0 := by rw [hW]; exact ((Go.Boxed.new _ _ _).alloc _)
  have Xr1_0 : Go.Boxed W0 (w.heap.size + 1) 29 v1 := by rw [hW]; exact (by have h := Go.Boxed.new (w.alloc (.cells #[v0] 29)) 29 v1; simpa using h)
  have B0 := Lib.hid hA
  clear hA
  clear w0 hn0
  subst hx0
  clear w1 hn1
  subst hx1
  obtain ⟨q0, hq0⟩ : ∃ q, q = z0.length + ahead z0 z0.length := ⟨_, rfl⟩
  have Q0 := Lib.hid hq0
  have KS := szRough_at W0 _ z0 (1048576) (A0.out.below B0.out (Nat.le_refl _)) (by omega) (by omega)
  rw [← hq0] at KS
  clear hq0
  by_cases hle0 : (1048576 : Int) < q0
  · rw [szV_out hle0] at KS
    go_enter Try.func8, Try.ntmps8
    go_wp2_with fail
    rw [← hW]
    refine KS.mono ?_
    rintro e w1 ⟨rfl, hb⟩
    go_wp2
    go_ret
    exact ⟨rfl, B0.out.trans (hb.mono B0.out.size)⟩
  rw [szV_in (by omega)] at KS
  have q01 : q0 ≤ 1048576 := by omega
  have nz0 : ¬ (1048576 : Int) - (q0 : Int) < 0 := by omega
  have LZ0 : Hid (Lens z0) := Lib.hid (Lens.arg (by rw [← Q0.out]; exact q01))
  obtain ⟨h0, hh⟩ : ∃ h, h = ahead z0 z0.length := ⟨_, rfl⟩
  have H0 := Lib.hid hh
  have hle0' : h0 ≤ 1048576 := by have := Q0.out; omega
  clear hh
  go_enter Try.func8, Try.ntmps8
  go_wp2_with fail
  rw [← hW]
  clear hW
  have Cr0_0 := Xr0_0.cell
  have Cr1_0 := Xr1_0.cell
  refine (KS).mono ?_
  rintro e w1' ⟨rfl, hb⟩
  have Xr0_a := boxed_below Xr0_0 hb
  have Xr1_a := boxed_below Xr1_0 hb
  have B_a := Lib.hid (B0.out.trans (hb.mono B0.out.size))
  clear B0 Xr0_0 Cr0_0 Xr1_0 Cr1_0 
  clear hb
  have Xr0_1 := Xr0_a
  have Cr0_1 := Xr0_a.cell
  have Xr1_1 := Xr1_a
  have Cr1_1 := Xr1_a.cell
  have B1 := B_a
  clear B_a Xr0_a Xr1_a 
  obtain ⟨W1, hW⟩ : ∃ W, W = w1' := ⟨_, rfl⟩
  subst hW
  clear KS hle0
  obtain ⟨q1, hq1⟩ : ∃ q, q = z1.length + ahead z1 z1.length := ⟨_, rfl⟩
  have Q1 := Lib.hid hq1
  have KS := szRough_at W1 _ z1 (1048576 - (q0 : Int)) (A1.out.below B1.out (Nat.le_refl _)) (by omega) (by omega)
  rw [← hq1] at KS
  clear hq1
  by_cases hle1 : (1048576 - (q0 : Int) : Int) < q1
  · rw [szV_out hle1] at KS
    go_wp2_with fail
    refine KS.mono ?_
    rintro e w1 ⟨rfl, hb⟩
    go_wp2
    go_ret
    exact ⟨rfl, B1.out.trans (hb.mono B1.out.size)⟩
  rw [szV_in (by omega)] at KS
  have q11 : q1 ≤ 1048576 := by omega
  have nz1 : ¬ (1048576 - (q0 : Int) : Int) - (q1 : Int) < 0 := by omega
  have LZ1 : Hid (Lens z1) := Lib.hid (Lens.arg (by rw [← Q1.out]; exact q11))
  obtain ⟨h1, hh⟩ : ∃ h, h = ahead z1 z1.length := ⟨_, rfl⟩
  have H1 := Lib.hid hh
  have hle1' : h1 ≤ 1048576 := by have := Q1.out; omega
  clear hh
  go_wp2_with fail
  refine (KS).mono ?_
  rintro e w2' ⟨rfl, hb⟩
  have Xr0_a := boxed_below Xr0_1 hb
  have Xr1_a := boxed_below Xr1_1 hb
  have B_a := Lib.hid (B1.out.trans (hb.mono B1.out.size))
  clear B1 Xr0_1 Cr0_1 Xr1_1 Cr1_1 
  clear hb
  have Xr0_2 := Xr0_a
  have Cr0_2 := Xr0_a.cell
  have Xr1_2 := Xr1_a
  have Cr1_2 := Xr1_a.cell
  have B2 := B_a
  clear B_a Xr0_a Xr1_a 
  obtain ⟨W2, hW⟩ : ∃ W, W = w2' := ⟨_, rfl⟩
  subst hW
  clear KS hle1
  have LA := Lib.hid (Lens.small (joinA_len z0 z1))
  obtain ⟨hA, hh⟩ : ∃ h, h = ahead (joinA z0 z1) (joinA z0 z1).length := ⟨_, rfl⟩
  have HA := Lib.hid hh
  have hA' : hA ≤ 100000000 := by rw [hh]; exact LA.out.all
  clear hh
  go_upto_region 8 with fail
  go_cut [6, 7] (fun sp sb wx => MadeRR W2 (joinA z0 z1) (joinB z0 z1) sp sb wx)
  case first =>
    have A0_ := Lib.hid (A0.out.below B2.out (Nat.le_refl _))
    have A1_ := Lib.hid (A1.out.below B2.out (Nat.le_refl _))
    have D0 := Lib.hid ((Below.refl W2.heap.size W2).drew)
    have E0 := Lib.hid (D0.out.alloc D0.out.size (.cells #[.slice none 0 0] 24))
    have XE0 : Hid (Go.Boxed (W2.drew.alloc (.cells #[.slice none 0 0] 24)) W2.heap.size 24 (.slice none 0 0)) := Lib.hid (Go.Boxed.new W2.drew _ _)
    have lr0 := Xr0_2.lt
    have lr1 := Xr1_2.lt
    have CR0' : W2.drew.cell? _ = some _ := Cr0_2
    have CR0 : W2.drew.cell? _ = some _ := Cr1_2
    clear Xr0_2 Xr1_2   B2
    go_region_with (first
      | (go_at_call_of 21 y0; refine (toRough_own _ (.slice y0 n0 e0) z0 ?_ LZ0.out.len LZ0.out.row).mono ?_; (first | exact A0_.out.below E0.out (Nat.le_refl _) | exact A0_.out.below D0.out (Nat.le_refl _)); rintro e wa ⟨ga, rfl, ho, hb⟩; rw [← Z0.out] at ho ⊢; (first | (have Da := Lib.hid (E0.out.trans (hb.mono E0.out.size))) | (have Da := Lib.hid (D0.out.trans (hb.mono D0.out.size)))); have Ea := Lib.hid (Da.out.alloc Da.out.size (.cells #[.slice none 0 0] 24)); have XEa := Lib.hid (Go.Boxed.new wa 24 (.slice none 0 0)); (first | (have XP := Lib.hid (boxed_below XE0.out hb)) | (have XP' := Lib.hid (boxed_below XP.out hb)) | skip); have Oa := Lib.hid ho; have OEa := Lib.hid (ho.alloc (.cells #[.slice none 0 0] 24)); have CRa := cell_later (show Below _ _ wa from Da.out) (show W2.cell? _ = some _ from Cr1_2); have lra := Nat.lt_of_lt_of_le lr1 Da.out.size; clear ho hb)
      | (go_at_call_of 21 y1; refine (toRough_own _ (.slice y1 n1 e1) z1 ?_ LZ1.out.len LZ1.out.row).mono ?_; (first | exact A1_.out.below Ea.out (Nat.le_refl _) | exact A1_.out.below Da.out (Nat.le_refl _)); rintro e wb ⟨gb, rfl, ho, hb⟩; rw [← Z1.out] at ho ⊢; (first | (have Db := Lib.hid (Ea.out.trans (hb.mono Ea.out.size))) | (have Db := Lib.hid (Da.out.trans (hb.mono Da.out.size)))); have Eb := Lib.hid (Db.out.alloc Db.out.size (.cells #[.slice none 0 0] 24)); have XEb := Lib.hid (Go.Boxed.new wb 24 (.slice none 0 0)); (first | (have XP := Lib.hid (boxed_below XEa.out hb)) | (have XP' := Lib.hid (boxed_below XP.out hb)) | skip); have Ob := Lib.hid ho; have OEb := Lib.hid (ho.alloc (.cells #[.slice none 0 0] 24)); (first | (have Oa' := Lib.hid (Oa.out.below hb)) | (have Oa' := Lib.hid (OEa.out.below hb))); have OEa' := Lib.hid (Oa'.out.alloc (.cells #[.slice none 0 0] 24)); clear ho hb)
      | (go_at_call 29; refine (spJoinRR _ (.slice (some ⟨ga, 0, none⟩) n0 n0) (.slice (some ⟨gb, 0, none⟩) n1 n1) z0 z1 ?_ ?_).mono ?_; (first | exact Oa'.out.rd | exact OEa'.out.rd); (first | exact Ob.out.rd | exact OEb.out.rd); rintro e wc ⟨xs, cs, rfl, ho, hb⟩; (first | (have Dc := Lib.hid (Eb.out.trans (hb.mono Eb.out.size))) | (have Dc := Lib.hid (Db.out.trans (hb.mono Db.out.size)))); (first | (have XP2 := Lib.hid (boxed_below XEb.out hb)) | (have XP2 := Lib.hid (boxed_below XP'.out hb)) | (have XP2 := Lib.hid (boxed_below XP.out hb)) | skip); (try (have cp := XP2.out.cell; have fp := XP2.out.frozen)); have Oc := Lib.hid ho; clear ho hb))
    all_goals (go_wp2_with fail; go_meet)
    all_goals first
      | exact MadeRR.last Dc.out Db.out.size Oc.out
      | exact MadeRR.stored Dc.out (by first | exact Db.out.size | exact Eb.out.size) Oc.out (by first | exact Nat.le_refl _ | exact Da.out.size | exact Db.out.size) XP2.out
  case rest =>
    obtain ⟨ps, xs, cs, Ls, Ts, rfl, rfl, hb, hL, ho, hX⟩ := hcut
    obtain ⟨ns, hn⟩ : ∃ n, n = (joinA z0 z1).length := ⟨_, rfl⟩
    rw [← hn] at ho hX
    have Ns := Lib.hid hn
    clear hn
    have Ss := Lib.hid (Nat.le_trans B2.out.size hL)
    have Xr0_a := boxed_below Xr0_2 hb
    have Xr1_a := boxed_below Xr1_2 hb
    have B_a := Lib.hid (B2.out.trans (hb.mono B2.out.size))
    clear B2 Xr0_2 Cr0_2 Xr1_2 Cr1_2 
    have Os_a := Lib.hid ho
    have Xs_a := hX
    clear ho hb hX hL
    have Xr0_3 := Xr0_a
    have Cr0_3 := Xr0_a.cell
    have Xr1_3 := Xr1_a
    have Cr1_3 := Xr1_a.cell
    have Xs_3 := Xs_a
    have Cs_3 := Xs_a.cell
    have Os_3 := Os_a
    have B3 := B_a
    clear B_a Xr0_a Xr1_a Xs_a Os_a
    obtain ⟨W3, hW⟩ : ∃ W, W = wc := ⟨_, rfl⟩
    subst hW
    go_wp2_with fail
    refine (toRough_own W3 _ z0 (A0.out.below B3.out (Nat.le_refl _)) LZ0.out.len LZ0.out.row).mono ?_
    rintro e w4' ⟨gx, rfl, ho, hb⟩
    rw [← Z0.out] at ho ⊢
    have Tsx := Lib.hid Os_3.out.top
    have Sx := Lib.hid B3.out.size
    have Xr0_a := boxed_below Xr0_3 hb
    have Xr1_a := boxed_below Xr1_3 hb
    have Xs_a := boxed_below Xs_3 hb
    have Os_a := Lib.hid (Os_3.out.below hb)
    have B_a := Lib.hid (B3.out.trans (hb.mono B3.out.size))
    clear B3 Xr0_3 Cr0_3 Xr1_3 Cr1_3 Xs_3 Cs_3 Os_3
    have Ox_a := Lib.hid ho
    clear ho hb
    have lr0 := Xr0_a.lt
    have cr0_a := Xr0_a.cell
    have lr1 := Xr1_a.lt
    have cr1_a := Xr1_a.cell
    have ls := Xs_a.lt
    have cs_a := Xs_a.cell
    obtain ⟨W4, hW⟩ : ∃ W, W = (w4').alloc (.cells #[.slice (some ⟨gx, 0, none⟩) n0 n0] 24) := ⟨_, rfl⟩
    have Xr0_4 := (Xr0_a.alloc (.cells #[.slice (some ⟨gx, 0, none⟩) n0 n0] 24))
    rw [← hW] at Xr0_4
    have Xr1_4 := (Xr1_a.alloc (.cells #[.slice (some ⟨gx, 0, none⟩) n0 n0] 24))
    rw [← hW] at Xr1_4
    have Xs_4 := (Xs_a.alloc (.cells #[.slice (some ⟨gx, 0, none⟩) n0 n0] 24))
    rw [← hW] at Xs_4
    have Os_4 := Lib.hid (Os_a.out.alloc (.cells #[.slice (some ⟨gx, 0, none⟩) n0 n0] 24))
    rw [← hW] at Os_4
    have Ox_4 := Lib.hid (Ox_a.out.alloc (.cells #[.slice (some ⟨gx, 0, none⟩) n0 n0] 24))
    rw [← hW] at Ox_4
    have B4 : Hid (Below w.heap.size w W4) := by rw [hW]; exact B_a.out.alloc B_a.out.size _
    have Xx_4 : Go.Boxed W4 w4'.heap.size 24 (.slice (some ⟨gx, 0, none⟩) n0 n0) := by rw [hW]; exact Go.Boxed.new _ _ _
    clear B_a Os_a Ox_a
    go_wp2_with fail
    rw [← hW]
    clear hW Xr0_a lr0 cr0_a Xr1_a lr1 cr1_a Xs_a ls cs_a
    have Cr0_4 := Xr0_4.cell
    have Cr1_4 := Xr1_4.cell
    have Cs_4 := Xs_4.cell
    have Cx_4 := Xx_4.cell
    refine (toRough_own W4 _ z1 (A1.out.below B4.out (Nat.le_refl _)) LZ1.out.len LZ1.out.row).mono ?_
    rintro e w5' ⟨gy, rfl, ho, hb⟩
    rw [← Z1.out] at ho ⊢
    have Tsy := Lib.hid Os_4.out.top
    have Txy := Lib.hid Ox_4.out.top
    have Sy := Lib.hid B4.out.size
    have Xr0_a := boxed_below Xr0_4 hb
    have Xr1_a := boxed_below Xr1_4 hb
    have Xs_a := boxed_below Xs_4 hb
    have Xx_a := boxed_below Xx_4 hb
    have Os_a := Lib.hid (Os_4.out.below hb)
    have Ox_a := Lib.hid (Ox_4.out.below hb)
    have B_a := Lib.hid (B4.out.trans (hb.mono B4.out.size))
    clear B4 Xr0_4 Cr0_4 Xr1_4 Cr1_4 Xs_4 Cs_4 Xx_4 Cx_4 Os_4 Ox_4
    have Oy_a := Lib.hid ho
    clear ho hb
    have lr0 := Xr0_a.lt
    have cr0_a := Xr0_a.cell
    have lr1 := Xr1_a.lt
    have cr1_a := Xr1_a.cell
    have ls := Xs_a.lt
    have cs_a := Xs_a.cell
    have lx := Xx_a.lt
    have cx_a := Xx_a.cell
    obtain ⟨W5, hW⟩ : ∃ W, W = (w5').alloc (.cells #[.slice (some ⟨gy, 0, none⟩) n1 n1] 24) := ⟨_, rfl⟩
    have Xr0_5 := (Xr0_a.alloc (.cells #[.slice (some ⟨gy, 0, none⟩) n1 n1] 24))
    rw [← hW] at Xr0_5
    have Xr1_5 := (Xr1_a.alloc (.cells #[.slice (some ⟨gy, 0, none⟩) n1 n1] 24))
    rw [← hW] at Xr1_5
    have Xs_5 := (Xs_a.alloc (.cells #[.slice (some ⟨gy, 0, none⟩) n1 n1] 24))
    rw [← hW] at Xs_5
    have Xx_5 := (Xx_a.alloc (.cells #[.slice (some ⟨gy, 0, none⟩) n1 n1] 24))
    rw [← hW] at Xx_5
    have Os_5 := Lib.hid (Os_a.out.alloc (.cells #[.slice (some ⟨gy, 0, none⟩) n1 n1] 24))
    rw [← hW] at Os_5
    have Ox_5 := Lib.hid (Ox_a.out.alloc (.cells #[.slice (some ⟨gy, 0, none⟩) n1 n1] 24))
    rw [← hW] at Ox_5
    have Oy_5 := Lib.hid (Oy_a.out.alloc (.cells #[.slice (some ⟨gy, 0, none⟩) n1 n1] 24))
    rw [← hW] at Oy_5
    have B5 : Hid (Below w.heap.size w W5) := by rw [hW]; exact B_a.out.alloc B_a.out.size _
    have Xy_5 : Go.Boxed W5 w5'.heap.size 24 (.slice (some ⟨gy, 0, none⟩) n1 n1) := by rw [hW]; exact Go.Boxed.new _ _ _
    clear B_a Os_a Ox_a Oy_a
    go_wp2_with fail
    rw [← hW]
    clear hW Xr0_a lr0 cr0_a Xr1_a lr1 cr1_a Xs_a ls cs_a Xx_a lx cx_a
    have Cr0_5 := Xr0_5.cell
    have Cr1_5 := Xr1_5.cell
    have Cs_5 := Xs_5.cell
    have Cx_5 := Xx_5.cell
    have Cy_5 := Xy_5.cell
    refine (imJoinRR W5 _ _ z0 z1 Ox_5.out.rd Oy_5.out.rd).mono ?_
    rintro e w6' ⟨xg, cg, rfl, ho, hb⟩
    obtain ⟨ng, hn⟩ : ∃ n, n = (joinA z0 z1).length := ⟨_, rfl⟩
    rw [← hn] at ho ⊢
    have Ng := Lib.hid hn
    have Tsg := Lib.hid Os_5.out.top
    have Txg := Lib.hid Ox_5.out.top
    have Tyg := Lib.hid Oy_5.out.top
    have Sg := Lib.hid B5.out.size
    have Xr0_a := boxed_below Xr0_5 hb
    have Xr1_a := boxed_below Xr1_5 hb
    have Xs_a := boxed_below Xs_5 hb
    have Xx_a := boxed_below Xx_5 hb
    have Xy_a := boxed_below Xy_5 hb
    have Os_a := Lib.hid (Os_5.out.below hb)
    have Ox_a := Lib.hid (Ox_5.out.below hb)
    have Oy_a := Lib.hid (Oy_5.out.below hb)
    have B_a := Lib.hid (B5.out.trans (hb.mono B5.out.size))
    clear B5 Xr0_5 Cr0_5 Xr1_5 Cr1_5 Xs_5 Cs_5 Xx_5 Cx_5 Xy_5 Cy_5 Os_5 Ox_5 Oy_5
    have Og_a := Lib.hid ho
    clear ho hb hn
    have lr0 := Xr0_a.lt
    have cr0_a := Xr0_a.cell
    have lr1 := Xr1_a.lt
    have cr1_a := Xr1_a.cell
    have ls := Xs_a.lt
    have cs_a := Xs_a.cell
    have lx := Xx_a.lt
    have cx_a := Xx_a.cell
    have ly := Xy_a.lt
    have cy_a := Xy_a.cell
    obtain ⟨W6, hW⟩ : ∃ W, W = (w6').alloc (.cells #[.slice xg ng cg] 24) := ⟨_, rfl⟩
    have Xr0_6 := (Xr0_a.alloc (.cells #[.slice xg ng cg] 24))
    rw [← hW] at Xr0_6
    have Xr1_6 := (Xr1_a.alloc (.cells #[.slice xg ng cg] 24))
    rw [← hW] at Xr1_6
    have Xs_6 := (Xs_a.alloc (.cells #[.slice xg ng cg] 24))
    rw [← hW] at Xs_6
    have Xx_6 := (Xx_a.alloc (.cells #[.slice xg ng cg] 24))
    rw [← hW] at Xx_6
    have Xy_6 := (Xy_a.alloc (.cells #[.slice xg ng cg] 24))
    rw [← hW] at Xy_6
    have Os_6 := Lib.hid (Os_a.out.alloc (.cells #[.slice xg ng cg] 24))
    rw [← hW] at Os_6
    have Ox_6 := Lib.hid (Ox_a.out.alloc (.cells #[.slice xg ng cg] 24))
    rw [← hW] at Ox_6
    have Oy_6 := Lib.hid (Oy_a.out.alloc (.cells #[.slice xg ng cg] 24))
    rw [← hW] at Oy_6
    have Og_6 := Lib.hid (Og_a.out.alloc (.cells #[.slice xg ng cg] 24))
    rw [← hW] at Og_6
    have B6 : Hid (Below w.heap.size w W6) := by rw [hW]; exact B_a.out.alloc B_a.out.size _
    have Xg_6 : Go.Boxed W6 w6'.heap.size 24 (.slice xg ng cg) := by rw [hW]; exact Go.Boxed.new _ _ _
    clear B_a Os_a Ox_a Oy_a Og_a
    obtain ⟨ok, hok⟩ : ∃ b, b = joinB z0 z1 := ⟨_, rfl⟩
    have OK := Lib.hid hok
    rw [← hok]
    clear hok
    go_wp2_with fail
    rw [← hW]
    clear hW Xr0_a lr0 cr0_a Xr1_a lr1 cr1_a Xs_a ls cs_a Xx_a lx cx_a Xy_a ly cy_a
    have Cr0_6 := Xr0_6.cell
    have Cr1_6 := Xr1_6.cell
    have Cs_6 := Xs_6.cell
    have Cx_6 := Xx_6.cell
    have Cy_6 := Xy_6.cell
    have Cg_6 := Xg_6.cell
    refine (eqRough_at W6 _ _ (joinA z0 z1) (joinA z0 z1) Og_6.out.rd Os_6.out.rd LA.out.lenM LA.out.rowM).mono ?_
    rintro e w7' ⟨rfl, hb⟩
    rw [decide_eq_true rfl]
    have Xr0_a := boxed_below Xr0_6 hb
    have Xr1_a := boxed_below Xr1_6 hb
    have Xs_a := boxed_below Xs_6 hb
    have Xx_a := boxed_below Xx_6 hb
    have Xy_a := boxed_below Xy_6 hb
    have Xg_a := boxed_below Xg_6 hb
    have Os_a := Lib.hid (Os_6.out.below hb)
    have Ox_a := Lib.hid (Ox_6.out.below hb)
    have Oy_a := Lib.hid (Oy_6.out.below hb)
    have Og_a := Lib.hid (Og_6.out.below hb)
    have B_a := Lib.hid (B6.out.trans (hb.mono B6.out.size))
    clear B6 Xr0_6 Cr0_6 Xr1_6 Cr1_6 Xs_6 Cs_6 Xx_6 Cx_6 Xy_6 Cy_6 Xg_6 Cg_6 Os_6 Ox_6 Oy_6 Og_6
    clear hb
    have Xr0_7 := Xr0_a
    have Cr0_7 := Xr0_a.cell
    have Xr1_7 := Xr1_a
    have Cr1_7 := Xr1_a.cell
    have Xs_7 := Xs_a
    have Cs_7 := Xs_a.cell
    have Xx_7 := Xx_a
    have Cx_7 := Xx_a.cell
    have Xy_7 := Xy_a
    have Cy_7 := Xy_a.cell
    have Xg_7 := Xg_a
    have Cg_7 := Xg_a.cell
    have Os_7 := Os_a
    have Ox_7 := Ox_a
    have Oy_7 := Oy_a
    have Og_7 := Og_a
    have B7 := B_a
    clear B_a Xr0_a Xr1_a Xs_a Xx_a Xy_a Xg_a Os_a Ox_a Oy_a Og_a
    obtain ⟨W7, hW⟩ : ∃ W, W = w7' := ⟨_, rfl⟩
    subst hW
    have ek : (ok != ok) = false := by simp
    go_upto_region 14 with fail
    go_cut [58] (fun c wx => c = .bool false ∧ Below W7.heap.size W7 wx)
    case first =>
      have KT : Hid (Calls Try.prog 21 #[.agg #[.slice y0 n0 e0]] W7.drew fun e w' => ∃ g, e = .returned (.agg #[.slice (some ⟨g, 0, none⟩) n0 n0]) ∧ Rws w' (.slice (some ⟨g, 0, none⟩) n0 n0) z0 ∧ Below W7.drew.heap.size W7.drew w') := by
        have h := toRough_own W7.drew (.slice y0 n0 e0) z0 (A0.out.below (Below.drew B7.out) (Nat.le_refl _)) LZ0.out.len LZ0.out.row
        rw [← Z0.out] at h
        exact h.mono fun e w' ⟨g, he, ho, hb⟩ => ⟨g, he, ho.rd, hb⟩
      have RX := Lib.hid (show Rws W7.drew _ z0 from Ox_7.out.rd)
      clear Xr0_7 Xr1_7 Xs_7 Xx_7 Xy_7 Xg_7 Os_7 Ox_7 Oy_7 Og_7 B7
      go_region_with (first
        | (go_at_call 21; refine KT.out.mono ?_; rintro e w7 ⟨g7, rfl, ho7, hb7⟩; have cx7 := cell_later hb7 (show W7.drew.cell? _ = some _ from Cx_7); have KE := Lib.hid (eqRough_at w7 _ _ z0 z0 (Rws.below RX.out hb7 (Nat.le_refl _)) ho7 LZ0.out.lenM LZ0.out.rowM); rw [decide_eq_true rfl] at KE; clear ho7)
        | (go_at_call 16; refine KE.out.mono ?_; rintro e w8 ⟨rfl, hb8⟩; have hb : Below W7.heap.size W7 w8 := (Below.drew (Below.refl _ _)).trans (hb7.trans (hb8.mono hb7.size)); clear hb7 hb8))
      all_goals (go_wp2_with fail; go_meet; exact ⟨rfl, hb⟩)
    case rest =>
      obtain ⟨rfl, hb⟩ := hcut
      have Xr0_a := boxed_below Xr0_7 hb
      have Xr1_a := boxed_below Xr1_7 hb
      have Xs_a := boxed_below Xs_7 hb
      have Xx_a := boxed_below Xx_7 hb
      have Xy_a := boxed_below Xy_7 hb
      have Xg_a := boxed_below Xg_7 hb
      have Os_a := Lib.hid (Os_7.out.below hb)
      have Ox_a := Lib.hid (Ox_7.out.below hb)
      have Oy_a := Lib.hid (Oy_7.out.below hb)
      have Og_a := Lib.hid (Og_7.out.below hb)
      have B_a := Lib.hid (B7.out.trans (hb.mono B7.out.size))
      clear B7 Xr0_7 Cr0_7 Xr1_7 Cr1_7 Xs_7 Cs_7 Xx_7 Cx_7 Xy_7 Cy_7 Xg_7 Cg_7 Os_7 Ox_7 Oy_7 Og_7
      clear hb
      have Xr0_8 := Xr0_a
      have Cr0_8 := Xr0_a.cell
      have Xr1_8 := Xr1_a
      have Cr1_8 := Xr1_a.cell
      have Xs_8 := Xs_a
      have Cs_8 := Xs_a.cell
      have Xx_8 := Xx_a
      have Cx_8 := Xx_a.cell
      have Xy_8 := Xy_a
      have Cy_8 := Xy_a.cell
      have Xg_8 := Xg_a
      have Cg_8 := Xg_a.cell
      have Os_8 := Os_a
      have Ox_8 := Ox_a
      have Oy_8 := Oy_a
      have Og_8 := Og_a
      have B8 := B_a
      clear B_a Xr0_a Xr1_a Xs_a Xx_a Xy_a Xg_a Os_a Ox_a Oy_a Og_a
      obtain ⟨W8, hW⟩ : ∃ W, W = wc := ⟨_, rfl⟩
      subst hW
      go_upto_region 16 with fail
      go_cut [63] (fun c wx => c = .bool false ∧ Below W8.heap.size W8 wx)
      case first =>
        have KT : Hid (Calls Try.prog 21 #[.agg #[.slice y1 n1 e1]] W8.drew fun e w' => ∃ g, e = .returned (.agg #[.slice (some ⟨g, 0, none⟩) n1 n1]) ∧ Rws w' (.slice (some ⟨g, 0, none⟩) n1 n1) z1 ∧ Below W8.drew.heap.size W8.drew w') := by
          have h := toRough_own W8.drew (.slice y1 n1 e1) z1 (A1.out.below (Below.drew B8.out) (Nat.le_refl _)) LZ1.out.len LZ1.out.row
          rw [← Z1.out] at h
          exact h.mono fun e w' ⟨g, he, ho, hb⟩ => ⟨g, he, ho.rd, hb⟩
        have RX := Lib.hid (show Rws W8.drew _ z1 from Oy_8.out.rd)
        clear Xr0_8 Xr1_8 Xs_8 Xx_8 Xy_8 Xg_8 Os_8 Ox_8 Oy_8 Og_8 B8
        go_region_with (first
          | (go_at_call 21; refine KT.out.mono ?_; rintro e w7 ⟨g7, rfl, ho7, hb7⟩; have cx7 := cell_later hb7 (show W8.drew.cell? _ = some _ from Cy_8); have KE := Lib.hid (eqRough_at w7 _ _ z1 z1 (Rws.below RX.out hb7 (Nat.le_refl _)) ho7 LZ1.out.lenM LZ1.out.rowM); rw [decide_eq_true rfl] at KE; clear ho7)
          | (go_at_call 16; refine KE.out.mono ?_; rintro e w8 ⟨rfl, hb8⟩; have hb : Below W8.heap.size W8 w8 := (Below.drew (Below.refl _ _)).trans (hb7.trans (hb8.mono hb7.size)); clear hb7 hb8))
        all_goals (go_wp2_with fail; go_meet; exact ⟨rfl, hb⟩)
      case rest =>
        obtain ⟨rfl, hb⟩ := hcut
        have Xr0_a := boxed_below Xr0_8 hb
        have Xr1_a := boxed_below Xr1_8 hb
        have Xs_a := boxed_below Xs_8 hb
        have Xx_a := boxed_below Xx_8 hb
        have Xy_a := boxed_below Xy_8 hb
        have Xg_a := boxed_below Xg_8 hb
        have Os_a := Lib.hid (Os_8.out.below hb)
        have Ox_a := Lib.hid (Ox_8.out.below hb)
        have Oy_a := Lib.hid (Oy_8.out.below hb)
        have Og_a := Lib.hid (Og_8.out.below hb)
        have B_a := Lib.hid (B8.out.trans (hb.mono B8.out.size))
        clear B8 Xr0_8 Cr0_8 Xr1_8 Cr1_8 Xs_8 Cs_8 Xx_8 Cx_8 Xy_8 Cy_8 Xg_8 Cg_8 Os_8 Ox_8 Oy_8 Og_8
        clear hb
        have Xr0_9 := Xr0_a
        have Cr0_9 := Xr0_a.cell
        have Xr1_9 := Xr1_a
        have Cr1_9 := Xr1_a.cell
        have Xs_9 := Xs_a
        have Cs_9 := Xs_a.cell
        have Xx_9 := Xx_a
        have Cx_9 := Xx_a.cell
        have Xy_9 := Xy_a
        have Cy_9 := Xy_a.cell
        have Xg_9 := Xg_a
        have Cg_9 := Xg_a.cell
        have Os_9 := Os_a
        have Ox_9 := Ox_a
        have Oy_9 := Oy_a
        have Og_9 := Og_a
        have B9 := B_a
        clear B_a Xr0_a Xr1_a Xs_a Xx_a Xy_a Xg_a Os_a Ox_a Oy_a Og_a
        obtain ⟨W9, hW⟩ : ∃ W, W = wc := ⟨_, rfl⟩
        subst hW
        go_wp2_with fail
        refine (markRR_at W9 _ _ _ (z0) 1 LZ0.out.len LZ0.out.row LZ0.out.all (by omega) (by omega) Ox_9.out).mono ?_
        rintro e w10' ⟨rsx, rfl, hm, ho, hg⟩
        have Xr0_a := hg.box _ _ _ (by decide) Xr0_9
        have Xr1_a := hg.box _ _ _ (by decide) Xr1_9
        have Xs_a := hg.box _ _ _ (by decide) Xs_9
        have Xx_a := hg.box _ _ _ (by decide) Xx_9
        have Xy_a := hg.box _ _ _ (by decide) Xy_9
        have Xg_a := hg.box _ _ _ (by decide) Xg_9
        have Os_a := Lib.hid (hg.own _ _ _ _ (.inl Tsx.out) Os_9.out)
        have Oy_a := Lib.hid (hg.own _ _ _ _ (.inr Txy.out) Oy_9.out)
        have Og_a := Lib.hid (hg.own _ _ _ _ (.inr Txg.out) Og_9.out)
        have B_a := Lib.hid (hg.below _ Sx.out B9.out)
        clear B9 Xr0_9 Cr0_9 Xr1_9 Cr1_9 Xs_9 Cs_9 Xx_9 Cx_9 Xy_9 Cy_9 Xg_9 Cg_9 Os_9 Ox_9 Oy_9 Og_9
        have Ox_a := Lib.hid ho
        have Mx := Lib.hid hm
        clear ho hg hm
        have Xr0_10 := Xr0_a
        have Cr0_10 := Xr0_a.cell
        have Xr1_10 := Xr1_a
        have Cr1_10 := Xr1_a.cell
        have Xs_10 := Xs_a
        have Cs_10 := Xs_a.cell
        have Xx_10 := Xx_a
        have Cx_10 := Xx_a.cell
        have Xy_10 := Xy_a
        have Cy_10 := Xy_a.cell
        have Xg_10 := Xg_a
        have Cg_10 := Xg_a.cell
        have Os_10 := Os_a
        have Ox_10 := Ox_a
        have Oy_10 := Oy_a
        have Og_10 := Og_a
        have B10 := B_a
        clear B_a Xr0_a Xr1_a Xs_a Xx_a Xy_a Xg_a Os_a Ox_a Oy_a Og_a
        obtain ⟨W10, hW⟩ : ∃ W, W = w10' := ⟨_, rfl⟩
        subst hW
        rw [← H0.out]
        have m0 : ¬ (1 : Int) + h0 < 0 := by omega
        clear Ox_10
        go_wp2_with fail
        refine (markRR_at W10 _ _ _ (z1) (1 + (h0 : Int)) LZ1.out.len LZ1.out.row LZ1.out.all (by omega) (by omega) Oy_10.out).mono ?_
        rintro e w11' ⟨rsy, rfl, hm, ho, hg⟩
        have Xr0_a := hg.box _ _ _ (by decide) Xr0_10
        have Xr1_a := hg.box _ _ _ (by decide) Xr1_10
        have Xs_a := hg.box _ _ _ (by decide) Xs_10
        have Xx_a := hg.box _ _ _ (by decide) Xx_10
        have Xy_a := hg.box _ _ _ (by decide) Xy_10
        have Xg_a := hg.box _ _ _ (by decide) Xg_10
        have Os_a := Lib.hid (hg.own _ _ _ _ (.inl Tsy.out) Os_10.out)
        have Og_a := Lib.hid (hg.own _ _ _ _ (.inr Tyg.out) Og_10.out)
        have B_a := Lib.hid (hg.below _ Sy.out B10.out)
        clear B10 Xr0_10 Cr0_10 Xr1_10 Cr1_10 Xs_10 Cs_10 Xx_10 Cx_10 Xy_10 Cy_10 Xg_10 Cg_10 Os_10 Oy_10 Og_10
        have Oy_a := Lib.hid ho
        have My := Lib.hid hm
        clear ho hg hm
        have Xr0_11 := Xr0_a
        have Cr0_11 := Xr0_a.cell
        have Xr1_11 := Xr1_a
        have Cr1_11 := Xr1_a.cell
        have Xs_11 := Xs_a
        have Cs_11 := Xs_a.cell
        have Xx_11 := Xx_a
        have Cx_11 := Xx_a.cell
        have Xy_11 := Xy_a
        have Cy_11 := Xy_a.cell
        have Xg_11 := Xg_a
        have Cg_11 := Xg_a.cell
        have Os_11 := Os_a
        have Oy_11 := Oy_a
        have Og_11 := Og_a
        have B11 := B_a
        clear B_a Xr0_a Xr1_a Xs_a Xx_a Xy_a Xg_a Os_a Oy_a Og_a
        obtain ⟨W11, hW⟩ : ∃ W, W = w11' := ⟨_, rfl⟩
        subst hW
        rw [← H1.out]
        have m1 : ¬ (1 : Int) + h0 + h1 < 0 := by omega
        clear Oy_11
        go_wp2_with fail
        refine (eqRough_at W11 _ _ (joinA z0 z1) (joinA z0 z1) Og_11.out.rd Os_11.out.rd LA.out.lenM LA.out.rowM).mono ?_
        rintro e w12' ⟨rfl, hb⟩
        rw [decide_eq_true rfl]
        have Xr0_a := boxed_below Xr0_11 hb
        have Xr1_a := boxed_below Xr1_11 hb
        have Xs_a := boxed_below Xs_11 hb
        have Xx_a := boxed_below Xx_11 hb
        have Xy_a := boxed_below Xy_11 hb
        have Xg_a := boxed_below Xg_11 hb
        have Os_a := Lib.hid (Os_11.out.below hb)
        have Og_a := Lib.hid (Og_11.out.below hb)
        have B_a := Lib.hid (B11.out.trans (hb.mono B11.out.size))
        clear B11 Xr0_11 Cr0_11 Xr1_11 Cr1_11 Xs_11 Cs_11 Xx_11 Cx_11 Xy_11 Cy_11 Xg_11 Cg_11 Os_11 Og_11
        clear hb
        have Xr0_12 := Xr0_a
        have Cr0_12 := Xr0_a.cell
        have Xr1_12 := Xr1_a
        have Cr1_12 := Xr1_a.cell
        have Xs_12 := Xs_a
        have Cs_12 := Xs_a.cell
        have Xx_12 := Xx_a
        have Cx_12 := Xx_a.cell
        have Xy_12 := Xy_a
        have Cy_12 := Xy_a.cell
        have Xg_12 := Xg_a
        have Cg_12 := Xg_a.cell
        have Os_12 := Os_a
        have Og_12 := Og_a
        have B12 := B_a
        clear B_a Xr0_a Xr1_a Xs_a Xx_a Xy_a Xg_a Os_a Og_a
        obtain ⟨W12, hW⟩ : ∃ W, W = w12' := ⟨_, rfl⟩
        subst hW
        go_wp2_with fail
        refine (markRR_at W12 _ _ _ (joinA z0 z1) 1 LA.out.len LA.out.row LA.out.all (by omega) (by omega) Og_12.out).mono ?_
        rintro e w13' ⟨rsg, rfl, hm, ho, hg⟩
        have Xr0_a := hg.box _ _ _ (by decide) Xr0_12
        have Xr1_a := hg.box _ _ _ (by decide) Xr1_12
        have Xs_a := hg.box _ _ _ (by decide) Xs_12
        have Xx_a := hg.box _ _ _ (by decide) Xx_12
        have Xy_a := hg.box _ _ _ (by decide) Xy_12
        have Xg_a := hg.box _ _ _ (by decide) Xg_12
        have Os_a := Lib.hid (hg.own _ _ _ _ (.inl Tsg.out) Os_12.out)
        have B_a := Lib.hid (hg.below _ Sg.out B12.out)
        clear B12 Xr0_12 Cr0_12 Xr1_12 Cr1_12 Xs_12 Cs_12 Xx_12 Cx_12 Xy_12 Cy_12 Xg_12 Cg_12 Os_12 Og_12
        have Og_a := Lib.hid ho
        have Mg := Lib.hid hm
        clear ho hg hm
        have Xr0_13 := Xr0_a
        have Cr0_13 := Xr0_a.cell
        have Xr1_13 := Xr1_a
        have Cr1_13 := Xr1_a.cell
        have Xs_13 := Xs_a
        have Cs_13 := Xs_a.cell
        have Xx_13 := Xx_a
        have Cx_13 := Xx_a.cell
        have Xy_13 := Xy_a
        have Cy_13 := Xy_a.cell
        have Xg_13 := Xg_a
        have Cg_13 := Xg_a.cell
        have Os_13 := Os_a
        have Og_13 := Og_a
        have B13 := B_a
        clear B_a Xr0_a Xr1_a Xs_a Xx_a Xy_a Xg_a Os_a Og_a
        obtain ⟨W13, hW⟩ : ∃ W, W = w13' := ⟨_, rfl⟩
        subst hW
        rw [← HA.out]
        go_wp2_with fail
        refine (heldRough_at W13 _ (joinA z0 z1) rsg 1 Mg.out LA.out.len LA.out.row LA.out.all (by omega) (by omega) Og_13.out.rd).mono ?_
        rintro e w14' ⟨rfl, hb⟩
        have Xr0_a := boxed_below Xr0_13 hb
        have Xr1_a := boxed_below Xr1_13 hb
        have Xs_a := boxed_below Xs_13 hb
        have Xx_a := boxed_below Xx_13 hb
        have Xy_a := boxed_below Xy_13 hb
        have Xg_a := boxed_below Xg_13 hb
        have Os_a := Lib.hid (Os_13.out.below hb)
        have Og_a := Lib.hid (Og_13.out.below hb)
        have B_a := Lib.hid (B13.out.trans (hb.mono B13.out.size))
        clear B13 Xr0_13 Cr0_13 Xr1_13 Cr1_13 Xs_13 Cs_13 Xx_13 Cx_13 Xy_13 Cy_13 Xg_13 Cg_13 Os_13 Og_13
        clear hb
        have Xr0_14 := Xr0_a
        have Cr0_14 := Xr0_a.cell
        have Xr1_14 := Xr1_a
        have Cr1_14 := Xr1_a.cell
        have Xs_14 := Xs_a
        have Cs_14 := Xs_a.cell
        have Xx_14 := Xx_a
        have Cx_14 := Xx_a.cell
        have Xy_14 := Xy_a
        have Cy_14 := Xy_a.cell
        have Xg_14 := Xg_a
        have Cg_14 := Xg_a.cell
        have Os_14 := Os_a
        have Og_14 := Og_a
        have B14 := B_a
        clear B_a Xr0_a Xr1_a Xs_a Xx_a Xy_a Xg_a Os_a Og_a
        obtain ⟨W14, hW⟩ : ∃ W, W = w14' := ⟨_, rfl⟩
        subst hW
        rw [← HA.out]
        have q0' : ¬ (1 : Int) + (hA : Int) < 0 := by omega
        go_upto_region 31 with fail
        go_cut [15, 16] (fun sp sb wx => MadeRR W14 (joinA z0 z1) (joinB z0 z1) sp sb wx)
        case first =>
          have A0_ := Lib.hid (A0.out.below B14.out (Nat.le_refl _))
          have A1_ := Lib.hid (A1.out.below B14.out (Nat.le_refl _))
          have D0 := Lib.hid ((Below.refl W14.heap.size W14).drew)
          have E0 := Lib.hid (D0.out.alloc D0.out.size (.cells #[.slice none 0 0] 24))
          have XE0 : Hid (Go.Boxed (W14.drew.alloc (.cells #[.slice none 0 0] 24)) W14.heap.size 24 (.slice none 0 0)) := Lib.hid (Go.Boxed.new W14.drew _ _)
          have lr0 := Xr0_14.lt
          have lr1 := Xr1_14.lt
          have CR0' : W14.drew.cell? _ = some _ := Cr0_14
          have CR0 : W14.drew.cell? _ = some _ := Cr1_14
          clear Xr0_14 Xr1_14 Xs_14 Xx_14 Xy_14 Xg_14 Cs_14 Cx_14 Cy_14 Cg_14 Os_14 Og_14 B14
          go_region_with (first
            | (go_at_call_of 21 y0; refine (toRough_own _ (.slice y0 n0 e0) z0 ?_ LZ0.out.len LZ0.out.row).mono ?_; (first | exact A0_.out.below E0.out (Nat.le_refl _) | exact A0_.out.below D0.out (Nat.le_refl _)); rintro e wa ⟨ga, rfl, ho, hb⟩; rw [← Z0.out] at ho ⊢; (first | (have Da := Lib.hid (E0.out.trans (hb.mono E0.out.size))) | (have Da := Lib.hid (D0.out.trans (hb.mono D0.out.size)))); have Ea := Lib.hid (Da.out.alloc Da.out.size (.cells #[.slice none 0 0] 24)); have XEa := Lib.hid (Go.Boxed.new wa 24 (.slice none 0 0)); (first | (have XP := Lib.hid (boxed_below XE0.out hb)) | (have XP' := Lib.hid (boxed_below XP.out hb)) | skip); have Oa := Lib.hid ho; have OEa := Lib.hid (ho.alloc (.cells #[.slice none 0 0] 24)); have CRa := cell_later (show Below _ _ wa from Da.out) (show W14.cell? _ = some _ from Cr1_14); have lra := Nat.lt_of_lt_of_le lr1 Da.out.size; clear ho hb)
            | (go_at_call_of 21 y1; refine (toRough_own _ (.slice y1 n1 e1) z1 ?_ LZ1.out.len LZ1.out.row).mono ?_; (first | exact A1_.out.below Ea.out (Nat.le_refl _) | exact A1_.out.below Da.out (Nat.le_refl _)); rintro e wb ⟨gb, rfl, ho, hb⟩; rw [← Z1.out] at ho ⊢; (first | (have Db := Lib.hid (Ea.out.trans (hb.mono Ea.out.size))) | (have Db := Lib.hid (Da.out.trans (hb.mono Da.out.size)))); have Eb := Lib.hid (Db.out.alloc Db.out.size (.cells #[.slice none 0 0] 24)); have XEb := Lib.hid (Go.Boxed.new wb 24 (.slice none 0 0)); (first | (have XP := Lib.hid (boxed_below XEa.out hb)) | (have XP' := Lib.hid (boxed_below XP.out hb)) | skip); have Ob := Lib.hid ho; have OEb := Lib.hid (ho.alloc (.cells #[.slice none 0 0] 24)); (first | (have Oa' := Lib.hid (Oa.out.below hb)) | (have Oa' := Lib.hid (OEa.out.below hb))); have OEa' := Lib.hid (Oa'.out.alloc (.cells #[.slice none 0 0] 24)); clear ho hb)
            | (go_at_call 30; refine (imJoinRR _ (.slice (some ⟨ga, 0, none⟩) n0 n0) (.slice (some ⟨gb, 0, none⟩) n1 n1) z0 z1 ?_ ?_).mono ?_; (first | exact Oa'.out.rd | exact OEa'.out.rd); (first | exact Ob.out.rd | exact OEb.out.rd); rintro e wc ⟨xs, cs, rfl, ho, hb⟩; (first | (have Dc := Lib.hid (Eb.out.trans (hb.mono Eb.out.size))) | (have Dc := Lib.hid (Db.out.trans (hb.mono Db.out.size)))); (first | (have XP2 := Lib.hid (boxed_below XEb.out hb)) | (have XP2 := Lib.hid (boxed_below XP'.out hb)) | (have XP2 := Lib.hid (boxed_below XP.out hb)) | skip); (try (have cp := XP2.out.cell; have fp := XP2.out.frozen)); have Oc := Lib.hid ho; clear ho hb))
          all_goals (go_wp2_with fail; go_meet)
          all_goals first
            | exact MadeRR.last Dc.out Db.out.size Oc.out
            | exact MadeRR.stored Dc.out (by first | exact Db.out.size | exact Eb.out.size) Oc.out (by first | exact Nat.le_refl _ | exact Da.out.size | exact Db.out.size) XP2.out
        case rest =>
          obtain ⟨ph, xh, ch, Lh, Th, rfl, rfl, hb, hL, ho, hX⟩ := hcut
          obtain ⟨nh, hn⟩ : ∃ n, n = (joinA z0 z1).length := ⟨_, rfl⟩
          rw [← hn] at ho hX
          have Nh := Lib.hid hn
          clear hn
          have Tsh := Lib.hid (Nat.le_trans Os_14.out.top hL)
          have Tgh := Lib.hid (Nat.le_trans Og_14.out.top hL)
          have Sh := Lib.hid (Nat.le_trans B14.out.size hL)
          have Xr0_a := boxed_below Xr0_14 hb
          have Xr1_a := boxed_below Xr1_14 hb
          have Xs_a := boxed_below Xs_14 hb
          have Xx_a := boxed_below Xx_14 hb
          have Xy_a := boxed_below Xy_14 hb
          have Xg_a := boxed_below Xg_14 hb
          have Os_a := Lib.hid (Os_14.out.below hb)
          have Og_a := Lib.hid (Og_14.out.below hb)
          have B_a := Lib.hid (B14.out.trans (hb.mono B14.out.size))
          clear B14 Xr0_14 Cr0_14 Xr1_14 Cr1_14 Xs_14 Cs_14 Xx_14 Cx_14 Xy_14 Cy_14 Xg_14 Cg_14 Os_14 Og_14
          have Oh_a := Lib.hid ho
          have Xh_a := hX
          clear ho hb hX hL
          have Xr0_15 := Xr0_a
          have Cr0_15 := Xr0_a.cell
          have Xr1_15 := Xr1_a
          have Cr1_15 := Xr1_a.cell
          have Xs_15 := Xs_a
          have Cs_15 := Xs_a.cell
          have Xx_15 := Xx_a
          have Cx_15 := Xx_a.cell
          have Xy_15 := Xy_a
          have Cy_15 := Xy_a.cell
          have Xg_15 := Xg_a
          have Cg_15 := Xg_a.cell
          have Xh_15 := Xh_a
          have Ch_15 := Xh_a.cell
          have Os_15 := Os_a
          have Og_15 := Og_a
          have Oh_15 := Oh_a
          have B15 := B_a
          clear B_a Xr0_a Xr1_a Xs_a Xx_a Xy_a Xg_a Xh_a Os_a Og_a Oh_a
          obtain ⟨W15, hW⟩ : ∃ W, W = wc := ⟨_, rfl⟩
          subst hW
          rw [← OK.out]
          go_wp2_with fail
          refine (eqRough_at W15 _ _ (joinA z0 z1) (joinA z0 z1) Oh_15.out.rd Os_15.out.rd LA.out.lenM LA.out.rowM).mono ?_
          rintro e w16' ⟨rfl, hb⟩
          rw [decide_eq_true rfl]
          have Xr0_a := boxed_below Xr0_15 hb
          have Xr1_a := boxed_below Xr1_15 hb
          have Xs_a := boxed_below Xs_15 hb
          have Xx_a := boxed_below Xx_15 hb
          have Xy_a := boxed_below Xy_15 hb
          have Xg_a := boxed_below Xg_15 hb
          have Xh_a := boxed_below Xh_15 hb
          have Os_a := Lib.hid (Os_15.out.below hb)
          have Og_a := Lib.hid (Og_15.out.below hb)
          have Oh_a := Lib.hid (Oh_15.out.below hb)
          have B_a := Lib.hid (B15.out.trans (hb.mono B15.out.size))
          clear B15 Xr0_15 Cr0_15 Xr1_15 Cr1_15 Xs_15 Cs_15 Xx_15 Cx_15 Xy_15 Cy_15 Xg_15 Cg_15 Xh_15 Ch_15 Os_15 Og_15 Oh_15
          clear hb
          have Xr0_16 := Xr0_a
          have Cr0_16 := Xr0_a.cell
          have Xr1_16 := Xr1_a
          have Cr1_16 := Xr1_a.cell
          have Xs_16 := Xs_a
          have Cs_16 := Xs_a.cell
          have Xx_16 := Xx_a
          have Cx_16 := Xx_a.cell
          have Xy_16 := Xy_a
          have Cy_16 := Xy_a.cell
          have Xg_16 := Xg_a
          have Cg_16 := Xg_a.cell
          have Xh_16 := Xh_a
          have Ch_16 := Xh_a.cell
          have Os_16 := Os_a
          have Og_16 := Og_a
          have Oh_16 := Oh_a
          have B16 := B_a
          clear B_a Xr0_a Xr1_a Xs_a Xx_a Xy_a Xg_a Xh_a Os_a Og_a Oh_a
          obtain ⟨W16, hW⟩ : ∃ W, W = w16' := ⟨_, rfl⟩
          subst hW
          go_wp2_with fail
          refine (heldRough_at W16 _ (joinA z0 z1) rsg 1 Mg.out LA.out.len LA.out.row LA.out.all (by omega) (by omega) Og_16.out.rd).mono ?_
          rintro e w17' ⟨rfl, hb⟩
          have Xr0_a := boxed_below Xr0_16 hb
          have Xr1_a := boxed_below Xr1_16 hb
          have Xs_a := boxed_below Xs_16 hb
          have Xx_a := boxed_below Xx_16 hb
          have Xy_a := boxed_below Xy_16 hb
          have Xg_a := boxed_below Xg_16 hb
          have Xh_a := boxed_below Xh_16 hb
          have Os_a := Lib.hid (Os_16.out.below hb)
          have Og_a := Lib.hid (Og_16.out.below hb)
          have Oh_a := Lib.hid (Oh_16.out.below hb)
          have B_a := Lib.hid (B16.out.trans (hb.mono B16.out.size))
          clear B16 Xr0_16 Cr0_16 Xr1_16 Cr1_16 Xs_16 Cs_16 Xx_16 Cx_16 Xy_16 Cy_16 Xg_16 Cg_16 Xh_16 Ch_16 Os_16 Og_16 Oh_16
          clear hb
          have Xr0_17 := Xr0_a
          have Cr0_17 := Xr0_a.cell
          have Xr1_17 := Xr1_a
          have Cr1_17 := Xr1_a.cell
          have Xs_17 := Xs_a
          have Cs_17 := Xs_a.cell
          have Xx_17 := Xx_a
          have Cx_17 := Xx_a.cell
          have Xy_17 := Xy_a
          have Cy_17 := Xy_a.cell
          have Xg_17 := Xg_a
          have Cg_17 := Xg_a.cell
          have Xh_17 := Xh_a
          have Ch_17 := Xh_a.cell
          have Os_17 := Os_a
          have Og_17 := Og_a
          have Oh_17 := Oh_a
          have B17 := B_a
          clear B_a Xr0_a Xr1_a Xs_a Xx_a Xy_a Xg_a Xh_a Os_a Og_a Oh_a
          obtain ⟨W17, hW⟩ : ∃ W, W = w17' := ⟨_, rfl⟩
          subst hW
          rw [← HA.out]
          go_wp2
          go_ret
          exact ⟨rfl, B17.out⟩

-- the row's step
set_option maxRecDepth 100000 in
theorem lifted (os : Os) (started : os.Started) (H : Type) (enc : TypeId × Value → H) :
    ReturnsInHanded {} Try.checked os 8 .any (Rows.fnExactRoughJoinSpec.pre6 enc Try.prog Try.f8 Rows.fnExactRoughJoinRow.domain false) (Rows.fnExactRoughJoinSpec.post enc Try.prog Try.f8 false true false false) := by
  refine returnsInHanded_of_change (C := Try.checked) own started (by kernel_rfl) Try.func8
    (ChangeSpec.witness6 (enc := enc) (C := Try.checked) false ⟨#[], #[.agg #[.slice none 0 0], .agg #[.slice none 0 0]], []⟩ 8 (by kernel_rfl) (by kernel_rfl) (by kernel_rfl) (by kernel_rfl)) ?_
  intro W base args ds gs before hval0 hW hcnd _
  have hval : ∀ (j : Nat) t v, Try.f8.params[j]? = some t → args[j]? = some v → Value.okWide Try.prog W .any base t v := hval0
  have hW' := hW
  obtain ⟨p, q, hA0, hV, rfl, hfz, hnd⟩ := hW
  have hA : DataW.TrodAll enc Try.prog W 0 (fun _ => true) true Try.f8.params.toList args.toList ds p := hA0
  rw [Try.params8 ] at hA hval
  obtain ⟨v0, vs0, d0, ds0, p0, q0, hargs, rfl, rfl, h0, r0⟩ := trodAll_cons hA
  obtain ⟨v1, vs1, d1, ds1, p1, q1, rfl, rfl, rfl, h1, r1⟩ := trodAll_cons r0
  obtain ⟨rfl, rfl, rfl⟩ := trodAll_nil r1
  obtain rfl : args = #[v0, v1] := by cases args; simp_all
  obtain ⟨rfl, rfl⟩ := trodVars_none hV
  have k0 := h0
  have lt0 : ∀ x ∈ p0, x.block < W.heap.size := by obtain ⟨m, hm⟩ := k0; exact DataW.trod_lt m _ _ _ hm
  obtain ⟨u0, z0, rfl, w0⟩ := open_rough (hval 0 29 v0 rfl rfl) h0
  have k1 := h1
  have lt1 : ∀ x ∈ p1, x.block < W.heap.size := by obtain ⟨m, hm⟩ := k1; exact DataW.trod_lt m _ _ _ hm
  obtain ⟨u1, z1, rfl, w1⟩ := open_rough (hval 1 29 v1 rfl rfl) h1
  clear hA0 hval0
  refine (walk u0 z0 u1 z1 W w0 w1).mono fun e W' ⟨he, bel⟩ => ?_
  subst he
  exact ⟨_, rfl, _, _, _, [], _, [], hW', trodAll_mk1 (shut_bool Try.underlying4 _), (trodAll_cons_mk (Below.trod laidOut (by kernel_rfl) (of_decide_eq_true (by kernel_rfl)) k0 bel lt0) (trodAll_cons_mk (Below.trod laidOut (by kernel_rfl) (of_decide_eq_true (by kernel_rfl)) k1 bel lt1) trodAll_mk0)), rfl, bel.frame _, fun h => by cases h⟩

theorem over : Rows.fnExactRoughJoinRow.holds Try.pinned (OpenSpec.ofChange Rows.fnExactRoughJoinSpec) :=
  OpenClaim.holds_of_wide 8 Try.f8 rfl rfl rfl rfl rfl rfl rfl ⟨rfl, rfl, rfl, rfl, rfl⟩ rfl rfl rfl rfl rfl (by kernel_rfl) Try.func8 (by kernel_rfl)
    (of_decide_eq_true (by kernel_rfl)) (by unfold Func.isWrapper; first | (rw [if_pos (by decide +kernel)]; kernel_rfl) | (rw [if_neg (by decide +kernel)]; exact ⟨rfl, rfl⟩))
    (fun os started H enc _ => lifted os started H enc)

theorem proved : Rows.FnExactRoughJoinSaid := over
#print axioms proved
end Go.Proofs.Yteopnbjiffncbab.fnExactRoughJoin
