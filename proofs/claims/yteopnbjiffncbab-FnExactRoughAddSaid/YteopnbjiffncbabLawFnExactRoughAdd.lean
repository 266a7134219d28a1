/-
  The statement of the law FnExactRoughAdd: at every input the call returns true and leaves what it was given as it was.
-/
import Derived.Test.YteopnbjiffncbabExRR
import Derived.Deep.RegionWith
import Derived.Deep.DeepCutAuto
import Derived.Test.YteopnbjiffncbabRows
import Derived.WalkKit
import Derived.ProofKit
import Derived.OpenShut
import Derived.ShutString
import Derived.ChangeOld
import Derived.Below
namespace Go.Proofs.Yteopnbjiffncbab.fnExactRoughAdd
open Go.ChangeShapes Go.WideShapes Go.ChangeAt Go.RowKit
open Go.ChangeMaps (open_string shut_string)
set_option linter.unusedVariables false

theorem own : ownKnob Try.prog.godebug = none := by kernel_rfl
theorem laidOut : laidOutB Try.prog = true := by kernel_rfl

set_option maxRecDepth 20000 in
set_option maxRecDepth 4000 in
set_option maxHeartbeats 16000000 in
theorem walk (v0 : Value) (z0 : List (List Int)) (a1 : Int) (a2 : Int) (w : World) (w0 : ArgR w v0 z0) (w1 : (Lit.int .i64 a1).wf = true) (w2 : (Lit.int .i64 a2).wf = true) :
    Calls Try.prog 5 #[.agg #[v0], .int .i64 a1, .int .i64 a2] w fun e w' => e = .returned (.bool true) ∧ Below w.heap.size w w' := by
  obtain ⟨y0, e0, hx0⟩ := w0.form
  have A0 := Lib.hid w0
  obtain ⟨n0, hn0⟩ : ∃ n, n = z0.length := ⟨_, rfl⟩
  have Z0 := Lib.hid hn0
  rw [← hn0] at hx0
  obtain ⟨W0, hW⟩ : ∃ W, W = (w.alloc (.cells #[v0] 29)) := ⟨_, rfl⟩
  have hA : Below w.heap.size w W0 := by rw [hW]; exact ((Below.refl _ _).alloc (Nat.le_refl _) _)
  have Xr0_0 : Go.Boxed W0 (w.heap.size) 29 v0 := by rw [hW]; exact (Go.Boxed.new _ _ _)
  have B0 := Lib.hid hA
  clear hA
  clear w0 hn0
  subst hx0
  obtain ⟨q0, hq0⟩ : ∃ q, q = z0.length + ahead z0 z0.length := ⟨_, rfl⟩
  have Q0 := Lib.hid hq0
  have KS := szRough_at W0 _ z0 (1048576) (A0.out.below B0.out (Nat.le_refl _)) (by omega) (by omega)
  rw [← hq0] at KS
  clear hq0
  by_cases hle0 : (1048576 : Int) < q0
  · rw [szV_out hle0] at KS
    go_enter Try.func5, Try.ntmps5
    go_wp2_with fail
    rw [← hW]
    refine KS.mono ?_
    rintro e w1 ⟨rfl, hb⟩
    go_wp2
    go_ret
    exact ⟨rfl, B0.out.trans (hb.mono B0.out.size)⟩
  rw [szV_in (by omega)] at KS
  have q01 : q0 ≤ 1048576 := by omega
  have nz0 : ¬ (1048576 : Int) - (q0 : Int) < 0 := by omega
  have LZ0 : Hid (Lens z0) := Lib.hid (Lens.arg (by rw [← Q0.out]; exact q01))
  obtain ⟨h0, hh⟩ : ∃ h, h = ahead z0 z0.length := ⟨_, rfl⟩
  have H0 := Lib.hid hh
  have hle0' : h0 ≤ 1048576 := by have := Q0.out; omega
  clear hh
  go_enter Try.func5, Try.ntmps5
  go_wp2_with fail
  rw [← hW]
  clear hW
  have Cr0_0 := Xr0_0.cell
  refine (KS).mono ?_
  rintro e w1' ⟨rfl, hb⟩
  have Xr0_a := boxed_below Xr0_0 hb
  have B_a := Lib.hid (B0.out.trans (hb.mono B0.out.size))
  clear B0 Xr0_0 Cr0_0 
  clear hb
  have Xr0_1 := Xr0_a
  have Cr0_1 := Xr0_a.cell
  have B1 := B_a
  clear B_a Xr0_a 
  obtain ⟨W1, hW⟩ : ∃ W, W = w1' := ⟨_, rfl⟩
  subst hW
  clear KS hle0
  have LA := Lib.hid (Lens.small (addA_len z0 a1 a2))
  obtain ⟨hA, hh⟩ : ∃ h, h = ahead (addA z0 a1 a2) (addA z0 a1 a2).length := ⟨_, rfl⟩
  have HA := Lib.hid hh
  have hA' : hA ≤ 100000000 := by rw [hh]; exact LA.out.all
  clear hh
  go_wp2_with fail
  refine (toRough_own W1 _ z0 (A0.out.below B1.out (Nat.le_refl _)) LZ0.out.len LZ0.out.row).mono ?_
  rintro e w2' ⟨gp, rfl, ho, hb⟩
  rw [← Z0.out] at ho ⊢
  have Sp := Lib.hid B1.out.size
  have Xr0_a := boxed_below Xr0_1 hb
  have B_a := Lib.hid (B1.out.trans (hb.mono B1.out.size))
  clear B1 Xr0_1 Cr0_1 
  have Op_a := Lib.hid ho
  clear ho hb
  have Xr0_2 := Xr0_a
  have Cr0_2 := Xr0_a.cell
  have Op_2 := Op_a
  have B2 := B_a
  clear B_a Xr0_a Op_a
  obtain ⟨W2, hW⟩ : ∃ W, W = w2' := ⟨_, rfl⟩
  subst hW
  go_wp2_with fail
  refine (spAddRR W2 _ z0 a1 a2 Op_2.out.rd).mono ?_
  rintro e w3' ⟨xs, cs, rfl, ho, hb⟩
  obtain ⟨ns, hn⟩ : ∃ n, n = (addA z0 a1 a2).length := ⟨_, rfl⟩
  rw [← hn] at ho ⊢
  have Ns := Lib.hid hn
  have Tps := Lib.hid Op_2.out.top
  have Ss := Lib.hid B2.out.size
  have Xr0_a := boxed_below Xr0_2 hb
  have Op_a := Lib.hid (Op_2.out.below hb)
  have B_a := Lib.hid (B2.out.trans (hb.mono B2.out.size))
  clear B2 Xr0_2 Cr0_2 Op_2
  have Os_a := Lib.hid ho
  clear ho hb hn
  have lr0 := Xr0_a.lt
  have cr0_a := Xr0_a.cell
  obtain ⟨W3, hW⟩ : ∃ W, W = (w3').alloc (.cells #[.slice xs ns cs] 24) := ⟨_, rfl⟩
  have Xr0_3 := (Xr0_a.alloc (.cells #[.slice xs ns cs] 24))
  rw [← hW] at Xr0_3
  have Op_3 := Lib.hid (Op_a.out.alloc (.cells #[.slice xs ns cs] 24))
  rw [← hW] at Op_3
  have Os_3 := Lib.hid (Os_a.out.alloc (.cells #[.slice xs ns cs] 24))
  rw [← hW] at Os_3
  have B3 : Hid (Below w.heap.size w W3) := by rw [hW]; exact B_a.out.alloc B_a.out.size _
  have Xs_3 : Go.Boxed W3 w3'.heap.size 24 (.slice xs ns cs) := by rw [hW]; exact Go.Boxed.new _ _ _
  clear B_a Op_a Os_a
  go_wp2_with fail
  rw [← hW]
  clear hW Xr0_a lr0 cr0_a
  have Cr0_3 := Xr0_3.cell
  have Cs_3 := Xs_3.cell
  clear Op_3
  refine (toRough_own W3 _ z0 (A0.out.below B3.out (Nat.le_refl _)) LZ0.out.len LZ0.out.row).mono ?_
  rintro e w4' ⟨gx, rfl, ho, hb⟩
  rw [← Z0.out] at ho ⊢
  have Tsx := Lib.hid Os_3.out.top
  have Sx := Lib.hid B3.out.size
  have Xr0_a := boxed_below Xr0_3 hb
  have Xs_a := boxed_below Xs_3 hb
  have Os_a := Lib.hid (Os_3.out.below hb)
  have B_a := Lib.hid (B3.out.trans (hb.mono B3.out.size))
  clear B3 Xr0_3 Cr0_3 Xs_3 Cs_3 Os_3
  have Ox_a := Lib.hid ho
  clear ho hb
  have lr0 := Xr0_a.lt
  have cr0_a := Xr0_a.cell
  have ls := Xs_a.lt
  have cs_a := Xs_a.cell
  obtain ⟨W4, hW⟩ : ∃ W, W = (w4').alloc (.cells #[.slice (some ⟨gx, 0, none⟩) n0 n0] 24) := ⟨_, rfl⟩
  have Xr0_4 := (Xr0_a.alloc (.cells #[.slice (some ⟨gx, 0, none⟩) n0 n0] 24))
  rw [← hW] at Xr0_4
  have Xs_4 := (Xs_a.alloc (.cells #[.slice (some ⟨gx, 0, none⟩) n0 n0] 24))
  rw [← hW] at Xs_4
  have Os_4 := Lib.hid (Os_a.out.alloc (.cells #[.slice (some ⟨gx, 0, none⟩) n0 n0] 24))
  rw [← hW] at Os_4
  have Ox_4 := Lib.hid (Ox_a.out.alloc (.cells #[.slice (some ⟨gx, 0, none⟩) n0 n0] 24))
  rw [← hW] at Ox_4
  have B4 : Hid (Below w.heap.size w W4) := by rw [hW]; exact B_a.out.alloc B_a.out.size _
  have Xx_4 : Go.Boxed W4 w4'.heap.size 24 (.slice (some ⟨gx, 0, none⟩) n0 n0) := by rw [hW]; exact Go.Boxed.new _ _ _
  clear B_a Os_a Ox_a
  go_wp2_with fail
  rw [← hW]
  clear hW Xr0_a lr0 cr0_a Xs_a ls cs_a
  have Cr0_4 := Xr0_4.cell
  have Cs_4 := Xs_4.cell
  have Cx_4 := Xx_4.cell
  refine (imAddRR W4 _ z0 a1 a2 Ox_4.out.rd).mono ?_
  rintro e w5' ⟨xg, cg, rfl, ho, hb⟩
  obtain ⟨ng, hn⟩ : ∃ n, n = (addA z0 a1 a2).length := ⟨_, rfl⟩
  rw [← hn] at ho ⊢
  have Ng := Lib.hid hn
  have Tsg := Lib.hid Os_4.out.top
  have Txg := Lib.hid Ox_4.out.top
  have Sg := Lib.hid B4.out.size
  have Xr0_a := boxed_below Xr0_4 hb
  have Xs_a := boxed_below Xs_4 hb
  have Xx_a := boxed_below Xx_4 hb
  have Os_a := Lib.hid (Os_4.out.below hb)
  have Ox_a := Lib.hid (Ox_4.out.below hb)
  have B_a := Lib.hid (B4.out.trans (hb.mono B4.out.size))
  clear B4 Xr0_4 Cr0_4 Xs_4 Cs_4 Xx_4 Cx_4 Os_4 Ox_4
  have Og_a := Lib.hid ho
  clear ho hb hn
  have lr0 := Xr0_a.lt
  have cr0_a := Xr0_a.cell
  have ls := Xs_a.lt
  have cs_a := Xs_a.cell
  have lx := Xx_a.lt
  have cx_a := Xx_a.cell
  obtain ⟨W5, hW⟩ : ∃ W, W = (w5').alloc (.cells #[.slice xg ng cg] 24) := ⟨_, rfl⟩
  have Xr0_5 := (Xr0_a.alloc (.cells #[.slice xg ng cg] 24))
  rw [← hW] at Xr0_5
  have Xs_5 := (Xs_a.alloc (.cells #[.slice xg ng cg] 24))
  rw [← hW] at Xs_5
  have Xx_5 := (Xx_a.alloc (.cells #[.slice xg ng cg] 24))
  rw [← hW] at Xx_5
  have Os_5 := Lib.hid (Os_a.out.alloc (.cells #[.slice xg ng cg] 24))
  rw [← hW] at Os_5
  have Ox_5 := Lib.hid (Ox_a.out.alloc (.cells #[.slice xg ng cg] 24))
  rw [← hW] at Ox_5
  have Og_5 := Lib.hid (Og_a.out.alloc (.cells #[.slice xg ng cg] 24))
  rw [← hW] at Og_5
  have B5 : Hid (Below w.heap.size w W5) := by rw [hW]; exact B_a.out.alloc B_a.out.size _
  have Xg_5 : Go.Boxed W5 w5'.heap.size 24 (.slice xg ng cg) := by rw [hW]; exact Go.Boxed.new _ _ _
  clear B_a Os_a Ox_a Og_a
  obtain ⟨ok, hok⟩ : ∃ b, b = addB z0 a1 a2 := ⟨_, rfl⟩
  have OK := Lib.hid hok
  rw [← hok]
  clear hok
  go_wp2_with fail
  rw [← hW]
  clear hW Xr0_a lr0 cr0_a Xs_a ls cs_a Xx_a lx cx_a
  have Cr0_5 := Xr0_5.cell
  have Cs_5 := Xs_5.cell
  have Cx_5 := Xx_5.cell
  have Cg_5 := Xg_5.cell
  refine (eqRough_at W5 _ _ (addA z0 a1 a2) (addA z0 a1 a2) Og_5.out.rd Os_5.out.rd LA.out.lenM LA.out.rowM).mono ?_
  rintro e w6' ⟨rfl, hb⟩
  rw [decide_eq_true rfl]
  have Xr0_a := boxed_below Xr0_5 hb
  have Xs_a := boxed_below Xs_5 hb
  have Xx_a := boxed_below Xx_5 hb
  have Xg_a := boxed_below Xg_5 hb
  have Os_a := Lib.hid (Os_5.out.below hb)
  have Ox_a := Lib.hid (Ox_5.out.below hb)
  have Og_a := Lib.hid (Og_5.out.below hb)
  have B_a := Lib.hid (B5.out.trans (hb.mono B5.out.size))
  clear B5 Xr0_5 Cr0_5 Xs_5 Cs_5 Xx_5 Cx_5 Xg_5 Cg_5 Os_5 Ox_5 Og_5
  clear hb
  have Xr0_6 := Xr0_a
  have Cr0_6 := Xr0_a.cell
  have Xs_6 := Xs_a
  have Cs_6 := Xs_a.cell
  have Xx_6 := Xx_a
  have Cx_6 := Xx_a.cell
  have Xg_6 := Xg_a
  have Cg_6 := Xg_a.cell
  have Os_6 := Os_a
  have Ox_6 := Ox_a
  have Og_6 := Og_a
  have B6 := B_a
  clear B_a Xr0_a Xs_a Xx_a Xg_a Os_a Ox_a Og_a
  obtain ⟨W6, hW⟩ : ∃ W, W = w6' := ⟨_, rfl⟩
  subst hW
  have ek : (ok != ok) = false := by simp
  go_upto_region 10 with fail
  go_cut [53] (fun c wx => c = .bool false ∧ Below W6.heap.size W6 wx)
  case first =>
    have KT : Hid (Calls Try.prog 21 #[.agg #[.slice y0 n0 e0]] W6.drew fun e w' => ∃ g, e = .returned (.agg #[.slice (some ⟨g, 0, none⟩) n0 n0]) ∧ Rws w' (.slice (some ⟨g, 0, none⟩) n0 n0) z0 ∧ Below W6.drew.heap.size W6.drew w') := by
      have h := toRough_own W6.drew (.slice y0 n0 e0) z0 (A0.out.below (Below.drew B6.out) (Nat.le_refl _)) LZ0.out.len LZ0.out.row
      rw [← Z0.out] at h
      exact h.mono fun e w' ⟨g, he, ho, hb⟩ => ⟨g, he, ho.rd, hb⟩
    have RX := Lib.hid (show Rws W6.drew _ z0 from Ox_6.out.rd)
    clear Xr0_6 Xs_6 Xx_6 Xg_6 Os_6 Ox_6 Og_6 B6
    go_region_with (first
      | (go_at_call 21; refine KT.out.mono ?_; rintro e w7 ⟨g7, rfl, ho7, hb7⟩; have cx7 := cell_later hb7 (show W6.drew.cell? _ = some _ from Cx_6); have KE := Lib.hid (eqRough_at w7 _ _ z0 z0 (Rws.below RX.out hb7 (Nat.le_refl _)) ho7 LZ0.out.lenM LZ0.out.rowM); rw [decide_eq_true rfl] at KE; clear ho7)
      | (go_at_call 16; refine KE.out.mono ?_; rintro e w8 ⟨rfl, hb8⟩; have hb : Below W6.heap.size W6 w8 := (Below.drew (Below.refl _ _)).trans (hb7.trans (hb8.mono hb7.size)); clear hb7 hb8))
    all_goals (go_wp2_with fail; go_meet; exact ⟨rfl, hb⟩)
  case rest =>
    obtain ⟨rfl, hb⟩ := hcut
    have Xr0_a := boxed_below Xr0_6 hb
    have Xs_a := boxed_below Xs_6 hb
    have Xx_a := boxed_below Xx_6 hb
    have Xg_a := boxed_below Xg_6 hb
    have Os_a := Lib.hid (Os_6.out.below hb)
    have Ox_a := Lib.hid (Ox_6.out.below hb)
    have Og_a := Lib.hid (Og_6.out.below hb)
    have B_a := Lib.hid (B6.out.trans (hb.mono B6.out.size))
    clear B6 Xr0_6 Cr0_6 Xs_6 Cs_6 Xx_6 Cx_6 Xg_6 Cg_6 Os_6 Ox_6 Og_6
    clear hb
    have Xr0_7 := Xr0_a
    have Cr0_7 := Xr0_a.cell
    have Xs_7 := Xs_a
    have Cs_7 := Xs_a.cell
    have Xx_7 := Xx_a
    have Cx_7 := Xx_a.cell
    have Xg_7 := Xg_a
    have Cg_7 := Xg_a.cell
    have Os_7 := Os_a
    have Ox_7 := Ox_a
    have Og_7 := Og_a
    have B7 := B_a
    clear B_a Xr0_a Xs_a Xx_a Xg_a Os_a Ox_a Og_a
    obtain ⟨W7, hW⟩ : ∃ W, W = wc := ⟨_, rfl⟩
    subst hW
    go_wp2_with fail
    refine (markRR_at W7 _ _ _ (z0) 1 LZ0.out.len LZ0.out.row LZ0.out.all (by omega) (by omega) Ox_7.out).mono ?_
    rintro e w8' ⟨rsx, rfl, hm, ho, hg⟩
    have Xr0_a := hg.box _ _ _ (by decide) Xr0_7
    have Xs_a := hg.box _ _ _ (by decide) Xs_7
    have Xx_a := hg.box _ _ _ (by decide) Xx_7
    have Xg_a := hg.box _ _ _ (by decide) Xg_7
    have Os_a := Lib.hid (hg.own _ _ _ _ (.inl Tsx.out) Os_7.out)
    have Og_a := Lib.hid (hg.own _ _ _ _ (.inr Txg.out) Og_7.out)
    have B_a := Lib.hid (hg.below _ Sx.out B7.out)
    clear B7 Xr0_7 Cr0_7 Xs_7 Cs_7 Xx_7 Cx_7 Xg_7 Cg_7 Os_7 Ox_7 Og_7
    have Ox_a := Lib.hid ho
    have Mx := Lib.hid hm
    clear ho hg hm
    have Xr0_8 := Xr0_a
    have Cr0_8 := Xr0_a.cell
    have Xs_8 := Xs_a
    have Cs_8 := Xs_a.cell
    have Xx_8 := Xx_a
    have Cx_8 := Xx_a.cell
    have Xg_8 := Xg_a
    have Cg_8 := Xg_a.cell
    have Os_8 := Os_a
    have Ox_8 := Ox_a
    have Og_8 := Og_a
    have B8 := B_a
    clear B_a Xr0_a Xs_a Xx_a Xg_a Os_a Ox_a Og_a
    obtain ⟨W8, hW⟩ : ∃ W, W = w8' := ⟨_, rfl⟩
    subst hW
    rw [← H0.out]
    have m0 : ¬ (1 : Int) + h0 < 0 := by omega
    clear Ox_8
    go_wp2_with fail
    refine (eqRough_at W8 _ _ (addA z0 a1 a2) (addA z0 a1 a2) Og_8.out.rd Os_8.out.rd LA.out.lenM LA.out.rowM).mono ?_
    rintro e w9' ⟨rfl, hb⟩
    rw [decide_eq_true rfl]
    have Xr0_a := boxed_below Xr0_8 hb
    have Xs_a := boxed_below Xs_8 hb
    have Xx_a := boxed_below Xx_8 hb
    have Xg_a := boxed_below Xg_8 hb
    have Os_a := Lib.hid (Os_8.out.below hb)
    have Og_a := Lib.hid (Og_8.out.below hb)
    have B_a := Lib.hid (B8.out.trans (hb.mono B8.out.size))
    clear B8 Xr0_8 Cr0_8 Xs_8 Cs_8 Xx_8 Cx_8 Xg_8 Cg_8 Os_8 Og_8
    clear hb
    have Xr0_9 := Xr0_a
    have Cr0_9 := Xr0_a.cell
    have Xs_9 := Xs_a
    have Cs_9 := Xs_a.cell
    have Xx_9 := Xx_a
    have Cx_9 := Xx_a.cell
    have Xg_9 := Xg_a
    have Cg_9 := Xg_a.cell
    have Os_9 := Os_a
    have Og_9 := Og_a
    have B9 := B_a
    clear B_a Xr0_a Xs_a Xx_a Xg_a Os_a Og_a
    obtain ⟨W9, hW⟩ : ∃ W, W = w9' := ⟨_, rfl⟩
    subst hW
    go_wp2_with fail
    refine (markRR_at W9 _ _ _ (addA z0 a1 a2) 1 LA.out.len LA.out.row LA.out.all (by omega) (by omega) Og_9.out).mono ?_
    rintro e w10' ⟨rsg, rfl, hm, ho, hg⟩
    have Xr0_a := hg.box _ _ _ (by decide) Xr0_9
    have Xs_a := hg.box _ _ _ (by decide) Xs_9
    have Xx_a := hg.box _ _ _ (by decide) Xx_9
    have Xg_a := hg.box _ _ _ (by decide) Xg_9
    have Os_a := Lib.hid (hg.own _ _ _ _ (.inl Tsg.out) Os_9.out)
    have B_a := Lib.hid (hg.below _ Sg.out B9.out)
    clear B9 Xr0_9 Cr0_9 Xs_9 Cs_9 Xx_9 Cx_9 Xg_9 Cg_9 Os_9 Og_9
    have Og_a := Lib.hid ho
    have Mg := Lib.hid hm
    clear ho hg hm
    have Xr0_10 := Xr0_a
    have Cr0_10 := Xr0_a.cell
    have Xs_10 := Xs_a
    have Cs_10 := Xs_a.cell
    have Xx_10 := Xx_a
    have Cx_10 := Xx_a.cell
    have Xg_10 := Xg_a
    have Cg_10 := Xg_a.cell
    have Os_10 := Os_a
    have Og_10 := Og_a
    have B10 := B_a
    clear B_a Xr0_a Xs_a Xx_a Xg_a Os_a Og_a
    obtain ⟨W10, hW⟩ : ∃ W, W = w10' := ⟨_, rfl⟩
    subst hW
    rw [← HA.out]
    go_wp2_with fail
    refine (heldRough_at W10 _ (addA z0 a1 a2) rsg 1 Mg.out LA.out.len LA.out.row LA.out.all (by omega) (by omega) Og_10.out.rd).mono ?_
    rintro e w11' ⟨rfl, hb⟩
    have Xr0_a := boxed_below Xr0_10 hb
    have Xs_a := boxed_below Xs_10 hb
    have Xx_a := boxed_below Xx_10 hb
    have Xg_a := boxed_below Xg_10 hb
    have Os_a := Lib.hid (Os_10.out.below hb)
    have Og_a := Lib.hid (Og_10.out.below hb)
    have B_a := Lib.hid (B10.out.trans (hb.mono B10.out.size))
    clear B10 Xr0_10 Cr0_10 Xs_10 Cs_10 Xx_10 Cx_10 Xg_10 Cg_10 Os_10 Og_10
    clear hb
    have Xr0_11 := Xr0_a
    have Cr0_11 := Xr0_a.cell
    have Xs_11 := Xs_a
    have Cs_11 := Xs_a.cell
    have Xx_11 := Xx_a
    have Cx_11 := Xx_a.cell
    have Xg_11 := Xg_a
    have Cg_11 := Xg_a.cell
    have Os_11 := Os_a
    have Og_11 := Og_a
    have B11 := B_a
    clear B_a Xr0_a Xs_a Xx_a Xg_a Os_a Og_a
    obtain ⟨W11, hW⟩ : ∃ W, W = w11' := ⟨_, rfl⟩
    subst hW
    rw [← HA.out]
    have q0 : ¬ (1 : Int) + (hA : Int) < 0 := by omega
    go_wp2_with fail
    refine (toRough_own W11 _ z0 (A0.out.below B11.out (Nat.le_refl _)) LZ0.out.len LZ0.out.row).mono ?_
    rintro e w12' ⟨gy, rfl, ho, hb⟩
    rw [← Z0.out] at ho ⊢
    have Tsy := Lib.hid Os_11.out.top
    have Tgy := Lib.hid Og_11.out.top
    have Sy := Lib.hid B11.out.size
    have Xr0_a := boxed_below Xr0_11 hb
    have Xs_a := boxed_below Xs_11 hb
    have Xx_a := boxed_below Xx_11 hb
    have Xg_a := boxed_below Xg_11 hb
    have Os_a := Lib.hid (Os_11.out.below hb)
    have Og_a := Lib.hid (Og_11.out.below hb)
    have B_a := Lib.hid (B11.out.trans (hb.mono B11.out.size))
    clear B11 Xr0_11 Cr0_11 Xs_11 Cs_11 Xx_11 Cx_11 Xg_11 Cg_11 Os_11 Og_11
    have Oy_a := Lib.hid ho
    clear ho hb
    have Xr0_12 := Xr0_a
    have Cr0_12 := Xr0_a.cell
    have Xs_12 := Xs_a
    have Cs_12 := Xs_a.cell
    have Xx_12 := Xx_a
    have Cx_12 := Xx_a.cell
    have Xg_12 := Xg_a
    have Cg_12 := Xg_a.cell
    have Os_12 := Os_a
    have Og_12 := Og_a
    have Oy_12 := Oy_a
    have B12 := B_a
    clear B_a Xr0_a Xs_a Xx_a Xg_a Os_a Og_a Oy_a
    obtain ⟨W12, hW⟩ : ∃ W, W = w12' := ⟨_, rfl⟩
    subst hW
    have KY := imAddRR W12 _ z0 a1 a2 Oy_12.out.rd
    rw [← OK.out] at KY
    go_wp2_with fail
    refine (KY).mono ?_
    rintro e w13' ⟨xh, ch, rfl, ho, hb⟩
    obtain ⟨nh, hn⟩ : ∃ n, n = (addA z0 a1 a2).length := ⟨_, rfl⟩
    rw [← hn] at ho ⊢
    have Nh := Lib.hid hn
    have Tsh := Lib.hid Os_12.out.top
    have Tgh := Lib.hid Og_12.out.top
    have Tyh := Lib.hid Oy_12.out.top
    have Sh := Lib.hid B12.out.size
    have Xr0_a := boxed_below Xr0_12 hb
    have Xs_a := boxed_below Xs_12 hb
    have Xx_a := boxed_below Xx_12 hb
    have Xg_a := boxed_below Xg_12 hb
    have Os_a := Lib.hid (Os_12.out.below hb)
    have Og_a := Lib.hid (Og_12.out.below hb)
    have Oy_a := Lib.hid (Oy_12.out.below hb)
    have B_a := Lib.hid (B12.out.trans (hb.mono B12.out.size))
    clear B12 Xr0_12 Cr0_12 Xs_12 Cs_12 Xx_12 Cx_12 Xg_12 Cg_12 Os_12 Og_12 Oy_12
    have Oh_a := Lib.hid ho
    clear ho hb hn
    have lr0 := Xr0_a.lt
    have cr0_a := Xr0_a.cell
    have ls := Xs_a.lt
    have cs_a := Xs_a.cell
    have lx := Xx_a.lt
    have cx_a := Xx_a.cell
    have lg := Xg_a.lt
    have cg_a := Xg_a.cell
    obtain ⟨W13, hW⟩ : ∃ W, W = (w13').alloc (.cells #[.slice xh nh ch] 24) := ⟨_, rfl⟩
    have Xr0_13 := (Xr0_a.alloc (.cells #[.slice xh nh ch] 24))
    rw [← hW] at Xr0_13
    have Xs_13 := (Xs_a.alloc (.cells #[.slice xh nh ch] 24))
    rw [← hW] at Xs_13
    have Xx_13 := (Xx_a.alloc (.cells #[.slice xh nh ch] 24))
    rw [← hW] at Xx_13
    have Xg_13 := (Xg_a.alloc (.cells #[.slice xh nh ch] 24))
    rw [← hW] at Xg_13
    have Os_13 := Lib.hid (Os_a.out.alloc (.cells #[.slice xh nh ch] 24))
    rw [← hW] at Os_13
    have Og_13 := Lib.hid (Og_a.out.alloc (.cells #[.slice xh nh ch] 24))
    rw [← hW] at Og_13
    have Oy_13 := Lib.hid (Oy_a.out.alloc (.cells #[.slice xh nh ch] 24))
    rw [← hW] at Oy_13
    have Oh_13 := Lib.hid (Oh_a.out.alloc (.cells #[.slice xh nh ch] 24))
    rw [← hW] at Oh_13
    have B13 : Hid (Below w.heap.size w W13) := by rw [hW]; exact B_a.out.alloc B_a.out.size _
    have Xh_13 : Go.Boxed W13 w13'.heap.size 24 (.slice xh nh ch) := by rw [hW]; exact Go.Boxed.new _ _ _
    clear B_a Os_a Og_a Oy_a Oh_a
    clear KY
    go_wp2_with fail
    rw [← hW]
    clear hW Xr0_a lr0 cr0_a Xs_a ls cs_a Xx_a lx cx_a Xg_a lg cg_a
    have Cr0_13 := Xr0_13.cell
    have Cs_13 := Xs_13.cell
    have Cx_13 := Xx_13.cell
    have Cg_13 := Xg_13.cell
    have Ch_13 := Xh_13.cell
    clear Oy_13
    refine (eqRough_at W13 _ _ (addA z0 a1 a2) (addA z0 a1 a2) Oh_13.out.rd Os_13.out.rd LA.out.lenM LA.out.rowM).mono ?_
    rintro e w14' ⟨rfl, hb⟩
    rw [decide_eq_true rfl]
    have Xr0_a := boxed_below Xr0_13 hb
    have Xs_a := boxed_below Xs_13 hb
    have Xx_a := boxed_below Xx_13 hb
    have Xg_a := boxed_below Xg_13 hb
    have Xh_a := boxed_below Xh_13 hb
    have Os_a := Lib.hid (Os_13.out.below hb)
    have Og_a := Lib.hid (Og_13.out.below hb)
    have Oh_a := Lib.hid (Oh_13.out.below hb)
    have B_a := Lib.hid (B13.out.trans (hb.mono B13.out.size))
    clear B13 Xr0_13 Cr0_13 Xs_13 Cs_13 Xx_13 Cx_13 Xg_13 Cg_13 Xh_13 Ch_13 Os_13 Og_13 Oh_13
    clear hb
    have Xr0_14 := Xr0_a
    have Cr0_14 := Xr0_a.cell
    have Xs_14 := Xs_a
    have Cs_14 := Xs_a.cell
    have Xx_14 := Xx_a
    have Cx_14 := Xx_a.cell
    have Xg_14 := Xg_a
    have Cg_14 := Xg_a.cell
    have Xh_14 := Xh_a
    have Ch_14 := Xh_a.cell
    have Os_14 := Os_a
    have Og_14 := Og_a
    have Oh_14 := Oh_a
    have B14 := B_a
    clear B_a Xr0_a Xs_a Xx_a Xg_a Xh_a Os_a Og_a Oh_a
    obtain ⟨W14, hW⟩ : ∃ W, W = w14' := ⟨_, rfl⟩
    subst hW
    go_wp2_with fail
    refine (heldRough_at W14 _ (addA z0 a1 a2) rsg 1 Mg.out LA.out.len LA.out.row LA.out.all (by omega) (by omega) Og_14.out.rd).mono ?_
    rintro e w15' ⟨rfl, hb⟩
    have Xr0_a := boxed_below Xr0_14 hb
    have Xs_a := boxed_below Xs_14 hb
    have Xx_a := boxed_below Xx_14 hb
    have Xg_a := boxed_below Xg_14 hb
    have Xh_a := boxed_below Xh_14 hb
    have Os_a := Lib.hid (Os_14.out.below hb)
    have Og_a := Lib.hid (Og_14.out.below hb)
    have Oh_a := Lib.hid (Oh_14.out.below hb)
    have B_a := Lib.hid (B14.out.trans (hb.mono B14.out.size))
    clear B14 Xr0_14 Cr0_14 Xs_14 Cs_14 Xx_14 Cx_14 Xg_14 Cg_14 Xh_14 Ch_14 Os_14 Og_14 Oh_14
    clear hb
    have Xr0_15 := Xr0_a
    have Cr0_15 := Xr0_a.cell
    have Xs_15 := Xs_a
    have Cs_15 := Xs_a.cell
    have Xx_15 := Xx_a
    have Cx_15 := Xx_a.cell
    have Xg_15 := Xg_a
    have Cg_15 := Xg_a.cell
    have Xh_15 := Xh_a
    have Ch_15 := Xh_a.cell
    have Os_15 := Os_a
    have Og_15 := Og_a
    have Oh_15 := Oh_a
    have B15 := B_a
    clear B_a Xr0_a Xs_a Xx_a Xg_a Xh_a Os_a Og_a Oh_a
    obtain ⟨W15, hW⟩ : ∃ W, W = w15' := ⟨_, rfl⟩
    subst hW
    rw [← HA.out]
    go_wp2
    go_ret
    exact ⟨rfl, B15.out⟩

-- the row's step
set_option maxRecDepth 100000 in
theorem lifted (os : Os) (started : os.Started) (H : Type) (enc : TypeId × Value → H) :
    ReturnsInHanded {} Try.checked os 5 .any (Rows.fnExactRoughAddSpec.pre6 enc Try.prog Try.f5 Rows.fnExactRoughAddRow.domain false) (Rows.fnExactRoughAddSpec.post enc Try.prog Try.f5 false true false false) := by
  refine returnsInHanded_of_change (C := Try.checked) own started (by kernel_rfl) Try.func5
    (ChangeSpec.witness6 (enc := enc) (C := Try.checked) false ⟨#[], #[.agg #[.slice none 0 0], .int .i64 0, .int .i64 0], []⟩ 8 (by kernel_rfl) (by kernel_rfl) (by kernel_rfl) (by kernel_rfl)) ?_
  intro W base args ds gs before hval0 hW hcnd _
  have hval : ∀ (j : Nat) t v, Try.f5.params[j]? = some t → args[j]? = some v → Value.okWide Try.prog W .any base t v := hval0
  have hW' := hW
  obtain ⟨p, q, hA0, hV, rfl, hfz, hnd⟩ := hW
  have hA : DataW.TrodAll enc Try.prog W 0 (fun _ => true) true Try.f5.params.toList args.toList ds p := hA0
  rw [Try.params5 ] at hA hval
  obtain ⟨v0, vs0, d0, ds0, p0, q0, hargs, rfl, rfl, h0, r0⟩ := trodAll_cons hA
  obtain ⟨v1, vs1, d1, ds1, p1, q1, rfl, rfl, rfl, h1, r1⟩ := trodAll_cons r0
  obtain ⟨v2, vs2, d2, ds2, p2, q2, rfl, rfl, rfl, h2, r2⟩ := trodAll_cons r1
  obtain ⟨rfl, rfl, rfl⟩ := trodAll_nil r2
  obtain rfl : args = #[v0, v1, v2] := by cases args; simp_all
  obtain ⟨rfl, rfl⟩ := trodVars_none hV
  have k0 := h0
  have lt0 : ∀ x ∈ p0, x.block < W.heap.size := by obtain ⟨m, hm⟩ := k0; exact DataW.trod_lt m _ _ _ hm
  obtain ⟨u0, z0, rfl, w0⟩ := open_rough (hval 0 29 v0 rfl rfl) h0
  obtain ⟨a1, rfl, rfl, rfl, w1⟩ := open_int Try.underlying3 (hval 1 3 v1 rfl rfl) h1
  obtain ⟨a2, rfl, rfl, rfl, w2⟩ := open_int Try.underlying3 (hval 2 3 v2 rfl rfl) h2
  clear hA0 hval0
  refine (walk u0 z0 a1 a2 W w0 w1 w2).mono fun e W' ⟨he, bel⟩ => ?_
  subst he
  exact ⟨_, rfl, _, _, _, [], _, [], hW', trodAll_mk1 (shut_bool Try.underlying4 _), (trodAll_cons_mk (Below.trod laidOut (by kernel_rfl) (of_decide_eq_true (by kernel_rfl)) k0 bel lt0) (trodAll_cons_mk (shut_int Try.underlying3 w1) (trodAll_cons_mk (shut_int Try.underlying3 w2) trodAll_mk0))), rfl, bel.frame _, fun h => by cases h⟩

theorem over : Rows.fnExactRoughAddRow.holds Try.pinned (OpenSpec.ofChange Rows.fnExactRoughAddSpec) :=
  OpenClaim.holds_of_wide 5 Try.f5 rfl rfl rfl rfl rfl rfl rfl ⟨rfl, rfl, rfl, rfl, rfl⟩ rfl rfl rfl rfl rfl (by kernel_rfl) Try.func5 (by kernel_rfl)
    (of_decide_eq_true (by kernel_rfl)) (by unfold Func.isWrapper; first | (rw [if_pos (by decide +kernel)]; kernel_rfl) | (rw [if_neg (by decide +kernel)]; exact ⟨rfl, rfl⟩))
    (fun os started H enc _ => lifted os started H enc)

theorem proved : Rows.FnExactRoughAddSaid := over
#print axioms proved
end Go.Proofs.Yteopnbjiffncbab.fnExactRoughAdd
