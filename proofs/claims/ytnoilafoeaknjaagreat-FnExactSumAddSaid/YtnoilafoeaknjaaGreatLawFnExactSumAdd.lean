/-
  The statement of the law FnExactSumAdd: at every input the call returns true and leaves what it was given as it was.
-/
import Derived.Test.YtnoilafoeaknjaaGreatZExM
import Derived.Test.YtnoilafoeaknjaaGreatZSpAdd
import Derived.Test.YtnoilafoeaknjaaGreatZImAdd
import Derived.Test.YtnoilafoeaknjaaGreatZExO
import Derived.Deep.RegionWith
import Derived.Deep.RegionHeld3
import Derived.Deep.DeepCutAuto
import Derived.Test.YtnoilafoeaknjaaGreatRows
import Derived.Test.YtnoilafoeaknjaaGreatMk
import Derived.WalkKit
import Derived.ProofKit
import Derived.OpenShut
import Derived.ShutString
import Derived.ChangeOld
import Derived.Below
namespace Go.Proofs.YtnoilafoeaknjaaGreat.fnExactSumAdd
open Go.ChangeShapes Go.WideShapes Go.ChangeAt Go.RowKit
open Go.ChangeMaps (open_string shut_string)
set_option linter.unusedVariables false

theorem own : ownKnob Tryz.prog.godebug = none := by kernel_rfl
theorem laidOut : laidOutB Tryz.prog = true := by kernel_rfl

set_option maxRecDepth 20000 in
set_option maxRecDepth 4000 in
set_option maxHeartbeats 16000000 in
theorem walk (V0 : SV) (z0 : Sm) (a1 : Int) (w : World) (w0 : ArgS w V0 z0) (w1 : (Lit.int .i64 a1).wf = true) :
    Calls Tryz.prog 25 #[.agg #[.slice V0.xr V0.nr V0.cr, .slice V0.xf V0.nf V0.cf, .slice V0.xt V0.nt V0.ct, .int .i64 z0.lo, .int .i64 z0.al, .slice V0.xk V0.nk V0.ck, .int .i64 z0.ka], .int .i64 a1] w fun e w' => e = .returned (.bool true) ∧ Below w.heap.size w w' := by
  have KS := fun W U h => spSumAdd_at W U z0 a1 h
  have KI := fun W U h => imSumAdd_at W U z0 a1 h
  obtain ⟨r, hr⟩ : ∃ r, r = addS z0 a1 := ⟨_, rfl⟩
  obtain ⟨ok, hok⟩ : ∃ o, o = addOkS z0 a1 := ⟨_, rfl⟩
  rw [← hok, ← hr] at KS KI
  have LNr := Lib.hid (show LenS r by rw [hr]; exact (add_small z0 a1).lens)
  replace KS := Lib.hid KS
  replace KI := Lib.hid KI
  clear hr hok
  have ek : (ok != ok) = false := by cases ok <;> rfl
  have q0 : ¬ (1 : Int) + (totS r : Nat) < 0 := by omega
  have q1 : ((1 : Int) + (totS r : Nat) != 1 + (totS r : Nat)) = false := by simp
  have b0 : ¬ (1 : Int) + (totS z0 : Nat) < 0 := by omega
  have hA := ((Below.refl w.heap.size w).alloc (by simp) (.cells #[.slice V0.xr V0.nr V0.cr, .slice V0.xf V0.nf V0.cf, .slice V0.xt V0.nt V0.ct, .int .i64 z0.lo, .int .i64 z0.al, .slice V0.xk V0.nk V0.ck, .int .i64 z0.ka] 97))
  have XA0 := Box7.new w 97 (.slice V0.xr V0.nr V0.cr) (.slice V0.xf V0.nf V0.cf) (.slice V0.xt V0.nt V0.ct) (.int .i64 z0.lo) (.int .i64 z0.al) (.slice V0.xk V0.nk V0.ck) (.int .i64 z0.ka)
  obtain ⟨axa00, axa01, axa02, axa03, axa04, axa05, axa06⟩ := (XA0).cells
  obtain ⟨W0, hW⟩ : ∃ W, W = (w.alloc (.cells #[.slice V0.xr V0.nr V0.cr, .slice V0.xf V0.nf V0.cf, .slice V0.xt V0.nt V0.ct, .int .i64 z0.lo, .int .i64 z0.al, .slice V0.xk V0.nk V0.ck, .int .i64 z0.ka] 97)) := ⟨_, rfl⟩
  rw [← hW] at hA XA0
  have B := Lib.hid hA
  have A0 := Lib.hid w0
  clear hA w0
  go_enter Tryz.func25, Tryz.ntmps25
  go_wp2_with fail
  rw [← hW]
  clear hW axa00 axa01 axa02 axa03 axa04 axa05 axa06
  obtain ⟨n0, hn0⟩ : ∃ n, n = lenS z0 := ⟨_, rfl⟩
  have KS := szSum_at W0 V0 z0 (1048576) (A0.out.below B.out (Nat.le_refl _)) (by omega) (by omega)
  rw [← hn0] at KS
  have HN0 := Lib.hid hn0
  clear hn0
  by_cases hle0 : (1048576 : Int) < (n0 : Int)
  · rw [if_pos hle0] at KS
    refine (KS).mono ?_
    rintro e w1 ⟨rfl, hb⟩
    replace XA0 := XA0.later hb
    replace B := Lib.hid (B.out.trans (hb.mono B.out.size))
    clear hb
    go_wp2
    go_ret
    exact ⟨rfl, B.out⟩
  rw [if_neg hle0] at KS
  have nz0 : ¬ (1048576 : Int) - (n0 : Int) < 0 := by omega
  refine (KS).mono ?_
  rintro e w1 ⟨rfl, hb⟩
  clear KS
  replace XA0 := XA0.later hb
  replace B := Lib.hid (B.out.trans (hb.mono B.out.size))
  clear hb
  obtain ⟨cxa00, cxa01, cxa02, cxa03, cxa04, cxa05, cxa06⟩ := (XA0).cells
  have LN0 := Lib.hid (LenS.arg (s := z0) (by rw [← HN0.out]; omega))
  have K1 := toSum_at w1 V0 z0 (A0.out.below B.out (Nat.le_refl _)) LN0.out
  go_wp2_with fail
  refine (K1).mono ?_
  rintro e w2 ⟨U1, rfl, ho, hb⟩
  clear K1
  have SOa := Lib.hid B.out.size
  clear cxa00 cxa01 cxa02 cxa03 cxa04 cxa05 cxa06
  replace XA0 := XA0.later hb
  replace B := Lib.hid (B.out.trans (hb.mono B.out.size))
  have Oa := Lib.hid (ho)
  clear hb
  clear ho
  have K1 := KS.out w2 U1 Oa.out.rd
  go_wp2_with fail
  refine (K1).mono ?_
  rintro e w3 ⟨Vw, rfl, ho, hb⟩
  clear K1
  have LOaO0 := Lib.hid Oa.out.top
  have SO0 := Lib.hid B.out.size
  replace XA0 := XA0.later hb
  replace B := Lib.hid (B.out.trans (hb.mono B.out.size))
  replace Oa := Lib.hid (Oa.out.below hb)
  have O0 := Lib.hid (ho)
  clear hb
  obtain ⟨W3, hW⟩ : ∃ W, W = (w3.alloc (.cells #[.slice Vw.xr Vw.nr Vw.cr, .slice Vw.xf Vw.nf Vw.cf, .slice Vw.xt Vw.nt Vw.ct, .int .i64 r.lo, .int .i64 r.al, .slice Vw.xk Vw.nk Vw.ck, .int .i64 r.ka] 39)) := ⟨_, rfl⟩
  obtain ⟨axa00, axa01, axa02, axa03, axa04, axa05, axa06⟩ := ((XA0.alloc (.cells #[.slice Vw.xr Vw.nr Vw.cr, .slice Vw.xf Vw.nf Vw.cf, .slice Vw.xt Vw.nt Vw.ct, .int .i64 r.lo, .int .i64 r.al, .slice Vw.xk Vw.nk Vw.ck, .int .i64 r.ka] 39))).cells
  replace XA0 := XA0.alloc (.cells #[.slice Vw.xr Vw.nr Vw.cr, .slice Vw.xf Vw.nf Vw.cf, .slice Vw.xt Vw.nt Vw.ct, .int .i64 r.lo, .int .i64 r.al, .slice Vw.xk Vw.nk Vw.ck, .int .i64 r.ka] 39)
  rw [← hW] at XA0
  replace B := Lib.hid ((B.out).alloc (Nat.le_trans B.out.size (by simp)) (.cells #[.slice Vw.xr Vw.nr Vw.cr, .slice Vw.xf Vw.nf Vw.cf, .slice Vw.xt Vw.nt Vw.ct, .int .i64 r.lo, .int .i64 r.al, .slice Vw.xk Vw.nk Vw.ck, .int .i64 r.ka] 39))
  rw [← hW] at B
  replace Oa := Lib.hid (Oa.out.alloc (.cells #[.slice Vw.xr Vw.nr Vw.cr, .slice Vw.xf Vw.nf Vw.cf, .slice Vw.xt Vw.nt Vw.ct, .int .i64 r.lo, .int .i64 r.al, .slice Vw.xk Vw.nk Vw.ck, .int .i64 r.ka] 39))
  rw [← hW] at Oa
  replace O0 := Lib.hid (O0.out.alloc (.cells #[.slice Vw.xr Vw.nr Vw.cr, .slice Vw.xf Vw.nf Vw.cf, .slice Vw.xt Vw.nt Vw.ct, .int .i64 r.lo, .int .i64 r.al, .slice Vw.xk Vw.nk Vw.ck, .int .i64 r.ka] 39))
  rw [← hW] at O0
  have X0 := Box7.new w3 39 (.slice Vw.xr Vw.nr Vw.cr) (.slice Vw.xf Vw.nf Vw.cf) (.slice Vw.xt Vw.nt Vw.ct) (.int .i64 r.lo) (.int .i64 r.al) (.slice Vw.xk Vw.nk Vw.ck) (.int .i64 r.ka)
  rw [← hW] at X0
  go_wp2_with fail
  rw [← hW]
  clear hW axa00 axa01 axa02 axa03 axa04 axa05 axa06
  clear ho
  clear Oa
  have K1 := toSum_at W3 V0 z0 (A0.out.below B.out (Nat.le_refl _)) LN0.out
  go_wp2_with fail
  refine (K1).mono ?_
  rintro e w4 ⟨U2, rfl, ho, hb⟩
  clear K1
  have LO0Ox := Lib.hid O0.out.top
  have SOx := Lib.hid B.out.size
  replace XA0 := XA0.later hb
  replace B := Lib.hid (B.out.trans (hb.mono B.out.size))
  replace O0 := Lib.hid (O0.out.below hb)
  replace X0 := X0.later hb
  have Ox := Lib.hid (ho)
  clear hb
  obtain ⟨W4, hW⟩ : ∃ W, W = (w4.alloc (.cells #[.slice U2.xr U2.nr U2.cr, .slice U2.xf U2.nf U2.cf, .slice U2.xt U2.nt U2.ct, .int .i64 z0.lo, .int .i64 z0.al, .slice U2.xk U2.nk U2.ck, .int .i64 z0.ka] 39)) := ⟨_, rfl⟩
  replace XA0 := XA0.alloc (.cells #[.slice U2.xr U2.nr U2.cr, .slice U2.xf U2.nf U2.cf, .slice U2.xt U2.nt U2.ct, .int .i64 z0.lo, .int .i64 z0.al, .slice U2.xk U2.nk U2.ck, .int .i64 z0.ka] 39)
  rw [← hW] at XA0
  replace B := Lib.hid ((B.out).alloc (Nat.le_trans B.out.size (by simp)) (.cells #[.slice U2.xr U2.nr U2.cr, .slice U2.xf U2.nf U2.cf, .slice U2.xt U2.nt U2.ct, .int .i64 z0.lo, .int .i64 z0.al, .slice U2.xk U2.nk U2.ck, .int .i64 z0.ka] 39))
  rw [← hW] at B
  replace O0 := Lib.hid (O0.out.alloc (.cells #[.slice U2.xr U2.nr U2.cr, .slice U2.xf U2.nf U2.cf, .slice U2.xt U2.nt U2.ct, .int .i64 z0.lo, .int .i64 z0.al, .slice U2.xk U2.nk U2.ck, .int .i64 z0.ka] 39))
  rw [← hW] at O0
  replace X0 := X0.alloc (.cells #[.slice U2.xr U2.nr U2.cr, .slice U2.xf U2.nf U2.cf, .slice U2.xt U2.nt U2.ct, .int .i64 z0.lo, .int .i64 z0.al, .slice U2.xk U2.nk U2.ck, .int .i64 z0.ka] 39)
  rw [← hW] at X0
  replace Ox := Lib.hid (Ox.out.alloc (.cells #[.slice U2.xr U2.nr U2.cr, .slice U2.xf U2.nf U2.cf, .slice U2.xt U2.nt U2.ct, .int .i64 z0.lo, .int .i64 z0.al, .slice U2.xk U2.nk U2.ck, .int .i64 z0.ka] 39))
  rw [← hW] at Ox
  have Xx := Box7.new w4 39 (.slice U2.xr U2.nr U2.cr) (.slice U2.xf U2.nf U2.cf) (.slice U2.xt U2.nt U2.ct) (.int .i64 z0.lo) (.int .i64 z0.al) (.slice U2.xk U2.nk U2.ck) (.int .i64 z0.ka)
  rw [← hW] at Xx
  go_wp2_with fail
  rw [← hW]
  clear hW
  clear ho
  have K1 := KI.out W4 U2 Ox.out.rd
  go_wp2_with fail
  refine (K1).mono ?_
  rintro e w5 ⟨V1, rfl, ho, hb⟩
  clear K1
  have LO0Og := Lib.hid O0.out.top
  have LOxOg := Lib.hid Ox.out.top
  have SOg := Lib.hid B.out.size
  replace XA0 := XA0.later hb
  replace B := Lib.hid (B.out.trans (hb.mono B.out.size))
  replace O0 := Lib.hid (O0.out.below hb)
  replace X0 := X0.later hb
  replace Ox := Lib.hid (Ox.out.below hb)
  replace Xx := Xx.later hb
  have Og := Lib.hid (ho)
  clear hb
  obtain ⟨W5, hW⟩ : ∃ W, W = (w5.alloc (.cells #[.slice V1.xr V1.nr V1.cr, .slice V1.xf V1.nf V1.cf, .slice V1.xt V1.nt V1.ct, .int .i64 r.lo, .int .i64 r.al, .slice V1.xk V1.nk V1.ck, .int .i64 r.ka] 39)) := ⟨_, rfl⟩
  obtain ⟨ax00, ax01, ax02, ax03, ax04, ax05, ax06⟩ := ((X0.alloc (.cells #[.slice V1.xr V1.nr V1.cr, .slice V1.xf V1.nf V1.cf, .slice V1.xt V1.nt V1.ct, .int .i64 r.lo, .int .i64 r.al, .slice V1.xk V1.nk V1.ck, .int .i64 r.ka] 39))).cells
  replace XA0 := XA0.alloc (.cells #[.slice V1.xr V1.nr V1.cr, .slice V1.xf V1.nf V1.cf, .slice V1.xt V1.nt V1.ct, .int .i64 r.lo, .int .i64 r.al, .slice V1.xk V1.nk V1.ck, .int .i64 r.ka] 39)
  rw [← hW] at XA0
  replace B := Lib.hid ((B.out).alloc (Nat.le_trans B.out.size (by simp)) (.cells #[.slice V1.xr V1.nr V1.cr, .slice V1.xf V1.nf V1.cf, .slice V1.xt V1.nt V1.ct, .int .i64 r.lo, .int .i64 r.al, .slice V1.xk V1.nk V1.ck, .int .i64 r.ka] 39))
  rw [← hW] at B
  replace O0 := Lib.hid (O0.out.alloc (.cells #[.slice V1.xr V1.nr V1.cr, .slice V1.xf V1.nf V1.cf, .slice V1.xt V1.nt V1.ct, .int .i64 r.lo, .int .i64 r.al, .slice V1.xk V1.nk V1.ck, .int .i64 r.ka] 39))
  rw [← hW] at O0
  replace X0 := X0.alloc (.cells #[.slice V1.xr V1.nr V1.cr, .slice V1.xf V1.nf V1.cf, .slice V1.xt V1.nt V1.ct, .int .i64 r.lo, .int .i64 r.al, .slice V1.xk V1.nk V1.ck, .int .i64 r.ka] 39)
  rw [← hW] at X0
  replace Ox := Lib.hid (Ox.out.alloc (.cells #[.slice V1.xr V1.nr V1.cr, .slice V1.xf V1.nf V1.cf, .slice V1.xt V1.nt V1.ct, .int .i64 r.lo, .int .i64 r.al, .slice V1.xk V1.nk V1.ck, .int .i64 r.ka] 39))
  rw [← hW] at Ox
  replace Xx := Xx.alloc (.cells #[.slice V1.xr V1.nr V1.cr, .slice V1.xf V1.nf V1.cf, .slice V1.xt V1.nt V1.ct, .int .i64 r.lo, .int .i64 r.al, .slice V1.xk V1.nk V1.ck, .int .i64 r.ka] 39)
  rw [← hW] at Xx
  replace Og := Lib.hid (Og.out.alloc (.cells #[.slice V1.xr V1.nr V1.cr, .slice V1.xf V1.nf V1.cf, .slice V1.xt V1.nt V1.ct, .int .i64 r.lo, .int .i64 r.al, .slice V1.xk V1.nk V1.ck, .int .i64 r.ka] 39))
  rw [← hW] at Og
  have Xg := Box7.new w5 39 (.slice V1.xr V1.nr V1.cr) (.slice V1.xf V1.nf V1.cf) (.slice V1.xt V1.nt V1.ct) (.int .i64 r.lo) (.int .i64 r.al) (.slice V1.xk V1.nk V1.ck) (.int .i64 r.ka)
  rw [← hW] at Xg
  go_wp2_with fail
  rw [← hW]
  clear hW ax00 ax01 ax02 ax03 ax04 ax05 ax06
  clear ho
  go_wp2_with fail
  refine (eqSum_at W5 V1 Vw r Og.out.rd O0.out.rd LNr.out).mono ?_
  rintro e w6 ⟨rfl, hb⟩
  replace XA0 := XA0.later hb
  replace B := Lib.hid (B.out.trans (hb.mono B.out.size))
  replace O0 := Lib.hid (O0.out.below hb)
  replace X0 := X0.later hb
  replace Ox := Lib.hid (Ox.out.below hb)
  replace Xx := Xx.later hb
  replace Og := Lib.hid (Og.out.below hb)
  replace Xg := Xg.later hb
  clear hb
  go_upto_region 10 with fail
  go_cut [49] (fun c wx => c = .bool false ∧ Below w6.heap.size w6 wx)
  case first =>
    have KT : Hid (∀ W', Below w6.heap.size w6 W' → Calls Tryz.prog 69 #[.agg #[.slice V0.xr V0.nr V0.cr, .slice V0.xf V0.nf V0.cf, .slice V0.xt V0.nt V0.ct, .int .i64 z0.lo, .int .i64 z0.al, .slice V0.xk V0.nk V0.ck, .int .i64 z0.ka]] W' fun e w' => ∃ U, e = .returned (.agg #[.slice U.xr U.nr U.cr, .slice U.xf U.nf U.cf, .slice U.xt U.nt U.ct, .int .i64 z0.lo, .int .i64 z0.al, .slice U.xk U.nk U.ck, .int .i64 z0.ka]) ∧ OwnS w' W'.heap.size w'.heap.size U z0 ∧ Below W'.heap.size W' w') := fun W' h => toSum_at W' V0 z0 (A0.out.below (B.out.trans (h.mono B.out.size)) (Nat.le_refl _)) LN0.out
    have D0 := Lib.hid (Below.drew (Below.refl w6.heap.size w6))
    have HS : Hid (∀ w', Below w6.heap.size w6 w' → (w'.cell? ⟨w4.heap.size, 0, none⟩ = some (.slice U2.xr U2.nr U2.cr) ∧ w'.cell? ⟨w4.heap.size, 1, none⟩ = some (.slice U2.xf U2.nf U2.cf) ∧ w'.cell? ⟨w4.heap.size, 2, none⟩ = some (.slice U2.xt U2.nt U2.ct) ∧ w'.cell? ⟨w4.heap.size, 3, none⟩ = some (.int .i64 z0.lo) ∧ w'.cell? ⟨w4.heap.size, 4, none⟩ = some (.int .i64 z0.al) ∧ w'.cell? ⟨w4.heap.size, 5, none⟩ = some (.slice U2.xk U2.nk U2.ck) ∧ w'.cell? ⟨w4.heap.size, 6, none⟩ = some (.int .i64 z0.ka)) ∧ (w'.cell? ⟨w.heap.size, 0, none⟩ = some (.slice V0.xr V0.nr V0.cr) ∧ w'.cell? ⟨w.heap.size, 1, none⟩ = some (.slice V0.xf V0.nf V0.cf) ∧ w'.cell? ⟨w.heap.size, 2, none⟩ = some (.slice V0.xt V0.nt V0.ct) ∧ w'.cell? ⟨w.heap.size, 3, none⟩ = some (.int .i64 z0.lo) ∧ w'.cell? ⟨w.heap.size, 4, none⟩ = some (.int .i64 z0.al) ∧ w'.cell? ⟨w.heap.size, 5, none⟩ = some (.slice V0.xk V0.nk V0.ck) ∧ w'.cell? ⟨w.heap.size, 6, none⟩ = some (.int .i64 z0.ka))) := fun w' h => ⟨(Xx.later h).cells, (XA0.later h).cells⟩
    clear XA0 X0 Xx Xg
    go_region_held3 (fun w' => (w'.cell? ⟨w4.heap.size, 0, none⟩ = some (.slice U2.xr U2.nr U2.cr) ∧ w'.cell? ⟨w4.heap.size, 1, none⟩ = some (.slice U2.xf U2.nf U2.cf) ∧ w'.cell? ⟨w4.heap.size, 2, none⟩ = some (.slice U2.xt U2.nt U2.ct) ∧ w'.cell? ⟨w4.heap.size, 3, none⟩ = some (.int .i64 z0.lo) ∧ w'.cell? ⟨w4.heap.size, 4, none⟩ = some (.int .i64 z0.al) ∧ w'.cell? ⟨w4.heap.size, 5, none⟩ = some (.slice U2.xk U2.nk U2.ck) ∧ w'.cell? ⟨w4.heap.size, 6, none⟩ = some (.int .i64 z0.ka)) ∧ (w'.cell? ⟨w.heap.size, 0, none⟩ = some (.slice V0.xr V0.nr V0.cr) ∧ w'.cell? ⟨w.heap.size, 1, none⟩ = some (.slice V0.xf V0.nf V0.cf) ∧ w'.cell? ⟨w.heap.size, 2, none⟩ = some (.slice V0.xt V0.nt V0.ct) ∧ w'.cell? ⟨w.heap.size, 3, none⟩ = some (.int .i64 z0.lo) ∧ w'.cell? ⟨w.heap.size, 4, none⟩ = some (.int .i64 z0.al) ∧ w'.cell? ⟨w.heap.size, 5, none⟩ = some (.slice V0.xk V0.nk V0.ck) ∧ w'.cell? ⟨w.heap.size, 6, none⟩ = some (.int .i64 z0.ka))) (first | (with_reducible exact HS.out _ D0.out) | (with_reducible exact HS.out _ D1.out) | (with_reducible exact HS.out _ D2.out)) (first
      | (go_at_call 69; (with_reducible refine (KT.out _ D0.out).mono ?_); rintro e v1 ⟨U7, rfl, ho7, hb⟩; have D1 := Lib.hid (D0.out.trans (hb.mono D0.out.size)); have O7 := Lib.hid ho7; clear ho7 hb)
      | (go_at_call 70; (with_reducible refine (eqSum_at _ U2 U7 z0 (Ox.out.below D1.out).rd O7.out.rd LN0.out).mono ?_); rintro e v2 ⟨rfl, hb⟩; have D2 := Lib.hid (D1.out.trans (hb.mono D1.out.size)); clear hb))
    all_goals
      (go_wp2_with fail; go_meet; exact ⟨rfl, D2.out⟩)
  case rest =>
    obtain ⟨rfl, hb⟩ := hcut
    obtain ⟨w7, hwc⟩ : ∃ W, W = wc := ⟨_, rfl⟩
    subst hwc
    replace XA0 := XA0.later hb
    replace B := Lib.hid (B.out.trans (hb.mono B.out.size))
    replace O0 := Lib.hid (O0.out.below hb)
    replace X0 := X0.later hb
    replace Ox := Lib.hid (Ox.out.below hb)
    replace Xx := Xx.later hb
    replace Og := Lib.hid (Og.out.below hb)
    replace Xg := Xg.later hb
    clear hb
    obtain ⟨cxx0, cxx1, cxx2, cxx3, cxx4, cxx5, cxx6⟩ := (Xx).cells
    go_wp2_with fail
    refine (markSum_at w7 _ _ U2 z0 (1) Ox.out LN0.out (by omega) (by omega)).mono ?_
    rintro e w8 ⟨m0, rfl, hm, ho, mk⟩
    clear cxx0 cxx1 cxx2 cxx3 cxx4 cxx5 cxx6
    replace XA0 := mk.box _ _ _ _ _ _ _ _ _ (by decide) (by decide) (by decide) XA0
    replace B := Lib.hid (mk.below B.out SOx.out)
    replace O0 := Lib.hid (mk.own (.inl LO0Ox.out) O0.out)
    replace X0 := mk.box _ _ _ _ _ _ _ _ _ (by decide) (by decide) (by decide) X0
    replace Xx := mk.box _ _ _ _ _ _ _ _ _ (by decide) (by decide) (by decide) Xx
    replace Og := Lib.hid (mk.own (.inr LOxOg.out) Og.out)
    replace Xg := mk.box _ _ _ _ _ _ _ _ _ (by decide) (by decide) (by decide) Xg
    replace Ox := Lib.hid ho
    have HMm0 := Lib.hid hm
    clear hm ho mk
    obtain ⟨cxg0, cxg1, cxg2, cxg3, cxg4, cxg5, cxg6⟩ := (Xg).cells
    obtain ⟨cx00, cx01, cx02, cx03, cx04, cx05, cx06⟩ := (X0).cells
    go_wp2_with fail
    refine (eqSum_at w8 V1 Vw r Og.out.rd O0.out.rd LNr.out).mono ?_
    rintro e w9 ⟨rfl, hb⟩
    clear cxg0 cxg1 cxg2 cxg3 cxg4 cxg5 cxg6 cx00 cx01 cx02 cx03 cx04 cx05 cx06
    replace XA0 := XA0.later hb
    replace B := Lib.hid (B.out.trans (hb.mono B.out.size))
    replace O0 := Lib.hid (O0.out.below hb)
    replace X0 := X0.later hb
    replace Ox := Lib.hid (Ox.out.below hb)
    replace Xx := Xx.later hb
    replace Og := Lib.hid (Og.out.below hb)
    replace Xg := Xg.later hb
    clear hb
    obtain ⟨cxg0, cxg1, cxg2, cxg3, cxg4, cxg5, cxg6⟩ := (Xg).cells
    go_wp2_with fail
    refine (markSum_at w9 _ _ V1 r (1) Og.out LNr.out (by omega) (by omega)).mono ?_
    rintro e w10 ⟨m1, rfl, hm, ho, mk⟩
    clear cxg0 cxg1 cxg2 cxg3 cxg4 cxg5 cxg6
    replace XA0 := mk.box _ _ _ _ _ _ _ _ _ (by decide) (by decide) (by decide) XA0
    replace B := Lib.hid (mk.below B.out SOg.out)
    replace O0 := Lib.hid (mk.own (.inl LO0Og.out) O0.out)
    replace X0 := mk.box _ _ _ _ _ _ _ _ _ (by decide) (by decide) (by decide) X0
    replace Ox := Lib.hid (mk.own (.inl LOxOg.out) Ox.out)
    replace Xx := mk.box _ _ _ _ _ _ _ _ _ (by decide) (by decide) (by decide) Xx
    replace Xg := mk.box _ _ _ _ _ _ _ _ _ (by decide) (by decide) (by decide) Xg
    replace Og := Lib.hid ho
    have HMm1 := Lib.hid hm
    clear hm ho mk
    obtain ⟨cxg0, cxg1, cxg2, cxg3, cxg4, cxg5, cxg6⟩ := (Xg).cells
    go_wp2_with fail
    refine (heldSum_at w10 V1 r m1 (1) HMm1.out Og.out.rd LNr.out (by omega) (by omega)).mono ?_
    rintro e w11 ⟨rfl, hb⟩
    clear cxg0 cxg1 cxg2 cxg3 cxg4 cxg5 cxg6
    replace XA0 := XA0.later hb
    replace B := Lib.hid (B.out.trans (hb.mono B.out.size))
    replace O0 := Lib.hid (O0.out.below hb)
    replace X0 := X0.later hb
    replace Ox := Lib.hid (Ox.out.below hb)
    replace Xx := Xx.later hb
    replace Og := Lib.hid (Og.out.below hb)
    replace Xg := Xg.later hb
    clear hb
    obtain ⟨cxa00, cxa01, cxa02, cxa03, cxa04, cxa05, cxa06⟩ := (XA0).cells
    have K1 := toSum_at w11 V0 z0 (A0.out.below B.out (Nat.le_refl _)) LN0.out
    go_wp2_with fail
    refine (K1).mono ?_
    rintro e w12 ⟨U3, rfl, ho, hb⟩
    clear K1
    have LO0Oy := Lib.hid O0.out.top
    have LOxOy := Lib.hid Ox.out.top
    have LOgOy := Lib.hid Og.out.top
    have SOy := Lib.hid B.out.size
    clear cxa00 cxa01 cxa02 cxa03 cxa04 cxa05 cxa06
    replace XA0 := XA0.later hb
    replace B := Lib.hid (B.out.trans (hb.mono B.out.size))
    replace O0 := Lib.hid (O0.out.below hb)
    replace X0 := X0.later hb
    replace Ox := Lib.hid (Ox.out.below hb)
    replace Xx := Xx.later hb
    replace Og := Lib.hid (Og.out.below hb)
    replace Xg := Xg.later hb
    have Oy := Lib.hid (ho)
    clear hb
    clear ho
    have K1 := KI.out w12 U3 Oy.out.rd
    go_wp2_with fail
    refine (K1).mono ?_
    rintro e w13 ⟨V2, rfl, ho, hb⟩
    clear K1
    have LO0Oh := Lib.hid O0.out.top
    have LOxOh := Lib.hid Ox.out.top
    have LOgOh := Lib.hid Og.out.top
    have LOyOh := Lib.hid Oy.out.top
    have SOh := Lib.hid B.out.size
    replace XA0 := XA0.later hb
    replace B := Lib.hid (B.out.trans (hb.mono B.out.size))
    replace O0 := Lib.hid (O0.out.below hb)
    replace X0 := X0.later hb
    replace Ox := Lib.hid (Ox.out.below hb)
    replace Xx := Xx.later hb
    replace Og := Lib.hid (Og.out.below hb)
    replace Xg := Xg.later hb
    replace Oy := Lib.hid (Oy.out.below hb)
    have Oh := Lib.hid (ho)
    clear hb
    obtain ⟨W13, hW⟩ : ∃ W, W = (w13.alloc (.cells #[.slice V2.xr V2.nr V2.cr, .slice V2.xf V2.nf V2.cf, .slice V2.xt V2.nt V2.ct, .int .i64 r.lo, .int .i64 r.al, .slice V2.xk V2.nk V2.ck, .int .i64 r.ka] 39)) := ⟨_, rfl⟩
    obtain ⟨ax00, ax01, ax02, ax03, ax04, ax05, ax06⟩ := ((X0.alloc (.cells #[.slice V2.xr V2.nr V2.cr, .slice V2.xf V2.nf V2.cf, .slice V2.xt V2.nt V2.ct, .int .i64 r.lo, .int .i64 r.al, .slice V2.xk V2.nk V2.ck, .int .i64 r.ka] 39))).cells
    replace XA0 := XA0.alloc (.cells #[.slice V2.xr V2.nr V2.cr, .slice V2.xf V2.nf V2.cf, .slice V2.xt V2.nt V2.ct, .int .i64 r.lo, .int .i64 r.al, .slice V2.xk V2.nk V2.ck, .int .i64 r.ka] 39)
    rw [← hW] at XA0
    replace B := Lib.hid ((B.out).alloc (Nat.le_trans B.out.size (by simp)) (.cells #[.slice V2.xr V2.nr V2.cr, .slice V2.xf V2.nf V2.cf, .slice V2.xt V2.nt V2.ct, .int .i64 r.lo, .int .i64 r.al, .slice V2.xk V2.nk V2.ck, .int .i64 r.ka] 39))
    rw [← hW] at B
    replace O0 := Lib.hid (O0.out.alloc (.cells #[.slice V2.xr V2.nr V2.cr, .slice V2.xf V2.nf V2.cf, .slice V2.xt V2.nt V2.ct, .int .i64 r.lo, .int .i64 r.al, .slice V2.xk V2.nk V2.ck, .int .i64 r.ka] 39))
    rw [← hW] at O0
    replace X0 := X0.alloc (.cells #[.slice V2.xr V2.nr V2.cr, .slice V2.xf V2.nf V2.cf, .slice V2.xt V2.nt V2.ct, .int .i64 r.lo, .int .i64 r.al, .slice V2.xk V2.nk V2.ck, .int .i64 r.ka] 39)
    rw [← hW] at X0
    replace Ox := Lib.hid (Ox.out.alloc (.cells #[.slice V2.xr V2.nr V2.cr, .slice V2.xf V2.nf V2.cf, .slice V2.xt V2.nt V2.ct, .int .i64 r.lo, .int .i64 r.al, .slice V2.xk V2.nk V2.ck, .int .i64 r.ka] 39))
    rw [← hW] at Ox
    replace Xx := Xx.alloc (.cells #[.slice V2.xr V2.nr V2.cr, .slice V2.xf V2.nf V2.cf, .slice V2.xt V2.nt V2.ct, .int .i64 r.lo, .int .i64 r.al, .slice V2.xk V2.nk V2.ck, .int .i64 r.ka] 39)
    rw [← hW] at Xx
    replace Og := Lib.hid (Og.out.alloc (.cells #[.slice V2.xr V2.nr V2.cr, .slice V2.xf V2.nf V2.cf, .slice V2.xt V2.nt V2.ct, .int .i64 r.lo, .int .i64 r.al, .slice V2.xk V2.nk V2.ck, .int .i64 r.ka] 39))
    rw [← hW] at Og
    replace Xg := Xg.alloc (.cells #[.slice V2.xr V2.nr V2.cr, .slice V2.xf V2.nf V2.cf, .slice V2.xt V2.nt V2.ct, .int .i64 r.lo, .int .i64 r.al, .slice V2.xk V2.nk V2.ck, .int .i64 r.ka] 39)
    rw [← hW] at Xg
    replace Oy := Lib.hid (Oy.out.alloc (.cells #[.slice V2.xr V2.nr V2.cr, .slice V2.xf V2.nf V2.cf, .slice V2.xt V2.nt V2.ct, .int .i64 r.lo, .int .i64 r.al, .slice V2.xk V2.nk V2.ck, .int .i64 r.ka] 39))
    rw [← hW] at Oy
    replace Oh := Lib.hid (Oh.out.alloc (.cells #[.slice V2.xr V2.nr V2.cr, .slice V2.xf V2.nf V2.cf, .slice V2.xt V2.nt V2.ct, .int .i64 r.lo, .int .i64 r.al, .slice V2.xk V2.nk V2.ck, .int .i64 r.ka] 39))
    rw [← hW] at Oh
    have Xh := Box7.new w13 39 (.slice V2.xr V2.nr V2.cr) (.slice V2.xf V2.nf V2.cf) (.slice V2.xt V2.nt V2.ct) (.int .i64 r.lo) (.int .i64 r.al) (.slice V2.xk V2.nk V2.ck) (.int .i64 r.ka)
    rw [← hW] at Xh
    go_wp2_with fail
    rw [← hW]
    clear hW ax00 ax01 ax02 ax03 ax04 ax05 ax06
    clear ho
    go_wp2_with fail
    refine (eqSum_at W13 V2 Vw r Oh.out.rd O0.out.rd LNr.out).mono ?_
    rintro e w14 ⟨rfl, hb⟩
    replace XA0 := XA0.later hb
    replace B := Lib.hid (B.out.trans (hb.mono B.out.size))
    replace O0 := Lib.hid (O0.out.below hb)
    replace X0 := X0.later hb
    replace Ox := Lib.hid (Ox.out.below hb)
    replace Xx := Xx.later hb
    replace Og := Lib.hid (Og.out.below hb)
    replace Xg := Xg.later hb
    replace Oy := Lib.hid (Oy.out.below hb)
    replace Oh := Lib.hid (Oh.out.below hb)
    replace Xh := Xh.later hb
    clear hb
    obtain ⟨cxg0, cxg1, cxg2, cxg3, cxg4, cxg5, cxg6⟩ := (Xg).cells
    go_wp2_with fail
    refine (heldSum_at w14 V1 r m1 (1) HMm1.out Og.out.rd LNr.out (by omega) (by omega)).mono ?_
    rintro e w15 ⟨rfl, hb⟩
    clear cxg0 cxg1 cxg2 cxg3 cxg4 cxg5 cxg6
    replace XA0 := XA0.later hb
    replace B := Lib.hid (B.out.trans (hb.mono B.out.size))
    replace O0 := Lib.hid (O0.out.below hb)
    replace X0 := X0.later hb
    replace Ox := Lib.hid (Ox.out.below hb)
    replace Xx := Xx.later hb
    replace Og := Lib.hid (Og.out.below hb)
    replace Xg := Xg.later hb
    replace Oy := Lib.hid (Oy.out.below hb)
    replace Oh := Lib.hid (Oh.out.below hb)
    replace Xh := Xh.later hb
    clear hb
    go_wp2
    go_ret
    exact ⟨rfl, B.out⟩

-- the row's step
set_option maxRecDepth 100000 in
theorem lifted (os : Os) (started : os.Started) (H : Type) (enc : TypeId × Value → H) :
    ReturnsInHanded {} Tryz.checked os 25 .any (Rows.fnExactSumAddSpec.pre6 enc Tryz.prog Tryz.f25 Rows.fnExactSumAddRow.domain false) (Rows.fnExactSumAddSpec.post enc Tryz.prog Tryz.f25 false true false false) := by
  refine returnsInHanded_of_change (C := Tryz.checked) own started (by kernel_rfl) Tryz.func25
    (ChangeSpec.witness6 (enc := enc) (C := Tryz.checked) false ⟨#[], #[.agg #[.slice none 0 0, .slice none 0 0, .slice none 0 0, .int .i64 0, .int .i64 0, .slice none 0 0, .int .i64 0], .int .i64 0], []⟩ 8 (by kernel_rfl) (by kernel_rfl) (by kernel_rfl) (by kernel_rfl)) ?_
  intro W base args ds gs before hval0 hW hcnd _
  have hval : ∀ (j : Nat) t v, Tryz.f25.params[j]? = some t → args[j]? = some v → Value.okWide Tryz.prog W .any base t v := hval0
  have hW' := hW
  obtain ⟨p, q, hA0, hV, rfl, hfz, hnd⟩ := hW
  have hA : DataW.TrodAll enc Tryz.prog W 0 (fun _ => true) true Tryz.f25.params.toList args.toList ds p := hA0
  rw [Tryz.params25 ] at hA hval
  obtain ⟨v0, vs0, d0, ds0, p0, q0, hargs, rfl, rfl, h0, r0⟩ := trodAll_cons hA
  obtain ⟨v1, vs1, d1, ds1, p1, q1, rfl, rfl, rfl, h1, r1⟩ := trodAll_cons r0
  obtain ⟨rfl, rfl, rfl⟩ := trodAll_nil r1
  obtain rfl : args = #[v0, v1] := by cases args; simp_all
  obtain ⟨rfl, rfl⟩ := trodVars_none hV
  have k0 := h0
  have lt0 : ∀ x ∈ p0, x.block < W.heap.size := by obtain ⟨m, hm⟩ := k0; exact DataW.trod_lt m _ _ _ hm
  obtain ⟨U0, z0, rfl, w0⟩ := open_sum (hval 0 97 v0 rfl rfl) h0
  obtain ⟨a1, rfl, rfl, rfl, w1⟩ := open_int Tryz.underlying3 (hval 1 3 v1 rfl rfl) h1
  clear hA0 hval0
  refine (walk U0 z0 a1 W w0 w1).mono fun e W' ⟨he, bel⟩ => ?_
  subst he
  exact ⟨_, rfl, _, _, _, [], _, [], hW', trodAll_mk1 (shut_bool Tryz.underlying4 _), (trodAll_cons_mk (Below.trod laidOut (by kernel_rfl) (of_decide_eq_true (by kernel_rfl)) k0 bel lt0) (trodAll_cons_mk (shut_int Tryz.underlying3 w1) trodAll_mk0)), rfl, bel.frame _, fun h => by cases h⟩

theorem over : Rows.fnExactSumAddRow.holds Tryz.pinned (OpenSpec.ofChange Rows.fnExactSumAddSpec) :=
  OpenClaim.holds_of_wide 25 Tryz.f25 rfl rfl rfl rfl rfl rfl rfl ⟨rfl, rfl, rfl, rfl, rfl⟩ rfl rfl rfl rfl rfl (by kernel_rfl) Tryz.func25 (by show joinedFacts Tryz.prog _ _ _ _ = true; unfold joinedFacts; rw [mayE, liftF, makeC]; kernel_rfl)
    (of_decide_eq_true (by kernel_rfl)) (by unfold Func.isWrapper; first | (rw [if_pos (by decide +kernel)]; kernel_rfl) | (rw [if_neg (by decide +kernel)]; exact ⟨rfl, rfl⟩))
    (fun os started H enc _ => lifted os started H enc)

theorem proved : Rows.FnExactSumAddSaid := over
#print axioms proved
end Go.Proofs.YtnoilafoeaknjaaGreat.fnExactSumAdd
