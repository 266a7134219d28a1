/-
  The statement of the law FnExactSumGet: at every input the call returns true and leaves what it was given as it was.
-/
import Derived.Test.YtnoilafoeaknjaaZSpGet
import Derived.Test.YtnoilafoeaknjaaZImGet
import Derived.Test.YtnoilafoeaknjaaZExO
import Derived.Deep.RegionWith
import Derived.Deep.RegionHeld3
import Derived.Deep.DeepCutAuto
import Derived.Test.YtnoilafoeaknjaaRows
import Derived.WalkKit
import Derived.ProofKit
import Derived.OpenShut
import Derived.ShutString
import Derived.ChangeOld
import Derived.Below
namespace Go.Proofs.Ytnoilafoeaknjaa.fnExactSumGet
open Go.ChangeShapes Go.WideShapes Go.ChangeAt Go.RowKit
open Go.ChangeMaps (open_string shut_string)
set_option linter.unusedVariables false

theorem own : ownKnob Try.prog.godebug = none := by kernel_rfl
theorem laidOut : laidOutB Try.prog = true := by kernel_rfl

set_option maxRecDepth 20000 in
set_option maxHeartbeats 2000000 in
theorem walk (V0 : SV) (z0 : Sm) (a1 : Int) (w : World) (w0 : ArgS w V0 z0) (w1 : (Lit.int .i64 a1).wf = true) :
    Calls Try.prog 9 #[.agg #[.slice V0.xr V0.nr V0.cr, .slice V0.xf V0.nf V0.cf, .slice V0.xt V0.nt V0.ct, .int .i64 z0.lo, .int .i64 z0.al, .slice V0.xk V0.nk V0.ck, .int .i64 z0.ka], .int .i64 a1] w fun e w' => e = .returned (.bool true) ∧ Below w.heap.size w w' := by
  have hA := ((Below.refl w.heap.size w).alloc (by simp) (.cells #[.slice V0.xr V0.nr V0.cr, .slice V0.xf V0.nf V0.cf, .slice V0.xt V0.nt V0.ct, .int .i64 z0.lo, .int .i64 z0.al, .slice V0.xk V0.nk V0.ck, .int .i64 z0.ka] 66))
  have XA0 := Box7.new w 66 (.slice V0.xr V0.nr V0.cr) (.slice V0.xf V0.nf V0.cf) (.slice V0.xt V0.nt V0.ct) (.int .i64 z0.lo) (.int .i64 z0.al) (.slice V0.xk V0.nk V0.ck) (.int .i64 z0.ka)
  obtain ⟨axa00, axa01, axa02, axa03, axa04, axa05, axa06⟩ := (XA0).cells
  obtain ⟨W0, hW⟩ : ∃ W, W = (w.alloc (.cells #[.slice V0.xr V0.nr V0.cr, .slice V0.xf V0.nf V0.cf, .slice V0.xt V0.nt V0.ct, .int .i64 z0.lo, .int .i64 z0.al, .slice V0.xk V0.nk V0.ck, .int .i64 z0.ka] 66)) := ⟨_, rfl⟩
  rw [← hW] at hA XA0
  have B := Lib.hid hA
  have A0 := Lib.hid w0
  clear hA w0
  go_enter Try.func9, Try.ntmps9
  go_wp2_with fail
  rw [← hW]
  clear hW axa00 axa01 axa02 axa03 axa04 axa05 axa06
  obtain ⟨n0, hn0⟩ : ∃ n, n = lenS z0 := ⟨_, rfl⟩
  have KS := szSum_at W0 V0 z0 (1048576) (A0.out.below B.out (Nat.le_refl _)) (by omega) (by omega)
  rw [← hn0] at KS
  have HN0 := Lib.hid hn0
  clear hn0
  by_cases hle0 : (1048576 : Int) < (n0 : Int)
  · rw [if_pos hle0] at KS
    refine (KS).mono ?_
    rintro e w1 ⟨rfl, hb⟩
    replace XA0 := XA0.later hb
    replace B := Lib.hid (B.out.trans (hb.mono B.out.size))
    clear hb
    go_wp2
    go_ret
    exact ⟨rfl, B.out⟩
  rw [if_neg hle0] at KS
  have nz0 : ¬ (1048576 : Int) - (n0 : Int) < 0 := by omega
  refine (KS).mono ?_
  rintro e w1 ⟨rfl, hb⟩
  clear KS
  replace XA0 := XA0.later hb
  replace B := Lib.hid (B.out.trans (hb.mono B.out.size))
  clear hb
  obtain ⟨cxa00, cxa01, cxa02, cxa03, cxa04, cxa05, cxa06⟩ := (XA0).cells
  have LN0 := Lib.hid (LenS.arg (s := z0) (by rw [← HN0.out]; omega))
  have K1 := toSum_at w1 V0 z0 (A0.out.below B.out (Nat.le_refl _)) LN0.out
  go_wp2_with fail
  refine (K1).mono ?_
  rintro e w2 ⟨U1, rfl, ho, hb⟩
  clear K1
  have SO1 := Lib.hid B.out.size
  clear cxa00 cxa01 cxa02 cxa03 cxa04 cxa05 cxa06
  replace XA0 := XA0.later hb
  replace B := Lib.hid (B.out.trans (hb.mono B.out.size))
  have O1 := Lib.hid (ho)
  clear hb
  obtain ⟨cxa00, cxa01, cxa02, cxa03, cxa04, cxa05, cxa06⟩ := (XA0).cells
  clear ho
  have K1 := spSumGet_at w2 U1 z0 a1 O1.out.rd
  have KI := Lib.hid (fun W U h => imSumGet_at W U z0 a1 h)
  generalize getSL z0 a1 = x at K1 KI
  generalize getSM z0 a1 = y at K1 KI
  have ek : (x != x) = false := by simp
  have ey : (y != y) = false := by simp
  go_wp2_with fail
  refine (K1).mono ?_
  rintro e w3 ⟨rfl, hb⟩
  clear K1
  clear O1
  clear cxa00 cxa01 cxa02 cxa03 cxa04 cxa05 cxa06
  replace XA0 := XA0.later hb
  replace B := Lib.hid (B.out.trans (hb.mono B.out.size))
  clear hb
  obtain ⟨cxa00, cxa01, cxa02, cxa03, cxa04, cxa05, cxa06⟩ := (XA0).cells
  have K1 := toSum_at w3 V0 z0 (A0.out.below B.out (Nat.le_refl _)) LN0.out
  go_wp2_with fail
  refine (K1).mono ?_
  rintro e w4 ⟨U2, rfl, ho, hb⟩
  clear K1
  have SO2 := Lib.hid B.out.size
  clear cxa00 cxa01 cxa02 cxa03 cxa04 cxa05 cxa06
  replace XA0 := XA0.later hb
  replace B := Lib.hid (B.out.trans (hb.mono B.out.size))
  have O2 := Lib.hid (ho)
  clear hb
  obtain ⟨W4, hW⟩ : ∃ W, W = (w4.alloc (.cells #[.slice U2.xr U2.nr U2.cr, .slice U2.xf U2.nf U2.cf, .slice U2.xt U2.nt U2.ct, .int .i64 z0.lo, .int .i64 z0.al, .slice U2.xk U2.nk U2.ck, .int .i64 z0.ka] 36)) := ⟨_, rfl⟩
  obtain ⟨axa00, axa01, axa02, axa03, axa04, axa05, axa06⟩ := ((XA0.alloc (.cells #[.slice U2.xr U2.nr U2.cr, .slice U2.xf U2.nf U2.cf, .slice U2.xt U2.nt U2.ct, .int .i64 z0.lo, .int .i64 z0.al, .slice U2.xk U2.nk U2.ck, .int .i64 z0.ka] 36))).cells
  replace XA0 := XA0.alloc (.cells #[.slice U2.xr U2.nr U2.cr, .slice U2.xf U2.nf U2.cf, .slice U2.xt U2.nt U2.ct, .int .i64 z0.lo, .int .i64 z0.al, .slice U2.xk U2.nk U2.ck, .int .i64 z0.ka] 36)
  rw [← hW] at XA0
  replace B := Lib.hid ((B.out).alloc (Nat.le_trans B.out.size (by simp)) (.cells #[.slice U2.xr U2.nr U2.cr, .slice U2.xf U2.nf U2.cf, .slice U2.xt U2.nt U2.ct, .int .i64 z0.lo, .int .i64 z0.al, .slice U2.xk U2.nk U2.ck, .int .i64 z0.ka] 36))
  rw [← hW] at B
  replace O2 := Lib.hid (O2.out.alloc (.cells #[.slice U2.xr U2.nr U2.cr, .slice U2.xf U2.nf U2.cf, .slice U2.xt U2.nt U2.ct, .int .i64 z0.lo, .int .i64 z0.al, .slice U2.xk U2.nk U2.ck, .int .i64 z0.ka] 36))
  rw [← hW] at O2
  have X := Box7.new w4 36 (.slice U2.xr U2.nr U2.cr) (.slice U2.xf U2.nf U2.cf) (.slice U2.xt U2.nt U2.ct) (.int .i64 z0.lo) (.int .i64 z0.al) (.slice U2.xk U2.nk U2.ck) (.int .i64 z0.ka)
  rw [← hW] at X
  go_wp2_with fail
  rw [← hW]
  clear hW axa00 axa01 axa02 axa03 axa04 axa05 axa06
  clear ho
  have K1 := KI.out W4 U2 O2.out.rd
  go_wp2_with fail
  refine (K1).mono ?_
  rintro e w5 ⟨rfl, hb⟩
  clear K1 KI
  replace XA0 := XA0.later hb
  replace B := Lib.hid (B.out.trans (hb.mono B.out.size))
  replace O2 := Lib.hid (O2.out.below hb)
  replace X := X.later hb
  clear hb
  go_wp2
  have KT : Hid (∀ W', Below w5.heap.size w5 W' → Calls Try.prog 32 #[.agg #[.slice V0.xr V0.nr V0.cr, .slice V0.xf V0.nf V0.cf, .slice V0.xt V0.nt V0.ct, .int .i64 z0.lo, .int .i64 z0.al, .slice V0.xk V0.nk V0.ck, .int .i64 z0.ka]] W' fun e w' => ∃ U, e = .returned (.agg #[.slice U.xr U.nr U.cr, .slice U.xf U.nf U.cf, .slice U.xt U.nt U.ct, .int .i64 z0.lo, .int .i64 z0.al, .slice U.xk U.nk U.ck, .int .i64 z0.ka]) ∧ OwnS w' W'.heap.size w'.heap.size U z0 ∧ Below W'.heap.size W' w') := fun W' h => toSum_at W' V0 z0 (A0.out.below (B.out.trans (h.mono B.out.size)) (Nat.le_refl _)) LN0.out
  have D0 := Lib.hid (Below.drew (Below.refl w5.heap.size w5))
  have HS : Hid (∀ w', Below w5.heap.size w5 w' → (w'.cell? ⟨w4.heap.size, 0, none⟩ = some (.slice U2.xr U2.nr U2.cr) ∧ w'.cell? ⟨w4.heap.size, 1, none⟩ = some (.slice U2.xf U2.nf U2.cf) ∧ w'.cell? ⟨w4.heap.size, 2, none⟩ = some (.slice U2.xt U2.nt U2.ct) ∧ w'.cell? ⟨w4.heap.size, 3, none⟩ = some (.int .i64 z0.lo) ∧ w'.cell? ⟨w4.heap.size, 4, none⟩ = some (.int .i64 z0.al) ∧ w'.cell? ⟨w4.heap.size, 5, none⟩ = some (.slice U2.xk U2.nk U2.ck) ∧ w'.cell? ⟨w4.heap.size, 6, none⟩ = some (.int .i64 z0.ka)) ∧ (w'.cell? ⟨w.heap.size, 0, none⟩ = some (.slice V0.xr V0.nr V0.cr) ∧ w'.cell? ⟨w.heap.size, 1, none⟩ = some (.slice V0.xf V0.nf V0.cf) ∧ w'.cell? ⟨w.heap.size, 2, none⟩ = some (.slice V0.xt V0.nt V0.ct) ∧ w'.cell? ⟨w.heap.size, 3, none⟩ = some (.int .i64 z0.lo) ∧ w'.cell? ⟨w.heap.size, 4, none⟩ = some (.int .i64 z0.al) ∧ w'.cell? ⟨w.heap.size, 5, none⟩ = some (.slice V0.xk V0.nk V0.ck) ∧ w'.cell? ⟨w.heap.size, 6, none⟩ = some (.int .i64 z0.ka))) := fun w' h => ⟨(X.later h).cells, (XA0.later h).cells⟩
  clear XA0 X
  go_region_held3 (fun w' => (w'.cell? ⟨w4.heap.size, 0, none⟩ = some (.slice U2.xr U2.nr U2.cr) ∧ w'.cell? ⟨w4.heap.size, 1, none⟩ = some (.slice U2.xf U2.nf U2.cf) ∧ w'.cell? ⟨w4.heap.size, 2, none⟩ = some (.slice U2.xt U2.nt U2.ct) ∧ w'.cell? ⟨w4.heap.size, 3, none⟩ = some (.int .i64 z0.lo) ∧ w'.cell? ⟨w4.heap.size, 4, none⟩ = some (.int .i64 z0.al) ∧ w'.cell? ⟨w4.heap.size, 5, none⟩ = some (.slice U2.xk U2.nk U2.ck) ∧ w'.cell? ⟨w4.heap.size, 6, none⟩ = some (.int .i64 z0.ka)) ∧ (w'.cell? ⟨w.heap.size, 0, none⟩ = some (.slice V0.xr V0.nr V0.cr) ∧ w'.cell? ⟨w.heap.size, 1, none⟩ = some (.slice V0.xf V0.nf V0.cf) ∧ w'.cell? ⟨w.heap.size, 2, none⟩ = some (.slice V0.xt V0.nt V0.ct) ∧ w'.cell? ⟨w.heap.size, 3, none⟩ = some (.int .i64 z0.lo) ∧ w'.cell? ⟨w.heap.size, 4, none⟩ = some (.int .i64 z0.al) ∧ w'.cell? ⟨w.heap.size, 5, none⟩ = some (.slice V0.xk V0.nk V0.ck) ∧ w'.cell? ⟨w.heap.size, 6, none⟩ = some (.int .i64 z0.ka))) (first | (with_reducible exact HS.out _ D0.out) | (with_reducible exact HS.out _ D1.out) | (with_reducible exact HS.out _ D2.out)) (first
    | (go_at_call 32; (with_reducible refine (KT.out _ D0.out).mono ?_); rintro e v1 ⟨U7, rfl, ho7, hb⟩; have D1 := Lib.hid (D0.out.trans (hb.mono D0.out.size)); have O7 := Lib.hid ho7; clear ho7 hb)
    | (go_at_call 28; (with_reducible refine (eqSum_at _ U2 U7 z0 (O2.out.below D1.out).rd O7.out.rd LN0.out).mono ?_); rintro e v2 ⟨rfl, hb⟩; have D2 := Lib.hid (D1.out.trans (hb.mono D1.out.size)); clear hb))
  all_goals
    (go_wp2; go_ret; exact ⟨rfl, B.out.trans (D2.out.mono B.out.size)⟩)

-- the row's step
set_option maxRecDepth 100000 in
theorem lifted (os : Os) (started : os.Started) (H : Type) (enc : TypeId × Value → H) :
    ReturnsInHanded {} Try.checked os 9 .any (Rows.fnExactSumGetSpec.pre6 enc Try.prog Try.f9 Rows.fnExactSumGetRow.domain false) (Rows.fnExactSumGetSpec.post enc Try.prog Try.f9 false true false false) := by
  refine returnsInHanded_of_change (C := Try.checked) own started (by kernel_rfl) Try.func9
    (ChangeSpec.witness6 (enc := enc) (C := Try.checked) false ⟨#[], #[.agg #[.slice none 0 0, .slice none 0 0, .slice none 0 0, .int .i64 0, .int .i64 0, .slice none 0 0, .int .i64 0], .int .i64 0], []⟩ 8 (by kernel_rfl) (by kernel_rfl) (by kernel_rfl) (by kernel_rfl)) ?_
  intro W base args ds gs before hval0 hW hcnd _
  have hval : ∀ (j : Nat) t v, Try.f9.params[j]? = some t → args[j]? = some v → Value.okWide Try.prog W .any base t v := hval0
  have hW' := hW
  obtain ⟨p, q, hA0, hV, rfl, hfz, hnd⟩ := hW
  have hA : DataW.TrodAll enc Try.prog W 0 (fun _ => true) true Try.f9.params.toList args.toList ds p := hA0
  rw [Try.params9 ] at hA hval
  obtain ⟨v0, vs0, d0, ds0, p0, q0, hargs, rfl, rfl, h0, r0⟩ := trodAll_cons hA
  obtain ⟨v1, vs1, d1, ds1, p1, q1, rfl, rfl, rfl, h1, r1⟩ := trodAll_cons r0
  obtain ⟨rfl, rfl, rfl⟩ := trodAll_nil r1
  obtain rfl : args = #[v0, v1] := by cases args; simp_all
  obtain ⟨rfl, rfl⟩ := trodVars_none hV
  have k0 := h0
  have lt0 : ∀ x ∈ p0, x.block < W.heap.size := by obtain ⟨m, hm⟩ := k0; exact DataW.trod_lt m _ _ _ hm
  obtain ⟨U0, z0, rfl, w0⟩ := open_sum (hval 0 66 v0 rfl rfl) h0
  obtain ⟨a1, rfl, rfl, rfl, w1⟩ := open_int Try.underlying3 (hval 1 3 v1 rfl rfl) h1
  clear hA0 hval0
  refine (walk U0 z0 a1 W w0 w1).mono fun e W' ⟨he, bel⟩ => ?_
  subst he
  exact ⟨_, rfl, _, _, _, [], _, [], hW', trodAll_mk1 (shut_bool Try.underlying4 _), (trodAll_cons_mk (Below.trod laidOut (by kernel_rfl) (of_decide_eq_true (by kernel_rfl)) k0 bel lt0) (trodAll_cons_mk (shut_int Try.underlying3 w1) trodAll_mk0)), rfl, bel.frame _, fun h => by cases h⟩

theorem over : Rows.fnExactSumGetRow.holds Try.pinned (OpenSpec.ofChange Rows.fnExactSumGetSpec) :=
  OpenClaim.holds_of_wide 9 Try.f9 rfl rfl rfl rfl rfl rfl rfl ⟨rfl, rfl, rfl, rfl, rfl⟩ rfl rfl rfl rfl rfl (by kernel_rfl) Try.func9 (by kernel_rfl)
    (of_decide_eq_true (by kernel_rfl)) (by unfold Func.isWrapper; first | (rw [if_pos (by decide +kernel)]; kernel_rfl) | (rw [if_neg (by decide +kernel)]; exact ⟨rfl, rfl⟩))
    (fun os started H enc _ => lifted os started H enc)

theorem proved : Rows.FnExactSumGetSaid := over
#print axioms proved
end Go.Proofs.Ytnoilafoeaknjaa.fnExactSumGet
