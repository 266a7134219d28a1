/-
  The statement of the law FnExactSumNew: at every input the call returns true and leaves what it was given as it was. The frame is the kit's shell; the walk is ours.
-/
import Derived.Test.YtnoilafoeaknjaaZExM
import Derived.Test.YtnoilafoeaknjaaZImNew
import Derived.Test.YtnoilafoeaknjaaZExO
import Derived.Deep.RegionWith
import Derived.Deep.RegionHeld3
import Derived.Deep.DeepCutAuto
import Derived.Test.YtnoilafoeaknjaaRows
import Derived.WalkKit
import Derived.ProofKit
import Derived.OpenShut
import Derived.Below
import Derived.ShutString
namespace Go.Proofs.Ytnoilafoeaknjaa.fnExactSumNew
open Go.ChangeShapes Go.WideShapes Go.ChangeAt Go.RowKit
open Go.ChangeMaps (open_string shut_string)
set_option linter.unusedVariables false

theorem own : ownKnob Try.prog.godebug = none := by kernel_rfl

/-! ### STEP 1: THE WALK: the Go text returns true. 'Grown w w'': the world has at most new blocks (Derived/RowKit3.lean). Part the cases AHEAD of 'go_enter' where a test parts the walk; take each callee by a contract of your own. -/
set_option maxRecDepth 100000 in
set_option maxHeartbeats 16000000 in
theorem walk  (w : World) :
    Calls Try.prog 6 #[] w fun e w' => e = .returned (.bool true) ∧ Below w.heap.size w w' := by
  have B := Lib.hid (Below.refl w.heap.size w)
  have LN := Lib.hid new_ok.small.lens
  have b0 : ¬ (1 : Int) + (totS newSm : Nat) < 0 := by omega
  have q1 : ((1 : Int) + (totS newSm : Nat) != 1 + (totS newSm : Nat)) = false := by simp
  go_enter Try.func6, Try.ntmps6
  have K1 := spSumNew_at w
  go_wp2_with fail
  refine (K1).mono ?_
  rintro e w1 ⟨V0, rfl, ho, hb⟩
  clear K1
  have SO0 := Lib.hid B.out.size
  replace B := Lib.hid (B.out.trans (hb.mono B.out.size))
  have O0 := Lib.hid (ho)
  clear hb
  obtain ⟨W1, hW⟩ : ∃ W, W = (w1.alloc (.cells #[.slice V0.xr V0.nr V0.cr, .slice V0.xf V0.nf V0.cf, .slice V0.xt V0.nt V0.ct, .int .i64 newSm.lo, .int .i64 newSm.al, .slice V0.xk V0.nk V0.ck, .int .i64 newSm.ka] 36)) := ⟨_, rfl⟩
  replace B := Lib.hid ((B.out).alloc (Nat.le_trans B.out.size (by simp)) (.cells #[.slice V0.xr V0.nr V0.cr, .slice V0.xf V0.nf V0.cf, .slice V0.xt V0.nt V0.ct, .int .i64 newSm.lo, .int .i64 newSm.al, .slice V0.xk V0.nk V0.ck, .int .i64 newSm.ka] 36))
  rw [← hW] at B
  replace O0 := Lib.hid (O0.out.alloc (.cells #[.slice V0.xr V0.nr V0.cr, .slice V0.xf V0.nf V0.cf, .slice V0.xt V0.nt V0.ct, .int .i64 newSm.lo, .int .i64 newSm.al, .slice V0.xk V0.nk V0.ck, .int .i64 newSm.ka] 36))
  rw [← hW] at O0
  have X0 := Box7.new w1 36 (.slice V0.xr V0.nr V0.cr) (.slice V0.xf V0.nf V0.cf) (.slice V0.xt V0.nt V0.ct) (.int .i64 newSm.lo) (.int .i64 newSm.al) (.slice V0.xk V0.nk V0.ck) (.int .i64 newSm.ka)
  rw [← hW] at X0
  go_wp2_with fail
  rw [← hW]
  clear hW
  clear ho
  have K1 := imSumNew_at W1
  go_wp2_with fail
  refine (K1).mono ?_
  rintro e w2 ⟨V1, rfl, ho, hb⟩
  clear K1
  have LO0O1 := Lib.hid O0.out.top
  have SO1 := Lib.hid B.out.size
  replace B := Lib.hid (B.out.trans (hb.mono B.out.size))
  replace O0 := Lib.hid (O0.out.below hb)
  replace X0 := X0.later hb
  have O1 := Lib.hid (ho)
  clear hb
  obtain ⟨W2, hW⟩ : ∃ W, W = (w2.alloc (.cells #[.slice V1.xr V1.nr V1.cr, .slice V1.xf V1.nf V1.cf, .slice V1.xt V1.nt V1.ct, .int .i64 newSm.lo, .int .i64 newSm.al, .slice V1.xk V1.nk V1.ck, .int .i64 newSm.ka] 36)) := ⟨_, rfl⟩
  obtain ⟨ax00, ax01, ax02, ax03, ax04, ax05, ax06⟩ := ((X0.alloc (.cells #[.slice V1.xr V1.nr V1.cr, .slice V1.xf V1.nf V1.cf, .slice V1.xt V1.nt V1.ct, .int .i64 newSm.lo, .int .i64 newSm.al, .slice V1.xk V1.nk V1.ck, .int .i64 newSm.ka] 36))).cells
  replace B := Lib.hid ((B.out).alloc (Nat.le_trans B.out.size (by simp)) (.cells #[.slice V1.xr V1.nr V1.cr, .slice V1.xf V1.nf V1.cf, .slice V1.xt V1.nt V1.ct, .int .i64 newSm.lo, .int .i64 newSm.al, .slice V1.xk V1.nk V1.ck, .int .i64 newSm.ka] 36))
  rw [← hW] at B
  replace O0 := Lib.hid (O0.out.alloc (.cells #[.slice V1.xr V1.nr V1.cr, .slice V1.xf V1.nf V1.cf, .slice V1.xt V1.nt V1.ct, .int .i64 newSm.lo, .int .i64 newSm.al, .slice V1.xk V1.nk V1.ck, .int .i64 newSm.ka] 36))
  rw [← hW] at O0
  replace X0 := X0.alloc (.cells #[.slice V1.xr V1.nr V1.cr, .slice V1.xf V1.nf V1.cf, .slice V1.xt V1.nt V1.ct, .int .i64 newSm.lo, .int .i64 newSm.al, .slice V1.xk V1.nk V1.ck, .int .i64 newSm.ka] 36)
  rw [← hW] at X0
  replace O1 := Lib.hid (O1.out.alloc (.cells #[.slice V1.xr V1.nr V1.cr, .slice V1.xf V1.nf V1.cf, .slice V1.xt V1.nt V1.ct, .int .i64 newSm.lo, .int .i64 newSm.al, .slice V1.xk V1.nk V1.ck, .int .i64 newSm.ka] 36))
  rw [← hW] at O1
  have X1 := Box7.new w2 36 (.slice V1.xr V1.nr V1.cr) (.slice V1.xf V1.nf V1.cf) (.slice V1.xt V1.nt V1.ct) (.int .i64 newSm.lo) (.int .i64 newSm.al) (.slice V1.xk V1.nk V1.ck) (.int .i64 newSm.ka)
  rw [← hW] at X1
  go_wp2_with fail
  rw [← hW]
  clear hW ax00 ax01 ax02 ax03 ax04 ax05 ax06
  clear ho
  go_wp2_with fail
  refine (eqSum_at W2 V1 V0 newSm O1.out.rd O0.out.rd LN.out).mono ?_
  rintro e w3 ⟨rfl, hb⟩
  replace B := Lib.hid (B.out.trans (hb.mono B.out.size))
  replace O0 := Lib.hid (O0.out.below hb)
  replace X0 := X0.later hb
  replace O1 := Lib.hid (O1.out.below hb)
  replace X1 := X1.later hb
  clear hb
  obtain ⟨cx10, cx11, cx12, cx13, cx14, cx15, cx16⟩ := (X1).cells
  go_wp2_with fail
  refine (markSum_at w3 _ _ V1 newSm (1) O1.out LN.out (by omega) (by omega)).mono ?_
  rintro e w4 ⟨m1, rfl, hm, ho, mk⟩
  clear cx10 cx11 cx12 cx13 cx14 cx15 cx16
  replace B := Lib.hid (mk.below B.out SO1.out)
  replace O0 := Lib.hid (mk.own (.inl LO0O1.out) O0.out)
  replace X0 := mk.box _ _ _ _ _ _ _ _ _ (by decide) (by decide) (by decide) X0
  replace X1 := mk.box _ _ _ _ _ _ _ _ _ (by decide) (by decide) (by decide) X1
  replace O1 := Lib.hid ho
  have HMm1 := Lib.hid hm
  clear hm ho mk
  obtain ⟨cx10, cx11, cx12, cx13, cx14, cx15, cx16⟩ := (X1).cells
  go_wp2_with fail
  refine (heldSum_at w4 V1 newSm m1 (1) HMm1.out O1.out.rd LN.out (by omega) (by omega)).mono ?_
  rintro e w5 ⟨rfl, hb⟩
  clear cx10 cx11 cx12 cx13 cx14 cx15 cx16
  replace B := Lib.hid (B.out.trans (hb.mono B.out.size))
  replace O0 := Lib.hid (O0.out.below hb)
  replace X0 := X0.later hb
  replace O1 := Lib.hid (O1.out.below hb)
  replace X1 := X1.later hb
  clear hb
  have K1 := imSumNew_at w5
  go_wp2_with fail
  refine (K1).mono ?_
  rintro e w6 ⟨V2, rfl, ho, hb⟩
  clear K1
  have LO0O2 := Lib.hid O0.out.top
  have LO1O2 := Lib.hid O1.out.top
  have SO2 := Lib.hid B.out.size
  replace B := Lib.hid (B.out.trans (hb.mono B.out.size))
  replace O0 := Lib.hid (O0.out.below hb)
  replace X0 := X0.later hb
  replace O1 := Lib.hid (O1.out.below hb)
  replace X1 := X1.later hb
  have O2 := Lib.hid (ho)
  clear hb
  obtain ⟨W6, hW⟩ : ∃ W, W = (w6.alloc (.cells #[.slice V2.xr V2.nr V2.cr, .slice V2.xf V2.nf V2.cf, .slice V2.xt V2.nt V2.ct, .int .i64 newSm.lo, .int .i64 newSm.al, .slice V2.xk V2.nk V2.ck, .int .i64 newSm.ka] 36)) := ⟨_, rfl⟩
  obtain ⟨ax00, ax01, ax02, ax03, ax04, ax05, ax06⟩ := ((X0.alloc (.cells #[.slice V2.xr V2.nr V2.cr, .slice V2.xf V2.nf V2.cf, .slice V2.xt V2.nt V2.ct, .int .i64 newSm.lo, .int .i64 newSm.al, .slice V2.xk V2.nk V2.ck, .int .i64 newSm.ka] 36))).cells
  replace B := Lib.hid ((B.out).alloc (Nat.le_trans B.out.size (by simp)) (.cells #[.slice V2.xr V2.nr V2.cr, .slice V2.xf V2.nf V2.cf, .slice V2.xt V2.nt V2.ct, .int .i64 newSm.lo, .int .i64 newSm.al, .slice V2.xk V2.nk V2.ck, .int .i64 newSm.ka] 36))
  rw [← hW] at B
  replace O0 := Lib.hid (O0.out.alloc (.cells #[.slice V2.xr V2.nr V2.cr, .slice V2.xf V2.nf V2.cf, .slice V2.xt V2.nt V2.ct, .int .i64 newSm.lo, .int .i64 newSm.al, .slice V2.xk V2.nk V2.ck, .int .i64 newSm.ka] 36))
  rw [← hW] at O0
  replace X0 := X0.alloc (.cells #[.slice V2.xr V2.nr V2.cr, .slice V2.xf V2.nf V2.cf, .slice V2.xt V2.nt V2.ct, .int .i64 newSm.lo, .int .i64 newSm.al, .slice V2.xk V2.nk V2.ck, .int .i64 newSm.ka] 36)
  rw [← hW] at X0
  replace O1 := Lib.hid (O1.out.alloc (.cells #[.slice V2.xr V2.nr V2.cr, .slice V2.xf V2.nf V2.cf, .slice V2.xt V2.nt V2.ct, .int .i64 newSm.lo, .int .i64 newSm.al, .slice V2.xk V2.nk V2.ck, .int .i64 newSm.ka] 36))
  rw [← hW] at O1
  replace X1 := X1.alloc (.cells #[.slice V2.xr V2.nr V2.cr, .slice V2.xf V2.nf V2.cf, .slice V2.xt V2.nt V2.ct, .int .i64 newSm.lo, .int .i64 newSm.al, .slice V2.xk V2.nk V2.ck, .int .i64 newSm.ka] 36)
  rw [← hW] at X1
  replace O2 := Lib.hid (O2.out.alloc (.cells #[.slice V2.xr V2.nr V2.cr, .slice V2.xf V2.nf V2.cf, .slice V2.xt V2.nt V2.ct, .int .i64 newSm.lo, .int .i64 newSm.al, .slice V2.xk V2.nk V2.ck, .int .i64 newSm.ka] 36))
  rw [← hW] at O2
  have X2 := Box7.new w6 36 (.slice V2.xr V2.nr V2.cr) (.slice V2.xf V2.nf V2.cf) (.slice V2.xt V2.nt V2.ct) (.int .i64 newSm.lo) (.int .i64 newSm.al) (.slice V2.xk V2.nk V2.ck) (.int .i64 newSm.ka)
  rw [← hW] at X2
  go_wp2_with fail
  rw [← hW]
  clear hW ax00 ax01 ax02 ax03 ax04 ax05 ax06
  clear ho
  go_wp2_with fail
  refine (eqSum_at W6 V2 V0 newSm O2.out.rd O0.out.rd LN.out).mono ?_
  rintro e w7 ⟨rfl, hb⟩
  replace B := Lib.hid (B.out.trans (hb.mono B.out.size))
  replace O0 := Lib.hid (O0.out.below hb)
  replace X0 := X0.later hb
  replace O1 := Lib.hid (O1.out.below hb)
  replace X1 := X1.later hb
  replace O2 := Lib.hid (O2.out.below hb)
  replace X2 := X2.later hb
  clear hb
  obtain ⟨cx10, cx11, cx12, cx13, cx14, cx15, cx16⟩ := (X1).cells
  go_wp2_with fail
  refine (heldSum_at w7 V1 newSm m1 (1) HMm1.out O1.out.rd LN.out (by omega) (by omega)).mono ?_
  rintro e w8 ⟨rfl, hb⟩
  clear cx10 cx11 cx12 cx13 cx14 cx15 cx16
  replace B := Lib.hid (B.out.trans (hb.mono B.out.size))
  replace O0 := Lib.hid (O0.out.below hb)
  replace X0 := X0.later hb
  replace O1 := Lib.hid (O1.out.below hb)
  replace X1 := X1.later hb
  replace O2 := Lib.hid (O2.out.below hb)
  replace X2 := X2.later hb
  clear hb
  go_wp2
  go_ret
  exact ⟨rfl, B.out⟩

/-! ### THE ROW's STEP: WRITTEN OUT: LEAVE IT -/
set_option maxRecDepth 100000 in
theorem lifted (os : Os) (started : os.Started) (H : Type) (enc : TypeId × Value → H) :
    ReturnsInHanded {} Try.checked os 6 .any (Rows.fnExactSumNewSpec.pre6 enc Try.prog Try.f6 Rows.fnExactSumNewRow.domain false) (Rows.fnExactSumNewSpec.post enc Try.prog Try.f6 false true false false) := by
  refine returnsInHanded_of_change (C := Try.checked) own started (by kernel_rfl) Try.func6
    (ChangeSpec.witness6 (enc := enc) (C := Try.checked) false ⟨#[], #[], []⟩ 8 (by kernel_rfl) (by kernel_rfl) (by kernel_rfl) (by kernel_rfl)) ?_
  intro W base args ds gs before hval0 hW hcnd _
  have hval : ∀ (j : Nat) t v, Try.f6.params[j]? = some t → args[j]? = some v → Value.okWide Try.prog W .any base t v := hval0
  have hW' := hW
  obtain ⟨p, q, hA0, hV, rfl, hfz, hnd⟩ := hW
  have hA : DataW.TrodAll enc Try.prog W 0 (fun _ => true) true Try.f6.params.toList args.toList ds p := hA0
  rw [Try.params6] at hA hval
  obtain ⟨rfl, rfl, rfl⟩ := trodAll_none hA
  obtain ⟨rfl, rfl⟩ := trodVars_none hV
  clear hA0 hval0
  refine (walk  W).mono fun e W' ⟨he, hg⟩ => ?_
  subst he
  exact ⟨_, rfl, _, _, _, [], _, [], hW', (trodAll_cons_mk (shut_bool Try.underlying4 _) trodAll_mk0), rfl, rfl, hg.frame _, fun h => by cases h⟩

theorem over : Rows.fnExactSumNewRow.holds Try.pinned (OpenSpec.ofChange Rows.fnExactSumNewSpec) :=
  OpenClaim.holds_of_wide 6 Try.f6 rfl rfl rfl rfl rfl rfl rfl ⟨rfl, rfl, rfl, rfl, rfl⟩ rfl rfl rfl rfl rfl (by kernel_rfl) Try.func6 (by kernel_rfl)
    (of_decide_eq_true (by kernel_rfl)) (by unfold Func.isWrapper; first | (rw [if_pos (by decide +kernel)]; kernel_rfl) | (rw [if_neg (by decide +kernel)]; exact ⟨rfl, rfl⟩))
    (fun os started H enc _ => lifted os started H enc)

theorem proved : Rows.FnExactSumNewSaid :=
  over
#print axioms proved
end Go.Proofs.Ytnoilafoeaknjaa.fnExactSumNew
