/-
  The statement of the law FnExactNetReach: at every input the call returns true and leaves what it was given as it was.
-/
import Derived.Deep.DeepCutAuto
import Derived.Test.YtcblbdpdbggkbaaGreatRows
import Derived.WalkKit
import Derived.ProofKit
import Derived.OpenShut
import Derived.ShutString
import Derived.ChangeOld
import Derived.Below
import Derived.Test.YtcblbdpdbggkbaaGreatSFnExactNetReach3
namespace Go.Proofs.YtcblbdpdbggkbaaGreat.fnExactNetReach
open Go.ChangeShapes Go.WideShapes Go.ChangeAt Go.RowKit
open Go.ChangeMaps (open_string shut_string)
set_option linter.unusedVariables false

theorem own : ownKnob Tryz.prog.godebug = none := by kernel_rfl
theorem laidOut : laidOutB Tryz.prog = true := by kernel_rfl

set_option maxRecDepth 20000 in
set_option maxHeartbeats 2000000 in
theorem walk (V0 : N.NV) (z0 : N.Nt) (w : World) (w0 : N.ArgN w V0 z0) :
    Calls Tryz.prog 13 #[.agg #[.slice V0.x1 V0.k1 V0.c1, .slice V0.x2 V0.k2 V0.c2, .slice V0.x3 V0.k3 V0.c3, .slice V0.x4 V0.k4 V0.c4]] w fun e w' => e = .returned (.bool true) ∧ Below w.heap.size w w' := by
  open N in
  have hS : N.SortOk := N.sort_ok
  obtain ⟨x1, k1, c1, x2, k2, c2, x3, k3, c3, x4, k4, c4⟩ := V0
  have hA : N.netA w [.slice x1 k1 c1, .slice x2 k2 c2, .slice x3 k3 c3, .slice x4 k4 c4] z0 := w0
  simp only
  have A0 := Lib.hid hA
  have h0 := (M.start w).alloc #[.slice x1 k1 c1, .slice x2 k2 c2, .slice x3 k3 c3, .slice x4 k4 c4] 80
  obtain ⟨p1, hp1⟩ : ∃ p, p = w.heap.size := ⟨_, rfl⟩
  obtain ⟨W1, hW1⟩ : ∃ W', W' = w.alloc (.cells #[.slice x1 k1 c1, .slice x2 k2 c2, .slice x3 k3 c3, .slice x4 k4 c4] 80) := ⟨_, rfl⟩
  rw [← hW1] at h0
  have H1 := Lib.hid (show M w.heap.size w W1 [boxC p1 80 #[.slice x1 k1 c1, .slice x2 k2 c2, .slice x3 k3 c3, .slice x4 k4 c4]] by rw [hp1]; exact h0)
  clear h0 hA w0
  have ST := Lib.hid (fun (W : World) (hb : Below w.heap.size w W) => (N.netA_stay.keep A0.out hb (Nat.le_refl _)))
  obtain ⟨R, hR⟩ : ∃ R, R = N.reachN z0 := ⟨_, rfl⟩
  have RL := Lib.hid (show R.length ≤ 5 by rw [hR]; exact N.reach_len z0)
  have KSP := Lib.hid (fun (W : World) v1 x k c v3 v4 f h => N.spNetReach_at W (v1 := v1) (v3 := v3) (v4 := v4) (x := x) (k2 := k) (c := c) (n := z0) (f := f) h)
  have KIM := Lib.hid (fun (W : World) v1 x k c v3 v4 f h => N.imNetReach_at hS W (v1 := v1) (v3 := v3) (v4 := v4) (y0 := x) (k2 := k) (c' := c) (n := z0) (f := f) h)
  rw [← hR] at KSP KIM
  clear hR hS
  go_enter Tryz.func13, Tryz.ntmps13
  go_upto_region 1 with fail
  rw [← hW1, ← hp1]
  clear hW1 hp1
  obtain ⟨a0, a1, a2, a3⟩ := H1.out.cells4
  have KS := Lib.hid (N.szNet_at W1 z0 1048576 (ST.out _ H1.out.below) (by decide) (by decide))
  obtain ⟨sz, hsz⟩ : ∃ s, s = N.szNt z0 := ⟨_, rfl⟩
  rw [← hsz] at KS
  have SZ := Lib.hid hsz
  clear hsz
  go_wp2_with fail
  refine KS.out.mono ?_
  rintro r w2 ⟨rfl, hb⟩
  have H2 := Lib.hid (H1.out.later hb)
  clear hb KS H1 a0 a1 a2 a3
  obtain ⟨a0, a1, a2, a3⟩ := H2.out.cells4
  unfold szV
  by_cases hle : (1048576 : Int) < (sz : Int)
  · rw [if_pos hle]
    go_wp2
    go_ret
    exact ⟨rfl, H2.out.below⟩
  rw [if_neg hle]
  have nz : ¬ (1048576 : Int) - (sz : Int) < 0 := by omega
  have LA := Lib.hid (N.LenA.arg (n := z0) (by rw [← SZ.out]; omega))
  obtain ⟨cn, hcn⟩ : ∃ cn, cn = N.cntNt z0 := ⟨_, rfl⟩
  have CN := Lib.hid hcn
  have QC := Lib.hid (show 1 + N.cntNt z0 ≤ 100000000 by have := N.cntNt_sz z0; rw [← SZ.out] at this; omega)
  have ed : ¬ (1 : Int) + cn < 0 := by have := N.cntNt_nn z0; omega
  have KT := Lib.hid (fun (W : World) (hb : Below w.heap.size w W) => N.toNet_at W z0 (ST.out W hb) LA.out)
  clear hcn
  go_wp2_with fail
  refine (KT.out _ H2.out.below).mono ?_
  rintro r w3 ⟨y1, d1, y2, d2, y3, d3, y4, d4, rfl, hU⟩
  have H3 := Lib.hid (H2.out.gotNet hU)
  clear hU H2 a0 a1 a2 a3
  have K1 := Lib.hid (let ⟨f, hf⟩ := H3.out.netIs.links; KSP.out w3 (.slice y1 z0.nodes.length d1) _ _ _ (.slice y3 z0.words.length d3) (.slice y4 z0.past.length d4) f hf)
  go_wp2_with fail
  refine K1.out.mono ?_
  rintro r w4 ⟨va, rfl, hm⟩
  have H4 := Lib.hid (H3.out.plus hm).p1.drop
  clear hm K1 H3 KSP
  obtain ⟨a0, a1, a2, a3⟩ := H4.out.p1.cells4
  have KT2 := Lib.hid (KT.out _ H4.out.below)
  go_wp2_with fail
  refine KT2.out.mono ?_
  rintro r w5 ⟨u1, e1, u2, e2, u3, e3, u4, e4, rfl, hU⟩
  have h5 := (H4.out.gotNet hU).alloc #[.slice u1 z0.nodes.length e1, .slice u2 z0.links.length e2, .slice u3 z0.words.length e3, .slice u4 z0.past.length e4] 30
  obtain ⟨p5, hp5⟩ : ∃ p, p = w5.heap.size := ⟨_, rfl⟩
  obtain ⟨W5, hW5⟩ : ∃ W', W' = w5.alloc (.cells #[.slice u1 z0.nodes.length e1, .slice u2 z0.links.length e2, .slice u3 z0.words.length e3, .slice u4 z0.past.length e4] 30) := ⟨_, rfl⟩
  rw [← hW5, ← hp5] at h5
  have H5 := Lib.hid h5
  clear hU h5 KT2 H4 a0 a1 a2 a3
  go_upto_region 7 with fail
  rw [← hW5, ← hp5]
  clear hW5 hp5
  obtain ⟨b0, b1, b2, b3⟩ := H5.out.cells4
  have K1 := Lib.hid (let ⟨f, hf⟩ := H5.out.p1.netIs.links; KIM.out W5 (.slice u1 z0.nodes.length e1) _ _ _ (.slice u3 z0.words.length e3) (.slice u4 z0.past.length e4) f hf)
  go_wp2_with fail
  refine K1.out.mono ?_
  rintro r w6 ⟨vb, rfl, hm⟩
  have H6 := Lib.hid (H5.out.plus hm)
  clear hm K1 H5 b0 b1 b2 b3
  have K1 := eqIntS_at w6 _ _ R R H6.out.ints H6.out.p3.ints (by have := RL.out; unfold maxLen; omega)
  rw [show decide (R = R) = true from decide_eq_true rfl] at K1
  go_wp2_with fail
  refine K1.mono ?_
  rintro r w7 ⟨rfl, m7, rfl⟩
  have H7 := Lib.hid (((H6.out).drewN m7).drew)
  clear K1 H6
  go_upto_region 10 with fail
  obtain ⟨W, hW⟩ : ∃ W, W = (w6.drewN m7).drew := ⟨_, rfl⟩
  rw [← hW] at H7
  have EW := Lib.hid hW
  clear hW
  obtain ⟨b0, b1, b2, b3⟩ := H7.out.p1.cells4
  obtain ⟨a0, a1, a2, a3⟩ := H7.out.p4.cells4
  have C0 := Lib.hid (show Cells W (b4L p5 (.slice u1 z0.nodes.length e1) (.slice u2 z0.links.length e2) (.slice u3 z0.words.length e3) (.slice u4 z0.past.length e4) ++ b4L p1 (.slice x1 k1 c1) (.slice x2 k2 c2) (.slice x3 k3 c3) (.slice x4 k4 c4)) from ⟨b0, b1, b2, b3, a0, a1, a2, a3, trivial⟩)
  clear b0 b1 b2 b3 a0 a1 a2 a3
  refine wp_region_plan 99 (.take 0 (.take 1 (.alt 2 (.alt 3 (.take 4 .done) .nomore) .nomore))) (fun w' => Cells w' (b4L p5 (.slice u1 z0.nodes.length e1) (.slice u2 z0.links.length e2) (.slice u3 z0.words.length e3) (.slice u4 z0.past.length e4) ++ b4L p1 (.slice x1 k1 c1) (.slice x2 k2 c2) (.slice x3 k3 c3) (.slice x4 k4 c4))) (by kernel_rfl) (by kernel_rfl) (by intro _ _ _ _ _ h; exact h) (by rw [← EW.out]; exact C0.out) ?_
  rw [← EW.out]
  repeat ((first | (refine plan_take (by rfl) (by rfl) ?_; apply Exists.intro; refine ⟨fun w' hw' => ?_, ?_⟩; (· ((try simp only [Cells, Cells_app, b4L, b5L, b6L, b7L, b10L, N.entL, and_true] at hw'); go_simp; (try with_reducible rfl)))) | (refine plan_skip (by rfl) (by rfl) ?_)); simp only [Act.put, List.getElem_toArray, List.getElem_cons_succ, List.getElem_cons_zero, List.setIfInBounds_toArray, List.set_cons_zero, List.set_cons_succ])
  refine plan_last (by rfl) (fun K' hK => ?_)
  go_simp
  refine (KT.out W H7.out.below).mono ?_
  rintro r w8 ⟨t1, f1, t2, f2, t3, f3, t4, f4, rfl, hU⟩
  have H8 := Lib.hid (H7.out.gotNet hU)
  have C8 := Lib.hid (Cells.below C0.out hU.below)
  clear hU H7 C0
  refine hK _ _ (.inr C8.out) ?_
  clear hK K'
  try simp only [Act.put, List.getElem_toArray, List.getElem_cons_succ, List.getElem_cons_zero, List.setIfInBounds_toArray, List.set_cons_zero, List.set_cons_succ]
  refine plan_last (by rfl) (fun K' hK => ?_)
  go_simp
  obtain ⟨_, r1⟩ := H8.out.p3.netR'
  obtain ⟨_, r2⟩ := H8.out.netR'
  refine (N.eqNet_same w8 r1 r2 LA.out.n).mono ?_
  rintro r w9 ⟨rfl, hb⟩
  have H9 := Lib.hid (H8.out.later hb).drop
  have C9 := Lib.hid (Cells.below C8.out hb)
  clear hb H8 C8 r1 r2
  refine hK _ _ (.inr C9.out) ?_
  clear hK K'
  try simp only [Act.put, List.getElem_toArray, List.getElem_cons_succ, List.getElem_cons_zero, List.setIfInBounds_toArray, List.set_cons_zero, List.set_cons_succ]
  repeat ((first | (refine plan_take (by rfl) (by rfl) ?_; apply Exists.intro; refine ⟨fun w' hw' => ?_, ?_⟩; (· ((try simp only [Cells, Cells_app, b4L, b5L, b6L, b7L, b10L, N.entL, and_true] at hw'); go_simp; (try with_reducible rfl)))) | (refine plan_skip (by rfl) (by rfl) ?_)); simp only [Act.put, List.getElem_toArray, List.getElem_cons_succ, List.getElem_cons_zero, List.setIfInBounds_toArray, List.set_cons_zero, List.set_cons_succ])
  refine plan_done ?_
  clear C9
  obtain ⟨b0, b1, b2, b3⟩ := H9.out.p1.cells4
  have K1 := N.markNet_M (k := 1) H9.out.p2 (by omega) QC.out
  rw [← CN.out] at K1
  go_wp2_with fail
  refine K1.mono ?_
  rintro r w10 ⟨rfl, h10⟩
  have H10 := Lib.hid h10.p1
  clear K1 h10 H9 b0 b1 b2 b3
  have K1 := eqIntS_at w10 _ _ R R H10.out.ints H10.out.p3.ints (by have := RL.out; unfold maxLen; omega)
  rw [show decide (R = R) = true from decide_eq_true rfl] at K1
  go_wp2_with fail
  refine K1.mono ?_
  rintro r w11 ⟨rfl, m11, rfl⟩
  have H11 := Lib.hid (H10.out.drewN m11)
  clear K1 H10
  have ee : ((1 : Int) + (R.length : Int) != 1 + (R.length : Int)) = false := by simp
  have ef : ¬ (1 : Int) + (R.length : Int) < 0 := by omega
  have K1 := N.markI1_M H11.out (by have := RL.out; omega)
  go_wp2_with fail
  refine K1.mono ?_
  rintro r w12 ⟨rfl, h12⟩
  have H12 := Lib.hid h12
  clear K1 h12 H11
  have KH := Lib.hid (let ⟨_, r⟩ := M.rd (F := intsR_frame) H12.out; N.heldI_at r (by omega) (by have := RL.out; unfold N.cntI; omega))
  rw [show N.cntI R = (R.length : Int) from rfl] at KH
  go_wp2_with fail
  refine KH.out.mono ?_
  rintro r w13 ⟨rfl, hw⟩
  rw [← hw]
  clear hw KH w13
  obtain ⟨a0, a1, a2, a3⟩ := H12.out.p4.cells4
  have KT2 := Lib.hid (KT.out _ H12.out.below)
  go_wp2_with fail
  refine KT2.out.mono ?_
  rintro r w14 ⟨s1, g1, s2, g2, s3, g3, s4, g4, rfl, hU⟩
  have H14 := Lib.hid (H12.out.gotNet hU)
  clear hU KT2 H12 a0 a1 a2 a3
  have K1 := Lib.hid (let ⟨f, hf⟩ := H14.out.netIs.links; KIM.out w14 (.slice s1 z0.nodes.length g1) _ _ _ (.slice s3 z0.words.length g3) (.slice s4 z0.past.length g4) f hf)
  go_wp2_with fail
  refine K1.out.mono ?_
  rintro r w15 ⟨vc, rfl, hm⟩
  have H15 := Lib.hid (H14.out.plus hm).p1.drop
  clear hm K1 H14
  have K1 := eqIntS_at w15 _ _ R R H15.out.ints H15.out.p4.ints (by have := RL.out; unfold maxLen; omega)
  rw [show decide (R = R) = true from decide_eq_true rfl] at K1
  go_wp2_with fail
  refine K1.mono ?_
  rintro r w16 ⟨rfl, m16, rfl⟩
  have H16 := Lib.hid (H15.out.p1.drewN m16)
  clear K1 H15
  have KH := Lib.hid (let ⟨_, r⟩ := M.rd (F := intsR_frame) H16.out; N.heldI_at r (by omega) (by have := RL.out; unfold N.cntI; omega))
  rw [show N.cntI R = (R.length : Int) from rfl] at KH
  go_wp2_with fail
  refine KH.out.mono ?_
  rintro r w17 ⟨rfl, hw⟩
  rw [← hw]
  clear hw KH w17
  go_wp2
  go_ret
  exact ⟨rfl, H16.out.below⟩

-- the row's step
set_option maxRecDepth 100000 in
theorem lifted (os : Os) (started : os.Started) (H : Type) (enc : TypeId × Value → H) :
    ReturnsInHanded {} Tryz.checked os 13 .any (Rows.fnExactNetReachSpec.pre6 enc Tryz.prog Tryz.f13 Rows.fnExactNetReachRow.domain false) (Rows.fnExactNetReachSpec.post enc Tryz.prog Tryz.f13 false true false false) := by
  refine returnsInHanded_of_change (C := Tryz.checked) own started (by kernel_rfl) Tryz.func13
    (ChangeSpec.witness6 (enc := enc) (C := Tryz.checked) false ⟨#[], #[.agg #[.slice none 0 0, .slice none 0 0, .slice none 0 0, .slice none 0 0]], []⟩ 8 (by kernel_rfl) (by kernel_rfl) (by kernel_rfl) (by kernel_rfl)) ?_
  intro W base args ds gs before hval0 hW hcnd _
  have hval : ∀ (j : Nat) t v, Tryz.f13.params[j]? = some t → args[j]? = some v → Value.okWide Tryz.prog W .any base t v := hval0
  have hW' := hW
  obtain ⟨p, q, hA0, hV, rfl, hfz, hnd⟩ := hW
  have hA : DataW.TrodAll enc Tryz.prog W 0 (fun _ => true) true Tryz.f13.params.toList args.toList ds p := hA0
  rw [Tryz.params13 ] at hA hval
  obtain ⟨v0, vs0, d0, ds0, p0, q0, hargs, rfl, rfl, h0, r0⟩ := trodAll_cons hA
  obtain ⟨rfl, rfl, rfl⟩ := trodAll_nil r0
  obtain rfl : args = #[v0] := by cases args; simp_all
  obtain ⟨rfl, rfl⟩ := trodVars_none hV
  have k0 := h0
  have lt0 : ∀ x ∈ p0, x.block < W.heap.size := by obtain ⟨m, hm⟩ := k0; exact DataW.trod_lt m _ _ _ hm
  obtain ⟨U0, z0, rfl, w0⟩ := N.open_net (hval 0 80 v0 rfl rfl) h0
  clear hA0 hval0
  refine (walk U0 z0 W w0).mono fun e W' ⟨he, bel⟩ => ?_
  subst he
  exact ⟨_, rfl, _, _, _, [], _, [], hW', trodAll_mk1 (shut_bool Tryz.underlying4 _), (trodAll_cons_mk (Below.trod laidOut (by kernel_rfl) (of_decide_eq_true (by kernel_rfl)) k0 bel lt0) trodAll_mk0), rfl, bel.frame _, fun h => by cases h⟩

theorem over : Rows.fnExactNetReachRow.holds Tryz.pinned (OpenSpec.ofChange Rows.fnExactNetReachSpec) :=
  OpenClaim.holds_of_wide 13 Tryz.f13 rfl rfl rfl rfl rfl rfl rfl ⟨rfl, rfl, rfl, rfl, rfl⟩ rfl rfl rfl rfl rfl (by kernel_rfl) Tryz.func13 (by show joinedFacts Tryz.prog _ _ _ _ = true; unfold joinedFacts; rw [mayE, liftF, makeC]; kernel_rfl)
    (of_decide_eq_true (by kernel_rfl)) (by unfold Func.isWrapper; first | (rw [if_pos (by decide +kernel)]; kernel_rfl) | (rw [if_neg (by decide +kernel)]; exact ⟨rfl, rfl⟩))
    (fun os started H enc _ => lifted os started H enc)

theorem proved : Rows.FnExactNetReachSaid := over
#print axioms proved
end Go.Proofs.YtcblbdpdbggkbaaGreat.fnExactNetReach
