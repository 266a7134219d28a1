/-
  The statement of the law FnExactNetOk: at every input the call returns true and leaves what it was given as it was.
-/
import Derived.Deep.DeepCutAuto
import Derived.Test.YtcblbdpdbggkbaaGreatRows
import Derived.WalkKit
import Derived.ProofKit
import Derived.OpenShut
import Derived.ShutString
import Derived.ChangeOld
import Derived.Below
import Derived.Test.YtcblbdpdbggkbaaGreatSFnExactNetOk6
namespace Go.Proofs.YtcblbdpdbggkbaaGreat.fnExactNetOk
open Go.ChangeShapes Go.WideShapes Go.ChangeAt Go.RowKit
open Go.ChangeMaps (open_string shut_string)
set_option linter.unusedVariables false
set_option linter.unusedSimpArgs false

theorem own : ownKnob Tryz.prog.godebug = none := by kernel_rfl
theorem laidOut : laidOutB Tryz.prog = true := by kernel_rfl

set_option maxRecDepth 20000 in
set_option maxHeartbeats 2000000 in
theorem walk (V0 : N.NV) (z0 : N.Nt) (w : World) (w0 : N.ArgN w V0 z0) :
    Calls Tryz.prog 12 #[.agg #[.slice V0.x1 V0.k1 V0.c1, .slice V0.x2 V0.k2 V0.c2, .slice V0.x3 V0.k3 V0.c3, .slice V0.x4 V0.k4 V0.c4]] w fun e w' => e = .returned (.bool true) ∧ Below w.heap.size w w' := by
  open N in
  obtain ⟨x1, k1, c1, x2, k2, c2, x3, k3, c3, x4, k4, c4⟩ := V0
  have hA : N.netA w [.slice x1 k1 c1, .slice x2 k2 c2, .slice x3 k3 c3, .slice x4 k4 c4] z0 := w0
  simp only
  have A0 := Lib.hid hA
  have h0 := (M.start w).alloc #[.slice x1 k1 c1, .slice x2 k2 c2, .slice x3 k3 c3, .slice x4 k4 c4] 80
  obtain ⟨p1, hp1⟩ : ∃ p, p = w.heap.size := ⟨_, rfl⟩
  obtain ⟨W1, hW1⟩ : ∃ W', W' = w.alloc (.cells #[.slice x1 k1 c1, .slice x2 k2 c2, .slice x3 k3 c3, .slice x4 k4 c4] 80) := ⟨_, rfl⟩
  rw [← hW1] at h0
  have H1 := Lib.hid (show M w.heap.size w W1 [boxC p1 80 #[.slice x1 k1 c1, .slice x2 k2 c2, .slice x3 k3 c3, .slice x4 k4 c4]] by rw [hp1]; exact h0)
  clear h0 hA w0
  have ST := Lib.hid (fun (W : World) (hb : Below w.heap.size w W) => (N.netA_stay.keep A0.out hb (Nat.le_refl _)))
  go_enter Tryz.func12, Tryz.ntmps12
  go_upto_region 1 with fail
  rw [← hW1, ← hp1]
  clear hW1 hp1
  obtain ⟨a0, a1, a2, a3⟩ := H1.out.cells4
  have KS := Lib.hid (N.szNet_at W1 z0 1048576 (ST.out _ H1.out.below) (by decide) (by decide))
  obtain ⟨sz, hsz⟩ : ∃ s, s = N.szNt z0 := ⟨_, rfl⟩
  rw [← hsz] at KS
  have SZ := Lib.hid hsz
  clear hsz
  go_wp2_with fail
  refine KS.out.mono ?_
  rintro r w2 ⟨rfl, hb⟩
  have H2 := Lib.hid (H1.out.later hb)
  clear hb KS H1 a0 a1 a2 a3
  obtain ⟨a0, a1, a2, a3⟩ := H2.out.cells4
  unfold szV
  by_cases hle : (1048576 : Int) < (sz : Int)
  · rw [if_pos hle]
    go_wp2
    go_ret
    exact ⟨rfl, H2.out.below⟩
  rw [if_neg hle]
  have nz : ¬ (1048576 : Int) - (sz : Int) < 0 := by omega
  have LA := Lib.hid (N.LenA.arg (n := z0) (by rw [← SZ.out]; omega))
  have KT := Lib.hid (fun (W : World) (hb : Below w.heap.size w W) => N.toNet_at W z0 (ST.out W hb) LA.out)
  go_wp2_with fail
  refine (KT.out _ H2.out.below).mono ?_
  rintro r w3 ⟨y1, d1, y2, d2, y3, d3, y4, d4, rfl, hU⟩
  have H3 := Lib.hid (H2.out.gotNet hU)
  clear hU H2 a0 a1 a2 a3
  obtain ⟨q, hq⟩ : ∃ q, q = N.okNB z0 := ⟨_, rfl⟩
  have HQ := Lib.hid hq
  have K1 := N.spNetOk_at w3 H3.out.netIs
  rw [← hq] at K1
  clear hq
  go_wp2_with fail
  refine K1.mono ?_
  rintro r w4 ⟨rfl, hb⟩
  have H4 := Lib.hid (H3.out.later hb).drop
  clear hb K1 H3
  obtain ⟨a0, a1, a2, a3⟩ := H4.out.cells4
  have KT2 := Lib.hid (KT.out _ H4.out.below)
  go_wp2_with fail
  refine KT2.out.mono ?_
  rintro r w5 ⟨u1, e1, u2, e2, u3, e3, u4, e4, rfl, hU⟩
  have h5 := (H4.out.gotNet hU).alloc #[.slice u1 z0.nodes.length e1, .slice u2 z0.links.length e2, .slice u3 z0.words.length e3, .slice u4 z0.past.length e4] 30
  obtain ⟨p5, hp5⟩ : ∃ p, p = w5.heap.size := ⟨_, rfl⟩
  obtain ⟨W5, hW5⟩ : ∃ W', W' = w5.alloc (.cells #[.slice u1 z0.nodes.length e1, .slice u2 z0.links.length e2, .slice u3 z0.words.length e3, .slice u4 z0.past.length e4] 30) := ⟨_, rfl⟩
  rw [← hW5, ← hp5] at h5
  have H5 := Lib.hid h5
  clear hU h5 KT2 H4 a0 a1 a2 a3
  go_upto_region 7 with fail
  rw [← hW5, ← hp5]
  clear hW5 hp5
  obtain ⟨b0, b1, b2, b3⟩ := H5.out.cells4
  have K1 := N.imNetOk_at W5 H5.out.p1.netIs
  rw [← HQ.out] at K1
  have gq : (q != q) = false := by cases q <;> rfl
  have gq2 : (!q == q) = false := by cases q <;> rfl
  go_wp2_with fail
  refine K1.mono ?_
  rintro r w6 ⟨rfl, hb⟩
  have H6 := Lib.hid (H5.out.later hb).drew
  clear hb K1 H5 b0 b1 b2 b3
  go_upto_region 10 with fail
  obtain ⟨W, hW⟩ : ∃ W, W = w6.drew := ⟨_, rfl⟩
  rw [← hW] at H6
  have EW := Lib.hid hW
  clear hW
  obtain ⟨b0, b1, b2, b3⟩ := H6.out.cells4
  obtain ⟨a0, a1, a2, a3⟩ := H6.out.p2.cells4
  have C0 := Lib.hid (show Cells W (b4L p5 (.slice u1 z0.nodes.length e1) (.slice u2 z0.links.length e2) (.slice u3 z0.words.length e3) (.slice u4 z0.past.length e4) ++ b4L p1 (.slice x1 k1 c1) (.slice x2 k2 c2) (.slice x3 k3 c3) (.slice x4 k4 c4)) from ⟨b0, b1, b2, b3, a0, a1, a2, a3, trivial⟩)
  clear b0 b1 b2 b3 a0 a1 a2 a3
  refine wp_region_plan 99 (.take 0 (.take 1 (.alt 2 (.alt 3 (.take 4 .done) .nomore) .nomore))) (fun w' => Cells w' (b4L p5 (.slice u1 z0.nodes.length e1) (.slice u2 z0.links.length e2) (.slice u3 z0.words.length e3) (.slice u4 z0.past.length e4) ++ b4L p1 (.slice x1 k1 c1) (.slice x2 k2 c2) (.slice x3 k3 c3) (.slice x4 k4 c4))) (by kernel_rfl) (by kernel_rfl) (by intro _ _ _ _ _ h; exact h) (by rw [← EW.out]; exact C0.out) ?_
  rw [← EW.out]
  repeat (first | (refine plan_take (by rfl) (by rfl) ?_; apply Exists.intro; refine ⟨fun w' hw' => ?_, ?_⟩; (· ((try simp only [Cells, Cells_app, b4L, b5L, b6L, b7L, b10L, N.entL, and_true] at hw'); go_simp; (try with_reducible rfl))); simp only [Act.put, List.getElem_toArray, List.getElem_cons_succ, List.getElem_cons_zero, List.setIfInBounds_toArray, List.set_cons_zero, List.set_cons_succ]) | (refine plan_skip (by rfl) (by rfl) ?_; simp only [Act.put, List.getElem_toArray, List.getElem_cons_succ, List.getElem_cons_zero, List.setIfInBounds_toArray, List.set_cons_zero, List.set_cons_succ]))
  refine plan_last (by rfl) (fun K' hK => ?_)
  go_simp
  refine (KT.out W H6.out.below).mono ?_
  rintro r w7 ⟨t1, f1, t2, f2, t3, f3, t4, f4, rfl, hU⟩
  have H7 := Lib.hid (H6.out.gotNet hU)
  have C7 := Lib.hid (Cells.below C0.out hU.below)
  clear hU H6 C0
  refine hK _ _ (.inr C7.out) ?_
  clear hK K'
  try simp only [Act.put, List.getElem_toArray, List.getElem_cons_succ, List.getElem_cons_zero, List.setIfInBounds_toArray, List.set_cons_zero, List.set_cons_succ]
  refine plan_last (by rfl) (fun K' hK => ?_)
  go_simp
  obtain ⟨_, r1⟩ := H7.out.p2.netR'
  obtain ⟨_, r2⟩ := H7.out.netR'
  refine (N.eqNet_same w7 r1 r2 LA.out.n).mono ?_
  rintro r w8 ⟨rfl, hb⟩
  have H8 := Lib.hid (H7.out.later hb)
  have C8 := Lib.hid (Cells.below C7.out hb)
  clear hb H7 C7 r1 r2
  refine hK _ _ (.inr C8.out) ?_
  clear hK K'
  try simp only [Act.put, List.getElem_toArray, List.getElem_cons_succ, List.getElem_cons_zero, List.setIfInBounds_toArray, List.set_cons_zero, List.set_cons_succ]
  repeat (first | (refine plan_take (by rfl) (by rfl) ?_; apply Exists.intro; refine ⟨fun w' hw' => ?_, ?_⟩; (· ((try simp only [Cells, Cells_app, b4L, b5L, b6L, b7L, b10L, N.entL, and_true] at hw'); go_simp; (try with_reducible rfl))); simp only [Act.put, List.getElem_toArray, List.getElem_cons_succ, List.getElem_cons_zero, List.setIfInBounds_toArray, List.set_cons_zero, List.set_cons_succ]) | (refine plan_skip (by rfl) (by rfl) ?_; simp only [Act.put, List.getElem_toArray, List.getElem_cons_succ, List.getElem_cons_zero, List.setIfInBounds_toArray, List.set_cons_zero, List.set_cons_succ]))
  refine plan_done ?_
  go_wp2
  go_ret
  exact ⟨rfl, H8.out.below⟩

-- the row's step
set_option maxRecDepth 100000 in
theorem lifted (os : Os) (started : os.Started) (H : Type) (enc : TypeId × Value → H) :
    ReturnsInHanded {} Tryz.checked os 12 .any (Rows.fnExactNetOkSpec.pre6 enc Tryz.prog Tryz.f12 Rows.fnExactNetOkRow.domain false) (Rows.fnExactNetOkSpec.post enc Tryz.prog Tryz.f12 false true false false) := by
  refine returnsInHanded_of_change (C := Tryz.checked) own started (by kernel_rfl) Tryz.func12
    (ChangeSpec.witness6 (enc := enc) (C := Tryz.checked) false ⟨#[], #[.agg #[.slice none 0 0, .slice none 0 0, .slice none 0 0, .slice none 0 0]], []⟩ 8 (by kernel_rfl) (by kernel_rfl) (by kernel_rfl) (by kernel_rfl)) ?_
  intro W base args ds gs before hval0 hW hcnd _
  have hval : ∀ (j : Nat) t v, Tryz.f12.params[j]? = some t → args[j]? = some v → Value.okWide Tryz.prog W .any base t v := hval0
  have hW' := hW
  obtain ⟨p, q, hA0, hV, rfl, hfz, hnd⟩ := hW
  have hA : DataW.TrodAll enc Tryz.prog W 0 (fun _ => true) true Tryz.f12.params.toList args.toList ds p := hA0
  rw [Tryz.params12 ] at hA hval
  obtain ⟨v0, vs0, d0, ds0, p0, q0, hargs, rfl, rfl, h0, r0⟩ := trodAll_cons hA
  obtain ⟨rfl, rfl, rfl⟩ := trodAll_nil r0
  obtain rfl : args = #[v0] := by cases args; simp_all
  obtain ⟨rfl, rfl⟩ := trodVars_none hV
  have k0 := h0
  have lt0 : ∀ x ∈ p0, x.block < W.heap.size := by obtain ⟨m, hm⟩ := k0; exact DataW.trod_lt m _ _ _ hm
  obtain ⟨U0, z0, rfl, w0⟩ := N.open_net (hval 0 80 v0 rfl rfl) h0
  clear hA0 hval0
  refine (walk U0 z0 W w0).mono fun e W' ⟨he, bel⟩ => ?_
  subst he
  exact ⟨_, rfl, _, _, _, [], _, [], hW', trodAll_mk1 (shut_bool Tryz.underlying4 _), (trodAll_cons_mk (Below.trod laidOut (by kernel_rfl) (of_decide_eq_true (by kernel_rfl)) k0 bel lt0) trodAll_mk0), rfl, bel.frame _, fun h => by cases h⟩
end Go.Proofs.YtcblbdpdbggkbaaGreat.fnExactNetOk
