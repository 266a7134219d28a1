/-
  The statement of the law FnExactNetKnown: at every input the call returns true and leaves what it was given as it was.
-/
import Derived.Deep.DeepCutAuto
import Derived.Test.YtcblbdpdbggkbaaGreatRows
import Derived.WalkKit
import Derived.ProofKit
import Derived.OpenShut
import Derived.ShutString
import Derived.ChangeOld
import Derived.Below
import Derived.Test.YtcblbdpdbggkbaaGreatSFnExactNetKnown7
namespace Go.Proofs.YtcblbdpdbggkbaaGreat.fnExactNetKnown
open Go.ChangeShapes Go.WideShapes Go.ChangeAt Go.RowKit
open Go.ChangeMaps (open_string shut_string)
set_option linter.unusedVariables false
set_option linter.unusedSimpArgs false

theorem own : ownKnob Tryz.prog.godebug = none := by kernel_rfl
theorem laidOut : laidOutB Tryz.prog = true := by kernel_rfl

set_option maxRecDepth 20000 in
set_option maxHeartbeats 2000000 in
theorem walk (V0 : N.NV) (z0 : N.Nt) (a1 : Int) (w : World) (w0 : N.aLT w V0 z0) (w1 : (Lit.int .i64 a1).wf = true) :
    Calls Tryz.prog 14 #[.agg #[.slice V0.x1 V0.k1 V0.c1, .slice V0.x2 V0.k2 V0.c2, .slice V0.x3 V0.k3 V0.c3, .slice V0.x4 V0.k4 V0.c4], .int .i64 a1] w fun e w' => e = .returned (.bool true) ∧ Below w.heap.size w w' := by
  open N in
  obtain ⟨x1, k1, c1, x2, k2, c2, x3, k3, c3, x4, k4, c4⟩ := V0
  have hA : N.aEH w [.slice x1 k1 c1, .slice x2 k2 c2, .slice x3 k3 c3, .slice x4 k4 c4] z0 := w0
  simp only
  have A0 := Lib.hid hA
  have h0 := (M.start w).alloc #[.slice x1 k1 c1, .slice x2 k2 c2, .slice x3 k3 c3, .slice x4 k4 c4] 80
  obtain ⟨p1, hp1⟩ : ∃ p, p = w.heap.size := ⟨_, rfl⟩
  obtain ⟨W1, hW1⟩ : ∃ W', W' = w.alloc (.cells #[.slice x1 k1 c1, .slice x2 k2 c2, .slice x3 k3 c3, .slice x4 k4 c4] 80) := ⟨_, rfl⟩
  rw [← hW1] at h0
  have H1 := Lib.hid (show M w.heap.size w W1 [bU p1 80 #[.slice x1 k1 c1, .slice x2 k2 c2, .slice x3 k3 c3, .slice x4 k4 c4]] by rw [hp1]; exact h0)
  clear h0 hA w0 w1
  have ST := Lib.hid (fun (W : World) (hb : Below w.heap.size w W) => (N.aHu.keep A0.out hb (Nat.le_refl _)))
  obtain ⟨R, hR⟩ : ∃ R, R = N.dE z0 a1 := ⟨_, rfl⟩
  have RL := Lib.hid (show R.length ≤ 5 by rw [hR]; exact (N.lC z0 a1).1)
  have LE := Lib.hid (show N.aBe R by rw [hR]; exact fun e he => ((N.lC z0 a1).2 e he).2.2)
  obtain ⟨cr, hcr⟩ : ∃ c, c = N.mY R := ⟨_, rfl⟩
  have CR := Lib.hid hcr
  have C5 := Lib.hid (show 0 ≤ cr ∧ cr ≤ 2500 by rw [hcr, hR]; exact ⟨N.uA _, N.aEz z0 a1⟩)
  have KSP := Lib.hid (fun (W : World) {y1 y2 y3 y4 : Option Addr} {m1 d1 m2 d2 m3 d3 m4 d4 : Nat} (hn : N.iL W (.slice y1 m1 d1) (.slice y2 m2 d2) (.slice y3 m3 d3) (.slice y4 m4 d4) z0) => by have k := N.aAB W hn a1; rw [← hR] at k; exact k)
  have KIM := Lib.hid (fun (W : World) {y1 y2 y3 y4 : Option Addr} {m1 d1 m2 d2 m3 d3 m4 d4 : Nat} (hn : N.iL W (.slice y1 m1 d1) (.slice y2 m2 d2) (.slice y3 m3 d3) (.slice y4 m4 d4) z0) => by have k := N.aAx W hn a1; rw [← hR] at k; exact k)
  clear hR hcr
  go_enter Tryz.func14, Tryz.ntmps14
  go_upto_region 1 with fail
  rw [← hW1, ← hp1]
  clear hW1 hp1
  obtain ⟨a0, a1, a2, a3⟩ := H1.out.cells4
  have KS := Lib.hid (N.aH7 W1 z0 1048576 (ST.out _ H1.out.below) (by decide) (by decide))
  obtain ⟨sz, hsz⟩ : ∃ s, s = N.aE3 z0 := ⟨_, rfl⟩
  rw [← hsz] at KS
  have SZ := Lib.hid hsz
  clear hsz
  go_wp2_with fail
  refine KS.out.mono ?_
  rintro r w2 ⟨rfl, hb⟩
  have H2 := Lib.hid (H1.out.later hb)
  clear hb KS H1 a0 a1 a2 a3
  obtain ⟨a0, a1, a2, a3⟩ := H2.out.cells4
  unfold szV
  by_cases hle : (1048576 : Int) < (sz : Int)
  · rw [if_pos hle]
    go_wp2
    go_ret
    exact ⟨rfl, H2.out.below⟩
  rw [if_neg hle]
  have nz : ¬ (1048576 : Int) - (sz : Int) < 0 := by omega
  have LA := Lib.hid (N.aGM.arg (n := z0) (by rw [← SZ.out]; omega))
  obtain ⟨cn, hcn⟩ : ∃ cn, cn = N.sD z0 := ⟨_, rfl⟩
  have CN := Lib.hid hcn
  have QC := Lib.hid (show 1 + N.sD z0 ≤ 100000000 by have := N.aJI z0; rw [← SZ.out] at this; omega)
  have ed : ¬ (1 : Int) + cn < 0 := by have := N.aHP z0; omega
  have KT := Lib.hid (fun (W : World) (hb : Below w.heap.size w W) => N.aJd W z0 (ST.out W hb) LA.out)
  clear hcn
  go_wp2_with fail
  refine (KT.out _ H2.out.below).mono ?_
  rintro r w3 ⟨y1, d1, y2, d2, y3, d3, y4, d4, rfl, hU⟩
  have H3 := Lib.hid (H2.out.gotNet hU)
  clear hU H2 a0 a1 a2 a3
  have K1 := Lib.hid (KSP.out w3 H3.out.netIs)
  go_wp2_with fail
  refine K1.out.mono ?_
  rintro r w4 ⟨ya, da, rfl, hm⟩
  have H4 := Lib.hid (H3.out.plus hm).p1.drop
  clear hm K1 H3 KSP
  obtain ⟨a0, a1, a2, a3⟩ := H4.out.p1.cells4
  have KT2 := Lib.hid (KT.out _ H4.out.below)
  go_wp2_with fail
  refine KT2.out.mono ?_
  rintro r w5 ⟨u1, e1, u2, e2, u3, e3, u4, e4, rfl, hU⟩
  have h5 := (H4.out.gotNet hU).alloc #[.slice u1 z0.nodes.length e1, .slice u2 z0.links.length e2, .slice u3 z0.words.length e3, .slice u4 z0.past.length e4] 30
  obtain ⟨p5, hp5⟩ : ∃ p, p = w5.heap.size := ⟨_, rfl⟩
  obtain ⟨W5, hW5⟩ : ∃ W', W' = w5.alloc (.cells #[.slice u1 z0.nodes.length e1, .slice u2 z0.links.length e2, .slice u3 z0.words.length e3, .slice u4 z0.past.length e4] 30) := ⟨_, rfl⟩
  rw [← hW5, ← hp5] at h5
  have H5 := Lib.hid h5
  clear hU h5 KT2 H4 a0 a1 a2 a3
  go_upto_region 7 with fail
  rw [← hW5, ← hp5]
  clear hW5 hp5
  obtain ⟨b0, b1, b2, b3⟩ := H5.out.cells4
  have K1 := Lib.hid (KIM.out W5 H5.out.p1.netIs)
  go_wp2_with fail
  refine K1.out.mono ?_
  rintro r w6 ⟨yb, db, rfl, hm⟩
  have H6 := Lib.hid (H5.out.plus hm)
  clear hm K1 H5 b0 b1 b2 b3
  have K1 := Lib.hid (let ⟨_, h1⟩ := (H6.out).knownRd; let ⟨_, h2⟩ := (H6.out.p3).knownRd; N.iN w6 h1 h2 LE.out)
  go_wp2_with fail
  refine K1.out.mono ?_
  rintro r w7 ⟨rfl, hb⟩
  have H7 := Lib.hid ((H6.out.later hb).drew)
  clear K1 hb H6
  go_upto_region 10 with fail
  obtain ⟨W, hW⟩ : ∃ W, W = w7.drew := ⟨_, rfl⟩
  rw [← hW] at H7
  have EW := Lib.hid hW
  clear hW
  obtain ⟨b0, b1, b2, b3⟩ := H7.out.p1.cells4
  obtain ⟨a0, a1, a2, a3⟩ := H7.out.p4.cells4
  have C0 := Lib.hid (show aJ W (b4L p5 (.slice u1 z0.nodes.length e1) (.slice u2 z0.links.length e2) (.slice u3 z0.words.length e3) (.slice u4 z0.past.length e4) ++ b4L p1 (.slice x1 k1 c1) (.slice x2 k2 c2) (.slice x3 k3 c3) (.slice x4 k4 c4)) from ⟨b0, b1, b2, b3, a0, a1, a2, a3, trivial⟩)
  clear b0 b1 b2 b3 a0 a1 a2 a3
  refine aE 99 (.take 0 (.take 1 (.alt 2 (.alt 3 (.take 4 .done) .nomore) .nomore))) (fun w' => aJ w' (b4L p5 (.slice u1 z0.nodes.length e1) (.slice u2 z0.links.length e2) (.slice u3 z0.words.length e3) (.slice u4 z0.past.length e4) ++ b4L p1 (.slice x1 k1 c1) (.slice x2 k2 c2) (.slice x3 k3 c3) (.slice x4 k4 c4))) (by kernel_rfl) (by kernel_rfl) (by intro _ _ _ _ _ h; exact h) (by rw [← EW.out]; exact C0.out) ?_
  rw [← EW.out]
  repeat ((first | (refine aC (by rfl) (by rfl) ?_; apply Exists.intro; refine ⟨fun w' hw' => ?_, ?_⟩; (· ((try simp only [aJ, aF, b4L, b5L, b6L, b7L, bD, N.bR, and_true] at hw'); go_simp; (try with_reducible rfl)))) | (refine aB (by rfl) (by rfl) ?_)); simp only [Act.put, List.getElem_toArray, List.getElem_cons_succ, List.getElem_cons_zero, List.setIfInBounds_toArray, List.set_cons_zero, List.set_cons_succ])
  refine aD (by rfl) (fun K' hK => ?_)
  go_simp
  refine (KT.out W H7.out.below).mono ?_
  rintro r w8 ⟨t1, f1, t2, f2, t3, f3, t4, f4, rfl, hU⟩
  have H8 := Lib.hid (H7.out.gotNet hU)
  have C8 := Lib.hid (aJ.below C0.out hU.below)
  clear hU H7 C0
  refine hK _ _ (.inr C8.out) ?_
  clear hK K'
  try simp only [Act.put, List.getElem_toArray, List.getElem_cons_succ, List.getElem_cons_zero, List.setIfInBounds_toArray, List.set_cons_zero, List.set_cons_succ]
  refine aD (by rfl) (fun K' hK => ?_)
  go_simp
  obtain ⟨_, r1⟩ := H8.out.p3.netR'
  obtain ⟨_, r2⟩ := H8.out.netR'
  refine (N.aFa w8 r1 r2 LA.out.n).mono ?_
  rintro r w9 ⟨rfl, hb⟩
  have H9 := Lib.hid (H8.out.later hb).drop
  have C9 := Lib.hid (aJ.below C8.out hb)
  clear hb H8 C8 r1 r2
  refine hK _ _ (.inr C9.out) ?_
  clear hK K'
  try simp only [Act.put, List.getElem_toArray, List.getElem_cons_succ, List.getElem_cons_zero, List.setIfInBounds_toArray, List.set_cons_zero, List.set_cons_succ]
  repeat ((first | (refine aC (by rfl) (by rfl) ?_; apply Exists.intro; refine ⟨fun w' hw' => ?_, ?_⟩; (· ((try simp only [aJ, aF, b4L, b5L, b6L, b7L, bD, N.bR, and_true] at hw'); go_simp; (try with_reducible rfl)))) | (refine aB (by rfl) (by rfl) ?_)); simp only [Act.put, List.getElem_toArray, List.getElem_cons_succ, List.getElem_cons_zero, List.setIfInBounds_toArray, List.set_cons_zero, List.set_cons_succ])
  refine aI ?_
  clear C9
  obtain ⟨b0, b1, b2, b3⟩ := H9.out.p1.cells4
  have K1 := N.aHG (k := 1) H9.out.p2 (by omega) QC.out
  rw [← CN.out] at K1
  go_wp2_with fail
  refine K1.mono ?_
  rintro r w10 ⟨rfl, h10⟩
  have H10 := Lib.hid h10.p1
  clear K1 h10 H9 b0 b1 b2 b3
  have K1 := Lib.hid (let ⟨_, h1⟩ := (H10.out).knownRd; let ⟨_, h2⟩ := (H10.out.p3).knownRd; N.iN w10 h1 h2 LE.out)
  go_wp2_with fail
  refine K1.out.mono ?_
  rintro r w11 ⟨rfl, hb⟩
  have H11 := Lib.hid (H10.out.later hb)
  clear K1 hb H10
  have ee : ((1 : Int) + cr != 1 + cr) = false := by simp
  have ef : ¬ (1 : Int) + cr < 0 := by have := C5.out; omega
  have K1 := N.aBN (k := 1) H11.out (by omega) (by rw [← CR.out]; have := C5.out; omega)
  rw [← CR.out] at K1
  go_wp2_with fail
  refine K1.mono ?_
  rintro r w12 ⟨rfl, h12⟩
  have H12 := Lib.hid h12
  clear K1 h12 H11
  have KH := Lib.hid (let ⟨_, r⟩ := H12.out.knownRd; N.aC5 (k := 1) (xs := R) r (by omega) (by have := C5.out; have := CR.out; unfold N.mY at *; omega))
  rw [show N.bL N.jL R = cr from CR.out.symm] at KH
  go_wp2_with fail
  refine KH.out.mono ?_
  rintro r w13 ⟨rfl, hw⟩
  rw [← hw]
  clear hw KH w13
  obtain ⟨a0, a1, a2, a3⟩ := H12.out.p4.cells4
  have KT2 := Lib.hid (KT.out _ H12.out.below)
  go_wp2_with fail
  refine KT2.out.mono ?_
  rintro r w14 ⟨s1, g1, s2, g2, s3, g3, s4, g4, rfl, hU⟩
  have H14 := Lib.hid (H12.out.gotNet hU)
  clear hU KT2 H12 a0 a1 a2 a3
  have K1 := Lib.hid (KIM.out w14 H14.out.netIs)
  go_wp2_with fail
  refine K1.out.mono ?_
  rintro r w15 ⟨yc, dc, rfl, hm⟩
  have H15 := Lib.hid (H14.out.plus hm).p1.drop
  clear hm K1 H14
  have K1 := Lib.hid (let ⟨_, h1⟩ := (H15.out).knownRd; let ⟨_, h2⟩ := (H15.out.p4).knownRd; N.iN w15 h1 h2 LE.out)
  go_wp2_with fail
  refine K1.out.mono ?_
  rintro r w16 ⟨rfl, hb⟩
  have H16 := Lib.hid (H15.out.later hb).p1
  clear K1 hb H15
  have KH := Lib.hid (let ⟨_, r⟩ := H16.out.knownRd; N.aC5 (k := 1) (xs := R) r (by omega) (by have := C5.out; have := CR.out; unfold N.mY at *; omega))
  rw [show N.bL N.jL R = cr from CR.out.symm] at KH
  go_wp2_with fail
  refine KH.out.mono ?_
  rintro r w17 ⟨rfl, hw⟩
  rw [← hw]
  clear hw KH w17
  go_wp2
  go_ret
  exact ⟨rfl, H16.out.below⟩

-- the row's step
set_option maxRecDepth 100000 in
theorem lifted (os : Os) (started : os.Started) (H : Type) (enc : TypeId × Value → H) :
    ReturnsInHanded {} Tryz.checked os 14 .any (Rows.fnExactNetKnownSpec.pre6 enc Tryz.prog Tryz.f14 Rows.fnExactNetKnownRow.domain false) (Rows.fnExactNetKnownSpec.post enc Tryz.prog Tryz.f14 false true false false) := by
  refine returnsInHanded_of_change (C := Tryz.checked) own started (by kernel_rfl) Tryz.func14
    (ChangeSpec.witness6 (enc := enc) (C := Tryz.checked) false ⟨#[], #[.agg #[.slice none 0 0, .slice none 0 0, .slice none 0 0, .slice none 0 0], .int .i64 0], []⟩ 8 (by kernel_rfl) (by kernel_rfl) (by kernel_rfl) (by kernel_rfl)) ?_
  intro W base args ds gs before hval0 hW hcnd _
  have hval : ∀ (j : Nat) t v, Tryz.f14.params[j]? = some t → args[j]? = some v → Value.okWide Tryz.prog W .any base t v := hval0
  have hW' := hW
  obtain ⟨p, q, hA0, hV, rfl, hfz, hnd⟩ := hW
  have hA : DataW.TrodAll enc Tryz.prog W 0 (fun _ => true) true Tryz.f14.params.toList args.toList ds p := hA0
  rw [Tryz.params14 ] at hA hval
  obtain ⟨v0, vs0, d0, ds0, p0, q0, hargs, rfl, rfl, h0, r0⟩ := trodAll_cons hA
  obtain ⟨v1, vs1, d1, ds1, p1, q1, rfl, rfl, rfl, h1, r1⟩ := trodAll_cons r0
  obtain ⟨rfl, rfl, rfl⟩ := trodAll_nil r1
  obtain rfl : args = #[v0, v1] := by cases args; simp_all
  obtain ⟨rfl, rfl⟩ := trodVars_none hV
  have k0 := h0
  have lt0 : ∀ x ∈ p0, x.block < W.heap.size := by obtain ⟨m, hm⟩ := k0; exact DataW.trod_lt m _ _ _ hm
  obtain ⟨U0, z0, rfl, w0⟩ := N.aIp (hval 0 80 v0 rfl rfl) h0
  obtain ⟨a1, rfl, rfl, rfl, w1⟩ := open_int Tryz.underlying3 (hval 1 3 v1 rfl rfl) h1
  clear hA0 hval0
  refine (walk U0 z0 a1 W w0 w1).mono fun e W' ⟨he, bel⟩ => ?_
  subst he
  exact ⟨_, rfl, _, _, _, [], _, [], hW', trodAll_mk1 (shut_bool Tryz.underlying4 _), (trodAll_cons_mk (Below.trod laidOut (by kernel_rfl) (of_decide_eq_true (by kernel_rfl)) k0 bel lt0) (trodAll_cons_mk (shut_int Tryz.underlying3 w1) trodAll_mk0)), rfl, bel.frame _, fun h => by cases h⟩
end Go.Proofs.YtcblbdpdbggkbaaGreat.fnExactNetKnown
