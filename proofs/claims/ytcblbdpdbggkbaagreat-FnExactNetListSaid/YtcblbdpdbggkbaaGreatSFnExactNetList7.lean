/-
  The statement of the law FnExactNetList: at every input the call returns true and leaves what it was given as it was.
-/
import Derived.Deep.DeepCutAuto
import Derived.Test.YtcblbdpdbggkbaaGreatRows
import Derived.WalkKit
import Derived.ProofKit
import Derived.OpenShut
import Derived.ShutString
import Derived.ChangeOld
import Derived.Below
import Derived.Test.YtcblbdpdbggkbaaGreatSFnExactNetList6
namespace Go.Proofs.YtcblbdpdbggkbaaGreat.fnExactNetList
open Go.ChangeShapes Go.WideShapes Go.ChangeAt Go.RowKit
open Go.ChangeMaps (open_string shut_string)
set_option linter.unusedVariables false
set_option linter.unusedSimpArgs false

theorem own : ownKnob Tryz.prog.godebug = none := by kernel_rfl
theorem laidOut : laidOutB Tryz.prog = true := by kernel_rfl

set_option maxRecDepth 20000 in
set_option maxHeartbeats 2000000 in
theorem walk (V0 : N.NV) (z0 : N.Nt) (v1 : Value) (z1 : List N.En) (w : World) (w0 : N.ArgN w V0 z0) (w1 : N.ArgK w v1 z1) :
    Calls Tryz.prog 16 #[.agg #[.slice V0.x1 V0.k1 V0.c1, .slice V0.x2 V0.k2 V0.c2, .slice V0.x3 V0.k3 V0.c3, .slice V0.x4 V0.k4 V0.c4], v1] w fun e w' => e = .returned (.bool true) ∧ Below w.heap.size w w' := by
  open N in
  obtain ⟨x1, k1, c1, x2, k2, c2, x3, k3, c3, x4, k4, c4⟩ := V0
  have hA : N.netA w [.slice x1 k1 c1, .slice x2 k2 c2, .slice x3 k3 c3, .slice x4 k4 c4] z0 := w0
  have hE : N.knownA w [v1] z1 := w1
  simp only
  have A0 := Lib.hid hA
  have E0 := Lib.hid hE
  obtain ⟨xe, ce, ev, _⟩ := slcA_form hE
  cases ev
  obtain ⟨ne, hne⟩ : ∃ n, n = z1.length := ⟨_, rfl⟩
  rw [← hne] at E0 ⊢
  have NE := Lib.hid hne
  have h0 := (M.start w).alloc #[.slice x1 k1 c1, .slice x2 k2 c2, .slice x3 k3 c3, .slice x4 k4 c4] 80
  obtain ⟨p1, hp1⟩ : ∃ p, p = w.heap.size := ⟨_, rfl⟩
  obtain ⟨W1, hW1⟩ : ∃ W', W' = w.alloc (.cells #[.slice x1 k1 c1, .slice x2 k2 c2, .slice x3 k3 c3, .slice x4 k4 c4] 80) := ⟨_, rfl⟩
  rw [← hW1] at h0
  have H1 := Lib.hid (show M w.heap.size w W1 [boxC p1 80 #[.slice x1 k1 c1, .slice x2 k2 c2, .slice x3 k3 c3, .slice x4 k4 c4]] by rw [hp1]; exact h0)
  clear h0 hA w0 hE w1 hne
  have ST := Lib.hid (fun (W : World) (hb : Below w.heap.size w W) => (N.netA_stay.keep A0.out hb (Nat.le_refl _)))
  have SE := Lib.hid (fun (W : World) (hb : Below w.heap.size w W) => (N.knownA_stay.keep E0.out hb (Nat.le_refl _)))
  obtain ⟨R, hR⟩ : ∃ R, R = N.listF z0 z1 := ⟨_, rfl⟩
  have RL := Lib.hid (show R.length ≤ 100 * ne by rw [hR, NE.out]; exact N.listF_len z0 z1)
  have RS := Lib.hid hR
  clear hR
  go_enter Tryz.func16, Tryz.ntmps16
  go_upto_region 1 with fail
  rw [← hW1, ← hp1]
  clear hW1 hp1
  obtain ⟨a0, a1, a2, a3⟩ := H1.out.cells4
  have KS := Lib.hid (N.szNet_at W1 z0 1048576 (ST.out _ H1.out.below) (by decide) (by decide))
  obtain ⟨sz, hsz⟩ : ∃ s, s = N.szNt z0 := ⟨_, rfl⟩
  rw [← hsz] at KS
  have SZ := Lib.hid hsz
  clear hsz
  go_wp2_with fail
  refine KS.out.mono ?_
  rintro r w2 ⟨rfl, hb⟩
  have H2 := Lib.hid (H1.out.later hb)
  clear hb KS H1 a0 a1 a2 a3
  unfold szV
  by_cases hle : (1048576 : Int) < (sz : Int)
  · rw [if_pos hle]
    go_wp2
    go_ret
    exact ⟨rfl, H2.out.below⟩
  rw [if_neg hle]
  have nz : ¬ (1048576 : Int) - (sz : Int) < 0 := by omega
  have KS := Lib.hid (N.szKnown_at w2 _ z1 (1048576 - (sz : Int)) (SE.out _ H2.out.below) (by omega) (by omega))
  obtain ⟨se, hse⟩ : ∃ s, s = N.szK z1 := ⟨_, rfl⟩
  rw [← hse] at KS
  have SK := Lib.hid hse
  clear hse
  go_wp2_with fail
  refine KS.out.mono ?_
  rintro r w3 ⟨rfl, hb⟩
  have H3 := Lib.hid (H2.out.later hb)
  clear hb KS H2
  unfold szV
  obtain ⟨a0, a1, a2, a3⟩ := H3.out.cells4
  by_cases hle2 : (1048576 : Int) - (sz : Int) < (se : Int)
  · rw [if_pos hle2]
    go_wp2
    go_ret
    exact ⟨rfl, H3.out.below⟩
  rw [if_neg hle2]
  have nz2 : ¬ (1048576 : Int) - (sz : Int) - (se : Int) < 0 := by omega
  have LA := Lib.hid (N.LenA.arg (n := z0) (by rw [← SZ.out]; omega))
  have LK := Lib.hid (N.LenK.arg (es := z1) (by rw [← SK.out]; omega))
  have nl : ne ≤ 1048576 := by rw [NE.out]; exact LK.out.len
  have RM := Lib.hid (show R.length ≤ 104857600 by have := RL.out; omega)
  obtain ⟨cn, hcn⟩ : ∃ cn, cn = N.cntNt z0 := ⟨_, rfl⟩
  obtain ⟨ck, hck⟩ : ∃ ck, ck = N.cntK z1 := ⟨_, rfl⟩
  have CN := Lib.hid hcn
  have CK := Lib.hid hck
  have QC := Lib.hid (show 1 + N.cntNt z0 ≤ 100000000 by have := N.cntNt_sz z0; rw [← SZ.out] at this; omega)
  have QK := Lib.hid (show 0 ≤ 1 + cn ∧ 1 + cn + N.cntK z1 ≤ 100000000 by have := N.cntNt_sz z0; have := N.cntNt_nn z0; have := N.cntK_sz z1; rw [← SZ.out] at *; rw [← SK.out] at *; omega)
  have ed : ¬ (1 : Int) + cn + ck < 0 := by have := N.cntNt_nn z0; have := N.cntK_nn z1; omega
  have KT := Lib.hid (fun (W : World) (hb : Below w.heap.size w W) => N.toNet_at W z0 (ST.out W hb) LA.out)
  have KK := Lib.hid (fun (W : World) (hb : Below w.heap.size w W) => by have := N.toKnown_at W _ z1 (SE.out W hb) LK.out.len LK.out.sums; rw [← NE.out] at this; exact this)
  have KSP := Lib.hid (fun (W : World) {y1 y2 y3 y4 : Option Addr} {m1 d1 m2 d2 m3 d3 m4 d4 : Nat} (hn : N.NetRd W (.slice y1 m1 d1) (.slice y2 m2 d2) (.slice y3 m3 d3) (.slice y4 m4 d4) z0) {xk : Option Addr} {ck : Nat} {f : List Nat} (h : knownR N.TY W [.slice xk ne ck] z1 f) => by have k := N.spNetList_at W hn (xk := xk) (ck := ck) (es := z1) (f := f) (by rw [← NE.out]; exact h) LK.out.len; rw [← NE.out, ← RS.out] at k; exact k)
  have KIM := Lib.hid (fun (W : World) {y1 y2 y3 y4 : Option Addr} {m1 d1 m2 d2 m3 d3 m4 d4 : Nat} (hn : N.NetRd W (.slice y1 m1 d1) (.slice y2 m2 d2) (.slice y3 m3 d3) (.slice y4 m4 d4) z0) {xk : Option Addr} {ck : Nat} {f : List Nat} (h : knownR N.TY W [.slice xk ne ck] z1 f) => by have k := N.imNetList_at W hn (xk := xk) (ck := ck) (es := z1) (f := f) (by rw [← NE.out]; exact h) LK.out.len; rw [← NE.out, ← RS.out] at k; exact k)
  clear hcn hck nz hle hle2
  go_wp2_with fail
  refine (KT.out _ H3.out.below).mono ?_
  rintro r w4 ⟨y1, d1, y2, d2, y3, d3, y4, d4, rfl, hU⟩
  have H4 := Lib.hid (H3.out.gotNet hU)
  clear hU H3 a0 a1 a2 a3
  go_wp2_with fail
  refine (KK.out _ H4.out.below).mono ?_
  rintro r w5 ⟨ye, de, rfl, hU⟩
  have H5 := Lib.hid (H4.out.plus hU)
  clear hU H4
  have K1 := Lib.hid (let ⟨_, hf⟩ := (H5.out).knownRd; KSP.out w5 H5.out.p1.netIs hf)
  go_wp2_with fail
  refine K1.out.mono ?_
  rintro r w6 ⟨va, rfl, hm⟩
  have H6 := Lib.hid (H5.out.plus hm).p1.drop.p1.drop
  clear hm K1 H5 KSP
  obtain ⟨a0, a1, a2, a3⟩ := H6.out.p1.cells4
  have KT2 := Lib.hid (KT.out _ H6.out.below)
  go_wp2_with fail
  refine KT2.out.mono ?_
  rintro r w7 ⟨u1, e1, u2, e2, u3, e3, u4, e4, rfl, hU⟩
  have h7 := (H6.out.gotNet hU).alloc #[.slice u1 z0.nodes.length e1, .slice u2 z0.links.length e2, .slice u3 z0.words.length e3, .slice u4 z0.past.length e4] 30
  obtain ⟨p5, hp5⟩ : ∃ p, p = w7.heap.size := ⟨_, rfl⟩
  obtain ⟨W7, hW7⟩ : ∃ W', W' = w7.alloc (.cells #[.slice u1 z0.nodes.length e1, .slice u2 z0.links.length e2, .slice u3 z0.words.length e3, .slice u4 z0.past.length e4] 30) := ⟨_, rfl⟩
  rw [← hW7, ← hp5] at h7
  have H7 := Lib.hid h7
  clear hU h7 KT2 H6 a0 a1 a2 a3
  go_upto_region 10 with fail
  rw [← hW7, ← hp5]
  clear hW7 hp5
  go_wp2_with fail
  refine (KK.out _ H7.out.below).mono ?_
  rintro r w8 ⟨xb, db, rfl, hU⟩
  have H8 := Lib.hid (H7.out.plus hU)
  clear hU H7
  obtain ⟨b0, b1, b2, b3⟩ := H8.out.p1.cells4
  have K1 := Lib.hid (let ⟨_, hf⟩ := (H8.out).knownRd; KIM.out w8 H8.out.p2.netIs hf)
  go_wp2_with fail
  refine K1.out.mono ?_
  rintro r w9 ⟨vb, rfl, hm⟩
  have H9 := Lib.hid (H8.out.plus hm)
  clear hm K1 H8 b0 b1 b2 b3
  have K1 := eqIntS_at w9 _ _ R R H9.out.ints H9.out.p4.ints (by have := RM.out; unfold maxLen; omega)
  rw [show decide (R = R) = true from decide_eq_true rfl] at K1
  go_wp2_with fail
  refine K1.mono ?_
  rintro r w10 ⟨rfl, m10, rfl⟩
  have H10 := Lib.hid (((H9.out).drewN m10).drew)
  clear K1 H9
  go_upto_region 14 with fail
  obtain ⟨W, hW⟩ : ∃ W, W = (w9.drewN m10).drew := ⟨_, rfl⟩
  rw [← hW] at H10
  have EW := Lib.hid hW
  clear hW
  obtain ⟨b0, b1, b2, b3⟩ := H10.out.p2.cells4
  obtain ⟨a0, a1, a2, a3⟩ := H10.out.p5.cells4
  have C0 := Lib.hid (show Cells W (b4L p5 (.slice u1 z0.nodes.length e1) (.slice u2 z0.links.length e2) (.slice u3 z0.words.length e3) (.slice u4 z0.past.length e4) ++ b4L p1 (.slice x1 k1 c1) (.slice x2 k2 c2) (.slice x3 k3 c3) (.slice x4 k4 c4)) from ⟨b0, b1, b2, b3, a0, a1, a2, a3, trivial⟩)
  clear b0 b1 b2 b3 a0 a1 a2 a3
  refine wp_region_plan 99 (.take 0 (.take 1 (.alt 2 (.alt 3 (.take 4 .done) .nomore) .nomore))) (fun w' => Cells w' (b4L p5 (.slice u1 z0.nodes.length e1) (.slice u2 z0.links.length e2) (.slice u3 z0.words.length e3) (.slice u4 z0.past.length e4) ++ b4L p1 (.slice x1 k1 c1) (.slice x2 k2 c2) (.slice x3 k3 c3) (.slice x4 k4 c4))) (by kernel_rfl) (by kernel_rfl) (by intro _ _ _ _ _ h; exact h) (by rw [← EW.out]; exact C0.out) ?_
  rw [← EW.out]
  repeat ((first | (refine plan_take (by rfl) (by rfl) ?_; apply Exists.intro; refine ⟨fun w' hw' => ?_, ?_⟩; (· ((try simp only [Cells, Cells_app, b4L, b5L, b6L, b7L, b10L, N.entL, and_true] at hw'); go_simp; (try with_reducible rfl)))) | (refine plan_skip (by rfl) (by rfl) ?_)); simp only [Act.put, List.getElem_toArray, List.getElem_cons_succ, List.getElem_cons_zero, List.setIfInBounds_toArray, List.set_cons_zero, List.set_cons_succ])
  refine plan_last (by rfl) (fun K' hK => ?_)
  go_simp
  refine (KT.out W H10.out.below).mono ?_
  rintro r w11 ⟨t1, f1, t2, f2, t3, f3, t4, f4, rfl, hU⟩
  have H11 := Lib.hid (H10.out.gotNet hU)
  have C11 := Lib.hid (Cells.below C0.out hU.below)
  clear hU H10 C0
  refine hK _ _ (.inr C11.out) ?_
  clear hK K'
  try simp only [Act.put, List.getElem_toArray, List.getElem_cons_succ, List.getElem_cons_zero, List.setIfInBounds_toArray, List.set_cons_zero, List.set_cons_succ]
  refine plan_last (by rfl) (fun K' hK => ?_)
  go_simp
  obtain ⟨_, r1⟩ := H11.out.p4.netR'
  obtain ⟨_, r2⟩ := H11.out.netR'
  refine (N.eqNet_same w11 r1 r2 LA.out.n).mono ?_
  rintro r w12 ⟨rfl, hb⟩
  have H12 := Lib.hid (H11.out.later hb).drop
  have C12 := Lib.hid (Cells.below C11.out hb)
  clear hb H11 C11 r1 r2
  refine hK _ _ (.inr C12.out) ?_
  clear hK K'
  try simp only [Act.put, List.getElem_toArray, List.getElem_cons_succ, List.getElem_cons_zero, List.setIfInBounds_toArray, List.set_cons_zero, List.set_cons_succ]
  repeat ((first | (refine plan_take (by rfl) (by rfl) ?_; apply Exists.intro; refine ⟨fun w' hw' => ?_, ?_⟩; (· ((try simp only [Cells, Cells_app, b4L, b5L, b6L, b7L, b10L, N.entL, and_true] at hw'); go_simp; (try with_reducible rfl)))) | (refine plan_skip (by rfl) (by rfl) ?_)); simp only [Act.put, List.getElem_toArray, List.getElem_cons_succ, List.getElem_cons_zero, List.setIfInBounds_toArray, List.set_cons_zero, List.set_cons_succ])
  refine plan_done ?_
  clear C12
  go_wp2_with fail
  refine (KK.out _ H12.out.below).mono ?_
  rintro r w13 ⟨xc, dc, rfl, hU⟩
  have H13 := Lib.hid (H12.out.plus hU)
  clear hU H12
  have K1 := Lib.hid (let ⟨_, h1⟩ := (H13.out.p2).knownRd; let ⟨_, h2⟩ := (H13.out).knownRd; N.eqEntryS_same w13 h1 h2 LK.out.sums)
  go_wp2_with fail
  refine K1.out.mono ?_
  rintro r w14 ⟨rfl, hb⟩
  have H14 := Lib.hid (H13.out.later hb).drop
  clear hb K1 H13
  obtain ⟨b0, b1, b2, b3⟩ := H14.out.p2.cells4
  have K1 := N.markNet_M (k := 1) H14.out.p3 (by omega) QC.out
  rw [← CN.out] at K1
  go_wp2_with fail
  refine K1.mono ?_
  rintro r w15 ⟨rfl, h15⟩
  have H15 := Lib.hid h15.p2
  clear K1 h15 H14 b0 b1 b2 b3
  have K1 := N.markK_M (k := 1 + cn) H15.out QK.out.1 QK.out.2
  rw [← CK.out] at K1
  go_wp2_with fail
  refine K1.mono ?_
  rintro r w16 ⟨rfl, h16⟩
  have H16 := Lib.hid h16.p2
  clear K1 h16 H15
  have K1 := eqIntS_at w16 _ _ R R H16.out.ints H16.out.p4.ints (by have := RM.out; unfold maxLen; omega)
  rw [show decide (R = R) = true from decide_eq_true rfl] at K1
  go_wp2_with fail
  refine K1.mono ?_
  rintro r w17 ⟨rfl, m17, rfl⟩
  have H17 := Lib.hid (H16.out.drewN m17)
  clear K1 H16
  have ee : ((1 : Int) + (R.length : Int) != 1 + (R.length : Int)) = false := by simp
  have ef : ¬ (1 : Int) + (R.length : Int) < 0 := by omega
  have K1 := N.markI_M2 (k := 1) H17.out (by omega) (by have := RM.out; unfold N.cntI; omega)
  rw [show N.cntI R = (R.length : Int) from rfl] at K1
  go_wp2_with fail
  refine K1.mono ?_
  rintro r w18 ⟨rfl, h18⟩
  have H18 := Lib.hid h18
  clear K1 h18 H17
  have KH := Lib.hid (let ⟨_, r⟩ := M.rd (F := intsR_frame) H18.out; N.heldI_at2 r (by omega) (by have := RM.out; unfold N.cntI; omega))
  rw [show N.cntI R = (R.length : Int) from rfl] at KH
  go_wp2_with fail
  refine KH.out.mono ?_
  rintro r w19 ⟨rfl, hw⟩
  rw [← hw]
  clear hw KH w19
  obtain ⟨a0, a1, a2, a3⟩ := H18.out.p5.cells4
  have KT2 := Lib.hid (KT.out _ H18.out.below)
  go_wp2_with fail
  refine KT2.out.mono ?_
  rintro r w20 ⟨s1, g1, s2, g2, s3, g3, s4, g4, rfl, hU⟩
  have H20 := Lib.hid (H18.out.gotNet hU)
  clear hU KT2 H18 a0 a1 a2 a3
  go_wp2_with fail
  refine (KK.out _ H20.out.below).mono ?_
  rintro r w21 ⟨xd, dd, rfl, hU⟩
  have H21 := Lib.hid (H20.out.plus hU)
  clear hU H20
  have K1 := Lib.hid (let ⟨_, hf⟩ := (H21.out).knownRd; KIM.out w21 H21.out.p1.netIs hf)
  go_wp2_with fail
  refine K1.out.mono ?_
  rintro r w22 ⟨vc, rfl, hm⟩
  have H22 := Lib.hid (H21.out.plus hm).p1.drop.p1.drop
  clear hm K1 H21
  have K1 := eqIntS_at w22 _ _ R R H22.out.ints H22.out.p5.ints (by have := RM.out; unfold maxLen; omega)
  rw [show decide (R = R) = true from decide_eq_true rfl] at K1
  go_wp2_with fail
  refine K1.mono ?_
  rintro r w23 ⟨rfl, m23, rfl⟩
  have H23 := Lib.hid (H22.out.p1.drewN m23)
  clear K1 H22
  have KH := Lib.hid (let ⟨_, r⟩ := M.rd (F := intsR_frame) H23.out; N.heldI_at2 r (by omega) (by have := RM.out; unfold N.cntI; omega))
  rw [show N.cntI R = (R.length : Int) from rfl] at KH
  go_wp2_with fail
  refine KH.out.mono ?_
  rintro r w24 ⟨rfl, hw⟩
  rw [← hw]
  clear hw KH w24
  go_wp2
  go_ret
  exact ⟨rfl, H23.out.below⟩

-- the row's step
set_option maxRecDepth 100000 in
theorem lifted (os : Os) (started : os.Started) (H : Type) (enc : TypeId × Value → H) :
    ReturnsInHanded {} Tryz.checked os 16 .any (Rows.fnExactNetListSpec.pre6 enc Tryz.prog Tryz.f16 Rows.fnExactNetListRow.domain false) (Rows.fnExactNetListSpec.post enc Tryz.prog Tryz.f16 false true false false) := by
  refine returnsInHanded_of_change (C := Tryz.checked) own started (by kernel_rfl) Tryz.func16
    (ChangeSpec.witness6 (enc := enc) (C := Tryz.checked) false ⟨#[], #[.agg #[.slice none 0 0, .slice none 0 0, .slice none 0 0, .slice none 0 0], .slice none 0 0], []⟩ 8 (by kernel_rfl) (by kernel_rfl) (by kernel_rfl) (by kernel_rfl)) ?_
  intro W base args ds gs before hval0 hW hcnd _
  have hval : ∀ (j : Nat) t v, Tryz.f16.params[j]? = some t → args[j]? = some v → Value.okWide Tryz.prog W .any base t v := hval0
  have hW' := hW
  obtain ⟨p, q, hA0, hV, rfl, hfz, hnd⟩ := hW
  have hA : DataW.TrodAll enc Tryz.prog W 0 (fun _ => true) true Tryz.f16.params.toList args.toList ds p := hA0
  rw [Tryz.params16 ] at hA hval
  obtain ⟨v0, vs0, d0, ds0, p0, q0, hargs, rfl, rfl, h0, r0⟩ := trodAll_cons hA
  obtain ⟨v1, vs1, d1, ds1, p1, q1, rfl, rfl, rfl, h1, r1⟩ := trodAll_cons r0
  obtain ⟨rfl, rfl, rfl⟩ := trodAll_nil r1
  obtain rfl : args = #[v0, v1] := by cases args; simp_all
  obtain ⟨rfl, rfl⟩ := trodVars_none hV
  have k0 := h0
  have lt0 : ∀ x ∈ p0, x.block < W.heap.size := by obtain ⟨m, hm⟩ := k0; exact DataW.trod_lt m _ _ _ hm
  obtain ⟨U0, z0, rfl, w0⟩ := N.open_net (hval 0 80 v0 rfl rfl) h0
  have k1 := h1
  have lt1 : ∀ x ∈ p1, x.block < W.heap.size := by obtain ⟨m, hm⟩ := k1; exact DataW.trod_lt m _ _ _ hm
  obtain ⟨z1, w1⟩ := N.open_knownV (hval 1 88 v1 rfl rfl) h1
  clear hA0 hval0
  refine (walk U0 z0 v1 z1 W w0 w1).mono fun e W' ⟨he, bel⟩ => ?_
  subst he
  exact ⟨_, rfl, _, _, _, [], _, [], hW', trodAll_mk1 (shut_bool Tryz.underlying4 _), (trodAll_cons_mk (Below.trod laidOut (by kernel_rfl) (of_decide_eq_true (by kernel_rfl)) k0 bel lt0) (trodAll_cons_mk (Below.trod laidOut (by kernel_rfl) (of_decide_eq_true (by kernel_rfl)) k1 bel lt1) trodAll_mk0)), rfl, bel.frame _, fun h => by cases h⟩
end Go.Proofs.YtcblbdpdbggkbaaGreat.fnExactNetList
