/-
  The statement of the law FnExactNetNew: at every input the call returns true and leaves what it was given as it was.
-/
import Derived.Test.YtnpogmhfdjmfdaaNXNew
import Derived.Test.YtnpogmhfdjmfdaaZExO
import Derived.Deep.DeepCutAuto
import Derived.Test.YtnpogmhfdjmfdaaRows
import Derived.WalkKit
import Derived.ProofKit
import Derived.OpenShut
import Derived.ShutString
import Derived.ChangeOld
import Derived.Below
namespace Go.Proofs.Ytnpogmhfdjmfdaa.fnExactNetNew
open Go.ChangeShapes Go.WideShapes Go.ChangeAt Go.RowKit
open Go.ChangeMaps (open_string shut_string)
set_option linter.unusedVariables false

theorem own : ownKnob Try.prog.godebug = none := by kernel_rfl
theorem laidOut : laidOutB Try.prog = true := by kernel_rfl

set_option maxRecDepth 20000 in
set_option maxHeartbeats 2000000 in
theorem walk (v0 : Value) (z0 : List Int) (w : World) (w0 : ArgI w v0 z0) :
    Calls Try.prog 3 #[v0] w fun e w' => e = .returned (.bool true) ∧ Below w.heap.size w w' := by
  open N in
  have KS := Lib.hid (fun W x n c h => spNetNew_at W x n c z0 h)
  have KI := Lib.hid (fun W x n c h => imNetNew_at W x n c z0 h)
  have LN := Lib.hid (N.new_len z0)
  obtain ⟨q1, q2⟩ := N.new_cnt z0
  have QC := Lib.hid (show 1 + N.cntNt ((N.newN z0).getD N.noNt) ≤ 1000000 by omega)
  obtain ⟨o, ho⟩ : ∃ o, o = N.newN z0 := ⟨_, rfl⟩
  rw [← ho] at KS KI LN q1 q2 QC
  clear ho
  obtain ⟨cn, hcn⟩ : ∃ cn, cn = N.cntNt (o.getD N.noNt) := ⟨_, rfl⟩
  have CN := Lib.hid hcn
  rw [← hcn] at q1 q2
  clear hcn
  obtain ⟨bo, hbo⟩ : ∃ b, b = o.isSome := ⟨_, rfl⟩
  have BO := Lib.hid hbo
  clear hbo
  obtain ⟨x, c, hx⟩ := w0.form
  obtain ⟨n, hn⟩ : ∃ n, n = z0.length := ⟨_, rfl⟩
  rw [← hn] at hx
  subst hx
  have HN := Lib.hid hn
  have A0 := Lib.hid w0
  have B := Lib.hid (Below.refl w.heap.size w)
  clear w0 hn
  have eb : (bo != bo) = false := by cases bo <;> rfl
  have ec : ((1 : Int) + cn != 1 + cn) = false := by simp
  have ed : ¬ (1 : Int) + cn < 0 := by omega
  obtain ⟨B0, hB0⟩ : ∃ b, b = w.heap.size := ⟨_, rfl⟩
  rw [← hB0] at B ⊢
  have SB := Lib.hid hB0
  clear hB0
  go_enter Try.func3, Try.ntmps3
  by_cases hle : (1048576 : Int) < (n : Int)
  · go_wp2
    go_ret
    exact ⟨rfl, B.out⟩
  have n1 : n ≤ 1048576 := by omega
  have KT := Lib.hid (fun (W : World) (h : Below B0 w W) => show Calls Try.prog 5 #[.slice x n c] W fun e w' => e = .returned (.slice (some ⟨W.heap.size, 0, none⟩) n n) ∧ OwnI w' W.heap.size (.slice (some ⟨W.heap.size, 0, none⟩) n n) z0 ∧ Below W.heap.size W w' by have k := toIntS_at W _ z0 (A0.out.below h (by rw [SB.out]; exact Nat.le_refl _)) (by rw [← HN.out]; exact n1); rw [← HN.out] at k; exact k)
  have b0 : ¬ (1 : Int) + (n : Int) < 0 := by omega
  have h0 := M.start w
  rw [← SB.out] at h0
  have H := Lib.hid h0
  clear h0
  clear B A0
  go_wp2_with fail
  refine (KT.out w H.out.below).mono ?_
  rintro r w1 ⟨rfl, ho, hb⟩
  have H1 := Lib.hid (H.out.gotInts hb ho)
  clear ho hb H
  obtain ⟨ga, hg⟩ : ∃ g, g = w.heap.size := ⟨_, rfl⟩
  rw [← hg] at H1 ⊢
  clear hg
  go_wp2_with fail
  refine (KS.out _ _ _ _ H1.out.ints).mono ?_
  rintro r w2 ha
  obtain ⟨x0a, n0a, c0a, x0b, n0b, c0b, x0c, n0c, c0c, x0d, n0d, c0d, e, hz⟩ := N.ans_got H1.out ha
  clear ha
  subst e
  rw [← BO.out]
  have ha2 := hz.alloc #[.slice x0a n0a c0a, .slice x0b n0b c0b, .slice x0c n0c c0c, .slice x0d n0d c0d] 28
  obtain ⟨w3, hW⟩ : ∃ W, W = w2.alloc (.cells #[.slice x0a n0a c0a, .slice x0b n0b c0b, .slice x0c n0c c0c, .slice x0d n0d c0d] 28) := ⟨_, rfl⟩
  rw [← hW] at ha2
  have H2 := Lib.hid ha2
  clear hz ha2 H1
  obtain ⟨R3, hR⟩ : ∃ R, R = w2.heap.size := ⟨_, rfl⟩
  rw [← hR] at H2
  go_wp2_with fail
  rw [← hW, ← hR]
  clear hW hR
  go_wp2_with fail
  refine (KT.out w3 H2.out.below).mono ?_
  rintro r w4 ⟨rfl, ho, hb⟩
  have H3 := Lib.hid (H2.out.gotInts hb ho)
  clear ho hb H2
  obtain ⟨gb, hg⟩ : ∃ g, g = w3.heap.size := ⟨_, rfl⟩
  rw [← hg] at H3 ⊢
  clear hg
  go_wp2_with fail
  refine (KI.out _ _ _ _ H3.out.ints).mono ?_
  rintro r w5 ha
  obtain ⟨x1a, n1a, c1a, x1b, n1b, c1b, x1c, n1c, c1c, x1d, n1d, c1d, e, hz⟩ := N.ans_got H3.out ha
  clear ha
  subst e
  rw [← BO.out]
  have ha2 := hz.alloc #[.slice x1a n1a c1a, .slice x1b n1b c1b, .slice x1c n1c c1c, .slice x1d n1d c1d] 28
  obtain ⟨w6, hW⟩ : ∃ W, W = w5.alloc (.cells #[.slice x1a n1a c1a, .slice x1b n1b c1b, .slice x1c n1c c1c, .slice x1d n1d c1d] 28) := ⟨_, rfl⟩
  rw [← hW] at ha2
  have H4 := Lib.hid ha2
  clear hz ha2 H3
  obtain ⟨R6, hR⟩ : ∃ R, R = w5.heap.size := ⟨_, rfl⟩
  rw [← hR] at H4
  obtain ⟨d0, d1, d2, d3⟩ := H4.out.p3.cells4
  rw [hW] at d0 d1 d2 d3
  have EQ := Lib.hid (let ⟨_, r1⟩ := H4.out.p1.netRd; let ⟨_, r2⟩ := H4.out.p4.netRd; N.eqNet_same _ r1 r2 LN.out)
  go_wp2_with fail
  rw [← hW, ← hR]
  clear hW hR d0 d1 d2 d3
  refine EQ.out.mono ?_
  rintro r w7 ⟨rfl, hb⟩
  have H5 := Lib.hid (H4.out.later hb)
  clear EQ hb H4
  go_wp2_with fail
  refine (KT.out w7 H5.out.below).mono ?_
  rintro r w8 ⟨rfl, ho, hb⟩
  have H6 := Lib.hid (H5.out.gotInts hb ho)
  clear ho hb H5
  obtain ⟨gc, hg⟩ : ∃ g, g = w7.heap.size := ⟨_, rfl⟩
  rw [← hg] at H6 ⊢
  clear hg
  have K1 := eqIntS_at w8 _ _ z0 z0 H6.out.p3.ints H6.out.ints (by rw [← HN.out]; unfold maxLen; omega)
  rw [show decide (z0 = z0) = true from decide_eq_true rfl] at K1
  go_wp2_with fail
  refine K1.mono ?_
  rintro r w9 ⟨rfl, m9, rfl⟩
  have H7 := Lib.hid ((H6.out.drop.p2).drewN m9)
  clear K1 H6
  have K1 := N.markI1_M H7.out (by rw [← HN.out]; exact n1)
  rw [← HN.out] at K1
  go_wp2_with fail
  refine K1.mono ?_
  rintro r w10 ⟨rfl, h8⟩
  have H8 := Lib.hid h8.drop
  clear K1 h8 H7
  obtain ⟨c0, c1, c2, c3⟩ := H8.out.cells4
  obtain ⟨d0, d1, d2, d3⟩ := H8.out.p2.cells4
  have EQ := Lib.hid (let ⟨_, r1⟩ := H8.out.p1.netRd; let ⟨_, r2⟩ := H8.out.p3.netRd; N.eqNet_same _ r1 r2 LN.out)
  go_wp2_with fail
  refine EQ.out.mono ?_
  rintro r w11 ⟨rfl, hb⟩
  have H9 := Lib.hid (H8.out.later hb)
  clear EQ hb H8 c0 c1 c2 c3 d0 d1 d2 d3
  obtain ⟨c0, c1, c2, c3⟩ := H9.out.cells4
  have K1 := N.markNet_M (k := 1) H9.out.p1 (by omega) QC.out
  rw [← CN.out] at K1
  go_wp2_with fail
  refine K1.mono ?_
  rintro r w12 ⟨rfl, h10⟩
  have H10 := Lib.hid h10
  clear K1 h10 H9 c0 c1 c2 c3
  obtain ⟨c0, c1, c2, c3⟩ := H10.out.p1.cells4
  have HE := Lib.hid (let ⟨_, r1⟩ := H10.out.netRd; N.heldNet_at (k := 1) r1 (by omega) QC.out)
  rw [← CN.out] at HE
  go_wp2_with fail
  refine HE.out.mono ?_
  rintro r w13 ⟨rfl, hb⟩
  have H11 := Lib.hid (H10.out.later hb)
  clear HE hb H10 c0 c1 c2 c3
  go_wp2_with fail
  refine (KT.out w13 H11.out.below).mono ?_
  rintro r w14 ⟨rfl, ho, hb⟩
  have H12 := Lib.hid (H11.out.gotInts hb ho)
  clear ho hb H11
  obtain ⟨gd, hg⟩ : ∃ g, g = w13.heap.size := ⟨_, rfl⟩
  rw [← hg] at H12 ⊢
  clear hg
  go_wp2_with fail
  refine (KI.out _ _ _ _ H12.out.ints).mono ?_
  rintro r w15 ha
  obtain ⟨x2a, n2a, c2a, x2b, n2b, c2b, x2c, n2c, c2c, x2d, n2d, c2d, e, hz⟩ := N.ans_got H12.out ha
  clear ha
  subst e
  rw [← BO.out]
  have ha2 := hz.alloc #[.slice x2a n2a c2a, .slice x2b n2b c2b, .slice x2c n2c c2c, .slice x2d n2d c2d] 28
  obtain ⟨w16, hW⟩ : ∃ W, W = w15.alloc (.cells #[.slice x2a n2a c2a, .slice x2b n2b c2b, .slice x2c n2c c2c, .slice x2d n2d c2d] 28) := ⟨_, rfl⟩
  rw [← hW] at ha2
  have H13 := Lib.hid ha2
  clear hz ha2 H12
  obtain ⟨R11, hR⟩ : ∃ R, R = w15.heap.size := ⟨_, rfl⟩
  rw [← hR] at H13
  obtain ⟨d0, d1, d2, d3⟩ := H13.out.p5.cells4
  rw [hW] at d0 d1 d2 d3
  have EQ := Lib.hid (let ⟨_, r1⟩ := H13.out.p1.netRd; let ⟨_, r2⟩ := H13.out.p6.netRd; N.eqNet_same _ r1 r2 LN.out)
  go_wp2_with fail
  rw [← hW, ← hR]
  clear hW hR d0 d1 d2 d3
  refine EQ.out.mono ?_
  rintro r w17 ⟨rfl, hb⟩
  have H14 := Lib.hid (H13.out.later hb)
  clear EQ hb H13
  obtain ⟨c0, c1, c2, c3⟩ := H14.out.p4.cells4
  have HE := Lib.hid (let ⟨_, r1⟩ := H14.out.p3.netRd; N.heldNet_at (k := 1) r1 (by omega) QC.out)
  rw [← CN.out] at HE
  go_wp2_with fail
  refine HE.out.mono ?_
  rintro r w18 ⟨rfl, hb⟩
  have H15 := Lib.hid (H14.out.later hb)
  clear HE hb H14 c0 c1 c2 c3
  go_wp2
  go_ret
  exact ⟨rfl, H15.out.below⟩

-- the row's step
set_option maxRecDepth 100000 in
theorem lifted (os : Os) (started : os.Started) (H : Type) (enc : TypeId × Value → H) :
    ReturnsInHanded {} Try.checked os 3 .any (Rows.fnExactNetNewSpec.pre6 enc Try.prog Try.f3 Rows.fnExactNetNewRow.domain false) (Rows.fnExactNetNewSpec.post enc Try.prog Try.f3 false true false false) := by
  refine returnsInHanded_of_change (C := Try.checked) own started (by kernel_rfl) Try.func3
    (ChangeSpec.witness6 (enc := enc) (C := Try.checked) false ⟨#[], #[.slice none 0 0], []⟩ 8 (by kernel_rfl) (by kernel_rfl) (by kernel_rfl) (by kernel_rfl)) ?_
  intro W base args ds gs before hval0 hW hcnd _
  have hval : ∀ (j : Nat) t v, Try.f3.params[j]? = some t → args[j]? = some v → Value.okWide Try.prog W .any base t v := hval0
  have hW' := hW
  obtain ⟨p, q, hA0, hV, rfl, hfz, hnd⟩ := hW
  have hA : DataW.TrodAll enc Try.prog W 0 (fun _ => true) true Try.f3.params.toList args.toList ds p := hA0
  rw [Try.params3 ] at hA hval
  obtain ⟨v0, vs0, d0, ds0, p0, q0, hargs, rfl, rfl, h0, r0⟩ := trodAll_cons hA
  obtain ⟨rfl, rfl, rfl⟩ := trodAll_nil r0
  obtain rfl : args = #[v0] := by cases args; simp_all
  obtain ⟨rfl, rfl⟩ := trodVars_none hV
  have k0 := h0
  have lt0 : ∀ x ∈ p0, x.block < W.heap.size := by obtain ⟨m, hm⟩ := k0; exact DataW.trod_lt m _ _ _ hm
  obtain ⟨z0, w0⟩ := open_intsV (hval 0 22 v0 rfl rfl) h0
  clear hA0 hval0
  refine (walk v0 z0 W w0).mono fun e W' ⟨he, bel⟩ => ?_
  subst he
  exact ⟨_, rfl, _, _, _, [], _, [], hW', trodAll_mk1 (shut_bool Try.underlying4 _), (trodAll_cons_mk (Below.trod laidOut (by kernel_rfl) (of_decide_eq_true (by kernel_rfl)) k0 bel lt0) trodAll_mk0), rfl, bel.frame _, fun h => by cases h⟩

theorem over : Rows.fnExactNetNewRow.holds Try.pinned (OpenSpec.ofChange Rows.fnExactNetNewSpec) :=
  OpenClaim.holds_of_wide 3 Try.f3 rfl rfl rfl rfl rfl rfl rfl ⟨rfl, rfl, rfl, rfl, rfl⟩ rfl rfl rfl rfl rfl (by kernel_rfl) Try.func3 (by kernel_rfl)
    (of_decide_eq_true (by kernel_rfl)) (by unfold Func.isWrapper; first | (rw [if_pos (by decide +kernel)]; kernel_rfl) | (rw [if_neg (by decide +kernel)]; exact ⟨rfl, rfl⟩))
    (fun os started H enc _ => lifted os started H enc)

theorem proved : Rows.FnExactNetNewSaid := over
#print axioms proved
end Go.Proofs.Ytnpogmhfdjmfdaa.fnExactNetNew
