/-
  SumOk of the model.
-/
import Derived.Test.YtnoilafoeaknjaaZBox
import Derived.Lib.QuietBelow
set_option linter.unusedVariables false
namespace Go.Proofs.Ytnoilafoeaknjaa
open Go.RowKit Go.Sort

set_option maxRecDepth 100000 in
set_option maxHeartbeats 16000000 in
theorem spSumOk_at (w : World) (V : SV) (s : Sm) (h1 : RdS w V s) :
    Calls Try.prog 12 #[.agg #[.slice V.xr V.nr V.cr, .slice V.xf V.nf V.cf, .slice V.xt V.nt V.ct, .int .i64 s.lo, .int .i64 s.al, .slice V.xk V.nk V.ck, .int .i64 s.ka]] w fun e w' => e = .returned (.bool (okS s)) ∧ Below w.heap.size w w' := by
  have hA := (Below.refl w.heap.size w).alloc (Nat.le_refl _) (.cells #[.slice V.xr V.nr V.cr, .slice V.xf V.nf V.cf, .slice V.xt V.nt V.ct, .int .i64 s.lo, .int .i64 s.al, .slice V.xk V.nk V.ck, .int .i64 s.ka] 36)
  have X := Box7.new w 36 (.slice V.xr V.nr V.cr) (.slice V.xf V.nf V.cf) (.slice V.xt V.nt V.ct) (.int .i64 s.lo) (.int .i64 s.al) (.slice V.xk V.nk V.ck) (.int .i64 s.ka)
  obtain ⟨W0, hW⟩ : ∃ W, W = w.alloc (.cells #[.slice V.xr V.nr V.cr, .slice V.xf V.nf V.cf, .slice V.xt V.nt V.ct, .int .i64 s.lo, .int .i64 s.al, .slice V.xk V.nk V.ck, .int .i64 s.ka] 36) := ⟨_, rfl⟩
  rw [← hW] at hA X
  have B := Lib.hid hA
  have RD := h1.below hA (Nat.le_refl _)
  have fl := h1.lens.2.1
  have KR := fun d os => Calls.regrown_of (spOk_any _ s.rs (grow (redrawn W0 d) os) (RD.r.below (below_regrown W0 d os) (Nat.le_refl _)))
  have KF := fun d os => Calls.regrown_of (spFewOk_at (grow (redrawn W0 d) os) _ s.zs (RD.f.below (below_regrown W0 d os) (Nat.le_refl _)))
  have KT := fun d os => Calls.regrown_of (T.spTopOk_at (grow (redrawn W0 d) os) _ s.ps s.lo s.al (RD.t.below (below_regrown W0 d os) (Nat.le_refl _)))
  have KK := fun d os => Calls.regrown_of (K.spRankOk_at (grow (redrawn W0 d) os) _ s.ks s.ka (RD.k.below (below_regrown W0 d os) (Nat.le_refl _)))
  have KA := fun d os => Calls.regrown_of (spAll_at (grow (redrawn W0 d) os) _ s.rs (RD.r.below (below_regrown W0 d os) (Nat.le_refl _)))
  unfold SV.r at KR KA
  unfold SV.f at KF
  unfold SV.t at KT
  unfold SV.k at KK
  unfold okS
  rw [← fl]
  clear RD h1 hA fl
  obtain ⟨xr, nr, cr, xf, nf, cf, xt, nt, ct, xk, nk, ck⟩ := V
  obtain ⟨rs, zs, ps, lo, al, ks, ka⟩ := s
  simp only at KR KF KT KK KA X hW ⊢
  generalize okB rs = o1 at KR ⊢
  generalize fewB zs = o2 at KF ⊢
  generalize T.topB ps lo al = o3 at KT ⊢
  generalize K.rankB ks ka = o4 at KK ⊢
  generalize allV rs = rv at KA ⊢
  have HR := Lib.hid KR
  have HF := Lib.hid KF
  have HT := Lib.hid KT
  have HK := Lib.hid KK
  have HA := Lib.hid KA
  clear KR KF KT KK KA
  obtain ⟨x0, x1, x2, x3, x4, x5, x6⟩ := X.cells
  have c0 := cell_regrown x0
  have c1 := cell_regrown x1
  have c2 := cell_regrown x2
  have c3 := cell_regrown x3
  have c4 := cell_regrown x4
  have c5 := cell_regrown x5
  have c6 := cell_regrown x6
  clear X x0 x1 x2 x3 x4 x5 x6
  cases o1 with
  | false =>
    go_enter Try.func12, Try.ntmps12
    go_wp2
    rw [← hW]
    clear hW
    refine boxed_region (by kernel_rfl) (by kernel_rfl) ?_
    repeat (refine boxed_step (fun K hK => ?_); go_simp; first | (refine hK _ ?_; clear hK K) | (apply Exists.intro; refine ⟨fun _ => ?_, hK _ ?_⟩; (first | (with_reducible exact HR.out _ _) | (with_reducible exact HF.out _ _) | (with_reducible exact HT.out _ _) | (with_reducible exact HK.out _ _) | (with_reducible exact HA.out _ _)); clear hK K))
    refine boxed_nil ?_
    intro _ hw'
    obtain ⟨⟨dq, oq⟩, hw''⟩ := hw'
    subst hw''
    have hb_w1 := below_regrown W0 dq oq
    obtain ⟨w1, hq_w1⟩ : ∃ x, x = grow (redrawn W0 dq) oq := ⟨_, rfl⟩
    rw [← hq_w1] at hb_w1 ⊢
    clear hq_w1
    go_wp2
    go_ret
    exact ⟨by first | rfl | simp, B.out.trans (hb_w1.mono B.out.size)⟩
  | true =>
    cases o2 with
    | false =>
      go_enter Try.func12, Try.ntmps12
      go_wp2
      rw [← hW]
      clear hW
      refine boxed_region (by kernel_rfl) (by kernel_rfl) ?_
      repeat (refine boxed_step (fun K hK => ?_); go_simp; first | (refine hK _ ?_; clear hK K) | (apply Exists.intro; refine ⟨fun _ => ?_, hK _ ?_⟩; (first | (with_reducible exact HR.out _ _) | (with_reducible exact HF.out _ _) | (with_reducible exact HT.out _ _) | (with_reducible exact HK.out _ _) | (with_reducible exact HA.out _ _)); clear hK K))
      refine boxed_nil ?_
      intro _ hw'
      obtain ⟨⟨dq, oq⟩, hw''⟩ := hw'
      subst hw''
      have hb_w1 := below_regrown W0 dq oq
      obtain ⟨w1, hq_w1⟩ : ∃ x, x = grow (redrawn W0 dq) oq := ⟨_, rfl⟩
      rw [← hq_w1] at hb_w1 ⊢
      clear hq_w1
      go_wp2
      go_ret
      exact ⟨by first | rfl | simp, B.out.trans (hb_w1.mono B.out.size)⟩
    | true =>
      cases o3 with
      | false =>
        go_enter Try.func12, Try.ntmps12
        go_wp2
        rw [← hW]
        clear hW
        refine boxed_region (by kernel_rfl) (by kernel_rfl) ?_
        repeat (refine boxed_step (fun K hK => ?_); go_simp; first | (refine hK _ ?_; clear hK K) | (apply Exists.intro; refine ⟨fun _ => ?_, hK _ ?_⟩; (first | (with_reducible exact HR.out _ _) | (with_reducible exact HF.out _ _) | (with_reducible exact HT.out _ _) | (with_reducible exact HK.out _ _) | (with_reducible exact HA.out _ _)); clear hK K))
        refine boxed_nil ?_
        intro _ hw'
        obtain ⟨⟨dq, oq⟩, hw''⟩ := hw'
        subst hw''
        have hb_w1 := below_regrown W0 dq oq
        obtain ⟨w1, hq_w1⟩ : ∃ x, x = grow (redrawn W0 dq) oq := ⟨_, rfl⟩
        rw [← hq_w1] at hb_w1 ⊢
        clear hq_w1
        go_wp2
        go_ret
        exact ⟨by first | rfl | simp, B.out.trans (hb_w1.mono B.out.size)⟩
      | true =>
        cases o4 with
        | false =>
          go_enter Try.func12, Try.ntmps12
          go_wp2
          rw [← hW]
          clear hW
          refine boxed_region (by kernel_rfl) (by kernel_rfl) ?_
          repeat (refine boxed_step (fun K hK => ?_); go_simp; first | (refine hK _ ?_; clear hK K) | (apply Exists.intro; refine ⟨fun _ => ?_, hK _ ?_⟩; (first | (with_reducible exact HR.out _ _) | (with_reducible exact HF.out _ _) | (with_reducible exact HT.out _ _) | (with_reducible exact HK.out _ _) | (with_reducible exact HA.out _ _)); clear hK K))
          refine boxed_nil ?_
          intro _ hw'
          obtain ⟨⟨dq, oq⟩, hw''⟩ := hw'
          subst hw''
          have hb_w1 := below_regrown W0 dq oq
          obtain ⟨w1, hq_w1⟩ : ∃ x, x = grow (redrawn W0 dq) oq := ⟨_, rfl⟩
          rw [← hq_w1] at hb_w1 ⊢
          clear hq_w1
          go_wp2
          go_ret
          exact ⟨by first | rfl | simp, B.out.trans (hb_w1.mono B.out.size)⟩
        | true =>
          by_cases ha : rv = al
          · have d1 : decide (rv = al) = true := decide_eq_true ha
            have q1 : (rv == al) = true := by simpa using ha
            by_cases hk : al = ka
            · have d2 : decide (al = ka) = true := decide_eq_true hk
              have q2 : (al == ka) = true := by simpa using hk
              rw [d1, d2]
              clear d1 d2 ha hk
              go_enter Try.func12, Try.ntmps12
              go_wp2
              rw [← hW]
              clear hW
              refine boxed_region (by kernel_rfl) (by kernel_rfl) ?_
              repeat (refine boxed_step (fun K hK => ?_); go_simp; first | (refine hK _ ?_; clear hK K) | (apply Exists.intro; refine ⟨fun _ => ?_, hK _ ?_⟩; (first | (with_reducible exact HR.out _ _) | (with_reducible exact HF.out _ _) | (with_reducible exact HT.out _ _) | (with_reducible exact HK.out _ _) | (with_reducible exact HA.out _ _)); clear hK K))
              refine boxed_nil ?_
              intro _ hw'
              obtain ⟨⟨dq, oq⟩, hw''⟩ := hw'
              subst hw''
              have hb_w1 := below_regrown W0 dq oq
              obtain ⟨w1, hq_w1⟩ : ∃ x, x = grow (redrawn W0 dq) oq := ⟨_, rfl⟩
              rw [← hq_w1] at hb_w1 ⊢
              clear hq_w1
              go_wp2
              go_ret
              exact ⟨by first | rfl | (simp; done) | (refine congrArg (fun b => Ending.returned (Value.bool b)) ?_; rw [Bool.eq_iff_iff]; simp), B.out.trans (hb_w1.mono B.out.size)⟩
            · have d2 : decide (al = ka) = false := decide_eq_false hk
              have q2 : (al == ka) = false := by simpa using hk
              rw [d1, d2]
              clear d1 d2 ha hk
              go_enter Try.func12, Try.ntmps12
              go_wp2
              rw [← hW]
              clear hW
              refine boxed_region (by kernel_rfl) (by kernel_rfl) ?_
              repeat (refine boxed_step (fun K hK => ?_); go_simp; first | (refine hK _ ?_; clear hK K) | (apply Exists.intro; refine ⟨fun _ => ?_, hK _ ?_⟩; (first | (with_reducible exact HR.out _ _) | (with_reducible exact HF.out _ _) | (with_reducible exact HT.out _ _) | (with_reducible exact HK.out _ _) | (with_reducible exact HA.out _ _)); clear hK K))
              refine boxed_nil ?_
              intro _ hw'
              obtain ⟨⟨dq, oq⟩, hw''⟩ := hw'
              subst hw''
              have hb_w1 := below_regrown W0 dq oq
              obtain ⟨w1, hq_w1⟩ : ∃ x, x = grow (redrawn W0 dq) oq := ⟨_, rfl⟩
              rw [← hq_w1] at hb_w1 ⊢
              clear hq_w1
              go_wp2
              go_ret
              exact ⟨by first | rfl | simp, B.out.trans (hb_w1.mono B.out.size)⟩
          · have d1 : decide (rv = al) = false := decide_eq_false ha
            have q1 : (rv == al) = false := by simpa using ha
            rw [d1]
            clear d1 ha
            go_enter Try.func12, Try.ntmps12
            go_wp2
            rw [← hW]
            clear hW
            refine boxed_region (by kernel_rfl) (by kernel_rfl) ?_
            repeat (refine boxed_step (fun K hK => ?_); go_simp; first | (refine hK _ ?_; clear hK K) | (apply Exists.intro; refine ⟨fun _ => ?_, hK _ ?_⟩; (first | (with_reducible exact HR.out _ _) | (with_reducible exact HF.out _ _) | (with_reducible exact HT.out _ _) | (with_reducible exact HK.out _ _) | (with_reducible exact HA.out _ _)); clear hK K))
            refine boxed_nil ?_
            intro _ hw'
            obtain ⟨⟨dq, oq⟩, hw''⟩ := hw'
            subst hw''
            have hb_w1 := below_regrown W0 dq oq
            obtain ⟨w1, hq_w1⟩ : ∃ x, x = grow (redrawn W0 dq) oq := ⟨_, rfl⟩
            rw [← hq_w1] at hb_w1 ⊢
            clear hq_w1
            go_wp2
            go_ret
            exact ⟨by first | rfl | simp, B.out.trans (hb_w1.mono B.out.size)⟩

end Go.Proofs.Ytnoilafoeaknjaa
