/-
  How much a sum has, and how often a thing was counted, of the model.
-/
import Derived.Test.YtnoilafoeaknjaaZSpOk
import Derived.Test.YtnoilafoeaknjaaZImGet
set_option linter.unusedVariables false
namespace Go.Proofs.Ytnoilafoeaknjaa
open Go.RowKit Go.Sort

set_option maxHeartbeats 4000000 in
theorem spSumAll_at (w : World) (V : SV) (s : Sm) (h1 : RdS w V s) :
    Calls Try.prog 25 #[.agg #[.slice V.xr V.nr V.cr, .slice V.xf V.nf V.cf, .slice V.xt V.nt V.ct, .int .i64 s.lo, .int .i64 s.al, .slice V.xk V.nk V.ck, .int .i64 s.ka]] w fun e w' => e = .returned (.int .i64 (allS s)) ∧ Below w.heap.size w w' := by
  have hA := (Below.refl w.heap.size w).alloc (Nat.le_refl _) (.cells #[.slice V.xr V.nr V.cr, .slice V.xf V.nf V.cf, .slice V.xt V.nt V.ct, .int .i64 s.lo, .int .i64 s.al, .slice V.xk V.nk V.ck, .int .i64 s.ka] 36)
  have X := Box7.new w 36 (.slice V.xr V.nr V.cr) (.slice V.xf V.nf V.cf) (.slice V.xt V.nt V.ct) (.int .i64 s.lo) (.int .i64 s.al) (.slice V.xk V.nk V.ck) (.int .i64 s.ka)
  obtain ⟨ax0, ax1, ax2, ax3, ax4, ax5, ax6⟩ := (X).cells
  obtain ⟨W0, hW⟩ : ∃ W, W = w.alloc (.cells #[.slice V.xr V.nr V.cr, .slice V.xf V.nf V.cf, .slice V.xt V.nt V.ct, .int .i64 s.lo, .int .i64 s.al, .slice V.xk V.nk V.ck, .int .i64 s.ka] 36) := ⟨_, rfl⟩
  rw [← hW] at hA X
  have B := Lib.hid hA
  have H1 := Lib.hid h1
  clear hA h1
  go_enter Try.func25, Try.ntmps25
  go_wp2_with fail
  rw [← hW]
  clear hW ax0 ax1 ax2 ax3 ax4 ax5 ax6
  have K1 := spSumOk_at W0 V s (H1.out.below B.out (Nat.le_refl _))
  cases ok : okS s with
  | false =>
    rw [ok] at K1
    refine (K1).mono ?_
    rintro e w1 ⟨rfl, hb⟩
    clear K1
    replace X := X.later hb
    replace B := Lib.hid (B.out.trans (hb.mono B.out.size))
    clear hb
    go_wp2
    go_ret
    exact ⟨by unfold allS; rw [ok]; rfl, B.out⟩
  | true =>
    rw [ok] at K1
    have HOK := Lib.hid ok
    clear ok
    refine (K1).mono ?_
    rintro e w1 ⟨rfl, hb⟩
    clear K1
    replace X := X.later hb
    replace B := Lib.hid (B.out.trans (hb.mono B.out.size))
    clear hb
    obtain ⟨cx0, cx1, cx2, cx3, cx4, cx5, cx6⟩ := (X).cells
    go_wp2
    go_ret
    exact ⟨by unfold allS; rw [HOK.out]; rfl, B.out⟩

set_option maxRecDepth 100000 in
set_option maxHeartbeats 4000000 in
theorem spSumGet_at (w : World) (V : SV) (s : Sm) (t : Int) (h1 : RdS w V s) :
    Calls Try.prog 19 #[.agg #[.slice V.xr V.nr V.cr, .slice V.xf V.nf V.cf, .slice V.xt V.nt V.ct, .int .i64 s.lo, .int .i64 s.al, .slice V.xk V.nk V.ck, .int .i64 s.ka], .int .i64 t] w fun e w' => e = .returned (.tuple #[.int .i64 (getSL s t), .int .i64 (getSM s t)]) ∧ Below w.heap.size w w' := by
  have hA := (Below.refl w.heap.size w).alloc (Nat.le_refl _) (.cells #[.slice V.xr V.nr V.cr, .slice V.xf V.nf V.cf, .slice V.xt V.nt V.ct, .int .i64 s.lo, .int .i64 s.al, .slice V.xk V.nk V.ck, .int .i64 s.ka] 36)
  have X := Box7.new w 36 (.slice V.xr V.nr V.cr) (.slice V.xf V.nf V.cf) (.slice V.xt V.nt V.ct) (.int .i64 s.lo) (.int .i64 s.al) (.slice V.xk V.nk V.ck) (.int .i64 s.ka)
  obtain ⟨ax0, ax1, ax2, ax3, ax4, ax5, ax6⟩ := (X).cells
  obtain ⟨W0, hW⟩ : ∃ W, W = w.alloc (.cells #[.slice V.xr V.nr V.cr, .slice V.xf V.nf V.cf, .slice V.xt V.nt V.ct, .int .i64 s.lo, .int .i64 s.al, .slice V.xk V.nk V.ck, .int .i64 s.ka] 36) := ⟨_, rfl⟩
  rw [← hW] at hA X
  have B := Lib.hid hA
  have H1 := Lib.hid h1
  clear hA h1
  go_enter Try.func19, Try.ntmps19
  go_wp2_with fail
  rw [← hW]
  clear hW ax0 ax1 ax2 ax3 ax4 ax5 ax6
  have K1 := spSumOk_at W0 V s (H1.out.below B.out (Nat.le_refl _))
  cases ok : okS s with
  | false =>
    rw [ok] at K1
    refine (K1).mono ?_
    rintro e w1 ⟨rfl, hb⟩
    clear K1
    replace X := X.later hb
    replace B := Lib.hid (B.out.trans (hb.mono B.out.size))
    clear hb
    go_wp2
    go_ret2
    exact ⟨by rw [getSL_no (.inl ok), getSM_no (.inl ok)]; rfl, B.out⟩
  | true =>
    rw [ok] at K1
    have HOK := Lib.hid ok
    clear ok
    by_cases ht : t < 0 ∨ 63 < t
    · skip
      refine (K1).mono ?_
      rintro e w1 ⟨rfl, hb⟩
      clear K1
      replace X := X.later hb
      replace B := Lib.hid (B.out.trans (hb.mono B.out.size))
      clear hb
      go_wp2_with (go_at_call 49; refine (l6In_no _ _ _ _ ht).mono ?_; rintro e w' ⟨rfl, rfl⟩)
      go_ret2
      exact ⟨by rw [getSL_no (.inr (by omega)), getSM_no (.inr (by omega))]; rfl, B.out⟩
    · have t0 : 0 ≤ t := by omega
      have t1 : t < 64 := by omega
      have t2 : t ≤ 63 := by omega
      clear ht
      have EL := Lib.hid (getSL_yes HOK.out t0 t1)
      have EM := Lib.hid (getSM_yes HOK.out t0 t1)
      have K2 := Lib.hid (fun w h => spHas_at w (.slice V.xf V.nf V.cf) s.zs t h)
      have K3 := Lib.hid (fun w h => T.spTopGet_at w (.slice V.xt V.nt V.ct) s.ps s.lo s.al t h)
      have K4 := Lib.hid (fun w h => spGet_at w (.slice V.xr V.nr V.cr) s.rs t h)
      generalize hasA s.zs t = ha at K2 EL EM
      generalize hasK s.zs t = hk at K2 EL EM
      generalize T.getL s.ps s.lo s.al t = gl at K3 EL
      generalize T.getM s.ps s.lo s.al t = gm at K3 EM
      generalize getV s.rs t = gv at K4 EM
      refine (K1).mono ?_
      rintro e w1 ⟨rfl, hb⟩
      clear K1
      replace X := X.later hb
      replace B := Lib.hid (B.out.trans (hb.mono B.out.size))
      clear hb
      obtain ⟨cx0, cx1, cx2, cx3, cx4, cx5, cx6⟩ := (X).cells
      go_wp2_with (go_at_call 49; refine (l6In_yes _ _ _ _ t0 t2).mono ?_; rintro e w' ⟨rfl, rfl⟩)
      refine (K3.out w1 (H1.out.below B.out (Nat.le_refl _)).t).mono ?_
      rintro e w2 ⟨rfl, hb⟩
      clear cx0 cx1 cx2 cx3 cx4 cx5 cx6
      replace X := X.later hb
      replace B := Lib.hid (B.out.trans (hb.mono B.out.size))
      clear hb
      obtain ⟨cx0, cx1, cx2, cx3, cx4, cx5, cx6⟩ := (X).cells
      go_wp2_with fail
      refine (K2.out w2 (H1.out.below B.out (Nat.le_refl _)).f).mono ?_
      rintro e w3 ⟨rfl, hb⟩
      clear cx0 cx1 cx2 cx3 cx4 cx5 cx6
      replace X := X.later hb
      replace B := Lib.hid (B.out.trans (hb.mono B.out.size))
      clear hb
      obtain ⟨cx0, cx1, cx2, cx3, cx4, cx5, cx6⟩ := (X).cells
      cases hk with
      | true =>
        cases ha with
        | false =>
          go_wp2
          go_ret2
          exact ⟨by rw [EL.out, EM.out]; rfl, B.out⟩
        | true =>
          go_wp2_with fail
          refine (K4.out w3 (H1.out.below B.out (Nat.le_refl _)).r).mono ?_
          rintro e w4 ⟨rfl, hb⟩
          clear cx0 cx1 cx2 cx3 cx4 cx5 cx6
          replace X := X.later hb
          replace B := Lib.hid (B.out.trans (hb.mono B.out.size))
          clear hb
          go_wp2
          go_ret2
          exact ⟨by rw [EL.out, EM.out]; simp, B.out⟩
      | false =>
        cases ha with
        | false =>
          go_wp2_with fail
          refine (K4.out w3 (H1.out.below B.out (Nat.le_refl _)).r).mono ?_
          rintro e w4 ⟨rfl, hb⟩
          clear cx0 cx1 cx2 cx3 cx4 cx5 cx6
          replace X := X.later hb
          replace B := Lib.hid (B.out.trans (hb.mono B.out.size))
          clear hb
          go_wp2
          go_ret2
          exact ⟨by rw [EL.out, EM.out]; simp, B.out⟩
        | true =>
          go_wp2_with fail
          refine (K4.out w3 (H1.out.below B.out (Nat.le_refl _)).r).mono ?_
          rintro e w4 ⟨rfl, hb⟩
          clear cx0 cx1 cx2 cx3 cx4 cx5 cx6
          replace X := X.later hb
          replace B := Lib.hid (B.out.trans (hb.mono B.out.size))
          clear hb
          go_wp2
          go_ret2
          exact ⟨by rw [EL.out, EM.out]; simp, B.out⟩

end Go.Proofs.Ytnoilafoeaknjaa
