/-
  How much a sum has, and how often a thing was counted, of the program.
-/
import Derived.Test.YtnoilafoeaknjaaZImOk
import Derived.Test.YtnoilafoeaknjaaFd
set_option linter.unusedVariables false
namespace Go.Proofs.Ytnoilafoeaknjaa
open Go.RowKit Go.Sort

def allS (s : Sm) : Int := if okS s = true then s.al else -1
def getSL (s : Sm) (t : Int) : Int := if okS s = true ∧ 0 ≤ t ∧ t < 64 then (if hasK s.zs t && !hasA s.zs t then 0 else if hasA s.zs t then max (T.getL s.ps s.lo s.al t) 1 else T.getL s.ps s.lo s.al t) else -1
def getSM (s : Sm) (t : Int) : Int := if okS s = true ∧ 0 ≤ t ∧ t < 64 then (if hasK s.zs t && !hasA s.zs t then 0 else min (T.getM s.ps s.lo s.al t) (getV s.rs t)) else -1
theorem getSL_no {s : Sm} {t : Int} (h : okS s = false ∨ (t < 0 ∨ 64 ≤ t)) : getSL s t = -1 := if_neg (by
  rintro ⟨q, a, b⟩
  rcases h with h | h
  · rw [h] at q; cases q
  · omega)
theorem getSM_no {s : Sm} {t : Int} (h : okS s = false ∨ (t < 0 ∨ 64 ≤ t)) : getSM s t = -1 := if_neg (by
  rintro ⟨q, a, b⟩
  rcases h with h | h
  · rw [h] at q; cases q
  · omega)
theorem getSL_yes {s : Sm} {t : Int} (h : okS s = true) (t0 : 0 ≤ t) (t1 : t < 64) : getSL s t = if hasK s.zs t && !hasA s.zs t then 0 else if hasA s.zs t then max (T.getL s.ps s.lo s.al t) 1 else T.getL s.ps s.lo s.al t := if_pos ⟨h, t0, t1⟩
theorem getSM_yes {s : Sm} {t : Int} (h : okS s = true) (t0 : 0 ≤ t) (t1 : t < 64) : getSM s t = if hasK s.zs t && !hasA s.zs t then 0 else min (T.getM s.ps s.lo s.al t) (getV s.rs t) := if_pos ⟨h, t0, t1⟩
theorem getS_bd {s : Sm} {t : Int} (h : okS s = true) (t0 : 0 ≤ t) (t1 : t < 64) : True := trivial

set_option maxHeartbeats 4000000 in
theorem imSumAll_at (w : World) (V : SV) (s : Sm) (h1 : RdS w V s) :
    Calls Try.prog 24 #[.agg #[.slice V.xr V.nr V.cr, .slice V.xf V.nf V.cf, .slice V.xt V.nt V.ct, .int .i64 s.lo, .int .i64 s.al, .slice V.xk V.nk V.ck, .int .i64 s.ka]] w fun e w' => e = .returned (.int .i64 (allS s)) ∧ Below w.heap.size w w' := by
  have hA := (Below.refl w.heap.size w).alloc (Nat.le_refl _) (.cells #[.slice V.xr V.nr V.cr, .slice V.xf V.nf V.cf, .slice V.xt V.nt V.ct, .int .i64 s.lo, .int .i64 s.al, .slice V.xk V.nk V.ck, .int .i64 s.ka] 36)
  have X := Box7.new w 36 (.slice V.xr V.nr V.cr) (.slice V.xf V.nf V.cf) (.slice V.xt V.nt V.ct) (.int .i64 s.lo) (.int .i64 s.al) (.slice V.xk V.nk V.ck) (.int .i64 s.ka)
  obtain ⟨ax0, ax1, ax2, ax3, ax4, ax5, ax6⟩ := (X).cells
  obtain ⟨W0, hW⟩ : ∃ W, W = w.alloc (.cells #[.slice V.xr V.nr V.cr, .slice V.xf V.nf V.cf, .slice V.xt V.nt V.ct, .int .i64 s.lo, .int .i64 s.al, .slice V.xk V.nk V.ck, .int .i64 s.ka] 36) := ⟨_, rfl⟩
  rw [← hW] at hA X
  have B := Lib.hid hA
  have H1 := Lib.hid h1
  clear hA h1
  go_enter Try.func24, Try.ntmps24
  go_wp2_with fail
  rw [← hW]
  clear hW ax0 ax1 ax2 ax3 ax4 ax5 ax6
  have K1 := imSumOk_at W0 V s (H1.out.below B.out (Nat.le_refl _))
  cases ok : okS s with
  | false =>
    rw [ok] at K1
    refine (K1).mono ?_
    rintro e w1 ⟨rfl, hb⟩
    clear K1
    replace X := X.later hb
    replace B := Lib.hid (B.out.trans (hb.mono B.out.size))
    clear hb
    go_wp2
    go_ret
    exact ⟨by unfold allS; rw [ok]; rfl, B.out⟩
  | true =>
    rw [ok] at K1
    have AV := Lib.hid ((okS_iff _).1 ok).ra
    have HOK := Lib.hid ok
    clear ok
    refine (K1).mono ?_
    rintro e w1 ⟨rfl, hb⟩
    clear K1
    replace X := X.later hb
    replace B := Lib.hid (B.out.trans (hb.mono B.out.size))
    clear hb
    obtain ⟨cx0, cx1, cx2, cx3, cx4, cx5, cx6⟩ := (X).cells
    go_wp2_with fail
    refine (roughAll_at w1 (.slice V.xr V.nr V.cr) s.rs (H1.out.below B.out (Nat.le_refl _)).r).mono ?_
    rintro e w2 ⟨rfl, hb⟩
    clear cx0 cx1 cx2 cx3 cx4 cx5 cx6
    replace X := X.later hb
    replace B := Lib.hid (B.out.trans (hb.mono B.out.size))
    clear hb
    go_wp2
    go_ret
    exact ⟨by unfold allS; rw [HOK.out, AV.out]; rfl, B.out⟩

set_option maxRecDepth 100000 in
set_option maxHeartbeats 4000000 in
theorem imSumGet_at (w : World) (V : SV) (s : Sm) (t : Int) (h1 : RdS w V s) :
    Calls Try.prog 20 #[.agg #[.slice V.xr V.nr V.cr, .slice V.xf V.nf V.cf, .slice V.xt V.nt V.ct, .int .i64 s.lo, .int .i64 s.al, .slice V.xk V.nk V.ck, .int .i64 s.ka], .int .i64 t] w fun e w' => e = .returned (.tuple #[.int .i64 (getSL s t), .int .i64 (getSM s t)]) ∧ Below w.heap.size w w' := by
  have hA := (Below.refl w.heap.size w).alloc (Nat.le_refl _) (.cells #[.slice V.xr V.nr V.cr, .slice V.xf V.nf V.cf, .slice V.xt V.nt V.ct, .int .i64 s.lo, .int .i64 s.al, .slice V.xk V.nk V.ck, .int .i64 s.ka] 36)
  have X := Box7.new w 36 (.slice V.xr V.nr V.cr) (.slice V.xf V.nf V.cf) (.slice V.xt V.nt V.ct) (.int .i64 s.lo) (.int .i64 s.al) (.slice V.xk V.nk V.ck) (.int .i64 s.ka)
  obtain ⟨ax0, ax1, ax2, ax3, ax4, ax5, ax6⟩ := (X).cells
  obtain ⟨W0, hW⟩ : ∃ W, W = w.alloc (.cells #[.slice V.xr V.nr V.cr, .slice V.xf V.nf V.cf, .slice V.xt V.nt V.ct, .int .i64 s.lo, .int .i64 s.al, .slice V.xk V.nk V.ck, .int .i64 s.ka] 36) := ⟨_, rfl⟩
  rw [← hW] at hA X
  have B := Lib.hid hA
  have H1 := Lib.hid h1
  clear hA h1
  go_enter Try.func20, Try.ntmps20
  go_wp2_with fail
  rw [← hW]
  clear hW ax0 ax1 ax2 ax3 ax4 ax5 ax6
  have K1 := imSumOk_at W0 V s (H1.out.below B.out (Nat.le_refl _))
  cases ok : okS s with
  | false =>
    rw [ok] at K1
    refine (K1).mono ?_
    rintro e w1 ⟨rfl, hb⟩
    clear K1
    replace X := X.later hb
    replace B := Lib.hid (B.out.trans (hb.mono B.out.size))
    clear hb
    go_wp2
    go_ret2
    exact ⟨by rw [getSL_no (.inl ok), getSM_no (.inl ok)]; rfl, B.out⟩
  | true =>
    rw [ok] at K1
    have HOK := Lib.hid ok
    clear ok
    by_cases ht : t < 0 ∨ 64 ≤ t
    · skip
      refine (K1).mono ?_
      rintro e w1 ⟨rfl, hb⟩
      clear K1
      replace X := X.later hb
      replace B := Lib.hid (B.out.trans (hb.mono B.out.size))
      clear hb
      go_wp2_with (go_at_call 45; refine (isThing_no _ _ ht).mono ?_; rintro e w' ⟨rfl, rfl⟩)
      go_ret2
      exact ⟨by rw [getSL_no (.inr ht), getSM_no (.inr ht)]; rfl, B.out⟩
    · have t0 : 0 ≤ t := by omega
      have t1 : t < 64 := by omega
      clear ht
      have EL := Lib.hid (getSL_yes HOK.out t0 t1)
      have EM := Lib.hid (getSM_yes HOK.out t0 t1)
      have BD := Lib.hid (getS_bd HOK.out t0 t1)
      have K2 := Lib.hid (fun w h => imHas_at w (.slice V.xf V.nf V.cf) s.zs t h)
      have K3 := Lib.hid (fun w h => T.imTopGet_at w (.slice V.xt V.nt V.ct) s.ps s.lo s.al t h)
      have K4 := Lib.hid (fun w h => imGet_at w (.slice V.xr V.nr V.cr) s.rs t h)
      generalize hasA s.zs t = ha at K2 EL EM
      generalize hasK s.zs t = hk at K2 EL EM
      generalize T.getL s.ps s.lo s.al t = gl at K3 EL BD
      generalize T.getM s.ps s.lo s.al t = gm at K3 EM BD
      generalize getV s.rs t = gv at K4 EM BD
      refine (K1).mono ?_
      rintro e w1 ⟨rfl, hb⟩
      clear K1
      replace X := X.later hb
      replace B := Lib.hid (B.out.trans (hb.mono B.out.size))
      clear hb
      obtain ⟨cx0, cx1, cx2, cx3, cx4, cx5, cx6⟩ := (X).cells
      go_wp2_with (go_at_call 45; refine (isThing_yes _ _ t0 t1).mono ?_; rintro e w' ⟨rfl, rfl⟩)
      refine (K2.out w1 (H1.out.below B.out (Nat.le_refl _)).f).mono ?_
      rintro e w2 ⟨rfl, hb⟩
      clear cx0 cx1 cx2 cx3 cx4 cx5 cx6
      replace X := X.later hb
      replace B := Lib.hid (B.out.trans (hb.mono B.out.size))
      clear hb
      obtain ⟨cx0, cx1, cx2, cx3, cx4, cx5, cx6⟩ := (X).cells
      cases hk with
      | true =>
        cases ha with
        | false =>
          go_wp2
          go_ret2
          exact ⟨by rw [EL.out, EM.out]; rfl, B.out⟩
        | true =>
          go_wp2_with fail
          refine (K3.out w2 (H1.out.below B.out (Nat.le_refl _)).t).mono ?_
          rintro e w3 ⟨rfl, hb⟩
          clear cx0 cx1 cx2 cx3 cx4 cx5 cx6
          replace X := X.later hb
          replace B := Lib.hid (B.out.trans (hb.mono B.out.size))
          clear hb
          obtain ⟨cx0, cx1, cx2, cx3, cx4, cx5, cx6⟩ := (X).cells
          go_wp2_with fail
          refine (K4.out w3 (H1.out.below B.out (Nat.le_refl _)).r).mono ?_
          rintro e w4 ⟨rfl, hb⟩
          clear cx0 cx1 cx2 cx3 cx4 cx5 cx6
          replace X := X.later hb
          replace B := Lib.hid (B.out.trans (hb.mono B.out.size))
          clear hb
          go_wp2
          go_ret2
          exact ⟨by rw [EL.out, EM.out]; simp, B.out⟩
      | false =>
        cases ha with
        | false =>
          go_wp2_with fail
          refine (K3.out w2 (H1.out.below B.out (Nat.le_refl _)).t).mono ?_
          rintro e w3 ⟨rfl, hb⟩
          clear cx0 cx1 cx2 cx3 cx4 cx5 cx6
          replace X := X.later hb
          replace B := Lib.hid (B.out.trans (hb.mono B.out.size))
          clear hb
          obtain ⟨cx0, cx1, cx2, cx3, cx4, cx5, cx6⟩ := (X).cells
          go_wp2_with fail
          refine (K4.out w3 (H1.out.below B.out (Nat.le_refl _)).r).mono ?_
          rintro e w4 ⟨rfl, hb⟩
          clear cx0 cx1 cx2 cx3 cx4 cx5 cx6
          replace X := X.later hb
          replace B := Lib.hid (B.out.trans (hb.mono B.out.size))
          clear hb
          go_wp2
          go_ret2
          exact ⟨by rw [EL.out, EM.out]; simp, B.out⟩
        | true =>
          go_wp2_with fail
          refine (K3.out w2 (H1.out.below B.out (Nat.le_refl _)).t).mono ?_
          rintro e w3 ⟨rfl, hb⟩
          clear cx0 cx1 cx2 cx3 cx4 cx5 cx6
          replace X := X.later hb
          replace B := Lib.hid (B.out.trans (hb.mono B.out.size))
          clear hb
          obtain ⟨cx0, cx1, cx2, cx3, cx4, cx5, cx6⟩ := (X).cells
          go_wp2_with fail
          refine (K4.out w3 (H1.out.below B.out (Nat.le_refl _)).r).mono ?_
          rintro e w4 ⟨rfl, hb⟩
          clear cx0 cx1 cx2 cx3 cx4 cx5 cx6
          replace X := X.later hb
          replace B := Lib.hid (B.out.trans (hb.mono B.out.size))
          clear hb
          go_wp2
          go_ret2
          exact ⟨by rw [EL.out, EM.out]; simp, B.out⟩

end Go.Proofs.Ytnoilafoeaknjaa
