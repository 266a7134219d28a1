/-
  SumOk, SumAll, SumNew of the program.
-/
import Derived.Test.YtnoilafoeaknjaaZWays
set_option linter.unusedVariables false
namespace Go.Proofs.Ytnoilafoeaknjaa
open Go.RowKit Go.Sort

/-- The first j ways are ok. -/
def okUpto (s : Sm) (j : Nat) : Prop := (0 < j → okB s.rs = true) ∧ (1 < j → fewB s.zs = true) ∧ (2 < j → T.topB s.ps s.lo s.al = true) ∧ (3 < j → K.rankB s.ks s.ka = true)

set_option maxRecDepth 100000 in
set_option maxHeartbeats 4000000 in
theorem imSumOk_at (w : World) (V : SV) (s : Sm) (h : RdS w V s) :
    Calls Try.prog 11 #[.agg #[.slice V.xr V.nr V.cr, .slice V.xf V.nf V.cf, .slice V.xt V.nt V.ct, .int .i64 s.lo, .int .i64 s.al, .slice V.xk V.nk V.ck, .int .i64 s.ka]] w fun e w' => e = .returned (.bool (okS s)) ∧ Below w.heap.size w w' := by
  have hA := (Below.refl w.heap.size w).alloc (Nat.le_refl _) (.cells #[.slice V.xr V.nr V.cr, .slice V.xf V.nf V.cf, .slice V.xt V.nt V.ct, .int .i64 s.lo, .int .i64 s.al, .slice V.xk V.nk V.ck, .int .i64 s.ka] 36)
  have X0 := Box7.new w 36 (.slice V.xr V.nr V.cr) (.slice V.xf V.nf V.cf) (.slice V.xt V.nt V.ct) (.int .i64 s.lo) (.int .i64 s.al) (.slice V.xk V.nk V.ck) (.int .i64 s.ka)
  have HA := Lib.hid hA
  have R0 := Lib.hid (h.below hA (Nat.le_refl _))
  have KW := Lib.hid (waysOf_at (w.alloc (.cells #[.slice V.xr V.nr V.cr, .slice V.xf V.nf V.cf, .slice V.xt V.nt V.ct, .int .i64 s.lo, .int .i64 s.al, .slice V.xk V.nk V.ck, .int .i64 s.ka] 36)) V s)
  have fl := Lib.hid h.lens.2.1
  clear h hA
  go_enter Try.func11, Try.ntmps11
  go_wp2_with fail
  refine KW.out.mono ?_
  rintro e w1 ⟨rfl, hb1⟩
  have X1 := X0.later hb1
  have R1 := Lib.hid (R0.out.later hb1)
  have B1 := Lib.hid (HA.out.trans (hb1.mono HA.out.size))
  clear hb1 X0 R0 HA KW
  go_wp2
  go_loopw [8] (fun i wr => ∃ j : Nat, i = .int .i64 j ∧ j ≤ 4 ∧ okUpto s j ∧ Below w1.heap.size w1 wr) (fun i _ => 4 - (intOf i).toNat)
  case atStart => exact ⟨0, rfl, by omega, by simp [okUpto], Below.refl _ _⟩
  case round =>
    obtain ⟨j, rfl, hj, hu, hbl⟩ := hrel
    have HU := Lib.hid hu
    have HB := Lib.hid hbl
    have R2 := Lib.hid (R1.out.below hbl (Nat.le_refl _))
    have X2 := X1.later hbl
    clear hu hbl
    have IW := fun w => index_way (wayR V) (wayF V) (wayT V s) (wayK V s) w
    unfold wayR wayF wayT wayK at IW ⊢
    rcases (by omega : j = 4 ∨ j = 0 ∨ j = 1 ∨ j = 2 ∨ j = 3) with rfl | rfl | rfl | rfl | rfl
    · clear IW
      have u := HU.out
      have r1 := u.1 (by omega)
      have f1 := u.2.1 (by omega)
      have t1 := u.2.2.1 (by omega)
      have k1 := u.2.2.2 (by omega)
      have hok : okS s = (decide (allV s.rs = s.al) && (decide (s.al = s.ka) && decide (0 < s.zs.length ↔ 0 < s.al))) := by
        unfold okS
        rw [r1, f1, t1, k1]
        rfl
      have HOK := Lib.hid hok
      have KA := Lib.hid (roughAll_at wr _ s.rs R2.out.r)
      obtain ⟨A, hA⟩ : ∃ A, A = allV s.rs := ⟨_, rfl⟩
      rw [← hA] at KA
      have HAA := Lib.hid hA
      clear u r1 f1 t1 k1 hok hA HU
      obtain ⟨c0, c1, c2, c3, c4, c5, c6⟩ := X2.cells
      go_wp2_with fail
      refine KA.out.mono ?_
      rintro e w2 ⟨rfl, hb2⟩
      have X3 := X2.later hb2
      have HB2 := Lib.hid (HB.out.trans (hb2.mono HB.out.size))
      clear hb2 c0 c1 c2 c3 c4 c5 c6 X2 R2 KA
      obtain ⟨c0, c1, c2, c3, c4, c5, c6⟩ := X3.cells
      rw [← HAA.out] at HOK
      have hn := fl.out
      go_wp2
      all_goals
        go_ret
        refine ⟨?_, B1.out.trans (HB2.out.mono B1.out.size)⟩
        rw [HOK.out]
        refine congrArg (fun b => Ending.returned (Value.bool b)) ?_
        rw [Bool.eq_iff_iff]
        simp
        omega
    · have I1 := fun w => (IW w).1
      clear IW
      have KI := Lib.hid (isOkR_at wr _ _ _ s.rs R2.out.r)
      obtain ⟨ok, hok⟩ : ∃ ok, ok = okB s.rs := ⟨_, rfl⟩
      rw [← hok] at KI
      have HOK := Lib.hid hok
      clear hok
      go_wp2_with fail
      refine KI.out.mono ?_
      rintro e w2 ⟨rfl, hb2⟩
      have HB2 := Lib.hid (HB.out.trans (hb2.mono HB.out.size))
      clear hb2 KI
      cases ok with
      | false =>
        go_wp2
        go_ret
        refine ⟨?_, B1.out.trans (HB2.out.mono B1.out.size)⟩
        have u := HU.out
        have q := HOK.out
        unfold okS
        rw [← q]
        simp
      | true =>
        go_wp2
        go_roundw
        case rel => exact ⟨1, rfl, by omega, ⟨fun _ => HOK.out.symm, fun q => by omega, fun q => by omega, fun q => by omega⟩, HB2.out⟩
        case measure => simp [intOf]
    · have I1 := fun w => (IW w).2.1
      clear IW
      have KI := Lib.hid (isOkF_at wr _ _ _ s.zs R2.out.f)
      obtain ⟨ok, hok⟩ : ∃ ok, ok = fewB s.zs := ⟨_, rfl⟩
      rw [← hok] at KI
      have HOK := Lib.hid hok
      clear hok
      go_wp2_with fail
      refine KI.out.mono ?_
      rintro e w2 ⟨rfl, hb2⟩
      have HB2 := Lib.hid (HB.out.trans (hb2.mono HB.out.size))
      clear hb2 KI
      cases ok with
      | false =>
        go_wp2
        go_ret
        refine ⟨?_, B1.out.trans (HB2.out.mono B1.out.size)⟩
        have u := HU.out
        have q := HOK.out
        unfold okS
        rw [← q]
        simp
      | true =>
        go_wp2
        go_roundw
        case rel => exact ⟨2, rfl, by omega, ⟨fun _ => HU.out.1 (by omega), fun _ => HOK.out.symm, fun q => by omega, fun q => by omega⟩, HB2.out⟩
        case measure => simp [intOf]
    · have I1 := fun w => (IW w).2.2.1
      clear IW
      have KI := Lib.hid (isOkT_at wr _ _ _ s.ps s.lo s.al R2.out.t)
      obtain ⟨ok, hok⟩ : ∃ ok, ok = T.topB s.ps s.lo s.al := ⟨_, rfl⟩
      rw [← hok] at KI
      have HOK := Lib.hid hok
      clear hok
      go_wp2_with fail
      refine KI.out.mono ?_
      rintro e w2 ⟨rfl, hb2⟩
      have HB2 := Lib.hid (HB.out.trans (hb2.mono HB.out.size))
      clear hb2 KI
      cases ok with
      | false =>
        go_wp2
        go_ret
        refine ⟨?_, B1.out.trans (HB2.out.mono B1.out.size)⟩
        have u := HU.out
        have q := HOK.out
        unfold okS
        rw [← q]
        simp
      | true =>
        go_wp2
        go_roundw
        case rel => exact ⟨3, rfl, by omega, ⟨fun _ => HU.out.1 (by omega), fun _ => HU.out.2.1 (by omega), fun _ => HOK.out.symm, fun q => by omega⟩, HB2.out⟩
        case measure => simp [intOf]
    · have I1 := fun w => (IW w).2.2.2
      clear IW
      have KI := Lib.hid (isOkK_at wr _ _ _ s.ks s.ka R2.out.k)
      obtain ⟨ok, hok⟩ : ∃ ok, ok = K.rankB s.ks s.ka := ⟨_, rfl⟩
      rw [← hok] at KI
      have HOK := Lib.hid hok
      clear hok
      go_wp2_with fail
      refine KI.out.mono ?_
      rintro e w2 ⟨rfl, hb2⟩
      have HB2 := Lib.hid (HB.out.trans (hb2.mono HB.out.size))
      clear hb2 KI
      cases ok with
      | false =>
        go_wp2
        go_ret
        refine ⟨?_, B1.out.trans (HB2.out.mono B1.out.size)⟩
        have u := HU.out
        have q := HOK.out
        unfold okS
        rw [← q]
        simp
      | true =>
        go_wp2
        go_roundw
        case rel => exact ⟨4, rfl, by omega, ⟨fun _ => HU.out.1 (by omega), fun _ => HU.out.2.1 (by omega), fun _ => HU.out.2.2.1 (by omega), fun _ => HOK.out.symm⟩, HB2.out⟩
        case measure => simp [intOf]

end Go.Proofs.Ytnoilafoeaknjaa
