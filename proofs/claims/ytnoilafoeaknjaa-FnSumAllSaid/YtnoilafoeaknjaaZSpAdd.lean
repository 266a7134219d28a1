/-
  One thing more, of the model.
-/
import Derived.Test.YtnoilafoeaknjaaZSpOk
import Derived.Test.YtnoilafoeaknjaaZOwn
set_option linter.unusedVariables false
namespace Go.Proofs.Ytnoilafoeaknjaa
open Go.RowKit Go.Sort

set_option maxRecDepth 100000 in
set_option maxHeartbeats 8000000 in
theorem spSumAdd_noA (w : World) (V1 : SV) (a : Sm) (t : Int) (h1 : RdS w V1 a) (okA : okS a = false) :
    Calls Try.prog 110 #[.agg #[.slice V1.xr V1.nr V1.cr, .slice V1.xf V1.nf V1.cf, .slice V1.xt V1.nt V1.ct, .int .i64 a.lo, .int .i64 a.al, .slice V1.xk V1.nk V1.ck, .int .i64 a.ka], .int .i64 t] w fun e w' => ∃ U, e = .returned (.tuple #[.agg #[.slice U.xr U.nr U.cr, .slice U.xf U.nf U.cf, .slice U.xt U.nt U.ct, .int .i64 (addS a t).lo, .int .i64 (addS a t).al, .slice U.xk U.nk U.ck, .int .i64 (addS a t).ka], .bool (addOkS a t)]) ∧ OwnS w' w.heap.size w'.heap.size U (addS a t) ∧ Below w.heap.size w w' := by
  have hno : addOkS a t = false := by unfold addOkS; rw [okA]; rfl
  have hA := ((Below.refl w.heap.size w).alloc (Nat.le_refl _) (.cells #[.slice V1.xr V1.nr V1.cr, .slice V1.xf V1.nf V1.cf, .slice V1.xt V1.nt V1.ct, .int .i64 a.lo, .int .i64 a.al, .slice V1.xk V1.nk V1.ck, .int .i64 a.ka] 36)).alloc (by simp) (.cells #[.slice none 0 0, .slice none 0 0, .slice none 0 0, .int .i64 0, .int .i64 0, .slice none 0 0, .int .i64 0] 36)
  have XA := (Box7.new w 36 (.slice V1.xr V1.nr V1.cr) (.slice V1.xf V1.nf V1.cf) (.slice V1.xt V1.nt V1.ct) (.int .i64 a.lo) (.int .i64 a.al) (.slice V1.xk V1.nk V1.ck) (.int .i64 a.ka)).alloc (.cells #[.slice none 0 0, .slice none 0 0, .slice none 0 0, .int .i64 0, .int .i64 0, .slice none 0 0, .int .i64 0] 36)
  have R := Box7.new (w.alloc (.cells #[.slice V1.xr V1.nr V1.cr, .slice V1.xf V1.nf V1.cf, .slice V1.xt V1.nt V1.ct, .int .i64 a.lo, .int .i64 a.al, .slice V1.xk V1.nk V1.ck, .int .i64 a.ka] 36)) 36 (.slice none 0 0) (.slice none 0 0) (.slice none 0 0) (.int .i64 0) (.int .i64 0) (.slice none 0 0) (.int .i64 0)
  rw [World.size_alloc] at R
  obtain ⟨axa0, axa1, axa2, axa3, axa4, axa5, axa6⟩ := (XA).cells
  obtain ⟨W0, hW⟩ : ∃ W, W = (w.alloc (.cells #[.slice V1.xr V1.nr V1.cr, .slice V1.xf V1.nf V1.cf, .slice V1.xt V1.nt V1.ct, .int .i64 a.lo, .int .i64 a.al, .slice V1.xk V1.nk V1.ck, .int .i64 a.ka] 36)).alloc (.cells #[.slice none 0 0, .slice none 0 0, .slice none 0 0, .int .i64 0, .int .i64 0, .slice none 0 0, .int .i64 0] 36) := ⟨_, rfl⟩
  rw [← hW] at hA XA R
  have B := Lib.hid hA
  have H1 := Lib.hid h1
  have SZ : Hid (W0.heap.size = w.heap.size + 2) := by show _ = _; rw [hW]; simp
  clear hA h1
  have K1 := spSumOk_at W0 V1 a (H1.out.below B.out (Nat.le_refl _))
  rw [okA] at K1
  go_enter Try.func110, Try.ntmps110
  go_wp2_with fail
  rw [← hW]
  clear hW axa0 axa1 axa2 axa3 axa4 axa5 axa6
  refine (K1).mono ?_
  rintro e w1 ⟨rfl, hb⟩
  clear K1
  have SZ1 := Lib.hid hb.size
  replace XA := XA.later hb
  replace R := R.later hb
  replace B := Lib.hid (B.out.trans (hb.mono B.out.size))
  clear hb
  obtain ⟨cr0, cr1, cr2, cr3, cr4, cr5, cr6⟩ := (R).cells
  have frr := R.free
  have fin := R.set (.slice none 0 0) (.slice none 0 0) (.slice none 0 0) (.int .i64 0) (.int .i64 0) (.slice none 0 0) (.int .i64 0)
  have OF := OwnS.box7 (OwnS.none _ _ _ B.out.size (Nat.le_refl _)) R (.slice none 0 0) (.slice none 0 0) (.slice none 0 0) (.int .i64 0) (.int .i64 0) (.slice none 0 0) (.int .i64 0)
  have BF := below_set7 B.out (Nat.le_add_right w.heap.size 1) (.slice none 0 0) (.slice none 0 0) (.slice none 0 0) (.int .i64 0) (.int .i64 0) (.slice none 0 0) (.int .i64 0)
  have SF := set7_size w1 (w.heap.size + 1) (.slice none 0 0) (.slice none 0 0) (.slice none 0 0) (.int .i64 0) (.int .i64 0) (.slice none 0 0) (.int .i64 0)
  have HF := Lib.hid (And.intro (OwnS.base OF (Nat.le_refl _) (Nat.le_of_eq SF.symm) (Nat.le_refl _)) BF)
  have HY := Lib.hid fin
  clear fin OF BF SF
  go_wp2
  show bodyPost _ _ _ _ _ (set7 w1 (w.heap.size + 1) (.slice none 0 0) (.slice none 0 0) (.slice none 0 0) (.int .i64 0) (.int .i64 0) (.slice none 0 0) (.int .i64 0))
  obtain ⟨d0, d1, d2, d3, d4, d5, d6⟩ := HY.out.cells
  generalize set7 w1 (w.heap.size + 1) (.slice none 0 0) (.slice none 0 0) (.slice none 0 0) (.int .i64 0) (.int .i64 0) (.slice none 0 0) (.int .i64 0) = WF at HF d0 d1 d2 d3 d4 d5 d6 ⊢
  refine bodyPost_ret (v := .tuple #[.agg #[.slice none 0 0, .slice none 0 0, .slice none 0 0, .int .i64 0, .int .i64 0, .slice none 0 0, .int .i64 0], .bool false]) (by simp [results, Try.results110, go_sem, d0, d1, d2, d3, d4, d5, d6]) rfl ?_
  rw [addS_no hno, hno]
  exact ⟨SV.none, rfl, HF.out⟩

set_option maxRecDepth 100000 in
set_option maxHeartbeats 8000000 in
theorem spSumAdd_noT (w : World) (V1 : SV) (a : Sm) (t : Int) (h1 : RdS w V1 a) (okA : okS a = true) (ht : t < 0 ∨ 63 < t) :
    Calls Try.prog 110 #[.agg #[.slice V1.xr V1.nr V1.cr, .slice V1.xf V1.nf V1.cf, .slice V1.xt V1.nt V1.ct, .int .i64 a.lo, .int .i64 a.al, .slice V1.xk V1.nk V1.ck, .int .i64 a.ka], .int .i64 t] w fun e w' => ∃ U, e = .returned (.tuple #[.agg #[.slice U.xr U.nr U.cr, .slice U.xf U.nf U.cf, .slice U.xt U.nt U.ct, .int .i64 (addS a t).lo, .int .i64 (addS a t).al, .slice U.xk U.nk U.ck, .int .i64 (addS a t).ka], .bool (addOkS a t)]) ∧ OwnS w' w.heap.size w'.heap.size U (addS a t) ∧ Below w.heap.size w w' := by
  have hno : addOkS a t = false := by unfold addOkS; rw [okA, decide_eq_false (by omega)]; rfl
  have hA := ((Below.refl w.heap.size w).alloc (Nat.le_refl _) (.cells #[.slice V1.xr V1.nr V1.cr, .slice V1.xf V1.nf V1.cf, .slice V1.xt V1.nt V1.ct, .int .i64 a.lo, .int .i64 a.al, .slice V1.xk V1.nk V1.ck, .int .i64 a.ka] 36)).alloc (by simp) (.cells #[.slice none 0 0, .slice none 0 0, .slice none 0 0, .int .i64 0, .int .i64 0, .slice none 0 0, .int .i64 0] 36)
  have XA := (Box7.new w 36 (.slice V1.xr V1.nr V1.cr) (.slice V1.xf V1.nf V1.cf) (.slice V1.xt V1.nt V1.ct) (.int .i64 a.lo) (.int .i64 a.al) (.slice V1.xk V1.nk V1.ck) (.int .i64 a.ka)).alloc (.cells #[.slice none 0 0, .slice none 0 0, .slice none 0 0, .int .i64 0, .int .i64 0, .slice none 0 0, .int .i64 0] 36)
  have R := Box7.new (w.alloc (.cells #[.slice V1.xr V1.nr V1.cr, .slice V1.xf V1.nf V1.cf, .slice V1.xt V1.nt V1.ct, .int .i64 a.lo, .int .i64 a.al, .slice V1.xk V1.nk V1.ck, .int .i64 a.ka] 36)) 36 (.slice none 0 0) (.slice none 0 0) (.slice none 0 0) (.int .i64 0) (.int .i64 0) (.slice none 0 0) (.int .i64 0)
  rw [World.size_alloc] at R
  obtain ⟨axa0, axa1, axa2, axa3, axa4, axa5, axa6⟩ := (XA).cells
  obtain ⟨W0, hW⟩ : ∃ W, W = (w.alloc (.cells #[.slice V1.xr V1.nr V1.cr, .slice V1.xf V1.nf V1.cf, .slice V1.xt V1.nt V1.ct, .int .i64 a.lo, .int .i64 a.al, .slice V1.xk V1.nk V1.ck, .int .i64 a.ka] 36)).alloc (.cells #[.slice none 0 0, .slice none 0 0, .slice none 0 0, .int .i64 0, .int .i64 0, .slice none 0 0, .int .i64 0] 36) := ⟨_, rfl⟩
  rw [← hW] at hA XA R
  have B := Lib.hid hA
  have H1 := Lib.hid h1
  have SZ : Hid (W0.heap.size = w.heap.size + 2) := by show _ = _; rw [hW]; simp
  clear hA h1
  have K1 := spSumOk_at W0 V1 a (H1.out.below B.out (Nat.le_refl _))
  rw [okA] at K1
  go_enter Try.func110, Try.ntmps110
  go_wp2_with fail
  rw [← hW]
  clear hW axa0 axa1 axa2 axa3 axa4 axa5 axa6
  refine (K1).mono ?_
  rintro e w1 ⟨rfl, hb⟩
  clear K1
  have SZ1 := Lib.hid hb.size
  replace XA := XA.later hb
  replace R := R.later hb
  replace B := Lib.hid (B.out.trans (hb.mono B.out.size))
  clear hb
  obtain ⟨cr0, cr1, cr2, cr3, cr4, cr5, cr6⟩ := (R).cells
  have frr := R.free
  have fin := R.set (.slice none 0 0) (.slice none 0 0) (.slice none 0 0) (.int .i64 0) (.int .i64 0) (.slice none 0 0) (.int .i64 0)
  have OF := OwnS.box7 (OwnS.none _ _ _ B.out.size (Nat.le_refl _)) R (.slice none 0 0) (.slice none 0 0) (.slice none 0 0) (.int .i64 0) (.int .i64 0) (.slice none 0 0) (.int .i64 0)
  have BF := below_set7 B.out (Nat.le_add_right w.heap.size 1) (.slice none 0 0) (.slice none 0 0) (.slice none 0 0) (.int .i64 0) (.int .i64 0) (.slice none 0 0) (.int .i64 0)
  have SF := set7_size w1 (w.heap.size + 1) (.slice none 0 0) (.slice none 0 0) (.slice none 0 0) (.int .i64 0) (.int .i64 0) (.slice none 0 0) (.int .i64 0)
  have HF := Lib.hid (And.intro (OwnS.base OF (Nat.le_refl _) (Nat.le_of_eq SF.symm) (Nat.le_refl _)) BF)
  have HY := Lib.hid fin
  clear fin OF BF SF
  go_wp2_with (go_at_call 49; refine (l6In_no _ _ _ _ ht).mono ?_; rintro e w' ⟨rfl, rfl⟩)
  show bodyPost _ _ _ _ _ (set7 w1 (w.heap.size + 1) (.slice none 0 0) (.slice none 0 0) (.slice none 0 0) (.int .i64 0) (.int .i64 0) (.slice none 0 0) (.int .i64 0))
  obtain ⟨d0, d1, d2, d3, d4, d5, d6⟩ := HY.out.cells
  generalize set7 w1 (w.heap.size + 1) (.slice none 0 0) (.slice none 0 0) (.slice none 0 0) (.int .i64 0) (.int .i64 0) (.slice none 0 0) (.int .i64 0) = WF at HF d0 d1 d2 d3 d4 d5 d6 ⊢
  refine bodyPost_ret (v := .tuple #[.agg #[.slice none 0 0, .slice none 0 0, .slice none 0 0, .int .i64 0, .int .i64 0, .slice none 0 0, .int .i64 0], .bool false]) (by simp [results, Try.results110, go_sem, d0, d1, d2, d3, d4, d5, d6]) rfl ?_
  rw [addS_no hno, hno]
  exact ⟨SV.none, rfl, HF.out⟩

set_option maxRecDepth 100000 in
set_option maxHeartbeats 8000000 in
theorem spSumAdd_much (w : World) (V1 : SV) (a : Sm) (t : Int) (h1 : RdS w V1 a) (okA : okS a = true) (ht : 0 ≤ t ∧ t ≤ 63) (hs : 2000 ≤ a.al) :
    Calls Try.prog 110 #[.agg #[.slice V1.xr V1.nr V1.cr, .slice V1.xf V1.nf V1.cf, .slice V1.xt V1.nt V1.ct, .int .i64 a.lo, .int .i64 a.al, .slice V1.xk V1.nk V1.ck, .int .i64 a.ka], .int .i64 t] w fun e w' => ∃ U, e = .returned (.tuple #[.agg #[.slice U.xr U.nr U.cr, .slice U.xf U.nf U.cf, .slice U.xt U.nt U.ct, .int .i64 (addS a t).lo, .int .i64 (addS a t).al, .slice U.xk U.nk U.ck, .int .i64 (addS a t).ka], .bool (addOkS a t)]) ∧ OwnS w' w.heap.size w'.heap.size U (addS a t) ∧ Below w.heap.size w w' := by
  have hno : addOkS a t = false := by unfold addOkS; rw [okA, decide_eq_false (show ¬ a.al < 2000 by omega), decide_eq_true ht]; rfl
  obtain ⟨t0, t1⟩ := ht
  have hA := ((Below.refl w.heap.size w).alloc (Nat.le_refl _) (.cells #[.slice V1.xr V1.nr V1.cr, .slice V1.xf V1.nf V1.cf, .slice V1.xt V1.nt V1.ct, .int .i64 a.lo, .int .i64 a.al, .slice V1.xk V1.nk V1.ck, .int .i64 a.ka] 36)).alloc (by simp) (.cells #[.slice none 0 0, .slice none 0 0, .slice none 0 0, .int .i64 0, .int .i64 0, .slice none 0 0, .int .i64 0] 36)
  have XA := (Box7.new w 36 (.slice V1.xr V1.nr V1.cr) (.slice V1.xf V1.nf V1.cf) (.slice V1.xt V1.nt V1.ct) (.int .i64 a.lo) (.int .i64 a.al) (.slice V1.xk V1.nk V1.ck) (.int .i64 a.ka)).alloc (.cells #[.slice none 0 0, .slice none 0 0, .slice none 0 0, .int .i64 0, .int .i64 0, .slice none 0 0, .int .i64 0] 36)
  have R := Box7.new (w.alloc (.cells #[.slice V1.xr V1.nr V1.cr, .slice V1.xf V1.nf V1.cf, .slice V1.xt V1.nt V1.ct, .int .i64 a.lo, .int .i64 a.al, .slice V1.xk V1.nk V1.ck, .int .i64 a.ka] 36)) 36 (.slice none 0 0) (.slice none 0 0) (.slice none 0 0) (.int .i64 0) (.int .i64 0) (.slice none 0 0) (.int .i64 0)
  rw [World.size_alloc] at R
  obtain ⟨axa0, axa1, axa2, axa3, axa4, axa5, axa6⟩ := (XA).cells
  obtain ⟨W0, hW⟩ : ∃ W, W = (w.alloc (.cells #[.slice V1.xr V1.nr V1.cr, .slice V1.xf V1.nf V1.cf, .slice V1.xt V1.nt V1.ct, .int .i64 a.lo, .int .i64 a.al, .slice V1.xk V1.nk V1.ck, .int .i64 a.ka] 36)).alloc (.cells #[.slice none 0 0, .slice none 0 0, .slice none 0 0, .int .i64 0, .int .i64 0, .slice none 0 0, .int .i64 0] 36) := ⟨_, rfl⟩
  rw [← hW] at hA XA R
  have B := Lib.hid hA
  have H1 := Lib.hid h1
  have SZ : Hid (W0.heap.size = w.heap.size + 2) := by show _ = _; rw [hW]; simp
  clear hA h1
  have K1 := spSumOk_at W0 V1 a (H1.out.below B.out (Nat.le_refl _))
  rw [okA] at K1
  go_enter Try.func110, Try.ntmps110
  go_wp2_with fail
  rw [← hW]
  clear hW axa0 axa1 axa2 axa3 axa4 axa5 axa6
  refine (K1).mono ?_
  rintro e w1 ⟨rfl, hb⟩
  clear K1
  have SZ1 := Lib.hid hb.size
  replace XA := XA.later hb
  replace R := R.later hb
  replace B := Lib.hid (B.out.trans (hb.mono B.out.size))
  clear hb
  obtain ⟨cxa0, cxa1, cxa2, cxa3, cxa4, cxa5, cxa6⟩ := (XA).cells
  obtain ⟨cr0, cr1, cr2, cr3, cr4, cr5, cr6⟩ := (R).cells
  have frr := R.free
  have fin := R.set (.slice none 0 0) (.slice none 0 0) (.slice none 0 0) (.int .i64 0) (.int .i64 0) (.slice none 0 0) (.int .i64 0)
  have OF := OwnS.box7 (OwnS.none _ _ _ B.out.size (Nat.le_refl _)) R (.slice none 0 0) (.slice none 0 0) (.slice none 0 0) (.int .i64 0) (.int .i64 0) (.slice none 0 0) (.int .i64 0)
  have BF := below_set7 B.out (Nat.le_add_right w.heap.size 1) (.slice none 0 0) (.slice none 0 0) (.slice none 0 0) (.int .i64 0) (.int .i64 0) (.slice none 0 0) (.int .i64 0)
  have SF := set7_size w1 (w.heap.size + 1) (.slice none 0 0) (.slice none 0 0) (.slice none 0 0) (.int .i64 0) (.int .i64 0) (.slice none 0 0) (.int .i64 0)
  have HF := Lib.hid (And.intro (OwnS.base OF (Nat.le_refl _) (Nat.le_of_eq SF.symm) (Nat.le_refl _)) BF)
  have HY := Lib.hid fin
  clear fin OF BF SF
  go_wp2_with (go_at_call 49; refine (l6In_yes _ _ _ _ t0 t1).mono ?_; rintro e w' ⟨rfl, rfl⟩)
  show bodyPost _ _ _ _ _ (set7 w1 (w.heap.size + 1) (.slice none 0 0) (.slice none 0 0) (.slice none 0 0) (.int .i64 0) (.int .i64 0) (.slice none 0 0) (.int .i64 0))
  obtain ⟨d0, d1, d2, d3, d4, d5, d6⟩ := HY.out.cells
  generalize set7 w1 (w.heap.size + 1) (.slice none 0 0) (.slice none 0 0) (.slice none 0 0) (.int .i64 0) (.int .i64 0) (.slice none 0 0) (.int .i64 0) = WF at HF d0 d1 d2 d3 d4 d5 d6 ⊢
  refine bodyPost_ret (v := .tuple #[.agg #[.slice none 0 0, .slice none 0 0, .slice none 0 0, .int .i64 0, .int .i64 0, .slice none 0 0, .int .i64 0], .bool false]) (by simp [results, Try.results110, go_sem, d0, d1, d2, d3, d4, d5, d6]) rfl ?_
  rw [addS_no hno, hno]
  exact ⟨SV.none, rfl, HF.out⟩

set_option maxRecDepth 100000 in
set_option maxHeartbeats 8000000 in
theorem spSumAdd_yes (w : World) (V1 : SV) (a : Sm) (t : Int) (h1 : RdS w V1 a) (hok : addOkS a t = true) :
    Calls Try.prog 110 #[.agg #[.slice V1.xr V1.nr V1.cr, .slice V1.xf V1.nf V1.cf, .slice V1.xt V1.nt V1.ct, .int .i64 a.lo, .int .i64 a.al, .slice V1.xk V1.nk V1.ck, .int .i64 a.ka], .int .i64 t] w fun e w' => ∃ U, e = .returned (.tuple #[.agg #[.slice U.xr U.nr U.cr, .slice U.xf U.nf U.cf, .slice U.xt U.nt U.ct, .int .i64 (addS a t).lo, .int .i64 (addS a t).al, .slice U.xk U.nk U.ck, .int .i64 (addS a t).ka], .bool (addOkS a t)]) ∧ OwnS w' w.heap.size w'.heap.size U (addS a t) ∧ Below w.heap.size w w' := by
  have AA := addAll hok
  have okA := (okS_iff _).2 AA.ok
  obtain ⟨t0, t1⟩ := AA.thing
  have rm : ¬ 2000 ≤ a.al := by have := AA.room; omega
  have JA := Lib.hid (show addA a.rs t 1 = addV a.rs t 1 by unfold addA; rw [AA.r]; rfl)
  clear AA
  have hA := ((Below.refl w.heap.size w).alloc (Nat.le_refl _) (.cells #[.slice V1.xr V1.nr V1.cr, .slice V1.xf V1.nf V1.cf, .slice V1.xt V1.nt V1.ct, .int .i64 a.lo, .int .i64 a.al, .slice V1.xk V1.nk V1.ck, .int .i64 a.ka] 36)).alloc (by simp) (.cells #[.slice none 0 0, .slice none 0 0, .slice none 0 0, .int .i64 0, .int .i64 0, .slice none 0 0, .int .i64 0] 36)
  have XA := (Box7.new w 36 (.slice V1.xr V1.nr V1.cr) (.slice V1.xf V1.nf V1.cf) (.slice V1.xt V1.nt V1.ct) (.int .i64 a.lo) (.int .i64 a.al) (.slice V1.xk V1.nk V1.ck) (.int .i64 a.ka)).alloc (.cells #[.slice none 0 0, .slice none 0 0, .slice none 0 0, .int .i64 0, .int .i64 0, .slice none 0 0, .int .i64 0] 36)
  have R := Box7.new (w.alloc (.cells #[.slice V1.xr V1.nr V1.cr, .slice V1.xf V1.nf V1.cf, .slice V1.xt V1.nt V1.ct, .int .i64 a.lo, .int .i64 a.al, .slice V1.xk V1.nk V1.ck, .int .i64 a.ka] 36)) 36 (.slice none 0 0) (.slice none 0 0) (.slice none 0 0) (.int .i64 0) (.int .i64 0) (.slice none 0 0) (.int .i64 0)
  rw [World.size_alloc] at R
  obtain ⟨axa0, axa1, axa2, axa3, axa4, axa5, axa6⟩ := (XA).cells
  obtain ⟨W0, hW⟩ : ∃ W, W = (w.alloc (.cells #[.slice V1.xr V1.nr V1.cr, .slice V1.xf V1.nf V1.cf, .slice V1.xt V1.nt V1.ct, .int .i64 a.lo, .int .i64 a.al, .slice V1.xk V1.nk V1.ck, .int .i64 a.ka] 36)).alloc (.cells #[.slice none 0 0, .slice none 0 0, .slice none 0 0, .int .i64 0, .int .i64 0, .slice none 0 0, .int .i64 0] 36) := ⟨_, rfl⟩
  rw [← hW] at hA XA R
  have B := Lib.hid hA
  have H1 := Lib.hid h1
  have SZ : Hid (W0.heap.size = w.heap.size + 2) := by show _ = _; rw [hW]; simp
  clear hA h1
  have K1 := spSumOk_at W0 V1 a (H1.out.below B.out (Nat.le_refl _))
  rw [okA] at K1
  go_enter Try.func110, Try.ntmps110
  go_wp2_with fail
  rw [← hW]
  clear hW axa0 axa1 axa2 axa3 axa4 axa5 axa6
  refine (K1).mono ?_
  rintro e w1 ⟨rfl, hb⟩
  clear K1
  have SZ1 := Lib.hid hb.size
  replace XA := XA.later hb
  replace R := R.later hb
  replace B := Lib.hid (B.out.trans (hb.mono B.out.size))
  clear hb
  obtain ⟨cxa0, cxa1, cxa2, cxa3, cxa4, cxa5, cxa6⟩ := (XA).cells
  have frr := R.free
  have HOK := Lib.hid hok
  clear hok
  have hA := B.out.alloc B.out.size (.cells #[.slice none 0 0, .slice none 0 0, .slice none 0 0, .int .i64 0, .int .i64 0, .slice none 0 0, .int .i64 0] 36)
  have X6 := Box7.new w1 36 (.slice none 0 0) (.slice none 0 0) (.slice none 0 0) (.int .i64 0) (.int .i64 0) (.slice none 0 0) (.int .i64 0)
  have SZ2 := Lib.hid (Nat.le_trans (Nat.le_of_eq SZ.out.symm) SZ1.out)
  have LL := Lib.hid B.out.size
  obtain ⟨W1, hW⟩ : ∃ W, W = w1.alloc (.cells #[.slice none 0 0, .slice none 0 0, .slice none 0 0, .int .i64 0, .int .i64 0, .slice none 0 0, .int .i64 0] 36) := ⟨_, rfl⟩
  replace XA := XA.alloc (.cells #[.slice none 0 0, .slice none 0 0, .slice none 0 0, .int .i64 0, .int .i64 0, .slice none 0 0, .int .i64 0] 36)
  replace R := R.alloc (.cells #[.slice none 0 0, .slice none 0 0, .slice none 0 0, .int .i64 0, .int .i64 0, .slice none 0 0, .int .i64 0] 36)
  obtain ⟨bxa0, bxa1, bxa2, bxa3, bxa4, bxa5, bxa6⟩ := (XA).cells
  rw [← hW] at hA X6 XA R
  replace B := Lib.hid hA
  clear hA
  go_wp2_with (go_at_call 49; refine (l6In_yes _ _ _ _ t0 t1).mono ?_; rintro e w' ⟨rfl, rfl⟩)
  rw [← hW]
  clear hW bxa0 bxa1 bxa2 bxa3 bxa4 bxa5 bxa6
  clear cxa0 cxa1 cxa2 cxa3 cxa4 cxa5 cxa6 frr
  have Q := H1.out.below B.out (Nat.le_refl _)
  have K1 := spAddRR W1 (.slice V1.xr V1.nr V1.cr) a.rs t 1 Q.r
  generalize hA : addA a.rs t 1 = A0 at K1
  have HA0 := Lib.hid hA
  generalize addB a.rs t 1 = ok0 at K1
  clear hA Q
  go_wp2_with fail
  refine (K1).mono ?_
  rintro e w2 ⟨y0, c0', rfl, ho, hb⟩
  obtain ⟨m0, hm⟩ : ∃ m, m = (A0).length := ⟨_, rfl⟩
  rw [← hm] at ho ⊢
  clear hm K1
  have M0 := Lib.hid B.out.size
  have q6 := SZ2.out
  have N0 := Lib.hid hb.size
  replace XA := XA.later hb
  replace R := R.later hb
  replace B := Lib.hid (B.out.trans (hb.mono B.out.size))
  replace X6 := X6.later hb
  have O0 := Lib.hid (ho)
  clear hb
  obtain ⟨W2, hW⟩ : ∃ W, W = (w2.setCell ⟨w1.heap.size, 0, none⟩ (.slice y0 m0 c0')) := ⟨_, rfl⟩
  obtain ⟨ax60, ax61, ax62, ax63, ax64, ax65, ax66⟩ := (X6).cells
  have frx6 := X6.free
  replace B := Lib.hid (B.out)
  replace XA := XA.kept (grownBy_setCell _ ⟨w1.heap.size, 0, none⟩ (.slice y0 m0 c0')) (by simp; omega)
  replace R := R.kept (grownBy_setCell _ ⟨w1.heap.size, 0, none⟩ (.slice y0 m0 c0')) (by simp; omega)
  replace B := Lib.hid (B.out.setCell (p := ⟨w1.heap.size, 0, none⟩) LL.out (.slice y0 m0 c0'))
  replace O0 := Lib.hid (O0.out.cell7 X6 0 (.slice y0 m0 c0'))
  replace X6 := X6.set0 (.slice y0 m0 c0')
  obtain ⟨bxa0, bxa1, bxa2, bxa3, bxa4, bxa5, bxa6⟩ := (XA).cells
  rw [← hW] at XA
  rw [← hW] at R
  rw [← hW] at B
  rw [← hW] at X6
  rw [← hW] at O0
  go_wp2_with fail
  rw [← hW]
  clear hW ax60 ax61 ax62 ax63 ax64 ax65 ax66 frx6 bxa0 bxa1 bxa2 bxa3 bxa4 bxa5 bxa6
  clear ho q6
  have Q := H1.out.below B.out (Nat.le_refl _)
  have K1 := spFewAdd_at W2 (.slice V1.xf V1.nf V1.cf) a.zs t Q.f
  generalize hA : addF a.zs t = A1 at K1
  have HA1 := Lib.hid hA
  generalize addOkF a.zs t = ok1 at K1
  clear hA Q
  go_wp2_with fail
  refine (K1).mono ?_
  rintro e w3 ⟨v, rfl, ho, hb⟩
  obtain ⟨y1, c1', rfl⟩ := ho.form'
  obtain ⟨m1, hm⟩ : ∃ m, m = (A1).length := ⟨_, rfl⟩
  rw [← hm] at ho ⊢
  clear hm K1
  have M1 := Lib.hid B.out.size
  have q6 := SZ2.out
  have T1 := Lib.hid O0.out.top
  replace XA := XA.later hb
  replace R := R.later hb
  replace B := Lib.hid (B.out.trans (hb.mono B.out.size))
  replace X6 := X6.later hb
  replace O0 := Lib.hid (O0.out.below hb)
  have O1 := Lib.hid (ho)
  clear hb
  obtain ⟨W3, hW⟩ : ∃ W, W = (w3.setCell ⟨w1.heap.size, 1, none⟩ (.slice y1 m1 c1')) := ⟨_, rfl⟩
  obtain ⟨ax60, ax61, ax62, ax63, ax64, ax65, ax66⟩ := (X6).cells
  have frx6 := X6.free
  replace B := Lib.hid (B.out)
  replace XA := XA.kept (grownBy_setCell _ ⟨w1.heap.size, 1, none⟩ (.slice y1 m1 c1')) (by simp; omega)
  replace R := R.kept (grownBy_setCell _ ⟨w1.heap.size, 1, none⟩ (.slice y1 m1 c1')) (by simp; omega)
  replace B := Lib.hid (B.out.setCell (p := ⟨w1.heap.size, 1, none⟩) LL.out (.slice y1 m1 c1'))
  replace O0 := Lib.hid (O0.out.cell7 X6 1 (.slice y1 m1 c1'))
  replace O1 := Lib.hid (O1.out.cell7 X6 1 (.slice y1 m1 c1'))
  replace X6 := X6.set1 (.slice y1 m1 c1')
  obtain ⟨bxa0, bxa1, bxa2, bxa3, bxa4, bxa5, bxa6⟩ := (XA).cells
  rw [← hW] at XA
  rw [← hW] at R
  rw [← hW] at B
  rw [← hW] at X6
  rw [← hW] at O0
  rw [← hW] at O1
  go_wp2_with fail
  rw [← hW]
  clear hW ax60 ax61 ax62 ax63 ax64 ax65 ax66 frx6 bxa0 bxa1 bxa2 bxa3 bxa4 bxa5 bxa6
  clear ho q6
  have Q := H1.out.below B.out (Nat.le_refl _)
  have K1 := T.spTopAdd_at W3 (.slice V1.xt V1.nt V1.ct) a.ps a.lo a.al t Q.t
  generalize hA : T.addT a.ps a.lo a.al t = A2 at K1
  have HA2 := Lib.hid hA
  generalize T.addOk a.ps a.lo a.al t = ok2 at K1
  clear hA Q
  go_wp2_with fail
  refine (K1).mono ?_
  rintro e w4 ⟨v, rfl, ho, hb⟩
  obtain ⟨y2, c2', rfl⟩ := ho.form'
  obtain ⟨m2, hm⟩ : ∃ m, m = (A2.1).length := ⟨_, rfl⟩
  rw [← hm] at ho ⊢
  clear hm K1
  have M2 := Lib.hid B.out.size
  have q6 := SZ2.out
  replace XA := XA.later hb
  replace R := R.later hb
  replace B := Lib.hid (B.out.trans (hb.mono B.out.size))
  replace X6 := X6.later hb
  replace O0 := Lib.hid (O0.out.below hb)
  replace O1 := Lib.hid (O1.out.below hb)
  have O2 := Lib.hid (ho)
  clear hb
  obtain ⟨W4, hW⟩ : ∃ W, W = (((w4.setCell ⟨w1.heap.size, 2, none⟩ (.slice y2 m2 c2')).setCell ⟨w1.heap.size, 3, none⟩ (.int .i64 A2.2.1)).setCell ⟨w1.heap.size, 4, none⟩ (.int .i64 A2.2.2)) := ⟨_, rfl⟩
  obtain ⟨ax60, ax61, ax62, ax63, ax64, ax65, ax66⟩ := (X6).cells
  have frx6 := X6.free
  replace B := Lib.hid (B.out)
  replace XA := XA.kept (grownBy_setCell _ ⟨w1.heap.size, 2, none⟩ (.slice y2 m2 c2')) (by simp; omega)
  replace R := R.kept (grownBy_setCell _ ⟨w1.heap.size, 2, none⟩ (.slice y2 m2 c2')) (by simp; omega)
  replace B := Lib.hid (B.out.setCell (p := ⟨w1.heap.size, 2, none⟩) LL.out (.slice y2 m2 c2'))
  replace O0 := Lib.hid (O0.out.cell7 X6 2 (.slice y2 m2 c2'))
  replace O1 := Lib.hid (O1.out.cell7 X6 2 (.slice y2 m2 c2'))
  replace O2 := Lib.hid (O2.out.cell7 X6 2 (.slice y2 m2 c2'))
  replace X6 := X6.set2 (.slice y2 m2 c2')
  replace XA := XA.kept (grownBy_setCell _ ⟨w1.heap.size, 3, none⟩ (.int .i64 A2.2.1)) (by simp; omega)
  replace R := R.kept (grownBy_setCell _ ⟨w1.heap.size, 3, none⟩ (.int .i64 A2.2.1)) (by simp; omega)
  replace B := Lib.hid (B.out.setCell (p := ⟨w1.heap.size, 3, none⟩) LL.out (.int .i64 A2.2.1))
  replace O0 := Lib.hid (O0.out.cell7 X6 3 (.int .i64 A2.2.1))
  replace O1 := Lib.hid (O1.out.cell7 X6 3 (.int .i64 A2.2.1))
  replace O2 := Lib.hid (O2.out.cell7 X6 3 (.int .i64 A2.2.1))
  replace X6 := X6.set3 (.int .i64 A2.2.1)
  replace XA := XA.kept (grownBy_setCell _ ⟨w1.heap.size, 4, none⟩ (.int .i64 A2.2.2)) (by simp; omega)
  replace R := R.kept (grownBy_setCell _ ⟨w1.heap.size, 4, none⟩ (.int .i64 A2.2.2)) (by simp; omega)
  replace B := Lib.hid (B.out.setCell (p := ⟨w1.heap.size, 4, none⟩) LL.out (.int .i64 A2.2.2))
  replace O0 := Lib.hid (O0.out.cell7 X6 4 (.int .i64 A2.2.2))
  replace O1 := Lib.hid (O1.out.cell7 X6 4 (.int .i64 A2.2.2))
  replace O2 := Lib.hid (O2.out.cell7 X6 4 (.int .i64 A2.2.2))
  replace X6 := X6.set4 (.int .i64 A2.2.2)
  obtain ⟨bxa0, bxa1, bxa2, bxa3, bxa4, bxa5, bxa6⟩ := (XA).cells
  rw [← hW] at XA
  rw [← hW] at R
  rw [← hW] at B
  rw [← hW] at X6
  rw [← hW] at O0
  rw [← hW] at O1
  rw [← hW] at O2
  go_wp2_with fail
  rw [← hW]
  clear hW ax60 ax61 ax62 ax63 ax64 ax65 ax66 frx6 bxa0 bxa1 bxa2 bxa3 bxa4 bxa5 bxa6
  clear ho q6
  have Q := H1.out.below B.out (Nat.le_refl _)
  have K1 := K.spRankAdd_at W4 (.slice V1.xk V1.nk V1.ck) a.ks a.ka t Q.k
  generalize hA : K.addK a.ks a.ka t = A3 at K1
  have HA3 := Lib.hid hA
  generalize K.addOkK a.ks a.ka t = ok3 at K1
  clear hA Q
  go_wp2_with fail
  refine (K1).mono ?_
  rintro e w5 ⟨v, rfl, ho, hb⟩
  obtain ⟨y3, c3', rfl⟩ := ho.form'
  obtain ⟨m3, hm⟩ : ∃ m, m = (A3.1).length := ⟨_, rfl⟩
  rw [← hm] at ho ⊢
  clear hm K1
  have M3 := Lib.hid B.out.size
  have q6 := SZ2.out
  replace XA := XA.later hb
  replace R := R.later hb
  replace B := Lib.hid (B.out.trans (hb.mono B.out.size))
  replace X6 := X6.later hb
  replace O0 := Lib.hid (O0.out.below hb)
  replace O1 := Lib.hid (O1.out.below hb)
  replace O2 := Lib.hid (O2.out.below hb)
  have O3 := Lib.hid (ho)
  clear hb
  obtain ⟨W5, hW⟩ : ∃ W, W = ((w5.setCell ⟨w1.heap.size, 5, none⟩ (.slice y3 m3 c3')).setCell ⟨w1.heap.size, 6, none⟩ (.int .i64 A3.2)) := ⟨_, rfl⟩
  obtain ⟨ax60, ax61, ax62, ax63, ax64, ax65, ax66⟩ := (X6).cells
  have frx6 := X6.free
  replace B := Lib.hid (B.out)
  replace XA := XA.kept (grownBy_setCell _ ⟨w1.heap.size, 5, none⟩ (.slice y3 m3 c3')) (by simp; omega)
  replace R := R.kept (grownBy_setCell _ ⟨w1.heap.size, 5, none⟩ (.slice y3 m3 c3')) (by simp; omega)
  replace B := Lib.hid (B.out.setCell (p := ⟨w1.heap.size, 5, none⟩) LL.out (.slice y3 m3 c3'))
  replace O0 := Lib.hid (O0.out.cell7 X6 5 (.slice y3 m3 c3'))
  replace O1 := Lib.hid (O1.out.cell7 X6 5 (.slice y3 m3 c3'))
  replace O2 := Lib.hid (O2.out.cell7 X6 5 (.slice y3 m3 c3'))
  replace O3 := Lib.hid (O3.out.cell7 X6 5 (.slice y3 m3 c3'))
  replace X6 := X6.set5 (.slice y3 m3 c3')
  replace XA := XA.kept (grownBy_setCell _ ⟨w1.heap.size, 6, none⟩ (.int .i64 A3.2)) (by simp; omega)
  replace R := R.kept (grownBy_setCell _ ⟨w1.heap.size, 6, none⟩ (.int .i64 A3.2)) (by simp; omega)
  replace B := Lib.hid (B.out.setCell (p := ⟨w1.heap.size, 6, none⟩) LL.out (.int .i64 A3.2))
  replace O0 := Lib.hid (O0.out.cell7 X6 6 (.int .i64 A3.2))
  replace O1 := Lib.hid (O1.out.cell7 X6 6 (.int .i64 A3.2))
  replace O2 := Lib.hid (O2.out.cell7 X6 6 (.int .i64 A3.2))
  replace O3 := Lib.hid (O3.out.cell7 X6 6 (.int .i64 A3.2))
  replace X6 := X6.set6 (.int .i64 A3.2)
  obtain ⟨bx60, bx61, bx62, bx63, bx64, bx65, bx66⟩ := (X6).cells
  obtain ⟨br0, br1, br2, br3, br4, br5, br6⟩ := (R).cells
  have fbr := R.free
  rw [← hW] at XA
  rw [← hW] at R
  rw [← hW] at B
  rw [← hW] at X6
  rw [← hW] at O0
  rw [← hW] at O1
  rw [← hW] at O2
  rw [← hW] at O3
  clear ho q6
  have EJ := Lib.hid (show (addS a t) = ⟨A0, A1, A2.1, A2.2.1, A2.2.2, A3.1, A3.2⟩ by rw [addS_yes HOK.out]; unfold addS0; rw [← JA.out, HA0.out, HA1.out, HA2.out, HA3.out])
  have fin := R.set (.slice y0 m0 c0') (.slice y1 m1 c1') (.slice y2 m2 c2') (.int .i64 A2.2.1) (.int .i64 A2.2.2) (.slice y3 m3 c3') (.int .i64 A3.2)
  have OF := OwnS.box7 (OwnS.make (V := ⟨y0, m0, c0', y1, m1, c1', y2, m2, c2', y3, m3, c3'⟩) (s := ⟨A0, A1, A2.1, A2.2.1, A2.2.2, A3.1, A3.2⟩) O0.out O1.out O2.out O3.out M0.out (Nat.le_trans M0.out N0.out) T1.out M2.out M3.out) R (.slice y0 m0 c0') (.slice y1 m1 c1') (.slice y2 m2 c2') (.int .i64 A2.2.1) (.int .i64 A2.2.2) (.slice y3 m3 c3') (.int .i64 A3.2)
  have BF := below_set7 B.out (Nat.le_add_right w.heap.size 1) (.slice y0 m0 c0') (.slice y1 m1 c1') (.slice y2 m2 c2') (.int .i64 A2.2.1) (.int .i64 A2.2.2) (.slice y3 m3 c3') (.int .i64 A3.2)
  have SF := set7_size W5 (w.heap.size + 1) (.slice y0 m0 c0') (.slice y1 m1 c1') (.slice y2 m2 c2') (.int .i64 A2.2.1) (.int .i64 A2.2.2) (.slice y3 m3 c3') (.int .i64 A3.2)
  have HF := Lib.hid (And.intro (OwnS.base OF (Nat.le_refl _) (Nat.le_of_eq SF.symm) (Nat.le_refl _)) BF)
  have HY := Lib.hid fin
  clear fin OF BF SF
  go_wp2
  rw [← hW]
  clear hW ax60 ax61 ax62 ax63 ax64 ax65 ax66 frx6 bx60 bx61 bx62 bx63 bx64 bx65 bx66 br0 br1 br2 br3 br4 br5 br6 fbr
  show bodyPost _ _ _ _ _ (set7 W5 (w.heap.size + 1) (.slice y0 m0 c0') (.slice y1 m1 c1') (.slice y2 m2 c2') (.int .i64 A2.2.1) (.int .i64 A2.2.2) (.slice y3 m3 c3') (.int .i64 A3.2))
  obtain ⟨d0, d1, d2, d3, d4, d5, d6⟩ := HY.out.cells
  generalize set7 W5 (w.heap.size + 1) (.slice y0 m0 c0') (.slice y1 m1 c1') (.slice y2 m2 c2') (.int .i64 A2.2.1) (.int .i64 A2.2.2) (.slice y3 m3 c3') (.int .i64 A3.2) = WF at HF d0 d1 d2 d3 d4 d5 d6 ⊢
  refine bodyPost_ret (v := .tuple #[.agg #[.slice y0 m0 c0', .slice y1 m1 c1', .slice y2 m2 c2', .int .i64 A2.2.1, .int .i64 A2.2.2, .slice y3 m3 c3', .int .i64 A3.2], .bool true]) (by simp [results, Try.results110, go_sem, d0, d1, d2, d3, d4, d5, d6]) rfl ?_
  rw [EJ.out, HOK.out]
  exact ⟨⟨y0, m0, c0', y1, m1, c1', y2, m2, c2', y3, m3, c3'⟩, rfl, HF.out⟩

theorem spSumAdd_at (w : World) (V : SV) (s : Sm) (t : Int) (h1 : RdS w V s) :
    Calls Try.prog 110 #[.agg #[.slice V.xr V.nr V.cr, .slice V.xf V.nf V.cf, .slice V.xt V.nt V.ct, .int .i64 s.lo, .int .i64 s.al, .slice V.xk V.nk V.ck, .int .i64 s.ka], .int .i64 t] w fun e w' => ∃ U, e = .returned (.tuple #[.agg #[.slice U.xr U.nr U.cr, .slice U.xf U.nf U.cf, .slice U.xt U.nt U.ct, .int .i64 (addS s t).lo, .int .i64 (addS s t).al, .slice U.xk U.nk U.ck, .int .i64 (addS s t).ka], .bool (addOkS s t)]) ∧ OwnS w' w.heap.size w'.heap.size U (addS s t) ∧ Below w.heap.size w w' := by
  cases okA : okS s with
  | false => exact spSumAdd_noA w V s t h1 okA
  | true =>
    by_cases ht : 0 ≤ t ∧ t ≤ 63
    · by_cases hs : s.al < 2000
      · exact spSumAdd_yes w V s t h1 ((addOkS_iff s t).2 ⟨(okS_iff _).1 okA, ht, hs⟩)
      · exact spSumAdd_much w V s t h1 okA ht (by omega)
    · exact spSumAdd_noT w V s t h1 okA (by omega)

end Go.Proofs.Ytnoilafoeaknjaa
