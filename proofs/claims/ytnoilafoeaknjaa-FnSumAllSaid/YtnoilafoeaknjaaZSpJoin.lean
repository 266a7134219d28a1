/-
  Both together, of the model.
-/
import Derived.Test.YtnoilafoeaknjaaZSpOk
import Derived.Test.YtnoilafoeaknjaaZOwn
set_option linter.unusedVariables false
namespace Go.Proofs.Ytnoilafoeaknjaa
open Go.RowKit Go.Sort

set_option maxRecDepth 100000 in
set_option maxHeartbeats 8000000 in
theorem spSumJoin_noA (w : World) (V1 V2 : SV) (a b : Sm) (h1 : RdS w V1 a) (h2 : RdS w V2 b) (okA : okS a = false) :
    Calls Try.prog 80 #[.agg #[.slice V1.xr V1.nr V1.cr, .slice V1.xf V1.nf V1.cf, .slice V1.xt V1.nt V1.ct, .int .i64 a.lo, .int .i64 a.al, .slice V1.xk V1.nk V1.ck, .int .i64 a.ka], .agg #[.slice V2.xr V2.nr V2.cr, .slice V2.xf V2.nf V2.cf, .slice V2.xt V2.nt V2.ct, .int .i64 b.lo, .int .i64 b.al, .slice V2.xk V2.nk V2.ck, .int .i64 b.ka]] w fun e w' => ∃ U, e = .returned (.tuple #[.agg #[.slice U.xr U.nr U.cr, .slice U.xf U.nf U.cf, .slice U.xt U.nt U.ct, .int .i64 (joinS a b).lo, .int .i64 (joinS a b).al, .slice U.xk U.nk U.ck, .int .i64 (joinS a b).ka], .bool (joinOkS a b)]) ∧ OwnS w' w.heap.size w'.heap.size U (joinS a b) ∧ Below w.heap.size w w' := by
  have hno : joinOkS a b = false := by unfold joinOkS; rw [okA]; rfl
  have hA := (((Below.refl w.heap.size w).alloc (Nat.le_refl _) (.cells #[.slice V1.xr V1.nr V1.cr, .slice V1.xf V1.nf V1.cf, .slice V1.xt V1.nt V1.ct, .int .i64 a.lo, .int .i64 a.al, .slice V1.xk V1.nk V1.ck, .int .i64 a.ka] 36)).alloc (by simp) (.cells #[.slice V2.xr V2.nr V2.cr, .slice V2.xf V2.nf V2.cf, .slice V2.xt V2.nt V2.ct, .int .i64 b.lo, .int .i64 b.al, .slice V2.xk V2.nk V2.ck, .int .i64 b.ka] 36)).alloc (by simp; omega) (.cells #[.slice none 0 0, .slice none 0 0, .slice none 0 0, .int .i64 0, .int .i64 0, .slice none 0 0, .int .i64 0] 36)
  have XA := ((Box7.new w 36 (.slice V1.xr V1.nr V1.cr) (.slice V1.xf V1.nf V1.cf) (.slice V1.xt V1.nt V1.ct) (.int .i64 a.lo) (.int .i64 a.al) (.slice V1.xk V1.nk V1.ck) (.int .i64 a.ka)).alloc (.cells #[.slice V2.xr V2.nr V2.cr, .slice V2.xf V2.nf V2.cf, .slice V2.xt V2.nt V2.ct, .int .i64 b.lo, .int .i64 b.al, .slice V2.xk V2.nk V2.ck, .int .i64 b.ka] 36)).alloc (.cells #[.slice none 0 0, .slice none 0 0, .slice none 0 0, .int .i64 0, .int .i64 0, .slice none 0 0, .int .i64 0] 36)
  have XB := (Box7.new (w.alloc (.cells #[.slice V1.xr V1.nr V1.cr, .slice V1.xf V1.nf V1.cf, .slice V1.xt V1.nt V1.ct, .int .i64 a.lo, .int .i64 a.al, .slice V1.xk V1.nk V1.ck, .int .i64 a.ka] 36)) 36 (.slice V2.xr V2.nr V2.cr) (.slice V2.xf V2.nf V2.cf) (.slice V2.xt V2.nt V2.ct) (.int .i64 b.lo) (.int .i64 b.al) (.slice V2.xk V2.nk V2.ck) (.int .i64 b.ka)).alloc (.cells #[.slice none 0 0, .slice none 0 0, .slice none 0 0, .int .i64 0, .int .i64 0, .slice none 0 0, .int .i64 0] 36)
  rw [World.size_alloc] at XB
  have R := Box7.new ((w.alloc (.cells #[.slice V1.xr V1.nr V1.cr, .slice V1.xf V1.nf V1.cf, .slice V1.xt V1.nt V1.ct, .int .i64 a.lo, .int .i64 a.al, .slice V1.xk V1.nk V1.ck, .int .i64 a.ka] 36)).alloc (.cells #[.slice V2.xr V2.nr V2.cr, .slice V2.xf V2.nf V2.cf, .slice V2.xt V2.nt V2.ct, .int .i64 b.lo, .int .i64 b.al, .slice V2.xk V2.nk V2.ck, .int .i64 b.ka] 36)) 36 (.slice none 0 0) (.slice none 0 0) (.slice none 0 0) (.int .i64 0) (.int .i64 0) (.slice none 0 0) (.int .i64 0)
  rw [World.size_alloc, World.size_alloc] at R
  obtain ⟨axa0, axa1, axa2, axa3, axa4, axa5, axa6⟩ := (XA).cells
  obtain ⟨W0, hW⟩ : ∃ W, W = ((w.alloc (.cells #[.slice V1.xr V1.nr V1.cr, .slice V1.xf V1.nf V1.cf, .slice V1.xt V1.nt V1.ct, .int .i64 a.lo, .int .i64 a.al, .slice V1.xk V1.nk V1.ck, .int .i64 a.ka] 36)).alloc (.cells #[.slice V2.xr V2.nr V2.cr, .slice V2.xf V2.nf V2.cf, .slice V2.xt V2.nt V2.ct, .int .i64 b.lo, .int .i64 b.al, .slice V2.xk V2.nk V2.ck, .int .i64 b.ka] 36)).alloc (.cells #[.slice none 0 0, .slice none 0 0, .slice none 0 0, .int .i64 0, .int .i64 0, .slice none 0 0, .int .i64 0] 36) := ⟨_, rfl⟩
  rw [← hW] at hA XA XB R
  have B := Lib.hid hA
  have H1 := Lib.hid h1
  have H2 := Lib.hid h2
  have SZ : Hid (W0.heap.size = w.heap.size + 3) := by show _ = _; rw [hW]; simp
  clear hA h1 h2
  have K1 := spSumOk_at W0 V1 a (H1.out.below B.out (Nat.le_refl _))
  rw [okA] at K1
  go_enter Try.func80, Try.ntmps80
  go_wp2_with fail
  rw [← hW]
  clear hW axa0 axa1 axa2 axa3 axa4 axa5 axa6
  refine (K1).mono ?_
  rintro e w1 ⟨rfl, hb⟩
  clear K1
  have SZ1 := Lib.hid hb.size
  replace XA := XA.later hb
  replace XB := XB.later hb
  replace R := R.later hb
  replace B := Lib.hid (B.out.trans (hb.mono B.out.size))
  clear hb
  obtain ⟨cr0, cr1, cr2, cr3, cr4, cr5, cr6⟩ := (R).cells
  have frr := R.free
  have fin := R.set (.slice none 0 0) (.slice none 0 0) (.slice none 0 0) (.int .i64 0) (.int .i64 0) (.slice none 0 0) (.int .i64 0)
  have OF := OwnS.box7 (OwnS.none _ _ _ B.out.size (Nat.le_refl _)) R (.slice none 0 0) (.slice none 0 0) (.slice none 0 0) (.int .i64 0) (.int .i64 0) (.slice none 0 0) (.int .i64 0)
  have BF := below_set7 B.out (show w.heap.size ≤ w.heap.size + 1 + 1 by omega) (.slice none 0 0) (.slice none 0 0) (.slice none 0 0) (.int .i64 0) (.int .i64 0) (.slice none 0 0) (.int .i64 0)
  have SF := set7_size w1 (w.heap.size + 1 + 1) (.slice none 0 0) (.slice none 0 0) (.slice none 0 0) (.int .i64 0) (.int .i64 0) (.slice none 0 0) (.int .i64 0)
  have HF := Lib.hid (And.intro (OwnS.base OF (Nat.le_refl _) (Nat.le_of_eq SF.symm) (Nat.le_refl _)) BF)
  have HY := Lib.hid fin
  clear fin OF BF SF
  go_wp2
  show bodyPost _ _ _ _ _ (set7 w1 (w.heap.size + 1 + 1) (.slice none 0 0) (.slice none 0 0) (.slice none 0 0) (.int .i64 0) (.int .i64 0) (.slice none 0 0) (.int .i64 0))
  obtain ⟨d0, d1, d2, d3, d4, d5, d6⟩ := HY.out.cells
  generalize set7 w1 (w.heap.size + 1 + 1) (.slice none 0 0) (.slice none 0 0) (.slice none 0 0) (.int .i64 0) (.int .i64 0) (.slice none 0 0) (.int .i64 0) = WF at HF d0 d1 d2 d3 d4 d5 d6 ⊢
  refine bodyPost_ret (v := .tuple #[.agg #[.slice none 0 0, .slice none 0 0, .slice none 0 0, .int .i64 0, .int .i64 0, .slice none 0 0, .int .i64 0], .bool false]) (by simp [results, Try.results80, go_sem, d0, d1, d2, d3, d4, d5, d6]) rfl ?_
  rw [joinS_no hno, hno]
  exact ⟨SV.none, rfl, HF.out⟩

set_option maxRecDepth 100000 in
set_option maxHeartbeats 8000000 in
theorem spSumJoin_noB (w : World) (V1 V2 : SV) (a b : Sm) (h1 : RdS w V1 a) (h2 : RdS w V2 b) (okA : okS a = true) (okB' : okS b = false) :
    Calls Try.prog 80 #[.agg #[.slice V1.xr V1.nr V1.cr, .slice V1.xf V1.nf V1.cf, .slice V1.xt V1.nt V1.ct, .int .i64 a.lo, .int .i64 a.al, .slice V1.xk V1.nk V1.ck, .int .i64 a.ka], .agg #[.slice V2.xr V2.nr V2.cr, .slice V2.xf V2.nf V2.cf, .slice V2.xt V2.nt V2.ct, .int .i64 b.lo, .int .i64 b.al, .slice V2.xk V2.nk V2.ck, .int .i64 b.ka]] w fun e w' => ∃ U, e = .returned (.tuple #[.agg #[.slice U.xr U.nr U.cr, .slice U.xf U.nf U.cf, .slice U.xt U.nt U.ct, .int .i64 (joinS a b).lo, .int .i64 (joinS a b).al, .slice U.xk U.nk U.ck, .int .i64 (joinS a b).ka], .bool (joinOkS a b)]) ∧ OwnS w' w.heap.size w'.heap.size U (joinS a b) ∧ Below w.heap.size w w' := by
  have hno : joinOkS a b = false := by unfold joinOkS; rw [okB']; cases okS a <;> rfl
  have hA := (((Below.refl w.heap.size w).alloc (Nat.le_refl _) (.cells #[.slice V1.xr V1.nr V1.cr, .slice V1.xf V1.nf V1.cf, .slice V1.xt V1.nt V1.ct, .int .i64 a.lo, .int .i64 a.al, .slice V1.xk V1.nk V1.ck, .int .i64 a.ka] 36)).alloc (by simp) (.cells #[.slice V2.xr V2.nr V2.cr, .slice V2.xf V2.nf V2.cf, .slice V2.xt V2.nt V2.ct, .int .i64 b.lo, .int .i64 b.al, .slice V2.xk V2.nk V2.ck, .int .i64 b.ka] 36)).alloc (by simp; omega) (.cells #[.slice none 0 0, .slice none 0 0, .slice none 0 0, .int .i64 0, .int .i64 0, .slice none 0 0, .int .i64 0] 36)
  have XA := ((Box7.new w 36 (.slice V1.xr V1.nr V1.cr) (.slice V1.xf V1.nf V1.cf) (.slice V1.xt V1.nt V1.ct) (.int .i64 a.lo) (.int .i64 a.al) (.slice V1.xk V1.nk V1.ck) (.int .i64 a.ka)).alloc (.cells #[.slice V2.xr V2.nr V2.cr, .slice V2.xf V2.nf V2.cf, .slice V2.xt V2.nt V2.ct, .int .i64 b.lo, .int .i64 b.al, .slice V2.xk V2.nk V2.ck, .int .i64 b.ka] 36)).alloc (.cells #[.slice none 0 0, .slice none 0 0, .slice none 0 0, .int .i64 0, .int .i64 0, .slice none 0 0, .int .i64 0] 36)
  have XB := (Box7.new (w.alloc (.cells #[.slice V1.xr V1.nr V1.cr, .slice V1.xf V1.nf V1.cf, .slice V1.xt V1.nt V1.ct, .int .i64 a.lo, .int .i64 a.al, .slice V1.xk V1.nk V1.ck, .int .i64 a.ka] 36)) 36 (.slice V2.xr V2.nr V2.cr) (.slice V2.xf V2.nf V2.cf) (.slice V2.xt V2.nt V2.ct) (.int .i64 b.lo) (.int .i64 b.al) (.slice V2.xk V2.nk V2.ck) (.int .i64 b.ka)).alloc (.cells #[.slice none 0 0, .slice none 0 0, .slice none 0 0, .int .i64 0, .int .i64 0, .slice none 0 0, .int .i64 0] 36)
  rw [World.size_alloc] at XB
  have R := Box7.new ((w.alloc (.cells #[.slice V1.xr V1.nr V1.cr, .slice V1.xf V1.nf V1.cf, .slice V1.xt V1.nt V1.ct, .int .i64 a.lo, .int .i64 a.al, .slice V1.xk V1.nk V1.ck, .int .i64 a.ka] 36)).alloc (.cells #[.slice V2.xr V2.nr V2.cr, .slice V2.xf V2.nf V2.cf, .slice V2.xt V2.nt V2.ct, .int .i64 b.lo, .int .i64 b.al, .slice V2.xk V2.nk V2.ck, .int .i64 b.ka] 36)) 36 (.slice none 0 0) (.slice none 0 0) (.slice none 0 0) (.int .i64 0) (.int .i64 0) (.slice none 0 0) (.int .i64 0)
  rw [World.size_alloc, World.size_alloc] at R
  obtain ⟨axa0, axa1, axa2, axa3, axa4, axa5, axa6⟩ := (XA).cells
  obtain ⟨W0, hW⟩ : ∃ W, W = ((w.alloc (.cells #[.slice V1.xr V1.nr V1.cr, .slice V1.xf V1.nf V1.cf, .slice V1.xt V1.nt V1.ct, .int .i64 a.lo, .int .i64 a.al, .slice V1.xk V1.nk V1.ck, .int .i64 a.ka] 36)).alloc (.cells #[.slice V2.xr V2.nr V2.cr, .slice V2.xf V2.nf V2.cf, .slice V2.xt V2.nt V2.ct, .int .i64 b.lo, .int .i64 b.al, .slice V2.xk V2.nk V2.ck, .int .i64 b.ka] 36)).alloc (.cells #[.slice none 0 0, .slice none 0 0, .slice none 0 0, .int .i64 0, .int .i64 0, .slice none 0 0, .int .i64 0] 36) := ⟨_, rfl⟩
  rw [← hW] at hA XA XB R
  have B := Lib.hid hA
  have H1 := Lib.hid h1
  have H2 := Lib.hid h2
  have SZ : Hid (W0.heap.size = w.heap.size + 3) := by show _ = _; rw [hW]; simp
  clear hA h1 h2
  have K1 := spSumOk_at W0 V1 a (H1.out.below B.out (Nat.le_refl _))
  rw [okA] at K1
  go_enter Try.func80, Try.ntmps80
  go_wp2_with fail
  rw [← hW]
  clear hW axa0 axa1 axa2 axa3 axa4 axa5 axa6
  refine (K1).mono ?_
  rintro e w1 ⟨rfl, hb⟩
  clear K1
  have SZ1 := Lib.hid hb.size
  replace XA := XA.later hb
  replace XB := XB.later hb
  replace R := R.later hb
  replace B := Lib.hid (B.out.trans (hb.mono B.out.size))
  clear hb
  obtain ⟨cxb0, cxb1, cxb2, cxb3, cxb4, cxb5, cxb6⟩ := (XB).cells
  have frr := R.free
  have K1 := spSumOk_at w1 V2 b (H2.out.below B.out (Nat.le_refl _))
  rw [okB'] at K1
  go_wp2_with fail
  refine (K1).mono ?_
  rintro e w2 ⟨rfl, hb⟩
  clear K1
  clear cxb0 cxb1 cxb2 cxb3 cxb4 cxb5 cxb6 frr
  replace XA := XA.later hb
  replace XB := XB.later hb
  replace R := R.later hb
  replace B := Lib.hid (B.out.trans (hb.mono B.out.size))
  clear hb
  obtain ⟨cr0, cr1, cr2, cr3, cr4, cr5, cr6⟩ := (R).cells
  have frr := R.free
  have fin := R.set (.slice none 0 0) (.slice none 0 0) (.slice none 0 0) (.int .i64 0) (.int .i64 0) (.slice none 0 0) (.int .i64 0)
  have OF := OwnS.box7 (OwnS.none _ _ _ B.out.size (Nat.le_refl _)) R (.slice none 0 0) (.slice none 0 0) (.slice none 0 0) (.int .i64 0) (.int .i64 0) (.slice none 0 0) (.int .i64 0)
  have BF := below_set7 B.out (show w.heap.size ≤ w.heap.size + 1 + 1 by omega) (.slice none 0 0) (.slice none 0 0) (.slice none 0 0) (.int .i64 0) (.int .i64 0) (.slice none 0 0) (.int .i64 0)
  have SF := set7_size w2 (w.heap.size + 1 + 1) (.slice none 0 0) (.slice none 0 0) (.slice none 0 0) (.int .i64 0) (.int .i64 0) (.slice none 0 0) (.int .i64 0)
  have HF := Lib.hid (And.intro (OwnS.base OF (Nat.le_refl _) (Nat.le_of_eq SF.symm) (Nat.le_refl _)) BF)
  have HY := Lib.hid fin
  clear fin OF BF SF
  go_wp2
  show bodyPost _ _ _ _ _ (set7 w2 (w.heap.size + 1 + 1) (.slice none 0 0) (.slice none 0 0) (.slice none 0 0) (.int .i64 0) (.int .i64 0) (.slice none 0 0) (.int .i64 0))
  obtain ⟨d0, d1, d2, d3, d4, d5, d6⟩ := HY.out.cells
  generalize set7 w2 (w.heap.size + 1 + 1) (.slice none 0 0) (.slice none 0 0) (.slice none 0 0) (.int .i64 0) (.int .i64 0) (.slice none 0 0) (.int .i64 0) = WF at HF d0 d1 d2 d3 d4 d5 d6 ⊢
  refine bodyPost_ret (v := .tuple #[.agg #[.slice none 0 0, .slice none 0 0, .slice none 0 0, .int .i64 0, .int .i64 0, .slice none 0 0, .int .i64 0], .bool false]) (by simp [results, Try.results80, go_sem, d0, d1, d2, d3, d4, d5, d6]) rfl ?_
  rw [joinS_no hno, hno]
  exact ⟨SV.none, rfl, HF.out⟩

set_option maxRecDepth 100000 in
set_option maxHeartbeats 8000000 in
theorem spSumJoin_much (w : World) (V1 V2 : SV) (a b : Sm) (h1 : RdS w V1 a) (h2 : RdS w V2 b) (okA : okS a = true) (okB' : okS b = true) (hs : ¬ a.al + b.al ≤ 2000) :
    Calls Try.prog 80 #[.agg #[.slice V1.xr V1.nr V1.cr, .slice V1.xf V1.nf V1.cf, .slice V1.xt V1.nt V1.ct, .int .i64 a.lo, .int .i64 a.al, .slice V1.xk V1.nk V1.ck, .int .i64 a.ka], .agg #[.slice V2.xr V2.nr V2.cr, .slice V2.xf V2.nf V2.cf, .slice V2.xt V2.nt V2.ct, .int .i64 b.lo, .int .i64 b.al, .slice V2.xk V2.nk V2.ck, .int .i64 b.ka]] w fun e w' => ∃ U, e = .returned (.tuple #[.agg #[.slice U.xr U.nr U.cr, .slice U.xf U.nf U.cf, .slice U.xt U.nt U.ct, .int .i64 (joinS a b).lo, .int .i64 (joinS a b).al, .slice U.xk U.nk U.ck, .int .i64 (joinS a b).ka], .bool (joinOkS a b)]) ∧ OwnS w' w.heap.size w'.heap.size U (joinS a b) ∧ Below w.heap.size w w' := by
  have hno : joinOkS a b = false := by unfold joinOkS; rw [okA, okB', decide_eq_false hs]; rfl
  have a0 := ((okS_iff _).1 okA).al0
  have b0 := ((okS_iff _).1 okB').al0
  have ws : IntKind.i64.wrap (a.al + b.al) = a.al + b.al := IntWalk.i64_in _ (by omega)
  have gt : 2000 < a.al + b.al := by omega
  have HS := Lib.hid hs
  clear hs
  have hA := (((Below.refl w.heap.size w).alloc (Nat.le_refl _) (.cells #[.slice V1.xr V1.nr V1.cr, .slice V1.xf V1.nf V1.cf, .slice V1.xt V1.nt V1.ct, .int .i64 a.lo, .int .i64 a.al, .slice V1.xk V1.nk V1.ck, .int .i64 a.ka] 36)).alloc (by simp) (.cells #[.slice V2.xr V2.nr V2.cr, .slice V2.xf V2.nf V2.cf, .slice V2.xt V2.nt V2.ct, .int .i64 b.lo, .int .i64 b.al, .slice V2.xk V2.nk V2.ck, .int .i64 b.ka] 36)).alloc (by simp; omega) (.cells #[.slice none 0 0, .slice none 0 0, .slice none 0 0, .int .i64 0, .int .i64 0, .slice none 0 0, .int .i64 0] 36)
  have XA := ((Box7.new w 36 (.slice V1.xr V1.nr V1.cr) (.slice V1.xf V1.nf V1.cf) (.slice V1.xt V1.nt V1.ct) (.int .i64 a.lo) (.int .i64 a.al) (.slice V1.xk V1.nk V1.ck) (.int .i64 a.ka)).alloc (.cells #[.slice V2.xr V2.nr V2.cr, .slice V2.xf V2.nf V2.cf, .slice V2.xt V2.nt V2.ct, .int .i64 b.lo, .int .i64 b.al, .slice V2.xk V2.nk V2.ck, .int .i64 b.ka] 36)).alloc (.cells #[.slice none 0 0, .slice none 0 0, .slice none 0 0, .int .i64 0, .int .i64 0, .slice none 0 0, .int .i64 0] 36)
  have XB := (Box7.new (w.alloc (.cells #[.slice V1.xr V1.nr V1.cr, .slice V1.xf V1.nf V1.cf, .slice V1.xt V1.nt V1.ct, .int .i64 a.lo, .int .i64 a.al, .slice V1.xk V1.nk V1.ck, .int .i64 a.ka] 36)) 36 (.slice V2.xr V2.nr V2.cr) (.slice V2.xf V2.nf V2.cf) (.slice V2.xt V2.nt V2.ct) (.int .i64 b.lo) (.int .i64 b.al) (.slice V2.xk V2.nk V2.ck) (.int .i64 b.ka)).alloc (.cells #[.slice none 0 0, .slice none 0 0, .slice none 0 0, .int .i64 0, .int .i64 0, .slice none 0 0, .int .i64 0] 36)
  rw [World.size_alloc] at XB
  have R := Box7.new ((w.alloc (.cells #[.slice V1.xr V1.nr V1.cr, .slice V1.xf V1.nf V1.cf, .slice V1.xt V1.nt V1.ct, .int .i64 a.lo, .int .i64 a.al, .slice V1.xk V1.nk V1.ck, .int .i64 a.ka] 36)).alloc (.cells #[.slice V2.xr V2.nr V2.cr, .slice V2.xf V2.nf V2.cf, .slice V2.xt V2.nt V2.ct, .int .i64 b.lo, .int .i64 b.al, .slice V2.xk V2.nk V2.ck, .int .i64 b.ka] 36)) 36 (.slice none 0 0) (.slice none 0 0) (.slice none 0 0) (.int .i64 0) (.int .i64 0) (.slice none 0 0) (.int .i64 0)
  rw [World.size_alloc, World.size_alloc] at R
  obtain ⟨axa0, axa1, axa2, axa3, axa4, axa5, axa6⟩ := (XA).cells
  obtain ⟨W0, hW⟩ : ∃ W, W = ((w.alloc (.cells #[.slice V1.xr V1.nr V1.cr, .slice V1.xf V1.nf V1.cf, .slice V1.xt V1.nt V1.ct, .int .i64 a.lo, .int .i64 a.al, .slice V1.xk V1.nk V1.ck, .int .i64 a.ka] 36)).alloc (.cells #[.slice V2.xr V2.nr V2.cr, .slice V2.xf V2.nf V2.cf, .slice V2.xt V2.nt V2.ct, .int .i64 b.lo, .int .i64 b.al, .slice V2.xk V2.nk V2.ck, .int .i64 b.ka] 36)).alloc (.cells #[.slice none 0 0, .slice none 0 0, .slice none 0 0, .int .i64 0, .int .i64 0, .slice none 0 0, .int .i64 0] 36) := ⟨_, rfl⟩
  rw [← hW] at hA XA XB R
  have B := Lib.hid hA
  have H1 := Lib.hid h1
  have H2 := Lib.hid h2
  have SZ : Hid (W0.heap.size = w.heap.size + 3) := by show _ = _; rw [hW]; simp
  clear hA h1 h2
  have K1 := spSumOk_at W0 V1 a (H1.out.below B.out (Nat.le_refl _))
  rw [okA] at K1
  go_enter Try.func80, Try.ntmps80
  go_wp2_with fail
  rw [← hW]
  clear hW axa0 axa1 axa2 axa3 axa4 axa5 axa6
  refine (K1).mono ?_
  rintro e w1 ⟨rfl, hb⟩
  clear K1
  have SZ1 := Lib.hid hb.size
  replace XA := XA.later hb
  replace XB := XB.later hb
  replace R := R.later hb
  replace B := Lib.hid (B.out.trans (hb.mono B.out.size))
  clear hb
  obtain ⟨cxb0, cxb1, cxb2, cxb3, cxb4, cxb5, cxb6⟩ := (XB).cells
  have frr := R.free
  have K1 := spSumOk_at w1 V2 b (H2.out.below B.out (Nat.le_refl _))
  rw [okB'] at K1
  go_wp2_with fail
  refine (K1).mono ?_
  rintro e w2 ⟨rfl, hb⟩
  clear K1
  clear cxb0 cxb1 cxb2 cxb3 cxb4 cxb5 cxb6 frr
  replace XA := XA.later hb
  replace XB := XB.later hb
  replace R := R.later hb
  replace B := Lib.hid (B.out.trans (hb.mono B.out.size))
  clear hb
  obtain ⟨cxa0, cxa1, cxa2, cxa3, cxa4, cxa5, cxa6⟩ := (XA).cells
  obtain ⟨cxb0, cxb1, cxb2, cxb3, cxb4, cxb5, cxb6⟩ := (XB).cells
  obtain ⟨cr0, cr1, cr2, cr3, cr4, cr5, cr6⟩ := (R).cells
  have frr := R.free
  have fin := R.set (.slice none 0 0) (.slice none 0 0) (.slice none 0 0) (.int .i64 0) (.int .i64 0) (.slice none 0 0) (.int .i64 0)
  have OF := OwnS.box7 (OwnS.none _ _ _ B.out.size (Nat.le_refl _)) R (.slice none 0 0) (.slice none 0 0) (.slice none 0 0) (.int .i64 0) (.int .i64 0) (.slice none 0 0) (.int .i64 0)
  have BF := below_set7 B.out (show w.heap.size ≤ w.heap.size + 1 + 1 by omega) (.slice none 0 0) (.slice none 0 0) (.slice none 0 0) (.int .i64 0) (.int .i64 0) (.slice none 0 0) (.int .i64 0)
  have SF := set7_size w2 (w.heap.size + 1 + 1) (.slice none 0 0) (.slice none 0 0) (.slice none 0 0) (.int .i64 0) (.int .i64 0) (.slice none 0 0) (.int .i64 0)
  have HF := Lib.hid (And.intro (OwnS.base OF (Nat.le_refl _) (Nat.le_of_eq SF.symm) (Nat.le_refl _)) BF)
  have HY := Lib.hid fin
  clear fin OF BF SF
  go_wp2
  show bodyPost _ _ _ _ _ (set7 w2 (w.heap.size + 1 + 1) (.slice none 0 0) (.slice none 0 0) (.slice none 0 0) (.int .i64 0) (.int .i64 0) (.slice none 0 0) (.int .i64 0))
  obtain ⟨d0, d1, d2, d3, d4, d5, d6⟩ := HY.out.cells
  generalize set7 w2 (w.heap.size + 1 + 1) (.slice none 0 0) (.slice none 0 0) (.slice none 0 0) (.int .i64 0) (.int .i64 0) (.slice none 0 0) (.int .i64 0) = WF at HF d0 d1 d2 d3 d4 d5 d6 ⊢
  refine bodyPost_ret (v := .tuple #[.agg #[.slice none 0 0, .slice none 0 0, .slice none 0 0, .int .i64 0, .int .i64 0, .slice none 0 0, .int .i64 0], .bool false]) (by simp [results, Try.results80, go_sem, d0, d1, d2, d3, d4, d5, d6]) rfl ?_
  rw [joinS_no hno, hno]
  exact ⟨SV.none, rfl, HF.out⟩

set_option maxRecDepth 100000 in
set_option maxHeartbeats 8000000 in
theorem spSumJoin_yes (w : World) (V1 V2 : SV) (a b : Sm) (h1 : RdS w V1 a) (h2 : RdS w V2 b) (hok : joinOkS a b = true) :
    Calls Try.prog 80 #[.agg #[.slice V1.xr V1.nr V1.cr, .slice V1.xf V1.nf V1.cf, .slice V1.xt V1.nt V1.ct, .int .i64 a.lo, .int .i64 a.al, .slice V1.xk V1.nk V1.ck, .int .i64 a.ka], .agg #[.slice V2.xr V2.nr V2.cr, .slice V2.xf V2.nf V2.cf, .slice V2.xt V2.nt V2.ct, .int .i64 b.lo, .int .i64 b.al, .slice V2.xk V2.nk V2.ck, .int .i64 b.ka]] w fun e w' => ∃ U, e = .returned (.tuple #[.agg #[.slice U.xr U.nr U.cr, .slice U.xf U.nf U.cf, .slice U.xt U.nt U.ct, .int .i64 (joinS a b).lo, .int .i64 (joinS a b).al, .slice U.xk U.nk U.ck, .int .i64 (joinS a b).ka], .bool (joinOkS a b)]) ∧ OwnS w' w.heap.size w'.heap.size U (joinS a b) ∧ Below w.heap.size w w' := by
  have AA := joinAll hok
  have okA := (okS_iff _).2 AA.oka
  have okB' := (okS_iff _).2 AA.okb
  have rm := AA.room
  have a0 := AA.oka.al0
  have b0 := AA.okb.al0
  have ws : IntKind.i64.wrap (a.al + b.al) = a.al + b.al := IntWalk.i64_in _ (by omega)
  have JA := Lib.hid (joinA_yes AA.r)
  clear AA
  have hA := (((Below.refl w.heap.size w).alloc (Nat.le_refl _) (.cells #[.slice V1.xr V1.nr V1.cr, .slice V1.xf V1.nf V1.cf, .slice V1.xt V1.nt V1.ct, .int .i64 a.lo, .int .i64 a.al, .slice V1.xk V1.nk V1.ck, .int .i64 a.ka] 36)).alloc (by simp) (.cells #[.slice V2.xr V2.nr V2.cr, .slice V2.xf V2.nf V2.cf, .slice V2.xt V2.nt V2.ct, .int .i64 b.lo, .int .i64 b.al, .slice V2.xk V2.nk V2.ck, .int .i64 b.ka] 36)).alloc (by simp; omega) (.cells #[.slice none 0 0, .slice none 0 0, .slice none 0 0, .int .i64 0, .int .i64 0, .slice none 0 0, .int .i64 0] 36)
  have XA := ((Box7.new w 36 (.slice V1.xr V1.nr V1.cr) (.slice V1.xf V1.nf V1.cf) (.slice V1.xt V1.nt V1.ct) (.int .i64 a.lo) (.int .i64 a.al) (.slice V1.xk V1.nk V1.ck) (.int .i64 a.ka)).alloc (.cells #[.slice V2.xr V2.nr V2.cr, .slice V2.xf V2.nf V2.cf, .slice V2.xt V2.nt V2.ct, .int .i64 b.lo, .int .i64 b.al, .slice V2.xk V2.nk V2.ck, .int .i64 b.ka] 36)).alloc (.cells #[.slice none 0 0, .slice none 0 0, .slice none 0 0, .int .i64 0, .int .i64 0, .slice none 0 0, .int .i64 0] 36)
  have XB := (Box7.new (w.alloc (.cells #[.slice V1.xr V1.nr V1.cr, .slice V1.xf V1.nf V1.cf, .slice V1.xt V1.nt V1.ct, .int .i64 a.lo, .int .i64 a.al, .slice V1.xk V1.nk V1.ck, .int .i64 a.ka] 36)) 36 (.slice V2.xr V2.nr V2.cr) (.slice V2.xf V2.nf V2.cf) (.slice V2.xt V2.nt V2.ct) (.int .i64 b.lo) (.int .i64 b.al) (.slice V2.xk V2.nk V2.ck) (.int .i64 b.ka)).alloc (.cells #[.slice none 0 0, .slice none 0 0, .slice none 0 0, .int .i64 0, .int .i64 0, .slice none 0 0, .int .i64 0] 36)
  rw [World.size_alloc] at XB
  have R := Box7.new ((w.alloc (.cells #[.slice V1.xr V1.nr V1.cr, .slice V1.xf V1.nf V1.cf, .slice V1.xt V1.nt V1.ct, .int .i64 a.lo, .int .i64 a.al, .slice V1.xk V1.nk V1.ck, .int .i64 a.ka] 36)).alloc (.cells #[.slice V2.xr V2.nr V2.cr, .slice V2.xf V2.nf V2.cf, .slice V2.xt V2.nt V2.ct, .int .i64 b.lo, .int .i64 b.al, .slice V2.xk V2.nk V2.ck, .int .i64 b.ka] 36)) 36 (.slice none 0 0) (.slice none 0 0) (.slice none 0 0) (.int .i64 0) (.int .i64 0) (.slice none 0 0) (.int .i64 0)
  rw [World.size_alloc, World.size_alloc] at R
  obtain ⟨axa0, axa1, axa2, axa3, axa4, axa5, axa6⟩ := (XA).cells
  obtain ⟨W0, hW⟩ : ∃ W, W = ((w.alloc (.cells #[.slice V1.xr V1.nr V1.cr, .slice V1.xf V1.nf V1.cf, .slice V1.xt V1.nt V1.ct, .int .i64 a.lo, .int .i64 a.al, .slice V1.xk V1.nk V1.ck, .int .i64 a.ka] 36)).alloc (.cells #[.slice V2.xr V2.nr V2.cr, .slice V2.xf V2.nf V2.cf, .slice V2.xt V2.nt V2.ct, .int .i64 b.lo, .int .i64 b.al, .slice V2.xk V2.nk V2.ck, .int .i64 b.ka] 36)).alloc (.cells #[.slice none 0 0, .slice none 0 0, .slice none 0 0, .int .i64 0, .int .i64 0, .slice none 0 0, .int .i64 0] 36) := ⟨_, rfl⟩
  rw [← hW] at hA XA XB R
  have B := Lib.hid hA
  have H1 := Lib.hid h1
  have H2 := Lib.hid h2
  have SZ : Hid (W0.heap.size = w.heap.size + 3) := by show _ = _; rw [hW]; simp
  clear hA h1 h2
  have K1 := spSumOk_at W0 V1 a (H1.out.below B.out (Nat.le_refl _))
  rw [okA] at K1
  go_enter Try.func80, Try.ntmps80
  go_wp2_with fail
  rw [← hW]
  clear hW axa0 axa1 axa2 axa3 axa4 axa5 axa6
  refine (K1).mono ?_
  rintro e w1 ⟨rfl, hb⟩
  clear K1
  have SZ1 := Lib.hid hb.size
  replace XA := XA.later hb
  replace XB := XB.later hb
  replace R := R.later hb
  replace B := Lib.hid (B.out.trans (hb.mono B.out.size))
  clear hb
  obtain ⟨cxb0, cxb1, cxb2, cxb3, cxb4, cxb5, cxb6⟩ := (XB).cells
  have frr := R.free
  have HOK := Lib.hid hok
  clear hok
  have K1 := spSumOk_at w1 V2 b (H2.out.below B.out (Nat.le_refl _))
  rw [okB'] at K1
  go_wp2_with fail
  refine (K1).mono ?_
  rintro e w2 ⟨rfl, hb⟩
  clear K1
  have SZ2 := Lib.hid (Nat.le_trans (Nat.le_of_eq SZ.out.symm) (Nat.le_trans SZ1.out hb.size))
  have LL := Lib.hid (Nat.le_trans B.out.size hb.size)
  clear cxb0 cxb1 cxb2 cxb3 cxb4 cxb5 cxb6 frr
  replace XA := XA.later hb
  replace XB := XB.later hb
  replace R := R.later hb
  replace B := Lib.hid (B.out.trans (hb.mono B.out.size))
  clear hb
  obtain ⟨cxa0, cxa1, cxa2, cxa3, cxa4, cxa5, cxa6⟩ := (XA).cells
  obtain ⟨cxb0, cxb1, cxb2, cxb3, cxb4, cxb5, cxb6⟩ := (XB).cells
  have hA := B.out.alloc B.out.size (.cells #[.slice none 0 0, .slice none 0 0, .slice none 0 0, .int .i64 0, .int .i64 0, .slice none 0 0, .int .i64 0] 36)
  have X6 := Box7.new w2 36 (.slice none 0 0) (.slice none 0 0) (.slice none 0 0) (.int .i64 0) (.int .i64 0) (.slice none 0 0) (.int .i64 0)
  obtain ⟨W2, hW⟩ : ∃ W, W = w2.alloc (.cells #[.slice none 0 0, .slice none 0 0, .slice none 0 0, .int .i64 0, .int .i64 0, .slice none 0 0, .int .i64 0] 36) := ⟨_, rfl⟩
  replace XA := XA.alloc (.cells #[.slice none 0 0, .slice none 0 0, .slice none 0 0, .int .i64 0, .int .i64 0, .slice none 0 0, .int .i64 0] 36)
  replace XB := XB.alloc (.cells #[.slice none 0 0, .slice none 0 0, .slice none 0 0, .int .i64 0, .int .i64 0, .slice none 0 0, .int .i64 0] 36)
  replace R := R.alloc (.cells #[.slice none 0 0, .slice none 0 0, .slice none 0 0, .int .i64 0, .int .i64 0, .slice none 0 0, .int .i64 0] 36)
  obtain ⟨bxa0, bxa1, bxa2, bxa3, bxa4, bxa5, bxa6⟩ := (XA).cells
  obtain ⟨bxb0, bxb1, bxb2, bxb3, bxb4, bxb5, bxb6⟩ := (XB).cells
  rw [← hW] at hA X6 XA XB R
  replace B := Lib.hid hA
  clear hA
  go_wp2_with fail
  rw [← hW]
  clear hW bxa0 bxa1 bxa2 bxa3 bxa4 bxa5 bxa6 bxb0 bxb1 bxb2 bxb3 bxb4 bxb5 bxb6
  clear cxa0 cxa1 cxa2 cxa3 cxa4 cxa5 cxa6 cxb0 cxb1 cxb2 cxb3 cxb4 cxb5 cxb6
  have Q := H1.out.below B.out (Nat.le_refl _)
  have Q2 := H2.out.below B.out (Nat.le_refl _)
  have K1 := spJoinRR W2 (.slice V1.xr V1.nr V1.cr) (.slice V2.xr V2.nr V2.cr) a.rs b.rs Q.r Q2.r
  generalize hA : joinA a.rs b.rs = A0 at K1
  have HA0 := Lib.hid hA
  generalize joinB a.rs b.rs = ok0 at K1
  clear hA Q Q2
  go_wp2_with fail
  refine (K1).mono ?_
  rintro e w3 ⟨y0, c0', rfl, ho, hb⟩
  obtain ⟨m0, hm⟩ : ∃ m, m = (A0).length := ⟨_, rfl⟩
  rw [← hm] at ho ⊢
  clear hm K1
  have M0 := Lib.hid B.out.size
  have q6 := SZ2.out
  have N0 := Lib.hid hb.size
  replace XA := XA.later hb
  replace XB := XB.later hb
  replace R := R.later hb
  replace B := Lib.hid (B.out.trans (hb.mono B.out.size))
  replace X6 := X6.later hb
  have O0 := Lib.hid (ho)
  clear hb
  obtain ⟨W3, hW⟩ : ∃ W, W = (w3.setCell ⟨w2.heap.size, 0, none⟩ (.slice y0 m0 c0')) := ⟨_, rfl⟩
  obtain ⟨ax60, ax61, ax62, ax63, ax64, ax65, ax66⟩ := (X6).cells
  have frx6 := X6.free
  replace B := Lib.hid (B.out)
  replace XA := XA.kept (grownBy_setCell _ ⟨w2.heap.size, 0, none⟩ (.slice y0 m0 c0')) (by simp; omega)
  replace XB := XB.kept (grownBy_setCell _ ⟨w2.heap.size, 0, none⟩ (.slice y0 m0 c0')) (by simp; omega)
  replace R := R.kept (grownBy_setCell _ ⟨w2.heap.size, 0, none⟩ (.slice y0 m0 c0')) (by simp; omega)
  replace B := Lib.hid (B.out.setCell (p := ⟨w2.heap.size, 0, none⟩) LL.out (.slice y0 m0 c0'))
  replace O0 := Lib.hid (O0.out.cell7 X6 0 (.slice y0 m0 c0'))
  replace X6 := X6.set0 (.slice y0 m0 c0')
  obtain ⟨bxa0, bxa1, bxa2, bxa3, bxa4, bxa5, bxa6⟩ := (XA).cells
  obtain ⟨bxb0, bxb1, bxb2, bxb3, bxb4, bxb5, bxb6⟩ := (XB).cells
  rw [← hW] at XA
  rw [← hW] at XB
  rw [← hW] at R
  rw [← hW] at B
  rw [← hW] at X6
  rw [← hW] at O0
  go_wp2_with fail
  rw [← hW]
  clear hW ax60 ax61 ax62 ax63 ax64 ax65 ax66 frx6 bxa0 bxa1 bxa2 bxa3 bxa4 bxa5 bxa6 bxb0 bxb1 bxb2 bxb3 bxb4 bxb5 bxb6
  clear ho q6
  have Q := H1.out.below B.out (Nat.le_refl _)
  have Q2 := H2.out.below B.out (Nat.le_refl _)
  have K1 := spFewJoin_at W3 (.slice V1.xf V1.nf V1.cf) (.slice V2.xf V2.nf V2.cf) a.zs b.zs Q.f Q2.f
  generalize hA : joinF a.zs b.zs = A1 at K1
  have HA1 := Lib.hid hA
  generalize joinOkF a.zs b.zs = ok1 at K1
  clear hA Q Q2
  go_wp2_with fail
  refine (K1).mono ?_
  rintro e w4 ⟨v, rfl, ho, hb⟩
  obtain ⟨y1, c1', rfl⟩ := ho.form'
  obtain ⟨m1, hm⟩ : ∃ m, m = (A1).length := ⟨_, rfl⟩
  rw [← hm] at ho ⊢
  clear hm K1
  have M1 := Lib.hid B.out.size
  have q6 := SZ2.out
  have T1 := Lib.hid O0.out.top
  replace XA := XA.later hb
  replace XB := XB.later hb
  replace R := R.later hb
  replace B := Lib.hid (B.out.trans (hb.mono B.out.size))
  replace X6 := X6.later hb
  replace O0 := Lib.hid (O0.out.below hb)
  have O1 := Lib.hid (ho)
  clear hb
  obtain ⟨W4, hW⟩ : ∃ W, W = (w4.setCell ⟨w2.heap.size, 1, none⟩ (.slice y1 m1 c1')) := ⟨_, rfl⟩
  obtain ⟨ax60, ax61, ax62, ax63, ax64, ax65, ax66⟩ := (X6).cells
  have frx6 := X6.free
  replace B := Lib.hid (B.out)
  replace XA := XA.kept (grownBy_setCell _ ⟨w2.heap.size, 1, none⟩ (.slice y1 m1 c1')) (by simp; omega)
  replace XB := XB.kept (grownBy_setCell _ ⟨w2.heap.size, 1, none⟩ (.slice y1 m1 c1')) (by simp; omega)
  replace R := R.kept (grownBy_setCell _ ⟨w2.heap.size, 1, none⟩ (.slice y1 m1 c1')) (by simp; omega)
  replace B := Lib.hid (B.out.setCell (p := ⟨w2.heap.size, 1, none⟩) LL.out (.slice y1 m1 c1'))
  replace O0 := Lib.hid (O0.out.cell7 X6 1 (.slice y1 m1 c1'))
  replace O1 := Lib.hid (O1.out.cell7 X6 1 (.slice y1 m1 c1'))
  replace X6 := X6.set1 (.slice y1 m1 c1')
  obtain ⟨bxa0, bxa1, bxa2, bxa3, bxa4, bxa5, bxa6⟩ := (XA).cells
  obtain ⟨bxb0, bxb1, bxb2, bxb3, bxb4, bxb5, bxb6⟩ := (XB).cells
  rw [← hW] at XA
  rw [← hW] at XB
  rw [← hW] at R
  rw [← hW] at B
  rw [← hW] at X6
  rw [← hW] at O0
  rw [← hW] at O1
  go_wp2_with fail
  rw [← hW]
  clear hW ax60 ax61 ax62 ax63 ax64 ax65 ax66 frx6 bxa0 bxa1 bxa2 bxa3 bxa4 bxa5 bxa6 bxb0 bxb1 bxb2 bxb3 bxb4 bxb5 bxb6
  clear ho q6
  have Q := H1.out.below B.out (Nat.le_refl _)
  have Q2 := H2.out.below B.out (Nat.le_refl _)
  have K1 := T.spTopJoin_at W4 (.slice V1.xt V1.nt V1.ct) (.slice V2.xt V2.nt V2.ct) a.ps b.ps a.lo a.al b.lo b.al Q.t Q2.t
  generalize hA : T.joinT a.ps a.lo a.al b.ps b.lo b.al = A2 at K1
  have HA2 := Lib.hid hA
  generalize T.joinOk a.ps a.lo a.al b.ps b.lo b.al = ok2 at K1
  clear hA Q Q2
  go_wp2_with fail
  refine (K1).mono ?_
  rintro e w5 ⟨v, rfl, ho, hb⟩
  obtain ⟨y2, c2', rfl⟩ := ho.form'
  obtain ⟨m2, hm⟩ : ∃ m, m = (A2.1).length := ⟨_, rfl⟩
  rw [← hm] at ho ⊢
  clear hm K1
  have M2 := Lib.hid B.out.size
  have q6 := SZ2.out
  replace XA := XA.later hb
  replace XB := XB.later hb
  replace R := R.later hb
  replace B := Lib.hid (B.out.trans (hb.mono B.out.size))
  replace X6 := X6.later hb
  replace O0 := Lib.hid (O0.out.below hb)
  replace O1 := Lib.hid (O1.out.below hb)
  have O2 := Lib.hid (ho)
  clear hb
  obtain ⟨W5, hW⟩ : ∃ W, W = (((w5.setCell ⟨w2.heap.size, 2, none⟩ (.slice y2 m2 c2')).setCell ⟨w2.heap.size, 3, none⟩ (.int .i64 A2.2.1)).setCell ⟨w2.heap.size, 4, none⟩ (.int .i64 A2.2.2)) := ⟨_, rfl⟩
  obtain ⟨ax60, ax61, ax62, ax63, ax64, ax65, ax66⟩ := (X6).cells
  have frx6 := X6.free
  replace B := Lib.hid (B.out)
  replace XA := XA.kept (grownBy_setCell _ ⟨w2.heap.size, 2, none⟩ (.slice y2 m2 c2')) (by simp; omega)
  replace XB := XB.kept (grownBy_setCell _ ⟨w2.heap.size, 2, none⟩ (.slice y2 m2 c2')) (by simp; omega)
  replace R := R.kept (grownBy_setCell _ ⟨w2.heap.size, 2, none⟩ (.slice y2 m2 c2')) (by simp; omega)
  replace B := Lib.hid (B.out.setCell (p := ⟨w2.heap.size, 2, none⟩) LL.out (.slice y2 m2 c2'))
  replace O0 := Lib.hid (O0.out.cell7 X6 2 (.slice y2 m2 c2'))
  replace O1 := Lib.hid (O1.out.cell7 X6 2 (.slice y2 m2 c2'))
  replace O2 := Lib.hid (O2.out.cell7 X6 2 (.slice y2 m2 c2'))
  replace X6 := X6.set2 (.slice y2 m2 c2')
  replace XA := XA.kept (grownBy_setCell _ ⟨w2.heap.size, 3, none⟩ (.int .i64 A2.2.1)) (by simp; omega)
  replace XB := XB.kept (grownBy_setCell _ ⟨w2.heap.size, 3, none⟩ (.int .i64 A2.2.1)) (by simp; omega)
  replace R := R.kept (grownBy_setCell _ ⟨w2.heap.size, 3, none⟩ (.int .i64 A2.2.1)) (by simp; omega)
  replace B := Lib.hid (B.out.setCell (p := ⟨w2.heap.size, 3, none⟩) LL.out (.int .i64 A2.2.1))
  replace O0 := Lib.hid (O0.out.cell7 X6 3 (.int .i64 A2.2.1))
  replace O1 := Lib.hid (O1.out.cell7 X6 3 (.int .i64 A2.2.1))
  replace O2 := Lib.hid (O2.out.cell7 X6 3 (.int .i64 A2.2.1))
  replace X6 := X6.set3 (.int .i64 A2.2.1)
  replace XA := XA.kept (grownBy_setCell _ ⟨w2.heap.size, 4, none⟩ (.int .i64 A2.2.2)) (by simp; omega)
  replace XB := XB.kept (grownBy_setCell _ ⟨w2.heap.size, 4, none⟩ (.int .i64 A2.2.2)) (by simp; omega)
  replace R := R.kept (grownBy_setCell _ ⟨w2.heap.size, 4, none⟩ (.int .i64 A2.2.2)) (by simp; omega)
  replace B := Lib.hid (B.out.setCell (p := ⟨w2.heap.size, 4, none⟩) LL.out (.int .i64 A2.2.2))
  replace O0 := Lib.hid (O0.out.cell7 X6 4 (.int .i64 A2.2.2))
  replace O1 := Lib.hid (O1.out.cell7 X6 4 (.int .i64 A2.2.2))
  replace O2 := Lib.hid (O2.out.cell7 X6 4 (.int .i64 A2.2.2))
  replace X6 := X6.set4 (.int .i64 A2.2.2)
  obtain ⟨bxa0, bxa1, bxa2, bxa3, bxa4, bxa5, bxa6⟩ := (XA).cells
  obtain ⟨bxb0, bxb1, bxb2, bxb3, bxb4, bxb5, bxb6⟩ := (XB).cells
  rw [← hW] at XA
  rw [← hW] at XB
  rw [← hW] at R
  rw [← hW] at B
  rw [← hW] at X6
  rw [← hW] at O0
  rw [← hW] at O1
  rw [← hW] at O2
  go_wp2_with fail
  rw [← hW]
  clear hW ax60 ax61 ax62 ax63 ax64 ax65 ax66 frx6 bxa0 bxa1 bxa2 bxa3 bxa4 bxa5 bxa6 bxb0 bxb1 bxb2 bxb3 bxb4 bxb5 bxb6
  clear ho q6
  have Q := H1.out.below B.out (Nat.le_refl _)
  have Q2 := H2.out.below B.out (Nat.le_refl _)
  have K1 := K.spRankJoin_at W5 (.slice V1.xk V1.nk V1.ck) (.slice V2.xk V2.nk V2.ck) a.ks a.ka b.ks b.ka Q.k Q2.k
  generalize hA : K.joinK a.ks a.ka b.ks b.ka = A3 at K1
  have HA3 := Lib.hid hA
  generalize K.joinOkK a.ks a.ka b.ks b.ka = ok3 at K1
  clear hA Q Q2
  go_wp2_with fail
  refine (K1).mono ?_
  rintro e w6 ⟨v, rfl, ho, hb⟩
  obtain ⟨y3, c3', rfl⟩ := ho.form'
  obtain ⟨m3, hm⟩ : ∃ m, m = (A3.1).length := ⟨_, rfl⟩
  rw [← hm] at ho ⊢
  clear hm K1
  have M3 := Lib.hid B.out.size
  have q6 := SZ2.out
  replace XA := XA.later hb
  replace XB := XB.later hb
  replace R := R.later hb
  replace B := Lib.hid (B.out.trans (hb.mono B.out.size))
  replace X6 := X6.later hb
  replace O0 := Lib.hid (O0.out.below hb)
  replace O1 := Lib.hid (O1.out.below hb)
  replace O2 := Lib.hid (O2.out.below hb)
  have O3 := Lib.hid (ho)
  clear hb
  obtain ⟨W6, hW⟩ : ∃ W, W = ((w6.setCell ⟨w2.heap.size, 5, none⟩ (.slice y3 m3 c3')).setCell ⟨w2.heap.size, 6, none⟩ (.int .i64 A3.2)) := ⟨_, rfl⟩
  obtain ⟨ax60, ax61, ax62, ax63, ax64, ax65, ax66⟩ := (X6).cells
  have frx6 := X6.free
  replace B := Lib.hid (B.out)
  replace XA := XA.kept (grownBy_setCell _ ⟨w2.heap.size, 5, none⟩ (.slice y3 m3 c3')) (by simp; omega)
  replace XB := XB.kept (grownBy_setCell _ ⟨w2.heap.size, 5, none⟩ (.slice y3 m3 c3')) (by simp; omega)
  replace R := R.kept (grownBy_setCell _ ⟨w2.heap.size, 5, none⟩ (.slice y3 m3 c3')) (by simp; omega)
  replace B := Lib.hid (B.out.setCell (p := ⟨w2.heap.size, 5, none⟩) LL.out (.slice y3 m3 c3'))
  replace O0 := Lib.hid (O0.out.cell7 X6 5 (.slice y3 m3 c3'))
  replace O1 := Lib.hid (O1.out.cell7 X6 5 (.slice y3 m3 c3'))
  replace O2 := Lib.hid (O2.out.cell7 X6 5 (.slice y3 m3 c3'))
  replace O3 := Lib.hid (O3.out.cell7 X6 5 (.slice y3 m3 c3'))
  replace X6 := X6.set5 (.slice y3 m3 c3')
  replace XA := XA.kept (grownBy_setCell _ ⟨w2.heap.size, 6, none⟩ (.int .i64 A3.2)) (by simp; omega)
  replace XB := XB.kept (grownBy_setCell _ ⟨w2.heap.size, 6, none⟩ (.int .i64 A3.2)) (by simp; omega)
  replace R := R.kept (grownBy_setCell _ ⟨w2.heap.size, 6, none⟩ (.int .i64 A3.2)) (by simp; omega)
  replace B := Lib.hid (B.out.setCell (p := ⟨w2.heap.size, 6, none⟩) LL.out (.int .i64 A3.2))
  replace O0 := Lib.hid (O0.out.cell7 X6 6 (.int .i64 A3.2))
  replace O1 := Lib.hid (O1.out.cell7 X6 6 (.int .i64 A3.2))
  replace O2 := Lib.hid (O2.out.cell7 X6 6 (.int .i64 A3.2))
  replace O3 := Lib.hid (O3.out.cell7 X6 6 (.int .i64 A3.2))
  replace X6 := X6.set6 (.int .i64 A3.2)
  obtain ⟨bx60, bx61, bx62, bx63, bx64, bx65, bx66⟩ := (X6).cells
  obtain ⟨br0, br1, br2, br3, br4, br5, br6⟩ := (R).cells
  have fbr := R.free
  rw [← hW] at XA
  rw [← hW] at XB
  rw [← hW] at R
  rw [← hW] at B
  rw [← hW] at X6
  rw [← hW] at O0
  rw [← hW] at O1
  rw [← hW] at O2
  rw [← hW] at O3
  clear ho q6
  have EJ := Lib.hid (show (joinS a b) = ⟨A0, A1, A2.1, A2.2.1, A2.2.2, A3.1, A3.2⟩ by rw [joinS_yes HOK.out]; unfold joinS0; rw [← JA.out, HA0.out, HA1.out, HA2.out, HA3.out])
  have fin := R.set (.slice y0 m0 c0') (.slice y1 m1 c1') (.slice y2 m2 c2') (.int .i64 A2.2.1) (.int .i64 A2.2.2) (.slice y3 m3 c3') (.int .i64 A3.2)
  have OF := OwnS.box7 (OwnS.make (V := ⟨y0, m0, c0', y1, m1, c1', y2, m2, c2', y3, m3, c3'⟩) (s := ⟨A0, A1, A2.1, A2.2.1, A2.2.2, A3.1, A3.2⟩) O0.out O1.out O2.out O3.out M0.out (Nat.le_trans M0.out N0.out) T1.out M2.out M3.out) R (.slice y0 m0 c0') (.slice y1 m1 c1') (.slice y2 m2 c2') (.int .i64 A2.2.1) (.int .i64 A2.2.2) (.slice y3 m3 c3') (.int .i64 A3.2)
  have BF := below_set7 B.out (show w.heap.size ≤ w.heap.size + 1 + 1 by omega) (.slice y0 m0 c0') (.slice y1 m1 c1') (.slice y2 m2 c2') (.int .i64 A2.2.1) (.int .i64 A2.2.2) (.slice y3 m3 c3') (.int .i64 A3.2)
  have SF := set7_size W6 (w.heap.size + 1 + 1) (.slice y0 m0 c0') (.slice y1 m1 c1') (.slice y2 m2 c2') (.int .i64 A2.2.1) (.int .i64 A2.2.2) (.slice y3 m3 c3') (.int .i64 A3.2)
  have HF := Lib.hid (And.intro (OwnS.base OF (Nat.le_refl _) (Nat.le_of_eq SF.symm) (Nat.le_refl _)) BF)
  have HY := Lib.hid fin
  clear fin OF BF SF
  go_wp2
  rw [← hW]
  clear hW ax60 ax61 ax62 ax63 ax64 ax65 ax66 frx6 bx60 bx61 bx62 bx63 bx64 bx65 bx66 br0 br1 br2 br3 br4 br5 br6 fbr
  show bodyPost _ _ _ _ _ (set7 W6 (w.heap.size + 1 + 1) (.slice y0 m0 c0') (.slice y1 m1 c1') (.slice y2 m2 c2') (.int .i64 A2.2.1) (.int .i64 A2.2.2) (.slice y3 m3 c3') (.int .i64 A3.2))
  obtain ⟨d0, d1, d2, d3, d4, d5, d6⟩ := HY.out.cells
  generalize set7 W6 (w.heap.size + 1 + 1) (.slice y0 m0 c0') (.slice y1 m1 c1') (.slice y2 m2 c2') (.int .i64 A2.2.1) (.int .i64 A2.2.2) (.slice y3 m3 c3') (.int .i64 A3.2) = WF at HF d0 d1 d2 d3 d4 d5 d6 ⊢
  refine bodyPost_ret (v := .tuple #[.agg #[.slice y0 m0 c0', .slice y1 m1 c1', .slice y2 m2 c2', .int .i64 A2.2.1, .int .i64 A2.2.2, .slice y3 m3 c3', .int .i64 A3.2], .bool true]) (by simp [results, Try.results80, go_sem, d0, d1, d2, d3, d4, d5, d6]) rfl ?_
  rw [EJ.out, HOK.out]
  exact ⟨⟨y0, m0, c0', y1, m1, c1', y2, m2, c2', y3, m3, c3'⟩, rfl, HF.out⟩

theorem spSumJoin_at (w : World) (V1 V2 : SV) (a b : Sm) (h1 : RdS w V1 a) (h2 : RdS w V2 b) :
    Calls Try.prog 80 #[.agg #[.slice V1.xr V1.nr V1.cr, .slice V1.xf V1.nf V1.cf, .slice V1.xt V1.nt V1.ct, .int .i64 a.lo, .int .i64 a.al, .slice V1.xk V1.nk V1.ck, .int .i64 a.ka], .agg #[.slice V2.xr V2.nr V2.cr, .slice V2.xf V2.nf V2.cf, .slice V2.xt V2.nt V2.ct, .int .i64 b.lo, .int .i64 b.al, .slice V2.xk V2.nk V2.ck, .int .i64 b.ka]] w fun e w' => ∃ U, e = .returned (.tuple #[.agg #[.slice U.xr U.nr U.cr, .slice U.xf U.nf U.cf, .slice U.xt U.nt U.ct, .int .i64 (joinS a b).lo, .int .i64 (joinS a b).al, .slice U.xk U.nk U.ck, .int .i64 (joinS a b).ka], .bool (joinOkS a b)]) ∧ OwnS w' w.heap.size w'.heap.size U (joinS a b) ∧ Below w.heap.size w w' := by
  cases okA : okS a with
  | false => exact spSumJoin_noA w V1 V2 a b h1 h2 okA
  | true =>
    cases okB : okS b with
    | false => exact spSumJoin_noB w V1 V2 a b h1 h2 okA okB
    | true =>
      by_cases hs : a.al + b.al ≤ 2000
      · exact spSumJoin_yes w V1 V2 a b h1 h2 ((joinOkS_iff a b).2 ⟨(okS_iff _).1 okA, (okS_iff _).1 okB, hs⟩)
      · exact spSumJoin_much w V1 V2 a b h1 h2 okA okB hs

end Go.Proofs.Ytnoilafoeaknjaa
