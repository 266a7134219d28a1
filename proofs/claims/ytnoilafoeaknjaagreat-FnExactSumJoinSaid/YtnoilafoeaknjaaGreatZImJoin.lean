/-
  Both together, of the program.
-/
import Derived.Test.YtnoilafoeaknjaaGreatZImWith
import Derived.LoopN
set_option linter.unusedVariables false
namespace Go.Proofs.YtnoilafoeaknjaaGreat
open Go.RowKit Go.Sort


set_option maxRecDepth 100000 in
set_option maxHeartbeats 8000000 in
theorem imSumJoin_noA (w : World) (V1 V2 : SV) (a b : Sm) (h1 : RdS w V1 a) (h2 : RdS w V2 b) (okA : okS a = false) :
    Calls Tryz.prog 66 #[.agg #[.slice V1.xr V1.nr V1.cr, .slice V1.xf V1.nf V1.cf, .slice V1.xt V1.nt V1.ct, .int .i64 a.lo, .int .i64 a.al, .slice V1.xk V1.nk V1.ck, .int .i64 a.ka], .agg #[.slice V2.xr V2.nr V2.cr, .slice V2.xf V2.nf V2.cf, .slice V2.xt V2.nt V2.ct, .int .i64 b.lo, .int .i64 b.al, .slice V2.xk V2.nk V2.ck, .int .i64 b.ka]] w fun e w' => ∃ U, e = .returned (.tuple #[.agg #[.slice U.xr U.nr U.cr, .slice U.xf U.nf U.cf, .slice U.xt U.nt U.ct, .int .i64 (joinS a b).lo, .int .i64 (joinS a b).al, .slice U.xk U.nk U.ck, .int .i64 (joinS a b).ka], .bool (joinOkS a b)]) ∧ OwnS w' w.heap.size w'.heap.size U (joinS a b) ∧ Below w.heap.size w w' := by
  have hno : joinOkS a b = false := by unfold joinOkS; rw [okA]; rfl
  have hA := (((Below.refl w.heap.size w).alloc (Nat.le_refl _) (.cells #[.slice V1.xr V1.nr V1.cr, .slice V1.xf V1.nf V1.cf, .slice V1.xt V1.nt V1.ct, .int .i64 a.lo, .int .i64 a.al, .slice V1.xk V1.nk V1.ck, .int .i64 a.ka] 39)).alloc (by simp) (.cells #[.slice V2.xr V2.nr V2.cr, .slice V2.xf V2.nf V2.cf, .slice V2.xt V2.nt V2.ct, .int .i64 b.lo, .int .i64 b.al, .slice V2.xk V2.nk V2.ck, .int .i64 b.ka] 39)).alloc (by simp; omega) (.cells #[.slice none 0 0, .slice none 0 0, .slice none 0 0, .int .i64 0, .int .i64 0, .slice none 0 0, .int .i64 0] 39)
  have XA := ((Box7.new w 39 (.slice V1.xr V1.nr V1.cr) (.slice V1.xf V1.nf V1.cf) (.slice V1.xt V1.nt V1.ct) (.int .i64 a.lo) (.int .i64 a.al) (.slice V1.xk V1.nk V1.ck) (.int .i64 a.ka)).alloc (.cells #[.slice V2.xr V2.nr V2.cr, .slice V2.xf V2.nf V2.cf, .slice V2.xt V2.nt V2.ct, .int .i64 b.lo, .int .i64 b.al, .slice V2.xk V2.nk V2.ck, .int .i64 b.ka] 39)).alloc (.cells #[.slice none 0 0, .slice none 0 0, .slice none 0 0, .int .i64 0, .int .i64 0, .slice none 0 0, .int .i64 0] 39)
  have XB := (Box7.new (w.alloc (.cells #[.slice V1.xr V1.nr V1.cr, .slice V1.xf V1.nf V1.cf, .slice V1.xt V1.nt V1.ct, .int .i64 a.lo, .int .i64 a.al, .slice V1.xk V1.nk V1.ck, .int .i64 a.ka] 39)) 39 (.slice V2.xr V2.nr V2.cr) (.slice V2.xf V2.nf V2.cf) (.slice V2.xt V2.nt V2.ct) (.int .i64 b.lo) (.int .i64 b.al) (.slice V2.xk V2.nk V2.ck) (.int .i64 b.ka)).alloc (.cells #[.slice none 0 0, .slice none 0 0, .slice none 0 0, .int .i64 0, .int .i64 0, .slice none 0 0, .int .i64 0] 39)
  rw [World.size_alloc] at XB
  have R := Box7.new ((w.alloc (.cells #[.slice V1.xr V1.nr V1.cr, .slice V1.xf V1.nf V1.cf, .slice V1.xt V1.nt V1.ct, .int .i64 a.lo, .int .i64 a.al, .slice V1.xk V1.nk V1.ck, .int .i64 a.ka] 39)).alloc (.cells #[.slice V2.xr V2.nr V2.cr, .slice V2.xf V2.nf V2.cf, .slice V2.xt V2.nt V2.ct, .int .i64 b.lo, .int .i64 b.al, .slice V2.xk V2.nk V2.ck, .int .i64 b.ka] 39)) 39 (.slice none 0 0) (.slice none 0 0) (.slice none 0 0) (.int .i64 0) (.int .i64 0) (.slice none 0 0) (.int .i64 0)
  rw [World.size_alloc, World.size_alloc] at R
  obtain ⟨axa0, axa1, axa2, axa3, axa4, axa5, axa6⟩ := (XA).cells
  obtain ⟨W0, hW⟩ : ∃ W, W = ((w.alloc (.cells #[.slice V1.xr V1.nr V1.cr, .slice V1.xf V1.nf V1.cf, .slice V1.xt V1.nt V1.ct, .int .i64 a.lo, .int .i64 a.al, .slice V1.xk V1.nk V1.ck, .int .i64 a.ka] 39)).alloc (.cells #[.slice V2.xr V2.nr V2.cr, .slice V2.xf V2.nf V2.cf, .slice V2.xt V2.nt V2.ct, .int .i64 b.lo, .int .i64 b.al, .slice V2.xk V2.nk V2.ck, .int .i64 b.ka] 39)).alloc (.cells #[.slice none 0 0, .slice none 0 0, .slice none 0 0, .int .i64 0, .int .i64 0, .slice none 0 0, .int .i64 0] 39) := ⟨_, rfl⟩
  rw [← hW] at hA XA XB R
  have B := Lib.hid hA
  have H1 := Lib.hid h1
  have H2 := Lib.hid h2
  have SZ : Hid (W0.heap.size = w.heap.size + 3) := by show _ = _; rw [hW]; simp
  clear hA h1 h2
  have K1 := imSumOk_at W0 V1 a (H1.out.below B.out (Nat.le_refl _))
  rw [okA] at K1
  go_enter Tryz.func66, Tryz.ntmps66
  go_wp2_with fail
  rw [← hW]
  clear hW axa0 axa1 axa2 axa3 axa4 axa5 axa6
  refine (K1).mono ?_
  rintro e w1 ⟨rfl, hb⟩
  clear K1
  have SZ1 := Lib.hid hb.size
  replace XA := XA.later hb
  replace XB := XB.later hb
  replace R := R.later hb
  replace B := Lib.hid (B.out.trans (hb.mono B.out.size))
  clear hb
  obtain ⟨cr0, cr1, cr2, cr3, cr4, cr5, cr6⟩ := (R).cells
  have frr := R.free
  have fin := R.set (.slice none 0 0) (.slice none 0 0) (.slice none 0 0) (.int .i64 0) (.int .i64 0) (.slice none 0 0) (.int .i64 0)
  have OF := OwnS.box7 (OwnS.none _ _ _ B.out.size (Nat.le_refl _)) R (.slice none 0 0) (.slice none 0 0) (.slice none 0 0) (.int .i64 0) (.int .i64 0) (.slice none 0 0) (.int .i64 0)
  have BF := below_set7 B.out (show w.heap.size ≤ w.heap.size + 1 + 1 by omega) (.slice none 0 0) (.slice none 0 0) (.slice none 0 0) (.int .i64 0) (.int .i64 0) (.slice none 0 0) (.int .i64 0)
  have SF := set7_size w1 (w.heap.size + 1 + 1) (.slice none 0 0) (.slice none 0 0) (.slice none 0 0) (.int .i64 0) (.int .i64 0) (.slice none 0 0) (.int .i64 0)
  have HF := Lib.hid (And.intro (OwnS.base OF (Nat.le_refl _) (Nat.le_of_eq SF.symm) (Nat.le_refl _)) BF)
  have HY := Lib.hid fin
  clear fin OF BF SF
  go_wp2
  show bodyPost _ _ _ _ _ (set7 w1 (w.heap.size + 1 + 1) (.slice none 0 0) (.slice none 0 0) (.slice none 0 0) (.int .i64 0) (.int .i64 0) (.slice none 0 0) (.int .i64 0))
  obtain ⟨d0, d1, d2, d3, d4, d5, d6⟩ := HY.out.cells
  generalize set7 w1 (w.heap.size + 1 + 1) (.slice none 0 0) (.slice none 0 0) (.slice none 0 0) (.int .i64 0) (.int .i64 0) (.slice none 0 0) (.int .i64 0) = WF at HF d0 d1 d2 d3 d4 d5 d6 ⊢
  refine bodyPost_ret (v := .tuple #[.agg #[.slice none 0 0, .slice none 0 0, .slice none 0 0, .int .i64 0, .int .i64 0, .slice none 0 0, .int .i64 0], .bool false]) (by simp [results, Tryz.results66, go_sem, d0, d1, d2, d3, d4, d5, d6]) rfl ?_
  rw [joinS_no hno, hno]
  exact ⟨SV.none, rfl, HF.out⟩

set_option maxRecDepth 100000 in
set_option maxHeartbeats 8000000 in
theorem imSumJoin_noB (w : World) (V1 V2 : SV) (a b : Sm) (h1 : RdS w V1 a) (h2 : RdS w V2 b) (okA : okS a = true) (okB' : okS b = false) :
    Calls Tryz.prog 66 #[.agg #[.slice V1.xr V1.nr V1.cr, .slice V1.xf V1.nf V1.cf, .slice V1.xt V1.nt V1.ct, .int .i64 a.lo, .int .i64 a.al, .slice V1.xk V1.nk V1.ck, .int .i64 a.ka], .agg #[.slice V2.xr V2.nr V2.cr, .slice V2.xf V2.nf V2.cf, .slice V2.xt V2.nt V2.ct, .int .i64 b.lo, .int .i64 b.al, .slice V2.xk V2.nk V2.ck, .int .i64 b.ka]] w fun e w' => ∃ U, e = .returned (.tuple #[.agg #[.slice U.xr U.nr U.cr, .slice U.xf U.nf U.cf, .slice U.xt U.nt U.ct, .int .i64 (joinS a b).lo, .int .i64 (joinS a b).al, .slice U.xk U.nk U.ck, .int .i64 (joinS a b).ka], .bool (joinOkS a b)]) ∧ OwnS w' w.heap.size w'.heap.size U (joinS a b) ∧ Below w.heap.size w w' := by
  have hno : joinOkS a b = false := by unfold joinOkS; rw [okB']; cases okS a <;> rfl
  have hA := (((Below.refl w.heap.size w).alloc (Nat.le_refl _) (.cells #[.slice V1.xr V1.nr V1.cr, .slice V1.xf V1.nf V1.cf, .slice V1.xt V1.nt V1.ct, .int .i64 a.lo, .int .i64 a.al, .slice V1.xk V1.nk V1.ck, .int .i64 a.ka] 39)).alloc (by simp) (.cells #[.slice V2.xr V2.nr V2.cr, .slice V2.xf V2.nf V2.cf, .slice V2.xt V2.nt V2.ct, .int .i64 b.lo, .int .i64 b.al, .slice V2.xk V2.nk V2.ck, .int .i64 b.ka] 39)).alloc (by simp; omega) (.cells #[.slice none 0 0, .slice none 0 0, .slice none 0 0, .int .i64 0, .int .i64 0, .slice none 0 0, .int .i64 0] 39)
  have XA := ((Box7.new w 39 (.slice V1.xr V1.nr V1.cr) (.slice V1.xf V1.nf V1.cf) (.slice V1.xt V1.nt V1.ct) (.int .i64 a.lo) (.int .i64 a.al) (.slice V1.xk V1.nk V1.ck) (.int .i64 a.ka)).alloc (.cells #[.slice V2.xr V2.nr V2.cr, .slice V2.xf V2.nf V2.cf, .slice V2.xt V2.nt V2.ct, .int .i64 b.lo, .int .i64 b.al, .slice V2.xk V2.nk V2.ck, .int .i64 b.ka] 39)).alloc (.cells #[.slice none 0 0, .slice none 0 0, .slice none 0 0, .int .i64 0, .int .i64 0, .slice none 0 0, .int .i64 0] 39)
  have XB := (Box7.new (w.alloc (.cells #[.slice V1.xr V1.nr V1.cr, .slice V1.xf V1.nf V1.cf, .slice V1.xt V1.nt V1.ct, .int .i64 a.lo, .int .i64 a.al, .slice V1.xk V1.nk V1.ck, .int .i64 a.ka] 39)) 39 (.slice V2.xr V2.nr V2.cr) (.slice V2.xf V2.nf V2.cf) (.slice V2.xt V2.nt V2.ct) (.int .i64 b.lo) (.int .i64 b.al) (.slice V2.xk V2.nk V2.ck) (.int .i64 b.ka)).alloc (.cells #[.slice none 0 0, .slice none 0 0, .slice none 0 0, .int .i64 0, .int .i64 0, .slice none 0 0, .int .i64 0] 39)
  rw [World.size_alloc] at XB
  have R := Box7.new ((w.alloc (.cells #[.slice V1.xr V1.nr V1.cr, .slice V1.xf V1.nf V1.cf, .slice V1.xt V1.nt V1.ct, .int .i64 a.lo, .int .i64 a.al, .slice V1.xk V1.nk V1.ck, .int .i64 a.ka] 39)).alloc (.cells #[.slice V2.xr V2.nr V2.cr, .slice V2.xf V2.nf V2.cf, .slice V2.xt V2.nt V2.ct, .int .i64 b.lo, .int .i64 b.al, .slice V2.xk V2.nk V2.ck, .int .i64 b.ka] 39)) 39 (.slice none 0 0) (.slice none 0 0) (.slice none 0 0) (.int .i64 0) (.int .i64 0) (.slice none 0 0) (.int .i64 0)
  rw [World.size_alloc, World.size_alloc] at R
  obtain ⟨axa0, axa1, axa2, axa3, axa4, axa5, axa6⟩ := (XA).cells
  obtain ⟨W0, hW⟩ : ∃ W, W = ((w.alloc (.cells #[.slice V1.xr V1.nr V1.cr, .slice V1.xf V1.nf V1.cf, .slice V1.xt V1.nt V1.ct, .int .i64 a.lo, .int .i64 a.al, .slice V1.xk V1.nk V1.ck, .int .i64 a.ka] 39)).alloc (.cells #[.slice V2.xr V2.nr V2.cr, .slice V2.xf V2.nf V2.cf, .slice V2.xt V2.nt V2.ct, .int .i64 b.lo, .int .i64 b.al, .slice V2.xk V2.nk V2.ck, .int .i64 b.ka] 39)).alloc (.cells #[.slice none 0 0, .slice none 0 0, .slice none 0 0, .int .i64 0, .int .i64 0, .slice none 0 0, .int .i64 0] 39) := ⟨_, rfl⟩
  rw [← hW] at hA XA XB R
  have B := Lib.hid hA
  have H1 := Lib.hid h1
  have H2 := Lib.hid h2
  have SZ : Hid (W0.heap.size = w.heap.size + 3) := by show _ = _; rw [hW]; simp
  clear hA h1 h2
  have K1 := imSumOk_at W0 V1 a (H1.out.below B.out (Nat.le_refl _))
  rw [okA] at K1
  go_enter Tryz.func66, Tryz.ntmps66
  go_wp2_with fail
  rw [← hW]
  clear hW axa0 axa1 axa2 axa3 axa4 axa5 axa6
  refine (K1).mono ?_
  rintro e w1 ⟨rfl, hb⟩
  clear K1
  have SZ1 := Lib.hid hb.size
  replace XA := XA.later hb
  replace XB := XB.later hb
  replace R := R.later hb
  replace B := Lib.hid (B.out.trans (hb.mono B.out.size))
  clear hb
  obtain ⟨cxb0, cxb1, cxb2, cxb3, cxb4, cxb5, cxb6⟩ := (XB).cells
  have frr := R.free
  have K1 := imSumOk_at w1 V2 b (H2.out.below B.out (Nat.le_refl _))
  rw [okB'] at K1
  go_wp2_with fail
  refine (K1).mono ?_
  rintro e w2 ⟨rfl, hb⟩
  clear K1
  clear cxb0 cxb1 cxb2 cxb3 cxb4 cxb5 cxb6 frr
  replace XA := XA.later hb
  replace XB := XB.later hb
  replace R := R.later hb
  replace B := Lib.hid (B.out.trans (hb.mono B.out.size))
  clear hb
  obtain ⟨cr0, cr1, cr2, cr3, cr4, cr5, cr6⟩ := (R).cells
  have frr := R.free
  have fin := R.set (.slice none 0 0) (.slice none 0 0) (.slice none 0 0) (.int .i64 0) (.int .i64 0) (.slice none 0 0) (.int .i64 0)
  have OF := OwnS.box7 (OwnS.none _ _ _ B.out.size (Nat.le_refl _)) R (.slice none 0 0) (.slice none 0 0) (.slice none 0 0) (.int .i64 0) (.int .i64 0) (.slice none 0 0) (.int .i64 0)
  have BF := below_set7 B.out (show w.heap.size ≤ w.heap.size + 1 + 1 by omega) (.slice none 0 0) (.slice none 0 0) (.slice none 0 0) (.int .i64 0) (.int .i64 0) (.slice none 0 0) (.int .i64 0)
  have SF := set7_size w2 (w.heap.size + 1 + 1) (.slice none 0 0) (.slice none 0 0) (.slice none 0 0) (.int .i64 0) (.int .i64 0) (.slice none 0 0) (.int .i64 0)
  have HF := Lib.hid (And.intro (OwnS.base OF (Nat.le_refl _) (Nat.le_of_eq SF.symm) (Nat.le_refl _)) BF)
  have HY := Lib.hid fin
  clear fin OF BF SF
  go_wp2
  show bodyPost _ _ _ _ _ (set7 w2 (w.heap.size + 1 + 1) (.slice none 0 0) (.slice none 0 0) (.slice none 0 0) (.int .i64 0) (.int .i64 0) (.slice none 0 0) (.int .i64 0))
  obtain ⟨d0, d1, d2, d3, d4, d5, d6⟩ := HY.out.cells
  generalize set7 w2 (w.heap.size + 1 + 1) (.slice none 0 0) (.slice none 0 0) (.slice none 0 0) (.int .i64 0) (.int .i64 0) (.slice none 0 0) (.int .i64 0) = WF at HF d0 d1 d2 d3 d4 d5 d6 ⊢
  refine bodyPost_ret (v := .tuple #[.agg #[.slice none 0 0, .slice none 0 0, .slice none 0 0, .int .i64 0, .int .i64 0, .slice none 0 0, .int .i64 0], .bool false]) (by simp [results, Tryz.results66, go_sem, d0, d1, d2, d3, d4, d5, d6]) rfl ?_
  rw [joinS_no hno, hno]
  exact ⟨SV.none, rfl, HF.out⟩

set_option maxRecDepth 100000 in
set_option maxHeartbeats 8000000 in
theorem imSumJoin_much (w : World) (V1 V2 : SV) (a b : Sm) (h1 : RdS w V1 a) (h2 : RdS w V2 b) (okA : okS a = true) (okB' : okS b = true) (hs : ¬ a.al + b.al ≤ 2000) :
    Calls Tryz.prog 66 #[.agg #[.slice V1.xr V1.nr V1.cr, .slice V1.xf V1.nf V1.cf, .slice V1.xt V1.nt V1.ct, .int .i64 a.lo, .int .i64 a.al, .slice V1.xk V1.nk V1.ck, .int .i64 a.ka], .agg #[.slice V2.xr V2.nr V2.cr, .slice V2.xf V2.nf V2.cf, .slice V2.xt V2.nt V2.ct, .int .i64 b.lo, .int .i64 b.al, .slice V2.xk V2.nk V2.ck, .int .i64 b.ka]] w fun e w' => ∃ U, e = .returned (.tuple #[.agg #[.slice U.xr U.nr U.cr, .slice U.xf U.nf U.cf, .slice U.xt U.nt U.ct, .int .i64 (joinS a b).lo, .int .i64 (joinS a b).al, .slice U.xk U.nk U.ck, .int .i64 (joinS a b).ka], .bool (joinOkS a b)]) ∧ OwnS w' w.heap.size w'.heap.size U (joinS a b) ∧ Below w.heap.size w w' := by
  have hno : joinOkS a b = false := by unfold joinOkS; rw [okA, okB', decide_eq_false hs]; rfl
  have hj : joinB a.rs b.rs = false := by
    cases q : joinB a.rs b.rs with
    | false => rfl
    | true => have := (joinB_iff _ _).1 q; have := ((okS_iff _).1 okA).ra; have := ((okS_iff _).1 okB').ra; omega
  have hA := (((Below.refl w.heap.size w).alloc (Nat.le_refl _) (.cells #[.slice V1.xr V1.nr V1.cr, .slice V1.xf V1.nf V1.cf, .slice V1.xt V1.nt V1.ct, .int .i64 a.lo, .int .i64 a.al, .slice V1.xk V1.nk V1.ck, .int .i64 a.ka] 39)).alloc (by simp) (.cells #[.slice V2.xr V2.nr V2.cr, .slice V2.xf V2.nf V2.cf, .slice V2.xt V2.nt V2.ct, .int .i64 b.lo, .int .i64 b.al, .slice V2.xk V2.nk V2.ck, .int .i64 b.ka] 39)).alloc (by simp; omega) (.cells #[.slice none 0 0, .slice none 0 0, .slice none 0 0, .int .i64 0, .int .i64 0, .slice none 0 0, .int .i64 0] 39)
  have XA := ((Box7.new w 39 (.slice V1.xr V1.nr V1.cr) (.slice V1.xf V1.nf V1.cf) (.slice V1.xt V1.nt V1.ct) (.int .i64 a.lo) (.int .i64 a.al) (.slice V1.xk V1.nk V1.ck) (.int .i64 a.ka)).alloc (.cells #[.slice V2.xr V2.nr V2.cr, .slice V2.xf V2.nf V2.cf, .slice V2.xt V2.nt V2.ct, .int .i64 b.lo, .int .i64 b.al, .slice V2.xk V2.nk V2.ck, .int .i64 b.ka] 39)).alloc (.cells #[.slice none 0 0, .slice none 0 0, .slice none 0 0, .int .i64 0, .int .i64 0, .slice none 0 0, .int .i64 0] 39)
  have XB := (Box7.new (w.alloc (.cells #[.slice V1.xr V1.nr V1.cr, .slice V1.xf V1.nf V1.cf, .slice V1.xt V1.nt V1.ct, .int .i64 a.lo, .int .i64 a.al, .slice V1.xk V1.nk V1.ck, .int .i64 a.ka] 39)) 39 (.slice V2.xr V2.nr V2.cr) (.slice V2.xf V2.nf V2.cf) (.slice V2.xt V2.nt V2.ct) (.int .i64 b.lo) (.int .i64 b.al) (.slice V2.xk V2.nk V2.ck) (.int .i64 b.ka)).alloc (.cells #[.slice none 0 0, .slice none 0 0, .slice none 0 0, .int .i64 0, .int .i64 0, .slice none 0 0, .int .i64 0] 39)
  rw [World.size_alloc] at XB
  have R := Box7.new ((w.alloc (.cells #[.slice V1.xr V1.nr V1.cr, .slice V1.xf V1.nf V1.cf, .slice V1.xt V1.nt V1.ct, .int .i64 a.lo, .int .i64 a.al, .slice V1.xk V1.nk V1.ck, .int .i64 a.ka] 39)).alloc (.cells #[.slice V2.xr V2.nr V2.cr, .slice V2.xf V2.nf V2.cf, .slice V2.xt V2.nt V2.ct, .int .i64 b.lo, .int .i64 b.al, .slice V2.xk V2.nk V2.ck, .int .i64 b.ka] 39)) 39 (.slice none 0 0) (.slice none 0 0) (.slice none 0 0) (.int .i64 0) (.int .i64 0) (.slice none 0 0) (.int .i64 0)
  rw [World.size_alloc, World.size_alloc] at R
  obtain ⟨axa0, axa1, axa2, axa3, axa4, axa5, axa6⟩ := (XA).cells
  obtain ⟨W0, hW⟩ : ∃ W, W = ((w.alloc (.cells #[.slice V1.xr V1.nr V1.cr, .slice V1.xf V1.nf V1.cf, .slice V1.xt V1.nt V1.ct, .int .i64 a.lo, .int .i64 a.al, .slice V1.xk V1.nk V1.ck, .int .i64 a.ka] 39)).alloc (.cells #[.slice V2.xr V2.nr V2.cr, .slice V2.xf V2.nf V2.cf, .slice V2.xt V2.nt V2.ct, .int .i64 b.lo, .int .i64 b.al, .slice V2.xk V2.nk V2.ck, .int .i64 b.ka] 39)).alloc (.cells #[.slice none 0 0, .slice none 0 0, .slice none 0 0, .int .i64 0, .int .i64 0, .slice none 0 0, .int .i64 0] 39) := ⟨_, rfl⟩
  rw [← hW] at hA XA XB R
  have B := Lib.hid hA
  have H1 := Lib.hid h1
  have H2 := Lib.hid h2
  have SZ : Hid (W0.heap.size = w.heap.size + 3) := by show _ = _; rw [hW]; simp
  clear hA h1 h2
  have K1 := imSumOk_at W0 V1 a (H1.out.below B.out (Nat.le_refl _))
  rw [okA] at K1
  go_enter Tryz.func66, Tryz.ntmps66
  go_wp2_with fail
  rw [← hW]
  clear hW axa0 axa1 axa2 axa3 axa4 axa5 axa6
  refine (K1).mono ?_
  rintro e w1 ⟨rfl, hb⟩
  clear K1
  have SZ1 := Lib.hid hb.size
  replace XA := XA.later hb
  replace XB := XB.later hb
  replace R := R.later hb
  replace B := Lib.hid (B.out.trans (hb.mono B.out.size))
  clear hb
  obtain ⟨cxb0, cxb1, cxb2, cxb3, cxb4, cxb5, cxb6⟩ := (XB).cells
  have frr := R.free
  have K1 := imSumOk_at w1 V2 b (H2.out.below B.out (Nat.le_refl _))
  rw [okB'] at K1
  go_wp2_with fail
  refine (K1).mono ?_
  rintro e w2 ⟨rfl, hb⟩
  clear K1
  have SZ2 := Lib.hid (Nat.le_trans (Nat.le_of_eq SZ.out.symm) (Nat.le_trans SZ1.out hb.size))
  clear cxb0 cxb1 cxb2 cxb3 cxb4 cxb5 cxb6 frr
  replace XA := XA.later hb
  replace XB := XB.later hb
  replace R := R.later hb
  replace B := Lib.hid (B.out.trans (hb.mono B.out.size))
  clear hb
  obtain ⟨cxa0, cxa1, cxa2, cxa3, cxa4, cxa5, cxa6⟩ := (XA).cells
  obtain ⟨cxb0, cxb1, cxb2, cxb3, cxb4, cxb5, cxb6⟩ := (XB).cells
  have hA := B.out.alloc B.out.size (.cells #[.slice V1.xr V1.nr V1.cr, .slice V1.xf V1.nf V1.cf, .slice V1.xt V1.nt V1.ct, .int .i64 a.lo, .int .i64 a.al, .slice V1.xk V1.nk V1.ck, .int .i64 a.ka] 39)
  have X6 := Box7.new w2 39 (.slice V1.xr V1.nr V1.cr) (.slice V1.xf V1.nf V1.cf) (.slice V1.xt V1.nt V1.ct) (.int .i64 a.lo) (.int .i64 a.al) (.slice V1.xk V1.nk V1.ck) (.int .i64 a.ka)
  obtain ⟨W2, hW⟩ : ∃ W, W = w2.alloc (.cells #[.slice V1.xr V1.nr V1.cr, .slice V1.xf V1.nf V1.cf, .slice V1.xt V1.nt V1.ct, .int .i64 a.lo, .int .i64 a.al, .slice V1.xk V1.nk V1.ck, .int .i64 a.ka] 39) := ⟨_, rfl⟩
  have hsz := B.out.size
  have L6 := Lib.hid hsz
  have S6 := Lib.hid SZ2.out
  clear hsz
  replace XA := XA.alloc (.cells #[.slice V1.xr V1.nr V1.cr, .slice V1.xf V1.nf V1.cf, .slice V1.xt V1.nt V1.ct, .int .i64 a.lo, .int .i64 a.al, .slice V1.xk V1.nk V1.ck, .int .i64 a.ka] 39)
  replace XB := XB.alloc (.cells #[.slice V1.xr V1.nr V1.cr, .slice V1.xf V1.nf V1.cf, .slice V1.xt V1.nt V1.ct, .int .i64 a.lo, .int .i64 a.al, .slice V1.xk V1.nk V1.ck, .int .i64 a.ka] 39)
  replace R := R.alloc (.cells #[.slice V1.xr V1.nr V1.cr, .slice V1.xf V1.nf V1.cf, .slice V1.xt V1.nt V1.ct, .int .i64 a.lo, .int .i64 a.al, .slice V1.xk V1.nk V1.ck, .int .i64 a.ka] 39)
  obtain ⟨bxb0, bxb1, bxb2, bxb3, bxb4, bxb5, bxb6⟩ := (XB).cells
  rw [← hW] at hA X6 XA XB R
  replace B := Lib.hid hA
  clear hA
  have IW := fun w => index_way (wayR V2) (wayF V2) (wayT V2 b) (wayK V2 b) w
  unfold wayR wayF wayT wayK at IW
  have I1 := fun w => (IW w).1
  have I2 := fun w => (IW w).2.1
  have I3 := fun w => (IW w).2.2.1
  have I4 := fun w => (IW w).2.2.2
  clear IW
  have K1 := waysOf_at W2 V2 b
  unfold wayR wayF wayT wayK at K1
  go_wp2_with fail
  rw [← hW]
  clear hW bxb0 bxb1 bxb2 bxb3 bxb4 bxb5 bxb6
  clear cxa0 cxa1 cxa2 cxa3 cxa4 cxa5 cxa6 cxb0 cxb1 cxb2 cxb3 cxb4 cxb5 cxb6
  refine (K1).mono ?_
  rintro e w3 ⟨rfl, hb⟩
  clear K1
  replace XA := XA.later hb
  replace XB := XB.later hb
  replace R := R.later hb
  replace B := Lib.hid (B.out.trans (hb.mono B.out.size))
  replace X6 := X6.later hb
  clear hb
  obtain ⟨cx60, cx61, cx62, cx63, cx64, cx65, cx66⟩ := (X6).cells
  clear XB
  go_wp2
  refine wp_loop_rounds 5 ?_
  rw [rounds_succ]
  have K1 := imWithR_at w3 V1 a V2.xr V2.nr V2.cr b.rs (H1.out.below B.out (Nat.le_refl _)) (H2.out.below B.out (Nat.le_refl _)).r
  rw [hj] at K1
  go_wp2_with fail
  refine (K1).mono ?_
  rintro e w4 ⟨y, m, d, rfl, ho, hb⟩
  clear K1 ho
  clear XA
  clear X6
  clear cx60 cx61 cx62 cx63 cx64 cx65 cx66
  replace R := R.later hb
  replace B := Lib.hid (B.out.trans (hb.mono B.out.size))
  clear hb
  obtain ⟨W4, hW⟩ : ∃ W, W = (w4.alloc (.cells #[.slice y m d, .slice V1.xf V1.nf V1.cf, .slice V1.xt V1.nt V1.ct, .int .i64 a.lo, .int .i64 a.al, .slice V1.xk V1.nk V1.ck, .int .i64 a.ka] 39)) := ⟨_, rfl⟩
  obtain ⟨ar0, ar1, ar2, ar3, ar4, ar5, ar6⟩ := ((R.alloc (.cells #[.slice y m d, .slice V1.xf V1.nf V1.cf, .slice V1.xt V1.nt V1.ct, .int .i64 a.lo, .int .i64 a.al, .slice V1.xk V1.nk V1.ck, .int .i64 a.ka] 39))).cells
  have frr := (R.alloc (.cells #[.slice y m d, .slice V1.xf V1.nf V1.cf, .slice V1.xt V1.nt V1.ct, .int .i64 a.lo, .int .i64 a.al, .slice V1.xk V1.nk V1.ck, .int .i64 a.ka] 39)).free
  replace R := R.alloc (.cells #[.slice y m d, .slice V1.xf V1.nf V1.cf, .slice V1.xt V1.nt V1.ct, .int .i64 a.lo, .int .i64 a.al, .slice V1.xk V1.nk V1.ck, .int .i64 a.ka] 39)
  rw [← hW] at R
  replace B := Lib.hid ((B.out).alloc (Nat.le_trans B.out.size (by simp)) (.cells #[.slice y m d, .slice V1.xf V1.nf V1.cf, .slice V1.xt V1.nt V1.ct, .int .i64 a.lo, .int .i64 a.al, .slice V1.xk V1.nk V1.ck, .int .i64 a.ka] 39))
  rw [← hW] at B
  have X9 := Box7.new w4 39 (.slice y m d) (.slice V1.xf V1.nf V1.cf) (.slice V1.xt V1.nt V1.ct) (.int .i64 a.lo) (.int .i64 a.al) (.slice V1.xk V1.nk V1.ck) (.int .i64 a.ka)
  rw [← hW] at X9
  have fin := R.set (.slice none 0 0) (.slice none 0 0) (.slice none 0 0) (.int .i64 0) (.int .i64 0) (.slice none 0 0) (.int .i64 0)
  have OF := OwnS.box7 (OwnS.none _ _ _ B.out.size (Nat.le_refl _)) R (.slice none 0 0) (.slice none 0 0) (.slice none 0 0) (.int .i64 0) (.int .i64 0) (.slice none 0 0) (.int .i64 0)
  have BF := below_set7 B.out (show w.heap.size ≤ w.heap.size + 1 + 1 by omega) (.slice none 0 0) (.slice none 0 0) (.slice none 0 0) (.int .i64 0) (.int .i64 0) (.slice none 0 0) (.int .i64 0)
  have SF := set7_size W4 (w.heap.size + 1 + 1) (.slice none 0 0) (.slice none 0 0) (.slice none 0 0) (.int .i64 0) (.int .i64 0) (.slice none 0 0) (.int .i64 0)
  have HF := Lib.hid (And.intro (OwnS.base OF (Nat.le_refl _) (Nat.le_of_eq SF.symm) (Nat.le_refl _)) BF)
  have HY := Lib.hid fin
  clear fin OF BF SF
  go_wp2
  rw [← hW]
  clear hW ar0 ar1 ar2 ar3 ar4 ar5 ar6 frr
  show bodyPost _ _ _ _ _ (set7 W4 (w.heap.size + 1 + 1) (.slice none 0 0) (.slice none 0 0) (.slice none 0 0) (.int .i64 0) (.int .i64 0) (.slice none 0 0) (.int .i64 0))
  obtain ⟨d0, d1, d2, d3, d4, d5, d6⟩ := HY.out.cells
  generalize set7 W4 (w.heap.size + 1 + 1) (.slice none 0 0) (.slice none 0 0) (.slice none 0 0) (.int .i64 0) (.int .i64 0) (.slice none 0 0) (.int .i64 0) = WF at HF d0 d1 d2 d3 d4 d5 d6 ⊢
  refine bodyPost_ret (v := .tuple #[.agg #[.slice none 0 0, .slice none 0 0, .slice none 0 0, .int .i64 0, .int .i64 0, .slice none 0 0, .int .i64 0], .bool false]) (by simp [results, Tryz.results66, go_sem, d0, d1, d2, d3, d4, d5, d6]) rfl ?_
  rw [joinS_no hno, hno]
  exact ⟨SV.none, rfl, HF.out⟩

set_option maxRecDepth 100000 in
set_option maxHeartbeats 8000000 in
theorem imSumJoin_yes (w : World) (V1 V2 : SV) (a b : Sm) (h1 : RdS w V1 a) (h2 : RdS w V2 b) (hok : joinOkS a b = true) :
    Calls Tryz.prog 66 #[.agg #[.slice V1.xr V1.nr V1.cr, .slice V1.xf V1.nf V1.cf, .slice V1.xt V1.nt V1.ct, .int .i64 a.lo, .int .i64 a.al, .slice V1.xk V1.nk V1.ck, .int .i64 a.ka], .agg #[.slice V2.xr V2.nr V2.cr, .slice V2.xf V2.nf V2.cf, .slice V2.xt V2.nt V2.ct, .int .i64 b.lo, .int .i64 b.al, .slice V2.xk V2.nk V2.ck, .int .i64 b.ka]] w fun e w' => ∃ U, e = .returned (.tuple #[.agg #[.slice U.xr U.nr U.cr, .slice U.xf U.nf U.cf, .slice U.xt U.nt U.ct, .int .i64 (joinS a b).lo, .int .i64 (joinS a b).al, .slice U.xk U.nk U.ck, .int .i64 (joinS a b).ka], .bool (joinOkS a b)]) ∧ OwnS w' w.heap.size w'.heap.size U (joinS a b) ∧ Below w.heap.size w w' := by
  have okA := (okS_iff _).2 (joinAll hok).oka
  have okB' := (okS_iff _).2 (joinAll hok).okb
  have jr := (joinAll hok).r
  have jf := (joinAll hok).f
  have jt := (joinAll hok).t
  have jk := (joinAll hok).k
  have JA := Lib.hid (joinA_yes jr)
  have HOK := Lib.hid hok
  clear hok
  have hA := (((Below.refl w.heap.size w).alloc (Nat.le_refl _) (.cells #[.slice V1.xr V1.nr V1.cr, .slice V1.xf V1.nf V1.cf, .slice V1.xt V1.nt V1.ct, .int .i64 a.lo, .int .i64 a.al, .slice V1.xk V1.nk V1.ck, .int .i64 a.ka] 39)).alloc (by simp) (.cells #[.slice V2.xr V2.nr V2.cr, .slice V2.xf V2.nf V2.cf, .slice V2.xt V2.nt V2.ct, .int .i64 b.lo, .int .i64 b.al, .slice V2.xk V2.nk V2.ck, .int .i64 b.ka] 39)).alloc (by simp; omega) (.cells #[.slice none 0 0, .slice none 0 0, .slice none 0 0, .int .i64 0, .int .i64 0, .slice none 0 0, .int .i64 0] 39)
  have XA := ((Box7.new w 39 (.slice V1.xr V1.nr V1.cr) (.slice V1.xf V1.nf V1.cf) (.slice V1.xt V1.nt V1.ct) (.int .i64 a.lo) (.int .i64 a.al) (.slice V1.xk V1.nk V1.ck) (.int .i64 a.ka)).alloc (.cells #[.slice V2.xr V2.nr V2.cr, .slice V2.xf V2.nf V2.cf, .slice V2.xt V2.nt V2.ct, .int .i64 b.lo, .int .i64 b.al, .slice V2.xk V2.nk V2.ck, .int .i64 b.ka] 39)).alloc (.cells #[.slice none 0 0, .slice none 0 0, .slice none 0 0, .int .i64 0, .int .i64 0, .slice none 0 0, .int .i64 0] 39)
  have XB := (Box7.new (w.alloc (.cells #[.slice V1.xr V1.nr V1.cr, .slice V1.xf V1.nf V1.cf, .slice V1.xt V1.nt V1.ct, .int .i64 a.lo, .int .i64 a.al, .slice V1.xk V1.nk V1.ck, .int .i64 a.ka] 39)) 39 (.slice V2.xr V2.nr V2.cr) (.slice V2.xf V2.nf V2.cf) (.slice V2.xt V2.nt V2.ct) (.int .i64 b.lo) (.int .i64 b.al) (.slice V2.xk V2.nk V2.ck) (.int .i64 b.ka)).alloc (.cells #[.slice none 0 0, .slice none 0 0, .slice none 0 0, .int .i64 0, .int .i64 0, .slice none 0 0, .int .i64 0] 39)
  rw [World.size_alloc] at XB
  have R := Box7.new ((w.alloc (.cells #[.slice V1.xr V1.nr V1.cr, .slice V1.xf V1.nf V1.cf, .slice V1.xt V1.nt V1.ct, .int .i64 a.lo, .int .i64 a.al, .slice V1.xk V1.nk V1.ck, .int .i64 a.ka] 39)).alloc (.cells #[.slice V2.xr V2.nr V2.cr, .slice V2.xf V2.nf V2.cf, .slice V2.xt V2.nt V2.ct, .int .i64 b.lo, .int .i64 b.al, .slice V2.xk V2.nk V2.ck, .int .i64 b.ka] 39)) 39 (.slice none 0 0) (.slice none 0 0) (.slice none 0 0) (.int .i64 0) (.int .i64 0) (.slice none 0 0) (.int .i64 0)
  rw [World.size_alloc, World.size_alloc] at R
  obtain ⟨axa0, axa1, axa2, axa3, axa4, axa5, axa6⟩ := (XA).cells
  obtain ⟨W0, hW⟩ : ∃ W, W = ((w.alloc (.cells #[.slice V1.xr V1.nr V1.cr, .slice V1.xf V1.nf V1.cf, .slice V1.xt V1.nt V1.ct, .int .i64 a.lo, .int .i64 a.al, .slice V1.xk V1.nk V1.ck, .int .i64 a.ka] 39)).alloc (.cells #[.slice V2.xr V2.nr V2.cr, .slice V2.xf V2.nf V2.cf, .slice V2.xt V2.nt V2.ct, .int .i64 b.lo, .int .i64 b.al, .slice V2.xk V2.nk V2.ck, .int .i64 b.ka] 39)).alloc (.cells #[.slice none 0 0, .slice none 0 0, .slice none 0 0, .int .i64 0, .int .i64 0, .slice none 0 0, .int .i64 0] 39) := ⟨_, rfl⟩
  rw [← hW] at hA XA XB R
  have B := Lib.hid hA
  have H1 := Lib.hid h1
  have H2 := Lib.hid h2
  have SZ : Hid (W0.heap.size = w.heap.size + 3) := by show _ = _; rw [hW]; simp
  clear hA h1 h2
  have K1 := imSumOk_at W0 V1 a (H1.out.below B.out (Nat.le_refl _))
  rw [okA] at K1
  go_enter Tryz.func66, Tryz.ntmps66
  go_wp2_with fail
  rw [← hW]
  clear hW axa0 axa1 axa2 axa3 axa4 axa5 axa6
  refine (K1).mono ?_
  rintro e w1 ⟨rfl, hb⟩
  clear K1
  have SZ1 := Lib.hid hb.size
  replace XA := XA.later hb
  replace XB := XB.later hb
  replace R := R.later hb
  replace B := Lib.hid (B.out.trans (hb.mono B.out.size))
  clear hb
  obtain ⟨cxb0, cxb1, cxb2, cxb3, cxb4, cxb5, cxb6⟩ := (XB).cells
  have frr := R.free
  have K1 := imSumOk_at w1 V2 b (H2.out.below B.out (Nat.le_refl _))
  rw [okB'] at K1
  go_wp2_with fail
  refine (K1).mono ?_
  rintro e w2 ⟨rfl, hb⟩
  clear K1
  have SZ2 := Lib.hid (Nat.le_trans (Nat.le_of_eq SZ.out.symm) (Nat.le_trans SZ1.out hb.size))
  clear cxb0 cxb1 cxb2 cxb3 cxb4 cxb5 cxb6 frr
  replace XA := XA.later hb
  replace XB := XB.later hb
  replace R := R.later hb
  replace B := Lib.hid (B.out.trans (hb.mono B.out.size))
  clear hb
  obtain ⟨cxa0, cxa1, cxa2, cxa3, cxa4, cxa5, cxa6⟩ := (XA).cells
  obtain ⟨cxb0, cxb1, cxb2, cxb3, cxb4, cxb5, cxb6⟩ := (XB).cells
  have hA := B.out.alloc B.out.size (.cells #[.slice V1.xr V1.nr V1.cr, .slice V1.xf V1.nf V1.cf, .slice V1.xt V1.nt V1.ct, .int .i64 a.lo, .int .i64 a.al, .slice V1.xk V1.nk V1.ck, .int .i64 a.ka] 39)
  have X6 := Box7.new w2 39 (.slice V1.xr V1.nr V1.cr) (.slice V1.xf V1.nf V1.cf) (.slice V1.xt V1.nt V1.ct) (.int .i64 a.lo) (.int .i64 a.al) (.slice V1.xk V1.nk V1.ck) (.int .i64 a.ka)
  obtain ⟨W2, hW⟩ : ∃ W, W = w2.alloc (.cells #[.slice V1.xr V1.nr V1.cr, .slice V1.xf V1.nf V1.cf, .slice V1.xt V1.nt V1.ct, .int .i64 a.lo, .int .i64 a.al, .slice V1.xk V1.nk V1.ck, .int .i64 a.ka] 39) := ⟨_, rfl⟩
  have hsz := B.out.size
  have L6 := Lib.hid hsz
  have S6 := Lib.hid SZ2.out
  clear hsz
  replace XA := XA.alloc (.cells #[.slice V1.xr V1.nr V1.cr, .slice V1.xf V1.nf V1.cf, .slice V1.xt V1.nt V1.ct, .int .i64 a.lo, .int .i64 a.al, .slice V1.xk V1.nk V1.ck, .int .i64 a.ka] 39)
  replace XB := XB.alloc (.cells #[.slice V1.xr V1.nr V1.cr, .slice V1.xf V1.nf V1.cf, .slice V1.xt V1.nt V1.ct, .int .i64 a.lo, .int .i64 a.al, .slice V1.xk V1.nk V1.ck, .int .i64 a.ka] 39)
  replace R := R.alloc (.cells #[.slice V1.xr V1.nr V1.cr, .slice V1.xf V1.nf V1.cf, .slice V1.xt V1.nt V1.ct, .int .i64 a.lo, .int .i64 a.al, .slice V1.xk V1.nk V1.ck, .int .i64 a.ka] 39)
  obtain ⟨bxb0, bxb1, bxb2, bxb3, bxb4, bxb5, bxb6⟩ := (XB).cells
  rw [← hW] at hA X6 XA XB R
  replace B := Lib.hid hA
  clear hA
  have IW := fun w => index_way (wayR V2) (wayF V2) (wayT V2 b) (wayK V2 b) w
  unfold wayR wayF wayT wayK at IW
  have I1 := fun w => (IW w).1
  have I2 := fun w => (IW w).2.1
  have I3 := fun w => (IW w).2.2.1
  have I4 := fun w => (IW w).2.2.2
  clear IW
  have K1 := waysOf_at W2 V2 b
  unfold wayR wayF wayT wayK at K1
  go_wp2_with fail
  rw [← hW]
  clear hW bxb0 bxb1 bxb2 bxb3 bxb4 bxb5 bxb6
  clear cxa0 cxa1 cxa2 cxa3 cxa4 cxa5 cxa6 cxb0 cxb1 cxb2 cxb3 cxb4 cxb5 cxb6
  refine (K1).mono ?_
  rintro e w3 ⟨rfl, hb⟩
  clear K1
  replace XA := XA.later hb
  replace XB := XB.later hb
  replace R := R.later hb
  replace B := Lib.hid (B.out.trans (hb.mono B.out.size))
  replace X6 := X6.later hb
  clear hb
  obtain ⟨cx60, cx61, cx62, cx63, cx64, cx65, cx66⟩ := (X6).cells
  clear XB
  go_wp2
  refine wp_loop_rounds 5 ?_
  rw [rounds_succ]
  clear XA
  have Q := H1.out.below B.out (Nat.le_refl _)
  have K1 := imWithR_at w3 ⟨V1.xr, V1.nr, V1.cr, V1.xf, V1.nf, V1.cf, V1.xt, V1.nt, V1.ct, V1.xk, V1.nk, V1.ck⟩ ⟨a.rs, a.zs, a.ps, a.lo, a.al, a.ks, a.ka⟩ V2.xr V2.nr V2.cr b.rs ⟨Q.r, Q.f, Q.t, Q.k⟩ (H2.out.below B.out (Nat.le_refl _)).r
  simp only at K1
  rw [jr] at K1
  clear Q
  go_wp2_with fail
  refine (K1).mono ?_
  rintro e w4 ⟨y0, m0, d0', rfl, ho, hb⟩
  clear K1
  have M0 := Lib.hid B.out.size
  have N0 := Lib.hid hb.size
  have q6 := S6.out
  clear cx60 cx61 cx62 cx63 cx64 cx65 cx66
  replace R := R.later hb
  replace B := Lib.hid (B.out.trans (hb.mono B.out.size))
  replace X6 := X6.later hb
  have O0 := Lib.hid (ho)
  clear hb
  obtain ⟨W4, hW⟩ : ∃ W, W = (set7 (w4.alloc (.cells #[.slice y0 m0 d0', .slice V1.xf V1.nf V1.cf, .slice V1.xt V1.nt V1.ct, .int .i64 (a.lo), .int .i64 (a.al), .slice V1.xk V1.nk V1.ck, .int .i64 (a.ka)] 39)) w2.heap.size (.slice y0 m0 d0') (.slice V1.xf V1.nf V1.cf) (.slice V1.xt V1.nt V1.ct) (.int .i64 (a.lo)) (.int .i64 (a.al)) (.slice V1.xk V1.nk V1.ck) (.int .i64 (a.ka))) := ⟨_, rfl⟩
  obtain ⟨ax60, ax61, ax62, ax63, ax64, ax65, ax66⟩ := ((X6.alloc (.cells #[.slice y0 m0 d0', .slice V1.xf V1.nf V1.cf, .slice V1.xt V1.nt V1.ct, .int .i64 (a.lo), .int .i64 (a.al), .slice V1.xk V1.nk V1.ck, .int .i64 (a.ka)] 39))).cells
  have frx6 := (X6.alloc (.cells #[.slice y0 m0 d0', .slice V1.xf V1.nf V1.cf, .slice V1.xt V1.nt V1.ct, .int .i64 (a.lo), .int .i64 (a.al), .slice V1.xk V1.nk V1.ck, .int .i64 (a.ka)] 39)).free
  replace R := R.alloc (.cells #[.slice y0 m0 d0', .slice V1.xf V1.nf V1.cf, .slice V1.xt V1.nt V1.ct, .int .i64 (a.lo), .int .i64 (a.al), .slice V1.xk V1.nk V1.ck, .int .i64 (a.ka)] 39)
  replace B := Lib.hid ((B.out).alloc (Nat.le_trans B.out.size (by simp)) (.cells #[.slice y0 m0 d0', .slice V1.xf V1.nf V1.cf, .slice V1.xt V1.nt V1.ct, .int .i64 (a.lo), .int .i64 (a.al), .slice V1.xk V1.nk V1.ck, .int .i64 (a.ka)] 39))
  replace X6 := X6.alloc (.cells #[.slice y0 m0 d0', .slice V1.xf V1.nf V1.cf, .slice V1.xt V1.nt V1.ct, .int .i64 (a.lo), .int .i64 (a.al), .slice V1.xk V1.nk V1.ck, .int .i64 (a.ka)] 39)
  replace O0 := Lib.hid (O0.out.alloc (.cells #[.slice y0 m0 d0', .slice V1.xf V1.nf V1.cf, .slice V1.xt V1.nt V1.ct, .int .i64 (a.lo), .int .i64 (a.al), .slice V1.xk V1.nk V1.ck, .int .i64 (a.ka)] 39))
  replace R := R.kept (set7_grown _ w2.heap.size (.slice y0 m0 d0') (.slice V1.xf V1.nf V1.cf) (.slice V1.xt V1.nt V1.ct) (.int .i64 (a.lo)) (.int .i64 (a.al)) (.slice V1.xk V1.nk V1.ck) (.int .i64 (a.ka))) (by simp; omega)
  replace B := Lib.hid (below_set7 B.out L6.out (.slice y0 m0 d0') (.slice V1.xf V1.nf V1.cf) (.slice V1.xt V1.nt V1.ct) (.int .i64 (a.lo)) (.int .i64 (a.al)) (.slice V1.xk V1.nk V1.ck) (.int .i64 (a.ka)))
  replace O0 := Lib.hid (O0.out.box7 X6 (.slice y0 m0 d0') (.slice V1.xf V1.nf V1.cf) (.slice V1.xt V1.nt V1.ct) (.int .i64 (a.lo)) (.int .i64 (a.al)) (.slice V1.xk V1.nk V1.ck) (.int .i64 (a.ka)))
  replace X6 := X6.set (.slice y0 m0 d0') (.slice V1.xf V1.nf V1.cf) (.slice V1.xt V1.nt V1.ct) (.int .i64 (a.lo)) (.int .i64 (a.al)) (.slice V1.xk V1.nk V1.ck) (.int .i64 (a.ka))
  rw [← hW] at R
  rw [← hW] at B
  rw [← hW] at X6
  rw [← hW] at O0
  unfold set7 at hW
  go_wp2_with fail
  rw [← hW]
  clear hW ax60 ax61 ax62 ax63 ax64 ax65 ax66 frx6
  clear ho q6
  rw [rounds_succ]
  obtain ⟨cx60, cx61, cx62, cx63, cx64, cx65, cx66⟩ := (X6).cells
  have Q := H1.out.below B.out (Nat.le_refl _)
  have K1 := imWithF_at W4 ⟨y0, m0, d0', V1.xf, V1.nf, V1.cf, V1.xt, V1.nt, V1.ct, V1.xk, V1.nk, V1.ck⟩ ⟨joinA a.rs b.rs, a.zs, a.ps, a.lo, a.al, a.ks, a.ka⟩ V2.xf V2.nf V2.cf b.zs ⟨O0.out.rd, Q.f, Q.t, Q.k⟩ (H2.out.below B.out (Nat.le_refl _)).f
  simp only at K1
  rw [jf] at K1
  clear Q
  go_wp2_with fail
  refine (K1).mono ?_
  rintro e w5 ⟨y1, m1, d1', rfl, ho, hb⟩
  clear K1
  have M1 := Lib.hid B.out.size
  have N1 := Lib.hid hb.size
  have q6 := S6.out
  have T1 := Lib.hid (show w4.heap.size ≤ W4.heap.size from Nat.le_trans (O0.out.top) (Nat.le_refl _))
  clear cx60 cx61 cx62 cx63 cx64 cx65 cx66
  replace R := R.later hb
  replace B := Lib.hid (B.out.trans (hb.mono B.out.size))
  replace X6 := X6.later hb
  replace O0 := Lib.hid (O0.out.below hb)
  have O1 := Lib.hid (ho)
  clear hb
  obtain ⟨W5, hW⟩ : ∃ W, W = (set7 (w5.alloc (.cells #[.slice y0 m0 d0', .slice y1 m1 d1', .slice V1.xt V1.nt V1.ct, .int .i64 (a.lo), .int .i64 (a.al), .slice V1.xk V1.nk V1.ck, .int .i64 (a.ka)] 39)) w2.heap.size (.slice y0 m0 d0') (.slice y1 m1 d1') (.slice V1.xt V1.nt V1.ct) (.int .i64 (a.lo)) (.int .i64 (a.al)) (.slice V1.xk V1.nk V1.ck) (.int .i64 (a.ka))) := ⟨_, rfl⟩
  obtain ⟨ax60, ax61, ax62, ax63, ax64, ax65, ax66⟩ := ((X6.alloc (.cells #[.slice y0 m0 d0', .slice y1 m1 d1', .slice V1.xt V1.nt V1.ct, .int .i64 (a.lo), .int .i64 (a.al), .slice V1.xk V1.nk V1.ck, .int .i64 (a.ka)] 39))).cells
  have frx6 := (X6.alloc (.cells #[.slice y0 m0 d0', .slice y1 m1 d1', .slice V1.xt V1.nt V1.ct, .int .i64 (a.lo), .int .i64 (a.al), .slice V1.xk V1.nk V1.ck, .int .i64 (a.ka)] 39)).free
  replace R := R.alloc (.cells #[.slice y0 m0 d0', .slice y1 m1 d1', .slice V1.xt V1.nt V1.ct, .int .i64 (a.lo), .int .i64 (a.al), .slice V1.xk V1.nk V1.ck, .int .i64 (a.ka)] 39)
  replace B := Lib.hid ((B.out).alloc (Nat.le_trans B.out.size (by simp)) (.cells #[.slice y0 m0 d0', .slice y1 m1 d1', .slice V1.xt V1.nt V1.ct, .int .i64 (a.lo), .int .i64 (a.al), .slice V1.xk V1.nk V1.ck, .int .i64 (a.ka)] 39))
  replace X6 := X6.alloc (.cells #[.slice y0 m0 d0', .slice y1 m1 d1', .slice V1.xt V1.nt V1.ct, .int .i64 (a.lo), .int .i64 (a.al), .slice V1.xk V1.nk V1.ck, .int .i64 (a.ka)] 39)
  replace O0 := Lib.hid (O0.out.alloc (.cells #[.slice y0 m0 d0', .slice y1 m1 d1', .slice V1.xt V1.nt V1.ct, .int .i64 (a.lo), .int .i64 (a.al), .slice V1.xk V1.nk V1.ck, .int .i64 (a.ka)] 39))
  replace O1 := Lib.hid (O1.out.alloc (.cells #[.slice y0 m0 d0', .slice y1 m1 d1', .slice V1.xt V1.nt V1.ct, .int .i64 (a.lo), .int .i64 (a.al), .slice V1.xk V1.nk V1.ck, .int .i64 (a.ka)] 39))
  replace R := R.kept (set7_grown _ w2.heap.size (.slice y0 m0 d0') (.slice y1 m1 d1') (.slice V1.xt V1.nt V1.ct) (.int .i64 (a.lo)) (.int .i64 (a.al)) (.slice V1.xk V1.nk V1.ck) (.int .i64 (a.ka))) (by simp; omega)
  replace B := Lib.hid (below_set7 B.out L6.out (.slice y0 m0 d0') (.slice y1 m1 d1') (.slice V1.xt V1.nt V1.ct) (.int .i64 (a.lo)) (.int .i64 (a.al)) (.slice V1.xk V1.nk V1.ck) (.int .i64 (a.ka)))
  replace O0 := Lib.hid (O0.out.box7 X6 (.slice y0 m0 d0') (.slice y1 m1 d1') (.slice V1.xt V1.nt V1.ct) (.int .i64 (a.lo)) (.int .i64 (a.al)) (.slice V1.xk V1.nk V1.ck) (.int .i64 (a.ka)))
  replace O1 := Lib.hid (O1.out.box7 X6 (.slice y0 m0 d0') (.slice y1 m1 d1') (.slice V1.xt V1.nt V1.ct) (.int .i64 (a.lo)) (.int .i64 (a.al)) (.slice V1.xk V1.nk V1.ck) (.int .i64 (a.ka)))
  replace X6 := X6.set (.slice y0 m0 d0') (.slice y1 m1 d1') (.slice V1.xt V1.nt V1.ct) (.int .i64 (a.lo)) (.int .i64 (a.al)) (.slice V1.xk V1.nk V1.ck) (.int .i64 (a.ka))
  rw [← hW] at R
  rw [← hW] at B
  rw [← hW] at X6
  rw [← hW] at O0
  rw [← hW] at O1
  unfold set7 at hW
  go_wp2_with fail
  rw [← hW]
  clear hW ax60 ax61 ax62 ax63 ax64 ax65 ax66 frx6
  clear ho q6
  rw [rounds_succ]
  obtain ⟨cx60, cx61, cx62, cx63, cx64, cx65, cx66⟩ := (X6).cells
  have Q := H1.out.below B.out (Nat.le_refl _)
  have K1 := imWithT_at W5 ⟨y0, m0, d0', y1, m1, d1', V1.xt, V1.nt, V1.ct, V1.xk, V1.nk, V1.ck⟩ ⟨joinA a.rs b.rs, joinF a.zs b.zs, a.ps, a.lo, a.al, a.ks, a.ka⟩ V2.xt V2.nt V2.ct b.ps b.lo b.al ⟨O0.out.rd, O1.out.rd, Q.t, Q.k⟩ (H2.out.below B.out (Nat.le_refl _)).t
  simp only at K1
  rw [jt] at K1
  clear Q
  generalize hgjT : T.joinT a.ps a.lo a.al b.ps b.lo b.al = jT at K1
  have HGjT := Lib.hid hgjT
  clear hgjT
  go_wp2_with fail
  refine (K1).mono ?_
  rintro e w6 ⟨y2, m2, d2', rfl, ho, hb⟩
  clear K1
  have M2 := Lib.hid B.out.size
  have N2 := Lib.hid hb.size
  have q6 := S6.out
  clear cx60 cx61 cx62 cx63 cx64 cx65 cx66
  replace R := R.later hb
  replace B := Lib.hid (B.out.trans (hb.mono B.out.size))
  replace X6 := X6.later hb
  replace O0 := Lib.hid (O0.out.below hb)
  replace O1 := Lib.hid (O1.out.below hb)
  have O2 := Lib.hid (ho)
  clear hb
  obtain ⟨W6, hW⟩ : ∃ W, W = (set7 (w6.alloc (.cells #[.slice y0 m0 d0', .slice y1 m1 d1', .slice y2 m2 d2', .int .i64 (jT.2.1), .int .i64 (jT.2.2), .slice V1.xk V1.nk V1.ck, .int .i64 (a.ka)] 39)) w2.heap.size (.slice y0 m0 d0') (.slice y1 m1 d1') (.slice y2 m2 d2') (.int .i64 (jT.2.1)) (.int .i64 (jT.2.2)) (.slice V1.xk V1.nk V1.ck) (.int .i64 (a.ka))) := ⟨_, rfl⟩
  obtain ⟨ax60, ax61, ax62, ax63, ax64, ax65, ax66⟩ := ((X6.alloc (.cells #[.slice y0 m0 d0', .slice y1 m1 d1', .slice y2 m2 d2', .int .i64 (jT.2.1), .int .i64 (jT.2.2), .slice V1.xk V1.nk V1.ck, .int .i64 (a.ka)] 39))).cells
  have frx6 := (X6.alloc (.cells #[.slice y0 m0 d0', .slice y1 m1 d1', .slice y2 m2 d2', .int .i64 (jT.2.1), .int .i64 (jT.2.2), .slice V1.xk V1.nk V1.ck, .int .i64 (a.ka)] 39)).free
  replace R := R.alloc (.cells #[.slice y0 m0 d0', .slice y1 m1 d1', .slice y2 m2 d2', .int .i64 (jT.2.1), .int .i64 (jT.2.2), .slice V1.xk V1.nk V1.ck, .int .i64 (a.ka)] 39)
  replace B := Lib.hid ((B.out).alloc (Nat.le_trans B.out.size (by simp)) (.cells #[.slice y0 m0 d0', .slice y1 m1 d1', .slice y2 m2 d2', .int .i64 (jT.2.1), .int .i64 (jT.2.2), .slice V1.xk V1.nk V1.ck, .int .i64 (a.ka)] 39))
  replace X6 := X6.alloc (.cells #[.slice y0 m0 d0', .slice y1 m1 d1', .slice y2 m2 d2', .int .i64 (jT.2.1), .int .i64 (jT.2.2), .slice V1.xk V1.nk V1.ck, .int .i64 (a.ka)] 39)
  replace O0 := Lib.hid (O0.out.alloc (.cells #[.slice y0 m0 d0', .slice y1 m1 d1', .slice y2 m2 d2', .int .i64 (jT.2.1), .int .i64 (jT.2.2), .slice V1.xk V1.nk V1.ck, .int .i64 (a.ka)] 39))
  replace O1 := Lib.hid (O1.out.alloc (.cells #[.slice y0 m0 d0', .slice y1 m1 d1', .slice y2 m2 d2', .int .i64 (jT.2.1), .int .i64 (jT.2.2), .slice V1.xk V1.nk V1.ck, .int .i64 (a.ka)] 39))
  replace O2 := Lib.hid (O2.out.alloc (.cells #[.slice y0 m0 d0', .slice y1 m1 d1', .slice y2 m2 d2', .int .i64 (jT.2.1), .int .i64 (jT.2.2), .slice V1.xk V1.nk V1.ck, .int .i64 (a.ka)] 39))
  replace R := R.kept (set7_grown _ w2.heap.size (.slice y0 m0 d0') (.slice y1 m1 d1') (.slice y2 m2 d2') (.int .i64 (jT.2.1)) (.int .i64 (jT.2.2)) (.slice V1.xk V1.nk V1.ck) (.int .i64 (a.ka))) (by simp; omega)
  replace B := Lib.hid (below_set7 B.out L6.out (.slice y0 m0 d0') (.slice y1 m1 d1') (.slice y2 m2 d2') (.int .i64 (jT.2.1)) (.int .i64 (jT.2.2)) (.slice V1.xk V1.nk V1.ck) (.int .i64 (a.ka)))
  replace O0 := Lib.hid (O0.out.box7 X6 (.slice y0 m0 d0') (.slice y1 m1 d1') (.slice y2 m2 d2') (.int .i64 (jT.2.1)) (.int .i64 (jT.2.2)) (.slice V1.xk V1.nk V1.ck) (.int .i64 (a.ka)))
  replace O1 := Lib.hid (O1.out.box7 X6 (.slice y0 m0 d0') (.slice y1 m1 d1') (.slice y2 m2 d2') (.int .i64 (jT.2.1)) (.int .i64 (jT.2.2)) (.slice V1.xk V1.nk V1.ck) (.int .i64 (a.ka)))
  replace O2 := Lib.hid (O2.out.box7 X6 (.slice y0 m0 d0') (.slice y1 m1 d1') (.slice y2 m2 d2') (.int .i64 (jT.2.1)) (.int .i64 (jT.2.2)) (.slice V1.xk V1.nk V1.ck) (.int .i64 (a.ka)))
  replace X6 := X6.set (.slice y0 m0 d0') (.slice y1 m1 d1') (.slice y2 m2 d2') (.int .i64 (jT.2.1)) (.int .i64 (jT.2.2)) (.slice V1.xk V1.nk V1.ck) (.int .i64 (a.ka))
  rw [← hW] at R
  rw [← hW] at B
  rw [← hW] at X6
  rw [← hW] at O0
  rw [← hW] at O1
  rw [← hW] at O2
  unfold set7 at hW
  go_wp2_with fail
  rw [← hW]
  clear hW ax60 ax61 ax62 ax63 ax64 ax65 ax66 frx6
  clear ho q6
  rw [rounds_succ]
  obtain ⟨cx60, cx61, cx62, cx63, cx64, cx65, cx66⟩ := (X6).cells
  have Q := H1.out.below B.out (Nat.le_refl _)
  have K1 := imWithK_at W6 ⟨y0, m0, d0', y1, m1, d1', y2, m2, d2', V1.xk, V1.nk, V1.ck⟩ ⟨joinA a.rs b.rs, joinF a.zs b.zs, jT.1, jT.2.1, jT.2.2, a.ks, a.ka⟩ V2.xk V2.nk V2.ck b.ks b.ka ⟨O0.out.rd, O1.out.rd, O2.out.rd, Q.k⟩ (H2.out.below B.out (Nat.le_refl _)).k
  simp only at K1
  rw [jk] at K1
  clear Q
  generalize hgjK : K.joinK a.ks a.ka b.ks b.ka = jK at K1
  have HGjK := Lib.hid hgjK
  clear hgjK
  go_wp2_with fail
  refine (K1).mono ?_
  rintro e w7 ⟨y3, m3, d3', rfl, ho, hb⟩
  clear K1
  have M3 := Lib.hid B.out.size
  have N3 := Lib.hid hb.size
  have q6 := S6.out
  clear cx60 cx61 cx62 cx63 cx64 cx65 cx66
  replace R := R.later hb
  replace B := Lib.hid (B.out.trans (hb.mono B.out.size))
  replace X6 := X6.later hb
  replace O0 := Lib.hid (O0.out.below hb)
  replace O1 := Lib.hid (O1.out.below hb)
  replace O2 := Lib.hid (O2.out.below hb)
  have O3 := Lib.hid (ho)
  clear hb
  obtain ⟨W7, hW⟩ : ∃ W, W = (set7 (w7.alloc (.cells #[.slice y0 m0 d0', .slice y1 m1 d1', .slice y2 m2 d2', .int .i64 (jT.2.1), .int .i64 (jT.2.2), .slice y3 m3 d3', .int .i64 (jK.2)] 39)) w2.heap.size (.slice y0 m0 d0') (.slice y1 m1 d1') (.slice y2 m2 d2') (.int .i64 (jT.2.1)) (.int .i64 (jT.2.2)) (.slice y3 m3 d3') (.int .i64 (jK.2))) := ⟨_, rfl⟩
  obtain ⟨ax60, ax61, ax62, ax63, ax64, ax65, ax66⟩ := ((X6.alloc (.cells #[.slice y0 m0 d0', .slice y1 m1 d1', .slice y2 m2 d2', .int .i64 (jT.2.1), .int .i64 (jT.2.2), .slice y3 m3 d3', .int .i64 (jK.2)] 39))).cells
  have frx6 := (X6.alloc (.cells #[.slice y0 m0 d0', .slice y1 m1 d1', .slice y2 m2 d2', .int .i64 (jT.2.1), .int .i64 (jT.2.2), .slice y3 m3 d3', .int .i64 (jK.2)] 39)).free
  replace R := R.alloc (.cells #[.slice y0 m0 d0', .slice y1 m1 d1', .slice y2 m2 d2', .int .i64 (jT.2.1), .int .i64 (jT.2.2), .slice y3 m3 d3', .int .i64 (jK.2)] 39)
  replace B := Lib.hid ((B.out).alloc (Nat.le_trans B.out.size (by simp)) (.cells #[.slice y0 m0 d0', .slice y1 m1 d1', .slice y2 m2 d2', .int .i64 (jT.2.1), .int .i64 (jT.2.2), .slice y3 m3 d3', .int .i64 (jK.2)] 39))
  replace X6 := X6.alloc (.cells #[.slice y0 m0 d0', .slice y1 m1 d1', .slice y2 m2 d2', .int .i64 (jT.2.1), .int .i64 (jT.2.2), .slice y3 m3 d3', .int .i64 (jK.2)] 39)
  replace O0 := Lib.hid (O0.out.alloc (.cells #[.slice y0 m0 d0', .slice y1 m1 d1', .slice y2 m2 d2', .int .i64 (jT.2.1), .int .i64 (jT.2.2), .slice y3 m3 d3', .int .i64 (jK.2)] 39))
  replace O1 := Lib.hid (O1.out.alloc (.cells #[.slice y0 m0 d0', .slice y1 m1 d1', .slice y2 m2 d2', .int .i64 (jT.2.1), .int .i64 (jT.2.2), .slice y3 m3 d3', .int .i64 (jK.2)] 39))
  replace O2 := Lib.hid (O2.out.alloc (.cells #[.slice y0 m0 d0', .slice y1 m1 d1', .slice y2 m2 d2', .int .i64 (jT.2.1), .int .i64 (jT.2.2), .slice y3 m3 d3', .int .i64 (jK.2)] 39))
  replace O3 := Lib.hid (O3.out.alloc (.cells #[.slice y0 m0 d0', .slice y1 m1 d1', .slice y2 m2 d2', .int .i64 (jT.2.1), .int .i64 (jT.2.2), .slice y3 m3 d3', .int .i64 (jK.2)] 39))
  replace R := R.kept (set7_grown _ w2.heap.size (.slice y0 m0 d0') (.slice y1 m1 d1') (.slice y2 m2 d2') (.int .i64 (jT.2.1)) (.int .i64 (jT.2.2)) (.slice y3 m3 d3') (.int .i64 (jK.2))) (by simp; omega)
  replace B := Lib.hid (below_set7 B.out L6.out (.slice y0 m0 d0') (.slice y1 m1 d1') (.slice y2 m2 d2') (.int .i64 (jT.2.1)) (.int .i64 (jT.2.2)) (.slice y3 m3 d3') (.int .i64 (jK.2)))
  replace O0 := Lib.hid (O0.out.box7 X6 (.slice y0 m0 d0') (.slice y1 m1 d1') (.slice y2 m2 d2') (.int .i64 (jT.2.1)) (.int .i64 (jT.2.2)) (.slice y3 m3 d3') (.int .i64 (jK.2)))
  replace O1 := Lib.hid (O1.out.box7 X6 (.slice y0 m0 d0') (.slice y1 m1 d1') (.slice y2 m2 d2') (.int .i64 (jT.2.1)) (.int .i64 (jT.2.2)) (.slice y3 m3 d3') (.int .i64 (jK.2)))
  replace O2 := Lib.hid (O2.out.box7 X6 (.slice y0 m0 d0') (.slice y1 m1 d1') (.slice y2 m2 d2') (.int .i64 (jT.2.1)) (.int .i64 (jT.2.2)) (.slice y3 m3 d3') (.int .i64 (jK.2)))
  replace O3 := Lib.hid (O3.out.box7 X6 (.slice y0 m0 d0') (.slice y1 m1 d1') (.slice y2 m2 d2') (.int .i64 (jT.2.1)) (.int .i64 (jT.2.2)) (.slice y3 m3 d3') (.int .i64 (jK.2)))
  replace X6 := X6.set (.slice y0 m0 d0') (.slice y1 m1 d1') (.slice y2 m2 d2') (.int .i64 (jT.2.1)) (.int .i64 (jT.2.2)) (.slice y3 m3 d3') (.int .i64 (jK.2))
  rw [← hW] at R
  rw [← hW] at B
  rw [← hW] at X6
  rw [← hW] at O0
  rw [← hW] at O1
  rw [← hW] at O2
  rw [← hW] at O3
  unfold set7 at hW
  go_wp2_with fail
  rw [← hW]
  clear hW ax60 ax61 ax62 ax63 ax64 ax65 ax66 frx6
  clear ho q6
  rw [rounds_succ]
  obtain ⟨cx60, cx61, cx62, cx63, cx64, cx65, cx66⟩ := (X6).cells
  obtain ⟨cr0, cr1, cr2, cr3, cr4, cr5, cr6⟩ := (R).cells
  have frr := R.free
  have EJ := Lib.hid (show joinS a b = ⟨joinA a.rs b.rs, joinF a.zs b.zs, jT.1, jT.2.1, jT.2.2, jK.1, jK.2⟩ by rw [joinS_yes HOK.out, JA.out]; unfold joinS0; rw [HGjT.out, HGjK.out])
  have fin := R.set (.slice y0 m0 d0') (.slice y1 m1 d1') (.slice y2 m2 d2') (.int .i64 (jT.2.1)) (.int .i64 (jT.2.2)) (.slice y3 m3 d3') (.int .i64 (jK.2))
  have OF := OwnS.box7 (OwnS.make (V := ⟨y0, m0, d0', y1, m1, d1', y2, m2, d2', y3, m3, d3'⟩) (s := ⟨joinA a.rs b.rs, joinF a.zs b.zs, jT.1, jT.2.1, jT.2.2, jK.1, jK.2⟩) O0.out O1.out O2.out O3.out M0.out (Nat.le_trans M0.out N0.out) T1.out M2.out M3.out) R (.slice y0 m0 d0') (.slice y1 m1 d1') (.slice y2 m2 d2') (.int .i64 (jT.2.1)) (.int .i64 (jT.2.2)) (.slice y3 m3 d3') (.int .i64 (jK.2))
  have BF := below_set7 B.out (show w.heap.size ≤ w.heap.size + 1 + 1 by omega) (.slice y0 m0 d0') (.slice y1 m1 d1') (.slice y2 m2 d2') (.int .i64 (jT.2.1)) (.int .i64 (jT.2.2)) (.slice y3 m3 d3') (.int .i64 (jK.2))
  have SF := set7_size W7 (w.heap.size + 1 + 1) (.slice y0 m0 d0') (.slice y1 m1 d1') (.slice y2 m2 d2') (.int .i64 (jT.2.1)) (.int .i64 (jT.2.2)) (.slice y3 m3 d3') (.int .i64 (jK.2))
  have HF := Lib.hid (And.intro (OwnS.base OF (Nat.le_refl _) (Nat.le_of_eq SF.symm) (Nat.le_refl _)) BF)
  have HY := Lib.hid fin
  clear fin OF BF SF
  go_wp2
  show bodyPost _ _ _ _ _ (set7 W7 (w.heap.size + 1 + 1) (.slice y0 m0 d0') (.slice y1 m1 d1') (.slice y2 m2 d2') (.int .i64 (jT.2.1)) (.int .i64 (jT.2.2)) (.slice y3 m3 d3') (.int .i64 (jK.2)))
  obtain ⟨d0, d1, d2, d3, d4, d5, d6⟩ := HY.out.cells
  generalize set7 W7 (w.heap.size + 1 + 1) (.slice y0 m0 d0') (.slice y1 m1 d1') (.slice y2 m2 d2') (.int .i64 (jT.2.1)) (.int .i64 (jT.2.2)) (.slice y3 m3 d3') (.int .i64 (jK.2)) = WF at HF d0 d1 d2 d3 d4 d5 d6 ⊢
  refine bodyPost_ret (v := .tuple #[.agg #[.slice y0 m0 d0', .slice y1 m1 d1', .slice y2 m2 d2', .int .i64 (jT.2.1), .int .i64 (jT.2.2), .slice y3 m3 d3', .int .i64 (jK.2)], .bool true]) (by simp [results, Tryz.results66, go_sem, d0, d1, d2, d3, d4, d5, d6]) rfl ?_
  rw [EJ.out, HOK.out]
  exact ⟨⟨y0, m0, d0', y1, m1, d1', y2, m2, d2', y3, m3, d3'⟩, rfl, HF.out⟩

theorem imSumJoin_at (w : World) (V1 V2 : SV) (a b : Sm) (h1 : RdS w V1 a) (h2 : RdS w V2 b) :
    Calls Tryz.prog 66 #[.agg #[.slice V1.xr V1.nr V1.cr, .slice V1.xf V1.nf V1.cf, .slice V1.xt V1.nt V1.ct, .int .i64 a.lo, .int .i64 a.al, .slice V1.xk V1.nk V1.ck, .int .i64 a.ka], .agg #[.slice V2.xr V2.nr V2.cr, .slice V2.xf V2.nf V2.cf, .slice V2.xt V2.nt V2.ct, .int .i64 b.lo, .int .i64 b.al, .slice V2.xk V2.nk V2.ck, .int .i64 b.ka]] w fun e w' => ∃ U, e = .returned (.tuple #[.agg #[.slice U.xr U.nr U.cr, .slice U.xf U.nf U.cf, .slice U.xt U.nt U.ct, .int .i64 (joinS a b).lo, .int .i64 (joinS a b).al, .slice U.xk U.nk U.ck, .int .i64 (joinS a b).ka], .bool (joinOkS a b)]) ∧ OwnS w' w.heap.size w'.heap.size U (joinS a b) ∧ Below w.heap.size w w' := by
  cases okA : okS a with
  | false => exact imSumJoin_noA w V1 V2 a b h1 h2 okA
  | true =>
    cases okB : okS b with
    | false => exact imSumJoin_noB w V1 V2 a b h1 h2 okA okB
    | true =>
      by_cases hs : a.al + b.al ≤ 2000
      · exact imSumJoin_yes w V1 V2 a b h1 h2 ((joinOkS_iff a b).2 ⟨(okS_iff _).1 okA, (okS_iff _).1 okB, hs⟩)
      · exact imSumJoin_much w V1 V2 a b h1 h2 okA okB hs

end Go.Proofs.YtnoilafoeaknjaaGreat
