/-
  One thing more, of the program.
-/
import Derived.Test.YtnoilafoeaknjaaGreatZImJoin
import Derived.Deep.RegionWith
set_option linter.unusedVariables false
namespace Go.Proofs.YtnoilafoeaknjaaGreat
open Go.RowKit Go.Sort

set_option maxRecDepth 100000 in
set_option maxHeartbeats 8000000 in
theorem imSumAdd_at (w : World) (V : SV) (s : Sm) (t : Int) (h1 : RdS w V s) :
    Calls Tryz.prog 52 #[.agg #[.slice V.xr V.nr V.cr, .slice V.xf V.nf V.cf, .slice V.xt V.nt V.ct, .int .i64 s.lo, .int .i64 s.al, .slice V.xk V.nk V.ck, .int .i64 s.ka], .int .i64 t] w fun e w' => ∃ U, e = .returned (.tuple #[.agg #[.slice U.xr U.nr U.cr, .slice U.xf U.nf U.cf, .slice U.xt U.nt U.ct, .int .i64 (addS s t).lo, .int .i64 (addS s t).al, .slice U.xk U.nk U.ck, .int .i64 (addS s t).ka], .bool (addOkS s t)]) ∧ OwnS w' w.heap.size w'.heap.size U (addS s t) ∧ Below w.heap.size w w' := by
  have hA := ((Below.refl w.heap.size w).alloc (Nat.le_refl _) (.cells #[.slice V.xr V.nr V.cr, .slice V.xf V.nf V.cf, .slice V.xt V.nt V.ct, .int .i64 s.lo, .int .i64 s.al, .slice V.xk V.nk V.ck, .int .i64 s.ka] 39)).alloc (by simp) (.cells #[.slice none 0 0, .slice none 0 0, .slice none 0 0, .int .i64 0, .int .i64 0, .slice none 0 0, .int .i64 0] 39)
  have XA := (Box7.new w 39 (.slice V.xr V.nr V.cr) (.slice V.xf V.nf V.cf) (.slice V.xt V.nt V.ct) (.int .i64 s.lo) (.int .i64 s.al) (.slice V.xk V.nk V.ck) (.int .i64 s.ka)).alloc (.cells #[.slice none 0 0, .slice none 0 0, .slice none 0 0, .int .i64 0, .int .i64 0, .slice none 0 0, .int .i64 0] 39)
  have R := Box7.new (w.alloc (.cells #[.slice V.xr V.nr V.cr, .slice V.xf V.nf V.cf, .slice V.xt V.nt V.ct, .int .i64 s.lo, .int .i64 s.al, .slice V.xk V.nk V.ck, .int .i64 s.ka] 39)) 39 (.slice none 0 0) (.slice none 0 0) (.slice none 0 0) (.int .i64 0) (.int .i64 0) (.slice none 0 0) (.int .i64 0)
  rw [World.size_alloc] at R
  obtain ⟨axa0, axa1, axa2, axa3, axa4, axa5, axa6⟩ := (XA).cells
  obtain ⟨W0, hW⟩ : ∃ W, W = (w.alloc (.cells #[.slice V.xr V.nr V.cr, .slice V.xf V.nf V.cf, .slice V.xt V.nt V.ct, .int .i64 s.lo, .int .i64 s.al, .slice V.xk V.nk V.ck, .int .i64 s.ka] 39)).alloc (.cells #[.slice none 0 0, .slice none 0 0, .slice none 0 0, .int .i64 0, .int .i64 0, .slice none 0 0, .int .i64 0] 39) := ⟨_, rfl⟩
  rw [← hW] at hA XA R
  have B := Lib.hid hA
  have H1 := Lib.hid h1
  have SZ := Lib.hid hA.size
  clear hA h1
  have K1 : Hid (Calls Tryz.prog 107 #[.int .i64 t] W0.drew fun e w' => ∃ V, e = .returned (.agg #[.slice V.xr V.nr V.cr, .slice V.xf V.nf V.cf, .slice V.xt V.nt V.ct, .int .i64 (oneS t).lo, .int .i64 (oneS t).al, .slice V.xk V.nk V.ck, .int .i64 (oneS t).ka]) ∧ OwnS w' W0.drew.heap.size w'.heap.size V (oneS t) ∧ Below W0.drew.heap.size W0.drew w') := Lib.hid (imOne_at W0.drew t)
  generalize hso : oneS t = so at K1
  have J1 : joinS s so = addS s t := by rw [← hso]; exact joinS_one s t
  have J2 : joinOkS s so = addOkS s t := by rw [← hso]; exact join_oneOk s t
  clear hso
  have KJ : Hid (∀ (W : World) (V2 : SV), RdS W V s → RdS W V2 so → Calls Tryz.prog 66 #[.agg #[.slice V.xr V.nr V.cr, .slice V.xf V.nf V.cf, .slice V.xt V.nt V.ct, .int .i64 s.lo, .int .i64 s.al, .slice V.xk V.nk V.ck, .int .i64 s.ka], .agg #[.slice V2.xr V2.nr V2.cr, .slice V2.xf V2.nf V2.cf, .slice V2.xt V2.nt V2.ct, .int .i64 so.lo, .int .i64 so.al, .slice V2.xk V2.nk V2.ck, .int .i64 so.ka]] W fun e w' => ∃ U, e = .returned (.tuple #[.agg #[.slice U.xr U.nr U.cr, .slice U.xf U.nf U.cf, .slice U.xt U.nt U.ct, .int .i64 (addS s t).lo, .int .i64 (addS s t).al, .slice U.xk U.nk U.ck, .int .i64 (addS s t).ka], .bool (addOkS s t)]) ∧ OwnS w' W.heap.size w'.heap.size U (addS s t) ∧ Below W.heap.size W w') := Lib.hid fun W V2 p q => by
    have h := imSumJoin_at W V V2 s so p q
    rw [J1, J2] at h
    exact h
  clear J1 J2
  generalize addS s t = r at KJ ⊢
  generalize addOkS s t = ok at KJ ⊢
  go_enter Tryz.func52, Tryz.ntmps52
  go_wp2_with fail
  rw [← hW]
  clear hW axa0 axa1 axa2 axa3 axa4 axa5 axa6
  obtain ⟨cxa0, cxa1, cxa2, cxa3, cxa4, cxa5, cxa6⟩ := (XA).cells
  go_wp2
  go_region_with (first
    | (go_at_call 107; refine K1.out.mono ?_; rintro e w1 ⟨V2, rfl, ho, hb⟩; have XA1 := XA.drew.later hb; obtain ⟨e0, e1, e2, e3, e4, e5, e6⟩ := XA1.cells; have HO := Lib.hid ho; have HB := Lib.hid hb; clear ho hb)
    | (go_at_call 66; refine (KJ.out w1 V2 ((H1.out.below B.out (Nat.le_refl _)).below (Below.trans (Below.drew (Below.refl _ W0)) HB.out) (Nat.le_refl _)) HO.out.rd).mono ?_; rintro e w2 ⟨U, rfl, hu, hb⟩; have R2 := (R.drew.later HB.out).later hb; obtain ⟨r0, r1, r2, r3, r4, r5, r6⟩ := R2.cells; have fr := R2.free; have HU := Lib.hid hu; have HB2 := Lib.hid hb; clear hu hb))
  all_goals
    replace B := Lib.hid (B.out.trans ((Below.trans (Below.drew (Below.refl _ W0)) (HB.out.trans (HB2.out.mono HB.out.size))).mono B.out.size))
    have fin := R2.set (.slice U.xr U.nr U.cr) (.slice U.xf U.nf U.cf) (.slice U.xt U.nt U.ct) (.int .i64 r.lo) (.int .i64 r.al) (.slice U.xk U.nk U.ck) (.int .i64 r.ka)
    have OF := OwnS.box7 (HU.out.base (B' := w.heap.size) (Nat.le_trans (Nat.le_trans (show w.heap.size ≤ W0.heap.size from SZ.out) HB.out.size) (Nat.le_refl _)) (Nat.le_refl _) (Nat.le_refl _)) R2 (.slice U.xr U.nr U.cr) (.slice U.xf U.nf U.cf) (.slice U.xt U.nt U.ct) (.int .i64 r.lo) (.int .i64 r.al) (.slice U.xk U.nk U.ck) (.int .i64 r.ka)
    have BF := below_set7 B.out (Nat.le_add_right w.heap.size 1) (.slice U.xr U.nr U.cr) (.slice U.xf U.nf U.cf) (.slice U.xt U.nt U.ct) (.int .i64 r.lo) (.int .i64 r.al) (.slice U.xk U.nk U.ck) (.int .i64 r.ka)
    have SF := set7_size w2 (w.heap.size + 1) (.slice U.xr U.nr U.cr) (.slice U.xf U.nf U.cf) (.slice U.xt U.nt U.ct) (.int .i64 r.lo) (.int .i64 r.al) (.slice U.xk U.nk U.ck) (.int .i64 r.ka)
    have HF := Lib.hid (And.intro (OwnS.base OF (Nat.le_refl _) (Nat.le_of_eq SF.symm) (Nat.le_refl _)) BF)
    have HY := Lib.hid fin
    clear fin OF BF SF
    go_wp2
    show bodyPost _ _ _ _ _ (set7 w2 (w.heap.size + 1) (.slice U.xr U.nr U.cr) (.slice U.xf U.nf U.cf) (.slice U.xt U.nt U.ct) (.int .i64 r.lo) (.int .i64 r.al) (.slice U.xk U.nk U.ck) (.int .i64 r.ka))
    obtain ⟨d0, d1, d2, d3, d4, d5, d6⟩ := HY.out.cells
    generalize set7 w2 (w.heap.size + 1) (.slice U.xr U.nr U.cr) (.slice U.xf U.nf U.cf) (.slice U.xt U.nt U.ct) (.int .i64 r.lo) (.int .i64 r.al) (.slice U.xk U.nk U.ck) (.int .i64 r.ka) = WF at HF d0 d1 d2 d3 d4 d5 d6 ⊢
    refine bodyPost_ret (v := .tuple #[.agg #[.slice U.xr U.nr U.cr, .slice U.xf U.nf U.cf, .slice U.xt U.nt U.ct, .int .i64 r.lo, .int .i64 r.al, .slice U.xk U.nk U.ck, .int .i64 r.ka], .bool ok]) (by simp [results, Tryz.results52, go_sem, d0, d1, d2, d3, d4, d5, d6]) rfl ?_
    exact ⟨U, rfl, HF.out⟩

end Go.Proofs.YtnoilafoeaknjaaGreat
