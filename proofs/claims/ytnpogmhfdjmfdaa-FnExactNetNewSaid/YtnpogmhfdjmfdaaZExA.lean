/-
  The exact laws' own functions over a sum: its size, a copy of it, and whether two are the same.
-/
import Derived.Test.YtnpogmhfdjmfdaaZOwn
import Derived.Test.YtnpogmhfdjmfdaaZSmall
import Derived.Test.YtnpogmhfdjmfdaaXb
import Derived.Test.YtnpogmhfdjmfdaaTf
import Derived.Test.YtnpogmhfdjmfdaaKg
set_option linter.unusedVariables false
namespace Go.Proofs.Ytnpogmhfdjmfdaa
open Go.RowKit Go.Sort

/-- The lists at V came in, and read as the sum s. -/
structure ArgS (w : World) (V : SV) (s : Sm) : Prop where
  r : ArgR w V.r s.rs
  f : ArgI w V.f s.zs
  t : T.ArgP w V.t s.ps
  k : K.ArgP w V.k s.ks
theorem ArgS.below {w w' : World} {V : SV} {s : Sm} (h : ArgS w V s) {B : Nat} (hb : Below B w w') (hB : w.heap.size ≤ B) : ArgS w' V s := ⟨h.r.below hb hB, h.f.below hb hB, h.t.below hb hB, h.k.below hb hB⟩
/-- How much there is in a sum. -/
def lenS (s : Sm) : Nat := (s.rs.length + ahead s.rs s.rs.length) + s.zs.length + s.ps.length + s.ks.length
structure LenS (s : Sm) : Prop where
  r : Lens s.rs
  f : s.zs.length ≤ 1048576
  t : s.ps.length ≤ 1048576
  k : s.ks.length ≤ 1048576
theorem LenS.arg {s : Sm} (h : lenS s ≤ 1048576) : LenS s := by
  unfold lenS at h
  exact ⟨Lens.arg (by omega), by omega, by omega, by omega⟩
theorem Small.lens {s : Sm} (h : Small s) : LenS s := ⟨Lens.small ⟨h.r.1, fun i hi => ⟨rfl, h.r.2 i hi⟩⟩, by have := h.f; omega, by have := h.t; omega, by have := h.k; omega⟩

set_option maxRecDepth 100000 in
set_option maxHeartbeats 4000000 in
theorem eqSum_at (w : World) (V1 V2 : SV) (s : Sm) (h1 : RdS w V1 s) (h2 : RdS w V2 s) (hn : LenS s) :
    Calls Try.prog 51 #[.agg #[.slice V1.xr V1.nr V1.cr, .slice V1.xf V1.nf V1.cf, .slice V1.xt V1.nt V1.ct, .int .i64 s.lo, .int .i64 s.al, .slice V1.xk V1.nk V1.ck, .int .i64 s.ka], .agg #[.slice V2.xr V2.nr V2.cr, .slice V2.xf V2.nf V2.cf, .slice V2.xt V2.nt V2.ct, .int .i64 s.lo, .int .i64 s.al, .slice V2.xk V2.nk V2.ck, .int .i64 s.ka]] w fun e w' => e = .returned (.bool true) ∧ Below w.heap.size w w' := by
  have hA := ((Below.refl w.heap.size w).alloc (Nat.le_refl _) (.cells #[.slice V1.xr V1.nr V1.cr, .slice V1.xf V1.nf V1.cf, .slice V1.xt V1.nt V1.ct, .int .i64 s.lo, .int .i64 s.al, .slice V1.xk V1.nk V1.ck, .int .i64 s.ka] 73)).alloc (by simp) (.cells #[.slice V2.xr V2.nr V2.cr, .slice V2.xf V2.nf V2.cf, .slice V2.xt V2.nt V2.ct, .int .i64 s.lo, .int .i64 s.al, .slice V2.xk V2.nk V2.ck, .int .i64 s.ka] 73)
  have XA := (Box7.new w 73 (.slice V1.xr V1.nr V1.cr) (.slice V1.xf V1.nf V1.cf) (.slice V1.xt V1.nt V1.ct) (.int .i64 s.lo) (.int .i64 s.al) (.slice V1.xk V1.nk V1.ck) (.int .i64 s.ka)).alloc (.cells #[.slice V2.xr V2.nr V2.cr, .slice V2.xf V2.nf V2.cf, .slice V2.xt V2.nt V2.ct, .int .i64 s.lo, .int .i64 s.al, .slice V2.xk V2.nk V2.ck, .int .i64 s.ka] 73)
  have XB := Box7.new (w.alloc (.cells #[.slice V1.xr V1.nr V1.cr, .slice V1.xf V1.nf V1.cf, .slice V1.xt V1.nt V1.ct, .int .i64 s.lo, .int .i64 s.al, .slice V1.xk V1.nk V1.ck, .int .i64 s.ka] 73)) 73 (.slice V2.xr V2.nr V2.cr) (.slice V2.xf V2.nf V2.cf) (.slice V2.xt V2.nt V2.ct) (.int .i64 s.lo) (.int .i64 s.al) (.slice V2.xk V2.nk V2.ck) (.int .i64 s.ka)
  rw [World.size_alloc] at XB
  obtain ⟨axa0, axa1, axa2, axa3, axa4, axa5, axa6⟩ := (XA).cells
  obtain ⟨axb0, axb1, axb2, axb3, axb4, axb5, axb6⟩ := (XB).cells
  obtain ⟨W0, hW⟩ : ∃ W, W = (w.alloc (.cells #[.slice V1.xr V1.nr V1.cr, .slice V1.xf V1.nf V1.cf, .slice V1.xt V1.nt V1.ct, .int .i64 s.lo, .int .i64 s.al, .slice V1.xk V1.nk V1.ck, .int .i64 s.ka] 73)).alloc (.cells #[.slice V2.xr V2.nr V2.cr, .slice V2.xf V2.nf V2.cf, .slice V2.xt V2.nt V2.ct, .int .i64 s.lo, .int .i64 s.al, .slice V2.xk V2.nk V2.ck, .int .i64 s.ka] 73) := ⟨_, rfl⟩
  rw [← hW] at hA XA XB
  have B := Lib.hid hA
  have H1 := Lib.hid h1
  have H2 := Lib.hid h2
  have LN := Lib.hid hn
  clear hA h1 h2 hn
  go_enter Try.func51, Try.ntmps51
  go_wp2_with fail
  rw [← hW]
  clear hW axa0 axa1 axa2 axa3 axa4 axa5 axa6 axb0 axb1 axb2 axb3 axb4 axb5 axb6
  have Q := (H1.out.below B.out (Nat.le_refl _))
  have Q2 := (H2.out.below B.out (Nat.le_refl _))
  have K1 := eqRough_at W0 (.slice V1.xr V1.nr V1.cr) (.slice V2.xr V2.nr V2.cr) s.rs s.rs Q.r Q2.r LN.out.r.lenM LN.out.r.rowM
  rw [show decide (s.rs = s.rs) = true from decide_eq_true rfl] at K1
  clear Q Q2
  refine (K1).mono ?_
  rintro e w1 ⟨rfl, hb⟩
  clear K1
  replace XA := XA.later hb
  replace XB := XB.later hb
  replace B := Lib.hid (B.out.trans (hb.mono B.out.size))
  clear hb
  obtain ⟨cxa0, cxa1, cxa2, cxa3, cxa4, cxa5, cxa6⟩ := (XA).cells
  obtain ⟨cxb0, cxb1, cxb2, cxb3, cxb4, cxb5, cxb6⟩ := (XB).cells
  have Q := (H1.out.below B.out (Nat.le_refl _))
  have Q2 := (H2.out.below B.out (Nat.le_refl _))
  have K1 := eqFew_at w1 (.slice V1.xf V1.nf V1.cf) (.slice V2.xf V2.nf V2.cf) s.zs s.zs Q.f Q2.f (by have := LN.out.f; unfold maxLen; omega)
  rw [show decide (s.zs = s.zs) = true from decide_eq_true rfl] at K1
  clear Q Q2
  go_wp2_with fail
  refine (K1).mono ?_
  rintro e w2 ⟨rfl, hb⟩
  clear K1
  clear cxa0 cxa1 cxa2 cxa3 cxa4 cxa5 cxa6 cxb0 cxb1 cxb2 cxb3 cxb4 cxb5 cxb6
  replace XA := XA.later hb
  replace XB := XB.later hb
  replace B := Lib.hid (B.out.trans (hb.mono B.out.size))
  clear hb
  obtain ⟨cxa0, cxa1, cxa2, cxa3, cxa4, cxa5, cxa6⟩ := (XA).cells
  obtain ⟨cxb0, cxb1, cxb2, cxb3, cxb4, cxb5, cxb6⟩ := (XB).cells
  have Q := (H1.out.below B.out (Nat.le_refl _))
  have Q2 := (H2.out.below B.out (Nat.le_refl _))
  have K1 := T.eqTop_same w2 (.slice V1.xt V1.nt V1.ct) (.slice V2.xt V2.nt V2.ct) s.ps s.lo s.al Q.t Q2.t LN.out.t
  skip
  clear Q Q2
  go_wp2_with fail
  refine (K1).mono ?_
  rintro e w3 ⟨rfl, hb⟩
  clear K1
  clear cxa0 cxa1 cxa2 cxa3 cxa4 cxa5 cxa6 cxb0 cxb1 cxb2 cxb3 cxb4 cxb5 cxb6
  replace XA := XA.later hb
  replace XB := XB.later hb
  replace B := Lib.hid (B.out.trans (hb.mono B.out.size))
  clear hb
  obtain ⟨cxa0, cxa1, cxa2, cxa3, cxa4, cxa5, cxa6⟩ := (XA).cells
  obtain ⟨cxb0, cxb1, cxb2, cxb3, cxb4, cxb5, cxb6⟩ := (XB).cells
  have Q := (H1.out.below B.out (Nat.le_refl _))
  have Q2 := (H2.out.below B.out (Nat.le_refl _))
  have K1 := K.eqRank_same w3 (.slice V1.xk V1.nk V1.ck) (.slice V2.xk V2.nk V2.ck) s.ks s.ka Q.k Q2.k LN.out.k
  skip
  clear Q Q2
  go_wp2_with fail
  refine (K1).mono ?_
  rintro e w4 ⟨rfl, hb⟩
  clear K1
  clear cxa0 cxa1 cxa2 cxa3 cxa4 cxa5 cxa6 cxb0 cxb1 cxb2 cxb3 cxb4 cxb5 cxb6
  replace XA := XA.later hb
  replace XB := XB.later hb
  replace B := Lib.hid (B.out.trans (hb.mono B.out.size))
  clear hb
  go_wp2
  go_ret
  exact ⟨rfl, B.out⟩

end Go.Proofs.Ytnpogmhfdjmfdaa
