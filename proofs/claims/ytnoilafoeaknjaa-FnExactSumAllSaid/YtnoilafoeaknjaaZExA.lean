/-
  The exact laws' own functions over a sum: its size, a copy of it, and whether two are the same.
-/
import Derived.Test.YtnoilafoeaknjaaZOwn
import Derived.Test.YtnoilafoeaknjaaZSmall
import Derived.Test.YtnoilafoeaknjaaXb
import Derived.Test.YtnoilafoeaknjaaTf
import Derived.Test.YtnoilafoeaknjaaKg
set_option linter.unusedVariables false
namespace Go.Proofs.Ytnoilafoeaknjaa
open Go.RowKit Go.Sort

/-- The lists at V came in, and read as the sum s. -/
structure ArgS (w : World) (V : SV) (s : Sm) : Prop where
  r : ArgR w V.r s.rs
  f : ArgI w V.f s.zs
  t : T.ArgP w V.t s.ps
  k : K.ArgP w V.k s.ks
theorem ArgS.below {w w' : World} {V : SV} {s : Sm} (h : ArgS w V s) {B : Nat} (hb : Below B w w') (hB : w.heap.size ≤ B) : ArgS w' V s := ⟨h.r.below hb hB, h.f.below hb hB, h.t.below hb hB, h.k.below hb hB⟩
/-- How much there is in a sum. -/
def lenS (s : Sm) : Nat := (s.rs.length + ahead s.rs s.rs.length) + s.zs.length + s.ps.length + s.ks.length
structure LenS (s : Sm) : Prop where
  r : Lens s.rs
  f : s.zs.length ≤ 1048576
  t : s.ps.length ≤ 1048576
  k : s.ks.length ≤ 1048576
theorem LenS.arg {s : Sm} (h : lenS s ≤ 1048576) : LenS s := by
  unfold lenS at h
  exact ⟨Lens.arg (by omega), by omega, by omega, by omega⟩
theorem Small.lens {s : Sm} (h : Small s) : LenS s := ⟨Lens.small ⟨h.r.1, fun i hi => ⟨rfl, h.r.2 i hi⟩⟩, by have := h.f; omega, by have := h.t; omega, by have := h.k; omega⟩

set_option maxRecDepth 100000 in
set_option maxHeartbeats 4000000 in
theorem szSum_at (w : World) (V : SV) (s : Sm) (left : Int) (h1 : ArgS w V s) (l0 : 0 ≤ left) (l1 : left ≤ 1048576) :
    Calls Try.prog 31 #[.agg #[.slice V.xr V.nr V.cr, .slice V.xf V.nf V.cf, .slice V.xt V.nt V.ct, .int .i64 s.lo, .int .i64 s.al, .slice V.xk V.nk V.ck, .int .i64 s.ka], .int .i64 left] w fun e w' => e = .returned (.int .i64 (if left < (lenS s : Int) then -1 else left - (lenS s : Int))) ∧ Below w.heap.size w w' := by
  obtain ⟨n1, e1⟩ : ∃ n, n = s.rs.length + ahead s.rs s.rs.length := ⟨_, rfl⟩
  obtain ⟨n2, e2⟩ : ∃ n, n = s.zs.length := ⟨_, rfl⟩
  obtain ⟨n3, e3⟩ : ∃ n, n = s.ps.length := ⟨_, rfl⟩
  obtain ⟨n4, e4⟩ : ∃ n, n = s.ks.length := ⟨_, rfl⟩
  have L : lenS s = n1 + n2 + n3 + n4 := by rw [e1, e2, e3, e4]; rfl
  rw [L]
  clear L
  have E1 := Lib.hid e1
  have E2 := Lib.hid e2
  have E3 := Lib.hid e3
  have E4 := Lib.hid e4
  clear e1 e2 e3 e4
  have hA := (Below.refl w.heap.size w).alloc (Nat.le_refl _) (.cells #[.slice V.xr V.nr V.cr, .slice V.xf V.nf V.cf, .slice V.xt V.nt V.ct, .int .i64 s.lo, .int .i64 s.al, .slice V.xk V.nk V.ck, .int .i64 s.ka] 66)
  have X := Box7.new w 66 (.slice V.xr V.nr V.cr) (.slice V.xf V.nf V.cf) (.slice V.xt V.nt V.ct) (.int .i64 s.lo) (.int .i64 s.al) (.slice V.xk V.nk V.ck) (.int .i64 s.ka)
  obtain ⟨ax0, ax1, ax2, ax3, ax4, ax5, ax6⟩ := (X).cells
  obtain ⟨W0, hW⟩ : ∃ W, W = w.alloc (.cells #[.slice V.xr V.nr V.cr, .slice V.xf V.nf V.cf, .slice V.xt V.nt V.ct, .int .i64 s.lo, .int .i64 s.al, .slice V.xk V.nk V.ck, .int .i64 s.ka] 66) := ⟨_, rfl⟩
  rw [← hW] at hA X
  have B := Lib.hid hA
  have H1 := Lib.hid h1
  clear hA h1
  go_enter Try.func31, Try.ntmps31
  go_wp2_with fail
  rw [← hW]
  clear hW ax0 ax1 ax2 ax3 ax4 ax5 ax6
  have K1 := szRough_at W0 (.slice V.xr V.nr V.cr) s.rs (left) (H1.out.below B.out (Nat.le_refl _)).r (by omega) (by omega)
  rw [← E1.out] at K1
  by_cases c1 : (left : Int) < (n1 : Int)
  · rw [szV_out c1] at K1
    refine (K1).mono ?_
    rintro e w1 ⟨rfl, hb⟩
    replace X := X.later hb
    replace B := Lib.hid (B.out.trans (hb.mono B.out.size))
    clear hb
    go_wp2
    go_ret
    exact ⟨by first | rfl | exact congrArg (fun z => Ending.returned (Value.int .i64 z)) (if_pos (show left < ((n1 + n2 + n3 + n4 : Nat) : Int) by omega)).symm, B.out⟩
  rw [szV_in (by omega)] at K1
  have nz1 : ¬ (left : Int) - (n1 : Int) < 0 := by omega
  refine (K1).mono ?_
  rintro e w1 ⟨rfl, hb⟩
  clear K1 c1
  replace X := X.later hb
  replace B := Lib.hid (B.out.trans (hb.mono B.out.size))
  clear hb
  obtain ⟨cx0, cx1, cx2, cx3, cx4, cx5, cx6⟩ := (X).cells
  have K1 := szFew_at w1 (.slice V.xf V.nf V.cf) s.zs (left - (n1 : Int)) (H1.out.below B.out (Nat.le_refl _)).f (by omega) (by omega)
  rw [← E2.out] at K1
  by_cases c2 : (left - (n1 : Int) : Int) < (n2 : Int)
  · rw [szV_out c2] at K1
    go_wp2_with fail
    refine (K1).mono ?_
    rintro e w2 ⟨rfl, hb⟩
    clear cx0 cx1 cx2 cx3 cx4 cx5 cx6
    replace X := X.later hb
    replace B := Lib.hid (B.out.trans (hb.mono B.out.size))
    clear hb
    go_wp2
    go_ret
    exact ⟨by first | rfl | exact congrArg (fun z => Ending.returned (Value.int .i64 z)) (if_pos (show left < ((n1 + n2 + n3 + n4 : Nat) : Int) by omega)).symm, B.out⟩
  rw [szV_in (by omega)] at K1
  have nz2 : ¬ (left - (n1 : Int) : Int) - (n2 : Int) < 0 := by omega
  go_wp2_with fail
  refine (K1).mono ?_
  rintro e w2 ⟨rfl, hb⟩
  clear K1 c2
  clear cx0 cx1 cx2 cx3 cx4 cx5 cx6
  replace X := X.later hb
  replace B := Lib.hid (B.out.trans (hb.mono B.out.size))
  clear hb
  obtain ⟨cx0, cx1, cx2, cx3, cx4, cx5, cx6⟩ := (X).cells
  have K1 := T.szTop_at w2 (.slice V.xt V.nt V.ct) s.ps s.lo s.al (left - (n1 : Int) - (n2 : Int)) (H1.out.below B.out (Nat.le_refl _)).t (by omega) (by omega)
  rw [← E3.out] at K1
  by_cases c3 : (left - (n1 : Int) - (n2 : Int) : Int) < (n3 : Int)
  · rw [T.szV_out c3] at K1
    go_wp2_with fail
    refine (K1).mono ?_
    rintro e w3 ⟨rfl, hb⟩
    clear cx0 cx1 cx2 cx3 cx4 cx5 cx6
    replace X := X.later hb
    replace B := Lib.hid (B.out.trans (hb.mono B.out.size))
    clear hb
    go_wp2
    go_ret
    exact ⟨by first | rfl | exact congrArg (fun z => Ending.returned (Value.int .i64 z)) (if_pos (show left < ((n1 + n2 + n3 + n4 : Nat) : Int) by omega)).symm, B.out⟩
  rw [T.szV_in (by omega)] at K1
  have nz3 : ¬ (left - (n1 : Int) - (n2 : Int) : Int) - (n3 : Int) < 0 := by omega
  go_wp2_with fail
  refine (K1).mono ?_
  rintro e w3 ⟨rfl, hb⟩
  clear K1 c3
  clear cx0 cx1 cx2 cx3 cx4 cx5 cx6
  replace X := X.later hb
  replace B := Lib.hid (B.out.trans (hb.mono B.out.size))
  clear hb
  obtain ⟨cx0, cx1, cx2, cx3, cx4, cx5, cx6⟩ := (X).cells
  have K1 := K.szRank_at w3 (.slice V.xk V.nk V.ck) s.ks s.ka (left - (n1 : Int) - (n2 : Int) - (n3 : Int)) (H1.out.below B.out (Nat.le_refl _)).k (by omega) (by omega)
  rw [← E4.out] at K1
  by_cases c4 : (left - (n1 : Int) - (n2 : Int) - (n3 : Int) : Int) < (n4 : Int)
  · rw [K.szV_out c4] at K1
    go_wp2_with fail
    refine (K1).mono ?_
    rintro e w4 ⟨rfl, hb⟩
    clear cx0 cx1 cx2 cx3 cx4 cx5 cx6
    replace X := X.later hb
    replace B := Lib.hid (B.out.trans (hb.mono B.out.size))
    clear hb
    go_wp2
    go_ret
    exact ⟨by first | rfl | exact congrArg (fun z => Ending.returned (Value.int .i64 z)) (if_pos (show left < ((n1 + n2 + n3 + n4 : Nat) : Int) by omega)).symm, B.out⟩
  rw [K.szV_in (by omega)] at K1
  have nz4 : ¬ (left - (n1 : Int) - (n2 : Int) - (n3 : Int) : Int) - (n4 : Int) < 0 := by omega
  go_wp2_with fail
  refine (K1).mono ?_
  rintro e w4 ⟨rfl, hb⟩
  clear K1 c4
  clear cx0 cx1 cx2 cx3 cx4 cx5 cx6
  replace X := X.later hb
  replace B := Lib.hid (B.out.trans (hb.mono B.out.size))
  clear hb
  go_wp2
  go_ret
  exact ⟨by first | rfl | exact congrArg (fun z => Ending.returned (Value.int .i64 z)) (by omega) | exact congrArg (fun z => Ending.returned (Value.int .i64 z)) (show left - (n1 : Int) - (n2 : Int) - (n3 : Int) - (n4 : Int) = if left < ((n1 + n2 + n3 + n4 : Nat) : Int) then -1 else left - ((n1 + n2 + n3 + n4 : Nat) : Int) by rw [if_neg (by omega)]; omega), B.out⟩

set_option maxRecDepth 100000 in
set_option maxHeartbeats 8000000 in
theorem toSum_at (w : World) (V : SV) (s : Sm) (h1 : ArgS w V s) (hn : LenS s) :
    Calls Try.prog 32 #[.agg #[.slice V.xr V.nr V.cr, .slice V.xf V.nf V.cf, .slice V.xt V.nt V.ct, .int .i64 s.lo, .int .i64 s.al, .slice V.xk V.nk V.ck, .int .i64 s.ka]] w fun e w' => ∃ U, e = .returned (.agg #[.slice U.xr U.nr U.cr, .slice U.xf U.nf U.cf, .slice U.xt U.nt U.ct, .int .i64 s.lo, .int .i64 s.al, .slice U.xk U.nk U.ck, .int .i64 s.ka]) ∧ OwnS w' w.heap.size w'.heap.size U s ∧ Below w.heap.size w w' := by
  have hA := (((Below.refl w.heap.size w).alloc (Nat.le_refl _) (.cells #[.slice V.xr V.nr V.cr, .slice V.xf V.nf V.cf, .slice V.xt V.nt V.ct, .int .i64 s.lo, .int .i64 s.al, .slice V.xk V.nk V.ck, .int .i64 s.ka] 66)).alloc (by simp) (.cells #[.slice none 0 0, .slice none 0 0, .slice none 0 0, .int .i64 0, .int .i64 0, .slice none 0 0, .int .i64 0] 36)).alloc (by simp; omega) (.cells #[.slice none 0 0, .slice none 0 0, .slice none 0 0, .int .i64 0, .int .i64 0, .slice none 0 0, .int .i64 0] 36)
  have XA := ((Box7.new w 66 (.slice V.xr V.nr V.cr) (.slice V.xf V.nf V.cf) (.slice V.xt V.nt V.ct) (.int .i64 s.lo) (.int .i64 s.al) (.slice V.xk V.nk V.ck) (.int .i64 s.ka)).alloc (.cells #[.slice none 0 0, .slice none 0 0, .slice none 0 0, .int .i64 0, .int .i64 0, .slice none 0 0, .int .i64 0] 36)).alloc (.cells #[.slice none 0 0, .slice none 0 0, .slice none 0 0, .int .i64 0, .int .i64 0, .slice none 0 0, .int .i64 0] 36)
  have R := (Box7.new (w.alloc (.cells #[.slice V.xr V.nr V.cr, .slice V.xf V.nf V.cf, .slice V.xt V.nt V.ct, .int .i64 s.lo, .int .i64 s.al, .slice V.xk V.nk V.ck, .int .i64 s.ka] 66)) 36 (.slice none 0 0) (.slice none 0 0) (.slice none 0 0) (.int .i64 0) (.int .i64 0) (.slice none 0 0) (.int .i64 0)).alloc (.cells #[.slice none 0 0, .slice none 0 0, .slice none 0 0, .int .i64 0, .int .i64 0, .slice none 0 0, .int .i64 0] 36)
  rw [World.size_alloc] at R
  have X6 := Box7.new ((w.alloc (.cells #[.slice V.xr V.nr V.cr, .slice V.xf V.nf V.cf, .slice V.xt V.nt V.ct, .int .i64 s.lo, .int .i64 s.al, .slice V.xk V.nk V.ck, .int .i64 s.ka] 66)).alloc (.cells #[.slice none 0 0, .slice none 0 0, .slice none 0 0, .int .i64 0, .int .i64 0, .slice none 0 0, .int .i64 0] 36)) 36 (.slice none 0 0) (.slice none 0 0) (.slice none 0 0) (.int .i64 0) (.int .i64 0) (.slice none 0 0) (.int .i64 0)
  rw [World.size_alloc, World.size_alloc] at X6
  obtain ⟨axa0, axa1, axa2, axa3, axa4, axa5, axa6⟩ := (XA).cells
  obtain ⟨b6, hb6⟩ : ∃ b, b = w.heap.size + 1 + 1 := ⟨_, rfl⟩
  rw [← hb6] at X6
  have L6 : w.heap.size + 1 < b6 := by omega
  obtain ⟨W0, hW⟩ : ∃ W, W = ((w.alloc (.cells #[.slice V.xr V.nr V.cr, .slice V.xf V.nf V.cf, .slice V.xt V.nt V.ct, .int .i64 s.lo, .int .i64 s.al, .slice V.xk V.nk V.ck, .int .i64 s.ka] 66)).alloc (.cells #[.slice none 0 0, .slice none 0 0, .slice none 0 0, .int .i64 0, .int .i64 0, .slice none 0 0, .int .i64 0] 36)).alloc (.cells #[.slice none 0 0, .slice none 0 0, .slice none 0 0, .int .i64 0, .int .i64 0, .slice none 0 0, .int .i64 0] 36) := ⟨_, rfl⟩
  rw [← hW] at hA XA R X6
  have B := Lib.hid hA
  have H1 := Lib.hid h1
  have LN := Lib.hid hn
  clear hA h1 hn
  go_enter Try.func32, Try.ntmps32
  go_wp2_with fail
  rw [← hW, ← hb6]
  clear hW hb6 axa0 axa1 axa2 axa3 axa4 axa5 axa6
  have Q := (H1.out.below B.out (Nat.le_refl _))
  have K1 := toRough_own W0 (.slice V.xr V.nr V.cr) s.rs Q.r LN.out.r.len LN.out.r.row
  clear Q
  refine (K1).mono ?_
  rintro e w1 ⟨g0, rfl, ho, hb⟩
  obtain ⟨m0, hm⟩ : ∃ m, m = (s.rs).length := ⟨_, rfl⟩
  rw [← hm] at ho ⊢
  clear hm K1
  have M0 := Lib.hid B.out.size
  have N0 := Lib.hid hb.size
  replace XA := XA.later hb
  replace R := R.later hb
  replace X6 := X6.later hb
  replace B := Lib.hid (B.out.trans (hb.mono B.out.size))
  have O0 := Lib.hid (ho)
  clear hb
  obtain ⟨W1, hW⟩ : ∃ W, W = (w1.setCell ⟨b6, 0, none⟩ (.slice (some ⟨g0, 0, none⟩) m0 m0)) := ⟨_, rfl⟩
  obtain ⟨ax60, ax61, ax62, ax63, ax64, ax65, ax66⟩ := (X6).cells
  have frx6 := X6.free
  replace B := Lib.hid (B.out)
  replace XA := XA.kept (grownBy_setCell _ ⟨b6, 0, none⟩ (.slice (some ⟨g0, 0, none⟩) m0 m0)) (by simp; omega)
  replace R := R.kept (grownBy_setCell _ ⟨b6, 0, none⟩ (.slice (some ⟨g0, 0, none⟩) m0 m0)) (by simp; omega)
  replace B := Lib.hid (B.out.setCell (p := ⟨b6, 0, none⟩) (show w.heap.size ≤ b6 by omega) (.slice (some ⟨g0, 0, none⟩) m0 m0))
  replace O0 := Lib.hid (O0.out.cell7 X6 0 (.slice (some ⟨g0, 0, none⟩) m0 m0))
  replace X6 := X6.set0 (.slice (some ⟨g0, 0, none⟩) m0 m0)
  obtain ⟨bxa0, bxa1, bxa2, bxa3, bxa4, bxa5, bxa6⟩ := (XA).cells
  rw [← hW] at XA
  rw [← hW] at R
  rw [← hW] at X6
  rw [← hW] at B
  rw [← hW] at O0
  go_wp2_with fail
  rw [← hW]
  clear hW ax60 ax61 ax62 ax63 ax64 ax65 ax66 frx6 bxa0 bxa1 bxa2 bxa3 bxa4 bxa5 bxa6
  clear ho
  have Q := (H1.out.below B.out (Nat.le_refl _))
  have K1 := toFew_at W1 (.slice V.xf V.nf V.cf) s.zs Q.f LN.out.f
  clear Q
  go_wp2_with fail
  refine (K1).mono ?_
  rintro e w2 ⟨g1, rfl, ho, hb⟩
  obtain ⟨m1, hm⟩ : ∃ m, m = (s.zs).length := ⟨_, rfl⟩
  rw [← hm] at ho ⊢
  clear hm K1
  have M1 := Lib.hid B.out.size
  have T1 := Lib.hid O0.out.top
  replace XA := XA.later hb
  replace R := R.later hb
  replace X6 := X6.later hb
  replace B := Lib.hid (B.out.trans (hb.mono B.out.size))
  replace O0 := Lib.hid (O0.out.below hb)
  have O1 := Lib.hid (ho)
  clear hb
  obtain ⟨W2, hW⟩ : ∃ W, W = (w2.setCell ⟨b6, 1, none⟩ (.slice (some ⟨g1, 0, none⟩) m1 m1)) := ⟨_, rfl⟩
  obtain ⟨ax60, ax61, ax62, ax63, ax64, ax65, ax66⟩ := (X6).cells
  have frx6 := X6.free
  replace B := Lib.hid (B.out)
  replace XA := XA.kept (grownBy_setCell _ ⟨b6, 1, none⟩ (.slice (some ⟨g1, 0, none⟩) m1 m1)) (by simp; omega)
  replace R := R.kept (grownBy_setCell _ ⟨b6, 1, none⟩ (.slice (some ⟨g1, 0, none⟩) m1 m1)) (by simp; omega)
  replace B := Lib.hid (B.out.setCell (p := ⟨b6, 1, none⟩) (show w.heap.size ≤ b6 by omega) (.slice (some ⟨g1, 0, none⟩) m1 m1))
  replace O0 := Lib.hid (O0.out.cell7 X6 1 (.slice (some ⟨g1, 0, none⟩) m1 m1))
  replace O1 := Lib.hid (O1.out.cell7 X6 1 (.slice (some ⟨g1, 0, none⟩) m1 m1))
  replace X6 := X6.set1 (.slice (some ⟨g1, 0, none⟩) m1 m1)
  obtain ⟨bxa0, bxa1, bxa2, bxa3, bxa4, bxa5, bxa6⟩ := (XA).cells
  rw [← hW] at XA
  rw [← hW] at R
  rw [← hW] at X6
  rw [← hW] at B
  rw [← hW] at O0
  rw [← hW] at O1
  go_wp2_with fail
  rw [← hW]
  clear hW ax60 ax61 ax62 ax63 ax64 ax65 ax66 frx6 bxa0 bxa1 bxa2 bxa3 bxa4 bxa5 bxa6
  clear ho
  have Q := (H1.out.below B.out (Nat.le_refl _))
  have K1 := T.toTop_at W2 (.slice V.xt V.nt V.ct) s.ps s.lo s.al Q.t LN.out.t
  clear Q
  go_wp2_with fail
  refine (K1).mono ?_
  rintro e w3 ⟨g2, rfl, ho, hb⟩
  obtain ⟨m2, hm⟩ : ∃ m, m = (s.ps).length := ⟨_, rfl⟩
  rw [← hm] at ho ⊢
  clear hm K1
  have M2 := Lib.hid B.out.size
  replace XA := XA.later hb
  replace R := R.later hb
  replace X6 := X6.later hb
  replace B := Lib.hid (B.out.trans (hb.mono B.out.size))
  replace O0 := Lib.hid (O0.out.below hb)
  replace O1 := Lib.hid (O1.out.below hb)
  have O2 := Lib.hid (ho)
  clear hb
  obtain ⟨W3, hW⟩ : ∃ W, W = (((w3.setCell ⟨b6, 2, none⟩ (.slice (some ⟨g2, 0, none⟩) m2 m2)).setCell ⟨b6, 3, none⟩ (.int .i64 s.lo)).setCell ⟨b6, 4, none⟩ (.int .i64 s.al)) := ⟨_, rfl⟩
  obtain ⟨ax60, ax61, ax62, ax63, ax64, ax65, ax66⟩ := (X6).cells
  have frx6 := X6.free
  replace B := Lib.hid (B.out)
  replace XA := XA.kept (grownBy_setCell _ ⟨b6, 2, none⟩ (.slice (some ⟨g2, 0, none⟩) m2 m2)) (by simp; omega)
  replace R := R.kept (grownBy_setCell _ ⟨b6, 2, none⟩ (.slice (some ⟨g2, 0, none⟩) m2 m2)) (by simp; omega)
  replace B := Lib.hid (B.out.setCell (p := ⟨b6, 2, none⟩) (show w.heap.size ≤ b6 by omega) (.slice (some ⟨g2, 0, none⟩) m2 m2))
  replace O0 := Lib.hid (O0.out.cell7 X6 2 (.slice (some ⟨g2, 0, none⟩) m2 m2))
  replace O1 := Lib.hid (O1.out.cell7 X6 2 (.slice (some ⟨g2, 0, none⟩) m2 m2))
  replace O2 := Lib.hid (O2.out.cell7 X6 2 (.slice (some ⟨g2, 0, none⟩) m2 m2))
  replace X6 := X6.set2 (.slice (some ⟨g2, 0, none⟩) m2 m2)
  replace XA := XA.kept (grownBy_setCell _ ⟨b6, 3, none⟩ (.int .i64 s.lo)) (by simp; omega)
  replace R := R.kept (grownBy_setCell _ ⟨b6, 3, none⟩ (.int .i64 s.lo)) (by simp; omega)
  replace B := Lib.hid (B.out.setCell (p := ⟨b6, 3, none⟩) (show w.heap.size ≤ b6 by omega) (.int .i64 s.lo))
  replace O0 := Lib.hid (O0.out.cell7 X6 3 (.int .i64 s.lo))
  replace O1 := Lib.hid (O1.out.cell7 X6 3 (.int .i64 s.lo))
  replace O2 := Lib.hid (O2.out.cell7 X6 3 (.int .i64 s.lo))
  replace X6 := X6.set3 (.int .i64 s.lo)
  replace XA := XA.kept (grownBy_setCell _ ⟨b6, 4, none⟩ (.int .i64 s.al)) (by simp; omega)
  replace R := R.kept (grownBy_setCell _ ⟨b6, 4, none⟩ (.int .i64 s.al)) (by simp; omega)
  replace B := Lib.hid (B.out.setCell (p := ⟨b6, 4, none⟩) (show w.heap.size ≤ b6 by omega) (.int .i64 s.al))
  replace O0 := Lib.hid (O0.out.cell7 X6 4 (.int .i64 s.al))
  replace O1 := Lib.hid (O1.out.cell7 X6 4 (.int .i64 s.al))
  replace O2 := Lib.hid (O2.out.cell7 X6 4 (.int .i64 s.al))
  replace X6 := X6.set4 (.int .i64 s.al)
  obtain ⟨bxa0, bxa1, bxa2, bxa3, bxa4, bxa5, bxa6⟩ := (XA).cells
  rw [← hW] at XA
  rw [← hW] at R
  rw [← hW] at X6
  rw [← hW] at B
  rw [← hW] at O0
  rw [← hW] at O1
  rw [← hW] at O2
  go_wp2_with fail
  rw [← hW]
  clear hW ax60 ax61 ax62 ax63 ax64 ax65 ax66 frx6 bxa0 bxa1 bxa2 bxa3 bxa4 bxa5 bxa6
  clear ho
  have Q := (H1.out.below B.out (Nat.le_refl _))
  have K1 := K.toRank_at W3 (.slice V.xk V.nk V.ck) s.ks s.ka Q.k LN.out.k
  clear Q
  go_wp2_with fail
  refine (K1).mono ?_
  rintro e w4 ⟨g3, rfl, ho, hb⟩
  obtain ⟨m3, hm⟩ : ∃ m, m = (s.ks).length := ⟨_, rfl⟩
  rw [← hm] at ho ⊢
  clear hm K1
  have M3 := Lib.hid B.out.size
  replace XA := XA.later hb
  replace R := R.later hb
  replace X6 := X6.later hb
  replace B := Lib.hid (B.out.trans (hb.mono B.out.size))
  replace O0 := Lib.hid (O0.out.below hb)
  replace O1 := Lib.hid (O1.out.below hb)
  replace O2 := Lib.hid (O2.out.below hb)
  have O3 := Lib.hid (ho)
  clear hb
  obtain ⟨W4, hW⟩ : ∃ W, W = ((w4.setCell ⟨b6, 5, none⟩ (.slice (some ⟨g3, 0, none⟩) m3 m3)).setCell ⟨b6, 6, none⟩ (.int .i64 s.ka)) := ⟨_, rfl⟩
  obtain ⟨ax60, ax61, ax62, ax63, ax64, ax65, ax66⟩ := (X6).cells
  have frx6 := X6.free
  replace B := Lib.hid (B.out)
  replace XA := XA.kept (grownBy_setCell _ ⟨b6, 5, none⟩ (.slice (some ⟨g3, 0, none⟩) m3 m3)) (by simp; omega)
  replace R := R.kept (grownBy_setCell _ ⟨b6, 5, none⟩ (.slice (some ⟨g3, 0, none⟩) m3 m3)) (by simp; omega)
  replace B := Lib.hid (B.out.setCell (p := ⟨b6, 5, none⟩) (show w.heap.size ≤ b6 by omega) (.slice (some ⟨g3, 0, none⟩) m3 m3))
  replace O0 := Lib.hid (O0.out.cell7 X6 5 (.slice (some ⟨g3, 0, none⟩) m3 m3))
  replace O1 := Lib.hid (O1.out.cell7 X6 5 (.slice (some ⟨g3, 0, none⟩) m3 m3))
  replace O2 := Lib.hid (O2.out.cell7 X6 5 (.slice (some ⟨g3, 0, none⟩) m3 m3))
  replace O3 := Lib.hid (O3.out.cell7 X6 5 (.slice (some ⟨g3, 0, none⟩) m3 m3))
  replace X6 := X6.set5 (.slice (some ⟨g3, 0, none⟩) m3 m3)
  replace XA := XA.kept (grownBy_setCell _ ⟨b6, 6, none⟩ (.int .i64 s.ka)) (by simp; omega)
  replace R := R.kept (grownBy_setCell _ ⟨b6, 6, none⟩ (.int .i64 s.ka)) (by simp; omega)
  replace B := Lib.hid (B.out.setCell (p := ⟨b6, 6, none⟩) (show w.heap.size ≤ b6 by omega) (.int .i64 s.ka))
  replace O0 := Lib.hid (O0.out.cell7 X6 6 (.int .i64 s.ka))
  replace O1 := Lib.hid (O1.out.cell7 X6 6 (.int .i64 s.ka))
  replace O2 := Lib.hid (O2.out.cell7 X6 6 (.int .i64 s.ka))
  replace O3 := Lib.hid (O3.out.cell7 X6 6 (.int .i64 s.ka))
  replace X6 := X6.set6 (.int .i64 s.ka)
  obtain ⟨bx60, bx61, bx62, bx63, bx64, bx65, bx66⟩ := (X6).cells
  obtain ⟨br0, br1, br2, br3, br4, br5, br6⟩ := (R).cells
  have fbr := R.free
  rw [← hW] at XA
  rw [← hW] at R
  rw [← hW] at X6
  rw [← hW] at B
  rw [← hW] at O0
  rw [← hW] at O1
  rw [← hW] at O2
  rw [← hW] at O3
  clear ho
  have fin := R.set (.slice (some ⟨g0, 0, none⟩) m0 m0) (.slice (some ⟨g1, 0, none⟩) m1 m1) (.slice (some ⟨g2, 0, none⟩) m2 m2) (.int .i64 s.lo) (.int .i64 s.al) (.slice (some ⟨g3, 0, none⟩) m3 m3) (.int .i64 s.ka)
  have OF := OwnS.box7 (OwnS.make (V := ⟨some ⟨g0, 0, none⟩, m0, m0, some ⟨g1, 0, none⟩, m1, m1, some ⟨g2, 0, none⟩, m2, m2, some ⟨g3, 0, none⟩, m3, m3⟩) (s := s) O0.out O1.out O2.out O3.out M0.out (Nat.le_trans M0.out N0.out) T1.out M2.out M3.out) R (.slice (some ⟨g0, 0, none⟩) m0 m0) (.slice (some ⟨g1, 0, none⟩) m1 m1) (.slice (some ⟨g2, 0, none⟩) m2 m2) (.int .i64 s.lo) (.int .i64 s.al) (.slice (some ⟨g3, 0, none⟩) m3 m3) (.int .i64 s.ka)
  have BF := below_set7 B.out (Nat.le_add_right w.heap.size 1) (.slice (some ⟨g0, 0, none⟩) m0 m0) (.slice (some ⟨g1, 0, none⟩) m1 m1) (.slice (some ⟨g2, 0, none⟩) m2 m2) (.int .i64 s.lo) (.int .i64 s.al) (.slice (some ⟨g3, 0, none⟩) m3 m3) (.int .i64 s.ka)
  have SF := set7_size W4 (w.heap.size + 1) (.slice (some ⟨g0, 0, none⟩) m0 m0) (.slice (some ⟨g1, 0, none⟩) m1 m1) (.slice (some ⟨g2, 0, none⟩) m2 m2) (.int .i64 s.lo) (.int .i64 s.al) (.slice (some ⟨g3, 0, none⟩) m3 m3) (.int .i64 s.ka)
  have HF := Lib.hid (And.intro (OwnS.base OF (Nat.le_refl _) (Nat.le_of_eq SF.symm) (Nat.le_refl _)) BF)
  have HY := Lib.hid fin
  clear fin OF BF SF
  go_wp2
  rw [← hW]
  clear hW ax60 ax61 ax62 ax63 ax64 ax65 ax66 frx6 bx60 bx61 bx62 bx63 bx64 bx65 bx66 br0 br1 br2 br3 br4 br5 br6 fbr
  show bodyPost _ _ _ _ _ (set7 W4 (w.heap.size + 1) (.slice (some ⟨g0, 0, none⟩) m0 m0) (.slice (some ⟨g1, 0, none⟩) m1 m1) (.slice (some ⟨g2, 0, none⟩) m2 m2) (.int .i64 s.lo) (.int .i64 s.al) (.slice (some ⟨g3, 0, none⟩) m3 m3) (.int .i64 s.ka))
  obtain ⟨d0, d1, d2, d3, d4, d5, d6⟩ := HY.out.cells
  generalize set7 W4 (w.heap.size + 1) (.slice (some ⟨g0, 0, none⟩) m0 m0) (.slice (some ⟨g1, 0, none⟩) m1 m1) (.slice (some ⟨g2, 0, none⟩) m2 m2) (.int .i64 s.lo) (.int .i64 s.al) (.slice (some ⟨g3, 0, none⟩) m3 m3) (.int .i64 s.ka) = WF at HF d0 d1 d2 d3 d4 d5 d6 ⊢
  refine bodyPost_ret (v := .agg #[.slice (some ⟨g0, 0, none⟩) m0 m0, .slice (some ⟨g1, 0, none⟩) m1 m1, .slice (some ⟨g2, 0, none⟩) m2 m2, .int .i64 s.lo, .int .i64 s.al, .slice (some ⟨g3, 0, none⟩) m3 m3, .int .i64 s.ka]) (by simp [results, Try.results32, go_sem, d0, d1, d2, d3, d4, d5, d6]) rfl ?_
  exact ⟨⟨some ⟨g0, 0, none⟩, m0, m0, some ⟨g1, 0, none⟩, m1, m1, some ⟨g2, 0, none⟩, m2, m2, some ⟨g3, 0, none⟩, m3, m3⟩, rfl, HF.out⟩

set_option maxRecDepth 100000 in
set_option maxHeartbeats 4000000 in
theorem eqSum_at (w : World) (V1 V2 : SV) (s : Sm) (h1 : RdS w V1 s) (h2 : RdS w V2 s) (hn : LenS s) :
    Calls Try.prog 28 #[.agg #[.slice V1.xr V1.nr V1.cr, .slice V1.xf V1.nf V1.cf, .slice V1.xt V1.nt V1.ct, .int .i64 s.lo, .int .i64 s.al, .slice V1.xk V1.nk V1.ck, .int .i64 s.ka], .agg #[.slice V2.xr V2.nr V2.cr, .slice V2.xf V2.nf V2.cf, .slice V2.xt V2.nt V2.ct, .int .i64 s.lo, .int .i64 s.al, .slice V2.xk V2.nk V2.ck, .int .i64 s.ka]] w fun e w' => e = .returned (.bool true) ∧ Below w.heap.size w w' := by
  have hA := ((Below.refl w.heap.size w).alloc (Nat.le_refl _) (.cells #[.slice V1.xr V1.nr V1.cr, .slice V1.xf V1.nf V1.cf, .slice V1.xt V1.nt V1.ct, .int .i64 s.lo, .int .i64 s.al, .slice V1.xk V1.nk V1.ck, .int .i64 s.ka] 36)).alloc (by simp) (.cells #[.slice V2.xr V2.nr V2.cr, .slice V2.xf V2.nf V2.cf, .slice V2.xt V2.nt V2.ct, .int .i64 s.lo, .int .i64 s.al, .slice V2.xk V2.nk V2.ck, .int .i64 s.ka] 36)
  have XA := (Box7.new w 36 (.slice V1.xr V1.nr V1.cr) (.slice V1.xf V1.nf V1.cf) (.slice V1.xt V1.nt V1.ct) (.int .i64 s.lo) (.int .i64 s.al) (.slice V1.xk V1.nk V1.ck) (.int .i64 s.ka)).alloc (.cells #[.slice V2.xr V2.nr V2.cr, .slice V2.xf V2.nf V2.cf, .slice V2.xt V2.nt V2.ct, .int .i64 s.lo, .int .i64 s.al, .slice V2.xk V2.nk V2.ck, .int .i64 s.ka] 36)
  have XB := Box7.new (w.alloc (.cells #[.slice V1.xr V1.nr V1.cr, .slice V1.xf V1.nf V1.cf, .slice V1.xt V1.nt V1.ct, .int .i64 s.lo, .int .i64 s.al, .slice V1.xk V1.nk V1.ck, .int .i64 s.ka] 36)) 36 (.slice V2.xr V2.nr V2.cr) (.slice V2.xf V2.nf V2.cf) (.slice V2.xt V2.nt V2.ct) (.int .i64 s.lo) (.int .i64 s.al) (.slice V2.xk V2.nk V2.ck) (.int .i64 s.ka)
  rw [World.size_alloc] at XB
  obtain ⟨axa0, axa1, axa2, axa3, axa4, axa5, axa6⟩ := (XA).cells
  obtain ⟨axb0, axb1, axb2, axb3, axb4, axb5, axb6⟩ := (XB).cells
  obtain ⟨W0, hW⟩ : ∃ W, W = (w.alloc (.cells #[.slice V1.xr V1.nr V1.cr, .slice V1.xf V1.nf V1.cf, .slice V1.xt V1.nt V1.ct, .int .i64 s.lo, .int .i64 s.al, .slice V1.xk V1.nk V1.ck, .int .i64 s.ka] 36)).alloc (.cells #[.slice V2.xr V2.nr V2.cr, .slice V2.xf V2.nf V2.cf, .slice V2.xt V2.nt V2.ct, .int .i64 s.lo, .int .i64 s.al, .slice V2.xk V2.nk V2.ck, .int .i64 s.ka] 36) := ⟨_, rfl⟩
  rw [← hW] at hA XA XB
  have B := Lib.hid hA
  have H1 := Lib.hid h1
  have H2 := Lib.hid h2
  have LN := Lib.hid hn
  clear hA h1 h2 hn
  go_enter Try.func28, Try.ntmps28
  go_wp2_with fail
  rw [← hW]
  clear hW axa0 axa1 axa2 axa3 axa4 axa5 axa6 axb0 axb1 axb2 axb3 axb4 axb5 axb6
  have Q := (H1.out.below B.out (Nat.le_refl _))
  have Q2 := (H2.out.below B.out (Nat.le_refl _))
  have K1 := eqRough_at W0 (.slice V1.xr V1.nr V1.cr) (.slice V2.xr V2.nr V2.cr) s.rs s.rs Q.r Q2.r LN.out.r.lenM LN.out.r.rowM
  rw [show decide (s.rs = s.rs) = true from decide_eq_true rfl] at K1
  clear Q Q2
  refine (K1).mono ?_
  rintro e w1 ⟨rfl, hb⟩
  clear K1
  replace XA := XA.later hb
  replace XB := XB.later hb
  replace B := Lib.hid (B.out.trans (hb.mono B.out.size))
  clear hb
  obtain ⟨cxa0, cxa1, cxa2, cxa3, cxa4, cxa5, cxa6⟩ := (XA).cells
  obtain ⟨cxb0, cxb1, cxb2, cxb3, cxb4, cxb5, cxb6⟩ := (XB).cells
  have Q := (H1.out.below B.out (Nat.le_refl _))
  have Q2 := (H2.out.below B.out (Nat.le_refl _))
  have K1 := eqFew_at w1 (.slice V1.xf V1.nf V1.cf) (.slice V2.xf V2.nf V2.cf) s.zs s.zs Q.f Q2.f (by have := LN.out.f; unfold maxLen; omega)
  rw [show decide (s.zs = s.zs) = true from decide_eq_true rfl] at K1
  clear Q Q2
  go_wp2_with fail
  refine (K1).mono ?_
  rintro e w2 ⟨rfl, hb⟩
  clear K1
  clear cxa0 cxa1 cxa2 cxa3 cxa4 cxa5 cxa6 cxb0 cxb1 cxb2 cxb3 cxb4 cxb5 cxb6
  replace XA := XA.later hb
  replace XB := XB.later hb
  replace B := Lib.hid (B.out.trans (hb.mono B.out.size))
  clear hb
  obtain ⟨cxa0, cxa1, cxa2, cxa3, cxa4, cxa5, cxa6⟩ := (XA).cells
  obtain ⟨cxb0, cxb1, cxb2, cxb3, cxb4, cxb5, cxb6⟩ := (XB).cells
  have Q := (H1.out.below B.out (Nat.le_refl _))
  have Q2 := (H2.out.below B.out (Nat.le_refl _))
  have K1 := T.eqTop_same w2 (.slice V1.xt V1.nt V1.ct) (.slice V2.xt V2.nt V2.ct) s.ps s.lo s.al Q.t Q2.t LN.out.t
  skip
  clear Q Q2
  go_wp2_with fail
  refine (K1).mono ?_
  rintro e w3 ⟨rfl, hb⟩
  clear K1
  clear cxa0 cxa1 cxa2 cxa3 cxa4 cxa5 cxa6 cxb0 cxb1 cxb2 cxb3 cxb4 cxb5 cxb6
  replace XA := XA.later hb
  replace XB := XB.later hb
  replace B := Lib.hid (B.out.trans (hb.mono B.out.size))
  clear hb
  obtain ⟨cxa0, cxa1, cxa2, cxa3, cxa4, cxa5, cxa6⟩ := (XA).cells
  obtain ⟨cxb0, cxb1, cxb2, cxb3, cxb4, cxb5, cxb6⟩ := (XB).cells
  have Q := (H1.out.below B.out (Nat.le_refl _))
  have Q2 := (H2.out.below B.out (Nat.le_refl _))
  have K1 := K.eqRank_same w3 (.slice V1.xk V1.nk V1.ck) (.slice V2.xk V2.nk V2.ck) s.ks s.ka Q.k Q2.k LN.out.k
  skip
  clear Q Q2
  go_wp2_with fail
  refine (K1).mono ?_
  rintro e w4 ⟨rfl, hb⟩
  clear K1
  clear cxa0 cxa1 cxa2 cxa3 cxa4 cxa5 cxa6 cxb0 cxb1 cxb2 cxb3 cxb4 cxb5 cxb6
  replace XA := XA.later hb
  replace XB := XB.later hb
  replace B := Lib.hid (B.out.trans (hb.mono B.out.size))
  clear hb
  go_wp2
  go_ret
  exact ⟨rfl, B.out⟩

end Go.Proofs.Ytnoilafoeaknjaa
