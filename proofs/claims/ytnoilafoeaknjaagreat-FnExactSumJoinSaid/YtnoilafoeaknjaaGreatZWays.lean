/-
  The four ways of a sum of the program: whether each is ok, asked through an interface.
-/
import Derived.Test.YtnoilafoeaknjaaGreatZBox
import Derived.Handy
import Derived.KernelRfl
set_option linter.unusedVariables false
namespace Go.Proofs.YtnoilafoeaknjaaGreat
open Go.RowKit Go.Sort

/-- The four lists' values. -/
def wayR (V : SV) : Value := .iface 27 (.agg #[.slice V.xr V.nr V.cr])
def wayF (V : SV) : Value := .iface 31 (.agg #[.slice V.xf V.nf V.cf])
def wayT (V : SV) (s : Sm) : Value := .iface 34 (.agg #[.slice V.xt V.nt V.ct, .int .i64 s.lo, .int .i64 s.al])
def wayK (V : SV) (s : Sm) : Value := .iface 37 (.agg #[.slice V.xk V.nk V.ck, .int .i64 s.ka])

theorem isOkR_at (w : World) (x : Option Addr) (n c : Nat) (rs : List (List Int)) (h : Rws w (.slice x n c) rs) :
    Calls Tryz.prog 239 #[.agg #[.slice x n c]] w fun e w' => e = .returned (.bool (okB rs)) ∧ Below w.heap.size w w' := by
  have hA := (Below.refl w.heap.size w).alloc (Nat.le_refl _) (.cells #[.slice x n c] 27)
  have K := Lib.hid (imOk_at _ _ rs (h.below hA (Nat.le_refl _)))
  have HA := Lib.hid hA
  clear h hA
  go_enter Tryz.func239, Tryz.ntmps239
  go_wp2_with fail
  refine K.out.mono ?_
  rintro e w1 ⟨rfl, hb⟩
  go_wp2
  go_ret
  exact ⟨rfl, HA.out.trans (hb.mono HA.out.size)⟩
theorem isOkF_at (w : World) (x : Option Addr) (n c : Nat) (zs : List Int) (h : Ints w (.slice x n c) zs) :
    Calls Tryz.prog 240 #[.agg #[.slice x n c]] w fun e w' => e = .returned (.bool (fewB zs)) ∧ Below w.heap.size w w' := by
  have hA := (Below.refl w.heap.size w).alloc (Nat.le_refl _) (.cells #[.slice x n c] 31)
  have K := Lib.hid (imFewOk_at _ _ zs (h.below hA (Nat.le_refl _)))
  have HA := Lib.hid hA
  clear h hA
  go_enter Tryz.func240, Tryz.ntmps240
  go_wp2_with fail
  refine K.out.mono ?_
  rintro e w1 ⟨rfl, hb⟩
  go_wp2
  go_ret
  exact ⟨rfl, HA.out.trans (hb.mono HA.out.size)⟩
theorem isOkT_at (w : World) (x : Option Addr) (n c : Nat) (ps : List T.Pr) (lo al : Int) (h : T.Prs w (.slice x n c) ps) :
    Calls Tryz.prog 241 #[.agg #[.slice x n c, .int .i64 lo, .int .i64 al]] w fun e w' => e = .returned (.bool (T.topB ps lo al)) ∧ Below w.heap.size w w' := by
  have hA := (Below.refl w.heap.size w).alloc (Nat.le_refl _) (.cells #[.slice x n c, .int .i64 lo, .int .i64 al] 34)
  have K := Lib.hid (T.imTopOk_at _ _ ps lo al (h.below hA (Nat.le_refl _)))
  have HA := Lib.hid hA
  clear h hA
  go_enter Tryz.func241, Tryz.ntmps241
  go_wp2_with fail
  refine K.out.mono ?_
  rintro e w1 ⟨rfl, hb⟩
  go_wp2
  go_ret
  exact ⟨rfl, HA.out.trans (hb.mono HA.out.size)⟩
theorem isOkK_at (w : World) (x : Option Addr) (n c : Nat) (ps : List K.Pr) (al : Int) (h : K.Prs w (.slice x n c) ps) :
    Calls Tryz.prog 242 #[.agg #[.slice x n c, .int .i64 al]] w fun e w' => e = .returned (.bool (K.rankB ps al)) ∧ Below w.heap.size w w' := by
  have hA := (Below.refl w.heap.size w).alloc (Nat.le_refl _) (.cells #[.slice x n c, .int .i64 al] 37)
  have K := Lib.hid (K.imRankOk_at _ _ ps al (h.below hA (Nat.le_refl _)))
  have HA := Lib.hid hA
  clear h hA
  go_enter Tryz.func242, Tryz.ntmps242
  go_wp2_with fail
  refine K.out.mono ?_
  rintro e w1 ⟨rfl, hb⟩
  go_wp2
  go_ret
  exact ⟨rfl, HA.out.trans (hb.mono HA.out.size)⟩

set_option maxHeartbeats 1000000 in
theorem waysOf_at (w : World) (V : SV) (s : Sm) :
    Calls Tryz.prog 111 #[.agg #[.slice V.xr V.nr V.cr, .slice V.xf V.nf V.cf, .slice V.xt V.nt V.ct, .int .i64 s.lo, .int .i64 s.al, .slice V.xk V.nk V.ck, .int .i64 s.ka]] w fun e w' => e = .returned (.agg #[wayR V, wayF V, wayT V s, wayK V s]) ∧ Below w.heap.size w w' := by
  obtain ⟨xr, nr, cr, xf, nf, cf, xt, nt, ct, xk, nk, ck⟩ := V
  obtain ⟨rs, zs, ps, lo, al, ks, ka⟩ := s
  unfold wayR wayF wayT wayK
  simp only
  go_enter Tryz.func111, Tryz.ntmps111
  go_wp2
  go_returns
  exact ⟨rfl, ((Below.refl _ _).alloc (Nat.le_refl _) _).alloc (by simp) _⟩

theorem index_way (a b c d : Value) (w : World) : (Instr.index 137 (.agg #[a, b, c, d]) (.int .i64 0)).run Tryz.prog w = .ok a w ∧ (Instr.index 137 (.agg #[a, b, c, d]) (.int .i64 1)).run Tryz.prog w = .ok b w ∧
    (Instr.index 137 (.agg #[a, b, c, d]) (.int .i64 2)).run Tryz.prog w = .ok c w ∧ (Instr.index 137 (.agg #[a, b, c, d]) (.int .i64 3)).run Tryz.prog w = .ok d w :=
  ⟨by kernel_rfl, by kernel_rfl, by kernel_rfl, by kernel_rfl⟩

end Go.Proofs.YtnoilafoeaknjaaGreat
