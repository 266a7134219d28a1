/-
  The four ways of a sum of the program: whether each is ok, asked through an interface.
-/
import Derived.Test.YtnoilafoeaknjaaZBox
import Derived.Handy
import Derived.KernelRfl
set_option linter.unusedVariables false
namespace Go.Proofs.Ytnoilafoeaknjaa
open Go.RowKit Go.Sort

/-- The four lists' values. -/
def wayR (V : SV) : Value := .iface 25 (.agg #[.slice V.xr V.nr V.cr])
def wayF (V : SV) : Value := .iface 28 (.agg #[.slice V.xf V.nf V.cf])
def wayT (V : SV) (s : Sm) : Value := .iface 31 (.agg #[.slice V.xt V.nt V.ct, .int .i64 s.lo, .int .i64 s.al])
def wayK (V : SV) (s : Sm) : Value := .iface 34 (.agg #[.slice V.xk V.nk V.ck, .int .i64 s.ka])

theorem isOkR_at (w : World) (x : Option Addr) (n c : Nat) (rs : List (List Int)) (h : Rws w (.slice x n c) rs) :
    Calls Try.prog 145 #[.agg #[.slice x n c]] w fun e w' => e = .returned (.bool (okB rs)) ∧ Below w.heap.size w w' := by
  have hA := (Below.refl w.heap.size w).alloc (Nat.le_refl _) (.cells #[.slice x n c] 25)
  have K := Lib.hid (imOk_at _ _ rs (h.below hA (Nat.le_refl _)))
  have HA := Lib.hid hA
  clear h hA
  go_enter Try.func145, Try.ntmps145
  go_wp2_with fail
  refine K.out.mono ?_
  rintro e w1 ⟨rfl, hb⟩
  go_wp2
  go_ret
  exact ⟨rfl, HA.out.trans (hb.mono HA.out.size)⟩
theorem isOkF_at (w : World) (x : Option Addr) (n c : Nat) (zs : List Int) (h : Ints w (.slice x n c) zs) :
    Calls Try.prog 146 #[.agg #[.slice x n c]] w fun e w' => e = .returned (.bool (fewB zs)) ∧ Below w.heap.size w w' := by
  have hA := (Below.refl w.heap.size w).alloc (Nat.le_refl _) (.cells #[.slice x n c] 28)
  have K := Lib.hid (imFewOk_at _ _ zs (h.below hA (Nat.le_refl _)))
  have HA := Lib.hid hA
  clear h hA
  go_enter Try.func146, Try.ntmps146
  go_wp2_with fail
  refine K.out.mono ?_
  rintro e w1 ⟨rfl, hb⟩
  go_wp2
  go_ret
  exact ⟨rfl, HA.out.trans (hb.mono HA.out.size)⟩
theorem isOkT_at (w : World) (x : Option Addr) (n c : Nat) (ps : List T.Pr) (lo al : Int) (h : T.Prs w (.slice x n c) ps) :
    Calls Try.prog 147 #[.agg #[.slice x n c, .int .i64 lo, .int .i64 al]] w fun e w' => e = .returned (.bool (T.topB ps lo al)) ∧ Below w.heap.size w w' := by
  have hA := (Below.refl w.heap.size w).alloc (Nat.le_refl _) (.cells #[.slice x n c, .int .i64 lo, .int .i64 al] 31)
  have K := Lib.hid (T.imTopOk_at _ _ ps lo al (h.below hA (Nat.le_refl _)))
  have HA := Lib.hid hA
  clear h hA
  go_enter Try.func147, Try.ntmps147
  go_wp2_with fail
  refine K.out.mono ?_
  rintro e w1 ⟨rfl, hb⟩
  go_wp2
  go_ret
  exact ⟨rfl, HA.out.trans (hb.mono HA.out.size)⟩
theorem isOkK_at (w : World) (x : Option Addr) (n c : Nat) (ps : List K.Pr) (al : Int) (h : K.Prs w (.slice x n c) ps) :
    Calls Try.prog 148 #[.agg #[.slice x n c, .int .i64 al]] w fun e w' => e = .returned (.bool (K.rankB ps al)) ∧ Below w.heap.size w w' := by
  have hA := (Below.refl w.heap.size w).alloc (Nat.le_refl _) (.cells #[.slice x n c, .int .i64 al] 34)
  have K := Lib.hid (K.imRankOk_at _ _ ps al (h.below hA (Nat.le_refl _)))
  have HA := Lib.hid hA
  clear h hA
  go_enter Try.func148, Try.ntmps148
  go_wp2_with fail
  refine K.out.mono ?_
  rintro e w1 ⟨rfl, hb⟩
  go_wp2
  go_ret
  exact ⟨rfl, HA.out.trans (hb.mono HA.out.size)⟩

set_option maxHeartbeats 1000000 in
theorem waysOf_at (w : World) (V : SV) (s : Sm) :
    Calls Try.prog 38 #[.agg #[.slice V.xr V.nr V.cr, .slice V.xf V.nf V.cf, .slice V.xt V.nt V.ct, .int .i64 s.lo, .int .i64 s.al, .slice V.xk V.nk V.ck, .int .i64 s.ka]] w fun e w' => e = .returned (.agg #[wayR V, wayF V, wayT V s, wayK V s]) ∧ Below w.heap.size w w' := by
  obtain ⟨xr, nr, cr, xf, nf, cf, xt, nt, ct, xk, nk, ck⟩ := V
  obtain ⟨rs, zs, ps, lo, al, ks, ka⟩ := s
  unfold wayR wayF wayT wayK
  simp only
  go_enter Try.func38, Try.ntmps38
  go_wp2
  go_returns
  exact ⟨rfl, ((Below.refl _ _).alloc (Nat.le_refl _) _).alloc (by simp) _⟩

theorem index_way (a b c d : Value) (w : World) : (Instr.index 79 (.agg #[a, b, c, d]) (.int .i64 0)).run Try.prog w = .ok a w ∧ (Instr.index 79 (.agg #[a, b, c, d]) (.int .i64 1)).run Try.prog w = .ok b w ∧
    (Instr.index 79 (.agg #[a, b, c, d]) (.int .i64 2)).run Try.prog w = .ok c w ∧ (Instr.index 79 (.agg #[a, b, c, d]) (.int .i64 3)).run Try.prog w = .ok d w :=
  ⟨by kernel_rfl, by kernel_rfl, by kernel_rfl, by kernel_rfl⟩

end Go.Proofs.Ytnoilafoeaknjaa
