/-
  Numbers appended to numbers of the call's own, whichever they are: none too.
-/
import Derived.Test.YtnoilafoeaknjaaGreatZLk
import Derived.Test.YtnoilafoeaknjaaGreatKe
set_option linter.unusedVariables false
namespace Go.Proofs.YtnoilafoeaknjaaGreat
open Go.RowKit Go.Sort

theorem run_append_nums (w : World) (ty : TypeId) (B : Nat) (v u : Value) (ps qs : List Int) (ho : K.OwnL w B v ps) (hq : Ints w u qs) (l1 : ps.length ≤ 1000) (l2 : qs.length ≤ 1000) (hB : B ≤ w.heap.size) :
    ∃ x c w', (Builtin.append_ #[ 23, 23 ] ty #[v, u]).run Tryz.prog w = .ok (.slice x (ps.length + qs.length) c) w' ∧ K.OwnL w' B (.slice x (ps.length + qs.length) c) (ps ++ qs) ∧ w.grownBy w' v.ownBlock := by
  obtain ⟨i0, hi, hz0, hz1, hz2⟩ := info_parts K.int_info
  rcases hq with ⟨rfl, rfl⟩ | ⟨b, o, cap, rfl, hc0, hc1, hb, hcell⟩
  · obtain ⟨x, c, rfl⟩ := ho.form
    refine ⟨x, c, w, run_append_owned_none (P := Tryz.prog) (w := w) B 23 ty 3 i0 1 Tryz.underlying23 hi _ _ _ ho, by simpa using ho, grownBy_refl _ _⟩
  · have news : ∀ j z, (ints qs)[j]? = some z → w.cell? ((⟨b, o, none⟩ : Addr).add j) = some z := fun j z hz => by
      have hj : j < (ints qs).length := (List.getElem?_eq_some_iff.1 hz).1
      rw [ints_len] at hj
      rw [ints_get qs j hj] at hz
      rw [← hz]
      rw [K.addr_plus]; exact hcell j hj
    obtain ⟨v', w', hr, h2, h3, _, _⟩ := run_append_own_at (P := Tryz.prog) w B 23 ty 3 i0 (.int .i64 0) 1 8 Tryz.underlying23 hi hz0 hz1 hz2 rfl (by decide) v ps.length (ints ps) ho ⟨b, o, none⟩ qs.length cap (ints qs) (by rw [ints_len]; omega) news (ints_one qs) (by unfold maxLen; omega) (by omega) hB
    obtain ⟨x, c, rfl⟩ := K.row_form h2
    refine ⟨x, c, w', hr, ?_, h3⟩
    unfold K.OwnL
    rw [show ints (ps ++ qs) = ints ps ++ ints qs by simp [ints], List.length_append]
    exact h2

theorem wpList_append_nums {ops : Array Oper} {rest : List Oper} {o : Oper} {a : Act} {w : World} {Q : Exit → Act → World → Prop} (hgd : o.guard = none) (s x : Operand) (ho : o.op = .call { callee := .builtin .append, args := #[s, x], argTypes := #[ 23, 23 ] })
    (B n m N : Nat) (v u : Value) (ps qs : List Int) (hs : a.eval s = v) (hx : a.eval x = u) (hown : K.OwnL w B v ps) (hq : Ints w u qs) (l1 : ps.length ≤ 1000) (l2 : qs.length ≤ 1000) (hn : n = ps.length) (hm : m = qs.length) (hN : N = n + m) (hB : B ≤ w.heap.size)
    (h : ∀ y c w', K.OwnL w' B (.slice y N c) (ps ++ qs) → w.grownBy w' v.ownBlock → wpList Tryz.prog ops Q rest (a.put o.dst (.slice y N c)) w') : wpList Tryz.prog ops Q (o :: rest) a w := by
  refine wpList_plain hgd fun _ hK => ?_
  obtain ⟨y, c, w', hr, h2, h3⟩ := run_append_nums w o.type B v u ps qs hown hq l1 l2 hB
  rw [← hn, ← hm, ← hN] at hr h2
  unfold Oper.wp execOp
  simp only [ho, resolve, invoke, builtin, Sem.run_bind, Sem.run_pure, Result.andThen_ok, List.map_toArray, List.map_cons, List.map_nil, hs, hx, hr]
  exact hK _ _ (h y c w' h2 h3)

end Go.Proofs.YtnoilafoeaknjaaGreat
