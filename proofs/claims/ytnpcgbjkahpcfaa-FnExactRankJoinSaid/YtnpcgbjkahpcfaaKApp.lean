/-
  Knots appended to knots of the call's own, whichever they are: none too.
-/
import Derived.Test.YtnpcgbjkahpcfaaKConc
import Derived.Deep.RegionHeld3
namespace Go.Proofs.Ytnpcgbjkahpcfaa
open Go.RowKit Go.Sort

theorem run_append_prs (w : World) (ty : TypeId) (B : Nat) (v u : Value) (ps qs : List Pr) (ho : OwnP w B v ps) (hq : Prs w u qs) (l1 : ps.length ≤ 1000) (l2 : qs.length ≤ 1000) (hB : B ≤ w.heap.size) :
    ∃ x c w', (Builtin.append_ #[ 27, 27 ] ty #[v, u]).run Try.prog w = .ok (.slice x (ps.length + qs.length) c) w' ∧ OwnP w' B (.slice x (ps.length + qs.length) c) (ps ++ qs) ∧ w.grownBy w' v.ownBlock := by
  obtain ⟨i0, hi, hz0, hz1, hz2⟩ := info_parts pair_info
  rcases hq with ⟨rfl, rfl⟩ | ⟨b, o, cap, rfl, hc0, hc1, hb, hcell⟩
  · obtain ⟨x, c, rfl, _, _⟩ := ho.form
    refine ⟨x, c, w, run_append_owned_none (P := Try.prog) (w := w) B 27 ty 33 i0 2 Try.underlying27 hi _ _ _ ho, by simpa using ho, grownBy_refl _ _⟩
  · have news : ∀ j z, (prs qs)[j]? = some z → w.cell? ((⟨b, o, none⟩ : Addr).add j) = some z :=
      Prs.news (w := w) (b := b) (o := o) (n := qs.length) (c := cap) (ps := qs) (.inr ⟨b, o, cap, rfl, hc0, hc1, hb, hcell⟩)
    obtain ⟨v', w', hr, h2, h3, _, _⟩ := run_append_own_at (P := Try.prog) w B 27 ty 33 i0 (.agg #[.int .i64 0, .int .i64 0]) 2 16 Try.underlying27 hi hz0 hz1 hz2 rfl (by decide) v ps.length (prs ps) ho ⟨b, o, none⟩ qs.length cap (prs qs) (prs_len qs) news (prs_one qs) (by unfold maxLen; omega) (by omega) hB
    obtain ⟨x, c, rfl⟩ := row_form h2
    refine ⟨x, c, w', hr, ?_, h3⟩
    unfold OwnP
    rw [prs_append, List.length_append]
    exact h2

theorem wp_append_prs {o : Oper} {a : Act} {w : World} {K : Act → World → Prop} {Q : Exit → Act → World → Prop} (s x : Operand) (ho : o.op = .call { callee := .builtin .append, args := #[s, x], argTypes := #[ 27, 27 ] })
    (B n m N : Nat) (v u : Value) (ps qs : List Pr) (hs : a.eval s = v) (hx : a.eval x = u) (hown : OwnP w B v ps) (hq : Prs w u qs) (l1 : ps.length ≤ 1000) (l2 : qs.length ≤ 1000) (hn : n = ps.length) (hm : m = qs.length) (hN : N = n + m) (hB : B ≤ w.heap.size)
    (h : ∀ y c w', OwnP w' B (.slice y N c) (ps ++ qs) → w.grownBy w' v.ownBlock → K (a.put o.dst (.slice y N c)) w') : o.wp Try.prog a w K Q := by
  obtain ⟨y, c, w', hr, h2, h3⟩ := run_append_prs w o.type B v u ps qs hown hq l1 l2 hB
  rw [← hn, ← hm, ← hN] at hr h2
  unfold Oper.wp execOp
  simp only [ho, resolve, invoke, builtin, Sem.run_bind, Sem.run_pure, Result.andThen_ok, List.map_toArray, List.map_cons, List.map_nil, hs, hx, hr]
  exact h y c w' h2 h3
theorem step_append_prs {ops : Array Oper} {o : Oper} {a : Act} {w : World} {K : Act → World → Prop} {Q : Exit → Act → World → Prop} {E : Prop} (hgd : o.guard = none) (s x : Operand) (ho : o.op = .call { callee := .builtin .append, args := #[s, x], argTypes := #[ 27, 27 ] })
    (B n m N : Nat) (v u : Value) (ps qs : List Pr) (hs : a.eval s = v) (hx : a.eval x = u) (hown : OwnP w B v ps) (hq : Prs w u qs) (l1 : ps.length ≤ 1000) (l2 : qs.length ≤ 1000) (hn : n = ps.length) (hm : m = qs.length) (hN : N = n + m) (hB : B ≤ w.heap.size)
    (h : ∀ y c w', OwnP w' B (.slice y N c) (ps ++ qs) → w.grownBy w' v.ownBlock → K (a.put o.dst (.slice y N c)) w') :
    if Region.wanted o (yielded ops a.tmps) = true then Oper.wp Try.prog o a w K Q else E := by
  have hw : Region.wanted o (yielded ops a.tmps) = true := by simp [Region.wanted, hgd]
  rw [if_pos hw]
  exact wp_append_prs s x ho B n m N v u ps qs hs hx hown hq l1 l2 hn hm hN hB h
theorem wpList_append_prs {ops : Array Oper} {rest : List Oper} {o : Oper} {a : Act} {w : World} {Q : Exit → Act → World → Prop} (hgd : o.guard = none) (s x : Operand) (ho : o.op = .call { callee := .builtin .append, args := #[s, x], argTypes := #[ 27, 27 ] })
    (B n m N : Nat) (v u : Value) (ps qs : List Pr) (hs : a.eval s = v) (hx : a.eval x = u) (hown : OwnP w B v ps) (hq : Prs w u qs) (l1 : ps.length ≤ 1000) (l2 : qs.length ≤ 1000) (hn : n = ps.length) (hm : m = qs.length) (hN : N = n + m) (hB : B ≤ w.heap.size)
    (h : ∀ y c w', OwnP w' B (.slice y N c) (ps ++ qs) → w.grownBy w' v.ownBlock → wpList Try.prog ops Q rest (a.put o.dst (.slice y N c)) w') : wpList Try.prog ops Q (o :: rest) a w :=
  wpList_plain hgd fun _ hK => wp_append_prs s x ho B n m N v u ps qs hs hx hown hq l1 l2 hn hm hN hB fun y c w' h2 h3 => hK _ _ (h y c w' h2 h3)

end Go.Proofs.Ytnpcgbjkahpcfaa
