/-
  Several texts in one: KJoin, KJoin2, KLen, KApp, KSpJoin, KSpJoin2, KSay.
-/
import Derived.Test.YtnpogmhfdjmfdaaKd
import Derived.Deep.RegionHeld3
import Derived.Deep.RegionLaw
import Derived.Deep.DeepCutAuto
import Derived.Test.YtnpogmhfdjmfdaaKc
set_option linter.unusedVariables false
/-
  Knots of two joined: the program's RankJoin and RankAdd.
-/
namespace Go.Proofs.Ytnpogmhfdjmfdaa.K
open Go.RowKit Go.Sort

def joinOkK (ps : List Pr) (a : Int) (qs : List Pr) (b : Int) : Bool := rankB ps a && (rankB qs b && decide (a + b ≤ 2000))
def joinK (ps : List Pr) (a : Int) (qs : List Pr) (b : Int) : List Pr × Int := if joinOkK ps a qs b then (bothK ps a qs b, a + b) else ([], 0)
theorem joinK_no {ps : List Pr} {a : Int} {qs : List Pr} {b : Int} (h : joinOkK ps a qs b = false) : joinK ps a qs b = ([], 0) := by simp [joinK, h]
theorem joinK_yes {ps : List Pr} {a : Int} {qs : List Pr} {b : Int} (h : joinOkK ps a qs b = true) : joinK ps a qs b = (bothK ps a qs b, a + b) := by simp [joinK, h]
theorem joinOkK_yes {ps : List Pr} {a : Int} {qs : List Pr} {b : Int} (h : joinOkK ps a qs b = true) : rankB ps a = true ∧ rankB qs b = true ∧ a + b ≤ 2000 := by
  unfold joinOkK at h
  simpa using h
theorem sqz_0 (N : List Int) (D : Int) : ∀ s, s ≤ 63 → (sqz N D s).getD 0 0 = N.getD 0 0 := by
  intro s
  induction s with
  | zero => intro _; rfl
  | succ s ih => intro h; rw [sqz, sq1_0 _ (by omega)]; exact ih (by omega)
theorem RankP.len {ps : List Pr} {all : Int} (h : RankP ps all) : ps.length ≤ 127 := knG_few h.2.1
theorem KnB.append {ps qs : List Pr} (h : KnB ps) (h' : KnB qs) : KnB (ps ++ qs) := fun i hi => by
  have m : ∀ {l : List Pr}, KnB l → ∀ p ∈ l, (0 ≤ p.1 ∧ p.1 ≤ 127) ∧ 0 ≤ p.2 ∧ p.2 ≤ 2000 := fun hl p hp => by
    obtain ⟨j, hj, rfl⟩ := pr_at hp
    exact hl j hj
  rcases List.mem_append.1 (pr_mem hi) with e | e
  · exact m h _ e
  · exact m h' _ e

end Go.Proofs.Ytnpogmhfdjmfdaa.K

/-
  Knots of two that cannot be joined; RankJoin and RankAdd of the program, whole.
-/
namespace Go.Proofs.Ytnpogmhfdjmfdaa.K
open Go.RowKit Go.Sort

theorem add_join (ps : List Pr) (a t : Int) (h : 0 ≤ t ∧ t ≤ 63) : joinOkK ps a [(64 + t, 1)] 1 = addOkK ps a t ∧ joinK ps a [(64 + t, 1)] 1 = addK ps a t := by
  have e : joinOkK ps a [(64 + t, 1)] 1 = addOkK ps a t := by
    unfold joinOkK addOkK
    rw [(rankB_iff _ _).2 (one_ok t h)]
    have h1 : decide (0 ≤ t ∧ t ≤ 63) = true := decide_eq_true h
    have h2 : decide (a + 1 ≤ 2000) = decide (a < 2000) := decide_eq_decide.2 ⟨fun _ => by omega, fun _ => by omega⟩
    rw [h1, h2]
  refine ⟨e, ?_⟩
  unfold joinK addK
  rw [e, add_both]

end Go.Proofs.Ytnpogmhfdjmfdaa.K

/-
  How many knots there are at most, counted once more or joined.
-/
namespace Go.Proofs.Ytnpogmhfdjmfdaa.K

theorem addK_len (ps : List Pr) (all t : Int) : (addK ps all t).1.length ≤ 127 := by
  unfold addK
  split
  · exact doneK_len _ _
  · exact Nat.zero_le _
theorem joinK_len (ps : List Pr) (a : Int) (qs : List Pr) (b : Int) : (joinK ps a qs b).1.length ≤ 127 := by
  unfold joinK
  split
  · exact doneK_len _ _
  · exact Nat.zero_le _

end Go.Proofs.Ytnpogmhfdjmfdaa.K

/-
  Knots appended to knots of the call's own, whichever they are: none too.
-/
namespace Go.Proofs.Ytnpogmhfdjmfdaa.K
open Go.RowKit Go.Sort

theorem run_append_prs (w : World) (ty : TypeId) (B : Nat) (v u : Value) (ps qs : List Pr) (ho : OwnP w B v ps) (hq : Prs w u qs) (l1 : ps.length ≤ 1000) (l2 : qs.length ≤ 1000) (hB : B ≤ w.heap.size) :
    ∃ x c w', (Builtin.append_ #[ 69, 69 ] ty #[v, u]).run Try.prog w = .ok (.slice x (ps.length + qs.length) c) w' ∧ OwnP w' B (.slice x (ps.length + qs.length) c) (ps ++ qs) ∧ w.grownBy w' v.ownBlock := by
  obtain ⟨i0, hi, hz0, hz1, hz2⟩ := info_parts pair_info
  rcases hq with ⟨rfl, rfl⟩ | ⟨b, o, cap, rfl, hc0, hc1, hb, hcell⟩
  · obtain ⟨x, c, rfl, _, _⟩ := ho.form
    refine ⟨x, c, w, run_append_owned_none (P := Try.prog) (w := w) B 69 ty 96 i0 2 Try.underlying69 hi _ _ _ ho, by simpa using ho, grownBy_refl _ _⟩
  · have news : ∀ j z, (prs qs)[j]? = some z → w.cell? ((⟨b, o, none⟩ : Addr).add j) = some z :=
      Prs.news (w := w) (b := b) (o := o) (n := qs.length) (c := cap) (ps := qs) (.inr ⟨b, o, cap, rfl, hc0, hc1, hb, hcell⟩)
    obtain ⟨v', w', hr, h2, h3, _, _⟩ := run_append_own_at (P := Try.prog) w B 69 ty 96 i0 (.agg #[.int .i64 0, .int .i64 0]) 2 16 Try.underlying69 hi hz0 hz1 hz2 rfl (by decide) v ps.length (prs ps) ho ⟨b, o, none⟩ qs.length cap (prs qs) (prs_len qs) news (prs_one qs) (by unfold maxLen; omega) (by omega) hB
    obtain ⟨x, c, rfl⟩ := row_form h2
    refine ⟨x, c, w', hr, ?_, h3⟩
    unfold OwnP
    rw [prs_append, List.length_append]
    exact h2

theorem wp_append_prs {o : Oper} {a : Act} {w : World} {K : Act → World → Prop} {Q : Exit → Act → World → Prop} (s x : Operand) (ho : o.op = .call { callee := .builtin .append, args := #[s, x], argTypes := #[ 69, 69 ] })
    (B n m N : Nat) (v u : Value) (ps qs : List Pr) (hs : a.eval s = v) (hx : a.eval x = u) (hown : OwnP w B v ps) (hq : Prs w u qs) (l1 : ps.length ≤ 1000) (l2 : qs.length ≤ 1000) (hn : n = ps.length) (hm : m = qs.length) (hN : N = n + m) (hB : B ≤ w.heap.size)
    (h : ∀ y c w', OwnP w' B (.slice y N c) (ps ++ qs) → w.grownBy w' v.ownBlock → K (a.put o.dst (.slice y N c)) w') : o.wp Try.prog a w K Q := by
  obtain ⟨y, c, w', hr, h2, h3⟩ := run_append_prs w o.type B v u ps qs hown hq l1 l2 hB
  rw [← hn, ← hm, ← hN] at hr h2
  unfold Oper.wp execOp
  simp only [ho, resolve, invoke, builtin, Sem.run_bind, Sem.run_pure, Result.andThen_ok, List.map_toArray, List.map_cons, List.map_nil, hs, hx, hr]
  exact h y c w' h2 h3
theorem step_append_prs {ops : Array Oper} {o : Oper} {a : Act} {w : World} {K : Act → World → Prop} {Q : Exit → Act → World → Prop} {E : Prop} (hgd : o.guard = none) (s x : Operand) (ho : o.op = .call { callee := .builtin .append, args := #[s, x], argTypes := #[ 69, 69 ] })
    (B n m N : Nat) (v u : Value) (ps qs : List Pr) (hs : a.eval s = v) (hx : a.eval x = u) (hown : OwnP w B v ps) (hq : Prs w u qs) (l1 : ps.length ≤ 1000) (l2 : qs.length ≤ 1000) (hn : n = ps.length) (hm : m = qs.length) (hN : N = n + m) (hB : B ≤ w.heap.size)
    (h : ∀ y c w', OwnP w' B (.slice y N c) (ps ++ qs) → w.grownBy w' v.ownBlock → K (a.put o.dst (.slice y N c)) w') :
    if Region.wanted o (yielded ops a.tmps) = true then Oper.wp Try.prog o a w K Q else E := by
  have hw : Region.wanted o (yielded ops a.tmps) = true := by simp [Region.wanted, hgd]
  rw [if_pos hw]
  exact wp_append_prs s x ho B n m N v u ps qs hs hx hown hq l1 l2 hn hm hN hB h
theorem wpList_append_prs {ops : Array Oper} {rest : List Oper} {o : Oper} {a : Act} {w : World} {Q : Exit → Act → World → Prop} (hgd : o.guard = none) (s x : Operand) (ho : o.op = .call { callee := .builtin .append, args := #[s, x], argTypes := #[ 69, 69 ] })
    (B n m N : Nat) (v u : Value) (ps qs : List Pr) (hs : a.eval s = v) (hx : a.eval x = u) (hown : OwnP w B v ps) (hq : Prs w u qs) (l1 : ps.length ≤ 1000) (l2 : qs.length ≤ 1000) (hn : n = ps.length) (hm : m = qs.length) (hN : N = n + m) (hB : B ≤ w.heap.size)
    (h : ∀ y c w', OwnP w' B (.slice y N c) (ps ++ qs) → w.grownBy w' v.ownBlock → wpList Try.prog ops Q rest (a.put o.dst (.slice y N c)) w') : wpList Try.prog ops Q (o :: rest) a w :=
  wpList_plain hgd fun _ hK => wp_append_prs s x ho B n m N v u ps qs hs hx hown hq l1 l2 hn hm hN hB fun y c w' h2 h3 => hK _ _ (h y c w' h2 h3)

end Go.Proofs.Ytnpogmhfdjmfdaa.K

/-
  Knots of two joined: the model's RankJoin.
-/
namespace Go.Proofs.Ytnpogmhfdjmfdaa.K
open Go.RowKit Go.Sort

/-- What the numbers at knots leave: their row, and the boxes ahead of it. -/
structure CutJ (w w2 wx : World) (g : Nat) (NN : List Int) (x : Option Addr) (na c : Nat) (a : Int) (y : Option Addr) (nb d : Nat) (b : Int) : Prop where
  new : w2.heap.size ≤ g
  row : RowI wx g g 128 128 NN
  X : Box2 wx w.heap.size 71 (.slice x na c) (.int .i64 a)
  Y : Box2 wx (w.heap.size + 1) 71 (.slice y nb d) (.int .i64 b)
  R : Box2 wx (w.heap.size + 1 + 1) 71 (.slice none 0 0) (.int .i64 0)
  B : Below w2.heap.size w2 wx

end Go.Proofs.Ytnpogmhfdjmfdaa.K

/-
  Knots of two that cannot be joined; the model's RankJoin, whole.
-/
namespace Go.Proofs.Ytnpogmhfdjmfdaa.K
open Go.RowKit Go.Sort

end Go.Proofs.Ytnpogmhfdjmfdaa.K

/-
  What is told of knots that were counted once more, or joined.
-/
namespace Go.Proofs.Ytnpogmhfdjmfdaa.K

theorem joinK_say {ps qs : List Pr} {a b : Int} (h : joinOkK ps a qs b = true) :
    RankP ps a ∧ RankP qs b ∧ joinOkK qs b ps a = true ∧ joinK qs b ps a = joinK ps a qs b ∧ (joinK ps a qs b).2 = a + b ∧ RankP (joinK ps a qs b).1 (joinK ps a qs b).2 ∧
      ∀ t : Int, leastP (joinK ps a qs b).1 t ≤ leastP ps t + leastP qs t ∧ mostP ps t + mostP qs t ≤ mostP (joinK ps a qs b).1 t := by
  obtain ⟨ka, kb, hs⟩ := joinOkK_yes h
  have PA := (rankB_iff _ _).1 ka
  have PB := (rankB_iff _ _).1 kb
  have hb : joinOkK qs b ps a = true := by
    unfold joinOkK
    rw [ka, kb]
    simp; omega
  rw [joinK_yes h, joinK_yes hb]
  refine ⟨PA, PB, hb, ?_, rfl, both_ok PA PB hs, fun t => ⟨both_least PA PB t, both_most PA PB t⟩⟩
  rw [both_comm PB PA, Int.add_comm]
theorem addK_say {ps : List Pr} {a t : Int} (h : addOkK ps a t = true) :
    RankP ps a ∧ (0 ≤ t ∧ t ≤ 63) ∧ (addK ps a t).2 = a + 1 ∧ RankP (addK ps a t).1 (addK ps a t).2 ∧
      ∀ i : Int, leastP (addK ps a t).1 i ≤ leastP ps i + (if t ≤ i then 1 else 0) ∧ mostP ps i + (if t ≤ i then 1 else 0) ≤ mostP (addK ps a t).1 i := by
  obtain ⟨ka, ht, hs⟩ := addOkK_yes h
  have J := add_join ps a t ht
  rw [← J.1] at h
  obtain ⟨p1, p2, p3, p4, p5, p6, p7⟩ := joinK_say h
  rw [← J.2]
  refine ⟨p1, ht, p5, p6, fun i => ?_⟩
  have := p7 i
  rw [one_least t i ht, one_most t i ht] at this
  exact this
/-- What is told, in bounds. -/
theorem below_in {ps : List Pr} {a t : Int} (h : RankP ps a) (t0 : 0 ≤ t) (t1 : t ≤ 63) : (0 ≤ leastP ps t ∧ leastP ps t ≤ 2000) ∧ 0 ≤ mostP ps t ∧ mostP ps t ≤ 2000 := by
  have g := gap_six h t0 t1
  have b := below_all h
  have m := below_mono (ps := ps) (fun p hp => by have := (h.num p hp).1; omega) t1
  have z : 0 ≤ leastP ps t := by
    have : ∀ ps : List Pr, (∀ p ∈ ps, 0 ≤ p.2) → 0 ≤ leastP ps t := by
      intro ps
      induction ps with
      | nil => intro _; exact Int.le_refl _
      | cons p ps ih =>
        intro hn
        have := ih (fun q hq => hn q (List.mem_cons_of_mem _ hq))
        have := hn p (List.mem_cons_self ..)
        simp only [leastP]
        split <;> omega
    exact this ps (fun p hp => by have := (h.num p hp).1; omega)
  have := h.1
  omega

end Go.Proofs.Ytnpogmhfdjmfdaa.K
