/-
  Several texts in one: TBoth, TImCut, TMath, TJoin, TJoin2, TMath2, TMath3.
-/
import Derived.Test.YtnpogmhfdjmfdaaTc
import Derived.Test.YtnpogmhfdjmfdaaTb
import Derived.Laws.AppendOwnNone
set_option linter.unusedVariables false
/-
  The pairs of both together, by things: the program's pairsOfBoth.
-/
namespace Go.Proofs.Ytnpogmhfdjmfdaa.T
open Go.RowKit Go.Sort

/-- One pair more: counted with the last, if that is of the same thing. -/
def mrg (os : List Pr) (p : Pr) : List Pr := if 0 < os.length ∧ (pr os (os.length - 1)).1 = p.1 then os.set (os.length - 1) (p.1, (pr os (os.length - 1)).2 + p.2) else os ++ [p]
theorem mrg_new {os : List Pr} {p : Pr} (h : ¬ (0 < os.length ∧ (pr os (os.length - 1)).1 = p.1)) : mrg os p = os ++ [p] := if_neg h
theorem mrg_old {os : List Pr} {p : Pr} (h0 : 0 < os.length) (h : (pr os (os.length - 1)).1 = p.1) : mrg os p = os.set (os.length - 1) (p.1, (pr os (os.length - 1)).2 + p.2) := if_pos ⟨h0, h⟩
def mrgV (qs : List Pr) : List Pr := qs.foldl mrg []
theorem mrg_len (os : List Pr) (p : Pr) : (mrg os p).length ≤ os.length + 1 := by unfold mrg; split <;> simp
theorem mrgV_succ (qs : List Pr) (k : Nat) (h : k < qs.length) : mrgV (qs.take (k + 1)) = mrg (mrgV (qs.take k)) (pr qs k) := by
  rw [take_succ_pr qs k h]; simp [mrgV]
theorem mrgV_len (qs : List Pr) {k : Nat} (h : k ≤ qs.length) : (mrgV (qs.take k)).length ≤ k := by
  induction k with
  | zero => simp [mrgV]
  | succ k ih => rw [mrgV_succ qs k h]; have := mrg_len (mrgV (qs.take k)) (pr qs k); have := ih (by omega); omega
theorem BdP.mrg {M N : Int} {os : List Pr} {p : Pr} (h : BdP M os) (h0 : 0 ≤ M) (hp : 0 ≤ p.2 ∧ p.2 ≤ N) : BdP (M + N) (mrg os p) := by
  unfold Ytnpogmhfdjmfdaa.T.mrg
  split
  · rename_i hc
    intro q hq
    have hl := h _ (pr_mem (ps := os) (i := os.length - 1) (by omega))
    rcases List.mem_or_eq_of_mem_set hq with h1 | h1
    · have := h q h1; omega
    · rw [h1]; exact ⟨by simp; omega, by simp; omega⟩
  · intro q hq
    rcases List.mem_append.1 hq with h1 | h1
    · have := h q h1; omega
    · simp at h1; subst h1; omega
theorem BdP.mrgV {N : Int} {qs : List Pr} (h : BdP N qs) (hN : 0 ≤ N) {k : Nat} (hk : k ≤ qs.length) : BdP (N * k) (mrgV (qs.take k)) := by
  induction k with
  | zero => intro q hq; simp [Ytnpogmhfdjmfdaa.T.mrgV] at hq
  | succ k ih =>
    rw [mrgV_succ qs k hk]
    have h3 := BdP.mrg (ih (by omega)) (Int.mul_nonneg hN (by omega)) (h.at k (by omega))
    have e : N * ((k + 1 : Nat) : Int) = N * (k : Int) + N := by rw [Int.natCast_add, Int.mul_add]; simp
    rw [e]
    exact h3

theorem prs_set (ps : List Pr) (k : Nat) (z : Int) (h : k < ps.length) : (prs ps).set (k * 2 + 1) (.int .i64 z) = prs (ps.set k ((pr ps k).1, z)) := by
  induction ps generalizing k with
  | nil => cases h
  | cons p ps ih =>
    rw [prs_cons]
    cases k with
    | zero => rfl
    | succ k =>
      have := ih k (by simpa using h)
      rw [show (k + 1) * 2 + 1 = k * 2 + 1 + 1 + 1 by omega]
      simp only [List.set_cons_succ]
      rw [this]
      rfl

theorem row_last {w : World} {B j c : Nat} {x : Option Addr} {os : List Pr} (h : w.ownsRow B 94 2 (.slice x (j + 1) c) (j + 1) (prs os)) (hl : os.length = j + 1) :
    ∃ g, x = some ⟨g, 0, none⟩ ∧ B ≤ g ∧ g < w.heap.size ∧ j + 1 ≤ c ∧ w.cell? ⟨g, j * 2, none⟩ = some (.int .i64 (pr os j).1) ∧ w.cell? ⟨g, j * 2 + 1, none⟩ = some (.int .i64 (pr os j).2) ∧ w.frozen? ⟨g, j * 2 + 1, none⟩ = false := by
  rcases h.2 with ⟨_, h0⟩ | ⟨g, cap, cur, e, hb, hg, hn, hc, hs, ht⟩
  · omega
  · obtain ⟨e1, _, e3⟩ := Value.slice.inj e
    subst e1 e3
    have e2 := prs_get os j (by omega)
    have a := World.ownsRow.cells h (g := g) rfl _ _ e2.1
    have b := World.ownsRow.cells h (g := g) rfl _ _ e2.2
    rw [addr_plus, Nat.zero_add] at a b
    exact ⟨g, rfl, hb, (Array.getElem?_eq_some_iff.1 hg).1, hn, a, b, World.ownsRow.frozenAt h _⟩

/-- What the sorted pairs come to. -/
def Both (w : World) (ps qs : List Pr) (w' : World) (u : Value) : Prop := ∃ ss : List Pr, ss.Perm (ps ++ qs) ∧ SortedL cmpT ss ∧ OwnP w' w.heap.size u (mrgV ss) ∧ Below w.heap.size w w'

end Go.Proofs.Ytnpogmhfdjmfdaa.T

/-
  What is kept behind a cut: the program's cutPairs.
-/
namespace Go.Proofs.Ytnpogmhfdjmfdaa.T
open Go.RowKit Go.Sort

theorem cntGe_append (ps qs : List Pr) (v : Int) : cntGe (ps ++ qs) v = cntGe ps v + cntGe qs v := by simp [cntGe]
theorem cntGe_perm {ps qs : List Pr} (h : ps.Perm qs) (v : Int) : cntGe ps v = cntGe qs v := (h.filter _).length_eq
theorem cntGe_all {ps : List Pr} {v : Int} (h : ∀ p ∈ ps, v ≤ p.2) : cntGe ps v = ps.length := by
  unfold cntGe; rw [List.filter_eq_self.2 (fun p hp => by simpa using h p hp)]
theorem cntGe_zero {ps : List Pr} {v : Int} (h : ∀ p ∈ ps, ¬ v ≤ p.2) : cntGe ps v = 0 := by
  unfold cntGe; rw [List.filter_eq_nil_iff.2 (fun p hp => by simpa using h p hp)]; rfl
theorem overK_ge {ps : List Pr} {k i : Nat} (hi : i < k) (h : 4 < cntGe ps (pr ps i).2) : (pr ps i).2 ≤ overK ps k := by
  induction k with
  | zero => omega
  | succ k ih =>
    unfold overK
    by_cases e : i = k
    · subst e; rw [if_pos h]; omega
    · have := ih (by omega)
      split <;> omega
theorem overK_is (ps : List Pr) {k : Nat} (hk : k ≤ ps.length) : overK ps k = 0 ∨ ∃ i, i < k ∧ 4 < cntGe ps (pr ps i).2 ∧ (pr ps i).2 = overK ps k := by
  induction k with
  | zero => exact .inl rfl
  | succ k ih =>
    have h := ih (by omega)
    unfold overK
    by_cases hc : 4 < cntGe ps (pr ps k).2
    · rw [if_pos hc]
      rcases (by omega : max (overK ps k) (pr ps k).2 = overK ps k ∨ max (overK ps k) (pr ps k).2 = (pr ps k).2) with e | e
      · rw [e]
        rcases h with h | ⟨i, h1, h2, h3⟩
        · exact .inl h
        · exact .inr ⟨i, by omega, h2, h3⟩
      · exact .inr ⟨k, by omega, hc, e.symm⟩
    · rw [if_neg hc]
      rcases h with h | ⟨i, h1, h2, h3⟩
      · exact .inl h
      · exact .inr ⟨i, by omega, h2, h3⟩
theorem overV_few {ps : List Pr} (h : ps.length ≤ 4) : overV ps = 0 := by
  rcases overK_is ps (Nat.le_refl _) with e | ⟨i, _, h2, _⟩
  · exact e
  · have := cntGe_le ps (pr ps i).2; omega
theorem lessV_zero {ps : List Pr} (h : ∀ p ∈ ps, 0 < p.2) : lessV ps 0 = ps := by
  induction ps with
  | nil => rfl
  | cons p ps ih =>
    unfold lessV
    rw [if_pos (h p (by simp)), ih (fun q hq => h q (by simp [hq]))]
    simp
/-- The fifth of the sorted is the number that is lost. -/
theorem over_fifth {ps ss : List Pr} (hp : ss.Perm ps) (hs : SortedL cmpN ss) (hl : 4 < ps.length) (h0 : ∀ p ∈ ps, 0 ≤ p.2) : (pr ss 4).2 = overV ps := by
  have hlen := hp.length_eq
  have ge : ∀ i j, i < j → j < ss.length → (pr ss j).2 ≤ (pr ss i).2 := fun i j hij hj => by
    have := (ltN_no _ _).1 (hs i j hij hj); omega
  have hsplit : ∀ v, cntGe ss v = cntGe (ss.take 4) v + cntGe (ss.drop 4) v := fun v => by rw [← cntGe_append, List.take_append_drop]
  have mem_ps : ∀ i, i < ss.length → pr ss i ∈ ps := fun i hi => hp.mem_iff.1 (pr_mem hi)
  -- at least five have as much as the fifth
  have h5 : 4 < cntGe ps (pr ss 4).2 := by
    rw [← cntGe_perm hp]
    have e : ss = ss.take 5 ++ ss.drop 5 := (List.take_append_drop _ _).symm
    rw [show cntGe ss (pr ss 4).2 = cntGe (ss.take 5) (pr ss 4).2 + cntGe (ss.drop 5) (pr ss 4).2 by rw [← cntGe_append, List.take_append_drop]]
    rw [cntGe_all (ps := ss.take 5) (fun p hp' => by
      obtain ⟨i, hi, rfl⟩ := pr_at hp'
      simp at hi
      rw [pr_take (by omega)]
      by_cases e : i = 4
      · rw [e]; exact Int.le_refl _
      · exact ge i 4 (by omega) (by omega))]
    simp
    omega
  apply Int.le_antisymm
  · obtain ⟨i, hi, e⟩ := pr_at (mem_ps 4 (by omega))
    have := overK_ge (ps := ps) (k := ps.length) hi (by rw [e]; exact h5)
    rw [e] at this
    exact this
  · rcases overK_is ps (Nat.le_refl _) with e | ⟨i, hi, h2, h3⟩
    · have := h0 _ (mem_ps 4 (by omega))
      have e' : overV ps = 0 := e
      omega
    · have e' : overV ps = (pr ps i).2 := h3.symm
      rw [e']
      apply Classical.byContradiction
      intro hlt
      rw [← cntGe_perm hp, hsplit, cntGe_zero (ps := ss.drop 4) (fun p hp' => by
        obtain ⟨j, hj, rfl⟩ := pr_at hp'
        have e2 : pr (ss.drop 4) j = pr ss (4 + j) := by simp [pr]
        rw [e2]
        simp at hj
        by_cases ej : j = 0
        · subst ej; exact fun h => hlt h
        · have := ge 4 (4 + j) (by omega) (by omega); omega)] at h2
      have := cntGe_le (ss.take 4) (pr ps i).2
      simp at this
      omega

/-- What the cut answers. -/
def Cut (w : World) (B : Nat) (ps : List Pr) (w' : World) (u : Value) (n : Int) : Prop := OwnP w' B u (cutP ps) ∧ n = overV ps ∧ Below w.heap.size w w'

end Go.Proofs.Ytnpogmhfdjmfdaa.T

/-
  Pairs of both together: the program's way, and its model's, come to the same.
-/
namespace Go.Proofs.Ytnpogmhfdjmfdaa.T
open Go.RowKit Go.Sort

/-- The things stand in ascending order, each once. -/
def Up (ps : List Pr) : Prop := ps.Pairwise (fun p q => p.1 < q.1)
def Pos (ps : List Pr) : Prop := ∀ p ∈ ps, 0 < p.2
theorem Asc.up {ps : List Pr} (h : Asc ps) : Up ps := by
  unfold Up
  rw [List.pairwise_iff_getElem]
  intro i j hi hj hij
  have := h.lt hij hj
  simpa [pr, hi, hj] using this
theorem Up.asc {ps : List Pr} (h : Up ps) : Asc ps := fun i h0 hi => by
  unfold Up at h
  rw [List.pairwise_iff_getElem] at h
  have := h (i - 1) i (by omega) hi (by omega)
  have h1 : i - 1 < ps.length := by omega
  simpa [pr, h1, hi] using this
theorem TopP.pos {ps : List Pr} {lost all : Int} (h : TopP ps lost all) : Pos ps := fun p hp => by
  obtain ⟨i, hi, rfl⟩ := pr_at hp
  have := (h.2.1 i hi).1.2
  omega

theorem up_ext : ∀ {L M : List Pr}, Up L → Up M → Pos L → Pos M → (∀ t, tot L t = tot M t) → L = M
  | [], [], _, _, _, _, _ => rfl
  | [], m :: M, _, hM, _, pM, h => by
    have h1 := h m.1
    have h2 : tot M m.1 = 0 := tot_none fun q hq => by have := (List.pairwise_cons.1 hM).1 q hq; omega
    have h3 := pM m (by simp)
    simp [tot, h2] at h1
    omega
  | l :: L, [], hL, _, pL, _, h => by
    have h1 := h l.1
    have h2 : tot L l.1 = 0 := tot_none fun q hq => by have := (List.pairwise_cons.1 hL).1 q hq; omega
    have h3 := pL l (by simp)
    simp [tot, h2] at h1
    omega
  | l :: L, m :: M, hL, hM, pL, pM, h => by
    have hL' := List.pairwise_cons.1 hL
    have hM' := List.pairwise_cons.1 hM
    have p1 := pL l (by simp)
    have p2 := pM m (by simp)
    have a1 : tot L l.1 = 0 := tot_none fun q hq => by have := hL'.1 q hq; omega
    have a2 : tot M m.1 = 0 := tot_none fun q hq => by have := hM'.1 q hq; omega
    have e1 : l.1 = m.1 := by
      rcases (by omega : l.1 < m.1 ∨ l.1 = m.1 ∨ m.1 < l.1) with hlt | he | hlt
      · have h1 := h l.1
        have a3 : tot M l.1 = 0 := tot_none fun q hq => by have := hM'.1 q hq; omega
        have : ¬ m.1 = l.1 := by omega
        simp [tot, a1, a3, this] at h1
        omega
      · exact he
      · have h1 := h m.1
        have a3 : tot L m.1 = 0 := tot_none fun q hq => by have := hL'.1 q hq; omega
        have : ¬ l.1 = m.1 := by omega
        simp [tot, a2, a3, this] at h1
        omega
    have e2 : l.2 = m.2 := by
      have h1 := h l.1
      rw [e1] at a1
      simp [tot, e1, a1, a2] at h1
      exact h1
    have e : l = m := Prod.ext e1 e2
    subst e
    congr 1
    refine up_ext hL'.2 hM'.2 (fun q hq => pL q (by simp [hq])) (fun q hq => pM q (by simp [hq])) fun t => ?_
    have h1 := h t
    simp only [tot] at h1
    omega

theorem tot_perm {ps qs : List Pr} (h : ps.Perm qs) (t : Int) : tot ps t = tot qs t := by
  induction h with
  | nil => rfl
  | cons x _ ih => simp only [tot, ih]
  | swap x y l => simp only [tot]; omega
  | trans _ _ ih1 ih2 => rw [ih1, ih2]

/-! ### the model's way -/
theorem tot_put (ps : List Pr) (x : Pr) (t : Int) : tot (putP ps x) t = tot ps t + if x.1 = t then x.2 else 0 := by
  induction ps with
  | nil => simp [putP, tot]
  | cons p ps ih =>
    unfold putP
    split
    · simp only [tot, ih]; omega
    · split
      · rename_i h1 h2
        simp only [tot, h2]
        split <;> omega
      · simp only [tot]; omega
theorem put_mem {ps : List Pr} {x q : Pr} (h : q ∈ putP ps x) : q.1 = x.1 ∨ q ∈ ps := by
  induction ps with
  | nil => simp [putP] at h; exact .inl (by rw [h])
  | cons p ps ih =>
    unfold putP at h
    split at h
    · rcases List.mem_cons.1 h with rfl | h
      · exact .inr (by simp)
      · rcases ih h with h | h
        · exact .inl h
        · exact .inr (by simp [h])
    · split at h
      · rcases List.mem_cons.1 h with rfl | h
        · exact .inl rfl
        · exact .inr (by simp [h])
      · rcases List.mem_cons.1 h with rfl | h
        · exact .inl rfl
        · exact .inr h
theorem Up.put {ps : List Pr} {x : Pr} (h : Up ps) : Up (putP ps x) := by
  induction ps with
  | nil => simp [putP, Up]
  | cons p ps ih =>
    have h' := List.pairwise_cons.1 h
    unfold putP
    split
    · rename_i hlt
      refine List.pairwise_cons.2 ⟨fun q hq => ?_, ih h'.2⟩
      rcases put_mem hq with e | hq
      · rw [e]; exact hlt
      · exact h'.1 q hq
    · split
      · rename_i h1 h2
        exact List.pairwise_cons.2 ⟨fun q hq => by have := h'.1 q hq; show x.1 < q.1; omega, h'.2⟩
      · rename_i h1 h2
        refine List.pairwise_cons.2 ⟨fun q hq => ?_, h⟩
        rcases List.mem_cons.1 hq with rfl | hq
        · omega
        · have := h'.1 q hq; omega
theorem Pos.put {ps : List Pr} {x : Pr} (h : Pos ps) (hx : 0 < x.2) : Pos (putP ps x) := by
  induction ps with
  | nil => intro q hq; simp [putP] at hq; rw [hq]; exact hx
  | cons p ps ih =>
    have h1 := h p (by simp)
    have h2 : Pos ps := fun q hq => h q (by simp [hq])
    intro q hq
    unfold putP at hq
    split at hq
    · rcases List.mem_cons.1 hq with rfl | hq
      · exact h1
      · exact ih h2 q hq
    · split at hq
      · rcases List.mem_cons.1 hq with rfl | hq
        · show 0 < x.2 + p.2; omega
        · exact h2 q hq
      · rcases List.mem_cons.1 hq with rfl | hq
        · exact hx
        · exact h q hq
/-- The pairs of both. -/
def bothP (ps qs : List Pr) : List Pr := qs.foldl putP ps
theorem bothP_all (ps qs : List Pr) (hu : Up ps) (hp : Pos ps) (hq : Pos qs) : Up (bothP ps qs) ∧ Pos (bothP ps qs) ∧ (bothP ps qs).length ≤ ps.length + qs.length ∧ ∀ t, tot (bothP ps qs) t = tot ps t + tot qs t := by
  induction qs generalizing ps with
  | nil => exact ⟨hu, hp, by simp [bothP], fun t => by simp [bothP, tot]⟩
  | cons q qs ih =>
    have h1 := ih (putP ps q) hu.put (hp.put (hq q (by simp))) (fun p hp => hq p (by simp [hp]))
    refine ⟨h1.1, h1.2.1, ?_, fun t => ?_⟩
    · have := h1.2.2.1
      have := putP_len ps q
      show (bothP (putP ps q) qs).length ≤ _
      simp
      omega
    · show tot (bothP (putP ps q) qs) t = _
      rw [h1.2.2.2 t, tot_put]
      simp only [tot]
      omega

/-! ### the program's way -/
theorem set_last {os : List Pr} {j : Nat} (h : os.length = j + 1) (x : Pr) : os = os.take j ++ [pr os j] ∧ os.set j x = os.take j ++ [x] := by
  have e := take_succ_pr os j (by omega)
  rw [← h, List.take_length] at e
  refine ⟨e, ?_⟩
  have hl : (os.take j).length = j := by simp; omega
  conv => lhs; rw [e]
  rw [List.set_append_right _ _ (by rw [hl]; exact Nat.le_refl _), hl, Nat.sub_self]
  rfl
theorem tot_mrg (os : List Pr) (p : Pr) (t : Int) : tot (mrg os p) t = tot os t + if p.1 = t then p.2 else 0 := by
  by_cases h : 0 < os.length ∧ (pr os (os.length - 1)).1 = p.1
  · rw [mrg_old h.1 h.2]
    obtain ⟨j, hj⟩ : ∃ j, os.length = j + 1 := ⟨os.length - 1, by omega⟩
    have e0 : os.length - 1 = j := by omega
    rw [e0] at h ⊢
    have e := set_last hj (p.1, (pr os j).2 + p.2)
    have e1 : tot os t = tot (os.take j) t + tot [pr os j] t := by rw [← tot_append, ← e.1]
    rw [e.2, tot_append, e1]
    simp only [tot, h.2]
    split <;> omega
  · rw [mrg_new h, tot_append]
    simp [tot]
theorem tot_mrgV (ss : List Pr) (t : Int) : ∀ {k : Nat}, k ≤ ss.length → tot (mrgV (ss.take k)) t = tot (ss.take k) t := by
  intro k
  induction k with
  | zero => intro _; simp [mrgV, tot]
  | succ k ih => intro hk; rw [mrgV_succ ss k hk, tot_mrg, ih (by omega), tot_succ ss k t hk]
theorem mrgV_up {ss : List Pr} (hs : SortedL cmpT ss) : ∀ {k : Nat}, k ≤ ss.length → Up (mrgV (ss.take k)) ∧ ∀ q ∈ mrgV (ss.take k), ∃ i, i < k ∧ q.1 = (pr ss i).1 := by
  intro k
  induction k with
  | zero => intro _; exact ⟨by simp [mrgV, Up], fun q hq => by simp [mrgV] at hq⟩
  | succ k ih =>
    intro hk
    have h := ih (by omega)
    rw [mrgV_succ ss k hk]
    generalize mrgV (ss.take k) = os at h ⊢
    have le : ∀ q ∈ os, q.1 ≤ (pr ss k).1 := fun q hq => by
      obtain ⟨i, hi, e⟩ := h.2 q hq
      have := (ltT_no _ _).1 (hs i k hi hk)
      omega
    by_cases hc : 0 < os.length ∧ (pr os (os.length - 1)).1 = (pr ss k).1
    · rw [mrg_old hc.1 hc.2]
      obtain ⟨j, hj⟩ : ∃ j, os.length = j + 1 := ⟨os.length - 1, by omega⟩
      have e0 : os.length - 1 = j := by omega
      rw [e0] at hc ⊢
      have e := set_last hj ((pr ss k).1, (pr os j).2 + (pr ss k).2)
      rw [e.2]
      have hu := h.1
      rw [e.1] at hu
      refine ⟨?_, fun q hq => ?_⟩
      · have hu' := List.pairwise_append.1 hu
        refine List.pairwise_append.2 ⟨hu'.1, by simp, fun a ha b hb => ?_⟩
        simp at hb
        subst hb
        have := hu'.2.2 a ha (pr os j) (by simp)
        show a.1 < (pr ss k).1
        rw [← hc.2]; exact this
      · rcases List.mem_append.1 hq with hq | hq
        · obtain ⟨i, hi, e3⟩ := h.2 q (List.mem_of_mem_take hq)
          exact ⟨i, by omega, e3⟩
        · simp at hq
          subst hq
          exact ⟨k, by omega, rfl⟩
    · rw [mrg_new hc]
      refine ⟨List.pairwise_append.2 ⟨h.1, by simp, fun a ha b hb => ?_⟩, fun q hq => ?_⟩
      · simp at hb
        subst hb
        have h0 : 0 < os.length := List.length_pos_of_mem ha
        have hl : (pr os (os.length - 1)).1 < (pr ss k).1 := by
          have h1 := le _ (pr_mem (ps := os) (i := os.length - 1) (by omega))
          have h2 : ¬ (pr os (os.length - 1)).1 = (pr ss k).1 := fun e => hc ⟨h0, e⟩
          omega
        obtain ⟨i, hi, rfl⟩ := pr_at ha
        by_cases e : i = os.length - 1
        · rw [e]; exact hl
        · have := (h.1.asc).lt (i := i) (j := os.length - 1) (by omega) (by omega); omega
      · rcases List.mem_append.1 hq with hq | hq
        · obtain ⟨i, hi, e3⟩ := h.2 q hq
          exact ⟨i, by omega, e3⟩
        · simp at hq
          subst hq
          exact ⟨k, by omega, rfl⟩
theorem Pos.mrg {os : List Pr} {p : Pr} (h : Pos os) (hp : 0 < p.2) : Pos (mrg os p) := by
  unfold Ytnpogmhfdjmfdaa.T.mrg
  split
  · rename_i hc
    intro q hq
    have hl := h _ (pr_mem (ps := os) (i := os.length - 1) (by omega))
    rcases List.mem_or_eq_of_mem_set hq with h1 | h1
    · exact h q h1
    · rw [h1]; show 0 < _ + _; omega
  · intro q hq
    rcases List.mem_append.1 hq with h1 | h1
    · exact h q h1
    · simp at h1; subst h1; exact hp
theorem Pos.mrgV {ss : List Pr} (h : Pos ss) : ∀ {k : Nat}, k ≤ ss.length → Pos (mrgV (ss.take k)) := by
  intro k
  induction k with
  | zero => intro _ q hq; simp [Ytnpogmhfdjmfdaa.T.mrgV] at hq
  | succ k ih => intro hk; rw [mrgV_succ ss k hk]; exact (ih (by omega)).mrg (h _ (pr_mem hk))
theorem mrgV_both {ps qs ss : List Pr} (hu : Up ps) (hp : Pos ps) (hq : Pos qs) (hperm : ss.Perm (ps ++ qs)) (hs : SortedL cmpT ss) : mrgV ss = bothP ps qs := by
  have hb := bothP_all ps qs hu hp hq
  have hpos : Pos ss := fun p hp' => by
    rcases List.mem_append.1 (hperm.mem_iff.1 hp') with h | h
    · exact hp p h
    · exact hq p h
  have e : ss.take ss.length = ss := List.take_length
  have h1 := (mrgV_up hs (Nat.le_refl _)).1
  have h2 := hpos.mrgV (Nat.le_refl _)
  have h3 := fun t => tot_mrgV ss t (Nat.le_refl _)
  rw [e] at h1 h2 h3
  exact up_ext h1 hb.1 h2 hb.2.1 fun t => by rw [h3 t, tot_perm hperm, tot_append, hb.2.2.2 t]
theorem bothP_comm {ps qs : List Pr} (hu : Up ps) (hv : Up qs) (hp : Pos ps) (hq : Pos qs) : bothP ps qs = bothP qs ps := by
  have a := bothP_all ps qs hu hp hq
  have b := bothP_all qs ps hv hq hp
  exact up_ext a.1 b.1 a.2.1 b.2.1 fun t => by rw [a.2.2.2, b.2.2.2]; omega

end Go.Proofs.Ytnpogmhfdjmfdaa.T

/-
  Joined: the program's TopJoin and its model's.
-/
namespace Go.Proofs.Ytnpogmhfdjmfdaa.T
open Go.RowKit Go.Sort

def joinOk (ps : List Pr) (la aa : Int) (qs : List Pr) (lb ab : Int) : Bool := topB ps la aa && (topB qs lb ab && decide (aa + ab ≤ 2000))
def joinT (ps : List Pr) (la aa : Int) (qs : List Pr) (lb ab : Int) : Tp := if joinOk ps la aa qs lb ab then (cutP (bothP ps qs), la + lb + overV (bothP ps qs), aa + ab) else noneT
theorem joinT_no {ps qs : List Pr} {la aa lb ab : Int} (h : joinOk ps la aa qs lb ab = false) : joinT ps la aa qs lb ab = noneT := by simp [joinT, h]
theorem joinT_yes {ps qs : List Pr} {la aa lb ab : Int} (h : joinOk ps la aa qs lb ab = true) : joinT ps la aa qs lb ab = (cutP (bothP ps qs), la + lb + overV (bothP ps qs), aa + ab) := by simp [joinT, h]
theorem joinOk_cases (ps : List Pr) (la aa : Int) (qs : List Pr) (lb ab : Int) : (topB ps la aa = false ∧ joinOk ps la aa qs lb ab = false) ∨ (topB ps la aa = true ∧ topB qs lb ab = false ∧ joinOk ps la aa qs lb ab = false) ∨ (topB ps la aa = true ∧ topB qs lb ab = true ∧ 2000 < aa + ab ∧ joinOk ps la aa qs lb ab = false) ∨ (topB ps la aa = true ∧ topB qs lb ab = true ∧ aa + ab ≤ 2000 ∧ joinOk ps la aa qs lb ab = true) := by
  unfold joinOk
  cases h : topB ps la aa
  · exact .inl ⟨rfl, rfl⟩
  · cases h' : topB qs lb ab
    · exact .inr (.inl ⟨rfl, rfl, rfl⟩)
    · by_cases ha : aa + ab ≤ 2000
      · exact .inr (.inr (.inr ⟨rfl, rfl, ha, by simp [ha]⟩))
      · exact .inr (.inr (.inl ⟨rfl, rfl, by omega, by simp [ha]⟩))

/-- The three boxes that a join begins with. -/
theorem three_boxes (w : World) (x0 x1 x2 y0 y1 y2 : Value) :
    Box3 (((w.alloc (.cells #[x0, x1, x2] 68)).alloc (.cells #[y0, y1, y2] 68)).alloc (.cells #[.slice none 0 0, .int .i64 0, .int .i64 0] 68)) w.heap.size 68 x0 x1 x2 ∧
    Box3 (((w.alloc (.cells #[x0, x1, x2] 68)).alloc (.cells #[y0, y1, y2] 68)).alloc (.cells #[.slice none 0 0, .int .i64 0, .int .i64 0] 68)) (w.heap.size + 1) 68 y0 y1 y2 ∧
    Box3 (((w.alloc (.cells #[x0, x1, x2] 68)).alloc (.cells #[y0, y1, y2] 68)).alloc (.cells #[.slice none 0 0, .int .i64 0, .int .i64 0] 68)) (w.heap.size + 1 + 1) 68 (.slice none 0 0) (.int .i64 0) (.int .i64 0) ∧
    Below w.heap.size w (((w.alloc (.cells #[x0, x1, x2] 68)).alloc (.cells #[y0, y1, y2] 68)).alloc (.cells #[.slice none 0 0, .int .i64 0, .int .i64 0] 68)) := by
  refine ⟨((Box3.new _ _ _ _ _).alloc _).alloc _, ?_, ?_, (((Below.refl _ _).alloc (Nat.le_refl _) _).alloc (by simp) _).alloc (by simp; omega) _⟩
  · have h := Box3.new (w.alloc (.cells #[x0, x1, x2] 68)) 68 y0 y1 y2
    have e : (w.alloc (.cells #[x0, x1, x2] 68)).heap.size = w.heap.size + 1 := by simp
    rw [e] at h
    exact h.alloc _
  · have h := Box3.new ((w.alloc (.cells #[x0, x1, x2] 68)).alloc (.cells #[y0, y1, y2] 68)) 68 (.slice none 0 0) (.int .i64 0) (.int .i64 0)
    have e : ((w.alloc (.cells #[x0, x1, x2] 68)).alloc (.cells #[y0, y1, y2] 68)).heap.size = w.heap.size + 1 + 1 := by simp
    rw [e] at h
    exact h

theorem BdP.tot {M : Int} {ps : List Pr} (h : BdP M ps) (hM : 0 ≤ M) (t : Int) : 0 ≤ tot ps t ∧ tot ps t ≤ M * ps.length := by
  induction ps with
  | nil => simp [Ytnpogmhfdjmfdaa.T.tot]
  | cons p ps ih =>
    have h1 := ih (fun q hq => h q (by simp [hq]))
    have h2 := h p (by simp)
    have e : M * ((p :: ps).length : Int) = M * (ps.length : Int) + M := by simp [Int.mul_add]
    rw [e]
    simp only [Ytnpogmhfdjmfdaa.T.tot]
    split <;> omega
theorem bothP_bd {ps qs : List Pr} (ua : Up ps) (ba : BdP 2000 ps) (bb : BdP 2000 qs) (pa : Pos ps) (pb : Pos qs) (lb : qs.length ≤ 4) : BdP 16000 (bothP ps qs) := fun p hp => by
  have hb := bothP_all ps qs ua pa pb
  have h0 := hb.2.1 p hp
  obtain ⟨i, hi, rfl⟩ := pr_at hp
  have e := hb.1.asc.at hi
  rw [hb.2.2.2] at e
  have h2 := bb.tot (by omega) (pr (bothP ps qs) i).1
  have h1 : tot ps (pr (bothP ps qs) i).1 ≤ 2000 := by
    by_cases hx : ∃ j, j < ps.length ∧ (pr ps j).1 = (pr (bothP ps qs) i).1
    · obtain ⟨j, hj, ej⟩ := hx
      rw [← ej, ua.asc.at hj]
      exact (ba.at j hj).2
    · rw [tot_none fun q hq ej => by obtain ⟨j, hj, rfl⟩ := pr_at hq; exact hx ⟨j, hj, ej⟩]
      omega
  omega

/-- What a join that can be leaves. -/
def Joined (w : World) (ps qs : List Pr) (w' : World) (r : Value) : Prop := OwnP w' w.heap.size r (cutP (bothP ps qs)) ∧ Below w.heap.size w w'

theorem bothP_succ (ps qs : List Pr) (k : Nat) (h : k < qs.length) : bothP ps (qs.take (k + 1)) = putP (bothP ps (qs.take k)) (pr qs k) := by
  rw [take_succ_pr qs k h]; simp [bothP]
end Go.Proofs.Ytnpogmhfdjmfdaa.T

/-
  Joined, and counted once: at whatever arguments.
-/
namespace Go.Proofs.Ytnpogmhfdjmfdaa.T
open Go.RowKit Go.Sort

theorem topB_one (t : Int) : topB [(t, 1)] 0 1 = isT t := by
  have h : TopP [(t, 1)] 0 1 ↔ (0 ≤ t ∧ t < 64) := by
    unfold TopP
    constructor
    · intro h
      have := (h.2.1 0 (by simp)).1.1
      simp [pr] at this
      omega
    · intro h
      refine ⟨⟨by simp, by omega, by omega⟩, fun i hi => ?_, by simp [sumP]⟩
      simp at hi
      subst hi
      refine ⟨⟨?_, ?_⟩, fun h => absurd h (Nat.lt_irrefl _)⟩
      · simp [pr]; omega
      · simp [pr]
  simp [topB, isT, h]
theorem joinOk_one (ps : List Pr) (lost all t : Int) : joinOk ps lost all [(t, 1)] 0 1 = addOk ps lost all t := by
  unfold joinOk addOk
  rw [topB_one]
  congr 2
theorem joinT_one (ps : List Pr) (lost all t : Int) : joinT ps lost all [(t, 1)] 0 1 = addT ps lost all t := by
  unfold joinT addT
  rw [joinOk_one]
  simp [bothP]

end Go.Proofs.Ytnpogmhfdjmfdaa.T

/-
  What is kept is one again; joined either way, and with nothing; what a count adds.
-/
namespace Go.Proofs.Ytnpogmhfdjmfdaa.T
open Go.RowKit Go.Sort

/-- The sum of the numbers. -/
def sumL : List Pr → Int
  | [] => 0
  | p :: ps => p.2 + sumL ps
theorem sumL_append (ps qs : List Pr) : sumL (ps ++ qs) = sumL ps + sumL qs := by
  induction ps with
  | nil => simp [sumL]
  | cons p ps ih => simp only [List.cons_append, sumL, ih]; omega
theorem sumL_nonneg {ps : List Pr} (h : ∀ p ∈ ps, 0 ≤ p.2) : 0 ≤ sumL ps := by
  induction ps with
  | nil => simp [sumL]
  | cons p ps ih =>
    have := h p (by simp)
    have := ih (fun q hq => h q (by simp [hq]))
    simp only [sumL]; omega
theorem sumL_mem {ps : List Pr} (h : ∀ p ∈ ps, 0 ≤ p.2) {p : Pr} (hp : p ∈ ps) : p.2 ≤ sumL ps := by
  induction ps with
  | nil => cases hp
  | cons q ps ih =>
    have h0 := h q (by simp)
    have h1 := sumL_nonneg (fun q hq => h q (by simp [hq]) : ∀ q ∈ ps, 0 ≤ q.2)
    simp only [sumL]
    rcases List.mem_cons.1 hp with rfl | hp
    · omega
    · have := ih (fun q hq => h q (by simp [hq])) hp
      omega
theorem sumL_put (ps : List Pr) (x : Pr) : sumL (putP ps x) = sumL ps + x.2 := by
  induction ps with
  | nil => simp [putP, sumL]
  | cons q ps ih =>
    unfold putP
    split
    · simp only [sumL, ih]; omega
    · split
      · simp only [sumL]; omega
      · simp only [sumL]; omega
theorem sumL_both (ps qs : List Pr) : sumL (bothP ps qs) = sumL ps + sumL qs := by
  unfold bothP
  induction qs generalizing ps with
  | nil => simp [sumL]
  | cons q qs ih =>
    simp only [List.foldl_cons, sumL, ih, sumL_put]; omega
theorem cntGe_cons (p : Pr) (ps : List Pr) (n : Int) : cntGe (p :: ps) n = cntGe ps n + if n ≤ p.2 then 1 else 0 := by
  unfold cntGe
  by_cases h : n ≤ p.2 <;> simp [h]
theorem sumL_less {ps : List Pr} {n : Int} (hn : 0 ≤ n) (h : ∀ p ∈ ps, 0 ≤ p.2) : sumL (lessV ps n) + n * (cntGe ps n : Int) ≤ sumL ps := by
  induction ps with
  | nil => simp [lessV, sumL, cntGe]
  | cons p ps ih =>
    have h0 := h p (by simp)
    have := ih (fun q hq => h q (by simp [hq]))
    rw [cntGe_cons]
    unfold lessV
    by_cases h1 : n < p.2
    · rw [if_pos h1, if_pos (by omega)]
      simp only [sumL]
      rw [show ((cntGe ps n + 1 : Nat) : Int) = (cntGe ps n : Int) + 1 by omega, Int.mul_add]
      omega
    · rw [if_neg h1]
      simp only [sumL]
      by_cases h2 : n ≤ p.2
      · rw [if_pos h2, show ((cntGe ps n + 1 : Nat) : Int) = (cntGe ps n : Int) + 1 by omega, Int.mul_add]
        omega
      · rw [if_neg h2, Nat.add_zero]; omega
theorem less_mem {ps : List Pr} {n : Int} {p : Pr} (h : p ∈ lessV ps n) : ∃ q ∈ ps, q.1 = p.1 ∧ n < q.2 ∧ p.2 = q.2 - n := by
  induction ps with
  | nil => cases h
  | cons q ps ih =>
    unfold lessV at h
    split at h
    · rcases List.mem_cons.1 h with rfl | h
      · exact ⟨q, by simp, rfl, by assumption, rfl⟩
      · obtain ⟨q', hq, r⟩ := ih h
        exact ⟨q', by simp [hq], r⟩
    · obtain ⟨q', hq, r⟩ := ih h
      exact ⟨q', by simp [hq], r⟩
theorem Up.less {ps : List Pr} (h : Up ps) (n : Int) : Up (lessV ps n) := by
  unfold Up at h ⊢
  induction ps with
  | nil => simp [lessV]
  | cons p ps ih =>
    rw [List.pairwise_cons] at h
    unfold lessV
    split
    · rw [List.pairwise_cons]
      refine ⟨fun q hq => ?_, ih h.2⟩
      obtain ⟨q', hq', e, _⟩ := less_mem hq
      have := h.1 q' hq'
      simp only
      omega
    · exact ih h.2
theorem less_len (ps : List Pr) (n : Int) : (lessV ps n).length ≤ cntGe ps (n + 1) := by
  induction ps with
  | nil => simp [lessV]
  | cons p ps ih =>
    rw [cntGe_cons]
    unfold lessV
    split
    · rw [if_pos (by omega)]; simp; omega
    · omega
theorem cntGe_mono (ps : List Pr) {m n : Int} (h : m ≤ n) : cntGe ps n ≤ cntGe ps m := by
  induction ps with
  | nil => simp [cntGe]
  | cons p ps ih =>
    rw [cntGe_cons, cntGe_cons]
    split <;> split <;> omega
theorem cntGe_least {ps : List Pr} {n : Int} (h : 0 < cntGe ps n) : ∃ i, i < ps.length ∧ n ≤ (pr ps i).2 ∧ cntGe ps (pr ps i).2 = cntGe ps n := by
  -- the least number of those that have at least n
  have h' : ∃ l : List Pr, l = ps.filter fun p => decide (n ≤ p.2) := ⟨_, rfl⟩
  obtain ⟨l, hl⟩ := h'
  have key : ∀ l : List Pr, l ≠ [] → ∃ p ∈ l, ∀ q ∈ l, p.2 ≤ q.2 := by
    intro l
    induction l with
    | nil => intro h; exact absurd rfl h
    | cons x l ih =>
      intro _
      by_cases e : l = []
      · subst e; exact ⟨x, by simp, by simp⟩
      · obtain ⟨p, hp, hq⟩ := ih e
        by_cases hx : x.2 ≤ p.2
        · refine ⟨x, by simp, fun q hq' => ?_⟩
          rcases List.mem_cons.1 hq' with rfl | hq'
          · omega
          · have := hq q hq'; omega
        · refine ⟨p, by simp [hp], fun q hq' => ?_⟩
          rcases List.mem_cons.1 hq' with rfl | hq'
          · omega
          · exact hq q hq'
  have hne : l ≠ [] := by
    intro e
    unfold cntGe at h
    rw [← hl, e] at h
    simp at h
  obtain ⟨p, hp, hq⟩ := key l hne
  rw [hl] at hp
  have hp2 := List.mem_filter.1 hp
  obtain ⟨i, hi, rfl⟩ := pr_at hp2.1
  have hn : n ≤ (pr ps i).2 := by simpa using hp2.2
  refine ⟨i, hi, hn, Nat.le_antisymm (cntGe_mono ps hn) ?_⟩
  unfold cntGe
  have : ∀ ms : List Pr, (∀ q ∈ ms, n ≤ q.2 → (pr ps i).2 ≤ q.2) → (ms.filter fun p => decide (n ≤ p.2)).length ≤ (ms.filter fun p => decide ((pr ps i).2 ≤ p.2)).length := by
    intro ms
    induction ms with
    | nil => intro _; simp
    | cons x ms ih =>
      intro hm
      have := ih (fun q hq => hm q (by simp [hq]))
      have hx := hm x (by simp)
      by_cases h1 : n ≤ x.2
      · have := hx h1
        simp [h1, this]; omega
      · by_cases h2 : (pr ps i).2 ≤ x.2
        · simp [h1, h2]; omega
        · simp [h1, h2]; omega
  exact this ps (fun q hqm hqn => hq q (by rw [hl]; exact List.mem_filter.2 ⟨hqm, by simpa using hqn⟩))

/-- Behind a cut at most four are left. -/
theorem cut_four {ps : List Pr} (h : ∀ p ∈ ps, 0 ≤ p.2) : (cutP ps).length ≤ 4 := by
  refine Decidable.byContradiction fun hc => ?_
  have h1 := less_len ps (overV ps)
  unfold cutP at hc
  have h2 : 4 < cntGe ps (overV ps + 1) := by omega
  obtain ⟨i, hi, hn, he⟩ := cntGe_least (ps := ps) (n := overV ps + 1) (by omega)
  have := overK_ge (ps := ps) (k := ps.length) (i := i) hi (by omega)
  have e : overV ps = overK ps ps.length := rfl
  omega
/-- What a cut takes is of five at least. -/
theorem cut_five {ps : List Pr} (h : ∀ p ∈ ps, 0 ≤ p.2) : sumL (cutP ps) + overV ps * 5 ≤ sumL ps ∧ 0 ≤ overV ps := by
  have ov : 0 ≤ overV ps ∧ (0 < overV ps → 5 ≤ cntGe ps (overV ps)) := by
    rcases overK_is ps (k := ps.length) (Nat.le_refl _) with e | ⟨i, hi, hc, e⟩
    · have e' : overV ps = 0 := e
      omega
    · have e' : (pr ps i).2 = overV ps := e
      have := h _ (pr_mem hi)
      rw [e'] at hc this
      omega
  refine ⟨?_, ov.1⟩
  have hs := sumL_less ov.1 h
  by_cases h0 : 0 < overV ps
  · have h5 := ov.2 h0
    have : overV ps * 5 ≤ overV ps * (cntGe ps (overV ps) : Int) := Int.mul_le_mul_of_nonneg_left (by omega) ov.1
    unfold cutP
    omega
  · have e0 : overV ps = 0 := by omega
    unfold cutP
    rw [e0] at hs ⊢
    omega

theorem sumP_sumL (ps : List Pr) : sumP ps = sumL ps := by
  induction ps with
  | nil => rfl
  | cons p ps ih => simp [sumP, sumL] at ih ⊢; omega

theorem both_thing {ps qs : List Pr} {la aa lb ab : Int} (A : TopP ps la aa) (B : TopP qs lb ab) {q : Pr} (h : q ∈ bothP ps qs) : 0 ≤ q.1 ∧ q.1 ≤ 63 := by
  have key : ∀ (qs ps : List Pr), (∀ p ∈ ps, 0 ≤ p.1 ∧ p.1 ≤ 63) → (∀ p ∈ qs, 0 ≤ p.1 ∧ p.1 ≤ 63) → ∀ q ∈ bothP ps qs, 0 ≤ q.1 ∧ q.1 ≤ 63 := by
    intro qs
    induction qs with
    | nil => intro ps h1 _ q hq; exact h1 q hq
    | cons x qs ih =>
      intro ps h1 h2 q hq
      refine ih (putP ps x) (fun p hp => ?_) (fun p hp => h2 p (by simp [hp])) q hq
      rcases put_mem hp with e | hp
      · rw [e]; exact h2 x (by simp)
      · exact h1 p hp
  refine key qs ps (fun p hp => ?_) (fun p hp => ?_) q h
  · obtain ⟨i, hi, rfl⟩ := pr_at hp
    exact (A.2.1 i hi).1.1
  · obtain ⟨i, hi, rfl⟩ := pr_at hp
    exact (B.2.1 i hi).1.1

theorem TopP.nonneg {ps : List Pr} {lost all : Int} (h : TopP ps lost all) : ∀ p ∈ ps, 0 ≤ p.2 := fun p hp => by
  have := h.pos p hp; omega
/-- Joined it is in form again. -/
theorem join_top {ps qs : List Pr} {la aa lb ab : Int} (h : joinOk ps la aa qs lb ab = true) : topB (joinT ps la aa qs lb ab).1 (joinT ps la aa qs lb ab).2.1 (joinT ps la aa qs lb ab).2.2 = true := by
  rcases joinOk_cases ps la aa qs lb ab with ⟨_, h'⟩ | ⟨_, _, h'⟩ | ⟨_, _, _, h'⟩ | ⟨ha, hb, hs, _⟩
  · rw [h] at h'; cases h'
  · rw [h] at h'; cases h'
  · rw [h] at h'; cases h'
  rw [joinT_yes h]
  have A := (topB_iff _ _ _).1 ha
  have B := (topB_iff _ _ _).1 hb
  obtain ⟨bu, bp, _, bt⟩ := bothP_all ps qs A.asc.up A.pos B.pos
  have nn : ∀ p ∈ bothP ps qs, 0 ≤ p.2 := fun p hp => by have := bp p hp; omega
  have c4 := cut_four nn
  obtain ⟨c5, o0⟩ := cut_five nn
  have sb := sumL_both ps qs
  have fa := A.2.2
  have fb := B.2.2
  have a1 := A.1.2
  have b1 := B.1.2
  rw [sumP_sumL] at fa fb
  have cn : ∀ p ∈ cutP (bothP ps qs), 0 < p.2 := fun p hp => by
    obtain ⟨q, _, _, h1, h2⟩ := less_mem hp
    omega
  have cu : Up (cutP (bothP ps qs)) := bu.less _
  have cs := sumL_nonneg (fun p hp => by have := cn p hp; omega : ∀ p ∈ cutP (bothP ps qs), 0 ≤ p.2)
  show topB (cutP (bothP ps qs)) (la + lb + overV (bothP ps qs)) (aa + ab) = true
  refine (topB_iff _ _ _).2 ⟨⟨c4, ⟨by omega, by omega⟩, by omega, by omega⟩, fun i hi => ⟨⟨?_, ?_⟩, fun h0 => cu.asc i h0 hi⟩, by rw [sumP_sumL]; omega⟩
  · obtain ⟨q, hq, e, _⟩ := less_mem (pr_mem hi)
    have := both_thing A B hq
    rw [e] at this
    exact this
  · have m1 := cn _ (pr_mem hi)
    have m2 := sumL_mem (fun p hp => by have := cn p hp; omega : ∀ p ∈ cutP (bothP ps qs), 0 ≤ p.2) (pr_mem hi)
    omega

theorem joinOk_comm (ps : List Pr) (la aa : Int) (qs : List Pr) (lb ab : Int) : joinOk qs lb ab ps la aa = joinOk ps la aa qs lb ab := by
  unfold joinOk
  rw [show ab + aa = aa + ab by omega]
  cases topB ps la aa <;> cases topB qs lb ab <;> rfl
theorem joinT_comm (ps : List Pr) (la aa : Int) (qs : List Pr) (lb ab : Int) : joinT qs lb ab ps la aa = joinT ps la aa qs lb ab := by
  have hc := joinOk_comm ps la aa qs lb ab
  rcases joinOk_cases ps la aa qs lb ab with ⟨_, h⟩ | ⟨_, _, h⟩ | ⟨_, _, _, h⟩ | ⟨ha, hb, hs, h⟩
  · rw [joinT_no h, joinT_no (hc.trans h)]
  · rw [joinT_no h, joinT_no (hc.trans h)]
  · rw [joinT_no h, joinT_no (hc.trans h)]
  · rw [joinT_yes h, joinT_yes (hc.trans h)]
    have A := (topB_iff _ _ _).1 ha
    have B := (topB_iff _ _ _).1 hb
    rw [bothP_comm B.asc.up A.asc.up B.pos A.pos, show lb + la = la + lb by omega, show ab + aa = aa + ab by omega]
theorem topB_nothing : topB [] 0 0 = true := by decide
theorem join_nothing {ps : List Pr} {la aa : Int} (ha : topB ps la aa = true) : joinOk ps la aa [] 0 0 = true ∧ joinT ps la aa [] 0 0 = (ps, la, aa) := by
  have A := (topB_iff _ _ _).1 ha
  have h : joinOk ps la aa [] 0 0 = true := by
    unfold joinOk
    rw [ha, topB_nothing]
    have := A.1.2.2
    simp; omega
  refine ⟨h, ?_⟩
  rw [joinT_yes h]
  have e : bothP ps [] = ps := rfl
  rw [e]
  have o := overV_few A.1.1
  unfold cutP
  rw [o, lessV_zero A.pos]
  simp

theorem putP_two (ps : List Pr) (t n : Int) (hn : 2 ≤ n) : cntGe (putP ps (t, 1)) n ≤ ps.length := by
  induction ps with
  | nil => simp [putP, cntGe, List.filter_cons]; omega
  | cons q ps ih =>
    have := cntGe_le ps n
    unfold putP
    split
    · rw [cntGe_cons]; split <;> simp <;> omega
    · split
      · rw [cntGe_cons]; split <;> simp <;> omega
      · rw [cntGe_cons, cntGe_cons]; split <;> split <;> simp_all <;> omega
theorem tot_less {ps : List Pr} (h : Up ps) {n : Int} (hn : 0 ≤ n) (hp : ∀ p ∈ ps, 0 ≤ p.2) (t : Int) : tot (lessV ps n) t ≤ tot ps t ∧ tot ps t ≤ tot (lessV ps n) t + n := by
  unfold Up at h
  induction ps with
  | nil => simp [lessV, tot]; omega
  | cons p ps ih =>
    rw [List.pairwise_cons] at h
    have i := ih h.2 (fun q hq => hp q (by simp [hq]))
    have p0 := hp p (by simp)
    by_cases e : p.1 = t
    · have z : tot ps t = 0 := tot_none fun q hq => by have := h.1 q hq; omega
      have z' : tot (lessV ps n) t = 0 := tot_none fun q hq => by
        obtain ⟨q', hq', e', _⟩ := less_mem hq
        have := h.1 q' hq'; omega
      unfold lessV
      split <;> simp only [tot, e, if_true, z, z'] <;> omega
    · unfold lessV
      split <;> simp only [tot, if_neg e] <;> omega

/-- What a count adds. -/
theorem add_more {ps : List Pr} {lost all t : Int} (h : addOk ps lost all t = true) : topB (addT ps lost all t).1 (addT ps lost all t).2.1 (addT ps lost all t).2.2 = true ∧ (addT ps lost all t).2.2 = all + 1 ∧ (0 ≤ (addT ps lost all t).2.1 - lost ∧ (addT ps lost all t).2.1 - lost ≤ 1) ∧ tot (addT ps lost all t).1 t ≤ tot ps t + 1 ∧ tot ps t + lost ≤ tot (addT ps lost all t).1 t + (addT ps lost all t).2.1 := by
  refine ⟨?_, ?_⟩
  · have := join_top (ps := ps) (la := lost) (aa := all) (qs := [(t, 1)]) (lb := 0) (ab := 1) (by rw [joinOk_one]; exact h)
    rwa [joinT_one] at this
  rcases addOk_cases ps lost all t with ⟨_, h'⟩ | ⟨_, _, h'⟩ | ⟨_, _, _, h'⟩ | ⟨ha, ht, hs, _⟩
  · rw [h] at h'; cases h'
  · rw [h] at h'; cases h'
  · rw [h] at h'; cases h'
  rw [addT_yes h]
  have A := (topB_iff _ _ _).1 ha
  have up : Up (putP ps (t, 1)) := A.asc.up.put
  have pp : Pos (putP ps (t, 1)) := A.pos.put (by simp)
  have nn : ∀ p ∈ putP ps (t, 1), 0 ≤ p.2 := fun p hp => by have := pp p hp; omega
  have o0 := (cut_five nn).2
  have o1 : overV (putP ps (t, 1)) ≤ 1 := by
    refine Decidable.byContradiction fun hc => ?_
    rcases overK_is (putP ps (t, 1)) (k := (putP ps (t, 1)).length) (Nat.le_refl _) with e | ⟨i, hi, hk, e⟩
    · have e' : overV (putP ps (t, 1)) = 0 := e
      omega
    · have e' : (pr (putP ps (t, 1)) i).2 = overV (putP ps (t, 1)) := e
      have := putP_two ps t (pr (putP ps (t, 1)) i).2 (by omega)
      have := A.1.1
      omega
  obtain ⟨t1, t2⟩ := tot_less up o0 nn t
  have tp := tot_put ps (t, 1) t
  simp only [if_true] at tp
  refine ⟨rfl, ⟨by simp only; omega, by simp only; omega⟩, ?_, ?_⟩
  · show tot (lessV (putP ps (t, 1)) (overV (putP ps (t, 1)))) t ≤ _
    omega
  · show _ ≤ tot (lessV (putP ps (t, 1)) (overV (putP ps (t, 1)))) t + (lost + overV (putP ps (t, 1)))
    omega

theorem addT_len (ps : List Pr) (lost all t : Int) : (addT ps lost all t).1.length ≤ 4 := by
  cases h : addOk ps lost all t with
  | false => rw [addT_no h]; simp [noneT]
  | true => exact ((topB_iff _ _ _).1 (add_more h).1).1.1
theorem joinT_len (ps : List Pr) (la aa : Int) (qs : List Pr) (lb ab : Int) : (joinT ps la aa qs lb ab).1.length ≤ 4 := by
  cases h : joinOk ps la aa qs lb ab with
  | false => rw [joinT_no h]; simp [noneT]
  | true => exact ((topB_iff _ _ _).1 (join_top h)).1.1
/-- What the law asks of one counted once more. -/
structure AddMore (ps : List Pr) (lost all t : Int) (ns : List Pr) (nl na : Int) : Prop where
  was : topB ps lost all = true
  top : topB ns nl na = true
  thing : 0 ≤ t ∧ t < 64
  all' : 0 ≤ all ∧ all < 2000
  na' : na = all + 1
  nl' : 0 ≤ nl - lost ∧ nl - lost ≤ 1
  ge : tot ns t ≤ tot ps t + 1
  le : tot ps t + lost ≤ tot ns t + nl
  old : 0 ≤ tot ps t ∧ tot ps t ≤ 2000
  new : 0 ≤ tot ns t ∧ tot ns t ≤ 2000
  lost' : 0 ≤ lost ∧ lost ≤ 2000
theorem addMore {ps : List Pr} {lost all t : Int} (h : addOk ps lost all t = true) : AddMore ps lost all t (addT ps lost all t).1 (addT ps lost all t).2.1 (addT ps lost all t).2.2 := by
  obtain ⟨a, b, c, d, e⟩ := add_more h
  rcases addOk_cases ps lost all t with ⟨_, h'⟩ | ⟨_, _, h'⟩ | ⟨_, _, _, h'⟩ | ⟨ha, ht, hs, _⟩
  · rw [h] at h'; cases h'
  · rw [h] at h'; cases h'
  · rw [h] at h'; cases h'
  have A := (topB_iff _ _ _).1 ha
  have B := (topB_iff _ _ _).1 a
  exact ⟨ha, a, by omega, ⟨A.1.2.2.1, hs⟩, b, c, d, e, tot_bd A.2.1 A.asc, tot_bd B.2.1 B.asc, A.1.2.1⟩
theorem get_is {ps : List Pr} {lost all t : Int} (h : topB ps lost all = true) (ht : 0 ≤ t ∧ t < 64) : getL ps lost all t = tot ps t ∧ getM ps lost all t = tot ps t + lost := by
  rcases getOk_cases ps lost all t with ⟨h', _⟩ | ⟨_, h', _⟩ | ⟨_, _, h'⟩
  · rw [h] at h'; cases h'
  · omega
  · exact get_yes h'

end Go.Proofs.Ytnpogmhfdjmfdaa.T

/-
  What the law asks of two joined.
-/
namespace Go.Proofs.Ytnpogmhfdjmfdaa.T
open Go.RowKit Go.Sort

structure JoinMore (ps : List Pr) (la aa : Int) (qs : List Pr) (lb ab : Int) (ns : List Pr) (nl na : Int) : Prop where
  was : topB ps la aa = true
  top : topB ns nl na = true
  na' : na = aa + ab
  nl' : la + lb ≤ nl
  la' : 0 ≤ la ∧ la ≤ 2000
  lb' : 0 ≤ lb ∧ lb ≤ 2000
  al' : 0 ≤ aa ∧ 0 ≤ ab ∧ aa + ab ≤ 2000
theorem joinMore {ps qs : List Pr} {la aa lb ab : Int} (h : joinOk ps la aa qs lb ab = true) : JoinMore ps la aa qs lb ab (joinT ps la aa qs lb ab).1 (joinT ps la aa qs lb ab).2.1 (joinT ps la aa qs lb ab).2.2 := by
  have top := join_top h
  rcases joinOk_cases ps la aa qs lb ab with ⟨_, h'⟩ | ⟨_, _, h'⟩ | ⟨_, _, _, h'⟩ | ⟨ha, hb, hs, _⟩
  · rw [h] at h'; cases h'
  · rw [h] at h'; cases h'
  · rw [h] at h'; cases h'
  have A := (topB_iff _ _ _).1 ha
  have B := (topB_iff _ _ _).1 hb
  rw [joinT_yes h] at top ⊢
  have bp := (bothP_all ps qs A.asc.up A.pos B.pos).2.1
  have o0 := (cut_five (fun p hp => by have := bp p hp; omega : ∀ p ∈ bothP ps qs, 0 ≤ p.2)).2
  exact ⟨ha, top, rfl, by show la + lb ≤ la + lb + overV (bothP ps qs); omega, A.1.2.1, B.1.2.1, A.1.2.2.1, B.1.2.2.1, hs⟩

end Go.Proofs.Ytnpogmhfdjmfdaa.T
