/-
  What is kept is one again; joined either way, and with nothing; what a count adds.
-/
import Derived.Test.YtmlimjdmnonmpaaTJoin2
namespace Go.Proofs.Ytmlimjdmnonmpaa
open Go.RowKit Go.Sort

/-- The sum of the numbers. -/
def sumL : List Pr → Int
  | [] => 0
  | p :: ps => p.2 + sumL ps
theorem sumL_append (ps qs : List Pr) : sumL (ps ++ qs) = sumL ps + sumL qs := by
  induction ps with
  | nil => simp [sumL]
  | cons p ps ih => simp only [List.cons_append, sumL, ih]; omega
theorem sumL_nonneg {ps : List Pr} (h : ∀ p ∈ ps, 0 ≤ p.2) : 0 ≤ sumL ps := by
  induction ps with
  | nil => simp [sumL]
  | cons p ps ih =>
    have := h p (by simp)
    have := ih (fun q hq => h q (by simp [hq]))
    simp only [sumL]; omega
theorem sumL_mem {ps : List Pr} (h : ∀ p ∈ ps, 0 ≤ p.2) {p : Pr} (hp : p ∈ ps) : p.2 ≤ sumL ps := by
  induction ps with
  | nil => cases hp
  | cons q ps ih =>
    have h0 := h q (by simp)
    have h1 := sumL_nonneg (fun q hq => h q (by simp [hq]) : ∀ q ∈ ps, 0 ≤ q.2)
    simp only [sumL]
    rcases List.mem_cons.1 hp with rfl | hp
    · omega
    · have := ih (fun q hq => h q (by simp [hq])) hp
      omega
theorem sumL_put (ps : List Pr) (x : Pr) : sumL (putP ps x) = sumL ps + x.2 := by
  induction ps with
  | nil => simp [putP, sumL]
  | cons q ps ih =>
    unfold putP
    split
    · simp only [sumL, ih]; omega
    · split
      · simp only [sumL]; omega
      · simp only [sumL]; omega
theorem sumL_both (ps qs : List Pr) : sumL (bothP ps qs) = sumL ps + sumL qs := by
  unfold bothP
  induction qs generalizing ps with
  | nil => simp [sumL]
  | cons q qs ih =>
    simp only [List.foldl_cons, sumL, ih, sumL_put]; omega
theorem cntGe_cons (p : Pr) (ps : List Pr) (n : Int) : cntGe (p :: ps) n = cntGe ps n + if n ≤ p.2 then 1 else 0 := by
  unfold cntGe
  by_cases h : n ≤ p.2 <;> simp [List.filter_cons, h]
theorem sumL_less {ps : List Pr} {n : Int} (hn : 0 ≤ n) (h : ∀ p ∈ ps, 0 ≤ p.2) : sumL (lessV ps n) + n * (cntGe ps n : Int) ≤ sumL ps := by
  induction ps with
  | nil => simp [lessV, sumL, cntGe]
  | cons p ps ih =>
    have h0 := h p (by simp)
    have := ih (fun q hq => h q (by simp [hq]))
    rw [cntGe_cons]
    unfold lessV
    by_cases h1 : n < p.2
    · rw [if_pos h1, if_pos (by omega)]
      simp only [sumL]
      rw [show ((cntGe ps n + 1 : Nat) : Int) = (cntGe ps n : Int) + 1 by omega, Int.mul_add]
      omega
    · rw [if_neg h1]
      simp only [sumL]
      by_cases h2 : n ≤ p.2
      · rw [if_pos h2, show ((cntGe ps n + 1 : Nat) : Int) = (cntGe ps n : Int) + 1 by omega, Int.mul_add]
        omega
      · rw [if_neg h2, Nat.add_zero]; omega
theorem less_mem {ps : List Pr} {n : Int} {p : Pr} (h : p ∈ lessV ps n) : ∃ q ∈ ps, q.1 = p.1 ∧ n < q.2 ∧ p.2 = q.2 - n := by
  induction ps with
  | nil => cases h
  | cons q ps ih =>
    unfold lessV at h
    split at h
    · rcases List.mem_cons.1 h with rfl | h
      · exact ⟨q, by simp, rfl, by assumption, rfl⟩
      · obtain ⟨q', hq, r⟩ := ih h
        exact ⟨q', by simp [hq], r⟩
    · obtain ⟨q', hq, r⟩ := ih h
      exact ⟨q', by simp [hq], r⟩
theorem Up.less {ps : List Pr} (h : Up ps) (n : Int) : Up (lessV ps n) := by
  unfold Up at h ⊢
  induction ps with
  | nil => simp [lessV]
  | cons p ps ih =>
    rw [List.pairwise_cons] at h
    unfold lessV
    split
    · rw [List.pairwise_cons]
      refine ⟨fun q hq => ?_, ih h.2⟩
      obtain ⟨q', hq', e, _⟩ := less_mem hq
      have := h.1 q' hq'
      simp only
      omega
    · exact ih h.2
theorem less_len (ps : List Pr) (n : Int) : (lessV ps n).length ≤ cntGe ps (n + 1) := by
  induction ps with
  | nil => simp [lessV]
  | cons p ps ih =>
    rw [cntGe_cons]
    unfold lessV
    split
    · rw [if_pos (by omega)]; simp; omega
    · omega
theorem cntGe_mono (ps : List Pr) {m n : Int} (h : m ≤ n) : cntGe ps n ≤ cntGe ps m := by
  induction ps with
  | nil => simp [cntGe]
  | cons p ps ih =>
    rw [cntGe_cons, cntGe_cons]
    split <;> split <;> omega
theorem cntGe_least {ps : List Pr} {n : Int} (h : 0 < cntGe ps n) : ∃ i, i < ps.length ∧ n ≤ (pr ps i).2 ∧ cntGe ps (pr ps i).2 = cntGe ps n := by
  -- the least number of those that have at least n
  have h' : ∃ l : List Pr, l = ps.filter fun p => decide (n ≤ p.2) := ⟨_, rfl⟩
  obtain ⟨l, hl⟩ := h'
  have key : ∀ l : List Pr, l ≠ [] → ∃ p ∈ l, ∀ q ∈ l, p.2 ≤ q.2 := by
    intro l
    induction l with
    | nil => intro h; exact absurd rfl h
    | cons x l ih =>
      intro _
      by_cases e : l = []
      · subst e; exact ⟨x, by simp, by simp⟩
      · obtain ⟨p, hp, hq⟩ := ih e
        by_cases hx : x.2 ≤ p.2
        · refine ⟨x, by simp, fun q hq' => ?_⟩
          rcases List.mem_cons.1 hq' with rfl | hq'
          · omega
          · have := hq q hq'; omega
        · refine ⟨p, by simp [hp], fun q hq' => ?_⟩
          rcases List.mem_cons.1 hq' with rfl | hq'
          · omega
          · exact hq q hq'
  have hne : l ≠ [] := by
    intro e
    unfold cntGe at h
    rw [← hl, e] at h
    simp at h
  obtain ⟨p, hp, hq⟩ := key l hne
  rw [hl] at hp
  have hp2 := List.mem_filter.1 hp
  obtain ⟨i, hi, rfl⟩ := pr_at hp2.1
  have hn : n ≤ (pr ps i).2 := by simpa using hp2.2
  refine ⟨i, hi, hn, Nat.le_antisymm (cntGe_mono ps hn) ?_⟩
  unfold cntGe
  have : ∀ ms : List Pr, (∀ q ∈ ms, n ≤ q.2 → (pr ps i).2 ≤ q.2) → (ms.filter fun p => decide (n ≤ p.2)).length ≤ (ms.filter fun p => decide ((pr ps i).2 ≤ p.2)).length := by
    intro ms
    induction ms with
    | nil => intro _; simp
    | cons x ms ih =>
      intro hm
      have := ih (fun q hq => hm q (by simp [hq]))
      have hx := hm x (by simp)
      by_cases h1 : n ≤ x.2
      · have := hx h1
        simp [List.filter_cons, h1, this]; omega
      · by_cases h2 : (pr ps i).2 ≤ x.2
        · simp [List.filter_cons, h1, h2]; omega
        · simp [List.filter_cons, h1, h2]; omega
  exact this ps (fun q hqm hqn => hq q (by rw [hl]; exact List.mem_filter.2 ⟨hqm, by simpa using hqn⟩))

/-- Behind a cut at most four are left. -/
theorem cut_four {ps : List Pr} (h : ∀ p ∈ ps, 0 ≤ p.2) : (cutP ps).length ≤ 4 := by
  refine Decidable.byContradiction fun hc => ?_
  have h1 := less_len ps (overV ps)
  unfold cutP at hc
  have h2 : 4 < cntGe ps (overV ps + 1) := by omega
  obtain ⟨i, hi, hn, he⟩ := cntGe_least (ps := ps) (n := overV ps + 1) (by omega)
  have := overK_ge (ps := ps) (k := ps.length) (i := i) hi (by omega)
  have e : overV ps = overK ps ps.length := rfl
  omega
/-- What a cut takes is of five at least. -/
theorem cut_five {ps : List Pr} (h : ∀ p ∈ ps, 0 ≤ p.2) : sumL (cutP ps) + overV ps * 5 ≤ sumL ps ∧ 0 ≤ overV ps := by
  have ov : 0 ≤ overV ps ∧ (0 < overV ps → 5 ≤ cntGe ps (overV ps)) := by
    rcases overK_is ps (k := ps.length) (Nat.le_refl _) with e | ⟨i, hi, hc, e⟩
    · have e' : overV ps = 0 := e
      omega
    · have e' : (pr ps i).2 = overV ps := e
      have := h _ (pr_mem hi)
      rw [e'] at hc this
      omega
  refine ⟨?_, ov.1⟩
  have hs := sumL_less ov.1 h
  by_cases h0 : 0 < overV ps
  · have h5 := ov.2 h0
    have : overV ps * 5 ≤ overV ps * (cntGe ps (overV ps) : Int) := Int.mul_le_mul_of_nonneg_left (by omega) ov.1
    unfold cutP
    omega
  · have e0 : overV ps = 0 := by omega
    unfold cutP
    rw [e0] at hs ⊢
    omega

theorem sumP_sumL (ps : List Pr) : sumP ps = sumL ps := by
  induction ps with
  | nil => rfl
  | cons p ps ih => simp [sumP, sumL] at ih ⊢; omega

theorem both_thing {ps qs : List Pr} {la aa lb ab : Int} (A : TopP ps la aa) (B : TopP qs lb ab) {q : Pr} (h : q ∈ bothP ps qs) : 0 ≤ q.1 ∧ q.1 ≤ 63 := by
  have key : ∀ (qs ps : List Pr), (∀ p ∈ ps, 0 ≤ p.1 ∧ p.1 ≤ 63) → (∀ p ∈ qs, 0 ≤ p.1 ∧ p.1 ≤ 63) → ∀ q ∈ bothP ps qs, 0 ≤ q.1 ∧ q.1 ≤ 63 := by
    intro qs
    induction qs with
    | nil => intro ps h1 _ q hq; exact h1 q hq
    | cons x qs ih =>
      intro ps h1 h2 q hq
      refine ih (putP ps x) (fun p hp => ?_) (fun p hp => h2 p (by simp [hp])) q hq
      rcases put_mem hp with e | hp
      · rw [e]; exact h2 x (by simp)
      · exact h1 p hp
  refine key qs ps (fun p hp => ?_) (fun p hp => ?_) q h
  · obtain ⟨i, hi, rfl⟩ := pr_at hp
    exact (A.2.1 i hi).1.1
  · obtain ⟨i, hi, rfl⟩ := pr_at hp
    exact (B.2.1 i hi).1.1

theorem TopP.nonneg {ps : List Pr} {lost all : Int} (h : TopP ps lost all) : ∀ p ∈ ps, 0 ≤ p.2 := fun p hp => by
  have := h.pos p hp; omega
/-- Joined it is in form again. -/
theorem join_top {ps qs : List Pr} {la aa lb ab : Int} (h : joinOk ps la aa qs lb ab = true) : topB (joinT ps la aa qs lb ab).1 (joinT ps la aa qs lb ab).2.1 (joinT ps la aa qs lb ab).2.2 = true := by
  rcases joinOk_cases ps la aa qs lb ab with ⟨_, h'⟩ | ⟨_, _, h'⟩ | ⟨_, _, _, h'⟩ | ⟨ha, hb, hs, _⟩
  · rw [h] at h'; cases h'
  · rw [h] at h'; cases h'
  · rw [h] at h'; cases h'
  rw [joinT_yes h]
  have A := (topB_iff _ _ _).1 ha
  have B := (topB_iff _ _ _).1 hb
  obtain ⟨bu, bp, _, bt⟩ := bothP_all ps qs A.asc.up A.pos B.pos
  have nn : ∀ p ∈ bothP ps qs, 0 ≤ p.2 := fun p hp => by have := bp p hp; omega
  have c4 := cut_four nn
  obtain ⟨c5, o0⟩ := cut_five nn
  have sb := sumL_both ps qs
  have fa := A.2.2
  have fb := B.2.2
  have a1 := A.1.2
  have b1 := B.1.2
  rw [sumP_sumL] at fa fb
  have cn : ∀ p ∈ cutP (bothP ps qs), 0 < p.2 := fun p hp => by
    obtain ⟨q, _, _, h1, h2⟩ := less_mem hp
    omega
  have cu : Up (cutP (bothP ps qs)) := bu.less _
  have cs := sumL_nonneg (fun p hp => by have := cn p hp; omega : ∀ p ∈ cutP (bothP ps qs), 0 ≤ p.2)
  show topB (cutP (bothP ps qs)) (la + lb + overV (bothP ps qs)) (aa + ab) = true
  refine (topB_iff _ _ _).2 ⟨⟨c4, ⟨by omega, by omega⟩, by omega, by omega⟩, fun i hi => ⟨⟨?_, ?_⟩, fun h0 => cu.asc i h0 hi⟩, by rw [sumP_sumL]; omega⟩
  · obtain ⟨q, hq, e, _⟩ := less_mem (pr_mem hi)
    have := both_thing A B hq
    rw [e] at this
    exact this
  · have m1 := cn _ (pr_mem hi)
    have m2 := sumL_mem (fun p hp => by have := cn p hp; omega : ∀ p ∈ cutP (bothP ps qs), 0 ≤ p.2) (pr_mem hi)
    omega

theorem joinOk_comm (ps : List Pr) (la aa : Int) (qs : List Pr) (lb ab : Int) : joinOk qs lb ab ps la aa = joinOk ps la aa qs lb ab := by
  unfold joinOk
  rw [show ab + aa = aa + ab by omega]
  cases topB ps la aa <;> cases topB qs lb ab <;> rfl
theorem joinT_comm (ps : List Pr) (la aa : Int) (qs : List Pr) (lb ab : Int) : joinT qs lb ab ps la aa = joinT ps la aa qs lb ab := by
  have hc := joinOk_comm ps la aa qs lb ab
  rcases joinOk_cases ps la aa qs lb ab with ⟨_, h⟩ | ⟨_, _, h⟩ | ⟨_, _, _, h⟩ | ⟨ha, hb, hs, h⟩
  · rw [joinT_no h, joinT_no (hc.trans h)]
  · rw [joinT_no h, joinT_no (hc.trans h)]
  · rw [joinT_no h, joinT_no (hc.trans h)]
  · rw [joinT_yes h, joinT_yes (hc.trans h)]
    have A := (topB_iff _ _ _).1 ha
    have B := (topB_iff _ _ _).1 hb
    rw [bothP_comm B.asc.up A.asc.up B.pos A.pos, show lb + la = la + lb by omega, show ab + aa = aa + ab by omega]
theorem topB_nothing : topB [] 0 0 = true := by decide
theorem join_nothing {ps : List Pr} {la aa : Int} (ha : topB ps la aa = true) : joinOk ps la aa [] 0 0 = true ∧ joinT ps la aa [] 0 0 = (ps, la, aa) := by
  have A := (topB_iff _ _ _).1 ha
  have h : joinOk ps la aa [] 0 0 = true := by
    unfold joinOk
    rw [ha, topB_nothing]
    have := A.1.2.2
    simp; omega
  refine ⟨h, ?_⟩
  rw [joinT_yes h]
  have e : bothP ps [] = ps := rfl
  rw [e]
  have o := overV_few A.1.1
  unfold cutP
  rw [o, lessV_zero A.pos]
  simp

theorem putP_two (ps : List Pr) (t n : Int) (hn : 2 ≤ n) : cntGe (putP ps (t, 1)) n ≤ ps.length := by
  induction ps with
  | nil => simp [putP, cntGe, List.filter_cons]; omega
  | cons q ps ih =>
    have := cntGe_le ps n
    unfold putP
    split
    · rw [cntGe_cons]; split <;> simp <;> omega
    · split
      · rw [cntGe_cons]; split <;> simp <;> omega
      · rw [cntGe_cons, cntGe_cons]; split <;> split <;> simp_all <;> omega
theorem tot_less {ps : List Pr} (h : Up ps) {n : Int} (hn : 0 ≤ n) (hp : ∀ p ∈ ps, 0 ≤ p.2) (t : Int) : tot (lessV ps n) t ≤ tot ps t ∧ tot ps t ≤ tot (lessV ps n) t + n := by
  unfold Up at h
  induction ps with
  | nil => simp [lessV, tot]; omega
  | cons p ps ih =>
    rw [List.pairwise_cons] at h
    have i := ih h.2 (fun q hq => hp q (by simp [hq]))
    have p0 := hp p (by simp)
    by_cases e : p.1 = t
    · have z : tot ps t = 0 := tot_none fun q hq => by have := h.1 q hq; omega
      have z' : tot (lessV ps n) t = 0 := tot_none fun q hq => by
        obtain ⟨q', hq', e', _⟩ := less_mem hq
        have := h.1 q' hq'; omega
      unfold lessV
      split <;> simp only [tot, e, if_true, z, z'] <;> omega
    · unfold lessV
      split <;> simp only [tot, if_neg e] <;> omega

/-- What a count adds. -/
theorem add_more {ps : List Pr} {lost all t : Int} (h : addOk ps lost all t = true) : topB (addT ps lost all t).1 (addT ps lost all t).2.1 (addT ps lost all t).2.2 = true ∧ (addT ps lost all t).2.2 = all + 1 ∧ (0 ≤ (addT ps lost all t).2.1 - lost ∧ (addT ps lost all t).2.1 - lost ≤ 1) ∧ tot (addT ps lost all t).1 t ≤ tot ps t + 1 ∧ tot ps t + lost ≤ tot (addT ps lost all t).1 t + (addT ps lost all t).2.1 := by
  refine ⟨?_, ?_⟩
  · have := join_top (ps := ps) (la := lost) (aa := all) (qs := [(t, 1)]) (lb := 0) (ab := 1) (by rw [joinOk_one]; exact h)
    rwa [joinT_one] at this
  rcases addOk_cases ps lost all t with ⟨_, h'⟩ | ⟨_, _, h'⟩ | ⟨_, _, _, h'⟩ | ⟨ha, ht, hs, _⟩
  · rw [h] at h'; cases h'
  · rw [h] at h'; cases h'
  · rw [h] at h'; cases h'
  rw [addT_yes h]
  have A := (topB_iff _ _ _).1 ha
  have up : Up (putP ps (t, 1)) := A.asc.up.put
  have pp : Pos (putP ps (t, 1)) := A.pos.put (by simp)
  have nn : ∀ p ∈ putP ps (t, 1), 0 ≤ p.2 := fun p hp => by have := pp p hp; omega
  have o0 := (cut_five nn).2
  have o1 : overV (putP ps (t, 1)) ≤ 1 := by
    refine Decidable.byContradiction fun hc => ?_
    rcases overK_is (putP ps (t, 1)) (k := (putP ps (t, 1)).length) (Nat.le_refl _) with e | ⟨i, hi, hk, e⟩
    · have e' : overV (putP ps (t, 1)) = 0 := e
      omega
    · have e' : (pr (putP ps (t, 1)) i).2 = overV (putP ps (t, 1)) := e
      have := putP_two ps t (pr (putP ps (t, 1)) i).2 (by omega)
      have := A.1.1
      omega
  obtain ⟨t1, t2⟩ := tot_less up o0 nn t
  have tp := tot_put ps (t, 1) t
  simp only [if_true] at tp
  refine ⟨rfl, ⟨by simp only; omega, by simp only; omega⟩, ?_, ?_⟩
  · show tot (lessV (putP ps (t, 1)) (overV (putP ps (t, 1)))) t ≤ _
    omega
  · show _ ≤ tot (lessV (putP ps (t, 1)) (overV (putP ps (t, 1)))) t + (lost + overV (putP ps (t, 1)))
    omega

theorem addT_len (ps : List Pr) (lost all t : Int) : (addT ps lost all t).1.length ≤ 4 := by
  cases h : addOk ps lost all t with
  | false => rw [addT_no h]; simp [noneT]
  | true => exact ((topB_iff _ _ _).1 (add_more h).1).1.1
theorem joinT_len (ps : List Pr) (la aa : Int) (qs : List Pr) (lb ab : Int) : (joinT ps la aa qs lb ab).1.length ≤ 4 := by
  cases h : joinOk ps la aa qs lb ab with
  | false => rw [joinT_no h]; simp [noneT]
  | true => exact ((topB_iff _ _ _).1 (join_top h)).1.1
/-- What the law asks of one counted once more. -/
structure AddMore (ps : List Pr) (lost all t : Int) (ns : List Pr) (nl na : Int) : Prop where
  was : topB ps lost all = true
  top : topB ns nl na = true
  thing : 0 ≤ t ∧ t < 64
  all' : 0 ≤ all ∧ all < 2000
  na' : na = all + 1
  nl' : 0 ≤ nl - lost ∧ nl - lost ≤ 1
  ge : tot ns t ≤ tot ps t + 1
  le : tot ps t + lost ≤ tot ns t + nl
  old : 0 ≤ tot ps t ∧ tot ps t ≤ 2000
  new : 0 ≤ tot ns t ∧ tot ns t ≤ 2000
  lost' : 0 ≤ lost ∧ lost ≤ 2000
theorem addMore {ps : List Pr} {lost all t : Int} (h : addOk ps lost all t = true) : AddMore ps lost all t (addT ps lost all t).1 (addT ps lost all t).2.1 (addT ps lost all t).2.2 := by
  obtain ⟨a, b, c, d, e⟩ := add_more h
  rcases addOk_cases ps lost all t with ⟨_, h'⟩ | ⟨_, _, h'⟩ | ⟨_, _, _, h'⟩ | ⟨ha, ht, hs, _⟩
  · rw [h] at h'; cases h'
  · rw [h] at h'; cases h'
  · rw [h] at h'; cases h'
  have A := (topB_iff _ _ _).1 ha
  have B := (topB_iff _ _ _).1 a
  exact ⟨ha, a, by omega, ⟨A.1.2.2.1, hs⟩, b, c, d, e, tot_bd A.2.1 A.asc, tot_bd B.2.1 B.asc, A.1.2.1⟩
theorem get_is {ps : List Pr} {lost all t : Int} (h : topB ps lost all = true) (ht : 0 ≤ t ∧ t < 64) : getL ps lost all t = tot ps t ∧ getM ps lost all t = tot ps t + lost := by
  rcases getOk_cases ps lost all t with ⟨h', _⟩ | ⟨_, h', _⟩ | ⟨_, _, h'⟩
  · rw [h] at h'; cases h'
  · omega
  · exact get_yes h'

end Go.Proofs.Ytmlimjdmnonmpaa
