/-
  Pairs of both together: the program's way, and its model's, come to the same.
-/
import Derived.Test.YtmlimjdmnonmpaaTImCut
namespace Go.Proofs.Ytmlimjdmnonmpaa
open Go.RowKit Go.Sort

/-- The things stand in ascending order, each once. -/
def Up (ps : List Pr) : Prop := ps.Pairwise (fun p q => p.1 < q.1)
def Pos (ps : List Pr) : Prop := ∀ p ∈ ps, 0 < p.2
theorem Asc.up {ps : List Pr} (h : Asc ps) : Up ps := by
  unfold Up
  rw [List.pairwise_iff_getElem]
  intro i j hi hj hij
  have := h.lt hij hj
  simpa [pr, hi, hj] using this
theorem Up.asc {ps : List Pr} (h : Up ps) : Asc ps := fun i h0 hi => by
  unfold Up at h
  rw [List.pairwise_iff_getElem] at h
  have := h (i - 1) i (by omega) hi (by omega)
  have h1 : i - 1 < ps.length := by omega
  simpa [pr, h1, hi] using this
theorem TopP.pos {ps : List Pr} {lost all : Int} (h : TopP ps lost all) : Pos ps := fun p hp => by
  obtain ⟨i, hi, rfl⟩ := pr_at hp
  have := (h.2.1 i hi).1.2
  omega

theorem up_ext : ∀ {L M : List Pr}, Up L → Up M → Pos L → Pos M → (∀ t, tot L t = tot M t) → L = M
  | [], [], _, _, _, _, _ => rfl
  | [], m :: M, _, hM, _, pM, h => by
    have h1 := h m.1
    have h2 : tot M m.1 = 0 := tot_none fun q hq => by have := (List.pairwise_cons.1 hM).1 q hq; omega
    have h3 := pM m (by simp)
    simp [tot, h2] at h1
    omega
  | l :: L, [], hL, _, pL, _, h => by
    have h1 := h l.1
    have h2 : tot L l.1 = 0 := tot_none fun q hq => by have := (List.pairwise_cons.1 hL).1 q hq; omega
    have h3 := pL l (by simp)
    simp [tot, h2] at h1
    omega
  | l :: L, m :: M, hL, hM, pL, pM, h => by
    have hL' := List.pairwise_cons.1 hL
    have hM' := List.pairwise_cons.1 hM
    have p1 := pL l (by simp)
    have p2 := pM m (by simp)
    have a1 : tot L l.1 = 0 := tot_none fun q hq => by have := hL'.1 q hq; omega
    have a2 : tot M m.1 = 0 := tot_none fun q hq => by have := hM'.1 q hq; omega
    have e1 : l.1 = m.1 := by
      rcases (by omega : l.1 < m.1 ∨ l.1 = m.1 ∨ m.1 < l.1) with hlt | he | hlt
      · have h1 := h l.1
        have a3 : tot M l.1 = 0 := tot_none fun q hq => by have := hM'.1 q hq; omega
        have : ¬ m.1 = l.1 := by omega
        simp [tot, a1, a3, this] at h1
        omega
      · exact he
      · have h1 := h m.1
        have a3 : tot L m.1 = 0 := tot_none fun q hq => by have := hL'.1 q hq; omega
        have : ¬ l.1 = m.1 := by omega
        simp [tot, a2, a3, this] at h1
        omega
    have e2 : l.2 = m.2 := by
      have h1 := h l.1
      rw [e1] at a1
      simp [tot, e1, a1, a2] at h1
      exact h1
    have e : l = m := Prod.ext e1 e2
    subst e
    congr 1
    refine up_ext hL'.2 hM'.2 (fun q hq => pL q (by simp [hq])) (fun q hq => pM q (by simp [hq])) fun t => ?_
    have h1 := h t
    simp only [tot] at h1
    omega

theorem tot_perm {ps qs : List Pr} (h : ps.Perm qs) (t : Int) : tot ps t = tot qs t := by
  induction h with
  | nil => rfl
  | cons x _ ih => simp only [tot, ih]
  | swap x y l => simp only [tot]; omega
  | trans _ _ ih1 ih2 => rw [ih1, ih2]

/-! ### the model's way -/
theorem tot_put (ps : List Pr) (x : Pr) (t : Int) : tot (putP ps x) t = tot ps t + if x.1 = t then x.2 else 0 := by
  induction ps with
  | nil => simp [putP, tot]
  | cons p ps ih =>
    unfold putP
    split
    · simp only [tot, ih]; omega
    · split
      · rename_i h1 h2
        simp only [tot, h2]
        split <;> omega
      · simp only [tot]; omega
theorem put_mem {ps : List Pr} {x q : Pr} (h : q ∈ putP ps x) : q.1 = x.1 ∨ q ∈ ps := by
  induction ps with
  | nil => simp [putP] at h; exact .inl (by rw [h])
  | cons p ps ih =>
    unfold putP at h
    split at h
    · rcases List.mem_cons.1 h with rfl | h
      · exact .inr (by simp)
      · rcases ih h with h | h
        · exact .inl h
        · exact .inr (by simp [h])
    · split at h
      · rcases List.mem_cons.1 h with rfl | h
        · exact .inl rfl
        · exact .inr (by simp [h])
      · rcases List.mem_cons.1 h with rfl | h
        · exact .inl rfl
        · exact .inr h
theorem Up.put {ps : List Pr} {x : Pr} (h : Up ps) : Up (putP ps x) := by
  induction ps with
  | nil => simp [putP, Up]
  | cons p ps ih =>
    have h' := List.pairwise_cons.1 h
    unfold putP
    split
    · rename_i hlt
      refine List.pairwise_cons.2 ⟨fun q hq => ?_, ih h'.2⟩
      rcases put_mem hq with e | hq
      · rw [e]; exact hlt
      · exact h'.1 q hq
    · split
      · rename_i h1 h2
        exact List.pairwise_cons.2 ⟨fun q hq => by have := h'.1 q hq; show x.1 < q.1; omega, h'.2⟩
      · rename_i h1 h2
        refine List.pairwise_cons.2 ⟨fun q hq => ?_, h⟩
        rcases List.mem_cons.1 hq with rfl | hq
        · omega
        · have := h'.1 q hq; omega
theorem Pos.put {ps : List Pr} {x : Pr} (h : Pos ps) (hx : 0 < x.2) : Pos (putP ps x) := by
  induction ps with
  | nil => intro q hq; simp [putP] at hq; rw [hq]; exact hx
  | cons p ps ih =>
    have h1 := h p (by simp)
    have h2 : Pos ps := fun q hq => h q (by simp [hq])
    intro q hq
    unfold putP at hq
    split at hq
    · rcases List.mem_cons.1 hq with rfl | hq
      · exact h1
      · exact ih h2 q hq
    · split at hq
      · rcases List.mem_cons.1 hq with rfl | hq
        · show 0 < x.2 + p.2; omega
        · exact h2 q hq
      · rcases List.mem_cons.1 hq with rfl | hq
        · exact hx
        · exact h q hq
/-- The pairs of both. -/
def bothP (ps qs : List Pr) : List Pr := qs.foldl putP ps
theorem bothP_all (ps qs : List Pr) (hu : Up ps) (hp : Pos ps) (hq : Pos qs) : Up (bothP ps qs) ∧ Pos (bothP ps qs) ∧ (bothP ps qs).length ≤ ps.length + qs.length ∧ ∀ t, tot (bothP ps qs) t = tot ps t + tot qs t := by
  induction qs generalizing ps with
  | nil => exact ⟨hu, hp, by simp [bothP], fun t => by simp [bothP, tot]⟩
  | cons q qs ih =>
    have h1 := ih (putP ps q) hu.put (hp.put (hq q (by simp))) (fun p hp => hq p (by simp [hp]))
    refine ⟨h1.1, h1.2.1, ?_, fun t => ?_⟩
    · have := h1.2.2.1
      have := putP_len ps q
      show (bothP (putP ps q) qs).length ≤ _
      simp
      omega
    · show tot (bothP (putP ps q) qs) t = _
      rw [h1.2.2.2 t, tot_put]
      simp only [tot]
      omega

/-! ### the program's way -/
theorem set_last {os : List Pr} {j : Nat} (h : os.length = j + 1) (x : Pr) : os = os.take j ++ [pr os j] ∧ os.set j x = os.take j ++ [x] := by
  have e := take_succ_pr os j (by omega)
  rw [← h, List.take_length] at e
  refine ⟨e, ?_⟩
  have hl : (os.take j).length = j := by simp; omega
  conv => lhs; rw [e]
  rw [List.set_append_right _ _ (by rw [hl]; exact Nat.le_refl _), hl, Nat.sub_self]
  rfl
theorem tot_mrg (os : List Pr) (p : Pr) (t : Int) : tot (mrg os p) t = tot os t + if p.1 = t then p.2 else 0 := by
  by_cases h : 0 < os.length ∧ (pr os (os.length - 1)).1 = p.1
  · rw [mrg_old h.1 h.2]
    obtain ⟨j, hj⟩ : ∃ j, os.length = j + 1 := ⟨os.length - 1, by omega⟩
    have e0 : os.length - 1 = j := by omega
    rw [e0] at h ⊢
    have e := set_last hj (p.1, (pr os j).2 + p.2)
    have e1 : tot os t = tot (os.take j) t + tot [pr os j] t := by rw [← tot_append, ← e.1]
    rw [e.2, tot_append, e1]
    simp only [tot, h.2]
    split <;> omega
  · rw [mrg_new h, tot_append]
    simp [tot]
theorem tot_mrgV (ss : List Pr) (t : Int) : ∀ {k : Nat}, k ≤ ss.length → tot (mrgV (ss.take k)) t = tot (ss.take k) t := by
  intro k
  induction k with
  | zero => intro _; simp [mrgV, tot]
  | succ k ih => intro hk; rw [mrgV_succ ss k hk, tot_mrg, ih (by omega), tot_succ ss k t hk]
theorem mrgV_up {ss : List Pr} (hs : SortedL cmpT ss) : ∀ {k : Nat}, k ≤ ss.length → Up (mrgV (ss.take k)) ∧ ∀ q ∈ mrgV (ss.take k), ∃ i, i < k ∧ q.1 = (pr ss i).1 := by
  intro k
  induction k with
  | zero => intro _; exact ⟨by simp [mrgV, Up], fun q hq => by simp [mrgV] at hq⟩
  | succ k ih =>
    intro hk
    have h := ih (by omega)
    rw [mrgV_succ ss k hk]
    generalize mrgV (ss.take k) = os at h ⊢
    have le : ∀ q ∈ os, q.1 ≤ (pr ss k).1 := fun q hq => by
      obtain ⟨i, hi, e⟩ := h.2 q hq
      have := (ltT_no _ _).1 (hs i k hi hk)
      omega
    by_cases hc : 0 < os.length ∧ (pr os (os.length - 1)).1 = (pr ss k).1
    · rw [mrg_old hc.1 hc.2]
      obtain ⟨j, hj⟩ : ∃ j, os.length = j + 1 := ⟨os.length - 1, by omega⟩
      have e0 : os.length - 1 = j := by omega
      rw [e0] at hc ⊢
      have e := set_last hj ((pr ss k).1, (pr os j).2 + (pr ss k).2)
      rw [e.2]
      have hu := h.1
      rw [e.1] at hu
      refine ⟨?_, fun q hq => ?_⟩
      · have hu' := List.pairwise_append.1 hu
        refine List.pairwise_append.2 ⟨hu'.1, by simp, fun a ha b hb => ?_⟩
        simp at hb
        subst hb
        have := hu'.2.2 a ha (pr os j) (by simp)
        show a.1 < (pr ss k).1
        rw [← hc.2]; exact this
      · rcases List.mem_append.1 hq with hq | hq
        · obtain ⟨i, hi, e3⟩ := h.2 q (List.mem_of_mem_take hq)
          exact ⟨i, by omega, e3⟩
        · simp at hq
          subst hq
          exact ⟨k, by omega, rfl⟩
    · rw [mrg_new hc]
      refine ⟨List.pairwise_append.2 ⟨h.1, by simp, fun a ha b hb => ?_⟩, fun q hq => ?_⟩
      · simp at hb
        subst hb
        have h0 : 0 < os.length := List.length_pos_of_mem ha
        have hl : (pr os (os.length - 1)).1 < (pr ss k).1 := by
          have h1 := le _ (pr_mem (ps := os) (i := os.length - 1) (by omega))
          have h2 : ¬ (pr os (os.length - 1)).1 = (pr ss k).1 := fun e => hc ⟨h0, e⟩
          omega
        obtain ⟨i, hi, rfl⟩ := pr_at ha
        by_cases e : i = os.length - 1
        · rw [e]; exact hl
        · have := (h.1.asc).lt (i := i) (j := os.length - 1) (by omega) (by omega); omega
      · rcases List.mem_append.1 hq with hq | hq
        · obtain ⟨i, hi, e3⟩ := h.2 q hq
          exact ⟨i, by omega, e3⟩
        · simp at hq
          subst hq
          exact ⟨k, by omega, rfl⟩
theorem Pos.mrg {os : List Pr} {p : Pr} (h : Pos os) (hp : 0 < p.2) : Pos (mrg os p) := by
  unfold Ytmlimjdmnonmpaa.mrg
  split
  · rename_i hc
    intro q hq
    have hl := h _ (pr_mem (ps := os) (i := os.length - 1) (by omega))
    rcases List.mem_or_eq_of_mem_set hq with h1 | h1
    · exact h q h1
    · rw [h1]; show 0 < _ + _; omega
  · intro q hq
    rcases List.mem_append.1 hq with h1 | h1
    · exact h q h1
    · simp at h1; subst h1; exact hp
theorem Pos.mrgV {ss : List Pr} (h : Pos ss) : ∀ {k : Nat}, k ≤ ss.length → Pos (mrgV (ss.take k)) := by
  intro k
  induction k with
  | zero => intro _ q hq; simp [Ytmlimjdmnonmpaa.mrgV] at hq
  | succ k ih => intro hk; rw [mrgV_succ ss k hk]; exact (ih (by omega)).mrg (h _ (pr_mem hk))
theorem mrgV_both {ps qs ss : List Pr} (hu : Up ps) (hp : Pos ps) (hq : Pos qs) (hperm : ss.Perm (ps ++ qs)) (hs : SortedL cmpT ss) : mrgV ss = bothP ps qs := by
  have hb := bothP_all ps qs hu hp hq
  have hpos : Pos ss := fun p hp' => by
    rcases List.mem_append.1 (hperm.mem_iff.1 hp') with h | h
    · exact hp p h
    · exact hq p h
  have e : ss.take ss.length = ss := List.take_length
  have h1 := (mrgV_up hs (Nat.le_refl _)).1
  have h2 := hpos.mrgV (Nat.le_refl _)
  have h3 := fun t => tot_mrgV ss t (Nat.le_refl _)
  rw [e] at h1 h2 h3
  exact up_ext h1 hb.1 h2 hb.2.1 fun t => by rw [h3 t, tot_perm hperm, tot_append, hb.2.2.2 t]
theorem bothP_comm {ps qs : List Pr} (hu : Up ps) (hv : Up qs) (hp : Pos ps) (hq : Pos qs) : bothP ps qs = bothP qs ps := by
  have a := bothP_all ps qs hu hp hq
  have b := bothP_all qs ps hv hq hp
  exact up_ext a.1 b.1 a.2.1 b.2.1 fun t => by rw [a.2.2.2, b.2.2.2]; omega

end Go.Proofs.Ytmlimjdmnonmpaa
