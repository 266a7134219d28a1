/-
  What is told of knots that were counted once more, or joined.
-/
import Derived.Test.YtnpcgbjkahpcfaaKLen
import Derived.Test.YtnpcgbjkahpcfaaKIm3
namespace Go.Proofs.Ytnpcgbjkahpcfaa

theorem joinK_say {ps qs : List Pr} {a b : Int} (h : joinOkK ps a qs b = true) :
    RankP ps a ∧ RankP qs b ∧ joinOkK qs b ps a = true ∧ joinK qs b ps a = joinK ps a qs b ∧ (joinK ps a qs b).2 = a + b ∧ RankP (joinK ps a qs b).1 (joinK ps a qs b).2 ∧
      ∀ t : Int, leastP (joinK ps a qs b).1 t ≤ leastP ps t + leastP qs t ∧ mostP ps t + mostP qs t ≤ mostP (joinK ps a qs b).1 t := by
  obtain ⟨ka, kb, hs⟩ := joinOkK_yes h
  have PA := (rankB_iff _ _).1 ka
  have PB := (rankB_iff _ _).1 kb
  have hb : joinOkK qs b ps a = true := by
    unfold joinOkK
    rw [ka, kb]
    simp; omega
  rw [joinK_yes h, joinK_yes hb]
  refine ⟨PA, PB, hb, ?_, rfl, both_ok PA PB hs, fun t => ⟨both_least PA PB t, both_most PA PB t⟩⟩
  rw [both_comm PB PA, Int.add_comm]
theorem addK_say {ps : List Pr} {a t : Int} (h : addOkK ps a t = true) :
    RankP ps a ∧ (0 ≤ t ∧ t ≤ 63) ∧ (addK ps a t).2 = a + 1 ∧ RankP (addK ps a t).1 (addK ps a t).2 ∧
      ∀ i : Int, leastP (addK ps a t).1 i ≤ leastP ps i + (if t ≤ i then 1 else 0) ∧ mostP ps i + (if t ≤ i then 1 else 0) ≤ mostP (addK ps a t).1 i := by
  obtain ⟨ka, ht, hs⟩ := addOkK_yes h
  have J := add_join ps a t ht
  rw [← J.1] at h
  obtain ⟨p1, p2, p3, p4, p5, p6, p7⟩ := joinK_say h
  rw [← J.2]
  refine ⟨p1, ht, p5, p6, fun i => ?_⟩
  have := p7 i
  rw [one_least t i ht, one_most t i ht] at this
  exact this
/-- What is told, in bounds. -/
theorem below_in {ps : List Pr} {a t : Int} (h : RankP ps a) (t0 : 0 ≤ t) (t1 : t ≤ 63) : (0 ≤ leastP ps t ∧ leastP ps t ≤ 2000) ∧ 0 ≤ mostP ps t ∧ mostP ps t ≤ 2000 := by
  have g := gap_six h t0 t1
  have b := below_all h
  have m := below_mono (ps := ps) (fun p hp => by have := (h.num p hp).1; omega) t1
  have z : 0 ≤ leastP ps t := by
    have : ∀ ps : List Pr, (∀ p ∈ ps, 0 ≤ p.2) → 0 ≤ leastP ps t := by
      intro ps
      induction ps with
      | nil => intro _; exact Int.le_refl _
      | cons p ps ih =>
        intro hn
        have := ih (fun q hq => hn q (List.mem_cons_of_mem _ hq))
        have := hn p (List.mem_cons_self ..)
        simp only [leastP]
        split <;> omega
    exact this ps (fun p hp => by have := (h.num p hp).1; omega)
  have := h.1
  omega

end Go.Proofs.Ytnpcgbjkahpcfaa
