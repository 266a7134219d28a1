/-
  Several texts in one: TLess, TSpAdd.
-/
import Derived.Test.YtnpogmhfdjmfdaaTa
set_option linter.unusedVariables false
/-
  What is left when so much is taken from each: the model's l3Less, and l3Cut.
-/
namespace Go.Proofs.Ytnpogmhfdjmfdaa.T
open Go.RowKit Go.Sort

/-- So much less of each, without those that have nothing then. -/
def lessV : List Pr → Int → List Pr
  | [], _ => []
  | p :: ps, n => if n < p.2 then (p.1, p.2 - n) :: lessV ps n else lessV ps n
theorem lessV_append (ps qs : List Pr) (n : Int) : lessV (ps ++ qs) n = lessV ps n ++ lessV qs n := by
  induction ps with
  | nil => rfl
  | cons p ps ih =>
    simp only [List.cons_append, lessV]
    split <;> simp [ih]
theorem lessV_len (ps : List Pr) (n : Int) : (lessV ps n).length ≤ ps.length := by
  induction ps with
  | nil => simp [lessV]
  | cons p ps ih => unfold lessV; split <;> simp <;> omega
theorem lessV_succ (ps : List Pr) (k : Nat) (n : Int) (h : k < ps.length) : lessV (ps.take (k + 1)) n = lessV (ps.take k) n ++ if n < (pr ps k).2 then [((pr ps k).1, (pr ps k).2 - n)] else [] := by
  rw [take_succ_pr ps k h, lessV_append]
  simp only [lessV]

end Go.Proofs.Ytnpogmhfdjmfdaa.T

/-
  Counted once: the model's TopAdd.
-/
namespace Go.Proofs.Ytnpogmhfdjmfdaa.T
open Go.RowKit Go.Sort

def BdP (M : Int) (ps : List Pr) : Prop := ∀ p ∈ ps, 0 ≤ p.2 ∧ p.2 ≤ M
theorem BdP.at {M : Int} {ps : List Pr} (h : BdP M ps) : ∀ i, i < ps.length → 0 ≤ (pr ps i).2 ∧ (pr ps i).2 ≤ M := fun _ hi => h _ (pr_mem hi)
theorem BdP.mono {M N : Int} {ps : List Pr} (h : BdP M ps) (hM : M ≤ N) : BdP N ps := fun p hp => by have := h p hp; omega
theorem BdP.put {M : Int} {ps : List Pr} {x : Pr} (h : BdP M ps) (hM : 0 ≤ M) (hx : 0 ≤ x.2) : BdP (M + x.2) (putP ps x) := by
  induction ps with
  | nil => intro p hp; simp [putP] at hp; subst hp; omega
  | cons q ps ih =>
    have hq := h q (by simp)
    have ht : BdP M ps := fun p hp => h p (by simp [hp])
    intro p hp
    unfold putP at hp
    split at hp
    · rcases List.mem_cons.1 hp with rfl | hp
      · omega
      · exact ih ht p hp
    · split at hp
      · rcases List.mem_cons.1 hp with rfl | hp
        · exact ⟨by simp; omega, by simp; omega⟩
        · have := ht p hp; omega
      · rcases List.mem_cons.1 hp with rfl | hp
        · omega
        · rcases List.mem_cons.1 hp with rfl | hp
          · omega
          · have := ht p hp; omega
theorem TopP.bd {ps : List Pr} {lost all : Int} (h : TopP ps lost all) : BdP 2000 ps := fun p hp => by
  obtain ⟨i, hi, rfl⟩ := pr_at hp
  have := (h.2.1 i hi).1.2
  omega

/-- What is kept behind a cut. -/
def cutP (ps : List Pr) : List Pr := lessV ps (overV ps)
theorem cutP_len (ps : List Pr) : (cutP ps).length ≤ ps.length := lessV_len _ _
/-- Pairs, lost, all. -/
abbrev Tp := List Pr × Int × Int
def noneT : Tp := ([], 0, 0)
def addOk (ps : List Pr) (lost all t : Int) : Bool := topB ps lost all && (isT t && decide (all < 2000))
def addT (ps : List Pr) (lost all t : Int) : Tp := if addOk ps lost all t then (cutP (putP ps (t, 1)), lost + overV (putP ps (t, 1)), all + 1) else noneT
theorem addT_no {ps : List Pr} {lost all t : Int} (h : addOk ps lost all t = false) : addT ps lost all t = noneT := by simp [addT, h]
theorem addT_yes {ps : List Pr} {lost all t : Int} (h : addOk ps lost all t = true) : addT ps lost all t = (cutP (putP ps (t, 1)), lost + overV (putP ps (t, 1)), all + 1) := by simp [addT, h]
theorem addOk_cases (ps : List Pr) (lost all t : Int) : (topB ps lost all = false ∧ addOk ps lost all t = false) ∨ (topB ps lost all = true ∧ (t < 0 ∨ 63 < t) ∧ addOk ps lost all t = false) ∨ (topB ps lost all = true ∧ (0 ≤ t ∧ t ≤ 63) ∧ 2000 ≤ all ∧ addOk ps lost all t = false) ∨ (topB ps lost all = true ∧ (0 ≤ t ∧ t ≤ 63) ∧ all < 2000 ∧ addOk ps lost all t = true) := by
  unfold addOk
  cases h : topB ps lost all
  · exact .inl ⟨rfl, rfl⟩
  · cases h' : isT t
    · exact .inr (.inl ⟨rfl, by have := isT_no h'; omega, rfl⟩)
    · have := isT_yes h'
      by_cases ha : all < 2000
      · exact .inr (.inr (.inr ⟨rfl, by omega, ha, by simp [ha]⟩))
      · exact .inr (.inr (.inl ⟨rfl, by omega, by omega, by simp [ha]⟩))

end Go.Proofs.Ytnpogmhfdjmfdaa.T
