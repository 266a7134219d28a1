/-
  What the law asks of two joined.
-/
import Derived.Test.YtmlimjdmnonmpaaTMath2
namespace Go.Proofs.Ytmlimjdmnonmpaa
open Go.RowKit Go.Sort

structure JoinMore (ps : List Pr) (la aa : Int) (qs : List Pr) (lb ab : Int) (ns : List Pr) (nl na : Int) : Prop where
  was : topB ps la aa = true
  top : topB ns nl na = true
  na' : na = aa + ab
  nl' : la + lb ≤ nl
  la' : 0 ≤ la ∧ la ≤ 2000
  lb' : 0 ≤ lb ∧ lb ≤ 2000
  al' : 0 ≤ aa ∧ 0 ≤ ab ∧ aa + ab ≤ 2000
theorem joinMore {ps qs : List Pr} {la aa lb ab : Int} (h : joinOk ps la aa qs lb ab = true) : JoinMore ps la aa qs lb ab (joinT ps la aa qs lb ab).1 (joinT ps la aa qs lb ab).2.1 (joinT ps la aa qs lb ab).2.2 := by
  have top := join_top h
  rcases joinOk_cases ps la aa qs lb ab with ⟨_, h'⟩ | ⟨_, _, h'⟩ | ⟨_, _, _, h'⟩ | ⟨ha, hb, hs, _⟩
  · rw [h] at h'; cases h'
  · rw [h] at h'; cases h'
  · rw [h] at h'; cases h'
  have A := (topB_iff _ _ _).1 ha
  have B := (topB_iff _ _ _).1 hb
  rw [joinT_yes h] at top ⊢
  have bp := (bothP_all ps qs A.asc.up A.pos B.pos).2.1
  have o0 := (cut_five (fun p hp => by have := bp p hp; omega : ∀ p ∈ bothP ps qs, 0 ≤ p.2)).2
  exact ⟨ha, top, rfl, by show la + lb ≤ la + lb + overV (bothP ps qs); omega, A.1.2.1, B.1.2.1, A.1.2.2.1, B.1.2.2.1, hs⟩

end Go.Proofs.Ytmlimjdmnonmpaa
