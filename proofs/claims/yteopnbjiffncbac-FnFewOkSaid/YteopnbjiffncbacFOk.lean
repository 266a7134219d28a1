/-
  Parts of marks.
-/
import Derived.Test.YteopnbjiffncbacFDraw4
namespace Go.Proofs.Yteopnbjiffncbac
open Go.RowKit Go.Sort

theorem ints_drop {w : World} {b o m c : Nat} {zs : List Int} (h : Ints w (.slice (some ⟨b, o, none⟩) m c) zs) (j : Nat) (hj : j ≤ m) : Ints w (.slice (some ⟨b, o + j, none⟩) (m - j) (c - j)) (zs.drop j) := by
  rcases h with ⟨e, _⟩ | ⟨b', o', cap, e, h1, h2, h3, h4⟩
  · cases e
  · cases e
    refine .inr ⟨b, o + j, c - j, by rw [List.length_drop], by rw [List.length_drop]; omega, by omega, h3, fun i hi => ?_⟩
    rw [List.length_drop] at hi
    have h := h4 (j + i) (by omega)
    rw [Nat.add_assoc, h]
    simp [List.getD_eq_getElem?_getD]
theorem ints_take {w : World} {b o m c : Nat} {zs : List Int} (h : Ints w (.slice (some ⟨b, o, none⟩) m c) zs) (j : Nat) (hj : j ≤ m) : Ints w (.slice (some ⟨b, o, none⟩) j c) (zs.take j) := by
  rcases h with ⟨e, _⟩ | ⟨b', o', cap, e, h1, h2, h3, h4⟩
  · cases e
  · cases e
    have hl : (zs.take j).length = j := by simp; omega
    refine .inr ⟨b, o, c, by rw [hl], by omega, h2, h3, fun i hi => ?_⟩
    rw [hl] at hi
    rw [h4 i (by omega)]
    simp [List.getD_eq_getElem?_getD, List.getElem?_take_of_lt hi]
theorem few_drop {zs : List Int} (h : fewB zs = true) (j : Nat) : fewB (zs.drop j) = true := by
  obtain ⟨h1, h2⟩ := (fewB_iff zs).1 h
  refine fewB_good (by rw [List.length_drop]; omega) fun i hi => ?_
  rw [List.length_drop] at hi
  obtain ⟨g1, g2⟩ := h2 (j + i) (by omega)
  have e : ∀ k, (zs.drop j).getD k 0 = zs.getD (j + k) 0 := fun k => by simp [List.getD_eq_getElem?_getD]
  unfold FewG
  rw [e, e]
  refine ⟨g1, fun hi0 => ?_⟩
  have := g2 (by omega)
  rwa [show j + i - 1 = j + (i - 1) by omega] at this
theorem few_take {zs : List Int} (h : fewB zs = true) (j : Nat) : fewB (zs.take j) = true := by
  obtain ⟨h1, h2⟩ := (fewB_iff zs).1 h
  refine fewB_good (by rw [List.length_take]; omega) fun i hi => ?_
  rw [List.length_take] at hi
  obtain ⟨g1, g2⟩ := h2 i (by omega)
  have e : ∀ k, k < j → (zs.take j).getD k 0 = zs.getD k 0 := fun k hk => by simp [List.getD_eq_getElem?_getD, List.getElem?_take_of_lt hk]
  unfold FewG
  rw [e i (by omega), e (i - 1) (by omega)]
  exact ⟨g1, g2⟩

end Go.Proofs.Yteopnbjiffncbac
