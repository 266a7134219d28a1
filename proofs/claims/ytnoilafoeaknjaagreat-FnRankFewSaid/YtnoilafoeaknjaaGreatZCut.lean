/-
  The first part of a slice of numbers.
-/
import Derived.Test.YtnoilafoeaknjaaGreatZLk
set_option linter.unusedVariables false
namespace Go.Proofs.YtnoilafoeaknjaaGreat
open Go.RowKit Go.Sort

theorem Ints.cut {w : World} {x : Option Addr} {n c : Nat} {zs : List Int} (h : Ints w (.slice x n c) zs) {k : Nat} (hk : k ≤ n) : Ints w (.slice x k c) (zs.take k) := by
  have hn := h.len
  rcases h with ⟨e, rfl⟩ | ⟨b, o, cap, e, h1, h2, h3, h4⟩
  · simp at e
    obtain rfl : k = 0 := by omega
    exact .inl ⟨by simp [e], by simp⟩
  · simp at e
    obtain ⟨rfl, -, rfl⟩ := e
    have hl : (zs.take k).length = k := by rw [List.length_take]; omega
    exact .inr ⟨b, o, c, by rw [hl], by omega, h2, h3, fun i hi => by
      have hi' : i < k := by omega
      rw [h4 i (by omega), List.getD_eq_getElem?_getD, List.getD_eq_getElem?_getD, List.getElem?_take_of_lt hi']⟩
theorem Ints.cap {w : World} {x : Option Addr} {n c : Nat} {zs : List Int} (h : Ints w (.slice x n c) zs) : n ≤ c := by
  rcases h with ⟨e, rfl⟩ | ⟨b, o, cap, e, h1, _⟩
  · simp at e; simp [e]
  · simp at e; omega
theorem Ints.addr {w : World} {x : Option Addr} {n c : Nat} {zs : List Int} (h : Ints w (.slice x n c) zs) (h0 : 0 < n) : ∃ b o, x = some ⟨b, o, none⟩ := by
  rcases h with ⟨e, rfl⟩ | ⟨b, o, cap, e, h1, _⟩
  · simp at e; omega
  · simp at e; exact ⟨b, o, e.1⟩

end Go.Proofs.YtnoilafoeaknjaaGreat
