/-
  What is said of a sum's lengths, and of blocks of different kinds, without the laws' own functions.
-/
import Derived.Test.YtnpogmhfdjmfdaaZBox
import Derived.Test.YtnpogmhfdjmfdaaKe
set_option linter.unusedVariables false
namespace Go.Proofs.Ytnpogmhfdjmfdaa
open Go.RowKit Go.Sort

/-- No list of a sum is long. -/
structure Small (s : Sm) : Prop where
  r : s.rs.length ≤ 3 ∧ ∀ i, i < s.rs.length → (s.rs.getD i []).length ≤ 8
  f : s.zs.length ≤ 6
  t : s.ps.length ≤ 4
  k : s.ks.length ≤ 127
theorem K.rank_len {ps : List K.Pr} {all : Int} (h : K.rankB ps all = true) : ps.length ≤ 127 := by
  have P := (K.rankB_iff _ _).1 h
  by_cases h0 : ps.length = 0
  · omega
  · have a := K.knG_at P.2.1 (ps.length - 1) (by omega)
    have b := (P.2.1 (ps.length - 1) (by omega)).1.1.2
    omega
theorem Ok.small {s : Sm} (h : Ok s) : Small s := by
  obtain ⟨l3, g⟩ := (okB_iff _).1 h.r
  exact ⟨⟨Nat.le_of_eq l3, fun i hi => Nat.le_of_eq (g i (by omega)).1⟩, ((fewB_iff _).1 h.f).1, ((T.topB_iff _ _ _).1 h.t).1.1, K.rank_len h.k⟩
theorem small_no : Small noSm := ⟨⟨by decide, fun i hi => absurd hi (Nat.not_lt_zero i)⟩, by decide, by decide, by decide⟩
theorem small_of {s : Sm} (h : okS s = true ∨ s = noSm) : Small s := by
  rcases h with h | rfl
  · exact ((okS_iff _).1 h).small
  · exact small_no
theorem up_small (l : List Int) : Small (upS l) := by
  cases h : okS (upS l) with
  | true => exact small_of (.inl h)
  | false => exact small_of (.inr (up_no h))
theorem add_small (s : Sm) (t : Int) : Small (addS s t) := by
  cases h : addOkS s t with
  | true => exact (addS_ok h).1.small
  | false => rw [addS_no h]; exact small_no
theorem join_small (a b : Sm) : Small (joinS a b) := by
  cases h : joinOkS a b with
  | true => exact (joinS_ok h).1.small
  | false => rw [joinS_no h]; exact small_no

theorem own_ne {w : World} {B B' : Nat} {e e' : TypeId} {z z' n n' : Nat} {u v : Value} {xs ys : List Value} (h : w.ownsRow B e z u n xs) (h' : w.ownsRow B' e' z' v n' ys) (he : e ≠ e') : u.ownBlock = none ∨ u.ownBlock ≠ v.ownBlock := by
  rcases h.2 with ⟨rfl, _⟩ | ⟨g, cap, cur, rfl, _, hg, _⟩
  · exact .inl rfl
  · refine .inr fun q => ?_
    rcases h'.2 with ⟨rfl, _⟩ | ⟨g', cap', cur', rfl, _, hg', _⟩
    · cases q
    · have q' : g = g' := by simpa [Value.ownBlock] using q
      subst q'
      rw [hg] at hg'
      simp at hg'
      exact he hg'.2

end Go.Proofs.Ytnpogmhfdjmfdaa
