/-
  What the laws of sums ask of lists: how often, how many, how few; and whether sums are the same.
-/
import Derived.Test.YtnoilafoeaknjaaZBox
import Derived.Test.YtnoilafoeaknjaaZTold
import Derived.Test.YtnoilafoeaknjaaTLk
import Derived.Test.YtnoilafoeaknjaaKLk
import Derived.Test.YtnoilafoeaknjaaKe
import Derived.Test.YtnoilafoeaknjaaKThings
set_option linter.unusedVariables false
namespace Go.Proofs.Ytnoilafoeaknjaa
open Go.RowKit Go.Sort

/-- No list of a sum is long. -/
structure Small (s : Sm) : Prop where
  r : s.rs.length ≤ 3 ∧ ∀ i, i < s.rs.length → (s.rs.getD i []).length ≤ 8
  f : s.zs.length ≤ 6
  t : s.ps.length ≤ 4
  k : s.ks.length ≤ 127
theorem K.rank_len {ps : List K.Pr} {all : Int} (h : K.rankB ps all = true) : ps.length ≤ 127 := by
  have P := (K.rankB_iff _ _).1 h
  by_cases h0 : ps.length = 0
  · omega
  · have a := K.knG_at P.2.1 (ps.length - 1) (by omega)
    have b := (P.2.1 (ps.length - 1) (by omega)).1.1.2
    omega
theorem Ok.small {s : Sm} (h : Ok s) : Small s := by
  obtain ⟨l3, g⟩ := (okB_iff _).1 h.r
  exact ⟨⟨Nat.le_of_eq l3, fun i hi => Nat.le_of_eq (g i (by omega)).1⟩, ((fewB_iff _).1 h.f).1, ((T.topB_iff _ _ _).1 h.t).1.1, K.rank_len h.k⟩
theorem small_no : Small noSm := ⟨⟨by decide, fun i hi => absurd hi (Nat.not_lt_zero i)⟩, by decide, by decide, by decide⟩
theorem small_of {s : Sm} (h : okS s = true ∨ s = noSm) : Small s := by
  rcases h with h | rfl
  · exact ((okS_iff _).1 h).small
  · exact small_no
theorem up_small (l : List Int) : Small (upS l) := by
  cases h : okS (upS l) with
  | true => exact small_of (.inl h)
  | false => exact small_of (.inr (up_no h))
theorem add_small (s : Sm) (t : Int) : Small (addS s t) := by
  cases h : addOkS s t with
  | true => exact (addS_ok h).1.small
  | false => rw [addS_no h]; exact small_no
theorem join_small (a b : Sm) : Small (joinS a b) := by
  cases h : joinOkS a b with
  | true => exact (joinS_ok h).1.small
  | false => rw [joinS_no h]; exact small_no

def fineL (l : List Int) : List Int := l.filter fun z => decide (0 ≤ z ∧ z ≤ 63)
theorem fineL_all (l : List Int) : ∀ t ∈ fineL l, 0 ≤ t ∧ t ≤ 63 := fun t ht => by
  have := (List.mem_filter.1 ht).2
  simpa using this
theorem fineL_len (l : List Int) : (fineL l).length ≤ l.length := List.length_filter_le _ _
theorem fineL_succ (l : List Int) (k : Nat) (hk : k < l.length) : fineL (l.take (k + 1)) = fineL (l.take k) ++ if 0 ≤ l.getD k 0 ∧ l.getD k 0 ≤ 63 then [l.getD k 0] else [] := by
  unfold fineL
  rw [List.take_succ_eq_append_getElem hk, List.filter_append]
  congr 1
  have e : l[k] = l.getD k 0 := by simp [hk]
  rw [e]
  by_cases h : 0 ≤ l.getD k 0 ∧ l.getD k 0 ≤ 63
  · rw [if_pos h, List.filter_cons_of_pos (by simpa using h)]; rfl
  · rw [if_neg h, List.filter_cons_of_neg (by simpa using h)]; rfl
theorem cntU_take (l : List Int) (t : Int) (k : Nat) (hk : k < l.length) : cntU (l.take (k + 1)) t = cntU (l.take k) t + if l.getD k 0 ≤ t then 1 else 0 := by
  rw [List.take_succ_eq_append_getElem hk, cntU_snoc]
  simp [hk]
theorem cntT_take (l : List Int) (t : Int) (k : Nat) (hk : k < l.length) : cntT (l.take (k + 1)) t = cntT (l.take k) t + if l.getD k 0 = t then 1 else 0 := by
  rw [List.take_succ_eq_append_getElem hk, cntT_snoc]
  simp [hk]





end Go.Proofs.Ytnoilafoeaknjaa
