/-
  The library's Split at one byte, as a list of words.
-/
import Derived.Test.YtbnggcgojbkoaaaDoorNReadD
import Derived.Lib.SplitLaws
import Derived.Lib.IndexBytes
set_option linter.unusedVariables false
set_option linter.unusedSectionVars false
set_option linter.unusedSimpArgs false
namespace Go.Proofs.YtbnggcgojbkoaaaDoor.N
open Go.RowKit Go.Sort

theorem cut_first {c : UInt8} : ∀ {s : Bs}, c ∈ s → ∃ u v, s = u ++ c :: v ∧ c ∉ u
  | [], h => by cases h
  | x :: xs, h => by
    by_cases e : x = c
    · exact ⟨[], xs, by rw [e]; rfl, by simp⟩
    · rcases List.mem_cons.1 h with q | q
      · exact absurd q.symm e
      · obtain ⟨u, v, h1, h2⟩ := cut_first q
        exact ⟨x :: u, v, by rw [h1]; rfl, fun m => by
          rcases List.mem_cons.1 m with r | r
          · exact e r.symm
          · exact h2 r⟩
theorem idxB {c : UInt8} : ∀ {u : Bs} (v : Bs), c ∉ u → Lib.indexByte (u ++ c :: v) c = u.length
  | [], v, _ => by simp [Lib.indexByte]
  | x :: u, v, h => by
    have h1 : (x == c) = false := by
      have : x ≠ c := fun e => h (by rw [e]; exact List.mem_cons_self ..)
      simpa using this
    have ih := idxB v (fun m => h (List.mem_cons_of_mem _ m) : c ∉ u)
    show (if x == c then (0 : Int) else if Lib.indexByte (u ++ c :: v) c == -1 then -1 else Lib.indexByte (u ++ c :: v) c + 1) = _
    rw [h1, ih, if_neg (by decide), if_neg (by simp)]
    simp
theorem splitK_one (c : UInt8) : ∀ (n : Nat) (s : Bs), s.length < n → Lib.splitK [c] 0 (s.count c) s = splitB c s
  | 0, s, h => absurd h (Nat.not_lt_zero _)
  | n + 1, s, h => by
    by_cases hc : c ∈ s
    · obtain ⟨u, v, rfl, hu⟩ := cut_first hc
      have e1 : (u ++ c :: v).count c = v.count c + 1 := by
        rw [List.count_append, List.count_cons_self, List.count_eq_zero.2 hu]; omega
      rw [e1, split_app v hu]
      unfold Lib.splitK
      rw [Lib.index_one, idxB v hu, if_neg (by simp)]
      have e2 : ((u.length : Nat) : Int).toNat = u.length := by omega
      rw [e2, Nat.add_zero, List.take_left, List.length_singleton]
      have e3 : (u ++ c :: v).drop (u.length + 1) = v := by rw [← List.drop_drop, List.drop_left]; rfl
      rw [e3, splitK_one c n v (by simp at h; omega)]
    · rw [List.count_eq_zero.2 hc, split_none hc]; rfl
theorem split_cells (s : ByteArray) (c : UInt8) : (Lib.splitB ⟨#[c]⟩ 0 (Lib.countB s ⟨#[c]⟩) s).map Value.string = (splitB c s.data.toList).map fun x => Value.string ⟨x.toArray⟩ := by
  have e := Lib.splitB_data ⟨#[c]⟩ 0 (Lib.countB s ⟨#[c]⟩) s
  have ec : Lib.countB s ⟨#[c]⟩ = s.data.toList.count c := Lib.count_one c s.data.toList
  rw [ec] at e ⊢
  have e2 : Lib.splitK (⟨#[c]⟩ : ByteArray).data.toList 0 (s.data.toList.count c) s.data.toList = splitB c s.data.toList := splitK_one c _ _ (Nat.lt_succ_self _)
  rw [e2] at e
  rw [← e, List.map_map]
  apply List.map_congr_left
  intro b _
  rfl
theorem split_len (s : ByteArray) (c : UInt8) : (Lib.countB s ⟨#[c]⟩) + 1 = (splitB c s.data.toList).length := by
  have e := congrArg List.length (split_cells s c)
  rw [List.length_map, List.length_map, Lib.splitB_all ⟨#[c]⟩ (Nat.le_refl 1) 0 _ s rfl] at e
  exact e
end Go.Proofs.YtbnggcgojbkoaaaDoor.N
