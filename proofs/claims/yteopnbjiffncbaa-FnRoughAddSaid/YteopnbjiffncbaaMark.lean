/-
  The exact laws' marks: numbers written into every cell that an answer owns, one behind the other, and looked for again.
-/
import Derived.Test.YteopnbjiffncbaaNew
import Derived.Test.YteopnbjiffncbaaEq
namespace Go.Proofs.Yteopnbjiffncbaa
open Go.RowKit

def mkRow (k : Int) (n : Nat) : List Int := (List.range n).map fun (i : Nat) => k + (i : Int)
/-- How many numbers stand ahead of row i. -/
def ahead (rs : List (List Int)) : Nat → Nat
  | 0 => 0
  | i + 1 => ahead rs i + (rs.getD i []).length
/-- The rows rs' are those of rs, marked from k on. -/
def Marked (k : Int) (rs rs' : List (List Int)) : Prop := rs'.length = rs.length ∧ ∀ i, i < rs.length → rs'.getD i [] = mkRow (k + ahead rs i) (rs.getD i []).length

theorem mkRow_len (k : Int) (n : Nat) : (mkRow k n).length = n := by simp [mkRow]
theorem mkRow_get (k : Int) (n i : Nat) (h : i < n) : (mkRow k n).getD i 0 = k + i := by simp [mkRow, h]

/-- Row i is another one, as long. -/
theorem OwnR.setRow {w w' : World} {B : Nat} {u : Value} {rs : List (List Int)} {G C : Nat → Nat} (h : OwnR w B u rs G C) {i : Nat} {zs : List Int} (hi : i < rs.length) (hl : zs.length = (rs.getD i []).length)
    (hz : w'.ownsRow B 3 1 (rowV rs G C i) zs.length (ints zs)) (hg : w.grownBy w' (some (G i))) : OwnR w' B u (rs.set i zs) G C := by
  have eL : ∀ j, ((rs.set i zs).getD j []).length = (rs.getD j []).length := fun j => by
    simp only [List.getD_eq_getElem?_getD, List.getElem?_set]
    by_cases e : i = j
    · subst e; simp [hi, hl]
    · simp [e]
  have eV : ∀ j, rowV (rs.set i zs) G C j = rowV rs G C j := fun j => by unfold rowV; rw [eL]
  refine ⟨?_, fun j hj => ?_, fun j hj => h.off j (by simpa using hj), fun a b ha hb hab => h.apart a b (by simpa using ha) (by simpa using hb) hab⟩
  · simp only [List.length_set]
    rw [List.map_congr_left (fun j _ => eV j)]
    exact h.hdr.kept hg (.inr (h.off i hi))
  · simp only [List.length_set] at hj
    rw [eV, eL]
    by_cases e : j = i
    · subst e
      have e' : (rs.set j zs).getD j [] = zs := by simp [hj]
      rw [e', ← hl]
      exact hz
    · have e' : (rs.set i zs).getD j [] = rs.getD j [] := by simp [Ne.symm e]
      rw [e']
      exact (h.row j hj).kept hg (.inr (by simp [rowV, Value.ownBlock]; exact h.apart j i hj hi e))

theorem mark_set (k : Int) (zs : List Int) (j : Nat) (hj : j < zs.length) :
    (ints (mkRow k j ++ zs.drop j)).set j (.int .i64 (k + j)) = ints (mkRow k (j + 1) ++ zs.drop (j + 1)) := by
  apply List.ext_getElem?
  intro i
  simp only [ints, List.getElem?_set, List.getElem?_map, List.length_map, List.length_append, mkRow_len, List.length_drop]
  rcases Nat.lt_trichotomy i j with h | h | h
  · rw [if_neg (by omega), List.getElem?_append_left (by rw [mkRow_len]; exact h), List.getElem?_append_left (by rw [mkRow_len]; omega)]
    simp [mkRow, h, show i < j + 1 by omega]
  · subst h
    rw [if_pos rfl, if_pos (by omega), List.getElem?_append_left (by rw [mkRow_len]; omega)]
    simp [mkRow]
  · rw [if_neg (by omega), List.getElem?_append_right (by rw [mkRow_len]; omega), List.getElem?_append_right (by rw [mkRow_len]; omega), mkRow_len, mkRow_len]
    simp only [List.getElem?_drop]
    rw [show j + (i - j) = i by omega, show j + 1 + (i - (j + 1)) = i by omega]


end Go.Proofs.Yteopnbjiffncbaa
