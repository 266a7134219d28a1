/-
  How slices of numbers, and rough counts, lie in memory: words for readings, and that they stay.
-/
import Derived.Test.YtnpcgbjkahpcfaaNum
import Derived.Deep.QuietTactic
import Derived.BigQuiet
namespace Go.Proofs.Ytnpcgbjkahpcfaa
open Go.RowKit

/-- The value v reads in w as the numbers zs. -/
def Ints (w : World) (v : Value) (zs : List Int) : Prop :=
  (v = .slice none 0 0 ∧ zs = []) ∨
  ∃ b o cap, v = .slice (some ⟨b, o, none⟩) zs.length cap ∧ zs.length ≤ cap ∧ cap ≤ maxLen ∧ b < w.heap.size ∧ ∀ i, i < zs.length → w.cell? ⟨b, o + i, none⟩ = some (.int .i64 (zs.getD i 0))

/-- The value v reads in w as rows of numbers. -/
def Rws (w : World) (v : Value) (rs : List (List Int)) : Prop :=
  (v = .slice none 0 0 ∧ rs = []) ∨
  ∃ b o cap, v = .slice (some ⟨b, o, none⟩) rs.length cap ∧ rs.length ≤ cap ∧ cap ≤ maxLen ∧ b < w.heap.size ∧ ∀ i, i < rs.length → ∃ x, w.cell? ⟨b, o + i, none⟩ = some x ∧ Ints w x (rs.getD i [])

theorem Ints.below {w w' : World} {v : Value} {zs : List Int} (h : Ints w v zs) {B : Nat} (hb : Below B w w') (hB : w.heap.size ≤ B) : Ints w' v zs := by
  rcases h with h | ⟨b, o, cap, rfl, h1, h2, h3, h4⟩
  · exact .inl h
  · exact .inr ⟨b, o, cap, rfl, h1, h2, Nat.lt_of_lt_of_le h3 hb.size, fun i hi => by rw [hb.cell (by show b < B; omega)]; exact h4 i hi⟩

theorem Rws.below {w w' : World} {v : Value} {rs : List (List Int)} (h : Rws w v rs) {B : Nat} (hb : Below B w w') (hB : w.heap.size ≤ B) : Rws w' v rs := by
  rcases h with h | ⟨b, o, cap, rfl, h1, h2, h3, h4⟩
  · exact .inl h
  · refine .inr ⟨b, o, cap, rfl, h1, h2, Nat.lt_of_lt_of_le h3 hb.size, fun i hi => ?_⟩
    obtain ⟨x, hx, hi'⟩ := h4 i hi
    exact ⟨x, by rw [hb.cell (by show b < B; omega)]; exact hx, hi'.below hb hB⟩

theorem getD_mem {α : Type} (l : List α) (k : Nat) (d : α) (h : k < l.length) : l.getD k d ∈ l := by
  rw [List.getD_eq_getElem?_getD, List.getElem?_eq_getElem h]; exact List.getElem_mem h

theorem sum_take_succ (zs : List Int) (k : Nat) (h : k < zs.length) : (zs.take (k + 1)).sum = (zs.take k).sum + zs.getD k 0 := by
  rw [List.take_succ_eq_append_getElem h, List.sum_append]; simp [h]

theorem quiet_same' {P : Program} {f : FuncId} {args : Array Value} {w : World} {n : Nat} {v : Value}
    (h : Calls P f args (w.drewN n) fun e w' => e = .returned v ∧ w.drewN n = w') : Calls P f args (w.drewN n) fun e w'' => e = .returned v ∧ ∃ m, w'' = w.drewN m :=
  h.mono fun _ _ ⟨he, hm⟩ => ⟨he, n, hm.symm⟩

theorem sum_bd (n : Int) (zs : List Int) (h : ∀ z ∈ zs, 0 ≤ z ∧ z ≤ n) : 0 ≤ zs.sum ∧ zs.sum ≤ n * zs.length := by
  induction zs with
  | nil => simp
  | cons a l ih =>
    have h1 := ih (fun z hz => h z (by simp [hz]))
    have h2 := h a (by simp)
    simp only [List.sum_cons, List.length_cons]
    constructor
    · omega
    · have : n * ((l.length + 1 : Nat) : Int) = n * (l.length : Int) + n := by rw [Int.natCast_add, Int.mul_add]; simp
      omega


end Go.Proofs.Ytnpcgbjkahpcfaa
