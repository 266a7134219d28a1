/-
  How many things have a mark among marks that are in form; the law FnFewHasAll's loop.
-/
import Derived.Test.YteopnbjiffncbacFDraw3
namespace Go.Proofs.Yteopnbjiffncbac
open Go.RowKit Go.Sort

theorem few_lt {zs : List Int} (h : fewB zs = true) : ∀ j i, i < j → j < zs.length → zs.getD i 0 < zs.getD j 0 := by
  have hp := (fewB_parts h).2.2
  intro j
  induction j with
  | zero => intro i hi; omega
  | succ j ih =>
    intro i hi hj
    have h1 := hp j hj
    by_cases e : i = j
    · subst e; exact h1
    · have := ih i (by omega) (by omega); omega
theorem few_pairwise {zs : List Int} (h : fewB zs = true) : zs.Pairwise (· < ·) := by
  rw [List.pairwise_iff_getElem]
  intro i j hi hj hij
  have := few_lt h j i hij hj
  simpa [hi, hj] using this
theorem few_mem {zs : List Int} (h : fewB zs = true) : ∀ z ∈ zs, 0 ≤ z ∧ z ≤ 63 := fun z hz => by
  obtain ⟨i, hi, rfl⟩ := mem_get.1 hz
  exact (fewB_parts h).2.1 i hi

theorem one_mark : ∀ x : Fin 64, ((List.range 64).countP fun i : Nat => decide (markV (i : Int) = (x.val : Int))) = 1 := by decide +kernel
theorem one_mark' (x : Int) (h0 : 0 ≤ x) (h1 : x ≤ 63) : ((List.range 64).countP fun i : Nat => decide (markV (i : Int) = x)) = 1 := by
  obtain ⟨n, rfl⟩ := Int.eq_ofNat_of_zero_le h0
  exact one_mark ⟨n, by omega⟩
theorem countP_split (x : Int) (xs : List Int) (hx : x ∉ xs) (f : Nat → Int) : ∀ L : List Nat, (L.countP fun i => decide (f i ∈ x :: xs)) = (L.countP fun i => decide (f i = x)) + L.countP fun i => decide (f i ∈ xs)
  | [] => rfl
  | a :: L => by
    have ih := countP_split x xs hx f L
    rw [List.countP_cons, List.countP_cons, List.countP_cons, ih]
    by_cases h : f a = x
    · have h2 : f a ∉ xs := by rw [h]; exact hx
      simp [h, hx]
      omega
    · by_cases h2 : f a ∈ xs <;> simp [h, h2] <;> omega
theorem few_count : ∀ zs : List Int, zs.Pairwise (· < ·) → (∀ z ∈ zs, 0 ≤ z ∧ z ≤ 63) → ((List.range 64).countP fun i : Nat => decide (markV (i : Int) ∈ zs)) = zs.length
  | [], _, _ => by simp
  | x :: xs, hp, hb => by
    have h1 := (List.pairwise_cons.1 hp)
    have hx : x ∉ xs := fun h => by have := h1.1 x h; omega
    rw [countP_split x xs hx, one_mark' x (hb x (by simp)).1 (hb x (by simp)).2, few_count xs h1.2 (fun z hz => hb z (by simp [hz]))]
    simp; omega

/-- How many of the first k things are known to be counted. -/
def hits (zs : List Int) (k : Nat) : Nat := (List.range k).countP fun i : Nat => hasA zs (i : Int)
theorem hits_succ (zs : List Int) (k : Nat) : hits zs (k + 1) = hits zs k + if hasA zs (k : Int) = true then 1 else 0 := by
  unfold hits
  rw [List.range_succ, List.countP_append, List.countP_cons, List.countP_nil]
  simp
theorem hits_le (zs : List Int) (k : Nat) : hits zs k ≤ k := by unfold hits; have := @List.countP_le_length _ (fun i : Nat => hasA zs (i : Int)) (List.range k); simpa using this
theorem hits_all {zs : List Int} (h : fewB zs = true) : hits zs 64 = zs.length := by
  rw [← few_count zs (few_pairwise h) (few_mem h)]
  unfold hits
  refine List.countP_congr fun i hi => ?_
  have h64 : i < 64 := List.mem_range.1 hi
  unfold hasA
  rw [h, (inThings_iff _).2 ⟨by omega, by omega⟩]
  simp

end Go.Proofs.Yteopnbjiffncbac
