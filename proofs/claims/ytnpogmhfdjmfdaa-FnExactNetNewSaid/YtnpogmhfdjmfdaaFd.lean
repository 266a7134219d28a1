/-
  Several texts in one: FCnt, FLaw, FLaw2.
-/
import Derived.Test.YtnpogmhfdjmfdaaFc
import Derived.Test.YtnpogmhfdjmfdaaFb
set_option linter.unusedVariables false
/-
  How many things have a mark among marks that are in form; the law FnFewHasAll's loop.
-/
namespace Go.Proofs.Ytnpogmhfdjmfdaa
open Go.RowKit Go.Sort

theorem few_lt {zs : List Int} (h : fewB zs = true) : ∀ j i, i < j → j < zs.length → zs.getD i 0 < zs.getD j 0 := by
  have hp := (fewB_parts h).2.2
  intro j
  induction j with
  | zero => intro i hi; omega
  | succ j ih =>
    intro i hi hj
    have h1 := hp j hj
    by_cases e : i = j
    · subst e; exact h1
    · have := ih i (by omega) (by omega); omega
theorem few_pairwise {zs : List Int} (h : fewB zs = true) : zs.Pairwise (· < ·) := by
  rw [List.pairwise_iff_getElem]
  intro i j hi hj hij
  have := few_lt h j i hij hj
  simpa [hi, hj] using this
theorem few_mem {zs : List Int} (h : fewB zs = true) : ∀ z ∈ zs, 0 ≤ z ∧ z ≤ 63 := fun z hz => by
  obtain ⟨i, hi, rfl⟩ := mem_get.1 hz
  exact (fewB_parts h).2.1 i hi

theorem one_mark : ∀ x : Fin 64, ((List.range 64).countP fun i : Nat => decide (markV (i : Int) = (x.val : Int))) = 1 := by decide +kernel
theorem one_mark' (x : Int) (h0 : 0 ≤ x) (h1 : x ≤ 63) : ((List.range 64).countP fun i : Nat => decide (markV (i : Int) = x)) = 1 := by
  obtain ⟨n, rfl⟩ := Int.eq_ofNat_of_zero_le h0
  exact one_mark ⟨n, by omega⟩
theorem countP_split (x : Int) (xs : List Int) (hx : x ∉ xs) (f : Nat → Int) : ∀ L : List Nat, (L.countP fun i => decide (f i ∈ x :: xs)) = (L.countP fun i => decide (f i = x)) + L.countP fun i => decide (f i ∈ xs)
  | [] => rfl
  | a :: L => by
    have ih := countP_split x xs hx f L
    rw [List.countP_cons, List.countP_cons, List.countP_cons, ih]
    by_cases h : f a = x
    · have h2 : f a ∉ xs := by rw [h]; exact hx
      simp [h, hx]
      omega
    · by_cases h2 : f a ∈ xs <;> simp [h, h2] <;> omega
theorem few_count : ∀ zs : List Int, zs.Pairwise (· < ·) → (∀ z ∈ zs, 0 ≤ z ∧ z ≤ 63) → ((List.range 64).countP fun i : Nat => decide (markV (i : Int) ∈ zs)) = zs.length
  | [], _, _ => by simp
  | x :: xs, hp, hb => by
    have h1 := (List.pairwise_cons.1 hp)
    have hx : x ∉ xs := fun h => by have := h1.1 x h; omega
    rw [countP_split x xs hx, one_mark' x (hb x (by simp)).1 (hb x (by simp)).2, few_count xs h1.2 (fun z hz => hb z (by simp [hz]))]
    simp; omega

/-- How many of the first k things are known to be counted. -/
def hits (zs : List Int) (k : Nat) : Nat := (List.range k).countP fun i : Nat => hasA zs (i : Int)
theorem hits_succ (zs : List Int) (k : Nat) : hits zs (k + 1) = hits zs k + if hasA zs (k : Int) = true then 1 else 0 := by
  unfold hits
  rw [List.range_succ, List.countP_append, List.countP_cons, List.countP_nil]
  simp
theorem hits_le (zs : List Int) (k : Nat) : hits zs k ≤ k := by unfold hits; have := @List.countP_le_length _ (fun i : Nat => hasA zs (i : Int)) (List.range k); simpa using this
theorem hits_all {zs : List Int} (h : fewB zs = true) : hits zs 64 = zs.length := by
  rw [← few_count zs (few_pairwise h) (few_mem h)]
  unfold hits
  refine List.countP_congr fun i hi => ?_
  have h64 : i < 64 := List.mem_range.1 hi
  unfold hasA
  rw [h, (inThings_iff _).2 ⟨by omega, by omega⟩]
  simp

end Go.Proofs.Ytnpogmhfdjmfdaa

/-
  Two drawn lots of marks; what the laws of counting a thing, and of joining, ask of lists.
-/
namespace Go.Proofs.Ytnpogmhfdjmfdaa
open Go.RowKit Go.Sort

theorem ins_len (m : Int) (zs : List Int) : zs.length ≤ (ins m zs).length ∧ (ins m zs).length ≤ zs.length + 1 := by
  induction zs with
  | nil => simp [ins]
  | cons x xs ih =>
    unfold ins
    split
    · simp
    · split
      · simp
      · simp only [List.length_cons]; omega

/-- What was said of counting a thing twice. -/
theorem add_again {zs : List Int} {t : Int} (h : addOkF zs t = true) :
    fewB (addF zs t) = true ∧ addOkF (addF zs t) t = true ∧ addF (addF zs t) t = addF zs t ∧ zs.length ≤ (addF zs t).length ∧ (addF zs t).length ≤ zs.length + 1 := by
  have h' := h
  unfold addOkF at h'
  simp only [Bool.and_eq_true] at h'
  have az := few_asc h'.1
  have f1 : fewB (addF zs t) = true := by rw [← joinF_add]; exact joinF_few _ _
  have ok1 : addOkF (addF zs t) t = true := by unfold addOkF; rw [f1, h'.2]; rfl
  have e0 : addF zs t = joinV6 zs [markV t] := by rw [addF_yes h, put_join az]
  have e1 : addF (addF zs t) t = addF zs t := by
    rw [addF_yes ok1, put_join (few_asc f1), e0]
    exact join6_over az (by simp)
  have l6 := (fewB_parts h'.1).1
  have hl := ins_len (markV t) zs
  have el : addF zs t = (ins (markV t) zs).take 6 := by rw [e0]; rfl
  refine ⟨f1, ok1, e1, ?_, ?_⟩ <;> (rw [el, List.length_take]; omega)

/-- Counted one, and then the other, either way. -/
theorem add_swap {zs : List Int} {s t : Int} (h : addOkF zs s = true) :
    addOkF (addF zs s) t = (addOkF zs t && addOkF (addF zs t) s) ∧ (addOkF (addF zs s) t = true → addF (addF zs s) t = addF (addF zs t) s) := by
  have h' := h
  unfold addOkF at h'
  simp only [Bool.and_eq_true] at h'
  have az := few_asc h'.1
  have fs : ∀ r, fewB (addF zs r) = true := fun r => by rw [← joinF_add]; exact joinF_few _ _
  have e1 : addOkF (addF zs s) t = inThings t := by unfold addOkF; rw [fs]; rfl
  have e2 : addOkF zs t = inThings t := by unfold addOkF; rw [h'.1]; rfl
  have e3 : addOkF (addF zs t) s = true := by unfold addOkF; rw [fs, h'.2]; rfl
  refine ⟨by rw [e1, e2, e3, Bool.and_true], fun hk => ?_⟩
  have ht : addOkF zs t = true := by rw [e2, ← e1]; exact hk
  rw [addF_yes hk, addF_yes e3, put_join (few_asc (fs s)), put_join (few_asc (fs t)), addF_yes h, addF_yes ht, put_join az, put_join az]
  rw [join6_assoc az (by simp) (by simp), join6_assoc az (by simp) (by simp), join6_comm (zs := [markV s]) (by simp) (by simp)]

/-- Joined either way, with itself, and once more. -/
theorem join_laws {zs ys : List Int} (h : joinOkF zs ys = true) :
    fewB (joinF zs ys) = true ∧ (joinOkF ys zs = true ∧ joinF ys zs = joinF zs ys) ∧ (joinOkF zs zs = true ∧ joinF zs zs = zs) ∧ (joinOkF (joinF zs ys) ys = true ∧ joinF (joinF zs ys) ys = joinF zs ys) := by
  have h' := h
  unfold joinOkF at h'
  simp only [Bool.and_eq_true] at h'
  have az := few_asc h'.1
  have ay := few_asc h'.2
  have f1 := joinF_few zs ys
  have o1 : joinOkF ys zs = true := by unfold joinOkF; rw [h'.1, h'.2]; rfl
  have o2 : joinOkF zs zs = true := by unfold joinOkF; rw [h'.1]; rfl
  have o3 : joinOkF (joinF zs ys) ys = true := by unfold joinOkF; rw [f1, h'.2]; rfl
  refine ⟨f1, ⟨o1, ?_⟩, ⟨o2, ?_⟩, ⟨o3, ?_⟩⟩
  · rw [joinF_yes o1, joinF_yes h, join6_comm ay az]
  · rw [joinF_yes o2, join6_self az (fewB_parts h'.1).1]
  · rw [joinF_yes o3, joinF_yes h, join6_over az ay]

/-- It does not matter which two are joined first. -/
theorem join_three {zs ys xs : List Int} (h : joinOkF zs ys = true) :
    joinOkF (joinF zs ys) xs = (joinOkF ys xs && joinOkF zs (joinF ys xs)) ∧ (joinOkF (joinF zs ys) xs = true → joinF zs (joinF ys xs) = joinF (joinF zs ys) xs) := by
  have h' := h
  unfold joinOkF at h'
  simp only [Bool.and_eq_true] at h'
  have f1 := joinF_few zs ys
  have f2 := joinF_few ys xs
  have e1 : joinOkF (joinF zs ys) xs = fewB xs := by unfold joinOkF; rw [f1]; rfl
  have e2 : joinOkF ys xs = fewB xs := by unfold joinOkF; rw [h'.2]; rfl
  have e3 : joinOkF zs (joinF ys xs) = true := by unfold joinOkF; rw [h'.1, f2]; rfl
  refine ⟨by rw [e1, e2, e3, Bool.and_true], fun hk => ?_⟩
  have hx : fewB xs = true := by rw [← e1]; exact hk
  have h2 : joinOkF ys xs = true := by rw [e2]; exact hx
  rw [joinF_yes e3, joinF_yes hk, joinF_yes h, joinF_yes h2, join6_assoc (few_asc h'.1) (few_asc h'.2) (few_asc hx)]


end Go.Proofs.Ytnpogmhfdjmfdaa

/-
  What is left out, and what is known of both joined: plain lists; how often a number is in a list.
-/
namespace Go.Proofs.Ytnpogmhfdjmfdaa
open Go.RowKit Go.Sort

/-- What is in all, and not among the least six, is greater than they, and they are six. -/
theorem left_out {U : List Int} (hU : Asc U) {m : Int} (hm : m ∈ U) (hn : m ∉ U.take 6) : (U.take 6).length = 6 ∧ (U.take 6).getD 5 0 < m := by
  obtain ⟨i, hi, rfl⟩ := List.getElem_of_mem hm
  have h6 : 6 ≤ i := by
    apply Classical.byContradiction
    intro h
    apply hn
    rw [List.mem_take_iff_getElem]
    exact ⟨i, by omega, rfl⟩
  have e : (U.take 6).getD 5 0 = U[5]'(by omega) := by simp [show 5 < U.length by omega]
  refine ⟨by simp; omega, ?_⟩
  rw [e]
  exact (List.pairwise_iff_getElem.1 hU) 5 i (by omega) hi (by omega)

theorem join_known {zs ys : List Int} (h : joinOkF zs ys = true) (t : Int) (hk : hasK (joinF zs ys) t = true) : hasA (joinF zs ys) t = (hasA zs t || hasA ys t) := by
  have h' := h
  unfold joinOkF at h'
  simp only [Bool.and_eq_true] at h'
  have f1 := joinF_few zs ys
  have aU := union_asc ys (few_asc h'.1)
  unfold hasK at hk
  rw [f1] at hk
  simp only [Bool.true_and, Bool.and_eq_true, Bool.or_eq_true, decide_eq_true_eq] at hk
  obtain ⟨ht, hk⟩ := hk
  unfold hasA
  rw [f1, h'.1, h'.2, ht]
  simp only [Bool.true_and]
  have eJ : joinF zs ys = (unionL zs ys).take 6 := by rw [joinF_yes h]; rfl
  by_cases hm : markV t ∈ joinF zs ys
  · rw [decide_eq_true hm]
    rw [eJ] at hm
    rcases (union_mem ys zs _).1 (List.mem_of_mem_take hm) with q | q
    · rw [decide_eq_true q]; rfl
    · rw [decide_eq_true q, Bool.or_true]
  · have hU : markV t ∉ unionL zs ys := fun q => by
      rw [eJ] at hm hk
      have lo := left_out aU q hm
      rcases hk with (hk | hk) | hk
      · exact hm hk
      · omega
      · omega
    rw [union_mem] at hU
    rw [decide_eq_false hm, decide_eq_false (fun q => hU (.inl q)), decide_eq_false (fun q => hU (.inr q))]
    rfl

theorem add_union {zs : List Int} {t : Int} (h : addOkF zs t = true) : Asc (unionL zs [markV t]) ∧ addF zs t = (unionL zs [markV t]).take 6 := by
  have h' := h
  unfold addOkF at h'
  simp only [Bool.and_eq_true] at h'
  refine ⟨union_asc _ (few_asc h'.1), ?_⟩
  rw [addF_yes h, put_join (few_asc h'.1)]; rfl
/-- What is kept was, or is the mark. -/
theorem kept_was {zs : List Int} {t : Int} (h : addOkF zs t = true) {m : Int} (hm : m ∈ addF zs t) (hn : m ∉ zs) : m = markV t := by
  rw [(add_union h).2] at hm
  rcases (union_mem _ zs m).1 (List.mem_of_mem_take hm) with q | q
  · exact absurd q hn
  · simpa using q
/-- What is not kept any more is greater than all that is. -/
theorem kept_not {zs : List Int} {t : Int} (h : addOkF zs t = true) {m : Int} (hm : m ∈ zs) (hn : m ∉ addF zs t) : (addF zs t).length = 6 ∧ ¬ m < (addF zs t).getD 5 0 := by
  obtain ⟨aU, e⟩ := add_union h
  rw [e] at hn ⊢
  have := left_out aU ((union_mem _ zs m).2 (.inl hm)) hn
  exact ⟨this.1, by omega⟩

/-- How often a number is in a list. -/
def timesN (zs : List Int) (x : Int) : Nat := zs.countP fun z => decide (z = x)
theorem timesN_zero (zs : List Int) (x : Int) : timesN zs x = 0 ↔ x ∉ zs := by
  unfold timesN
  rw [List.countP_eq_zero]
  constructor
  · intro h hm; have := h x hm; simp at this
  · intro h z hz e; simp at e; exact h (e ▸ hz)
theorem timesN_succ (zs : List Int) (x : Int) (k : Nat) (hk : k < zs.length) : timesN (zs.take (k + 1)) x = timesN (zs.take k) x + if zs.getD k 0 = x then 1 else 0 := by
  unfold timesN
  rw [List.take_succ_eq_append_getElem hk, List.countP_append, List.countP_cons, List.countP_nil]
  simp [hk]
theorem timesN_le (zs : List Int) (x : Int) (k : Nat) : timesN (zs.take k) x ≤ k := by unfold timesN; have := @List.countP_le_length _ (fun z => decide (z = x)) (zs.take k); simp at this; omega

end Go.Proofs.Ytnpogmhfdjmfdaa
