/-
  What is left out, and what is known of both joined: plain lists; how often a number is in a list.
-/
import Derived.Test.YteopnbjiffncbacFLaw
namespace Go.Proofs.Yteopnbjiffncbac
open Go.RowKit Go.Sort

/-- What is in all, and not among the least six, is greater than they, and they are six. -/
theorem left_out {U : List Int} (hU : Asc U) {m : Int} (hm : m ∈ U) (hn : m ∉ U.take 6) : (U.take 6).length = 6 ∧ (U.take 6).getD 5 0 < m := by
  obtain ⟨i, hi, rfl⟩ := List.getElem_of_mem hm
  have h6 : 6 ≤ i := by
    apply Classical.byContradiction
    intro h
    apply hn
    rw [List.mem_take_iff_getElem]
    exact ⟨i, by omega, rfl⟩
  have e : (U.take 6).getD 5 0 = U[5]'(by omega) := by simp [show 5 < U.length by omega]
  refine ⟨by simp; omega, ?_⟩
  rw [e]
  exact (List.pairwise_iff_getElem.1 hU) 5 i (by omega) hi (by omega)

theorem join_known {zs ys : List Int} (h : joinOkF zs ys = true) (t : Int) (hk : hasK (joinF zs ys) t = true) : hasA (joinF zs ys) t = (hasA zs t || hasA ys t) := by
  have h' := h
  unfold joinOkF at h'
  simp only [Bool.and_eq_true] at h'
  have f1 := joinF_few zs ys
  have aU := union_asc ys (few_asc h'.1)
  unfold hasK at hk
  rw [f1] at hk
  simp only [Bool.true_and, Bool.and_eq_true, Bool.or_eq_true, decide_eq_true_eq] at hk
  obtain ⟨ht, hk⟩ := hk
  unfold hasA
  rw [f1, h'.1, h'.2, ht]
  simp only [Bool.true_and]
  have eJ : joinF zs ys = (unionL zs ys).take 6 := by rw [joinF_yes h]; rfl
  by_cases hm : markV t ∈ joinF zs ys
  · rw [decide_eq_true hm]
    rw [eJ] at hm
    rcases (union_mem ys zs _).1 (List.mem_of_mem_take hm) with q | q
    · rw [decide_eq_true q]; rfl
    · rw [decide_eq_true q, Bool.or_true]
  · have hU : markV t ∉ unionL zs ys := fun q => by
      rw [eJ] at hm hk
      have lo := left_out aU q hm
      rcases hk with (hk | hk) | hk
      · exact hm hk
      · omega
      · omega
    rw [union_mem] at hU
    rw [decide_eq_false hm, decide_eq_false (fun q => hU (.inl q)), decide_eq_false (fun q => hU (.inr q))]
    rfl

theorem add_union {zs : List Int} {t : Int} (h : addOkF zs t = true) : Asc (unionL zs [markV t]) ∧ addF zs t = (unionL zs [markV t]).take 6 := by
  have h' := h
  unfold addOkF at h'
  simp only [Bool.and_eq_true] at h'
  refine ⟨union_asc _ (few_asc h'.1), ?_⟩
  rw [addF_yes h, put_join (few_asc h'.1)]; rfl
/-- What is kept was, or is the mark. -/
theorem kept_was {zs : List Int} {t : Int} (h : addOkF zs t = true) {m : Int} (hm : m ∈ addF zs t) (hn : m ∉ zs) : m = markV t := by
  rw [(add_union h).2] at hm
  rcases (union_mem _ zs m).1 (List.mem_of_mem_take hm) with q | q
  · exact absurd q hn
  · simpa using q
/-- What is not kept any more is greater than all that is. -/
theorem kept_not {zs : List Int} {t : Int} (h : addOkF zs t = true) {m : Int} (hm : m ∈ zs) (hn : m ∉ addF zs t) : (addF zs t).length = 6 ∧ ¬ m < (addF zs t).getD 5 0 := by
  obtain ⟨aU, e⟩ := add_union h
  rw [e] at hn ⊢
  have := left_out aU ((union_mem _ zs m).2 (.inl hm)) hn
  exact ⟨this.1, by omega⟩

/-- How often a number is in a list. -/
def timesN (zs : List Int) (x : Int) : Nat := zs.countP fun z => decide (z = x)
theorem timesN_zero (zs : List Int) (x : Int) : timesN zs x = 0 ↔ x ∉ zs := by
  unfold timesN
  rw [List.countP_eq_zero]
  constructor
  · intro h hm; have := h x hm; simp at this
  · intro h z hz e; simp at e; exact h (e ▸ hz)
theorem timesN_succ (zs : List Int) (x : Int) (k : Nat) (hk : k < zs.length) : timesN (zs.take (k + 1)) x = timesN (zs.take k) x + if zs.getD k 0 = x then 1 else 0 := by
  unfold timesN
  rw [List.take_succ_eq_append_getElem hk, List.countP_append, List.countP_cons, List.countP_nil]
  simp [hk]
theorem timesN_le (zs : List Int) (x : Int) (k : Nat) : timesN (zs.take k) x ≤ k := by unfold timesN; have := @List.countP_le_length _ (fun z => decide (z = x)) (zs.take k); simp at this; omega
set_option maxHeartbeats 1000000 in
theorem lkTimes_at (w : World) (v : Value) (zs : List Int) (x : Int) (h : Ints w v zs) (hl : zs.length ≤ 100) :
    Calls Try.prog 33 #[v, .int .i64 x] w fun e w' => e = .returned (.int .i64 (timesN zs x)) ∧ w = w' := by
  obtain ⟨⟨y, c, hx⟩, qq⟩ := h.cases
  obtain ⟨n, hn⟩ : ∃ n, n = zs.length := ⟨_, rfl⟩
  have HZ : Hid (∀ i, i < n → ∃ b o, y = some ⟨b, o, none⟩ ∧ w.cell? ⟨b, o + i, none⟩ = some (.int .i64 (zs.getD i 0))) := fun i hi => by
    rcases h with ⟨rfl, rfl⟩ | ⟨b, o, c', e, _, _, hb, hc⟩
    · rw [hn] at hi; cases hi
    · rw [hx] at e
      exact ⟨b, o, (Value.slice.inj e).1, hc i (by rw [← hn]; exact hi)⟩
  rw [← hn] at hx hl
  have HN := Lib.hid hn
  subst hx
  clear hn h qq
  go_enter Try.func33, Try.ntmps33
  go_wp2
  go_loop [5, 6] (fun q i => ∃ (k j : Nat), k ≤ n ∧ i = .int .i64 k ∧ q = .int .i64 j ∧ j ≤ k ∧ j = timesN (zs.take k) x) (fun _ i => n - (intOf i).toNat)
  case atStart => exact ⟨0, 0, Nat.zero_le _, rfl, rfl, Nat.le_refl _, rfl⟩
  case round =>
    obtain ⟨k, j, hk, rfl, rfl, hj, hg⟩ := hrel
    have G := Lib.hid hg
    clear hg
    by_cases hlt : k < n
    · obtain ⟨b, o, rfl, h1⟩ := HZ.out k hlt
      have ts := Lib.hid (timesN_succ zs x k (by rw [← HN.out]; exact hlt))
      obtain ⟨z, hz⟩ : ∃ z, zs.getD k 0 = z := ⟨_, rfl⟩
      rw [hz] at h1 ts
      have k0 : (0 : Int) ≤ (k : Int) := by omega
      have kn : (k : Int) < (n : Int) := by omega
      clear hz
      by_cases he : z = x
      · subst he
        go_wp2
        go_round
        case rel => exact ⟨k + 1, j + 1, by omega, by go_num, by go_num, by omega, by rw [ts.out, ← G.out, if_pos rfl]⟩
        case measure => simp [intOf]; omega
      · have he' : (z == x) = false := by simpa using he
        have he2 : decide (z = x) = false := by simpa using he
        go_wp2
        go_round
        case rel => exact ⟨k + 1, j, by omega, by go_num, rfl, by omega, by rw [ts.out, ← G.out, if_neg he]; rfl⟩
        case measure => simp [intOf]; omega
    · have fin : Hid (j = timesN zs x) := by show j = _; rw [G.out, List.take_of_length_le (by rw [← HN.out]; omega)]
      go_wp2
      go_ret
      exact ⟨by rw [← fin.out]; rfl, rfl⟩

end Go.Proofs.Yteopnbjiffncbac
