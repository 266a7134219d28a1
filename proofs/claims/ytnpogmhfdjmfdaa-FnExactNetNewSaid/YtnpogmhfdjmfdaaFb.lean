/-
  Several texts in one: Both, Both2, FMath, Both3, Both4.
-/
import Derived.Test.YtnpogmhfdjmfdaaFa
import Derived.RangeFuncBox
import Derived.RangeFuncNested
import Derived.RangeFuncBound
import Derived.RangeFuncCalls
import Derived.RangeFuncLeaves
import Derived.Shelf.Abstract
import Derived.Shelf.RegionOpen
import Derived.OwnWalkIn
import Derived.TacticsInMore
import Derived.LoopNIn
import Derived.LoopIn
import Derived.Maps.AppendAt
import Derived.Deep.RegionWith
set_option linter.unusedVariables false
/-
  The marks of both, ranged over: marksOfBoth and its closure.
-/
namespace Go.Proofs.Ytnpogmhfdjmfdaa
open Go.RowKit Go.Shelf

attribute [local go_sem] Oper.semAt_some

/-- The value v reads as zs, in a block below n₀. -/
def InB (n₀ : Nat) (w : World) (v : Value) (zs : List Int) : Prop :=
  (v = .slice none 0 0 ∧ zs = []) ∨
  ∃ b o c, v = .slice (some ⟨b, o, none⟩) zs.length c ∧ zs.length ≤ c ∧ c ≤ maxLen ∧ b < n₀ ∧ ∀ i, i < zs.length → w.cell? ⟨b, o + i, none⟩ = some (.int .i64 (zs.getD i 0))
theorem InB.below {n₀ : Nat} {w w' : World} {v : Value} {zs : List Int} (h : InB n₀ w v zs) (hb : Below n₀ w w') : InB n₀ w' v zs := by
  rcases h with h | ⟨b, o, c, e, h1, h2, h3, h4⟩
  · exact .inl h
  · exact .inr ⟨b, o, c, e, h1, h2, h3, fun i hi => (hb.cell (p := ⟨b, o + i, none⟩) h3).trans (h4 i hi)⟩
theorem Ints.inB {w : World} {v : Value} {zs : List Int} (h : Ints w v zs) : InB w.heap.size w v zs := h

/-- The first mark of a list, 64 of none. -/
def firstV (zs : List Int) : Int := match zs with | [] => 64 | x :: _ => x
/-- Without the mark m, if it is the first. -/
def behindV (zs : List Int) (m : Int) : List Int := if firstV zs = m then zs.tail else zs

/-- The marks of both, the least first, each once, at most so many. -/
def bothL : Nat → List Int → List Int → List Int
  | 0, _, _ => []
  | k + 1, zs, ys => if zs = [] ∧ ys = [] then [] else min (firstV zs) (firstV ys) :: bothL k (behindV zs (min (firstV zs) (firstV ys))) (behindV ys (min (firstV zs) (firstV ys)))
def bothV (zs ys : List Int) : List Int := bothL (zs.length + ys.length) zs ys
theorem bothL_len : ∀ k zs ys, (bothL k zs ys).length ≤ k
  | 0, _, _ => by simp [bothL]
  | k + 1, zs, ys => by
    unfold bothL
    split
    · simp
    · simp only [List.length_cons]; have := bothL_len k (behindV zs (min (firstV zs) (firstV ys))) (behindV ys (min (firstV zs) (firstV ys))); omega
theorem behindV_len (zs : List Int) (m : Int) : (behindV zs m).length ≤ zs.length := by unfold behindV; split <;> simp
theorem firstV_ne {zs : List Int} (h : ∀ z ∈ zs, z < 64) (hn : zs ≠ []) : firstV zs < 64 := by
  cases zs with
  | nil => exact absurd rfl hn
  | cons x xs => exact h x (by simp)
theorem both_less {zs ys : List Int} (hz : ∀ z ∈ zs, z < 64) (hy : ∀ z ∈ ys, z < 64) (h : ¬ (zs = [] ∧ ys = [])) :
    min (firstV zs) (firstV ys) < 64 ∧ (behindV zs (min (firstV zs) (firstV ys))).length + (behindV ys (min (firstV zs) (firstV ys))).length < zs.length + ys.length := by
  have l1 := behindV_len zs (min (firstV zs) (firstV ys))
  have l2 := behindV_len ys (min (firstV zs) (firstV ys))
  have less : ∀ us : List Int, us ≠ [] → firstV us = min (firstV zs) (firstV ys) → (behindV us (min (firstV zs) (firstV ys))).length < us.length := fun us hu e => by
    unfold behindV
    rw [if_pos e]
    cases us with
    | nil => exact absurd rfl hu
    | cons x xs => simp
  by_cases h1 : zs = []
  · have h2 : ys ≠ [] := fun e => h ⟨h1, e⟩
    have f2 := firstV_ne hy h2
    have f1 : firstV zs = 64 := by rw [h1]; rfl
    have := less ys h2 (by omega)
    exact ⟨by omega, by omega⟩
  · have f1 := firstV_ne hz h1
    by_cases h3 : firstV zs ≤ firstV ys
    · have := less zs h1 (by omega)
      exact ⟨by omega, by omega⟩
    · have h2 : ys ≠ [] := fun e => h3 (by rw [e]; show firstV zs ≤ 64; omega)
      have := less ys h2 (by omega)
      exact ⟨by omega, by omega⟩
theorem behindV_mem {zs : List Int} {m z : Int} (h : z ∈ behindV zs m) : z ∈ zs := by
  unfold behindV at h
  split at h
  · exact List.mem_of_mem_tail h
  · exact h

def sliceN : Value → Nat
  | .slice _ n _ => n
  | _ => 0

end Go.Proofs.Ytnpogmhfdjmfdaa

/-
  The program's FewJoin: by the range over the marks of both.
-/
namespace Go.Proofs.Ytnpogmhfdjmfdaa
open Go.RowKit Go.Shelf

attribute [local go_sem] Oper.semAt_some

theorem mem_get' {zs : List Int} {x : Int} : x ∈ zs ↔ ∃ i, i < zs.length ∧ zs.getD i 0 = x := by
  constructor
  · intro h
    obtain ⟨i, hi, rfl⟩ := List.getElem_of_mem h
    exact ⟨i, hi, by simp [hi]⟩
  · rintro ⟨i, hi, rfl⟩
    exact getD_mem zs i 0 hi

end Go.Proofs.Ytnpogmhfdjmfdaa

/-
  Marks of both, and a mark put among others, come to the same: plain lists.
-/
namespace Go.Proofs.Ytnpogmhfdjmfdaa
open Go.RowKit

/-- Ascending, each once. -/
abbrev Asc (zs : List Int) : Prop := zs.Pairwise (· < ·)
theorem asc_ext : ∀ {X Y : List Int}, Asc X → Asc Y → (∀ z, z ∈ X ↔ z ∈ Y) → X = Y
  | [], [], _, _, _ => rfl
  | [], y :: Y, _, _, h => by have := (h y).2 (by simp); simp at this
  | x :: X, [], _, _, h => by have := (h x).1 (by simp); simp at this
  | x :: X, y :: Y, hx, hy, h => by
    obtain ⟨x1, x2⟩ := List.pairwise_cons.1 hx
    obtain ⟨y1, y2⟩ := List.pairwise_cons.1 hy
    have e : x = y := by
      have h1 := (h x).1 (by simp)
      have h2 := (h y).2 (by simp)
      simp only [List.mem_cons] at h1 h2
      rcases h1 with h1 | h1
      · exact h1
      · rcases h2 with h2 | h2
        · exact h2.symm
        · have := y1 x h1; have := x1 y h2; omega
    subst e
    congr 1
    refine asc_ext x2 y2 fun z => ?_
    have hz := h z
    simp only [List.mem_cons] at hz
    constructor
    · intro q
      have := x1 z q
      rcases hz.1 (.inr q) with e | e
      · omega
      · exact e
    · intro q
      have := y1 z q
      rcases hz.2 (.inr q) with e | e
      · omega
      · exact e

/-- The mark m put where it belongs. -/
def ins (m : Int) : List Int → List Int
  | [] => [m]
  | x :: xs => if m < x then m :: x :: xs else if m = x then x :: xs else x :: ins m xs
theorem ins_mem (m : Int) : ∀ (zs : List Int) (z : Int), z ∈ ins m zs ↔ z = m ∨ z ∈ zs
  | [], z => by simp [ins]
  | x :: xs, z => by
    unfold ins
    by_cases h1 : m < x
    · rw [if_pos h1]; simp
    · rw [if_neg h1]
      by_cases h2 : m = x
      · rw [if_pos h2]; subst h2; simp
      · rw [if_neg h2]
        simp only [List.mem_cons, ins_mem m xs z]
        constructor
        · rintro (h | h | h)
          · exact .inr (.inl h)
          · exact .inl h
          · exact .inr (.inr h)
        · rintro (h | h | h)
          · exact .inr (.inl h)
          · exact .inl h
          · exact .inr (.inr h)
theorem ins_asc (m : Int) : ∀ {zs : List Int}, Asc zs → Asc (ins m zs)
  | [], _ => by simp [ins]
  | x :: xs, h => by
    obtain ⟨h1, h2⟩ := List.pairwise_cons.1 h
    unfold ins
    by_cases q1 : m < x
    · rw [if_pos q1]
      refine List.pairwise_cons.2 ⟨fun z hz => ?_, h⟩
      simp only [List.mem_cons] at hz
      rcases hz with rfl | hz
      · exact q1
      · have := h1 z hz; omega
    · rw [if_neg q1]
      by_cases q2 : m = x
      · rw [if_pos q2]; exact h
      · rw [if_neg q2]
        refine List.pairwise_cons.2 ⟨fun z hz => ?_, ins_asc m h2⟩
        rcases (ins_mem m xs z).1 hz with rfl | hz
        · omega
        · exact h1 z hz
/-- Those beyond the k-th put nothing among the first k. -/
theorem ins_take (m : Int) : ∀ (zs : List Int) (k : Nat), (ins m (zs.take k)).take k = (ins m zs).take k
  | _, 0 => by simp
  | [], k + 1 => by simp
  | x :: xs, k + 1 => by
    rw [List.take_succ_cons]
    unfold ins
    by_cases q1 : m < x
    · rw [if_pos q1, if_pos q1, List.take_succ_cons, List.take_succ_cons]
      congr 1
      cases k with
      | zero => simp
      | succ k => rw [List.take_succ_cons, List.take_succ_cons, List.take_take]; congr 2; omega
    · rw [if_neg q1, if_neg q1]
      by_cases q2 : m = x
      · rw [if_pos q2, if_pos q2, List.take_succ_cons, List.take_succ_cons, List.take_take]; congr 2; omega
      · rw [if_neg q2, if_neg q2, List.take_succ_cons, List.take_succ_cons, ins_take m xs k]

theorem putL_true (m : Int) : ∀ {zs : List Int}, (∀ z ∈ zs, m < z) → putL m zs true = zs
  | [], _ => rfl
  | x :: xs, h => by
    have h1 := h x (by simp)
    rw [put4 _ (.inl rfl) (by omega), putL_true m (fun z hz => h z (by simp [hz]))]
    rfl
theorem putL_ins (m : Int) : ∀ {zs : List Int}, Asc zs → putL m zs false = ins m zs
  | [], _ => rfl
  | x :: xs, h => by
    obtain ⟨h1, h2⟩ := List.pairwise_cons.1 h
    unfold ins
    by_cases q1 : m < x
    · rw [if_pos q1, put2 _ (by omega) (by omega), putL_true m (fun z hz => by have := h1 z hz; omega)]; rfl
    · rw [if_neg q1]
      by_cases q2 : m = x
      · subst q2
        rw [if_pos rfl, put1, putL_true m h1]; rfl
      · rw [if_neg q2, put4 _ (.inr (by omega)) (by omega), putL_ins m h2]; rfl

/-- All of ys put among zs. -/
def unionL (zs ys : List Int) : List Int := ys.foldl (fun acc m => ins m acc) zs
theorem union_mem : ∀ (ys zs : List Int) (z : Int), z ∈ unionL zs ys ↔ z ∈ zs ∨ z ∈ ys
  | [], zs, z => by simp [unionL]
  | y :: ys, zs, z => by
    show z ∈ unionL (ins y zs) ys ↔ _
    rw [union_mem ys, ins_mem]
    simp only [List.mem_cons]
    constructor
    · rintro ((h | h) | h)
      · exact .inr (.inl h)
      · exact .inl h
      · exact .inr (.inr h)
    · rintro (h | h | h)
      · exact .inl (.inr h)
      · exact .inl (.inl h)
      · exact .inr h
theorem union_asc : ∀ (ys : List Int) {zs : List Int}, Asc zs → Asc (unionL zs ys)
  | [], _, h => h
  | y :: ys, _, h => union_asc ys (ins_asc y h)
theorem union_take (k : Nat) : ∀ (ys zs : List Int), (unionL (zs.take k) ys).take k = (unionL zs ys).take k
  | [], zs => by show (zs.take k).take k = zs.take k; rw [List.take_take]; congr 1; omega
  | y :: ys, zs => by
    show (unionL (ins y (zs.take k)) ys).take k = (unionL (ins y zs) ys).take k
    rw [← union_take k ys (ins y (zs.take k)), ← union_take k ys (ins y zs), ins_take]

/-- The least six of both. -/
def joinV6 (zs ys : List Int) : List Int := (unionL zs ys).take 6
theorem union_comm {zs ys : List Int} (hz : Asc zs) (hy : Asc ys) : unionL zs ys = unionL ys zs :=
  asc_ext (union_asc _ hz) (union_asc _ hy) fun z => by rw [union_mem, union_mem]; exact Or.comm
theorem join6_comm {zs ys : List Int} (hz : Asc zs) (hy : Asc ys) : joinV6 zs ys = joinV6 ys zs := by unfold joinV6; rw [union_comm hz hy]
theorem join6_asc {zs ys : List Int} (hz : Asc zs) : Asc (joinV6 zs ys) := (union_asc ys hz).take
theorem union_assoc {zs ys xs : List Int} (hz : Asc zs) (hy : Asc ys) : unionL (unionL zs ys) xs = unionL zs (unionL ys xs) :=
  asc_ext (union_asc _ (union_asc _ hz)) (union_asc _ hz) fun z => by rw [union_mem, union_mem, union_mem, union_mem]; exact or_assoc
theorem join6_assoc {zs ys xs : List Int} (hz : Asc zs) (hy : Asc ys) (hx : Asc xs) : joinV6 (joinV6 zs ys) xs = joinV6 zs (joinV6 ys xs) := by
  have e1 : joinV6 (joinV6 zs ys) xs = (unionL (unionL zs ys) xs).take 6 := union_take 6 xs (unionL zs ys)
  have e2 : joinV6 zs (joinV6 ys xs) = (unionL (unionL ys xs) zs).take 6 := by
    rw [join6_comm hz (join6_asc hy)]; exact union_take 6 zs (unionL ys xs)
  rw [e1, e2, union_assoc hz hy, union_comm hz (union_asc _ hy)]
theorem join6_self {zs : List Int} (hz : Asc zs) (hl : zs.length ≤ 6) : joinV6 zs zs = zs := by
  have : unionL zs zs = zs := asc_ext (union_asc _ hz) hz fun z => by rw [union_mem]; exact or_self_iff
  unfold joinV6
  rw [this, List.take_of_length_le hl]
theorem join6_over {zs ys : List Int} (hz : Asc zs) (hy : Asc ys) : joinV6 (joinV6 zs ys) ys = joinV6 zs ys := by
  rw [join6_assoc hz hy hy]
  unfold joinV6
  have e : unionL ys ys = ys := asc_ext (union_asc _ hy) hy fun z => by rw [union_mem]; exact or_self_iff
  rw [e]
  rw [union_comm hz (List.Pairwise.take hy), union_take, union_comm hz hy]

theorem behindV_yes {u m : Int} (us : List Int) (h : u = m) : behindV (u :: us) m = us := by
  unfold behindV
  rw [if_pos (show firstV (u :: us) = m from h)]
  rfl
theorem behindV_no {u m : Int} (us : List Int) (h : ¬ u = m) : behindV (u :: us) m = u :: us := if_neg h
/-- The range over the marks of both comes to the same. -/
theorem bothL_mem : ∀ (k : Nat) (zs ys : List Int), (∀ z ∈ zs, z < 64) → (∀ z ∈ ys, z < 64) → zs.length + ys.length ≤ k → ∀ z, z ∈ bothL k zs ys ↔ z ∈ zs ∨ z ∈ ys
  | 0, zs, ys, _, _, hk, z => by
    have h1 : zs = [] := List.eq_nil_of_length_eq_zero (by omega)
    have h2 : ys = [] := List.eq_nil_of_length_eq_zero (by omega)
    subst h1 h2
    simp [bothL]
  | k + 1, zs, ys, hz, hy, hk, z => by
    unfold bothL
    by_cases hE : zs = [] ∧ ys = []
    · rw [if_pos hE, hE.1, hE.2]; simp
    · rw [if_neg hE]
      obtain ⟨m64, hlt⟩ := both_less hz hy hE
      obtain ⟨M, hM⟩ : ∃ M, M = min (firstV zs) (firstV ys) := ⟨_, rfl⟩
      rw [← hM] at m64 hlt ⊢
      rw [List.mem_cons, bothL_mem k _ _ (fun z h => hz z (behindV_mem h)) (fun z h => hy z (behindV_mem h)) (by omega)]
      have bm : ∀ us : List Int, (z ∈ us ∧ z ≠ M → z ∈ behindV us M) ∧ (firstV us = M → us ≠ [] → M ∈ us) := fun us => by
        cases us with
        | nil => exact ⟨fun h => by simp at h, fun _ h => absurd rfl h⟩
        | cons u us =>
          refine ⟨fun h => ?_, fun h _ => by rw [← show u = M from h]; simp⟩
          by_cases e : u = M
          · rw [behindV_yes us e]
            subst e
            simp only [List.mem_cons] at h
            rcases h.1 with h1 | h1
            · exact absurd h1 h.2
            · exact h1
          · rw [behindV_no us e]
            exact h.1
      constructor
      · rintro (rfl | h | h)
        · by_cases h3 : firstV zs ≤ firstV ys
          · have e : firstV zs = z := by omega
            refine .inl ((bm zs).2 e fun q => ?_)
            rw [q] at e; rw [← e] at m64; exact absurd m64 (by decide)
          · have e : firstV ys = z := by omega
            refine .inr ((bm ys).2 e fun q => ?_)
            rw [q] at e; rw [← e] at m64; exact absurd m64 (by decide)
        · exact .inl (behindV_mem h)
        · exact .inr (behindV_mem h)
      · intro h
        by_cases e : z = M
        · exact .inl e
        · exact .inr (h.imp (fun q => (bm zs).1 ⟨q, e⟩) (fun q => (bm ys).1 ⟨q, e⟩))
theorem firstV_le {zs : List Int} (h : Asc zs) : ∀ z ∈ zs, firstV zs ≤ z := fun z hz => by
  cases zs with
  | nil => cases hz
  | cons x xs =>
    simp only [List.mem_cons] at hz
    rcases hz with rfl | hz
    · exact Int.le_refl _
    · have := (List.pairwise_cons.1 h).1 z hz; show x ≤ z; omega
theorem behindV_asc {zs : List Int} (h : Asc zs) (m : Int) : Asc (behindV zs m) := by unfold behindV; split; exact h.tail; exact h
theorem behindV_gt {zs : List Int} (h : Asc zs) {m : Int} (hm : m ≤ firstV zs) : ∀ z ∈ behindV zs m, m < z := fun z hz => by
  cases zs with
  | nil => have := behindV_mem hz; cases this
  | cons x xs =>
    have h1 := (List.pairwise_cons.1 h).1
    have hm' : m ≤ x := hm
    by_cases e : x = m
    · rw [behindV_yes xs e] at hz
      have := h1 z hz; omega
    · rw [behindV_no xs e] at hz
      simp only [List.mem_cons] at hz
      rcases hz with rfl | hz
      · omega
      · have := h1 z hz; omega
theorem bothL_asc : ∀ (k : Nat) (zs ys : List Int), Asc zs → Asc ys → (∀ z ∈ zs, z < 64) → (∀ z ∈ ys, z < 64) → zs.length + ys.length ≤ k → Asc (bothL k zs ys)
  | 0, _, _, _, _, _, _, _ => by simp [bothL]
  | k + 1, zs, ys, az, ay, hz, hy, hk => by
    unfold bothL
    by_cases hE : zs = [] ∧ ys = []
    · rw [if_pos hE]; exact List.Pairwise.nil
    · rw [if_neg hE]
      obtain ⟨m64, hlt⟩ := both_less hz hy hE
      obtain ⟨M, hM⟩ : ∃ M, M = min (firstV zs) (firstV ys) := ⟨_, rfl⟩
      rw [← hM] at m64 hlt ⊢
      refine List.pairwise_cons.2 ⟨fun z hz' => ?_, bothL_asc k _ _ (behindV_asc az M) (behindV_asc ay M) (fun z h => hz z (behindV_mem h)) (fun z h => hy z (behindV_mem h)) (by omega)⟩
      rcases (bothL_mem k _ _ (fun z h => hz z (behindV_mem h)) (fun z h => hy z (behindV_mem h)) (by omega) z).1 hz' with h | h
      · exact behindV_gt az (by omega) z h
      · exact behindV_gt ay (by omega) z h
theorem both_join {zs ys : List Int} (az : Asc zs) (ay : Asc ys) (hz : ∀ z ∈ zs, z < 64) (hy : ∀ z ∈ ys, z < 64) : (bothV zs ys).take 6 = joinV6 zs ys := by
  have : bothV zs ys = unionL zs ys := asc_ext (bothL_asc _ _ _ az ay hz hy (Nat.le_refl _)) (union_asc _ az) fun z => by
    rw [union_mem]; exact bothL_mem _ _ _ hz hy (Nat.le_refl _) z
  rw [this]; rfl

theorem few_lt' {zs : List Int} (h : fewB zs = true) : ∀ j i, i < j → j < zs.length → zs.getD i 0 < zs.getD j 0 := by
  have hp := (fewB_parts h).2.2
  intro j
  induction j with
  | zero => intro i hi; omega
  | succ j ih =>
    intro i hi hj
    have h1 := hp j hj
    by_cases e : i = j
    · subst e; exact h1
    · have := ih i (by omega) (by omega); omega
theorem few_asc {zs : List Int} (h : fewB zs = true) : Asc zs := by
  rw [Asc, List.pairwise_iff_getElem]
  intro i j hi hj hij
  have := few_lt' h j i hij hj
  simpa [hi, hj] using this
theorem few_bd {zs : List Int} (h : fewB zs = true) : ∀ z ∈ zs, 0 ≤ z ∧ z < 64 := fun z hz => by
  obtain ⟨i, hi, rfl⟩ := mem_get.1 hz
  have := (fewB_parts h).2.1 i hi
  omega
theorem few_of {zs : List Int} (ha : Asc zs) (hb : ∀ z ∈ zs, 0 ≤ z ∧ z < 64) (hl : zs.length ≤ 6) : fewB zs = true := by
  refine fewB_good hl fun i hi => ⟨?_, fun h0 => ?_⟩
  · have := hb _ (getD_mem zs i 0 hi); omega
  · have := (List.pairwise_iff_getElem.1 ha) (i - 1) i (by omega) hi (by omega)
    simpa [hi, show i - 1 < zs.length by omega] using this
theorem join6_few {zs ys : List Int} (hz : fewB zs = true) (hy : fewB ys = true) : fewB (joinV6 zs ys) = true := by
  refine few_of (join6_asc (few_asc hz)) (fun z h => ?_) (by simp [joinV6]; omega)
  rcases (union_mem ys zs z).1 (List.mem_of_mem_take h) with h | h
  · exact few_bd hz z h
  · exact few_bd hy z h
theorem put_join {zs : List Int} (hz : Asc zs) (m : Int) : putV zs m = joinV6 zs [m] := by
  unfold putV joinV6
  rw [putL_ins m hz]; rfl

end Go.Proofs.Ytnpogmhfdjmfdaa

/-
  The program's FewJoin and FewAdd at whatever marks.
-/
namespace Go.Proofs.Ytnpogmhfdjmfdaa
open Go.RowKit Go.Sort

def joinOkF (zs ys : List Int) : Bool := fewB zs && fewB ys
def joinF (zs ys : List Int) : List Int := if joinOkF zs ys = true then joinV6 zs ys else []
theorem joinF_yes {zs ys : List Int} (h : joinOkF zs ys = true) : joinF zs ys = joinV6 zs ys := if_pos h
theorem joinF_no {zs ys : List Int} (h : joinOkF zs ys = false) : joinF zs ys = [] := if_neg (by rw [h]; simp)
theorem joinF_len (zs ys : List Int) : (joinF zs ys).length ≤ 6 := by
  unfold joinF; split
  · simp [joinV6]; omega
  · simp
theorem joinF_few (zs ys : List Int) : fewB (joinF zs ys) = true := by
  cases h : joinOkF zs ys with
  | true =>
    rw [joinF_yes h]
    unfold joinOkF at h
    simp only [Bool.and_eq_true] at h
    exact join6_few h.1 h.2
  | false => rw [joinF_no h]; decide

theorem free_later' {w w' : World} {a : Addr} (hb : Below w.heap.size w w') (h : w.frozen? a = false) (hl : a.block < w.heap.size) : w'.frozen? a = false := by rw [hb.frozen hl]; exact h

theorem few_one (t : Int) : fewB [markV t] = inThings t := by
  cases h : inThings t with
  | true =>
    have ht := (inThings_iff t).1 h
    have := markV_in ht.1 ht.2
    exact few_of (by simp) (fun z hz => by simp at hz; subst hz; exact this) (by simp)
  | false =>
    have ht := (inThings_no t).1 h
    rw [markV_no ht]
    decide
theorem join_add (zs : List Int) (t : Int) : joinOkF zs [markV t] = addOkF zs t := by unfold joinOkF addOkF; rw [few_one]
theorem joinF_add (zs : List Int) (t : Int) : joinF zs [markV t] = addF zs t := by
  cases h : addOkF zs t with
  | true =>
    rw [addF_yes h, joinF_yes (by rw [join_add]; exact h)]
    unfold addOkF at h
    simp only [Bool.and_eq_true] at h
    exact (put_join (few_asc h.1) _).symm
  | false => rw [addF_no h, joinF_no (by rw [join_add]; exact h)]

end Go.Proofs.Ytnpogmhfdjmfdaa

/-
  The program's FewAdd, and the model's FewJoin.
-/
namespace Go.Proofs.Ytnpogmhfdjmfdaa
open Go.RowKit Go.Sort

theorem fold_put : ∀ (ys zs : List Int), Asc zs → zs.length ≤ 6 → ys.foldl putV zs = joinV6 zs ys
  | [], zs, _, hl => by show zs = (unionL zs []).take 6; rw [show unionL zs [] = zs from rfl, List.take_of_length_le hl]
  | y :: ys, zs, h, hl => by
    show ys.foldl putV (putV zs y) = (unionL (ins y zs) ys).take 6
    have e : putV zs y = (ins y zs).take 6 := by unfold putV; rw [putL_ins y h]
    rw [e, fold_put ys _ ((ins_asc y h).take) (by simp; omega)]
    exact union_take 6 ys (ins y zs)
theorem fold_take (zs ys : List Int) (k : Nat) (hk : k < ys.length) : (ys.take (k + 1)).foldl putV zs = putV ((ys.take k).foldl putV zs) (ys.getD k 0) := by
  rw [List.take_succ_eq_append_getElem hk, List.foldl_append]
  simp [hk]
theorem fold_len (zs : List Int) (hl : zs.length ≤ 6) : ∀ ys : List Int, (ys.foldl putV zs).length ≤ 6
  | [] => hl
  | y :: ys => fold_len (putV zs y) (putV_len _ _) ys

end Go.Proofs.Ytnpogmhfdjmfdaa
