/-
  Several texts in one: SpJoin, Joined, ImJoin, RMath.
-/
import Derived.Test.YtnpogmhfdjmfdaaRb
import Derived.Test.YtnpogmhfdjmfdaaRa
set_option linter.unusedVariables false
/-
  The model's RoughJoin.
-/
namespace Go.Proofs.Ytnpogmhfdjmfdaa
open Go.RowKit Go.Sort

def addRows (x y : List Int) : List Int := (List.range 8).map fun k => x.getD k 0 + y.getD k 0
/-- Both counts together. -/
def joinV (ra rb : List (List Int)) : List (List Int) := [addRows (ra.getD 0 []) (rb.getD 0 []), addRows (ra.getD 1 []) (rb.getD 1 []), addRows (ra.getD 2 []) (rb.getD 2 [])]
/-- Whether they can be joined. -/
def joinB (ra rb : List (List Int)) : Bool := okB ra && okB rb && decide (allV ra + allV rb ≤ 2000)

theorem joinB_iff (ra rb : List (List Int)) : joinB ra rb = true ↔ okB ra = true ∧ okB rb = true ∧ allV ra + allV rb ≤ 2000 := by simp [joinB, and_assoc]
theorem joinV_get (ra rb : List (List Int)) (i : Nat) (hi : i < 3) : (joinV ra rb).getD i [] = addRows (ra.getD i []) (rb.getD i []) := by
  rcases (by omega : i = 0 ∨ i = 1 ∨ i = 2) with rfl | rfl | rfl <;> rfl
theorem addRows_len (x y : List Int) : (addRows x y).length = 8 := by simp [addRows]
theorem addRows_get (x y : List Int) (k : Nat) (h : k < 8) : (addRows x y).getD k 0 = x.getD k 0 + y.getD k 0 := by
  simp only [addRows, List.getD_eq_getElem?_getD, List.getElem?_map, List.getElem?_range h, Option.map_some, Option.getD_some]

/-- The rows so far: up to row k, and in row k up to place m, both together. -/
def Mixed (ra rb qs : List (List Int)) (k m : Nat) : Prop := qs.length = 3 ∧ ∀ i, i < 3 → (qs.getD i []).length = 8 ∧ ∀ p, p < 8 → (qs.getD i []).getD p 0 = if i < k ∨ (i = k ∧ p < m) then (ra.getD i []).getD p 0 + (rb.getD i []).getD p 0 else (ra.getD i []).getD p 0

theorem Mixed.done {ra rb qs : List (List Int)} (h : Mixed ra rb qs 3 0) : qs = joinV ra rb :=
  eq_three h.1 rfl fun i hi => by
    have := eq_of_get (d := 0) (a := qs.getD i []) (b := (joinV ra rb).getD i []) (h.2 i hi).1 (by rw [joinV_get _ _ _ hi]; exact addRows_len _ _) (fun p hp => by
      rw [(h.2 i hi).2 p hp, if_pos (.inl hi), joinV_get _ _ _ hi, addRows_get _ _ _ hp])
    simpa using this
theorem Mixed.next {ra rb qs : List (List Int)} {k : Nat} (h : Mixed ra rb qs k 8) : Mixed ra rb qs (k + 1) 0 :=
  ⟨h.1, fun i hi => ⟨(h.2 i hi).1, fun p hp => by
    rw [(h.2 i hi).2 p hp]
    by_cases e : i < k ∨ (i = k ∧ p < 8)
    · rw [if_pos e, if_pos (by omega)]
    · rw [if_neg e, if_neg (by omega)]⟩⟩
theorem Mixed.step {ra rb qs : List (List Int)} {k m : Nat} (h : Mixed ra rb qs k m) (hk : k < 3) (hm : m < 8) :
    Mixed ra rb (qs.set k ((qs.getD k []).set m ((ra.getD k []).getD m 0 + (rb.getD k []).getD m 0))) k (m + 1) := by
  refine ⟨by simpa using h.1, fun i hi => ?_⟩
  by_cases e : i = k
  · subst e
    have e1 : (qs.set i ((qs.getD i []).set m ((ra.getD i []).getD m 0 + (rb.getD i []).getD m 0))).getD i [] = (qs.getD i []).set m ((ra.getD i []).getD m 0 + (rb.getD i []).getD m 0) := by
      simp [h.1, hi]
    rw [e1]
    refine ⟨by simpa using (h.2 i hi).1, fun p hp => ?_⟩
    by_cases e2 : p = m
    · subst e2
      rw [if_pos (.inr ⟨rfl, by omega⟩)]
      have := (h.2 i hi).1
      rw [List.getD_eq_getElem?_getD, List.getElem?_set_self (by rw [this]; exact hp)]
      rfl
    · have e3 : ((qs.getD i []).set m ((ra.getD i []).getD m 0 + (rb.getD i []).getD m 0)).getD p 0 = (qs.getD i []).getD p 0 := by
        simp [Ne.symm e2]
      rw [e3, (h.2 i hi).2 p hp]
      by_cases e4 : i < i ∨ (i = i ∧ p < m)
      · rw [if_pos e4, if_pos (by omega)]
      · rw [if_neg e4, if_neg (by omega)]
  · have e1 : (qs.set k ((qs.getD k []).set m ((ra.getD k []).getD m 0 + (rb.getD k []).getD m 0))).getD i [] = qs.getD i [] := by simp [Ne.symm e]
    rw [e1]
    refine ⟨(h.2 i hi).1, fun p hp => ?_⟩
    rw [(h.2 i hi).2 p hp]
    by_cases e4 : i < k ∨ (i = k ∧ p < m)
    · rw [if_pos e4, if_pos (by omega)]
    · rw [if_neg e4, if_neg (by omega)]

theorem allV_sum {rs : List (List Int)} (h : okB rs = true) : (rs.getD 0 []).sum = allV rs := (if_pos h).symm

end Go.Proofs.Ytnpogmhfdjmfdaa

/-
  The program's generic joined, at numbers and at rows.
-/
namespace Go.Proofs.Ytnpogmhfdjmfdaa
open Go.RowKit Go.Sort

/-- The header L of rows, up to row m, that are both together, in blocks behind it. -/
structure Rowed (w : World) (L : Nat) (ra rb : List (List Int)) (m : Nat) (G : Nat → Nat) : Prop where
  hdr : ∃ cur, w.heap[L]? = some (.cells cur 22 (0, 0)) ∧ cur.size = 3 ∧ ∀ j, j < m → cur[j]? = some (.slice (some ⟨G j, 0, none⟩) 8 8)
  row : ∀ j, j < m → w.ownsRow (L + 1) 3 1 (.slice (some ⟨G j, 0, none⟩) 8 8) 8 (ints (addRows (ra.getD j []) (rb.getD j [])))
  apart : ∀ i j, i < m → j < m → i ≠ j → G i ≠ G j

theorem Rowed.own {w : World} {L : Nat} {ra rb : List (List Int)} {G : Nat → Nat} (h : Rowed w L ra rb 3 G) : OwnR w L (.slice (some ⟨L, 0, none⟩) 3 3) (joinV ra rb) G (fun _ => 8) := by
  obtain ⟨cur, h1, h2, h3⟩ := h.hdr
  have l8 : ∀ i, i < 3 → ((joinV ra rb).getD i []).length = 8 := fun i hi => by rw [joinV_get _ _ _ hi, addRows_len]
  refine ⟨⟨by simp [joinV], .inr ⟨L, 3, cur, rfl, Nat.le_refl _, h1, by simp [joinV], by simp [maxLen], by simpa using h2, ?_⟩⟩, fun i hi => ?_, fun i hi => ?_, fun i j hi hj => h.apart i j hi hj⟩
  · apply List.ext_getElem?
    intro i
    by_cases hi : i < 3
    · have e : rowV (joinV ra rb) G (fun _ => 8) i = .slice (some ⟨G i, 0, none⟩) 8 8 := by unfold rowV; rw [l8 i hi]
      rw [List.getElem?_map, List.getElem?_range (by simpa [joinV] using hi), List.getElem?_take, if_pos (by simp [joinV]; omega)]
      simp only [Array.getElem?_toList, Option.map_some, e]
      exact h3 i hi
    · rw [List.getElem?_eq_none (by simp [joinV]; omega), List.getElem?_eq_none (by simp [joinV]; omega)]
  · have hi' : i < 3 := by simpa [joinV] using hi
    have e : rowV (joinV ra rb) G (fun _ => 8) i = .slice (some ⟨G i, 0, none⟩) 8 8 := by unfold rowV; rw [l8 i hi']
    rw [e, l8 i hi', joinV_get _ _ _ hi']
    exact ownsRow_base (h.row i hi') (by omega)
  · have hi' : i < 3 := by simpa [joinV] using hi
    have := ((h.row i hi').lt (G i) rfl).1
    simp [Value.ownBlock]
    omega

theorem Rowed.step {w w1 : World} {L m g : Nat} {ra rb : List (List Int)} {G : Nat → Nat} (h : Rowed w L ra rb m G) (hm : m < 3) (hb : Below w.heap.size w w1) (hg : w.heap.size ≤ g) (hL : L < w.heap.size)
    (ho : w1.ownsRow (L + 1) 3 1 (.slice (some ⟨g, 0, none⟩) 8 8) 8 (ints (addRows (ra.getD m []) (rb.getD m [])))) :
    Rowed (w1.setCell ⟨L, m, none⟩ (.slice (some ⟨g, 0, none⟩) 8 8)) L ra rb (m + 1) (fun j => if j < m then G j else g) := by
  obtain ⟨cur, h1, h2, h3⟩ := h.hdr
  have h1' : w1.heap[L]? = some (.cells cur 22 (0, 0)) := by rw [hb.block L hL]; exact h1
  have lt : ∀ j, j < m → G j < w.heap.size ∧ L + 1 ≤ G j := fun j hj => by have := (h.row j hj).lt (G j) rfl; exact ⟨this.2, this.1⟩
  have hgs := grownBy_setCell w1 ⟨L, m, none⟩ (.slice (some ⟨g, 0, none⟩) 8 8)
  refine ⟨⟨_, heap_setCell_same w1 L m cur _ _ h1', by simpa using h2, fun j hj => ?_⟩, fun j hj => ?_, fun i j hi hj hij => ?_⟩
  · rw [Array.getElem?_setIfInBounds]
    by_cases e : j < m
    · rw [if_neg (by omega), if_pos e]; exact h3 j e
    · obtain rfl : j = m := by omega
      rw [if_pos rfl, if_pos (by omega), if_neg (by omega)]
  · by_cases e : j < m
    · simp only [if_pos e]
      have := (h.row j e).kept (grownBy_below (row := none) hb) (.inr (by simp [Value.ownBlock]))
      exact this.kept hgs (.inr (by have := (lt j e).2; simp [Value.ownBlock]; omega))
    · obtain rfl : j = m := by omega
      simp only [if_neg e]
      exact ho.kept hgs (.inr (by simp [Value.ownBlock]; omega))
  · show (if i < m then G i else g) ≠ (if j < m then G j else g)
    by_cases e1 : i < m <;> by_cases e2 : j < m
    · rw [if_pos e1, if_pos e2]; exact h.apart i j e1 e2 hij
    · rw [if_pos e1, if_neg e2]; have := (lt i e1).1; omega
    · rw [if_neg e1, if_pos e2]; have := (lt j e2).1; omega
    · omega

theorem later_free {w w' : World} {b i : Nat} (hb : Below w.heap.size w.drew w') (h : w.frozen? ⟨b, i, none⟩ = false) (hl : b < w.heap.size) : w'.frozen? ⟨b, i, none⟩ = false := by
  rw [hb.frozen (p := ⟨b, i, none⟩) hl]; exact h
theorem below_of_drew {w w' : World} {B : Nat} (hb : Below B w.drew w') : Below B w w' := ⟨hb.os, hb.tape, hb.output, hb.size, hb.block⟩

end Go.Proofs.Ytnpogmhfdjmfdaa

/-
  The program's RoughJoin and RoughAdd.
-/
namespace Go.Proofs.Ytnpogmhfdjmfdaa
open Go.RowKit Go.Sort

theorem joinB_all (ra rb : List (List Int)) : joinB ra rb = true ↔ 0 ≤ allV ra ∧ 0 ≤ allV rb ∧ allV ra + allV rb ≤ 2000 := by
  rw [joinB_iff]
  constructor
  · rintro ⟨h1, h2, h3⟩
    exact ⟨(allV_ok h1).1, (allV_ok h2).1, h3⟩
  · rintro ⟨h1, h2, h3⟩
    refine ⟨?_, ?_, h3⟩
    · cases h : okB ra with
      | true => rfl
      | false => rw [allV_not h] at h1; omega
    · cases h : okB rb with
      | true => rfl
      | false => rw [allV_not h] at h2; omega

theorem allV_bd (rs : List (List Int)) : -1 ≤ allV rs ∧ allV rs ≤ 2000 := by
  cases h : okB rs with
  | true => have := allV_ok h; omega
  | false => rw [allV_not h]; omega

def oneRow (t n : Int) (i : Nat) : List Int := zeros.set (place i t).toNat n
/-- Nothing but a thing, n times. -/
def oneV (t n : Int) : List (List Int) := [oneRow t n 0, oneRow t n 1, oneRow t n 2]
theorem oneV_get (t n : Int) (i : Nat) (hi : i < 3) : (oneV t n).getD i [] = oneRow t n i := by
  rcases (by omega : i = 0 ∨ i = 1 ∨ i = 2) with rfl | rfl | rfl <;> rfl
theorem oneRow_len (t n : Int) (i : Nat) : (oneRow t n i).length = 8 := by simp [oneRow, zeros]
theorem zeros_get (k : Nat) : zeros.getD k 0 = 0 := by
  by_cases h : k < 8
  · rcases (by omega : k = 0 ∨ k = 1 ∨ k = 2 ∨ k = 3 ∨ k = 4 ∨ k = 5 ∨ k = 6 ∨ k = 7) with rfl | rfl | rfl | rfl | rfl | rfl | rfl | rfl <;> rfl
  · rw [List.getD_eq_getElem?_getD, List.getElem?_eq_none (by simp [zeros]; omega)]; rfl
theorem set_get (zs : List Int) (p k : Nat) (n : Int) (hp : p < zs.length) : (zs.set p n).getD k 0 = if k = p then n else zs.getD k 0 := by
  by_cases h : k = p
  · subst h
    rw [if_pos rfl, List.getD_eq_getElem?_getD, List.getElem?_set_self hp]; rfl
  · rw [if_neg h]
    simp [Ne.symm h]
theorem one_sum (p : Nat) (hp : p < 8) (n : Int) : (zeros.set p n).sum = n := by
  rcases (by omega : p = 0 ∨ p = 1 ∨ p = 2 ∨ p = 3 ∨ p = 4 ∨ p = 5 ∨ p = 6 ∨ p = 7) with rfl | rfl | rfl | rfl | rfl | rfl | rfl | rfl <;> simp [zeros]
theorem oneRow_sum (t n : Int) (i : Nat) : (oneRow t n i).sum = n := by
  obtain ⟨P, _, hP, e⟩ := place_nat i t
  unfold oneRow
  rw [e]
  exact one_sum P hP n
theorem oneRow_get (t n : Int) (i k : Nat) : (oneRow t n i).getD k 0 = if k = (place i t).toNat then n else 0 := by
  obtain ⟨P, _, hP, e⟩ := place_nat i t
  unfold oneRow
  rw [e, set_get _ _ _ _ (by simpa [zeros] using hP), zeros_get]
theorem oneV_ok (t n : Int) (h : 0 ≤ n ∧ n ≤ 2000) : okB (oneV t n) = true := by
  rw [okB_iff]
  refine ⟨rfl, fun i hi => ?_⟩
  unfold Good
  rw [oneV_get _ _ _ hi, oneV_get _ _ 0 (by omega), oneRow_sum, oneRow_sum]
  refine ⟨oneRow_len _ _ _, fun k _ => ?_, rfl, h.2⟩
  rw [oneRow_get]
  split <;> omega
theorem oneV_all (t n : Int) (h : 0 ≤ n ∧ n ≤ 2000) : allV (oneV t n) = n := by
  rw [← allV_sum (oneV_ok t n h), oneV_get _ _ 0 (by omega), oneRow_sum]
theorem oneV_bad (t n : Int) (h : n < 0 ∨ 2000 < n) : okB (oneV t n) = false := by
  refine okB_false (.inr ⟨0, by omega, fun g => ?_⟩)
  have h1 := g.2.1
  have h2 := g.2.2.2
  rw [oneV_get _ _ 0 (by omega)] at h1 h2
  rw [oneRow_sum] at h2
  obtain ⟨P, _, hP, e⟩ := place_nat (0 : Nat) t
  have h3 := h1 P hP
  rw [oneRow_get, if_pos e.symm] at h3
  omega
theorem join_one (rs : List (List Int)) (t n : Int) (h0 : 0 ≤ t) (h1 : t < 64) : joinB rs (oneV t n) = addB rs t n := by
  rw [Bool.eq_iff_iff, joinB_iff, addB_iff]
  by_cases h : 0 ≤ n ∧ n ≤ 2000
  · rw [oneV_all t n h, oneV_ok t n h]
    constructor
    · rintro ⟨a, _, b⟩; exact ⟨a, h0, h1, h.1, by omega⟩
    · rintro ⟨a, _, _, _, b⟩; exact ⟨a, rfl, by omega⟩
  · rw [oneV_bad t n (by omega)]
    constructor
    · rintro ⟨_, b, _⟩; cases b
    · rintro ⟨a, _, _, b, c⟩; have := allV_ok a; omega
theorem joinV_one (rs : List (List Int)) (t n : Int) (hok : okB rs = true) : joinV rs (oneV t n) = addV rs t n := by
  obtain ⟨_, hg⟩ := (okB_iff rs).1 hok
  refine eq_three rfl rfl fun i hi => ?_
  rw [joinV_get _ _ _ hi, addV_get _ _ _ _ hi, oneV_get _ _ _ hi]
  obtain ⟨P, _, hP, e⟩ := place_nat i t
  have h8 := (hg i hi).1
  refine of_decide_eq_true (eq_of_get (d := 0) (n := 8) (addRows_len _ _) (by simp only [addRow, List.length_set]; exact h8) fun k hk => ?_)
  rw [addRows_get _ _ _ hk, oneRow_get]
  unfold addRow atV
  rw [e, set_get _ _ _ _ (by rw [h8]; exact hP)]
  split
  · rename_i h; subst h; rfl
  · omega

/-- How RoughJoin answers, told of both cases at once. -/
def JoinEnd (w : World) (ra rb : List (List Int)) (e : Ending) (w' : World) : Prop :=
  ∃ x m c ok, e = .returned (.tuple #[.agg #[.slice x m c], .bool ok]) ∧ ok = joinB ra rb ∧ Below w.heap.size w w' ∧ (ok = false → x = none ∧ m = 0 ∧ c = 0) ∧ (ok = true → m = 3 ∧ ∃ G C, OwnR w' w.heap.size (.slice x m c) (joinV ra rb) G C)
end Go.Proofs.Ytnpogmhfdjmfdaa

/-
  Rough counts, added and joined: what they have together.
-/
namespace Go.Proofs.Ytnpogmhfdjmfdaa
open Go.RowKit

theorem sum8 {zs : List Int} (h : zs.length = 8) : zs.sum = zs.getD 0 0 + zs.getD 1 0 + zs.getD 2 0 + zs.getD 3 0 + zs.getD 4 0 + zs.getD 5 0 + zs.getD 6 0 + zs.getD 7 0 := by
  match zs, h with
  | [a, b, c, d, e, f, g, i], _ => simp; omega

theorem addRows_sum (x y : List Int) (hx : x.length = 8) (hy : y.length = 8) : (addRows x y).sum = x.sum + y.sum := by
  rw [sum8 hx, sum8 hy, sum8 (addRows_len x y)]
  rw [addRows_get _ _ 0 (by omega), addRows_get _ _ 1 (by omega), addRows_get _ _ 2 (by omega), addRows_get _ _ 3 (by omega), addRows_get _ _ 4 (by omega), addRows_get _ _ 5 (by omega), addRows_get _ _ 6 (by omega), addRows_get _ _ 7 (by omega)]
  omega

theorem okB_fine {rs : List (List Int)} (h3 : rs.length = 3) (h : ∀ i, i < 3 → Fine (rs.getD i []) ∧ (rs.getD i []).sum = (rs.getD 0 []).sum) : okB rs = true :=
  (okB_iff rs).2 ⟨h3, fun i hi => ⟨(h i hi).1.1, (h i hi).1.bd.2.2, (h i hi).2, (h i hi).1.2.2⟩⟩
theorem fine_okB {rs : List (List Int)} (h : okB rs = true) (i : Nat) (hi : i < 3) : Fine (rs.getD i []) ∧ (rs.getD i []).sum = allV rs := by
  obtain ⟨_, hg⟩ := (okB_iff rs).1 h
  have g := hg i hi
  exact ⟨⟨g.1, fun k hk => (g.2.1 k hk).1, g.2.2.2⟩, g.2.2.1.trans (allV_sum h)⟩

theorem okB_join {ra rb : List (List Int)} (h : joinB ra rb = true) : okB (joinV ra rb) = true ∧ allV (joinV ra rb) = allV ra + allV rb := by
  obtain ⟨ha, hb, hs⟩ := (joinB_iff ra rb).1 h
  have rowS : ∀ i, i < 3 → ((joinV ra rb).getD i []).sum = allV ra + allV rb := fun i hi => by
    rw [joinV_get _ _ _ hi, addRows_sum _ _ (fine_okB ha i hi).1.1 (fine_okB hb i hi).1.1, (fine_okB ha i hi).2, (fine_okB hb i hi).2]
  have ok : okB (joinV ra rb) = true := okB_fine rfl fun i hi => by
    refine ⟨⟨by rw [joinV_get _ _ _ hi]; exact addRows_len _ _, fun k hk => ?_, by rw [rowS i hi]; exact hs⟩, by rw [rowS i hi, rowS 0 (by omega)]⟩
    rw [joinV_get _ _ _ hi, addRows_get _ _ _ hk]
    have := (fine_okB ha i hi).1.2.1 k hk
    have := (fine_okB hb i hi).1.2.1 k hk
    omega
  exact ⟨ok, by rw [← allV_sum ok, rowS 0 (by omega)]⟩

theorem okB_add {rs : List (List Int)} {t n : Int} (h : addB rs t n = true) : okB (addV rs t n) = true ∧ allV (addV rs t n) = allV rs + n := by
  obtain ⟨ok, t0, t1, n0, n1⟩ := (addB_iff rs t n).1 h
  have hj := join_one rs t n t0 t1
  rw [h] at hj
  have := okB_join hj
  have av := allV_ok ok
  rw [joinV_one rs t n ok, oneV_all t n (by omega)] at this
  exact this

/-- How both RoughAdds and both RoughJoins answer: nothing and false, or the rows and true. -/
def EndR (w : World) (ok : Bool) (rs : List (List Int)) (e : Ending) (w' : World) : Prop :=
  ∃ x m c, e = .returned (.tuple #[.agg #[.slice x m c], .bool ok]) ∧ Below w.heap.size w w' ∧ (ok = false → x = none ∧ m = 0 ∧ c = 0) ∧ (ok = true → m = 3 ∧ ∃ G C, OwnR w' w.heap.size (.slice x m c) rs G C)

/-- What stands in the answer: the rows, or nothing. -/
def resV (ok : Bool) (rs : List (List Int)) : List (List Int) := if ok = true then rs else []
theorem EndR.rws {w w' : World} {ok : Bool} {rs : List (List Int)} {e : Ending} (h : EndR w ok rs e w') :
    ∃ x m c, e = .returned (.tuple #[.agg #[.slice x m c], .bool ok]) ∧ Below w.heap.size w w' ∧ Rws w' (.slice x m c) (resV ok rs) := by
  obtain ⟨x, m, c, he, hb, h0, h1⟩ := h
  refine ⟨x, m, c, he, hb, ?_⟩
  cases ok with
  | false => obtain ⟨rfl, rfl, rfl⟩ := h0 rfl; exact .inl ⟨rfl, rfl⟩
  | true => obtain ⟨_, G, C, ho⟩ := h1 rfl; exact ho.rws

end Go.Proofs.Ytnpogmhfdjmfdaa
