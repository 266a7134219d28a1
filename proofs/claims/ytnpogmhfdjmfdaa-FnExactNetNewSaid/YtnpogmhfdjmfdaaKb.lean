/-
  Several texts in one: KSpAdd, KMath.
-/
import Derived.Test.YtnpogmhfdjmfdaaKa
import Derived.Deep.RegionWith
set_option linter.unusedVariables false
/-
  One more at a thing's knot: the model's RankAdd.
-/
namespace Go.Proofs.Ytnpogmhfdjmfdaa.K
open Go.RowKit Go.Sort

theorem RankP.knB {ps : List Pr} {all : Int} (h : RankP ps all) : KnB ps := fun i hi => by
  have := (h.2.1 i hi).1
  omega
theorem numsV_all {ps : List Pr} (h : KnB ps) (hl : ps.length ≤ 300) : BdN (numsV ps) 600000 := fun i => by
  have := numsV_bd h ps.length (Nat.le_refl _) i
  rw [List.take_of_length_le (Nat.le_refl _)] at this
  omega
/-- What numbers at knots become: squeezed, and listed. -/
def doneK (N : List Int) (all : Int) : List Pr := listV (sqz N (all / 8) 63)
theorem doneK_len (N : List Int) (all : Int) : (doneK N all).length ≤ 127 := listK_len _ _
def addOkK (ps : List Pr) (all t : Int) : Bool := rankB ps all && (decide (0 ≤ t ∧ t ≤ 63) && decide (all < 2000))
def addK (ps : List Pr) (all t : Int) : List Pr × Int := if addOkK ps all t then (doneK (addN (numsV ps) (64 + t, 1)) (all + 1), all + 1) else ([], 0)
theorem addK_no {ps : List Pr} {all t : Int} (h : addOkK ps all t = false) : addK ps all t = ([], 0) := by simp [addK, h]
theorem addK_yes {ps : List Pr} {all t : Int} (h : addOkK ps all t = true) : addK ps all t = (doneK (addN (numsV ps) (64 + t, 1)) (all + 1), all + 1) := by simp [addK, h]
theorem addOkK_yes {ps : List Pr} {all t : Int} (h : addOkK ps all t = true) : rankB ps all = true ∧ (0 ≤ t ∧ t ≤ 63) ∧ all < 2000 := by
  unfold addOkK at h
  simpa using h

end Go.Proofs.Ytnpogmhfdjmfdaa.K

/-
  Knots as sums: what is counted at the knots of a kind, before and behind squeezing and listing.
-/
namespace Go.Proofs.Ytnpogmhfdjmfdaa.K

/-- What is counted at those of the knots 1 to k that g takes; at those of a list. -/
def wN (g : Int → Bool) (N : List Int) : Nat → Int
  | 0 => 0
  | k + 1 => wN g N k + if g ((k + 1 : Nat) : Int) then N.getD (k + 1) 0 else 0
def wP (g : Int → Bool) : List Pr → Int
  | [] => 0
  | p :: ps => (if g p.1 then p.2 else 0) + wP g ps
theorem wP_append (g : Int → Bool) (ps qs : List Pr) : wP g (ps ++ qs) = wP g ps + wP g qs := by
  induction ps with
  | nil => simp [wP]
  | cons p ps ih => simp only [List.cons_append, wP, ih]; omega
theorem leastP_wP (ps : List Pr) (t : Int) : leastP ps t = wP (fun a => decide (highT a ≤ t)) ps := by
  induction ps with
  | nil => rfl
  | cons p ps ih => simp [leastP, wP, ih]
theorem mostP_wP (ps : List Pr) (t : Int) : mostP ps t = wP (fun a => decide (lowT a ≤ t)) ps := by
  induction ps with
  | nil => rfl
  | cons p ps ih => simp [mostP, wP, ih]
theorem sumP_wP (ps : List Pr) : sumP ps = wP (fun _ => true) ps := by
  induction ps with
  | nil => rfl
  | cons p ps ih => rw [wP, ← ih]; simp [sumP]

theorem getD_set_same (N : List Int) (i : Nat) (x : Int) (h : i < N.length) : (N.set i x).getD i 0 = x := by
  rw [List.getD_eq_getElem?_getD, List.getElem?_set_self h]; rfl
theorem getD_set_other (N : List Int) (i j : Nat) (x : Int) (h : i ≠ j) : (N.set i x).getD j 0 = N.getD j 0 := by simp [h]
theorem getD_rep (n i : Nat) : (List.replicate n (0 : Int)).getD i 0 = 0 := by
  by_cases hi : i < n <;> simp [hi]
theorem wN_set (g : Int → Bool) (N : List Int) (i : Nat) (x : Int) (h0 : 1 ≤ i) (h1 : i < N.length) : ∀ k, wN g (N.set i x) k = wN g N k + if i ≤ k then (if g (i : Int) then x - N.getD i 0 else 0) else 0 := by
  intro k
  induction k with
  | zero => simp [wN, show ¬ i ≤ 0 by omega]
  | succ k ih =>
    simp only [wN, ih]
    by_cases e : i = k + 1
    · subst e
      rw [getD_set_same N _ x h1]
      simp only [show ¬ k + 1 ≤ k by omega, if_false, Nat.le_refl, if_true]
      cases hg : g ((k + 1 : Nat) : Int)
      · simp only [Bool.false_eq_true, if_false]
      · simp only [if_true]; omega
    · rw [getD_set_other N i (k + 1) x e]
      by_cases hk : i ≤ k
      · rw [if_pos hk, if_pos (show i ≤ k + 1 by omega)]; ac_rfl
      · rw [if_neg hk, if_neg (show ¬ i ≤ k + 1 by omega)]; ac_rfl
theorem wN_nonneg (g : Int → Bool) {N : List Int} (h : ∀ i, 0 ≤ N.getD i 0) : ∀ k, 0 ≤ wN g N k := by
  intro k
  induction k with
  | zero => exact Int.le_refl _
  | succ k ih => simp only [wN]; have := h (k + 1); split <;> omega
/-- One of them is not above all. -/
theorem wN_one {N : List Int} (h : ∀ i, 0 ≤ N.getD i 0) : ∀ k i, 1 ≤ i → i ≤ k → N.getD i 0 ≤ wN (fun _ => true) N k := by
  intro k
  induction k with
  | zero => intro i h1 h2; omega
  | succ k ih =>
    intro i h1 h2
    simp only [wN, if_true]
    have := h (k + 1)
    by_cases e : i = k + 1
    · subst e; have := wN_nonneg (fun _ => true) h k; omega
    · have := ih i h1 (by omega); omega
theorem wN_just (N : List Int) (i : Nat) (h0 : 1 ≤ i) : ∀ k, wN (fun a => decide (a = (i : Int))) N k = if i ≤ k then N.getD i 0 else 0 := by
  intro k
  induction k with
  | zero => simp [wN, show ¬ i ≤ 0 by omega]
  | succ k ih =>
    simp only [wN, ih, decide_eq_true_eq]
    by_cases e : i = k + 1
    · subst e; simp [show ¬ k + 1 ≤ k by omega]
    · rw [if_neg (show ¬ (((k + 1 : Nat) : Int) = (i : Int)) by omega)]
      by_cases hk : i ≤ k
      · rw [if_pos hk, if_pos (by omega)]; omega
      · rw [if_neg hk, if_neg (by omega)]; omega

/-- Listed it is as much. -/
theorem wP_list (g : Int → Bool) {N : List Int} (h : ∀ i, 0 ≤ N.getD i 0) : ∀ k, wP g (listK N k) = wN g N k := by
  intro k
  induction k with
  | zero => rfl
  | succ k ih =>
    rw [listK, wP_append, ih, wN]
    have := h (k + 1)
    by_cases hp : 0 < N.getD (k + 1) 0
    · rw [if_pos hp]; simp [wP]
    · rw [if_neg hp, show N.getD (k + 1) 0 = 0 by omega]; simp [wP]

theorem addN_len (a : List Int) (p : Pr) : (addN a p).length = a.length := by simp [addN]
theorem numsV_snoc (ps : List Pr) (p : Pr) : numsV (ps ++ [p]) = addN (numsV ps) p := by simp [numsV]
/-- Knots that there are. -/
def AtK (ps : List Pr) : Prop := ∀ p ∈ ps, 1 ≤ p.1 ∧ p.1 ≤ 127
theorem AtK.append {ps qs : List Pr} (h : AtK ps) (h' : AtK qs) : AtK (ps ++ qs) := fun p hp => by
  rcases List.mem_append.1 hp with a | a
  · exact h p a
  · exact h' p a
theorem wN_addN (g : Int → Bool) (a : List Int) (p : Pr) (ha : a.length = 128) (h : 1 ≤ p.1 ∧ p.1 ≤ 127) : wN g (addN a p) 127 = wN g a 127 + if g p.1 then p.2 else 0 := by
  unfold addN
  have e : ((p.1.toNat : Nat) : Int) = p.1 := by omega
  rw [wN_set g a p.1.toNat _ (by omega) (by omega), if_pos (by omega), e]
  by_cases hg : g p.1 = true
  · rw [if_pos hg, if_pos hg]; omega
  · rw [if_neg hg, if_neg hg]
theorem wN_nums (g : Int → Bool) (ps : List Pr) (h : AtK ps) : wN g (numsV ps) 127 = wP g ps := by
  have e0 : ∀ k, wN g (List.replicate 128 0) k = 0 := by
    intro k
    induction k with
    | zero => rfl
    | succ k ih =>
      have := getD_rep 128 (k + 1)
      rw [wN, ih, this]; simp
  have : ∀ (ps : List Pr) (a : List Int), a.length = 128 → AtK ps → wN g (ps.foldl addN a) 127 = wN g a 127 + wP g ps := by
    intro ps
    induction ps with
    | nil => intro a _ _; simp [wP]
    | cons p ps ih =>
      intro a ha hk
      rw [List.foldl_cons, ih _ (by rw [addN_len]; exact ha) (fun q hq => hk q (List.mem_cons_of_mem _ hq)), wN_addN g a p ha (hk p (List.mem_cons_self ..)), wP]
      omega
  unfold numsV
  rw [this ps _ (by simp) h, e0]; omega

theorem getD_addN_0 (a : List Int) (p : Pr) (h : 1 ≤ p.1) : (addN a p).getD 0 0 = a.getD 0 0 := by
  unfold addN; exact getD_set_other _ _ _ _ (by omega)
theorem numsV_0 (ps : List Pr) (h : AtK ps) : (numsV ps).getD 0 0 = 0 := by
  have : ∀ (ps : List Pr) (a : List Int), AtK ps → (ps.foldl addN a).getD 0 0 = a.getD 0 0 := by
    intro ps
    induction ps with
    | nil => intro a _; rfl
    | cons p ps ih =>
      intro a hk
      rw [List.foldl_cons, ih _ (fun q hq => hk q (List.mem_cons_of_mem _ hq)), getD_addN_0 a p (hk p (List.mem_cons_self ..)).1]
  unfold numsV
  rw [this ps _ h]; rfl
theorem numsV_nn (ps : List Pr) (h : ∀ p ∈ ps, 0 ≤ p.2) : ∀ i, 0 ≤ (numsV ps).getD i 0 := by
  have : ∀ (ps : List Pr) (a : List Int), (∀ p ∈ ps, 0 ≤ p.2) → (∀ i, 0 ≤ a.getD i 0) → ∀ i, 0 ≤ (ps.foldl addN a).getD i 0 := by
    intro ps
    induction ps with
    | nil => intro a _ ha; exact ha
    | cons p ps ih =>
      intro a hk ha
      rw [List.foldl_cons]
      refine ih _ (fun q hq => hk q (List.mem_cons_of_mem _ hq)) (fun i => ?_)
      unfold addN
      by_cases e : p.1.toNat = i
      · subst e
        by_cases hl : p.1.toNat < a.length
        · rw [getD_set_same _ _ _ hl]; have := ha p.1.toNat; have := hk p (List.mem_cons_self ..); omega
        · rw [List.set_eq_of_length_le (by omega)]; exact ha _
      · rw [getD_set_other _ _ _ _ e]; exact ha i
  exact this ps _ h (fun i => by rw [getD_rep]; exact Int.le_refl _)

/-- One squeeze: what it moves. -/
theorem wN_sq1 (g : Int → Bool) (N : List Int) (D : Int) (j : Nat) (hl : N.length = 128) (h1 : 1 ≤ j) (h2 : j ≤ 63) :
    wN g (sq1 N D j) 127 = wN g N 127 + if 0 < N.getD (2 * j) 0 + N.getD (2 * j + 1) 0 ∧ N.getD (2 * j) 0 + N.getD (2 * j + 1) 0 + N.getD j 0 ≤ D then (if g (j : Int) then N.getD (2 * j) 0 + N.getD (2 * j + 1) 0 else 0) - (if g ((2 * j : Nat) : Int) then N.getD (2 * j) 0 else 0) - (if g ((2 * j + 1 : Nat) : Int) then N.getD (2 * j + 1) 0 else 0) else 0 := by
  unfold sq1
  split
  · rw [wN_set g _ (2 * j + 1) 0 (by omega) (by simp; omega), wN_set g _ (2 * j) 0 (by omega) (by simp; omega), wN_set g N j _ h1 (by omega)]
    rw [getD_set_other _ _ _ _ (show 2 * j ≠ 2 * j + 1 by omega), getD_set_other _ _ _ _ (show j ≠ 2 * j + 1 by omega), getD_set_other _ _ _ _ (show j ≠ 2 * j by omega)]
    rw [if_pos (show 2 * j + 1 ≤ 127 by omega), if_pos (show 2 * j ≤ 127 by omega), if_pos (show j ≤ 127 by omega)]
    split <;> split <;> split <;> omega
  · omega
theorem sq1_nn {N : List Int} {D : Int} (h : ∀ i, 0 ≤ N.getD i 0) (j : Nat) : ∀ i, 0 ≤ (sq1 N D j).getD i 0 := fun i => by
  unfold sq1
  split
  · have s : ∀ (M : List Int) (k : Nat) (x : Int), (∀ i, 0 ≤ M.getD i 0) → 0 ≤ x → ∀ i, 0 ≤ (M.set k x).getD i 0 := fun M k x hM hx i => by
      by_cases e : k = i
      · subst e
        by_cases hl : k < M.length
        · rw [getD_set_same _ _ _ hl]; exact hx
        · rw [List.set_eq_of_length_le (by omega)]; exact hM _
      · rw [getD_set_other _ _ _ _ e]; exact hM i
    exact s _ _ _ (s _ _ _ (s _ _ _ h (by have := h j; have := h (2 * j); have := h (2 * j + 1); omega)) (Int.le_refl _)) (Int.le_refl _) i
  · exact h i
/-- Above things not more than a part. -/
def CapN (N : List Int) (D : Int) : Prop := ∀ i, 1 ≤ i → i < 64 → N.getD i 0 ≤ D
theorem sq1_cap {N : List Int} {D : Int} (h : CapN N D) (d0 : 0 ≤ D) (hl : N.length = 128) (j : Nat) (hj : j ≤ 63) : CapN (sq1 N D j) D := fun i h1 h2 => by
  unfold sq1
  split
  · rename_i hc
    by_cases e3 : 2 * j + 1 = i
    · subst e3; rw [getD_set_same _ _ _ (by simp; omega)]; exact d0
    rw [getD_set_other _ _ _ _ e3]
    by_cases e2 : 2 * j = i
    · subst e2; rw [getD_set_same _ _ _ (by simp; omega)]; exact d0
    rw [getD_set_other _ _ _ _ e2]
    by_cases e1 : j = i
    · subst e1; rw [getD_set_same _ _ _ (by omega)]; omega
    rw [getD_set_other _ _ _ _ e1]
    exact h i h1 h2
  · exact h i h1 h2
theorem sq1_0 {N : List Int} {D : Int} (j : Nat) (hj : 1 ≤ j) : (sq1 N D j).getD 0 0 = N.getD 0 0 := by
  unfold sq1
  split
  · rw [getD_set_other _ _ _ _ (by omega), getD_set_other _ _ _ _ (by omega), getD_set_other _ _ _ _ (by omega)]
  · rfl
structure SqK (N : List Int) (D : Int) (Z : List Int) : Prop where
  nn : ∀ i, 0 ≤ Z.getD i 0
  len : Z.length = 128
  cap : CapN Z D
  zero : Z.getD 0 0 = N.getD 0 0
  sum : wN (fun _ => true) Z 127 = wN (fun _ => true) N 127
  least : ∀ t, wN (fun a => decide (highT a ≤ t)) Z 127 ≤ wN (fun a => decide (highT a ≤ t)) N 127
  most : ∀ t, wN (fun a => decide (lowT a ≤ t)) N 127 ≤ wN (fun a => decide (lowT a ≤ t)) Z 127
theorem span_kids (j : Nat) (h1 : 1 ≤ j) (h2 : j ≤ 63) : lowT ((2 * j : Nat) : Int) = lowT (j : Int) ∧ lowT (j : Int) ≤ lowT ((2 * j + 1 : Nat) : Int) ∧ highT ((2 * j + 1 : Nat) : Int) = highT (j : Int) ∧ highT ((2 * j : Nat) : Int) ≤ highT (j : Int) := by
  have a := (span_all (j - 1) (by omega)).2.2 (by omega)
  have b := (span_all (2 * j - 1) (by omega)).1
  have c := (span_all (2 * j) (by omega)).1
  rw [show ((j - 1 : Nat) : Int) + 1 = (j : Int) by omega] at a
  rw [show ((2 * j - 1 : Nat) : Int) + 1 = 2 * (j : Int) by omega] at b
  rw [show ((2 * j : Nat) : Int) + 1 = 2 * (j : Int) + 1 by omega] at c
  rw [show ((2 * j : Nat) : Int) = 2 * (j : Int) by omega, show ((2 * j + 1 : Nat) : Int) = 2 * (j : Int) + 1 by omega]
  omega
theorem sqz_k {N : List Int} {D : Int} (nn : ∀ i, 0 ≤ N.getD i 0) (hl : N.length = 128) (hc : CapN N D) (d0 : 0 ≤ D) : ∀ s, s ≤ 63 → SqK N D (sqz N D s) := by
  intro s
  induction s with
  | zero => intro _; exact ⟨nn, hl, hc, rfl, rfl, fun _ => Int.le_refl _, fun _ => Int.le_refl _⟩
  | succ s ih =>
    intro hs
    have Z := ih (by omega)
    rw [sqz]
    obtain ⟨j, hj⟩ : ∃ j, j = 63 - s := ⟨_, rfl⟩
    rw [← hj]
    generalize sqz N D s = M at *
    have n1 := Z.nn (2 * j)
    have n2 := Z.nn (2 * j + 1)
    obtain ⟨k1, k2, k3, k4⟩ := span_kids j (by omega) (by omega)
    refine ⟨sq1_nn Z.nn j, by rw [sq1_len]; exact Z.len, sq1_cap Z.cap d0 Z.len j (by omega), (sq1_0 j (by omega)).trans Z.zero, ?_, fun t => ?_, fun t => ?_⟩
    · rw [wN_sq1 _ M D j Z.len (by omega) (by omega), ← Z.sum]
      simp only [if_true]
      split <;> omega
    · rw [wN_sq1 _ M D j Z.len (by omega) (by omega)]
      have := Z.least t
      simp only [decide_eq_true_eq]
      split
      · split <;> split <;> split <;> omega
      · omega
    · rw [wN_sq1 _ M D j Z.len (by omega) (by omega)]
      have := Z.most t
      simp only [decide_eq_true_eq]
      split
      · split <;> split <;> split <;> omega
      · omega

/-- What is listed: ascending, of knots that there are. -/
theorem listK_mem {N : List Int} : ∀ k p, p ∈ listK N k → ∃ a : Nat, 1 ≤ a ∧ a ≤ k ∧ p = ((a : Int), N.getD a 0) ∧ 0 < N.getD a 0 := by
  intro k
  induction k with
  | zero => intro p hp; cases hp
  | succ k ih =>
    intro p hp
    rw [listK] at hp
    rcases List.mem_append.1 hp with h | h
    · obtain ⟨a, h1, h2, h3⟩ := ih p h
      exact ⟨a, h1, by omega, h3⟩
    · by_cases hq : 0 < N.getD (k + 1) 0
      · rw [if_pos hq] at h
        exact ⟨k + 1, by omega, Nat.le_refl _, by simpa using h, hq⟩
      · rw [if_neg hq] at h; cases h
theorem listK_asc {N : List Int} : ∀ k, (listK N k).Pairwise (fun p q => p.1 < q.1) := by
  intro k
  induction k with
  | zero => exact .nil
  | succ k ih =>
    rw [listK]
    refine List.pairwise_append.2 ⟨ih, ?_, fun p hp q hq => ?_⟩
    · split
      · exact List.pairwise_singleton _ _
      · exact .nil
    · obtain ⟨a, _, h2, rfl, _⟩ := listK_mem k p hp
      split at hq
      · obtain rfl : q = _ := by simpa using hq
        show (a : Int) < ((k + 1 : Nat) : Int)
        omega
      · cases hq
theorem pr_asc {ps : List Pr} (h : ps.Pairwise (fun p q => p.1 < q.1)) {i j : Nat} (hi : i < j) (hj : j < ps.length) : (pr ps i).1 < (pr ps j).1 := by
  have := List.pairwise_iff_getElem.1 h i j (by omega) hj hi
  simp only [pr, List.getD_eq_getElem?_getD, List.getElem?_eq_getElem hj, List.getElem?_eq_getElem (show i < ps.length by omega), Option.getD_some]
  exact this
theorem asc_pr {ps : List Pr} (h : ∀ i, i + 1 < ps.length → (pr ps i).1 < (pr ps (i + 1)).1) : ps.Pairwise (fun p q => p.1 < q.1) := by
  have s : ∀ d i, i + d + 1 < ps.length → (pr ps i).1 < (pr ps (i + d + 1)).1 := by
    intro d
    induction d with
    | zero => intro i hi; exact h i hi
    | succ d ih => intro i hi; have a := ih i (by omega); have b := h (i + d + 1) (by omega); rw [show i + (d + 1) + 1 = i + d + 1 + 1 by omega]; omega
  refine List.pairwise_iff_getElem.2 (fun i j hi hj hij => ?_)
  have := s (j - i - 1) i (by omega)
  rw [show i + (j - i - 1) + 1 = j by omega] at this
  simpa [pr, hi, hj] using this
theorem RankP.asc {ps : List Pr} {all : Int} (h : RankP ps all) : ps.Pairwise (fun p q => p.1 < q.1) := asc_pr (fun i hi => by
  have := (h.2.1 (i + 1) hi).2.1 (by omega)
  simpa using this)
theorem RankP.atK {ps : List Pr} {all : Int} (h : RankP ps all) : AtK ps := fun p hp => by
  obtain ⟨i, hi, rfl⟩ := pr_at hp
  exact (h.2.1 i hi).1.1
theorem RankP.num {ps : List Pr} {all : Int} (h : RankP ps all) : ∀ p ∈ ps, 1 ≤ p.2 ∧ p.2 ≤ 2000 ∧ (p.1 < 64 → p.2 ≤ all / 8) := fun p hp => by
  obtain ⟨i, hi, rfl⟩ := pr_at hp
  exact ⟨(h.2.1 i hi).1.2.1, (h.2.1 i hi).1.2.2, (h.2.1 i hi).2.2⟩
theorem rankP_of {ps : List Pr} {all : Int} (h0 : 0 ≤ all ∧ all ≤ 2000) (ha : ps.Pairwise (fun p q => p.1 < q.1)) (hk : AtK ps) (hn : ∀ p ∈ ps, 1 ≤ p.2 ∧ p.2 ≤ 2000 ∧ (p.1 < 64 → p.2 ≤ all / 8)) (hs : sumP ps = all) : RankP ps all :=
  ⟨h0, fun i hi => ⟨⟨hk _ (pr_mem hi), (hn _ (pr_mem hi)).1, (hn _ (pr_mem hi)).2.1⟩, fun h => pr_asc ha (by omega) hi, (hn _ (pr_mem hi)).2.2⟩, hs⟩

/-- Squeezed and listed it is in form. -/
theorem doneK_ok {N : List Int} {all : Int} (nn : ∀ i, 0 ≤ N.getD i 0) (hl : N.length = 128) (hc : CapN N (all / 8)) (h0 : 0 ≤ all ∧ all ≤ 2000) (hs : wN (fun _ => true) N 127 = all) : RankP (doneK N all) all := by
  have Z := sqz_k nn hl hc (by omega) 63 (Nat.le_refl _)
  unfold doneK listV
  generalize sqz N (all / 8) 63 = Y at Z ⊢
  refine rankP_of h0 (listK_asc 127) (fun p hp => ?_) (fun p hp => ?_) (by rw [sumP_wP, wP_list _ Z.nn, Z.sum]; exact hs)
  · obtain ⟨a, h1, h2, rfl, _⟩ := listK_mem 127 p hp
    show 1 ≤ (a : Int) ∧ (a : Int) ≤ 127
    omega
  · obtain ⟨a, h1, h2, rfl, h3⟩ := listK_mem 127 p hp
    have := wN_one Z.nn 127 a h1 h2
    rw [Z.sum, hs] at this
    refine ⟨?_, ?_, fun h => ?_⟩
    · show 1 ≤ Y.getD a 0; omega
    · show Y.getD a 0 ≤ (2000 : Int); omega
    · exact Z.cap a h1 (by have : (a : Int) < 64 := h; omega)
theorem doneK_least {N : List Int} {all : Int} (nn : ∀ i, 0 ≤ N.getD i 0) (hl : N.length = 128) (hc : CapN N (all / 8)) (h0 : 0 ≤ all) (t : Int) : leastP (doneK N all) t ≤ wN (fun a => decide (highT a ≤ t)) N 127 := by
  have Z := sqz_k nn hl hc (by omega) 63 (Nat.le_refl _)
  rw [leastP_wP, doneK, listV, wP_list _ Z.nn]
  exact Z.least t
theorem doneK_most {N : List Int} {all : Int} (nn : ∀ i, 0 ≤ N.getD i 0) (hl : N.length = 128) (hc : CapN N (all / 8)) (h0 : 0 ≤ all) (t : Int) : wN (fun a => decide (lowT a ≤ t)) N 127 ≤ mostP (doneK N all) t := by
  have Z := sqz_k nn hl hc (by omega) 63 (Nat.le_refl _)
  rw [mostP_wP, doneK, listV, wP_list _ Z.nn]
  exact Z.most t

/-- How many of the knots 1 to k g takes. -/
def cnt (g : Int → Bool) : Nat → Nat
  | 0 => 0
  | k + 1 => cnt g k + if g ((k + 1 : Nat) : Int) then 1 else 0
theorem cnt_mono (g : Int → Bool) {k m : Nat} (h : k ≤ m) : cnt g k ≤ cnt g m := by
  induction m with
  | zero => simp [show k = 0 by omega]
  | succ m ih =>
    by_cases e : k = m + 1
    · subst e; exact Nat.le_refl _
    · have := ih (by omega); simp only [cnt]; omega
/-- Each is there once: all that g takes is not more than its part so many times. -/
theorem wP_cnt (g : Int → Bool) (D : Int) (d0 : 0 ≤ D) : ∀ (ps : List Pr), ps.Pairwise (fun p q => p.1 < q.1) → AtK ps → (∀ p ∈ ps, g p.1 = true → p.2 ≤ D) → ∀ k : Nat, k ≤ 127 → (∀ p ∈ ps, (k : Int) < p.1) → wP g ps + D * (cnt g k : Int) ≤ D * (cnt g 127 : Int) := by
  have ml : ∀ a b : Nat, a ≤ b → D * (cnt g a : Int) ≤ D * (cnt g b : Int) := fun a b h => Int.mul_le_mul_of_nonneg_left (by have := cnt_mono g h; omega) d0
  intro ps
  induction ps with
  | nil => intro _ _ _ k hk _; have := ml k 127 hk; simp only [wP]; omega
  | cons p ps ih =>
    intro ha hk hD k hk1 hlt
    obtain ⟨h1, h2⟩ := List.pairwise_cons.1 ha
    obtain ⟨b1, b2⟩ := hk p (List.mem_cons_self ..)
    have hkp := hlt p (List.mem_cons_self ..)
    obtain ⟨a, hpa⟩ : ∃ a : Nat, p.1 = ((a + 1 : Nat) : Int) := ⟨p.1.toNat - 1, by omega⟩
    have I := ih h2 (fun q hq => hk q (List.mem_cons_of_mem _ hq)) (fun q hq => hD q (List.mem_cons_of_mem _ hq)) (a + 1) (by omega) (fun q hq => by have := h1 q hq; omega)
    have M := ml k a (by omega)
    have hp := hD p (List.mem_cons_self ..)
    simp only [wP, cnt] at I ⊢
    rw [hpa] at hp ⊢
    split
    · rename_i hg
      rw [if_pos hg, Int.natCast_add, Int.mul_add] at I
      have := hp hg
      simp only [Int.natCast_one, Int.mul_one] at I
      omega
    · rename_i hg
      rw [if_neg hg] at I
      simp only [Nat.add_zero] at I
      omega
theorem wP_cnt0 (g : Int → Bool) (D : Int) (d0 : 0 ≤ D) (ps : List Pr) (ha : ps.Pairwise (fun p q => p.1 < q.1)) (hk : AtK ps) (hD : ∀ p ∈ ps, g p.1 = true → p.2 ≤ D) : wP g ps ≤ D * (cnt g 127 : Int) := by
  have := wP_cnt g D d0 ps ha hk hD 0 (by omega) (fun p hp => by have := (hk p hp).1; omega)
  simpa [cnt] using this
set_option maxRecDepth 100000 in
theorem cnt_just : ∀ i : Nat, i < 128 → cnt (fun a => decide (a = (i : Int))) 127 ≤ 1 := by decide +kernel
set_option maxRecDepth 100000 in
theorem cnt_over : ∀ t : Nat, t < 64 → cnt (fun a => decide (lowT a ≤ (t : Int)) && decide ((t : Int) < highT a)) 127 ≤ 6 := by decide +kernel

/-- The knots of two together. -/
theorem nums_at (ps : List Pr) (h : AtK ps) (i : Nat) (h1 : 1 ≤ i) (h2 : i ≤ 127) : (numsV ps).getD i 0 = wP (fun a => decide (a = (i : Int))) ps := by
  have := wN_nums (fun a => decide (a = (i : Int))) ps h
  rw [wN_just _ i h1, if_pos h2] at this
  exact this
theorem just_cap {ps : List Pr} {a : Int} (h : RankP ps a) (i : Nat) (h1 : 1 ≤ i) (h2 : i < 64) : wP (fun x => decide (x = (i : Int))) ps ≤ a / 8 := by
  have d0 : 0 ≤ a / 8 := by have := h.1.1; omega
  have := wP_cnt0 (fun x => decide (x = (i : Int))) (a / 8) d0 ps h.asc h.atK (fun p hp hg => by
    have e : p.1 = (i : Int) := by simpa using hg
    exact (h.num p hp).2.2 (by omega))
  have c := cnt_just i (by omega)
  have : (a / 8) * (cnt (fun x => decide (x = (i : Int))) 127 : Int) ≤ (a / 8) * 1 := Int.mul_le_mul_of_nonneg_left (by omega) d0
  omega
theorem join_cap {ps qs : List Pr} {a b : Int} (h : RankP ps a) (h' : RankP qs b) : CapN (numsV (ps ++ qs)) ((a + b) / 8) := fun i h1 h2 => by
  rw [nums_at _ (h.atK.append h'.atK) i h1 (by omega), wP_append]
  have := just_cap h i h1 h2
  have := just_cap h' i h1 h2
  omega
theorem join_nn {ps qs : List Pr} {a b : Int} (h : RankP ps a) (h' : RankP qs b) : ∀ i, 0 ≤ (numsV (ps ++ qs)).getD i 0 := numsV_nn _ (fun p hp => by
  rcases List.mem_append.1 hp with e | e
  · have := (h.num p e).1; omega
  · have := (h'.num p e).1; omega)
/-- The knots of both together, squeezed. -/
def bothK (ps : List Pr) (a : Int) (qs : List Pr) (b : Int) : List Pr := doneK (numsV (ps ++ qs)) (a + b)
section
variable {ps qs : List Pr} {a b : Int}
theorem both_ok (h : RankP ps a) (h' : RankP qs b) (hs : a + b ≤ 2000) : RankP (bothK ps a qs b) (a + b) :=
  doneK_ok (join_nn h h') (numsV_len _) (join_cap h h') ⟨by have := h.1.1; have := h'.1.1; omega, hs⟩ (by
    rw [wN_nums _ _ (h.atK.append h'.atK), wP_append, ← sumP_wP, ← sumP_wP, h.2.2, h'.2.2])
theorem both_least (h : RankP ps a) (h' : RankP qs b) (t : Int) : leastP (bothK ps a qs b) t ≤ leastP ps t + leastP qs t := by
  have := doneK_least (join_nn h h') (numsV_len _) (join_cap h h') (by have := h.1.1; have := h'.1.1; omega) t
  rw [wN_nums _ _ (h.atK.append h'.atK), wP_append, ← leastP_wP, ← leastP_wP] at this
  exact this
theorem both_most (h : RankP ps a) (h' : RankP qs b) (t : Int) : mostP ps t + mostP qs t ≤ mostP (bothK ps a qs b) t := by
  have := doneK_most (join_nn h h') (numsV_len _) (join_cap h h') (by have := h.1.1; have := h'.1.1; omega) t
  rw [wN_nums _ _ (h.atK.append h'.atK), wP_append, ← mostP_wP, ← mostP_wP] at this
  exact this
theorem both_comm (h : RankP ps a) (h' : RankP qs b) : bothK ps a qs b = bothK qs b ps a := by
  have e : numsV (ps ++ qs) = numsV (qs ++ ps) := by
    refine List.ext_getElem (by rw [numsV_len, numsV_len]) (fun i h1 h2 => ?_)
    have g1 : (numsV (ps ++ qs)).getD i 0 = (numsV (qs ++ ps)).getD i 0 := by
      rw [numsV_len] at h1
      by_cases h0 : i = 0
      · subst h0; rw [numsV_0 _ (h.atK.append h'.atK), numsV_0 _ (h'.atK.append h.atK)]
      · rw [nums_at _ (h.atK.append h'.atK) i (by omega) (by omega), nums_at _ (h'.atK.append h.atK) i (by omega) (by omega), wP_append, wP_append]; omega
    simpa [List.getD_eq_getElem?_getD, h1, h2] using g1
  unfold bothK
  rw [e, Int.add_comm]
end

/-- One thing, counted once. -/
theorem one_ok (t : Int) (h : 0 ≤ t ∧ t ≤ 63) : RankP [(64 + t, 1)] 1 :=
  rankP_of (by omega) (List.pairwise_singleton _ _) (fun p hp => by obtain rfl : p = _ := by simpa using hp
                                                                    show 1 ≤ 64 + t ∧ 64 + t ≤ 127; omega)
    (fun p hp => by obtain rfl : p = _ := by simpa using hp
                    exact ⟨Int.le_refl _, by show (1 : Int) ≤ 2000; omega, fun h' => by have : 64 + t < 64 := h'; omega⟩) rfl
theorem one_span (t : Int) (h : 0 ≤ t ∧ t ≤ 63) : lowT (64 + t) = t ∧ highT (64 + t) = t := by
  obtain ⟨T, rfl⟩ : ∃ T : Nat, t = (T : Int) := ⟨t.toNat, by omega⟩
  have := (span_all (63 + T) (by omega)).2.1 (by omega)
  rw [show ((63 + T : Nat) : Int) + 1 = 64 + (T : Int) by omega] at this
  omega
theorem one_least (t i : Int) (h : 0 ≤ t ∧ t ≤ 63) : leastP [(64 + t, 1)] i = if t ≤ i then 1 else 0 := by
  simp [leastP, (one_span t h).2]
theorem one_most (t i : Int) (h : 0 ≤ t ∧ t ≤ 63) : mostP [(64 + t, 1)] i = if t ≤ i then 1 else 0 := by
  simp [mostP, (one_span t h).1]
theorem add_both (ps : List Pr) (a t : Int) : doneK (addN (numsV ps) (64 + t, 1)) (a + 1) = bothK ps a [(64 + t, 1)] 1 := by
  unfold bothK
  rw [numsV_snoc]

/-- What is told, at least and at most. -/
theorem most_least {ps : List Pr} (h : AtK ps) (t : Int) : mostP ps t = leastP ps t + wP (fun a => decide (lowT a ≤ t) && decide (t < highT a)) ps := by
  induction ps with
  | nil => rfl
  | cons p ps ih =>
    have := ih (fun q hq => h q (List.mem_cons_of_mem _ hq))
    obtain ⟨h1, h2⟩ := h p (List.mem_cons_self ..)
    have s := (span_all (p.1.toNat - 1) (by omega)).1
    rw [show ((p.1.toNat - 1 : Nat) : Int) + 1 = p.1 by omega] at s
    simp only [mostP, leastP, wP, this, Bool.and_eq_true, decide_eq_true_eq]
    split <;> split <;> split <;> omega
theorem gap_six {ps : List Pr} {a t : Int} (h : RankP ps a) (t0 : 0 ≤ t) (t1 : t ≤ 63) : leastP ps t ≤ mostP ps t ∧ mostP ps t - leastP ps t ≤ 6 * (a / 8) := by
  obtain ⟨T, rfl⟩ : ∃ T : Nat, t = (T : Int) := ⟨t.toNat, by omega⟩
  have d0 : 0 ≤ a / 8 := by have := h.1.1; omega
  have e := most_least h.atK (T : Int)
  have g := wP_cnt0 (fun a => decide (lowT a ≤ (T : Int)) && decide ((T : Int) < highT a)) (a / 8) d0 ps h.asc h.atK (fun p hp hg => by
    have k := h.atK p hp
    by_cases c : p.1 < 64
    · exact (h.num p hp).2.2 c
    · exfalso
      have s := (span_all (p.1.toNat - 1) (by omega)).2.1 (by omega)
      rw [show ((p.1.toNat - 1 : Nat) : Int) + 1 = p.1 by omega] at s
      have hg' : lowT p.1 ≤ (T : Int) ∧ (T : Int) < highT p.1 := by simpa using hg
      omega)
  have c := cnt_over T (by omega)
  have m : (a / 8) * (cnt (fun a => decide (lowT a ≤ (T : Int)) && decide ((T : Int) < highT a)) 127 : Int) ≤ (a / 8) * 6 := Int.mul_le_mul_of_nonneg_left (by omega) d0
  have nn : 0 ≤ wP (fun a => decide (lowT a ≤ (T : Int)) && decide ((T : Int) < highT a)) ps := by
    have : ∀ (ps : List Pr), (∀ p ∈ ps, 0 ≤ p.2) → 0 ≤ wP (fun a => decide (lowT a ≤ (T : Int)) && decide ((T : Int) < highT a)) ps := by
      intro ps
      induction ps with
      | nil => intro _; exact Int.le_refl _
      | cons p ps ih =>
        intro hn
        have := ih (fun q hq => hn q (List.mem_cons_of_mem _ hq))
        have := hn p (List.mem_cons_self ..)
        simp only [wP]
        split <;> omega
    exact this ps (fun p hp => by have := (h.num p hp).1; omega)
  omega
theorem below_all {ps : List Pr} {a : Int} (h : RankP ps a) : leastP ps 63 = a ∧ mostP ps 63 = a := by
  have : ∀ (ps : List Pr), AtK ps → leastP ps 63 = sumP ps ∧ mostP ps 63 = sumP ps := by
    intro ps
    induction ps with
    | nil => intro _; exact ⟨rfl, rfl⟩
    | cons p ps ih =>
      intro hk
      have i := ih (fun q hq => hk q (List.mem_cons_of_mem _ hq))
      obtain ⟨h1, h2⟩ := hk p (List.mem_cons_self ..)
      have s := (span_all (p.1.toNat - 1) (by omega)).1
      rw [show ((p.1.toNat - 1 : Nat) : Int) + 1 = p.1 by omega] at s
      have e : sumP (p :: ps) = p.2 + sumP ps := by simp [sumP]
      simp only [leastP, mostP, e, i.1, i.2]
      rw [if_pos s.2.2, if_pos (by omega)]
      exact ⟨rfl, rfl⟩
  have e := this ps h.atK
  rw [h.2.2] at e
  exact e
theorem below_mono {ps : List Pr} (h : ∀ p ∈ ps, 0 ≤ p.2) {t u : Int} (htu : t ≤ u) : leastP ps t ≤ leastP ps u ∧ mostP ps t ≤ mostP ps u := by
  induction ps with
  | nil => exact ⟨Int.le_refl _, Int.le_refl _⟩
  | cons p ps ih =>
    obtain ⟨a, b⟩ := ih (fun q hq => h q (List.mem_cons_of_mem _ hq))
    have := h p (List.mem_cons_self ..)
    simp only [leastP, mostP]
    constructor
    · split <;> split <;> omega
    · split <;> split <;> omega

/-- Squeezing where both have nothing changes nothing: the program does it all the same. -/
theorem sq1_any {N : List Int} {D : Int} (nn : ∀ i, 0 ≤ N.getD i 0) (hl : N.length = 128) (j : Nat) (h1 : 1 ≤ j) (h2 : j ≤ 63) :
    (if N.getD j 0 + (N.getD (2 * j) 0 + N.getD (2 * j + 1) 0) ≤ D then ((N.set j (N.getD j 0 + (N.getD (2 * j) 0 + N.getD (2 * j + 1) 0))).set (2 * j) 0).set (2 * j + 1) 0 else N) = sq1 N D j := by
  unfold sq1
  have a := nn (2 * j)
  have b := nn (2 * j + 1)
  by_cases c : N.getD j 0 + (N.getD (2 * j) 0 + N.getD (2 * j + 1) 0) ≤ D
  · rw [if_pos c]
    by_cases p : 0 < N.getD (2 * j) 0 + N.getD (2 * j + 1) 0
    · rw [if_pos ⟨p, by omega⟩]
    · rw [if_neg (fun h => p h.1)]
      have z1 : N.getD (2 * j) 0 = 0 := by omega
      have z2 : N.getD (2 * j + 1) 0 = 0 := by omega
      have st : ∀ i, i < 128 → N.set i (N.getD i 0) = N := fun i hi => by
        rw [List.getD_eq_getElem?_getD, List.getElem?_eq_getElem (by omega)]
        exact List.set_getElem_self _
      have s1 := st j (by omega)
      have s2 := st (2 * j) (by omega)
      have s3 := st (2 * j + 1) (by omega)
      rw [z1] at s2
      rw [z2] at s3
      rw [z1, z2, show N.getD j 0 + (0 + 0) = N.getD j 0 by omega, s1, s2, s3]
  · rw [if_neg c, if_neg (fun h => c (by omega))]

end Go.Proofs.Ytnpogmhfdjmfdaa.K
