/-
  Whether knots are in form: the model's RankOk.
-/
import Derived.Test.YtnpcgbjkahpcfaaKSpan
import Derived.Test.YtnpcgbjkahpcfaaKBox
import Derived.BigQuiet
namespace Go.Proofs.Ytnpcgbjkahpcfaa
open Go.RowKit Go.Sort

def sumP (ps : List Pr) : Int := (ps.map (·.2)).sum
theorem sumP_nil : sumP [] = 0 := rfl
theorem sumP_append (ps qs : List Pr) : sumP (ps ++ qs) = sumP ps + sumP qs := by simp [sumP]
theorem take_succ_pr (ps : List Pr) (k : Nat) (h : k < ps.length) : ps.take (k + 1) = ps.take k ++ [pr ps k] := by
  rw [List.take_succ_eq_append_getElem h]; simp [pr, h]
theorem sumP_succ (ps : List Pr) (k : Nat) (h : k < ps.length) : sumP (ps.take (k + 1)) = sumP (ps.take k) + (pr ps k).2 := by
  rw [take_succ_pr ps k h, sumP_append]; simp [sumP]

/-- Knot i is in form. -/
def KnG (ps : List Pr) (all : Int) (i : Nat) : Prop := ((1 ≤ (pr ps i).1 ∧ (pr ps i).1 ≤ 127) ∧ 1 ≤ (pr ps i).2 ∧ (pr ps i).2 ≤ 2000) ∧ (0 < i → (pr ps (i - 1)).1 < (pr ps i).1) ∧ ((pr ps i).1 < 64 → (pr ps i).2 ≤ all / 8)
instance (ps : List Pr) (all : Int) (i : Nat) : Decidable (KnG ps all i) := by unfold KnG; infer_instance
def RankP (ps : List Pr) (all : Int) : Prop := (0 ≤ all ∧ all ≤ 2000) ∧ (∀ i, i < ps.length → KnG ps all i) ∧ sumP ps = all
instance (ps : List Pr) (all : Int) : Decidable (RankP ps all) := by unfold RankP; infer_instance
def rankB (ps : List Pr) (all : Int) : Bool := decide (RankP ps all)
theorem rankB_iff (ps : List Pr) (all : Int) : rankB ps all = true ↔ RankP ps all := by simp [rankB]
theorem rankB_no {ps : List Pr} {all : Int} (h : ¬ RankP ps all) : rankB ps all = false := by simpa [rankB] using h
theorem knG_at {ps : List Pr} {all : Int} {k : Nat} (h : ∀ i, i < k → KnG ps all i) : ∀ i, i < k → (i : Int) + 1 ≤ (pr ps i).1 := fun i hi => by
  induction i with
  | zero => have := (h 0 hi).1.1.1; omega
  | succ i ih =>
    have := ih (by omega)
    have := (h (i + 1) hi).2.1 (by omega)
    simp only [Nat.add_sub_cancel] at this
    omega
theorem knG_few {ps : List Pr} {all : Int} {k : Nat} (h : ∀ i, i < k → KnG ps all i) : k ≤ 127 := by
  cases k with
  | zero => omega
  | succ k =>
    have := knG_at h k (by omega)
    have := (h k (by omega)).1.1.2
    omega
theorem sumK_bd {ps : List Pr} {all : Int} {k : Nat} (hk : k ≤ ps.length) (h : ∀ i, i < k → KnG ps all i) : 0 ≤ sumP (ps.take k) ∧ sumP (ps.take k) ≤ 2000 * k := by
  induction k with
  | zero => simp [sumP]
  | succ k ih =>
    have := ih (by omega) (fun i hi => h i (by omega))
    have g := (h k (by omega)).1.2
    rw [sumP_succ ps k (by omega)]
    omega

set_option maxHeartbeats 8000000 in
theorem spRankOk_in (w : World) (x : Option Addr) (n c : Nat) (ps : List Pr) (all : Int) (hl : ps.length = n) (hp : Prs w (.slice x n c) ps) (hn : n ≤ maxLen) :
    Calls Try.prog 23 #[.agg #[.slice x n c, .int .i64 all]] w fun e w' => e = .returned (.bool (rankB ps all)) ∧ Below w.heap.size w w' := by
  unfold maxLen at hn
  have HPR := Lib.hid hp
  have HP := Lib.hid hp.cells
  have HL := Lib.hid hl
  obtain ⟨W, hW⟩ : ∃ W, W = w.alloc (.cells #[.slice x n c, .int .i64 all] 29) := ⟨_, rfl⟩
  have hA : Below w.heap.size w W := by rw [hW]; exact (Below.refl w.heap.size w).alloc (Nat.le_refl _) _
  have sW : W.heap.size = w.heap.size + 1 := by rw [hW]; simp
  have X : Box2 W w.heap.size 29 (.slice x n c) (.int .i64 all) := by rw [hW]; exact Box2.new _ _ _ _
  have HA := Lib.hid hA
  have HS := Lib.hid sW
  have HX := Lib.hid X
  have x0 := X.cell0
  have x1 := X.cell1
  clear hl hp hA sW X
  by_cases ha : all < 0 ∨ 2000 < all
  · have bd : Hid (rankB ps all = false) := rankB_no (fun q => by have := q.1; omega)
    go_enter Try.func23, Try.ntmps23
    go_wp2_with fail
    rw [← hW]
    clear hW
    refine (l6In_no _ _ _ _ ha).mono ?_
    rintro e w' ⟨rfl, rfl⟩
    go_wp2
    go_ret
    exact ⟨ret_bool bd.out.symm, HA.out⟩
  have ha0 : 0 ≤ all := by omega
  have ha1 : all ≤ 2000 := by omega
  have hD : all.tdiv 8 = all / 8 := Int.tdiv_eq_ediv_of_nonneg ha0
  obtain ⟨D, hDD⟩ : ∃ D, D = all / 8 := ⟨_, rfl⟩
  rw [← hDD] at hD
  have HDD := Lib.hid hDD
  have d0 : 0 ≤ D := by omega
  have d1 : D ≤ 250 := by omega
  clear hDD
  go_enter Try.func23, Try.ntmps23
  go_wp2_with fail
  rw [← hW]
  clear hW
  refine (l6In_yes _ _ _ _ ha0 ha1).mono ?_
  rintro e w' ⟨rfl, rfl⟩
  go_wp2
  go_loopw [3, 4] (fun q i wr => ∃ k : Nat, k ≤ n ∧ i = .int .i64 k ∧ q = .int .i64 (sumP (ps.take k)) ∧ (∀ i, i < k → KnG ps all i) ∧ Below (w.heap.size + 1) W wr) (fun _ i _ => n - (intOf i).toNat)
  case atStart => exact ⟨0, Nat.zero_le _, rfl, rfl, fun _ h => absurd h (Nat.not_lt_zero _), Below.refl _ _⟩
  case round =>
    obtain ⟨k, hk, rfl, rfl, hg, hbl⟩ := hrel
    have G := Lib.hid hg
    have HB := Lib.hid hbl
    have kf := knG_few hg
    have hsb := sumK_bd (by rw [HL.out]; exact hk) hg
    have hX1 := HX.out.below HB.out (Nat.lt_succ_self _)
    have cw0 := hX1.cell0
    have cw1 := hX1.cell1
    have FIN := Lib.hid (HA.out.trans (HB.out.mono (Nat.le_succ _)))
    have sw : w.heap.size + 1 ≤ wr.heap.size := by have := HB.out.size; have := HS.out; omega
    by_cases hlt : k < n
    · obtain ⟨b, o, rfl, hb, h1, h2⟩ := HP.out k (by rw [HL.out]; exact hlt)
      have tr : ∀ j v, w.cell? ⟨b, j, none⟩ = some v → wr.cell? ⟨b, j, none⟩ = some v := fun j v h => by
        rw [HB.out.cell (p := ⟨b, j, none⟩) (by show b < _; omega), HA.out.cell (p := ⟨b, j, none⟩) hb]; exact h
      have TR := Lib.hid tr
      replace h1 := tr _ _ h1
      replace h2 := tr _ _ h2
      have lb : b < wr.heap.size := by omega
      have HQ : Hid (KnG ps all k ↔ (((1 ≤ (pr ps k).1 ∧ (pr ps k).1 ≤ 127) ∧ 1 ≤ (pr ps k).2 ∧ (pr ps k).2 ≤ 2000) ∧ (0 < k → (pr ps (k - 1)).1 < (pr ps k).1) ∧ ((pr ps k).1 < 64 → (pr ps k).2 ≤ all / 8))) := Iff.rfl
      rw [← HDD.out] at HQ
      have bad : Hid (¬ KnG ps all k → rankB ps all = false) := fun h => rankB_no (fun q => h (q.2.1 k (by rw [HL.out]; exact hlt)))
      have hs := Lib.hid (sumP_succ ps k (by rw [HL.out]; exact hlt))
      generalize pr ps k = q at h1 h2 HQ hs
      obtain ⟨t, m⟩ := q
      have k0 : (0 : Int) ≤ (k : Int) := by omega
      have kn : (k : Int) < (n : Int) := by omega
      -- the world with this round's box
      obtain ⟨wk, hwk⟩ : ∃ wk, wk = wr.alloc (.cells #[.int .i64 t, .int .i64 m] 33) := ⟨_, rfl⟩
      have hK : Below wr.heap.size wr wk := by rw [hwk]; exact (Below.refl _ _).alloc (Nat.le_refl _) _
      have bK : Box2 wk wr.heap.size 33 (.int .i64 t) (.int .i64 m) := by rw [hwk]; exact Box2.new _ _ _ _
      have y0 := bK.cell0
      have y1 := bK.cell1
      have yX := hX1.later hK
      have xk0 := yX.cell0
      have xk1 := yX.cell1
      have HB2 := Lib.hid (HB.out.trans (hK.mono sw))
      have FIN2 := Lib.hid (FIN.out.trans (hK.mono FIN.out.size))
      have HK := Lib.hid hK
      generalize hSS : sumP (ps.take k) = S at *
      clear hg hbl tr hX1 bK yX hSS hK
      go_wp2_with fail
      rw [← hwk]
      clear hwk
      by_cases ht : t < 1 ∨ 127 < t
      · skip
        have bd := Lib.hid (bad.out (fun q => by have := (HQ.out.1 q).1.1; (try simp at this); omega))
        clear HQ bad
        go_quiet (first | (with_reducible exact quiet_same' (l6In_no _ _ _ _ ht)))
        go_wp2
        go_ret
        exact ⟨ret_bool bd.out.symm, below_drewN FIN2.out _⟩
      have ht0 : 1 ≤ t := by omega
      have ht1 : t ≤ 127 := by omega
      by_cases hm : m < 1 ∨ 2000 < m
      · skip
        have bd := Lib.hid (bad.out (fun q => by have := (HQ.out.1 q).1.2; (try simp at this); omega))
        clear HQ bad
        go_quiet (first | (with_reducible exact quiet_same' (l6In_yes _ _ _ _ ht0 ht1)) | (with_reducible exact quiet_same' (l6In_no _ _ _ _ hm)))
        go_wp2
        go_ret
        exact ⟨ret_bool bd.out.symm, below_drewN FIN2.out _⟩
      have hm0 : 1 ≤ m := by omega
      have hm1 : m ≤ 2000 := by omega
      rcases Nat.eq_zero_or_pos k with h0 | h0
      · subst h0
        by_cases h64 : t < 64
        · have e64 : decide (t < 64) = true := decide_eq_true h64
          by_cases hD8 : D < m
          · have eD : decide (D < m) = true := decide_eq_true hD8
            have bd := Lib.hid (bad.out (fun q => by have := (HQ.out.1 q).2.2 h64; (try simp at this); omega))
            clear HQ bad
            go_quiet (first | (with_reducible exact quiet_same' (l6In_yes _ _ _ _ ht0 ht1)) | (with_reducible exact quiet_same' (l6In_yes _ _ _ _ hm0 hm1)))
            go_wp2
            go_ret
            exact ⟨ret_bool bd.out.symm, below_drewN FIN2.out _⟩
          · have eD : decide (D < m) = false := decide_eq_false hD8
            have good := Lib.hid (HQ.out.2 ⟨⟨⟨ht0, ht1⟩, hm0, hm1⟩, fun h => absurd h (Nat.lt_irrefl _), fun _ => by (try simp); omega⟩)
            clear HQ bad
            go_quiet (first | (with_reducible exact quiet_same' (l6In_yes _ _ _ _ ht0 ht1)) | (with_reducible exact quiet_same' (l6In_yes _ _ _ _ hm0 hm1)))
            go_wp2
            go_roundw
            case rel => exact ⟨0 + 1, by omega, by go_num, by rw [hs.out], fun i hi => by
              by_cases h : i < 0
              · exact G.out i h
              · obtain rfl : i = 0 := by omega
                exact good.out, below_drewN HB2.out _⟩
            case measure => simp [intOf]; omega
        · have e64 : decide (t < 64) = false := decide_eq_false h64
          have good := Lib.hid (HQ.out.2 ⟨⟨⟨ht0, ht1⟩, hm0, hm1⟩, fun h => absurd h (Nat.lt_irrefl _), fun h => absurd h h64⟩)
          clear HQ bad
          go_quiet (first | (with_reducible exact quiet_same' (l6In_yes _ _ _ _ ht0 ht1)) | (with_reducible exact quiet_same' (l6In_yes _ _ _ _ hm0 hm1)))
          go_wp2
          go_roundw
          case rel => exact ⟨0 + 1, by omega, by go_num, by rw [hs.out], fun i hi => by
            by_cases h : i < 0
            · exact G.out i h
            · obtain rfl : i = 0 := by omega
              exact good.out, below_drewN HB2.out _⟩
          case measure => simp [intOf]; omega
      · obtain ⟨j, rfl⟩ : ∃ j, k = j + 1 := ⟨k - 1, by omega⟩
        obtain ⟨b', o', e', hb', h3, _⟩ := HP.out j (by rw [HL.out]; omega)
        cases e'
        replace h3 := (HK.out.cell (p := ⟨b, o + j * 2, none⟩) lb).trans (TR.out _ _ h3)
        rw [Nat.add_sub_cancel] at HQ
        generalize pr ps j = q' at h3 HQ
        obtain ⟨t', m'⟩ := q'
        have p0 : (0 : Int) < ((j + 1 : Nat) : Int) := by omega
        have e1 : ((j + 1 : Nat) : Int) - 1 = (j : Int) := by omega
        have j0 : (0 : Int) ≤ (j : Int) := by omega
        have jn : (j : Int) < (n : Int) := by omega
        by_cases hyx : t ≤ t'
        · have hd : decide (t ≤ t') = true := decide_eq_true hyx
          have bd := Lib.hid (bad.out (fun q => by have := (HQ.out.1 q).2.1 h0; (try simp at this); omega))
          clear HQ bad
          go_quiet (first | (with_reducible exact quiet_same' (l6In_yes _ _ _ _ ht0 ht1)) | (with_reducible exact quiet_same' (l6In_yes _ _ _ _ hm0 hm1)))
          go_wp2
          go_ret
          exact ⟨ret_bool bd.out.symm, below_drewN FIN2.out _⟩
        have hd : decide (t ≤ t') = false := decide_eq_false hyx
        by_cases h64 : t < 64
        · have e64 : decide (t < 64) = true := decide_eq_true h64
          by_cases hD8 : D < m
          · have eD : decide (D < m) = true := decide_eq_true hD8
            have bd := Lib.hid (bad.out (fun q => by have := (HQ.out.1 q).2.2 h64; (try simp at this); omega))
            clear HQ bad
            go_quiet (first | (with_reducible exact quiet_same' (l6In_yes _ _ _ _ ht0 ht1)) | (with_reducible exact quiet_same' (l6In_yes _ _ _ _ hm0 hm1)))
            go_wp2
            go_ret
            exact ⟨ret_bool bd.out.symm, below_drewN FIN2.out _⟩
          · have eD : decide (D < m) = false := decide_eq_false hD8
            have good := Lib.hid (HQ.out.2 ⟨⟨⟨ht0, ht1⟩, hm0, hm1⟩, fun _ => by (try simp); omega, fun _ => by (try simp); omega⟩)
            clear HQ bad
            go_quiet (first | (with_reducible exact quiet_same' (l6In_yes _ _ _ _ ht0 ht1)) | (with_reducible exact quiet_same' (l6In_yes _ _ _ _ hm0 hm1)))
            go_wp2
            go_roundw
            case rel => exact ⟨(j + 1) + 1, by omega, by go_num, by rw [hs.out], fun i hi => by
              by_cases h : i < (j + 1)
              · exact G.out i h
              · obtain rfl : i = (j + 1) := by omega
                exact good.out, below_drewN HB2.out _⟩
            case measure => simp [intOf]; omega
        · have e64 : decide (t < 64) = false := decide_eq_false h64
          have good := Lib.hid (HQ.out.2 ⟨⟨⟨ht0, ht1⟩, hm0, hm1⟩, fun _ => by (try simp); omega, fun h => absurd h h64⟩)
          clear HQ bad
          go_quiet (first | (with_reducible exact quiet_same' (l6In_yes _ _ _ _ ht0 ht1)) | (with_reducible exact quiet_same' (l6In_yes _ _ _ _ hm0 hm1)))
          go_wp2
          go_roundw
          case rel => exact ⟨(j + 1) + 1, by omega, by go_num, by rw [hs.out], fun i hi => by
            by_cases h : i < (j + 1)
            · exact G.out i h
            · obtain rfl : i = (j + 1) := by omega
              exact good.out, below_drewN HB2.out _⟩
          case measure => simp [intOf]; omega
    · obtain rfl : k = n := by omega
      have e1 : ps.take k = ps := List.take_of_length_le (by rw [HL.out]; exact Nat.le_refl _)
      rw [e1] at hsb ⊢
      have HF : Hid (sumP ps = all → rankB ps all = true) := fun h => (rankB_iff _ _).2 ⟨⟨ha0, ha1⟩, fun i hi => G.out i (by rw [HL.out] at hi; exact hi), h⟩
      have HN : Hid (¬ sumP ps = all → rankB ps all = false) := fun h => rankB_no (fun q => h q.2.2)
      generalize sumP ps = S at *
      clear hg hbl hX1 e1
      by_cases he : S = all
      · have fv := Lib.hid (HF.out he)
        have e2 : (S == all) = true := by simpa using he
        go_wp2
        go_ret
        exact ⟨ret_bool (by first | (rw [fv.out]; done) | (rw [fv.out]; simp [he])), FIN.out⟩
      · have fv := Lib.hid (HN.out he)
        have e2 : (S == all) = false := by simpa using he
        go_wp2
        go_ret
        exact ⟨ret_bool (by first | (rw [fv.out]; done) | (rw [fv.out]; simp [he])), FIN.out⟩

theorem spRankOk_at (w : World) (u : Value) (ps : List Pr) (all : Int) (hp : Prs w u ps) :
    Calls Try.prog 23 #[.agg #[u, .int .i64 all]] w fun e w' => e = .returned (.bool (rankB ps all)) ∧ Below w.heap.size w w' := by
  obtain ⟨x, c, rfl, hc0, hc⟩ := hp.form
  exact spRankOk_in w x _ c ps all rfl hp (by omega)

end Go.Proofs.Ytnpcgbjkahpcfaa
