/-
  How many are up to a thing, at least and at most: the model's RankBelow.
-/
import Derived.Test.YtnpcgbjkahpcfaaKOk
namespace Go.Proofs.Ytnpcgbjkahpcfaa
open Go.RowKit Go.Sort

/-- What is counted at knots whose last thing is not above t; and at those whose first is not. -/
def leastP : List Pr → Int → Int
  | [], _ => 0
  | p :: ps, t => (if highT p.1 ≤ t then p.2 else 0) + leastP ps t
def mostP : List Pr → Int → Int
  | [], _ => 0
  | p :: ps, t => (if lowT p.1 ≤ t then p.2 else 0) + mostP ps t
theorem leastP_append (ps qs : List Pr) (t : Int) : leastP (ps ++ qs) t = leastP ps t + leastP qs t := by
  induction ps with
  | nil => simp [leastP]
  | cons p ps ih => simp only [List.cons_append, leastP, ih]; omega
theorem mostP_append (ps qs : List Pr) (t : Int) : mostP (ps ++ qs) t = mostP ps t + mostP qs t := by
  induction ps with
  | nil => simp [mostP]
  | cons p ps ih => simp only [List.cons_append, mostP, ih]; omega
theorem leastP_succ (ps : List Pr) (k : Nat) (t : Int) (h : k < ps.length) : leastP (ps.take (k + 1)) t = leastP (ps.take k) t + if highT (pr ps k).1 ≤ t then (pr ps k).2 else 0 := by
  rw [take_succ_pr ps k h, leastP_append]; simp [leastP]
theorem mostP_succ (ps : List Pr) (k : Nat) (t : Int) (h : k < ps.length) : mostP (ps.take (k + 1)) t = mostP (ps.take k) t + if lowT (pr ps k).1 ≤ t then (pr ps k).2 else 0 := by
  rw [take_succ_pr ps k h, mostP_append]; simp [mostP]
theorem below_bd {ps : List Pr} {all : Int} (t : Int) (h : ∀ i, i < ps.length → KnG ps all i) : ∀ k, k ≤ ps.length → (0 ≤ leastP (ps.take k) t ∧ leastP (ps.take k) t ≤ 2000 * k) ∧ (0 ≤ mostP (ps.take k) t ∧ mostP (ps.take k) t ≤ 2000 * k) := by
  intro k
  induction k with
  | zero => intro _; simp [leastP, mostP]
  | succ k ih =>
    intro hk
    have := ih (by omega)
    have g := (h k (by omega)).1.2
    rw [leastP_succ ps k t (by omega), mostP_succ ps k t (by omega)]
    split <;> split <;> omega
def belOk (ps : List Pr) (all t : Int) : Bool := rankB ps all && decide (0 ≤ t ∧ t ≤ 63)
def belL (ps : List Pr) (all t : Int) : Int := if belOk ps all t then leastP ps t else -1
def belM (ps : List Pr) (all t : Int) : Int := if belOk ps all t then mostP ps t else -1

set_option maxHeartbeats 4000000 in
theorem spRankBelow_no (w : World) (u : Value) (ps : List Pr) (all t : Int) (hp : Prs w u ps) (hno : belOk ps all t = false) :
    Calls Try.prog 30 #[.agg #[u, .int .i64 all], .int .i64 t] w fun e w' => e = .returned (.tuple #[.int .i64 (-1), .int .i64 (-1)]) ∧ Below w.heap.size w w' := by
  obtain ⟨W, hW⟩ : ∃ W, W = w.alloc (.cells #[u, .int .i64 all] 29) := ⟨_, rfl⟩
  have hA : Below w.heap.size w W := by rw [hW]; exact (Below.refl w.heap.size w).alloc (Nat.le_refl _) _
  have K := Lib.hid (spRankOk_at W u ps all (hp.below hA (Nat.le_refl _)))
  obtain ⟨x, c, rfl, _, _⟩ := hp.form
  obtain ⟨n, hn⟩ : ∃ n, n = ps.length := ⟨_, rfl⟩
  rw [← hn] at K hW ⊢
  have X : Box2 W w.heap.size 29 (.slice x n c) (.int .i64 all) := by rw [hW]; exact Box2.new _ _ _ _
  have x0 := X.cell0
  have x1 := X.cell1
  have HA := Lib.hid hA
  clear hp hn hA
  unfold belOk at hno
  cases hk : rankB ps all with
  | false =>
    rw [hk] at K
    clear hno hk
    go_enter Try.func30, Try.ntmps30
    go_wp2_with fail
    rw [← hW]
    clear hW
    refine K.out.mono ?_
    rintro e w1 ⟨rfl, hb1⟩
    go_wp2
    go_ret2
    exact ⟨rfl, HA.out.trans (hb1.mono HA.out.size)⟩
  | true =>
    rw [hk] at K hno
    have ht : t < 0 ∨ 63 < t := by simp at hno; omega
    clear hno hk
    go_enter Try.func30, Try.ntmps30
    go_wp2_with fail
    rw [← hW]
    clear hW
    refine K.out.mono ?_
    rintro e w1 ⟨rfl, hb1⟩
    go_wp2_with fail
    refine (l6In_no t 0 63 _ ht).mono ?_
    rintro e w' ⟨rfl, rfl⟩
    go_wp2
    go_ret2
    exact ⟨rfl, HA.out.trans (hb1.mono HA.out.size)⟩

set_option maxHeartbeats 8000000 in
theorem spRankBelow_yes (w : World) (u : Value) (ps : List Pr) (all t : Int) (hp : Prs w u ps) (hk : rankB ps all = true) (t0 : 0 ≤ t) (t1 : t ≤ 63) :
    Calls Try.prog 30 #[.agg #[u, .int .i64 all], .int .i64 t] w fun e w' => e = .returned (.tuple #[.int .i64 (leastP ps t), .int .i64 (mostP ps t)]) ∧ Below w.heap.size w w' := by
  obtain ⟨W, hW⟩ : ∃ W, W = w.alloc (.cells #[u, .int .i64 all] 29) := ⟨_, rfl⟩
  have hA : Below w.heap.size w W := by rw [hW]; exact (Below.refl w.heap.size w).alloc (Nat.le_refl _) _
  have K := Lib.hid (spRankOk_at W u ps all (hp.below hA (Nat.le_refl _)))
  have RK := (rankB_iff _ _).1 hk
  have KG := Lib.hid RK.2.1
  have kf := knG_few (k := ps.length) RK.2.1
  obtain ⟨x, c, rfl, _, _⟩ := hp.form
  obtain ⟨n, hn⟩ : ∃ n, n = ps.length := ⟨_, rfl⟩
  have HP := Lib.hid hp.cells
  rw [← hn] at K hW HP kf ⊢
  have HN := Lib.hid hn
  have X : Box2 W w.heap.size 29 (.slice x n c) (.int .i64 all) := by rw [hW]; exact Box2.new _ _ _ _
  have x0 := X.cell0
  have x1 := X.cell1
  have HA := Lib.hid hA
  rw [hk] at K
  clear hp hn hA hk RK
  go_enter Try.func30, Try.ntmps30
  go_wp2_with fail
  rw [← hW]
  clear hW
  refine K.out.mono ?_
  rintro e w1 ⟨rfl, hb1⟩
  have X1 := X.later hb1
  have B1 := Lib.hid (HA.out.trans (hb1.mono HA.out.size))
  clear hb1 X x0 x1 K
  have x0 := X1.cell0
  have x1 := X1.cell1
  go_wp2_with fail
  refine (l6In_yes t 0 63 _ t0 t1).mono ?_
  rintro e w' ⟨rfl, rfl⟩
  go_wp2
  go_loopw [6, 7, 8] (fun p q i wr => ∃ k : Nat, k ≤ n ∧ i = .int .i64 k ∧ p = .int .i64 (leastP (ps.take k) t) ∧ q = .int .i64 (mostP (ps.take k) t) ∧ wr = w1) (fun _ _ i _ => n - (intOf i).toNat)
  case atStart => exact ⟨0, Nat.zero_le _, rfl, rfl, rfl, by first | rfl | trivial⟩
  case round =>
    obtain ⟨k, hk, rfl, rfl, rfl, rfl⟩ := hrel
    have bd := below_bd t KG.out k (by rw [← HN.out]; exact hk)
    by_cases hlt : k < n
    · obtain ⟨b, o, rfl, hb, h1, h2⟩ := HP.out k hlt
      rw [← B1.out.cell (p := ⟨b, o + k * 2, none⟩) hb] at h1
      rw [← B1.out.cell (p := ⟨b, o + k * 2 + 1, none⟩) hb] at h2
      have g := (KG.out k (by rw [← HN.out]; exact hlt)).1
      have s1 := Lib.hid (leastP_succ ps k t (by rw [← HN.out]; exact hlt))
      have s2 := Lib.hid (mostP_succ ps k t (by rw [← HN.out]; exact hlt))
      generalize pr ps k = q at h1 h2 g s1 s2
      obtain ⟨a, m⟩ := q
      simp only at h1 h2 g s1 s2
      have KS := Lib.hid (l4Span_at wr a g.1.1 g.1.2)
      obtain ⟨m0, m1⟩ := g.2
      clear g
      generalize lowT a = lo at *
      generalize highT a = hi at *
      generalize leastP (ps.take k) t = S at *
      generalize mostP (ps.take k) t = T at *
      obtain ⟨⟨S0, S1⟩, T0, T1⟩ := bd
      have k0 : (0 : Int) ≤ (k : Int) := by omega
      have kn : (k : Int) < (n : Int) := by omega
      have kk : (k : Int) ≤ 127 := by omega
      go_wp2_with fail
      refine KS.out.mono ?_
      rintro e w' ⟨rfl, rfl⟩
      by_cases c1 : hi ≤ t
      · have e1 := Lib.hid (s1.out.trans (by rw [if_pos c1]))
        by_cases c2 : lo ≤ t
        · have e2 := Lib.hid (s2.out.trans (by rw [if_pos c2]))
          go_wp2
          go_roundw
          case rel => exact ⟨k + 1, by omega, by go_num, by rw [e1.out], by rw [e2.out], by first | rfl | trivial⟩
          case measure => simp [intOf]; omega
        · have e2 := Lib.hid (s2.out.trans (by rw [if_neg c2, Int.add_zero]))
          go_wp2
          go_roundw
          case rel => exact ⟨k + 1, by omega, by go_num, by rw [e1.out], by rw [e2.out], by first | rfl | trivial⟩
          case measure => simp [intOf]; omega
      · have e1 := Lib.hid (s1.out.trans (by rw [if_neg c1, Int.add_zero]))
        by_cases c2 : lo ≤ t
        · have e2 := Lib.hid (s2.out.trans (by rw [if_pos c2]))
          go_wp2
          go_roundw
          case rel => exact ⟨k + 1, by omega, by go_num, by rw [e1.out], by rw [e2.out], by first | rfl | trivial⟩
          case measure => simp [intOf]; omega
        · have e2 := Lib.hid (s2.out.trans (by rw [if_neg c2, Int.add_zero]))
          go_wp2
          go_roundw
          case rel => exact ⟨k + 1, by omega, by go_num, by rw [e1.out], by rw [e2.out], by first | rfl | trivial⟩
          case measure => simp [intOf]; omega
    · obtain rfl : k = n := by omega
      have e1 : ps.take k = ps := List.take_of_length_le (by rw [← HN.out]; exact Nat.le_refl _)
      rw [e1]
      clear e1 bd
      go_wp2
      go_ret2
      exact ⟨rfl, B1.out⟩

theorem belOk_yes {ps : List Pr} {all t : Int} (h : belOk ps all t = true) : rankB ps all = true ∧ 0 ≤ t ∧ t ≤ 63 := by
  unfold belOk at h
  simpa using h
theorem spRankBelow_at (w : World) (u : Value) (ps : List Pr) (all t : Int) (hp : Prs w u ps) :
    Calls Try.prog 30 #[.agg #[u, .int .i64 all], .int .i64 t] w fun e w' => e = .returned (.tuple #[.int .i64 (belL ps all t), .int .i64 (belM ps all t)]) ∧ Below w.heap.size w w' := by
  unfold belL belM
  cases h : belOk ps all t with
  | false => exact spRankBelow_no w u ps all t hp h
  | true =>
    obtain ⟨a, b, c⟩ := belOk_yes h
    exact spRankBelow_yes w u ps all t hp a b c

end Go.Proofs.Ytnpcgbjkahpcfaa
