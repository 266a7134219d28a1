/-
  How many are up to a thing, in the program: RankBelow.
-/
import Derived.Test.YtnpcgbjkahpcfaaKIm2
import Derived.Test.YtnpcgbjkahpcfaaKBelow
namespace Go.Proofs.Ytnpcgbjkahpcfaa
open Go.RowKit Go.Sort

set_option maxHeartbeats 4000000 in
theorem imRankBelow_no (w : World) (u : Value) (ps : List Pr) (all t : Int) (hp : Prs w u ps) (hno : belOk ps all t = false) :
    Calls Try.prog 28 #[.agg #[u, .int .i64 all], .int .i64 t] w fun e w' => e = .returned (.tuple #[.int .i64 (-1), .int .i64 (-1)]) ∧ Below w.heap.size w w' := by
  obtain ⟨W, hW⟩ : ∃ W, W = w.alloc (.cells #[u, .int .i64 all] 29) := ⟨_, rfl⟩
  have hA : Below w.heap.size w W := by rw [hW]; exact (Below.refl w.heap.size w).alloc (Nat.le_refl _) _
  have K := Lib.hid (imRankOk_at W u ps all (hp.below hA (Nat.le_refl _)))
  obtain ⟨x, c, rfl, _, _⟩ := hp.form
  obtain ⟨n, hn⟩ : ∃ n, n = ps.length := ⟨_, rfl⟩
  rw [← hn] at K hW ⊢
  have X : Box2 W w.heap.size 29 (.slice x n c) (.int .i64 all) := by rw [hW]; exact Box2.new _ _ _ _
  have x0 := X.cell0
  have x1 := X.cell1
  have HA := Lib.hid hA
  clear hp hn hA
  unfold belOk at hno
  cases hk : rankB ps all with
  | false =>
    rw [hk] at K
    clear hno hk
    go_enter Try.func28, Try.ntmps28
    go_wp2_with fail
    rw [← hW]
    clear hW
    go_wp2_with fail
    refine K.out.mono ?_
    rintro e w1 ⟨rfl, hb1⟩
    go_wp2
    go_ret2
    exact ⟨rfl, HA.out.trans (hb1.mono HA.out.size)⟩
  | true =>
    rw [hk] at K hno
    have ht : t < 0 ∨ 64 ≤ t := by simp at hno; omega
    clear hno hk
    go_enter Try.func28, Try.ntmps28
    go_wp2_with fail
    rw [← hW]
    clear hW
    go_wp2_with fail
    refine K.out.mono ?_
    rintro e w1 ⟨rfl, hb1⟩
    go_wp2_with fail
    refine (isThing_no t _ ht).mono ?_
    rintro e w' ⟨rfl, rfl⟩
    go_wp2
    go_ret2
    exact ⟨rfl, HA.out.trans (hb1.mono HA.out.size)⟩

set_option maxHeartbeats 8000000 in
theorem imRankBelow_yes (w : World) (u : Value) (ps : List Pr) (all t : Int) (hp : Prs w u ps) (hk : rankB ps all = true) (t0 : 0 ≤ t) (t1 : t ≤ 63) :
    Calls Try.prog 28 #[.agg #[u, .int .i64 all], .int .i64 t] w fun e w' => e = .returned (.tuple #[.int .i64 (leastP ps t), .int .i64 (mostP ps t)]) ∧ Below w.heap.size w w' := by
  obtain ⟨W, hW⟩ : ∃ W, W = w.alloc (.cells #[u, .int .i64 all] 29) := ⟨_, rfl⟩
  have hA : Below w.heap.size w W := by rw [hW]; exact (Below.refl w.heap.size w).alloc (Nat.le_refl _) _
  have K := Lib.hid (imRankOk_at W u ps all (hp.below hA (Nat.le_refl _)))
  have RK := (rankB_iff _ _).1 hk
  have KG := Lib.hid RK.2.1
  have kf := knG_few (k := ps.length) RK.2.1
  obtain ⟨x, c, rfl, _, _⟩ := hp.form
  obtain ⟨n, hn⟩ : ∃ n, n = ps.length := ⟨_, rfl⟩
  have HP := Lib.hid hp.cells
  rw [← hn] at K hW HP kf ⊢
  have HN := Lib.hid hn
  have X : Box2 W w.heap.size 29 (.slice x n c) (.int .i64 all) := by rw [hW]; exact Box2.new _ _ _ _
  have x0 := X.cell0
  have x1 := X.cell1
  have HA := Lib.hid hA
  rw [hk] at K
  clear hp hn hA hk RK
  go_enter Try.func28, Try.ntmps28
  go_wp2_with fail
  rw [← hW]
  clear hW
  go_wp2_with fail
  refine K.out.mono ?_
  rintro e w1 ⟨rfl, hb1⟩
  have X1 := X.later hb1
  have B1 := Lib.hid (HA.out.trans (hb1.mono HA.out.size))
  clear hb1 X x0 x1 K
  have x0 := X1.cell0
  have x1 := X1.cell1
  go_wp2_with fail
  refine (isThing_yes t _ t0 (by omega)).mono ?_
  rintro e w' ⟨rfl, rfl⟩
  go_wp2
  go_loopw [6, 7, 23] (fun p q i wr => ∃ k : Nat, k ≤ n ∧ i = .int .i64 k ∧ p = .int .i64 (leastP (ps.take k) t) ∧ q = .int .i64 (mostP (ps.take k) t) ∧ Below w1.heap.size w1 wr) (fun _ _ i _ => n - (intOf i).toNat)
  case atStart => exact ⟨0, Nat.zero_le _, rfl, rfl, rfl, Below.refl _ _⟩
  case round =>
    obtain ⟨k, hk, rfl, rfl, rfl, hbl⟩ := hrel
    have HB := Lib.hid hbl
    have bd := below_bd t KG.out k (by rw [← HN.out]; exact hk)
    by_cases hlt : k < n
    · obtain ⟨b, o, rfl, hb, h1, h2⟩ := HP.out k hlt
      rw [← B1.out.cell (p := ⟨b, o + k * 2, none⟩) hb] at h1
      rw [← B1.out.cell (p := ⟨b, o + k * 2 + 1, none⟩) hb] at h2
      have lb : b < w1.heap.size := Nat.lt_of_lt_of_le hb B1.out.size
      rw [← HB.out.cell (p := ⟨b, o + k * 2, none⟩) lb] at h1
      rw [← HB.out.cell (p := ⟨b, o + k * 2 + 1, none⟩) lb] at h2
      have g := (KG.out k (by rw [← HN.out]; exact hlt)).1
      have s1 := Lib.hid (leastP_succ ps k t (by rw [← HN.out]; exact hlt))
      have s2 := Lib.hid (mostP_succ ps k t (by rw [← HN.out]; exact hlt))
      generalize pr ps k = q at h1 h2 g s1 s2
      obtain ⟨a, m⟩ := q
      simp only at h1 h2 g s1 s2
      obtain ⟨wk, hwk⟩ : ∃ wk, wk = wr.alloc (.cells #[.int .i64 a, .int .i64 m] 33) := ⟨_, rfl⟩
      have hK : Below wr.heap.size wr wk := by rw [hwk]; exact (Below.refl _ _).alloc (Nat.le_refl _) _
      have bK : Box2 wk wr.heap.size 33 (.int .i64 a) (.int .i64 m) := by rw [hwk]; exact Box2.new _ _ _ _
      have y0 := bK.cell0
      have y1 := bK.cell1
      have HB2 := Lib.hid (HB.out.trans (hK.mono HB.out.size))
      have KS := Lib.hid (imSpan_yes wk a g.1.1 g.1.2)
      obtain ⟨m0, m1⟩ := g.2
      clear g bK hK hbl lb
      generalize lowT a = lo at *
      generalize highT a = hi at *
      generalize leastP (ps.take k) t = S at *
      generalize mostP (ps.take k) t = T at *
      obtain ⟨⟨S0, S1⟩, T0, T1⟩ := bd
      have k0 : (0 : Int) ≤ (k : Int) := by omega
      have kn : (k : Int) < (n : Int) := by omega
      have kk : (k : Int) ≤ 127 := by omega
      go_wp2_with fail
      rw [← hwk]
      clear hwk
      go_wp2_with fail
      refine KS.out.mono ?_
      rintro e w' ⟨rfl, rfl⟩
      by_cases c1 : hi ≤ t
      · have e1 := Lib.hid (s1.out.trans (by rw [if_pos c1]))
        by_cases c2 : lo ≤ t
        · have e2 := Lib.hid (s2.out.trans (by rw [if_pos c2]))
          go_wp2
          go_roundw
          case rel => exact ⟨k + 1, by omega, by go_num, by rw [e1.out], by rw [e2.out], HB2.out⟩
          case measure => simp [intOf]; omega
        · have e2 := Lib.hid (s2.out.trans (by rw [if_neg c2, Int.add_zero]))
          go_wp2
          go_roundw
          case rel => exact ⟨k + 1, by omega, by go_num, by rw [e1.out], by rw [e2.out], HB2.out⟩
          case measure => simp [intOf]; omega
      · have e1 := Lib.hid (s1.out.trans (by rw [if_neg c1, Int.add_zero]))
        by_cases c2 : lo ≤ t
        · have e2 := Lib.hid (s2.out.trans (by rw [if_pos c2]))
          go_wp2
          go_roundw
          case rel => exact ⟨k + 1, by omega, by go_num, by rw [e1.out], by rw [e2.out], HB2.out⟩
          case measure => simp [intOf]; omega
        · have e2 := Lib.hid (s2.out.trans (by rw [if_neg c2, Int.add_zero]))
          go_wp2
          go_roundw
          case rel => exact ⟨k + 1, by omega, by go_num, by rw [e1.out], by rw [e2.out], HB2.out⟩
          case measure => simp [intOf]; omega
    · obtain rfl : k = n := by omega
      have e1 : ps.take k = ps := List.take_of_length_le (by rw [← HN.out]; exact Nat.le_refl _)
      have FIN := Lib.hid (B1.out.trans (HB.out.mono B1.out.size))
      rw [e1]
      clear e1 bd hbl
      go_wp2
      go_ret2
      exact ⟨rfl, FIN.out⟩

theorem imRankBelow_at (w : World) (u : Value) (ps : List Pr) (all t : Int) (hp : Prs w u ps) :
    Calls Try.prog 28 #[.agg #[u, .int .i64 all], .int .i64 t] w fun e w' => e = .returned (.tuple #[.int .i64 (belL ps all t), .int .i64 (belM ps all t)]) ∧ Below w.heap.size w w' := by
  unfold belL belM
  cases h : belOk ps all t with
  | false => exact imRankBelow_no w u ps all t hp h
  | true =>
    obtain ⟨a, b, c⟩ := belOk_yes h
    exact imRankBelow_yes w u ps all t hp a b c

end Go.Proofs.Ytnpcgbjkahpcfaa
