/-
  Marks of things, and whether marks are in form: of the program and of its model.
-/
import Derived.Test.YteopnbjiffncbabOwn
import Derived.Test.YteopnbjiffncbabLast
import Derived.Test.YteopnbjiffncbabEq
namespace Go.Proofs.Yteopnbjiffncbab
open Go.RowKit Go.Sort

def markV (t : Int) : Int := if 0 ≤ t ∧ t < 64 then (37 * t + 11) % 64 else -1
theorem markV_yes {t : Int} (h0 : 0 ≤ t) (h1 : t < 64) : markV t = (37 * t + 11) % 64 := if_pos ⟨h0, h1⟩
theorem markV_no {t : Int} (h : t < 0 ∨ 64 ≤ t) : markV t = -1 := if_neg (by omega)
theorem markV_bd (t : Int) : -1 ≤ markV t ∧ markV t < 64 := by unfold markV; split <;> omega
theorem markV_in {t : Int} (h0 : 0 ≤ t) (h1 : t < 64) : 0 ≤ markV t ∧ markV t < 64 := by rw [markV_yes h0 h1]; omega
theorem markV_one {s t : Int} (h0 : 0 ≤ t) (h1 : t < 64) (h2 : 0 ≤ s) (h3 : s < 64) : markV s = markV t ↔ s = t := by
  rw [markV_yes h0 h1, markV_yes h2 h3]; omega

theorem imMark_at (t : Int) (w : World) : Calls Try.prog 65 #[.int .i64 t] w fun e w' => e = .returned (.int .i64 (markV t)) ∧ w = w' := by
  by_cases h : t < 0 ∨ 64 ≤ t
  · rw [markV_no h]
    go_enter Try.func65, Try.ntmps65
    go_wp2_with (go_at_call 55; refine (isThing_no _ _ h).mono ?_; rintro e w' ⟨rfl, rfl⟩)
    go_ret
    exact ⟨rfl, rfl⟩
  · have h0 : 0 ≤ t := by omega
    have h1 : t < 64 := by omega
    rw [markV_yes h0 h1]
    clear h
    go_enter Try.func65, Try.ntmps65
    go_wp2_with (go_at_call 55; refine (isThing_yes _ _ h0 h1).mono ?_; rintro e w' ⟨rfl, rfl⟩)
    go_ret
    exact ⟨ret_int (by first | rfl | (simp; omega) | omega), rfl⟩

theorem spMark_at (t : Int) (w : World) : Calls Try.prog 64 #[.int .i64 t] w fun e w' => e = .returned (.int .i64 (markV t)) ∧ w = w' := by
  by_cases h : t < 0 ∨ 63 < t
  · rw [markV_no (by omega)]
    go_enter Try.func64, Try.ntmps64
    go_wp2_with (go_at_call 50; refine (l6In_no _ _ _ _ h).mono ?_; rintro e w' ⟨rfl, rfl⟩)
    go_ret
    exact ⟨rfl, rfl⟩
  · have h0 : 0 ≤ t := by omega
    have h1 : t < 64 := by omega
    have h2 : t ≤ 63 := by omega
    rw [markV_yes h0 h1]
    clear h
    go_enter Try.func64, Try.ntmps64
    go_wp2_with (go_at_call 50; refine (l6In_yes _ _ _ _ h0 h2).mono ?_; rintro e w' ⟨rfl, rfl⟩)
    go_ret
    exact ⟨ret_int (by first | rfl | (simp; omega) | omega), rfl⟩

/-- Mark i is in form. -/
def FewG (zs : List Int) (i : Nat) : Prop := (0 ≤ zs.getD i 0 ∧ zs.getD i 0 ≤ 63) ∧ (0 < i → zs.getD (i - 1) 0 < zs.getD i 0)
instance (zs : List Int) (i : Nat) : Decidable (FewG zs i) := by unfold FewG; infer_instance
def FewP (zs : List Int) : Prop := zs.length ≤ 6 ∧ ∀ i, i < zs.length → FewG zs i
instance (zs : List Int) : Decidable (FewP zs) := by unfold FewP; infer_instance
def fewB (zs : List Int) : Bool := decide (FewP zs)
/-- The mark ahead of place k; -1 ahead of the first. -/
def lastV (zs : List Int) (k : Nat) : Int := if k = 0 then -1 else zs.getD (k - 1) 0
theorem fewB_iff (zs : List Int) : fewB zs = true ↔ FewP zs := by simp [fewB]
theorem fewB_long {zs : List Int} (h : 6 < zs.length) : fewB zs = false := by simp only [fewB, decide_eq_false_iff_not]; exact fun q => by have := q.1; omega
theorem fewB_bad {zs : List Int} {i : Nat} (hi : i < zs.length) (h : ¬ FewG zs i) : fewB zs = false := by simp only [fewB, decide_eq_false_iff_not]; exact fun q => h (q.2 i hi)
theorem fewB_good {zs : List Int} (hl : zs.length ≤ 6) (h : ∀ i, i < zs.length → FewG zs i) : fewB zs = true := (fewB_iff zs).2 ⟨hl, h⟩
theorem lastV_bd {zs : List Int} {k : Nat} (h : ∀ i, i < k → FewG zs i) : -1 ≤ lastV zs k ∧ lastV zs k ≤ 63 := by
  unfold lastV
  split
  · omega
  · have := (h (k - 1) (by omega)).1; omega
theorem fewG_iff {zs : List Int} {k : Nat} (h : ∀ i, i < k → FewG zs i) : FewG zs k ↔ lastV zs k < zs.getD k 0 ∧ zs.getD k 0 < 64 := by
  have hb := lastV_bd h
  unfold FewG
  unfold lastV at hb ⊢
  split
  · subst_vars; simp; omega
  · have : 0 < k := by omega
    simp only [this, true_implies]
    rw [if_neg (by omega)] at hb
    omega

set_option maxHeartbeats 1000000 in
theorem imFewOk_some (b o c n : Nat) (zs : List Int) (w : World) (hl : zs.length = n) (hn : n ≤ 6) (hb : b < w.heap.size) (hc : ∀ i, i < n → w.cell? ⟨b, o + i, none⟩ = some (.int .i64 (zs.getD i 0))) :
    Calls Try.prog 34 #[.agg #[.slice (some ⟨b, o, none⟩) n c]] w fun e w' => e = .returned (.bool (fewB zs)) ∧ Below w.heap.size w w' := by
  have hA := (Below.refl w.heap.size w).alloc (Nat.le_refl _) (.cells #[.slice (some ⟨b, o, none⟩) n c] 46)
  have HC : Hid (∀ i, i < n → (w.alloc (.cells #[.slice (some ⟨b, o, none⟩) n c] 46)).cell? ⟨b, o + i, none⟩ = some (.int .i64 (zs.getD i 0))) := fun i hi => by
    rw [hA.cell (p := ⟨b, o + i, none⟩) hb]; exact hc i hi
  have HL := Lib.hid hl
  have HA := Lib.hid hA
  have hn' : ¬ (6 : Int) < (n : Int) := by omega
  clear hc hl hA
  go_enter Try.func34, Try.ntmps34
  go_wp2
  go_loop [3, 13] (fun q i => ∃ k : Nat, k ≤ n ∧ i = .int .i64 k ∧ q = .int .i64 (lastV zs k) ∧ ∀ i, i < k → FewG zs i) (fun _ i => n - (intOf i).toNat)
  case atStart => exact ⟨0, Nat.zero_le _, rfl, rfl, fun _ h => absurd h (Nat.not_lt_zero _)⟩
  case round =>
    obtain ⟨k, hk, rfl, rfl, hg⟩ := hrel
    have G := Lib.hid hg
    have I := Lib.hid (fewG_iff hg)
    by_cases hlt : k < n
    · have h1 := HC.out k hlt
      have hs : Hid (lastV zs (k + 1) = zs.getD k 0) := by show (if k + 1 = 0 then _ else _) = _; rw [if_neg (by omega)]; rfl
      generalize zs.getD k 0 = x at h1 I hs
      generalize lastV zs k = L at I ⊢
      clear hg
      by_cases hx : x ≤ L
      · have bad : Hid (fewB zs = false) := fewB_bad (by rw [HL.out]; exact hlt) (fun q => by have := (I.out.1 q).1; omega)
        go_wp2
        go_ret
        exact ⟨ret_bool bad.out.symm, HA.out⟩
      by_cases hy : 64 ≤ x
      · have bad : Hid (fewB zs = false) := fewB_bad (by rw [HL.out]; exact hlt) (fun q => by have := (I.out.1 q).2; omega)
        go_wp2
        go_ret
        exact ⟨ret_bool bad.out.symm, HA.out⟩
      · go_wp2
        go_round
        case rel => exact ⟨k + 1, by omega, by go_num, by rw [hs.out], fun i hi => by
          by_cases h : i < k
          · exact G.out i h
          · obtain rfl : i = k := by omega
            exact I.out.2 (by omega)⟩
        case measure => simp [intOf]; omega
    · have good : Hid (fewB zs = true) := fewB_good (by rw [HL.out]; exact hn) (fun i hi => G.out i (by rw [HL.out] at hi; omega))
      go_wp2
      go_ret
      exact ⟨ret_bool good.out.symm, HA.out⟩

theorem imFewOk_at (w : World) (u : Value) (zs : List Int) (h : Ints w u zs) :
    Calls Try.prog 34 #[.agg #[u]] w fun e w' => e = .returned (.bool (fewB zs)) ∧ Below w.heap.size w w' := by
  obtain ⟨⟨x, c, hx⟩, _⟩ := h.cases
  by_cases hn : 6 < zs.length
  · rw [fewB_long hn]
    obtain ⟨n, hn'⟩ : ∃ n, n = zs.length := ⟨_, rfl⟩
    rw [← hn'] at hx hn
    subst hx
    have h6 : (6 : Int) < (n : Int) := by omega
    clear h hn' hn
    go_enter Try.func34, Try.ntmps34
    go_wp2
    go_ret
    exact ⟨rfl, (Below.refl _ _).alloc (Nat.le_refl _) _⟩
  rcases h with ⟨rfl, rfl⟩ | ⟨b, o, cap, rfl, _, _, hb, hc⟩
  · have e : fewB [] = true := by decide
    rw [e]
    go_enter Try.func34, Try.ntmps34
    go_wp2
    refine wp_loop_rounds 1 ?_
    rw [rounds_succ]
    go_wp2
    go_ret
    exact ⟨rfl, (Below.refl _ _).alloc (Nat.le_refl _) _⟩
  · exact imFewOk_some b o cap _ zs w rfl (by omega) hb hc

set_option maxHeartbeats 1000000 in
theorem spFewOk_some (b o c n : Nat) (zs : List Int) (w : World) (hl : zs.length = n) (hn : n ≤ maxLen) (hb : b < w.heap.size) (hc : ∀ i, i < n → w.cell? ⟨b, o + i, none⟩ = some (.int .i64 (zs.getD i 0))) :
    Calls Try.prog 32 #[.agg #[.slice (some ⟨b, o, none⟩) n c]] w fun e w' => e = .returned (.bool (fewB zs)) ∧ Below w.heap.size w w' := by
  unfold maxLen at hn
  have HC := Lib.hid hc
  have HL := Lib.hid hl
  clear hc hl
  go_enter Try.func32, Try.ntmps32
  go_wp2
  go_loopw [3] (fun i wr => ∃ k : Nat, k ≤ n ∧ i = .int .i64 k ∧ (∀ i, i < k → FewG zs i) ∧ Below w.heap.size w wr ∧ wr.cell? ⟨w.heap.size, 0, none⟩ = some (.slice (some ⟨b, o, none⟩) n c)) (fun i _ => n - (intOf i).toNat)
  case atStart => exact ⟨0, Nat.zero_le _, rfl, fun _ h => absurd h (Nat.not_lt_zero _), (Below.refl _ _).alloc (Nat.le_refl _) _, by simp⟩
  case round =>
    obtain ⟨k, hk, rfl, hg, hbl, hbox⟩ := hrel
    have G := Lib.hid hg
    have HB := Lib.hid hbl
    clear hg hbl
    by_cases hlt : k < n
    · have h1 := HC.out k hlt
      rw [← HB.out.cell (p := ⟨b, o + k, none⟩) hb] at h1
      obtain ⟨x, hx⟩ : ∃ x, zs.getD k 0 = x := ⟨_, rfl⟩
      rw [hx] at h1
      have HX := Lib.hid hx
      clear hx
      have k0 : (0 : Int) ≤ (k : Int) := by omega
      have kn : (k : Int) < (n : Int) := by omega
      by_cases hr : x < 0 ∨ 63 < x
      · have bad : Hid (fewB zs = false) := fewB_bad (by rw [HL.out]; exact hlt) (fun q => by have := q.1; rw [HX.out] at this; omega)
        go_wp2
        go_quiet (with_reducible exact quiet_same' (l6In_no _ _ _ _ hr))
        go_wp2
        go_ret
        exact ⟨ret_bool bad.out.symm, below_drewN HB.out _⟩
      have x0 : 0 ≤ x := by omega
      have x1 : x ≤ 63 := by omega
      rcases Nat.eq_zero_or_pos k with h0 | h0
      · subst h0
        have good : Hid (FewG zs 0) := ⟨by rw [HX.out]; exact ⟨x0, x1⟩, fun h => absurd h (Nat.lt_irrefl _)⟩
        have h1' : wr.cell? ⟨b, o, none⟩ = some (.int .i64 x) := h1
        have z0 : (0 : Int) < (n : Int) := by omega
        go_wp2
        go_quiet (with_reducible exact quiet_same' (l6In_yes _ _ _ _ x0 x1))
        go_wp2
        go_roundw
        case rel => exact ⟨1, by omega, by go_num, fun i hi => by
          obtain rfl : i = 0 := by omega
          exact good.out, below_drewN HB.out _, by simpa using hbox⟩
        case measure => simp [intOf]; omega
      · obtain ⟨j, rfl⟩ : ∃ j, k = j + 1 := ⟨k - 1, by omega⟩
        have h2 := HC.out j (by omega)
        rw [← HB.out.cell (p := ⟨b, o + j, none⟩) hb] at h2
        obtain ⟨y, hy'⟩ : ∃ y, zs.getD j 0 = y := ⟨_, rfl⟩
        rw [hy'] at h2
        have HY := Lib.hid hy'
        clear hy'
        have p0 : (0 : Int) < ((j + 1 : Nat) : Int) := by omega
        have e1 : ((j + 1 : Nat) : Int) - 1 = (j : Int) := by omega
        have j0 : (0 : Int) ≤ (j : Int) := by omega
        have jn : (j : Int) < (n : Int) := by omega
        by_cases hyx : x ≤ y
        · have bad : Hid (fewB zs = false) := fewB_bad (by rw [HL.out]; exact hlt) (fun q => by have := q.2 h0; rw [HX.out, Nat.add_sub_cancel, HY.out] at this; omega)
          have hd : decide (x ≤ y) = true := decide_eq_true hyx
          go_wp2
          go_quiet (with_reducible exact quiet_same' (l6In_yes _ _ _ _ x0 x1))
          go_wp2
          go_ret
          exact ⟨ret_bool bad.out.symm, below_drewN HB.out _⟩
        · have good : Hid (FewG zs (j + 1)) := ⟨by rw [HX.out]; exact ⟨x0, x1⟩, fun _ => by rw [Nat.add_sub_cancel, HX.out, HY.out]; omega⟩
          have hd : decide (x ≤ y) = false := decide_eq_false hyx
          go_wp2
          go_quiet (with_reducible exact quiet_same' (l6In_yes _ _ _ _ x0 x1))
          go_wp2
          go_roundw
          case rel => exact ⟨j + 1 + 1, by omega, by go_num, fun i hi => by
            by_cases h : i < j + 1
            · exact G.out i h
            · obtain rfl : i = j + 1 := by omega
              exact good.out, below_drewN HB.out _, by simpa using hbox⟩
          case measure => simp [intOf]; omega
    · by_cases h6 : n ≤ 6
      · have good : Hid (fewB zs = true) := fewB_good (by rw [HL.out]; exact h6) (fun i hi => G.out i (by rw [HL.out] at hi; omega))
        have h6' : (n : Int) ≤ 6 := by omega
        go_wp2
        go_ret
        exact ⟨ret_bool (by first | (rw [good.out]; done) | (rw [good.out]; simp; omega)), HB.out⟩
      · have bad : Hid (fewB zs = false) := fewB_long (by rw [HL.out]; omega)
        go_wp2
        go_ret
        exact ⟨ret_bool (by first | (rw [bad.out]; done) | (rw [bad.out]; simp; omega)), HB.out⟩

theorem spFewOk_at (w : World) (u : Value) (zs : List Int) (h : Ints w u zs) :
    Calls Try.prog 32 #[.agg #[u]] w fun e w' => e = .returned (.bool (fewB zs)) ∧ Below w.heap.size w w' := by
  rcases h with ⟨rfl, rfl⟩ | ⟨b, o, cap, rfl, h1, h2, hb, hc⟩
  · have e : fewB [] = true := by decide
    rw [e]
    go_enter Try.func32, Try.ntmps32
    go_wp2
    refine wp_loop_rounds 1 ?_
    rw [rounds_succ]
    go_wp2
    go_ret
    exact ⟨rfl, (Below.refl _ _).alloc (Nat.le_refl _) _⟩
  · exact spFewOk_some b o cap _ zs w rfl (by omega) hb hc

end Go.Proofs.Yteopnbjiffncbab
