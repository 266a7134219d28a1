/-
  Several texts in one: Few, Few2, Few3, Put, PutAdd.
-/
import Derived.Test.YtnoilafoeaknjaaBa
import Derived.Test.YtnoilafoeaknjaaRa
import Derived.Maps.AppendAt
import Derived.OneCell
import Derived.Deep.RegionLaw
set_option linter.unusedVariables false
/-
  Marks of things, and whether marks are in form: of the program and of its model.
-/
namespace Go.Proofs.Ytnoilafoeaknjaa
open Go.RowKit Go.Sort

def markV (t : Int) : Int := if 0 ≤ t ∧ t < 64 then (37 * t + 11) % 64 else -1
theorem markV_yes {t : Int} (h0 : 0 ≤ t) (h1 : t < 64) : markV t = (37 * t + 11) % 64 := if_pos ⟨h0, h1⟩
theorem markV_no {t : Int} (h : t < 0 ∨ 64 ≤ t) : markV t = -1 := if_neg (by omega)
theorem markV_bd (t : Int) : -1 ≤ markV t ∧ markV t < 64 := by unfold markV; split <;> omega
theorem markV_in {t : Int} (h0 : 0 ≤ t) (h1 : t < 64) : 0 ≤ markV t ∧ markV t < 64 := by rw [markV_yes h0 h1]; omega
theorem markV_one {s t : Int} (h0 : 0 ≤ t) (h1 : t < 64) (h2 : 0 ≤ s) (h3 : s < 64) : markV s = markV t ↔ s = t := by
  rw [markV_yes h0 h1, markV_yes h2 h3]; omega

theorem imMark_at (t : Int) (w : World) : Calls Try.prog 54 #[.int .i64 t] w fun e w' => e = .returned (.int .i64 (markV t)) ∧ w = w' := by
  by_cases h : t < 0 ∨ 64 ≤ t
  · rw [markV_no h]
    go_enter Try.func54, Try.ntmps54
    go_wp2_with (go_at_call 45; refine (isThing_no _ _ h).mono ?_; rintro e w' ⟨rfl, rfl⟩)
    go_ret
    exact ⟨rfl, rfl⟩
  · have h0 : 0 ≤ t := by omega
    have h1 : t < 64 := by omega
    rw [markV_yes h0 h1]
    clear h
    go_enter Try.func54, Try.ntmps54
    go_wp2_with (go_at_call 45; refine (isThing_yes _ _ h0 h1).mono ?_; rintro e w' ⟨rfl, rfl⟩)
    go_ret
    exact ⟨ret_int (by first | rfl | (simp; omega) | omega), rfl⟩

theorem spMark_at (t : Int) (w : World) : Calls Try.prog 86 #[.int .i64 t] w fun e w' => e = .returned (.int .i64 (markV t)) ∧ w = w' := by
  by_cases h : t < 0 ∨ 63 < t
  · rw [markV_no (by omega)]
    go_enter Try.func86, Try.ntmps86
    go_wp2_with (go_at_call 49; refine (l6In_no _ _ _ _ h).mono ?_; rintro e w' ⟨rfl, rfl⟩)
    go_ret
    exact ⟨rfl, rfl⟩
  · have h0 : 0 ≤ t := by omega
    have h1 : t < 64 := by omega
    have h2 : t ≤ 63 := by omega
    rw [markV_yes h0 h1]
    clear h
    go_enter Try.func86, Try.ntmps86
    go_wp2_with (go_at_call 49; refine (l6In_yes _ _ _ _ h0 h2).mono ?_; rintro e w' ⟨rfl, rfl⟩)
    go_ret
    exact ⟨ret_int (by first | rfl | (simp; omega) | omega), rfl⟩

/-- Mark i is in form. -/
def FewG (zs : List Int) (i : Nat) : Prop := (0 ≤ zs.getD i 0 ∧ zs.getD i 0 ≤ 63) ∧ (0 < i → zs.getD (i - 1) 0 < zs.getD i 0)
instance (zs : List Int) (i : Nat) : Decidable (FewG zs i) := by unfold FewG; infer_instance
def FewP (zs : List Int) : Prop := zs.length ≤ 6 ∧ ∀ i, i < zs.length → FewG zs i
instance (zs : List Int) : Decidable (FewP zs) := by unfold FewP; infer_instance
def fewB (zs : List Int) : Bool := decide (FewP zs)
/-- The mark ahead of place k; -1 ahead of the first. -/
def lastV (zs : List Int) (k : Nat) : Int := if k = 0 then -1 else zs.getD (k - 1) 0
theorem fewB_iff (zs : List Int) : fewB zs = true ↔ FewP zs := by simp [fewB]
theorem fewB_long {zs : List Int} (h : 6 < zs.length) : fewB zs = false := by simp only [fewB, decide_eq_false_iff_not]; exact fun q => by have := q.1; omega
theorem fewB_bad {zs : List Int} {i : Nat} (hi : i < zs.length) (h : ¬ FewG zs i) : fewB zs = false := by simp only [fewB, decide_eq_false_iff_not]; exact fun q => h (q.2 i hi)
theorem fewB_good {zs : List Int} (hl : zs.length ≤ 6) (h : ∀ i, i < zs.length → FewG zs i) : fewB zs = true := (fewB_iff zs).2 ⟨hl, h⟩
theorem lastV_bd {zs : List Int} {k : Nat} (h : ∀ i, i < k → FewG zs i) : -1 ≤ lastV zs k ∧ lastV zs k ≤ 63 := by
  unfold lastV
  split
  · omega
  · have := (h (k - 1) (by omega)).1; omega
theorem fewG_iff {zs : List Int} {k : Nat} (h : ∀ i, i < k → FewG zs i) : FewG zs k ↔ lastV zs k < zs.getD k 0 ∧ zs.getD k 0 < 64 := by
  have hb := lastV_bd h
  unfold FewG
  unfold lastV at hb ⊢
  split
  · subst_vars; simp; omega
  · have : 0 < k := by omega
    simp only [this, true_implies]
    rw [if_neg (by omega)] at hb
    omega

set_option maxHeartbeats 1000000 in
theorem imFewOk_some (b o c n : Nat) (zs : List Int) (w : World) (hl : zs.length = n) (hn : n ≤ 6) (hb : b < w.heap.size) (hc : ∀ i, i < n → w.cell? ⟨b, o + i, none⟩ = some (.int .i64 (zs.getD i 0))) :
    Calls Try.prog 14 #[.agg #[.slice (some ⟨b, o, none⟩) n c]] w fun e w' => e = .returned (.bool (fewB zs)) ∧ Below w.heap.size w w' := by
  have hA := (Below.refl w.heap.size w).alloc (Nat.le_refl _) (.cells #[.slice (some ⟨b, o, none⟩) n c] 28)
  have HC : Hid (∀ i, i < n → (w.alloc (.cells #[.slice (some ⟨b, o, none⟩) n c] 28)).cell? ⟨b, o + i, none⟩ = some (.int .i64 (zs.getD i 0))) := fun i hi => by
    rw [hA.cell (p := ⟨b, o + i, none⟩) hb]; exact hc i hi
  have HL := Lib.hid hl
  have HA := Lib.hid hA
  have hn' : ¬ (6 : Int) < (n : Int) := by omega
  clear hc hl hA
  go_enter Try.func14, Try.ntmps14
  go_wp2
  go_loop [3, 13] (fun q i => ∃ k : Nat, k ≤ n ∧ i = .int .i64 k ∧ q = .int .i64 (lastV zs k) ∧ ∀ i, i < k → FewG zs i) (fun _ i => n - (intOf i).toNat)
  case atStart => exact ⟨0, Nat.zero_le _, rfl, rfl, fun _ h => absurd h (Nat.not_lt_zero _)⟩
  case round =>
    obtain ⟨k, hk, rfl, rfl, hg⟩ := hrel
    have G := Lib.hid hg
    have I := Lib.hid (fewG_iff hg)
    by_cases hlt : k < n
    · have h1 := HC.out k hlt
      have hs : Hid (lastV zs (k + 1) = zs.getD k 0) := by show (if k + 1 = 0 then _ else _) = _; rw [if_neg (by omega)]; rfl
      generalize zs.getD k 0 = x at h1 I hs
      generalize lastV zs k = L at I ⊢
      clear hg
      by_cases hx : x ≤ L
      · have bad : Hid (fewB zs = false) := fewB_bad (by rw [HL.out]; exact hlt) (fun q => by have := (I.out.1 q).1; omega)
        go_wp2
        go_ret
        exact ⟨ret_bool bad.out.symm, HA.out⟩
      by_cases hy : 64 ≤ x
      · have bad : Hid (fewB zs = false) := fewB_bad (by rw [HL.out]; exact hlt) (fun q => by have := (I.out.1 q).2; omega)
        go_wp2
        go_ret
        exact ⟨ret_bool bad.out.symm, HA.out⟩
      · go_wp2
        go_round
        case rel => exact ⟨k + 1, by omega, by go_num, by rw [hs.out], fun i hi => by
          by_cases h : i < k
          · exact G.out i h
          · obtain rfl : i = k := by omega
            exact I.out.2 (by omega)⟩
        case measure => simp [intOf]; omega
    · have good : Hid (fewB zs = true) := fewB_good (by rw [HL.out]; exact hn) (fun i hi => G.out i (by rw [HL.out] at hi; omega))
      go_wp2
      go_ret
      exact ⟨ret_bool good.out.symm, HA.out⟩

theorem imFewOk_at (w : World) (u : Value) (zs : List Int) (h : Ints w u zs) :
    Calls Try.prog 14 #[.agg #[u]] w fun e w' => e = .returned (.bool (fewB zs)) ∧ Below w.heap.size w w' := by
  obtain ⟨⟨x, c, hx⟩, _⟩ := h.cases
  by_cases hn : 6 < zs.length
  · rw [fewB_long hn]
    obtain ⟨n, hn'⟩ : ∃ n, n = zs.length := ⟨_, rfl⟩
    rw [← hn'] at hx hn
    subst hx
    have h6 : (6 : Int) < (n : Int) := by omega
    clear h hn' hn
    go_enter Try.func14, Try.ntmps14
    go_wp2
    go_ret
    exact ⟨rfl, (Below.refl _ _).alloc (Nat.le_refl _) _⟩
  rcases h with ⟨rfl, rfl⟩ | ⟨b, o, cap, rfl, _, _, hb, hc⟩
  · have e : fewB [] = true := by decide
    rw [e]
    go_enter Try.func14, Try.ntmps14
    go_wp2
    refine wp_loop_rounds 1 ?_
    rw [rounds_succ]
    go_wp2
    go_ret
    exact ⟨rfl, (Below.refl _ _).alloc (Nat.le_refl _) _⟩
  · exact imFewOk_some b o cap _ zs w rfl (by omega) hb hc

set_option maxHeartbeats 1000000 in
theorem spFewOk_some (b o c n : Nat) (zs : List Int) (w : World) (hl : zs.length = n) (hn : n ≤ maxLen) (hb : b < w.heap.size) (hc : ∀ i, i < n → w.cell? ⟨b, o + i, none⟩ = some (.int .i64 (zs.getD i 0))) :
    Calls Try.prog 40 #[.agg #[.slice (some ⟨b, o, none⟩) n c]] w fun e w' => e = .returned (.bool (fewB zs)) ∧ Below w.heap.size w w' := by
  unfold maxLen at hn
  have HC := Lib.hid hc
  have HL := Lib.hid hl
  clear hc hl
  go_enter Try.func40, Try.ntmps40
  go_wp2
  go_loopw [3] (fun i wr => ∃ k : Nat, k ≤ n ∧ i = .int .i64 k ∧ (∀ i, i < k → FewG zs i) ∧ Below w.heap.size w wr ∧ wr.cell? ⟨w.heap.size, 0, none⟩ = some (.slice (some ⟨b, o, none⟩) n c)) (fun i _ => n - (intOf i).toNat)
  case atStart => exact ⟨0, Nat.zero_le _, rfl, fun _ h => absurd h (Nat.not_lt_zero _), (Below.refl _ _).alloc (Nat.le_refl _) _, by simp⟩
  case round =>
    obtain ⟨k, hk, rfl, hg, hbl, hbox⟩ := hrel
    have G := Lib.hid hg
    have HB := Lib.hid hbl
    clear hg hbl
    by_cases hlt : k < n
    · have h1 := HC.out k hlt
      rw [← HB.out.cell (p := ⟨b, o + k, none⟩) hb] at h1
      obtain ⟨x, hx⟩ : ∃ x, zs.getD k 0 = x := ⟨_, rfl⟩
      rw [hx] at h1
      have HX := Lib.hid hx
      clear hx
      have k0 : (0 : Int) ≤ (k : Int) := by omega
      have kn : (k : Int) < (n : Int) := by omega
      by_cases hr : x < 0 ∨ 63 < x
      · have bad : Hid (fewB zs = false) := fewB_bad (by rw [HL.out]; exact hlt) (fun q => by have := q.1; rw [HX.out] at this; omega)
        go_wp2
        go_quiet (with_reducible exact quiet_same' (l6In_no _ _ _ _ hr))
        go_wp2
        go_ret
        exact ⟨ret_bool bad.out.symm, below_drewN HB.out _⟩
      have x0 : 0 ≤ x := by omega
      have x1 : x ≤ 63 := by omega
      rcases Nat.eq_zero_or_pos k with h0 | h0
      · subst h0
        have good : Hid (FewG zs 0) := ⟨by rw [HX.out]; exact ⟨x0, x1⟩, fun h => absurd h (Nat.lt_irrefl _)⟩
        have h1' : wr.cell? ⟨b, o, none⟩ = some (.int .i64 x) := h1
        have z0 : (0 : Int) < (n : Int) := by omega
        go_wp2
        go_quiet (with_reducible exact quiet_same' (l6In_yes _ _ _ _ x0 x1))
        go_wp2
        go_roundw
        case rel => exact ⟨1, by omega, by go_num, fun i hi => by
          obtain rfl : i = 0 := by omega
          exact good.out, below_drewN HB.out _, by simpa using hbox⟩
        case measure => simp [intOf]; omega
      · obtain ⟨j, rfl⟩ : ∃ j, k = j + 1 := ⟨k - 1, by omega⟩
        have h2 := HC.out j (by omega)
        rw [← HB.out.cell (p := ⟨b, o + j, none⟩) hb] at h2
        obtain ⟨y, hy'⟩ : ∃ y, zs.getD j 0 = y := ⟨_, rfl⟩
        rw [hy'] at h2
        have HY := Lib.hid hy'
        clear hy'
        have p0 : (0 : Int) < ((j + 1 : Nat) : Int) := by omega
        have e1 : ((j + 1 : Nat) : Int) - 1 = (j : Int) := by omega
        have j0 : (0 : Int) ≤ (j : Int) := by omega
        have jn : (j : Int) < (n : Int) := by omega
        by_cases hyx : x ≤ y
        · have bad : Hid (fewB zs = false) := fewB_bad (by rw [HL.out]; exact hlt) (fun q => by have := q.2 h0; rw [HX.out, Nat.add_sub_cancel, HY.out] at this; omega)
          have hd : decide (x ≤ y) = true := decide_eq_true hyx
          go_wp2
          go_quiet (with_reducible exact quiet_same' (l6In_yes _ _ _ _ x0 x1))
          go_wp2
          go_ret
          exact ⟨ret_bool bad.out.symm, below_drewN HB.out _⟩
        · have good : Hid (FewG zs (j + 1)) := ⟨by rw [HX.out]; exact ⟨x0, x1⟩, fun _ => by rw [Nat.add_sub_cancel, HX.out, HY.out]; omega⟩
          have hd : decide (x ≤ y) = false := decide_eq_false hyx
          go_wp2
          go_quiet (with_reducible exact quiet_same' (l6In_yes _ _ _ _ x0 x1))
          go_wp2
          go_roundw
          case rel => exact ⟨j + 1 + 1, by omega, by go_num, fun i hi => by
            by_cases h : i < j + 1
            · exact G.out i h
            · obtain rfl : i = j + 1 := by omega
              exact good.out, below_drewN HB.out _, by simpa using hbox⟩
          case measure => simp [intOf]; omega
    · by_cases h6 : n ≤ 6
      · have good : Hid (fewB zs = true) := fewB_good (by rw [HL.out]; exact h6) (fun i hi => G.out i (by rw [HL.out] at hi; omega))
        have h6' : (n : Int) ≤ 6 := by omega
        go_wp2
        go_ret
        exact ⟨ret_bool (by first | (rw [good.out]; done) | (rw [good.out]; simp; omega)), HB.out⟩
      · have bad : Hid (fewB zs = false) := fewB_long (by rw [HL.out]; omega)
        go_wp2
        go_ret
        exact ⟨ret_bool (by first | (rw [bad.out]; done) | (rw [bad.out]; simp; omega)), HB.out⟩

theorem spFewOk_at (w : World) (u : Value) (zs : List Int) (h : Ints w u zs) :
    Calls Try.prog 40 #[.agg #[u]] w fun e w' => e = .returned (.bool (fewB zs)) ∧ Below w.heap.size w w' := by
  rcases h with ⟨rfl, rfl⟩ | ⟨b, o, cap, rfl, h1, h2, hb, hc⟩
  · have e : fewB [] = true := by decide
    rw [e]
    go_enter Try.func40, Try.ntmps40
    go_wp2
    refine wp_loop_rounds 1 ?_
    rw [rounds_succ]
    go_wp2
    go_ret
    exact ⟨rfl, (Below.refl _ _).alloc (Nat.le_refl _) _⟩
  · exact spFewOk_some b o cap _ zs w rfl (by omega) hb hc

end Go.Proofs.Ytnoilafoeaknjaa

/-
  How many things there are by their marks, and whether a thing was counted: of the program and of its model.
-/
namespace Go.Proofs.Ytnoilafoeaknjaa
open Go.RowKit Go.Sort

/-- How many there are, and whether just so. -/
def countN (zs : List Int) : Int := if fewB zs = true then (if zs.length < 6 then (zs.length : Int) else 320 / (zs.getD 5 0 + 1)) else 0
def countJ (zs : List Int) : Bool := fewB zs && decide (zs.length < 6)
theorem countN_no {zs : List Int} (h : fewB zs = false) : countN zs = 0 := by unfold countN; rw [h]; rfl
theorem countJ_no {zs : List Int} (h : fewB zs = false) : countJ zs = false := by unfold countJ; rw [h]; rfl
theorem countN_few {zs : List Int} (h : fewB zs = true) (hl : zs.length < 6) : countN zs = zs.length := by unfold countN; rw [if_pos h, if_pos hl]
theorem countJ_few {zs : List Int} (h : fewB zs = true) (hl : zs.length < 6) : countJ zs = true := by unfold countJ; rw [h, decide_eq_true hl]; rfl
theorem countN_six {zs : List Int} (h : fewB zs = true) (hl : zs.length = 6) : countN zs = 320 / (zs.getD 5 0 + 1) := by unfold countN; rw [if_pos h, if_neg (by omega)]
theorem countJ_six {zs : List Int} (h : fewB zs = true) (hl : zs.length = 6) : countJ zs = false := by unfold countJ; rw [h, decide_eq_false (by omega)]; rfl

/-- Marks in form: the parts of the word. -/
theorem fewB_parts {zs : List Int} (h : fewB zs = true) : zs.length ≤ 6 ∧ (∀ i, i < zs.length → 0 ≤ zs.getD i 0 ∧ zs.getD i 0 ≤ 63) ∧ ∀ i, i + 1 < zs.length → zs.getD i 0 < zs.getD (i + 1) 0 := by
  obtain ⟨h1, h2⟩ := (fewB_iff zs).1 h
  refine ⟨h1, fun i hi => (h2 i hi).1, fun i hi => ?_⟩
  have := (h2 (i + 1) hi).2 (by omega)
  rwa [Nat.add_sub_cancel] at this

end Go.Proofs.Ytnoilafoeaknjaa

/-
  Whether a thing was counted, and whether that is known: of the program and of its model.
-/
namespace Go.Proofs.Ytnoilafoeaknjaa
open Go.RowKit Go.Sort

def inThings (t : Int) : Bool := decide (0 ≤ t ∧ t < 64)
/-- Whether a thing is known to be counted; whether it is known. -/
def hasA (zs : List Int) (t : Int) : Bool := fewB zs && inThings t && decide (markV t ∈ zs)
def hasK (zs : List Int) (t : Int) : Bool := fewB zs && inThings t && (decide (markV t ∈ zs) || decide (zs.length < 6) || decide (markV t < zs.getD 5 0))

theorem mem_get {zs : List Int} {x : Int} : x ∈ zs ↔ ∃ i, i < zs.length ∧ zs.getD i 0 = x := by
  constructor
  · intro h
    obtain ⟨i, hi, rfl⟩ := List.getElem_of_mem h
    exact ⟨i, hi, by simp [hi]⟩
  · rintro ⟨i, hi, rfl⟩
    exact getD_mem zs i 0 hi

set_option maxHeartbeats 1000000 in
theorem index_at (w : World) (v : Value) (zs : List Int) (x : Int) (h : Ints w v zs) :
    Calls Try.prog 89 #[v, .int .i64 x] w fun e w' => ∃ i : Int, e = .returned (.int .i64 i) ∧ (0 ≤ i ↔ x ∈ zs) ∧ w = w' := by
  obtain ⟨⟨y, c, hx⟩, q⟩ := h.cases
  by_cases h0 : zs.length = 0
  · have h1 := List.eq_nil_of_length_eq_zero h0
    subst h1
    subst hx
    go_enter Try.func89, Try.ntmps89
    go_wp2
    refine wp_loop_rounds 1 ?_
    rw [rounds_succ]
    go_wp2
    go_ret
    exact ⟨-1, rfl, by simp, rfl⟩
  rcases q with q | ⟨b, o, c', hv, hc⟩
  · exact absurd q h0
  have hm : zs.length ≤ maxLen := by
    rcases h with ⟨_, h⟩ | ⟨_, _, _, _, h1, h2, _, _⟩
    · rw [h]; exact Nat.zero_le _
    · omega
  unfold maxLen at hm
  obtain ⟨n, hn⟩ : ∃ n, n = zs.length := ⟨_, rfl⟩
  rw [← hn] at hv hc hm
  have HC := Lib.hid hc
  have HN := Lib.hid hn
  subst hv
  clear hc hn h hx h0
  go_enter Try.func89, Try.ntmps89
  go_wp2
  go_loop [8] (fun i => ∃ k : Nat, k ≤ n ∧ i = .int .i64 k ∧ ∀ i, i < k → zs.getD i 0 ≠ x) (fun i => n - (intOf i).toNat)
  case atStart => exact ⟨0, Nat.zero_le _, rfl, fun _ h => absurd h (Nat.not_lt_zero _)⟩
  case round =>
    obtain ⟨k, hk, rfl, hg⟩ := hrel
    have G := Lib.hid hg
    clear hg
    by_cases hlt : k < n
    · have h1 := HC.out k hlt
      obtain ⟨y, hy⟩ : ∃ y, zs.getD k 0 = y := ⟨_, rfl⟩
      rw [hy] at h1
      have HY := Lib.hid hy
      clear hy
      have k0 : (0 : Int) ≤ (k : Int) := by omega
      have kn : (k : Int) < (n : Int) := by omega
      by_cases he : x = y
      · subst he
        have fin : Hid (x ∈ zs) := mem_get.2 ⟨k, by rw [← HN.out]; exact hlt, HY.out⟩
        go_wp2
        go_ret
        exact ⟨k, rfl, ⟨fun _ => fin.out, fun _ => k0⟩, rfl⟩
      · have he' : (x == y) = false := by simpa using he
        have he2 : decide (x = y) = false := by simpa using he
        go_wp2
        go_round
        case rel => exact ⟨k + 1, by omega, by go_num, fun i hi => by
          by_cases h : i < k
          · exact G.out i h
          · obtain rfl : i = k := by omega
            rw [HY.out]; exact fun e => he e.symm⟩
        case measure => simp [intOf]; omega
    · have fin : Hid (x ∉ zs) := fun h => by
        obtain ⟨i, hi, e⟩ := mem_get.1 h
        exact G.out i (by rw [← HN.out] at hi; omega) e
      go_wp2
      go_ret
      exact ⟨-1, rfl, ⟨fun h => by omega, fun h => absurd h fin.out⟩, rfl⟩

theorem contains_at (w : World) (v : Value) (zs : List Int) (x : Int) (h : Ints w v zs) :
    Calls Try.prog 55 #[v, .int .i64 x] w fun e w' => e = .returned (.bool (decide (x ∈ zs))) ∧ w = w' := by
  have K := Lib.hid (index_at w v zs x h)
  obtain ⟨⟨y, c, hx⟩, _⟩ := h.cases
  obtain ⟨n, hn⟩ : ∃ n, n = zs.length := ⟨_, rfl⟩
  rw [← hn] at hx
  subst hx
  clear h hn
  go_enter Try.func55, Try.ntmps55
  go_wp2_with fail
  refine K.out.mono ?_
  rintro e w1 ⟨i, rfl, hi, rfl⟩
  have HI := Lib.hid hi
  clear hi
  by_cases h : 0 ≤ i
  · have fin := Lib.hid (HI.out.1 h)
    go_wp2
    go_ret
    exact ⟨ret_bool (by rw [decide_eq_true fin.out]), rfl⟩
  · have fin := Lib.hid (fun q => h (HI.out.2 q))
    go_wp2
    go_ret
    exact ⟨ret_bool (by rw [decide_eq_false fin.out]; simp; omega), rfl⟩

theorem has_no {zs : List Int} {t : Int} (h : fewB zs = false ∨ inThings t = false) : hasA zs t = false ∧ hasK zs t = false := by
  unfold hasA hasK
  rcases h with h | h <;> rw [h] <;> simp
theorem has_in {zs : List Int} {t : Int} (h : fewB zs = true) (ht : inThings t = true) (hm : markV t ∈ zs) : hasA zs t = true ∧ hasK zs t = true := by
  unfold hasA hasK
  rw [h, ht, decide_eq_true hm]; simp
theorem has_out {zs : List Int} {t : Int} (h : fewB zs = true) (ht : inThings t = true) (hm : markV t ∉ zs) : hasA zs t = false ∧ hasK zs t = (decide (zs.length < 6) || decide (markV t < zs.getD 5 0)) := by
  unfold hasA hasK
  rw [h, ht, decide_eq_false hm]; simp
theorem inThings_iff (t : Int) : inThings t = true ↔ 0 ≤ t ∧ t < 64 := by simp [inThings]
theorem inThings_no (t : Int) : inThings t = false ↔ t < 0 ∨ 64 ≤ t := by simp [inThings]; omega

set_option maxHeartbeats 2000000 in
theorem imHas_at (w : World) (u : Value) (zs : List Int) (t : Int) (h : Ints w u zs) :
    Calls Try.prog 22 #[.agg #[u], .int .i64 t] w fun e w' => e = .returned (.tuple #[.bool (hasA zs t), .bool (hasK zs t)]) ∧ Below w.heap.size w w' := by
  have hA := (Below.refl w.heap.size w).alloc (Nat.le_refl _) (.cells #[u] 28)
  have I := Lib.hid (h.below hA (Nat.le_refl _))
  have K := Lib.hid (imFewOk_at _ u zs I.out)
  have HA := Lib.hid hA
  clear hA
  obtain ⟨⟨x, c, hx⟩, q⟩ := h.cases
  cases hok : fewB zs with
  | false =>
    rw [(has_no (.inl hok)).1, (has_no (.inl hok)).2]
    rw [hok] at K
    obtain ⟨n, hn⟩ : ∃ n, n = zs.length := ⟨_, rfl⟩
    rw [← hn] at hx
    subst hx
    clear h q hok hn I
    go_enter Try.func22, Try.ntmps22
    go_wp2_with fail
    refine K.out.mono ?_
    rintro e w1 ⟨rfl, hb1⟩
    go_wp2
    go_ret2
    exact ⟨rfl, HA.out.trans (hb1.mono HA.out.size)⟩
  | true =>
    rw [hok] at K
    cases hth : inThings t with
    | false =>
      rw [(has_no (.inr hth)).1, (has_no (.inr hth)).2]
      obtain ⟨n, hn⟩ : ∃ n, n = zs.length := ⟨_, rfl⟩
      rw [← hn] at hx
      subst hx
      have ht := (inThings_no t).1 hth
      clear h q hok hn I hth
      go_enter Try.func22, Try.ntmps22
      go_wp2_with fail
      refine K.out.mono ?_
      rintro e w1 ⟨rfl, hb1⟩
      go_wp2_with (go_at_call 45; refine (isThing_no _ _ ht).mono ?_; rintro e w' ⟨rfl, rfl⟩)
      go_ret2
      exact ⟨rfl, HA.out.trans (hb1.mono HA.out.size)⟩
    | true =>
      obtain ⟨t0, t1⟩ := (inThings_iff t).1 hth
      have hp := fewB_parts hok
      have KM : Hid (∀ W, Calls Try.prog 54 #[.int .i64 t] W fun e w' => e = .returned (.int .i64 (markV t)) ∧ W = w') := fun W => imMark_at t W
      by_cases hm : markV t ∈ zs
      · rw [(has_in hok hth hm).1, (has_in hok hth hm).2]
        have KC : Hid (∀ W, Ints W u zs → Calls Try.prog 55 #[u, .int .i64 (markV t)] W fun e w' => e = .returned (.bool true) ∧ W = w') := fun W hW => by
          have := contains_at W u zs (markV t) hW
          rw [decide_eq_true hm] at this
          exact this
        obtain ⟨n, hn⟩ : ∃ n, n = zs.length := ⟨_, rfl⟩
        rw [← hn] at hx
        have cb : (w.alloc (.cells #[.slice x n c] 28)).cell? ⟨w.heap.size, 0, none⟩ = some (.slice x n c) := by simp
        subst hx
        generalize markV t = M at *
        clear h q hok hn hth hm hp
        go_enter Try.func22, Try.ntmps22
        go_wp2_with fail
        refine K.out.mono ?_
        rintro e w1 ⟨rfl, hb1⟩
        have cb1 := cell_later hb1 cb
        have I1 := Lib.hid (I.out.below hb1 (Nat.le_refl _))
        go_wp2_with (first | (go_at_call 45; refine (isThing_yes _ _ t0 t1).mono ?_; rintro e w' ⟨rfl, rfl⟩) | (go_at_call 54; refine (KM.out _).mono ?_; rintro e w' ⟨rfl, rfl⟩) | (go_at_call 55; refine (KC.out _ I1.out).mono ?_; rintro e w' ⟨rfl, rfl⟩))
        go_ret2
        exact ⟨rfl, HA.out.trans (hb1.mono HA.out.size)⟩
      · rw [(has_out hok hth hm).1, (has_out hok hth hm).2]
        have KC : Hid (∀ W, Ints W u zs → Calls Try.prog 55 #[u, .int .i64 (markV t)] W fun e w' => e = .returned (.bool false) ∧ W = w') := fun W hW => by
          have := contains_at W u zs (markV t) hW
          rw [decide_eq_false hm] at this
          exact this
        by_cases hl : zs.length < 6
        · rw [decide_eq_true hl]
          obtain ⟨n, hn⟩ : ∃ n, n = zs.length := ⟨_, rfl⟩
          rw [← hn] at hx hl
          have cb : (w.alloc (.cells #[.slice x n c] 28)).cell? ⟨w.heap.size, 0, none⟩ = some (.slice x n c) := by simp
          subst hx
          generalize markV t = M at *
          have h6 : (n : Int) < 6 := by omega
          clear h q hok hn hth hm hp hl
          go_enter Try.func22, Try.ntmps22
          go_wp2_with fail
          refine K.out.mono ?_
          rintro e w1 ⟨rfl, hb1⟩
          have cb1 := cell_later hb1 cb
          have I1 := Lib.hid (I.out.below hb1 (Nat.le_refl _))
          go_wp2_with (first | (go_at_call 45; refine (isThing_yes _ _ t0 t1).mono ?_; rintro e w' ⟨rfl, rfl⟩) | (go_at_call 54; refine (KM.out _).mono ?_; rintro e w' ⟨rfl, rfl⟩) | (go_at_call 55; refine (KC.out _ I1.out).mono ?_; rintro e w' ⟨rfl, rfl⟩))
          go_quiet (fail)
          go_wp2
          go_ret2
          exact ⟨rfl, below_drewN (HA.out.trans (hb1.mono HA.out.size)) _⟩
        · have h6 : zs.length = 6 := by omega
          rw [decide_eq_false hl]
          rcases h with ⟨rfl, rfl⟩ | ⟨b, o, cap, rfl, h1, h2, hb, hc⟩
          · cases h6
          have c5 := hc 5 (by omega)
          rw [h6] at K HA I KC ⊢
          have cb : (w.alloc (.cells #[.slice (some ⟨b, o, none⟩) 6 cap] 28)).cell? ⟨w.heap.size, 0, none⟩ = some (.slice (some ⟨b, o, none⟩) 6 cap) := by simp
          rw [← HA.out.cell (p := ⟨b, o + 5, none⟩) hb] at c5
          generalize zs.getD 5 0 = y at *
          generalize markV t = M at *
          clear hx q hc hok hth hm hp hl h6 h1 h2
          by_cases hy : M < y
          · have hd : decide (M < y) = true := decide_eq_true hy
            rw [hd]
            go_enter Try.func22, Try.ntmps22
            go_wp2_with fail
            refine K.out.mono ?_
            rintro e w1 ⟨rfl, hb1⟩
            have cb1 := cell_later hb1 cb
            have c51 := cell_later hb1 c5
            have I1 := Lib.hid (I.out.below hb1 (Nat.le_refl _))
            go_wp2_with (first | (go_at_call 45; refine (isThing_yes _ _ t0 t1).mono ?_; rintro e w' ⟨rfl, rfl⟩) | (go_at_call 54; refine (KM.out _).mono ?_; rintro e w' ⟨rfl, rfl⟩) | (go_at_call 55; refine (KC.out _ I1.out).mono ?_; rintro e w' ⟨rfl, rfl⟩))
            go_quiet (fail)
            go_wp2
            go_ret2
            exact ⟨rfl, below_drewN (HA.out.trans (hb1.mono HA.out.size)) _⟩
          · have hd : decide (M < y) = false := decide_eq_false hy
            rw [hd]
            go_enter Try.func22, Try.ntmps22
            go_wp2_with fail
            refine K.out.mono ?_
            rintro e w1 ⟨rfl, hb1⟩
            have cb1 := cell_later hb1 cb
            have c51 := cell_later hb1 c5
            have I1 := Lib.hid (I.out.below hb1 (Nat.le_refl _))
            go_wp2_with (first | (go_at_call 45; refine (isThing_yes _ _ t0 t1).mono ?_; rintro e w' ⟨rfl, rfl⟩) | (go_at_call 54; refine (KM.out _).mono ?_; rintro e w' ⟨rfl, rfl⟩) | (go_at_call 55; refine (KC.out _ I1.out).mono ?_; rintro e w' ⟨rfl, rfl⟩))
            go_quiet (fail)
            go_wp2
            go_ret2
            exact ⟨rfl, below_drewN (HA.out.trans (hb1.mono HA.out.size)) _⟩

set_option maxHeartbeats 2000000 in
theorem spHas_no (w : World) (u : Value) (zs : List Int) (t : Int) (h : Ints w u zs) (hno : fewB zs = false ∨ inThings t = false) :
    Calls Try.prog 51 #[.agg #[u], .int .i64 t] w fun e w' => e = .returned (.tuple #[.bool false, .bool false]) ∧ Below w.heap.size w w' := by
  have hA := (Below.refl w.heap.size w).alloc (Nat.le_refl _) (.cells #[u] 28)
  have K := Lib.hid (spFewOk_at _ u zs (h.below hA (Nat.le_refl _)))
  have HA := Lib.hid hA
  clear hA
  obtain ⟨⟨x, c, hx⟩, _⟩ := h.cases
  obtain ⟨n, hn⟩ : ∃ n, n = zs.length := ⟨_, rfl⟩
  rw [← hn] at hx
  subst hx
  clear h hn
  cases hok : fewB zs with
  | false =>
    rw [hok] at K
    clear hok hno
    go_enter Try.func51, Try.ntmps51
    go_wp2_with fail
    refine K.out.mono ?_
    rintro e w1 ⟨rfl, hb1⟩
    go_wp2
    go_ret2
    exact ⟨rfl, HA.out.trans (hb1.mono HA.out.size)⟩
  | true =>
    rw [hok] at K
    have ht : t < 0 ∨ 63 < t := by
      rcases hno with h | h
      · rw [hok] at h; cases h
      · have := (inThings_no t).1 h; omega
    clear hok hno
    go_enter Try.func51, Try.ntmps51
    go_wp2_with fail
    refine K.out.mono ?_
    rintro e w1 ⟨rfl, hb1⟩
    go_wp2_with (go_at_call 49; refine (l6In_no _ _ _ _ ht).mono ?_; rintro e w' ⟨rfl, rfl⟩)
    go_ret2
    exact ⟨rfl, HA.out.trans (hb1.mono HA.out.size)⟩

set_option maxHeartbeats 2000000 in
theorem spHas_yes (w : World) (u : Value) (zs : List Int) (t : Int) (h : Ints w u zs) (hok : fewB zs = true) (t0 : 0 ≤ t) (t1 : t < 64) :
    Calls Try.prog 51 #[.agg #[u], .int .i64 t] w fun e w' => e = .returned (.tuple #[.bool (hasA zs t), .bool (hasK zs t)]) ∧ Below w.heap.size w w' := by
  have hth := (inThings_iff t).2 ⟨t0, t1⟩
  have hA := (Below.refl w.heap.size w).alloc (Nat.le_refl _) (.cells #[u] 28)
  have K := Lib.hid (spFewOk_at _ u zs (h.below hA (Nat.le_refl _)))
  rw [hok] at K
  have HA := Lib.hid hA
  clear hA
  have t2 : t ≤ 63 := by omega
  have KM : Hid (∀ W, Calls Try.prog 86 #[.int .i64 t] W fun e w' => e = .returned (.int .i64 (markV t)) ∧ W = w') := fun W => spMark_at t W
  have YES := Lib.hid (fun hm => @has_in zs t hok hth hm)
  have NO := Lib.hid (fun hm => @has_out zs t hok hth hm)
  have hl := (fewB_parts hok).1
  obtain ⟨⟨x, c, hx⟩, q⟩ := h.cases
  obtain ⟨n, hn⟩ : ∃ n, n = zs.length := ⟨_, rfl⟩
  rw [← hn] at hx hl
  have HN := Lib.hid hn
  have cb : (w.alloc (.cells #[.slice x n c] 28)).cell? ⟨w.heap.size, 0, none⟩ = some (.slice x n c) := by simp
  have hcells : ∀ i, i < n → ∃ b o, x = some ⟨b, o, none⟩ ∧ b < w.heap.size ∧ w.cell? ⟨b, o + i, none⟩ = some (.int .i64 (zs.getD i 0)) := fun i hi => by
    rcases h with ⟨rfl, rfl⟩ | ⟨b, o, cap, e, _, _, hb, hc⟩
    · rw [hn] at hi; cases hi
    · rw [e] at hx
      exact ⟨b, o, (Value.slice.inj hx).1.symm, hb, hc i (by rw [← hn]; exact hi)⟩
  have HC := Lib.hid hcells
  subst hx
  generalize markV t = M at *
  clear h q hn hok hth hcells
  go_enter Try.func51, Try.ntmps51
  go_wp2_with fail
  refine K.out.mono ?_
  rintro e w1 ⟨rfl, hb1⟩
  have cb1 := cell_later hb1 cb
  have B1 := Lib.hid (HA.out.trans (hb1.mono HA.out.size))
  clear hb1 cb
  go_wp2_with (first | (go_at_call 49; refine (l6In_yes _ _ _ _ t0 t2).mono ?_; rintro e w' ⟨rfl, rfl⟩) | (go_at_call 86; refine (KM.out _).mono ?_; rintro e w' ⟨rfl, rfl⟩))
  go_loop [8] (fun i => ∃ k : Nat, k ≤ n ∧ i = .int .i64 k ∧ ∀ i, i < k → zs.getD i 0 ≠ M) (fun i => n - (intOf i).toNat)
  case atStart => exact ⟨0, Nat.zero_le _, rfl, fun _ h => absurd h (Nat.not_lt_zero _)⟩
  case round =>
    obtain ⟨k, hk, rfl, hg⟩ := hrel
    have G := Lib.hid hg
    clear hg
    by_cases hlt : k < n
    · obtain ⟨b, o, rfl, hb, h1⟩ := HC.out k hlt
      rw [← B1.out.cell (p := ⟨b, o + k, none⟩) hb] at h1
      obtain ⟨y, hy⟩ : ∃ y, zs.getD k 0 = y := ⟨_, rfl⟩
      rw [hy] at h1
      have HY := Lib.hid hy
      clear hy
      have k0 : (0 : Int) ≤ (k : Int) := by omega
      have kn : (k : Int) < (n : Int) := by omega
      by_cases he : y = M
      · subst he
        have fin := Lib.hid (YES.out (mem_get.2 ⟨k, by rw [← HN.out]; exact hlt, HY.out⟩))
        go_wp2
        go_ret2
        exact ⟨by rw [fin.out.1, fin.out.2]; rfl, B1.out⟩
      · have he' : (y == M) = false := by simpa using he
        have he2 : decide (y = M) = false := by simpa using he
        go_wp2
        go_round
        case rel => exact ⟨k + 1, by omega, by go_num, fun i hi => by
          by_cases h : i < k
          · exact G.out i h
          · obtain rfl : i = k := by omega
            rw [HY.out]; exact he⟩
        case measure => simp [intOf]; omega
    · have hm : M ∉ zs := fun h => by
        obtain ⟨i, hi, e⟩ := mem_get.1 h
        exact G.out i (by rw [← HN.out] at hi; omega) e
      have fin := NO.out hm
      rw [← HN.out] at fin
      have FIN := Lib.hid fin
      clear fin hm
      by_cases h6 : n < 6
      · have h6' : (n : Int) < 6 := by omega
        have d6 : Hid (decide (n < 6) = true) := decide_eq_true h6
        go_wp2
        go_quiet (fail)
        go_wp2
        go_ret2
        exact ⟨by rw [FIN.out.1, FIN.out.2, d6.out]; rfl, below_drewN B1.out _⟩
      · obtain rfl : n = 6 := by omega
        obtain ⟨b, o, rfl, hb, h1⟩ := HC.out 5 (by omega)
        rw [← B1.out.cell (p := ⟨b, o + 5, none⟩) hb] at h1
        have d6 : Hid (decide (6 < 6) = false) := rfl
        generalize zs.getD 5 0 = y at *
        by_cases hy : M < y
        · have hd : decide (M < y) = true := decide_eq_true hy
          go_wp2
          go_quiet (fail)
          go_wp2
          go_ret2
          exact ⟨by rw [FIN.out.1, FIN.out.2, d6.out, hd]; rfl, below_drewN B1.out _⟩
        · have hd : decide (M < y) = false := decide_eq_false hy
          go_wp2
          go_quiet (fail)
          go_wp2
          go_ret2
          exact ⟨by rw [FIN.out.1, FIN.out.2, d6.out, hd]; rfl, below_drewN B1.out _⟩

theorem spHas_at (w : World) (u : Value) (zs : List Int) (t : Int) (h : Ints w u zs) :
    Calls Try.prog 51 #[.agg #[u], .int .i64 t] w fun e w' => e = .returned (.tuple #[.bool (hasA zs t), .bool (hasK zs t)]) ∧ Below w.heap.size w w' := by
  by_cases hno : fewB zs = false ∨ inThings t = false
  · rw [(has_no hno).1, (has_no hno).2]
    exact spHas_no w u zs t h hno
  · have h1 : fewB zs = true := by
      cases e : fewB zs with
      | true => rfl
      | false => exact absurd (.inl e) hno
    have h2 : inThings t = true := by
      cases e : inThings t with
      | true => rfl
      | false => exact absurd (.inr e) hno
    have := (inThings_iff t).1 h2
    exact spHas_yes w u zs t h h1 this.1 this.2

end Go.Proofs.Ytnoilafoeaknjaa

/-
  A mark that is put among others: the model's l2Put.
-/
namespace Go.Proofs.Ytnoilafoeaknjaa
open Go.RowKit Go.Sort

theorem few_info : (Try.prog.info? 3).map (fun i => (i.zero, i.size, i.bytes)) = some (some (.int .i64 0), 1, 8) := by kernel_rfl
theorem few_empty (w : World) (B : Nat) (hB : B ≤ w.heap.size) : (w.alloc (.cells #[] 3)).ownsRow B 3 1 (.slice (some ⟨w.heap.size, 0, none⟩) 0 0) 0 [] :=
  World.ownsRow_lit (base := B) (e := 3) (size := 1) w #[] 0 hB (by simp [maxLen]) (by simp)

/-- The value v is the numbers zs, in a block of the call's own. -/
def OwnI (w : World) (B : Nat) (v : Value) (zs : List Int) : Prop := w.ownsRow B 3 1 v zs.length (ints zs)
theorem OwnI.rd {w : World} {B : Nat} {v : Value} {zs : List Int} (h : OwnI w B v zs) : Ints w v zs := ownI_ints h
theorem OwnI.base {w : World} {B B' : Nat} {v : Value} {zs : List Int} (h : OwnI w B v zs) (hB : B' ≤ B) : OwnI w B' v zs := ownsRow_base h hB
theorem OwnI.kept {w w' : World} {B : Nat} {v : Value} {zs : List Int} {row : Option Nat} (h : OwnI w B v zs) (hg : w.grownBy w' row) (hr : ∀ k, row = some k → k < B) : OwnI w' B v zs := by
  refine World.ownsRow.kept h hg ?_
  cases hv : v.ownBlock with
  | none => exact .inl rfl
  | some k => exact .inr (fun e => by have := (World.ownsRow.lt h k hv).1; have := hr k e.symm; omega)
theorem OwnI.alloc {w : World} {B : Nat} {v : Value} {zs : List Int} (h : OwnI w B v zs) (o : Obj) : OwnI (w.alloc o) B v zs := World.ownsRow.alloc h o
theorem OwnI.nil (w : World) (B : Nat) : OwnI w B (.slice none 0 0) [] := World.ownsRow_nil w B _ 1
theorem OwnI.form {w : World} {B : Nat} {v : Value} {zs : List Int} (h : OwnI w B v zs) : ∃ x c, v = .slice x zs.length c := h.rd.cases.1
theorem ints_snoc (zs : List Int) (x : Int) : ints (zs ++ [x]) = ints zs ++ [.int .i64 x] := by simp [ints]
/-- The first k. -/
theorem OwnI.take {w : World} {B n c : Nat} {x : Option Addr} {zs : List Int} (h : OwnI w B (.slice x n c) zs) (k : Nat) (hk : k ≤ zs.length) : OwnI w B (.slice x k c) (zs.take k) := by
  have hl : (zs.take k).length = k := by simp; omega
  have hi : ints (zs.take k) = (ints zs).take k := by simp [ints, List.map_take]
  obtain ⟨h1, h2⟩ := h
  refine ⟨by rw [ints_len]; simp, ?_⟩
  rw [hl]
  rcases h2 with ⟨e, h0⟩ | ⟨g, cap, cur, e, hb, hh, hn, hm, hs, ht⟩
  · refine .inl ⟨?_, by omega⟩
    obtain ⟨rfl, rfl, rfl⟩ := Value.slice.inj e
    obtain rfl : k = 0 := by omega
    rfl
  · obtain ⟨rfl, rfl, rfl⟩ := Value.slice.inj e
    refine .inr ⟨g, c, cur, rfl, hb, hh, by omega, hm, hs, ?_⟩
    rw [hi, ← ht, List.take_take]
    congr 1
    omega

/-- The mark m among marks, d telling that it stands already. -/
def putL (m : Int) : List Int → Bool → List Int
  | [], d => if d then [] else [m]
  | x :: xs, d => (if !d && decide (m ≤ x) then [m] else []) ++ ((if x = m then [] else [x]) ++ putL m xs (d || decide (m ≤ x)))
def putV (zs : List Int) (m : Int) : List Int := (putL m zs false).take 6
theorem putL_len (m : Int) (zs : List Int) (d : Bool) : (putL m zs d).length ≤ zs.length * 2 + 1 := by
  induction zs generalizing d with
  | nil => unfold putL; split <;> simp
  | cons x xs ih =>
    have := ih (d || decide (m ≤ x))
    unfold putL
    simp only [List.length_append, List.length_cons]
    split <;> split <;> simp <;> omega
theorem putV_len (zs : List Int) (m : Int) : (putV zs m).length ≤ 6 := by simp [putV]; omega
theorem drop_cons {zs : List Int} {k : Nat} (h : k < zs.length) : zs.drop k = zs.getD k 0 :: zs.drop (k + 1) := by
  rw [List.drop_eq_getElem_cons h]; simp [h]

theorem put1 (m : Int) (rest : List Int) : putL m (m :: rest) false = [m] ++ putL m rest true := by
  show (if _ then _ else _) ++ ((if _ then _ else _) ++ putL m rest _) = _
  simp
theorem put2 {m y : Int} (rest : List Int) (h : m ≤ y) (h' : y ≠ m) : putL m (y :: rest) false = [m] ++ ([y] ++ putL m rest true) := by
  show (if _ then _ else _) ++ ((if _ then _ else _) ++ putL m rest _) = _
  simp [h, h']
theorem put3 (m : Int) (rest : List Int) : putL m (m :: rest) true = putL m rest true := by
  show (if _ then _ else _) ++ ((if _ then _ else _) ++ putL m rest _) = _
  simp
theorem put4 {m y : Int} {d : Bool} (rest : List Int) (h : d = true ∨ y < m) (h' : y ≠ m) : putL m (y :: rest) d = [y] ++ putL m rest d := by
  show (if _ then _ else _) ++ ((if _ then _ else _) ++ putL m rest _) = _
  rcases h with h | h
  · simp [h, h']
  · have : ¬ m ≤ y := by omega
    simp [this, h']
theorem own_snoc {w : World} {B no : Nat} {v : Value} {os : List Int} {m : Int} (h : w.ownsRow B 3 1 v (no + 1) (ints os ++ [.int .i64 m])) (hn : no = os.length) : OwnI w B v (os ++ [m]) := by
  unfold OwnI
  rw [ints_snoc, List.length_append, ← hn]
  exact h
theorem below_append {w wr w' : World} {o : Obj} {e : TypeId} {v : Value} {n : Nat} {xs : List Value} (hb : Below w.heap.size w wr) (ho : wr.ownsRow w.heap.size e 1 v n xs) (hg : (wr.alloc o).grownBy w' v.ownBlock) : Below w.heap.size w w' :=
  (hb.alloc hb.size o).grown hg (Nat.le_trans hb.size (by simp)) (fun k e => (ho.lt k e).1)

theorem own_cap {w : World} {B n c : Nat} {e : TypeId} {x : Option Addr} {xs : List Value} (h : w.ownsRow B e 1 (.slice x n c) n xs) : n ≤ c ∧ c ≤ maxLen := by
  rcases h.2 with ⟨e, h0⟩ | ⟨g, cap, cur, e, hb, hh, hn, hm, hs, ht⟩
  · obtain ⟨_, h1, h2⟩ := Value.slice.inj e
    subst h1 h2
    exact ⟨Nat.le_refl _, Nat.zero_le _⟩
  · obtain ⟨_, _, h2⟩ := Value.slice.inj e
    subst h2
    exact ⟨hn, hm⟩
theorem cell_append {w wr w' : World} {o : Obj} {e : TypeId} {v u : Value} {n : Nat} {xs : List Value} {a : Addr} (hc : wr.cell? a = some u) (ha : a.block < w.heap.size) (ho : wr.ownsRow w.heap.size e 1 v n xs) (hg : (wr.alloc o).grownBy w' v.ownBlock) : w'.cell? a = some u :=
  hg.cell ((World.cell?_alloc_lt (h := World.block_lt_of_cell? _ _ hc) ..).trans hc) (fun h => by have := (ho.lt _ h.symm).1; omega)

set_option maxHeartbeats 4000000 in
theorem l2Put_some (w : World) (b o c n : Nat) (zs : List Int) (m : Int) (hl : zs.length = n) (hn : n ≤ 100) (hb : b < w.heap.size) (hc : ∀ i, i < n → w.cell? ⟨b, o + i, none⟩ = some (.int .i64 (zs.getD i 0))) :
    Calls Try.prog 118 #[.slice (some ⟨b, o, none⟩) n c, .int .i64 m] w fun e w' => ∃ v, e = .returned v ∧ OwnI w' w.heap.size v (putV zs m) ∧ Below w.heap.size w w' := by
  obtain ⟨i0, hi, hz0, hz1, hz2⟩ := info_parts few_info
  have HL := Lib.hid hl
  have HC := Lib.hid hc
  clear hl hc
  go_enter Try.func118, Try.ntmps118
  go_wp2
  go_loopw [5, 6, 7] (fun u d i wr => ∃ (k : Nat) (dn : Bool) (os : List Int), k ≤ n ∧ i = .int .i64 k ∧ d = .bool dn ∧ os.length ≤ 2 * k ∧ OwnI wr w.heap.size u os ∧ os ++ putL m (zs.drop k) dn = putL m zs false ∧ Below w.heap.size w wr) (fun _ _ i _ => n - (intOf i).toNat)
  case atStart => exact ⟨0, false, [], Nat.zero_le _, rfl, rfl, Nat.le_refl _, few_empty w w.heap.size (Nat.le_refl _), rfl, (Below.refl _ _).alloc (Nat.le_refl _) _⟩
  case round =>
    obtain ⟨k, dn, os, hk, rfl, rfl, hos, hown, hput, hbl⟩ := hrel
    obtain ⟨x, cp, hu⟩ := hown.form
    obtain ⟨no, hno⟩ : ∃ no, no = os.length := ⟨_, rfl⟩
    have hno2 : no ≤ 200 := by omega
    rw [← hno] at hu
    subst hu
    have HN := Lib.hid hno
    have HP := Lib.hid hput
    have HB := Lib.hid hbl
    have hsz := hbl.size
    have ho : wr.ownsRow w.heap.size 3 1 (.slice x no cp) no (ints os) := by have h := hown; unfold OwnI at h; rw [← hno] at h; exact h
    have HO := Lib.hid ho
    clear hput hbl hown hno ho
    by_cases hlt : k < n
    · have h1 := HC.out k hlt
      rw [← HB.out.cell (p := ⟨b, o + k, none⟩) hb] at h1
      have hd := drop_cons (zs := zs) (k := k) (by rw [HL.out]; exact hlt)
      generalize zs.getD k 0 = y at h1 hd
      rw [hd] at HP
      clear hd
      have k0 : (0 : Int) ≤ (k : Int) := by omega
      have kn : (k : Int) < (n : Int) := by omega
      cases dn with
      | false =>
        by_cases hmy : m ≤ y
        · have hD : decide (m ≤ y) = true := decide_eq_true hmy
          by_cases hym : y = m
          · subst hym
            go_wp2_with (first | (at_builtin; refine wpList_append_own _ rfl _ _ 26 rfl w.heap.size 3 i0 (.int .i64 0) 1 8 Try.underlying26 hi hz0 hz1 hz2 rfl (by decide) _ _ _ rfl (HO.out.alloc _) ⟨wr.heap.size, 0, none⟩ 1 1 [.int .i64 y] rfl rfl (cell_one_new _ _ _) (by simp [Value.oneCell']) (by unfold maxLen; omega) (by omega) (by simp; omega) ?_; intro v1 w1 ho1 hg1 _; obtain ⟨g_v1, c_v1, rfl, _, _⟩ := World.ownsRow.form ho1 (Nat.succ_pos _); have c_w1 := cell_append h1 hb HO.out hg1))
            go_roundw
            case rel => exact ⟨k + 1, true, os ++ [y], by omega, by go_num, rfl, by simp; omega, own_snoc ho1 HN.out, by rw [← HP.out, put1, List.append_assoc], below_append HB.out HO.out hg1⟩
            case measure => simp [intOf]; omega
          · have hne : (y != m) = true := by simpa using hym
            have hne2 : decide (y = m) = false := decide_eq_false hym
            go_wp2_with (first | (at_builtin; refine wpList_append_own _ rfl _ _ 26 rfl w.heap.size 3 i0 (.int .i64 0) 1 8 Try.underlying26 hi hz0 hz1 hz2 rfl (by decide) _ _ _ rfl (HO.out.alloc _) ⟨wr.heap.size, 0, none⟩ 1 1 [.int .i64 m] rfl rfl (cell_one_new _ _ _) (by simp [Value.oneCell']) (by unfold maxLen; omega) (by omega) (by simp; omega) ?_; intro v1 w1 ho1 hg1 _; obtain ⟨g_v1, c_v1, rfl, _, _⟩ := World.ownsRow.form ho1 (Nat.succ_pos _); have c_w1 := cell_append h1 hb HO.out hg1) | (at_builtin; refine wpList_append_own _ rfl _ _ 26 rfl w.heap.size 3 i0 (.int .i64 0) 1 8 Try.underlying26 hi hz0 hz1 hz2 rfl (by decide) _ _ _ rfl (ho1.alloc _) ⟨w1.heap.size, 0, none⟩ 1 1 [.int .i64 y] rfl rfl (cell_one_new _ _ _) (by simp [Value.oneCell']) (by unfold maxLen; omega) (by omega) (by simp; omega) ?_; intro v2 w2 ho2 hg2 _; obtain ⟨g_v2, c_v2, rfl, _, _⟩ := World.ownsRow.form ho2 (Nat.succ_pos _)))
            go_roundw
            case rel =>
              have o1 := own_snoc ho1 HN.out
              have o2 := own_snoc (os := os ++ [m]) (by have h := ho2; rw [← ints_snoc] at h; exact h) (by simp; exact HN.out)
              have b1 := below_append HB.out HO.out hg1
              exact ⟨k + 1, true, os ++ [m] ++ [y], by omega, by go_num, rfl, by simp; omega, o2, by rw [← HP.out, put2 _ hmy hym]; simp, below_append b1 ho1 hg2⟩
            case measure => simp [intOf]; omega
        · have hD : decide (m ≤ y) = false := decide_eq_false hmy
          have hym : y ≠ m := by omega
          have hne : (y != m) = true := by simpa using hym
          have hne2 : decide (y = m) = false := decide_eq_false hym
          go_wp2_with (first | (at_builtin; refine wpList_append_own _ rfl _ _ 26 rfl w.heap.size 3 i0 (.int .i64 0) 1 8 Try.underlying26 hi hz0 hz1 hz2 rfl (by decide) _ _ _ rfl (HO.out.alloc _) ⟨wr.heap.size, 0, none⟩ 1 1 [.int .i64 y] rfl rfl (cell_one_new _ _ _) (by simp [Value.oneCell']) (by unfold maxLen; omega) (by omega) (by simp; omega) ?_; intro v1 w1 ho1 hg1 _; obtain ⟨g_v1, c_v1, rfl, _, _⟩ := World.ownsRow.form ho1 (Nat.succ_pos _); have c_w1 := cell_append h1 hb HO.out hg1))
          go_roundw
          case rel => exact ⟨k + 1, false, os ++ [y], by omega, by go_num, rfl, by simp; omega, own_snoc ho1 HN.out, by rw [← HP.out, put4 _ (.inr (by omega)) hym, List.append_assoc], below_append HB.out HO.out hg1⟩
          case measure => simp [intOf]; omega
      | true =>
        by_cases hym : y = m
        · subst hym
          go_wp2
          go_roundw
          case rel => exact ⟨k + 1, true, os, by omega, by go_num, rfl, by omega, by have h := HO.out; rw [HN.out] at h; rw [HN.out]; exact h, by rw [← HP.out, put3], HB.out⟩
          case measure => simp [intOf]; omega
        · have hne : (y != m) = true := by simpa using hym
          have hne2 : decide (y = m) = false := decide_eq_false hym
          go_wp2_with (first | (at_builtin; refine wpList_append_own _ rfl _ _ 26 rfl w.heap.size 3 i0 (.int .i64 0) 1 8 Try.underlying26 hi hz0 hz1 hz2 rfl (by decide) _ _ _ rfl (HO.out.alloc _) ⟨wr.heap.size, 0, none⟩ 1 1 [.int .i64 y] rfl rfl (cell_one_new _ _ _) (by simp [Value.oneCell']) (by unfold maxLen; omega) (by omega) (by simp; omega) ?_; intro v1 w1 ho1 hg1 _; obtain ⟨g_v1, c_v1, rfl, _, _⟩ := World.ownsRow.form ho1 (Nat.succ_pos _); have c_w1 := cell_append h1 hb HO.out hg1))
          go_roundw
          case rel => exact ⟨k + 1, true, os ++ [y], by omega, by go_num, rfl, by simp; omega, own_snoc ho1 HN.out, by rw [← HP.out, put4 _ (.inl rfl) hym, List.append_assoc], below_append HB.out HO.out hg1⟩
          case measure => simp [intOf]; omega
    · have hd0 : zs.drop k = [] := List.drop_of_length_le (by rw [HL.out]; omega)
      rw [hd0] at HP
      clear hd0
      cases dn with
      | false =>
        have hPV : putL m zs false = os ++ [m] := HP.out.symm
        have HPV := Lib.hid hPV
        clear hPV
        by_cases h6 : no + 1 ≤ 6
        · have h6' : (no : Int) + 1 ≤ 6 := by omega
          go_wp2_with (first | (at_builtin; refine wpList_append_own _ rfl _ _ 26 rfl w.heap.size 3 i0 (.int .i64 0) 1 8 Try.underlying26 hi hz0 hz1 hz2 rfl (by decide) _ _ _ rfl (HO.out.alloc _) ⟨wr.heap.size, 0, none⟩ 1 1 [.int .i64 m] rfl rfl (cell_one_new _ _ _) (by simp [Value.oneCell']) (by unfold maxLen; omega) (by omega) (by simp; omega) ?_; intro v1 w1 ho1 hg1 _; obtain ⟨g_v1, c_v1, rfl, _, _⟩ := World.ownsRow.form ho1 (Nat.succ_pos _); obtain ⟨cc1, cc2⟩ := own_cap ho1))
          go_ret
          refine ⟨_, rfl, ?_, below_append HB.out HO.out hg1⟩
          have o1 := own_snoc ho1 HN.out
          have e : putV zs m = os ++ [m] := by unfold putV; rw [HPV.out, List.take_of_length_le (by simp; rw [← HN.out]; omega)]
          rw [e]
          exact o1
        · have h6' : ¬ (no : Int) + 1 ≤ 6 := by omega
          go_wp2_with (first | (at_builtin; refine wpList_append_own _ rfl _ _ 26 rfl w.heap.size 3 i0 (.int .i64 0) 1 8 Try.underlying26 hi hz0 hz1 hz2 rfl (by decide) _ _ _ rfl (HO.out.alloc _) ⟨wr.heap.size, 0, none⟩ 1 1 [.int .i64 m] rfl rfl (cell_one_new _ _ _) (by simp [Value.oneCell']) (by unfold maxLen; omega) (by omega) (by simp; omega) ?_; intro v1 w1 ho1 hg1 _; obtain ⟨g_v1, c_v1, rfl, _, _⟩ := World.ownsRow.form ho1 (Nat.succ_pos _); obtain ⟨cc1, cc2⟩ := own_cap ho1))
          go_ret
          refine ⟨_, rfl, ?_, below_append HB.out HO.out hg1⟩
          have o1 := own_snoc ho1 HN.out
          have e : putV zs m = (os ++ [m]).take 6 := by unfold putV; rw [HPV.out]
          rw [e]
          exact o1.take 6 (by simp; rw [← HN.out]; omega)
      | true =>
        have hPV : putL m zs false = os := by rw [← HP.out]; unfold putL; simp
        have HPV := Lib.hid hPV
        clear hPV
        have hcc := own_cap HO.out
        obtain ⟨cc1, cc2⟩ := hcc
        have fin : ∀ k, k ≤ no → (k = no ∧ no ≤ 6 ∨ k = 6) → OwnI wr w.heap.size (.slice x k cp) (putV zs m) := fun k hk h => by
          have ho := HO.out
          have o1 : OwnI wr w.heap.size (.slice x no cp) os := by rw [HN.out] at ho; rw [HN.out]; exact ho
          have hn := HN.out
          have e : putV zs m = os.take k := by
            unfold putV
            rw [HPV.out]
            rcases h with ⟨h, h6⟩ | h
            · rw [List.take_of_length_le (by omega), List.take_of_length_le (by omega)]
            · rw [h]
          rw [e]
          exact o1.take k (by omega)
        have FIN := Lib.hid fin
        clear fin
        have hx : (x = none ∧ no = 0 ∧ cp = 0) ∨ ∃ g, x = some ⟨g, 0, none⟩ := by
          rcases HO.out.2 with ⟨e, h0⟩ | ⟨g, cap, cur, e, _⟩
          · exact .inl (by have := Value.slice.inj e; exact this)
          · exact .inr ⟨g, (Value.slice.inj e).1⟩
        rcases hx with ⟨rfl, rfl, rfl⟩ | ⟨g, rfl⟩
        · go_wp2
          go_ret
          exact ⟨_, rfl, FIN.out 0 (Nat.le_refl _) (.inl ⟨rfl, by omega⟩), HB.out⟩
        · have cc3 : (no : Int) ≤ (cp : Int) := by omega
          by_cases h6 : no ≤ 6
          · have h6' : (no : Int) ≤ 6 := by omega
            go_wp2
            go_ret
            exact ⟨_, rfl, FIN.out no (Nat.le_refl _) (.inl ⟨rfl, h6⟩), HB.out⟩
          · have h6' : ¬ (no : Int) ≤ 6 := by omega
            have c6 : (6 : Int) ≤ (cp : Int) := by omega
            go_wp2
            go_ret
            exact ⟨_, rfl, FIN.out 6 (by omega) (.inr rfl), HB.out⟩

theorem l2Put_none (w : World) (m : Int) : Calls Try.prog 118 #[.slice none 0 0, .int .i64 m] w fun e w' => ∃ v, e = .returned v ∧ OwnI w' w.heap.size v (putV [] m) ∧ Below w.heap.size w w' := by
  obtain ⟨i0, hi, hz0, hz1, hz2⟩ := info_parts few_info
  have HO := Lib.hid (few_empty w w.heap.size (Nat.le_refl _))
  have hbl := (Below.refl w.heap.size w).alloc (Nat.le_refl _) (.cells #[] 3)
  have HB := Lib.hid hbl
  clear hbl
  go_enter Try.func118, Try.ntmps118
  go_wp2
  refine wp_loop_rounds 1 ?_
  rw [rounds_succ]
  go_wp2_with (first | (at_builtin; refine wpList_append_own _ rfl _ _ 26 rfl w.heap.size 3 i0 (.int .i64 0) 1 8 Try.underlying26 hi hz0 hz1 hz2 rfl (by decide) _ _ _ rfl (HO.out.alloc _) ⟨w.heap.size + 1, 0, none⟩ 1 1 [.int .i64 m] rfl rfl (by have := cell_one_new (w.alloc (.cells #[] 3)) (.int .i64 m) 3; simpa using this) (by simp [Value.oneCell']) (by unfold maxLen; omega) (by omega) (by simp; omega) ?_; intro v1 w1 ho1 hg1 _; obtain ⟨g_v1, c_v1, rfl, _, _⟩ := World.ownsRow.form ho1 (Nat.succ_pos _); obtain ⟨cc1, cc2⟩ := own_cap ho1))
  go_ret
  refine ⟨_, rfl, ?_, below_append HB.out HO.out hg1⟩
  have o1 := own_snoc (os := []) ho1 rfl
  exact o1

/-- l2Put, at marks that are not too many. -/
theorem l2Put_at (w : World) (v : Value) (zs : List Int) (m : Int) (h : Ints w v zs) (hn : zs.length ≤ 100) :
    Calls Try.prog 118 #[v, .int .i64 m] w fun e w' => ∃ v, e = .returned v ∧ OwnI w' w.heap.size v (putV zs m) ∧ Below w.heap.size w w' := by
  rcases h with ⟨rfl, rfl⟩ | ⟨b, o, cap, rfl, _, _, hb, hc⟩
  · exact l2Put_none w m
  · exact l2Put_some w b o cap _ zs m rfl hn hb hc

end Go.Proofs.Ytnoilafoeaknjaa

/-
  A thing that is counted: the model's FewAdd.
-/
namespace Go.Proofs.Ytnoilafoeaknjaa
open Go.RowKit Go.Sort

def addOkF (zs : List Int) (t : Int) : Bool := fewB zs && inThings t
def addF (zs : List Int) (t : Int) : List Int := if addOkF zs t = true then putV zs (markV t) else []
theorem addF_len (zs : List Int) (t : Int) : (addF zs t).length ≤ 6 := by
  unfold addF; split
  · exact putV_len _ _
  · simp
theorem addF_yes {zs : List Int} {t : Int} (h : addOkF zs t = true) : addF zs t = putV zs (markV t) := if_pos h
theorem addF_no {zs : List Int} {t : Int} (h : addOkF zs t = false) : addF zs t = [] := if_neg (by rw [h]; simp)

set_option maxHeartbeats 2000000 in
theorem spFewAdd_no (w : World) (u : Value) (zs : List Int) (t : Int) (h : Ints w u zs) (hno : addOkF zs t = false) :
    Calls Try.prog 82 #[.agg #[u], .int .i64 t] w fun e w' => e = .returned (.tuple #[.agg #[.slice none 0 0], .bool false]) ∧ Below w.heap.size w w' := by
  have hA := ((Below.refl w.heap.size w).alloc (Nat.le_refl _) (.cells #[u] 28)).alloc (by simp) (.cells #[.slice none 0 0] 28)
  have K := Lib.hid (spFewOk_at _ u zs (h.below hA (Nat.le_refl _)))
  have HA := Lib.hid hA
  clear hA
  obtain ⟨⟨x, c, hx⟩, _⟩ := h.cases
  obtain ⟨n, hn⟩ : ∃ n, n = zs.length := ⟨_, rfl⟩
  rw [← hn] at hx
  subst hx
  clear h hn
  have cr : ((w.alloc (.cells #[.slice x n c] 28)).alloc (.cells #[.slice none 0 0] 28)).cell? ⟨w.heap.size + 1, 0, none⟩ = some (.slice none 0 0) := by rw [World.cell?_alloc_at (hn := by simp)]; simp
  have fr : ((w.alloc (.cells #[.slice x n c] 28)).alloc (.cells #[.slice none 0 0] 28)).frozen? ⟨w.heap.size + 1, 0, none⟩ = false := World.frozen?_alloc_at _ _ _ _ (by simp)
  cases hok : fewB zs with
  | false =>
    rw [hok] at K
    clear hok hno
    go_enter Try.func82, Try.ntmps82
    go_wp2_with fail
    refine K.out.mono ?_
    rintro e w1 ⟨rfl, hb1⟩
    have cr1 := cell_later hb1 cr
    have fr1 : w1.frozen? ⟨w.heap.size + 1, 0, none⟩ = false := by rw [hb1.frozen (by simp)]; exact fr
    go_wp2
    have hr := World.cell?_setCell_same w1 ⟨w.heap.size + 1, 0, none⟩ (.slice none 0 0) cr1
    exact bodyPost_ret (v := .tuple #[.agg #[.slice none 0 0], .bool false]) (by simp [results, Try.results82, go_sem, hr]) rfl ⟨rfl, (HA.out.trans (hb1.mono HA.out.size)).setCell (by simp) _⟩
  | true =>
    rw [hok] at K
    have ht : t < 0 ∨ 63 < t := by
      unfold addOkF at hno
      rw [hok] at hno
      have := (inThings_no t).1 (by simpa using hno)
      omega
    clear hok hno
    go_enter Try.func82, Try.ntmps82
    go_wp2_with fail
    refine K.out.mono ?_
    rintro e w1 ⟨rfl, hb1⟩
    have cr1 := cell_later hb1 cr
    have fr1 : w1.frozen? ⟨w.heap.size + 1, 0, none⟩ = false := by rw [hb1.frozen (by simp)]; exact fr
    go_wp2_with (go_at_call 49; refine (l6In_no _ _ _ _ ht).mono ?_; rintro e w' ⟨rfl, rfl⟩)
    have hr := World.cell?_setCell_same w1 ⟨w.heap.size + 1, 0, none⟩ (.slice none 0 0) cr1
    exact bodyPost_ret (v := .tuple #[.agg #[.slice none 0 0], .bool false]) (by simp [results, Try.results82, go_sem, hr]) rfl ⟨rfl, (HA.out.trans (hb1.mono HA.out.size)).setCell (by simp) _⟩

set_option maxHeartbeats 2000000 in
theorem spFewAdd_yes (w : World) (u : Value) (zs : List Int) (t : Int) (h : Ints w u zs) (hok : fewB zs = true) (t0 : 0 ≤ t) (t1 : t < 64) :
    Calls Try.prog 82 #[.agg #[u], .int .i64 t] w fun e w' => ∃ v, e = .returned (.tuple #[.agg #[v], .bool true]) ∧ OwnI w' w.heap.size v (putV zs (markV t)) ∧ Below w.heap.size w w' := by
  have hA := ((Below.refl w.heap.size w).alloc (Nat.le_refl _) (.cells #[u] 28)).alloc (by simp) (.cells #[.slice none 0 0] 28)
  have I := Lib.hid (h.below hA (Nat.le_refl _))
  have K := Lib.hid (spFewOk_at _ u zs I.out)
  rw [hok] at K
  have HA := Lib.hid hA
  have hl := (fewB_parts hok).1
  have t2 : t ≤ 63 := by omega
  have KM : Hid (∀ W, Calls Try.prog 86 #[.int .i64 t] W fun e w' => e = .returned (.int .i64 (markV t)) ∧ W = w') := fun W => spMark_at t W
  have KP : Hid (∀ W, Ints W u zs → Calls Try.prog 118 #[u, .int .i64 (markV t)] W fun e w' => ∃ v, e = .returned v ∧ OwnI w' W.heap.size v (putV zs (markV t)) ∧ Below W.heap.size W w') := fun W hW => l2Put_at W u zs _ hW (by omega)
  clear hA
  obtain ⟨⟨x, c, hx⟩, _⟩ := h.cases
  obtain ⟨n, hn⟩ : ∃ n, n = zs.length := ⟨_, rfl⟩
  rw [← hn] at hx
  subst hx
  generalize markV t = M at *
  clear h hn hok
  have cb : ((w.alloc (.cells #[.slice x n c] 28)).alloc (.cells #[.slice none 0 0] 28)).cell? ⟨w.heap.size, 0, none⟩ = some (.slice x n c) := by
    rw [World.cell?_alloc_past (hn := by simp)]; simp
  have cr : ((w.alloc (.cells #[.slice x n c] 28)).alloc (.cells #[.slice none 0 0] 28)).cell? ⟨w.heap.size + 1, 0, none⟩ = some (.slice none 0 0) := by rw [World.cell?_alloc_at (hn := by simp)]; simp
  have fr : ((w.alloc (.cells #[.slice x n c] 28)).alloc (.cells #[.slice none 0 0] 28)).frozen? ⟨w.heap.size + 1, 0, none⟩ = false := World.frozen?_alloc_at _ _ _ _ (by simp)
  go_enter Try.func82, Try.ntmps82
  go_wp2_with fail
  refine K.out.mono ?_
  rintro e w1 ⟨rfl, hb1⟩
  have cb1 := cell_later hb1 cb
  have cr1 := cell_later hb1 cr
  have fr1 : w1.frozen? ⟨w.heap.size + 1, 0, none⟩ = false := by rw [hb1.frozen (by simp)]; exact fr
  have B1 := Lib.hid (HA.out.trans (hb1.mono HA.out.size))
  have I1 := Lib.hid (I.out.below hb1 (Nat.le_refl _))
  have l1 : w.heap.size + 1 < w1.heap.size := World.block_lt_of_cell? _ _ cr1
  clear hb1 cb cr fr I
  go_wp2_with (go_at_call 49; refine (l6In_yes _ _ _ _ t0 t2).mono ?_; rintro e w' ⟨rfl, rfl⟩)
  have KPd : Hid (Calls Try.prog 118 #[.slice x n c, .int .i64 M] w1.drew fun e w' => ∃ v, e = .returned v ∧ OwnI w' w1.drew.heap.size v (putV zs M) ∧ Below w1.drew.heap.size w1.drew w') := KP.out w1.drew I1.out
  go_region_with (first | (go_at_call 86; refine (KM.out _).mono ?_; rintro e w' ⟨rfl, rfl⟩) | (go_at_call 118; refine KPd.out.mono ?_; rintro e w2 ⟨v, rfl, ho2, hb2⟩; obtain ⟨xv, cv, rfl⟩ := ho2.form; have cr2 := cell_later hb2 cr1; have fr2 : w2.frozen? ⟨w.heap.size + 1, 0, none⟩ = false := (hb2.frozen (p := ⟨w.heap.size + 1, 0, none⟩) l1).trans fr1))
  all_goals
    have ho3 := (ho2.kept (grownBy_setCell w2 ⟨w.heap.size + 1, 0, none⟩ (.slice xv (putV zs M).length cv)) (fun k e => by simp at e; simp; omega)).base (B' := w.heap.size) (by simp; omega)
    have hr := World.cell?_setCell_same w2 ⟨w.heap.size + 1, 0, none⟩ (.slice xv (putV zs M).length cv) cr2
    have hb3 : Below w.heap.size w (w2.setCell ⟨w.heap.size + 1, 0, none⟩ (.slice xv (putV zs M).length cv)) := ((B1.out.trans (Below.drew (Below.refl _ _))).trans (hb2.mono (by simp; omega))).setCell (by simp) _
    have HR := Lib.hid hr
    have H3 := Lib.hid ho3
    have HB3 := Lib.hid hb3
    clear hr ho3 hb3
    go_wp2
    have hr := HR.out
    exact bodyPost_ret (v := .tuple #[.agg #[.slice xv (putV zs M).length cv], .bool true]) (by simp [results, Try.results82, go_sem, hr]) rfl ⟨_, rfl, H3.out, HB3.out⟩

/-- The model's FewAdd at whatever marks. -/
theorem spFewAdd_at (w : World) (u : Value) (zs : List Int) (t : Int) (h : Ints w u zs) :
    Calls Try.prog 82 #[.agg #[u], .int .i64 t] w fun e w' => ∃ v, e = .returned (.tuple #[.agg #[v], .bool (addOkF zs t)]) ∧ OwnI w' w.heap.size v (addF zs t) ∧ Below w.heap.size w w' := by
  cases hok : addOkF zs t with
  | false =>
    rw [addF_no hok]
    exact (spFewAdd_no w u zs t h hok).mono fun e w' ⟨he, hb⟩ => ⟨_, he, OwnI.nil _ _, hb⟩
  | true =>
    rw [addF_yes hok]
    have h' : fewB zs = true ∧ inThings t = true := by unfold addOkF at hok; simpa using hok
    have ht := (inThings_iff t).1 h'.2
    exact spFewAdd_yes w u zs t h h'.1 ht.1 ht.2

end Go.Proofs.Ytnoilafoeaknjaa
