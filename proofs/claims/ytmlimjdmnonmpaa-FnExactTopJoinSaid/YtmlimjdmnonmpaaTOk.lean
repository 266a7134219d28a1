/-
  Whether one that was counted most is in form: of the program and of its model.
-/
import Derived.Test.YtmlimjdmnonmpaaTPair
import Derived.IntWalk
namespace Go.Proofs.Ytmlimjdmnonmpaa
open Go.RowKit Go.Sort

def sumP (ps : List Pr) : Int := (ps.map (·.2)).sum
theorem sumP_nil : sumP [] = 0 := rfl
theorem sumP_append (ps qs : List Pr) : sumP (ps ++ qs) = sumP ps + sumP qs := by simp [sumP]
theorem take_succ_pr (ps : List Pr) (k : Nat) (h : k < ps.length) : ps.take (k + 1) = ps.take k ++ [pr ps k] := by
  rw [List.take_succ_eq_append_getElem h]; simp [pr, h]
theorem sumP_succ (ps : List Pr) (k : Nat) (h : k < ps.length) : sumP (ps.take (k + 1)) = sumP (ps.take k) + (pr ps k).2 := by
  rw [take_succ_pr ps k h, sumP_append]; simp [sumP]

/-- Pair i is in form. -/
def TopG (ps : List Pr) (i : Nat) : Prop := ((0 ≤ (pr ps i).1 ∧ (pr ps i).1 ≤ 63) ∧ 1 ≤ (pr ps i).2 ∧ (pr ps i).2 ≤ 2000) ∧ (0 < i → (pr ps (i - 1)).1 < (pr ps i).1)
instance (ps : List Pr) (i : Nat) : Decidable (TopG ps i) := by unfold TopG; infer_instance
def TopP (ps : List Pr) (lost all : Int) : Prop := (ps.length ≤ 4 ∧ (0 ≤ lost ∧ lost ≤ 2000) ∧ 0 ≤ all ∧ all ≤ 2000) ∧ (∀ i, i < ps.length → TopG ps i) ∧ sumP ps + 5 * lost ≤ all
instance (ps : List Pr) (lost all : Int) : Decidable (TopP ps lost all) := by unfold TopP; infer_instance
def topB (ps : List Pr) (lost all : Int) : Bool := decide (TopP ps lost all)
theorem topB_iff (ps : List Pr) (lost all : Int) : topB ps lost all = true ↔ TopP ps lost all := by simp [topB]
theorem topB_no {ps : List Pr} {lost all : Int} (h : ¬ TopP ps lost all) : topB ps lost all = false := by simpa [topB] using h
/-- The thing ahead of place k; -1 ahead of the first. -/
def lastT (ps : List Pr) (k : Nat) : Int := if k = 0 then -1 else (pr ps (k - 1)).1
theorem sumP_bd {ps : List Pr} {k : Nat} (hk : k ≤ ps.length) (h : ∀ i, i < k → TopG ps i) : 0 ≤ sumP (ps.take k) ∧ sumP (ps.take k) ≤ 2000 * k := by
  induction k with
  | zero => simp [sumP]
  | succ k ih =>
    have := ih (by omega) (fun i hi => h i (by omega))
    have g := (h k (by omega)).1.2
    rw [sumP_succ ps k (by omega)]
    omega
theorem lastT_bd {ps : List Pr} {k : Nat} (h : ∀ i, i < k → TopG ps i) : -1 ≤ lastT ps k ∧ lastT ps k ≤ 63 := by
  unfold lastT
  split
  · omega
  · have := (h (k - 1) (by omega)).1.1; omega
theorem topG_iff {ps : List Pr} {k : Nat} (h : ∀ i, i < k → TopG ps i) : TopG ps k ↔ (lastT ps k < (pr ps k).1 ∧ (pr ps k).1 < 64) ∧ 1 ≤ (pr ps k).2 ∧ (pr ps k).2 ≤ 2000 := by
  have hb := lastT_bd h
  unfold TopG
  unfold lastT at hb ⊢
  split
  · subst_vars; simp; omega
  · have : 0 < k := by omega
    simp only [this, true_implies]
    rw [if_neg (by omega)] at hb
    omega
theorem lastT_succ (ps : List Pr) (k : Nat) : lastT ps (k + 1) = (pr ps k).1 := by unfold lastT; rw [if_neg (by omega)]; rfl

theorem isCount_yes (a : Int) (w : World) (h : 0 ≤ a ∧ a ≤ 2000) :
    Calls Try.prog 32 #[.int .i64 a] w fun e w' => e = .returned (.bool true) ∧ w = w' := by
  obtain ⟨h0, h1⟩ := h
  go_enter Try.func32, Try.ntmps32
  go_wp2
  go_ret
  exact ⟨rfl, rfl⟩
theorem isCount_no (a : Int) (w : World) (h : ¬ (0 ≤ a ∧ a ≤ 2000)) :
    Calls Try.prog 32 #[.int .i64 a] w fun e w' => e = .returned (.bool false) ∧ w = w' := by
  by_cases h0 : 0 ≤ a
  · have h1 : ¬ a ≤ 2000 := by omega
    clear h
    go_enter Try.func32, Try.ntmps32
    go_wp2
    go_ret
    exact ⟨rfl, rfl⟩
  · clear h
    go_enter Try.func32, Try.ntmps32
    go_wp2
    go_ret
    exact ⟨rfl, rfl⟩

set_option maxHeartbeats 1000000 in
theorem imTopOk_in (w : World) (x : Option Addr) (n c : Nat) (ps : List Pr) (lost all : Int) (hl : ps.length = n) (hp : Prs w (.slice x n c) ps) (hn : n ≤ 4) (hlo : 0 ≤ lost ∧ lost ≤ 2000) (hal : 0 ≤ all ∧ all ≤ 2000) :
    Calls Try.prog 12 #[.agg #[.slice x n c, .int .i64 lost, .int .i64 all]] w fun e w' => e = .returned (.bool (topB ps lost all)) ∧ Below w.heap.size w w' := by
  have hA := (Below.refl w.heap.size w).alloc (Nat.le_refl _) (.cells #[.slice x n c, .int .i64 lost, .int .i64 all] 25)
  have HP := Lib.hid (hp.cells)
  have HL := Lib.hid hl
  have HA := Lib.hid hA
  have KL : Hid (∀ W, Calls Try.prog 32 #[.int .i64 lost] W fun e w' => e = .returned (.bool true) ∧ W = w') := fun W => isCount_yes lost W hlo
  have KA : Hid (∀ W, Calls Try.prog 32 #[.int .i64 all] W fun e w' => e = .returned (.bool true) ∧ W = w') := fun W => isCount_yes all W hal
  have hn' : ¬ (4 : Int) < (n : Int) := by omega
  have c2 : (w.alloc (.cells #[.slice x n c, .int .i64 lost, .int .i64 all] 25)).cell? ⟨w.heap.size, 2, none⟩ = some (.int .i64 all) := by simp
  have C2 := Lib.hid c2
  obtain ⟨lo0, lo1⟩ := hlo
  have HAL := Lib.hid hal
  clear hl hp hA c2 hal
  go_enter Try.func12, Try.ntmps12
  go_wp2_with fail
  refine (KL.out _).mono ?_
  rintro e w1 ⟨rfl, rfl⟩
  go_wp2_with fail
  refine (KA.out _).mono ?_
  rintro e w1 ⟨rfl, rfl⟩
  go_wp2
  go_loopw [3, 4, 29] (fun tg la i wr => ∃ k : Nat, k ≤ n ∧ i = .int .i64 k ∧ la = .int .i64 (lastT ps k) ∧ tg = .int .i64 (lost * 5 + sumP (ps.take k)) ∧ (∀ i, i < k → TopG ps i) ∧ Below (w.heap.size + 1) (w.alloc (.cells #[.slice x n c, .int .i64 lost, .int .i64 all] 25)) wr) (fun _ _ i _ => n - (intOf i).toNat)
  case atStart => exact ⟨0, Nat.zero_le _, rfl, rfl, by simp [sumP], fun _ h => absurd h (Nat.not_lt_zero _), Below.refl _ _⟩
  case round =>
    obtain ⟨k, hk, rfl, rfl, rfl, hg, hbl⟩ := hrel
    have G := Lib.hid hg
    have I := Lib.hid (topG_iff hg)
    have HB := Lib.hid hbl
    have hsb := sumP_bd (by rw [HL.out]; exact hk) hg
    have cw : wr.cell? ⟨w.heap.size, 2, none⟩ = some (.int .i64 all) := (HB.out.cell (p := ⟨w.heap.size, 2, none⟩) (by simp)).trans C2.out
    by_cases hlt : k < n
    · obtain ⟨b, o, rfl, hb, h1, h2⟩ := HP.out k (by rw [HL.out]; exact hlt)
      have tr : ∀ j v, w.cell? ⟨b, j, none⟩ = some v → wr.cell? ⟨b, j, none⟩ = some v := fun j v h => by
        rw [HB.out.cell (p := ⟨b, j, none⟩) (by show b < _; omega), HA.out.cell (p := ⟨b, j, none⟩) hb]; exact h
      replace h1 := tr _ _ h1
      replace h2 := tr _ _ h2
      have hs := Lib.hid (sumP_succ ps k (by rw [HL.out]; exact hlt))
      have hla := Lib.hid (lastT_succ ps k)
      have hPr : Hid (∃ q, q = pr ps k) := ⟨_, rfl⟩
      generalize pr ps k = q at h1 h2 I hs hla
      obtain ⟨t, m⟩ := q
      have hLb := lastT_bd hg
      generalize lastT ps k = L at I hLb ⊢
      generalize sumP (ps.take k) = S at *
      clear hg hbl tr hPr
      by_cases hx : t ≤ L
      · have bad : Hid (topB ps lost all = false) := topB_no (fun q => by have := (I.out.1 (q.2.1 k (by rw [HL.out]; exact hlt))).1.1; simp at this; omega)
        go_wp2
        go_ret
        exact ⟨ret_bool bad.out.symm, (HA.out.trans (HB.out.mono (by simp))).alloc (by have := HB.out.size; simp at this; omega) _⟩
      have hx' : L < t := by omega
      by_cases hy : 64 ≤ t
      · have bad : Hid (topB ps lost all = false) := topB_no (fun q => by have := (I.out.1 (q.2.1 k (by rw [HL.out]; exact hlt))).1.2; simp at this; omega)
        have KT : Hid (∀ W, Calls Try.prog 33 #[.int .i64 t] W fun e w' => e = .returned (.bool false) ∧ W = w') := fun W => isThing_no t W (.inr hy)
        go_wp2_with fail
        refine (KT.out _).mono ?_
        rintro e w1 ⟨rfl, rfl⟩
        go_wp2
        go_ret
        exact ⟨ret_bool bad.out.symm, (HA.out.trans (HB.out.mono (by simp))).alloc (by have := HB.out.size; simp at this; omega) _⟩
      have KT : Hid (∀ W, Calls Try.prog 33 #[.int .i64 t] W fun e w' => e = .returned (.bool true) ∧ W = w') := fun W => isThing_yes t W (by omega) (by omega)
      by_cases hm : m < 1
      · have bad : Hid (topB ps lost all = false) := topB_no (fun q => by have := (I.out.1 (q.2.1 k (by rw [HL.out]; exact hlt))).2.1; simp at this; omega)
        go_wp2_with fail
        refine (KT.out _).mono ?_
        rintro e w1 ⟨rfl, rfl⟩
        go_wp2
        go_ret
        exact ⟨ret_bool bad.out.symm, (HA.out.trans (HB.out.mono (by simp))).alloc (by have := HB.out.size; simp at this; omega) _⟩
      by_cases hm2 : 2000 < m
      · have bad : Hid (topB ps lost all = false) := topB_no (fun q => by have := (I.out.1 (q.2.1 k (by rw [HL.out]; exact hlt))).2.2; simp at this; omega)
        go_wp2_with fail
        refine (KT.out _).mono ?_
        rintro e w1 ⟨rfl, rfl⟩
        go_wp2
        go_ret
        exact ⟨ret_bool bad.out.symm, (HA.out.trans (HB.out.mono (by simp))).alloc (by have := HB.out.size; simp at this; omega) _⟩
      go_wp2_with fail
      refine (KT.out _).mono ?_
      rintro e w1 ⟨rfl, rfl⟩
      go_wp2
      go_roundw
      case rel => exact ⟨k + 1, by omega, by go_num, by rw [hla.out], by rw [hs.out]; go_num, fun i hi => by
        by_cases h : i < k
        · exact G.out i h
        · obtain rfl : i = k := by omega
          exact I.out.2 ⟨⟨hx', by omega⟩, by omega, by omega⟩, HB.out.alloc (by have := HB.out.size; simp at this; omega) _⟩
      case measure => simp [intOf]; omega
    · obtain rfl : k = n := by omega
      have e1 : ps.take k = ps := List.take_of_length_le (by rw [HL.out]; exact Nat.le_refl _)
      rw [e1] at hsb ⊢
      generalize hS : sumP ps = S at *
      have HS := Lib.hid hS
      clear hg hbl e1 hS
      by_cases hle : lost * 5 + S ≤ all
      · have good : Hid (topB ps lost all = true) := (topB_iff _ _ _).2 ⟨⟨by rw [HL.out]; exact hn, ⟨lo0, lo1⟩, HAL.out⟩, fun i hi => G.out i (by rw [HL.out] at hi; exact hi), by rw [HS.out]; omega⟩
        go_wp2
        go_ret
        exact ⟨ret_bool (by first | (rw [good.out]; done) | (rw [good.out]; simpa using hle)), HA.out.trans (HB.out.mono (by simp))⟩
      · have bad : Hid (topB ps lost all = false) := topB_no (fun q => by have := q.2.2; rw [HS.out] at this; omega)
        go_wp2
        go_ret
        exact ⟨ret_bool (by first | (rw [bad.out]; done) | (rw [bad.out]; simpa using hle)), HA.out.trans (HB.out.mono (by simp))⟩

theorem imTopOk_at (w : World) (u : Value) (ps : List Pr) (lost all : Int) (hp : Prs w u ps) :
    Calls Try.prog 12 #[.agg #[u, .int .i64 lost, .int .i64 all]] w fun e w' => e = .returned (.bool (topB ps lost all)) ∧ Below w.heap.size w w' := by
  obtain ⟨x, c, rfl, hc0, hc⟩ := hp.form
  obtain ⟨n, hn⟩ : ∃ n, n = ps.length := ⟨_, rfl⟩
  by_cases h4 : ps.length ≤ 4
  · by_cases hlo : 0 ≤ lost ∧ lost ≤ 2000
    · by_cases hal : 0 ≤ all ∧ all ≤ 2000
      · exact imTopOk_in w x _ c ps lost all rfl hp h4 hlo hal
      · have bad : topB ps lost all = false := topB_no (fun q => hal q.1.2.2)
        rw [bad]
        have KL : Hid (∀ W, Calls Try.prog 32 #[.int .i64 lost] W fun e w' => e = .returned (.bool true) ∧ W = w') := fun W => isCount_yes lost W hlo
        have KA : Hid (∀ W, Calls Try.prog 32 #[.int .i64 all] W fun e w' => e = .returned (.bool false) ∧ W = w') := fun W => isCount_no all W hal
        rw [← hn] at h4 ⊢
        have hn' : ¬ (4 : Int) < (n : Int) := by omega
        clear hp hn bad hal hlo hc hc0
        go_enter Try.func12, Try.ntmps12
        go_wp2_with fail
        refine (KL.out _).mono ?_
        rintro e w1 ⟨rfl, rfl⟩
        go_wp2_with fail
        refine (KA.out _).mono ?_
        rintro e w1 ⟨rfl, rfl⟩
        go_wp2
        go_ret
        exact ⟨rfl, (Below.refl _ _).alloc (Nat.le_refl _) _⟩
    · have bad : topB ps lost all = false := topB_no (fun q => hlo q.1.2.1)
      rw [bad]
      have KL : Hid (∀ W, Calls Try.prog 32 #[.int .i64 lost] W fun e w' => e = .returned (.bool false) ∧ W = w') := fun W => isCount_no lost W hlo
      rw [← hn] at h4 ⊢
      have hn' : ¬ (4 : Int) < (n : Int) := by omega
      clear hp hn bad hlo hc hc0
      go_enter Try.func12, Try.ntmps12
      go_wp2_with fail
      refine (KL.out _).mono ?_
      rintro e w1 ⟨rfl, rfl⟩
      go_wp2
      go_ret
      exact ⟨rfl, (Below.refl _ _).alloc (Nat.le_refl _) _⟩
  · have bad : topB ps lost all = false := topB_no (fun q => h4 q.1.1)
    rw [bad]
    rw [← hn] at h4 ⊢
    have hn' : (4 : Int) < (n : Int) := by omega
    clear hp hn bad hc hc0 h4
    go_enter Try.func12, Try.ntmps12
    go_wp2
    go_ret
    exact ⟨rfl, (Below.refl _ _).alloc (Nat.le_refl _) _⟩

/-! ### the model's -/

set_option maxHeartbeats 400000 in
theorem l3All_at (w : World) (x : Option Addr) (n c : Nat) (ps : List Pr) (hl : ps.length = n) (hp : Prs w (.slice x n c) ps) (hn : n ≤ 4) (hg : ∀ i, i < n → TopG ps i) :
    Calls Try.prog 35 #[.slice x n c] w fun e w' => e = .returned (.int .i64 (sumP ps)) ∧ w = w' := by
  have HP := Lib.hid hp.cells
  have HL := Lib.hid hl
  have G := Lib.hid hg
  clear hl hp hg
  go_enter Try.func35, Try.ntmps35
  go_wp2
  go_loop [3, 4] (fun q i => ∃ k : Nat, k ≤ n ∧ i = .int .i64 k ∧ q = .int .i64 (sumP (ps.take k))) (fun _ i => n - (intOf i).toNat)
  case atStart => exact ⟨0, Nat.zero_le _, rfl, rfl⟩
  case round =>
    obtain ⟨k, hk, rfl, rfl⟩ := hrel
    have hsb := sumP_bd (by rw [HL.out]; exact hk) (fun i hi => G.out i (by omega))
    by_cases hlt : k < n
    · obtain ⟨b, o, rfl, hb, h1, h2⟩ := HP.out k (by rw [HL.out]; exact hlt)
      have g := (G.out k hlt).1.2
      have hs := Lib.hid (sumP_succ ps k (by rw [HL.out]; exact hlt))
      generalize pr ps k = q at h1 h2 hs g
      obtain ⟨t, m⟩ := q
      generalize sumP (ps.take k) = S at *
      obtain ⟨g1, g2⟩ := g
      go_wp2
      go_round
      case rel => exact ⟨k + 1, by omega, by go_num, by rw [hs.out]⟩
      case measure => simp [intOf]; omega
    · obtain rfl : k = n := by omega
      have e1 : ps.take k = ps := List.take_of_length_le (by rw [HL.out]; exact Nat.le_refl _)
      rw [e1]
      go_wp2
      go_ret
      exact ⟨rfl, rfl⟩

set_option maxHeartbeats 4000000 in
theorem spTopOk_in (w : World) (x : Option Addr) (n c : Nat) (ps : List Pr) (lost all : Int) (hl : ps.length = n) (hp : Prs w (.slice x n c) ps) (hn : n ≤ maxLen) :
    Calls Try.prog 13 #[.agg #[.slice x n c, .int .i64 lost, .int .i64 all]] w fun e w' => e = .returned (.bool (topB ps lost all)) ∧ Below w.heap.size w w' := by
  unfold maxLen at hn
  have hA := (Below.refl w.heap.size w).alloc (Nat.le_refl _) (.cells #[.slice x n c, .int .i64 lost, .int .i64 all] 25)
  have c0 : (w.alloc (.cells #[.slice x n c, .int .i64 lost, .int .i64 all] 25)).cell? ⟨w.heap.size, 0, none⟩ = some (.slice x n c) := by simp
  have c1 : (w.alloc (.cells #[.slice x n c, .int .i64 lost, .int .i64 all] 25)).cell? ⟨w.heap.size, 1, none⟩ = some (.int .i64 lost) := by simp
  have c2 : (w.alloc (.cells #[.slice x n c, .int .i64 lost, .int .i64 all] 25)).cell? ⟨w.heap.size, 2, none⟩ = some (.int .i64 all) := by simp
  have HC := Lib.hid (And.intro c0 (And.intro c1 c2))
  have HPR := Lib.hid hp
  have HP := Lib.hid hp.cells
  have HL := Lib.hid hl
  have HA := Lib.hid hA
  clear hl hp hA c0 c1 c2
  go_enter Try.func13, Try.ntmps13
  go_wp2
  go_loopw [3] (fun i wr => ∃ k : Nat, k ≤ n ∧ i = .int .i64 k ∧ (∀ i, i < k → TopG ps i) ∧ Below (w.heap.size + 1) (w.alloc (.cells #[.slice x n c, .int .i64 lost, .int .i64 all] 25)) wr) (fun i _ => n - (intOf i).toNat)
  case atStart => exact ⟨0, Nat.zero_le _, rfl, fun _ h => absurd h (Nat.not_lt_zero _), Below.refl _ _⟩
  case round =>
    obtain ⟨k, hk, rfl, hg, hbl⟩ := hrel
    have G := Lib.hid hg
    have HB := Lib.hid hbl
    have cw0 : wr.cell? ⟨w.heap.size, 0, none⟩ = some (.slice x n c) := (HB.out.cell (p := ⟨w.heap.size, 0, none⟩) (by simp)).trans HC.out.1
    have cw1 : wr.cell? ⟨w.heap.size, 1, none⟩ = some (.int .i64 lost) := (HB.out.cell (p := ⟨w.heap.size, 1, none⟩) (by simp)).trans HC.out.2.1
    have cw2 : wr.cell? ⟨w.heap.size, 2, none⟩ = some (.int .i64 all) := (HB.out.cell (p := ⟨w.heap.size, 2, none⟩) (by simp)).trans HC.out.2.2
    have FIN := Lib.hid (HA.out.trans (HB.out.mono (Nat.le_succ _)))
    by_cases hlt : k < n
    · obtain ⟨b, o, rfl, hb, h1, h2⟩ := HP.out k (by rw [HL.out]; exact hlt)
      have tr : ∀ j v, w.cell? ⟨b, j, none⟩ = some v → wr.cell? ⟨b, j, none⟩ = some v := fun j v h => by
        rw [HB.out.cell (p := ⟨b, j, none⟩) (by show b < _; omega), HA.out.cell (p := ⟨b, j, none⟩) hb]; exact h
      have TR := Lib.hid tr
      replace h1 := tr _ _ h1
      replace h2 := tr _ _ h2
      have HQ : Hid (TopG ps k ↔ (((0 ≤ (pr ps k).1 ∧ (pr ps k).1 ≤ 63) ∧ 1 ≤ (pr ps k).2 ∧ (pr ps k).2 ≤ 2000) ∧ (0 < k → (pr ps (k - 1)).1 < (pr ps k).1))) := Iff.rfl
      have bad : Hid (¬ TopG ps k → topB ps lost all = false) := fun h => topB_no (fun q => h (q.2.1 k (by rw [HL.out]; exact hlt)))
      generalize pr ps k = q at h1 h2 HQ
      obtain ⟨t, m⟩ := q
      have k0 : (0 : Int) ≤ (k : Int) := by omega
      have kn : (k : Int) < (n : Int) := by omega
      clear hg hbl tr
      by_cases ht : t < 0 ∨ 63 < t
      · have bd := Lib.hid (bad.out (fun q => by have := (HQ.out.1 q).1.1; simp at this; omega))
        clear HQ bad
        go_wp2
        go_quiet (with_reducible exact quiet_same' (l6In_no _ _ _ _ ht))
        go_wp2
        go_ret
        exact ⟨ret_bool bd.out.symm, below_drewN FIN.out _⟩
      have ht0 : 0 ≤ t := by omega
      have ht1 : t ≤ 63 := by omega
      by_cases hm : m < 1 ∨ 2000 < m
      · have bd := Lib.hid (bad.out (fun q => by have := (HQ.out.1 q).1.2; simp at this; omega))
        clear HQ bad
        go_wp2
        go_quiet (first | (with_reducible exact quiet_same' (l6In_yes _ _ _ _ ht0 ht1)) | (with_reducible exact quiet_same' (l6In_no _ _ _ _ hm)))
        go_wp2
        go_ret
        exact ⟨ret_bool bd.out.symm, below_drewN FIN.out _⟩
      have hm0 : 1 ≤ m := by omega
      have hm1 : m ≤ 2000 := by omega
      rcases Nat.eq_zero_or_pos k with h0 | h0
      · subst h0
        have good := Lib.hid (HQ.out.2 ⟨⟨⟨ht0, ht1⟩, hm0, hm1⟩, fun h => absurd h (Nat.lt_irrefl _)⟩)
        clear HQ bad
        have e0 : o + 0 * 2 = o := by omega
        rw [e0] at h1 h2
        go_wp2
        go_quiet (first | (with_reducible exact quiet_same' (l6In_yes _ _ _ _ ht0 ht1)) | (with_reducible exact quiet_same' (l6In_yes _ _ _ _ hm0 hm1)))
        go_wp2
        go_roundw
        case rel => exact ⟨1, by omega, by go_num, fun i hi => by
          obtain rfl : i = 0 := by omega
          exact good.out, below_drewN HB.out _⟩
        case measure => simp [intOf]; omega
      · obtain ⟨j, rfl⟩ : ∃ j, k = j + 1 := ⟨k - 1, by omega⟩
        obtain ⟨b', o', e', hb', h3, _⟩ := HP.out j (by rw [HL.out]; omega)
        cases e'
        replace h3 := TR.out _ _ h3
        rw [Nat.add_sub_cancel] at HQ
        generalize pr ps j = q' at h3 HQ
        obtain ⟨t', m'⟩ := q'
        have p0 : (0 : Int) < ((j + 1 : Nat) : Int) := by omega
        have e1 : ((j + 1 : Nat) : Int) - 1 = (j : Int) := by omega
        have j0 : (0 : Int) ≤ (j : Int) := by omega
        have jn : (j : Int) < (n : Int) := by omega
        by_cases hyx : t ≤ t'
        · have bd := Lib.hid (bad.out (fun q => by have := (HQ.out.1 q).2 h0; simp at this; omega))
          have hd : decide (t ≤ t') = true := decide_eq_true hyx
          clear HQ bad
          go_wp2
          go_quiet (first | (with_reducible exact quiet_same' (l6In_yes _ _ _ _ ht0 ht1)) | (with_reducible exact quiet_same' (l6In_yes _ _ _ _ hm0 hm1)))
          go_wp2
          go_ret
          exact ⟨ret_bool bd.out.symm, below_drewN FIN.out _⟩
        · have good := Lib.hid (HQ.out.2 ⟨⟨⟨ht0, ht1⟩, hm0, hm1⟩, fun _ => by simp; omega⟩)
          have hd : decide (t ≤ t') = false := decide_eq_false hyx
          clear HQ bad
          go_wp2
          go_quiet (first | (with_reducible exact quiet_same' (l6In_yes _ _ _ _ ht0 ht1)) | (with_reducible exact quiet_same' (l6In_yes _ _ _ _ hm0 hm1)))
          go_wp2
          go_roundw
          case rel => exact ⟨j + 1 + 1, by omega, by go_num, fun i hi => by
            by_cases h : i < j + 1
            · exact G.out i h
            · obtain rfl : i = j + 1 := by omega
              exact good.out, below_drewN HB.out _⟩
          case measure => simp [intOf]; omega
    · obtain rfl : k = n := by omega
      clear hg hbl
      by_cases h4 : 4 < k
      · have bd : Hid (topB ps lost all = false) := topB_no (fun q => by have := q.1.1; rw [HL.out] at this; omega)
        have h4' : decide ((k : Int) ≤ 4) = false := decide_eq_false (by omega)
        go_wp2
        go_quiet (fail)
        go_wp2
        go_ret
        exact ⟨ret_bool bd.out.symm, below_drewN FIN.out _⟩
      have h4' : (k : Int) ≤ 4 := by omega
      by_cases ha : all < 0 ∨ 2000 < all
      · have bd : Hid (topB ps lost all = false) := topB_no (fun q => by have := q.1.2.2; omega)
        go_wp2
        go_quiet (first | (with_reducible exact quiet_same' (l6In_no _ _ _ _ ha)))
        go_wp2
        go_ret
        exact ⟨ret_bool bd.out.symm, below_drewN FIN.out _⟩
      have ha0 : 0 ≤ all := by omega
      have ha1 : all ≤ 2000 := by omega
      by_cases hl : lost < 0 ∨ 2000 < lost
      · have bd : Hid (topB ps lost all = false) := topB_no (fun q => by have := q.1.2.1; omega)
        go_wp2
        go_quiet (first | (with_reducible exact quiet_same' (l6In_yes _ _ _ _ ha0 ha1)) | (with_reducible exact quiet_same' (l6In_no _ _ _ _ hl)))
        go_wp2
        go_ret
        exact ⟨ret_bool bd.out.symm, below_drewN FIN.out _⟩
      have hl0 : 0 ≤ lost := by omega
      have hl1 : lost ≤ 2000 := by omega
      have KA : Hid (∀ q, Calls Try.prog 35 #[.slice x k c] (wr.drewN q) fun e w' => e = .returned (.int .i64 (sumP ps)) ∧ wr.drewN q = w') := fun q =>
        l3All_at _ x k c ps HL.out (Prs.below HPR.out (below_drewN FIN.out q) (Nat.le_refl _)) (by omega) G.out
      have hsb := sumP_bd (k := k) (by rw [HL.out]; exact Nat.le_refl _) G.out
      rw [List.take_of_length_le (by rw [HL.out]; exact Nat.le_refl _)] at hsb
      have HI := Lib.hid (topB_iff ps lost all)
      have HF : Hid (sumP ps + 5 * lost ≤ all → topB ps lost all = true) := fun h => (topB_iff _ _ _).2 ⟨⟨by rw [HL.out]; omega, ⟨hl0, hl1⟩, ha0, ha1⟩, fun i hi => G.out i (by rw [HL.out] at hi; exact hi), h⟩
      have HN : Hid (¬ sumP ps + 5 * lost ≤ all → topB ps lost all = false) := fun h => topB_no (fun q => h q.2.2)
      generalize sumP ps = S at *
      have ws : IntKind.i64.wrap (5 * lost) = 5 * lost := IntWalk.i64_in _ (by omega)
      have ws2 : IntKind.i64.wrap (S + 5 * lost) = S + 5 * lost := IntWalk.i64_in _ (by omega)
      by_cases hle : S + 5 * lost ≤ all
      · have fv := Lib.hid (HF.out hle)
        go_wp2
        go_quiet (first | (with_reducible exact quiet_same' (l6In_yes _ _ _ _ ha0 ha1)) | (with_reducible exact quiet_same' (l6In_yes _ _ _ _ hl0 hl1)) | (with_reducible exact quiet_same' (KA.out _)))
        go_wp2
        go_ret
        exact ⟨ret_bool (by first | (rw [fv.out]; done) | (rw [fv.out]; simp; omega) | (rw [fv.out]; simpa using hle)), below_drewN FIN.out _⟩
      · have fv := Lib.hid (HN.out hle)
        go_wp2
        go_quiet (first | (with_reducible exact quiet_same' (l6In_yes _ _ _ _ ha0 ha1)) | (with_reducible exact quiet_same' (l6In_yes _ _ _ _ hl0 hl1)) | (with_reducible exact quiet_same' (KA.out _)))
        go_wp2
        go_ret
        exact ⟨ret_bool (by first | (rw [fv.out]; done) | (rw [fv.out]; simp; omega) | (rw [fv.out]; simpa using hle)), below_drewN FIN.out _⟩

theorem spTopOk_at (w : World) (u : Value) (ps : List Pr) (lost all : Int) (hp : Prs w u ps) :
    Calls Try.prog 13 #[.agg #[u, .int .i64 lost, .int .i64 all]] w fun e w' => e = .returned (.bool (topB ps lost all)) ∧ Below w.heap.size w w' := by
  obtain ⟨x, c, rfl, hc0, hc⟩ := hp.form
  exact spTopOk_in w x _ c ps lost all rfl hp (by omega)

end Go.Proofs.Ytmlimjdmnonmpaa
