/-
  The greatest number that more than are kept come up to: the model's l3Over.
-/
import Derived.Test.YtmlimjdmnonmpaaTPut
namespace Go.Proofs.Ytmlimjdmnonmpaa
open Go.RowKit Go.Sort

/-- How many have at least so much. -/
def cntGe (ps : List Pr) (v : Int) : Nat := (ps.filter fun p => decide (v ≤ p.2)).length
def overK (ps : List Pr) : Nat → Int
  | 0 => 0
  | k + 1 => if 4 < cntGe ps (pr ps k).2 then max (overK ps k) (pr ps k).2 else overK ps k
def overV (ps : List Pr) : Int := overK ps ps.length
theorem cntGe_le (ps : List Pr) (v : Int) : cntGe ps v ≤ ps.length := List.length_filter_le _ _
theorem cntGe_succ (ps : List Pr) (k : Nat) (v : Int) (h : k < ps.length) : cntGe (ps.take (k + 1)) v = cntGe (ps.take k) v + if v ≤ (pr ps k).2 then 1 else 0 := by
  rw [take_succ_pr ps k h]
  unfold cntGe
  rw [List.filter_append, List.length_append]
  by_cases h : v ≤ (pr ps k).2 <;> simp [List.filter_cons, h]
theorem overK_bd {ps : List Pr} {M : Int} {k : Nat} (hM : 0 ≤ M) (hk : k ≤ ps.length) (h : ∀ i, i < ps.length → 0 ≤ (pr ps i).2 ∧ (pr ps i).2 ≤ M) : 0 ≤ overK ps k ∧ overK ps k ≤ M := by
  induction k with
  | zero => exact ⟨Int.le_refl _, hM⟩
  | succ k ih =>
    have := ih (by omega)
    have := h k (by omega)
    unfold overK
    split <;> omega
theorem overV_bd {ps : List Pr} {M : Int} (hM : 0 ≤ M) (h : ∀ i, i < ps.length → 0 ≤ (pr ps i).2 ∧ (pr ps i).2 ≤ M) : 0 ≤ overV ps ∧ overV ps ≤ M := overK_bd hM (Nat.le_refl _) h

set_option maxHeartbeats 2000000 in
theorem l3Over_in (w : World) (x : Option Addr) (n c : Nat) (ps : List Pr) (hl : ps.length = n) (hp : Prs w (.slice x n c) ps) (hn : n ≤ 100) (hm : ∀ i, i < n → 0 ≤ (pr ps i).2 ∧ (pr ps i).2 ≤ 100000) :
    Calls Try.prog 47 #[.slice x n c] w fun e w' => e = .returned (.int .i64 (overV ps)) ∧ Below w.heap.size w w' := by
  have HP := Lib.hid hp.cells
  have HL := Lib.hid hl
  have HM := Lib.hid hm
  clear hl hp hm
  go_enter Try.func47, Try.ntmps47
  go_wp2
  go_loopw [3, 4] (fun q i wr => ∃ k : Nat, k ≤ n ∧ i = .int .i64 k ∧ q = .int .i64 (overK ps k) ∧ Below w.heap.size w wr) (fun _ i _ => n - (intOf i).toNat)
  case atStart => exact ⟨0, Nat.zero_le _, rfl, rfl, Below.refl _ _⟩
  case round =>
    obtain ⟨k, hk, rfl, rfl, hbl⟩ := hrel
    have HB := Lib.hid hbl
    have ob := overK_bd (ps := ps) (M := 100000) (k := k) (by omega) (by rw [HL.out]; exact hk) (fun i hi => HM.out i (by rw [HL.out] at hi; exact hi))
    clear hbl
    by_cases hlt : k < n
    · obtain ⟨b, o, rfl, hb, g1, g2⟩ := HP.out k (by rw [HL.out]; exact hlt)
      have G2 := Lib.hid g2
      have hmk := HM.out k hlt
      have hov : Hid (overK ps (k + 1) = if 4 < cntGe ps (pr ps k).2 then max (overK ps k) (pr ps k).2 else overK ps k) := by show overK _ _ = _; rfl
      have k0 : (0 : Int) ≤ (k : Int) := by omega
      have kn : (k : Int) < (n : Int) := by omega
      obtain ⟨wo, rfl⟩ : ∃ wo : World, wo = wr := ⟨_, rfl⟩
      generalize (pr ps k).2 = v at G2 hmk hov
      clear g1 g2
      go_wp2
      go_loopw [5, 6] (fun q i wr => ∃ j : Nat, j ≤ n ∧ i = .int .i64 j ∧ q = .int .i64 (cntGe (ps.take j) v) ∧ Below wo.heap.size wo wr) (fun _ i _ => n - (intOf i).toNat)
      case atStart => exact ⟨0, Nat.zero_le _, rfl, rfl, Below.refl _ _⟩
      case round =>
        obtain ⟨j, hj, rfl, rfl, hbj⟩ := hrel
        have HJ := Lib.hid hbj
        have FB := Lib.hid (HB.out.trans (hbj.mono HB.out.size))
        have cb := cntGe_le (ps.take j) v
        have cl : (ps.take j).length ≤ 100 := by have := HL.out; simp; omega
        have g2w : wr.cell? ⟨b, o + k * 2 + 1, none⟩ = some (.int .i64 v) := (FB.out.cell (p := ⟨b, o + k * 2 + 1, none⟩) hb).trans G2.out
        clear hbj
        by_cases hjl : j < n
        · obtain ⟨b', o', e', hb', h1, h2⟩ := HP.out j (by rw [HL.out]; exact hjl)
          cases e'
          have h2w := (FB.out.cell (p := ⟨b, o + j * 2 + 1, none⟩) hb).trans h2
          have hc := Lib.hid (cntGe_succ ps j v (by rw [HL.out]; exact hjl))
          have hmj := HM.out j hjl
          generalize (pr ps j).2 = u at h2w hc hmj
          generalize cntGe (ps.take j) v = C at *
          have j0 : (0 : Int) ≤ (j : Int) := by omega
          have jn : (j : Int) < (n : Int) := by omega
          clear h1 h2
          by_cases hvu : v ≤ u
          · rw [if_pos hvu] at hc
            go_wp2
            go_quiet (fail)
            go_wp2
            go_roundw
            case rel => exact ⟨j + 1, by omega, by go_num, by rw [hc.out]; go_num, below_drewN HJ.out _⟩
            case measure => simp [intOf]; omega
          · rw [if_neg hvu] at hc
            go_wp2
            go_quiet (fail)
            go_wp2
            go_roundw
            case rel => exact ⟨j + 1, by omega, by go_num, by rw [hc.out]; rfl, below_drewN HJ.out _⟩
            case measure => simp [intOf]; omega
        · obtain rfl : j = n := by omega
          have e1 : ps.take j = ps := List.take_of_length_le (by rw [HL.out]; exact Nat.le_refl _)
          rw [e1] at cb ⊢
          generalize cntGe ps v = C at *
          clear e1 cl
          by_cases h4 : 4 < C
          · rw [if_pos h4] at hov
            go_wp2
            go_roundw
            case rel => exact ⟨k + 1, by omega, by go_num, by rw [hov.out]; first | rfl | (congr 1; omega) | (congr 1; simp [Int.max_def]; omega), FB.out⟩
            case measure => simp [intOf]; omega
          · rw [if_neg h4] at hov
            go_wp2
            go_roundw
            case rel => exact ⟨k + 1, by omega, by go_num, by rw [hov.out], FB.out⟩
            case measure => simp [intOf]; omega
    · obtain rfl : k = n := by omega
      go_wp2
      go_ret
      exact ⟨ret_int (by unfold overV; rw [HL.out]), HB.out⟩

theorem l3Over_at (w : World) (v : Value) (ps : List Pr) (hp : Prs w v ps) (hn : ps.length ≤ 100) (hm : ∀ i, i < ps.length → 0 ≤ (pr ps i).2 ∧ (pr ps i).2 ≤ 100000) :
    Calls Try.prog 47 #[v] w fun e w' => e = .returned (.int .i64 (overV ps)) ∧ Below w.heap.size w w' := by
  obtain ⟨x, c, rfl, _, _⟩ := hp.form
  exact l3Over_in w x _ c ps rfl hp hn hm

end Go.Proofs.Ytmlimjdmnonmpaa
