/-
  The exact laws' marks in pairs: numbers written into every cell that an answer owns, and looked for again.
-/
import Derived.Test.YtnpcgbjkahpcfaaKEq
namespace Go.Proofs.Ytnpcgbjkahpcfaa
open Go.RowKit Go.Sort

def mkP (k : Int) (n : Nat) : List Pr := (List.range n).map fun (i : Nat) => (k + 2 * (i : Int), k + 2 * (i : Int) + 1)
theorem mkP_len (k : Int) (n : Nat) : (mkP k n).length = n := by simp [mkP]
theorem mkP_get (k : Int) (n i : Nat) (h : i < n) : pr (mkP k n) i = (k + 2 * (i : Int), k + 2 * (i : Int) + 1) := by simp [pr, mkP, h]
theorem mark_setP (k : Int) (ps : List Pr) (j : Nat) (hj : j < ps.length) :
    (mkP k j ++ ps.drop j).set j (k + 2 * (j : Int), k + 2 * (j : Int) + 1) = mkP k (j + 1) ++ ps.drop (j + 1) := by
  apply List.ext_getElem?
  intro i
  simp only [List.getElem?_set, List.length_append, mkP_len, List.length_drop]
  rcases Nat.lt_trichotomy i j with h | h | h
  · rw [if_neg (by omega), List.getElem?_append_left (by rw [mkP_len]; exact h), List.getElem?_append_left (by rw [mkP_len]; omega)]
    simp [mkP, h, show i < j + 1 by omega]
  · subst h
    rw [if_pos rfl, if_pos (by omega), List.getElem?_append_left (by rw [mkP_len]; omega)]
    simp [mkP]
  · rw [if_neg (by omega), List.getElem?_append_right (by rw [mkP_len]; omega), List.getElem?_append_right (by rw [mkP_len]; omega), mkP_len, mkP_len]
    simp only [List.getElem?_drop]
    rw [show j + (i - j) = i by omega, show j + 1 + (i - (j + 1)) = i by omega]

theorem markKnotS_nil (w : World) (k : Int) : Calls Try.prog 60 #[.slice none 0 0, .int .i64 k] w fun e w' => e = .returned (.int .i64 k) ∧ w = w' := by
  go_enter Try.func60, Try.ntmps60
  go_wp2
  refine wp_loop_rounds 1 ?_
  rw [rounds_succ]
  go_wp2
  go_ret
  exact ⟨rfl, rfl⟩

set_option maxHeartbeats 2000000 in
theorem markKnotS_in (w : World) (B g c n : Nat) (ps : List Pr) (k : Int) (hl : ps.length = n) (hn : n ≤ 1048576) (hk : 0 ≤ k) (hk' : k ≤ 1000000000000)
    (h : w.ownsRow B 33 2 (.slice (some ⟨g, 0, none⟩) n c) n (prs ps)) :
    Calls Try.prog 60 #[.slice (some ⟨g, 0, none⟩) n c, .int .i64 k] w fun e w' =>
      e = .returned (.int .i64 (k + 2 * (n : Int))) ∧ w'.ownsRow B 33 2 (.slice (some ⟨g, 0, none⟩) n c) n (prs (mkP k n)) ∧ w.grownBy w' (some g) := by
  have HL := Lib.hid hl
  have H := Lib.hid h
  clear hl h
  go_enter Try.func60, Try.ntmps60
  go_wp2
  go_loopw [1, 5] (fun q i wr => ∃ j : Nat, j ≤ n ∧ i = .int .i64 j ∧ q = .int .i64 (k + 2 * (j : Int)) ∧ wr.ownsRow B 33 2 (.slice (some ⟨g, 0, none⟩) n c) n (prs (mkP k j ++ ps.drop j)) ∧ w.grownBy wr (some g)) (fun _ i _ => n - (intOf i).toNat)
  case atStart => exact ⟨0, Nat.zero_le _, rfl, by go_num, by simpa [mkP] using H.out, grownBy_refl _ _⟩
  case round =>
    obtain ⟨j, hj, rfl, rfl, hown, hg⟩ := hrel
    have HO := Lib.hid hown
    have HG := Lib.hid hg
    clear hown hg
    by_cases hlt : j < n
    · have hl2 : (prs (mkP k j ++ ps.drop j)).length = n * 2 := by rw [prs_len]; simp [mkP_len, HL.out]; omega
      obtain ⟨x0, hc0⟩ : ∃ x, wr.cell? ⟨g, j * 2, none⟩ = some x := by
        rw [HO.out.cellAt (j * 2) (by omega)]
        exact ⟨_, List.getElem?_eq_getElem (by omega)⟩
      obtain ⟨x1, hc1⟩ : ∃ x, wr.cell? ⟨g, j * 2 + 1, none⟩ = some x := by
        rw [HO.out.cellAt (j * 2 + 1) (by omega)]
        exact ⟨_, List.getElem?_eq_getElem (by omega)⟩
      have hf0 := HO.out.frozenAt (j * 2)
      have hf1 := HO.out.frozenAt (j * 2 + 1)
      have s1 := HO.out.stored (j * 2) (.int .i64 (k + 2 * (j : Int)))
      have s2 := s1.1.stored (j * 2 + 1) (.int .i64 (k + 2 * (j : Int) + 1))
      rw [prs_set2 _ j _ _ (by simp [mkP_len, HL.out]; omega), mark_setP k ps j (by rw [HL.out]; exact hlt)] at s2
      have G := Lib.hid (grownBy_trans HG.out (grownBy_trans s1.2 s2.2))
      have HS := Lib.hid s2.1
      have j0 : (0 : Int) ≤ (j : Int) := by omega
      have jn : (j : Int) < (n : Int) := by omega
      clear s1 s2 hl2
      go_wp2
      go_roundw
      case rel => exact ⟨j + 1, by omega, by go_num, by rw [show ((j + 1 : Nat) : Int) = (j : Int) + 1 by omega]; congr 1; omega, HS.out, G.out⟩
      case measure => simp [intOf]; omega
    · obtain rfl : j = n := by omega
      go_wp2
      go_ret
      have h0 : ps.drop j = [] := List.drop_of_length_le (by rw [HL.out]; exact Nat.le_refl _)
      have ho := HO.out
      rw [h0, List.append_nil] at ho
      exact ⟨rfl, ho, HG.out⟩

theorem markKnotS_own (w : World) (B : Nat) (v : Value) (ps : List Pr) (k : Int) (h : OwnP w B v ps) (hn : ps.length ≤ 1048576) (hk : 0 ≤ k) (hk' : k ≤ 1000000000000) :
    Calls Try.prog 60 #[v, .int .i64 k] w fun e w' => e = .returned (.int .i64 (k + 2 * (ps.length : Int))) ∧ OwnP w' B v (mkP k ps.length) ∧ w.grownBy w' v.ownBlock := by
  by_cases h0 : v = .slice none 0 0
  · subst h0
    have hz : ps = [] := by
      rcases h.2 with ⟨_, e⟩ | ⟨g, cap, cur, e, _⟩
      · exact List.eq_nil_of_length_eq_zero e
      · cases e
    subst hz
    exact (markKnotS_nil w k).mono fun e w' ⟨he, hw⟩ => ⟨by rw [he]; simp, by subst hw; exact OwnP.nil _ _, by subst hw; exact grownBy_refl _ _⟩
  · rcases h.2 with ⟨e, _⟩ | ⟨g, cap, cur, e, hb, hh, hc, hm, hs, ht⟩
    · exact absurd e h0
    · subst e
      refine (markKnotS_in w B g cap ps.length ps k rfl hn hk hk' h).mono fun e w' ⟨he, ho, hg⟩ => ⟨he, ?_, hg⟩
      unfold OwnP
      rw [mkP_len]
      exact ho

set_option maxHeartbeats 2000000 in
theorem heldKnotS_in (w : World) (x : Option Addr) (c n : Nat) (k : Int) (hn : n ≤ 1048576) (hk : 0 ≤ k) (hk' : k ≤ 1000000000000) (hp : Prs w (.slice x n c) (mkP k n)) :
    Calls Try.prog 61 #[.slice x n c, .int .i64 k] w fun e w' => e = .returned (.int .i64 (k + 2 * (n : Int))) ∧ w = w' := by
  have PC := Lib.hid hp.cells
  clear hp
  go_enter Try.func61, Try.ntmps61
  go_wp2
  go_loopw [1, 5] (fun q i wr => ∃ j : Nat, j ≤ n ∧ i = .int .i64 j ∧ q = .int .i64 (k + 2 * (j : Int)) ∧ wr = w) (fun _ i _ => n - (intOf i).toNat)
  case atStart => exact ⟨0, Nat.zero_le _, rfl, by go_num, rfl⟩
  case round =>
    obtain ⟨j, hj, rfl, rfl, rfl⟩ := hrel
    by_cases hlt : j < n
    · obtain ⟨b, o, rfl, hb, h1, h2⟩ := PC.out j (by rw [mkP_len]; exact hlt)
      rw [mkP_get k n j hlt] at h1 h2
      simp only at h1 h2
      have j0 : (0 : Int) ≤ (j : Int) := by omega
      have jn : (j : Int) < (n : Int) := by omega
      have e1 : (k + 2 * (j : Int) != k + 2 * (j : Int)) = false := by simp
      have e2 : (k + 2 * (j : Int) + 1 != k + 2 * (j : Int) + 1) = false := by simp
      go_wp2
      go_roundw
      case rel => exact ⟨j + 1, by omega, by go_num, by rw [show ((j + 1 : Nat) : Int) = (j : Int) + 1 by omega]; congr 1; omega, by first | rfl | trivial⟩
      case measure => simp [intOf]; omega
    · obtain rfl : j = n := by omega
      go_wp2
      go_ret
      exact ⟨rfl, rfl⟩
set_option maxHeartbeats 1000000 in
theorem markRank_at (w : World) (B : Nat) (u : Value) (ps : List Pr) (all k : Int) (h : OwnP w B u ps) (hn : ps.length ≤ 1048576) (hk : 0 ≤ k) (hk' : k ≤ 1000000000000) :
    Calls Try.prog 40 #[.agg #[u, .int .i64 all], .int .i64 k] w fun e w' => e = .returned (.int .i64 (k + 2 * (ps.length : Int))) ∧ OwnP w' B u (mkP k ps.length) ∧ w.grownBy w' u.ownBlock := by
  have K := Lib.hid (markKnotS_own (w.alloc (.cells #[u, .int .i64 all] 29)) B u ps k (h.alloc _) hn hk hk')
  obtain ⟨x, c, hx, _, _⟩ := h.form
  obtain ⟨n, hn'⟩ : ∃ n, n = ps.length := ⟨_, rfl⟩
  rw [← hn'] at hx K ⊢
  subst hx
  clear h hn hn'
  go_enter Try.func40, Try.ntmps40
  go_wp2_with fail
  refine K.out.mono ?_
  rintro e w1 ⟨rfl, ho, hg⟩
  go_wp2
  go_ret
  exact ⟨rfl, ho, grownBy_trans (World.grownBy_alloc w _ _) hg⟩

set_option maxHeartbeats 1000000 in
theorem heldRank_at (w : World) (u : Value) (n : Nat) (all k : Int) (h : Prs w u (mkP k n)) (hn : n ≤ 1048576) (hk : 0 ≤ k) (hk' : k ≤ 1000000000000) :
    Calls Try.prog 41 #[.agg #[u, .int .i64 all], .int .i64 k] w fun e w' => e = .returned (.int .i64 (k + 2 * (n : Int))) ∧ Below w.heap.size w w' := by
  have hA := (Below.refl w.heap.size w).alloc (Nat.le_refl _) (.cells #[u, .int .i64 all] 29)
  obtain ⟨x, c, hx, _, _⟩ := h.form
  rw [mkP_len] at hx
  subst hx
  have K := Lib.hid (heldKnotS_in _ x c n k hn hk hk' (h.below hA (Nat.le_refl _)))
  have HA := Lib.hid hA
  have b : ¬ k + 2 * (n : Int) < 0 := by omega
  clear h hA
  go_enter Try.func41, Try.ntmps41
  go_wp2_with fail
  refine K.out.mono ?_
  rintro e w1 ⟨rfl, rfl⟩
  go_wp2
  go_ret
  exact ⟨rfl, HA.out⟩

end Go.Proofs.Ytnpcgbjkahpcfaa
