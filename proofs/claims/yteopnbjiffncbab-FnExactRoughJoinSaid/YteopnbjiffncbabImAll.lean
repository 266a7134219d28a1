/-
  The program's rowAll, RoughAll and RoughOk.
-/
import Derived.Test.YteopnbjiffncbabSpOk
import Derived.Test.YteopnbjiffncbabEq
namespace Go.Proofs.Yteopnbjiffncbab
open Go.RowKit

def Fine (zs : List Int) : Prop := zs.length = 8 ∧ (∀ k, k < 8 → 0 ≤ zs.getD k 0) ∧ zs.sum ≤ 2000
instance (zs : List Int) : Decidable (Fine zs) := by unfold Fine; infer_instance
/-- How much a row has together, or -1. -/
def rowAllV (zs : List Int) : Int := if Fine zs then zs.sum else -1
/-- How much was counted in all, or -1. -/
def allV (rs : List (List Int)) : Int := if okB rs = true then (rs.getD 0 []).sum else -1

theorem nonneg_mem {zs : List Int} (h : ∀ k, k < zs.length → 0 ≤ zs.getD k 0) : ∀ z ∈ zs, 0 ≤ z := fun z hz => by
  obtain ⟨k, hk, rfl⟩ := List.getElem_of_mem hz
  have := h k hk
  simpa [hk] using this
theorem sum_nonneg {zs : List Int} (h : ∀ z ∈ zs, 0 ≤ z) : 0 ≤ zs.sum := by
  induction zs with
  | nil => simp
  | cons a l ih => simp only [List.sum_cons]; have := h a (by simp); have := ih (fun z hz => h z (by simp [hz])); omega
theorem sum_take_le {zs : List Int} (h : ∀ z ∈ zs, 0 ≤ z) (k : Nat) : (zs.take k).sum ≤ zs.sum := by
  have e : zs.sum = (zs.take k).sum + (zs.drop k).sum := by rw [← List.sum_append, List.take_append_drop]
  have := sum_nonneg (fun z hz => h z (List.mem_of_mem_drop hz) : ∀ z ∈ zs.drop k, 0 ≤ z)
  omega
theorem Fine.bd {zs : List Int} (h : Fine zs) : (∀ z ∈ zs, 0 ≤ z) ∧ 0 ≤ zs.sum ∧ (∀ k, k < 8 → 0 ≤ zs.getD k 0 ∧ zs.getD k 0 ≤ 2000) := by
  have hm := nonneg_mem (fun k hk => h.2.1 k (by rw [← h.1]; exact hk) : ∀ k, k < zs.length → 0 ≤ zs.getD k 0)
  refine ⟨hm, sum_nonneg hm, fun k hk => ⟨h.2.1 k hk, ?_⟩⟩
  have h1 := sum_take_succ zs k (by rw [h.1]; exact hk)
  have h2 := sum_take_le hm (k + 1)
  have h3 := sum_nonneg (fun z hz => hm z (List.mem_of_mem_take hz) : ∀ z ∈ zs.take k, 0 ≤ z)
  have := h.2.2
  omega
theorem rowAllV_fine {zs : List Int} (h : Fine zs) : rowAllV zs = zs.sum := if_pos h
theorem rowAllV_not {zs : List Int} (h : ¬ Fine zs) : rowAllV zs = -1 := if_neg h
theorem rowAllV_bd (zs : List Int) : -1 ≤ rowAllV zs ∧ rowAllV zs ≤ 2000 := by
  unfold rowAllV
  split
  · rename_i h; have := h.bd; have := h.2.2; omega
  · omega
theorem allV_eq (rs : List (List Int)) : allV rs = if rs.length = 3 ∧ rowAllV (rs.getD 1 []) = rowAllV (rs.getD 0 []) ∧ rowAllV (rs.getD 2 []) = rowAllV (rs.getD 0 []) then rowAllV (rs.getD 0 []) else -1 := by
  unfold allV
  by_cases hok : okB rs = true
  · rw [if_pos hok]
    obtain ⟨h3, hg⟩ := (okB_iff rs).1 hok
    have fine : ∀ i, i < 3 → Fine (rs.getD i []) := fun i hi => ⟨(hg i hi).1, fun k hk => ((hg i hi).2.1 k hk).1, (hg i hi).2.2.2⟩
    rw [if_pos ⟨h3, by rw [rowAllV_fine (fine 1 (by omega)), rowAllV_fine (fine 0 (by omega))]; exact (hg 1 (by omega)).2.2.1, by rw [rowAllV_fine (fine 2 (by omega)), rowAllV_fine (fine 0 (by omega))]; exact (hg 2 (by omega)).2.2.1⟩,
      rowAllV_fine (fine 0 (by omega))]
  · rw [if_neg hok]
    split
    · rename_i h
      obtain ⟨h3, h1, h2⟩ := h
      by_cases f0 : Fine (rs.getD 0 [])
      · exfalso
        apply hok
        rw [okB_iff]
        have pos := f0.bd.2.1
        have all : ∀ i, i < 3 → Fine (rs.getD i []) ∧ (rs.getD i []).sum = (rs.getD 0 []).sum := fun i hi => by
          have e : rowAllV (rs.getD i []) = rowAllV (rs.getD 0 []) := by
            rcases (by omega : i = 0 ∨ i = 1 ∨ i = 2) with rfl | rfl | rfl
            · rfl
            · exact h1
            · exact h2
          rw [rowAllV_fine f0] at e
          by_cases fi : Fine (rs.getD i [])
          · rw [rowAllV_fine fi] at e; exact ⟨fi, e⟩
          · rw [rowAllV_not fi] at e; omega
        exact ⟨h3, fun i hi => ⟨(all i hi).1.1, (all i hi).1.bd.2.2, (all i hi).2, (all i hi).1.2.2⟩⟩
      · rw [rowAllV_not f0]
    · rfl

theorem rowAll_len (v : Value) (x : Option Addr) (n c : Nat) (w : World) (hv : v = .slice x n c) (h : n ≠ 8) :
    Calls Try.prog 57 #[v] w fun e w' => e = .returned (.int .i64 (-1)) ∧ w = w' := by
  subst hv
  have hn : ((n : Int) == 8) = false := by simp; omega
  go_enter Try.func57, Try.ntmps57
  go_wp2
  go_ret
  exact ⟨rfl, rfl⟩

set_option maxHeartbeats 1000000 in
theorem rowAll_eight (b o c : Nat) (zs : List Int) (w : World) (hl : zs.length = 8) (hc : ∀ i, i < 8 → w.cell? ⟨b, o + i, none⟩ = some (.int .i64 (zs.getD i 0))) :
    Calls Try.prog 57 #[.slice (some ⟨b, o, none⟩) 8 c] w fun e w' => e = .returned (.int .i64 (rowAllV zs)) ∧ w = w' := by
  have HL := Lib.hid hl
  have HC := Lib.hid hc
  clear hl hc
  go_enter Try.func57, Try.ntmps57
  go_wp2
  go_loop [3, 11] (fun q i => ∃ (j : Nat) (S : Int), j ≤ 8 ∧ i = .int .i64 j ∧ q = .int .i64 S ∧ (zs.take j).sum = S ∧ 0 ≤ S ∧ S ≤ 2000 ∧ ∀ i, i < j → 0 ≤ zs.getD i 0) (fun _ i => 8 - (intOf i).toNat)
  case atStart => exact ⟨0, 0, Nat.zero_le _, rfl, rfl, rfl, by omega, by omega, fun _ h => absurd h (Nat.not_lt_zero _)⟩
  case round =>
    obtain ⟨j, S, hj, rfl, rfl, hS, S0, S1, hpos⟩ := hrel
    have HS := Lib.hid hS
    have HP := Lib.hid hpos
    clear hS hpos
    by_cases hlt : j < 8
    · have hcell := HC.out j hlt
      obtain ⟨y, hy⟩ : ∃ y, zs.getD j 0 = y := ⟨_, rfl⟩
      rw [hy] at hcell
      have HY := Lib.hid hy
      have hs := sum_take_succ zs j (by rw [HL.out]; exact hlt)
      rw [HS.out, hy] at hs
      have HT := Lib.hid hs
      clear hy hs
      by_cases y0 : y < 0
      · have bad : Hid (rowAllV zs = -1) := rowAllV_not (fun f => by have := f.2.1 j hlt; rw [HY.out] at this; omega)
        go_wp2
        go_ret
        exact ⟨ret_int bad.out.symm, rfl⟩
      by_cases y1 : 2000 - S < y
      · have bad : Hid (rowAllV zs = -1) := rowAllV_not (fun f => by have := sum_take_le f.bd.1 (j + 1); rw [HT.out] at this; have := f.2.2; omega)
        go_wp2
        go_ret
        exact ⟨ret_int bad.out.symm, rfl⟩
      · go_wp2
        go_round
        case rel => exact ⟨j + 1, S + y, by omega, by go_num, rfl, HT.out, by omega, by omega, fun i hi => by
          by_cases h : i < j
          · exact HP.out i h
          · obtain rfl : i = j := by omega
            rw [HY.out]; omega⟩
        case measure => simp [intOf]; omega
    · obtain rfl : j = 8 := by omega
      have good : Hid (rowAllV zs = S) := by
        have e : zs.sum = S := by rw [← HS.out, List.take_of_length_le (by rw [HL.out]; exact Nat.le_refl _)]
        rw [← e]
        exact rowAllV_fine ⟨HL.out, HP.out, by rw [e]; exact S1⟩
      go_wp2
      go_ret
      exact ⟨ret_int good.out.symm, rfl⟩

theorem rowAll_at (w : World) (v : Value) (zs : List Int) (h : Ints w v zs) :
    Calls Try.prog 57 #[v] w fun e w' => e = .returned (.int .i64 (rowAllV zs)) ∧ w = w' := by
  obtain ⟨⟨x, c, hx⟩, q⟩ := h.cases
  by_cases h8 : zs.length = 8
  · rcases q with q | ⟨b, o, c, rfl, hc⟩
    · omega
    rw [h8] at hc ⊢
    exact rowAll_eight b o c zs w h8 hc
  · rw [rowAllV_not (fun f => h8 f.1)]
    exact rowAll_len v x _ c w hx h8

theorem roughAll_len (u : Value) (x : Option Addr) (n c : Nat) (w : World) (hu : u = .slice x n c) (h : n ≠ 3) :
    Calls Try.prog 28 #[.agg #[u]] w fun e w' => e = .returned (.int .i64 (-1)) ∧ Below w.heap.size w w' := by
  subst hu
  have hn : ((n : Int) == 3) = false := by simp; omega
  go_enter Try.func28, Try.ntmps28
  go_wp2
  go_ret
  exact ⟨rfl, (Below.refl _ _).alloc (Nat.le_refl _) _⟩

set_option maxHeartbeats 1000000 in
theorem roughAll_three (b o cap : Nat) (rs : List (List Int)) (w : World) (h3 : rs.length = 3) (hcap : 3 ≤ cap) (hb : b < w.heap.size)
    (hc : ∀ i, i < 3 → ∃ x, w.cell? ⟨b, o + i, none⟩ = some x ∧ Ints w x (rs.getD i [])) :
    Calls Try.prog 28 #[.agg #[.slice (some ⟨b, o, none⟩) 3 cap]] w fun e w' => e = .returned (.int .i64 (allV rs)) ∧ Below w.heap.size w w' := by
  have HV := Lib.hid (allV_eq rs)
  have H3 := Lib.hid h3
  obtain ⟨x0, h0, i0⟩ := hc 0 (by omega)
  obtain ⟨x1, h1, i1⟩ := hc 1 (by omega)
  obtain ⟨x2, h2, i2⟩ := hc 2 (by omega)
  have hA := (Below.refl w.heap.size w).alloc (Nat.le_refl _) (.cells #[.slice (some ⟨b, o, none⟩) 3 cap] 24)
  have J0 := Lib.hid (rowAll_at _ x0 _ (i0.below hA (Nat.le_refl _)))
  have J1 := Lib.hid (rowAll_at _ x1 _ (i1.below hA (Nat.le_refl _)))
  have J2 := Lib.hid (rowAll_at _ x2 _ (i2.below hA (Nat.le_refl _)))
  have HA := Lib.hid hA
  obtain ⟨⟨y0, c0, e0⟩, _⟩ := i0.cases
  obtain ⟨⟨y1, c1, e1⟩, _⟩ := i1.cases
  obtain ⟨⟨y2, c2, e2⟩, _⟩ := i2.cases
  obtain ⟨n0, m0⟩ : ∃ n, n = (rs.getD 0 []).length := ⟨_, rfl⟩
  obtain ⟨n1, m1⟩ : ∃ n, n = (rs.getD 1 []).length := ⟨_, rfl⟩
  obtain ⟨n2, m2⟩ : ∃ n, n = (rs.getD 2 []).length := ⟨_, rfl⟩
  obtain ⟨V0, v0⟩ : ∃ n, n = rowAllV (rs.getD 0 []) := ⟨_, rfl⟩
  obtain ⟨V1, v1⟩ : ∃ n, n = rowAllV (rs.getD 1 []) := ⟨_, rfl⟩
  obtain ⟨V2, v2⟩ : ∃ n, n = rowAllV (rs.getD 2 []) := ⟨_, rfl⟩
  rw [← v0, ← v1, ← v2] at HV
  rw [← v0] at J0
  rw [← v1] at J1
  rw [← v2] at J2
  rw [← m0] at e0
  rw [← m1] at e1
  rw [← m2] at e2
  subst e0 e1 e2
  clear i0 i1 i2 hc hA m0 m1 m2 v0 v1 v2 h3
  have cap1 : ¬ cap = 1 := by omega
  have cap1' : (1 : Int) ≤ (cap : Int) := by omega
  have cap3 : (3 : Int) ≤ (cap : Int) := by omega
  have h0' : w.cell? ⟨b, o, none⟩ = some (.slice y0 n0 c0) := h0
  have h2' : w.cell? ⟨b, o + 1 + 1, none⟩ = some (.slice y2 n2 c2) := h2
  go_enter Try.func28, Try.ntmps28
  go_wp2_with fail
  refine J0.out.mono ?_
  rintro e w1 ⟨rfl, rfl⟩
  go_wp2_with fail
  by_cases q1 : V1 = V0
  · by_cases q2 : V2 = V0
    · subst q1
      subst q2
      have fin := Lib.hid (HV.out.trans (if_pos ⟨H3.out, rfl, rfl⟩))
      refine wp_loop_rounds 3 ?_
      rw [rounds_succ]
      go_wp2_with fail
      refine J1.out.mono ?_
      rintro e w1 ⟨rfl, rfl⟩
      go_wp2_with fail
      rw [rounds_succ]
      go_wp2_with fail
      refine J2.out.mono ?_
      rintro e w1 ⟨rfl, rfl⟩
      go_wp2_with fail
      rw [rounds_succ]
      go_wp2
      go_ret
      exact ⟨ret_int fin.out.symm, HA.out⟩
    · subst q1
      have fin := Lib.hid (HV.out.trans (if_neg (fun h => q2 h.2.2)))
      have q2' : (V2 == V1) = false := by simpa using q2
      refine wp_loop_rounds 3 ?_
      rw [rounds_succ]
      go_wp2_with fail
      refine J1.out.mono ?_
      rintro e w1 ⟨rfl, rfl⟩
      go_wp2_with fail
      rw [rounds_succ]
      go_wp2_with fail
      refine J2.out.mono ?_
      rintro e w1 ⟨rfl, rfl⟩
      go_wp2
      go_ret
      exact ⟨ret_int fin.out.symm, HA.out⟩
  · have fin := Lib.hid (HV.out.trans (if_neg (fun h => q1 h.2.1)))
    have q1' : (V1 == V0) = false := by simpa using q1
    refine wp_loop_rounds 1 ?_
    rw [rounds_succ]
    go_wp2_with fail
    refine J1.out.mono ?_
    rintro e w1 ⟨rfl, rfl⟩
    go_wp2
    go_ret
    exact ⟨ret_int fin.out.symm, HA.out⟩

theorem roughAll_at (w : World) (u : Value) (rs : List (List Int)) (h : Rws w u rs) :
    Calls Try.prog 28 #[.agg #[u]] w fun e w' => e = .returned (.int .i64 (allV rs)) ∧ Below w.heap.size w w' := by
  have bad : rs.length ≠ 3 → allV rs = -1 := fun h => by rw [allV_eq, if_neg (fun q => h q.1)]
  rcases h with ⟨rfl, rfl⟩ | ⟨b, o, cap, rfl, hcap, _, hb, hc⟩
  · rw [bad (by simp)]
    exact roughAll_len _ none 0 0 w rfl (by omega)
  · by_cases h3 : rs.length = 3
    · rw [h3] at hc hcap ⊢
      exact roughAll_three b o cap rs w h3 hcap hb hc
    · rw [bad h3]
      exact roughAll_len _ _ _ _ w rfl h3

theorem allV_ok {rs : List (List Int)} (h : okB rs = true) : 0 ≤ allV rs ∧ allV rs ≤ 2000 := by
  obtain ⟨_, hg⟩ := (okB_iff rs).1 h
  have f : Fine (rs.getD 0 []) := ⟨(hg 0 (by omega)).1, fun k hk => ((hg 0 (by omega)).2.1 k hk).1, (hg 0 (by omega)).2.2.2⟩
  unfold allV
  rw [if_pos h]
  exact ⟨f.bd.2.1, f.2.2⟩
theorem allV_not {rs : List (List Int)} (h : okB rs = false) : allV rs = -1 := by unfold allV; rw [h]; rfl

theorem imOk_at (w : World) (u : Value) (rs : List (List Int)) (h : Rws w u rs) :
    Calls Try.prog 22 #[.agg #[u]] w fun e w' => e = .returned (.bool (okB rs)) ∧ Below w.heap.size w w' := by
  have hA := (Below.refl w.heap.size w).alloc (Nat.le_refl _) (.cells #[u] 24)
  have K := Lib.hid (roughAll_at _ u rs (h.below hA (Nat.le_refl _)))
  obtain ⟨⟨x, c, hx⟩, _⟩ := h.cases
  have HA := Lib.hid hA
  obtain ⟨n, hn⟩ : ∃ n, n = rs.length := ⟨_, rfl⟩
  rw [← hn] at hx
  subst hx
  clear h hA hn
  cases hok : okB rs with
  | true =>
    have v0 := (allV_ok hok).1
    obtain ⟨V, hV⟩ : ∃ V, V = allV rs := ⟨_, rfl⟩
    rw [← hV] at K v0
    clear hV hok
    go_enter Try.func22, Try.ntmps22
    go_wp2_with (go_at_call 28; refine K.out.mono ?_; rintro e w1 ⟨rfl, hb1⟩)
    go_ret
    exact ⟨rfl, HA.out.trans (hb1.mono HA.out.size)⟩
  | false =>
    rw [allV_not hok] at K
    clear hok
    go_enter Try.func22, Try.ntmps22
    go_wp2_with (go_at_call 28; refine K.out.mono ?_; rintro e w1 ⟨rfl, hb1⟩)
    go_ret
    exact ⟨rfl, HA.out.trans (hb1.mono HA.out.size)⟩

end Go.Proofs.Yteopnbjiffncbab
