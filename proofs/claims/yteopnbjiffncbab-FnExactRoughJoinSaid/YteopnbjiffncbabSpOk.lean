/-
  The model's RoughOk: it says whether the rows are in form.
-/
import Derived.Test.YteopnbjiffncbabMem
namespace Go.Proofs.Yteopnbjiffncbab
open Go.RowKit

def rowOkB (zs : List Int) : Bool := zs.length == 8 && zs.all fun z => decide (0 ≤ z) && decide (z ≤ 2000)
/-- A rough count is in form. -/
def okB (rs : List (List Int)) : Bool := rs.length == 3 && rs.all fun zs => rowOkB zs && zs.sum == (rs.getD 0 []).sum && decide (zs.sum ≤ 2000)

/-- Row i is in form. -/
def Good (rs : List (List Int)) (i : Nat) : Prop := (rs.getD i []).length = 8 ∧ (∀ k, k < 8 → 0 ≤ (rs.getD i []).getD k 0 ∧ (rs.getD i []).getD k 0 ≤ 2000) ∧ (rs.getD i []).sum = (rs.getD 0 []).sum ∧ (rs.getD i []).sum ≤ 2000

theorem okB_iff (rs : List (List Int)) : okB rs = true ↔ rs.length = 3 ∧ ∀ i, i < 3 → Good rs i := by
  unfold okB Good rowOkB
  simp only [Bool.and_eq_true, beq_iff_eq, List.all_eq_true, decide_eq_true_eq]
  constructor
  · rintro ⟨h3, h⟩
    refine ⟨h3, fun i hi => ?_⟩
    have hm : rs.getD i [] ∈ rs := getD_mem _ _ _ (by omega)
    obtain ⟨⟨⟨h8, ha⟩, hs⟩, hl⟩ := h _ hm
    refine ⟨h8, fun k hk => ?_, hs, hl⟩
    exact ha _ (getD_mem _ _ _ (by omega))
  · rintro ⟨h3, h⟩
    refine ⟨h3, fun zs hz => ?_⟩
    obtain ⟨i, hi, rfl⟩ := List.getElem_of_mem hz
    have h' := h i (by omega)
    simp only [List.getD_eq_getElem?_getD, List.getElem?_eq_getElem hi, Option.getD_some] at h' ⊢
    refine ⟨⟨⟨h'.1, fun z hz => ?_⟩, h'.2.2.1⟩, h'.2.2.2⟩
    obtain ⟨k, hk, rfl⟩ := List.getElem_of_mem hz
    have h2 := h'.2.1 k (by omega)
    simpa [hk] using h2

theorem okB_false {rs : List (List Int)} (h : rs.length ≠ 3 ∨ ∃ i, i < 3 ∧ ¬ Good rs i) : okB rs = false := by
  cases hb : okB rs with
  | false => rfl
  | true =>
    obtain ⟨h3, hg⟩ := (okB_iff rs).1 hb
    rcases h with h | ⟨i, hi, hn⟩
    · exact absurd h3 h
    · exact absurd (hg i hi) hn

theorem spOk_len (u : Value) (b o cap : Nat) (n : Nat) (w : World) (h : n ≠ 3) (hu : u = .slice none 0 0 ∧ n = 0 ∨ u = .slice (some ⟨b, o, none⟩) n cap) :
    Calls Try.prog 20 #[.agg #[u]] w fun e w' => e = .returned (.bool false) ∧ Below w.heap.size w w' := by
  rcases hu with ⟨rfl, rfl⟩ | rfl
  · go_enter Try.func20, Try.ntmps20
    go_wp2
    go_ret
    exact ⟨rfl, (Below.refl _ _).alloc (Nat.le_refl _) _⟩
  · have hn : ((n : Int) == 3) = false := by simp; omega
    go_enter Try.func20, Try.ntmps20
    go_wp2
    go_ret
    exact ⟨rfl, (Below.refl _ _).alloc (Nat.le_refl _) _⟩

set_option maxHeartbeats 1000000 in
theorem spOk_three (b o cap : Nat) (rs : List (List Int)) (w : World) (h3 : rs.length = 3) (hb : b < w.heap.size)
    (hc : ∀ i, i < 3 → ∃ x, w.cell? ⟨b, o + i, none⟩ = some x ∧ Ints w x (rs.getD i [])) :
    Calls Try.prog 20 #[.agg #[.slice (some ⟨b, o, none⟩) 3 cap]] w fun e w' => e = .returned (.bool (okB rs)) ∧ Below w.heap.size w w' := by
  have hok := Lib.hid (okB_iff rs)
  have hno := Lib.hid (@okB_false rs)
  have Hc := Lib.hid hc
  have H3 := Lib.hid h3
  clear hc h3
  go_enter Try.func20, Try.ntmps20
  go_wp2
  go_loopw [3] (fun i wr => ∃ k : Nat, k ≤ 3 ∧ i = .int .i64 k ∧ (∀ j, j < k → Good rs j) ∧ Below w.heap.size w wr ∧ wr.cell? ⟨w.heap.size, 0, none⟩ = some (.slice (some ⟨b, o, none⟩) 3 cap)) (fun i _ => 3 - (intOf i).toNat)
  case atStart => exact ⟨0, Nat.zero_le _, rfl, fun _ h => by omega, (Below.refl _ _).alloc (Nat.le_refl _) _, by simp⟩
  case round =>
    obtain ⟨k, hk, rfl, hgood, hbl, hbox⟩ := hrel
    have Hbl := Lib.hid hbl
    clear hbl
    by_cases hlt : k < 3
    · have hltB : decide ((k : Int) < 3) = true := by simp; omega
      obtain ⟨x, hx, hi⟩ := Hc.out k hlt
      rw [← Hbl.out.cell (p := ⟨b, o + k, none⟩) hb] at hx
      obtain ⟨zs, hzs⟩ : ∃ zs, zs = rs.getD k [] := ⟨_, rfl⟩
      rw [← hzs] at hi
      have Hzs := Lib.hid hzs
      have Hgood := Lib.hid hgood
      clear hzs hgood
      have bad : Hid (¬ Good rs k → okB rs = false) := fun h => hno.out (.inr ⟨k, hlt, h⟩)
      rcases hi with ⟨rfl, hz0⟩ | ⟨b1, o1, c1, rfl, hl1, hm1, hb1, hc1⟩
      · have hz0' := Lib.hid hz0
        clear hz0
        go_wp2
        go_ret
        exact ⟨ret_bool (bad.out (fun h => by have := h.1; rw [← Hzs.out, hz0'.out] at this; simp at this)).symm, Hbl.out⟩
      by_cases h8 : zs.length = 8
      · rw [h8] at hx hc1
        replace hc1 : ∀ (i : Nat), i < 8 → wr.cell? ⟨b1, o1 + i, none⟩ = some (.int .i64 (zs.getD i 0)) := fun i hi => by rw [Hbl.out.cell (p := ⟨b1, o1 + i, none⟩) hb1]; exact hc1 i hi
        have H8 := Lib.hid h8
        have Hc1 := Lib.hid hc1
        clear h8 hc1 hl1 hm1
        go_wp2
        go_loop [4] (fun j => ∃ m : Nat, m ≤ 8 ∧ j = .int .i64 m ∧ ∀ i, i < m → 0 ≤ zs.getD i 0 ∧ zs.getD i 0 ≤ 2000) (fun j => 8 - (intOf j).toNat)
        case atStart => exact ⟨0, Nat.zero_le _, rfl, fun _ h => by omega⟩
        case round =>
          obtain ⟨m, hm, rfl, hin⟩ := hrel
          have Hin := Lib.hid hin
          clear hin
          by_cases hmt : m < 8
          · have hcm := Hc1.out m hmt
            obtain ⟨y, hy⟩ : ∃ y, y = zs.getD m 0 := ⟨_, rfl⟩
            rw [← hy] at hcm
            have Hy := Lib.hid hy
            clear hy
            by_cases hr : 0 ≤ y ∧ y ≤ 2000
            · obtain ⟨r0, r1⟩ := hr
              go_wp2_with (go_at_call 50; refine (l6In_yes _ _ _ _ r0 r1).mono ?_; rintro e w' ⟨rfl, rfl⟩)
              go_round
              case rel => exact ⟨m + 1, by omega, by go_num, fun i hi => by
                by_cases h : i < m
                · exact Hin.out i h
                · obtain rfl : i = m := by omega
                  rw [← Hy.out]; exact ⟨r0, r1⟩⟩
              case measure => simp [intOf]; omega
            · have hr' : y < 0 ∨ 2000 < y := by omega
              clear hr
              go_wp2_with (go_at_call 50; refine (l6In_no _ _ _ _ hr').mono ?_; rintro e w' ⟨rfl, rfl⟩)
              go_ret
              exact ⟨ret_bool (bad.out (fun h => by have h' := h.2.1 m hmt; rw [← Hzs.out, ← Hy.out] at h'; omega)).symm, Hbl.out⟩
          · have hin8 : Hid (∀ i, i < 8 → 0 ≤ zs.getD i 0 ∧ zs.getD i 0 ≤ 2000) := fun i hi => Hin.out i (by omega)
            go_wp2
            obtain ⟨b0, o0, c0, zs0, hx0, Hzs0, H80, Hin0, Hc0⟩ : ∃ b0 o0 c0 zs0, wr.cell? ⟨b, o, none⟩ = some (.slice (some ⟨b0, o0, none⟩) 8 c0) ∧ Hid (zs0 = rs.getD 0 []) ∧ Hid (zs0.length = 8) ∧ Hid (∀ i, i < 8 → 0 ≤ zs0.getD i 0 ∧ zs0.getD i 0 ≤ 2000) ∧
                Hid (∀ (i : Nat), i < 8 → wr.cell? ⟨b0, o0 + i, none⟩ = some (.int .i64 (zs0.getD i 0))) := by
              rcases Nat.eq_zero_or_pos k with h0 | h0
              · subst h0
                exact ⟨b1, o1, c1, zs, hx, Hzs.out, H8.out, hin8.out, Hc1.out⟩
              · obtain ⟨x0, hx0, hi0⟩ := Hc.out 0 (by omega)
                rw [← Hbl.out.cell (p := ⟨b, o + 0, none⟩) hb] at hx0
                have g0 := Hgood.out 0 h0
                rcases hi0 with ⟨_, hz⟩ | ⟨b0, o0, c0, rfl, _, _, hb0, hc0⟩
                · have := g0.1; rw [hz] at this; simp at this
                · rw [g0.1] at hx0 hc0
                  exact ⟨b0, o0, c0, _, hx0, rfl, g0.1, g0.2.1, fun i hi => by rw [Hbl.out.cell (p := ⟨b0, o0 + i, none⟩) hb0]; exact hc0 i hi⟩
            obtain ⟨S, hS⟩ : ∃ S, zs.sum = S := ⟨_, rfl⟩
            obtain ⟨S0, hS0⟩ : ∃ S, zs0.sum = S := ⟨_, rfl⟩
            have HS := Lib.hid hS
            have HS0 := Lib.hid hS0
            have HSS : Hid (Good rs k → S = S0 ∧ S ≤ 2000) := fun h => by have := h.2.2; rw [← Hzs0.out, ← Hzs.out, hS, hS0] at this; exact this
            have HSG : Hid (S = S0 → S ≤ 2000 → Good rs k) := fun h1 h2 => by
              unfold Good; rw [← Hzs0.out, ← Hzs.out, hS, hS0]; exact ⟨H8.out, hin8.out, h1, h2⟩
            clear hS hS0
            have k1 : ∀ W : World, (∀ i, i < 8 → W.cell? ⟨b1, o1 + i, none⟩ = some (.int .i64 (zs.getD i 0))) → Calls Try.prog 51 #[.slice (some ⟨b1, o1, none⟩) 8 c1] W fun e w' => e = .returned (.int .i64 S) ∧ W = w' := fun W h => by
              rw [← HS.out]; exact l1Sum_at b1 o1 c1 8 zs W H8.out (by omega) hin8.out h
            have k0 : ∀ W : World, (∀ i, i < 8 → W.cell? ⟨b0, o0 + i, none⟩ = some (.int .i64 (zs0.getD i 0))) → Calls Try.prog 51 #[.slice (some ⟨b0, o0, none⟩) 8 c0] W fun e w' => e = .returned (.int .i64 S0) ∧ W = w' := fun W h => by
              rw [← HS0.out]; exact l1Sum_at b0 o0 c0 8 zs0 W H80.out (by omega) Hin0.out h
            have K1 := Lib.hid k1
            have K0 := Lib.hid k0
            clear k0 k1
            have ki0 : (0 : Int) ≤ (k : Int) := by omega
            have ki3 : (k : Int) < 3 := by omega
            by_cases he : S = S0
            · subst he
              by_cases h2 : S ≤ 2000
              · have h2' : ¬ 2000 < S := by omega
                go_quiet (first
                  | ((with_reducible refine quiet_same' (K1.out _ ?_)); exact Hc1.out)
                  | ((with_reducible refine quiet_same' (K0.out _ ?_)); exact Hc0.out))
                go_wp2
                go_roundw
                case rel => exact ⟨k + 1, by omega, by go_num, fun j hj => by
                  by_cases h : j < k
                  · exact Hgood.out j h
                  · obtain rfl : j = k := by omega
                    exact HSG.out rfl h2, below_drewN Hbl.out _, by simpa using hbox⟩
                case measure => simp [intOf]; omega
              · have h2' : 2000 < S := by omega
                go_quiet (first
                  | ((with_reducible refine quiet_same' (K1.out _ ?_)); exact Hc1.out)
                  | ((with_reducible refine quiet_same' (K0.out _ ?_)); exact Hc0.out))
                go_wp2
                go_ret
                exact ⟨ret_bool (bad.out (fun h => by have := (HSS.out h).2; omega)).symm, below_drewN Hbl.out _⟩
            · have he' : (S != S0) = true := by simpa using he
              have he2 : decide (S = S0) = false := by simpa using he
              go_quiet (first
                | ((with_reducible refine quiet_same' (K1.out _ ?_)); exact Hc1.out)
                | ((with_reducible refine quiet_same' (K0.out _ ?_)); exact Hc0.out))
              go_wp2
              go_ret
              exact ⟨ret_bool (bad.out (fun h => he (HSS.out h).1)).symm, below_drewN Hbl.out _⟩
      · have hn8 : ((zs.length : Int) == 8) = false := by simp; omega
        clear hc1 hl1 hm1
        go_wp2
        go_ret
        exact ⟨ret_bool (bad.out (fun h => by have := h.1; rw [← Hzs.out] at this; exact h8 this)).symm, Hbl.out⟩
    · go_wp2
      go_ret
      exact ⟨ret_bool ((hok.out).2 ⟨H3.out, fun i hi => hgood i (by omega)⟩).symm, Hbl.out⟩

/-- The model's RoughOk at every rough count. -/
theorem spOk_any (u : Value) (rs : List (List Int)) (w : World) (h : Rws w u rs) :
    Calls Try.prog 20 #[.agg #[u]] w fun e w' => e = .returned (.bool (okB rs)) ∧ Below w.heap.size w w' := by
  rcases h with ⟨rfl, rfl⟩ | ⟨b, o, cap, rfl, _, _, hb, hc⟩
  · exact spOk_len _ 0 0 0 0 w (by omega) (.inl ⟨rfl, rfl⟩)
  · by_cases h3 : rs.length = 3
    · rw [h3] at hc ⊢
      exact spOk_three b o cap rs w h3 hb hc
    · refine (spOk_len _ b o cap _ w h3 (.inr rfl)).mono fun e w' ⟨he, hb'⟩ => ⟨?_, hb'⟩
      rw [okB_false (.inl h3)]; exact he

end Go.Proofs.Yteopnbjiffncbab
