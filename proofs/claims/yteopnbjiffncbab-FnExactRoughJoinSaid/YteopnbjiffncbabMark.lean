/-
  The exact laws' marks: numbers written into every cell that an answer owns, one behind the other, and looked for again.
-/
import Derived.Test.YteopnbjiffncbabNew
import Derived.Test.YteopnbjiffncbabEq
namespace Go.Proofs.Yteopnbjiffncbab
open Go.RowKit

def mkRow (k : Int) (n : Nat) : List Int := (List.range n).map fun (i : Nat) => k + (i : Int)
/-- How many numbers stand ahead of row i. -/
def ahead (rs : List (List Int)) : Nat → Nat
  | 0 => 0
  | i + 1 => ahead rs i + (rs.getD i []).length
/-- The rows rs' are those of rs, marked from k on. -/
def Marked (k : Int) (rs rs' : List (List Int)) : Prop := rs'.length = rs.length ∧ ∀ i, i < rs.length → rs'.getD i [] = mkRow (k + ahead rs i) (rs.getD i []).length

theorem mkRow_len (k : Int) (n : Nat) : (mkRow k n).length = n := by simp [mkRow]
theorem mkRow_get (k : Int) (n i : Nat) (h : i < n) : (mkRow k n).getD i 0 = k + i := by simp [mkRow, h]

/-- Row i is another one, as long. -/
theorem OwnR.setRow {w w' : World} {B : Nat} {u : Value} {rs : List (List Int)} {G C : Nat → Nat} (h : OwnR w B u rs G C) {i : Nat} {zs : List Int} (hi : i < rs.length) (hl : zs.length = (rs.getD i []).length)
    (hz : w'.ownsRow B 3 1 (rowV rs G C i) zs.length (ints zs)) (hg : w.grownBy w' (some (G i))) : OwnR w' B u (rs.set i zs) G C := by
  have eL : ∀ j, ((rs.set i zs).getD j []).length = (rs.getD j []).length := fun j => by
    simp only [List.getD_eq_getElem?_getD, List.getElem?_set]
    by_cases e : i = j
    · subst e; simp [hi, hl]
    · simp [e]
  have eV : ∀ j, rowV (rs.set i zs) G C j = rowV rs G C j := fun j => by unfold rowV; rw [eL]
  refine ⟨?_, fun j hj => ?_, fun j hj => h.off j (by simpa using hj), fun a b ha hb hab => h.apart a b (by simpa using ha) (by simpa using hb) hab⟩
  · simp only [List.length_set]
    rw [List.map_congr_left (fun j _ => eV j)]
    exact h.hdr.kept hg (.inr (h.off i hi))
  · simp only [List.length_set] at hj
    rw [eV, eL]
    by_cases e : j = i
    · subst e
      have e' : (rs.set j zs).getD j [] = zs := by simp [hj]
      rw [e', ← hl]
      exact hz
    · have e' : (rs.set i zs).getD j [] = rs.getD j [] := by simp [Ne.symm e]
      rw [e']
      exact (h.row j hj).kept hg (.inr (by simp [rowV, Value.ownBlock]; exact h.apart j i hj hi e))

theorem mark_set (k : Int) (zs : List Int) (j : Nat) (hj : j < zs.length) :
    (ints (mkRow k j ++ zs.drop j)).set j (.int .i64 (k + j)) = ints (mkRow k (j + 1) ++ zs.drop (j + 1)) := by
  apply List.ext_getElem?
  intro i
  simp only [ints, List.getElem?_set, List.getElem?_map, List.length_map, List.length_append, mkRow_len, List.length_drop]
  rcases Nat.lt_trichotomy i j with h | h | h
  · rw [if_neg (by omega), List.getElem?_append_left (by rw [mkRow_len]; exact h), List.getElem?_append_left (by rw [mkRow_len]; omega)]
    simp [mkRow, h, show i < j + 1 by omega]
  · subst h
    rw [if_pos rfl, if_pos (by omega), List.getElem?_append_left (by rw [mkRow_len]; omega)]
    simp [mkRow]
  · rw [if_neg (by omega), List.getElem?_append_right (by rw [mkRow_len]; omega), List.getElem?_append_right (by rw [mkRow_len]; omega), mkRow_len, mkRow_len]
    simp only [List.getElem?_drop]
    rw [show j + (i - j) = i by omega, show j + 1 + (i - (j + 1)) = i by omega]

set_option maxHeartbeats 1000000 in
theorem markIntS_at (w : World) (B g c n : Nat) (zs : List Int) (k : Int) (hl : zs.length = n) (hn : n ≤ 1048576) (hk : 0 ≤ k) (hk' : k ≤ 1000000000000)
    (h : w.ownsRow B 3 1 (.slice (some ⟨g, 0, none⟩) n c) n (ints zs)) :
    Calls Try.prog 66 #[.slice (some ⟨g, 0, none⟩) n c, .int .i64 k] w fun e w' =>
      e = .returned (.int .i64 (k + n)) ∧ w'.ownsRow B 3 1 (.slice (some ⟨g, 0, none⟩) n c) n (ints (mkRow k n)) ∧ w.grownBy w' (some g) := by
  have HL := Lib.hid hl
  have H := Lib.hid h
  clear hl h
  go_enter Try.func66, Try.ntmps66
  go_wp2
  go_loopw [1, 5] (fun q i wr => ∃ j : Nat, j ≤ n ∧ i = .int .i64 j ∧ q = .int .i64 (k + j) ∧ wr.ownsRow B 3 1 (.slice (some ⟨g, 0, none⟩) n c) n (ints (mkRow k j ++ zs.drop j)) ∧ w.grownBy wr (some g)) (fun _ i _ => n - (intOf i).toNat)
  case atStart => exact ⟨0, Nat.zero_le _, rfl, by go_num, by simpa [mkRow] using H.out, grownBy_refl _ _⟩
  case round =>
    obtain ⟨j, hj, rfl, rfl, hown, hg⟩ := hrel
    have HO := Lib.hid hown
    have HG := Lib.hid hg
    clear hown hg
    by_cases hlt : j < n
    · have hc : ∃ x, wr.cell? ⟨g, j, none⟩ = some x := by
        rw [HO.out.cellAt j (by omega)]
        exact ⟨_, List.getElem?_eq_getElem (by rw [ints_len]; simp [mkRow_len, HL.out]; omega)⟩
      obtain ⟨x, hc⟩ := hc
      have hf := HO.out.frozenAt j
      have hs := HO.out.stored j (.int .i64 (k + j))
      rw [mark_set k zs j (by rw [HL.out]; exact hlt)] at hs
      have HS := Lib.hid hs
      clear hs
      go_wp2
      go_roundw
      case rel => exact ⟨j + 1, by omega, by go_num, by rw [show ((j + 1 : Nat) : Int) = (j : Int) + 1 by omega]; congr 1; omega, HS.out.1, grownBy_trans HG.out HS.out.2⟩
      case measure => simp [intOf]; omega
    · obtain rfl : j = n := by omega
      go_wp2
      go_ret
      have h0 : zs.drop j = [] := List.drop_of_length_le (by rw [HL.out]; exact Nat.le_refl _)
      have ho := HO.out
      rw [h0, List.append_nil] at ho
      exact ⟨rfl, ho, HG.out⟩

set_option maxHeartbeats 1000000 in
theorem markIntSS_at (w : World) (B n : Nat) (u : Value) (x : Option Addr) (c : Nat) (rs : List (List Int)) (G C : Nat → Nat) (k : Int) (hu : u = .slice x n c) (hl : rs.length = n) (hn : n ≤ 1048576) (hr : ∀ i, i < n → (rs.getD i []).length ≤ 1048576) (hs : ahead rs n ≤ 100000000)
    (hk : 0 ≤ k) (hk' : k ≤ 100000000000) (h : OwnR w B u rs G C) :
    Calls Try.prog 47 #[u, .int .i64 k] w fun e w' => ∃ rs', e = .returned (.int .i64 (k + ahead rs n)) ∧ Marked k rs rs' ∧ OwnR w' B u rs' G C ∧ KeptB (fun b => ∃ i, i < n ∧ G i = b) w w' := by
  have hmono : ∀ i j, i ≤ j → ahead rs i ≤ ahead rs j := fun i j h => by
    induction h with
    | refl => exact Nat.le_refl _
    | step _ ih => exact Nat.le_trans ih (by simp [ahead])
  have HM := Lib.hid hmono
  have HL := Lib.hid hl
  have HR := Lib.hid hr
  have H := Lib.hid h
  clear hl h hr hmono
  by_cases h0 : n = 0
  · subst h0 hu
    go_enter Try.func47, Try.ntmps47
    go_wp2
    refine wp_loop_rounds 1 ?_
    rw [rounds_succ]
    go_wp2
    go_ret
    exact ⟨rs, by simp [ahead], ⟨rfl, fun i hi => by have := HL.out; omega⟩, H.out, KeptB.refl _ _⟩
  obtain ⟨g, c', hform, hBg, hgl⟩ := World.ownsRow.form H.out.hdr (by rw [HL.out]; omega)
  obtain ⟨rfl, rfl⟩ : x = some ⟨g, 0, none⟩ ∧ c = c' := by
    rw [hu, HL.out] at hform
    simpa using hform
  subst hu
  clear hform
  go_enter Try.func47, Try.ntmps47
  go_wp2
  go_loopw [1, 5] (fun q i wr => ∃ (j : Nat) (rs' : List (List Int)), j ≤ n ∧ i = .int .i64 j ∧ q = .int .i64 (k + ahead rs j) ∧ rs'.length = n ∧ (∀ i, i < n → rs'.getD i [] = if i < j then mkRow (k + ahead rs i) (rs.getD i []).length else rs.getD i []) ∧
      OwnR wr B (.slice (some ⟨g, 0, none⟩) n c) rs' G C ∧ KeptB (fun b => ∃ i, i < n ∧ G i = b) w wr) (fun _ i _ => n - (intOf i).toNat)
  case atStart => exact ⟨0, rs, Nat.zero_le _, rfl, by simp [ahead], HL.out, fun i hi => by simp, H.out, KeptB.refl _ _⟩
  case round =>
    obtain ⟨j, rs', hj, rfl, rfl, hl', hrow, hown, hb⟩ := hrel
    have HL' := Lib.hid hl'
    have HO := Lib.hid hown
    have HB := Lib.hid hb
    have HW := Lib.hid hrow
    clear hown hb hl' hrow
    by_cases hlt : j < n
    · have hown := HO.out
      have hh := hown.hdr
      rw [HL'.out] at hh
      have hcell := hh.cellAt j (by omega)
      rw [List.getElem?_map, List.getElem?_range hlt] at hcell
      clear hh
      have hrj : rs'.getD j [] = rs.getD j [] := by rw [HW.out j hlt, if_neg (by omega)]
      simp only [Option.map_some, rowV, hrj] at hcell
      obtain ⟨m, hm⟩ : ∃ m, m = (rs.getD j []).length := ⟨_, rfl⟩
      rw [← hm] at hcell
      have b1 : m ≤ 1048576 := by rw [hm]; exact HR.out j hlt
      have b2 := HM.out (j + 1) n hlt
      have e3 : ahead rs (j + 1) = ahead rs j + m := by rw [hm]; rfl
      have hz := hown.row j (by rw [HL'.out]; exact hlt)
      simp only [rowV, hrj, ← hm] at hz
      have b3 : 0 ≤ k + (ahead rs j : Int) := by omega
      have b4 : k + (ahead rs j : Int) ≤ 1000000000000 := by omega
      have KC : Hid (Calls Try.prog 66 #[.slice (some ⟨G j, 0, none⟩) m (C j), .int .i64 (k + ahead rs j)] wr fun e w' =>
          e = .returned (.int .i64 (k + ahead rs j + m)) ∧ w'.ownsRow B 3 1 (.slice (some ⟨G j, 0, none⟩) m (C j)) m (ints (mkRow (k + ahead rs j) m)) ∧ wr.grownBy w' (some (G j))) :=
        markIntS_at wr B (G j) (C j) m _ _ hm.symm b1 b3 b4 hz
      have HM2 := Lib.hid hm
      have E3 := Lib.hid e3
      have HRJ := Lib.hid hrj
      clear hown hz hm e3 hrj b2
      go_wp2_with (go_at_call 66; refine KC.out.mono ?_; rintro e w1 ⟨rfl, ho1, hg1⟩)
      have hset := HO.out.setRow (i := j) (zs := mkRow (k + ahead rs j) m) (by rw [HL'.out]; exact hlt) (by rw [mkRow_len, HRJ.out, HM2.out]) (by rw [mkRow_len]; unfold rowV; rw [HRJ.out, ← HM2.out]; exact ho1) hg1
      have hbb : KeptB (fun b => ∃ i, i < n ∧ G i = b) w w1 := HB.out.trans (KeptB.of_grown hg1 ⟨j, hlt, rfl⟩)
      go_roundw
      case rel =>
        refine ⟨j + 1, rs'.set j (mkRow (k + ahead rs j) m), by omega, by go_num, by rw [E3.out]; congr 1; omega, by simpa using HL'.out, fun i hi => ?_, hset, hbb⟩
        by_cases e : i = j
        · subst e
          rw [if_pos (by omega), ← HM2.out]
          simp [show i < rs'.length by rw [HL'.out]; exact hi]
        · have e1 : (rs'.set j (mkRow (k + ahead rs j) m)).getD i [] = rs'.getD i [] := by simp [Ne.symm e]
          rw [e1, HW.out i hi]
          by_cases e2 : i < j
          · rw [if_pos e2, if_pos (by omega)]
          · rw [if_neg e2, if_neg (by omega)]
      case measure => simp [intOf]; omega
    · obtain rfl : j = n := by omega
      go_wp2
      go_ret
      exact ⟨rs', rfl, ⟨by rw [HL'.out, HL.out], fun i hi => by rw [HW.out i (by rw [← HL.out]; exact hi), if_pos (by rw [← HL.out]; exact hi)]⟩, HO.out, HB.out⟩

set_option maxHeartbeats 1000000 in
theorem heldIntS_at (w : World) (v : Value) (n : Nat) (k : Int) (hn : n ≤ 1048576) (hk : 0 ≤ k) (hk' : k ≤ 1000000000000) (h : Ints w v (mkRow k n)) :
    Calls Try.prog 67 #[v, .int .i64 k] w fun e w' => e = .returned (.int .i64 (k + n)) ∧ w = w' := by
  obtain ⟨⟨x, c, hv⟩, q⟩ := h.cases
  rw [mkRow_len] at hv q
  by_cases h0 : n = 0
  · subst h0 hv
    go_enter Try.func67, Try.ntmps67
    go_wp2
    refine wp_loop_rounds 1 ?_
    rw [rounds_succ]
    go_wp2
    go_ret
    exact ⟨by simp, rfl⟩
  rcases q with q | ⟨b, o, c, rfl, hc⟩
  · omega
  have Hc := Lib.hid hc
  clear hc h hv
  go_enter Try.func67, Try.ntmps67
  go_wp2
  go_loop [1, 5] (fun q i => ∃ j : Nat, j ≤ n ∧ i = .int .i64 j ∧ q = .int .i64 (k + j)) (fun _ i => n - (intOf i).toNat)
  case atStart => exact ⟨0, Nat.zero_le _, rfl, by go_num⟩
  case round =>
    obtain ⟨j, hj, rfl, rfl⟩ := hrel
    by_cases hlt : j < n
    · have h1 := Hc.out j hlt
      rw [mkRow_get _ _ _ hlt] at h1
      go_wp2
      go_round
      case rel => exact ⟨j + 1, by omega, by go_num, by rw [show ((j + 1 : Nat) : Int) = (j : Int) + 1 by omega]; congr 1; omega⟩
      case measure => simp [intOf]; omega
    · obtain rfl : j = n := by omega
      go_wp2
      go_ret
      exact ⟨rfl, rfl⟩

set_option maxHeartbeats 1000000 in
theorem heldIntSS_at (w : World) (u : Value) (rs rs' : List (List Int)) (n : Nat) (k : Int) (hl : rs.length = n) (hm : Marked k rs rs') (hn : n ≤ 1048576) (hr : ∀ i, i < n → (rs.getD i []).length ≤ 1048576) (hs : ahead rs n ≤ 100000000)
    (hk : 0 ≤ k) (hk' : k ≤ 100000000000) (h : Rws w u rs') :
    Calls Try.prog 48 #[u, .int .i64 k] w fun e w' => e = .returned (.int .i64 (k + ahead rs n)) ∧ w = w' := by
  obtain ⟨⟨x, c, hv⟩, q⟩ := h.cases
  rw [hm.1, hl] at hv q
  by_cases h0 : n = 0
  · subst h0 hv
    go_enter Try.func48, Try.ntmps48
    go_wp2
    refine wp_loop_rounds 1 ?_
    rw [rounds_succ]
    go_wp2
    go_ret
    exact ⟨by simp [ahead], rfl⟩
  rcases q with q | ⟨b, o, c, rfl, hc⟩
  · omega
  have hmono : ∀ i j, i ≤ j → ahead rs i ≤ ahead rs j := fun i j h => by
    induction h with
    | refl => exact Nat.le_refl _
    | step _ ih => exact Nat.le_trans ih (by simp [ahead])
  have HMo := Lib.hid hmono
  have Hc := Lib.hid hc
  have HM := Lib.hid hm
  have HL := Lib.hid hl
  have HR := Lib.hid hr
  clear hc h hv hm hl hr hmono
  go_enter Try.func48, Try.ntmps48
  go_wp2
  go_loop [1, 5] (fun q i => ∃ j : Nat, j ≤ n ∧ i = .int .i64 j ∧ q = .int .i64 (k + ahead rs j)) (fun _ i => n - (intOf i).toNat)
  case atStart => exact ⟨0, Nat.zero_le _, rfl, by simp [ahead]⟩
  case round =>
    obtain ⟨j, hj, rfl, rfl⟩ := hrel
    by_cases hlt : j < n
    · obtain ⟨y, h1, h2⟩ := Hc.out j hlt
      rw [HM.out.2 j (by rw [HL.out]; exact hlt)] at h2
      obtain ⟨m, hm⟩ : ∃ m, m = (rs.getD j []).length := ⟨_, rfl⟩
      rw [← hm] at h2
      have b1 : m ≤ 1048576 := by rw [hm]; exact HR.out j hlt
      have e3 : ahead rs (j + 1) = ahead rs j + m := by rw [hm]; rfl
      have b2 := HMo.out (j + 1) n hlt
      have b3 : 0 ≤ k + (ahead rs j : Int) := by omega
      have b4 : k + (ahead rs j : Int) ≤ 1000000000000 := by omega
      have b5 : ¬ k + (ahead rs j : Int) + (m : Int) < 0 := by omega
      have KC := Lib.hid (heldIntS_at w y m _ b1 b3 b4 h2)
      obtain ⟨⟨xa, xc, hx⟩, _⟩ := h2.cases
      rw [mkRow_len] at hx
      subst hx
      have E3 := Lib.hid e3
      clear e3 hm b2 h2
      go_wp2_with (go_at_call 67; refine KC.out.mono ?_; rintro e w1 ⟨rfl, rfl⟩)
      go_round
      case rel => exact ⟨j + 1, by omega, by go_num, by rw [E3.out]; congr 1; omega⟩
      case measure => simp [intOf]; omega
    · obtain rfl : j = n := by omega
      go_wp2
      go_ret
      exact ⟨rfl, rfl⟩

theorem markRough_at (w : World) (B : Nat) (u : Value) (rs : List (List Int)) (G C : Nat → Nat) (k : Int) (hn : rs.length ≤ 1048576) (hr : ∀ i, i < rs.length → (rs.getD i []).length ≤ 1048576) (hs : ahead rs rs.length ≤ 100000000)
    (hk : 0 ≤ k) (hk' : k ≤ 100000000000) (h : OwnR w B u rs G C) :
    Calls Try.prog 17 #[.agg #[u], .int .i64 k] w fun e w' => ∃ rs', e = .returned (.int .i64 (k + ahead rs rs.length)) ∧ Marked k rs rs' ∧ OwnR w' B u rs' G C ∧ KeptB (fun b => ∃ i, i < rs.length ∧ G i = b) w w' := by
  obtain ⟨⟨x, c, hx⟩, _⟩ := h.rws.cases
  have hA : OwnR (w.alloc (.cells #[u] 24)) B u rs G C := h.grown (World.grownBy_alloc w _ none) (fun _ e => by cases e)
  have K := Lib.hid (markIntSS_at (w.alloc (.cells #[u] 24)) B rs.length u x c rs G C k hx rfl hn hr hs hk hk' hA)
  have HBB := Lib.hid (fun S : Nat → Prop => KeptB.of_below S ((Below.refl w.heap.size w).alloc (Nat.le_refl _) (.cells #[u] 24)))
  obtain ⟨n, hn'⟩ : ∃ n, n = rs.length := ⟨_, rfl⟩
  rw [← hn'] at hx K ⊢
  subst hx
  clear h hA hn' hn hr hs
  go_enter Try.func17, Try.ntmps17
  go_wp2_with (go_at_call 47; refine K.out.mono ?_; rintro e w1 ⟨rs', rfl, hm, ho, hb⟩)
  go_ret
  exact ⟨rs', rfl, hm, ho, (HBB.out _).trans hb⟩

theorem heldRough_at (w : World) (u : Value) (rs rs' : List (List Int)) (k : Int) (hm : Marked k rs rs') (hn : rs.length ≤ 1048576) (hr : ∀ i, i < rs.length → (rs.getD i []).length ≤ 1048576) (hs : ahead rs rs.length ≤ 100000000)
    (hk : 0 ≤ k) (hk' : k ≤ 100000000000) (h : Rws w u rs') :
    Calls Try.prog 18 #[.agg #[u], .int .i64 k] w fun e w' => e = .returned (.int .i64 (k + ahead rs rs.length)) ∧ Below w.heap.size w w' := by
  obtain ⟨⟨x, c, hx⟩, _⟩ := h.cases
  have hA : Rws (w.alloc (.cells #[u] 24)) u rs' := h.below ((Below.refl _ _).alloc (Nat.le_refl _) _) (Nat.le_refl _)
  have K := Lib.hid (heldIntSS_at (w.alloc (.cells #[u] 24)) u rs rs' rs.length k rfl hm hn hr hs hk hk' hA)
  obtain ⟨n, hn'⟩ : ∃ n, n = rs.length := ⟨_, rfl⟩
  rw [← hn'] at K ⊢
  have b : ¬ k + (ahead rs n : Int) < 0 := by omega
  subst hx
  clear h hA hn' hn hr hs hm
  go_enter Try.func18, Try.ntmps18
  go_wp2_with (go_at_call 48; refine K.out.mono ?_; rintro e w1 ⟨rfl, rfl⟩)
  go_ret
  exact ⟨rfl, (Below.refl _ _).alloc (Nat.le_refl _) _⟩

end Go.Proofs.Yteopnbjiffncbab
