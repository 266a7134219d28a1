/-
  The exact laws' own functions over a rough count that came in: its size, and a copy of it.
-/
import Derived.Test.YteopnbjiffncbabExArg
import Derived.Test.YteopnbjiffncbabMark
namespace Go.Proofs.Yteopnbjiffncbab
open Go.RowKit Go.Sort

theorem ahead_mono (rs : List (List Int)) : ∀ i j, i ≤ j → ahead rs i ≤ ahead rs j := fun i j h => by
  induction h with
  | refl => exact Nat.le_refl _
  | step _ ih => exact Nat.le_trans ih (by simp [ahead])
theorem ahead_row (rs : List (List Int)) (i n : Nat) (h : i < n) : (rs.getD i []).length ≤ ahead rs n :=
  Nat.le_trans (by show _ ≤ ahead rs i + (rs.getD i []).length; omega) (ahead_mono rs (i + 1) n h)

theorem ArgR.len {w : World} {v : Value} {rs : List (List Int)} (h : ArgR w v rs) : rs.length ≤ maxLen := by
  rcases h with ⟨rfl, _⟩ | ⟨b, o, c, e, h0, h1, _⟩
  · exact Nat.zero_le _
  · exact h1
theorem ArgR.cells {w : World} {x : Option Addr} {n c : Nat} {rs : List (List Int)} (h : ArgR w (.slice x n c) rs) : ∀ i, i < rs.length → ∃ b o u, x = some ⟨b, o, none⟩ ∧ b < w.heap.size ∧ w.cell? ⟨b, o + i, none⟩ = some u ∧ ArgI w u (rs.getD i []) := fun i hi => by
  rcases h with ⟨rfl, _⟩ | ⟨b, o, c', e, _, _, hb, hc⟩
  · cases hi
  · obtain ⟨u, hu, ha⟩ := hc i hi
    exact ⟨b, o, u, (Value.slice.inj e).1, hb, hu, ha⟩

set_option maxHeartbeats 1000000 in
theorem szIntSS_at (w : World) (v : Value) (rs : List (List Int)) (left : Int) (h : ArgR w v rs) (h0 : 0 ≤ left) (h1 : left ≤ 1048576) :
    Calls Try.prog 49 #[v, .int .i64 left] w fun e w' => e = .returned (.int .i64 (szV left (rs.length + ahead rs rs.length))) ∧ w = w' := by
  obtain ⟨x, c, hx⟩ := h.form
  have hl := h.len
  have hcs := fun hx' : v = .slice x rs.length c => (hx' ▸ h : ArgR w (.slice x rs.length c) rs).cells
  obtain ⟨n, hn⟩ : ∃ n, n = rs.length := ⟨_, rfl⟩
  have HC := Lib.hid (hcs hx)
  rw [← hn] at hx hl HC ⊢
  have HN := Lib.hid hn
  subst hx
  unfold maxLen at hl
  clear h hn hcs
  by_cases hle : left < n
  · rw [szV_out (by omega)]
    have h2 : left - (n : Int) < 0 := by omega
    go_enter Try.func49, Try.ntmps49
    go_wp2
    go_ret
    exact ⟨rfl, rfl⟩
  · have h2 : ¬ left - (n : Int) < 0 := by omega
    have HM := Lib.hid (ahead_mono rs)
    go_enter Try.func49, Try.ntmps49
    go_wp2
    go_loop [1, 5] (fun q i => ∃ (k a : Nat), k ≤ n ∧ i = .int .i64 k ∧ q = .int .i64 (left - n - a) ∧ a = ahead rs k ∧ (a : Int) ≤ left - n) (fun _ i => n - (intOf i).toNat)
    case atStart => exact ⟨0, 0, Nat.zero_le _, rfl, by simp, rfl, by omega⟩
    case round =>
      obtain ⟨k, a, hk, rfl, rfl, ha, hal⟩ := hrel
      have HA := Lib.hid ha
      clear ha
      by_cases hlt : k < n
      · obtain ⟨b, o, u, rfl, hb, hu, hai⟩ := HC.out k hlt
        obtain ⟨m, hm⟩ : ∃ m, m = (rs.getD k []).length := ⟨_, rfl⟩
        have KS := Lib.hid (szIntS_at w u (rs.getD k []) (left - n - a) hai (by omega) (by omega))
        obtain ⟨xu, cu, hxu⟩ := hai.form
        rw [← hm] at KS hxu
        have e3 : ahead rs (k + 1) = a + m := by rw [hm, HA.out]; rfl
        have E3 := Lib.hid e3
        have mono := HM.out (k + 1) n hlt
        rw [e3] at mono
        have MO := Lib.hid mono
        have k0 : (0 : Int) ≤ (k : Int) := by omega
        have kn : (k : Int) < (n : Int) := by omega
        subst hxu
        clear hm e3 mono hai
        by_cases hlm : left - n - a < m
        · rw [szV_out hlm] at KS
          have fin : Hid (szV left (n + ahead rs n) = -1) := szV_out (by have := MO.out; omega)
          go_wp2_with fail
          refine KS.out.mono ?_
          rintro e w1 ⟨rfl, rfl⟩
          go_wp2
          go_ret
          exact ⟨by rw [fin.out]; rfl, rfl⟩
        · rw [szV_in (by omega)] at KS
          have h3 : ¬ left - (n : Int) - (a : Int) - (m : Int) < 0 := by omega
          go_wp2_with fail
          refine KS.out.mono ?_
          rintro e w1 ⟨rfl, rfl⟩
          go_wp2
          go_round
          case rel => exact ⟨k + 1, a + m, by omega, by go_num, by rw [show left - (n : Int) - (a : Int) - (m : Int) = left - n - ((a + m : Nat) : Int) by omega], E3.out.symm, by omega⟩
          case measure => simp [intOf]; omega
      · obtain rfl : k = n := by omega
        have fin : Hid (szV left (k + ahead rs k) = left - k - a) := by
          show szV left (k + ahead rs k) = _
          rw [← HA.out, szV_in (by omega)]; omega
        go_wp2
        go_ret
        exact ⟨by rw [fin.out]; rfl, rfl⟩

theorem info_slice : (Try.prog.info? 41).map (fun i => (i.zero, i.size, i.bytes)) = some (some (.slice none 0 0), 1, 24) := by kernel_rfl
theorem rows_make (n : Nat) (hn : n ≤ 1048576) : ∀ w, (Instr.makeSlice 22 (.int .i64 (n : Int)) (.int .i64 (n : Int))).run Try.prog w = .ok (.slice (some ⟨w.heap.size, 0, none⟩) n n) (w.alloc (.cells (madeCells #[.slice none 0 0] n) 41)) :=
  run_make_row' (P := Try.prog) 22 41 (.slice none 0 0) 24 Try.underlying22 info_slice rfl .i64 .i64 n (by omega) (by omega)

set_option maxHeartbeats 2000000 in
theorem toIntSS_at (w : World) (v : Value) (rs : List (List Int)) (h : ArgR w v rs) (hn : rs.length ≤ 1048576) (hr : ∀ i, i < rs.length → (rs.getD i []).length ≤ 1048576) :
    Calls Try.prog 52 #[v] w fun e w' => e = .returned (.slice (some ⟨w.heap.size, 0, none⟩) rs.length rs.length) ∧ (∃ xs : List Value, w'.ownsRow w.heap.size 41 1 (.slice (some ⟨w.heap.size, 0, none⟩) rs.length rs.length) rs.length xs ∧ ∀ j, j < rs.length → ∃ x, xs[j]? = some x ∧ OwnI w' (w.heap.size + 1) x (rs.getD j [])) ∧ Below w.heap.size w w' := by
  obtain ⟨x, c, hx⟩ := h.form
  have hcs := fun hx' : v = .slice x rs.length c => (hx' ▸ h : ArgR w (.slice x rs.length c) rs).cells
  obtain ⟨n, hn'⟩ : ∃ n, n = rs.length := ⟨_, rfl⟩
  have HC := Lib.hid (hcs hx)
  rw [← hn'] at hx hn HC hr ⊢
  have HR := Lib.hid hr
  have hmk := rows_make n hn
  have own0 := World.ownsRow_lit (base := w.heap.size) (e := 41) (size := 1) w (madeCells #[.slice none 0 0] n) n (Nat.le_refl _) (by unfold maxLen; omega) (by rw [size_madeCells]; omega)
  have O0 := Lib.hid own0
  subst hx
  clear h hn' hcs own0 hr
  go_enter Try.func52, Try.ntmps52
  go_wp2
  go_loopw [4] (fun i wr => ∃ (k : Nat) (xs : List Value), k ≤ n ∧ i = .int .i64 k ∧ xs.length = n ∧ (∀ j, j < k → ∃ x, xs[j]? = some x ∧ OwnI wr (w.heap.size + 1) x (rs.getD j [])) ∧ wr.ownsRow w.heap.size 41 1 (.slice (some ⟨w.heap.size, 0, none⟩) n n) n xs ∧ Below w.heap.size w wr) (fun i _ => n - (intOf i).toNat)
  case atStart => exact ⟨0, _, Nat.zero_le _, rfl, by rw [Array.length_toList, size_madeCells], fun _ h => absurd h (Nat.not_lt_zero _), O0.out, (Below.refl _ _).alloc (Nat.le_refl _) _⟩
  case round =>
    obtain ⟨k, xs, hk, rfl, hy, hys, hown, hbl⟩ := hrel
    have HY := Lib.hid hy
    have HYS := Lib.hid hys
    have HB := Lib.hid hbl
    have HO := Lib.hid hown
    clear hy hys hbl hown
    by_cases hlt : k < n
    · obtain ⟨b, o, u, rfl, hb, h1, hai⟩ := HC.out k hlt
      rw [← HB.out.cell (p := ⟨b, o + k, none⟩) hb] at h1
      have KT := Lib.hid (toIntS_at wr u (rs.getD k []) (hai.below HB.out (Nat.le_refl _)) (HR.out k hlt))
      obtain ⟨xu, cu, hxu⟩ := hai.form
      obtain ⟨m, hm⟩ : ∃ m, m = (rs.getD k []).length := ⟨_, rfl⟩
      rw [← hm] at KT hxu
      subst hxu
      have hlw : w.heap.size < wr.heap.size := (World.ownsRow.lt HO.out w.heap.size rfl).2
      have k0 : (0 : Int) ≤ (k : Int) := by omega
      have kn : (k : Int) < (n : Int) := by omega
      clear hai hm
      go_wp2_with fail
      refine KT.out.mono ?_
      rintro e w1 ⟨rfl, ho1, hb1⟩
      have ho2 := HO.out.kept (grownBy_below (row := none) hb1) (.inr (by simp [Value.ownBlock]))
      obtain ⟨uu, hc⟩ : ∃ uu, w1.cell? ⟨w.heap.size, k, none⟩ = some uu := by
        rw [ho2.cellAt k (by omega)]
        exact ⟨_, List.getElem?_eq_getElem (by rw [HY.out]; exact hlt)⟩
      have hf := ho2.frozenAt k
      have hs := ho2.stored k (.slice (some ⟨wr.heap.size, 0, none⟩) m m)
      have HS := Lib.hid hs
      have O1 := Lib.hid ho1
      have B1 := Lib.hid hb1
      clear hs ho1 ho2 hb1
      go_wp2
      go_roundw
      case rel =>
        have sg := grownBy_setCell w1 ⟨w.heap.size, k, none⟩ (.slice (some ⟨wr.heap.size, 0, none⟩) m m)
        refine ⟨k + 1, xs.set k (.slice (some ⟨wr.heap.size, 0, none⟩) m m), by omega, by go_num, by simpa using HY.out, fun j hj => ?_, HS.out.1, (HB.out.trans (B1.out.mono HB.out.size)).setCell (Nat.le_refl _) _⟩
        by_cases e : j = k
        · subst e
          refine ⟨_, List.getElem?_set_self (by rw [HY.out]; exact hlt), ?_⟩
          exact (O1.out.base (by omega)).kept sg (fun q eq => by simp at eq; omega)
        · obtain ⟨x, hx, hox⟩ := HYS.out j (by omega)
          refine ⟨x, by rw [List.getElem?_set_ne (Ne.symm e)]; exact hx, ?_⟩
          exact (hox.kept (grownBy_below (row := none) B1.out) (fun q eq => by cases eq)).kept sg (fun q eq => by simp at eq; omega)
      case measure => simp [intOf]; omega
    · obtain rfl : k = n := by omega
      go_wp2
      go_ret
      exact ⟨rfl, ⟨xs, HO.out, HYS.out⟩, HB.out⟩

/-- What was copied reads as it was. -/
theorem copied_rws {w : World} {L n : Nat} {rs : List (List Int)} {xs : List Value} (hl : n = rs.length) (hn : n ≤ 1048576) (h : w.ownsRow L 41 1 (.slice (some ⟨L, 0, none⟩) n n) n xs) (hx : ∀ j, j < n → ∃ x, xs[j]? = some x ∧ OwnI w (L + 1) x (rs.getD j [])) : Rws w (.slice (some ⟨L, 0, none⟩) n n) rs := by
  refine .inr ⟨L, 0, n, by rw [hl], by omega, by unfold maxLen; omega, (World.ownsRow.lt h L rfl).2, fun i hi => ?_⟩
  obtain ⟨x, h1, h2⟩ := hx i (by omega)
  refine ⟨x, ?_, h2.rd⟩
  rw [Nat.zero_add, h.cellAt i (by omega)]
  exact h1

theorem szRough_at (w : World) (u : Value) (rs : List (List Int)) (left : Int) (h : ArgR w u rs) (h0 : 0 ≤ left) (h1 : left ≤ 1048576) :
    Calls Try.prog 19 #[.agg #[u], .int .i64 left] w fun e w' => e = .returned (.int .i64 (szV left (rs.length + ahead rs rs.length))) ∧ Below w.heap.size w w' := by
  have hA := (Below.refl w.heap.size w).alloc (Nat.le_refl _) (.cells #[u] 29)
  have K := Lib.hid (szIntSS_at _ u rs left (h.below hA (Nat.le_refl _)) h0 h1)
  have HA := Lib.hid hA
  obtain ⟨x, c, hx⟩ := h.form
  obtain ⟨n, hn⟩ : ∃ n, n = rs.length := ⟨_, rfl⟩
  obtain ⟨m, hm⟩ : ∃ m, m = rs.length + ahead rs rs.length := ⟨_, rfl⟩
  rw [← hm] at K ⊢
  rw [← hn] at hx
  subst hx
  clear h hn hA hm
  by_cases hle : left < m
  · rw [szV_out hle] at K ⊢
    go_enter Try.func19, Try.ntmps19
    go_wp2_with fail
    refine K.out.mono ?_
    rintro e w1 ⟨rfl, rfl⟩
    go_wp2
    go_ret
    exact ⟨rfl, HA.out⟩
  · rw [szV_in (by omega)] at K ⊢
    have h2 : ¬ left - (m : Int) < 0 := by omega
    go_enter Try.func19, Try.ntmps19
    go_wp2_with fail
    refine K.out.mono ?_
    rintro e w1 ⟨rfl, rfl⟩
    go_wp2
    go_ret
    exact ⟨rfl, HA.out⟩

set_option maxHeartbeats 1000000 in
theorem toRough_at (w : World) (u : Value) (rs : List (List Int)) (h : ArgR w u rs) (hn : rs.length ≤ 1048576) (hr : ∀ i, i < rs.length → (rs.getD i []).length ≤ 1048576) :
    Calls Try.prog 21 #[.agg #[u]] w fun e w' => ∃ g, e = .returned (.agg #[.slice (some ⟨g, 0, none⟩) rs.length rs.length]) ∧ (w.heap.size ≤ g ∧ ∃ xs : List Value, w'.ownsRow g 41 1 (.slice (some ⟨g, 0, none⟩) rs.length rs.length) rs.length xs ∧ ∀ j, j < rs.length → ∃ x, xs[j]? = some x ∧ OwnI w' (g + 1) x (rs.getD j [])) ∧ Below w.heap.size w w' := by
  have hA := (((Below.refl w.heap.size w).alloc (Nat.le_refl _) (.cells #[u] 29)).alloc (by simp) (.cells #[.slice none 0 0] 24)).alloc (by simp; omega) (.cells #[.slice none 0 0] 24)
  have K := Lib.hid (toIntSS_at _ u rs (h.below hA (Nat.le_refl _)) hn hr)
  have HA := Lib.hid hA
  obtain ⟨x, c, hx⟩ := h.form
  obtain ⟨n, hn'⟩ : ∃ n, n = rs.length := ⟨_, rfl⟩
  rw [← hn'] at hx K hn ⊢
  subst hx
  have HNN := Lib.hid hn'
  clear h hn' hA hr
  obtain ⟨w0, hw0⟩ : ∃ w0, w0 = (((w.alloc (.cells #[.slice x n c] 29)).alloc (.cells #[.slice none 0 0] 24)).alloc (.cells #[.slice none 0 0] 24)) := ⟨_, rfl⟩
  have c1 : w0.cell? ⟨w.heap.size + 1, 0, none⟩ = some (.slice none 0 0) := by rw [hw0, World.cell?_alloc_past (hn := by simp), World.cell?_alloc_at (hn := by simp)]; simp
  have f1 : w0.frozen? ⟨w.heap.size + 1, 0, none⟩ = false := by rw [hw0, World.frozen?_alloc_past (hn := by simp)]; exact World.frozen?_alloc_at _ _ _ _ (by simp)
  have c2 : w0.cell? ⟨w.heap.size + 1 + 1, 0, none⟩ = some (.slice none 0 0) := by rw [hw0, World.cell?_alloc_at (hn := by simp)]; simp
  have f2 : w0.frozen? ⟨w.heap.size + 1 + 1, 0, none⟩ = false := by rw [hw0]; exact World.frozen?_alloc_at _ _ _ _ (by simp)
  have sz := Lib.hid (show w0.heap.size = w.heap.size + 3 by rw [hw0]; simp)
  rw [← hw0] at K HA
  have HW := Lib.hid hw0
  clear hw0
  go_enter Try.func21, Try.ntmps21
  go_wp2_with fail
  rw [← HW.out]
  refine K.out.mono ?_
  rintro e w1 ⟨rfl, ho1, hb1⟩
  have d1 := cell_later hb1 c1
  have d2 := cell_later hb1 c2
  have g1 : w1.frozen? ⟨w.heap.size + 1, 0, none⟩ = false := (hb1.frozen (p := ⟨w.heap.size + 1, 0, none⟩) (by have := sz.out; simp; omega)).trans f1
  have g2 : w1.frozen? ⟨w.heap.size + 1 + 1, 0, none⟩ = false := (hb1.frozen (p := ⟨w.heap.size + 1 + 1, 0, none⟩) (by have := sz.out; simp; omega)).trans f2
  have B1 := Lib.hid (HA.out.trans (hb1.mono HA.out.size))
  have O1 := Lib.hid ho1
  have e1 : (w1.setCell ⟨w.heap.size + 1 + 1, 0, none⟩ (.slice (some ⟨w0.heap.size, 0, none⟩) n n)).cell? ⟨w.heap.size + 1, 0, none⟩ = some (.slice none 0 0) := (World.cell?_setCell_other (h := by simp) ..).trans d1
  have e2 : (w1.setCell ⟨w.heap.size + 1 + 1, 0, none⟩ (.slice (some ⟨w0.heap.size, 0, none⟩) n n)).frozen? ⟨w.heap.size + 1, 0, none⟩ = false := by rw [World.frozen?_setCell]; exact g1
  have e3 := World.cell?_setCell_same w1 ⟨w.heap.size + 1 + 1, 0, none⟩ (.slice (some ⟨w0.heap.size, 0, none⟩) n n) d2
  clear hb1 ho1 HW c1 c2 f1 f2
  go_wp2
  have hr := World.cell?_setCell_same _ ⟨w.heap.size + 1, 0, none⟩ (.slice (some ⟨w0.heap.size, 0, none⟩) n n) e1
  have s1 := grownBy_setCell w1 ⟨w.heap.size + 1 + 1, 0, none⟩ (.slice (some ⟨w0.heap.size, 0, none⟩) n n)
  have s2 := grownBy_setCell (w1.setCell ⟨w.heap.size + 1 + 1, 0, none⟩ (.slice (some ⟨w0.heap.size, 0, none⟩) n n)) ⟨w.heap.size + 1, 0, none⟩ (.slice (some ⟨w0.heap.size, 0, none⟩) n n)
  refine bodyPost_ret (v := .agg #[.slice (some ⟨w0.heap.size, 0, none⟩) n n]) (by simp [results, Try.results21, go_sem, hr]) rfl ⟨_, rfl, ?_, ?_⟩
  · obtain ⟨xs, o1, o2⟩ := O1.out
    refine ⟨by have := sz.out; omega, xs, ?_, fun j hj => ?_⟩
    · exact (o1.kept s1 (.inr (by have := sz.out; simp [Value.ownBlock]; omega))).kept s2 (.inr (by have := sz.out; simp [Value.ownBlock]; omega))
    · obtain ⟨x, h1, h2⟩ := o2 j hj
      exact ⟨x, h1, (h2.kept s1 (fun k e => by have := sz.out; simp at e; omega)).kept s2 (fun k e => by have := sz.out; simp at e; omega)⟩
  · exact (B1.out.setCell (by simp; omega) _).setCell (by simp) _


end Go.Proofs.Yteopnbjiffncbab
