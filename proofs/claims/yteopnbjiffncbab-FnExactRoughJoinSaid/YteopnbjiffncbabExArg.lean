/-
  The exact laws' own functions over what came in: its size, and a copy of it.
-/
import Derived.Test.YteopnbjiffncbabArg
import Derived.Test.YteopnbjiffncbabPut
import Derived.Deep.OwnRows
namespace Go.Proofs.Yteopnbjiffncbab
open Go.RowKit Go.Sort

/-- What is left of a bound when n is taken; -1 if it is passed. -/
def szV (left : Int) (n : Nat) : Int := if left < n then -1 else left - n
theorem szV_in {left : Int} {n : Nat} (h : (n : Int) ≤ left) : szV left n = left - n := if_neg (by omega)
theorem szV_out {left : Int} {n : Nat} (h : left < n) : szV left n = -1 := if_pos h

theorem szIntS_at (w : World) (v : Value) (zs : List Int) (left : Int) (h : ArgI w v zs) (h0 : 0 ≤ left) (h1 : left ≤ 1048576) :
    Calls Try.prog 60 #[v, .int .i64 left] w fun e w' => e = .returned (.int .i64 (szV left zs.length)) ∧ w = w' := by
  obtain ⟨x, c, hx⟩ := h.form
  have hl := h.len
  obtain ⟨n, hn⟩ : ∃ n, n = zs.length := ⟨_, rfl⟩
  rw [← hn] at hx hl ⊢
  subst hx
  unfold maxLen at hl
  clear h hn
  by_cases hle : left < n
  · rw [szV_out hle]
    have h2 : left - (n : Int) < 0 := by omega
    go_enter Try.func60, Try.ntmps60
    go_wp2
    go_ret
    exact ⟨rfl, rfl⟩
  · rw [szV_in (by omega)]
    have h2 : ¬ left - (n : Int) < 0 := by omega
    go_enter Try.func60, Try.ntmps60
    go_wp2
    go_ret
    exact ⟨rfl, rfl⟩

theorem int_make (n : Nat) (hn : n ≤ 1048576) : ∀ w, (Instr.makeSlice 41 (.int .i64 (n : Int)) (.int .i64 (n : Int))).run Try.prog w = .ok (.slice (some ⟨w.heap.size, 0, none⟩) n n) (w.alloc (.cells (madeCells #[.int .i64 0] n) 3)) :=
  run_make_row' (P := Try.prog) 41 3 (.int .i64 0) 8 Try.underlying41 few_info rfl .i64 .i64 n (by omega) (by omega)

theorem ints_set (zs : List Int) (k : Nat) (x : Int) : (ints zs).set k (.int .i64 x) = ints (zs.set k x) := by simp [ints, List.map_set]

set_option maxHeartbeats 1000000 in
theorem toIntS_at (w : World) (v : Value) (zs : List Int) (h : ArgI w v zs) (hn : zs.length ≤ 1048576) :
    Calls Try.prog 61 #[v] w fun e w' => e = .returned (.slice (some ⟨w.heap.size, 0, none⟩) zs.length zs.length) ∧ OwnI w' w.heap.size (.slice (some ⟨w.heap.size, 0, none⟩) zs.length zs.length) zs ∧ Below w.heap.size w w' := by
  obtain ⟨x, c, hx⟩ := h.form
  obtain ⟨n, hn'⟩ : ∃ n, n = zs.length := ⟨_, rfl⟩
  have HZ : Hid (∀ i, i < n → ∃ b o, x = some ⟨b, o, none⟩ ∧ b < w.heap.size ∧ w.cell? ⟨b, o + i, none⟩ = some (.int .i64 (zs.getD i 0))) := fun i hi => by
    rcases h with ⟨rfl, _⟩ | ⟨b, o, c', e, _, _, hb, hc⟩
    · rw [hn'] at hi; cases hi
    · rw [hx] at e
      exact ⟨b, o, (Value.slice.inj e).1, hb, hc i (by rw [← hn']; exact hi)⟩
  have HN := Lib.hid hn'
  rw [← hn'] at hx hn ⊢
  have hmk := int_make n hn
  have own0 : OwnI (w.alloc (.cells (madeCells #[.int .i64 0] n) 3)) w.heap.size (.slice (some ⟨w.heap.size, 0, none⟩) n n) (List.replicate n 0) := by
    have := World.ownsRow_lit (base := w.heap.size) (e := 3) (size := 1) w (madeCells #[.int .i64 0] n) n (Nat.le_refl _) (by unfold maxLen; omega) (by rw [size_madeCells]; omega)
    rw [toList_madeCells_one] at this
    unfold OwnI
    rw [List.length_replicate]
    simpa [ints] using this
  have O0 := Lib.hid own0
  subst hx
  clear h hn' own0
  go_enter Try.func61, Try.ntmps61
  go_wp2
  go_loopw [4] (fun i wr => ∃ (k : Nat) (ys : List Int), k ≤ n ∧ i = .int .i64 k ∧ ys.length = n ∧ (∀ i, i < k → ys.getD i 0 = zs.getD i 0) ∧ OwnI wr w.heap.size (.slice (some ⟨w.heap.size, 0, none⟩) n n) ys ∧ Below w.heap.size w wr) (fun i _ => n - (intOf i).toNat)
  case atStart => exact ⟨0, List.replicate n 0, Nat.zero_le _, rfl, by simp, fun _ h => absurd h (Nat.not_lt_zero _), O0.out, (Below.refl _ _).alloc (Nat.le_refl _) _⟩
  case round =>
    obtain ⟨k, ys, hk, rfl, hy, hys, hown, hbl⟩ := hrel
    have HY := Lib.hid hy
    have HYS := Lib.hid hys
    have HB := Lib.hid hbl
    have ho : wr.ownsRow w.heap.size 3 1 (.slice (some ⟨w.heap.size, 0, none⟩) n n) n (ints ys) := by have h := hown; unfold OwnI at h; rw [hy] at h; exact h
    have HO := Lib.hid ho
    clear hy hys hbl hown ho
    by_cases hlt : k < n
    · obtain ⟨b, o, rfl, hb, h1⟩ := HZ.out k hlt
      rw [← HB.out.cell (p := ⟨b, o + k, none⟩) hb] at h1
      obtain ⟨y, hyk⟩ : ∃ y, zs.getD k 0 = y := ⟨_, rfl⟩
      rw [hyk] at h1
      have HK := Lib.hid hyk
      obtain ⟨u, hc⟩ : ∃ u, wr.cell? ⟨w.heap.size, k, none⟩ = some u := by
        rw [HO.out.cellAt k (by omega)]
        exact ⟨_, ints_get _ _ (by rw [HY.out]; exact hlt)⟩
      have hf := HO.out.frozenAt k
      have hs := HO.out.stored k (.int .i64 y)
      rw [ints_set] at hs
      have HS := Lib.hid hs
      have k0 : (0 : Int) ≤ (k : Int) := by omega
      have kn : (k : Int) < (n : Int) := by omega
      clear hyk hs
      go_wp2
      go_roundw
      case rel =>
        refine ⟨k + 1, ys.set k y, by omega, by go_num, by simpa using HY.out, fun i hi => ?_, ?_, HB.out.setCell (Nat.le_refl _) _⟩
        · by_cases e : i = k
          · subst e
            rw [HK.out, List.getD_eq_getElem?_getD, List.getElem?_set_self (by rw [HY.out]; exact hlt)]; rfl
          · have e1 : (ys.set k y).getD i 0 = ys.getD i 0 := by simp [Ne.symm e]
            rw [e1]; exact HYS.out i (by omega)
        · unfold OwnI
          rw [List.length_set, HY.out]
          exact HS.out.1
      case measure => simp [intOf]; omega
    · obtain rfl : k = n := by omega
      have fin0 : ys = zs := of_decide_eq_true (eq_of_get (d := 0) HY.out HN.out.symm HYS.out)
      have fin := Lib.hid fin0
      clear fin0
      go_wp2
      go_ret
      refine ⟨rfl, ?_, HB.out⟩
      rw [← fin.out]
      unfold OwnI
      rw [HY.out]
      exact HO.out

theorem szFew_at (w : World) (u : Value) (zs : List Int) (left : Int) (h : ArgI w u zs) (h0 : 0 ≤ left) (h1 : left ≤ 1048576) :
    Calls Try.prog 31 #[.agg #[u], .int .i64 left] w fun e w' => e = .returned (.int .i64 (szV left zs.length)) ∧ Below w.heap.size w w' := by
  have hA := (Below.refl w.heap.size w).alloc (Nat.le_refl _) (.cells #[u] 43)
  have K := Lib.hid (szIntS_at _ u zs left (h.below hA (Nat.le_refl _)) h0 h1)
  have HA := Lib.hid hA
  obtain ⟨x, c, hx⟩ := h.form
  obtain ⟨n, hn⟩ : ∃ n, n = zs.length := ⟨_, rfl⟩
  rw [← hn] at hx K ⊢
  subst hx
  clear h hn hA
  by_cases hle : left < n
  · rw [szV_out hle] at K ⊢
    go_enter Try.func31, Try.ntmps31
    go_wp2_with fail
    refine K.out.mono ?_
    rintro e w1 ⟨rfl, rfl⟩
    go_wp2
    go_ret
    exact ⟨rfl, HA.out⟩
  · rw [szV_in (by omega)] at K ⊢
    have h2 : ¬ left - (n : Int) < 0 := by omega
    go_enter Try.func31, Try.ntmps31
    go_wp2_with fail
    refine K.out.mono ?_
    rintro e w1 ⟨rfl, rfl⟩
    go_wp2
    go_ret
    exact ⟨rfl, HA.out⟩

set_option maxHeartbeats 1000000 in
theorem toFew_at (w : World) (u : Value) (zs : List Int) (h : ArgI w u zs) (hn : zs.length ≤ 1048576) :
    Calls Try.prog 33 #[.agg #[u]] w fun e w' => ∃ g, e = .returned (.agg #[.slice (some ⟨g, 0, none⟩) zs.length zs.length]) ∧ OwnI w' w.heap.size (.slice (some ⟨g, 0, none⟩) zs.length zs.length) zs ∧ Below w.heap.size w w' := by
  have hA := (((Below.refl w.heap.size w).alloc (Nat.le_refl _) (.cells #[u] 43)).alloc (by simp) (.cells #[.slice none 0 0] 46)).alloc (by simp; omega) (.cells #[.slice none 0 0] 46)
  have K := Lib.hid (toIntS_at _ u zs (h.below hA (Nat.le_refl _)) hn)
  have HA := Lib.hid hA
  obtain ⟨x, c, hx⟩ := h.form
  obtain ⟨n, hn'⟩ : ∃ n, n = zs.length := ⟨_, rfl⟩
  rw [← hn'] at hx K hn ⊢
  subst hx
  clear h hn' hA
  obtain ⟨w0, hw0⟩ : ∃ w0, w0 = (((w.alloc (.cells #[.slice x n c] 43)).alloc (.cells #[.slice none 0 0] 46)).alloc (.cells #[.slice none 0 0] 46)) := ⟨_, rfl⟩
  have c1 : w0.cell? ⟨w.heap.size + 1, 0, none⟩ = some (.slice none 0 0) := by rw [hw0, World.cell?_alloc_past (hn := by simp), World.cell?_alloc_at (hn := by simp)]; simp
  have f1 : w0.frozen? ⟨w.heap.size + 1, 0, none⟩ = false := by rw [hw0, World.frozen?_alloc_past (hn := by simp)]; exact World.frozen?_alloc_at _ _ _ _ (by simp)
  have c2 : w0.cell? ⟨w.heap.size + 1 + 1, 0, none⟩ = some (.slice none 0 0) := by rw [hw0, World.cell?_alloc_at (hn := by simp)]; simp
  have f2 : w0.frozen? ⟨w.heap.size + 1 + 1, 0, none⟩ = false := by rw [hw0]; exact World.frozen?_alloc_at _ _ _ _ (by simp)
  have sz := Lib.hid (show w0.heap.size = w.heap.size + 3 by rw [hw0]; simp)
  rw [← hw0] at K HA
  have HW := Lib.hid hw0
  clear hw0
  go_enter Try.func33, Try.ntmps33
  go_wp2_with fail
  rw [← HW.out]
  refine K.out.mono ?_
  rintro e w1 ⟨rfl, ho1, hb1⟩
  have d1 := cell_later hb1 c1
  have d2 := cell_later hb1 c2
  have g1 : w1.frozen? ⟨w.heap.size + 1, 0, none⟩ = false := (hb1.frozen (p := ⟨w.heap.size + 1, 0, none⟩) (by have := sz.out; simp; omega)).trans f1
  have g2 : w1.frozen? ⟨w.heap.size + 1 + 1, 0, none⟩ = false := (hb1.frozen (p := ⟨w.heap.size + 1 + 1, 0, none⟩) (by have := sz.out; simp; omega)).trans f2
  have B1 := Lib.hid (HA.out.trans (hb1.mono HA.out.size))
  have O1 := Lib.hid ho1
  have e1 : (w1.setCell ⟨w.heap.size + 1 + 1, 0, none⟩ (.slice (some ⟨w0.heap.size, 0, none⟩) n n)).cell? ⟨w.heap.size + 1, 0, none⟩ = some (.slice none 0 0) := (World.cell?_setCell_other (h := by simp) ..).trans d1
  have e2 : (w1.setCell ⟨w.heap.size + 1 + 1, 0, none⟩ (.slice (some ⟨w0.heap.size, 0, none⟩) n n)).frozen? ⟨w.heap.size + 1, 0, none⟩ = false := by rw [World.frozen?_setCell]; exact g1
  have e3 := World.cell?_setCell_same w1 ⟨w.heap.size + 1 + 1, 0, none⟩ (.slice (some ⟨w0.heap.size, 0, none⟩) n n) d2
  clear hb1 ho1 HW c1 c2 f1 f2
  go_wp2
  have hr := World.cell?_setCell_same _ ⟨w.heap.size + 1, 0, none⟩ (.slice (some ⟨w0.heap.size, 0, none⟩) n n) e1
  have s1 := grownBy_setCell w1 ⟨w.heap.size + 1 + 1, 0, none⟩ (.slice (some ⟨w0.heap.size, 0, none⟩) n n)
  have s2 := grownBy_setCell (w1.setCell ⟨w.heap.size + 1 + 1, 0, none⟩ (.slice (some ⟨w0.heap.size, 0, none⟩) n n)) ⟨w.heap.size + 1, 0, none⟩ (.slice (some ⟨w0.heap.size, 0, none⟩) n n)
  refine bodyPost_ret (v := .agg #[.slice (some ⟨w0.heap.size, 0, none⟩) n n]) (by simp [results, Try.results33, go_sem, hr]) rfl ⟨_, rfl, ?_, ?_⟩
  · exact ((O1.out.kept s1 (fun k e => by have := sz.out; simp at e; omega)).kept s2 (fun k e => by have := sz.out; simp at e; omega)).base (by have := sz.out; omega)
  · exact (B1.out.setCell (by simp; omega) _).setCell (by simp) _

set_option maxHeartbeats 1000000 in
theorem eqFew_at (w : World) (u v : Value) (za zb : List Int) (ha : Ints w u za) (hb : Ints w v zb) (hl : za.length ≤ maxLen) :
    Calls Try.prog 35 #[.agg #[u], .agg #[v]] w fun e w' => e = .returned (.bool (decide (za = zb))) ∧ Below w.heap.size w w' := by
  have hA := ((Below.refl w.heap.size w).alloc (Nat.le_refl _) (.cells #[u] 46)).alloc (by simp) (.cells #[v] 46)
  have K := Lib.hid (eqIntS_at _ u v za zb (ha.below hA (Nat.le_refl _)) (hb.below hA (Nat.le_refl _)) hl)
  have HA := Lib.hid hA
  obtain ⟨⟨x, c, hx⟩, _⟩ := ha.cases
  obtain ⟨⟨y, d, hy⟩, _⟩ := hb.cases
  obtain ⟨n, hn⟩ : ∃ n, n = za.length := ⟨_, rfl⟩
  obtain ⟨m, hm⟩ : ∃ m, m = zb.length := ⟨_, rfl⟩
  rw [← hn] at hx
  rw [← hm] at hy
  subst hx hy
  clear ha hb hn hm hl hA
  by_cases h : za = zb
  · rw [decide_eq_true h] at K ⊢
    clear h
    go_enter Try.func35, Try.ntmps35
    go_wp2_with fail
    refine K.out.mono ?_
    rintro e w1 ⟨rfl, q, rfl⟩
    go_wp2
    go_ret
    exact ⟨rfl, below_drewN HA.out _⟩
  · rw [decide_eq_false h] at K ⊢
    clear h
    go_enter Try.func35, Try.ntmps35
    go_wp2_with fail
    refine K.out.mono ?_
    rintro e w1 ⟨rfl, q, rfl⟩
    go_wp2
    go_ret
    exact ⟨rfl, below_drewN HA.out _⟩

end Go.Proofs.Yteopnbjiffncbab
