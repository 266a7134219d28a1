/-
  What came in, turned; and that two which read the same are told so.
-/
import Derived.Test.YtnpcgbjkahpcfaaKArg
import Derived.BigQuiet
import Derived.Deep.OwnRows
namespace Go.Proofs.Ytnpcgbjkahpcfaa
open Go.RowKit Go.Sort

theorem prs_zero (n : Nat) : prs (List.replicate n (0, 0)) = List.replicate (n * 2) (.int .i64 0) := by
  induction n with
  | zero => rfl
  | succ n ih => rw [List.replicate_succ, prs_cons, ih, show (n + 1) * 2 = n * 2 + 1 + 1 by omega, List.replicate_succ, List.replicate_succ]
theorem made_pairs (n : Nat) : (madeCells #[.int .i64 0, .int .i64 0] (n * 2)).toList = prs (List.replicate n (0, 0)) := by
  rw [prs_zero]
  apply List.ext_getElem?
  intro j
  by_cases hj : j < n * 2
  · have h2 : j % 2 = 0 ∨ j % 2 = 1 := by omega
    rcases h2 with h | h <;> simp [madeCells, hj, h]
  · simp [madeCells, hj]
theorem pair_make (n : Nat) (hn : n ≤ 1048576) : ∀ w, (Instr.makeSlice 27 (.int .i64 (n : Int)) (.int .i64 (n : Int))).run Try.prog w = .ok (.slice (some ⟨w.heap.size, 0, none⟩) n n) (w.alloc (.cells (madeCells #[.int .i64 0, .int .i64 0] (n * 2)) 33)) := fun w => by
  obtain ⟨i0, hi, hz0, hz1, hz2⟩ := info_parts pair_info
  have h := run_make (P := Try.prog) w 27 33 i0 (.agg #[.int .i64 0, .int .i64 0]) Try.underlying27 hi hz0 .i64 .i64 n n (by omega) (Int.le_refl _) (by rw [hz2]; omega) (by omega)
  simp only [Int.toNat_natCast, hz1] at h
  exact h
theorem prs_set2 (ps : List Pr) (k : Nat) (t z : Int) (h : k < ps.length) : ((prs ps).set (k * 2) (.int .i64 t)).set (k * 2 + 1) (.int .i64 z) = prs (ps.set k (t, z)) := by
  induction ps generalizing k with
  | nil => cases h
  | cons p ps ih =>
    cases k with
    | zero => rfl
    | succ k =>
      have := ih k (by simpa using h)
      rw [List.set_cons_succ, prs_cons, prs_cons, ← this, show (k + 1) * 2 = k * 2 + 1 + 1 by omega]
      simp

set_option maxHeartbeats 1000000 in
theorem toKnot_at (w : World) (t z : Int) : Calls Try.prog 64 #[.agg #[.int .i64 t, .int .i64 z]] w fun e w' => e = .returned (.agg #[.int .i64 t, .int .i64 z]) ∧ Below w.heap.size w w' := by
  go_enter Try.func64, Try.ntmps64
  go_wp2
  refine bodyPost_ret (v := .agg #[.int .i64 t, .int .i64 z]) (by simp [results, Try.results64, go_sem]) rfl ⟨rfl, ?_⟩
  exact (((Below.refl _ _).alloc (Nat.le_refl _) _).alloc (by simp) _).alloc (by simp; omega) _

set_option maxHeartbeats 4000000 in
theorem toKnotS_at (w : World) (v : Value) (ps : List Pr) (h : ArgP w v ps) (hn : ps.length ≤ 1048576) :
    Calls Try.prog 58 #[v] w fun e w' => e = .returned (.slice (some ⟨w.heap.size, 0, none⟩) ps.length ps.length) ∧ OwnP w' w.heap.size (.slice (some ⟨w.heap.size, 0, none⟩) ps.length ps.length) ps ∧ Below w.heap.size w w' := by
  obtain ⟨x, c, hx⟩ := h.form
  obtain ⟨n, hn'⟩ : ∃ n, n = ps.length := ⟨_, rfl⟩
  have HZ : Hid (∀ i, i < n → ∃ b o, x = some ⟨b, o, none⟩ ∧ b < w.heap.size ∧ w.cell? ⟨b, o + i * 2, none⟩ = some (.int .i64 (pr ps i).1) ∧ w.cell? ⟨b, o + i * 2 + 1, none⟩ = some (.int .i64 (pr ps i).2)) := fun i hi => by
    rw [hx] at h
    exact h.cells i (by rw [← hn']; exact hi)
  have HN := Lib.hid hn'
  rw [← hn'] at hx hn ⊢
  have hmk := pair_make n hn
  have own0 : OwnP (w.alloc (.cells (madeCells #[.int .i64 0, .int .i64 0] (n * 2)) 33)) w.heap.size (.slice (some ⟨w.heap.size, 0, none⟩) n n) (List.replicate n (0, 0)) := by
    have := World.ownsRow_lit (base := w.heap.size) (e := 33) (size := 2) w (madeCells #[.int .i64 0, .int .i64 0] (n * 2)) n (Nat.le_refl _) (by unfold maxLen; omega) (by rw [size_madeCells])
    rw [made_pairs] at this
    unfold OwnP
    rw [List.length_replicate]
    exact this
  have O0 := Lib.hid own0
  subst hx
  clear h hn' own0
  go_enter Try.func58, Try.ntmps58
  go_wp2
  go_loopw [4] (fun i wr => ∃ (k : Nat) (ys : List Pr), k ≤ n ∧ i = .int .i64 k ∧ ys.length = n ∧ (∀ i, i < k → pr ys i = pr ps i) ∧ OwnP wr w.heap.size (.slice (some ⟨w.heap.size, 0, none⟩) n n) ys ∧ Below w.heap.size w wr) (fun i _ => n - (intOf i).toNat)
  case atStart => exact ⟨0, List.replicate n (0, 0), Nat.zero_le _, rfl, by simp, fun _ h => absurd h (Nat.not_lt_zero _), O0.out, (Below.refl _ _).alloc (Nat.le_refl _) _⟩
  case round =>
    obtain ⟨k, ys, hk, rfl, hy, hys, hown, hbl⟩ := hrel
    have HY := Lib.hid hy
    have HYS := Lib.hid hys
    have HB := Lib.hid hbl
    have HO := Lib.hid hown
    clear hy hys hbl hown
    by_cases hlt : k < n
    · obtain ⟨b, o, rfl, hb, h1, h2⟩ := HZ.out k hlt
      rw [← HB.out.cell (p := ⟨b, o + k * 2, none⟩) hb] at h1
      rw [← HB.out.cell (p := ⟨b, o + k * 2 + 1, none⟩) hb] at h2
      obtain ⟨y, hyk⟩ : ∃ y, pr ps k = y := ⟨_, rfl⟩
      rw [hyk] at h1 h2
      have HK := Lib.hid hyk
      obtain ⟨t, z⟩ := y
      simp only at h1 h2
      have k0 : (0 : Int) ≤ (k : Int) := by omega
      have kn : (k : Int) < (n : Int) := by omega
      clear hyk
      go_wp2_with fail
      refine (toKnot_at wr t z).mono ?_
      rintro e w1 ⟨rfl, hb1⟩
      have ho : w1.ownsRow w.heap.size 33 2 (.slice (some ⟨w.heap.size, 0, none⟩) n n) n (prs ys) := by have h := HO.out.below hb1; unfold OwnP at h; rw [HY.out] at h; exact h
      have hl := prs_len ys
      rw [HY.out] at hl
      obtain ⟨u0, hc0⟩ : ∃ u, w1.cell? ⟨w.heap.size, k * 2, none⟩ = some u := by
        rw [ho.cellAt (k * 2) (by omega)]
        exact ⟨_, List.getElem?_eq_getElem (by omega)⟩
      obtain ⟨u1, hc1⟩ : ∃ u, w1.cell? ⟨w.heap.size, k * 2 + 1, none⟩ = some u := by
        rw [ho.cellAt (k * 2 + 1) (by omega)]
        exact ⟨_, List.getElem?_eq_getElem (by omega)⟩
      have hf0 := ho.frozenAt (k * 2)
      have hf1 := ho.frozenAt (k * 2 + 1)
      have hs := ((ho.stored (k * 2) (.int .i64 t)).1.stored (k * 2 + 1) (.int .i64 z)).1
      rw [prs_set2 ys k t z (by rw [HY.out]; exact hlt)] at hs
      have HS := Lib.hid hs
      have B1 := Lib.hid (HB.out.trans (hb1.mono HB.out.size))
      clear hs ho hl hb1 h1 h2
      go_wp2
      go_roundw
      case rel =>
        refine ⟨k + 1, ys.set k (t, z), by omega, by go_num, by simpa using HY.out, fun i hi => ?_, ?_, (B1.out.setCell (Nat.le_refl _) _).setCell (Nat.le_refl _) _⟩
        · by_cases e : i = k
          · subst e
            rw [HK.out]
            simp [pr, HY.out, hlt]
          · have e1 : pr (ys.set k (t, z)) i = pr ys i := by simp [pr, Ne.symm e]
            rw [e1]; exact HYS.out i (by omega)
        · unfold OwnP
          rw [List.length_set, HY.out]
          exact HS.out
      case measure => simp [intOf]; omega
    · obtain rfl : k = n := by omega
      have fin0 : ys = ps := by
        apply List.ext_getElem (by rw [HY.out, HN.out])
        intro i h1 h2
        have := HYS.out i (by rw [← HY.out]; exact h1)
        simpa [pr, h1, h2] using this
      have fin := Lib.hid fin0
      clear fin0
      go_wp2
      go_ret
      refine ⟨rfl, ?_, HB.out⟩
      rw [← fin.out]
      exact HO.out

set_option maxHeartbeats 2000000 in
theorem toRank_at (w : World) (u : Value) (ps : List Pr) (all : Int) (h : ArgP w u ps) (hn : ps.length ≤ 1048576) :
    Calls Try.prog 38 #[.agg #[u, .int .i64 all]] w fun e w' => ∃ g, e = .returned (.agg #[.slice (some ⟨g, 0, none⟩) ps.length ps.length, .int .i64 all]) ∧ OwnP w' w.heap.size (.slice (some ⟨g, 0, none⟩) ps.length ps.length) ps ∧ Below w.heap.size w w' := by
  obtain ⟨W, hW⟩ : ∃ W, W = ((w.alloc (.cells #[u, .int .i64 all] 48)).alloc (.cells #[.slice none 0 0, .int .i64 0] 29)).alloc (.cells #[.slice none 0 0, .int .i64 0] 29) := ⟨_, rfl⟩
  have hA : Below w.heap.size w W := by rw [hW]; exact (((Below.refl _ _).alloc (Nat.le_refl _) _).alloc (by simp) _).alloc (by simp; omega) _
  have sW : W.heap.size = w.heap.size + 3 := by rw [hW]; simp
  have A : Box2 W w.heap.size 48 u (.int .i64 all) := by rw [hW]; exact ((Box2.new w _ _ _).alloc _).alloc _
  have X : Box2 W (w.heap.size + 1) 29 (.slice none 0 0) (.int .i64 0) := by
    rw [hW]
    have := Box2.new (w.alloc (.cells #[u, .int .i64 all] 48)) 29 (.slice none 0 0) (.int .i64 0)
    rw [World.size_alloc] at this
    exact this.alloc _
  have Y : Box2 W (w.heap.size + 1 + 1) 29 (.slice none 0 0) (.int .i64 0) := by
    rw [hW]
    have := Box2.new ((w.alloc (.cells #[u, .int .i64 all] 48)).alloc (.cells #[.slice none 0 0, .int .i64 0] 29)) 29 (.slice none 0 0) (.int .i64 0)
    rw [World.size_alloc, World.size_alloc] at this
    exact this
  have K := Lib.hid (toKnotS_at W u ps (h.below hA (Nat.le_refl _)) hn)
  obtain ⟨x, c, hx⟩ := h.form
  obtain ⟨n, hn'⟩ : ∃ n, n = ps.length := ⟨_, rfl⟩
  rw [← hn'] at hx K hn ⊢
  subst hx
  have HA := Lib.hid hA
  have HS := Lib.hid sW
  clear h hn' hA sW
  go_enter Try.func38, Try.ntmps38
  go_wp2_with fail
  rw [← hW]
  clear hW
  refine K.out.mono ?_
  rintro e w1 ⟨rfl, ho, hb1⟩
  have A1 := A.later hb1
  have X1 := X.later hb1
  have Y1 := Y.later hb1
  have L1 := Lib.hid (HA.out.trans (hb1.mono HA.out.size))
  rw [HS.out] at ho ⊢
  clear hb1 A X Y
  -- the copy, filled field by field
  have gy := (grownBy_setCell w1 ⟨w.heap.size + 1 + 1, 0, none⟩ (.slice (some ⟨w.heap.size + 3, 0, none⟩) n n)).trans (grownBy_setCell _ ⟨w.heap.size + 1 + 1, 1, none⟩ (.int .i64 all))
  have Yb := Y1.set (.slice (some ⟨w.heap.size + 3, 0, none⟩) n n) (.int .i64 all)
  have Xb := X1.kept gy (by simp)
  have o1 := ho.set2 (b := w.heap.size + 1 + 1) (Y1.not_row (by decide) ho) (.slice (some ⟨w.heap.size + 3, 0, none⟩) n n) (.int .i64 all)
  have o2 := Lib.hid ((o1.set2 (b := w.heap.size + 1) (Xb.not_row (by decide) o1) (.slice (some ⟨w.heap.size + 3, 0, none⟩) n n) (.int .i64 all)).base (B' := w.heap.size) (by omega))
  have L2 := Lib.hid (below_set2 (b := w.heap.size + 1) (below_set2 (b := w.heap.size + 1 + 1) L1.out (by omega) (.slice (some ⟨w.heap.size + 3, 0, none⟩) n n) (.int .i64 all)) (by omega) (.slice (some ⟨w.heap.size + 3, 0, none⟩) n n) (.int .i64 all))
  have Xc := Xb.set (.slice (some ⟨w.heap.size + 3, 0, none⟩) n n) (.int .i64 all)
  have a0 := A1.cell0
  have a1 := A1.cell1
  have y0 := Y1.cell0
  have y1 := Y1.cell1
  have yf := Y1.free
  have yb0 := Yb.cell0
  have yb1 := Yb.cell1
  have xb0 := Xb.cell0
  have xb1 := Xb.cell1
  have xbf := Xb.free
  have xc0 := Xc.cell0
  have xc1 := Xc.cell1
  clear A1 X1 Y1 gy Yb Xb Xc o1 ho K
  go_wp2
  exact bodyPost_ret (v := .agg #[.slice (some ⟨w.heap.size + 3, 0, none⟩) n n, .int .i64 all]) (by simp [results, Try.results38, go_sem, xc0, xc1]) rfl ⟨_, rfl, o2.out, L2.out⟩

end Go.Proofs.Ytnpcgbjkahpcfaa
