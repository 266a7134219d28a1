/-
  What was counted most, drawn: alone, with a thing, and of two.
-/
import Derived.Test.YtmlimjdmnonmpaaTDraw
namespace Go.Proofs.Ytmlimjdmnonmpaa
open Go.RowKit Go.Sort

theorem bts_alloc' {w : World} {v : Value} {n : Nat} (h : Bts w w.heap.size v n) (o : Obj) : Bts (w.alloc o) (w.alloc o).heap.size v n := bts_below h ((Below.refl _ _).alloc (Nat.le_refl _) o)

theorem OwnP.drew {w : World} {B : Nat} {v : Value} {ps : List Pr} (h : OwnP w B v ps) : OwnP w.drew B v ps := World.ownsRow.drew h

/-- A drawn one, of the call's own. -/
structure DrT (w w' : World) (v : Value) (lost all : Int) (ps : List Pr) : Prop where
  own : OwnP w' w.heap.size v ps
  len : ps.length ≤ 7
  lo : 0 ≤ lost ∧ lost ≤ 300000
  al : -10 ≤ all ∧ all ≤ 2010
  below : Below w.heap.size w w'

set_option maxHeartbeats 2000000 in
theorem drawTAdd_at (w : World) (v : Value) (n : Nat) (h : ∃ x cap, v = .slice x n cap) (hb : Bts w w.heap.size v n) :
    Calls Try.prog 14 #[v] w fun e w' => ∃ u lost all t, e = .returned (.tuple #[.agg #[u, .int .i64 lost, .int .i64 all], .int .i64 t]) ∧ (-1 ≤ t ∧ t ≤ 64) ∧ ∃ ps, DrT w w' u lost all ps := by
  have hA := (Below.refl w.heap.size w).alloc (Nat.le_refl _) (.cells #[.slice none 0 0, .int .i64 0, .int .i64 0] 25)
  have K := Lib.hid (open_rd _ v n h (bts_alloc' hb (.cells #[.slice none 0 0, .int .i64 0, .int .i64 0] 25)))
  have HA := Lib.hid hA
  have R0 := Box3.new w 25 (.slice none 0 0) (.int .i64 0) (.int .i64 0)
  clear h hb hA
  go_enter Try.func14, Try.ntmps14
  go_wp2_with fail
  refine K.out.mono ?_
  rintro e w1 ⟨rfl, hr1, hb1⟩
  have R1 := R0.later hb1
  have L1 := Lib.hid (HA.out.trans (hb1.mono HA.out.size))
  have RD1 := Lib.hid hr1
  clear hb1 hr1 R0
  simp only [World.size_alloc] at RD1 ⊢
  go_wp2_with fail
  refine (top_at w1 (w.heap.size + 1) 0 RD1.out (by omega) (by omega)).mono ?_
  rintro e w2 ⟨u, lost, all, rfl, ps, q, own, len, lo, al, q0, q1, hr2, hE⟩
  have R2 := R1.kept hE (by simp)
  have l1 : w.heap.size + 1 < w1.heap.size := RD1.out.lt
  have L2 := Lib.hid (L1.out.trans (below_grown hE (by omega) L1.out.size))
  have HO := Lib.hid own
  have RD2 := Lib.hid hr2
  obtain ⟨x, c, rfl, _, _⟩ := own.form
  clear hE own hr2 R1
  obtain ⟨m, hm⟩ : ∃ m, m = ps.length := ⟨_, rfl⟩
  rw [← hm] at HO ⊢
  have HM := Lib.hid hm
  clear hm
  go_wp2_with fail
  refine (thing_at w2 (w.heap.size + 1) q RD2.out (by omega) (by omega)).mono ?_
  rintro e w3 ⟨t, _, rfl, t0, t1, _, _, _, hg⟩
  have R3 := R2.kept hg (by simp)
  have L3 := Lib.hid (L2.out.trans (below_grown hg (by omega) L2.out.size))
  have O3 := HO.out.kept hg (fun k e => by cases e; omega)
  have ho := Lib.hid ((O3.set3 (b := w.heap.size) (R3.not_row (by decide) O3) (.slice x m c) (.int .i64 lost) (.int .i64 all)).base (B' := w.heap.size) (by omega))
  have hl := Lib.hid (below_set3 (b := w.heap.size) L3.out (Nat.le_refl _) (.slice x m c) (.int .i64 lost) (.int .i64 all))
  have RZ := R3.set (.slice x m c) (.int .i64 lost) (.int .i64 all)
  have y0 := R3.cell0
  have y1 := R3.cell1
  have y2 := R3.cell2
  have fr := R3.free
  have hr0 := RZ.cell0
  have hr1 := RZ.cell1
  have hr2 := RZ.cell2
  clear RZ R2 R3 O3 hg L3
  go_wp2
  exact bodyPost_ret (v := .tuple #[.agg #[.slice x m c, .int .i64 lost, .int .i64 all], .int .i64 t]) (by simp [results, Try.results14, go_sem, hr0, hr1, hr2]) rfl ⟨_, lost, all, t, rfl, ⟨t0, t1⟩, ps, ho.out, by omega, lo, by omega, hl.out⟩

set_option maxHeartbeats 2000000 in
theorem drawTGet_at (w : World) (v : Value) (n : Nat) (h : ∃ x cap, v = .slice x n cap) (hb : Bts w w.heap.size v n) :
    Calls Try.prog 19 #[v] w fun e w' => ∃ u lost all t, e = .returned (.tuple #[.agg #[u, .int .i64 lost, .int .i64 all], .int .i64 t]) ∧ (-1 ≤ t ∧ t ≤ 64) ∧ ∃ ps, DrT w w' u lost all ps := by
  have hA := (Below.refl w.heap.size w).alloc (Nat.le_refl _) (.cells #[.slice none 0 0, .int .i64 0, .int .i64 0] 25)
  have K := Lib.hid (drawTAdd_at _ v n h (bts_alloc' hb (.cells #[.slice none 0 0, .int .i64 0, .int .i64 0] 25)))
  have HA := Lib.hid hA
  have R0 := Box3.new w 25 (.slice none 0 0) (.int .i64 0) (.int .i64 0)
  clear h hb hA
  go_enter Try.func19, Try.ntmps19
  go_wp2_with fail
  refine K.out.mono ?_
  rintro e w1 ⟨u, lost, all, t, rfl, ht, ps, own, len, lo, al, hb1⟩
  have R1 := R0.later hb1
  have L1 := Lib.hid (HA.out.trans (hb1.mono HA.out.size))
  obtain ⟨x, c, rfl, _, _⟩ := own.form
  obtain ⟨m, hm⟩ : ∃ m, m = ps.length := ⟨_, rfl⟩
  rw [← hm] at own ⊢
  have HM := Lib.hid hm
  have ho := Lib.hid ((own.set3 (b := w.heap.size) (R1.not_row (by decide) own) (.slice x m c) (.int .i64 lost) (.int .i64 all)).base (B' := w.heap.size) (by simp))
  have hl := Lib.hid (below_set3 (b := w.heap.size) L1.out (Nat.le_refl _) (.slice x m c) (.int .i64 lost) (.int .i64 all))
  have RZ := R1.set (.slice x m c) (.int .i64 lost) (.int .i64 all)
  have y0 := R1.cell0
  have y1 := R1.cell1
  have y2 := R1.cell2
  have fr := R1.free
  have hr0 := RZ.cell0
  have hr1 := RZ.cell1
  have hr2 := RZ.cell2
  clear RZ R1 R0 own hb1 hm
  go_wp2
  exact bodyPost_ret (v := .tuple #[.agg #[.slice x m c, .int .i64 lost, .int .i64 all], .int .i64 t]) (by simp [results, Try.results19, go_sem, hr0, hr1, hr2]) rfl ⟨_, lost, all, t, rfl, ht, ps, ho.out, len, lo, al, hl.out⟩

set_option maxHeartbeats 4000000 in
theorem drawTOk_at (w : World) (v : Value) (n : Nat) (h : ∃ x cap, v = .slice x n cap) (hb : Bts w w.heap.size v n) :
    Calls Try.prog 11 #[v] w fun e w' => ∃ u lost all, e = .returned (.agg #[u, .int .i64 lost, .int .i64 all]) ∧ ∃ ps, DrT w w' u lost all ps := by
  obtain ⟨i0, hi, hz0, hz1, hz2⟩ := info_parts pair_info
  have hA := (Below.refl w.heap.size w).alloc (Nat.le_refl _) (.cells #[.slice none 0 0, .int .i64 0, .int .i64 0] 25)
  have K := Lib.hid (open_rd _ v n h (bts_alloc' hb (.cells #[.slice none 0 0, .int .i64 0, .int .i64 0] 25)))
  have HA := Lib.hid hA
  have R0 := Box3.new w 25 (.slice none 0 0) (.int .i64 0) (.int .i64 0)
  clear h hb hA
  go_enter Try.func11, Try.ntmps11
  go_wp2_with fail
  refine K.out.mono ?_
  rintro e w1 ⟨rfl, hr1, hb1⟩
  have R1 := R0.later hb1
  have L1 := Lib.hid (HA.out.trans (hb1.mono HA.out.size))
  have RD1 := Lib.hid hr1
  clear hb1 hr1 R0
  simp only [World.size_alloc] at RD1 ⊢
  go_wp2_with fail
  refine (top_at w1 (w.heap.size + 1) 0 RD1.out (by omega) (by omega)).mono ?_
  rintro e w2 ⟨u, lost, all, rfl, ps, q, own, len, lo, al, q0, q1, hr2, hE⟩
  have l1 : w.heap.size + 1 < w1.heap.size := RD1.out.lt
  obtain ⟨x, c, rfl, _, _⟩ := own.form
  obtain ⟨m, hm⟩ : ∃ m, m = ps.length := ⟨_, rfl⟩
  rw [← hm] at own ⊢
  have HM := Lib.hid hm
  have m6 : m ≤ 6 := by omega
  have s2 : w1.heap.size ≤ w2.heap.size := hE.size
  -- the box of what was drawn
  obtain ⟨W, hW⟩ : ∃ W, W = w2.alloc (.cells #[.slice x m c, .int .i64 lost, .int .i64 all] 25) := ⟨_, rfl⟩
  have R2 : Hid (Box3 W w.heap.size 25 (.slice none 0 0) (.int .i64 0) (.int .i64 0)) := by show Box3 _ _ _ _ _ _; rw [hW]; exact (R1.kept hE (by simp)).alloc _
  have L2 : Hid (Below w.heap.size w W) := by show Below _ _ _; rw [hW]; exact (L1.out.trans (below_grown hE (by omega) L1.out.size)).alloc (by have := L1.out.size; omega) _
  have X2 : Hid (Box3 W w2.heap.size 25 (.slice x m c) (.int .i64 lost) (.int .i64 all)) := by show Box3 _ _ _ _ _ _; rw [hW]; exact Box3.new _ _ _ _ _
  have HO : Hid (OwnP W (w.heap.size + 2) (.slice x m c) ps) := by show OwnP _ _ _ _; rw [hW]; exact (own.alloc _).base (by omega)
  have RD2 : Hid (Rd W (w.heap.size + 1) q) := by show Rd _ _ _; rw [hW]; exact hr2.alloc _
  clear hE own hr2 R1 hm
  go_wp2_with fail
  rw [← hW]
  have HW := Lib.hid hW
  clear hW
  go_wp2_with fail
  refine (pick_at W (w.heap.size + 1) q 4 RD2.out (by omega) (by omega) (by omega) (by omega)).mono ?_
  rintro e w3 ⟨k, rfl, k0, k1, hr3, hg3⟩
  have hlt2 : w.heap.size + 1 < w2.heap.size := by omega
  have R3 := Lib.hid (R2.out.kept hg3 (by simp))
  have X3 := Lib.hid (X2.out.kept hg3 (by simp; omega))
  have O3 := Lib.hid (HO.out.kept hg3 (fun k e => by cases e; omega))
  have L3 := Lib.hid (L2.out.trans (below_grown hg3 (by omega) L2.out.size))
  have RD3 := Lib.hid hr3
  clear hr3 hg3 R2 X2 HO L2 RD2
  -- the end: what lies in the box is handed back
  have END : Hid (∀ (W' : World) (u' : Value) (all' : Int) (ps' : List Pr), Box3 W' w.heap.size 25 (.slice none 0 0) (.int .i64 0) (.int .i64 0) → OwnP W' (w.heap.size + 2) u' ps' → ps'.length ≤ 7 → -10 ≤ all' ∧ all' ≤ 2010 → Below w.heap.size w W' →
      DrT w (((W'.setCell ⟨w.heap.size, 0, none⟩ u').setCell ⟨w.heap.size, 1, none⟩ (.int .i64 lost)).setCell ⟨w.heap.size, 2, none⟩ (.int .i64 all')) u' lost all' ps') := fun W' u' all' ps' h1 h2 h3 h4 h5 =>
    ⟨(h2.set3 (b := w.heap.size) (h1.not_row (by decide) h2) u' (.int .i64 lost) (.int .i64 all')).base (by omega), h3, lo, h4, below_set3 (b := w.heap.size) h5 (Nat.le_refl _) _ _ _⟩
  rcases (by omega : k = 0 ∨ k = 1 ∨ 2 ≤ k) with rfl | rfl | hk
  · clear k0 k1
    have x2 := X3.out.cell2
    have RDD : Hid (Rd w3.drew (w.heap.size + 1) (q + 1)) := RD3.out.drew
    go_wp2_with fail
    go_region_with (first
      | (go_at_call 31; (with_reducible refine (pick_at _ (w.heap.size + 1) (q + 1) 3 RDD.out (by omega) (by omega) (by omega) (by omega)).mono ?_); rintro e w4 ⟨k3, rfl, k30, k31, hr4, hg4⟩; have X4 := X3.out.drew.kept hg4 (by simp; omega); have v2 := X4.cell2; have fv := X4.free; have ws : IntKind.i64.wrap (all + k3) = all + k3 := (IntWalk.i64_in _ (by omega)); have ws2 : IntKind.i64.wrap (all + k3 - 1) = all + k3 - 1 := (IntWalk.i64_in _ (by omega))))
    all_goals
      have gA := grownBy_setCell w4 ⟨w2.heap.size, 2, none⟩ (.int .i64 (all + k3 - 1))
      have XA := X4.set2 (.int .i64 (all + k3 - 1))
      have R4 := (R3.out.drew.kept hg4 (by simp)).kept gA (by simp; omega)
      have O40 := O3.out.drew.kept hg4 (fun k e => by cases e; omega)
      have O4 := O40.keep gA (X4.not_row (by decide) O40)
      have L4 : Below w.heap.size w w4 := L3.out.trans (below_grown (grownBy_of_drew hg4) (by omega) L3.out.size)
      have FIN := Lib.hid (END.out _ _ (all + k3 - 1) ps R4 O4 (by omega) (by omega) (L4.setCell (by show _ ≤ w2.heap.size; omega) _))
      have RZ := R4.set (.slice x m c) (.int .i64 lost) (.int .i64 (all + k3 - 1))
      have y0 := XA.cell0
      have y1 := XA.cell1
      have y2 := XA.cell2
      have s0 := R4.cell0
      have s1 := R4.cell1
      have s2 := R4.cell2
      have fs := R4.free
      have hr0 := RZ.cell0
      have hr1 := RZ.cell1
      have hr2 := RZ.cell2
      clear RZ XA R4 O40 O4 gA L4 X4 v2 fv hg4 hr4 ws ws2 x2
      go_wp2
      exact bodyPost_ret (v := .agg #[.slice x m c, .int .i64 lost, .int .i64 (all + k3 - 1)]) (by simp [results, Try.results11, go_sem, hr0, hr1, hr2]) rfl ⟨_, _, _, rfl, ps, FIN.out⟩
  · clear k0 k1
    have ho3 : w3.ownsRow (w.heap.size + 2) 29 2 (.slice x m c) m (prs ps) := by have h := O3.out; unfold OwnP at h; rw [← HM.out] at h; exact h
    have HO3 := Lib.hid ho3
    have x0 := X3.out.cell0
    have sz3 : w.heap.size + 2 ≤ w3.heap.size := by have := X3.out.lt; omega
    clear ho3
    go_wp2_with (first | (at_builtin; refine wpList_append_own _ rfl _ _ 23 rfl (w.heap.size + 2) 29 i0 (.agg #[.int .i64 0, .int .i64 0]) 2 16 Try.underlying23 hi hz0 hz1 hz2 rfl (by decide) _ _ _ rfl (HO3.out.alloc _) ⟨w3.heap.size, 0, none⟩ 1 1 [.int .i64 2, .int .i64 1] rfl rfl (cell_two_new _ _ _ _) (by simp [Value.oneCell']) (by unfold maxLen; omega) (by omega) (by simp; omega) ?_; intro v1 w4 ho1 hg1 _; obtain ⟨g_v1, c_v1, rfl, _, _⟩ := World.ownsRow.form ho1 (Nat.succ_pos _); have X4 := (X3.out.alloc (.cells #[.int .i64 2, .int .i64 1] 29)).kept hg1 (X3.out.not_row (by decide) HO3.out); have R4 := (R3.out.alloc (.cells #[.int .i64 2, .int .i64 1] 29)).kept hg1 (R3.out.not_row (by decide) HO3.out); have v0 := X4.cell0; have v1 := X4.cell1; have v2 := X4.cell2; have fv := X4.free; have gA := grownBy_setCell w4 ⟨w2.heap.size, 0, none⟩ (.slice (some ⟨g_v1, 0, none⟩) (m + 1) c_v1); have XA := X4.set0 (.slice (some ⟨g_v1, 0, none⟩) (m + 1) c_v1); have R5 := R4.kept gA (by simp; omega); have y0 := XA.cell0; have y1 := XA.cell1; have y2 := XA.cell2; have s0 := R5.cell0; have s1 := R5.cell1; have s2 := R5.cell2; have fs := R5.free))
    have o1 := own_snocP ho1 HM.out
    have L4 := below_appendP (L3.out) (by omega) (ownsRow_base HO3.out (Nat.le_add_right _ 2)) hg1
    have FIN := Lib.hid (END.out _ _ all (ps ++ [(2, 1)]) R5 (o1.keep gA (X4.not_row (by decide) o1)) (by simp; have := HM.out; omega) (by omega) (L4.setCell (by show _ ≤ w2.heap.size; omega) _))
    have RZ := R5.set (.slice (some ⟨g_v1, 0, none⟩) (m + 1) c_v1) (.int .i64 lost) (.int .i64 all)
    have hr0 := RZ.cell0
    have hr1 := RZ.cell1
    have hr2 := RZ.cell2
    exact bodyPost_ret (v := .agg #[.slice (some ⟨g_v1, 0, none⟩) (m + 1) c_v1, .int .i64 lost, .int .i64 all]) (by simp [results, Try.results11, go_sem, hr0, hr1, hr2]) rfl ⟨_, _, _, rfl, _, FIN.out⟩
  · have e0 : (k == 0) = false := by simp; omega
    have e1 : (k == 1) = false := by simp; omega
    have FIN := Lib.hid (END.out _ _ all ps R3.out O3.out (by omega) (by omega) L3.out)
    have RZ := R3.out.set (.slice x m c) (.int .i64 lost) (.int .i64 all)
    have y0 := X3.out.cell0
    have y1 := X3.out.cell1
    have y2 := X3.out.cell2
    have s0 := R3.out.cell0
    have s1 := R3.out.cell1
    have s2 := R3.out.cell2
    have fs := R3.out.free
    have hr0 := RZ.cell0
    have hr1 := RZ.cell1
    have hr2 := RZ.cell2
    clear RZ
    go_wp2
    exact bodyPost_ret (v := .agg #[.slice x m c, .int .i64 lost, .int .i64 all]) (by simp [results, Try.results11, go_sem, hr0, hr1, hr2]) rfl ⟨_, _, _, rfl, ps, FIN.out⟩

end Go.Proofs.Ytmlimjdmnonmpaa
