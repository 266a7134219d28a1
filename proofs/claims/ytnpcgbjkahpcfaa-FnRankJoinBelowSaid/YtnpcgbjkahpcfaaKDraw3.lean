/-
  Knots, drawn: alone, and of two.
-/
import Derived.Test.YtnpcgbjkahpcfaaKDraw2
namespace Go.Proofs.Ytnpcgbjkahpcfaa
open Go.RowKit Go.Sort

set_option maxHeartbeats 4000000 in
theorem drawKOk_at (w : World) (v : Value) (n : Nat) (h : ∃ x cap, v = .slice x n cap) (hb : Bts w w.heap.size v n) :
    Calls Try.prog 21 #[v] w fun e w' => ∃ u all, e = .returned (.agg #[u, .int .i64 all]) ∧ ∃ ps, DrK w w' u all ps := by
  have hA := (Below.refl w.heap.size w).alloc (Nat.le_refl _) (.cells #[.slice none 0 0, .int .i64 0] 29)
  have K := Lib.hid (open_rd _ v n h (bts_alloc' hb (.cells #[.slice none 0 0, .int .i64 0] 29)))
  have HA := Lib.hid hA
  have R0 := Box2.new w 29 (.slice none 0 0) (.int .i64 0)
  clear h hb hA
  go_enter Try.func21, Try.ntmps21
  go_wp2_with fail
  refine K.out.mono ?_
  rintro e w1 ⟨rfl, hr1, hb1⟩
  have R1 := R0.later hb1
  have L1 := Lib.hid (HA.out.trans (hb1.mono HA.out.size))
  have RD1 := Lib.hid hr1
  clear hb1 hr1 R0
  simp only [World.size_alloc] at RD1 ⊢
  go_wp2_with fail
  refine (rank_at w1 (w.heap.size + 1) 0 RD1.out (by omega) (by omega)).mono ?_
  rintro e w2 ⟨u, all, rfl, ps, q, own, len, al, q0, q1, hr2, hE⟩
  have l1 : w.heap.size + 1 < w1.heap.size := RD1.out.lt
  obtain ⟨x, c, rfl, _, _⟩ := own.form
  obtain ⟨m, hm⟩ : ∃ m, m = ps.length := ⟨_, rfl⟩
  rw [← hm] at own ⊢
  have HM := Lib.hid hm
  have m6 : m ≤ 128 := by omega
  have s2 : w1.heap.size ≤ w2.heap.size := hE.size
  -- the box of what was drawn
  obtain ⟨W, hW⟩ : ∃ W, W = w2.alloc (.cells #[.slice x m c, .int .i64 all] 29) := ⟨_, rfl⟩
  have R2 : Hid (Box2 W w.heap.size 29 (.slice none 0 0) (.int .i64 0)) := by show Box2 _ _ _ _ _; rw [hW]; exact (R1.kept hE (by simp)).alloc _
  have L2 : Hid (Below w.heap.size w W) := by show Below _ _ _; rw [hW]; exact (L1.out.trans (below_grown hE (by omega) L1.out.size)).alloc (by have := L1.out.size; omega) _
  have X2 : Hid (Box2 W w2.heap.size 29 (.slice x m c) (.int .i64 all)) := by show Box2 _ _ _ _ _; rw [hW]; exact Box2.new _ _ _ _
  have HO : Hid (OwnP W (w.heap.size + 2) (.slice x m c) ps) := by show OwnP _ _ _ _; rw [hW]; exact (own.alloc _).base (by omega)
  have RD2 : Hid (Rd W (w.heap.size + 1) q) := by show Rd _ _ _; rw [hW]; exact hr2.alloc _
  clear hE own hr2 R1 hm
  go_wp2_with fail
  rw [← hW]
  have HW := Lib.hid hW
  clear hW
  go_wp2_with fail
  refine (pick_at W (w.heap.size + 1) q 3 RD2.out (by omega) (by omega) (by omega) (by omega)).mono ?_
  rintro e w3 ⟨k, rfl, k0, k1, hr3, hg3⟩
  have hlt2 : w.heap.size + 1 < w2.heap.size := by omega
  have R3 := Lib.hid (R2.out.kept hg3 (by simp))
  have X3 := Lib.hid (X2.out.kept hg3 (by simp; omega))
  have O3 := Lib.hid (HO.out.kept hg3 (fun k e => by cases e; omega))
  have L3 := Lib.hid (L2.out.trans (below_grown hg3 (by omega) L2.out.size))
  have RD3 := Lib.hid hr3
  clear hr3 hg3 R2 X2 HO L2 RD2
  -- the end: what lies in the box is handed back
  have END : Hid (∀ (W' : World) (u' : Value) (all' : Int) (ps' : List Pr), Box2 W' w.heap.size 29 (.slice none 0 0) (.int .i64 0) → OwnP W' (w.heap.size + 2) u' ps' → ps'.length ≤ 130 → -10 ≤ all' ∧ all' ≤ 2010 → Below w.heap.size w W' →
      DrK w ((W'.setCell ⟨w.heap.size, 0, none⟩ u').setCell ⟨w.heap.size, 1, none⟩ (.int .i64 all')) u' all' ps') := fun W' u' all' ps' h1 h2 h3 h4 h5 =>
    ⟨(h2.set2 (b := w.heap.size) (h1.not_row (by decide) h2) u' (.int .i64 all')).base (by omega), h3, h4, below_set2 (b := w.heap.size) h5 (Nat.le_refl _) _ _⟩
  rcases (by omega : k = 0 ∨ 1 ≤ k) with rfl | hk
  · clear k0 k1
    have x1 := X3.out.cell1
    have RDD : Hid (Rd w3.drew (w.heap.size + 1) (q + 1)) := RD3.out.drew
    go_wp2_with fail
    go_region_with (first
      | (go_at_call 43; (with_reducible refine (pick_at _ (w.heap.size + 1) (q + 1) 3 RDD.out (by omega) (by omega) (by omega) (by omega)).mono ?_); rintro e w4 ⟨k3, rfl, k30, k31, hr4, hg4⟩; have X4 := X3.out.drew.kept hg4 (by simp; omega); have v1 := X4.cell1; have fv := X4.free; have ws : IntKind.i64.wrap (all + k3) = all + k3 := (IntWalk.i64_in _ (by omega)); have ws2 : IntKind.i64.wrap (all + k3 - 1) = all + k3 - 1 := (IntWalk.i64_in _ (by omega))))
    all_goals
      have gA := grownBy_setCell w4 ⟨w2.heap.size, 1, none⟩ (.int .i64 (all + k3 - 1))
      have XA := X4.set1 (.int .i64 (all + k3 - 1))
      have R4 := (R3.out.drew.kept hg4 (by simp)).kept gA (by simp; omega)
      have O40 := O3.out.drew.kept hg4 (fun k e => by cases e; omega)
      have O4 := O40.keep gA (X4.not_row (by decide) O40)
      have L4 : Below w.heap.size w w4 := L3.out.trans (below_grown (grownBy_of_drew hg4) (by omega) L3.out.size)
      have FIN := Lib.hid (END.out _ _ (all + k3 - 1) ps R4 O4 (by omega) (by omega) (L4.setCell (by show _ ≤ w2.heap.size; omega) _))
      have RZ := R4.set (.slice x m c) (.int .i64 (all + k3 - 1))
      have y0 := XA.cell0
      have y1 := XA.cell1
      have s0 := R4.cell0
      have s1 := R4.cell1
      have fs := R4.free
      have hr0 := RZ.cell0
      have hr1 := RZ.cell1
      clear RZ XA R4 O40 O4 gA L4 X4 v1 fv hg4 hr4 ws ws2 x1
      go_wp2
      exact bodyPost_ret (v := .agg #[.slice x m c, .int .i64 (all + k3 - 1)]) (by simp [results, Try.results21, go_sem, hr0, hr1]) rfl ⟨_, _, rfl, ps, FIN.out⟩
  · have e0 : (k == 0) = false := by simp; omega
    have FIN := Lib.hid (END.out _ _ all ps R3.out O3.out (by omega) (by omega) L3.out)
    have RZ := R3.out.set (.slice x m c) (.int .i64 all)
    have y0 := X3.out.cell0
    have y1 := X3.out.cell1
    have s0 := R3.out.cell0
    have s1 := R3.out.cell1
    have fs := R3.out.free
    have hr0 := RZ.cell0
    have hr1 := RZ.cell1
    clear RZ
    go_wp2
    exact bodyPost_ret (v := .agg #[.slice x m c, .int .i64 all]) (by simp [results, Try.results21, go_sem, hr0, hr1]) rfl ⟨_, _, rfl, ps, FIN.out⟩

/-- One of two drawn, behind a call that began at block B. -/
structure DrO (w' : World) (B : Nat) (v : Value) (all : Int) (ps : List Pr) : Prop where
  own : OwnP w' B v ps
  len : ps.length ≤ 130
  al : -10 ≤ all ∧ all ≤ 2010

set_option maxHeartbeats 4000000 in
theorem drawKJoin_at (w : World) (v : Value) (n : Nat) (h : ∃ x cap, v = .slice x n cap) (hb : Bts w w.heap.size v n) :
    Calls Try.prog 34 #[v] w fun e w' => ∃ u aa u' ab, e = .returned (.tuple #[.agg #[u, .int .i64 aa], .agg #[u', .int .i64 ab]]) ∧ ∃ ps qs, DrO w' w.heap.size u aa ps ∧ DrO w' w.heap.size u' ab qs ∧ Below w.heap.size w w' := by
  obtain ⟨W, hW⟩ : ∃ W, W = (w.alloc (.cells #[.slice none 0 0, .int .i64 0] 29)).alloc (.cells #[.slice none 0 0, .int .i64 0] 29) := ⟨_, rfl⟩
  have hA : Below w.heap.size w W := by rw [hW]; exact ((Below.refl _ _).alloc (Nat.le_refl _) _).alloc (by simp) _
  have sW : W.heap.size = w.heap.size + 2 := by rw [hW]; simp
  have X : Box2 W w.heap.size 29 (.slice none 0 0) (.int .i64 0) := by rw [hW]; exact (Box2.new w _ _ _).alloc _
  have Y : Box2 W (w.heap.size + 1) 29 (.slice none 0 0) (.int .i64 0) := by rw [hW]; have := Box2.new (w.alloc (.cells #[.slice none 0 0, .int .i64 0] 29)) 29 (.slice none 0 0) (.int .i64 0); rwa [World.size_alloc] at this
  have K := Lib.hid (open_rd W v n h (by rw [hW]; exact bts_alloc' (bts_alloc' hb _) _))
  have HA := Lib.hid hA
  have HS := Lib.hid sW
  clear h hb hA sW
  go_enter Try.func34, Try.ntmps34
  go_wp2_with fail
  rw [← hW]
  clear hW
  go_wp2_with fail
  refine K.out.mono ?_
  rintro e w1 ⟨rfl, hr1, hb1⟩
  have X1 := X.later hb1
  have Y1 := Y.later hb1
  have L1 := Lib.hid (HA.out.trans (hb1.mono HA.out.size))
  have RD1 := Lib.hid hr1
  clear hb1 hr1 X Y
  have E := HS.out
  rw [E] at RD1 ⊢
  clear E
  go_wp2_with fail
  refine (rank_at w1 (w.heap.size + 2) 0 RD1.out (by omega) (by omega)).mono ?_
  rintro e w2 ⟨u, aa, rfl, ps, q, own, len, al, q0, q1, hr2, hE⟩
  have X2 := X1.kept hE (by simp)
  have Y2 := Y1.kept hE (by simp)
  have l1 : w.heap.size + 2 < w1.heap.size := RD1.out.lt
  have L2 := Lib.hid (L1.out.trans (below_grown hE (by omega) L1.out.size))
  have HO := Lib.hid own
  have RD2 := Lib.hid hr2
  obtain ⟨x, c, rfl, _, _⟩ := own.form
  obtain ⟨m, hm⟩ : ∃ m, m = ps.length := ⟨_, rfl⟩
  rw [← hm] at HO ⊢
  have HM := Lib.hid hm
  clear hE own hr2 X1 Y1 hm
  go_wp2_with fail
  refine (rank_at w2 (w.heap.size + 2) q RD2.out (by omega) (by omega)).mono ?_
  rintro e w3 ⟨u', ab, rfl, qs, r, own', len', al', r0, r1, hr3, hE⟩
  have X3 := X2.kept hE (by simp)
  have Y3 := Y2.kept hE (by simp)
  have L3 := Lib.hid (L2.out.trans (below_grown hE (by omega) L2.out.size))
  obtain ⟨y, d, rfl, _, _⟩ := own'.form
  obtain ⟨k, hk⟩ : ∃ k, k = qs.length := ⟨_, rfl⟩
  have O3 := HO.out.kept hE (fun k e => by cases e; omega)
  rw [← hk] at own' ⊢
  have HK := Lib.hid hk
  have l2 : w.heap.size + 2 < w2.heap.size := RD2.out.lt
  have oa := O3.set2 (b := w.heap.size) (X3.not_row (by decide) O3) (.slice x m c) (.int .i64 aa)
  have Xa := X3.set (.slice x m c) (.int .i64 aa)
  have gx := (grownBy_setCell w3 ⟨w.heap.size, 0, none⟩ (.slice x m c)).trans (grownBy_setCell _ ⟨w.heap.size, 1, none⟩ (.int .i64 aa))
  have Ya := Y3.kept gx (by simp)
  have ob := own'.set2 (b := w.heap.size) (X3.not_row (by decide) own') (.slice x m c) (.int .i64 aa)
  have oa2 := Lib.hid ((oa.set2 (b := w.heap.size + 1) (Ya.not_row (by decide) oa) (.slice y k d) (.int .i64 ab)).base (B' := w.heap.size) (by omega))
  have ob2 := Lib.hid ((ob.set2 (b := w.heap.size + 1) (Ya.not_row (by decide) ob) (.slice y k d) (.int .i64 ab)).base (B' := w.heap.size) (by omega))
  have hl := Lib.hid (below_set2 (b := w.heap.size + 1) (below_set2 (b := w.heap.size) L3.out (Nat.le_refl _) (.slice x m c) (.int .i64 aa)) (by omega) (.slice y k d) (.int .i64 ab))
  have Yb := Ya.set (.slice y k d) (.int .i64 ab)
  have gy := (grownBy_setCell ((w3.setCell ⟨w.heap.size, 0, none⟩ (.slice x m c)).setCell ⟨w.heap.size, 1, none⟩ (.int .i64 aa)) ⟨w.heap.size + 1, 0, none⟩ (.slice y k d)).trans (grownBy_setCell _ ⟨w.heap.size + 1, 1, none⟩ (.int .i64 ab))
  have Xb := Xa.kept gy (by simp)
  have s0 := X3.cell0
  have s1 := X3.cell1
  have sf := X3.free
  have z0 := Y3.cell0
  have z1 := Y3.cell1
  have zf := Y3.free
  have za0 := Ya.cell0
  have za1 := Ya.cell1
  have zaf := Ya.free
  have p0 := Xb.cell0
  have p1 := Xb.cell1
  have q0 := Yb.cell0
  have q1 := Yb.cell1
  clear Xa Ya Xb Yb X3 Y3 O3 oa ob own' hE gx gy X2 Y2 hk
  go_wp2
  exact bodyPost_ret (v := .tuple #[.agg #[.slice x m c, .int .i64 aa], .agg #[.slice y k d, .int .i64 ab]]) (by simp [results, Try.results34, go_sem, p0, p1, q0, q1]) rfl ⟨_, aa, _, ab, rfl, ps, qs, ⟨oa2.out, by omega, by omega⟩, ⟨ob2.out, by omega, by omega⟩, hl.out⟩

end Go.Proofs.Ytnpcgbjkahpcfaa
