/-
  What was counted most, drawn: two of them.
-/
import Derived.Test.YtmlimjdmnonmpaaTDraw2
namespace Go.Proofs.Ytmlimjdmnonmpaa
open Go.RowKit Go.Sort

/-- One of two drawn, behind a call that began at block B. -/
structure DrO (w' : World) (B : Nat) (v : Value) (lost all : Int) (ps : List Pr) : Prop where
  own : OwnP w' B v ps
  len : ps.length ≤ 7
  lo : 0 ≤ lost ∧ lost ≤ 300000
  al : -10 ≤ all ∧ all ≤ 2010

set_option maxHeartbeats 4000000 in
theorem drawTJoin_at (w : World) (v : Value) (n : Nat) (h : ∃ x cap, v = .slice x n cap) (hb : Bts w w.heap.size v n) :
    Calls Try.prog 21 #[v] w fun e w' => ∃ u la aa u' lb ab, e = .returned (.tuple #[.agg #[u, .int .i64 la, .int .i64 aa], .agg #[u', .int .i64 lb, .int .i64 ab]]) ∧ ∃ ps qs, DrO w' w.heap.size u la aa ps ∧ DrO w' w.heap.size u' lb ab qs ∧ Below w.heap.size w w' := by
  obtain ⟨W, hW⟩ : ∃ W, W = (w.alloc (.cells #[.slice none 0 0, .int .i64 0, .int .i64 0] 25)).alloc (.cells #[.slice none 0 0, .int .i64 0, .int .i64 0] 25) := ⟨_, rfl⟩
  have hA : Below w.heap.size w W := by rw [hW]; exact ((Below.refl _ _).alloc (Nat.le_refl _) _).alloc (by simp) _
  have sW : W.heap.size = w.heap.size + 2 := by rw [hW]; simp
  have X : Box3 W w.heap.size 25 (.slice none 0 0) (.int .i64 0) (.int .i64 0) := by rw [hW]; exact (Box3.new w _ _ _ _).alloc _
  have Y : Box3 W (w.heap.size + 1) 25 (.slice none 0 0) (.int .i64 0) (.int .i64 0) := by rw [hW]; have := Box3.new (w.alloc (.cells #[.slice none 0 0, .int .i64 0, .int .i64 0] 25)) 25 (.slice none 0 0) (.int .i64 0) (.int .i64 0); rwa [World.size_alloc] at this
  have K := Lib.hid (open_rd W v n h (by rw [hW]; exact bts_alloc' (bts_alloc' hb _) _))
  have HA := Lib.hid hA
  have HS := Lib.hid sW
  clear h hb hA sW
  go_enter Try.func21, Try.ntmps21
  go_wp2_with fail
  rw [← hW]
  clear hW
  go_wp2_with fail
  refine K.out.mono ?_
  rintro e w1 ⟨rfl, hr1, hb1⟩
  have X1 := X.later hb1
  have Y1 := Y.later hb1
  have L1 := Lib.hid (HA.out.trans (hb1.mono HA.out.size))
  have RD1 := Lib.hid hr1
  clear hb1 hr1 X Y
  have E := HS.out
  rw [E] at RD1 ⊢
  clear E
  go_wp2_with fail
  refine (top_at w1 (w.heap.size + 2) 0 RD1.out (by omega) (by omega)).mono ?_
  rintro e w2 ⟨u, la, aa, rfl, ps, q, own, len, lo, al, q0, q1, hr2, hE⟩
  have X2 := X1.kept hE (by simp)
  have Y2 := Y1.kept hE (by simp)
  have l1 : w.heap.size + 2 < w1.heap.size := RD1.out.lt
  have L2 := Lib.hid (L1.out.trans (below_grown hE (by omega) L1.out.size))
  have HO := Lib.hid own
  have RD2 := Lib.hid hr2
  obtain ⟨x, c, rfl, _, _⟩ := own.form
  obtain ⟨m, hm⟩ : ∃ m, m = ps.length := ⟨_, rfl⟩
  rw [← hm] at HO ⊢
  have HM := Lib.hid hm
  clear hE own hr2 X1 Y1 hm
  go_wp2_with fail
  refine (top_at w2 (w.heap.size + 2) q RD2.out (by omega) (by omega)).mono ?_
  rintro e w3 ⟨u', lb, ab, rfl, qs, r, own', len', lo', al', r0, r1, hr3, hE⟩
  have X3 := X2.kept hE (by simp)
  have Y3 := Y2.kept hE (by simp)
  have L3 := Lib.hid (L2.out.trans (below_grown hE (by omega) L2.out.size))
  obtain ⟨y, d, rfl, _, _⟩ := own'.form
  obtain ⟨k, hk⟩ : ∃ k, k = qs.length := ⟨_, rfl⟩
  have O3 := HO.out.kept hE (fun k e => by cases e; omega)
  rw [← hk] at own' ⊢
  have HK := Lib.hid hk
  have l2 : w.heap.size + 2 < w2.heap.size := RD2.out.lt
  have oa := O3.set3 (b := w.heap.size) (X3.not_row (by decide) O3) (.slice x m c) (.int .i64 la) (.int .i64 aa)
  have Xa := X3.set (.slice x m c) (.int .i64 la) (.int .i64 aa)
  have gx := ((grownBy_setCell w3 ⟨w.heap.size, 0, none⟩ (.slice x m c)).trans (grownBy_setCell _ ⟨w.heap.size, 1, none⟩ (.int .i64 la))).trans (grownBy_setCell _ ⟨w.heap.size, 2, none⟩ (.int .i64 aa))
  have Ya := Y3.kept gx (by simp)
  have ob := own'.set3 (b := w.heap.size) (X3.not_row (by decide) own') (.slice x m c) (.int .i64 la) (.int .i64 aa)
  have oa2 := Lib.hid ((oa.set3 (b := w.heap.size + 1) (Ya.not_row (by decide) oa) (.slice y k d) (.int .i64 lb) (.int .i64 ab)).base (B' := w.heap.size) (by omega))
  have ob2 := Lib.hid ((ob.set3 (b := w.heap.size + 1) (Ya.not_row (by decide) ob) (.slice y k d) (.int .i64 lb) (.int .i64 ab)).base (B' := w.heap.size) (by omega))
  have hl := Lib.hid (below_set3 (b := w.heap.size + 1) (below_set3 (b := w.heap.size) L3.out (Nat.le_refl _) (.slice x m c) (.int .i64 la) (.int .i64 aa)) (by omega) (.slice y k d) (.int .i64 lb) (.int .i64 ab))
  have Yb := Ya.set (.slice y k d) (.int .i64 lb) (.int .i64 ab)
  have gy := ((grownBy_setCell (((w3.setCell ⟨w.heap.size, 0, none⟩ (.slice x m c)).setCell ⟨w.heap.size, 1, none⟩ (.int .i64 la)).setCell ⟨w.heap.size, 2, none⟩ (.int .i64 aa)) ⟨w.heap.size + 1, 0, none⟩ (.slice y k d)).trans (grownBy_setCell _ ⟨w.heap.size + 1, 1, none⟩ (.int .i64 lb))).trans (grownBy_setCell _ ⟨w.heap.size + 1, 2, none⟩ (.int .i64 ab))
  have Xb := Xa.kept gy (by simp)
  have s0 := X3.cell0
  have s1 := X3.cell1
  have s2 := X3.cell2
  have sf := X3.free
  have z0 := Y3.cell0
  have z1 := Y3.cell1
  have z2 := Y3.cell2
  have zf := Y3.free
  have za0 := Ya.cell0
  have za1 := Ya.cell1
  have za2 := Ya.cell2
  have zaf := Ya.free
  have p0 := Xb.cell0
  have p1 := Xb.cell1
  have p2 := Xb.cell2
  have q0 := Yb.cell0
  have q1 := Yb.cell1
  have q2 := Yb.cell2
  clear Xa Ya Xb Yb X3 Y3 O3 oa ob own' hE gx gy X2 Y2 hk
  go_wp2
  exact bodyPost_ret (v := .tuple #[.agg #[.slice x m c, .int .i64 la, .int .i64 aa], .agg #[.slice y k d, .int .i64 lb, .int .i64 ab]]) (by simp [results, Try.results21, go_sem, p0, p1, p2, q0, q1, q2]) rfl ⟨_, la, aa, _, lb, ab, rfl, ps, qs, ⟨oa2.out, by omega, lo, by omega⟩, ⟨ob2.out, by omega, lo', by omega⟩, hl.out⟩

end Go.Proofs.Ytmlimjdmnonmpaa
