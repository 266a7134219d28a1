/-
  Knots, drawn with how many; a drawn knot.
-/
import Derived.Test.YtnpcgbjkahpcfaaKDraw3
import Derived.Deep.RegionHeld3
namespace Go.Proofs.Ytnpcgbjkahpcfaa
open Go.RowKit Go.Sort

theorem drawKSpan_at (w : World) (v : Value) (n : Nat) (h : ∃ x cap, v = .slice x n cap) (hb : Bts w w.heap.size v n) :
    Calls Try.prog 18 #[v] w fun e w' => ∃ k, e = .returned (.int .i64 k) ∧ (-2 ≤ k ∧ k ≤ 129) ∧ Below w.heap.size w w' := by
  have K := Lib.hid (open_rd w v n h hb)
  clear h hb
  go_enter Try.func18, Try.ntmps18
  go_wp2_with fail
  refine K.out.mono ?_
  rintro e w1 ⟨rfl, hr1, hb1⟩
  have HB := Lib.hid hb1
  clear hb1
  go_wp2_with fail
  refine (pick_at w1 w.heap.size 0 132 hr1 (by omega) (by omega) (by omega) (by omega)).mono ?_
  rintro e w2 ⟨k, rfl, k0, k1, _, hg⟩
  have ws : IntKind.i64.wrap (k - 2) = k - 2 := IntWalk.i64_in _ (by omega)
  have FIN := Lib.hid (HB.out.trans (below_grown hg (Nat.le_refl _) HB.out.size))
  go_wp2
  go_ret
  exact ⟨_, rfl, by omega, FIN.out⟩

set_option maxRecDepth 100000 in
set_option maxHeartbeats 4000000 in
theorem drawKAt_at (w : World) (v : Value) (n : Nat) (h : ∃ x cap, v = .slice x n cap) (hb : Bts w w.heap.size v n) :
    Calls Try.prog 31 #[v] w fun e w' => ∃ u all m, e = .returned (.tuple #[.agg #[u, .int .i64 all], .int .i64 m]) ∧ (-1 ≤ m ∧ m ≤ 2010) ∧ ∃ ps, DrK w w' u all ps := by
  have hA := (Below.refl w.heap.size w).alloc (Nat.le_refl _) (.cells #[.slice none 0 0, .int .i64 0] 29)
  have K := Lib.hid (open_rd _ v n h (bts_alloc' hb (.cells #[.slice none 0 0, .int .i64 0] 29)))
  have HA := Lib.hid hA
  have R0 := Box2.new w 29 (.slice none 0 0) (.int .i64 0)
  clear h hb hA
  go_enter Try.func31, Try.ntmps31
  go_wp2_with fail
  refine K.out.mono ?_
  rintro e w1 ⟨rfl, hr1, hb1⟩
  have R1 := R0.later hb1
  have L1 := Lib.hid (HA.out.trans (hb1.mono HA.out.size))
  have RD1 := Lib.hid hr1
  clear hb1 hr1 R0
  simp only [World.size_alloc] at RD1 ⊢
  go_wp2_with fail
  refine (rank_at w1 (w.heap.size + 1) 0 RD1.out (by omega) (by omega)).mono ?_
  rintro e w2 ⟨u, all, rfl, ps, q, own, len, al, q0, q1, hr2, hE⟩
  have l1 : w.heap.size + 1 < w1.heap.size := RD1.out.lt
  obtain ⟨x, c, rfl, _, _⟩ := own.form
  obtain ⟨m, hm⟩ : ∃ m, m = ps.length := ⟨_, rfl⟩
  rw [← hm] at own ⊢
  have HM := Lib.hid hm
  have m6 : m ≤ 128 := by omega
  have s2 : w1.heap.size ≤ w2.heap.size := hE.size
  -- the box of what was drawn
  obtain ⟨W, hW⟩ : ∃ W, W = w2.alloc (.cells #[.slice x m c, .int .i64 all] 29) := ⟨_, rfl⟩
  have R2 : Hid (Box2 W w.heap.size 29 (.slice none 0 0) (.int .i64 0)) := by show Box2 _ _ _ _ _; rw [hW]; exact (R1.kept hE (by simp)).alloc _
  have L2 : Hid (Below w.heap.size w W) := by show Below _ _ _; rw [hW]; exact (L1.out.trans (below_grown hE (by omega) L1.out.size)).alloc (by have := L1.out.size; omega) _
  have X2 : Hid (Box2 W w2.heap.size 29 (.slice x m c) (.int .i64 all)) := by show Box2 _ _ _ _ _; rw [hW]; exact Box2.new _ _ _ _
  have HO : Hid (OwnP W (w.heap.size + 2) (.slice x m c) ps) := by show OwnP _ _ _ _; rw [hW]; exact (own.alloc _).base (by omega)
  have RD2 : Hid (Rd W (w.heap.size + 1) q) := by show Rd _ _ _; rw [hW]; exact hr2.alloc _
  clear hE own hr2 R1 hm
  go_wp2_with fail
  rw [← hW]
  have HW := Lib.hid hW
  clear hW
  have RDD : Hid (Rd W.drew (w.heap.size + 1) q) := RD2.out.drew
  have XD := X2.out.drew
  have x0 := XD.cell0
  have x1 := XD.cell1
  have x0' := X2.out.cell0
  have x1' := X2.out.cell1
  have hmax : max all 0 = all := Int.max_eq_left al.1
  have ws2 : IntKind.i64.wrap (all + 2) = all + 2 := IntWalk.i64_in _ (by omega)
  have LD : Hid (Below w.heap.size w W.drew) := Lib.hid (L2.out.trans (Below.drew (Below.refl _ _)))
  have HX2 := X2
  have lb : w.heap.size + 1 < w2.heap.size := by omega
  go_upto_region 3 with fail
  go_region_held3 (fun w' => w'.cell? ⟨w2.heap.size, 0, none⟩ = some (.slice x m c) ∧ w'.cell? ⟨w2.heap.size, 1, none⟩ = some (.int .i64 all)) (first | (with_reducible exact ⟨x0, x1⟩) | (with_reducible exact ⟨y0, y1⟩) | (with_reducible exact ⟨z0, z1⟩) | (with_reducible exact ⟨v0, v1⟩))
    (first
      | (go_at_call 43; (first
          | ((with_reducible refine (pick_at _ (w.heap.size + 1) q (all + 2) RDD.out (by omega) (by omega) (by omega) (by omega)).mono ?_); rintro e w3 ⟨k3, rfl, k30, k31, hr3, hg3⟩; have X3 := HX2.out.drew.kept hg3 (by simp; omega); have y0 := X3.cell0; have y1 := X3.cell1; have O3 := HO.out.drew.kept hg3 (fun k e => by cases e; omega); have R3 := R2.out.drew.kept hg3 (by simp); have L3 := Lib.hid (LD.out.trans (below_grown hg3 (by omega) LD.out.size)))
          | ((with_reducible refine (pick_at _ (w.heap.size + 1) (q + 1) 12 hr3 (by omega) (by omega) (by omega) (by omega)).mono ?_); rintro e w4 ⟨k4, rfl, k40, k41, hr4, hg4⟩; have X4 := X3.kept hg4 (by simp; omega); have z0 := X4.cell0; have z1 := X4.cell1; have O4 := O3.kept hg4 (fun k e => by cases e; omega); have R4 := R3.kept hg4 (by simp); have L4 := Lib.hid (L3.out.trans (below_grown hg4 (by omega) L3.out.size)); have td : k4.tdiv 11 = k4 / 11 := (Int.tdiv_eq_ediv_of_nonneg k40); have ws3 : IntKind.i64.wrap (k4 / 11) = k4 / 11 := (IntWalk.i64_in _ (by omega)); have ws4 : IntKind.i64.wrap (k3 - k4 / 11) = k3 - k4 / 11 := (IntWalk.i64_in _ (by omega)); have s0 := R4.cell0; have s1 := R4.cell1; have fs := R4.free; have XZ := X4.kept ((grownBy_setCell w4 ⟨w.heap.size, 0, none⟩ (.slice x m c)).trans (grownBy_setCell _ ⟨w.heap.size, 1, none⟩ (.int .i64 all))) (by simp; omega); have v0 := XZ.cell0; have v1 := XZ.cell1))))
  have FIN := Lib.hid (show DrK w ((w4.setCell ⟨w.heap.size, 0, none⟩ (.slice x m c)).setCell ⟨w.heap.size, 1, none⟩ (.int .i64 all)) (.slice x m c) all ps from
    ⟨(O4.set2 (b := w.heap.size) (R4.not_row (by decide) O4) (.slice x m c) (.int .i64 all)).base (by omega), by have := HM.out; omega, by omega, below_set2 (b := w.heap.size) L4.out (Nat.le_refl _) _ _⟩)
  have RZ := R4.set (.slice x m c) (.int .i64 all)
  have hr0 := RZ.cell0
  have hr1 := RZ.cell1
  clear RZ R4 O4 XZ X4 X3 O3 R3 s0 s1 fs v0 v1 z0 z1 y0 y1 x0 x1 x0' x1' XD
  go_wp2
  exact bodyPost_ret (v := .tuple #[.agg #[.slice x m c, .int .i64 all], .int .i64 (k3 - k4 / 11)]) (by simp [results, Try.results31, go_sem, hr0, hr1]) rfl ⟨_, all, _, rfl, by omega, ps, FIN.out⟩

end Go.Proofs.Ytnpcgbjkahpcfaa
