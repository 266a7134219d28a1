/-
  What was counted most, drawn: alone, with a thing, and of two.
-/
import Derived.Test.YtnpcgbjkahpcfaaKDraw
namespace Go.Proofs.Ytnpcgbjkahpcfaa
open Go.RowKit Go.Sort

theorem bts_alloc' {w : World} {v : Value} {n : Nat} (h : Bts w w.heap.size v n) (o : Obj) : Bts (w.alloc o) (w.alloc o).heap.size v n := bts_below h ((Below.refl _ _).alloc (Nat.le_refl _) o)


/-- A drawn one, of the call's own. -/
structure DrK (w w' : World) (v : Value) (all : Int) (ps : List Pr) : Prop where
  own : OwnP w' w.heap.size v ps
  len : ps.length ≤ 130
  al : -10 ≤ all ∧ all ≤ 2010
  below : Below w.heap.size w w'

set_option maxHeartbeats 2000000 in
theorem drawKAdd_at (w : World) (v : Value) (n : Nat) (h : ∃ x cap, v = .slice x n cap) (hb : Bts w w.heap.size v n) :
    Calls Try.prog 24 #[v] w fun e w' => ∃ u all t, e = .returned (.tuple #[.agg #[u, .int .i64 all], .int .i64 t]) ∧ (-1 ≤ t ∧ t ≤ 64) ∧ ∃ ps, DrK w w' u all ps := by
  have hA := (Below.refl w.heap.size w).alloc (Nat.le_refl _) (.cells #[.slice none 0 0, .int .i64 0] 29)
  have K := Lib.hid (open_rd _ v n h (bts_alloc' hb (.cells #[.slice none 0 0, .int .i64 0] 29)))
  have HA := Lib.hid hA
  have R0 := Box2.new w 29 (.slice none 0 0) (.int .i64 0)
  clear h hb hA
  go_enter Try.func24, Try.ntmps24
  go_wp2_with fail
  refine K.out.mono ?_
  rintro e w1 ⟨rfl, hr1, hb1⟩
  have R1 := R0.later hb1
  have L1 := Lib.hid (HA.out.trans (hb1.mono HA.out.size))
  have RD1 := Lib.hid hr1
  clear hb1 hr1 R0
  simp only [World.size_alloc] at RD1 ⊢
  go_wp2_with fail
  refine (rank_at w1 (w.heap.size + 1) 0 RD1.out (by omega) (by omega)).mono ?_
  rintro e w2 ⟨u, all, rfl, ps, q, own, len, al, q0, q1, hr2, hE⟩
  have R2 := R1.kept hE (by simp)
  have l1 : w.heap.size + 1 < w1.heap.size := RD1.out.lt
  have L2 := Lib.hid (L1.out.trans (below_grown hE (by omega) L1.out.size))
  have HO := Lib.hid own
  have RD2 := Lib.hid hr2
  obtain ⟨x, c, rfl, _, _⟩ := own.form
  clear hE own hr2 R1
  obtain ⟨m, hm⟩ : ∃ m, m = ps.length := ⟨_, rfl⟩
  rw [← hm] at HO ⊢
  have HM := Lib.hid hm
  clear hm
  go_wp2_with fail
  refine (thing_at w2 (w.heap.size + 1) q RD2.out (by omega) (by omega)).mono ?_
  rintro e w3 ⟨t, _, rfl, t0, t1, _, _, _, hg⟩
  have R3 := R2.kept hg (by simp)
  have L3 := Lib.hid (L2.out.trans (below_grown hg (by omega) L2.out.size))
  have O3 := HO.out.kept hg (fun k e => by cases e; omega)
  have ho := Lib.hid ((O3.set2 (b := w.heap.size) (R3.not_row (by decide) O3) (.slice x m c) (.int .i64 all)).base (B' := w.heap.size) (by omega))
  have hl := Lib.hid (below_set2 (b := w.heap.size) L3.out (Nat.le_refl _) (.slice x m c) (.int .i64 all))
  have RZ := R3.set (.slice x m c) (.int .i64 all)
  have y0 := R3.cell0
  have y1 := R3.cell1
  have fr := R3.free
  have hr0 := RZ.cell0
  have hr1 := RZ.cell1
  clear RZ R2 R3 O3 hg L3
  go_wp2
  exact bodyPost_ret (v := .tuple #[.agg #[.slice x m c, .int .i64 all], .int .i64 t]) (by simp [results, Try.results24, go_sem, hr0, hr1]) rfl ⟨_, all, t, rfl, ⟨t0, t1⟩, ps, ho.out, by omega, by omega, hl.out⟩

set_option maxHeartbeats 2000000 in
theorem drawKBelow_at (w : World) (v : Value) (n : Nat) (h : ∃ x cap, v = .slice x n cap) (hb : Bts w w.heap.size v n) :
    Calls Try.prog 29 #[v] w fun e w' => ∃ u all t, e = .returned (.tuple #[.agg #[u, .int .i64 all], .int .i64 t]) ∧ (-1 ≤ t ∧ t ≤ 64) ∧ ∃ ps, DrK w w' u all ps := by
  have hA := (Below.refl w.heap.size w).alloc (Nat.le_refl _) (.cells #[.slice none 0 0, .int .i64 0] 29)
  have K := Lib.hid (drawKAdd_at _ v n h (bts_alloc' hb (.cells #[.slice none 0 0, .int .i64 0] 29)))
  have HA := Lib.hid hA
  have R0 := Box2.new w 29 (.slice none 0 0) (.int .i64 0)
  clear h hb hA
  go_enter Try.func29, Try.ntmps29
  go_wp2_with fail
  refine K.out.mono ?_
  rintro e w1 ⟨u, all, t, rfl, ht, ps, own, len, al, hb1⟩
  have R1 := R0.later hb1
  have L1 := Lib.hid (HA.out.trans (hb1.mono HA.out.size))
  obtain ⟨x, c, rfl, _, _⟩ := own.form
  obtain ⟨m, hm⟩ : ∃ m, m = ps.length := ⟨_, rfl⟩
  rw [← hm] at own ⊢
  have HM := Lib.hid hm
  have ho := Lib.hid ((own.set2 (b := w.heap.size) (R1.not_row (by decide) own) (.slice x m c) (.int .i64 all)).base (B' := w.heap.size) (by simp))
  have hl := Lib.hid (below_set2 (b := w.heap.size) L1.out (Nat.le_refl _) (.slice x m c) (.int .i64 all))
  have RZ := R1.set (.slice x m c) (.int .i64 all)
  have y0 := R1.cell0
  have y1 := R1.cell1
  have fr := R1.free
  have hr0 := RZ.cell0
  have hr1 := RZ.cell1
  clear RZ R1 R0 own hb1 hm
  go_wp2
  exact bodyPost_ret (v := .tuple #[.agg #[.slice x m c, .int .i64 all], .int .i64 t]) (by simp [results, Try.results29, go_sem, hr0, hr1]) rfl ⟨_, all, t, rfl, ht, ps, ho.out, len, al, hl.out⟩

end Go.Proofs.Ytnpcgbjkahpcfaa
