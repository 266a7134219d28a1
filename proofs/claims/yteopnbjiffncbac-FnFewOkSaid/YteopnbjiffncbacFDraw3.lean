/-
  Marks that are drawn, alone, with a thing, and of two.
-/
import Derived.Test.YteopnbjiffncbacFDraw2
namespace Go.Proofs.Yteopnbjiffncbac
open Go.RowKit Go.Sort

theorem else_below' {a B : Nat} {w w' : World} (h : Else a w w') (hB : B ≤ a) (hw : B ≤ w.heap.size) : Below B w w' := below_grown h hB hw
theorem bts_alloc {w : World} {v : Value} {n : Nat} (h : Bts w w.heap.size v n) (o : Obj) : Bts (w.alloc o) (w.alloc o).heap.size v n := bts_below h ((Below.refl _ _).alloc (Nat.le_refl _) o)

set_option maxHeartbeats 1000000 in
theorem drawFCount_at (w : World) (v : Value) (n : Nat) (h : ∃ x cap, v = .slice x n cap) (hb : Bts w w.heap.size v n) :
    Calls Try.prog 27 #[v] w fun e w' => ∃ x c zs, e = .returned (.agg #[.slice x zs.length c]) ∧ Ints w' (.slice x zs.length c) zs ∧ zs.length ≤ 7 ∧ Below w.heap.size w w' := by
  have hA := (Below.refl w.heap.size w).alloc (Nat.le_refl _) (.cells #[.slice none 0 0] 28)
  have K := Lib.hid (open_rd _ v n h (bts_alloc hb (.cells #[.slice none 0 0] 28)))
  have HA := Lib.hid hA
  clear h hb hA
  go_enter Try.func27, Try.ntmps27
  go_wp2_with fail
  refine K.out.mono ?_
  rintro e w1 ⟨rfl, hr1, hb1⟩
  have cr : w1.cell? ⟨w.heap.size, 0, none⟩ = some (.slice none 0 0) := by rw [hb1.cell (by simp)]; simp
  have fr : w1.frozen? ⟨w.heap.size, 0, none⟩ = false := by rw [hb1.frozen (by simp)]; simp
  have L1 := Lib.hid (HA.out.trans (hb1.mono HA.out.size))
  have R1 := Lib.hid hr1
  clear hb1 hr1
  simp only [World.size_alloc] at R1 ⊢
  go_wp2_with fail
  refine (few_at w1 (w.heap.size + 1) 0 R1.out (by omega) (by omega)).mono ?_
  rintro e w2 ⟨x, c, zs, q, rfl, own, hl, _, _, _, hE⟩
  have cr2 := hE.cell cr (by simp)
  have fr2 := hE.free fr (World.block_lt_of_cell? _ _ cr) (by simp)
  have l1 : w.heap.size + 1 < w1.heap.size := R1.out.lt
  have L2 := Lib.hid (L1.out.trans (else_below' hE (by omega) L1.out.size))
  have hw := (own.kept (grownBy_setCell w2 ⟨w.heap.size, 0, none⟩ (.slice x zs.length c)) (fun k e => by simp at e; omega)).rd
  have HW := Lib.hid hw
  have HL := Lib.hid hl
  clear hE own hw cr fr hl
  obtain ⟨m, hm⟩ : ∃ m, m = zs.length := ⟨_, rfl⟩
  have HM := Lib.hid hm
  rw [← hm]
  clear hm
  go_wp2
  have hr := World.cell?_setCell_same w2 ⟨w.heap.size, 0, none⟩ (.slice x m c) cr2
  refine bodyPost_ret (v := .agg #[.slice x m c]) (by simp [results, Try.results27, go_sem, hr]) rfl ⟨x, c, zs, by rw [HM.out], by rw [HM.out]; exact HW.out, HL.out, ?_⟩
  exact L2.out.setCell (Nat.le_refl _) _

set_option maxHeartbeats 1000000 in
theorem drawFAdd_at (w : World) (v : Value) (n : Nat) (h : ∃ x cap, v = .slice x n cap) (hb : Bts w w.heap.size v n) :
    Calls Try.prog 20 #[v] w fun e w' => ∃ x c zs t, e = .returned (.tuple #[.agg #[.slice x zs.length c], .int .i64 t]) ∧ OwnI w' w.heap.size (.slice x zs.length c) zs ∧ zs.length ≤ 7 ∧ -1 ≤ t ∧ t ≤ 64 ∧ Below w.heap.size w w' := by
  have hA := (Below.refl w.heap.size w).alloc (Nat.le_refl _) (.cells #[.slice none 0 0] 28)
  have K := Lib.hid (open_rd _ v n h (bts_alloc hb (.cells #[.slice none 0 0] 28)))
  have HA := Lib.hid hA
  clear h hb hA
  go_enter Try.func20, Try.ntmps20
  go_wp2_with fail
  refine K.out.mono ?_
  rintro e w1 ⟨rfl, hr1, hb1⟩
  have cr : w1.cell? ⟨w.heap.size, 0, none⟩ = some (.slice none 0 0) := by rw [hb1.cell (by simp)]; simp
  have fr : w1.frozen? ⟨w.heap.size, 0, none⟩ = false := by rw [hb1.frozen (by simp)]; simp
  have L1 := Lib.hid (HA.out.trans (hb1.mono HA.out.size))
  have R1 := Lib.hid hr1
  clear hb1 hr1
  simp only [World.size_alloc] at R1 ⊢
  go_wp2_with fail
  refine (few_at w1 (w.heap.size + 1) 0 R1.out (by omega) (by omega)).mono ?_
  rintro e w2 ⟨x, c, zs, q, rfl, own, hl, q0, q1, hr2, hE⟩
  have cr2 := hE.cell cr (by simp)
  have fr2 := hE.free fr (World.block_lt_of_cell? _ _ cr) (by simp)
  have l1 : w.heap.size + 1 < w1.heap.size := R1.out.lt
  have L2 := Lib.hid (L1.out.trans (else_below' hE (by omega) L1.out.size))
  have HO := Lib.hid own
  have R2 := Lib.hid hr2
  have HL := Lib.hid hl
  clear hE own cr fr hl hr2
  obtain ⟨m, hm⟩ : ∃ m, m = zs.length := ⟨_, rfl⟩
  have HM := Lib.hid hm
  rw [← hm]
  clear hm
  go_wp2_with fail
  refine (thing_at w2 (w.heap.size + 1) q R2.out (by omega) (by omega)).mono ?_
  rintro e w3 ⟨t, _, rfl, t0, t1, _, _, _, hg⟩
  have hE : Else (w.heap.size + 1) w2 w3 := hg
  have cr3 := hE.cell cr2 (by simp)
  have fr3 := hE.free fr2 (World.block_lt_of_cell? _ _ cr2) (by simp)
  have L3 := Lib.hid (L2.out.trans (else_below' hE (by omega) L2.out.size))
  have hw := ((HO.out.kept hg (fun k e => by cases e; omega)).kept (grownBy_setCell w3 ⟨w.heap.size, 0, none⟩ (.slice x zs.length c)) (fun k e => by simp at e; omega)).base (B' := w.heap.size) (by omega)
  have HW := Lib.hid hw
  clear hE hg hw cr2 fr2
  go_wp2
  have hr := World.cell?_setCell_same w3 ⟨w.heap.size, 0, none⟩ (.slice x m c) cr3
  refine bodyPost_ret (v := .tuple #[.agg #[.slice x m c], .int .i64 t]) (by simp [results, Try.results20, go_sem, hr]) rfl ⟨x, c, zs, t, by rw [HM.out], by rw [HM.out]; exact HW.out, HL.out, t0, t1, ?_⟩
  exact L3.out.setCell (Nat.le_refl _) _

set_option maxHeartbeats 1000000 in
theorem drawFHas_at (w : World) (v : Value) (n : Nat) (h : ∃ x cap, v = .slice x n cap) (hb : Bts w w.heap.size v n) :
    Calls Try.prog 30 #[v] w fun e w' => ∃ x c zs t, e = .returned (.tuple #[.agg #[.slice x zs.length c], .int .i64 t]) ∧ OwnI w' w.heap.size (.slice x zs.length c) zs ∧ zs.length ≤ 7 ∧ -1 ≤ t ∧ t ≤ 64 ∧ Below w.heap.size w w' := by
  have hA := (Below.refl w.heap.size w).alloc (Nat.le_refl _) (.cells #[.slice none 0 0] 28)
  have K := Lib.hid (drawFAdd_at _ v n h (bts_alloc hb (.cells #[.slice none 0 0] 28)))
  have HA := Lib.hid hA
  clear h hb hA
  go_enter Try.func30, Try.ntmps30
  go_wp2_with fail
  refine K.out.mono ?_
  rintro e w1 ⟨x, c, zs, t, rfl, hz, hl, t0, t1, hb1⟩
  have cr : w1.cell? ⟨w.heap.size, 0, none⟩ = some (.slice none 0 0) := by rw [hb1.cell (by simp)]; simp
  have fr : w1.frozen? ⟨w.heap.size, 0, none⟩ = false := by rw [hb1.frozen (by simp)]; simp
  have L1 := Lib.hid (HA.out.trans (hb1.mono HA.out.size))
  obtain ⟨m, hm⟩ : ∃ m, m = zs.length := ⟨_, rfl⟩
  have HM := Lib.hid hm
  have HL := Lib.hid hl
  have l1 : w.heap.size < w1.heap.size := World.block_lt_of_cell? _ _ cr
  have hw := (hz.kept (grownBy_setCell w1 ⟨w.heap.size, 0, none⟩ (.slice x zs.length c)) (fun k e => by simp at e; simp; omega)).base (B' := w.heap.size) (by simp)
  have HW := Lib.hid hw
  clear hw hz hb1 hl
  rw [← hm]
  clear hm
  go_wp2
  have hr := World.cell?_setCell_same w1 ⟨w.heap.size, 0, none⟩ (.slice x m c) cr
  refine bodyPost_ret (v := .tuple #[.agg #[.slice x m c], .int .i64 t]) (by simp [results, Try.results30, go_sem, hr]) rfl ⟨x, c, zs, t, by rw [HM.out], by rw [HM.out]; exact HW.out, HL.out, t0, t1, ?_⟩
  exact L1.out.setCell (Nat.le_refl _) _

end Go.Proofs.Yteopnbjiffncbac
