/-
  Two drawn rough counts.
-/
import Derived.Test.YteopnbjiffncbaaDGet2
namespace Go.Proofs.Yteopnbjiffncbaa
open Go.RowKit Go.Sort

/-- What came in is as it was. -/
theorem addRows_assoc (x y z : List Int) : addRows x (addRows y z) = addRows (addRows x y) z := by
  have g : ∀ (p q : List Int) k, k < 8 → (addRows p q).getD k 0 = p.getD k 0 + q.getD k 0 := fun p q k hk => by
    unfold addRows
    simp [hk]
  show (List.range 8).map _ = (List.range 8).map _
  refine List.map_congr_left fun k hk => ?_
  have hk := List.mem_range.1 hk
  rw [g y z k hk, g x y k hk]
  omega
theorem joinV_assoc (ra rb rc : List (List Int)) : joinV ra (joinV rb rc) = joinV (joinV ra rb) rc := by
  show [addRows _ (addRows _ _), addRows _ (addRows _ _), addRows _ (addRows _ _)] = [addRows (addRows _ _) _, addRows (addRows _ _) _, addRows (addRows _ _) _]
  rw [addRows_assoc, addRows_assoc, addRows_assoc]

set_option maxHeartbeats 1000000 in
theorem drawJoin_at (w : World) (v : Value) (n : Nat) (h : ∃ x cap, v = .slice x n cap) (hb : Bts w w.heap.size v n) :
    Calls Try.prog 29 #[v] w fun e w' => ∃ x m c ra x' m' c' rb, e = .returned (.tuple #[.agg #[.slice x m c], .agg #[.slice x' m' c']]) ∧ Rws w' (.slice x m c) ra ∧ Rws w' (.slice x' m' c') rb ∧ Below w.heap.size w w' := by
  obtain ⟨w0, hw0⟩ : ∃ x, x = (w.alloc (.cells #[.slice none 0 0] 29)).alloc (.cells #[.slice none 0 0] 29) := ⟨_, rfl⟩
  have hA : Below w.heap.size w w0 := by rw [hw0]; exact ((Below.refl w.heap.size w).alloc (Nat.le_refl _) _).alloc (by simp) _
  have s0 : w0.heap.size = w.heap.size + 2 := by rw [hw0]; simp
  have hb' : Bts w0 w0.heap.size v n := by
    rcases hb with h0 | ⟨b, o, cap, hv, h1, h2, h3⟩
    · exact .inl h0
    · exact .inr ⟨b, o, cap, hv, h1, by omega, fun i hi => by
        obtain ⟨z, hz, q⟩ := h3 i hi
        exact ⟨z, by rw [hA.cell (p := ⟨b, o + i, none⟩) h2]; exact hz, q⟩⟩
  have K := Lib.hid (open_rd _ v n h hb')
  have ca : w0.cell? ⟨w.heap.size, 0, none⟩ = some (.slice none 0 0) := by rw [hw0, World.cell?_alloc_past (hn := by simp), World.cell?_alloc_at (hn := rfl)]; simp
  have cb : w0.cell? ⟨w.heap.size + 1, 0, none⟩ = some (.slice none 0 0) := by rw [hw0, World.cell?_alloc_at (hn := by simp)]; simp
  have fa : w0.frozen? ⟨w.heap.size, 0, none⟩ = false := by rw [hw0]; simp
  have fb : w0.frozen? ⟨w.heap.size + 1, 0, none⟩ = false := by rw [hw0]; simp
  have HA := Lib.hid hA
  clear h hb hb' hA
  go_enter Try.func29, Try.ntmps29
  go_wp2_with fail
  rw [← hw0]
  refine K.out.mono ?_
  rintro e w1 ⟨rfl, hr1, hb1⟩
  rw [s0] at hr1
  have ca1 := cell_later hb1 ca
  have cb1 := cell_later hb1 cb
  have fa1 : w1.frozen? ⟨w.heap.size, 0, none⟩ = false := by rw [hb1.frozen (by simp; omega)]; exact fa
  have fb1 : w1.frozen? ⟨w.heap.size + 1, 0, none⟩ = false := by rw [hb1.frozen (by simp; omega)]; exact fb
  have L1 := Lib.hid (HA.out.trans (hb1.mono HA.out.size))
  have R1 := Lib.hid hr1
  clear hb1 hr1 ca cb fa fb
  rw [s0]
  go_wp2_with fail
  refine (rough_at w1 (w.heap.size + 2) 0 R1.out (by omega) (by omega)).mono ?_
  rintro e w2 ⟨x, m, c, ra, q, rfl, hra, q0, q1, hr2, hg⟩
  have ca2 := hg.cell ca1 (by simp)
  have cb2 := hg.cell cb1 (by simp)
  have fa2 : w2.frozen? ⟨w.heap.size, 0, none⟩ = false := by rw [hg.frozen_far ⟨w.heap.size, 0, none⟩ (World.block_lt_of_cell? _ _ ca1) (by simp)]; exact fa1
  have fb2 : w2.frozen? ⟨w.heap.size + 1, 0, none⟩ = false := by rw [hg.frozen_far ⟨w.heap.size + 1, 0, none⟩ (World.block_lt_of_cell? _ _ cb1) (by simp)]; exact fb1
  have hL2 : Below w.heap.size w w2 := L1.out.trans (below_grown hg (by omega) L1.out.size)
  have l1 : w.heap.size + 2 < w1.heap.size := R1.out.lt
  have L2 := Lib.hid hL2
  have RA := Lib.hid hra
  have R2 := Lib.hid hr2
  have l2 := hg.size
  clear hg hra hL2 ca1 cb1 fa1 fb1 hr2
  go_wp2_with fail
  refine (rough_at w2 (w.heap.size + 2) q R2.out (by omega) (by omega)).mono ?_
  rintro e w3 ⟨x', m', c', rb, q', rfl, hrb, _, _, _, hg⟩
  have ca3 := hg.cell ca2 (by simp)
  have cb3 := hg.cell cb2 (by simp)
  have fa3 : w3.frozen? ⟨w.heap.size, 0, none⟩ = false := by rw [hg.frozen_far ⟨w.heap.size, 0, none⟩ (World.block_lt_of_cell? _ _ ca2) (by simp)]; exact fa2
  have fb3 : w3.frozen? ⟨w.heap.size + 1, 0, none⟩ = false := by rw [hg.frozen_far ⟨w.heap.size + 1, 0, none⟩ (World.block_lt_of_cell? _ _ cb2) (by simp)]; exact fb2
  have hL3 : Below w.heap.size w w3 := L2.out.trans (below_grown hg (by omega) L2.out.size)
  have far : ∀ k, w.heap.size + 2 ≤ k → ((w3.setCell ⟨w.heap.size, 0, none⟩ (.slice x m c)).setCell ⟨w.heap.size + 1, 0, none⟩ (.slice x' m' c')).heap[k]? = w3.heap[k]? := fun k hk =>
    (heap_setCell_other _ ⟨w.heap.size + 1, 0, none⟩ k _ (by simp; omega)).trans (heap_setCell_other w3 ⟨w.heap.size, 0, none⟩ k _ (by simp; omega))
  have ha := (RA.out.later hg (fun k e => by cases e; omega)) ((w3.setCell ⟨w.heap.size, 0, none⟩ (.slice x m c)).setCell ⟨w.heap.size + 1, 0, none⟩ (.slice x' m' c')) (fun k hk _ => far k (by omega)) (by simp)
  have hb := hrb ((w3.setCell ⟨w.heap.size, 0, none⟩ (.slice x m c)).setCell ⟨w.heap.size + 1, 0, none⟩ (.slice x' m' c')) (fun k hk _ => far k (by omega)) (by simp)
  have HW := Lib.hid ha
  have HV := Lib.hid hb
  have L3 := Lib.hid hL3
  clear hg ha hb hL3 ca2 cb2 fa2 fb2 hrb
  go_wp2
  have cb4 : (w3.setCell ⟨w.heap.size, 0, none⟩ (.slice x m c)).cell? ⟨w.heap.size + 1, 0, none⟩ = some (.slice none 0 0) := (World.cell?_setCell_other (h := fun h => by injection h; omega) ..).trans cb3
  have r2 := World.cell?_setCell_same (w3.setCell ⟨w.heap.size, 0, none⟩ (.slice x m c)) ⟨w.heap.size + 1, 0, none⟩ (.slice x' m' c') cb4
  have r1 : ((w3.setCell ⟨w.heap.size, 0, none⟩ (.slice x m c)).setCell ⟨w.heap.size + 1, 0, none⟩ (.slice x' m' c')).cell? ⟨w.heap.size, 0, none⟩ = some (.slice x m c) :=
    (World.cell?_setCell_other (h := fun h => by injection h; omega) ..).trans (World.cell?_setCell_same w3 ⟨w.heap.size, 0, none⟩ (.slice x m c) ca3)
  exact bodyPost_ret (v := .tuple #[.agg #[.slice x m c], .agg #[.slice x' m' c']]) (by simp [results, Try.results29, go_sem, r1, r2]) rfl ⟨_, _, _, ra, _, _, _, rb, rfl, HW.out, HV.out, (L3.out.setCell (Nat.le_refl _) _).setCell (by simp) _⟩

end Go.Proofs.Yteopnbjiffncbaa
