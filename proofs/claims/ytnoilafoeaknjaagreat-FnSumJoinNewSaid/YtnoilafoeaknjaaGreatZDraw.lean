/-
  Things of a sum, drawn.
-/
import Derived.Test.YtnoilafoeaknjaaGreatKThings
set_option linter.unusedVariables false
namespace Go.Proofs.YtnoilafoeaknjaaGreat
open Go.RowKit Go.Sort

theorem two_kept {w2 w3 : World} {a : Nat} {k : Int} (hg : (w2.alloc (.cells #[.int .i64 (-1), .int .i64 64] 3)).grownBy w3 (some a)) (ha : a < w2.heap.size) (h0 : 0 ≤ k) (h1 : k < 2) : w3.cell? ⟨w2.heap.size, k.toNat, none⟩ = some (.int .i64 (if k = 0 then -1 else 64)) := by
  have e : w3.heap[w2.heap.size]? = some (.cells #[.int .i64 (-1), .int .i64 64] 3 (0, 0)) := by
    rw [hg.block w2.heap.size (by simp) (by simp; omega)]
    exact heap_alloc_new w2 _
  rw [cell_of_row w3 w2.heap.size k.toNat _ _ _ e]
  rcases (by omega : k = 0 ∨ k = 1) with rfl | rfl <;> rfl

set_option maxRecDepth 100000 in
set_option maxHeartbeats 4000000 in
theorem drawSumOf_at (w : World) (v : Value) (n : Nat) (h : ∃ x cap, v = .slice x n cap) (hb : Bts w w.heap.size v n) :
    Calls Tryz.prog 28 #[v] w fun e w' => ∃ x c l, e = .returned (.slice x l.length c) ∧ K.OwnL w' w.heap.size (.slice x l.length c) l ∧ l.length ≤ 31 ∧ Below w.heap.size w w' := by
  obtain ⟨i0, hi, hz0, hz1, hz2⟩ := info_parts K.int_info
  have K := Lib.hid (open_rd w v n h hb)
  clear h hb
  go_enter Tryz.func28, Tryz.ntmps28
  go_wp2_with fail
  refine K.out.mono ?_
  rintro e w1 ⟨rfl, hr1, hb1⟩
  have RD1 := Lib.hid hr1
  have L1 := Lib.hid hb1
  have la := hr1.lt
  clear hr1 hb1 K
  go_wp2_with fail
  refine (K.things_at w1 w.heap.size 0 30 RD1.out (by omega) (by omega) (by omega) (by omega)).mono ?_
  rintro e w2 ⟨u, rfl, zs, q, ho, hzl, q0, q1, hr2, he2⟩
  obtain ⟨y, cy, rfl⟩ := ho.form
  obtain ⟨nz, hnz⟩ : ∃ nz, nz = zs.length := ⟨_, rfl⟩
  rw [← hnz] at ho hzl ⊢
  have NZ := Lib.hid hnz
  have RD2 := Lib.hid hr2
  have L2 := Lib.hid (L1.out.trans (below_grown he2 (Nat.le_refl _) L1.out.size))
  have O2 := Lib.hid (show w2.ownsRow w1.heap.size 3 1 (.slice y nz cy) nz (ints zs) by have h := ho; unfold K.OwnL at h; rw [← hnz] at h; exact h)
  have s2 := he2.size
  clear ho hr2 he2 hnz RD1
  go_wp2_with fail
  refine (pick_at w2 w.heap.size q 20 RD2.out (by omega) (by omega) (by omega) (by omega)).mono ?_
  rintro e w3 ⟨k, rfl, k0, k1, hr3, hg3⟩
  have RD3 := Lib.hid hr3
  have L3 := Lib.hid (L2.out.trans (below_grown hg3 (Nat.le_refl _) L2.out.size))
  have O3 := Lib.hid (O2.out.kept hg3 (.inr (by
    intro e
    have := (O2.out.lt _ e).1
    omega)))
  have s3 := hg3.size
  clear hr3 hg3 RD2 L2 O2
  by_cases hk : k = 0
  · obtain rfl := hk
    clear k0 k1
    go_wp2_with fail
    refine (pick_at _ w.heap.size (q + 1) 2 (RD3.out.alloc _) (by omega) (by omega) (by omega) (by omega)).mono ?_
    rintro e w4 ⟨k2, rfl, k20, k21, hr4, hg4⟩
    have ct := two_kept hg4 (by omega) k20 k21
    have L4 := Lib.hid (L3.out.trans (below_grown (grownBy_trans (World.grownBy_alloc w3 (.cells #[.int .i64 (-1), .int .i64 64] 3) (some w.heap.size)) hg4) (Nat.le_refl _) L3.out.size))
    have O4 := Lib.hid ((O3.out.alloc (.cells #[.int .i64 (-1), .int .i64 64] 3)).kept hg4 (.inr (by
      intro e
      have := (O3.out.lt _ e).1
      omega)))
    have s4 : w1.heap.size ≤ w4.heap.size := by have := hg4.size; simp at this; omega
    clear hr4 hg4 RD3 L3 O3
    obtain ⟨t, ht⟩ : ∃ t : Int, t = if k2 = 0 then -1 else 64 := ⟨_, rfl⟩
    rw [← ht] at ct
    clear ht
    go_wp2_with (first | (at_builtin; refine wpList_append_own _ rfl _ _ 23 rfl w1.heap.size 3 i0 (.int .i64 0) 1 8 Tryz.underlying23 hi hz0 hz1 hz2 rfl (by decide) _ _ _ rfl (O4.out.alloc _) ⟨w4.heap.size, 0, none⟩ 1 1 [.int .i64 t] rfl rfl (cell_one_new _ _ _) (by simp [Value.oneCell']) (by unfold maxLen; omega) (by omega) (by simp; omega) ?_; intro v1 w5 ho1 hg1 _; obtain ⟨g_v1, c_v1, rfl, _, _⟩ := World.ownsRow.form ho1 (Nat.succ_pos _)))
    go_ret
    have hL := K.own_snocL ho1 NZ.out
    have e1 : (zs ++ [t]).length = nz + 1 := by simp; exact NZ.out.symm
    refine ⟨_, _, zs ++ [t], by rw [e1]; rfl, ?_, by rw [e1]; omega, ?_⟩
    · rw [e1]; exact hL.base L1.out.size
    · exact (L4.out.alloc L4.out.size _).grown hg1 (L4.out.alloc L4.out.size _).size (fun k e => by have := (World.ownsRow.lt O4.out k e).1; have := L1.out.size; omega)
  · go_wp2
    go_ret
    refine ⟨_, _, zs, by rw [← NZ.out]; rfl, ?_, by rw [← NZ.out]; omega, L3.out⟩
    rw [← NZ.out]
    have h := O3.out
    have h' : K.OwnL w3 w1.heap.size (.slice y nz cy) zs := by unfold K.OwnL; rw [← NZ.out]; exact h
    exact h'.base L1.out.size

end Go.Proofs.YtnoilafoeaknjaaGreat
