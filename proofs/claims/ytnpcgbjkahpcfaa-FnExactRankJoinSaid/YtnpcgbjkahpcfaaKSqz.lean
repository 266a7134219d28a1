/-
  What is little is counted above: the model's l4Squeeze.
-/
import Derived.Test.YtnpcgbjkahpcfaaKNums
namespace Go.Proofs.Ytnpcgbjkahpcfaa
open Go.RowKit Go.Sort

/-- Knots 2j and 2j+1, counted at j, if both together have something, and with it not more than D. -/
def sq1 (N : List Int) (D : Int) (j : Nat) : List Int :=
  if 0 < N.getD (2 * j) 0 + N.getD (2 * j + 1) 0 ∧ N.getD (2 * j) 0 + N.getD (2 * j + 1) 0 + N.getD j 0 ≤ D then ((N.set j (N.getD j 0 + (N.getD (2 * j) 0 + N.getD (2 * j + 1) 0))).set (2 * j) 0).set (2 * j + 1) 0 else N
/-- The first s steps, from 63 on down. -/
def sqz (N : List Int) (D : Int) : Nat → List Int
  | 0 => N
  | s + 1 => sq1 (sqz N D s) D (63 - s)
theorem sq1_len (N : List Int) (D : Int) (j : Nat) : (sq1 N D j).length = N.length := by unfold sq1; split <;> simp
theorem sqz_len (N : List Int) (D : Int) (s : Nat) : (sqz N D s).length = N.length := by
  induction s with
  | zero => rfl
  | succ s ih => rw [sqz, sq1_len, ih]
def BdN (N : List Int) (M : Int) : Prop := ∀ i, 0 ≤ N.getD i 0 ∧ N.getD i 0 ≤ M
theorem BdN.set {N : List Int} {M : Int} (h : BdN N M) (i : Nat) {x : Int} (h0 : 0 ≤ x) (h1 : x ≤ M) : BdN (N.set i x) M := fun j => by
  have := h j
  by_cases e : i = j
  · subst e
    by_cases hl : i < N.length
    · rw [List.getD_eq_getElem?_getD, List.getElem?_set_self hl]; exact ⟨h0, h1⟩
    · rw [List.set_eq_of_length_le (by omega)]; exact this
  · have e1 : (N.set i x).getD j 0 = N.getD j 0 := by simp [e]
    rw [e1]; exact this
theorem sq1_bd {N : List Int} {M D : Int} (h : BdN N M) (hD : D ≤ M) (hM : 0 ≤ M) (j : Nat) : BdN (sq1 N D j) M := by
  unfold sq1
  split
  · rename_i hc
    have a := h j
    have b := h (2 * j)
    have c := h (2 * j + 1)
    exact ((h.set j (by omega) (by omega)).set _ (Int.le_refl _) hM).set _ (Int.le_refl _) hM
  · exact h
theorem sqz_bd {N : List Int} {M D : Int} (h : BdN N M) (hD : D ≤ M) (hM : 0 ≤ M) (s : Nat) : BdN (sqz N D s) M := by
  induction s with
  | zero => exact h
  | succ s ih => exact sq1_bd ih hD hM _

set_option maxHeartbeats 4000000 in
set_option maxRecDepth 100000 in
theorem l4Squeeze_at (w : World) (B g c : Nat) (N : List Int) (all M : Int) (h : RowI w B g 128 c N) (hb : BdN N M) (a0 : 0 ≤ all) (hD : all / 8 ≤ M) (hM : M ≤ 10000000) :
    Calls Try.prog 52 #[.slice (some ⟨g, 0, none⟩) 128 c, .int .i64 all] w fun e w' => e = .returned (.slice (some ⟨g, 0, none⟩) 128 c) ∧ RowI w' B g 128 c (sqz N (all / 8) 63) ∧ w.grownBy w' (some g) := by
  have ht : all.tdiv 8 = all / 8 := Int.tdiv_eq_ediv_of_nonneg a0
  obtain ⟨D, hDD⟩ : ∃ D, D = all / 8 := ⟨_, rfl⟩
  rw [← hDD] at ht hD ⊢
  have d0 : 0 ≤ D := by omega
  have HR0 := Lib.hid h
  have HB0 := Lib.hid hb
  clear h hb hDD
  go_enter Try.func52, Try.ntmps52
  go_wp2
  go_loopw [5] (fun i wr => ∃ (j I : Nat), j ≤ 63 ∧ I = 2 * j ∧ i = .int .i64 I ∧ RowI wr B g 128 c (sqz N D (63 - j)) ∧ w.grownBy wr (some g)) (fun i _ => (intOf i).toNat)
  case atStart => exact ⟨63, 126, Nat.le_refl _, rfl, by first | rfl | go_num, HR0.out, grownBy_refl _ _⟩
  case round =>
    obtain ⟨j, I, hj, hI, rfl, hrow, hgr⟩ := hrel
    have HG := Lib.hid hgr
    clear hgr
    by_cases h1 : 1 ≤ j
    · have bd := sqz_bd HB0.out hD (by omega) (63 - j)
      have hs := Lib.hid (show sqz N D (63 - (j - 1)) = sq1 (sqz N D (63 - j)) D j by rw [show 63 - (j - 1) = (63 - j) + 1 by omega, sqz, show 63 - (63 - j) = j by omega])
      generalize sqz N D (63 - j) = Z at *
      obtain ⟨I1, hI1⟩ : ∃ I1 : Nat, (I : Int) + 1 = (I1 : Int) := ⟨I + 1, by omega⟩
      have hI2 : I1 = 2 * j + 1 := by omega
      have cI := hrow.cell (i := I) (by omega)
      have cI1 := hrow.cell (i := I1) (by omega)
      have cJ := hrow.cell (i := j) (by omega)
      have fI := hrow.free I
      have fI1 := hrow.free I1
      have fJ := hrow.free j
      have bI := bd I
      have bI1 := bd I1
      have bJ := bd j
      have HSQ : Hid (∀ V0 V1 VJ : Int, V0 = Z.getD I 0 → V1 = Z.getD I1 0 → VJ = Z.getD j 0 → sq1 Z D j = if 0 < V0 + V1 ∧ V0 + V1 + VJ ≤ D then ((Z.set j (VJ + (V0 + V1))).set I 0).set I1 0 else Z) := fun V0 V1 VJ e0 e1 e2 => by
        subst e0 e1 e2 hI2 hI; rfl
      obtain ⟨V0, hV0⟩ : ∃ V, V = Z.getD I 0 := ⟨_, rfl⟩
      obtain ⟨V1, hV1⟩ : ∃ V, V = Z.getD I1 0 := ⟨_, rfl⟩
      obtain ⟨VJ, hVJ⟩ : ∃ V, V = Z.getD j 0 := ⟨_, rfl⟩
      have SQ := Lib.hid (HSQ.out V0 V1 VJ hV0 hV1 hVJ)
      rw [← hV0] at cI bI
      rw [← hV1] at cI1 bI1
      rw [← hVJ] at cJ bJ
      have HR := Lib.hid hrow
      have q2 : (I : Int).tdiv 2 = (j : Int) := by rw [Int.tdiv_eq_ediv_of_nonneg (by omega)]; omega
      have i0 : (0 : Int) ≤ (I : Int) := by omega
      have i1 : (I : Int) < 128 := by omega
      have i2 : (2 : Int) ≤ (I : Int) := by omega
      have i3 : (I1 : Int) < 128 := by omega
      have j0 : (j : Int) < 128 := by omega
      have w1 : IntKind.i64.wrap (V0 + V1) = V0 + V1 := IntWalk.i64_in _ (by omega)
      have w2 : IntKind.i64.wrap (V0 + V1 + VJ) = V0 + V1 + VJ := IntWalk.i64_in _ (by omega)
      have w3 : IntKind.i64.wrap (VJ + (V0 + V1)) = VJ + (V0 + V1) := IntWalk.i64_in _ (by omega)
      have HI := Lib.hid hI
      have HI2 := Lib.hid hI2
      clear hV0 hV1 hVJ HSQ bd hrow hI hI2
      by_cases c1 : 0 < V0 + V1
      · by_cases c2 : V0 + V1 + VJ ≤ D
        · have e := Lib.hid (SQ.out.trans (if_pos ⟨c1, c2⟩))
          have ne1 : I ≠ j := by have := HI.out; omega
          have ne2 : I1 ≠ j := by have := HI2.out; omega
          have ne3 : I1 ≠ I := by have := HI2.out; have := HI.out; omega
          have RA := fun q => (HR.out.drewN q).set j (VJ + (V0 + V1))
          have RB := fun q => (RA q).set I 0
          have RC := Lib.hid (fun q => (RB q).set I1 0)
          have GC := Lib.hid (fun q => grownBy_trans (grownBy_drewN HG.out q) (grownBy_trans ((HR.out.drewN q).grown j (VJ + (V0 + V1))) (grownBy_trans ((RA q).grown I 0) ((RB q).grown I1 0))))
          clear RA RB
          go_wp2
          go_quiet (fail)
          go_wp2
          go_roundw
          case rel => exact ⟨j - 1, I - 2, by omega, by have := HI.out; omega, by congr 1; omega, by rw [hs.out, e.out]; exact RC.out _, GC.out _⟩
          case measure => simp [intOf]; omega
        · have e := Lib.hid (SQ.out.trans (if_neg (fun h => c2 h.2)))
          go_wp2
          go_quiet (fail)
          go_wp2
          go_roundw
          case rel => exact ⟨j - 1, I - 2, by omega, by have := HI.out; omega, by congr 1; omega, by rw [hs.out, e.out]; exact HR.out.drewN _, grownBy_drewN HG.out _⟩
          case measure => simp [intOf]; omega
      · have e := Lib.hid (SQ.out.trans (if_neg (fun h => c1 h.1)))
        go_wp2
        go_quiet (fail)
        go_wp2
        go_roundw
        case rel => exact ⟨j - 1, I - 2, by omega, by have := HI.out; omega, by congr 1; omega, by rw [hs.out, e.out]; exact HR.out.drewN _, grownBy_drewN HG.out _⟩
        case measure => simp [intOf]; omega
    · obtain rfl : j = 0 := by omega
      obtain rfl : I = 0 := by omega
      have HR := Lib.hid hrow
      clear hrow hI h1 hj
      go_wp2
      go_ret
      exact ⟨rfl, HR.out, HG.out⟩

end Go.Proofs.Ytnpcgbjkahpcfaa
