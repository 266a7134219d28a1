/-
  How much was counted at each knot: the model's l4Nums.
-/
import Derived.Test.YtnpcgbjkahpcfaaKOk
import Derived.Test.YtnpcgbjkahpcfaaKInts
namespace Go.Proofs.Ytnpcgbjkahpcfaa
open Go.RowKit Go.Sort

def addN (a : List Int) (p : Pr) : List Int := a.set p.1.toNat (a.getD p.1.toNat 0 + p.2)
def numsV (ps : List Pr) : List Int := ps.foldl addN (List.replicate 128 0)
theorem numsV_len (ps : List Pr) : (numsV ps).length = 128 := by
  unfold numsV
  have : ∀ (ps : List Pr) (a : List Int), a.length = 128 → (ps.foldl addN a).length = 128 := by
    intro ps
    induction ps with
    | nil => intro a h; exact h
    | cons p ps ih => intro a h; exact ih _ (by simpa [addN] using h)
  exact this ps _ (by simp)
theorem numsV_succ (ps : List Pr) (k : Nat) (h : k < ps.length) : numsV (ps.take (k + 1)) = addN (numsV (ps.take k)) (pr ps k) := by
  rw [take_succ_pr ps k h]; simp [numsV]
/-- Things of a knot that is one, and numbers that are not much. -/
def KnB (ps : List Pr) : Prop := ∀ i, i < ps.length → (0 ≤ (pr ps i).1 ∧ (pr ps i).1 ≤ 127) ∧ 0 ≤ (pr ps i).2 ∧ (pr ps i).2 ≤ 2000
theorem numsV_bd {ps : List Pr} (h : KnB ps) : ∀ k, k ≤ ps.length → ∀ i, 0 ≤ (numsV (ps.take k)).getD i 0 ∧ (numsV (ps.take k)).getD i 0 ≤ 2000 * (k : Int) := by
  intro k
  induction k with
  | zero =>
    intro _ i
    have e0 : ∀ n, (List.replicate n (0 : Int)).getD i 0 = 0 := fun n => by
      by_cases hi : i < n <;> simp [hi]
    have e := e0 128
    show 0 ≤ (List.replicate 128 (0 : Int)).getD i 0 ∧ (List.replicate 128 (0 : Int)).getD i 0 ≤ _
    rw [e]; omega
  | succ k ih =>
    intro hk i
    have h1 := ih (by omega) i
    have h2 := ih (by omega) (pr ps k).1.toNat
    have h3 := (h k (by omega)).2
    rw [numsV_succ ps k (by omega)]
    unfold addN
    by_cases e : (pr ps k).1.toNat = i
    · subst e
      by_cases hl : (pr ps k).1.toNat < (numsV (ps.take k)).length
      · rw [List.getD_eq_getElem?_getD, List.getElem?_set_self hl]
        simp only [Option.getD_some]
        omega
      · rw [List.set_eq_of_length_le (by omega)]; omega
    · have e1 : ((numsV (ps.take k)).set (pr ps k).1.toNat ((numsV (ps.take k)).getD (pr ps k).1.toNat 0 + (pr ps k).2)).getD i 0 = (numsV (ps.take k)).getD i 0 := by simp [e]
      rw [e1]; omega

set_option maxHeartbeats 4000000 in
theorem l4Nums_in (w : World) (x : Option Addr) (n c : Nat) (ps : List Pr) (hl : ps.length = n) (hp : Prs w (.slice x n c) ps) (hn : n ≤ 300) (hk : KnB ps) :
    Calls Try.prog 50 #[.slice x n c] w fun e w' => e = .returned (.slice (some ⟨w.heap.size, 0, none⟩) 128 128) ∧ RowI w' w.heap.size w.heap.size 128 128 (numsV ps) ∧ Below w.heap.size w w' := by
  have hmk : ∀ w, (Instr.makeSlice 64 (.int .i64 128) (.int .i64 128)).run Try.prog w = .ok (.slice (some ⟨w.heap.size, 0, none⟩) 128 128) (w.alloc (.cells (madeCells #[.int .i64 0] 128) 3)) := fun w =>
    run_make_row' (P := Try.prog) 64 3 (.int .i64 0) 8 Try.underlying64 int_info rfl .i64 .i64 128 (by omega) (by omega) w
  have R0 := Lib.hid (made_ints w 128 (by omega))
  have HP := Lib.hid hp.cells
  have HL := Lib.hid hl
  have KB := Lib.hid hk
  clear hl hp hk
  go_enter Try.func50, Try.ntmps50
  go_wp2
  go_loopw [4] (fun i wr => ∃ k : Nat, k ≤ n ∧ i = .int .i64 k ∧ RowI wr w.heap.size w.heap.size 128 128 (numsV (ps.take k)) ∧ Below w.heap.size w wr) (fun i _ => n - (intOf i).toNat)
  case atStart => exact ⟨0, Nat.zero_le _, rfl, R0.out, (Below.refl _ _).alloc (Nat.le_refl _) _⟩
  case round =>
    obtain ⟨k, hk, rfl, hrow, hbl⟩ := hrel
    have HR := Lib.hid hrow
    have HB := Lib.hid hbl
    by_cases hlt : k < n
    · obtain ⟨b, o, rfl, hb, h1, h2⟩ := HP.out k (by rw [HL.out]; exact hlt)
      rw [← HB.out.cell (p := ⟨b, o + k * 2, none⟩) hb] at h1
      rw [← HB.out.cell (p := ⟨b, o + k * 2 + 1, none⟩) hb] at h2
      have g := KB.out k (by rw [HL.out]; exact hlt)
      have bd := numsV_bd KB.out k (by rw [HL.out]; omega)
      have hs := Lib.hid (numsV_succ ps k (by rw [HL.out]; exact hlt))
      generalize pr ps k = q at h1 h2 hs g
      obtain ⟨t, m⟩ := q
      simp only at h1 h2 g
      obtain ⟨⟨t0, t1⟩, m0, m1⟩ := g
      obtain ⟨T, rfl⟩ : ∃ T : Nat, t = (T : Int) := ⟨t.toNat, by omega⟩
      have T1 : (T : Int) < 128 := by omega
      have bT := bd T
      have c0 := hrow.cell (i := T) (by omega)
      have f0 := hrow.free T
      unfold addN at hs
      simp only [Int.toNat_natCast] at hs
      generalize numsV (ps.take k) = N at *
      obtain ⟨V, hV⟩ : ∃ V, V = N.getD T 0 := ⟨_, rfl⟩
      rw [← hV] at c0 bT hs
      have k0 : (0 : Int) ≤ (k : Int) := by omega
      have kn : (k : Int) < (n : Int) := by omega
      have ws : IntKind.i64.wrap (V + m) = V + m := IntWalk.i64_in _ (by omega)
      have r0 := cell_regrown c0
      have r1 := cell_regrown h1
      have r2 := cell_regrown h2
      have gl := hrow.lt.2
      clear hrow hbl bd hV
      go_wp2
      refine wp_region_last (C := fun w' => ∃ p : Regrown, w' = grow (redrawn wr p.d) p.os) 21 _ rfl rfl rfl (by kernel_rfl) (by kernel_rfl) (by kernel_rfl) (by kernel_rfl) (by kernel_rfl) ⟨⟨wr.drawn + 1, #[]⟩, by rw [grow_empty]; rfl⟩ ?_
      simp only [List.take_succ_cons, List.take_zero]
      repeat (refine boxed_step (fun K hK => ?_); go_simp; first | (refine hK _ ?_; clear hK K) | (apply Exists.intro; refine ⟨fun _ => ?_, hK _ ?_⟩; (fail); clear hK K))
      refine boxed_nil ?_
      intro _ hw'
      obtain ⟨⟨dq, oq⟩, hw''⟩ := hw'
      subst hw''
      have hb_w4 := below_regrown wr dq oq
      obtain ⟨w4, hq_w4⟩ : ∃ x, x = grow (redrawn wr dq) oq := ⟨_, rfl⟩
      rw [← hq_w4] at hb_w4 ⊢
      clear hq_w4
      have R4 := HR.out.below hb_w4
      have d0 := R4.cell (i := T) (by omega)
      have d1 := R4.free T
      have RS := Lib.hid (R4.set T (V + m))
      have B4 := Lib.hid (HB.out.trans (hb_w4.mono HB.out.size))
      clear R4 hb_w4 r0 r1 r2 c0 f0 h1 h2 ws
      go_wp2
      go_roundw
      case rel => exact ⟨k + 1, by omega, by go_num, by rw [hs.out]; exact RS.out, B4.out.setCell (Nat.le_refl _) _⟩
      case measure => simp [intOf]; omega
    · obtain rfl : k = n := by omega
      have e1 : ps.take k = ps := List.take_of_length_le (by rw [HL.out]; exact Nat.le_refl _)
      rw [e1] at HR
      clear hrow hbl
      go_wp2
      go_ret
      exact ⟨rfl, HR.out, HB.out⟩

end Go.Proofs.Ytnpcgbjkahpcfaa
