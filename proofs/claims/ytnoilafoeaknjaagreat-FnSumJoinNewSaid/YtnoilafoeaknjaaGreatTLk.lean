/-
  Two of what was counted most that read the same: laws.lkTop says so.
-/
import Derived.Test.YtnoilafoeaknjaaGreatTa
import Derived.BigQuiet
import Derived.Laws.StructEq
set_option linter.unusedVariables false
namespace Go.Proofs.YtnoilafoeaknjaaGreat.T
open Go.RowKit Go.Sort

set_option maxHeartbeats 4000000 in
theorem lkTop_in (w : World) (x : Option Addr) (c : Nat) (y : Option Addr) (d n : Nat) (ps : List Pr) (lost all : Int) (hl : ps.length = n) (hp : Prs w (.slice x n c) ps) (hq : Prs w (.slice y n d) ps) (hn : n ≤ 100) :
    Calls Tryz.prog 67 #[.agg #[.slice x n c, .int .i64 lost, .int .i64 all], .agg #[.slice y n d, .int .i64 lost, .int .i64 all]] w fun e w' => e = .returned (.bool true) ∧ Below w.heap.size w w' := by
  have PC := Lib.hid hp.cells
  have QC := Lib.hid hq.cells
  have HL := Lib.hid hl
  obtain ⟨W, hW⟩ : ∃ W, W = (w.alloc (.cells #[.slice x n c, .int .i64 lost, .int .i64 all] 34)).alloc (.cells #[.slice y n d, .int .i64 lost, .int .i64 all] 34) := ⟨_, rfl⟩
  have B0 : Below w.heap.size w W := by rw [hW]; exact ((Below.refl _ _).alloc (Nat.le_refl _) _).alloc (by simp) _
  have X : Box3 W w.heap.size 34 (.slice x n c) (.int .i64 lost) (.int .i64 all) := by rw [hW]; exact (Box3.new w _ _ _ _).alloc _
  have Y : Box3 W (w.heap.size + 1) 34 (.slice y n d) (.int .i64 lost) (.int .i64 all) := by rw [hW]; have := Box3.new (w.alloc (.cells #[.slice x n c, .int .i64 lost, .int .i64 all] 34)) 34 (.slice y n d) (.int .i64 lost) (.int .i64 all); rwa [World.size_alloc] at this
  have x0 := X.cell0
  have x1 := X.cell1
  have x2 := X.cell2
  have y0 := Y.cell0
  have y1 := Y.cell1
  have y2 := Y.cell2
  have BB := Lib.hid B0
  have e1 : (lost != lost) = false := by simp
  have e2 : (all != all) = false := by simp
  have e3 : ((n : Int) != (n : Int)) = false := by simp
  have e4 : decide (lost = lost) = true := by simp
  have e5 : decide (all = all) = true := by simp
  have e6 : decide ((n : Int) = (n : Int)) = true := by simp
  clear hp hq hl B0 X Y
  go_enter Tryz.func67, Tryz.ntmps67
  go_wp2_with fail
  rw [← hW]
  clear hW
  go_wp2
  go_loopw [5] (fun i wr => ∃ k : Nat, k ≤ n ∧ i = .int .i64 k ∧ ∃ m, wr = W.drewN m) (fun i _ => n - (intOf i).toNat)
  case atStart => exact ⟨0, Nat.zero_le _, rfl, 0, rfl⟩
  case round =>
    obtain ⟨k, hk, rfl, m, rfl⟩ := hrel
    by_cases hlt : k < n
    · obtain ⟨b, o, rfl, hb, h1, h2⟩ := PC.out k (by rw [HL.out]; exact hlt)
      obtain ⟨b', o', rfl, hb', h3, h4⟩ := QC.out k (by rw [HL.out]; exact hlt)
      rw [← BB.out.cell (p := ⟨b, o + k * 2, none⟩) hb] at h1
      rw [← BB.out.cell (p := ⟨b, o + k * 2 + 1, none⟩) hb] at h2
      rw [← BB.out.cell (p := ⟨b', o' + k * 2, none⟩) hb'] at h3
      rw [← BB.out.cell (p := ⟨b', o' + k * 2 + 1, none⟩) hb'] at h4
      generalize pr ps k = q at h1 h2 h3 h4
      obtain ⟨t, z⟩ := q
      have k0 : (0 : Int) ≤ (k : Int) := by omega
      have k1 : (k : Int) < (n : Int) := by omega
      go_wp2
      go_quiet (fail)
      go_wp2
      go_roundw
      case rel => exact ⟨k + 1, by omega, by go_num, _, rfl⟩
      case measure => simp [intOf]; omega
    · obtain rfl : k = n := by omega
      go_wp2
      go_ret
      exact ⟨by first | rfl | simp, below_drewN BB.out _⟩

/-- laws.lkTop of two that read the same. -/
theorem lkTop_same (w : World) (u v : Value) (ps : List Pr) (lost all : Int) (hp : Prs w u ps) (hq : Prs w v ps) (hn : ps.length ≤ 100) :
    Calls Tryz.prog 67 #[.agg #[u, .int .i64 lost, .int .i64 all], .agg #[v, .int .i64 lost, .int .i64 all]] w fun e w' => e = .returned (.bool true) ∧ Below w.heap.size w w' := by
  obtain ⟨x, c, rfl, _, _⟩ := hp.form
  obtain ⟨y, d, rfl, _, _⟩ := hq.form
  exact lkTop_in w x c y d _ ps lost all rfl hp hq hn

end Go.Proofs.YtnoilafoeaknjaaGreat.T
