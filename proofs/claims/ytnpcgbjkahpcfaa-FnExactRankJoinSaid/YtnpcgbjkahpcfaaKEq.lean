/-
  Two that read the same: the exact laws' comparisons say so.
-/
import Derived.Test.YtnpcgbjkahpcfaaKConv
import Derived.Deep.RegionWith
namespace Go.Proofs.Ytnpcgbjkahpcfaa
open Go.RowKit Go.Sort

set_option maxHeartbeats 1000000 in
theorem eqKnot_same (w : World) (t z : Int) : Calls Try.prog 65 #[.agg #[.int .i64 t, .int .i64 z], .agg #[.int .i64 t, .int .i64 z]] w fun e w' => e = .returned (.bool true) ∧ Below w.heap.size w w' := by
  have e1 : (t != t) = false := by simp
  have e2 : (z != z) = false := by simp
  have e3 : decide (t = t) = true := by simp
  have e4 : decide (z = z) = true := by simp
  go_enter Try.func65, Try.ntmps65
  go_wp2
  go_ret
  exact ⟨rfl, ((Below.refl _ _).alloc (Nat.le_refl _) _).alloc (by simp) _⟩

set_option maxHeartbeats 4000000 in
theorem eqKnotS_in (w : World) (x : Option Addr) (c : Nat) (y : Option Addr) (d n : Nat) (ps : List Pr) (hl : ps.length = n) (hp : Prs w (.slice x n c) ps) (hq : Prs w (.slice y n d) ps) (hn : n ≤ 1048576) :
    Calls Try.prog 59 #[.slice x n c, .slice y n d] w fun e w' => e = .returned (.bool true) ∧ Below w.heap.size w w' := by
  have PC := Lib.hid hp.cells
  have QC := Lib.hid hq.cells
  have HL := Lib.hid hl
  have e3 : ((n : Int) != (n : Int)) = false := by simp
  have e6 : decide ((n : Int) = (n : Int)) = true := by simp
  clear hp hq hl
  go_enter Try.func59, Try.ntmps59
  go_wp2
  go_loopw [5] (fun i wr => ∃ k : Nat, k ≤ n ∧ i = .int .i64 k ∧ Below w.heap.size w wr) (fun i _ => n - (intOf i).toNat)
  case atStart => exact ⟨0, Nat.zero_le _, rfl, Below.refl _ _⟩
  case round =>
    obtain ⟨k, hk, rfl, hb0⟩ := hrel
    have BB := Lib.hid hb0
    clear hb0
    by_cases hlt : k < n
    · obtain ⟨b, o, rfl, hb, h1, h2⟩ := PC.out k (by rw [HL.out]; exact hlt)
      obtain ⟨b', o', rfl, hb', h3, h4⟩ := QC.out k (by rw [HL.out]; exact hlt)
      rw [← BB.out.cell (p := ⟨b, o + k * 2, none⟩) hb] at h1
      rw [← BB.out.cell (p := ⟨b, o + k * 2 + 1, none⟩) hb] at h2
      rw [← BB.out.cell (p := ⟨b', o' + k * 2, none⟩) hb'] at h3
      rw [← BB.out.cell (p := ⟨b', o' + k * 2 + 1, none⟩) hb'] at h4
      generalize pr ps k = q at h1 h2 h3 h4
      obtain ⟨t, z⟩ := q
      have k0 : (0 : Int) ≤ (k : Int) := by omega
      have k1 : (k : Int) < (n : Int) := by omega
      have KE := Lib.hid (fun W => eqKnot_same W t z)
      go_wp2
      go_region_with (first
        | (go_at_call 65; refine (KE.out _).mono ?_; rintro e w1 ⟨rfl, hb1⟩))
      all_goals
        have B1 := Lib.hid ((BB.out.trans (Below.drew (Below.refl _ _))).trans (hb1.mono BB.out.size))
        clear hb1
        go_wp2
        go_roundw
        case rel => exact ⟨k + 1, by omega, by go_num, B1.out⟩
        case measure => simp [intOf]; omega
    · obtain rfl : k = n := by omega
      go_wp2
      go_ret
      exact ⟨by first | rfl | simp, BB.out⟩
theorem eqKnotS_same (w : World) (u v : Value) (ps : List Pr) (hp : Prs w u ps) (hq : Prs w v ps) (hn : ps.length ≤ 1048576) :
    Calls Try.prog 59 #[u, v] w fun e w' => e = .returned (.bool true) ∧ Below w.heap.size w w' := by
  obtain ⟨x, c, rfl, _, _⟩ := hp.form
  obtain ⟨y, d, rfl, _, _⟩ := hq.form
  exact eqKnotS_in w x c y d _ ps rfl hp hq hn

set_option maxHeartbeats 2000000 in
theorem eqRank_same (w : World) (u v : Value) (ps : List Pr) (all : Int) (hp : Prs w u ps) (hq : Prs w v ps) (hn : ps.length ≤ 1048576) :
    Calls Try.prog 39 #[.agg #[u, .int .i64 all], .agg #[v, .int .i64 all]] w fun e w' => e = .returned (.bool true) ∧ Below w.heap.size w w' := by
  obtain ⟨W, hW⟩ : ∃ W, W = (w.alloc (.cells #[u, .int .i64 all] 29)).alloc (.cells #[v, .int .i64 all] 29) := ⟨_, rfl⟩
  have B0 : Below w.heap.size w W := by rw [hW]; exact ((Below.refl _ _).alloc (Nat.le_refl _) _).alloc (by simp) _
  have X : Box2 W w.heap.size 29 u (.int .i64 all) := by rw [hW]; exact (Box2.new w _ _ _).alloc _
  have Y : Box2 W (w.heap.size + 1) 29 v (.int .i64 all) := by rw [hW]; have := Box2.new (w.alloc (.cells #[u, .int .i64 all] 29)) 29 v (.int .i64 all); rwa [World.size_alloc] at this
  have K := Lib.hid (eqKnotS_same W u v ps (hp.below B0 (Nat.le_refl _)) (hq.below B0 (Nat.le_refl _)) hn)
  obtain ⟨x, c, rfl, _, _⟩ := hp.form
  obtain ⟨y, d, rfl, _, _⟩ := hq.form
  obtain ⟨n, hn'⟩ : ∃ n, n = ps.length := ⟨_, rfl⟩
  rw [← hn'] at K X Y hW ⊢
  have BB := Lib.hid B0
  have e2 : (all != all) = false := by simp
  have e5 : decide (all = all) = true := by simp
  clear hp hq hn' B0
  go_enter Try.func39, Try.ntmps39
  go_wp2_with fail
  rw [← hW]
  clear hW
  refine K.out.mono ?_
  rintro e w1 ⟨rfl, hb1⟩
  have X1 := X.later hb1
  have Y1 := Y.later hb1
  have x1 := X1.cell1
  have y1 := Y1.cell1
  go_wp2
  go_ret
  exact ⟨by first | rfl | simp, BB.out.trans (hb1.mono BB.out.size)⟩

end Go.Proofs.Ytnpcgbjkahpcfaa
