/-
  Deeds drawn for texts.
-/
import Derived.Test.YtbnggcgojbkoaaaDoorNDrD
set_option linter.unusedVariables false
set_option linter.unusedSectionVars false
set_option linter.unusedSimpArgs false
namespace Go.Proofs.YtbnggcgojbkoaaaDoor
open Go.RowKit Go.Sort
namespace N
section
variable {B : Nat} {w0 w : World} {l : List Ch}
set_option maxRecDepth 100000 in
set_option maxHeartbeats 16000000 in
theorem drawDeedText_at {v : Value} {n : Nat} (h : M B w0 w l) (hv : ∃ x cap, v = .slice x n cap) (ht : Bts w0 B v n) : Calls Tryd.prog 8 #[v] w fun e w' => ∃ x y z : Int, e = .returned (.agg #[.int .i64 x, .int .i64 y, .int .i64 z]) ∧ M B w0 w' l := by
  have H := Lib.hid (h.alloc #[.int .i64 0, .int .i64 0, .int .i64 0] 24)
  clear h
  have HV := Lib.hid hv
  clear hv
  go_enter Tryd.func8, Tryd.ntmps8
  go_wp2_with fail
  refine (H.out.openRd HV.out ht).mono ?_
  rintro e w1 ⟨rfl, h1⟩
  rw [World.size_alloc] at h1
  obtain ⟨rd, hrd⟩ : ∃ rd, rd = w.heap.size + 1 := ⟨_, rfl⟩
  simp only [World.size_alloc]
  rw [← hrd] at h1 ⊢
  clear hrd HV H ht
  have H1 := Lib.hid h1
  clear h1
  go_wp2_with fail
  refine (drawDeed_at H1.out (by omega)).mono ?_
  rintro e w2 ⟨x, y, z, rfl, h2⟩
  clear H1
  have H3 := Lib.hid ((h2.alloc #[.int .i64 x, .int .i64 y, .int .i64 z] 24).p1)
  have hb : w2.heap.size = w2.heap.size := rfl
  obtain ⟨db, hdb⟩ : ∃ db, db = w2.heap.size := ⟨_, rfl⟩
  go_wp2_with fail
  rw [← hdb]
  have H3 := H3
  rw [← hdb] at H3
  generalize w2.alloc (.cells #[.int .i64 x, .int .i64 y, .int .i64 z] 24) = w3 at H3 ⊢
  clear hb hdb h2
  refine (H3.out.pick (by omega) 8 (by omega) (by omega)).mono ?_
  rintro e w4 ⟨p4, rfl, p40, p41, h4⟩
  have H4 := Lib.hid h4
  clear h4 H3
  by_cases q0 : p4 = 0
  · subst q0
    clear p40 p41
    have H5 := Lib.hid ((H4.out.alloc #[.int .i64 (-1), .int .i64 100, .int .i64 99] 3).p1)
    go_wp2_with fail
    refine (H5.out.pick (by omega) 3 (by omega) (by omega)).mono ?_
    rintro e w6 ⟨p6, rfl, p60, p61, h6⟩
    obtain ⟨n, hn⟩ : ∃ n : Nat, p6 = n := ⟨p6.toNat, by omega⟩
    subst hn
    obtain ⟨u5, hu5⟩ := lit3 (-1) 100 99 (n := n) (by omega)
    have g5 := h6.p1.cell hu5
    have nn : n < 3 := by omega
    have F0 := h6.p1.drop.p1
    obtain ⟨c0, c1, c2⟩ := F0.cells3
    have cf := F0.free
    have F := Lib.hid (F0.set (i := 1) (.int .i64 u5))
    simp only [List.setIfInBounds_toArray, List.set_cons_zero, List.set_cons_succ] at F
    clear hu5 h6 F0 H5 H4
    go_upto_region 10 with fail
    clear g5 c0 c1 c2 cf nn p60 p61
    obtain ⟨r0, r1, r2⟩ := F.out.p2.cells3
    obtain ⟨f0, f1, f2⟩ := F.out.cells3
    have rf := F.out.p2.free
    have FF := Lib.hid (F.out.p2.set3 (.int .i64 x) (.int .i64 u5) (.int .i64 z))
    go_wp2
    obtain ⟨d0, d1, d2⟩ := FF.out.cells3
    refine bodyPost_ret (v := .agg #[.int .i64 x, .int .i64 u5, .int .i64 z]) (by simp [results, Tryd.results8, go_sem, d0, d1, d2]) rfl ⟨_, _, _, rfl, FF.out.drop.drop.drop⟩
  have g0 : (p4 == 0) = false := by simpa using q0
  by_cases q1 : p4 = 1
  · subst q1
    clear p40 p41 q0
    have H5 := Lib.hid ((H4.out.alloc #[.int .i64 (-1), .int .i64 100, .int .i64 1] 3).p1)
    go_wp2_with fail
    refine (H5.out.pick (by omega) 3 (by omega) (by omega)).mono ?_
    rintro e w6 ⟨p6, rfl, p60, p61, h6⟩
    obtain ⟨n, hn⟩ : ∃ n : Nat, p6 = n := ⟨p6.toNat, by omega⟩
    subst hn
    obtain ⟨u5, hu5⟩ := lit3 (-1) 100 1 (n := n) (by omega)
    have g5 := h6.p1.cell hu5
    have nn : n < 3 := by omega
    have F0 := h6.p1.drop.p1
    obtain ⟨c0, c1, c2⟩ := F0.cells3
    have cf := F0.free
    have F := Lib.hid (F0.set (i := 2) (.int .i64 u5))
    simp only [List.setIfInBounds_toArray, List.set_cons_zero, List.set_cons_succ] at F
    clear hu5 h6 F0 H5 H4
    go_upto_region 10 with fail
    clear g5 c0 c1 c2 cf nn p60 p61
    obtain ⟨r0, r1, r2⟩ := F.out.p2.cells3
    obtain ⟨f0, f1, f2⟩ := F.out.cells3
    have rf := F.out.p2.free
    have FF := Lib.hid (F.out.p2.set3 (.int .i64 x) (.int .i64 y) (.int .i64 u5))
    go_wp2
    obtain ⟨d0, d1, d2⟩ := FF.out.cells3
    refine bodyPost_ret (v := .agg #[.int .i64 x, .int .i64 y, .int .i64 u5]) (by simp [results, Tryd.results8, go_sem, d0, d1, d2]) rfl ⟨_, _, _, rfl, FF.out.drop.drop.drop⟩
  have g1 : (p4 == 1) = false := by simpa using q1
  by_cases q2 : p4 = 2
  · subst q2
    clear p40 p41 q0 q1
    go_wp2_with fail
    refine (H4.out.pick (by omega) 13 (by omega) (by omega)).mono ?_
    rintro e w6 ⟨p6, rfl, p60, p61, h6⟩
    obtain ⟨c0, c1, c2⟩ := h6.p1.cells3
    have cf := h6.p1.free
    have F := Lib.hid (h6.p1.set (i := 0) (.int .i64 (p6 - 1)))
    simp only [List.setIfInBounds_toArray, List.set_cons_zero, List.set_cons_succ] at F
    have wr : IntKind.i64.wrap (p6 - 1) = p6 - 1 := IntWalk.i64_in _ (by omega)
    clear h6 H4
    go_upto_region 10 with fail
    clear c0 c1 c2 cf wr p60 p61
    obtain ⟨r0, r1, r2⟩ := F.out.p2.cells3
    obtain ⟨f0, f1, f2⟩ := F.out.cells3
    have rf := F.out.p2.free
    have FF := Lib.hid (F.out.p2.set3 (.int .i64 (p6 - 1)) (.int .i64 y) (.int .i64 z))
    go_wp2
    obtain ⟨d0, d1, d2⟩ := FF.out.cells3
    refine bodyPost_ret (v := .agg #[.int .i64 (p6 - 1), .int .i64 y, .int .i64 z]) (by simp [results, Tryd.results8, go_sem, d0, d1, d2]) rfl ⟨_, _, _, rfl, FF.out.drop.drop.drop⟩
  have g2 : (p4 == 2) = false := by simpa using q2
  have F := Lib.hid H4.out.p1
  clear H4 q0 q1 q2 p40 p41
  obtain ⟨c0, c1, c2⟩ := F.out.cells3
  obtain ⟨r0, r1, r2⟩ := F.out.p2.cells3
  obtain ⟨f0, f1, f2⟩ := F.out.cells3
  have rf := F.out.p2.free
  have FF := Lib.hid (F.out.p2.set3 (.int .i64 x) (.int .i64 y) (.int .i64 z))
  go_wp2
  obtain ⟨d0, d1, d2⟩ := FF.out.cells3
  refine bodyPost_ret (v := .agg #[.int .i64 x, .int .i64 y, .int .i64 z]) (by simp [results, Tryd.results8, go_sem, d0, d1, d2]) rfl ⟨_, _, _, rfl, FF.out.drop.drop.drop⟩
end
end N
end Go.Proofs.YtbnggcgojbkoaaaDoor
