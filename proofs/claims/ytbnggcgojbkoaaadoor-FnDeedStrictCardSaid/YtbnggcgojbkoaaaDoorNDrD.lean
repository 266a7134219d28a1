/-
  Deeds that are drawn.
-/
import Derived.Test.YtbnggcgojbkoaaaDoorNo
import Derived.Deep.DeepCutAuto
set_option linter.unusedVariables false
set_option linter.unusedSectionVars false
set_option linter.unusedSimpArgs false
namespace Go.Proofs.YtbnggcgojbkoaaaDoor
open Go.RowKit Go.Sort
theorem M.more {B a k k' : Nat} {w0 w : World} {l : List Ch} (h : M B w0 w (rdC w0 B a k :: l)) (hk : k ≤ k') : M B w0 w (rdC w0 B a k' :: l) :=
  h.to fun f hf nd => by
    obtain ⟨⟨v, n, p, hb, ht, hn, p0, p1⟩, rfl⟩ := hf
    exact ⟨[a], ⟨⟨v, n, p, hb, ht, hn, p0, by omega⟩, rfl⟩, nd, fun _ q => q⟩
namespace N
section
variable {B a k : Nat} {w0 w : World} {l : List Ch}
theorem drew_size (w : World) : w.drew.heap.size = w.heap.size := rfl
theorem lit5 (t : Int) {n : Nat} (h : n < 5) : ∃ u : Int, (#[.int .i64 3, .int .i64 5, .int .i64 9, .int .i64 17, .int .i64 t] : Array Value)[n]? = some (.int .i64 u) := by
  obtain rfl | rfl | rfl | rfl | rfl : n = 0 ∨ n = 1 ∨ n = 2 ∨ n = 3 ∨ n = 4 := by omega
  all_goals exact ⟨_, rfl⟩
theorem lit3 (x y z : Int) {n : Nat} (h : n < 3) : ∃ u : Int, (#[.int .i64 x, .int .i64 y, .int .i64 z] : Array Value)[n]? = some (.int .i64 u) := by
  obtain rfl | rfl | rfl : n = 0 ∨ n = 1 ∨ n = 2 := by omega
  all_goals exact ⟨_, rfl⟩
set_option maxRecDepth 100000 in
set_option maxHeartbeats 16000000 in
theorem drawDeed_at (h : M B w0 w (rdC w0 B a k :: l)) (hk : k ≤ 99900) : Calls Tryd.prog 17 #[.pointer (some ⟨a, 0, Option.none⟩)] w fun e w' => ∃ x y z : Int, e = .returned (.agg #[.int .i64 x, .int .i64 y, .int .i64 z]) ∧ M B w0 w' (rdC w0 B a (k + 4) :: l) := by
  have H := Lib.hid (h.alloc #[.int .i64 0, .int .i64 0, .int .i64 0] 24).p1
  clear h
  go_enter Tryd.func17, Tryd.ntmps17
  go_wp2_with fail
  refine (H.out.pick (by omega) 20 (by omega) (by omega)).mono ?_
  rintro e w1 ⟨p1, rfl, p10, p11, h1⟩
  have H1 := Lib.hid h1
  clear h1
  obtain q | q | q | q | q | q | q | q | q | q | q | q | q | q | q | q | q | q | q | q : p1 = 0 ∨ p1 = 1 ∨ p1 = 2 ∨ p1 = 3 ∨ p1 = 4 ∨ p1 = 5 ∨ p1 = 6 ∨ p1 = 7 ∨ p1 = 8 ∨ p1 = 9 ∨ p1 = 10 ∨ p1 = 11 ∨ p1 = 12 ∨ p1 = 13 ∨ p1 = 14 ∨ p1 = 15 ∨ p1 = 16 ∨ p1 = 17 ∨ p1 = 18 ∨ p1 = 19 := by omega
  · subst q
    clear p10 p11
    go_wp2_with fail
    refine (H1.out.pick (by omega) 5 (by omega) (by omega)).mono ?_
    rintro e w2 ⟨p2, rfl, p20, p21, h2⟩
    have H2 := Lib.hid h2
    clear h2
    go_wp2_with fail
    refine (H2.out.pick (by omega) 64 (by omega) (by omega)).mono ?_
    rintro e w3 ⟨p3, rfl, p30, p31, h3⟩
    have H3 := Lib.hid h3
    clear h3
    obtain ⟨u, hu⟩ : ∃ u, u = w3.heap.size := ⟨_, rfl⟩
    have H4 := Lib.hid (((H3.out.alloc #[.int .i64 3, .int .i64 5, .int .i64 9, .int .i64 17, .int .i64 p3] 3).p1))
    go_wp2_with fail
    refine (H4.out.pick (by omega) 5 (by omega) (by omega)).mono ?_
    rintro e w5 ⟨p5, rfl, p50, p51, h5⟩
    obtain ⟨n, hn⟩ : ∃ n : Nat, p5 = n := ⟨p5.toNat, by omega⟩
    subst hn
    obtain ⟨u5, hu5⟩ := lit5 p3 (n := n) (by omega)
    have g5 := h5.p1.cell hu5
    have nn : n < 5 := by omega
    have H5 := Lib.hid h5.p1.drop
    clear h5 hu hu5
    have hr5 := H5.out.p1.cells3
    obtain ⟨r0, r1, r2⟩ := hr5
    have rf := H5.out.p1.free
    have F := Lib.hid (H5.out.p1.set3 (.int .i64 1) (.int .i64 p2) (.int .i64 u5))
    go_wp2
    obtain ⟨d0, d1, d2⟩ := F.out.cells3
    refine bodyPost_ret (v := .agg #[.int .i64 1, .int .i64 p2, .int .i64 u5]) (by simp [results, Tryd.results17, go_sem, d0, d1, d2]) rfl ⟨_, _, _, rfl, (F.out.drop).more (by omega)⟩
  · subst q
    clear p10 p11
    go_wp2_with fail
    refine (H1.out.pick (by omega) 5 (by omega) (by omega)).mono ?_
    rintro e w2 ⟨p2, rfl, p20, p21, h2⟩
    have H2 := Lib.hid h2
    clear h2
    go_wp2_with fail
    refine (H2.out.pick (by omega) 64 (by omega) (by omega)).mono ?_
    rintro e w3 ⟨p3, rfl, p30, p31, h3⟩
    have H3 := Lib.hid h3
    clear h3
    obtain ⟨u, hu⟩ : ∃ u, u = w3.heap.size := ⟨_, rfl⟩
    have H4 := Lib.hid (((H3.out.alloc #[.int .i64 3, .int .i64 5, .int .i64 9, .int .i64 17, .int .i64 p3] 3).p1))
    go_wp2_with fail
    refine (H4.out.pick (by omega) 5 (by omega) (by omega)).mono ?_
    rintro e w5 ⟨p5, rfl, p50, p51, h5⟩
    obtain ⟨n, hn⟩ : ∃ n : Nat, p5 = n := ⟨p5.toNat, by omega⟩
    subst hn
    obtain ⟨u5, hu5⟩ := lit5 p3 (n := n) (by omega)
    have g5 := h5.p1.cell hu5
    have nn : n < 5 := by omega
    have H5 := Lib.hid h5.p1.drop
    clear h5 hu hu5
    have hr5 := H5.out.p1.cells3
    obtain ⟨r0, r1, r2⟩ := hr5
    have rf := H5.out.p1.free
    have F := Lib.hid (H5.out.p1.set3 (.int .i64 1) (.int .i64 p2) (.int .i64 u5))
    go_wp2
    obtain ⟨d0, d1, d2⟩ := F.out.cells3
    refine bodyPost_ret (v := .agg #[.int .i64 1, .int .i64 p2, .int .i64 u5]) (by simp [results, Tryd.results17, go_sem, d0, d1, d2]) rfl ⟨_, _, _, rfl, (F.out.drop).more (by omega)⟩
  · subst q
    clear p10 p11
    go_wp2_with fail
    refine (H1.out.pick (by omega) 5 (by omega) (by omega)).mono ?_
    rintro e w2 ⟨p2, rfl, p20, p21, h2⟩
    have H2 := Lib.hid h2
    clear h2
    go_wp2_with fail
    refine (H2.out.pick (by omega) 64 (by omega) (by omega)).mono ?_
    rintro e w3 ⟨p3, rfl, p30, p31, h3⟩
    have H3 := Lib.hid h3
    clear h3
    obtain ⟨u, hu⟩ : ∃ u, u = w3.heap.size := ⟨_, rfl⟩
    have H4 := Lib.hid (((H3.out.alloc #[.int .i64 3, .int .i64 5, .int .i64 9, .int .i64 17, .int .i64 p3] 3).p1))
    go_wp2_with fail
    refine (H4.out.pick (by omega) 5 (by omega) (by omega)).mono ?_
    rintro e w5 ⟨p5, rfl, p50, p51, h5⟩
    obtain ⟨n, hn⟩ : ∃ n : Nat, p5 = n := ⟨p5.toNat, by omega⟩
    subst hn
    obtain ⟨u5, hu5⟩ := lit5 p3 (n := n) (by omega)
    have g5 := h5.p1.cell hu5
    have nn : n < 5 := by omega
    have H5 := Lib.hid h5.p1.drop
    clear h5 hu hu5
    have hr5 := H5.out.p1.cells3
    obtain ⟨r0, r1, r2⟩ := hr5
    have rf := H5.out.p1.free
    have F := Lib.hid (H5.out.p1.set3 (.int .i64 1) (.int .i64 p2) (.int .i64 u5))
    go_wp2
    obtain ⟨d0, d1, d2⟩ := F.out.cells3
    refine bodyPost_ret (v := .agg #[.int .i64 1, .int .i64 p2, .int .i64 u5]) (by simp [results, Tryd.results17, go_sem, d0, d1, d2]) rfl ⟨_, _, _, rfl, (F.out.drop).more (by omega)⟩
  · subst q
    clear p10 p11
    go_wp2_with fail
    refine (H1.out.pick (by omega) 5 (by omega) (by omega)).mono ?_
    rintro e w2 ⟨p2, rfl, p20, p21, h2⟩
    have H2 := Lib.hid h2
    clear h2
    go_wp2_with fail
    refine (H2.out.pick (by omega) 64 (by omega) (by omega)).mono ?_
    rintro e w3 ⟨p3, rfl, p30, p31, h3⟩
    have H3 := Lib.hid h3
    clear h3
    obtain ⟨u, hu⟩ : ∃ u, u = w3.heap.size := ⟨_, rfl⟩
    have H4 := Lib.hid (((H3.out.alloc #[.int .i64 3, .int .i64 5, .int .i64 9, .int .i64 17, .int .i64 p3] 3).p1))
    go_wp2_with fail
    refine (H4.out.pick (by omega) 5 (by omega) (by omega)).mono ?_
    rintro e w5 ⟨p5, rfl, p50, p51, h5⟩
    obtain ⟨n, hn⟩ : ∃ n : Nat, p5 = n := ⟨p5.toNat, by omega⟩
    subst hn
    obtain ⟨u5, hu5⟩ := lit5 p3 (n := n) (by omega)
    have g5 := h5.p1.cell hu5
    have nn : n < 5 := by omega
    have H5 := Lib.hid h5.p1.drop
    clear h5 hu hu5
    have hr5 := H5.out.p1.cells3
    obtain ⟨r0, r1, r2⟩ := hr5
    have rf := H5.out.p1.free
    have F := Lib.hid (H5.out.p1.set3 (.int .i64 1) (.int .i64 p2) (.int .i64 u5))
    go_wp2
    obtain ⟨d0, d1, d2⟩ := F.out.cells3
    refine bodyPost_ret (v := .agg #[.int .i64 1, .int .i64 p2, .int .i64 u5]) (by simp [results, Tryd.results17, go_sem, d0, d1, d2]) rfl ⟨_, _, _, rfl, (F.out.drop).more (by omega)⟩
  · subst q
    clear p10 p11
    go_wp2_with fail
    refine (H1.out.pick (by omega) 5 (by omega) (by omega)).mono ?_
    rintro e w2 ⟨p2, rfl, p20, p21, h2⟩
    have H2 := Lib.hid h2
    clear h2
    have hr2 := H2.out.p1.cells3
    obtain ⟨r0, r1, r2⟩ := hr2
    have rf := H2.out.p1.free
    have F := Lib.hid (H2.out.p1.set3 (.int .i64 2) (.int .i64 p2) (.int .i64 0))
    go_wp2
    obtain ⟨d0, d1, d2⟩ := F.out.cells3
    refine bodyPost_ret (v := .agg #[.int .i64 2, .int .i64 p2, .int .i64 0]) (by simp [results, Tryd.results17, go_sem, d0, d1, d2]) rfl ⟨_, _, _, rfl, (F.out.drop).more (by omega)⟩
  · subst q
    clear p10 p11
    go_wp2_with fail
    refine (H1.out.pick (by omega) 5 (by omega) (by omega)).mono ?_
    rintro e w2 ⟨p2, rfl, p20, p21, h2⟩
    have H2 := Lib.hid h2
    clear h2
    have hr2 := H2.out.p1.cells3
    obtain ⟨r0, r1, r2⟩ := hr2
    have rf := H2.out.p1.free
    have F := Lib.hid (H2.out.p1.set3 (.int .i64 2) (.int .i64 p2) (.int .i64 0))
    go_wp2
    obtain ⟨d0, d1, d2⟩ := F.out.cells3
    refine bodyPost_ret (v := .agg #[.int .i64 2, .int .i64 p2, .int .i64 0]) (by simp [results, Tryd.results17, go_sem, d0, d1, d2]) rfl ⟨_, _, _, rfl, (F.out.drop).more (by omega)⟩
  · subst q
    clear p10 p11
    go_wp2_with fail
    refine (H1.out.pick (by omega) 5 (by omega) (by omega)).mono ?_
    rintro e w2 ⟨p2, rfl, p20, p21, h2⟩
    have H2 := Lib.hid h2
    clear h2
    have hr2 := H2.out.p1.cells3
    obtain ⟨r0, r1, r2⟩ := hr2
    have rf := H2.out.p1.free
    have F := Lib.hid (H2.out.p1.set3 (.int .i64 2) (.int .i64 p2) (.int .i64 0))
    go_wp2
    obtain ⟨d0, d1, d2⟩ := F.out.cells3
    refine bodyPost_ret (v := .agg #[.int .i64 2, .int .i64 p2, .int .i64 0]) (by simp [results, Tryd.results17, go_sem, d0, d1, d2]) rfl ⟨_, _, _, rfl, (F.out.drop).more (by omega)⟩
  · subst q
    clear p10 p11
    go_wp2_with fail
    refine (H1.out.pick (by omega) 5 (by omega) (by omega)).mono ?_
    rintro e w2 ⟨p2, rfl, p20, p21, h2⟩
    have H2 := Lib.hid h2
    clear h2
    have hr2 := H2.out.p1.cells3
    obtain ⟨r0, r1, r2⟩ := hr2
    have rf := H2.out.p1.free
    have F := Lib.hid (H2.out.p1.set3 (.int .i64 3) (.int .i64 p2) (.int .i64 0))
    go_wp2
    obtain ⟨d0, d1, d2⟩ := F.out.cells3
    refine bodyPost_ret (v := .agg #[.int .i64 3, .int .i64 p2, .int .i64 0]) (by simp [results, Tryd.results17, go_sem, d0, d1, d2]) rfl ⟨_, _, _, rfl, (F.out.drop).more (by omega)⟩
  · subst q
    clear p10 p11
    go_wp2_with fail
    refine (H1.out.pick (by omega) 5 (by omega) (by omega)).mono ?_
    rintro e w2 ⟨p2, rfl, p20, p21, h2⟩
    have H2 := Lib.hid h2
    clear h2
    have hr2 := H2.out.p1.cells3
    obtain ⟨r0, r1, r2⟩ := hr2
    have rf := H2.out.p1.free
    have F := Lib.hid (H2.out.p1.set3 (.int .i64 3) (.int .i64 p2) (.int .i64 0))
    go_wp2
    obtain ⟨d0, d1, d2⟩ := F.out.cells3
    refine bodyPost_ret (v := .agg #[.int .i64 3, .int .i64 p2, .int .i64 0]) (by simp [results, Tryd.results17, go_sem, d0, d1, d2]) rfl ⟨_, _, _, rfl, (F.out.drop).more (by omega)⟩
  · subst q
    clear p10 p11
    go_wp2_with fail
    refine (H1.out.pick (by omega) 5 (by omega) (by omega)).mono ?_
    rintro e w2 ⟨p2, rfl, p20, p21, h2⟩
    have H2 := Lib.hid h2
    clear h2
    have hr2 := H2.out.p1.cells3
    obtain ⟨r0, r1, r2⟩ := hr2
    have rf := H2.out.p1.free
    have F := Lib.hid (H2.out.p1.set3 (.int .i64 3) (.int .i64 p2) (.int .i64 0))
    go_wp2
    obtain ⟨d0, d1, d2⟩ := F.out.cells3
    refine bodyPost_ret (v := .agg #[.int .i64 3, .int .i64 p2, .int .i64 0]) (by simp [results, Tryd.results17, go_sem, d0, d1, d2]) rfl ⟨_, _, _, rfl, (F.out.drop).more (by omega)⟩
  · subst q
    clear p10 p11
    go_wp2_with fail
    refine (H1.out.pick (by omega) 4 (by omega) (by omega)).mono ?_
    rintro e w2 ⟨p2, rfl, p20, p21, h2⟩
    have H2 := Lib.hid h2
    clear h2
    have hr2 := H2.out.p1.cells3
    obtain ⟨r0, r1, r2⟩ := hr2
    have rf := H2.out.p1.free
    have F := Lib.hid (H2.out.p1.set3 (.int .i64 4) (.int .i64 p2) (.int .i64 0))
    go_wp2
    obtain ⟨d0, d1, d2⟩ := F.out.cells3
    refine bodyPost_ret (v := .agg #[.int .i64 4, .int .i64 p2, .int .i64 0]) (by simp [results, Tryd.results17, go_sem, d0, d1, d2]) rfl ⟨_, _, _, rfl, (F.out.drop).more (by omega)⟩
  · subst q
    clear p10 p11
    go_wp2_with fail
    refine (H1.out.pick (by omega) 4 (by omega) (by omega)).mono ?_
    rintro e w2 ⟨p2, rfl, p20, p21, h2⟩
    have H2 := Lib.hid h2
    clear h2
    have hr2 := H2.out.p1.cells3
    obtain ⟨r0, r1, r2⟩ := hr2
    have rf := H2.out.p1.free
    have F := Lib.hid (H2.out.p1.set3 (.int .i64 4) (.int .i64 p2) (.int .i64 0))
    go_wp2
    obtain ⟨d0, d1, d2⟩ := F.out.cells3
    refine bodyPost_ret (v := .agg #[.int .i64 4, .int .i64 p2, .int .i64 0]) (by simp [results, Tryd.results17, go_sem, d0, d1, d2]) rfl ⟨_, _, _, rfl, (F.out.drop).more (by omega)⟩
  · subst q
    clear p10 p11
    go_wp2_with fail
    refine (H1.out.pick (by omega) 4 (by omega) (by omega)).mono ?_
    rintro e w2 ⟨p2, rfl, p20, p21, h2⟩
    have H2 := Lib.hid h2
    clear h2
    have hr2 := H2.out.p1.cells3
    obtain ⟨r0, r1, r2⟩ := hr2
    have rf := H2.out.p1.free
    have F := Lib.hid (H2.out.p1.set3 (.int .i64 4) (.int .i64 p2) (.int .i64 0))
    go_wp2
    obtain ⟨d0, d1, d2⟩ := F.out.cells3
    refine bodyPost_ret (v := .agg #[.int .i64 4, .int .i64 p2, .int .i64 0]) (by simp [results, Tryd.results17, go_sem, d0, d1, d2]) rfl ⟨_, _, _, rfl, (F.out.drop).more (by omega)⟩
  · subst q
    clear p10 p11
    go_wp2_with fail
    refine (H1.out.pick (by omega) 4 (by omega) (by omega)).mono ?_
    rintro e w2 ⟨p2, rfl, p20, p21, h2⟩
    have H2 := Lib.hid h2
    clear h2
    have hr2 := H2.out.p1.cells3
    obtain ⟨r0, r1, r2⟩ := hr2
    have rf := H2.out.p1.free
    have F := Lib.hid (H2.out.p1.set3 (.int .i64 4) (.int .i64 p2) (.int .i64 0))
    go_wp2
    obtain ⟨d0, d1, d2⟩ := F.out.cells3
    refine bodyPost_ret (v := .agg #[.int .i64 4, .int .i64 p2, .int .i64 0]) (by simp [results, Tryd.results17, go_sem, d0, d1, d2]) rfl ⟨_, _, _, rfl, (F.out.drop).more (by omega)⟩
  · subst q
    clear p10 p11
    go_wp2_with fail
    refine (H1.out.pick (by omega) 4 (by omega) (by omega)).mono ?_
    rintro e w2 ⟨p2, rfl, p20, p21, h2⟩
    have H2 := Lib.hid h2
    clear h2
    have hr2 := H2.out.p1.cells3
    obtain ⟨r0, r1, r2⟩ := hr2
    have rf := H2.out.p1.free
    have F := Lib.hid (H2.out.p1.set3 (.int .i64 4) (.int .i64 p2) (.int .i64 0))
    go_wp2
    obtain ⟨d0, d1, d2⟩ := F.out.cells3
    refine bodyPost_ret (v := .agg #[.int .i64 4, .int .i64 p2, .int .i64 0]) (by simp [results, Tryd.results17, go_sem, d0, d1, d2]) rfl ⟨_, _, _, rfl, (F.out.drop).more (by omega)⟩
  · subst q
    clear p10 p11
    go_wp2_with fail
    refine (H1.out.pick (by omega) 5 (by omega) (by omega)).mono ?_
    rintro e w2 ⟨p2, rfl, p20, p21, h2⟩
    have H2 := Lib.hid h2
    clear h2
    have hr2 := H2.out.p1.cells3
    obtain ⟨r0, r1, r2⟩ := hr2
    have rf := H2.out.p1.free
    have F := Lib.hid (H2.out.p1.set3 (.int .i64 5) (.int .i64 p2) (.int .i64 0))
    go_wp2
    obtain ⟨d0, d1, d2⟩ := F.out.cells3
    refine bodyPost_ret (v := .agg #[.int .i64 5, .int .i64 p2, .int .i64 0]) (by simp [results, Tryd.results17, go_sem, d0, d1, d2]) rfl ⟨_, _, _, rfl, (F.out.drop).more (by omega)⟩
  · subst q
    clear p10 p11
    go_wp2_with fail
    refine (H1.out.pick (by omega) 6 (by omega) (by omega)).mono ?_
    rintro e w2 ⟨p2, rfl, p20, p21, h2⟩
    have H2 := Lib.hid h2
    clear h2
    have hr2 := H2.out.p1.cells3
    obtain ⟨r0, r1, r2⟩ := hr2
    have rf := H2.out.p1.free
    have F := Lib.hid (H2.out.p1.set3 (.int .i64 6) (.int .i64 p2) (.int .i64 0))
    go_wp2
    obtain ⟨d0, d1, d2⟩ := F.out.cells3
    refine bodyPost_ret (v := .agg #[.int .i64 6, .int .i64 p2, .int .i64 0]) (by simp [results, Tryd.results17, go_sem, d0, d1, d2]) rfl ⟨_, _, _, rfl, (F.out.drop).more (by omega)⟩
  · subst q
    clear p10 p11
    have hr1 := H1.out.p1.cells3
    obtain ⟨r0, r1, r2⟩ := hr1
    have rf := H1.out.p1.free
    have F := Lib.hid (H1.out.p1.set3 (.int .i64 8) (.int .i64 0) (.int .i64 0))
    go_wp2
    obtain ⟨d0, d1, d2⟩ := F.out.cells3
    refine bodyPost_ret (v := .agg #[.int .i64 8, .int .i64 0, .int .i64 0]) (by simp [results, Tryd.results17, go_sem, d0, d1, d2]) rfl ⟨_, _, _, rfl, (F.out.drop).more (by omega)⟩
  · subst q
    clear p10 p11
    go_upto_region 28 with fail
    have HD := Lib.hid H1.out.drew
    refine wp_region_plan 10 (.take 1 (.take 5 (.take 7 (.alt 0 (.alt 2 (.take 3 (.alt 4 (.alt 6 (.alt 8 (.take 9 (.alt 10 .done .nomore)) .nomore) .nomore) (.alt 6 (.alt 4 (.alt 8 (.take 9 (.alt 10 .done .nomore)) .nomore) (.alt 8 (.alt 4 (.take 9 (.alt 10 .done .nomore)) .nomore) .nomore)) .nomore))) .nomore) (.alt 2 (.alt 0 (.take 3 (.alt 4 (.alt 6 (.alt 8 (.take 9 (.alt 10 .done .nomore)) .nomore) .nomore) (.alt 6 (.alt 4 (.alt 8 (.take 9 (.alt 10 .done .nomore)) .nomore) (.alt 8 (.alt 4 (.take 9 (.alt 10 .done .nomore)) .nomore) .nomore)) .nomore))) (.alt 6 (.alt 0 (.take 3 (.alt 4 (.alt 8 (.take 9 (.alt 10 .done .nomore)) .nomore) (.alt 8 (.alt 4 (.take 9 (.alt 10 .done .nomore)) .nomore) .nomore))) (.alt 8 (.alt 0 (.take 3 (.alt 4 (.take 9 (.alt 10 .done .nomore)) .nomore)) .nomore) .nomore)) .nomore)) .nomore))))) (fun _ => True) (by kernel_rfl) (by kernel_rfl) (fun _ _ _ _ _ h => h) trivial ?_
    repeat (first | (refine plan_take (by rfl) (by rfl) ?_; apply Exists.intro; refine ⟨fun w' hw' => ?_, ?_⟩; (· ((try dsimp only at hw'); go_simp; (try with_reducible rfl))); simp only [Act.put, List.getElem_toArray, List.getElem_cons_succ, List.getElem_cons_zero, List.setIfInBounds_toArray, List.set_cons_zero, List.set_cons_succ]) | (refine plan_skip (by rfl) (by rfl) ?_; simp only [Act.put, List.getElem_toArray, List.getElem_cons_succ, List.getElem_cons_zero, List.setIfInBounds_toArray, List.set_cons_zero, List.set_cons_succ]))
    refine plan_alt (by rfl) (fun K' hK => ?_) ?_
    · skip
      go_simp
      have hh := (HD.out.alloc #[.int .i64 9, .int .i64 10, .int .i64 10] 3).p1
      (try rw [drew_size] at hh)
      have HDa := Lib.hid hh
      clear hh
      refine hK _ _ (.inr trivial) ?_
      clear hK K'
      try simp only [Act.put, List.getElem_toArray, List.getElem_cons_succ, List.getElem_cons_zero, List.setIfInBounds_toArray, List.set_cons_zero, List.set_cons_succ]
      refine plan_last (by rfl) (fun K' hK => ?_)
      go_simp
      refine (HDa.out.pick (by omega) 3 (by omega) (by omega)).mono ?_
      rintro e w2 ⟨p2, rfl, p20, p21, hh⟩
      have HDab := Lib.hid hh
      clear hh
      obtain ⟨n, hn⟩ : ∃ n : Nat, p2 = n := ⟨p2.toNat, by omega⟩
      subst hn
      obtain ⟨u5, hu5⟩ := lit3 9 10 10 (n := n) (by omega)
      have nn : n < 3 := by omega
      have n0 : (0 : Int) ≤ (n : Int) := by omega
      have n3 : (n : Int) < 3 := by omega
      have HU := Lib.hid hu5
      clear hu5 p20 p21
      refine hK _ _ (.inr trivial) ?_
      clear hK K'
      try simp only [Act.put, List.getElem_toArray, List.getElem_cons_succ, List.getElem_cons_zero, List.setIfInBounds_toArray, List.set_cons_zero, List.set_cons_succ]
      repeat (first | (refine plan_take (by rfl) (by rfl) ?_; apply Exists.intro; refine ⟨fun w' hw' => ?_, ?_⟩; (· ((try dsimp only at hw'); go_simp; (try with_reducible rfl))); simp only [Act.put, List.getElem_toArray, List.getElem_cons_succ, List.getElem_cons_zero, List.setIfInBounds_toArray, List.set_cons_zero, List.set_cons_succ]) | (refine plan_skip (by rfl) (by rfl) ?_; simp only [Act.put, List.getElem_toArray, List.getElem_cons_succ, List.getElem_cons_zero, List.setIfInBounds_toArray, List.set_cons_zero, List.set_cons_succ]))
      refine plan_alt (by rfl) (fun K' hK => ?_) ?_
      · skip
        have g5 := HDab.out.p1.cell HU.out
        go_simp
        refine hK _ _ (.inr trivial) ?_
        clear hK K'
        try simp only [Act.put, List.getElem_toArray, List.getElem_cons_succ, List.getElem_cons_zero, List.setIfInBounds_toArray, List.set_cons_zero, List.set_cons_succ]
        refine plan_last (by rfl) (fun K' hK => ?_)
        go_simp
        refine (HDab.out.pick (by omega) 5 (by omega) (by omega)).mono ?_
        rintro e w6 ⟨p6, rfl, p60, p61, hh⟩
        have HDabb := Lib.hid hh
        clear hh
        refine hK _ _ (.inr trivial) ?_
        clear hK K'
        try simp only [Act.put, List.getElem_toArray, List.getElem_cons_succ, List.getElem_cons_zero, List.setIfInBounds_toArray, List.set_cons_zero, List.set_cons_succ]
        refine plan_last (by rfl) (fun K' hK => ?_)
        go_simp
        refine (HDabb.out.pick (by omega) 5 (by omega) (by omega)).mono ?_
        rintro e w8 ⟨p8, rfl, p80, p81, hh⟩
        have HDabbb := Lib.hid hh
        clear hh
        refine hK _ _ (.inr trivial) ?_
        clear hK K'
        try simp only [Act.put, List.getElem_toArray, List.getElem_cons_succ, List.getElem_cons_zero, List.setIfInBounds_toArray, List.set_cons_zero, List.set_cons_succ]
        repeat (first | (refine plan_take (by rfl) (by rfl) ?_; apply Exists.intro; refine ⟨fun w' hw' => ?_, ?_⟩; (· ((try dsimp only at hw'); go_simp; (try with_reducible rfl))); simp only [Act.put, List.getElem_toArray, List.getElem_cons_succ, List.getElem_cons_zero, List.setIfInBounds_toArray, List.set_cons_zero, List.set_cons_succ]) | (refine plan_skip (by rfl) (by rfl) ?_; simp only [Act.put, List.getElem_toArray, List.getElem_cons_succ, List.getElem_cons_zero, List.setIfInBounds_toArray, List.set_cons_zero, List.set_cons_succ]))
        refine plan_last (by rfl) (fun K' hK => ?_)
        obtain ⟨r0, r1, r2⟩ := HDabbb.out.p2.cells3
        have rf := HDabbb.out.p2.free
        have F := Lib.hid (HDabbb.out.p2.set3 (.int .i64 u5) (.int .i64 p6) (.int .i64 p8))
        go_simp
        refine hK _ _ (.inl rfl) ?_
        clear hK K'
        try simp only [Act.put, List.getElem_toArray, List.getElem_cons_succ, List.getElem_cons_zero, List.setIfInBounds_toArray, List.set_cons_zero, List.set_cons_succ]
        refine plan_done ?_
        clear r0 r1 r2 rf
        go_wp2
        obtain ⟨d0, d1, d2⟩ := F.out.cells3
        refine bodyPost_ret (v := .agg #[.int .i64 u5, .int .i64 p6, .int .i64 p8]) (by simp [results, Tryd.results17, go_sem, d0, d1, d2]) rfl ⟨_, _, _, rfl, (F.out.drop.p1.drop).more (by omega)⟩
      · skip
        refine plan_last (by rfl) (fun K' hK => ?_)
        skip
        go_simp
        refine (HDab.out.pick (by omega) 5 (by omega) (by omega)).mono ?_
        rintro e w6 ⟨p6, rfl, p60, p61, hh⟩
        have HDabb := Lib.hid hh
        clear hh
        refine hK _ _ (.inr trivial) ?_
        clear hK K'
        try simp only [Act.put, List.getElem_toArray, List.getElem_cons_succ, List.getElem_cons_zero, List.setIfInBounds_toArray, List.set_cons_zero, List.set_cons_succ]
        refine plan_alt (by rfl) (fun K' hK => ?_) ?_
        · skip
          have g5 := HDabb.out.p1.cell HU.out
          go_simp
          refine hK _ _ (.inr trivial) ?_
          clear hK K'
          try simp only [Act.put, List.getElem_toArray, List.getElem_cons_succ, List.getElem_cons_zero, List.setIfInBounds_toArray, List.set_cons_zero, List.set_cons_succ]
          refine plan_last (by rfl) (fun K' hK => ?_)
          go_simp
          refine (HDabb.out.pick (by omega) 5 (by omega) (by omega)).mono ?_
          rintro e w8 ⟨p8, rfl, p80, p81, hh⟩
          have HDabbb := Lib.hid hh
          clear hh
          refine hK _ _ (.inr trivial) ?_
          clear hK K'
          try simp only [Act.put, List.getElem_toArray, List.getElem_cons_succ, List.getElem_cons_zero, List.setIfInBounds_toArray, List.set_cons_zero, List.set_cons_succ]
          repeat (first | (refine plan_take (by rfl) (by rfl) ?_; apply Exists.intro; refine ⟨fun w' hw' => ?_, ?_⟩; (· ((try dsimp only at hw'); go_simp; (try with_reducible rfl))); simp only [Act.put, List.getElem_toArray, List.getElem_cons_succ, List.getElem_cons_zero, List.setIfInBounds_toArray, List.set_cons_zero, List.set_cons_succ]) | (refine plan_skip (by rfl) (by rfl) ?_; simp only [Act.put, List.getElem_toArray, List.getElem_cons_succ, List.getElem_cons_zero, List.setIfInBounds_toArray, List.set_cons_zero, List.set_cons_succ]))
          refine plan_last (by rfl) (fun K' hK => ?_)
          obtain ⟨r0, r1, r2⟩ := HDabbb.out.p2.cells3
          have rf := HDabbb.out.p2.free
          have F := Lib.hid (HDabbb.out.p2.set3 (.int .i64 u5) (.int .i64 p6) (.int .i64 p8))
          go_simp
          refine hK _ _ (.inl rfl) ?_
          clear hK K'
          try simp only [Act.put, List.getElem_toArray, List.getElem_cons_succ, List.getElem_cons_zero, List.setIfInBounds_toArray, List.set_cons_zero, List.set_cons_succ]
          refine plan_done ?_
          clear r0 r1 r2 rf
          go_wp2
          obtain ⟨d0, d1, d2⟩ := F.out.cells3
          refine bodyPost_ret (v := .agg #[.int .i64 u5, .int .i64 p6, .int .i64 p8]) (by simp [results, Tryd.results17, go_sem, d0, d1, d2]) rfl ⟨_, _, _, rfl, (F.out.drop.p1.drop).more (by omega)⟩
        · skip
          refine plan_last (by rfl) (fun K' hK => ?_)
          skip
          go_simp
          refine (HDabb.out.pick (by omega) 5 (by omega) (by omega)).mono ?_
          rintro e w8 ⟨p8, rfl, p80, p81, hh⟩
          have HDabbb := Lib.hid hh
          clear hh
          refine hK _ _ (.inr trivial) ?_
          clear hK K'
          try simp only [Act.put, List.getElem_toArray, List.getElem_cons_succ, List.getElem_cons_zero, List.setIfInBounds_toArray, List.set_cons_zero, List.set_cons_succ]
          refine plan_last (by rfl) (fun K' hK => ?_)
          have g5 := HDabbb.out.p1.cell HU.out
          go_simp
          refine hK _ _ (.inr trivial) ?_
          clear hK K'
          try simp only [Act.put, List.getElem_toArray, List.getElem_cons_succ, List.getElem_cons_zero, List.setIfInBounds_toArray, List.set_cons_zero, List.set_cons_succ]
          repeat (first | (refine plan_take (by rfl) (by rfl) ?_; apply Exists.intro; refine ⟨fun w' hw' => ?_, ?_⟩; (· ((try dsimp only at hw'); go_simp; (try with_reducible rfl))); simp only [Act.put, List.getElem_toArray, List.getElem_cons_succ, List.getElem_cons_zero, List.setIfInBounds_toArray, List.set_cons_zero, List.set_cons_succ]) | (refine plan_skip (by rfl) (by rfl) ?_; simp only [Act.put, List.getElem_toArray, List.getElem_cons_succ, List.getElem_cons_zero, List.setIfInBounds_toArray, List.set_cons_zero, List.set_cons_succ]))
          refine plan_last (by rfl) (fun K' hK => ?_)
          obtain ⟨r0, r1, r2⟩ := HDabbb.out.p2.cells3
          have rf := HDabbb.out.p2.free
          have F := Lib.hid (HDabbb.out.p2.set3 (.int .i64 u5) (.int .i64 p6) (.int .i64 p8))
          go_simp
          refine hK _ _ (.inl rfl) ?_
          clear hK K'
          try simp only [Act.put, List.getElem_toArray, List.getElem_cons_succ, List.getElem_cons_zero, List.setIfInBounds_toArray, List.set_cons_zero, List.set_cons_succ]
          refine plan_done ?_
          clear r0 r1 r2 rf
          go_wp2
          obtain ⟨d0, d1, d2⟩ := F.out.cells3
          refine bodyPost_ret (v := .agg #[.int .i64 u5, .int .i64 p6, .int .i64 p8]) (by simp [results, Tryd.results17, go_sem, d0, d1, d2]) rfl ⟨_, _, _, rfl, (F.out.drop.p1.drop).more (by omega)⟩
    · skip
      refine plan_last (by rfl) (fun K' hK => ?_)
      skip
      go_simp
      refine (HD.out.pick (by omega) 3 (by omega) (by omega)).mono ?_
      rintro e w2 ⟨p2, rfl, p20, p21, hh⟩
      have HDb := Lib.hid hh
      clear hh
      obtain ⟨n, hn⟩ : ∃ n : Nat, p2 = n := ⟨p2.toNat, by omega⟩
      subst hn
      obtain ⟨u5, hu5⟩ := lit3 9 10 10 (n := n) (by omega)
      have nn : n < 3 := by omega
      have n0 : (0 : Int) ≤ (n : Int) := by omega
      have n3 : (n : Int) < 3 := by omega
      have HU := Lib.hid hu5
      clear hu5 p20 p21
      refine hK _ _ (.inr trivial) ?_
      clear hK K'
      try simp only [Act.put, List.getElem_toArray, List.getElem_cons_succ, List.getElem_cons_zero, List.setIfInBounds_toArray, List.set_cons_zero, List.set_cons_succ]
      refine plan_alt (by rfl) (fun K' hK => ?_) ?_
      · skip
        go_simp
        have hh := (HDb.out.alloc #[.int .i64 9, .int .i64 10, .int .i64 10] 3).p1
        (try rw [drew_size] at hh)
        have HDba := Lib.hid hh
        clear hh
        refine hK _ _ (.inr trivial) ?_
        clear hK K'
        try simp only [Act.put, List.getElem_toArray, List.getElem_cons_succ, List.getElem_cons_zero, List.setIfInBounds_toArray, List.set_cons_zero, List.set_cons_succ]
        repeat (first | (refine plan_take (by rfl) (by rfl) ?_; apply Exists.intro; refine ⟨fun w' hw' => ?_, ?_⟩; (· ((try dsimp only at hw'); go_simp; (try with_reducible rfl))); simp only [Act.put, List.getElem_toArray, List.getElem_cons_succ, List.getElem_cons_zero, List.setIfInBounds_toArray, List.set_cons_zero, List.set_cons_succ]) | (refine plan_skip (by rfl) (by rfl) ?_; simp only [Act.put, List.getElem_toArray, List.getElem_cons_succ, List.getElem_cons_zero, List.setIfInBounds_toArray, List.set_cons_zero, List.set_cons_succ]))
        refine plan_alt (by rfl) (fun K' hK => ?_) ?_
        · skip
          have g5 := HDba.out.p1.cell HU.out
          go_simp
          refine hK _ _ (.inr trivial) ?_
          clear hK K'
          try simp only [Act.put, List.getElem_toArray, List.getElem_cons_succ, List.getElem_cons_zero, List.setIfInBounds_toArray, List.set_cons_zero, List.set_cons_succ]
          refine plan_last (by rfl) (fun K' hK => ?_)
          go_simp
          refine (HDba.out.pick (by omega) 5 (by omega) (by omega)).mono ?_
          rintro e w6 ⟨p6, rfl, p60, p61, hh⟩
          have HDbab := Lib.hid hh
          clear hh
          refine hK _ _ (.inr trivial) ?_
          clear hK K'
          try simp only [Act.put, List.getElem_toArray, List.getElem_cons_succ, List.getElem_cons_zero, List.setIfInBounds_toArray, List.set_cons_zero, List.set_cons_succ]
          refine plan_last (by rfl) (fun K' hK => ?_)
          go_simp
          refine (HDbab.out.pick (by omega) 5 (by omega) (by omega)).mono ?_
          rintro e w8 ⟨p8, rfl, p80, p81, hh⟩
          have HDbabb := Lib.hid hh
          clear hh
          refine hK _ _ (.inr trivial) ?_
          clear hK K'
          try simp only [Act.put, List.getElem_toArray, List.getElem_cons_succ, List.getElem_cons_zero, List.setIfInBounds_toArray, List.set_cons_zero, List.set_cons_succ]
          repeat (first | (refine plan_take (by rfl) (by rfl) ?_; apply Exists.intro; refine ⟨fun w' hw' => ?_, ?_⟩; (· ((try dsimp only at hw'); go_simp; (try with_reducible rfl))); simp only [Act.put, List.getElem_toArray, List.getElem_cons_succ, List.getElem_cons_zero, List.setIfInBounds_toArray, List.set_cons_zero, List.set_cons_succ]) | (refine plan_skip (by rfl) (by rfl) ?_; simp only [Act.put, List.getElem_toArray, List.getElem_cons_succ, List.getElem_cons_zero, List.setIfInBounds_toArray, List.set_cons_zero, List.set_cons_succ]))
          refine plan_last (by rfl) (fun K' hK => ?_)
          obtain ⟨r0, r1, r2⟩ := HDbabb.out.p2.cells3
          have rf := HDbabb.out.p2.free
          have F := Lib.hid (HDbabb.out.p2.set3 (.int .i64 u5) (.int .i64 p6) (.int .i64 p8))
          go_simp
          refine hK _ _ (.inl rfl) ?_
          clear hK K'
          try simp only [Act.put, List.getElem_toArray, List.getElem_cons_succ, List.getElem_cons_zero, List.setIfInBounds_toArray, List.set_cons_zero, List.set_cons_succ]
          refine plan_done ?_
          clear r0 r1 r2 rf
          go_wp2
          obtain ⟨d0, d1, d2⟩ := F.out.cells3
          refine bodyPost_ret (v := .agg #[.int .i64 u5, .int .i64 p6, .int .i64 p8]) (by simp [results, Tryd.results17, go_sem, d0, d1, d2]) rfl ⟨_, _, _, rfl, (F.out.drop.p1.drop).more (by omega)⟩
        · skip
          refine plan_last (by rfl) (fun K' hK => ?_)
          skip
          go_simp
          refine (HDba.out.pick (by omega) 5 (by omega) (by omega)).mono ?_
          rintro e w6 ⟨p6, rfl, p60, p61, hh⟩
          have HDbab := Lib.hid hh
          clear hh
          refine hK _ _ (.inr trivial) ?_
          clear hK K'
          try simp only [Act.put, List.getElem_toArray, List.getElem_cons_succ, List.getElem_cons_zero, List.setIfInBounds_toArray, List.set_cons_zero, List.set_cons_succ]
          refine plan_alt (by rfl) (fun K' hK => ?_) ?_
          · skip
            have g5 := HDbab.out.p1.cell HU.out
            go_simp
            refine hK _ _ (.inr trivial) ?_
            clear hK K'
            try simp only [Act.put, List.getElem_toArray, List.getElem_cons_succ, List.getElem_cons_zero, List.setIfInBounds_toArray, List.set_cons_zero, List.set_cons_succ]
            refine plan_last (by rfl) (fun K' hK => ?_)
            go_simp
            refine (HDbab.out.pick (by omega) 5 (by omega) (by omega)).mono ?_
            rintro e w8 ⟨p8, rfl, p80, p81, hh⟩
            have HDbabb := Lib.hid hh
            clear hh
            refine hK _ _ (.inr trivial) ?_
            clear hK K'
            try simp only [Act.put, List.getElem_toArray, List.getElem_cons_succ, List.getElem_cons_zero, List.setIfInBounds_toArray, List.set_cons_zero, List.set_cons_succ]
            repeat (first | (refine plan_take (by rfl) (by rfl) ?_; apply Exists.intro; refine ⟨fun w' hw' => ?_, ?_⟩; (· ((try dsimp only at hw'); go_simp; (try with_reducible rfl))); simp only [Act.put, List.getElem_toArray, List.getElem_cons_succ, List.getElem_cons_zero, List.setIfInBounds_toArray, List.set_cons_zero, List.set_cons_succ]) | (refine plan_skip (by rfl) (by rfl) ?_; simp only [Act.put, List.getElem_toArray, List.getElem_cons_succ, List.getElem_cons_zero, List.setIfInBounds_toArray, List.set_cons_zero, List.set_cons_succ]))
            refine plan_last (by rfl) (fun K' hK => ?_)
            obtain ⟨r0, r1, r2⟩ := HDbabb.out.p2.cells3
            have rf := HDbabb.out.p2.free
            have F := Lib.hid (HDbabb.out.p2.set3 (.int .i64 u5) (.int .i64 p6) (.int .i64 p8))
            go_simp
            refine hK _ _ (.inl rfl) ?_
            clear hK K'
            try simp only [Act.put, List.getElem_toArray, List.getElem_cons_succ, List.getElem_cons_zero, List.setIfInBounds_toArray, List.set_cons_zero, List.set_cons_succ]
            refine plan_done ?_
            clear r0 r1 r2 rf
            go_wp2
            obtain ⟨d0, d1, d2⟩ := F.out.cells3
            refine bodyPost_ret (v := .agg #[.int .i64 u5, .int .i64 p6, .int .i64 p8]) (by simp [results, Tryd.results17, go_sem, d0, d1, d2]) rfl ⟨_, _, _, rfl, (F.out.drop.p1.drop).more (by omega)⟩
          · skip
            refine plan_last (by rfl) (fun K' hK => ?_)
            skip
            go_simp
            refine (HDbab.out.pick (by omega) 5 (by omega) (by omega)).mono ?_
            rintro e w8 ⟨p8, rfl, p80, p81, hh⟩
            have HDbabb := Lib.hid hh
            clear hh
            refine hK _ _ (.inr trivial) ?_
            clear hK K'
            try simp only [Act.put, List.getElem_toArray, List.getElem_cons_succ, List.getElem_cons_zero, List.setIfInBounds_toArray, List.set_cons_zero, List.set_cons_succ]
            refine plan_last (by rfl) (fun K' hK => ?_)
            have g5 := HDbabb.out.p1.cell HU.out
            go_simp
            refine hK _ _ (.inr trivial) ?_
            clear hK K'
            try simp only [Act.put, List.getElem_toArray, List.getElem_cons_succ, List.getElem_cons_zero, List.setIfInBounds_toArray, List.set_cons_zero, List.set_cons_succ]
            repeat (first | (refine plan_take (by rfl) (by rfl) ?_; apply Exists.intro; refine ⟨fun w' hw' => ?_, ?_⟩; (· ((try dsimp only at hw'); go_simp; (try with_reducible rfl))); simp only [Act.put, List.getElem_toArray, List.getElem_cons_succ, List.getElem_cons_zero, List.setIfInBounds_toArray, List.set_cons_zero, List.set_cons_succ]) | (refine plan_skip (by rfl) (by rfl) ?_; simp only [Act.put, List.getElem_toArray, List.getElem_cons_succ, List.getElem_cons_zero, List.setIfInBounds_toArray, List.set_cons_zero, List.set_cons_succ]))
            refine plan_last (by rfl) (fun K' hK => ?_)
            obtain ⟨r0, r1, r2⟩ := HDbabb.out.p2.cells3
            have rf := HDbabb.out.p2.free
            have F := Lib.hid (HDbabb.out.p2.set3 (.int .i64 u5) (.int .i64 p6) (.int .i64 p8))
            go_simp
            refine hK _ _ (.inl rfl) ?_
            clear hK K'
            try simp only [Act.put, List.getElem_toArray, List.getElem_cons_succ, List.getElem_cons_zero, List.setIfInBounds_toArray, List.set_cons_zero, List.set_cons_succ]
            refine plan_done ?_
            clear r0 r1 r2 rf
            go_wp2
            obtain ⟨d0, d1, d2⟩ := F.out.cells3
            refine bodyPost_ret (v := .agg #[.int .i64 u5, .int .i64 p6, .int .i64 p8]) (by simp [results, Tryd.results17, go_sem, d0, d1, d2]) rfl ⟨_, _, _, rfl, (F.out.drop.p1.drop).more (by omega)⟩
      · skip
        refine plan_last (by rfl) (fun K' hK => ?_)
        skip
        go_simp
        refine (HDb.out.pick (by omega) 5 (by omega) (by omega)).mono ?_
        rintro e w6 ⟨p6, rfl, p60, p61, hh⟩
        have HDbb := Lib.hid hh
        clear hh
        refine hK _ _ (.inr trivial) ?_
        clear hK K'
        try simp only [Act.put, List.getElem_toArray, List.getElem_cons_succ, List.getElem_cons_zero, List.setIfInBounds_toArray, List.set_cons_zero, List.set_cons_succ]
        refine plan_alt (by rfl) (fun K' hK => ?_) ?_
        · skip
          go_simp
          have hh := (HDbb.out.alloc #[.int .i64 9, .int .i64 10, .int .i64 10] 3).p1
          (try rw [drew_size] at hh)
          have HDbba := Lib.hid hh
          clear hh
          refine hK _ _ (.inr trivial) ?_
          clear hK K'
          try simp only [Act.put, List.getElem_toArray, List.getElem_cons_succ, List.getElem_cons_zero, List.setIfInBounds_toArray, List.set_cons_zero, List.set_cons_succ]
          repeat (first | (refine plan_take (by rfl) (by rfl) ?_; apply Exists.intro; refine ⟨fun w' hw' => ?_, ?_⟩; (· ((try dsimp only at hw'); go_simp; (try with_reducible rfl))); simp only [Act.put, List.getElem_toArray, List.getElem_cons_succ, List.getElem_cons_zero, List.setIfInBounds_toArray, List.set_cons_zero, List.set_cons_succ]) | (refine plan_skip (by rfl) (by rfl) ?_; simp only [Act.put, List.getElem_toArray, List.getElem_cons_succ, List.getElem_cons_zero, List.setIfInBounds_toArray, List.set_cons_zero, List.set_cons_succ]))
          refine plan_alt (by rfl) (fun K' hK => ?_) ?_
          · skip
            have g5 := HDbba.out.p1.cell HU.out
            go_simp
            refine hK _ _ (.inr trivial) ?_
            clear hK K'
            try simp only [Act.put, List.getElem_toArray, List.getElem_cons_succ, List.getElem_cons_zero, List.setIfInBounds_toArray, List.set_cons_zero, List.set_cons_succ]
            refine plan_last (by rfl) (fun K' hK => ?_)
            go_simp
            refine (HDbba.out.pick (by omega) 5 (by omega) (by omega)).mono ?_
            rintro e w8 ⟨p8, rfl, p80, p81, hh⟩
            have HDbbab := Lib.hid hh
            clear hh
            refine hK _ _ (.inr trivial) ?_
            clear hK K'
            try simp only [Act.put, List.getElem_toArray, List.getElem_cons_succ, List.getElem_cons_zero, List.setIfInBounds_toArray, List.set_cons_zero, List.set_cons_succ]
            repeat (first | (refine plan_take (by rfl) (by rfl) ?_; apply Exists.intro; refine ⟨fun w' hw' => ?_, ?_⟩; (· ((try dsimp only at hw'); go_simp; (try with_reducible rfl))); simp only [Act.put, List.getElem_toArray, List.getElem_cons_succ, List.getElem_cons_zero, List.setIfInBounds_toArray, List.set_cons_zero, List.set_cons_succ]) | (refine plan_skip (by rfl) (by rfl) ?_; simp only [Act.put, List.getElem_toArray, List.getElem_cons_succ, List.getElem_cons_zero, List.setIfInBounds_toArray, List.set_cons_zero, List.set_cons_succ]))
            refine plan_last (by rfl) (fun K' hK => ?_)
            obtain ⟨r0, r1, r2⟩ := HDbbab.out.p2.cells3
            have rf := HDbbab.out.p2.free
            have F := Lib.hid (HDbbab.out.p2.set3 (.int .i64 u5) (.int .i64 p6) (.int .i64 p8))
            go_simp
            refine hK _ _ (.inl rfl) ?_
            clear hK K'
            try simp only [Act.put, List.getElem_toArray, List.getElem_cons_succ, List.getElem_cons_zero, List.setIfInBounds_toArray, List.set_cons_zero, List.set_cons_succ]
            refine plan_done ?_
            clear r0 r1 r2 rf
            go_wp2
            obtain ⟨d0, d1, d2⟩ := F.out.cells3
            refine bodyPost_ret (v := .agg #[.int .i64 u5, .int .i64 p6, .int .i64 p8]) (by simp [results, Tryd.results17, go_sem, d0, d1, d2]) rfl ⟨_, _, _, rfl, (F.out.drop.p1.drop).more (by omega)⟩
          · skip
            refine plan_last (by rfl) (fun K' hK => ?_)
            skip
            go_simp
            refine (HDbba.out.pick (by omega) 5 (by omega) (by omega)).mono ?_
            rintro e w8 ⟨p8, rfl, p80, p81, hh⟩
            have HDbbab := Lib.hid hh
            clear hh
            refine hK _ _ (.inr trivial) ?_
            clear hK K'
            try simp only [Act.put, List.getElem_toArray, List.getElem_cons_succ, List.getElem_cons_zero, List.setIfInBounds_toArray, List.set_cons_zero, List.set_cons_succ]
            refine plan_last (by rfl) (fun K' hK => ?_)
            have g5 := HDbbab.out.p1.cell HU.out
            go_simp
            refine hK _ _ (.inr trivial) ?_
            clear hK K'
            try simp only [Act.put, List.getElem_toArray, List.getElem_cons_succ, List.getElem_cons_zero, List.setIfInBounds_toArray, List.set_cons_zero, List.set_cons_succ]
            repeat (first | (refine plan_take (by rfl) (by rfl) ?_; apply Exists.intro; refine ⟨fun w' hw' => ?_, ?_⟩; (· ((try dsimp only at hw'); go_simp; (try with_reducible rfl))); simp only [Act.put, List.getElem_toArray, List.getElem_cons_succ, List.getElem_cons_zero, List.setIfInBounds_toArray, List.set_cons_zero, List.set_cons_succ]) | (refine plan_skip (by rfl) (by rfl) ?_; simp only [Act.put, List.getElem_toArray, List.getElem_cons_succ, List.getElem_cons_zero, List.setIfInBounds_toArray, List.set_cons_zero, List.set_cons_succ]))
            refine plan_last (by rfl) (fun K' hK => ?_)
            obtain ⟨r0, r1, r2⟩ := HDbbab.out.p2.cells3
            have rf := HDbbab.out.p2.free
            have F := Lib.hid (HDbbab.out.p2.set3 (.int .i64 u5) (.int .i64 p6) (.int .i64 p8))
            go_simp
            refine hK _ _ (.inl rfl) ?_
            clear hK K'
            try simp only [Act.put, List.getElem_toArray, List.getElem_cons_succ, List.getElem_cons_zero, List.setIfInBounds_toArray, List.set_cons_zero, List.set_cons_succ]
            refine plan_done ?_
            clear r0 r1 r2 rf
            go_wp2
            obtain ⟨d0, d1, d2⟩ := F.out.cells3
            refine bodyPost_ret (v := .agg #[.int .i64 u5, .int .i64 p6, .int .i64 p8]) (by simp [results, Tryd.results17, go_sem, d0, d1, d2]) rfl ⟨_, _, _, rfl, (F.out.drop.p1.drop).more (by omega)⟩
        · skip
          refine plan_last (by rfl) (fun K' hK => ?_)
          skip
          go_simp
          refine (HDbb.out.pick (by omega) 5 (by omega) (by omega)).mono ?_
          rintro e w8 ⟨p8, rfl, p80, p81, hh⟩
          have HDbbb := Lib.hid hh
          clear hh
          refine hK _ _ (.inr trivial) ?_
          clear hK K'
          try simp only [Act.put, List.getElem_toArray, List.getElem_cons_succ, List.getElem_cons_zero, List.setIfInBounds_toArray, List.set_cons_zero, List.set_cons_succ]
          refine plan_last (by rfl) (fun K' hK => ?_)
          go_simp
          have hh := (HDbbb.out.alloc #[.int .i64 9, .int .i64 10, .int .i64 10] 3).p1
          (try rw [drew_size] at hh)
          have HDbbba := Lib.hid hh
          clear hh
          refine hK _ _ (.inr trivial) ?_
          clear hK K'
          try simp only [Act.put, List.getElem_toArray, List.getElem_cons_succ, List.getElem_cons_zero, List.setIfInBounds_toArray, List.set_cons_zero, List.set_cons_succ]
          repeat (first | (refine plan_take (by rfl) (by rfl) ?_; apply Exists.intro; refine ⟨fun w' hw' => ?_, ?_⟩; (· ((try dsimp only at hw'); go_simp; (try with_reducible rfl))); simp only [Act.put, List.getElem_toArray, List.getElem_cons_succ, List.getElem_cons_zero, List.setIfInBounds_toArray, List.set_cons_zero, List.set_cons_succ]) | (refine plan_skip (by rfl) (by rfl) ?_; simp only [Act.put, List.getElem_toArray, List.getElem_cons_succ, List.getElem_cons_zero, List.setIfInBounds_toArray, List.set_cons_zero, List.set_cons_succ]))
          refine plan_last (by rfl) (fun K' hK => ?_)
          have g5 := HDbbba.out.p1.cell HU.out
          go_simp
          refine hK _ _ (.inr trivial) ?_
          clear hK K'
          try simp only [Act.put, List.getElem_toArray, List.getElem_cons_succ, List.getElem_cons_zero, List.setIfInBounds_toArray, List.set_cons_zero, List.set_cons_succ]
          repeat (first | (refine plan_take (by rfl) (by rfl) ?_; apply Exists.intro; refine ⟨fun w' hw' => ?_, ?_⟩; (· ((try dsimp only at hw'); go_simp; (try with_reducible rfl))); simp only [Act.put, List.getElem_toArray, List.getElem_cons_succ, List.getElem_cons_zero, List.setIfInBounds_toArray, List.set_cons_zero, List.set_cons_succ]) | (refine plan_skip (by rfl) (by rfl) ?_; simp only [Act.put, List.getElem_toArray, List.getElem_cons_succ, List.getElem_cons_zero, List.setIfInBounds_toArray, List.set_cons_zero, List.set_cons_succ]))
          refine plan_last (by rfl) (fun K' hK => ?_)
          obtain ⟨r0, r1, r2⟩ := HDbbba.out.p2.cells3
          have rf := HDbbba.out.p2.free
          have F := Lib.hid (HDbbba.out.p2.set3 (.int .i64 u5) (.int .i64 p6) (.int .i64 p8))
          go_simp
          refine hK _ _ (.inl rfl) ?_
          clear hK K'
          try simp only [Act.put, List.getElem_toArray, List.getElem_cons_succ, List.getElem_cons_zero, List.setIfInBounds_toArray, List.set_cons_zero, List.set_cons_succ]
          refine plan_done ?_
          clear r0 r1 r2 rf
          go_wp2
          obtain ⟨d0, d1, d2⟩ := F.out.cells3
          refine bodyPost_ret (v := .agg #[.int .i64 u5, .int .i64 p6, .int .i64 p8]) (by simp [results, Tryd.results17, go_sem, d0, d1, d2]) rfl ⟨_, _, _, rfl, (F.out.drop.p1.drop).more (by omega)⟩
  · subst q
    clear p10 p11
    go_wp2_with fail
    refine (H1.out.pick (by omega) 5 (by omega) (by omega)).mono ?_
    rintro e w2 ⟨p2, rfl, p20, p21, h2⟩
    have H2 := Lib.hid h2
    clear h2
    have hr2 := H2.out.p1.cells3
    obtain ⟨r0, r1, r2⟩ := hr2
    have rf := H2.out.p1.free
    have F := Lib.hid (H2.out.p1.set3 (.int .i64 7) (.int .i64 p2) (.int .i64 0))
    go_wp2
    obtain ⟨d0, d1, d2⟩ := F.out.cells3
    refine bodyPost_ret (v := .agg #[.int .i64 7, .int .i64 p2, .int .i64 0]) (by simp [results, Tryd.results17, go_sem, d0, d1, d2]) rfl ⟨_, _, _, rfl, (F.out.drop).more (by omega)⟩
end
end N
end Go.Proofs.YtbnggcgojbkoaaaDoor
