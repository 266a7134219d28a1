/-
  The program's RoughNew: three rows of eight noughts, in new memory.
-/
import Derived.Test.YteopnbjiffncbabNew
namespace Go.Proofs.Yteopnbjiffncbab
open Go.RowKit

theorem own_three (w : World) (o : Obj) (r0 r1 r2 : List Int) (n : Nat) (hn : w.heap.size = n) (h0 : r0.length = 8) (h1 : r1.length = 8) (h2 : r2.length = 8) :
    OwnR (((((w.alloc o).alloc (.cells #[.slice (some ⟨n + 1 + 1, 0, none⟩) 8 8, .slice (some ⟨n + 1 + 1 + 1, 0, none⟩) 8 8, .slice (some ⟨n + 1 + 1 + 1 + 1, 0, none⟩) 8 8] 41)).alloc
      (.cells (ints r0).toArray 3)).alloc (.cells (ints r1).toArray 3)).alloc (.cells (ints r2).toArray 3)) n (.slice (some ⟨n + 1, 0, none⟩) 3 3) [r0, r1, r2] (fun i => n + 2 + i) (fun _ => 8) := by
  subst hn
  have eV : ∀ i, rowV [r0, r1, r2] (fun i => w.heap.size + 2 + i) (fun _ => 8) i = .slice (some ⟨w.heap.size + 2 + i, 0, none⟩) ([r0, r1, r2].getD i []).length 8 := fun i => rfl
  have hh := World.ownsRow_lit (base := w.heap.size) (e := 41) (size := 1) (w.alloc o) #[.slice (some ⟨w.heap.size + 1 + 1, 0, none⟩) 8 8, .slice (some ⟨w.heap.size + 1 + 1 + 1, 0, none⟩) 8 8, .slice (some ⟨w.heap.size + 1 + 1 + 1 + 1, 0, none⟩) 8 8] 3 (by simp) (by simp [maxLen]) (by simp)
  have z0 := make_own ((w.alloc o).alloc (.cells #[.slice (some ⟨w.heap.size + 1 + 1, 0, none⟩) 8 8, .slice (some ⟨w.heap.size + 1 + 1 + 1, 0, none⟩) 8 8, .slice (some ⟨w.heap.size + 1 + 1 + 1 + 1, 0, none⟩) 8 8] 41)) w.heap.size r0 (by simp; omega) (by simp [h0, maxLen])
  have z1 := make_own (((w.alloc o).alloc (.cells #[.slice (some ⟨w.heap.size + 1 + 1, 0, none⟩) 8 8, .slice (some ⟨w.heap.size + 1 + 1 + 1, 0, none⟩) 8 8, .slice (some ⟨w.heap.size + 1 + 1 + 1 + 1, 0, none⟩) 8 8] 41)).alloc (.cells (ints r0).toArray 3)) w.heap.size r1 (by simp; omega) (by simp [h1, maxLen])
  have z2 := make_own ((((w.alloc o).alloc (.cells #[.slice (some ⟨w.heap.size + 1 + 1, 0, none⟩) 8 8, .slice (some ⟨w.heap.size + 1 + 1 + 1, 0, none⟩) 8 8, .slice (some ⟨w.heap.size + 1 + 1 + 1 + 1, 0, none⟩) 8 8] 41)).alloc (.cells (ints r0).toArray 3)).alloc (.cells (ints r1).toArray 3)) w.heap.size r2 (by simp; omega) (by simp [h2, maxLen])
  simp only [World.size_alloc, h0, h1, h2] at hh z0 z1 z2
  refine ⟨?_, fun i hi => ?_, fun i hi => ?_, fun i j hi hj hij => ?_⟩
  · have := ((hh.alloc (.cells (ints r0).toArray 3)).alloc (.cells (ints r1).toArray 3)).alloc (.cells (ints r2).toArray 3)
    simpa [List.range_succ, rowV, h0, h1, h2] using this
  · simp only [List.length_cons, List.length_nil] at hi
    rw [eV]
    rcases (by omega : i = 0 ∨ i = 1 ∨ i = 2) with rfl | rfl | rfl
    · simpa [h0] using (z0.alloc (.cells (ints r1).toArray 3)).alloc (.cells (ints r2).toArray 3)
    · simpa [h1] using z1.alloc (.cells (ints r2).toArray 3)
    · simpa [h2] using z2
  · simp [Value.ownBlock]; omega
  · simp; omega

set_option maxRecDepth 100000 in
set_option maxHeartbeats 1000000 in
theorem imNew_at (w : World) :
    Calls Try.prog 15 #[] w fun e w' => ∃ u G C, e = .returned (.agg #[u]) ∧ OwnR w' w.heap.size u zero3 G C ∧ Below w.heap.size w w' := by
  have m8 := make8
  have m3 := make3
  go_enter Try.func15, Try.ntmps15
  go_wp2
  refine wp_loop_rounds 4 ?_
  rw [rounds_succ]
  go_wp2
  rw [rounds_succ]
  go_wp2
  rw [rounds_succ]
  go_wp2
  rw [rounds_succ]
  go_wp2
  exact bodyPost_ret (v := .agg #[.slice (some ⟨w.heap.size + 1, 0, none⟩) 3 3]) (by simp [results, Try.results15, go_sem]) rfl
    ⟨_, _, _, rfl, own_three w _ zeros zeros zeros _ rfl rfl rfl rfl, (((((Below.refl _ _).alloc (Nat.le_refl _) _).alloc (by simp) _).alloc (by simp; omega) _).alloc (by simp; omega) _).alloc (by simp; omega) _⟩

end Go.Proofs.Yteopnbjiffncbab
