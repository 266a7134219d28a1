/-
  The two orders of pairs: what the comparisons answer.
-/
import Derived.Test.YtmlimjdmnonmpaaTBox
import Derived.Test.YtmlimjdmnonmpaaTGet
import Derived.Shelf.SlSortCmp.InsertionK
import Derived.Deep.RegionWith
namespace Go.Proofs.Ytmlimjdmnonmpaa
open Go.RowKit Go.Sort Go.Shelf

def sortP_ren : Go.Shelf.Ren := ⟨fun | 20 => 67 | n => n, fun | 24 => 29 | 22 => 23 | 3 => 3 | 25 => 76 | 4 => 4 | 0 => 0 | n => n, fun | n => n⟩
theorem sortP : Go.Proofs.SlLaysF0.n20 Try.prog sortP_ren := {
  mixed := by kernel_rfl
  f20 := ⟨Try.f67.name, by decide, Try.func67.trans (congrArg some (by kernel_rfl))⟩
  t0 := Try.underlying0
  a0 := Try.isAgg0
  z0 := Try.sizeOf0
  v0 := Try.zeroValue0
  t3 := Try.underlying3
  a3 := Try.isAgg3
  z3 := Try.sizeOf3
  v3 := Try.zeroValue3
  t4 := Try.underlying4
  a4 := Try.isAgg4
  z4 := Try.sizeOf4
  v4 := Try.zeroValue4
  t22 := Try.underlying23
  a22 := Try.isAgg23
  z22 := Try.sizeOf23
  v22 := Try.zeroValue23
  t25 := Try.underlying76
  a25 := Try.isAgg76
  z25 := Try.sizeOf76
  v25 := Try.zeroValue76 }

/-- What cmp.Compare answers. -/
def cmpV (a b : Int) : Int := if a < b then -1 else if b < a then 1 else 0
theorem compare_at (a b : Int) (w : World) : Calls Try.prog 58 #[.int .i64 a, .int .i64 b] w fun e w' => e = .returned (.int .i64 (cmpV a b)) ∧ w = w' := by
  have e1 : (a != a) = false := by simp
  have e2 : (b != b) = false := by simp
  rcases (by omega : a < b ∨ a = b ∨ b < a) with h | h | h
  · have e : cmpV a b = -1 := if_pos h
    rw [e]
    clear e
    go_enter Try.func58, Try.ntmps58
    go_wp2
    go_ret
    exact ⟨rfl, rfl⟩
  · subst h
    have e : cmpV a a = 0 := by simp [cmpV]
    rw [e]
    clear e
    go_enter Try.func58, Try.ntmps58
    go_wp2
    go_ret
    exact ⟨rfl, rfl⟩
  · have e : cmpV a b = 1 := by simp [cmpV, h]; omega
    have h' : ¬ a < b := by omega
    rw [e]
    clear e
    go_enter Try.func58, Try.ntmps58
    go_wp2
    go_ret
    exact ⟨rfl, rfl⟩

/-- What cmp.Or answers, of two. -/
def orV (a b : Int) : Int := if a = 0 then b else a
set_option maxHeartbeats 1000000 in
theorem or_at (g : Nat) (a b : Int) (w : World) (h0 : w.cell? ⟨g, 0, none⟩ = some (.int .i64 a)) (h1 : w.cell? ⟨g, 1, none⟩ = some (.int .i64 b)) :
    Calls Try.prog 59 #[.slice (some ⟨g, 0, none⟩) 2 2] w fun e w' => e = .returned (.int .i64 (orV a b)) ∧ w = w' := by
  by_cases ha : a = 0
  · subst ha
    rw [show orV 0 b = b from if_pos rfl]
    by_cases hb : b = 0
    · subst hb
      go_enter Try.func59, Try.ntmps59
      go_wp2
      refine wp_loop_rounds 3 ?_
      rw [rounds_succ]
      go_wp2
      rw [rounds_succ]
      go_wp2
      rw [rounds_succ]
      go_wp2
      go_ret
      exact ⟨rfl, rfl⟩
    · have e1 : (b != 0) = true := by simpa using hb
      have e2 : decide (b = 0) = false := by simpa using hb
      clear hb
      go_enter Try.func59, Try.ntmps59
      go_wp2
      refine wp_loop_rounds 2 ?_
      rw [rounds_succ]
      go_wp2
      rw [rounds_succ]
      go_wp2
      go_ret
      exact ⟨rfl, rfl⟩
  · have e1 : (a != 0) = true := by simpa using ha
    have e2 : decide (a = 0) = false := by simpa using ha
    rw [show orV a b = a from if_neg ha]
    clear ha
    go_enter Try.func59, Try.ntmps59
    go_wp2
    refine wp_loop_rounds 1 ?_
    rw [rounds_succ]
    go_wp2
    go_ret
    exact ⟨rfl, rfl⟩

/-- A pair's two cells. -/
def encP (p : Pr) : List Value := [.int .i64 p.1, .int .i64 p.2]
theorem againstThing_at (x y : Pr) (w : World) : Calls Try.prog 53 #[.agg #[.int .i64 x.1, .int .i64 x.2], .agg #[.int .i64 y.1, .int .i64 y.2]] w fun e w' => e = .returned (.int .i64 (cmpV x.1 y.1)) ∧
    (w.alloc (.cells #[.int .i64 x.1, .int .i64 x.2] 29)).alloc (.cells #[.int .i64 y.1, .int .i64 y.2] 29) = w' := by
  obtain ⟨a, b⟩ := x
  obtain ⟨c, d⟩ := y
  simp only
  have K : Hid (∀ W, Calls Try.prog 58 #[.int .i64 a, .int .i64 c] W fun e w' => e = .returned (.int .i64 (cmpV a c)) ∧ W = w') := fun W => compare_at a c W
  generalize cmpV a c = V at K ⊢
  go_enter Try.func53, Try.ntmps53
  go_wp2_with fail
  refine (K.out _).mono ?_
  rintro e w1 ⟨rfl, rfl⟩
  go_wp2
  go_ret
  exact ⟨rfl, rfl⟩

/-- What the order by numbers answers. -/
def cmpN (x y : Pr) : Int := orV (cmpV y.2 x.2) (cmpV x.1 y.1)
set_option maxHeartbeats 4000000 in
theorem againstNum_at (x y : Pr) (w : World) : Calls Try.prog 54 #[.agg #[.int .i64 x.1, .int .i64 x.2], .agg #[.int .i64 y.1, .int .i64 y.2]] w fun e w' => e = .returned (.int .i64 (cmpN x y)) ∧ ∃ q os, w' = grow (w.drewN q) os := by
  obtain ⟨a, b⟩ := x
  obtain ⟨c, d⟩ := y
  have K : Hid (∀ W, Calls Try.prog 58 #[.int .i64 d, .int .i64 b] W fun e w' => e = .returned (.int .i64 (cmpV d b)) ∧ W = w') := fun W => compare_at d b W
  have KT : Hid (∀ W, Calls Try.prog 53 #[.agg #[.int .i64 a, .int .i64 b], .agg #[.int .i64 c, .int .i64 d]] W fun e w' => e = .returned (.int .i64 (cmpV a c)) ∧
    (W.alloc (.cells #[.int .i64 a, .int .i64 b] 29)).alloc (.cells #[.int .i64 c, .int .i64 d] 29) = w') := fun W => againstThing_at (a, b) (c, d) W
  show Calls _ _ #[.agg #[.int .i64 a, .int .i64 b], .agg #[.int .i64 c, .int .i64 d]] _ fun e w' => e = .returned (.int .i64 (orV (cmpV d b) (cmpV a c))) ∧ _
  generalize cmpV d b = V at K ⊢
  generalize cmpV a c = U at KT ⊢
  have KO : Hid (∀ W g, W.cell? ⟨g, 0, none⟩ = some (.int .i64 V) → W.cell? ⟨g, 1, none⟩ = some (.int .i64 U) → Calls Try.prog 59 #[.slice (some ⟨g, 0, none⟩) 2 2] W fun e w' => e = .returned (.int .i64 (orV V U)) ∧ W = w') := fun W g h0 h1 => or_at g V U W h0 h1
  generalize orV V U = Z at KO ⊢
  obtain ⟨W0, hW0⟩ : ∃ W0, W0 = (w.alloc (.cells #[.int .i64 a, .int .i64 b] 29)).alloc (.cells #[.int .i64 c, .int .i64 d] 29) := ⟨_, rfl⟩
  have G0 : Hid (∃ os, W0 = grow w os) := by show ∃ os, _; rw [hW0, alloc_eq_grow, alloc_eq_grow, grow_grow]; exact ⟨_, rfl⟩
  have c0 : W0.cell? ⟨w.heap.size, 0, none⟩ = some (.int .i64 a) ∧ W0.cell? ⟨w.heap.size, 1, none⟩ = some (.int .i64 b) := by constructor <;> (rw [hW0, World.cell?_alloc_past (hn := by simp)]; simp)
  have c1 : W0.cell? ⟨w.heap.size + 1, 0, none⟩ = some (.int .i64 c) ∧ W0.cell? ⟨w.heap.size + 1, 1, none⟩ = some (.int .i64 d) := by constructor <;> (rw [hW0, World.cell?_alloc_at (hn := by simp)]; simp)
  have far : ∀ (p : Addr) v o, W0.cell? p = some v → (W0.alloc o).cell? p = some v := fun p v o h => (World.cell?_alloc_lt (h := World.block_lt_of_cell? _ _ h) ..).trans h
  have far2 : ∀ (p : Addr) v o o', W0.cell? p = some v → ((W0.alloc o).alloc o').cell? p = some v := fun p v o o' h => (World.cell?_alloc_lt (h := World.block_lt_of_cell? _ _ (far p v o h)) ..).trans (far p v o h)
  have F2 := Lib.hid far2
  have HW0 := Lib.hid hW0
  obtain ⟨x0, x1⟩ := c0
  obtain ⟨y0, y1⟩ := c1
  have a0 := fun o o' => F2.out _ _ o o' x0
  have a1 := fun o o' => F2.out _ _ o o' x1
  have b0 := fun o o' => F2.out _ _ o o' y0
  have b1 := fun o o' => F2.out _ _ o o' y1
  have n0 : ∀ o o', (((W0.alloc o).alloc o').alloc (.cells #[.int .i64 V, .int .i64 U] 3)).cell? ⟨W0.heap.size + 1 + 1, 0, none⟩ = some (.int .i64 V) := fun o o' => by rw [World.cell?_alloc_at (hn := by simp)]; simp
  have n1 : ∀ o o', (((W0.alloc o).alloc o').alloc (.cells #[.int .i64 V, .int .i64 U] 3)).cell? ⟨W0.heap.size + 1 + 1, 1, none⟩ = some (.int .i64 U) := fun o o' => by rw [World.cell?_alloc_at (hn := by simp)]; simp
  clear hW0 far far2
  go_enter Try.func54, Try.ntmps54
  go_wp2_with fail
  rw [← HW0.out]
  clear HW0
  go_wp2_with fail
  go_region_held3 (fun w' => w'.cell? ⟨w.heap.size, 0, none⟩ = some (.int .i64 a) ∧ w'.cell? ⟨w.heap.size, 1, none⟩ = some (.int .i64 b) ∧ w'.cell? ⟨w.heap.size + 1, 0, none⟩ = some (.int .i64 c) ∧ w'.cell? ⟨w.heap.size + 1, 1, none⟩ = some (.int .i64 d)) (go_keep)
    (first
      | (go_at_call 58; refine (K.out _).mono ?_; rintro e w1 ⟨rfl, rfl⟩)
      | (go_at_call 53; refine (KT.out _).mono ?_; rintro e w1 ⟨rfl, rfl⟩)
      | (go_at_call 59; refine (KO.out _ _ (by simpa using n0 _ _) (by simpa using n1 _ _)).mono ?_; rintro e w1 ⟨rfl, rfl⟩))
  all_goals
    go_wp2
    go_ret
    obtain ⟨os, hg⟩ := G0.out
    exact ⟨rfl, 1, _, by rw [hg, alloc_eq_grow, alloc_eq_grow, alloc_eq_grow, grow_grow, grow_grow, grow_grow]; rfl⟩

end Go.Proofs.Ytmlimjdmnonmpaa
