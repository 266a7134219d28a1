/-
  Joined, and counted once: at whatever arguments.
-/
import Derived.Test.YtmlimjdmnonmpaaTJoin
namespace Go.Proofs.Ytmlimjdmnonmpaa
open Go.RowKit Go.Sort

theorem imTopJoin_at (w : World) (u v : Value) (ps qs : List Pr) (la aa lb ab : Int) (hp : Prs w u ps) (hq : Prs w v qs) :
    Calls Try.prog 23 #[.agg #[u, .int .i64 la, .int .i64 aa], .agg #[v, .int .i64 lb, .int .i64 ab]] w fun e w' => ∃ r, e = .returned (.tuple #[.agg #[r, .int .i64 (joinT ps la aa qs lb ab).2.1, .int .i64 (joinT ps la aa qs lb ab).2.2], .bool (joinOk ps la aa qs lb ab)]) ∧ OwnP w' w.heap.size r (joinT ps la aa qs lb ab).1 ∧ Below w.heap.size w w' := by
  rcases joinOk_cases ps la aa qs lb ab with ⟨_, h⟩ | ⟨_, _, h⟩ | ⟨_, _, _, h⟩ | ⟨ha, hb, hs, h⟩
  · rw [joinT_no h, h]
    exact (imTopJoin_no w u v ps qs la aa lb ab hp hq h).mono fun e w' ⟨he, hb⟩ => ⟨_, he, OwnP.nil _ _, hb⟩
  · rw [joinT_no h, h]
    exact (imTopJoin_no w u v ps qs la aa lb ab hp hq h).mono fun e w' ⟨he, hb⟩ => ⟨_, he, OwnP.nil _ _, hb⟩
  · rw [joinT_no h, h]
    exact (imTopJoin_no w u v ps qs la aa lb ab hp hq h).mono fun e w' ⟨he, hb⟩ => ⟨_, he, OwnP.nil _ _, hb⟩
  · rw [joinT_yes h, h]
    exact (imTopJoin_yes w u v ps qs la aa lb ab hp hq ha hb hs).mono fun e w' ⟨r, he, ho, hb⟩ => ⟨r, he, ho, hb⟩

theorem spTopJoin_at (w : World) (u v : Value) (ps qs : List Pr) (la aa lb ab : Int) (hp : Prs w u ps) (hq : Prs w v qs) :
    Calls Try.prog 22 #[.agg #[u, .int .i64 la, .int .i64 aa], .agg #[v, .int .i64 lb, .int .i64 ab]] w fun e w' => ∃ r, e = .returned (.tuple #[.agg #[r, .int .i64 (joinT ps la aa qs lb ab).2.1, .int .i64 (joinT ps la aa qs lb ab).2.2], .bool (joinOk ps la aa qs lb ab)]) ∧ OwnP w' w.heap.size r (joinT ps la aa qs lb ab).1 ∧ Below w.heap.size w w' := by
  rcases joinOk_cases ps la aa qs lb ab with ⟨_, h⟩ | ⟨_, _, h⟩ | ⟨_, _, _, h⟩ | ⟨ha, hb, hs, h⟩
  · rw [joinT_no h, h]
    exact (spTopJoin_no w u v ps qs la aa lb ab hp hq h).mono fun e w' ⟨he, hb⟩ => ⟨_, he, OwnP.nil _ _, hb⟩
  · rw [joinT_no h, h]
    exact (spTopJoin_no w u v ps qs la aa lb ab hp hq h).mono fun e w' ⟨he, hb⟩ => ⟨_, he, OwnP.nil _ _, hb⟩
  · rw [joinT_no h, h]
    exact (spTopJoin_no w u v ps qs la aa lb ab hp hq h).mono fun e w' ⟨he, hb⟩ => ⟨_, he, OwnP.nil _ _, hb⟩
  · rw [joinT_yes h, h]
    exact (spTopJoin_yes w u v ps qs la aa lb ab hp hq ha hb hs).mono fun e w' ⟨r, he, ho, hb⟩ => ⟨r, he, ho, hb⟩

theorem topB_one (t : Int) : topB [(t, 1)] 0 1 = isT t := by
  have h : TopP [(t, 1)] 0 1 ↔ (0 ≤ t ∧ t < 64) := by
    unfold TopP
    constructor
    · intro h
      have := (h.2.1 0 (by simp)).1.1
      simp [pr] at this
      omega
    · intro h
      refine ⟨⟨by simp, by omega, by omega⟩, fun i hi => ?_, by simp [sumP]⟩
      simp at hi
      subst hi
      refine ⟨⟨?_, ?_⟩, fun h => absurd h (Nat.lt_irrefl _)⟩
      · simp [pr]; omega
      · simp [pr]
  simp [topB, isT, h]
theorem joinOk_one (ps : List Pr) (lost all t : Int) : joinOk ps lost all [(t, 1)] 0 1 = addOk ps lost all t := by
  unfold joinOk addOk
  rw [topB_one]
  congr 2
theorem joinT_one (ps : List Pr) (lost all t : Int) : joinT ps lost all [(t, 1)] 0 1 = addT ps lost all t := by
  unfold joinT addT
  rw [joinOk_one]
  simp [bothP]

set_option maxRecDepth 100000 in
set_option maxHeartbeats 8000000 in
theorem imTopAdd_at (w : World) (u : Value) (ps : List Pr) (lost all t : Int) (hp : Prs w u ps) :
    Calls Try.prog 16 #[.agg #[u, .int .i64 lost, .int .i64 all], .int .i64 t] w fun e w' => ∃ r, e = .returned (.tuple #[.agg #[r, .int .i64 (addT ps lost all t).2.1, .int .i64 (addT ps lost all t).2.2], .bool (addOk ps lost all t)]) ∧ OwnP w' w.heap.size r (addT ps lost all t).1 ∧ Below w.heap.size w w' := by
  obtain ⟨x, c, rfl, _, _⟩ := hp.form
  obtain ⟨n, hn⟩ : ∃ n, n = ps.length := ⟨_, rfl⟩
  rw [← hn] at hp ⊢
  obtain ⟨W0, hW0⟩ : ∃ W0, W0 = (w.alloc (.cells #[.slice x n c, .int .i64 lost, .int .i64 all] 25)).alloc (.cells #[.slice none 0 0, .int .i64 0, .int .i64 0] 25) := ⟨_, rfl⟩
  have X0 : Box3 W0 w.heap.size 25 (.slice x n c) (.int .i64 lost) (.int .i64 all) := by rw [hW0]; exact (Box3.new _ _ _ _ _).alloc _
  have R0 : Box3 W0 (w.heap.size + 1) 25 (.slice none 0 0) (.int .i64 0) (.int .i64 0) := by
    have h := Box3.new (w.alloc (.cells #[.slice x n c, .int .i64 lost, .int .i64 all] 25)) 25 (.slice none 0 0) (.int .i64 0) (.int .i64 0)
    rw [hW0]
    simpa using h
  have B0 : Hid (Below w.heap.size w W0) := by show Below _ _ _; rw [hW0]; exact ((Below.refl _ _).alloc (Nat.le_refl _) _).alloc (by simp) _
  have s0 : W0.heap.size = w.heap.size + 2 := by rw [hW0]; simp
  obtain ⟨W1, hW1⟩ : ∃ W1, W1 = W0.alloc (.cells #[.int .i64 t, .int .i64 1] 29) := ⟨_, rfl⟩
  have B1 : Hid (Below w.heap.size w W1) := by show Below _ _ _; rw [hW1]; exact B0.out.alloc B0.out.size _
  have R1 : Box3 W1 (w.heap.size + 1) 25 (.slice none 0 0) (.int .i64 0) (.int .i64 0) := by rw [hW1]; exact R0.alloc _
  have Q1 : Hid (Prs W1 (.slice (some ⟨w.heap.size + 2, 0, none⟩) 1 1) [(t, 1)]) := by
    refine .inr ⟨w.heap.size + 2, 0, 1, rfl, Nat.le_refl _, by simp [maxLen], by rw [hW1, ← s0]; simp, fun i hi => ?_⟩
    simp at hi
    subst hi
    rw [hW1, ← s0]
    constructor
    · show (W0.alloc _).cell? ⟨W0.heap.size, 0, none⟩ = _; simp [pr]
    · show (W0.alloc _).cell? ⟨W0.heap.size, 1, none⟩ = _; simp [pr]
  have K := Lib.hid (imTopJoin_at W1 (.slice x n c) (.slice (some ⟨w.heap.size + 2, 0, none⟩) 1 1) ps [(t, 1)] lost all 0 1 (hp.below B1.out (Nat.le_refl _)) Q1.out)
  rw [joinT_one, joinOk_one] at K
  obtain ⟨T, hT⟩ : ∃ T, T = addT ps lost all t := ⟨_, rfl⟩
  obtain ⟨ok, hok⟩ : ∃ ok, ok = addOk ps lost all t := ⟨_, rfl⟩
  rw [← hT, ← hok] at K ⊢
  have HW0 := Lib.hid hW0
  have HW1 := Lib.hid hW1
  obtain ⟨zs, lo, al⟩ := T
  simp only at K ⊢
  have x0 := X0.cell0
  have x1 := X0.cell1
  have x2 := X0.cell2
  have S0 := Lib.hid s0
  have e2 : w.heap.size + 2 = w.heap.size + 1 + 1 := rfl
  clear hp hn hW0 hW1 hT hok s0 e2
  go_enter Try.func16, Try.ntmps16
  go_wp2_with fail
  rw [← HW0.out]
  clear HW0
  go_wp2_with fail
  rw [← HW1.out]
  clear HW1
  refine K.out.mono ?_
  rintro e w3 ⟨r, rfl, ho3, hb⟩
  have R3 := R1.later hb
  obtain ⟨xz, cz, rfl, _, _⟩ := ho3.form
  have z0 := R3.cell0
  have z1 := R3.cell1
  have z2 := R3.cell2
  have f2 := R3.free
  have RZ := R3.set (.slice xz zs.length cz) (.int .i64 lo) (.int .i64 al)
  have hr0 := RZ.cell0
  have hr1 := RZ.cell1
  have hr2 := RZ.cell2
  have B3 := B1.out.trans (hb.mono B1.out.size)
  have OZ := Lib.hid ((ho3.set3 (b := w.heap.size + 1) (R3.not_row (by decide) ho3) (.slice xz zs.length cz) (.int .i64 lo) (.int .i64 al)).base (B' := w.heap.size) (B1.out.size))
  have BZ := Lib.hid (below_set3 (b := w.heap.size + 1) B3 (Nat.le_succ _) (.slice xz zs.length cz) (.int .i64 lo) (.int .i64 al))
  clear RZ R3 R1 R0 X0 ho3 hb B3 x0 x1 x2
  go_wp2
  exact bodyPost_ret (v := .tuple #[.agg #[.slice xz zs.length cz, .int .i64 lo, .int .i64 al], .bool ok]) (by simp [results, Try.results16, go_sem, hr0, hr1, hr2]) rfl ⟨_, rfl, OZ.out, BZ.out⟩

end Go.Proofs.Ytmlimjdmnonmpaa
