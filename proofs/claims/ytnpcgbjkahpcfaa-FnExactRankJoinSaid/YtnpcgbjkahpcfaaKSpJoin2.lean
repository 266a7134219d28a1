/-
  Knots of two that cannot be joined; the model's RankJoin, whole.
-/
import Derived.Test.YtnpcgbjkahpcfaaKSpJoin
namespace Go.Proofs.Ytnpcgbjkahpcfaa
open Go.RowKit Go.Sort

set_option maxRecDepth 100000 in
set_option maxHeartbeats 8000000 in
theorem spRankJoin_no (w : World) (u v : Value) (ps : List Pr) (a : Int) (qs : List Pr) (b : Int) (hp : Prs w u ps) (hq : Prs w v qs) (hno : joinOkK ps a qs b = false) :
    Calls Try.prog 35 #[.agg #[u, .int .i64 a], .agg #[v, .int .i64 b]] w fun e w' => e = .returned (.tuple #[.agg #[.slice none 0 0, .int .i64 0], .bool false]) ∧ Below w.heap.size w w' := by
  obtain ⟨W, hW⟩ : ∃ W, W = ((w.alloc (.cells #[u, .int .i64 a] 29)).alloc (.cells #[v, .int .i64 b] 29)).alloc (.cells #[.slice none 0 0, .int .i64 0] 29) := ⟨_, rfl⟩
  have hA : Below w.heap.size w W := by rw [hW]; exact (((Below.refl _ _).alloc (Nat.le_refl _) _).alloc (by simp) _).alloc (by simp; omega) _
  have X : Box2 W w.heap.size 29 u (.int .i64 a) := by rw [hW]; exact ((Box2.new _ _ _ _).alloc _).alloc _
  have Y : Box2 W (w.heap.size + 1) 29 v (.int .i64 b) := by
    have h := (Box2.new (w.alloc (.cells #[u, .int .i64 a] 29)) 29 v (.int .i64 b)).alloc (.cells #[.slice none 0 0, .int .i64 0] 29)
    rw [hW]; simpa using h
  have R : Box2 W (w.heap.size + 1 + 1) 29 (.slice none 0 0) (.int .i64 0) := by
    have h := Box2.new ((w.alloc (.cells #[u, .int .i64 a] 29)).alloc (.cells #[v, .int .i64 b] 29)) 29 (.slice none 0 0) (.int .i64 0)
    rw [hW]; simpa using h
  have IA := Lib.hid (hp.below hA (Nat.le_refl _))
  have IB := Lib.hid (hq.below hA (Nat.le_refl _))
  have KA := Lib.hid (spRankOk_at W u ps a IA.out)
  have KB : Hid (∀ W, Prs W v qs → Calls Try.prog 23 #[.agg #[v, .int .i64 b]] W fun e w' => e = .returned (.bool (rankB qs b)) ∧ Below W.heap.size W w') := fun W h => spRankOk_at W v qs b h
  obtain ⟨x, c, rfl, _, _⟩ := hp.form
  obtain ⟨y, d, rfl, _, _⟩ := hq.form
  obtain ⟨na, hna⟩ : ∃ n, n = ps.length := ⟨_, rfl⟩
  obtain ⟨nb, hnb⟩ : ∃ n, n = qs.length := ⟨_, rfl⟩
  rw [← hna] at KA hW X IA
  rw [← hnb] at KB hW Y IB
  rw [← hna, ← hnb]
  have HA := Lib.hid hA
  have x0 := X.cell0
  have x1 := X.cell1
  have y0 := Y.cell0
  have y1 := Y.cell1
  have CASES : Hid (rankB ps a = true → rankB qs b = true → (0 ≤ a ∧ a ≤ 2000) ∧ (0 ≤ b ∧ b ≤ 2000) ∧ 2000 < a + b) := fun h1 h2 => by
    unfold joinOkK at hno
    rw [h1, h2] at hno
    simp at hno
    exact ⟨((rankB_iff _ _).1 h1).1, ((rankB_iff _ _).1 h2).1, hno⟩
  have HW := Lib.hid hW
  have END : Hid (∀ w1, Below W.heap.size W w1 → Box2 w1 (w.heap.size + 1 + 1) 29 (.slice none 0 0) (.int .i64 0) ∧ Below w.heap.size w ((w1.setCell ⟨w.heap.size + 1 + 1, 0, none⟩ (.slice none 0 0)).setCell ⟨w.heap.size + 1 + 1, 1, none⟩ (.int .i64 0))) := fun w1 h =>
    ⟨R.later h, below_set2 (b := w.heap.size + 1 + 1) (hA.trans (h.mono hA.size)) (by omega) (.slice none 0 0) (.int .i64 0)⟩
  clear hp hq hno hA hna hnb hW R
  cases ka : rankB ps a with
  | false =>
    rw [ka] at KA
    clear CASES ka
    go_enter Try.func35, Try.ntmps35
    go_wp2_with fail
    rw [← HW.out]
    go_wp2_with fail
    refine KA.out.mono ?_
    rintro e w1 ⟨rfl, hb1⟩
    obtain ⟨R1, hl⟩ := END.out w1 hb1
    have BZ := Lib.hid hl
    have z0 := R1.cell0
    have z1 := R1.cell1
    have f2 := R1.free
    have RZ := R1.set (.slice none 0 0) (.int .i64 0)
    have hr0 := RZ.cell0
    have hr1 := RZ.cell1
    clear R1 RZ x0 x1 y0 y1 X Y hb1 hl
    go_wp2
    exact bodyPost_ret (v := .tuple #[.agg #[.slice none 0 0, .int .i64 0], .bool false]) (by simp [results, Try.results35, go_sem, hr0, hr1]) rfl ⟨rfl, BZ.out⟩
  | true =>
    rw [ka] at KA
    cases kb : rankB qs b with
    | false =>
      rw [kb] at KB
      clear CASES ka kb
      go_enter Try.func35, Try.ntmps35
      go_wp2_with fail
      rw [← HW.out]
      go_wp2_with fail
      refine KA.out.mono ?_
      rintro e w1 ⟨rfl, hb1⟩
      have X1 := X.later hb1
      have Y1 := Y.later hb1
      have IB1 := Lib.hid (IB.out.below hb1 (Nat.le_refl _))
      have HB1 := Lib.hid hb1
      clear hb1 X Y x0 x1 y0 y1
      have x0 := X1.cell0
      have x1 := X1.cell1
      have y0 := Y1.cell0
      have y1 := Y1.cell1
      go_wp2_with fail
      refine (KB.out _ IB1.out).mono ?_
      rintro e w2 ⟨rfl, hb2⟩
      obtain ⟨R1, hl⟩ := END.out w2 (HB1.out.trans (hb2.mono HB1.out.size))
      have BZ := Lib.hid hl
      have z0 := R1.cell0
      have z1 := R1.cell1
      have f2 := R1.free
      have RZ := R1.set (.slice none 0 0) (.int .i64 0)
      have hr0 := RZ.cell0
      have hr1 := RZ.cell1
      clear R1 RZ x0 x1 y0 y1 X1 Y1 hb2 hl
      go_wp2
      exact bodyPost_ret (v := .tuple #[.agg #[.slice none 0 0, .int .i64 0], .bool false]) (by simp [results, Try.results35, go_sem, hr0, hr1]) rfl ⟨rfl, BZ.out⟩
    | true =>
      rw [kb] at KB
      obtain ⟨⟨a0, a1⟩, ⟨b0, b1⟩, hs⟩ := CASES.out ka kb
      have ws : IntKind.i64.wrap (a + b) = a + b := IntWalk.i64_in _ (by omega)
      have hgt : decide ((2000 : Int) < a + b) = true := decide_eq_true hs
      clear CASES ka kb
      go_enter Try.func35, Try.ntmps35
      go_wp2_with fail
      rw [← HW.out]
      go_wp2_with fail
      refine KA.out.mono ?_
      rintro e w1 ⟨rfl, hb1⟩
      have X1 := X.later hb1
      have Y1 := Y.later hb1
      have IB1 := Lib.hid (IB.out.below hb1 (Nat.le_refl _))
      have HB1 := Lib.hid hb1
      clear hb1 X Y x0 x1 y0 y1
      have x0 := X1.cell0
      have x1 := X1.cell1
      have y0 := Y1.cell0
      have y1 := Y1.cell1
      go_wp2_with fail
      refine (KB.out _ IB1.out).mono ?_
      rintro e w2 ⟨rfl, hb2⟩
      obtain ⟨R1, hl⟩ := END.out w2 (HB1.out.trans (hb2.mono HB1.out.size))
      have X2 := X1.later hb2
      have Y2 := Y1.later hb2
      have BZ := Lib.hid hl
      have z0 := R1.cell0
      have z1 := R1.cell1
      have f2 := R1.free
      have RZ := R1.set (.slice none 0 0) (.int .i64 0)
      have hr0 := RZ.cell0
      have hr1 := RZ.cell1
      clear R1 RZ x0 x1 y0 y1 X1 Y1 hb2 hl
      have x1 := X2.cell1
      have y1 := Y2.cell1
      clear X2 Y2
      go_wp2
      exact bodyPost_ret (v := .tuple #[.agg #[.slice none 0 0, .int .i64 0], .bool false]) (by simp [results, Try.results35, go_sem, hr0, hr1]) rfl ⟨rfl, BZ.out⟩

theorem spRankJoin_at (w : World) (u v : Value) (ps : List Pr) (a : Int) (qs : List Pr) (b : Int) (hp : Prs w u ps) (hq : Prs w v qs) :
    Calls Try.prog 35 #[.agg #[u, .int .i64 a], .agg #[v, .int .i64 b]] w fun e w' => ∃ x, e = .returned (.tuple #[.agg #[x, .int .i64 (joinK ps a qs b).2], .bool (joinOkK ps a qs b)]) ∧ OwnP w' w.heap.size x (joinK ps a qs b).1 ∧ Below w.heap.size w w' := by
  cases h : joinOkK ps a qs b with
  | false =>
    rw [joinK_no h]
    exact (spRankJoin_no w u v ps a qs b hp hq h).mono fun e w' ⟨he, hb⟩ => ⟨_, he, OwnP.nil _ _, hb⟩
  | true =>
    rw [joinK_yes h]
    obtain ⟨k1, k2, k3⟩ := joinOkK_yes h
    exact spRankJoin_yes w u v ps a qs b hp hq k1 k2 k3

end Go.Proofs.Ytnpcgbjkahpcfaa
