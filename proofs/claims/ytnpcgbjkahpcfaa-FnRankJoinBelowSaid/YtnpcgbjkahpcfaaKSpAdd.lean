/-
  One more at a thing's knot: the model's RankAdd.
-/
import Derived.Test.YtnpcgbjkahpcfaaKList
import Derived.Test.YtnpcgbjkahpcfaaKBelow
import Derived.Deep.RegionWith
namespace Go.Proofs.Ytnpcgbjkahpcfaa
open Go.RowKit Go.Sort

theorem RankP.knB {ps : List Pr} {all : Int} (h : RankP ps all) : KnB ps := fun i hi => by
  have := (h.2.1 i hi).1
  omega
theorem numsV_all {ps : List Pr} (h : KnB ps) (hl : ps.length ≤ 300) : BdN (numsV ps) 600000 := fun i => by
  have := numsV_bd h ps.length (Nat.le_refl _) i
  rw [List.take_of_length_le (Nat.le_refl _)] at this
  omega
/-- What numbers at knots become: squeezed, and listed. -/
def doneK (N : List Int) (all : Int) : List Pr := listV (sqz N (all / 8) 63)
theorem doneK_len (N : List Int) (all : Int) : (doneK N all).length ≤ 127 := listK_len _ _
def addOkK (ps : List Pr) (all t : Int) : Bool := rankB ps all && (decide (0 ≤ t ∧ t ≤ 63) && decide (all < 2000))
def addK (ps : List Pr) (all t : Int) : List Pr × Int := if addOkK ps all t then (doneK (addN (numsV ps) (64 + t, 1)) (all + 1), all + 1) else ([], 0)
theorem addK_no {ps : List Pr} {all t : Int} (h : addOkK ps all t = false) : addK ps all t = ([], 0) := by simp [addK, h]
theorem addK_yes {ps : List Pr} {all t : Int} (h : addOkK ps all t = true) : addK ps all t = (doneK (addN (numsV ps) (64 + t, 1)) (all + 1), all + 1) := by simp [addK, h]
theorem addOkK_yes {ps : List Pr} {all t : Int} (h : addOkK ps all t = true) : rankB ps all = true ∧ (0 ≤ t ∧ t ≤ 63) ∧ all < 2000 := by
  unfold addOkK at h
  simpa using h

set_option maxHeartbeats 8000000 in
theorem spRankAdd_yes (w : World) (u : Value) (ps : List Pr) (all t : Int) (hp : Prs w u ps) (hok : rankB ps all = true) (ht : 0 ≤ t ∧ t ≤ 63) (ha : all < 2000) :
    Calls Try.prog 25 #[.agg #[u, .int .i64 all], .int .i64 t] w fun e w' => ∃ v, e = .returned (.tuple #[.agg #[v, .int .i64 (all + 1)], .bool true]) ∧ OwnP w' w.heap.size v (doneK (addN (numsV ps) (64 + t, 1)) (all + 1)) ∧ Below w.heap.size w w' := by
  have RK := (rankB_iff _ _).1 hok
  have kf := knG_few (k := ps.length) RK.2.1
  have kb := RK.knB
  have nb := numsV_all kb (by omega)
  have ha0 := RK.1.1
  obtain ⟨W0, hW0⟩ : ∃ W0, W0 = (w.alloc (.cells #[u, .int .i64 all] 29)).alloc (.cells #[.slice none 0 0, .int .i64 0] 29) := ⟨_, rfl⟩
  have hA : Below w.heap.size w W0 := by rw [hW0]; exact ((Below.refl w.heap.size w).alloc (Nat.le_refl _) _).alloc (by simp) _
  have X0 : Box2 W0 w.heap.size 29 u (.int .i64 all) := by rw [hW0]; exact (Box2.new _ _ _ _).alloc _
  have R0 : Box2 W0 (w.heap.size + 1) 29 (.slice none 0 0) (.int .i64 0) := by
    have h := Box2.new (w.alloc (.cells #[u, .int .i64 all] 29)) 29 (.slice none 0 0) (.int .i64 0)
    rw [hW0]
    simpa using h
  have sW : W0.heap.size = w.heap.size + 2 := by rw [hW0]; simp
  have I0 := Lib.hid (hp.below hA (Nat.le_refl _))
  have K := Lib.hid (spRankOk_at W0 u ps all I0.out)
  rw [hok] at K
  obtain ⟨x, c, hu, _, _⟩ := hp.form
  obtain ⟨n, hn⟩ : ∃ n, n = ps.length := ⟨_, rfl⟩
  rw [← hn] at hu kf
  have KN : Hid (∀ W, Prs W (.slice x n c) ps → Calls Try.prog 50 #[.slice x n c] W fun e w' => e = .returned (.slice (some ⟨W.heap.size, 0, none⟩) 128 128) ∧ RowI w' W.heap.size W.heap.size 128 128 (numsV ps) ∧ Below W.heap.size W w') := fun W h => l4Nums_in W x n c ps hn.symm h (by omega) kb
  subst hu
  obtain ⟨T, hT⟩ : ∃ T : Nat, (64 : Int) + t = (T : Int) := ⟨(64 + t).toNat, by omega⟩
  have T1 : (T : Int) < 128 := by omega
  have T2 : (64 : Int) ≤ (T : Int) := by omega
  obtain ⟨N, hN⟩ : ∃ N, N = numsV ps := ⟨_, rfl⟩
  rw [← hN] at KN nb
  obtain ⟨V, hV⟩ : ∃ V, V = N.getD T 0 := ⟨_, rfl⟩
  have bV := nb T
  rw [← hV] at bV
  have eN : addN (numsV ps) (64 + t, 1) = N.set T (V + 1) := by
    unfold addN
    simp only [hT, Int.toNat_natCast, ← hN, ← hV]
  rw [eN]
  have KQ : Hid (∀ W B g c, RowI W B g 128 c (N.set T (V + 1)) → Calls Try.prog 52 #[.slice (some ⟨g, 0, none⟩) 128 c, .int .i64 (all + 1)] W fun e w' => e = .returned (.slice (some ⟨g, 0, none⟩) 128 c) ∧ RowI w' B g 128 c (sqz (N.set T (V + 1)) ((all + 1) / 8) 63) ∧ W.grownBy w' (some g)) := fun W B g c h =>
    l4Squeeze_at W B g c _ (all + 1) 600001 h (BdN.set (fun i => by have := nb i; omega) T (by omega) (by omega)) (by omega) (by omega) (by omega)
  have HVV := Lib.hid hV
  have EL : Hid (listV (sqz (N.set T (V + 1)) ((all + 1) / 8) 63) = doneK (N.set T (V + 1)) (all + 1)) := by show _ = _; unfold doneK; rfl
  obtain ⟨Q, hQ⟩ : ∃ Q, Q = sqz (N.set T (V + 1)) ((all + 1) / 8) 63 := ⟨_, rfl⟩
  rw [← hQ] at KQ EL
  generalize doneK (N.set T (V + 1)) (all + 1) = ds at *
  have HW0 := Lib.hid hW0
  have HA := Lib.hid hA
  have HS := Lib.hid sW
  have x0 := X0.cell0
  have x1 := X0.cell1
  have KT : Hid (∀ W, Calls Try.prog 44 #[.int .i64 t, .int .i64 0, .int .i64 63] W fun e w' => e = .returned (.bool true) ∧ W = w') := fun W => l6In_yes t 0 63 W ht.1 ht.2
  clear hA hW0 hn hp hok RK kb nb eN hN hV hQ sW kf
  go_enter Try.func25, Try.ntmps25
  go_wp2_with fail
  rw [← HW0.out]
  go_wp2_with fail
  refine K.out.mono ?_
  rintro e w1 ⟨rfl, hb1⟩
  have X1 := X0.later hb1
  have R1 := R0.later hb1
  have B1 := Lib.hid (HA.out.trans (hb1.mono HA.out.size))
  have I1 := Lib.hid (I0.out.below hb1 (Nat.le_refl _))
  have S1 : w.heap.size + 2 ≤ w1.heap.size := by have := hb1.size; have := HS.out; omega
  clear hb1 X0 R0 x0 x1 K HA I0
  have x0 := X1.cell0
  have x1 := X1.cell1
  go_wp2_with fail
  refine (KT.out _).mono ?_
  rintro e w' ⟨rfl, rfl⟩
  have hge : decide ((2000 : Int) ≤ all) = false := decide_eq_false (by omega)
  have HT := Lib.hid (And.intro hT (And.intro T1 (And.intro T2 (And.intro bV (And.intro S1 (And.intro ha0 ht))))))
  clear hT T1 T2 bV S1 ha0 ht
  go_wp2_with fail
  obtain ⟨hT, T1, T2, bV, S1, ha0, ht⟩ := HT.out
  refine (KN.out w1 I1.out).mono ?_
  rintro e w2 ⟨rfl, hr, hb2⟩
  have X2 := X1.later hb2
  have R2 := R1.later hb2
  have B2 := Lib.hid (B1.out.trans (hb2.mono B1.out.size))
  have c0 := hr.cell (i := T) (by omega)
  rw [← HVV.out] at c0
  have f0 := hr.free T
  have RS := Lib.hid (hr.set T (V + 1))
  have gS := grownBy_setCell w2 ⟨w1.heap.size, T, none⟩ (.int .i64 (V + 1))
  have X3 := X2.kept gS (by simp; omega)
  have R3 := R2.kept gS (by simp; omega)
  have B3 : Hid (Below w.heap.size w (w2.setCell ⟨w1.heap.size, T, none⟩ (.int .i64 (V + 1)))) := Lib.hid (B2.out.setCell (by show w.heap.size ≤ w1.heap.size; omega) _)
  have ws0 : IntKind.i64.wrap (V + 1) = V + 1 := IntWalk.i64_in _ (by omega)
  obtain ⟨w3, hw3⟩ : ∃ w3, w3 = w2.setCell ⟨w1.heap.size, T, none⟩ (.int .i64 (V + 1)) := ⟨_, rfl⟩
  have l2 : w1.heap.size < w2.heap.size := hr.lt.2
  have z3 : w3.heap.size = w2.heap.size := by rw [hw3]; simp
  rw [← hw3] at RS X3 R3 B3
  clear hb2 hr x0 x1 X1 R1 X2 R2 gS
  go_wp2_with fail
  rw [← hw3]
  clear hw3 c0 f0
  have x0 := X3.cell0
  have x1 := X3.cell1
  have ws : IntKind.i64.wrap (all + 1) = all + 1 := IntWalk.i64_in _ (by omega)
  have KD := Lib.hid (KQ.out w3.drew w1.heap.size w1.heap.size 128 (RS.out.drewN 1))
  go_region_with (first | (go_at_call 52; refine KD.out.mono ?_; rintro e w4 ⟨rfl, hr4, hg4⟩; have X4 := X3.drew.kept hg4 (by simp; omega); have y0 := X4.cell0; have y1 := X4.cell1; have R4 := R3.drew.kept hg4 (by simp; omega); have KE := Lib.hid (l4List_at w4 w1.heap.size w1.heap.size 128 Q hr4)) | (go_at_call 51; refine KE.out.mono ?_; rintro e w5 ⟨v, rfl, ho5, hb5⟩; rw [EL.out] at ho5; obtain ⟨xz, cz, rfl, _, _⟩ := ho5.form; have R5 := R4.later hb5; have f2 := R5.free; have z0 := R5.cell0; have z1 := R5.cell1; have X5 := X4.later hb5; have q0 := X5.cell0; have q1 := X5.cell1))
  all_goals
    have RZ := R5.set (.slice xz ds.length cz) (.int .i64 (all + 1))
    have hr0 := RZ.cell0
    have hr1 := RZ.cell1
    have s4 : w3.heap.size ≤ w4.heap.size := hg4.size
    have B4 := Lib.hid ((B3.out.trans (Below.drew (Below.refl _ _))).trans (below_grown hg4 (by show w.heap.size ≤ w1.heap.size; omega) (by show w.heap.size ≤ w3.heap.size; omega)))
    have OZ := Lib.hid ((ho5.set2 (R5.not_row (by decide) ho5) (.slice xz ds.length cz) (.int .i64 (all + 1))).base (B' := w.heap.size) (by omega))
    have BZ := Lib.hid (below_set2 (b := w.heap.size + 1) (B4.out.trans (hb5.mono (by omega))) (Nat.le_succ _) (.slice xz ds.length cz) (.int .i64 (all + 1)))
    clear ho5 hb5 hr4 hg4 X4 R4 X5 R5 RZ y0 y1 f2 z0 z1 q0 q1 s4 B4
    go_wp2
    exact bodyPost_ret (v := .tuple #[.agg #[.slice xz ds.length cz, .int .i64 (all + 1)], .bool true]) (by simp [results, Try.results25, go_sem, hr0, hr1]) rfl ⟨_, rfl, OZ.out, BZ.out⟩

set_option maxHeartbeats 4000000 in
theorem spRankAdd_no (w : World) (u : Value) (ps : List Pr) (all t : Int) (hp : Prs w u ps) (hno : addOkK ps all t = false) :
    Calls Try.prog 25 #[.agg #[u, .int .i64 all], .int .i64 t] w fun e w' => e = .returned (.tuple #[.agg #[.slice none 0 0, .int .i64 0], .bool false]) ∧ Below w.heap.size w w' := by
  obtain ⟨W0, hW0⟩ : ∃ W0, W0 = (w.alloc (.cells #[u, .int .i64 all] 29)).alloc (.cells #[.slice none 0 0, .int .i64 0] 29) := ⟨_, rfl⟩
  have hA : Below w.heap.size w W0 := by rw [hW0]; exact ((Below.refl w.heap.size w).alloc (Nat.le_refl _) _).alloc (by simp) _
  have X0 : Box2 W0 w.heap.size 29 u (.int .i64 all) := by rw [hW0]; exact (Box2.new _ _ _ _).alloc _
  have R0 : Box2 W0 (w.heap.size + 1) 29 (.slice none 0 0) (.int .i64 0) := by
    have h := Box2.new (w.alloc (.cells #[u, .int .i64 all] 29)) 29 (.slice none 0 0) (.int .i64 0)
    rw [hW0]
    simpa using h
  have K := Lib.hid (spRankOk_at W0 u ps all (hp.below hA (Nat.le_refl _)))
  obtain ⟨x, c, hu, _, _⟩ := hp.form
  obtain ⟨n, hn⟩ : ∃ n, n = ps.length := ⟨_, rfl⟩
  rw [← hn] at hu
  subst hu
  have HW0 := Lib.hid hW0
  have HA := Lib.hid hA
  have x0 := X0.cell0
  have x1 := X0.cell1
  have HY : Hid (rankB ps all = true → (t < 0 ∨ 63 < t) ∨ ((0 ≤ t ∧ t ≤ 63) ∧ 2000 ≤ all)) := fun h => by
    unfold addOkK at hno
    rw [h] at hno
    simp at hno
    omega
  have END : Hid (∀ w1, Below W0.heap.size W0 w1 → Box2 w1 (w.heap.size + 1) 29 (.slice none 0 0) (.int .i64 0) ∧ Below w.heap.size w ((w1.setCell ⟨w.heap.size + 1, 0, none⟩ (.slice none 0 0)).setCell ⟨w.heap.size + 1, 1, none⟩ (.int .i64 0))) := fun w1 h =>
    ⟨R0.later h, below_set2 (b := w.heap.size + 1) (hA.trans (h.mono hA.size)) (Nat.le_succ _) (.slice none 0 0) (.int .i64 0)⟩
  generalize rankB ps all = ok at K HY
  clear hA hW0 hn hp hno
  cases ok with
  | false =>
    clear HY
    go_enter Try.func25, Try.ntmps25
    go_wp2_with fail
    rw [← HW0.out]
    go_wp2_with fail
    refine K.out.mono ?_
    rintro e w1 ⟨rfl, hb1⟩
    obtain ⟨R1, hl⟩ := END.out w1 hb1
    have BZ := Lib.hid hl
    have z0 := R1.cell0
    have z1 := R1.cell1
    have f2 := R1.free
    have RZ := R1.set (.slice none 0 0) (.int .i64 0)
    have hr0 := RZ.cell0
    have hr1 := RZ.cell1
    clear R1 RZ x0 x1 X0 R0 hb1 hl
    go_wp2
    exact bodyPost_ret (v := .tuple #[.agg #[.slice none 0 0, .int .i64 0], .bool false]) (by simp [results, Try.results25, go_sem, hr0, hr1]) rfl ⟨rfl, BZ.out⟩
  | true =>
    rcases HY.out rfl with ht | ⟨ht, ha⟩
    · clear HY
      go_enter Try.func25, Try.ntmps25
      go_wp2_with fail
      rw [← HW0.out]
      go_wp2_with fail
      refine K.out.mono ?_
      rintro e w1 ⟨rfl, hb1⟩
      obtain ⟨R1, hl⟩ := END.out w1 hb1
      have BZ := Lib.hid hl
      have z0 := R1.cell0
      have z1 := R1.cell1
      have f2 := R1.free
      have RZ := R1.set (.slice none 0 0) (.int .i64 0)
      have hr0 := RZ.cell0
      have hr1 := RZ.cell1
      clear R1 RZ x0 x1 X0 R0 hb1 hl
      go_wp2_with fail
      refine (l6In_no t 0 63 _ ht).mono ?_
      rintro e w' ⟨rfl, rfl⟩
      go_wp2
      exact bodyPost_ret (v := .tuple #[.agg #[.slice none 0 0, .int .i64 0], .bool false]) (by simp [results, Try.results25, go_sem, hr0, hr1]) rfl ⟨rfl, BZ.out⟩
    · have hge : decide ((2000 : Int) ≤ all) = true := decide_eq_true ha
      clear HY
      go_enter Try.func25, Try.ntmps25
      go_wp2_with fail
      rw [← HW0.out]
      go_wp2_with fail
      refine K.out.mono ?_
      rintro e w1 ⟨rfl, hb1⟩
      obtain ⟨R1, hl⟩ := END.out w1 hb1
      have BZ := Lib.hid hl
      have X1 := X0.later hb1
      have z0 := R1.cell0
      have z1 := R1.cell1
      have f2 := R1.free
      have RZ := R1.set (.slice none 0 0) (.int .i64 0)
      have hr0 := RZ.cell0
      have hr1 := RZ.cell1
      clear R1 RZ x0 x1 X0 R0 hb1 hl
      have x0 := X1.cell0
      have x1 := X1.cell1
      go_wp2_with fail
      refine (l6In_yes t 0 63 _ ht.1 ht.2).mono ?_
      rintro e w' ⟨rfl, rfl⟩
      clear ha ht
      go_wp2
      exact bodyPost_ret (v := .tuple #[.agg #[.slice none 0 0, .int .i64 0], .bool false]) (by simp [results, Try.results25, go_sem, hr0, hr1]) rfl ⟨rfl, BZ.out⟩

theorem spRankAdd_at (w : World) (u : Value) (ps : List Pr) (all t : Int) (hp : Prs w u ps) :
    Calls Try.prog 25 #[.agg #[u, .int .i64 all], .int .i64 t] w fun e w' => ∃ v, e = .returned (.tuple #[.agg #[v, .int .i64 (addK ps all t).2], .bool (addOkK ps all t)]) ∧ OwnP w' w.heap.size v (addK ps all t).1 ∧ Below w.heap.size w w' := by
  cases h : addOkK ps all t with
  | false =>
    rw [addK_no h]
    exact (spRankAdd_no w u ps all t hp h).mono fun e w' ⟨he, hb⟩ => ⟨_, he, OwnP.nil _ _, hb⟩
  | true =>
    rw [addK_yes h]
    obtain ⟨a, b, c⟩ := addOkK_yes h
    exact spRankAdd_yes w u ps all t hp a b c

end Go.Proofs.Ytnpcgbjkahpcfaa
