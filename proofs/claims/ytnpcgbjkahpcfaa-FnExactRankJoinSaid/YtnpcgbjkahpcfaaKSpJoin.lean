/-
  Knots of two joined: the model's RankJoin.
-/
import Derived.Test.YtnpcgbjkahpcfaaKLen
import Derived.Test.YtnpcgbjkahpcfaaKApp
import Derived.Deep.RegionHeld3
import Derived.Deep.RegionLaw
import Derived.Deep.DeepCutAuto
namespace Go.Proofs.Ytnpcgbjkahpcfaa
open Go.RowKit Go.Sort

/-- What the numbers at knots leave: their row, and the boxes ahead of it. -/
structure CutJ (w w2 wx : World) (g : Nat) (NN : List Int) (x : Option Addr) (na c : Nat) (a : Int) (y : Option Addr) (nb d : Nat) (b : Int) : Prop where
  new : w2.heap.size ≤ g
  row : RowI wx g g 128 128 NN
  X : Box2 wx w.heap.size 29 (.slice x na c) (.int .i64 a)
  Y : Box2 wx (w.heap.size + 1) 29 (.slice y nb d) (.int .i64 b)
  R : Box2 wx (w.heap.size + 1 + 1) 29 (.slice none 0 0) (.int .i64 0)
  B : Below w2.heap.size w2 wx

set_option maxRecDepth 100000 in
set_option maxHeartbeats 16000000 in
theorem spRankJoin_yes (w : World) (u v : Value) (ps : List Pr) (a : Int) (qs : List Pr) (b : Int) (hp : Prs w u ps) (hq : Prs w v qs) (ka : rankB ps a = true) (kb : rankB qs b = true) (hab : a + b ≤ 2000) :
    Calls Try.prog 35 #[.agg #[u, .int .i64 a], .agg #[v, .int .i64 b]] w fun e w' => ∃ x, e = .returned (.tuple #[.agg #[x, .int .i64 (a + b)], .bool true]) ∧ OwnP w' w.heap.size x (bothK ps a qs b) ∧ Below w.heap.size w w' := by
  have PA := (rankB_iff _ _).1 ka
  have PB := (rankB_iff _ _).1 kb
  have la := PA.len
  have lb := PB.len
  have kn := PA.knB.append PB.knB
  have aa := PA.1.1
  have bb := PB.1.1
  have hat := PA.atK.append PB.atK
  have HAT := Lib.hid hat
  obtain ⟨W, hW⟩ : ∃ W, W = ((w.alloc (.cells #[u, .int .i64 a] 29)).alloc (.cells #[v, .int .i64 b] 29)).alloc (.cells #[.slice none 0 0, .int .i64 0] 29) := ⟨_, rfl⟩
  have hA : Below w.heap.size w W := by rw [hW]; exact (((Below.refl _ _).alloc (Nat.le_refl _) _).alloc (by simp) _).alloc (by simp; omega) _
  have sW : W.heap.size = w.heap.size + 3 := by rw [hW]; simp
  have X : Box2 W w.heap.size 29 u (.int .i64 a) := by rw [hW]; exact ((Box2.new _ _ _ _).alloc _).alloc _
  have Y : Box2 W (w.heap.size + 1) 29 v (.int .i64 b) := by
    have h := (Box2.new (w.alloc (.cells #[u, .int .i64 a] 29)) 29 v (.int .i64 b)).alloc (.cells #[.slice none 0 0, .int .i64 0] 29)
    rw [hW]; simpa using h
  have R : Box2 W (w.heap.size + 1 + 1) 29 (.slice none 0 0) (.int .i64 0) := by
    have h := Box2.new ((w.alloc (.cells #[u, .int .i64 a] 29)).alloc (.cells #[v, .int .i64 b] 29)) 29 (.slice none 0 0) (.int .i64 0)
    rw [hW]; simpa using h
  have IA := Lib.hid (hp.below hA (Nat.le_refl _))
  have IB := Lib.hid (hq.below hA (Nat.le_refl _))
  have KA := Lib.hid (spRankOk_at W u ps a IA.out)
  have KB : Hid (∀ W, Prs W v qs → Calls Try.prog 23 #[.agg #[v, .int .i64 b]] W fun e w' => e = .returned (.bool true) ∧ Below W.heap.size W w') := fun W h => by rw [← kb]; exact spRankOk_at W v qs b h
  rw [ka] at KA
  obtain ⟨x, c, rfl, _, _⟩ := hp.form
  obtain ⟨y, d, rfl, _, _⟩ := hq.form
  obtain ⟨na, hna⟩ : ∃ n, n = ps.length := ⟨_, rfl⟩
  obtain ⟨nb, hnb⟩ : ∃ n, n = qs.length := ⟨_, rfl⟩
  rw [← hna] at KA hW X IA la
  rw [← hnb] at KB hW Y IB lb
  rw [← hna, ← hnb]
  have HNA := Lib.hid hna
  have HNB := Lib.hid hnb
  have HA := Lib.hid hA
  have HS := Lib.hid sW
  have KN := Lib.hid kn
  obtain ⟨A, hAll⟩ : ∃ A, A = a + b := ⟨_, rfl⟩
  rw [← hAll] at hab ⊢
  have ws : IntKind.i64.wrap (a + b) = A := by rw [hAll]; exact IntWalk.i64_in _ (by omega)
  have hgt : decide ((2000 : Int) < A) = false := decide_eq_false (by omega)
  have HAL := Lib.hid hAll
  have A0 : 0 ≤ A := by omega
  have EB : Hid (bothK ps a qs b = listV (sqz (numsV (ps ++ qs)) (A / 8) 63)) := by show _ = _; unfold bothK doneK; rw [hAll]
  have x0 := X.cell0
  have x1 := X.cell1
  have y0 := Y.cell0
  have y1 := Y.cell1
  clear hp hq ka kb PA PB kn hat hA sW hna hnb hAll
  go_enter Try.func35, Try.ntmps35
  go_wp2_with fail
  rw [← hW]
  clear hW
  go_wp2_with fail
  refine KA.out.mono ?_
  rintro e w1 ⟨rfl, hb1⟩
  have X1 := X.later hb1
  have Y1 := Y.later hb1
  have R1 := R.later hb1
  have B1 := Lib.hid (HA.out.trans (hb1.mono HA.out.size))
  have IA1 := Lib.hid (IA.out.below hb1 (Nat.le_refl _))
  have IB1 := Lib.hid (IB.out.below hb1 (Nat.le_refl _))
  clear hb1 X Y R x0 x1 y0 y1 KA IA IB
  have x0 := X1.cell0
  have x1 := X1.cell1
  have y0 := Y1.cell0
  have y1 := Y1.cell1
  go_wp2_with fail
  refine (KB.out _ IB1.out).mono ?_
  rintro e w2 ⟨rfl, hb2⟩
  have X2 := X1.later hb2
  have Y2 := Y1.later hb2
  have R2 := R1.later hb2
  have B2 := Lib.hid (B1.out.trans (hb2.mono B1.out.size))
  have IA2 := Lib.hid (IA1.out.below hb2 (Nat.le_refl _))
  have IB2 := Lib.hid (IB1.out.below hb2 (Nat.le_refl _))
  clear hb2 X1 Y1 R1 x0 x1 y0 y1 KB IA1 IB1
  have x0 := X2.cell0
  have x1 := X2.cell1
  have y0 := Y2.cell0
  have y1 := Y2.cell1
  have nb6 := numsV_all KN.out (by rw [List.length_append, ← HNA.out, ← HNB.out]; omega)
  have KNN : Hid (∀ W x c, Prs W (.slice x (na + nb) c) (ps ++ qs) → Calls Try.prog 50 #[.slice x (na + nb) c] W fun e w' => e = .returned (.slice (some ⟨W.heap.size, 0, none⟩) 128 128) ∧ RowI w' W.heap.size W.heap.size 128 128 (numsV (ps ++ qs)) ∧ Below W.heap.size W w') := fun W x c h =>
    l4Nums_in W x (na + nb) c (ps ++ qs) (by rw [List.length_append, ← HNA.out, ← HNB.out]) h (by omega) KN.out
  generalize numsV (ps ++ qs) = NN at *
  have KQ : Hid (∀ W B g c, RowI W B g 128 c NN → Calls Try.prog 52 #[.slice (some ⟨g, 0, none⟩) 128 c, .int .i64 A] W fun e w' => e = .returned (.slice (some ⟨g, 0, none⟩) 128 c) ∧ RowI w' B g 128 c (sqz NN (A / 8) 63) ∧ W.grownBy w' (some g)) := fun W B g c h =>
    l4Squeeze_at W B g c _ A 600000 h nb6 A0 (by omega) (by omega)
  generalize sqz NN (A / 8) 63 = Q at *
  clear nb6
  go_upto_region 3 with fail
  -- the literal of nothing
  have lxy : w.heap.size + 1 + 1 < w2.heap.size := R2.lt
  have hBA := ((Below.refl w2.heap.size w2).alloc (Nat.le_refl _) (.cells #[] 33)).drew
  have OE : Hid (OwnP (w2.alloc (.cells #[] 33)).drew w2.heap.size (.slice (some ⟨w2.heap.size, 0, none⟩) 0 0) []) := Lib.hid (World.ownsRow.drew (pair_empty w2 w2.heap.size (Nat.le_refl _)))
  have XA := (X2.alloc (.cells #[] 33)).drew
  have YA := (Y2.alloc (.cells #[] 33)).drew
  have RA := (R2.alloc (.cells #[] 33)).drew
  have PA := Lib.hid (IA2.out.below hBA (Nat.le_refl _))
  have HBA := Lib.hid hBA
  have xa0 := XA.cell0
  have ya0 := YA.cell0
  have LXY := Lib.hid lxy
  have HXA := Lib.hid XA
  have HYA := Lib.hid YA
  have HRA := Lib.hid RA
  have x0d := X2.drew.cell0
  have y0d := Y2.drew.cell0
  clear hBA XA YA RA lxy X2 Y2 R2 x0 x1 y0 y1
  go_cut [6] (fun q wx => ∃ g, q = .slice (some ⟨g, 0, none⟩) 128 128 ∧ CutJ w w2 wx g NN x na c a y nb d b)
  case first =>
    go_region_law ((first
        | (refine step_append_prs rfl _ _ (by rfl) w2.heap.size 0 na na _ _ [] ps (by rfl) (by rfl) OE.out PA.out (by simp) (by rw [← HNA.out]; omega) rfl HNA.out (by omega) (by simp) ?_; intro y1 c1 w5 ho5 hg5; have X5 := HXA.out.kept hg5 (by simp [Value.ownBlock]; have := LXY.out; omega); have Y5 := HYA.out.kept hg5 (by simp [Value.ownBlock]; have := LXY.out; omega); have R5 := HRA.out.kept hg5 (by simp [Value.ownBlock]; have := LXY.out; omega); have x50 := X5.cell0; have y50 := Y5.cell0; have B5 := Lib.hid (HBA.out.grown hg5 HBA.out.size (fun k e => by simp [Value.ownBlock] at e; omega)); have P5 := Lib.hid (IB2.out.below B5.out (Nat.le_refl _)))
        | (refine step_append_prs rfl _ _ (by rfl) w2.heap.size na nb (na + nb) _ _ ps qs (by rfl) (by rfl) ho5 P5.out (by rw [← HNA.out]; omega) (by rw [← HNB.out]; omega) HNA.out HNB.out rfl B5.out.size ?_; intro y2 c2 w6 ho6 hg6; have X6 := Lib.hid (X5.kept hg6 (X5.not_row (by decide) ho5)); have Y6 := Lib.hid (Y5.kept hg6 (Y5.not_row (by decide) ho5)); have R6 := Lib.hid (R5.kept hg6 (R5.not_row (by decide) ho5)); have B6 := Lib.hid (B5.out.grown hg6 B5.out.size (fun k e => (World.ownsRow.lt ho5 k e).1)); clear X5 Y5 R5 x50 y50)
        | (go_simp; go_at_call 50; refine (KNN.out _ _ _ ho6.rd).mono ?_; rintro e w7 ⟨rfl, hr7, hb7⟩; have CUT := Lib.hid (CutJ.mk (g := w6.heap.size) B6.out.size hr7 (X6.out.later hb7) (Y6.out.later hb7) (R6.out.later hb7) (B6.out.trans (hb7.mono B6.out.size))); clear hr7 hb7 ho6 ho5 hg5 hg6)))
    all_goals (go_wp2_with fail; go_meet)
    all_goals exact ⟨_, rfl, CUT.out⟩
  case rest =>
    obtain ⟨g, rfl, hc⟩ := hcut
    have hgl := hc.row.lt.2
    have g0 := hc.new
    have KD := Lib.hid (KQ.out wc.drew g g 128 (hc.row.drewN 1))
    have HX := Lib.hid hc.X.drew
    have HY := Lib.hid hc.Y.drew
    have HR := Lib.hid hc.R.drew
    have HBL : Hid (Below w.heap.size w wc.drew) := Lib.hid ((B2.out.trans (hc.B.mono B2.out.size)).trans (Below.drew (Below.refl _ _)))
    have x1 := hc.X.drew.cell1
    have y1 := hc.Y.drew.cell1
    have x1' := hc.X.cell1
    have y1' := hc.Y.cell1
    have lxy := LXY.out
    clear hc
    go_upto_region 4 with fail
    go_region_held3 (fun w' => w'.cell? ⟨w.heap.size, 1, none⟩ = some (.int .i64 a) ∧ w'.cell? ⟨w.heap.size + 1, 1, none⟩ = some (.int .i64 b)) (first | (with_reducible exact ⟨x1, y1⟩) | (with_reducible exact ⟨p1, q1⟩) | (with_reducible exact ⟨q0, q0'⟩) | (with_reducible exact ⟨r0, r0'⟩))
     (first
      | (go_at_call 52; refine KD.out.mono ?_; rintro e w4 ⟨rfl, hr4, hg4⟩; have X4 := HX.out.kept hg4 (by simp; omega); have Y4 := HY.out.kept hg4 (by simp; omega); have R4 := HR.out.kept hg4 (by simp; omega); have p1 := X4.cell1; have q1 := Y4.cell1; have B4 := Lib.hid (HBL.out.trans (below_grown hg4 (by omega) HBL.out.size)); have KE := Lib.hid (l4List_at w4 g g 128 Q hr4); have SZ := Lib.hid hg4.size; clear hr4 hg4)
      | (go_at_call 51; refine KE.out.mono ?_; rintro e w5 ⟨v, rfl, ho5, hb5⟩; obtain ⟨xz, cz, rfl, _, _⟩ := ho5.form; have R5 := R4.later hb5; have f2 := R5.free; have z0 := R5.cell0; have z1 := R5.cell1; have X5 := X4.later hb5; have q0 := X5.cell1; have Y5 := Y4.later hb5; have q0' := Y5.cell1; have B5 := Lib.hid (B4.out.trans (hb5.mono B4.out.size)); have XZ := X5.kept ((grownBy_setCell w5 ⟨w.heap.size + 1 + 1, 0, none⟩ (.slice xz (listV Q).length cz)).trans (grownBy_setCell _ ⟨w.heap.size + 1 + 1, 1, none⟩ (.int .i64 A))) (by simp; omega); have YZ := Y5.kept ((grownBy_setCell w5 ⟨w.heap.size + 1 + 1, 0, none⟩ (.slice xz (listV Q).length cz)).trans (grownBy_setCell _ ⟨w.heap.size + 1 + 1, 1, none⟩ (.int .i64 A))) (by simp); have r0 := XZ.cell1; have r0' := YZ.cell1; clear XZ YZ hb5))
    have RZ := R5.set (.slice xz (listV Q).length cz) (.int .i64 A)
    have hr0 := RZ.cell0
    have hr1 := RZ.cell1
    have OZ := Lib.hid ((ho5.set2 (R5.not_row (by decide) ho5) (.slice xz (listV Q).length cz) (.int .i64 A)).base (B' := w.heap.size) (by have := SZ.out; simp at this; omega))
    have BZ := Lib.hid (below_set2 (b := w.heap.size + 1 + 1) B5.out (by omega) (.slice xz (listV Q).length cz) (.int .i64 A))
    clear ho5 X4 Y4 R4 X5 Y5 R5 RZ f2 z0 z1 q0 q0' p1 q1 r0 r0'
    go_wp2
    exact bodyPost_ret (v := .tuple #[.agg #[.slice xz (listV Q).length cz, .int .i64 A], .bool true]) (by simp [results, Try.results35, go_sem, hr0, hr1]) rfl ⟨_, rfl, by rw [EB.out]; exact OZ.out, BZ.out⟩

end Go.Proofs.Ytnpcgbjkahpcfaa
