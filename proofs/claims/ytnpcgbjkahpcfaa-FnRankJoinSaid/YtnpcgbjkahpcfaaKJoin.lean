/-
  Knots of two joined: the program's RankJoin and RankAdd.
-/
import Derived.Test.YtnpcgbjkahpcfaaKSqueezed
import Derived.Test.YtnpcgbjkahpcfaaKOf
import Derived.Test.YtnpcgbjkahpcfaaKConc
namespace Go.Proofs.Ytnpcgbjkahpcfaa
open Go.RowKit Go.Sort

def joinOkK (ps : List Pr) (a : Int) (qs : List Pr) (b : Int) : Bool := rankB ps a && (rankB qs b && decide (a + b ≤ 2000))
def joinK (ps : List Pr) (a : Int) (qs : List Pr) (b : Int) : List Pr × Int := if joinOkK ps a qs b then (bothK ps a qs b, a + b) else ([], 0)
theorem joinK_no {ps : List Pr} {a : Int} {qs : List Pr} {b : Int} (h : joinOkK ps a qs b = false) : joinK ps a qs b = ([], 0) := by simp [joinK, h]
theorem joinK_yes {ps : List Pr} {a : Int} {qs : List Pr} {b : Int} (h : joinOkK ps a qs b = true) : joinK ps a qs b = (bothK ps a qs b, a + b) := by simp [joinK, h]
theorem joinOkK_yes {ps : List Pr} {a : Int} {qs : List Pr} {b : Int} (h : joinOkK ps a qs b = true) : rankB ps a = true ∧ rankB qs b = true ∧ a + b ≤ 2000 := by
  unfold joinOkK at h
  simpa using h
theorem sqz_0 (N : List Int) (D : Int) : ∀ s, s ≤ 63 → (sqz N D s).getD 0 0 = N.getD 0 0 := by
  intro s
  induction s with
  | zero => intro _; rfl
  | succ s ih => intro h; rw [sqz, sq1_0 _ (by omega)]; exact ih (by omega)
theorem RankP.len {ps : List Pr} {all : Int} (h : RankP ps all) : ps.length ≤ 127 := knG_few h.2.1
theorem KnB.append {ps qs : List Pr} (h : KnB ps) (h' : KnB qs) : KnB (ps ++ qs) := fun i hi => by
  have m : ∀ {l : List Pr}, KnB l → ∀ p ∈ l, (0 ≤ p.1 ∧ p.1 ≤ 127) ∧ 0 ≤ p.2 ∧ p.2 ≤ 2000 := fun hl p hp => by
    obtain ⟨j, hj, rfl⟩ := pr_at hp
    exact hl j hj
  rcases List.mem_append.1 (pr_mem hi) with e | e
  · exact m h _ e
  · exact m h' _ e

set_option maxRecDepth 100000 in
set_option maxHeartbeats 16000000 in
theorem imRankJoin_yes (w : World) (u v : Value) (ps : List Pr) (a : Int) (qs : List Pr) (b : Int) (hp : Prs w u ps) (hq : Prs w v qs) (ka : rankB ps a = true) (kb : rankB qs b = true) (hab : a + b ≤ 2000) :
    Calls Try.prog 36 #[.agg #[u, .int .i64 a], .agg #[v, .int .i64 b]] w fun e w' => ∃ x, e = .returned (.tuple #[.agg #[x, .int .i64 (a + b)], .bool true]) ∧ OwnP w' w.heap.size x (bothK ps a qs b) ∧ Below w.heap.size w w' := by
  have PA := (rankB_iff _ _).1 ka
  have PB := (rankB_iff _ _).1 kb
  have la := PA.len
  have lb := PB.len
  have kn := PA.knB.append PB.knB
  have aa := PA.1.1
  have bb := PB.1.1
  have hat := PA.atK.append PB.atK
  have HAT := Lib.hid hat
  obtain ⟨W, hW⟩ : ∃ W, W = ((w.alloc (.cells #[u, .int .i64 a] 29)).alloc (.cells #[v, .int .i64 b] 29)).alloc (.cells #[.slice none 0 0, .int .i64 0] 29) := ⟨_, rfl⟩
  have hA : Below w.heap.size w W := by rw [hW]; exact (((Below.refl _ _).alloc (Nat.le_refl _) _).alloc (by simp) _).alloc (by simp; omega) _
  have sW : W.heap.size = w.heap.size + 3 := by rw [hW]; simp
  have X : Box2 W w.heap.size 29 u (.int .i64 a) := by rw [hW]; exact ((Box2.new _ _ _ _).alloc _).alloc _
  have Y : Box2 W (w.heap.size + 1) 29 v (.int .i64 b) := by
    have h := (Box2.new (w.alloc (.cells #[u, .int .i64 a] 29)) 29 v (.int .i64 b)).alloc (.cells #[.slice none 0 0, .int .i64 0] 29)
    rw [hW]; simpa using h
  have R : Box2 W (w.heap.size + 1 + 1) 29 (.slice none 0 0) (.int .i64 0) := by
    have h := Box2.new ((w.alloc (.cells #[u, .int .i64 a] 29)).alloc (.cells #[v, .int .i64 b] 29)) 29 (.slice none 0 0) (.int .i64 0)
    rw [hW]; simpa using h
  have IA := Lib.hid (hp.below hA (Nat.le_refl _))
  have IB := Lib.hid (hq.below hA (Nat.le_refl _))
  have KA := Lib.hid (imRankOk_at W u ps a IA.out)
  have KB : Hid (∀ W, Prs W v qs → Calls Try.prog 22 #[.agg #[v, .int .i64 b]] W fun e w' => e = .returned (.bool true) ∧ Below W.heap.size W w') := fun W h => by rw [← kb]; exact imRankOk_at W v qs b h
  rw [ka] at KA
  obtain ⟨x, c, rfl, _, _⟩ := hp.form
  obtain ⟨y, d, rfl, _, _⟩ := hq.form
  obtain ⟨na, hna⟩ : ∃ n, n = ps.length := ⟨_, rfl⟩
  obtain ⟨nb, hnb⟩ : ∃ n, n = qs.length := ⟨_, rfl⟩
  rw [← hna] at KA hW X IA la
  rw [← hnb] at KB hW Y IB lb
  rw [← hna, ← hnb]
  have HNA := Lib.hid hna
  have HNB := Lib.hid hnb
  have HA := Lib.hid hA
  have HS := Lib.hid sW
  have KN := Lib.hid kn
  obtain ⟨A, hAll⟩ : ∃ A, A = a + b := ⟨_, rfl⟩
  rw [← hAll] at hab ⊢
  have ws : IntKind.i64.wrap (a + b) = A := by rw [hAll]; exact IntWalk.i64_in _ (by omega)
  have hgt : decide ((2000 : Int) < A) = false := decide_eq_false (by omega)
  have HAL := Lib.hid hAll
  have A0 : 0 ≤ A := by omega
  have EB : Hid (bothK ps a qs b = listV (sqz (numsV (ps ++ qs)) (A / 8) 63)) := by show _ = _; unfold bothK doneK; rw [hAll]
  have x0 := X.cell0
  have x1 := X.cell1
  have y0 := Y.cell0
  have y1 := Y.cell1
  clear hp hq ka kb PA PB kn hat hA sW hna hnb hAll
  go_enter Try.func36, Try.ntmps36
  go_wp2_with fail
  rw [← hW]
  clear hW
  go_wp2_with fail
  refine KA.out.mono ?_
  rintro e w1 ⟨rfl, hb1⟩
  have X1 := X.later hb1
  have Y1 := Y.later hb1
  have R1 := R.later hb1
  have B1 := Lib.hid (HA.out.trans (hb1.mono HA.out.size))
  have IA1 := Lib.hid (IA.out.below hb1 (Nat.le_refl _))
  have IB1 := Lib.hid (IB.out.below hb1 (Nat.le_refl _))
  clear hb1 X Y R x0 x1 y0 y1 KA IA IB
  have x0 := X1.cell0
  have x1 := X1.cell1
  have y0 := Y1.cell0
  have y1 := Y1.cell1
  go_wp2_with fail
  refine (KB.out _ IB1.out).mono ?_
  rintro e w2 ⟨rfl, hb2⟩
  have X2 := X1.later hb2
  have Y2 := Y1.later hb2
  have R2 := R1.later hb2
  have B2 := Lib.hid (B1.out.trans (hb2.mono B1.out.size))
  have IA2 := Lib.hid (IA1.out.below hb2 (Nat.le_refl _))
  have IB2 := Lib.hid (IB1.out.below hb2 (Nat.le_refl _))
  clear hb2 X1 Y1 R1 x0 x1 y0 y1 KB IA1 IB1
  have x0 := X2.cell0
  have x1 := X2.cell1
  have y0 := Y2.cell0
  have y1 := Y2.cell1
  go_upto_region 4 with fail
  go_step
  refine wpList_alloc_arr rfl rfl ?_
  obtain ⟨W3, hW⟩ : ∃ W3, W3 = w2.alloc (.cells (arrC (List.replicate 128 0)) 68) := ⟨_, rfl⟩
  rw [← hW]
  have N3 : Hid (ArrI W3 w2.heap.size (List.replicate 128 0)) := by show ArrI _ _ _; rw [hW]; exact ArrI.new w2 _ (by simp)
  have hA3 : Below w2.heap.size w2 W3 := by rw [hW]; exact (Below.refl _ _).alloc (Nat.le_refl _) _
  have s3 : W3.heap.size = w2.heap.size + 1 := by rw [hW]; simp
  have X3 := X2.later hA3
  have Y3 := Y2.later hA3
  have R3 := R2.later hA3
  have B3 := Lib.hid (B2.out.trans (hA3.mono B2.out.size))
  have IA3 := Lib.hid (IA2.out.below hA3 (Nat.le_refl _))
  have IB3 := Lib.hid (IB2.out.below hA3 (Nat.le_refl _))
  have S3 := Lib.hid s3
  have LR := Lib.hid R2.lt
  clear hW hA3 s3 X2 Y2 R2 x0 x1 y0 y1 IA2 IB2 B2
  have x0 := X3.cell0
  have y0 := Y3.cell0
  -- the two lists, in one literal
  obtain ⟨W4, hW4⟩ : ∃ W4, W4 = W3.alloc (.cells #[.slice x na c, .slice y nb d] 27) := ⟨_, rfl⟩
  have hA4 : Below W3.heap.size W3 W4 := by rw [hW4]; exact (Below.refl _ _).alloc (Nat.le_refl _) _
  have KC : Hid (Calls Try.prog 54 #[.slice (some ⟨W3.heap.size, 0, none⟩) 2 2] W4 fun e w' => ∃ v, e = .returned v ∧ OwnP w' W4.heap.size v (ps ++ qs) ∧ Below W4.heap.size W4 w') :=
    concat_at W4 W3.heap.size na nb c d x y ps qs HNA.out.symm HNB.out.symm la lb (IA3.out.below hA4 (Nat.le_refl _)) (IB3.out.below hA4 (Nat.le_refl _)) (by rw [hW4]; simp) (by rw [hW4]; simp)
  have X4 := X3.later hA4
  have Y4 := Y3.later hA4
  have R4 := R3.later hA4
  have N4 := Lib.hid (N3.out.later hA4)
  have B4 := Lib.hid (B3.out.trans (hA4.mono B3.out.size))
  have S4 := Lib.hid hA4.size
  clear X3 Y3 R3 N3 B3 IA3 IB3 hA4
  go_wp2_with fail
  rw [← hW4]
  clear hW4 x0 y0
  refine KC.out.mono ?_
  rintro e w5 ⟨v, rfl, ho5, hb5⟩
  have R5 := R4.later hb5
  have N5 := Lib.hid (N4.out.later hb5)
  have B5 := Lib.hid (B4.out.trans (hb5.mono B4.out.size))
  obtain ⟨z, cz, rfl, _, _⟩ := ho5.form
  have hcs := ho5.rd.cells
  obtain ⟨n, hn⟩ : ∃ n, n = (ps ++ qs).length := ⟨_, rfl⟩
  have n300 : n ≤ 300 := by rw [hn, List.length_append, ← HNA.out, ← HNB.out]; omega
  have HP5 : Hid (∀ i, i < n → ∃ b o, z = some ⟨b, o, none⟩ ∧ b < w5.heap.size ∧ b ≠ w2.heap.size ∧ w5.cell? ⟨b, o + i * 2, none⟩ = some (.int .i64 (pr (ps ++ qs) i).1) ∧ w5.cell? ⟨b, o + i * 2 + 1, none⟩ = some (.int .i64 (pr (ps ++ qs) i).2)) := fun i hi => by
    obtain ⟨b, o, e, h1, h2, h3⟩ := hcs i (by rw [← hn]; exact hi)
    refine ⟨b, o, e, h1, ?_, h2, h3⟩
    have := (World.ownsRow.lt ho5 b (by rw [e]; rfl)).1
    have := S3.out
    have := S4.out
    omega
  rw [← hn]
  have HN := Lib.hid hn
  have SZ5 : Hid (w2.heap.size < w5.heap.size) := by show _ < _; have := S3.out; have := S4.out; have := hb5.size; omega
  have LR5 : Hid (w.heap.size + 1 + 1 < w2.heap.size) := LR
  clear ho5 hb5 hcs hn X4 Y4 R4 N4 B4 KC
  generalize hps : ps ++ qs = ks at *
  go_wp2_with fail
  go_loopw [39] (fun i wr => ∃ k : Nat, k ≤ n ∧ i = .int .i64 k ∧ ArrI wr w2.heap.size (numsV (ks.take k)) ∧ w5.grownBy wr (some w2.heap.size)) (fun i _ => n - (intOf i).toNat)
  case atStart => exact ⟨0, Nat.zero_le _, rfl, N5.out, grownBy_refl _ _⟩
  case round =>
    obtain ⟨k, hk, rfl, hrow, hgr⟩ := hrel
    have HR := Lib.hid hrow
    have HG := Lib.hid hgr
    by_cases hlt : k < n
    · obtain ⟨g, o, rfl, hg, hne, h1, h2⟩ := HP5.out k hlt
      have e5 := hgr.block g hg (fun e => hne (by cases e; rfl))
      rw [← World.cell?_of_block (a := ⟨g, o + k * 2, none⟩) e5] at h1
      rw [← World.cell?_of_block (a := ⟨g, o + k * 2 + 1, none⟩) e5] at h2
      have gk := KN.out k (by rw [← HN.out]; exact hlt)
      have bd := numsV_bd KN.out k (by rw [← HN.out]; omega)
      have hs := Lib.hid (numsV_succ ks k (by rw [← HN.out]; exact hlt))
      generalize pr ks k = q at h1 h2 hs gk
      obtain ⟨t, m⟩ := q
      simp only at h1 h2 gk
      obtain ⟨⟨t0, t1⟩, m0, m1⟩ := gk
      obtain ⟨T, rfl⟩ : ∃ T : Nat, t = (T : Int) := ⟨t.toNat, by omega⟩
      have T1 : (T : Int) < 128 := by omega
      have bT := bd T
      unfold addN at hs
      simp only [Int.toNat_natCast] at hs
      have l2 : w2.heap.size < wr.heap.size := Nat.lt_of_lt_of_le SZ5.out hgr.size
      obtain ⟨wk, hwk⟩ : ∃ wk, wk = wr.alloc (.cells #[.int .i64 T, .int .i64 m] 33) := ⟨_, rfl⟩
      have hK : Below wr.heap.size wr wk := by rw [hwk]; exact (Below.refl _ _).alloc (Nat.le_refl _) _
      have bK : Box2 wk wr.heap.size 33 (.int .i64 T) (.int .i64 m) := by rw [hwk]; exact Box2.new _ _ _ _
      have k0' := bK.cell0
      have k1' := bK.cell1
      have HRK := Lib.hid (HR.out.later hK)
      have HGK := Lib.hid (grownBy_trans HG.out (grownBy_below (row := some w2.heap.size) hK))
      have c0 := HRK.out.cell (i := T) (by omega)
      have f0 := HRK.out.free T
      generalize numsV (ks.take k) = N at *
      obtain ⟨V, hV⟩ : ∃ V, V = N.getD T 0 := ⟨_, rfl⟩
      rw [← hV] at c0 bT hs
      have kk0 : (0 : Int) ≤ (k : Int) := by omega
      have kn' : (k : Int) < (n : Int) := by omega
      have wsV : IntKind.i64.wrap (V + m) = V + m := IntWalk.i64_in _ (by omega)
      have r0 := cell_regrown c0
      have r1 := cell_regrown k0'
      have r2 := cell_regrown k1'
      clear hrow hgr bd hV e5 bK
      go_wp2_with fail
      rw [← hwk]
      clear hwk
      refine wp_region_last (C := fun w' => ∃ p : Regrown, w' = grow (redrawn wk p.d) p.os) 8 _ rfl rfl rfl (by kernel_rfl) (by kernel_rfl) (by kernel_rfl) (by kernel_rfl) (by kernel_rfl) ⟨⟨wk.drawn + 1, #[]⟩, by rw [grow_empty]; rfl⟩ ?_
      simp only [List.take_succ_cons, List.take_zero]
      repeat (refine boxed_step (fun K hK => ?_); go_simp; first | (refine hK _ ?_; clear hK K) | (apply Exists.intro; refine ⟨fun _ => ?_, hK _ ?_⟩; (fail); clear hK K))
      refine boxed_nil ?_
      intro _ hw'
      obtain ⟨⟨dq, oq⟩, hw''⟩ := hw'
      subst hw''
      have hb_w4 := below_regrown wk dq oq
      obtain ⟨w4, hq_w4⟩ : ∃ x, x = grow (redrawn wk dq) oq := ⟨_, rfl⟩
      rw [← hq_w4] at hb_w4 ⊢
      clear hq_w4
      have R4 := HRK.out.later (hb_w4)
      have d0 := R4.cell (i := T) (by omega)
      have d1 := R4.free T
      have RS := Lib.hid (R4.set T (V + m))
      have GS := Lib.hid (grownBy_trans (grownBy_trans HGK.out (grownBy_below (row := some w2.heap.size) hb_w4)) (grownBy_setCell w4 ⟨w2.heap.size, T, none⟩ (.int .i64 (V + m))))
      clear R4 hb_w4 r0 r1 r2 c0 f0 h1 h2 wsV k0' k1' hK
      go_wp2
      go_roundw
      case rel => exact ⟨k + 1, by omega, by go_num, by rw [hs.out]; exact RS.out, GS.out⟩
      case measure => simp [intOf]; omega
    · obtain rfl : k = n := by omega
      have e1 : ks.take k = ks := List.take_of_length_le (by rw [← HN.out]; exact Nat.le_refl _)
      rw [e1] at HR
      have nb6 := numsV_all KN.out (by rw [← HN.out]; exact n300)
      have n0 := numsV_0 ks HAT.out
      have nl := numsV_len ks
      have Rr := R5.kept hgr (by simp; have := LR5.out; omega)
      have Br : Hid (Below w.heap.size w wr) := Lib.hid (B5.out.trans (below_grown hgr (by have := LR5.out; omega) B5.out.size))
      clear hrow hgr e1 HP5 HN hk hlt R5 N5 B5
      generalize numsV ks = N at *
      have KS := Lib.hid (squeezed_at wr N A nl nb6 A0 hab)
      have lq : (sqz N (A / 8) 63).length = 128 := by rw [sqz_len]; exact nl
      have q0 : (sqz N (A / 8) 63).getD 0 0 = 0 := (sqz_0 N (A / 8) 63 (Nat.le_refl _)).trans n0
      generalize sqz N (A / 8) 63 = Q at *
      have KO : Hid (∀ W, Calls Try.prog 55 #[.agg (arrC Q)] W fun e w' => ∃ v, e = .returned v ∧ OwnP w' W.heap.size v (listV Q) ∧ Below W.heap.size W w') := fun W => knotsOf_at W Q lq q0
      generalize listV Q = ls at *
      have SR : Hid (w.heap.size + 1 + 1 < wr.heap.size) := Rr.lt
      clear nb6 n0 nl lq q0
      go_wp2_with (refine wpList_load_arr rfl _ rfl _ N rfl HR.out ?_)
      refine KS.out.mono ?_
      rintro e w6 ⟨rfl, hb6⟩
      have R6 := Rr.later hb6
      have B6 := Lib.hid (Br.out.trans (hb6.mono Br.out.size))
      have S6 := Lib.hid hb6.size
      clear hb6 Rr Br
      go_wp2_with fail
      refine (KO.out _).mono ?_
      rintro e w7 ⟨v, rfl, ho7, hb7⟩
      obtain ⟨xz, cz', rfl, _, _⟩ := ho7.form
      have R7 := R6.later hb7
      have B7 := Lib.hid (B6.out.trans (hb7.mono B6.out.size))
      have z0 := R7.cell0
      have z1 := R7.cell1
      have f2 := R7.free
      have RZ := R7.set (.slice xz ls.length cz') (.int .i64 A)
      have hr0 := RZ.cell0
      have hr1 := RZ.cell1
      have OZ := Lib.hid ((ho7.set2 (R7.not_row (by decide) ho7) (.slice xz ls.length cz') (.int .i64 A)).base (B' := w.heap.size) (by have := S6.out; have := SR.out; omega))
      have BZ := Lib.hid (below_set2 (b := w.heap.size + 1 + 1) B7.out (by omega) (.slice xz ls.length cz') (.int .i64 A))
      clear ho7 hb7 R7 RZ R6
      go_wp2
      exact bodyPost_ret (v := .tuple #[.agg #[.slice xz ls.length cz', .int .i64 A], .bool true]) (by simp [results, Try.results36, go_sem, hr0, hr1]) rfl ⟨_, rfl, by rw [EB.out]; exact OZ.out, BZ.out⟩

end Go.Proofs.Ytnpcgbjkahpcfaa
