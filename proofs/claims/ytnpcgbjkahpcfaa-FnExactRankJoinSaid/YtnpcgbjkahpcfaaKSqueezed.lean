/-
  What is little is counted above: the program's squeezed.
-/
import Derived.Test.YtnpcgbjkahpcfaaKQue
import Derived.Test.YtnpcgbjkahpcfaaKMath
import Derived.Test.YtnpcgbjkahpcfaaKIm
import Derived.Deep.Cut
namespace Go.Proofs.Ytnpcgbjkahpcfaa
open Go.RowKit Go.Sort

def lenQ : Value → Nat
  | .slice _ n _ => n
  | _ => 0
theorem down_two (p : Int) (n : Nat) : down p (n + 2) = p :: (p - 1) :: down (p - 1 - 1) n := rfl

theorem quiet_sameN {P : Program} {f : FuncId} {args : Array Value} {w : World} {m n : Nat} {v : Value}
    (h : ∀ W, Calls P f args W fun e w' => e = .returned v ∧ W = w') : Calls P f args (w.drewN (m + n)) fun e w'' => e = .returned v ∧ ∃ k, w'' = w.drewN (m + k) :=
  (h _).mono fun _ _ ⟨he, hm⟩ => ⟨he, n, hm.symm⟩

set_option maxRecDepth 100000 in
set_option maxHeartbeats 8000000 in
theorem squeezed_at (w : World) (N : List Int) (all : Int) (hl : N.length = 128) (hb : BdN N 600000) (a0 : 0 ≤ all) (a1 : all ≤ 2000) :
    Calls Try.prog 56 #[.agg (arrC N), .int .i64 all] w fun e w' => e = .returned (.agg (arrC (sqz N (all / 8) 63))) ∧ Below w.heap.size w w' := by
  obtain ⟨i0, hi, hz0, hz1, hz2⟩ := info_parts int_info
  obtain ⟨D, hDD⟩ : ∃ D, D = all / 8 := ⟨_, rfl⟩
  have hD0 : 0 ≤ D := by omega
  have hD1 : D ≤ 250 := by omega
  rw [← hDD]
  have HDD := Lib.hid hDD
  obtain ⟨Z0, hZ0⟩ : ∃ Z0, Z0 = List.replicate 128 (0 : Int) := ⟨_, rfl⟩
  have hz128 : Z0.length = 128 := by rw [hZ0]; simp
  obtain ⟨W, hW⟩ : ∃ W, W = (w.alloc (.cells (arrC N) 68)).alloc (.cells (arrC Z0) 68) := ⟨_, rfl⟩
  have hA : Below w.heap.size w W := by rw [hW]; exact ((Below.refl _ _).alloc (Nat.le_refl _) _).alloc (by simp) _
  have sW : W.heap.size = w.heap.size + 2 := by rw [hW]; simp
  have R0 : ArrI W w.heap.size N := by rw [hW]; exact (ArrI.new w N hl).alloc _
  have R1 : ArrI W (w.heap.size + 1) Z0 := by rw [hW]; have := ArrI.new (w.alloc (.cells (arrC N) 68)) Z0 hz128; rwa [World.size_alloc] at this
  have HA := Lib.hid hA
  have HS := Lib.hid sW
  have HR0 := Lib.hid R0
  have HR1 := Lib.hid R1
  have HB := Lib.hid hb
  have HL := Lib.hid hl
  have HZ := Lib.hid hZ0
  clear hA sW R0 R1 hb hl hDD hz128 hZ0
  go_enter Try.func56, Try.ntmps56
  go_upto_region 0 with fail
  go_step
  refine wpList_box_arr rfl _ rfl N rfl ?_
  refine wpList_alloc_arr rfl rfl ?_
  rw [← HZ.out]
  rw [← hW]
  clear hW
  rw [World.size_alloc]
  go_wp2_with fail
  go_loopw [5, 6] (fun q i wr => ∃ (j : Nat) (I : Int) (x : Option Addr) (c : Nat), j ≤ 64 ∧ I = 127 - (j : Int) ∧ i = .int .i64 I ∧ q = .slice x j c ∧ wr.ownsRow W.heap.size 3 1 (.slice x j c) j (ints (down 127 j)) ∧ Below W.heap.size W wr) (fun _ i _ => (intOf i).toNat)
  case atStart => exact ⟨0, 127, none, 0, by omega, rfl, rfl, rfl, World.ownsRow_nil _ _ _ 1, Below.refl _ _⟩
  case round =>
    obtain ⟨j, I, x, c, hj, hI, rfl, rfl, ho, hbl⟩ := hrel
    have HO := Lib.hid ho
    have HBL := Lib.hid hbl
    have szr := hbl.size
    have hdn := Lib.hid (down_snoc 127 j)
    by_cases hlt : j < 64
    · have I0 : 64 ≤ I := by omega
      have I1 : I ≤ 127 := by omega
      have e : Hid (ints (down 127 j) ++ [Value.int .i64 I] = ints (down 127 (j + 1))) := by
        show _ = _
        rw [← hdn.out, hI]; simp [ints]
      have HI := Lib.hid hI
      clear ho hbl hI
      go_wp2_with (first | (at_builtin; refine wpList_append_own _ rfl _ _ 64 rfl W.heap.size 3 i0 (.int .i64 0) 1 8 Try.underlying64 hi hz0 hz1 hz2 rfl (by decide) _ _ _ rfl (HO.out.alloc _) ⟨wr.heap.size, 0, none⟩ 1 1 [.int .i64 I] rfl rfl (cell_one_new _ _ _) (by simp [Value.oneCell']) (by unfold maxLen; omega) (by omega) (by simp; omega) ?_; intro v1 w3 ho1 hg1 _; obtain ⟨g_v1, c_v1, rfl, _, _⟩ := World.ownsRow.form ho1 (Nat.succ_pos _)))
      go_roundw
      case rel => exact ⟨j + 1, I - 1, _, _, by omega, by have := HI.out; omega, rfl, rfl, by rw [← e.out]; exact ho1, below_appendP HBL.out szr HO.out hg1⟩
      case measure => simp [intOf]; omega
    · obtain rfl : j = 64 := by omega
      obtain rfl : I = 63 := by omega
      have HQ0 := Lib.hid (Que.of_own ho (by rw [down_len]) (by omega))
      have HX0 := Lib.hid (HR0.out.below hbl HR0.out.lt)
      have HX1 := Lib.hid (HR1.out.below hbl HR1.out.lt)
      have HB0 := Lib.hid (HA.out.trans (hbl.mono HA.out.size))
      clear ho hbl hI HO HBL hlt hj hdn
      go_wp2_with fail
      go_loopw [5] (fun q wx => ∃ (J n : Nat) (y : Option Addr) (c : Nat), J ≤ 63 ∧ n = J + 1 ∧ q = .slice y n c ∧ Que wx W.heap.size y c (down (2 * (J : Int) + 1) (J + 1)) ∧ ArrI wx w.heap.size (sqz N D (63 - J)) ∧ ArrI wx (w.heap.size + 1) Z0 ∧ Below w.heap.size w wx ∧ W.heap.size ≤ wx.heap.size) (fun q _ => lenQ q)
      case atStart => exact ⟨63, 64, _, _, Nat.le_refl _, rfl, rfl, HQ0.out, HX0.out, HX1.out, HB0.out, szr⟩
      case round =>
        clear HQ0 HX0 HX1 HB0 HA HR0 HR1 szr
        obtain ⟨J, n, y, c, hJ, hn, rfl, hq, hx0, hx1, hbl, szr⟩ := hrel
        have HQ := Lib.hid hq
        have HX1 := Lib.hid hx1
        have HBL := Lib.hid hbl
        by_cases h1 : 1 ≤ J
        · obtain ⟨m, hm⟩ : ∃ m, m = J - 1 := ⟨_, rfl⟩
          obtain ⟨g, o, rfl, hg0, hg1, hc0, hc1, hcells⟩ := hq.at
          rw [down_len] at hc0 hcells
          have q0 := hcells 0 (by omega)
          have q1 := hcells 1 (by omega)
          rw [show J + 1 = m + 2 by omega, down_two] at q0 q1 HQ
          simp only [Nat.add_zero, List.getD_cons_zero, List.getD_cons_succ] at q0 q1
          obtain ⟨I, hI⟩ : ∃ I : Nat, I = 2 * J := ⟨_, rfl⟩
          obtain ⟨I1, hI1⟩ : ∃ I1 : Nat, I1 = 2 * J + 1 := ⟨_, rfl⟩
          have eI1 : 2 * (J : Int) + 1 = (I1 : Int) := by omega
          have eI : (I1 : Int) - 1 = (I : Int) := by omega
          rw [eI1, eI] at q1 HQ
          rw [eI1] at q0
          have bd := sqz_bd HB.out (show D ≤ 600000 by omega) (by omega) (63 - J)
          have hs := Lib.hid (show sqz N D (63 - (J - 1)) = sq1 (sqz N D (63 - J)) D J by rw [show 63 - (J - 1) = (63 - J) + 1 by omega, sqz, show 63 - (63 - J) = J by omega])
          have lZ : (sqz N D (63 - J)).length = 128 := by rw [sqz_len]; exact HL.out
          have hany := sq1_any (D := D) (fun i => (bd i).1) lZ J h1 hJ
          generalize sqz N D (63 - J) = Z at *
          have cI := hx0.cell (i := I) (by omega)
          have cI1 := hx0.cell (i := I1) (by omega)
          have cJ := hx0.cell (i := J) (by omega)
          have fI := hx0.free I
          have fI1 := hx0.free I1
          have fJ := hx0.free J
          have bI := bd I
          have bI1 := bd I1
          have bJ := bd J
          rw [← hI1, ← hI] at hany
          obtain ⟨V0, hV0⟩ : ∃ V, V = Z.getD I 0 := ⟨_, rfl⟩
          obtain ⟨V1, hV1⟩ : ∃ V, V = Z.getD I1 0 := ⟨_, rfl⟩
          obtain ⟨VJ, hVJ⟩ : ∃ V, V = Z.getD J 0 := ⟨_, rfl⟩
          rw [← hV0, ← hV1, ← hVJ] at hany
          rw [← hV0] at cI bI
          rw [← hV1] at cI1 bI1
          rw [← hVJ] at cJ bJ
          have HANY := Lib.hid hany
          have HR := Lib.hid hx0
          have w1 : IntKind.i64.wrap (V0 + V1) = V0 + V1 := IntWalk.i64_in _ (by omega)
          have w2 : IntKind.i64.wrap (VJ + (V0 + V1)) = VJ + (V0 + V1) := IntWalk.i64_in _ (by omega)
          have j0 : (J : Int) < 64 := by omega
          have j128 : (J : Int) < 128 := by omega
          have jj : (0 : Int) ≤ (J : Int) := by omega
          have i0' : (I : Int) < 128 := by omega
          have i1' : (I1 : Int) < 128 := by omega
          have n2 : (1 : Int) < (n : Int) := by omega
          have hsh : (I1 : Int) / 2 = (J : Int) := by omega
          have KM : Hid (∀ W, Calls Try.prog 48 #[.int .i64 J, .int .i64 all] W fun e w' => e = .returned (.int .i64 D) ∧ W = w') := fun W => by
            have h := knotMost_at J all W a0 a1
            unfold mostK at h
            rw [if_pos (by omega), ← HDD.out] at h
            exact h
          have HI := Lib.hid hI
          have HI1 := Lib.hid hI1
          have HM := Lib.hid hm
          have HN := Lib.hid hn
          clear hn hm hcells hV0 hV1 hVJ hany hx0 hx1 hbl hq eI eI1 hI hI1 bd lZ
          have hge : (1 : Int) ≤ (J : Int) := by omega
          have HB2 : Hid (w.heap.size < W.heap.size ∧ w.heap.size + 1 < W.heap.size) := by show _ ∧ _; have := HS.out; omega
          have nc : n ≤ c := by have := HN.out; omega
          have n22 : (2 : Int) ≤ (n : Int) := by omega
          have LST : Hid (down ((I : Int) - 1) m ++ [(J : Int)] = down (2 * ((J - 1 : Nat) : Int) + 1) (J - 1 + 1)) := by
            show _ = _
            have h := down_snoc ((I : Int) - 1) m
            have e1 := HI.out
            have e2 := HM.out
            rw [show (I : Int) - 1 - (m : Int) = (J : Int) by omega] at h
            rw [h, show 2 * ((J - 1 : Nat) : Int) + 1 = (I : Int) - 1 by omega, show J - 1 + 1 = m + 1 by omega]
          by_cases c2 : VJ + (V0 + V1) ≤ D
          · have e := Lib.hid (HANY.out.symm.trans (if_pos c2))
            have dc : decide (VJ + (V0 + V1) ≤ D) = true := decide_eq_true c2
            have ne1 : I ≠ J := by have := HI.out; omega
            have ne2 : I1 ≠ J := by have := HI1.out; omega
            have ne3 : I1 ≠ I := by have := HI1.out; have := HI.out; omega
            obtain ⟨F, hF⟩ : ∃ F : Nat → World, F = fun q => (((wr.drewN q).setCell ⟨w.heap.size, J, none⟩ (.int .i64 (VJ + (V0 + V1)))).setCell ⟨w.heap.size, I, none⟩ (.int .i64 0)).setCell ⟨w.heap.size, I1, none⟩ (.int .i64 0) := ⟨_, rfl⟩
            have FA : Hid (∀ q, ArrI (F q) w.heap.size (((Z.set J (VJ + (V0 + V1))).set I 0).set I1 0)) := fun q => by rw [hF]; exact (((HR.out.drewN q).set J _).set I 0).set I1 0
            have FX : Hid (∀ q, ArrI (F q) (w.heap.size + 1) Z0) := fun q => by rw [hF]; exact (((HX1.out.drewN q).kept (ArrI.grown _ _ _ _) (by simp)).kept (ArrI.grown _ _ _ _) (by simp)).kept (ArrI.grown _ _ _ _) (by simp)
            have FB : Hid (∀ q, Below w.heap.size w (F q)) := fun q => by rw [hF]; exact (((below_drewN HBL.out q).setCell (Nat.le_refl _) _).setCell (Nat.le_refl _) _).setCell (Nat.le_refl _) _
            have FS : Hid (∀ q, (F q).heap.size = wr.heap.size) := fun q => by rw [hF]; simp
            have FQ : Hid (∀ q, Que (F q) W.heap.size (some ⟨g, o, none⟩) c (↑I1 :: ↑I :: down (↑I - 1) m)) := fun q => by rw [hF]; exact (((HQ.out.drewN q).set _ _ _ HB2.out.1).set _ _ _ HB2.out.1).set _ _ _ HB2.out.1
            have GOF : Hid (∀ q, (((wr.drewN q).setCell ⟨w.heap.size, J, none⟩ (.int .i64 (VJ + (V0 + V1)))).setCell ⟨w.heap.size, I, none⟩ (.int .i64 0)).setCell ⟨w.heap.size, I1, none⟩ (.int .i64 0) = F q) := fun q => by rw [hF]
            clear hF
            go_wp2_with fail
            go_quiet (fail)
            go_wp2_with fail
            go_quiet (fail)
            go_wp2_with fail
            go_quiet (with_reducible exact quiet_sameN KM.out)
            go_upto_region 13 with fail
            rw [GOF.out]
            by_cases hc2 : c = 2
            · subst hc2
              obtain rfl : n = 2 := by omega
              have QD := Lib.hid (fun q => (FQ.out q).drop2)
              rw [if_pos rfl] at QD
              simp only [Nat.sub_self] at QD
              go_wp2_with (first | (at_builtin; refine wpList_append_que rfl _ _ rfl W.heap.size 0 0 _ _ rfl (Que.alloc (QD.out _) _) (by rw [down_len]; have := HN.out; have := HM.out; omega) (J : Int) ⟨(F _).heap.size, 0, none⟩ rfl (cell_one_new _ _ _) (by have := FS.out; simp [FS.out]; omega) (by have := HN.out; omega) ?_; intro y' c' w' row hq' hgr hrow))
              rw [LST.out] at hq'
              go_roundw
              case rel => exact ⟨J - 1, 1, y', c', by omega, by have := HN.out; omega, rfl, hq', by rw [hs.out, e.out]; exact ((FA.out _).alloc _).keep hgr hrow HB2.out.1, ((FX.out _).alloc _).keep hgr hrow HB2.out.2, below_keep ((FB.out _).alloc (FB.out _).size _) hgr hrow (by have := HB2.out.1; omega) (by have := (FB.out 0).size; simp [FS.out] at this ⊢; omega), by have := hgr.size; simp [FS.out] at this; omega⟩
              case measure => simp [lenQ]
            · have QD := Lib.hid (fun q => (FQ.out q).drop2)
              rw [if_neg hc2] at QD
              go_wp2_with (first | (at_builtin; refine wpList_append_que rfl _ _ rfl W.heap.size (n - 2) (c - 2) _ _ rfl (Que.alloc (QD.out _) _) (by rw [down_len]; have := HN.out; have := HM.out; omega) (J : Int) ⟨(F _).heap.size, 0, none⟩ rfl (cell_one_new _ _ _) (by have := FS.out; simp [FS.out]; omega) (by have := HN.out; omega) ?_; intro y' c' w' row hq' hgr hrow))
              rw [LST.out] at hq'
              go_roundw
              case rel => exact ⟨J - 1, n - 2 + 1, y', c', by omega, by have := HN.out; omega, rfl, hq', by rw [hs.out, e.out]; exact ((FA.out _).alloc _).keep hgr hrow HB2.out.1, ((FX.out _).alloc _).keep hgr hrow HB2.out.2, below_keep ((FB.out _).alloc (FB.out _).size _) hgr hrow (by have := HB2.out.1; omega) (by have := (FB.out 0).size; simp [FS.out] at this ⊢; omega), by have := hgr.size; simp [FS.out] at this; omega⟩
              case measure => simp [lenQ]; omega
          · have e := Lib.hid (HANY.out.symm.trans (if_neg c2))
            have dc : decide (VJ + (V0 + V1) ≤ D) = false := decide_eq_false c2
            obtain ⟨F, hF⟩ : ∃ F : Nat → World, F = fun q => wr.drewN q := ⟨_, rfl⟩
            have FA : Hid (∀ q, ArrI (F q) w.heap.size Z) := fun q => by rw [hF]; exact HR.out.drewN q
            have FX : Hid (∀ q, ArrI (F q) (w.heap.size + 1) Z0) := fun q => by rw [hF]; exact HX1.out.drewN q
            have FB : Hid (∀ q, Below w.heap.size w (F q)) := fun q => by rw [hF]; exact below_drewN HBL.out q
            have FS : Hid (∀ q, (F q).heap.size = wr.heap.size) := fun q => by rw [hF]; simp
            have FQ : Hid (∀ q, Que (F q) W.heap.size (some ⟨g, o, none⟩) c (↑I1 :: ↑I :: down (↑I - 1) m)) := fun q => by rw [hF]; exact HQ.out.drewN q
            have GOF : Hid (∀ a b c, ((wr.drewN a).drewN b).drewN c = F (a + b + c)) := fun a b c => by rw [hF, World.drewN_drewN, World.drewN_drewN]; show wr.drewN _ = wr.drewN _; rw [Nat.add_assoc]
            clear hF
            go_wp2_with fail
            go_quiet (fail)
            go_wp2_with fail
            go_quiet (fail)
            go_wp2_with fail
            go_quiet (with_reducible exact quiet_sameN KM.out)
            go_upto_region 13 with fail
            rw [GOF.out]
            by_cases hc2 : c = 2
            · subst hc2
              obtain rfl : n = 2 := by omega
              have QD := Lib.hid (fun q => (FQ.out q).drop2)
              rw [if_pos rfl] at QD
              simp only [Nat.sub_self] at QD
              go_wp2_with (first | (at_builtin; refine wpList_append_que rfl _ _ rfl W.heap.size 0 0 _ _ rfl (Que.alloc (QD.out _) _) (by rw [down_len]; have := HN.out; have := HM.out; omega) (J : Int) ⟨(F _).heap.size, 0, none⟩ rfl (cell_one_new _ _ _) (by have := FS.out; simp [FS.out]; omega) (by have := HN.out; omega) ?_; intro y' c' w' row hq' hgr hrow))
              rw [LST.out] at hq'
              go_roundw
              case rel => exact ⟨J - 1, 1, y', c', by omega, by have := HN.out; omega, rfl, hq', by rw [hs.out, e.out]; exact ((FA.out _).alloc _).keep hgr hrow HB2.out.1, ((FX.out _).alloc _).keep hgr hrow HB2.out.2, below_keep ((FB.out _).alloc (FB.out _).size _) hgr hrow (by have := HB2.out.1; omega) (by have := (FB.out 0).size; simp [FS.out] at this ⊢; omega), by have := hgr.size; simp [FS.out] at this; omega⟩
              case measure => simp [lenQ]
            · have QD := Lib.hid (fun q => (FQ.out q).drop2)
              rw [if_neg hc2] at QD
              go_wp2_with (first | (at_builtin; refine wpList_append_que rfl _ _ rfl W.heap.size (n - 2) (c - 2) _ _ rfl (Que.alloc (QD.out _) _) (by rw [down_len]; have := HN.out; have := HM.out; omega) (J : Int) ⟨(F _).heap.size, 0, none⟩ rfl (cell_one_new _ _ _) (by have := FS.out; simp [FS.out]; omega) (by have := HN.out; omega) ?_; intro y' c' w' row hq' hgr hrow))
              rw [LST.out] at hq'
              go_roundw
              case rel => exact ⟨J - 1, n - 2 + 1, y', c', by omega, by have := HN.out; omega, rfl, hq', by rw [hs.out, e.out]; exact ((FA.out _).alloc _).keep hgr hrow HB2.out.1, ((FX.out _).alloc _).keep hgr hrow HB2.out.2, below_keep ((FB.out _).alloc (FB.out _).size _) hgr hrow (by have := HB2.out.1; omega) (by have := (FB.out 0).size; simp [FS.out] at this ⊢; omega), by have := hgr.size; simp [FS.out] at this; omega⟩
              case measure => simp [lenQ]; omega
        · obtain rfl : J = 0 := by omega
          obtain rfl : n = 1 := by omega
          obtain ⟨y', c', hy⟩ : ∃ y' c', y = y' ∧ c = c' := ⟨_, _, rfl, rfl⟩
          have HA0 := Lib.hid hx0
          have z63 : Hid (sqz N D (63 - 0) = sqz N D 63) := Lib.hid rfl
          have lQ : Hid ((sqz N D 63).length = 128) := by show _ = _; rw [sqz_len]; exact HL.out
          rw [z63.out] at HA0
          obtain ⟨S, hS⟩ : ∃ S, S = sqz N D 63 := ⟨_, rfl⟩
          rw [← hS] at HA0 lQ
          have HSS := Lib.hid hS
          have HA1 := Lib.hid (HX1.out.setRow lQ.out)
          have hld := HA1.out.loadVar
          have FIN := Lib.hid (HBL.out.trans (below_grown (grownBy_setRow wr (w.heap.size + 1) (arrC S)) (show w.heap.size ≤ w.heap.size + 1 by omega) HBL.out.size))
          clear hq hx0 hx1 hbl hy hJ h1 hn hS
          go_wp2_with (first | (refine wpList_load_arr rfl _ rfl _ S rfl HA0.out ?_) | (refine wpList_store_arr rfl _ _ rfl _ Z0 S rfl rfl HX1.out lQ.out ?_))
          exact bodyPost_ret (v := .agg (arrC S)) (by simp [results, Try.results56, asAddr, hld]) rfl ⟨by rw [HSS.out], FIN.out⟩

end Go.Proofs.Ytnpcgbjkahpcfaa
