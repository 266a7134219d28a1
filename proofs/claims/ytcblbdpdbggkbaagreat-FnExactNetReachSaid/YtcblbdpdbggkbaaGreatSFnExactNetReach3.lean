/-
  What the law FnExactNetReach needs of the texts before it, part 3.
-/
import Derived.Deep.DeepCutAuto
import Derived.Deep.LoopGhost
import Derived.JoinedOf
import Derived.KernelRfl
import Derived.Lib.OwnBridge
import Derived.Shelf.Sort.Plain
import Derived.Sort.OwnSortedInts
import Derived.Test.YtcblbdpdbggkbaaGreatChecked
import Derived.Test.YtcblbdpdbggkbaaGreatProg
import Derived.Test.YtcblbdpdbggkbaaGreatSFnExactNetReach2
set_option maxRecDepth 100000
set_option maxHeartbeats 16000000
set_option linter.unusedVariables false
set_option linter.unusedSectionVars false
set_option linter.unusedSimpArgs false
set_option linter.unusedVariables false
set_option linter.unusedSectionVars false
set_option linter.unusedSimpArgs false
namespace Go.Proofs.YtcblbdpdbggkbaaGreat
open Go.RowKit Go.Sort
namespace N
theorem fold_range {α : Type} (f : α → Nat → α) (s : α) (k : Nat) : (List.range (k + 1)).foldl f s = f ((List.range k).foldl f s) k := by
  rw [List.range_succ, List.foldl_append]; rfl
def reachL (s : List Bool) (k : Nat) : List Int := ((List.range k).filter fun i => s.getD i false).map fun i : Nat => (i : Int)
theorem reachL_step (s : List Bool) (k : Nat) : reachL s (k + 1) = if s.getD k false = true then reachL s k ++ [(k : Int)] else reachL s k := by
  unfold reachL
  rw [List.range_succ, List.filter_append, List.map_append, List.filter_cons, List.filter_nil]
  cases h : s.getD k false with
  | false => rw [if_neg (by simp), if_neg (by simp), List.map_nil, List.append_nil]
  | true => rw [if_pos rfl, if_pos rfl]; rfl
theorem reachL_len (s : List Bool) (k : Nat) : (reachL s k).length ≤ k := by
  unfold reachL
  rw [List.length_map]
  exact Nat.le_trans (List.length_filter_le _ _) (by rw [List.length_range]; exact Nat.le_refl _)
theorem seeB_len (ls : List Bool) (a : Nat) (s : List Bool) (b : Nat) : (seeB ls a s b).length = s.length := by unfold seeB; rw [List.length_set]
theorem foldB_len (ls : List Bool) (a : Nat) (s : List Bool) : ∀ k, ((List.range k).foldl (seeB ls a) s).length = s.length
  | 0 => rfl
  | k + 1 => by rw [fold_range, seeB_len, foldB_len ls a s k]
theorem seeA_len (ls : List Bool) (s : List Bool) (a : Nat) : (seeA ls s a).length = s.length := foldB_len ls a s 5
theorem foldA_len (ls : List Bool) (s : List Bool) : ∀ k, ((List.range k).foldl (seeA ls) s).length = s.length
  | 0 => rfl
  | k + 1 => by rw [fold_range, seeA_len, foldA_len ls s k]
theorem seeR_len (ls : List Bool) (s : List Bool) : (seeR ls s).length = s.length := foldA_len ls s 5
theorem foldR_len (ls : List Bool) (s : List Bool) : ∀ k, ((List.range k).foldl (fun s _ => seeR ls s) s).length = s.length
  | 0 => rfl
  | k + 1 => by rw [fold_range, seeR_len, foldR_len ls s k]
theorem spNetReach_at (w : World) {v1 v3 v4 : Value} {x : Option Addr} {k2 c : Nat} {n : Nt} {f : List Nat} (h : linksR TY w [.slice x k2 c] n.links f) :
    Calls Tryz.prog 29 #[.agg #[v1, .slice x k2 c, v3, v4]] w fun r w' => ∃ v, r = .returned v ∧ M w.heap.size w w' [intsC v (reachN n)] := by
  have hl : k2 = n.links.length := (slcR_row h).1
  have H1 := Lib.hid h
  have HL := Lib.hid hl
  clear h hl
  have h0 := ((M.start w).alloc #[v1, .slice x k2 c, v3, v4] 30).alloc #[] 3
  simp only [World.size_alloc] at h0
  obtain ⟨p1, hp1⟩ : ∃ p, p = w.heap.size := ⟨_, rfl⟩
  obtain ⟨p2, hp2⟩ : ∃ p, p = w.heap.size + 1 := ⟨_, rfl⟩
  obtain ⟨w1, hw1⟩ : ∃ W, W = (w.alloc (.cells #[v1, .slice x k2 c, v3, v4] 30)).alloc (.cells #[] 3) := ⟨_, rfl⟩
  rw [← hw1, ← hp2, ← hp1] at h0
  have H0 := Lib.hid ((h0.empty (flatR_frame encI) 1).p1)
  have HP := Lib.hid hp1
  rw [← hp1]
  go_enter Tryz.func29, Tryz.ntmps29
  go_upto_region 2 with fail
  rw [← hw1, ← hp2, ← hp1]
  clear h0 hp2 hp1 hw1
  obtain ⟨a0, a1, a2, a3⟩ := H0.out.cells4
  by_cases h5 : k2 = 25
  case neg =>
    have F : Hid (reachN n = []) := Lib.hid (by unfold reachN; rw [if_neg (by rw [← HL.out]; exact h5)])
    have g : ((k2 : Int) != 25) = true := by simpa using (show (k2 : Int) ≠ 25 by omega)
    clear h5
    go_wp2
    go_ret
    exact ⟨_, rfl, by rw [F.out]; have := H0.out.p1.soft; exact (this.p1).drop⟩
  subst h5
  have g : (((25 : Nat) : Int) != 25) = false := by decide
  go_wp2_with (at_make; refine wpList_mk linkS (enc := encB) (z0 := false) rfl rfl (fun _ => rfl) H0.out rfl rfl 5 rfl rfl rfl rfl (by decide) (by decide) ?_; intro w2 h2 hb2; clear hb2 H0 g a0 a1 a2 a3; obtain ⟨p3, hp3⟩ : ∃ p, p = w1.heap.size := ⟨_, rfl⟩; rw [← hp3] at h2 ⊢; clear hp3; obtain ⟨⟨z, cz⟩, fz, h3⟩ := h2.setEl (i := 0) (by decide) true (u := .bool true) rfl; have H3 := Lib.hid h3; clear h2 h3)
  clear cz fz
  obtain ⟨w3, hw3⟩ : ∃ W, W = w2.setCell ⟨p3, 0, none⟩ (.bool true) := ⟨_, rfl⟩
  rw [← hw3] at H3 ⊢
  clear hw3
  have DB : Hid ((List.replicate 5 false).set 0 true = seen0) := Lib.hid rfl
  rw [DB.out] at H3
  clear DB
  go_loopw [5] (fun z wr => ∃ (r : Nat) (s : List Bool), r ≤ 5 ∧ z = .int .i64 (r : Int) ∧ s = (List.range r).foldl (fun s _ => seeR n.links s) seen0 ∧ M p1 w wr [linksC (.slice (some ⟨p3, 0, none⟩) 5 5) s, boxC p1 30 #[v1, .slice x 25 c, v3, v4], slcC (flatR_frame encI) 3 1 (.slice (some ⟨p2, 0, none⟩) 0 0) []]) (fun z _ => 5 - (intOf z).toNat)
  case atStart => exact ⟨0, _, Nat.zero_le _, rfl, rfl, H3.out⟩
  case round =>
    clear H3
    obtain ⟨r, s, hr, rfl, hs, hm⟩ := hrel
    have H := Lib.hid hm
    have HS := Lib.hid hs
    have SL : Hid (s.length = 5) := Lib.hid (by rw [hs, foldR_len]; rfl)
    clear hm hs
    by_cases hlt : r < 5
    · have r0 : (0 : Int) ≤ (r : Int) := by omega
      have r5 : (r : Int) < 5 := by omega
      go_wp2
      go_loopw [6] (fun z wr => ∃ (a : Nat) (sa : List Bool), a ≤ 5 ∧ z = .int .i64 (a : Int) ∧ sa = (List.range a).foldl (seeA n.links) s ∧ M p1 w wr [linksC (.slice (some ⟨p3, 0, none⟩) 5 5) sa, boxC p1 30 #[v1, .slice x 25 c, v3, v4], slcC (flatR_frame encI) 3 1 (.slice (some ⟨p2, 0, none⟩) 0 0) []]) (fun z _ => 5 - (intOf z).toNat)
      case atStart => exact ⟨0, _, Nat.zero_le _, rfl, rfl, H.out⟩
      case round =>
        clear H
        obtain ⟨a, sa, ha, rfl, hs, hm⟩ := hrel
        have H := Lib.hid hm
        have HSA := Lib.hid hs
        have SLA : Hid (sa.length = 5) := Lib.hid (by rw [hs, foldA_len]; exact SL.out)
        clear hm hs
        by_cases halt : a < 5
        · have a0 : (0 : Int) ≤ (a : Int) := by omega
          have a5 : (a : Int) < 5 := by omega
          go_wp2
          go_loopw [7] (fun z wr => ∃ (b : Nat) (sb : List Bool), b ≤ 5 ∧ z = .int .i64 (b : Int) ∧ sb = (List.range b).foldl (seeB n.links a) sa ∧ M p1 w wr [linksC (.slice (some ⟨p3, 0, none⟩) 5 5) sb, boxC p1 30 #[v1, .slice x 25 c, v3, v4], slcC (flatR_frame encI) 3 1 (.slice (some ⟨p2, 0, none⟩) 0 0) []]) (fun z _ => 5 - (intOf z).toNat)
          case atStart => exact ⟨0, _, Nat.zero_le _, rfl, rfl, H.out⟩
          case round =>
            clear H
            obtain ⟨b, sb, hb, rfl, hs, hm⟩ := hrel
            have SLB : Hid (sb.length = 5) := Lib.hid (by rw [hs, foldB_len]; exact SLA.out)
            have HSB := Lib.hid hs
            have H := Lib.hid hm
            clear hm hs
            by_cases hblt : b < 5
            · have b0 : (0 : Int) ≤ (b : Int) := by omega
              have b5 : (b : Int) < 5 := by omega
              replace H := Lib.hid H.out.drew
              obtain ⟨W, hW⟩ : ∃ W, W = wr.drew := ⟨_, rfl⟩
              rw [← hW] at H
              have EW := Lib.hid hW
              clear hW
              obtain ⟨u, hu⟩ : ∃ u, sb[b]? = some u := ⟨_, List.getElem?_eq_getElem (by rw [SLB.out]; exact hblt)⟩
              obtain ⟨v, hv⟩ : ∃ v, sb[a]? = some v := ⟨_, List.getElem?_eq_getElem (by rw [SLB.out]; exact halt)⟩
              obtain ⟨t, ht⟩ : ∃ t, n.links[a * 5 + b]? = some t := ⟨_, List.getElem?_eq_getElem (by rw [← HL.out]; omega)⟩
              obtain ⟨g1, rfl, _, c0⟩ := link_at H1.out ht
              replace c0 := cell_later (by have := H.out.below; rwa [HP.out] at this) c0
              have c1 := H.out.elem hu (u := .bool u) rfl
              have c2 := H.out.elem hv (u := .bool v) rfl
              obtain ⟨c3, c4, c5, c6⟩ := H.out.p1.cells4
              obtain ⟨⟨z, cz⟩, fz, hst⟩ := H.out.setEl (i := b) (by rw [SLB.out]; exact hblt) (u || (v && t)) (u := .bool (u || (v && t))) rfl
              have ES : Hid (sb.set b (u || (v && t)) = (List.range (b + 1)).foldl (seeB n.links a) sa) := Lib.hid (by
                rw [fold_range, ← HSB.out]
                unfold seeB wl
                rw [show ((a : Int) * 5 + (b : Int)).toNat = a * 5 + b by omega, List.getD_eq_getElem?_getD, List.getD_eq_getElem?_getD, List.getD_eq_getElem?_getD, hu, hv, ht]; rfl)
              rw [ES.out] at hst
              have HST := Lib.hid hst
              have CZ := Lib.hid (And.intro cz fz)
              have KL := Lib.hid (spLinkN_at W (a := (a : Int)) (b := (b : Int)) ⟨a0, by omega, b0, by omega⟩ (q := a * 5 + b) (by omega))
              have q0 : (0 : Int) ≤ ((a * 5 + b : Nat) : Int) := by omega
              have q1 : ((a * 5 + b : Nat) : Int) < 25 := by omega
              obtain ⟨q, hq⟩ : ∃ q, q = a * 5 + b := ⟨_, rfl⟩
              rw [← hq] at KL c0 q0 q1
              clear hst cz fz ht hv hu H hq
              cases u with
              | true =>
                go_upto_region 15 with fail
                refine wp_region_plan 22 (.tk 0 16 (.alt 16 (.tk 17 5 (.alt 22 .done .nomore)) .nomore)) (fun w' => w' = W) (by kernel_rfl) (by kernel_rfl) (fun _ _ _ _ _ h => h) EW.out.symm ?_
                rw [← EW.out]
                repeat ((first | (refine plan_take (by rfl) (by rfl) ?_; apply Exists.intro; refine ⟨fun w' hw' => ?_, ?_⟩; (· ((try dsimp only at hw'); go_simp; (try with_reducible rfl)))) | (refine plan_skip (by rfl) (by rfl) ?_)); simp only [Act.put, List.getElem_toArray, List.getElem_cons_succ, pg3, pg4, pg5, pg6])
                refine plan_last (by rfl) (fun K hK => ?_)
                go_simp
                refine hK _ _ (.inr rfl) ?_
                clear hK K
                try simp only [Act.put, List.getElem_toArray, List.getElem_cons_succ, pg3, pg4, pg5, pg6]
                repeat ((first | (refine plan_take (by rfl) (by rfl) ?_; apply Exists.intro; refine ⟨fun w' hw' => ?_, ?_⟩; (· ((try dsimp only at hw'); go_simp; (try with_reducible rfl)))) | (refine plan_skip (by rfl) (by rfl) ?_)); simp only [Act.put, List.getElem_toArray, List.getElem_cons_succ, pg3, pg4, pg5, pg6])
                obtain ⟨cz, fz⟩ := CZ.out
                refine plan_last (by rfl) (fun K hK => ?_)
                go_simp
                refine hK _ _ (.inl rfl) ?_
                clear hK K
                try simp only [Act.put, List.getElem_toArray, List.getElem_cons_succ, pg3, pg4, pg5, pg6]
                refine plan_done ?_
                clear cz fz CZ c0 c1 c2 c3 c4 c5 c6 KL
                go_wp2
                go_roundw
                case rel => exact ⟨b + 1, _, by omega, by go_num, rfl, HST.out⟩
                case measure => simp [intOf]; omega
              | false =>
                cases v with
                | false =>
                  go_upto_region 15 with fail
                  refine wp_region_plan 22 (.tk 0 16 (.alt 16 (.tk 17 5 (.alt 22 .done .nomore)) .nomore)) (fun w' => w' = W) (by kernel_rfl) (by kernel_rfl) (fun _ _ _ _ _ h => h) EW.out.symm ?_
                  rw [← EW.out]
                  repeat ((first | (refine plan_take (by rfl) (by rfl) ?_; apply Exists.intro; refine ⟨fun w' hw' => ?_, ?_⟩; (· ((try dsimp only at hw'); go_simp; (try with_reducible rfl)))) | (refine plan_skip (by rfl) (by rfl) ?_)); simp only [Act.put, List.getElem_toArray, List.getElem_cons_succ, pg3, pg4, pg5, pg6])
                  refine plan_last (by rfl) (fun K hK => ?_)
                  go_simp
                  refine hK _ _ (.inr rfl) ?_
                  clear hK K
                  try simp only [Act.put, List.getElem_toArray, List.getElem_cons_succ, pg3, pg4, pg5, pg6]
                  repeat ((first | (refine plan_take (by rfl) (by rfl) ?_; apply Exists.intro; refine ⟨fun w' hw' => ?_, ?_⟩; (· ((try dsimp only at hw'); go_simp; (try with_reducible rfl)))) | (refine plan_skip (by rfl) (by rfl) ?_)); simp only [Act.put, List.getElem_toArray, List.getElem_cons_succ, pg3, pg4, pg5, pg6])
                  obtain ⟨cz, fz⟩ := CZ.out
                  refine plan_last (by rfl) (fun K hK => ?_)
                  go_simp
                  refine hK _ _ (.inl rfl) ?_
                  clear hK K
                  try simp only [Act.put, List.getElem_toArray, List.getElem_cons_succ, pg3, pg4, pg5, pg6]
                  refine plan_done ?_
                  clear cz fz CZ c0 c1 c2 c3 c4 c5 c6 KL
                  go_wp2
                  go_roundw
                  case rel => exact ⟨b + 1, _, by omega, by go_num, rfl, HST.out⟩
                  case measure => simp [intOf]; omega
                | true =>
                  go_upto_region 15 with fail
                  refine wp_region_plan 22 (.tk 0 16 (.alt 16 (.tk 17 5 (.alt 22 .done .nomore)) .nomore)) (fun w' => w' = W) (by kernel_rfl) (by kernel_rfl) (fun _ _ _ _ _ h => h) EW.out.symm ?_
                  rw [← EW.out]
                  repeat ((first | (refine plan_take (by rfl) (by rfl) ?_; apply Exists.intro; refine ⟨fun w' hw' => ?_, ?_⟩; (· ((try dsimp only at hw'); go_simp; (try with_reducible rfl)))) | (refine plan_skip (by rfl) (by rfl) ?_)); simp only [Act.put, List.getElem_toArray, List.getElem_cons_succ, pg3, pg4, pg5, pg6])
                  refine plan_last (by rfl) (fun K hK => ?_)
                  go_simp
                  refine KL.out.mono ?_
                  rintro e w' ⟨rfl, hw'⟩
                  rw [← hw']
                  clear hw' w'
                  refine hK _ _ (.inr rfl) ?_
                  clear hK K
                  try simp only [Act.put, List.getElem_toArray, List.getElem_cons_succ, pg3, pg4, pg5, pg6]
                  repeat ((first | (refine plan_take (by rfl) (by rfl) ?_; apply Exists.intro; refine ⟨fun w' hw' => ?_, ?_⟩; (· ((try dsimp only at hw'); go_simp; (try with_reducible rfl)))) | (refine plan_skip (by rfl) (by rfl) ?_)); simp only [Act.put, List.getElem_toArray, List.getElem_cons_succ, pg3, pg4, pg5, pg6])
                  obtain ⟨cz, fz⟩ := CZ.out
                  refine plan_last (by rfl) (fun K hK => ?_)
                  go_simp
                  refine hK _ _ (.inl rfl) ?_
                  clear hK K
                  try simp only [Act.put, List.getElem_toArray, List.getElem_cons_succ, pg3, pg4, pg5, pg6]
                  refine plan_done ?_
                  clear cz fz CZ c0 c1 c2 c3 c4 c5 c6 KL
                  go_wp2
                  go_roundw
                  case rel => exact ⟨b + 1, _, by omega, by go_num, rfl, HST.out⟩
                  case measure => simp [intOf]; omega
            · obtain rfl : b = 5 := by omega
              go_wp2
              go_roundw
              case rel => exact ⟨a + 1, sb, by omega, by go_num, by rw [fold_range, ← HSA.out, HSB.out]; rfl, H.out⟩
              case measure => simp [intOf]; omega
        · obtain rfl : a = 5 := by omega
          go_wp2
          go_roundw
          case rel => exact ⟨r + 1, sa, by omega, by go_num, by rw [fold_range, ← HS.out, HSA.out]; rfl, H.out⟩
          case measure => simp [intOf]; omega
    · obtain rfl : r = 5 := by omega
      have RN : Hid (reachN n = reachL s 5) := Lib.hid (by unfold reachN; rw [if_pos HL.out.symm, HS.out]; rfl)
      simp only [Int.cast_ofNat_Int]
      go_wp2
      go_loopw [3, 8] (fun y z wr => ∃ (k m cy : Nat) (xy : Option Addr), k ≤ 5 ∧ z = .int .i64 (k : Int) ∧ y = .slice xy m cy ∧ m = (reachL s k).length ∧ M p1 w wr [slcC (flatR_frame encI) 3 1 (.slice xy m cy) (reachL s k), linksC (.slice (some ⟨p3, 0, none⟩) 5 5) s]) (fun _ z _ => 5 - (intOf z).toNat)
      case atStart => exact ⟨0, 0, 0, _, Nat.zero_le _, rfl, rfl, rfl, H.out.p1.drop.p1⟩
      case round =>
        clear H
        obtain ⟨k, m, cy, xy, hk, rfl, rfl, hm, hM⟩ := hrel
        have H := Lib.hid hM
        have HM := Lib.hid hm
        have m5 : m ≤ k := by rw [hm]; exact reachL_len s k
        clear hM hm
        by_cases hlt : k < 5
        · have k0 : (0 : Int) ≤ (k : Int) := by omega
          have k5 : (k : Int) < 5 := by omega
          obtain ⟨u, hu⟩ : ∃ u, s[k]? = some u := ⟨_, List.getElem?_eq_getElem (by rw [SL.out]; exact hlt)⟩
          have c1 := H.out.p1.elem hu (u := .bool u) rfl
          have ST : Hid (reachL s (k + 1) = if u = true then reachL s k ++ [(k : Int)] else reachL s k) := Lib.hid (by rw [reachL_step, List.getD_eq_getElem?_getD, hu]; rfl)
          clear hu
          cases u with
          | false =>
            have ST2 : Hid (reachL s (k + 1) = reachL s k) := Lib.hid ST.out
            clear ST
            go_wp2
            go_roundw
            case rel => exact ⟨k + 1, m, cy, xy, by omega, by go_num, rfl, by rw [ST2.out]; exact HM.out, by rw [ST2.out]; exact H.out⟩
            case measure => simp [intOf]; omega
          | true =>
            have ST2 : Hid (reachL s (k + 1) = reachL s k ++ [(k : Int)]) := Lib.hid ST.out
            have h2 := ((H.out.flat encI (k : Int)).p1).alloc #[.int .i64 (k : Int)] 3
            have H2 := Lib.hid h2
            clear ST h2
            go_wp2_with (at_builtin; go_loud (refine wpList_app intS flatI_one H2.out rfl rfl rfl rfl (by rw [← HM.out]; unfold maxLen; omega) (by rw [← HM.out]; omega) (N := m + 1) (by rw [HM.out]) ?_); intro y2 cap2 w6 h10; have H10 := Lib.hid h10; clear h10 H2 H c1)
            go_roundw
            case rel => exact ⟨k + 1, m + 1, cap2, y2, by omega, by go_num, rfl, by rw [ST2.out, List.length_append, ← HM.out]; rfl, by rw [ST2.out]; exact H10.out⟩
            case measure => simp [intOf]; omega
        · obtain rfl : k = 5 := by omega
          go_wp2
          go_ret
          exact ⟨_, rfl, by rw [RN.out]; exact H.out.p1.drop.soft⟩
end N
end Go.Proofs.YtcblbdpdbggkbaaGreat
set_option linter.unusedVariables false
set_option linter.unusedSectionVars false
set_option linter.unusedSimpArgs false
namespace Go.Proofs.YtcblbdpdbggkbaaGreat
open Go.RowKit Go.Sort
namespace N
section
variable {B : Nat} {w0 w : World} {l : List Ch}
theorem _root_.Go.Proofs.YtcblbdpdbggkbaaGreat.M.intsOf {v : Value} {zs : List Int} (h : M B w0 w (slcC (flatR_frame encI) 3 1 v zs :: l)) : Ints w v zs := by
  obtain ⟨f, hf, _⟩ := h.soft.first
  obtain ⟨_, e, o, _⟩ := intsR_to hf
  cases e
  exact o
theorem flat_map : ∀ (zs : List Int), zs.flatMap encI = zs.map (Value.int .i64)
  | [] => rfl
  | z :: zs => by rw [List.flatMap_cons, List.map_cons, flat_map zs]; rfl
theorem _root_.Go.Proofs.YtcblbdpdbggkbaaGreat.M.held {g n c : Nat} {zs : List Int} (h : M B w0 w (slcC (flatR_frame encI) 3 1 (.slice (some ⟨g, 0, none⟩) n c) zs :: l)) : n = zs.length ∧ n ≤ maxLen ∧ g < w.heap.size ∧ Holds (Value.int .i64) w g 0 zs.toArray := by
  obtain ⟨f, hf, _⟩ := h.first
  obtain ⟨_, e, o, _⟩ := slc_flat_to hf
  cases e
  rw [flat_map] at o
  rcases o.2 with ⟨q, _⟩ | ⟨g', cap, cur, q, _, hb, h1, h2, h3, h4⟩
  · cases q
  · cases q
    exact ⟨rfl, by omega, (Array.getElem?_eq_some_iff.1 hb).1, holds_of_blockI hb (by rwa [Nat.mul_one] at h4)⟩
theorem _root_.Go.Proofs.YtcblbdpdbggkbaaGreat.M.sorted {g c : Nat} {zs : List Int} (h : M B w0 w (slcC (flatR_frame encI) 3 1 (.slice (some ⟨g, 0, none⟩) zs.length c) zs :: l)) (q : Nat) (os : Array Obj) :
    M B w0 (grow (putRow (Value.int .i64) (Sort.ahead w q) g 0 (srt zs).toArray) os) (slcC (flatR_frame encI) 3 1 (.slice (some ⟨g, 0, none⟩) zs.length c) (srt zs) :: l) :=
  h.turn fun f hf nd lo => by
    obtain ⟨_, e, o, rfl⟩ := slc_flat_to hf
    cases e
    have hl : (srt zs).length = zs.length := List.length_mergeSort zs
    rcases o.2 with ⟨q, _⟩ | ⟨g', cap, cur, q, _, hb, h1, h2, h3, h4⟩
    · cases q
    · cases q
      have ho := ownsRow_sortedI (n := q) (os := os) (ss := zs) hl (Nat.zero_le _) hb h1 h2 h3
      refine ⟨KeptB.of_grown (grownBy_sortedI _) (by simp [Value.ownBlock]), _, slc_flat_of (enc := encI) (xs := srt zs) (by rw [flat_map, hl]; exact ho) (fun _ => rfl), block_nodup _, fun b hb => .inl hb⟩
end
theorem any_bad {p : Int → Bool} {R : List Int} (h : ∀ j, j < R.length → p (R.getD j 0) = false) : R.any p = false := by
  rw [List.any_eq_false]
  intro x hx
  obtain ⟨j, hj, rfl⟩ := List.getElem_of_mem hx
  have := h j hj
  rw [List.getD_eq_getElem?_getD, List.getElem?_eq_getElem hj] at this
  simpa using this
theorem any_good {p : Int → Bool} {R : List Int} {j : Nat} (hj : j < R.length) (h : p (R.getD j 0) = true) : R.any p = true := by
  rw [List.getD_eq_getElem?_getD, List.getElem?_eq_getElem hj] at h
  exact List.any_eq_true.2 ⟨_, List.getElem_mem hj, h⟩
theorem mem_getD {R : List Int} {j : Nat} (hj : j < R.length) : R.getD j 0 ∈ R := by
  rw [List.getD_eq_getElem?_getD, List.getElem?_eq_getElem hj]
  exact List.getElem_mem hj
theorem ints_mx {w : World} {x : Option Addr} {n c : Nat} {R : List Int} (h : Ints w (.slice x n c) R) : R.length ≤ 9223372036854775807 := by
  rcases h with ⟨e, rfl⟩ | ⟨b, o, cap, e, h1, h2, _⟩
  · simp
  · unfold maxLen at h2; omega
theorem imIndex_at (w : World) {x : Option Addr} {n c : Nat} {R : List Int} (h : Ints w (.slice x n c) R) (b : Int) :
    Calls Tryz.prog 161 #[.slice x n c, .int .i64 b] w fun e w' => ∃ i : Int, e = .returned (.int .i64 i) ∧ decide (0 ≤ i) = R.any (fun z => b == z) ∧ w = w' := by
  obtain rfl : n = R.length := h.len
  have mx := ints_mx h
  have IB := Lib.hid h
  clear h
  go_enter Tryz.func161, Tryz.ntmps161
  go_wp2
  go_loopw [8] (fun z wr => ∃ k : Nat, k ≤ R.length ∧ z = .int .i64 (k : Int) ∧ (∀ j, j < k → (b == R.getD j 0) = false) ∧ wr = w) (fun z _ => R.length - (intOf z).toNat)
  case atStart => exact ⟨0, Nat.zero_le _, rfl, fun j h => absurd h (Nat.not_lt_zero _), rfl⟩
  case round =>
    obtain ⟨k, hk, rfl, hno, hwr⟩ := hrel
    subst wr
    have NO := Lib.hid hno
    clear hno
    by_cases hlt : k < R.length
    · obtain ⟨g, o, rfl, c1⟩ := ints_el IB.out hlt
      have GD := Lib.hid (fun h => any_good (p := fun z => b == z) hlt h)
      have NX : Hid ((b == R.getD k 0) = false → ∀ j, j < k + 1 → (b == R.getD j 0) = false) := Lib.hid fun h j hj => by
        by_cases q : j < k
        · exact NO.out j q
        · obtain rfl : j = k := by omega
          exact h
      obtain ⟨v, hv⟩ : ∃ v, v = R.getD k 0 := ⟨_, rfl⟩
      rw [← hv] at c1 GD NX
      have k0 : (0 : Int) ≤ (k : Int) := by omega
      have k1 : (k : Int) < (R.length : Int) := by omega
      clear hv
      cases gt : b == v with
      | true =>
        have F := Lib.hid (GD.out gt)
        clear GD NX
        go_wp2
        go_ret
        exact ⟨_, rfl, by rw [F.out]; exact decide_eq_true k0, rfl⟩
      | false =>
        have NY := Lib.hid (NX.out gt)
        clear GD NX
        go_wp2
        go_roundw
        case rel => exact ⟨k + 1, by omega, by go_num, NY.out, by first | rfl | trivial⟩
        case measure => simp [intOf]; omega
    · obtain rfl : k = R.length := by omega
      have F := Lib.hid (any_bad (p := fun z => b == z) NO.out)
      go_wp2
      go_ret
      exact ⟨_, rfl, by rw [F.out]; rfl, rfl⟩
theorem any_contains (R : List Int) (b : Int) : R.any (fun z => b == z) = R.contains b := by
  rw [Bool.eq_iff_iff, List.any_eq_true, List.contains_iff_mem]
  exact ⟨fun ⟨x, hx, e⟩ => by rw [eq_of_beq e]; exact hx, fun h => ⟨b, h, by simp⟩⟩
theorem imContains_at (w : World) {x : Option Addr} {n c : Nat} {R : List Int} (h : Ints w (.slice x n c) R) (b : Int) :
    Calls Tryz.prog 92 #[.slice x n c, .int .i64 b] w fun e w' => e = .returned (.bool (R.contains b)) ∧ w = w' := by
  have K := Lib.hid (imIndex_at w h b)
  rw [any_contains] at K
  clear h
  go_enter Tryz.func92, Tryz.ntmps92
  go_wp2_with fail
  refine K.out.mono ?_
  rintro e w' ⟨i, rfl, hi, rfl⟩
  have F := Lib.hid hi
  clear hi K
  go_wp2
  go_ret
  exact ⟨by rw [← F.out]; rfl, rfl⟩
section
variable {w : World} {pl pb : Nat}
theorem linked_at {m : Nat} {o b : Int} {t : Bool} (cl : w.cell? ⟨pl, 0, none⟩ = some (.map (some m))) (cb : w.cell? ⟨pb, 0, none⟩ = some (.int .i64 b)) (LL : (Instr.lookup 100 (.map (some m)) (.agg #[.int .i64 o, .int .i64 b]) false).run Tryz.prog w = .ok (.bool t) w) :
    Calls Tryz.prog 91 #[.int .i64 o, .pointer (some ⟨pl, 0, none⟩), .pointer (some ⟨pb, 0, none⟩)] w fun e w' => e = .returned (.bool t) ∧ w = w' := by
  go_enter Tryz.func91, Tryz.ntmps91
  go_wp2
  go_ret
  exact ⟨rfl, rfl⟩
theorem imIndexFunc_at {x : Option Addr} {n c : Nat} {R : List Int} (h : Ints w (.slice x n c) R) (p : Int → Bool) (K : ∀ o ∈ R, Calls Tryz.prog 91 #[.int .i64 o, .pointer (some ⟨pl, 0, none⟩), .pointer (some ⟨pb, 0, none⟩)] w fun e w' => e = .returned (.bool (p o)) ∧ w = w') :
    Calls Tryz.prog 162 #[.slice x n c, .func (.func 91) #[] #[.pointer (some ⟨pl, 0, none⟩), .pointer (some ⟨pb, 0, none⟩)]] w fun e w' => ∃ i : Int, e = .returned (.int .i64 i) ∧ decide (0 ≤ i) = R.any p ∧ w = w' := by
  obtain rfl : n = R.length := h.len
  have mx := ints_mx h
  have IB := Lib.hid h
  have HK := Lib.hid K
  clear h K
  go_enter Tryz.func162, Tryz.ntmps162
  go_wp2
  go_loopw [8] (fun z wr => ∃ k : Nat, k ≤ R.length ∧ z = .int .i64 (k : Int) ∧ (∀ j, j < k → p (R.getD j 0) = false) ∧ wr = w) (fun z _ => R.length - (intOf z).toNat)
  case atStart => exact ⟨0, Nat.zero_le _, rfl, fun j h => absurd h (Nat.not_lt_zero _), rfl⟩
  case round =>
    obtain ⟨k, hk, rfl, hno, hwr⟩ := hrel
    subst wr
    have NO := Lib.hid hno
    clear hno
    by_cases hlt : k < R.length
    · obtain ⟨g, o, rfl, c1⟩ := ints_el IB.out hlt
      have GD := Lib.hid (fun h => any_good (p := p) hlt h)
      have NX : Hid (p (R.getD k 0) = false → ∀ j, j < k + 1 → p (R.getD j 0) = false) := Lib.hid fun h j hj => by
        by_cases q : j < k
        · exact NO.out j q
        · obtain rfl : j = k := by omega
          exact h
      have KE := Lib.hid (HK.out _ (mem_getD hlt))
      obtain ⟨v, hv⟩ : ∃ v, v = R.getD k 0 := ⟨_, rfl⟩
      rw [← hv] at c1 GD NX KE
      have k0 : (0 : Int) ≤ (k : Int) := by omega
      have k1 : (k : Int) < (R.length : Int) := by omega
      clear hv
      generalize p v = t at GD NX KE
      go_wp2_with fail
      refine KE.out.mono ?_
      rintro e w' ⟨rfl, hw'⟩
      rw [← hw']
      clear hw' w' KE c1
      cases t with
      | true =>
        have F := Lib.hid (GD.out rfl)
        clear GD NX
        go_wp2
        go_ret
        exact ⟨_, rfl, by rw [F.out]; exact decide_eq_true k0, rfl⟩
      | false =>
        have NY := Lib.hid (NX.out rfl)
        clear GD NX
        go_wp2
        go_roundw
        case rel => exact ⟨k + 1, by omega, by go_num, NY.out, by first | rfl | trivial⟩
        case measure => simp [intOf]; omega
    · obtain rfl : k = R.length := by omega
      have F := Lib.hid (any_bad (p := p) NO.out)
      go_wp2
      go_ret
      exact ⟨_, rfl, by rw [F.out]; rfl, rfl⟩
theorem imContainsFunc_at {x : Option Addr} {n c : Nat} {R : List Int} (h : Ints w (.slice x n c) R) (p : Int → Bool) (K : ∀ o ∈ R, Calls Tryz.prog 91 #[.int .i64 o, .pointer (some ⟨pl, 0, none⟩), .pointer (some ⟨pb, 0, none⟩)] w fun e w' => e = .returned (.bool (p o)) ∧ w = w') :
    Calls Tryz.prog 93 #[.slice x n c, .func (.func 91) #[] #[.pointer (some ⟨pl, 0, none⟩), .pointer (some ⟨pb, 0, none⟩)]] w fun e w' => e = .returned (.bool (R.any p)) ∧ w = w' := by
  have K := Lib.hid (imIndexFunc_at h p K)
  clear h
  go_enter Tryz.func93, Tryz.ntmps93
  go_wp2_with fail
  refine K.out.mono ?_
  rintro e w' ⟨i, rfl, hi, rfl⟩
  have F := Lib.hid hi
  clear hi K
  go_wp2
  go_ret
  exact ⟨by rw [← F.out]; rfl, rfl⟩
end
theorem isNext_at {B pl pr m k c : Nat} {x : Option Addr} {w0 w : World} {l : List Ch} {g : Int × Int → Option Value} {ls : List Bool} {R : List Int} {b : Int}
    (h : M B w0 w (boxC pr 23 #[.slice x k c] :: boxC pl 100 #[.map (some m)] :: mapC EndOk endV m g :: slcC (flatR_frame encI) 3 1 (.slice x k c) R :: l)) (hg : LinksAre g (lkP ls 25)) (hR : ∀ o ∈ R, isNode o) (hb : isNode b) :
    Calls Tryz.prog 90 #[.int .i64 b, .pointer (some ⟨pl, 0, none⟩), .pointer (some ⟨pr, 0, none⟩)] w fun e w' => e = .returned (.bool (nextB ls R b)) ∧ Below w.heap.size w w' := by
  have h0 := h.alloc #[.int .i64 b] 3
  have hbl := (Below.refl w.heap.size w).alloc (Nat.le_refl _) (.cells #[.int .i64 b] 3)
  obtain ⟨pb, hpb⟩ : ∃ p, p = w.heap.size := ⟨_, rfl⟩
  obtain ⟨w1, hw1⟩ : ∃ W, W = w.alloc (.cells #[.int .i64 b] 3) := ⟨_, rfl⟩
  rw [← hw1] at h0 hbl
  rw [← hpb] at h0
  have HB := Lib.hid hbl
  have cb := h0.cells1
  have cr := h0.p1.cells1
  have cl := h0.p2.cells1
  have KC := Lib.hid (imContains_at w1 h0.p4.intsOf b)
  have KF := Lib.hid (imContainsFunc_at (w := w1) (pl := pl) (pb := pb) h0.p4.intsOf (fun o => lkP ls 25 o b) (fun o ho => by
    refine linked_at cl cb ?_
    have a1 := hR o ho
    unfold isNode at a1 hb
    exact look_link h0.p3 hg o b ⟨⟨by simp; omega, by simp; omega⟩, ⟨by simp; omega, by simp; omega⟩⟩))
  have EN : Hid (nextB ls R b = (!(R.contains b) && R.any (fun o => lkP ls 25 o b))) := Lib.hid rfl
  have hmf : ∀ (fn : Fn) (first cap : Array Value) (w : World), (Instr.makeFunc fn first cap).run Tryz.prog w = .ok (.func fn first cap) w := fun _ _ _ _ => rfl
  clear h h0 hbl hg hR hb
  go_enter Tryz.func90, Tryz.ntmps90
  go_upto_region 2 with fail
  rw [← hw1, ← hpb]
  clear hw1 hpb hmf
  generalize R.contains b = t1 at KC EN
  generalize R.any (fun o => lkP ls 25 o b) = t2 at KF EN
  go_wp2_with fail
  refine KC.out.mono ?_
  rintro e w' ⟨rfl, hw'⟩
  rw [← hw']
  clear hw' w' KC
  cases t1 with
  | true =>
    go_wp2
    go_ret
    exact ⟨by rw [EN.out]; rfl, HB.out⟩
  | false =>
    go_wp2_with fail
    refine KF.out.mono ?_
    rintro e w' ⟨rfl, hw'⟩
    rw [← hw']
    clear hw' w' KF
    go_wp2
    go_ret
    exact ⟨by rw [EN.out]; rfl, HB.out⟩
end N
end Go.Proofs.YtcblbdpdbggkbaaGreat
set_option linter.unusedVariables false
set_option linter.unusedSectionVars false
set_option linter.unusedSimpArgs false
namespace Go.Proofs.YtcblbdpdbggkbaaGreat
open Go.RowKit Go.Sort
namespace N
theorem _root_.Go.Proofs.YtcblbdpdbggkbaaGreat.M.some {B : Nat} {w0 w : World} {l : List Ch} {x : Option Addr} {n c : Nat} {zs : List Int} (h : M B w0 w (slcC (flatR_frame encI) 3 1 (.slice x n c) zs :: l)) (hz : zs ≠ []) : ∃ b, x = Option.some ⟨b, 0, Option.none⟩ := by
  obtain ⟨f, hf, _⟩ := h.first
  obtain ⟨_, e, o, _⟩ := slc_flat_to hf
  cases e
  rcases o.2 with ⟨_, q⟩ | ⟨g', cap, cur, q, _⟩
  · exact absurd (List.eq_nil_of_length_eq_zero q) hz
  · cases q; exact ⟨_, rfl⟩
def SortOk : Prop := ∀ (blk off cap : Nat) (zs : List Int) (w : World), Holds (Value.int .i64) w blk off zs.toArray → blk < w.heap.size → zs.length < 4611686018427387904 →
  Calls Tryz.prog 94 #[.slice (some ⟨blk, off, none⟩) zs.length cap] w fun e w' => e = .returned (.tuple #[]) ∧ ∃ n os, w' = grow (putRow (Value.int .i64) (Sort.ahead w n) blk off (zs.mergeSort fun x y => decide (x ≤ y)).toArray) os
theorem imNetReach_at (hS : SortOk) (w : World) {v1 v3 v4 : Value} {y0 : Option Addr} {k2 c' : Nat} {n : Nt} {f : List Nat} (h : linksR TY w [.slice y0 k2 c'] n.links f) :
    Calls Tryz.prog 27 #[.agg #[v1, .slice y0 k2 c', v3, v4]] w fun r w' => ∃ v, r = .returned v ∧ M w.heap.size w w' [intsC v (reachN n)] := by
  have hl : k2 = n.links.length := (slcR_row h).1
  have H1 := Lib.hid h
  have HL := Lib.hid hl
  have SO := Lib.hid hS
  clear h hl hS
  have h0 := (M.start w).alloc #[v1, .slice y0 k2 c', v3, v4] 30
  obtain ⟨p1, hp1⟩ : ∃ p, p = w.heap.size := ⟨_, rfl⟩
  obtain ⟨w1, hw1⟩ : ∃ W, W = w.alloc (.cells #[v1, .slice y0 k2 c', v3, v4] 30) := ⟨_, rfl⟩
  rw [← hw1, ← hp1] at h0
  have HP := Lib.hid hp1
  rw [hp1] at h0
  have H0 := Lib.hid h0
  have hmf : ∀ (fn : Fn) (first cap : Array Value) (w : World), (Instr.makeFunc fn first cap).run Tryz.prog w = .ok (.func fn first cap) w := fun _ _ _ _ => rfl
  go_enter Tryz.func27, Tryz.ntmps27
  go_wp2
  go_step3
  go_upto_region 1 with fail
  rw [← hw1]
  clear h0 hp1 hw1
  obtain ⟨a0, a1, a2, a3⟩ := H0.out.cells4
  by_cases h5 : k2 = 25
  case neg =>
    have F : Hid (reachN n = []) := Lib.hid (by unfold reachN; rw [if_neg (by rw [← HL.out]; exact h5)])
    have g : ((k2 : Int) != 25) = true := by simpa using (show (k2 : Int) ≠ 25 by omega)
    clear h5
    go_wp2
    try rw [Exit.noGoto_ret]
    go_ret
    exact ⟨_, rfl, by rw [F.out]; exact (((M.nil (flatR_frame encI) 3 1 H0.out).soft).p1).drop⟩
  subst h5
  have g : (((25 : Nat) : Int) != 25) = false := by decide
  have KL := Lib.hid (imLinksOf_at w1 ((slcR_frame (flatR_frame _) _ _).below H1.out H0.out.below (Nat.le_refl _)))
  go_wp2_with fail
  refine KL.out.mono ?_
  rintro r w2 ⟨m, g0, rfl, hm, hg⟩
  have HG := Lib.hid hg
  obtain ⟨pl, hpl⟩ : ∃ p, p = w2.heap.size := ⟨_, rfl⟩
  have h2 := ((((H0.out.plus hm).alloc #[.map (some m)] 100).flat encI 0).alloc #[.int .i64 0] 3)
  simp only [World.size_alloc] at h2
  have h3 := (M.one (flatR_frame encI) h2 rfl).p2.p2.alloc #[.slice (some ⟨w2.heap.size + 1, 0, none⟩) 1 1] 23
  simp only [World.size_alloc] at h3
  obtain ⟨pr, hpr⟩ : ∃ p, p = w2.heap.size + 1 + 1 := ⟨_, rfl⟩
  obtain ⟨ps, hps⟩ : ∃ p, p = w2.heap.size + 1 := ⟨_, rfl⟩
  obtain ⟨w3, hw3⟩ : ∃ W, W = ((w2.alloc (.cells #[.map (some m)] 100)).alloc (.cells #[.int .i64 0] 3)).alloc (.cells #[.slice (some ⟨w2.heap.size + 1, 0, none⟩) 1 1] 23) := ⟨_, rfl⟩
  rw [← hw3, ← hpr, ← hps, ← hpl] at h3
  rw [← hps] at hw3
  have H3 := Lib.hid h3
  clear hm hg h2 h3 KL H0 a0 a1 a2 a3 g
  go_upto_region 5 with fail
  try simp only [World.size_alloc]
  rw [← hpr, ← hps, ← hpl, ← hw3]
  clear hpr hps hpl hw3
  go_wp2
  go_step3
  go_wp2
  go_loopg [16] 5 (fun gh z wr => ∃ (R : List Int) (x : Option Addr) (k c : Nat), k + gh = 6 ∧ k = R.length ∧ Fnd n.links R ∧ M w.heap.size w wr [boxC pr 23 #[.slice x k c], boxC pl 100 #[.map (some m)], mapC EndOk endV m g0, slcC (flatR_frame encI) 3 1 (.slice x k c) R, boxC w.heap.size 30 #[v1, .slice y0 25 c', v3, v4]])
  case atStart => exact ⟨[0], _, 1, 1, rfl, rfl, Fnd.first _, H3.out⟩
  case round =>
    clear H3
    obtain ⟨R, x, k, c, hg, hk, hf, hm⟩ := hrel
    have FN := Lib.hid hf
    have HK := Lib.hid hk
    have H := Lib.hid hm
    have k5 : k ≤ 5 := by rw [hk]; exact hf.len
    clear hf hk hm
    cases gk with
    | zero => omega
    | succ gh =>
      go_wp2
      go_loopg [16] 5 (fun g2 z wr => ∃ j : Nat, j + g2 = 5 ∧ z = .int .i64 (j : Int) ∧ (∀ i : Nat, i < j → nextB n.links R i = false) ∧ M w.heap.size w wr [boxC pr 23 #[.slice x k c], boxC pl 100 #[.map (some m)], mapC EndOk endV m g0, slcC (flatR_frame encI) 3 1 (.slice x k c) R, boxC w.heap.size 30 #[v1, .slice y0 25 c', v3, v4]])
      case atStart => exact ⟨0, by omega, rfl, fun i h => absurd h (Nat.not_lt_zero _), H.out⟩
      case round =>
        clear H
        obtain ⟨j, hj, rfl, hno, hm⟩ := hrel
        have NO := Lib.hid hno
        have H := Lib.hid hm
        clear hno hm
        cases gk with
        | zero =>
          obtain rfl : j = 5 := by omega
          have DN : Hid (srt R = reachN n) := Lib.hid (FN.out.done HL.out.symm NO.out)
          obtain ⟨b, rfl⟩ : ∃ b, x = some ⟨b, 0, none⟩ := H.out.p3.some (by have := FN.out.root; intro e; rw [e] at this; cases this)
          obtain ⟨-, hmx, hbl, hH⟩ := H.out.p3.held
          have KS := SO.out b 0 c R wr hH hbl (by rw [← HK.out]; omega)
          rw [← HK.out] at KS
          have KSS := Lib.hid KS
          have c1 := H.out.cells1
          clear KS hmx hbl hH
          simp only [Int.cast_ofNat_Int]
          go_wp2_with fail
          refine KSS.out.mono ?_
          rintro e w6 ⟨rfl, q, os, rfl⟩
          have h6 := M.sorted (by have := H.out.p3; rw [HK.out] at this; exact this) q os
          obtain ⟨w7, hw7⟩ : ∃ W, W = grow (putRow (Value.int .i64) (Sort.ahead wr q) b 0 (R.mergeSort fun x y => decide (x ≤ y)).toArray) os := ⟨_, rfl⟩
          have H6 := Lib.hid (show M w.heap.size w w7 _ by rw [hw7]; exact h6)
          clear h6 KSS H c1
          rw [← hw7]
          clear hw7
          have c1 := H6.out.p1.cells1
          go_wp2
          try rw [Exit.noGoto_ret]
          go_ret
          exact ⟨_, rfl, by rw [← DN.out, HK.out]; exact (M.soft (H6.out.p1.drop.p1.drop.p1.drop.p1.drop))⟩
        | succ g2 =>
          have j0 : (0 : Int) ≤ (j : Int) := by omega
          have j5 : (j : Int) < 5 := by omega
          have KE := Lib.hid (isNext_at (b := (j : Int)) H.out HG.out (fun o ho => (FN.out.all o ho).1) ⟨by omega, by omega⟩)
          have MO := Lib.hid (fun h => FN.out.more (b := (j : Int)) ⟨by omega, by omega⟩ h)
          have NX : Hid (nextB n.links R (j : Int) = false → ∀ i : Nat, i < j + 1 → nextB n.links R i = false) := Lib.hid fun h i hi => by
            by_cases q : i < j
            · exact NO.out i q
            · obtain rfl : i = j := by omega
              exact h
          generalize nextB n.links R (j : Int) = t at KE MO NX
          go_wp2_with fail
          refine KE.out.mono ?_
          rintro e w4 ⟨rfl, hb⟩
          have H4 := Lib.hid (H.out.later hb)
          clear hb KE H
          cases t with
          | false =>
            have NY := Lib.hid (NX.out rfl)
            clear NX MO
            go_wp2
            go_roundg g2
            case measure => omega
            case rel => exact ⟨j + 1, by omega, by go_num, NY.out, H4.out⟩
          | true =>
            have MR := Lib.hid (MO.out rfl)
            have ML : k + 1 ≤ 5 := by have := MR.out.len; rw [List.length_append, ← HK.out] at this; exact this
            clear NX MO
            have c1 := H4.out.cells1
            have h5 := ((H4.out.p3.flat encI (j : Int)).p1).alloc #[.int .i64 (j : Int)] 3
            have H5 := Lib.hid h5
            clear h5
            go_wp2_with (at_builtin; go_loud (refine wpList_app intS flatI_one H5.out rfl rfl rfl rfl (by rw [← HK.out]; unfold maxLen; omega) (by rw [← HK.out]; omega) (N := k + 1) (by rw [HK.out]) ?_); intro y2 cap2 w6 h10; have d1 := h10.p1.cells1; have df := h10.p1.free; have h11 := h10.p1.set (i := 0) (.slice y2 (k + 1) cap2); simp only [List.setIfInBounds_toArray, List.set_cons_zero, List.set_cons_succ] at h11; have H11 := Lib.hid h11; clear h10 h11 H5 H4 c1)
            go_roundg gh
            case measure => omega
            case rel => exact ⟨R ++ [(j : Int)], y2, k + 1, cap2, by omega, by rw [List.length_append, ← HK.out]; rfl, MR.out, H11.out.p1.p3.p3.p3⟩
end N
end Go.Proofs.YtcblbdpdbggkbaaGreat
namespace Go.Proofs
open Go.Shelf
def Tryz.lays189_ren : Go.Shelf.Ren := ⟨fun | 189 => 94 | 125 => 164 | 257 => 163 | 128 => 215 | 129 => 216 | 294 => 206 | 295 => 207 | 296 => 208 | 297 => 209 | 298 => 210 | 299 => 211 | 216 => 212 | 300 => 213 | 301 => 214 | 328 => 267 | 329 => 268 | 330 => 269 | 331 => 270 | 332 => 271 | 215 => 272 | 343 => 297 | n => n, fun | 28 => 23 | 3 => 3 | 46 => 200 | 0 => 0 | 51 => 249 | 53 => 251 | 4 => 4 | 183 => 242 | 182 => 241 | 131 => 246 | 5 => 5 | 9 => 9 | 218 => 294 | 222 => 298 | 228 => 314 | 229 => 72 | n => n, fun | n => n⟩
theorem Tryz.lays189 : Go.Proofs.Lays.n189 Tryz.prog Tryz.lays189_ren := {
  mixed := by kernel_rfl
  f125 := Tryz.func164.trans (congrArg some (by kernel_rfl))
  f128 := Tryz.func215.trans (congrArg some (by kernel_rfl))
  f129 := Tryz.func216.trans (congrArg some (by kernel_rfl))
  f189 := Tryz.func94.trans (congrArg some (by kernel_rfl))
  f215 := Tryz.func272.trans (congrArg some (by kernel_rfl))
  f216 := Tryz.func212.trans (congrArg some (by kernel_rfl))
  f257 := Tryz.func163.trans (congrArg some (by kernel_rfl))
  f294 := Tryz.func206.trans (congrArg some (by kernel_rfl))
  f295 := Tryz.func207.trans (congrArg some (by kernel_rfl))
  f296 := Tryz.func208.trans (congrArg some (by kernel_rfl))
  f297 := Tryz.func209.trans (congrArg some (by kernel_rfl))
  f298 := Tryz.func210.trans (congrArg some (by kernel_rfl))
  f299 := Tryz.func211.trans (congrArg some (by kernel_rfl))
  f300 := Tryz.func213.trans (congrArg some (by kernel_rfl))
  f301 := Tryz.func214.trans (congrArg some (by kernel_rfl))
  f328 := Tryz.func267.trans (congrArg some (by kernel_rfl))
  f329 := Tryz.func268.trans (congrArg some (by kernel_rfl))
  f330 := Tryz.func269.trans (congrArg some (by kernel_rfl))
  f331 := Tryz.func270.trans (congrArg some (by kernel_rfl))
  f332 := Tryz.func271.trans (congrArg some (by kernel_rfl))
  f343 := Tryz.func297.trans (congrArg some (by kernel_rfl))
  t0 := Tryz.underlying0
  a0 := Tryz.isAgg0
  z0 := Tryz.sizeOf0
  v0 := Tryz.zeroValue0
  t3 := Tryz.underlying3
  a3 := Tryz.isAgg3
  z3 := Tryz.sizeOf3
  v3 := Tryz.zeroValue3
  t4 := Tryz.underlying4
  a4 := Tryz.isAgg4
  z4 := Tryz.sizeOf4
  v4 := Tryz.zeroValue4
  t5 := Tryz.underlying5
  a5 := Tryz.isAgg5
  z5 := Tryz.sizeOf5
  v5 := Tryz.zeroValue5
  t9 := Tryz.underlying9
  a9 := Tryz.isAgg9
  z9 := Tryz.sizeOf9
  v9 := Tryz.zeroValue9
  t28 := Tryz.underlying23
  a28 := Tryz.isAgg23
  z28 := Tryz.sizeOf23
  v28 := Tryz.zeroValue23
  t46 := Tryz.underlying200
  a46 := Tryz.isAgg200
  z46 := Tryz.sizeOf200
  v46 := Tryz.zeroValue200
  t51 := Tryz.underlying249
  a51 := Tryz.isAgg249
  z51 := Tryz.sizeOf249
  v51 := Tryz.zeroValue249
  t53 := Tryz.underlying251
  a53 := Tryz.isAgg251
  z53 := Tryz.sizeOf251
  v53 := Tryz.zeroValue251
  t131 := Tryz.underlying246
  a131 := Tryz.isAgg246
  z131 := Tryz.sizeOf246
  v131 := Tryz.zeroValue246
  t182 := Tryz.underlying241
  a182 := Tryz.isAgg241
  z182 := Tryz.sizeOf241
  v182 := Tryz.zeroValue241
  t183 := Tryz.underlying242
  a183 := Tryz.isAgg242
  z183 := Tryz.sizeOf242
  v183 := Tryz.zeroValue242
  t218 := Tryz.underlying294
  a218 := Tryz.isAgg294
  z218 := Tryz.sizeOf294
  v218 := Tryz.zeroValue294
  t222 := Tryz.underlying298
  a222 := Tryz.isAgg298
  z222 := Tryz.sizeOf298
  v222 := Tryz.zeroValue298
  t228 := Tryz.underlying314
  a228 := Tryz.isAgg314
  z228 := Tryz.sizeOf314
  v228 := Tryz.zeroValue314
  t229 := Tryz.underlying72
  a229 := Tryz.isAgg72
  z229 := Tryz.sizeOf72
  v229 := Tryz.zeroValue72 }
open Go.Sort Go.RowKit in
theorem Tryz.slices_Sort_int (blk off cap : Nat) (zs : List Int) (w : World) (hH : Holds (Value.int .i64) w blk off zs.toArray) (hblk : blk < w.heap.size) (hsz : zs.length < 4611686018427387904) :
    Calls Tryz.prog 94 #[.slice (some ⟨blk, off, none⟩) zs.length cap] w fun e w' =>
      e = .returned (.tuple #[]) ∧ ∃ n os, w' = grow (putRow (Value.int .i64) (Sort.ahead w n) blk off (zs.mergeSort fun x y => decide (x ≤ y)).toArray) os := Any.slices_Sort_int Tryz.lays189 blk off cap zs w hH hblk hsz
end Go.Proofs
set_option linter.unusedVariables false
set_option linter.unusedSectionVars false
set_option linter.unusedSimpArgs false
namespace Go.Proofs.YtcblbdpdbggkbaaGreat
namespace N
theorem sort_ok : SortOk := Tryz.slices_Sort_int
end N
end Go.Proofs.YtcblbdpdbggkbaaGreat
set_option linter.unusedVariables false
set_option linter.unusedSectionVars false
set_option linter.unusedSimpArgs false
namespace Go.Proofs.YtcblbdpdbggkbaaGreat.N
open Go.RowKit Go.Sort
theorem reach_len (n : Nt) : (reachN n).length ≤ 5 := by
  unfold reachN
  split
  · exact reachL_len (seenN n.links) 5
  · exact Nat.zero_le _
end Go.Proofs.YtcblbdpdbggkbaaGreat.N
namespace Go.Proofs.YtcblbdpdbggkbaaGreat
open Go
def headN : List Nat := [104, 97, 114, 110, 101, 115, 115, 32, 52, 55, 98, 57, 53, 55, 48, 102, 50, 98, 49, 100, 51, 51, 53, 98, 53, 100, 50, 48, 54, 100, 54, 102, 56, 51, 54, 55, 51, 53, 54, 51, 55, 57, 57, 55, 97, 54, 48, 97, 97, 98, 102, 52, 99, 52, 99, 102, 101, 97, 55, 52, 48, 48, 52, 51, 98, 52, 55, 100, 99, 48, 98, 55, 32, 99, 117, 116, 32]
def tailN : List Nat := [97, 116, 32, 108, 111, 111, 112, 46, 101, 120, 97, 109, 112, 108, 101, 47, 105, 110, 107, 108, 105, 110, 103, 47, 108, 97, 119, 115, 46, 70, 110, 78, 101, 116, 78, 101, 119, 32, 108, 111, 111, 112, 46, 101, 120, 97, 109, 112, 108, 101, 47, 105, 110, 107, 108, 105, 110, 103, 47, 108, 97, 119, 115, 46, 70, 110, 78, 101, 116, 79, 107, 32, 108, 111, 111, 112, 46, 101, 120, 97, 109, 112, 108, 101, 47, 105, 110, 107, 108, 105, 110, 103, 47, 108, 97, 119, 115, 46, 70, 110, 78, 101, 116, 82, 101, 97, 99, 104, 32, 108, 111, 111, 112, 46, 101, 120, 97, 109, 112, 108, 101, 47, 105, 110, 107, 108, 105, 110, 103, 47, 108, 97, 119, 115, 46, 70, 110, 78, 101, 116, 82, 101, 97, 99, 104, 80, 97, 116, 104, 32, 108, 111, 111, 112, 46, 101, 120, 97, 109, 112, 108, 101, 47, 105, 110, 107, 108, 105, 110, 103, 47, 108, 97, 119, 115, 46, 70, 110, 78, 101, 116, 75, 110, 111, 119, 110, 32, 108, 111, 111, 112, 46, 101, 120, 97, 109, 112, 108, 101, 47, 105, 110, 107, 108, 105, 110, 103, 47, 108, 97, 119, 115, 46, 70, 110, 78, 101, 116, 83, 117, 109, 32, 108, 111, 111, 112, 46, 101, 120, 97, 109, 112, 108, 101, 47, 105, 110, 107, 108, 105, 110, 103, 47, 108, 97, 119, 115, 46, 70, 110, 78, 101, 116, 83, 117, 109, 71, 101, 116, 32, 108, 111, 111, 112, 46, 101, 120, 97, 109, 112, 108, 101, 47, 105, 110, 107, 108, 105, 110, 103, 47, 108, 97, 119, 115, 46, 70, 110, 78, 101, 116, 83, 117, 109, 70, 97, 114, 32, 108, 111, 111, 112, 46, 101, 120, 97, 109, 112, 108, 101, 47, 105, 110, 107, 108, 105, 110, 103, 47, 108, 97, 119, 115, 46, 70, 110, 78, 101, 116, 76, 105, 115, 116, 32, 108, 111, 111, 112, 46, 101, 120, 97, 109, 112, 108, 101, 47, 105, 110, 107, 108, 105, 110, 103, 47, 108, 97, 119, 115, 46, 70, 110, 69, 120, 97, 99, 116, 78, 101, 116, 79, 107, 32, 108, 111, 111, 112, 46, 101, 120, 97, 109, 112, 108, 101, 47, 105, 110, 107, 108, 105, 110, 103, 47, 108, 97, 119, 115, 46, 70, 110, 69, 120, 97, 99, 116, 78, 101, 116, 82, 101, 97, 99, 104, 32, 108, 111, 111, 112, 46, 101, 120, 97, 109, 112, 108, 101, 47, 105, 110, 107, 108, 105, 110, 103, 47, 108, 97, 119, 115, 46, 70, 110, 69, 120, 97, 99, 116, 78, 101, 116, 75, 110, 111, 119, 110, 32, 108, 111, 111, 112, 46, 101, 120, 97, 109, 112, 108, 101, 47, 105, 110, 107, 108, 105, 110, 103, 47, 108, 97, 119, 115, 46, 70, 110, 69, 120, 97, 99, 116, 78, 101, 116, 83, 117, 109, 32, 108, 111, 111, 112, 46, 101, 120, 97, 109, 112, 108, 101, 47, 105, 110, 107, 108, 105, 110, 103, 47, 108, 97, 119, 115, 46, 70, 110, 69, 120, 97, 99, 116, 78, 101, 116, 76, 105, 115, 116]
theorem a1 : Tryz.prog.initOrder = String.ofList (headN.map Char.ofNat ++ tailN.map Char.ofNat) := by kernel_rfl
theorem a2 : Tryz.prog.initOrder.toList = headN.map Char.ofNat ++ tailN.map Char.ofNat := by rw [a1, String.toList_ofList]
theorem a3 (t : List Char) : behindMainWord (wordsSigns (headN.map Char.ofNat ++ t)) = "cut".toList :: wordsSigns t := by kernel_rfl
theorem bm : ∃ X, behindMainWord (wordsSigns Tryz.prog.initOrder.toList) = "cut".toList :: X := ⟨_, by rw [a2, a3]⟩
theorem may_of {P : Program} {c : List Char} {rest : List (List Char)} (h : behindMainWord (wordsSigns P.initOrder.toList) = c :: rest) : P.mayEnter =
    (((c == "gc".toList || c == "spec".toList) && (rest.isEmpty || rest.head? == some "stop".toList)) ||
    (c == "carried".toList && rest.take 2 == ["gc".toList, "cut".toList] && !P.laysLater && !P.bearsReflect) ||
    ((stripLifts liftWords (c :: rest)).2.head? == some "cut".toList &&
      ((stripLifts liftWords (c :: rest)).1.contains "finals" || !P.laysLater) && ((stripLifts liftWords (c :: rest)).1.contains "reflectrows" || !P.bearsReflect) &&
      ((stripLifts liftWords (c :: rest)).1.contains "reflectrows" || !(stripLifts liftWords (c :: rest)).1.contains "leanrows") &&
      P.doorFits (stripLifts liftWords (c :: rest)).1)) := by
  unfold Program.mayEnter; rw [h]
theorem lift_of {P : Program} {c : List Char} {rest : List (List Char)} (h : behindMainWord (wordsSigns P.initOrder.toList) = c :: rest) : P.headLifts = if (stripLifts liftWords (c :: rest)).2.head? == some "cut".toList then (stripLifts liftWords (c :: rest)).1 else [] := by
  unfold Program.headLifts; rw [h]
theorem strip (X : List (List Char)) : stripLifts liftWords ("cut".toList :: X) = ([], "cut".toList :: X) := by kernel_rfl
theorem make_of {P : Program} {rest : List (List Char)} (h : behindMainWord (wordsSigns P.initOrder.toList) = "cut".toList :: rest) : P.make = some .cut := by
  unfold Program.make; rw [h]; kernel_rfl
theorem may_cut {P : Program} {rest : List (List Char)} (h : behindMainWord (wordsSigns P.initOrder.toList) = "cut".toList :: rest) (h1 : P.laysLater = false) (h2 : P.bearsReflect = false) (h3 : P.doorFits [] = true) : P.mayEnter = true := by
  rw [may_of h, strip, h1, h2, h3]; kernel_rfl
theorem final_cut {P : Program} {rest : List (List Char)} (h : behindMainWord (wordsSigns P.initOrder.toList) = "cut".toList :: rest) : P.liftsFinal = false := by
  unfold Program.liftsFinal; rw [lift_of h, h, strip]; kernel_rfl
theorem lays0 : Tryz.prog.laysLater = false := by kernel_rfl
theorem refl0 : Tryz.prog.bearsReflect = false := by kernel_rfl
theorem door0 : Tryz.prog.doorFits [] = true := by kernel_rfl
theorem mayE : Tryz.prog.mayEnter = true := by
  obtain ⟨X, h⟩ := bm; exact may_cut h lays0 refl0 door0
theorem liftF : Tryz.prog.liftsFinal = false := by
  obtain ⟨X, h⟩ := bm; exact final_cut h
theorem makeC : Tryz.prog.make = some .cut := by
  obtain ⟨X, h⟩ := bm; exact make_of h
end Go.Proofs.YtcblbdpdbggkbaaGreat
