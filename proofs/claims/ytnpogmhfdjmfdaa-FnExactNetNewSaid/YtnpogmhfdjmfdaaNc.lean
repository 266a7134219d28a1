/-
  Several texts in one: NSpA, NSpB.
-/
import Derived.Test.YtnpogmhfdjmfdaaNb
import Derived.Test.YtnpogmhfdjmfdaaZImNew
import Derived.Test.YtnpogmhfdjmfdaaNa
import Derived.Deep.DeepCutAuto
set_option linter.unusedVariables false
set_option linter.unusedSectionVars false
set_option linter.unusedSimpArgs false
/-
  The model's nets: a link's place, a node that is just born.
-/
namespace Go.Proofs.Ytnpogmhfdjmfdaa
open Go.RowKit Go.Sort
namespace N

theorem spLink_at (w : World) (a b : Int) (h : 0 ≤ a ∧ a ≤ 4 ∧ 0 ≤ b ∧ b ≤ 4) : Calls Try.prog 13 #[.int .i64 a, .int .i64 b] w fun e w' => e = .returned (.int .i64 (a * 5 + b)) ∧ w = w' := by
  obtain ⟨h0, h1, h2, h3⟩ := h
  go_enter Try.func13, Try.ntmps13
  go_wp2
  go_ret
  exact ⟨rfl, rfl⟩
theorem spLinkN_at (w : World) {a b : Int} (h : 0 ≤ a ∧ a ≤ 4 ∧ 0 ≤ b ∧ b ≤ 4) {q : Nat} (hq : a * 5 + b = q) : Calls Try.prog 13 #[.int .i64 a, .int .i64 b] w fun e w' => e = .returned (.int .i64 (q : Int)) ∧ w = w' := by
  rw [← hq]; exact spLink_at w a b h
set_option maxRecDepth 100000 in
theorem spNode_at {B : Nat} {w0 w : World} {l : List Ch} (h : M B w0 w l) (i born : Int) : Calls Try.prog 14 #[.int .i64 i, .int .i64 born] w fun e w' => ∃ v, e = .returned (.agg #[.int .i64 born, v, .int .i64 0, .int .i64 (if i = 0 then 0 else 5), .int .i64 (-1)]) ∧ M B w0 w' (knownC v [⟨i, born, 0, newSm⟩] :: l) := by
  have h1 := Lib.hid (h.alloc #[.int .i64 0, .slice none 0 0, .int .i64 0, .int .i64 0, .int .i64 0] 41)
  clear h
  rcases Decidable.em (i = 0) with rfl | hi
  all_goals
    go_enter Try.func14, Try.ntmps14
    go_wp2_with fail
    refine (spSumNew_at _).mono ?_
    rintro e w1 ⟨V, rfl, ho, hb⟩
    have h2 := h1.out.sum hb ho
    clear ho hb h1
  · have h3 := h2.alloc #[.int .i64 0, .int .i64 born, .int .i64 0, .slice V.xr V.nr V.cr, .slice V.xf V.nf V.cf, .slice V.xt V.nt V.ct, .int .i64 newSm.lo, .int .i64 newSm.al, .slice V.xk V.nk V.ck, .int .i64 newSm.ka] 76
    have H := Lib.hid (h3.p2.set5 (.int .i64 born) (.slice (some ⟨w1.heap.size, 0, none⟩) 1 1) (.int .i64 0) (.int .i64 0) (.int .i64 (-1)))
    obtain ⟨c0, c1, c2, c3, c4⟩ := h3.p2.cells5
    have cf := h3.p2.free
    clear h2 h3
    go_wp2
    obtain ⟨d0, d1, d2, d3, d4⟩ := H.out.cells5
    refine bodyPost_ret (v := .agg #[.int .i64 born, .slice (some ⟨w1.heap.size, 0, none⟩) 1 1, .int .i64 0, .int .i64 0, .int .i64 (-1)]) (by simp [results, Try.results14, go_sem, d0, d1, d2, d3, d4]) rfl ⟨_, rfl, (H.out.drop.p1.entry 0 born 0).p1.one entryR_frame rfl⟩
  · have h3 := h2.alloc #[.int .i64 i, .int .i64 born, .int .i64 0, .slice V.xr V.nr V.cr, .slice V.xf V.nf V.cf, .slice V.xt V.nt V.ct, .int .i64 newSm.lo, .int .i64 newSm.al, .slice V.xk V.nk V.ck, .int .i64 newSm.ka] 76
    have H := Lib.hid (h3.p2.set5 (.int .i64 born) (.slice (some ⟨w1.heap.size, 0, none⟩) 1 1) (.int .i64 0) (.int .i64 5) (.int .i64 (-1)))
    obtain ⟨c0, c1, c2, c3, c4⟩ := h3.p2.cells5
    have cf := h3.p2.free
    clear h2 h3
    go_wp2
    obtain ⟨d0, d1, d2, d3, d4⟩ := H.out.cells5
    refine bodyPost_ret (v := .agg #[.int .i64 born, .slice (some ⟨w1.heap.size, 0, none⟩) 1 1, .int .i64 0, .int .i64 5, .int .i64 (-1)]) (by simp [results, Try.results14, go_sem, d0, d1, d2, d3, d4]) rfl ⟨_, rfl, (H.out.drop.p1.entry i born 0).p1.one entryR_frame rfl⟩
end N
end Go.Proofs.Ytnpogmhfdjmfdaa

/-
  The model's NetNew.
-/
namespace Go.Proofs.Ytnpogmhfdjmfdaa
open Go.RowKit Go.Sort
namespace N
/-- What a call answers that gives a net, or none. -/
def AnsN (w : World) (o : Option Nt) (e : Ending) (w' : World) : Prop := ∃ v1 v2 v3 v4 fp, e = .returned (.tuple #[.agg #[v1, v2, v3, v4], .bool o.isSome]) ∧ Sole (netR TY) w.heap.size w' [v1, v2, v3, v4] (o.getD noNt) fp ∧ Below w.heap.size w w'
theorem ans_none {w w' : World} {l : List Ch} (h : M w.heap.size w w' l) : AnsN w none (.returned (.tuple #[.agg #[.slice none 0 0, .slice none 0 0, .slice none 0 0, .slice none 0 0], .bool false])) w' := by
  have h' : M w.heap.size w w' (nodesC _ [] :: linksC _ [] :: wordsC _ [] :: pastC _ [] :: l) := (((h.nil _ _ _).nil _ _ _).nil _ _ _).nil _ _ _
  obtain ⟨fp, hs⟩ := h'.net
  exact ⟨_, _, _, _, fp, rfl, hs, h.below⟩
theorem ans_some {w w' : World} {l : List Ch} {v1 v2 v3 v4 : Value} {ns : List Nd} {ls : List Bool} {ws : List Wd} {ps : List (List (List Int))} (h : M w.heap.size w w' (nodesC v1 ns :: linksC v2 ls :: wordsC v3 ws :: pastC v4 ps :: l)) :
    AnsN w (some ⟨ns, ls, ws, ps⟩) (.returned (.tuple #[.agg #[v1, v2, v3, v4], .bool true])) w' := by
  obtain ⟨fp, hs⟩ := h.net
  exact ⟨_, _, _, _, fp, rfl, hs, h.below⟩
theorem l6In_yes' (w : World) (a lo hi : Int) (h : in6 a lo hi = true) : Calls Try.prog 12 #[.int .i64 a, .int .i64 lo, .int .i64 hi] w fun e w' => e = .returned (.bool true) ∧ w = w' := by
  obtain ⟨h0, h1⟩ : lo ≤ a ∧ a ≤ hi := by simpa [in6] using h
  clear h
  go_enter Try.func12, Try.ntmps12
  go_wp2
  go_ret
  exact ⟨rfl, rfl⟩
theorem l6In_no' (w : World) (a lo hi : Int) (h : in6 a lo hi = false) : Calls Try.prog 12 #[.int .i64 a, .int .i64 lo, .int .i64 hi] w fun e w' => e = .returned (.bool false) ∧ w = w' := by
  have h' : ¬ (lo ≤ a ∧ a ≤ hi) := by simpa [in6] using h
  clear h
  by_cases h0 : lo ≤ a
  · have h1 : decide (a ≤ hi) = false := by simp; omega
    clear h'
    go_enter Try.func12, Try.ntmps12
    go_wp2
    go_ret
    exact ⟨rfl, rfl⟩
  · have h1 : decide (lo ≤ a) = false := by simp; omega
    clear h' h0
    go_enter Try.func12, Try.ntmps12
    go_wp2
    go_ret
    exact ⟨rfl, rfl⟩
set_option maxRecDepth 100000 in
set_option maxHeartbeats 8000000 in
theorem spNetNew_at (w : World) (x : Option Addr) (n c : Nat) (ks : List Int) (h : Ints w (.slice x n c) ks) : Calls Try.prog 4 #[.slice x n c] w (AnsN w (newN ks)) := by
  obtain ⟨b, o, hx⟩ : ∃ b o, n = 0 ∨ (x = some ⟨b, o, none⟩ ∧ b < w.heap.size ∧ ∀ i, i < n → w.cell? ⟨b, o + i, none⟩ = some (.int .i64 (ks.getD i 0))) := by
    rcases h with ⟨e, rfl⟩ | ⟨b, o, cap, e, h1, h2, hb, hc⟩
    · simp at e; exact ⟨0, 0, .inl e.2.1⟩
    · simp at e; obtain ⟨rfl, rfl, rfl⟩ := e; exact ⟨b, o, .inr ⟨rfl, hb, hc⟩⟩
  have HX := Lib.hid hx
  have hnl : n = ks.length := by
    rcases h with ⟨e, rfl⟩ | ⟨b, o, cap, e, h1, h2, _⟩
    · simp at e; simp [e]
    · simp at e; omega
  have HN := Lib.hid hnl
  have hm : n ≤ maxLen := by
    rcases h with ⟨e, rfl⟩ | ⟨b, o, cap, e, h1, h2, _⟩
    · rw [hnl]; simp
    · simp at e; omega
  unfold maxLen at hm
  clear hx h hnl
  have h0 := (M.start w).alloc #[.slice none 0 0, .slice none 0 0, .slice none 0 0, .slice none 0 0] 28
  have H0 := Lib.hid h0
  clear h0
  by_cases hs : n ≤ 40
  · by_cases hp : n % 2 = 0
    · have n0 : (0 : Int) ≤ (n : Int) := by omega
      have n1 : (n : Int) ≤ 40 := by omega
      have e2 : (n : Int) % 2 = 0 := by omega
      go_enter Try.func4, Try.ntmps4
      go_wp2_with (at_make; refine wpList_mk linkS (enc := encB) (z0 := false) rfl rfl (fun _ => rfl) H0.out rfl rfl 25 rfl rfl rfl rfl (by decide) (by decide) ?_; intro w1 h1 hb1; clear H0)
      have h2 := (h1.alloc #[] 84).alloc #[.slice none 0 0, .slice (some ⟨w.heap.size + 1, 0, none⟩) 25 25, .slice (some ⟨w1.heap.size, 0, none⟩) 0 0, .slice none 0 0] 28
      simp only [World.size_alloc] at h1 h2
      generalize (w1.alloc (Obj.cells #[] 84)).alloc (Obj.cells #[.slice none 0 0, .slice (some ⟨w.heap.size + 1, 0, none⟩) 25 25, .slice (some ⟨w1.heap.size, 0, none⟩) 0 0, .slice none 0 0] 28) = w2 at h2 ⊢
      have H := Lib.hid (h2.p1.empty (wordR_frame (T := TY)) 6)
      clear h1 h2 hb1
      generalize w1.heap.size = q1 at H ⊢
      clear e2 n1
      go_loopw [5] (fun i wr => ∃ (j : Nat) (ls : List Bool), i = .int .i64 (j : Int) ∧ j % 2 = 0 ∧ j ≤ n ∧ ls.length = 25 ∧ pairsB (ks.drop j) = pairsB ks ∧ setLinks ls (ks.drop j) = setLinks (List.replicate 25 false) ks ∧
        M w.heap.size w wr [wordsC (.slice (some ⟨q1, 0, none⟩) 0 0) [], boxC (q1 + 1) 28 #[.slice none 0 0, .slice (some ⟨w.heap.size + 1, 0, none⟩) 25 25, .slice (some ⟨q1, 0, none⟩) 0 0, .slice none 0 0], linksC (.slice (some ⟨w.heap.size + 1, 0, none⟩) 25 25) ls, boxC w.heap.size 28 #[.slice none 0 0, .slice none 0 0, .slice none 0 0, .slice none 0 0]]) (fun i _ => n - (intOf i).toNat)
      case atStart => exact ⟨0, List.replicate 25 false, rfl, rfl, Nat.zero_le _, rfl, by rw [List.drop_zero], by rw [List.drop_zero], H.out⟩
      case round =>
        clear H
        obtain ⟨j, ls, rfl, hj2, hjn, hl, hp1, hs1, h⟩ := hrel
        have HL := Lib.hid hl
        have HP := Lib.hid hp1
        have HS := Lib.hid hs1
        have HJ := Lib.hid hj2
        have H := Lib.hid h
        clear hl hp1 hs1 h hj2
        by_cases hlt : j < n
        · have hj1 : j + 1 < n := by have := HJ.out; omega
          obtain ⟨rfl, hbw, hce⟩ := HX.out.resolve_left (by omega)
          obtain ⟨ka, hka⟩ : ∃ z, z = ks.getD j 0 := ⟨_, rfl⟩
          obtain ⟨kb, hkb⟩ : ∃ z, z = ks.getD (j + 1) 0 := ⟨_, rfl⟩
          have ca : wr.cell? ⟨b, o + j, none⟩ = some (.int .i64 ka) := by rw [hka]; exact cell_later H.out.below (hce j hlt)
          have cb : wr.cell? ⟨b, o + (j + 1), none⟩ = some (.int .i64 kb) := by rw [hkb]; exact cell_later H.out.below (hce (j + 1) hj1)
          have DR := Lib.hid (show ks.drop j = ka :: kb :: ks.drop (j + 2) by
            rw [List.drop_eq_getElem_cons (by rw [← HN.out]; exact hlt), List.drop_eq_getElem_cons (by rw [← HN.out]; exact hj1), hka, hkb]
            simp [List.getD, show j < ks.length by rw [← HN.out]; exact hlt, show j + 1 < ks.length by rw [← HN.out]; exact hj1])
          clear hka hkb hce hbw HX
          obtain ⟨d0, d1, d2, d3⟩ := H.out.p3.cells4
          have df := H.out.p3.free
          have F := Lib.hid (H.out.p3.set4 (.slice none 0 0) (.slice none 0 0) (.slice none 0 0) (.slice none 0 0))
          have BAD := Lib.hid (fun q : pairsB (ka :: kb :: ks.drop (j + 2)) = false => show newN ks = none by
            have e := HP.out
            rw [DR.out, q] at e
            unfold newN
            rw [if_neg (fun z => by rw [← e] at z; cases z.2)])
          cases ga : in6 ka 0 4 with
          | false =>
            have E := Lib.hid (BAD.out (by unfold pairsB; rw [ga]; rfl))
            have GA := Lib.hid ga
            clear BAD ga H DR
            go_wp2_with (go_at_call 12; refine (l6In_no' _ _ _ _ GA.out).mono ?_; rintro e w' ⟨rfl, rfl⟩)
            obtain ⟨e0, e1, e2', e3⟩ := F.out.cells4
            (try simp only [Exit.inBlock, Exit.then])
            refine bodyPost_ret (v := .tuple #[.agg #[.slice none 0 0, .slice none 0 0, .slice none 0 0, .slice none 0 0], .bool false]) (by simp [results, Try.results4, go_sem, e0, e1, e2', e3]) rfl ?_
            rw [E.out]
            exact ans_none F.out
          | true =>
            have GA := Lib.hid ga
            cases gb : in6 kb 0 4 with
            | false =>
              have E := Lib.hid (BAD.out (by unfold pairsB; rw [ga, gb]; rfl))
              have GB := Lib.hid gb
              clear BAD ga gb H DR
              go_wp2_with (first | (go_at_call 12; (with_reducible refine (l6In_yes' _ ka _ _ GA.out).mono ?_); rintro e w' ⟨rfl, rfl⟩) | (go_at_call 12; (with_reducible refine (l6In_no' _ kb _ _ GB.out).mono ?_); rintro e w' ⟨rfl, rfl⟩))
              obtain ⟨e0, e1, e2', e3⟩ := F.out.cells4
              (try simp only [Exit.inBlock, Exit.then])
              refine bodyPost_ret (v := .tuple #[.agg #[.slice none 0 0, .slice none 0 0, .slice none 0 0, .slice none 0 0], .bool false]) (by simp [results, Try.results4, go_sem, e0, e1, e2', e3]) rfl ?_
              rw [E.out]
              exact ans_none F.out
            | true =>
              have GB := Lib.hid gb
              by_cases hne : ka = kb
              · have E := Lib.hid (BAD.out (by unfold pairsB; rw [ga, gb, hne]; simp))
                subst hne
                clear BAD ga gb H DR
                go_wp2_with (go_at_call 12; (with_reducible refine (l6In_yes' _ ka _ _ GA.out).mono ?_); rintro e w' ⟨rfl, rfl⟩)
                obtain ⟨e0, e1, e2', e3⟩ := F.out.cells4
                (try simp only [Exit.inBlock, Exit.then])
                refine bodyPost_ret (v := .tuple #[.agg #[.slice none 0 0, .slice none 0 0, .slice none 0 0, .slice none 0 0], .bool false]) (by simp [results, Try.results4, go_sem, e0, e1, e2', e3]) rfl ?_
                rw [E.out]
                exact ans_none F.out
              · have hn' : (ka == kb) = false := by simpa using hne
                have PB := Lib.hid (show pairsB (ka :: kb :: ks.drop (j + 2)) = pairsB (ks.drop (j + 2)) by
                  conv => lhs; unfold pairsB
                  rw [ga, gb, decide_eq_true hne]; rfl)
                obtain ⟨a0, a1⟩ : 0 ≤ ka ∧ ka ≤ 4 := by simpa [in6] using ga
                obtain ⟨b0, b1⟩ : 0 ≤ kb ∧ kb ≤ 4 := by simpa [in6] using gb
                obtain ⟨qa, hqa⟩ : ∃ q : Nat, ka * 5 + kb = q := ⟨(ka * 5 + kb).toNat, by omega⟩
                obtain ⟨qb, hqb⟩ : ∃ q : Nat, kb * 5 + ka = q := ⟨(kb * 5 + ka).toNat, by omega⟩
                have x0 : (0 : Int) ≤ (qa : Int) := by omega
                have x1 : (qa : Int) < 25 := by omega
                have y0 : (0 : Int) ≤ (qb : Int) := by omega
                have y1 : (qb : Int) < 25 := by omega
                have QA := Lib.hid (show (ka * 5 + kb).toNat = qa by omega)
                have QB := Lib.hid (show (kb * 5 + ka).toNat = qb by omega)
                have K1 := Lib.hid (fun W => spLinkN_at W (a := ka) (b := kb) ⟨a0, a1, b0, b1⟩ hqa)
                have K2 := Lib.hid (fun W => spLinkN_at W (a := kb) (b := ka) ⟨b0, b1, a0, a1⟩ hqb)
                clear BAD F d0 d1 d2 d3 df ga gb hne hqa hqb a0 a1 b0 b1
                have HL' : ls.length = 25 := HL.out
                obtain ⟨⟨z, cz⟩, fz, h1⟩ := H.out.p2.drew.setEl (i := qa) (by rw [HL']; omega) true (u := .bool true) rfl
                obtain ⟨⟨z2, cz2⟩, fz2, h2⟩ := h1.drew.setEl (i := qb) (by rw [List.length_set, HL']; omega) true (u := .bool true) rfl
                have S1 := Lib.hid (H.out.p1.drew.cell (i := 1) rfl)
                have S2 := Lib.hid (h1.drew.p2.cell (i := 1) rfl)
                have CZ := Lib.hid (And.intro cz fz)
                have CZ2 := Lib.hid (And.intro cz2 fz2)
                have H2 := Lib.hid h2
                clear cz fz h1 cz2 fz2 h2 HL' H
                go_wp2_with (first | (go_at_call 12; (with_reducible refine (l6In_yes' _ ka _ _ GA.out).mono ?_); rintro e w' ⟨rfl, rfl⟩) | (go_at_call 12; (with_reducible refine (l6In_yes' _ kb _ _ GB.out).mono ?_); rintro e w' ⟨rfl, rfl⟩))
                refine wp_region_plan 6 (.take 0 (.take 1 (.take 2 (.take 3 (.alt 4 (.take 5 (.alt 6 .done .nomore)) .nomore))))) (fun w' => w'.cell? ⟨q1 + 1, 1, none⟩ = some (.slice (some ⟨w.heap.size + 1, 0, none⟩) 25 25)) (by kernel_rfl) (by kernel_rfl) (fun _ _ _ _ _ h => h) S1.out ?_
                repeat (first | (refine plan_take (by rfl) (by rfl) ?_; apply Exists.intro; refine ⟨fun w' hw' => ?_, ?_⟩; (· ((try dsimp only at hw'); go_simp; (try with_reducible rfl))); simp only [Act.put, List.getElem_toArray, List.getElem_cons_succ, List.getElem_cons_zero, List.setIfInBounds_toArray, List.set_cons_zero, List.set_cons_succ]) | (refine plan_skip (by rfl) (by rfl) ?_; simp only [Act.put, List.getElem_toArray, List.getElem_cons_succ, List.getElem_cons_zero, List.setIfInBounds_toArray, List.set_cons_zero, List.set_cons_succ]))
                refine plan_last (by rfl) (fun K hK => ?_)
                go_simp
                refine (K1.out _).mono ?_
                rintro e w' ⟨rfl, rfl⟩
                refine hK _ _ (.inr S1.out) ?_
                clear hK K
                try simp only [Act.put, List.getElem_toArray, List.getElem_cons_succ, List.getElem_cons_zero, List.setIfInBounds_toArray, List.set_cons_zero, List.set_cons_succ]
                repeat (first | (refine plan_take (by rfl) (by rfl) ?_; apply Exists.intro; refine ⟨fun w' hw' => ?_, ?_⟩; (· ((try dsimp only at hw'); go_simp; (try with_reducible rfl))); simp only [Act.put, List.getElem_toArray, List.getElem_cons_succ, List.getElem_cons_zero, List.setIfInBounds_toArray, List.set_cons_zero, List.set_cons_succ]) | (refine plan_skip (by rfl) (by rfl) ?_; simp only [Act.put, List.getElem_toArray, List.getElem_cons_succ, List.getElem_cons_zero, List.setIfInBounds_toArray, List.set_cons_zero, List.set_cons_succ]))
                obtain ⟨cz, fz⟩ := CZ.out
                refine plan_last (by rfl) (fun K hK => ?_)
                go_simp
                refine hK _ _ (.inl rfl) ?_
                clear hK K
                try simp only [Act.put, List.getElem_toArray, List.getElem_cons_succ, List.getElem_cons_zero, List.setIfInBounds_toArray, List.set_cons_zero, List.set_cons_succ]
                refine plan_done ?_
                clear cz fz CZ S1
                obtain ⟨w5, hw5⟩ : ∃ w5, w5 = (wr.setCell ⟨w.heap.size + 1, qa, none⟩ (.bool true)).drew := ⟨_, rfl⟩
                have hd : wr.drew.setCell ⟨w.heap.size + 1, qa, none⟩ (.bool true) = w5 := hw5.symm
                rw [hd] at H2 S2 CZ2
                rw [← hw5]
                clear hw5 hd
                go_wp2
                refine wp_region_plan 6 (.take 0 (.take 1 (.take 2 (.take 3 (.alt 4 (.take 5 (.alt 6 .done .nomore)) .nomore))))) (fun w' => w'.cell? ⟨q1 + 1, 1, none⟩ = some (.slice (some ⟨w.heap.size + 1, 0, none⟩) 25 25)) (by kernel_rfl) (by kernel_rfl) (fun _ _ _ _ _ h => h) S2.out ?_
                repeat (first | (refine plan_take (by rfl) (by rfl) ?_; apply Exists.intro; refine ⟨fun w' hw' => ?_, ?_⟩; (· ((try dsimp only at hw'); go_simp; (try with_reducible rfl))); simp only [Act.put, List.getElem_toArray, List.getElem_cons_succ, List.getElem_cons_zero, List.setIfInBounds_toArray, List.set_cons_zero, List.set_cons_succ]) | (refine plan_skip (by rfl) (by rfl) ?_; simp only [Act.put, List.getElem_toArray, List.getElem_cons_succ, List.getElem_cons_zero, List.setIfInBounds_toArray, List.set_cons_zero, List.set_cons_succ]))
                refine plan_last (by rfl) (fun K hK => ?_)
                go_simp
                refine (K2.out _).mono ?_
                rintro e w' ⟨rfl, rfl⟩
                refine hK _ _ (.inr S2.out) ?_
                clear hK K
                try simp only [Act.put, List.getElem_toArray, List.getElem_cons_succ, List.getElem_cons_zero, List.setIfInBounds_toArray, List.set_cons_zero, List.set_cons_succ]
                repeat (first | (refine plan_take (by rfl) (by rfl) ?_; apply Exists.intro; refine ⟨fun w' hw' => ?_, ?_⟩; (· ((try dsimp only at hw'); go_simp; (try with_reducible rfl))); simp only [Act.put, List.getElem_toArray, List.getElem_cons_succ, List.getElem_cons_zero, List.setIfInBounds_toArray, List.set_cons_zero, List.set_cons_succ]) | (refine plan_skip (by rfl) (by rfl) ?_; simp only [Act.put, List.getElem_toArray, List.getElem_cons_succ, List.getElem_cons_zero, List.setIfInBounds_toArray, List.set_cons_zero, List.set_cons_succ]))
                obtain ⟨cz, fz⟩ := CZ2.out
                refine plan_last (by rfl) (fun K hK => ?_)
                go_simp
                refine hK _ _ (.inl rfl) ?_
                clear hK K
                try simp only [Act.put, List.getElem_toArray, List.getElem_cons_succ, List.getElem_cons_zero, List.setIfInBounds_toArray, List.set_cons_zero, List.set_cons_succ]
                refine plan_done ?_
                clear cz fz
                go_wp2
                go_roundw
                case rel =>
                  refine ⟨j + 2, (ls.set qa true).set qb true, by go_num, by have := HJ.out; omega, by omega, by rw [List.length_set, List.length_set]; exact HL.out, ?_, ?_, H2.out.p2.p2⟩
                  · rw [← PB.out, ← DR.out]; exact HP.out
                  · rw [← HS.out, DR.out]
                    conv => rhs; unfold setLinks
                    rw [QA.out, QB.out]
                case measure => simp [intOf]; omega
        · obtain rfl : j = n := by omega
          have EQ := Lib.hid (show newN ks = some ⟨baseN.nodes, ls, [], baseN.past⟩ by
            have e : ks.drop j = [] := List.drop_eq_nil_of_le (by rw [← HN.out]; exact Nat.le_refl _)
            have e1 := HS.out
            have e2 := HP.out
            rw [e] at e1 e2
            unfold newN
            rw [if_pos ⟨⟨by rw [← HN.out]; exact HJ.out, by rw [← HN.out]; exact hs⟩, e2.symm⟩]
            have : setLinks baseN.links ks = ls := e1.symm
            rw [this]; rfl)
          clear HS HP HL HX HN HJ hjn hp n0 hs hlt
          go_wp2
          go_loopw [8] (fun i wr => ∃ (k : Nat) (xn : Option Addr) (cn : Nat) (xp : Option Addr) (cp : Nat), i = .int .i64 (k : Int) ∧ k ≤ 5 ∧ M w.heap.size w wr [nodesC (.slice xn k cn) ((List.range k).map fun i : Nat => l21Born i 1), pastC (.slice xp k cp) (List.replicate k [[], []]), boxC (q1 + 1) 28 #[.slice xn k cn, .slice (some ⟨w.heap.size + 1, 0, none⟩) 25 25, .slice (some ⟨q1, 0, none⟩) 0 0, .slice xp k cp], wordsC (.slice (some ⟨q1, 0, none⟩) 0 0) [], linksC (.slice (some ⟨w.heap.size + 1, 0, none⟩) 25 25) ls, boxC w.heap.size 28 #[.slice none 0 0, .slice none 0 0, .slice none 0 0, .slice none 0 0]]) (fun i _ => 5 - (intOf i).toNat)
          case atStart => exact ⟨0, none, 0, none, 0, rfl, Nat.zero_le _, ((H.out.p1).nil rowsR_frame 43 1).nil (nodeR_frame (T := TY)) 41 5⟩
          case round =>
            clear H
            obtain ⟨k, xn, cn, xp, cp, rfl, hk, h⟩ := hrel
            have H := Lib.hid h
            clear h
            by_cases hk5 : k < 5
            · go_wp2
              refine wp_region_plan 7 (.take 0 (.take 1 (.take 2 (.alt 3 (.alt 4 (.alt 5 (.take 6 (.alt 7 .done .nomore)) .nomore) .nomore) .nomore)))) (fun w' => w'.cell? ⟨q1 + 1, 0, none⟩ = some (.slice xn k cn)) (by kernel_rfl) (by kernel_rfl) (fun _ _ _ _ _ h => h) (H.out.p2.drew.cell rfl) ?_
              repeat (first | (refine plan_take (by rfl) (by rfl) ?_; apply Exists.intro; refine ⟨fun w' hw' => ?_, ?_⟩; (· ((try dsimp only at hw'); go_simp; (try with_reducible rfl))); simp only [Act.put, List.getElem_toArray, List.getElem_cons_succ, List.getElem_cons_zero, List.setIfInBounds_toArray, List.set_cons_zero, List.set_cons_succ]) | (refine plan_skip (by rfl) (by rfl) ?_; simp only [Act.put, List.getElem_toArray, List.getElem_cons_succ, List.getElem_cons_zero, List.setIfInBounds_toArray, List.set_cons_zero, List.set_cons_succ]))
              obtain ⟨lv, hlv⟩ : ∃ lv : Int, lv = if (k : Int) = 0 then 0 else 5 := ⟨_, rfl⟩
              have KN := Lib.hid (spNode_at H.out.drew (k : Int) 1)
              have BN := Lib.hid (show l21Born (k : Int) 1 = ⟨1, [⟨(k : Int), 1, 0, newSm⟩], 0, lv, -1⟩ by rw [hlv]; rfl)
              rw [← hlv] at KN
              clear hlv H
              refine plan_last (by rfl) (fun K hK => ?_)
              go_simp
              refine KN.out.mono ?_
              rintro e w3 ⟨v, rfl, h1⟩
              obtain ⟨xv, cv, rfl⟩ : ∃ xv cv, v = .slice xv 1 cv := by obtain ⟨f, hf, _⟩ := h1.first; obtain ⟨_, _, e, _⟩ := slcR_value hf; exact ⟨_, _, e⟩
              refine hK _ _ (.inr (h1.p3.cell rfl)) ?_
              clear hK K
              try simp only [Act.put, List.getElem_toArray, List.getElem_cons_succ, List.getElem_cons_zero, List.setIfInBounds_toArray, List.set_cons_zero, List.set_cons_succ]
              refine plan_last (by rfl) (fun K hK => ?_)
              go_simp
              have h2 := ((h1.node 1 0 lv (-1)).p1).alloc #[.int .i64 1, .slice xv 1 cv, .int .i64 0, .int .i64 lv, .int .i64 (-1)] 41
              refine hK _ _ (.inr (h2.p4.cell rfl)) ?_
              clear hK K
              try simp only [Act.put, List.getElem_toArray, List.getElem_cons_succ, List.getElem_cons_zero, List.setIfInBounds_toArray, List.set_cons_zero, List.set_cons_succ]
              refine plan_last (by rfl) (fun K hK => step_app nodeS (nodeR_one (T := TY)) h2 (by rfl) (by rfl) (by rfl) (by rfl) (by simp [maxLen]; omega) (by simp; omega) (N := k + 1) (by simp) (fun y cap w4 h3 => ?_))
              refine hK _ _ (.inr (h3.p2.cell rfl)) ?_
              clear hK K
              try simp only [Act.put, List.getElem_toArray, List.getElem_cons_succ, List.getElem_cons_zero, List.setIfInBounds_toArray, List.set_cons_zero, List.set_cons_succ]
              repeat (first | (refine plan_take (by rfl) (by rfl) ?_; apply Exists.intro; refine ⟨fun w' hw' => ?_, ?_⟩; (· ((try dsimp only at hw'); go_simp; (try with_reducible rfl))); simp only [Act.put, List.getElem_toArray, List.getElem_cons_succ, List.getElem_cons_zero, List.setIfInBounds_toArray, List.set_cons_zero, List.set_cons_succ]) | (refine plan_skip (by rfl) (by rfl) ?_; simp only [Act.put, List.getElem_toArray, List.getElem_cons_succ, List.getElem_cons_zero, List.setIfInBounds_toArray, List.set_cons_zero, List.set_cons_succ]))
              obtain ⟨c0, c1, c2, c3⟩ := h3.p2.cells4
              have cf := h3.p2.free
              have h4 := h3.p2.set (i := 0) (.slice y (k + 1) cap)
              simp only [List.setIfInBounds_toArray, List.set_cons_zero, List.set_cons_succ] at h4
              have H4 := Lib.hid h4
              clear h1 h2 h3 h4 KN
              refine plan_last (by rfl) (fun K hK => ?_)
              go_simp
              refine hK _ _ (.inl rfl) ?_
              clear hK K
              try simp only [Act.put, List.getElem_toArray, List.getElem_cons_succ, List.getElem_cons_zero, List.setIfInBounds_toArray, List.set_cons_zero, List.set_cons_succ]
              refine plan_done ?_
              clear c0 c1 c2 c3 cf
              obtain ⟨w5, hw5⟩ : ∃ w5, w5 = w4.setCell ⟨q1 + 1, 0, none⟩ (.slice y (k + 1) cap) := ⟨_, rfl⟩
              rw [← hw5] at H4 ⊢
              clear hw5
              have h8 := (((H4.out.alloc #[] 3).alloc #[] 3).alloc #[.slice (some ⟨w5.heap.size, 0, none⟩) 0 0, .slice (some ⟨w5.heap.size + 1, 0, none⟩) 0 0] 22).alloc #[.slice (some ⟨w5.heap.size + 1 + 1, 0, none⟩) 2 2] 43
              simp only [World.size_alloc] at h8
              have h9 := (M.pair (cs := [.slice (some ⟨w5.heap.size, 0, none⟩) 0 0]) (ds := [.slice (some ⟨w5.heap.size + 1, 0, none⟩) 0 0]) intsR_frame ((((h8.p3.empty (flatR_frame encI) 1).p3.empty (flatR_frame encI) 1).p1).p3) rfl rfl).p1.p4.p1
              obtain ⟨c0, c1, c2, c3⟩ := H4.out.cells4
              clear h8
              have H9 := Lib.hid h9
              clear h9 H4
              go_wp2_with (at_builtin; go_loud (refine wpList_app rowsS (slcR_one _ _ _) H9.out rfl rfl rfl rfl (by simp [maxLen]; omega) (by simp; omega) (N := k + 1) (by simp) ?_); intro y2 cap2 w6 h10; obtain ⟨d0, d1, d2, d3⟩ := h10.p1.cells4; have df := h10.p1.free; have h11 := h10.p1.set (i := 3) (.slice y2 (k + 1) cap2); simp only [List.setIfInBounds_toArray, List.set_cons_zero, List.set_cons_succ] at h11; have H11 := Lib.hid h11; clear h10 h11 H9 c0 c1 c2 c3)
              go_roundw
              case rel =>
                refine ⟨k + 1, y, cap, y2, cap2, by go_num, hk5, ?_⟩
                rw [List.range_succ, List.map_append, List.replicate_succ']
                have e := H11.out.p1.p2
                rw [← BN.out] at e
                exact e
              case measure => simp [intOf]; omega
            · obtain rfl : k = 5 := by omega
              obtain ⟨c0, c1, c2, c3⟩ := H.out.p2.cells4
              obtain ⟨d0, d1, d2, d3⟩ := H.out.p5.cells4
              have df := H.out.p5.free
              have F := Lib.hid (H.out.p5.set4 (.slice xn 5 cn) (.slice (some ⟨w.heap.size + 1, 0, none⟩) 25 25) (.slice (some ⟨q1, 0, none⟩) 0 0) (.slice xp 5 cp))
              clear H
              go_wp2
              obtain ⟨e0, e1, e2, e3⟩ := F.out.cells4
              (try simp only [Exit.inBlock, Exit.then])
              refine bodyPost_ret (v := .tuple #[.agg #[.slice xn 5 cn, .slice (some ⟨w.heap.size + 1, 0, none⟩) 25 25, .slice (some ⟨q1, 0, none⟩) 0 0, .slice xp 5 cp], .bool true]) (by simp [results, Try.results4, go_sem, e0, e1, e2, e3]) rfl ?_
              rw [EQ.out]
              exact ans_some F.out.drop.p1.p3.p4.p3
    · have e2 : (n : Int) % 2 = 1 := by omega
      have n0 : (0 : Int) ≤ (n : Int) := by omega
      have E := Lib.hid (show newN ks = none by
        unfold newN
        rw [if_neg (fun z => by have := HN.out; omega)])
      clear hs hp
      go_enter Try.func4, Try.ntmps4
      go_wp2_with (at_make; refine wpList_mk linkS (enc := encB) (z0 := false) rfl rfl (fun _ => rfl) H0.out rfl rfl 25 rfl rfl rfl rfl (by decide) (by decide) ?_; intro w1 h1 hb1; have h2 := (h1.alloc #[] 84).alloc #[.slice none 0 0, .slice (some ⟨w.heap.size + 1, 0, none⟩) 25 25, .slice (some ⟨w1.heap.size, 0, none⟩) 0 0, .slice none 0 0] 28; have F := Lib.hid (h2.p3.set4 (.slice none 0 0) (.slice none 0 0) (.slice none 0 0) (.slice none 0 0)); obtain ⟨d0, d1, d2, d3⟩ := h2.p3.cells4; have df := h2.p3.free; clear H0 h1 h2 hb1)
      obtain ⟨e0, e1, e2', e3⟩ := F.out.cells4
      (try simp only [Exit.inBlock, Exit.then])
      refine bodyPost_ret (v := .tuple #[.agg #[.slice none 0 0, .slice none 0 0, .slice none 0 0, .slice none 0 0], .bool false]) (by simp [results, Try.results4, go_sem, e0, e1, e2', e3]) rfl ?_
      rw [E.out]
      exact ans_none F.out
  · by_cases hp : n % 2 = 0
    · have e2 : (n : Int) % 2 = 0 := by omega
      have g4 : decide ((40 : Int) < (n : Int)) = true := by simp; omega
      have n0 : (0 : Int) ≤ (n : Int) := by omega
      have E := Lib.hid (show newN ks = none by
        unfold newN
        rw [if_neg (fun z => by have := HN.out; omega)])
      clear hs hp
      go_enter Try.func4, Try.ntmps4
      go_wp2_with (at_make; refine wpList_mk linkS (enc := encB) (z0 := false) rfl rfl (fun _ => rfl) H0.out rfl rfl 25 rfl rfl rfl rfl (by decide) (by decide) ?_; intro w1 h1 hb1; have h2 := (h1.alloc #[] 84).alloc #[.slice none 0 0, .slice (some ⟨w.heap.size + 1, 0, none⟩) 25 25, .slice (some ⟨w1.heap.size, 0, none⟩) 0 0, .slice none 0 0] 28; have F := Lib.hid (h2.p3.set4 (.slice none 0 0) (.slice none 0 0) (.slice none 0 0) (.slice none 0 0)); obtain ⟨d0, d1, d2, d3⟩ := h2.p3.cells4; have df := h2.p3.free; clear H0 h1 h2 hb1)
      obtain ⟨e0, e1, e2', e3⟩ := F.out.cells4
      (try simp only [Exit.inBlock, Exit.then])
      refine bodyPost_ret (v := .tuple #[.agg #[.slice none 0 0, .slice none 0 0, .slice none 0 0, .slice none 0 0], .bool false]) (by simp [results, Try.results4, go_sem, e0, e1, e2', e3]) rfl ?_
      rw [E.out]
      exact ans_none F.out
    · have e2 : (n : Int) % 2 = 1 := by omega
      have n0 : (0 : Int) ≤ (n : Int) := by omega
      have E := Lib.hid (show newN ks = none by
        unfold newN
        rw [if_neg (fun z => by have := HN.out; omega)])
      clear hs hp
      go_enter Try.func4, Try.ntmps4
      go_wp2_with (at_make; refine wpList_mk linkS (enc := encB) (z0 := false) rfl rfl (fun _ => rfl) H0.out rfl rfl 25 rfl rfl rfl rfl (by decide) (by decide) ?_; intro w1 h1 hb1; have h2 := (h1.alloc #[] 84).alloc #[.slice none 0 0, .slice (some ⟨w.heap.size + 1, 0, none⟩) 25 25, .slice (some ⟨w1.heap.size, 0, none⟩) 0 0, .slice none 0 0] 28; have F := Lib.hid (h2.p3.set4 (.slice none 0 0) (.slice none 0 0) (.slice none 0 0) (.slice none 0 0)); obtain ⟨d0, d1, d2, d3⟩ := h2.p3.cells4; have df := h2.p3.free; clear H0 h1 h2 hb1)
      obtain ⟨e0, e1, e2', e3⟩ := F.out.cells4
      (try simp only [Exit.inBlock, Exit.then])
      refine bodyPost_ret (v := .tuple #[.agg #[.slice none 0 0, .slice none 0 0, .slice none 0 0, .slice none 0 0], .bool false]) (by simp [results, Try.results4, go_sem, e0, e1, e2', e3]) rfl ?_
      rw [E.out]
      exact ans_none F.out
end N
end Go.Proofs.Ytnpogmhfdjmfdaa
