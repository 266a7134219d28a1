/-
  The model's DeedRead.
-/
import Derived.Test.YtbnggcgojbkoaaaDoorNSpR
set_option linter.unusedVariables false
set_option linter.unusedSectionVars false
set_option linter.unusedSimpArgs false
namespace Go.Proofs.YtbnggcgojbkoaaaDoor
open Go.RowKit Go.Sort
namespace N
/-- The kind, as far as the first j words are looked at. -/
def kindT (j : Nat) (s : Bs) : Int := (List.range j).foldl (fun k i => if nameB (i + 1) = s then ((i + 1 : Nat) : Int) else k) 0
theorem kindT_yes {j : Nat} {s : Bs} (h : nameB (j + 1) = s) : kindT (j + 1) s = ((j + 1 : Nat) : Int) := by
  unfold kindT
  rw [List.range_succ, List.foldl_append]
  exact if_pos h
theorem kindT_no {j : Nat} {s : Bs} (h : ¬ nameB (j + 1) = s) : kindT (j + 1) s = kindT j s := by
  unfold kindT
  rw [List.range_succ, List.foldl_append]
  exact if_neg h
theorem texts_form {B : Nat} {w0 w : World} {l : List Ch} {y : Option Addr} {n m : Nat} {xs : List Bs} (h : M B w0 w (textsC (.slice y n m) xs :: l)) (hx : xs ≠ []) : ∃ g, y = some ⟨g, 0, Option.none⟩ := by
  obtain ⟨f, hf, _⟩ := h.first
  cases xs with
  | nil => exact absurd rfl hx
  | cons x xs =>
    obtain ⟨g', cap, ci, fi, ev, _⟩ := slcR_at hf (i := 0) rfl
    cases ev
    exact ⟨_, rfl⟩
section
variable {B p : Nat} {w0 w : World} {l : List Ch}
def readV' (o : Option De) : Value := .tuple #[.agg #[.int .i64 (o.getD ⟨0, 0, 0⟩).kind, .int .i64 (o.getD ⟨0, 0, 0⟩).a, .int .i64 (o.getD ⟨0, 0, 0⟩).b], .bool o.isSome]
set_option maxRecDepth 100000 in
set_option maxHeartbeats 4000000 in
theorem spDeedRead_at (h : M B w0 w l) (s : Bs) (hs : s.length ≤ 4000000) : Calls Tryd.prog 13 #[.string ⟨s.toArray⟩] w fun e w' => e = .returned (readV' (readD s)) ∧ M B w0 w' l := by
  have H := Lib.hid (h.alloc #[.int .i64 0, .int .i64 0, .int .i64 0] 24)
  have HS := Lib.hid hs
  clear h hs
  obtain ⟨ws, hw⟩ : ∃ ws, ws = splitB 32 s := ⟨_, rfl⟩
  have LW : Hid (ws.length ≤ 4000001) := Lib.hid (by
    have : ∀ t : Bs, (splitB 32 t).length ≤ t.length + 1 := by
      intro t
      induction t with
      | nil => simp [splitB]
      | cons a t ih =>
        unfold splitB
        split
        · simpa using ih
        · split
          · simp
          · rename_i e; rw [e] at ih; simp at ih ⊢; omega
    have := this s
    rw [← hw] at this
    have := HS.out
    omega)
  have SL : Hid (∀ y ∈ ws, y.length ≤ 4000000) := Lib.hid (by
    have key : ∀ (l : List Bs) (y : Bs), y ∈ l → y.length ≤ (joinB 32 l).length := by
      intro l y
      induction l with
      | nil => intro h; cases h
      | cons a l ih =>
        intro h
        cases l with
        | nil =>
          rcases List.mem_cons.1 h with rfl | h
          · exact Nat.le_refl _
          · cases h
        | cons b l =>
          have e : joinB 32 (a :: b :: l) = a ++ 32 :: joinB 32 (b :: l) := rfl
          rw [e]
          rcases List.mem_cons.1 h with rfl | h
          · simp
          · have := ih h
            simp only [List.length_append, List.length_cons]
            omega
    intro y hy
    have t := key _ y hy
    rw [hw, join_split] at t
    have := HS.out
    omega)
  have RW : Hid (rawD s = ⟨kindB (ws.getD 0 []), if 1 < ws.length then numB (ws.getD 1 []) else 0, if 2 < ws.length then numB (ws.getD 2 []) else 0⟩) := Lib.hid (by unfold rawD; rw [← hw])
  have KS := Lib.hid (fun (l : List Ch) (w : World) (h : M B w0 w l) => spSplit_at h s HS.out 32)
  rw [← hw] at KS
  have NE : Hid (ws ≠ []) := Lib.hid (by rw [hw]; exact split_ne _ _)
  clear hw
  go_enter Tryd.func13, Tryd.ntmps13
  go_wp2_with fail
  refine (KS.out _ _ H.out).mono ?_
  rintro e w1 ⟨y, m, rfl, h1⟩
  obtain ⟨g, rfl⟩ := texts_form h1 NE.out
  have H1 := Lib.hid (h1.alloc #[.int .i64 0, .int .i64 0, .int .i64 0] 24)
  clear h1 KS H
  have rf := H1.out.free
  obtain ⟨r0, r1, r2⟩ := H1.out.cells3
  go_wp2
  clear r0 r1 r2 rf
  generalize w1.heap.size = db at H1 ⊢
  generalize w1.alloc (.cells #[.int .i64 0, .int .i64 0, .int .i64 0] 24) = w2 at H1 ⊢
  have FF := H1
  clear H1
  obtain ⟨x0, W0⟩ : ∃ x0, ws[0]? = some x0 := by
    cases q : ws with
    | nil => exact absurd q NE.out
    | cons a b => exact ⟨a, rfl⟩
  have HW0 := Lib.hid W0
  have G0 : Hid (ws.getD 0 [] = x0) := Lib.hid (by rw [List.getD_eq_getElem?_getD, W0]; rfl)
  have NG0 : Hid (0 < ws.length) := Lib.hid (List.length_pos_iff.2 NE.out)
  clear W0 NE
  go_loopw [6] (fun i wr => ∃ j : Nat, j ≤ 10 ∧ i = .int .i64 ((j : Int) + 1) ∧ M B w0 wr (boxC db 24 #[.int .i64 (kindT j x0), .int .i64 0, .int .i64 0] :: textsC (.slice (some ⟨g, 0, Option.none⟩) ws.length m) ws :: boxC w.heap.size 24 #[.int .i64 0, .int .i64 0, .int .i64 0] :: l)) (fun i _ => 11 - (intOf i).toNat)
  case atStart => exact ⟨0, by omega, rfl, FF.out⟩
  case round =>
    clear FF
    obtain ⟨j, hj, rfl, h⟩ := hrel
    have H := Lib.hid h
    clear h
    by_cases hlt : j < 10
    · have gj : decide ((j : Int) + 1 ≤ 10) = true := by simp; omega
      have NN := Lib.hid (names_get (n := j + 1) ⟨by omega, by omega⟩)
      have n0 := NG0.out
      go_upto_region 6 with fail
      refine wp_region_plan 8 (.take 1 (.take 4 (.take 5 (.take 6 (.alt 0 (.alt 2 (.alt 3 (.alt 7 .done .nomore) .nomore) .nomore) .nomore))))) (fun w' => w'.cell? ⟨g, 0, Option.none⟩ = some (.string ⟨x0.toArray⟩)) (by kernel_rfl) (by kernel_rfl) (fun _ _ _ _ _ h => h) (H.out.drew.p1.elem HW0.out rfl) ?_
      repeat (first | (refine plan_take (by rfl) (by rfl) ?_; apply Exists.intro; refine ⟨fun w' hw' => ?_, ?_⟩; (· ((try dsimp only at hw'); go_simp; (try with_reducible rfl))); simp only [Act.put, List.getElem_toArray, List.getElem_cons_succ, List.getElem_cons_zero, List.setIfInBounds_toArray, List.set_cons_zero, List.set_cons_succ]) | (refine plan_skip (by rfl) (by rfl) ?_; simp only [Act.put, List.getElem_toArray, List.getElem_cons_succ, List.getElem_cons_zero, List.setIfInBounds_toArray, List.set_cons_zero, List.set_cons_succ]))
      refine plan_last (by rfl) (fun K' hK => ?_)
      go_simp
      refine (spNames_at H.out.drew).mono ?_
      rintro e w2 ⟨nb, rfl, h2⟩
      have H2 := Lib.hid h2
      clear h2 H
      refine hK _ _ (.inr (H2.out.p2.elem HW0.out rfl)) ?_
      clear hK K'
      try simp only [Act.put, List.getElem_toArray, List.getElem_cons_succ, List.getElem_cons_zero, List.setIfInBounds_toArray, List.set_cons_zero, List.set_cons_succ]
      have nx := H2.out.cell NN.out
      have gb : (j : Int) + 1 < 11 := by omega
      have ga : (0 : Int) ≤ (j : Int) + 1 := by omega
      have gn : ((j : Int) + 1).toNat = j + 1 := by omega
      refine plan_last (by rfl) (fun K hK => ?_)
      go_simp
      refine hK _ _ (.inr (H2.out.p2.elem HW0.out rfl)) ?_
      clear hK K
      try simp only [Act.put, List.getElem_toArray, List.getElem_cons_succ, List.getElem_cons_zero, List.setIfInBounds_toArray, List.set_cons_zero, List.set_cons_succ]
      refine plan_last (by rfl) (fun K hK => ?_)
      go_simp
      refine hK _ _ (.inr (H2.out.p2.elem HW0.out rfl)) ?_
      clear hK K
      try simp only [Act.put, List.getElem_toArray, List.getElem_cons_succ, List.getElem_cons_zero, List.setIfInBounds_toArray, List.set_cons_zero, List.set_cons_succ]
      clear nx
      have LS := Lib.hid (show (⟨x0.toArray⟩ : ByteArray).toList = x0 by rw [Go.ByteArray.toList_eq])
      by_cases eq : nameB (j + 1) = x0
      · have bq : (nameB (j + 1) == x0) = true := by simpa using eq
        have KT := Lib.hid (kindT_yes eq)
        refine plan_last (by rfl) (fun K hK => ?_)
        go_simp
        refine hK _ _ (.inr (H2.out.p2.elem HW0.out rfl)) ?_
        clear hK K
        try simp only [Act.put, List.getElem_toArray, List.getElem_cons_succ, List.getElem_cons_zero, List.setIfInBounds_toArray, List.set_cons_zero, List.set_cons_succ]
        refine plan_done ?_
        have H3 := Lib.hid H2.out.drop
        clear H2
        obtain ⟨r0, r1, r2⟩ := H3.out.cells3
        have rf := H3.out.free
        have F0 := H3.out.set (i := 0) (.int .i64 ((j : Int) + 1))
        simp only [List.setIfInBounds_toArray, List.set_cons_zero] at F0
        have F := Lib.hid F0
        clear eq F0 gn
        go_wp2
        go_roundw
        case rel => exact ⟨j + 1, by omega, by go_num, by rw [KT.out]; simpa using F.out⟩
        case measure => simp [intOf]; omega
      · have bq : (nameB (j + 1) == x0) = false := by simpa using eq
        have KT := Lib.hid (kindT_no eq)
        refine plan_last (by rfl) (fun K hK => ?_)
        go_simp
        refine hK _ _ (.inr (H2.out.p2.elem HW0.out rfl)) ?_
        clear hK K
        try simp only [Act.put, List.getElem_toArray, List.getElem_cons_succ, List.getElem_cons_zero, List.setIfInBounds_toArray, List.set_cons_zero, List.set_cons_succ]
        refine plan_done ?_
        have H3 := Lib.hid H2.out.drop
        clear H2
        clear eq gn
        go_wp2
        go_roundw
        case rel => exact ⟨j + 1, by omega, by go_num, by rw [KT.out]; exact H3.out⟩
        case measure => simp [intOf]; omega
    · obtain rfl : j = 10 := by omega
      have LW' := LW.out
      by_cases h1 : 1 < ws.length
      case neg =>
        have l1 : ws.length = 1 := by have := NG0.out; omega
        have RD : Hid (rawD s = ⟨kindT 10 x0, 0, 0⟩) := Lib.hid (by rw [RW.out, G0.out, if_neg (by omega), if_neg (by omega)]; rfl)
        have z0 : decide ((1 : Int) < (ws.length : Int)) = false := by simp; omega
        have z1 : decide ((2 : Int) < (ws.length : Int)) = false := by simp; omega
        clear RW SL h1
        by_cases e : s = []
        · have R : Hid (readD s = Option.none) := Lib.hid (by unfold readD; rw [if_pos (.inl e)])
          obtain ⟨r0, r1, r2⟩ := H.out.p2.cells3
          have rf := H.out.p2.free
          have F0 := H.out.p2.set3 (.int .i64 0) (.int .i64 0) (.int .i64 0)
          obtain ⟨d0, d1, d2⟩ := F0.cells3
          subst e
          go_wp2
          exact bodyPost_ret (v := readV' Option.none) (by simp [results, Tryd.results13, go_sem, d0, d1, d2, readV']) rfl ⟨by rw [R.out], F0.drop.drop.drop⟩
        · have ee : s.isEmpty = false := by cases s with
            | nil => exact absurd rfl e
            | cons a b => rfl
          have eb : (s == []) = false := by simpa using e
          by_cases h30 : 30 < s.length
          · have R : Hid (readD s = Option.none) := Lib.hid (by unfold readD; rw [if_pos (.inr (.inl h30))])
            have g30 : decide ((30 : Int) < (s.length : Int)) = true := by simp; omega
            obtain ⟨r0, r1, r2⟩ := H.out.p2.cells3
            have rf := H.out.p2.free
            have F0 := H.out.p2.set3 (.int .i64 0) (.int .i64 0) (.int .i64 0)
            obtain ⟨d0, d1, d2⟩ := F0.cells3
            clear h30 e
            go_wp2
            exact bodyPost_ret (v := readV' Option.none) (by simp [results, Tryd.results13, go_sem, d0, d1, d2, readV']) rfl ⟨by rw [R.out], F0.drop.drop.drop⟩
          · have g30 : decide ((30 : Int) < (s.length : Int)) = false := by simp; omega
            obtain ⟨c0, c1, c2⟩ := H.out.cells3
            have KD := Lib.hid (spDeedText_at H.out (kindT 10 x0) 0 0)
            have LS := Lib.hid (show (⟨s.toArray⟩ : ByteArray).toList = s by rw [Go.ByteArray.toList_eq])
            by_cases et : textD (rawD s) = s
            · have R : Hid (readD s = some (rawD s)) := Lib.hid (by unfold readD; rw [if_neg]; rintro (q | q | q); exact e q; exact h30 q; exact q et)
              rw [RD.out] at R et
              have tb : (textD ⟨(kindT 10 x0), 0, 0⟩ == s) = true := by simpa using et
              clear h30 e et
              go_wp2_with fail
              refine KD.out.mono ?_
              rintro e w3 ⟨rfl, h'⟩
              clear c0 c1 c2 KD H
              obtain ⟨c0, c1, c2⟩ := h'.cells3
              obtain ⟨r0, r1, r2⟩ := h'.p2.cells3
              have rf := h'.p2.free
              have F0 := h'.p2.set3 (.int .i64 ((kindT 10 x0))) (.int .i64 (0)) (.int .i64 (0))
              obtain ⟨d0, d1, d2⟩ := F0.cells3
              go_wp2
              exact bodyPost_ret (v := readV' (some ⟨(kindT 10 x0), 0, 0⟩)) (by simp [results, Tryd.results13, go_sem, d0, d1, d2, readV']) rfl ⟨by rw [R.out], F0.drop.drop.drop⟩
            · have R : Hid (readD s = Option.none) := Lib.hid (by unfold readD; rw [if_pos (.inr (.inr et))])
              rw [RD.out] at et
              have tb : (textD ⟨(kindT 10 x0), 0, 0⟩ == s) = false := by simpa using et
              clear h30 e et
              go_wp2_with fail
              refine KD.out.mono ?_
              rintro e w3 ⟨rfl, h'⟩
              clear c0 c1 c2 KD H
              obtain ⟨r0, r1, r2⟩ := h'.p2.cells3
              have rf := h'.p2.free
              have F0 := h'.p2.set3 (.int .i64 0) (.int .i64 0) (.int .i64 0)
              obtain ⟨d0, d1, d2⟩ := F0.cells3
              go_wp2
              exact bodyPost_ret (v := readV' Option.none) (by simp [results, Tryd.results13, go_sem, d0, d1, d2, readV']) rfl ⟨by rw [R.out], F0.drop.drop.drop⟩
      obtain ⟨x1, W1⟩ : ∃ x1, ws[1]? = some x1 := ⟨_, List.getElem?_eq_getElem h1⟩
      have G1 : Hid (ws.getD 1 [] = x1) := Lib.hid (by rw [List.getD_eq_getElem?_getD, W1]; rfl)
      have KN := Lib.hid (spNum_at x1 (SL.out _ (List.mem_of_getElem? W1)))
      have e1 := H.out.p1.elem W1 rfl
      have z0 : decide ((1 : Int) < (ws.length : Int)) = true := by simp; omega
      have H0 := H
      clear H
      obtain ⟨q0, q1, q2⟩ := H0.out.cells3
      have qf := H0.out.free
      clear W1
      have HN := Lib.hid h1
      clear q0 q2
      go_wp2_with fail
      refine (KN.out _).mono ?_
      rintro e w3 ⟨rfl, rfl⟩
      have F1 := H0.out.set (i := 1) (.int .i64 (numB x1))
      simp only [List.setIfInBounds_toArray, List.set_cons_zero, List.set_cons_succ] at F1
      have H := Lib.hid F1
      clear F1 H0 KN
      by_cases h2 : 2 < ws.length
      case neg =>
        have l1 : ws.length = 2 := by omega
        have RD : Hid (rawD s = ⟨kindT 10 x0, numB x1, 0⟩) := Lib.hid (by rw [RW.out, G0.out, G1.out, if_pos (by omega), if_neg (by omega)]; rfl)
        have z1 : decide ((2 : Int) < (ws.length : Int)) = false := by simp; omega
        clear RW SL h1 h2
        by_cases e : s = []
        · have R : Hid (readD s = Option.none) := Lib.hid (by unfold readD; rw [if_pos (.inl e)])
          obtain ⟨r0, r1, r2⟩ := H.out.p2.cells3
          have rf := H.out.p2.free
          have F0 := H.out.p2.set3 (.int .i64 0) (.int .i64 0) (.int .i64 0)
          obtain ⟨d0, d1, d2⟩ := F0.cells3
          subst e
          go_wp2
          exact bodyPost_ret (v := readV' Option.none) (by simp [results, Tryd.results13, go_sem, d0, d1, d2, readV']) rfl ⟨by rw [R.out], F0.drop.drop.drop⟩
        · have ee : s.isEmpty = false := by cases s with
            | nil => exact absurd rfl e
            | cons a b => rfl
          have eb : (s == []) = false := by simpa using e
          by_cases h30 : 30 < s.length
          · have R : Hid (readD s = Option.none) := Lib.hid (by unfold readD; rw [if_pos (.inr (.inl h30))])
            have g30 : decide ((30 : Int) < (s.length : Int)) = true := by simp; omega
            obtain ⟨r0, r1, r2⟩ := H.out.p2.cells3
            have rf := H.out.p2.free
            have F0 := H.out.p2.set3 (.int .i64 0) (.int .i64 0) (.int .i64 0)
            obtain ⟨d0, d1, d2⟩ := F0.cells3
            clear h30 e
            go_wp2
            exact bodyPost_ret (v := readV' Option.none) (by simp [results, Tryd.results13, go_sem, d0, d1, d2, readV']) rfl ⟨by rw [R.out], F0.drop.drop.drop⟩
          · have g30 : decide ((30 : Int) < (s.length : Int)) = false := by simp; omega
            obtain ⟨c0, c1, c2⟩ := H.out.cells3
            have KD := Lib.hid (spDeedText_at H.out (kindT 10 x0) (numB x1) (0))
            have LS := Lib.hid (show (⟨s.toArray⟩ : ByteArray).toList = s by rw [Go.ByteArray.toList_eq])
            by_cases et : textD (rawD s) = s
            · have R : Hid (readD s = some (rawD s)) := Lib.hid (by unfold readD; rw [if_neg]; rintro (q | q | q); exact e q; exact h30 q; exact q et)
              rw [RD.out] at R et
              have tb : (textD ⟨(kindT 10 x0), numB x1, 0⟩ == s) = true := by simpa using et
              clear h30 e et
              go_wp2_with fail
              refine KD.out.mono ?_
              rintro e w3 ⟨rfl, h'⟩
              clear c0 c1 c2 KD H
              obtain ⟨c0, c1, c2⟩ := h'.cells3
              obtain ⟨r0, r1, r2⟩ := h'.p2.cells3
              have rf := h'.p2.free
              have F0 := h'.p2.set3 (.int .i64 (kindT 10 x0)) (.int .i64 (numB x1)) (.int .i64 (0))
              obtain ⟨d0, d1, d2⟩ := F0.cells3
              go_wp2
              exact bodyPost_ret (v := readV' (some ⟨(kindT 10 x0), numB x1, 0⟩)) (by simp [results, Tryd.results13, go_sem, d0, d1, d2, readV']) rfl ⟨by rw [R.out], F0.drop.drop.drop⟩
            · have R : Hid (readD s = Option.none) := Lib.hid (by unfold readD; rw [if_pos (.inr (.inr et))])
              rw [RD.out] at et
              have tb : (textD ⟨(kindT 10 x0), numB x1, 0⟩ == s) = false := by simpa using et
              clear h30 e et
              go_wp2_with fail
              refine KD.out.mono ?_
              rintro e w3 ⟨rfl, h'⟩
              clear c0 c1 c2 KD H
              obtain ⟨r0, r1, r2⟩ := h'.p2.cells3
              have rf := h'.p2.free
              have F0 := h'.p2.set3 (.int .i64 0) (.int .i64 0) (.int .i64 0)
              obtain ⟨d0, d1, d2⟩ := F0.cells3
              go_wp2
              exact bodyPost_ret (v := readV' Option.none) (by simp [results, Tryd.results13, go_sem, d0, d1, d2, readV']) rfl ⟨by rw [R.out], F0.drop.drop.drop⟩
      obtain ⟨x2, W2⟩ : ∃ x2, ws[2]? = some x2 := ⟨_, List.getElem?_eq_getElem h2⟩
      have G2 : Hid (ws.getD 2 [] = x2) := Lib.hid (by rw [List.getD_eq_getElem?_getD, W2]; rfl)
      have KN := Lib.hid (spNum_at x2 (SL.out _ (List.mem_of_getElem? W2)))
      have e2 := H.out.p1.elem W2 rfl
      have z1 : decide ((2 : Int) < (ws.length : Int)) = true := by simp; omega
      have RD : Hid (rawD s = ⟨kindT 10 x0, numB x1, numB x2⟩) := Lib.hid (by rw [RW.out, G0.out, G1.out, G2.out, if_pos (by omega), if_pos (by omega)]; rfl)
      have H0 := H
      clear H
      obtain ⟨q0, q1', q2⟩ := H0.out.cells3
      have qf' := H0.out.free
      clear W2 q0 q1'
      go_wp2_with fail
      refine (KN.out _).mono ?_
      rintro e w3 ⟨rfl, rfl⟩
      have F2 := H0.out.set (i := 2) (.int .i64 (numB x2))
      simp only [List.setIfInBounds_toArray, List.set_cons_zero, List.set_cons_succ] at F2
      have H := Lib.hid F2
      clear F2 H0 KN RW SL h1 h2
      by_cases e : s = []
      · have R : Hid (readD s = Option.none) := Lib.hid (by unfold readD; rw [if_pos (.inl e)])
        obtain ⟨r0, r1, r2⟩ := H.out.p2.cells3
        have rf := H.out.p2.free
        have F0 := H.out.p2.set3 (.int .i64 0) (.int .i64 0) (.int .i64 0)
        obtain ⟨d0, d1, d2⟩ := F0.cells3
        subst e
        go_wp2
        exact bodyPost_ret (v := readV' Option.none) (by simp [results, Tryd.results13, go_sem, d0, d1, d2, readV']) rfl ⟨by rw [R.out], F0.drop.drop.drop⟩
      · have ee : s.isEmpty = false := by cases s with
          | nil => exact absurd rfl e
          | cons a b => rfl
        have eb : (s == []) = false := by simpa using e
        by_cases h30 : 30 < s.length
        · have R : Hid (readD s = Option.none) := Lib.hid (by unfold readD; rw [if_pos (.inr (.inl h30))])
          have g30 : decide ((30 : Int) < (s.length : Int)) = true := by simp; omega
          obtain ⟨r0, r1, r2⟩ := H.out.p2.cells3
          have rf := H.out.p2.free
          have F0 := H.out.p2.set3 (.int .i64 0) (.int .i64 0) (.int .i64 0)
          obtain ⟨d0, d1, d2⟩ := F0.cells3
          clear h30 e
          go_wp2
          exact bodyPost_ret (v := readV' Option.none) (by simp [results, Tryd.results13, go_sem, d0, d1, d2, readV']) rfl ⟨by rw [R.out], F0.drop.drop.drop⟩
        · have g30 : decide ((30 : Int) < (s.length : Int)) = false := by simp; omega
          obtain ⟨c0, c1, c2⟩ := H.out.cells3
          have KD := Lib.hid (spDeedText_at H.out (kindT 10 x0) (numB x1) (numB x2))
          have LS := Lib.hid (show (⟨s.toArray⟩ : ByteArray).toList = s by rw [Go.ByteArray.toList_eq])
          by_cases et : textD (rawD s) = s
          · have R : Hid (readD s = some (rawD s)) := Lib.hid (by unfold readD; rw [if_neg]; rintro (q | q | q); exact e q; exact h30 q; exact q et)
            rw [RD.out] at R et
            have tb : (textD ⟨(kindT 10 x0), numB x1, numB x2⟩ == s) = true := by simpa using et
            clear h30 e et
            go_wp2_with fail
            refine KD.out.mono ?_
            rintro e w3 ⟨rfl, h'⟩
            clear c0 c1 c2 KD H
            obtain ⟨c0, c1, c2⟩ := h'.cells3
            obtain ⟨r0, r1, r2⟩ := h'.p2.cells3
            have rf := h'.p2.free
            have F0 := h'.p2.set3 (.int .i64 (kindT 10 x0)) (.int .i64 (numB x1)) (.int .i64 (numB x2))
            obtain ⟨d0, d1, d2⟩ := F0.cells3
            go_wp2
            exact bodyPost_ret (v := readV' (some ⟨(kindT 10 x0), numB x1, numB x2⟩)) (by simp [results, Tryd.results13, go_sem, d0, d1, d2, readV']) rfl ⟨by rw [R.out], F0.drop.drop.drop⟩
          · have R : Hid (readD s = Option.none) := Lib.hid (by unfold readD; rw [if_pos (.inr (.inr et))])
            rw [RD.out] at et
            have tb : (textD ⟨(kindT 10 x0), numB x1, numB x2⟩ == s) = false := by simpa using et
            clear h30 e et
            go_wp2_with fail
            refine KD.out.mono ?_
            rintro e w3 ⟨rfl, h'⟩
            clear c0 c1 c2 KD H
            obtain ⟨r0, r1, r2⟩ := h'.p2.cells3
            have rf := h'.p2.free
            have F0 := h'.p2.set3 (.int .i64 0) (.int .i64 0) (.int .i64 0)
            obtain ⟨d0, d1, d2⟩ := F0.cells3
            go_wp2
            exact bodyPost_ret (v := readV' Option.none) (by simp [results, Tryd.results13, go_sem, d0, d1, d2, readV']) rfl ⟨by rw [R.out], F0.drop.drop.drop⟩
end
end N
end Go.Proofs.YtbnggcgojbkoaaaDoor
