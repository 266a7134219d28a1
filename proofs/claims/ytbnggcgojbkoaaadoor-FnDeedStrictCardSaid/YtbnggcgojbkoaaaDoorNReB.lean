/-
  The program's reading of deeds: mustRead.
-/
import Derived.Test.YtbnggcgojbkoaaaDoorNReA
import Derived.Test.YtbnggcgojbkoaaaDoorNo
set_option linter.unusedVariables false
set_option linter.unusedSectionVars false
set_option linter.unusedSimpArgs false
namespace Go.Proofs.YtbnggcgojbkoaaaDoor
open Go.RowKit Go.Sort
namespace N
/-- The library's own variables are as they are laid, in every world from w0 on that changes nothing below B. -/
structure LibOk (B : Nat) (w0 : World) : Prop where
  err : ∀ w, Below B w0 w → ErrVars w
  len : ∀ w, Below B w0 w → ∃ m : Int, w.cell? ⟨Tryd.lays146_ren.g 1, 0, Option.none⟩ = some (.int .i64 m)
section
variable {B p : Nat} {w0 w : World} {l : List Ch}
def wordsB (ws : List Bs) : Array Value := (ws.map fun x => Value.string ⟨x.toArray⟩).toArray
theorem wordsB_get {ws : List Bs} {i : Nat} {x : Bs} (h : ws[i]? = some x) : (wordsB ws)[i]? = some (.string ⟨x.toArray⟩) := by
  unfold wordsB
  rw [List.getElem?_toArray, List.getElem?_map, h]; rfl
theorem split_at (h : M B w0 w l) (hE : LibOk B w0) (s : Bs) (hs : s.length ≤ 4000000) (c : UInt8) : Calls Tryd.prog 35 #[.string ⟨s.toArray⟩, .string ⟨#[c]⟩] w fun e w' => ∃ b, e = .returned (.slice (some ⟨b, 0, Option.none⟩) (splitB c s).length (splitB c s).length) ∧ M B w0 w' (boxC b 9 (wordsB (splitB c s)) :: l) := by
  obtain ⟨m, hm⟩ := hE.len w h.below
  refine (Any.strings_Split Tryd.lays146 (by kernel_rfl) ⟨s.toArray⟩ ⟨#[c]⟩ m w (by show s.toArray.size < _; simp; omega) hm (Nat.le_refl 1)).mono fun e w' ⟨he, hw⟩ => ⟨w.heap.size, he.trans ?_, ?_⟩
  · have e := split_len ⟨s.toArray⟩ c
    rw [e]
  · subst hw
    have e := split_cells ⟨s.toArray⟩ c
    rw [e]
    exact h.alloc (wordsB (splitB c s)) 9
theorem must_long {s : Bs} (h : 30 < s.length) : mustR s = Option.none := by unfold mustR; rw [if_pos h]
theorem must_short {s : Bs} (h : ¬ 30 < s.length) : mustR s = readW (splitB 32 s) := by unfold mustR; rw [if_neg h]
theorem field_form (a b : Value) (w : World) : (Instr.field 44 (.agg #[a, b]) 1).run Tryd.prog w = .ok b w := by
  simp [go_sem, Instr.field, asAgg]
section
variable {x y z : Bs} {ws : List Bs} {k : Int}
theorem read_len (hk : k = kindB x) (k1 : 1 ≤ k) (hl : ws.length ≠ sizeK k) : readW (x :: ws) = Option.none := by
  unfold readW
  simp only [List.getD_cons_zero]
  rw [← hk, if_neg (by omega), if_pos (by simp; omega)]
theorem read_zero (hk : k = kindB x) (k1 : 1 ≤ k) (q : sizeK k = 0) : readW [x] = some ⟨k, 0, 0⟩ := by
  unfold readW
  simp only [List.getD_cons_zero]
  rw [← hk, if_neg (by omega), if_neg (by simp; omega), if_pos q]
theorem read_one (hk : k = kindB x) (k1 : 1 ≤ k) (q : sizeK k = 1) : readW [x, y] = match numR y with
    | Option.none => Option.none
    | some a => some ⟨k, a, 0⟩ := by
  unfold readW
  simp only [List.getD_cons_zero, List.getD_cons_succ]
  rw [← hk, if_neg (by omega), if_neg (by simp; omega), if_neg (by omega)]
  cases numR y with
  | none => rfl
  | some a => simp only [if_pos q]
theorem read_two (hk : k = kindB x) (k1 : 1 ≤ k) (q : sizeK k = 2) : readW [x, y, z] = match numR y with
    | Option.none => Option.none
    | some a => match numR z with
      | Option.none => Option.none
      | some b => some ⟨k, a, b⟩ := by
  unfold readW
  simp only [List.getD_cons_zero, List.getD_cons_succ]
  rw [← hk, if_neg (by omega), if_neg (by simp; omega), if_neg (by omega)]
  cases numR y with
  | none => rfl
  | some a =>
    simp only [if_neg (show ¬ sizeK k = 1 by omega)]
    cases numR z <;> rfl
end
def deedV (d : De) : Value := .agg #[.int .i64 d.kind, .int .i64 d.a, .int .i64 d.b]
set_option maxRecDepth 100000 in
set_option maxHeartbeats 8000000 in
theorem mustRead_at (h : M B w0 w l) (hE : LibOk B w0) (s : Bs) (hs : s.length ≤ 4000000) : Calls Tryd.prog 27 #[.string ⟨s.toArray⟩] w fun e w' => M B w0 w' l ∧ Ans (mustR s) deedV e := by
  have H0 := Lib.hid (h.alloc #[.int .i64 0, .int .i64 0, .int .i64 0] 24)
  clear h
  by_cases h30 : 30 < s.length
  · have F := Lib.hid (ans_none (v := deedV) (must_long h30))
    have g : decide ((30 : Int) < (s.length : Int)) = true := by simp; omega
    clear h30
    go_enter Tryd.func27, Tryd.ntmps27
    go_wp2
    exact ⟨rfl, H0.out.drop, F.out⟩
  have MS := Lib.hid (must_short h30)
  have g : decide ((30 : Int) < (s.length : Int)) = false := by simp; omega
  obtain ⟨x, ws, hw⟩ : ∃ x ws, splitB 32 s = x :: ws := by
    cases q : splitB 32 s with
    | nil => exact absurd q (split_ne _ _)
    | cons w ws => exact ⟨w, ws, rfl⟩
  have KS := Lib.hid (split_at H0.out hE s hs 32)
  rw [hw] at KS MS
  have LW : Hid (ws.length ≤ 40) := Lib.hid (by
    have e := congrArg List.length (join_split 32 s)
    have : ∀ l : List Bs, l.length ≤ (joinB 32 l).length + 1 := by
      intro l
      induction l with
      | nil => simp
      | cons a l ih =>
        cases l with
        | nil => simp [joinB]
        | cons b l =>
          have : joinB 32 (a :: b :: l) = a ++ 32 :: joinB 32 (b :: l) := rfl
          rw [this]
          simp only [List.length_append, List.length_cons] at ih ⊢
          omega
    have t := this (splitB 32 s)
    rw [e, hw] at t
    simp at t
    omega)
  have SL : Hid (∀ y ∈ x :: ws, y.length ≤ 1000) := Lib.hid (by
    intro y hy
    have key : ∀ (l : List Bs), y ∈ l → y.length ≤ (joinB 32 l).length := by
      intro l
      induction l with
      | nil => intro h; cases h
      | cons a l ih =>
        intro h
        cases l with
        | nil =>
          rcases List.mem_cons.1 h with rfl | h
          · exact Nat.le_refl _
          · cases h
        | cons b l =>
          have e : joinB 32 (a :: b :: l) = a ++ 32 :: joinB 32 (b :: l) := rfl
          rw [e]
          rcases List.mem_cons.1 h with rfl | h
          · simp
          · have := ih h
            simp only [List.length_append, List.length_cons]
            omega
    have t := key _ hy
    rw [← hw, join_split] at t
    omega)
  clear h30 hw hs
  go_enter Tryd.func27, Tryd.ntmps27
  go_wp2_with fail
  refine KS.out.mono ?_
  rintro e w1 ⟨wb, rfl, h1⟩
  have H1 := Lib.hid h1
  clear h1 KS H0 g
  have c0 := H1.out.cell (wordsB_get (ws := x :: ws) (i := 0) rfl)
  go_wp2_with fail
  refine (kindRead_at H1.out x).mono ?_
  rintro e w2 ⟨h2, he⟩
  have H2 := Lib.hid h2
  clear h2 c0 H1
  unfold Ans kindO at he
  by_cases k1 : kindB x < 1
  · rw [if_pos k1] at he
    subst he
    have F := Lib.hid (ans_none (v := deedV) (MS.out.trans (show readW (x :: ws) = Option.none by unfold readW; simp [k1])))
    unfold unread
    go_wp2
    exact ⟨rfl, H2.out.drop.drop, F.out⟩
  · rw [if_neg k1] at he
    have kr := kind_range x
    obtain ⟨k, hk⟩ : ∃ k, k = kindB x := ⟨_, rfl⟩
    rw [← hk] at he k1 kr
    subst he
    have k11 : 1 ≤ k ∧ k ≤ 10 := ⟨by omega, kr.2⟩
    have HK := Lib.hid hk
    have H3 := Lib.hid (H2.out.alloc #[.int .i64 k, .int .i64 0, .int .i64 0] 24)
    clear H2 kr k1 hk
    obtain ⟨db, hdb⟩ : ∃ db, db = w2.heap.size := ⟨_, rfl⟩
    have IX := Lib.hid (fun W => index_form (p := db) k11 W)
    obtain ⟨F, hF⟩ : ∃ F, F = if sizeK k = 2 then 31 else if sizeK k = 0 then 33 else 32 := ⟨_, rfl⟩
    rw [← hF] at IX
    have HF := Lib.hid hF
    clear hF
    have KF := Lib.hid (fun (l : List Ch) (w : World) (h : M B w0 w l) => forms_at (p := db) h)
    rw [← hdb] at H3
    have HDB := Lib.hid hdb
    clear hdb
    go_upto_region 5 with fail
    rw [← HDB.out]
    refine wp_region_plan 6 (.take 1 (.take 2 (.alt 0 (.take 3 (.take 4 (.alt 5 (.alt 6 .done .nomore) .nomore))) .nomore))) (fun w' => w'.cell? ⟨db, 0, Option.none⟩ = some (.int .i64 k)) (by kernel_rfl) (by kernel_rfl) (fun _ _ _ _ _ h => h) (H3.out.drew.cell rfl) ?_
    repeat (first | (refine plan_take (by rfl) (by rfl) ?_; apply Exists.intro; refine ⟨fun w' hw' => ?_, ?_⟩; (· ((try dsimp only at hw'); go_simp; (try with_reducible rfl))); simp only [Act.put, List.getElem_toArray, List.getElem_cons_succ, List.getElem_cons_zero, List.setIfInBounds_toArray, List.set_cons_zero, List.set_cons_succ]) | (refine plan_skip (by rfl) (by rfl) ?_; simp only [Act.put, List.getElem_toArray, List.getElem_cons_succ, List.getElem_cons_zero, List.setIfInBounds_toArray, List.set_cons_zero, List.set_cons_succ]))
    refine plan_last (by rfl) (fun K' hK => ?_)
    go_simp
    refine (KF.out _ _ H3.out.drew).mono ?_
    rintro e w4 ⟨rfl, h4⟩
    have H4 := Lib.hid h4
    clear h4 H3
    have ix := IX.out
    have fl := field_form
    refine hK _ _ (.inr (H4.out.cell rfl)) ?_
    clear hK K'
    try simp only [Act.put, List.getElem_toArray, List.getElem_cons_succ, List.getElem_cons_zero, List.setIfInBounds_toArray, List.set_cons_zero, List.set_cons_succ]
    repeat (first | (refine plan_take (by rfl) (by rfl) ?_; apply Exists.intro; refine ⟨fun w' hw' => ?_, ?_⟩; (· ((try dsimp only at hw'); go_simp; (try with_reducible rfl))); simp only [Act.put, List.getElem_toArray, List.getElem_cons_succ, List.getElem_cons_zero, List.setIfInBounds_toArray, List.set_cons_zero, List.set_cons_succ]) | (refine plan_skip (by rfl) (by rfl) ?_; simp only [Act.put, List.getElem_toArray, List.getElem_cons_succ, List.getElem_cons_zero, List.setIfInBounds_toArray, List.set_cons_zero, List.set_cons_succ]))
    clear ix fl
    have sz := size_le k
    have LC : Hid (∀ m : Nat, m ≤ 2 → ws.length ≠ m → ((ws.length : Int) + 1 != 1 + (m : Int)) = true) := Lib.hid fun m _ h => by simp; omega
    obtain q | q | q : sizeK k = 0 ∨ sizeK k = 1 ∨ sizeK k = 2 := by omega
    · have hF := HF.out
      rw [if_neg (by omega), if_pos q] at hF
      subst hF
      clear HF IX KF
      refine plan_last (by rfl) (fun K' hK => ?_)
      unfold fnV
      go_simp
      refine (none_at H4.out).mono ?_
      rintro e w5 ⟨rfl, h5⟩
      have H5 := Lib.hid h5
      clear h5 H4
      refine hK _ _ (.inr (H5.out.cell rfl)) ?_
      clear hK K'
      try simp only [Act.put, List.getElem_toArray, List.getElem_cons_succ, List.getElem_cons_zero, List.setIfInBounds_toArray, List.set_cons_zero, List.set_cons_succ]
      refine plan_last (by rfl) (fun K hK => ?_)
      go_simp
      refine hK _ _ (.inl rfl) ?_
      clear hK K
      try simp only [Act.put, List.getElem_toArray, List.getElem_cons_succ, List.getElem_cons_zero, List.setIfInBounds_toArray, List.set_cons_zero, List.set_cons_succ]
      refine plan_done ?_
      by_cases hl : ws.length = 0
      · obtain rfl := List.eq_nil_of_length_eq_zero hl
        have F := Lib.hid (ans_some (v := deedV) (MS.out.trans (read_zero HK.out k11.1 q)))
        obtain ⟨c0, c1, c2⟩ := H5.out.cells3
        obtain ⟨r0, r1, r2⟩ := H5.out.p2.cells3
        have rf := H5.out.p2.free
        have FF := Lib.hid (H5.out.p2.set3 (.int .i64 k) (.int .i64 0) (.int .i64 0))
        clear hl
        go_wp2
        refine wp_loop_rounds 1 ?_
        rw [rounds_succ]
        go_wp2
        obtain ⟨d0, d1, d2⟩ := FF.out.cells3
        exact bodyPost_ret (v := .agg #[.int .i64 k, .int .i64 0, .int .i64 0]) (by simp [results, Tryd.results27, go_sem, d0, d1, d2]) rfl ⟨FF.out.drop.drop.drop, F.out⟩
      · have F := Lib.hid (ans_none (v := deedV) (MS.out.trans (read_len HK.out k11.1 (by omega))))
        have gl : ((ws.length : Int) + 1 != 1) = true := by have := LC.out 0 (by omega) hl; simpa using this
        clear hl
        go_wp2
        exact ⟨rfl, H5.out.drop.drop.drop, F.out⟩
    · have hF := HF.out
      rw [if_neg (by omega), if_neg (by omega)] at hF
      subst hF
      clear HF IX KF
      refine plan_last (by rfl) (fun K' hK => ?_)
      unfold fnV
      go_simp
      refine (onlyA_at H4.out).mono ?_
      rintro e w5 ⟨pb, rfl, h5⟩
      have H5 := Lib.hid h5
      clear h5 H4
      refine hK _ _ (.inr (H5.out.p1.cell rfl)) ?_
      clear hK K'
      try simp only [Act.put, List.getElem_toArray, List.getElem_cons_succ, List.getElem_cons_zero, List.setIfInBounds_toArray, List.set_cons_zero, List.set_cons_succ]
      refine plan_last (by rfl) (fun K hK => ?_)
      go_simp
      refine hK _ _ (.inl rfl) ?_
      clear hK K
      try simp only [Act.put, List.getElem_toArray, List.getElem_cons_succ, List.getElem_cons_zero, List.setIfInBounds_toArray, List.set_cons_zero, List.set_cons_succ]
      refine plan_done ?_
      by_cases hl : ws.length = 1
      · obtain ⟨y, rfl⟩ : ∃ y, ws = [y] := by
          match ws, hl with
          | [y], _ => exact ⟨y, rfl⟩
        have RD := Lib.hid (MS.out.trans (read_one HK.out k11.1 q))
        have c0 := H5.out.cells1
        have wy := H5.out.p2.cell (wordsB_get (ws := [x, y]) (i := 1) (x := y) rfl)
        have KN := Lib.hid (numberRead_at H5.out y (SL.out y (by simp)) (hE.err _ H5.out.below))
        clear hl MS
        go_wp2
        refine wp_loop_rounds 2 ?_
        rw [rounds_succ]
        go_wp2_with fail
        refine KN.out.mono ?_
        rintro e w6 ⟨h6, he⟩
        have H6 := Lib.hid h6
        clear h6 KN c0 wy H5
        unfold Ans at he
        cases hn : numR y with
        | none =>
          rw [hn] at he
          subst he
          have F := Lib.hid (ans_none (v := deedV) (RD.out.trans (by rw [hn])))
          clear hn
          unfold unread
          go_wp2
          exact ⟨rfl, H6.out.drop.drop.drop.drop, F.out⟩
        | some a =>
          rw [hn] at he
          subst he
          have F := Lib.hid (ans_some (v := deedV) (RD.out.trans (by rw [hn])))
          clear hn
          obtain ⟨c0, c1, c2⟩ := H6.out.p1.cells3
          have cf := H6.out.p1.free
          have H7 := H6.out.p1.set (i := 1) (.int .i64 (a : Int))
          simp only [List.setIfInBounds_toArray, List.set_cons_zero, List.set_cons_succ] at H7
          have H8 := Lib.hid H7
          clear H7 H6
          go_wp2
          clear c0 c1 c2 cf
          generalize World.setCell _ ⟨db, 1, Option.none⟩ (.int .i64 (a : Int)) = w8 at H8 ⊢
          obtain ⟨c0, c1, c2⟩ := H8.out.cells3
          obtain ⟨r0, r1, r2⟩ := H8.out.p3.cells3
          have rf := H8.out.p3.free
          have FF := Lib.hid (H8.out.p3.set3 (.int .i64 k) (.int .i64 (a : Int)) (.int .i64 0))
          rw [rounds_succ]
          go_wp2
          obtain ⟨d0, d1, d2⟩ := FF.out.cells3
          exact bodyPost_ret (v := .agg #[.int .i64 k, .int .i64 (a : Int), .int .i64 0]) (by simp [results, Tryd.results27, go_sem, d0, d1, d2]) rfl ⟨FF.out.drop.drop.drop.drop, F.out⟩
      · have F := Lib.hid (ans_none (v := deedV) (MS.out.trans (read_len HK.out k11.1 (by omega))))
        have gl : ((ws.length : Int) + 1 != 2) = true := by have := LC.out 1 (by omega) hl; simpa using this
        clear hl
        go_wp2
        exact ⟨rfl, H5.out.drop.drop.drop.drop, F.out⟩
    · have hF := HF.out
      rw [if_pos q] at hF
      subst hF
      clear HF IX KF
      refine plan_last (by rfl) (fun K' hK => ?_)
      unfold fnV
      go_simp
      refine (both_at H4.out).mono ?_
      rintro e w5 ⟨pb, rfl, h5⟩
      have H5 := Lib.hid h5
      clear h5 H4
      refine hK _ _ (.inr (H5.out.p1.cell rfl)) ?_
      clear hK K'
      try simp only [Act.put, List.getElem_toArray, List.getElem_cons_succ, List.getElem_cons_zero, List.setIfInBounds_toArray, List.set_cons_zero, List.set_cons_succ]
      refine plan_last (by rfl) (fun K hK => ?_)
      go_simp
      refine hK _ _ (.inl rfl) ?_
      clear hK K
      try simp only [Act.put, List.getElem_toArray, List.getElem_cons_succ, List.getElem_cons_zero, List.setIfInBounds_toArray, List.set_cons_zero, List.set_cons_succ]
      refine plan_done ?_
      by_cases hl : ws.length = 2
      · obtain ⟨y, z, rfl⟩ : ∃ y z, ws = [y, z] := by
          match ws, hl with
          | [y, z], _ => exact ⟨y, z, rfl⟩
        have RD := Lib.hid (MS.out.trans (read_two HK.out k11.1 q))
        obtain ⟨c0, c1⟩ := H5.out.cells2
        have wy := H5.out.p2.cell (wordsB_get (ws := [x, y, z]) (i := 1) (x := y) rfl)
        have KN := Lib.hid (numberRead_at H5.out y (SL.out y (by simp)) (hE.err _ H5.out.below))
        clear hl MS
        go_wp2
        refine wp_loop_rounds 3 ?_
        rw [rounds_succ]
        go_wp2_with fail
        refine KN.out.mono ?_
        rintro e w6 ⟨h6, he⟩
        have H6 := Lib.hid h6
        clear h6 KN c0 c1 wy H5
        unfold Ans at he
        cases hn : numR y with
        | none =>
          rw [hn] at he
          subst he
          have F := Lib.hid (ans_none (v := deedV) (RD.out.trans (by rw [hn])))
          clear hn
          unfold unread
          go_wp2
          exact ⟨rfl, H6.out.drop.drop.drop.drop, F.out⟩
        | some a =>
          rw [hn] at he
          subst he
          have RD2 := Lib.hid (RD.out.trans (by rw [hn]))
          clear hn RD
          obtain ⟨c0, c1, c2⟩ := H6.out.p1.cells3
          have cf := H6.out.p1.free
          have H7 := H6.out.p1.set (i := 1) (.int .i64 (a : Int))
          simp only [List.setIfInBounds_toArray, List.set_cons_zero, List.set_cons_succ] at H7
          have H8 := Lib.hid H7.p1
          clear H7 H6
          go_wp2
          clear c0 c1 c2 cf
          generalize World.setCell _ ⟨db, 1, Option.none⟩ (.int .i64 (a : Int)) = w8 at H8 ⊢
          obtain ⟨c0, c1⟩ := H8.out.cells2
          have wz := H8.out.p2.cell (wordsB_get (ws := [x, y, z]) (i := 2) (x := z) rfl)
          have KN := Lib.hid (numberRead_at H8.out z (SL.out z (by simp)) (hE.err _ H8.out.below))
          rw [rounds_succ]
          go_wp2_with fail
          refine KN.out.mono ?_
          rintro e w9 ⟨h9, he⟩
          have H9 := Lib.hid h9
          clear h9 KN c0 c1 wz H8
          unfold Ans at he
          cases hn : numR z with
          | none =>
            rw [hn] at he
            subst he
            have F := Lib.hid (ans_none (v := deedV) (RD2.out.trans (by rw [hn])))
            clear hn
            unfold unread
            go_wp2
            exact ⟨rfl, H9.out.drop.drop.drop.drop, F.out⟩
          | some b =>
            rw [hn] at he
            subst he
            have F := Lib.hid (ans_some (v := deedV) (RD2.out.trans (by rw [hn])))
            clear hn
            obtain ⟨c0, c1, c2⟩ := H9.out.p1.cells3
            have cf := H9.out.p1.free
            have H10 := H9.out.p1.set (i := 2) (.int .i64 (b : Int))
            simp only [List.setIfInBounds_toArray, List.set_cons_zero, List.set_cons_succ] at H10
            have H11 := Lib.hid H10
            clear H10 H9
            go_wp2
            clear c0 c1 c2 cf
            generalize World.setCell _ ⟨db, 2, Option.none⟩ (.int .i64 (b : Int)) = w11 at H11 ⊢
            obtain ⟨c0, c1, c2⟩ := H11.out.cells3
            obtain ⟨r0, r1, r2⟩ := H11.out.p3.cells3
            have rf := H11.out.p3.free
            have FF := Lib.hid (H11.out.p3.set3 (.int .i64 k) (.int .i64 (a : Int)) (.int .i64 (b : Int)))
            rw [rounds_succ]
            go_wp2
            obtain ⟨d0, d1, d2⟩ := FF.out.cells3
            exact bodyPost_ret (v := .agg #[.int .i64 k, .int .i64 (a : Int), .int .i64 (b : Int)]) (by simp [results, Tryd.results27, go_sem, d0, d1, d2]) rfl ⟨FF.out.drop.drop.drop.drop, F.out⟩
      · have F := Lib.hid (ans_none (v := deedV) (MS.out.trans (read_len HK.out k11.1 (by omega))))
        have gl : ((ws.length : Int) + 1 != 3) = true := by have := LC.out 2 (by omega) hl; simpa using this
        clear hl
        go_wp2
        exact ⟨rfl, H5.out.drop.drop.drop.drop, F.out⟩
end
end N
end Go.Proofs.YtbnggcgojbkoaaaDoor
