/-
  The program's DeedText.
-/
import Derived.Test.YtbnggcgojbkoaaaDoorNDeA
import Derived.Test.YtbnggcgojbkoaaaDoorShelf
import Derived.Deep.DeepCutAuto
set_option linter.unusedVariables false
set_option linter.unusedSectionVars false
set_option linter.unusedSimpArgs false
namespace Go.Proofs.YtbnggcgojbkoaaaDoor
open Go.RowKit Go.Sort
namespace N
section
variable {B p : Nat} {w0 w : World} {l : List Ch}
theorem both_at (h : M B w0 w l) : Calls Tryd.prog 31 #[pt p] w fun e w' => ∃ b, e = .returned (.slice (some ⟨b, 0, none⟩) 2 2) ∧ M B w0 w' (boxC b 48 #[.pointer (some ⟨p, 1, none⟩), .pointer (some ⟨p, 2, none⟩)] :: l) := by
  unfold pt
  have H := Lib.hid h
  clear h
  go_enter Tryd.func31, Tryd.ntmps31
  go_wp2
  refine wp_region_plan 7 (.take 0 (.take 1 (.take 2 (.take 3 (.take 4 (.take 5 (.alt 6 (.alt 7 .done .nomore) .nomore))))))) (fun _ => True) (by kernel_rfl) (by kernel_rfl) (fun _ _ _ _ _ h => h) trivial ?_
  repeat (first | (refine plan_take (by rfl) (by rfl) ?_; apply Exists.intro; refine ⟨fun w' hw' => ?_, ?_⟩; (· ((try dsimp only at hw'); go_simp; (try with_reducible rfl))); simp only [Act.put, List.getElem_toArray, List.getElem_cons_succ, List.getElem_cons_zero, List.setIfInBounds_toArray, List.set_cons_zero, List.set_cons_succ]) | (refine plan_skip (by rfl) (by rfl) ?_; simp only [Act.put, List.getElem_toArray, List.getElem_cons_succ, List.getElem_cons_zero, List.setIfInBounds_toArray, List.set_cons_zero, List.set_cons_succ]))
  refine plan_last (by rfl) (fun K hK => ?_)
  go_simp
  have h2 := H.out.drew.alloc #[.pointer (some ⟨p, 1, none⟩), .pointer (some ⟨p, 2, none⟩)] 48
  refine hK _ _ (.inr trivial) ?_
  clear hK K
  try simp only [Act.put, List.getElem_toArray, List.getElem_cons_succ, List.getElem_cons_zero, List.setIfInBounds_toArray, List.set_cons_zero, List.set_cons_succ]
  refine plan_last (by rfl) (fun K hK => ?_)
  go_simp
  refine hK _ _ (.inl rfl) ?_
  clear hK K
  try simp only [Act.put, List.getElem_toArray, List.getElem_cons_succ, List.getElem_cons_zero, List.setIfInBounds_toArray, List.set_cons_zero, List.set_cons_succ]
  refine plan_done ?_
  go_wp2
  go_ret
  exact ⟨_, rfl, h2⟩
theorem onlyA_at (h : M B w0 w l) : Calls Tryd.prog 32 #[pt p] w fun e w' => ∃ b, e = .returned (.slice (some ⟨b, 0, none⟩) 1 1) ∧ M B w0 w' (boxC b 48 #[.pointer (some ⟨p, 1, none⟩)] :: l) := by
  unfold pt
  have h2 := h.alloc #[.pointer (some ⟨p, 1, none⟩)] 48
  go_enter Tryd.func32, Tryd.ntmps32
  go_wp2
  go_ret
  exact ⟨_, rfl, h2⟩
theorem none_at (h : M B w0 w l) : Calls Tryd.prog 33 #[pt p] w fun e w' => e = .returned (.slice Option.none 0 0) ∧ M B w0 w' l := by
  unfold pt
  go_enter Tryd.func33, Tryd.ntmps33
  go_wp2
  go_ret
  exact ⟨rfl, h⟩
theorem dec_digits : ∀ n : Fin 100, Lib.decDigits n.val = decB n.val := by decide +kernel
theorem itoa_at (z : Int) (h : 0 ≤ z ∧ z ≤ 99) (w : World) : Calls Tryd.prog 21 #[.int .i64 z] w fun e w' => e = .returned (.string ⟨(decB z.toNat).toArray⟩) ∧ w' = w := by
  have e1 : z = ((z.toNat : Nat) : Int) := by omega
  have k := Tryd.strconv_Itoa_small z.toNat (by omega) w
  rw [← e1, dec_digits ⟨z.toNat, by omega⟩] at k
  exact k
theorem written_at (z : Int) (w : World) : Calls Tryd.prog 20 #[.int .i64 z] w fun e w' => e = .returned (.bool (decide (0 ≤ z ∧ z ≤ 99))) ∧ w' = w := by
  by_cases h1 : 0 ≤ z
  · by_cases h2 : z ≤ 99
    · go_enter Tryd.func20, Tryd.ntmps20
      go_wp2
      go_ret
      exact ⟨by simp [h1, h2], rfl⟩
    · go_enter Tryd.func20, Tryd.ntmps20
      go_wp2
      go_ret
      exact ⟨by simp [h2], rfl⟩
  · go_enter Tryd.func20, Tryd.ntmps20
    go_wp2
    go_ret
    exact ⟨by simp; omega, rfl⟩
/-- A deed's text, where no number is too great. -/
theorem text_k {k a b : Int} (hk : 1 ≤ k ∧ k ≤ 10) : textD ⟨k, a, b⟩ = if (0 ≤ a ∧ a ≤ 99) ∧ (0 ≤ b ∧ b ≤ 99) ∧ (2 ≤ sizeK k ∨ b = 0) ∧ (1 ≤ sizeK k ∨ a = 0) then nameB k.toNat ++ ((if 1 ≤ sizeK k then 32 :: decB a.toNat else []) ++ (if 2 ≤ sizeK k then 32 :: decB b.toNat else [])) else [] := by
  unfold textD textOk
  simp only [Bool.and_eq_true, decide_eq_true_eq, hk.1, hk.2, true_and]
set_option maxRecDepth 100000 in
set_option maxHeartbeats 4000000 in
theorem imDeedText_at (h : M B w0 w l) (k a b : Int) : Calls Tryd.prog 9 #[.agg #[.int .i64 k, .int .i64 a, .int .i64 b]] w fun e w' => e = .returned (bsV (textD ⟨k, a, b⟩)) ∧ M B w0 w' l := by
  have H := Lib.hid (h.alloc #[.int .i64 k, .int .i64 a, .int .i64 b] 24)
  have H0 := Lib.hid h
  clear h
  by_cases hk : 1 ≤ k ∧ k ≤ 10
  · obtain ⟨k1, k2⟩ := hk
    obtain ⟨F, hF⟩ : ∃ F, F = if sizeK k = 2 then 31 else if sizeK k = 0 then 33 else 32 := ⟨_, rfl⟩
    have IX := Lib.hid (fun W => index_form (p := w.heap.size) ⟨k1, k2⟩ W)
    rw [← hF] at IX
    have HF := Lib.hid hF
    clear hF
    have nl : (nameB k.toNat).length ≤ 6 := by
      have := (name_all ⟨k.toNat, by omega⟩).2.2.1
      exact this
    have TX := Lib.hid (text_k (a := a) (b := b) ⟨k1, k2⟩)
    obtain ⟨c0, c1, c2⟩ := H.out.cells3
    go_enter Tryd.func9, Tryd.ntmps9
    go_upto_region 3 with fail
    go_cut [3] (fun v wx => ∃ b3, v = .pointer (some ⟨b3, 0, Option.none⟩) ∧ M B w0 wx (boxC b3 44 #[bsV (nameB k.toNat), fnV F w.heap.size] :: boxC w.heap.size 24 #[.int .i64 k, .int .i64 a, .int .i64 b] :: l))
    case first =>
      have FI : (Tryd.prog.info? 44).map (·.size) = some 2 := by kernel_rfl
      refine wp_region_plan 5 (.take 1 (.take 2 (.alt 0 (.take 3 (.alt 4 (.alt 5 .done .nomore) .nomore)) (.alt 4 (.alt 0 (.take 3 (.alt 5 .done .nomore)) .nomore) .nomore)))) (fun w' => w'.cell? ⟨w.heap.size, 0, Option.none⟩ = some (.int .i64 k)) (by kernel_rfl) (by kernel_rfl) (fun _ _ _ _ _ h => h) (H.out.drew.cell rfl) ?_
      repeat (first | (refine plan_take (by rfl) (by rfl) ?_; apply Exists.intro; refine ⟨fun w' hw' => ?_, ?_⟩; (· ((try dsimp only at hw'); go_simp; (try with_reducible rfl))); simp only [Act.put, List.getElem_toArray, List.getElem_cons_succ, List.getElem_cons_zero, List.setIfInBounds_toArray, List.set_cons_zero, List.set_cons_succ]) | (refine plan_skip (by rfl) (by rfl) ?_; simp only [Act.put, List.getElem_toArray, List.getElem_cons_succ, List.getElem_cons_zero, List.setIfInBounds_toArray, List.set_cons_zero, List.set_cons_succ]))
      refine plan_alt (by rfl) (fun K hK => ?_) ?_
      · go_simp
        have KF := Lib.hid (forms_at (p := w.heap.size) H.out.drew)
        unfold pt at KF
        refine KF.out.mono ?_
        rintro e w2 ⟨rfl, h2⟩
        have ix := IX.out
        refine hK _ _ (.inr (h2.cell rfl)) ?_
        clear hK K
        try simp only [Act.put, List.getElem_toArray, List.getElem_cons_succ, List.getElem_cons_zero, List.setIfInBounds_toArray, List.set_cons_zero, List.set_cons_succ]
        repeat (first | (refine plan_take (by rfl) (by rfl) ?_; apply Exists.intro; refine ⟨fun w' hw' => ?_, ?_⟩; (· ((try dsimp only at hw'); go_simp; (try with_reducible rfl))); simp only [Act.put, List.getElem_toArray, List.getElem_cons_succ, List.getElem_cons_zero, List.setIfInBounds_toArray, List.set_cons_zero, List.set_cons_succ]) | (refine plan_skip (by rfl) (by rfl) ?_; simp only [Act.put, List.getElem_toArray, List.getElem_cons_succ, List.getElem_cons_zero, List.setIfInBounds_toArray, List.set_cons_zero, List.set_cons_succ]))
        clear ix
        have h3 := h2.alloc #[.string ⟨#[]⟩, .nilFunc] 44
        refine plan_last (by rfl) (fun K hK => ?_)
        go_simp
        refine hK _ _ (.inr (h3.p1.cell rfl)) ?_
        clear hK K
        try simp only [Act.put, List.getElem_toArray, List.getElem_cons_succ, List.getElem_cons_zero, List.setIfInBounds_toArray, List.set_cons_zero, List.set_cons_succ]
        refine plan_last (by rfl) (fun K hK => step_storeWhole (vs := #[bsV (nameB k.toNat), fnV F w.heap.size]) FI h3 rfl (by simp [Value.oneCell']) rfl rfl rfl rfl (fun h4 => ?_))
        refine hK _ _ (.inl rfl) ?_
        clear hK K
        try simp only [Act.put, List.getElem_toArray, List.getElem_cons_succ, List.getElem_cons_zero, List.setIfInBounds_toArray, List.set_cons_zero, List.set_cons_succ]
        refine plan_done ?_
        go_wp2_with fail
        go_meet
        exact ⟨_, rfl, h4⟩
      · refine plan_last (by rfl) (fun K hK => ?_)
        go_simp
        have h3 := H.out.drew.alloc #[.string ⟨#[]⟩, .nilFunc] 44
        rw [show (w.alloc (.cells #[.int .i64 k, .int .i64 a, .int .i64 b] 24)).drew.heap.size = w.heap.size + 1 by simp [World.drew]] at h3
        refine hK _ _ (.inr (h3.p1.cell rfl)) ?_
        clear hK K
        try simp only [Act.put, List.getElem_toArray, List.getElem_cons_succ, List.getElem_cons_zero, List.setIfInBounds_toArray, List.set_cons_zero, List.set_cons_succ]
        refine plan_last (by rfl) (fun K hK => ?_)
        go_simp
        have KF := Lib.hid (forms_at (p := w.heap.size) h3)
        unfold pt at KF
        refine KF.out.mono ?_
        rintro e w2 ⟨rfl, h2⟩
        have ix := IX.out
        refine hK _ _ (.inr (h2.p1.cell rfl)) ?_
        clear hK K
        try simp only [Act.put, List.getElem_toArray, List.getElem_cons_succ, List.getElem_cons_zero, List.setIfInBounds_toArray, List.set_cons_zero, List.set_cons_succ]
        repeat (first | (refine plan_take (by rfl) (by rfl) ?_; apply Exists.intro; refine ⟨fun w' hw' => ?_, ?_⟩; (· ((try dsimp only at hw'); go_simp; (try with_reducible rfl))); simp only [Act.put, List.getElem_toArray, List.getElem_cons_succ, List.getElem_cons_zero, List.setIfInBounds_toArray, List.set_cons_zero, List.set_cons_succ]) | (refine plan_skip (by rfl) (by rfl) ?_; simp only [Act.put, List.getElem_toArray, List.getElem_cons_succ, List.getElem_cons_zero, List.setIfInBounds_toArray, List.set_cons_zero, List.set_cons_succ]))
        clear ix
        refine plan_last (by rfl) (fun K hK => step_storeWhole (vs := #[bsV (nameB k.toNat), fnV F w.heap.size]) FI h2 rfl (by simp [Value.oneCell']) rfl rfl rfl rfl (fun h4 => ?_))
        refine hK _ _ (.inl rfl) ?_
        clear hK K
        try simp only [Act.put, List.getElem_toArray, List.getElem_cons_succ, List.getElem_cons_zero, List.setIfInBounds_toArray, List.set_cons_zero, List.set_cons_succ]
        refine plan_done ?_
        go_wp2_with fail
        go_meet
        exact ⟨_, rfl, h4⟩
    case rest =>
      obtain ⟨b3, rfl, h⟩ := hcut
      have H3 := Lib.hid h
      clear h IX c0 c1 c2 H
      obtain ⟨c0, c1, c2⟩ := H3.out.p1.cells3
      obtain ⟨d0, d1⟩ := H3.out.cells2
      by_cases q2 : sizeK k = 2
      · have hF := HF.out
        rw [if_pos q2] at hF
        subst hF
        clear HF
        unfold fnV pt at d1
        unfold bsV at d0
        go_wp2_with (refine (both_at H3.out).mono ?_)
        rintro e w4 ⟨b4, rfl, h⟩
        have H4 := Lib.hid h
        clear h c0 c1 c2 d0 d1 H3
        obtain ⟨c0, c1, c2⟩ := H4.out.p2.cells3
        obtain ⟨d0, d1⟩ := H4.out.cells2
        have f0 := H4.out.p2.free
        go_wp2
        refine wp_loop_rounds 3 ?_
        rw [rounds_succ]
        by_cases qa : 0 ≤ a ∧ a ≤ 99
        · have WA := Lib.hid (written_at a)
          rw [decide_eq_true qa] at WA
          have IA := Lib.hid (itoa_at a qa)
          have la := (num_dec' qa).2.2.2
          have s1 : ¬ 9223372036854775807 < 1 + (decB a.toNat).length := by omega
          have s2 : ¬ 9223372036854775807 < (nameB k.toNat).length + (1 + (decB a.toNat).length) := by omega
          have HA := Lib.hid (H4.out.p2.set (i := 1) (.int .i64 0))
          simp only [List.setIfInBounds_toArray, List.set_cons_zero, List.set_cons_succ] at HA
          go_wp2_with (first | (go_at_call 20; refine (WA.out _).mono ?_; rintro e w' ⟨rfl, rfl⟩) | (go_at_call 21; refine (IA.out _).mono ?_; rintro e w' ⟨rfl, rfl⟩))
          clear IA WA s1 c0 c1 c2 d0 d1 f0 H4
          generalize w'.setCell ⟨w.heap.size, 1, Option.none⟩ (.int .i64 0) = w5 at HA ⊢
          obtain ⟨c0, c1, c2⟩ := HA.out.cells3
          obtain ⟨d0, d1⟩ := HA.out.p1.cells2
          have f0 := HA.out.free
          rw [rounds_succ]
          by_cases qb : 0 ≤ b ∧ b ≤ 99
          · have WA := Lib.hid (written_at b)
            rw [decide_eq_true qb] at WA
            have IA := Lib.hid (itoa_at b qb)
            have lb := (num_dec' qb).2.2.2
            have s1 : ¬ 9223372036854775807 < 1 + (decB b.toNat).length := by omega
            have s3 : ¬ 9223372036854775807 < (nameB k.toNat).length + (1 + (decB a.toNat).length) + (1 + (decB b.toNat).length) := by omega
            have HB := Lib.hid (HA.out.set (i := 2) (.int .i64 0))
            simp only [List.setIfInBounds_toArray, List.set_cons_zero, List.set_cons_succ] at HB
            have FIN := Lib.hid (show (⟨(nameB k.toNat).toArray⟩ : ByteArray) ++ ((⟨#[32]⟩ : ByteArray) ++ ⟨(decB a.toNat).toArray⟩) ++ ((⟨#[32]⟩ : ByteArray) ++ ⟨(decB b.toNat).toArray⟩) = ⟨(textD ⟨k, a, b⟩).toArray⟩ by
              rw [TX.out, if_pos ⟨qa, qb, .inl (by omega), .inl (by omega)⟩, if_pos (by omega), if_pos (by omega)]
              show (⟨(nameB k.toNat).toArray⟩ : ByteArray) ++ ((⟨([32] : Bs).toArray⟩ : ByteArray) ++ ⟨(decB a.toNat).toArray⟩) ++ ((⟨([32] : Bs).toArray⟩ : ByteArray) ++ ⟨(decB b.toNat).toArray⟩) = _
              rw [bs_app, bs_app, bs_app, bs_app]
              simp)
            go_wp2_with (first | (go_at_call 20; refine (WA.out _).mono ?_; rintro e w' ⟨rfl, rfl⟩) | (go_at_call 21; refine (IA.out _).mono ?_; rintro e w' ⟨rfl, rfl⟩))
            clear IA WA s1 s2 s3 c0 c1 c2 d0 d1 f0 HA
            generalize World.setCell _ ⟨w.heap.size, 2, Option.none⟩ (.int .i64 0) = w6 at HB ⊢
            obtain ⟨c0, c1, c2⟩ := HB.out.cells3
            rw [rounds_succ]
            go_wp2
            rw [FIN.out]
            go_ret
            exact ⟨rfl, HB.out.drop.drop.drop⟩
          · have WA := Lib.hid (written_at b)
            rw [decide_eq_false qb] at WA
            have E := Lib.hid (show textD ⟨k, a, b⟩ = [] by rw [TX.out, if_neg fun z => qb z.2.1])
            go_wp2_with (go_at_call 20; refine (WA.out _).mono ?_; rintro e w' ⟨rfl, rfl⟩)
            go_ret
            exact ⟨by rw [E.out]; rfl, HA.out.drop.drop.drop⟩
        · have WA := Lib.hid (written_at a)
          rw [decide_eq_false qa] at WA
          have E := Lib.hid (show textD ⟨k, a, b⟩ = [] by rw [TX.out, if_neg fun z => qa z.1])
          go_wp2_with (go_at_call 20; refine (WA.out _).mono ?_; rintro e w' ⟨rfl, rfl⟩)
          go_ret
          exact ⟨by rw [E.out]; rfl, H4.out.drop.drop.drop⟩
      · have hF := HF.out
        rw [if_neg q2] at hF
        by_cases q0 : sizeK k = 0
        · rw [if_pos q0] at hF
          subst hF
          clear HF
          unfold fnV pt at d1
          unfold bsV at d0
          go_wp2_with (refine (none_at H3.out).mono ?_)
          rintro e w4 ⟨rfl, h⟩
          have H4 := Lib.hid h
          clear h c0 c1 c2 d0 d1 H3
          obtain ⟨c0, c1, c2⟩ := H4.out.p1.cells3
          by_cases qa : a = 0
          · by_cases qb : b = 0
            · have E := Lib.hid (show textD ⟨k, a, b⟩ = nameB k.toNat by
                rw [TX.out, if_pos ⟨by omega, by omega, .inr qb, .inr qa⟩, if_neg (by omega), if_neg (by omega)]; simp)
              subst qa qb
              go_wp2
              refine wp_loop_rounds 1 ?_
              rw [rounds_succ]
              go_wp2
              go_ret
              exact ⟨by rw [E.out]; rfl, H4.out.drop.drop⟩
            · have E := Lib.hid (show textD ⟨k, a, b⟩ = [] by
                rw [TX.out, if_neg]
                rintro ⟨_, _, z | z, _⟩
                · omega
                · exact qb z)
              have qb' : (b != 0) = true := by simpa using qb
              subst qa
              go_wp2
              refine wp_loop_rounds 1 ?_
              rw [rounds_succ]
              go_wp2
              go_ret
              exact ⟨by rw [E.out]; rfl, H4.out.drop.drop⟩
          · have E := Lib.hid (show textD ⟨k, a, b⟩ = [] by
              rw [TX.out, if_neg]
              rintro ⟨_, _, _, z | z⟩
              · omega
              · exact qa z)
            have qa' : (a != 0) = true := by simpa using qa
            go_wp2
            refine wp_loop_rounds 1 ?_
            rw [rounds_succ]
            go_wp2
            go_ret
            exact ⟨by rw [E.out]; rfl, H4.out.drop.drop⟩
        · rw [if_neg q0] at hF
          subst hF
          clear HF
          have q1 : sizeK k = 1 := by have := size_le k; omega
          unfold fnV pt at d1
          unfold bsV at d0
          go_wp2_with (refine (onlyA_at H3.out).mono ?_)
          rintro e w4 ⟨b4, rfl, h⟩
          have H4 := Lib.hid h
          clear h c0 c1 c2 d0 d1 H3
          obtain ⟨c0, c1, c2⟩ := H4.out.p2.cells3
          have d0 := H4.out.cells1
          have f0 := H4.out.p2.free
          go_wp2
          refine wp_loop_rounds 2 ?_
          rw [rounds_succ]
          by_cases qa : 0 ≤ a ∧ a ≤ 99
          · have WA := Lib.hid (written_at a)
            rw [decide_eq_true qa] at WA
            have IA := Lib.hid (itoa_at a qa)
            have la := (num_dec' qa).2.2.2
            have s1 : ¬ 9223372036854775807 < 1 + (decB a.toNat).length := by omega
            have s2 : ¬ 9223372036854775807 < (nameB k.toNat).length + (1 + (decB a.toNat).length) := by omega
            have HA := Lib.hid (H4.out.p2.set (i := 1) (.int .i64 0))
            simp only [List.setIfInBounds_toArray, List.set_cons_zero, List.set_cons_succ] at HA
            go_wp2_with (first | (go_at_call 20; refine (WA.out _).mono ?_; rintro e w' ⟨rfl, rfl⟩) | (go_at_call 21; refine (IA.out _).mono ?_; rintro e w' ⟨rfl, rfl⟩))
            clear IA WA s1 s2 c0 c1 c2 d0 f0 H4
            generalize World.setCell _ ⟨w.heap.size, 1, Option.none⟩ (.int .i64 0) = w5 at HA ⊢
            obtain ⟨c0, c1, c2⟩ := HA.out.cells3
            rw [rounds_succ]
            by_cases qb : b = 0
            · have E := Lib.hid (show (⟨(nameB k.toNat).toArray⟩ : ByteArray) ++ ((⟨#[32]⟩ : ByteArray) ++ ⟨(decB a.toNat).toArray⟩) = ⟨(textD ⟨k, a, b⟩).toArray⟩ by
                rw [TX.out, if_pos ⟨qa, by omega, .inr qb, .inl (by omega)⟩, if_pos (by omega), if_neg (by omega)]
                show (⟨(nameB k.toNat).toArray⟩ : ByteArray) ++ ((⟨([32] : Bs).toArray⟩ : ByteArray) ++ ⟨(decB a.toNat).toArray⟩) = _
                rw [bs_app, bs_app]
                simp)
              subst qb
              go_wp2
              rw [E.out]
              go_ret
              exact ⟨rfl, HA.out.drop.drop.drop⟩
            · have E := Lib.hid (show textD ⟨k, a, b⟩ = [] by
                rw [TX.out, if_neg]
                rintro ⟨_, _, z | z, _⟩
                · omega
                · exact qb z)
              have qb' : (b != 0) = true := by simpa using qb
              go_wp2
              go_ret
              exact ⟨by rw [E.out]; rfl, HA.out.drop.drop.drop⟩
          · have WA := Lib.hid (written_at a)
            rw [decide_eq_false qa] at WA
            have E := Lib.hid (show textD ⟨k, a, b⟩ = [] by rw [TX.out, if_neg fun z => qa z.1])
            go_wp2_with (go_at_call 20; refine (WA.out _).mono ?_; rintro e w' ⟨rfl, rfl⟩)
            go_ret
            exact ⟨by rw [E.out]; rfl, H4.out.drop.drop.drop⟩
  · obtain ⟨c0, c1, c2⟩ := H.out.cells3
    have E := Lib.hid (show textD ⟨k, a, b⟩ = [] by
      unfold textD textOk
      have : ¬ (1 ≤ k ∧ k ≤ 10) := hk
      simp [this])
    by_cases k1 : k < 1
    · go_enter Tryd.func9, Tryd.ntmps9
      go_wp2
      go_ret
      exact ⟨by rw [E.out]; rfl, H.out.drop⟩
    · have k2 : 10 < k := by omega
      go_enter Tryd.func9, Tryd.ntmps9
      go_wp2
      go_ret
      exact ⟨by rw [E.out]; rfl, H.out.drop⟩
end
end N
end Go.Proofs.YtbnggcgojbkoaaaDoor
