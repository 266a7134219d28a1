/-
  The model's DeedText, whole.
-/
import Derived.Test.YtbnggcgojbkoaaaDoorNDeC
set_option linter.unusedVariables false
set_option linter.unusedSectionVars false
set_option linter.unusedSimpArgs false
namespace Go.Proofs.YtbnggcgojbkoaaaDoor
open Go.RowKit Go.Sort
namespace N
section
variable {B p : Nat} {w0 w : World} {l : List Ch}
theorem text_off {k a b : Int} (h : ¬ ((1 ≤ k ∧ k ≤ 10) ∧ (0 ≤ a ∧ a ≤ 99) ∧ (0 ≤ b ∧ b ≤ 99))) : textD ⟨k, a, b⟩ = [] := by
  unfold textD
  rw [if_neg]
  intro c
  obtain ⟨h1, h2, h3, _⟩ := text_parts c
  exact h ⟨h1, h2, h3⟩
theorem text_on {k a b : Int} (h : (1 ≤ k ∧ k ≤ 10) ∧ (0 ≤ a ∧ a ≤ 99) ∧ (0 ≤ b ∧ b ≤ 99)) : textD ⟨k, a, b⟩ = if (2 ≤ sizeK k ∨ b = 0) ∧ (1 ≤ sizeK k ∨ a = 0) then nameB k.toNat ++ ((if 1 ≤ sizeK k then 32 :: decB a.toNat else []) ++ (if 2 ≤ sizeK k then 32 :: decB b.toNat else [])) else [] := by
  unfold textD textOk
  simp only [Bool.and_eq_true, decide_eq_true_eq, h.1.1, h.1.2, h.2.1.1, h.2.1.2, h.2.2.1, h.2.2.2, true_and]
set_option maxRecDepth 100000 in
set_option maxHeartbeats 4000000 in
theorem spDeedText_at (h : M B w0 w l) (k a b : Int) : Calls Tryd.prog 10 #[.agg #[.int .i64 k, .int .i64 a, .int .i64 b]] w fun e w' => e = .returned (bsV (textD ⟨k, a, b⟩)) ∧ M B w0 w' l := by
  have H := Lib.hid (h.alloc #[.int .i64 k, .int .i64 a, .int .i64 b] 24)
  clear h
  obtain ⟨c0, c1, c2⟩ := H.out.cells3
  have KI := Lib.hid (in_at k 1 10)
  have AI := Lib.hid (in_at a 0 99)
  have BI := Lib.hid (in_at b 0 99)
  by_cases hk : 1 ≤ k ∧ k ≤ 10
  case neg =>
    have E := Lib.hid (text_off (k := k) (a := a) (b := b) fun z => hk z.1)
    rw [decide_eq_false hk] at KI
    go_enter Tryd.func10, Tryd.ntmps10
    go_wp2_with (go_at_call 22; refine (KI.out _).mono ?_; rintro e w' ⟨rfl, rfl⟩)
    go_ret
    exact ⟨by rw [E.out]; rfl, H.out.drop⟩
  rw [decide_eq_true hk] at KI
  by_cases ha : 0 ≤ a ∧ a ≤ 99
  case neg =>
    have E := Lib.hid (text_off (k := k) (a := a) (b := b) fun z => ha z.2.1)
    rw [decide_eq_false ha] at AI
    go_enter Tryd.func10, Tryd.ntmps10
    go_wp2_with (go_at_call 22; (first | ((with_reducible refine (KI.out _).mono ?_); rintro e w' ⟨rfl, rfl⟩) | ((with_reducible refine (AI.out _).mono ?_); rintro e w' ⟨rfl, rfl⟩)))
    go_ret
    exact ⟨by rw [E.out]; rfl, H.out.drop⟩
  rw [decide_eq_true ha] at AI
  by_cases hb : 0 ≤ b ∧ b ≤ 99
  case neg =>
    have E := Lib.hid (text_off (k := k) (a := a) (b := b) fun z => hb z.2.2)
    rw [decide_eq_false hb] at BI
    go_enter Tryd.func10, Tryd.ntmps10
    go_wp2_with (go_at_call 22; (first | ((with_reducible refine (KI.out _).mono ?_); rintro e w' ⟨rfl, rfl⟩) | ((with_reducible refine (AI.out _).mono ?_); rintro e w' ⟨rfl, rfl⟩) | ((with_reducible refine (BI.out _).mono ?_); rintro e w' ⟨rfl, rfl⟩)))
    go_ret
    exact ⟨by rw [E.out]; rfl, H.out.drop⟩
  rw [decide_eq_true hb] at BI
  have TX := Lib.hid (text_on ⟨hk, ha, hb⟩)
  have SZ := Lib.hid (spSize_at k)
  obtain ⟨n, hn, n1, n2⟩ : ∃ n : Nat, k = n ∧ 1 ≤ n ∧ n ≤ 10 := ⟨k.toNat, by omega, by omega, by omega⟩
  have nk : k.toNat = n := by omega
  rw [nk] at TX
  have nl : (nameB n).length ≤ 6 := (name_all ⟨n, by omega⟩).2.2.1
  obtain ⟨x, hx⟩ : ∃ x : Nat, a = x := ⟨a.toNat, by omega⟩
  obtain ⟨y, hy⟩ : ∃ y : Nat, b = y := ⟨b.toNat, by omega⟩
  have la := (num_dec' ha).2.2.2
  have lb := (num_dec' hb).2.2.2
  have xa : a.toNat = x := by omega
  have yb : b.toNat = y := by omega
  rw [xa] at la TX
  rw [yb] at lb TX
  have NG := Lib.hid (names_get ⟨n1, n2⟩)
  have s1 : ¬ 9223372036854775807 < (nameB n).length + 1 := by omega
  have s2 : ¬ 9223372036854775807 < (nameB n).length + 1 + (decB x).length := by omega
  have s3 : ¬ 9223372036854775807 < (nameB n).length + 1 + (decB x).length + 1 := by omega
  have s4 : ¬ 9223372036854775807 < (nameB n).length + 1 + (decB x).length + 1 + (decB y).length := by omega
  have DX := Lib.hid (fun (l : List Ch) (w : World) (hM : M B w0 w l) => spDec_at (x + 1) x (by omega) (by omega) hM)
  have DY := Lib.hid (fun (l : List Ch) (w : World) (hM : M B w0 w l) => spDec_at (y + 1) y (by omega) (by omega) hM)
  rw [← hx] at DX
  rw [← hy] at DY
  have zl := size_le k
  obtain ⟨z, hz⟩ : ∃ z : Int, z = (sizeK k : Int) := ⟨_, rfl⟩
  have z2 : (2 ≤ sizeK k) = (2 ≤ z) := propext (by omega)
  have z1 : (1 ≤ sizeK k) = (1 ≤ z) := propext (by omega)
  have TZ := Lib.hid (TX.out.trans (show _ = (if (2 ≤ z ∨ b = 0) ∧ (1 ≤ z ∨ a = 0) then nameB n ++ ((if 1 ≤ z then 32 :: decB x else []) ++ (if 2 ≤ z then 32 :: decB y else [])) else []) by simp only [z1, z2]))
  clear TX
  rw [← hz] at SZ
  have zz : z = 0 ∨ z = 1 ∨ z = 2 := by omega
  have k0 : (0 : Int) ≤ k := by omega
  have k11 : k < 11 := by omega
  have kn : k.toNat = n := nk
  have HK := Lib.hid hn
  clear hz hk ha hb xa yb nk hn la lb hx hy n1 n2 z1 z2 zl
  by_cases bad : (2 ≤ z ∨ b = 0) ∧ (1 ≤ z ∨ a = 0)
  case neg =>
    have E := Lib.hid (show textD ⟨k, a, b⟩ = [] by rw [TZ.out, if_neg bad])
    obtain rfl | rfl | rfl := zz
    · by_cases qb : b = 0
      · have qa : (a != 0) = true := by simp; intro q; exact bad ⟨.inr qb, .inr q⟩
        clear bad
        subst qb
        go_enter Tryd.func10, Tryd.ntmps10
        go_wp2_with (first | (go_at_call 23; refine (SZ.out _).mono ?_; rintro e w' ⟨rfl, rfl⟩) | (go_at_call 22; (first | ((with_reducible refine (KI.out _).mono ?_); rintro e w' ⟨rfl, rfl⟩) | ((with_reducible refine (AI.out _).mono ?_); rintro e w' ⟨rfl, rfl⟩) | ((with_reducible refine (BI.out _).mono ?_); rintro e w' ⟨rfl, rfl⟩))))
        go_ret
        exact ⟨by rw [E.out]; rfl, H.out.drop⟩
      · have qb' : (b != 0) = true := by simpa using qb
        clear bad
        go_enter Tryd.func10, Tryd.ntmps10
        go_wp2_with (first | (go_at_call 23; refine (SZ.out _).mono ?_; rintro e w' ⟨rfl, rfl⟩) | (go_at_call 22; (first | ((with_reducible refine (KI.out _).mono ?_); rintro e w' ⟨rfl, rfl⟩) | ((with_reducible refine (AI.out _).mono ?_); rintro e w' ⟨rfl, rfl⟩) | ((with_reducible refine (BI.out _).mono ?_); rintro e w' ⟨rfl, rfl⟩))))
        go_ret
        exact ⟨by rw [E.out]; rfl, H.out.drop⟩
    · have qb' : (b != 0) = true := by simp; intro q; exact bad ⟨.inr q, .inl (by omega)⟩
      clear bad
      go_enter Tryd.func10, Tryd.ntmps10
      go_wp2_with (first | (go_at_call 23; refine (SZ.out _).mono ?_; rintro e w' ⟨rfl, rfl⟩) | (go_at_call 22; (first | ((with_reducible refine (KI.out _).mono ?_); rintro e w' ⟨rfl, rfl⟩) | ((with_reducible refine (AI.out _).mono ?_); rintro e w' ⟨rfl, rfl⟩) | ((with_reducible refine (BI.out _).mono ?_); rintro e w' ⟨rfl, rfl⟩))))
      go_ret
      exact ⟨by rw [E.out]; rfl, H.out.drop⟩
    · exact absurd ⟨.inl (by omega), .inl (by omega)⟩ bad
  rw [if_pos bad] at TZ
  obtain ⟨bad2, bad1⟩ := bad
  obtain rfl | rfl | rfl := zz
  · obtain rfl : b = 0 := by omega
    obtain rfl : a = 0 := by omega
    go_enter Tryd.func10, Tryd.ntmps10
    go_upto_region 6 with (first | (go_at_call 23; refine (SZ.out _).mono ?_; rintro e w' ⟨rfl, rfl⟩) | (go_at_call 22; (first | ((with_reducible refine (KI.out _).mono ?_); rintro e w' ⟨rfl, rfl⟩) | ((with_reducible refine (AI.out _).mono ?_); rintro e w' ⟨rfl, rfl⟩) | ((with_reducible refine (BI.out _).mono ?_); rintro e w' ⟨rfl, rfl⟩))))
    refine wp_region_plan 5 (.take 1 (.take 2 (.alt 0 (.alt 3 (.alt 4 (.alt 5 .done .nomore) .nomore) .nomore) .nomore))) (fun w' => w'.cell? ⟨w.heap.size, 0, Option.none⟩ = some (.int .i64 k)) (by kernel_rfl) (by kernel_rfl) (fun _ _ _ _ _ h => h) (H.out.drew.cell rfl) ?_
    repeat (first | (refine plan_take (by rfl) (by rfl) ?_; apply Exists.intro; refine ⟨fun w' hw' => ?_, ?_⟩; (· ((try dsimp only at hw'); go_simp; (try with_reducible rfl))); simp only [Act.put, List.getElem_toArray, List.getElem_cons_succ, List.getElem_cons_zero, List.setIfInBounds_toArray, List.set_cons_zero, List.set_cons_succ]) | (refine plan_skip (by rfl) (by rfl) ?_; simp only [Act.put, List.getElem_toArray, List.getElem_cons_succ, List.getElem_cons_zero, List.setIfInBounds_toArray, List.set_cons_zero, List.set_cons_succ]))
    refine plan_last (by rfl) (fun K' hK => ?_)
    go_simp
    refine (spNames_at H.out.drew).mono ?_
    rintro e w2 ⟨b2, rfl, h2⟩
    refine hK _ _ (.inr (h2.p1.cell rfl)) ?_
    clear hK K'
    try simp only [Act.put, List.getElem_toArray, List.getElem_cons_succ, List.getElem_cons_zero, List.setIfInBounds_toArray, List.set_cons_zero, List.set_cons_succ]
    have g2 := h2.cell NG.out
    refine plan_last (by rfl) (fun K hK => ?_)
    go_simp
    refine hK _ _ (.inr (h2.p1.cell rfl)) ?_
    clear hK K
    try simp only [Act.put, List.getElem_toArray, List.getElem_cons_succ, List.getElem_cons_zero, List.setIfInBounds_toArray, List.set_cons_zero, List.set_cons_succ]
    refine plan_last (by rfl) (fun K hK => ?_)
    go_simp
    refine hK _ _ (.inr (h2.p1.cell rfl)) ?_
    clear hK K
    try simp only [Act.put, List.getElem_toArray, List.getElem_cons_succ, List.getElem_cons_zero, List.setIfInBounds_toArray, List.set_cons_zero, List.set_cons_succ]
    refine plan_last (by rfl) (fun K hK => ?_)
    go_simp
    refine hK _ _ (.inl rfl) ?_
    clear hK K
    try simp only [Act.put, List.getElem_toArray, List.getElem_cons_succ, List.getElem_cons_zero, List.setIfInBounds_toArray, List.set_cons_zero, List.set_cons_succ]
    refine plan_done ?_
    have H2 := Lib.hid h2.drop
    clear g2 h2 c0 c1 c2
    obtain ⟨c0, c1, c2⟩ := H2.out.cells3
    have E := Lib.hid (show (⟨(nameB n).toArray⟩ : ByteArray) = ⟨(textD ⟨k, 0, 0⟩).toArray⟩ by rw [TZ.out, if_neg (by omega), if_neg (by omega)]; simp)
    go_wp2
    go_ret
    exact ⟨by unfold bsV; rw [← E.out]; rfl, H2.out.drop⟩
  · obtain rfl : b = 0 := by omega
    clear bad1 bad2
    go_enter Tryd.func10, Tryd.ntmps10
    go_upto_region 6 with (first | (go_at_call 23; refine (SZ.out _).mono ?_; rintro e w' ⟨rfl, rfl⟩) | (go_at_call 22; (first | ((with_reducible refine (KI.out _).mono ?_); rintro e w' ⟨rfl, rfl⟩) | ((with_reducible refine (AI.out _).mono ?_); rintro e w' ⟨rfl, rfl⟩) | ((with_reducible refine (BI.out _).mono ?_); rintro e w' ⟨rfl, rfl⟩))))
    refine wp_region_plan 5 (.take 1 (.take 2 (.alt 0 (.alt 3 (.alt 4 (.alt 5 .done .nomore) .nomore) .nomore) .nomore))) (fun w' => w'.cell? ⟨w.heap.size, 0, Option.none⟩ = some (.int .i64 k)) (by kernel_rfl) (by kernel_rfl) (fun _ _ _ _ _ h => h) (H.out.drew.cell rfl) ?_
    repeat (first | (refine plan_take (by rfl) (by rfl) ?_; apply Exists.intro; refine ⟨fun w' hw' => ?_, ?_⟩; (· ((try dsimp only at hw'); go_simp; (try with_reducible rfl))); simp only [Act.put, List.getElem_toArray, List.getElem_cons_succ, List.getElem_cons_zero, List.setIfInBounds_toArray, List.set_cons_zero, List.set_cons_succ]) | (refine plan_skip (by rfl) (by rfl) ?_; simp only [Act.put, List.getElem_toArray, List.getElem_cons_succ, List.getElem_cons_zero, List.setIfInBounds_toArray, List.set_cons_zero, List.set_cons_succ]))
    refine plan_last (by rfl) (fun K' hK => ?_)
    go_simp
    refine (spNames_at H.out.drew).mono ?_
    rintro e w2 ⟨b2, rfl, h2⟩
    refine hK _ _ (.inr (h2.p1.cell rfl)) ?_
    clear hK K'
    try simp only [Act.put, List.getElem_toArray, List.getElem_cons_succ, List.getElem_cons_zero, List.setIfInBounds_toArray, List.set_cons_zero, List.set_cons_succ]
    have g2 := h2.cell NG.out
    refine plan_last (by rfl) (fun K hK => ?_)
    go_simp
    refine hK _ _ (.inr (h2.p1.cell rfl)) ?_
    clear hK K
    try simp only [Act.put, List.getElem_toArray, List.getElem_cons_succ, List.getElem_cons_zero, List.setIfInBounds_toArray, List.set_cons_zero, List.set_cons_succ]
    refine plan_last (by rfl) (fun K hK => ?_)
    go_simp
    refine hK _ _ (.inr (h2.p1.cell rfl)) ?_
    clear hK K
    try simp only [Act.put, List.getElem_toArray, List.getElem_cons_succ, List.getElem_cons_zero, List.setIfInBounds_toArray, List.set_cons_zero, List.set_cons_succ]
    refine plan_last (by rfl) (fun K hK => ?_)
    go_simp
    refine hK _ _ (.inl rfl) ?_
    clear hK K
    try simp only [Act.put, List.getElem_toArray, List.getElem_cons_succ, List.getElem_cons_zero, List.setIfInBounds_toArray, List.set_cons_zero, List.set_cons_succ]
    refine plan_done ?_
    have H2 := Lib.hid h2.drop
    clear g2 h2 c0 c1 c2
    obtain ⟨c0, c1, c2⟩ := H2.out.cells3
    go_wp2_with (refine (DX.out _ _ H2.out).mono ?_)
    rintro e w3 ⟨rfl, h3⟩
    have H3 := Lib.hid h3
    clear h3 c0 c1 c2 H2
    obtain ⟨c0, c1, c2⟩ := H3.out.cells3
    have E := Lib.hid (show (⟨(nameB n).toArray⟩ : ByteArray) ++ ⟨#[32]⟩ ++ ⟨(decB x).toArray⟩ = ⟨(textD ⟨k, a, 0⟩).toArray⟩ by
      rw [TZ.out, if_pos (by omega), if_neg (by omega)]
      show (⟨(nameB n).toArray⟩ : ByteArray) ++ ⟨([32] : Bs).toArray⟩ ++ ⟨(decB x).toArray⟩ = _
      rw [bs_app, bs_app]
      simp)
    go_wp2
    go_ret
    exact ⟨by unfold bsV; rw [← E.out]; rfl, H3.out.drop⟩
  · clear bad1 bad2
    go_enter Tryd.func10, Tryd.ntmps10
    go_upto_region 6 with (first | (go_at_call 23; refine (SZ.out _).mono ?_; rintro e w' ⟨rfl, rfl⟩) | (go_at_call 22; (first | ((with_reducible refine (KI.out _).mono ?_); rintro e w' ⟨rfl, rfl⟩) | ((with_reducible refine (AI.out _).mono ?_); rintro e w' ⟨rfl, rfl⟩) | ((with_reducible refine (BI.out _).mono ?_); rintro e w' ⟨rfl, rfl⟩))))
    refine wp_region_plan 5 (.take 1 (.take 2 (.alt 0 (.alt 3 (.alt 4 (.alt 5 .done .nomore) .nomore) .nomore) .nomore))) (fun w' => w'.cell? ⟨w.heap.size, 0, Option.none⟩ = some (.int .i64 k)) (by kernel_rfl) (by kernel_rfl) (fun _ _ _ _ _ h => h) (H.out.drew.cell rfl) ?_
    repeat (first | (refine plan_take (by rfl) (by rfl) ?_; apply Exists.intro; refine ⟨fun w' hw' => ?_, ?_⟩; (· ((try dsimp only at hw'); go_simp; (try with_reducible rfl))); simp only [Act.put, List.getElem_toArray, List.getElem_cons_succ, List.getElem_cons_zero, List.setIfInBounds_toArray, List.set_cons_zero, List.set_cons_succ]) | (refine plan_skip (by rfl) (by rfl) ?_; simp only [Act.put, List.getElem_toArray, List.getElem_cons_succ, List.getElem_cons_zero, List.setIfInBounds_toArray, List.set_cons_zero, List.set_cons_succ]))
    refine plan_last (by rfl) (fun K' hK => ?_)
    go_simp
    refine (spNames_at H.out.drew).mono ?_
    rintro e w2 ⟨b2, rfl, h2⟩
    refine hK _ _ (.inr (h2.p1.cell rfl)) ?_
    clear hK K'
    try simp only [Act.put, List.getElem_toArray, List.getElem_cons_succ, List.getElem_cons_zero, List.setIfInBounds_toArray, List.set_cons_zero, List.set_cons_succ]
    have g2 := h2.cell NG.out
    refine plan_last (by rfl) (fun K hK => ?_)
    go_simp
    refine hK _ _ (.inr (h2.p1.cell rfl)) ?_
    clear hK K
    try simp only [Act.put, List.getElem_toArray, List.getElem_cons_succ, List.getElem_cons_zero, List.setIfInBounds_toArray, List.set_cons_zero, List.set_cons_succ]
    refine plan_last (by rfl) (fun K hK => ?_)
    go_simp
    refine hK _ _ (.inr (h2.p1.cell rfl)) ?_
    clear hK K
    try simp only [Act.put, List.getElem_toArray, List.getElem_cons_succ, List.getElem_cons_zero, List.setIfInBounds_toArray, List.set_cons_zero, List.set_cons_succ]
    refine plan_last (by rfl) (fun K hK => ?_)
    go_simp
    refine hK _ _ (.inl rfl) ?_
    clear hK K
    try simp only [Act.put, List.getElem_toArray, List.getElem_cons_succ, List.getElem_cons_zero, List.setIfInBounds_toArray, List.set_cons_zero, List.set_cons_succ]
    refine plan_done ?_
    have H2 := Lib.hid h2.drop
    clear g2 h2 c0 c1 c2
    obtain ⟨c0, c1, c2⟩ := H2.out.cells3
    go_wp2_with (refine (DX.out _ _ H2.out).mono ?_)
    rintro e w3 ⟨rfl, h3⟩
    have H3 := Lib.hid h3
    clear h3 c0 c1 c2 H2
    obtain ⟨c0, c1, c2⟩ := H3.out.cells3
    have E := Lib.hid (show (⟨(nameB n).toArray⟩ : ByteArray) ++ ⟨#[32]⟩ ++ ⟨(decB x).toArray⟩ ++ ⟨#[32]⟩ ++ ⟨(decB y).toArray⟩ = ⟨(textD ⟨k, a, b⟩).toArray⟩ by
      rw [TZ.out, if_pos (by omega), if_pos (by omega)]
      show (⟨(nameB n).toArray⟩ : ByteArray) ++ ⟨([32] : Bs).toArray⟩ ++ ⟨(decB x).toArray⟩ ++ ⟨([32] : Bs).toArray⟩ ++ ⟨(decB y).toArray⟩ = _
      rw [bs_app, bs_app, bs_app, bs_app]
      simp)
    go_wp2_with (refine (DY.out _ _ H3.out).mono ?_)
    rintro e w4 ⟨rfl, h4⟩
    go_wp2
    go_ret
    exact ⟨by unfold bsV; rw [← E.out]; rfl, h4.drop⟩
end
end N
end Go.Proofs.YtbnggcgojbkoaaaDoor
