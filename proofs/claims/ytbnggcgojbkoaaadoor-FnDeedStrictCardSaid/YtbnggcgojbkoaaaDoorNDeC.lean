/-
  The model's DeedText.
-/
import Derived.Test.YtbnggcgojbkoaaaDoorNDeA
import Derived.Deep.DeepCutAuto
import Derived.Laws.IdiomStrings
set_option linter.unusedVariables false
set_option linter.unusedSectionVars false
set_option linter.unusedSimpArgs false
namespace Go.Proofs.YtbnggcgojbkoaaaDoor
open Go.RowKit Go.Sort
namespace N
section
variable {B p : Nat} {w0 w : World} {l : List Ch}
theorem dec_len : ∀ (N n : Nat), n < N → (decB n).length ≤ n + 1
  | 0, n, h => absurd h (Nat.not_lt_zero n)
  | N + 1, n, h => by
    rw [decB]
    split
    · simp
    · rw [List.length_append]
      have := dec_len N (n / 10) (by omega)
      simp only [List.length_cons, List.length_nil]
      omega
theorem conv_one (w : World) (b : Nat) (x : UInt8) (h : w.cell? ⟨b, 0, Option.none⟩ = some (.int .u8 (x.toNat : Int))) : (convert 22 9 (.slice (some ⟨b, 0, Option.none⟩) 1 1)).run Tryd.prog w = .ok (.string ⟨#[x]⟩) w :=
  run_convert_bytes_back w 22 9 5 ⟨b, 0, Option.none⟩ 1 [x] Tryd.underlying22 Tryd.underlying5 Tryd.underlying9 (fun j hj => by
    have e : j = 0 := by simp at hj; omega
    subst e
    exact h)
theorem byte_nat {n : Nat} (h : n < 10) : ((UInt8.ofNat (48 + n)).toNat : Int) = 48 + (n : Int) := by
  have : (UInt8.ofNat (48 + n)).toNat = 48 + n := by rw [UInt8.toNat_ofNat']; exact Nat.mod_eq_of_lt (by omega)
  rw [this]; omega
set_option maxRecDepth 100000 in
theorem spDec_at {B : Nat} {w0 : World} : ∀ (N n : Nat), n < N → n ≤ 1000000000000000 → ∀ {l : List Ch} {w : World}, M B w0 w l → Calls Tryd.prog 25 #[.int .i64 (n : Int)] w fun e w' => e = .returned (.string ⟨(decB n).toArray⟩) ∧ M B w0 w' l
  | 0, n, h, _, _, _, _ => absurd h (Nat.not_lt_zero n)
  | N + 1, n, h, hn, l, w, hM => by
    have H := Lib.hid hM
    clear hM
    by_cases h10 : n < 10
    · have g : decide ((n : Int) < 10) = true := by simp; omega
      have H1 := H.out.alloc #[.int .u8 (48 + (n : Int))] 5
      obtain ⟨x, hx⟩ : ∃ x, x = UInt8.ofNat (48 + n) := ⟨_, rfl⟩
      have cv := conv_one _ w.heap.size x (by rw [hx, byte_nat h10]; exact H1.cell rfl)
      have F := Lib.hid H1.drop
      clear H1
      have E := Lib.hid (show (⟨#[x]⟩ : ByteArray) = ⟨(decB n).toArray⟩ by rw [decB, if_pos h10, hx])
      have wr : IntKind.u8.wrap (48 + (n : Int)) = 48 + (n : Int) := by simp [IntKind.wrap, IntKind.bits, IntKind.signed]; omega
      clear hx
      go_enter Tryd.func25, Tryd.ntmps25
      go_wp2
      go_ret
      exact ⟨by rw [← E.out]; rfl, F.out⟩
    · have g : decide ((n : Int) < 10) = false := by simp; omega
      have n0 : (0 : Int) ≤ (n : Int) := by omega
      have n1 : (n : Int) ≤ 1000000000000000 := by omega
      have d1 : (n : Int).tdiv 10 = ((n / 10 : Nat) : Int) := by rw [Int.tdiv_eq_ediv_of_nonneg n0]; omega
      have m1 : (n : Int).tmod 10 = ((n % 10 : Nat) : Int) := by rw [Int.tmod_eq_emod_of_nonneg n0]; omega
      have m2 : n % 10 < 10 := Nat.mod_lt _ (by omega)
      obtain ⟨q, hq⟩ : ∃ q, q = n / 10 := ⟨_, rfl⟩
      obtain ⟨r, hr⟩ : ∃ r, r = n % 10 := ⟨_, rfl⟩
      have K := Lib.hid (fun (l : List Ch) (w : World) (hM : M B w0 w l) => spDec_at N q (by omega) (by omega) hM)
      rw [← hq] at d1
      rw [← hr] at m1 m2
      have lq := dec_len (q + 1) q (by omega)
      have sz : ¬ 9223372036854775807 < (decB q).length + 1 := by omega
      obtain ⟨x, hx⟩ : ∃ x, x = UInt8.ofNat (48 + r) := ⟨_, rfl⟩
      have E := Lib.hid (show (⟨(decB q).toArray⟩ : ByteArray) ++ ⟨#[x]⟩ = ⟨(decB n).toArray⟩ by
        have e1 : decB n = decB (n / 10) ++ [UInt8.ofNat (48 + n % 10)] := by conv => lhs; rw [decB, if_neg h10]
        rw [e1, ← hq, ← hr, ← hx]
        exact bs_app _ [_])
      have BN := Lib.hid (byte_nat m2)
      rw [← hx] at BN
      have wr : IntKind.u8.wrap (48 + (r : Int)) = 48 + (r : Int) := by simp [IntKind.wrap, IntKind.bits, IntKind.signed]; omega
      have wq : IntKind.i64.wrap (q : Int) = (q : Int) := IntWalk.i64_in _ (by omega)
      have w48 : IntKind.i64.wrap (48 + (r : Int)) = 48 + (r : Int) := IntWalk.i64_in _ (by omega)
      clear lq hq hr hx
      go_enter Tryd.func25, Tryd.ntmps25
      go_upto_region 7 with fail
      refine wp_region_plan 10 (.take 0 (.take 1 (.take 3 (.take 4 (.take 5 (.take 6 (.alt 2 (.alt 7 (.alt 8 (.take 9 (.alt 10 .done .nomore)) .nomore) .nomore) (.alt 7 (.alt 2 (.alt 8 (.take 9 (.alt 10 .done .nomore)) .nomore) (.alt 8 (.alt 2 (.take 9 (.alt 10 .done .nomore)) .nomore) .nomore)) .nomore))))))))
        (fun _ => True) (by kernel_rfl) (by kernel_rfl) (fun _ _ _ _ _ h => h) trivial ?_
      repeat (first | (refine plan_take (by rfl) (by rfl) ?_; apply Exists.intro; refine ⟨fun w' hw' => ?_, ?_⟩; (· ((try dsimp only at hw'); go_simp; (try with_reducible rfl))); simp only [Act.put, List.getElem_toArray, List.getElem_cons_succ, List.getElem_cons_zero, List.setIfInBounds_toArray, List.set_cons_zero, List.set_cons_succ]) | (refine plan_skip (by rfl) (by rfl) ?_; simp only [Act.put, List.getElem_toArray, List.getElem_cons_succ, List.getElem_cons_zero, List.setIfInBounds_toArray, List.set_cons_zero, List.set_cons_succ]))
      refine plan_alt (by rfl) (fun K' hK => ?_) ?_
      · go_simp
        refine (K.out _ _ H.out.drew).mono ?_
        rintro e w2 ⟨rfl, h2⟩
        refine hK _ _ (.inr trivial) ?_
        clear hK K'
        try simp only [Act.put, List.getElem_toArray, List.getElem_cons_succ, List.getElem_cons_zero, List.setIfInBounds_toArray, List.set_cons_zero, List.set_cons_succ]
        have h3 := h2.alloc #[.int .u8 (48 + (r : Int))] 5
        have cv := conv_one _ w2.heap.size x (by rw [BN.out]; exact h3.cell rfl)
        refine plan_last (by rfl) (fun K hK => ?_)
        go_simp
        refine hK _ _ (.inr trivial) ?_
        clear hK K
        try simp only [Act.put, List.getElem_toArray, List.getElem_cons_succ, List.getElem_cons_zero, List.setIfInBounds_toArray, List.set_cons_zero, List.set_cons_succ]
        refine plan_last (by rfl) (fun K hK => ?_)
        go_simp
        refine hK _ _ (.inr trivial) ?_
        clear hK K
        try simp only [Act.put, List.getElem_toArray, List.getElem_cons_succ, List.getElem_cons_zero, List.setIfInBounds_toArray, List.set_cons_zero, List.set_cons_succ]
        repeat (first | (refine plan_take (by rfl) (by rfl) ?_; apply Exists.intro; refine ⟨fun w' hw' => ?_, ?_⟩; (· ((try dsimp only at hw'); go_simp; (try with_reducible rfl))); simp only [Act.put, List.getElem_toArray, List.getElem_cons_succ, List.getElem_cons_zero, List.setIfInBounds_toArray, List.set_cons_zero, List.set_cons_succ]) | (refine plan_skip (by rfl) (by rfl) ?_; simp only [Act.put, List.getElem_toArray, List.getElem_cons_succ, List.getElem_cons_zero, List.setIfInBounds_toArray, List.set_cons_zero, List.set_cons_succ]))
        refine plan_last (by rfl) (fun K hK => ?_)
        go_simp
        refine hK _ _ (.inl rfl) ?_
        clear hK K
        try simp only [Act.put, List.getElem_toArray, List.getElem_cons_succ, List.getElem_cons_zero, List.setIfInBounds_toArray, List.set_cons_zero, List.set_cons_succ]
        refine plan_done ?_
        go_wp2
        go_ret
        exact ⟨by rw [← E.out]; rfl, h3.drop⟩
      · refine plan_last (by rfl) (fun K' hK => ?_)
        go_simp
        have h3 := H.out.drew.alloc #[.int .u8 (48 + (r : Int))] 5
        refine hK _ _ (.inr trivial) ?_
        clear hK K'
        try simp only [Act.put, List.getElem_toArray, List.getElem_cons_succ, List.getElem_cons_zero, List.setIfInBounds_toArray, List.set_cons_zero, List.set_cons_succ]
        refine plan_alt (by rfl) (fun K' hK => ?_) ?_
        · go_simp
          refine (K.out _ _ h3).mono ?_
          rintro e w2 ⟨rfl, h2⟩
          refine hK _ _ (.inr trivial) ?_
          clear hK K'
          try simp only [Act.put, List.getElem_toArray, List.getElem_cons_succ, List.getElem_cons_zero, List.setIfInBounds_toArray, List.set_cons_zero, List.set_cons_succ]
          have cv := conv_one _ w.heap.size x (by rw [BN.out]; exact h2.cell rfl)
          refine plan_last (by rfl) (fun K hK => ?_)
          go_simp
          refine hK _ _ (.inr trivial) ?_
          clear hK K
          try simp only [Act.put, List.getElem_toArray, List.getElem_cons_succ, List.getElem_cons_zero, List.setIfInBounds_toArray, List.set_cons_zero, List.set_cons_succ]
          repeat (first | (refine plan_take (by rfl) (by rfl) ?_; apply Exists.intro; refine ⟨fun w' hw' => ?_, ?_⟩; (· ((try dsimp only at hw'); go_simp; (try with_reducible rfl))); simp only [Act.put, List.getElem_toArray, List.getElem_cons_succ, List.getElem_cons_zero, List.setIfInBounds_toArray, List.set_cons_zero, List.set_cons_succ]) | (refine plan_skip (by rfl) (by rfl) ?_; simp only [Act.put, List.getElem_toArray, List.getElem_cons_succ, List.getElem_cons_zero, List.setIfInBounds_toArray, List.set_cons_zero, List.set_cons_succ]))
          refine plan_last (by rfl) (fun K hK => ?_)
          go_simp
          refine hK _ _ (.inl rfl) ?_
          clear hK K
          try simp only [Act.put, List.getElem_toArray, List.getElem_cons_succ, List.getElem_cons_zero, List.setIfInBounds_toArray, List.set_cons_zero, List.set_cons_succ]
          refine plan_done ?_
          go_wp2
          go_ret
          exact ⟨by rw [← E.out]; rfl, h2.drop⟩
        · refine plan_last (by rfl) (fun K' hK => ?_)
          have cv := conv_one ((w.alloc (.cells #[.int .u8 (48 + (r : Int))] 5)).drew) w.heap.size x (by rw [BN.out]; exact h3.cell rfl)
          go_simp
          refine hK _ _ (.inr trivial) ?_
          clear hK K'
          try simp only [Act.put, List.getElem_toArray, List.getElem_cons_succ, List.getElem_cons_zero, List.setIfInBounds_toArray, List.set_cons_zero, List.set_cons_succ]
          refine plan_last (by rfl) (fun K' hK => ?_)
          go_simp
          refine (K.out _ _ h3).mono ?_
          rintro e w2 ⟨rfl, h2⟩
          refine hK _ _ (.inr trivial) ?_
          clear hK K'
          try simp only [Act.put, List.getElem_toArray, List.getElem_cons_succ, List.getElem_cons_zero, List.setIfInBounds_toArray, List.set_cons_zero, List.set_cons_succ]
          repeat (first | (refine plan_take (by rfl) (by rfl) ?_; apply Exists.intro; refine ⟨fun w' hw' => ?_, ?_⟩; (· ((try dsimp only at hw'); go_simp; (try with_reducible rfl))); simp only [Act.put, List.getElem_toArray, List.getElem_cons_succ, List.getElem_cons_zero, List.setIfInBounds_toArray, List.set_cons_zero, List.set_cons_succ]) | (refine plan_skip (by rfl) (by rfl) ?_; simp only [Act.put, List.getElem_toArray, List.getElem_cons_succ, List.getElem_cons_zero, List.setIfInBounds_toArray, List.set_cons_zero, List.set_cons_succ]))
          refine plan_last (by rfl) (fun K hK => ?_)
          go_simp
          refine hK _ _ (.inl rfl) ?_
          clear hK K
          try simp only [Act.put, List.getElem_toArray, List.getElem_cons_succ, List.getElem_cons_zero, List.setIfInBounds_toArray, List.set_cons_zero, List.set_cons_succ]
          refine plan_done ?_
          go_wp2
          go_ret
          exact ⟨by rw [← E.out]; rfl, h2.drop⟩
theorem in_at (z lo hi : Int) (w : World) : Calls Tryd.prog 22 #[.int .i64 z, .int .i64 lo, .int .i64 hi] w fun e w' => e = .returned (.bool (decide (lo ≤ z ∧ z ≤ hi))) ∧ w' = w := by
  by_cases h : lo ≤ z ∧ z ≤ hi
  · exact (l6In_yes z lo hi w h.1 h.2).mono fun e w' ⟨h1, h2⟩ => ⟨by rw [h1, decide_eq_true h], h2.symm⟩
  · exact (l6In_no z lo hi w (by omega)).mono fun e w' ⟨h1, h2⟩ => ⟨by rw [h1, decide_eq_false h], h2.symm⟩
theorem spSize_at (k : Int) (w : World) : Calls Tryd.prog 23 #[.int .i64 k] w fun e w' => e = .returned (.int .i64 (sizeK k : Int)) ∧ w' = w := by
  unfold sizeK
  by_cases h1 : k = 1
  · subst h1
    go_enter Tryd.func23, Tryd.ntmps23
    go_wp2
    go_ret
    exact ⟨by simp, rfl⟩
  have g1 : (k == 1) = false := by simpa using h1
  by_cases h9 : k = 9
  · subst h9
    go_enter Tryd.func23, Tryd.ntmps23
    go_wp2
    go_ret
    exact ⟨by simp, rfl⟩
  have g9 : (k == 9) = false := by simpa using h9
  by_cases h10 : k = 10
  · subst h10
    go_enter Tryd.func23, Tryd.ntmps23
    go_wp2
    go_ret
    exact ⟨by simp, rfl⟩
  have g10 : (k == 10) = false := by simpa using h10
  by_cases h8 : k = 8
  · subst h8
    go_enter Tryd.func23, Tryd.ntmps23
    go_wp2
    go_ret
    exact ⟨by simp, rfl⟩
  have g8 : (k == 8) = false := by simpa using h8
  go_enter Tryd.func23, Tryd.ntmps23
  go_wp2
  go_ret
  exact ⟨by simp [h1, h9, h10, h8], rfl⟩
def namesC : Array Value := #[.string ⟨#[]⟩, .string ⟨#[99, 111, 117, 110, 116]⟩, .string ⟨#[104, 101, 108, 108, 111]⟩, .string ⟨#[116, 101, 108, 108]⟩, .string ⟨#[116, 97, 107, 101]⟩, .string ⟨#[116, 119, 105, 99, 101]⟩, .string ⟨#[108, 111, 115, 101]⟩, .string ⟨#[99, 114, 97, 115, 104]⟩, .string ⟨#[98, 101, 97, 99, 111, 110]⟩, .string ⟨#[99, 117, 116]⟩, .string ⟨#[109, 101, 110, 100]⟩]
theorem names_get {n : Nat} (h : 1 ≤ n ∧ n ≤ 10) : namesC[n]? = some (.string ⟨(nameB n).toArray⟩) := by
  obtain rfl | rfl | rfl | rfl | rfl | rfl | rfl | rfl | rfl | rfl : n = 1 ∨ n = 2 ∨ n = 3 ∨ n = 4 ∨ n = 5 ∨ n = 6 ∨ n = 7 ∨ n = 8 ∨ n = 9 ∨ n = 10 := by omega
  all_goals rfl
theorem spNames_at (h : M B w0 w l) : Calls Tryd.prog 24 #[] w fun e w' => ∃ b, e = .returned (.slice (some ⟨b, 0, Option.none⟩) 11 11) ∧ M B w0 w' (boxC b 9 namesC :: l) := by
  have h2 := h.alloc namesC 9
  go_enter Tryd.func24, Tryd.ntmps24
  go_wp2
  go_ret
  exact ⟨_, rfl, h2⟩
end
end N
end Go.Proofs.YtbnggcgojbkoaaaDoor
