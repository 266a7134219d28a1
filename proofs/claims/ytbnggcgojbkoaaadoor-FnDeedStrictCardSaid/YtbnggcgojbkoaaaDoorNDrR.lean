/-
  Texts drawn for reading.
-/
import Derived.Test.YtbnggcgojbkoaaaDoorNDrD
import Derived.Test.YtbnggcgojbkoaaaDoorNDeD
import Derived.Test.YtbnggcgojbkoaaaDoorNSpR
set_option linter.unusedVariables false
set_option linter.unusedSectionVars false
set_option linter.unusedSimpArgs false
namespace Go.Proofs.YtbnggcgojbkoaaaDoor
open Go.RowKit Go.Sort
namespace N
section
variable {B a k : Nat} {w0 w : World} {l : List Ch}
/-- A drawn word of a list. -/
theorem of_at {b n : Nat} {ws : List Bs} (h : M B w0 w (rdC w0 B a k :: boxC b 9 (ws.map fun x => Value.string ⟨x.toArray⟩).toArray :: l)) (hk : k ≤ 99999) (hn : ws.length = n) (h1 : 1 ≤ n) (h2 : n ≤ 1000) :
    Calls Tryd.prog 28 #[.pointer (some ⟨a, 0, Option.none⟩), .slice (some ⟨b, 0, Option.none⟩) n n] w fun e w' => ∃ t, e = .returned (.string ⟨t.toArray⟩) ∧ t ∈ ws ∧ M B w0 w' (rdC w0 B a (k + 1) :: boxC b 9 (ws.map fun x => Value.string ⟨x.toArray⟩).toArray :: l) := by
  have H := Lib.hid h
  clear h
  have HN := Lib.hid hn
  clear hn
  go_enter Tryd.func28, Tryd.ntmps28
  go_wp2_with fail
  refine (H.out.pick hk (n : Int) (by omega) (by omega)).mono ?_
  rintro e w4 ⟨p4, rfl, p40, p41, h4⟩
  obtain ⟨j, hj⟩ : ∃ j : Nat, p4 = j := ⟨p4.toNat, by omega⟩
  subst hj
  have jn : j < ws.length := by rw [HN.out]; omega
  obtain ⟨t, ht⟩ : ∃ t, ws[j]? = some t := ⟨_, List.getElem?_eq_getElem jn⟩
  have c0 := h4.p1.cell (i := j) (u := .string ⟨t.toArray⟩) (by rw [List.getElem?_toArray, List.getElem?_map, ht]; rfl)
  have H4 := Lib.hid h4
  have jl : j < n := by omega
  have HT := Lib.hid (List.mem_of_getElem? ht)
  clear h4 H ht jn
  go_wp2
  go_ret
  exact ⟨t, rfl, HT.out, H4.out⟩
end
section
variable {B : Nat} {w0 w : World} {l : List Ch}
theorem ext_some (t : Bs) (f k : Nat) (h : t.length ≤ 12) : ∃ A : Bs, A.length ≤ 12 ∧ (⟨t.toArray⟩ : ByteArray).extract f k = ⟨A.toArray⟩ := ⟨_, by simp; omega, ext_bytes t f k⟩
def bent4 : List Bs := [[32], [48], [57], [120]]
def bent8 : List Bs := [[], [99, 111, 117, 110, 116], [99, 111, 117, 110, 116, 32, 49], [99, 111, 117, 110, 116, 32, 49, 32, 49, 48, 48], [98, 101, 97, 99, 111, 110, 32, 48], [116, 97, 107, 101], [99, 117, 116, 32, 49], [104, 101, 108, 108, 111, 32, 48, 49]]
set_option maxRecDepth 100000 in
set_option maxHeartbeats 16000000 in
theorem drawDeedRead_at {v : Value} {n : Nat} (h : M B w0 w l) (hv : ∃ x cap, v = .slice x n cap) (ht : Bts w0 B v n) : Calls Tryd.prog 12 #[v] w fun e w' => ∃ t : Bs, e = .returned (.string ⟨t.toArray⟩) ∧ t.length ≤ 1000 ∧ M B w0 w' l := by
  have H := Lib.hid h
  clear h
  have HV := Lib.hid hv
  clear hv
  go_enter Tryd.func12, Tryd.ntmps12
  go_wp2_with fail
  refine (H.out.openRd HV.out ht).mono ?_
  rintro e w1 ⟨rfl, h1⟩
  obtain ⟨rd, hrd⟩ : ∃ rd, rd = w.heap.size := ⟨_, rfl⟩
  rw [← hrd] at h1 ⊢
  clear hrd HV H ht
  have H1 := Lib.hid h1
  clear h1
  go_wp2_with fail
  refine (drawDeed_at H1.out (by omega)).mono ?_
  rintro e w2 ⟨x, y, z, rfl, h2⟩
  clear H1
  have H2 := Lib.hid h2
  clear h2
  go_wp2_with fail
  refine (spDeedText_at H2.out x y z).mono ?_
  rintro e w3 ⟨rfl, h3⟩
  have H3 := Lib.hid h3
  clear h3 H2
  have TL := Lib.hid (text_len (d := ⟨x, y, z⟩))
  unfold bsV
  generalize textD ⟨x, y, z⟩ = t at TL ⊢
  go_wp2_with fail
  refine (H3.out.pick (by omega) 2 (by omega) (by omega)).mono ?_
  rintro e w4 ⟨p4, rfl, p40, p41, h4⟩
  have H4 := Lib.hid h4
  clear h4 H3
  by_cases q0 : p4 = 0
  · subst q0
    clear p40 p41
    go_wp2
    go_ret
    exact ⟨t, rfl, Nat.le_trans TL.out (by decide), H4.out.drop⟩
  have g0 : (p4 == 0) = false := by simpa using q0
  clear q0 p40 p41
  by_cases q : t = []
  · subst q
    go_wp2
    go_ret
    exact ⟨[], rfl, by decide, H4.out.drop⟩
  have ee : t.isEmpty = false := by cases t with
    | nil => exact absurd rfl q
    | cons a b => rfl
  have eb : (t == []) = false := by simpa using q
  have t1 : 0 < t.length := List.length_pos_iff.2 q
  clear q
  go_wp2_with fail
  refine (H4.out.pick (by omega) (t.length : Int) (by omega) (by have := TL.out; omega)).mono ?_
  rintro e w5 ⟨p5, rfl, p50, p51, h5⟩
  have H5 := Lib.hid h5
  clear h5 H4
  obtain ⟨i, hi⟩ : ∃ i : Nat, p5 = i := ⟨p5.toNat, by omega⟩
  subst hi
  have il : i < t.length := by omega
  clear p50 p51
  obtain ⟨A, lA, eA⟩ := ext_some t 0 i TL.out
  obtain ⟨C, lC, eC⟩ := ext_some t (i + 1) t.length TL.out
  obtain ⟨D, lD, eD⟩ := ext_some t i t.length TL.out
  have tl := TL.out
  have ile : i ≤ t.length := by omega
  have ile1 : i + 1 ≤ t.length := by omega
  go_wp2_with fail
  refine (H5.out.pick (by omega) 4 (by omega) (by omega)).mono ?_
  rintro e w6 ⟨p6, rfl, p60, p61, h6⟩
  have H6 := Lib.hid h6
  clear h6 H5
  obtain rfl | rfl | rfl | rfl : p6 = 0 ∨ p6 = 1 ∨ p6 = 2 ∨ p6 = 3 := by omega
  · have ws : IntKind.i64.wrap ((i : Int) + 1) = (i : Int) + 1 := IntWalk.i64_in _ (by omega)
    have ib : (0 : Int) ≤ (i : Int) + 1 := by omega
    have ic : (i : Int) + 1 ≤ (t.length : Int) := by omega
    have i1 : ((i : Int) + 1).toNat = i + 1 := by omega
    have sz : ¬ 9223372036854775807 < A.length + C.length := by omega
    go_upto_region 8 with fail
    refine wp_region_plan 8 (.take 0 (.take 1 (.take 2 (.take 3 (.take 4 (.take 5 (.take 6 (.take 7 (.alt 8 .done .nomore))))))))) (fun _ => True) (by kernel_rfl) (by kernel_rfl) (fun _ _ _ _ _ h => h) trivial ?_
    repeat (first | (refine plan_take (by rfl) (by rfl) ?_; apply Exists.intro; refine ⟨fun w' hw' => ?_, ?_⟩; (· ((try dsimp only at hw'); go_simp; (try with_reducible rfl))); simp only [Act.put, List.getElem_toArray, List.getElem_cons_succ, List.getElem_cons_zero, List.setIfInBounds_toArray, List.set_cons_zero, List.set_cons_succ]) | (refine plan_skip (by rfl) (by rfl) ?_; simp only [Act.put, List.getElem_toArray, List.getElem_cons_succ, List.getElem_cons_zero, List.setIfInBounds_toArray, List.set_cons_zero, List.set_cons_succ]))
    refine plan_last (by rfl) (fun K hK => ?_)
    go_simp
    refine hK _ _ (.inl rfl) ?_
    clear hK K
    try simp only [Act.put, List.getElem_toArray, List.getElem_cons_succ, List.getElem_cons_zero, List.setIfInBounds_toArray, List.set_cons_zero, List.set_cons_succ]
    refine plan_done ?_
    go_wp2
    go_ret
    exact ⟨A ++ C, by rw [← bs_app]; rfl, by simp; omega, H6.out.drew.drop⟩
  · go_upto_region 10 with fail
    refine wp_region_plan 11 (.take 0 (.take 1 (.take 2 (.take 3 (.take 7 (.take 8 (.take 9 (.alt 4 (.alt 5 (.take 6 (.take 10 (.alt 11 .done .nomore))) .nomore) .nomore)))))))) (fun _ => True) (by kernel_rfl) (by kernel_rfl) (fun _ _ _ _ _ h => h) trivial ?_
    repeat (first | (refine plan_take (by rfl) (by rfl) ?_; apply Exists.intro; refine ⟨fun w' hw' => ?_, ?_⟩; (· ((try dsimp only at hw'); go_simp; (try with_reducible rfl))); simp only [Act.put, List.getElem_toArray, List.getElem_cons_succ, List.getElem_cons_zero, List.setIfInBounds_toArray, List.set_cons_zero, List.set_cons_succ]) | (refine plan_skip (by rfl) (by rfl) ?_; simp only [Act.put, List.getElem_toArray, List.getElem_cons_succ, List.getElem_cons_zero, List.setIfInBounds_toArray, List.set_cons_zero, List.set_cons_succ]))
    refine plan_last (by rfl) (fun K' hK => ?_)
    go_simp
    have h7 := (H6.out.drew.alloc #[.string ⟨#[32]⟩, .string ⟨#[48]⟩, .string ⟨#[57]⟩, .string ⟨#[120]⟩] 9).p1
    refine hK _ _ (.inr trivial) ?_
    clear hK K'
    try simp only [Act.put, List.getElem_toArray, List.getElem_cons_succ, List.getElem_cons_zero, List.setIfInBounds_toArray, List.set_cons_zero, List.set_cons_succ]
    refine plan_last (by rfl) (fun K' hK => ?_)
    go_simp
    refine (of_at (ws := bent4) h7 (by omega) rfl (by decide) (by decide)).mono ?_
    rintro e w8 ⟨u, rfl, hu, h8⟩
    have lu : u.length ≤ 1 := (show ∀ x ∈ bent4, x.length ≤ 1 by decide) u hu
    have sz1 : ¬ 9223372036854775807 < A.length + u.length := by omega
    have sz2 : ¬ 9223372036854775807 < A.length + u.length + D.length := by omega
    refine hK _ _ (.inr trivial) ?_
    clear hK K'
    try simp only [Act.put, List.getElem_toArray, List.getElem_cons_succ, List.getElem_cons_zero, List.setIfInBounds_toArray, List.set_cons_zero, List.set_cons_succ]
    repeat (first | (refine plan_take (by rfl) (by rfl) ?_; apply Exists.intro; refine ⟨fun w' hw' => ?_, ?_⟩; (· ((try dsimp only at hw'); go_simp; (try with_reducible rfl))); simp only [Act.put, List.getElem_toArray, List.getElem_cons_succ, List.getElem_cons_zero, List.setIfInBounds_toArray, List.set_cons_zero, List.set_cons_succ]) | (refine plan_skip (by rfl) (by rfl) ?_; simp only [Act.put, List.getElem_toArray, List.getElem_cons_succ, List.getElem_cons_zero, List.setIfInBounds_toArray, List.set_cons_zero, List.set_cons_succ]))
    refine plan_last (by rfl) (fun K hK => ?_)
    go_simp
    refine hK _ _ (.inl rfl) ?_
    clear hK K
    try simp only [Act.put, List.getElem_toArray, List.getElem_cons_succ, List.getElem_cons_zero, List.setIfInBounds_toArray, List.set_cons_zero, List.set_cons_succ]
    refine plan_done ?_
    go_wp2
    go_ret
    exact ⟨A ++ u ++ D, by rw [← bs_app, ← bs_app]; rfl, by simp; omega, h8.drop.drop⟩
  · have h7 := (H6.out.alloc (bent8.map fun x => Value.string ⟨x.toArray⟩).toArray 9).p1
    go_wp2_with fail
    refine (of_at (ws := bent8) h7 (by omega) rfl (by decide) (by decide)).mono ?_
    rintro e w8 ⟨u, rfl, hu, h8⟩
    have lu : u.length ≤ 20 := (show ∀ x ∈ bent8, x.length ≤ 20 by decide) u hu
    go_wp2
    go_ret
    exact ⟨u, rfl, by omega, h8.drop.drop⟩
  · go_wp2
    go_ret
    exact ⟨A, rfl, by omega, H6.out.drop⟩
end
end N
end Go.Proofs.YtbnggcgojbkoaaaDoor
