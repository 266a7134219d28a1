/-
  The statement of the law FnRoughJoinGet: at every input the call returns true and leaves what it was given as it was. The frame is the kit's shell; the walk is ours.
-/
import Derived.Test.YteopnbjiffncbaaGetJoin
import Derived.Test.YteopnbjiffncbaaRows
import Derived.WalkKit
import Derived.ProofKit
import Derived.OpenShut
import Derived.ShutString
import Derived.ChangeOld
import Derived.Below
namespace Go.Proofs.Yteopnbjiffncbaa.fnRoughJoinGet
open Go.ChangeShapes Go.WideShapes Go.ChangeAt Go.RowKit
open Go.ChangeMaps (open_string shut_string)
open Go.Sort (grow)
set_option linter.unusedVariables false

theorem own : ownKnob Try.prog.godebug = none := by kernel_rfl
theorem laidOut : laidOutB Try.prog = true := by kernel_rfl

/-- WHAT THE WALK IS TOLD OF A SLICE OF INTEGERS THAT CAME IN: it is nil; or it leads to a row of 'cap' cells, the numbers 'zs' (the first 'len' are its elements, the rest its spare room), each fitting its kind. -/
def IsRow (k : IntKind) (w : World) (a : Option Addr) (len cap : Nat) (zs : List Int) : Prop :=
  (a = none ∧ len = 0 ∧ cap = 0 ∧ zs = []) ∨
  ∃ x, a = some x ∧ len ≤ cap ∧ cap ≤ maxLen ∧ zs.length = cap ∧ (∀ i, i < zs.length → w.cell? (x.add i) = some (.int k (zs.getD i 0))) ∧ ∀ n ∈ zs, (Lit.int k n).wf = true

/-! ### STEP 1: THE WALK: the Go text returns true, AND WRITES NOTHING THAT WAS THERE: 'Below w.heap.size w w'' (Derived/Below.lean: '.refl', '.alloc', '.drew', '.setCell' at a new block, '.trans'). Open each 'IsRow' by 'rcases' AHEAD of 'go_enter'; part every test ahead of the walk. -/
theorem walk (a0 : Option Addr) (len0 cap0 : Nat) (z0 : List Int) (a1 : Option Addr) (len1 cap1 : Nat) (z1 : List Int) (w : World) (w0 : IsRow .u8 w a0 len0 cap0 z0) (w1 : IsRow .u8 w a1 len1 cap1 z1) :
    Calls Try.prog 11 #[.slice a0 len0 cap0, .slice a1 len1 cap1] w fun e w' => e = .returned (.bool true) ∧ Below w.heap.size w w' := by
  obtain ⟨hb, hl⟩ := bts_of w a0 len0 cap0 z0 w0
  obtain ⟨hb', hl'⟩ := bts_of w a1 len1 cap1 z1 w1
  rcases hl with hl | hl
  · go_enter Try.func11, Try.ntmps11
    go_wp2
    go_ret
    exact ⟨rfl, Below.refl _ _⟩
  rcases hl' with hl' | hl'
  · go_enter Try.func11, Try.ntmps11
    go_wp2
    go_ret
    exact ⟨rfl, Below.refl _ _⟩
  have HB := Lib.hid hb
  have HB' := Lib.hid hb'
  clear hb hb' w0 w1
  go_enter Try.func11, Try.ntmps11
  go_wp2_with fail
  refine (drawJoin_at w _ len0 ⟨_, _, rfl⟩ HB.out).mono ?_
  rintro e w1 ⟨x, m, c, ra, x', m', c', rb, rfl, hra, hrb, hb1⟩
  obtain ⟨W1, hW⟩ : ∃ W, W = (w1.alloc (.cells #[.slice x m c] 29)).alloc (.cells #[.slice x' m' c'] 29) := ⟨_, rfl⟩
  have hA : Below w1.heap.size w1 W1 := by rw [hW]; exact ((Below.refl _ _).alloc (Nat.le_refl _) _).alloc (by simp) _
  have c5 : W1.cell? ⟨w1.heap.size, 0, none⟩ = some (.slice x m c) := by rw [hW, World.cell?_alloc_past (hn := by simp), World.cell?_alloc_at (hn := rfl)]; simp
  have c6 : W1.cell? ⟨w1.heap.size + 1, 0, none⟩ = some (.slice x' m' c') := by rw [hW, World.cell?_alloc_at (hn := by simp)]; simp
  have RA := Lib.hid (hra.below hA (Nat.le_refl _))
  have RB := Lib.hid (hrb.below hA (Nat.le_refl _))
  have B1 := Lib.hid (hb1.trans (hA.mono hb1.size))
  clear hA hra hrb hb1
  go_wp2_with fail
  rw [← hW]
  clear hW
  refine (drawGet_at W1 _ len1 ⟨_, _, rfl⟩ (bts_below HB'.out B1.out)).mono ?_
  rintro e w2 ⟨y, p, d, rc, t, rfl, hrc, _, _, hb2⟩
  have c5a := cell_later hb2 c5
  have c6a := cell_later hb2 c6
  have l5 := World.block_lt_of_cell? _ _ c5a
  have l6 := World.block_lt_of_cell? _ _ c6a
  obtain ⟨W2, hW⟩ : ∃ W, W = w2.alloc (.cells #[.slice y p d] 29) := ⟨_, rfl⟩
  have hA : Below w2.heap.size w2 W2 := by rw [hW]; exact (Below.refl _ _).alloc (Nat.le_refl _) _
  have d7 : W2.cell? ⟨w2.heap.size, 0, none⟩ = some (.slice y p d) := by rw [hW]; simp
  have d5 := cell_later hA c5a
  have d6 := cell_later hA c6a
  have hB := hb2.trans (hA.mono hb2.size)
  have SA := Lib.hid (RA.out.below hB (Nat.le_refl _))
  have SB := Lib.hid (RB.out.below hB (Nat.le_refl _))
  have SC := Lib.hid (hrc.below hA (Nat.le_refl _))
  have B2 := Lib.hid (B1.out.trans (hB.mono B1.out.size))
  clear hA hB hrc hb2 c5 c6 RA RB B1 HB HB'
  go_wp2_with fail
  rw [← hW]
  clear hW c5a c6a l5 l6
  refine (spJoin_end W2 _ _ ra rb SA.out SB.out).mono ?_
  intro e w3 he
  obtain ⟨u, q, g, rfl, hb3, hw⟩ := he.rws
  clear he
  have e5 := cell_later hb3 d5
  have e6 := cell_later hb3 d6
  have e7 := cell_later hb3 d7
  have l5 := World.block_lt_of_cell? _ _ e5
  have l6 := World.block_lt_of_cell? _ _ e6
  have l7 := World.block_lt_of_cell? _ _ e7
  have hA : Below w3.heap.size w3 (w3.alloc (.cells #[.slice u q g] 29)) := (Below.refl _ _).alloc (Nat.le_refl _) _
  obtain ⟨W3, hW⟩ : ∃ W, W = w3.alloc (.cells #[.slice u q g] 29) := ⟨_, rfl⟩
  rw [← hW] at hA
  have f5 := cell_later hA e5
  have f6 := cell_later hA e6
  have f7 := cell_later hA e7
  have f9 : W3.cell? ⟨w3.heap.size, 0, none⟩ = some (.slice u q g) := by rw [hW]; simp
  have hB := hb3.trans (hA.mono hb3.size)
  have TA := Lib.hid (SA.out.below hB (Nat.le_refl _))
  have TB := Lib.hid (SB.out.below hB (Nat.le_refl _))
  have TC := Lib.hid (SC.out.below hB (Nat.le_refl _))
  have TW := Lib.hid (hw.below hA (Nat.le_refl _))
  have B3 := Lib.hid (B2.out.trans (hB.mono B2.out.size))
  clear hA hB hb3 d5 d6 d7 SA SB SC B2 hw
  go_wp2_with fail
  rw [← hW]
  clear hW e5 e6 e7 l5 l6 l7
  refine (imJoin_end W3 _ _ ra rb TA.out TB.out).mono ?_
  intro e w4 he
  obtain ⟨v, r, h, rfl, hb4, hw⟩ := he.rws
  clear he
  have g5 := cell_later hb4 f5
  have g6 := cell_later hb4 f6
  have g7 := cell_later hb4 f7
  have g9 := cell_later hb4 f9
  have l5 := World.block_lt_of_cell? _ _ g5
  have l6 := World.block_lt_of_cell? _ _ g6
  have l7 := World.block_lt_of_cell? _ _ g7
  have l9 := World.block_lt_of_cell? _ _ g9
  have hA : Below w4.heap.size w4 (w4.alloc (.cells #[.slice v r h] 29)) := (Below.refl _ _).alloc (Nat.le_refl _) _
  obtain ⟨W4, hW⟩ : ∃ W, W = w4.alloc (.cells #[.slice v r h] 29) := ⟨_, rfl⟩
  rw [← hW] at hA
  have h5 := cell_later hA g5
  have h6 := cell_later hA g6
  have h7 := cell_later hA g7
  have h9 := cell_later hA g9
  have h11 : W4.cell? ⟨w4.heap.size, 0, none⟩ = some (.slice v r h) := by rw [hW]; simp
  have hB := hb4.trans (hA.mono hb4.size)
  have UA := Lib.hid (TA.out.below hB (Nat.le_refl _))
  have UB := Lib.hid (TB.out.below hB (Nat.le_refl _))
  have UC := Lib.hid (TC.out.below hB (Nat.le_refl _))
  have UW := Lib.hid (TW.out.below hB (Nat.le_refl _))
  have UX := Lib.hid (hw.below hA (Nat.le_refl _))
  have B4 := Lib.hid (B3.out.trans (hB.mono B3.out.size))
  clear hA hB hb4 f5 f6 f7 f9 TA TB TC TW B3 hw
  have len : (resV (joinB ra rb) (joinV ra rb)).length ≤ maxLen ∧ ∀ i, i < (resV (joinB ra rb) (joinV ra rb)).length → ((resV (joinB ra rb) (joinV ra rb)).getD i []).length ≤ maxLen := by
    unfold resV
    by_cases hj : joinB ra rb = true
    · rw [if_pos hj]
      refine ⟨show 3 ≤ maxLen by unfold maxLen; omega, fun i hi => ?_⟩
      rw [joinV_get _ _ i (show i < 3 from hi)]
      show (addRows _ _).length ≤ maxLen
      simp [addRows, maxLen]
    · rw [if_neg hj]
      exact ⟨Nat.zero_le _, fun i hi => absurd hi (Nat.not_lt_zero i)⟩
  have LEN := Lib.hid len
  clear len
  cases hj : joinB ra rb with
  | false =>
    rw [hj] at UX UW LEN
    go_wp2_with fail
    rw [← hW]
    refine (lkRough_at W4 _ _ _ _ UX.out UW.out LEN.out.1 LEN.out.2).mono ?_
    rintro e w5 ⟨rfl, hb5⟩
    rw [decide_eq_true rfl]
    have i11 := cell_later hb5 h11
    have i9 := cell_later hb5 h9
    have VX := Lib.hid (UX.out.below hb5 (Nat.le_refl _))
    have VW := Lib.hid (UW.out.below hb5 (Nat.le_refl _))
    have B5 := Lib.hid (B4.out.trans (hb5.mono B4.out.size))
    clear hb5 hW h11 h9
    go_wp2_with fail
    refine (lkRough_at w5 _ _ _ _ VX.out VW.out LEN.out.1 LEN.out.2).mono ?_
    rintro e w6 ⟨rfl, hb6⟩
    rw [decide_eq_true rfl]
    go_wp2
    go_ret
    exact ⟨rfl, B5.out.trans (hb6.mono B5.out.size)⟩
  | true =>
    rw [hj] at UX UW LEN
    by_cases ht : t < 0 ∨ 64 ≤ t
    · rcases ht with ht | ht
      all_goals
        go_wp2_with fail
        rw [← hW]
        refine (lkRough_at W4 _ _ _ _ UX.out UW.out LEN.out.1 LEN.out.2).mono ?_
        rintro e w5 ⟨rfl, hb5⟩
        rw [decide_eq_true rfl]
        have i11 := cell_later hb5 h11
        have i9 := cell_later hb5 h9
        have VX := Lib.hid (UX.out.below hb5 (Nat.le_refl _))
        have VW := Lib.hid (UW.out.below hb5 (Nat.le_refl _))
        have B5 := Lib.hid (B4.out.trans (hb5.mono B4.out.size))
        clear hb5 hW h11 h9
        go_wp2_with fail
        refine (lkRough_at w5 _ _ _ _ VX.out VW.out LEN.out.1 LEN.out.2).mono ?_
        rintro e w6 ⟨rfl, hb6⟩
        rw [decide_eq_true rfl]
        go_wp2
        go_ret
        exact ⟨rfl, B5.out.trans (hb6.mono B5.out.size)⟩
    have n0 : ¬ t < 0 := by omega
    have n1 : ¬ 64 ≤ t := by omega
    go_wp2_with fail
    rw [← hW]
    refine (lkRough_at W4 _ _ _ _ UX.out UW.out LEN.out.1 LEN.out.2).mono ?_
    rintro e w5 ⟨rfl, hb5⟩
    rw [decide_eq_true rfl]
    have i5 := cell_later hb5 h5
    have i6 := cell_later hb5 h6
    have i11 := cell_later hb5 h11
    have VA := Lib.hid (UA.out.below hb5 (Nat.le_refl _))
    have VB := Lib.hid (UB.out.below hb5 (Nat.le_refl _))
    have VX := Lib.hid (UX.out.below hb5 (Nat.le_refl _))
    have B5 := Lib.hid (B4.out.trans (hb5.mono B4.out.size))
    clear hb5 hW h11 h9 h5 h6 h7 UA UB UC UX UW LEN B4 g5 g6 g7 g9 l5 l6 l7 l9
    rw [show resV true (joinV ra rb) = joinV ra rb from rfl] at VX
    go_wp2_with fail
    refine (imGet_at w5 _ _ t VX.out).mono ?_
    rintro e w6 ⟨rfl, hb6⟩
    obtain ⟨m0, m1, ⟨m2, m3⟩, ⟨m4, m5⟩, m6, m7⟩ := getV_join hj (by omega : 0 ≤ t) (by omega : t < 64)
    have j5 := cell_later hb6 i5
    have j6 := cell_later hb6 i6
    have XA := Lib.hid (VA.out.below hb6 (Nat.le_refl _))
    have XB := Lib.hid (VB.out.below hb6 (Nat.le_refl _))
    have B6 := Lib.hid (B5.out.trans (hb6.mono B5.out.size))
    have KA : Hid (∀ (d : Nat) (os : Array Obj), Calls Try.prog 24 #[.agg #[.slice x m c], .int .i64 t] (Go.Sort.grow (redrawn w6 d) os) fun e w'' => e = .returned (.int .i64 (getV ra t)) ∧ ∃ p : Regrown, w'' = Go.Sort.grow (redrawn w6 p.d) p.os) := fun d os => Calls.regrown_of (imGet_at _ _ ra t (XA.out.below (below_regrown w6 d os) (Nat.le_refl _)))
    have KB : Hid (∀ (d : Nat) (os : Array Obj), Calls Try.prog 24 #[.agg #[.slice x' m' c'], .int .i64 t] (Go.Sort.grow (redrawn w6 d) os) fun e w'' => e = .returned (.int .i64 (getV rb t)) ∧ ∃ p : Regrown, w'' = Go.Sort.grow (redrawn w6 p.d) p.os) := fun d os => Calls.regrown_of (imGet_at _ _ rb t (XB.out.below (below_regrown w6 d os) (Nat.le_refl _)))
    have KS : Hid (∀ (d : Nat) (os : Array Obj), Calls Try.prog 22 #[.agg #[.slice x' m' c']] (Go.Sort.grow (redrawn w6 d) os) fun e w'' => e = .returned (.int .i64 (allV rb)) ∧ ∃ p : Regrown, w'' = Go.Sort.grow (redrawn w6 p.d) p.os) := fun d os => Calls.regrown_of (roughAll_at _ _ rb (XB.out.below (below_regrown w6 d os) (Nat.le_refl _)))
    have r5 := cell_regrown j5
    have r6 := cell_regrown j6
    generalize getV (joinV ra rb) t = N at *
    generalize getV ra t = GA at *
    generalize getV rb t = GB at *
    generalize allV rb = SB at *
    have d0 : decide (GA + GB ≤ N) = true := decide_eq_true m0
    have d1 : decide (N ≤ GA + SB) = true := decide_eq_true m1
    have wa : IntKind.i64.wrap (GA + GB) = GA + GB := IntWalk.i64_in _ (by omega)
    have wb : IntKind.i64.wrap (GA + SB) = GA + SB := IntWalk.i64_in _ (by omega)
    clear hb6 i5 i6 i11 VA VB VX B5 XA XB hj
    go_wp2
    refine boxed_region (by kernel_rfl) (by kernel_rfl) ?_
    repeat (refine boxed_step (fun K hK => ?_); go_simp; first | (refine hK _ ?_; clear hK K) | (apply Exists.intro; refine ⟨fun _ => ?_, hK _ ?_⟩; (first | (with_reducible exact KA.out _ _) | (with_reducible exact KB.out _ _) | (with_reducible exact KS.out _ _)); clear hK K))
    refine boxed_nil ?_
    intro _ hw'
    obtain ⟨⟨dq, oq⟩, hw''⟩ := hw'
    subst hw''
    have hb_w7 := below_regrown w6 dq oq
    obtain ⟨w7, hq_w7⟩ : ∃ x, x = grow (redrawn w6 dq) oq := ⟨_, rfl⟩
    rw [← hq_w7] at hb_w7 ⊢
    clear hq_w7
    have B7 := Lib.hid (B6.out.trans (hb_w7.mono B6.out.size))
    clear hb_w7 r5 r6 KA KB KS
    go_wp2
    go_ret
    exact ⟨by simp [*], B7.out⟩

/-! ### THE ROW's STEP: WRITTEN OUT: LEAVE IT -/
set_option maxRecDepth 100000 in
theorem lifted (os : Os) (started : os.Started) (H : Type) (enc : TypeId × Value → H) :
    ReturnsInHanded {} Try.checked os 11 .any (Rows.fnRoughJoinGetSpec.pre6 enc Try.prog Try.f11 Rows.fnRoughJoinGetRow.domain false) (Rows.fnRoughJoinGetSpec.post enc Try.prog Try.f11 false true false false) := by
  refine returnsInHanded_of_change (C := Try.checked) own started (by kernel_rfl) Try.func11
    (ChangeSpec.witness6 (enc := enc) (C := Try.checked) false ⟨#[], #[.slice none 0 0, .slice none 0 0], []⟩ 8 (by kernel_rfl) (by kernel_rfl) (by kernel_rfl) (by kernel_rfl)) ?_
  intro W base args ds gs before hval0 hW hcnd _
  have hval : ∀ (j : Nat) t v, Try.f11.params[j]? = some t → args[j]? = some v → Value.okWide Try.prog W .any base t v := hval0
  have hW' := hW
  obtain ⟨p, q, hA0, hV, rfl, hfz, hnd⟩ := hW
  have hA : DataW.TrodAll enc Try.prog W 0 (fun _ => true) true Try.f11.params.toList args.toList ds p := hA0
  rw [Try.params11] at hA hval
  obtain ⟨v0, vs0, d0, ds0, p0, q0, hargs, rfl, rfl, h0, r0⟩ := trodAll_cons hA
  obtain ⟨v1, vs1, d1, ds1, p1, q1, rfl, rfl, rfl, h1, r1⟩ := trodAll_cons r0
  obtain ⟨rfl, rfl, rfl⟩ := trodAll_nil r1
  obtain rfl : args = #[v0, v1] := by cases args; simp_all
  obtain ⟨rfl, rfl⟩ := trodVars_none hV
  obtain ⟨a0, len0, cap0, rfl⟩ := okWide_slice Try.underlying22 (hval 0 22 v0 rfl rfl)
  have k0 := h0
  have lt0 : ∀ x ∈ p0, x.block < W.heap.size := by obtain ⟨m, hm⟩ := k0; exact DataW.trod_lt m _ _ _ hm
  obtain ⟨z0, w0⟩ : ∃ zs, IsRow .u8 W a0 len0 cap0 zs := by
    obtain ⟨fuel, hf⟩ := h0
    rcases open_ints Try.underlying22 Try.underlying5 (by kernel_rfl) hf with ⟨hcs, _⟩ | ⟨x, l, c, zs, hcs, _, hl, hm, hz, _, hcell, hwz⟩
    · simp [Value.cells] at hcs
      obtain ⟨rfl, rfl, rfl⟩ := hcs
      exact ⟨[], .inl ⟨rfl, rfl, rfl, rfl⟩⟩
    · simp [Value.cells] at hcs
      obtain ⟨rfl, rfl, rfl⟩ := hcs
      exact ⟨zs, .inr ⟨_, rfl, hl, hm, by simpa using hz, hcell, hwz⟩⟩
  obtain ⟨a1, len1, cap1, rfl⟩ := okWide_slice Try.underlying22 (hval 1 22 v1 rfl rfl)
  have k1 := h1
  have lt1 : ∀ x ∈ p1, x.block < W.heap.size := by obtain ⟨m, hm⟩ := k1; exact DataW.trod_lt m _ _ _ hm
  obtain ⟨z1, w1⟩ : ∃ zs, IsRow .u8 W a1 len1 cap1 zs := by
    obtain ⟨fuel, hf⟩ := h1
    rcases open_ints Try.underlying22 Try.underlying5 (by kernel_rfl) hf with ⟨hcs, _⟩ | ⟨x, l, c, zs, hcs, _, hl, hm, hz, _, hcell, hwz⟩
    · simp [Value.cells] at hcs
      obtain ⟨rfl, rfl, rfl⟩ := hcs
      exact ⟨[], .inl ⟨rfl, rfl, rfl, rfl⟩⟩
    · simp [Value.cells] at hcs
      obtain ⟨rfl, rfl, rfl⟩ := hcs
      exact ⟨zs, .inr ⟨_, rfl, hl, hm, by simpa using hz, hcell, hwz⟩⟩
  clear hA0 hval0
  refine (walk a0 len0 cap0 z0 a1 len1 cap1 z1 W w0 w1).mono fun e W' ⟨he, bel⟩ => ?_
  subst he
  exact ⟨_, rfl, _, _, _, [], _, [], hW', trodAll_mk1 (shut_bool Try.underlying4 _), (trodAll_cons_mk (Below.trod laidOut (by kernel_rfl) (of_decide_eq_true (by kernel_rfl)) k0 bel lt0) (trodAll_cons_mk (Below.trod laidOut (by kernel_rfl) (of_decide_eq_true (by kernel_rfl)) k1 bel lt1) trodAll_mk0)), rfl, bel.frame _, fun h => by cases h⟩

theorem over : Rows.fnRoughJoinGetRow.holds Try.pinned (OpenSpec.ofChange Rows.fnRoughJoinGetSpec) :=
  OpenClaim.holds_of_wide 11 Try.f11 rfl rfl rfl rfl rfl rfl rfl ⟨rfl, rfl, rfl, rfl, rfl⟩ rfl rfl rfl rfl rfl (by kernel_rfl) Try.func11 (by kernel_rfl)
    (of_decide_eq_true (by kernel_rfl)) (by unfold Func.isWrapper; first | (rw [if_pos (by decide +kernel)]; kernel_rfl) | (rw [if_neg (by decide +kernel)]; exact ⟨rfl, rfl⟩))
    (fun os started H enc _ => lifted os started H enc)

theorem proved : Rows.FnRoughJoinGetSaid := over
#print axioms proved
end Go.Proofs.Yteopnbjiffncbaa.fnRoughJoinGet
