/-
  The statement of the law FnRankAdd: at every input the call returns true and leaves what it was given as it was. The frame is the kit's shell; the walk is ours.
-/
import Derived.Test.YtnpcgbjkahpcfaaKDraw2
import Derived.Test.YtnpcgbjkahpcfaaKLk
import Derived.Test.YtnpcgbjkahpcfaaKSay
import Derived.Test.YtnpcgbjkahpcfaaRows
import Derived.WalkKit
import Derived.ProofKit
import Derived.OpenShut
import Derived.ShutString
import Derived.ChangeOld
import Derived.Below
namespace Go.Proofs.Ytnpcgbjkahpcfaa.fnRankAdd
open Go.ChangeShapes Go.WideShapes Go.ChangeAt Go.RowKit
open Go.ChangeMaps (open_string shut_string)
set_option linter.unusedVariables false

theorem own : ownKnob Try.prog.godebug = none := by kernel_rfl
theorem laidOut : laidOutB Try.prog = true := by kernel_rfl

/-- WHAT THE WALK IS TOLD OF A SLICE OF INTEGERS THAT CAME IN: it is nil; or it leads to a row of 'cap' cells, the numbers 'zs' (the first 'len' are its elements, the rest its spare room), each fitting its kind. -/
def IsRow (k : IntKind) (w : World) (a : Option Addr) (len cap : Nat) (zs : List Int) : Prop :=
  (a = none ∧ len = 0 ∧ cap = 0 ∧ zs = []) ∨
  ∃ x, a = some x ∧ len ≤ cap ∧ cap ≤ maxLen ∧ zs.length = cap ∧ (∀ i, i < zs.length → w.cell? (x.add i) = some (.int k (zs.getD i 0))) ∧ ∀ n ∈ zs, (Lit.int k n).wf = true

/-! ### STEP 1: THE WALK: the Go text returns true, AND WRITES NOTHING THAT WAS THERE: 'Below w.heap.size w w'' (Derived/Below.lean: '.refl', '.alloc', '.drew', '.setCell' at a new block, '.trans'). Open each 'IsRow' by 'rcases' AHEAD of 'go_enter'; part every test ahead of the walk. -/
theorem walk (a0 : Option Addr) (len0 cap0 : Nat) (z0 : List Int) (w : World) (w0 : IsRow .u8 w a0 len0 cap0 z0) :
    Calls Try.prog 5 #[.slice a0 len0 cap0] w fun e w' => e = .returned (.bool true) ∧ Below w.heap.size w w' := by
  obtain ⟨hb, hl⟩ := bts_of w a0 len0 cap0 z0 w0
  rcases hl with hl | hl
  · go_enter Try.func5, Try.ntmps5
    go_wp2
    go_ret
    exact ⟨rfl, Below.refl _ _⟩
  have HB := Lib.hid hb
  clear hb w0
  go_enter Try.func5, Try.ntmps5
  go_wp2_with fail
  refine (drawKAdd_at w _ len0 ⟨_, _, rfl⟩ HB.out).mono ?_
  rintro e w1 ⟨u, all, t, rfl, ht, ps, own, len, al, hb1⟩
  obtain ⟨x, c, rfl, _, _⟩ := own.form
  obtain ⟨m, hm⟩ : ∃ m, m = ps.length := ⟨_, rfl⟩
  have OR := own.rd
  rw [← hm] at OR len ⊢
  have HM := Lib.hid hm
  obtain ⟨W, hW⟩ : ∃ W, W = w1.alloc (.cells #[.slice x m c, .int .i64 all] 29) := ⟨_, rfl⟩
  have hA := (Below.refl w1.heap.size w1).alloc (Nat.le_refl _) (.cells #[.slice x m c, .int .i64 all] 29)
  have X0 : Box2 W w1.heap.size 29 (.slice x m c) (.int .i64 all) := by rw [hW]; exact Box2.new _ _ _ _
  have P0 : Hid (Prs W (.slice x m c) ps) := by show Prs _ _ _; rw [hW]; exact OR.below hA (Nat.le_refl _)
  have B0 : Hid (Below w.heap.size w W) := by show Below _ _ _; rw [hW]; exact hb1.trans (hA.mono hb1.size)
  clear own OR hA hb1 hm
  go_wp2_with fail
  rw [← hW]
  clear hW
  have x0 := X0.cell0
  have x1 := X0.cell1
  have S2 := spRankAdd_at W _ ps all t P0.out
  have I2 : ∀ w v, Prs w v ps → _ := fun w v h => imRankAdd_at w v ps all t h
  have AM := @addK_say ps all t
  have LN := addK_len ps all t
  generalize addK ps all t = A at S2 I2 AM LN
  generalize addOkK ps all t = ok at S2 I2 AM
  obtain ⟨ns, na⟩ := A
  simp only at S2 I2 AM LN
  have HS2 := Lib.hid S2
  have HI2 := Lib.hid I2
  have HAM := Lib.hid AM
  have HLN := Lib.hid LN
  clear S2 I2 AM LN
  go_wp2_with fail
  refine HS2.out.mono ?_
  rintro e w2 ⟨v, rfl, ow, hb2⟩
  obtain ⟨y, d, rfl, _, _⟩ := ow.form
  obtain ⟨k, hk⟩ : ∃ k, k = ns.length := ⟨_, rfl⟩
  have OR := ow.rd
  rw [← hk] at OR ⊢
  have HK := Lib.hid hk
  obtain ⟨W2, hW⟩ : ∃ W, W = w2.alloc (.cells #[.slice y k d, .int .i64 na] 29) := ⟨_, rfl⟩
  have hA := (Below.refl w2.heap.size w2).alloc (Nat.le_refl _) (.cells #[.slice y k d, .int .i64 na] 29)
  have Y0 : Box2 W2 w2.heap.size 29 (.slice y k d) (.int .i64 na) := by rw [hW]; exact Box2.new _ _ _ _
  have X2 : Box2 W2 w1.heap.size 29 (.slice x m c) (.int .i64 all) := by rw [hW]; exact (X0.later hb2).alloc _
  have P2 : Hid (Prs W2 (.slice x m c) ps) := by show Prs _ _ _; rw [hW]; exact (P0.out.below hb2 (Nat.le_refl _)).below hA (Nat.le_refl _)
  have Q2 : Hid (Prs W2 (.slice y k d) ns) := by show Prs _ _ _; rw [hW]; exact OR.below hA (Nat.le_refl _)
  have B2 : Hid (Below w.heap.size w W2) := by show Below _ _ _; rw [hW]; exact (B0.out.trans (hb2.mono B0.out.size)).trans (hA.mono (B0.out.trans (hb2.mono B0.out.size)).size)
  have XA := (X0.later hb2).alloc (.cells #[.slice y k d, .int .i64 na] 29)
  have xa0 := XA.cell0
  have xa1 := XA.cell1
  clear ow OR hA hb2 hk x0 x1 X0 P0 B0 XA
  go_wp2_with fail
  rw [← hW]
  clear hW xa0 xa1
  have x0 := X2.cell0
  have x1 := X2.cell1
  go_wp2_with fail
  refine (HI2.out W2 _ P2.out).mono ?_
  rintro e w3 ⟨v, rfl, ow, hb3⟩
  obtain ⟨z, f, rfl, _, _⟩ := ow.form
  have OR := ow.rd
  rw [← HK.out] at OR ⊢
  obtain ⟨W3, hW⟩ : ∃ W, W = w3.alloc (.cells #[.slice z k f, .int .i64 na] 29) := ⟨_, rfl⟩
  have hA := (Below.refl w3.heap.size w3).alloc (Nat.le_refl _) (.cells #[.slice z k f, .int .i64 na] 29)
  have Z3 : Box2 W3 w3.heap.size 29 (.slice z k f) (.int .i64 na) := by rw [hW]; exact Box2.new _ _ _ _
  have X3 : Box2 W3 w1.heap.size 29 (.slice x m c) (.int .i64 all) := by rw [hW]; exact (X2.later hb3).alloc _
  have Y3 : Box2 W3 w2.heap.size 29 (.slice y k d) (.int .i64 na) := by rw [hW]; exact (Y0.later hb3).alloc _
  have P3 : Hid (Prs W3 (.slice x m c) ps) := by show Prs _ _ _; rw [hW]; exact (P2.out.below hb3 (Nat.le_refl _)).below hA (Nat.le_refl _)
  have Q3 : Hid (Prs W3 (.slice y k d) ns) := by show Prs _ _ _; rw [hW]; exact (Q2.out.below hb3 (Nat.le_refl _)).below hA (Nat.le_refl _)
  have R3 : Hid (Prs W3 (.slice z k f) ns) := by show Prs _ _ _; rw [hW]; exact OR.below hA (Nat.le_refl _)
  have B3 : Hid (Below w.heap.size w W3) := by show Below _ _ _; rw [hW]; exact (B2.out.trans (hb3.mono B2.out.size)).trans (hA.mono (B2.out.trans (hb3.mono B2.out.size)).size)
  have YA := (Y0.later hb3).alloc (.cells #[.slice z k f, .int .i64 na] 29)
  have ya0 := YA.cell0
  have ya1 := YA.cell1
  clear ow OR hA hb3 x0 x1 X2 Y0 P2 Q2 B2 YA
  go_wp2_with fail
  rw [← hW]
  clear hW ya0 ya1
  have KL := Lib.hid (fun (w : World) (p : Prs w (.slice z k f) ns) (q : Prs w (.slice y k d) ns) => lkRank_same w (.slice z k f) (.slice y k d) ns na p q (by have := HLN.out; omega))
  have y0 := Y3.cell0
  have y1 := Y3.cell1
  have z0 := Z3.cell0
  have z1 := Z3.cell1
  cases ok with
  | false =>
    go_wp2_with fail
    refine (KL.out W3 R3.out Q3.out).mono ?_
    rintro e w4 ⟨rfl, hb4⟩
    have Y4 := Y3.later hb4
    have Z4 := Z3.later hb4
    have Q4 := Lib.hid (Q3.out.below hb4 (Nat.le_refl _))
    have R4 := Lib.hid (R3.out.below hb4 (Nat.le_refl _))
    have B4 := Lib.hid (B3.out.trans (hb4.mono B3.out.size))
    clear hb4 X3 Y3 Z3 y0 y1 z0 z1 B3 P3 Q3 R3
    have y0 := Y4.cell0
    have y1 := Y4.cell1
    have z0 := Z4.cell0
    have z1 := Z4.cell1
    go_wp2_with fail
    refine (KL.out w4 R4.out Q4.out).mono ?_
    rintro e w5 ⟨rfl, hb5⟩
    go_wp2
    go_ret
    exact ⟨by first | rfl | simp, B4.out.trans (hb5.mono B4.out.size)⟩
  | true =>
    obtain ⟨PA, ht, hna, PN, say⟩ := HAM.out rfl
    have KX : Hid (∀ (w : World) (i : Int), Prs w (.slice x m c) ps → 0 ≤ i → i ≤ 63 → Calls Try.prog 28 #[.agg #[.slice x m c, .int .i64 all], .int .i64 i] w fun e w' => e = .returned (.tuple #[.int .i64 (leastP ps i), .int .i64 (mostP ps i)]) ∧ Below w.heap.size w w') := fun w i p i0 i1 => imRankBelow_yes w _ ps all i p ((rankB_iff _ _).2 PA) i0 i1
    have KZ : Hid (∀ (w : World) (i : Int), Prs w (.slice z k f) ns → 0 ≤ i → i ≤ 63 → Calls Try.prog 28 #[.agg #[.slice z k f, .int .i64 na], .int .i64 i] w fun e w' => e = .returned (.tuple #[.int .i64 (leastP ns i), .int .i64 (mostP ns i)]) ∧ Below w.heap.size w w') := fun w i p i0 i1 => imRankBelow_yes w _ ns na i p ((rankB_iff _ _).2 PN) i0 i1
    have KO : Hid (∀ (w : World), Prs w (.slice z k f) ns → Calls Try.prog 22 #[.agg #[.slice z k f, .int .i64 na]] w fun e w' => e = .returned (.bool true) ∧ Below w.heap.size w w') := fun w p => by have h := imRankOk_at w _ ns na p; rw [(rankB_iff _ _).2 PN] at h; exact h
    have HPA := Lib.hid PA
    have HPN := Lib.hid PN
    have HSAY := Lib.hid say
    have HN := Lib.hid hna
    have al0 := PA.1
    have all1 : all ≤ 1999 := by have := PN.1.2; omega
    clear PA PN say hna HAM
    go_wp2_with fail
    refine (KL.out W3 R3.out Q3.out).mono ?_
    rintro e w4 ⟨rfl, hb4⟩
    have X4 := Lib.hid (X3.later hb4)
    have Z4 := Lib.hid (Z3.later hb4)
    have P4 := Lib.hid (P3.out.below hb4 (Nat.le_refl _))
    have R4 := Lib.hid (R3.out.below hb4 (Nat.le_refl _))
    have B4 := Lib.hid (B3.out.trans (hb4.mono B3.out.size))
    clear hb4 X3 Y3 Z3 y0 y1 z0 z1 B3 P3 Q3 R3 KL
    go_wp2_with fail
    go_loopw [9] (fun i wr => ∃ j : Nat, j ≤ 64 ∧ i = .int .i64 j ∧ Below w4.heap.size w4 wr) (fun i _ => 64 - (intOf i).toNat)
    case atStart => exact ⟨0, Nat.zero_le _, rfl, Below.refl _ _⟩
    case round =>
      obtain ⟨j, hj, rfl, hbl⟩ := hrel
      have HB := Lib.hid hbl
      have X5 := X4.out.below HB.out X4.out.lt
      have Z5 := Z4.out.below HB.out Z4.out.lt
      have P5 := Lib.hid (P4.out.below HB.out (Nat.le_refl _))
      have R5 := Lib.hid (R4.out.below HB.out (Nat.le_refl _))
      have x0 := X5.cell0
      have x1 := X5.cell1
      have z0 := Z5.cell0
      have z1 := Z5.cell1
      clear hbl
      by_cases hlt : j < 64
      · have j0 : (0 : Int) ≤ (j : Int) := by omega
        have j1 : (j : Int) < 64 := by omega
        have K1 := Lib.hid (KX.out wr (j : Int) P5.out (by omega) (by omega))
        have K2 := Lib.hid (fun w p => KZ.out w (j : Int) p (by omega) (by omega))
        have s := HSAY.out (j : Int)
        have bx := below_in HPA.out (show (0 : Int) ≤ (j : Int) by omega) (by omega)
        have bz := below_in HPN.out (show (0 : Int) ≤ (j : Int) by omega) (by omega)
        generalize leastP ps (j : Int) = L at *
        generalize mostP ps (j : Int) = M at *
        generalize leastP ns (j : Int) = L' at *
        generalize mostP ns (j : Int) = M' at *
        obtain ⟨s1, s2⟩ := s
        obtain ⟨⟨bx0, bx1⟩, bx2, bx3⟩ := bx
        obtain ⟨⟨bz0, bz1⟩, bz2, bz3⟩ := bz
        by_cases hm : t ≤ (j : Int)
        · rw [if_pos hm] at s1 s2
          have d1 : ¬ L + 1 < L' := by omega
          have d2 : ¬ M' < M + 1 := by omega
          have w1' : IntKind.i64.wrap (L + 1) = L + 1 := IntWalk.i64_in _ (by omega)
          have w2' : IntKind.i64.wrap (M + 1) = M + 1 := IntWalk.i64_in _ (by omega)
          clear s1 s2
          go_wp2_with fail
          refine K1.out.mono ?_
          rintro e w5 ⟨rfl, hb5⟩
          have Z6 := Z5.later hb5
          have R6 := Lib.hid (R5.out.below hb5 (Nat.le_refl _))
          have HB5 := Lib.hid (HB.out.trans (hb5.mono HB.out.size))
          clear hb5 z0 z1 x0 x1 X5
          have z0 := Z6.cell0
          have z1 := Z6.cell1
          go_wp2_with fail
          refine (K2.out _ R6.out).mono ?_
          rintro e w6 ⟨rfl, hb6⟩
          have HB6 := Lib.hid (HB5.out.trans (hb6.mono HB5.out.size))
          clear hb6 z0 z1 Z5 Z6
          go_wp2
          go_roundw
          case rel => exact ⟨j + 1, by omega, by go_num, HB6.out⟩
          case measure => simp [intOf]; omega
        · rw [if_neg hm] at s1 s2
          have d1 : ¬ L < L' := by omega
          have d2 : ¬ M' < M := by omega
          have w1' : IntKind.i64.wrap L = L := IntWalk.i64_in _ (by omega)
          have w2' : IntKind.i64.wrap M = M := IntWalk.i64_in _ (by omega)
          clear s1 s2
          go_wp2_with fail
          refine K1.out.mono ?_
          rintro e w5 ⟨rfl, hb5⟩
          have Z6 := Z5.later hb5
          have R6 := Lib.hid (R5.out.below hb5 (Nat.le_refl _))
          have HB5 := Lib.hid (HB.out.trans (hb5.mono HB.out.size))
          clear hb5 z0 z1 x0 x1 X5
          have z0 := Z6.cell0
          have z1 := Z6.cell1
          go_wp2_with fail
          refine (K2.out _ R6.out).mono ?_
          rintro e w6 ⟨rfl, hb6⟩
          have HB6 := Lib.hid (HB5.out.trans (hb6.mono HB5.out.size))
          clear hb6 z0 z1 Z5 Z6
          go_wp2
          go_roundw
          case rel => exact ⟨j + 1, by omega, by go_num, HB6.out⟩
          case measure => simp [intOf]; omega
      · obtain rfl : j = 64 := by omega
        have BF := Lib.hid (B4.out.trans (HB.out.mono B4.out.size))
        have wsa : IntKind.i64.wrap (all + 1) = all + 1 := IntWalk.i64_in _ (by omega)
        have K1 := Lib.hid (KO.out wr R5.out)
        clear hlt hj
        go_wp2_with fail
        refine K1.out.mono ?_
        rintro e w5 ⟨rfl, hb5⟩
        have X6 := X5.later hb5
        have Z6 := Z5.later hb5
        have B6 := Lib.hid (BF.out.trans (hb5.mono BF.out.size))
        clear hb5 x0 x1 z0 z1 X5 Z5 K1
        have x1 := X6.cell1
        have z1 := Z6.cell1
        obtain rfl := HN.out
        go_wp2
        go_ret
        exact ⟨by first | rfl | simp, B6.out⟩

/-! ### THE ROW's STEP: WRITTEN OUT: LEAVE IT -/
set_option maxRecDepth 100000 in
theorem lifted (os : Os) (started : os.Started) (H : Type) (enc : TypeId × Value → H) :
    ReturnsInHanded {} Try.checked os 5 .any (Rows.fnRankAddSpec.pre6 enc Try.prog Try.f5 Rows.fnRankAddRow.domain false) (Rows.fnRankAddSpec.post enc Try.prog Try.f5 false true false false) := by
  refine returnsInHanded_of_change (C := Try.checked) own started (by kernel_rfl) Try.func5
    (ChangeSpec.witness6 (enc := enc) (C := Try.checked) false ⟨#[], #[.slice none 0 0], []⟩ 8 (by kernel_rfl) (by kernel_rfl) (by kernel_rfl) (by kernel_rfl)) ?_
  intro W base args ds gs before hval0 hW hcnd _
  have hval : ∀ (j : Nat) t v, Try.f5.params[j]? = some t → args[j]? = some v → Value.okWide Try.prog W .any base t v := hval0
  have hW' := hW
  obtain ⟨p, q, hA0, hV, rfl, hfz, hnd⟩ := hW
  have hA : DataW.TrodAll enc Try.prog W 0 (fun _ => true) true Try.f5.params.toList args.toList ds p := hA0
  rw [Try.params5] at hA hval
  obtain ⟨v0, vs0, d0, ds0, p0, q0, hargs, rfl, rfl, h0, r0⟩ := trodAll_cons hA
  obtain ⟨rfl, rfl, rfl⟩ := trodAll_nil r0
  obtain rfl : args = #[v0] := by cases args; simp_all
  obtain ⟨rfl, rfl⟩ := trodVars_none hV
  obtain ⟨a0, len0, cap0, rfl⟩ := okWide_slice Try.underlying22 (hval 0 22 v0 rfl rfl)
  have k0 := h0
  have lt0 : ∀ x ∈ p0, x.block < W.heap.size := by obtain ⟨m, hm⟩ := k0; exact DataW.trod_lt m _ _ _ hm
  obtain ⟨z0, w0⟩ : ∃ zs, IsRow .u8 W a0 len0 cap0 zs := by
    obtain ⟨fuel, hf⟩ := h0
    rcases open_ints Try.underlying22 Try.underlying5 (by kernel_rfl) hf with ⟨hcs, _⟩ | ⟨x, l, c, zs, hcs, _, hl, hm, hz, _, hcell, hwz⟩
    · simp [Value.cells] at hcs
      obtain ⟨rfl, rfl, rfl⟩ := hcs
      exact ⟨[], .inl ⟨rfl, rfl, rfl, rfl⟩⟩
    · simp [Value.cells] at hcs
      obtain ⟨rfl, rfl, rfl⟩ := hcs
      exact ⟨zs, .inr ⟨_, rfl, hl, hm, by simpa using hz, hcell, hwz⟩⟩
  clear hA0 hval0
  refine (walk a0 len0 cap0 z0 W w0).mono fun e W' ⟨he, bel⟩ => ?_
  subst he
  exact ⟨_, rfl, _, _, _, [], _, [], hW', trodAll_mk1 (shut_bool Try.underlying4 _), (trodAll_cons_mk (Below.trod laidOut (by kernel_rfl) (of_decide_eq_true (by kernel_rfl)) k0 bel lt0) trodAll_mk0), rfl, bel.frame _, fun h => by cases h⟩

theorem over : Rows.fnRankAddRow.holds Try.pinned (OpenSpec.ofChange Rows.fnRankAddSpec) :=
  OpenClaim.holds_of_wide 5 Try.f5 rfl rfl rfl rfl rfl rfl rfl ⟨rfl, rfl, rfl, rfl, rfl⟩ rfl rfl rfl rfl rfl (by kernel_rfl) Try.func5 (by kernel_rfl)
    (of_decide_eq_true (by kernel_rfl)) (by unfold Func.isWrapper; first | (rw [if_pos (by decide +kernel)]; kernel_rfl) | (rw [if_neg (by decide +kernel)]; exact ⟨rfl, rfl⟩))
    (fun os started H enc _ => lifted os started H enc)

theorem proved : Rows.FnRankAddSaid := over
#print axioms proved
end Go.Proofs.Ytnpcgbjkahpcfaa.fnRankAdd
