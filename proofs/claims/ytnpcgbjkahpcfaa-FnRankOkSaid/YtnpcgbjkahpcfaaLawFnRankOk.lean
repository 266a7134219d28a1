/-
  The statement of the law FnRankOk: at every input the call returns true and leaves what it was given as it was. The frame is the kit's shell; the walk is ours.
-/
import Derived.Test.YtnpcgbjkahpcfaaKDraw3
import Derived.Test.YtnpcgbjkahpcfaaKIm
import Derived.BigQuiet
import Derived.Test.YtnpcgbjkahpcfaaRows
import Derived.WalkKit
import Derived.ProofKit
import Derived.OpenShut
import Derived.ShutString
import Derived.ChangeOld
import Derived.Below
namespace Go.Proofs.Ytnpcgbjkahpcfaa.fnRankOk
open Go.ChangeShapes Go.WideShapes Go.ChangeAt Go.RowKit
open Go.ChangeMaps (open_string shut_string)
set_option linter.unusedVariables false

theorem own : ownKnob Try.prog.godebug = none := by kernel_rfl
theorem laidOut : laidOutB Try.prog = true := by kernel_rfl

/-- WHAT THE WALK IS TOLD OF A SLICE OF INTEGERS THAT CAME IN: it is nil; or it leads to a row of 'cap' cells, the numbers 'zs' (the first 'len' are its elements, the rest its spare room), each fitting its kind. -/
def IsRow (k : IntKind) (w : World) (a : Option Addr) (len cap : Nat) (zs : List Int) : Prop :=
  (a = none ∧ len = 0 ∧ cap = 0 ∧ zs = []) ∨
  ∃ x, a = some x ∧ len ≤ cap ∧ cap ≤ maxLen ∧ zs.length = cap ∧ (∀ i, i < zs.length → w.cell? (x.add i) = some (.int k (zs.getD i 0))) ∧ ∀ n ∈ zs, (Lit.int k n).wf = true

/-! ### STEP 1: THE WALK: the Go text returns true, AND WRITES NOTHING THAT WAS THERE: 'Below w.heap.size w w'' (Derived/Below.lean: '.refl', '.alloc', '.drew', '.setCell' at a new block, '.trans'). Open each 'IsRow' by 'rcases' AHEAD of 'go_enter'; part every test ahead of the walk. -/
theorem walk (a0 : Option Addr) (len0 cap0 : Nat) (z0 : List Int) (w : World) (w0 : IsRow .u8 w a0 len0 cap0 z0) :
    Calls Try.prog 4 #[.slice a0 len0 cap0] w fun e w' => e = .returned (.bool true) ∧ Below w.heap.size w w' := by
  obtain ⟨hb, hl⟩ := bts_of w a0 len0 cap0 z0 w0
  rcases hl with hl | hl
  · go_enter Try.func4, Try.ntmps4
    go_wp2
    go_ret
    exact ⟨rfl, Below.refl _ _⟩
  have HB := Lib.hid hb
  clear hb w0
  go_enter Try.func4, Try.ntmps4
  go_wp2_with fail
  refine (drawKOk_at w _ len0 ⟨_, _, rfl⟩ HB.out).mono ?_
  rintro e w1 ⟨u, all, rfl, ps, own, len, al, hb1⟩
  obtain ⟨x, c, rfl, _, _⟩ := own.form
  obtain ⟨m, hm⟩ : ∃ m, m = ps.length := ⟨_, rfl⟩
  have OR := own.rd
  rw [← hm] at OR len ⊢
  have HM := Lib.hid hm
  obtain ⟨W, hW⟩ : ∃ W, W = w1.alloc (.cells #[.slice x m c, .int .i64 all] 29) := ⟨_, rfl⟩
  have hA := (Below.refl w1.heap.size w1).alloc (Nat.le_refl _) (.cells #[.slice x m c, .int .i64 all] 29)
  have X0 : Box2 W w1.heap.size 29 (.slice x m c) (.int .i64 all) := by rw [hW]; exact Box2.new _ _ _ _
  have P0 : Hid (Prs W (.slice x m c) ps) := by show Prs _ _ _; rw [hW]; exact OR.below hA (Nat.le_refl _)
  have B0 : Hid (Below w.heap.size w W) := by show Below _ _ _; rw [hW]; exact hb1.trans (hA.mono hb1.size)
  clear own OR hA hb1 hm
  go_wp2_with fail
  rw [← hW]
  clear hW
  have x0 := X0.cell0
  have x1 := X0.cell1
  go_wp2_with fail
  refine (imRankOk_at W _ ps all P0.out).mono ?_
  rintro e w2 ⟨rfl, hb2⟩
  have X2 := X0.later hb2
  have P2 := Lib.hid (P0.out.below hb2 (Nat.le_refl _))
  have B2 := Lib.hid (B0.out.trans (hb2.mono B0.out.size))
  have K := Lib.hid (spRankOk_at w2 _ ps all P2.out)
  clear hb2 X0 x0 x1 P0 B0
  have x0 := X2.cell0
  have x1 := X2.cell1
  cases hok : rankB ps all with
  | false =>
    rw [hok] at K
    go_wp2_with fail
    refine K.out.mono ?_
    rintro e w3 ⟨rfl, hb3⟩
    have X3 := X2.later hb3
    have K3 := Lib.hid (spRankOk_at w3 _ ps all (P2.out.below hb3 (Nat.le_refl _)))
    have B3 := Lib.hid (B2.out.trans (hb3.mono B2.out.size))
    rw [hok] at K3
    clear hb3 X2 x0 x1 hok
    have x0 := X3.cell0
    have x1 := X3.cell1
    go_wp2_with fail
    refine K3.out.mono ?_
    rintro e w4 ⟨rfl, hb4⟩
    go_wp2
    go_ret
    exact ⟨rfl, B3.out.trans (hb4.mono B3.out.size)⟩
  | true =>
    rw [hok] at K
    have hP := (rankB_iff _ _).1 hok
    have kf : m ≤ 127 := by rw [HM.out]; exact knG_few hP.2.1
    have al1 := hP.1
    have G := Lib.hid hP.2.1
    have FIN := Lib.hid hP.2.2
    clear hok hP
    go_wp2_with fail
    refine K.out.mono ?_
    rintro e w3 ⟨rfl, hb3⟩
    have X3 := X2.later hb3
    have P3 := Lib.hid (P2.out.below hb3 (Nat.le_refl _)).cells
    have B3 := Lib.hid (B2.out.trans (hb3.mono B2.out.size))
    clear hb3 X2 x0 x1 K P2 B2
    have x0 := X3.cell0
    have x1 := X3.cell1
    go_wp2
    go_loopw [5, 6] (fun q i wr => ∃ k : Nat, k ≤ m ∧ i = .int .i64 k ∧ q = .int .i64 (sumP (ps.take k)) ∧ ∃ d, wr = w3.drewN d) (fun _ i _ => m - (intOf i).toNat)
    case atStart => exact ⟨0, Nat.zero_le _, rfl, rfl, 0, rfl⟩
    case round =>
      obtain ⟨k, hk, rfl, rfl, d, rfl⟩ := hrel
      have hsb := sumK_bd (by rw [← HM.out]; exact hk) (fun i hi => G.out i (by have := HM.out; omega))
      by_cases hlt : k < m
      · obtain ⟨b, o, rfl, hb, h1, h2⟩ := P3.out k (by rw [← HM.out]; exact hlt)
        have g := G.out k (by rw [← HM.out]; exact hlt)
        have hs := Lib.hid (sumP_succ ps k (by rw [← HM.out]; exact hlt))
        have g1 := g.1
        have g2 := g.2.2
        clear g
        generalize pr ps k = q at h1 h2 hs g1 g2
        obtain ⟨t, y⟩ := q
        generalize sumP (ps.take k) = S at *
        simp only at g1 g2
        obtain ⟨⟨t0, t1⟩, y0, y1⟩ := g1
        have k0 : (0 : Int) ≤ (k : Int) := by omega
        have kn : (k : Int) < (m : Int) := by omega
        have ws : IntKind.i64.wrap (S + y) = S + y := IntWalk.i64_in _ (by omega)
        have w8 : IntKind.i64.wrap (y * 8) = y * 8 := IntWalk.i64_in _ (by omega)
        by_cases h64 : t < 64
        · have g3 := g2 h64
          have n8 : ¬ all < y * 8 := by omega
          have e64 : decide (t < 64) = true := decide_eq_true h64
          have e8 : decide (all < y * 8) = false := decide_eq_false n8
          clear g2
          go_wp2
          go_quiet (fail)
          go_wp2
          go_roundw
          case rel => exact ⟨k + 1, by omega, by go_num, by rw [hs.out], by first | exact ⟨_, rfl⟩ | exact ⟨_, World.drewN_drewN _ _ _⟩⟩
          case measure => simp [intOf]; omega
        · have e64 : decide (t < 64) = false := decide_eq_false h64
          clear g2 w8
          go_wp2
          go_quiet (fail)
          go_wp2
          go_roundw
          case rel => exact ⟨k + 1, by omega, by go_num, by rw [hs.out], by first | exact ⟨_, rfl⟩ | exact ⟨_, World.drewN_drewN _ _ _⟩⟩
          case measure => simp [intOf]; omega
      · obtain rfl : k = m := by omega
        have e1 : ps.take k = ps := List.take_of_length_le (by rw [← HM.out]; exact Nat.le_refl _)
        rw [e1, FIN.out] at hsb ⊢
        clear e1
        go_wp2
        go_ret
        exact ⟨by first | rfl | simp, below_drewN B3.out _⟩

/-! ### THE ROW's STEP: WRITTEN OUT: LEAVE IT -/
set_option maxRecDepth 100000 in
theorem lifted (os : Os) (started : os.Started) (H : Type) (enc : TypeId × Value → H) :
    ReturnsInHanded {} Try.checked os 4 .any (Rows.fnRankOkSpec.pre6 enc Try.prog Try.f4 Rows.fnRankOkRow.domain false) (Rows.fnRankOkSpec.post enc Try.prog Try.f4 false true false false) := by
  refine returnsInHanded_of_change (C := Try.checked) own started (by kernel_rfl) Try.func4
    (ChangeSpec.witness6 (enc := enc) (C := Try.checked) false ⟨#[], #[.slice none 0 0], []⟩ 8 (by kernel_rfl) (by kernel_rfl) (by kernel_rfl) (by kernel_rfl)) ?_
  intro W base args ds gs before hval0 hW hcnd _
  have hval : ∀ (j : Nat) t v, Try.f4.params[j]? = some t → args[j]? = some v → Value.okWide Try.prog W .any base t v := hval0
  have hW' := hW
  obtain ⟨p, q, hA0, hV, rfl, hfz, hnd⟩ := hW
  have hA : DataW.TrodAll enc Try.prog W 0 (fun _ => true) true Try.f4.params.toList args.toList ds p := hA0
  rw [Try.params4] at hA hval
  obtain ⟨v0, vs0, d0, ds0, p0, q0, hargs, rfl, rfl, h0, r0⟩ := trodAll_cons hA
  obtain ⟨rfl, rfl, rfl⟩ := trodAll_nil r0
  obtain rfl : args = #[v0] := by cases args; simp_all
  obtain ⟨rfl, rfl⟩ := trodVars_none hV
  obtain ⟨a0, len0, cap0, rfl⟩ := okWide_slice Try.underlying22 (hval 0 22 v0 rfl rfl)
  have k0 := h0
  have lt0 : ∀ x ∈ p0, x.block < W.heap.size := by obtain ⟨m, hm⟩ := k0; exact DataW.trod_lt m _ _ _ hm
  obtain ⟨z0, w0⟩ : ∃ zs, IsRow .u8 W a0 len0 cap0 zs := by
    obtain ⟨fuel, hf⟩ := h0
    rcases open_ints Try.underlying22 Try.underlying5 (by kernel_rfl) hf with ⟨hcs, _⟩ | ⟨x, l, c, zs, hcs, _, hl, hm, hz, _, hcell, hwz⟩
    · simp [Value.cells] at hcs
      obtain ⟨rfl, rfl, rfl⟩ := hcs
      exact ⟨[], .inl ⟨rfl, rfl, rfl, rfl⟩⟩
    · simp [Value.cells] at hcs
      obtain ⟨rfl, rfl, rfl⟩ := hcs
      exact ⟨zs, .inr ⟨_, rfl, hl, hm, by simpa using hz, hcell, hwz⟩⟩
  clear hA0 hval0
  refine (walk a0 len0 cap0 z0 W w0).mono fun e W' ⟨he, bel⟩ => ?_
  subst he
  exact ⟨_, rfl, _, _, _, [], _, [], hW', trodAll_mk1 (shut_bool Try.underlying4 _), (trodAll_cons_mk (Below.trod laidOut (by kernel_rfl) (of_decide_eq_true (by kernel_rfl)) k0 bel lt0) trodAll_mk0), rfl, bel.frame _, fun h => by cases h⟩

theorem over : Rows.fnRankOkRow.holds Try.pinned (OpenSpec.ofChange Rows.fnRankOkSpec) :=
  OpenClaim.holds_of_wide 4 Try.f4 rfl rfl rfl rfl rfl rfl rfl ⟨rfl, rfl, rfl, rfl, rfl⟩ rfl rfl rfl rfl rfl (by kernel_rfl) Try.func4 (by kernel_rfl)
    (of_decide_eq_true (by kernel_rfl)) (by unfold Func.isWrapper; first | (rw [if_pos (by decide +kernel)]; kernel_rfl) | (rw [if_neg (by decide +kernel)]; exact ⟨rfl, rfl⟩))
    (fun os started H enc _ => lifted os started H enc)

theorem proved : Rows.FnRankOkSaid := over
#print axioms proved
end Go.Proofs.Ytnpcgbjkahpcfaa.fnRankOk
