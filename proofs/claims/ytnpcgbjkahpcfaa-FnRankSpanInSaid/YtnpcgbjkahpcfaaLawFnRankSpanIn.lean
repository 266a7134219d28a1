/-
  The statement of the law FnRankSpanIn: at every input the call returns true and leaves what it was given as it was. The frame is the kit's shell; the walk is ours.
-/
import Derived.Test.YtnpcgbjkahpcfaaKUp
import Derived.Test.YtnpcgbjkahpcfaaRows
import Derived.WalkKit
import Derived.ProofKit
import Derived.OpenShut
import Derived.ShutString
import Derived.ChangeOld
import Derived.Below
namespace Go.Proofs.Ytnpcgbjkahpcfaa.fnRankSpanIn
open Go.ChangeShapes Go.WideShapes Go.ChangeAt Go.RowKit
open Go.ChangeMaps (open_string shut_string)
set_option linter.unusedVariables false

theorem own : ownKnob Try.prog.godebug = none := by kernel_rfl
theorem laidOut : laidOutB Try.prog = true := by kernel_rfl

/-- WHAT THE WALK IS TOLD OF A SLICE OF INTEGERS THAT CAME IN: it is nil; or it leads to a row of 'cap' cells, the numbers 'zs' (the first 'len' are its elements, the rest its spare room), each fitting its kind. -/
def IsRow (k : IntKind) (w : World) (a : Option Addr) (len cap : Nat) (zs : List Int) : Prop :=
  (a = none ∧ len = 0 ∧ cap = 0 ∧ zs = []) ∨
  ∃ x, a = some x ∧ len ≤ cap ∧ cap ≤ maxLen ∧ zs.length = cap ∧ (∀ i, i < zs.length → w.cell? (x.add i) = some (.int k (zs.getD i 0))) ∧ ∀ n ∈ zs, (Lit.int k n).wf = true

/-! ### STEP 1: THE WALK: the Go text returns true, AND WRITES NOTHING THAT WAS THERE: 'Below w.heap.size w w'' (Derived/Below.lean: '.refl', '.alloc', '.drew', '.setCell' at a new block, '.trans'). Open each 'IsRow' by 'rcases' AHEAD of 'go_enter'; part every test ahead of the walk. -/
theorem walk (a0 : Option Addr) (len0 cap0 : Nat) (z0 : List Int) (a1 : Option Addr) (len1 cap1 : Nat) (z1 : List Int) (w : World) (w0 : IsRow .u8 w a0 len0 cap0 z0) (w1 : IsRow .u8 w a1 len1 cap1 z1) :
    Calls Try.prog 11 #[.slice a0 len0 cap0, .slice a1 len1 cap1] w fun e w' => e = .returned (.bool true) ∧ Below w.heap.size w w' := by
  obtain ⟨hb, hl⟩ := bts_of w a0 len0 cap0 z0 w0
  obtain ⟨hb', hl'⟩ := bts_of w a1 len1 cap1 z1 w1
  rcases hl with hl | hl
  · go_enter Try.func11, Try.ntmps11
    go_wp2
    go_ret
    exact ⟨rfl, Below.refl _ _⟩
  rcases hl' with hl' | hl'
  · go_enter Try.func11, Try.ntmps11
    go_wp2
    go_ret
    exact ⟨rfl, Below.refl _ _⟩
  have HB := Lib.hid hb
  clear hb w0 hb' w1
  go_enter Try.func11, Try.ntmps11
  go_wp2_with fail
  refine (drawKSpan_at w _ len0 ⟨_, _, rfl⟩ HB.out).mono ?_
  rintro e w1 ⟨k, rfl, ⟨k0, k1⟩, hb1⟩
  have B1 := Lib.hid hb1
  clear hb1
  by_cases h : k < 1 ∨ 127 < k
  · have K := Lib.hid (fun W => spSpan_no W k h)
    have I := Lib.hid (fun W => imSpan_no W k h)
    rcases h with h | h
    · go_wp2_with fail
      refine (K.out _).mono ?_
      rintro e w' ⟨rfl, rfl⟩
      go_wp2_with fail
      refine (I.out _).mono ?_
      rintro e w' ⟨rfl, rfl⟩
      go_wp2
      go_ret
      exact ⟨rfl, B1.out⟩
    · have h1 : ¬ k < 1 := by omega
      have h2 : 128 ≤ k := by omega
      go_wp2_with fail
      refine (K.out _).mono ?_
      rintro e w' ⟨rfl, rfl⟩
      go_wp2_with fail
      refine (I.out _).mono ?_
      rintro e w' ⟨rfl, rfl⟩
      go_wp2
      go_ret
      exact ⟨rfl, B1.out⟩
  · have K := Lib.hid (fun W => spSpan_yes W k (by omega) (by omega))
    have I := Lib.hid (fun W => imSpan_yes W k (by omega) (by omega))
    obtain ⟨A, hA⟩ : ∃ A : Nat, k = (A : Int) := ⟨k.toNat, by omega⟩
    obtain ⟨t, ht⟩ : ∃ t : Nat, (len1 : Int).tmod 64 = (t : Int) ∧ t < 64 := ⟨len1 % 64, by rw [Int.tmod_eq_emod_of_nonneg (by omega)]; omega, by omega⟩
    have U := up_all t ht.2 (A - 1) (by omega)
    rw [show A - 1 + 1 = A by omega, show ((A - 1 : Nat) : Int) + 1 = k by omega] at U
    have h1 : ¬ k < 1 := by omega
    have h2 : ¬ 128 ≤ k := by omega
    have hm := ht.1
    have t64 := ht.2
    have HA := Lib.hid hA
    generalize lowT k = L at *
    generalize highT k = H at *
    have e1 : (L != L) = false := by simp
    have e2 : (H != H) = false := by simp
    have HU := Lib.hid U
    have wt : IntKind.i64.wrap (64 + (t : Int)) = 64 + (t : Int) := IntWalk.i64_in _ (by omega)
    clear U h ht hA
    go_wp2_with fail
    refine (K.out _).mono ?_
    rintro e w' ⟨rfl, rfl⟩
    go_wp2_with fail
    refine (I.out _).mono ?_
    rintro e w' ⟨rfl, rfl⟩
    go_wp2
    go_loopw [11] (fun q wr => ∃ (f X : Nat) (x : Int), q = .int .i64 x ∧ x = (X : Int) ∧ X ≤ 127 ∧ X < 2 ^ f ∧ f ≤ 7 ∧ upK f X A = upK 7 (64 + t) A ∧ wr = w1) (fun q _ => (intOf q).toNat)
    case atStart => exact ⟨7, 64 + t, 64 + (t : Int), rfl, by omega, by omega, by omega, by omega, rfl, rfl⟩
    case round =>
      obtain ⟨f, X, x, rfl, hx, hX, hf, hf7, hu, rfl⟩ := hrel
      have HYtnpcgbjkahpcfaa := Lib.hid hx
      have HU2 := Lib.hid hu
      have x0 : 0 ≤ x := by omega
      have x1 : x ≤ 127 := by omega
      by_cases hgt : k < x
      · cases f with
        | zero => simp at hf; have := HYtnpcgbjkahpcfaa.out; omega
        | succ f =>
          have td : x.tdiv 2 = x / 2 := Int.tdiv_eq_ediv_of_nonneg x0
          have wd : IntKind.i64.wrap (x / 2) = x / 2 := IntWalk.i64_in _ (by omega)
          have st := Lib.hid (upK_step f X A (by have := HA.out; omega))
          have HF := Lib.hid hf
          have kpos : 1 ≤ k := by omega
          clear hx hu hf
          go_wp2
          go_roundw
          case rel => exact ⟨f, X / 2, x / 2, by first | rfl | go_num, by have := HYtnpcgbjkahpcfaa.out; omega, by omega, by have := HF.out; rw [Nat.pow_succ] at this; omega, by omega, by rw [← st.out]; exact HU2.out, by first | rfl | trivial⟩
          case measure => simp [intOf]; omega
      · have st := Lib.hid (upK_stop f X A (by have := HA.out; omega))
        have FE : Hid ((x == k) = (decide (L ≤ (t : Int)) && decide ((t : Int) ≤ H))) := by
          show _ = _
          rw [← HU.out, ← HU2.out, st.out]
          have a1 := HYtnpcgbjkahpcfaa.out
          have a2 := HA.out
          by_cases e : X = A
          · have : x = k := by omega
            simp [e, this]
          · have : ¬ x = k := by omega
            simp [e, this]
        by_cases hL : L ≤ (t : Int)
        · by_cases hH : (t : Int) ≤ H
          · have fe := FE.out
            rw [decide_eq_true hL, decide_eq_true hH] at fe
            have xe : x = k := by simpa using fe
            subst xe
            clear hx hu FE fe
            go_wp2
            go_ret
            exact ⟨by first | rfl | simp, B1.out⟩
          · have fe := FE.out
            rw [decide_eq_false hH, Bool.and_false] at fe
            have dH : decide ((t : Int) ≤ H) = false := decide_eq_false hH
            clear hx hu FE
            go_wp2
            go_ret
            exact ⟨by first | rfl | simp | (simp [fe]), B1.out⟩
        · have fe := FE.out
          rw [decide_eq_false hL, Bool.false_and] at fe
          have dL : decide (L ≤ (t : Int)) = false := decide_eq_false hL
          clear hx hu FE
          go_wp2
          go_ret
          exact ⟨by first | rfl | simp | (simp [fe]), B1.out⟩

/-! ### THE ROW's STEP: WRITTEN OUT: LEAVE IT -/
set_option maxRecDepth 100000 in
theorem lifted (os : Os) (started : os.Started) (H : Type) (enc : TypeId × Value → H) :
    ReturnsInHanded {} Try.checked os 11 .any (Rows.fnRankSpanInSpec.pre6 enc Try.prog Try.f11 Rows.fnRankSpanInRow.domain false) (Rows.fnRankSpanInSpec.post enc Try.prog Try.f11 false true false false) := by
  refine returnsInHanded_of_change (C := Try.checked) own started (by kernel_rfl) Try.func11
    (ChangeSpec.witness6 (enc := enc) (C := Try.checked) false ⟨#[], #[.slice none 0 0, .slice none 0 0], []⟩ 8 (by kernel_rfl) (by kernel_rfl) (by kernel_rfl) (by kernel_rfl)) ?_
  intro W base args ds gs before hval0 hW hcnd _
  have hval : ∀ (j : Nat) t v, Try.f11.params[j]? = some t → args[j]? = some v → Value.okWide Try.prog W .any base t v := hval0
  have hW' := hW
  obtain ⟨p, q, hA0, hV, rfl, hfz, hnd⟩ := hW
  have hA : DataW.TrodAll enc Try.prog W 0 (fun _ => true) true Try.f11.params.toList args.toList ds p := hA0
  rw [Try.params11] at hA hval
  obtain ⟨v0, vs0, d0, ds0, p0, q0, hargs, rfl, rfl, h0, r0⟩ := trodAll_cons hA
  obtain ⟨v1, vs1, d1, ds1, p1, q1, rfl, rfl, rfl, h1, r1⟩ := trodAll_cons r0
  obtain ⟨rfl, rfl, rfl⟩ := trodAll_nil r1
  obtain rfl : args = #[v0, v1] := by cases args; simp_all
  obtain ⟨rfl, rfl⟩ := trodVars_none hV
  obtain ⟨a0, len0, cap0, rfl⟩ := okWide_slice Try.underlying22 (hval 0 22 v0 rfl rfl)
  have k0 := h0
  have lt0 : ∀ x ∈ p0, x.block < W.heap.size := by obtain ⟨m, hm⟩ := k0; exact DataW.trod_lt m _ _ _ hm
  obtain ⟨z0, w0⟩ : ∃ zs, IsRow .u8 W a0 len0 cap0 zs := by
    obtain ⟨fuel, hf⟩ := h0
    rcases open_ints Try.underlying22 Try.underlying5 (by kernel_rfl) hf with ⟨hcs, _⟩ | ⟨x, l, c, zs, hcs, _, hl, hm, hz, _, hcell, hwz⟩
    · simp [Value.cells] at hcs
      obtain ⟨rfl, rfl, rfl⟩ := hcs
      exact ⟨[], .inl ⟨rfl, rfl, rfl, rfl⟩⟩
    · simp [Value.cells] at hcs
      obtain ⟨rfl, rfl, rfl⟩ := hcs
      exact ⟨zs, .inr ⟨_, rfl, hl, hm, by simpa using hz, hcell, hwz⟩⟩
  obtain ⟨a1, len1, cap1, rfl⟩ := okWide_slice Try.underlying22 (hval 1 22 v1 rfl rfl)
  have k1 := h1
  have lt1 : ∀ x ∈ p1, x.block < W.heap.size := by obtain ⟨m, hm⟩ := k1; exact DataW.trod_lt m _ _ _ hm
  obtain ⟨z1, w1⟩ : ∃ zs, IsRow .u8 W a1 len1 cap1 zs := by
    obtain ⟨fuel, hf⟩ := h1
    rcases open_ints Try.underlying22 Try.underlying5 (by kernel_rfl) hf with ⟨hcs, _⟩ | ⟨x, l, c, zs, hcs, _, hl, hm, hz, _, hcell, hwz⟩
    · simp [Value.cells] at hcs
      obtain ⟨rfl, rfl, rfl⟩ := hcs
      exact ⟨[], .inl ⟨rfl, rfl, rfl, rfl⟩⟩
    · simp [Value.cells] at hcs
      obtain ⟨rfl, rfl, rfl⟩ := hcs
      exact ⟨zs, .inr ⟨_, rfl, hl, hm, by simpa using hz, hcell, hwz⟩⟩
  clear hA0 hval0
  refine (walk a0 len0 cap0 z0 a1 len1 cap1 z1 W w0 w1).mono fun e W' ⟨he, bel⟩ => ?_
  subst he
  exact ⟨_, rfl, _, _, _, [], _, [], hW', trodAll_mk1 (shut_bool Try.underlying4 _), (trodAll_cons_mk (Below.trod laidOut (by kernel_rfl) (of_decide_eq_true (by kernel_rfl)) k0 bel lt0) (trodAll_cons_mk (Below.trod laidOut (by kernel_rfl) (of_decide_eq_true (by kernel_rfl)) k1 bel lt1) trodAll_mk0)), rfl, bel.frame _, fun h => by cases h⟩

theorem over : Rows.fnRankSpanInRow.holds Try.pinned (OpenSpec.ofChange Rows.fnRankSpanInSpec) :=
  OpenClaim.holds_of_wide 11 Try.f11 rfl rfl rfl rfl rfl rfl rfl ⟨rfl, rfl, rfl, rfl, rfl⟩ rfl rfl rfl rfl rfl (by kernel_rfl) Try.func11 (by kernel_rfl)
    (of_decide_eq_true (by kernel_rfl)) (by unfold Func.isWrapper; first | (rw [if_pos (by decide +kernel)]; kernel_rfl) | (rw [if_neg (by decide +kernel)]; exact ⟨rfl, rfl⟩))
    (fun os started H enc _ => lifted os started H enc)

theorem proved : Rows.FnRankSpanInSaid := over
#print axioms proved
end Go.Proofs.Ytnpcgbjkahpcfaa.fnRankSpanIn
