/-
  The statement of the law FnFewOk: at every input the call returns true and leaves what it was given as it was. The frame is the kit's shell; the walk is ours.
-/
import Derived.Test.YteopnbjiffncbacFOk
import Derived.Test.YteopnbjiffncbacRows
import Derived.WalkKit
import Derived.ProofKit
import Derived.OpenShut
import Derived.ShutString
import Derived.ChangeOld
import Derived.Below
namespace Go.Proofs.Yteopnbjiffncbac.fnFewOk
open Go.ChangeShapes Go.WideShapes Go.ChangeAt Go.RowKit
open Go.ChangeMaps (open_string shut_string)
set_option linter.unusedVariables false

theorem own : ownKnob Try.prog.godebug = none := by kernel_rfl
theorem laidOut : laidOutB Try.prog = true := by kernel_rfl

/-- WHAT THE WALK IS TOLD OF A SLICE OF INTEGERS THAT CAME IN: it is nil; or it leads to a row of 'cap' cells, the numbers 'zs' (the first 'len' are its elements, the rest its spare room), each fitting its kind. -/
def IsRow (k : IntKind) (w : World) (a : Option Addr) (len cap : Nat) (zs : List Int) : Prop :=
  (a = none ∧ len = 0 ∧ cap = 0 ∧ zs = []) ∨
  ∃ x, a = some x ∧ len ≤ cap ∧ cap ≤ maxLen ∧ zs.length = cap ∧ (∀ i, i < zs.length → w.cell? (x.add i) = some (.int k (zs.getD i 0))) ∧ ∀ n ∈ zs, (Lit.int k n).wf = true

/-! ### STEP 1: THE WALK: the Go text returns true, AND WRITES NOTHING THAT WAS THERE: 'Below w.heap.size w w'' (Derived/Below.lean: '.refl', '.alloc', '.drew', '.setCell' at a new block, '.trans'). Open each 'IsRow' by 'rcases' AHEAD of 'go_enter'; part every test ahead of the walk. -/
theorem walk (a0 : Option Addr) (len0 cap0 : Nat) (z0 : List Int) (w : World) (w0 : IsRow .u8 w a0 len0 cap0 z0) :
    Calls Try.prog 4 #[.slice a0 len0 cap0] w fun e w' => e = .returned (.bool true) ∧ Below w.heap.size w w' := by
  obtain ⟨hb, hl⟩ := bts_of w a0 len0 cap0 z0 w0
  rcases hl with hl | hl
  · go_enter Try.func4, Try.ntmps4
    go_wp2
    go_ret
    exact ⟨rfl, Below.refl _ _⟩
  have HB := Lib.hid hb
  clear hb w0
  go_enter Try.func4, Try.ntmps4
  go_wp2_with fail
  refine (drawFOk_at w _ len0 ⟨_, _, rfl⟩ HB.out).mono ?_
  rintro e w1 ⟨x, c, zs, rfl, hz, hl8, hb1⟩
  obtain ⟨m, hm⟩ : ∃ m, m = zs.length := ⟨_, rfl⟩
  rw [← hm] at hz hl8 ⊢
  have HM := Lib.hid hm
  have B1 := Lib.hid hb1
  have hA := (Below.refl w1.heap.size w1).alloc (Nat.le_refl _) (.cells #[.slice x m c] 28)
  have RS := Lib.hid (hz.below hA (Nat.le_refl _))
  have HA := Lib.hid hA
  clear hb1 hz hA hm
  go_wp2_with fail
  refine (imFewOk_at _ _ zs RS.out).mono ?_
  rintro e w2 ⟨rfl, hb2⟩
  have cb : w2.cell? ⟨w1.heap.size, 0, none⟩ = some (.slice x m c) := by rw [hb2.cell (by simp)]; simp
  have R2 := Lib.hid (RS.out.below hb2 (Nat.le_refl _))
  have B2 := Lib.hid (B1.out.trans ((HA.out.trans (hb2.mono HA.out.size)).mono B1.out.size))
  clear hb2 RS
  have K := Lib.hid (spFewOk_at w2 _ zs R2.out)
  cases hok : fewB zs with
  | false =>
    rw [hok] at K
    go_wp2_with fail
    refine K.out.mono ?_
    rintro e w3 ⟨rfl, hb3⟩
    have cb3 := cell_later hb3 cb
    have B3 := Lib.hid (B2.out.trans (hb3.mono B2.out.size))
    have K3 := Lib.hid (spFewOk_at w3 _ zs (R2.out.below hb3 (Nat.le_refl _)))
    rw [hok] at K3
    clear hb3 cb
    go_wp2_with fail
    refine K3.out.mono ?_
    rintro e w4 ⟨rfl, hb4⟩
    go_wp2
    go_ret
    exact ⟨rfl, B3.out.trans (hb4.mono B3.out.size)⟩
  | true =>
    rw [hok] at K
    have hp := fewB_parts hok
    have HOK := Lib.hid hok
    have m6 : (m : Int) ≤ 6 := by rw [HM.out]; exact_mod_cast hp.1
    clear hok hp
    go_wp2_with fail
    refine K.out.mono ?_
    rintro e w3 ⟨rfl, hb3⟩
    have cb3 := cell_later hb3 cb
    have B3 := Lib.hid (B2.out.trans (hb3.mono B2.out.size))
    have R3 := Lib.hid (R2.out.below hb3 (Nat.le_refl _))
    clear hb3 cb B2 R2 K
    by_cases hm0 : m = 0
    · have hm0' : (m : Int) = 0 := by omega
      subst hm0
      go_wp2
      refine wp_loop_rounds 1 ?_
      rw [rounds_succ]
      go_wp2
      go_ret
      exact ⟨rfl, B3.out⟩
    · obtain ⟨b, o, rfl⟩ : ∃ b o, x = some ⟨b, o, none⟩ := by
        rcases R3.out with ⟨hnil, hz⟩ | ⟨b, o, cap, hs, _, _, _, _⟩
        · cases hnil; omega
        · exact ⟨b, o, by injection hs⟩
      have hc : m ≤ c ∧ c ≤ maxLen := by
        rcases R3.out with ⟨hnil, hz⟩ | ⟨b', o', cap, hs, h1, h2, _, _⟩
        · cases hnil
        · injection hs with e1 e2 e3
          rw [e3, HM.out]; exact ⟨h1, h2⟩
      obtain ⟨hc1, hc2⟩ := hc
      unfold maxLen at hc2
      go_wp2
      go_loopw [5] (fun i wr => ∃ j : Nat, i = .int .i64 j ∧ j ≤ m ∧ Below w3.heap.size w3 wr) (fun i _ => m - (intOf i).toNat)
      case atStart => exact ⟨0, rfl, by omega, Below.refl _ _⟩
      case round =>
        obtain ⟨j, rfl, hj, hb⟩ := hrel
        have cw := cell_later hb cb3
        have RW := Lib.hid (R3.out.below hb (Nat.le_refl _))
        have BW := Lib.hid hb
        clear hb cb3
        by_cases hlt : j < m
        · go_wp2_with fail
          refine (imFewOk_at wr _ (zs.drop j) (ints_drop RW.out j (by omega))).mono ?_
          rintro e w4 ⟨rfl, hb4⟩
          rw [few_drop HOK.out j]
          have cw4 := cell_later hb4 cw
          have B4 := Lib.hid (BW.out.trans (hb4.mono BW.out.size))
          have R4 := Lib.hid (RW.out.below hb4 (Nat.le_refl _))
          clear hb4 cw BW RW
          go_wp2_with fail
          refine (imFewOk_at w4 _ (zs.take j) (ints_take R4.out j (by omega))).mono ?_
          rintro e w5 ⟨rfl, hb5⟩
          rw [few_take HOK.out j]
          go_wp2
          go_roundw
          case rel => exact ⟨j + 1, by simp, by omega, B4.out.trans (hb5.mono B4.out.size)⟩
          case measure => simp [intOf]; omega
        · obtain rfl : j = m := by omega
          go_wp2
          go_ret
          exact ⟨by first | (simp; done) | (simp; omega), B3.out.trans (BW.out.mono B3.out.size)⟩

/-! ### THE ROW's STEP: WRITTEN OUT: LEAVE IT -/
set_option maxRecDepth 100000 in
theorem lifted (os : Os) (started : os.Started) (H : Type) (enc : TypeId × Value → H) :
    ReturnsInHanded {} Try.checked os 4 .any (Rows.fnFewOkSpec.pre6 enc Try.prog Try.f4 Rows.fnFewOkRow.domain false) (Rows.fnFewOkSpec.post enc Try.prog Try.f4 false true false false) := by
  refine returnsInHanded_of_change (C := Try.checked) own started (by kernel_rfl) Try.func4
    (ChangeSpec.witness6 (enc := enc) (C := Try.checked) false ⟨#[], #[.slice none 0 0], []⟩ 8 (by kernel_rfl) (by kernel_rfl) (by kernel_rfl) (by kernel_rfl)) ?_
  intro W base args ds gs before hval0 hW hcnd _
  have hval : ∀ (j : Nat) t v, Try.f4.params[j]? = some t → args[j]? = some v → Value.okWide Try.prog W .any base t v := hval0
  have hW' := hW
  obtain ⟨p, q, hA0, hV, rfl, hfz, hnd⟩ := hW
  have hA : DataW.TrodAll enc Try.prog W 0 (fun _ => true) true Try.f4.params.toList args.toList ds p := hA0
  rw [Try.params4] at hA hval
  obtain ⟨v0, vs0, d0, ds0, p0, q0, hargs, rfl, rfl, h0, r0⟩ := trodAll_cons hA
  obtain ⟨rfl, rfl, rfl⟩ := trodAll_nil r0
  obtain rfl : args = #[v0] := by cases args; simp_all
  obtain ⟨rfl, rfl⟩ := trodVars_none hV
  obtain ⟨a0, len0, cap0, rfl⟩ := okWide_slice Try.underlying22 (hval 0 22 v0 rfl rfl)
  have k0 := h0
  have lt0 : ∀ x ∈ p0, x.block < W.heap.size := by obtain ⟨m, hm⟩ := k0; exact DataW.trod_lt m _ _ _ hm
  obtain ⟨z0, w0⟩ : ∃ zs, IsRow .u8 W a0 len0 cap0 zs := by
    obtain ⟨fuel, hf⟩ := h0
    rcases open_ints Try.underlying22 Try.underlying5 (by kernel_rfl) hf with ⟨hcs, _⟩ | ⟨x, l, c, zs, hcs, _, hl, hm, hz, _, hcell, hwz⟩
    · simp [Value.cells] at hcs
      obtain ⟨rfl, rfl, rfl⟩ := hcs
      exact ⟨[], .inl ⟨rfl, rfl, rfl, rfl⟩⟩
    · simp [Value.cells] at hcs
      obtain ⟨rfl, rfl, rfl⟩ := hcs
      exact ⟨zs, .inr ⟨_, rfl, hl, hm, by simpa using hz, hcell, hwz⟩⟩
  clear hA0 hval0
  refine (walk a0 len0 cap0 z0 W w0).mono fun e W' ⟨he, bel⟩ => ?_
  subst he
  exact ⟨_, rfl, _, _, _, [], _, [], hW', trodAll_mk1 (shut_bool Try.underlying4 _), (trodAll_cons_mk (Below.trod laidOut (by kernel_rfl) (of_decide_eq_true (by kernel_rfl)) k0 bel lt0) trodAll_mk0), rfl, bel.frame _, fun h => by cases h⟩

theorem over : Rows.fnFewOkRow.holds Try.pinned (OpenSpec.ofChange Rows.fnFewOkSpec) :=
  OpenClaim.holds_of_wide 4 Try.f4 rfl rfl rfl rfl rfl rfl rfl ⟨rfl, rfl, rfl, rfl, rfl⟩ rfl rfl rfl rfl rfl (by kernel_rfl) Try.func4 (by kernel_rfl)
    (of_decide_eq_true (by kernel_rfl)) (by unfold Func.isWrapper; first | (rw [if_pos (by decide +kernel)]; kernel_rfl) | (rw [if_neg (by decide +kernel)]; exact ⟨rfl, rfl⟩))
    (fun os started H enc _ => lifted os started H enc)

theorem proved : Rows.FnFewOkSaid := over
#print axioms proved
end Go.Proofs.Yteopnbjiffncbac.fnFewOk
