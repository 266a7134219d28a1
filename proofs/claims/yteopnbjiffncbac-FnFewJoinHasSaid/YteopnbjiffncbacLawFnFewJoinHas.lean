/-
  The statement of the law FnFewJoinHas: at every input the call returns true and leaves what it was given as it was. The frame is the kit's shell; the walk is ours.
-/
import Derived.Test.YteopnbjiffncbacFLaw2
import Derived.Test.YteopnbjiffncbacRows
import Derived.WalkKit
import Derived.ProofKit
import Derived.OpenShut
import Derived.ShutString
import Derived.ChangeOld
import Derived.Below
namespace Go.Proofs.Yteopnbjiffncbac.fnFewJoinHas
open Go.ChangeShapes Go.WideShapes Go.ChangeAt Go.RowKit
open Go.ChangeMaps (open_string shut_string)
set_option linter.unusedVariables false

theorem own : ownKnob Try.prog.godebug = none := by kernel_rfl
theorem laidOut : laidOutB Try.prog = true := by kernel_rfl

/-- WHAT THE WALK IS TOLD OF A SLICE OF INTEGERS THAT CAME IN: it is nil; or it leads to a row of 'cap' cells, the numbers 'zs' (the first 'len' are its elements, the rest its spare room), each fitting its kind. -/
def IsRow (k : IntKind) (w : World) (a : Option Addr) (len cap : Nat) (zs : List Int) : Prop :=
  (a = none ∧ len = 0 ∧ cap = 0 ∧ zs = []) ∨
  ∃ x, a = some x ∧ len ≤ cap ∧ cap ≤ maxLen ∧ zs.length = cap ∧ (∀ i, i < zs.length → w.cell? (x.add i) = some (.int k (zs.getD i 0))) ∧ ∀ n ∈ zs, (Lit.int k n).wf = true

/-! ### STEP 1: THE WALK: the Go text returns true, AND WRITES NOTHING THAT WAS THERE: 'Below w.heap.size w w'' (Derived/Below.lean: '.refl', '.alloc', '.drew', '.setCell' at a new block, '.trans'). Open each 'IsRow' by 'rcases' AHEAD of 'go_enter'; part every test ahead of the walk. -/
theorem walk (a0 : Option Addr) (len0 cap0 : Nat) (z0 : List Int) (w : World) (w0 : IsRow .u8 w a0 len0 cap0 z0) :
    Calls Try.prog 11 #[.slice a0 len0 cap0] w fun e w' => e = .returned (.bool true) ∧ Below w.heap.size w w' := by
  obtain ⟨hb, hl⟩ := bts_of w a0 len0 cap0 z0 w0
  rcases hl with hl | hl
  · go_enter Try.func11, Try.ntmps11
    go_wp2
    go_ret
    exact ⟨rfl, Below.refl _ _⟩
  have HB0 := Lib.hid hb
  clear hb w0
  go_enter Try.func11, Try.ntmps11
  go_wp2_with fail
  refine (drawFJoin_at w _ len0 ⟨_, _, rfl⟩ HB0.out).mono ?_
  rintro e w1' ⟨xa, ca, zs, xb, cb, ys, rfl, hz, hy, hla, hlb, hb⟩
  have ha := hz.rd
  have hb' := hy.rd
  obtain ⟨na, hn⟩ : ∃ n, n = zs.length := ⟨_, rfl⟩
  obtain ⟨nb, hm⟩ : ∃ n, n = ys.length := ⟨_, rfl⟩
  rw [← hn] at ha hla ⊢
  rw [← hm] at hb' hlb ⊢
  have Na := Lib.hid hn
  have Nb := Lib.hid hm
  have B_a := Lib.hid hb
  clear hb
  have hb := hb'
  clear hb'
  clear hz hy hn hm
  obtain ⟨W1, hW⟩ : ∃ W, W = ((w1').alloc (.cells #[.slice xa na ca] 28)).alloc (.cells #[.slice xb nb cb] 28) := ⟨_, rfl⟩
  have hA : Below w1'.heap.size w1' W1 := by rw [hW]; exact (((Below.refl _ _).alloc (Nat.le_refl _) _).alloc (by simp) _)
  have Ca_1 : W1.cell? ⟨w1'.heap.size, 0, none⟩ = some (.slice xa na ca) := by rw [hW]; simp [go_sem]
  have Ia_1 := Lib.hid (ha.below hA (Nat.le_refl _))
  have Cb_1 : W1.cell? ⟨w1'.heap.size + 1, 0, none⟩ = some (.slice xb nb cb) := by rw [hW]; simp [go_sem]
  have Ib_1 := Lib.hid (hb.below hA (Nat.le_refl _))
  have B1 := Lib.hid (B_a.out.trans (hA.mono B_a.out.size))
  clear hA B_a  ha hb
  go_wp2_with fail
  rw [← hW]
  clear hW 
  refine (spFewJoin_at W1 _ _ zs ys Ia_1.out Ib_1.out).mono ?_
  rintro e w2' ⟨v, rfl, ho, hb⟩
  obtain ⟨xs, cs, rfl⟩ := ho.form
  obtain ⟨ns, hn⟩ : ∃ n, n = (joinF zs ys).length := ⟨_, rfl⟩
  have hs := ho.rd
  rw [← hn] at hs ⊢
  have Ns := Lib.hid hn
  have Ca_a := cell_later hb Ca_1
  have Ia_a := Lib.hid (Ia_1.out.below hb (Nat.le_refl _))
  have Cb_a := cell_later hb Cb_1
  have Ib_a := Lib.hid (Ib_1.out.below hb (Nat.le_refl _))
  have B_a := Lib.hid (B1.out.trans (hb.mono B1.out.size))
  clear Ca_1 Ia_1 Cb_1 Ib_1 B1
  clear ho hb hn
  have la := World.block_lt_of_cell? _ _ Ca_a
  have lb := World.block_lt_of_cell? _ _ Cb_a
  obtain ⟨W2, hW⟩ : ∃ W, W = (w2').alloc (.cells #[.slice xs ns cs] 28) := ⟨_, rfl⟩
  have hA : Below w2'.heap.size w2' W2 := by rw [hW]; exact ((Below.refl _ _).alloc (Nat.le_refl _) _)
  have Ca_2 := cell_later hA Ca_a
  have Ia_2 := Lib.hid (Ia_a.out.below hA (Nat.le_refl _))
  have Cb_2 := cell_later hA Cb_a
  have Ib_2 := Lib.hid (Ib_a.out.below hA (Nat.le_refl _))
  have Cs_2 : W2.cell? ⟨w2'.heap.size, 0, none⟩ = some (.slice xs ns cs) := by rw [hW]; simp [go_sem]
  have Is_2 := Lib.hid (hs.below hA (Nat.le_refl _))
  have B2 := Lib.hid (B_a.out.trans (hA.mono B_a.out.size))
  clear hA B_a Ia_a Ib_a hs
  go_wp2_with fail
  rw [← hW]
  clear hW Ca_a la Cb_a lb
  refine (imFewJoin_at W2 _ _ zs ys Ia_2.out Ib_2.out).mono ?_
  rintro e w3' ⟨v, rfl, ho, hb⟩
  obtain ⟨xx, cx, rfl⟩ := ho.form
  obtain ⟨nx, hn⟩ : ∃ n, n = (joinF zs ys).length := ⟨_, rfl⟩
  have hx := ho.rd
  rw [← hn] at hx ⊢
  have Nx := Lib.hid hn
  have Ca_a := cell_later hb Ca_2
  have Ia_a := Lib.hid (Ia_2.out.below hb (Nat.le_refl _))
  have Cb_a := cell_later hb Cb_2
  have Ib_a := Lib.hid (Ib_2.out.below hb (Nat.le_refl _))
  have Cs_a := cell_later hb Cs_2
  have Is_a := Lib.hid (Is_2.out.below hb (Nat.le_refl _))
  have B_a := Lib.hid (B2.out.trans (hb.mono B2.out.size))
  clear Ca_2 Ia_2 Cb_2 Ib_2 Cs_2 Is_2 B2
  clear ho hb hn
  have la := World.block_lt_of_cell? _ _ Ca_a
  have lb := World.block_lt_of_cell? _ _ Cb_a
  have ls := World.block_lt_of_cell? _ _ Cs_a
  obtain ⟨W3, hW⟩ : ∃ W, W = (w3').alloc (.cells #[.slice xx nx cx] 28) := ⟨_, rfl⟩
  have hA : Below w3'.heap.size w3' W3 := by rw [hW]; exact ((Below.refl _ _).alloc (Nat.le_refl _) _)
  have Ca_3 := cell_later hA Ca_a
  have Ia_3 := Lib.hid (Ia_a.out.below hA (Nat.le_refl _))
  have Cb_3 := cell_later hA Cb_a
  have Ib_3 := Lib.hid (Ib_a.out.below hA (Nat.le_refl _))
  have Cs_3 := cell_later hA Cs_a
  have Is_3 := Lib.hid (Is_a.out.below hA (Nat.le_refl _))
  have Cx_3 : W3.cell? ⟨w3'.heap.size, 0, none⟩ = some (.slice xx nx cx) := by rw [hW]; simp [go_sem]
  have Ix_3 := Lib.hid (hx.below hA (Nat.le_refl _))
  have B3 := Lib.hid (B_a.out.trans (hA.mono B_a.out.size))
  clear hA B_a Ia_a Ib_a Is_a hx
  cases hok : joinOkF zs ys with
  | false =>
    clear hok
    go_wp2_with fail
    rw [← hW]
    clear hW Ca_a la Cb_a lb Cs_a ls
    refine (lkIntsB_at W3 _ _ (joinF zs ys) (joinF zs ys) Ix_3.out Is_3.out (by have := joinF_len zs ys; omega)).mono ?_
    rintro e W4 ⟨rfl, hb⟩
    rw [decide_eq_true rfl]
    have Ca_4 := cell_later hb Ca_3
    have Ia_4 := Lib.hid (Ia_3.out.below hb (Nat.le_refl _))
    have Cb_4 := cell_later hb Cb_3
    have Ib_4 := Lib.hid (Ib_3.out.below hb (Nat.le_refl _))
    have Cs_4 := cell_later hb Cs_3
    have Is_4 := Lib.hid (Is_3.out.below hb (Nat.le_refl _))
    have Cx_4 := cell_later hb Cx_3
    have Ix_4 := Lib.hid (Ix_3.out.below hb (Nat.le_refl _))
    have B4 := Lib.hid (B3.out.trans (hb.mono B3.out.size))
    clear hb Ca_3 Ia_3 Cb_3 Ib_3 Cs_3 Is_3 Cx_3 Ix_3 B3
    go_wp2_with fail
    refine (lkIntsB_at W4 _ _ (joinF zs ys) (joinF zs ys) Ix_4.out Is_4.out (by have := joinF_len zs ys; omega)).mono ?_
    rintro e W5 ⟨rfl, hb⟩
    rw [decide_eq_true rfl]
    have Ca_5 := cell_later hb Ca_4
    have Ia_5 := Lib.hid (Ia_4.out.below hb (Nat.le_refl _))
    have Cb_5 := cell_later hb Cb_4
    have Ib_5 := Lib.hid (Ib_4.out.below hb (Nat.le_refl _))
    have Cs_5 := cell_later hb Cs_4
    have Is_5 := Lib.hid (Is_4.out.below hb (Nat.le_refl _))
    have Cx_5 := cell_later hb Cx_4
    have Ix_5 := Lib.hid (Ix_4.out.below hb (Nat.le_refl _))
    have B5 := Lib.hid (B4.out.trans (hb.mono B4.out.size))
    clear hb Ca_4 Ia_4 Cb_4 Ib_4 Cs_4 Is_4 Cx_4 Ix_4 B4
    go_wp2
    go_ret
    exact ⟨rfl, B5.out⟩
  | true =>
    have KN := Lib.hid (join_known hok)
    clear hok
    go_wp2_with fail
    rw [← hW]
    clear hW Ca_a la Cb_a lb Cs_a ls
    refine (lkIntsB_at W3 _ _ (joinF zs ys) (joinF zs ys) Ix_3.out Is_3.out (by have := joinF_len zs ys; omega)).mono ?_
    rintro e W4 ⟨rfl, hb⟩
    rw [decide_eq_true rfl]
    have Ca_4 := cell_later hb Ca_3
    have Ia_4 := Lib.hid (Ia_3.out.below hb (Nat.le_refl _))
    have Cb_4 := cell_later hb Cb_3
    have Ib_4 := Lib.hid (Ib_3.out.below hb (Nat.le_refl _))
    have Cs_4 := cell_later hb Cs_3
    have Is_4 := Lib.hid (Is_3.out.below hb (Nat.le_refl _))
    have Cx_4 := cell_later hb Cx_3
    have Ix_4 := Lib.hid (Ix_3.out.below hb (Nat.le_refl _))
    have B4 := Lib.hid (B3.out.trans (hb.mono B3.out.size))
    clear hb Ca_3 Ia_3 Cb_3 Ib_3 Cs_3 Is_3 Cx_3 Ix_3 B3
    go_wp2
    go_loopw [9] (fun i wr => ∃ k : Nat, k ≤ 64 ∧ i = .int .i64 k ∧ Below W4.heap.size W4 wr) (fun i _ => 64 - (intOf i).toNat)
    case atStart => exact ⟨0, Nat.zero_le _, rfl, Below.refl _ _⟩
    case round =>
      obtain ⟨k, hk, rfl, hbl⟩ := hrel
      have HL := Lib.hid hbl
      have Cx := cell_later hbl Cx_4
      have Ca := cell_later hbl Ca_4
      have Cb := cell_later hbl Cb_4
      have Ix := Lib.hid (Ix_4.out.below hbl (Nat.le_refl _))
      have Ia := Lib.hid (Ia_4.out.below hbl (Nat.le_refl _))
      have Ib := Lib.hid (Ib_4.out.below hbl (Nat.le_refl _))
      clear hbl Cs_4 Cx_4 Ca_4 Cb_4
      by_cases hlt : k < 64
      · have kn := KN.out (k : Int)
        have KX := Lib.hid (imHas_at wr _ (joinF zs ys) (k : Int) Ix.out)
        have KA := fun W (h : Ints W (.slice xa na ca) zs) => imHas_at W _ zs (k : Int) h
        have KB := fun W (h : Ints W (.slice xb nb cb) ys) => imHas_at W _ ys (k : Int) h
        generalize hasA (joinF zs ys) (k : Int) = A at *
        generalize hasK (joinF zs ys) (k : Int) = B at *
        generalize hasA zs (k : Int) = A1 at *
        generalize hasK zs (k : Int) = B1' at *
        generalize hasA ys (k : Int) = A2 at *
        generalize hasK ys (k : Int) = B2' at *
        have KN' := Lib.hid kn
        have KA' := Lib.hid KA
        have KB' := Lib.hid KB
        clear kn KA KB
        go_wp2_with fail
        refine KX.out.mono ?_
        rintro e w5 ⟨rfl, hb5⟩
        have Ca5 := cell_later hb5 Ca
        have Cb5 := cell_later hb5 Cb
        have Ia5 := Lib.hid (Ia.out.below hb5 (Nat.le_refl _))
        have Ib5 := Lib.hid (Ib.out.below hb5 (Nat.le_refl _))
        have L5 := Lib.hid (HL.out.trans (hb5.mono HL.out.size))
        clear hb5 Ca Cb Cx
        go_wp2_with fail
        refine (KA'.out w5 Ia5.out).mono ?_
        rintro e w6 ⟨rfl, hb6⟩
        have Cb6 := cell_later hb6 Cb5
        have Ib6 := Lib.hid (Ib5.out.below hb6 (Nat.le_refl _))
        have L6 := Lib.hid (L5.out.trans (hb6.mono L5.out.size))
        clear hb6 Ca5 Cb5
        go_wp2_with fail
        refine (KB'.out w6 Ib6.out).mono ?_
        rintro e w7 ⟨rfl, hb7⟩
        have L7 := Lib.hid (L6.out.trans (hb7.mono L6.out.size))
        clear hb7 Cb6
        cases B with
        | false =>
          go_wp2
          go_roundw
          case rel => exact ⟨k + 1, by omega, by go_num, L7.out⟩
          case measure => simp [intOf]; omega
        | true =>
          have e := KN'.out rfl
          subst e
          cases A1 with
          | true =>
            go_wp2
            go_roundw
            case rel => exact ⟨k + 1, by omega, by go_num, L7.out⟩
            case measure => simp [intOf]; omega
          | false =>
            cases A2 with
            | true =>
              go_wp2
              go_roundw
              case rel => exact ⟨k + 1, by omega, by go_num, L7.out⟩
              case measure => simp [intOf]; omega
            | false =>
              go_wp2
              go_roundw
              case rel => exact ⟨k + 1, by omega, by go_num, L7.out⟩
              case measure => simp [intOf]; omega
      · go_wp2
        go_ret
        exact ⟨rfl, B4.out.trans (HL.out.mono B4.out.size)⟩

/-! ### THE ROW's STEP: WRITTEN OUT: LEAVE IT -/
set_option maxRecDepth 100000 in
theorem lifted (os : Os) (started : os.Started) (H : Type) (enc : TypeId × Value → H) :
    ReturnsInHanded {} Try.checked os 11 .any (Rows.fnFewJoinHasSpec.pre6 enc Try.prog Try.f11 Rows.fnFewJoinHasRow.domain false) (Rows.fnFewJoinHasSpec.post enc Try.prog Try.f11 false true false false) := by
  refine returnsInHanded_of_change (C := Try.checked) own started (by kernel_rfl) Try.func11
    (ChangeSpec.witness6 (enc := enc) (C := Try.checked) false ⟨#[], #[.slice none 0 0], []⟩ 8 (by kernel_rfl) (by kernel_rfl) (by kernel_rfl) (by kernel_rfl)) ?_
  intro W base args ds gs before hval0 hW hcnd _
  have hval : ∀ (j : Nat) t v, Try.f11.params[j]? = some t → args[j]? = some v → Value.okWide Try.prog W .any base t v := hval0
  have hW' := hW
  obtain ⟨p, q, hA0, hV, rfl, hfz, hnd⟩ := hW
  have hA : DataW.TrodAll enc Try.prog W 0 (fun _ => true) true Try.f11.params.toList args.toList ds p := hA0
  rw [Try.params11] at hA hval
  obtain ⟨v0, vs0, d0, ds0, p0, q0, hargs, rfl, rfl, h0, r0⟩ := trodAll_cons hA
  obtain ⟨rfl, rfl, rfl⟩ := trodAll_nil r0
  obtain rfl : args = #[v0] := by cases args; simp_all
  obtain ⟨rfl, rfl⟩ := trodVars_none hV
  obtain ⟨a0, len0, cap0, rfl⟩ := okWide_slice Try.underlying22 (hval 0 22 v0 rfl rfl)
  have k0 := h0
  have lt0 : ∀ x ∈ p0, x.block < W.heap.size := by obtain ⟨m, hm⟩ := k0; exact DataW.trod_lt m _ _ _ hm
  obtain ⟨z0, w0⟩ : ∃ zs, IsRow .u8 W a0 len0 cap0 zs := by
    obtain ⟨fuel, hf⟩ := h0
    rcases open_ints Try.underlying22 Try.underlying5 (by kernel_rfl) hf with ⟨hcs, _⟩ | ⟨x, l, c, zs, hcs, _, hl, hm, hz, _, hcell, hwz⟩
    · simp [Value.cells] at hcs
      obtain ⟨rfl, rfl, rfl⟩ := hcs
      exact ⟨[], .inl ⟨rfl, rfl, rfl, rfl⟩⟩
    · simp [Value.cells] at hcs
      obtain ⟨rfl, rfl, rfl⟩ := hcs
      exact ⟨zs, .inr ⟨_, rfl, hl, hm, by simpa using hz, hcell, hwz⟩⟩
  clear hA0 hval0
  refine (walk a0 len0 cap0 z0 W w0).mono fun e W' ⟨he, bel⟩ => ?_
  subst he
  exact ⟨_, rfl, _, _, _, [], _, [], hW', trodAll_mk1 (shut_bool Try.underlying4 _), (trodAll_cons_mk (Below.trod laidOut (by kernel_rfl) (of_decide_eq_true (by kernel_rfl)) k0 bel lt0) trodAll_mk0), rfl, bel.frame _, fun h => by cases h⟩

theorem over : Rows.fnFewJoinHasRow.holds Try.pinned (OpenSpec.ofChange Rows.fnFewJoinHasSpec) :=
  OpenClaim.holds_of_wide 11 Try.f11 rfl rfl rfl rfl rfl rfl rfl ⟨rfl, rfl, rfl, rfl, rfl⟩ rfl rfl rfl rfl rfl (by kernel_rfl) Try.func11 (by kernel_rfl)
    (of_decide_eq_true (by kernel_rfl)) (by unfold Func.isWrapper; first | (rw [if_pos (by decide +kernel)]; kernel_rfl) | (rw [if_neg (by decide +kernel)]; exact ⟨rfl, rfl⟩))
    (fun os started H enc _ => lifted os started H enc)

theorem proved : Rows.FnFewJoinHasSaid := over
#print axioms proved
end Go.Proofs.Yteopnbjiffncbac.fnFewJoinHas
