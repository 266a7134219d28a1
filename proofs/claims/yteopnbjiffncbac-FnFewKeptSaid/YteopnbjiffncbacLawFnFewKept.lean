/-
  The statement of the law FnFewKept: at every input the call returns true and leaves what it was given as it was. The frame is the kit's shell; the walk is ours.
-/
import Derived.Test.YteopnbjiffncbacFLaw2
import Derived.Test.YteopnbjiffncbacRows
import Derived.WalkKit
import Derived.ProofKit
import Derived.OpenShut
import Derived.ShutString
import Derived.ChangeOld
import Derived.Below
namespace Go.Proofs.Yteopnbjiffncbac.fnFewKept
open Go.ChangeShapes Go.WideShapes Go.ChangeAt Go.RowKit
open Go.ChangeMaps (open_string shut_string)
set_option linter.unusedVariables false

theorem own : ownKnob Try.prog.godebug = none := by kernel_rfl
theorem laidOut : laidOutB Try.prog = true := by kernel_rfl

/-- WHAT THE WALK IS TOLD OF A SLICE OF INTEGERS THAT CAME IN: it is nil; or it leads to a row of 'cap' cells, the numbers 'zs' (the first 'len' are its elements, the rest its spare room), each fitting its kind. -/
def IsRow (k : IntKind) (w : World) (a : Option Addr) (len cap : Nat) (zs : List Int) : Prop :=
  (a = none ∧ len = 0 ∧ cap = 0 ∧ zs = []) ∨
  ∃ x, a = some x ∧ len ≤ cap ∧ cap ≤ maxLen ∧ zs.length = cap ∧ (∀ i, i < zs.length → w.cell? (x.add i) = some (.int k (zs.getD i 0))) ∧ ∀ n ∈ zs, (Lit.int k n).wf = true

/-! ### STEP 1: THE WALK: the Go text returns true, AND WRITES NOTHING THAT WAS THERE: 'Below w.heap.size w w'' (Derived/Below.lean: '.refl', '.alloc', '.drew', '.setCell' at a new block, '.trans'). Open each 'IsRow' by 'rcases' AHEAD of 'go_enter'; part every test ahead of the walk. -/
theorem walk (a0 : Option Addr) (len0 cap0 : Nat) (z0 : List Int) (w : World) (w0 : IsRow .u8 w a0 len0 cap0 z0) :
    Calls Try.prog 12 #[.slice a0 len0 cap0] w fun e w' => e = .returned (.bool true) ∧ Below w.heap.size w w' := by
  obtain ⟨hb, hl⟩ := bts_of w a0 len0 cap0 z0 w0
  rcases hl with hl | hl
  · go_enter Try.func12, Try.ntmps12
    go_wp2
    go_ret
    exact ⟨rfl, Below.refl _ _⟩
  have HB0 := Lib.hid hb
  clear hb w0
  go_enter Try.func12, Try.ntmps12
  go_wp2_with fail
  refine (drawFAdd_at w _ len0 ⟨_, _, rfl⟩ HB0.out).mono ?_
  rintro e w1' ⟨xf, cf, zs, t, rfl, hz, hl7, t0, t1, hb⟩
  have hf := hz.rd
  obtain ⟨nf, hn⟩ : ∃ n, n = zs.length := ⟨_, rfl⟩
  rw [← hn] at hf hl7 ⊢
  have Nf := Lib.hid hn
  have B_a := Lib.hid hb
  have hl7' := Lib.hid hl7
  clear hz hb hn t0 t1
  obtain ⟨W1, hW⟩ : ∃ W, W = (w1').alloc (.cells #[.slice xf nf cf] 28) := ⟨_, rfl⟩
  have hA : Below w1'.heap.size w1' W1 := by rw [hW]; exact ((Below.refl _ _).alloc (Nat.le_refl _) _)
  have Cf_1 : W1.cell? ⟨w1'.heap.size, 0, none⟩ = some (.slice xf nf cf) := by rw [hW]; simp [go_sem]
  have If_1 := Lib.hid (hf.below hA (Nat.le_refl _))
  have B1 := Lib.hid (B_a.out.trans (hA.mono B_a.out.size))
  clear hA B_a  hf
  go_wp2_with fail
  rw [← hW]
  clear hW 
  refine (spFewAdd_at W1 _ zs t If_1.out).mono ?_
  rintro e w2' ⟨v, rfl, ho, hb⟩
  obtain ⟨xs, cs, rfl⟩ := ho.form
  obtain ⟨ns, hn⟩ : ∃ n, n = (addF zs t).length := ⟨_, rfl⟩
  have hs := ho.rd
  rw [← hn] at hs ⊢
  have Ns := Lib.hid hn
  have Cf_a := cell_later hb Cf_1
  have If_a := Lib.hid (If_1.out.below hb (Nat.le_refl _))
  have B_a := Lib.hid (B1.out.trans (hb.mono B1.out.size))
  clear Cf_1 If_1 B1
  clear ho hb hn
  have lf := World.block_lt_of_cell? _ _ Cf_a
  obtain ⟨W2, hW⟩ : ∃ W, W = (w2').alloc (.cells #[.slice xs ns cs] 28) := ⟨_, rfl⟩
  have hA : Below w2'.heap.size w2' W2 := by rw [hW]; exact ((Below.refl _ _).alloc (Nat.le_refl _) _)
  have Cf_2 := cell_later hA Cf_a
  have If_2 := Lib.hid (If_a.out.below hA (Nat.le_refl _))
  have Cs_2 : W2.cell? ⟨w2'.heap.size, 0, none⟩ = some (.slice xs ns cs) := by rw [hW]; simp [go_sem]
  have Is_2 := Lib.hid (hs.below hA (Nat.le_refl _))
  have B2 := Lib.hid (B_a.out.trans (hA.mono B_a.out.size))
  clear hA B_a If_a hs
  go_wp2_with fail
  rw [← hW]
  clear hW Cf_a lf
  refine (imFewAdd_at W2 _ zs t If_2.out).mono ?_
  rintro e w3' ⟨v, rfl, ho, hb⟩
  obtain ⟨xx, cx, rfl⟩ := ho.form
  obtain ⟨nx, hn⟩ : ∃ n, n = (addF zs t).length := ⟨_, rfl⟩
  have hx := ho.rd
  rw [← hn] at hx ⊢
  have Nx := Lib.hid hn
  have Cf_a := cell_later hb Cf_2
  have If_a := Lib.hid (If_2.out.below hb (Nat.le_refl _))
  have Cs_a := cell_later hb Cs_2
  have Is_a := Lib.hid (Is_2.out.below hb (Nat.le_refl _))
  have B_a := Lib.hid (B2.out.trans (hb.mono B2.out.size))
  clear Cf_2 If_2 Cs_2 Is_2 B2
  clear ho hb hn
  have lf := World.block_lt_of_cell? _ _ Cf_a
  have ls := World.block_lt_of_cell? _ _ Cs_a
  obtain ⟨W3, hW⟩ : ∃ W, W = (w3').alloc (.cells #[.slice xx nx cx] 28) := ⟨_, rfl⟩
  have hA : Below w3'.heap.size w3' W3 := by rw [hW]; exact ((Below.refl _ _).alloc (Nat.le_refl _) _)
  have Cf_3 := cell_later hA Cf_a
  have If_3 := Lib.hid (If_a.out.below hA (Nat.le_refl _))
  have Cs_3 := cell_later hA Cs_a
  have Is_3 := Lib.hid (Is_a.out.below hA (Nat.le_refl _))
  have Cx_3 : W3.cell? ⟨w3'.heap.size, 0, none⟩ = some (.slice xx nx cx) := by rw [hW]; simp [go_sem]
  have Ix_3 := Lib.hid (hx.below hA (Nat.le_refl _))
  have B3 := Lib.hid (B_a.out.trans (hA.mono B_a.out.size))
  clear hA B_a If_a Is_a hx
  cases hok : addOkF zs t with
  | false =>
    clear hok
    go_wp2_with fail
    rw [← hW]
    clear hW Cf_a lf Cs_a ls
    refine (lkIntsB_at W3 _ _ (addF zs t) (addF zs t) Ix_3.out Is_3.out (by have := addF_len zs t; omega)).mono ?_
    rintro e W4 ⟨rfl, hb⟩
    rw [decide_eq_true rfl]
    have Cf_4 := cell_later hb Cf_3
    have If_4 := Lib.hid (If_3.out.below hb (Nat.le_refl _))
    have Cs_4 := cell_later hb Cs_3
    have Is_4 := Lib.hid (Is_3.out.below hb (Nat.le_refl _))
    have Cx_4 := cell_later hb Cx_3
    have Ix_4 := Lib.hid (Ix_3.out.below hb (Nat.le_refl _))
    have B4 := Lib.hid (B3.out.trans (hb.mono B3.out.size))
    clear hb Cf_3 If_3 Cs_3 Is_3 Cx_3 Ix_3 B3
    go_wp2_with fail
    refine (lkIntsB_at W4 _ _ (addF zs t) (addF zs t) Ix_4.out Is_4.out (by have := addF_len zs t; omega)).mono ?_
    rintro e W5 ⟨rfl, hb⟩
    rw [decide_eq_true rfl]
    have Cf_5 := cell_later hb Cf_4
    have If_5 := Lib.hid (If_4.out.below hb (Nat.le_refl _))
    have Cs_5 := cell_later hb Cs_4
    have Is_5 := Lib.hid (Is_4.out.below hb (Nat.le_refl _))
    have Cx_5 := cell_later hb Cx_4
    have Ix_5 := Lib.hid (Ix_4.out.below hb (Nat.le_refl _))
    have B5 := Lib.hid (B4.out.trans (hb.mono B4.out.size))
    clear hb Cf_4 If_4 Cs_4 Is_4 Cx_4 Ix_4 B4
    go_wp2
    go_ret
    exact ⟨rfl, B5.out⟩
  | true =>
    have KW : Hid (∀ m, m ∈ addF zs t → m ∉ zs → m = markV t) := fun m h1 h2 => kept_was hok h1 h2
    have KN : Hid (∀ m, m ∈ zs → m ∉ addF zs t → (addF zs t).length = 6 ∧ ¬ m < (addF zs t).getD 5 0) := fun m h1 h2 => kept_not hok h1 h2
    have l6 := addF_len zs t
    rw [← Nx.out] at l6
    clear hok
    go_wp2_with fail
    rw [← hW]
    clear hW Cf_a lf Cs_a ls
    refine (lkIntsB_at W3 _ _ (addF zs t) (addF zs t) Ix_3.out Is_3.out (by have := addF_len zs t; omega)).mono ?_
    rintro e W4 ⟨rfl, hb⟩
    rw [decide_eq_true rfl]
    have Cf_4 := cell_later hb Cf_3
    have If_4 := Lib.hid (If_3.out.below hb (Nat.le_refl _))
    have Cs_4 := cell_later hb Cs_3
    have Is_4 := Lib.hid (Is_3.out.below hb (Nat.le_refl _))
    have Cx_4 := cell_later hb Cx_3
    have Ix_4 := Lib.hid (Ix_3.out.below hb (Nat.le_refl _))
    have B4 := Lib.hid (B3.out.trans (hb.mono B3.out.size))
    clear hb Cf_3 If_3 Cs_3 Is_3 Cx_3 Ix_3 B3
    have CX : Hid (∀ i, i < nx → ∃ b o, xx = some ⟨b, o, none⟩ ∧ b < W4.heap.size ∧ W4.cell? ⟨b, o + i, none⟩ = some (.int .i64 ((addF zs t).getD i 0))) := fun i hi => by
      rcases Ix_4.out with ⟨e, _⟩ | ⟨b, o, c', e, _, _, hb, hc⟩
      · have := (Value.slice.inj e).2.1; omega
      · exact ⟨b, o, (Value.slice.inj e).1, hb, hc i (by rw [← Nx.out]; exact hi)⟩
    have CF : Hid (∀ i, i < nf → ∃ b o, xf = some ⟨b, o, none⟩ ∧ b < W4.heap.size ∧ W4.cell? ⟨b, o + i, none⟩ = some (.int .i64 (zs.getD i 0))) := fun i hi => by
      rcases If_4.out with ⟨e, _⟩ | ⟨b, o, c', e, _, _, hb, hc⟩
      · have := (Value.slice.inj e).2.1; omega
      · exact ⟨b, o, (Value.slice.inj e).1, hb, hc i (by rw [← Nf.out]; exact hi)⟩
    go_wp2
    go_loopw [9] (fun i wr => ∃ k : Nat, k ≤ nx ∧ i = .int .i64 k ∧ Below W4.heap.size W4 wr) (fun i _ => nx - (intOf i).toNat)
    case atStart => exact ⟨0, Nat.zero_le _, rfl, Below.refl _ _⟩
    case round =>
      obtain ⟨k, hk, rfl, hbl⟩ := hrel
      have HL := Lib.hid hbl
      have Cx := cell_later hbl Cx_4
      have Cf := cell_later hbl Cf_4
      have If := Lib.hid (If_4.out.below hbl (Nat.le_refl _))
      by_cases hlt : k < nx
      · obtain ⟨b, o, rfl, hb, hc⟩ := CX.out k hlt
        rw [← hbl.cell (p := ⟨b, o + k, none⟩) hb] at hc
        have hmem : (addF zs t).getD k 0 ∈ addF zs t := getD_mem _ _ _ (by rw [← Nx.out]; exact hlt)
        obtain ⟨z, hz⟩ : ∃ z, z = (addF zs t).getD k 0 := ⟨_, rfl⟩
        rw [← hz] at hc hmem
        have kw := fun h => KW.out z hmem h
        have KM : Hid (∀ q, Calls Try.prog 15 #[.int .i64 t] (wr.drewN q) fun e w' => e = .returned (.int .i64 (markV t)) ∧ ∃ m, w' = (wr.drewN q).drewN m) := fun q => (imMark_at t (wr.drewN q)).mono fun e w' ⟨he, hw⟩ => ⟨he, 0, hw.symm⟩
        have KQ : Hid (∀ q, Calls Try.prog 33 #[.slice xf nf cf, .int .i64 z] (wr.drewN q) fun e w' => e = .returned (.int .i64 (timesN zs z)) ∧ ∃ m, w' = (wr.drewN q).drewN m) := fun q => (lkTimes_at (wr.drewN q) _ zs z (If.out.drewN q) (by rw [← Nf.out]; have := hl7'.out; omega)).mono fun e w' ⟨he, hw⟩ => ⟨he, 0, hw.symm⟩
        have tz := timesN_zero zs z
        obtain ⟨q1, hq1⟩ : ∃ q1, q1 = timesN zs z := ⟨_, rfl⟩
        rw [← hq1] at KQ tz
        obtain ⟨M, hM⟩ : ∃ M, M = markV t := ⟨_, rfl⟩
        rw [← hM] at KM kw
        have k0 : (0 : Int) ≤ (k : Int) := by omega
        have kn : (k : Int) < (nx : Int) := by omega
        clear hbl hz hq1 hM hmem hb
        by_cases hm : z ∈ zs
        · have n1 : q1 ≠ 0 := fun e => (tz.1 e) hm
          have n0 : ((q1 : Int) == 0) = false := by simp; omega
          have hd : decide ((q1 : Int) = 0) = false := by simp; omega
          have n2 : ¬ q1 = 0 := n1
          clear tz kw hm n1
          go_wp2
          go_quiet (first | (with_reducible refine Calls.quiet_of (KQ.out _)) | (with_reducible refine Calls.quiet_of (KM.out _)))
          go_wp2
          go_roundw
          case rel => exact ⟨k + 1, by omega, by go_num, below_drewN HL.out _⟩
          case measure => simp [intOf]; omega
        · obtain rfl : q1 = 0 := tz.2 hm
          obtain rfl := kw hm
          clear tz kw hm
          go_wp2
          go_quiet (first | (with_reducible refine Calls.quiet_of (KQ.out _)) | (with_reducible refine Calls.quiet_of (KM.out _)))
          go_wp2
          go_roundw
          case rel => exact ⟨k + 1, by omega, by go_num, below_drewN HL.out _⟩
          case measure => simp [intOf]; omega
      · have LB := Lib.hid HL.out
        have Ix := Lib.hid (Ix_4.out.below hbl (Nat.le_refl _))
        clear hbl
        obtain ⟨W5, hW5⟩ : ∃ W5, W5 = wr := ⟨_, rfl⟩
        subst hW5
        go_wp2
        go_loopw [10] (fun i wr => ∃ k : Nat, k ≤ nf ∧ i = .int .i64 k ∧ Below W5.heap.size W5 wr) (fun i _ => nf - (intOf i).toNat)
        case atStart => exact ⟨0, Nat.zero_le _, rfl, Below.refl _ _⟩
        case round =>
          obtain ⟨j, hj, rfl, hbl⟩ := hrel
          have H5 := Lib.hid hbl
          have Cx5 := cell_later hbl Cx
          have Cf5 := cell_later hbl Cf
          have Ix5 := Lib.hid (Ix.out.below hbl (Nat.le_refl _))
          have sz5 := HL.out.size
          by_cases hlf : j < nf
          · obtain ⟨bf, of, rfl, hbf, hcf⟩ := CF.out j hlf
            rw [← HL.out.cell (p := ⟨bf, of + j, none⟩) hbf] at hcf
            rw [← hbl.cell (p := ⟨bf, of + j, none⟩) (Nat.lt_of_lt_of_le hbf sz5)] at hcf
            have hmem : zs.getD j 0 ∈ zs := getD_mem _ _ _ (by rw [← Nf.out]; exact hlf)
            obtain ⟨z, hz⟩ : ∃ z, z = zs.getD j 0 := ⟨_, rfl⟩
            rw [← hz] at hcf hmem
            have kn := fun h => KN.out z hmem h
            have KQ : Hid (∀ q, Calls Try.prog 33 #[.slice xx nx cx, .int .i64 z] (wr.drewN q) fun e w' => e = .returned (.int .i64 (timesN (addF zs t) z)) ∧ ∃ m, w' = (wr.drewN q).drewN m) := fun q => (lkTimes_at (wr.drewN q) _ (addF zs t) z (Ix5.out.drewN q) (by have := addF_len zs t; omega)).mono fun e w' ⟨he, hw⟩ => ⟨he, 0, hw.symm⟩
            have tz := timesN_zero (addF zs t) z
            obtain ⟨q1, hq1⟩ : ∃ q1, q1 = timesN (addF zs t) z := ⟨_, rfl⟩
            rw [← hq1] at KQ tz
            rw [← Nx.out] at kn
            have k0 : (0 : Int) ≤ (j : Int) := by omega
            have kf : (j : Int) < (nf : Int) := by omega
            by_cases hm : z ∈ addF zs t
            · have n1 : q1 ≠ 0 := fun e => (tz.1 e) hm
              have n0 : ((q1 : Int) == 0) = false := by simp; omega
              have hd : decide ((q1 : Int) = 0) = false := by simp; omega
              have n2 : ¬ q1 = 0 := n1
              clear tz kn hm n1 hbl hz hq1 hmem hbf Cx Cf
              go_wp2
              go_quiet (with_reducible refine Calls.quiet_of (KQ.out _))
              go_wp2
              go_roundw
              case rel => exact ⟨j + 1, by omega, by go_num, below_drewN H5.out _⟩
              case measure => simp [intOf]; omega
            · obtain rfl : q1 = 0 := tz.2 hm
              obtain ⟨n6, hge⟩ := kn hm
              obtain ⟨bx, ox, ex, hbx, hcx⟩ := CX.out 5 (by omega)
              rw [← HL.out.cell (p := ⟨bx, ox + 5, none⟩) hbx] at hcx
              rw [← hbl.cell (p := ⟨bx, ox + 5, none⟩) (Nat.lt_of_lt_of_le hbx sz5)] at hcx
              obtain ⟨y5, hy5⟩ : ∃ y, y = (addF zs t).getD 5 0 := ⟨_, rfl⟩
              rw [← hy5] at hcx hge
              have hd : decide (z < y5) = false := decide_eq_false (by omega)
              have NX := Lib.hid Nx.out
              clear tz kn hm hbl hz hq1 hmem hbf hbx hy5 Cx Cf Nx CX KW CF
              subst ex n6
              go_wp2
              go_quiet (with_reducible refine Calls.quiet_of (KQ.out _))
              go_wp2
              go_roundw
              case rel => exact ⟨j + 1, by omega, by go_num, below_drewN H5.out _⟩
              case measure => simp [intOf]; omega
          · go_wp2
            go_ret
            exact ⟨rfl, B4.out.trans ((LB.out.trans (H5.out.mono LB.out.size)).mono B4.out.size)⟩

/-! ### THE ROW's STEP: WRITTEN OUT: LEAVE IT -/
set_option maxRecDepth 100000 in
theorem lifted (os : Os) (started : os.Started) (H : Type) (enc : TypeId × Value → H) :
    ReturnsInHanded {} Try.checked os 12 .any (Rows.fnFewKeptSpec.pre6 enc Try.prog Try.f12 Rows.fnFewKeptRow.domain false) (Rows.fnFewKeptSpec.post enc Try.prog Try.f12 false true false false) := by
  refine returnsInHanded_of_change (C := Try.checked) own started (by kernel_rfl) Try.func12
    (ChangeSpec.witness6 (enc := enc) (C := Try.checked) false ⟨#[], #[.slice none 0 0], []⟩ 8 (by kernel_rfl) (by kernel_rfl) (by kernel_rfl) (by kernel_rfl)) ?_
  intro W base args ds gs before hval0 hW hcnd _
  have hval : ∀ (j : Nat) t v, Try.f12.params[j]? = some t → args[j]? = some v → Value.okWide Try.prog W .any base t v := hval0
  have hW' := hW
  obtain ⟨p, q, hA0, hV, rfl, hfz, hnd⟩ := hW
  have hA : DataW.TrodAll enc Try.prog W 0 (fun _ => true) true Try.f12.params.toList args.toList ds p := hA0
  rw [Try.params12] at hA hval
  obtain ⟨v0, vs0, d0, ds0, p0, q0, hargs, rfl, rfl, h0, r0⟩ := trodAll_cons hA
  obtain ⟨rfl, rfl, rfl⟩ := trodAll_nil r0
  obtain rfl : args = #[v0] := by cases args; simp_all
  obtain ⟨rfl, rfl⟩ := trodVars_none hV
  obtain ⟨a0, len0, cap0, rfl⟩ := okWide_slice Try.underlying22 (hval 0 22 v0 rfl rfl)
  have k0 := h0
  have lt0 : ∀ x ∈ p0, x.block < W.heap.size := by obtain ⟨m, hm⟩ := k0; exact DataW.trod_lt m _ _ _ hm
  obtain ⟨z0, w0⟩ : ∃ zs, IsRow .u8 W a0 len0 cap0 zs := by
    obtain ⟨fuel, hf⟩ := h0
    rcases open_ints Try.underlying22 Try.underlying5 (by kernel_rfl) hf with ⟨hcs, _⟩ | ⟨x, l, c, zs, hcs, _, hl, hm, hz, _, hcell, hwz⟩
    · simp [Value.cells] at hcs
      obtain ⟨rfl, rfl, rfl⟩ := hcs
      exact ⟨[], .inl ⟨rfl, rfl, rfl, rfl⟩⟩
    · simp [Value.cells] at hcs
      obtain ⟨rfl, rfl, rfl⟩ := hcs
      exact ⟨zs, .inr ⟨_, rfl, hl, hm, by simpa using hz, hcell, hwz⟩⟩
  clear hA0 hval0
  refine (walk a0 len0 cap0 z0 W w0).mono fun e W' ⟨he, bel⟩ => ?_
  subst he
  exact ⟨_, rfl, _, _, _, [], _, [], hW', trodAll_mk1 (shut_bool Try.underlying4 _), (trodAll_cons_mk (Below.trod laidOut (by kernel_rfl) (of_decide_eq_true (by kernel_rfl)) k0 bel lt0) trodAll_mk0), rfl, bel.frame _, fun h => by cases h⟩

theorem over : Rows.fnFewKeptRow.holds Try.pinned (OpenSpec.ofChange Rows.fnFewKeptSpec) :=
  OpenClaim.holds_of_wide 12 Try.f12 rfl rfl rfl rfl rfl rfl rfl ⟨rfl, rfl, rfl, rfl, rfl⟩ rfl rfl rfl rfl rfl (by kernel_rfl) Try.func12 (by kernel_rfl)
    (of_decide_eq_true (by kernel_rfl)) (by unfold Func.isWrapper; first | (rw [if_pos (by decide +kernel)]; kernel_rfl) | (rw [if_neg (by decide +kernel)]; exact ⟨rfl, rfl⟩))
    (fun os started H enc _ => lifted os started H enc)

theorem proved : Rows.FnFewKeptSaid := over
#print axioms proved
end Go.Proofs.Yteopnbjiffncbac.fnFewKept
