/-
  The statement of the law FnRoughAdd: at every input the call returns true and leaves what it was given as it was. The frame is the kit's shell; the walk is ours.
-/
import Derived.Test.YteopnbjiffncbaaAddLaw
import Derived.Test.YteopnbjiffncbaaRows
import Derived.WalkKit
import Derived.ProofKit
import Derived.OpenShut
import Derived.ShutString
import Derived.ChangeOld
import Derived.Below
namespace Go.Proofs.Yteopnbjiffncbaa.fnRoughAdd
open Go.ChangeShapes Go.WideShapes Go.ChangeAt Go.RowKit
open Go.ChangeMaps (open_string shut_string)
open Go.Sort (grow)
set_option linter.unusedVariables false

theorem own : ownKnob Try.prog.godebug = none := by kernel_rfl
theorem laidOut : laidOutB Try.prog = true := by kernel_rfl

/-- WHAT THE WALK IS TOLD OF A SLICE OF INTEGERS THAT CAME IN: it is nil; or it leads to a row of 'cap' cells, the numbers 'zs' (the first 'len' are its elements, the rest its spare room), each fitting its kind. -/
def IsRow (k : IntKind) (w : World) (a : Option Addr) (len cap : Nat) (zs : List Int) : Prop :=
  (a = none ∧ len = 0 ∧ cap = 0 ∧ zs = []) ∨
  ∃ x, a = some x ∧ len ≤ cap ∧ cap ≤ maxLen ∧ zs.length = cap ∧ (∀ i, i < zs.length → w.cell? (x.add i) = some (.int k (zs.getD i 0))) ∧ ∀ n ∈ zs, (Lit.int k n).wf = true

/-! ### STEP 1: THE WALK: the Go text returns true, AND WRITES NOTHING THAT WAS THERE: 'Below w.heap.size w w'' (Derived/Below.lean: '.refl', '.alloc', '.drew', '.setCell' at a new block, '.trans'). Open each 'IsRow' by 'rcases' AHEAD of 'go_enter'; part every test ahead of the walk. -/
theorem walk (a0 : Option Addr) (len0 cap0 : Nat) (z0 : List Int) (w : World) (w0 : IsRow .u8 w a0 len0 cap0 z0) :
    Calls Try.prog 4 #[.slice a0 len0 cap0] w fun e w' => e = .returned (.bool true) ∧ Below w.heap.size w w' := by
  obtain ⟨hb, hl⟩ := bts_of w a0 len0 cap0 z0 w0
  rcases hl with hl | hl
  · go_enter Try.func4, Try.ntmps4
    go_wp2
    go_ret
    exact ⟨rfl, Below.refl _ _⟩
  have HB0 := Lib.hid hb
  clear hb w0
  go_enter Try.func4, Try.ntmps4
  go_wp2_with fail
  refine (drawAdd_at w _ len0 ⟨_, _, rfl⟩ HB0.out).mono ?_
  rintro e w1' ⟨xf, nf, cf, rs, t, n, rfl, hf, t0, t1, n0, n1, hb⟩
  have B_a := Lib.hid hb
  clear hb
  obtain ⟨W1, hW⟩ : ∃ W, W = (w1').alloc (.cells #[.slice xf nf cf] 29) := ⟨_, rfl⟩
  have hA : Below w1'.heap.size w1' W1 := by rw [hW]; exact ((Below.refl _ _).alloc (Nat.le_refl _) _)
  have Cf_1 : W1.cell? ⟨w1'.heap.size, 0, none⟩ = some (.slice xf nf cf) := by rw [hW]; simp [go_sem]
  have If_1 := Lib.hid (hf.below hA (Nat.le_refl _))
  have B1 := Lib.hid (B_a.out.trans (hA.mono B_a.out.size))
  clear hA B_a  hf
  go_wp2_with fail
  rw [← hW]
  clear hW 
  refine (spAdd_end W1 _ rs t n If_1.out).mono ?_
  intro e w2' he
  obtain ⟨xs, ns, cs, rfl, hb, hs⟩ := he.rws
  clear he
  have Cf_a := cell_later hb Cf_1
  have If_a := Lib.hid (If_1.out.below hb (Nat.le_refl _))
  have B_a := Lib.hid (B1.out.trans (hb.mono B1.out.size))
  clear Cf_1 If_1 B1
  clear hb
  have lf := World.block_lt_of_cell? _ _ Cf_a
  obtain ⟨W2, hW⟩ : ∃ W, W = (w2').alloc (.cells #[.slice xs ns cs] 29) := ⟨_, rfl⟩
  have hA : Below w2'.heap.size w2' W2 := by rw [hW]; exact ((Below.refl _ _).alloc (Nat.le_refl _) _)
  have Cf_2 := cell_later hA Cf_a
  have If_2 := Lib.hid (If_a.out.below hA (Nat.le_refl _))
  have Cs_2 : W2.cell? ⟨w2'.heap.size, 0, none⟩ = some (.slice xs ns cs) := by rw [hW]; simp [go_sem]
  have Is_2 := Lib.hid (hs.below hA (Nat.le_refl _))
  have B2 := Lib.hid (B_a.out.trans (hA.mono B_a.out.size))
  clear hA B_a If_a hs
  go_wp2_with fail
  rw [← hW]
  clear hW Cf_a lf
  refine (imAdd_end W2 _ rs t n If_2.out).mono ?_
  intro e w3' he
  obtain ⟨xx, nx, cx, rfl, hb, hx⟩ := he.rws
  clear he
  have Cf_a := cell_later hb Cf_2
  have If_a := Lib.hid (If_2.out.below hb (Nat.le_refl _))
  have Cs_a := cell_later hb Cs_2
  have Is_a := Lib.hid (Is_2.out.below hb (Nat.le_refl _))
  have B_a := Lib.hid (B2.out.trans (hb.mono B2.out.size))
  clear Cf_2 If_2 Cs_2 Is_2 B2
  clear hb
  have lf := World.block_lt_of_cell? _ _ Cf_a
  have ls := World.block_lt_of_cell? _ _ Cs_a
  obtain ⟨W3, hW⟩ : ∃ W, W = (w3').alloc (.cells #[.slice xx nx cx] 29) := ⟨_, rfl⟩
  have hA : Below w3'.heap.size w3' W3 := by rw [hW]; exact ((Below.refl _ _).alloc (Nat.le_refl _) _)
  have Cf_3 := cell_later hA Cf_a
  have If_3 := Lib.hid (If_a.out.below hA (Nat.le_refl _))
  have Cs_3 := cell_later hA Cs_a
  have Is_3 := Lib.hid (Is_a.out.below hA (Nat.le_refl _))
  have Cx_3 : W3.cell? ⟨w3'.heap.size, 0, none⟩ = some (.slice xx nx cx) := by rw [hW]; simp [go_sem]
  have Ix_3 := Lib.hid (hx.below hA (Nat.le_refl _))
  have B3 := Lib.hid (B_a.out.trans (hA.mono B_a.out.size))
  clear hA B_a If_a Is_a hx
  have len : (resV (addB rs t n) (addV rs t n)).length ≤ maxLen ∧ ∀ i, i < (resV (addB rs t n) (addV rs t n)).length → ((resV (addB rs t n) (addV rs t n)).getD i []).length ≤ maxLen := by
    unfold resV
    by_cases hj : addB rs t n = true
    · rw [if_pos hj]
      refine ⟨show 3 ≤ maxLen by unfold maxLen; omega, fun i hi => ?_⟩
      have h8 := (fine_okB (okB_add hj).1 i hi).1.1
      rw [h8]
      unfold maxLen
      omega
    · rw [if_neg hj]
      exact ⟨Nat.zero_le _, fun i hi => absurd hi (Nat.not_lt_zero i)⟩
  have LEN := Lib.hid len
  clear len
  cases hj : addB rs t n with
  | false =>
    rw [hj] at Ix_3 Is_3 LEN
    clear hj
    go_wp2_with fail
    rw [← hW]
    clear hW Cf_a lf Cs_a ls
    refine (lkRough_at W3 _ _ _ _ Ix_3.out Is_3.out LEN.out.1 LEN.out.2).mono ?_
    rintro e W4 ⟨rfl, hb⟩
    rw [decide_eq_true rfl]
    have Cf_4 := cell_later hb Cf_3
    have If_4 := Lib.hid (If_3.out.below hb (Nat.le_refl _))
    have Cs_4 := cell_later hb Cs_3
    have Is_4 := Lib.hid (Is_3.out.below hb (Nat.le_refl _))
    have Cx_4 := cell_later hb Cx_3
    have Ix_4 := Lib.hid (Ix_3.out.below hb (Nat.le_refl _))
    have B4 := Lib.hid (B3.out.trans (hb.mono B3.out.size))
    clear hb Cf_3 If_3 Cs_3 Is_3 Cx_3 Ix_3 B3
    go_wp2_with fail
    refine (lkRough_at W4 _ _ _ _ Ix_4.out Is_4.out LEN.out.1 LEN.out.2).mono ?_
    rintro e W5 ⟨rfl, hb⟩
    rw [decide_eq_true rfl]
    have Cf_5 := cell_later hb Cf_4
    have If_5 := Lib.hid (If_4.out.below hb (Nat.le_refl _))
    have Cs_5 := cell_later hb Cs_4
    have Is_5 := Lib.hid (Is_4.out.below hb (Nat.le_refl _))
    have Cx_5 := cell_later hb Cx_4
    have Ix_5 := Lib.hid (Ix_4.out.below hb (Nat.le_refl _))
    have B5 := Lib.hid (B4.out.trans (hb.mono B4.out.size))
    clear hb Cf_4 If_4 Cs_4 Is_4 Cx_4 Ix_4 B4
    go_wp2
    go_ret
    exact ⟨rfl, B5.out⟩
  | true =>
    rw [hj] at Ix_3 Is_3 LEN
    rw [show resV true (addV rs t n) = addV rs t n from rfl] at Ix_3 Is_3 LEN
    have HJ := Lib.hid hj
    have n00 : 0 ≤ n := ((addB_iff rs t n).1 hj).2.2.2.1
    clear hj
    go_wp2_with fail
    rw [← hW]
    clear hW Cf_a lf Cs_a ls
    refine (lkRough_at W3 _ _ _ _ Ix_3.out Is_3.out LEN.out.1 LEN.out.2).mono ?_
    rintro e W4 ⟨rfl, hb⟩
    rw [decide_eq_true rfl]
    have Cf_4 := cell_later hb Cf_3
    have If_4 := Lib.hid (If_3.out.below hb (Nat.le_refl _))
    have Cs_4 := cell_later hb Cs_3
    have Is_4 := Lib.hid (Is_3.out.below hb (Nat.le_refl _))
    have Cx_4 := cell_later hb Cx_3
    have Ix_4 := Lib.hid (Ix_3.out.below hb (Nat.le_refl _))
    have B4 := Lib.hid (B3.out.trans (hb.mono B3.out.size))
    clear hb Cf_3 If_3 Cs_3 Is_3 Cx_3 Ix_3 B3
    have A := HJ.out
    have A' := (addB_iff rs t n).1 A
    have ok := A'.1
    have h0 := A'.2.1
    have h1 := A'.2.2.1
    have oka := (okB_add A).1
    have ala := (okB_add A).2
    have bda := allV_ok ok
    have math : ∀ i : Nat, i < 3 → ∀ q : Nat, q < 8 → ((addV rs t n).getD i []).getD q 0 = (rs.getD i []).getD q 0 + (if (q : Int) = place i t then n else 0) ∧ 0 ≤ (rs.getD i []).getD q 0 ∧ (rs.getD i []).getD q 0 ≤ 2000 := fun i hi q hq => by
      have F := ((okB_iff rs).1 ok).2 i hi
      refine ⟨?_, F.2.1 q hq⟩
      obtain ⟨P, hP, hP8, hPn⟩ := place_nat (i : Int) t
      have e : (addV rs t n).getD i [] = addRow rs t n i := by
        rcases (by omega : i = 0 ∨ i = 1 ∨ i = 2) with rfl | rfl | rfl <;> rfl
      rw [e]
      unfold addRow
      rw [set_get _ _ _ _ (by rw [F.1, hPn]; exact hP8), hPn, hP]
      by_cases hq' : q = P
      · subst hq'
        rw [if_pos rfl, if_pos rfl]
        unfold atV
        rw [hPn]
      · rw [if_neg hq', if_neg (by omega)]
        omega
    obtain ⟨bf, of, capf, huf, hcf, hbf, hrf⟩ := ok_form If_4.out ok
    obtain ⟨bx, ox, capx, hux, hcx, hbx, hrx⟩ := ok_form Ix_4.out oka
    obtain ⟨rfl, rfl, rfl⟩ : xf = some ⟨bf, of, none⟩ ∧ nf = 3 ∧ cf = capf := by simpa using huf
    obtain ⟨rfl, rfl, rfl⟩ : xx = some ⟨bx, ox, none⟩ ∧ nx = 3 ∧ cx = capx := by simpa using hux
    have RF := Lib.hid hrf
    have RX := Lib.hid hrx
    have MATH := Lib.hid math
    have OKA := Lib.hid oka
    have ALA := Lib.hid ala
    have BDA := Lib.hid bda
    clear A A' ok oka ala bda math huf hux hrf hrx
    go_wp2
    go_loopw [10] (fun i wr => ∃ j : Nat, j ≤ 3 ∧ i = .int .i64 j ∧ Below W4.heap.size W4 wr) (fun i _ => 3 - (intOf i).toNat)
    case atStart => exact ⟨0, Nat.zero_le _, rfl, Below.refl _ _⟩
    case round =>
      obtain ⟨j, hj, rfl, hbl⟩ := hrel
      have HL := Lib.hid hbl
      clear hbl
      by_cases hlt : j < 3
      · obtain ⟨bi, oi, ci, e1, l1, r1⟩ := RF.out j hlt
        obtain ⟨bk, ok', ck, e2, l2, r2⟩ := RX.out j hlt
        have E1 := Lib.hid e1
        have E2 := Lib.hid e2
        have R1 := Lib.hid r1
        have R2 := Lib.hid r2
        have M := Lib.hid (MATH.out j hlt)
        have j0 : (0 : Int) ≤ (j : Int) := by omega
        have j3 : (j : Int) < 3 := by omega
        clear e1 e2 r1 r2
        go_wp2
        go_loopw [11] (fun i wr => ∃ q : Nat, q ≤ 8 ∧ i = .int .i64 q ∧ Below W4.heap.size W4 wr) (fun i _ => 8 - (intOf i).toNat)
        case atStart => exact ⟨0, Nat.zero_le _, rfl, HL.out⟩
        case round =>
          clear HL
          obtain ⟨q, hq, rfl, hbl⟩ := hrel
          have HL := Lib.hid hbl
          clear hbl
          by_cases hlq : q < 8
          · obtain ⟨m1, m2, m3⟩ := M.out q hlq
            have q0 : (0 : Int) ≤ (q : Int) := by omega
            have q8 : (q : Int) < 8 := by omega
            have rb := cell_regrown (cell_later HL.out Cf_4)
            have rc := cell_regrown (cell_later HL.out Cx_4)
            have re := cell_regrown (cell_later HL.out E1.out)
            have rf := cell_regrown (cell_later HL.out E2.out)
            have rx := cell_regrown (cell_later HL.out (R1.out q hlq))
            have ry := cell_regrown (cell_later HL.out (R2.out q hlq))
            generalize ((addV rs t n).getD j []).getD q 0 = Y at *
            generalize (rs.getD j []).getD q 0 = Z at *
            have K1 := Lib.hid (roughPlace_yes (j : Int) t wr j0 j3 h0 h1)
            generalize place (j : Int) t = PL at *
            go_wp2_with fail
            refine K1.out.mono ?_
            rintro e w6 ⟨rfl, rfl⟩
            by_cases hqp : (q : Int) = PL
            · rw [if_pos hqp] at m1
              subst hqp
              have wz : IntKind.i64.wrap (Z + n) = Z + n := IntWalk.i64_in _ (by omega)
              go_wp2
              refine boxed_region (by kernel_rfl) (by kernel_rfl) ?_
              repeat (refine boxed_step (fun K hK => ?_); go_simp; first | (refine hK _ ?_; clear hK K) | (apply Exists.intro; refine ⟨fun _ => ?_, hK _ ?_⟩; (fail); clear hK K))
              refine boxed_nil ?_
              intro _ hw'
              obtain ⟨⟨dq, oq⟩, hw''⟩ := hw'
              subst hw''
              have hb_w7 := below_regrown wr dq oq
              obtain ⟨w7, hq_w7⟩ : ∃ x, x = grow (redrawn wr dq) oq := ⟨_, rfl⟩
              rw [← hq_w7] at hb_w7 ⊢
              clear hq_w7
              have HL7 := Lib.hid (HL.out.trans (hb_w7.mono HL.out.size))
              clear hb_w7 rb rc re rf rx ry
              go_wp2
              go_roundw
              case rel => exact ⟨q + 1, by omega, by go_num, HL7.out⟩
              case measure => simp [intOf]; omega
            · rw [if_neg hqp] at m1
              have hqB : ((q : Int) == PL) = false := by simpa using hqp
              obtain rfl : Y = Z := by omega
              clear m1
              have wz : IntKind.i64.wrap Y = Y := IntWalk.i64_in _ (by omega)
              go_wp2
              refine boxed_region (by kernel_rfl) (by kernel_rfl) ?_
              repeat (refine boxed_step (fun K hK => ?_); go_simp; first | (refine hK _ ?_; clear hK K) | (apply Exists.intro; refine ⟨fun _ => ?_, hK _ ?_⟩; (fail); clear hK K))
              refine boxed_nil ?_
              intro _ hw'
              obtain ⟨⟨dq, oq⟩, hw''⟩ := hw'
              subst hw''
              have hb_w7 := below_regrown wr dq oq
              obtain ⟨w7, hq_w7⟩ : ∃ x, x = grow (redrawn wr dq) oq := ⟨_, rfl⟩
              rw [← hq_w7] at hb_w7 ⊢
              clear hq_w7
              have HL7 := Lib.hid (HL.out.trans (hb_w7.mono HL.out.size))
              clear hb_w7 rb rc re rf rx ry
              go_wp2
              go_roundw
              case rel => exact ⟨q + 1, by omega, by go_num, HL7.out⟩
              case measure => simp [intOf]; omega
          · obtain rfl : q = 8 := by omega
            go_wp2
            go_roundw
            case rel => exact ⟨j + 1, by omega, by go_num, HL.out⟩
            case measure => simp [intOf]; omega
      · obtain rfl : j = 3 := by omega
        have cf5 := cell_later HL.out Cf_4
        have cx5 := cell_later HL.out Cx_4
        have Jf := Lib.hid (If_4.out.below HL.out (Nat.le_refl _))
        have Jx := Lib.hid (Ix_4.out.below HL.out (Nat.le_refl _))
        have rb := cell_regrown cf5
        have rc := cell_regrown cx5
        have KO : Hid (∀ (d : Nat) (os : Array Obj), Calls Try.prog 21 #[.agg #[.slice (some ⟨bx, ox, none⟩) 3 cx]] (Go.Sort.grow (redrawn wr d) os) fun e w'' => e = .returned (.bool true) ∧ ∃ p : Regrown, w'' = Go.Sort.grow (redrawn wr p.d) p.os) := fun d os => by
          have h := imOk_at _ _ (addV rs t n) (Jx.out.below (below_regrown wr d os) (Nat.le_refl _))
          rw [OKA.out] at h
          exact Calls.regrown_of h
        have SX : Hid (∀ (d : Nat) (os : Array Obj), Calls Try.prog 22 #[.agg #[.slice (some ⟨bx, ox, none⟩) 3 cx]] (Go.Sort.grow (redrawn wr d) os) fun e w'' => e = .returned (.int .i64 (allV rs + n)) ∧ ∃ p : Regrown, w'' = Go.Sort.grow (redrawn wr p.d) p.os) := fun d os => by
          have h := roughAll_at _ _ (addV rs t n) (Jx.out.below (below_regrown wr d os) (Nat.le_refl _))
          rw [ALA.out] at h
          exact Calls.regrown_of h
        have SA : Hid (∀ (d : Nat) (os : Array Obj), Calls Try.prog 22 #[.agg #[.slice (some ⟨bf, of, none⟩) 3 cf]] (Go.Sort.grow (redrawn wr d) os) fun e w'' => e = .returned (.int .i64 (allV rs)) ∧ ∃ p : Regrown, w'' = Go.Sort.grow (redrawn wr p.d) p.os) := fun d os => Calls.regrown_of (roughAll_at _ _ rs (Jf.out.below (below_regrown wr d os) (Nat.le_refl _)))
        obtain ⟨b0', b1'⟩ := BDA.out
        generalize allV rs = VA at *
        have wa : IntKind.i64.wrap (VA + n) = VA + n := IntWalk.i64_in _ (by omega)
        clear cf5 cx5
        go_wp2
        refine boxed_region (by kernel_rfl) (by kernel_rfl) ?_
        repeat (refine boxed_step (fun K hK => ?_); go_simp; first | (refine hK _ ?_; clear hK K) | (apply Exists.intro; refine ⟨fun _ => ?_, hK _ ?_⟩; (first | (with_reducible exact KO.out _ _) | (with_reducible exact SX.out _ _) | (with_reducible exact SA.out _ _)); clear hK K))
        refine boxed_nil ?_
        intro _ hw'
        obtain ⟨⟨dq, oq⟩, hw''⟩ := hw'
        subst hw''
        have hb_w9 := below_regrown wr dq oq
        obtain ⟨w9, hq_w9⟩ : ∃ x, x = grow (redrawn wr dq) oq := ⟨_, rfl⟩
        rw [← hq_w9] at hb_w9 ⊢
        clear hq_w9
        have B9 := Lib.hid (B4.out.trans ((HL.out.trans (hb_w9.mono HL.out.size)).mono B4.out.size))
        clear hb_w9
        go_wp2
        go_ret
        exact ⟨by simp, B9.out⟩

/-! ### THE ROW's STEP: WRITTEN OUT: LEAVE IT -/
set_option maxRecDepth 100000 in
theorem lifted (os : Os) (started : os.Started) (H : Type) (enc : TypeId × Value → H) :
    ReturnsInHanded {} Try.checked os 4 .any (Rows.fnRoughAddSpec.pre6 enc Try.prog Try.f4 Rows.fnRoughAddRow.domain false) (Rows.fnRoughAddSpec.post enc Try.prog Try.f4 false true false false) := by
  refine returnsInHanded_of_change (C := Try.checked) own started (by kernel_rfl) Try.func4
    (ChangeSpec.witness6 (enc := enc) (C := Try.checked) false ⟨#[], #[.slice none 0 0], []⟩ 8 (by kernel_rfl) (by kernel_rfl) (by kernel_rfl) (by kernel_rfl)) ?_
  intro W base args ds gs before hval0 hW hcnd _
  have hval : ∀ (j : Nat) t v, Try.f4.params[j]? = some t → args[j]? = some v → Value.okWide Try.prog W .any base t v := hval0
  have hW' := hW
  obtain ⟨p, q, hA0, hV, rfl, hfz, hnd⟩ := hW
  have hA : DataW.TrodAll enc Try.prog W 0 (fun _ => true) true Try.f4.params.toList args.toList ds p := hA0
  rw [Try.params4] at hA hval
  obtain ⟨v0, vs0, d0, ds0, p0, q0, hargs, rfl, rfl, h0, r0⟩ := trodAll_cons hA
  obtain ⟨rfl, rfl, rfl⟩ := trodAll_nil r0
  obtain rfl : args = #[v0] := by cases args; simp_all
  obtain ⟨rfl, rfl⟩ := trodVars_none hV
  obtain ⟨a0, len0, cap0, rfl⟩ := okWide_slice Try.underlying22 (hval 0 22 v0 rfl rfl)
  have k0 := h0
  have lt0 : ∀ x ∈ p0, x.block < W.heap.size := by obtain ⟨m, hm⟩ := k0; exact DataW.trod_lt m _ _ _ hm
  obtain ⟨z0, w0⟩ : ∃ zs, IsRow .u8 W a0 len0 cap0 zs := by
    obtain ⟨fuel, hf⟩ := h0
    rcases open_ints Try.underlying22 Try.underlying5 (by kernel_rfl) hf with ⟨hcs, _⟩ | ⟨x, l, c, zs, hcs, _, hl, hm, hz, _, hcell, hwz⟩
    · simp [Value.cells] at hcs
      obtain ⟨rfl, rfl, rfl⟩ := hcs
      exact ⟨[], .inl ⟨rfl, rfl, rfl, rfl⟩⟩
    · simp [Value.cells] at hcs
      obtain ⟨rfl, rfl, rfl⟩ := hcs
      exact ⟨zs, .inr ⟨_, rfl, hl, hm, by simpa using hz, hcell, hwz⟩⟩
  clear hA0 hval0
  refine (walk a0 len0 cap0 z0 W w0).mono fun e W' ⟨he, bel⟩ => ?_
  subst he
  exact ⟨_, rfl, _, _, _, [], _, [], hW', trodAll_mk1 (shut_bool Try.underlying4 _), (trodAll_cons_mk (Below.trod laidOut (by kernel_rfl) (of_decide_eq_true (by kernel_rfl)) k0 bel lt0) trodAll_mk0), rfl, bel.frame _, fun h => by cases h⟩

theorem over : Rows.fnRoughAddRow.holds Try.pinned (OpenSpec.ofChange Rows.fnRoughAddSpec) :=
  OpenClaim.holds_of_wide 4 Try.f4 rfl rfl rfl rfl rfl rfl rfl ⟨rfl, rfl, rfl, rfl, rfl⟩ rfl rfl rfl rfl rfl (by kernel_rfl) Try.func4 (by kernel_rfl)
    (of_decide_eq_true (by kernel_rfl)) (by unfold Func.isWrapper; first | (rw [if_pos (by decide +kernel)]; kernel_rfl) | (rw [if_neg (by decide +kernel)]; exact ⟨rfl, rfl⟩))
    (fun os started H enc _ => lifted os started H enc)

theorem proved : Rows.FnRoughAddSaid := over
#print axioms proved
end Go.Proofs.Yteopnbjiffncbaa.fnRoughAdd
