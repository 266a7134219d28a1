/-
  The statement of the law FnRoughAddSwap: at every input the call returns true and leaves what it was given as it was. The frame is the kit's shell; the walk is ours.
-/
import Derived.Test.YteopnbjiffncbaaAddLaw
import Derived.Test.YteopnbjiffncbaaRows
import Derived.WalkKit
import Derived.ProofKit
import Derived.OpenShut
import Derived.ShutString
import Derived.ChangeOld
import Derived.Below
namespace Go.Proofs.Yteopnbjiffncbaa.fnRoughAddSwap
open Go.ChangeShapes Go.WideShapes Go.ChangeAt Go.RowKit
open Go.ChangeMaps (open_string shut_string)
set_option linter.unusedVariables false

theorem own : ownKnob Try.prog.godebug = none := by kernel_rfl
theorem laidOut : laidOutB Try.prog = true := by kernel_rfl

/-- WHAT THE WALK IS TOLD OF A SLICE OF INTEGERS THAT CAME IN: it is nil; or it leads to a row of 'cap' cells, the numbers 'zs' (the first 'len' are its elements, the rest its spare room), each fitting its kind. -/
def IsRow (k : IntKind) (w : World) (a : Option Addr) (len cap : Nat) (zs : List Int) : Prop :=
  (a = none ∧ len = 0 ∧ cap = 0 ∧ zs = []) ∨
  ∃ x, a = some x ∧ len ≤ cap ∧ cap ≤ maxLen ∧ zs.length = cap ∧ (∀ i, i < zs.length → w.cell? (x.add i) = some (.int k (zs.getD i 0))) ∧ ∀ n ∈ zs, (Lit.int k n).wf = true

/-! ### STEP 1: THE WALK: the Go text returns true, AND WRITES NOTHING THAT WAS THERE: 'Below w.heap.size w w'' (Derived/Below.lean: '.refl', '.alloc', '.drew', '.setCell' at a new block, '.trans'). Open each 'IsRow' by 'rcases' AHEAD of 'go_enter'; part every test ahead of the walk. -/
theorem walk (a0 : Option Addr) (len0 cap0 : Nat) (z0 : List Int) (a1 : Option Addr) (len1 cap1 : Nat) (z1 : List Int) (w : World) (w0 : IsRow .u8 w a0 len0 cap0 z0) (w1 : IsRow .u8 w a1 len1 cap1 z1) :
    Calls Try.prog 5 #[.slice a0 len0 cap0, .slice a1 len1 cap1] w fun e w' => e = .returned (.bool true) ∧ Below w.heap.size w w' := by
  obtain ⟨hb, hl⟩ := bts_of w a0 len0 cap0 z0 w0
  rcases hl with hl | hl
  · go_enter Try.func5, Try.ntmps5
    go_wp2
    go_ret
    exact ⟨rfl, Below.refl _ _⟩
  have HB0 := Lib.hid hb
  obtain ⟨hb', hl'⟩ := bts_of w a1 len1 cap1 z1 w1
  rcases hl' with hl' | hl'
  · go_enter Try.func5, Try.ntmps5
    go_wp2
    go_ret
    exact ⟨rfl, Below.refl _ _⟩
  have HB1 := Lib.hid hb'
  clear hb hb' w0 w1
  go_enter Try.func5, Try.ntmps5
  go_wp2_with fail
  refine (drawAdd_at w _ len0 ⟨_, _, rfl⟩ HB0.out).mono ?_
  rintro e w1' ⟨xf, nf, cf, rs, t, n, rfl, hf, t0, t1, n0, n1, hb⟩
  have B_a := Lib.hid hb
  have HB2 := Lib.hid (bts_below HB1.out hb)
  clear hb
  obtain ⟨W1, hW⟩ : ∃ W, W = (w1').alloc (.cells #[.slice xf nf cf] 29) := ⟨_, rfl⟩
  have hA : Below w1'.heap.size w1' W1 := by rw [hW]; exact ((Below.refl _ _).alloc (Nat.le_refl _) _)
  have Cf_1 : W1.cell? ⟨w1'.heap.size, 0, none⟩ = some (.slice xf nf cf) := by rw [hW]; simp [go_sem]
  have If_1 := Lib.hid (hf.below hA (Nat.le_refl _))
  have B1 := Lib.hid (B_a.out.trans (hA.mono B_a.out.size))
  clear hA B_a  hf
  have HB3 := Lib.hid (bts_below HB2.out (show Below w1'.heap.size w1' W1 by rw [hW]; exact (Below.refl _ _).alloc (Nat.le_refl _) _))
  go_wp2_with fail
  rw [← hW]
  clear hW 
  refine (drawAdd_at W1 _ len1 ⟨_, _, rfl⟩ HB3.out).mono ?_
  rintro e w2' ⟨xg, ng, cg, us, s, m, rfl, hg, s0, s1, m0, m1, hb⟩
  have Cf_a := cell_later hb Cf_1
  have If_a := Lib.hid (If_1.out.below hb (Nat.le_refl _))
  have B_a := Lib.hid (B1.out.trans (hb.mono B1.out.size))
  clear Cf_1 If_1 B1
  clear hb HB2 HB3
  have lf := World.block_lt_of_cell? _ _ Cf_a
  obtain ⟨W2, hW⟩ : ∃ W, W = (w2').alloc (.cells #[.slice xg ng cg] 29) := ⟨_, rfl⟩
  have hA : Below w2'.heap.size w2' W2 := by rw [hW]; exact ((Below.refl _ _).alloc (Nat.le_refl _) _)
  have Cf_2 := cell_later hA Cf_a
  have If_2 := Lib.hid (If_a.out.below hA (Nat.le_refl _))
  have Cg_2 : W2.cell? ⟨w2'.heap.size, 0, none⟩ = some (.slice xg ng cg) := by rw [hW]; simp [go_sem]
  have Ig_2 := Lib.hid (hg.below hA (Nat.le_refl _))
  have B2 := Lib.hid (B_a.out.trans (hA.mono B_a.out.size))
  clear hA B_a If_a hg
  go_wp2_with fail
  rw [← hW]
  clear hW Cf_a lf
  refine (spAdd_end W2 _ rs t n If_2.out).mono ?_
  intro e w3' he
  obtain ⟨xs, ns, cs, rfl, hb, hs⟩ := he.rws
  clear he
  have Cf_a := cell_later hb Cf_2
  have If_a := Lib.hid (If_2.out.below hb (Nat.le_refl _))
  have Cg_a := cell_later hb Cg_2
  have Ig_a := Lib.hid (Ig_2.out.below hb (Nat.le_refl _))
  have B_a := Lib.hid (B2.out.trans (hb.mono B2.out.size))
  clear Cf_2 If_2 Cg_2 Ig_2 B2
  clear hb
  have lf := World.block_lt_of_cell? _ _ Cf_a
  have lg := World.block_lt_of_cell? _ _ Cg_a
  obtain ⟨W3, hW⟩ : ∃ W, W = (w3').alloc (.cells #[.slice xs ns cs] 29) := ⟨_, rfl⟩
  have hA : Below w3'.heap.size w3' W3 := by rw [hW]; exact ((Below.refl _ _).alloc (Nat.le_refl _) _)
  have Cf_3 := cell_later hA Cf_a
  have If_3 := Lib.hid (If_a.out.below hA (Nat.le_refl _))
  have Cg_3 := cell_later hA Cg_a
  have Ig_3 := Lib.hid (Ig_a.out.below hA (Nat.le_refl _))
  have Cs_3 : W3.cell? ⟨w3'.heap.size, 0, none⟩ = some (.slice xs ns cs) := by rw [hW]; simp [go_sem]
  have Is_3 := Lib.hid (hs.below hA (Nat.le_refl _))
  have B3 := Lib.hid (B_a.out.trans (hA.mono B_a.out.size))
  clear hA B_a If_a Ig_a hs
  go_wp2_with fail
  rw [← hW]
  clear hW Cf_a lf Cg_a lg
  refine (imAdd_end W3 _ rs t n If_3.out).mono ?_
  intro e w4' he
  obtain ⟨xx, nx, cx, rfl, hb, hx⟩ := he.rws
  clear he
  have Cf_a := cell_later hb Cf_3
  have If_a := Lib.hid (If_3.out.below hb (Nat.le_refl _))
  have Cg_a := cell_later hb Cg_3
  have Ig_a := Lib.hid (Ig_3.out.below hb (Nat.le_refl _))
  have Cs_a := cell_later hb Cs_3
  have Is_a := Lib.hid (Is_3.out.below hb (Nat.le_refl _))
  have B_a := Lib.hid (B3.out.trans (hb.mono B3.out.size))
  clear Cf_3 If_3 Cg_3 Ig_3 Cs_3 Is_3 B3
  clear hb
  have lf := World.block_lt_of_cell? _ _ Cf_a
  have lg := World.block_lt_of_cell? _ _ Cg_a
  have ls := World.block_lt_of_cell? _ _ Cs_a
  obtain ⟨W4, hW⟩ : ∃ W, W = (w4').alloc (.cells #[.slice xx nx cx] 29) := ⟨_, rfl⟩
  have hA : Below w4'.heap.size w4' W4 := by rw [hW]; exact ((Below.refl _ _).alloc (Nat.le_refl _) _)
  have Cf_4 := cell_later hA Cf_a
  have If_4 := Lib.hid (If_a.out.below hA (Nat.le_refl _))
  have Cg_4 := cell_later hA Cg_a
  have Ig_4 := Lib.hid (Ig_a.out.below hA (Nat.le_refl _))
  have Cs_4 := cell_later hA Cs_a
  have Is_4 := Lib.hid (Is_a.out.below hA (Nat.le_refl _))
  have Cx_4 : W4.cell? ⟨w4'.heap.size, 0, none⟩ = some (.slice xx nx cx) := by rw [hW]; simp [go_sem]
  have Ix_4 := Lib.hid (hx.below hA (Nat.le_refl _))
  have B4 := Lib.hid (B_a.out.trans (hA.mono B_a.out.size))
  clear hA B_a If_a Ig_a Is_a hx
  have len : (resV (addB rs t n) (addV rs t n)).length ≤ maxLen ∧ ∀ i, i < (resV (addB rs t n) (addV rs t n)).length → ((resV (addB rs t n) (addV rs t n)).getD i []).length ≤ maxLen := by
    unfold resV
    by_cases hj : addB rs t n = true
    · rw [if_pos hj]
      refine ⟨show 3 ≤ maxLen by unfold maxLen; omega, fun i hi => ?_⟩
      have h8 := (fine_okB (okB_add hj).1 i hi).1.1
      rw [h8]
      unfold maxLen
      omega
    · rw [if_neg hj]
      exact ⟨Nat.zero_le _, fun i hi => absurd hi (Nat.not_lt_zero i)⟩
  have LEN := Lib.hid len
  clear len
  cases hj : addB rs t n with
  | false =>
    rw [hj] at Ix_4 Is_4 LEN
    clear hj
    go_wp2_with fail
    rw [← hW]
    clear hW Cf_a lf Cg_a lg Cs_a ls
    refine (lkRough_at W4 _ _ _ _ Ix_4.out Is_4.out LEN.out.1 LEN.out.2).mono ?_
    rintro e W5 ⟨rfl, hb⟩
    rw [decide_eq_true rfl]
    have Cf_5 := cell_later hb Cf_4
    have If_5 := Lib.hid (If_4.out.below hb (Nat.le_refl _))
    have Cg_5 := cell_later hb Cg_4
    have Ig_5 := Lib.hid (Ig_4.out.below hb (Nat.le_refl _))
    have Cs_5 := cell_later hb Cs_4
    have Is_5 := Lib.hid (Is_4.out.below hb (Nat.le_refl _))
    have Cx_5 := cell_later hb Cx_4
    have Ix_5 := Lib.hid (Ix_4.out.below hb (Nat.le_refl _))
    have B5 := Lib.hid (B4.out.trans (hb.mono B4.out.size))
    clear hb Cf_4 If_4 Cg_4 Ig_4 Cs_4 Is_4 Cx_4 Ix_4 B4
    go_wp2_with fail
    refine (lkRough_at W5 _ _ _ _ Ix_5.out Is_5.out LEN.out.1 LEN.out.2).mono ?_
    rintro e W6 ⟨rfl, hb⟩
    rw [decide_eq_true rfl]
    have Cf_6 := cell_later hb Cf_5
    have If_6 := Lib.hid (If_5.out.below hb (Nat.le_refl _))
    have Cg_6 := cell_later hb Cg_5
    have Ig_6 := Lib.hid (Ig_5.out.below hb (Nat.le_refl _))
    have Cs_6 := cell_later hb Cs_5
    have Is_6 := Lib.hid (Is_5.out.below hb (Nat.le_refl _))
    have Cx_6 := cell_later hb Cx_5
    have Ix_6 := Lib.hid (Ix_5.out.below hb (Nat.le_refl _))
    have B6 := Lib.hid (B5.out.trans (hb.mono B5.out.size))
    clear hb Cf_5 If_5 Cg_5 Ig_5 Cs_5 Is_5 Cx_5 Ix_5 B5
    go_wp2
    go_ret
    exact ⟨rfl, B6.out⟩
  | true =>
    rw [hj] at Ix_4 Is_4 LEN
    rw [show resV true (addV rs t n) = addV rs t n from rfl] at Ix_4 Is_4 LEN
    have HJ := Lib.hid hj
    have n00 : 0 ≤ n := ((addB_iff rs t n).1 hj).2.2.2.1
    clear hj
    go_wp2_with fail
    rw [← hW]
    clear hW Cf_a lf Cg_a lg Cs_a ls
    refine (lkRough_at W4 _ _ _ _ Ix_4.out Is_4.out LEN.out.1 LEN.out.2).mono ?_
    rintro e W5 ⟨rfl, hb⟩
    rw [decide_eq_true rfl]
    have Cf_5 := cell_later hb Cf_4
    have If_5 := Lib.hid (If_4.out.below hb (Nat.le_refl _))
    have Cg_5 := cell_later hb Cg_4
    have Ig_5 := Lib.hid (Ig_4.out.below hb (Nat.le_refl _))
    have Cs_5 := cell_later hb Cs_4
    have Is_5 := Lib.hid (Is_4.out.below hb (Nat.le_refl _))
    have Cx_5 := cell_later hb Cx_4
    have Ix_5 := Lib.hid (Ix_4.out.below hb (Nat.le_refl _))
    have B5 := Lib.hid (B4.out.trans (hb.mono B4.out.size))
    clear hb Cf_4 If_4 Cg_4 Ig_4 Cs_4 Is_4 Cx_4 Ix_4 B4
    have SW := Lib.hid (add_swapR (s := s) (m := m) HJ.out)
    go_wp2_with fail
    refine (imAdd_end W5 _ (addV rs t n) s m Ix_5.out).mono ?_
    intro e w6' he
    obtain ⟨xa, na, ca, rfl, hb, ha⟩ := he.rws
    clear he
    have Cf_a := cell_later hb Cf_5
    have If_a := Lib.hid (If_5.out.below hb (Nat.le_refl _))
    have Cg_a := cell_later hb Cg_5
    have Ig_a := Lib.hid (Ig_5.out.below hb (Nat.le_refl _))
    have Cs_a := cell_later hb Cs_5
    have Is_a := Lib.hid (Is_5.out.below hb (Nat.le_refl _))
    have Cx_a := cell_later hb Cx_5
    have Ix_a := Lib.hid (Ix_5.out.below hb (Nat.le_refl _))
    have B_a := Lib.hid (B5.out.trans (hb.mono B5.out.size))
    clear Cf_5 If_5 Cg_5 Ig_5 Cs_5 Is_5 Cx_5 Ix_5 B5
    clear hb
    have lf := World.block_lt_of_cell? _ _ Cf_a
    have lg := World.block_lt_of_cell? _ _ Cg_a
    have ls := World.block_lt_of_cell? _ _ Cs_a
    have lx := World.block_lt_of_cell? _ _ Cx_a
    obtain ⟨W6, hW⟩ : ∃ W, W = (w6').alloc (.cells #[.slice xa na ca] 29) := ⟨_, rfl⟩
    have hA : Below w6'.heap.size w6' W6 := by rw [hW]; exact ((Below.refl _ _).alloc (Nat.le_refl _) _)
    have Cf_6 := cell_later hA Cf_a
    have If_6 := Lib.hid (If_a.out.below hA (Nat.le_refl _))
    have Cg_6 := cell_later hA Cg_a
    have Ig_6 := Lib.hid (Ig_a.out.below hA (Nat.le_refl _))
    have Cs_6 := cell_later hA Cs_a
    have Is_6 := Lib.hid (Is_a.out.below hA (Nat.le_refl _))
    have Cx_6 := cell_later hA Cx_a
    have Ix_6 := Lib.hid (Ix_a.out.below hA (Nat.le_refl _))
    have Ca_6 : W6.cell? ⟨w6'.heap.size, 0, none⟩ = some (.slice xa na ca) := by rw [hW]; simp [go_sem]
    have Ia_6 := Lib.hid (ha.below hA (Nat.le_refl _))
    have B6 := Lib.hid (B_a.out.trans (hA.mono B_a.out.size))
    clear hA B_a If_a Ig_a Is_a Ix_a ha
    go_wp2_with fail
    rw [← hW]
    clear hW Cf_a lf Cg_a lg Cs_a ls Cx_a lx
    refine (imAdd_end W6 _ rs s m If_6.out).mono ?_
    intro e w7' he
    obtain ⟨xp, np, cp, rfl, hb, hp⟩ := he.rws
    clear he
    have Cf_a := cell_later hb Cf_6
    have If_a := Lib.hid (If_6.out.below hb (Nat.le_refl _))
    have Cg_a := cell_later hb Cg_6
    have Ig_a := Lib.hid (Ig_6.out.below hb (Nat.le_refl _))
    have Cs_a := cell_later hb Cs_6
    have Is_a := Lib.hid (Is_6.out.below hb (Nat.le_refl _))
    have Cx_a := cell_later hb Cx_6
    have Ix_a := Lib.hid (Ix_6.out.below hb (Nat.le_refl _))
    have Ca_a := cell_later hb Ca_6
    have Ia_a := Lib.hid (Ia_6.out.below hb (Nat.le_refl _))
    have B_a := Lib.hid (B6.out.trans (hb.mono B6.out.size))
    clear Cf_6 If_6 Cg_6 Ig_6 Cs_6 Is_6 Cx_6 Ix_6 Ca_6 Ia_6 B6
    clear hb
    have lf := World.block_lt_of_cell? _ _ Cf_a
    have lg := World.block_lt_of_cell? _ _ Cg_a
    have ls := World.block_lt_of_cell? _ _ Cs_a
    have lx := World.block_lt_of_cell? _ _ Cx_a
    have la := World.block_lt_of_cell? _ _ Ca_a
    obtain ⟨W7, hW⟩ : ∃ W, W = (w7').alloc (.cells #[.slice xp np cp] 29) := ⟨_, rfl⟩
    have hA : Below w7'.heap.size w7' W7 := by rw [hW]; exact ((Below.refl _ _).alloc (Nat.le_refl _) _)
    have Cf_7 := cell_later hA Cf_a
    have If_7 := Lib.hid (If_a.out.below hA (Nat.le_refl _))
    have Cg_7 := cell_later hA Cg_a
    have Ig_7 := Lib.hid (Ig_a.out.below hA (Nat.le_refl _))
    have Cs_7 := cell_later hA Cs_a
    have Is_7 := Lib.hid (Is_a.out.below hA (Nat.le_refl _))
    have Cx_7 := cell_later hA Cx_a
    have Ix_7 := Lib.hid (Ix_a.out.below hA (Nat.le_refl _))
    have Ca_7 := cell_later hA Ca_a
    have Ia_7 := Lib.hid (Ia_a.out.below hA (Nat.le_refl _))
    have Cp_7 : W7.cell? ⟨w7'.heap.size, 0, none⟩ = some (.slice xp np cp) := by rw [hW]; simp [go_sem]
    have Ip_7 := Lib.hid (hp.below hA (Nat.le_refl _))
    have B7 := Lib.hid (B_a.out.trans (hA.mono B_a.out.size))
    clear hA B_a If_a Ig_a Is_a Ix_a Ia_a hp
    go_wp2_with fail
    rw [← hW]
    clear hW Cf_a lf Cg_a lg Cs_a ls Cx_a lx Ca_a la
    refine (imAdd_end W7 _ (resV (addB rs s m) (addV rs s m)) t n Ip_7.out).mono ?_
    intro e w8' he
    obtain ⟨xc, nc, cc, rfl, hb, hc⟩ := he.rws
    clear he
    have Cf_a := cell_later hb Cf_7
    have If_a := Lib.hid (If_7.out.below hb (Nat.le_refl _))
    have Cg_a := cell_later hb Cg_7
    have Ig_a := Lib.hid (Ig_7.out.below hb (Nat.le_refl _))
    have Cs_a := cell_later hb Cs_7
    have Is_a := Lib.hid (Is_7.out.below hb (Nat.le_refl _))
    have Cx_a := cell_later hb Cx_7
    have Ix_a := Lib.hid (Ix_7.out.below hb (Nat.le_refl _))
    have Ca_a := cell_later hb Ca_7
    have Ia_a := Lib.hid (Ia_7.out.below hb (Nat.le_refl _))
    have Cp_a := cell_later hb Cp_7
    have Ip_a := Lib.hid (Ip_7.out.below hb (Nat.le_refl _))
    have B_a := Lib.hid (B7.out.trans (hb.mono B7.out.size))
    clear Cf_7 If_7 Cg_7 Ig_7 Cs_7 Is_7 Cx_7 Ix_7 Ca_7 Ia_7 Cp_7 Ip_7 B7
    clear hb
    have lf := World.block_lt_of_cell? _ _ Cf_a
    have lg := World.block_lt_of_cell? _ _ Cg_a
    have ls := World.block_lt_of_cell? _ _ Cs_a
    have lx := World.block_lt_of_cell? _ _ Cx_a
    have la := World.block_lt_of_cell? _ _ Ca_a
    have lp := World.block_lt_of_cell? _ _ Cp_a
    obtain ⟨W8, hW⟩ : ∃ W, W = (w8').alloc (.cells #[.slice xc nc cc] 29) := ⟨_, rfl⟩
    have hA : Below w8'.heap.size w8' W8 := by rw [hW]; exact ((Below.refl _ _).alloc (Nat.le_refl _) _)
    have Cf_8 := cell_later hA Cf_a
    have If_8 := Lib.hid (If_a.out.below hA (Nat.le_refl _))
    have Cg_8 := cell_later hA Cg_a
    have Ig_8 := Lib.hid (Ig_a.out.below hA (Nat.le_refl _))
    have Cs_8 := cell_later hA Cs_a
    have Is_8 := Lib.hid (Is_a.out.below hA (Nat.le_refl _))
    have Cx_8 := cell_later hA Cx_a
    have Ix_8 := Lib.hid (Ix_a.out.below hA (Nat.le_refl _))
    have Ca_8 := cell_later hA Ca_a
    have Ia_8 := Lib.hid (Ia_a.out.below hA (Nat.le_refl _))
    have Cp_8 := cell_later hA Cp_a
    have Ip_8 := Lib.hid (Ip_a.out.below hA (Nat.le_refl _))
    have Cc_8 : W8.cell? ⟨w8'.heap.size, 0, none⟩ = some (.slice xc nc cc) := by rw [hW]; simp [go_sem]
    have Ic_8 := Lib.hid (hc.below hA (Nat.le_refl _))
    have B8 := Lib.hid (B_a.out.trans (hA.mono B_a.out.size))
    clear hA B_a If_a Ig_a Is_a Ix_a Ia_a Ip_a hc
    have SQ := SW.out.1
    cases h2 : addB rs s m with
    | false =>
      rw [h2, Bool.false_and] at SQ
      rw [SQ]
      clear h2 SQ
      cases addB (resV false (addV rs s m)) t n with
      | false =>
        go_wp2
        go_ret
        exact ⟨by simp, by rw [← hW]; exact B8.out⟩
      | true =>
        go_wp2
        go_ret
        exact ⟨by simp, by rw [← hW]; exact B8.out⟩
    | true =>
      rw [h2, Bool.true_and] at SQ
      rw [h2, show resV true (addV rs s m) = addV rs s m from rfl] at Ic_8
      rw [show resV true (addV rs s m) = addV rs s m from rfl]
      cases h3 : addB (addV rs s m) t n with
      | false =>
        rw [h3] at SQ
        rw [SQ]
        clear h2 h3 SQ
        go_wp2
        go_ret
        exact ⟨by simp, by rw [← hW]; exact B8.out⟩
      | true =>
        rw [h3] at SQ Ic_8
        rw [show resV true (addV (addV rs s m) t n) = addV (addV rs s m) t n from rfl] at Ic_8
        rw [SQ, SW.out.2 SQ, show resV true (addV (addV rs s m) t n) = addV (addV rs s m) t n from rfl] at Ia_8
        rw [SQ]
        have l2 : ∀ i, i < 3 → ((addV (addV rs s m) t n).getD i []).length ≤ maxLen := fun i hi => by
          have h8 := (fine_okB (okB_add h3).1 i hi).1.1
          rw [h8]
          unfold maxLen
          omega
        have LEN2 := Lib.hid l2
        clear l2 h2 h3 SQ
        go_wp2_with fail
        rw [← hW]
        clear hW Cf_a lf Cg_a lg Cs_a ls Cx_a lx Ca_a la Cp_a lp
        refine (lkRough_at W8 _ _ _ _ Ia_8.out Ic_8.out (show 3 ≤ maxLen by unfold maxLen; omega) (fun i hi => LEN2.out i hi)).mono ?_
        rintro e W9 ⟨rfl, hb⟩
        rw [decide_eq_true rfl]
        have Cf_9 := cell_later hb Cf_8
        have If_9 := Lib.hid (If_8.out.below hb (Nat.le_refl _))
        have Cg_9 := cell_later hb Cg_8
        have Ig_9 := Lib.hid (Ig_8.out.below hb (Nat.le_refl _))
        have Cs_9 := cell_later hb Cs_8
        have Is_9 := Lib.hid (Is_8.out.below hb (Nat.le_refl _))
        have Cx_9 := cell_later hb Cx_8
        have Ix_9 := Lib.hid (Ix_8.out.below hb (Nat.le_refl _))
        have Ca_9 := cell_later hb Ca_8
        have Ia_9 := Lib.hid (Ia_8.out.below hb (Nat.le_refl _))
        have Cp_9 := cell_later hb Cp_8
        have Ip_9 := Lib.hid (Ip_8.out.below hb (Nat.le_refl _))
        have Cc_9 := cell_later hb Cc_8
        have Ic_9 := Lib.hid (Ic_8.out.below hb (Nat.le_refl _))
        have B9 := Lib.hid (B8.out.trans (hb.mono B8.out.size))
        clear hb Cf_8 If_8 Cg_8 Ig_8 Cs_8 Is_8 Cx_8 Ix_8 Ca_8 Ia_8 Cp_8 Ip_8 Cc_8 Ic_8 B8
        go_wp2
        go_ret
        exact ⟨by simp, B9.out⟩

/-! ### THE ROW's STEP: WRITTEN OUT: LEAVE IT -/
set_option maxRecDepth 100000 in
theorem lifted (os : Os) (started : os.Started) (H : Type) (enc : TypeId × Value → H) :
    ReturnsInHanded {} Try.checked os 5 .any (Rows.fnRoughAddSwapSpec.pre6 enc Try.prog Try.f5 Rows.fnRoughAddSwapRow.domain false) (Rows.fnRoughAddSwapSpec.post enc Try.prog Try.f5 false true false false) := by
  refine returnsInHanded_of_change (C := Try.checked) own started (by kernel_rfl) Try.func5
    (ChangeSpec.witness6 (enc := enc) (C := Try.checked) false ⟨#[], #[.slice none 0 0, .slice none 0 0], []⟩ 8 (by kernel_rfl) (by kernel_rfl) (by kernel_rfl) (by kernel_rfl)) ?_
  intro W base args ds gs before hval0 hW hcnd _
  have hval : ∀ (j : Nat) t v, Try.f5.params[j]? = some t → args[j]? = some v → Value.okWide Try.prog W .any base t v := hval0
  have hW' := hW
  obtain ⟨p, q, hA0, hV, rfl, hfz, hnd⟩ := hW
  have hA : DataW.TrodAll enc Try.prog W 0 (fun _ => true) true Try.f5.params.toList args.toList ds p := hA0
  rw [Try.params5] at hA hval
  obtain ⟨v0, vs0, d0, ds0, p0, q0, hargs, rfl, rfl, h0, r0⟩ := trodAll_cons hA
  obtain ⟨v1, vs1, d1, ds1, p1, q1, rfl, rfl, rfl, h1, r1⟩ := trodAll_cons r0
  obtain ⟨rfl, rfl, rfl⟩ := trodAll_nil r1
  obtain rfl : args = #[v0, v1] := by cases args; simp_all
  obtain ⟨rfl, rfl⟩ := trodVars_none hV
  obtain ⟨a0, len0, cap0, rfl⟩ := okWide_slice Try.underlying22 (hval 0 22 v0 rfl rfl)
  have k0 := h0
  have lt0 : ∀ x ∈ p0, x.block < W.heap.size := by obtain ⟨m, hm⟩ := k0; exact DataW.trod_lt m _ _ _ hm
  obtain ⟨z0, w0⟩ : ∃ zs, IsRow .u8 W a0 len0 cap0 zs := by
    obtain ⟨fuel, hf⟩ := h0
    rcases open_ints Try.underlying22 Try.underlying5 (by kernel_rfl) hf with ⟨hcs, _⟩ | ⟨x, l, c, zs, hcs, _, hl, hm, hz, _, hcell, hwz⟩
    · simp [Value.cells] at hcs
      obtain ⟨rfl, rfl, rfl⟩ := hcs
      exact ⟨[], .inl ⟨rfl, rfl, rfl, rfl⟩⟩
    · simp [Value.cells] at hcs
      obtain ⟨rfl, rfl, rfl⟩ := hcs
      exact ⟨zs, .inr ⟨_, rfl, hl, hm, by simpa using hz, hcell, hwz⟩⟩
  obtain ⟨a1, len1, cap1, rfl⟩ := okWide_slice Try.underlying22 (hval 1 22 v1 rfl rfl)
  have k1 := h1
  have lt1 : ∀ x ∈ p1, x.block < W.heap.size := by obtain ⟨m, hm⟩ := k1; exact DataW.trod_lt m _ _ _ hm
  obtain ⟨z1, w1⟩ : ∃ zs, IsRow .u8 W a1 len1 cap1 zs := by
    obtain ⟨fuel, hf⟩ := h1
    rcases open_ints Try.underlying22 Try.underlying5 (by kernel_rfl) hf with ⟨hcs, _⟩ | ⟨x, l, c, zs, hcs, _, hl, hm, hz, _, hcell, hwz⟩
    · simp [Value.cells] at hcs
      obtain ⟨rfl, rfl, rfl⟩ := hcs
      exact ⟨[], .inl ⟨rfl, rfl, rfl, rfl⟩⟩
    · simp [Value.cells] at hcs
      obtain ⟨rfl, rfl, rfl⟩ := hcs
      exact ⟨zs, .inr ⟨_, rfl, hl, hm, by simpa using hz, hcell, hwz⟩⟩
  clear hA0 hval0
  refine (walk a0 len0 cap0 z0 a1 len1 cap1 z1 W w0 w1).mono fun e W' ⟨he, bel⟩ => ?_
  subst he
  exact ⟨_, rfl, _, _, _, [], _, [], hW', trodAll_mk1 (shut_bool Try.underlying4 _), (trodAll_cons_mk (Below.trod laidOut (by kernel_rfl) (of_decide_eq_true (by kernel_rfl)) k0 bel lt0) (trodAll_cons_mk (Below.trod laidOut (by kernel_rfl) (of_decide_eq_true (by kernel_rfl)) k1 bel lt1) trodAll_mk0)), rfl, bel.frame _, fun h => by cases h⟩

theorem over : Rows.fnRoughAddSwapRow.holds Try.pinned (OpenSpec.ofChange Rows.fnRoughAddSwapSpec) :=
  OpenClaim.holds_of_wide 5 Try.f5 rfl rfl rfl rfl rfl rfl rfl ⟨rfl, rfl, rfl, rfl, rfl⟩ rfl rfl rfl rfl rfl (by kernel_rfl) Try.func5 (by kernel_rfl)
    (of_decide_eq_true (by kernel_rfl)) (by unfold Func.isWrapper; first | (rw [if_pos (by decide +kernel)]; kernel_rfl) | (rw [if_neg (by decide +kernel)]; exact ⟨rfl, rfl⟩))
    (fun os started H enc _ => lifted os started H enc)

theorem proved : Rows.FnRoughAddSwapSaid := over
#print axioms proved
end Go.Proofs.Yteopnbjiffncbaa.fnRoughAddSwap
