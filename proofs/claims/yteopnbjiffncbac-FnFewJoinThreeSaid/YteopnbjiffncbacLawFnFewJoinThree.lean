/-
  The statement of the law FnFewJoinThree: at every input the call returns true and leaves what it was given as it was. The frame is the kit's shell; the walk is ours.
-/
import Derived.Test.YteopnbjiffncbacFLaw
import Derived.Test.YteopnbjiffncbacRows
import Derived.WalkKit
import Derived.ProofKit
import Derived.OpenShut
import Derived.ShutString
import Derived.ChangeOld
import Derived.Below
namespace Go.Proofs.Yteopnbjiffncbac.fnFewJoinThree
open Go.ChangeShapes Go.WideShapes Go.ChangeAt Go.RowKit
open Go.ChangeMaps (open_string shut_string)
set_option linter.unusedVariables false

theorem own : ownKnob Try.prog.godebug = none := by kernel_rfl
theorem laidOut : laidOutB Try.prog = true := by kernel_rfl

/-- WHAT THE WALK IS TOLD OF A SLICE OF INTEGERS THAT CAME IN: it is nil; or it leads to a row of 'cap' cells, the numbers 'zs' (the first 'len' are its elements, the rest its spare room), each fitting its kind. -/
def IsRow (k : IntKind) (w : World) (a : Option Addr) (len cap : Nat) (zs : List Int) : Prop :=
  (a = none ∧ len = 0 ∧ cap = 0 ∧ zs = []) ∨
  ∃ x, a = some x ∧ len ≤ cap ∧ cap ≤ maxLen ∧ zs.length = cap ∧ (∀ i, i < zs.length → w.cell? (x.add i) = some (.int k (zs.getD i 0))) ∧ ∀ n ∈ zs, (Lit.int k n).wf = true

/-! ### STEP 1: THE WALK: the Go text returns true, AND WRITES NOTHING THAT WAS THERE: 'Below w.heap.size w w'' (Derived/Below.lean: '.refl', '.alloc', '.drew', '.setCell' at a new block, '.trans'). Open each 'IsRow' by 'rcases' AHEAD of 'go_enter'; part every test ahead of the walk. -/
theorem walk (a0 : Option Addr) (len0 cap0 : Nat) (z0 : List Int) (a1 : Option Addr) (len1 cap1 : Nat) (z1 : List Int) (w : World) (w0 : IsRow .u8 w a0 len0 cap0 z0) (w1 : IsRow .u8 w a1 len1 cap1 z1) :
    Calls Try.prog 8 #[.slice a0 len0 cap0, .slice a1 len1 cap1] w fun e w' => e = .returned (.bool true) ∧ Below w.heap.size w w' := by
  obtain ⟨hb, hl⟩ := bts_of w a0 len0 cap0 z0 w0
  rcases hl with hl | hl
  · go_enter Try.func8, Try.ntmps8
    go_wp2
    go_ret
    exact ⟨rfl, Below.refl _ _⟩
  have HB0 := Lib.hid hb
  obtain ⟨hb', hl'⟩ := bts_of w a1 len1 cap1 z1 w1
  rcases hl' with hl' | hl'
  · go_enter Try.func8, Try.ntmps8
    go_wp2
    go_ret
    exact ⟨rfl, Below.refl _ _⟩
  have HB1 := Lib.hid hb'
  clear hb hb' w0 w1
  go_enter Try.func8, Try.ntmps8
  go_wp2_with fail
  refine (drawFJoin_at w _ len0 ⟨_, _, rfl⟩ HB0.out).mono ?_
  rintro e w1' ⟨xa, ca, zs, xb, cb, ys, rfl, hz, hy, hla, hlb, hb⟩
  have ha := hz.rd
  have hb' := hy.rd
  obtain ⟨na, hn⟩ : ∃ n, n = zs.length := ⟨_, rfl⟩
  obtain ⟨nb, hm⟩ : ∃ n, n = ys.length := ⟨_, rfl⟩
  rw [← hn] at ha hla ⊢
  rw [← hm] at hb' hlb ⊢
  have Na := Lib.hid hn
  have Nb := Lib.hid hm
  have B_a := Lib.hid hb
  clear hb
  have hb := hb'
  clear hb'
  have HB2 := Lib.hid (bts_below HB1.out (show Below w.heap.size w w1' from B_a.out))
  clear hz hy hn hm
  obtain ⟨W1, hW⟩ : ∃ W, W = ((w1').alloc (.cells #[.slice xa na ca] 28)).alloc (.cells #[.slice xb nb cb] 28) := ⟨_, rfl⟩
  have hA : Below w1'.heap.size w1' W1 := by rw [hW]; exact (((Below.refl _ _).alloc (Nat.le_refl _) _).alloc (by simp) _)
  have Ca_1 : W1.cell? ⟨w1'.heap.size, 0, none⟩ = some (.slice xa na ca) := by rw [hW]; simp [go_sem]
  have Ia_1 := Lib.hid (ha.below hA (Nat.le_refl _))
  have Cb_1 : W1.cell? ⟨w1'.heap.size + 1, 0, none⟩ = some (.slice xb nb cb) := by rw [hW]; simp [go_sem]
  have Ib_1 := Lib.hid (hb.below hA (Nat.le_refl _))
  have B1 := Lib.hid (B_a.out.trans (hA.mono B_a.out.size))
  clear hA B_a  ha hb
  have HB3 := Lib.hid (bts_below HB2.out (show Below w1'.heap.size w1' W1 by rw [hW]; exact ((Below.refl _ _).alloc (Nat.le_refl _) _).alloc (by simp) _))
  go_wp2_with fail
  rw [← hW]
  clear hW 
  refine (drawFJoin_at W1 _ len1 ⟨_, _, rfl⟩ HB3.out).mono ?_
  rintro e w2' ⟨xc, cc, us, xd, cd, vs, rfl, hz, hy, hlc, _, hb⟩
  have hc := hz.rd
  have hd := hy.rd
  obtain ⟨nc, hn⟩ : ∃ n, n = us.length := ⟨_, rfl⟩
  obtain ⟨nd, hm⟩ : ∃ n, n = vs.length := ⟨_, rfl⟩
  rw [← hn] at hc hlc ⊢
  rw [← hm] at hd ⊢
  have Nc := Lib.hid hn
  have Ca_a := cell_later hb Ca_1
  have Ia_a := Lib.hid (Ia_1.out.below hb (Nat.le_refl _))
  have Cb_a := cell_later hb Cb_1
  have Ib_a := Lib.hid (Ib_1.out.below hb (Nat.le_refl _))
  have B_a := Lib.hid (B1.out.trans (hb.mono B1.out.size))
  clear Ca_1 Ia_1 Cb_1 Ib_1 B1
  clear hz hy hb hn hm HB2 HB3
  have la := World.block_lt_of_cell? _ _ Ca_a
  have lb := World.block_lt_of_cell? _ _ Cb_a
  obtain ⟨W2, hW⟩ : ∃ W, W = ((w2').alloc (.cells #[.slice xc nc cc] 28)).alloc (.cells #[.slice xd nd cd] 28) := ⟨_, rfl⟩
  have hA : Below w2'.heap.size w2' W2 := by rw [hW]; exact (((Below.refl _ _).alloc (Nat.le_refl _) _).alloc (by simp) _)
  have Ca_2 := cell_later hA Ca_a
  have Ia_2 := Lib.hid (Ia_a.out.below hA (Nat.le_refl _))
  have Cb_2 := cell_later hA Cb_a
  have Ib_2 := Lib.hid (Ib_a.out.below hA (Nat.le_refl _))
  have Cc_2 : W2.cell? ⟨w2'.heap.size, 0, none⟩ = some (.slice xc nc cc) := by rw [hW]; simp [go_sem]
  have Ic_2 := Lib.hid (hc.below hA (Nat.le_refl _))
  have Cd_2 : W2.cell? ⟨w2'.heap.size + 1, 0, none⟩ = some (.slice xd nd cd) := by rw [hW]; simp [go_sem]
  have Id_2 := Lib.hid (hd.below hA (Nat.le_refl _))
  have B2 := Lib.hid (B_a.out.trans (hA.mono B_a.out.size))
  clear hA B_a Ia_a Ib_a hc hd
  go_wp2_with fail
  rw [← hW]
  clear hW Ca_a la Cb_a lb
  refine (spFewJoin_at W2 _ _ zs ys Ia_2.out Ib_2.out).mono ?_
  rintro e w3' ⟨v, rfl, ho, hb⟩
  obtain ⟨xs, cs, rfl⟩ := ho.form
  obtain ⟨ns, hn⟩ : ∃ n, n = (joinF zs ys).length := ⟨_, rfl⟩
  have hs := ho.rd
  rw [← hn] at hs ⊢
  have Ns := Lib.hid hn
  have Ca_a := cell_later hb Ca_2
  have Ia_a := Lib.hid (Ia_2.out.below hb (Nat.le_refl _))
  have Cb_a := cell_later hb Cb_2
  have Ib_a := Lib.hid (Ib_2.out.below hb (Nat.le_refl _))
  have Cc_a := cell_later hb Cc_2
  have Ic_a := Lib.hid (Ic_2.out.below hb (Nat.le_refl _))
  have Cd_a := cell_later hb Cd_2
  have Id_a := Lib.hid (Id_2.out.below hb (Nat.le_refl _))
  have B_a := Lib.hid (B2.out.trans (hb.mono B2.out.size))
  clear Ca_2 Ia_2 Cb_2 Ib_2 Cc_2 Ic_2 Cd_2 Id_2 B2
  clear ho hb hn
  have la := World.block_lt_of_cell? _ _ Ca_a
  have lb := World.block_lt_of_cell? _ _ Cb_a
  have lc := World.block_lt_of_cell? _ _ Cc_a
  have ld := World.block_lt_of_cell? _ _ Cd_a
  obtain ⟨W3, hW⟩ : ∃ W, W = (w3').alloc (.cells #[.slice xs ns cs] 28) := ⟨_, rfl⟩
  have hA : Below w3'.heap.size w3' W3 := by rw [hW]; exact ((Below.refl _ _).alloc (Nat.le_refl _) _)
  have Ca_3 := cell_later hA Ca_a
  have Ia_3 := Lib.hid (Ia_a.out.below hA (Nat.le_refl _))
  have Cb_3 := cell_later hA Cb_a
  have Ib_3 := Lib.hid (Ib_a.out.below hA (Nat.le_refl _))
  have Cc_3 := cell_later hA Cc_a
  have Ic_3 := Lib.hid (Ic_a.out.below hA (Nat.le_refl _))
  have Cd_3 := cell_later hA Cd_a
  have Id_3 := Lib.hid (Id_a.out.below hA (Nat.le_refl _))
  have Cs_3 : W3.cell? ⟨w3'.heap.size, 0, none⟩ = some (.slice xs ns cs) := by rw [hW]; simp [go_sem]
  have Is_3 := Lib.hid (hs.below hA (Nat.le_refl _))
  have B3 := Lib.hid (B_a.out.trans (hA.mono B_a.out.size))
  clear hA B_a Ia_a Ib_a Ic_a Id_a hs
  go_wp2_with fail
  rw [← hW]
  clear hW Ca_a la Cb_a lb Cc_a lc Cd_a ld
  refine (imFewJoin_at W3 _ _ zs ys Ia_3.out Ib_3.out).mono ?_
  rintro e w4' ⟨v, rfl, ho, hb⟩
  obtain ⟨xx, cx, rfl⟩ := ho.form
  obtain ⟨nx, hn⟩ : ∃ n, n = (joinF zs ys).length := ⟨_, rfl⟩
  have hx := ho.rd
  rw [← hn] at hx ⊢
  have Nx := Lib.hid hn
  have Ca_a := cell_later hb Ca_3
  have Ia_a := Lib.hid (Ia_3.out.below hb (Nat.le_refl _))
  have Cb_a := cell_later hb Cb_3
  have Ib_a := Lib.hid (Ib_3.out.below hb (Nat.le_refl _))
  have Cc_a := cell_later hb Cc_3
  have Ic_a := Lib.hid (Ic_3.out.below hb (Nat.le_refl _))
  have Cd_a := cell_later hb Cd_3
  have Id_a := Lib.hid (Id_3.out.below hb (Nat.le_refl _))
  have Cs_a := cell_later hb Cs_3
  have Is_a := Lib.hid (Is_3.out.below hb (Nat.le_refl _))
  have B_a := Lib.hid (B3.out.trans (hb.mono B3.out.size))
  clear Ca_3 Ia_3 Cb_3 Ib_3 Cc_3 Ic_3 Cd_3 Id_3 Cs_3 Is_3 B3
  clear ho hb hn
  have la := World.block_lt_of_cell? _ _ Ca_a
  have lb := World.block_lt_of_cell? _ _ Cb_a
  have lc := World.block_lt_of_cell? _ _ Cc_a
  have ld := World.block_lt_of_cell? _ _ Cd_a
  have ls := World.block_lt_of_cell? _ _ Cs_a
  obtain ⟨W4, hW⟩ : ∃ W, W = (w4').alloc (.cells #[.slice xx nx cx] 28) := ⟨_, rfl⟩
  have hA : Below w4'.heap.size w4' W4 := by rw [hW]; exact ((Below.refl _ _).alloc (Nat.le_refl _) _)
  have Ca_4 := cell_later hA Ca_a
  have Ia_4 := Lib.hid (Ia_a.out.below hA (Nat.le_refl _))
  have Cb_4 := cell_later hA Cb_a
  have Ib_4 := Lib.hid (Ib_a.out.below hA (Nat.le_refl _))
  have Cc_4 := cell_later hA Cc_a
  have Ic_4 := Lib.hid (Ic_a.out.below hA (Nat.le_refl _))
  have Cd_4 := cell_later hA Cd_a
  have Id_4 := Lib.hid (Id_a.out.below hA (Nat.le_refl _))
  have Cs_4 := cell_later hA Cs_a
  have Is_4 := Lib.hid (Is_a.out.below hA (Nat.le_refl _))
  have Cx_4 : W4.cell? ⟨w4'.heap.size, 0, none⟩ = some (.slice xx nx cx) := by rw [hW]; simp [go_sem]
  have Ix_4 := Lib.hid (hx.below hA (Nat.le_refl _))
  have B4 := Lib.hid (B_a.out.trans (hA.mono B_a.out.size))
  clear hA B_a Ia_a Ib_a Ic_a Id_a Is_a hx
  cases hok : joinOkF zs ys with
  | false =>
    clear hok
    go_wp2_with fail
    rw [← hW]
    clear hW Ca_a la Cb_a lb Cc_a lc Cd_a ld Cs_a ls
    refine (lkIntsB_at W4 _ _ (joinF zs ys) (joinF zs ys) Ix_4.out Is_4.out (by have := joinF_len zs ys; omega)).mono ?_
    rintro e W5 ⟨rfl, hb⟩
    rw [decide_eq_true rfl]
    have Ca_5 := cell_later hb Ca_4
    have Ia_5 := Lib.hid (Ia_4.out.below hb (Nat.le_refl _))
    have Cb_5 := cell_later hb Cb_4
    have Ib_5 := Lib.hid (Ib_4.out.below hb (Nat.le_refl _))
    have Cc_5 := cell_later hb Cc_4
    have Ic_5 := Lib.hid (Ic_4.out.below hb (Nat.le_refl _))
    have Cd_5 := cell_later hb Cd_4
    have Id_5 := Lib.hid (Id_4.out.below hb (Nat.le_refl _))
    have Cs_5 := cell_later hb Cs_4
    have Is_5 := Lib.hid (Is_4.out.below hb (Nat.le_refl _))
    have Cx_5 := cell_later hb Cx_4
    have Ix_5 := Lib.hid (Ix_4.out.below hb (Nat.le_refl _))
    have B5 := Lib.hid (B4.out.trans (hb.mono B4.out.size))
    clear hb Ca_4 Ia_4 Cb_4 Ib_4 Cc_4 Ic_4 Cd_4 Id_4 Cs_4 Is_4 Cx_4 Ix_4 B4
    go_wp2_with fail
    refine (lkIntsB_at W5 _ _ (joinF zs ys) (joinF zs ys) Ix_5.out Is_5.out (by have := joinF_len zs ys; omega)).mono ?_
    rintro e W6 ⟨rfl, hb⟩
    rw [decide_eq_true rfl]
    have Ca_6 := cell_later hb Ca_5
    have Ia_6 := Lib.hid (Ia_5.out.below hb (Nat.le_refl _))
    have Cb_6 := cell_later hb Cb_5
    have Ib_6 := Lib.hid (Ib_5.out.below hb (Nat.le_refl _))
    have Cc_6 := cell_later hb Cc_5
    have Ic_6 := Lib.hid (Ic_5.out.below hb (Nat.le_refl _))
    have Cd_6 := cell_later hb Cd_5
    have Id_6 := Lib.hid (Id_5.out.below hb (Nat.le_refl _))
    have Cs_6 := cell_later hb Cs_5
    have Is_6 := Lib.hid (Is_5.out.below hb (Nat.le_refl _))
    have Cx_6 := cell_later hb Cx_5
    have Ix_6 := Lib.hid (Ix_5.out.below hb (Nat.le_refl _))
    have B6 := Lib.hid (B5.out.trans (hb.mono B5.out.size))
    clear hb Ca_5 Ia_5 Cb_5 Ib_5 Cc_5 Ic_5 Cd_5 Id_5 Cs_5 Is_5 Cx_5 Ix_5 B5
    go_wp2
    go_ret
    exact ⟨rfl, B6.out⟩
  | true =>
    have sw := join_three (xs := us) hok
    obtain ⟨sw1, sw2⟩ := sw
    have SW1 := Lib.hid sw1
    have SW2 := Lib.hid sw2
    clear hok sw1 sw2
    go_wp2_with fail
    rw [← hW]
    clear hW Ca_a la Cb_a lb Cc_a lc Cd_a ld Cs_a ls
    refine (lkIntsB_at W4 _ _ (joinF zs ys) (joinF zs ys) Ix_4.out Is_4.out (by have := joinF_len zs ys; omega)).mono ?_
    rintro e W5 ⟨rfl, hb⟩
    rw [decide_eq_true rfl]
    have Ca_5 := cell_later hb Ca_4
    have Ia_5 := Lib.hid (Ia_4.out.below hb (Nat.le_refl _))
    have Cb_5 := cell_later hb Cb_4
    have Ib_5 := Lib.hid (Ib_4.out.below hb (Nat.le_refl _))
    have Cc_5 := cell_later hb Cc_4
    have Ic_5 := Lib.hid (Ic_4.out.below hb (Nat.le_refl _))
    have Cd_5 := cell_later hb Cd_4
    have Id_5 := Lib.hid (Id_4.out.below hb (Nat.le_refl _))
    have Cs_5 := cell_later hb Cs_4
    have Is_5 := Lib.hid (Is_4.out.below hb (Nat.le_refl _))
    have Cx_5 := cell_later hb Cx_4
    have Ix_5 := Lib.hid (Ix_4.out.below hb (Nat.le_refl _))
    have B5 := Lib.hid (B4.out.trans (hb.mono B4.out.size))
    clear hb Ca_4 Ia_4 Cb_4 Ib_4 Cc_4 Ic_4 Cd_4 Id_4 Cs_4 Is_4 Cx_4 Ix_4 B4
    go_wp2_with fail
    refine (imFewJoin_at W5 _ _ (joinF zs ys) us Ix_5.out Ic_5.out).mono ?_
    rintro e w6' ⟨v, rfl, ho, hb⟩
    obtain ⟨xy, cy, rfl⟩ := ho.form
    obtain ⟨ny, hn⟩ : ∃ n, n = (joinF (joinF zs ys) us).length := ⟨_, rfl⟩
    have hy := ho.rd
    rw [← hn] at hy ⊢
    have Ny := Lib.hid hn
    have Ca_a := cell_later hb Ca_5
    have Ia_a := Lib.hid (Ia_5.out.below hb (Nat.le_refl _))
    have Cb_a := cell_later hb Cb_5
    have Ib_a := Lib.hid (Ib_5.out.below hb (Nat.le_refl _))
    have Cc_a := cell_later hb Cc_5
    have Ic_a := Lib.hid (Ic_5.out.below hb (Nat.le_refl _))
    have Cd_a := cell_later hb Cd_5
    have Id_a := Lib.hid (Id_5.out.below hb (Nat.le_refl _))
    have Cs_a := cell_later hb Cs_5
    have Is_a := Lib.hid (Is_5.out.below hb (Nat.le_refl _))
    have Cx_a := cell_later hb Cx_5
    have Ix_a := Lib.hid (Ix_5.out.below hb (Nat.le_refl _))
    have B_a := Lib.hid (B5.out.trans (hb.mono B5.out.size))
    clear Ca_5 Ia_5 Cb_5 Ib_5 Cc_5 Ic_5 Cd_5 Id_5 Cs_5 Is_5 Cx_5 Ix_5 B5
    clear ho hb hn
    have la := World.block_lt_of_cell? _ _ Ca_a
    have lb := World.block_lt_of_cell? _ _ Cb_a
    have lc := World.block_lt_of_cell? _ _ Cc_a
    have ld := World.block_lt_of_cell? _ _ Cd_a
    have ls := World.block_lt_of_cell? _ _ Cs_a
    have lx := World.block_lt_of_cell? _ _ Cx_a
    obtain ⟨W6, hW⟩ : ∃ W, W = (w6').alloc (.cells #[.slice xy ny cy] 28) := ⟨_, rfl⟩
    have hA : Below w6'.heap.size w6' W6 := by rw [hW]; exact ((Below.refl _ _).alloc (Nat.le_refl _) _)
    have Ca_6 := cell_later hA Ca_a
    have Ia_6 := Lib.hid (Ia_a.out.below hA (Nat.le_refl _))
    have Cb_6 := cell_later hA Cb_a
    have Ib_6 := Lib.hid (Ib_a.out.below hA (Nat.le_refl _))
    have Cc_6 := cell_later hA Cc_a
    have Ic_6 := Lib.hid (Ic_a.out.below hA (Nat.le_refl _))
    have Cd_6 := cell_later hA Cd_a
    have Id_6 := Lib.hid (Id_a.out.below hA (Nat.le_refl _))
    have Cs_6 := cell_later hA Cs_a
    have Is_6 := Lib.hid (Is_a.out.below hA (Nat.le_refl _))
    have Cx_6 := cell_later hA Cx_a
    have Ix_6 := Lib.hid (Ix_a.out.below hA (Nat.le_refl _))
    have Cy_6 : W6.cell? ⟨w6'.heap.size, 0, none⟩ = some (.slice xy ny cy) := by rw [hW]; simp [go_sem]
    have Iy_6 := Lib.hid (hy.below hA (Nat.le_refl _))
    have B6 := Lib.hid (B_a.out.trans (hA.mono B_a.out.size))
    clear hA B_a Ia_a Ib_a Ic_a Id_a Is_a Ix_a hy
    go_wp2_with fail
    rw [← hW]
    clear hW Ca_a la Cb_a lb Cc_a lc Cd_a ld Cs_a ls Cx_a lx
    refine (imFewJoin_at W6 _ _ ys us Ib_6.out Ic_6.out).mono ?_
    rintro e w7' ⟨v, rfl, ho, hb⟩
    obtain ⟨xz, cz, rfl⟩ := ho.form
    obtain ⟨nz, hn⟩ : ∃ n, n = (joinF ys us).length := ⟨_, rfl⟩
    have hz := ho.rd
    rw [← hn] at hz ⊢
    have Nz := Lib.hid hn
    have Ca_a := cell_later hb Ca_6
    have Ia_a := Lib.hid (Ia_6.out.below hb (Nat.le_refl _))
    have Cb_a := cell_later hb Cb_6
    have Ib_a := Lib.hid (Ib_6.out.below hb (Nat.le_refl _))
    have Cc_a := cell_later hb Cc_6
    have Ic_a := Lib.hid (Ic_6.out.below hb (Nat.le_refl _))
    have Cd_a := cell_later hb Cd_6
    have Id_a := Lib.hid (Id_6.out.below hb (Nat.le_refl _))
    have Cs_a := cell_later hb Cs_6
    have Is_a := Lib.hid (Is_6.out.below hb (Nat.le_refl _))
    have Cx_a := cell_later hb Cx_6
    have Ix_a := Lib.hid (Ix_6.out.below hb (Nat.le_refl _))
    have Cy_a := cell_later hb Cy_6
    have Iy_a := Lib.hid (Iy_6.out.below hb (Nat.le_refl _))
    have B_a := Lib.hid (B6.out.trans (hb.mono B6.out.size))
    clear Ca_6 Ia_6 Cb_6 Ib_6 Cc_6 Ic_6 Cd_6 Id_6 Cs_6 Is_6 Cx_6 Ix_6 Cy_6 Iy_6 B6
    clear ho hb hn
    have la := World.block_lt_of_cell? _ _ Ca_a
    have lb := World.block_lt_of_cell? _ _ Cb_a
    have lc := World.block_lt_of_cell? _ _ Cc_a
    have ld := World.block_lt_of_cell? _ _ Cd_a
    have ls := World.block_lt_of_cell? _ _ Cs_a
    have lx := World.block_lt_of_cell? _ _ Cx_a
    have ly := World.block_lt_of_cell? _ _ Cy_a
    obtain ⟨W7, hW⟩ : ∃ W, W = (w7').alloc (.cells #[.slice xz nz cz] 28) := ⟨_, rfl⟩
    have hA : Below w7'.heap.size w7' W7 := by rw [hW]; exact ((Below.refl _ _).alloc (Nat.le_refl _) _)
    have Ca_7 := cell_later hA Ca_a
    have Ia_7 := Lib.hid (Ia_a.out.below hA (Nat.le_refl _))
    have Cb_7 := cell_later hA Cb_a
    have Ib_7 := Lib.hid (Ib_a.out.below hA (Nat.le_refl _))
    have Cc_7 := cell_later hA Cc_a
    have Ic_7 := Lib.hid (Ic_a.out.below hA (Nat.le_refl _))
    have Cd_7 := cell_later hA Cd_a
    have Id_7 := Lib.hid (Id_a.out.below hA (Nat.le_refl _))
    have Cs_7 := cell_later hA Cs_a
    have Is_7 := Lib.hid (Is_a.out.below hA (Nat.le_refl _))
    have Cx_7 := cell_later hA Cx_a
    have Ix_7 := Lib.hid (Ix_a.out.below hA (Nat.le_refl _))
    have Cy_7 := cell_later hA Cy_a
    have Iy_7 := Lib.hid (Iy_a.out.below hA (Nat.le_refl _))
    have Cz_7 : W7.cell? ⟨w7'.heap.size, 0, none⟩ = some (.slice xz nz cz) := by rw [hW]; simp [go_sem]
    have Iz_7 := Lib.hid (hz.below hA (Nat.le_refl _))
    have B7 := Lib.hid (B_a.out.trans (hA.mono B_a.out.size))
    clear hA B_a Ia_a Ib_a Ic_a Id_a Is_a Ix_a Iy_a hz
    go_wp2_with fail
    rw [← hW]
    clear hW Ca_a la Cb_a lb Cc_a lc Cd_a ld Cs_a ls Cx_a lx Cy_a ly
    refine (imFewJoin_at W7 _ _ zs (joinF ys us) Ia_7.out Iz_7.out).mono ?_
    rintro e w8' ⟨v, rfl, ho, hb⟩
    obtain ⟨xv, cv, rfl⟩ := ho.form
    obtain ⟨nv, hn⟩ : ∃ n, n = (joinF zs (joinF ys us)).length := ⟨_, rfl⟩
    have hv := ho.rd
    rw [← hn] at hv ⊢
    have Nv := Lib.hid hn
    have Ca_a := cell_later hb Ca_7
    have Ia_a := Lib.hid (Ia_7.out.below hb (Nat.le_refl _))
    have Cb_a := cell_later hb Cb_7
    have Ib_a := Lib.hid (Ib_7.out.below hb (Nat.le_refl _))
    have Cc_a := cell_later hb Cc_7
    have Ic_a := Lib.hid (Ic_7.out.below hb (Nat.le_refl _))
    have Cd_a := cell_later hb Cd_7
    have Id_a := Lib.hid (Id_7.out.below hb (Nat.le_refl _))
    have Cs_a := cell_later hb Cs_7
    have Is_a := Lib.hid (Is_7.out.below hb (Nat.le_refl _))
    have Cx_a := cell_later hb Cx_7
    have Ix_a := Lib.hid (Ix_7.out.below hb (Nat.le_refl _))
    have Cy_a := cell_later hb Cy_7
    have Iy_a := Lib.hid (Iy_7.out.below hb (Nat.le_refl _))
    have Cz_a := cell_later hb Cz_7
    have Iz_a := Lib.hid (Iz_7.out.below hb (Nat.le_refl _))
    have B_a := Lib.hid (B7.out.trans (hb.mono B7.out.size))
    clear Ca_7 Ia_7 Cb_7 Ib_7 Cc_7 Ic_7 Cd_7 Id_7 Cs_7 Is_7 Cx_7 Ix_7 Cy_7 Iy_7 Cz_7 Iz_7 B7
    clear ho hb hn
    have la := World.block_lt_of_cell? _ _ Ca_a
    have lb := World.block_lt_of_cell? _ _ Cb_a
    have lc := World.block_lt_of_cell? _ _ Cc_a
    have ld := World.block_lt_of_cell? _ _ Cd_a
    have ls := World.block_lt_of_cell? _ _ Cs_a
    have lx := World.block_lt_of_cell? _ _ Cx_a
    have ly := World.block_lt_of_cell? _ _ Cy_a
    have lz := World.block_lt_of_cell? _ _ Cz_a
    obtain ⟨W8, hW⟩ : ∃ W, W = (w8').alloc (.cells #[.slice xv nv cv] 28) := ⟨_, rfl⟩
    have hA : Below w8'.heap.size w8' W8 := by rw [hW]; exact ((Below.refl _ _).alloc (Nat.le_refl _) _)
    have Ca_8 := cell_later hA Ca_a
    have Ia_8 := Lib.hid (Ia_a.out.below hA (Nat.le_refl _))
    have Cb_8 := cell_later hA Cb_a
    have Ib_8 := Lib.hid (Ib_a.out.below hA (Nat.le_refl _))
    have Cc_8 := cell_later hA Cc_a
    have Ic_8 := Lib.hid (Ic_a.out.below hA (Nat.le_refl _))
    have Cd_8 := cell_later hA Cd_a
    have Id_8 := Lib.hid (Id_a.out.below hA (Nat.le_refl _))
    have Cs_8 := cell_later hA Cs_a
    have Is_8 := Lib.hid (Is_a.out.below hA (Nat.le_refl _))
    have Cx_8 := cell_later hA Cx_a
    have Ix_8 := Lib.hid (Ix_a.out.below hA (Nat.le_refl _))
    have Cy_8 := cell_later hA Cy_a
    have Iy_8 := Lib.hid (Iy_a.out.below hA (Nat.le_refl _))
    have Cz_8 := cell_later hA Cz_a
    have Iz_8 := Lib.hid (Iz_a.out.below hA (Nat.le_refl _))
    have Cv_8 : W8.cell? ⟨w8'.heap.size, 0, none⟩ = some (.slice xv nv cv) := by rw [hW]; simp [go_sem]
    have Iv_8 := Lib.hid (hv.below hA (Nat.le_refl _))
    have B8 := Lib.hid (B_a.out.trans (hA.mono B_a.out.size))
    clear hA B_a Ia_a Ib_a Ic_a Id_a Is_a Ix_a Iy_a Iz_a hv
    have SQ := SW1.out
    cases h2 : joinOkF ys us with
    | false =>
      rw [h2, Bool.false_and] at SQ
      rw [SQ]
      clear h2 SQ
      cases joinOkF zs (joinF ys us) with
      | false =>
        go_wp2
        go_ret
        exact ⟨by simp, by rw [← hW]; exact B8.out⟩
      | true =>
        go_wp2
        go_ret
        exact ⟨by simp, by rw [← hW]; exact B8.out⟩
    | true =>
      rw [h2, Bool.true_and] at SQ
      cases h3 : joinOkF zs (joinF ys us) with
      | false =>
        rw [h3] at SQ
        rw [SQ]
        clear h2 h3 SQ
        go_wp2
        go_ret
        exact ⟨by simp, by rw [← hW]; exact B8.out⟩
      | true =>
        rw [h3] at SQ
        have EQ := Lib.hid (SW2.out SQ)
        rw [SQ]
        clear h2 h3 SQ
        go_wp2_with fail
        rw [← hW]
        clear hW Ca_a la Cb_a lb Cc_a lc Cd_a ld Cs_a ls Cx_a lx Cy_a ly Cz_a lz
        have KE := lkIntsB_at W8 _ _ _ _ Iv_8.out Iy_8.out (by have := joinF_len zs (joinF ys us); omega)
        rw [decide_eq_true EQ.out] at KE
        refine (KE).mono ?_
        rintro e W9 ⟨rfl, hb⟩
        have Ca_9 := cell_later hb Ca_8
        have Ia_9 := Lib.hid (Ia_8.out.below hb (Nat.le_refl _))
        have Cb_9 := cell_later hb Cb_8
        have Ib_9 := Lib.hid (Ib_8.out.below hb (Nat.le_refl _))
        have Cc_9 := cell_later hb Cc_8
        have Ic_9 := Lib.hid (Ic_8.out.below hb (Nat.le_refl _))
        have Cd_9 := cell_later hb Cd_8
        have Id_9 := Lib.hid (Id_8.out.below hb (Nat.le_refl _))
        have Cs_9 := cell_later hb Cs_8
        have Is_9 := Lib.hid (Is_8.out.below hb (Nat.le_refl _))
        have Cx_9 := cell_later hb Cx_8
        have Ix_9 := Lib.hid (Ix_8.out.below hb (Nat.le_refl _))
        have Cy_9 := cell_later hb Cy_8
        have Iy_9 := Lib.hid (Iy_8.out.below hb (Nat.le_refl _))
        have Cz_9 := cell_later hb Cz_8
        have Iz_9 := Lib.hid (Iz_8.out.below hb (Nat.le_refl _))
        have Cv_9 := cell_later hb Cv_8
        have Iv_9 := Lib.hid (Iv_8.out.below hb (Nat.le_refl _))
        have B9 := Lib.hid (B8.out.trans (hb.mono B8.out.size))
        clear hb Ca_8 Ia_8 Cb_8 Ib_8 Cc_8 Ic_8 Cd_8 Id_8 Cs_8 Is_8 Cx_8 Ix_8 Cy_8 Iy_8 Cz_8 Iz_8 Cv_8 Iv_8 B8
        clear KE
        go_wp2
        go_ret
        exact ⟨by simp, B9.out⟩

/-! ### THE ROW's STEP: WRITTEN OUT: LEAVE IT -/
set_option maxRecDepth 100000 in
theorem lifted (os : Os) (started : os.Started) (H : Type) (enc : TypeId × Value → H) :
    ReturnsInHanded {} Try.checked os 8 .any (Rows.fnFewJoinThreeSpec.pre6 enc Try.prog Try.f8 Rows.fnFewJoinThreeRow.domain false) (Rows.fnFewJoinThreeSpec.post enc Try.prog Try.f8 false true false false) := by
  refine returnsInHanded_of_change (C := Try.checked) own started (by kernel_rfl) Try.func8
    (ChangeSpec.witness6 (enc := enc) (C := Try.checked) false ⟨#[], #[.slice none 0 0, .slice none 0 0], []⟩ 8 (by kernel_rfl) (by kernel_rfl) (by kernel_rfl) (by kernel_rfl)) ?_
  intro W base args ds gs before hval0 hW hcnd _
  have hval : ∀ (j : Nat) t v, Try.f8.params[j]? = some t → args[j]? = some v → Value.okWide Try.prog W .any base t v := hval0
  have hW' := hW
  obtain ⟨p, q, hA0, hV, rfl, hfz, hnd⟩ := hW
  have hA : DataW.TrodAll enc Try.prog W 0 (fun _ => true) true Try.f8.params.toList args.toList ds p := hA0
  rw [Try.params8] at hA hval
  obtain ⟨v0, vs0, d0, ds0, p0, q0, hargs, rfl, rfl, h0, r0⟩ := trodAll_cons hA
  obtain ⟨v1, vs1, d1, ds1, p1, q1, rfl, rfl, rfl, h1, r1⟩ := trodAll_cons r0
  obtain ⟨rfl, rfl, rfl⟩ := trodAll_nil r1
  obtain rfl : args = #[v0, v1] := by cases args; simp_all
  obtain ⟨rfl, rfl⟩ := trodVars_none hV
  obtain ⟨a0, len0, cap0, rfl⟩ := okWide_slice Try.underlying22 (hval 0 22 v0 rfl rfl)
  have k0 := h0
  have lt0 : ∀ x ∈ p0, x.block < W.heap.size := by obtain ⟨m, hm⟩ := k0; exact DataW.trod_lt m _ _ _ hm
  obtain ⟨z0, w0⟩ : ∃ zs, IsRow .u8 W a0 len0 cap0 zs := by
    obtain ⟨fuel, hf⟩ := h0
    rcases open_ints Try.underlying22 Try.underlying5 (by kernel_rfl) hf with ⟨hcs, _⟩ | ⟨x, l, c, zs, hcs, _, hl, hm, hz, _, hcell, hwz⟩
    · simp [Value.cells] at hcs
      obtain ⟨rfl, rfl, rfl⟩ := hcs
      exact ⟨[], .inl ⟨rfl, rfl, rfl, rfl⟩⟩
    · simp [Value.cells] at hcs
      obtain ⟨rfl, rfl, rfl⟩ := hcs
      exact ⟨zs, .inr ⟨_, rfl, hl, hm, by simpa using hz, hcell, hwz⟩⟩
  obtain ⟨a1, len1, cap1, rfl⟩ := okWide_slice Try.underlying22 (hval 1 22 v1 rfl rfl)
  have k1 := h1
  have lt1 : ∀ x ∈ p1, x.block < W.heap.size := by obtain ⟨m, hm⟩ := k1; exact DataW.trod_lt m _ _ _ hm
  obtain ⟨z1, w1⟩ : ∃ zs, IsRow .u8 W a1 len1 cap1 zs := by
    obtain ⟨fuel, hf⟩ := h1
    rcases open_ints Try.underlying22 Try.underlying5 (by kernel_rfl) hf with ⟨hcs, _⟩ | ⟨x, l, c, zs, hcs, _, hl, hm, hz, _, hcell, hwz⟩
    · simp [Value.cells] at hcs
      obtain ⟨rfl, rfl, rfl⟩ := hcs
      exact ⟨[], .inl ⟨rfl, rfl, rfl, rfl⟩⟩
    · simp [Value.cells] at hcs
      obtain ⟨rfl, rfl, rfl⟩ := hcs
      exact ⟨zs, .inr ⟨_, rfl, hl, hm, by simpa using hz, hcell, hwz⟩⟩
  clear hA0 hval0
  refine (walk a0 len0 cap0 z0 a1 len1 cap1 z1 W w0 w1).mono fun e W' ⟨he, bel⟩ => ?_
  subst he
  exact ⟨_, rfl, _, _, _, [], _, [], hW', trodAll_mk1 (shut_bool Try.underlying4 _), (trodAll_cons_mk (Below.trod laidOut (by kernel_rfl) (of_decide_eq_true (by kernel_rfl)) k0 bel lt0) (trodAll_cons_mk (Below.trod laidOut (by kernel_rfl) (of_decide_eq_true (by kernel_rfl)) k1 bel lt1) trodAll_mk0)), rfl, bel.frame _, fun h => by cases h⟩

theorem over : Rows.fnFewJoinThreeRow.holds Try.pinned (OpenSpec.ofChange Rows.fnFewJoinThreeSpec) :=
  OpenClaim.holds_of_wide 8 Try.f8 rfl rfl rfl rfl rfl rfl rfl ⟨rfl, rfl, rfl, rfl, rfl⟩ rfl rfl rfl rfl rfl (by kernel_rfl) Try.func8 (by kernel_rfl)
    (of_decide_eq_true (by kernel_rfl)) (by unfold Func.isWrapper; first | (rw [if_pos (by decide +kernel)]; kernel_rfl) | (rw [if_neg (by decide +kernel)]; exact ⟨rfl, rfl⟩))
    (fun os started H enc _ => lifted os started H enc)

theorem proved : Rows.FnFewJoinThreeSaid := over
#print axioms proved
end Go.Proofs.Yteopnbjiffncbac.fnFewJoinThree
