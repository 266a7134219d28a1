/-
  The statement of the law FnFewJoin: at every input the call returns true and leaves what it was given as it was. The frame is the kit's shell; the walk is ours.
-/
import Derived.Test.YteopnbjiffncbacFLaw
import Derived.Test.YteopnbjiffncbacRows
import Derived.WalkKit
import Derived.ProofKit
import Derived.OpenShut
import Derived.ShutString
import Derived.ChangeOld
import Derived.Below
namespace Go.Proofs.Yteopnbjiffncbac.fnFewJoin
open Go.ChangeShapes Go.WideShapes Go.ChangeAt Go.RowKit
open Go.ChangeMaps (open_string shut_string)
set_option linter.unusedVariables false

theorem own : ownKnob Try.prog.godebug = none := by kernel_rfl
theorem laidOut : laidOutB Try.prog = true := by kernel_rfl

/-- WHAT THE WALK IS TOLD OF A SLICE OF INTEGERS THAT CAME IN: it is nil; or it leads to a row of 'cap' cells, the numbers 'zs' (the first 'len' are its elements, the rest its spare room), each fitting its kind. -/
def IsRow (k : IntKind) (w : World) (a : Option Addr) (len cap : Nat) (zs : List Int) : Prop :=
  (a = none ∧ len = 0 ∧ cap = 0 ∧ zs = []) ∨
  ∃ x, a = some x ∧ len ≤ cap ∧ cap ≤ maxLen ∧ zs.length = cap ∧ (∀ i, i < zs.length → w.cell? (x.add i) = some (.int k (zs.getD i 0))) ∧ ∀ n ∈ zs, (Lit.int k n).wf = true

/-! ### STEP 1: THE WALK: the Go text returns true, AND WRITES NOTHING THAT WAS THERE: 'Below w.heap.size w w'' (Derived/Below.lean: '.refl', '.alloc', '.drew', '.setCell' at a new block, '.trans'). Open each 'IsRow' by 'rcases' AHEAD of 'go_enter'; part every test ahead of the walk. -/
theorem walk (a0 : Option Addr) (len0 cap0 : Nat) (z0 : List Int) (w : World) (w0 : IsRow .u8 w a0 len0 cap0 z0) :
    Calls Try.prog 7 #[.slice a0 len0 cap0] w fun e w' => e = .returned (.bool true) ∧ Below w.heap.size w w' := by
  obtain ⟨hb, hl⟩ := bts_of w a0 len0 cap0 z0 w0
  rcases hl with hl | hl
  · go_enter Try.func7, Try.ntmps7
    go_wp2
    go_ret
    exact ⟨rfl, Below.refl _ _⟩
  have HB0 := Lib.hid hb
  clear hb w0
  go_enter Try.func7, Try.ntmps7
  go_wp2_with fail
  refine (drawFJoin_at w _ len0 ⟨_, _, rfl⟩ HB0.out).mono ?_
  rintro e w1' ⟨xa, ca, zs, xb, cb, ys, rfl, hz, hy, hla, hlb, hb⟩
  have ha := hz.rd
  have hb' := hy.rd
  obtain ⟨na, hn⟩ : ∃ n, n = zs.length := ⟨_, rfl⟩
  obtain ⟨nb, hm⟩ : ∃ n, n = ys.length := ⟨_, rfl⟩
  rw [← hn] at ha hla ⊢
  rw [← hm] at hb' hlb ⊢
  have Na := Lib.hid hn
  have Nb := Lib.hid hm
  have B_a := Lib.hid hb
  clear hb
  have hb := hb'
  clear hb'
  clear hz hy hn hm
  obtain ⟨W1, hW⟩ : ∃ W, W = ((w1').alloc (.cells #[.slice xa na ca] 28)).alloc (.cells #[.slice xb nb cb] 28) := ⟨_, rfl⟩
  have hA : Below w1'.heap.size w1' W1 := by rw [hW]; exact (((Below.refl _ _).alloc (Nat.le_refl _) _).alloc (by simp) _)
  have Ca_1 : W1.cell? ⟨w1'.heap.size, 0, none⟩ = some (.slice xa na ca) := by rw [hW]; simp [go_sem]
  have Ia_1 := Lib.hid (ha.below hA (Nat.le_refl _))
  have Cb_1 : W1.cell? ⟨w1'.heap.size + 1, 0, none⟩ = some (.slice xb nb cb) := by rw [hW]; simp [go_sem]
  have Ib_1 := Lib.hid (hb.below hA (Nat.le_refl _))
  have B1 := Lib.hid (B_a.out.trans (hA.mono B_a.out.size))
  clear hA B_a  ha hb
  go_wp2_with fail
  rw [← hW]
  clear hW 
  refine (spFewJoin_at W1 _ _ zs ys Ia_1.out Ib_1.out).mono ?_
  rintro e w2' ⟨v, rfl, ho, hb⟩
  obtain ⟨xs, cs, rfl⟩ := ho.form
  obtain ⟨ns, hn⟩ : ∃ n, n = (joinF zs ys).length := ⟨_, rfl⟩
  have hs := ho.rd
  rw [← hn] at hs ⊢
  have Ns := Lib.hid hn
  have Ca_a := cell_later hb Ca_1
  have Ia_a := Lib.hid (Ia_1.out.below hb (Nat.le_refl _))
  have Cb_a := cell_later hb Cb_1
  have Ib_a := Lib.hid (Ib_1.out.below hb (Nat.le_refl _))
  have B_a := Lib.hid (B1.out.trans (hb.mono B1.out.size))
  clear Ca_1 Ia_1 Cb_1 Ib_1 B1
  clear ho hb hn
  have la := World.block_lt_of_cell? _ _ Ca_a
  have lb := World.block_lt_of_cell? _ _ Cb_a
  obtain ⟨W2, hW⟩ : ∃ W, W = (w2').alloc (.cells #[.slice xs ns cs] 28) := ⟨_, rfl⟩
  have hA : Below w2'.heap.size w2' W2 := by rw [hW]; exact ((Below.refl _ _).alloc (Nat.le_refl _) _)
  have Ca_2 := cell_later hA Ca_a
  have Ia_2 := Lib.hid (Ia_a.out.below hA (Nat.le_refl _))
  have Cb_2 := cell_later hA Cb_a
  have Ib_2 := Lib.hid (Ib_a.out.below hA (Nat.le_refl _))
  have Cs_2 : W2.cell? ⟨w2'.heap.size, 0, none⟩ = some (.slice xs ns cs) := by rw [hW]; simp [go_sem]
  have Is_2 := Lib.hid (hs.below hA (Nat.le_refl _))
  have B2 := Lib.hid (B_a.out.trans (hA.mono B_a.out.size))
  clear hA B_a Ia_a Ib_a hs
  go_wp2_with fail
  rw [← hW]
  clear hW Ca_a la Cb_a lb
  refine (imFewJoin_at W2 _ _ zs ys Ia_2.out Ib_2.out).mono ?_
  rintro e w3' ⟨v, rfl, ho, hb⟩
  obtain ⟨xx, cx, rfl⟩ := ho.form
  obtain ⟨nx, hn⟩ : ∃ n, n = (joinF zs ys).length := ⟨_, rfl⟩
  have hx := ho.rd
  rw [← hn] at hx ⊢
  have Nx := Lib.hid hn
  have Ca_a := cell_later hb Ca_2
  have Ia_a := Lib.hid (Ia_2.out.below hb (Nat.le_refl _))
  have Cb_a := cell_later hb Cb_2
  have Ib_a := Lib.hid (Ib_2.out.below hb (Nat.le_refl _))
  have Cs_a := cell_later hb Cs_2
  have Is_a := Lib.hid (Is_2.out.below hb (Nat.le_refl _))
  have B_a := Lib.hid (B2.out.trans (hb.mono B2.out.size))
  clear Ca_2 Ia_2 Cb_2 Ib_2 Cs_2 Is_2 B2
  clear ho hb hn
  have la := World.block_lt_of_cell? _ _ Ca_a
  have lb := World.block_lt_of_cell? _ _ Cb_a
  have ls := World.block_lt_of_cell? _ _ Cs_a
  obtain ⟨W3, hW⟩ : ∃ W, W = (w3').alloc (.cells #[.slice xx nx cx] 28) := ⟨_, rfl⟩
  have hA : Below w3'.heap.size w3' W3 := by rw [hW]; exact ((Below.refl _ _).alloc (Nat.le_refl _) _)
  have Ca_3 := cell_later hA Ca_a
  have Ia_3 := Lib.hid (Ia_a.out.below hA (Nat.le_refl _))
  have Cb_3 := cell_later hA Cb_a
  have Ib_3 := Lib.hid (Ib_a.out.below hA (Nat.le_refl _))
  have Cs_3 := cell_later hA Cs_a
  have Is_3 := Lib.hid (Is_a.out.below hA (Nat.le_refl _))
  have Cx_3 : W3.cell? ⟨w3'.heap.size, 0, none⟩ = some (.slice xx nx cx) := by rw [hW]; simp [go_sem]
  have Ix_3 := Lib.hid (hx.below hA (Nat.le_refl _))
  have B3 := Lib.hid (B_a.out.trans (hA.mono B_a.out.size))
  clear hA B_a Ia_a Ib_a Is_a hx
  cases hok : joinOkF zs ys with
  | false =>
    clear hok
    go_wp2_with fail
    rw [← hW]
    clear hW Ca_a la Cb_a lb Cs_a ls
    refine (lkIntsB_at W3 _ _ (joinF zs ys) (joinF zs ys) Ix_3.out Is_3.out (by have := joinF_len zs ys; omega)).mono ?_
    rintro e W4 ⟨rfl, hb⟩
    rw [decide_eq_true rfl]
    have Ca_4 := cell_later hb Ca_3
    have Ia_4 := Lib.hid (Ia_3.out.below hb (Nat.le_refl _))
    have Cb_4 := cell_later hb Cb_3
    have Ib_4 := Lib.hid (Ib_3.out.below hb (Nat.le_refl _))
    have Cs_4 := cell_later hb Cs_3
    have Is_4 := Lib.hid (Is_3.out.below hb (Nat.le_refl _))
    have Cx_4 := cell_later hb Cx_3
    have Ix_4 := Lib.hid (Ix_3.out.below hb (Nat.le_refl _))
    have B4 := Lib.hid (B3.out.trans (hb.mono B3.out.size))
    clear hb Ca_3 Ia_3 Cb_3 Ib_3 Cs_3 Is_3 Cx_3 Ix_3 B3
    go_wp2_with fail
    refine (lkIntsB_at W4 _ _ (joinF zs ys) (joinF zs ys) Ix_4.out Is_4.out (by have := joinF_len zs ys; omega)).mono ?_
    rintro e W5 ⟨rfl, hb⟩
    rw [decide_eq_true rfl]
    have Ca_5 := cell_later hb Ca_4
    have Ia_5 := Lib.hid (Ia_4.out.below hb (Nat.le_refl _))
    have Cb_5 := cell_later hb Cb_4
    have Ib_5 := Lib.hid (Ib_4.out.below hb (Nat.le_refl _))
    have Cs_5 := cell_later hb Cs_4
    have Is_5 := Lib.hid (Is_4.out.below hb (Nat.le_refl _))
    have Cx_5 := cell_later hb Cx_4
    have Ix_5 := Lib.hid (Ix_4.out.below hb (Nat.le_refl _))
    have B5 := Lib.hid (B4.out.trans (hb.mono B4.out.size))
    clear hb Ca_4 Ia_4 Cb_4 Ib_4 Cs_4 Is_4 Cx_4 Ix_4 B4
    go_wp2
    go_ret
    exact ⟨rfl, B5.out⟩
  | true =>
    obtain ⟨f1, ⟨o1, e1⟩, ⟨o2, e2⟩, ⟨o3, e3⟩⟩ := join_laws hok
    have l7 : zs.length ≤ 7 := by rw [← Na.out]; exact hla
    have L7 := Lib.hid l7
    have F1 := Lib.hid f1
    have O1 := Lib.hid o1
    have E1 := Lib.hid e1
    have O2 := Lib.hid o2
    have E2 := Lib.hid e2
    have O3 := Lib.hid o3
    have E3 := Lib.hid e3
    clear hok f1 o1 e1 o2 e2 o3 e3 l7
    go_wp2_with fail
    rw [← hW]
    clear hW Ca_a la Cb_a lb Cs_a ls
    refine (lkIntsB_at W3 _ _ (joinF zs ys) (joinF zs ys) Ix_3.out Is_3.out (by have := joinF_len zs ys; omega)).mono ?_
    rintro e W4 ⟨rfl, hb⟩
    rw [decide_eq_true rfl]
    have Ca_4 := cell_later hb Ca_3
    have Ia_4 := Lib.hid (Ia_3.out.below hb (Nat.le_refl _))
    have Cb_4 := cell_later hb Cb_3
    have Ib_4 := Lib.hid (Ib_3.out.below hb (Nat.le_refl _))
    have Cs_4 := cell_later hb Cs_3
    have Is_4 := Lib.hid (Is_3.out.below hb (Nat.le_refl _))
    have Cx_4 := cell_later hb Cx_3
    have Ix_4 := Lib.hid (Ix_3.out.below hb (Nat.le_refl _))
    have B4 := Lib.hid (B3.out.trans (hb.mono B3.out.size))
    clear hb Ca_3 Ia_3 Cb_3 Ib_3 Cs_3 Is_3 Cx_3 Ix_3 B3
    go_wp2_with fail
    have KY := imFewJoin_at W4 _ _ ys zs Ib_4.out Ia_4.out
    rw [O1.out, E1.out] at KY
    refine (KY).mono ?_
    rintro e w5' ⟨v, rfl, ho, hb⟩
    obtain ⟨xy, cy, rfl⟩ := ho.form
    obtain ⟨ny, hn⟩ : ∃ n, n = (joinF zs ys).length := ⟨_, rfl⟩
    have hy := ho.rd
    rw [← hn] at hy ⊢
    have Ny := Lib.hid hn
    have Ca_a := cell_later hb Ca_4
    have Ia_a := Lib.hid (Ia_4.out.below hb (Nat.le_refl _))
    have Cb_a := cell_later hb Cb_4
    have Ib_a := Lib.hid (Ib_4.out.below hb (Nat.le_refl _))
    have Cs_a := cell_later hb Cs_4
    have Is_a := Lib.hid (Is_4.out.below hb (Nat.le_refl _))
    have Cx_a := cell_later hb Cx_4
    have Ix_a := Lib.hid (Ix_4.out.below hb (Nat.le_refl _))
    have B_a := Lib.hid (B4.out.trans (hb.mono B4.out.size))
    clear Ca_4 Ia_4 Cb_4 Ib_4 Cs_4 Is_4 Cx_4 Ix_4 B4
    clear ho hb hn
    have la := World.block_lt_of_cell? _ _ Ca_a
    have lb := World.block_lt_of_cell? _ _ Cb_a
    have ls := World.block_lt_of_cell? _ _ Cs_a
    have lx := World.block_lt_of_cell? _ _ Cx_a
    obtain ⟨W5, hW⟩ : ∃ W, W = (w5').alloc (.cells #[.slice xy ny cy] 28) := ⟨_, rfl⟩
    have hA : Below w5'.heap.size w5' W5 := by rw [hW]; exact ((Below.refl _ _).alloc (Nat.le_refl _) _)
    have Ca_5 := cell_later hA Ca_a
    have Ia_5 := Lib.hid (Ia_a.out.below hA (Nat.le_refl _))
    have Cb_5 := cell_later hA Cb_a
    have Ib_5 := Lib.hid (Ib_a.out.below hA (Nat.le_refl _))
    have Cs_5 := cell_later hA Cs_a
    have Is_5 := Lib.hid (Is_a.out.below hA (Nat.le_refl _))
    have Cx_5 := cell_later hA Cx_a
    have Ix_5 := Lib.hid (Ix_a.out.below hA (Nat.le_refl _))
    have Cy_5 : W5.cell? ⟨w5'.heap.size, 0, none⟩ = some (.slice xy ny cy) := by rw [hW]; simp [go_sem]
    have Iy_5 := Lib.hid (hy.below hA (Nat.le_refl _))
    have B5 := Lib.hid (B_a.out.trans (hA.mono B_a.out.size))
    clear hA B_a Ia_a Ib_a Is_a Ix_a hy
    clear KY
    go_wp2_with fail
    rw [← hW]
    clear hW Ca_a la Cb_a lb Cs_a ls Cx_a lx
    have KY := imFewJoin_at W5 _ _ zs zs Ia_5.out Ia_5.out
    rw [O2.out, E2.out] at KY
    refine (KY).mono ?_
    rintro e w6' ⟨v, rfl, ho, hb⟩
    obtain ⟨xq, cq, rfl⟩ := ho.form
    obtain ⟨nq, hn⟩ : ∃ n, n = (zs).length := ⟨_, rfl⟩
    have hq := ho.rd
    rw [← hn] at hq ⊢
    have Nq := Lib.hid hn
    have Ca_a := cell_later hb Ca_5
    have Ia_a := Lib.hid (Ia_5.out.below hb (Nat.le_refl _))
    have Cb_a := cell_later hb Cb_5
    have Ib_a := Lib.hid (Ib_5.out.below hb (Nat.le_refl _))
    have Cs_a := cell_later hb Cs_5
    have Is_a := Lib.hid (Is_5.out.below hb (Nat.le_refl _))
    have Cx_a := cell_later hb Cx_5
    have Ix_a := Lib.hid (Ix_5.out.below hb (Nat.le_refl _))
    have Cy_a := cell_later hb Cy_5
    have Iy_a := Lib.hid (Iy_5.out.below hb (Nat.le_refl _))
    have B_a := Lib.hid (B5.out.trans (hb.mono B5.out.size))
    clear Ca_5 Ia_5 Cb_5 Ib_5 Cs_5 Is_5 Cx_5 Ix_5 Cy_5 Iy_5 B5
    clear ho hb hn
    have la := World.block_lt_of_cell? _ _ Ca_a
    have lb := World.block_lt_of_cell? _ _ Cb_a
    have ls := World.block_lt_of_cell? _ _ Cs_a
    have lx := World.block_lt_of_cell? _ _ Cx_a
    have ly := World.block_lt_of_cell? _ _ Cy_a
    obtain ⟨W6, hW⟩ : ∃ W, W = (w6').alloc (.cells #[.slice xq nq cq] 28) := ⟨_, rfl⟩
    have hA : Below w6'.heap.size w6' W6 := by rw [hW]; exact ((Below.refl _ _).alloc (Nat.le_refl _) _)
    have Ca_6 := cell_later hA Ca_a
    have Ia_6 := Lib.hid (Ia_a.out.below hA (Nat.le_refl _))
    have Cb_6 := cell_later hA Cb_a
    have Ib_6 := Lib.hid (Ib_a.out.below hA (Nat.le_refl _))
    have Cs_6 := cell_later hA Cs_a
    have Is_6 := Lib.hid (Is_a.out.below hA (Nat.le_refl _))
    have Cx_6 := cell_later hA Cx_a
    have Ix_6 := Lib.hid (Ix_a.out.below hA (Nat.le_refl _))
    have Cy_6 := cell_later hA Cy_a
    have Iy_6 := Lib.hid (Iy_a.out.below hA (Nat.le_refl _))
    have Cq_6 : W6.cell? ⟨w6'.heap.size, 0, none⟩ = some (.slice xq nq cq) := by rw [hW]; simp [go_sem]
    have Iq_6 := Lib.hid (hq.below hA (Nat.le_refl _))
    have B6 := Lib.hid (B_a.out.trans (hA.mono B_a.out.size))
    clear hA B_a Ia_a Ib_a Is_a Ix_a Iy_a hq
    clear KY
    go_wp2_with fail
    rw [← hW]
    clear hW Ca_a la Cb_a lb Cs_a ls Cx_a lx Cy_a ly
    have KY := imFewJoin_at W6 _ _ (joinF zs ys) ys Ix_6.out Ib_6.out
    rw [O3.out, E3.out] at KY
    refine (KY).mono ?_
    rintro e w7' ⟨v, rfl, ho, hb⟩
    obtain ⟨xr, cr, rfl⟩ := ho.form
    obtain ⟨nr, hn⟩ : ∃ n, n = (joinF zs ys).length := ⟨_, rfl⟩
    have hr := ho.rd
    rw [← hn] at hr ⊢
    have Nr := Lib.hid hn
    have Ca_a := cell_later hb Ca_6
    have Ia_a := Lib.hid (Ia_6.out.below hb (Nat.le_refl _))
    have Cb_a := cell_later hb Cb_6
    have Ib_a := Lib.hid (Ib_6.out.below hb (Nat.le_refl _))
    have Cs_a := cell_later hb Cs_6
    have Is_a := Lib.hid (Is_6.out.below hb (Nat.le_refl _))
    have Cx_a := cell_later hb Cx_6
    have Ix_a := Lib.hid (Ix_6.out.below hb (Nat.le_refl _))
    have Cy_a := cell_later hb Cy_6
    have Iy_a := Lib.hid (Iy_6.out.below hb (Nat.le_refl _))
    have Cq_a := cell_later hb Cq_6
    have Iq_a := Lib.hid (Iq_6.out.below hb (Nat.le_refl _))
    have B_a := Lib.hid (B6.out.trans (hb.mono B6.out.size))
    clear Ca_6 Ia_6 Cb_6 Ib_6 Cs_6 Is_6 Cx_6 Ix_6 Cy_6 Iy_6 Cq_6 Iq_6 B6
    clear ho hb hn
    have la := World.block_lt_of_cell? _ _ Ca_a
    have lb := World.block_lt_of_cell? _ _ Cb_a
    have ls := World.block_lt_of_cell? _ _ Cs_a
    have lx := World.block_lt_of_cell? _ _ Cx_a
    have ly := World.block_lt_of_cell? _ _ Cy_a
    have lq := World.block_lt_of_cell? _ _ Cq_a
    obtain ⟨W7, hW⟩ : ∃ W, W = (w7').alloc (.cells #[.slice xr nr cr] 28) := ⟨_, rfl⟩
    have hA : Below w7'.heap.size w7' W7 := by rw [hW]; exact ((Below.refl _ _).alloc (Nat.le_refl _) _)
    have Ca_7 := cell_later hA Ca_a
    have Ia_7 := Lib.hid (Ia_a.out.below hA (Nat.le_refl _))
    have Cb_7 := cell_later hA Cb_a
    have Ib_7 := Lib.hid (Ib_a.out.below hA (Nat.le_refl _))
    have Cs_7 := cell_later hA Cs_a
    have Is_7 := Lib.hid (Is_a.out.below hA (Nat.le_refl _))
    have Cx_7 := cell_later hA Cx_a
    have Ix_7 := Lib.hid (Ix_a.out.below hA (Nat.le_refl _))
    have Cy_7 := cell_later hA Cy_a
    have Iy_7 := Lib.hid (Iy_a.out.below hA (Nat.le_refl _))
    have Cq_7 := cell_later hA Cq_a
    have Iq_7 := Lib.hid (Iq_a.out.below hA (Nat.le_refl _))
    have Cr_7 : W7.cell? ⟨w7'.heap.size, 0, none⟩ = some (.slice xr nr cr) := by rw [hW]; simp [go_sem]
    have Ir_7 := Lib.hid (hr.below hA (Nat.le_refl _))
    have B7 := Lib.hid (B_a.out.trans (hA.mono B_a.out.size))
    clear hA B_a Ia_a Ib_a Is_a Ix_a Iy_a Iq_a hr
    clear KY
    go_wp2_with fail
    rw [← hW]
    clear hW Ca_a la Cb_a lb Cs_a ls Cx_a lx Cy_a ly Cq_a lq
    have KO := imFewOk_at W7 _ (joinF zs ys) Ix_7.out
    rw [F1.out] at KO
    refine (KO).mono ?_
    rintro e W8 ⟨rfl, hb⟩
    have Ca_8 := cell_later hb Ca_7
    have Ia_8 := Lib.hid (Ia_7.out.below hb (Nat.le_refl _))
    have Cb_8 := cell_later hb Cb_7
    have Ib_8 := Lib.hid (Ib_7.out.below hb (Nat.le_refl _))
    have Cs_8 := cell_later hb Cs_7
    have Is_8 := Lib.hid (Is_7.out.below hb (Nat.le_refl _))
    have Cx_8 := cell_later hb Cx_7
    have Ix_8 := Lib.hid (Ix_7.out.below hb (Nat.le_refl _))
    have Cy_8 := cell_later hb Cy_7
    have Iy_8 := Lib.hid (Iy_7.out.below hb (Nat.le_refl _))
    have Cq_8 := cell_later hb Cq_7
    have Iq_8 := Lib.hid (Iq_7.out.below hb (Nat.le_refl _))
    have Cr_8 := cell_later hb Cr_7
    have Ir_8 := Lib.hid (Ir_7.out.below hb (Nat.le_refl _))
    have B8 := Lib.hid (B7.out.trans (hb.mono B7.out.size))
    clear hb Ca_7 Ia_7 Cb_7 Ib_7 Cs_7 Is_7 Cx_7 Ix_7 Cy_7 Iy_7 Cq_7 Iq_7 Cr_7 Ir_7 B7
    clear KO
    go_wp2_with fail
    refine (lkIntsB_at W8 _ _ (joinF zs ys) (joinF zs ys) Iy_8.out Ix_8.out (by have := joinF_len zs ys; omega)).mono ?_
    rintro e W9 ⟨rfl, hb⟩
    rw [decide_eq_true rfl]
    have Ca_9 := cell_later hb Ca_8
    have Ia_9 := Lib.hid (Ia_8.out.below hb (Nat.le_refl _))
    have Cb_9 := cell_later hb Cb_8
    have Ib_9 := Lib.hid (Ib_8.out.below hb (Nat.le_refl _))
    have Cs_9 := cell_later hb Cs_8
    have Is_9 := Lib.hid (Is_8.out.below hb (Nat.le_refl _))
    have Cx_9 := cell_later hb Cx_8
    have Ix_9 := Lib.hid (Ix_8.out.below hb (Nat.le_refl _))
    have Cy_9 := cell_later hb Cy_8
    have Iy_9 := Lib.hid (Iy_8.out.below hb (Nat.le_refl _))
    have Cq_9 := cell_later hb Cq_8
    have Iq_9 := Lib.hid (Iq_8.out.below hb (Nat.le_refl _))
    have Cr_9 := cell_later hb Cr_8
    have Ir_9 := Lib.hid (Ir_8.out.below hb (Nat.le_refl _))
    have B9 := Lib.hid (B8.out.trans (hb.mono B8.out.size))
    clear hb Ca_8 Ia_8 Cb_8 Ib_8 Cs_8 Is_8 Cx_8 Ix_8 Cy_8 Iy_8 Cq_8 Iq_8 Cr_8 Ir_8 B8
    go_wp2_with fail
    refine (lkIntsB_at W9 _ _ zs zs Iq_9.out Ia_9.out (by have := L7.out; omega)).mono ?_
    rintro e W10 ⟨rfl, hb⟩
    rw [decide_eq_true rfl]
    have Ca_10 := cell_later hb Ca_9
    have Ia_10 := Lib.hid (Ia_9.out.below hb (Nat.le_refl _))
    have Cb_10 := cell_later hb Cb_9
    have Ib_10 := Lib.hid (Ib_9.out.below hb (Nat.le_refl _))
    have Cs_10 := cell_later hb Cs_9
    have Is_10 := Lib.hid (Is_9.out.below hb (Nat.le_refl _))
    have Cx_10 := cell_later hb Cx_9
    have Ix_10 := Lib.hid (Ix_9.out.below hb (Nat.le_refl _))
    have Cy_10 := cell_later hb Cy_9
    have Iy_10 := Lib.hid (Iy_9.out.below hb (Nat.le_refl _))
    have Cq_10 := cell_later hb Cq_9
    have Iq_10 := Lib.hid (Iq_9.out.below hb (Nat.le_refl _))
    have Cr_10 := cell_later hb Cr_9
    have Ir_10 := Lib.hid (Ir_9.out.below hb (Nat.le_refl _))
    have B10 := Lib.hid (B9.out.trans (hb.mono B9.out.size))
    clear hb Ca_9 Ia_9 Cb_9 Ib_9 Cs_9 Is_9 Cx_9 Ix_9 Cy_9 Iy_9 Cq_9 Iq_9 Cr_9 Ir_9 B9
    go_wp2_with fail
    refine (lkIntsB_at W10 _ _ (joinF zs ys) (joinF zs ys) Ir_10.out Ix_10.out (by have := joinF_len zs ys; omega)).mono ?_
    rintro e W11 ⟨rfl, hb⟩
    rw [decide_eq_true rfl]
    have Ca_11 := cell_later hb Ca_10
    have Ia_11 := Lib.hid (Ia_10.out.below hb (Nat.le_refl _))
    have Cb_11 := cell_later hb Cb_10
    have Ib_11 := Lib.hid (Ib_10.out.below hb (Nat.le_refl _))
    have Cs_11 := cell_later hb Cs_10
    have Is_11 := Lib.hid (Is_10.out.below hb (Nat.le_refl _))
    have Cx_11 := cell_later hb Cx_10
    have Ix_11 := Lib.hid (Ix_10.out.below hb (Nat.le_refl _))
    have Cy_11 := cell_later hb Cy_10
    have Iy_11 := Lib.hid (Iy_10.out.below hb (Nat.le_refl _))
    have Cq_11 := cell_later hb Cq_10
    have Iq_11 := Lib.hid (Iq_10.out.below hb (Nat.le_refl _))
    have Cr_11 := cell_later hb Cr_10
    have Ir_11 := Lib.hid (Ir_10.out.below hb (Nat.le_refl _))
    have B11 := Lib.hid (B10.out.trans (hb.mono B10.out.size))
    clear hb Ca_10 Ia_10 Cb_10 Ib_10 Cs_10 Is_10 Cx_10 Ix_10 Cy_10 Iy_10 Cq_10 Iq_10 Cr_10 Ir_10 B10
    go_wp2
    go_ret
    exact ⟨by simp, B11.out⟩

/-! ### THE ROW's STEP: WRITTEN OUT: LEAVE IT -/
set_option maxRecDepth 100000 in
theorem lifted (os : Os) (started : os.Started) (H : Type) (enc : TypeId × Value → H) :
    ReturnsInHanded {} Try.checked os 7 .any (Rows.fnFewJoinSpec.pre6 enc Try.prog Try.f7 Rows.fnFewJoinRow.domain false) (Rows.fnFewJoinSpec.post enc Try.prog Try.f7 false true false false) := by
  refine returnsInHanded_of_change (C := Try.checked) own started (by kernel_rfl) Try.func7
    (ChangeSpec.witness6 (enc := enc) (C := Try.checked) false ⟨#[], #[.slice none 0 0], []⟩ 8 (by kernel_rfl) (by kernel_rfl) (by kernel_rfl) (by kernel_rfl)) ?_
  intro W base args ds gs before hval0 hW hcnd _
  have hval : ∀ (j : Nat) t v, Try.f7.params[j]? = some t → args[j]? = some v → Value.okWide Try.prog W .any base t v := hval0
  have hW' := hW
  obtain ⟨p, q, hA0, hV, rfl, hfz, hnd⟩ := hW
  have hA : DataW.TrodAll enc Try.prog W 0 (fun _ => true) true Try.f7.params.toList args.toList ds p := hA0
  rw [Try.params7] at hA hval
  obtain ⟨v0, vs0, d0, ds0, p0, q0, hargs, rfl, rfl, h0, r0⟩ := trodAll_cons hA
  obtain ⟨rfl, rfl, rfl⟩ := trodAll_nil r0
  obtain rfl : args = #[v0] := by cases args; simp_all
  obtain ⟨rfl, rfl⟩ := trodVars_none hV
  obtain ⟨a0, len0, cap0, rfl⟩ := okWide_slice Try.underlying22 (hval 0 22 v0 rfl rfl)
  have k0 := h0
  have lt0 : ∀ x ∈ p0, x.block < W.heap.size := by obtain ⟨m, hm⟩ := k0; exact DataW.trod_lt m _ _ _ hm
  obtain ⟨z0, w0⟩ : ∃ zs, IsRow .u8 W a0 len0 cap0 zs := by
    obtain ⟨fuel, hf⟩ := h0
    rcases open_ints Try.underlying22 Try.underlying5 (by kernel_rfl) hf with ⟨hcs, _⟩ | ⟨x, l, c, zs, hcs, _, hl, hm, hz, _, hcell, hwz⟩
    · simp [Value.cells] at hcs
      obtain ⟨rfl, rfl, rfl⟩ := hcs
      exact ⟨[], .inl ⟨rfl, rfl, rfl, rfl⟩⟩
    · simp [Value.cells] at hcs
      obtain ⟨rfl, rfl, rfl⟩ := hcs
      exact ⟨zs, .inr ⟨_, rfl, hl, hm, by simpa using hz, hcell, hwz⟩⟩
  clear hA0 hval0
  refine (walk a0 len0 cap0 z0 W w0).mono fun e W' ⟨he, bel⟩ => ?_
  subst he
  exact ⟨_, rfl, _, _, _, [], _, [], hW', trodAll_mk1 (shut_bool Try.underlying4 _), (trodAll_cons_mk (Below.trod laidOut (by kernel_rfl) (of_decide_eq_true (by kernel_rfl)) k0 bel lt0) trodAll_mk0), rfl, bel.frame _, fun h => by cases h⟩

theorem over : Rows.fnFewJoinRow.holds Try.pinned (OpenSpec.ofChange Rows.fnFewJoinSpec) :=
  OpenClaim.holds_of_wide 7 Try.f7 rfl rfl rfl rfl rfl rfl rfl ⟨rfl, rfl, rfl, rfl, rfl⟩ rfl rfl rfl rfl rfl (by kernel_rfl) Try.func7 (by kernel_rfl)
    (of_decide_eq_true (by kernel_rfl)) (by unfold Func.isWrapper; first | (rw [if_pos (by decide +kernel)]; kernel_rfl) | (rw [if_neg (by decide +kernel)]; exact ⟨rfl, rfl⟩))
    (fun os started H enc _ => lifted os started H enc)

theorem proved : Rows.FnFewJoinSaid := over
#print axioms proved
end Go.Proofs.Yteopnbjiffncbac.fnFewJoin
