/-
  The statement of the law FnFewAdd: at every input the call returns true and leaves what it was given as it was. The frame is the kit's shell; the walk is ours.
-/
import Derived.Test.YteopnbjiffncbacFLaw
import Derived.Test.YteopnbjiffncbacRows
import Derived.WalkKit
import Derived.ProofKit
import Derived.OpenShut
import Derived.ShutString
import Derived.ChangeOld
import Derived.Below
namespace Go.Proofs.Yteopnbjiffncbac.fnFewAdd
open Go.ChangeShapes Go.WideShapes Go.ChangeAt Go.RowKit
open Go.ChangeMaps (open_string shut_string)
set_option linter.unusedVariables false

theorem own : ownKnob Try.prog.godebug = none := by kernel_rfl
theorem laidOut : laidOutB Try.prog = true := by kernel_rfl

/-- WHAT THE WALK IS TOLD OF A SLICE OF INTEGERS THAT CAME IN: it is nil; or it leads to a row of 'cap' cells, the numbers 'zs' (the first 'len' are its elements, the rest its spare room), each fitting its kind. -/
def IsRow (k : IntKind) (w : World) (a : Option Addr) (len cap : Nat) (zs : List Int) : Prop :=
  (a = none ∧ len = 0 ∧ cap = 0 ∧ zs = []) ∨
  ∃ x, a = some x ∧ len ≤ cap ∧ cap ≤ maxLen ∧ zs.length = cap ∧ (∀ i, i < zs.length → w.cell? (x.add i) = some (.int k (zs.getD i 0))) ∧ ∀ n ∈ zs, (Lit.int k n).wf = true

/-! ### STEP 1: THE WALK: the Go text returns true, AND WRITES NOTHING THAT WAS THERE: 'Below w.heap.size w w'' (Derived/Below.lean: '.refl', '.alloc', '.drew', '.setCell' at a new block, '.trans'). Open each 'IsRow' by 'rcases' AHEAD of 'go_enter'; part every test ahead of the walk. -/
theorem walk (a0 : Option Addr) (len0 cap0 : Nat) (z0 : List Int) (w : World) (w0 : IsRow .u8 w a0 len0 cap0 z0) :
    Calls Try.prog 5 #[.slice a0 len0 cap0] w fun e w' => e = .returned (.bool true) ∧ Below w.heap.size w w' := by
  obtain ⟨hb, hl⟩ := bts_of w a0 len0 cap0 z0 w0
  rcases hl with hl | hl
  · go_enter Try.func5, Try.ntmps5
    go_wp2
    go_ret
    exact ⟨rfl, Below.refl _ _⟩
  have HB0 := Lib.hid hb
  clear hb w0
  go_enter Try.func5, Try.ntmps5
  go_wp2_with fail
  refine (drawFAdd_at w _ len0 ⟨_, _, rfl⟩ HB0.out).mono ?_
  rintro e w1' ⟨xf, cf, zs, t, rfl, hz, hl7, t0, t1, hb⟩
  have hf := hz.rd
  obtain ⟨nf, hn⟩ : ∃ n, n = zs.length := ⟨_, rfl⟩
  rw [← hn] at hf hl7 ⊢
  have Nf := Lib.hid hn
  have B_a := Lib.hid hb
  clear hz hb hn t0 t1
  obtain ⟨W1, hW⟩ : ∃ W, W = (w1').alloc (.cells #[.slice xf nf cf] 28) := ⟨_, rfl⟩
  have hA : Below w1'.heap.size w1' W1 := by rw [hW]; exact ((Below.refl _ _).alloc (Nat.le_refl _) _)
  have Cf_1 : W1.cell? ⟨w1'.heap.size, 0, none⟩ = some (.slice xf nf cf) := by rw [hW]; simp [go_sem]
  have If_1 := Lib.hid (hf.below hA (Nat.le_refl _))
  have B1 := Lib.hid (B_a.out.trans (hA.mono B_a.out.size))
  clear hA B_a  hf
  go_wp2_with fail
  rw [← hW]
  clear hW 
  refine (spFewAdd_at W1 _ zs t If_1.out).mono ?_
  rintro e w2' ⟨v, rfl, ho, hb⟩
  obtain ⟨xs, cs, rfl⟩ := ho.form
  obtain ⟨ns, hn⟩ : ∃ n, n = (addF zs t).length := ⟨_, rfl⟩
  have hs := ho.rd
  rw [← hn] at hs ⊢
  have Ns := Lib.hid hn
  have Cf_a := cell_later hb Cf_1
  have If_a := Lib.hid (If_1.out.below hb (Nat.le_refl _))
  have B_a := Lib.hid (B1.out.trans (hb.mono B1.out.size))
  clear Cf_1 If_1 B1
  clear ho hb hn
  have lf := World.block_lt_of_cell? _ _ Cf_a
  obtain ⟨W2, hW⟩ : ∃ W, W = (w2').alloc (.cells #[.slice xs ns cs] 28) := ⟨_, rfl⟩
  have hA : Below w2'.heap.size w2' W2 := by rw [hW]; exact ((Below.refl _ _).alloc (Nat.le_refl _) _)
  have Cf_2 := cell_later hA Cf_a
  have If_2 := Lib.hid (If_a.out.below hA (Nat.le_refl _))
  have Cs_2 : W2.cell? ⟨w2'.heap.size, 0, none⟩ = some (.slice xs ns cs) := by rw [hW]; simp [go_sem]
  have Is_2 := Lib.hid (hs.below hA (Nat.le_refl _))
  have B2 := Lib.hid (B_a.out.trans (hA.mono B_a.out.size))
  clear hA B_a If_a hs
  go_wp2_with fail
  rw [← hW]
  clear hW Cf_a lf
  refine (imFewAdd_at W2 _ zs t If_2.out).mono ?_
  rintro e w3' ⟨v, rfl, ho, hb⟩
  obtain ⟨xx, cx, rfl⟩ := ho.form
  obtain ⟨nx, hn⟩ : ∃ n, n = (addF zs t).length := ⟨_, rfl⟩
  have hx := ho.rd
  rw [← hn] at hx ⊢
  have Nx := Lib.hid hn
  have Cf_a := cell_later hb Cf_2
  have If_a := Lib.hid (If_2.out.below hb (Nat.le_refl _))
  have Cs_a := cell_later hb Cs_2
  have Is_a := Lib.hid (Is_2.out.below hb (Nat.le_refl _))
  have B_a := Lib.hid (B2.out.trans (hb.mono B2.out.size))
  clear Cf_2 If_2 Cs_2 Is_2 B2
  clear ho hb hn
  have lf := World.block_lt_of_cell? _ _ Cf_a
  have ls := World.block_lt_of_cell? _ _ Cs_a
  obtain ⟨W3, hW⟩ : ∃ W, W = (w3').alloc (.cells #[.slice xx nx cx] 28) := ⟨_, rfl⟩
  have hA : Below w3'.heap.size w3' W3 := by rw [hW]; exact ((Below.refl _ _).alloc (Nat.le_refl _) _)
  have Cf_3 := cell_later hA Cf_a
  have If_3 := Lib.hid (If_a.out.below hA (Nat.le_refl _))
  have Cs_3 := cell_later hA Cs_a
  have Is_3 := Lib.hid (Is_a.out.below hA (Nat.le_refl _))
  have Cx_3 : W3.cell? ⟨w3'.heap.size, 0, none⟩ = some (.slice xx nx cx) := by rw [hW]; simp [go_sem]
  have Ix_3 := Lib.hid (hx.below hA (Nat.le_refl _))
  have B3 := Lib.hid (B_a.out.trans (hA.mono B_a.out.size))
  clear hA B_a If_a Is_a hx
  cases hok : addOkF zs t with
  | false =>
    clear hok
    go_wp2_with fail
    rw [← hW]
    clear hW Cf_a lf Cs_a ls
    refine (lkIntsB_at W3 _ _ (addF zs t) (addF zs t) Ix_3.out Is_3.out (by have := addF_len zs t; omega)).mono ?_
    rintro e W4 ⟨rfl, hb⟩
    rw [decide_eq_true rfl]
    have Cf_4 := cell_later hb Cf_3
    have If_4 := Lib.hid (If_3.out.below hb (Nat.le_refl _))
    have Cs_4 := cell_later hb Cs_3
    have Is_4 := Lib.hid (Is_3.out.below hb (Nat.le_refl _))
    have Cx_4 := cell_later hb Cx_3
    have Ix_4 := Lib.hid (Ix_3.out.below hb (Nat.le_refl _))
    have B4 := Lib.hid (B3.out.trans (hb.mono B3.out.size))
    clear hb Cf_3 If_3 Cs_3 Is_3 Cx_3 Ix_3 B3
    go_wp2_with fail
    refine (lkIntsB_at W4 _ _ (addF zs t) (addF zs t) Ix_4.out Is_4.out (by have := addF_len zs t; omega)).mono ?_
    rintro e W5 ⟨rfl, hb⟩
    rw [decide_eq_true rfl]
    have Cf_5 := cell_later hb Cf_4
    have If_5 := Lib.hid (If_4.out.below hb (Nat.le_refl _))
    have Cs_5 := cell_later hb Cs_4
    have Is_5 := Lib.hid (Is_4.out.below hb (Nat.le_refl _))
    have Cx_5 := cell_later hb Cx_4
    have Ix_5 := Lib.hid (Ix_4.out.below hb (Nat.le_refl _))
    have B5 := Lib.hid (B4.out.trans (hb.mono B4.out.size))
    clear hb Cf_4 If_4 Cs_4 Is_4 Cx_4 Ix_4 B4
    go_wp2
    go_ret
    exact ⟨rfl, B5.out⟩
  | true =>
    obtain ⟨f1, ok1, e1, l1, l2⟩ := add_again hok
    rw [← Nf.out] at l1 l2
    rw [← Nx.out] at l1 l2
    have g1 : (nf : Int) ≤ (nx : Int) := by omega
    have g2 : (nx : Int) ≤ (nf : Int) + 1 := by omega
    have F1 := Lib.hid f1
    have O1 := Lib.hid ok1
    have E1 := Lib.hid e1
    clear hok f1 ok1 e1 l1 l2
    go_wp2_with fail
    rw [← hW]
    clear hW Cf_a lf Cs_a ls
    refine (lkIntsB_at W3 _ _ (addF zs t) (addF zs t) Ix_3.out Is_3.out (by have := addF_len zs t; omega)).mono ?_
    rintro e W4 ⟨rfl, hb⟩
    rw [decide_eq_true rfl]
    have Cf_4 := cell_later hb Cf_3
    have If_4 := Lib.hid (If_3.out.below hb (Nat.le_refl _))
    have Cs_4 := cell_later hb Cs_3
    have Is_4 := Lib.hid (Is_3.out.below hb (Nat.le_refl _))
    have Cx_4 := cell_later hb Cx_3
    have Ix_4 := Lib.hid (Ix_3.out.below hb (Nat.le_refl _))
    have B4 := Lib.hid (B3.out.trans (hb.mono B3.out.size))
    clear hb Cf_3 If_3 Cs_3 Is_3 Cx_3 Ix_3 B3
    go_wp2_with fail
    have KY := imFewAdd_at W4 _ (addF zs t) t Ix_4.out
    rw [O1.out, E1.out] at KY
    refine (KY).mono ?_
    rintro e w5' ⟨v, rfl, ho, hb⟩
    obtain ⟨xy, cy, rfl⟩ := ho.form
    obtain ⟨ny, hn⟩ : ∃ n, n = (addF zs t).length := ⟨_, rfl⟩
    have hy := ho.rd
    rw [← hn] at hy ⊢
    have Ny := Lib.hid hn
    have Cf_a := cell_later hb Cf_4
    have If_a := Lib.hid (If_4.out.below hb (Nat.le_refl _))
    have Cs_a := cell_later hb Cs_4
    have Is_a := Lib.hid (Is_4.out.below hb (Nat.le_refl _))
    have Cx_a := cell_later hb Cx_4
    have Ix_a := Lib.hid (Ix_4.out.below hb (Nat.le_refl _))
    have B_a := Lib.hid (B4.out.trans (hb.mono B4.out.size))
    clear Cf_4 If_4 Cs_4 Is_4 Cx_4 Ix_4 B4
    clear ho hb hn
    have lf := World.block_lt_of_cell? _ _ Cf_a
    have ls := World.block_lt_of_cell? _ _ Cs_a
    have lx := World.block_lt_of_cell? _ _ Cx_a
    obtain ⟨W5, hW⟩ : ∃ W, W = (w5').alloc (.cells #[.slice xy ny cy] 28) := ⟨_, rfl⟩
    have hA : Below w5'.heap.size w5' W5 := by rw [hW]; exact ((Below.refl _ _).alloc (Nat.le_refl _) _)
    have Cf_5 := cell_later hA Cf_a
    have If_5 := Lib.hid (If_a.out.below hA (Nat.le_refl _))
    have Cs_5 := cell_later hA Cs_a
    have Is_5 := Lib.hid (Is_a.out.below hA (Nat.le_refl _))
    have Cx_5 := cell_later hA Cx_a
    have Ix_5 := Lib.hid (Ix_a.out.below hA (Nat.le_refl _))
    have Cy_5 : W5.cell? ⟨w5'.heap.size, 0, none⟩ = some (.slice xy ny cy) := by rw [hW]; simp [go_sem]
    have Iy_5 := Lib.hid (hy.below hA (Nat.le_refl _))
    have B5 := Lib.hid (B_a.out.trans (hA.mono B_a.out.size))
    clear hA B_a If_a Is_a Ix_a hy
    clear KY
    go_wp2_with fail
    rw [← hW]
    clear hW Cf_a lf Cs_a ls Cx_a lx
    have KO := imFewOk_at W5 _ (addF zs t) Ix_5.out
    rw [F1.out] at KO
    refine (KO).mono ?_
    rintro e W6 ⟨rfl, hb⟩
    have Cf_6 := cell_later hb Cf_5
    have If_6 := Lib.hid (If_5.out.below hb (Nat.le_refl _))
    have Cs_6 := cell_later hb Cs_5
    have Is_6 := Lib.hid (Is_5.out.below hb (Nat.le_refl _))
    have Cx_6 := cell_later hb Cx_5
    have Ix_6 := Lib.hid (Ix_5.out.below hb (Nat.le_refl _))
    have Cy_6 := cell_later hb Cy_5
    have Iy_6 := Lib.hid (Iy_5.out.below hb (Nat.le_refl _))
    have B6 := Lib.hid (B5.out.trans (hb.mono B5.out.size))
    clear hb Cf_5 If_5 Cs_5 Is_5 Cx_5 Ix_5 Cy_5 Iy_5 B5
    clear KO
    go_wp2_with fail
    refine (lkIntsB_at W6 _ _ (addF zs t) (addF zs t) Iy_6.out Ix_6.out (by have := addF_len zs t; omega)).mono ?_
    rintro e W7 ⟨rfl, hb⟩
    rw [decide_eq_true rfl]
    have Cf_7 := cell_later hb Cf_6
    have If_7 := Lib.hid (If_6.out.below hb (Nat.le_refl _))
    have Cs_7 := cell_later hb Cs_6
    have Is_7 := Lib.hid (Is_6.out.below hb (Nat.le_refl _))
    have Cx_7 := cell_later hb Cx_6
    have Ix_7 := Lib.hid (Ix_6.out.below hb (Nat.le_refl _))
    have Cy_7 := cell_later hb Cy_6
    have Iy_7 := Lib.hid (Iy_6.out.below hb (Nat.le_refl _))
    have B7 := Lib.hid (B6.out.trans (hb.mono B6.out.size))
    clear hb Cf_6 If_6 Cs_6 Is_6 Cx_6 Ix_6 Cy_6 Iy_6 B6
    go_wp2
    go_ret
    exact ⟨by simp, B7.out⟩

/-! ### THE ROW's STEP: WRITTEN OUT: LEAVE IT -/
set_option maxRecDepth 100000 in
theorem lifted (os : Os) (started : os.Started) (H : Type) (enc : TypeId × Value → H) :
    ReturnsInHanded {} Try.checked os 5 .any (Rows.fnFewAddSpec.pre6 enc Try.prog Try.f5 Rows.fnFewAddRow.domain false) (Rows.fnFewAddSpec.post enc Try.prog Try.f5 false true false false) := by
  refine returnsInHanded_of_change (C := Try.checked) own started (by kernel_rfl) Try.func5
    (ChangeSpec.witness6 (enc := enc) (C := Try.checked) false ⟨#[], #[.slice none 0 0], []⟩ 8 (by kernel_rfl) (by kernel_rfl) (by kernel_rfl) (by kernel_rfl)) ?_
  intro W base args ds gs before hval0 hW hcnd _
  have hval : ∀ (j : Nat) t v, Try.f5.params[j]? = some t → args[j]? = some v → Value.okWide Try.prog W .any base t v := hval0
  have hW' := hW
  obtain ⟨p, q, hA0, hV, rfl, hfz, hnd⟩ := hW
  have hA : DataW.TrodAll enc Try.prog W 0 (fun _ => true) true Try.f5.params.toList args.toList ds p := hA0
  rw [Try.params5] at hA hval
  obtain ⟨v0, vs0, d0, ds0, p0, q0, hargs, rfl, rfl, h0, r0⟩ := trodAll_cons hA
  obtain ⟨rfl, rfl, rfl⟩ := trodAll_nil r0
  obtain rfl : args = #[v0] := by cases args; simp_all
  obtain ⟨rfl, rfl⟩ := trodVars_none hV
  obtain ⟨a0, len0, cap0, rfl⟩ := okWide_slice Try.underlying22 (hval 0 22 v0 rfl rfl)
  have k0 := h0
  have lt0 : ∀ x ∈ p0, x.block < W.heap.size := by obtain ⟨m, hm⟩ := k0; exact DataW.trod_lt m _ _ _ hm
  obtain ⟨z0, w0⟩ : ∃ zs, IsRow .u8 W a0 len0 cap0 zs := by
    obtain ⟨fuel, hf⟩ := h0
    rcases open_ints Try.underlying22 Try.underlying5 (by kernel_rfl) hf with ⟨hcs, _⟩ | ⟨x, l, c, zs, hcs, _, hl, hm, hz, _, hcell, hwz⟩
    · simp [Value.cells] at hcs
      obtain ⟨rfl, rfl, rfl⟩ := hcs
      exact ⟨[], .inl ⟨rfl, rfl, rfl, rfl⟩⟩
    · simp [Value.cells] at hcs
      obtain ⟨rfl, rfl, rfl⟩ := hcs
      exact ⟨zs, .inr ⟨_, rfl, hl, hm, by simpa using hz, hcell, hwz⟩⟩
  clear hA0 hval0
  refine (walk a0 len0 cap0 z0 W w0).mono fun e W' ⟨he, bel⟩ => ?_
  subst he
  exact ⟨_, rfl, _, _, _, [], _, [], hW', trodAll_mk1 (shut_bool Try.underlying4 _), (trodAll_cons_mk (Below.trod laidOut (by kernel_rfl) (of_decide_eq_true (by kernel_rfl)) k0 bel lt0) trodAll_mk0), rfl, bel.frame _, fun h => by cases h⟩

theorem over : Rows.fnFewAddRow.holds Try.pinned (OpenSpec.ofChange Rows.fnFewAddSpec) :=
  OpenClaim.holds_of_wide 5 Try.f5 rfl rfl rfl rfl rfl rfl rfl ⟨rfl, rfl, rfl, rfl, rfl⟩ rfl rfl rfl rfl rfl (by kernel_rfl) Try.func5 (by kernel_rfl)
    (of_decide_eq_true (by kernel_rfl)) (by unfold Func.isWrapper; first | (rw [if_pos (by decide +kernel)]; kernel_rfl) | (rw [if_neg (by decide +kernel)]; exact ⟨rfl, rfl⟩))
    (fun os started H enc _ => lifted os started H enc)

theorem proved : Rows.FnFewAddSaid := over
#print axioms proved
end Go.Proofs.Yteopnbjiffncbac.fnFewAdd
