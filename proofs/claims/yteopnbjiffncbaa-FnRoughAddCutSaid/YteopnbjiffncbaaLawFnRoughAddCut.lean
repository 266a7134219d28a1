/-
  The statement of the law FnRoughAddCut: at every input the call returns true and leaves what it was given as it was. The frame is the kit's shell; the walk is ours.
-/
import Derived.Test.YteopnbjiffncbaaAddLaw
import Derived.Test.YteopnbjiffncbaaRows
import Derived.WalkKit
import Derived.ProofKit
import Derived.OpenShut
import Derived.ShutString
import Derived.ChangeOld
import Derived.Below
namespace Go.Proofs.Yteopnbjiffncbaa.fnRoughAddCut
open Go.ChangeShapes Go.WideShapes Go.ChangeAt Go.RowKit
open Go.ChangeMaps (open_string shut_string)
set_option linter.unusedVariables false

theorem own : ownKnob Try.prog.godebug = none := by kernel_rfl
theorem laidOut : laidOutB Try.prog = true := by kernel_rfl

/-- WHAT THE WALK IS TOLD OF A SLICE OF INTEGERS THAT CAME IN: it is nil; or it leads to a row of 'cap' cells, the numbers 'zs' (the first 'len' are its elements, the rest its spare room), each fitting its kind. -/
def IsRow (k : IntKind) (w : World) (a : Option Addr) (len cap : Nat) (zs : List Int) : Prop :=
  (a = none ∧ len = 0 ∧ cap = 0 ∧ zs = []) ∨
  ∃ x, a = some x ∧ len ≤ cap ∧ cap ≤ maxLen ∧ zs.length = cap ∧ (∀ i, i < zs.length → w.cell? (x.add i) = some (.int k (zs.getD i 0))) ∧ ∀ n ∈ zs, (Lit.int k n).wf = true

/-! ### STEP 1: THE WALK: the Go text returns true, AND WRITES NOTHING THAT WAS THERE: 'Below w.heap.size w w'' (Derived/Below.lean: '.refl', '.alloc', '.drew', '.setCell' at a new block, '.trans'). Open each 'IsRow' by 'rcases' AHEAD of 'go_enter'; part every test ahead of the walk. -/
theorem walk (a0 : Option Addr) (len0 cap0 : Nat) (z0 : List Int) (a1 : Option Addr) (len1 cap1 : Nat) (z1 : List Int) (w : World) (w0 : IsRow .u8 w a0 len0 cap0 z0) (w1 : IsRow .u8 w a1 len1 cap1 z1) :
    Calls Try.prog 6 #[.slice a0 len0 cap0, .slice a1 len1 cap1] w fun e w' => e = .returned (.bool true) ∧ Below w.heap.size w w' := by
  obtain ⟨hb, hl⟩ := bts_of w a0 len0 cap0 z0 w0
  rcases hl with hl | hl
  · go_enter Try.func6, Try.ntmps6
    go_wp2
    go_ret
    exact ⟨rfl, Below.refl _ _⟩
  have HB0 := Lib.hid hb
  obtain ⟨hb', hl'⟩ := bts_of w a1 len1 cap1 z1 w1
  rcases hl' with hl' | hl'
  · go_enter Try.func6, Try.ntmps6
    go_wp2
    go_ret
    exact ⟨rfl, Below.refl _ _⟩
  have HB1 := Lib.hid hb'
  clear hb hb' w0 w1
  go_enter Try.func6, Try.ntmps6
  go_wp2_with fail
  refine (drawAdd_at w _ len0 ⟨_, _, rfl⟩ HB0.out).mono ?_
  rintro e w1' ⟨xf, nf, cf, rs, t, n, rfl, hf, t0, t1, n0, n1, hb⟩
  have B_a := Lib.hid hb
  clear hb
  obtain ⟨W1, hW⟩ : ∃ W, W = (w1').alloc (.cells #[.slice xf nf cf] 29) := ⟨_, rfl⟩
  have hA : Below w1'.heap.size w1' W1 := by rw [hW]; exact ((Below.refl _ _).alloc (Nat.le_refl _) _)
  have Cf_1 : W1.cell? ⟨w1'.heap.size, 0, none⟩ = some (.slice xf nf cf) := by rw [hW]; simp [go_sem]
  have If_1 := Lib.hid (hf.below hA (Nat.le_refl _))
  have B1 := Lib.hid (B_a.out.trans (hA.mono B_a.out.size))
  clear hA B_a  hf
  go_wp2_with fail
  rw [← hW]
  clear hW 
  refine (spAdd_end W1 _ rs t n If_1.out).mono ?_
  intro e w2' he
  obtain ⟨xs, ns, cs, rfl, hb, hs⟩ := he.rws
  clear he
  have Cf_a := cell_later hb Cf_1
  have If_a := Lib.hid (If_1.out.below hb (Nat.le_refl _))
  have B_a := Lib.hid (B1.out.trans (hb.mono B1.out.size))
  clear Cf_1 If_1 B1
  clear hb
  have lf := World.block_lt_of_cell? _ _ Cf_a
  obtain ⟨W2, hW⟩ : ∃ W, W = (w2').alloc (.cells #[.slice xs ns cs] 29) := ⟨_, rfl⟩
  have hA : Below w2'.heap.size w2' W2 := by rw [hW]; exact ((Below.refl _ _).alloc (Nat.le_refl _) _)
  have Cf_2 := cell_later hA Cf_a
  have If_2 := Lib.hid (If_a.out.below hA (Nat.le_refl _))
  have Cs_2 : W2.cell? ⟨w2'.heap.size, 0, none⟩ = some (.slice xs ns cs) := by rw [hW]; simp [go_sem]
  have Is_2 := Lib.hid (hs.below hA (Nat.le_refl _))
  have B2 := Lib.hid (B_a.out.trans (hA.mono B_a.out.size))
  clear hA B_a If_a hs
  go_wp2_with fail
  rw [← hW]
  clear hW Cf_a lf
  refine (imAdd_end W2 _ rs t n If_2.out).mono ?_
  intro e w3' he
  obtain ⟨xx, nx, cx, rfl, hb, hx⟩ := he.rws
  clear he
  have Cf_a := cell_later hb Cf_2
  have If_a := Lib.hid (If_2.out.below hb (Nat.le_refl _))
  have Cs_a := cell_later hb Cs_2
  have Is_a := Lib.hid (Is_2.out.below hb (Nat.le_refl _))
  have B_a := Lib.hid (B2.out.trans (hb.mono B2.out.size))
  clear Cf_2 If_2 Cs_2 Is_2 B2
  clear hb
  have lf := World.block_lt_of_cell? _ _ Cf_a
  have ls := World.block_lt_of_cell? _ _ Cs_a
  obtain ⟨W3, hW⟩ : ∃ W, W = (w3').alloc (.cells #[.slice xx nx cx] 29) := ⟨_, rfl⟩
  have hA : Below w3'.heap.size w3' W3 := by rw [hW]; exact ((Below.refl _ _).alloc (Nat.le_refl _) _)
  have Cf_3 := cell_later hA Cf_a
  have If_3 := Lib.hid (If_a.out.below hA (Nat.le_refl _))
  have Cs_3 := cell_later hA Cs_a
  have Is_3 := Lib.hid (Is_a.out.below hA (Nat.le_refl _))
  have Cx_3 : W3.cell? ⟨w3'.heap.size, 0, none⟩ = some (.slice xx nx cx) := by rw [hW]; simp [go_sem]
  have Ix_3 := Lib.hid (hx.below hA (Nat.le_refl _))
  have B3 := Lib.hid (B_a.out.trans (hA.mono B_a.out.size))
  clear hA B_a If_a Is_a hx
  have len : (resV (addB rs t n) (addV rs t n)).length ≤ maxLen ∧ ∀ i, i < (resV (addB rs t n) (addV rs t n)).length → ((resV (addB rs t n) (addV rs t n)).getD i []).length ≤ maxLen := by
    unfold resV
    by_cases hj : addB rs t n = true
    · rw [if_pos hj]
      refine ⟨show 3 ≤ maxLen by unfold maxLen; omega, fun i hi => ?_⟩
      have h8 := (fine_okB (okB_add hj).1 i hi).1.1
      rw [h8]
      unfold maxLen
      omega
    · rw [if_neg hj]
      exact ⟨Nat.zero_le _, fun i hi => absurd hi (Nat.not_lt_zero i)⟩
  have LEN := Lib.hid len
  clear len
  cases hj : addB rs t n with
  | false =>
    rw [hj] at Ix_3 Is_3 LEN
    clear hj
    go_wp2_with fail
    rw [← hW]
    clear hW Cf_a lf Cs_a ls
    refine (lkRough_at W3 _ _ _ _ Ix_3.out Is_3.out LEN.out.1 LEN.out.2).mono ?_
    rintro e W4 ⟨rfl, hb⟩
    rw [decide_eq_true rfl]
    have Cf_4 := cell_later hb Cf_3
    have If_4 := Lib.hid (If_3.out.below hb (Nat.le_refl _))
    have Cs_4 := cell_later hb Cs_3
    have Is_4 := Lib.hid (Is_3.out.below hb (Nat.le_refl _))
    have Cx_4 := cell_later hb Cx_3
    have Ix_4 := Lib.hid (Ix_3.out.below hb (Nat.le_refl _))
    have B4 := Lib.hid (B3.out.trans (hb.mono B3.out.size))
    clear hb Cf_3 If_3 Cs_3 Is_3 Cx_3 Ix_3 B3
    go_wp2_with fail
    refine (lkRough_at W4 _ _ _ _ Ix_4.out Is_4.out LEN.out.1 LEN.out.2).mono ?_
    rintro e W5 ⟨rfl, hb⟩
    rw [decide_eq_true rfl]
    have Cf_5 := cell_later hb Cf_4
    have If_5 := Lib.hid (If_4.out.below hb (Nat.le_refl _))
    have Cs_5 := cell_later hb Cs_4
    have Is_5 := Lib.hid (Is_4.out.below hb (Nat.le_refl _))
    have Cx_5 := cell_later hb Cx_4
    have Ix_5 := Lib.hid (Ix_4.out.below hb (Nat.le_refl _))
    have B5 := Lib.hid (B4.out.trans (hb.mono B4.out.size))
    clear hb Cf_4 If_4 Cs_4 Is_4 Cx_4 Ix_4 B4
    go_wp2
    go_ret
    exact ⟨rfl, B5.out⟩
  | true =>
    rw [hj] at Ix_3 Is_3 LEN
    rw [show resV true (addV rs t n) = addV rs t n from rfl] at Ix_3 Is_3 LEN
    have HJ := Lib.hid hj
    have n00 : 0 ≤ n := ((addB_iff rs t n).1 hj).2.2.2.1
    clear hj
    go_wp2_with fail
    rw [← hW]
    clear hW Cf_a lf Cs_a ls
    refine (lkRough_at W3 _ _ _ _ Ix_3.out Is_3.out LEN.out.1 LEN.out.2).mono ?_
    rintro e W4 ⟨rfl, hb⟩
    rw [decide_eq_true rfl]
    have Cf_4 := cell_later hb Cf_3
    have If_4 := Lib.hid (If_3.out.below hb (Nat.le_refl _))
    have Cs_4 := cell_later hb Cs_3
    have Is_4 := Lib.hid (Is_3.out.below hb (Nat.le_refl _))
    have Cx_4 := cell_later hb Cx_3
    have Ix_4 := Lib.hid (Ix_3.out.below hb (Nat.le_refl _))
    have B4 := Lib.hid (B3.out.trans (hb.mono B3.out.size))
    clear hb Cf_3 If_3 Cs_3 Is_3 Cx_3 Ix_3 B3
    have na : ¬ n + 1 = 0 := by omega
    obtain ⟨a, ha⟩ : ∃ a, a = (len1 : Int) % (n + 1) := ⟨_, rfl⟩
    have ab := mod_in (len1 : Int) (n + 1) (by omega)
    rw [← ha] at ab
    have a0 := ab.1
    have a1 : a ≤ n := by omega
    have AC := Lib.hid (add_cut HJ.out a0 a1)
    have HA := Lib.hid ha
    clear ab ha
    go_wp2_with fail
    rw [← HA.out]
    have KY := imAdd_end W4 _ rs t a If_4.out
    rw [AC.out.1] at KY
    refine (KY).mono ?_
    intro e w5' he
    obtain ⟨xy, ny, cy, rfl, hb, hy⟩ := he.rws
    clear he
    have Cf_a := cell_later hb Cf_4
    have If_a := Lib.hid (If_4.out.below hb (Nat.le_refl _))
    have Cs_a := cell_later hb Cs_4
    have Is_a := Lib.hid (Is_4.out.below hb (Nat.le_refl _))
    have Cx_a := cell_later hb Cx_4
    have Ix_a := Lib.hid (Ix_4.out.below hb (Nat.le_refl _))
    have B_a := Lib.hid (B4.out.trans (hb.mono B4.out.size))
    clear Cf_4 If_4 Cs_4 Is_4 Cx_4 Ix_4 B4
    clear hb
    have lf := World.block_lt_of_cell? _ _ Cf_a
    have ls := World.block_lt_of_cell? _ _ Cs_a
    have lx := World.block_lt_of_cell? _ _ Cx_a
    obtain ⟨W5, hW⟩ : ∃ W, W = (w5').alloc (.cells #[.slice xy ny cy] 29) := ⟨_, rfl⟩
    have hA : Below w5'.heap.size w5' W5 := by rw [hW]; exact ((Below.refl _ _).alloc (Nat.le_refl _) _)
    have Cf_5 := cell_later hA Cf_a
    have If_5 := Lib.hid (If_a.out.below hA (Nat.le_refl _))
    have Cs_5 := cell_later hA Cs_a
    have Is_5 := Lib.hid (Is_a.out.below hA (Nat.le_refl _))
    have Cx_5 := cell_later hA Cx_a
    have Ix_5 := Lib.hid (Ix_a.out.below hA (Nat.le_refl _))
    have Cy_5 : W5.cell? ⟨w5'.heap.size, 0, none⟩ = some (.slice xy ny cy) := by rw [hW]; simp [go_sem]
    have Iy_5 := Lib.hid (hy.below hA (Nat.le_refl _))
    have B5 := Lib.hid (B_a.out.trans (hA.mono B_a.out.size))
    clear hA B_a If_a Is_a Ix_a hy
    clear KY
    rw [show resV true (addV rs t a) = addV rs t a from rfl] at Iy_5
    go_wp2_with fail
    rw [← hW]
    clear hW Cf_a lf Cs_a ls Cx_a lx
    have KZ := imAdd_end W5 _ (addV rs t a) t (n - a) Iy_5.out
    rw [AC.out.2.1, AC.out.2.2] at KZ
    refine (KZ).mono ?_
    intro e w6' he
    obtain ⟨xz, nz, cz, rfl, hb, hz⟩ := he.rws
    clear he
    have Cf_a := cell_later hb Cf_5
    have If_a := Lib.hid (If_5.out.below hb (Nat.le_refl _))
    have Cs_a := cell_later hb Cs_5
    have Is_a := Lib.hid (Is_5.out.below hb (Nat.le_refl _))
    have Cx_a := cell_later hb Cx_5
    have Ix_a := Lib.hid (Ix_5.out.below hb (Nat.le_refl _))
    have Cy_a := cell_later hb Cy_5
    have Iy_a := Lib.hid (Iy_5.out.below hb (Nat.le_refl _))
    have B_a := Lib.hid (B5.out.trans (hb.mono B5.out.size))
    clear Cf_5 If_5 Cs_5 Is_5 Cx_5 Ix_5 Cy_5 Iy_5 B5
    clear hb
    have lf := World.block_lt_of_cell? _ _ Cf_a
    have ls := World.block_lt_of_cell? _ _ Cs_a
    have lx := World.block_lt_of_cell? _ _ Cx_a
    have ly := World.block_lt_of_cell? _ _ Cy_a
    obtain ⟨W6, hW⟩ : ∃ W, W = (w6').alloc (.cells #[.slice xz nz cz] 29) := ⟨_, rfl⟩
    have hA : Below w6'.heap.size w6' W6 := by rw [hW]; exact ((Below.refl _ _).alloc (Nat.le_refl _) _)
    have Cf_6 := cell_later hA Cf_a
    have If_6 := Lib.hid (If_a.out.below hA (Nat.le_refl _))
    have Cs_6 := cell_later hA Cs_a
    have Is_6 := Lib.hid (Is_a.out.below hA (Nat.le_refl _))
    have Cx_6 := cell_later hA Cx_a
    have Ix_6 := Lib.hid (Ix_a.out.below hA (Nat.le_refl _))
    have Cy_6 := cell_later hA Cy_a
    have Iy_6 := Lib.hid (Iy_a.out.below hA (Nat.le_refl _))
    have Cz_6 : W6.cell? ⟨w6'.heap.size, 0, none⟩ = some (.slice xz nz cz) := by rw [hW]; simp [go_sem]
    have Iz_6 := Lib.hid (hz.below hA (Nat.le_refl _))
    have B6 := Lib.hid (B_a.out.trans (hA.mono B_a.out.size))
    clear hA B_a If_a Is_a Ix_a Iy_a hz
    clear KZ
    rw [show resV true (addV rs t n) = addV rs t n from rfl] at Iz_6
    go_wp2_with fail
    rw [← hW]
    clear hW Cf_a lf Cs_a ls Cx_a lx Cy_a ly
    refine (lkRough_at W6 _ _ _ _ Iz_6.out Ix_6.out LEN.out.1 LEN.out.2).mono ?_
    rintro e W7 ⟨rfl, hb⟩
    rw [decide_eq_true rfl]
    have Cf_7 := cell_later hb Cf_6
    have If_7 := Lib.hid (If_6.out.below hb (Nat.le_refl _))
    have Cs_7 := cell_later hb Cs_6
    have Is_7 := Lib.hid (Is_6.out.below hb (Nat.le_refl _))
    have Cx_7 := cell_later hb Cx_6
    have Ix_7 := Lib.hid (Ix_6.out.below hb (Nat.le_refl _))
    have Cy_7 := cell_later hb Cy_6
    have Iy_7 := Lib.hid (Iy_6.out.below hb (Nat.le_refl _))
    have Cz_7 := cell_later hb Cz_6
    have Iz_7 := Lib.hid (Iz_6.out.below hb (Nat.le_refl _))
    have B7 := Lib.hid (B6.out.trans (hb.mono B6.out.size))
    clear hb Cf_6 If_6 Cs_6 Is_6 Cx_6 Ix_6 Cy_6 Iy_6 Cz_6 Iz_6 B6
    go_wp2
    go_ret
    exact ⟨by simp, B7.out⟩

/-! ### THE ROW's STEP: WRITTEN OUT: LEAVE IT -/
set_option maxRecDepth 100000 in
theorem lifted (os : Os) (started : os.Started) (H : Type) (enc : TypeId × Value → H) :
    ReturnsInHanded {} Try.checked os 6 .any (Rows.fnRoughAddCutSpec.pre6 enc Try.prog Try.f6 Rows.fnRoughAddCutRow.domain false) (Rows.fnRoughAddCutSpec.post enc Try.prog Try.f6 false true false false) := by
  refine returnsInHanded_of_change (C := Try.checked) own started (by kernel_rfl) Try.func6
    (ChangeSpec.witness6 (enc := enc) (C := Try.checked) false ⟨#[], #[.slice none 0 0, .slice none 0 0], []⟩ 8 (by kernel_rfl) (by kernel_rfl) (by kernel_rfl) (by kernel_rfl)) ?_
  intro W base args ds gs before hval0 hW hcnd _
  have hval : ∀ (j : Nat) t v, Try.f6.params[j]? = some t → args[j]? = some v → Value.okWide Try.prog W .any base t v := hval0
  have hW' := hW
  obtain ⟨p, q, hA0, hV, rfl, hfz, hnd⟩ := hW
  have hA : DataW.TrodAll enc Try.prog W 0 (fun _ => true) true Try.f6.params.toList args.toList ds p := hA0
  rw [Try.params6] at hA hval
  obtain ⟨v0, vs0, d0, ds0, p0, q0, hargs, rfl, rfl, h0, r0⟩ := trodAll_cons hA
  obtain ⟨v1, vs1, d1, ds1, p1, q1, rfl, rfl, rfl, h1, r1⟩ := trodAll_cons r0
  obtain ⟨rfl, rfl, rfl⟩ := trodAll_nil r1
  obtain rfl : args = #[v0, v1] := by cases args; simp_all
  obtain ⟨rfl, rfl⟩ := trodVars_none hV
  obtain ⟨a0, len0, cap0, rfl⟩ := okWide_slice Try.underlying22 (hval 0 22 v0 rfl rfl)
  have k0 := h0
  have lt0 : ∀ x ∈ p0, x.block < W.heap.size := by obtain ⟨m, hm⟩ := k0; exact DataW.trod_lt m _ _ _ hm
  obtain ⟨z0, w0⟩ : ∃ zs, IsRow .u8 W a0 len0 cap0 zs := by
    obtain ⟨fuel, hf⟩ := h0
    rcases open_ints Try.underlying22 Try.underlying5 (by kernel_rfl) hf with ⟨hcs, _⟩ | ⟨x, l, c, zs, hcs, _, hl, hm, hz, _, hcell, hwz⟩
    · simp [Value.cells] at hcs
      obtain ⟨rfl, rfl, rfl⟩ := hcs
      exact ⟨[], .inl ⟨rfl, rfl, rfl, rfl⟩⟩
    · simp [Value.cells] at hcs
      obtain ⟨rfl, rfl, rfl⟩ := hcs
      exact ⟨zs, .inr ⟨_, rfl, hl, hm, by simpa using hz, hcell, hwz⟩⟩
  obtain ⟨a1, len1, cap1, rfl⟩ := okWide_slice Try.underlying22 (hval 1 22 v1 rfl rfl)
  have k1 := h1
  have lt1 : ∀ x ∈ p1, x.block < W.heap.size := by obtain ⟨m, hm⟩ := k1; exact DataW.trod_lt m _ _ _ hm
  obtain ⟨z1, w1⟩ : ∃ zs, IsRow .u8 W a1 len1 cap1 zs := by
    obtain ⟨fuel, hf⟩ := h1
    rcases open_ints Try.underlying22 Try.underlying5 (by kernel_rfl) hf with ⟨hcs, _⟩ | ⟨x, l, c, zs, hcs, _, hl, hm, hz, _, hcell, hwz⟩
    · simp [Value.cells] at hcs
      obtain ⟨rfl, rfl, rfl⟩ := hcs
      exact ⟨[], .inl ⟨rfl, rfl, rfl, rfl⟩⟩
    · simp [Value.cells] at hcs
      obtain ⟨rfl, rfl, rfl⟩ := hcs
      exact ⟨zs, .inr ⟨_, rfl, hl, hm, by simpa using hz, hcell, hwz⟩⟩
  clear hA0 hval0
  refine (walk a0 len0 cap0 z0 a1 len1 cap1 z1 W w0 w1).mono fun e W' ⟨he, bel⟩ => ?_
  subst he
  exact ⟨_, rfl, _, _, _, [], _, [], hW', trodAll_mk1 (shut_bool Try.underlying4 _), (trodAll_cons_mk (Below.trod laidOut (by kernel_rfl) (of_decide_eq_true (by kernel_rfl)) k0 bel lt0) (trodAll_cons_mk (Below.trod laidOut (by kernel_rfl) (of_decide_eq_true (by kernel_rfl)) k1 bel lt1) trodAll_mk0)), rfl, bel.frame _, fun h => by cases h⟩

theorem over : Rows.fnRoughAddCutRow.holds Try.pinned (OpenSpec.ofChange Rows.fnRoughAddCutSpec) :=
  OpenClaim.holds_of_wide 6 Try.f6 rfl rfl rfl rfl rfl rfl rfl ⟨rfl, rfl, rfl, rfl, rfl⟩ rfl rfl rfl rfl rfl (by kernel_rfl) Try.func6 (by kernel_rfl)
    (of_decide_eq_true (by kernel_rfl)) (by unfold Func.isWrapper; first | (rw [if_pos (by decide +kernel)]; kernel_rfl) | (rw [if_neg (by decide +kernel)]; exact ⟨rfl, rfl⟩))
    (fun os started H enc _ => lifted os started H enc)

theorem proved : Rows.FnRoughAddCutSaid := over
#print axioms proved
end Go.Proofs.Yteopnbjiffncbaa.fnRoughAddCut
