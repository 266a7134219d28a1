/-
  The statement of the law FnRoughJoin: at every input the call returns true and leaves what it was given as it was. The frame is the kit's shell; the walk is ours.
-/
import Derived.Test.YteopnbjiffncbaaJoinLaw
import Derived.Test.YteopnbjiffncbaaRows
import Derived.WalkKit
import Derived.ProofKit
import Derived.OpenShut
import Derived.ShutString
import Derived.ChangeOld
import Derived.Below
namespace Go.Proofs.Yteopnbjiffncbaa.fnRoughJoin
open Go.ChangeShapes Go.WideShapes Go.ChangeAt Go.RowKit
open Go.ChangeMaps (open_string shut_string)
open Go.Sort (grow)
set_option linter.unusedVariables false

theorem own : ownKnob Try.prog.godebug = none := by kernel_rfl
theorem laidOut : laidOutB Try.prog = true := by kernel_rfl

/-- WHAT THE WALK IS TOLD OF A SLICE OF INTEGERS THAT CAME IN: it is nil; or it leads to a row of 'cap' cells, the numbers 'zs' (the first 'len' are its elements, the rest its spare room), each fitting its kind. -/
def IsRow (k : IntKind) (w : World) (a : Option Addr) (len cap : Nat) (zs : List Int) : Prop :=
  (a = none ∧ len = 0 ∧ cap = 0 ∧ zs = []) ∨
  ∃ x, a = some x ∧ len ≤ cap ∧ cap ≤ maxLen ∧ zs.length = cap ∧ (∀ i, i < zs.length → w.cell? (x.add i) = some (.int k (zs.getD i 0))) ∧ ∀ n ∈ zs, (Lit.int k n).wf = true

/-! ### STEP 1: THE WALK: the Go text returns true, AND WRITES NOTHING THAT WAS THERE: 'Below w.heap.size w w'' (Derived/Below.lean: '.refl', '.alloc', '.drew', '.setCell' at a new block, '.trans'). Open each 'IsRow' by 'rcases' AHEAD of 'go_enter'; part every test ahead of the walk. -/
set_option maxHeartbeats 8000000 in
theorem walk (a0 : Option Addr) (len0 cap0 : Nat) (z0 : List Int) (w : World) (w0 : IsRow .u8 w a0 len0 cap0 z0) :
    Calls Try.prog 9 #[.slice a0 len0 cap0] w fun e w' => e = .returned (.bool true) ∧ Below w.heap.size w w' := by
  obtain ⟨hb, hl⟩ := bts_of w a0 len0 cap0 z0 w0
  rcases hl with hl | hl
  · go_enter Try.func9, Try.ntmps9
    go_wp2
    go_ret
    exact ⟨rfl, Below.refl _ _⟩
  have HB0 := Lib.hid hb
  clear hb w0
  go_enter Try.func9, Try.ntmps9
  go_wp2_with fail
  refine (drawJoin_at w _ len0 ⟨_, _, rfl⟩ HB0.out).mono ?_
  rintro e w1' ⟨xa, na, ca, ra, xb, nb, cb, rb, rfl, ha, hb', hb⟩
  have B_a := Lib.hid hb
  clear hb
  have hb := hb'
  clear hb'
  obtain ⟨W1, hW⟩ : ∃ W, W = ((w1').alloc (.cells #[.slice xa na ca] 29)).alloc (.cells #[.slice xb nb cb] 29) := ⟨_, rfl⟩
  have hA : Below w1'.heap.size w1' W1 := by rw [hW]; exact (((Below.refl _ _).alloc (Nat.le_refl _) _).alloc (by simp) _)
  have Ca_1 : W1.cell? ⟨w1'.heap.size, 0, none⟩ = some (.slice xa na ca) := by rw [hW]; simp [go_sem]
  have Ia_1 := Lib.hid (ha.below hA (Nat.le_refl _))
  have Cb_1 : W1.cell? ⟨w1'.heap.size + 1, 0, none⟩ = some (.slice xb nb cb) := by rw [hW]; simp [go_sem]
  have Ib_1 := Lib.hid (hb.below hA (Nat.le_refl _))
  have B1 := Lib.hid (B_a.out.trans (hA.mono B_a.out.size))
  clear hA B_a  ha hb
  go_wp2_with fail
  rw [← hW]
  clear hW 
  refine (spJoin_end W1 _ _ ra rb Ia_1.out Ib_1.out).mono ?_
  intro e w2' he
  obtain ⟨xs, ns, cs, rfl, hb, hs⟩ := he.rws
  clear he
  have Ca_a := cell_later hb Ca_1
  have Ia_a := Lib.hid (Ia_1.out.below hb (Nat.le_refl _))
  have Cb_a := cell_later hb Cb_1
  have Ib_a := Lib.hid (Ib_1.out.below hb (Nat.le_refl _))
  have B_a := Lib.hid (B1.out.trans (hb.mono B1.out.size))
  clear Ca_1 Ia_1 Cb_1 Ib_1 B1
  clear hb
  have la := World.block_lt_of_cell? _ _ Ca_a
  have lb := World.block_lt_of_cell? _ _ Cb_a
  obtain ⟨W2, hW⟩ : ∃ W, W = (w2').alloc (.cells #[.slice xs ns cs] 29) := ⟨_, rfl⟩
  have hA : Below w2'.heap.size w2' W2 := by rw [hW]; exact ((Below.refl _ _).alloc (Nat.le_refl _) _)
  have Ca_2 := cell_later hA Ca_a
  have Ia_2 := Lib.hid (Ia_a.out.below hA (Nat.le_refl _))
  have Cb_2 := cell_later hA Cb_a
  have Ib_2 := Lib.hid (Ib_a.out.below hA (Nat.le_refl _))
  have Cs_2 : W2.cell? ⟨w2'.heap.size, 0, none⟩ = some (.slice xs ns cs) := by rw [hW]; simp [go_sem]
  have Is_2 := Lib.hid (hs.below hA (Nat.le_refl _))
  have B2 := Lib.hid (B_a.out.trans (hA.mono B_a.out.size))
  clear hA B_a Ia_a Ib_a hs
  go_wp2_with fail
  rw [← hW]
  clear hW Ca_a la Cb_a lb
  refine (imJoin_end W2 _ _ ra rb Ia_2.out Ib_2.out).mono ?_
  intro e w3' he
  obtain ⟨xx, nx, cx, rfl, hb, hx⟩ := he.rws
  clear he
  have Ca_a := cell_later hb Ca_2
  have Ia_a := Lib.hid (Ia_2.out.below hb (Nat.le_refl _))
  have Cb_a := cell_later hb Cb_2
  have Ib_a := Lib.hid (Ib_2.out.below hb (Nat.le_refl _))
  have Cs_a := cell_later hb Cs_2
  have Is_a := Lib.hid (Is_2.out.below hb (Nat.le_refl _))
  have B_a := Lib.hid (B2.out.trans (hb.mono B2.out.size))
  clear Ca_2 Ia_2 Cb_2 Ib_2 Cs_2 Is_2 B2
  clear hb
  have la := World.block_lt_of_cell? _ _ Ca_a
  have lb := World.block_lt_of_cell? _ _ Cb_a
  have ls := World.block_lt_of_cell? _ _ Cs_a
  obtain ⟨W3, hW⟩ : ∃ W, W = (w3').alloc (.cells #[.slice xx nx cx] 29) := ⟨_, rfl⟩
  have hA : Below w3'.heap.size w3' W3 := by rw [hW]; exact ((Below.refl _ _).alloc (Nat.le_refl _) _)
  have Ca_3 := cell_later hA Ca_a
  have Ia_3 := Lib.hid (Ia_a.out.below hA (Nat.le_refl _))
  have Cb_3 := cell_later hA Cb_a
  have Ib_3 := Lib.hid (Ib_a.out.below hA (Nat.le_refl _))
  have Cs_3 := cell_later hA Cs_a
  have Is_3 := Lib.hid (Is_a.out.below hA (Nat.le_refl _))
  have Cx_3 : W3.cell? ⟨w3'.heap.size, 0, none⟩ = some (.slice xx nx cx) := by rw [hW]; simp [go_sem]
  have Ix_3 := Lib.hid (hx.below hA (Nat.le_refl _))
  have B3 := Lib.hid (B_a.out.trans (hA.mono B_a.out.size))
  clear hA B_a Ia_a Ib_a Is_a hx
  have len : (resV (joinB ra rb) (joinV ra rb)).length ≤ maxLen ∧ ∀ i, i < (resV (joinB ra rb) (joinV ra rb)).length → ((resV (joinB ra rb) (joinV ra rb)).getD i []).length ≤ maxLen := by
    unfold resV
    by_cases hj : joinB ra rb = true
    · rw [if_pos hj]
      refine ⟨show 3 ≤ maxLen by unfold maxLen; omega, fun i hi => ?_⟩
      rw [joinV_get _ _ i (show i < 3 from hi)]
      show (addRows _ _).length ≤ maxLen
      simp [addRows, maxLen]
    · rw [if_neg hj]
      exact ⟨Nat.zero_le _, fun i hi => absurd hi (Nat.not_lt_zero i)⟩
  have LEN := Lib.hid len
  clear len
  cases hj : joinB ra rb with
  | false =>
    rw [hj] at Ix_3 Is_3 LEN
    clear hj
    go_wp2_with fail
    rw [← hW]
    clear hW Ca_a la Cb_a lb Cs_a ls
    refine (lkRough_at W3 _ _ _ _ Ix_3.out Is_3.out LEN.out.1 LEN.out.2).mono ?_
    rintro e W4 ⟨rfl, hb⟩
    rw [decide_eq_true rfl]
    have Ca_4 := cell_later hb Ca_3
    have Ia_4 := Lib.hid (Ia_3.out.below hb (Nat.le_refl _))
    have Cb_4 := cell_later hb Cb_3
    have Ib_4 := Lib.hid (Ib_3.out.below hb (Nat.le_refl _))
    have Cs_4 := cell_later hb Cs_3
    have Is_4 := Lib.hid (Is_3.out.below hb (Nat.le_refl _))
    have Cx_4 := cell_later hb Cx_3
    have Ix_4 := Lib.hid (Ix_3.out.below hb (Nat.le_refl _))
    have B4 := Lib.hid (B3.out.trans (hb.mono B3.out.size))
    clear hb Ca_3 Ia_3 Cb_3 Ib_3 Cs_3 Is_3 Cx_3 Ix_3 B3
    go_wp2_with fail
    refine (lkRough_at W4 _ _ _ _ Ix_4.out Is_4.out LEN.out.1 LEN.out.2).mono ?_
    rintro e W5 ⟨rfl, hb⟩
    rw [decide_eq_true rfl]
    have Ca_5 := cell_later hb Ca_4
    have Ia_5 := Lib.hid (Ia_4.out.below hb (Nat.le_refl _))
    have Cb_5 := cell_later hb Cb_4
    have Ib_5 := Lib.hid (Ib_4.out.below hb (Nat.le_refl _))
    have Cs_5 := cell_later hb Cs_4
    have Is_5 := Lib.hid (Is_4.out.below hb (Nat.le_refl _))
    have Cx_5 := cell_later hb Cx_4
    have Ix_5 := Lib.hid (Ix_4.out.below hb (Nat.le_refl _))
    have B5 := Lib.hid (B4.out.trans (hb.mono B4.out.size))
    clear hb Ca_4 Ia_4 Cb_4 Ib_4 Cs_4 Is_4 Cx_4 Ix_4 B4
    go_wp2
    go_ret
    exact ⟨rfl, B5.out⟩
  | true =>
    rw [hj] at Ix_3 Is_3 LEN
    rw [show resV true (joinV ra rb) = joinV ra rb from rfl] at Ix_3 Is_3 LEN
    have okj := okB_join hj
    have oka := ((joinB_iff ra rb).1 hj).1
    have okb := ((joinB_iff ra rb).1 hj).2.1
    have jn := join_none oka
    have jc : joinB rb ra = true := by rw [joinB_comm]; exact hj
    have ba := allV_ok oka
    have bb := allV_ok okb
    have OKJ := Lib.hid okj
    have OKA := Lib.hid oka
    have JN := Lib.hid jn
    have JC := Lib.hid jc
    have BA := Lib.hid ba
    have BB := Lib.hid bb
    clear hj okj oka okb jn jc ba bb
    go_wp2_with fail
    rw [← hW]
    clear hW Ca_a la Cb_a lb Cs_a ls
    refine (lkRough_at W3 _ _ _ _ Ix_3.out Is_3.out LEN.out.1 LEN.out.2).mono ?_
    rintro e W4 ⟨rfl, hb⟩
    rw [decide_eq_true rfl]
    have Ca_4 := cell_later hb Ca_3
    have Ia_4 := Lib.hid (Ia_3.out.below hb (Nat.le_refl _))
    have Cb_4 := cell_later hb Cb_3
    have Ib_4 := Lib.hid (Ib_3.out.below hb (Nat.le_refl _))
    have Cs_4 := cell_later hb Cs_3
    have Is_4 := Lib.hid (Is_3.out.below hb (Nat.le_refl _))
    have Cx_4 := cell_later hb Cx_3
    have Ix_4 := Lib.hid (Ix_3.out.below hb (Nat.le_refl _))
    have B4 := Lib.hid (B3.out.trans (hb.mono B3.out.size))
    clear hb Ca_3 Ia_3 Cb_3 Ib_3 Cs_3 Is_3 Cx_3 Ix_3 B3
    go_wp2_with fail
    have KY := imJoin_end W4 _ _ rb ra Ib_4.out Ia_4.out
    rw [JC.out, joinV_comm rb ra] at KY
    refine (KY).mono ?_
    intro e w5' he
    obtain ⟨xy, ny, cy, rfl, hb, hy⟩ := he.rws
    clear he
    have Ca_a := cell_later hb Ca_4
    have Ia_a := Lib.hid (Ia_4.out.below hb (Nat.le_refl _))
    have Cb_a := cell_later hb Cb_4
    have Ib_a := Lib.hid (Ib_4.out.below hb (Nat.le_refl _))
    have Cs_a := cell_later hb Cs_4
    have Is_a := Lib.hid (Is_4.out.below hb (Nat.le_refl _))
    have Cx_a := cell_later hb Cx_4
    have Ix_a := Lib.hid (Ix_4.out.below hb (Nat.le_refl _))
    have B_a := Lib.hid (B4.out.trans (hb.mono B4.out.size))
    clear Ca_4 Ia_4 Cb_4 Ib_4 Cs_4 Is_4 Cx_4 Ix_4 B4
    clear hb
    have la := World.block_lt_of_cell? _ _ Ca_a
    have lb := World.block_lt_of_cell? _ _ Cb_a
    have ls := World.block_lt_of_cell? _ _ Cs_a
    have lx := World.block_lt_of_cell? _ _ Cx_a
    obtain ⟨W5, hW⟩ : ∃ W, W = (w5').alloc (.cells #[.slice xy ny cy] 29) := ⟨_, rfl⟩
    have hA : Below w5'.heap.size w5' W5 := by rw [hW]; exact ((Below.refl _ _).alloc (Nat.le_refl _) _)
    have Ca_5 := cell_later hA Ca_a
    have Ia_5 := Lib.hid (Ia_a.out.below hA (Nat.le_refl _))
    have Cb_5 := cell_later hA Cb_a
    have Ib_5 := Lib.hid (Ib_a.out.below hA (Nat.le_refl _))
    have Cs_5 := cell_later hA Cs_a
    have Is_5 := Lib.hid (Is_a.out.below hA (Nat.le_refl _))
    have Cx_5 := cell_later hA Cx_a
    have Ix_5 := Lib.hid (Ix_a.out.below hA (Nat.le_refl _))
    have Cy_5 : W5.cell? ⟨w5'.heap.size, 0, none⟩ = some (.slice xy ny cy) := by rw [hW]; simp [go_sem]
    have Iy_5 := Lib.hid (hy.below hA (Nat.le_refl _))
    have B5 := Lib.hid (B_a.out.trans (hA.mono B_a.out.size))
    clear hA B_a Ia_a Ib_a Is_a Ix_a hy
    clear KY
    rw [show resV true (joinV ra rb) = joinV ra rb from rfl] at Iy_5
    clear Cs_5 Is_5
    go_wp2_with fail
    rw [← hW]
    clear hW Ca_a la Cb_a lb Cx_a lx
    have T0 : Hid (Below W5.heap.size W5 W5.drew) := Below.drew (Below.refl _ _)
    have la5 := World.block_lt_of_cell? _ _ Ca_5
    go_region_with (first
      | (go_at_call 28; refine (imNew_at _).mono ?_; rintro e w6 ⟨u6, G6, C6, rfl, ho6, hb6⟩; obtain ⟨⟨x6, c6, hx6⟩, _⟩ := ho6.rws.cases; have h36 : zero3.length = 3 := rfl; rw [h36] at hx6; subst hx6; have hc6 : Below W5.heap.size W5 w6 := (by first | exact T0.out.trans hb6 | exact (T0.out.alloc (by simp) _).trans (hb6.mono (by simp))); have Rz6 := Lib.hid ho6.rws; have Ra6 := Lib.hid (Ia_5.out.below hc6 (Nat.le_refl _)); have C6 := Lib.hid hc6; have Ca6 := cell_later hc6 Ca_5; have la6 := World.block_lt_of_cell? _ _ Ca6; (try (have q6 := cell_later hb6 (show (W5.drew.alloc (.cells #[.slice none 0 0] 29)).cell? ⟨W5.heap.size, 0, none⟩ = some (.slice none 0 0) from by simp [go_sem]); have f6 := free_later hb6 (show (W5.drew.alloc (.cells #[.slice none 0 0] 29)).frozen? ⟨W5.heap.size, 0, none⟩ = false from by simp [go_sem]) (by simp))); clear ho6 hb6 hc6 h36)
      | (go_at_call 31; (first | (refine (imJoin_end w6 _ _ ra zero3 Ra6.out Rz6.out).mono ?_) | (refine (imJoin_end (w6.alloc (.cells #[.slice none 0 0] 29)) _ _ ra zero3 (Ra6.out.below ((Below.refl _ _).alloc (Nat.le_refl _) _) (Nat.le_refl _)) (Rz6.out.below ((Below.refl _ _).alloc (Nat.le_refl _) _) (Nat.le_refl _))).mono ?_)); rw [JN.out.1, JN.out.2]; intro e w7 he; obtain ⟨x7, n7, c7, rfl, hb7, _, h1⟩ := he; obtain ⟨rfl, G7, C7', o7⟩ := h1 rfl; have hc7 : Below W5.heap.size W5 w7 := (by first | exact C6.out.trans (hb7.mono C6.out.size) | exact (C6.out.alloc C6.out.size _).trans (hb7.mono (by have := C6.out.size; simp; omega))); have C7 := Lib.hid hc7; have R7 := Lib.hid o7.rws; (try have RS5 : Hid (∀ v, Rws (w7.setCell ⟨W5.heap.size, 0, none⟩ v) (.slice x7 3 c7) ra) := fun v => (o7.grown (grownBy_setCell w7 ⟨W5.heap.size, 0, none⟩ v) (fun k e => by have l6 := World.block_lt_of_cell? _ _ q6; simp at e; simp at l6; first | omega | (simp; omega))).rws); (try have RS6 : Hid (∀ v, Rws (w7.setCell ⟨w6.heap.size, 0, none⟩ v) (.slice x7 3 c7) ra) := fun v => (o7.grown (grownBy_setCell w7 ⟨w6.heap.size, 0, none⟩ v) (fun k e => by simp at e; simp; omega)).rws); (try (have q7 := cell_later hb7 q6; have f7 := free_later hb7 f6 (World.block_lt_of_cell? _ _ q6))); (try (have q8 := cell_later hb7 (show (w6.alloc (.cells #[.slice none 0 0] 29)).cell? ⟨w6.heap.size, 0, none⟩ = some (.slice none 0 0) from by simp [go_sem]); have f8 := free_later hb7 (show (w6.alloc (.cells #[.slice none 0 0] 29)).frozen? ⟨w6.heap.size, 0, none⟩ = false from by simp [go_sem]) (by simp))); clear h1 o7 hb7 hc7))
    all_goals
      first
      | (obtain ⟨W8, hW8⟩ : ∃ W, W = w7.alloc (.cells #[.slice x7 3 c7] 29) := ⟨_, rfl⟩
         have cn : W8.cell? ⟨w7.heap.size, 0, none⟩ = some (.slice x7 3 c7) := by rw [hW8]; simp [go_sem]
         rw [← hW8]
         have hd : Below W5.heap.size W5 W8 := by rw [hW8]; exact C7.out.alloc C7.out.size _
         have rn : Rws W8 (.slice x7 3 c7) ra := by rw [hW8]; exact R7.out.below ((Below.refl _ _).alloc (Nat.le_refl _) _) (Nat.le_refl _))
      | (obtain ⟨W8, hW8⟩ : ∃ W, W = w7.setCell ⟨w6.heap.size, 0, none⟩ (.slice x7 3 c7) := ⟨_, rfl⟩
         have cn : W8.cell? ⟨w6.heap.size, 0, none⟩ = some (.slice x7 3 c7) := by rw [hW8]; exact World.cell?_setCell_same _ _ _ q8
         rw [← hW8]
         have hd : Below W5.heap.size W5 W8 := by rw [hW8]; exact C7.out.setCell C6.out.size _
         have rn : Rws W8 (.slice x7 3 c7) ra := by rw [hW8]; exact RS6.out _)
      | (obtain ⟨W8, hW8⟩ : ∃ W, W = w7.setCell ⟨W5.heap.size, 0, none⟩ (.slice x7 3 c7) := ⟨_, rfl⟩
         have cn : W8.cell? ⟨W5.heap.size, 0, none⟩ = some (.slice x7 3 c7) := by rw [hW8]; exact World.cell?_setCell_same _ _ _ q7
         rw [← hW8]
         have hd : Below W5.heap.size W5 W8 := by rw [hW8]; exact C7.out.setCell (Nat.le_refl _) _
         have rn : Rws W8 (.slice x7 3 c7) ra := by rw [hW8]; exact RS5.out _)
    all_goals
      clear hW8
      have r3 := cell_regrown (cell_later hd Ca_5)
      have r4 := cell_regrown (cell_later hd Cb_5)
      have r7 := cell_regrown (cell_later hd Cx_5)
      have r9 := cell_regrown (cell_later hd Cy_5)
      have r11 := cell_regrown cn
      have Ja := Lib.hid (Ia_5.out.below hd (Nat.le_refl _))
      have Jb := Lib.hid (Ib_5.out.below hd (Nat.le_refl _))
      have Jx := Lib.hid (Ix_5.out.below hd (Nat.le_refl _))
      have Jy := Lib.hid (Iy_5.out.below hd (Nat.le_refl _))
      have Jn := Lib.hid rn
      have B8 := Lib.hid (B5.out.trans (hd.mono B5.out.size))
      have la3 : ra.length ≤ maxLen ∧ ∀ i, i < ra.length → (ra.getD i []).length ≤ maxLen := by
        have h := (okB_iff ra).1 OKA.out
        refine ⟨by rw [h.1]; unfold maxLen; omega, fun i hi => ?_⟩
        rw [(h.2 i (by omega)).1]; unfold maxLen; omega
      have LA := Lib.hid la3
      have KO : Hid (∀ (d : Nat) (os : Array Obj), Calls Try.prog 21 #[.agg #[.slice xx nx cx]] (Go.Sort.grow (redrawn W8 d) os) fun e w'' => e = .returned (.bool true) ∧ ∃ p : Regrown, w'' = Go.Sort.grow (redrawn W8 p.d) p.os) := fun d os => by
        have h := imOk_at _ _ (joinV ra rb) (Jx.out.below (below_regrown W8 d os) (Nat.le_refl _))
        rw [OKJ.out.1] at h
        exact Calls.regrown_of h
      have K1 : Hid (∀ (d : Nat) (os : Array Obj), Calls Try.prog 20 #[.agg #[.slice xy ny cy], .agg #[.slice xx nx cx]] (Go.Sort.grow (redrawn W8 d) os) fun e w'' => e = .returned (.bool true) ∧ ∃ p : Regrown, w'' = Go.Sort.grow (redrawn W8 p.d) p.os) := fun d os => by
        have h := lkRough_at _ _ _ (joinV ra rb) (joinV ra rb) (Jy.out.below (below_regrown W8 d os) (Nat.le_refl _)) (Jx.out.below (below_regrown W8 d os) (Nat.le_refl _)) LEN.out.1 LEN.out.2
        rw [decide_eq_true rfl] at h
        exact Calls.regrown_of h
      have K2 : Hid (∀ (d : Nat) (os : Array Obj), Calls Try.prog 20 #[.agg #[.slice x7 3 c7], .agg #[.slice xa na ca]] (Go.Sort.grow (redrawn W8 d) os) fun e w'' => e = .returned (.bool true) ∧ ∃ p : Regrown, w'' = Go.Sort.grow (redrawn W8 p.d) p.os) := fun d os => by
        have h := lkRough_at _ _ _ ra ra (Jn.out.below (below_regrown W8 d os) (Nat.le_refl _)) (Ja.out.below (below_regrown W8 d os) (Nat.le_refl _)) LA.out.1 LA.out.2
        rw [decide_eq_true rfl] at h
        exact Calls.regrown_of h
      have SX : Hid (∀ (d : Nat) (os : Array Obj), Calls Try.prog 22 #[.agg #[.slice xx nx cx]] (Go.Sort.grow (redrawn W8 d) os) fun e w'' => e = .returned (.int .i64 (allV ra + allV rb)) ∧ ∃ p : Regrown, w'' = Go.Sort.grow (redrawn W8 p.d) p.os) := fun d os => by
        have h := roughAll_at _ _ (joinV ra rb) (Jx.out.below (below_regrown W8 d os) (Nat.le_refl _))
        rw [OKJ.out.2] at h
        exact Calls.regrown_of h
      have SA : Hid (∀ (d : Nat) (os : Array Obj), Calls Try.prog 22 #[.agg #[.slice xa na ca]] (Go.Sort.grow (redrawn W8 d) os) fun e w'' => e = .returned (.int .i64 (allV ra)) ∧ ∃ p : Regrown, w'' = Go.Sort.grow (redrawn W8 p.d) p.os) := fun d os => Calls.regrown_of (roughAll_at _ _ ra (Ja.out.below (below_regrown W8 d os) (Nat.le_refl _)))
      have SB : Hid (∀ (d : Nat) (os : Array Obj), Calls Try.prog 22 #[.agg #[.slice xb nb cb]] (Go.Sort.grow (redrawn W8 d) os) fun e w'' => e = .returned (.int .i64 (allV rb)) ∧ ∃ p : Regrown, w'' = Go.Sort.grow (redrawn W8 p.d) p.os) := fun d os => Calls.regrown_of (roughAll_at _ _ rb (Jb.out.below (below_regrown W8 d os) (Nat.le_refl _)))
      obtain ⟨a0', a1'⟩ := BA.out
      obtain ⟨b0', b1'⟩ := BB.out
      generalize allV ra = VA at *
      generalize allV rb = VB at *
      have wa : IntKind.i64.wrap (VA + VB) = VA + VB := IntWalk.i64_in _ (by omega)
      clear hd rn Ca_5 Cb_5 Cx_5 Cy_5 cn Ca6 la5 la6
      go_wp2
      refine boxed_region (by kernel_rfl) (by kernel_rfl) ?_
      repeat (refine boxed_step (fun K hK => ?_); go_simp; first | (refine hK _ ?_; clear hK K) | (apply Exists.intro; refine ⟨fun _ => ?_, hK _ ?_⟩; (first | (with_reducible exact KO.out _ _) | (with_reducible exact K1.out _ _) | (with_reducible exact K2.out _ _) | (with_reducible exact SX.out _ _) | (with_reducible exact SA.out _ _) | (with_reducible exact SB.out _ _)); clear hK K))
      refine boxed_nil ?_
      intro _ hw'
      obtain ⟨⟨dq, oq⟩, hw''⟩ := hw'
      subst hw''
      have hb_w9 := below_regrown W8 dq oq
      obtain ⟨w9, hq_w9⟩ : ∃ x, x = grow (redrawn W8 dq) oq := ⟨_, rfl⟩
      rw [← hq_w9] at hb_w9 ⊢
      clear hq_w9
      have B9 := Lib.hid (B8.out.trans (hb_w9.mono B8.out.size))
      clear hb_w9
      go_wp2
      go_ret
      exact ⟨by simp, B9.out⟩

/-! ### THE ROW's STEP: WRITTEN OUT: LEAVE IT -/
set_option maxRecDepth 100000 in
theorem lifted (os : Os) (started : os.Started) (H : Type) (enc : TypeId × Value → H) :
    ReturnsInHanded {} Try.checked os 9 .any (Rows.fnRoughJoinSpec.pre6 enc Try.prog Try.f9 Rows.fnRoughJoinRow.domain false) (Rows.fnRoughJoinSpec.post enc Try.prog Try.f9 false true false false) := by
  refine returnsInHanded_of_change (C := Try.checked) own started (by kernel_rfl) Try.func9
    (ChangeSpec.witness6 (enc := enc) (C := Try.checked) false ⟨#[], #[.slice none 0 0], []⟩ 8 (by kernel_rfl) (by kernel_rfl) (by kernel_rfl) (by kernel_rfl)) ?_
  intro W base args ds gs before hval0 hW hcnd _
  have hval : ∀ (j : Nat) t v, Try.f9.params[j]? = some t → args[j]? = some v → Value.okWide Try.prog W .any base t v := hval0
  have hW' := hW
  obtain ⟨p, q, hA0, hV, rfl, hfz, hnd⟩ := hW
  have hA : DataW.TrodAll enc Try.prog W 0 (fun _ => true) true Try.f9.params.toList args.toList ds p := hA0
  rw [Try.params9] at hA hval
  obtain ⟨v0, vs0, d0, ds0, p0, q0, hargs, rfl, rfl, h0, r0⟩ := trodAll_cons hA
  obtain ⟨rfl, rfl, rfl⟩ := trodAll_nil r0
  obtain rfl : args = #[v0] := by cases args; simp_all
  obtain ⟨rfl, rfl⟩ := trodVars_none hV
  obtain ⟨a0, len0, cap0, rfl⟩ := okWide_slice Try.underlying22 (hval 0 22 v0 rfl rfl)
  have k0 := h0
  have lt0 : ∀ x ∈ p0, x.block < W.heap.size := by obtain ⟨m, hm⟩ := k0; exact DataW.trod_lt m _ _ _ hm
  obtain ⟨z0, w0⟩ : ∃ zs, IsRow .u8 W a0 len0 cap0 zs := by
    obtain ⟨fuel, hf⟩ := h0
    rcases open_ints Try.underlying22 Try.underlying5 (by kernel_rfl) hf with ⟨hcs, _⟩ | ⟨x, l, c, zs, hcs, _, hl, hm, hz, _, hcell, hwz⟩
    · simp [Value.cells] at hcs
      obtain ⟨rfl, rfl, rfl⟩ := hcs
      exact ⟨[], .inl ⟨rfl, rfl, rfl, rfl⟩⟩
    · simp [Value.cells] at hcs
      obtain ⟨rfl, rfl, rfl⟩ := hcs
      exact ⟨zs, .inr ⟨_, rfl, hl, hm, by simpa using hz, hcell, hwz⟩⟩
  clear hA0 hval0
  refine (walk a0 len0 cap0 z0 W w0).mono fun e W' ⟨he, bel⟩ => ?_
  subst he
  exact ⟨_, rfl, _, _, _, [], _, [], hW', trodAll_mk1 (shut_bool Try.underlying4 _), (trodAll_cons_mk (Below.trod laidOut (by kernel_rfl) (of_decide_eq_true (by kernel_rfl)) k0 bel lt0) trodAll_mk0), rfl, bel.frame _, fun h => by cases h⟩

theorem over : Rows.fnRoughJoinRow.holds Try.pinned (OpenSpec.ofChange Rows.fnRoughJoinSpec) :=
  OpenClaim.holds_of_wide 9 Try.f9 rfl rfl rfl rfl rfl rfl rfl ⟨rfl, rfl, rfl, rfl, rfl⟩ rfl rfl rfl rfl rfl (by kernel_rfl) Try.func9 (by kernel_rfl)
    (of_decide_eq_true (by kernel_rfl)) (by unfold Func.isWrapper; first | (rw [if_pos (by decide +kernel)]; kernel_rfl) | (rw [if_neg (by decide +kernel)]; exact ⟨rfl, rfl⟩))
    (fun os started H enc _ => lifted os started H enc)

theorem proved : Rows.FnRoughJoinSaid := over
#print axioms proved
end Go.Proofs.Yteopnbjiffncbaa.fnRoughJoin
