/-
  The statement of the law FnRoughNew: at every input the call returns true and leaves what it was given as it was. The frame is the kit's shell; the walk is ours.
-/
import Derived.Test.YtfboamfpippdnaaDGet2
import Derived.Test.YtfboamfpippdnaaRows
import Derived.WalkKit
import Derived.ProofKit
import Derived.OpenShut
import Derived.ShutString
import Derived.ChangeOld
import Derived.Below
namespace Go.Proofs.Ytfboamfpippdnaa.fnRoughNew
open Go.ChangeShapes Go.WideShapes Go.ChangeAt Go.RowKit
open Go.ChangeMaps (open_string shut_string)
set_option linter.unusedVariables false

theorem own : ownKnob Try.prog.godebug = none := by kernel_rfl
theorem laidOut : laidOutB Try.prog = true := by kernel_rfl

/-- WHAT THE WALK IS TOLD OF A SLICE OF INTEGERS THAT CAME IN: it is nil; or it leads to a row of 'cap' cells, the numbers 'zs' (the first 'len' are its elements, the rest its spare room), each fitting its kind. -/
def IsRow (k : IntKind) (w : World) (a : Option Addr) (len cap : Nat) (zs : List Int) : Prop :=
  (a = none ∧ len = 0 ∧ cap = 0 ∧ zs = []) ∨
  ∃ x, a = some x ∧ len ≤ cap ∧ cap ≤ maxLen ∧ zs.length = cap ∧ (∀ i, i < zs.length → w.cell? (x.add i) = some (.int k (zs.getD i 0))) ∧ ∀ n ∈ zs, (Lit.int k n).wf = true

/-! ### STEP 1: THE WALK: the Go text returns true, AND WRITES NOTHING THAT WAS THERE: 'Below w.heap.size w w'' (Derived/Below.lean: '.refl', '.alloc', '.drew', '.setCell' at a new block, '.trans'). Open each 'IsRow' by 'rcases' AHEAD of 'go_enter'; part every test ahead of the walk. -/
theorem walk (a0 : Option Addr) (len0 cap0 : Nat) (z0 : List Int) (w : World) (w0 : IsRow .u8 w a0 len0 cap0 z0) :
    Calls Try.prog 12 #[.slice a0 len0 cap0] w fun e w' => e = .returned (.bool true) ∧ Below w.heap.size w w' := by
  obtain ⟨hb, hl⟩ := bts_of w a0 len0 cap0 z0 w0
  rcases hl with hl | hl
  · go_enter Try.func12, Try.ntmps12
    go_wp2
    go_ret
    exact ⟨rfl, Below.refl _ _⟩
  have HB := Lib.hid hb
  clear hb w0
  go_enter Try.func12, Try.ntmps12
  go_wp2_with fail
  refine (drawGet_at w _ len0 ⟨_, _, rfl⟩ HB.out).mono ?_
  rintro e w1 ⟨x, m, c, rs, t, rfl, hrs, t0, t1, hb1⟩
  have B1 := Lib.hid hb1
  have hA := (Below.refl w1.heap.size w1).alloc (Nat.le_refl _) (.cells #[.slice x m c] 29)
  have RS := Lib.hid (hrs.below hA (Nat.le_refl _))
  have HA := Lib.hid hA
  clear hb1 hrs hA
  go_wp2_with fail
  refine (imGet_at _ _ rs t RS.out).mono ?_
  rintro e w2 ⟨rfl, hb2⟩
  have sz := hb2.size
  simp only [World.size_alloc] at sz
  have cb : w2.cell? ⟨w1.heap.size, 0, none⟩ = some (.slice x m c) := by rw [hb2.cell (by simp)]; simp
  have R2 := Lib.hid (RS.out.below hb2 (Nat.le_refl _))
  have B2 := Lib.hid ((HA.out.trans (hb2.mono HA.out.size)))
  clear hb2
  go_wp2_with fail
  refine (spGet_at _ _ rs t R2.out).mono ?_
  rintro e w3 ⟨rfl, hb3⟩
  have cb3 := cell_later hb3 cb
  have R3 := Lib.hid (R2.out.below hb3 (Nat.le_refl _))
  have B3 := Lib.hid (B2.out.trans (hb3.mono B2.out.size))
  have sz3 := hb3.size
  obtain ⟨V, hV⟩ : ∃ V, V = getV rs t := ⟨_, rfl⟩
  rw [← hV]
  have HV := Lib.hid hV
  clear hb3 cb hV
  by_cases ht : t < 0 ∨ 64 ≤ t
  · rcases ht with ht | ht
    all_goals
      go_wp2_with fail
      refine (spGet_at _ _ rs t R3.out).mono ?_
      rintro e w4 ⟨rfl, hb4⟩
      rw [← HV.out]
      go_wp2
      go_ret
      exact ⟨by simp, B1.out.trans ((B3.out.trans (hb4.mono B3.out.size)).mono B1.out.size)⟩
  · have n0 : ¬ t < 0 := by omega
    have n1 : ¬ 64 ≤ t := by omega
    have i0 : 0 ≤ t := by omega
    have i1 : t < 64 := by omega
    have ab : addB zero3 t 5 = true := (addB_iff _ _ _).2 ⟨zero3_ok.1, i0, i1, by omega, by rw [zero3_ok.2]; omega⟩
    have ok5 := okB_add ab
    have g0 : getV zero3 t = 0 := by
      rw [getV_ok zero3_ok.1 i0 i1]
      have z : ∀ i, i < 3 → atV zero3 i t = 0 := fun i hi => by
        rcases (by omega : i = 0 ∨ i = 1 ∨ i = 2) with rfl | rfl | rfl <;> exact zeros_get _
      rw [z 0 (by omega), z 1 (by omega), z 2 (by omega)]
      rfl
    have g5 : getV (addV zero3 t 5) t = 5 := by
      rw [getV_ok ok5.1 i0 i1]
      have z : ∀ i, i < 3 → atV (addV zero3 t 5) i t = 5 := fun i hi => by
        obtain ⟨P, _, hP, e⟩ := place_nat i t
        have z0 : (zero3.getD i []).length = 8 := (fine_okB zero3_ok.1 i hi).1.1
        have z1 : (zero3.getD i []).getD P 0 = 0 := by
          rcases (by omega : i = 0 ∨ i = 1 ∨ i = 2) with rfl | rfl | rfl <;> exact zeros_get _
        unfold atV
        rw [addV_get _ _ _ _ hi]
        unfold addRow atV
        rw [e, set_get _ _ _ _ (by rw [z0]; exact hP), if_pos rfl, z1]
        rfl
      rw [z 0 (by omega), z 1 (by omega), z 2 (by omega)]
      rfl
    have a5 : allV (addV zero3 t 5) = 5 := by rw [ok5.2, zero3_ok.2]; rfl
    have AB := Lib.hid ab
    have G0 := Lib.hid g0
    have G5 := Lib.hid g5
    have A5 := Lib.hid a5
    clear ab ok5 g0 g5 a5
    go_wp2_with fail
    refine (imNew_at _).mono ?_
    rintro e w4 ⟨u, G, C, rfl, ho, hb4⟩
    have B4 := Lib.hid (B3.out.trans (hb4.mono B3.out.size))
    go_wp2_with fail
    refine (imAdd_end _ _ zero3 t 5 ho.rws).mono ?_
    rintro e w5 ⟨y, p, d, rfl, hb5, _, hyes⟩
    rw [AB.out]
    obtain ⟨rfl, G', C', ho5⟩ := hyes AB.out
    have B5 := Lib.hid (B4.out.trans (hb5.mono B4.out.size))
    have hA5 := (Below.refl w5.heap.size w5).alloc (Nat.le_refl _) (.cells #[.slice y 3 d] 29)
    have R5 := Lib.hid (ho5.rws.below hA5 (Nat.le_refl _))
    have B6 := Lib.hid (B5.out.trans (hA5.mono B5.out.size))
    clear ho hb4 hb5 hyes ho5 hA5
    go_wp2_with fail
    refine (imNew_at _).mono ?_
    rintro e w6 ⟨u6, G6, C6, rfl, ho6, hb6⟩
    have c6 : w6.cell? ⟨w5.heap.size, 0, none⟩ = some (.slice y 3 d) := by rw [hb6.cell (by simp)]; simp
    have R6 := Lib.hid (R5.out.below hb6 (Nat.le_refl _))
    have B7 := Lib.hid (B6.out.trans (hb6.mono B6.out.size))
    have N6 := Lib.hid ho6.rws
    clear hb6 ho6
    go_wp2_with fail
    refine (imGet_at _ _ zero3 t N6.out).mono ?_
    rintro e w7 ⟨rfl, hb7⟩
    rw [G0.out]
    have c7 := cell_later hb7 c6
    have R7 := Lib.hid (R6.out.below hb7 (Nat.le_refl _))
    have B8 := Lib.hid (B7.out.trans (hb7.mono B7.out.size))
    clear hb7 c6
    go_wp2_with fail
    refine (imGet_at _ _ _ t R7.out).mono ?_
    rintro e w8 ⟨rfl, hb8⟩
    rw [G5.out]
    have c8 := cell_later hb8 c7
    have R8 := Lib.hid (R7.out.below hb8 (Nat.le_refl _))
    have B9 := Lib.hid (B8.out.trans (hb8.mono B8.out.size))
    clear hb8 c7
    go_wp2_with fail
    refine (roughAll_at _ _ _ R8.out).mono ?_
    rintro e w9 ⟨rfl, hb9⟩
    rw [A5.out]
    go_wp2
    go_ret
    exact ⟨rfl, B1.out.trans ((B9.out.trans (hb9.mono B9.out.size)).mono B1.out.size)⟩

/-! ### THE ROW's STEP: WRITTEN OUT: LEAVE IT -/
set_option maxRecDepth 100000 in
theorem lifted (os : Os) (started : os.Started) (H : Type) (enc : TypeId × Value → H) :
    ReturnsInHanded {} Try.checked os 12 .any (Rows.fnRoughNewSpec.pre6 enc Try.prog Try.f12 Rows.fnRoughNewRow.domain false) (Rows.fnRoughNewSpec.post enc Try.prog Try.f12 false true false false) := by
  refine returnsInHanded_of_change (C := Try.checked) own started (by kernel_rfl) Try.func12
    (ChangeSpec.witness6 (enc := enc) (C := Try.checked) false ⟨#[], #[.slice none 0 0], []⟩ 8 (by kernel_rfl) (by kernel_rfl) (by kernel_rfl) (by kernel_rfl)) ?_
  intro W base args ds gs before hval0 hW hcnd _
  have hval : ∀ (j : Nat) t v, Try.f12.params[j]? = some t → args[j]? = some v → Value.okWide Try.prog W .any base t v := hval0
  have hW' := hW
  obtain ⟨p, q, hA0, hV, rfl, hfz, hnd⟩ := hW
  have hA : DataW.TrodAll enc Try.prog W 0 (fun _ => true) true Try.f12.params.toList args.toList ds p := hA0
  rw [Try.params12] at hA hval
  obtain ⟨v0, vs0, d0, ds0, p0, q0, hargs, rfl, rfl, h0, r0⟩ := trodAll_cons hA
  obtain ⟨rfl, rfl, rfl⟩ := trodAll_nil r0
  obtain rfl : args = #[v0] := by cases args; simp_all
  obtain ⟨rfl, rfl⟩ := trodVars_none hV
  obtain ⟨a0, len0, cap0, rfl⟩ := okWide_slice Try.underlying22 (hval 0 22 v0 rfl rfl)
  have k0 := h0
  have lt0 : ∀ x ∈ p0, x.block < W.heap.size := by obtain ⟨m, hm⟩ := k0; exact DataW.trod_lt m _ _ _ hm
  obtain ⟨z0, w0⟩ : ∃ zs, IsRow .u8 W a0 len0 cap0 zs := by
    obtain ⟨fuel, hf⟩ := h0
    rcases open_ints Try.underlying22 Try.underlying5 (by kernel_rfl) hf with ⟨hcs, _⟩ | ⟨x, l, c, zs, hcs, _, hl, hm, hz, _, hcell, hwz⟩
    · simp [Value.cells] at hcs
      obtain ⟨rfl, rfl, rfl⟩ := hcs
      exact ⟨[], .inl ⟨rfl, rfl, rfl, rfl⟩⟩
    · simp [Value.cells] at hcs
      obtain ⟨rfl, rfl, rfl⟩ := hcs
      exact ⟨zs, .inr ⟨_, rfl, hl, hm, by simpa using hz, hcell, hwz⟩⟩
  clear hA0 hval0
  refine (walk a0 len0 cap0 z0 W w0).mono fun e W' ⟨he, bel⟩ => ?_
  subst he
  exact ⟨_, rfl, _, _, _, [], _, [], hW', trodAll_mk1 (shut_bool Try.underlying4 _), (trodAll_cons_mk (Below.trod laidOut (by kernel_rfl) (of_decide_eq_true (by kernel_rfl)) k0 bel lt0) trodAll_mk0), rfl, bel.frame _, fun h => by cases h⟩

theorem over : Rows.fnRoughNewRow.holds Try.pinned (OpenSpec.ofChange Rows.fnRoughNewSpec) :=
  OpenClaim.holds_of_wide 12 Try.f12 rfl rfl rfl rfl rfl rfl rfl ⟨rfl, rfl, rfl, rfl, rfl⟩ rfl rfl rfl rfl rfl (by kernel_rfl) Try.func12 (by kernel_rfl)
    (of_decide_eq_true (by kernel_rfl)) (by unfold Func.isWrapper; first | (rw [if_pos (by decide +kernel)]; kernel_rfl) | (rw [if_neg (by decide +kernel)]; exact ⟨rfl, rfl⟩))
    (fun os started H enc _ => lifted os started H enc)

theorem proved : Rows.FnRoughNewSaid := over
#print axioms proved
end Go.Proofs.Ytfboamfpippdnaa.fnRoughNew
