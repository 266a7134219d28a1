/-
  The statement of the law FnExactRoughNew: at every input the call returns true and leaves what it was given as it was. The frame is the kit's shell; the walk is ours.
-/
import Derived.Test.YtfboamfpippdnaaMark
import Derived.Test.YtfboamfpippdnaaImNew
import Derived.Test.YtfboamfpippdnaaRows
import Derived.WalkKit
import Derived.ProofKit
import Derived.OpenShut
import Derived.Below
import Derived.ShutString
namespace Go.Proofs.Ytfboamfpippdnaa.fnExactRoughNew
open Go.ChangeShapes Go.WideShapes Go.ChangeAt Go.RowKit
open Go.ChangeMaps (open_string shut_string)
set_option linter.unusedVariables false

theorem own : ownKnob Try.prog.godebug = none := by kernel_rfl

/-! ### STEP 1: THE WALK: the Go text returns true. 'Grown w w'': the world has at most new blocks (Derived/RowKit3.lean). Part the cases AHEAD of 'go_enter' where a test parts the walk; take each callee by a contract of your own. -/
theorem walk  (w : World) :
    Calls Try.prog 13 #[] w fun e w' => e = .returned (.bool true) ∧ Below w.heap.size w w' := by
  go_enter Try.func13, Try.ntmps13
  go_wp2_with fail
  refine (spNew_at w).mono ?_
  rintro e w1 ⟨u, G, C, rfl, ho, hb⟩
  obtain ⟨⟨x, c, hx⟩, _⟩ := ho.rws.cases
  have h3 : zero3.length = 3 := rfl
  rw [h3] at hx
  subst hx
  have R1 := Lib.hid ho.rws
  have B1 := Lib.hid hb
  clear ho hb h3
  go_wp2_with fail
  refine (imNew_at _).mono ?_
  rintro e w2 ⟨v, G', C', rfl, ho, hb⟩
  obtain ⟨⟨y, d, hy⟩, _⟩ := ho.rws.cases
  have h3 : zero3.length = 3 := rfl
  rw [h3] at hy
  subst hy
  have sz2 : w1.heap.size + 1 ≤ w2.heap.size := by have := hb.size; simpa using this
  have l2 : w1.heap.size < w2.heap.size := by omega
  have c1 : w2.cell? ⟨w1.heap.size, 0, none⟩ = some (.slice x 3 c) := by rw [hb.cell (by simp)]; simp
  have B2 := Lib.hid ((B1.out.alloc B1.out.size _).trans (hb.mono (by have := B1.out.size; simp; omega)))
  have Q2 := Lib.hid ((Below.refl w1.heap.size w1).alloc (Nat.le_refl _) _ |>.trans (hb.mono (by simp)))
  have R2 := Lib.hid (R1.out.below Q2.out (Nat.le_refl _))
  have O2 := Lib.hid ho
  clear ho hb h3
  have hz : zero3.length ≤ maxLen := by simp [zero3, maxLen]
  have hzr : ∀ i, i < zero3.length → (zero3.getD i []).length ≤ maxLen := fun i hi => by
    have : i < 3 := hi
    rcases (by omega : i = 0 ∨ i = 1 ∨ i = 2) with rfl | rfl | rfl <;> simp [zero3, zeros, maxLen]
  have hzn : zero3.length ≤ 1048576 := by simp [zero3]
  have hzl : ∀ i, i < zero3.length → (zero3.getD i []).length ≤ 1048576 := fun i hi => by
    have : i < 3 := hi
    rcases (by omega : i = 0 ∨ i = 1 ∨ i = 2) with rfl | rfl | rfl <;> simp [zero3, zeros]
  have hza : ahead zero3 zero3.length = 24 := by rfl
  have HZ := Lib.hid hz
  have HZR := Lib.hid hzr
  have HZN := Lib.hid hzn
  have HZL := Lib.hid hzl
  have HZA := Lib.hid hza
  clear hz hzr hzn hzl hza
  -- the first comparison
  have A2 := Lib.hid ((Below.refl _ _).alloc (Nat.le_refl w2.heap.size) (.cells #[.slice y 3 d] 29))
  go_wp2_with fail
  refine (eqRough_at _ _ _ zero3 zero3 (O2.out.rws.below A2.out (Nat.le_refl _)) (R2.out.below A2.out (Nat.le_refl _)) HZ.out HZR.out).mono ?_
  rintro e w3 ⟨rfl, hb3⟩
  have sz3 : w2.heap.size + 1 ≤ w3.heap.size := by have := hb3.size; simpa using this
  have c1' : w3.cell? ⟨w1.heap.size, 0, none⟩ = some (.slice x 3 c) := by rw [hb3.cell (by simp; omega), A2.out.cell (by simpa using l2)]; exact c1
  have c2' : w3.cell? ⟨w2.heap.size, 0, none⟩ = some (.slice y 3 d) := by rw [hb3.cell (by simp)]; simp
  have B3 := Lib.hid (A2.out.trans (hb3.mono (by simp)))
  have hO3 := O2.out.below B3.out (Nat.le_refl _)
  have G2 : Hid (∀ i, i < zero3.length → G' i < w2.heap.size ∧ w1.heap.size + 1 ≤ G' i) := fun i hi => by have := (O2.out.row i hi).lt (G' i) rfl; exact ⟨this.2, by simpa using this.1⟩
  have O3 := Lib.hid hO3
  clear hb3 c1 hO3
  -- the marks
  go_wp2_with fail
  refine (markRough_at w3 _ _ zero3 G' C' 1 HZN.out HZL.out (by rw [HZA.out]; omega) (by omega) (by omega) O3.out).mono ?_
  rintro e w4 ⟨rs', rfl, hm, ho, hk⟩
  rw [HZA.out]
  have c1 : w4.cell? ⟨w1.heap.size, 0, none⟩ = some (.slice x 3 c) := hk.cell c1' (by rintro ⟨i, hi, e⟩; have := (G2.out i hi).2; simp at e; omega)
  have c2 : w4.cell? ⟨w2.heap.size, 0, none⟩ = some (.slice y 3 d) := hk.cell c2' (by rintro ⟨i, hi, e⟩; have := (G2.out i hi).1; simp at e; omega)
  have B4 := Lib.hid (hk.below (B := w1.heap.size + 1) (by omega) (by rintro b ⟨i, hi, rfl⟩; exact (G2.out i hi).2))
  have sz4 : w3.heap.size ≤ w4.heap.size := B4.out.size
  have O4 := Lib.hid ho
  have M4 := Lib.hid hm
  clear hk ho hm c1' c2'
  go_wp2_with fail
  refine (heldRough_at w4 _ zero3 rs' 1 M4.out HZN.out HZL.out (by rw [HZA.out]; omega) (by omega) (by omega) O4.out.rws).mono ?_
  rintro e w5 ⟨rfl, hb5⟩
  rw [HZA.out]
  have c1' : w5.cell? ⟨w1.heap.size, 0, none⟩ = some (.slice x 3 c) := by rw [hb5.cell (by simp; omega)]; exact c1
  have c2' : w5.cell? ⟨w2.heap.size, 0, none⟩ = some (.slice y 3 d) := by rw [hb5.cell (by simp; omega)]; exact c2
  have sz5 : w4.heap.size ≤ w5.heap.size := hb5.size
  have O5 := Lib.hid (O4.out.below hb5 (Nat.le_refl _))
  have B5 := Lib.hid (B4.out.trans (hb5.mono (by omega)))
  clear hb5 c1 c2
  -- the second answer
  go_wp2_with fail
  refine (imNew_at _).mono ?_
  rintro e w6 ⟨u6, G6, C6, rfl, ho, hb6⟩
  obtain ⟨⟨z, f, hz⟩, _⟩ := ho.rws.cases
  have h3 : zero3.length = 3 := rfl
  rw [h3] at hz
  subst hz
  have sz6 : w5.heap.size ≤ w6.heap.size := hb6.size
  have c1 : w6.cell? ⟨w1.heap.size, 0, none⟩ = some (.slice x 3 c) := by rw [hb6.cell (by simp; omega)]; exact c1'
  have c2 : w6.cell? ⟨w2.heap.size, 0, none⟩ = some (.slice y 3 d) := by rw [hb6.cell (by simp; omega)]; exact c2'
  have O6 := Lib.hid ho
  have P6 := Lib.hid (O5.out.below hb6 (Nat.le_refl _))
  have B6 := Lib.hid (B5.out.trans (hb6.mono (by omega)))
  clear hb6 ho c1' c2' h3
  have A6 := Lib.hid ((Below.refl _ _).alloc (Nat.le_refl w6.heap.size) (.cells #[.slice z 3 f] 29))
  have Q6 := Lib.hid (Q2.out.trans ((B3.out.mono (by omega)).trans (B6.out.mono (by omega))))
  have R6 := Lib.hid (R1.out.below Q6.out (Nat.le_refl _))
  have l1 : w1.heap.size < w6.heap.size := by omega
  have l2' : w2.heap.size < w6.heap.size := by omega
  go_wp2_with fail
  refine (eqRough_at _ _ _ zero3 zero3 (O6.out.rws.below A6.out (Nat.le_refl _)) (R6.out.below A6.out (Nat.le_refl _)) HZ.out HZR.out).mono ?_
  rintro e w7 ⟨rfl, hb7⟩
  have sz7 : w6.heap.size + 1 ≤ w7.heap.size := by have := hb7.size; simpa using this
  have c2' : w7.cell? ⟨w2.heap.size, 0, none⟩ = some (.slice y 3 d) := by rw [hb7.cell (by simp; omega), A6.out.cell (by simpa using l2')]; exact c2
  have P7 := Lib.hid (P6.out.below (A6.out.trans (hb7.mono (by simp))) (Nat.le_refl _))
  have B7 := Lib.hid (B6.out.trans ((A6.out.trans (hb7.mono (by simp))).mono (by omega)))
  clear hb7 c1 c2
  go_wp2_with fail
  refine (heldRough_at w7 _ zero3 rs' 1 M4.out HZN.out HZL.out (by rw [HZA.out]; omega) (by omega) (by omega) P7.out.rws).mono ?_
  rintro e w8 ⟨rfl, hb8⟩
  rw [HZA.out]
  go_wp2
  go_ret
  have s1 := B1.out.size
  exact ⟨rfl, B2.out.trans ((B3.out.mono (by omega)).trans ((B7.out.mono (by omega)).trans (hb8.mono (by omega))))⟩

/-! ### THE ROW's STEP: WRITTEN OUT: LEAVE IT -/
set_option maxRecDepth 100000 in
theorem lifted (os : Os) (started : os.Started) (H : Type) (enc : TypeId × Value → H) :
    ReturnsInHanded {} Try.checked os 13 .any (Rows.fnExactRoughNewSpec.pre6 enc Try.prog Try.f13 Rows.fnExactRoughNewRow.domain false) (Rows.fnExactRoughNewSpec.post enc Try.prog Try.f13 false true false false) := by
  refine returnsInHanded_of_change (C := Try.checked) own started (by kernel_rfl) Try.func13
    (ChangeSpec.witness6 (enc := enc) (C := Try.checked) false ⟨#[], #[], []⟩ 8 (by kernel_rfl) (by kernel_rfl) (by kernel_rfl) (by kernel_rfl)) ?_
  intro W base args ds gs before hval0 hW hcnd _
  have hval : ∀ (j : Nat) t v, Try.f13.params[j]? = some t → args[j]? = some v → Value.okWide Try.prog W .any base t v := hval0
  have hW' := hW
  obtain ⟨p, q, hA0, hV, rfl, hfz, hnd⟩ := hW
  have hA : DataW.TrodAll enc Try.prog W 0 (fun _ => true) true Try.f13.params.toList args.toList ds p := hA0
  rw [Try.params13] at hA hval
  obtain ⟨rfl, rfl, rfl⟩ := trodAll_none hA
  obtain ⟨rfl, rfl⟩ := trodVars_none hV
  clear hA0 hval0
  refine (walk  W).mono fun e W' ⟨he, hg⟩ => ?_
  subst he
  exact ⟨_, rfl, _, _, _, [], _, [], hW', (trodAll_cons_mk (shut_bool Try.underlying4 _) trodAll_mk0), rfl, rfl, hg.frame _, fun h => by cases h⟩

theorem over : Rows.fnExactRoughNewRow.holds Try.pinned (OpenSpec.ofChange Rows.fnExactRoughNewSpec) :=
  OpenClaim.holds_of_wide 13 Try.f13 rfl rfl rfl rfl rfl rfl rfl ⟨rfl, rfl, rfl, rfl, rfl⟩ rfl rfl rfl rfl rfl (by kernel_rfl) Try.func13 (by kernel_rfl)
    (of_decide_eq_true (by kernel_rfl)) (by unfold Func.isWrapper; first | (rw [if_pos (by decide +kernel)]; kernel_rfl) | (rw [if_neg (by decide +kernel)]; exact ⟨rfl, rfl⟩))
    (fun os started H enc _ => lifted os started H enc)

theorem proved : Rows.FnExactRoughNewSaid :=
  over
#print axioms proved
end Go.Proofs.Ytfboamfpippdnaa.fnExactRoughNew
