/-
  The statement of the law FnDeedOne: at every input the call returns true and leaves what it was given as it was. Its row lists variables of the library's: the card ties these to the program's text.
-/
import Derived.Test.YtbnggcgojbkoaaaDoorNDeX
import Derived.Test.YtbnggcgojbkoaaaDoorNDrE
import Derived.Test.YtbnggcgojbkoaaaDoorRows
import Derived.Test.YtbnggcgojbkoaaaDoorCards
import Derived.Test.YtbnggcgojbkoaaaDoorTie
import Derived.WalkKit
import Derived.ProofKit
import Derived.OpenShut
import Derived.ShutString
import Derived.ChangeOld
import Derived.Below
import Derived.Lay
import Derived.LaidOnce
import Derived.SevenTiedAt
import Derived.LaidHandle
namespace Go.Proofs.YtbnggcgojbkoaaaDoor.fnDeedOne
open Go.ChangeShapes Go.WideShapes Go.ChangeAt Go.RowKit
open Go.ChangeMaps (open_string shut_string)
set_option linter.unusedVariables false

theorem own : ownKnob Tryd.prog.godebug = none := by kernel_rfl
theorem laidOut : laidOutB Tryd.prog = true := by kernel_rfl

set_option maxRecDepth 100000 in
set_option maxHeartbeats 16000000 in
theorem walk (a0 : Option Addr) (len0 cap0 : Nat) (a1 : Option Addr) (len1 cap1 : Nat) (w : World) (w0 : Bts w w.heap.size (.slice a0 len0 cap0) len0) (w1 : Bts w w.heap.size (.slice a1 len1 cap1) len1) :
    Calls Tryd.prog 5 #[.slice a0 len0 cap0, .slice a1 len1 cap1] w fun e w' => e = .returned (.bool true) ∧ Below w.heap.size w w' := by
  have hl0 : (1048576 : Int) < len0 ∨ ¬ (1048576 : Int) < len0 := by omega
  have hl1 : (1048576 : Int) < len1 ∨ ¬ (1048576 : Int) < len1 := by omega
  have T0 := Lib.hid w0
  have T1 := Lib.hid w1
  clear w0 w1
  rcases hl0 with hl0 | hl0
  · go_enter Tryd.func5, Tryd.ntmps5
    go_wp2
    go_ret
    exact ⟨rfl, Below.refl _ _⟩
  rcases hl1 with hl1 | hl1
  · go_enter Tryd.func5, Tryd.ntmps5
    go_wp2
    go_ret
    exact ⟨rfl, Below.refl _ _⟩
  go_enter Tryd.func5, Tryd.ntmps5
  go_wp2_with fail
  refine (N.drawDeedText_at (M.start w) ⟨_, _, rfl⟩ T0.out).mono ?_
  rintro e w2 ⟨x0, y0, z0', rfl, h2⟩
  have H3 := Lib.hid (h2.alloc #[.int .i64 x0, .int .i64 y0, .int .i64 z0'] 24)
  clear h2
  go_wp2_with fail
  refine (N.drawDeedText_at H3.out ⟨_, _, rfl⟩ T1.out).mono ?_
  rintro e w4 ⟨x1, y1, z1', rfl, h4⟩
  have H5 := Lib.hid (h4.alloc #[.int .i64 x1, .int .i64 y1, .int .i64 z1'] 24)
  clear h4 H3 T0 T1
  obtain ⟨c0, c1, c2⟩ := H5.out.p1.cells3
  go_wp2_with fail
  refine (N.imDeedText_at H5.out x0 y0 z0').mono ?_
  rintro e w6 ⟨rfl, h6⟩
  have H6 := Lib.hid h6
  clear h6 c0 c1 c2 H5
  have D := Lib.hid (fun (h1 : N.textD ⟨x0, y0, z0'⟩ ≠ []) (h2 : N.textD ⟨x1, y1, z1'⟩ ≠ []) => N.text_one h1 h2)
  have E2 := Lib.hid (fun (l : List Ch) (W : World) (h : M w.heap.size w W l) => N.imDeedText_at h x1 y1 z1')
  have S1 := Lib.hid (fun (l : List Ch) (W : World) (h : M w.heap.size w W l) => N.spDeedText_at h x0 y0 z0')
  have S2 := Lib.hid (fun (l : List Ch) (W : World) (h : M w.heap.size w W l) => N.spDeedText_at h x1 y1 z1')
  unfold N.bsV at E2 S1 S2 ⊢
  have LA := Lib.hid (show (⟨(N.textD ⟨x0, y0, z0'⟩).toArray⟩ : ByteArray).toList = N.textD ⟨x0, y0, z0'⟩ by rw [Go.ByteArray.toList_eq])
  have LC := Lib.hid (show (⟨(N.textD ⟨x1, y1, z1'⟩).toArray⟩ : ByteArray).toList = N.textD ⟨x1, y1, z1'⟩ by rw [Go.ByteArray.toList_eq])
  generalize (⟨(N.textD ⟨x0, y0, z0'⟩).toArray⟩ : ByteArray) = A at E2 S1 S2 LA LC ⊢
  generalize (⟨(N.textD ⟨x1, y1, z1'⟩).toArray⟩ : ByteArray) = C at E2 S1 S2 LA LC ⊢
  obtain ⟨c0, c1, c2⟩ := H6.out.cells3
  go_wp2_with fail
  refine (E2.out _ _ H6.out).mono ?_
  rintro e w7 ⟨rfl, h7⟩
  have H7 := Lib.hid h7
  clear h7 c0 c1 c2 H6 E2
  obtain ⟨c0, c1, c2⟩ := H7.out.cells3
  obtain ⟨d0, d1, d2⟩ := H7.out.p1.cells3
  go_wp2_with fail
  refine (S1.out _ _ H7.out).mono ?_
  rintro e w8 ⟨rfl, h8⟩
  have H8 := Lib.hid h8
  clear h8 c0 c1 c2 d0 d1 d2 H7
  obtain ⟨c0, c1, c2⟩ := H8.out.cells3
  obtain ⟨d0, d1, d2⟩ := H8.out.p1.cells3
  go_wp2_with fail
  refine (S2.out _ _ H8.out).mono ?_
  rintro e w9 ⟨rfl, h9⟩
  have H9 := Lib.hid h9
  clear h9 c0 c1 c2 d0 d1 d2 H8
  obtain ⟨c0, c1, c2⟩ := H9.out.cells3
  obtain ⟨d0, d1, d2⟩ := H9.out.p1.cells3
  by_cases qa : A.toList = []
  · have ea : A.toList.isEmpty = true := by rw [qa]; rfl
    clear qa
    go_wp2_with fail
    refine (S1.out _ _ H9.out).mono ?_
    rintro e w10 ⟨rfl, h10⟩
    have H10 := Lib.hid h10
    clear h10 c0 c1 c2 d0 d1 d2 H9
    obtain ⟨c0, c1, c2⟩ := H10.out.cells3
    obtain ⟨d0, d1, d2⟩ := H10.out.p1.cells3
    go_wp2_with fail
    refine (S2.out _ _ H10.out).mono ?_
    rintro e w11 ⟨rfl, h11⟩
    go_wp2
    go_ret
    exact ⟨rfl, h11.below⟩
  have ea : A.toList.isEmpty = false := by simpa using qa
  by_cases qc : C.toList = []
  · have ec : C.toList.isEmpty = true := by rw [qc]; rfl
    clear qa qc
    go_wp2_with fail
    refine (S1.out _ _ H9.out).mono ?_
    rintro e w10 ⟨rfl, h10⟩
    have H10 := Lib.hid h10
    clear h10 c0 c1 c2 d0 d1 d2 H9
    obtain ⟨c0, c1, c2⟩ := H10.out.cells3
    obtain ⟨d0, d1, d2⟩ := H10.out.p1.cells3
    go_wp2_with fail
    refine (S2.out _ _ H10.out).mono ?_
    rintro e w11 ⟨rfl, h11⟩
    go_wp2
    go_ret
    exact ⟨rfl, h11.below⟩
  have ec : C.toList.isEmpty = false := by simpa using qc
  rw [LA.out] at qa
  rw [LC.out] at qc
  have Q := D.out qa qc
  rw [N.De.mk.injEq] at Q
  have QQ := Lib.hid (show (A.toList == C.toList) = decide (x0 = x1 ∧ y0 = y1 ∧ z0' = z1') by rw [LA.out, LC.out]; rw [Bool.eq_iff_iff, beq_iff_eq, decide_eq_true_eq]; exact Q)
  clear Q qa qc D LA LC S1 S2
  by_cases ps : x0 = x1 ∧ y0 = y1 ∧ z0' = z1'
  · have q2 := QQ.out
    rw [decide_eq_true ps] at q2
    obtain ⟨rfl, rfl, rfl⟩ := ps
    clear QQ
    go_wp2
    go_ret
    exact ⟨rfl, H9.out.below⟩
  · have q2 := QQ.out
    rw [decide_eq_false ps] at q2
    clear QQ
    have PS := Lib.hid ps
    clear ps
    go_wp2
    all_goals first | (exact (PS.out ⟨by assumption, by assumption, by assumption⟩).elim) | (go_ret; exact ⟨rfl, H9.out.below⟩)

-- the row's step
set_option maxRecDepth 100000 in
theorem lifted (os : Os) (started : os.Started) (H : Type) (enc : TypeId × Value → H) :
    ReturnsInHanded {} Tryd.checked os 5 .any (fun w args => (Rows.fnDeedOneSpec.pre enc Tryd.prog Tryd.f5 [] false w args ∧ laidMetH Tryd.prog Rows.fnDeedOneRow.laid w) ∧ sizedMet enc Tryd.prog Tryd.f5 (OpenSpec.ofChange Rows.fnDeedOneSpec) false w args) (Rows.fnDeedOneSpec.post enc Tryd.prog Tryd.f5 false true false false) := by
  refine returnsInHanded_of_change_and (C := Tryd.checked) (X := fun w _ => laidMetH Tryd.prog Rows.fnDeedOneRow.laid w) (fun _ _ _ hh h => h.of_heap hh) own started (by kernel_rfl) Tryd.func5
    (ChangeSpec.witness_shaped (enc := enc) (C := Tryd.checked) (os := os) (X := fun w _ => laidMetH Tryd.prog Rows.fnDeedOneRow.laid w) false (World.laidAll Tryd.prog os Rows.fnDeedOneRow.laid) #[.slice none 0 0, .slice none 0 0] 8 (World.laidAll_os _ _ _)
      (World.shaped_of_ZipB (by kernel_rfl) (by kernel_rfl)) (by kernel_rfl) (by kernel_rfl) (by kernel_rfl)
      (by rw [MakeChecks.laidMetH_plain _ _ _ (by kernel_rfl)]; exact laidMet_laidAll _ (by kernel_rfl) (by kernel_rfl))) ?_
  intro W base args ds gs before hval0 hW _ _ hL0 _
  have hval : ∀ (j : Nat) t v, Tryd.f5.params[j]? = some t → args[j]? = some v → Value.okWide Tryd.prog W .any base t v := hval0
  have hW' := hW
  obtain ⟨p, q, hA0, hV, rfl, hfz, hnd⟩ := hW
  have hA : DataW.TrodAll enc Tryd.prog W 0 (fun _ => true) true Tryd.f5.params.toList args.toList ds p := hA0
  rw [Tryd.params5 ] at hA hval
  obtain ⟨v0, vs0, d0, ds0, p0, q0, hargs, rfl, rfl, h0, r0⟩ := trodAll_cons hA
  obtain ⟨v1, vs1, d1, ds1, p1, q1, rfl, rfl, rfl, h1, r1⟩ := trodAll_cons r0
  obtain ⟨rfl, rfl, rfl⟩ := trodAll_nil r1
  obtain rfl : args = #[v0, v1] := by cases args; simp_all
  obtain ⟨rfl, rfl⟩ := trodVars_none hV
  obtain ⟨a0, len0, cap0, rfl⟩ := okWide_slice Tryd.underlying22 (hval 0 22 v0 rfl rfl)
  have k0 := h0
  have lt0 : ∀ x ∈ p0, x.block < W.heap.size := by obtain ⟨m, hm⟩ := k0; exact DataW.trod_lt m _ _ _ hm
  have w0 : Bts W W.heap.size (.slice a0 len0 cap0) len0 := by
    obtain ⟨fuel, hf⟩ := h0
    rcases open_ints Tryd.underlying22 Tryd.underlying5 (by kernel_rfl) hf with ⟨hcs, _⟩ | ⟨x, l, c, zs, hcs, _, hl, hm, hz, _, hcell, hwz⟩
    · simp [Value.cells] at hcs
      obtain ⟨rfl, rfl, rfl⟩ := hcs
      exact (bts_of W _ _ _ [] (.inl ⟨rfl, rfl, rfl, rfl⟩)).1
    · simp [Value.cells] at hcs
      obtain ⟨rfl, rfl, rfl⟩ := hcs
      exact (bts_of W _ _ _ zs (.inr ⟨_, rfl, hl, hm, by simpa using hz, hcell, hwz⟩)).1
  obtain ⟨a1, len1, cap1, rfl⟩ := okWide_slice Tryd.underlying22 (hval 1 22 v1 rfl rfl)
  have k1 := h1
  have lt1 : ∀ x ∈ p1, x.block < W.heap.size := by obtain ⟨m, hm⟩ := k1; exact DataW.trod_lt m _ _ _ hm
  have w1 : Bts W W.heap.size (.slice a1 len1 cap1) len1 := by
    obtain ⟨fuel, hf⟩ := h1
    rcases open_ints Tryd.underlying22 Tryd.underlying5 (by kernel_rfl) hf with ⟨hcs, _⟩ | ⟨x, l, c, zs, hcs, _, hl, hm, hz, _, hcell, hwz⟩
    · simp [Value.cells] at hcs
      obtain ⟨rfl, rfl, rfl⟩ := hcs
      exact (bts_of W _ _ _ [] (.inl ⟨rfl, rfl, rfl, rfl⟩)).1
    · simp [Value.cells] at hcs
      obtain ⟨rfl, rfl, rfl⟩ := hcs
      exact (bts_of W _ _ _ zs (.inr ⟨_, rfl, hl, hm, by simpa using hz, hcell, hwz⟩)).1
  clear hA0 hval0
  rw [MakeChecks.laidMetH_plain _ _ _ (by kernel_rfl)] at hL0
  have hL := hL0
  refine (walk a0 len0 cap0 a1 len1 cap1 W w0 w1).mono fun e W' ⟨he, bel⟩ => ?_
  subst he
  exact ⟨_, rfl, _, _, _, [], _, [], hW', trodAll_mk1 (shut_bool Tryd.underlying4 _), (trodAll_cons_mk (Below.trod laidOut (by kernel_rfl) (of_decide_eq_true (by kernel_rfl)) k0 bel lt0) (trodAll_cons_mk (Below.trod laidOut (by kernel_rfl) (of_decide_eq_true (by kernel_rfl)) k1 bel lt1) trodAll_mk0)), rfl, bel.frame _, fun h => by cases h⟩

theorem over : Rows.fnDeedOneRow.holds Tryd.pinned (OpenSpec.ofChange Rows.fnDeedOneSpec) :=
  OpenClaim.holds_of_wide 5 Tryd.f5 rfl rfl rfl rfl rfl rfl rfl ⟨rfl, rfl, rfl, rfl, rfl⟩ rfl rfl rfl rfl rfl (by kernel_rfl) Tryd.func5 (by kernel_rfl)
    (of_decide_eq_true (by kernel_rfl)) (by unfold Func.isWrapper; first | (rw [if_pos (by decide +kernel)]; kernel_rfl) | (rw [if_neg (by decide +kernel)]; exact ⟨rfl, rfl⟩))
    (fun os started H enc _ => lifted os started H enc)

theorem proved : Rows.FnDeedOneCardSaid :=
  Claim7.holds_tied_plain_at .later [] [.data, .data, .data] true (true, "a6f2cec529160465a4b76259b764102e8e5ee026234ff411fa5f28c5237f3b93") true over (fun _ h => by cases h) (by kernel_rfl) (fun _ h => by cases h) fnDeedOne_row_tie rfl ⟨rfl, rfl⟩ (by kernel_rfl) rfl
    (fun f fn hf hfn => by
      obtain rfl : f = 5 := Option.some.inj ((show Tryd.prog.funcNamed "loop.example/inkling/laws.FnDeedOne" = some 5 by kernel_rfl).symm.trans hf) |>.symm
      obtain rfl : fn = Tryd.f5 := (Option.some.inj (Tryd.func5.symm.trans hfn)).symm
      exact ⟨by kernel_rfl, fun j t ht => by
        rw [Tryd.params5 ] at ht
        have hm : t ∈ [ 22, 22 ] := by simpa using Array.mem_of_getElem? ht
        have hall : ([ 22, 22 ].all fun u => !Tryd.prog.wantsStandIn u) = true := by kernel_rfl
        exact (show Tryd.prog.wantsStandIn t = false by simpa using List.all_eq_true.1 hall t hm)⟩)
    (by kernel_rfl)
#print axioms proved
end Go.Proofs.YtbnggcgojbkoaaaDoor.fnDeedOne
