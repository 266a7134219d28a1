/-
  The statement of the law FnDeedStrict: at every input the call returns true and leaves what it was given as it was. Its row lists variables of the library's: the card ties these to the program's text.
-/
import Derived.Test.YtbnggcgojbkoaaaDoorNReC
import Derived.Test.YtbnggcgojbkoaaaDoorNSpS
import Derived.Test.YtbnggcgojbkoaaaDoorNDrR
import Derived.Test.YtbnggcgojbkoaaaDoorRows
import Derived.Test.YtbnggcgojbkoaaaDoorCards
import Derived.Test.YtbnggcgojbkoaaaDoorTie
import Derived.WalkKit
import Derived.ProofKit
import Derived.OpenShut
import Derived.ShutString
import Derived.ChangeOld
import Derived.Below
import Derived.Lay
import Derived.LaidOnce
import Derived.SevenTiedAt
import Derived.LaidHandle
import Derived.Test.YtbnggcgojbkoaaaDoorNHand
namespace Go.Proofs.YtbnggcgojbkoaaaDoor.fnDeedStrict
open Go.ChangeShapes Go.WideShapes Go.ChangeAt Go.RowKit
open Go.ChangeMaps (open_string shut_string)
set_option linter.unusedVariables false

theorem own : ownKnob Tryd.prog.godebug = none := by kernel_rfl
theorem laidOut : laidOutB Tryd.prog = true := by kernel_rfl

set_option maxRecDepth 100000 in
set_option maxHeartbeats 16000000 in
theorem walk (a0 : Option Addr) (len0 cap0 : Nat) (w : World) (w0 : Bts w w.heap.size (.slice a0 len0 cap0) len0) (hO : N.LibOk w.heap.size w) :
    Calls Tryd.prog 4 #[.slice a0 len0 cap0] w fun e w' => e = .returned (.bool true) ∧ Below w.heap.size w w' := by
  have hl0 : (1048576 : Int) < len0 ∨ ¬ (1048576 : Int) < len0 := by omega
  have T0 := Lib.hid w0
  have HO := Lib.hid hO
  clear w0 hO
  rcases hl0 with hl0 | hl0
  · go_enter Tryd.func4, Tryd.ntmps4
    go_wp2
    go_ret
    exact ⟨rfl, Below.refl _ _⟩
  go_enter Tryd.func4, Tryd.ntmps4
  go_wp2_with fail
  refine (N.drawDeedRead_at (M.start w) ⟨_, _, rfl⟩ T0.out).mono ?_
  rintro e w2 ⟨t, rfl, tl, h2⟩
  have H2 := Lib.hid h2
  clear h2 T0
  have KS := Lib.hid (N.spDeedRead_at H2.out t (by omega))
  have KI := Lib.hid (fun (l : List Ch) (W : World) (h : M w.heap.size w W l) => N.imDeedRead_at h HO.out t (by omega))
  clear HO
  have RS := Lib.hid (fun (d : N.De) (h : N.readD t = some d) => (N.read_strict h).1)
  cases q : N.readD t with
  | none =>
    rw [q] at KS KI
    clear RS q
    unfold N.readV' at KS
    unfold N.readV N.deedV at KI
    simp only [Option.getD_none, Option.isSome_none] at KS KI
    go_wp2_with fail
    refine KS.out.mono ?_
    rintro e w3 ⟨rfl, h3⟩
    have H3 := Lib.hid (h3.alloc #[.int .i64 0, .int .i64 0, .int .i64 0] 24)
    clear h3 KS H2
    go_wp2_with fail
    refine (KI.out _ _ H3.out).mono ?_
    rintro e w4 ⟨rfl, h4⟩
    have H4 := Lib.hid (h4.alloc #[.int .i64 0, .int .i64 0, .int .i64 0] 24)
    clear h4 KI H3
    obtain ⟨c0, c1, c2⟩ := H4.out.cells3
    obtain ⟨d0, d1, d2⟩ := H4.out.p1.cells3
    go_wp2
    go_ret
    exact ⟨rfl, H4.out.below⟩
  | some d =>
    have R := Lib.hid (RS.out d q)
    rw [q] at KS KI
    clear RS q
    unfold N.readV' at KS
    unfold N.readV N.deedV at KI
    simp only [Option.getD_some, Option.isSome_some] at KS KI
    obtain ⟨x, y, z⟩ := d
    go_wp2_with fail
    refine KS.out.mono ?_
    rintro e w3 ⟨rfl, h3⟩
    have H3 := Lib.hid (h3.alloc #[.int .i64 x, .int .i64 y, .int .i64 z] 24)
    clear h3 KS H2
    go_wp2_with fail
    refine (KI.out _ _ H3.out).mono ?_
    rintro e w4 ⟨rfl, h4⟩
    have H4 := Lib.hid (h4.alloc #[.int .i64 x, .int .i64 y, .int .i64 z] 24)
    clear h4 KI H3
    obtain ⟨c0, c1, c2⟩ := H4.out.cells3
    obtain ⟨d0, d1, d2⟩ := H4.out.p1.cells3
    have KT := Lib.hid (N.imDeedText_at H4.out x y z)
    rw [R.out] at KT
    unfold N.bsV at KT
    go_wp2_with fail
    refine KT.out.mono ?_
    rintro e w5 ⟨rfl, h5⟩
    clear c0 c1 c2 d0 d1 d2 H4 KT R
    have LT := Lib.hid (show (⟨t.toArray⟩ : ByteArray).toList = t by rw [Go.ByteArray.toList_eq])
    go_wp2
    go_ret
    exact ⟨rfl, h5.below⟩

-- the row's step
set_option maxRecDepth 100000 in
theorem lifted (os : Os) (started : os.Started) (H : Type) (enc : TypeId × Value → H) :
    ReturnsInHanded {} Tryd.checked os 4 .any (fun w args => (Rows.fnDeedStrictSpec.pre enc Tryd.prog Tryd.f4 [] false w args ∧ laidMetH Tryd.prog Rows.fnDeedStrictRow.laid w) ∧ sizedMet enc Tryd.prog Tryd.f4 (OpenSpec.ofChange Rows.fnDeedStrictSpec) false w args) (Rows.fnDeedStrictSpec.post enc Tryd.prog Tryd.f4 false true false false) := by
  refine returnsInHanded_of_change_and_shaped (C := Tryd.checked) (X := fun w _ => laidMetH Tryd.prog Rows.fnDeedStrictRow.laid w) (fun _ _ _ hh h => h.of_heap hh) own started (by kernel_rfl) Tryd.func4
    (ChangeSpec.witness_shaped (enc := enc) (C := Tryd.checked) (os := os) (X := fun w _ => laidMetH Tryd.prog Rows.fnDeedStrictRow.laid w) false (World.laidAll Tryd.prog os Rows.fnDeedStrictRow.laid) #[.slice none 0 0] 8 (World.laidAll_os _ _ _)
      (World.shaped_of_ZipB (by kernel_rfl) (by kernel_rfl)) (by kernel_rfl) (by kernel_rfl) (by kernel_rfl)
      (by rw [MakeChecks.laidMetH_plain _ _ _ (by kernel_rfl)]; exact laidMet_laidAll _ (by kernel_rfl) (by kernel_rfl))) ?_
  intro W base args ds gs before hval0 hW hS hL0
  have hval : ∀ (j : Nat) t v, Tryd.f4.params[j]? = some t → args[j]? = some v → Value.okWide Tryd.prog W .any base t v := hval0
  have hW' := hW
  obtain ⟨p, q, hA0, hV, rfl, hfz, hnd⟩ := hW
  have hA : DataW.TrodAll enc Tryd.prog W 0 (fun _ => true) true Tryd.f4.params.toList args.toList ds p := hA0
  rw [Tryd.params4 ] at hA hval
  obtain ⟨v0, vs0, d0, ds0, p0, q0, hargs, rfl, rfl, h0, r0⟩ := trodAll_cons hA
  obtain ⟨rfl, rfl, rfl⟩ := trodAll_nil r0
  obtain rfl : args = #[v0] := by cases args; simp_all
  obtain ⟨rfl, rfl⟩ := trodVars_none hV
  obtain ⟨a0, len0, cap0, rfl⟩ := okWide_slice Tryd.underlying22 (hval 0 22 v0 rfl rfl)
  have k0 := h0
  have lt0 : ∀ x ∈ p0, x.block < W.heap.size := by obtain ⟨m, hm⟩ := k0; exact DataW.trod_lt m _ _ _ hm
  have w0 : Bts W W.heap.size (.slice a0 len0 cap0) len0 := by
    obtain ⟨fuel, hf⟩ := h0
    rcases open_ints Tryd.underlying22 Tryd.underlying5 (by kernel_rfl) hf with ⟨hcs, _⟩ | ⟨x, l, c, zs, hcs, _, hl, hm, hz, _, hcell, hwz⟩
    · simp [Value.cells] at hcs
      obtain ⟨rfl, rfl, rfl⟩ := hcs
      exact (bts_of W _ _ _ [] (.inl ⟨rfl, rfl, rfl, rfl⟩)).1
    · simp [Value.cells] at hcs
      obtain ⟨rfl, rfl, rfl⟩ := hcs
      exact (bts_of W _ _ _ zs (.inr ⟨_, rfl, hl, hm, by simpa using hz, hcell, hwz⟩)).1
  clear hA0 hval0
  rw [MakeChecks.laidMetH_plain _ _ _ (by kernel_rfl)] at hL0
  have hL := hL0
  have hO : N.LibOk W.heap.size W := N.lib_ok hS ⟨N.laid_err hL0.tail.tail.tail.tail.tail (by kernel_rfl), N.laid_err hL0.tail.tail.tail.tail (by kernel_rfl)⟩
  refine (walk a0 len0 cap0 W w0 hO).mono fun e W' ⟨he, bel⟩ => ?_
  subst he
  exact ⟨_, rfl, _, _, _, [], _, [], hW', trodAll_mk1 (shut_bool Tryd.underlying4 _), (trodAll_cons_mk (Below.trod laidOut (by kernel_rfl) (of_decide_eq_true (by kernel_rfl)) k0 bel lt0) trodAll_mk0), rfl, bel.frame _, fun h => by cases h⟩

theorem over : Rows.fnDeedStrictRow.holds Tryd.pinned (OpenSpec.ofChange Rows.fnDeedStrictSpec) :=
  OpenClaim.holds_of_wide 4 Tryd.f4 rfl rfl rfl rfl rfl rfl rfl ⟨rfl, rfl, rfl, rfl, rfl⟩ rfl rfl rfl rfl rfl (by kernel_rfl) Tryd.func4 (by kernel_rfl)
    (of_decide_eq_true (by kernel_rfl)) (by unfold Func.isWrapper; first | (rw [if_pos (by decide +kernel)]; kernel_rfl) | (rw [if_neg (by decide +kernel)]; exact ⟨rfl, rfl⟩))
    (fun os started H enc _ => lifted os started H enc)

theorem proved : Rows.FnDeedStrictCardSaid :=
  Claim7.holds_tied_plain_at .later [] [.data, .data, .data, .data, .sentinel, .sentinel, .pinned] true (true, "a6f2cec529160465a4b76259b764102e8e5ee026234ff411fa5f28c5237f3b93") true over (fun _ h => by cases h) (by kernel_rfl) (fun _ h => by cases h) fnDeedStrict_row_tie rfl ⟨rfl, rfl⟩ (by kernel_rfl) rfl
    (fun f fn hf hfn => by
      obtain rfl : f = 4 := Option.some.inj ((show Tryd.prog.funcNamed "loop.example/inkling/laws.FnDeedStrict" = some 4 by kernel_rfl).symm.trans hf) |>.symm
      obtain rfl : fn = Tryd.f4 := (Option.some.inj (Tryd.func4.symm.trans hfn)).symm
      exact ⟨by kernel_rfl, fun j t ht => by
        rw [Tryd.params4 ] at ht
        have hm : t ∈ [ 22 ] := by simpa using Array.mem_of_getElem? ht
        have hall : ([ 22 ].all fun u => !Tryd.prog.wantsStandIn u) = true := by kernel_rfl
        exact (show Tryd.prog.wantsStandIn t = false by simpa using List.all_eq_true.1 hall t hm)⟩)
    (by kernel_rfl)
#print axioms proved
end Go.Proofs.YtbnggcgojbkoaaaDoor.fnDeedStrict
