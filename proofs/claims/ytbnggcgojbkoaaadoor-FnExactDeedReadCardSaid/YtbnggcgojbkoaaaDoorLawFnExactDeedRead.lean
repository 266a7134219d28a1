/-
  The statement of the law FnExactDeedRead: at every input the call returns true and leaves what it was given as it was. Its row lists variables of the library's: the card ties these to the program's text.
-/
import Derived.Test.YtbnggcgojbkoaaaDoorNReC
import Derived.Test.YtbnggcgojbkoaaaDoorNSpS
import Derived.Test.YtbnggcgojbkoaaaDoorNEqD
import Derived.Test.YtbnggcgojbkoaaaDoorRows
import Derived.Test.YtbnggcgojbkoaaaDoorCards
import Derived.Test.YtbnggcgojbkoaaaDoorTie
import Derived.WalkKit
import Derived.ProofKit
import Derived.OpenShut
import Derived.ShutString
import Derived.ChangeOld
import Derived.Below
import Derived.Lay
import Derived.LaidOnce
import Derived.SevenTiedAt
import Derived.LaidHandle
import Derived.Test.YtbnggcgojbkoaaaDoorNHand
namespace Go.Proofs.YtbnggcgojbkoaaaDoor.fnExactDeedRead
open Go.ChangeShapes Go.WideShapes Go.ChangeAt Go.RowKit
open Go.ChangeMaps (open_string shut_string)
set_option linter.unusedVariables false

theorem own : ownKnob Tryd.prog.godebug = none := by kernel_rfl
theorem laidOut : laidOutB Tryd.prog = true := by kernel_rfl

set_option maxRecDepth 100000 in
set_option maxHeartbeats 16000000 in
theorem walk (s0 : ByteArray) (w : World) (w0 : s0.size ≤ maxLen) (hO : N.LibOk w.heap.size w) :
    Calls Tryd.prog 7 #[.string s0] w fun e w' => e = .returned (.bool true) ∧ Below w.heap.size w w' := by
  have hl0 : (1048576 : Int) < (s0.size : Int) ∨ ¬ (1048576 : Int) < (s0.size : Int) := by omega
  rcases hl0 with hl0 | hl0
  · go_enter Tryd.func7, Tryd.ntmps7
    go_wp2
    go_ret
    exact ⟨rfl, Below.refl _ _⟩
  obtain ⟨s, rfl⟩ : ∃ s : List UInt8, s0 = ⟨s.toArray⟩ := ⟨s0.data.toList, by cases s0; simp⟩
  have hs : s.length ≤ 4000000 := by
    have : (⟨s.toArray⟩ : ByteArray).size = s.length := rfl
    omega
  have KS := Lib.hid (N.spDeedRead_at (M.start w) s hs)
  have KI := Lib.hid (fun (l : List Ch) (W : World) (h : M w.heap.size w W l) => N.imDeedRead_at h hO s hs)
  clear hO w0 hs
  generalize N.readD s = o at KS KI
  unfold N.readV' at KS
  unfold N.readV N.deedV at KI
  generalize o.getD ⟨0, 0, 0⟩ = d at KS KI
  generalize o.isSome = ok at KS KI
  obtain ⟨x, y, z⟩ := d
  go_enter Tryd.func7, Tryd.ntmps7
  go_wp2_with fail
  refine KS.out.mono ?_
  rintro e w2 ⟨rfl, h2⟩
  have H2 := Lib.hid (h2.alloc #[.int .i64 x, .int .i64 y, .int .i64 z] 24)
  clear h2 KS
  go_wp2_with fail
  refine (KI.out _ _ H2.out).mono ?_
  rintro e w3 ⟨rfl, h3⟩
  have H3 := Lib.hid (h3.alloc #[.int .i64 x, .int .i64 y, .int .i64 z] 24)
  clear h3 KI H2
  obtain ⟨c0, c1, c2⟩ := H3.out.cells3
  obtain ⟨d0, d1, d2⟩ := H3.out.p1.cells3
  go_wp2_with fail
  refine (N.eqDeed_at H3.out x y z).mono ?_
  rintro e w4 ⟨rfl, h4⟩
  clear c0 c1 c2 d0 d1 d2 H3
  go_wp2
  go_ret
  exact ⟨rfl, h4.below⟩

-- the row's step
set_option maxRecDepth 100000 in
theorem lifted (os : Os) (started : os.Started) (H : Type) (enc : TypeId × Value → H) :
    ReturnsInHanded {} Tryd.checked os 7 .any (fun w args => (Rows.fnExactDeedReadSpec.pre enc Tryd.prog Tryd.f7 [] false w args ∧ laidMetH Tryd.prog Rows.fnExactDeedReadRow.laid w) ∧ sizedMet enc Tryd.prog Tryd.f7 (OpenSpec.ofChange Rows.fnExactDeedReadSpec) false w args) (Rows.fnExactDeedReadSpec.post enc Tryd.prog Tryd.f7 false true false false) := by
  refine returnsInHanded_of_change_and_shaped (C := Tryd.checked) (X := fun w _ => laidMetH Tryd.prog Rows.fnExactDeedReadRow.laid w) (fun _ _ _ hh h => h.of_heap hh) own started (by kernel_rfl) Tryd.func7
    (ChangeSpec.witness_shaped (enc := enc) (C := Tryd.checked) (os := os) (X := fun w _ => laidMetH Tryd.prog Rows.fnExactDeedReadRow.laid w) false (World.laidAll Tryd.prog os Rows.fnExactDeedReadRow.laid) #[.string ⟨#[]⟩] 8 (World.laidAll_os _ _ _)
      (World.shaped_of_ZipB (by kernel_rfl) (by kernel_rfl)) (by kernel_rfl) (by kernel_rfl) (by kernel_rfl)
      (by rw [MakeChecks.laidMetH_plain _ _ _ (by kernel_rfl)]; exact laidMet_laidAll _ (by kernel_rfl) (by kernel_rfl))) ?_
  intro W base args ds gs before hval0 hW hS hL0
  have hval : ∀ (j : Nat) t v, Tryd.f7.params[j]? = some t → args[j]? = some v → Value.okWide Tryd.prog W .any base t v := hval0
  have hW' := hW
  obtain ⟨p, q, hA0, hV, rfl, hfz, hnd⟩ := hW
  have hA : DataW.TrodAll enc Tryd.prog W 0 (fun _ => true) true Tryd.f7.params.toList args.toList ds p := hA0
  rw [Tryd.params7 ] at hA hval
  obtain ⟨v0, vs0, d0, ds0, p0, q0, hargs, rfl, rfl, h0, r0⟩ := trodAll_cons hA
  obtain ⟨rfl, rfl, rfl⟩ := trodAll_nil r0
  obtain rfl : args = #[v0] := by cases args; simp_all
  obtain ⟨rfl, rfl⟩ := trodVars_none hV
  obtain ⟨s0, rfl, rfl, rfl, w0⟩ := open_string Tryd.underlying9 (hval 0 9 v0 rfl rfl) h0
  clear hA0 hval0
  rw [MakeChecks.laidMetH_plain _ _ _ (by kernel_rfl)] at hL0
  have hL := hL0
  have hO : N.LibOk W.heap.size W := N.lib_ok hS ⟨N.laid_err hL0.tail.tail.tail.tail.tail (by kernel_rfl), N.laid_err hL0.tail.tail.tail.tail (by kernel_rfl)⟩
  refine (walk s0 W w0 hO).mono fun e W' ⟨he, bel⟩ => ?_
  subst he
  exact ⟨_, rfl, _, _, _, [], _, [], hW', trodAll_mk1 (shut_bool Tryd.underlying4 _), (trodAll_cons_mk (shut_string Tryd.underlying9 w0) trodAll_mk0), rfl, bel.frame _, fun h => by cases h⟩

theorem over : Rows.fnExactDeedReadRow.holds Tryd.pinned (OpenSpec.ofChange Rows.fnExactDeedReadSpec) :=
  OpenClaim.holds_of_wide 7 Tryd.f7 rfl rfl rfl rfl rfl rfl rfl ⟨rfl, rfl, rfl, rfl, rfl⟩ rfl rfl rfl rfl rfl (by kernel_rfl) Tryd.func7 (by kernel_rfl)
    (of_decide_eq_true (by kernel_rfl)) (by unfold Func.isWrapper; first | (rw [if_pos (by decide +kernel)]; kernel_rfl) | (rw [if_neg (by decide +kernel)]; exact ⟨rfl, rfl⟩))
    (fun os started H enc _ => lifted os started H enc)

theorem proved : Rows.FnExactDeedReadCardSaid :=
  Claim7.holds_tied_plain_at .later [] [.data, .data, .data, .data, .sentinel, .sentinel, .pinned] true (true, "a6f2cec529160465a4b76259b764102e8e5ee026234ff411fa5f28c5237f3b93") true over (fun _ h => by cases h) (by kernel_rfl) (fun _ h => by cases h) fnExactDeedRead_row_tie rfl ⟨rfl, rfl⟩ (by kernel_rfl) rfl
    (fun f fn hf hfn => by
      obtain rfl : f = 7 := Option.some.inj ((show Tryd.prog.funcNamed "loop.example/inkling/laws.FnExactDeedRead" = some 7 by kernel_rfl).symm.trans hf) |>.symm
      obtain rfl : fn = Tryd.f7 := (Option.some.inj (Tryd.func7.symm.trans hfn)).symm
      exact ⟨by kernel_rfl, fun j t ht => by
        rw [Tryd.params7 ] at ht
        have hm : t ∈ [ 9 ] := by simpa using Array.mem_of_getElem? ht
        have hall : ([ 9 ].all fun u => !Tryd.prog.wantsStandIn u) = true := by kernel_rfl
        exact (show Tryd.prog.wantsStandIn t = false by simpa using List.all_eq_true.1 hall t hm)⟩)
    (by kernel_rfl)
#print axioms proved
end Go.Proofs.YtbnggcgojbkoaaaDoor.fnExactDeedRead
