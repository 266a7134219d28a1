/-
  The statement of the law FnRoughAll: at every input the call returns true and leaves what it was given as it was. The frame is the kit's shell; the walk is ours.
-/
import Derived.Test.YtfboamfpippdnaaDGet
import Derived.Test.YtfboamfpippdnaaRows
import Derived.WalkKit
import Derived.ProofKit
import Derived.OpenShut
import Derived.ShutString
import Derived.ChangeOld
import Derived.Below
namespace Go.Proofs.Ytfboamfpippdnaa.fnRoughAll
open Go.ChangeShapes Go.WideShapes Go.ChangeAt Go.RowKit
open Go.ChangeMaps (open_string shut_string)
set_option linter.unusedVariables false

theorem own : ownKnob Try.prog.godebug = none := by kernel_rfl
theorem laidOut : laidOutB Try.prog = true := by kernel_rfl

/-- WHAT THE WALK IS TOLD OF A SLICE OF INTEGERS THAT CAME IN: it is nil; or it leads to a row of 'cap' cells, the numbers 'zs' (the first 'len' are its elements, the rest its spare room), each fitting its kind. -/
def IsRow (k : IntKind) (w : World) (a : Option Addr) (len cap : Nat) (zs : List Int) : Prop :=
  (a = none ∧ len = 0 ∧ cap = 0 ∧ zs = []) ∨
  ∃ x, a = some x ∧ len ≤ cap ∧ cap ≤ maxLen ∧ zs.length = cap ∧ (∀ i, i < zs.length → w.cell? (x.add i) = some (.int k (zs.getD i 0))) ∧ ∀ n ∈ zs, (Lit.int k n).wf = true

/-! ### STEP 1: THE WALK: the Go text returns true, AND WRITES NOTHING THAT WAS THERE: 'Below w.heap.size w w'' (Derived/Below.lean: '.refl', '.alloc', '.drew', '.setCell' at a new block, '.trans'). Open each 'IsRow' by 'rcases' AHEAD of 'go_enter'; part every test ahead of the walk. -/
theorem walk (a0 : Option Addr) (len0 cap0 : Nat) (z0 : List Int) (w : World) (w0 : IsRow .u8 w a0 len0 cap0 z0) :
    Calls Try.prog 8 #[.slice a0 len0 cap0] w fun e w' => e = .returned (.bool true) ∧ Below w.heap.size w w' := by
  obtain ⟨hb, hl⟩ := bts_of w a0 len0 cap0 z0 w0
  rcases hl with hl | hl
  · go_enter Try.func8, Try.ntmps8
    go_wp2
    go_ret
    exact ⟨rfl, Below.refl _ _⟩
  have HB := Lib.hid hb
  clear hb w0
  go_enter Try.func8, Try.ntmps8
  go_wp2_with fail
  refine (drawAll_at w _ len0 ⟨_, _, rfl⟩ HB.out).mono ?_
  rintro e w1 ⟨x, m, c, rs, rfl, hrs, hb1⟩
  have B1 := Lib.hid hb1
  have hA := (Below.refl w1.heap.size w1).alloc (Nat.le_refl _) (.cells #[.slice x m c] 29)
  have RS := Lib.hid (hrs.below hA (Nat.le_refl _))
  have HA := Lib.hid hA
  have bd := allV_bd rs
  clear hb1 hrs hA
  go_wp2_with fail
  refine (roughAll_at _ _ rs RS.out).mono ?_
  rintro e w2 ⟨rfl, hb2⟩
  have sz := hb2.size
  simp only [World.size_alloc] at sz
  have cb : w2.cell? ⟨w1.heap.size, 0, none⟩ = some (.slice x m c) := by rw [hb2.cell (by simp)]; simp
  have R2 := Lib.hid (RS.out.below hb2 (Nat.le_refl _))
  have B2 := Lib.hid ((HA.out.trans (hb2.mono HA.out.size)))
  clear hb2
  go_wp2_with fail
  refine (spAll_at _ _ rs R2.out).mono ?_
  rintro e w3 ⟨rfl, hb3⟩
  have cb3 := cell_later hb3 cb
  have R3 := Lib.hid (R2.out.below hb3 (Nat.le_refl _))
  have B3 := Lib.hid (B2.out.trans (hb3.mono B2.out.size))
  have sz3 := hb3.size
  clear hb3 cb
  cases hok : okB rs with
  | false =>
    have av := allV_not hok
    rw [av]
    go_wp2_with fail
    refine (spAll_at _ _ rs R3.out).mono ?_
    rintro e w4 ⟨rfl, hb4⟩
    rw [av]
    clear av
    go_wp2
    go_ret
    exact ⟨rfl, B1.out.trans ((B3.out.trans (hb4.mono B3.out.size)).mono B1.out.size)⟩
  | true =>
    obtain ⟨b, o, cap, hu, hcap, hbl, hrow⟩ := ok_form R3.out hok
    obtain ⟨rfl, rfl, rfl⟩ : x = some ⟨b, o, none⟩ ∧ m = 3 ∧ c = cap := by simpa using hu
    have av := allV_ok hok
    have RW := Lib.hid hrow
    have HF := Lib.hid (fun (i : Nat) (hi : i < 3) => fine_okB hok i hi)
    obtain ⟨S, hS⟩ : ∃ S, S = allV rs := ⟨_, rfl⟩
    rw [← hS] at HF av ⊢
    clear hu hrow hok hS bd
    have nS : ¬ S < 0 := by omega
    go_wp2
    go_loop [5] (fun i => ∃ k : Nat, k ≤ 3 ∧ i = .int .i64 k) (fun i => 3 - (intOf i).toNat)
    case atStart => exact ⟨0, Nat.zero_le _, rfl⟩
    case round =>
      obtain ⟨k, hk, rfl⟩ := hrel
      by_cases hlt : k < 3
      · have hltB : decide ((k : Int) < 3) = true := by simp; omega
        obtain ⟨bi, oi, ci, e1, l1, r1⟩ := RW.out k hlt
        have R1 := Lib.hid r1
        have F := Lib.hid (HF.out k hlt)
        clear r1
        go_wp2
        go_loop [6, 7] (fun q j => ∃ (m : Nat), m ≤ 8 ∧ j = .int .i64 m ∧ q = .int .i64 ((rs.getD k []).take m).sum) (fun _ j => 8 - (intOf j).toNat)
        case atStart => exact ⟨0, Nat.zero_le _, rfl, rfl⟩
        case round =>
          obtain ⟨m, hm, rfl, rfl⟩ := hrel
          by_cases hmt : m < 8
          · have c1 := R1.out m hmt
            have hs := sum_take_succ (rs.getD k []) m (by rw [F.out.1.1]; exact hmt)
            have p0 := sum_nonneg (fun z hz => F.out.1.bd.1 z (List.mem_of_mem_take hz) : ∀ z ∈ (rs.getD k []).take m, 0 ≤ z)
            have p1 := sum_take_le F.out.1.bd.1 m
            have p2 := F.out.1.2.2
            have y := F.out.1.bd.2.2 m hmt
            generalize ((rs.getD k []).take m).sum = P at *
            generalize (rs.getD k []).getD m 0 = Y at *
            have HS := Lib.hid hs
            have p3 : P ≤ 2000 := by omega
            obtain ⟨y0, y1⟩ := y
            clear hs p1 p2
            go_wp2
            go_round
            case rel => exact ⟨m + 1, by omega, by go_num, by rw [HS.out]⟩
            case measure => simp [intOf]; omega
          · obtain rfl : m = 8 := by omega
            have hs : ((rs.getD k []).take 8).sum = S := by rw [List.take_of_length_le (by rw [F.out.1.1]; exact Nat.le_refl _)]; exact F.out.2
            rw [hs]
            clear hs
            go_wp2
            go_round
            case rel => exact ⟨k + 1, by omega, by go_num⟩
            case measure => simp [intOf]; omega
      · go_wp2_with fail
        refine (imNew_at _).mono ?_
        rintro e w4 ⟨u, G, C, rfl, ho, hb4⟩
        go_wp2_with fail
        refine (roughAll_at _ _ zero3 ho.rws).mono ?_
        rintro e w5 ⟨rfl, hb5⟩
        rw [zero3_ok.2]
        go_wp2
        go_ret
        exact ⟨rfl, B1.out.trans ((B3.out.trans ((hb4.mono B3.out.size).trans (hb5.mono (Nat.le_trans B3.out.size hb4.size)))).mono B1.out.size)⟩

/-! ### THE ROW's STEP: WRITTEN OUT: LEAVE IT -/
set_option maxRecDepth 100000 in
theorem lifted (os : Os) (started : os.Started) (H : Type) (enc : TypeId × Value → H) :
    ReturnsInHanded {} Try.checked os 8 .any (Rows.fnRoughAllSpec.pre6 enc Try.prog Try.f8 Rows.fnRoughAllRow.domain false) (Rows.fnRoughAllSpec.post enc Try.prog Try.f8 false true false false) := by
  refine returnsInHanded_of_change (C := Try.checked) own started (by kernel_rfl) Try.func8
    (ChangeSpec.witness6 (enc := enc) (C := Try.checked) false ⟨#[], #[.slice none 0 0], []⟩ 8 (by kernel_rfl) (by kernel_rfl) (by kernel_rfl) (by kernel_rfl)) ?_
  intro W base args ds gs before hval0 hW hcnd _
  have hval : ∀ (j : Nat) t v, Try.f8.params[j]? = some t → args[j]? = some v → Value.okWide Try.prog W .any base t v := hval0
  have hW' := hW
  obtain ⟨p, q, hA0, hV, rfl, hfz, hnd⟩ := hW
  have hA : DataW.TrodAll enc Try.prog W 0 (fun _ => true) true Try.f8.params.toList args.toList ds p := hA0
  rw [Try.params8] at hA hval
  obtain ⟨v0, vs0, d0, ds0, p0, q0, hargs, rfl, rfl, h0, r0⟩ := trodAll_cons hA
  obtain ⟨rfl, rfl, rfl⟩ := trodAll_nil r0
  obtain rfl : args = #[v0] := by cases args; simp_all
  obtain ⟨rfl, rfl⟩ := trodVars_none hV
  obtain ⟨a0, len0, cap0, rfl⟩ := okWide_slice Try.underlying22 (hval 0 22 v0 rfl rfl)
  have k0 := h0
  have lt0 : ∀ x ∈ p0, x.block < W.heap.size := by obtain ⟨m, hm⟩ := k0; exact DataW.trod_lt m _ _ _ hm
  obtain ⟨z0, w0⟩ : ∃ zs, IsRow .u8 W a0 len0 cap0 zs := by
    obtain ⟨fuel, hf⟩ := h0
    rcases open_ints Try.underlying22 Try.underlying5 (by kernel_rfl) hf with ⟨hcs, _⟩ | ⟨x, l, c, zs, hcs, _, hl, hm, hz, _, hcell, hwz⟩
    · simp [Value.cells] at hcs
      obtain ⟨rfl, rfl, rfl⟩ := hcs
      exact ⟨[], .inl ⟨rfl, rfl, rfl, rfl⟩⟩
    · simp [Value.cells] at hcs
      obtain ⟨rfl, rfl, rfl⟩ := hcs
      exact ⟨zs, .inr ⟨_, rfl, hl, hm, by simpa using hz, hcell, hwz⟩⟩
  clear hA0 hval0
  refine (walk a0 len0 cap0 z0 W w0).mono fun e W' ⟨he, bel⟩ => ?_
  subst he
  exact ⟨_, rfl, _, _, _, [], _, [], hW', trodAll_mk1 (shut_bool Try.underlying4 _), (trodAll_cons_mk (Below.trod laidOut (by kernel_rfl) (of_decide_eq_true (by kernel_rfl)) k0 bel lt0) trodAll_mk0), rfl, bel.frame _, fun h => by cases h⟩

theorem over : Rows.fnRoughAllRow.holds Try.pinned (OpenSpec.ofChange Rows.fnRoughAllSpec) :=
  OpenClaim.holds_of_wide 8 Try.f8 rfl rfl rfl rfl rfl rfl rfl ⟨rfl, rfl, rfl, rfl, rfl⟩ rfl rfl rfl rfl rfl (by kernel_rfl) Try.func8 (by kernel_rfl)
    (of_decide_eq_true (by kernel_rfl)) (by unfold Func.isWrapper; first | (rw [if_pos (by decide +kernel)]; kernel_rfl) | (rw [if_neg (by decide +kernel)]; exact ⟨rfl, rfl⟩))
    (fun os started H enc _ => lifted os started H enc)

theorem proved : Rows.FnRoughAllSaid := over
#print axioms proved
end Go.Proofs.Ytfboamfpippdnaa.fnRoughAll
