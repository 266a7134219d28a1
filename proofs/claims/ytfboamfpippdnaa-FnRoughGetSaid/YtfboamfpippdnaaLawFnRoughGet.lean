/-
  The statement of the law FnRoughGet: at every input the call returns true and leaves what it was given as it was. The frame is the kit's shell; the walk is ours.
-/
import Derived.Test.YtfboamfpippdnaaDGet2
import Derived.Test.YtfboamfpippdnaaRows
import Derived.WalkKit
import Derived.ProofKit
import Derived.OpenShut
import Derived.ShutString
import Derived.ChangeOld
import Derived.Below
namespace Go.Proofs.Ytfboamfpippdnaa.fnRoughGet
open Go.ChangeShapes Go.WideShapes Go.ChangeAt Go.RowKit
open Go.ChangeMaps (open_string shut_string)
open Go.Sort (grow)
set_option linter.unusedVariables false

theorem own : ownKnob Try.prog.godebug = none := by kernel_rfl
theorem laidOut : laidOutB Try.prog = true := by kernel_rfl

/-- WHAT THE WALK IS TOLD OF A SLICE OF INTEGERS THAT CAME IN: it is nil; or it leads to a row of 'cap' cells, the numbers 'zs' (the first 'len' are its elements, the rest its spare room), each fitting its kind. -/
def IsRow (k : IntKind) (w : World) (a : Option Addr) (len cap : Nat) (zs : List Int) : Prop :=
  (a = none ∧ len = 0 ∧ cap = 0 ∧ zs = []) ∨
  ∃ x, a = some x ∧ len ≤ cap ∧ cap ≤ maxLen ∧ zs.length = cap ∧ (∀ i, i < zs.length → w.cell? (x.add i) = some (.int k (zs.getD i 0))) ∧ ∀ n ∈ zs, (Lit.int k n).wf = true

/-! ### STEP 1: THE WALK: the Go text returns true, AND WRITES NOTHING THAT WAS THERE: 'Below w.heap.size w w'' (Derived/Below.lean: '.refl', '.alloc', '.drew', '.setCell' at a new block, '.trans'). Open each 'IsRow' by 'rcases' AHEAD of 'go_enter'; part every test ahead of the walk. -/
theorem walk (a0 : Option Addr) (len0 cap0 : Nat) (z0 : List Int) (w : World) (w0 : IsRow .u8 w a0 len0 cap0 z0) :
    Calls Try.prog 7 #[.slice a0 len0 cap0] w fun e w' => e = .returned (.bool true) ∧ Below w.heap.size w w' := by
  obtain ⟨hb, hl⟩ := bts_of w a0 len0 cap0 z0 w0
  rcases hl with hl | hl
  · go_enter Try.func7, Try.ntmps7
    go_wp2
    go_ret
    exact ⟨rfl, Below.refl _ _⟩
  have HB := Lib.hid hb
  clear hb w0
  go_enter Try.func7, Try.ntmps7
  go_wp2_with fail
  refine (drawGet_at w _ len0 ⟨_, _, rfl⟩ HB.out).mono ?_
  rintro e w1 ⟨x, m, c, rs, t, rfl, hrs, t0, t1, hb1⟩
  have B1 := Lib.hid hb1
  have hA := (Below.refl w1.heap.size w1).alloc (Nat.le_refl _) (.cells #[.slice x m c] 29)
  have RS := Lib.hid (hrs.below hA (Nat.le_refl _))
  have HA := Lib.hid hA
  clear hb1 hrs hA
  go_wp2_with fail
  refine (imGet_at _ _ rs t RS.out).mono ?_
  rintro e w2 ⟨rfl, hb2⟩
  have sz := hb2.size
  simp only [World.size_alloc] at sz
  have cb : w2.cell? ⟨w1.heap.size, 0, none⟩ = some (.slice x m c) := by rw [hb2.cell (by simp)]; simp
  have R2 := Lib.hid (RS.out.below hb2 (Nat.le_refl _))
  have B2 := Lib.hid ((HA.out.trans (hb2.mono HA.out.size)))
  clear hb2
  go_wp2_with fail
  refine (spGet_at _ _ rs t R2.out).mono ?_
  rintro e w3 ⟨rfl, hb3⟩
  have cb3 := cell_later hb3 cb
  have R3 := Lib.hid (R2.out.below hb3 (Nat.le_refl _))
  have B3 := Lib.hid (B2.out.trans (hb3.mono B2.out.size))
  have sz3 := hb3.size
  obtain ⟨V, hV⟩ : ∃ V, V = getV rs t := ⟨_, rfl⟩
  rw [← hV]
  clear hb3 cb
  by_cases hok : okB rs = true ∧ 0 ≤ t ∧ t < 64
  · obtain ⟨ok, h0, h1⟩ := hok
    obtain ⟨b, o, cap, hu, hcap, hbl, hrow⟩ := ok_form R3.out ok
    obtain ⟨rfl, rfl, rfl⟩ : x = some ⟨b, o, none⟩ ∧ m = 3 ∧ c = cap := by simpa using hu
    have hall : ∀ i, i < 3 → atV rs i t ≤ allV rs := fun i hi => by
      obtain ⟨P, _, hP, e⟩ := place_nat i t
      have F := fine_okB ok i hi
      have hs := sum_take_succ (rs.getD i []) P (by rw [F.1.1]; exact hP)
      have p0 := sum_nonneg (fun z hz => F.1.bd.1 z (List.mem_of_mem_take hz) : ∀ z ∈ (rs.getD i []).take P, 0 ≤ z)
      have p1 := sum_take_le F.1.bd.1 (P + 1)
      have p2 := F.2
      unfold atV
      rw [e]
      omega
    have hbd := fun i hi => atV_bd ok i hi t
    have v := hV.trans (getV_ok ok h0 h1)
    have a0 := hbd 0 (by omega)
    have a1 := hbd 1 (by omega)
    have a2 := hbd 2 (by omega)
    have l0 := hall 0 (by omega)
    have vle : ∀ i, i < 3 → V ≤ atV rs i t := fun i hi => by
      rcases (by omega : i = 0 ∨ i = 1 ∨ i = 2) with rfl | rfl | rfl <;> omega
    have vex : ∃ j, j < 3 ∧ atV rs j t = V := by
      rcases (by omega : atV rs 0 t = V ∨ atV rs 1 t = V ∨ atV rs 2 t = V) with h | h | h
      · exact ⟨0, by omega, h⟩
      · exact ⟨1, by omega, h⟩
      · exact ⟨2, by omega, h⟩
    have v0 : 0 ≤ V := by omega
    have v1 : V ≤ allV rs := by omega
    have v2 : V ≤ 2000 := by omega
    have RW := Lib.hid hrow
    have BD := Lib.hid hbd
    have VLE := Lib.hid vle
    have VEX := Lib.hid vex
    have V1 := Lib.hid v1
    clear hu hrow hall hbd v a0 a1 a2 l0 vle vex v1 hV
    have nV : ¬ V < 0 := by omega
    go_wp2
    go_loopw [6, 7] (fun q i wr => ∃ k : Nat, k ≤ 3 ∧ i = .int .i64 k ∧ ∃ bo, q = .bool bo ∧ (bo = true ↔ ∃ j, j < k ∧ atV rs j t = V) ∧ Below w3.heap.size w3 wr) (fun _ i _ => 3 - (intOf i).toNat)
    case atStart => exact ⟨0, Nat.zero_le _, rfl, false, rfl, by simp, Below.refl _ _⟩
    case round =>
      obtain ⟨k, hk, rfl, bo, rfl, hbo, hbl3⟩ := hrel
      have HL := Lib.hid hbl3
      clear hbl3
      by_cases hlt : k < 3
      · have hltB : decide ((k : Int) < 3) = true := by simp; omega
        obtain ⟨bi, oi, ci, e1, l1, r1⟩ := RW.out k hlt
        obtain ⟨P, hP, hP8, hPn⟩ := place_nat (k : Int) t
        have c1 : w3.cell? ⟨bi, oi + P, none⟩ = some (.int .i64 (atV rs k t)) := by unfold atV; rw [hPn]; exact r1 P hP8
        have K1 : Hid (∀ W, Calls Try.prog 16 #[.int .i64 k, .int .i64 t] W fun e w' => e = .returned (.int .i64 P) ∧ Below W.heap.size W w') := fun W => by
          rw [← hP]; exact (roughPlace_yes k t W (by omega) (by omega) h0 h1).mono fun e w' h => ⟨h.1, h.2 ▸ Below.refl _ _⟩
        have hle := VLE.out k hlt
        have hY := BD.out k hlt
        have hst : ((bo = true ∨ atV rs k t = V) ↔ ∃ j, j < k + 1 ∧ atV rs j t = V) := by
          rw [hbo]
          constructor
          · rintro (⟨j, hj, e⟩ | e)
            · exact ⟨j, by omega, e⟩
            · exact ⟨k, by omega, e⟩
          · rintro ⟨j, hj, e⟩
            by_cases h : j = k
            · exact .inr (h ▸ e)
            · exact .inl ⟨j, by omega, e⟩
        have HST := Lib.hid hst
        have rb := cell_regrown (cell_later HL.out cb3)
        have re := cell_regrown (cell_later HL.out e1)
        have rx := cell_regrown (cell_later HL.out c1)
        generalize atV rs k t = Y at *
        have nY : ¬ Y < V := by omega
        have k0 : (0 : Int) ≤ (k : Int) := by omega
        have k3 : (k : Int) < 3 := by omega
        have P8 : (P : Int) < 8 := by omega
        clear hP hPn r1 hst hbo e1 c1
        go_wp2
        refine boxed_region (by kernel_rfl) (by kernel_rfl) ?_
        repeat (refine boxed_step (fun K hK => ?_); go_simp; first | (refine hK _ ?_; clear hK K) | (apply Exists.intro; refine ⟨fun _ => ?_, hK _ ?_⟩; (exact Calls.regrown_of (K1.out _)); clear hK K))
        refine boxed_nil ?_
        intro _ hw'
        obtain ⟨⟨dq, oq⟩, hw''⟩ := hw'
        subst hw''
        have hb_w5 := below_regrown wr dq oq
        obtain ⟨w5, hq_w5⟩ : ∃ x, x = grow (redrawn wr dq) oq := ⟨_, rfl⟩
        rw [← hq_w5] at hb_w5 ⊢
        clear hq_w5
        have HL5 := Lib.hid (HL.out.trans (hb_w5.mono HL.out.size))
        clear hb_w5 rb re rx
        cases bo with
        | true =>
          go_wp2
          go_roundw
          case rel => exact ⟨k + 1, by omega, by go_num, true, by simp, by simpa using HST.out, HL5.out⟩
          case measure => simp [intOf]; omega
        | false =>
          by_cases hYV : Y = V
          · go_wp2
            go_roundw
            case rel => exact ⟨k + 1, by omega, by go_num, true, by simp, by simpa [hYV] using HST.out, HL5.out⟩
            case measure => simp [intOf]; omega
          · go_wp2
            go_roundw
            case rel => exact ⟨k + 1, by omega, by go_num, false, by simp [hYV], by simpa [hYV] using HST.out, HL5.out⟩
            case measure => simp [intOf]; omega
      · obtain rfl : k = 3 := by omega
        obtain rfl : bo = true := hbo.2 VEX.out
        clear hbo
        have cb4 := cell_later HL.out cb3
        have R4 := Lib.hid (R3.out.below HL.out (Nat.le_refl _))
        go_wp2_with fail
        refine (roughAll_at _ _ rs R4.out).mono ?_
        rintro e w4 ⟨rfl, hb4⟩
        have v1 := V1.out
        go_wp2
        go_ret
        exact ⟨by simp, B1.out.trans ((B3.out.trans ((HL.out.trans (hb4.mono HL.out.size)).mono B3.out.size)).mono B1.out.size)⟩
  · obtain rfl : V = -1 := hV.trans (if_neg hok)
    have HV := Lib.hid hV
    clear hV
    go_wp2_with fail
    refine (spGet_at _ _ rs t R3.out).mono ?_
    rintro e w4 ⟨rfl, hb4⟩
    rw [← HV.out]
    go_wp2
    go_ret
    exact ⟨by simp, B1.out.trans ((B3.out.trans (hb4.mono B3.out.size)).mono B1.out.size)⟩

/-! ### THE ROW's STEP: WRITTEN OUT: LEAVE IT -/
set_option maxRecDepth 100000 in
theorem lifted (os : Os) (started : os.Started) (H : Type) (enc : TypeId × Value → H) :
    ReturnsInHanded {} Try.checked os 7 .any (Rows.fnRoughGetSpec.pre6 enc Try.prog Try.f7 Rows.fnRoughGetRow.domain false) (Rows.fnRoughGetSpec.post enc Try.prog Try.f7 false true false false) := by
  refine returnsInHanded_of_change (C := Try.checked) own started (by kernel_rfl) Try.func7
    (ChangeSpec.witness6 (enc := enc) (C := Try.checked) false ⟨#[], #[.slice none 0 0], []⟩ 8 (by kernel_rfl) (by kernel_rfl) (by kernel_rfl) (by kernel_rfl)) ?_
  intro W base args ds gs before hval0 hW hcnd _
  have hval : ∀ (j : Nat) t v, Try.f7.params[j]? = some t → args[j]? = some v → Value.okWide Try.prog W .any base t v := hval0
  have hW' := hW
  obtain ⟨p, q, hA0, hV, rfl, hfz, hnd⟩ := hW
  have hA : DataW.TrodAll enc Try.prog W 0 (fun _ => true) true Try.f7.params.toList args.toList ds p := hA0
  rw [Try.params7] at hA hval
  obtain ⟨v0, vs0, d0, ds0, p0, q0, hargs, rfl, rfl, h0, r0⟩ := trodAll_cons hA
  obtain ⟨rfl, rfl, rfl⟩ := trodAll_nil r0
  obtain rfl : args = #[v0] := by cases args; simp_all
  obtain ⟨rfl, rfl⟩ := trodVars_none hV
  obtain ⟨a0, len0, cap0, rfl⟩ := okWide_slice Try.underlying22 (hval 0 22 v0 rfl rfl)
  have k0 := h0
  have lt0 : ∀ x ∈ p0, x.block < W.heap.size := by obtain ⟨m, hm⟩ := k0; exact DataW.trod_lt m _ _ _ hm
  obtain ⟨z0, w0⟩ : ∃ zs, IsRow .u8 W a0 len0 cap0 zs := by
    obtain ⟨fuel, hf⟩ := h0
    rcases open_ints Try.underlying22 Try.underlying5 (by kernel_rfl) hf with ⟨hcs, _⟩ | ⟨x, l, c, zs, hcs, _, hl, hm, hz, _, hcell, hwz⟩
    · simp [Value.cells] at hcs
      obtain ⟨rfl, rfl, rfl⟩ := hcs
      exact ⟨[], .inl ⟨rfl, rfl, rfl, rfl⟩⟩
    · simp [Value.cells] at hcs
      obtain ⟨rfl, rfl, rfl⟩ := hcs
      exact ⟨zs, .inr ⟨_, rfl, hl, hm, by simpa using hz, hcell, hwz⟩⟩
  clear hA0 hval0
  refine (walk a0 len0 cap0 z0 W w0).mono fun e W' ⟨he, bel⟩ => ?_
  subst he
  exact ⟨_, rfl, _, _, _, [], _, [], hW', trodAll_mk1 (shut_bool Try.underlying4 _), (trodAll_cons_mk (Below.trod laidOut (by kernel_rfl) (of_decide_eq_true (by kernel_rfl)) k0 bel lt0) trodAll_mk0), rfl, bel.frame _, fun h => by cases h⟩

theorem over : Rows.fnRoughGetRow.holds Try.pinned (OpenSpec.ofChange Rows.fnRoughGetSpec) :=
  OpenClaim.holds_of_wide 7 Try.f7 rfl rfl rfl rfl rfl rfl rfl ⟨rfl, rfl, rfl, rfl, rfl⟩ rfl rfl rfl rfl rfl (by kernel_rfl) Try.func7 (by kernel_rfl)
    (of_decide_eq_true (by kernel_rfl)) (by unfold Func.isWrapper; first | (rw [if_pos (by decide +kernel)]; kernel_rfl) | (rw [if_neg (by decide +kernel)]; exact ⟨rfl, rfl⟩))
    (fun os started H enc _ => lifted os started H enc)

theorem proved : Rows.FnRoughGetSaid := over
#print axioms proved
end Go.Proofs.Ytfboamfpippdnaa.fnRoughGet
