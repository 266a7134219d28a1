/-
  The statement of the law FnRankMore: at every input the call returns true and leaves what it was given as it was. The frame is the kit's shell; the walk is ours.
-/
import Derived.Test.YtnpcgbjkahpcfaaKDraw2
import Derived.Test.YtnpcgbjkahpcfaaKIm3
import Derived.Test.YtnpcgbjkahpcfaaKMath
import Derived.Deep.RegionWith
import Derived.Deep.Cut
import Derived.Test.YtnpcgbjkahpcfaaRows
import Derived.WalkKit
import Derived.ProofKit
import Derived.OpenShut
import Derived.ShutString
import Derived.ChangeOld
import Derived.Below
namespace Go.Proofs.Ytnpcgbjkahpcfaa.fnRankMore
open Go.ChangeShapes Go.WideShapes Go.ChangeAt Go.RowKit
open Go.ChangeMaps (open_string shut_string)
set_option linter.unusedVariables false

theorem own : ownKnob Try.prog.godebug = none := by kernel_rfl
theorem laidOut : laidOutB Try.prog = true := by kernel_rfl

/-- WHAT THE WALK IS TOLD OF A SLICE OF INTEGERS THAT CAME IN: it is nil; or it leads to a row of 'cap' cells, the numbers 'zs' (the first 'len' are its elements, the rest its spare room), each fitting its kind. -/
def IsRow (k : IntKind) (w : World) (a : Option Addr) (len cap : Nat) (zs : List Int) : Prop :=
  (a = none ∧ len = 0 ∧ cap = 0 ∧ zs = []) ∨
  ∃ x, a = some x ∧ len ≤ cap ∧ cap ≤ maxLen ∧ zs.length = cap ∧ (∀ i, i < zs.length → w.cell? (x.add i) = some (.int k (zs.getD i 0))) ∧ ∀ n ∈ zs, (Lit.int k n).wf = true

/-! ### STEP 1: THE WALK: the Go text returns true, AND WRITES NOTHING THAT WAS THERE: 'Below w.heap.size w w'' (Derived/Below.lean: '.refl', '.alloc', '.drew', '.setCell' at a new block, '.trans'). Open each 'IsRow' by 'rcases' AHEAD of 'go_enter'; part every test ahead of the walk. -/
set_option maxHeartbeats 8000000 in
theorem walk (a0 : Option Addr) (len0 cap0 : Nat) (z0 : List Int) (a1 : Option Addr) (len1 cap1 : Nat) (z1 : List Int) (w : World) (w0 : IsRow .u8 w a0 len0 cap0 z0) (w1 : IsRow .u8 w a1 len1 cap1 z1) :
    Calls Try.prog 7 #[.slice a0 len0 cap0, .slice a1 len1 cap1] w fun e w' => e = .returned (.bool true) ∧ Below w.heap.size w w' := by
  obtain ⟨hb, hl⟩ := bts_of w a0 len0 cap0 z0 w0
  obtain ⟨hb', hl'⟩ := bts_of w a1 len1 cap1 z1 w1
  rcases hl with hl | hl
  · go_enter Try.func7, Try.ntmps7
    go_wp2
    go_ret
    exact ⟨rfl, Below.refl _ _⟩
  rcases hl' with hl' | hl'
  · go_enter Try.func7, Try.ntmps7
    go_wp2
    go_ret
    exact ⟨rfl, Below.refl _ _⟩
  have HB := Lib.hid hb
  clear hb w0 hb' w1
  go_enter Try.func7, Try.ntmps7
  go_wp2_with fail
  refine (drawKBelow_at w _ len0 ⟨_, _, rfl⟩ HB.out).mono ?_
  rintro e w1 ⟨u, all, t, rfl, ht, ps, own, len, al, hb1⟩
  obtain ⟨x, c, rfl, _, _⟩ := own.form
  obtain ⟨m, hm⟩ : ∃ m, m = ps.length := ⟨_, rfl⟩
  have OR := own.rd
  rw [← hm] at OR len ⊢
  have HM := Lib.hid hm
  obtain ⟨W, hW⟩ : ∃ W, W = w1.alloc (.cells #[.slice x m c, .int .i64 all] 29) := ⟨_, rfl⟩
  have hA := (Below.refl w1.heap.size w1).alloc (Nat.le_refl _) (.cells #[.slice x m c, .int .i64 all] 29)
  have X0 : Box2 W w1.heap.size 29 (.slice x m c) (.int .i64 all) := by rw [hW]; exact Box2.new _ _ _ _
  have P0 : Hid (Prs W (.slice x m c) ps) := by show Prs _ _ _; rw [hW]; exact OR.below hA (Nat.le_refl _)
  have B0 : Hid (Below w.heap.size w W) := by show Below _ _ _; rw [hW]; exact hb1.trans (hA.mono hb1.size)
  clear own OR hA hb1 hm
  go_wp2_with fail
  rw [← hW]
  clear hW
  have x0 := X0.cell0
  have x1 := X0.cell1
  go_wp2_with fail
  refine (spRankBelow_at W _ ps all t P0.out).mono ?_
  rintro e w2 ⟨rfl, hb2⟩
  have X2 := X0.later hb2
  have P2 := Lib.hid (P0.out.below hb2 (Nat.le_refl _))
  have B2 := Lib.hid (B0.out.trans (hb2.mono B0.out.size))
  have K := Lib.hid (imRankBelow_at w2 _ ps all t P2.out)
  have NO : Hid (belOk ps all t = false → belL ps all t = -1 ∧ belM ps all t = -1) := fun h => by simp [belL, belM, h]
  have YES : Hid (belOk ps all t = true → RankP ps all ∧ (0 ≤ t ∧ t ≤ 63) ∧ belL ps all t = leastP ps t ∧ belM ps all t = mostP ps t) := fun h => ⟨(rankB_iff _ _).1 (belOk_yes h).1, (belOk_yes h).2, by simp [belL, h], by simp [belM, h]⟩
  clear hb2 X0 x0 x1 P0 B0
  have x0 := X2.cell0
  have x1 := X2.cell1
  generalize belL ps all t = L at *
  generalize belM ps all t = M at *
  have e1 : (L != L) = false := by simp
  have e2 : (M != M) = false := by simp
  have e3 : decide (L = L) = true := by simp
  have e4 : decide (M = M) = true := by simp
  go_wp2_with fail
  refine K.out.mono ?_
  rintro e w3 ⟨rfl, hb3⟩
  have X3 := X2.later hb3
  have P3 := Lib.hid (P2.out.below hb3 (Nat.le_refl _))
  have B3 := Lib.hid (B2.out.trans (hb3.mono B2.out.size))
  clear hb3 X2 x0 x1 K P2 B2
  have x0 := X3.cell0
  have x1 := X3.cell1
  cases hok : belOk ps all t with
  | false =>
    obtain ⟨rfl, rfl⟩ := NO.out hok
    clear hok NO YES
    go_wp2
    go_ret
    exact ⟨by first | rfl | simp, B3.out⟩
  | true =>
    obtain ⟨RP, ⟨t0, t1⟩, hL, hM⟩ := YES.out hok
    have hne : (64 : Int) - t ≠ 0 := by omega
    have hr0 : 0 ≤ (len1 : Int).tmod (64 - t) := Int.tmod_nonneg _ (by omega)
    have hr1 : (len1 : Int).tmod (64 - t) < 64 - t := Int.tmod_lt_of_pos _ (by omega)
    obtain ⟨r, hr⟩ : ∃ r, r = (len1 : Int).tmod (64 - t) := ⟨_, rfl⟩
    rw [← hr] at hr0 hr1
    have hr' := hr.symm
    obtain ⟨q1, q2⟩ := below_mono (ps := ps) (fun p hp => by have := (RP.num p hp).1; omega) (show t ≤ t + r by omega)
    rw [← hL] at q1
    rw [← hM] at q2
    have l0 : 0 ≤ L := by
      rw [hL]
      have : ∀ ps : List Pr, (∀ p ∈ ps, 0 ≤ p.2) → 0 ≤ leastP ps t := by
        intro ps
        induction ps with
        | nil => intro _; exact Int.le_refl _
        | cons p ps ih =>
          intro hn
          have := ih (fun q hq => hn q (List.mem_cons_of_mem _ hq))
          have := hn p (List.mem_cons_self ..)
          simp only [leastP]
          split <;> omega
      exact this ps (fun p hp => by have := (RP.num p hp).1; omega)
    have KK := Lib.hid (imRankBelow_yes w3.drew (.slice x m c) ps all (t + r) P3.out ((rankB_iff _ _).2 RP) (by omega) (by omega))
    generalize leastP ps (t + r) = L' at *
    generalize mostP ps (t + r) = M' at *
    have nl : ¬ L < 0 := by omega
    have w64 : IntKind.i64.wrap (64 - t) = 64 - t := IntWalk.i64_in _ (by omega)
    have wr : IntKind.i64.wrap r = r := IntWalk.i64_in _ (by omega)
    have wtr : IntKind.i64.wrap (t + r) = t + r := IntWalk.i64_in _ (by omega)
    have HQ := Lib.hid (And.intro q1 q2)
    clear hok NO YES RP hL hM q1 q2 hr
    go_upto_region 8 with fail
    go_region_with (first
      | (go_at_call 28; refine KK.out.mono ?_; rintro e w4 ⟨rfl, hb4⟩; have B4 := Lib.hid ((B3.out.trans (Below.drew (Below.refl _ _))).trans (hb4.mono B3.out.size)); clear hb4))
    all_goals
      obtain ⟨q1, q2⟩ := HQ.out
      go_wp2
      go_ret
      exact ⟨by first | rfl | simp | (simp; omega), B4.out⟩

/-! ### THE ROW's STEP: WRITTEN OUT: LEAVE IT -/
set_option maxRecDepth 100000 in
theorem lifted (os : Os) (started : os.Started) (H : Type) (enc : TypeId × Value → H) :
    ReturnsInHanded {} Try.checked os 7 .any (Rows.fnRankMoreSpec.pre6 enc Try.prog Try.f7 Rows.fnRankMoreRow.domain false) (Rows.fnRankMoreSpec.post enc Try.prog Try.f7 false true false false) := by
  refine returnsInHanded_of_change (C := Try.checked) own started (by kernel_rfl) Try.func7
    (ChangeSpec.witness6 (enc := enc) (C := Try.checked) false ⟨#[], #[.slice none 0 0, .slice none 0 0], []⟩ 8 (by kernel_rfl) (by kernel_rfl) (by kernel_rfl) (by kernel_rfl)) ?_
  intro W base args ds gs before hval0 hW hcnd _
  have hval : ∀ (j : Nat) t v, Try.f7.params[j]? = some t → args[j]? = some v → Value.okWide Try.prog W .any base t v := hval0
  have hW' := hW
  obtain ⟨p, q, hA0, hV, rfl, hfz, hnd⟩ := hW
  have hA : DataW.TrodAll enc Try.prog W 0 (fun _ => true) true Try.f7.params.toList args.toList ds p := hA0
  rw [Try.params7] at hA hval
  obtain ⟨v0, vs0, d0, ds0, p0, q0, hargs, rfl, rfl, h0, r0⟩ := trodAll_cons hA
  obtain ⟨v1, vs1, d1, ds1, p1, q1, rfl, rfl, rfl, h1, r1⟩ := trodAll_cons r0
  obtain ⟨rfl, rfl, rfl⟩ := trodAll_nil r1
  obtain rfl : args = #[v0, v1] := by cases args; simp_all
  obtain ⟨rfl, rfl⟩ := trodVars_none hV
  obtain ⟨a0, len0, cap0, rfl⟩ := okWide_slice Try.underlying22 (hval 0 22 v0 rfl rfl)
  have k0 := h0
  have lt0 : ∀ x ∈ p0, x.block < W.heap.size := by obtain ⟨m, hm⟩ := k0; exact DataW.trod_lt m _ _ _ hm
  obtain ⟨z0, w0⟩ : ∃ zs, IsRow .u8 W a0 len0 cap0 zs := by
    obtain ⟨fuel, hf⟩ := h0
    rcases open_ints Try.underlying22 Try.underlying5 (by kernel_rfl) hf with ⟨hcs, _⟩ | ⟨x, l, c, zs, hcs, _, hl, hm, hz, _, hcell, hwz⟩
    · simp [Value.cells] at hcs
      obtain ⟨rfl, rfl, rfl⟩ := hcs
      exact ⟨[], .inl ⟨rfl, rfl, rfl, rfl⟩⟩
    · simp [Value.cells] at hcs
      obtain ⟨rfl, rfl, rfl⟩ := hcs
      exact ⟨zs, .inr ⟨_, rfl, hl, hm, by simpa using hz, hcell, hwz⟩⟩
  obtain ⟨a1, len1, cap1, rfl⟩ := okWide_slice Try.underlying22 (hval 1 22 v1 rfl rfl)
  have k1 := h1
  have lt1 : ∀ x ∈ p1, x.block < W.heap.size := by obtain ⟨m, hm⟩ := k1; exact DataW.trod_lt m _ _ _ hm
  obtain ⟨z1, w1⟩ : ∃ zs, IsRow .u8 W a1 len1 cap1 zs := by
    obtain ⟨fuel, hf⟩ := h1
    rcases open_ints Try.underlying22 Try.underlying5 (by kernel_rfl) hf with ⟨hcs, _⟩ | ⟨x, l, c, zs, hcs, _, hl, hm, hz, _, hcell, hwz⟩
    · simp [Value.cells] at hcs
      obtain ⟨rfl, rfl, rfl⟩ := hcs
      exact ⟨[], .inl ⟨rfl, rfl, rfl, rfl⟩⟩
    · simp [Value.cells] at hcs
      obtain ⟨rfl, rfl, rfl⟩ := hcs
      exact ⟨zs, .inr ⟨_, rfl, hl, hm, by simpa using hz, hcell, hwz⟩⟩
  clear hA0 hval0
  refine (walk a0 len0 cap0 z0 a1 len1 cap1 z1 W w0 w1).mono fun e W' ⟨he, bel⟩ => ?_
  subst he
  exact ⟨_, rfl, _, _, _, [], _, [], hW', trodAll_mk1 (shut_bool Try.underlying4 _), (trodAll_cons_mk (Below.trod laidOut (by kernel_rfl) (of_decide_eq_true (by kernel_rfl)) k0 bel lt0) (trodAll_cons_mk (Below.trod laidOut (by kernel_rfl) (of_decide_eq_true (by kernel_rfl)) k1 bel lt1) trodAll_mk0)), rfl, bel.frame _, fun h => by cases h⟩

theorem over : Rows.fnRankMoreRow.holds Try.pinned (OpenSpec.ofChange Rows.fnRankMoreSpec) :=
  OpenClaim.holds_of_wide 7 Try.f7 rfl rfl rfl rfl rfl rfl rfl ⟨rfl, rfl, rfl, rfl, rfl⟩ rfl rfl rfl rfl rfl (by kernel_rfl) Try.func7 (by kernel_rfl)
    (of_decide_eq_true (by kernel_rfl)) (by unfold Func.isWrapper; first | (rw [if_pos (by decide +kernel)]; kernel_rfl) | (rw [if_neg (by decide +kernel)]; exact ⟨rfl, rfl⟩))
    (fun os started H enc _ => lifted os started H enc)

theorem proved : Rows.FnRankMoreSaid := over
#print axioms proved
end Go.Proofs.Ytnpcgbjkahpcfaa.fnRankMore
