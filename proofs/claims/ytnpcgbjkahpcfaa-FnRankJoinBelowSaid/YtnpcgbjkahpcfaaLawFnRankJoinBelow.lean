/-
  The statement of the law FnRankJoinBelow: at every input the call returns true and leaves what it was given as it was. The frame is the kit's shell; the walk is ours.
-/
import Derived.Test.YtnpcgbjkahpcfaaKDraw3
import Derived.Test.YtnpcgbjkahpcfaaKLk
import Derived.Test.YtnpcgbjkahpcfaaKSay
import Derived.Test.YtnpcgbjkahpcfaaKSpJoin2
import Derived.Test.YtnpcgbjkahpcfaaRows
import Derived.WalkKit
import Derived.ProofKit
import Derived.OpenShut
import Derived.ShutString
import Derived.ChangeOld
import Derived.Below
namespace Go.Proofs.Ytnpcgbjkahpcfaa.fnRankJoinBelow
open Go.ChangeShapes Go.WideShapes Go.ChangeAt Go.RowKit
open Go.ChangeMaps (open_string shut_string)
set_option linter.unusedVariables false

theorem own : ownKnob Try.prog.godebug = none := by kernel_rfl
theorem laidOut : laidOutB Try.prog = true := by kernel_rfl

/-- WHAT THE WALK IS TOLD OF A SLICE OF INTEGERS THAT CAME IN: it is nil; or it leads to a row of 'cap' cells, the numbers 'zs' (the first 'len' are its elements, the rest its spare room), each fitting its kind. -/
def IsRow (k : IntKind) (w : World) (a : Option Addr) (len cap : Nat) (zs : List Int) : Prop :=
  (a = none ∧ len = 0 ∧ cap = 0 ∧ zs = []) ∨
  ∃ x, a = some x ∧ len ≤ cap ∧ cap ≤ maxLen ∧ zs.length = cap ∧ (∀ i, i < zs.length → w.cell? (x.add i) = some (.int k (zs.getD i 0))) ∧ ∀ n ∈ zs, (Lit.int k n).wf = true

/-! ### STEP 1: THE WALK: the Go text returns true, AND WRITES NOTHING THAT WAS THERE: 'Below w.heap.size w w'' (Derived/Below.lean: '.refl', '.alloc', '.drew', '.setCell' at a new block, '.trans'). Open each 'IsRow' by 'rcases' AHEAD of 'go_enter'; part every test ahead of the walk. -/
theorem walk (a0 : Option Addr) (len0 cap0 : Nat) (z0 : List Int) (w : World) (w0 : IsRow .u8 w a0 len0 cap0 z0) :
    Calls Try.prog 10 #[.slice a0 len0 cap0] w fun e w' => e = .returned (.bool true) ∧ Below w.heap.size w w' := by
  obtain ⟨hb, hl⟩ := bts_of w a0 len0 cap0 z0 w0
  rcases hl with hl | hl
  · go_enter Try.func10, Try.ntmps10
    go_wp2
    go_ret
    exact ⟨rfl, Below.refl _ _⟩
  have HB := Lib.hid hb
  clear hb w0
  go_enter Try.func10, Try.ntmps10
  go_wp2_with fail
  refine (drawKJoin_at w _ len0 ⟨_, _, rfl⟩ HB.out).mono ?_
  rintro e w1 ⟨u, aa, u', ab, rfl, ps, qs, ⟨own, len, al⟩, ⟨own', len', al'⟩, hb1⟩
  obtain ⟨x, c, rfl, _, _⟩ := own.form
  obtain ⟨y, d, rfl, _, _⟩ := own'.form
  obtain ⟨m, hm⟩ : ∃ m, m = ps.length := ⟨_, rfl⟩
  obtain ⟨k, hk⟩ : ∃ k, k = qs.length := ⟨_, rfl⟩
  have OR := own.rd
  have OQ := own'.rd
  rw [← hm] at OR len ⊢
  rw [← hk] at OQ len' ⊢
  have HM := Lib.hid hm
  have HK := Lib.hid hk
  clear hm hk own own'
  obtain ⟨W1, hW⟩ : ∃ W, W = (w1.alloc (.cells #[.slice x m c, .int .i64 aa] 29)).alloc (.cells #[.slice y k d, .int .i64 ab] 29) := ⟨_, rfl⟩
  have hA : Below w1.heap.size w1 W1 := by rw [hW]; exact ((Below.refl _ _).alloc (Nat.le_refl _) _).alloc (by simp) _
  have bxX1 : Box2 W1 w1.heap.size 29 (.slice x m c) (.int .i64 aa) := by rw [hW]; exact (Box2.new w1 _ _ _).alloc _
  have bxY1 : Box2 W1 (w1.heap.size + 1) 29 (.slice y k d) (.int .i64 ab) := by rw [hW]; have := Box2.new (w1.alloc (.cells #[.slice x m c, .int .i64 aa] 29)) 29 (.slice y k d) (.int .i64 ab); rwa [World.size_alloc] at this
  have PX1 : Hid (Prs W1 (.slice x m c) ps) := OR.below hA (Nat.le_refl _)
  have PY1 : Hid (Prs W1 (.slice y k d) qs) := OQ.below hA (Nat.le_refl _)
  have BW1 : Hid (Below w.heap.size w W1) := hb1.trans (hA.mono hb1.size)
  clear OR OQ hA hb1
  go_wp2_with fail
  rw [← hW]
  clear hW
  have S2 := spRankJoin_at W1 _ _ ps aa qs ab PX1.out PY1.out
  have I2 : ∀ w u v, Prs w u ps → Prs w v qs → _ := fun w u v h h' => imRankJoin_at w u v ps aa qs ab h h'
  have AM := @joinK_say ps qs aa ab
  have LN := joinK_len ps aa qs ab
  generalize joinK ps aa qs ab = A at S2 I2 AM LN
  generalize joinOkK ps aa qs ab = ok at S2 I2 AM
  obtain ⟨ns, na⟩ := A
  simp only at S2 I2 AM LN
  have HS2 := Lib.hid S2
  have HI2 := Lib.hid I2
  have HAM := Lib.hid AM
  have HLN := Lib.hid LN
  clear S2 I2 AM LN
  refine HS2.out.mono ?_
  rintro e w2 ⟨v, rfl, ow, hb⟩
  obtain ⟨s, g, rfl, _, _⟩ := ow.form
  obtain ⟨n, hn⟩ : ∃ n, n = ns.length := ⟨_, rfl⟩
  have OR := ow.rd
  rw [← hn] at OR ⊢
  have HNN := Lib.hid hn
  clear hn ow
  obtain ⟨W2, hW⟩ : ∃ W, W = w2.alloc (.cells #[.slice s n g, .int .i64 na] 29) := ⟨_, rfl⟩
  have hA := (Below.refl w2.heap.size w2).alloc (Nat.le_refl _) (.cells #[.slice s n g, .int .i64 na] 29)
  have bxS2 : Box2 W2 w2.heap.size 29 (.slice s n g) (.int .i64 na) := by rw [hW]; exact Box2.new _ _ _ _
  have bxX2 : Box2 W2 w1.heap.size 29 (.slice x m c) (.int .i64 aa) := by rw [hW]; exact (bxX1.later hb).alloc _
  have PX2 : Hid (Prs W2 (.slice x m c) ps) := by show Prs _ _ _; rw [hW]; exact (PX1.out.below hb (Nat.le_refl _)).below hA (Nat.le_refl _)
  have bxY2 : Box2 W2 (w1.heap.size + 1) 29 (.slice y k d) (.int .i64 ab) := by rw [hW]; exact (bxY1.later hb).alloc _
  have PY2 : Hid (Prs W2 (.slice y k d) qs) := by show Prs _ _ _; rw [hW]; exact (PY1.out.below hb (Nat.le_refl _)).below hA (Nat.le_refl _)
  have PS2 : Hid (Prs W2 (.slice s n g) ns) := by show Prs _ _ _; rw [hW]; exact OR.below hA (Nat.le_refl _)
  have BW2 : Hid (Below w.heap.size w W2) := by show Below _ _ _; rw [hW]; exact (BW1.out.trans (hb.mono BW1.out.size)).trans (hA.mono (BW1.out.trans (hb.mono BW1.out.size)).size)
  have xaX := (bxX1.later hb).alloc (.cells #[.slice s n g, .int .i64 na] 29)
  have ax0 := xaX.cell0
  have ax1 := xaX.cell1
  have xaY := (bxY1.later hb).alloc (.cells #[.slice s n g, .int .i64 na] 29)
  have ay0 := xaY.cell0
  have ay1 := xaY.cell1
  clear OR hA hb xaX xaY
  go_wp2_with fail
  rw [← hW]
  clear hW ax0 ax1 ay0 ay1
  clear bxX1 PX1 bxY1 PY1 BW1
  refine (HI2.out W2 _ _ PX2.out PY2.out).mono ?_
  rintro e w3 ⟨v, rfl, ow, hb⟩
  obtain ⟨i, h, rfl, _, _⟩ := ow.form
  have OR := ow.rd
  rw [← HNN.out] at OR ⊢
  clear ow
  obtain ⟨W3, hW⟩ : ∃ W, W = w3.alloc (.cells #[.slice i n h, .int .i64 na] 29) := ⟨_, rfl⟩
  have hA := (Below.refl w3.heap.size w3).alloc (Nat.le_refl _) (.cells #[.slice i n h, .int .i64 na] 29)
  have bxI3 : Box2 W3 w3.heap.size 29 (.slice i n h) (.int .i64 na) := by rw [hW]; exact Box2.new _ _ _ _
  have bxX3 : Box2 W3 w1.heap.size 29 (.slice x m c) (.int .i64 aa) := by rw [hW]; exact (bxX2.later hb).alloc _
  have PX3 : Hid (Prs W3 (.slice x m c) ps) := by show Prs _ _ _; rw [hW]; exact (PX2.out.below hb (Nat.le_refl _)).below hA (Nat.le_refl _)
  have bxY3 : Box2 W3 (w1.heap.size + 1) 29 (.slice y k d) (.int .i64 ab) := by rw [hW]; exact (bxY2.later hb).alloc _
  have PY3 : Hid (Prs W3 (.slice y k d) qs) := by show Prs _ _ _; rw [hW]; exact (PY2.out.below hb (Nat.le_refl _)).below hA (Nat.le_refl _)
  have bxS3 : Box2 W3 w2.heap.size 29 (.slice s n g) (.int .i64 na) := by rw [hW]; exact (bxS2.later hb).alloc _
  have PS3 : Hid (Prs W3 (.slice s n g) ns) := by show Prs _ _ _; rw [hW]; exact (PS2.out.below hb (Nat.le_refl _)).below hA (Nat.le_refl _)
  have PI3 : Hid (Prs W3 (.slice i n h) ns) := by show Prs _ _ _; rw [hW]; exact OR.below hA (Nat.le_refl _)
  have BW3 : Hid (Below w.heap.size w W3) := by show Below _ _ _; rw [hW]; exact (BW2.out.trans (hb.mono BW2.out.size)).trans (hA.mono (BW2.out.trans (hb.mono BW2.out.size)).size)
  have xaS := (bxS2.later hb).alloc (.cells #[.slice i n h, .int .i64 na] 29)
  have as0 := xaS.cell0
  have as1 := xaS.cell1
  clear OR hA hb xaS
  go_wp2_with fail
  rw [← hW]
  clear hW as0 as1
  clear bxX2 PX2 bxY2 PY2 bxS2 PS2 BW2
  have KL := Lib.hid (fun (w : World) (u v : Value) (p : Prs w u ns) (q : Prs w v ns) => lkRank_same w u v ns na p q (by have := HLN.out; omega))
  have KO := Lib.hid (fun (w : World) (u : Value) (p : Prs w u ns) => imRankOk_at w u ns na p)
  cases ok with
  | false =>
    have cs0 := bxS3.cell0
    have cs1 := bxS3.cell1
    have ci0 := bxI3.cell0
    have ci1 := bxI3.cell1
    go_wp2_with fail
    refine (KL.out W3 _ _ PI3.out PS3.out).mono ?_
    rintro e w4 ⟨rfl, hb⟩
    have bxS4 := bxS3.later hb
    have PS4 := Lib.hid (PS3.out.below hb (Nat.le_refl _))
    have bxI4 := bxI3.later hb
    have PI4 := Lib.hid (PI3.out.below hb (Nat.le_refl _))
    have BW4 := Lib.hid (BW3.out.trans (hb.mono BW3.out.size))
    clear hb cs0 cs1 ci0 ci1
    clear bxX3 PX3 bxY3 PY3 bxS3 PS3 bxI3 PI3 BW3
    have cs0 := bxS4.cell0
    have cs1 := bxS4.cell1
    have ci0 := bxI4.cell0
    have ci1 := bxI4.cell1
    go_wp2_with fail
    refine (KL.out w4 _ _ PI4.out PS4.out).mono ?_
    rintro e w5 ⟨rfl, hb⟩
    go_wp2
    go_ret
    exact ⟨by first | rfl | simp, BW4.out.trans (hb.mono BW4.out.size)⟩
  | true =>
    obtain ⟨PA, PB, hcok, hcj, hna, PN, say⟩ := HAM.out rfl
    have a0' := PA.1
    have b0' := PB.1
    have n0' := PN.1
    have KX : Hid (∀ (w : World) (i : Int), Prs w (.slice x m c) ps → 0 ≤ i → i ≤ 63 → Calls Try.prog 28 #[.agg #[.slice x m c, .int .i64 aa], .int .i64 i] w fun e w' => e = .returned (.tuple #[.int .i64 (leastP ps i), .int .i64 (mostP ps i)]) ∧ Below w.heap.size w w') := fun w i p i0 i1 => imRankBelow_yes w _ ps aa i p ((rankB_iff _ _).2 PA) i0 i1
    have KY : Hid (∀ (w : World) (i : Int), Prs w (.slice y k d) qs → 0 ≤ i → i ≤ 63 → Calls Try.prog 28 #[.agg #[.slice y k d, .int .i64 ab], .int .i64 i] w fun e w' => e = .returned (.tuple #[.int .i64 (leastP qs i), .int .i64 (mostP qs i)]) ∧ Below w.heap.size w w') := fun w i p i0 i1 => imRankBelow_yes w _ qs ab i p ((rankB_iff _ _).2 PB) i0 i1
    have KZ : Hid (∀ (w : World) (j : Int), Prs w (.slice i n h) ns → 0 ≤ j → j ≤ 63 → Calls Try.prog 28 #[.agg #[.slice i n h, .int .i64 na], .int .i64 j] w fun e w' => e = .returned (.tuple #[.int .i64 (leastP ns j), .int .i64 (mostP ns j)]) ∧ Below w.heap.size w w') := fun w j p i0 i1 => imRankBelow_yes w _ ns na j p ((rankB_iff _ _).2 PN) i0 i1
    have HPA := Lib.hid PA
    have HPB := Lib.hid PB
    have HPN := Lib.hid PN
    have HSAY := Lib.hid say
    clear PA PB hcok hcj hna PN say HAM
    have ci0 := bxI3.cell0
    have ci1 := bxI3.cell1
    have cs0 := bxS3.cell0
    have cs1 := bxS3.cell1
    go_wp2_with fail
    refine (KL.out W3 _ _ PI3.out PS3.out).mono ?_
    rintro e w4 ⟨rfl, hb⟩
    have bxX4 := Lib.hid (bxX3.later hb)
    have bxY4 := Lib.hid (bxY3.later hb)
    have bxI4 := Lib.hid (bxI3.later hb)
    have PX4 := Lib.hid (PX3.out.below hb (Nat.le_refl _))
    have PY4 := Lib.hid (PY3.out.below hb (Nat.le_refl _))
    have PI4 := Lib.hid (PI3.out.below hb (Nat.le_refl _))
    have BW4 := Lib.hid (BW3.out.trans (hb.mono BW3.out.size))
    clear hb ci0 ci1 cs0 cs1 bxX3 bxY3 bxI3 bxS3 PX3 PY3 PI3 PS3 BW3 KL KO
    go_wp2_with fail
    go_loopw [9] (fun u wr => ∃ j : Nat, j ≤ 64 ∧ u = .int .i64 j ∧ Below w4.heap.size w4 wr) (fun u _ => 64 - (intOf u).toNat)
    case atStart => exact ⟨0, Nat.zero_le _, rfl, Below.refl _ _⟩
    case round =>
      obtain ⟨j, hj, rfl, hbl⟩ := hrel
      have HBL := Lib.hid hbl
      have X5 := bxX4.out.below HBL.out bxX4.out.lt
      have Y5 := bxY4.out.below HBL.out bxY4.out.lt
      have I5 := bxI4.out.below HBL.out bxI4.out.lt
      have P5 := Lib.hid (PX4.out.below HBL.out (Nat.le_refl _))
      have Q5 := Lib.hid (PY4.out.below HBL.out (Nat.le_refl _))
      have R5 := Lib.hid (PI4.out.below HBL.out (Nat.le_refl _))
      clear hbl
      by_cases hlt : j < 64
      · have x0 := X5.cell0
        have x1 := X5.cell1
        have j0 : (0 : Int) ≤ (j : Int) := by omega
        have j1 : (j : Int) < 64 := by omega
        have K1 := Lib.hid (KX.out wr (j : Int) P5.out (by omega) (by omega))
        have K2 := Lib.hid (fun w p => KY.out w (j : Int) p (by omega) (by omega))
        have K3 := Lib.hid (fun w p => KZ.out w (j : Int) p (by omega) (by omega))
        have s := HSAY.out (j : Int)
        have bx := below_in HPA.out (show (0 : Int) ≤ (j : Int) by omega) (by omega)
        have bY := below_in HPB.out (show (0 : Int) ≤ (j : Int) by omega) (by omega)
        generalize leastP ps (j : Int) = L at *
        generalize mostP ps (j : Int) = M at *
        generalize leastP qs (j : Int) = L2 at *
        generalize mostP qs (j : Int) = M2 at *
        generalize leastP ns (j : Int) = L' at *
        generalize mostP ns (j : Int) = M' at *
        obtain ⟨s1, s2⟩ := s
        obtain ⟨⟨bx0, bx1⟩, bx2, bx3⟩ := bx
        obtain ⟨⟨by0, by1⟩, by2, by3⟩ := bY
        have d1 : ¬ L + L2 < L' := by omega
        have d2 : ¬ M' < M + M2 := by omega
        have w1' : IntKind.i64.wrap (L + L2) = L + L2 := IntWalk.i64_in _ (by omega)
        have w2' : IntKind.i64.wrap (M + M2) = M + M2 := IntWalk.i64_in _ (by omega)
        clear s1 s2
        go_wp2_with fail
        refine K1.out.mono ?_
        rintro e w5 ⟨rfl, hb5⟩
        have Y6 := Y5.later hb5
        have I6 := I5.later hb5
        have Q6 := Lib.hid (Q5.out.below hb5 (Nat.le_refl _))
        have R6 := Lib.hid (R5.out.below hb5 (Nat.le_refl _))
        have HB5 := Lib.hid (HBL.out.trans (hb5.mono HBL.out.size))
        clear hb5 x0 x1 X5 Y5 I5
        have y0 := Y6.cell0
        have y1 := Y6.cell1
        go_wp2_with fail
        refine (K2.out _ Q6.out).mono ?_
        rintro e w6 ⟨rfl, hb6⟩
        have I7 := I6.later hb6
        have R7 := Lib.hid (R6.out.below hb6 (Nat.le_refl _))
        have HB6 := Lib.hid (HB5.out.trans (hb6.mono HB5.out.size))
        clear hb6 y0 y1 Y6 I6
        have z0 := I7.cell0
        have z1 := I7.cell1
        go_wp2_with fail
        refine (K3.out _ R7.out).mono ?_
        rintro e w7 ⟨rfl, hb7⟩
        have HB7 := Lib.hid (HB6.out.trans (hb7.mono HB6.out.size))
        clear hb7 z0 z1 I7
        go_wp2
        go_roundw
        case rel => exact ⟨j + 1, by omega, by go_num, HB7.out⟩
        case measure => simp [intOf]; omega
      · obtain rfl : j = 64 := by omega
        have BF := Lib.hid (BW4.out.trans (HBL.out.mono BW4.out.size))
        clear hlt hj X5 Y5 I5
        go_wp2
        go_ret
        exact ⟨by first | rfl | simp, BF.out⟩

/-! ### THE ROW's STEP: WRITTEN OUT: LEAVE IT -/
set_option maxRecDepth 100000 in
theorem lifted (os : Os) (started : os.Started) (H : Type) (enc : TypeId × Value → H) :
    ReturnsInHanded {} Try.checked os 10 .any (Rows.fnRankJoinBelowSpec.pre6 enc Try.prog Try.f10 Rows.fnRankJoinBelowRow.domain false) (Rows.fnRankJoinBelowSpec.post enc Try.prog Try.f10 false true false false) := by
  refine returnsInHanded_of_change (C := Try.checked) own started (by kernel_rfl) Try.func10
    (ChangeSpec.witness6 (enc := enc) (C := Try.checked) false ⟨#[], #[.slice none 0 0], []⟩ 8 (by kernel_rfl) (by kernel_rfl) (by kernel_rfl) (by kernel_rfl)) ?_
  intro W base args ds gs before hval0 hW hcnd _
  have hval : ∀ (j : Nat) t v, Try.f10.params[j]? = some t → args[j]? = some v → Value.okWide Try.prog W .any base t v := hval0
  have hW' := hW
  obtain ⟨p, q, hA0, hV, rfl, hfz, hnd⟩ := hW
  have hA : DataW.TrodAll enc Try.prog W 0 (fun _ => true) true Try.f10.params.toList args.toList ds p := hA0
  rw [Try.params10] at hA hval
  obtain ⟨v0, vs0, d0, ds0, p0, q0, hargs, rfl, rfl, h0, r0⟩ := trodAll_cons hA
  obtain ⟨rfl, rfl, rfl⟩ := trodAll_nil r0
  obtain rfl : args = #[v0] := by cases args; simp_all
  obtain ⟨rfl, rfl⟩ := trodVars_none hV
  obtain ⟨a0, len0, cap0, rfl⟩ := okWide_slice Try.underlying22 (hval 0 22 v0 rfl rfl)
  have k0 := h0
  have lt0 : ∀ x ∈ p0, x.block < W.heap.size := by obtain ⟨m, hm⟩ := k0; exact DataW.trod_lt m _ _ _ hm
  obtain ⟨z0, w0⟩ : ∃ zs, IsRow .u8 W a0 len0 cap0 zs := by
    obtain ⟨fuel, hf⟩ := h0
    rcases open_ints Try.underlying22 Try.underlying5 (by kernel_rfl) hf with ⟨hcs, _⟩ | ⟨x, l, c, zs, hcs, _, hl, hm, hz, _, hcell, hwz⟩
    · simp [Value.cells] at hcs
      obtain ⟨rfl, rfl, rfl⟩ := hcs
      exact ⟨[], .inl ⟨rfl, rfl, rfl, rfl⟩⟩
    · simp [Value.cells] at hcs
      obtain ⟨rfl, rfl, rfl⟩ := hcs
      exact ⟨zs, .inr ⟨_, rfl, hl, hm, by simpa using hz, hcell, hwz⟩⟩
  clear hA0 hval0
  refine (walk a0 len0 cap0 z0 W w0).mono fun e W' ⟨he, bel⟩ => ?_
  subst he
  exact ⟨_, rfl, _, _, _, [], _, [], hW', trodAll_mk1 (shut_bool Try.underlying4 _), (trodAll_cons_mk (Below.trod laidOut (by kernel_rfl) (of_decide_eq_true (by kernel_rfl)) k0 bel lt0) trodAll_mk0), rfl, bel.frame _, fun h => by cases h⟩

theorem over : Rows.fnRankJoinBelowRow.holds Try.pinned (OpenSpec.ofChange Rows.fnRankJoinBelowSpec) :=
  OpenClaim.holds_of_wide 10 Try.f10 rfl rfl rfl rfl rfl rfl rfl ⟨rfl, rfl, rfl, rfl, rfl⟩ rfl rfl rfl rfl rfl (by kernel_rfl) Try.func10 (by kernel_rfl)
    (of_decide_eq_true (by kernel_rfl)) (by unfold Func.isWrapper; first | (rw [if_pos (by decide +kernel)]; kernel_rfl) | (rw [if_neg (by decide +kernel)]; exact ⟨rfl, rfl⟩))
    (fun os started H enc _ => lifted os started H enc)

theorem proved : Rows.FnRankJoinBelowSaid := over
#print axioms proved
end Go.Proofs.Ytnpcgbjkahpcfaa.fnRankJoinBelow
