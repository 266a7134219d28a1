/-
  The statement of the law FnRankJoin: at every input the call returns true and leaves what it was given as it was. The frame is the kit's shell; the walk is ours.
-/
import Derived.Test.YtnpcgbjkahpcfaaKDraw3
import Derived.Test.YtnpcgbjkahpcfaaKLk
import Derived.Test.YtnpcgbjkahpcfaaKSay
import Derived.Test.YtnpcgbjkahpcfaaKSpJoin2
import Derived.Test.YtnpcgbjkahpcfaaRows
import Derived.WalkKit
import Derived.ProofKit
import Derived.OpenShut
import Derived.ShutString
import Derived.ChangeOld
import Derived.Below
namespace Go.Proofs.Ytnpcgbjkahpcfaa.fnRankJoin
open Go.ChangeShapes Go.WideShapes Go.ChangeAt Go.RowKit
open Go.ChangeMaps (open_string shut_string)
set_option linter.unusedVariables false

theorem own : ownKnob Try.prog.godebug = none := by kernel_rfl
theorem laidOut : laidOutB Try.prog = true := by kernel_rfl

/-- WHAT THE WALK IS TOLD OF A SLICE OF INTEGERS THAT CAME IN: it is nil; or it leads to a row of 'cap' cells, the numbers 'zs' (the first 'len' are its elements, the rest its spare room), each fitting its kind. -/
def IsRow (k : IntKind) (w : World) (a : Option Addr) (len cap : Nat) (zs : List Int) : Prop :=
  (a = none ∧ len = 0 ∧ cap = 0 ∧ zs = []) ∨
  ∃ x, a = some x ∧ len ≤ cap ∧ cap ≤ maxLen ∧ zs.length = cap ∧ (∀ i, i < zs.length → w.cell? (x.add i) = some (.int k (zs.getD i 0))) ∧ ∀ n ∈ zs, (Lit.int k n).wf = true

/-! ### STEP 1: THE WALK: the Go text returns true, AND WRITES NOTHING THAT WAS THERE: 'Below w.heap.size w w'' (Derived/Below.lean: '.refl', '.alloc', '.drew', '.setCell' at a new block, '.trans'). Open each 'IsRow' by 'rcases' AHEAD of 'go_enter'; part every test ahead of the walk. -/
theorem walk (a0 : Option Addr) (len0 cap0 : Nat) (z0 : List Int) (w : World) (w0 : IsRow .u8 w a0 len0 cap0 z0) :
    Calls Try.prog 9 #[.slice a0 len0 cap0] w fun e w' => e = .returned (.bool true) ∧ Below w.heap.size w w' := by
  obtain ⟨hb, hl⟩ := bts_of w a0 len0 cap0 z0 w0
  rcases hl with hl | hl
  · go_enter Try.func9, Try.ntmps9
    go_wp2
    go_ret
    exact ⟨rfl, Below.refl _ _⟩
  have HB := Lib.hid hb
  clear hb w0
  go_enter Try.func9, Try.ntmps9
  go_wp2_with fail
  refine (drawKJoin_at w _ len0 ⟨_, _, rfl⟩ HB.out).mono ?_
  rintro e w1 ⟨u, aa, u', ab, rfl, ps, qs, ⟨own, len, al⟩, ⟨own', len', al'⟩, hb1⟩
  obtain ⟨x, c, rfl, _, _⟩ := own.form
  obtain ⟨y, d, rfl, _, _⟩ := own'.form
  obtain ⟨m, hm⟩ : ∃ m, m = ps.length := ⟨_, rfl⟩
  obtain ⟨k, hk⟩ : ∃ k, k = qs.length := ⟨_, rfl⟩
  have OR := own.rd
  have OQ := own'.rd
  rw [← hm] at OR len ⊢
  rw [← hk] at OQ len' ⊢
  have HM := Lib.hid hm
  have HK := Lib.hid hk
  clear hm hk own own'
  obtain ⟨W1, hW⟩ : ∃ W, W = (w1.alloc (.cells #[.slice x m c, .int .i64 aa] 29)).alloc (.cells #[.slice y k d, .int .i64 ab] 29) := ⟨_, rfl⟩
  have hA : Below w1.heap.size w1 W1 := by rw [hW]; exact ((Below.refl _ _).alloc (Nat.le_refl _) _).alloc (by simp) _
  have bxX1 : Box2 W1 w1.heap.size 29 (.slice x m c) (.int .i64 aa) := by rw [hW]; exact (Box2.new w1 _ _ _).alloc _
  have bxY1 : Box2 W1 (w1.heap.size + 1) 29 (.slice y k d) (.int .i64 ab) := by rw [hW]; have := Box2.new (w1.alloc (.cells #[.slice x m c, .int .i64 aa] 29)) 29 (.slice y k d) (.int .i64 ab); rwa [World.size_alloc] at this
  have PX1 : Hid (Prs W1 (.slice x m c) ps) := OR.below hA (Nat.le_refl _)
  have PY1 : Hid (Prs W1 (.slice y k d) qs) := OQ.below hA (Nat.le_refl _)
  have BW1 : Hid (Below w.heap.size w W1) := hb1.trans (hA.mono hb1.size)
  clear OR OQ hA hb1
  go_wp2_with fail
  rw [← hW]
  clear hW
  have S2 := spRankJoin_at W1 _ _ ps aa qs ab PX1.out PY1.out
  have I2 : ∀ w u v, Prs w u ps → Prs w v qs → _ := fun w u v h h' => imRankJoin_at w u v ps aa qs ab h h'
  have AM := @joinK_say ps qs aa ab
  have LN := joinK_len ps aa qs ab
  generalize joinK ps aa qs ab = A at S2 I2 AM LN
  generalize joinOkK ps aa qs ab = ok at S2 I2 AM
  obtain ⟨ns, na⟩ := A
  simp only at S2 I2 AM LN
  have HS2 := Lib.hid S2
  have HI2 := Lib.hid I2
  have HAM := Lib.hid AM
  have HLN := Lib.hid LN
  clear S2 I2 AM LN
  refine HS2.out.mono ?_
  rintro e w2 ⟨v, rfl, ow, hb⟩
  obtain ⟨s, g, rfl, _, _⟩ := ow.form
  obtain ⟨n, hn⟩ : ∃ n, n = ns.length := ⟨_, rfl⟩
  have OR := ow.rd
  rw [← hn] at OR ⊢
  have HNN := Lib.hid hn
  clear hn ow
  obtain ⟨W2, hW⟩ : ∃ W, W = w2.alloc (.cells #[.slice s n g, .int .i64 na] 29) := ⟨_, rfl⟩
  have hA := (Below.refl w2.heap.size w2).alloc (Nat.le_refl _) (.cells #[.slice s n g, .int .i64 na] 29)
  have bxS2 : Box2 W2 w2.heap.size 29 (.slice s n g) (.int .i64 na) := by rw [hW]; exact Box2.new _ _ _ _
  have bxX2 : Box2 W2 w1.heap.size 29 (.slice x m c) (.int .i64 aa) := by rw [hW]; exact (bxX1.later hb).alloc _
  have PX2 : Hid (Prs W2 (.slice x m c) ps) := by show Prs _ _ _; rw [hW]; exact (PX1.out.below hb (Nat.le_refl _)).below hA (Nat.le_refl _)
  have bxY2 : Box2 W2 (w1.heap.size + 1) 29 (.slice y k d) (.int .i64 ab) := by rw [hW]; exact (bxY1.later hb).alloc _
  have PY2 : Hid (Prs W2 (.slice y k d) qs) := by show Prs _ _ _; rw [hW]; exact (PY1.out.below hb (Nat.le_refl _)).below hA (Nat.le_refl _)
  have PS2 : Hid (Prs W2 (.slice s n g) ns) := by show Prs _ _ _; rw [hW]; exact OR.below hA (Nat.le_refl _)
  have BW2 : Hid (Below w.heap.size w W2) := by show Below _ _ _; rw [hW]; exact (BW1.out.trans (hb.mono BW1.out.size)).trans (hA.mono (BW1.out.trans (hb.mono BW1.out.size)).size)
  have xaX := (bxX1.later hb).alloc (.cells #[.slice s n g, .int .i64 na] 29)
  have ax0 := xaX.cell0
  have ax1 := xaX.cell1
  have xaY := (bxY1.later hb).alloc (.cells #[.slice s n g, .int .i64 na] 29)
  have ay0 := xaY.cell0
  have ay1 := xaY.cell1
  clear OR hA hb xaX xaY
  go_wp2_with fail
  rw [← hW]
  clear hW ax0 ax1 ay0 ay1
  clear bxX1 PX1 bxY1 PY1 BW1
  refine (HI2.out W2 _ _ PX2.out PY2.out).mono ?_
  rintro e w3 ⟨v, rfl, ow, hb⟩
  obtain ⟨i, h, rfl, _, _⟩ := ow.form
  have OR := ow.rd
  rw [← HNN.out] at OR ⊢
  clear ow
  obtain ⟨W3, hW⟩ : ∃ W, W = w3.alloc (.cells #[.slice i n h, .int .i64 na] 29) := ⟨_, rfl⟩
  have hA := (Below.refl w3.heap.size w3).alloc (Nat.le_refl _) (.cells #[.slice i n h, .int .i64 na] 29)
  have bxI3 : Box2 W3 w3.heap.size 29 (.slice i n h) (.int .i64 na) := by rw [hW]; exact Box2.new _ _ _ _
  have bxX3 : Box2 W3 w1.heap.size 29 (.slice x m c) (.int .i64 aa) := by rw [hW]; exact (bxX2.later hb).alloc _
  have PX3 : Hid (Prs W3 (.slice x m c) ps) := by show Prs _ _ _; rw [hW]; exact (PX2.out.below hb (Nat.le_refl _)).below hA (Nat.le_refl _)
  have bxY3 : Box2 W3 (w1.heap.size + 1) 29 (.slice y k d) (.int .i64 ab) := by rw [hW]; exact (bxY2.later hb).alloc _
  have PY3 : Hid (Prs W3 (.slice y k d) qs) := by show Prs _ _ _; rw [hW]; exact (PY2.out.below hb (Nat.le_refl _)).below hA (Nat.le_refl _)
  have bxS3 : Box2 W3 w2.heap.size 29 (.slice s n g) (.int .i64 na) := by rw [hW]; exact (bxS2.later hb).alloc _
  have PS3 : Hid (Prs W3 (.slice s n g) ns) := by show Prs _ _ _; rw [hW]; exact (PS2.out.below hb (Nat.le_refl _)).below hA (Nat.le_refl _)
  have PI3 : Hid (Prs W3 (.slice i n h) ns) := by show Prs _ _ _; rw [hW]; exact OR.below hA (Nat.le_refl _)
  have BW3 : Hid (Below w.heap.size w W3) := by show Below _ _ _; rw [hW]; exact (BW2.out.trans (hb.mono BW2.out.size)).trans (hA.mono (BW2.out.trans (hb.mono BW2.out.size)).size)
  have xaS := (bxS2.later hb).alloc (.cells #[.slice i n h, .int .i64 na] 29)
  have as0 := xaS.cell0
  have as1 := xaS.cell1
  clear OR hA hb xaS
  go_wp2_with fail
  rw [← hW]
  clear hW as0 as1
  clear bxX2 PX2 bxY2 PY2 bxS2 PS2 BW2
  have KL := Lib.hid (fun (w : World) (u v : Value) (p : Prs w u ns) (q : Prs w v ns) => lkRank_same w u v ns na p q (by have := HLN.out; omega))
  have KO := Lib.hid (fun (w : World) (u : Value) (p : Prs w u ns) => imRankOk_at w u ns na p)
  cases ok with
  | false =>
    have cs0 := bxS3.cell0
    have cs1 := bxS3.cell1
    have ci0 := bxI3.cell0
    have ci1 := bxI3.cell1
    go_wp2_with fail
    refine (KL.out W3 _ _ PI3.out PS3.out).mono ?_
    rintro e w4 ⟨rfl, hb⟩
    have bxS4 := bxS3.later hb
    have PS4 := Lib.hid (PS3.out.below hb (Nat.le_refl _))
    have bxI4 := bxI3.later hb
    have PI4 := Lib.hid (PI3.out.below hb (Nat.le_refl _))
    have BW4 := Lib.hid (BW3.out.trans (hb.mono BW3.out.size))
    clear hb cs0 cs1 ci0 ci1
    clear bxX3 PX3 bxY3 PY3 bxS3 PS3 bxI3 PI3 BW3
    have cs0 := bxS4.cell0
    have cs1 := bxS4.cell1
    have ci0 := bxI4.cell0
    have ci1 := bxI4.cell1
    go_wp2_with fail
    refine (KL.out w4 _ _ PI4.out PS4.out).mono ?_
    rintro e w5 ⟨rfl, hb⟩
    go_wp2
    go_ret
    exact ⟨by first | rfl | simp, BW4.out.trans (hb.mono BW4.out.size)⟩
  | true =>
    obtain ⟨PA, PB, hcok, hcj, hna, PN, say⟩ := HAM.out rfl
    have a0' := PA.1
    have b0' := PB.1
    have n0' := PN.1
    have KC : Hid (∀ w u v, Prs w u qs → Prs w v ps → Calls Try.prog 36 #[.agg #[u, .int .i64 ab], .agg #[v, .int .i64 aa]] w fun e w' => ∃ x, e = .returned (.tuple #[.agg #[x, .int .i64 na], .bool true]) ∧ OwnP w' w.heap.size x ns ∧ Below w.heap.size w w') := fun w u v p q => by
      have h := imRankJoin_at w u v qs ab ps aa p q
      rw [hcok, hcj] at h
      exact h
    rw [(rankB_iff _ _).2 PN] at KO
    have HNA := Lib.hid hna
    have ws : IntKind.i64.wrap (aa + ab) = aa + ab := IntWalk.i64_in _ (by omega)
    clear PA PB hcok hcj hna PN say HAM
    have ci0 := bxI3.cell0
    have ci1 := bxI3.cell1
    have cs0 := bxS3.cell0
    have cs1 := bxS3.cell1
    go_wp2_with fail
    refine (KL.out W3 _ _ PI3.out PS3.out).mono ?_
    rintro e w4 ⟨rfl, hb⟩
    have bxX4 := bxX3.later hb
    have bxY4 := bxY3.later hb
    have bxI4 := bxI3.later hb
    have PX4 := Lib.hid (PX3.out.below hb (Nat.le_refl _))
    have PY4 := Lib.hid (PY3.out.below hb (Nat.le_refl _))
    have PI4 := Lib.hid (PI3.out.below hb (Nat.le_refl _))
    have BW4 := Lib.hid (BW3.out.trans (hb.mono BW3.out.size))
    clear hb ci0 ci1 cs0 cs1 bxX3 bxY3 bxI3 bxS3 PX3 PY3 PI3 PS3 BW3
    have cx0 := bxX4.cell0
    have cx1 := bxX4.cell1
    have cy0 := bxY4.cell0
    have cy1 := bxY4.cell1
    go_wp2_with fail
    refine (KC.out w4 _ _ PY4.out PX4.out).mono ?_
    rintro e w5 ⟨v, rfl, ow, hb⟩
    obtain ⟨p, q, rfl, _, _⟩ := ow.form
    have OR := ow.rd
    rw [← HNN.out] at OR ⊢
    clear ow
    obtain ⟨W5, hW⟩ : ∃ W, W = w5.alloc (.cells #[.slice p n q, .int .i64 na] 29) := ⟨_, rfl⟩
    have hA := (Below.refl w5.heap.size w5).alloc (Nat.le_refl _) (.cells #[.slice p n q, .int .i64 na] 29)
    have bxC5 : Box2 W5 w5.heap.size 29 (.slice p n q) (.int .i64 na) := by rw [hW]; exact Box2.new _ _ _ _
    have bxX5 : Box2 W5 w1.heap.size 29 (.slice x m c) (.int .i64 aa) := by rw [hW]; exact (bxX4.later hb).alloc _
    have bxY5 : Box2 W5 (w1.heap.size + 1) 29 (.slice y k d) (.int .i64 ab) := by rw [hW]; exact (bxY4.later hb).alloc _
    have bxI5 : Box2 W5 w3.heap.size 29 (.slice i n h) (.int .i64 na) := by rw [hW]; exact (bxI4.later hb).alloc _
    have PI5 : Hid (Prs W5 (.slice i n h) ns) := by show Prs _ _ _; rw [hW]; exact (PI4.out.below hb (Nat.le_refl _)).below hA (Nat.le_refl _)
    have PC5 : Hid (Prs W5 (.slice p n q) ns) := by show Prs _ _ _; rw [hW]; exact OR.below hA (Nat.le_refl _)
    have BW5 : Hid (Below w.heap.size w W5) := by show Below _ _ _; rw [hW]; exact (BW4.out.trans (hb.mono BW4.out.size)).trans (hA.mono (BW4.out.trans (hb.mono BW4.out.size)).size)
    have xaI := (bxI4.later hb).alloc (.cells #[.slice p n q, .int .i64 na] 29)
    have ai0 := xaI.cell0
    have ai1 := xaI.cell1
    clear OR hA hb xaI cx0 cx1 cy0 cy1
    go_wp2_with fail
    rw [← hW]
    clear hW ai0 ai1 bxX4 PX4 bxY4 PY4 bxI4 PI4 BW4
    refine (KO.out W5 _ PI5.out).mono ?_
    rintro e w6 ⟨rfl, hb⟩
    have bxX6 := bxX5.later hb
    have bxY6 := bxY5.later hb
    have bxI6 := bxI5.later hb
    have bxC6 := bxC5.later hb
    have PI6 := Lib.hid (PI5.out.below hb (Nat.le_refl _))
    have PC6 := Lib.hid (PC5.out.below hb (Nat.le_refl _))
    have BW6 := Lib.hid (BW5.out.trans (hb.mono BW5.out.size))
    clear hb bxX5 bxY5 bxI5 bxC5 PI5 PC5 BW5
    have cx1 := bxX6.cell1
    have cy1 := bxY6.cell1
    have ci0 := bxI6.cell0
    have ci1 := bxI6.cell1
    have cc0 := bxC6.cell0
    have cc1 := bxC6.cell1
    obtain rfl := HNA.out
    go_wp2_with fail
    refine (KL.out w6 _ _ PC6.out PI6.out).mono ?_
    rintro e w7 ⟨rfl, hb⟩
    have BW7 := Lib.hid (BW6.out.trans (hb.mono BW6.out.size))
    go_wp2
    go_ret
    exact ⟨by first | rfl | simp, BW7.out⟩

/-! ### THE ROW's STEP: WRITTEN OUT: LEAVE IT -/
set_option maxRecDepth 100000 in
theorem lifted (os : Os) (started : os.Started) (H : Type) (enc : TypeId × Value → H) :
    ReturnsInHanded {} Try.checked os 9 .any (Rows.fnRankJoinSpec.pre6 enc Try.prog Try.f9 Rows.fnRankJoinRow.domain false) (Rows.fnRankJoinSpec.post enc Try.prog Try.f9 false true false false) := by
  refine returnsInHanded_of_change (C := Try.checked) own started (by kernel_rfl) Try.func9
    (ChangeSpec.witness6 (enc := enc) (C := Try.checked) false ⟨#[], #[.slice none 0 0], []⟩ 8 (by kernel_rfl) (by kernel_rfl) (by kernel_rfl) (by kernel_rfl)) ?_
  intro W base args ds gs before hval0 hW hcnd _
  have hval : ∀ (j : Nat) t v, Try.f9.params[j]? = some t → args[j]? = some v → Value.okWide Try.prog W .any base t v := hval0
  have hW' := hW
  obtain ⟨p, q, hA0, hV, rfl, hfz, hnd⟩ := hW
  have hA : DataW.TrodAll enc Try.prog W 0 (fun _ => true) true Try.f9.params.toList args.toList ds p := hA0
  rw [Try.params9] at hA hval
  obtain ⟨v0, vs0, d0, ds0, p0, q0, hargs, rfl, rfl, h0, r0⟩ := trodAll_cons hA
  obtain ⟨rfl, rfl, rfl⟩ := trodAll_nil r0
  obtain rfl : args = #[v0] := by cases args; simp_all
  obtain ⟨rfl, rfl⟩ := trodVars_none hV
  obtain ⟨a0, len0, cap0, rfl⟩ := okWide_slice Try.underlying22 (hval 0 22 v0 rfl rfl)
  have k0 := h0
  have lt0 : ∀ x ∈ p0, x.block < W.heap.size := by obtain ⟨m, hm⟩ := k0; exact DataW.trod_lt m _ _ _ hm
  obtain ⟨z0, w0⟩ : ∃ zs, IsRow .u8 W a0 len0 cap0 zs := by
    obtain ⟨fuel, hf⟩ := h0
    rcases open_ints Try.underlying22 Try.underlying5 (by kernel_rfl) hf with ⟨hcs, _⟩ | ⟨x, l, c, zs, hcs, _, hl, hm, hz, _, hcell, hwz⟩
    · simp [Value.cells] at hcs
      obtain ⟨rfl, rfl, rfl⟩ := hcs
      exact ⟨[], .inl ⟨rfl, rfl, rfl, rfl⟩⟩
    · simp [Value.cells] at hcs
      obtain ⟨rfl, rfl, rfl⟩ := hcs
      exact ⟨zs, .inr ⟨_, rfl, hl, hm, by simpa using hz, hcell, hwz⟩⟩
  clear hA0 hval0
  refine (walk a0 len0 cap0 z0 W w0).mono fun e W' ⟨he, bel⟩ => ?_
  subst he
  exact ⟨_, rfl, _, _, _, [], _, [], hW', trodAll_mk1 (shut_bool Try.underlying4 _), (trodAll_cons_mk (Below.trod laidOut (by kernel_rfl) (of_decide_eq_true (by kernel_rfl)) k0 bel lt0) trodAll_mk0), rfl, bel.frame _, fun h => by cases h⟩

theorem over : Rows.fnRankJoinRow.holds Try.pinned (OpenSpec.ofChange Rows.fnRankJoinSpec) :=
  OpenClaim.holds_of_wide 9 Try.f9 rfl rfl rfl rfl rfl rfl rfl ⟨rfl, rfl, rfl, rfl, rfl⟩ rfl rfl rfl rfl rfl (by kernel_rfl) Try.func9 (by kernel_rfl)
    (of_decide_eq_true (by kernel_rfl)) (by unfold Func.isWrapper; first | (rw [if_pos (by decide +kernel)]; kernel_rfl) | (rw [if_neg (by decide +kernel)]; exact ⟨rfl, rfl⟩))
    (fun os started H enc _ => lifted os started H enc)

theorem proved : Rows.FnRankJoinSaid := over
#print axioms proved
end Go.Proofs.Ytnpcgbjkahpcfaa.fnRankJoin
