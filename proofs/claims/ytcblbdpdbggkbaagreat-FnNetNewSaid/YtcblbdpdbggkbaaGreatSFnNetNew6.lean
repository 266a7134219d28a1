/-
  The statement of the law FnNetNew: at every input the call returns true and leaves what it was given as it was. The frame is the kit's shell; the walk is ours.
-/
import Derived.Deep.RegionHeld3
import Derived.Deep.RegionWith
import Derived.Deep.DeepCutAuto
import Derived.Test.YtcblbdpdbggkbaaGreatRows
import Derived.WalkKit
import Derived.ProofKit
import Derived.OpenShut
import Derived.ShutString
import Derived.ChangeOld
import Derived.Below
import Derived.Test.YtcblbdpdbggkbaaGreatSFnNetNew5
namespace Go.Proofs.YtcblbdpdbggkbaaGreat.fnNetNew
open Go.ChangeShapes Go.WideShapes Go.ChangeAt Go.RowKit
open Go.ChangeMaps (open_string shut_string)
set_option linter.unusedVariables false
set_option linter.unusedSimpArgs false

theorem own : ownKnob Tryz.prog.godebug = none := by kernel_rfl
theorem laidOut : laidOutB Tryz.prog = true := by kernel_rfl

/-- WHAT THE WALK IS TOLD OF A SLICE OF INTEGERS THAT CAME IN: it is nil; or it leads to a row of 'cap' cells, the numbers 'zs' (the first 'len' are its elements, the rest its spare room), each fitting its kind. -/
def IsRow (k : IntKind) (w : World) (a : Option Addr) (len cap : Nat) (zs : List Int) : Prop :=
  (a = none ∧ len = 0 ∧ cap = 0 ∧ zs = []) ∨
  ∃ x, a = some x ∧ len ≤ cap ∧ cap ≤ maxLen ∧ zs.length = cap ∧ (∀ i, i < zs.length → w.cell? (x.add i) = some (.int k (zs.getD i 0))) ∧ ∀ n ∈ zs, (Lit.int k n).wf = true

/-! ### STEP 1: THE WALK: the Go text returns true, AND WRITES NOTHING THAT WAS THERE: 'Below w.heap.size w w'' (Derived/Below.lean: '.refl', '.alloc', '.drew', '.setCell' at a new block, '.trans'). Open each 'IsRow' by 'rcases' AHEAD of 'go_enter'; part every test ahead of the walk. -/
set_option maxRecDepth 100000 in
set_option maxHeartbeats 16000000 in
theorem walk (a0 : Option Addr) (len0 cap0 : Nat) (z0 : List Int) (w : World) (w0 : IsRow .u8 w a0 len0 cap0 z0) :
    Calls Tryz.prog 3 #[.slice a0 len0 cap0] w fun e w' => e = .returned (.bool true) ∧ Below w.heap.size w w' := by
  obtain ⟨hb, hl⟩ := bts_of w a0 len0 cap0 z0 w0
  rcases hl with hl | hl
  · go_enter Tryz.func3, Tryz.ntmps3
    go_wp2
    go_ret
    exact ⟨rfl, Below.refl _ _⟩
  have HB := Lib.hid hb
  have h0 := M.start w
  obtain ⟨B0, hB0⟩ : ∃ b, b = w.heap.size := ⟨_, rfl⟩
  rw [← hB0] at HB h0 ⊢
  clear hb w0 hB0
  have H0 := Lib.hid h0
  clear h0
  go_enter Tryz.func3, Tryz.ntmps3
  go_wp2_with fail
  refine (N.drawNetNew_at H0.out ⟨_, _, rfl⟩ HB.out).mono ?_
  rintro r w1 ⟨x, n, c, z0, rfl, hm, mm, h1⟩
  have H1 := Lib.hid (show M B0 w w1 [N.intsC (.slice x n c) z0] from h1.soft)
  have HN := Lib.hid hm
  have KS := Lib.hid (fun W x n c h => N.spNetNew_at W x n c z0 h)
  have KI := Lib.hid (fun W x n c h => N.imNetNew_at W x n c z0 h)
  have LN := Lib.hid (N.sm_new z0)
  obtain ⟨o, ho⟩ : ∃ o, o = N.newN z0 := ⟨_, rfl⟩
  rw [← ho] at KS KI LN
  have OO := Lib.hid ho
  obtain ⟨bo, hbo⟩ : ∃ b, b = o.isSome := ⟨_, rfl⟩
  have BO := Lib.hid hbo
  have eb : (bo != bo) = false := by cases bo <;> rfl
  have ec : (bo == bo) = true := by cases bo <;> rfl
  clear ho hbo H0 h1 hm HB
  go_wp2_with fail
  refine (KS.out _ _ _ _ H1.out.ints).mono ?_
  rintro r w2 ha
  obtain ⟨x0a, n0a, c0a, x0b, n0b, c0b, x0c, n0c, c0c, x0d, n0d, c0d, e, hz⟩ := N.ans_got H1.out ha
  clear ha
  subst e
  rw [← BO.out]
  have ha2 := hz.alloc #[.slice x0a n0a c0a, .slice x0b n0b c0b, .slice x0c n0c c0c, .slice x0d n0d c0d] 30
  obtain ⟨w3, hW⟩ : ∃ W, W = w2.alloc (.cells #[.slice x0a n0a c0a, .slice x0b n0b c0b, .slice x0c n0c c0c, .slice x0d n0d c0d] 30) := ⟨_, rfl⟩
  rw [← hW] at ha2
  have H2 := Lib.hid ha2
  clear hz ha2 H1
  obtain ⟨R3, hR⟩ : ∃ R, R = w2.heap.size := ⟨_, rfl⟩
  rw [← hR] at H2
  go_wp2_with fail
  rw [← hW, ← hR]
  clear hW hR
  refine (KI.out _ _ _ _ H2.out.p2.ints).mono ?_
  rintro r w5 ha
  obtain ⟨x1a, n1a, c1a, x1b, n1b, c1b, x1c, n1c, c1c, x1d, n1d, c1d, e, hz⟩ := N.ans_got H2.out ha
  clear ha
  subst e
  rw [← BO.out]
  have ha2 := hz.alloc #[.slice x1a n1a c1a, .slice x1b n1b c1b, .slice x1c n1c c1c, .slice x1d n1d c1d] 30
  obtain ⟨w6, hW⟩ : ∃ W, W = w5.alloc (.cells #[.slice x1a n1a c1a, .slice x1b n1b c1b, .slice x1c n1c c1c, .slice x1d n1d c1d] 30) := ⟨_, rfl⟩
  rw [← hW] at ha2
  have H4 := Lib.hid ha2
  clear hz ha2 H2
  obtain ⟨R6, hR⟩ : ∃ R, R = w5.heap.size := ⟨_, rfl⟩
  rw [← hR] at H4
  obtain ⟨c0, c1, c2, c3⟩ := H4.out.cells4
  obtain ⟨d0, d1, d2, d3⟩ := H4.out.p2.cells4
  have EQ := Lib.hid (let ⟨_, r1⟩ := H4.out.p1.netRd; let ⟨_, r2⟩ := H4.out.p3.netRd; N.lkNet_same _ r1 r2 LN.out)
  go_upto_region 6 with fail
  rw [← hW, ← hR]
  clear hW hR
  go_wp2_with fail
  refine EQ.out.mono ?_
  rintro r w7 ⟨rfl, hb⟩
  have H5 := Lib.hid (H4.out.later hb)
  clear EQ hb H4 c0 c1 c2 c3 d0 d1 d2 d3 KS KI
  cases bo with
  | false =>
    obtain ⟨c0, c1, c2, c3⟩ := H5.out.cells4
    obtain ⟨d0, d1, d2, d3⟩ := H5.out.p2.cells4
    have EQ := Lib.hid (let ⟨_, r1⟩ := H5.out.p1.netRd; let ⟨_, r2⟩ := H5.out.p3.netRd; N.lkNet_same _ r1 r2 LN.out)
    go_wp2_with fail
    refine EQ.out.mono ?_
    rintro r w8 ⟨rfl, hb⟩
    have H6 := Lib.hid (H5.out.later hb)
    clear EQ hb H5 c0 c1 c2 c3 d0 d1 d2 d3
    go_wp2
    go_ret
    exact ⟨rfl, H6.out.below⟩
  | true =>
    cases o with
    | none => exact absurd BO.out (by decide)
    | some q =>
    have NL := Lib.hid (fun (j k : Nat) (hj : j = 2 * k) (h : j + 1 < n) => N.link_new OO.out.symm hj (by rw [← HN.out]; exact h))
    obtain ⟨ok, sj, sq, s0⟩ := N.sum_new OO.out.symm
    obtain ⟨ev, wq, lq⟩ := N.even_new OO.out.symm
    have OK := Lib.hid ok
    have SQ := Lib.hid sq
    have S0 := Lib.hid s0
    have WQ := Lib.hid wq
    have LQ := Lib.hid lq
    have EV := Lib.hid (show n % 2 = 0 by rw [HN.out]; exact ev)
    clear ok sq s0 ev wq lq LN OO BO
    have n18 : (n : Int) ≤ 18 := by omega
    go_wp2
    go_loopw [8] (fun z wr => ∃ j k : Nat, j = 2 * k ∧ j ≤ n ∧ z = .int .i64 (j : Int) ∧ M B0 w wr [boxC R6 30 #[.slice x1a n1a c1a, .slice x1b n1b c1b, .slice x1c n1c c1c, .slice x1d n1d c1d], N.netC (.slice x1a n1a c1a) (.slice x1b n1b c1b) (.slice x1c n1c c1c) (.slice x1d n1d c1d) q, boxC R3 30 #[.slice x0a n0a c0a, .slice x0b n0b c0b, .slice x0c n0c c0c, .slice x0d n0d c0d], N.netC (.slice x0a n0a c0a) (.slice x0b n0b c0b) (.slice x0c n0c c0c) (.slice x0d n0d c0d) q, N.intsC (.slice x n c) z0]) (fun z _ => n - (intOf z).toNat)
    case atStart => exact ⟨0, 0, rfl, Nat.zero_le _, rfl, H5.out⟩
    case round =>
      clear H5
      obtain ⟨j, k, hjk, hj, rfl, hm⟩ := hrel
      have H := Lib.hid hm
      have HJ := Lib.hid hjk
      clear hm hjk
      by_cases hlt : (j : Int) + 1 < (n : Int)
      · obtain ⟨a, b, ea, eb', a4, b4, hl⟩ := NL.out j k HJ.out (by omega)
        have H3 := Lib.hid H.out.drew
        obtain ⟨w8, hw8⟩ : ∃ W, W = wr.drew := ⟨_, rfl⟩
        rw [← hw8] at H3
        have EW := Lib.hid hw8
        clear hw8 H
        obtain ⟨_, r1⟩ := H3.out.p1.netRd
        obtain ⟨_, _, _, _, _, _, _, _, e1, _, _, r2, _, _⟩ := N.netR_iff.1 r1
        cases e1
        obtain rfl : n1b = 25 := (slcR_row r2).1.trans LQ.out
        obtain ⟨gl, rfl, _, l0⟩ := N.link_at r2 hl
        obtain ⟨gz, oz, rfl, m0⟩ := N.ints_el H3.out.p4.ints (j := j) (by rw [← HN.out]; omega)
        obtain ⟨_, _, eq, m1⟩ := N.ints_el H3.out.p4.ints (j := j + 1) (by rw [← HN.out]; omega)
        cases eq
        rw [ea] at m0
        rw [eb'] at m1
        rw [← show ((a : Int) * 5 + (b : Int)).toNat = a * 5 + b by omega] at l0
        have bj : IntKind.i64.wrap ((j : Int) + 1) = (j : Int) + 1 := IntWalk.i64_in _ (by omega)
        have bw : IntKind.i64.wrap ((a : Int) * 5) = (a : Int) * 5 := IntWalk.i64_in _ (by omega)
        have bu : IntKind.i64.wrap ((a : Int) * 5 + (b : Int)) = (a : Int) * 5 + (b : Int) := IntWalk.i64_in _ (by omega)
        have u0 : (0 : Int) ≤ (a : Int) * 5 + (b : Int) := by omega
        have u1 : (a : Int) * 5 + (b : Int) < 25 := by omega
        have k0 : (0 : Int) ≤ (j : Int) := by omega
        have k1 : (j : Int) < (n : Int) := by omega
        have k2 : (0 : Int) ≤ (j : Int) + 1 := by omega
        obtain ⟨c0, c1, c2, c3⟩ := H3.out.cells4
        clear r1 r2 hl ea eb'
        go_upto_region 11 with fail
        refine wp_region_plan 99 (.take 0 (.take 1 (.take 2 (.take 3 (.take 4 (.take 5 (.take 6 (.take 7 (.take 8 (.take 9 (.take 10 (.take 11 (.take 12 (.take 13 (.take 14 (.take 15 .done)))))))))))))))) (fun w' => w' = w8) (by kernel_rfl) (by kernel_rfl) (fun _ _ _ _ _ h => h) EW.out.symm ?_
        rw [← EW.out]
        repeat ((first | (refine plan_take (by rfl) (by rfl) ?_; apply Exists.intro; refine ⟨fun w' hw' => ?_, ?_⟩; (· ((try dsimp only at hw'); go_simp; (try with_reducible rfl)))) | (refine plan_skip (by rfl) (by rfl) ?_)); simp only [Act.put, List.getElem_toArray, List.getElem_cons_succ, List.getElem_cons_zero, List.setIfInBounds_toArray, List.set_cons_zero, List.set_cons_succ])
        refine plan_done ?_
        clear c0 c1 c2 c3 m0 m1 l0
        go_wp2
        go_roundw
        case rel => exact ⟨j + 2, k + 1, by have := HJ.out; omega, by omega, by go_num, H3.out⟩
        case measure => simp [intOf]; omega
      · have gt : ¬ (j : Int) + 1 < (n : Int) := hlt
        obtain ⟨c0, c1, c2, c3⟩ := H.out.cells4
        have NS : Hid (Calls Tryz.prog 21 #[.agg #[.slice x1a n1a c1a, .slice x1b n1b c1b, .slice x1c n1c c1c, .slice x1d n1d c1d], .int .i64 0] wr fun r w' => ∃ U : SV, r = .returned (.tuple #[.agg #[.slice U.xr U.nr U.cr, .slice U.xf U.nf U.cf, .slice U.xt U.nt U.ct, .int .i64 sj.lo, .int .i64 sj.al, .slice U.xk U.nk U.ck, .int .i64 sj.ka], .bool true]) ∧ M wr.heap.size wr w' [sumR_frame.ch [.slice U.xr U.nr U.cr, .slice U.xf U.nf U.cf, .slice U.xt U.nt U.ct, .int .i64 sj.lo, .int .i64 sj.al, .slice U.xk U.nk U.ck, .int .i64 sj.ka] sj]) := Lib.hid (let ⟨_, r1⟩ := H.out.p1.netRd; by have k := N.imNetSum_at wr (N.net_rd r1) 0; rw [SQ.out] at k; exact k)
        go_wp2_with fail
        refine NS.out.mono ?_
        rintro r w8 ⟨U, rfl, hs⟩
        have h2 := (H.out.plus hs).alloc #[.slice U.xr U.nr U.cr, .slice U.xf U.nf U.cf, .slice U.xt U.nt U.ct, .int .i64 sj.lo, .int .i64 sj.al, .slice U.xk U.nk U.ck, .int .i64 sj.ka] 46
        obtain ⟨R9, hR⟩ : ∃ R, R = w8.heap.size := ⟨_, rfl⟩
        obtain ⟨w9, hW⟩ : ∃ W, W = w8.alloc (.cells #[.slice U.xr U.nr U.cr, .slice U.xf U.nf U.cf, .slice U.xt U.nt U.ct, .int .i64 sj.lo, .int .i64 sj.al, .slice U.xk U.nk U.ck, .int .i64 sj.ka] 46) := ⟨_, rfl⟩
        rw [← hW, ← hR] at h2
        have H2 := Lib.hid h2
        clear h2 hs H NS c0 c1 c2 c3
        obtain ⟨c0, c1, c2, c3⟩ := H2.out.p2.cells4
        have NO : Hid (Calls Tryz.prog 22 #[.agg #[.slice x1a n1a c1a, .slice x1b n1b c1b, .slice x1c n1c c1c, .slice x1d n1d c1d]] w9 fun r w' => r = .returned (.bool true) ∧ Below w9.heap.size w9 w') := Lib.hid (let ⟨_, r1⟩ := H2.out.p3.netRd; by have k := N.imNetOk_at w9 (N.net_rd r1); rw [OK.out] at k; exact k)
        go_upto_region 14 with fail
        rw [← hW, ← hR]
        clear hW hR
        go_wp2_with fail
        refine NO.out.mono ?_
        rintro r w10 ⟨rfl, hb⟩
        have H3 := Lib.hid (H2.out.later hb)
        clear hb NO H2 c0 c1 c2 c3
        obtain ⟨_, r1⟩ := H3.out.p3.netRd
        obtain ⟨_, _, _, _, _, _, _, _, e1, _, _, _, r3, _⟩ := N.netR_iff.1 r1
        cases e1
        obtain rfl : n1c = 0 := (slcR_row r3).1.trans (by rw [WQ.out]; rfl)
        clear r1 r3
        obtain ⟨c0, c1, c2, c3⟩ := H3.out.p2.cells4
        obtain ⟨d0, d1, d2, d3, d4, d5, d6⟩ := H3.out.cells7
        have SA := Lib.hid (imSumAll_at w10 U sj H3.out.p1.rdS)
        rw [S0.out] at SA
        go_wp2_with fail
        refine SA.out.mono ?_
        rintro r w11 ⟨rfl, hb⟩
        have H4 := Lib.hid (H3.out.later hb)
        clear hb SA H3 c0 c1 c2 c3 d0 d1 d2 d3 d4 d5 d6
        go_wp2
        go_ret
        exact ⟨rfl, H4.out.below⟩

/-! ### THE ROW's STEP: WRITTEN OUT: LEAVE IT -/
set_option maxRecDepth 100000 in
theorem lifted (os : Os) (started : os.Started) (H : Type) (enc : TypeId × Value → H) :
    ReturnsInHanded {} Tryz.checked os 3 .any (Rows.fnNetNewSpec.pre6 enc Tryz.prog Tryz.f3 Rows.fnNetNewRow.domain false) (Rows.fnNetNewSpec.post enc Tryz.prog Tryz.f3 false true false false) := by
  refine returnsInHanded_of_change (C := Tryz.checked) own started (by kernel_rfl) Tryz.func3
    (ChangeSpec.witness6 (enc := enc) (C := Tryz.checked) false ⟨#[], #[.slice none 0 0], []⟩ 8 (by kernel_rfl) (by kernel_rfl) (by kernel_rfl) (by kernel_rfl)) ?_
  intro W base args ds gs before hval0 hW hcnd _
  have hval : ∀ (j : Nat) t v, Tryz.f3.params[j]? = some t → args[j]? = some v → Value.okWide Tryz.prog W .any base t v := hval0
  have hW' := hW
  obtain ⟨p, q, hA0, hV, rfl, hfz, hnd⟩ := hW
  have hA : DataW.TrodAll enc Tryz.prog W 0 (fun _ => true) true Tryz.f3.params.toList args.toList ds p := hA0
  rw [Tryz.params3] at hA hval
  obtain ⟨v0, vs0, d0, ds0, p0, q0, hargs, rfl, rfl, h0, r0⟩ := trodAll_cons hA
  obtain ⟨rfl, rfl, rfl⟩ := trodAll_nil r0
  obtain rfl : args = #[v0] := by cases args; simp_all
  obtain ⟨rfl, rfl⟩ := trodVars_none hV
  obtain ⟨a0, len0, cap0, rfl⟩ := okWide_slice Tryz.underlying22 (hval 0 22 v0 rfl rfl)
  have k0 := h0
  have lt0 : ∀ x ∈ p0, x.block < W.heap.size := by obtain ⟨m, hm⟩ := k0; exact DataW.trod_lt m _ _ _ hm
  obtain ⟨z0, w0⟩ : ∃ zs, IsRow .u8 W a0 len0 cap0 zs := by
    obtain ⟨fuel, hf⟩ := h0
    rcases open_ints Tryz.underlying22 Tryz.underlying5 (by kernel_rfl) hf with ⟨hcs, _⟩ | ⟨x, l, c, zs, hcs, _, hl, hm, hz, _, hcell, hwz⟩
    · simp [Value.cells] at hcs
      obtain ⟨rfl, rfl, rfl⟩ := hcs
      exact ⟨[], .inl ⟨rfl, rfl, rfl, rfl⟩⟩
    · simp [Value.cells] at hcs
      obtain ⟨rfl, rfl, rfl⟩ := hcs
      exact ⟨zs, .inr ⟨_, rfl, hl, hm, by simpa using hz, hcell, hwz⟩⟩
  clear hA0 hval0
  refine (walk a0 len0 cap0 z0 W w0).mono fun e W' ⟨he, bel⟩ => ?_
  subst he
  exact ⟨_, rfl, _, _, _, [], _, [], hW', trodAll_mk1 (shut_bool Tryz.underlying4 _), (trodAll_cons_mk (Below.trod laidOut (by kernel_rfl) (of_decide_eq_true (by kernel_rfl)) k0 bel lt0) trodAll_mk0), rfl, bel.frame _, fun h => by cases h⟩
end Go.Proofs.YtcblbdpdbggkbaaGreat.fnNetNew
