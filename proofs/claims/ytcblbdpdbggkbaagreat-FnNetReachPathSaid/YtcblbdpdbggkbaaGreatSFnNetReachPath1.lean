/-
  The statement of the law FnNetReachPath: at every input the call returns true and leaves what it was given as it was. The frame is the kit's shell; the walk is ours.
-/
import Derived.Deep.RegionHeld3
import Derived.Deep.RegionWith
import Derived.Deep.DeepCutAuto
import Derived.Test.YtcblbdpdbggkbaaGreatRows
import Derived.WalkKit
import Derived.ProofKit
import Derived.OpenShut
import Derived.ShutString
import Derived.ChangeOld
import Derived.Below
import Derived.Test.YtcblbdpdbggkbaaGreatSReach10
namespace Go.Proofs.YtcblbdpdbggkbaaGreat.fnNetReachPath
open Go.ChangeShapes Go.WideShapes Go.ChangeAt Go.RowKit
open Go.ChangeMaps (open_string shut_string)
set_option linter.unusedVariables false
set_option linter.unusedSimpArgs false

theorem own : ownKnob Tryz.prog.godebug = none := by kernel_rfl
theorem laidOut : laidOutB Tryz.prog = true := by kernel_rfl

/-- WHAT THE WALK IS TOLD OF A SLICE OF INTEGERS THAT CAME IN: it is nil; or it leads to a row of 'cap' cells, the numbers 'zs' (the first 'len' are its elements, the rest its spare room), each fitting its kind. -/
def IsRow (k : IntKind) (w : World) (a : Option Addr) (len cap : Nat) (zs : List Int) : Prop :=
  (a = none ∧ len = 0 ∧ cap = 0 ∧ zs = []) ∨
  ∃ x, a = some x ∧ len ≤ cap ∧ cap ≤ maxLen ∧ zs.length = cap ∧ (∀ i, i < zs.length → w.cell? (x.add i) = some (.int k (zs.getD i 0))) ∧ ∀ n ∈ zs, (Lit.int k n).wf = true

/-! ### STEP 1: THE WALK: the Go text returns true, AND WRITES NOTHING THAT WAS THERE: 'Below w.heap.size w w'' (Derived/Below.lean: '.refl', '.alloc', '.drew', '.setCell' at a new block, '.trans'). Open each 'IsRow' by 'rcases' AHEAD of 'go_enter'; part every test ahead of the walk. -/
theorem walk (a0 : Option Addr) (len0 cap0 : Nat) (z0 : List Int) (w : World) (w0 : IsRow .u8 w a0 len0 cap0 z0) :
    Calls Tryz.prog 6 #[.slice a0 len0 cap0] w fun e w' => e = .returned (.bool true) ∧ Below w.heap.size w w' := by
  obtain ⟨hb, hl⟩ := bts_of w a0 len0 cap0 z0 w0
  rcases hl with hl | hl
  · go_enter Tryz.func6, Tryz.ntmps6
    go_wp2
    go_ret
    exact ⟨rfl, Below.refl _ _⟩
  have hS : N.SortOk := N.sort_ok
  have HB := Lib.hid hb
  have h0 := M.start w
  obtain ⟨B0, hB0⟩ := nm_ w.heap.size
  rw [← hB0] at HB h0 ⊢
  clear hb w0 hB0
  have H0 := Lib.hid h0
  clear h0
  go_enter Tryz.func6, Tryz.ntmps6
  go_wp2_with fail
  refine (N.drawNetReach_at H0.out ⟨_, _, rfl⟩ HB.out).mono ?_
  rintro r w1 ⟨v1, v2, v3, v4, n, rfl, _, h1⟩
  obtain ⟨x1, c1, rfl, _⟩ := M.form h1
  obtain ⟨x2, c2, rfl, _⟩ := M.form h1.p1
  obtain ⟨x3, c3, rfl, _⟩ := M.form h1.p2
  obtain ⟨x4, c4, rfl, _⟩ := M.form h1.p3
  obtain ⟨k1, hk1⟩ := nm_ n.nodes.length
  obtain ⟨k2, hk2⟩ := nm_ n.links.length
  obtain ⟨k3, hk3⟩ := nm_ n.words.length
  obtain ⟨k4, hk4⟩ := nm_ n.past.length
  rw [← hk1, ← hk2, ← hk3, ← hk4] at h1 ⊢
  have K2 := Lib.hid hk2
  clear hk1 hk2 hk3 hk4
  have h2 := h1.alloc #[.slice x1 k1 c1, .slice x2 k2 c2, .slice x3 k3 c3, .slice x4 k4 c4] 30
  obtain ⟨q, hq⟩ := nm_ w1.heap.size
  obtain ⟨W1, hW1⟩ := nm_ (w1.alloc (.cells #[.slice x1 k1 c1, .slice x2 k2 c2, .slice x3 k3 c3, .slice x4 k4 c4] 30))
  rw [← hW1, ← hq] at h2
  have H2 := Lib.hid h2
  clear h1 h2 H0
  obtain ⟨R, hR⟩ := nm_ (N.reachN n)
  have RL := Lib.hid (show R.length ≤ 5 by rw [hR]; unfold N.reachN; split; (· exact N.reachL_len (N.seenN n.links) 5); exact Nat.zero_le _)
  have KIM := Lib.hid (fun (W : World) v1 x k c v3 v4 f h => N.imNetReach_at hS W (v1 := v1) (v3 := v3) (v4 := v4) (y0 := x) (k2 := k) (c' := c) (n := n) (f := f) h)
  have KSP := Lib.hid (fun (W : World) v1 x k c v3 v4 f h => N.spNetReach_at W (v1 := v1) (v3 := v3) (v4 := v4) (x := x) (k2 := k) (c := c) (n := n) (f := f) h)
  rw [← hR] at KIM KSP
  have HR := Lib.hid hR
  clear hR hS
  go_upto_region 4 with fail
  rw [← hW1, ← hq]
  clear hW1 hq
  obtain ⟨a0', a1, a2, a3⟩ := H2.out.cells4
  have KI := Lib.hid (let ⟨f, hf⟩ := H2.out.p2.linksRd; KIM.out W1 (.slice x1 k1 c1) x2 k2 c2 (.slice x3 k3 c3) (.slice x4 k4 c4) f hf)
  go_wp2_with fail
  refine KI.out.mono ?_
  rintro r w2 ⟨vr, rfl, hm⟩
  have h3 := H2.out.plus hm
  obtain ⟨xr, cr, rfl⟩ : ∃ x c, vr = .slice x R.length c := by
    obtain ⟨f, hf, _⟩ := h3.first
    obtain ⟨x, c, e, _⟩ := flR_value hf
    exact ⟨x, c, e⟩
  obtain ⟨nr, hnr⟩ := nm_ R.length
  rw [← hnr] at h3 RL ⊢
  have NR := Lib.hid hnr
  have H3 := Lib.hid h3
  clear hm h3 H2 KI a0' a1 a2 a3 hnr
  -- both answers, compared
  obtain ⟨a0', a1, a2, a3⟩ := H3.out.p1.cells4
  have KS := Lib.hid (let ⟨f, hf⟩ := H3.out.p3.linksRd; KSP.out w2 (.slice x1 k1 c1) x2 k2 c2 (.slice x3 k3 c3) (.slice x4 k4 c4) f hf)
  go_wp2_with fail
  refine KS.out.mono ?_
  rintro r w3 ⟨vs, rfl, hm⟩
  have H4 := Lib.hid (H3.out.plus hm)
  clear hm H3 KS a0' a1 a2 a3
  have KL := Lib.hid (let ⟨f1, hf1, _⟩ := H4.out.p1.first; let ⟨f2, hf2, _⟩ := H4.out.first; N.lkInts_eq w3 (l := R) hf1 hf2 (by have := RL.out; rw [← NR.out]; unfold maxLen; omega))
  obtain ⟨a0', a1, a2, a3⟩ := H4.out.p2.cells4
  go_wp2_with fail
  refine KL.out.mono ?_
  rintro r w4 ⟨rfl, hb⟩
  have H5 := Lib.hid (H4.out.later hb)
  clear hb H4 KL a0' a1 a2 a3
  obtain ⟨a0', a1, a2, a3⟩ := H5.out.p2.cells4
  obtain ⟨bo, hbo⟩ := nm_ (N.okNB n)
  have KO := Lib.hid (N.spNetOk_at w4 (M.rdNet (b := .bool true) H5.out.drop.drop))
  rw [← hbo] at KO
  have BO := Lib.hid hbo
  clear hbo
  go_wp2_with fail
  refine KO.out.mono ?_
  rintro r w5 ⟨rfl, hb⟩
  have H6 := Lib.hid (H5.out.later hb)
  clear hb H5 KO a0' a1 a2 a3
  cases bo with
  | false =>
    obtain ⟨a0', a1, a2, a3⟩ := H6.out.p2.cells4
    have KS := Lib.hid (let ⟨f, hf⟩ := H6.out.p4.linksRd; KSP.out w5 (.slice x1 k1 c1) x2 k2 c2 (.slice x3 k3 c3) (.slice x4 k4 c4) f hf)
    go_wp2_with fail
    refine KS.out.mono ?_
    rintro r w6 ⟨vs2, rfl, hm⟩
    have H7 := Lib.hid (H6.out.plus hm)
    clear hm H6 KS a0' a1 a2 a3
    have KL := Lib.hid (let ⟨f1, hf1, _⟩ := H7.out.p2.first; let ⟨f2, hf2, _⟩ := H7.out.first; N.lkInts_eq w6 (l := R) hf1 hf2 (by have := RL.out; rw [← NR.out]; unfold maxLen; omega))
    obtain ⟨a0', a1, a2, a3⟩ := H7.out.p3.cells4
    go_wp2_with fail
    refine KL.out.mono ?_
    rintro r w7 ⟨rfl, hb⟩
    have H8 := Lib.hid (H7.out.later hb)
    clear hb H7 KL a0' a1 a2 a3
    go_wp2
    go_ret
    exact ⟨rfl, H8.out.below⟩
  | true =>
    have OK := Lib.hid (N.okNB_iff.1 BO.out.symm)
    obtain rfl : k2 = 25 := K2.out.trans OK.out.links
    have N1 : 1 ≤ nr := by
      obtain ⟨l', el⟩ := N.reach_head OK.out.links
      rw [NR.out, HR.out, el]; exact Nat.succ_le_succ (Nat.zero_le _)
    have N5 : nr ≤ 5 := RL.out
    have H7 := Lib.hid H6.out.drop
    clear H6 KSP KIM K2 BO
    go_wp2
    go_loopw [5] (fun z wr => ∃ i : Nat, 1 ≤ i ∧ i ≤ nr ∧ z = .int .i64 (i : Int) ∧ M B0 w wr [N.intsC (.slice xr nr cr) R, boxC q 30 #[.slice x1 k1 c1, .slice x2 25 c2, .slice x3 k3 c3, .slice x4 k4 c4], N.nodesC (.slice x1 k1 c1) n.nodes, N.linksC (.slice x2 25 c2) n.links, N.wordsC (.slice x3 k3 c3) n.words, N.pastC (.slice x4 k4 c4) n.past]) (fun z _ => nr - (intOf z).toNat)
    case atStart => exact ⟨1, Nat.le_refl _, N1, rfl, H7.out⟩
    case round =>
      clear H7
      obtain ⟨i, h1, hi, rfl, hm⟩ := hrel
      have H := Lib.hid hm
      clear hm
      by_cases hlt : (i : Int) < (nr : Int)
      · obtain ⟨zi, z4, hzi⟩ : ∃ a : Nat, a ≤ 4 ∧ R.getD i 0 = (a : Int) := by
          have k := N.reach_node OK.out.links (i := i) (by rw [← HR.out, ← NR.out]; omega)
          rw [← HR.out] at k
          exact ⟨(R.getD i 0).toNat, by have := k.1; have := k.2; omega, by have := k.1; omega⟩
        obtain ⟨T, T0, TS, TN⟩ : ∃ T : Nat → Bool, T 0 = false ∧ (∀ k, k < nr → T (k + 1) = (T k || N.whole n (R.getD k 0) (zi : Int))) ∧ T nr = true := ⟨fun k => (R.take k).any (fun a => N.whole n a (zi : Int)), rfl, fun k hk => N.any_take (by rw [← NR.out]; exact hk), by
          have k := N.reach_some OK.out.links (i := i) o_ (by rw [← HR.out, ← NR.out]; omega)
          rw [← HR.out, hzi] at k
          show (R.take nr).any _ = true
          rw [NR.out, List.take_length]
          exact k⟩
        have TT := Lib.hid (And.intro T0 (And.intro TS TN))
        have ZI := Lib.hid hzi
        clear T0 TS TN hzi
        have hi0 : (0 : Int) ≤ (i : Int) := o_
        go_wp2
        go_loopw [6, 7] (fun s z wr => ∃ k : Nat, k ≤ nr ∧ s = .bool (T k) ∧ z = .int .i64 (k : Int) ∧ M B0 w wr [N.intsC (.slice xr nr cr) R, boxC q 30 #[.slice x1 k1 c1, .slice x2 25 c2, .slice x3 k3 c3, .slice x4 k4 c4], N.nodesC (.slice x1 k1 c1) n.nodes, N.linksC (.slice x2 25 c2) n.links, N.wordsC (.slice x3 k3 c3) n.words, N.pastC (.slice x4 k4 c4) n.past]) (fun _ z _ => nr - (intOf z).toNat)
        case atStart => exact ⟨0, Nat.zero_le _, by rw [TT.out.1], rfl, H.out⟩
        case round =>
          clear H
          obtain ⟨k, hk, rfl, rfl, hm⟩ := hrel
          have H3 := Lib.hid hm.drew
          have H := Lib.hid hm
          clear hm
          by_cases hlt2 : (k : Int) < (nr : Int)
          · clear H
            obtain ⟨zk, y4, hzk⟩ : ∃ a : Nat, a ≤ 4 ∧ R.getD k 0 = (a : Int) := by
              have kk := N.reach_node OK.out.links (i := k) (by rw [← HR.out, ← NR.out]; omega)
              rw [← HR.out] at kk
              exact ⟨(R.getD k 0).toNat, by have := kk.1; have := kk.2; omega, by have := kk.1; omega⟩
            obtain ⟨w8, hw8⟩ := nm_ wr.drew
            rw [← hw8] at H3
            have EW := Lib.hid hw8
            clear hw8
            have TK := Lib.hid (TT.out.2.1 k o_)
            rw [hzk] at TK
            obtain ⟨g, gx, _, l0⟩ : ∃ g, x2 = some ⟨g, 0, none⟩ ∧ g < w8.heap.size ∧ w8.cell? ⟨g, zk * 5 + zi, none⟩ = some (.bool (N.whole n zk zi)) := by
              obtain ⟨_, r2⟩ := H3.out.p3.linksRd
              exact N.link_at r2 (N.link_get OK.out.links ⟨o_, o_⟩ ⟨o_, o_⟩ o_)
            subst gx
            rw [← show ((zk : Int) * 5 + (zi : Int)).toNat = zk * 5 + zi by omega] at l0
            obtain ⟨gz, oz, rfl, m0⟩ := N.ints_el H3.out.ints (j := k) (by rw [← NR.out]; omega)
            obtain ⟨_, _, eq, m1⟩ := N.ints_el H3.out.ints (j := i) (by rw [← NR.out]; omega)
            cases eq
            rw [hzk] at m0
            rw [ZI.out] at m1
            have bw : IntKind.i64.wrap ((zk : Int) * 5) = (zk : Int) * 5 := IntWalk.i64_in _ o_
            have bu : IntKind.i64.wrap ((zk : Int) * 5 + (zi : Int)) = (zk : Int) * 5 + (zi : Int) := IntWalk.i64_in _ o_
            have bk : IntKind.i64.wrap ((k : Int) + 1) = (k : Int) + 1 := IntWalk.i64_in _ o_
            have u0 : (0 : Int) ≤ (zk : Int) * 5 + (zi : Int) := o_
            have u1 : (zk : Int) * 5 + (zi : Int) < 25 := o_
            have k0 : (0 : Int) ≤ (k : Int) := o_
            obtain ⟨wh, hwh⟩ := nm_ (N.whole n zk zi)
            rw [← hwh] at l0 TK
            obtain ⟨a0', a1, a2, a3⟩ := H3.out.p1.cells4
            obtain ⟨tk, htk⟩ := nm_ (T k)
            rw [← htk] at TK ⊢
            clear hwh hzk htk
            go_upto_region 14 with fail
            cases tk with
            | true =>
              refine wp_region_plan 17 (.take 0 (.take 1 (.take 2 (.take 3 (.take 4 (.take 5 (.take 6 (.take 7 (.take 8 (.take 9 (.take 10 (.take 11 (.take 12 (.take 13 (.take 14 (.take 15 (.take 16 (.alt 17 .done .nomore)))))))))))))))))) (fun w' => w' = w8) (by kernel_rfl) (by kernel_rfl) (fun _ _ _ _ _ h => h) EW.out.symm ?_
              rw [← EW.out]
              repeat (first | refine tA_ ?_ | refine tB_ ?_)
              refine plan_last (by rfl) (fun K hK => ?_)
              go_simp
              refine hK _ _ (.inl rfl) ?_
              clear hK K
              try refine tP_ ?_
              refine plan_done ?_
              clear a0' a1 a2 a3 m0 m1 l0
              go_wp2
              go_roundw
              case rel => exact ⟨k + 1, o_, by rw [TK.out]; rfl, by go_num, H3.out⟩
              case measure => simp [intOf]; omega
            | false =>
              refine wp_region_plan 17 (.take 0 (.take 1 (.take 2 (.take 3 (.take 4 (.take 5 (.take 6 (.take 7 (.take 8 (.take 9 (.take 10 (.take 11 (.take 12 (.take 13 (.take 14 (.take 15 (.take 16 (.alt 17 .done .nomore)))))))))))))))))) (fun w' => w' = w8) (by kernel_rfl) (by kernel_rfl) (fun _ _ _ _ _ h => h) EW.out.symm ?_
              rw [← EW.out]
              repeat (first | refine tA_ ?_ | refine tB_ ?_)
              refine plan_last (by rfl) (fun K hK => ?_)
              go_simp
              refine hK _ _ (.inl rfl) ?_
              clear hK K
              try refine tP_ ?_
              refine plan_done ?_
              clear a0' a1 a2 a3 m0 m1 l0
              go_wp2
              go_roundw
              case rel => exact ⟨k + 1, o_, by rw [TK.out]; rfl, by go_num, H3.out⟩
              case measure => simp [intOf]; omega
          · obtain rfl : k = nr := o_
            rw [TT.out.2.2]
            clear H
            obtain ⟨w8, hw8⟩ := nm_ wr.drew
            rw [← hw8] at H3
            have EW := Lib.hid hw8
            clear hw8
            obtain ⟨i', ei⟩ : ∃ j, i = j + 1 := ⟨i - 1, o_⟩
            have EI := Lib.hid ei
            obtain ⟨gz, oz, rfl, m0⟩ := N.ints_el H3.out.ints (j := i') (by rw [← NR.out]; omega)
            obtain ⟨_, _, eq, m1⟩ := N.ints_el H3.out.ints (j := i) (by rw [← NR.out]; omega)
            cases eq
            have lt := N.reach_lt (n := n) (i := i') (j := i) o_ (by rw [← HR.out, ← NR.out]; omega)
            rw [← HR.out] at lt
            obtain ⟨y0, hy0⟩ := nm_ (R.getD i' 0)
            obtain ⟨y1, hy1⟩ := nm_ (R.getD i 0)
            rw [← hy0, ← hy1] at lt
            rw [← hy0] at m0
            rw [← hy1] at m1
            have ge : ¬ y1 ≤ y0 := o_
            have bs : IntKind.i64.wrap ((i : Int) - 1) = (i' : Int) := by
              rw [show ((i : Int) - 1) = (i' : Int) by omega]; exact IntWalk.i64_in _ o_
            have bi : IntKind.i64.wrap ((i : Int) + 1) = (i : Int) + 1 := IntWalk.i64_in _ o_
            have s0 : (0 : Int) ≤ (i' : Int) := o_
            have s1 : (i' : Int) < (k : Int) := o_
            clear hy0 hy1 ei
            go_upto_region 15 with fail
            refine wp_region_plan 99 (.take 0 (.take 1 (.take 2 (.take 3 (.take 4 (.take 5 (.take 6 (.take 7 (.take 8 (.take 9 (.take 10 (.take 11 (.take 12 (.take 13 .done)))))))))))))) (fun w' => w' = w8) (by kernel_rfl) (by kernel_rfl) (fun _ _ _ _ _ h => h) EW.out.symm ?_
            rw [← EW.out]
            repeat (first | refine tA_ ?_ | refine tB_ ?_)
            refine plan_done ?_
            clear m0 m1
            go_wp2
            go_roundw
            case rel => exact ⟨i + 1, o_, o_, by go_num, H3.out⟩
            case measure => simp [intOf]; omega
      · go_wp2
        go_ret
        exact ⟨rfl, H.out.below⟩

/-! ### THE ROW's STEP: WRITTEN OUT: LEAVE IT -/
set_option maxRecDepth 100000 in
theorem lifted (os : Os) (started : os.Started) (H : Type) (enc : TypeId × Value → H) :
    ReturnsInHanded {} Tryz.checked os 6 .any (Rows.fnNetReachPathSpec.pre6 enc Tryz.prog Tryz.f6 Rows.fnNetReachPathRow.domain false) (Rows.fnNetReachPathSpec.post enc Tryz.prog Tryz.f6 false true false false) := by
  refine returnsInHanded_of_change (C := Tryz.checked) own started (by kernel_rfl) Tryz.func6
    (ChangeSpec.witness6 (enc := enc) (C := Tryz.checked) false ⟨#[], #[zn], []⟩ 8 (by kernel_rfl) (by kernel_rfl) (by kernel_rfl) (by kernel_rfl)) ?_
  intro W base args ds gs before hval0 hW hcnd _
  have hval : ∀ (j : Nat) t v, Tryz.f6.params[j]? = some t → args[j]? = some v → Value.okWide Tryz.prog W .any base t v := hval0
  have hW' := hW
  obtain ⟨p, q, hA0, hV, rfl, hfz, hnd⟩ := hW
  have hA : DataW.TrodAll enc Tryz.prog W 0 (fun _ => true) true Tryz.f6.params.toList args.toList ds p := hA0
  rw [Tryz.params6] at hA hval
  obtain ⟨v0, vs0, d0, ds0, p0, q0, hargs, rfl, rfl, h0, r0⟩ := trodAll_cons hA
  obtain ⟨rfl, rfl, rfl⟩ := trodAll_nil r0
  obtain rfl : args = #[v0] := by cases args; simp_all
  obtain ⟨rfl, rfl⟩ := trodVars_none hV
  obtain ⟨a0, len0, cap0, rfl⟩ := okWide_slice Tryz.underlying22 (hval 0 22 v0 rfl rfl)
  have k0 := h0
  have lt0 : ∀ x ∈ p0, x.block < W.heap.size := by obtain ⟨m, hm⟩ := k0; exact DataW.trod_lt m _ _ _ hm
  obtain ⟨z0, w0⟩ : ∃ zs, IsRow .u8 W a0 len0 cap0 zs := by
    obtain ⟨fuel, hf⟩ := h0
    rcases open_ints Tryz.underlying22 Tryz.underlying5 (by kernel_rfl) hf with ⟨hcs, _⟩ | ⟨x, l, c, zs, hcs, _, hl, hm, hz, _, hcell, hwz⟩
    · simp [Value.cells] at hcs
      obtain ⟨rfl, rfl, rfl⟩ := hcs
      exact ⟨[], .inl ⟨rfl, rfl, rfl, rfl⟩⟩
    · simp [Value.cells] at hcs
      obtain ⟨rfl, rfl, rfl⟩ := hcs
      exact ⟨zs, .inr ⟨_, rfl, hl, hm, by simpa using hz, hcell, hwz⟩⟩
  clear hA0 hval0
  refine (walk a0 len0 cap0 z0 W w0).mono fun e W' ⟨he, bel⟩ => ?_
  subst he
  exact ⟨_, rfl, _, _, _, [], _, [], hW', trodAll_mk1 (shut_bool Tryz.underlying4 _), (trodAll_cons_mk (Below.trod laidOut (by kernel_rfl) (of_decide_eq_true (by kernel_rfl)) k0 bel lt0) trodAll_mk0), rfl, bel.frame _, fun h => by cases h⟩
end Go.Proofs.YtcblbdpdbggkbaaGreat.fnNetReachPath
