/-
  The statement of the law FnSumAll: at every input the call returns true and leaves what it was given as it was. The frame is the kit's shell; the walk is ours.
-/
import Derived.Test.YtnoilafoeaknjaaZDrawT
import Derived.Test.YtnoilafoeaknjaaZSpGet
import Derived.Test.YtnoilafoeaknjaaZImGet
import Derived.Test.YtnoilafoeaknjaaZImOk
import Derived.Test.YtnoilafoeaknjaaZImNew
import Derived.Deep.RegionWith
import Derived.Test.YtnoilafoeaknjaaRows
import Derived.WalkKit
import Derived.ProofKit
import Derived.OpenShut
import Derived.ShutString
import Derived.ChangeOld
import Derived.Below
namespace Go.Proofs.Ytnoilafoeaknjaa.fnSumAll
open Go.ChangeShapes Go.WideShapes Go.ChangeAt Go.RowKit
open Go.ChangeMaps (open_string shut_string)
set_option linter.unusedVariables false

theorem own : ownKnob Try.prog.godebug = none := by kernel_rfl
theorem laidOut : laidOutB Try.prog = true := by kernel_rfl

/-- WHAT THE WALK IS TOLD OF A SLICE OF INTEGERS THAT CAME IN: it is nil; or it leads to a row of 'cap' cells, the numbers 'zs' (the first 'len' are its elements, the rest its spare room), each fitting its kind. -/
def IsRow (k : IntKind) (w : World) (a : Option Addr) (len cap : Nat) (zs : List Int) : Prop :=
  (a = none ∧ len = 0 ∧ cap = 0 ∧ zs = []) ∨
  ∃ x, a = some x ∧ len ≤ cap ∧ cap ≤ maxLen ∧ zs.length = cap ∧ (∀ i, i < zs.length → w.cell? (x.add i) = some (.int k (zs.getD i 0))) ∧ ∀ n ∈ zs, (Lit.int k n).wf = true

/-! ### STEP 1: THE WALK: the Go text returns true, AND WRITES NOTHING THAT WAS THERE: 'Below w.heap.size w w'' (Derived/Below.lean: '.refl', '.alloc', '.drew', '.setCell' at a new block, '.trans'). Open each 'IsRow' by 'rcases' AHEAD of 'go_enter'; part every test ahead of the walk. -/
set_option maxRecDepth 100000 in
set_option maxHeartbeats 16000000 in
theorem walk (a0 : Option Addr) (len0 cap0 : Nat) (z0 : List Int) (w : World) (w0 : IsRow .u8 w a0 len0 cap0 z0) :
    Calls Try.prog 5 #[.slice a0 len0 cap0] w fun e w' => e = .returned (.bool true) ∧ Below w.heap.size w w' := by
  obtain ⟨hb, hl⟩ := bts_of w a0 len0 cap0 z0 w0
  rcases hl with hl | hl
  · go_enter Try.func5, Try.ntmps5
    go_wp2
    go_ret
    exact ⟨rfl, Below.refl _ _⟩
  have HB := Lib.hid hb
  clear hb w0
  have B := Lib.hid (Below.refl w.heap.size w)
  go_enter Try.func5, Try.ntmps5
  go_wp2_with fail
  refine (drawSAll_at w _ len0 ⟨_, _, rfl⟩ (bts_below HB.out B.out)).mono ?_
  rintro e w1 ⟨V0, s, rfl, ho, hb⟩
  replace ho := ho.rd
  replace B := Lib.hid (B.out.trans (hb.mono B.out.size))
  have Rs := Lib.hid (ho)
  clear hb
  obtain ⟨W1, hW⟩ : ∃ W, W = (w1.alloc (.cells #[.slice V0.xr V0.nr V0.cr, .slice V0.xf V0.nf V0.cf, .slice V0.xt V0.nt V0.ct, .int .i64 s.lo, .int .i64 s.al, .slice V0.xk V0.nk V0.ck, .int .i64 s.ka] 36)) := ⟨_, rfl⟩
  replace B := Lib.hid ((B.out).alloc (Nat.le_trans B.out.size (by simp)) (.cells #[.slice V0.xr V0.nr V0.cr, .slice V0.xf V0.nf V0.cf, .slice V0.xt V0.nt V0.ct, .int .i64 s.lo, .int .i64 s.al, .slice V0.xk V0.nk V0.ck, .int .i64 s.ka] 36))
  rw [← hW] at B
  replace Rs := Lib.hid (Rs.out.below ((Below.refl _ _).alloc (Nat.le_refl _) (.cells #[.slice V0.xr V0.nr V0.cr, .slice V0.xf V0.nf V0.cf, .slice V0.xt V0.nt V0.ct, .int .i64 s.lo, .int .i64 s.al, .slice V0.xk V0.nk V0.ck, .int .i64 s.ka] 36)) (Nat.le_refl _))
  rw [← hW] at Rs
  have XS := Box7.new w1 36 (.slice V0.xr V0.nr V0.cr) (.slice V0.xf V0.nf V0.cf) (.slice V0.xt V0.nt V0.ct) (.int .i64 s.lo) (.int .i64 s.al) (.slice V0.xk V0.nk V0.ck) (.int .i64 s.ka)
  rw [← hW] at XS
  go_wp2_with fail
  rw [← hW]
  clear hW
  clear ho
  have KI := Lib.hid (fun (W : World) (h : RdS W V0 s) => imSumAll_at W V0 s h)
  have KS := Lib.hid (fun (W : World) (h : RdS W V0 s) => spSumAll_at W V0 s h)
  have KO := Lib.hid (fun (W : World) (h : RdS W V0 s) => imSumOk_at W V0 s h)
  have KN := Lib.hid (fun (W : World) (V : SV) (h : RdS W V newSm) => show Calls Try.prog 24 #[.agg #[.slice V.xr V.nr V.cr, .slice V.xf V.nf V.cf, .slice V.xt V.nt V.ct, .int .i64 newSm.lo, .int .i64 newSm.al, .slice V.xk V.nk V.ck, .int .i64 newSm.ka]] W fun e w' => e = .returned (.int .i64 0) ∧ Below W.heap.size W w' by have k := imSumAll_at W V newSm h; rw [show allS newSm = 0 by unfold allS; rw [okS_new]; rfl] at k; exact k)
  cases ok : okS s with
  | false =>
    rw [ok] at KO
    rw [show allS s = -1 by unfold allS; rw [ok]; rfl] at KI KS
    clear ok
    go_wp2_with fail
    refine (KI.out W1 Rs.out).mono ?_
    rintro e w2 ⟨rfl, hb⟩
    replace B := Lib.hid (B.out.trans (hb.mono B.out.size))
    replace Rs := Lib.hid (Rs.out.below hb (Nat.le_refl _))
    replace XS := XS.later hb
    clear hb
    obtain ⟨cxs0, cxs1, cxs2, cxs3, cxs4, cxs5, cxs6⟩ := (XS).cells
    go_wp2_with fail
    refine (KS.out w2 Rs.out).mono ?_
    rintro e w3 ⟨rfl, hb⟩
    clear cxs0 cxs1 cxs2 cxs3 cxs4 cxs5 cxs6
    replace B := Lib.hid (B.out.trans (hb.mono B.out.size))
    replace Rs := Lib.hid (Rs.out.below hb (Nat.le_refl _))
    replace XS := XS.later hb
    clear hb
    obtain ⟨cxs0, cxs1, cxs2, cxs3, cxs4, cxs5, cxs6⟩ := (XS).cells
    go_wp2_with fail
    refine (KO.out w3 Rs.out).mono ?_
    rintro e w4 ⟨rfl, hb⟩
    clear cxs0 cxs1 cxs2 cxs3 cxs4 cxs5 cxs6
    replace B := Lib.hid (B.out.trans (hb.mono B.out.size))
    replace Rs := Lib.hid (Rs.out.below hb (Nat.le_refl _))
    replace XS := XS.later hb
    clear hb
    obtain ⟨cxs0, cxs1, cxs2, cxs3, cxs4, cxs5, cxs6⟩ := (XS).cells
    go_wp2_with fail
    refine (imSumNew_at w4).mono ?_
    rintro e w5 ⟨V9, rfl, ho, hb⟩
    clear cxs0 cxs1 cxs2 cxs3 cxs4 cxs5 cxs6
    replace B := Lib.hid (B.out.trans (hb.mono B.out.size))
    replace Rs := Lib.hid (Rs.out.below hb (Nat.le_refl _))
    replace XS := XS.later hb
    have N := Lib.hid (ho)
    clear hb
    clear ho
    go_wp2_with fail
    refine (KN.out w5 V9 N.out.rd).mono ?_
    rintro e w6 ⟨rfl, hb⟩
    replace B := Lib.hid (B.out.trans (hb.mono B.out.size))
    replace Rs := Lib.hid (Rs.out.below hb (Nat.le_refl _))
    replace XS := XS.later hb
    replace N := Lib.hid (N.out.below hb)
    clear hb
    go_wp2
    go_ret
    exact ⟨by first | rfl | (simp; done), B.out⟩
  | true =>
    rw [ok] at KO
    rw [show allS s = s.al by unfold allS; rw [ok]; rfl] at KI KS
    have O := (okS_iff _).1 ok
    have a0 := O.al0.1
    have KR := Lib.hid (fun (W : World) (h : RdS W V0 s) => show Calls Try.prog 17 #[.agg #[.slice V0.xr V0.nr V0.cr]] W fun e w' => e = .returned (.int .i64 s.al) ∧ Below W.heap.size W w' by have k := roughAll_at W _ s.rs h.r; rw [O.ra] at k; exact k)
    have n0 : ¬ s.al < 0 := by omega
    clear O
    clear ok
    go_wp2_with fail
    refine (KI.out W1 Rs.out).mono ?_
    rintro e w2 ⟨rfl, hb⟩
    replace B := Lib.hid (B.out.trans (hb.mono B.out.size))
    replace Rs := Lib.hid (Rs.out.below hb (Nat.le_refl _))
    replace XS := XS.later hb
    clear hb
    obtain ⟨cxs0, cxs1, cxs2, cxs3, cxs4, cxs5, cxs6⟩ := (XS).cells
    go_wp2_with fail
    refine (KS.out w2 Rs.out).mono ?_
    rintro e w3 ⟨rfl, hb⟩
    clear cxs0 cxs1 cxs2 cxs3 cxs4 cxs5 cxs6
    replace B := Lib.hid (B.out.trans (hb.mono B.out.size))
    replace Rs := Lib.hid (Rs.out.below hb (Nat.le_refl _))
    replace XS := XS.later hb
    clear hb
    obtain ⟨cxs0, cxs1, cxs2, cxs3, cxs4, cxs5, cxs6⟩ := (XS).cells
    go_wp2_with fail
    refine (KO.out w3 Rs.out).mono ?_
    rintro e w4 ⟨rfl, hb⟩
    clear cxs0 cxs1 cxs2 cxs3 cxs4 cxs5 cxs6
    replace B := Lib.hid (B.out.trans (hb.mono B.out.size))
    replace Rs := Lib.hid (Rs.out.below hb (Nat.le_refl _))
    replace XS := XS.later hb
    clear hb
    obtain ⟨cxs0, cxs1, cxs2, cxs3, cxs4, cxs5, cxs6⟩ := (XS).cells
    go_wp2_with fail
    refine (KR.out w4 Rs.out).mono ?_
    rintro e w5 ⟨rfl, hb⟩
    clear cxs0 cxs1 cxs2 cxs3 cxs4 cxs5 cxs6
    replace B := Lib.hid (B.out.trans (hb.mono B.out.size))
    replace Rs := Lib.hid (Rs.out.below hb (Nat.le_refl _))
    replace XS := XS.later hb
    clear hb
    go_wp2_with fail
    refine (imSumNew_at w5).mono ?_
    rintro e w6 ⟨V9, rfl, ho, hb⟩
    replace B := Lib.hid (B.out.trans (hb.mono B.out.size))
    replace Rs := Lib.hid (Rs.out.below hb (Nat.le_refl _))
    replace XS := XS.later hb
    have N := Lib.hid (ho)
    clear hb
    clear ho
    go_wp2_with fail
    refine (KN.out w6 V9 N.out.rd).mono ?_
    rintro e w7 ⟨rfl, hb⟩
    replace B := Lib.hid (B.out.trans (hb.mono B.out.size))
    replace Rs := Lib.hid (Rs.out.below hb (Nat.le_refl _))
    replace XS := XS.later hb
    replace N := Lib.hid (N.out.below hb)
    clear hb
    go_wp2
    go_ret
    exact ⟨by first | rfl | (simp; done), B.out⟩

/-! ### THE ROW's STEP: WRITTEN OUT: LEAVE IT -/
set_option maxRecDepth 100000 in
theorem lifted (os : Os) (started : os.Started) (H : Type) (enc : TypeId × Value → H) :
    ReturnsInHanded {} Try.checked os 5 .any (Rows.fnSumAllSpec.pre6 enc Try.prog Try.f5 Rows.fnSumAllRow.domain false) (Rows.fnSumAllSpec.post enc Try.prog Try.f5 false true false false) := by
  refine returnsInHanded_of_change (C := Try.checked) own started (by kernel_rfl) Try.func5
    (ChangeSpec.witness6 (enc := enc) (C := Try.checked) false ⟨#[], #[.slice none 0 0], []⟩ 8 (by kernel_rfl) (by kernel_rfl) (by kernel_rfl) (by kernel_rfl)) ?_
  intro W base args ds gs before hval0 hW hcnd _
  have hval : ∀ (j : Nat) t v, Try.f5.params[j]? = some t → args[j]? = some v → Value.okWide Try.prog W .any base t v := hval0
  have hW' := hW
  obtain ⟨p, q, hA0, hV, rfl, hfz, hnd⟩ := hW
  have hA : DataW.TrodAll enc Try.prog W 0 (fun _ => true) true Try.f5.params.toList args.toList ds p := hA0
  rw [Try.params5] at hA hval
  obtain ⟨v0, vs0, d0, ds0, p0, q0, hargs, rfl, rfl, h0, r0⟩ := trodAll_cons hA
  obtain ⟨rfl, rfl, rfl⟩ := trodAll_nil r0
  obtain rfl : args = #[v0] := by cases args; simp_all
  obtain ⟨rfl, rfl⟩ := trodVars_none hV
  obtain ⟨a0, len0, cap0, rfl⟩ := okWide_slice Try.underlying22 (hval 0 22 v0 rfl rfl)
  have k0 := h0
  have lt0 : ∀ x ∈ p0, x.block < W.heap.size := by obtain ⟨m, hm⟩ := k0; exact DataW.trod_lt m _ _ _ hm
  obtain ⟨z0, w0⟩ : ∃ zs, IsRow .u8 W a0 len0 cap0 zs := by
    obtain ⟨fuel, hf⟩ := h0
    rcases open_ints Try.underlying22 Try.underlying5 (by kernel_rfl) hf with ⟨hcs, _⟩ | ⟨x, l, c, zs, hcs, _, hl, hm, hz, _, hcell, hwz⟩
    · simp [Value.cells] at hcs
      obtain ⟨rfl, rfl, rfl⟩ := hcs
      exact ⟨[], .inl ⟨rfl, rfl, rfl, rfl⟩⟩
    · simp [Value.cells] at hcs
      obtain ⟨rfl, rfl, rfl⟩ := hcs
      exact ⟨zs, .inr ⟨_, rfl, hl, hm, by simpa using hz, hcell, hwz⟩⟩
  clear hA0 hval0
  refine (walk a0 len0 cap0 z0 W w0).mono fun e W' ⟨he, bel⟩ => ?_
  subst he
  exact ⟨_, rfl, _, _, _, [], _, [], hW', trodAll_mk1 (shut_bool Try.underlying4 _), (trodAll_cons_mk (Below.trod laidOut (by kernel_rfl) (of_decide_eq_true (by kernel_rfl)) k0 bel lt0) trodAll_mk0), rfl, bel.frame _, fun h => by cases h⟩

theorem over : Rows.fnSumAllRow.holds Try.pinned (OpenSpec.ofChange Rows.fnSumAllSpec) :=
  OpenClaim.holds_of_wide 5 Try.f5 rfl rfl rfl rfl rfl rfl rfl ⟨rfl, rfl, rfl, rfl, rfl⟩ rfl rfl rfl rfl rfl (by kernel_rfl) Try.func5 (by kernel_rfl)
    (of_decide_eq_true (by kernel_rfl)) (by unfold Func.isWrapper; first | (rw [if_pos (by decide +kernel)]; kernel_rfl) | (rw [if_neg (by decide +kernel)]; exact ⟨rfl, rfl⟩))
    (fun os started H enc _ => lifted os started H enc)

theorem proved : Rows.FnSumAllSaid := over
#print axioms proved
end Go.Proofs.Ytnoilafoeaknjaa.fnSumAll
