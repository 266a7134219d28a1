/-
  The statement of the law FnSumOk: at every input the call returns true and leaves what it was given as it was. The frame is the kit's shell; the walk is ours.
-/
import Derived.Deep.RegionHeld3
import Derived.Test.YtnoilafoeaknjaaZDrawT
import Derived.Test.YtnoilafoeaknjaaZSpOk
import Derived.Test.YtnoilafoeaknjaaZImOk
import Derived.Deep.RegionWith
import Derived.Test.YtnoilafoeaknjaaRows
import Derived.WalkKit
import Derived.ProofKit
import Derived.OpenShut
import Derived.ShutString
import Derived.ChangeOld
import Derived.Below
namespace Go.Proofs.Ytnoilafoeaknjaa.fnSumOk
open Go.ChangeShapes Go.WideShapes Go.ChangeAt Go.RowKit
open Go.ChangeMaps (open_string shut_string)
set_option linter.unusedVariables false

theorem own : ownKnob Try.prog.godebug = none := by kernel_rfl
theorem laidOut : laidOutB Try.prog = true := by kernel_rfl

/-- WHAT THE WALK IS TOLD OF A SLICE OF INTEGERS THAT CAME IN: it is nil; or it leads to a row of 'cap' cells, the numbers 'zs' (the first 'len' are its elements, the rest its spare room), each fitting its kind. -/
def IsRow (k : IntKind) (w : World) (a : Option Addr) (len cap : Nat) (zs : List Int) : Prop :=
  (a = none ∧ len = 0 ∧ cap = 0 ∧ zs = []) ∨
  ∃ x, a = some x ∧ len ≤ cap ∧ cap ≤ maxLen ∧ zs.length = cap ∧ (∀ i, i < zs.length → w.cell? (x.add i) = some (.int k (zs.getD i 0))) ∧ ∀ n ∈ zs, (Lit.int k n).wf = true

/-! ### STEP 1: THE WALK: the Go text returns true, AND WRITES NOTHING THAT WAS THERE: 'Below w.heap.size w w'' (Derived/Below.lean: '.refl', '.alloc', '.drew', '.setCell' at a new block, '.trans'). Open each 'IsRow' by 'rcases' AHEAD of 'go_enter'; part every test ahead of the walk. -/
set_option maxRecDepth 100000 in
set_option maxHeartbeats 16000000 in
theorem walk (a0 : Option Addr) (len0 cap0 : Nat) (z0 : List Int) (w : World) (w0 : IsRow .u8 w a0 len0 cap0 z0) :
    Calls Try.prog 3 #[.slice a0 len0 cap0] w fun e w' => e = .returned (.bool true) ∧ Below w.heap.size w w' := by
  obtain ⟨hb, hl⟩ := bts_of w a0 len0 cap0 z0 w0
  rcases hl with hl | hl
  · go_enter Try.func3, Try.ntmps3
    go_wp2
    go_ret
    exact ⟨rfl, Below.refl _ _⟩
  have HB := Lib.hid hb
  clear hb w0
  have B := Lib.hid (Below.refl w.heap.size w)
  go_enter Try.func3, Try.ntmps3
  go_wp2_with fail
  refine (drawSOk_at w _ len0 ⟨_, _, rfl⟩ (bts_below HB.out B.out)).mono ?_
  rintro e w1 ⟨V0, s, rfl, ho, hb⟩
  replace ho := ho.rd
  replace B := Lib.hid (B.out.trans (hb.mono B.out.size))
  have Rs := Lib.hid (ho)
  clear hb
  obtain ⟨W1, hW⟩ : ∃ W, W = (w1.alloc (.cells #[.slice V0.xr V0.nr V0.cr, .slice V0.xf V0.nf V0.cf, .slice V0.xt V0.nt V0.ct, .int .i64 s.lo, .int .i64 s.al, .slice V0.xk V0.nk V0.ck, .int .i64 s.ka] 36)) := ⟨_, rfl⟩
  replace B := Lib.hid ((B.out).alloc (Nat.le_trans B.out.size (by simp)) (.cells #[.slice V0.xr V0.nr V0.cr, .slice V0.xf V0.nf V0.cf, .slice V0.xt V0.nt V0.ct, .int .i64 s.lo, .int .i64 s.al, .slice V0.xk V0.nk V0.ck, .int .i64 s.ka] 36))
  rw [← hW] at B
  replace Rs := Lib.hid (Rs.out.below ((Below.refl _ _).alloc (Nat.le_refl _) (.cells #[.slice V0.xr V0.nr V0.cr, .slice V0.xf V0.nf V0.cf, .slice V0.xt V0.nt V0.ct, .int .i64 s.lo, .int .i64 s.al, .slice V0.xk V0.nk V0.ck, .int .i64 s.ka] 36)) (Nat.le_refl _))
  rw [← hW] at Rs
  have XS := Box7.new w1 36 (.slice V0.xr V0.nr V0.cr) (.slice V0.xf V0.nf V0.cf) (.slice V0.xt V0.nt V0.ct) (.int .i64 s.lo) (.int .i64 s.al) (.slice V0.xk V0.nk V0.ck) (.int .i64 s.ka)
  rw [← hW] at XS
  go_wp2_with fail
  rw [← hW]
  clear hW
  clear ho
  have KI := Lib.hid (fun (W : World) (h : RdS W V0 s) => imSumOk_at W V0 s h)
  have KS := Lib.hid (fun (W : World) (h : RdS W V0 s) => spSumOk_at W V0 s h)
  cases ok : okS s with
  | false =>
    rw [ok] at KI KS
    clear ok
    go_wp2_with fail
    refine (KI.out W1 Rs.out).mono ?_
    rintro e w2 ⟨rfl, hb⟩
    replace B := Lib.hid (B.out.trans (hb.mono B.out.size))
    replace Rs := Lib.hid (Rs.out.below hb (Nat.le_refl _))
    replace XS := XS.later hb
    clear hb
    obtain ⟨cxs0, cxs1, cxs2, cxs3, cxs4, cxs5, cxs6⟩ := (XS).cells
    go_wp2_with fail
    refine (KS.out w2 Rs.out).mono ?_
    rintro e w3 ⟨rfl, hb⟩
    clear cxs0 cxs1 cxs2 cxs3 cxs4 cxs5 cxs6
    replace B := Lib.hid (B.out.trans (hb.mono B.out.size))
    replace Rs := Lib.hid (Rs.out.below hb (Nat.le_refl _))
    replace XS := XS.later hb
    clear hb
    obtain ⟨cxs0, cxs1, cxs2, cxs3, cxs4, cxs5, cxs6⟩ := (XS).cells
    go_wp2_with fail
    refine (KS.out w3 Rs.out).mono ?_
    rintro e w4 ⟨rfl, hb⟩
    clear cxs0 cxs1 cxs2 cxs3 cxs4 cxs5 cxs6
    replace B := Lib.hid (B.out.trans (hb.mono B.out.size))
    replace Rs := Lib.hid (Rs.out.below hb (Nat.le_refl _))
    replace XS := XS.later hb
    clear hb
    go_wp2
    go_ret
    exact ⟨by first | rfl | simp, B.out⟩
  | true =>
    rw [ok] at KI KS
    have O := (okS_iff _).1 ok
    have e1 : (s.al == s.al) = true := by simp
    have e2 : (s.ka == s.al) = true := by have := O.ta; simp; omega
    clear ok
    have K1 := Lib.hid (fun (W : World) (h : RdS W V0 s) => show Calls Try.prog 13 #[.agg #[.slice V0.xr V0.nr V0.cr]] W fun e w' => e = .returned (.bool true) ∧ Below W.heap.size W w' by have k := imOk_at W _ s.rs h.r; rw [O.r] at k; exact k)
    have K2 := Lib.hid (fun (W : World) (h : RdS W V0 s) => show Calls Try.prog 14 #[.agg #[.slice V0.xf V0.nf V0.cf]] W fun e w' => e = .returned (.bool true) ∧ Below W.heap.size W w' by have k := imFewOk_at W _ s.zs h.f; rw [O.f] at k; exact k)
    have K3 := Lib.hid (fun (W : World) (h : RdS W V0 s) => show Calls Try.prog 15 #[.agg #[.slice V0.xt V0.nt V0.ct, .int .i64 s.lo, .int .i64 s.al]] W fun e w' => e = .returned (.bool true) ∧ Below W.heap.size W w' by have k := T.imTopOk_at W _ s.ps s.lo s.al h.t; rw [O.t] at k; exact k)
    have K4 := Lib.hid (fun (W : World) (h : RdS W V0 s) => show Calls Try.prog 16 #[.agg #[.slice V0.xk V0.nk V0.ck, .int .i64 s.ka]] W fun e w' => e = .returned (.bool true) ∧ Below W.heap.size W w' by have k := K.imRankOk_at W _ s.ks s.ka h.k; rw [O.k] at k; exact k)
    have K5 := Lib.hid (fun (W : World) (h : RdS W V0 s) => show Calls Try.prog 17 #[.agg #[.slice V0.xr V0.nr V0.cr]] W fun e w' => e = .returned (.int .i64 s.al) ∧ Below W.heap.size W w' by have k := roughAll_at W _ s.rs h.r; rw [O.ra] at k; exact k)
    have HT := Lib.hid O.ta
    clear O
    go_wp2_with fail
    refine (KI.out W1 Rs.out).mono ?_
    rintro e w2 ⟨rfl, hb⟩
    replace B := Lib.hid (B.out.trans (hb.mono B.out.size))
    replace Rs := Lib.hid (Rs.out.below hb (Nat.le_refl _))
    replace XS := XS.later hb
    clear hb
    obtain ⟨cxs0, cxs1, cxs2, cxs3, cxs4, cxs5, cxs6⟩ := (XS).cells
    go_wp2_with fail
    refine (KS.out w2 Rs.out).mono ?_
    rintro e w3 ⟨rfl, hb⟩
    clear cxs0 cxs1 cxs2 cxs3 cxs4 cxs5 cxs6
    replace B := Lib.hid (B.out.trans (hb.mono B.out.size))
    replace Rs := Lib.hid (Rs.out.below hb (Nat.le_refl _))
    replace XS := XS.later hb
    clear hb
    go_wp2
    have D0 := Lib.hid (Below.drew (Below.refl w3.heap.size w3))
    have HS : Hid (∀ w', Below w3.heap.size w3 w' → (w'.cell? ⟨w1.heap.size, 0, none⟩ = some (.slice V0.xr V0.nr V0.cr) ∧ w'.cell? ⟨w1.heap.size, 1, none⟩ = some (.slice V0.xf V0.nf V0.cf) ∧ w'.cell? ⟨w1.heap.size, 2, none⟩ = some (.slice V0.xt V0.nt V0.ct) ∧ w'.cell? ⟨w1.heap.size, 3, none⟩ = some (.int .i64 s.lo) ∧ w'.cell? ⟨w1.heap.size, 4, none⟩ = some (.int .i64 s.al) ∧ w'.cell? ⟨w1.heap.size, 5, none⟩ = some (.slice V0.xk V0.nk V0.ck) ∧ w'.cell? ⟨w1.heap.size, 6, none⟩ = some (.int .i64 s.ka))) := fun w' h => (XS.later h).cells
    clear XS
    go_region_held3 (fun w' => (w'.cell? ⟨w1.heap.size, 0, none⟩ = some (.slice V0.xr V0.nr V0.cr) ∧ w'.cell? ⟨w1.heap.size, 1, none⟩ = some (.slice V0.xf V0.nf V0.cf) ∧ w'.cell? ⟨w1.heap.size, 2, none⟩ = some (.slice V0.xt V0.nt V0.ct) ∧ w'.cell? ⟨w1.heap.size, 3, none⟩ = some (.int .i64 s.lo) ∧ w'.cell? ⟨w1.heap.size, 4, none⟩ = some (.int .i64 s.al) ∧ w'.cell? ⟨w1.heap.size, 5, none⟩ = some (.slice V0.xk V0.nk V0.ck) ∧ w'.cell? ⟨w1.heap.size, 6, none⟩ = some (.int .i64 s.ka))) (first | (with_reducible exact HS.out _ D0.out) | (with_reducible exact HS.out _ D1.out) | (with_reducible exact HS.out _ D2.out) | (with_reducible exact HS.out _ D3.out) | (with_reducible exact HS.out _ D4.out) | (with_reducible exact HS.out _ D5.out)) (first
      | (go_at_call 13; (with_reducible refine (K1.out (w3.drew) (Rs.out.below D0.out (Nat.le_refl _))).mono ?_); rintro e v1 ⟨rfl, hb⟩; have D1 := Lib.hid (D0.out.trans (hb.mono D0.out.size)); clear hb)
      | (go_at_call 14; (with_reducible refine (K2.out (v1) (Rs.out.below D1.out (Nat.le_refl _))).mono ?_); rintro e v2 ⟨rfl, hb⟩; have D2 := Lib.hid (D1.out.trans (hb.mono D1.out.size)); clear hb)
      | (go_at_call 15; (with_reducible refine (K3.out (v2) (Rs.out.below D2.out (Nat.le_refl _))).mono ?_); rintro e v3 ⟨rfl, hb⟩; have D3 := Lib.hid (D2.out.trans (hb.mono D2.out.size)); clear hb)
      | (go_at_call 16; (with_reducible refine (K4.out (v3) (Rs.out.below D3.out (Nat.le_refl _))).mono ?_); rintro e v4 ⟨rfl, hb⟩; have D4 := Lib.hid (D3.out.trans (hb.mono D3.out.size)); clear hb)
      | (go_at_call 17; (with_reducible refine (K5.out (v4) (Rs.out.below D4.out (Nat.le_refl _))).mono ?_); rintro e v5 ⟨rfl, hb⟩; have D5 := Lib.hid (D4.out.trans (hb.mono D4.out.size)); clear hb))
    all_goals
      go_wp2
      go_ret
      exact ⟨by first | rfl | (simp; done) | (simp [HT.out]; done), B.out.trans (D5.out.mono B.out.size)⟩

/-! ### THE ROW's STEP: WRITTEN OUT: LEAVE IT -/
set_option maxRecDepth 100000 in
theorem lifted (os : Os) (started : os.Started) (H : Type) (enc : TypeId × Value → H) :
    ReturnsInHanded {} Try.checked os 3 .any (Rows.fnSumOkSpec.pre6 enc Try.prog Try.f3 Rows.fnSumOkRow.domain false) (Rows.fnSumOkSpec.post enc Try.prog Try.f3 false true false false) := by
  refine returnsInHanded_of_change (C := Try.checked) own started (by kernel_rfl) Try.func3
    (ChangeSpec.witness6 (enc := enc) (C := Try.checked) false ⟨#[], #[.slice none 0 0], []⟩ 8 (by kernel_rfl) (by kernel_rfl) (by kernel_rfl) (by kernel_rfl)) ?_
  intro W base args ds gs before hval0 hW hcnd _
  have hval : ∀ (j : Nat) t v, Try.f3.params[j]? = some t → args[j]? = some v → Value.okWide Try.prog W .any base t v := hval0
  have hW' := hW
  obtain ⟨p, q, hA0, hV, rfl, hfz, hnd⟩ := hW
  have hA : DataW.TrodAll enc Try.prog W 0 (fun _ => true) true Try.f3.params.toList args.toList ds p := hA0
  rw [Try.params3] at hA hval
  obtain ⟨v0, vs0, d0, ds0, p0, q0, hargs, rfl, rfl, h0, r0⟩ := trodAll_cons hA
  obtain ⟨rfl, rfl, rfl⟩ := trodAll_nil r0
  obtain rfl : args = #[v0] := by cases args; simp_all
  obtain ⟨rfl, rfl⟩ := trodVars_none hV
  obtain ⟨a0, len0, cap0, rfl⟩ := okWide_slice Try.underlying22 (hval 0 22 v0 rfl rfl)
  have k0 := h0
  have lt0 : ∀ x ∈ p0, x.block < W.heap.size := by obtain ⟨m, hm⟩ := k0; exact DataW.trod_lt m _ _ _ hm
  obtain ⟨z0, w0⟩ : ∃ zs, IsRow .u8 W a0 len0 cap0 zs := by
    obtain ⟨fuel, hf⟩ := h0
    rcases open_ints Try.underlying22 Try.underlying5 (by kernel_rfl) hf with ⟨hcs, _⟩ | ⟨x, l, c, zs, hcs, _, hl, hm, hz, _, hcell, hwz⟩
    · simp [Value.cells] at hcs
      obtain ⟨rfl, rfl, rfl⟩ := hcs
      exact ⟨[], .inl ⟨rfl, rfl, rfl, rfl⟩⟩
    · simp [Value.cells] at hcs
      obtain ⟨rfl, rfl, rfl⟩ := hcs
      exact ⟨zs, .inr ⟨_, rfl, hl, hm, by simpa using hz, hcell, hwz⟩⟩
  clear hA0 hval0
  refine (walk a0 len0 cap0 z0 W w0).mono fun e W' ⟨he, bel⟩ => ?_
  subst he
  exact ⟨_, rfl, _, _, _, [], _, [], hW', trodAll_mk1 (shut_bool Try.underlying4 _), (trodAll_cons_mk (Below.trod laidOut (by kernel_rfl) (of_decide_eq_true (by kernel_rfl)) k0 bel lt0) trodAll_mk0), rfl, bel.frame _, fun h => by cases h⟩

theorem over : Rows.fnSumOkRow.holds Try.pinned (OpenSpec.ofChange Rows.fnSumOkSpec) :=
  OpenClaim.holds_of_wide 3 Try.f3 rfl rfl rfl rfl rfl rfl rfl ⟨rfl, rfl, rfl, rfl, rfl⟩ rfl rfl rfl rfl rfl (by kernel_rfl) Try.func3 (by kernel_rfl)
    (of_decide_eq_true (by kernel_rfl)) (by unfold Func.isWrapper; first | (rw [if_pos (by decide +kernel)]; kernel_rfl) | (rw [if_neg (by decide +kernel)]; exact ⟨rfl, rfl⟩))
    (fun os started H enc _ => lifted os started H enc)

theorem proved : Rows.FnSumOkSaid := over
#print axioms proved
end Go.Proofs.Ytnoilafoeaknjaa.fnSumOk
