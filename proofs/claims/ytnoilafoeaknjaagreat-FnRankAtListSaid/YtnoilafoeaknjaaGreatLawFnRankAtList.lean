/-
  The statement of the law FnRankAtList: at every input the call returns true and leaves what it was given as it was. The frame is the kit's shell; the walk is ours.
-/
import Derived.Test.YtnoilafoeaknjaaGreatZImOf
import Derived.Test.YtnoilafoeaknjaaGreatZSpOf
import Derived.Test.YtnoilafoeaknjaaGreatZDraw
import Derived.Test.YtnoilafoeaknjaaGreatZLk
import Derived.Test.YtnoilafoeaknjaaGreatZImGet
import Derived.Test.YtnoilafoeaknjaaGreatZTell
import Derived.Deep.RegionWith
import Derived.Test.YtnoilafoeaknjaaGreatRows
import Derived.Test.YtnoilafoeaknjaaGreatMk
import Derived.WalkKit
import Derived.ProofKit
import Derived.OpenShut
import Derived.ShutString
import Derived.ChangeOld
import Derived.Below
namespace Go.Proofs.YtnoilafoeaknjaaGreat.fnRankAtList
open Go.ChangeShapes Go.WideShapes Go.ChangeAt Go.RowKit
open Go.ChangeMaps (open_string shut_string)
set_option linter.unusedVariables false

theorem own : ownKnob Tryz.prog.godebug = none := by kernel_rfl
theorem laidOut : laidOutB Tryz.prog = true := by kernel_rfl

/-- WHAT THE WALK IS TOLD OF A SLICE OF INTEGERS THAT CAME IN: it is nil; or it leads to a row of 'cap' cells, the numbers 'zs' (the first 'len' are its elements, the rest its spare room), each fitting its kind. -/
def IsRow (k : IntKind) (w : World) (a : Option Addr) (len cap : Nat) (zs : List Int) : Prop :=
  (a = none ∧ len = 0 ∧ cap = 0 ∧ zs = []) ∨
  ∃ x, a = some x ∧ len ≤ cap ∧ cap ≤ maxLen ∧ zs.length = cap ∧ (∀ i, i < zs.length → w.cell? (x.add i) = some (.int k (zs.getD i 0))) ∧ ∀ n ∈ zs, (Lit.int k n).wf = true

/-! ### STEP 1: THE WALK: the Go text returns true, AND WRITES NOTHING THAT WAS THERE: 'Below w.heap.size w w'' (Derived/Below.lean: '.refl', '.alloc', '.drew', '.setCell' at a new block, '.trans'). Open each 'IsRow' by 'rcases' AHEAD of 'go_enter'; part every test ahead of the walk. -/
set_option maxRecDepth 100000 in
set_option maxHeartbeats 16000000 in
theorem walk (a0 : Option Addr) (len0 cap0 : Nat) (z0 : List Int) (a1 : Option Addr) (len1 cap1 : Nat) (z1 : List Int) (w : World) (w0 : IsRow .u8 w a0 len0 cap0 z0) (w1 : IsRow .u8 w a1 len1 cap1 z1) :
    Calls Tryz.prog 11 #[.slice a0 len0 cap0, .slice a1 len1 cap1] w fun e w' => e = .returned (.bool true) ∧ Below w.heap.size w w' := by
  obtain ⟨hb, hl⟩ := bts_of w a0 len0 cap0 z0 w0
  obtain ⟨hb', hl'⟩ := bts_of w a1 len1 cap1 z1 w1
  rcases hl with hl | hl
  · go_enter Tryz.func11, Tryz.ntmps11
    go_wp2
    go_ret
    exact ⟨rfl, Below.refl _ _⟩
  rcases hl' with hl' | hl'
  · go_enter Tryz.func11, Tryz.ntmps11
    go_wp2
    go_ret
    exact ⟨rfl, Below.refl _ _⟩
  have HB := Lib.hid hb
  have HB' := Lib.hid hb'
  clear hb w0 hb' w1
  have B := Lib.hid (Below.refl w.heap.size w)
  go_enter Tryz.func11, Tryz.ntmps11
  go_wp2_with fail
  refine (drawSumOf_at w _ len0 ⟨_, _, rfl⟩ (bts_below HB.out B.out)).mono ?_
  rintro e w1 ⟨x0, c0, l, rfl, ho, hlen, hb⟩
  obtain ⟨n0, hn⟩ : ∃ n, n = l.length := ⟨_, rfl⟩
  rw [← hn] at ho hlen ⊢
  have Hn0 := Lib.hid hn
  have Mn0 := Lib.hid hlen
  clear hn
  replace B := Lib.hid (B.out.trans (hb.mono B.out.size))
  have Ll := Lib.hid (ho.rd)
  clear hb
  clear ho hlen
  obtain ⟨s, hs⟩ : ∃ s, s = upS l := ⟨_, rfl⟩
  have Hs := Lib.hid hs
  have SMs := Lib.hid (show Small s by rw [hs]; exact up_small l)
  have Kiml := Lib.hid (fun (W : World) (h : Ints W (.slice x0 n0 c0) l) => show Calls Tryz.prog 30 #[.slice x0 n0 c0] W fun e w' => ∃ U, e = .returned (.tuple #[.agg #[.slice U.xr U.nr U.cr, .slice U.xf U.nf U.cf, .slice U.xt U.nt U.ct, .int .i64 s.lo, .int .i64 s.al, .slice U.xk U.nk U.ck, .int .i64 s.ka], .bool (okS s)]) ∧ OwnS w' W.heap.size w'.heap.size U s ∧ Below W.heap.size W w' by rw [hs]; exact imSumOf_at W x0 n0 c0 l h)
  have Kspl := Lib.hid (fun (W : World) (h : Ints W (.slice x0 n0 c0) l) => show Calls Tryz.prog 31 #[.slice x0 n0 c0] W fun e w' => ∃ U, e = .returned (.tuple #[.agg #[.slice U.xr U.nr U.cr, .slice U.xf U.nf U.cf, .slice U.xt U.nt U.ct, .int .i64 s.lo, .int .i64 s.al, .slice U.xk U.nk U.ck, .int .i64 s.ka], .bool (okS s)]) ∧ OwnS w' W.heap.size w'.heap.size U s ∧ Below W.heap.size W w' by rw [hs]; exact spSumOf_at W x0 n0 c0 l h)
  have Ook := Lib.hid (fun (q : okS s = true) => show okS (upS l) = true by rw [← hs]; exact q)
  clear hs
  generalize okS s = ok at Kiml Kspl Ook
  have K1 := Kiml.out w1 Ll.out
  go_wp2_with fail
  refine (K1).mono ?_
  rintro e w2 ⟨V1, rfl, ho, hb⟩
  clear K1
  replace ho := ho.base (B' := w.heap.size) B.out.size (Nat.le_refl _) (Nat.le_refl _)
  replace B := Lib.hid (B.out.trans (hb.mono B.out.size))
  replace Ll := Lib.hid (Ll.out.below hb (Nat.le_refl _))
  have P := Lib.hid (ho)
  clear hb
  obtain ⟨W2, hW⟩ : ∃ W, W = (w2.alloc (.cells #[.slice V1.xr V1.nr V1.cr, .slice V1.xf V1.nf V1.cf, .slice V1.xt V1.nt V1.ct, .int .i64 s.lo, .int .i64 s.al, .slice V1.xk V1.nk V1.ck, .int .i64 s.ka] 39)) := ⟨_, rfl⟩
  replace B := Lib.hid ((B.out).alloc (Nat.le_trans B.out.size (by simp)) (.cells #[.slice V1.xr V1.nr V1.cr, .slice V1.xf V1.nf V1.cf, .slice V1.xt V1.nt V1.ct, .int .i64 s.lo, .int .i64 s.al, .slice V1.xk V1.nk V1.ck, .int .i64 s.ka] 39))
  rw [← hW] at B
  replace Ll := Lib.hid (Ll.out.below ((Below.refl _ _).alloc (Nat.le_refl _) (.cells #[.slice V1.xr V1.nr V1.cr, .slice V1.xf V1.nf V1.cf, .slice V1.xt V1.nt V1.ct, .int .i64 s.lo, .int .i64 s.al, .slice V1.xk V1.nk V1.ck, .int .i64 s.ka] 39)) (Nat.le_refl _))
  rw [← hW] at Ll
  replace P := Lib.hid (P.out.alloc (.cells #[.slice V1.xr V1.nr V1.cr, .slice V1.xf V1.nf V1.cf, .slice V1.xt V1.nt V1.ct, .int .i64 s.lo, .int .i64 s.al, .slice V1.xk V1.nk V1.ck, .int .i64 s.ka] 39))
  rw [← hW] at P
  have X := Box7.new w2 39 (.slice V1.xr V1.nr V1.cr) (.slice V1.xf V1.nf V1.cf) (.slice V1.xt V1.nt V1.ct) (.int .i64 s.lo) (.int .i64 s.al) (.slice V1.xk V1.nk V1.ck) (.int .i64 s.ka)
  rw [← hW] at X
  go_wp2_with fail
  rw [← hW]
  clear hW
  clear ho
  have K1 := Kspl.out W2 Ll.out
  go_wp2_with fail
  refine (K1).mono ?_
  rintro e w3 ⟨V2, rfl, ho, hb⟩
  clear K1
  replace ho := ho.base (B' := w.heap.size) B.out.size (Nat.le_refl _) (Nat.le_refl _)
  replace B := Lib.hid (B.out.trans (hb.mono B.out.size))
  replace Ll := Lib.hid (Ll.out.below hb (Nat.le_refl _))
  replace P := Lib.hid (P.out.below hb)
  replace X := X.later hb
  have Q := Lib.hid (ho)
  clear hb
  obtain ⟨W3, hW⟩ : ∃ W, W = (w3.alloc (.cells #[.slice V2.xr V2.nr V2.cr, .slice V2.xf V2.nf V2.cf, .slice V2.xt V2.nt V2.ct, .int .i64 s.lo, .int .i64 s.al, .slice V2.xk V2.nk V2.ck, .int .i64 s.ka] 39)) := ⟨_, rfl⟩
  obtain ⟨ax0, ax1, ax2, ax3, ax4, ax5, ax6⟩ := ((X.alloc (.cells #[.slice V2.xr V2.nr V2.cr, .slice V2.xf V2.nf V2.cf, .slice V2.xt V2.nt V2.ct, .int .i64 s.lo, .int .i64 s.al, .slice V2.xk V2.nk V2.ck, .int .i64 s.ka] 39))).cells
  replace B := Lib.hid ((B.out).alloc (Nat.le_trans B.out.size (by simp)) (.cells #[.slice V2.xr V2.nr V2.cr, .slice V2.xf V2.nf V2.cf, .slice V2.xt V2.nt V2.ct, .int .i64 s.lo, .int .i64 s.al, .slice V2.xk V2.nk V2.ck, .int .i64 s.ka] 39))
  rw [← hW] at B
  replace Ll := Lib.hid (Ll.out.below ((Below.refl _ _).alloc (Nat.le_refl _) (.cells #[.slice V2.xr V2.nr V2.cr, .slice V2.xf V2.nf V2.cf, .slice V2.xt V2.nt V2.ct, .int .i64 s.lo, .int .i64 s.al, .slice V2.xk V2.nk V2.ck, .int .i64 s.ka] 39)) (Nat.le_refl _))
  rw [← hW] at Ll
  replace P := Lib.hid (P.out.alloc (.cells #[.slice V2.xr V2.nr V2.cr, .slice V2.xf V2.nf V2.cf, .slice V2.xt V2.nt V2.ct, .int .i64 s.lo, .int .i64 s.al, .slice V2.xk V2.nk V2.ck, .int .i64 s.ka] 39))
  rw [← hW] at P
  replace X := X.alloc (.cells #[.slice V2.xr V2.nr V2.cr, .slice V2.xf V2.nf V2.cf, .slice V2.xt V2.nt V2.ct, .int .i64 s.lo, .int .i64 s.al, .slice V2.xk V2.nk V2.ck, .int .i64 s.ka] 39)
  rw [← hW] at X
  replace Q := Lib.hid (Q.out.alloc (.cells #[.slice V2.xr V2.nr V2.cr, .slice V2.xf V2.nf V2.cf, .slice V2.xt V2.nt V2.ct, .int .i64 s.lo, .int .i64 s.al, .slice V2.xk V2.nk V2.ck, .int .i64 s.ka] 39))
  rw [← hW] at Q
  have Y := Box7.new w3 39 (.slice V2.xr V2.nr V2.cr) (.slice V2.xf V2.nf V2.cf) (.slice V2.xt V2.nt V2.ct) (.int .i64 s.lo) (.int .i64 s.al) (.slice V2.xk V2.nk V2.ck) (.int .i64 s.ka)
  rw [← hW] at Y
  go_wp2_with fail
  rw [← hW]
  clear hW ax0 ax1 ax2 ax3 ax4 ax5 ax6
  clear ho
  cases ok with
  | false =>
    refine (lkSum_same W3 V1 V2 s P.out.rd Q.out.rd SMs.out).mono ?_
    rintro e w4 ⟨rfl, hb⟩
    replace B := Lib.hid (B.out.trans (hb.mono B.out.size))
    replace Ll := Lib.hid (Ll.out.below hb (Nat.le_refl _))
    replace P := Lib.hid (P.out.below hb)
    replace X := X.later hb
    replace Q := Lib.hid (Q.out.below hb)
    replace Y := Y.later hb
    clear hb
    obtain ⟨cx0, cx1, cx2, cx3, cx4, cx5, cx6⟩ := (X).cells
    obtain ⟨cy0, cy1, cy2, cy3, cy4, cy5, cy6⟩ := (Y).cells
    go_wp2_with fail
    refine (lkSum_same w4 V1 V2 s P.out.rd Q.out.rd SMs.out).mono ?_
    rintro e w5 ⟨rfl, hb⟩
    clear cx0 cx1 cx2 cx3 cx4 cx5 cx6 cy0 cy1 cy2 cy3 cy4 cy5 cy6
    replace B := Lib.hid (B.out.trans (hb.mono B.out.size))
    replace Ll := Lib.hid (Ll.out.below hb (Nat.le_refl _))
    replace P := Lib.hid (P.out.below hb)
    replace X := X.later hb
    replace Q := Lib.hid (Q.out.below hb)
    replace Y := Y.later hb
    clear hb
    go_wp2
    go_ret
    exact ⟨rfl, B.out⟩
  | true =>
    have OK := Lib.hid (Ook.out rfl)
    clear Ook
    by_cases h0 : n0 = 0
    · have h0' : (n0 : Int) = 0 := by omega
      refine (lkSum_same W3 V1 V2 s P.out.rd Q.out.rd SMs.out).mono ?_
      rintro e w4 ⟨rfl, hb⟩
      replace B := Lib.hid (B.out.trans (hb.mono B.out.size))
      replace Ll := Lib.hid (Ll.out.below hb (Nat.le_refl _))
      replace P := Lib.hid (P.out.below hb)
      replace X := X.later hb
      replace Q := Lib.hid (Q.out.below hb)
      replace Y := Y.later hb
      clear hb
      obtain ⟨cx0, cx1, cx2, cx3, cx4, cx5, cx6⟩ := (X).cells
      obtain ⟨cy0, cy1, cy2, cy3, cy4, cy5, cy6⟩ := (Y).cells
      go_wp2_with fail
      refine (lkSum_same w4 V1 V2 s P.out.rd Q.out.rd SMs.out).mono ?_
      rintro e w5 ⟨rfl, hb⟩
      clear cx0 cx1 cx2 cx3 cx4 cx5 cx6 cy0 cy1 cy2 cy3 cy4 cy5 cy6
      replace B := Lib.hid (B.out.trans (hb.mono B.out.size))
      replace Ll := Lib.hid (Ll.out.below hb (Nat.le_refl _))
      replace P := Lib.hid (P.out.below hb)
      replace X := X.later hb
      replace Q := Lib.hid (Q.out.below hb)
      replace Y := Y.later hb
      clear hb
      go_wp2
      go_ret
      exact ⟨rfl, B.out⟩
    have h1 : (0 : Int) < n0 := by omega
    have hm := Mn0.out
    obtain ⟨m, hm'⟩ : ∃ m : Int, m = 1 + (len1 : Int) % (n0 : Int) := ⟨_, rfl⟩
    have mm0 := Int.emod_nonneg (len1 : Int) (show (n0 : Int) ≠ 0 by omega)
    have mm1 := Int.emod_lt_of_pos (len1 : Int) h1
    have tm : (len1 : Int).tmod (n0 : Int) = (len1 : Int) % (n0 : Int) := Int.tmod_eq_emod_of_nonneg (by omega)
    have AT := Lib.hid (fun (x : Int) (o : Bool) (A : K.AtR s.ks s.ka m x o) => show o = true ∧ (0 ≤ x ∧ x ≤ 63) ∧ m ≤ cntU l x ∧ (x ≠ 0 → cntU l (x - 1) < m + 6 * ((n0 : Int) / 8)) by rw [Hn0.out]; exact at_told OK.out (by rw [← Hs.out]; exact A) (by omega) (by rw [← Hn0.out]; omega))
    have K1 := Lib.hid (fun W h => K.imRankAt_at W (.slice V1.xk V1.nk V1.ck) s.ks s.ka m h)
    have KU := Lib.hid (fun (t : Int) W h => lkUpTo_at W (.slice x0 n0 c0) l t h (by have := Mn0.out; rw [Hn0.out] at this; omega))
    have wm : IntKind.i64.wrap (1 + (len1 : Int) % (n0 : Int)) = m := by rw [← hm', IntWalk.i64_in _ (by omega)]
    have m0 : 1 ≤ m := by omega
    have m1 : m ≤ n0 := by omega
    clear mm0 mm1 hm'
    refine (lkSum_same W3 V1 V2 s P.out.rd Q.out.rd SMs.out).mono ?_
    rintro e w4 ⟨rfl, hb⟩
    replace B := Lib.hid (B.out.trans (hb.mono B.out.size))
    replace Ll := Lib.hid (Ll.out.below hb (Nat.le_refl _))
    replace P := Lib.hid (P.out.below hb)
    replace X := X.later hb
    replace Q := Lib.hid (Q.out.below hb)
    replace Y := Y.later hb
    clear hb
    obtain ⟨cx0, cx1, cx2, cx3, cx4, cx5, cx6⟩ := (X).cells
    clear Y
    clear Q
    go_wp2_with fail
    refine (K1.out w4 P.out.rd.k).mono ?_
    rintro e w5 ⟨x, o, rfl, A, hb⟩
    obtain ⟨rfl, ⟨xa, xb⟩, u1, u2⟩ := AT.out x o A
    clear A AT K1
    clear X
    clear P
    clear cx0 cx1 cx2 cx3 cx4 cx5 cx6
    replace B := Lib.hid (B.out.trans (hb.mono B.out.size))
    replace Ll := Lib.hid (Ll.out.below hb (Nat.le_refl _))
    clear hb
    have KX := Lib.hid (KU.out x)
    generalize cntU l x = cu at KX u1
    go_wp2_with fail
    refine (KX.out w5 Ll.out).mono ?_
    rintro e w6 ⟨rfl, hb⟩
    replace B := Lib.hid (B.out.trans (hb.mono B.out.size))
    replace Ll := Lib.hid (Ll.out.below hb (Nat.le_refl _))
    clear hb
    by_cases hx : x = 0
    · subst hx
      go_wp2
      go_ret
      exact ⟨by first | rfl | (simp; done) | (simp; omega), B.out⟩
    have u3 := u2 hx
    have KY := Lib.hid (KU.out (x - 1))
    generalize cntU l (x - 1) = cv at KY u3
    have wx : IntKind.i64.wrap (x - 1) = x - 1 := IntWalk.i64_in _ (by omega)
    have dv : (n0 : Int).tdiv 8 = (n0 : Int) / 8 := Int.tdiv_eq_ediv_of_nonneg (by omega)
    have wq6 : IntKind.i64.wrap (6 * ((n0 : Int) / 8)) = 6 * ((n0 : Int) / 8) := IntWalk.i64_in _ (by omega)
    have wq7 : IntKind.i64.wrap (m + 6 * ((n0 : Int) / 8)) = m + 6 * ((n0 : Int) / 8) := IntWalk.i64_in _ (by omega)
    have hx' : (x == 0) = false := by simpa using hx
    clear u2
    go_wp2_with fail
    refine (KY.out w6 Ll.out).mono ?_
    rintro e w7 ⟨rfl, hb⟩
    replace B := Lib.hid (B.out.trans (hb.mono B.out.size))
    replace Ll := Lib.hid (Ll.out.below hb (Nat.le_refl _))
    clear hb
    go_wp2
    go_ret
    exact ⟨by first | rfl | (simp; done) | (simp; omega), B.out⟩

/-! ### THE ROW's STEP: WRITTEN OUT: LEAVE IT -/
set_option maxRecDepth 100000 in
theorem lifted (os : Os) (started : os.Started) (H : Type) (enc : TypeId × Value → H) :
    ReturnsInHanded {} Tryz.checked os 11 .any (Rows.fnRankAtListSpec.pre6 enc Tryz.prog Tryz.f11 Rows.fnRankAtListRow.domain false) (Rows.fnRankAtListSpec.post enc Tryz.prog Tryz.f11 false true false false) := by
  refine returnsInHanded_of_change (C := Tryz.checked) own started (by kernel_rfl) Tryz.func11
    (ChangeSpec.witness6 (enc := enc) (C := Tryz.checked) false ⟨#[], #[.slice none 0 0, .slice none 0 0], []⟩ 8 (by kernel_rfl) (by kernel_rfl) (by kernel_rfl) (by kernel_rfl)) ?_
  intro W base args ds gs before hval0 hW hcnd _
  have hval : ∀ (j : Nat) t v, Tryz.f11.params[j]? = some t → args[j]? = some v → Value.okWide Tryz.prog W .any base t v := hval0
  have hW' := hW
  obtain ⟨p, q, hA0, hV, rfl, hfz, hnd⟩ := hW
  have hA : DataW.TrodAll enc Tryz.prog W 0 (fun _ => true) true Tryz.f11.params.toList args.toList ds p := hA0
  rw [Tryz.params11] at hA hval
  obtain ⟨v0, vs0, d0, ds0, p0, q0, hargs, rfl, rfl, h0, r0⟩ := trodAll_cons hA
  obtain ⟨v1, vs1, d1, ds1, p1, q1, rfl, rfl, rfl, h1, r1⟩ := trodAll_cons r0
  obtain ⟨rfl, rfl, rfl⟩ := trodAll_nil r1
  obtain rfl : args = #[v0, v1] := by cases args; simp_all
  obtain ⟨rfl, rfl⟩ := trodVars_none hV
  obtain ⟨a0, len0, cap0, rfl⟩ := okWide_slice Tryz.underlying22 (hval 0 22 v0 rfl rfl)
  have k0 := h0
  have lt0 : ∀ x ∈ p0, x.block < W.heap.size := by obtain ⟨m, hm⟩ := k0; exact DataW.trod_lt m _ _ _ hm
  obtain ⟨z0, w0⟩ : ∃ zs, IsRow .u8 W a0 len0 cap0 zs := by
    obtain ⟨fuel, hf⟩ := h0
    rcases open_ints Tryz.underlying22 Tryz.underlying5 (by kernel_rfl) hf with ⟨hcs, _⟩ | ⟨x, l, c, zs, hcs, _, hl, hm, hz, _, hcell, hwz⟩
    · simp [Value.cells] at hcs
      obtain ⟨rfl, rfl, rfl⟩ := hcs
      exact ⟨[], .inl ⟨rfl, rfl, rfl, rfl⟩⟩
    · simp [Value.cells] at hcs
      obtain ⟨rfl, rfl, rfl⟩ := hcs
      exact ⟨zs, .inr ⟨_, rfl, hl, hm, by simpa using hz, hcell, hwz⟩⟩
  obtain ⟨a1, len1, cap1, rfl⟩ := okWide_slice Tryz.underlying22 (hval 1 22 v1 rfl rfl)
  have k1 := h1
  have lt1 : ∀ x ∈ p1, x.block < W.heap.size := by obtain ⟨m, hm⟩ := k1; exact DataW.trod_lt m _ _ _ hm
  obtain ⟨z1, w1⟩ : ∃ zs, IsRow .u8 W a1 len1 cap1 zs := by
    obtain ⟨fuel, hf⟩ := h1
    rcases open_ints Tryz.underlying22 Tryz.underlying5 (by kernel_rfl) hf with ⟨hcs, _⟩ | ⟨x, l, c, zs, hcs, _, hl, hm, hz, _, hcell, hwz⟩
    · simp [Value.cells] at hcs
      obtain ⟨rfl, rfl, rfl⟩ := hcs
      exact ⟨[], .inl ⟨rfl, rfl, rfl, rfl⟩⟩
    · simp [Value.cells] at hcs
      obtain ⟨rfl, rfl, rfl⟩ := hcs
      exact ⟨zs, .inr ⟨_, rfl, hl, hm, by simpa using hz, hcell, hwz⟩⟩
  clear hA0 hval0
  refine (walk a0 len0 cap0 z0 a1 len1 cap1 z1 W w0 w1).mono fun e W' ⟨he, bel⟩ => ?_
  subst he
  exact ⟨_, rfl, _, _, _, [], _, [], hW', trodAll_mk1 (shut_bool Tryz.underlying4 _), (trodAll_cons_mk (Below.trod laidOut (by kernel_rfl) (of_decide_eq_true (by kernel_rfl)) k0 bel lt0) (trodAll_cons_mk (Below.trod laidOut (by kernel_rfl) (of_decide_eq_true (by kernel_rfl)) k1 bel lt1) trodAll_mk0)), rfl, bel.frame _, fun h => by cases h⟩

theorem over : Rows.fnRankAtListRow.holds Tryz.pinned (OpenSpec.ofChange Rows.fnRankAtListSpec) :=
  OpenClaim.holds_of_wide 11 Tryz.f11 rfl rfl rfl rfl rfl rfl rfl ⟨rfl, rfl, rfl, rfl, rfl⟩ rfl rfl rfl rfl rfl (by kernel_rfl) Tryz.func11 (by show joinedFacts Tryz.prog _ _ _ _ = true; unfold joinedFacts; rw [mayE, liftF, makeC]; kernel_rfl)
    (of_decide_eq_true (by kernel_rfl)) (by unfold Func.isWrapper; first | (rw [if_pos (by decide +kernel)]; kernel_rfl) | (rw [if_neg (by decide +kernel)]; exact ⟨rfl, rfl⟩))
    (fun os started H enc _ => lifted os started H enc)

theorem proved : Rows.FnRankAtListSaid := over
#print axioms proved
end Go.Proofs.YtnoilafoeaknjaaGreat.fnRankAtList
