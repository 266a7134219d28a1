/-
  The statement of the law FnSumOf: at every input the call returns true and leaves what it was given as it was. The frame is the kit's shell; the walk is ours.
-/
import Derived.Test.YtnoilafoeaknjaaGreatZImOf
import Derived.Test.YtnoilafoeaknjaaGreatZSpOf
import Derived.Test.YtnoilafoeaknjaaGreatZDraw
import Derived.Test.YtnoilafoeaknjaaGreatZLk
import Derived.Test.YtnoilafoeaknjaaGreatZImGet
import Derived.Deep.RegionWith
import Derived.Test.YtnoilafoeaknjaaGreatRows
import Derived.Test.YtnoilafoeaknjaaGreatMk
import Derived.WalkKit
import Derived.ProofKit
import Derived.OpenShut
import Derived.ShutString
import Derived.ChangeOld
import Derived.Below
namespace Go.Proofs.YtnoilafoeaknjaaGreat.fnSumOf
open Go.ChangeShapes Go.WideShapes Go.ChangeAt Go.RowKit
open Go.ChangeMaps (open_string shut_string)
set_option linter.unusedVariables false

theorem own : ownKnob Tryz.prog.godebug = none := by kernel_rfl
theorem laidOut : laidOutB Tryz.prog = true := by kernel_rfl

/-- WHAT THE WALK IS TOLD OF A SLICE OF INTEGERS THAT CAME IN: it is nil; or it leads to a row of 'cap' cells, the numbers 'zs' (the first 'len' are its elements, the rest its spare room), each fitting its kind. -/
def IsRow (k : IntKind) (w : World) (a : Option Addr) (len cap : Nat) (zs : List Int) : Prop :=
  (a = none ∧ len = 0 ∧ cap = 0 ∧ zs = []) ∨
  ∃ x, a = some x ∧ len ≤ cap ∧ cap ≤ maxLen ∧ zs.length = cap ∧ (∀ i, i < zs.length → w.cell? (x.add i) = some (.int k (zs.getD i 0))) ∧ ∀ n ∈ zs, (Lit.int k n).wf = true

/-! ### STEP 1: THE WALK: the Go text returns true, AND WRITES NOTHING THAT WAS THERE: 'Below w.heap.size w w'' (Derived/Below.lean: '.refl', '.alloc', '.drew', '.setCell' at a new block, '.trans'). Open each 'IsRow' by 'rcases' AHEAD of 'go_enter'; part every test ahead of the walk. -/
set_option maxRecDepth 100000 in
set_option maxHeartbeats 16000000 in
theorem walk (a0 : Option Addr) (len0 cap0 : Nat) (z0 : List Int) (w : World) (w0 : IsRow .u8 w a0 len0 cap0 z0) :
    Calls Tryz.prog 15 #[.slice a0 len0 cap0] w fun e w' => e = .returned (.bool true) ∧ Below w.heap.size w w' := by
  obtain ⟨hb, hl⟩ := bts_of w a0 len0 cap0 z0 w0
  rcases hl with hl | hl
  · go_enter Tryz.func15, Tryz.ntmps15
    go_wp2
    go_ret
    exact ⟨rfl, Below.refl _ _⟩
  have HB := Lib.hid hb
  clear hb w0
  have B := Lib.hid (Below.refl w.heap.size w)
  go_enter Tryz.func15, Tryz.ntmps15
  go_wp2_with fail
  refine (drawSumOf_at w _ len0 ⟨_, _, rfl⟩ (bts_below HB.out B.out)).mono ?_
  rintro e w1 ⟨x0, c0, l, rfl, ho, hlen, hb⟩
  obtain ⟨n0, hn⟩ : ∃ n, n = l.length := ⟨_, rfl⟩
  rw [← hn] at ho hlen ⊢
  have Hn0 := Lib.hid hn
  have Mn0 := Lib.hid hlen
  clear hn
  replace B := Lib.hid (B.out.trans (hb.mono B.out.size))
  have Ll := Lib.hid (ho.rd)
  clear hb
  clear ho hlen
  obtain ⟨s, hs⟩ : ∃ s, s = upS l := ⟨_, rfl⟩
  have Hs := Lib.hid hs
  have SMs := Lib.hid (show Small s by rw [hs]; exact up_small l)
  have Kiml := Lib.hid (fun (W : World) (h : Ints W (.slice x0 n0 c0) l) => show Calls Tryz.prog 30 #[.slice x0 n0 c0] W fun e w' => ∃ U, e = .returned (.tuple #[.agg #[.slice U.xr U.nr U.cr, .slice U.xf U.nf U.cf, .slice U.xt U.nt U.ct, .int .i64 s.lo, .int .i64 s.al, .slice U.xk U.nk U.ck, .int .i64 s.ka], .bool (okS s)]) ∧ OwnS w' W.heap.size w'.heap.size U s ∧ Below W.heap.size W w' by rw [hs]; exact imSumOf_at W x0 n0 c0 l h)
  have Kspl := Lib.hid (fun (W : World) (h : Ints W (.slice x0 n0 c0) l) => show Calls Tryz.prog 31 #[.slice x0 n0 c0] W fun e w' => ∃ U, e = .returned (.tuple #[.agg #[.slice U.xr U.nr U.cr, .slice U.xf U.nf U.cf, .slice U.xt U.nt U.ct, .int .i64 s.lo, .int .i64 s.al, .slice U.xk U.nk U.ck, .int .i64 s.ka], .bool (okS s)]) ∧ OwnS w' W.heap.size w'.heap.size U s ∧ Below W.heap.size W w' by rw [hs]; exact spSumOf_at W x0 n0 c0 l h)
  have Ook := Lib.hid (fun (q : okS s = true) => show okS (upS l) = true by rw [← hs]; exact q)
  clear hs
  generalize okS s = ok at Kiml Kspl Ook
  have K1 := Kspl.out w1 Ll.out
  go_wp2_with fail
  refine (K1).mono ?_
  rintro e w2 ⟨V2, rfl, ho, hb⟩
  clear K1
  replace ho := ho.base (B' := w.heap.size) B.out.size (Nat.le_refl _) (Nat.le_refl _)
  replace B := Lib.hid (B.out.trans (hb.mono B.out.size))
  replace Ll := Lib.hid (Ll.out.below hb (Nat.le_refl _))
  have Q := Lib.hid (ho)
  clear hb
  obtain ⟨W2, hW⟩ : ∃ W, W = (w2.alloc (.cells #[.slice V2.xr V2.nr V2.cr, .slice V2.xf V2.nf V2.cf, .slice V2.xt V2.nt V2.ct, .int .i64 s.lo, .int .i64 s.al, .slice V2.xk V2.nk V2.ck, .int .i64 s.ka] 39)) := ⟨_, rfl⟩
  replace B := Lib.hid ((B.out).alloc (Nat.le_trans B.out.size (by simp)) (.cells #[.slice V2.xr V2.nr V2.cr, .slice V2.xf V2.nf V2.cf, .slice V2.xt V2.nt V2.ct, .int .i64 s.lo, .int .i64 s.al, .slice V2.xk V2.nk V2.ck, .int .i64 s.ka] 39))
  rw [← hW] at B
  replace Ll := Lib.hid (Ll.out.below ((Below.refl _ _).alloc (Nat.le_refl _) (.cells #[.slice V2.xr V2.nr V2.cr, .slice V2.xf V2.nf V2.cf, .slice V2.xt V2.nt V2.ct, .int .i64 s.lo, .int .i64 s.al, .slice V2.xk V2.nk V2.ck, .int .i64 s.ka] 39)) (Nat.le_refl _))
  rw [← hW] at Ll
  replace Q := Lib.hid (Q.out.alloc (.cells #[.slice V2.xr V2.nr V2.cr, .slice V2.xf V2.nf V2.cf, .slice V2.xt V2.nt V2.ct, .int .i64 s.lo, .int .i64 s.al, .slice V2.xk V2.nk V2.ck, .int .i64 s.ka] 39))
  rw [← hW] at Q
  have Y := Box7.new w2 39 (.slice V2.xr V2.nr V2.cr) (.slice V2.xf V2.nf V2.cf) (.slice V2.xt V2.nt V2.ct) (.int .i64 s.lo) (.int .i64 s.al) (.slice V2.xk V2.nk V2.ck) (.int .i64 s.ka)
  rw [← hW] at Y
  go_wp2_with fail
  rw [← hW]
  clear hW
  clear ho
  have K1 := Kiml.out W2 Ll.out
  go_wp2_with fail
  refine (K1).mono ?_
  rintro e w3 ⟨V1, rfl, ho, hb⟩
  clear K1
  replace ho := ho.base (B' := w.heap.size) B.out.size (Nat.le_refl _) (Nat.le_refl _)
  replace B := Lib.hid (B.out.trans (hb.mono B.out.size))
  replace Ll := Lib.hid (Ll.out.below hb (Nat.le_refl _))
  replace Q := Lib.hid (Q.out.below hb)
  replace Y := Y.later hb
  have P := Lib.hid (ho)
  clear hb
  obtain ⟨W3, hW⟩ : ∃ W, W = (w3.alloc (.cells #[.slice V1.xr V1.nr V1.cr, .slice V1.xf V1.nf V1.cf, .slice V1.xt V1.nt V1.ct, .int .i64 s.lo, .int .i64 s.al, .slice V1.xk V1.nk V1.ck, .int .i64 s.ka] 39)) := ⟨_, rfl⟩
  obtain ⟨ay0, ay1, ay2, ay3, ay4, ay5, ay6⟩ := ((Y.alloc (.cells #[.slice V1.xr V1.nr V1.cr, .slice V1.xf V1.nf V1.cf, .slice V1.xt V1.nt V1.ct, .int .i64 s.lo, .int .i64 s.al, .slice V1.xk V1.nk V1.ck, .int .i64 s.ka] 39))).cells
  replace B := Lib.hid ((B.out).alloc (Nat.le_trans B.out.size (by simp)) (.cells #[.slice V1.xr V1.nr V1.cr, .slice V1.xf V1.nf V1.cf, .slice V1.xt V1.nt V1.ct, .int .i64 s.lo, .int .i64 s.al, .slice V1.xk V1.nk V1.ck, .int .i64 s.ka] 39))
  rw [← hW] at B
  replace Ll := Lib.hid (Ll.out.below ((Below.refl _ _).alloc (Nat.le_refl _) (.cells #[.slice V1.xr V1.nr V1.cr, .slice V1.xf V1.nf V1.cf, .slice V1.xt V1.nt V1.ct, .int .i64 s.lo, .int .i64 s.al, .slice V1.xk V1.nk V1.ck, .int .i64 s.ka] 39)) (Nat.le_refl _))
  rw [← hW] at Ll
  replace Q := Lib.hid (Q.out.alloc (.cells #[.slice V1.xr V1.nr V1.cr, .slice V1.xf V1.nf V1.cf, .slice V1.xt V1.nt V1.ct, .int .i64 s.lo, .int .i64 s.al, .slice V1.xk V1.nk V1.ck, .int .i64 s.ka] 39))
  rw [← hW] at Q
  replace Y := Y.alloc (.cells #[.slice V1.xr V1.nr V1.cr, .slice V1.xf V1.nf V1.cf, .slice V1.xt V1.nt V1.ct, .int .i64 s.lo, .int .i64 s.al, .slice V1.xk V1.nk V1.ck, .int .i64 s.ka] 39)
  rw [← hW] at Y
  replace P := Lib.hid (P.out.alloc (.cells #[.slice V1.xr V1.nr V1.cr, .slice V1.xf V1.nf V1.cf, .slice V1.xt V1.nt V1.ct, .int .i64 s.lo, .int .i64 s.al, .slice V1.xk V1.nk V1.ck, .int .i64 s.ka] 39))
  rw [← hW] at P
  have X := Box7.new w3 39 (.slice V1.xr V1.nr V1.cr) (.slice V1.xf V1.nf V1.cf) (.slice V1.xt V1.nt V1.ct) (.int .i64 s.lo) (.int .i64 s.al) (.slice V1.xk V1.nk V1.ck) (.int .i64 s.ka)
  rw [← hW] at X
  go_wp2_with fail
  rw [← hW]
  clear hW ay0 ay1 ay2 ay3 ay4 ay5 ay6
  clear ho
  cases ok with
  | false =>
    refine (lkSum_same W3 V1 V2 s P.out.rd Q.out.rd SMs.out).mono ?_
    rintro e w4 ⟨rfl, hb⟩
    replace B := Lib.hid (B.out.trans (hb.mono B.out.size))
    replace Ll := Lib.hid (Ll.out.below hb (Nat.le_refl _))
    replace Q := Lib.hid (Q.out.below hb)
    replace Y := Y.later hb
    replace P := Lib.hid (P.out.below hb)
    replace X := X.later hb
    clear hb
    obtain ⟨cx0, cx1, cx2, cx3, cx4, cx5, cx6⟩ := (X).cells
    obtain ⟨cy0, cy1, cy2, cy3, cy4, cy5, cy6⟩ := (Y).cells
    go_wp2_with fail
    refine (lkSum_same w4 V1 V2 s P.out.rd Q.out.rd SMs.out).mono ?_
    rintro e w5 ⟨rfl, hb⟩
    clear cx0 cx1 cx2 cx3 cx4 cx5 cx6 cy0 cy1 cy2 cy3 cy4 cy5 cy6
    replace B := Lib.hid (B.out.trans (hb.mono B.out.size))
    replace Ll := Lib.hid (Ll.out.below hb (Nat.le_refl _))
    replace Q := Lib.hid (Q.out.below hb)
    replace Y := Y.later hb
    replace P := Lib.hid (P.out.below hb)
    replace X := X.later hb
    clear hb
    go_wp2
    go_ret
    exact ⟨rfl, B.out⟩
  | true =>
    have OK := Lib.hid (Ook.out rfl)
    clear Ook
    refine (lkSum_same W3 V1 V2 s P.out.rd Q.out.rd SMs.out).mono ?_
    rintro e w4 ⟨rfl, hb⟩
    replace B := Lib.hid (B.out.trans (hb.mono B.out.size))
    replace Ll := Lib.hid (Ll.out.below hb (Nat.le_refl _))
    replace Q := Lib.hid (Q.out.below hb)
    replace Y := Y.later hb
    replace P := Lib.hid (P.out.below hb)
    replace X := X.later hb
    clear hb
    clear Y
    clear Q
    have K1 := imSumOf_at w4 none 0 0 [] (.inl ⟨rfl, rfl⟩)
    have e0 : upS [] = newSm := rfl
    rw [e0, okS_new] at K1
    clear e0
    go_wp2_with fail
    refine (K1).mono ?_
    rintro e w5 ⟨V3, rfl, ho, hb⟩
    clear K1
    replace B := Lib.hid (B.out.trans (hb.mono B.out.size))
    replace Ll := Lib.hid (Ll.out.below hb (Nat.le_refl _))
    replace P := Lib.hid (P.out.below hb)
    replace X := X.later hb
    have N := Lib.hid (ho)
    clear hb
    obtain ⟨W5, hW⟩ : ∃ W, W = (w5.alloc (.cells #[.slice V3.xr V3.nr V3.cr, .slice V3.xf V3.nf V3.cf, .slice V3.xt V3.nt V3.ct, .int .i64 newSm.lo, .int .i64 newSm.al, .slice V3.xk V3.nk V3.ck, .int .i64 newSm.ka] 39)) := ⟨_, rfl⟩
    replace B := Lib.hid ((B.out).alloc (Nat.le_trans B.out.size (by simp)) (.cells #[.slice V3.xr V3.nr V3.cr, .slice V3.xf V3.nf V3.cf, .slice V3.xt V3.nt V3.ct, .int .i64 newSm.lo, .int .i64 newSm.al, .slice V3.xk V3.nk V3.ck, .int .i64 newSm.ka] 39))
    rw [← hW] at B
    replace Ll := Lib.hid (Ll.out.below ((Below.refl _ _).alloc (Nat.le_refl _) (.cells #[.slice V3.xr V3.nr V3.cr, .slice V3.xf V3.nf V3.cf, .slice V3.xt V3.nt V3.ct, .int .i64 newSm.lo, .int .i64 newSm.al, .slice V3.xk V3.nk V3.ck, .int .i64 newSm.ka] 39)) (Nat.le_refl _))
    rw [← hW] at Ll
    replace P := Lib.hid (P.out.alloc (.cells #[.slice V3.xr V3.nr V3.cr, .slice V3.xf V3.nf V3.cf, .slice V3.xt V3.nt V3.ct, .int .i64 newSm.lo, .int .i64 newSm.al, .slice V3.xk V3.nk V3.ck, .int .i64 newSm.ka] 39))
    rw [← hW] at P
    replace X := X.alloc (.cells #[.slice V3.xr V3.nr V3.cr, .slice V3.xf V3.nf V3.cf, .slice V3.xt V3.nt V3.ct, .int .i64 newSm.lo, .int .i64 newSm.al, .slice V3.xk V3.nk V3.ck, .int .i64 newSm.ka] 39)
    rw [← hW] at X
    replace N := Lib.hid (N.out.alloc (.cells #[.slice V3.xr V3.nr V3.cr, .slice V3.xf V3.nf V3.cf, .slice V3.xt V3.nt V3.ct, .int .i64 newSm.lo, .int .i64 newSm.al, .slice V3.xk V3.nk V3.ck, .int .i64 newSm.ka] 39))
    rw [← hW] at N
    have X3 := Box7.new w5 39 (.slice V3.xr V3.nr V3.cr) (.slice V3.xf V3.nf V3.cf) (.slice V3.xt V3.nt V3.ct) (.int .i64 newSm.lo) (.int .i64 newSm.al) (.slice V3.xk V3.nk V3.ck) (.int .i64 newSm.ka)
    rw [← hW] at X3
    clear ho
    have EA := Lib.hid (show allS s = n0 by unfold allS; rw [Hs.out, if_pos OK.out, (okS_up OK.out).1, Hn0.out])
    have HOS := Lib.hid (show okS s = true by rw [Hs.out]; exact OK.out)
    have KO := Lib.hid (fun (W : World) (h : RdS W V1 s) => show Calls Tryz.prog 57 #[.agg #[.slice V1.xr V1.nr V1.cr, .slice V1.xf V1.nf V1.cf, .slice V1.xt V1.nt V1.ct, .int .i64 s.lo, .int .i64 s.al, .slice V1.xk V1.nk V1.ck, .int .i64 s.ka]] W fun e w' => e = .returned (.bool true) ∧ Below W.heap.size W w' by have k := imSumOk_at W V1 s h; rw [HOS.out] at k; exact k)
    have KA := Lib.hid (fun (W : World) (h : RdS W V1 s) => show Calls Tryz.prog 58 #[.agg #[.slice V1.xr V1.nr V1.cr, .slice V1.xf V1.nf V1.cf, .slice V1.xt V1.nt V1.ct, .int .i64 s.lo, .int .i64 s.al, .slice V1.xk V1.nk V1.ck, .int .i64 s.ka]] W fun e w' => e = .returned (.int .i64 n0) ∧ Below W.heap.size W w' by have k := imSumAll_at W V1 s h; rw [EA.out] at k; exact k)
    clear EA HOS
    go_wp2
    rw [← hW]
    clear hW
    have D0 := Lib.hid (Below.drew (Below.refl W5.heap.size W5))
    obtain ⟨zx0, zx1, zx2, zx3, zx4, zx5, zx6⟩ := (X.later D0.out).cells
    obtain ⟨zx30, zx31, zx32, zx33, zx34, zx35, zx36⟩ := (X3.later D0.out).cells
    go_region_with (first
      | (go_at_call 57; refine (KO.out (W5.drew) (P.out.below D0.out).rd).mono ?_; rintro e v1 ⟨rfl, hb⟩; have D1 := Lib.hid (D0.out.trans (hb.mono D0.out.size)); clear hb; obtain ⟨z0x0, z0x1, z0x2, z0x3, z0x4, z0x5, z0x6⟩ := (X.later D1.out).cells; obtain ⟨z0x30, z0x31, z0x32, z0x33, z0x34, z0x35, z0x36⟩ := (X3.later D1.out).cells)
      | (go_at_call 58; refine (KA.out (v1) (P.out.below D1.out).rd).mono ?_; rintro e v2 ⟨rfl, hb⟩; have D2 := Lib.hid (D1.out.trans (hb.mono D1.out.size)); clear hb; obtain ⟨z1x0, z1x1, z1x2, z1x3, z1x4, z1x5, z1x6⟩ := (X.later D2.out).cells; obtain ⟨z1x30, z1x31, z1x32, z1x33, z1x34, z1x35, z1x36⟩ := (X3.later D2.out).cells)
      | (go_at_call 59; refine (imSumNew_at (v2)).mono ?_; rintro e v3 ⟨V4, rfl, ho4, hb⟩; have D3 := Lib.hid (D2.out.trans (hb.mono D2.out.size)); have O4 := Lib.hid ho4; clear ho4; clear hb; obtain ⟨z2x0, z2x1, z2x2, z2x3, z2x4, z2x5, z2x6⟩ := (X.later D3.out).cells; obtain ⟨z2x30, z2x31, z2x32, z2x33, z2x34, z2x35, z2x36⟩ := (X3.later D3.out).cells)
      | (go_at_call 32; refine (lkSum_same (v3) V3 V4 newSm (N.out.below D3.out).rd O4.out.rd new_ok.small).mono ?_; rintro e v4 ⟨rfl, hb⟩; have D4 := Lib.hid (D3.out.trans (hb.mono D3.out.size)); clear hb))
    all_goals
      go_wp2
      go_ret
      exact ⟨rfl, B.out.trans (D4.out.mono B.out.size)⟩

/-! ### THE ROW's STEP: WRITTEN OUT: LEAVE IT -/
set_option maxRecDepth 100000 in
theorem lifted (os : Os) (started : os.Started) (H : Type) (enc : TypeId × Value → H) :
    ReturnsInHanded {} Tryz.checked os 15 .any (Rows.fnSumOfSpec.pre6 enc Tryz.prog Tryz.f15 Rows.fnSumOfRow.domain false) (Rows.fnSumOfSpec.post enc Tryz.prog Tryz.f15 false true false false) := by
  refine returnsInHanded_of_change (C := Tryz.checked) own started (by kernel_rfl) Tryz.func15
    (ChangeSpec.witness6 (enc := enc) (C := Tryz.checked) false ⟨#[], #[.slice none 0 0], []⟩ 8 (by kernel_rfl) (by kernel_rfl) (by kernel_rfl) (by kernel_rfl)) ?_
  intro W base args ds gs before hval0 hW hcnd _
  have hval : ∀ (j : Nat) t v, Tryz.f15.params[j]? = some t → args[j]? = some v → Value.okWide Tryz.prog W .any base t v := hval0
  have hW' := hW
  obtain ⟨p, q, hA0, hV, rfl, hfz, hnd⟩ := hW
  have hA : DataW.TrodAll enc Tryz.prog W 0 (fun _ => true) true Tryz.f15.params.toList args.toList ds p := hA0
  rw [Tryz.params15] at hA hval
  obtain ⟨v0, vs0, d0, ds0, p0, q0, hargs, rfl, rfl, h0, r0⟩ := trodAll_cons hA
  obtain ⟨rfl, rfl, rfl⟩ := trodAll_nil r0
  obtain rfl : args = #[v0] := by cases args; simp_all
  obtain ⟨rfl, rfl⟩ := trodVars_none hV
  obtain ⟨a0, len0, cap0, rfl⟩ := okWide_slice Tryz.underlying22 (hval 0 22 v0 rfl rfl)
  have k0 := h0
  have lt0 : ∀ x ∈ p0, x.block < W.heap.size := by obtain ⟨m, hm⟩ := k0; exact DataW.trod_lt m _ _ _ hm
  obtain ⟨z0, w0⟩ : ∃ zs, IsRow .u8 W a0 len0 cap0 zs := by
    obtain ⟨fuel, hf⟩ := h0
    rcases open_ints Tryz.underlying22 Tryz.underlying5 (by kernel_rfl) hf with ⟨hcs, _⟩ | ⟨x, l, c, zs, hcs, _, hl, hm, hz, _, hcell, hwz⟩
    · simp [Value.cells] at hcs
      obtain ⟨rfl, rfl, rfl⟩ := hcs
      exact ⟨[], .inl ⟨rfl, rfl, rfl, rfl⟩⟩
    · simp [Value.cells] at hcs
      obtain ⟨rfl, rfl, rfl⟩ := hcs
      exact ⟨zs, .inr ⟨_, rfl, hl, hm, by simpa using hz, hcell, hwz⟩⟩
  clear hA0 hval0
  refine (walk a0 len0 cap0 z0 W w0).mono fun e W' ⟨he, bel⟩ => ?_
  subst he
  exact ⟨_, rfl, _, _, _, [], _, [], hW', trodAll_mk1 (shut_bool Tryz.underlying4 _), (trodAll_cons_mk (Below.trod laidOut (by kernel_rfl) (of_decide_eq_true (by kernel_rfl)) k0 bel lt0) trodAll_mk0), rfl, bel.frame _, fun h => by cases h⟩

theorem over : Rows.fnSumOfRow.holds Tryz.pinned (OpenSpec.ofChange Rows.fnSumOfSpec) :=
  OpenClaim.holds_of_wide 15 Tryz.f15 rfl rfl rfl rfl rfl rfl rfl ⟨rfl, rfl, rfl, rfl, rfl⟩ rfl rfl rfl rfl rfl (by kernel_rfl) Tryz.func15 (by show joinedFacts Tryz.prog _ _ _ _ = true; unfold joinedFacts; rw [mayE, liftF, makeC]; kernel_rfl)
    (of_decide_eq_true (by kernel_rfl)) (by unfold Func.isWrapper; first | (rw [if_pos (by decide +kernel)]; kernel_rfl) | (rw [if_neg (by decide +kernel)]; exact ⟨rfl, rfl⟩))
    (fun os started H enc _ => lifted os started H enc)

theorem proved : Rows.FnSumOfSaid := over
#print axioms proved
end Go.Proofs.YtnoilafoeaknjaaGreat.fnSumOf
