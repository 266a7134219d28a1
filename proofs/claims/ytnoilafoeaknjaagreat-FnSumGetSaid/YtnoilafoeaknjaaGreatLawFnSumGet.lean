/-
  The statement of the law FnSumGet: at every input the call returns true and leaves what it was given as it was. The frame is the kit's shell; the walk is ours.
-/
import Derived.Test.YtnoilafoeaknjaaGreatZImOf
import Derived.Test.YtnoilafoeaknjaaGreatZSpOf
import Derived.Test.YtnoilafoeaknjaaGreatZDraw
import Derived.Test.YtnoilafoeaknjaaGreatZLk
import Derived.Test.YtnoilafoeaknjaaGreatZImGet
import Derived.Test.YtnoilafoeaknjaaGreatZDrawT
import Derived.Test.YtnoilafoeaknjaaGreatZTell
import Derived.Deep.RegionWith
import Derived.Test.YtnoilafoeaknjaaGreatRows
import Derived.Test.YtnoilafoeaknjaaGreatMk
import Derived.WalkKit
import Derived.ProofKit
import Derived.OpenShut
import Derived.ShutString
import Derived.ChangeOld
import Derived.Below
namespace Go.Proofs.YtnoilafoeaknjaaGreat.fnSumGet
open Go.ChangeShapes Go.WideShapes Go.ChangeAt Go.RowKit
open Go.ChangeMaps (open_string shut_string)
set_option linter.unusedVariables false

theorem own : ownKnob Tryz.prog.godebug = none := by kernel_rfl
theorem laidOut : laidOutB Tryz.prog = true := by kernel_rfl

/-- WHAT THE WALK IS TOLD OF A SLICE OF INTEGERS THAT CAME IN: it is nil; or it leads to a row of 'cap' cells, the numbers 'zs' (the first 'len' are its elements, the rest its spare room), each fitting its kind. -/
def IsRow (k : IntKind) (w : World) (a : Option Addr) (len cap : Nat) (zs : List Int) : Prop :=
  (a = none ∧ len = 0 ∧ cap = 0 ∧ zs = []) ∨
  ∃ x, a = some x ∧ len ≤ cap ∧ cap ≤ maxLen ∧ zs.length = cap ∧ (∀ i, i < zs.length → w.cell? (x.add i) = some (.int k (zs.getD i 0))) ∧ ∀ n ∈ zs, (Lit.int k n).wf = true

/-! ### STEP 1: THE WALK: the Go text returns true, AND WRITES NOTHING THAT WAS THERE: 'Below w.heap.size w w'' (Derived/Below.lean: '.refl', '.alloc', '.drew', '.setCell' at a new block, '.trans'). Open each 'IsRow' by 'rcases' AHEAD of 'go_enter'; part every test ahead of the walk. -/
set_option maxRecDepth 100000 in
set_option maxHeartbeats 16000000 in
theorem walk (a0 : Option Addr) (len0 cap0 : Nat) (z0 : List Int) (a1 : Option Addr) (len1 cap1 : Nat) (z1 : List Int) (w : World) (w0 : IsRow .u8 w a0 len0 cap0 z0) (w1 : IsRow .u8 w a1 len1 cap1 z1) :
    Calls Tryz.prog 18 #[.slice a0 len0 cap0, .slice a1 len1 cap1] w fun e w' => e = .returned (.bool true) ∧ Below w.heap.size w w' := by
  obtain ⟨hb, hl⟩ := bts_of w a0 len0 cap0 z0 w0
  obtain ⟨hb', hl'⟩ := bts_of w a1 len1 cap1 z1 w1
  rcases hl with hl | hl
  · go_enter Tryz.func18, Tryz.ntmps18
    go_wp2
    go_ret
    exact ⟨rfl, Below.refl _ _⟩
  rcases hl' with hl' | hl'
  · go_enter Tryz.func18, Tryz.ntmps18
    go_wp2
    go_ret
    exact ⟨rfl, Below.refl _ _⟩
  have HB := Lib.hid hb
  have HB' := Lib.hid hb'
  clear hb w0 hb' w1
  have B := Lib.hid (Below.refl w.heap.size w)
  go_enter Tryz.func18, Tryz.ntmps18
  go_wp2_with fail
  refine (drawSumOf_at w _ len0 ⟨_, _, rfl⟩ (bts_below HB.out B.out)).mono ?_
  rintro e w1 ⟨x0, c0, l, rfl, ho, hlen, hb⟩
  obtain ⟨n0, hn⟩ : ∃ n, n = l.length := ⟨_, rfl⟩
  rw [← hn] at ho hlen ⊢
  have Hn0 := Lib.hid hn
  have Mn0 := Lib.hid hlen
  clear hn
  replace B := Lib.hid (B.out.trans (hb.mono B.out.size))
  have Ll := Lib.hid (ho.rd)
  clear hb
  clear ho hlen
  go_wp2_with fail
  refine (drawSGet_at w1 _ len1 ⟨_, _, rfl⟩ (bts_below HB'.out B.out)).mono ?_
  rintro e w2 ⟨V9, s9, t, rfl, tt, hrc, hb⟩
  obtain ⟨tl, th⟩ := tt
  clear hrc
  replace B := Lib.hid (B.out.trans (hb.mono B.out.size))
  replace Ll := Lib.hid (Ll.out.below hb (Nat.le_refl _))
  clear hb
  obtain ⟨W2, hW⟩ : ∃ W, W = (w2.alloc (.cells #[.slice V9.xr V9.nr V9.cr, .slice V9.xf V9.nf V9.cf, .slice V9.xt V9.nt V9.ct, .int .i64 s9.lo, .int .i64 s9.al, .slice V9.xk V9.nk V9.ck, .int .i64 s9.ka] 39)) := ⟨_, rfl⟩
  replace B := Lib.hid ((B.out).alloc (Nat.le_trans B.out.size (by simp)) (.cells #[.slice V9.xr V9.nr V9.cr, .slice V9.xf V9.nf V9.cf, .slice V9.xt V9.nt V9.ct, .int .i64 s9.lo, .int .i64 s9.al, .slice V9.xk V9.nk V9.ck, .int .i64 s9.ka] 39))
  rw [← hW] at B
  replace Ll := Lib.hid (Ll.out.below ((Below.refl _ _).alloc (Nat.le_refl _) (.cells #[.slice V9.xr V9.nr V9.cr, .slice V9.xf V9.nf V9.cf, .slice V9.xt V9.nt V9.ct, .int .i64 s9.lo, .int .i64 s9.al, .slice V9.xk V9.nk V9.ck, .int .i64 s9.ka] 39)) (Nat.le_refl _))
  rw [← hW] at Ll
  go_wp2_with fail
  rw [← hW]
  clear hW
  obtain ⟨s, hs⟩ : ∃ s, s = upS l := ⟨_, rfl⟩
  have Hs := Lib.hid hs
  have SMs := Lib.hid (show Small s by rw [hs]; exact up_small l)
  have Kiml := Lib.hid (fun (W : World) (h : Ints W (.slice x0 n0 c0) l) => show Calls Tryz.prog 30 #[.slice x0 n0 c0] W fun e w' => ∃ U, e = .returned (.tuple #[.agg #[.slice U.xr U.nr U.cr, .slice U.xf U.nf U.cf, .slice U.xt U.nt U.ct, .int .i64 s.lo, .int .i64 s.al, .slice U.xk U.nk U.ck, .int .i64 s.ka], .bool (okS s)]) ∧ OwnS w' W.heap.size w'.heap.size U s ∧ Below W.heap.size W w' by rw [hs]; exact imSumOf_at W x0 n0 c0 l h)
  have Kspl := Lib.hid (fun (W : World) (h : Ints W (.slice x0 n0 c0) l) => show Calls Tryz.prog 31 #[.slice x0 n0 c0] W fun e w' => ∃ U, e = .returned (.tuple #[.agg #[.slice U.xr U.nr U.cr, .slice U.xf U.nf U.cf, .slice U.xt U.nt U.ct, .int .i64 s.lo, .int .i64 s.al, .slice U.xk U.nk U.ck, .int .i64 s.ka], .bool (okS s)]) ∧ OwnS w' W.heap.size w'.heap.size U s ∧ Below W.heap.size W w' by rw [hs]; exact spSumOf_at W x0 n0 c0 l h)
  have Ook := Lib.hid (fun (q : okS s = true) => show okS (upS l) = true by rw [← hs]; exact q)
  clear hs
  generalize okS s = ok at Kiml Kspl Ook
  have K1 := Kspl.out W2 Ll.out
  go_wp2_with fail
  refine (K1).mono ?_
  rintro e w3 ⟨V2, rfl, ho, hb⟩
  clear K1
  replace ho := ho.base (B' := w.heap.size) B.out.size (Nat.le_refl _) (Nat.le_refl _)
  replace B := Lib.hid (B.out.trans (hb.mono B.out.size))
  replace Ll := Lib.hid (Ll.out.below hb (Nat.le_refl _))
  have Q := Lib.hid (ho)
  clear hb
  obtain ⟨W3, hW⟩ : ∃ W, W = (w3.alloc (.cells #[.slice V2.xr V2.nr V2.cr, .slice V2.xf V2.nf V2.cf, .slice V2.xt V2.nt V2.ct, .int .i64 s.lo, .int .i64 s.al, .slice V2.xk V2.nk V2.ck, .int .i64 s.ka] 39)) := ⟨_, rfl⟩
  replace B := Lib.hid ((B.out).alloc (Nat.le_trans B.out.size (by simp)) (.cells #[.slice V2.xr V2.nr V2.cr, .slice V2.xf V2.nf V2.cf, .slice V2.xt V2.nt V2.ct, .int .i64 s.lo, .int .i64 s.al, .slice V2.xk V2.nk V2.ck, .int .i64 s.ka] 39))
  rw [← hW] at B
  replace Ll := Lib.hid (Ll.out.below ((Below.refl _ _).alloc (Nat.le_refl _) (.cells #[.slice V2.xr V2.nr V2.cr, .slice V2.xf V2.nf V2.cf, .slice V2.xt V2.nt V2.ct, .int .i64 s.lo, .int .i64 s.al, .slice V2.xk V2.nk V2.ck, .int .i64 s.ka] 39)) (Nat.le_refl _))
  rw [← hW] at Ll
  replace Q := Lib.hid (Q.out.alloc (.cells #[.slice V2.xr V2.nr V2.cr, .slice V2.xf V2.nf V2.cf, .slice V2.xt V2.nt V2.ct, .int .i64 s.lo, .int .i64 s.al, .slice V2.xk V2.nk V2.ck, .int .i64 s.ka] 39))
  rw [← hW] at Q
  have Y := Box7.new w3 39 (.slice V2.xr V2.nr V2.cr) (.slice V2.xf V2.nf V2.cf) (.slice V2.xt V2.nt V2.ct) (.int .i64 s.lo) (.int .i64 s.al) (.slice V2.xk V2.nk V2.ck) (.int .i64 s.ka)
  rw [← hW] at Y
  go_wp2_with fail
  rw [← hW]
  clear hW
  clear ho
  have K1 := Kiml.out W3 Ll.out
  go_wp2_with fail
  refine (K1).mono ?_
  rintro e w4 ⟨V1, rfl, ho, hb⟩
  clear K1
  replace ho := ho.base (B' := w.heap.size) B.out.size (Nat.le_refl _) (Nat.le_refl _)
  replace B := Lib.hid (B.out.trans (hb.mono B.out.size))
  replace Ll := Lib.hid (Ll.out.below hb (Nat.le_refl _))
  replace Q := Lib.hid (Q.out.below hb)
  replace Y := Y.later hb
  have P := Lib.hid (ho)
  clear hb
  obtain ⟨W4, hW⟩ : ∃ W, W = (w4.alloc (.cells #[.slice V1.xr V1.nr V1.cr, .slice V1.xf V1.nf V1.cf, .slice V1.xt V1.nt V1.ct, .int .i64 s.lo, .int .i64 s.al, .slice V1.xk V1.nk V1.ck, .int .i64 s.ka] 39)) := ⟨_, rfl⟩
  obtain ⟨ay0, ay1, ay2, ay3, ay4, ay5, ay6⟩ := ((Y.alloc (.cells #[.slice V1.xr V1.nr V1.cr, .slice V1.xf V1.nf V1.cf, .slice V1.xt V1.nt V1.ct, .int .i64 s.lo, .int .i64 s.al, .slice V1.xk V1.nk V1.ck, .int .i64 s.ka] 39))).cells
  replace B := Lib.hid ((B.out).alloc (Nat.le_trans B.out.size (by simp)) (.cells #[.slice V1.xr V1.nr V1.cr, .slice V1.xf V1.nf V1.cf, .slice V1.xt V1.nt V1.ct, .int .i64 s.lo, .int .i64 s.al, .slice V1.xk V1.nk V1.ck, .int .i64 s.ka] 39))
  rw [← hW] at B
  replace Ll := Lib.hid (Ll.out.below ((Below.refl _ _).alloc (Nat.le_refl _) (.cells #[.slice V1.xr V1.nr V1.cr, .slice V1.xf V1.nf V1.cf, .slice V1.xt V1.nt V1.ct, .int .i64 s.lo, .int .i64 s.al, .slice V1.xk V1.nk V1.ck, .int .i64 s.ka] 39)) (Nat.le_refl _))
  rw [← hW] at Ll
  replace Q := Lib.hid (Q.out.alloc (.cells #[.slice V1.xr V1.nr V1.cr, .slice V1.xf V1.nf V1.cf, .slice V1.xt V1.nt V1.ct, .int .i64 s.lo, .int .i64 s.al, .slice V1.xk V1.nk V1.ck, .int .i64 s.ka] 39))
  rw [← hW] at Q
  replace Y := Y.alloc (.cells #[.slice V1.xr V1.nr V1.cr, .slice V1.xf V1.nf V1.cf, .slice V1.xt V1.nt V1.ct, .int .i64 s.lo, .int .i64 s.al, .slice V1.xk V1.nk V1.ck, .int .i64 s.ka] 39)
  rw [← hW] at Y
  replace P := Lib.hid (P.out.alloc (.cells #[.slice V1.xr V1.nr V1.cr, .slice V1.xf V1.nf V1.cf, .slice V1.xt V1.nt V1.ct, .int .i64 s.lo, .int .i64 s.al, .slice V1.xk V1.nk V1.ck, .int .i64 s.ka] 39))
  rw [← hW] at P
  have X := Box7.new w4 39 (.slice V1.xr V1.nr V1.cr) (.slice V1.xf V1.nf V1.cf) (.slice V1.xt V1.nt V1.ct) (.int .i64 s.lo) (.int .i64 s.al) (.slice V1.xk V1.nk V1.ck) (.int .i64 s.ka)
  rw [← hW] at X
  go_wp2_with fail
  rw [← hW]
  clear hW ay0 ay1 ay2 ay3 ay4 ay5 ay6
  clear ho
  cases ok with
  | false =>
    refine (lkSum_same W4 V1 V2 s P.out.rd Q.out.rd SMs.out).mono ?_
    rintro e w5 ⟨rfl, hb⟩
    replace B := Lib.hid (B.out.trans (hb.mono B.out.size))
    replace Ll := Lib.hid (Ll.out.below hb (Nat.le_refl _))
    replace Q := Lib.hid (Q.out.below hb)
    replace Y := Y.later hb
    replace P := Lib.hid (P.out.below hb)
    replace X := X.later hb
    clear hb
    obtain ⟨cx0, cx1, cx2, cx3, cx4, cx5, cx6⟩ := (X).cells
    obtain ⟨cy0, cy1, cy2, cy3, cy4, cy5, cy6⟩ := (Y).cells
    go_wp2_with fail
    refine (lkSum_same w5 V1 V2 s P.out.rd Q.out.rd SMs.out).mono ?_
    rintro e w6 ⟨rfl, hb⟩
    clear cx0 cx1 cx2 cx3 cx4 cx5 cx6 cy0 cy1 cy2 cy3 cy4 cy5 cy6
    replace B := Lib.hid (B.out.trans (hb.mono B.out.size))
    replace Ll := Lib.hid (Ll.out.below hb (Nat.le_refl _))
    replace Q := Lib.hid (Q.out.below hb)
    replace Y := Y.later hb
    replace P := Lib.hid (P.out.below hb)
    replace X := X.later hb
    clear hb
    go_wp2
    go_ret
    exact ⟨rfl, B.out⟩
  | true =>
    have OK := Lib.hid (Ook.out rfl)
    clear Ook
    by_cases ht : t < 0 ∨ 63 < t
    · rcases ht with ht | ht
      · skip
        refine (lkSum_same W4 V1 V2 s P.out.rd Q.out.rd SMs.out).mono ?_
        rintro e w5 ⟨rfl, hb⟩
        replace B := Lib.hid (B.out.trans (hb.mono B.out.size))
        replace Ll := Lib.hid (Ll.out.below hb (Nat.le_refl _))
        replace Q := Lib.hid (Q.out.below hb)
        replace Y := Y.later hb
        replace P := Lib.hid (P.out.below hb)
        replace X := X.later hb
        clear hb
        obtain ⟨cx0, cx1, cx2, cx3, cx4, cx5, cx6⟩ := (X).cells
        obtain ⟨cy0, cy1, cy2, cy3, cy4, cy5, cy6⟩ := (Y).cells
        go_wp2_with fail
        refine (lkSum_same w5 V1 V2 s P.out.rd Q.out.rd SMs.out).mono ?_
        rintro e w6 ⟨rfl, hb⟩
        clear cx0 cx1 cx2 cx3 cx4 cx5 cx6 cy0 cy1 cy2 cy3 cy4 cy5 cy6
        replace B := Lib.hid (B.out.trans (hb.mono B.out.size))
        replace Ll := Lib.hid (Ll.out.below hb (Nat.le_refl _))
        replace Q := Lib.hid (Q.out.below hb)
        replace Y := Y.later hb
        replace P := Lib.hid (P.out.below hb)
        replace X := X.later hb
        clear hb
        go_wp2
        go_ret
        exact ⟨rfl, B.out⟩
      · skip
        have ht0 : 0 ≤ t := by omega
        have ht1 : 64 ≤ t := by omega
        refine (lkSum_same W4 V1 V2 s P.out.rd Q.out.rd SMs.out).mono ?_
        rintro e w5 ⟨rfl, hb⟩
        replace B := Lib.hid (B.out.trans (hb.mono B.out.size))
        replace Ll := Lib.hid (Ll.out.below hb (Nat.le_refl _))
        replace Q := Lib.hid (Q.out.below hb)
        replace Y := Y.later hb
        replace P := Lib.hid (P.out.below hb)
        replace X := X.later hb
        clear hb
        obtain ⟨cx0, cx1, cx2, cx3, cx4, cx5, cx6⟩ := (X).cells
        obtain ⟨cy0, cy1, cy2, cy3, cy4, cy5, cy6⟩ := (Y).cells
        go_wp2_with fail
        refine (lkSum_same w5 V1 V2 s P.out.rd Q.out.rd SMs.out).mono ?_
        rintro e w6 ⟨rfl, hb⟩
        clear cx0 cx1 cx2 cx3 cx4 cx5 cx6 cy0 cy1 cy2 cy3 cy4 cy5 cy6
        replace B := Lib.hid (B.out.trans (hb.mono B.out.size))
        replace Ll := Lib.hid (Ll.out.below hb (Nat.le_refl _))
        replace Q := Lib.hid (Q.out.below hb)
        replace Y := Y.later hb
        replace P := Lib.hid (P.out.below hb)
        replace X := X.later hb
        clear hb
        go_wp2
        go_ret
        exact ⟨rfl, B.out⟩
    have t0 : 0 ≤ t := by omega
    have t1 : t ≤ 63 := by omega
    have t2 : t < 64 := by omega
    clear ht
    have ST := Lib.hid (getS_told OK.out t0 t1)
    rw [← Hs.out] at ST
    have st := ST.out
    clear ST
    have K1 := Lib.hid (fun W h => imSumGet_at W V1 s t h)
    have K2 := Lib.hid (fun W h => lkTimesZ_at W (.slice x0 n0 c0) l t h (by have := Mn0.out; rw [Hn0.out] at this; omega))
    have K3 := Lib.hid (fun W h => imGet_at W (.slice V1.xr V1.nr V1.cr) s.rs t h)
    generalize getSL s t = gl at K1 st
    generalize getSM s t = gm at K1 st
    generalize cntT l t = tv at K2 st
    generalize getV s.rs t = gv at K3 st
    obtain ⟨g1, g2, g3⟩ := st
    refine (lkSum_same W4 V1 V2 s P.out.rd Q.out.rd SMs.out).mono ?_
    rintro e w5 ⟨rfl, hb⟩
    replace B := Lib.hid (B.out.trans (hb.mono B.out.size))
    replace Ll := Lib.hid (Ll.out.below hb (Nat.le_refl _))
    replace Q := Lib.hid (Q.out.below hb)
    replace Y := Y.later hb
    replace P := Lib.hid (P.out.below hb)
    replace X := X.later hb
    clear hb
    obtain ⟨cx0, cx1, cx2, cx3, cx4, cx5, cx6⟩ := (X).cells
    clear Y
    clear Q
    go_wp2_with fail
    refine (K1.out w5 P.out.rd).mono ?_
    rintro e w6 ⟨rfl, hb⟩
    clear cx0 cx1 cx2 cx3 cx4 cx5 cx6
    replace B := Lib.hid (B.out.trans (hb.mono B.out.size))
    replace Ll := Lib.hid (Ll.out.below hb (Nat.le_refl _))
    replace P := Lib.hid (P.out.below hb)
    replace X := X.later hb
    clear hb
    go_wp2_with fail
    refine (K2.out w6 Ll.out).mono ?_
    rintro e w7 ⟨rfl, hb⟩
    replace B := Lib.hid (B.out.trans (hb.mono B.out.size))
    replace Ll := Lib.hid (Ll.out.below hb (Nat.le_refl _))
    replace P := Lib.hid (P.out.below hb)
    replace X := X.later hb
    clear hb
    obtain ⟨cx0, cx1, cx2, cx3, cx4, cx5, cx6⟩ := (X).cells
    go_wp2_with fail
    refine (K3.out w7 P.out.rd.r).mono ?_
    rintro e w8 ⟨rfl, hb⟩
    clear cx0 cx1 cx2 cx3 cx4 cx5 cx6
    replace B := Lib.hid (B.out.trans (hb.mono B.out.size))
    replace Ll := Lib.hid (Ll.out.below hb (Nat.le_refl _))
    replace P := Lib.hid (P.out.below hb)
    replace X := X.later hb
    clear hb
    go_wp2
    go_ret
    exact ⟨by first | rfl | simp, B.out⟩

/-! ### THE ROW's STEP: WRITTEN OUT: LEAVE IT -/
set_option maxRecDepth 100000 in
theorem lifted (os : Os) (started : os.Started) (H : Type) (enc : TypeId × Value → H) :
    ReturnsInHanded {} Tryz.checked os 18 .any (Rows.fnSumGetSpec.pre6 enc Tryz.prog Tryz.f18 Rows.fnSumGetRow.domain false) (Rows.fnSumGetSpec.post enc Tryz.prog Tryz.f18 false true false false) := by
  refine returnsInHanded_of_change (C := Tryz.checked) own started (by kernel_rfl) Tryz.func18
    (ChangeSpec.witness6 (enc := enc) (C := Tryz.checked) false ⟨#[], #[.slice none 0 0, .slice none 0 0], []⟩ 8 (by kernel_rfl) (by kernel_rfl) (by kernel_rfl) (by kernel_rfl)) ?_
  intro W base args ds gs before hval0 hW hcnd _
  have hval : ∀ (j : Nat) t v, Tryz.f18.params[j]? = some t → args[j]? = some v → Value.okWide Tryz.prog W .any base t v := hval0
  have hW' := hW
  obtain ⟨p, q, hA0, hV, rfl, hfz, hnd⟩ := hW
  have hA : DataW.TrodAll enc Tryz.prog W 0 (fun _ => true) true Tryz.f18.params.toList args.toList ds p := hA0
  rw [Tryz.params18] at hA hval
  obtain ⟨v0, vs0, d0, ds0, p0, q0, hargs, rfl, rfl, h0, r0⟩ := trodAll_cons hA
  obtain ⟨v1, vs1, d1, ds1, p1, q1, rfl, rfl, rfl, h1, r1⟩ := trodAll_cons r0
  obtain ⟨rfl, rfl, rfl⟩ := trodAll_nil r1
  obtain rfl : args = #[v0, v1] := by cases args; simp_all
  obtain ⟨rfl, rfl⟩ := trodVars_none hV
  obtain ⟨a0, len0, cap0, rfl⟩ := okWide_slice Tryz.underlying22 (hval 0 22 v0 rfl rfl)
  have k0 := h0
  have lt0 : ∀ x ∈ p0, x.block < W.heap.size := by obtain ⟨m, hm⟩ := k0; exact DataW.trod_lt m _ _ _ hm
  obtain ⟨z0, w0⟩ : ∃ zs, IsRow .u8 W a0 len0 cap0 zs := by
    obtain ⟨fuel, hf⟩ := h0
    rcases open_ints Tryz.underlying22 Tryz.underlying5 (by kernel_rfl) hf with ⟨hcs, _⟩ | ⟨x, l, c, zs, hcs, _, hl, hm, hz, _, hcell, hwz⟩
    · simp [Value.cells] at hcs
      obtain ⟨rfl, rfl, rfl⟩ := hcs
      exact ⟨[], .inl ⟨rfl, rfl, rfl, rfl⟩⟩
    · simp [Value.cells] at hcs
      obtain ⟨rfl, rfl, rfl⟩ := hcs
      exact ⟨zs, .inr ⟨_, rfl, hl, hm, by simpa using hz, hcell, hwz⟩⟩
  obtain ⟨a1, len1, cap1, rfl⟩ := okWide_slice Tryz.underlying22 (hval 1 22 v1 rfl rfl)
  have k1 := h1
  have lt1 : ∀ x ∈ p1, x.block < W.heap.size := by obtain ⟨m, hm⟩ := k1; exact DataW.trod_lt m _ _ _ hm
  obtain ⟨z1, w1⟩ : ∃ zs, IsRow .u8 W a1 len1 cap1 zs := by
    obtain ⟨fuel, hf⟩ := h1
    rcases open_ints Tryz.underlying22 Tryz.underlying5 (by kernel_rfl) hf with ⟨hcs, _⟩ | ⟨x, l, c, zs, hcs, _, hl, hm, hz, _, hcell, hwz⟩
    · simp [Value.cells] at hcs
      obtain ⟨rfl, rfl, rfl⟩ := hcs
      exact ⟨[], .inl ⟨rfl, rfl, rfl, rfl⟩⟩
    · simp [Value.cells] at hcs
      obtain ⟨rfl, rfl, rfl⟩ := hcs
      exact ⟨zs, .inr ⟨_, rfl, hl, hm, by simpa using hz, hcell, hwz⟩⟩
  clear hA0 hval0
  refine (walk a0 len0 cap0 z0 a1 len1 cap1 z1 W w0 w1).mono fun e W' ⟨he, bel⟩ => ?_
  subst he
  exact ⟨_, rfl, _, _, _, [], _, [], hW', trodAll_mk1 (shut_bool Tryz.underlying4 _), (trodAll_cons_mk (Below.trod laidOut (by kernel_rfl) (of_decide_eq_true (by kernel_rfl)) k0 bel lt0) (trodAll_cons_mk (Below.trod laidOut (by kernel_rfl) (of_decide_eq_true (by kernel_rfl)) k1 bel lt1) trodAll_mk0)), rfl, bel.frame _, fun h => by cases h⟩

theorem over : Rows.fnSumGetRow.holds Tryz.pinned (OpenSpec.ofChange Rows.fnSumGetSpec) :=
  OpenClaim.holds_of_wide 18 Tryz.f18 rfl rfl rfl rfl rfl rfl rfl ⟨rfl, rfl, rfl, rfl, rfl⟩ rfl rfl rfl rfl rfl (by kernel_rfl) Tryz.func18 (by show joinedFacts Tryz.prog _ _ _ _ = true; unfold joinedFacts; rw [mayE, liftF, makeC]; kernel_rfl)
    (of_decide_eq_true (by kernel_rfl)) (by unfold Func.isWrapper; first | (rw [if_pos (by decide +kernel)]; kernel_rfl) | (rw [if_neg (by decide +kernel)]; exact ⟨rfl, rfl⟩))
    (fun os started H enc _ => lifted os started H enc)

theorem proved : Rows.FnSumGetSaid := over
#print axioms proved
end Go.Proofs.YtnoilafoeaknjaaGreat.fnSumGet
