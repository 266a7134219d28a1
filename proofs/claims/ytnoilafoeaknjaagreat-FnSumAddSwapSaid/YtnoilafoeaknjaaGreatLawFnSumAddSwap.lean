/-
  The statement of the law FnSumAddSwap: at every input the call returns true and leaves what it was given as it was. The frame is the kit's shell; the walk is ours.
-/
import Derived.Test.YtnoilafoeaknjaaGreatZImOf
import Derived.Test.YtnoilafoeaknjaaGreatZSpOf
import Derived.Test.YtnoilafoeaknjaaGreatZDraw
import Derived.Test.YtnoilafoeaknjaaGreatZLk
import Derived.Test.YtnoilafoeaknjaaGreatZImGet
import Derived.Test.YtnoilafoeaknjaaGreatZDrawT
import Derived.Test.YtnoilafoeaknjaaGreatZTell
import Derived.Test.YtnoilafoeaknjaaGreatZCut
import Derived.Deep.RegionWith
import Derived.Test.YtnoilafoeaknjaaGreatRows
import Derived.Test.YtnoilafoeaknjaaGreatMk
import Derived.WalkKit
import Derived.ProofKit
import Derived.OpenShut
import Derived.ShutString
import Derived.ChangeOld
import Derived.Below
namespace Go.Proofs.YtnoilafoeaknjaaGreat.fnSumAddSwap
open Go.ChangeShapes Go.WideShapes Go.ChangeAt Go.RowKit
open Go.ChangeMaps (open_string shut_string)
set_option linter.unusedVariables false

theorem own : ownKnob Tryz.prog.godebug = none := by kernel_rfl
theorem laidOut : laidOutB Tryz.prog = true := by kernel_rfl

/-- WHAT THE WALK IS TOLD OF A SLICE OF INTEGERS THAT CAME IN: it is nil; or it leads to a row of 'cap' cells, the numbers 'zs' (the first 'len' are its elements, the rest its spare room), each fitting its kind. -/
def IsRow (k : IntKind) (w : World) (a : Option Addr) (len cap : Nat) (zs : List Int) : Prop :=
  (a = none ∧ len = 0 ∧ cap = 0 ∧ zs = []) ∨
  ∃ x, a = some x ∧ len ≤ cap ∧ cap ≤ maxLen ∧ zs.length = cap ∧ (∀ i, i < zs.length → w.cell? (x.add i) = some (.int k (zs.getD i 0))) ∧ ∀ n ∈ zs, (Lit.int k n).wf = true

/-! ### STEP 1: THE WALK: the Go text returns true, AND WRITES NOTHING THAT WAS THERE: 'Below w.heap.size w w'' (Derived/Below.lean: '.refl', '.alloc', '.drew', '.setCell' at a new block, '.trans'). Open each 'IsRow' by 'rcases' AHEAD of 'go_enter'; part every test ahead of the walk. -/
set_option maxRecDepth 100000 in
set_option maxHeartbeats 16000000 in
theorem walk (a0 : Option Addr) (len0 cap0 : Nat) (z0 : List Int) (a1 : Option Addr) (len1 cap1 : Nat) (z1 : List Int) (w : World) (w0 : IsRow .u8 w a0 len0 cap0 z0) (w1 : IsRow .u8 w a1 len1 cap1 z1) :
    Calls Tryz.prog 24 #[.slice a0 len0 cap0, .slice a1 len1 cap1] w fun e w' => e = .returned (.bool true) ∧ Below w.heap.size w w' := by
  obtain ⟨hb, hl⟩ := bts_of w a0 len0 cap0 z0 w0
  obtain ⟨hb', hl'⟩ := bts_of w a1 len1 cap1 z1 w1
  rcases hl with hl | hl
  · go_enter Tryz.func24, Tryz.ntmps24
    go_wp2
    go_ret
    exact ⟨rfl, Below.refl _ _⟩
  rcases hl' with hl' | hl'
  · go_enter Tryz.func24, Tryz.ntmps24
    go_wp2
    go_ret
    exact ⟨rfl, Below.refl _ _⟩
  have HB := Lib.hid hb
  have HB' := Lib.hid hb'
  clear hb w0 hb' w1
  have B := Lib.hid (Below.refl w.heap.size w)
  go_enter Tryz.func24, Tryz.ntmps24
  go_wp2_with fail
  refine (drawSAdd_at w _ len0 ⟨_, _, rfl⟩ (bts_below HB.out B.out)).mono ?_
  rintro e w1 ⟨V0, s, t, rfl, ht, ho, hb⟩
  replace ho := ho.rd
  have Tt := Lib.hid ht
  clear ht
  replace B := Lib.hid (B.out.trans (hb.mono B.out.size))
  have Rs := Lib.hid (ho)
  clear hb
  obtain ⟨W1, hW⟩ : ∃ W, W = (w1.alloc (.cells #[.slice V0.xr V0.nr V0.cr, .slice V0.xf V0.nf V0.cf, .slice V0.xt V0.nt V0.ct, .int .i64 s.lo, .int .i64 s.al, .slice V0.xk V0.nk V0.ck, .int .i64 s.ka] 39)) := ⟨_, rfl⟩
  replace B := Lib.hid ((B.out).alloc (Nat.le_trans B.out.size (by simp)) (.cells #[.slice V0.xr V0.nr V0.cr, .slice V0.xf V0.nf V0.cf, .slice V0.xt V0.nt V0.ct, .int .i64 s.lo, .int .i64 s.al, .slice V0.xk V0.nk V0.ck, .int .i64 s.ka] 39))
  rw [← hW] at B
  replace Rs := Lib.hid (Rs.out.below ((Below.refl _ _).alloc (Nat.le_refl _) (.cells #[.slice V0.xr V0.nr V0.cr, .slice V0.xf V0.nf V0.cf, .slice V0.xt V0.nt V0.ct, .int .i64 s.lo, .int .i64 s.al, .slice V0.xk V0.nk V0.ck, .int .i64 s.ka] 39)) (Nat.le_refl _))
  rw [← hW] at Rs
  have XS := Box7.new w1 39 (.slice V0.xr V0.nr V0.cr) (.slice V0.xf V0.nf V0.cf) (.slice V0.xt V0.nt V0.ct) (.int .i64 s.lo) (.int .i64 s.al) (.slice V0.xk V0.nk V0.ck) (.int .i64 s.ka)
  rw [← hW] at XS
  go_wp2_with fail
  rw [← hW]
  clear hW
  clear ho
  go_wp2_with fail
  refine (drawSAdd_at W1 _ len1 ⟨_, _, rfl⟩ (bts_below HB'.out B.out)).mono ?_
  rintro e w2 ⟨V9, s9, u, rfl, ht, ho, hb⟩
  replace ho := ho.rd
  have Tu := Lib.hid ht
  clear ht
  replace B := Lib.hid (B.out.trans (hb.mono B.out.size))
  replace Rs := Lib.hid (Rs.out.below hb (Nat.le_refl _))
  replace XS := XS.later hb
  clear hb
  obtain ⟨W2, hW⟩ : ∃ W, W = (w2.alloc (.cells #[.slice V9.xr V9.nr V9.cr, .slice V9.xf V9.nf V9.cf, .slice V9.xt V9.nt V9.ct, .int .i64 s9.lo, .int .i64 s9.al, .slice V9.xk V9.nk V9.ck, .int .i64 s9.ka] 39)) := ⟨_, rfl⟩
  obtain ⟨axs0, axs1, axs2, axs3, axs4, axs5, axs6⟩ := ((XS.alloc (.cells #[.slice V9.xr V9.nr V9.cr, .slice V9.xf V9.nf V9.cf, .slice V9.xt V9.nt V9.ct, .int .i64 s9.lo, .int .i64 s9.al, .slice V9.xk V9.nk V9.ck, .int .i64 s9.ka] 39))).cells
  replace B := Lib.hid ((B.out).alloc (Nat.le_trans B.out.size (by simp)) (.cells #[.slice V9.xr V9.nr V9.cr, .slice V9.xf V9.nf V9.cf, .slice V9.xt V9.nt V9.ct, .int .i64 s9.lo, .int .i64 s9.al, .slice V9.xk V9.nk V9.ck, .int .i64 s9.ka] 39))
  rw [← hW] at B
  replace Rs := Lib.hid (Rs.out.below ((Below.refl _ _).alloc (Nat.le_refl _) (.cells #[.slice V9.xr V9.nr V9.cr, .slice V9.xf V9.nf V9.cf, .slice V9.xt V9.nt V9.ct, .int .i64 s9.lo, .int .i64 s9.al, .slice V9.xk V9.nk V9.ck, .int .i64 s9.ka] 39)) (Nat.le_refl _))
  rw [← hW] at Rs
  replace XS := XS.alloc (.cells #[.slice V9.xr V9.nr V9.cr, .slice V9.xf V9.nf V9.cf, .slice V9.xt V9.nt V9.ct, .int .i64 s9.lo, .int .i64 s9.al, .slice V9.xk V9.nk V9.ck, .int .i64 s9.ka] 39)
  rw [← hW] at XS
  go_wp2_with fail
  rw [← hW]
  clear hW axs0 axs1 axs2 axs3 axs4 axs5 axs6
  clear ho
  have Ksp := fun (W : World) (h : RdS W V0 s) => spSumAdd_at W V0 s t h
  have Kim := fun (W : World) (h : RdS W V0 s) => imSumAdd_at W V0 s t h
  obtain ⟨r, hr⟩ : ∃ r, r = addS s t := ⟨_, rfl⟩
  obtain ⟨ok, hok⟩ : ∃ o, o = addOkS s t := ⟨_, rfl⟩
  rw [← hr, ← hok] at Ksp Kim
  have Hr := Lib.hid hr
  have SMr := Lib.hid (show Small r by rw [hr]; exact add_small s t)
  have Ook := Lib.hid (fun (q : ok = true) => show addOkS s t = true by rw [← hok]; exact q)
  replace Ksp := Lib.hid Ksp
  replace Kim := Lib.hid Kim
  clear hr hok
  have Kim2 := Lib.hid (fun (W : World) (V : SV) (s : Sm) (t : Int) (h : RdS W V s) => imSumAdd_at W V s t h)
  go_wp2_with fail
  refine (Ksp.out W2 Rs.out).mono ?_
  rintro e w3 ⟨V2, rfl, ho, hb⟩
  replace ho := ho.base (B' := w.heap.size) B.out.size (Nat.le_refl _) (Nat.le_refl _)
  replace B := Lib.hid (B.out.trans (hb.mono B.out.size))
  replace Rs := Lib.hid (Rs.out.below hb (Nat.le_refl _))
  replace XS := XS.later hb
  have Q := Lib.hid (ho)
  clear hb
  obtain ⟨W3, hW⟩ : ∃ W, W = (w3.alloc (.cells #[.slice V2.xr V2.nr V2.cr, .slice V2.xf V2.nf V2.cf, .slice V2.xt V2.nt V2.ct, .int .i64 r.lo, .int .i64 r.al, .slice V2.xk V2.nk V2.ck, .int .i64 r.ka] 39)) := ⟨_, rfl⟩
  obtain ⟨axs0, axs1, axs2, axs3, axs4, axs5, axs6⟩ := ((XS.alloc (.cells #[.slice V2.xr V2.nr V2.cr, .slice V2.xf V2.nf V2.cf, .slice V2.xt V2.nt V2.ct, .int .i64 r.lo, .int .i64 r.al, .slice V2.xk V2.nk V2.ck, .int .i64 r.ka] 39))).cells
  replace B := Lib.hid ((B.out).alloc (Nat.le_trans B.out.size (by simp)) (.cells #[.slice V2.xr V2.nr V2.cr, .slice V2.xf V2.nf V2.cf, .slice V2.xt V2.nt V2.ct, .int .i64 r.lo, .int .i64 r.al, .slice V2.xk V2.nk V2.ck, .int .i64 r.ka] 39))
  rw [← hW] at B
  replace Rs := Lib.hid (Rs.out.below ((Below.refl _ _).alloc (Nat.le_refl _) (.cells #[.slice V2.xr V2.nr V2.cr, .slice V2.xf V2.nf V2.cf, .slice V2.xt V2.nt V2.ct, .int .i64 r.lo, .int .i64 r.al, .slice V2.xk V2.nk V2.ck, .int .i64 r.ka] 39)) (Nat.le_refl _))
  rw [← hW] at Rs
  replace XS := XS.alloc (.cells #[.slice V2.xr V2.nr V2.cr, .slice V2.xf V2.nf V2.cf, .slice V2.xt V2.nt V2.ct, .int .i64 r.lo, .int .i64 r.al, .slice V2.xk V2.nk V2.ck, .int .i64 r.ka] 39)
  rw [← hW] at XS
  replace Q := Lib.hid (Q.out.alloc (.cells #[.slice V2.xr V2.nr V2.cr, .slice V2.xf V2.nf V2.cf, .slice V2.xt V2.nt V2.ct, .int .i64 r.lo, .int .i64 r.al, .slice V2.xk V2.nk V2.ck, .int .i64 r.ka] 39))
  rw [← hW] at Q
  have Y := Box7.new w3 39 (.slice V2.xr V2.nr V2.cr) (.slice V2.xf V2.nf V2.cf) (.slice V2.xt V2.nt V2.ct) (.int .i64 r.lo) (.int .i64 r.al) (.slice V2.xk V2.nk V2.ck) (.int .i64 r.ka)
  rw [← hW] at Y
  go_wp2_with fail
  rw [← hW]
  clear hW axs0 axs1 axs2 axs3 axs4 axs5 axs6
  clear ho
  go_wp2_with fail
  refine (Kim.out W3 Rs.out).mono ?_
  rintro e w4 ⟨V1, rfl, ho, hb⟩
  replace ho := ho.base (B' := w.heap.size) B.out.size (Nat.le_refl _) (Nat.le_refl _)
  replace B := Lib.hid (B.out.trans (hb.mono B.out.size))
  replace Rs := Lib.hid (Rs.out.below hb (Nat.le_refl _))
  replace XS := XS.later hb
  replace Q := Lib.hid (Q.out.below hb)
  replace Y := Y.later hb
  have P := Lib.hid (ho)
  clear hb
  obtain ⟨W4, hW⟩ : ∃ W, W = (w4.alloc (.cells #[.slice V1.xr V1.nr V1.cr, .slice V1.xf V1.nf V1.cf, .slice V1.xt V1.nt V1.ct, .int .i64 r.lo, .int .i64 r.al, .slice V1.xk V1.nk V1.ck, .int .i64 r.ka] 39)) := ⟨_, rfl⟩
  obtain ⟨ay0, ay1, ay2, ay3, ay4, ay5, ay6⟩ := ((Y.alloc (.cells #[.slice V1.xr V1.nr V1.cr, .slice V1.xf V1.nf V1.cf, .slice V1.xt V1.nt V1.ct, .int .i64 r.lo, .int .i64 r.al, .slice V1.xk V1.nk V1.ck, .int .i64 r.ka] 39))).cells
  replace B := Lib.hid ((B.out).alloc (Nat.le_trans B.out.size (by simp)) (.cells #[.slice V1.xr V1.nr V1.cr, .slice V1.xf V1.nf V1.cf, .slice V1.xt V1.nt V1.ct, .int .i64 r.lo, .int .i64 r.al, .slice V1.xk V1.nk V1.ck, .int .i64 r.ka] 39))
  rw [← hW] at B
  replace Rs := Lib.hid (Rs.out.below ((Below.refl _ _).alloc (Nat.le_refl _) (.cells #[.slice V1.xr V1.nr V1.cr, .slice V1.xf V1.nf V1.cf, .slice V1.xt V1.nt V1.ct, .int .i64 r.lo, .int .i64 r.al, .slice V1.xk V1.nk V1.ck, .int .i64 r.ka] 39)) (Nat.le_refl _))
  rw [← hW] at Rs
  replace XS := XS.alloc (.cells #[.slice V1.xr V1.nr V1.cr, .slice V1.xf V1.nf V1.cf, .slice V1.xt V1.nt V1.ct, .int .i64 r.lo, .int .i64 r.al, .slice V1.xk V1.nk V1.ck, .int .i64 r.ka] 39)
  rw [← hW] at XS
  replace Q := Lib.hid (Q.out.alloc (.cells #[.slice V1.xr V1.nr V1.cr, .slice V1.xf V1.nf V1.cf, .slice V1.xt V1.nt V1.ct, .int .i64 r.lo, .int .i64 r.al, .slice V1.xk V1.nk V1.ck, .int .i64 r.ka] 39))
  rw [← hW] at Q
  replace Y := Y.alloc (.cells #[.slice V1.xr V1.nr V1.cr, .slice V1.xf V1.nf V1.cf, .slice V1.xt V1.nt V1.ct, .int .i64 r.lo, .int .i64 r.al, .slice V1.xk V1.nk V1.ck, .int .i64 r.ka] 39)
  rw [← hW] at Y
  replace P := Lib.hid (P.out.alloc (.cells #[.slice V1.xr V1.nr V1.cr, .slice V1.xf V1.nf V1.cf, .slice V1.xt V1.nt V1.ct, .int .i64 r.lo, .int .i64 r.al, .slice V1.xk V1.nk V1.ck, .int .i64 r.ka] 39))
  rw [← hW] at P
  have X := Box7.new w4 39 (.slice V1.xr V1.nr V1.cr) (.slice V1.xf V1.nf V1.cf) (.slice V1.xt V1.nt V1.ct) (.int .i64 r.lo) (.int .i64 r.al) (.slice V1.xk V1.nk V1.ck) (.int .i64 r.ka)
  rw [← hW] at X
  go_wp2_with fail
  rw [← hW]
  clear hW ay0 ay1 ay2 ay3 ay4 ay5 ay6
  clear ho
  clear Ksp Kim
  cases ok with
  | false =>
    refine (lkSum_same W4 V1 V2 r P.out.rd Q.out.rd SMr.out).mono ?_
    rintro e w5 ⟨rfl, hb⟩
    replace B := Lib.hid (B.out.trans (hb.mono B.out.size))
    replace Rs := Lib.hid (Rs.out.below hb (Nat.le_refl _))
    replace XS := XS.later hb
    replace Q := Lib.hid (Q.out.below hb)
    replace Y := Y.later hb
    replace P := Lib.hid (P.out.below hb)
    replace X := X.later hb
    clear hb
    obtain ⟨cx0, cx1, cx2, cx3, cx4, cx5, cx6⟩ := (X).cells
    obtain ⟨cy0, cy1, cy2, cy3, cy4, cy5, cy6⟩ := (Y).cells
    go_wp2_with fail
    refine (lkSum_same w5 V1 V2 r P.out.rd Q.out.rd SMr.out).mono ?_
    rintro e w6 ⟨rfl, hb⟩
    clear cx0 cx1 cx2 cx3 cx4 cx5 cx6 cy0 cy1 cy2 cy3 cy4 cy5 cy6
    replace B := Lib.hid (B.out.trans (hb.mono B.out.size))
    replace Rs := Lib.hid (Rs.out.below hb (Nat.le_refl _))
    replace XS := XS.later hb
    replace Q := Lib.hid (Q.out.below hb)
    replace Y := Y.later hb
    replace P := Lib.hid (P.out.below hb)
    replace X := X.later hb
    clear hb
    go_wp2
    go_ret
    exact ⟨rfl, B.out⟩
  | true =>
    have OK := Lib.hid (Ook.out rfl)
    clear Ook
    refine (lkSum_same W4 V1 V2 r P.out.rd Q.out.rd SMr.out).mono ?_
    rintro e w5 ⟨rfl, hb⟩
    replace B := Lib.hid (B.out.trans (hb.mono B.out.size))
    replace Rs := Lib.hid (Rs.out.below hb (Nat.le_refl _))
    replace XS := XS.later hb
    replace Q := Lib.hid (Q.out.below hb)
    replace Y := Y.later hb
    replace P := Lib.hid (P.out.below hb)
    replace X := X.later hb
    clear hb
    clear Y
    clear Q
    obtain ⟨cx0, cx1, cx2, cx3, cx4, cx5, cx6⟩ := (X).cells
    have J := Lib.hid (fun (q : addOkS r u = true) => show addOkS s u = true ∧ addOkS (addS s u) t = true ∧ (addS r u).rs = (addS (addS s u) t).rs ∧ (addS r u).zs = (addS (addS s u) t).zs ∧ (addS r u).al = (addS (addS s u) t).al by rw [Hr.out]; exact addS_swap OK.out (by rw [← Hr.out]; exact q))
    have Ka := Kim2.out w5 V1 r u P.out.rd
    have SMa := Lib.hid (add_small r u)
    generalize addS r u = a at Ka J SMa
    generalize addOkS r u = oa at Ka J
    go_wp2_with fail
    refine (Ka).mono ?_
    rintro e w6 ⟨V3, rfl, ho, hb⟩
    replace ho := ho.base (B' := w.heap.size) B.out.size (Nat.le_refl _) (Nat.le_refl _)
    clear cx0 cx1 cx2 cx3 cx4 cx5 cx6
    replace B := Lib.hid (B.out.trans (hb.mono B.out.size))
    replace Rs := Lib.hid (Rs.out.below hb (Nat.le_refl _))
    replace XS := XS.later hb
    replace P := Lib.hid (P.out.below hb)
    replace X := X.later hb
    have PA := Lib.hid (ho)
    clear hb
    obtain ⟨W6, hW⟩ : ∃ W, W = (w6.alloc (.cells #[.slice V3.xr V3.nr V3.cr, .slice V3.xf V3.nf V3.cf, .slice V3.xt V3.nt V3.ct, .int .i64 a.lo, .int .i64 a.al, .slice V3.xk V3.nk V3.ck, .int .i64 a.ka] 39)) := ⟨_, rfl⟩
    obtain ⟨axs0, axs1, axs2, axs3, axs4, axs5, axs6⟩ := ((XS.alloc (.cells #[.slice V3.xr V3.nr V3.cr, .slice V3.xf V3.nf V3.cf, .slice V3.xt V3.nt V3.ct, .int .i64 a.lo, .int .i64 a.al, .slice V3.xk V3.nk V3.ck, .int .i64 a.ka] 39))).cells
    replace B := Lib.hid ((B.out).alloc (Nat.le_trans B.out.size (by simp)) (.cells #[.slice V3.xr V3.nr V3.cr, .slice V3.xf V3.nf V3.cf, .slice V3.xt V3.nt V3.ct, .int .i64 a.lo, .int .i64 a.al, .slice V3.xk V3.nk V3.ck, .int .i64 a.ka] 39))
    rw [← hW] at B
    replace Rs := Lib.hid (Rs.out.below ((Below.refl _ _).alloc (Nat.le_refl _) (.cells #[.slice V3.xr V3.nr V3.cr, .slice V3.xf V3.nf V3.cf, .slice V3.xt V3.nt V3.ct, .int .i64 a.lo, .int .i64 a.al, .slice V3.xk V3.nk V3.ck, .int .i64 a.ka] 39)) (Nat.le_refl _))
    rw [← hW] at Rs
    replace XS := XS.alloc (.cells #[.slice V3.xr V3.nr V3.cr, .slice V3.xf V3.nf V3.cf, .slice V3.xt V3.nt V3.ct, .int .i64 a.lo, .int .i64 a.al, .slice V3.xk V3.nk V3.ck, .int .i64 a.ka] 39)
    rw [← hW] at XS
    replace P := Lib.hid (P.out.alloc (.cells #[.slice V3.xr V3.nr V3.cr, .slice V3.xf V3.nf V3.cf, .slice V3.xt V3.nt V3.ct, .int .i64 a.lo, .int .i64 a.al, .slice V3.xk V3.nk V3.ck, .int .i64 a.ka] 39))
    rw [← hW] at P
    replace X := X.alloc (.cells #[.slice V3.xr V3.nr V3.cr, .slice V3.xf V3.nf V3.cf, .slice V3.xt V3.nt V3.ct, .int .i64 a.lo, .int .i64 a.al, .slice V3.xk V3.nk V3.ck, .int .i64 a.ka] 39)
    rw [← hW] at X
    replace PA := Lib.hid (PA.out.alloc (.cells #[.slice V3.xr V3.nr V3.cr, .slice V3.xf V3.nf V3.cf, .slice V3.xt V3.nt V3.ct, .int .i64 a.lo, .int .i64 a.al, .slice V3.xk V3.nk V3.ck, .int .i64 a.ka] 39))
    rw [← hW] at PA
    have XA := Box7.new w6 39 (.slice V3.xr V3.nr V3.cr) (.slice V3.xf V3.nf V3.cf) (.slice V3.xt V3.nt V3.ct) (.int .i64 a.lo) (.int .i64 a.al) (.slice V3.xk V3.nk V3.ck) (.int .i64 a.ka)
    rw [← hW] at XA
    go_wp2_with fail
    rw [← hW]
    clear hW axs0 axs1 axs2 axs3 axs4 axs5 axs6
    clear ho
    clear Ka
    generalize hb' : addS s u = b at J
    have Kb := Lib.hid (fun (W : World) (h : RdS W V0 s) => show Calls Tryz.prog 52 #[.agg #[.slice V0.xr V0.nr V0.cr, .slice V0.xf V0.nf V0.cf, .slice V0.xt V0.nt V0.ct, .int .i64 s.lo, .int .i64 s.al, .slice V0.xk V0.nk V0.ck, .int .i64 s.ka], .int .i64 u] W fun e w' => ∃ U, e = .returned (.tuple #[.agg #[.slice U.xr U.nr U.cr, .slice U.xf U.nf U.cf, .slice U.xt U.nt U.ct, .int .i64 b.lo, .int .i64 b.al, .slice U.xk U.nk U.ck, .int .i64 b.ka], .bool (addOkS s u)]) ∧ OwnS w' W.heap.size w'.heap.size U b ∧ Below W.heap.size W w' by rw [← hb']; exact Kim2.out W V0 s u h)
    clear hb'
    have Kc := Lib.hid (fun (W : World) (V : SV) (h : RdS W V b) => Kim2.out W V b t h)
    generalize addS b t = c at Kc J
    generalize addOkS s u = ob at Kb J
    generalize addOkS b t = oc at Kc J
    cases oa with
    | false =>
      clear J
      go_wp2_with fail
      refine (Kb.out W6 Rs.out).mono ?_
      rintro e w7 ⟨V4, rfl, ho, hb⟩
      replace ho := ho.base (B' := w.heap.size) B.out.size (Nat.le_refl _) (Nat.le_refl _)
      replace B := Lib.hid (B.out.trans (hb.mono B.out.size))
      replace Rs := Lib.hid (Rs.out.below hb (Nat.le_refl _))
      replace XS := XS.later hb
      replace P := Lib.hid (P.out.below hb)
      replace X := X.later hb
      replace PA := Lib.hid (PA.out.below hb)
      replace XA := XA.later hb
      have PB := Lib.hid (ho)
      clear hb
      obtain ⟨W7, hW⟩ : ∃ W, W = (w7.alloc (.cells #[.slice V4.xr V4.nr V4.cr, .slice V4.xf V4.nf V4.cf, .slice V4.xt V4.nt V4.ct, .int .i64 b.lo, .int .i64 b.al, .slice V4.xk V4.nk V4.ck, .int .i64 b.ka] 39)) := ⟨_, rfl⟩
      replace B := Lib.hid ((B.out).alloc (Nat.le_trans B.out.size (by simp)) (.cells #[.slice V4.xr V4.nr V4.cr, .slice V4.xf V4.nf V4.cf, .slice V4.xt V4.nt V4.ct, .int .i64 b.lo, .int .i64 b.al, .slice V4.xk V4.nk V4.ck, .int .i64 b.ka] 39))
      rw [← hW] at B
      replace Rs := Lib.hid (Rs.out.below ((Below.refl _ _).alloc (Nat.le_refl _) (.cells #[.slice V4.xr V4.nr V4.cr, .slice V4.xf V4.nf V4.cf, .slice V4.xt V4.nt V4.ct, .int .i64 b.lo, .int .i64 b.al, .slice V4.xk V4.nk V4.ck, .int .i64 b.ka] 39)) (Nat.le_refl _))
      rw [← hW] at Rs
      replace XS := XS.alloc (.cells #[.slice V4.xr V4.nr V4.cr, .slice V4.xf V4.nf V4.cf, .slice V4.xt V4.nt V4.ct, .int .i64 b.lo, .int .i64 b.al, .slice V4.xk V4.nk V4.ck, .int .i64 b.ka] 39)
      rw [← hW] at XS
      replace P := Lib.hid (P.out.alloc (.cells #[.slice V4.xr V4.nr V4.cr, .slice V4.xf V4.nf V4.cf, .slice V4.xt V4.nt V4.ct, .int .i64 b.lo, .int .i64 b.al, .slice V4.xk V4.nk V4.ck, .int .i64 b.ka] 39))
      rw [← hW] at P
      replace X := X.alloc (.cells #[.slice V4.xr V4.nr V4.cr, .slice V4.xf V4.nf V4.cf, .slice V4.xt V4.nt V4.ct, .int .i64 b.lo, .int .i64 b.al, .slice V4.xk V4.nk V4.ck, .int .i64 b.ka] 39)
      rw [← hW] at X
      replace PA := Lib.hid (PA.out.alloc (.cells #[.slice V4.xr V4.nr V4.cr, .slice V4.xf V4.nf V4.cf, .slice V4.xt V4.nt V4.ct, .int .i64 b.lo, .int .i64 b.al, .slice V4.xk V4.nk V4.ck, .int .i64 b.ka] 39))
      rw [← hW] at PA
      replace XA := XA.alloc (.cells #[.slice V4.xr V4.nr V4.cr, .slice V4.xf V4.nf V4.cf, .slice V4.xt V4.nt V4.ct, .int .i64 b.lo, .int .i64 b.al, .slice V4.xk V4.nk V4.ck, .int .i64 b.ka] 39)
      rw [← hW] at XA
      replace PB := Lib.hid (PB.out.alloc (.cells #[.slice V4.xr V4.nr V4.cr, .slice V4.xf V4.nf V4.cf, .slice V4.xt V4.nt V4.ct, .int .i64 b.lo, .int .i64 b.al, .slice V4.xk V4.nk V4.ck, .int .i64 b.ka] 39))
      rw [← hW] at PB
      have XB := Box7.new w7 39 (.slice V4.xr V4.nr V4.cr) (.slice V4.xf V4.nf V4.cf) (.slice V4.xt V4.nt V4.ct) (.int .i64 b.lo) (.int .i64 b.al) (.slice V4.xk V4.nk V4.ck) (.int .i64 b.ka)
      rw [← hW] at XB
      go_wp2_with fail
      rw [← hW]
      clear hW
      clear ho
      go_wp2_with fail
      refine (Kc.out W7 V4 PB.out.rd).mono ?_
      rintro e w8 ⟨V5, rfl, ho, hb⟩
      replace ho := ho.base (B' := w.heap.size) B.out.size (Nat.le_refl _) (Nat.le_refl _)
      replace B := Lib.hid (B.out.trans (hb.mono B.out.size))
      replace Rs := Lib.hid (Rs.out.below hb (Nat.le_refl _))
      replace XS := XS.later hb
      replace P := Lib.hid (P.out.below hb)
      replace X := X.later hb
      replace PA := Lib.hid (PA.out.below hb)
      replace XA := XA.later hb
      replace PB := Lib.hid (PB.out.below hb)
      replace XB := XB.later hb
      have PC := Lib.hid (ho)
      clear hb
      obtain ⟨W8, hW⟩ : ∃ W, W = (w8.alloc (.cells #[.slice V5.xr V5.nr V5.cr, .slice V5.xf V5.nf V5.cf, .slice V5.xt V5.nt V5.ct, .int .i64 c.lo, .int .i64 c.al, .slice V5.xk V5.nk V5.ck, .int .i64 c.ka] 39)) := ⟨_, rfl⟩
      obtain ⟨axa0, axa1, axa2, axa3, axa4, axa5, axa6⟩ := ((XA.alloc (.cells #[.slice V5.xr V5.nr V5.cr, .slice V5.xf V5.nf V5.cf, .slice V5.xt V5.nt V5.ct, .int .i64 c.lo, .int .i64 c.al, .slice V5.xk V5.nk V5.ck, .int .i64 c.ka] 39))).cells
      replace B := Lib.hid ((B.out).alloc (Nat.le_trans B.out.size (by simp)) (.cells #[.slice V5.xr V5.nr V5.cr, .slice V5.xf V5.nf V5.cf, .slice V5.xt V5.nt V5.ct, .int .i64 c.lo, .int .i64 c.al, .slice V5.xk V5.nk V5.ck, .int .i64 c.ka] 39))
      rw [← hW] at B
      replace Rs := Lib.hid (Rs.out.below ((Below.refl _ _).alloc (Nat.le_refl _) (.cells #[.slice V5.xr V5.nr V5.cr, .slice V5.xf V5.nf V5.cf, .slice V5.xt V5.nt V5.ct, .int .i64 c.lo, .int .i64 c.al, .slice V5.xk V5.nk V5.ck, .int .i64 c.ka] 39)) (Nat.le_refl _))
      rw [← hW] at Rs
      replace XS := XS.alloc (.cells #[.slice V5.xr V5.nr V5.cr, .slice V5.xf V5.nf V5.cf, .slice V5.xt V5.nt V5.ct, .int .i64 c.lo, .int .i64 c.al, .slice V5.xk V5.nk V5.ck, .int .i64 c.ka] 39)
      rw [← hW] at XS
      replace P := Lib.hid (P.out.alloc (.cells #[.slice V5.xr V5.nr V5.cr, .slice V5.xf V5.nf V5.cf, .slice V5.xt V5.nt V5.ct, .int .i64 c.lo, .int .i64 c.al, .slice V5.xk V5.nk V5.ck, .int .i64 c.ka] 39))
      rw [← hW] at P
      replace X := X.alloc (.cells #[.slice V5.xr V5.nr V5.cr, .slice V5.xf V5.nf V5.cf, .slice V5.xt V5.nt V5.ct, .int .i64 c.lo, .int .i64 c.al, .slice V5.xk V5.nk V5.ck, .int .i64 c.ka] 39)
      rw [← hW] at X
      replace PA := Lib.hid (PA.out.alloc (.cells #[.slice V5.xr V5.nr V5.cr, .slice V5.xf V5.nf V5.cf, .slice V5.xt V5.nt V5.ct, .int .i64 c.lo, .int .i64 c.al, .slice V5.xk V5.nk V5.ck, .int .i64 c.ka] 39))
      rw [← hW] at PA
      replace XA := XA.alloc (.cells #[.slice V5.xr V5.nr V5.cr, .slice V5.xf V5.nf V5.cf, .slice V5.xt V5.nt V5.ct, .int .i64 c.lo, .int .i64 c.al, .slice V5.xk V5.nk V5.ck, .int .i64 c.ka] 39)
      rw [← hW] at XA
      replace PB := Lib.hid (PB.out.alloc (.cells #[.slice V5.xr V5.nr V5.cr, .slice V5.xf V5.nf V5.cf, .slice V5.xt V5.nt V5.ct, .int .i64 c.lo, .int .i64 c.al, .slice V5.xk V5.nk V5.ck, .int .i64 c.ka] 39))
      rw [← hW] at PB
      replace XB := XB.alloc (.cells #[.slice V5.xr V5.nr V5.cr, .slice V5.xf V5.nf V5.cf, .slice V5.xt V5.nt V5.ct, .int .i64 c.lo, .int .i64 c.al, .slice V5.xk V5.nk V5.ck, .int .i64 c.ka] 39)
      rw [← hW] at XB
      replace PC := Lib.hid (PC.out.alloc (.cells #[.slice V5.xr V5.nr V5.cr, .slice V5.xf V5.nf V5.cf, .slice V5.xt V5.nt V5.ct, .int .i64 c.lo, .int .i64 c.al, .slice V5.xk V5.nk V5.ck, .int .i64 c.ka] 39))
      rw [← hW] at PC
      have XC := Box7.new w8 39 (.slice V5.xr V5.nr V5.cr) (.slice V5.xf V5.nf V5.cf) (.slice V5.xt V5.nt V5.ct) (.int .i64 c.lo) (.int .i64 c.al) (.slice V5.xk V5.nk V5.ck) (.int .i64 c.ka)
      rw [← hW] at XC
      clear ho
      go_wp2
      go_ret
      rw [← hW]
      exact ⟨by first | rfl | simp, B.out⟩
    | true =>
      obtain ⟨rfl, rfl, j1, j2, j3⟩ := J.out rfl
      have J1 := Lib.hid j1
      have J2 := Lib.hid j2
      have j3' : (a.al == c.al) = true := by simpa using j3
      clear J j1 j2 j3
      go_wp2_with fail
      refine (Kb.out W6 Rs.out).mono ?_
      rintro e w7 ⟨V4, rfl, ho, hb⟩
      replace ho := ho.base (B' := w.heap.size) B.out.size (Nat.le_refl _) (Nat.le_refl _)
      replace B := Lib.hid (B.out.trans (hb.mono B.out.size))
      replace Rs := Lib.hid (Rs.out.below hb (Nat.le_refl _))
      replace XS := XS.later hb
      replace P := Lib.hid (P.out.below hb)
      replace X := X.later hb
      replace PA := Lib.hid (PA.out.below hb)
      replace XA := XA.later hb
      have PB := Lib.hid (ho)
      clear hb
      obtain ⟨W7, hW⟩ : ∃ W, W = (w7.alloc (.cells #[.slice V4.xr V4.nr V4.cr, .slice V4.xf V4.nf V4.cf, .slice V4.xt V4.nt V4.ct, .int .i64 b.lo, .int .i64 b.al, .slice V4.xk V4.nk V4.ck, .int .i64 b.ka] 39)) := ⟨_, rfl⟩
      replace B := Lib.hid ((B.out).alloc (Nat.le_trans B.out.size (by simp)) (.cells #[.slice V4.xr V4.nr V4.cr, .slice V4.xf V4.nf V4.cf, .slice V4.xt V4.nt V4.ct, .int .i64 b.lo, .int .i64 b.al, .slice V4.xk V4.nk V4.ck, .int .i64 b.ka] 39))
      rw [← hW] at B
      replace Rs := Lib.hid (Rs.out.below ((Below.refl _ _).alloc (Nat.le_refl _) (.cells #[.slice V4.xr V4.nr V4.cr, .slice V4.xf V4.nf V4.cf, .slice V4.xt V4.nt V4.ct, .int .i64 b.lo, .int .i64 b.al, .slice V4.xk V4.nk V4.ck, .int .i64 b.ka] 39)) (Nat.le_refl _))
      rw [← hW] at Rs
      replace XS := XS.alloc (.cells #[.slice V4.xr V4.nr V4.cr, .slice V4.xf V4.nf V4.cf, .slice V4.xt V4.nt V4.ct, .int .i64 b.lo, .int .i64 b.al, .slice V4.xk V4.nk V4.ck, .int .i64 b.ka] 39)
      rw [← hW] at XS
      replace P := Lib.hid (P.out.alloc (.cells #[.slice V4.xr V4.nr V4.cr, .slice V4.xf V4.nf V4.cf, .slice V4.xt V4.nt V4.ct, .int .i64 b.lo, .int .i64 b.al, .slice V4.xk V4.nk V4.ck, .int .i64 b.ka] 39))
      rw [← hW] at P
      replace X := X.alloc (.cells #[.slice V4.xr V4.nr V4.cr, .slice V4.xf V4.nf V4.cf, .slice V4.xt V4.nt V4.ct, .int .i64 b.lo, .int .i64 b.al, .slice V4.xk V4.nk V4.ck, .int .i64 b.ka] 39)
      rw [← hW] at X
      replace PA := Lib.hid (PA.out.alloc (.cells #[.slice V4.xr V4.nr V4.cr, .slice V4.xf V4.nf V4.cf, .slice V4.xt V4.nt V4.ct, .int .i64 b.lo, .int .i64 b.al, .slice V4.xk V4.nk V4.ck, .int .i64 b.ka] 39))
      rw [← hW] at PA
      replace XA := XA.alloc (.cells #[.slice V4.xr V4.nr V4.cr, .slice V4.xf V4.nf V4.cf, .slice V4.xt V4.nt V4.ct, .int .i64 b.lo, .int .i64 b.al, .slice V4.xk V4.nk V4.ck, .int .i64 b.ka] 39)
      rw [← hW] at XA
      replace PB := Lib.hid (PB.out.alloc (.cells #[.slice V4.xr V4.nr V4.cr, .slice V4.xf V4.nf V4.cf, .slice V4.xt V4.nt V4.ct, .int .i64 b.lo, .int .i64 b.al, .slice V4.xk V4.nk V4.ck, .int .i64 b.ka] 39))
      rw [← hW] at PB
      have XB := Box7.new w7 39 (.slice V4.xr V4.nr V4.cr) (.slice V4.xf V4.nf V4.cf) (.slice V4.xt V4.nt V4.ct) (.int .i64 b.lo) (.int .i64 b.al) (.slice V4.xk V4.nk V4.ck) (.int .i64 b.ka)
      rw [← hW] at XB
      go_wp2_with fail
      rw [← hW]
      clear hW
      clear ho
      go_wp2_with fail
      refine (Kc.out W7 V4 PB.out.rd).mono ?_
      rintro e w8 ⟨V5, rfl, ho, hb⟩
      replace ho := ho.base (B' := w.heap.size) B.out.size (Nat.le_refl _) (Nat.le_refl _)
      replace B := Lib.hid (B.out.trans (hb.mono B.out.size))
      replace Rs := Lib.hid (Rs.out.below hb (Nat.le_refl _))
      replace XS := XS.later hb
      replace P := Lib.hid (P.out.below hb)
      replace X := X.later hb
      replace PA := Lib.hid (PA.out.below hb)
      replace XA := XA.later hb
      replace PB := Lib.hid (PB.out.below hb)
      replace XB := XB.later hb
      have PC := Lib.hid (ho)
      clear hb
      obtain ⟨W8, hW⟩ : ∃ W, W = (w8.alloc (.cells #[.slice V5.xr V5.nr V5.cr, .slice V5.xf V5.nf V5.cf, .slice V5.xt V5.nt V5.ct, .int .i64 c.lo, .int .i64 c.al, .slice V5.xk V5.nk V5.ck, .int .i64 c.ka] 39)) := ⟨_, rfl⟩
      obtain ⟨axa0, axa1, axa2, axa3, axa4, axa5, axa6⟩ := ((XA.alloc (.cells #[.slice V5.xr V5.nr V5.cr, .slice V5.xf V5.nf V5.cf, .slice V5.xt V5.nt V5.ct, .int .i64 c.lo, .int .i64 c.al, .slice V5.xk V5.nk V5.ck, .int .i64 c.ka] 39))).cells
      replace B := Lib.hid ((B.out).alloc (Nat.le_trans B.out.size (by simp)) (.cells #[.slice V5.xr V5.nr V5.cr, .slice V5.xf V5.nf V5.cf, .slice V5.xt V5.nt V5.ct, .int .i64 c.lo, .int .i64 c.al, .slice V5.xk V5.nk V5.ck, .int .i64 c.ka] 39))
      rw [← hW] at B
      replace Rs := Lib.hid (Rs.out.below ((Below.refl _ _).alloc (Nat.le_refl _) (.cells #[.slice V5.xr V5.nr V5.cr, .slice V5.xf V5.nf V5.cf, .slice V5.xt V5.nt V5.ct, .int .i64 c.lo, .int .i64 c.al, .slice V5.xk V5.nk V5.ck, .int .i64 c.ka] 39)) (Nat.le_refl _))
      rw [← hW] at Rs
      replace XS := XS.alloc (.cells #[.slice V5.xr V5.nr V5.cr, .slice V5.xf V5.nf V5.cf, .slice V5.xt V5.nt V5.ct, .int .i64 c.lo, .int .i64 c.al, .slice V5.xk V5.nk V5.ck, .int .i64 c.ka] 39)
      rw [← hW] at XS
      replace P := Lib.hid (P.out.alloc (.cells #[.slice V5.xr V5.nr V5.cr, .slice V5.xf V5.nf V5.cf, .slice V5.xt V5.nt V5.ct, .int .i64 c.lo, .int .i64 c.al, .slice V5.xk V5.nk V5.ck, .int .i64 c.ka] 39))
      rw [← hW] at P
      replace X := X.alloc (.cells #[.slice V5.xr V5.nr V5.cr, .slice V5.xf V5.nf V5.cf, .slice V5.xt V5.nt V5.ct, .int .i64 c.lo, .int .i64 c.al, .slice V5.xk V5.nk V5.ck, .int .i64 c.ka] 39)
      rw [← hW] at X
      replace PA := Lib.hid (PA.out.alloc (.cells #[.slice V5.xr V5.nr V5.cr, .slice V5.xf V5.nf V5.cf, .slice V5.xt V5.nt V5.ct, .int .i64 c.lo, .int .i64 c.al, .slice V5.xk V5.nk V5.ck, .int .i64 c.ka] 39))
      rw [← hW] at PA
      replace XA := XA.alloc (.cells #[.slice V5.xr V5.nr V5.cr, .slice V5.xf V5.nf V5.cf, .slice V5.xt V5.nt V5.ct, .int .i64 c.lo, .int .i64 c.al, .slice V5.xk V5.nk V5.ck, .int .i64 c.ka] 39)
      rw [← hW] at XA
      replace PB := Lib.hid (PB.out.alloc (.cells #[.slice V5.xr V5.nr V5.cr, .slice V5.xf V5.nf V5.cf, .slice V5.xt V5.nt V5.ct, .int .i64 c.lo, .int .i64 c.al, .slice V5.xk V5.nk V5.ck, .int .i64 c.ka] 39))
      rw [← hW] at PB
      replace XB := XB.alloc (.cells #[.slice V5.xr V5.nr V5.cr, .slice V5.xf V5.nf V5.cf, .slice V5.xt V5.nt V5.ct, .int .i64 c.lo, .int .i64 c.al, .slice V5.xk V5.nk V5.ck, .int .i64 c.ka] 39)
      rw [← hW] at XB
      replace PC := Lib.hid (PC.out.alloc (.cells #[.slice V5.xr V5.nr V5.cr, .slice V5.xf V5.nf V5.cf, .slice V5.xt V5.nt V5.ct, .int .i64 c.lo, .int .i64 c.al, .slice V5.xk V5.nk V5.ck, .int .i64 c.ka] 39))
      rw [← hW] at PC
      have XC := Box7.new w8 39 (.slice V5.xr V5.nr V5.cr) (.slice V5.xf V5.nf V5.cf) (.slice V5.xt V5.nt V5.ct) (.int .i64 c.lo) (.int .i64 c.al) (.slice V5.xk V5.nk V5.ck) (.int .i64 c.ka)
      rw [← hW] at XC
      go_wp2_with fail
      rw [← hW]
      clear hW axa0 axa1 axa2 axa3 axa4 axa5 axa6
      clear ho
      refine (lkRough_yes W8 _ _ a.rs PA.out.rd.r (by rw [J1.out]; exact PC.out.rd.r) SMa.out.r).mono ?_
      rintro e w9 ⟨rfl, hb⟩
      replace B := Lib.hid (B.out.trans (hb.mono B.out.size))
      replace Rs := Lib.hid (Rs.out.below hb (Nat.le_refl _))
      replace XS := XS.later hb
      replace P := Lib.hid (P.out.below hb)
      replace X := X.later hb
      replace PA := Lib.hid (PA.out.below hb)
      replace XA := XA.later hb
      replace PB := Lib.hid (PB.out.below hb)
      replace XB := XB.later hb
      replace PC := Lib.hid (PC.out.below hb)
      replace XC := XC.later hb
      clear hb
      obtain ⟨cxa0, cxa1, cxa2, cxa3, cxa4, cxa5, cxa6⟩ := (XA).cells
      obtain ⟨cxc0, cxc1, cxc2, cxc3, cxc4, cxc5, cxc6⟩ := (XC).cells
      go_wp2_with fail
      refine (lkInts_yes w9 _ _ a.zs PA.out.rd.f (by rw [J2.out]; exact PC.out.rd.f) SMa.out.f).mono ?_
      rintro e w10 ⟨rfl, hb⟩
      clear cxa0 cxa1 cxa2 cxa3 cxa4 cxa5 cxa6 cxc0 cxc1 cxc2 cxc3 cxc4 cxc5 cxc6
      replace B := Lib.hid (B.out.trans (hb.mono B.out.size))
      replace Rs := Lib.hid (Rs.out.below hb (Nat.le_refl _))
      replace XS := XS.later hb
      replace P := Lib.hid (P.out.below hb)
      replace X := X.later hb
      replace PA := Lib.hid (PA.out.below hb)
      replace XA := XA.later hb
      replace PB := Lib.hid (PB.out.below hb)
      replace XB := XB.later hb
      replace PC := Lib.hid (PC.out.below hb)
      replace XC := XC.later hb
      clear hb
      obtain ⟨cxa0, cxa1, cxa2, cxa3, cxa4, cxa5, cxa6⟩ := (XA).cells
      obtain ⟨cxc0, cxc1, cxc2, cxc3, cxc4, cxc5, cxc6⟩ := (XC).cells
      go_wp2
      go_ret
      exact ⟨by first | rfl | (simp [j3']; done) | (simp; done), B.out⟩

/-! ### THE ROW's STEP: WRITTEN OUT: LEAVE IT -/
set_option maxRecDepth 100000 in
theorem lifted (os : Os) (started : os.Started) (H : Type) (enc : TypeId × Value → H) :
    ReturnsInHanded {} Tryz.checked os 24 .any (Rows.fnSumAddSwapSpec.pre6 enc Tryz.prog Tryz.f24 Rows.fnSumAddSwapRow.domain false) (Rows.fnSumAddSwapSpec.post enc Tryz.prog Tryz.f24 false true false false) := by
  refine returnsInHanded_of_change (C := Tryz.checked) own started (by kernel_rfl) Tryz.func24
    (ChangeSpec.witness6 (enc := enc) (C := Tryz.checked) false ⟨#[], #[.slice none 0 0, .slice none 0 0], []⟩ 8 (by kernel_rfl) (by kernel_rfl) (by kernel_rfl) (by kernel_rfl)) ?_
  intro W base args ds gs before hval0 hW hcnd _
  have hval : ∀ (j : Nat) t v, Tryz.f24.params[j]? = some t → args[j]? = some v → Value.okWide Tryz.prog W .any base t v := hval0
  have hW' := hW
  obtain ⟨p, q, hA0, hV, rfl, hfz, hnd⟩ := hW
  have hA : DataW.TrodAll enc Tryz.prog W 0 (fun _ => true) true Tryz.f24.params.toList args.toList ds p := hA0
  rw [Tryz.params24] at hA hval
  obtain ⟨v0, vs0, d0, ds0, p0, q0, hargs, rfl, rfl, h0, r0⟩ := trodAll_cons hA
  obtain ⟨v1, vs1, d1, ds1, p1, q1, rfl, rfl, rfl, h1, r1⟩ := trodAll_cons r0
  obtain ⟨rfl, rfl, rfl⟩ := trodAll_nil r1
  obtain rfl : args = #[v0, v1] := by cases args; simp_all
  obtain ⟨rfl, rfl⟩ := trodVars_none hV
  obtain ⟨a0, len0, cap0, rfl⟩ := okWide_slice Tryz.underlying22 (hval 0 22 v0 rfl rfl)
  have k0 := h0
  have lt0 : ∀ x ∈ p0, x.block < W.heap.size := by obtain ⟨m, hm⟩ := k0; exact DataW.trod_lt m _ _ _ hm
  obtain ⟨z0, w0⟩ : ∃ zs, IsRow .u8 W a0 len0 cap0 zs := by
    obtain ⟨fuel, hf⟩ := h0
    rcases open_ints Tryz.underlying22 Tryz.underlying5 (by kernel_rfl) hf with ⟨hcs, _⟩ | ⟨x, l, c, zs, hcs, _, hl, hm, hz, _, hcell, hwz⟩
    · simp [Value.cells] at hcs
      obtain ⟨rfl, rfl, rfl⟩ := hcs
      exact ⟨[], .inl ⟨rfl, rfl, rfl, rfl⟩⟩
    · simp [Value.cells] at hcs
      obtain ⟨rfl, rfl, rfl⟩ := hcs
      exact ⟨zs, .inr ⟨_, rfl, hl, hm, by simpa using hz, hcell, hwz⟩⟩
  obtain ⟨a1, len1, cap1, rfl⟩ := okWide_slice Tryz.underlying22 (hval 1 22 v1 rfl rfl)
  have k1 := h1
  have lt1 : ∀ x ∈ p1, x.block < W.heap.size := by obtain ⟨m, hm⟩ := k1; exact DataW.trod_lt m _ _ _ hm
  obtain ⟨z1, w1⟩ : ∃ zs, IsRow .u8 W a1 len1 cap1 zs := by
    obtain ⟨fuel, hf⟩ := h1
    rcases open_ints Tryz.underlying22 Tryz.underlying5 (by kernel_rfl) hf with ⟨hcs, _⟩ | ⟨x, l, c, zs, hcs, _, hl, hm, hz, _, hcell, hwz⟩
    · simp [Value.cells] at hcs
      obtain ⟨rfl, rfl, rfl⟩ := hcs
      exact ⟨[], .inl ⟨rfl, rfl, rfl, rfl⟩⟩
    · simp [Value.cells] at hcs
      obtain ⟨rfl, rfl, rfl⟩ := hcs
      exact ⟨zs, .inr ⟨_, rfl, hl, hm, by simpa using hz, hcell, hwz⟩⟩
  clear hA0 hval0
  refine (walk a0 len0 cap0 z0 a1 len1 cap1 z1 W w0 w1).mono fun e W' ⟨he, bel⟩ => ?_
  subst he
  exact ⟨_, rfl, _, _, _, [], _, [], hW', trodAll_mk1 (shut_bool Tryz.underlying4 _), (trodAll_cons_mk (Below.trod laidOut (by kernel_rfl) (of_decide_eq_true (by kernel_rfl)) k0 bel lt0) (trodAll_cons_mk (Below.trod laidOut (by kernel_rfl) (of_decide_eq_true (by kernel_rfl)) k1 bel lt1) trodAll_mk0)), rfl, bel.frame _, fun h => by cases h⟩

theorem over : Rows.fnSumAddSwapRow.holds Tryz.pinned (OpenSpec.ofChange Rows.fnSumAddSwapSpec) :=
  OpenClaim.holds_of_wide 24 Tryz.f24 rfl rfl rfl rfl rfl rfl rfl ⟨rfl, rfl, rfl, rfl, rfl⟩ rfl rfl rfl rfl rfl (by kernel_rfl) Tryz.func24 (by show joinedFacts Tryz.prog _ _ _ _ = true; unfold joinedFacts; rw [mayE, liftF, makeC]; kernel_rfl)
    (of_decide_eq_true (by kernel_rfl)) (by unfold Func.isWrapper; first | (rw [if_pos (by decide +kernel)]; kernel_rfl) | (rw [if_neg (by decide +kernel)]; exact ⟨rfl, rfl⟩))
    (fun os started H enc _ => lifted os started H enc)

theorem proved : Rows.FnSumAddSwapSaid := over
#print axioms proved
end Go.Proofs.YtnoilafoeaknjaaGreat.fnSumAddSwap
