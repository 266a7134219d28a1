/-
  The statement of the law FnSumAdd: at every input the call returns true and leaves what it was given as it was. The frame is the kit's shell; the walk is ours.
-/
import Derived.Deep.RegionHeld3
import Derived.Test.YtnoilafoeaknjaaGreatZImOf
import Derived.Test.YtnoilafoeaknjaaGreatZSpOf
import Derived.Test.YtnoilafoeaknjaaGreatZDraw
import Derived.Test.YtnoilafoeaknjaaGreatZLk
import Derived.Test.YtnoilafoeaknjaaGreatZImGet
import Derived.Test.YtnoilafoeaknjaaGreatZDrawT
import Derived.Test.YtnoilafoeaknjaaGreatZTell
import Derived.Deep.RegionWith
import Derived.Test.YtnoilafoeaknjaaGreatRows
import Derived.Test.YtnoilafoeaknjaaGreatMk
import Derived.WalkKit
import Derived.ProofKit
import Derived.OpenShut
import Derived.ShutString
import Derived.ChangeOld
import Derived.Below
namespace Go.Proofs.YtnoilafoeaknjaaGreat.fnSumAdd
open Go.ChangeShapes Go.WideShapes Go.ChangeAt Go.RowKit
open Go.ChangeMaps (open_string shut_string)
set_option linter.unusedVariables false

theorem own : ownKnob Tryz.prog.godebug = none := by kernel_rfl
theorem laidOut : laidOutB Tryz.prog = true := by kernel_rfl

/-- WHAT THE WALK IS TOLD OF A SLICE OF INTEGERS THAT CAME IN: it is nil; or it leads to a row of 'cap' cells, the numbers 'zs' (the first 'len' are its elements, the rest its spare room), each fitting its kind. -/
def IsRow (k : IntKind) (w : World) (a : Option Addr) (len cap : Nat) (zs : List Int) : Prop :=
  (a = none ∧ len = 0 ∧ cap = 0 ∧ zs = []) ∨
  ∃ x, a = some x ∧ len ≤ cap ∧ cap ≤ maxLen ∧ zs.length = cap ∧ (∀ i, i < zs.length → w.cell? (x.add i) = some (.int k (zs.getD i 0))) ∧ ∀ n ∈ zs, (Lit.int k n).wf = true

/-! ### STEP 1: THE WALK: the Go text returns true, AND WRITES NOTHING THAT WAS THERE: 'Below w.heap.size w w'' (Derived/Below.lean: '.refl', '.alloc', '.drew', '.setCell' at a new block, '.trans'). Open each 'IsRow' by 'rcases' AHEAD of 'go_enter'; part every test ahead of the walk. -/
set_option maxRecDepth 100000 in
set_option maxHeartbeats 16000000 in
theorem walk (a0 : Option Addr) (len0 cap0 : Nat) (z0 : List Int) (w : World) (w0 : IsRow .u8 w a0 len0 cap0 z0) :
    Calls Tryz.prog 14 #[.slice a0 len0 cap0] w fun e w' => e = .returned (.bool true) ∧ Below w.heap.size w w' := by
  obtain ⟨hb, hl⟩ := bts_of w a0 len0 cap0 z0 w0
  rcases hl with hl | hl
  · go_enter Tryz.func14, Tryz.ntmps14
    go_wp2
    go_ret
    exact ⟨rfl, Below.refl _ _⟩
  have HB := Lib.hid hb
  clear hb w0
  have B := Lib.hid (Below.refl w.heap.size w)
  go_enter Tryz.func14, Tryz.ntmps14
  go_wp2_with fail
  refine (drawSAdd_at w _ len0 ⟨_, _, rfl⟩ (bts_below HB.out B.out)).mono ?_
  rintro e w1 ⟨V0, s, t, rfl, ht, ho, hb⟩
  replace ho := ho.rd
  have Tt := Lib.hid ht
  clear ht
  replace B := Lib.hid (B.out.trans (hb.mono B.out.size))
  have Rs := Lib.hid (ho)
  clear hb
  obtain ⟨W1, hW⟩ : ∃ W, W = (w1.alloc (.cells #[.slice V0.xr V0.nr V0.cr, .slice V0.xf V0.nf V0.cf, .slice V0.xt V0.nt V0.ct, .int .i64 s.lo, .int .i64 s.al, .slice V0.xk V0.nk V0.ck, .int .i64 s.ka] 39)) := ⟨_, rfl⟩
  replace B := Lib.hid ((B.out).alloc (Nat.le_trans B.out.size (by simp)) (.cells #[.slice V0.xr V0.nr V0.cr, .slice V0.xf V0.nf V0.cf, .slice V0.xt V0.nt V0.ct, .int .i64 s.lo, .int .i64 s.al, .slice V0.xk V0.nk V0.ck, .int .i64 s.ka] 39))
  rw [← hW] at B
  replace Rs := Lib.hid (Rs.out.below ((Below.refl _ _).alloc (Nat.le_refl _) (.cells #[.slice V0.xr V0.nr V0.cr, .slice V0.xf V0.nf V0.cf, .slice V0.xt V0.nt V0.ct, .int .i64 s.lo, .int .i64 s.al, .slice V0.xk V0.nk V0.ck, .int .i64 s.ka] 39)) (Nat.le_refl _))
  rw [← hW] at Rs
  have XS := Box7.new w1 39 (.slice V0.xr V0.nr V0.cr) (.slice V0.xf V0.nf V0.cf) (.slice V0.xt V0.nt V0.ct) (.int .i64 s.lo) (.int .i64 s.al) (.slice V0.xk V0.nk V0.ck) (.int .i64 s.ka)
  rw [← hW] at XS
  go_wp2_with fail
  rw [← hW]
  clear hW
  clear ho
  have Ksp := fun (W : World) (h : RdS W V0 s) => spSumAdd_at W V0 s t h
  have Kim := fun (W : World) (h : RdS W V0 s) => imSumAdd_at W V0 s t h
  obtain ⟨r, hr⟩ : ∃ r, r = addS s t := ⟨_, rfl⟩
  obtain ⟨ok, hok⟩ : ∃ o, o = addOkS s t := ⟨_, rfl⟩
  rw [← hr, ← hok] at Ksp Kim
  have Hr := Lib.hid hr
  have SMr := Lib.hid (show Small r by rw [hr]; exact add_small s t)
  have Ook := Lib.hid (fun (q : ok = true) => show addOkS s t = true by rw [← hok]; exact q)
  replace Ksp := Lib.hid Ksp
  replace Kim := Lib.hid Kim
  clear hr hok
  go_wp2_with fail
  refine (Ksp.out W1 Rs.out).mono ?_
  rintro e w2 ⟨V2, rfl, ho, hb⟩
  replace ho := ho.base (B' := w.heap.size) B.out.size (Nat.le_refl _) (Nat.le_refl _)
  replace B := Lib.hid (B.out.trans (hb.mono B.out.size))
  replace Rs := Lib.hid (Rs.out.below hb (Nat.le_refl _))
  replace XS := XS.later hb
  have Q := Lib.hid (ho)
  clear hb
  obtain ⟨W2, hW⟩ : ∃ W, W = (w2.alloc (.cells #[.slice V2.xr V2.nr V2.cr, .slice V2.xf V2.nf V2.cf, .slice V2.xt V2.nt V2.ct, .int .i64 r.lo, .int .i64 r.al, .slice V2.xk V2.nk V2.ck, .int .i64 r.ka] 39)) := ⟨_, rfl⟩
  obtain ⟨axs0, axs1, axs2, axs3, axs4, axs5, axs6⟩ := ((XS.alloc (.cells #[.slice V2.xr V2.nr V2.cr, .slice V2.xf V2.nf V2.cf, .slice V2.xt V2.nt V2.ct, .int .i64 r.lo, .int .i64 r.al, .slice V2.xk V2.nk V2.ck, .int .i64 r.ka] 39))).cells
  replace B := Lib.hid ((B.out).alloc (Nat.le_trans B.out.size (by simp)) (.cells #[.slice V2.xr V2.nr V2.cr, .slice V2.xf V2.nf V2.cf, .slice V2.xt V2.nt V2.ct, .int .i64 r.lo, .int .i64 r.al, .slice V2.xk V2.nk V2.ck, .int .i64 r.ka] 39))
  rw [← hW] at B
  replace Rs := Lib.hid (Rs.out.below ((Below.refl _ _).alloc (Nat.le_refl _) (.cells #[.slice V2.xr V2.nr V2.cr, .slice V2.xf V2.nf V2.cf, .slice V2.xt V2.nt V2.ct, .int .i64 r.lo, .int .i64 r.al, .slice V2.xk V2.nk V2.ck, .int .i64 r.ka] 39)) (Nat.le_refl _))
  rw [← hW] at Rs
  replace XS := XS.alloc (.cells #[.slice V2.xr V2.nr V2.cr, .slice V2.xf V2.nf V2.cf, .slice V2.xt V2.nt V2.ct, .int .i64 r.lo, .int .i64 r.al, .slice V2.xk V2.nk V2.ck, .int .i64 r.ka] 39)
  rw [← hW] at XS
  replace Q := Lib.hid (Q.out.alloc (.cells #[.slice V2.xr V2.nr V2.cr, .slice V2.xf V2.nf V2.cf, .slice V2.xt V2.nt V2.ct, .int .i64 r.lo, .int .i64 r.al, .slice V2.xk V2.nk V2.ck, .int .i64 r.ka] 39))
  rw [← hW] at Q
  have Y := Box7.new w2 39 (.slice V2.xr V2.nr V2.cr) (.slice V2.xf V2.nf V2.cf) (.slice V2.xt V2.nt V2.ct) (.int .i64 r.lo) (.int .i64 r.al) (.slice V2.xk V2.nk V2.ck) (.int .i64 r.ka)
  rw [← hW] at Y
  go_wp2_with fail
  rw [← hW]
  clear hW axs0 axs1 axs2 axs3 axs4 axs5 axs6
  clear ho
  go_wp2_with fail
  refine (Kim.out W2 Rs.out).mono ?_
  rintro e w3 ⟨V1, rfl, ho, hb⟩
  replace ho := ho.base (B' := w.heap.size) B.out.size (Nat.le_refl _) (Nat.le_refl _)
  replace B := Lib.hid (B.out.trans (hb.mono B.out.size))
  replace Rs := Lib.hid (Rs.out.below hb (Nat.le_refl _))
  replace XS := XS.later hb
  replace Q := Lib.hid (Q.out.below hb)
  replace Y := Y.later hb
  have P := Lib.hid (ho)
  clear hb
  obtain ⟨W3, hW⟩ : ∃ W, W = (w3.alloc (.cells #[.slice V1.xr V1.nr V1.cr, .slice V1.xf V1.nf V1.cf, .slice V1.xt V1.nt V1.ct, .int .i64 r.lo, .int .i64 r.al, .slice V1.xk V1.nk V1.ck, .int .i64 r.ka] 39)) := ⟨_, rfl⟩
  obtain ⟨ay0, ay1, ay2, ay3, ay4, ay5, ay6⟩ := ((Y.alloc (.cells #[.slice V1.xr V1.nr V1.cr, .slice V1.xf V1.nf V1.cf, .slice V1.xt V1.nt V1.ct, .int .i64 r.lo, .int .i64 r.al, .slice V1.xk V1.nk V1.ck, .int .i64 r.ka] 39))).cells
  replace B := Lib.hid ((B.out).alloc (Nat.le_trans B.out.size (by simp)) (.cells #[.slice V1.xr V1.nr V1.cr, .slice V1.xf V1.nf V1.cf, .slice V1.xt V1.nt V1.ct, .int .i64 r.lo, .int .i64 r.al, .slice V1.xk V1.nk V1.ck, .int .i64 r.ka] 39))
  rw [← hW] at B
  replace Rs := Lib.hid (Rs.out.below ((Below.refl _ _).alloc (Nat.le_refl _) (.cells #[.slice V1.xr V1.nr V1.cr, .slice V1.xf V1.nf V1.cf, .slice V1.xt V1.nt V1.ct, .int .i64 r.lo, .int .i64 r.al, .slice V1.xk V1.nk V1.ck, .int .i64 r.ka] 39)) (Nat.le_refl _))
  rw [← hW] at Rs
  replace XS := XS.alloc (.cells #[.slice V1.xr V1.nr V1.cr, .slice V1.xf V1.nf V1.cf, .slice V1.xt V1.nt V1.ct, .int .i64 r.lo, .int .i64 r.al, .slice V1.xk V1.nk V1.ck, .int .i64 r.ka] 39)
  rw [← hW] at XS
  replace Q := Lib.hid (Q.out.alloc (.cells #[.slice V1.xr V1.nr V1.cr, .slice V1.xf V1.nf V1.cf, .slice V1.xt V1.nt V1.ct, .int .i64 r.lo, .int .i64 r.al, .slice V1.xk V1.nk V1.ck, .int .i64 r.ka] 39))
  rw [← hW] at Q
  replace Y := Y.alloc (.cells #[.slice V1.xr V1.nr V1.cr, .slice V1.xf V1.nf V1.cf, .slice V1.xt V1.nt V1.ct, .int .i64 r.lo, .int .i64 r.al, .slice V1.xk V1.nk V1.ck, .int .i64 r.ka] 39)
  rw [← hW] at Y
  replace P := Lib.hid (P.out.alloc (.cells #[.slice V1.xr V1.nr V1.cr, .slice V1.xf V1.nf V1.cf, .slice V1.xt V1.nt V1.ct, .int .i64 r.lo, .int .i64 r.al, .slice V1.xk V1.nk V1.ck, .int .i64 r.ka] 39))
  rw [← hW] at P
  have X := Box7.new w3 39 (.slice V1.xr V1.nr V1.cr) (.slice V1.xf V1.nf V1.cf) (.slice V1.xt V1.nt V1.ct) (.int .i64 r.lo) (.int .i64 r.al) (.slice V1.xk V1.nk V1.ck) (.int .i64 r.ka)
  rw [← hW] at X
  go_wp2_with fail
  rw [← hW]
  clear hW ay0 ay1 ay2 ay3 ay4 ay5 ay6
  clear ho
  clear Ksp Kim
  cases ok with
  | false =>
    refine (lkSum_same W3 V1 V2 r P.out.rd Q.out.rd SMr.out).mono ?_
    rintro e w4 ⟨rfl, hb⟩
    replace B := Lib.hid (B.out.trans (hb.mono B.out.size))
    replace Rs := Lib.hid (Rs.out.below hb (Nat.le_refl _))
    replace XS := XS.later hb
    replace Q := Lib.hid (Q.out.below hb)
    replace Y := Y.later hb
    replace P := Lib.hid (P.out.below hb)
    replace X := X.later hb
    clear hb
    obtain ⟨cx0, cx1, cx2, cx3, cx4, cx5, cx6⟩ := (X).cells
    obtain ⟨cy0, cy1, cy2, cy3, cy4, cy5, cy6⟩ := (Y).cells
    go_wp2_with fail
    refine (lkSum_same w4 V1 V2 r P.out.rd Q.out.rd SMr.out).mono ?_
    rintro e w5 ⟨rfl, hb⟩
    clear cx0 cx1 cx2 cx3 cx4 cx5 cx6 cy0 cy1 cy2 cy3 cy4 cy5 cy6
    replace B := Lib.hid (B.out.trans (hb.mono B.out.size))
    replace Rs := Lib.hid (Rs.out.below hb (Nat.le_refl _))
    replace XS := XS.later hb
    replace Q := Lib.hid (Q.out.below hb)
    replace Y := Y.later hb
    replace P := Lib.hid (P.out.below hb)
    replace X := X.later hb
    clear hb
    go_wp2
    go_ret
    exact ⟨rfl, B.out⟩
  | true =>
    have OK := Lib.hid (Ook.out rfl)
    clear Ook
    have AA := addAll OK.out
    have a0 := AA.ok.al0
    have ar := AA.room
    have AO := addS_ok OK.out
    rw [← Hr.out] at AO
    have ws : IntKind.i64.wrap (s.al + 1) = s.al + 1 := IntWalk.i64_in _ (by omega)
    have er : r = addS0 s t := by rw [Hr.out]; exact addS_yes OK.out
    have KR := Lib.hid (fun (W : World) (h : Rws W (.slice V0.xr V0.nr V0.cr) s.rs) => show Calls Tryz.prog 53 #[.agg #[.slice V0.xr V0.nr V0.cr], .int .i64 t, .int .i64 1] W fun e w' => ∃ x c, e = .returned (.tuple #[.agg #[.slice x r.rs.length c], .bool true]) ∧ OwnRR w' W.heap.size w'.heap.size (.slice x r.rs.length c) r.rs ∧ Below W.heap.size W w' by have k := imAddRR W _ s.rs t 1 h; rw [show addA s.rs t 1 = r.rs by unfold addA; rw [AA.r, er]; rfl, AA.r] at k; exact k)
    have KF := Lib.hid (fun (W : World) (h : Ints W (.slice V0.xf V0.nf V0.cf) s.zs) => show Calls Tryz.prog 54 #[.agg #[.slice V0.xf V0.nf V0.cf], .int .i64 t] W fun e w' => ∃ v, e = .returned (.tuple #[.agg #[v], .bool true]) ∧ OwnI w' W.heap.size v r.zs ∧ Below W.heap.size W w' by have k := imFewAdd_at W _ s.zs t h; rw [show addF s.zs t = r.zs by rw [er]; rfl, AA.f] at k; exact k)
    have KT := Lib.hid (fun (W : World) (h : T.Prs W (.slice V0.xt V0.nt V0.ct) s.ps) => show Calls Tryz.prog 55 #[.agg #[.slice V0.xt V0.nt V0.ct, .int .i64 s.lo, .int .i64 s.al], .int .i64 t] W fun e w' => ∃ v, e = .returned (.tuple #[.agg #[v, .int .i64 r.lo, .int .i64 r.al], .bool true]) ∧ T.OwnP w' W.heap.size v r.ps ∧ Below W.heap.size W w' by have k := T.imTopAdd_at W _ s.ps s.lo s.al t h; rw [show T.addT s.ps s.lo s.al t = (r.ps, r.lo, r.al) by rw [er]; rfl, AA.t] at k; exact k)
    have KK := Lib.hid (fun (W : World) (h : K.Prs W (.slice V0.xk V0.nk V0.ck) s.ks) => show Calls Tryz.prog 56 #[.agg #[.slice V0.xk V0.nk V0.ck, .int .i64 s.ka], .int .i64 t] W fun e w' => ∃ v, e = .returned (.tuple #[.agg #[v, .int .i64 r.ka], .bool true]) ∧ K.OwnP w' W.heap.size v r.ks ∧ Below W.heap.size W w' by have k := K.imRankAdd_at W _ s.ks s.ka t h; rw [show K.addK s.ks s.ka t = (r.ks, r.ka) by rw [er]; rfl, AA.k] at k; exact k)
    have KO := Lib.hid (fun (W : World) (h : RdS W V1 r) => show Calls Tryz.prog 57 #[.agg #[.slice V1.xr V1.nr V1.cr, .slice V1.xf V1.nf V1.cf, .slice V1.xt V1.nt V1.ct, .int .i64 r.lo, .int .i64 r.al, .slice V1.xk V1.nk V1.ck, .int .i64 r.ka]] W fun e w' => e = .returned (.bool true) ∧ Below W.heap.size W w' by have k := imSumOk_at W V1 r h; rw [(okS_iff _).2 AO.1] at k; exact k)
    have KX := Lib.hid (fun (W : World) (h : RdS W V1 r) => show Calls Tryz.prog 58 #[.agg #[.slice V1.xr V1.nr V1.cr, .slice V1.xf V1.nf V1.cf, .slice V1.xt V1.nt V1.ct, .int .i64 r.lo, .int .i64 r.al, .slice V1.xk V1.nk V1.ck, .int .i64 r.ka]] W fun e w' => e = .returned (.int .i64 (s.al + 1)) ∧ Below W.heap.size W w' by have k := imSumAll_at W V1 r h; rw [show allS r = s.al + 1 by unfold allS; rw [(okS_iff _).2 AO.1, if_pos rfl]; exact AO.2] at k; exact k)
    have KS := Lib.hid (fun (W : World) (h : RdS W V0 s) => show Calls Tryz.prog 58 #[.agg #[.slice V0.xr V0.nr V0.cr, .slice V0.xf V0.nf V0.cf, .slice V0.xt V0.nt V0.ct, .int .i64 s.lo, .int .i64 s.al, .slice V0.xk V0.nk V0.ck, .int .i64 s.ka]] W fun e w' => e = .returned (.int .i64 s.al) ∧ Below W.heap.size W w' by have k := imSumAll_at W V0 s h; rw [show allS s = s.al by unfold allS; rw [(okS_iff _).2 AA.ok, if_pos rfl]] at k; exact k)
    clear AA AO er a0 ar
    refine (lkSum_same W3 V1 V2 r P.out.rd Q.out.rd SMr.out).mono ?_
    rintro e w4 ⟨rfl, hb⟩
    replace B := Lib.hid (B.out.trans (hb.mono B.out.size))
    replace Rs := Lib.hid (Rs.out.below hb (Nat.le_refl _))
    replace XS := XS.later hb
    replace Q := Lib.hid (Q.out.below hb)
    replace Y := Y.later hb
    replace P := Lib.hid (P.out.below hb)
    replace X := X.later hb
    clear hb
    obtain ⟨cxs0, cxs1, cxs2, cxs3, cxs4, cxs5, cxs6⟩ := (XS).cells
    clear Y
    clear Q
    go_wp2_with fail
    refine (KR.out w4 Rs.out.r).mono ?_
    rintro e w5 ⟨xa, ca, rfl, ho, hb⟩
    obtain ⟨na, hn⟩ : ∃ n, n = r.rs.length := ⟨_, rfl⟩
    rw [← hn] at ho ⊢
    clear hn
    clear cxs0 cxs1 cxs2 cxs3 cxs4 cxs5 cxs6
    replace B := Lib.hid (B.out.trans (hb.mono B.out.size))
    replace Rs := Lib.hid (Rs.out.below hb (Nat.le_refl _))
    replace XS := XS.later hb
    replace P := Lib.hid (P.out.below hb)
    replace X := X.later hb
    have OA := Lib.hid (ho)
    clear hb
    obtain ⟨W5, hW⟩ : ∃ W, W = (w5.alloc (.cells #[.slice xa na ca] 27)) := ⟨_, rfl⟩
    obtain ⟨axs0, axs1, axs2, axs3, axs4, axs5, axs6⟩ := ((XS.alloc (.cells #[.slice xa na ca] 27))).cells
    replace B := Lib.hid ((B.out).alloc (Nat.le_trans B.out.size (by simp)) (.cells #[.slice xa na ca] 27))
    rw [← hW] at B
    replace Rs := Lib.hid (Rs.out.below ((Below.refl _ _).alloc (Nat.le_refl _) (.cells #[.slice xa na ca] 27)) (Nat.le_refl _))
    rw [← hW] at Rs
    replace XS := XS.alloc (.cells #[.slice xa na ca] 27)
    rw [← hW] at XS
    replace P := Lib.hid (P.out.alloc (.cells #[.slice xa na ca] 27))
    rw [← hW] at P
    replace X := X.alloc (.cells #[.slice xa na ca] 27)
    rw [← hW] at X
    replace OA := Lib.hid (OA.out.alloc (.cells #[.slice xa na ca] 27))
    rw [← hW] at OA
    have BA := Go.Boxed.new w5 27 (.slice xa na ca)
    rw [← hW] at BA
    go_wp2_with fail
    rw [← hW]
    clear hW axs0 axs1 axs2 axs3 axs4 axs5 axs6
    clear ho
    go_wp2_with fail
    refine (KF.out W5 Rs.out.f).mono ?_
    rintro e w6 ⟨v, rfl, ho, hb⟩
    obtain ⟨xb, cb, rfl⟩ := ho.form'
    obtain ⟨nb, hn⟩ : ∃ n, n = r.zs.length := ⟨_, rfl⟩
    rw [← hn] at ho ⊢
    clear hn
    replace B := Lib.hid (B.out.trans (hb.mono B.out.size))
    replace Rs := Lib.hid (Rs.out.below hb (Nat.le_refl _))
    replace XS := XS.later hb
    replace P := Lib.hid (P.out.below hb)
    replace X := X.later hb
    replace OA := Lib.hid (OA.out.below hb)
    replace BA := boxed_below BA hb
    have OB := Lib.hid (ho)
    clear hb
    obtain ⟨W6, hW⟩ : ∃ W, W = (w6.alloc (.cells #[.slice xb nb cb] 31)) := ⟨_, rfl⟩
    obtain ⟨axs0, axs1, axs2, axs3, axs4, axs5, axs6⟩ := ((XS.alloc (.cells #[.slice xb nb cb] 31))).cells
    replace B := Lib.hid ((B.out).alloc (Nat.le_trans B.out.size (by simp)) (.cells #[.slice xb nb cb] 31))
    rw [← hW] at B
    replace Rs := Lib.hid (Rs.out.below ((Below.refl _ _).alloc (Nat.le_refl _) (.cells #[.slice xb nb cb] 31)) (Nat.le_refl _))
    rw [← hW] at Rs
    replace XS := XS.alloc (.cells #[.slice xb nb cb] 31)
    rw [← hW] at XS
    replace P := Lib.hid (P.out.alloc (.cells #[.slice xb nb cb] 31))
    rw [← hW] at P
    replace X := X.alloc (.cells #[.slice xb nb cb] 31)
    rw [← hW] at X
    replace OA := Lib.hid (OA.out.alloc (.cells #[.slice xb nb cb] 31))
    rw [← hW] at OA
    replace BA := BA.alloc (.cells #[.slice xb nb cb] 31)
    rw [← hW] at BA
    replace OB := Lib.hid (OB.out.alloc (.cells #[.slice xb nb cb] 31))
    rw [← hW] at OB
    have BB := Go.Boxed.new w6 31 (.slice xb nb cb)
    rw [← hW] at BB
    go_wp2_with fail
    rw [← hW]
    clear hW axs0 axs1 axs2 axs3 axs4 axs5 axs6
    clear ho
    go_wp2_with fail
    refine (KT.out W6 Rs.out.t).mono ?_
    rintro e w7 ⟨v, rfl, ho, hb⟩
    obtain ⟨xc, cc, rfl⟩ := ho.form'
    obtain ⟨nc, hn⟩ : ∃ n, n = r.ps.length := ⟨_, rfl⟩
    rw [← hn] at ho ⊢
    clear hn
    replace B := Lib.hid (B.out.trans (hb.mono B.out.size))
    replace Rs := Lib.hid (Rs.out.below hb (Nat.le_refl _))
    replace XS := XS.later hb
    replace P := Lib.hid (P.out.below hb)
    replace X := X.later hb
    replace OA := Lib.hid (OA.out.below hb)
    replace BA := boxed_below BA hb
    replace OB := Lib.hid (OB.out.below hb)
    replace BB := boxed_below BB hb
    have OC := Lib.hid (ho)
    clear hb
    obtain ⟨W7, hW⟩ : ∃ W, W = (w7.alloc (.cells #[.slice xc nc cc, .int .i64 r.lo, .int .i64 r.al] 34)) := ⟨_, rfl⟩
    obtain ⟨axs0, axs1, axs2, axs3, axs4, axs5, axs6⟩ := ((XS.alloc (.cells #[.slice xc nc cc, .int .i64 r.lo, .int .i64 r.al] 34))).cells
    replace B := Lib.hid ((B.out).alloc (Nat.le_trans B.out.size (by simp)) (.cells #[.slice xc nc cc, .int .i64 r.lo, .int .i64 r.al] 34))
    rw [← hW] at B
    replace Rs := Lib.hid (Rs.out.below ((Below.refl _ _).alloc (Nat.le_refl _) (.cells #[.slice xc nc cc, .int .i64 r.lo, .int .i64 r.al] 34)) (Nat.le_refl _))
    rw [← hW] at Rs
    replace XS := XS.alloc (.cells #[.slice xc nc cc, .int .i64 r.lo, .int .i64 r.al] 34)
    rw [← hW] at XS
    replace P := Lib.hid (P.out.alloc (.cells #[.slice xc nc cc, .int .i64 r.lo, .int .i64 r.al] 34))
    rw [← hW] at P
    replace X := X.alloc (.cells #[.slice xc nc cc, .int .i64 r.lo, .int .i64 r.al] 34)
    rw [← hW] at X
    replace OA := Lib.hid (OA.out.alloc (.cells #[.slice xc nc cc, .int .i64 r.lo, .int .i64 r.al] 34))
    rw [← hW] at OA
    replace BA := BA.alloc (.cells #[.slice xc nc cc, .int .i64 r.lo, .int .i64 r.al] 34)
    rw [← hW] at BA
    replace OB := Lib.hid (OB.out.alloc (.cells #[.slice xc nc cc, .int .i64 r.lo, .int .i64 r.al] 34))
    rw [← hW] at OB
    replace BB := BB.alloc (.cells #[.slice xc nc cc, .int .i64 r.lo, .int .i64 r.al] 34)
    rw [← hW] at BB
    replace OC := Lib.hid (OC.out.alloc (.cells #[.slice xc nc cc, .int .i64 r.lo, .int .i64 r.al] 34))
    rw [← hW] at OC
    have BC := T.Box3.new w7 34 (.slice xc nc cc) (.int .i64 r.lo) (.int .i64 r.al)
    rw [← hW] at BC
    go_wp2_with fail
    rw [← hW]
    clear hW axs0 axs1 axs2 axs3 axs4 axs5 axs6
    clear ho
    go_wp2_with fail
    refine (KK.out W7 Rs.out.k).mono ?_
    rintro e w8 ⟨v, rfl, ho, hb⟩
    obtain ⟨xd, cd, rfl⟩ := ho.form'
    obtain ⟨nd, hn⟩ : ∃ n, n = r.ks.length := ⟨_, rfl⟩
    rw [← hn] at ho ⊢
    clear hn
    replace B := Lib.hid (B.out.trans (hb.mono B.out.size))
    replace Rs := Lib.hid (Rs.out.below hb (Nat.le_refl _))
    replace XS := XS.later hb
    replace P := Lib.hid (P.out.below hb)
    replace X := X.later hb
    replace OA := Lib.hid (OA.out.below hb)
    replace BA := boxed_below BA hb
    replace OB := Lib.hid (OB.out.below hb)
    replace BB := boxed_below BB hb
    replace OC := Lib.hid (OC.out.below hb)
    replace BC := BC.later hb
    have OD := Lib.hid (ho)
    clear hb
    obtain ⟨W8, hW⟩ : ∃ W, W = (w8.alloc (.cells #[.slice xd nd cd, .int .i64 r.ka] 37)) := ⟨_, rfl⟩
    obtain ⟨axs0, axs1, axs2, axs3, axs4, axs5, axs6⟩ := ((XS.alloc (.cells #[.slice xd nd cd, .int .i64 r.ka] 37))).cells
    replace B := Lib.hid ((B.out).alloc (Nat.le_trans B.out.size (by simp)) (.cells #[.slice xd nd cd, .int .i64 r.ka] 37))
    rw [← hW] at B
    replace Rs := Lib.hid (Rs.out.below ((Below.refl _ _).alloc (Nat.le_refl _) (.cells #[.slice xd nd cd, .int .i64 r.ka] 37)) (Nat.le_refl _))
    rw [← hW] at Rs
    replace XS := XS.alloc (.cells #[.slice xd nd cd, .int .i64 r.ka] 37)
    rw [← hW] at XS
    replace P := Lib.hid (P.out.alloc (.cells #[.slice xd nd cd, .int .i64 r.ka] 37))
    rw [← hW] at P
    replace X := X.alloc (.cells #[.slice xd nd cd, .int .i64 r.ka] 37)
    rw [← hW] at X
    replace OA := Lib.hid (OA.out.alloc (.cells #[.slice xd nd cd, .int .i64 r.ka] 37))
    rw [← hW] at OA
    replace BA := BA.alloc (.cells #[.slice xd nd cd, .int .i64 r.ka] 37)
    rw [← hW] at BA
    replace OB := Lib.hid (OB.out.alloc (.cells #[.slice xd nd cd, .int .i64 r.ka] 37))
    rw [← hW] at OB
    replace BB := BB.alloc (.cells #[.slice xd nd cd, .int .i64 r.ka] 37)
    rw [← hW] at BB
    replace OC := Lib.hid (OC.out.alloc (.cells #[.slice xd nd cd, .int .i64 r.ka] 37))
    rw [← hW] at OC
    replace BC := BC.alloc (.cells #[.slice xd nd cd, .int .i64 r.ka] 37)
    rw [← hW] at BC
    replace OD := Lib.hid (OD.out.alloc (.cells #[.slice xd nd cd, .int .i64 r.ka] 37))
    rw [← hW] at OD
    have BD := K.Box2.new w8 37 (.slice xd nd cd) (.int .i64 r.ka)
    rw [← hW] at BD
    clear ho
    go_wp2
    rw [← hW]
    clear hW
    obtain ⟨VV, hVV⟩ : ∃ V : SV, V = ⟨xa, na, ca, xb, nb, cb, xc, nc, cc, xd, nd, cd⟩ := ⟨_, rfl⟩
    have RV := Lib.hid (show RdS W8 ⟨xa, na, ca, xb, nb, cb, xc, nc, cc, xd, nd, cd⟩ r from ⟨OA.out.rd, OB.out.rd, OC.out.rd, OD.out.rd⟩)
    clear OA OB OC OD hVV VV
    have D0 := Lib.hid (Below.drew (Below.refl W8.heap.size W8))
    have HS : Hid (∀ w', Below W8.heap.size W8 w' → (w'.cell? ⟨w3.heap.size, 0, none⟩ = some (.slice V1.xr V1.nr V1.cr) ∧ w'.cell? ⟨w3.heap.size, 1, none⟩ = some (.slice V1.xf V1.nf V1.cf) ∧ w'.cell? ⟨w3.heap.size, 2, none⟩ = some (.slice V1.xt V1.nt V1.ct) ∧ w'.cell? ⟨w3.heap.size, 3, none⟩ = some (.int .i64 r.lo) ∧ w'.cell? ⟨w3.heap.size, 4, none⟩ = some (.int .i64 r.al) ∧ w'.cell? ⟨w3.heap.size, 5, none⟩ = some (.slice V1.xk V1.nk V1.ck) ∧ w'.cell? ⟨w3.heap.size, 6, none⟩ = some (.int .i64 r.ka)) ∧ (w'.cell? ⟨w1.heap.size, 0, none⟩ = some (.slice V0.xr V0.nr V0.cr) ∧ w'.cell? ⟨w1.heap.size, 1, none⟩ = some (.slice V0.xf V0.nf V0.cf) ∧ w'.cell? ⟨w1.heap.size, 2, none⟩ = some (.slice V0.xt V0.nt V0.ct) ∧ w'.cell? ⟨w1.heap.size, 3, none⟩ = some (.int .i64 s.lo) ∧ w'.cell? ⟨w1.heap.size, 4, none⟩ = some (.int .i64 s.al) ∧ w'.cell? ⟨w1.heap.size, 5, none⟩ = some (.slice V0.xk V0.nk V0.ck) ∧ w'.cell? ⟨w1.heap.size, 6, none⟩ = some (.int .i64 s.ka)) ∧ (w'.cell? ⟨w5.heap.size, 0, none⟩ = some (.slice xa na ca)) ∧ (w'.cell? ⟨w6.heap.size, 0, none⟩ = some (.slice xb nb cb)) ∧ (w'.cell? ⟨w7.heap.size, 0, none⟩ = some (.slice xc nc cc) ∧ w'.cell? ⟨w7.heap.size, 1, none⟩ = some (.int .i64 r.lo) ∧ w'.cell? ⟨w7.heap.size, 2, none⟩ = some (.int .i64 r.al)) ∧ (w'.cell? ⟨w8.heap.size, 0, none⟩ = some (.slice xd nd cd) ∧ w'.cell? ⟨w8.heap.size, 1, none⟩ = some (.int .i64 r.ka))) := fun w' h => ⟨(X.later h).cells, (XS.later h).cells, (boxed_below BA h).cell, (boxed_below BB h).cell, ⟨(BC.later h).cell0, (BC.later h).cell1, (BC.later h).cell2⟩, ⟨(BD.later h).cell0, (BD.later h).cell1⟩⟩
    clear X XS BA BB BC BD
    go_region_held3 (fun w' => (w'.cell? ⟨w3.heap.size, 0, none⟩ = some (.slice V1.xr V1.nr V1.cr) ∧ w'.cell? ⟨w3.heap.size, 1, none⟩ = some (.slice V1.xf V1.nf V1.cf) ∧ w'.cell? ⟨w3.heap.size, 2, none⟩ = some (.slice V1.xt V1.nt V1.ct) ∧ w'.cell? ⟨w3.heap.size, 3, none⟩ = some (.int .i64 r.lo) ∧ w'.cell? ⟨w3.heap.size, 4, none⟩ = some (.int .i64 r.al) ∧ w'.cell? ⟨w3.heap.size, 5, none⟩ = some (.slice V1.xk V1.nk V1.ck) ∧ w'.cell? ⟨w3.heap.size, 6, none⟩ = some (.int .i64 r.ka)) ∧ (w'.cell? ⟨w1.heap.size, 0, none⟩ = some (.slice V0.xr V0.nr V0.cr) ∧ w'.cell? ⟨w1.heap.size, 1, none⟩ = some (.slice V0.xf V0.nf V0.cf) ∧ w'.cell? ⟨w1.heap.size, 2, none⟩ = some (.slice V0.xt V0.nt V0.ct) ∧ w'.cell? ⟨w1.heap.size, 3, none⟩ = some (.int .i64 s.lo) ∧ w'.cell? ⟨w1.heap.size, 4, none⟩ = some (.int .i64 s.al) ∧ w'.cell? ⟨w1.heap.size, 5, none⟩ = some (.slice V0.xk V0.nk V0.ck) ∧ w'.cell? ⟨w1.heap.size, 6, none⟩ = some (.int .i64 s.ka)) ∧ (w'.cell? ⟨w5.heap.size, 0, none⟩ = some (.slice xa na ca)) ∧ (w'.cell? ⟨w6.heap.size, 0, none⟩ = some (.slice xb nb cb)) ∧ (w'.cell? ⟨w7.heap.size, 0, none⟩ = some (.slice xc nc cc) ∧ w'.cell? ⟨w7.heap.size, 1, none⟩ = some (.int .i64 r.lo) ∧ w'.cell? ⟨w7.heap.size, 2, none⟩ = some (.int .i64 r.al)) ∧ (w'.cell? ⟨w8.heap.size, 0, none⟩ = some (.slice xd nd cd) ∧ w'.cell? ⟨w8.heap.size, 1, none⟩ = some (.int .i64 r.ka))) (first | (with_reducible exact HS.out _ D0.out) | (with_reducible exact HS.out _ D1.out) | (with_reducible exact HS.out _ D2.out) | (with_reducible exact HS.out _ D3.out) | (with_reducible exact HS.out _ D4.out)) (first
      | (go_at_call 57; (with_reducible refine (KO.out (W8.drew) (P.out.below D0.out).rd).mono ?_); rintro e v1 ⟨rfl, hb⟩; have D1 := Lib.hid (D0.out.trans (hb.mono D0.out.size)); clear hb)
      | (go_at_call 32; (with_reducible refine (lkSum_same (v1) V1 ⟨xa, na, ca, xb, nb, cb, xc, nc, cc, xd, nd, cd⟩ r (P.out.below D1.out).rd (RV.out.below D1.out (Nat.le_refl _)) SMr.out).mono ?_); rintro e v2 ⟨rfl, hb⟩; have D2 := Lib.hid (D1.out.trans (hb.mono D1.out.size)); clear hb)
      | (go_at_call 58; (with_reducible refine (KX.out (v2) (P.out.below D2.out).rd).mono ?_); rintro e v3 ⟨rfl, hb⟩; have D3 := Lib.hid (D2.out.trans (hb.mono D2.out.size)); clear hb)
      | (go_at_call 58; (with_reducible refine (KS.out (v3) (Rs.out.below D3.out (Nat.le_refl _))).mono ?_); rintro e v4 ⟨rfl, hb⟩; have D4 := Lib.hid (D3.out.trans (hb.mono D3.out.size)); clear hb))
    all_goals
      go_wp2
      go_ret
      exact ⟨by first | rfl | (simp; done), B.out.trans (D4.out.mono B.out.size)⟩

/-! ### THE ROW's STEP: WRITTEN OUT: LEAVE IT -/
set_option maxRecDepth 100000 in
theorem lifted (os : Os) (started : os.Started) (H : Type) (enc : TypeId × Value → H) :
    ReturnsInHanded {} Tryz.checked os 14 .any (Rows.fnSumAddSpec.pre6 enc Tryz.prog Tryz.f14 Rows.fnSumAddRow.domain false) (Rows.fnSumAddSpec.post enc Tryz.prog Tryz.f14 false true false false) := by
  refine returnsInHanded_of_change (C := Tryz.checked) own started (by kernel_rfl) Tryz.func14
    (ChangeSpec.witness6 (enc := enc) (C := Tryz.checked) false ⟨#[], #[.slice none 0 0], []⟩ 8 (by kernel_rfl) (by kernel_rfl) (by kernel_rfl) (by kernel_rfl)) ?_
  intro W base args ds gs before hval0 hW hcnd _
  have hval : ∀ (j : Nat) t v, Tryz.f14.params[j]? = some t → args[j]? = some v → Value.okWide Tryz.prog W .any base t v := hval0
  have hW' := hW
  obtain ⟨p, q, hA0, hV, rfl, hfz, hnd⟩ := hW
  have hA : DataW.TrodAll enc Tryz.prog W 0 (fun _ => true) true Tryz.f14.params.toList args.toList ds p := hA0
  rw [Tryz.params14] at hA hval
  obtain ⟨v0, vs0, d0, ds0, p0, q0, hargs, rfl, rfl, h0, r0⟩ := trodAll_cons hA
  obtain ⟨rfl, rfl, rfl⟩ := trodAll_nil r0
  obtain rfl : args = #[v0] := by cases args; simp_all
  obtain ⟨rfl, rfl⟩ := trodVars_none hV
  obtain ⟨a0, len0, cap0, rfl⟩ := okWide_slice Tryz.underlying22 (hval 0 22 v0 rfl rfl)
  have k0 := h0
  have lt0 : ∀ x ∈ p0, x.block < W.heap.size := by obtain ⟨m, hm⟩ := k0; exact DataW.trod_lt m _ _ _ hm
  obtain ⟨z0, w0⟩ : ∃ zs, IsRow .u8 W a0 len0 cap0 zs := by
    obtain ⟨fuel, hf⟩ := h0
    rcases open_ints Tryz.underlying22 Tryz.underlying5 (by kernel_rfl) hf with ⟨hcs, _⟩ | ⟨x, l, c, zs, hcs, _, hl, hm, hz, _, hcell, hwz⟩
    · simp [Value.cells] at hcs
      obtain ⟨rfl, rfl, rfl⟩ := hcs
      exact ⟨[], .inl ⟨rfl, rfl, rfl, rfl⟩⟩
    · simp [Value.cells] at hcs
      obtain ⟨rfl, rfl, rfl⟩ := hcs
      exact ⟨zs, .inr ⟨_, rfl, hl, hm, by simpa using hz, hcell, hwz⟩⟩
  clear hA0 hval0
  refine (walk a0 len0 cap0 z0 W w0).mono fun e W' ⟨he, bel⟩ => ?_
  subst he
  exact ⟨_, rfl, _, _, _, [], _, [], hW', trodAll_mk1 (shut_bool Tryz.underlying4 _), (trodAll_cons_mk (Below.trod laidOut (by kernel_rfl) (of_decide_eq_true (by kernel_rfl)) k0 bel lt0) trodAll_mk0), rfl, bel.frame _, fun h => by cases h⟩

theorem over : Rows.fnSumAddRow.holds Tryz.pinned (OpenSpec.ofChange Rows.fnSumAddSpec) :=
  OpenClaim.holds_of_wide 14 Tryz.f14 rfl rfl rfl rfl rfl rfl rfl ⟨rfl, rfl, rfl, rfl, rfl⟩ rfl rfl rfl rfl rfl (by kernel_rfl) Tryz.func14 (by show joinedFacts Tryz.prog _ _ _ _ = true; unfold joinedFacts; rw [mayE, liftF, makeC]; kernel_rfl)
    (of_decide_eq_true (by kernel_rfl)) (by unfold Func.isWrapper; first | (rw [if_pos (by decide +kernel)]; kernel_rfl) | (rw [if_neg (by decide +kernel)]; exact ⟨rfl, rfl⟩))
    (fun os started H enc _ => lifted os started H enc)

theorem proved : Rows.FnSumAddSaid := over
#print axioms proved
end Go.Proofs.YtnoilafoeaknjaaGreat.fnSumAdd
