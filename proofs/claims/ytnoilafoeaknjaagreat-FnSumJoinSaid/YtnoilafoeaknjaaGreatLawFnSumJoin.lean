/-
  The statement of the law FnSumJoin: at every input the call returns true and leaves what it was given as it was. The frame is the kit's shell; the walk is ours.
-/
import Derived.Deep.RegionHeld3
import Derived.Test.YtnoilafoeaknjaaGreatZImOf
import Derived.Test.YtnoilafoeaknjaaGreatZSpOf
import Derived.Test.YtnoilafoeaknjaaGreatZDraw
import Derived.Test.YtnoilafoeaknjaaGreatZLk
import Derived.Test.YtnoilafoeaknjaaGreatZImGet
import Derived.Test.YtnoilafoeaknjaaGreatZDrawT
import Derived.Test.YtnoilafoeaknjaaGreatZTell
import Derived.Deep.RegionWith
import Derived.Test.YtnoilafoeaknjaaGreatRows
import Derived.Test.YtnoilafoeaknjaaGreatMk
import Derived.WalkKit
import Derived.ProofKit
import Derived.OpenShut
import Derived.ShutString
import Derived.ChangeOld
import Derived.Below
namespace Go.Proofs.YtnoilafoeaknjaaGreat.fnSumJoin
open Go.ChangeShapes Go.WideShapes Go.ChangeAt Go.RowKit
open Go.ChangeMaps (open_string shut_string)
set_option linter.unusedVariables false

theorem own : ownKnob Tryz.prog.godebug = none := by kernel_rfl
theorem laidOut : laidOutB Tryz.prog = true := by kernel_rfl

/-- WHAT THE WALK IS TOLD OF A SLICE OF INTEGERS THAT CAME IN: it is nil; or it leads to a row of 'cap' cells, the numbers 'zs' (the first 'len' are its elements, the rest its spare room), each fitting its kind. -/
def IsRow (k : IntKind) (w : World) (a : Option Addr) (len cap : Nat) (zs : List Int) : Prop :=
  (a = none ∧ len = 0 ∧ cap = 0 ∧ zs = []) ∨
  ∃ x, a = some x ∧ len ≤ cap ∧ cap ≤ maxLen ∧ zs.length = cap ∧ (∀ i, i < zs.length → w.cell? (x.add i) = some (.int k (zs.getD i 0))) ∧ ∀ n ∈ zs, (Lit.int k n).wf = true

/-! ### STEP 1: THE WALK: the Go text returns true, AND WRITES NOTHING THAT WAS THERE: 'Below w.heap.size w w'' (Derived/Below.lean: '.refl', '.alloc', '.drew', '.setCell' at a new block, '.trans'). Open each 'IsRow' by 'rcases' AHEAD of 'go_enter'; part every test ahead of the walk. -/
set_option maxRecDepth 100000 in
set_option maxHeartbeats 16000000 in
theorem walk (a0 : Option Addr) (len0 cap0 : Nat) (z0 : List Int) (w : World) (w0 : IsRow .u8 w a0 len0 cap0 z0) :
    Calls Tryz.prog 19 #[.slice a0 len0 cap0] w fun e w' => e = .returned (.bool true) ∧ Below w.heap.size w w' := by
  obtain ⟨hb, hl⟩ := bts_of w a0 len0 cap0 z0 w0
  rcases hl with hl | hl
  · go_enter Tryz.func19, Tryz.ntmps19
    go_wp2
    go_ret
    exact ⟨rfl, Below.refl _ _⟩
  have HB := Lib.hid hb
  clear hb w0
  have B := Lib.hid (Below.refl w.heap.size w)
  go_enter Tryz.func19, Tryz.ntmps19
  go_wp2_with fail
  refine (drawSJoin_at w _ len0 ⟨_, _, rfl⟩ (bts_below HB.out B.out)).mono ?_
  rintro e w1 ⟨Va, sa, Vb, sb, rfl, ha, ho, hb⟩
  replace ha := ha.rd
  replace ho := ho.rd
  replace B := Lib.hid (B.out.trans (hb.mono B.out.size))
  have Ra := Lib.hid (ha)
  have Rb := Lib.hid (ho)
  clear hb
  obtain ⟨W1, hW⟩ : ∃ W, W = ((w1.alloc (.cells #[.slice Va.xr Va.nr Va.cr, .slice Va.xf Va.nf Va.cf, .slice Va.xt Va.nt Va.ct, .int .i64 sa.lo, .int .i64 sa.al, .slice Va.xk Va.nk Va.ck, .int .i64 sa.ka] 39)).alloc (.cells #[.slice Vb.xr Vb.nr Vb.cr, .slice Vb.xf Vb.nf Vb.cf, .slice Vb.xt Vb.nt Vb.ct, .int .i64 sb.lo, .int .i64 sb.al, .slice Vb.xk Vb.nk Vb.ck, .int .i64 sb.ka] 39)) := ⟨_, rfl⟩
  replace B := Lib.hid (((B.out).alloc (Nat.le_trans B.out.size (by simp)) (.cells #[.slice Va.xr Va.nr Va.cr, .slice Va.xf Va.nf Va.cf, .slice Va.xt Va.nt Va.ct, .int .i64 sa.lo, .int .i64 sa.al, .slice Va.xk Va.nk Va.ck, .int .i64 sa.ka] 39)).alloc (Nat.le_trans B.out.size (by simp)) (.cells #[.slice Vb.xr Vb.nr Vb.cr, .slice Vb.xf Vb.nf Vb.cf, .slice Vb.xt Vb.nt Vb.ct, .int .i64 sb.lo, .int .i64 sb.al, .slice Vb.xk Vb.nk Vb.ck, .int .i64 sb.ka] 39))
  rw [← hW] at B
  replace Ra := Lib.hid (Ra.out.below ((Below.refl _ _).alloc (Nat.le_refl _) (.cells #[.slice Va.xr Va.nr Va.cr, .slice Va.xf Va.nf Va.cf, .slice Va.xt Va.nt Va.ct, .int .i64 sa.lo, .int .i64 sa.al, .slice Va.xk Va.nk Va.ck, .int .i64 sa.ka] 39)) (Nat.le_refl _))
  replace Ra := Lib.hid (Ra.out.below ((Below.refl _ _).alloc (Nat.le_refl _) (.cells #[.slice Vb.xr Vb.nr Vb.cr, .slice Vb.xf Vb.nf Vb.cf, .slice Vb.xt Vb.nt Vb.ct, .int .i64 sb.lo, .int .i64 sb.al, .slice Vb.xk Vb.nk Vb.ck, .int .i64 sb.ka] 39)) (Nat.le_refl _))
  rw [← hW] at Ra
  replace Rb := Lib.hid (Rb.out.below ((Below.refl _ _).alloc (Nat.le_refl _) (.cells #[.slice Va.xr Va.nr Va.cr, .slice Va.xf Va.nf Va.cf, .slice Va.xt Va.nt Va.ct, .int .i64 sa.lo, .int .i64 sa.al, .slice Va.xk Va.nk Va.ck, .int .i64 sa.ka] 39)) (Nat.le_refl _))
  replace Rb := Lib.hid (Rb.out.below ((Below.refl _ _).alloc (Nat.le_refl _) (.cells #[.slice Vb.xr Vb.nr Vb.cr, .slice Vb.xf Vb.nf Vb.cf, .slice Vb.xt Vb.nt Vb.ct, .int .i64 sb.lo, .int .i64 sb.al, .slice Vb.xk Vb.nk Vb.ck, .int .i64 sb.ka] 39)) (Nat.le_refl _))
  rw [← hW] at Rb
  have XA := Box7.new w1 39 (.slice Va.xr Va.nr Va.cr) (.slice Va.xf Va.nf Va.cf) (.slice Va.xt Va.nt Va.ct) (.int .i64 sa.lo) (.int .i64 sa.al) (.slice Va.xk Va.nk Va.ck) (.int .i64 sa.ka)
  replace XA := XA.alloc (.cells #[.slice Vb.xr Vb.nr Vb.cr, .slice Vb.xf Vb.nf Vb.cf, .slice Vb.xt Vb.nt Vb.ct, .int .i64 sb.lo, .int .i64 sb.al, .slice Vb.xk Vb.nk Vb.ck, .int .i64 sb.ka] 39)
  rw [← hW] at XA
  have XB := Box7.new (w1.alloc (.cells #[.slice Va.xr Va.nr Va.cr, .slice Va.xf Va.nf Va.cf, .slice Va.xt Va.nt Va.ct, .int .i64 sa.lo, .int .i64 sa.al, .slice Va.xk Va.nk Va.ck, .int .i64 sa.ka] 39)) 39 (.slice Vb.xr Vb.nr Vb.cr) (.slice Vb.xf Vb.nf Vb.cf) (.slice Vb.xt Vb.nt Vb.ct) (.int .i64 sb.lo) (.int .i64 sb.al) (.slice Vb.xk Vb.nk Vb.ck) (.int .i64 sb.ka)
  simp only [World.size_alloc] at XB
  rw [← hW] at XB
  clear ha ho
  have qa := XA.cells
  have qb := XB.cells
  rw [hW] at qa qb
  obtain ⟨qa0, qa1, qa2, qa3, qa4, qa5, qa6⟩ := qa
  obtain ⟨qb0, qb1, qb2, qb3, qb4, qb5, qb6⟩ := qb
  go_wp2_with fail
  rw [← hW]
  clear hW qa0 qa1 qa2 qa3 qa4 qa5 qa6 qb0 qb1 qb2 qb3 qb4 qb5 qb6
  have Ksp := fun (W : World) (h1 : RdS W Va sa) (h2 : RdS W Vb sb) => spSumJoin_at W Va Vb sa sb h1 h2
  have Kim := fun (W : World) (h1 : RdS W Va sa) (h2 : RdS W Vb sb) => imSumJoin_at W Va Vb sa sb h1 h2
  obtain ⟨r, hr⟩ : ∃ r, r = joinS sa sb := ⟨_, rfl⟩
  obtain ⟨ok, hok⟩ : ∃ o, o = joinOkS sa sb := ⟨_, rfl⟩
  rw [← hr, ← hok] at Ksp Kim
  have Hr := Lib.hid hr
  have SMr := Lib.hid (show Small r by rw [hr]; exact join_small sa sb)
  have Ook := Lib.hid (fun (q : ok = true) => show joinOkS sa sb = true by rw [← hok]; exact q)
  replace Ksp := Lib.hid Ksp
  replace Kim := Lib.hid Kim
  clear hr hok
  refine (Ksp.out W1 Ra.out Rb.out).mono ?_
  rintro e w2 ⟨V2, rfl, ho, hb⟩
  replace ho := ho.base (B' := w.heap.size) B.out.size (Nat.le_refl _) (Nat.le_refl _)
  replace B := Lib.hid (B.out.trans (hb.mono B.out.size))
  replace Ra := Lib.hid (Ra.out.below hb (Nat.le_refl _))
  replace Rb := Lib.hid (Rb.out.below hb (Nat.le_refl _))
  replace XA := XA.later hb
  replace XB := XB.later hb
  have Q := Lib.hid (ho)
  clear hb
  obtain ⟨W2, hW⟩ : ∃ W, W = (w2.alloc (.cells #[.slice V2.xr V2.nr V2.cr, .slice V2.xf V2.nf V2.cf, .slice V2.xt V2.nt V2.ct, .int .i64 r.lo, .int .i64 r.al, .slice V2.xk V2.nk V2.ck, .int .i64 r.ka] 39)) := ⟨_, rfl⟩
  obtain ⟨axa0, axa1, axa2, axa3, axa4, axa5, axa6⟩ := ((XA.alloc (.cells #[.slice V2.xr V2.nr V2.cr, .slice V2.xf V2.nf V2.cf, .slice V2.xt V2.nt V2.ct, .int .i64 r.lo, .int .i64 r.al, .slice V2.xk V2.nk V2.ck, .int .i64 r.ka] 39))).cells
  obtain ⟨axb0, axb1, axb2, axb3, axb4, axb5, axb6⟩ := ((XB.alloc (.cells #[.slice V2.xr V2.nr V2.cr, .slice V2.xf V2.nf V2.cf, .slice V2.xt V2.nt V2.ct, .int .i64 r.lo, .int .i64 r.al, .slice V2.xk V2.nk V2.ck, .int .i64 r.ka] 39))).cells
  replace B := Lib.hid ((B.out).alloc (Nat.le_trans B.out.size (by simp)) (.cells #[.slice V2.xr V2.nr V2.cr, .slice V2.xf V2.nf V2.cf, .slice V2.xt V2.nt V2.ct, .int .i64 r.lo, .int .i64 r.al, .slice V2.xk V2.nk V2.ck, .int .i64 r.ka] 39))
  rw [← hW] at B
  replace Ra := Lib.hid (Ra.out.below ((Below.refl _ _).alloc (Nat.le_refl _) (.cells #[.slice V2.xr V2.nr V2.cr, .slice V2.xf V2.nf V2.cf, .slice V2.xt V2.nt V2.ct, .int .i64 r.lo, .int .i64 r.al, .slice V2.xk V2.nk V2.ck, .int .i64 r.ka] 39)) (Nat.le_refl _))
  rw [← hW] at Ra
  replace Rb := Lib.hid (Rb.out.below ((Below.refl _ _).alloc (Nat.le_refl _) (.cells #[.slice V2.xr V2.nr V2.cr, .slice V2.xf V2.nf V2.cf, .slice V2.xt V2.nt V2.ct, .int .i64 r.lo, .int .i64 r.al, .slice V2.xk V2.nk V2.ck, .int .i64 r.ka] 39)) (Nat.le_refl _))
  rw [← hW] at Rb
  replace XA := XA.alloc (.cells #[.slice V2.xr V2.nr V2.cr, .slice V2.xf V2.nf V2.cf, .slice V2.xt V2.nt V2.ct, .int .i64 r.lo, .int .i64 r.al, .slice V2.xk V2.nk V2.ck, .int .i64 r.ka] 39)
  rw [← hW] at XA
  replace XB := XB.alloc (.cells #[.slice V2.xr V2.nr V2.cr, .slice V2.xf V2.nf V2.cf, .slice V2.xt V2.nt V2.ct, .int .i64 r.lo, .int .i64 r.al, .slice V2.xk V2.nk V2.ck, .int .i64 r.ka] 39)
  rw [← hW] at XB
  replace Q := Lib.hid (Q.out.alloc (.cells #[.slice V2.xr V2.nr V2.cr, .slice V2.xf V2.nf V2.cf, .slice V2.xt V2.nt V2.ct, .int .i64 r.lo, .int .i64 r.al, .slice V2.xk V2.nk V2.ck, .int .i64 r.ka] 39))
  rw [← hW] at Q
  have Y := Box7.new w2 39 (.slice V2.xr V2.nr V2.cr) (.slice V2.xf V2.nf V2.cf) (.slice V2.xt V2.nt V2.ct) (.int .i64 r.lo) (.int .i64 r.al) (.slice V2.xk V2.nk V2.ck) (.int .i64 r.ka)
  rw [← hW] at Y
  go_wp2_with fail
  rw [← hW]
  clear hW axa0 axa1 axa2 axa3 axa4 axa5 axa6 axb0 axb1 axb2 axb3 axb4 axb5 axb6
  clear ho
  go_wp2_with fail
  refine (Kim.out W2 Ra.out Rb.out).mono ?_
  rintro e w3 ⟨V1, rfl, ho, hb⟩
  replace ho := ho.base (B' := w.heap.size) B.out.size (Nat.le_refl _) (Nat.le_refl _)
  replace B := Lib.hid (B.out.trans (hb.mono B.out.size))
  replace Ra := Lib.hid (Ra.out.below hb (Nat.le_refl _))
  replace Rb := Lib.hid (Rb.out.below hb (Nat.le_refl _))
  replace XA := XA.later hb
  replace XB := XB.later hb
  replace Q := Lib.hid (Q.out.below hb)
  replace Y := Y.later hb
  have P := Lib.hid (ho)
  clear hb
  obtain ⟨W3, hW⟩ : ∃ W, W = (w3.alloc (.cells #[.slice V1.xr V1.nr V1.cr, .slice V1.xf V1.nf V1.cf, .slice V1.xt V1.nt V1.ct, .int .i64 r.lo, .int .i64 r.al, .slice V1.xk V1.nk V1.ck, .int .i64 r.ka] 39)) := ⟨_, rfl⟩
  obtain ⟨ay0, ay1, ay2, ay3, ay4, ay5, ay6⟩ := ((Y.alloc (.cells #[.slice V1.xr V1.nr V1.cr, .slice V1.xf V1.nf V1.cf, .slice V1.xt V1.nt V1.ct, .int .i64 r.lo, .int .i64 r.al, .slice V1.xk V1.nk V1.ck, .int .i64 r.ka] 39))).cells
  replace B := Lib.hid ((B.out).alloc (Nat.le_trans B.out.size (by simp)) (.cells #[.slice V1.xr V1.nr V1.cr, .slice V1.xf V1.nf V1.cf, .slice V1.xt V1.nt V1.ct, .int .i64 r.lo, .int .i64 r.al, .slice V1.xk V1.nk V1.ck, .int .i64 r.ka] 39))
  rw [← hW] at B
  replace Ra := Lib.hid (Ra.out.below ((Below.refl _ _).alloc (Nat.le_refl _) (.cells #[.slice V1.xr V1.nr V1.cr, .slice V1.xf V1.nf V1.cf, .slice V1.xt V1.nt V1.ct, .int .i64 r.lo, .int .i64 r.al, .slice V1.xk V1.nk V1.ck, .int .i64 r.ka] 39)) (Nat.le_refl _))
  rw [← hW] at Ra
  replace Rb := Lib.hid (Rb.out.below ((Below.refl _ _).alloc (Nat.le_refl _) (.cells #[.slice V1.xr V1.nr V1.cr, .slice V1.xf V1.nf V1.cf, .slice V1.xt V1.nt V1.ct, .int .i64 r.lo, .int .i64 r.al, .slice V1.xk V1.nk V1.ck, .int .i64 r.ka] 39)) (Nat.le_refl _))
  rw [← hW] at Rb
  replace XA := XA.alloc (.cells #[.slice V1.xr V1.nr V1.cr, .slice V1.xf V1.nf V1.cf, .slice V1.xt V1.nt V1.ct, .int .i64 r.lo, .int .i64 r.al, .slice V1.xk V1.nk V1.ck, .int .i64 r.ka] 39)
  rw [← hW] at XA
  replace XB := XB.alloc (.cells #[.slice V1.xr V1.nr V1.cr, .slice V1.xf V1.nf V1.cf, .slice V1.xt V1.nt V1.ct, .int .i64 r.lo, .int .i64 r.al, .slice V1.xk V1.nk V1.ck, .int .i64 r.ka] 39)
  rw [← hW] at XB
  replace Q := Lib.hid (Q.out.alloc (.cells #[.slice V1.xr V1.nr V1.cr, .slice V1.xf V1.nf V1.cf, .slice V1.xt V1.nt V1.ct, .int .i64 r.lo, .int .i64 r.al, .slice V1.xk V1.nk V1.ck, .int .i64 r.ka] 39))
  rw [← hW] at Q
  replace Y := Y.alloc (.cells #[.slice V1.xr V1.nr V1.cr, .slice V1.xf V1.nf V1.cf, .slice V1.xt V1.nt V1.ct, .int .i64 r.lo, .int .i64 r.al, .slice V1.xk V1.nk V1.ck, .int .i64 r.ka] 39)
  rw [← hW] at Y
  replace P := Lib.hid (P.out.alloc (.cells #[.slice V1.xr V1.nr V1.cr, .slice V1.xf V1.nf V1.cf, .slice V1.xt V1.nt V1.ct, .int .i64 r.lo, .int .i64 r.al, .slice V1.xk V1.nk V1.ck, .int .i64 r.ka] 39))
  rw [← hW] at P
  have X := Box7.new w3 39 (.slice V1.xr V1.nr V1.cr) (.slice V1.xf V1.nf V1.cf) (.slice V1.xt V1.nt V1.ct) (.int .i64 r.lo) (.int .i64 r.al) (.slice V1.xk V1.nk V1.ck) (.int .i64 r.ka)
  rw [← hW] at X
  go_wp2_with fail
  rw [← hW]
  clear hW ay0 ay1 ay2 ay3 ay4 ay5 ay6
  clear ho
  clear Ksp Kim
  cases ok with
  | false =>
    refine (lkSum_same W3 V1 V2 r P.out.rd Q.out.rd SMr.out).mono ?_
    rintro e w4 ⟨rfl, hb⟩
    replace B := Lib.hid (B.out.trans (hb.mono B.out.size))
    replace Ra := Lib.hid (Ra.out.below hb (Nat.le_refl _))
    replace Rb := Lib.hid (Rb.out.below hb (Nat.le_refl _))
    replace XA := XA.later hb
    replace XB := XB.later hb
    replace Q := Lib.hid (Q.out.below hb)
    replace Y := Y.later hb
    replace P := Lib.hid (P.out.below hb)
    replace X := X.later hb
    clear hb
    obtain ⟨cx0, cx1, cx2, cx3, cx4, cx5, cx6⟩ := (X).cells
    obtain ⟨cy0, cy1, cy2, cy3, cy4, cy5, cy6⟩ := (Y).cells
    go_wp2_with fail
    refine (lkSum_same w4 V1 V2 r P.out.rd Q.out.rd SMr.out).mono ?_
    rintro e w5 ⟨rfl, hb⟩
    clear cx0 cx1 cx2 cx3 cx4 cx5 cx6 cy0 cy1 cy2 cy3 cy4 cy5 cy6
    replace B := Lib.hid (B.out.trans (hb.mono B.out.size))
    replace Ra := Lib.hid (Ra.out.below hb (Nat.le_refl _))
    replace Rb := Lib.hid (Rb.out.below hb (Nat.le_refl _))
    replace XA := XA.later hb
    replace XB := XB.later hb
    replace Q := Lib.hid (Q.out.below hb)
    replace Y := Y.later hb
    replace P := Lib.hid (P.out.below hb)
    replace X := X.later hb
    clear hb
    go_wp2
    go_ret
    exact ⟨rfl, B.out⟩
  | true =>
    have OK := Lib.hid (Ook.out rfl)
    clear Ook
    have JO := joinS_ok OK.out
    rw [← Hr.out] at JO
    obtain ⟨oka, okb, _⟩ := (joinOkS_iff sa sb).1 OK.out
    have ba := oka.al0
    have bb := okb.al0
    have ws : IntKind.i64.wrap (sa.al + sb.al) = sa.al + sb.al := IntWalk.i64_in _ (by omega)
    have KO := Lib.hid (fun (W : World) (h : RdS W V1 r) => show Calls Tryz.prog 57 #[.agg #[.slice V1.xr V1.nr V1.cr, .slice V1.xf V1.nf V1.cf, .slice V1.xt V1.nt V1.ct, .int .i64 r.lo, .int .i64 r.al, .slice V1.xk V1.nk V1.ck, .int .i64 r.ka]] W fun e w' => e = .returned (.bool true) ∧ Below W.heap.size W w' by have k := imSumOk_at W V1 r h; rw [(okS_iff _).2 JO.1] at k; exact k)
    have KX := Lib.hid (fun (W : World) (h : RdS W V1 r) => show Calls Tryz.prog 58 #[.agg #[.slice V1.xr V1.nr V1.cr, .slice V1.xf V1.nf V1.cf, .slice V1.xt V1.nt V1.ct, .int .i64 r.lo, .int .i64 r.al, .slice V1.xk V1.nk V1.ck, .int .i64 r.ka]] W fun e w' => e = .returned (.int .i64 (sa.al + sb.al)) ∧ Below W.heap.size W w' by have k := imSumAll_at W V1 r h; rw [show allS r = sa.al + sb.al by unfold allS; rw [(okS_iff _).2 JO.1, if_pos rfl]; exact JO.2] at k; exact k)
    have Ka := Lib.hid (fun (W : World) (h : RdS W Va sa) => show Calls Tryz.prog 58 #[.agg #[.slice Va.xr Va.nr Va.cr, .slice Va.xf Va.nf Va.cf, .slice Va.xt Va.nt Va.ct, .int .i64 sa.lo, .int .i64 sa.al, .slice Va.xk Va.nk Va.ck, .int .i64 sa.ka]] W fun e w' => e = .returned (.int .i64 sa.al) ∧ Below W.heap.size W w' by have k := imSumAll_at W Va sa h; rw [show allS sa = sa.al by unfold allS; rw [(okS_iff _).2 oka, if_pos rfl]] at k; exact k)
    have Kb := Lib.hid (fun (W : World) (h : RdS W Vb sb) => show Calls Tryz.prog 58 #[.agg #[.slice Vb.xr Vb.nr Vb.cr, .slice Vb.xf Vb.nf Vb.cf, .slice Vb.xt Vb.nt Vb.ct, .int .i64 sb.lo, .int .i64 sb.al, .slice Vb.xk Vb.nk Vb.ck, .int .i64 sb.ka]] W fun e w' => e = .returned (.int .i64 sb.al) ∧ Below W.heap.size W w' by have k := imSumAll_at W Vb sb h; rw [show allS sb = sb.al by unfold allS; rw [(okS_iff _).2 okb, if_pos rfl]] at k; exact k)
    have KB := Lib.hid (fun (W : World) (h1 : RdS W Vb sb) (h2 : RdS W Va sa) => show Calls Tryz.prog 66 #[.agg #[.slice Vb.xr Vb.nr Vb.cr, .slice Vb.xf Vb.nf Vb.cf, .slice Vb.xt Vb.nt Vb.ct, .int .i64 sb.lo, .int .i64 sb.al, .slice Vb.xk Vb.nk Vb.ck, .int .i64 sb.ka], .agg #[.slice Va.xr Va.nr Va.cr, .slice Va.xf Va.nf Va.cf, .slice Va.xt Va.nt Va.ct, .int .i64 sa.lo, .int .i64 sa.al, .slice Va.xk Va.nk Va.ck, .int .i64 sa.ka]] W fun e w' => ∃ U, e = .returned (.tuple #[.agg #[.slice U.xr U.nr U.cr, .slice U.xf U.nf U.cf, .slice U.xt U.nt U.ct, .int .i64 r.lo, .int .i64 r.al, .slice U.xk U.nk U.ck, .int .i64 r.ka], .bool true]) ∧ OwnS w' W.heap.size w'.heap.size U r ∧ Below W.heap.size W w' by have k := imSumJoin_at W Vb Va sb sa h1 h2; rw [joinS_comm, joinOkS_comm, OK.out, ← Hr.out] at k; exact k)
    clear JO oka okb ba bb
    refine (lkSum_same W3 V1 V2 r P.out.rd Q.out.rd SMr.out).mono ?_
    rintro e w4 ⟨rfl, hb⟩
    replace B := Lib.hid (B.out.trans (hb.mono B.out.size))
    replace Ra := Lib.hid (Ra.out.below hb (Nat.le_refl _))
    replace Rb := Lib.hid (Rb.out.below hb (Nat.le_refl _))
    replace XA := XA.later hb
    replace XB := XB.later hb
    replace Q := Lib.hid (Q.out.below hb)
    replace Y := Y.later hb
    replace P := Lib.hid (P.out.below hb)
    replace X := X.later hb
    clear hb
    obtain ⟨cxa0, cxa1, cxa2, cxa3, cxa4, cxa5, cxa6⟩ := (XA).cells
    obtain ⟨cxb0, cxb1, cxb2, cxb3, cxb4, cxb5, cxb6⟩ := (XB).cells
    clear Y
    clear Q
    go_wp2_with fail
    refine (KB.out w4 Rb.out Ra.out).mono ?_
    rintro e w5 ⟨V3, rfl, ho, hb⟩
    replace ho := ho.base (B' := w.heap.size) B.out.size (Nat.le_refl _) (Nat.le_refl _)
    clear cxa0 cxa1 cxa2 cxa3 cxa4 cxa5 cxa6 cxb0 cxb1 cxb2 cxb3 cxb4 cxb5 cxb6
    replace B := Lib.hid (B.out.trans (hb.mono B.out.size))
    replace Ra := Lib.hid (Ra.out.below hb (Nat.le_refl _))
    replace Rb := Lib.hid (Rb.out.below hb (Nat.le_refl _))
    replace XA := XA.later hb
    replace XB := XB.later hb
    replace P := Lib.hid (P.out.below hb)
    replace X := X.later hb
    have N := Lib.hid (ho)
    clear hb
    obtain ⟨W5, hW⟩ : ∃ W, W = (w5.alloc (.cells #[.slice V3.xr V3.nr V3.cr, .slice V3.xf V3.nf V3.cf, .slice V3.xt V3.nt V3.ct, .int .i64 r.lo, .int .i64 r.al, .slice V3.xk V3.nk V3.ck, .int .i64 r.ka] 39)) := ⟨_, rfl⟩
    replace B := Lib.hid ((B.out).alloc (Nat.le_trans B.out.size (by simp)) (.cells #[.slice V3.xr V3.nr V3.cr, .slice V3.xf V3.nf V3.cf, .slice V3.xt V3.nt V3.ct, .int .i64 r.lo, .int .i64 r.al, .slice V3.xk V3.nk V3.ck, .int .i64 r.ka] 39))
    rw [← hW] at B
    replace Ra := Lib.hid (Ra.out.below ((Below.refl _ _).alloc (Nat.le_refl _) (.cells #[.slice V3.xr V3.nr V3.cr, .slice V3.xf V3.nf V3.cf, .slice V3.xt V3.nt V3.ct, .int .i64 r.lo, .int .i64 r.al, .slice V3.xk V3.nk V3.ck, .int .i64 r.ka] 39)) (Nat.le_refl _))
    rw [← hW] at Ra
    replace Rb := Lib.hid (Rb.out.below ((Below.refl _ _).alloc (Nat.le_refl _) (.cells #[.slice V3.xr V3.nr V3.cr, .slice V3.xf V3.nf V3.cf, .slice V3.xt V3.nt V3.ct, .int .i64 r.lo, .int .i64 r.al, .slice V3.xk V3.nk V3.ck, .int .i64 r.ka] 39)) (Nat.le_refl _))
    rw [← hW] at Rb
    replace XA := XA.alloc (.cells #[.slice V3.xr V3.nr V3.cr, .slice V3.xf V3.nf V3.cf, .slice V3.xt V3.nt V3.ct, .int .i64 r.lo, .int .i64 r.al, .slice V3.xk V3.nk V3.ck, .int .i64 r.ka] 39)
    rw [← hW] at XA
    replace XB := XB.alloc (.cells #[.slice V3.xr V3.nr V3.cr, .slice V3.xf V3.nf V3.cf, .slice V3.xt V3.nt V3.ct, .int .i64 r.lo, .int .i64 r.al, .slice V3.xk V3.nk V3.ck, .int .i64 r.ka] 39)
    rw [← hW] at XB
    replace P := Lib.hid (P.out.alloc (.cells #[.slice V3.xr V3.nr V3.cr, .slice V3.xf V3.nf V3.cf, .slice V3.xt V3.nt V3.ct, .int .i64 r.lo, .int .i64 r.al, .slice V3.xk V3.nk V3.ck, .int .i64 r.ka] 39))
    rw [← hW] at P
    replace X := X.alloc (.cells #[.slice V3.xr V3.nr V3.cr, .slice V3.xf V3.nf V3.cf, .slice V3.xt V3.nt V3.ct, .int .i64 r.lo, .int .i64 r.al, .slice V3.xk V3.nk V3.ck, .int .i64 r.ka] 39)
    rw [← hW] at X
    replace N := Lib.hid (N.out.alloc (.cells #[.slice V3.xr V3.nr V3.cr, .slice V3.xf V3.nf V3.cf, .slice V3.xt V3.nt V3.ct, .int .i64 r.lo, .int .i64 r.al, .slice V3.xk V3.nk V3.ck, .int .i64 r.ka] 39))
    rw [← hW] at N
    have Z := Box7.new w5 39 (.slice V3.xr V3.nr V3.cr) (.slice V3.xf V3.nf V3.cf) (.slice V3.xt V3.nt V3.ct) (.int .i64 r.lo) (.int .i64 r.al) (.slice V3.xk V3.nk V3.ck) (.int .i64 r.ka)
    rw [← hW] at Z
    clear ho
    go_wp2
    rw [← hW]
    clear hW
    have D0 := Lib.hid (Below.drew (Below.refl W5.heap.size W5))
    have HS : Hid (∀ w', Below W5.heap.size W5 w' → (w'.cell? ⟨w3.heap.size, 0, none⟩ = some (.slice V1.xr V1.nr V1.cr) ∧ w'.cell? ⟨w3.heap.size, 1, none⟩ = some (.slice V1.xf V1.nf V1.cf) ∧ w'.cell? ⟨w3.heap.size, 2, none⟩ = some (.slice V1.xt V1.nt V1.ct) ∧ w'.cell? ⟨w3.heap.size, 3, none⟩ = some (.int .i64 r.lo) ∧ w'.cell? ⟨w3.heap.size, 4, none⟩ = some (.int .i64 r.al) ∧ w'.cell? ⟨w3.heap.size, 5, none⟩ = some (.slice V1.xk V1.nk V1.ck) ∧ w'.cell? ⟨w3.heap.size, 6, none⟩ = some (.int .i64 r.ka)) ∧ (w'.cell? ⟨w1.heap.size, 0, none⟩ = some (.slice Va.xr Va.nr Va.cr) ∧ w'.cell? ⟨w1.heap.size, 1, none⟩ = some (.slice Va.xf Va.nf Va.cf) ∧ w'.cell? ⟨w1.heap.size, 2, none⟩ = some (.slice Va.xt Va.nt Va.ct) ∧ w'.cell? ⟨w1.heap.size, 3, none⟩ = some (.int .i64 sa.lo) ∧ w'.cell? ⟨w1.heap.size, 4, none⟩ = some (.int .i64 sa.al) ∧ w'.cell? ⟨w1.heap.size, 5, none⟩ = some (.slice Va.xk Va.nk Va.ck) ∧ w'.cell? ⟨w1.heap.size, 6, none⟩ = some (.int .i64 sa.ka)) ∧ (w'.cell? ⟨(w1.heap.size + 1), 0, none⟩ = some (.slice Vb.xr Vb.nr Vb.cr) ∧ w'.cell? ⟨(w1.heap.size + 1), 1, none⟩ = some (.slice Vb.xf Vb.nf Vb.cf) ∧ w'.cell? ⟨(w1.heap.size + 1), 2, none⟩ = some (.slice Vb.xt Vb.nt Vb.ct) ∧ w'.cell? ⟨(w1.heap.size + 1), 3, none⟩ = some (.int .i64 sb.lo) ∧ w'.cell? ⟨(w1.heap.size + 1), 4, none⟩ = some (.int .i64 sb.al) ∧ w'.cell? ⟨(w1.heap.size + 1), 5, none⟩ = some (.slice Vb.xk Vb.nk Vb.ck) ∧ w'.cell? ⟨(w1.heap.size + 1), 6, none⟩ = some (.int .i64 sb.ka)) ∧ (w'.cell? ⟨w5.heap.size, 0, none⟩ = some (.slice V3.xr V3.nr V3.cr) ∧ w'.cell? ⟨w5.heap.size, 1, none⟩ = some (.slice V3.xf V3.nf V3.cf) ∧ w'.cell? ⟨w5.heap.size, 2, none⟩ = some (.slice V3.xt V3.nt V3.ct) ∧ w'.cell? ⟨w5.heap.size, 3, none⟩ = some (.int .i64 r.lo) ∧ w'.cell? ⟨w5.heap.size, 4, none⟩ = some (.int .i64 r.al) ∧ w'.cell? ⟨w5.heap.size, 5, none⟩ = some (.slice V3.xk V3.nk V3.ck) ∧ w'.cell? ⟨w5.heap.size, 6, none⟩ = some (.int .i64 r.ka))) := fun w' h => ⟨(X.later h).cells, (XA.later h).cells, (XB.later h).cells, (Z.later h).cells⟩
    clear X XA XB Z
    go_region_held3 (fun w' => (w'.cell? ⟨w3.heap.size, 0, none⟩ = some (.slice V1.xr V1.nr V1.cr) ∧ w'.cell? ⟨w3.heap.size, 1, none⟩ = some (.slice V1.xf V1.nf V1.cf) ∧ w'.cell? ⟨w3.heap.size, 2, none⟩ = some (.slice V1.xt V1.nt V1.ct) ∧ w'.cell? ⟨w3.heap.size, 3, none⟩ = some (.int .i64 r.lo) ∧ w'.cell? ⟨w3.heap.size, 4, none⟩ = some (.int .i64 r.al) ∧ w'.cell? ⟨w3.heap.size, 5, none⟩ = some (.slice V1.xk V1.nk V1.ck) ∧ w'.cell? ⟨w3.heap.size, 6, none⟩ = some (.int .i64 r.ka)) ∧ (w'.cell? ⟨w1.heap.size, 0, none⟩ = some (.slice Va.xr Va.nr Va.cr) ∧ w'.cell? ⟨w1.heap.size, 1, none⟩ = some (.slice Va.xf Va.nf Va.cf) ∧ w'.cell? ⟨w1.heap.size, 2, none⟩ = some (.slice Va.xt Va.nt Va.ct) ∧ w'.cell? ⟨w1.heap.size, 3, none⟩ = some (.int .i64 sa.lo) ∧ w'.cell? ⟨w1.heap.size, 4, none⟩ = some (.int .i64 sa.al) ∧ w'.cell? ⟨w1.heap.size, 5, none⟩ = some (.slice Va.xk Va.nk Va.ck) ∧ w'.cell? ⟨w1.heap.size, 6, none⟩ = some (.int .i64 sa.ka)) ∧ (w'.cell? ⟨(w1.heap.size + 1), 0, none⟩ = some (.slice Vb.xr Vb.nr Vb.cr) ∧ w'.cell? ⟨(w1.heap.size + 1), 1, none⟩ = some (.slice Vb.xf Vb.nf Vb.cf) ∧ w'.cell? ⟨(w1.heap.size + 1), 2, none⟩ = some (.slice Vb.xt Vb.nt Vb.ct) ∧ w'.cell? ⟨(w1.heap.size + 1), 3, none⟩ = some (.int .i64 sb.lo) ∧ w'.cell? ⟨(w1.heap.size + 1), 4, none⟩ = some (.int .i64 sb.al) ∧ w'.cell? ⟨(w1.heap.size + 1), 5, none⟩ = some (.slice Vb.xk Vb.nk Vb.ck) ∧ w'.cell? ⟨(w1.heap.size + 1), 6, none⟩ = some (.int .i64 sb.ka)) ∧ (w'.cell? ⟨w5.heap.size, 0, none⟩ = some (.slice V3.xr V3.nr V3.cr) ∧ w'.cell? ⟨w5.heap.size, 1, none⟩ = some (.slice V3.xf V3.nf V3.cf) ∧ w'.cell? ⟨w5.heap.size, 2, none⟩ = some (.slice V3.xt V3.nt V3.ct) ∧ w'.cell? ⟨w5.heap.size, 3, none⟩ = some (.int .i64 r.lo) ∧ w'.cell? ⟨w5.heap.size, 4, none⟩ = some (.int .i64 r.al) ∧ w'.cell? ⟨w5.heap.size, 5, none⟩ = some (.slice V3.xk V3.nk V3.ck) ∧ w'.cell? ⟨w5.heap.size, 6, none⟩ = some (.int .i64 r.ka))) (first | (with_reducible exact HS.out _ D0.out) | (with_reducible exact HS.out _ D1.out) | (with_reducible exact HS.out _ D2.out) | (with_reducible exact HS.out _ D3.out) | (with_reducible exact HS.out _ D4.out) | (with_reducible exact HS.out _ D5.out)) (first
      | (go_at_call 57; (with_reducible refine (KO.out (W5.drew) (P.out.below D0.out).rd).mono ?_); rintro e v1 ⟨rfl, hb⟩; have D1 := Lib.hid (D0.out.trans (hb.mono D0.out.size)); clear hb)
      | (go_at_call 58; (with_reducible refine (KX.out (v1) (P.out.below D1.out).rd).mono ?_); rintro e v2 ⟨rfl, hb⟩; have D2 := Lib.hid (D1.out.trans (hb.mono D1.out.size)); clear hb)
      | (go_at_call 58; (with_reducible refine (Ka.out (v2) (Ra.out.below D2.out (Nat.le_refl _))).mono ?_); rintro e v3 ⟨rfl, hb⟩; have D3 := Lib.hid (D2.out.trans (hb.mono D2.out.size)); clear hb)
      | (go_at_call 58; (with_reducible refine (Kb.out (v3) (Rb.out.below D3.out (Nat.le_refl _))).mono ?_); rintro e v4 ⟨rfl, hb⟩; have D4 := Lib.hid (D3.out.trans (hb.mono D3.out.size)); clear hb)
      | (go_at_call 32; (with_reducible refine (lkSum_same (v4) V3 V1 r (N.out.below D4.out).rd (P.out.below D4.out).rd SMr.out).mono ?_); rintro e v5 ⟨rfl, hb⟩; have D5 := Lib.hid (D4.out.trans (hb.mono D4.out.size)); clear hb))
    all_goals
      go_wp2
      go_ret
      exact ⟨by first | rfl | (simp; done), B.out.trans (D5.out.mono B.out.size)⟩

/-! ### THE ROW's STEP: WRITTEN OUT: LEAVE IT -/
set_option maxRecDepth 100000 in
theorem lifted (os : Os) (started : os.Started) (H : Type) (enc : TypeId × Value → H) :
    ReturnsInHanded {} Tryz.checked os 19 .any (Rows.fnSumJoinSpec.pre6 enc Tryz.prog Tryz.f19 Rows.fnSumJoinRow.domain false) (Rows.fnSumJoinSpec.post enc Tryz.prog Tryz.f19 false true false false) := by
  refine returnsInHanded_of_change (C := Tryz.checked) own started (by kernel_rfl) Tryz.func19
    (ChangeSpec.witness6 (enc := enc) (C := Tryz.checked) false ⟨#[], #[.slice none 0 0], []⟩ 8 (by kernel_rfl) (by kernel_rfl) (by kernel_rfl) (by kernel_rfl)) ?_
  intro W base args ds gs before hval0 hW hcnd _
  have hval : ∀ (j : Nat) t v, Tryz.f19.params[j]? = some t → args[j]? = some v → Value.okWide Tryz.prog W .any base t v := hval0
  have hW' := hW
  obtain ⟨p, q, hA0, hV, rfl, hfz, hnd⟩ := hW
  have hA : DataW.TrodAll enc Tryz.prog W 0 (fun _ => true) true Tryz.f19.params.toList args.toList ds p := hA0
  rw [Tryz.params19] at hA hval
  obtain ⟨v0, vs0, d0, ds0, p0, q0, hargs, rfl, rfl, h0, r0⟩ := trodAll_cons hA
  obtain ⟨rfl, rfl, rfl⟩ := trodAll_nil r0
  obtain rfl : args = #[v0] := by cases args; simp_all
  obtain ⟨rfl, rfl⟩ := trodVars_none hV
  obtain ⟨a0, len0, cap0, rfl⟩ := okWide_slice Tryz.underlying22 (hval 0 22 v0 rfl rfl)
  have k0 := h0
  have lt0 : ∀ x ∈ p0, x.block < W.heap.size := by obtain ⟨m, hm⟩ := k0; exact DataW.trod_lt m _ _ _ hm
  obtain ⟨z0, w0⟩ : ∃ zs, IsRow .u8 W a0 len0 cap0 zs := by
    obtain ⟨fuel, hf⟩ := h0
    rcases open_ints Tryz.underlying22 Tryz.underlying5 (by kernel_rfl) hf with ⟨hcs, _⟩ | ⟨x, l, c, zs, hcs, _, hl, hm, hz, _, hcell, hwz⟩
    · simp [Value.cells] at hcs
      obtain ⟨rfl, rfl, rfl⟩ := hcs
      exact ⟨[], .inl ⟨rfl, rfl, rfl, rfl⟩⟩
    · simp [Value.cells] at hcs
      obtain ⟨rfl, rfl, rfl⟩ := hcs
      exact ⟨zs, .inr ⟨_, rfl, hl, hm, by simpa using hz, hcell, hwz⟩⟩
  clear hA0 hval0
  refine (walk a0 len0 cap0 z0 W w0).mono fun e W' ⟨he, bel⟩ => ?_
  subst he
  exact ⟨_, rfl, _, _, _, [], _, [], hW', trodAll_mk1 (shut_bool Tryz.underlying4 _), (trodAll_cons_mk (Below.trod laidOut (by kernel_rfl) (of_decide_eq_true (by kernel_rfl)) k0 bel lt0) trodAll_mk0), rfl, bel.frame _, fun h => by cases h⟩

theorem over : Rows.fnSumJoinRow.holds Tryz.pinned (OpenSpec.ofChange Rows.fnSumJoinSpec) :=
  OpenClaim.holds_of_wide 19 Tryz.f19 rfl rfl rfl rfl rfl rfl rfl ⟨rfl, rfl, rfl, rfl, rfl⟩ rfl rfl rfl rfl rfl (by kernel_rfl) Tryz.func19 (by show joinedFacts Tryz.prog _ _ _ _ = true; unfold joinedFacts; rw [mayE, liftF, makeC]; kernel_rfl)
    (of_decide_eq_true (by kernel_rfl)) (by unfold Func.isWrapper; first | (rw [if_pos (by decide +kernel)]; kernel_rfl) | (rw [if_neg (by decide +kernel)]; exact ⟨rfl, rfl⟩))
    (fun os started H enc _ => lifted os started H enc)

theorem proved : Rows.FnSumJoinSaid := over
#print axioms proved
end Go.Proofs.YtnoilafoeaknjaaGreat.fnSumJoin
