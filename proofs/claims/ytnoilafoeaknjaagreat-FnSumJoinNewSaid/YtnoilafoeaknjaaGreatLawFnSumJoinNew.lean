/-
  The statement of the law FnSumJoinNew: at every input the call returns true and leaves what it was given as it was. The frame is the kit's shell; the walk is ours.
-/
import Derived.Deep.RegionHeld3
import Derived.Deep.DeepCutAuto
import Derived.Test.YtnoilafoeaknjaaGreatZImOf
import Derived.Test.YtnoilafoeaknjaaGreatZSpOf
import Derived.Test.YtnoilafoeaknjaaGreatZDraw
import Derived.Test.YtnoilafoeaknjaaGreatZLk
import Derived.Test.YtnoilafoeaknjaaGreatZImGet
import Derived.Test.YtnoilafoeaknjaaGreatZDrawT
import Derived.Test.YtnoilafoeaknjaaGreatZTell
import Derived.Test.YtnoilafoeaknjaaGreatZCut
import Derived.Test.YtnoilafoeaknjaaGreatZMade
import Derived.Deep.RegionWith
import Derived.Test.YtnoilafoeaknjaaGreatRows
import Derived.Test.YtnoilafoeaknjaaGreatMk
import Derived.WalkKit
import Derived.ProofKit
import Derived.OpenShut
import Derived.ShutString
import Derived.ChangeOld
import Derived.Below
namespace Go.Proofs.YtnoilafoeaknjaaGreat.fnSumJoinNew
open Go.ChangeShapes Go.WideShapes Go.ChangeAt Go.RowKit
open Go.ChangeMaps (open_string shut_string)
set_option linter.unusedVariables false

theorem own : ownKnob Tryz.prog.godebug = none := by kernel_rfl
theorem laidOut : laidOutB Tryz.prog = true := by kernel_rfl

/-- WHAT THE WALK IS TOLD OF A SLICE OF INTEGERS THAT CAME IN: it is nil; or it leads to a row of 'cap' cells, the numbers 'zs' (the first 'len' are its elements, the rest its spare room), each fitting its kind. -/
def IsRow (k : IntKind) (w : World) (a : Option Addr) (len cap : Nat) (zs : List Int) : Prop :=
  (a = none ∧ len = 0 ∧ cap = 0 ∧ zs = []) ∨
  ∃ x, a = some x ∧ len ≤ cap ∧ cap ≤ maxLen ∧ zs.length = cap ∧ (∀ i, i < zs.length → w.cell? (x.add i) = some (.int k (zs.getD i 0))) ∧ ∀ n ∈ zs, (Lit.int k n).wf = true

/-! ### STEP 1: THE WALK: the Go text returns true, AND WRITES NOTHING THAT WAS THERE: 'Below w.heap.size w w'' (Derived/Below.lean: '.refl', '.alloc', '.drew', '.setCell' at a new block, '.trans'). Open each 'IsRow' by 'rcases' AHEAD of 'go_enter'; part every test ahead of the walk. -/
set_option maxRecDepth 100000 in
set_option maxHeartbeats 16000000 in
theorem walk (a0 : Option Addr) (len0 cap0 : Nat) (z0 : List Int) (w : World) (w0 : IsRow .u8 w a0 len0 cap0 z0) :
    Calls Tryz.prog 20 #[.slice a0 len0 cap0] w fun e w' => e = .returned (.bool true) ∧ Below w.heap.size w w' := by
  obtain ⟨hb, hl⟩ := bts_of w a0 len0 cap0 z0 w0
  rcases hl with hl | hl
  · go_enter Tryz.func20, Tryz.ntmps20
    go_wp2
    go_ret
    exact ⟨rfl, Below.refl _ _⟩
  have HB := Lib.hid hb
  clear hb w0
  have B := Lib.hid (Below.refl w.heap.size w)
  go_enter Tryz.func20, Tryz.ntmps20
  go_wp2_with fail
  refine (drawSJoin_at w _ len0 ⟨_, _, rfl⟩ (bts_below HB.out B.out)).mono ?_
  rintro e w1 ⟨Va, sa, Vb, sb, rfl, ha, ho, hb⟩
  replace ha := ha.rd
  replace ho := ho.rd
  replace B := Lib.hid (B.out.trans (hb.mono B.out.size))
  have Ra := Lib.hid (ha)
  have Rb := Lib.hid (ho)
  clear hb
  obtain ⟨W1, hW⟩ : ∃ W, W = ((w1.alloc (.cells #[.slice Va.xr Va.nr Va.cr, .slice Va.xf Va.nf Va.cf, .slice Va.xt Va.nt Va.ct, .int .i64 sa.lo, .int .i64 sa.al, .slice Va.xk Va.nk Va.ck, .int .i64 sa.ka] 39)).alloc (.cells #[.slice Vb.xr Vb.nr Vb.cr, .slice Vb.xf Vb.nf Vb.cf, .slice Vb.xt Vb.nt Vb.ct, .int .i64 sb.lo, .int .i64 sb.al, .slice Vb.xk Vb.nk Vb.ck, .int .i64 sb.ka] 39)) := ⟨_, rfl⟩
  replace B := Lib.hid (((B.out).alloc (Nat.le_trans B.out.size (by simp)) (.cells #[.slice Va.xr Va.nr Va.cr, .slice Va.xf Va.nf Va.cf, .slice Va.xt Va.nt Va.ct, .int .i64 sa.lo, .int .i64 sa.al, .slice Va.xk Va.nk Va.ck, .int .i64 sa.ka] 39)).alloc (Nat.le_trans B.out.size (by simp)) (.cells #[.slice Vb.xr Vb.nr Vb.cr, .slice Vb.xf Vb.nf Vb.cf, .slice Vb.xt Vb.nt Vb.ct, .int .i64 sb.lo, .int .i64 sb.al, .slice Vb.xk Vb.nk Vb.ck, .int .i64 sb.ka] 39))
  rw [← hW] at B
  replace Ra := Lib.hid (Ra.out.below ((Below.refl _ _).alloc (Nat.le_refl _) (.cells #[.slice Va.xr Va.nr Va.cr, .slice Va.xf Va.nf Va.cf, .slice Va.xt Va.nt Va.ct, .int .i64 sa.lo, .int .i64 sa.al, .slice Va.xk Va.nk Va.ck, .int .i64 sa.ka] 39)) (Nat.le_refl _))
  replace Ra := Lib.hid (Ra.out.below ((Below.refl _ _).alloc (Nat.le_refl _) (.cells #[.slice Vb.xr Vb.nr Vb.cr, .slice Vb.xf Vb.nf Vb.cf, .slice Vb.xt Vb.nt Vb.ct, .int .i64 sb.lo, .int .i64 sb.al, .slice Vb.xk Vb.nk Vb.ck, .int .i64 sb.ka] 39)) (Nat.le_refl _))
  rw [← hW] at Ra
  replace Rb := Lib.hid (Rb.out.below ((Below.refl _ _).alloc (Nat.le_refl _) (.cells #[.slice Va.xr Va.nr Va.cr, .slice Va.xf Va.nf Va.cf, .slice Va.xt Va.nt Va.ct, .int .i64 sa.lo, .int .i64 sa.al, .slice Va.xk Va.nk Va.ck, .int .i64 sa.ka] 39)) (Nat.le_refl _))
  replace Rb := Lib.hid (Rb.out.below ((Below.refl _ _).alloc (Nat.le_refl _) (.cells #[.slice Vb.xr Vb.nr Vb.cr, .slice Vb.xf Vb.nf Vb.cf, .slice Vb.xt Vb.nt Vb.ct, .int .i64 sb.lo, .int .i64 sb.al, .slice Vb.xk Vb.nk Vb.ck, .int .i64 sb.ka] 39)) (Nat.le_refl _))
  rw [← hW] at Rb
  have XA := Box7.new w1 39 (.slice Va.xr Va.nr Va.cr) (.slice Va.xf Va.nf Va.cf) (.slice Va.xt Va.nt Va.ct) (.int .i64 sa.lo) (.int .i64 sa.al) (.slice Va.xk Va.nk Va.ck) (.int .i64 sa.ka)
  replace XA := XA.alloc (.cells #[.slice Vb.xr Vb.nr Vb.cr, .slice Vb.xf Vb.nf Vb.cf, .slice Vb.xt Vb.nt Vb.ct, .int .i64 sb.lo, .int .i64 sb.al, .slice Vb.xk Vb.nk Vb.ck, .int .i64 sb.ka] 39)
  rw [← hW] at XA
  have XB := Box7.new (w1.alloc (.cells #[.slice Va.xr Va.nr Va.cr, .slice Va.xf Va.nf Va.cf, .slice Va.xt Va.nt Va.ct, .int .i64 sa.lo, .int .i64 sa.al, .slice Va.xk Va.nk Va.ck, .int .i64 sa.ka] 39)) 39 (.slice Vb.xr Vb.nr Vb.cr) (.slice Vb.xf Vb.nf Vb.cf) (.slice Vb.xt Vb.nt Vb.ct) (.int .i64 sb.lo) (.int .i64 sb.al) (.slice Vb.xk Vb.nk Vb.ck) (.int .i64 sb.ka)
  simp only [World.size_alloc] at XB
  rw [← hW] at XB
  clear ha ho
  have qa := XA.cells
  have qb := XB.cells
  rw [hW] at qa qb
  obtain ⟨qa0, qa1, qa2, qa3, qa4, qa5, qa6⟩ := qa
  obtain ⟨qb0, qb1, qb2, qb3, qb4, qb5, qb6⟩ := qb
  go_wp2_with fail
  rw [← hW]
  clear hW qa0 qa1 qa2 qa3 qa4 qa5 qa6 qb0 qb1 qb2 qb3 qb4 qb5 qb6
  have Ksp := fun (W : World) (h1 : RdS W Va sa) (h2 : RdS W Vb sb) => spSumJoin_at W Va Vb sa sb h1 h2
  have Kim := fun (W : World) (h1 : RdS W Va sa) (h2 : RdS W Vb sb) => imSumJoin_at W Va Vb sa sb h1 h2
  obtain ⟨r, hr⟩ : ∃ r, r = joinS sa sb := ⟨_, rfl⟩
  obtain ⟨ok, hok⟩ : ∃ o, o = joinOkS sa sb := ⟨_, rfl⟩
  rw [← hr, ← hok] at Ksp Kim
  have Hr := Lib.hid hr
  have SMr := Lib.hid (show Small r by rw [hr]; exact join_small sa sb)
  have Ook := Lib.hid (fun (q : ok = true) => show joinOkS sa sb = true by rw [← hok]; exact q)
  replace Ksp := Lib.hid Ksp
  replace Kim := Lib.hid Kim
  clear hr hok
  refine (Ksp.out W1 Ra.out Rb.out).mono ?_
  rintro e w2 ⟨V2, rfl, ho, hb⟩
  replace ho := ho.base (B' := w.heap.size) B.out.size (Nat.le_refl _) (Nat.le_refl _)
  replace B := Lib.hid (B.out.trans (hb.mono B.out.size))
  replace Ra := Lib.hid (Ra.out.below hb (Nat.le_refl _))
  replace Rb := Lib.hid (Rb.out.below hb (Nat.le_refl _))
  replace XA := XA.later hb
  replace XB := XB.later hb
  have Q := Lib.hid (ho)
  clear hb
  obtain ⟨W2, hW⟩ : ∃ W, W = (w2.alloc (.cells #[.slice V2.xr V2.nr V2.cr, .slice V2.xf V2.nf V2.cf, .slice V2.xt V2.nt V2.ct, .int .i64 r.lo, .int .i64 r.al, .slice V2.xk V2.nk V2.ck, .int .i64 r.ka] 39)) := ⟨_, rfl⟩
  obtain ⟨axa0, axa1, axa2, axa3, axa4, axa5, axa6⟩ := ((XA.alloc (.cells #[.slice V2.xr V2.nr V2.cr, .slice V2.xf V2.nf V2.cf, .slice V2.xt V2.nt V2.ct, .int .i64 r.lo, .int .i64 r.al, .slice V2.xk V2.nk V2.ck, .int .i64 r.ka] 39))).cells
  obtain ⟨axb0, axb1, axb2, axb3, axb4, axb5, axb6⟩ := ((XB.alloc (.cells #[.slice V2.xr V2.nr V2.cr, .slice V2.xf V2.nf V2.cf, .slice V2.xt V2.nt V2.ct, .int .i64 r.lo, .int .i64 r.al, .slice V2.xk V2.nk V2.ck, .int .i64 r.ka] 39))).cells
  replace B := Lib.hid ((B.out).alloc (Nat.le_trans B.out.size (by simp)) (.cells #[.slice V2.xr V2.nr V2.cr, .slice V2.xf V2.nf V2.cf, .slice V2.xt V2.nt V2.ct, .int .i64 r.lo, .int .i64 r.al, .slice V2.xk V2.nk V2.ck, .int .i64 r.ka] 39))
  rw [← hW] at B
  replace Ra := Lib.hid (Ra.out.below ((Below.refl _ _).alloc (Nat.le_refl _) (.cells #[.slice V2.xr V2.nr V2.cr, .slice V2.xf V2.nf V2.cf, .slice V2.xt V2.nt V2.ct, .int .i64 r.lo, .int .i64 r.al, .slice V2.xk V2.nk V2.ck, .int .i64 r.ka] 39)) (Nat.le_refl _))
  rw [← hW] at Ra
  replace Rb := Lib.hid (Rb.out.below ((Below.refl _ _).alloc (Nat.le_refl _) (.cells #[.slice V2.xr V2.nr V2.cr, .slice V2.xf V2.nf V2.cf, .slice V2.xt V2.nt V2.ct, .int .i64 r.lo, .int .i64 r.al, .slice V2.xk V2.nk V2.ck, .int .i64 r.ka] 39)) (Nat.le_refl _))
  rw [← hW] at Rb
  replace XA := XA.alloc (.cells #[.slice V2.xr V2.nr V2.cr, .slice V2.xf V2.nf V2.cf, .slice V2.xt V2.nt V2.ct, .int .i64 r.lo, .int .i64 r.al, .slice V2.xk V2.nk V2.ck, .int .i64 r.ka] 39)
  rw [← hW] at XA
  replace XB := XB.alloc (.cells #[.slice V2.xr V2.nr V2.cr, .slice V2.xf V2.nf V2.cf, .slice V2.xt V2.nt V2.ct, .int .i64 r.lo, .int .i64 r.al, .slice V2.xk V2.nk V2.ck, .int .i64 r.ka] 39)
  rw [← hW] at XB
  replace Q := Lib.hid (Q.out.alloc (.cells #[.slice V2.xr V2.nr V2.cr, .slice V2.xf V2.nf V2.cf, .slice V2.xt V2.nt V2.ct, .int .i64 r.lo, .int .i64 r.al, .slice V2.xk V2.nk V2.ck, .int .i64 r.ka] 39))
  rw [← hW] at Q
  have Y := Box7.new w2 39 (.slice V2.xr V2.nr V2.cr) (.slice V2.xf V2.nf V2.cf) (.slice V2.xt V2.nt V2.ct) (.int .i64 r.lo) (.int .i64 r.al) (.slice V2.xk V2.nk V2.ck) (.int .i64 r.ka)
  rw [← hW] at Y
  go_wp2_with fail
  rw [← hW]
  clear hW axa0 axa1 axa2 axa3 axa4 axa5 axa6 axb0 axb1 axb2 axb3 axb4 axb5 axb6
  clear ho
  go_wp2_with fail
  refine (Kim.out W2 Ra.out Rb.out).mono ?_
  rintro e w3 ⟨V1, rfl, ho, hb⟩
  replace ho := ho.base (B' := w.heap.size) B.out.size (Nat.le_refl _) (Nat.le_refl _)
  replace B := Lib.hid (B.out.trans (hb.mono B.out.size))
  replace Ra := Lib.hid (Ra.out.below hb (Nat.le_refl _))
  replace Rb := Lib.hid (Rb.out.below hb (Nat.le_refl _))
  replace XA := XA.later hb
  replace XB := XB.later hb
  replace Q := Lib.hid (Q.out.below hb)
  replace Y := Y.later hb
  have P := Lib.hid (ho)
  clear hb
  obtain ⟨W3, hW⟩ : ∃ W, W = (w3.alloc (.cells #[.slice V1.xr V1.nr V1.cr, .slice V1.xf V1.nf V1.cf, .slice V1.xt V1.nt V1.ct, .int .i64 r.lo, .int .i64 r.al, .slice V1.xk V1.nk V1.ck, .int .i64 r.ka] 39)) := ⟨_, rfl⟩
  obtain ⟨ay0, ay1, ay2, ay3, ay4, ay5, ay6⟩ := ((Y.alloc (.cells #[.slice V1.xr V1.nr V1.cr, .slice V1.xf V1.nf V1.cf, .slice V1.xt V1.nt V1.ct, .int .i64 r.lo, .int .i64 r.al, .slice V1.xk V1.nk V1.ck, .int .i64 r.ka] 39))).cells
  replace B := Lib.hid ((B.out).alloc (Nat.le_trans B.out.size (by simp)) (.cells #[.slice V1.xr V1.nr V1.cr, .slice V1.xf V1.nf V1.cf, .slice V1.xt V1.nt V1.ct, .int .i64 r.lo, .int .i64 r.al, .slice V1.xk V1.nk V1.ck, .int .i64 r.ka] 39))
  rw [← hW] at B
  replace Ra := Lib.hid (Ra.out.below ((Below.refl _ _).alloc (Nat.le_refl _) (.cells #[.slice V1.xr V1.nr V1.cr, .slice V1.xf V1.nf V1.cf, .slice V1.xt V1.nt V1.ct, .int .i64 r.lo, .int .i64 r.al, .slice V1.xk V1.nk V1.ck, .int .i64 r.ka] 39)) (Nat.le_refl _))
  rw [← hW] at Ra
  replace Rb := Lib.hid (Rb.out.below ((Below.refl _ _).alloc (Nat.le_refl _) (.cells #[.slice V1.xr V1.nr V1.cr, .slice V1.xf V1.nf V1.cf, .slice V1.xt V1.nt V1.ct, .int .i64 r.lo, .int .i64 r.al, .slice V1.xk V1.nk V1.ck, .int .i64 r.ka] 39)) (Nat.le_refl _))
  rw [← hW] at Rb
  replace XA := XA.alloc (.cells #[.slice V1.xr V1.nr V1.cr, .slice V1.xf V1.nf V1.cf, .slice V1.xt V1.nt V1.ct, .int .i64 r.lo, .int .i64 r.al, .slice V1.xk V1.nk V1.ck, .int .i64 r.ka] 39)
  rw [← hW] at XA
  replace XB := XB.alloc (.cells #[.slice V1.xr V1.nr V1.cr, .slice V1.xf V1.nf V1.cf, .slice V1.xt V1.nt V1.ct, .int .i64 r.lo, .int .i64 r.al, .slice V1.xk V1.nk V1.ck, .int .i64 r.ka] 39)
  rw [← hW] at XB
  replace Q := Lib.hid (Q.out.alloc (.cells #[.slice V1.xr V1.nr V1.cr, .slice V1.xf V1.nf V1.cf, .slice V1.xt V1.nt V1.ct, .int .i64 r.lo, .int .i64 r.al, .slice V1.xk V1.nk V1.ck, .int .i64 r.ka] 39))
  rw [← hW] at Q
  replace Y := Y.alloc (.cells #[.slice V1.xr V1.nr V1.cr, .slice V1.xf V1.nf V1.cf, .slice V1.xt V1.nt V1.ct, .int .i64 r.lo, .int .i64 r.al, .slice V1.xk V1.nk V1.ck, .int .i64 r.ka] 39)
  rw [← hW] at Y
  replace P := Lib.hid (P.out.alloc (.cells #[.slice V1.xr V1.nr V1.cr, .slice V1.xf V1.nf V1.cf, .slice V1.xt V1.nt V1.ct, .int .i64 r.lo, .int .i64 r.al, .slice V1.xk V1.nk V1.ck, .int .i64 r.ka] 39))
  rw [← hW] at P
  have X := Box7.new w3 39 (.slice V1.xr V1.nr V1.cr) (.slice V1.xf V1.nf V1.cf) (.slice V1.xt V1.nt V1.ct) (.int .i64 r.lo) (.int .i64 r.al) (.slice V1.xk V1.nk V1.ck) (.int .i64 r.ka)
  rw [← hW] at X
  go_wp2_with fail
  rw [← hW]
  clear hW ay0 ay1 ay2 ay3 ay4 ay5 ay6
  clear ho
  clear Ksp Kim
  cases ok with
  | false =>
    refine (lkSum_same W3 V1 V2 r P.out.rd Q.out.rd SMr.out).mono ?_
    rintro e w4 ⟨rfl, hb⟩
    replace B := Lib.hid (B.out.trans (hb.mono B.out.size))
    replace Ra := Lib.hid (Ra.out.below hb (Nat.le_refl _))
    replace Rb := Lib.hid (Rb.out.below hb (Nat.le_refl _))
    replace XA := XA.later hb
    replace XB := XB.later hb
    replace Q := Lib.hid (Q.out.below hb)
    replace Y := Y.later hb
    replace P := Lib.hid (P.out.below hb)
    replace X := X.later hb
    clear hb
    obtain ⟨cx0, cx1, cx2, cx3, cx4, cx5, cx6⟩ := (X).cells
    obtain ⟨cy0, cy1, cy2, cy3, cy4, cy5, cy6⟩ := (Y).cells
    go_wp2_with fail
    refine (lkSum_same w4 V1 V2 r P.out.rd Q.out.rd SMr.out).mono ?_
    rintro e w5 ⟨rfl, hb⟩
    clear cx0 cx1 cx2 cx3 cx4 cx5 cx6 cy0 cy1 cy2 cy3 cy4 cy5 cy6
    replace B := Lib.hid (B.out.trans (hb.mono B.out.size))
    replace Ra := Lib.hid (Ra.out.below hb (Nat.le_refl _))
    replace Rb := Lib.hid (Rb.out.below hb (Nat.le_refl _))
    replace XA := XA.later hb
    replace XB := XB.later hb
    replace Q := Lib.hid (Q.out.below hb)
    replace Y := Y.later hb
    replace P := Lib.hid (P.out.below hb)
    replace X := X.later hb
    clear hb
    go_wp2
    go_ret
    exact ⟨rfl, B.out⟩
  | true =>
    have OK := Lib.hid (Ook.out rfl)
    clear Ook
    obtain ⟨oka, _, _⟩ := (joinOkS_iff sa sb).1 OK.out
    obtain ⟨j0, j1, j2, j3, j4, j5, j6⟩ := join_new ((okS_iff _).2 oka)
    have SMa := Lib.hid oka.small
    obtain ⟨z, hz⟩ : ∃ z, z = joinS sa newSm := ⟨_, rfl⟩
    rw [← hz] at j1 j2 j3 j4 j5 j6
    have KJ := Lib.hid (fun (W : World) (V : SV) (h1 : RdS W Va sa) (h2 : RdS W V newSm) => show Calls Tryz.prog 66 #[.agg #[.slice Va.xr Va.nr Va.cr, .slice Va.xf Va.nf Va.cf, .slice Va.xt Va.nt Va.ct, .int .i64 sa.lo, .int .i64 sa.al, .slice Va.xk Va.nk Va.ck, .int .i64 sa.ka], .agg #[.slice V.xr V.nr V.cr, .slice V.xf V.nf V.cf, .slice V.xt V.nt V.ct, .int .i64 newSm.lo, .int .i64 newSm.al, .slice V.xk V.nk V.ck, .int .i64 newSm.ka]] W fun e w' => ∃ U, e = .returned (.tuple #[.agg #[.slice U.xr U.nr U.cr, .slice U.xf U.nf U.cf, .slice U.xt U.nt U.ct, .int .i64 z.lo, .int .i64 z.al, .slice U.xk U.nk U.ck, .int .i64 z.ka], .bool true]) ∧ OwnS w' W.heap.size w'.heap.size U z ∧ Below W.heap.size W w' by have k := imSumJoin_at W Va V sa newSm h1 h2; rw [j0, ← hz] at k; exact k)
    have J1 := Lib.hid j1
    have J2 := Lib.hid j2
    have J3 := Lib.hid j3
    have J4 := Lib.hid j4
    have J5 := Lib.hid j5
    have J6 := Lib.hid j6
    clear j0 j1 j2 j3 j4 j5 j6 hz oka
    refine (lkSum_same W3 V1 V2 r P.out.rd Q.out.rd SMr.out).mono ?_
    rintro e w4 ⟨rfl, hb⟩
    replace B := Lib.hid (B.out.trans (hb.mono B.out.size))
    replace Ra := Lib.hid (Ra.out.below hb (Nat.le_refl _))
    replace Rb := Lib.hid (Rb.out.below hb (Nat.le_refl _))
    replace XA := XA.later hb
    replace XB := XB.later hb
    replace Q := Lib.hid (Q.out.below hb)
    replace Y := Y.later hb
    replace P := Lib.hid (P.out.below hb)
    replace X := X.later hb
    clear hb
    clear Y
    clear Q
    clear X
    clear P
    go_upto_region 8 with fail
    go_cut [9, 10] (fun sp sb wx => MadeS w4 z true sp sb wx)
    case first =>
      have D0 := Lib.hid ((Below.refl w4.heap.size w4).drew)
      have E0 := Lib.hid (D0.out.alloc D0.out.size (.cells #[.slice none 0 0, .slice none 0 0, .slice none 0 0, .int .i64 0, .int .i64 0, .slice none 0 0, .int .i64 0] 39))
      have E0n := Lib.hid (((Below.refl w4.heap.size w4).alloc (Nat.le_refl _) (.cells #[.slice none 0 0, .slice none 0 0, .slice none 0 0, .int .i64 0, .int .i64 0, .slice none 0 0, .int .i64 0] 39)).drew)
      have XE0 : Hid (Box7 (w4.drew.alloc (.cells #[.slice none 0 0, .slice none 0 0, .slice none 0 0, .int .i64 0, .int .i64 0, .slice none 0 0, .int .i64 0] 39)) w4.heap.size 39 (.slice none 0 0) (.slice none 0 0) (.slice none 0 0) (.int .i64 0) (.int .i64 0) (.slice none 0 0) (.int .i64 0)) := Lib.hid (Box7.new w4.drew _ _ _ _ _ _ _ _)
      have XE0n : Hid (Box7 (w4.alloc (.cells #[.slice none 0 0, .slice none 0 0, .slice none 0 0, .int .i64 0, .int .i64 0, .slice none 0 0, .int .i64 0] 39)).drew w4.heap.size 39 (.slice none 0 0) (.slice none 0 0) (.slice none 0 0) (.int .i64 0) (.int .i64 0) (.slice none 0 0) (.int .i64 0)) := Lib.hid (Box7.drew (Box7.new w4 _ _ _ _ _ _ _ _))
      have la := XA.lt
      have HS : Hid (∀ w', Below w4.heap.size w4 w' → w'.cell? ⟨w1.heap.size, 0, none⟩ = some (.slice Va.xr Va.nr Va.cr) ∧ w'.cell? ⟨w1.heap.size, 1, none⟩ = some (.slice Va.xf Va.nf Va.cf) ∧ w'.cell? ⟨w1.heap.size, 2, none⟩ = some (.slice Va.xt Va.nt Va.ct) ∧ w'.cell? ⟨w1.heap.size, 3, none⟩ = some (.int .i64 sa.lo) ∧ w'.cell? ⟨w1.heap.size, 4, none⟩ = some (.int .i64 sa.al) ∧ w'.cell? ⟨w1.heap.size, 5, none⟩ = some (.slice Va.xk Va.nk Va.ck) ∧ w'.cell? ⟨w1.heap.size, 6, none⟩ = some (.int .i64 sa.ka)) := fun w' h => (XA.below h la).cells
      obtain ⟨zxa0, zxa1, zxa2, zxa3, zxa4, zxa5, zxa6⟩ := (XA.drew).cells
      have RA := Lib.hid Ra.out
      clear XA XB B
      go_region_held3 (fun w' => w'.cell? ⟨w1.heap.size, 0, none⟩ = some (.slice Va.xr Va.nr Va.cr) ∧ w'.cell? ⟨w1.heap.size, 1, none⟩ = some (.slice Va.xf Va.nf Va.cf) ∧ w'.cell? ⟨w1.heap.size, 2, none⟩ = some (.slice Va.xt Va.nt Va.ct) ∧ w'.cell? ⟨w1.heap.size, 3, none⟩ = some (.int .i64 sa.lo) ∧ w'.cell? ⟨w1.heap.size, 4, none⟩ = some (.int .i64 sa.al) ∧ w'.cell? ⟨w1.heap.size, 5, none⟩ = some (.slice Va.xk Va.nk Va.ck) ∧ w'.cell? ⟨w1.heap.size, 6, none⟩ = some (.int .i64 sa.ka)) (first | with_reducible exact HS.out _ D0.out | with_reducible exact HS.out _ E0n.out | with_reducible exact HS.out _ Dan.out | with_reducible exact HS.out _ Ean.out | with_reducible exact HS.out _ Dcn.out | with_reducible exact HS.out _ (Dcn.out.alloc Dcn.out.size _) | exact HS.out _ (below_set7 Dcn.out (by first | exact Nat.le_refl _ | exact Dan.out.size) (.slice U.xr U.nr U.cr) (.slice U.xf U.nf U.cf) (.slice U.xt U.nt U.ct) (.int .i64 z.lo) (.int .i64 z.al) (.slice U.xk U.nk U.ck) (.int .i64 z.ka)))
       (first
  | (go_at_call 59; refine (imSumNew_at _).mono ?_; rintro e wa ⟨Vn, rfl, ho, hb⟩; (first | (with_reducible have Da := Lib.hid (E0.out.trans (hb.mono E0.out.size))) | (with_reducible have Da := Lib.hid (E0n.out.trans (hb.mono E0n.out.size))) | (with_reducible have Da := Lib.hid (D0.out.trans (hb.mono D0.out.size)))); have Ea := Lib.hid (Da.out.alloc Da.out.size (.cells #[.slice none 0 0, .slice none 0 0, .slice none 0 0, .int .i64 0, .int .i64 0, .slice none 0 0, .int .i64 0] 39)); have Dan := Da; have Ean := Ea; have XEa := Lib.hid (Box7.new wa 39 (.slice none 0 0) (.slice none 0 0) (.slice none 0 0) (.int .i64 0) (.int .i64 0) (.slice none 0 0) (.int .i64 0)); (first | (with_reducible have XP := Lib.hid (XE0.out.later hb)) | (with_reducible have XP := Lib.hid (XE0n.out.later hb)) | skip); have Oa := Lib.hid ho; have OEa := Lib.hid (ho.alloc (.cells #[.slice none 0 0, .slice none 0 0, .slice none 0 0, .int .i64 0, .int .i64 0, .slice none 0 0, .int .i64 0] 39)); obtain ⟨k0, k1, k2, k3, k4, k5, k6⟩ := HS.out _ Da.out; clear ho hb)
  | (go_at_call 66; (first | (with_reducible refine (KJ.out _ Vn (RA.out.below Dan.out (Nat.le_refl _)) Oa.out.rd).mono ?_) | (with_reducible refine (KJ.out _ Vn (RA.out.below Ean.out (Nat.le_refl _)) OEa.out.rd).mono ?_)); rintro e wc ⟨U, rfl, ho, hb⟩; (first | (with_reducible have Dc := Lib.hid (Ea.out.trans (hb.mono Ea.out.size))) | (with_reducible have Dc := Lib.hid (Da.out.trans (hb.mono Da.out.size)))); (first | (with_reducible have XP2 := Lib.hid (XEa.out.later hb)) | (with_reducible have XP2 := Lib.hid (XP.out.later hb)) | skip); (try (obtain ⟨p0, p1, p2, p3, p4, p5, p6⟩ := XP2.out.cells; have fp := XP2.out.free)); have Oc := Lib.hid ho; have Dcn := Dc; clear ho hb))
      all_goals (go_wp2_with fail; go_meet)
      all_goals first
        | (with_reducible exact MadeS.last Dc.out Da.out.size Oc.out)
        | (with_reducible exact MadeS.last Dc.out Ea.out.size Oc.out)
        | exact MadeS.stored Dc.out Da.out.size Oc.out (Nat.le_refl _) XP2.out
        | exact MadeS.stored Dc.out Da.out.size Oc.out Da.out.size XP2.out
        | exact MadeS.stored Dc.out Ea.out.size Oc.out Da.out.size XP2.out
    case rest =>
      obtain ⟨P9, U, rfl, rfl, G⟩ := hcut
      have hb := G.below
      replace B := Lib.hid (B.out.trans (hb.mono B.out.size))
      replace Ra := Lib.hid (Ra.out.below hb (Nat.le_refl _))
      replace Rb := Lib.hid (Rb.out.below hb (Nat.le_refl _))
      replace XA := XA.later hb
      replace XB := XB.later hb
      have N := Lib.hid G.own
      have XY := G.box.box
      clear G hb
      rw [J4.out, J5.out, J6.out] at XY
      obtain ⟨cxa0, cxa1, cxa2, cxa3, cxa4, cxa5, cxa6⟩ := (XA).cells
      obtain ⟨cxy0, cxy1, cxy2, cxy3, cxy4, cxy5, cxy6⟩ := (XY).cells
      go_wp2_with fail
      refine (lkRough_yes wc _ _ sa.rs (by rw [← J1.out]; exact N.out.rd.r) Ra.out.r SMa.out.r).mono ?_
      rintro e w5 ⟨rfl, hb⟩
      clear cxa0 cxa1 cxa2 cxa3 cxa4 cxa5 cxa6 cxy0 cxy1 cxy2 cxy3 cxy4 cxy5 cxy6
      replace B := Lib.hid (B.out.trans (hb.mono B.out.size))
      replace Ra := Lib.hid (Ra.out.below hb (Nat.le_refl _))
      replace Rb := Lib.hid (Rb.out.below hb (Nat.le_refl _))
      replace XA := XA.later hb
      replace XB := XB.later hb
      replace N := Lib.hid (N.out.below hb)
      replace XY := XY.later hb
      clear hb
      obtain ⟨cxa0, cxa1, cxa2, cxa3, cxa4, cxa5, cxa6⟩ := (XA).cells
      obtain ⟨cxy0, cxy1, cxy2, cxy3, cxy4, cxy5, cxy6⟩ := (XY).cells
      go_wp2_with fail
      refine (lkInts_yes w5 _ _ sa.zs (by rw [← J2.out]; exact N.out.rd.f) Ra.out.f SMa.out.f).mono ?_
      rintro e w6 ⟨rfl, hb⟩
      clear cxa0 cxa1 cxa2 cxa3 cxa4 cxa5 cxa6 cxy0 cxy1 cxy2 cxy3 cxy4 cxy5 cxy6
      replace B := Lib.hid (B.out.trans (hb.mono B.out.size))
      replace Ra := Lib.hid (Ra.out.below hb (Nat.le_refl _))
      replace Rb := Lib.hid (Rb.out.below hb (Nat.le_refl _))
      replace XA := XA.later hb
      replace XB := XB.later hb
      replace N := Lib.hid (N.out.below hb)
      replace XY := XY.later hb
      clear hb
      obtain ⟨cxa0, cxa1, cxa2, cxa3, cxa4, cxa5, cxa6⟩ := (XA).cells
      obtain ⟨cxy0, cxy1, cxy2, cxy3, cxy4, cxy5, cxy6⟩ := (XY).cells
      go_wp2_with fail
      refine (T.lkTop_same w6 _ _ sa.ps sa.lo sa.al (by rw [← J3.out]; exact N.out.rd.t) Ra.out.t (by have := SMa.out.t; omega)).mono ?_
      rintro e w7 ⟨rfl, hb⟩
      clear cxa0 cxa1 cxa2 cxa3 cxa4 cxa5 cxa6 cxy0 cxy1 cxy2 cxy3 cxy4 cxy5 cxy6
      replace B := Lib.hid (B.out.trans (hb.mono B.out.size))
      replace Ra := Lib.hid (Ra.out.below hb (Nat.le_refl _))
      replace Rb := Lib.hid (Rb.out.below hb (Nat.le_refl _))
      replace XA := XA.later hb
      replace XB := XB.later hb
      replace N := Lib.hid (N.out.below hb)
      replace XY := XY.later hb
      clear hb
      obtain ⟨cxa0, cxa1, cxa2, cxa3, cxa4, cxa5, cxa6⟩ := (XA).cells
      obtain ⟨cxy0, cxy1, cxy2, cxy3, cxy4, cxy5, cxy6⟩ := (XY).cells
      go_wp2
      go_ret
      exact ⟨by first | rfl | (simp; done), B.out⟩

/-! ### THE ROW's STEP: WRITTEN OUT: LEAVE IT -/
set_option maxRecDepth 100000 in
theorem lifted (os : Os) (started : os.Started) (H : Type) (enc : TypeId × Value → H) :
    ReturnsInHanded {} Tryz.checked os 20 .any (Rows.fnSumJoinNewSpec.pre6 enc Tryz.prog Tryz.f20 Rows.fnSumJoinNewRow.domain false) (Rows.fnSumJoinNewSpec.post enc Tryz.prog Tryz.f20 false true false false) := by
  refine returnsInHanded_of_change (C := Tryz.checked) own started (by kernel_rfl) Tryz.func20
    (ChangeSpec.witness6 (enc := enc) (C := Tryz.checked) false ⟨#[], #[.slice none 0 0], []⟩ 8 (by kernel_rfl) (by kernel_rfl) (by kernel_rfl) (by kernel_rfl)) ?_
  intro W base args ds gs before hval0 hW hcnd _
  have hval : ∀ (j : Nat) t v, Tryz.f20.params[j]? = some t → args[j]? = some v → Value.okWide Tryz.prog W .any base t v := hval0
  have hW' := hW
  obtain ⟨p, q, hA0, hV, rfl, hfz, hnd⟩ := hW
  have hA : DataW.TrodAll enc Tryz.prog W 0 (fun _ => true) true Tryz.f20.params.toList args.toList ds p := hA0
  rw [Tryz.params20] at hA hval
  obtain ⟨v0, vs0, d0, ds0, p0, q0, hargs, rfl, rfl, h0, r0⟩ := trodAll_cons hA
  obtain ⟨rfl, rfl, rfl⟩ := trodAll_nil r0
  obtain rfl : args = #[v0] := by cases args; simp_all
  obtain ⟨rfl, rfl⟩ := trodVars_none hV
  obtain ⟨a0, len0, cap0, rfl⟩ := okWide_slice Tryz.underlying22 (hval 0 22 v0 rfl rfl)
  have k0 := h0
  have lt0 : ∀ x ∈ p0, x.block < W.heap.size := by obtain ⟨m, hm⟩ := k0; exact DataW.trod_lt m _ _ _ hm
  obtain ⟨z0, w0⟩ : ∃ zs, IsRow .u8 W a0 len0 cap0 zs := by
    obtain ⟨fuel, hf⟩ := h0
    rcases open_ints Tryz.underlying22 Tryz.underlying5 (by kernel_rfl) hf with ⟨hcs, _⟩ | ⟨x, l, c, zs, hcs, _, hl, hm, hz, _, hcell, hwz⟩
    · simp [Value.cells] at hcs
      obtain ⟨rfl, rfl, rfl⟩ := hcs
      exact ⟨[], .inl ⟨rfl, rfl, rfl, rfl⟩⟩
    · simp [Value.cells] at hcs
      obtain ⟨rfl, rfl, rfl⟩ := hcs
      exact ⟨zs, .inr ⟨_, rfl, hl, hm, by simpa using hz, hcell, hwz⟩⟩
  clear hA0 hval0
  refine (walk a0 len0 cap0 z0 W w0).mono fun e W' ⟨he, bel⟩ => ?_
  subst he
  exact ⟨_, rfl, _, _, _, [], _, [], hW', trodAll_mk1 (shut_bool Tryz.underlying4 _), (trodAll_cons_mk (Below.trod laidOut (by kernel_rfl) (of_decide_eq_true (by kernel_rfl)) k0 bel lt0) trodAll_mk0), rfl, bel.frame _, fun h => by cases h⟩

theorem over : Rows.fnSumJoinNewRow.holds Tryz.pinned (OpenSpec.ofChange Rows.fnSumJoinNewSpec) :=
  OpenClaim.holds_of_wide 20 Tryz.f20 rfl rfl rfl rfl rfl rfl rfl ⟨rfl, rfl, rfl, rfl, rfl⟩ rfl rfl rfl rfl rfl (by kernel_rfl) Tryz.func20 (by show joinedFacts Tryz.prog _ _ _ _ = true; unfold joinedFacts; rw [mayE, liftF, makeC]; kernel_rfl)
    (of_decide_eq_true (by kernel_rfl)) (by unfold Func.isWrapper; first | (rw [if_pos (by decide +kernel)]; kernel_rfl) | (rw [if_neg (by decide +kernel)]; exact ⟨rfl, rfl⟩))
    (fun os started H enc _ => lifted os started H enc)

theorem proved : Rows.FnSumJoinNewSaid := over
#print axioms proved
end Go.Proofs.YtnoilafoeaknjaaGreat.fnSumJoinNew
