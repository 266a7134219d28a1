/-
  The statement of the law FnSumOfSwap: at every input the call returns true and leaves what it was given as it was. The frame is the kit's shell; the walk is ours.
-/
import Derived.Test.YtnoilafoeaknjaaGreatZImOf
import Derived.Test.YtnoilafoeaknjaaGreatZSpOf
import Derived.Test.YtnoilafoeaknjaaGreatZDraw
import Derived.Test.YtnoilafoeaknjaaGreatZLk
import Derived.Test.YtnoilafoeaknjaaGreatZImGet
import Derived.Test.YtnoilafoeaknjaaGreatZCut
import Derived.Deep.RegionWith
import Derived.Test.YtnoilafoeaknjaaGreatRows
import Derived.Test.YtnoilafoeaknjaaGreatMk
import Derived.WalkKit
import Derived.ProofKit
import Derived.OpenShut
import Derived.ShutString
import Derived.ChangeOld
import Derived.Below
namespace Go.Proofs.YtnoilafoeaknjaaGreat.fnSumOfSwap
open Go.ChangeShapes Go.WideShapes Go.ChangeAt Go.RowKit
open Go.ChangeMaps (open_string shut_string)
set_option linter.unusedVariables false

theorem own : ownKnob Tryz.prog.godebug = none := by kernel_rfl
theorem laidOut : laidOutB Tryz.prog = true := by kernel_rfl

/-- WHAT THE WALK IS TOLD OF A SLICE OF INTEGERS THAT CAME IN: it is nil; or it leads to a row of 'cap' cells, the numbers 'zs' (the first 'len' are its elements, the rest its spare room), each fitting its kind. -/
def IsRow (k : IntKind) (w : World) (a : Option Addr) (len cap : Nat) (zs : List Int) : Prop :=
  (a = none ∧ len = 0 ∧ cap = 0 ∧ zs = []) ∨
  ∃ x, a = some x ∧ len ≤ cap ∧ cap ≤ maxLen ∧ zs.length = cap ∧ (∀ i, i < zs.length → w.cell? (x.add i) = some (.int k (zs.getD i 0))) ∧ ∀ n ∈ zs, (Lit.int k n).wf = true

/-! ### STEP 1: THE WALK: the Go text returns true, AND WRITES NOTHING THAT WAS THERE: 'Below w.heap.size w w'' (Derived/Below.lean: '.refl', '.alloc', '.drew', '.setCell' at a new block, '.trans'). Open each 'IsRow' by 'rcases' AHEAD of 'go_enter'; part every test ahead of the walk. -/
set_option maxRecDepth 100000 in
set_option maxHeartbeats 16000000 in
theorem walk (a0 : Option Addr) (len0 cap0 : Nat) (z0 : List Int) (w : World) (w0 : IsRow .u8 w a0 len0 cap0 z0) :
    Calls Tryz.prog 17 #[.slice a0 len0 cap0] w fun e w' => e = .returned (.bool true) ∧ Below w.heap.size w w' := by
  obtain ⟨hb, hl⟩ := bts_of w a0 len0 cap0 z0 w0
  rcases hl with hl | hl
  · go_enter Tryz.func17, Tryz.ntmps17
    go_wp2
    go_ret
    exact ⟨rfl, Below.refl _ _⟩
  have HB := Lib.hid hb
  clear hb w0
  have B := Lib.hid (Below.refl w.heap.size w)
  go_enter Tryz.func17, Tryz.ntmps17
  go_wp2_with fail
  refine (drawSumOf_at w _ len0 ⟨_, _, rfl⟩ (bts_below HB.out B.out)).mono ?_
  rintro e w1 ⟨x0, c0, l, rfl, ho, hlen, hb⟩
  obtain ⟨n0, hn⟩ : ∃ n, n = l.length := ⟨_, rfl⟩
  rw [← hn] at ho hlen ⊢
  have Hn0 := Lib.hid hn
  have Mn0 := Lib.hid hlen
  clear hn
  replace B := Lib.hid (B.out.trans (hb.mono B.out.size))
  have Ll := Lib.hid (ho.rd)
  clear hb
  clear ho hlen
  obtain ⟨s, hs⟩ : ∃ s, s = upS l := ⟨_, rfl⟩
  have Hs := Lib.hid hs
  have SMs := Lib.hid (show Small s by rw [hs]; exact up_small l)
  have Kiml := Lib.hid (fun (W : World) (h : Ints W (.slice x0 n0 c0) l) => show Calls Tryz.prog 30 #[.slice x0 n0 c0] W fun e w' => ∃ U, e = .returned (.tuple #[.agg #[.slice U.xr U.nr U.cr, .slice U.xf U.nf U.cf, .slice U.xt U.nt U.ct, .int .i64 s.lo, .int .i64 s.al, .slice U.xk U.nk U.ck, .int .i64 s.ka], .bool (okS s)]) ∧ OwnS w' W.heap.size w'.heap.size U s ∧ Below W.heap.size W w' by rw [hs]; exact imSumOf_at W x0 n0 c0 l h)
  have Kspl := Lib.hid (fun (W : World) (h : Ints W (.slice x0 n0 c0) l) => show Calls Tryz.prog 31 #[.slice x0 n0 c0] W fun e w' => ∃ U, e = .returned (.tuple #[.agg #[.slice U.xr U.nr U.cr, .slice U.xf U.nf U.cf, .slice U.xt U.nt U.ct, .int .i64 s.lo, .int .i64 s.al, .slice U.xk U.nk U.ck, .int .i64 s.ka], .bool (okS s)]) ∧ OwnS w' W.heap.size w'.heap.size U s ∧ Below W.heap.size W w' by rw [hs]; exact spSumOf_at W x0 n0 c0 l h)
  have Ook := Lib.hid (fun (q : okS s = true) => show okS (upS l) = true by rw [← hs]; exact q)
  clear hs
  generalize okS s = ok at Kiml Kspl Ook
  have K1 := Kspl.out w1 Ll.out
  go_wp2_with fail
  refine (K1).mono ?_
  rintro e w2 ⟨V2, rfl, ho, hb⟩
  clear K1
  replace ho := ho.base (B' := w.heap.size) B.out.size (Nat.le_refl _) (Nat.le_refl _)
  replace B := Lib.hid (B.out.trans (hb.mono B.out.size))
  replace Ll := Lib.hid (Ll.out.below hb (Nat.le_refl _))
  have Q := Lib.hid (ho)
  clear hb
  obtain ⟨W2, hW⟩ : ∃ W, W = (w2.alloc (.cells #[.slice V2.xr V2.nr V2.cr, .slice V2.xf V2.nf V2.cf, .slice V2.xt V2.nt V2.ct, .int .i64 s.lo, .int .i64 s.al, .slice V2.xk V2.nk V2.ck, .int .i64 s.ka] 39)) := ⟨_, rfl⟩
  replace B := Lib.hid ((B.out).alloc (Nat.le_trans B.out.size (by simp)) (.cells #[.slice V2.xr V2.nr V2.cr, .slice V2.xf V2.nf V2.cf, .slice V2.xt V2.nt V2.ct, .int .i64 s.lo, .int .i64 s.al, .slice V2.xk V2.nk V2.ck, .int .i64 s.ka] 39))
  rw [← hW] at B
  replace Ll := Lib.hid (Ll.out.below ((Below.refl _ _).alloc (Nat.le_refl _) (.cells #[.slice V2.xr V2.nr V2.cr, .slice V2.xf V2.nf V2.cf, .slice V2.xt V2.nt V2.ct, .int .i64 s.lo, .int .i64 s.al, .slice V2.xk V2.nk V2.ck, .int .i64 s.ka] 39)) (Nat.le_refl _))
  rw [← hW] at Ll
  replace Q := Lib.hid (Q.out.alloc (.cells #[.slice V2.xr V2.nr V2.cr, .slice V2.xf V2.nf V2.cf, .slice V2.xt V2.nt V2.ct, .int .i64 s.lo, .int .i64 s.al, .slice V2.xk V2.nk V2.ck, .int .i64 s.ka] 39))
  rw [← hW] at Q
  have Y := Box7.new w2 39 (.slice V2.xr V2.nr V2.cr) (.slice V2.xf V2.nf V2.cf) (.slice V2.xt V2.nt V2.ct) (.int .i64 s.lo) (.int .i64 s.al) (.slice V2.xk V2.nk V2.ck) (.int .i64 s.ka)
  rw [← hW] at Y
  go_wp2_with fail
  rw [← hW]
  clear hW
  clear ho
  have K1 := Kiml.out W2 Ll.out
  go_wp2_with fail
  refine (K1).mono ?_
  rintro e w3 ⟨V1, rfl, ho, hb⟩
  clear K1
  replace ho := ho.base (B' := w.heap.size) B.out.size (Nat.le_refl _) (Nat.le_refl _)
  replace B := Lib.hid (B.out.trans (hb.mono B.out.size))
  replace Ll := Lib.hid (Ll.out.below hb (Nat.le_refl _))
  replace Q := Lib.hid (Q.out.below hb)
  replace Y := Y.later hb
  have P := Lib.hid (ho)
  clear hb
  obtain ⟨W3, hW⟩ : ∃ W, W = (w3.alloc (.cells #[.slice V1.xr V1.nr V1.cr, .slice V1.xf V1.nf V1.cf, .slice V1.xt V1.nt V1.ct, .int .i64 s.lo, .int .i64 s.al, .slice V1.xk V1.nk V1.ck, .int .i64 s.ka] 39)) := ⟨_, rfl⟩
  obtain ⟨ay0, ay1, ay2, ay3, ay4, ay5, ay6⟩ := ((Y.alloc (.cells #[.slice V1.xr V1.nr V1.cr, .slice V1.xf V1.nf V1.cf, .slice V1.xt V1.nt V1.ct, .int .i64 s.lo, .int .i64 s.al, .slice V1.xk V1.nk V1.ck, .int .i64 s.ka] 39))).cells
  replace B := Lib.hid ((B.out).alloc (Nat.le_trans B.out.size (by simp)) (.cells #[.slice V1.xr V1.nr V1.cr, .slice V1.xf V1.nf V1.cf, .slice V1.xt V1.nt V1.ct, .int .i64 s.lo, .int .i64 s.al, .slice V1.xk V1.nk V1.ck, .int .i64 s.ka] 39))
  rw [← hW] at B
  replace Ll := Lib.hid (Ll.out.below ((Below.refl _ _).alloc (Nat.le_refl _) (.cells #[.slice V1.xr V1.nr V1.cr, .slice V1.xf V1.nf V1.cf, .slice V1.xt V1.nt V1.ct, .int .i64 s.lo, .int .i64 s.al, .slice V1.xk V1.nk V1.ck, .int .i64 s.ka] 39)) (Nat.le_refl _))
  rw [← hW] at Ll
  replace Q := Lib.hid (Q.out.alloc (.cells #[.slice V1.xr V1.nr V1.cr, .slice V1.xf V1.nf V1.cf, .slice V1.xt V1.nt V1.ct, .int .i64 s.lo, .int .i64 s.al, .slice V1.xk V1.nk V1.ck, .int .i64 s.ka] 39))
  rw [← hW] at Q
  replace Y := Y.alloc (.cells #[.slice V1.xr V1.nr V1.cr, .slice V1.xf V1.nf V1.cf, .slice V1.xt V1.nt V1.ct, .int .i64 s.lo, .int .i64 s.al, .slice V1.xk V1.nk V1.ck, .int .i64 s.ka] 39)
  rw [← hW] at Y
  replace P := Lib.hid (P.out.alloc (.cells #[.slice V1.xr V1.nr V1.cr, .slice V1.xf V1.nf V1.cf, .slice V1.xt V1.nt V1.ct, .int .i64 s.lo, .int .i64 s.al, .slice V1.xk V1.nk V1.ck, .int .i64 s.ka] 39))
  rw [← hW] at P
  have X := Box7.new w3 39 (.slice V1.xr V1.nr V1.cr) (.slice V1.xf V1.nf V1.cf) (.slice V1.xt V1.nt V1.ct) (.int .i64 s.lo) (.int .i64 s.al) (.slice V1.xk V1.nk V1.ck) (.int .i64 s.ka)
  rw [← hW] at X
  go_wp2_with fail
  rw [← hW]
  clear hW ay0 ay1 ay2 ay3 ay4 ay5 ay6
  clear ho
  cases ok with
  | false =>
    refine (lkSum_same W3 V1 V2 s P.out.rd Q.out.rd SMs.out).mono ?_
    rintro e w4 ⟨rfl, hb⟩
    replace B := Lib.hid (B.out.trans (hb.mono B.out.size))
    replace Ll := Lib.hid (Ll.out.below hb (Nat.le_refl _))
    replace Q := Lib.hid (Q.out.below hb)
    replace Y := Y.later hb
    replace P := Lib.hid (P.out.below hb)
    replace X := X.later hb
    clear hb
    obtain ⟨cx0, cx1, cx2, cx3, cx4, cx5, cx6⟩ := (X).cells
    obtain ⟨cy0, cy1, cy2, cy3, cy4, cy5, cy6⟩ := (Y).cells
    go_wp2_with fail
    refine (lkSum_same w4 V1 V2 s P.out.rd Q.out.rd SMs.out).mono ?_
    rintro e w5 ⟨rfl, hb⟩
    clear cx0 cx1 cx2 cx3 cx4 cx5 cx6 cy0 cy1 cy2 cy3 cy4 cy5 cy6
    replace B := Lib.hid (B.out.trans (hb.mono B.out.size))
    replace Ll := Lib.hid (Ll.out.below hb (Nat.le_refl _))
    replace Q := Lib.hid (Q.out.below hb)
    replace Y := Y.later hb
    replace P := Lib.hid (P.out.below hb)
    replace X := X.later hb
    clear hb
    go_wp2
    go_ret
    exact ⟨rfl, B.out⟩
  | true =>
    have OK := Lib.hid (Ook.out rfl)
    clear Ook
    have LT := Lib.hid (okS_up OK.out).2
    have FS := Lib.hid (fold_swap l LT.out (by have := Mn0.out; rw [Hn0.out] at this; omega))
    have OK2 := Lib.hid (up_fine (l := l.reverse) (fun t ht => LT.out t (List.mem_reverse.1 ht)) (by have := Mn0.out; rw [Hn0.out] at this; rw [List.length_reverse]; omega))
    obtain ⟨s2, hs2⟩ : ∃ s2, s2 = upS l.reverse := ⟨_, rfl⟩
    have H2 := Lib.hid hs2
    clear hs2
    have E1 := Lib.hid (show s2.rs = s.rs by rw [H2.out, Hs.out]; exact FS.out.1)
    have E2 := Lib.hid (show s2.zs = s.zs by rw [H2.out, Hs.out]; exact FS.out.2)
    have E3 := Lib.hid (show s2.al = s.al by rw [H2.out, Hs.out, (okS_up OK2.out).1, (okS_up OK.out).1, List.length_reverse])
    clear FS LT
    refine (lkSum_same W3 V1 V2 s P.out.rd Q.out.rd SMs.out).mono ?_
    rintro e w4 ⟨rfl, hb⟩
    replace B := Lib.hid (B.out.trans (hb.mono B.out.size))
    replace Ll := Lib.hid (Ll.out.below hb (Nat.le_refl _))
    replace Q := Lib.hid (Q.out.below hb)
    replace Y := Y.later hb
    replace P := Lib.hid (P.out.below hb)
    replace X := X.later hb
    clear hb
    clear Y
    clear Q
    obtain ⟨i0, hi, hz0, hz1, hz2⟩ := info_parts K.int_info
    have HZ : Hid (∀ k, k < n0 → ∃ b o, x0 = some ⟨b, o, none⟩ ∧ w4.cell? ⟨b, o + k, none⟩ = some (.int .i64 (l.getD k 0))) := fun i hi => by
      rcases Ll.out with ⟨e, _⟩ | ⟨b, o, c', e, _, _, hb, hc⟩
      · simp at e; omega
      · exact ⟨b, o, (Value.slice.inj e).1, hc i (by rw [← Hn0.out]; exact hi)⟩
    have O0 := Lib.hid (show K.OwnL (w4.alloc (.cells #[] 3)) w4.heap.size (.slice (some ⟨w4.heap.size, 0, none⟩) 0 0) [] from K.int_empty w4 w4.heap.size (Nat.le_refl _))
    have wn : IntKind.i64.wrap ((n0 : Int) - 1) = (n0 : Int) - 1 := IntWalk.i64_in _ (by have := Mn0.out; omega)
    go_wp2
    go_loopw [8, 9] (fun u i wr => ∃ (k : Nat) (q : Int) (os : List Int), k ≤ n0 ∧ i = .int .i64 q ∧ q = (k : Int) - 1 ∧ os = (l.drop k).reverse ∧ os.length + k = n0 ∧ K.OwnL wr w4.heap.size u os ∧ Below w4.heap.size w4 wr) (fun _ i _ => (intOf i + 1).toNat)
    case atStart => exact ⟨n0, _, [], Nat.le_refl _, rfl, rfl, by rw [Hn0.out]; simp, by simp, O0.out, (Below.refl _ _).alloc (Nat.le_refl _) _⟩
    case round =>
      clear O0
      obtain ⟨k, q, os, hk, rfl, hq, hg, hle, ho, hB⟩ := hrel
      obtain ⟨p, cp, hu⟩ := ho.form
      obtain ⟨no, hno⟩ : ∃ no, no = os.length := ⟨_, rfl⟩
      rw [← hno] at hu hle
      subst hu
      have HNO := Lib.hid hno
      have G := Lib.hid hg
      have O := Lib.hid (show wr.ownsRow w4.heap.size 3 1 (.slice p no cp) no (ints os) by have h := ho; unfold K.OwnL at h; rw [← hno] at h; exact h)
      have OL := Lib.hid ho
      have BB := Lib.hid hB
      clear hno hg ho hB
      have hm := Mn0.out
      cases k with
      | succ k =>
        have hlt : k < n0 := by omega
        obtain rfl : q = (k : Int) := by omega
        obtain ⟨b, o, rfl, h1⟩ := HZ.out k hlt
        have ts := Lib.hid (rev_snoc l k (by rw [← Hn0.out]; exact hlt))
        have h2 := cell_later BB.out h1
        have bs := BB.out.size
        obtain ⟨z, hz⟩ : ∃ z, l.getD k 0 = z := ⟨_, rfl⟩
        rw [hz] at h2 ts
        have e1 := ts.out
        rw [← G.out] at e1
        have TS := Lib.hid e1
        have k0 : (0 : Int) ≤ (k : Int) := by omega
        have kn : (k : Int) < (n0 : Int) := by omega
        have wk : IntKind.i64.wrap ((k : Int) - 1) = (k : Int) - 1 := IntWalk.i64_in _ (by omega)
        clear hz h1 e1 ts hq wn
        go_wp2_with (first | (at_builtin; refine wpList_append_own _ rfl _ _ 23 rfl w4.heap.size 3 i0 (.int .i64 0) 1 8 Tryz.underlying23 hi hz0 hz1 hz2 rfl (by decide) _ _ _ rfl (O.out.alloc _) ⟨wr.heap.size, 0, none⟩ 1 1 [.int .i64 z] rfl rfl (cell_one_new _ _ _) (by simp [Value.oneCell']) (by unfold maxLen; omega) (by omega) (by simp; omega) ?_; intro v1 w1' ho1 hg1 _; obtain ⟨g_v1, c_v1, rfl, _, _⟩ := World.ownsRow.form ho1 (Nat.succ_pos _)))
        go_roundw
        case rel => exact ⟨k, _, os ++ [z], by omega, rfl, rfl, TS.out.symm, by simp; rw [← HNO.out]; omega, K.own_snocL ho1 HNO.out, (BB.out.alloc BB.out.size _).grown hg1 (BB.out.alloc BB.out.size _).size (fun k e => (World.ownsRow.lt O.out k e).1)⟩
        case measure => first | (simp [intOf]; done) | (simp [intOf]; omega)
      | zero =>
        obtain rfl : q = -1 := by omega
        have R := Lib.hid (show os = l.reverse by rw [G.out, List.drop_zero])
        have os' := OL.out.rd
        have KB := imSumOf_at wr p no cp os (by have h := OL.out.rd; exact h)
        rw [R.out, OK2.out, ← H2.out] at KB
        have D := BB
        clear R G OL O HZ hz0 hz1 hz2 hi hle hk hq
        clear os'
        replace B := Lib.hid (B.out.trans (D.out.mono B.out.size))
        replace P := Lib.hid (P.out.below D.out)
        replace X := X.later D.out
        clear D BB hm
        go_wp2_with fail
        refine (KB).mono ?_
        rintro e w5 ⟨V3, rfl, ho, hb⟩
        clear KB
        replace B := Lib.hid (B.out.trans (hb.mono B.out.size))
        replace P := Lib.hid (P.out.below hb)
        replace X := X.later hb
        have N := Lib.hid (ho)
        clear hb
        obtain ⟨W5, hW⟩ : ∃ W, W = (w5.alloc (.cells #[.slice V3.xr V3.nr V3.cr, .slice V3.xf V3.nf V3.cf, .slice V3.xt V3.nt V3.ct, .int .i64 s2.lo, .int .i64 s2.al, .slice V3.xk V3.nk V3.ck, .int .i64 s2.ka] 39)) := ⟨_, rfl⟩
        obtain ⟨ax0, ax1, ax2, ax3, ax4, ax5, ax6⟩ := ((X.alloc (.cells #[.slice V3.xr V3.nr V3.cr, .slice V3.xf V3.nf V3.cf, .slice V3.xt V3.nt V3.ct, .int .i64 s2.lo, .int .i64 s2.al, .slice V3.xk V3.nk V3.ck, .int .i64 s2.ka] 39))).cells
        replace B := Lib.hid ((B.out).alloc (Nat.le_trans B.out.size (by simp)) (.cells #[.slice V3.xr V3.nr V3.cr, .slice V3.xf V3.nf V3.cf, .slice V3.xt V3.nt V3.ct, .int .i64 s2.lo, .int .i64 s2.al, .slice V3.xk V3.nk V3.ck, .int .i64 s2.ka] 39))
        rw [← hW] at B
        replace P := Lib.hid (P.out.alloc (.cells #[.slice V3.xr V3.nr V3.cr, .slice V3.xf V3.nf V3.cf, .slice V3.xt V3.nt V3.ct, .int .i64 s2.lo, .int .i64 s2.al, .slice V3.xk V3.nk V3.ck, .int .i64 s2.ka] 39))
        rw [← hW] at P
        replace X := X.alloc (.cells #[.slice V3.xr V3.nr V3.cr, .slice V3.xf V3.nf V3.cf, .slice V3.xt V3.nt V3.ct, .int .i64 s2.lo, .int .i64 s2.al, .slice V3.xk V3.nk V3.ck, .int .i64 s2.ka] 39)
        rw [← hW] at X
        replace N := Lib.hid (N.out.alloc (.cells #[.slice V3.xr V3.nr V3.cr, .slice V3.xf V3.nf V3.cf, .slice V3.xt V3.nt V3.ct, .int .i64 s2.lo, .int .i64 s2.al, .slice V3.xk V3.nk V3.ck, .int .i64 s2.ka] 39))
        rw [← hW] at N
        have X3 := Box7.new w5 39 (.slice V3.xr V3.nr V3.cr) (.slice V3.xf V3.nf V3.cf) (.slice V3.xt V3.nt V3.ct) (.int .i64 s2.lo) (.int .i64 s2.al) (.slice V3.xk V3.nk V3.ck) (.int .i64 s2.ka)
        rw [← hW] at X3
        go_wp2_with fail
        rw [← hW]
        clear hW ax0 ax1 ax2 ax3 ax4 ax5 ax6
        clear ho
        refine (lkRough_yes W5 _ _ s.rs (by rw [← E1.out]; exact N.out.rd.r) P.out.rd.r SMs.out.r).mono ?_
        rintro e w6 ⟨rfl, hb⟩
        replace B := Lib.hid (B.out.trans (hb.mono B.out.size))
        replace P := Lib.hid (P.out.below hb)
        replace X := X.later hb
        replace N := Lib.hid (N.out.below hb)
        replace X3 := X3.later hb
        clear hb
        obtain ⟨cx0, cx1, cx2, cx3, cx4, cx5, cx6⟩ := (X).cells
        obtain ⟨cx30, cx31, cx32, cx33, cx34, cx35, cx36⟩ := (X3).cells
        go_wp2_with fail
        refine (lkInts_yes w6 _ _ s.zs (by rw [← E2.out]; exact N.out.rd.f) P.out.rd.f SMs.out.f).mono ?_
        rintro e w7 ⟨rfl, hb⟩
        clear cx0 cx1 cx2 cx3 cx4 cx5 cx6 cx30 cx31 cx32 cx33 cx34 cx35 cx36
        replace B := Lib.hid (B.out.trans (hb.mono B.out.size))
        replace P := Lib.hid (P.out.below hb)
        replace X := X.later hb
        replace N := Lib.hid (N.out.below hb)
        replace X3 := X3.later hb
        clear hb
        obtain ⟨cx0, cx1, cx2, cx3, cx4, cx5, cx6⟩ := (X).cells
        obtain ⟨cx30, cx31, cx32, cx33, cx34, cx35, cx36⟩ := (X3).cells
        go_wp2
        go_ret
        exact ⟨by first | rfl | (simp [E3.out]; done), B.out⟩

/-! ### THE ROW's STEP: WRITTEN OUT: LEAVE IT -/
set_option maxRecDepth 100000 in
theorem lifted (os : Os) (started : os.Started) (H : Type) (enc : TypeId × Value → H) :
    ReturnsInHanded {} Tryz.checked os 17 .any (Rows.fnSumOfSwapSpec.pre6 enc Tryz.prog Tryz.f17 Rows.fnSumOfSwapRow.domain false) (Rows.fnSumOfSwapSpec.post enc Tryz.prog Tryz.f17 false true false false) := by
  refine returnsInHanded_of_change (C := Tryz.checked) own started (by kernel_rfl) Tryz.func17
    (ChangeSpec.witness6 (enc := enc) (C := Tryz.checked) false ⟨#[], #[.slice none 0 0], []⟩ 8 (by kernel_rfl) (by kernel_rfl) (by kernel_rfl) (by kernel_rfl)) ?_
  intro W base args ds gs before hval0 hW hcnd _
  have hval : ∀ (j : Nat) t v, Tryz.f17.params[j]? = some t → args[j]? = some v → Value.okWide Tryz.prog W .any base t v := hval0
  have hW' := hW
  obtain ⟨p, q, hA0, hV, rfl, hfz, hnd⟩ := hW
  have hA : DataW.TrodAll enc Tryz.prog W 0 (fun _ => true) true Tryz.f17.params.toList args.toList ds p := hA0
  rw [Tryz.params17] at hA hval
  obtain ⟨v0, vs0, d0, ds0, p0, q0, hargs, rfl, rfl, h0, r0⟩ := trodAll_cons hA
  obtain ⟨rfl, rfl, rfl⟩ := trodAll_nil r0
  obtain rfl : args = #[v0] := by cases args; simp_all
  obtain ⟨rfl, rfl⟩ := trodVars_none hV
  obtain ⟨a0, len0, cap0, rfl⟩ := okWide_slice Tryz.underlying22 (hval 0 22 v0 rfl rfl)
  have k0 := h0
  have lt0 : ∀ x ∈ p0, x.block < W.heap.size := by obtain ⟨m, hm⟩ := k0; exact DataW.trod_lt m _ _ _ hm
  obtain ⟨z0, w0⟩ : ∃ zs, IsRow .u8 W a0 len0 cap0 zs := by
    obtain ⟨fuel, hf⟩ := h0
    rcases open_ints Tryz.underlying22 Tryz.underlying5 (by kernel_rfl) hf with ⟨hcs, _⟩ | ⟨x, l, c, zs, hcs, _, hl, hm, hz, _, hcell, hwz⟩
    · simp [Value.cells] at hcs
      obtain ⟨rfl, rfl, rfl⟩ := hcs
      exact ⟨[], .inl ⟨rfl, rfl, rfl, rfl⟩⟩
    · simp [Value.cells] at hcs
      obtain ⟨rfl, rfl, rfl⟩ := hcs
      exact ⟨zs, .inr ⟨_, rfl, hl, hm, by simpa using hz, hcell, hwz⟩⟩
  clear hA0 hval0
  refine (walk a0 len0 cap0 z0 W w0).mono fun e W' ⟨he, bel⟩ => ?_
  subst he
  exact ⟨_, rfl, _, _, _, [], _, [], hW', trodAll_mk1 (shut_bool Tryz.underlying4 _), (trodAll_cons_mk (Below.trod laidOut (by kernel_rfl) (of_decide_eq_true (by kernel_rfl)) k0 bel lt0) trodAll_mk0), rfl, bel.frame _, fun h => by cases h⟩

theorem over : Rows.fnSumOfSwapRow.holds Tryz.pinned (OpenSpec.ofChange Rows.fnSumOfSwapSpec) :=
  OpenClaim.holds_of_wide 17 Tryz.f17 rfl rfl rfl rfl rfl rfl rfl ⟨rfl, rfl, rfl, rfl, rfl⟩ rfl rfl rfl rfl rfl (by kernel_rfl) Tryz.func17 (by show joinedFacts Tryz.prog _ _ _ _ = true; unfold joinedFacts; rw [mayE, liftF, makeC]; kernel_rfl)
    (of_decide_eq_true (by kernel_rfl)) (by unfold Func.isWrapper; first | (rw [if_pos (by decide +kernel)]; kernel_rfl) | (rw [if_neg (by decide +kernel)]; exact ⟨rfl, rfl⟩))
    (fun os started H enc _ => lifted os started H enc)

theorem proved : Rows.FnSumOfSwapSaid := over
#print axioms proved
end Go.Proofs.YtnoilafoeaknjaaGreat.fnSumOfSwap
