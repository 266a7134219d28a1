/-
  The statement of the law FnRoughMost: at every input the call returns true and leaves what it was given as it was. The frame is the kit's shell; the walk is ours.
-/
import Derived.Test.YtnoilafoeaknjaaGreatZImOf
import Derived.Test.YtnoilafoeaknjaaGreatZSpOf
import Derived.Test.YtnoilafoeaknjaaGreatZDraw
import Derived.Test.YtnoilafoeaknjaaGreatZLk
import Derived.Test.YtnoilafoeaknjaaGreatZImGet
import Derived.Test.YtnoilafoeaknjaaGreatRf
import Derived.Test.YtnoilafoeaknjaaGreatZCut
import Derived.Deep.RegionWith
import Derived.Test.YtnoilafoeaknjaaGreatRows
import Derived.Test.YtnoilafoeaknjaaGreatMk
import Derived.WalkKit
import Derived.ProofKit
import Derived.OpenShut
import Derived.ShutString
import Derived.ChangeOld
import Derived.Below
namespace Go.Proofs.YtnoilafoeaknjaaGreat.fnRoughMost
open Go.ChangeShapes Go.WideShapes Go.ChangeAt Go.RowKit
open Go.ChangeMaps (open_string shut_string)
set_option linter.unusedVariables false

theorem own : ownKnob Tryz.prog.godebug = none := by kernel_rfl
theorem laidOut : laidOutB Tryz.prog = true := by kernel_rfl

/-- WHAT THE WALK IS TOLD OF A SLICE OF INTEGERS THAT CAME IN: it is nil; or it leads to a row of 'cap' cells, the numbers 'zs' (the first 'len' are its elements, the rest its spare room), each fitting its kind. -/
def IsRow (k : IntKind) (w : World) (a : Option Addr) (len cap : Nat) (zs : List Int) : Prop :=
  (a = none ∧ len = 0 ∧ cap = 0 ∧ zs = []) ∨
  ∃ x, a = some x ∧ len ≤ cap ∧ cap ≤ maxLen ∧ zs.length = cap ∧ (∀ i, i < zs.length → w.cell? (x.add i) = some (.int k (zs.getD i 0))) ∧ ∀ n ∈ zs, (Lit.int k n).wf = true

/-! ### STEP 1: THE WALK: the Go text returns true, AND WRITES NOTHING THAT WAS THERE: 'Below w.heap.size w w'' (Derived/Below.lean: '.refl', '.alloc', '.drew', '.setCell' at a new block, '.trans'). Open each 'IsRow' by 'rcases' AHEAD of 'go_enter'; part every test ahead of the walk. -/
set_option maxRecDepth 100000 in
set_option maxHeartbeats 16000000 in
theorem walk (a0 : Option Addr) (len0 cap0 : Nat) (z0 : List Int) (a1 : Option Addr) (len1 cap1 : Nat) (z1 : List Int) (w : World) (w0 : IsRow .u8 w a0 len0 cap0 z0) (w1 : IsRow .u8 w a1 len1 cap1 z1) :
    Calls Tryz.prog 4 #[.slice a0 len0 cap0, .slice a1 len1 cap1] w fun e w' => e = .returned (.bool true) ∧ Below w.heap.size w w' := by
  obtain ⟨hb, hl⟩ := bts_of w a0 len0 cap0 z0 w0
  obtain ⟨hb', hl'⟩ := bts_of w a1 len1 cap1 z1 w1
  rcases hl with hl | hl
  · go_enter Tryz.func4, Tryz.ntmps4
    go_wp2
    go_ret
    exact ⟨rfl, Below.refl _ _⟩
  rcases hl' with hl' | hl'
  · go_enter Tryz.func4, Tryz.ntmps4
    go_wp2
    go_ret
    exact ⟨rfl, Below.refl _ _⟩
  have HB := Lib.hid hb
  have HB' := Lib.hid hb'
  clear hb w0 hb' w1
  have B := Lib.hid (Below.refl w.heap.size w)
  go_enter Tryz.func4, Tryz.ntmps4
  go_wp2_with fail
  refine (drawSumOf_at w _ len0 ⟨_, _, rfl⟩ (bts_below HB.out B.out)).mono ?_
  rintro e w1 ⟨x0, c0, l, rfl, ho, hlen, hb⟩
  obtain ⟨n0, hn⟩ : ∃ n, n = l.length := ⟨_, rfl⟩
  rw [← hn] at ho hlen ⊢
  have Hn0 := Lib.hid hn
  have Mn0 := Lib.hid hlen
  clear hn
  replace B := Lib.hid (B.out.trans (hb.mono B.out.size))
  have Ll := Lib.hid (ho.rd)
  clear hb
  clear ho hlen
  go_wp2_with fail
  refine (drawGet_at w1 _ len1 ⟨_, _, rfl⟩ (bts_below HB'.out B.out)).mono ?_
  rintro e w2 ⟨y9, p9, d9, rc9, t, rfl, hrc, tl, th, hb⟩
  clear hrc
  replace B := Lib.hid (B.out.trans (hb.mono B.out.size))
  replace Ll := Lib.hid (Ll.out.below hb (Nat.le_refl _))
  clear hb
  obtain ⟨W2, hW⟩ : ∃ W, W = (w2.alloc (.cells #[.slice y9 p9 d9] 27)) := ⟨_, rfl⟩
  replace B := Lib.hid ((B.out).alloc (Nat.le_trans B.out.size (by simp)) (.cells #[.slice y9 p9 d9] 27))
  rw [← hW] at B
  replace Ll := Lib.hid (Ll.out.below ((Below.refl _ _).alloc (Nat.le_refl _) (.cells #[.slice y9 p9 d9] 27)) (Nat.le_refl _))
  rw [← hW] at Ll
  go_wp2_with fail
  rw [← hW]
  clear hW
  obtain ⟨s, hs⟩ : ∃ s, s = upS l := ⟨_, rfl⟩
  have Hs := Lib.hid hs
  have SMs := Lib.hid (show Small s by rw [hs]; exact up_small l)
  have Kiml := Lib.hid (fun (W : World) (h : Ints W (.slice x0 n0 c0) l) => show Calls Tryz.prog 30 #[.slice x0 n0 c0] W fun e w' => ∃ U, e = .returned (.tuple #[.agg #[.slice U.xr U.nr U.cr, .slice U.xf U.nf U.cf, .slice U.xt U.nt U.ct, .int .i64 s.lo, .int .i64 s.al, .slice U.xk U.nk U.ck, .int .i64 s.ka], .bool (okS s)]) ∧ OwnS w' W.heap.size w'.heap.size U s ∧ Below W.heap.size W w' by rw [hs]; exact imSumOf_at W x0 n0 c0 l h)
  have Kspl := Lib.hid (fun (W : World) (h : Ints W (.slice x0 n0 c0) l) => show Calls Tryz.prog 31 #[.slice x0 n0 c0] W fun e w' => ∃ U, e = .returned (.tuple #[.agg #[.slice U.xr U.nr U.cr, .slice U.xf U.nf U.cf, .slice U.xt U.nt U.ct, .int .i64 s.lo, .int .i64 s.al, .slice U.xk U.nk U.ck, .int .i64 s.ka], .bool (okS s)]) ∧ OwnS w' W.heap.size w'.heap.size U s ∧ Below W.heap.size W w' by rw [hs]; exact spSumOf_at W x0 n0 c0 l h)
  have Ook := Lib.hid (fun (q : okS s = true) => show okS (upS l) = true by rw [← hs]; exact q)
  clear hs
  generalize okS s = ok at Kiml Kspl Ook
  have K1 := Kiml.out W2 Ll.out
  go_wp2_with fail
  refine (K1).mono ?_
  rintro e w3 ⟨V1, rfl, ho, hb⟩
  clear K1
  replace ho := ho.base (B' := w.heap.size) B.out.size (Nat.le_refl _) (Nat.le_refl _)
  replace B := Lib.hid (B.out.trans (hb.mono B.out.size))
  replace Ll := Lib.hid (Ll.out.below hb (Nat.le_refl _))
  have P := Lib.hid (ho)
  clear hb
  obtain ⟨W3, hW⟩ : ∃ W, W = (w3.alloc (.cells #[.slice V1.xr V1.nr V1.cr, .slice V1.xf V1.nf V1.cf, .slice V1.xt V1.nt V1.ct, .int .i64 s.lo, .int .i64 s.al, .slice V1.xk V1.nk V1.ck, .int .i64 s.ka] 39)) := ⟨_, rfl⟩
  replace B := Lib.hid ((B.out).alloc (Nat.le_trans B.out.size (by simp)) (.cells #[.slice V1.xr V1.nr V1.cr, .slice V1.xf V1.nf V1.cf, .slice V1.xt V1.nt V1.ct, .int .i64 s.lo, .int .i64 s.al, .slice V1.xk V1.nk V1.ck, .int .i64 s.ka] 39))
  rw [← hW] at B
  replace Ll := Lib.hid (Ll.out.below ((Below.refl _ _).alloc (Nat.le_refl _) (.cells #[.slice V1.xr V1.nr V1.cr, .slice V1.xf V1.nf V1.cf, .slice V1.xt V1.nt V1.ct, .int .i64 s.lo, .int .i64 s.al, .slice V1.xk V1.nk V1.ck, .int .i64 s.ka] 39)) (Nat.le_refl _))
  rw [← hW] at Ll
  replace P := Lib.hid (P.out.alloc (.cells #[.slice V1.xr V1.nr V1.cr, .slice V1.xf V1.nf V1.cf, .slice V1.xt V1.nt V1.ct, .int .i64 s.lo, .int .i64 s.al, .slice V1.xk V1.nk V1.ck, .int .i64 s.ka] 39))
  rw [← hW] at P
  have X := Box7.new w3 39 (.slice V1.xr V1.nr V1.cr) (.slice V1.xf V1.nf V1.cf) (.slice V1.xt V1.nt V1.ct) (.int .i64 s.lo) (.int .i64 s.al) (.slice V1.xk V1.nk V1.ck) (.int .i64 s.ka)
  rw [← hW] at X
  go_wp2_with fail
  rw [← hW]
  clear hW
  clear ho
  have K1 := Kspl.out W3 Ll.out
  go_wp2_with fail
  refine (K1).mono ?_
  rintro e w4 ⟨V2, rfl, ho, hb⟩
  clear K1
  replace ho := ho.base (B' := w.heap.size) B.out.size (Nat.le_refl _) (Nat.le_refl _)
  replace B := Lib.hid (B.out.trans (hb.mono B.out.size))
  replace Ll := Lib.hid (Ll.out.below hb (Nat.le_refl _))
  replace P := Lib.hid (P.out.below hb)
  replace X := X.later hb
  have Q := Lib.hid (ho)
  clear hb
  obtain ⟨W4, hW⟩ : ∃ W, W = (w4.alloc (.cells #[.slice V2.xr V2.nr V2.cr, .slice V2.xf V2.nf V2.cf, .slice V2.xt V2.nt V2.ct, .int .i64 s.lo, .int .i64 s.al, .slice V2.xk V2.nk V2.ck, .int .i64 s.ka] 39)) := ⟨_, rfl⟩
  obtain ⟨ax0, ax1, ax2, ax3, ax4, ax5, ax6⟩ := ((X.alloc (.cells #[.slice V2.xr V2.nr V2.cr, .slice V2.xf V2.nf V2.cf, .slice V2.xt V2.nt V2.ct, .int .i64 s.lo, .int .i64 s.al, .slice V2.xk V2.nk V2.ck, .int .i64 s.ka] 39))).cells
  replace B := Lib.hid ((B.out).alloc (Nat.le_trans B.out.size (by simp)) (.cells #[.slice V2.xr V2.nr V2.cr, .slice V2.xf V2.nf V2.cf, .slice V2.xt V2.nt V2.ct, .int .i64 s.lo, .int .i64 s.al, .slice V2.xk V2.nk V2.ck, .int .i64 s.ka] 39))
  rw [← hW] at B
  replace Ll := Lib.hid (Ll.out.below ((Below.refl _ _).alloc (Nat.le_refl _) (.cells #[.slice V2.xr V2.nr V2.cr, .slice V2.xf V2.nf V2.cf, .slice V2.xt V2.nt V2.ct, .int .i64 s.lo, .int .i64 s.al, .slice V2.xk V2.nk V2.ck, .int .i64 s.ka] 39)) (Nat.le_refl _))
  rw [← hW] at Ll
  replace P := Lib.hid (P.out.alloc (.cells #[.slice V2.xr V2.nr V2.cr, .slice V2.xf V2.nf V2.cf, .slice V2.xt V2.nt V2.ct, .int .i64 s.lo, .int .i64 s.al, .slice V2.xk V2.nk V2.ck, .int .i64 s.ka] 39))
  rw [← hW] at P
  replace X := X.alloc (.cells #[.slice V2.xr V2.nr V2.cr, .slice V2.xf V2.nf V2.cf, .slice V2.xt V2.nt V2.ct, .int .i64 s.lo, .int .i64 s.al, .slice V2.xk V2.nk V2.ck, .int .i64 s.ka] 39)
  rw [← hW] at X
  replace Q := Lib.hid (Q.out.alloc (.cells #[.slice V2.xr V2.nr V2.cr, .slice V2.xf V2.nf V2.cf, .slice V2.xt V2.nt V2.ct, .int .i64 s.lo, .int .i64 s.al, .slice V2.xk V2.nk V2.ck, .int .i64 s.ka] 39))
  rw [← hW] at Q
  have Y := Box7.new w4 39 (.slice V2.xr V2.nr V2.cr) (.slice V2.xf V2.nf V2.cf) (.slice V2.xt V2.nt V2.ct) (.int .i64 s.lo) (.int .i64 s.al) (.slice V2.xk V2.nk V2.ck) (.int .i64 s.ka)
  rw [← hW] at Y
  go_wp2_with fail
  rw [← hW]
  clear hW ax0 ax1 ax2 ax3 ax4 ax5 ax6
  clear ho
  cases ok with
  | false =>
    refine (lkSum_same W4 V1 V2 s P.out.rd Q.out.rd SMs.out).mono ?_
    rintro e w5 ⟨rfl, hb⟩
    replace B := Lib.hid (B.out.trans (hb.mono B.out.size))
    replace Ll := Lib.hid (Ll.out.below hb (Nat.le_refl _))
    replace P := Lib.hid (P.out.below hb)
    replace X := X.later hb
    replace Q := Lib.hid (Q.out.below hb)
    replace Y := Y.later hb
    clear hb
    obtain ⟨cx0, cx1, cx2, cx3, cx4, cx5, cx6⟩ := (X).cells
    obtain ⟨cy0, cy1, cy2, cy3, cy4, cy5, cy6⟩ := (Y).cells
    go_wp2_with fail
    refine (lkSum_same w5 V1 V2 s P.out.rd Q.out.rd SMs.out).mono ?_
    rintro e w6 ⟨rfl, hb⟩
    clear cx0 cx1 cx2 cx3 cx4 cx5 cx6 cy0 cy1 cy2 cy3 cy4 cy5 cy6
    replace B := Lib.hid (B.out.trans (hb.mono B.out.size))
    replace Ll := Lib.hid (Ll.out.below hb (Nat.le_refl _))
    replace P := Lib.hid (P.out.below hb)
    replace X := X.later hb
    replace Q := Lib.hid (Q.out.below hb)
    replace Y := Y.later hb
    clear hb
    go_wp2
    go_ret
    exact ⟨rfl, B.out⟩
  | true =>
    have OK := Lib.hid (Ook.out rfl)
    clear Ook
    by_cases ht : t < 0 ∨ 63 < t
    · rcases ht with ht | ht
      · skip
        refine (lkSum_same W4 V1 V2 s P.out.rd Q.out.rd SMs.out).mono ?_
        rintro e w5 ⟨rfl, hb⟩
        replace B := Lib.hid (B.out.trans (hb.mono B.out.size))
        replace Ll := Lib.hid (Ll.out.below hb (Nat.le_refl _))
        replace P := Lib.hid (P.out.below hb)
        replace X := X.later hb
        replace Q := Lib.hid (Q.out.below hb)
        replace Y := Y.later hb
        clear hb
        obtain ⟨cx0, cx1, cx2, cx3, cx4, cx5, cx6⟩ := (X).cells
        obtain ⟨cy0, cy1, cy2, cy3, cy4, cy5, cy6⟩ := (Y).cells
        go_wp2_with fail
        refine (lkSum_same w5 V1 V2 s P.out.rd Q.out.rd SMs.out).mono ?_
        rintro e w6 ⟨rfl, hb⟩
        clear cx0 cx1 cx2 cx3 cx4 cx5 cx6 cy0 cy1 cy2 cy3 cy4 cy5 cy6
        replace B := Lib.hid (B.out.trans (hb.mono B.out.size))
        replace Ll := Lib.hid (Ll.out.below hb (Nat.le_refl _))
        replace P := Lib.hid (P.out.below hb)
        replace X := X.later hb
        replace Q := Lib.hid (Q.out.below hb)
        replace Y := Y.later hb
        clear hb
        go_wp2
        go_ret
        exact ⟨rfl, B.out⟩
      · skip
        have ht0 : 0 ≤ t := by omega
        have ht1 : 64 ≤ t := by omega
        refine (lkSum_same W4 V1 V2 s P.out.rd Q.out.rd SMs.out).mono ?_
        rintro e w5 ⟨rfl, hb⟩
        replace B := Lib.hid (B.out.trans (hb.mono B.out.size))
        replace Ll := Lib.hid (Ll.out.below hb (Nat.le_refl _))
        replace P := Lib.hid (P.out.below hb)
        replace X := X.later hb
        replace Q := Lib.hid (Q.out.below hb)
        replace Y := Y.later hb
        clear hb
        obtain ⟨cx0, cx1, cx2, cx3, cx4, cx5, cx6⟩ := (X).cells
        obtain ⟨cy0, cy1, cy2, cy3, cy4, cy5, cy6⟩ := (Y).cells
        go_wp2_with fail
        refine (lkSum_same w5 V1 V2 s P.out.rd Q.out.rd SMs.out).mono ?_
        rintro e w6 ⟨rfl, hb⟩
        clear cx0 cx1 cx2 cx3 cx4 cx5 cx6 cy0 cy1 cy2 cy3 cy4 cy5 cy6
        replace B := Lib.hid (B.out.trans (hb.mono B.out.size))
        replace Ll := Lib.hid (Ll.out.below hb (Nat.le_refl _))
        replace P := Lib.hid (P.out.below hb)
        replace X := X.later hb
        replace Q := Lib.hid (Q.out.below hb)
        replace Y := Y.later hb
        clear hb
        go_wp2
        go_ret
        exact ⟨rfl, B.out⟩
    have t0 : 0 ≤ t := by omega
    have t1 : t ≤ 63 := by omega
    have t2 : t < 64 := by omega
    clear ht
    have RG := Lib.hid (show getV s.rs t = minP l t 3 by rw [Hs.out]; exact min_told OK.out t0 t1)
    have LT := Lib.hid (okS_up OK.out).2
    have K1 := Lib.hid (fun W h => imGet_at W (.slice V1.xr V1.nr V1.cr) s.rs t h)
    rw [RG.out] at K1
    clear RG
    refine (lkSum_same W4 V1 V2 s P.out.rd Q.out.rd SMs.out).mono ?_
    rintro e w5 ⟨rfl, hb⟩
    replace B := Lib.hid (B.out.trans (hb.mono B.out.size))
    replace Ll := Lib.hid (Ll.out.below hb (Nat.le_refl _))
    replace P := Lib.hid (P.out.below hb)
    replace X := X.later hb
    replace Q := Lib.hid (Q.out.below hb)
    replace Y := Y.later hb
    clear hb
    obtain ⟨cx0, cx1, cx2, cx3, cx4, cx5, cx6⟩ := (X).cells
    clear Y
    clear Q
    have hmx : n0 ≤ 100 := by have := Mn0.out; have := Hn0.out; omega
    go_wp2
    have HZ : Hid (∀ k, k < n0 → ∃ b o, x0 = some ⟨b, o, none⟩ ∧ w5.cell? ⟨b, o + k, none⟩ = some (.int .i64 (l.getD k 0))) := fun i hi => by
      rcases Ll.out with ⟨e, _⟩ | ⟨b, o, c', e, _, _, hb, hc⟩
      · simp at e; omega
      · exact ⟨b, o, (Value.slice.inj e).1, hc i (by rw [← Hn0.out]; exact hi)⟩
    go_loop [12, 13] (fun q i => ∃ (j : Nat) (m : Int), j ≤ 3 ∧ i = .int .i64 j ∧ q = .int .i64 m ∧ 0 ≤ m ∧ m ≤ n0 ∧ m = minP l t j) (fun _ i => 3 - (intOf i).toNat)
    case atStart => exact ⟨0, n0, by omega, rfl, rfl, by omega, by omega, by show (n0 : Int) = (l.length : Int); rw [Hn0.out]⟩
    case round =>
      obtain ⟨j, m, hj, rfl, rfl, m0, m1, hg⟩ := hrel
      have G := Lib.hid hg
      clear hg
      by_cases hlt : j < 3
      · have ji : (j : Int) < 3 := by omega
        have j0 : (0 : Int) ≤ j := by omega
        have MS := Lib.hid (show minP l t (j + 1) = min (minP l t j) (cntP l j t) from rfl)
        have kt := Lib.hid (fun W => roughPlace_yes (j : Int) t W j0 ji t0 t2)
        obtain ⟨pt, hpt⟩ : ∃ p, p = place (j : Int) t := ⟨_, rfl⟩
        rw [← hpt] at kt
        have HPT := Lib.hid hpt
        clear hpt
        go_wp2
        go_loop [14, 15] (fun q i => ∃ (k : Nat) (c : Int), k ≤ n0 ∧ i = .int .i64 k ∧ q = .int .i64 c ∧ 0 ≤ c ∧ c ≤ k ∧ c = cntP (l.take k) j t) (fun _ i => n0 - (intOf i).toNat)
        case atStart => exact ⟨0, 0, by omega, rfl, rfl, by omega, by omega, rfl⟩
        case round =>
          obtain ⟨k, c, hk, rfl, rfl, c1, c2, hg⟩ := hrel
          have G2 := Lib.hid hg
          clear hg
          by_cases hk' : k < n0
          · obtain ⟨b, o, rfl, h1⟩ := HZ.out k hk'
            have kl : k < l.length := by rw [← Hn0.out]; exact hk'
            have ts := Lib.hid (cntP_take l j t k kl)
            have zb := LT.out (l.getD k 0) (getD_mem l k 0 kl)
            obtain ⟨z, hz⟩ : ∃ z, l.getD k 0 = z := ⟨_, rfl⟩
            rw [hz] at h1 ts zb
            obtain ⟨z0', z1'⟩ := zb
            have kz := Lib.hid (fun W => roughPlace_yes (j : Int) z W j0 ji z0' (by omega))
            rw [← HPT.out] at ts
            obtain ⟨pz, hpz⟩ : ∃ p, p = place (j : Int) z := ⟨_, rfl⟩
            rw [← hpz] at kz ts
            have k0 : (0 : Int) ≤ (k : Int) := by omega
            have kn : (k : Int) < (n0 : Int) := by omega
            clear hz hpz kl
            by_cases he : pz = pt
            · have he' : (pz == pt) = true := by simpa using he
              have he2 : decide (pz = pt) = true := by simpa using he
              go_wp2_with (first | (go_at_call 36; first | ((with_reducible refine (kz.out _).mono ?_); rintro e w' ⟨rfl, rfl⟩) | ((with_reducible refine (kt.out _).mono ?_); rintro e w' ⟨rfl, rfl⟩)))
              go_round
              case rel => exact ⟨k + 1, c + 1, by omega, by go_num, by first | rfl | go_num, by omega, by omega, by rw [ts.out, ← G2.out, if_pos he]⟩
              case measure => simp [intOf]; omega
            · have he' : (pz == pt) = false := by simpa using he
              have he2 : decide (pz = pt) = false := by simpa using he
              go_wp2_with (first | (go_at_call 36; first | ((with_reducible refine (kz.out _).mono ?_); rintro e w' ⟨rfl, rfl⟩) | ((with_reducible refine (kt.out _).mono ?_); rintro e w' ⟨rfl, rfl⟩)))
              go_round
              case rel => exact ⟨k + 1, c, by omega, by go_num, by first | rfl | go_num, by omega, by omega, by rw [ts.out, ← G2.out, if_neg he]; omega⟩
              case measure => simp [intOf]; omega
          · have fin : Hid (c = cntP l j t) := by show c = _; rw [G2.out, List.take_of_length_le (by rw [← Hn0.out]; omega)]
            have kn : ¬ (k : Int) < (n0 : Int) := by omega
            go_wp2
            go_round
            case rel => exact ⟨j + 1, min m c, by omega, by go_num, by first | rfl | go_num, by omega, by omega, by rw [MS.out, ← G.out, ← fin.out]⟩
            case measure => simp [intOf]; omega
      · obtain rfl : j = 3 := by omega
        rw [← G.out] at K1
        clear G HZ LT hlt hj
        go_wp2_with fail
        refine (K1.out w5 P.out.rd.r).mono ?_
        rintro e w6 ⟨rfl, hb⟩
        clear cx0 cx1 cx2 cx3 cx4 cx5 cx6
        replace B := Lib.hid (B.out.trans (hb.mono B.out.size))
        clear hb
        go_wp2
        go_ret
        exact ⟨by first | rfl | simp, B.out⟩

/-! ### THE ROW's STEP: WRITTEN OUT: LEAVE IT -/
set_option maxRecDepth 100000 in
theorem lifted (os : Os) (started : os.Started) (H : Type) (enc : TypeId × Value → H) :
    ReturnsInHanded {} Tryz.checked os 4 .any (Rows.fnRoughMostSpec.pre6 enc Tryz.prog Tryz.f4 Rows.fnRoughMostRow.domain false) (Rows.fnRoughMostSpec.post enc Tryz.prog Tryz.f4 false true false false) := by
  refine returnsInHanded_of_change (C := Tryz.checked) own started (by kernel_rfl) Tryz.func4
    (ChangeSpec.witness6 (enc := enc) (C := Tryz.checked) false ⟨#[], #[.slice none 0 0, .slice none 0 0], []⟩ 8 (by kernel_rfl) (by kernel_rfl) (by kernel_rfl) (by kernel_rfl)) ?_
  intro W base args ds gs before hval0 hW hcnd _
  have hval : ∀ (j : Nat) t v, Tryz.f4.params[j]? = some t → args[j]? = some v → Value.okWide Tryz.prog W .any base t v := hval0
  have hW' := hW
  obtain ⟨p, q, hA0, hV, rfl, hfz, hnd⟩ := hW
  have hA : DataW.TrodAll enc Tryz.prog W 0 (fun _ => true) true Tryz.f4.params.toList args.toList ds p := hA0
  rw [Tryz.params4] at hA hval
  obtain ⟨v0, vs0, d0, ds0, p0, q0, hargs, rfl, rfl, h0, r0⟩ := trodAll_cons hA
  obtain ⟨v1, vs1, d1, ds1, p1, q1, rfl, rfl, rfl, h1, r1⟩ := trodAll_cons r0
  obtain ⟨rfl, rfl, rfl⟩ := trodAll_nil r1
  obtain rfl : args = #[v0, v1] := by cases args; simp_all
  obtain ⟨rfl, rfl⟩ := trodVars_none hV
  obtain ⟨a0, len0, cap0, rfl⟩ := okWide_slice Tryz.underlying22 (hval 0 22 v0 rfl rfl)
  have k0 := h0
  have lt0 : ∀ x ∈ p0, x.block < W.heap.size := by obtain ⟨m, hm⟩ := k0; exact DataW.trod_lt m _ _ _ hm
  obtain ⟨z0, w0⟩ : ∃ zs, IsRow .u8 W a0 len0 cap0 zs := by
    obtain ⟨fuel, hf⟩ := h0
    rcases open_ints Tryz.underlying22 Tryz.underlying5 (by kernel_rfl) hf with ⟨hcs, _⟩ | ⟨x, l, c, zs, hcs, _, hl, hm, hz, _, hcell, hwz⟩
    · simp [Value.cells] at hcs
      obtain ⟨rfl, rfl, rfl⟩ := hcs
      exact ⟨[], .inl ⟨rfl, rfl, rfl, rfl⟩⟩
    · simp [Value.cells] at hcs
      obtain ⟨rfl, rfl, rfl⟩ := hcs
      exact ⟨zs, .inr ⟨_, rfl, hl, hm, by simpa using hz, hcell, hwz⟩⟩
  obtain ⟨a1, len1, cap1, rfl⟩ := okWide_slice Tryz.underlying22 (hval 1 22 v1 rfl rfl)
  have k1 := h1
  have lt1 : ∀ x ∈ p1, x.block < W.heap.size := by obtain ⟨m, hm⟩ := k1; exact DataW.trod_lt m _ _ _ hm
  obtain ⟨z1, w1⟩ : ∃ zs, IsRow .u8 W a1 len1 cap1 zs := by
    obtain ⟨fuel, hf⟩ := h1
    rcases open_ints Tryz.underlying22 Tryz.underlying5 (by kernel_rfl) hf with ⟨hcs, _⟩ | ⟨x, l, c, zs, hcs, _, hl, hm, hz, _, hcell, hwz⟩
    · simp [Value.cells] at hcs
      obtain ⟨rfl, rfl, rfl⟩ := hcs
      exact ⟨[], .inl ⟨rfl, rfl, rfl, rfl⟩⟩
    · simp [Value.cells] at hcs
      obtain ⟨rfl, rfl, rfl⟩ := hcs
      exact ⟨zs, .inr ⟨_, rfl, hl, hm, by simpa using hz, hcell, hwz⟩⟩
  clear hA0 hval0
  refine (walk a0 len0 cap0 z0 a1 len1 cap1 z1 W w0 w1).mono fun e W' ⟨he, bel⟩ => ?_
  subst he
  exact ⟨_, rfl, _, _, _, [], _, [], hW', trodAll_mk1 (shut_bool Tryz.underlying4 _), (trodAll_cons_mk (Below.trod laidOut (by kernel_rfl) (of_decide_eq_true (by kernel_rfl)) k0 bel lt0) (trodAll_cons_mk (Below.trod laidOut (by kernel_rfl) (of_decide_eq_true (by kernel_rfl)) k1 bel lt1) trodAll_mk0)), rfl, bel.frame _, fun h => by cases h⟩

theorem over : Rows.fnRoughMostRow.holds Tryz.pinned (OpenSpec.ofChange Rows.fnRoughMostSpec) :=
  OpenClaim.holds_of_wide 4 Tryz.f4 rfl rfl rfl rfl rfl rfl rfl ⟨rfl, rfl, rfl, rfl, rfl⟩ rfl rfl rfl rfl rfl (by kernel_rfl) Tryz.func4 (by show joinedFacts Tryz.prog _ _ _ _ = true; unfold joinedFacts; rw [mayE, liftF, makeC]; kernel_rfl)
    (of_decide_eq_true (by kernel_rfl)) (by unfold Func.isWrapper; first | (rw [if_pos (by decide +kernel)]; kernel_rfl) | (rw [if_neg (by decide +kernel)]; exact ⟨rfl, rfl⟩))
    (fun os started H enc _ => lifted os started H enc)

theorem proved : Rows.FnRoughMostSaid := over
#print axioms proved
end Go.Proofs.YtnoilafoeaknjaaGreat.fnRoughMost
