/-
  The statement of the law FnRankFew: at every input the call returns true and leaves what it was given as it was. The frame is the kit's shell; the walk is ours.
-/
import Derived.Test.YtnoilafoeaknjaaGreatZImOf
import Derived.Test.YtnoilafoeaknjaaGreatZSpOf
import Derived.Test.YtnoilafoeaknjaaGreatZDraw
import Derived.Test.YtnoilafoeaknjaaGreatZLk
import Derived.Test.YtnoilafoeaknjaaGreatZImGet
import Derived.Test.YtnoilafoeaknjaaGreatKf
import Derived.Test.YtnoilafoeaknjaaGreatZTell
import Derived.Test.YtnoilafoeaknjaaGreatZCut
import Derived.Deep.RegionWith
import Derived.Test.YtnoilafoeaknjaaGreatRows
import Derived.Test.YtnoilafoeaknjaaGreatMk
import Derived.WalkKit
import Derived.ProofKit
import Derived.OpenShut
import Derived.ShutString
import Derived.ChangeOld
import Derived.Below
namespace Go.Proofs.YtnoilafoeaknjaaGreat.fnRankFew
open Go.ChangeShapes Go.WideShapes Go.ChangeAt Go.RowKit
open Go.ChangeMaps (open_string shut_string)
set_option linter.unusedVariables false

theorem own : ownKnob Tryz.prog.godebug = none := by kernel_rfl
theorem laidOut : laidOutB Tryz.prog = true := by kernel_rfl

/-- WHAT THE WALK IS TOLD OF A SLICE OF INTEGERS THAT CAME IN: it is nil; or it leads to a row of 'cap' cells, the numbers 'zs' (the first 'len' are its elements, the rest its spare room), each fitting its kind. -/
def IsRow (k : IntKind) (w : World) (a : Option Addr) (len cap : Nat) (zs : List Int) : Prop :=
  (a = none ∧ len = 0 ∧ cap = 0 ∧ zs = []) ∨
  ∃ x, a = some x ∧ len ≤ cap ∧ cap ≤ maxLen ∧ zs.length = cap ∧ (∀ i, i < zs.length → w.cell? (x.add i) = some (.int k (zs.getD i 0))) ∧ ∀ n ∈ zs, (Lit.int k n).wf = true

/-! ### STEP 1: THE WALK: the Go text returns true, AND WRITES NOTHING THAT WAS THERE: 'Below w.heap.size w w'' (Derived/Below.lean: '.refl', '.alloc', '.drew', '.setCell' at a new block, '.trans'). Open each 'IsRow' by 'rcases' AHEAD of 'go_enter'; part every test ahead of the walk. -/
set_option maxRecDepth 100000 in
set_option maxHeartbeats 16000000 in
theorem walk (a0 : Option Addr) (len0 cap0 : Nat) (z0 : List Int) (a1 : Option Addr) (len1 cap1 : Nat) (z1 : List Int) (w : World) (w0 : IsRow .u8 w a0 len0 cap0 z0) (w1 : IsRow .u8 w a1 len1 cap1 z1) :
    Calls Tryz.prog 12 #[.slice a0 len0 cap0, .slice a1 len1 cap1] w fun e w' => e = .returned (.bool true) ∧ Below w.heap.size w w' := by
  obtain ⟨hb, hl⟩ := bts_of w a0 len0 cap0 z0 w0
  obtain ⟨hb', hl'⟩ := bts_of w a1 len1 cap1 z1 w1
  rcases hl with hl | hl
  · go_enter Tryz.func12, Tryz.ntmps12
    go_wp2
    go_ret
    exact ⟨rfl, Below.refl _ _⟩
  rcases hl' with hl' | hl'
  · go_enter Tryz.func12, Tryz.ntmps12
    go_wp2
    go_ret
    exact ⟨rfl, Below.refl _ _⟩
  have HB := Lib.hid hb
  have HB' := Lib.hid hb'
  clear hb w0 hb' w1
  have B := Lib.hid (Below.refl w.heap.size w)
  go_enter Tryz.func12, Tryz.ntmps12
  go_wp2_with fail
  refine (drawSumOf_at w _ len0 ⟨_, _, rfl⟩ (bts_below HB.out B.out)).mono ?_
  rintro e w1 ⟨x9, c9, r1, rfl, ho, hlen, hb⟩
  obtain ⟨n9, hn⟩ : ∃ n, n = r1.length := ⟨_, rfl⟩
  have h9 := ho.rd
  rw [← hn] at h9 hlen ⊢
  have M9 := Lib.hid hlen
  have N9 := Lib.hid hn
  clear hn ho hlen
  replace B := Lib.hid (B.out.trans (hb.mono B.out.size))
  have L9 := Lib.hid (h9)
  clear hb
  clear h9
  go_wp2_with fail
  refine (lkFine_at w1 (.slice x9 n9 c9) r1 L9.out (by have := M9.out; rw [N9.out] at this; omega)).mono ?_
  rintro e w2 ⟨xa, ca, rfl, ho, hb⟩
  obtain ⟨a, hl⟩ : ∃ l, l = fineL r1 := ⟨_, rfl⟩
  rw [← hl] at ho ⊢
  obtain ⟨na, hn⟩ : ∃ n, n = a.length := ⟨_, rfl⟩
  have h9 := ho.rd
  rw [← hn] at h9 ⊢
  have Fa := Lib.hid (show ∀ t ∈ a, 0 ≤ t ∧ t ≤ 63 by rw [hl]; exact fineL_all _)
  have Mna := Lib.hid (show na ≤ 31 by rw [hn, hl]; have := fineL_len r1; have := M9.out; have := N9.out; omega)
  have Hna := Lib.hid hn
  clear hn hl ho M9 N9
  clear L9
  replace B := Lib.hid (B.out.trans (hb.mono B.out.size))
  have La := Lib.hid (h9)
  clear hb
  clear h9
  have cp := La.out.cap
  by_cases h8 : na < 8
  · have h8' : (na : Int) < 8 := by omega
    go_wp2_with fail
    refine (K.drawKBelow_at w2 _ len1 ⟨_, _, rfl⟩ (bts_below HB'.out B.out)).mono ?_
    rintro e w3 ⟨v9, al9, t, rfl, tt, ps9, hrc9⟩
    have hb := hrc9.below
    obtain ⟨y9, d9, rfl⟩ := hrc9.own.form'
    generalize ps9.length = p9
    clear hrc9
    replace B := Lib.hid (B.out.trans (hb.mono B.out.size))
    replace La := Lib.hid (La.out.below hb (Nat.le_refl _))
    clear hb
    obtain ⟨W3, hW⟩ : ∃ W, W = (w3.alloc (.cells #[.slice y9 p9 d9, .int .i64 al9] 37)) := ⟨_, rfl⟩
    replace B := Lib.hid ((B.out).alloc (Nat.le_trans B.out.size (by simp)) (.cells #[.slice y9 p9 d9, .int .i64 al9] 37))
    rw [← hW] at B
    replace La := Lib.hid (La.out.below ((Below.refl _ _).alloc (Nat.le_refl _) (.cells #[.slice y9 p9 d9, .int .i64 al9] 37)) (Nat.le_refl _))
    rw [← hW] at La
    go_wp2_with fail
    rw [← hW]
    clear hW
    have Fl := Fa
    have Hn := Hna
    have Hm := Lib.hid h8
    have Ll := La
    clear Fa Hna Mna h8 La
    have OK := Lib.hid (up_fine Fl.out (by have := Hn.out; have := Hm.out; omega))
    obtain ⟨s, hs⟩ : ∃ s, s = upS a := ⟨_, rfl⟩
    have Hs := Lib.hid hs
    clear hs
    have SMs := Lib.hid (show Small s by rw [Hs.out]; exact up_small a)
    have RT := Lib.hid (fun (t0 : 0 ≤ t) (t1 : t ≤ 63) => show K.belL s.ks s.ka t = cntU a t ∧ K.belM s.ks s.ka t = cntU a t by rw [Hs.out]; exact few_rank OK.out (by have := Hn.out; have := Hm.out; omega) t0 t1)
    have K2 := Lib.hid (fun W h => lkUpTo_at W (.slice xa na ca) a t h (by have := Hn.out; have := Hm.out; omega))
    clear Fl
    have K1 := imSumOf_at W3 xa na ca a Ll.out
    rw [OK.out, ← Hs.out] at K1
    go_wp2_with fail
    refine (K1).mono ?_
    rintro e w4 ⟨V1, rfl, ho, hb⟩
    clear K1
    replace ho := ho.base (B' := w.heap.size) B.out.size (Nat.le_refl _) (Nat.le_refl _)
    replace B := Lib.hid (B.out.trans (hb.mono B.out.size))
    replace Ll := Lib.hid (Ll.out.below hb (Nat.le_refl _))
    have P := Lib.hid (ho)
    clear hb
    obtain ⟨W4, hW⟩ : ∃ W, W = (w4.alloc (.cells #[.slice V1.xr V1.nr V1.cr, .slice V1.xf V1.nf V1.cf, .slice V1.xt V1.nt V1.ct, .int .i64 s.lo, .int .i64 s.al, .slice V1.xk V1.nk V1.ck, .int .i64 s.ka] 39)) := ⟨_, rfl⟩
    replace B := Lib.hid ((B.out).alloc (Nat.le_trans B.out.size (by simp)) (.cells #[.slice V1.xr V1.nr V1.cr, .slice V1.xf V1.nf V1.cf, .slice V1.xt V1.nt V1.ct, .int .i64 s.lo, .int .i64 s.al, .slice V1.xk V1.nk V1.ck, .int .i64 s.ka] 39))
    rw [← hW] at B
    replace Ll := Lib.hid (Ll.out.below ((Below.refl _ _).alloc (Nat.le_refl _) (.cells #[.slice V1.xr V1.nr V1.cr, .slice V1.xf V1.nf V1.cf, .slice V1.xt V1.nt V1.ct, .int .i64 s.lo, .int .i64 s.al, .slice V1.xk V1.nk V1.ck, .int .i64 s.ka] 39)) (Nat.le_refl _))
    rw [← hW] at Ll
    replace P := Lib.hid (P.out.alloc (.cells #[.slice V1.xr V1.nr V1.cr, .slice V1.xf V1.nf V1.cf, .slice V1.xt V1.nt V1.ct, .int .i64 s.lo, .int .i64 s.al, .slice V1.xk V1.nk V1.ck, .int .i64 s.ka] 39))
    rw [← hW] at P
    have X := Box7.new w4 39 (.slice V1.xr V1.nr V1.cr) (.slice V1.xf V1.nf V1.cf) (.slice V1.xt V1.nt V1.ct) (.int .i64 s.lo) (.int .i64 s.al) (.slice V1.xk V1.nk V1.ck) (.int .i64 s.ka)
    rw [← hW] at X
    go_wp2_with fail
    rw [← hW]
    clear hW
    clear ho
    have K1 := spSumOf_at W4 xa na ca a Ll.out
    rw [OK.out, ← Hs.out] at K1
    go_wp2_with fail
    refine (K1).mono ?_
    rintro e w5 ⟨V2, rfl, ho, hb⟩
    clear K1
    replace ho := ho.base (B' := w.heap.size) B.out.size (Nat.le_refl _) (Nat.le_refl _)
    replace B := Lib.hid (B.out.trans (hb.mono B.out.size))
    replace Ll := Lib.hid (Ll.out.below hb (Nat.le_refl _))
    replace P := Lib.hid (P.out.below hb)
    replace X := X.later hb
    have Q := Lib.hid (ho)
    clear hb
    obtain ⟨W5, hW⟩ : ∃ W, W = (w5.alloc (.cells #[.slice V2.xr V2.nr V2.cr, .slice V2.xf V2.nf V2.cf, .slice V2.xt V2.nt V2.ct, .int .i64 s.lo, .int .i64 s.al, .slice V2.xk V2.nk V2.ck, .int .i64 s.ka] 39)) := ⟨_, rfl⟩
    obtain ⟨ax0, ax1, ax2, ax3, ax4, ax5, ax6⟩ := ((X.alloc (.cells #[.slice V2.xr V2.nr V2.cr, .slice V2.xf V2.nf V2.cf, .slice V2.xt V2.nt V2.ct, .int .i64 s.lo, .int .i64 s.al, .slice V2.xk V2.nk V2.ck, .int .i64 s.ka] 39))).cells
    replace B := Lib.hid ((B.out).alloc (Nat.le_trans B.out.size (by simp)) (.cells #[.slice V2.xr V2.nr V2.cr, .slice V2.xf V2.nf V2.cf, .slice V2.xt V2.nt V2.ct, .int .i64 s.lo, .int .i64 s.al, .slice V2.xk V2.nk V2.ck, .int .i64 s.ka] 39))
    rw [← hW] at B
    replace Ll := Lib.hid (Ll.out.below ((Below.refl _ _).alloc (Nat.le_refl _) (.cells #[.slice V2.xr V2.nr V2.cr, .slice V2.xf V2.nf V2.cf, .slice V2.xt V2.nt V2.ct, .int .i64 s.lo, .int .i64 s.al, .slice V2.xk V2.nk V2.ck, .int .i64 s.ka] 39)) (Nat.le_refl _))
    rw [← hW] at Ll
    replace P := Lib.hid (P.out.alloc (.cells #[.slice V2.xr V2.nr V2.cr, .slice V2.xf V2.nf V2.cf, .slice V2.xt V2.nt V2.ct, .int .i64 s.lo, .int .i64 s.al, .slice V2.xk V2.nk V2.ck, .int .i64 s.ka] 39))
    rw [← hW] at P
    replace X := X.alloc (.cells #[.slice V2.xr V2.nr V2.cr, .slice V2.xf V2.nf V2.cf, .slice V2.xt V2.nt V2.ct, .int .i64 s.lo, .int .i64 s.al, .slice V2.xk V2.nk V2.ck, .int .i64 s.ka] 39)
    rw [← hW] at X
    replace Q := Lib.hid (Q.out.alloc (.cells #[.slice V2.xr V2.nr V2.cr, .slice V2.xf V2.nf V2.cf, .slice V2.xt V2.nt V2.ct, .int .i64 s.lo, .int .i64 s.al, .slice V2.xk V2.nk V2.ck, .int .i64 s.ka] 39))
    rw [← hW] at Q
    have Y := Box7.new w5 39 (.slice V2.xr V2.nr V2.cr) (.slice V2.xf V2.nf V2.cf) (.slice V2.xt V2.nt V2.ct) (.int .i64 s.lo) (.int .i64 s.al) (.slice V2.xk V2.nk V2.ck) (.int .i64 s.ka)
    rw [← hW] at Y
    go_wp2_with fail
    rw [← hW]
    clear hW ax0 ax1 ax2 ax3 ax4 ax5 ax6
    clear ho
    by_cases ht : t < 0 ∨ 63 < t
    · rcases ht with ht | ht
      · skip
        refine (lkSum_same W5 V1 V2 s P.out.rd Q.out.rd SMs.out).mono ?_
        rintro e w6 ⟨rfl, hb⟩
        replace B := Lib.hid (B.out.trans (hb.mono B.out.size))
        replace Ll := Lib.hid (Ll.out.below hb (Nat.le_refl _))
        replace P := Lib.hid (P.out.below hb)
        replace X := X.later hb
        replace Q := Lib.hid (Q.out.below hb)
        replace Y := Y.later hb
        clear hb
        obtain ⟨cx0, cx1, cx2, cx3, cx4, cx5, cx6⟩ := (X).cells
        obtain ⟨cy0, cy1, cy2, cy3, cy4, cy5, cy6⟩ := (Y).cells
        go_wp2_with fail
        refine (lkSum_same w6 V1 V2 s P.out.rd Q.out.rd SMs.out).mono ?_
        rintro e w7 ⟨rfl, hb⟩
        clear cx0 cx1 cx2 cx3 cx4 cx5 cx6 cy0 cy1 cy2 cy3 cy4 cy5 cy6
        replace B := Lib.hid (B.out.trans (hb.mono B.out.size))
        replace Ll := Lib.hid (Ll.out.below hb (Nat.le_refl _))
        replace P := Lib.hid (P.out.below hb)
        replace X := X.later hb
        replace Q := Lib.hid (Q.out.below hb)
        replace Y := Y.later hb
        clear hb
        go_wp2
        go_ret
        exact ⟨rfl, B.out⟩
      · skip
        have ht0 : 0 ≤ t := by omega
        have ht1 : 64 ≤ t := by omega
        refine (lkSum_same W5 V1 V2 s P.out.rd Q.out.rd SMs.out).mono ?_
        rintro e w6 ⟨rfl, hb⟩
        replace B := Lib.hid (B.out.trans (hb.mono B.out.size))
        replace Ll := Lib.hid (Ll.out.below hb (Nat.le_refl _))
        replace P := Lib.hid (P.out.below hb)
        replace X := X.later hb
        replace Q := Lib.hid (Q.out.below hb)
        replace Y := Y.later hb
        clear hb
        obtain ⟨cx0, cx1, cx2, cx3, cx4, cx5, cx6⟩ := (X).cells
        obtain ⟨cy0, cy1, cy2, cy3, cy4, cy5, cy6⟩ := (Y).cells
        go_wp2_with fail
        refine (lkSum_same w6 V1 V2 s P.out.rd Q.out.rd SMs.out).mono ?_
        rintro e w7 ⟨rfl, hb⟩
        clear cx0 cx1 cx2 cx3 cx4 cx5 cx6 cy0 cy1 cy2 cy3 cy4 cy5 cy6
        replace B := Lib.hid (B.out.trans (hb.mono B.out.size))
        replace Ll := Lib.hid (Ll.out.below hb (Nat.le_refl _))
        replace P := Lib.hid (P.out.below hb)
        replace X := X.later hb
        replace Q := Lib.hid (Q.out.below hb)
        replace Y := Y.later hb
        clear hb
        go_wp2
        go_ret
        exact ⟨rfl, B.out⟩
    have t0 : 0 ≤ t := by omega
    have t1 : t ≤ 63 := by omega
    have t2 : t < 64 := by omega
    clear ht
    obtain ⟨e1, e2⟩ := RT.out t0 t1
    have K1 := Lib.hid (fun W h => K.imRankBelow_at W (.slice V1.xk V1.nk V1.ck) s.ks s.ka t h)
    rw [e1, e2] at K1
    clear e1 e2 RT
    generalize cntU a t = tv at K1 K2
    refine (lkSum_same W5 V1 V2 s P.out.rd Q.out.rd SMs.out).mono ?_
    rintro e w6 ⟨rfl, hb⟩
    replace B := Lib.hid (B.out.trans (hb.mono B.out.size))
    replace Ll := Lib.hid (Ll.out.below hb (Nat.le_refl _))
    replace P := Lib.hid (P.out.below hb)
    replace X := X.later hb
    replace Q := Lib.hid (Q.out.below hb)
    replace Y := Y.later hb
    clear hb
    obtain ⟨cx0, cx1, cx2, cx3, cx4, cx5, cx6⟩ := (X).cells
    clear Y
    clear Q
    go_wp2_with fail
    refine (K1.out w6 P.out.rd.k).mono ?_
    rintro e w7 ⟨rfl, hb⟩
    clear cx0 cx1 cx2 cx3 cx4 cx5 cx6
    replace B := Lib.hid (B.out.trans (hb.mono B.out.size))
    replace Ll := Lib.hid (Ll.out.below hb (Nat.le_refl _))
    replace P := Lib.hid (P.out.below hb)
    replace X := X.later hb
    clear hb
    go_wp2_with fail
    refine (K2.out w7 Ll.out).mono ?_
    rintro e w8 ⟨rfl, hb⟩
    replace B := Lib.hid (B.out.trans (hb.mono B.out.size))
    replace Ll := Lib.hid (Ll.out.below hb (Nat.le_refl _))
    replace P := Lib.hid (P.out.below hb)
    replace X := X.later hb
    clear hb
    go_wp2
    go_ret
    exact ⟨by first | rfl | simp, B.out⟩
  · have h8' : (8 : Int) ≤ na := by omega
    obtain ⟨b9, o9, rfl⟩ := La.out.addr (by omega)
    go_wp2_with fail
    refine (K.drawKBelow_at w2 _ len1 ⟨_, _, rfl⟩ (bts_below HB'.out B.out)).mono ?_
    rintro e w3 ⟨v9, al9, t, rfl, tt, ps9, hrc9⟩
    have hb := hrc9.below
    obtain ⟨y9, d9, rfl⟩ := hrc9.own.form'
    generalize ps9.length = p9
    clear hrc9
    replace B := Lib.hid (B.out.trans (hb.mono B.out.size))
    replace La := Lib.hid (La.out.below hb (Nat.le_refl _))
    clear hb
    obtain ⟨W3, hW⟩ : ∃ W, W = (w3.alloc (.cells #[.slice y9 p9 d9, .int .i64 al9] 37)) := ⟨_, rfl⟩
    replace B := Lib.hid ((B.out).alloc (Nat.le_trans B.out.size (by simp)) (.cells #[.slice y9 p9 d9, .int .i64 al9] 37))
    rw [← hW] at B
    replace La := Lib.hid (La.out.below ((Below.refl _ _).alloc (Nat.le_refl _) (.cells #[.slice y9 p9 d9, .int .i64 al9] 37)) (Nat.le_refl _))
    rw [← hW] at La
    go_wp2_with fail
    rw [← hW]
    clear hW
    have Ll := Lib.hid (La.out.cut (k := 7) (by omega))
    obtain ⟨l, hl⟩ : ∃ l, l = a.take 7 := ⟨_, rfl⟩
    rw [← hl] at Ll
    have Fl := Lib.hid (show ∀ t ∈ l, 0 ≤ t ∧ t ≤ 63 from fun t ht => Fa.out t (List.mem_of_mem_take (hl ▸ ht)))
    have Hn := Lib.hid (show 7 = l.length by rw [hl, List.length_take, ← Hna.out]; omega)
    have Hm := Lib.hid (show 7 < 8 by omega)
    clear hl Fa La
    clear Hna Mna
    have OK := Lib.hid (up_fine Fl.out (by have := Hn.out; have := Hm.out; omega))
    obtain ⟨s, hs⟩ : ∃ s, s = upS l := ⟨_, rfl⟩
    have Hs := Lib.hid hs
    clear hs
    have SMs := Lib.hid (show Small s by rw [Hs.out]; exact up_small l)
    have RT := Lib.hid (fun (t0 : 0 ≤ t) (t1 : t ≤ 63) => show K.belL s.ks s.ka t = cntU l t ∧ K.belM s.ks s.ka t = cntU l t by rw [Hs.out]; exact few_rank OK.out (by have := Hn.out; have := Hm.out; omega) t0 t1)
    have K2 := Lib.hid (fun W h => lkUpTo_at W (.slice (some ⟨b9, o9, none⟩) 7 ca) l t h (by have := Hn.out; have := Hm.out; omega))
    clear Fl
    have K1 := imSumOf_at W3 (some ⟨b9, o9, none⟩) 7 ca l Ll.out
    rw [OK.out, ← Hs.out] at K1
    go_wp2_with fail
    refine (K1).mono ?_
    rintro e w4 ⟨V1, rfl, ho, hb⟩
    clear K1
    replace ho := ho.base (B' := w.heap.size) B.out.size (Nat.le_refl _) (Nat.le_refl _)
    replace B := Lib.hid (B.out.trans (hb.mono B.out.size))
    replace Ll := Lib.hid (Ll.out.below hb (Nat.le_refl _))
    have P := Lib.hid (ho)
    clear hb
    obtain ⟨W4, hW⟩ : ∃ W, W = (w4.alloc (.cells #[.slice V1.xr V1.nr V1.cr, .slice V1.xf V1.nf V1.cf, .slice V1.xt V1.nt V1.ct, .int .i64 s.lo, .int .i64 s.al, .slice V1.xk V1.nk V1.ck, .int .i64 s.ka] 39)) := ⟨_, rfl⟩
    replace B := Lib.hid ((B.out).alloc (Nat.le_trans B.out.size (by simp)) (.cells #[.slice V1.xr V1.nr V1.cr, .slice V1.xf V1.nf V1.cf, .slice V1.xt V1.nt V1.ct, .int .i64 s.lo, .int .i64 s.al, .slice V1.xk V1.nk V1.ck, .int .i64 s.ka] 39))
    rw [← hW] at B
    replace Ll := Lib.hid (Ll.out.below ((Below.refl _ _).alloc (Nat.le_refl _) (.cells #[.slice V1.xr V1.nr V1.cr, .slice V1.xf V1.nf V1.cf, .slice V1.xt V1.nt V1.ct, .int .i64 s.lo, .int .i64 s.al, .slice V1.xk V1.nk V1.ck, .int .i64 s.ka] 39)) (Nat.le_refl _))
    rw [← hW] at Ll
    replace P := Lib.hid (P.out.alloc (.cells #[.slice V1.xr V1.nr V1.cr, .slice V1.xf V1.nf V1.cf, .slice V1.xt V1.nt V1.ct, .int .i64 s.lo, .int .i64 s.al, .slice V1.xk V1.nk V1.ck, .int .i64 s.ka] 39))
    rw [← hW] at P
    have X := Box7.new w4 39 (.slice V1.xr V1.nr V1.cr) (.slice V1.xf V1.nf V1.cf) (.slice V1.xt V1.nt V1.ct) (.int .i64 s.lo) (.int .i64 s.al) (.slice V1.xk V1.nk V1.ck) (.int .i64 s.ka)
    rw [← hW] at X
    go_wp2_with fail
    rw [← hW]
    clear hW
    clear ho
    have K1 := spSumOf_at W4 (some ⟨b9, o9, none⟩) 7 ca l Ll.out
    rw [OK.out, ← Hs.out] at K1
    go_wp2_with fail
    refine (K1).mono ?_
    rintro e w5 ⟨V2, rfl, ho, hb⟩
    clear K1
    replace ho := ho.base (B' := w.heap.size) B.out.size (Nat.le_refl _) (Nat.le_refl _)
    replace B := Lib.hid (B.out.trans (hb.mono B.out.size))
    replace Ll := Lib.hid (Ll.out.below hb (Nat.le_refl _))
    replace P := Lib.hid (P.out.below hb)
    replace X := X.later hb
    have Q := Lib.hid (ho)
    clear hb
    obtain ⟨W5, hW⟩ : ∃ W, W = (w5.alloc (.cells #[.slice V2.xr V2.nr V2.cr, .slice V2.xf V2.nf V2.cf, .slice V2.xt V2.nt V2.ct, .int .i64 s.lo, .int .i64 s.al, .slice V2.xk V2.nk V2.ck, .int .i64 s.ka] 39)) := ⟨_, rfl⟩
    obtain ⟨ax0, ax1, ax2, ax3, ax4, ax5, ax6⟩ := ((X.alloc (.cells #[.slice V2.xr V2.nr V2.cr, .slice V2.xf V2.nf V2.cf, .slice V2.xt V2.nt V2.ct, .int .i64 s.lo, .int .i64 s.al, .slice V2.xk V2.nk V2.ck, .int .i64 s.ka] 39))).cells
    replace B := Lib.hid ((B.out).alloc (Nat.le_trans B.out.size (by simp)) (.cells #[.slice V2.xr V2.nr V2.cr, .slice V2.xf V2.nf V2.cf, .slice V2.xt V2.nt V2.ct, .int .i64 s.lo, .int .i64 s.al, .slice V2.xk V2.nk V2.ck, .int .i64 s.ka] 39))
    rw [← hW] at B
    replace Ll := Lib.hid (Ll.out.below ((Below.refl _ _).alloc (Nat.le_refl _) (.cells #[.slice V2.xr V2.nr V2.cr, .slice V2.xf V2.nf V2.cf, .slice V2.xt V2.nt V2.ct, .int .i64 s.lo, .int .i64 s.al, .slice V2.xk V2.nk V2.ck, .int .i64 s.ka] 39)) (Nat.le_refl _))
    rw [← hW] at Ll
    replace P := Lib.hid (P.out.alloc (.cells #[.slice V2.xr V2.nr V2.cr, .slice V2.xf V2.nf V2.cf, .slice V2.xt V2.nt V2.ct, .int .i64 s.lo, .int .i64 s.al, .slice V2.xk V2.nk V2.ck, .int .i64 s.ka] 39))
    rw [← hW] at P
    replace X := X.alloc (.cells #[.slice V2.xr V2.nr V2.cr, .slice V2.xf V2.nf V2.cf, .slice V2.xt V2.nt V2.ct, .int .i64 s.lo, .int .i64 s.al, .slice V2.xk V2.nk V2.ck, .int .i64 s.ka] 39)
    rw [← hW] at X
    replace Q := Lib.hid (Q.out.alloc (.cells #[.slice V2.xr V2.nr V2.cr, .slice V2.xf V2.nf V2.cf, .slice V2.xt V2.nt V2.ct, .int .i64 s.lo, .int .i64 s.al, .slice V2.xk V2.nk V2.ck, .int .i64 s.ka] 39))
    rw [← hW] at Q
    have Y := Box7.new w5 39 (.slice V2.xr V2.nr V2.cr) (.slice V2.xf V2.nf V2.cf) (.slice V2.xt V2.nt V2.ct) (.int .i64 s.lo) (.int .i64 s.al) (.slice V2.xk V2.nk V2.ck) (.int .i64 s.ka)
    rw [← hW] at Y
    go_wp2_with fail
    rw [← hW]
    clear hW ax0 ax1 ax2 ax3 ax4 ax5 ax6
    clear ho
    by_cases ht : t < 0 ∨ 63 < t
    · rcases ht with ht | ht
      · skip
        refine (lkSum_same W5 V1 V2 s P.out.rd Q.out.rd SMs.out).mono ?_
        rintro e w6 ⟨rfl, hb⟩
        replace B := Lib.hid (B.out.trans (hb.mono B.out.size))
        replace Ll := Lib.hid (Ll.out.below hb (Nat.le_refl _))
        replace P := Lib.hid (P.out.below hb)
        replace X := X.later hb
        replace Q := Lib.hid (Q.out.below hb)
        replace Y := Y.later hb
        clear hb
        obtain ⟨cx0, cx1, cx2, cx3, cx4, cx5, cx6⟩ := (X).cells
        obtain ⟨cy0, cy1, cy2, cy3, cy4, cy5, cy6⟩ := (Y).cells
        go_wp2_with fail
        refine (lkSum_same w6 V1 V2 s P.out.rd Q.out.rd SMs.out).mono ?_
        rintro e w7 ⟨rfl, hb⟩
        clear cx0 cx1 cx2 cx3 cx4 cx5 cx6 cy0 cy1 cy2 cy3 cy4 cy5 cy6
        replace B := Lib.hid (B.out.trans (hb.mono B.out.size))
        replace Ll := Lib.hid (Ll.out.below hb (Nat.le_refl _))
        replace P := Lib.hid (P.out.below hb)
        replace X := X.later hb
        replace Q := Lib.hid (Q.out.below hb)
        replace Y := Y.later hb
        clear hb
        go_wp2
        go_ret
        exact ⟨rfl, B.out⟩
      · skip
        have ht0 : 0 ≤ t := by omega
        have ht1 : 64 ≤ t := by omega
        refine (lkSum_same W5 V1 V2 s P.out.rd Q.out.rd SMs.out).mono ?_
        rintro e w6 ⟨rfl, hb⟩
        replace B := Lib.hid (B.out.trans (hb.mono B.out.size))
        replace Ll := Lib.hid (Ll.out.below hb (Nat.le_refl _))
        replace P := Lib.hid (P.out.below hb)
        replace X := X.later hb
        replace Q := Lib.hid (Q.out.below hb)
        replace Y := Y.later hb
        clear hb
        obtain ⟨cx0, cx1, cx2, cx3, cx4, cx5, cx6⟩ := (X).cells
        obtain ⟨cy0, cy1, cy2, cy3, cy4, cy5, cy6⟩ := (Y).cells
        go_wp2_with fail
        refine (lkSum_same w6 V1 V2 s P.out.rd Q.out.rd SMs.out).mono ?_
        rintro e w7 ⟨rfl, hb⟩
        clear cx0 cx1 cx2 cx3 cx4 cx5 cx6 cy0 cy1 cy2 cy3 cy4 cy5 cy6
        replace B := Lib.hid (B.out.trans (hb.mono B.out.size))
        replace Ll := Lib.hid (Ll.out.below hb (Nat.le_refl _))
        replace P := Lib.hid (P.out.below hb)
        replace X := X.later hb
        replace Q := Lib.hid (Q.out.below hb)
        replace Y := Y.later hb
        clear hb
        go_wp2
        go_ret
        exact ⟨rfl, B.out⟩
    have t0 : 0 ≤ t := by omega
    have t1 : t ≤ 63 := by omega
    have t2 : t < 64 := by omega
    clear ht
    obtain ⟨e1, e2⟩ := RT.out t0 t1
    have K1 := Lib.hid (fun W h => K.imRankBelow_at W (.slice V1.xk V1.nk V1.ck) s.ks s.ka t h)
    rw [e1, e2] at K1
    clear e1 e2 RT
    generalize cntU l t = tv at K1 K2
    refine (lkSum_same W5 V1 V2 s P.out.rd Q.out.rd SMs.out).mono ?_
    rintro e w6 ⟨rfl, hb⟩
    replace B := Lib.hid (B.out.trans (hb.mono B.out.size))
    replace Ll := Lib.hid (Ll.out.below hb (Nat.le_refl _))
    replace P := Lib.hid (P.out.below hb)
    replace X := X.later hb
    replace Q := Lib.hid (Q.out.below hb)
    replace Y := Y.later hb
    clear hb
    obtain ⟨cx0, cx1, cx2, cx3, cx4, cx5, cx6⟩ := (X).cells
    clear Y
    clear Q
    go_wp2_with fail
    refine (K1.out w6 P.out.rd.k).mono ?_
    rintro e w7 ⟨rfl, hb⟩
    clear cx0 cx1 cx2 cx3 cx4 cx5 cx6
    replace B := Lib.hid (B.out.trans (hb.mono B.out.size))
    replace Ll := Lib.hid (Ll.out.below hb (Nat.le_refl _))
    replace P := Lib.hid (P.out.below hb)
    replace X := X.later hb
    clear hb
    go_wp2_with fail
    refine (K2.out w7 Ll.out).mono ?_
    rintro e w8 ⟨rfl, hb⟩
    replace B := Lib.hid (B.out.trans (hb.mono B.out.size))
    replace Ll := Lib.hid (Ll.out.below hb (Nat.le_refl _))
    replace P := Lib.hid (P.out.below hb)
    replace X := X.later hb
    clear hb
    go_wp2
    go_ret
    exact ⟨by first | rfl | simp, B.out⟩

/-! ### THE ROW's STEP: WRITTEN OUT: LEAVE IT -/
set_option maxRecDepth 100000 in
theorem lifted (os : Os) (started : os.Started) (H : Type) (enc : TypeId × Value → H) :
    ReturnsInHanded {} Tryz.checked os 12 .any (Rows.fnRankFewSpec.pre6 enc Tryz.prog Tryz.f12 Rows.fnRankFewRow.domain false) (Rows.fnRankFewSpec.post enc Tryz.prog Tryz.f12 false true false false) := by
  refine returnsInHanded_of_change (C := Tryz.checked) own started (by kernel_rfl) Tryz.func12
    (ChangeSpec.witness6 (enc := enc) (C := Tryz.checked) false ⟨#[], #[.slice none 0 0, .slice none 0 0], []⟩ 8 (by kernel_rfl) (by kernel_rfl) (by kernel_rfl) (by kernel_rfl)) ?_
  intro W base args ds gs before hval0 hW hcnd _
  have hval : ∀ (j : Nat) t v, Tryz.f12.params[j]? = some t → args[j]? = some v → Value.okWide Tryz.prog W .any base t v := hval0
  have hW' := hW
  obtain ⟨p, q, hA0, hV, rfl, hfz, hnd⟩ := hW
  have hA : DataW.TrodAll enc Tryz.prog W 0 (fun _ => true) true Tryz.f12.params.toList args.toList ds p := hA0
  rw [Tryz.params12] at hA hval
  obtain ⟨v0, vs0, d0, ds0, p0, q0, hargs, rfl, rfl, h0, r0⟩ := trodAll_cons hA
  obtain ⟨v1, vs1, d1, ds1, p1, q1, rfl, rfl, rfl, h1, r1⟩ := trodAll_cons r0
  obtain ⟨rfl, rfl, rfl⟩ := trodAll_nil r1
  obtain rfl : args = #[v0, v1] := by cases args; simp_all
  obtain ⟨rfl, rfl⟩ := trodVars_none hV
  obtain ⟨a0, len0, cap0, rfl⟩ := okWide_slice Tryz.underlying22 (hval 0 22 v0 rfl rfl)
  have k0 := h0
  have lt0 : ∀ x ∈ p0, x.block < W.heap.size := by obtain ⟨m, hm⟩ := k0; exact DataW.trod_lt m _ _ _ hm
  obtain ⟨z0, w0⟩ : ∃ zs, IsRow .u8 W a0 len0 cap0 zs := by
    obtain ⟨fuel, hf⟩ := h0
    rcases open_ints Tryz.underlying22 Tryz.underlying5 (by kernel_rfl) hf with ⟨hcs, _⟩ | ⟨x, l, c, zs, hcs, _, hl, hm, hz, _, hcell, hwz⟩
    · simp [Value.cells] at hcs
      obtain ⟨rfl, rfl, rfl⟩ := hcs
      exact ⟨[], .inl ⟨rfl, rfl, rfl, rfl⟩⟩
    · simp [Value.cells] at hcs
      obtain ⟨rfl, rfl, rfl⟩ := hcs
      exact ⟨zs, .inr ⟨_, rfl, hl, hm, by simpa using hz, hcell, hwz⟩⟩
  obtain ⟨a1, len1, cap1, rfl⟩ := okWide_slice Tryz.underlying22 (hval 1 22 v1 rfl rfl)
  have k1 := h1
  have lt1 : ∀ x ∈ p1, x.block < W.heap.size := by obtain ⟨m, hm⟩ := k1; exact DataW.trod_lt m _ _ _ hm
  obtain ⟨z1, w1⟩ : ∃ zs, IsRow .u8 W a1 len1 cap1 zs := by
    obtain ⟨fuel, hf⟩ := h1
    rcases open_ints Tryz.underlying22 Tryz.underlying5 (by kernel_rfl) hf with ⟨hcs, _⟩ | ⟨x, l, c, zs, hcs, _, hl, hm, hz, _, hcell, hwz⟩
    · simp [Value.cells] at hcs
      obtain ⟨rfl, rfl, rfl⟩ := hcs
      exact ⟨[], .inl ⟨rfl, rfl, rfl, rfl⟩⟩
    · simp [Value.cells] at hcs
      obtain ⟨rfl, rfl, rfl⟩ := hcs
      exact ⟨zs, .inr ⟨_, rfl, hl, hm, by simpa using hz, hcell, hwz⟩⟩
  clear hA0 hval0
  refine (walk a0 len0 cap0 z0 a1 len1 cap1 z1 W w0 w1).mono fun e W' ⟨he, bel⟩ => ?_
  subst he
  exact ⟨_, rfl, _, _, _, [], _, [], hW', trodAll_mk1 (shut_bool Tryz.underlying4 _), (trodAll_cons_mk (Below.trod laidOut (by kernel_rfl) (of_decide_eq_true (by kernel_rfl)) k0 bel lt0) (trodAll_cons_mk (Below.trod laidOut (by kernel_rfl) (of_decide_eq_true (by kernel_rfl)) k1 bel lt1) trodAll_mk0)), rfl, bel.frame _, fun h => by cases h⟩

theorem over : Rows.fnRankFewRow.holds Tryz.pinned (OpenSpec.ofChange Rows.fnRankFewSpec) :=
  OpenClaim.holds_of_wide 12 Tryz.f12 rfl rfl rfl rfl rfl rfl rfl ⟨rfl, rfl, rfl, rfl, rfl⟩ rfl rfl rfl rfl rfl (by kernel_rfl) Tryz.func12 (by show joinedFacts Tryz.prog _ _ _ _ = true; unfold joinedFacts; rw [mayE, liftF, makeC]; kernel_rfl)
    (of_decide_eq_true (by kernel_rfl)) (by unfold Func.isWrapper; first | (rw [if_pos (by decide +kernel)]; kernel_rfl) | (rw [if_neg (by decide +kernel)]; exact ⟨rfl, rfl⟩))
    (fun os started H enc _ => lifted os started H enc)

theorem proved : Rows.FnRankFewSaid := over
#print axioms proved
end Go.Proofs.YtnoilafoeaknjaaGreat.fnRankFew
