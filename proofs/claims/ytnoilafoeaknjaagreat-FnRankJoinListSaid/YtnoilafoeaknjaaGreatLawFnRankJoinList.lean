/-
  The statement of the law FnRankJoinList: at every input the call returns true and leaves what it was given as it was. The frame is the kit's shell; the walk is ours.
-/
import Derived.Test.YtnoilafoeaknjaaGreatZImOf
import Derived.Test.YtnoilafoeaknjaaGreatZSpOf
import Derived.Test.YtnoilafoeaknjaaGreatZDraw
import Derived.Test.YtnoilafoeaknjaaGreatZLk
import Derived.Test.YtnoilafoeaknjaaGreatZImGet
import Derived.Test.YtnoilafoeaknjaaGreatZTell
import Derived.Deep.RegionWith
import Derived.Test.YtnoilafoeaknjaaGreatRows
import Derived.Test.YtnoilafoeaknjaaGreatMk
import Derived.WalkKit
import Derived.ProofKit
import Derived.OpenShut
import Derived.ShutString
import Derived.ChangeOld
import Derived.Below
namespace Go.Proofs.YtnoilafoeaknjaaGreat.fnRankJoinList
open Go.ChangeShapes Go.WideShapes Go.ChangeAt Go.RowKit
open Go.ChangeMaps (open_string shut_string)
set_option linter.unusedVariables false

theorem own : ownKnob Tryz.prog.godebug = none := by kernel_rfl
theorem laidOut : laidOutB Tryz.prog = true := by kernel_rfl

/-- WHAT THE WALK IS TOLD OF A SLICE OF INTEGERS THAT CAME IN: it is nil; or it leads to a row of 'cap' cells, the numbers 'zs' (the first 'len' are its elements, the rest its spare room), each fitting its kind. -/
def IsRow (k : IntKind) (w : World) (a : Option Addr) (len cap : Nat) (zs : List Int) : Prop :=
  (a = none ∧ len = 0 ∧ cap = 0 ∧ zs = []) ∨
  ∃ x, a = some x ∧ len ≤ cap ∧ cap ≤ maxLen ∧ zs.length = cap ∧ (∀ i, i < zs.length → w.cell? (x.add i) = some (.int k (zs.getD i 0))) ∧ ∀ n ∈ zs, (Lit.int k n).wf = true

/-! ### STEP 1: THE WALK: the Go text returns true, AND WRITES NOTHING THAT WAS THERE: 'Below w.heap.size w w'' (Derived/Below.lean: '.refl', '.alloc', '.drew', '.setCell' at a new block, '.trans'). Open each 'IsRow' by 'rcases' AHEAD of 'go_enter'; part every test ahead of the walk. -/
set_option maxRecDepth 100000 in
set_option maxHeartbeats 16000000 in
theorem walk (a0 : Option Addr) (len0 cap0 : Nat) (z0 : List Int) (a1 : Option Addr) (len1 cap1 : Nat) (z1 : List Int) (w : World) (w0 : IsRow .u8 w a0 len0 cap0 z0) (w1 : IsRow .u8 w a1 len1 cap1 z1) :
    Calls Tryz.prog 13 #[.slice a0 len0 cap0, .slice a1 len1 cap1] w fun e w' => e = .returned (.bool true) ∧ Below w.heap.size w w' := by
  obtain ⟨hb, hl⟩ := bts_of w a0 len0 cap0 z0 w0
  obtain ⟨hb', hl'⟩ := bts_of w a1 len1 cap1 z1 w1
  rcases hl with hl | hl
  · go_enter Tryz.func13, Tryz.ntmps13
    go_wp2
    go_ret
    exact ⟨rfl, Below.refl _ _⟩
  rcases hl' with hl' | hl'
  · go_enter Tryz.func13, Tryz.ntmps13
    go_wp2
    go_ret
    exact ⟨rfl, Below.refl _ _⟩
  have HB := Lib.hid hb
  have HB' := Lib.hid hb'
  clear hb w0 hb' w1
  have B := Lib.hid (Below.refl w.heap.size w)
  go_enter Tryz.func13, Tryz.ntmps13
  go_wp2_with fail
  refine (drawSumOf_at w _ len0 ⟨_, _, rfl⟩ (bts_below HB.out B.out)).mono ?_
  rintro e w1 ⟨x9, c9, r1, rfl, ho, hlen, hb⟩
  obtain ⟨n9, hn⟩ : ∃ n, n = r1.length := ⟨_, rfl⟩
  have h9 := ho.rd
  rw [← hn] at h9 hlen ⊢
  have M9 := Lib.hid hlen
  have N9 := Lib.hid hn
  clear hn ho hlen
  replace B := Lib.hid (B.out.trans (hb.mono B.out.size))
  have L9 := Lib.hid (h9)
  clear hb
  clear h9
  go_wp2_with fail
  refine (lkFine_at w1 (.slice x9 n9 c9) r1 L9.out (by have := M9.out; rw [N9.out] at this; omega)).mono ?_
  rintro e w2 ⟨xa, ca, rfl, ho, hb⟩
  obtain ⟨a, hl⟩ : ∃ l, l = fineL r1 := ⟨_, rfl⟩
  rw [← hl] at ho ⊢
  obtain ⟨na, hn⟩ : ∃ n, n = a.length := ⟨_, rfl⟩
  have h9 := ho.rd
  rw [← hn] at h9 ⊢
  have Fa := Lib.hid (show ∀ t ∈ a, 0 ≤ t ∧ t ≤ 63 by rw [hl]; exact fineL_all _)
  have Mna := Lib.hid (show na ≤ 31 by rw [hn, hl]; have := fineL_len r1; have := M9.out; have := N9.out; omega)
  have Hna := Lib.hid hn
  clear hn hl ho M9 N9
  clear L9
  replace B := Lib.hid (B.out.trans (hb.mono B.out.size))
  have La := Lib.hid (h9)
  clear hb
  clear h9
  have OKa := Lib.hid (up_fine Fa.out (by have := Mna.out; have := Hna.out; omega))
  clear Fa
  obtain ⟨sa, hs⟩ : ∃ s, s = upS a := ⟨_, rfl⟩
  have Hsa := Lib.hid hs
  clear hs
  go_wp2_with fail
  refine (drawSumOf_at w2 _ len1 ⟨_, _, rfl⟩ (bts_below HB'.out B.out)).mono ?_
  rintro e w3 ⟨x9, c9, r2, rfl, ho, hlen, hb⟩
  obtain ⟨n9, hn⟩ : ∃ n, n = r2.length := ⟨_, rfl⟩
  have h9 := ho.rd
  rw [← hn] at h9 hlen ⊢
  have M9 := Lib.hid hlen
  have N9 := Lib.hid hn
  clear hn ho hlen
  replace B := Lib.hid (B.out.trans (hb.mono B.out.size))
  replace La := Lib.hid (La.out.below hb (Nat.le_refl _))
  have L9 := Lib.hid (h9)
  clear hb
  clear h9
  go_wp2_with fail
  refine (lkFine_at w3 (.slice x9 n9 c9) r2 L9.out (by have := M9.out; rw [N9.out] at this; omega)).mono ?_
  rintro e w4 ⟨xb, cb, rfl, ho, hb⟩
  obtain ⟨b, hl⟩ : ∃ l, l = fineL r2 := ⟨_, rfl⟩
  rw [← hl] at ho ⊢
  obtain ⟨nb, hn⟩ : ∃ n, n = b.length := ⟨_, rfl⟩
  have h9 := ho.rd
  rw [← hn] at h9 ⊢
  have Fb := Lib.hid (show ∀ t ∈ b, 0 ≤ t ∧ t ≤ 63 by rw [hl]; exact fineL_all _)
  have Mnb := Lib.hid (show nb ≤ 31 by rw [hn, hl]; have := fineL_len r2; have := M9.out; have := N9.out; omega)
  have Hnb := Lib.hid hn
  clear hn hl ho M9 N9
  clear L9
  replace B := Lib.hid (B.out.trans (hb.mono B.out.size))
  replace La := Lib.hid (La.out.below hb (Nat.le_refl _))
  have Lb := Lib.hid (h9)
  clear hb
  clear h9
  have OKb := Lib.hid (up_fine Fb.out (by have := Mnb.out; have := Hnb.out; omega))
  clear Fb
  obtain ⟨sb, hs⟩ : ∃ s, s = upS b := ⟨_, rfl⟩
  have Hsb := Lib.hid hs
  clear hs
  have SMa := Lib.hid (show Small sa by rw [Hsa.out]; exact up_small a)
  have ML := Lib.hid (show a.length + b.length ≤ 2000 by have := Mna.out; have := Mnb.out; have := Hna.out; have := Hnb.out; omega)
  have K1 := imSumOf_at w4 xa na ca a La.out
  rw [OKa.out, ← Hsa.out] at K1
  go_wp2_with fail
  refine (K1).mono ?_
  rintro e w5 ⟨V1, rfl, ho, hb⟩
  clear K1
  replace ho := ho.base (B' := w.heap.size) B.out.size (Nat.le_refl _) (Nat.le_refl _)
  replace B := Lib.hid (B.out.trans (hb.mono B.out.size))
  replace La := Lib.hid (La.out.below hb (Nat.le_refl _))
  replace Lb := Lib.hid (Lb.out.below hb (Nat.le_refl _))
  have P1 := Lib.hid (ho)
  clear hb
  obtain ⟨W5, hW⟩ : ∃ W, W = (w5.alloc (.cells #[.slice V1.xr V1.nr V1.cr, .slice V1.xf V1.nf V1.cf, .slice V1.xt V1.nt V1.ct, .int .i64 sa.lo, .int .i64 sa.al, .slice V1.xk V1.nk V1.ck, .int .i64 sa.ka] 39)) := ⟨_, rfl⟩
  replace B := Lib.hid ((B.out).alloc (Nat.le_trans B.out.size (by simp)) (.cells #[.slice V1.xr V1.nr V1.cr, .slice V1.xf V1.nf V1.cf, .slice V1.xt V1.nt V1.ct, .int .i64 sa.lo, .int .i64 sa.al, .slice V1.xk V1.nk V1.ck, .int .i64 sa.ka] 39))
  rw [← hW] at B
  replace La := Lib.hid (La.out.below ((Below.refl _ _).alloc (Nat.le_refl _) (.cells #[.slice V1.xr V1.nr V1.cr, .slice V1.xf V1.nf V1.cf, .slice V1.xt V1.nt V1.ct, .int .i64 sa.lo, .int .i64 sa.al, .slice V1.xk V1.nk V1.ck, .int .i64 sa.ka] 39)) (Nat.le_refl _))
  rw [← hW] at La
  replace Lb := Lib.hid (Lb.out.below ((Below.refl _ _).alloc (Nat.le_refl _) (.cells #[.slice V1.xr V1.nr V1.cr, .slice V1.xf V1.nf V1.cf, .slice V1.xt V1.nt V1.ct, .int .i64 sa.lo, .int .i64 sa.al, .slice V1.xk V1.nk V1.ck, .int .i64 sa.ka] 39)) (Nat.le_refl _))
  rw [← hW] at Lb
  replace P1 := Lib.hid (P1.out.alloc (.cells #[.slice V1.xr V1.nr V1.cr, .slice V1.xf V1.nf V1.cf, .slice V1.xt V1.nt V1.ct, .int .i64 sa.lo, .int .i64 sa.al, .slice V1.xk V1.nk V1.ck, .int .i64 sa.ka] 39))
  rw [← hW] at P1
  have X1 := Box7.new w5 39 (.slice V1.xr V1.nr V1.cr) (.slice V1.xf V1.nf V1.cf) (.slice V1.xt V1.nt V1.ct) (.int .i64 sa.lo) (.int .i64 sa.al) (.slice V1.xk V1.nk V1.ck) (.int .i64 sa.ka)
  rw [← hW] at X1
  go_wp2_with fail
  rw [← hW]
  clear hW
  clear ho
  have K1 := imSumOf_at W5 xb nb cb b Lb.out
  rw [OKb.out, ← Hsb.out] at K1
  go_wp2_with fail
  refine (K1).mono ?_
  rintro e w6 ⟨V2, rfl, ho, hb⟩
  clear K1
  replace ho := ho.base (B' := w.heap.size) B.out.size (Nat.le_refl _) (Nat.le_refl _)
  replace B := Lib.hid (B.out.trans (hb.mono B.out.size))
  replace La := Lib.hid (La.out.below hb (Nat.le_refl _))
  replace Lb := Lib.hid (Lb.out.below hb (Nat.le_refl _))
  replace P1 := Lib.hid (P1.out.below hb)
  replace X1 := X1.later hb
  have P2 := Lib.hid (ho)
  clear hb
  obtain ⟨W6, hW⟩ : ∃ W, W = (w6.alloc (.cells #[.slice V2.xr V2.nr V2.cr, .slice V2.xf V2.nf V2.cf, .slice V2.xt V2.nt V2.ct, .int .i64 sb.lo, .int .i64 sb.al, .slice V2.xk V2.nk V2.ck, .int .i64 sb.ka] 39)) := ⟨_, rfl⟩
  replace B := Lib.hid ((B.out).alloc (Nat.le_trans B.out.size (by simp)) (.cells #[.slice V2.xr V2.nr V2.cr, .slice V2.xf V2.nf V2.cf, .slice V2.xt V2.nt V2.ct, .int .i64 sb.lo, .int .i64 sb.al, .slice V2.xk V2.nk V2.ck, .int .i64 sb.ka] 39))
  rw [← hW] at B
  replace La := Lib.hid (La.out.below ((Below.refl _ _).alloc (Nat.le_refl _) (.cells #[.slice V2.xr V2.nr V2.cr, .slice V2.xf V2.nf V2.cf, .slice V2.xt V2.nt V2.ct, .int .i64 sb.lo, .int .i64 sb.al, .slice V2.xk V2.nk V2.ck, .int .i64 sb.ka] 39)) (Nat.le_refl _))
  rw [← hW] at La
  replace Lb := Lib.hid (Lb.out.below ((Below.refl _ _).alloc (Nat.le_refl _) (.cells #[.slice V2.xr V2.nr V2.cr, .slice V2.xf V2.nf V2.cf, .slice V2.xt V2.nt V2.ct, .int .i64 sb.lo, .int .i64 sb.al, .slice V2.xk V2.nk V2.ck, .int .i64 sb.ka] 39)) (Nat.le_refl _))
  rw [← hW] at Lb
  replace P1 := Lib.hid (P1.out.alloc (.cells #[.slice V2.xr V2.nr V2.cr, .slice V2.xf V2.nf V2.cf, .slice V2.xt V2.nt V2.ct, .int .i64 sb.lo, .int .i64 sb.al, .slice V2.xk V2.nk V2.ck, .int .i64 sb.ka] 39))
  rw [← hW] at P1
  replace X1 := X1.alloc (.cells #[.slice V2.xr V2.nr V2.cr, .slice V2.xf V2.nf V2.cf, .slice V2.xt V2.nt V2.ct, .int .i64 sb.lo, .int .i64 sb.al, .slice V2.xk V2.nk V2.ck, .int .i64 sb.ka] 39)
  rw [← hW] at X1
  replace P2 := Lib.hid (P2.out.alloc (.cells #[.slice V2.xr V2.nr V2.cr, .slice V2.xf V2.nf V2.cf, .slice V2.xt V2.nt V2.ct, .int .i64 sb.lo, .int .i64 sb.al, .slice V2.xk V2.nk V2.ck, .int .i64 sb.ka] 39))
  rw [← hW] at P2
  have X2 := Box7.new w6 39 (.slice V2.xr V2.nr V2.cr) (.slice V2.xf V2.nf V2.cf) (.slice V2.xt V2.nt V2.ct) (.int .i64 sb.lo) (.int .i64 sb.al) (.slice V2.xk V2.nk V2.ck) (.int .i64 sb.ka)
  rw [← hW] at X2
  go_wp2_with fail
  rw [← hW]
  clear hW
  clear ho
  have K1 := spSumOf_at W6 xa na ca a La.out
  rw [OKa.out, ← Hsa.out] at K1
  go_wp2_with fail
  refine (K1).mono ?_
  rintro e w7 ⟨V3, rfl, ho, hb⟩
  clear K1
  replace ho := ho.base (B' := w.heap.size) B.out.size (Nat.le_refl _) (Nat.le_refl _)
  replace B := Lib.hid (B.out.trans (hb.mono B.out.size))
  replace La := Lib.hid (La.out.below hb (Nat.le_refl _))
  replace Lb := Lib.hid (Lb.out.below hb (Nat.le_refl _))
  replace P1 := Lib.hid (P1.out.below hb)
  replace X1 := X1.later hb
  replace P2 := Lib.hid (P2.out.below hb)
  replace X2 := X2.later hb
  have P3 := Lib.hid (ho)
  clear hb
  obtain ⟨W7, hW⟩ : ∃ W, W = (w7.alloc (.cells #[.slice V3.xr V3.nr V3.cr, .slice V3.xf V3.nf V3.cf, .slice V3.xt V3.nt V3.ct, .int .i64 sa.lo, .int .i64 sa.al, .slice V3.xk V3.nk V3.ck, .int .i64 sa.ka] 39)) := ⟨_, rfl⟩
  obtain ⟨ax10, ax11, ax12, ax13, ax14, ax15, ax16⟩ := ((X1.alloc (.cells #[.slice V3.xr V3.nr V3.cr, .slice V3.xf V3.nf V3.cf, .slice V3.xt V3.nt V3.ct, .int .i64 sa.lo, .int .i64 sa.al, .slice V3.xk V3.nk V3.ck, .int .i64 sa.ka] 39))).cells
  replace B := Lib.hid ((B.out).alloc (Nat.le_trans B.out.size (by simp)) (.cells #[.slice V3.xr V3.nr V3.cr, .slice V3.xf V3.nf V3.cf, .slice V3.xt V3.nt V3.ct, .int .i64 sa.lo, .int .i64 sa.al, .slice V3.xk V3.nk V3.ck, .int .i64 sa.ka] 39))
  rw [← hW] at B
  replace La := Lib.hid (La.out.below ((Below.refl _ _).alloc (Nat.le_refl _) (.cells #[.slice V3.xr V3.nr V3.cr, .slice V3.xf V3.nf V3.cf, .slice V3.xt V3.nt V3.ct, .int .i64 sa.lo, .int .i64 sa.al, .slice V3.xk V3.nk V3.ck, .int .i64 sa.ka] 39)) (Nat.le_refl _))
  rw [← hW] at La
  replace Lb := Lib.hid (Lb.out.below ((Below.refl _ _).alloc (Nat.le_refl _) (.cells #[.slice V3.xr V3.nr V3.cr, .slice V3.xf V3.nf V3.cf, .slice V3.xt V3.nt V3.ct, .int .i64 sa.lo, .int .i64 sa.al, .slice V3.xk V3.nk V3.ck, .int .i64 sa.ka] 39)) (Nat.le_refl _))
  rw [← hW] at Lb
  replace P1 := Lib.hid (P1.out.alloc (.cells #[.slice V3.xr V3.nr V3.cr, .slice V3.xf V3.nf V3.cf, .slice V3.xt V3.nt V3.ct, .int .i64 sa.lo, .int .i64 sa.al, .slice V3.xk V3.nk V3.ck, .int .i64 sa.ka] 39))
  rw [← hW] at P1
  replace X1 := X1.alloc (.cells #[.slice V3.xr V3.nr V3.cr, .slice V3.xf V3.nf V3.cf, .slice V3.xt V3.nt V3.ct, .int .i64 sa.lo, .int .i64 sa.al, .slice V3.xk V3.nk V3.ck, .int .i64 sa.ka] 39)
  rw [← hW] at X1
  replace P2 := Lib.hid (P2.out.alloc (.cells #[.slice V3.xr V3.nr V3.cr, .slice V3.xf V3.nf V3.cf, .slice V3.xt V3.nt V3.ct, .int .i64 sa.lo, .int .i64 sa.al, .slice V3.xk V3.nk V3.ck, .int .i64 sa.ka] 39))
  rw [← hW] at P2
  replace X2 := X2.alloc (.cells #[.slice V3.xr V3.nr V3.cr, .slice V3.xf V3.nf V3.cf, .slice V3.xt V3.nt V3.ct, .int .i64 sa.lo, .int .i64 sa.al, .slice V3.xk V3.nk V3.ck, .int .i64 sa.ka] 39)
  rw [← hW] at X2
  replace P3 := Lib.hid (P3.out.alloc (.cells #[.slice V3.xr V3.nr V3.cr, .slice V3.xf V3.nf V3.cf, .slice V3.xt V3.nt V3.ct, .int .i64 sa.lo, .int .i64 sa.al, .slice V3.xk V3.nk V3.ck, .int .i64 sa.ka] 39))
  rw [← hW] at P3
  have X3 := Box7.new w7 39 (.slice V3.xr V3.nr V3.cr) (.slice V3.xf V3.nf V3.cf) (.slice V3.xt V3.nt V3.ct) (.int .i64 sa.lo) (.int .i64 sa.al) (.slice V3.xk V3.nk V3.ck) (.int .i64 sa.ka)
  rw [← hW] at X3
  go_wp2_with fail
  rw [← hW]
  clear hW ax10 ax11 ax12 ax13 ax14 ax15 ax16
  clear ho
  obtain ⟨⟨z, za⟩, hz⟩ : ∃ z, K.joinK sa.ks sa.ka sb.ks sb.ka = z := ⟨_, rfl⟩
  have TJ := Lib.hid (rank_joined (z := z) (al := za) OKa.out OKb.out ML.out (by rw [← Hsa.out, ← Hsb.out]; exact hz))
  have JO := Lib.hid (show K.joinOkK sa.ks sa.ka sb.ks sb.ka = true by rw [Hsa.out, Hsb.out]; exact TJ.out.1)
  have KJ := Lib.hid (fun (W : World) (h1 : K.Prs W (.slice V1.xk V1.nk V1.ck) sa.ks) (h2 : K.Prs W (.slice V2.xk V2.nk V2.ck) sb.ks) => show Calls Tryz.prog 49 #[.agg #[.slice V1.xk V1.nk V1.ck, .int .i64 sa.ka], .agg #[.slice V2.xk V2.nk V2.ck, .int .i64 sb.ka]] W fun e w' => ∃ r, e = .returned (.tuple #[.agg #[r, .int .i64 za], .bool true]) ∧ K.OwnP w' W.heap.size r z ∧ Below W.heap.size W w' by have k := K.imRankJoin_at W _ _ sa.ks sa.ka sb.ks sb.ka h1 h2; rw [hz, JO.out] at k; exact k)
  clear hz JO
  refine (lkSum_same W7 V1 V3 sa P1.out.rd P3.out.rd SMa.out).mono ?_
  rintro e w8 ⟨rfl, hb⟩
  replace B := Lib.hid (B.out.trans (hb.mono B.out.size))
  replace La := Lib.hid (La.out.below hb (Nat.le_refl _))
  replace Lb := Lib.hid (Lb.out.below hb (Nat.le_refl _))
  replace P1 := Lib.hid (P1.out.below hb)
  replace X1 := X1.later hb
  replace P2 := Lib.hid (P2.out.below hb)
  replace X2 := X2.later hb
  replace P3 := Lib.hid (P3.out.below hb)
  replace X3 := X3.later hb
  clear hb
  obtain ⟨cx10, cx11, cx12, cx13, cx14, cx15, cx16⟩ := (X1).cells
  obtain ⟨cx20, cx21, cx22, cx23, cx24, cx25, cx26⟩ := (X2).cells
  clear X3
  clear P3
  go_wp2_with fail
  refine (KJ.out w8 P1.out.rd.k P2.out.rd.k).mono ?_
  rintro e w9 ⟨v, rfl, ho, hb⟩
  obtain ⟨xz, cz, rfl⟩ := ho.form'
  obtain ⟨nz, hnz⟩ : ∃ n, n = z.length := ⟨_, rfl⟩
  have h9 := ho.rd
  rw [← hnz] at h9 ⊢
  clear KJ ho hnz
  clear X1
  clear X2
  clear P1
  clear P2
  clear cx10 cx11 cx12 cx13 cx14 cx15 cx16 cx20 cx21 cx22 cx23 cx24 cx25 cx26
  replace B := Lib.hid (B.out.trans (hb.mono B.out.size))
  replace La := Lib.hid (La.out.below hb (Nat.le_refl _))
  replace Lb := Lib.hid (Lb.out.below hb (Nat.le_refl _))
  have Z := Lib.hid (h9)
  clear hb
  obtain ⟨W9, hW⟩ : ∃ W, W = (w9.alloc (.cells #[.slice xz nz cz, .int .i64 za] 37)) := ⟨_, rfl⟩
  replace B := Lib.hid ((B.out).alloc (Nat.le_trans B.out.size (by simp)) (.cells #[.slice xz nz cz, .int .i64 za] 37))
  rw [← hW] at B
  replace La := Lib.hid (La.out.below ((Below.refl _ _).alloc (Nat.le_refl _) (.cells #[.slice xz nz cz, .int .i64 za] 37)) (Nat.le_refl _))
  rw [← hW] at La
  replace Lb := Lib.hid (Lb.out.below ((Below.refl _ _).alloc (Nat.le_refl _) (.cells #[.slice xz nz cz, .int .i64 za] 37)) (Nat.le_refl _))
  rw [← hW] at Lb
  replace Z := Lib.hid (Z.out.below ((Below.refl _ _).alloc (Nat.le_refl _) (.cells #[.slice xz nz cz, .int .i64 za] 37)) (Nat.le_refl _))
  rw [← hW] at Z
  have XZ := K.Box2.new w9 37 (.slice xz nz cz) (.int .i64 za)
  rw [← hW] at XZ
  clear h9
  go_wp2
  rw [← hW]
  clear hW
  go_loopw [15] (fun i wr => ∃ j : Nat, i = .int .i64 j ∧ j ≤ 64 ∧ Below W9.heap.size W9 wr) (fun i _ => 64 - (intOf i).toNat)
  case atStart => exact ⟨0, rfl, by omega, Below.refl _ _⟩
  case round =>
    obtain ⟨j, rfl, hj, hD⟩ := hrel
    have D := Lib.hid hD
    clear hD
    replace B := Lib.hid (B.out.trans (D.out.mono B.out.size))
    replace La := Lib.hid (La.out.below D.out (Nat.le_refl _))
    replace Lb := Lib.hid (Lb.out.below D.out (Nat.le_refl _))
    replace Z := Lib.hid (Z.out.below D.out (Nat.le_refl _))
    replace XZ := XZ.later D.out
    have DD := D
    clear D
    have xz0 := XZ.cell0
    have xz1 := XZ.cell1
    by_cases hlt : j < 64
    · have tj := TJ.out.2.2 (j : Int) (by omega) (by omega)
      have K1 := Lib.hid (K.imRankBelow_at wr (.slice xz nz cz) z za (j : Int) Z.out)
      have Ka := Lib.hid (fun W h => lkUpTo_at W (.slice xa na ca) a (j : Int) h (by have := Mna.out; have := Hna.out; omega))
      have Kb := Lib.hid (fun W h => lkUpTo_at W (.slice xb nb cb) b (j : Int) h (by have := Mnb.out; have := Hnb.out; omega))
      have bda : 0 ≤ cntU a (j : Int) ∧ cntU a (j : Int) ≤ a.length := cnt_bd a fun z => decide (z ≤ (j : Int))
      have bdb : 0 ≤ cntU b (j : Int) ∧ cntU b (j : Int) ≤ b.length := cnt_bd b fun z => decide (z ≤ (j : Int))
      rw [← Hna.out] at bda tj
      rw [← Hnb.out] at bdb tj
      generalize K.belL z za (j : Int) = gl at K1 tj
      generalize K.belM z za (j : Int) = gm at K1 tj
      generalize cntU a (j : Int) = ta at Ka tj bda
      generalize cntU b (j : Int) = tb at Kb tj bdb
      obtain ⟨g1, g2, g3, g4, g5⟩ := tj
      obtain ⟨a0', a1'⟩ := bda
      obtain ⟨b0', b1'⟩ := bdb
      have ma := Mna.out
      have mb := Mnb.out
      have ws : IntKind.i64.wrap (ta + tb) = ta + tb := IntWalk.i64_in _ (by omega)
      have wg : IntKind.i64.wrap (gm - gl) = gm - gl := IntWalk.i64_in _ (by omega)
      have wn : IntKind.i64.wrap ((na : Int) + (nb : Int)) = (na : Int) + (nb : Int) := IntWalk.i64_in _ (by omega)
      have dv : ((na : Int) + (nb : Int)).tdiv 8 = ((na : Int) + (nb : Int)) / 8 := Int.tdiv_eq_ediv_of_nonneg (by omega)
      have wm : IntKind.i64.wrap (6 * (((na : Int) + (nb : Int)) / 8)) = 6 * (((na : Int) + (nb : Int)) / 8) := IntWalk.i64_in _ (by omega)
      have j1 : (j : Int) < 64 := by omega
      go_wp2_with fail
      refine (K1.out).mono ?_
      rintro e w10 ⟨rfl, hb⟩
      clear K1
      clear XZ
      clear Z
      replace B := Lib.hid (B.out.trans (hb.mono B.out.size))
      replace La := Lib.hid (La.out.below hb (Nat.le_refl _))
      replace Lb := Lib.hid (Lb.out.below hb (Nat.le_refl _))
      replace DD := Lib.hid (DD.out.trans (hb.mono DD.out.size))
      clear hb
      go_wp2_with fail
      refine (Ka.out w10 La.out).mono ?_
      rintro e w11 ⟨rfl, hb⟩
      replace B := Lib.hid (B.out.trans (hb.mono B.out.size))
      replace La := Lib.hid (La.out.below hb (Nat.le_refl _))
      replace Lb := Lib.hid (Lb.out.below hb (Nat.le_refl _))
      replace DD := Lib.hid (DD.out.trans (hb.mono DD.out.size))
      clear hb
      go_wp2_with fail
      refine (Kb.out w11 Lb.out).mono ?_
      rintro e w12 ⟨rfl, hb⟩
      replace B := Lib.hid (B.out.trans (hb.mono B.out.size))
      replace La := Lib.hid (La.out.below hb (Nat.le_refl _))
      replace Lb := Lib.hid (Lb.out.below hb (Nat.le_refl _))
      replace DD := Lib.hid (DD.out.trans (hb.mono DD.out.size))
      clear hb
      go_wp2
      go_roundw
      case rel => exact ⟨j + 1, by go_num, by omega, DD.out⟩
      case measure => simp [intOf]; omega
    · obtain rfl : j = 64 := by omega
      go_wp2
      go_ret
      exact ⟨by first | rfl | simp, B.out⟩

/-! ### THE ROW's STEP: WRITTEN OUT: LEAVE IT -/
set_option maxRecDepth 100000 in
theorem lifted (os : Os) (started : os.Started) (H : Type) (enc : TypeId × Value → H) :
    ReturnsInHanded {} Tryz.checked os 13 .any (Rows.fnRankJoinListSpec.pre6 enc Tryz.prog Tryz.f13 Rows.fnRankJoinListRow.domain false) (Rows.fnRankJoinListSpec.post enc Tryz.prog Tryz.f13 false true false false) := by
  refine returnsInHanded_of_change (C := Tryz.checked) own started (by kernel_rfl) Tryz.func13
    (ChangeSpec.witness6 (enc := enc) (C := Tryz.checked) false ⟨#[], #[.slice none 0 0, .slice none 0 0], []⟩ 8 (by kernel_rfl) (by kernel_rfl) (by kernel_rfl) (by kernel_rfl)) ?_
  intro W base args ds gs before hval0 hW hcnd _
  have hval : ∀ (j : Nat) t v, Tryz.f13.params[j]? = some t → args[j]? = some v → Value.okWide Tryz.prog W .any base t v := hval0
  have hW' := hW
  obtain ⟨p, q, hA0, hV, rfl, hfz, hnd⟩ := hW
  have hA : DataW.TrodAll enc Tryz.prog W 0 (fun _ => true) true Tryz.f13.params.toList args.toList ds p := hA0
  rw [Tryz.params13] at hA hval
  obtain ⟨v0, vs0, d0, ds0, p0, q0, hargs, rfl, rfl, h0, r0⟩ := trodAll_cons hA
  obtain ⟨v1, vs1, d1, ds1, p1, q1, rfl, rfl, rfl, h1, r1⟩ := trodAll_cons r0
  obtain ⟨rfl, rfl, rfl⟩ := trodAll_nil r1
  obtain rfl : args = #[v0, v1] := by cases args; simp_all
  obtain ⟨rfl, rfl⟩ := trodVars_none hV
  obtain ⟨a0, len0, cap0, rfl⟩ := okWide_slice Tryz.underlying22 (hval 0 22 v0 rfl rfl)
  have k0 := h0
  have lt0 : ∀ x ∈ p0, x.block < W.heap.size := by obtain ⟨m, hm⟩ := k0; exact DataW.trod_lt m _ _ _ hm
  obtain ⟨z0, w0⟩ : ∃ zs, IsRow .u8 W a0 len0 cap0 zs := by
    obtain ⟨fuel, hf⟩ := h0
    rcases open_ints Tryz.underlying22 Tryz.underlying5 (by kernel_rfl) hf with ⟨hcs, _⟩ | ⟨x, l, c, zs, hcs, _, hl, hm, hz, _, hcell, hwz⟩
    · simp [Value.cells] at hcs
      obtain ⟨rfl, rfl, rfl⟩ := hcs
      exact ⟨[], .inl ⟨rfl, rfl, rfl, rfl⟩⟩
    · simp [Value.cells] at hcs
      obtain ⟨rfl, rfl, rfl⟩ := hcs
      exact ⟨zs, .inr ⟨_, rfl, hl, hm, by simpa using hz, hcell, hwz⟩⟩
  obtain ⟨a1, len1, cap1, rfl⟩ := okWide_slice Tryz.underlying22 (hval 1 22 v1 rfl rfl)
  have k1 := h1
  have lt1 : ∀ x ∈ p1, x.block < W.heap.size := by obtain ⟨m, hm⟩ := k1; exact DataW.trod_lt m _ _ _ hm
  obtain ⟨z1, w1⟩ : ∃ zs, IsRow .u8 W a1 len1 cap1 zs := by
    obtain ⟨fuel, hf⟩ := h1
    rcases open_ints Tryz.underlying22 Tryz.underlying5 (by kernel_rfl) hf with ⟨hcs, _⟩ | ⟨x, l, c, zs, hcs, _, hl, hm, hz, _, hcell, hwz⟩
    · simp [Value.cells] at hcs
      obtain ⟨rfl, rfl, rfl⟩ := hcs
      exact ⟨[], .inl ⟨rfl, rfl, rfl, rfl⟩⟩
    · simp [Value.cells] at hcs
      obtain ⟨rfl, rfl, rfl⟩ := hcs
      exact ⟨zs, .inr ⟨_, rfl, hl, hm, by simpa using hz, hcell, hwz⟩⟩
  clear hA0 hval0
  refine (walk a0 len0 cap0 z0 a1 len1 cap1 z1 W w0 w1).mono fun e W' ⟨he, bel⟩ => ?_
  subst he
  exact ⟨_, rfl, _, _, _, [], _, [], hW', trodAll_mk1 (shut_bool Tryz.underlying4 _), (trodAll_cons_mk (Below.trod laidOut (by kernel_rfl) (of_decide_eq_true (by kernel_rfl)) k0 bel lt0) (trodAll_cons_mk (Below.trod laidOut (by kernel_rfl) (of_decide_eq_true (by kernel_rfl)) k1 bel lt1) trodAll_mk0)), rfl, bel.frame _, fun h => by cases h⟩

theorem over : Rows.fnRankJoinListRow.holds Tryz.pinned (OpenSpec.ofChange Rows.fnRankJoinListSpec) :=
  OpenClaim.holds_of_wide 13 Tryz.f13 rfl rfl rfl rfl rfl rfl rfl ⟨rfl, rfl, rfl, rfl, rfl⟩ rfl rfl rfl rfl rfl (by kernel_rfl) Tryz.func13 (by show joinedFacts Tryz.prog _ _ _ _ = true; unfold joinedFacts; rw [mayE, liftF, makeC]; kernel_rfl)
    (of_decide_eq_true (by kernel_rfl)) (by unfold Func.isWrapper; first | (rw [if_pos (by decide +kernel)]; kernel_rfl) | (rw [if_neg (by decide +kernel)]; exact ⟨rfl, rfl⟩))
    (fun os started H enc _ => lifted os started H enc)

theorem proved : Rows.FnRankJoinListSaid := over
#print axioms proved
end Go.Proofs.YtnoilafoeaknjaaGreat.fnRankJoinList
