/-
  The statement of the law FnSumJoinList: at every input the call returns true and leaves what it was given as it was. The frame is the kit's shell; the walk is ours.
-/
import Derived.Deep.RegionHeld3
import Derived.Test.YtnoilafoeaknjaaGreatZImOf
import Derived.Test.YtnoilafoeaknjaaGreatZSpOf
import Derived.Test.YtnoilafoeaknjaaGreatZDraw
import Derived.Test.YtnoilafoeaknjaaGreatZLk
import Derived.Test.YtnoilafoeaknjaaGreatZImGet
import Derived.Test.YtnoilafoeaknjaaGreatZTell
import Derived.Test.YtnoilafoeaknjaaGreatZCut
import Derived.Test.YtnoilafoeaknjaaGreatZApp
import Derived.Deep.RegionWith
import Derived.Test.YtnoilafoeaknjaaGreatRows
import Derived.Test.YtnoilafoeaknjaaGreatMk
import Derived.WalkKit
import Derived.ProofKit
import Derived.OpenShut
import Derived.ShutString
import Derived.ChangeOld
import Derived.Below
namespace Go.Proofs.YtnoilafoeaknjaaGreat.fnSumJoinList
open Go.ChangeShapes Go.WideShapes Go.ChangeAt Go.RowKit
open Go.ChangeMaps (open_string shut_string)
set_option linter.unusedVariables false

theorem own : ownKnob Tryz.prog.godebug = none := by kernel_rfl
theorem laidOut : laidOutB Tryz.prog = true := by kernel_rfl

/-- WHAT THE WALK IS TOLD OF A SLICE OF INTEGERS THAT CAME IN: it is nil; or it leads to a row of 'cap' cells, the numbers 'zs' (the first 'len' are its elements, the rest its spare room), each fitting its kind. -/
def IsRow (k : IntKind) (w : World) (a : Option Addr) (len cap : Nat) (zs : List Int) : Prop :=
  (a = none ∧ len = 0 ∧ cap = 0 ∧ zs = []) ∨
  ∃ x, a = some x ∧ len ≤ cap ∧ cap ≤ maxLen ∧ zs.length = cap ∧ (∀ i, i < zs.length → w.cell? (x.add i) = some (.int k (zs.getD i 0))) ∧ ∀ n ∈ zs, (Lit.int k n).wf = true

/-! ### STEP 1: THE WALK: the Go text returns true, AND WRITES NOTHING THAT WAS THERE: 'Below w.heap.size w w'' (Derived/Below.lean: '.refl', '.alloc', '.drew', '.setCell' at a new block, '.trans'). Open each 'IsRow' by 'rcases' AHEAD of 'go_enter'; part every test ahead of the walk. -/
set_option maxRecDepth 100000 in
set_option maxHeartbeats 16000000 in
theorem walk (a0 : Option Addr) (len0 cap0 : Nat) (z0 : List Int) (a1 : Option Addr) (len1 cap1 : Nat) (z1 : List Int) (w : World) (w0 : IsRow .u8 w a0 len0 cap0 z0) (w1 : IsRow .u8 w a1 len1 cap1 z1) :
    Calls Tryz.prog 21 #[.slice a0 len0 cap0, .slice a1 len1 cap1] w fun e w' => e = .returned (.bool true) ∧ Below w.heap.size w w' := by
  obtain ⟨hb, hl⟩ := bts_of w a0 len0 cap0 z0 w0
  obtain ⟨hb', hl'⟩ := bts_of w a1 len1 cap1 z1 w1
  rcases hl with hl | hl
  · go_enter Tryz.func21, Tryz.ntmps21
    go_wp2
    go_ret
    exact ⟨rfl, Below.refl _ _⟩
  rcases hl' with hl' | hl'
  · go_enter Tryz.func21, Tryz.ntmps21
    go_wp2
    go_ret
    exact ⟨rfl, Below.refl _ _⟩
  have HB := Lib.hid hb
  have HB' := Lib.hid hb'
  clear hb w0 hb' w1
  have B := Lib.hid (Below.refl w.heap.size w)
  go_enter Tryz.func21, Tryz.ntmps21
  go_wp2_with fail
  refine (drawSumOf_at w _ len0 ⟨_, _, rfl⟩ (bts_below HB.out B.out)).mono ?_
  rintro e w1 ⟨x9, c9, r1, rfl, ho, hlen, hb⟩
  obtain ⟨n9, hn⟩ : ∃ n, n = r1.length := ⟨_, rfl⟩
  have h9 := ho.rd
  rw [← hn] at h9 hlen ⊢
  have M9 := Lib.hid hlen
  have N9 := Lib.hid hn
  clear hn ho hlen
  replace B := Lib.hid (B.out.trans (hb.mono B.out.size))
  have L9 := Lib.hid (h9)
  clear hb
  clear h9
  go_wp2_with fail
  refine (lkFine_at w1 (.slice x9 n9 c9) r1 L9.out (by have := M9.out; rw [N9.out] at this; omega)).mono ?_
  rintro e w2 ⟨xa, ca, rfl, ho, hb⟩
  obtain ⟨a, hl⟩ : ∃ l, l = fineL r1 := ⟨_, rfl⟩
  rw [← hl] at ho ⊢
  obtain ⟨na, hn⟩ : ∃ n, n = a.length := ⟨_, rfl⟩
  have h9 := ho.rd
  rw [← hn] at h9 ⊢
  have Fa := Lib.hid (show ∀ t ∈ a, 0 ≤ t ∧ t ≤ 63 by rw [hl]; exact fineL_all _)
  have Mna := Lib.hid (show na ≤ 31 by rw [hn, hl]; have := fineL_len r1; have := M9.out; have := N9.out; omega)
  have Hna := Lib.hid hn
  clear hn hl ho M9 N9
  clear L9
  replace B := Lib.hid (B.out.trans (hb.mono B.out.size))
  have La := Lib.hid (h9)
  clear hb
  clear h9
  have OKa := Lib.hid (up_fine Fa.out (by have := Mna.out; have := Hna.out; omega))
  clear Fa
  obtain ⟨sa, hs⟩ : ∃ s, s = upS a := ⟨_, rfl⟩
  have Hsa := Lib.hid hs
  clear hs
  go_wp2_with fail
  refine (drawSumOf_at w2 _ len1 ⟨_, _, rfl⟩ (bts_below HB'.out B.out)).mono ?_
  rintro e w3 ⟨x9, c9, r2, rfl, ho, hlen, hb⟩
  obtain ⟨n9, hn⟩ : ∃ n, n = r2.length := ⟨_, rfl⟩
  have h9 := ho.rd
  rw [← hn] at h9 hlen ⊢
  have M9 := Lib.hid hlen
  have N9 := Lib.hid hn
  clear hn ho hlen
  replace B := Lib.hid (B.out.trans (hb.mono B.out.size))
  replace La := Lib.hid (La.out.below hb (Nat.le_refl _))
  have L9 := Lib.hid (h9)
  clear hb
  clear h9
  go_wp2_with fail
  refine (lkFine_at w3 (.slice x9 n9 c9) r2 L9.out (by have := M9.out; rw [N9.out] at this; omega)).mono ?_
  rintro e w4 ⟨xb, cb, rfl, ho, hb⟩
  obtain ⟨b, hl⟩ : ∃ l, l = fineL r2 := ⟨_, rfl⟩
  rw [← hl] at ho ⊢
  obtain ⟨nb, hn⟩ : ∃ n, n = b.length := ⟨_, rfl⟩
  have h9 := ho.rd
  rw [← hn] at h9 ⊢
  have Fb := Lib.hid (show ∀ t ∈ b, 0 ≤ t ∧ t ≤ 63 by rw [hl]; exact fineL_all _)
  have Mnb := Lib.hid (show nb ≤ 31 by rw [hn, hl]; have := fineL_len r2; have := M9.out; have := N9.out; omega)
  have Hnb := Lib.hid hn
  clear hn hl ho M9 N9
  clear L9
  replace B := Lib.hid (B.out.trans (hb.mono B.out.size))
  replace La := Lib.hid (La.out.below hb (Nat.le_refl _))
  have Lb := Lib.hid (h9)
  clear hb
  clear h9
  have OKb := Lib.hid (up_fine Fb.out (by have := Mnb.out; have := Hnb.out; omega))
  clear Fb
  obtain ⟨sb, hs⟩ : ∃ s, s = upS b := ⟨_, rfl⟩
  have Hsb := Lib.hid hs
  clear hs
  have SMa := Lib.hid (show Small sa by rw [Hsa.out]; exact up_small a)
  have ML := Lib.hid (show a.length + b.length ≤ 2000 by have := Mna.out; have := Mnb.out; have := Hna.out; have := Hnb.out; omega)
  have K1 := imSumOf_at w4 xa na ca a La.out
  rw [OKa.out, ← Hsa.out] at K1
  go_wp2_with fail
  refine (K1).mono ?_
  rintro e w5 ⟨V1, rfl, ho, hb⟩
  clear K1
  replace ho := ho.base (B' := w.heap.size) B.out.size (Nat.le_refl _) (Nat.le_refl _)
  replace B := Lib.hid (B.out.trans (hb.mono B.out.size))
  replace La := Lib.hid (La.out.below hb (Nat.le_refl _))
  replace Lb := Lib.hid (Lb.out.below hb (Nat.le_refl _))
  have P1 := Lib.hid (ho)
  clear hb
  obtain ⟨W5, hW⟩ : ∃ W, W = (w5.alloc (.cells #[.slice V1.xr V1.nr V1.cr, .slice V1.xf V1.nf V1.cf, .slice V1.xt V1.nt V1.ct, .int .i64 sa.lo, .int .i64 sa.al, .slice V1.xk V1.nk V1.ck, .int .i64 sa.ka] 39)) := ⟨_, rfl⟩
  replace B := Lib.hid ((B.out).alloc (Nat.le_trans B.out.size (by simp)) (.cells #[.slice V1.xr V1.nr V1.cr, .slice V1.xf V1.nf V1.cf, .slice V1.xt V1.nt V1.ct, .int .i64 sa.lo, .int .i64 sa.al, .slice V1.xk V1.nk V1.ck, .int .i64 sa.ka] 39))
  rw [← hW] at B
  replace La := Lib.hid (La.out.below ((Below.refl _ _).alloc (Nat.le_refl _) (.cells #[.slice V1.xr V1.nr V1.cr, .slice V1.xf V1.nf V1.cf, .slice V1.xt V1.nt V1.ct, .int .i64 sa.lo, .int .i64 sa.al, .slice V1.xk V1.nk V1.ck, .int .i64 sa.ka] 39)) (Nat.le_refl _))
  rw [← hW] at La
  replace Lb := Lib.hid (Lb.out.below ((Below.refl _ _).alloc (Nat.le_refl _) (.cells #[.slice V1.xr V1.nr V1.cr, .slice V1.xf V1.nf V1.cf, .slice V1.xt V1.nt V1.ct, .int .i64 sa.lo, .int .i64 sa.al, .slice V1.xk V1.nk V1.ck, .int .i64 sa.ka] 39)) (Nat.le_refl _))
  rw [← hW] at Lb
  replace P1 := Lib.hid (P1.out.alloc (.cells #[.slice V1.xr V1.nr V1.cr, .slice V1.xf V1.nf V1.cf, .slice V1.xt V1.nt V1.ct, .int .i64 sa.lo, .int .i64 sa.al, .slice V1.xk V1.nk V1.ck, .int .i64 sa.ka] 39))
  rw [← hW] at P1
  have X1 := Box7.new w5 39 (.slice V1.xr V1.nr V1.cr) (.slice V1.xf V1.nf V1.cf) (.slice V1.xt V1.nt V1.ct) (.int .i64 sa.lo) (.int .i64 sa.al) (.slice V1.xk V1.nk V1.ck) (.int .i64 sa.ka)
  rw [← hW] at X1
  go_wp2_with fail
  rw [← hW]
  clear hW
  clear ho
  have K1 := imSumOf_at W5 xb nb cb b Lb.out
  rw [OKb.out, ← Hsb.out] at K1
  go_wp2_with fail
  refine (K1).mono ?_
  rintro e w6 ⟨V2, rfl, ho, hb⟩
  clear K1
  replace ho := ho.base (B' := w.heap.size) B.out.size (Nat.le_refl _) (Nat.le_refl _)
  replace B := Lib.hid (B.out.trans (hb.mono B.out.size))
  replace La := Lib.hid (La.out.below hb (Nat.le_refl _))
  replace Lb := Lib.hid (Lb.out.below hb (Nat.le_refl _))
  replace P1 := Lib.hid (P1.out.below hb)
  replace X1 := X1.later hb
  have P2 := Lib.hid (ho)
  clear hb
  obtain ⟨W6, hW⟩ : ∃ W, W = (w6.alloc (.cells #[.slice V2.xr V2.nr V2.cr, .slice V2.xf V2.nf V2.cf, .slice V2.xt V2.nt V2.ct, .int .i64 sb.lo, .int .i64 sb.al, .slice V2.xk V2.nk V2.ck, .int .i64 sb.ka] 39)) := ⟨_, rfl⟩
  replace B := Lib.hid ((B.out).alloc (Nat.le_trans B.out.size (by simp)) (.cells #[.slice V2.xr V2.nr V2.cr, .slice V2.xf V2.nf V2.cf, .slice V2.xt V2.nt V2.ct, .int .i64 sb.lo, .int .i64 sb.al, .slice V2.xk V2.nk V2.ck, .int .i64 sb.ka] 39))
  rw [← hW] at B
  replace La := Lib.hid (La.out.below ((Below.refl _ _).alloc (Nat.le_refl _) (.cells #[.slice V2.xr V2.nr V2.cr, .slice V2.xf V2.nf V2.cf, .slice V2.xt V2.nt V2.ct, .int .i64 sb.lo, .int .i64 sb.al, .slice V2.xk V2.nk V2.ck, .int .i64 sb.ka] 39)) (Nat.le_refl _))
  rw [← hW] at La
  replace Lb := Lib.hid (Lb.out.below ((Below.refl _ _).alloc (Nat.le_refl _) (.cells #[.slice V2.xr V2.nr V2.cr, .slice V2.xf V2.nf V2.cf, .slice V2.xt V2.nt V2.ct, .int .i64 sb.lo, .int .i64 sb.al, .slice V2.xk V2.nk V2.ck, .int .i64 sb.ka] 39)) (Nat.le_refl _))
  rw [← hW] at Lb
  replace P1 := Lib.hid (P1.out.alloc (.cells #[.slice V2.xr V2.nr V2.cr, .slice V2.xf V2.nf V2.cf, .slice V2.xt V2.nt V2.ct, .int .i64 sb.lo, .int .i64 sb.al, .slice V2.xk V2.nk V2.ck, .int .i64 sb.ka] 39))
  rw [← hW] at P1
  replace X1 := X1.alloc (.cells #[.slice V2.xr V2.nr V2.cr, .slice V2.xf V2.nf V2.cf, .slice V2.xt V2.nt V2.ct, .int .i64 sb.lo, .int .i64 sb.al, .slice V2.xk V2.nk V2.ck, .int .i64 sb.ka] 39)
  rw [← hW] at X1
  replace P2 := Lib.hid (P2.out.alloc (.cells #[.slice V2.xr V2.nr V2.cr, .slice V2.xf V2.nf V2.cf, .slice V2.xt V2.nt V2.ct, .int .i64 sb.lo, .int .i64 sb.al, .slice V2.xk V2.nk V2.ck, .int .i64 sb.ka] 39))
  rw [← hW] at P2
  have X2 := Box7.new w6 39 (.slice V2.xr V2.nr V2.cr) (.slice V2.xf V2.nf V2.cf) (.slice V2.xt V2.nt V2.ct) (.int .i64 sb.lo) (.int .i64 sb.al) (.slice V2.xk V2.nk V2.ck) (.int .i64 sb.ka)
  rw [← hW] at X2
  go_wp2_with fail
  rw [← hW]
  clear hW
  clear ho
  have K1 := spSumOf_at W6 xa na ca a La.out
  rw [OKa.out, ← Hsa.out] at K1
  go_wp2_with fail
  refine (K1).mono ?_
  rintro e w7 ⟨V3, rfl, ho, hb⟩
  clear K1
  replace ho := ho.base (B' := w.heap.size) B.out.size (Nat.le_refl _) (Nat.le_refl _)
  replace B := Lib.hid (B.out.trans (hb.mono B.out.size))
  replace La := Lib.hid (La.out.below hb (Nat.le_refl _))
  replace Lb := Lib.hid (Lb.out.below hb (Nat.le_refl _))
  replace P1 := Lib.hid (P1.out.below hb)
  replace X1 := X1.later hb
  replace P2 := Lib.hid (P2.out.below hb)
  replace X2 := X2.later hb
  have P3 := Lib.hid (ho)
  clear hb
  obtain ⟨W7, hW⟩ : ∃ W, W = (w7.alloc (.cells #[.slice V3.xr V3.nr V3.cr, .slice V3.xf V3.nf V3.cf, .slice V3.xt V3.nt V3.ct, .int .i64 sa.lo, .int .i64 sa.al, .slice V3.xk V3.nk V3.ck, .int .i64 sa.ka] 39)) := ⟨_, rfl⟩
  obtain ⟨ax10, ax11, ax12, ax13, ax14, ax15, ax16⟩ := ((X1.alloc (.cells #[.slice V3.xr V3.nr V3.cr, .slice V3.xf V3.nf V3.cf, .slice V3.xt V3.nt V3.ct, .int .i64 sa.lo, .int .i64 sa.al, .slice V3.xk V3.nk V3.ck, .int .i64 sa.ka] 39))).cells
  replace B := Lib.hid ((B.out).alloc (Nat.le_trans B.out.size (by simp)) (.cells #[.slice V3.xr V3.nr V3.cr, .slice V3.xf V3.nf V3.cf, .slice V3.xt V3.nt V3.ct, .int .i64 sa.lo, .int .i64 sa.al, .slice V3.xk V3.nk V3.ck, .int .i64 sa.ka] 39))
  rw [← hW] at B
  replace La := Lib.hid (La.out.below ((Below.refl _ _).alloc (Nat.le_refl _) (.cells #[.slice V3.xr V3.nr V3.cr, .slice V3.xf V3.nf V3.cf, .slice V3.xt V3.nt V3.ct, .int .i64 sa.lo, .int .i64 sa.al, .slice V3.xk V3.nk V3.ck, .int .i64 sa.ka] 39)) (Nat.le_refl _))
  rw [← hW] at La
  replace Lb := Lib.hid (Lb.out.below ((Below.refl _ _).alloc (Nat.le_refl _) (.cells #[.slice V3.xr V3.nr V3.cr, .slice V3.xf V3.nf V3.cf, .slice V3.xt V3.nt V3.ct, .int .i64 sa.lo, .int .i64 sa.al, .slice V3.xk V3.nk V3.ck, .int .i64 sa.ka] 39)) (Nat.le_refl _))
  rw [← hW] at Lb
  replace P1 := Lib.hid (P1.out.alloc (.cells #[.slice V3.xr V3.nr V3.cr, .slice V3.xf V3.nf V3.cf, .slice V3.xt V3.nt V3.ct, .int .i64 sa.lo, .int .i64 sa.al, .slice V3.xk V3.nk V3.ck, .int .i64 sa.ka] 39))
  rw [← hW] at P1
  replace X1 := X1.alloc (.cells #[.slice V3.xr V3.nr V3.cr, .slice V3.xf V3.nf V3.cf, .slice V3.xt V3.nt V3.ct, .int .i64 sa.lo, .int .i64 sa.al, .slice V3.xk V3.nk V3.ck, .int .i64 sa.ka] 39)
  rw [← hW] at X1
  replace P2 := Lib.hid (P2.out.alloc (.cells #[.slice V3.xr V3.nr V3.cr, .slice V3.xf V3.nf V3.cf, .slice V3.xt V3.nt V3.ct, .int .i64 sa.lo, .int .i64 sa.al, .slice V3.xk V3.nk V3.ck, .int .i64 sa.ka] 39))
  rw [← hW] at P2
  replace X2 := X2.alloc (.cells #[.slice V3.xr V3.nr V3.cr, .slice V3.xf V3.nf V3.cf, .slice V3.xt V3.nt V3.ct, .int .i64 sa.lo, .int .i64 sa.al, .slice V3.xk V3.nk V3.ck, .int .i64 sa.ka] 39)
  rw [← hW] at X2
  replace P3 := Lib.hid (P3.out.alloc (.cells #[.slice V3.xr V3.nr V3.cr, .slice V3.xf V3.nf V3.cf, .slice V3.xt V3.nt V3.ct, .int .i64 sa.lo, .int .i64 sa.al, .slice V3.xk V3.nk V3.ck, .int .i64 sa.ka] 39))
  rw [← hW] at P3
  have X3 := Box7.new w7 39 (.slice V3.xr V3.nr V3.cr) (.slice V3.xf V3.nf V3.cf) (.slice V3.xt V3.nt V3.ct) (.int .i64 sa.lo) (.int .i64 sa.al) (.slice V3.xk V3.nk V3.ck) (.int .i64 sa.ka)
  rw [← hW] at X3
  go_wp2_with fail
  rw [← hW]
  clear hW ax10 ax11 ax12 ax13 ax14 ax15 ax16
  clear ho
  obtain ⟨z, hz⟩ : ∃ z, joinS sa sb = z := ⟨_, rfl⟩
  obtain ⟨s4, h4⟩ : ∃ s, s = upS (a ++ b) := ⟨_, rfl⟩
  have JO := Lib.hid (show joinOkS sa sb = true by rw [Hsa.out, Hsb.out]; exact two_ok OKa.out OKb.out ML.out)
  have OKab := Lib.hid (up_fine (l := a ++ b) (fun t ht => by rcases List.mem_append.1 ht with h | h; exact (okS_up OKa.out).2 t h; exact (okS_up OKb.out).2 t h) (by rw [List.length_append]; exact ML.out))
  have JL := Lib.hid (join_list_r OKa.out b OKb.out (by rw [(okS_up OKa.out).1, (okS_up OKb.out).1]; have := ML.out; omega))
  have E0 := Lib.hid (show z.rs = joinV sa.rs sb.rs ∧ z.zs = joinF sa.zs sb.zs by rw [← hz, joinS_yes JO.out]; exact ⟨rfl, rfl⟩)
  have E1 := Lib.hid (show z.rs = s4.rs by rw [E0.out.1, h4, Hsa.out, Hsb.out]; exact JL.out.1)
  have E2 := Lib.hid (show z.zs = s4.zs by rw [E0.out.2, h4, Hsa.out, Hsb.out]; exact JL.out.2)
  have AZ := Lib.hid (show allS z = allS s4 by unfold allS; rw [← hz, (okS_iff _).2 (joinS_ok JO.out).1, if_pos rfl, (joinS_ok JO.out).2, h4, OKab.out, if_pos rfl, (okS_up OKab.out).1, Hsa.out, Hsb.out, (okS_up OKa.out).1, (okS_up OKb.out).1, List.length_append]; omega)
  have SM4 := Lib.hid (show Small s4 by rw [h4]; exact up_small _)
  have H4 := Lib.hid h4
  clear h4 E0 JL
  have KJ := Lib.hid (fun (W : World) (h1 : RdS W V1 sa) (h2 : RdS W V2 sb) => show Calls Tryz.prog 66 #[.agg #[.slice V1.xr V1.nr V1.cr, .slice V1.xf V1.nf V1.cf, .slice V1.xt V1.nt V1.ct, .int .i64 sa.lo, .int .i64 sa.al, .slice V1.xk V1.nk V1.ck, .int .i64 sa.ka], .agg #[.slice V2.xr V2.nr V2.cr, .slice V2.xf V2.nf V2.cf, .slice V2.xt V2.nt V2.ct, .int .i64 sb.lo, .int .i64 sb.al, .slice V2.xk V2.nk V2.ck, .int .i64 sb.ka]] W fun e w' => ∃ U, e = .returned (.tuple #[.agg #[.slice U.xr U.nr U.cr, .slice U.xf U.nf U.cf, .slice U.xt U.nt U.ct, .int .i64 z.lo, .int .i64 z.al, .slice U.xk U.nk U.ck, .int .i64 z.ka], .bool true]) ∧ OwnS w' W.heap.size w'.heap.size U z ∧ Below W.heap.size W w' by have k := imSumJoin_at W V1 V2 sa sb h1 h2; rw [hz, JO.out] at k; exact k)
  clear hz JO
  refine (lkSum_same W7 V1 V3 sa P1.out.rd P3.out.rd SMa.out).mono ?_
  rintro e w8 ⟨rfl, hb⟩
  replace B := Lib.hid (B.out.trans (hb.mono B.out.size))
  replace La := Lib.hid (La.out.below hb (Nat.le_refl _))
  replace Lb := Lib.hid (Lb.out.below hb (Nat.le_refl _))
  replace P1 := Lib.hid (P1.out.below hb)
  replace X1 := X1.later hb
  replace P2 := Lib.hid (P2.out.below hb)
  replace X2 := X2.later hb
  replace P3 := Lib.hid (P3.out.below hb)
  replace X3 := X3.later hb
  clear hb
  obtain ⟨cx10, cx11, cx12, cx13, cx14, cx15, cx16⟩ := (X1).cells
  obtain ⟨cx20, cx21, cx22, cx23, cx24, cx25, cx26⟩ := (X2).cells
  clear X3
  clear P3
  go_wp2_with fail
  refine (KJ.out w8 P1.out.rd P2.out.rd).mono ?_
  rintro e w9 ⟨U, rfl, ho, hb⟩
  clear KJ
  replace ho := ho.base (B' := w.heap.size) B.out.size (Nat.le_refl _) (Nat.le_refl _)
  clear X1
  clear X2
  clear P1
  clear P2
  clear cx10 cx11 cx12 cx13 cx14 cx15 cx16 cx20 cx21 cx22 cx23 cx24 cx25 cx26
  replace B := Lib.hid (B.out.trans (hb.mono B.out.size))
  replace La := Lib.hid (La.out.below hb (Nat.le_refl _))
  replace Lb := Lib.hid (Lb.out.below hb (Nat.le_refl _))
  have Z := Lib.hid (ho)
  clear hb
  obtain ⟨W9, hW⟩ : ∃ W, W = (w9.alloc (.cells #[.slice U.xr U.nr U.cr, .slice U.xf U.nf U.cf, .slice U.xt U.nt U.ct, .int .i64 z.lo, .int .i64 z.al, .slice U.xk U.nk U.ck, .int .i64 z.ka] 39)) := ⟨_, rfl⟩
  replace B := Lib.hid ((B.out).alloc (Nat.le_trans B.out.size (by simp)) (.cells #[.slice U.xr U.nr U.cr, .slice U.xf U.nf U.cf, .slice U.xt U.nt U.ct, .int .i64 z.lo, .int .i64 z.al, .slice U.xk U.nk U.ck, .int .i64 z.ka] 39))
  rw [← hW] at B
  replace La := Lib.hid (La.out.below ((Below.refl _ _).alloc (Nat.le_refl _) (.cells #[.slice U.xr U.nr U.cr, .slice U.xf U.nf U.cf, .slice U.xt U.nt U.ct, .int .i64 z.lo, .int .i64 z.al, .slice U.xk U.nk U.ck, .int .i64 z.ka] 39)) (Nat.le_refl _))
  rw [← hW] at La
  replace Lb := Lib.hid (Lb.out.below ((Below.refl _ _).alloc (Nat.le_refl _) (.cells #[.slice U.xr U.nr U.cr, .slice U.xf U.nf U.cf, .slice U.xt U.nt U.ct, .int .i64 z.lo, .int .i64 z.al, .slice U.xk U.nk U.ck, .int .i64 z.ka] 39)) (Nat.le_refl _))
  rw [← hW] at Lb
  replace Z := Lib.hid (Z.out.alloc (.cells #[.slice U.xr U.nr U.cr, .slice U.xf U.nf U.cf, .slice U.xt U.nt U.ct, .int .i64 z.lo, .int .i64 z.al, .slice U.xk U.nk U.ck, .int .i64 z.ka] 39))
  rw [← hW] at Z
  have XZ := Box7.new w9 39 (.slice U.xr U.nr U.cr) (.slice U.xf U.nf U.cf) (.slice U.xt U.nt U.ct) (.int .i64 z.lo) (.int .i64 z.al) (.slice U.xk U.nk U.ck) (.int .i64 z.ka)
  rw [← hW] at XZ
  clear ho
  subst hW
  have O0 := Lib.hid (show K.OwnL ((w9.alloc (.cells #[.slice U.xr U.nr U.cr, .slice U.xf U.nf U.cf, .slice U.xt U.nt U.ct, .int .i64 z.lo, .int .i64 z.al, .slice U.xk U.nk U.ck, .int .i64 z.ka] 39)).alloc (.cells #[] 3)) (w9.heap.size + 1) (.slice (some ⟨w9.heap.size + 1, 0, none⟩) 0 0) [] by have h := K.int_empty (w9.alloc (.cells #[.slice U.xr U.nr U.cr, .slice U.xf U.nf U.cf, .slice U.xt U.nt U.ct, .int .i64 z.lo, .int .i64 z.al, .slice U.xk U.nk U.ck, .int .i64 z.ka] 39)) (w9.alloc (.cells #[.slice U.xr U.nr U.cr, .slice U.xf U.nf U.cf, .slice U.xt U.nt U.ct, .int .i64 z.lo, .int .i64 z.al, .slice U.xk U.nk U.ck, .int .i64 z.ka] 39)).heap.size (Nat.le_refl _); rw [World.size_alloc] at h; exact h)
  have A0 := Lib.hid (show Below (w9.heap.size + 1) (w9.alloc (.cells #[.slice U.xr U.nr U.cr, .slice U.xf U.nf U.cf, .slice U.xt U.nt U.ct, .int .i64 z.lo, .int .i64 z.al, .slice U.xk U.nk U.ck, .int .i64 z.ka] 39)) ((w9.alloc (.cells #[.slice U.xr U.nr U.cr, .slice U.xf U.nf U.cf, .slice U.xt U.nt U.ct, .int .i64 z.lo, .int .i64 z.al, .slice U.xk U.nk U.ck, .int .i64 z.ka] 39)).alloc (.cells #[] 3)) by have h := (Below.refl (w9.alloc (.cells #[.slice U.xr U.nr U.cr, .slice U.xf U.nf U.cf, .slice U.xt U.nt U.ct, .int .i64 z.lo, .int .i64 z.al, .slice U.xk U.nk U.ck, .int .i64 z.ka] 39)).heap.size (w9.alloc (.cells #[.slice U.xr U.nr U.cr, .slice U.xf U.nf U.cf, .slice U.xt U.nt U.ct, .int .i64 z.lo, .int .i64 z.al, .slice U.xk U.nk U.ck, .int .i64 z.ka] 39))).alloc (Nat.le_refl _) (.cells #[] 3); rw [World.size_alloc] at h; exact h)
  have la := Mna.out
  have lb := Mnb.out
  have s0 : (w9.heap.size + 1) ≤ ((w9.alloc (.cells #[.slice U.xr U.nr U.cr, .slice U.xf U.nf U.cf, .slice U.xt U.nt U.ct, .int .i64 z.lo, .int .i64 z.al, .slice U.xk U.nk U.ck, .int .i64 z.ka] 39)).alloc (.cells #[] 3)).heap.size := by rw [World.size_alloc, World.size_alloc]; omega
  have sW : (w9.alloc (.cells #[.slice U.xr U.nr U.cr, .slice U.xf U.nf U.cf, .slice U.xt U.nt U.ct, .int .i64 z.lo, .int .i64 z.al, .slice U.xk U.nk U.ck, .int .i64 z.ka] 39)).heap.size ≤ (w9.heap.size + 1) := by rw [World.size_alloc]; exact Nat.le_refl _
  go_wp2_with (first | (at_builtin; refine wpList_append_nums rfl _ _ rfl (w9.heap.size + 1) 0 na na _ _ [] a rfl rfl O0.out (La.out.below A0.out sW) (by simp) (by rw [← Hna.out]; omega) rfl Hna.out (by omega) s0 ?_; intro ya ca1 u1 hoa hga; have O1 := Lib.hid hoa; have A1 := Lib.hid (A0.out.grown hga s0 (fun k e => (World.ownsRow.lt O0.out k e).1)); have s1 := Nat.le_trans (show (w9.heap.size + 1) ≤ (w9.alloc (.cells #[.slice U.xr U.nr U.cr, .slice U.xf U.nf U.cf, .slice U.xt U.nt U.ct, .int .i64 z.lo, .int .i64 z.al, .slice U.xk U.nk U.ck, .int .i64 z.ka] 39)).heap.size by rw [World.size_alloc]; exact Nat.le_refl _) A1.out.size; clear hoa hga) | (at_builtin; refine wpList_append_nums rfl _ _ rfl (w9.heap.size + 1) na nb (na + nb) _ _ ([] ++ a) b rfl rfl O1.out (Lb.out.below A1.out sW) (by rw [List.nil_append, ← Hna.out]; omega) (by rw [← Hnb.out]; omega) (by rw [List.nil_append]; exact Hna.out) Hnb.out rfl s1 ?_; intro yb cb1 u2 hob hgb; have O2 := Lib.hid hob; have A2 := Lib.hid (A1.out.grown hgb s1 (fun k e => (World.ownsRow.lt O1.out k e).1)); clear hob hgb))
  have KB := imSumOf_at u2 yb (na + nb) cb1 (a ++ b) (by have h := O2.out.rd; rw [List.nil_append] at h; exact h)
  rw [OKab.out, ← H4.out] at KB
  have D := A2
  clear O0 O1 O2 A0 A1 A2 s0 s1 la lb La Lb
  replace B := Lib.hid (B.out.trans (D.out.mono (Nat.le_trans B.out.size sW)))
  replace Z := Lib.hid (Z.out.below (D.out.mono sW))
  replace XZ := XZ.later (D.out.mono sW)
  clear D sW
  refine (KB).mono ?_
  rintro e w10 ⟨V4, rfl, ho, hb⟩
  clear KB
  replace B := Lib.hid (B.out.trans (hb.mono B.out.size))
  replace Z := Lib.hid (Z.out.below hb)
  replace XZ := XZ.later hb
  have N := Lib.hid (ho)
  clear hb
  obtain ⟨W10, hW⟩ : ∃ W, W = (w10.alloc (.cells #[.slice V4.xr V4.nr V4.cr, .slice V4.xf V4.nf V4.cf, .slice V4.xt V4.nt V4.ct, .int .i64 s4.lo, .int .i64 s4.al, .slice V4.xk V4.nk V4.ck, .int .i64 s4.ka] 39)) := ⟨_, rfl⟩
  replace B := Lib.hid ((B.out).alloc (Nat.le_trans B.out.size (by simp)) (.cells #[.slice V4.xr V4.nr V4.cr, .slice V4.xf V4.nf V4.cf, .slice V4.xt V4.nt V4.ct, .int .i64 s4.lo, .int .i64 s4.al, .slice V4.xk V4.nk V4.ck, .int .i64 s4.ka] 39))
  rw [← hW] at B
  replace Z := Lib.hid (Z.out.alloc (.cells #[.slice V4.xr V4.nr V4.cr, .slice V4.xf V4.nf V4.cf, .slice V4.xt V4.nt V4.ct, .int .i64 s4.lo, .int .i64 s4.al, .slice V4.xk V4.nk V4.ck, .int .i64 s4.ka] 39))
  rw [← hW] at Z
  replace XZ := XZ.alloc (.cells #[.slice V4.xr V4.nr V4.cr, .slice V4.xf V4.nf V4.cf, .slice V4.xt V4.nt V4.ct, .int .i64 s4.lo, .int .i64 s4.al, .slice V4.xk V4.nk V4.ck, .int .i64 s4.ka] 39)
  rw [← hW] at XZ
  replace N := Lib.hid (N.out.alloc (.cells #[.slice V4.xr V4.nr V4.cr, .slice V4.xf V4.nf V4.cf, .slice V4.xt V4.nt V4.ct, .int .i64 s4.lo, .int .i64 s4.al, .slice V4.xk V4.nk V4.ck, .int .i64 s4.ka] 39))
  rw [← hW] at N
  have X4 := Box7.new w10 39 (.slice V4.xr V4.nr V4.cr) (.slice V4.xf V4.nf V4.cf) (.slice V4.xt V4.nt V4.ct) (.int .i64 s4.lo) (.int .i64 s4.al) (.slice V4.xk V4.nk V4.ck) (.int .i64 s4.ka)
  rw [← hW] at X4
  clear ho
  go_wp2
  rw [← hW]
  clear hW
  have K1 := Lib.hid (fun (W : World) (h : RdS W U z) => show Calls Tryz.prog 58 #[.agg #[.slice U.xr U.nr U.cr, .slice U.xf U.nf U.cf, .slice U.xt U.nt U.ct, .int .i64 z.lo, .int .i64 z.al, .slice U.xk U.nk U.ck, .int .i64 z.ka]] W fun e w' => e = .returned (.int .i64 (allS s4)) ∧ Below W.heap.size W w' by have k := imSumAll_at W U z h; rw [AZ.out] at k; exact k)
  have KR := Lib.hid (fun (W : World) (h1 : RdS W U z) (h2 : RdS W V4 s4) => show Calls Tryz.prog 60 #[.agg #[.slice U.xr U.nr U.cr], .agg #[.slice V4.xr V4.nr V4.cr]] W fun e w' => e = .returned (.bool true) ∧ Below W.heap.size W w' from lkRough_yes W _ _ s4.rs (by rw [← E1.out]; exact h1.r) h2.r SM4.out.r)
  have KI := Lib.hid (fun (W : World) (h1 : RdS W U z) (h2 : RdS W V4 s4) => show Calls Tryz.prog 61 #[.slice U.xf U.nf U.cf, .slice V4.xf V4.nf V4.cf] W fun e w' => e = .returned (.bool true) ∧ Below W.heap.size W w' from lkInts_yes W _ _ s4.zs (by rw [← E2.out]; exact h1.f) h2.f SM4.out.f)
  have D0 := Lib.hid (Below.drew (Below.refl W10.heap.size W10))
  have HS : Hid (∀ w', Below W10.heap.size W10 w' → (w'.cell? ⟨w9.heap.size, 0, none⟩ = some (.slice U.xr U.nr U.cr) ∧ w'.cell? ⟨w9.heap.size, 1, none⟩ = some (.slice U.xf U.nf U.cf) ∧ w'.cell? ⟨w9.heap.size, 2, none⟩ = some (.slice U.xt U.nt U.ct) ∧ w'.cell? ⟨w9.heap.size, 3, none⟩ = some (.int .i64 z.lo) ∧ w'.cell? ⟨w9.heap.size, 4, none⟩ = some (.int .i64 z.al) ∧ w'.cell? ⟨w9.heap.size, 5, none⟩ = some (.slice U.xk U.nk U.ck) ∧ w'.cell? ⟨w9.heap.size, 6, none⟩ = some (.int .i64 z.ka)) ∧ (w'.cell? ⟨w10.heap.size, 0, none⟩ = some (.slice V4.xr V4.nr V4.cr) ∧ w'.cell? ⟨w10.heap.size, 1, none⟩ = some (.slice V4.xf V4.nf V4.cf) ∧ w'.cell? ⟨w10.heap.size, 2, none⟩ = some (.slice V4.xt V4.nt V4.ct) ∧ w'.cell? ⟨w10.heap.size, 3, none⟩ = some (.int .i64 s4.lo) ∧ w'.cell? ⟨w10.heap.size, 4, none⟩ = some (.int .i64 s4.al) ∧ w'.cell? ⟨w10.heap.size, 5, none⟩ = some (.slice V4.xk V4.nk V4.ck) ∧ w'.cell? ⟨w10.heap.size, 6, none⟩ = some (.int .i64 s4.ka))) := fun w' h => ⟨(XZ.later h).cells, (X4.later h).cells⟩
  clear XZ X4
  go_region_held3 (fun w' => (w'.cell? ⟨w9.heap.size, 0, none⟩ = some (.slice U.xr U.nr U.cr) ∧ w'.cell? ⟨w9.heap.size, 1, none⟩ = some (.slice U.xf U.nf U.cf) ∧ w'.cell? ⟨w9.heap.size, 2, none⟩ = some (.slice U.xt U.nt U.ct) ∧ w'.cell? ⟨w9.heap.size, 3, none⟩ = some (.int .i64 z.lo) ∧ w'.cell? ⟨w9.heap.size, 4, none⟩ = some (.int .i64 z.al) ∧ w'.cell? ⟨w9.heap.size, 5, none⟩ = some (.slice U.xk U.nk U.ck) ∧ w'.cell? ⟨w9.heap.size, 6, none⟩ = some (.int .i64 z.ka)) ∧ (w'.cell? ⟨w10.heap.size, 0, none⟩ = some (.slice V4.xr V4.nr V4.cr) ∧ w'.cell? ⟨w10.heap.size, 1, none⟩ = some (.slice V4.xf V4.nf V4.cf) ∧ w'.cell? ⟨w10.heap.size, 2, none⟩ = some (.slice V4.xt V4.nt V4.ct) ∧ w'.cell? ⟨w10.heap.size, 3, none⟩ = some (.int .i64 s4.lo) ∧ w'.cell? ⟨w10.heap.size, 4, none⟩ = some (.int .i64 s4.al) ∧ w'.cell? ⟨w10.heap.size, 5, none⟩ = some (.slice V4.xk V4.nk V4.ck) ∧ w'.cell? ⟨w10.heap.size, 6, none⟩ = some (.int .i64 s4.ka))) (first | (with_reducible exact HS.out _ D0.out) | (with_reducible exact HS.out _ D1.out) | (with_reducible exact HS.out _ D2.out) | (with_reducible exact HS.out _ D3.out) | (with_reducible exact HS.out _ D4.out)) (first
    | (go_at_call 60; (with_reducible refine (KR.out (W10.drew) (Z.out.below D0.out).rd (N.out.below D0.out).rd).mono ?_); rintro e v1 ⟨rfl, hb⟩; have D1 := Lib.hid (D0.out.trans (hb.mono D0.out.size)); clear hb)
    | (go_at_call 61; (with_reducible refine (KI.out (v1) (Z.out.below D1.out).rd (N.out.below D1.out).rd).mono ?_); rintro e v2 ⟨rfl, hb⟩; have D2 := Lib.hid (D1.out.trans (hb.mono D1.out.size)); clear hb)
    | (go_at_call 58; (with_reducible refine (K1.out (v2) (Z.out.below D2.out).rd).mono ?_); rintro e v3 ⟨rfl, hb⟩; have D3 := Lib.hid (D2.out.trans (hb.mono D2.out.size)); clear hb)
    | (go_at_call 58; (with_reducible refine (imSumAll_at (v3) V4 s4 (N.out.below D3.out).rd).mono ?_); rintro e v4 ⟨rfl, hb⟩; have D4 := Lib.hid (D3.out.trans (hb.mono D3.out.size)); clear hb))
  all_goals
    go_wp2
    go_ret
    exact ⟨by first | rfl | (simp; done), B.out.trans (D4.out.mono B.out.size)⟩

/-! ### THE ROW's STEP: WRITTEN OUT: LEAVE IT -/
set_option maxRecDepth 100000 in
theorem lifted (os : Os) (started : os.Started) (H : Type) (enc : TypeId × Value → H) :
    ReturnsInHanded {} Tryz.checked os 21 .any (Rows.fnSumJoinListSpec.pre6 enc Tryz.prog Tryz.f21 Rows.fnSumJoinListRow.domain false) (Rows.fnSumJoinListSpec.post enc Tryz.prog Tryz.f21 false true false false) := by
  refine returnsInHanded_of_change (C := Tryz.checked) own started (by kernel_rfl) Tryz.func21
    (ChangeSpec.witness6 (enc := enc) (C := Tryz.checked) false ⟨#[], #[.slice none 0 0, .slice none 0 0], []⟩ 8 (by kernel_rfl) (by kernel_rfl) (by kernel_rfl) (by kernel_rfl)) ?_
  intro W base args ds gs before hval0 hW hcnd _
  have hval : ∀ (j : Nat) t v, Tryz.f21.params[j]? = some t → args[j]? = some v → Value.okWide Tryz.prog W .any base t v := hval0
  have hW' := hW
  obtain ⟨p, q, hA0, hV, rfl, hfz, hnd⟩ := hW
  have hA : DataW.TrodAll enc Tryz.prog W 0 (fun _ => true) true Tryz.f21.params.toList args.toList ds p := hA0
  rw [Tryz.params21] at hA hval
  obtain ⟨v0, vs0, d0, ds0, p0, q0, hargs, rfl, rfl, h0, r0⟩ := trodAll_cons hA
  obtain ⟨v1, vs1, d1, ds1, p1, q1, rfl, rfl, rfl, h1, r1⟩ := trodAll_cons r0
  obtain ⟨rfl, rfl, rfl⟩ := trodAll_nil r1
  obtain rfl : args = #[v0, v1] := by cases args; simp_all
  obtain ⟨rfl, rfl⟩ := trodVars_none hV
  obtain ⟨a0, len0, cap0, rfl⟩ := okWide_slice Tryz.underlying22 (hval 0 22 v0 rfl rfl)
  have k0 := h0
  have lt0 : ∀ x ∈ p0, x.block < W.heap.size := by obtain ⟨m, hm⟩ := k0; exact DataW.trod_lt m _ _ _ hm
  obtain ⟨z0, w0⟩ : ∃ zs, IsRow .u8 W a0 len0 cap0 zs := by
    obtain ⟨fuel, hf⟩ := h0
    rcases open_ints Tryz.underlying22 Tryz.underlying5 (by kernel_rfl) hf with ⟨hcs, _⟩ | ⟨x, l, c, zs, hcs, _, hl, hm, hz, _, hcell, hwz⟩
    · simp [Value.cells] at hcs
      obtain ⟨rfl, rfl, rfl⟩ := hcs
      exact ⟨[], .inl ⟨rfl, rfl, rfl, rfl⟩⟩
    · simp [Value.cells] at hcs
      obtain ⟨rfl, rfl, rfl⟩ := hcs
      exact ⟨zs, .inr ⟨_, rfl, hl, hm, by simpa using hz, hcell, hwz⟩⟩
  obtain ⟨a1, len1, cap1, rfl⟩ := okWide_slice Tryz.underlying22 (hval 1 22 v1 rfl rfl)
  have k1 := h1
  have lt1 : ∀ x ∈ p1, x.block < W.heap.size := by obtain ⟨m, hm⟩ := k1; exact DataW.trod_lt m _ _ _ hm
  obtain ⟨z1, w1⟩ : ∃ zs, IsRow .u8 W a1 len1 cap1 zs := by
    obtain ⟨fuel, hf⟩ := h1
    rcases open_ints Tryz.underlying22 Tryz.underlying5 (by kernel_rfl) hf with ⟨hcs, _⟩ | ⟨x, l, c, zs, hcs, _, hl, hm, hz, _, hcell, hwz⟩
    · simp [Value.cells] at hcs
      obtain ⟨rfl, rfl, rfl⟩ := hcs
      exact ⟨[], .inl ⟨rfl, rfl, rfl, rfl⟩⟩
    · simp [Value.cells] at hcs
      obtain ⟨rfl, rfl, rfl⟩ := hcs
      exact ⟨zs, .inr ⟨_, rfl, hl, hm, by simpa using hz, hcell, hwz⟩⟩
  clear hA0 hval0
  refine (walk a0 len0 cap0 z0 a1 len1 cap1 z1 W w0 w1).mono fun e W' ⟨he, bel⟩ => ?_
  subst he
  exact ⟨_, rfl, _, _, _, [], _, [], hW', trodAll_mk1 (shut_bool Tryz.underlying4 _), (trodAll_cons_mk (Below.trod laidOut (by kernel_rfl) (of_decide_eq_true (by kernel_rfl)) k0 bel lt0) (trodAll_cons_mk (Below.trod laidOut (by kernel_rfl) (of_decide_eq_true (by kernel_rfl)) k1 bel lt1) trodAll_mk0)), rfl, bel.frame _, fun h => by cases h⟩

theorem over : Rows.fnSumJoinListRow.holds Tryz.pinned (OpenSpec.ofChange Rows.fnSumJoinListSpec) :=
  OpenClaim.holds_of_wide 21 Tryz.f21 rfl rfl rfl rfl rfl rfl rfl ⟨rfl, rfl, rfl, rfl, rfl⟩ rfl rfl rfl rfl rfl (by kernel_rfl) Tryz.func21 (by show joinedFacts Tryz.prog _ _ _ _ = true; unfold joinedFacts; rw [mayE, liftF, makeC]; kernel_rfl)
    (of_decide_eq_true (by kernel_rfl)) (by unfold Func.isWrapper; first | (rw [if_pos (by decide +kernel)]; kernel_rfl) | (rw [if_neg (by decide +kernel)]; exact ⟨rfl, rfl⟩))
    (fun os started H enc _ => lifted os started H enc)

theorem proved : Rows.FnSumJoinListSaid := over
#print axioms proved
end Go.Proofs.YtnoilafoeaknjaaGreat.fnSumJoinList
