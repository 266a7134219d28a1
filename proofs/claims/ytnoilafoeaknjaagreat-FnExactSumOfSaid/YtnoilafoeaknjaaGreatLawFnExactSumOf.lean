/-
  The statement of the law FnExactSumOf: at every input the call returns true and leaves what it was given as it was.
-/
import Derived.Test.YtnoilafoeaknjaaGreatZExM
import Derived.Test.YtnoilafoeaknjaaGreatZSpOf
import Derived.Test.YtnoilafoeaknjaaGreatZImOf
import Derived.Test.YtnoilafoeaknjaaGreatZExO
import Derived.Deep.RegionWith
import Derived.Deep.RegionHeld3
import Derived.Deep.DeepCutAuto
import Derived.Test.YtnoilafoeaknjaaGreatRows
import Derived.Test.YtnoilafoeaknjaaGreatMk
import Derived.WalkKit
import Derived.ProofKit
import Derived.OpenShut
import Derived.ShutString
import Derived.ChangeOld
import Derived.Below
namespace Go.Proofs.YtnoilafoeaknjaaGreat.fnExactSumOf
open Go.ChangeShapes Go.WideShapes Go.ChangeAt Go.RowKit
open Go.ChangeMaps (open_string shut_string)
set_option linter.unusedVariables false

theorem own : ownKnob Tryz.prog.godebug = none := by kernel_rfl
theorem laidOut : laidOutB Tryz.prog = true := by kernel_rfl

set_option maxRecDepth 20000 in
set_option maxHeartbeats 2000000 in
theorem walk (v0 : Value) (z0 : List Int) (w : World) (w0 : ArgI w v0 z0) :
    Calls Tryz.prog 26 #[v0] w fun e w' => e = .returned (.bool true) ∧ Below w.heap.size w w' := by
  have KS := fun W x n c h => spSumOf_at W x n c z0 h
  have KI := fun W x n c h => imSumOf_at W x n c z0 h
  obtain ⟨r, hr⟩ : ∃ r, r = upS z0 := ⟨_, rfl⟩
  obtain ⟨ok, hok⟩ : ∃ o, o = okS (upS z0) := ⟨_, rfl⟩
  rw [← hok, ← hr] at KS KI
  have LNr := Lib.hid (show LenS r by rw [hr]; exact (up_small z0).lens)
  replace KS := Lib.hid KS
  replace KI := Lib.hid KI
  clear hr hok
  have ek : (ok != ok) = false := by cases ok <;> rfl
  have q0 : ¬ (1 : Int) + (totS r : Nat) < 0 := by omega
  have q1 : ((1 : Int) + (totS r : Nat) != 1 + (totS r : Nat)) = false := by simp
  obtain ⟨x, c, hx⟩ := w0.form
  obtain ⟨n, hn⟩ : ∃ n, n = z0.length := ⟨_, rfl⟩
  rw [← hn] at hx
  subst hx
  have HN := Lib.hid hn
  have A0 := Lib.hid w0
  have B := Lib.hid (Below.refl w.heap.size w)
  clear w0 hn
  go_enter Tryz.func26, Tryz.ntmps26
  by_cases hle : (1048576 : Int) < (n : Int)
  · go_wp2
    go_ret
    exact ⟨rfl, B.out⟩
  have n1 : n ≤ 1048576 := by omega
  have KT := Lib.hid (fun (W : World) (h : Below w.heap.size w W) => show Calls Tryz.prog 73 #[.slice x n c] W fun e w' => e = .returned (.slice (some ⟨W.heap.size, 0, none⟩) n n) ∧ OwnI w' W.heap.size (.slice (some ⟨W.heap.size, 0, none⟩) n n) z0 ∧ Below W.heap.size W w' by have k := toIntS_at W _ z0 (A0.out.below h (Nat.le_refl _)) (by rw [← HN.out]; exact n1); rw [← HN.out] at k; exact k)
  have b0 : ¬ (1 : Int) + (n : Int) < 0 := by omega
  go_wp2_with fail
  refine (KT.out w B.out).mono ?_
  rintro e w1 ⟨rfl, ho, hb⟩
  obtain ⟨ga, hg⟩ : ∃ g, g = w.heap.size := ⟨_, rfl⟩
  rw [← hg] at ho ⊢
  have SIa := Lib.hid (show w.heap.size ≤ ga by rw [hg]; exact B.out.size)
  clear hg
  replace B := Lib.hid (B.out.trans (hb.mono B.out.size))
  have Ia := Lib.hid (ho)
  clear hb
  clear ho
  have K1 := KS.out w1 _ n n Ia.out.rd
  go_wp2_with fail
  refine (K1).mono ?_
  rintro e w2 ⟨V0, rfl, ho, hb⟩
  clear K1
  have SO0 := Lib.hid B.out.size
  replace B := Lib.hid (B.out.trans (hb.mono B.out.size))
  replace Ia := Lib.hid (Ia.out.below hb)
  have O0 := Lib.hid (ho)
  clear hb
  obtain ⟨W2, hW⟩ : ∃ W, W = (w2.alloc (.cells #[.slice V0.xr V0.nr V0.cr, .slice V0.xf V0.nf V0.cf, .slice V0.xt V0.nt V0.ct, .int .i64 r.lo, .int .i64 r.al, .slice V0.xk V0.nk V0.ck, .int .i64 r.ka] 39)) := ⟨_, rfl⟩
  replace B := Lib.hid ((B.out).alloc (Nat.le_trans B.out.size (by simp)) (.cells #[.slice V0.xr V0.nr V0.cr, .slice V0.xf V0.nf V0.cf, .slice V0.xt V0.nt V0.ct, .int .i64 r.lo, .int .i64 r.al, .slice V0.xk V0.nk V0.ck, .int .i64 r.ka] 39))
  rw [← hW] at B
  replace Ia := Lib.hid (Ia.out.alloc (.cells #[.slice V0.xr V0.nr V0.cr, .slice V0.xf V0.nf V0.cf, .slice V0.xt V0.nt V0.ct, .int .i64 r.lo, .int .i64 r.al, .slice V0.xk V0.nk V0.ck, .int .i64 r.ka] 39))
  rw [← hW] at Ia
  replace O0 := Lib.hid (O0.out.alloc (.cells #[.slice V0.xr V0.nr V0.cr, .slice V0.xf V0.nf V0.cf, .slice V0.xt V0.nt V0.ct, .int .i64 r.lo, .int .i64 r.al, .slice V0.xk V0.nk V0.ck, .int .i64 r.ka] 39))
  rw [← hW] at O0
  have X0 := Box7.new w2 39 (.slice V0.xr V0.nr V0.cr) (.slice V0.xf V0.nf V0.cf) (.slice V0.xt V0.nt V0.ct) (.int .i64 r.lo) (.int .i64 r.al) (.slice V0.xk V0.nk V0.ck) (.int .i64 r.ka)
  rw [← hW] at X0
  go_wp2_with fail
  rw [← hW]
  clear hW
  clear ho
  clear Ia
  go_wp2_with fail
  refine (KT.out W2 B.out).mono ?_
  rintro e w3 ⟨rfl, ho, hb⟩
  obtain ⟨gx, hg⟩ : ∃ g, g = W2.heap.size := ⟨_, rfl⟩
  rw [← hg] at ho ⊢
  have LO0XI := Lib.hid (show _ ≤ gx by rw [hg]; exact O0.out.top)
  have SXI := Lib.hid (show w.heap.size ≤ gx by rw [hg]; exact B.out.size)
  clear hg
  replace B := Lib.hid (B.out.trans (hb.mono B.out.size))
  replace O0 := Lib.hid (O0.out.below hb)
  replace X0 := X0.later hb
  have XI := Lib.hid (ho)
  clear hb
  clear ho
  have LXIOg := Lib.hid (World.ownsRow.lt XI.out gx rfl).2
  have K1 := KI.out w3 _ n n XI.out.rd
  go_wp2_with fail
  refine (K1).mono ?_
  rintro e w4 ⟨V1, rfl, ho, hb⟩
  clear K1
  have LO0Og := Lib.hid O0.out.top
  have SOg := Lib.hid B.out.size
  replace B := Lib.hid (B.out.trans (hb.mono B.out.size))
  replace O0 := Lib.hid (O0.out.below hb)
  replace X0 := X0.later hb
  replace XI := Lib.hid (XI.out.below hb)
  have Og := Lib.hid (ho)
  clear hb
  obtain ⟨W4, hW⟩ : ∃ W, W = (w4.alloc (.cells #[.slice V1.xr V1.nr V1.cr, .slice V1.xf V1.nf V1.cf, .slice V1.xt V1.nt V1.ct, .int .i64 r.lo, .int .i64 r.al, .slice V1.xk V1.nk V1.ck, .int .i64 r.ka] 39)) := ⟨_, rfl⟩
  obtain ⟨ax00, ax01, ax02, ax03, ax04, ax05, ax06⟩ := ((X0.alloc (.cells #[.slice V1.xr V1.nr V1.cr, .slice V1.xf V1.nf V1.cf, .slice V1.xt V1.nt V1.ct, .int .i64 r.lo, .int .i64 r.al, .slice V1.xk V1.nk V1.ck, .int .i64 r.ka] 39))).cells
  replace B := Lib.hid ((B.out).alloc (Nat.le_trans B.out.size (by simp)) (.cells #[.slice V1.xr V1.nr V1.cr, .slice V1.xf V1.nf V1.cf, .slice V1.xt V1.nt V1.ct, .int .i64 r.lo, .int .i64 r.al, .slice V1.xk V1.nk V1.ck, .int .i64 r.ka] 39))
  rw [← hW] at B
  replace O0 := Lib.hid (O0.out.alloc (.cells #[.slice V1.xr V1.nr V1.cr, .slice V1.xf V1.nf V1.cf, .slice V1.xt V1.nt V1.ct, .int .i64 r.lo, .int .i64 r.al, .slice V1.xk V1.nk V1.ck, .int .i64 r.ka] 39))
  rw [← hW] at O0
  replace X0 := X0.alloc (.cells #[.slice V1.xr V1.nr V1.cr, .slice V1.xf V1.nf V1.cf, .slice V1.xt V1.nt V1.ct, .int .i64 r.lo, .int .i64 r.al, .slice V1.xk V1.nk V1.ck, .int .i64 r.ka] 39)
  rw [← hW] at X0
  replace XI := Lib.hid (XI.out.alloc (.cells #[.slice V1.xr V1.nr V1.cr, .slice V1.xf V1.nf V1.cf, .slice V1.xt V1.nt V1.ct, .int .i64 r.lo, .int .i64 r.al, .slice V1.xk V1.nk V1.ck, .int .i64 r.ka] 39))
  rw [← hW] at XI
  replace Og := Lib.hid (Og.out.alloc (.cells #[.slice V1.xr V1.nr V1.cr, .slice V1.xf V1.nf V1.cf, .slice V1.xt V1.nt V1.ct, .int .i64 r.lo, .int .i64 r.al, .slice V1.xk V1.nk V1.ck, .int .i64 r.ka] 39))
  rw [← hW] at Og
  have Xg := Box7.new w4 39 (.slice V1.xr V1.nr V1.cr) (.slice V1.xf V1.nf V1.cf) (.slice V1.xt V1.nt V1.ct) (.int .i64 r.lo) (.int .i64 r.al) (.slice V1.xk V1.nk V1.ck) (.int .i64 r.ka)
  rw [← hW] at Xg
  go_wp2_with fail
  rw [← hW]
  clear hW ax00 ax01 ax02 ax03 ax04 ax05 ax06
  clear ho
  go_wp2_with fail
  refine (eqSum_at W4 V1 V0 r Og.out.rd O0.out.rd LNr.out).mono ?_
  rintro e w5 ⟨rfl, hb⟩
  replace B := Lib.hid (B.out.trans (hb.mono B.out.size))
  replace O0 := Lib.hid (O0.out.below hb)
  replace X0 := X0.later hb
  replace XI := Lib.hid (XI.out.below hb)
  replace Og := Lib.hid (Og.out.below hb)
  replace Xg := Xg.later hb
  clear hb
  go_wp2_with fail
  refine (KT.out w5 B.out).mono ?_
  rintro e w6 ⟨rfl, ho, hb⟩
  obtain ⟨gb, hg⟩ : ∃ g, g = w5.heap.size := ⟨_, rfl⟩
  rw [← hg] at ho ⊢
  have LO0Ib := Lib.hid (show _ ≤ gb by rw [hg]; exact O0.out.top)
  have LOgIb := Lib.hid (show _ ≤ gb by rw [hg]; exact Og.out.top)
  have SIb := Lib.hid (show w.heap.size ≤ gb by rw [hg]; exact B.out.size)
  clear hg
  replace B := Lib.hid (B.out.trans (hb.mono B.out.size))
  replace O0 := Lib.hid (O0.out.below hb)
  replace X0 := X0.later hb
  replace XI := Lib.hid (XI.out.below hb)
  replace Og := Lib.hid (Og.out.below hb)
  replace Xg := Xg.later hb
  have Ib := Lib.hid (ho)
  clear hb
  clear ho
  have hz : decide (z0 = z0) = true := decide_eq_true rfl
  have K1 := eqIntS_at w6 _ _ z0 z0 XI.out.rd Ib.out.rd (by rw [← HN.out]; unfold maxLen; omega)
  rw [hz] at K1
  clear hz
  go_wp2_with fail
  refine K1.mono ?_
  rintro e w7 ⟨rfl, md, hmd⟩
  have hb : Below w6.heap.size w6 w7 := by rw [hmd]; exact below_drewN (Below.refl _ _) _
  clear K1 hmd
  clear Ib
  replace B := Lib.hid (B.out.trans (hb.mono B.out.size))
  replace O0 := Lib.hid (O0.out.below hb)
  replace X0 := X0.later hb
  replace XI := Lib.hid (XI.out.below hb)
  replace Og := Lib.hid (Og.out.below hb)
  replace Xg := Xg.later hb
  clear hb
  have K1 := markIntS_own w7 gx _ z0 1 XI.out (by rw [← HN.out]; exact n1) (by omega) (by omega)
  rw [← HN.out] at K1
  go_wp2_with fail
  refine K1.mono ?_
  rintro e w8 ⟨rfl, ho, hg⟩
  have mk := MarkKeepsS.row (T := gx + 1) XI.out (.inl rfl) (Nat.le_refl _) (fun k e => by cases e; exact Nat.lt_succ_self _) hg
  clear K1
  replace B := Lib.hid (mk.below B.out SXI.out)
  replace O0 := Lib.hid (mk.own (.inl LO0XI.out) O0.out)
  replace X0 := mk.box _ _ _ _ _ _ _ _ _ (by decide) (by decide) (by decide) X0
  replace Og := Lib.hid (mk.own (.inr LXIOg.out) Og.out)
  replace Xg := mk.box _ _ _ _ _ _ _ _ _ (by decide) (by decide) (by decide) Xg
  clear XI ho hg mk
  obtain ⟨cxg0, cxg1, cxg2, cxg3, cxg4, cxg5, cxg6⟩ := (Xg).cells
  obtain ⟨cx00, cx01, cx02, cx03, cx04, cx05, cx06⟩ := (X0).cells
  go_wp2_with fail
  refine (eqSum_at w8 V1 V0 r Og.out.rd O0.out.rd LNr.out).mono ?_
  rintro e w9 ⟨rfl, hb⟩
  clear cxg0 cxg1 cxg2 cxg3 cxg4 cxg5 cxg6 cx00 cx01 cx02 cx03 cx04 cx05 cx06
  replace B := Lib.hid (B.out.trans (hb.mono B.out.size))
  replace O0 := Lib.hid (O0.out.below hb)
  replace X0 := X0.later hb
  replace Og := Lib.hid (Og.out.below hb)
  replace Xg := Xg.later hb
  clear hb
  obtain ⟨cxg0, cxg1, cxg2, cxg3, cxg4, cxg5, cxg6⟩ := (Xg).cells
  go_wp2_with fail
  refine (markSum_at w9 _ _ V1 r (1) Og.out LNr.out (by omega) (by omega)).mono ?_
  rintro e w10 ⟨m1, rfl, hm, ho, mk⟩
  clear cxg0 cxg1 cxg2 cxg3 cxg4 cxg5 cxg6
  replace B := Lib.hid (mk.below B.out SOg.out)
  replace O0 := Lib.hid (mk.own (.inl LO0Og.out) O0.out)
  replace X0 := mk.box _ _ _ _ _ _ _ _ _ (by decide) (by decide) (by decide) X0
  replace Xg := mk.box _ _ _ _ _ _ _ _ _ (by decide) (by decide) (by decide) Xg
  replace Og := Lib.hid ho
  have HMm1 := Lib.hid hm
  clear hm ho mk
  obtain ⟨cxg0, cxg1, cxg2, cxg3, cxg4, cxg5, cxg6⟩ := (Xg).cells
  go_wp2_with fail
  refine (heldSum_at w10 V1 r m1 (1) HMm1.out Og.out.rd LNr.out (by omega) (by omega)).mono ?_
  rintro e w11 ⟨rfl, hb⟩
  clear cxg0 cxg1 cxg2 cxg3 cxg4 cxg5 cxg6
  replace B := Lib.hid (B.out.trans (hb.mono B.out.size))
  replace O0 := Lib.hid (O0.out.below hb)
  replace X0 := X0.later hb
  replace Og := Lib.hid (Og.out.below hb)
  replace Xg := Xg.later hb
  clear hb
  go_wp2_with fail
  refine (KT.out w11 B.out).mono ?_
  rintro e w12 ⟨rfl, ho, hb⟩
  obtain ⟨gc, hg⟩ : ∃ g, g = w11.heap.size := ⟨_, rfl⟩
  rw [← hg] at ho ⊢
  have LO0Ic := Lib.hid (show _ ≤ gc by rw [hg]; exact O0.out.top)
  have LOgIc := Lib.hid (show _ ≤ gc by rw [hg]; exact Og.out.top)
  have SIc := Lib.hid (show w.heap.size ≤ gc by rw [hg]; exact B.out.size)
  clear hg
  replace B := Lib.hid (B.out.trans (hb.mono B.out.size))
  replace O0 := Lib.hid (O0.out.below hb)
  replace X0 := X0.later hb
  replace Og := Lib.hid (Og.out.below hb)
  replace Xg := Xg.later hb
  have Ic := Lib.hid (ho)
  clear hb
  clear ho
  have K1 := KI.out w12 _ n n Ic.out.rd
  go_wp2_with fail
  refine (K1).mono ?_
  rintro e w13 ⟨V2, rfl, ho, hb⟩
  clear K1
  have LO0Oh := Lib.hid O0.out.top
  have LOgOh := Lib.hid Og.out.top
  have SOh := Lib.hid B.out.size
  replace B := Lib.hid (B.out.trans (hb.mono B.out.size))
  replace O0 := Lib.hid (O0.out.below hb)
  replace X0 := X0.later hb
  replace Og := Lib.hid (Og.out.below hb)
  replace Xg := Xg.later hb
  replace Ic := Lib.hid (Ic.out.below hb)
  have Oh := Lib.hid (ho)
  clear hb
  obtain ⟨W13, hW⟩ : ∃ W, W = (w13.alloc (.cells #[.slice V2.xr V2.nr V2.cr, .slice V2.xf V2.nf V2.cf, .slice V2.xt V2.nt V2.ct, .int .i64 r.lo, .int .i64 r.al, .slice V2.xk V2.nk V2.ck, .int .i64 r.ka] 39)) := ⟨_, rfl⟩
  obtain ⟨ax00, ax01, ax02, ax03, ax04, ax05, ax06⟩ := ((X0.alloc (.cells #[.slice V2.xr V2.nr V2.cr, .slice V2.xf V2.nf V2.cf, .slice V2.xt V2.nt V2.ct, .int .i64 r.lo, .int .i64 r.al, .slice V2.xk V2.nk V2.ck, .int .i64 r.ka] 39))).cells
  replace B := Lib.hid ((B.out).alloc (Nat.le_trans B.out.size (by simp)) (.cells #[.slice V2.xr V2.nr V2.cr, .slice V2.xf V2.nf V2.cf, .slice V2.xt V2.nt V2.ct, .int .i64 r.lo, .int .i64 r.al, .slice V2.xk V2.nk V2.ck, .int .i64 r.ka] 39))
  rw [← hW] at B
  replace O0 := Lib.hid (O0.out.alloc (.cells #[.slice V2.xr V2.nr V2.cr, .slice V2.xf V2.nf V2.cf, .slice V2.xt V2.nt V2.ct, .int .i64 r.lo, .int .i64 r.al, .slice V2.xk V2.nk V2.ck, .int .i64 r.ka] 39))
  rw [← hW] at O0
  replace X0 := X0.alloc (.cells #[.slice V2.xr V2.nr V2.cr, .slice V2.xf V2.nf V2.cf, .slice V2.xt V2.nt V2.ct, .int .i64 r.lo, .int .i64 r.al, .slice V2.xk V2.nk V2.ck, .int .i64 r.ka] 39)
  rw [← hW] at X0
  replace Og := Lib.hid (Og.out.alloc (.cells #[.slice V2.xr V2.nr V2.cr, .slice V2.xf V2.nf V2.cf, .slice V2.xt V2.nt V2.ct, .int .i64 r.lo, .int .i64 r.al, .slice V2.xk V2.nk V2.ck, .int .i64 r.ka] 39))
  rw [← hW] at Og
  replace Xg := Xg.alloc (.cells #[.slice V2.xr V2.nr V2.cr, .slice V2.xf V2.nf V2.cf, .slice V2.xt V2.nt V2.ct, .int .i64 r.lo, .int .i64 r.al, .slice V2.xk V2.nk V2.ck, .int .i64 r.ka] 39)
  rw [← hW] at Xg
  replace Ic := Lib.hid (Ic.out.alloc (.cells #[.slice V2.xr V2.nr V2.cr, .slice V2.xf V2.nf V2.cf, .slice V2.xt V2.nt V2.ct, .int .i64 r.lo, .int .i64 r.al, .slice V2.xk V2.nk V2.ck, .int .i64 r.ka] 39))
  rw [← hW] at Ic
  replace Oh := Lib.hid (Oh.out.alloc (.cells #[.slice V2.xr V2.nr V2.cr, .slice V2.xf V2.nf V2.cf, .slice V2.xt V2.nt V2.ct, .int .i64 r.lo, .int .i64 r.al, .slice V2.xk V2.nk V2.ck, .int .i64 r.ka] 39))
  rw [← hW] at Oh
  have Xh := Box7.new w13 39 (.slice V2.xr V2.nr V2.cr) (.slice V2.xf V2.nf V2.cf) (.slice V2.xt V2.nt V2.ct) (.int .i64 r.lo) (.int .i64 r.al) (.slice V2.xk V2.nk V2.ck) (.int .i64 r.ka)
  rw [← hW] at Xh
  go_wp2_with fail
  rw [← hW]
  clear hW ax00 ax01 ax02 ax03 ax04 ax05 ax06
  clear ho
  clear Ic
  go_wp2_with fail
  refine (eqSum_at W13 V2 V0 r Oh.out.rd O0.out.rd LNr.out).mono ?_
  rintro e w14 ⟨rfl, hb⟩
  replace B := Lib.hid (B.out.trans (hb.mono B.out.size))
  replace O0 := Lib.hid (O0.out.below hb)
  replace X0 := X0.later hb
  replace Og := Lib.hid (Og.out.below hb)
  replace Xg := Xg.later hb
  replace Oh := Lib.hid (Oh.out.below hb)
  replace Xh := Xh.later hb
  clear hb
  obtain ⟨cxg0, cxg1, cxg2, cxg3, cxg4, cxg5, cxg6⟩ := (Xg).cells
  go_wp2_with fail
  refine (heldSum_at w14 V1 r m1 (1) HMm1.out Og.out.rd LNr.out (by omega) (by omega)).mono ?_
  rintro e w15 ⟨rfl, hb⟩
  clear cxg0 cxg1 cxg2 cxg3 cxg4 cxg5 cxg6
  replace B := Lib.hid (B.out.trans (hb.mono B.out.size))
  replace O0 := Lib.hid (O0.out.below hb)
  replace X0 := X0.later hb
  replace Og := Lib.hid (Og.out.below hb)
  replace Xg := Xg.later hb
  replace Oh := Lib.hid (Oh.out.below hb)
  replace Xh := Xh.later hb
  clear hb
  go_wp2
  go_ret
  exact ⟨rfl, B.out⟩

-- the row's step
set_option maxRecDepth 100000 in
theorem lifted (os : Os) (started : os.Started) (H : Type) (enc : TypeId × Value → H) :
    ReturnsInHanded {} Tryz.checked os 26 .any (Rows.fnExactSumOfSpec.pre6 enc Tryz.prog Tryz.f26 Rows.fnExactSumOfRow.domain false) (Rows.fnExactSumOfSpec.post enc Tryz.prog Tryz.f26 false true false false) := by
  refine returnsInHanded_of_change (C := Tryz.checked) own started (by kernel_rfl) Tryz.func26
    (ChangeSpec.witness6 (enc := enc) (C := Tryz.checked) false ⟨#[], #[.slice none 0 0], []⟩ 8 (by kernel_rfl) (by kernel_rfl) (by kernel_rfl) (by kernel_rfl)) ?_
  intro W base args ds gs before hval0 hW hcnd _
  have hval : ∀ (j : Nat) t v, Tryz.f26.params[j]? = some t → args[j]? = some v → Value.okWide Tryz.prog W .any base t v := hval0
  have hW' := hW
  obtain ⟨p, q, hA0, hV, rfl, hfz, hnd⟩ := hW
  have hA : DataW.TrodAll enc Tryz.prog W 0 (fun _ => true) true Tryz.f26.params.toList args.toList ds p := hA0
  rw [Tryz.params26 ] at hA hval
  obtain ⟨v0, vs0, d0, ds0, p0, q0, hargs, rfl, rfl, h0, r0⟩ := trodAll_cons hA
  obtain ⟨rfl, rfl, rfl⟩ := trodAll_nil r0
  obtain rfl : args = #[v0] := by cases args; simp_all
  obtain ⟨rfl, rfl⟩ := trodVars_none hV
  have k0 := h0
  have lt0 : ∀ x ∈ p0, x.block < W.heap.size := by obtain ⟨m, hm⟩ := k0; exact DataW.trod_lt m _ _ _ hm
  obtain ⟨z0, w0⟩ := open_intsV (hval 0 23 v0 rfl rfl) h0
  clear hA0 hval0
  refine (walk v0 z0 W w0).mono fun e W' ⟨he, bel⟩ => ?_
  subst he
  exact ⟨_, rfl, _, _, _, [], _, [], hW', trodAll_mk1 (shut_bool Tryz.underlying4 _), (trodAll_cons_mk (Below.trod laidOut (by kernel_rfl) (of_decide_eq_true (by kernel_rfl)) k0 bel lt0) trodAll_mk0), rfl, bel.frame _, fun h => by cases h⟩

theorem over : Rows.fnExactSumOfRow.holds Tryz.pinned (OpenSpec.ofChange Rows.fnExactSumOfSpec) :=
  OpenClaim.holds_of_wide 26 Tryz.f26 rfl rfl rfl rfl rfl rfl rfl ⟨rfl, rfl, rfl, rfl, rfl⟩ rfl rfl rfl rfl rfl (by kernel_rfl) Tryz.func26 (by show joinedFacts Tryz.prog _ _ _ _ = true; unfold joinedFacts; rw [mayE, liftF, makeC]; kernel_rfl)
    (of_decide_eq_true (by kernel_rfl)) (by unfold Func.isWrapper; first | (rw [if_pos (by decide +kernel)]; kernel_rfl) | (rw [if_neg (by decide +kernel)]; exact ⟨rfl, rfl⟩))
    (fun os started H enc _ => lifted os started H enc)

theorem proved : Rows.FnExactSumOfSaid := over
#print axioms proved
end Go.Proofs.YtnoilafoeaknjaaGreat.fnExactSumOf
