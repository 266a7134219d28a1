/-
  The statement of the law FnExactSumJoin: at every input the call returns true and leaves what it was given as it was.
-/
import Derived.Test.YtnoilafoeaknjaaGreatZExM
import Derived.Test.YtnoilafoeaknjaaGreatZSpJoin
import Derived.Test.YtnoilafoeaknjaaGreatZImJoin
import Derived.Test.YtnoilafoeaknjaaGreatZMade
import Derived.Test.YtnoilafoeaknjaaGreatZExO
import Derived.Deep.RegionWith
import Derived.Deep.RegionHeld3
import Derived.Deep.DeepCutAuto
import Derived.Test.YtnoilafoeaknjaaGreatRows
import Derived.Test.YtnoilafoeaknjaaGreatMk
import Derived.WalkKit
import Derived.ProofKit
import Derived.OpenShut
import Derived.ShutString
import Derived.ChangeOld
import Derived.Below
namespace Go.Proofs.YtnoilafoeaknjaaGreat.fnExactSumJoin
open Go.ChangeShapes Go.WideShapes Go.ChangeAt Go.RowKit
open Go.ChangeMaps (open_string shut_string)
set_option linter.unusedVariables false

theorem own : ownKnob Tryz.prog.godebug = none := by kernel_rfl
theorem laidOut : laidOutB Tryz.prog = true := by kernel_rfl

set_option maxRecDepth 20000 in
set_option maxRecDepth 4000 in
set_option maxHeartbeats 16000000 in
theorem walk (V0 : SV) (z0 : Sm) (V1 : SV) (z1 : Sm) (w : World) (w0 : ArgS w V0 z0) (w1 : ArgS w V1 z1) :
    Calls Tryz.prog 27 #[.agg #[.slice V0.xr V0.nr V0.cr, .slice V0.xf V0.nf V0.cf, .slice V0.xt V0.nt V0.ct, .int .i64 z0.lo, .int .i64 z0.al, .slice V0.xk V0.nk V0.ck, .int .i64 z0.ka], .agg #[.slice V1.xr V1.nr V1.cr, .slice V1.xf V1.nf V1.cf, .slice V1.xt V1.nt V1.ct, .int .i64 z1.lo, .int .i64 z1.al, .slice V1.xk V1.nk V1.ck, .int .i64 z1.ka]] w fun e w' => e = .returned (.bool true) ∧ Below w.heap.size w w' := by
  have KS := fun W U1 U2 h1 h2 => spSumJoin_at W U1 U2 z0 z1 h1 h2
  have KI := fun W U1 U2 h1 h2 => imSumJoin_at W U1 U2 z0 z1 h1 h2
  obtain ⟨r, hr⟩ : ∃ r, r = joinS z0 z1 := ⟨_, rfl⟩
  obtain ⟨ok, hok⟩ : ∃ o, o = joinOkS z0 z1 := ⟨_, rfl⟩
  rw [← hok, ← hr] at KS KI
  have LNr := Lib.hid (show LenS r by rw [hr]; exact (join_small z0 z1).lens)
  replace KS := Lib.hid KS
  replace KI := Lib.hid KI
  clear hr hok
  have ek : (ok != ok) = false := by cases ok <;> rfl
  have q0 : ¬ (1 : Int) + (totS r : Nat) < 0 := by omega
  have q1 : ((1 : Int) + (totS r : Nat) != 1 + (totS r : Nat)) = false := by simp
  have b0 : ¬ (1 : Int) + (totS z0 : Nat) < 0 := by omega
  have b1 : ¬ (1 : Int) + (totS z0 : Nat) + (totS z1 : Nat) < 0 := by omega
  have hA := (((Below.refl w.heap.size w).alloc (by simp) (.cells #[.slice V0.xr V0.nr V0.cr, .slice V0.xf V0.nf V0.cf, .slice V0.xt V0.nt V0.ct, .int .i64 z0.lo, .int .i64 z0.al, .slice V0.xk V0.nk V0.ck, .int .i64 z0.ka] 97)).alloc (by simp) (.cells #[.slice V1.xr V1.nr V1.cr, .slice V1.xf V1.nf V1.cf, .slice V1.xt V1.nt V1.ct, .int .i64 z1.lo, .int .i64 z1.al, .slice V1.xk V1.nk V1.ck, .int .i64 z1.ka] 97))
  have XA0 := (Box7.new w 97 (.slice V0.xr V0.nr V0.cr) (.slice V0.xf V0.nf V0.cf) (.slice V0.xt V0.nt V0.ct) (.int .i64 z0.lo) (.int .i64 z0.al) (.slice V0.xk V0.nk V0.ck) (.int .i64 z0.ka)).alloc (.cells #[.slice V1.xr V1.nr V1.cr, .slice V1.xf V1.nf V1.cf, .slice V1.xt V1.nt V1.ct, .int .i64 z1.lo, .int .i64 z1.al, .slice V1.xk V1.nk V1.ck, .int .i64 z1.ka] 97)
  have XA1 := Box7.new (w.alloc (.cells #[.slice V0.xr V0.nr V0.cr, .slice V0.xf V0.nf V0.cf, .slice V0.xt V0.nt V0.ct, .int .i64 z0.lo, .int .i64 z0.al, .slice V0.xk V0.nk V0.ck, .int .i64 z0.ka] 97)) 97 (.slice V1.xr V1.nr V1.cr) (.slice V1.xf V1.nf V1.cf) (.slice V1.xt V1.nt V1.ct) (.int .i64 z1.lo) (.int .i64 z1.al) (.slice V1.xk V1.nk V1.ck) (.int .i64 z1.ka)
  rw [World.size_alloc] at XA1
  obtain ⟨axa00, axa01, axa02, axa03, axa04, axa05, axa06⟩ := (XA0).cells
  obtain ⟨axa10, axa11, axa12, axa13, axa14, axa15, axa16⟩ := (XA1).cells
  obtain ⟨W0, hW⟩ : ∃ W, W = ((w.alloc (.cells #[.slice V0.xr V0.nr V0.cr, .slice V0.xf V0.nf V0.cf, .slice V0.xt V0.nt V0.ct, .int .i64 z0.lo, .int .i64 z0.al, .slice V0.xk V0.nk V0.ck, .int .i64 z0.ka] 97)).alloc (.cells #[.slice V1.xr V1.nr V1.cr, .slice V1.xf V1.nf V1.cf, .slice V1.xt V1.nt V1.ct, .int .i64 z1.lo, .int .i64 z1.al, .slice V1.xk V1.nk V1.ck, .int .i64 z1.ka] 97)) := ⟨_, rfl⟩
  rw [← hW] at hA XA0 XA1
  have B := Lib.hid hA
  have A0 := Lib.hid w0
  have A1 := Lib.hid w1
  clear hA w0 w1
  go_enter Tryz.func27, Tryz.ntmps27
  go_wp2_with fail
  rw [← hW]
  clear hW axa00 axa01 axa02 axa03 axa04 axa05 axa06 axa10 axa11 axa12 axa13 axa14 axa15 axa16
  obtain ⟨n0, hn0⟩ : ∃ n, n = lenS z0 := ⟨_, rfl⟩
  have KS := szSum_at W0 V0 z0 (1048576) (A0.out.below B.out (Nat.le_refl _)) (by omega) (by omega)
  rw [← hn0] at KS
  have HN0 := Lib.hid hn0
  clear hn0
  by_cases hle0 : (1048576 : Int) < (n0 : Int)
  · rw [if_pos hle0] at KS
    refine (KS).mono ?_
    rintro e w1 ⟨rfl, hb⟩
    replace XA0 := XA0.later hb
    replace XA1 := XA1.later hb
    replace B := Lib.hid (B.out.trans (hb.mono B.out.size))
    clear hb
    go_wp2
    go_ret
    exact ⟨rfl, B.out⟩
  rw [if_neg hle0] at KS
  have nz0 : ¬ (1048576 : Int) - (n0 : Int) < 0 := by omega
  refine (KS).mono ?_
  rintro e w1 ⟨rfl, hb⟩
  clear KS
  replace XA0 := XA0.later hb
  replace XA1 := XA1.later hb
  replace B := Lib.hid (B.out.trans (hb.mono B.out.size))
  clear hb
  obtain ⟨cxa00, cxa01, cxa02, cxa03, cxa04, cxa05, cxa06⟩ := (XA0).cells
  obtain ⟨cxa10, cxa11, cxa12, cxa13, cxa14, cxa15, cxa16⟩ := (XA1).cells
  obtain ⟨n1, hn1⟩ : ∃ n, n = lenS z1 := ⟨_, rfl⟩
  have KS := szSum_at w1 V1 z1 (1048576 - (n0 : Int)) (A1.out.below B.out (Nat.le_refl _)) (by omega) (by omega)
  rw [← hn1] at KS
  have HN1 := Lib.hid hn1
  clear hn1
  by_cases hle1 : (1048576 - (n0 : Int) : Int) < (n1 : Int)
  · rw [if_pos hle1] at KS
    go_wp2_with fail
    refine (KS).mono ?_
    rintro e w2 ⟨rfl, hb⟩
    clear cxa00 cxa01 cxa02 cxa03 cxa04 cxa05 cxa06 cxa10 cxa11 cxa12 cxa13 cxa14 cxa15 cxa16
    replace XA0 := XA0.later hb
    replace XA1 := XA1.later hb
    replace B := Lib.hid (B.out.trans (hb.mono B.out.size))
    clear hb
    go_wp2
    go_ret
    exact ⟨rfl, B.out⟩
  rw [if_neg hle1] at KS
  have nz1 : ¬ (1048576 - (n0 : Int) : Int) - (n1 : Int) < 0 := by omega
  go_wp2_with fail
  refine (KS).mono ?_
  rintro e w2 ⟨rfl, hb⟩
  clear KS
  clear cxa00 cxa01 cxa02 cxa03 cxa04 cxa05 cxa06 cxa10 cxa11 cxa12 cxa13 cxa14 cxa15 cxa16
  replace XA0 := XA0.later hb
  replace XA1 := XA1.later hb
  replace B := Lib.hid (B.out.trans (hb.mono B.out.size))
  clear hb
  obtain ⟨cxa00, cxa01, cxa02, cxa03, cxa04, cxa05, cxa06⟩ := (XA0).cells
  obtain ⟨cxa10, cxa11, cxa12, cxa13, cxa14, cxa15, cxa16⟩ := (XA1).cells
  have LN0 := Lib.hid (LenS.arg (s := z0) (by rw [← HN0.out]; omega))
  have LN1 := Lib.hid (LenS.arg (s := z1) (by rw [← HN1.out]; omega))
  clear cxa00 cxa01 cxa02 cxa03 cxa04 cxa05 cxa06 cxa10 cxa11 cxa12 cxa13 cxa14 cxa15 cxa16
  go_upto_region 8 with fail
  go_cut [6, 7] (fun sp sb wx => MadeS w2 r ok sp sb wx)
  case first =>
    have A0_ := Lib.hid (A0.out.below B.out (Nat.le_refl _))
    have A1_ := Lib.hid (A1.out.below B.out (Nat.le_refl _))
    have D0 := Lib.hid ((Below.refl w2.heap.size w2).drew)
    have E0 := Lib.hid (D0.out.alloc D0.out.size (.cells #[.slice none 0 0, .slice none 0 0, .slice none 0 0, .int .i64 0, .int .i64 0, .slice none 0 0, .int .i64 0] 39))
    have E0n := Lib.hid (((Below.refl w2.heap.size w2).alloc (Nat.le_refl _) (.cells #[.slice none 0 0, .slice none 0 0, .slice none 0 0, .int .i64 0, .int .i64 0, .slice none 0 0, .int .i64 0] 39)).drew)
    have XE0 : Hid (Box7 (w2.drew.alloc (.cells #[.slice none 0 0, .slice none 0 0, .slice none 0 0, .int .i64 0, .int .i64 0, .slice none 0 0, .int .i64 0] 39)) w2.heap.size 39 (.slice none 0 0) (.slice none 0 0) (.slice none 0 0) (.int .i64 0) (.int .i64 0) (.slice none 0 0) (.int .i64 0)) := Lib.hid (Box7.new w2.drew _ _ _ _ _ _ _ _)
    have XE0n : Hid (Box7 (w2.alloc (.cells #[.slice none 0 0, .slice none 0 0, .slice none 0 0, .int .i64 0, .int .i64 0, .slice none 0 0, .int .i64 0] 39)).drew w2.heap.size 39 (.slice none 0 0) (.slice none 0 0) (.slice none 0 0) (.int .i64 0) (.int .i64 0) (.slice none 0 0) (.int .i64 0)) := Lib.hid (Box7.drew (Box7.new w2 _ _ _ _ _ _ _ _))
    have l0 := XA0.lt
    have l1 := XA1.lt
    have HS : Hid (∀ w', Below w2.heap.size w2 w' → (w'.cell? ⟨w.heap.size, 0, none⟩ = some (.slice V0.xr V0.nr V0.cr) ∧ w'.cell? ⟨w.heap.size, 1, none⟩ = some (.slice V0.xf V0.nf V0.cf) ∧ w'.cell? ⟨w.heap.size, 2, none⟩ = some (.slice V0.xt V0.nt V0.ct) ∧ w'.cell? ⟨w.heap.size, 3, none⟩ = some (.int .i64 z0.lo) ∧ w'.cell? ⟨w.heap.size, 4, none⟩ = some (.int .i64 z0.al) ∧ w'.cell? ⟨w.heap.size, 5, none⟩ = some (.slice V0.xk V0.nk V0.ck) ∧ w'.cell? ⟨w.heap.size, 6, none⟩ = some (.int .i64 z0.ka)) ∧ (w'.cell? ⟨w.heap.size + 1, 0, none⟩ = some (.slice V1.xr V1.nr V1.cr) ∧ w'.cell? ⟨w.heap.size + 1, 1, none⟩ = some (.slice V1.xf V1.nf V1.cf) ∧ w'.cell? ⟨w.heap.size + 1, 2, none⟩ = some (.slice V1.xt V1.nt V1.ct) ∧ w'.cell? ⟨w.heap.size + 1, 3, none⟩ = some (.int .i64 z1.lo) ∧ w'.cell? ⟨w.heap.size + 1, 4, none⟩ = some (.int .i64 z1.al) ∧ w'.cell? ⟨w.heap.size + 1, 5, none⟩ = some (.slice V1.xk V1.nk V1.ck) ∧ w'.cell? ⟨w.heap.size + 1, 6, none⟩ = some (.int .i64 z1.ka))) := fun w' h => ⟨(XA0.below h l0).cells, (XA1.below h l1).cells⟩
    obtain ⟨zxa00, zxa01, zxa02, zxa03, zxa04, zxa05, zxa06⟩ := (XA0.drew).cells
    obtain ⟨zxa10, zxa11, zxa12, zxa13, zxa14, zxa15, zxa16⟩ := (XA1.drew).cells
    clear XA0 XA1 B
    go_region_held3 (fun w' => (w'.cell? ⟨w.heap.size, 0, none⟩ = some (.slice V0.xr V0.nr V0.cr) ∧ w'.cell? ⟨w.heap.size, 1, none⟩ = some (.slice V0.xf V0.nf V0.cf) ∧ w'.cell? ⟨w.heap.size, 2, none⟩ = some (.slice V0.xt V0.nt V0.ct) ∧ w'.cell? ⟨w.heap.size, 3, none⟩ = some (.int .i64 z0.lo) ∧ w'.cell? ⟨w.heap.size, 4, none⟩ = some (.int .i64 z0.al) ∧ w'.cell? ⟨w.heap.size, 5, none⟩ = some (.slice V0.xk V0.nk V0.ck) ∧ w'.cell? ⟨w.heap.size, 6, none⟩ = some (.int .i64 z0.ka)) ∧ (w'.cell? ⟨w.heap.size + 1, 0, none⟩ = some (.slice V1.xr V1.nr V1.cr) ∧ w'.cell? ⟨w.heap.size + 1, 1, none⟩ = some (.slice V1.xf V1.nf V1.cf) ∧ w'.cell? ⟨w.heap.size + 1, 2, none⟩ = some (.slice V1.xt V1.nt V1.ct) ∧ w'.cell? ⟨w.heap.size + 1, 3, none⟩ = some (.int .i64 z1.lo) ∧ w'.cell? ⟨w.heap.size + 1, 4, none⟩ = some (.int .i64 z1.al) ∧ w'.cell? ⟨w.heap.size + 1, 5, none⟩ = some (.slice V1.xk V1.nk V1.ck) ∧ w'.cell? ⟨w.heap.size + 1, 6, none⟩ = some (.int .i64 z1.ka))) (first | with_reducible exact HS.out _ D0.out | with_reducible exact HS.out _ E0n.out | with_reducible exact HS.out _ Dan.out | with_reducible exact HS.out _ Ean.out | with_reducible exact HS.out _ Dbn.out | with_reducible exact HS.out _ Ebn.out | with_reducible exact HS.out _ Dcn.out | with_reducible exact HS.out _ (Dcn.out.alloc Dcn.out.size _) | exact HS.out _ (below_set7 Dcn.out (by first | exact Nat.le_refl _ | exact Dan.out.size | exact Dbn.out.size) (.slice U.xr U.nr U.cr) (.slice U.xf U.nf U.cf) (.slice U.xt U.nt U.ct) (.int .i64 r.lo) (.int .i64 r.al) (.slice U.xk U.nk U.ck) (.int .i64 r.ka)))
     (first
  | (go_at_call_of 69 V0; refine (toSum_at _ V0 z0 ?_ LN0.out).mono ?_; (first | (with_reducible exact A0_.out.below E0.out (Nat.le_refl _)) | (with_reducible exact A0_.out.below D0.out (Nat.le_refl _)) | (with_reducible exact A0_.out.below E0n.out (Nat.le_refl _))); rintro e wa ⟨Ua, rfl, ho, hb⟩; (first | (with_reducible have Da := Lib.hid (E0.out.trans (hb.mono E0.out.size))) | (with_reducible have Da := Lib.hid (D0.out.trans (hb.mono D0.out.size))) | (with_reducible have Da := Lib.hid (E0n.out.trans (hb.mono E0n.out.size)))); have Ea := Lib.hid (Da.out.alloc Da.out.size (.cells #[.slice none 0 0, .slice none 0 0, .slice none 0 0, .int .i64 0, .int .i64 0, .slice none 0 0, .int .i64 0] 39)); have Dan := Da; have Ean := Ea; have XEa := Lib.hid (Box7.new wa 39 (.slice none 0 0) (.slice none 0 0) (.slice none 0 0) (.int .i64 0) (.int .i64 0) (.slice none 0 0) (.int .i64 0)); (first | (with_reducible have XP := Lib.hid (XE0.out.later hb)) | (with_reducible have XP := Lib.hid (XE0n.out.later hb)) | (with_reducible have XP' := Lib.hid (XP.out.later hb)) | skip); have Oa := Lib.hid ho; have OEa := Lib.hid (ho.alloc (.cells #[.slice none 0 0, .slice none 0 0, .slice none 0 0, .int .i64 0, .int .i64 0, .slice none 0 0, .int .i64 0] 39)); obtain ⟨_, k0, k1, k2, k3, k4, k5, k6⟩ := HS.out _ Da.out; clear ho hb)
  | (go_at_call_of 69 V1; refine (toSum_at _ V1 z1 ?_ LN1.out).mono ?_; (first | (with_reducible exact A1_.out.below Ea.out (Nat.le_refl _)) | (with_reducible exact A1_.out.below Da.out (Nat.le_refl _)) | (with_reducible exact A1_.out.below Ean.out (Nat.le_refl _))); rintro e wb ⟨Ub, rfl, ho, hb⟩; (first | (with_reducible have Db := Lib.hid (Ea.out.trans (hb.mono Ea.out.size))) | (with_reducible have Db := Lib.hid (Da.out.trans (hb.mono Da.out.size))) | (with_reducible have Db := Lib.hid (Ean.out.trans (hb.mono Ean.out.size)))); have Eb := Lib.hid (Db.out.alloc Db.out.size (.cells #[.slice none 0 0, .slice none 0 0, .slice none 0 0, .int .i64 0, .int .i64 0, .slice none 0 0, .int .i64 0] 39)); have Dbn := Db; have Ebn := Eb; have XEb := Lib.hid (Box7.new wb 39 (.slice none 0 0) (.slice none 0 0) (.slice none 0 0) (.int .i64 0) (.int .i64 0) (.slice none 0 0) (.int .i64 0)); (first | (with_reducible have XP := Lib.hid (XEa.out.later hb)) | (with_reducible have XP := Lib.hid (XE0n.out.later hb)) | (with_reducible have XP' := Lib.hid (XP.out.later hb)) | skip); have Ob := Lib.hid ho; have OEb := Lib.hid (ho.alloc (.cells #[.slice none 0 0, .slice none 0 0, .slice none 0 0, .int .i64 0, .int .i64 0, .slice none 0 0, .int .i64 0] 39)); (first | (with_reducible have Oa' := Lib.hid (Oa.out.below hb)) | (with_reducible have Oa' := Lib.hid (OEa.out.below hb))); have OEa' := Lib.hid (Oa'.out.alloc (.cells #[.slice none 0 0, .slice none 0 0, .slice none 0 0, .int .i64 0, .int .i64 0, .slice none 0 0, .int .i64 0] 39)); clear ho hb)
  | (go_at_call 65; (first | (with_reducible refine (KS.out _ Ua Ub Oa'.out.rd Ob.out.rd).mono ?_) | (with_reducible refine (KS.out _ Ua Ub OEa'.out.rd OEb.out.rd).mono ?_)); rintro e wd ⟨U, rfl, ho, hb⟩; (first | (with_reducible have Dc := Lib.hid (Eb.out.trans (hb.mono Eb.out.size))) | (with_reducible have Dc := Lib.hid (Db.out.trans (hb.mono Db.out.size)))); (first | (with_reducible have XP2 := Lib.hid (XEb.out.later hb)) | (with_reducible have XP2 := Lib.hid (XP'.out.later hb)) | (with_reducible have XP2 := Lib.hid (XP.out.later hb)) | skip); (try (obtain ⟨p0, p1, p2, p3, p4, p5, p6⟩ := XP2.out.cells; have fp := XP2.out.free)); have Oc := Lib.hid ho; have Dcn := Dc; clear ho hb))
    all_goals (go_wp2_with fail; go_meet)
    all_goals first
      | (with_reducible exact MadeS.last Dc.out Db.out.size Oc.out)
      | (with_reducible exact MadeS.last Dc.out Eb.out.size Oc.out)
      | exact MadeS.stored Dc.out Db.out.size Oc.out (Nat.le_refl _) XP2.out
      | exact MadeS.stored Dc.out Db.out.size Oc.out Da.out.size XP2.out
      | exact MadeS.stored Dc.out Db.out.size Oc.out Db.out.size XP2.out
      | exact MadeS.stored Dc.out Eb.out.size Oc.out Db.out.size XP2.out
  case rest =>
    obtain ⟨Ps, Vs, rfl, rfl, G⟩ := hcut
    obtain ⟨w3, hwc⟩ : ∃ W, W = wc := ⟨_, rfl⟩
    subst hwc
    have hb := G.below
    have SO0 := Lib.hid B.out.size
    replace XA0 := XA0.later hb
    replace XA1 := XA1.later hb
    replace B := Lib.hid (B.out.trans (hb.mono B.out.size))
    clear hb
    have O0 := Lib.hid G.own
    have X0 := G.box.box
    clear G
    obtain ⟨cxa00, cxa01, cxa02, cxa03, cxa04, cxa05, cxa06⟩ := (XA0).cells
    have K1 := toSum_at w3 V0 z0 (A0.out.below B.out (Nat.le_refl _)) LN0.out
    go_wp2_with fail
    refine (K1).mono ?_
    rintro e w4 ⟨U2, rfl, ho, hb⟩
    clear K1
    have LO0Ox := Lib.hid O0.out.top
    have SOx := Lib.hid B.out.size
    clear cxa00 cxa01 cxa02 cxa03 cxa04 cxa05 cxa06
    replace XA0 := XA0.later hb
    replace XA1 := XA1.later hb
    replace B := Lib.hid (B.out.trans (hb.mono B.out.size))
    replace O0 := Lib.hid (O0.out.below hb)
    replace X0 := X0.later hb
    have Ox := Lib.hid (ho)
    clear hb
    obtain ⟨W4, hW⟩ : ∃ W, W = (w4.alloc (.cells #[.slice U2.xr U2.nr U2.cr, .slice U2.xf U2.nf U2.cf, .slice U2.xt U2.nt U2.ct, .int .i64 z0.lo, .int .i64 z0.al, .slice U2.xk U2.nk U2.ck, .int .i64 z0.ka] 39)) := ⟨_, rfl⟩
    obtain ⟨axa10, axa11, axa12, axa13, axa14, axa15, axa16⟩ := ((XA1.alloc (.cells #[.slice U2.xr U2.nr U2.cr, .slice U2.xf U2.nf U2.cf, .slice U2.xt U2.nt U2.ct, .int .i64 z0.lo, .int .i64 z0.al, .slice U2.xk U2.nk U2.ck, .int .i64 z0.ka] 39))).cells
    replace XA0 := XA0.alloc (.cells #[.slice U2.xr U2.nr U2.cr, .slice U2.xf U2.nf U2.cf, .slice U2.xt U2.nt U2.ct, .int .i64 z0.lo, .int .i64 z0.al, .slice U2.xk U2.nk U2.ck, .int .i64 z0.ka] 39)
    rw [← hW] at XA0
    replace XA1 := XA1.alloc (.cells #[.slice U2.xr U2.nr U2.cr, .slice U2.xf U2.nf U2.cf, .slice U2.xt U2.nt U2.ct, .int .i64 z0.lo, .int .i64 z0.al, .slice U2.xk U2.nk U2.ck, .int .i64 z0.ka] 39)
    rw [← hW] at XA1
    replace B := Lib.hid ((B.out).alloc (Nat.le_trans B.out.size (by simp)) (.cells #[.slice U2.xr U2.nr U2.cr, .slice U2.xf U2.nf U2.cf, .slice U2.xt U2.nt U2.ct, .int .i64 z0.lo, .int .i64 z0.al, .slice U2.xk U2.nk U2.ck, .int .i64 z0.ka] 39))
    rw [← hW] at B
    replace O0 := Lib.hid (O0.out.alloc (.cells #[.slice U2.xr U2.nr U2.cr, .slice U2.xf U2.nf U2.cf, .slice U2.xt U2.nt U2.ct, .int .i64 z0.lo, .int .i64 z0.al, .slice U2.xk U2.nk U2.ck, .int .i64 z0.ka] 39))
    rw [← hW] at O0
    replace X0 := X0.alloc (.cells #[.slice U2.xr U2.nr U2.cr, .slice U2.xf U2.nf U2.cf, .slice U2.xt U2.nt U2.ct, .int .i64 z0.lo, .int .i64 z0.al, .slice U2.xk U2.nk U2.ck, .int .i64 z0.ka] 39)
    rw [← hW] at X0
    replace Ox := Lib.hid (Ox.out.alloc (.cells #[.slice U2.xr U2.nr U2.cr, .slice U2.xf U2.nf U2.cf, .slice U2.xt U2.nt U2.ct, .int .i64 z0.lo, .int .i64 z0.al, .slice U2.xk U2.nk U2.ck, .int .i64 z0.ka] 39))
    rw [← hW] at Ox
    have Xx := Box7.new w4 39 (.slice U2.xr U2.nr U2.cr) (.slice U2.xf U2.nf U2.cf) (.slice U2.xt U2.nt U2.ct) (.int .i64 z0.lo) (.int .i64 z0.al) (.slice U2.xk U2.nk U2.ck) (.int .i64 z0.ka)
    rw [← hW] at Xx
    go_wp2_with fail
    rw [← hW]
    clear hW axa10 axa11 axa12 axa13 axa14 axa15 axa16
    clear ho
    have K1 := toSum_at W4 V1 z1 (A1.out.below B.out (Nat.le_refl _)) LN1.out
    go_wp2_with fail
    refine (K1).mono ?_
    rintro e w5 ⟨U3, rfl, ho, hb⟩
    clear K1
    have LO0Oy := Lib.hid O0.out.top
    have LOxOy := Lib.hid Ox.out.top
    have SOy := Lib.hid B.out.size
    replace XA0 := XA0.later hb
    replace XA1 := XA1.later hb
    replace B := Lib.hid (B.out.trans (hb.mono B.out.size))
    replace O0 := Lib.hid (O0.out.below hb)
    replace X0 := X0.later hb
    replace Ox := Lib.hid (Ox.out.below hb)
    replace Xx := Xx.later hb
    have Oy := Lib.hid (ho)
    clear hb
    obtain ⟨W5, hW⟩ : ∃ W, W = (w5.alloc (.cells #[.slice U3.xr U3.nr U3.cr, .slice U3.xf U3.nf U3.cf, .slice U3.xt U3.nt U3.ct, .int .i64 z1.lo, .int .i64 z1.al, .slice U3.xk U3.nk U3.ck, .int .i64 z1.ka] 39)) := ⟨_, rfl⟩
    obtain ⟨axx0, axx1, axx2, axx3, axx4, axx5, axx6⟩ := ((Xx.alloc (.cells #[.slice U3.xr U3.nr U3.cr, .slice U3.xf U3.nf U3.cf, .slice U3.xt U3.nt U3.ct, .int .i64 z1.lo, .int .i64 z1.al, .slice U3.xk U3.nk U3.ck, .int .i64 z1.ka] 39))).cells
    replace XA0 := XA0.alloc (.cells #[.slice U3.xr U3.nr U3.cr, .slice U3.xf U3.nf U3.cf, .slice U3.xt U3.nt U3.ct, .int .i64 z1.lo, .int .i64 z1.al, .slice U3.xk U3.nk U3.ck, .int .i64 z1.ka] 39)
    rw [← hW] at XA0
    replace XA1 := XA1.alloc (.cells #[.slice U3.xr U3.nr U3.cr, .slice U3.xf U3.nf U3.cf, .slice U3.xt U3.nt U3.ct, .int .i64 z1.lo, .int .i64 z1.al, .slice U3.xk U3.nk U3.ck, .int .i64 z1.ka] 39)
    rw [← hW] at XA1
    replace B := Lib.hid ((B.out).alloc (Nat.le_trans B.out.size (by simp)) (.cells #[.slice U3.xr U3.nr U3.cr, .slice U3.xf U3.nf U3.cf, .slice U3.xt U3.nt U3.ct, .int .i64 z1.lo, .int .i64 z1.al, .slice U3.xk U3.nk U3.ck, .int .i64 z1.ka] 39))
    rw [← hW] at B
    replace O0 := Lib.hid (O0.out.alloc (.cells #[.slice U3.xr U3.nr U3.cr, .slice U3.xf U3.nf U3.cf, .slice U3.xt U3.nt U3.ct, .int .i64 z1.lo, .int .i64 z1.al, .slice U3.xk U3.nk U3.ck, .int .i64 z1.ka] 39))
    rw [← hW] at O0
    replace X0 := X0.alloc (.cells #[.slice U3.xr U3.nr U3.cr, .slice U3.xf U3.nf U3.cf, .slice U3.xt U3.nt U3.ct, .int .i64 z1.lo, .int .i64 z1.al, .slice U3.xk U3.nk U3.ck, .int .i64 z1.ka] 39)
    rw [← hW] at X0
    replace Ox := Lib.hid (Ox.out.alloc (.cells #[.slice U3.xr U3.nr U3.cr, .slice U3.xf U3.nf U3.cf, .slice U3.xt U3.nt U3.ct, .int .i64 z1.lo, .int .i64 z1.al, .slice U3.xk U3.nk U3.ck, .int .i64 z1.ka] 39))
    rw [← hW] at Ox
    replace Xx := Xx.alloc (.cells #[.slice U3.xr U3.nr U3.cr, .slice U3.xf U3.nf U3.cf, .slice U3.xt U3.nt U3.ct, .int .i64 z1.lo, .int .i64 z1.al, .slice U3.xk U3.nk U3.ck, .int .i64 z1.ka] 39)
    rw [← hW] at Xx
    replace Oy := Lib.hid (Oy.out.alloc (.cells #[.slice U3.xr U3.nr U3.cr, .slice U3.xf U3.nf U3.cf, .slice U3.xt U3.nt U3.ct, .int .i64 z1.lo, .int .i64 z1.al, .slice U3.xk U3.nk U3.ck, .int .i64 z1.ka] 39))
    rw [← hW] at Oy
    have Xy := Box7.new w5 39 (.slice U3.xr U3.nr U3.cr) (.slice U3.xf U3.nf U3.cf) (.slice U3.xt U3.nt U3.ct) (.int .i64 z1.lo) (.int .i64 z1.al) (.slice U3.xk U3.nk U3.ck) (.int .i64 z1.ka)
    rw [← hW] at Xy
    go_wp2_with fail
    rw [← hW]
    clear hW axx0 axx1 axx2 axx3 axx4 axx5 axx6
    clear ho
    have K1 := KI.out W5 U2 U3 Ox.out.rd Oy.out.rd
    go_wp2_with fail
    refine (K1).mono ?_
    rintro e w6 ⟨Vg, rfl, ho, hb⟩
    clear K1
    have LO0Og := Lib.hid O0.out.top
    have LOxOg := Lib.hid Ox.out.top
    have LOyOg := Lib.hid Oy.out.top
    have SOg := Lib.hid B.out.size
    replace XA0 := XA0.later hb
    replace XA1 := XA1.later hb
    replace B := Lib.hid (B.out.trans (hb.mono B.out.size))
    replace O0 := Lib.hid (O0.out.below hb)
    replace X0 := X0.later hb
    replace Ox := Lib.hid (Ox.out.below hb)
    replace Xx := Xx.later hb
    replace Oy := Lib.hid (Oy.out.below hb)
    replace Xy := Xy.later hb
    have Og := Lib.hid (ho)
    clear hb
    obtain ⟨W6, hW⟩ : ∃ W, W = (w6.alloc (.cells #[.slice Vg.xr Vg.nr Vg.cr, .slice Vg.xf Vg.nf Vg.cf, .slice Vg.xt Vg.nt Vg.ct, .int .i64 r.lo, .int .i64 r.al, .slice Vg.xk Vg.nk Vg.ck, .int .i64 r.ka] 39)) := ⟨_, rfl⟩
    obtain ⟨ax00, ax01, ax02, ax03, ax04, ax05, ax06⟩ := ((X0.alloc (.cells #[.slice Vg.xr Vg.nr Vg.cr, .slice Vg.xf Vg.nf Vg.cf, .slice Vg.xt Vg.nt Vg.ct, .int .i64 r.lo, .int .i64 r.al, .slice Vg.xk Vg.nk Vg.ck, .int .i64 r.ka] 39))).cells
    replace XA0 := XA0.alloc (.cells #[.slice Vg.xr Vg.nr Vg.cr, .slice Vg.xf Vg.nf Vg.cf, .slice Vg.xt Vg.nt Vg.ct, .int .i64 r.lo, .int .i64 r.al, .slice Vg.xk Vg.nk Vg.ck, .int .i64 r.ka] 39)
    rw [← hW] at XA0
    replace XA1 := XA1.alloc (.cells #[.slice Vg.xr Vg.nr Vg.cr, .slice Vg.xf Vg.nf Vg.cf, .slice Vg.xt Vg.nt Vg.ct, .int .i64 r.lo, .int .i64 r.al, .slice Vg.xk Vg.nk Vg.ck, .int .i64 r.ka] 39)
    rw [← hW] at XA1
    replace B := Lib.hid ((B.out).alloc (Nat.le_trans B.out.size (by simp)) (.cells #[.slice Vg.xr Vg.nr Vg.cr, .slice Vg.xf Vg.nf Vg.cf, .slice Vg.xt Vg.nt Vg.ct, .int .i64 r.lo, .int .i64 r.al, .slice Vg.xk Vg.nk Vg.ck, .int .i64 r.ka] 39))
    rw [← hW] at B
    replace O0 := Lib.hid (O0.out.alloc (.cells #[.slice Vg.xr Vg.nr Vg.cr, .slice Vg.xf Vg.nf Vg.cf, .slice Vg.xt Vg.nt Vg.ct, .int .i64 r.lo, .int .i64 r.al, .slice Vg.xk Vg.nk Vg.ck, .int .i64 r.ka] 39))
    rw [← hW] at O0
    replace X0 := X0.alloc (.cells #[.slice Vg.xr Vg.nr Vg.cr, .slice Vg.xf Vg.nf Vg.cf, .slice Vg.xt Vg.nt Vg.ct, .int .i64 r.lo, .int .i64 r.al, .slice Vg.xk Vg.nk Vg.ck, .int .i64 r.ka] 39)
    rw [← hW] at X0
    replace Ox := Lib.hid (Ox.out.alloc (.cells #[.slice Vg.xr Vg.nr Vg.cr, .slice Vg.xf Vg.nf Vg.cf, .slice Vg.xt Vg.nt Vg.ct, .int .i64 r.lo, .int .i64 r.al, .slice Vg.xk Vg.nk Vg.ck, .int .i64 r.ka] 39))
    rw [← hW] at Ox
    replace Xx := Xx.alloc (.cells #[.slice Vg.xr Vg.nr Vg.cr, .slice Vg.xf Vg.nf Vg.cf, .slice Vg.xt Vg.nt Vg.ct, .int .i64 r.lo, .int .i64 r.al, .slice Vg.xk Vg.nk Vg.ck, .int .i64 r.ka] 39)
    rw [← hW] at Xx
    replace Oy := Lib.hid (Oy.out.alloc (.cells #[.slice Vg.xr Vg.nr Vg.cr, .slice Vg.xf Vg.nf Vg.cf, .slice Vg.xt Vg.nt Vg.ct, .int .i64 r.lo, .int .i64 r.al, .slice Vg.xk Vg.nk Vg.ck, .int .i64 r.ka] 39))
    rw [← hW] at Oy
    replace Xy := Xy.alloc (.cells #[.slice Vg.xr Vg.nr Vg.cr, .slice Vg.xf Vg.nf Vg.cf, .slice Vg.xt Vg.nt Vg.ct, .int .i64 r.lo, .int .i64 r.al, .slice Vg.xk Vg.nk Vg.ck, .int .i64 r.ka] 39)
    rw [← hW] at Xy
    replace Og := Lib.hid (Og.out.alloc (.cells #[.slice Vg.xr Vg.nr Vg.cr, .slice Vg.xf Vg.nf Vg.cf, .slice Vg.xt Vg.nt Vg.ct, .int .i64 r.lo, .int .i64 r.al, .slice Vg.xk Vg.nk Vg.ck, .int .i64 r.ka] 39))
    rw [← hW] at Og
    have Xg := Box7.new w6 39 (.slice Vg.xr Vg.nr Vg.cr) (.slice Vg.xf Vg.nf Vg.cf) (.slice Vg.xt Vg.nt Vg.ct) (.int .i64 r.lo) (.int .i64 r.al) (.slice Vg.xk Vg.nk Vg.ck) (.int .i64 r.ka)
    rw [← hW] at Xg
    go_wp2_with fail
    rw [← hW]
    clear hW ax00 ax01 ax02 ax03 ax04 ax05 ax06
    clear ho
    go_wp2_with fail
    refine (eqSum_at W6 Vg Vs r Og.out.rd O0.out.rd LNr.out).mono ?_
    rintro e w7 ⟨rfl, hb⟩
    replace XA0 := XA0.later hb
    replace XA1 := XA1.later hb
    replace B := Lib.hid (B.out.trans (hb.mono B.out.size))
    replace O0 := Lib.hid (O0.out.below hb)
    replace X0 := X0.later hb
    replace Ox := Lib.hid (Ox.out.below hb)
    replace Xx := Xx.later hb
    replace Oy := Lib.hid (Oy.out.below hb)
    replace Xy := Xy.later hb
    replace Og := Lib.hid (Og.out.below hb)
    replace Xg := Xg.later hb
    clear hb
    go_upto_region 14 with fail
    go_cut [58] (fun c wx => c = .bool false ∧ Below w7.heap.size w7 wx)
    case first =>
      have KT : Hid (∀ W', Below w7.heap.size w7 W' → Calls Tryz.prog 69 #[.agg #[.slice V0.xr V0.nr V0.cr, .slice V0.xf V0.nf V0.cf, .slice V0.xt V0.nt V0.ct, .int .i64 z0.lo, .int .i64 z0.al, .slice V0.xk V0.nk V0.ck, .int .i64 z0.ka]] W' fun e w' => ∃ U, e = .returned (.agg #[.slice U.xr U.nr U.cr, .slice U.xf U.nf U.cf, .slice U.xt U.nt U.ct, .int .i64 z0.lo, .int .i64 z0.al, .slice U.xk U.nk U.ck, .int .i64 z0.ka]) ∧ OwnS w' W'.heap.size w'.heap.size U z0 ∧ Below W'.heap.size W' w') := fun W' h => toSum_at W' V0 z0 (A0.out.below (B.out.trans (h.mono B.out.size)) (Nat.le_refl _)) LN0.out
      have D0 := Lib.hid (Below.drew (Below.refl w7.heap.size w7))
      have HS : Hid (∀ w', Below w7.heap.size w7 w' → (w'.cell? ⟨w4.heap.size, 0, none⟩ = some (.slice U2.xr U2.nr U2.cr) ∧ w'.cell? ⟨w4.heap.size, 1, none⟩ = some (.slice U2.xf U2.nf U2.cf) ∧ w'.cell? ⟨w4.heap.size, 2, none⟩ = some (.slice U2.xt U2.nt U2.ct) ∧ w'.cell? ⟨w4.heap.size, 3, none⟩ = some (.int .i64 z0.lo) ∧ w'.cell? ⟨w4.heap.size, 4, none⟩ = some (.int .i64 z0.al) ∧ w'.cell? ⟨w4.heap.size, 5, none⟩ = some (.slice U2.xk U2.nk U2.ck) ∧ w'.cell? ⟨w4.heap.size, 6, none⟩ = some (.int .i64 z0.ka)) ∧ (w'.cell? ⟨w.heap.size, 0, none⟩ = some (.slice V0.xr V0.nr V0.cr) ∧ w'.cell? ⟨w.heap.size, 1, none⟩ = some (.slice V0.xf V0.nf V0.cf) ∧ w'.cell? ⟨w.heap.size, 2, none⟩ = some (.slice V0.xt V0.nt V0.ct) ∧ w'.cell? ⟨w.heap.size, 3, none⟩ = some (.int .i64 z0.lo) ∧ w'.cell? ⟨w.heap.size, 4, none⟩ = some (.int .i64 z0.al) ∧ w'.cell? ⟨w.heap.size, 5, none⟩ = some (.slice V0.xk V0.nk V0.ck) ∧ w'.cell? ⟨w.heap.size, 6, none⟩ = some (.int .i64 z0.ka))) := fun w' h => ⟨(Xx.later h).cells, (XA0.later h).cells⟩
      clear XA0 XA1 X0 Xx Xy Xg
      go_region_held3 (fun w' => (w'.cell? ⟨w4.heap.size, 0, none⟩ = some (.slice U2.xr U2.nr U2.cr) ∧ w'.cell? ⟨w4.heap.size, 1, none⟩ = some (.slice U2.xf U2.nf U2.cf) ∧ w'.cell? ⟨w4.heap.size, 2, none⟩ = some (.slice U2.xt U2.nt U2.ct) ∧ w'.cell? ⟨w4.heap.size, 3, none⟩ = some (.int .i64 z0.lo) ∧ w'.cell? ⟨w4.heap.size, 4, none⟩ = some (.int .i64 z0.al) ∧ w'.cell? ⟨w4.heap.size, 5, none⟩ = some (.slice U2.xk U2.nk U2.ck) ∧ w'.cell? ⟨w4.heap.size, 6, none⟩ = some (.int .i64 z0.ka)) ∧ (w'.cell? ⟨w.heap.size, 0, none⟩ = some (.slice V0.xr V0.nr V0.cr) ∧ w'.cell? ⟨w.heap.size, 1, none⟩ = some (.slice V0.xf V0.nf V0.cf) ∧ w'.cell? ⟨w.heap.size, 2, none⟩ = some (.slice V0.xt V0.nt V0.ct) ∧ w'.cell? ⟨w.heap.size, 3, none⟩ = some (.int .i64 z0.lo) ∧ w'.cell? ⟨w.heap.size, 4, none⟩ = some (.int .i64 z0.al) ∧ w'.cell? ⟨w.heap.size, 5, none⟩ = some (.slice V0.xk V0.nk V0.ck) ∧ w'.cell? ⟨w.heap.size, 6, none⟩ = some (.int .i64 z0.ka))) (first | (with_reducible exact HS.out _ D0.out) | (with_reducible exact HS.out _ D1.out) | (with_reducible exact HS.out _ D2.out)) (first
        | (go_at_call 69; (with_reducible refine (KT.out _ D0.out).mono ?_); rintro e v1 ⟨U7, rfl, ho7, hb⟩; have D1 := Lib.hid (D0.out.trans (hb.mono D0.out.size)); have O7 := Lib.hid ho7; clear ho7 hb)
        | (go_at_call 70; (with_reducible refine (eqSum_at _ U2 U7 z0 (Ox.out.below D1.out).rd O7.out.rd LN0.out).mono ?_); rintro e v2 ⟨rfl, hb⟩; have D2 := Lib.hid (D1.out.trans (hb.mono D1.out.size)); clear hb))
      all_goals
        (go_wp2_with fail; go_meet; exact ⟨rfl, D2.out⟩)
    case rest =>
      obtain ⟨rfl, hb⟩ := hcut
      obtain ⟨w8, hwc⟩ : ∃ W, W = wc := ⟨_, rfl⟩
      subst hwc
      replace XA0 := XA0.later hb
      replace XA1 := XA1.later hb
      replace B := Lib.hid (B.out.trans (hb.mono B.out.size))
      replace O0 := Lib.hid (O0.out.below hb)
      replace X0 := X0.later hb
      replace Ox := Lib.hid (Ox.out.below hb)
      replace Xx := Xx.later hb
      replace Oy := Lib.hid (Oy.out.below hb)
      replace Xy := Xy.later hb
      replace Og := Lib.hid (Og.out.below hb)
      replace Xg := Xg.later hb
      clear hb
      go_upto_region 16 with fail
      go_cut [63] (fun c wx => c = .bool false ∧ Below w8.heap.size w8 wx)
      case first =>
        have KT : Hid (∀ W', Below w8.heap.size w8 W' → Calls Tryz.prog 69 #[.agg #[.slice V1.xr V1.nr V1.cr, .slice V1.xf V1.nf V1.cf, .slice V1.xt V1.nt V1.ct, .int .i64 z1.lo, .int .i64 z1.al, .slice V1.xk V1.nk V1.ck, .int .i64 z1.ka]] W' fun e w' => ∃ U, e = .returned (.agg #[.slice U.xr U.nr U.cr, .slice U.xf U.nf U.cf, .slice U.xt U.nt U.ct, .int .i64 z1.lo, .int .i64 z1.al, .slice U.xk U.nk U.ck, .int .i64 z1.ka]) ∧ OwnS w' W'.heap.size w'.heap.size U z1 ∧ Below W'.heap.size W' w') := fun W' h => toSum_at W' V1 z1 (A1.out.below (B.out.trans (h.mono B.out.size)) (Nat.le_refl _)) LN1.out
        have D0 := Lib.hid (Below.drew (Below.refl w8.heap.size w8))
        have HS : Hid (∀ w', Below w8.heap.size w8 w' → (w'.cell? ⟨w5.heap.size, 0, none⟩ = some (.slice U3.xr U3.nr U3.cr) ∧ w'.cell? ⟨w5.heap.size, 1, none⟩ = some (.slice U3.xf U3.nf U3.cf) ∧ w'.cell? ⟨w5.heap.size, 2, none⟩ = some (.slice U3.xt U3.nt U3.ct) ∧ w'.cell? ⟨w5.heap.size, 3, none⟩ = some (.int .i64 z1.lo) ∧ w'.cell? ⟨w5.heap.size, 4, none⟩ = some (.int .i64 z1.al) ∧ w'.cell? ⟨w5.heap.size, 5, none⟩ = some (.slice U3.xk U3.nk U3.ck) ∧ w'.cell? ⟨w5.heap.size, 6, none⟩ = some (.int .i64 z1.ka)) ∧ (w'.cell? ⟨w.heap.size + 1, 0, none⟩ = some (.slice V1.xr V1.nr V1.cr) ∧ w'.cell? ⟨w.heap.size + 1, 1, none⟩ = some (.slice V1.xf V1.nf V1.cf) ∧ w'.cell? ⟨w.heap.size + 1, 2, none⟩ = some (.slice V1.xt V1.nt V1.ct) ∧ w'.cell? ⟨w.heap.size + 1, 3, none⟩ = some (.int .i64 z1.lo) ∧ w'.cell? ⟨w.heap.size + 1, 4, none⟩ = some (.int .i64 z1.al) ∧ w'.cell? ⟨w.heap.size + 1, 5, none⟩ = some (.slice V1.xk V1.nk V1.ck) ∧ w'.cell? ⟨w.heap.size + 1, 6, none⟩ = some (.int .i64 z1.ka))) := fun w' h => ⟨(Xy.later h).cells, (XA1.later h).cells⟩
        clear XA0 XA1 X0 Xx Xy Xg
        go_region_held3 (fun w' => (w'.cell? ⟨w5.heap.size, 0, none⟩ = some (.slice U3.xr U3.nr U3.cr) ∧ w'.cell? ⟨w5.heap.size, 1, none⟩ = some (.slice U3.xf U3.nf U3.cf) ∧ w'.cell? ⟨w5.heap.size, 2, none⟩ = some (.slice U3.xt U3.nt U3.ct) ∧ w'.cell? ⟨w5.heap.size, 3, none⟩ = some (.int .i64 z1.lo) ∧ w'.cell? ⟨w5.heap.size, 4, none⟩ = some (.int .i64 z1.al) ∧ w'.cell? ⟨w5.heap.size, 5, none⟩ = some (.slice U3.xk U3.nk U3.ck) ∧ w'.cell? ⟨w5.heap.size, 6, none⟩ = some (.int .i64 z1.ka)) ∧ (w'.cell? ⟨w.heap.size + 1, 0, none⟩ = some (.slice V1.xr V1.nr V1.cr) ∧ w'.cell? ⟨w.heap.size + 1, 1, none⟩ = some (.slice V1.xf V1.nf V1.cf) ∧ w'.cell? ⟨w.heap.size + 1, 2, none⟩ = some (.slice V1.xt V1.nt V1.ct) ∧ w'.cell? ⟨w.heap.size + 1, 3, none⟩ = some (.int .i64 z1.lo) ∧ w'.cell? ⟨w.heap.size + 1, 4, none⟩ = some (.int .i64 z1.al) ∧ w'.cell? ⟨w.heap.size + 1, 5, none⟩ = some (.slice V1.xk V1.nk V1.ck) ∧ w'.cell? ⟨w.heap.size + 1, 6, none⟩ = some (.int .i64 z1.ka))) (first | (with_reducible exact HS.out _ D0.out) | (with_reducible exact HS.out _ D1.out) | (with_reducible exact HS.out _ D2.out)) (first
          | (go_at_call 69; (with_reducible refine (KT.out _ D0.out).mono ?_); rintro e v1 ⟨U7, rfl, ho7, hb⟩; have D1 := Lib.hid (D0.out.trans (hb.mono D0.out.size)); have O7 := Lib.hid ho7; clear ho7 hb)
          | (go_at_call 70; (with_reducible refine (eqSum_at _ U3 U7 z1 (Oy.out.below D1.out).rd O7.out.rd LN1.out).mono ?_); rintro e v2 ⟨rfl, hb⟩; have D2 := Lib.hid (D1.out.trans (hb.mono D1.out.size)); clear hb))
        all_goals
          (go_wp2_with fail; go_meet; exact ⟨rfl, D2.out⟩)
      case rest =>
        obtain ⟨rfl, hb⟩ := hcut
        obtain ⟨w9, hwc⟩ : ∃ W, W = wc := ⟨_, rfl⟩
        subst hwc
        replace XA0 := XA0.later hb
        replace XA1 := XA1.later hb
        replace B := Lib.hid (B.out.trans (hb.mono B.out.size))
        replace O0 := Lib.hid (O0.out.below hb)
        replace X0 := X0.later hb
        replace Ox := Lib.hid (Ox.out.below hb)
        replace Xx := Xx.later hb
        replace Oy := Lib.hid (Oy.out.below hb)
        replace Xy := Xy.later hb
        replace Og := Lib.hid (Og.out.below hb)
        replace Xg := Xg.later hb
        clear hb
        obtain ⟨cxx0, cxx1, cxx2, cxx3, cxx4, cxx5, cxx6⟩ := (Xx).cells
        go_wp2_with fail
        refine (markSum_at w9 _ _ U2 z0 (1) Ox.out LN0.out (by omega) (by omega)).mono ?_
        rintro e w10 ⟨m0, rfl, hm, ho, mk⟩
        clear cxx0 cxx1 cxx2 cxx3 cxx4 cxx5 cxx6
        replace XA0 := mk.box _ _ _ _ _ _ _ _ _ (by decide) (by decide) (by decide) XA0
        replace XA1 := mk.box _ _ _ _ _ _ _ _ _ (by decide) (by decide) (by decide) XA1
        replace B := Lib.hid (mk.below B.out SOx.out)
        replace O0 := Lib.hid (mk.own (.inl LO0Ox.out) O0.out)
        replace X0 := mk.box _ _ _ _ _ _ _ _ _ (by decide) (by decide) (by decide) X0
        replace Xx := mk.box _ _ _ _ _ _ _ _ _ (by decide) (by decide) (by decide) Xx
        replace Oy := Lib.hid (mk.own (.inr LOxOy.out) Oy.out)
        replace Xy := mk.box _ _ _ _ _ _ _ _ _ (by decide) (by decide) (by decide) Xy
        replace Og := Lib.hid (mk.own (.inr LOxOg.out) Og.out)
        replace Xg := mk.box _ _ _ _ _ _ _ _ _ (by decide) (by decide) (by decide) Xg
        replace Ox := Lib.hid ho
        have HMm0 := Lib.hid hm
        clear hm ho mk
        obtain ⟨cxy0, cxy1, cxy2, cxy3, cxy4, cxy5, cxy6⟩ := (Xy).cells
        have tb := LN0.out.tot
        go_wp2_with fail
        refine (markSum_at w10 _ _ U3 z1 (1 + (totS z0 : Nat)) Oy.out LN1.out (by omega) (by omega)).mono ?_
        rintro e w11 ⟨mm, rfl, hm, ho, mk⟩
        clear cxy0 cxy1 cxy2 cxy3 cxy4 cxy5 cxy6
        replace XA0 := mk.box _ _ _ _ _ _ _ _ _ (by decide) (by decide) (by decide) XA0
        replace XA1 := mk.box _ _ _ _ _ _ _ _ _ (by decide) (by decide) (by decide) XA1
        replace B := Lib.hid (mk.below B.out SOy.out)
        replace O0 := Lib.hid (mk.own (.inl LO0Oy.out) O0.out)
        replace X0 := mk.box _ _ _ _ _ _ _ _ _ (by decide) (by decide) (by decide) X0
        replace Ox := Lib.hid (mk.own (.inl LOxOy.out) Ox.out)
        replace Xx := mk.box _ _ _ _ _ _ _ _ _ (by decide) (by decide) (by decide) Xx
        replace Xy := mk.box _ _ _ _ _ _ _ _ _ (by decide) (by decide) (by decide) Xy
        replace Og := Lib.hid (mk.own (.inr LOyOg.out) Og.out)
        replace Xg := mk.box _ _ _ _ _ _ _ _ _ (by decide) (by decide) (by decide) Xg
        replace Oy := Lib.hid ho
        have HMmm := Lib.hid hm
        clear hm ho mk
        obtain ⟨cxg0, cxg1, cxg2, cxg3, cxg4, cxg5, cxg6⟩ := (Xg).cells
        obtain ⟨cx00, cx01, cx02, cx03, cx04, cx05, cx06⟩ := (X0).cells
        go_wp2_with fail
        refine (eqSum_at w11 Vg Vs r Og.out.rd O0.out.rd LNr.out).mono ?_
        rintro e w12 ⟨rfl, hb⟩
        clear cxg0 cxg1 cxg2 cxg3 cxg4 cxg5 cxg6 cx00 cx01 cx02 cx03 cx04 cx05 cx06
        replace XA0 := XA0.later hb
        replace XA1 := XA1.later hb
        replace B := Lib.hid (B.out.trans (hb.mono B.out.size))
        replace O0 := Lib.hid (O0.out.below hb)
        replace X0 := X0.later hb
        replace Ox := Lib.hid (Ox.out.below hb)
        replace Xx := Xx.later hb
        replace Oy := Lib.hid (Oy.out.below hb)
        replace Xy := Xy.later hb
        replace Og := Lib.hid (Og.out.below hb)
        replace Xg := Xg.later hb
        clear hb
        obtain ⟨cxg0, cxg1, cxg2, cxg3, cxg4, cxg5, cxg6⟩ := (Xg).cells
        go_wp2_with fail
        refine (markSum_at w12 _ _ Vg r (1) Og.out LNr.out (by omega) (by omega)).mono ?_
        rintro e w13 ⟨m1, rfl, hm, ho, mk⟩
        clear cxg0 cxg1 cxg2 cxg3 cxg4 cxg5 cxg6
        replace XA0 := mk.box _ _ _ _ _ _ _ _ _ (by decide) (by decide) (by decide) XA0
        replace XA1 := mk.box _ _ _ _ _ _ _ _ _ (by decide) (by decide) (by decide) XA1
        replace B := Lib.hid (mk.below B.out SOg.out)
        replace O0 := Lib.hid (mk.own (.inl LO0Og.out) O0.out)
        replace X0 := mk.box _ _ _ _ _ _ _ _ _ (by decide) (by decide) (by decide) X0
        replace Ox := Lib.hid (mk.own (.inl LOxOg.out) Ox.out)
        replace Xx := mk.box _ _ _ _ _ _ _ _ _ (by decide) (by decide) (by decide) Xx
        replace Oy := Lib.hid (mk.own (.inl LOyOg.out) Oy.out)
        replace Xy := mk.box _ _ _ _ _ _ _ _ _ (by decide) (by decide) (by decide) Xy
        replace Xg := mk.box _ _ _ _ _ _ _ _ _ (by decide) (by decide) (by decide) Xg
        replace Og := Lib.hid ho
        have HMm1 := Lib.hid hm
        clear hm ho mk
        obtain ⟨cxg0, cxg1, cxg2, cxg3, cxg4, cxg5, cxg6⟩ := (Xg).cells
        go_wp2_with fail
        refine (heldSum_at w13 Vg r m1 (1) HMm1.out Og.out.rd LNr.out (by omega) (by omega)).mono ?_
        rintro e w14 ⟨rfl, hb⟩
        clear cxg0 cxg1 cxg2 cxg3 cxg4 cxg5 cxg6
        replace XA0 := XA0.later hb
        replace XA1 := XA1.later hb
        replace B := Lib.hid (B.out.trans (hb.mono B.out.size))
        replace O0 := Lib.hid (O0.out.below hb)
        replace X0 := X0.later hb
        replace Ox := Lib.hid (Ox.out.below hb)
        replace Xx := Xx.later hb
        replace Oy := Lib.hid (Oy.out.below hb)
        replace Xy := Xy.later hb
        replace Og := Lib.hid (Og.out.below hb)
        replace Xg := Xg.later hb
        clear hb
        go_upto_region 31 with fail
        go_cut [15, 16] (fun sp sb wx => MadeS w14 r ok sp sb wx)
        case first =>
          have A0_ := Lib.hid (A0.out.below B.out (Nat.le_refl _))
          have A1_ := Lib.hid (A1.out.below B.out (Nat.le_refl _))
          have D0 := Lib.hid ((Below.refl w14.heap.size w14).drew)
          have E0 := Lib.hid (D0.out.alloc D0.out.size (.cells #[.slice none 0 0, .slice none 0 0, .slice none 0 0, .int .i64 0, .int .i64 0, .slice none 0 0, .int .i64 0] 39))
          have E0n := Lib.hid (((Below.refl w14.heap.size w14).alloc (Nat.le_refl _) (.cells #[.slice none 0 0, .slice none 0 0, .slice none 0 0, .int .i64 0, .int .i64 0, .slice none 0 0, .int .i64 0] 39)).drew)
          have XE0 : Hid (Box7 (w14.drew.alloc (.cells #[.slice none 0 0, .slice none 0 0, .slice none 0 0, .int .i64 0, .int .i64 0, .slice none 0 0, .int .i64 0] 39)) w14.heap.size 39 (.slice none 0 0) (.slice none 0 0) (.slice none 0 0) (.int .i64 0) (.int .i64 0) (.slice none 0 0) (.int .i64 0)) := Lib.hid (Box7.new w14.drew _ _ _ _ _ _ _ _)
          have XE0n : Hid (Box7 (w14.alloc (.cells #[.slice none 0 0, .slice none 0 0, .slice none 0 0, .int .i64 0, .int .i64 0, .slice none 0 0, .int .i64 0] 39)).drew w14.heap.size 39 (.slice none 0 0) (.slice none 0 0) (.slice none 0 0) (.int .i64 0) (.int .i64 0) (.slice none 0 0) (.int .i64 0)) := Lib.hid (Box7.drew (Box7.new w14 _ _ _ _ _ _ _ _))
          have l0 := XA0.lt
          have l1 := XA1.lt
          have HS : Hid (∀ w', Below w14.heap.size w14 w' → (w'.cell? ⟨w.heap.size, 0, none⟩ = some (.slice V0.xr V0.nr V0.cr) ∧ w'.cell? ⟨w.heap.size, 1, none⟩ = some (.slice V0.xf V0.nf V0.cf) ∧ w'.cell? ⟨w.heap.size, 2, none⟩ = some (.slice V0.xt V0.nt V0.ct) ∧ w'.cell? ⟨w.heap.size, 3, none⟩ = some (.int .i64 z0.lo) ∧ w'.cell? ⟨w.heap.size, 4, none⟩ = some (.int .i64 z0.al) ∧ w'.cell? ⟨w.heap.size, 5, none⟩ = some (.slice V0.xk V0.nk V0.ck) ∧ w'.cell? ⟨w.heap.size, 6, none⟩ = some (.int .i64 z0.ka)) ∧ (w'.cell? ⟨w.heap.size + 1, 0, none⟩ = some (.slice V1.xr V1.nr V1.cr) ∧ w'.cell? ⟨w.heap.size + 1, 1, none⟩ = some (.slice V1.xf V1.nf V1.cf) ∧ w'.cell? ⟨w.heap.size + 1, 2, none⟩ = some (.slice V1.xt V1.nt V1.ct) ∧ w'.cell? ⟨w.heap.size + 1, 3, none⟩ = some (.int .i64 z1.lo) ∧ w'.cell? ⟨w.heap.size + 1, 4, none⟩ = some (.int .i64 z1.al) ∧ w'.cell? ⟨w.heap.size + 1, 5, none⟩ = some (.slice V1.xk V1.nk V1.ck) ∧ w'.cell? ⟨w.heap.size + 1, 6, none⟩ = some (.int .i64 z1.ka))) := fun w' h => ⟨(XA0.below h l0).cells, (XA1.below h l1).cells⟩
          obtain ⟨zxa00, zxa01, zxa02, zxa03, zxa04, zxa05, zxa06⟩ := (XA0.drew).cells
          obtain ⟨zxa10, zxa11, zxa12, zxa13, zxa14, zxa15, zxa16⟩ := (XA1.drew).cells
          clear XA0 XA1 B O0 X0 Ox Xx Oy Xy Og Xg
          go_region_held3 (fun w' => (w'.cell? ⟨w.heap.size, 0, none⟩ = some (.slice V0.xr V0.nr V0.cr) ∧ w'.cell? ⟨w.heap.size, 1, none⟩ = some (.slice V0.xf V0.nf V0.cf) ∧ w'.cell? ⟨w.heap.size, 2, none⟩ = some (.slice V0.xt V0.nt V0.ct) ∧ w'.cell? ⟨w.heap.size, 3, none⟩ = some (.int .i64 z0.lo) ∧ w'.cell? ⟨w.heap.size, 4, none⟩ = some (.int .i64 z0.al) ∧ w'.cell? ⟨w.heap.size, 5, none⟩ = some (.slice V0.xk V0.nk V0.ck) ∧ w'.cell? ⟨w.heap.size, 6, none⟩ = some (.int .i64 z0.ka)) ∧ (w'.cell? ⟨w.heap.size + 1, 0, none⟩ = some (.slice V1.xr V1.nr V1.cr) ∧ w'.cell? ⟨w.heap.size + 1, 1, none⟩ = some (.slice V1.xf V1.nf V1.cf) ∧ w'.cell? ⟨w.heap.size + 1, 2, none⟩ = some (.slice V1.xt V1.nt V1.ct) ∧ w'.cell? ⟨w.heap.size + 1, 3, none⟩ = some (.int .i64 z1.lo) ∧ w'.cell? ⟨w.heap.size + 1, 4, none⟩ = some (.int .i64 z1.al) ∧ w'.cell? ⟨w.heap.size + 1, 5, none⟩ = some (.slice V1.xk V1.nk V1.ck) ∧ w'.cell? ⟨w.heap.size + 1, 6, none⟩ = some (.int .i64 z1.ka))) (first | with_reducible exact HS.out _ D0.out | with_reducible exact HS.out _ E0n.out | with_reducible exact HS.out _ Dan.out | with_reducible exact HS.out _ Ean.out | with_reducible exact HS.out _ Dbn.out | with_reducible exact HS.out _ Ebn.out | with_reducible exact HS.out _ Dcn.out | with_reducible exact HS.out _ (Dcn.out.alloc Dcn.out.size _) | exact HS.out _ (below_set7 Dcn.out (by first | exact Nat.le_refl _ | exact Dan.out.size | exact Dbn.out.size) (.slice U.xr U.nr U.cr) (.slice U.xf U.nf U.cf) (.slice U.xt U.nt U.ct) (.int .i64 r.lo) (.int .i64 r.al) (.slice U.xk U.nk U.ck) (.int .i64 r.ka)))
           (first
  | (go_at_call_of 69 V0; refine (toSum_at _ V0 z0 ?_ LN0.out).mono ?_; (first | (with_reducible exact A0_.out.below E0.out (Nat.le_refl _)) | (with_reducible exact A0_.out.below D0.out (Nat.le_refl _)) | (with_reducible exact A0_.out.below E0n.out (Nat.le_refl _))); rintro e wa ⟨Ua, rfl, ho, hb⟩; (first | (with_reducible have Da := Lib.hid (E0.out.trans (hb.mono E0.out.size))) | (with_reducible have Da := Lib.hid (D0.out.trans (hb.mono D0.out.size))) | (with_reducible have Da := Lib.hid (E0n.out.trans (hb.mono E0n.out.size)))); have Ea := Lib.hid (Da.out.alloc Da.out.size (.cells #[.slice none 0 0, .slice none 0 0, .slice none 0 0, .int .i64 0, .int .i64 0, .slice none 0 0, .int .i64 0] 39)); have Dan := Da; have Ean := Ea; have XEa := Lib.hid (Box7.new wa 39 (.slice none 0 0) (.slice none 0 0) (.slice none 0 0) (.int .i64 0) (.int .i64 0) (.slice none 0 0) (.int .i64 0)); (first | (with_reducible have XP := Lib.hid (XE0.out.later hb)) | (with_reducible have XP := Lib.hid (XE0n.out.later hb)) | (with_reducible have XP' := Lib.hid (XP.out.later hb)) | skip); have Oa := Lib.hid ho; have OEa := Lib.hid (ho.alloc (.cells #[.slice none 0 0, .slice none 0 0, .slice none 0 0, .int .i64 0, .int .i64 0, .slice none 0 0, .int .i64 0] 39)); obtain ⟨_, k0, k1, k2, k3, k4, k5, k6⟩ := HS.out _ Da.out; clear ho hb)
  | (go_at_call_of 69 V1; refine (toSum_at _ V1 z1 ?_ LN1.out).mono ?_; (first | (with_reducible exact A1_.out.below Ea.out (Nat.le_refl _)) | (with_reducible exact A1_.out.below Da.out (Nat.le_refl _)) | (with_reducible exact A1_.out.below Ean.out (Nat.le_refl _))); rintro e wb ⟨Ub, rfl, ho, hb⟩; (first | (with_reducible have Db := Lib.hid (Ea.out.trans (hb.mono Ea.out.size))) | (with_reducible have Db := Lib.hid (Da.out.trans (hb.mono Da.out.size))) | (with_reducible have Db := Lib.hid (Ean.out.trans (hb.mono Ean.out.size)))); have Eb := Lib.hid (Db.out.alloc Db.out.size (.cells #[.slice none 0 0, .slice none 0 0, .slice none 0 0, .int .i64 0, .int .i64 0, .slice none 0 0, .int .i64 0] 39)); have Dbn := Db; have Ebn := Eb; have XEb := Lib.hid (Box7.new wb 39 (.slice none 0 0) (.slice none 0 0) (.slice none 0 0) (.int .i64 0) (.int .i64 0) (.slice none 0 0) (.int .i64 0)); (first | (with_reducible have XP := Lib.hid (XEa.out.later hb)) | (with_reducible have XP := Lib.hid (XE0n.out.later hb)) | (with_reducible have XP' := Lib.hid (XP.out.later hb)) | skip); have Ob := Lib.hid ho; have OEb := Lib.hid (ho.alloc (.cells #[.slice none 0 0, .slice none 0 0, .slice none 0 0, .int .i64 0, .int .i64 0, .slice none 0 0, .int .i64 0] 39)); (first | (with_reducible have Oa' := Lib.hid (Oa.out.below hb)) | (with_reducible have Oa' := Lib.hid (OEa.out.below hb))); have OEa' := Lib.hid (Oa'.out.alloc (.cells #[.slice none 0 0, .slice none 0 0, .slice none 0 0, .int .i64 0, .int .i64 0, .slice none 0 0, .int .i64 0] 39)); clear ho hb)
  | (go_at_call 66; (first | (with_reducible refine (KI.out _ Ua Ub Oa'.out.rd Ob.out.rd).mono ?_) | (with_reducible refine (KI.out _ Ua Ub OEa'.out.rd OEb.out.rd).mono ?_)); rintro e wd ⟨U, rfl, ho, hb⟩; (first | (with_reducible have Dc := Lib.hid (Eb.out.trans (hb.mono Eb.out.size))) | (with_reducible have Dc := Lib.hid (Db.out.trans (hb.mono Db.out.size)))); (first | (with_reducible have XP2 := Lib.hid (XEb.out.later hb)) | (with_reducible have XP2 := Lib.hid (XP'.out.later hb)) | (with_reducible have XP2 := Lib.hid (XP.out.later hb)) | skip); (try (obtain ⟨p0, p1, p2, p3, p4, p5, p6⟩ := XP2.out.cells; have fp := XP2.out.free)); have Oc := Lib.hid ho; have Dcn := Dc; clear ho hb))
          all_goals (go_wp2_with fail; go_meet)
          all_goals first
            | (with_reducible exact MadeS.last Dc.out Db.out.size Oc.out)
            | (with_reducible exact MadeS.last Dc.out Eb.out.size Oc.out)
            | exact MadeS.stored Dc.out Db.out.size Oc.out (Nat.le_refl _) XP2.out
            | exact MadeS.stored Dc.out Db.out.size Oc.out Da.out.size XP2.out
            | exact MadeS.stored Dc.out Db.out.size Oc.out Db.out.size XP2.out
            | exact MadeS.stored Dc.out Eb.out.size Oc.out Db.out.size XP2.out
        case rest =>
          obtain ⟨Ph, Vh, rfl, rfl, G⟩ := hcut
          obtain ⟨w15, hwc⟩ : ∃ W, W = wc := ⟨_, rfl⟩
          subst hwc
          have hb := G.below
          have LO0Oh := Lib.hid O0.out.top
          have LOxOh := Lib.hid Ox.out.top
          have LOyOh := Lib.hid Oy.out.top
          have LOgOh := Lib.hid Og.out.top
          have SOh := Lib.hid B.out.size
          replace XA0 := XA0.later hb
          replace XA1 := XA1.later hb
          replace B := Lib.hid (B.out.trans (hb.mono B.out.size))
          replace O0 := Lib.hid (O0.out.below hb)
          replace X0 := X0.later hb
          replace Ox := Lib.hid (Ox.out.below hb)
          replace Xx := Xx.later hb
          replace Oy := Lib.hid (Oy.out.below hb)
          replace Xy := Xy.later hb
          replace Og := Lib.hid (Og.out.below hb)
          replace Xg := Xg.later hb
          clear hb
          have Oh := Lib.hid G.own
          have Xh := G.box.box
          clear G
          obtain ⟨cxh0, cxh1, cxh2, cxh3, cxh4, cxh5, cxh6⟩ := (Xh).cells
          obtain ⟨cx00, cx01, cx02, cx03, cx04, cx05, cx06⟩ := (X0).cells
          go_wp2_with fail
          refine (eqSum_at w15 Vh Vs r Oh.out.rd O0.out.rd LNr.out).mono ?_
          rintro e w16 ⟨rfl, hb⟩
          clear cxh0 cxh1 cxh2 cxh3 cxh4 cxh5 cxh6 cx00 cx01 cx02 cx03 cx04 cx05 cx06
          replace XA0 := XA0.later hb
          replace XA1 := XA1.later hb
          replace B := Lib.hid (B.out.trans (hb.mono B.out.size))
          replace O0 := Lib.hid (O0.out.below hb)
          replace X0 := X0.later hb
          replace Ox := Lib.hid (Ox.out.below hb)
          replace Xx := Xx.later hb
          replace Oy := Lib.hid (Oy.out.below hb)
          replace Xy := Xy.later hb
          replace Og := Lib.hid (Og.out.below hb)
          replace Xg := Xg.later hb
          replace Oh := Lib.hid (Oh.out.below hb)
          replace Xh := Xh.later hb
          clear hb
          obtain ⟨cxg0, cxg1, cxg2, cxg3, cxg4, cxg5, cxg6⟩ := (Xg).cells
          go_wp2_with fail
          refine (heldSum_at w16 Vg r m1 (1) HMm1.out Og.out.rd LNr.out (by omega) (by omega)).mono ?_
          rintro e w17 ⟨rfl, hb⟩
          clear cxg0 cxg1 cxg2 cxg3 cxg4 cxg5 cxg6
          replace XA0 := XA0.later hb
          replace XA1 := XA1.later hb
          replace B := Lib.hid (B.out.trans (hb.mono B.out.size))
          replace O0 := Lib.hid (O0.out.below hb)
          replace X0 := X0.later hb
          replace Ox := Lib.hid (Ox.out.below hb)
          replace Xx := Xx.later hb
          replace Oy := Lib.hid (Oy.out.below hb)
          replace Xy := Xy.later hb
          replace Og := Lib.hid (Og.out.below hb)
          replace Xg := Xg.later hb
          replace Oh := Lib.hid (Oh.out.below hb)
          replace Xh := Xh.later hb
          clear hb
          go_wp2
          go_ret
          exact ⟨rfl, B.out⟩

-- the row's step
set_option maxRecDepth 100000 in
theorem lifted (os : Os) (started : os.Started) (H : Type) (enc : TypeId × Value → H) :
    ReturnsInHanded {} Tryz.checked os 27 .any (Rows.fnExactSumJoinSpec.pre6 enc Tryz.prog Tryz.f27 Rows.fnExactSumJoinRow.domain false) (Rows.fnExactSumJoinSpec.post enc Tryz.prog Tryz.f27 false true false false) := by
  refine returnsInHanded_of_change (C := Tryz.checked) own started (by kernel_rfl) Tryz.func27
    (ChangeSpec.witness6 (enc := enc) (C := Tryz.checked) false ⟨#[], #[.agg #[.slice none 0 0, .slice none 0 0, .slice none 0 0, .int .i64 0, .int .i64 0, .slice none 0 0, .int .i64 0], .agg #[.slice none 0 0, .slice none 0 0, .slice none 0 0, .int .i64 0, .int .i64 0, .slice none 0 0, .int .i64 0]], []⟩ 8 (by kernel_rfl) (by kernel_rfl) (by kernel_rfl) (by kernel_rfl)) ?_
  intro W base args ds gs before hval0 hW hcnd _
  have hval : ∀ (j : Nat) t v, Tryz.f27.params[j]? = some t → args[j]? = some v → Value.okWide Tryz.prog W .any base t v := hval0
  have hW' := hW
  obtain ⟨p, q, hA0, hV, rfl, hfz, hnd⟩ := hW
  have hA : DataW.TrodAll enc Tryz.prog W 0 (fun _ => true) true Tryz.f27.params.toList args.toList ds p := hA0
  rw [Tryz.params27 ] at hA hval
  obtain ⟨v0, vs0, d0, ds0, p0, q0, hargs, rfl, rfl, h0, r0⟩ := trodAll_cons hA
  obtain ⟨v1, vs1, d1, ds1, p1, q1, rfl, rfl, rfl, h1, r1⟩ := trodAll_cons r0
  obtain ⟨rfl, rfl, rfl⟩ := trodAll_nil r1
  obtain rfl : args = #[v0, v1] := by cases args; simp_all
  obtain ⟨rfl, rfl⟩ := trodVars_none hV
  have k0 := h0
  have lt0 : ∀ x ∈ p0, x.block < W.heap.size := by obtain ⟨m, hm⟩ := k0; exact DataW.trod_lt m _ _ _ hm
  obtain ⟨U0, z0, rfl, w0⟩ := open_sum (hval 0 97 v0 rfl rfl) h0
  have k1 := h1
  have lt1 : ∀ x ∈ p1, x.block < W.heap.size := by obtain ⟨m, hm⟩ := k1; exact DataW.trod_lt m _ _ _ hm
  obtain ⟨U1, z1, rfl, w1⟩ := open_sum (hval 1 97 v1 rfl rfl) h1
  clear hA0 hval0
  refine (walk U0 z0 U1 z1 W w0 w1).mono fun e W' ⟨he, bel⟩ => ?_
  subst he
  exact ⟨_, rfl, _, _, _, [], _, [], hW', trodAll_mk1 (shut_bool Tryz.underlying4 _), (trodAll_cons_mk (Below.trod laidOut (by kernel_rfl) (of_decide_eq_true (by kernel_rfl)) k0 bel lt0) (trodAll_cons_mk (Below.trod laidOut (by kernel_rfl) (of_decide_eq_true (by kernel_rfl)) k1 bel lt1) trodAll_mk0)), rfl, bel.frame _, fun h => by cases h⟩

theorem over : Rows.fnExactSumJoinRow.holds Tryz.pinned (OpenSpec.ofChange Rows.fnExactSumJoinSpec) :=
  OpenClaim.holds_of_wide 27 Tryz.f27 rfl rfl rfl rfl rfl rfl rfl ⟨rfl, rfl, rfl, rfl, rfl⟩ rfl rfl rfl rfl rfl (by kernel_rfl) Tryz.func27 (by show joinedFacts Tryz.prog _ _ _ _ = true; unfold joinedFacts; rw [mayE, liftF, makeC]; kernel_rfl)
    (of_decide_eq_true (by kernel_rfl)) (by unfold Func.isWrapper; first | (rw [if_pos (by decide +kernel)]; kernel_rfl) | (rw [if_neg (by decide +kernel)]; exact ⟨rfl, rfl⟩))
    (fun os started H enc _ => lifted os started H enc)

theorem proved : Rows.FnExactSumJoinSaid := over
#print axioms proved
end Go.Proofs.YtnoilafoeaknjaaGreat.fnExactSumJoin
