/-
  Several texts in one: Both, Both2, FMath, Both3, Both4.
-/
import Derived.Test.YtnoilafoeaknjaaGreatFa
import Derived.RangeFuncBox
import Derived.RangeFuncNested
import Derived.RangeFuncBound
import Derived.RangeFuncCalls
import Derived.RangeFuncLeaves
import Derived.Shelf.Abstract
import Derived.Shelf.RegionOpen
import Derived.OwnWalkIn
import Derived.TacticsInMore
import Derived.LoopNIn
import Derived.LoopIn
import Derived.Maps.AppendAt
import Derived.Deep.RegionWith
set_option linter.unusedVariables false
/-
  The marks of both, ranged over: marksOfBoth and its closure.
-/
namespace Go.Proofs.YtnoilafoeaknjaaGreat
open Go.RowKit Go.Shelf

attribute [local go_sem] Oper.semAt_some

/-- The value v reads as zs, in a block below n₀. -/
def InB (n₀ : Nat) (w : World) (v : Value) (zs : List Int) : Prop :=
  (v = .slice none 0 0 ∧ zs = []) ∨
  ∃ b o c, v = .slice (some ⟨b, o, none⟩) zs.length c ∧ zs.length ≤ c ∧ c ≤ maxLen ∧ b < n₀ ∧ ∀ i, i < zs.length → w.cell? ⟨b, o + i, none⟩ = some (.int .i64 (zs.getD i 0))
theorem InB.below {n₀ : Nat} {w w' : World} {v : Value} {zs : List Int} (h : InB n₀ w v zs) (hb : Below n₀ w w') : InB n₀ w' v zs := by
  rcases h with h | ⟨b, o, c, e, h1, h2, h3, h4⟩
  · exact .inl h
  · exact .inr ⟨b, o, c, e, h1, h2, h3, fun i hi => (hb.cell (p := ⟨b, o + i, none⟩) h3).trans (h4 i hi)⟩
theorem Ints.inB {w : World} {v : Value} {zs : List Int} (h : Ints w v zs) : InB w.heap.size w v zs := h

/-- The first mark of a list, 64 of none. -/
def firstV (zs : List Int) : Int := match zs with | [] => 64 | x :: _ => x
/-- Without the mark m, if it is the first. -/
def behindV (zs : List Int) (m : Int) : List Int := if firstV zs = m then zs.tail else zs

theorem firstMark_at (n₀ : Nat) (w : World) (v : Value) (zs : List Int) (h : InB n₀ w v zs) :
    Calls Tryz.prog 193 #[v] w fun e w' => e = .returned (.int .i64 (firstV zs)) ∧ w = w' := by
  rcases h with ⟨rfl, rfl⟩ | ⟨b, o, c, rfl, h1, h2, _, h4⟩
  · go_enter Tryz.func193, Tryz.ntmps193
    go_wp2
    go_ret
    exact ⟨rfl, rfl⟩
  · cases zs with
    | nil =>
      go_enter Tryz.func193, Tryz.ntmps193
      go_wp2
      go_ret
      exact ⟨rfl, rfl⟩
    | cons x zs =>
      have h5 : w.cell? ⟨b, o, none⟩ = some (.int .i64 x) := h4 0 (by simp)
      obtain ⟨n, hn⟩ : ∃ n, n = (x :: zs).length := ⟨_, rfl⟩
      have hp : 0 < n := by rw [hn]; simp
      rw [← hn]
      have n0 : ((n : Int) == 0) = false := by simp; omega
      have n1 : (0 : Int) < (n : Int) := by omega
      clear h1 h2 h4 hn
      go_enter Tryz.func193, Tryz.ntmps193
      go_wp2
      go_ret
      exact ⟨rfl, rfl⟩

theorem behindMark_at (n₀ : Nat) (w : World) (v : Value) (zs : List Int) (m : Int) (h : InB n₀ w v zs) (hm : zs = [] → m ≠ 64) :
    Calls Tryz.prog 194 #[v, .int .i64 m] w fun e w' => ∃ x c, e = .returned (.slice x (behindV zs m).length c) ∧ InB n₀ w (.slice x (behindV zs m).length c) (behindV zs m) ∧ w = w' := by
  have KF : Hid (Calls Tryz.prog 193 #[v] w fun e w' => e = .returned (.int .i64 (firstV zs)) ∧ w = w') := firstMark_at n₀ w v zs h
  by_cases hf : firstV zs = m
  · have hne : zs ≠ [] := fun e => hm e (by rw [← hf, e]; rfl)
    rcases h with ⟨_, e⟩ | ⟨b, o, c, rfl, h1, h2, h3, h4⟩
    · exact absurd e hne
    have hlen : 0 < zs.length := List.length_pos_iff.2 hne
    have tl : ∀ i, i < zs.tail.length → zs.tail.getD i 0 = zs.getD (i + 1) 0 := fun i hi => by simp
    have lt : zs.tail.length = zs.length - 1 := by simp
    have IN : Hid (∀ o' c', zs.tail.length ≤ c' → c' ≤ maxLen → (o' = o + 1 ∨ zs.tail.length = 0) → InB n₀ w (.slice (some ⟨b, o', none⟩) zs.tail.length c') zs.tail) := fun o' c' q1 q2 q3 => .inr ⟨b, o', c', rfl, q1, q2, h3, fun i hi => by
      rcases q3 with q3 | q3
      · rw [tl i hi, ← h4 (i + 1) (by omega), q3, show o + 1 + i = o + (i + 1) by omega]
      · omega⟩
    have eb : behindV zs m = zs.tail := if_pos hf
    rw [eb]
    rw [hf] at KF
    obtain ⟨n, hn⟩ : ∃ n, n = zs.length := ⟨_, rfl⟩
    obtain ⟨k, hk⟩ : ∃ k, k = zs.tail.length := ⟨_, rfl⟩
    rw [← hn] at KF hlen lt h1
    rw [← hn, ← hk]
    rw [← hk] at IN lt
    have n1 : (1 : Int) ≤ (n : Int) := by omega
    have c1 : (n : Int) ≤ (c : Int) := by omega
    have ek : k = n - 1 := lt
    subst ek
    clear hn hk h4 tl lt hf hne hm eb
    by_cases hc : c = 1
    · subst hc
      obtain rfl : n = 1 := by omega
      go_enter Tryz.func194, Tryz.ntmps194
      go_wp2_with fail
      refine KF.out.mono ?_
      rintro e w1 ⟨rfl, rfl⟩
      go_wp2
      go_ret
      exact ⟨_, _, rfl, IN.out _ _ (by omega) (by omega) (.inr (by simp)), rfl⟩
    · go_enter Tryz.func194, Tryz.ntmps194
      go_wp2_with fail
      refine KF.out.mono ?_
      rintro e w1 ⟨rfl, rfl⟩
      go_wp2
      go_ret
      exact ⟨_, _, rfl, IN.out _ _ (by omega) (by omega) (.inl rfl), rfl⟩
  · have eb : behindV zs m = zs := if_neg hf
    have hf' : (firstV zs == m) = false := by simpa using hf
    have hd : decide (firstV zs = m) = false := by simpa using hf
    rw [eb]
    have I := Lib.hid h
    obtain ⟨x, c, hx⟩ : ∃ x c, v = .slice x zs.length c := by
      rcases h with ⟨rfl, rfl⟩ | ⟨b, o, c, rfl, _⟩
      · exact ⟨_, _, rfl⟩
      · exact ⟨_, _, rfl⟩
    obtain ⟨n, hn⟩ : ∃ n, n = zs.length := ⟨_, rfl⟩
    rw [← hn] at hx ⊢
    subst hx
    generalize firstV zs = F at *
    clear h hn eb hf hm
    go_enter Tryz.func194, Tryz.ntmps194
    go_wp2_with fail
    refine KF.out.mono ?_
    rintro e w1 ⟨rfl, rfl⟩
    go_wp2
    go_ret
    exact ⟨_, _, rfl, I.out, rfl⟩

/-- The marks of both, the least first, each once, at most so many. -/
def bothL : Nat → List Int → List Int → List Int
  | 0, _, _ => []
  | k + 1, zs, ys => if zs = [] ∧ ys = [] then [] else min (firstV zs) (firstV ys) :: bothL k (behindV zs (min (firstV zs) (firstV ys))) (behindV ys (min (firstV zs) (firstV ys)))
def bothV (zs ys : List Int) : List Int := bothL (zs.length + ys.length) zs ys
theorem bothL_len : ∀ k zs ys, (bothL k zs ys).length ≤ k
  | 0, _, _ => by simp [bothL]
  | k + 1, zs, ys => by
    unfold bothL
    split
    · simp
    · simp only [List.length_cons]; have := bothL_len k (behindV zs (min (firstV zs) (firstV ys))) (behindV ys (min (firstV zs) (firstV ys))); omega
theorem behindV_len (zs : List Int) (m : Int) : (behindV zs m).length ≤ zs.length := by unfold behindV; split <;> simp
theorem firstV_ne {zs : List Int} (h : ∀ z ∈ zs, z < 64) (hn : zs ≠ []) : firstV zs < 64 := by
  cases zs with
  | nil => exact absurd rfl hn
  | cons x xs => exact h x (by simp)
theorem both_less {zs ys : List Int} (hz : ∀ z ∈ zs, z < 64) (hy : ∀ z ∈ ys, z < 64) (h : ¬ (zs = [] ∧ ys = [])) :
    min (firstV zs) (firstV ys) < 64 ∧ (behindV zs (min (firstV zs) (firstV ys))).length + (behindV ys (min (firstV zs) (firstV ys))).length < zs.length + ys.length := by
  have l1 := behindV_len zs (min (firstV zs) (firstV ys))
  have l2 := behindV_len ys (min (firstV zs) (firstV ys))
  have less : ∀ us : List Int, us ≠ [] → firstV us = min (firstV zs) (firstV ys) → (behindV us (min (firstV zs) (firstV ys))).length < us.length := fun us hu e => by
    unfold behindV
    rw [if_pos e]
    cases us with
    | nil => exact absurd rfl hu
    | cons x xs => simp
  by_cases h1 : zs = []
  · have h2 : ys ≠ [] := fun e => h ⟨h1, e⟩
    have f2 := firstV_ne hy h2
    have f1 : firstV zs = 64 := by rw [h1]; rfl
    have := less ys h2 (by omega)
    exact ⟨by omega, by omega⟩
  · have f1 := firstV_ne hz h1
    by_cases h3 : firstV zs ≤ firstV ys
    · have := less zs h1 (by omega)
      exact ⟨by omega, by omega⟩
    · have h2 : ys ≠ [] := fun e => h3 (by rw [e]; show firstV zs ≤ 64; omega)
      have := less ys h2 (by omega)
      exact ⟨by omega, by omega⟩
theorem behindV_mem {zs : List Int} {m z : Int} (h : z ∈ behindV zs m) : z ∈ zs := by
  unfold behindV at h
  split at h
  · exact List.mem_of_mem_tail h
  · exact h

def sliceN : Value → Nat
  | .slice _ n _ => n
  | _ => 0

set_option maxRecDepth 100000 in
set_option maxHeartbeats 4000000 in
theorem both1_in (n : Nat) (hn : 1 ≤ n) (l Ba Bb n₀ : Nat) (u v : Value) (zs ys : List Int) (hz : ∀ z ∈ zs, z < 64) (hy : ∀ z ∈ ys, z < 64) (J Jx : List Int → World → Prop)
    (hY : ∀ pre x W, J pre W → pre.length < zs.length + ys.length → YieldAt Fence.wide (n - 1) Tryz.prog l #[.int .i64 x] W fun e W' =>
      (e = .returned (.bool true) ∧ J (pre ++ [x]) W' ∧ Below n₀ W W') ∨ (e = .returned (.bool false) ∧ Jx (pre ++ [x]) W'))
    (hJd : ∀ s W1, J s W1 → J s W1.drew) (W : World) (hA : W.cell? ⟨Ba, 0, none⟩ = some u) (hB : W.cell? ⟨Bb, 0, none⟩ = some v) (iA : InB n₀ W u zs) (iB : InB n₀ W v ys) (h0 : J [] W) :
    CallsIn Fence.wide n Tryz.prog 192 #[.func (.yield l) #[] #[], .pointer (some ⟨Ba, 0, none⟩), .pointer (some ⟨Bb, 0, none⟩)] W fun e W' => (∃ v, e = .returned v) ∧
      ((∃ xs, xs = bothV zs ys ∧ J xs W') ∨ (∃ pre, pre <+: bothV zs ys ∧ Jx pre W')) := by
  have form : ∀ {v zs}, InB n₀ W v zs → ∃ x c, v = .slice x zs.length c := fun h => by
    rcases h with ⟨rfl, rfl⟩ | ⟨b, o, c, rfl, _⟩
    · exact ⟨_, _, rfl⟩
    · exact ⟨_, _, rfl⟩
  obtain ⟨xa, ca, rfl⟩ := form iA
  obtain ⟨xb, cb, rfl⟩ := form iB
  obtain ⟨na, hna⟩ : ∃ na, na = zs.length := ⟨_, rfl⟩
  obtain ⟨nb, hnb⟩ : ∃ nb, nb = ys.length := ⟨_, rfl⟩
  rw [← hna] at hA iA
  rw [← hnb] at hB iB
  have NA := Lib.hid hna
  have NB := Lib.hid hnb
  have IA := Lib.hid iA
  have IB := Lib.hid iB
  have HY := Lib.hid hY
  have HZ := Lib.hid hz
  have HYS := Lib.hid hy
  have H0 := Lib.hid h0
  clear form hna hnb iA iB hY hz hy h0
  refine callsIn_of_wp Tryz.func192 rfl trivial ?_ rfl
  simp only [Tryz.ntmps192, List.size_toArray, List.length_cons, List.length_nil, Nat.reduceAdd, Nat.reduceSub, Array.replicate_succ, Array.replicate_zero, List.push_toArray, List.append_toArray, List.nil_append, List.cons_append]
  gi_wp2
  gi_region
  gi_wp2
  gi_loopw [4, 5] (fun p q wr => ∃ (pre xs ys' : List Int) (k : Nat), InB n₀ wr p xs ∧ InB n₀ wr q ys' ∧ (∀ z ∈ xs, z < 64) ∧ (∀ z ∈ ys', z < 64) ∧ pre ++ bothL k xs ys' = bothV zs ys ∧ xs.length + ys'.length ≤ k ∧ pre.length + (xs.length + ys'.length) ≤ zs.length + ys.length ∧ sliceN p = xs.length ∧ sliceN q = ys'.length ∧ J pre wr)
    (fun p q _ => sliceN p + sliceN q)
  case atStart => exact ⟨[], zs, ys, zs.length + ys.length, IA.out, IB.out, HZ.out, HYS.out, rfl, Nat.le_refl _, by simp, NA.out, NB.out, hJd _ _ H0.out⟩
  case round =>
    obtain ⟨pre, xs, ys', k, ia, ib, hx, hy', hb, hk, hpre, sa, sb, hJs⟩ := hrel
    have form : ∀ {v zs}, InB n₀ wr v zs → ∃ x c, v = .slice x zs.length c := fun h => by
      rcases h with ⟨rfl, rfl⟩ | ⟨b, o, c, rfl, _⟩
      · exact ⟨_, _, rfl⟩
      · exact ⟨_, _, rfl⟩
    obtain ⟨ya, da, rfl⟩ := form ia
    obtain ⟨yb, db, rfl⟩ := form ib
    clear form sa sb
    by_cases hE : xs = [] ∧ ys' = []
    · obtain ⟨rfl, rfl⟩ := hE
      have fin : Hid (pre = bothV zs ys) := by
        have e : bothL k [] [] = [] := by
          cases k with
          | zero => rfl
          | succ k => simp [bothL]
        show pre = _
        rw [← hb, e, List.append_nil]
      have HJ := Lib.hid hJs
      clear ia ib hx hy' hb hk hpre hJs
      gi_wp2
      go_end0
      exact ⟨⟨_, rfl⟩, .inl ⟨pre, fin.out, HJ.out⟩⟩
    · have hl := both_less hx hy' hE
      obtain ⟨k', rfl⟩ : ∃ k', k = k' + 1 := by
        cases k with
        | zero => exact absurd ⟨List.eq_nil_of_length_eq_zero (by omega), List.eq_nil_of_length_eq_zero (by omega)⟩ hE
        | succ k => exact ⟨k, rfl⟩
      have hb' : pre ++ [min (firstV xs) (firstV ys')] ++ bothL k' (behindV xs (min (firstV xs) (firstV ys'))) (behindV ys' (min (firstV xs) (firstV ys'))) = bothV zs ys := by
        rw [← hb]
        conv => rhs; unfold bothL
        rw [if_neg hE]
        simp
      have KA := Lib.hid (firstMark_at n₀ wr _ xs ia)
      have KB := Lib.hid (firstMark_at n₀ wr _ ys' ib)
      obtain ⟨M, hM⟩ : ∃ M, M = min (firstV xs) (firstV ys') := ⟨_, rfl⟩
      rw [← hM] at hl hb'
      have HB := Lib.hid hb'
      have LE := Lib.hid hl
      have LT : Hid (pre.length < zs.length + ys.length) := by
        have : 0 < xs.length + ys'.length := by omega
        show pre.length < _
        omega
      have JS := Lib.hid hJs
      have RA : Hid (∀ W3, Below n₀ wr W3 → Calls Tryz.prog 194 #[.slice ya xs.length da, .int .i64 M] W3 fun e w' => ∃ x c, e = .returned (.slice x (behindV xs M).length c) ∧ InB n₀ W3 (.slice x (behindV xs M).length c) (behindV xs M) ∧ W3 = w') := fun W3 h3 =>
        behindMark_at n₀ W3 _ xs M (ia.below h3) (fun _ => by omega)
      have RB : Hid (∀ W3, Below n₀ wr W3 → Calls Tryz.prog 194 #[.slice yb ys'.length db, .int .i64 M] W3 fun e w' => ∃ x c, e = .returned (.slice x (behindV ys' M).length c) ∧ InB n₀ W3 (.slice x (behindV ys' M).length c) (behindV ys' M) ∧ W3 = w') := fun W3 h3 =>
        behindMark_at n₀ W3 _ ys' M (ib.below h3) (fun _ => by omega)
      have MA : Hid (∀ z ∈ behindV xs M, z < 64) := fun z h => hx z (behindV_mem h)
      have MB : Hid (∀ z ∈ behindV ys' M, z < 64) := fun z h => hy' z (behindV_mem h)
      have HPR := Lib.hid hpre
      have HK := Lib.hid hk
      have pos : 0 < xs.length ∨ (xs.length = 0 ∧ 0 < ys'.length) := by omega
      obtain ⟨fn, tmps, assign, body, hy, hR⟩ := HY.out pre M wr hJs LT.out
      obtain ⟨nx, hnx⟩ : ∃ nx, nx = xs.length := ⟨_, rfl⟩
      obtain ⟨ny, hny⟩ : ∃ ny, ny = ys'.length := ⟨_, rfl⟩
      rw [← hnx] at KA RA pos ⊢
      rw [← hny] at KB RB pos ⊢
      have NX := Lib.hid hnx
      have NY := Lib.hid hny
      generalize firstV xs = f1 at *
      generalize firstV ys' = f2 at *
      clear ia ib hx hy' hb hb' hk hpre hJs hl hE hnx hny
      have hmin : (f1 ≤ f2 ∧ M = f1) ∨ (¬ f1 ≤ f2 ∧ M = f2) := by omega
      clear hM
      rcases pos with px | ⟨rfl, py⟩
      · have px' : (0 : Int) < (nx : Int) := by omega
        rcases hmin with ⟨hle, rfl⟩ | ⟨hle, rfl⟩
        · gi_wp2_with (first
            | (refine ⟨trivial, ?_⟩; gi_at_call 193; (with_reducible refine (callsIn_wide.2 KA.out).mono ?_); rintro e w1 ⟨rfl, rfl⟩; clear KA)
            | (refine ⟨trivial, ?_⟩; gi_at_call 193; (with_reducible refine (callsIn_wide.2 KB.out).mono ?_); rintro e w1 ⟨rfl, rfl⟩; clear KB))
          refine hR.mono ?_
          rintro e W3 (⟨rfl, hJ3, hk3⟩ | ⟨rfl, hJx3⟩)
          · have RA3 := Lib.hid (RA.out W3 hk3)
            have RB3 := Lib.hid (RB.out W3 hk3)
            have J3 := Lib.hid hJ3
            clear RA RB hk3 hJ3 hR hy
            gi_wp2_with (first
              | (refine ⟨trivial, ?_⟩; gi_at_call 194; (with_reducible refine (callsIn_wide.2 RA3.out).mono ?_); rintro e w1 ⟨qa, ea, rfl, oa, rfl⟩; clear RA3)
              | (refine ⟨trivial, ?_⟩; gi_at_call 194; (with_reducible refine (callsIn_wide.2 RB3.out).mono ?_); rintro e w1 ⟨qb, eb, rfl, ob, rfl⟩; clear RB3))
            go_roundw
            case rel => exact ⟨pre ++ [M], behindV xs M, behindV ys' M, k', oa, ob, MA.out, MB.out, HB.out, by have h1 := LE.out; have h2 := HK.out; omega, by have h1 := LE.out; have h2 := HPR.out; simp; omega, rfl, rfl, J3.out⟩
            case measure => have h1 := LE.out; have h2 := NX.out; have h3 := NY.out; simp [sliceN]; omega
          · have JX := Lib.hid hJx3
            have PF : Hid (pre ++ [M] <+: bothV zs ys) := ⟨_, HB.out⟩
            clear hJx3
            gi_wp2
            refine bodyPost_ret (results_none rfl _ _ _) rfl ?_
            exact ⟨⟨_, rfl⟩, .inr ⟨pre ++ [M], PF.out, JX.out⟩⟩
        · gi_wp2_with (first
            | (refine ⟨trivial, ?_⟩; gi_at_call 193; (with_reducible refine (callsIn_wide.2 KA.out).mono ?_); rintro e w1 ⟨rfl, rfl⟩; clear KA)
            | (refine ⟨trivial, ?_⟩; gi_at_call 193; (with_reducible refine (callsIn_wide.2 KB.out).mono ?_); rintro e w1 ⟨rfl, rfl⟩; clear KB))
          refine hR.mono ?_
          rintro e W3 (⟨rfl, hJ3, hk3⟩ | ⟨rfl, hJx3⟩)
          · have RA3 := Lib.hid (RA.out W3 hk3)
            have RB3 := Lib.hid (RB.out W3 hk3)
            have J3 := Lib.hid hJ3
            clear RA RB hk3 hJ3 hR hy
            gi_wp2_with (first
              | (refine ⟨trivial, ?_⟩; gi_at_call 194; (with_reducible refine (callsIn_wide.2 RA3.out).mono ?_); rintro e w1 ⟨qa, ea, rfl, oa, rfl⟩; clear RA3)
              | (refine ⟨trivial, ?_⟩; gi_at_call 194; (with_reducible refine (callsIn_wide.2 RB3.out).mono ?_); rintro e w1 ⟨qb, eb, rfl, ob, rfl⟩; clear RB3))
            go_roundw
            case rel => exact ⟨pre ++ [M], behindV xs M, behindV ys' M, k', oa, ob, MA.out, MB.out, HB.out, by have h1 := LE.out; have h2 := HK.out; omega, by have h1 := LE.out; have h2 := HPR.out; simp; omega, rfl, rfl, J3.out⟩
            case measure => have h1 := LE.out; have h2 := NX.out; have h3 := NY.out; simp [sliceN]; omega
          · have JX := Lib.hid hJx3
            have PF : Hid (pre ++ [M] <+: bothV zs ys) := ⟨_, HB.out⟩
            clear hJx3
            gi_wp2
            refine bodyPost_ret (results_none rfl _ _ _) rfl ?_
            exact ⟨⟨_, rfl⟩, .inr ⟨pre ++ [M], PF.out, JX.out⟩⟩
      · have py' : (0 : Int) < (ny : Int) := by omega
        rcases hmin with ⟨hle, rfl⟩ | ⟨hle, rfl⟩
        · gi_wp2_with (first
            | (refine ⟨trivial, ?_⟩; gi_at_call 193; (with_reducible refine (callsIn_wide.2 KA.out).mono ?_); rintro e w1 ⟨rfl, rfl⟩; clear KA)
            | (refine ⟨trivial, ?_⟩; gi_at_call 193; (with_reducible refine (callsIn_wide.2 KB.out).mono ?_); rintro e w1 ⟨rfl, rfl⟩; clear KB))
          refine hR.mono ?_
          rintro e W3 (⟨rfl, hJ3, hk3⟩ | ⟨rfl, hJx3⟩)
          · have RA3 := Lib.hid (RA.out W3 hk3)
            have RB3 := Lib.hid (RB.out W3 hk3)
            have J3 := Lib.hid hJ3
            clear RA RB hk3 hJ3 hR hy
            gi_wp2_with (first
              | (refine ⟨trivial, ?_⟩; gi_at_call 194; (with_reducible refine (callsIn_wide.2 RA3.out).mono ?_); rintro e w1 ⟨qa, ea, rfl, oa, rfl⟩; clear RA3)
              | (refine ⟨trivial, ?_⟩; gi_at_call 194; (with_reducible refine (callsIn_wide.2 RB3.out).mono ?_); rintro e w1 ⟨qb, eb, rfl, ob, rfl⟩; clear RB3))
            go_roundw
            case rel => exact ⟨pre ++ [M], behindV xs M, behindV ys' M, k', oa, ob, MA.out, MB.out, HB.out, by have h1 := LE.out; have h2 := HK.out; omega, by have h1 := LE.out; have h2 := HPR.out; simp; omega, rfl, rfl, J3.out⟩
            case measure => have h1 := LE.out; have h2 := NX.out; have h3 := NY.out; simp [sliceN]; omega
          · have JX := Lib.hid hJx3
            have PF : Hid (pre ++ [M] <+: bothV zs ys) := ⟨_, HB.out⟩
            clear hJx3
            gi_wp2
            refine bodyPost_ret (results_none rfl _ _ _) rfl ?_
            exact ⟨⟨_, rfl⟩, .inr ⟨pre ++ [M], PF.out, JX.out⟩⟩
        · gi_wp2_with (first
            | (refine ⟨trivial, ?_⟩; gi_at_call 193; (with_reducible refine (callsIn_wide.2 KA.out).mono ?_); rintro e w1 ⟨rfl, rfl⟩; clear KA)
            | (refine ⟨trivial, ?_⟩; gi_at_call 193; (with_reducible refine (callsIn_wide.2 KB.out).mono ?_); rintro e w1 ⟨rfl, rfl⟩; clear KB))
          refine hR.mono ?_
          rintro e W3 (⟨rfl, hJ3, hk3⟩ | ⟨rfl, hJx3⟩)
          · have RA3 := Lib.hid (RA.out W3 hk3)
            have RB3 := Lib.hid (RB.out W3 hk3)
            have J3 := Lib.hid hJ3
            clear RA RB hk3 hJ3 hR hy
            gi_wp2_with (first
              | (refine ⟨trivial, ?_⟩; gi_at_call 194; (with_reducible refine (callsIn_wide.2 RA3.out).mono ?_); rintro e w1 ⟨qa, ea, rfl, oa, rfl⟩; clear RA3)
              | (refine ⟨trivial, ?_⟩; gi_at_call 194; (with_reducible refine (callsIn_wide.2 RB3.out).mono ?_); rintro e w1 ⟨qb, eb, rfl, ob, rfl⟩; clear RB3))
            go_roundw
            case rel => exact ⟨pre ++ [M], behindV xs M, behindV ys' M, k', oa, ob, MA.out, MB.out, HB.out, by have h1 := LE.out; have h2 := HK.out; omega, by have h1 := LE.out; have h2 := HPR.out; simp; omega, rfl, rfl, J3.out⟩
            case measure => have h1 := LE.out; have h2 := NX.out; have h3 := NY.out; simp [sliceN]; omega
          · have JX := Lib.hid hJx3
            have PF : Hid (pre ++ [M] <+: bothV zs ys) := ⟨_, HB.out⟩
            clear hJx3
            gi_wp2
            refine bodyPost_ret (results_none rfl _ _ _) rfl ?_
            exact ⟨⟨_, rfl⟩, .inr ⟨pre ++ [M], PF.out, JX.out⟩⟩

end Go.Proofs.YtnoilafoeaknjaaGreat

/-
  The program's FewJoin: by the range over the marks of both.
-/
namespace Go.Proofs.YtnoilafoeaknjaaGreat
open Go.RowKit Go.Shelf

attribute [local go_sem] Oper.semAt_some

theorem marksOfBoth_at (w : World) (u v : Value) (x y : Option Addr) (n m c d : Nat) (hu : u = .slice x n c) (hv : v = .slice y m d) :
    Calls Tryz.prog 164 #[u, v] w fun e w' => e = .returned (.func (.func 192) #[] #[.pointer (some ⟨w.heap.size, 0, none⟩), .pointer (some ⟨w.heap.size + 1, 0, none⟩)]) ∧ w' = (w.alloc (.cells #[u] 23)).alloc (.cells #[v] 23) := by
  subst hu hv
  refine (callsIn_wide (n := 3)).1 ?_
  refine callsIn_of_wp Tryz.func164 rfl trivial ?_ rfl
  simp only [Tryz.ntmps164, List.size_toArray, List.length_cons, List.length_nil, Nat.reduceAdd, Nat.reduceSub, Array.replicate_succ, Array.replicate_zero, List.push_toArray, List.append_toArray, List.nil_append, List.cons_append]
  gi_wp2
  go_ret
  exact ⟨rfl, rfl⟩

theorem mem_get' {zs : List Int} {x : Int} : x ∈ zs ↔ ∃ i, i < zs.length ∧ zs.getD i 0 = x := by
  constructor
  · intro h
    obtain ⟨i, hi, rfl⟩ := List.getElem_of_mem h
    exact ⟨i, hi, by simp [hi]⟩
  · rintro ⟨i, hi, rfl⟩
    exact getD_mem zs i 0 hi

theorem both_stops (n : Nat) (hn : 1 ≤ n) (Ba Bb n₀ : Nat) (u v : Value) (zs ys : List Int) (hz : ∀ z ∈ zs, z < 64) (hy : ∀ z ∈ ys, z < 64) (w : World) (hBa : Ba < w.heap.size) (hBb : Bb < w.heap.size) (hn₀ : n₀ ≤ w.heap.size)
    (hA : w.cell? ⟨Ba, 0, none⟩ = some u) (hB : w.cell? ⟨Bb, 0, none⟩ = some v) (iA : InB n₀ w u zs) (iB : InB n₀ w v ys) :
    SeqStopsK Fence.wide n Tryz.prog 192 #[.pointer (some ⟨Ba, 0, none⟩), .pointer (some ⟨Bb, 0, none⟩)] (fun x : Int => #[Value.int .i64 x]) (Below n₀) (fun xs => xs = bothV zs ys) (fun pre => pre <+: bothV zs ys) (zs.length + ys.length) w := fun l J Jx W hW hJ _ hY h0 =>
  both1_in n hn l Ba Bb n₀ u v zs ys hz hy J Jx hY (fun s W1 h => hJ s W1 W1.drew none h ⟨rfl, rfl, rfl, Nat.le_refl _, fun _ _ _ => rfl⟩ (fun _ e => by cases e)) W ((hW.cell (p := ⟨Ba, 0, none⟩) hBa).trans hA) ((hW.cell (p := ⟨Bb, 0, none⟩) hBb).trans hB) (iA.below (hW.mono hn₀)) (iB.below (hW.mono hn₀)) h0

set_option maxRecDepth 100000 in
set_option maxHeartbeats 4000000 in
theorem imFewJoin_yes (w : World) (u v : Value) (zs ys : List Int) (ha : Ints w u zs) (hb : Ints w v ys) (oka : fewB zs = true) (okb : fewB ys = true) :
    Calls Tryz.prog 110 #[.agg #[u], .agg #[v]] w fun e w' => ∃ v', e = .returned (.tuple #[.agg #[v'], .bool true]) ∧ OwnI w' w.heap.size v' ((bothV zs ys).take 6) ∧ Below w.heap.size w w' := by
  obtain ⟨i0, hi, hz0, hz1, hz2⟩ := info_parts few_info
  have hA := (((Below.refl w.heap.size w).alloc (Nat.le_refl _) (.cells #[u] 31)).alloc (by simp) (.cells #[v] 31)).alloc (by simp; omega) (.cells #[.slice none 0 0] 31)
  have z64 : ∀ z ∈ zs, z < 64 := fun z hz => by
    obtain ⟨i, hi, rfl⟩ := mem_get'.1 hz
    have := ((fewB_parts oka).2.1 i hi).2; omega
  have y64 : ∀ z ∈ ys, z < 64 := fun z hz => by
    obtain ⟨i, hi, rfl⟩ := mem_get'.1 hz
    have := ((fewB_parts okb).2.1 i hi).2; omega
  have la := (fewB_parts oka).1
  have lb := (fewB_parts okb).1
  have IA := Lib.hid ha.inB
  have IB := Lib.hid hb.inB
  have KA := Lib.hid (imFewOk_at _ u zs (ha.below hA (Nat.le_refl _)))
  have JB := Lib.hid (hb.below hA (Nat.le_refl _))
  rw [oka] at KA
  have HA := Lib.hid hA
  obtain ⟨⟨x, c, hx⟩, _⟩ := ha.cases
  obtain ⟨⟨y, d, hy⟩, _⟩ := hb.cases
  obtain ⟨na, hna⟩ : ∃ n, n = zs.length := ⟨_, rfl⟩
  obtain ⟨nb, hnb⟩ : ∃ n, n = ys.length := ⟨_, rfl⟩
  rw [← hna] at hx
  rw [← hnb] at hy
  have NA := Lib.hid hna
  have NB := Lib.hid hnb
  subst hx hy
  obtain ⟨w0, hw0⟩ : ∃ w0, w0 = ((w.alloc (.cells #[.slice x na c] 31)).alloc (.cells #[.slice y nb d] 31)).alloc (.cells #[.slice none 0 0] 31) := ⟨_, rfl⟩
  have c0 : w0.cell? ⟨w.heap.size, 0, none⟩ = some (.slice x na c) := by rw [hw0, World.cell?_alloc_past (hn := by simp; omega), World.cell?_alloc_past (hn := by simp)]; simp
  have c1 : w0.cell? ⟨w.heap.size + 1, 0, none⟩ = some (.slice y nb d) := by rw [hw0, World.cell?_alloc_past (hn := by simp), World.cell?_alloc_at (hn := by simp)]; simp
  have b2 : Go.Boxed w0 (w.heap.size + 1 + 1) 31 (.slice none 0 0) := by
    rw [hw0]
    have := Go.Boxed.new ((w.alloc (.cells #[.slice x na c] 31)).alloc (.cells #[.slice y nb d] 31)) 31 (.slice none 0 0)
    simpa using this
  have S0 : Hid (w0.heap.size = w.heap.size + 3) := by show w0.heap.size = _; rw [hw0]; simp
  rw [← hw0] at KA JB HA
  have B2 := Lib.hid b2
  have HW := Lib.hid hw0
  clear ha hb hA hna hnb hw0 b2 oka la lb
  refine (callsIn_wide (n := 9)).1 ?_
  refine callsIn_of_wp_marks Tryz.func110 rfl trivial ?_ rfl
  simp only [Tryz.ntmps110, List.size_toArray, List.length_cons, List.length_nil, Nat.reduceAdd, Nat.reduceSub, Array.replicate_succ, Array.replicate_zero, List.push_toArray, List.append_toArray, List.nil_append, List.cons_append]
  gi_wp2_with fail
  rw [← HW.out]
  refine ⟨trivial, (callsIn_wide.2 KA.out).mono ?_⟩
  rintro e w1 ⟨rfl, hb1⟩
  have c01 := cell_later hb1 c0
  have c11 := cell_later hb1 c1
  have KB := Lib.hid (imFewOk_at w1 _ ys (JB.out.below hb1 (Nat.le_refl _)))
  rw [okb] at KB
  have BX1 : Hid (Go.Boxed w1 (w.heap.size + 1 + 1) 31 (.slice none 0 0)) := (hb1.block _ B2.out.lt).trans B2.out
  have L1 := Lib.hid (HA.out.trans (hb1.mono HA.out.size))
  have S1 : Hid (w.heap.size + 3 ≤ w1.heap.size) := by have h1 := S0.out; have h2 := hb1.size; show _ ≤ _; omega
  clear hb1 c0 c1 okb
  gi_wp2_with fail
  refine ⟨trivial, (callsIn_wide.2 KB.out).mono ?_⟩
  rintro e w2 ⟨rfl, hb2⟩
  have c02 := cell_later hb2 c01
  have c12 := cell_later hb2 c11
  have BX2 : Hid (Go.Boxed w2 (w.heap.size + 1 + 1) 31 (.slice none 0 0)) := (hb2.block _ BX1.out.lt).trans BX1.out
  have L2 := Lib.hid (L1.out.trans (hb2.mono L1.out.size))
  have S2 : Hid (w.heap.size + 3 ≤ w2.heap.size) := by have h1 := S1.out; have h2 := hb2.size; show _ ≤ _; omega
  have l0 : w.heap.size < w2.heap.size := World.block_lt_of_cell? _ _ c02
  have l1 : w.heap.size + 1 < w2.heap.size := World.block_lt_of_cell? _ _ c12
  have c03 : (w2.alloc (.cells #[.slice none 0 0] 23)).cell? ⟨w.heap.size, 0, none⟩ = some (.slice x na c) := by rw [World.cell?_alloc_past (hn := l0)]; exact c02
  have c13 : (w2.alloc (.cells #[.slice none 0 0] 23)).cell? ⟨w.heap.size + 1, 0, none⟩ = some (.slice y nb d) := by rw [World.cell?_alloc_past (hn := l1)]; exact c12
  have e1 : ¬ w.heap.size = w2.heap.size := by omega
  have e2 : ¬ w.heap.size + 1 = w2.heap.size := by omega
  clear hb2 c01 c11
  gi_wp2_with fail
  refine ⟨trivial, (callsIn_wide.2 (marksOfBoth_at _ _ _ x y na nb c d rfl rfl)).mono ?_⟩
  rintro e w3 ⟨rfl, hw3⟩
  have s3 : w3.heap.size = w2.heap.size + 3 := by rw [hw3]; simp
  have kb : Go.Boxed w3 w2.heap.size 23 (.slice none 0 0) := by rw [hw3]; exact ((Go.Boxed.new w2 23 (.slice none 0 0)).alloc _).alloc _
  have rb : Go.Boxed w3 (w.heap.size + 1 + 1) 31 (.slice none 0 0) := by rw [hw3]; exact ((BX2.out.alloc _).alloc _).alloc _
  have ca : w3.cell? ⟨w2.heap.size + 1, 0, none⟩ = some (.slice x na c) := by rw [hw3, World.cell?_alloc_past (hn := by simp), World.cell?_alloc_at (hn := by simp)]; simp
  have cb : w3.cell? ⟨w2.heap.size + 2, 0, none⟩ = some (.slice y nb d) := by rw [hw3, World.cell?_alloc_at (hn := by simp)]; simp
  have hB3 : Below w.heap.size w w3 := by
    have h2 := S2.out
    have := ((L2.out.alloc (o := .cells #[.slice none 0 0] 23) L2.out.size).alloc (o := .cells #[.slice x na c] 23) (by have := L2.out.size; simp; omega)).alloc (o := .cells #[.slice y nb d] 23) (by have := L2.out.size; simp; omega)
    rw [hw3]; exact this
  have B3 := Lib.hid hB3
  have HW3 := Lib.hid hw3
  have lw : Hid (w.heap.size + 3 ≤ w2.heap.size) := S2.out
  clear hw3 c02 c12 c03 c13 hB3 l0 l1 e1 e2
  simp only [World.size_alloc]
  gi_wp2
  refine wpIn_rangeFunc_ownG rfl (by omega) (gf := 192) (lb := #[.pointer (some ⟨w2.heap.size + 1, 0, none⟩), .pointer (some ⟨w2.heap.size + 1 + 1, 0, none⟩)]) rfl trivial (enters_of Tryz.func192 (by kernel_rfl) rfl)
    (both_stops 8 (by omega) (w2.heap.size + 1) (w2.heap.size + 2) w.heap.size _ _ zs ys z64 y64 w3 (by omega) (by omega) B3.out.size ca cb (IA.out.below B3.out) (IB.out.below B3.out)) belowK_t (belowK_b (by have := lw.out; omega)) (Below.refl _ _) (fun _ => rfl)
    (fun (pre : List Int) W => (∃ v, Go.Boxed W w2.heap.size 23 v ∧ W.ownsRow w.heap.size 3 1 v pre.length (ints pre) ∧ True) ∧ Go.Boxed W (w.heap.size + 1 + 1) 31 (.slice none 0 0) ∧ Below w.heap.size w W ∧ pre.length ≤ 6)
    (fun c (pre : List Int) W => (c = .exit 0 ∧ pre.length = 7) ∧ (∃ v, Go.Boxed W w2.heap.size 23 v ∧ W.ownsRow w.heap.size 3 1 v 6 (ints (pre.take 6)) ∧ True) ∧ Go.Boxed W (w.heap.size + 1 + 1) 31 (.slice none 0 0) ∧ Below w.heap.size w W)
    (OwnFrom.and (Own.from (holdsRow_own w.heap.size w2.heap.size 23 3 1 (fun pre : List Int => pre.length) (fun pre => ints pre) (fun _ _ => True)) _) (OwnFrom.and (Own.from (boxed_own (w.heap.size + 1 + 1) 31 (fun _ => .slice none 0 0)) _) (OwnFrom.and (ownFrom_below (Nat.le_refl _) B3.out.size) (ownFrom_pure _ (fun pre : List Int => pre.length ≤ 6)))))
    (fun c => OwnFrom.and (ownFrom_pure _ (fun pre : List Int => c = .exit 0 ∧ pre.length = 7)) (OwnFrom.and (Own.from (holdsRow_own w.heap.size w2.heap.size 23 3 1 (fun _ => 6) (fun pre : List Int => ints (pre.take 6)) (fun _ _ => True)) _) (OwnFrom.and (Own.from (boxed_own (w.heap.size + 1 + 1) 31 (fun _ => .slice none 0 0)) _) (ownFrom_below (Nat.le_refl _) B3.out.size))))
    ⟨⟨_, kb, World.ownsRow_nil _ _ _ _, trivial⟩, rb, B3.out, by simp⟩
    (fun m => { tmps := #[.agg #[.slice x na c], .agg #[.slice y nb d], .pointer (some ⟨w.heap.size, 0, none⟩), .pointer (some ⟨w.heap.size + 1, 0, none⟩), .pointer (some ⟨w.heap.size + 1 + 1, 0, none⟩), .bool false, .pointer (some ⟨w2.heap.size, 0, none⟩), .int .i64 m, .agg #[.slice x na c], .bool true, .bool false, .bool false, .agg #[.slice y nb d], .bool true, .bool false, .bool false, undef, .pointer (some ⟨w.heap.size, 0, none⟩), .slice x na c, .pointer (some ⟨w.heap.size + 1, 0, none⟩), .slice y nb d, .func (.func 192) #[] #[.pointer (some ⟨w2.heap.size + 1, 0, none⟩), .pointer (some ⟨w2.heap.size + 1 + 1, 0, none⟩)], .int .i64 m, undef, undef, undef, undef, undef, undef, undef, undef, undef], defers := [] }) ?assign ?body ?done ?stop
  case assign =>
    intro l x W K hK
    gi_wp2
    exact hK
  case body =>
    rintro l pre m W ⟨⟨v, hv, hrow, _⟩, hR, hB, hp6⟩ hlt
    have hf := (show OwnI W w.heap.size v pre from hrow).form
    obtain ⟨xv, cv, rfl⟩ := hf
    obtain ⟨np, hnp⟩ : ∃ np, np = pre.length := ⟨_, rfl⟩
    rw [← hnp] at hv hrow hp6
    have hc := hv.cell
    have NP := Lib.hid hnp
    have HR := Lib.hid hR
    have HBW := Lib.hid hB
    have lS := hB.size
    have lw3 := lw.out
    have dR := hR.not_row (by decide) hrow
    clear hR hB hnp hlt
    by_cases h6 : np = 6
    · subst h6
      gi_wp2
      refine ⟨KeepsFrom.refl _ _, ⟨rfl, by simp; rw [← NP.out]⟩, ⟨_, hv, ?_, trivial⟩, HR.out, HBW.out⟩
      have e : (pre ++ [m]).take 6 = pre := by rw [List.take_append_of_le_length (by rw [← NP.out]; exact Nat.le_refl _), List.take_of_length_le (by rw [← NP.out]; exact Nat.le_refl _)]
      rw [e]
      exact hrow
    · have n6 : ¬ (np : Int) = 6 := by omega
      have n6' : ((np : Int) == 6) = false := by simp; omega
      gi_wp2_with (gi_at_builtin; refine wpListIn_append_own _ rfl _ _ 23 rfl w.heap.size 3 i0 (.int .i64 0) 1 8 Tryz.underlying23 hi hz0 hz1 hz2 rfl (by decide) _ _ _ rfl (hrow.alloc _) ⟨W.heap.size, 0, none⟩ 1 1 [.int .i64 m] rfl rfl (cell_one_new _ _ _) (by simp [Value.oneCell']) (by unfold maxLen; omega) (by omega) (by simp; omega) ?_; intro v' w1 hown' hgrow _; obtain ⟨g', cap', rfl, _, _⟩ := World.ownsRow.form hown' (Nat.succ_pos _); obtain ⟨hv1, hv2, hr2, hk2, hb2⟩ := hv.appended (by decide) hrow lS (by omega) hown' hgrow; have hR1 := (HR.out.alloc _).kept hgrow dR; have hc1 := hv1.cell; have hf1 := hv1.frozen)
      refine ⟨hk2.from _, hb2, ⟨_, hv2, ?_, trivial⟩, hR1.other (by omega) _, HBW.out.trans hb2, by simp; rw [← NP.out]; omega⟩
      rw [List.length_append, ← NP.out, ints_snoc]
      exact hr2
  case done =>
    rintro D xs W hD rfl ⟨⟨v, hv, hrow, _⟩, hR, hB, hp6⟩ hK
    have hf := (show OwnI W w.heap.size v (bothV zs ys) from hrow).form
    obtain ⟨xv, cv, rfl⟩ := hf
    obtain ⟨np, hnp⟩ : ∃ np, np = (bothV zs ys).length := ⟨_, rfl⟩
    rw [← hnp] at hv hrow hp6
    have hc := hv.cell
    have hRc := hR.cell
    have hRf := hR.frozen
    have NP := Lib.hid hnp
    have HB := Lib.hid hB
    have lw3 := lw.out
    clear hB hnp
    gi_wp2
    have hK2 := (KeepsOthers.setCell W ⟨w.heap.size + 1 + 1, 0, none⟩ (.slice xv np cv)).same D _ hK rfl
    refine ⟨by simp, .inl ⟨_, _, rfl, run_takeDeferred hK2, ?_⟩⟩
    have b4 := ((hR.set (.slice xv np cv)).kept (grownBy_putObj' _ D (.deferred none)) (by simp; omega))
    have hr := b4.cell
    have o2 := (hrow.kept (grownBy_setCell' W (w.heap.size + 1 + 1) (.slice xv np cv)) (.inr (hR.not_row (by decide) hrow).symm))
    have o3 := ownsRow_putObj o2 (.deferred none) hK2 rfl
    have hb4 : Below w.heap.size W (W.setCell ⟨w.heap.size + 1 + 1, 0, none⟩ (.slice xv np cv)) := (Below.refl _ _).setCell (by simp; omega) _
    refine ⟨.tuple #[.agg #[.slice xv np cv], .bool true], by simp [results, Tryz.results110, go_sem, hr], _, rfl, ?_, (HB.out.trans hb4).trans (belowK_b (w := w) (Nat.le_refl _) _ D _ _ (by omega) hK2 rfl rfl)⟩
    unfold OwnI
    have e : (bothV zs ys).take 6 = bothV zs ys := List.take_of_length_le (by rw [← NP.out]; exact hp6)
    rw [e, ← NP.out]
    exact o3
  case stop =>
    rintro D cj pre W hD hpf ⟨⟨rfl, h7⟩, ⟨v, hv, hrow, _⟩, hR, hB⟩ hK
    have l6 : (pre.take 6).length = 6 := by simp; omega
    have hf := (show OwnI W w.heap.size v (pre.take 6) from by unfold OwnI; rw [l6]; exact hrow).form
    rw [l6] at hf
    obtain ⟨xv, cv, rfl⟩ := hf
    obtain ⟨np, hnp⟩ : ∃ np, np = 6 := ⟨_, rfl⟩
    rw [← hnp] at hv hrow
    have hc := hv.cell
    have hRc := hR.cell
    have hRf := hR.frozen
    have NP := Lib.hid hnp
    have HB := Lib.hid hB
    have lw3 := lw.out
    have PF := Lib.hid hpf
    clear hB hnp hpf
    gi_wp2
    have hK2 := (KeepsOthers.setCell W ⟨w.heap.size + 1 + 1, 0, none⟩ (.slice xv np cv)).same D _ hK rfl
    refine ⟨by simp, .inl ⟨_, _, rfl, run_takeDeferred hK2, ?_⟩⟩
    have b4 := ((hR.set (.slice xv np cv)).kept (grownBy_putObj' _ D (.deferred none)) (by simp; omega))
    have hr := b4.cell
    have o2 := (hrow.kept (grownBy_setCell' W (w.heap.size + 1 + 1) (.slice xv np cv)) (.inr (hR.not_row (by decide) hrow).symm))
    have o3 := ownsRow_putObj o2 (.deferred none) hK2 rfl
    have hb4 : Below w.heap.size W (W.setCell ⟨w.heap.size + 1 + 1, 0, none⟩ (.slice xv np cv)) := (Below.refl _ _).setCell (by simp; omega) _
    refine ⟨.tuple #[.agg #[.slice xv np cv], .bool true], by simp [results, Tryz.results110, go_sem, hr], _, rfl, ?_, (HB.out.trans hb4).trans (belowK_b (w := w) (Nat.le_refl _) _ D _ _ (by omega) hK2 rfl rfl)⟩
    have e : (bothV zs ys).take 6 = pre.take 6 := by
      obtain ⟨r, hr'⟩ := PF.out
      rw [← hr', List.take_append_of_le_length (by omega)]
    unfold OwnI
    rw [e, l6, ← NP.out]
    exact o3

end Go.Proofs.YtnoilafoeaknjaaGreat

/-
  Marks of both, and a mark put among others, come to the same: plain lists.
-/
namespace Go.Proofs.YtnoilafoeaknjaaGreat
open Go.RowKit

/-- Ascending, each once. -/
abbrev Asc (zs : List Int) : Prop := zs.Pairwise (· < ·)
theorem asc_ext : ∀ {X Y : List Int}, Asc X → Asc Y → (∀ z, z ∈ X ↔ z ∈ Y) → X = Y
  | [], [], _, _, _ => rfl
  | [], y :: Y, _, _, h => by have := (h y).2 (by simp); simp at this
  | x :: X, [], _, _, h => by have := (h x).1 (by simp); simp at this
  | x :: X, y :: Y, hx, hy, h => by
    obtain ⟨x1, x2⟩ := List.pairwise_cons.1 hx
    obtain ⟨y1, y2⟩ := List.pairwise_cons.1 hy
    have e : x = y := by
      have h1 := (h x).1 (by simp)
      have h2 := (h y).2 (by simp)
      simp only [List.mem_cons] at h1 h2
      rcases h1 with h1 | h1
      · exact h1
      · rcases h2 with h2 | h2
        · exact h2.symm
        · have := y1 x h1; have := x1 y h2; omega
    subst e
    congr 1
    refine asc_ext x2 y2 fun z => ?_
    have hz := h z
    simp only [List.mem_cons] at hz
    constructor
    · intro q
      have := x1 z q
      rcases hz.1 (.inr q) with e | e
      · omega
      · exact e
    · intro q
      have := y1 z q
      rcases hz.2 (.inr q) with e | e
      · omega
      · exact e

/-- The mark m put where it belongs. -/
def ins (m : Int) : List Int → List Int
  | [] => [m]
  | x :: xs => if m < x then m :: x :: xs else if m = x then x :: xs else x :: ins m xs
theorem ins_mem (m : Int) : ∀ (zs : List Int) (z : Int), z ∈ ins m zs ↔ z = m ∨ z ∈ zs
  | [], z => by simp [ins]
  | x :: xs, z => by
    unfold ins
    by_cases h1 : m < x
    · rw [if_pos h1]; simp
    · rw [if_neg h1]
      by_cases h2 : m = x
      · rw [if_pos h2]; subst h2; simp
      · rw [if_neg h2]
        simp only [List.mem_cons, ins_mem m xs z]
        constructor
        · rintro (h | h | h)
          · exact .inr (.inl h)
          · exact .inl h
          · exact .inr (.inr h)
        · rintro (h | h | h)
          · exact .inr (.inl h)
          · exact .inl h
          · exact .inr (.inr h)
theorem ins_asc (m : Int) : ∀ {zs : List Int}, Asc zs → Asc (ins m zs)
  | [], _ => by simp [ins]
  | x :: xs, h => by
    obtain ⟨h1, h2⟩ := List.pairwise_cons.1 h
    unfold ins
    by_cases q1 : m < x
    · rw [if_pos q1]
      refine List.pairwise_cons.2 ⟨fun z hz => ?_, h⟩
      simp only [List.mem_cons] at hz
      rcases hz with rfl | hz
      · exact q1
      · have := h1 z hz; omega
    · rw [if_neg q1]
      by_cases q2 : m = x
      · rw [if_pos q2]; exact h
      · rw [if_neg q2]
        refine List.pairwise_cons.2 ⟨fun z hz => ?_, ins_asc m h2⟩
        rcases (ins_mem m xs z).1 hz with rfl | hz
        · omega
        · exact h1 z hz
/-- Those beyond the k-th put nothing among the first k. -/
theorem ins_take (m : Int) : ∀ (zs : List Int) (k : Nat), (ins m (zs.take k)).take k = (ins m zs).take k
  | _, 0 => by simp
  | [], k + 1 => by simp
  | x :: xs, k + 1 => by
    rw [List.take_succ_cons]
    unfold ins
    by_cases q1 : m < x
    · rw [if_pos q1, if_pos q1, List.take_succ_cons, List.take_succ_cons]
      congr 1
      cases k with
      | zero => simp
      | succ k => rw [List.take_succ_cons, List.take_succ_cons, List.take_take]; congr 2; omega
    · rw [if_neg q1, if_neg q1]
      by_cases q2 : m = x
      · rw [if_pos q2, if_pos q2, List.take_succ_cons, List.take_succ_cons, List.take_take]; congr 2; omega
      · rw [if_neg q2, if_neg q2, List.take_succ_cons, List.take_succ_cons, ins_take m xs k]

theorem putL_true (m : Int) : ∀ {zs : List Int}, (∀ z ∈ zs, m < z) → putL m zs true = zs
  | [], _ => rfl
  | x :: xs, h => by
    have h1 := h x (by simp)
    rw [put4 _ (.inl rfl) (by omega), putL_true m (fun z hz => h z (by simp [hz]))]
    rfl
theorem putL_ins (m : Int) : ∀ {zs : List Int}, Asc zs → putL m zs false = ins m zs
  | [], _ => rfl
  | x :: xs, h => by
    obtain ⟨h1, h2⟩ := List.pairwise_cons.1 h
    unfold ins
    by_cases q1 : m < x
    · rw [if_pos q1, put2 _ (by omega) (by omega), putL_true m (fun z hz => by have := h1 z hz; omega)]; rfl
    · rw [if_neg q1]
      by_cases q2 : m = x
      · subst q2
        rw [if_pos rfl, put1, putL_true m h1]; rfl
      · rw [if_neg q2, put4 _ (.inr (by omega)) (by omega), putL_ins m h2]; rfl

/-- All of ys put among zs. -/
def unionL (zs ys : List Int) : List Int := ys.foldl (fun acc m => ins m acc) zs
theorem union_mem : ∀ (ys zs : List Int) (z : Int), z ∈ unionL zs ys ↔ z ∈ zs ∨ z ∈ ys
  | [], zs, z => by simp [unionL]
  | y :: ys, zs, z => by
    show z ∈ unionL (ins y zs) ys ↔ _
    rw [union_mem ys, ins_mem]
    simp only [List.mem_cons]
    constructor
    · rintro ((h | h) | h)
      · exact .inr (.inl h)
      · exact .inl h
      · exact .inr (.inr h)
    · rintro (h | h | h)
      · exact .inl (.inr h)
      · exact .inl (.inl h)
      · exact .inr h
theorem union_asc : ∀ (ys : List Int) {zs : List Int}, Asc zs → Asc (unionL zs ys)
  | [], _, h => h
  | y :: ys, _, h => union_asc ys (ins_asc y h)
theorem union_take (k : Nat) : ∀ (ys zs : List Int), (unionL (zs.take k) ys).take k = (unionL zs ys).take k
  | [], zs => by show (zs.take k).take k = zs.take k; rw [List.take_take]; congr 1; omega
  | y :: ys, zs => by
    show (unionL (ins y (zs.take k)) ys).take k = (unionL (ins y zs) ys).take k
    rw [← union_take k ys (ins y (zs.take k)), ← union_take k ys (ins y zs), ins_take]

/-- The least six of both. -/
def joinV6 (zs ys : List Int) : List Int := (unionL zs ys).take 6
theorem union_comm {zs ys : List Int} (hz : Asc zs) (hy : Asc ys) : unionL zs ys = unionL ys zs :=
  asc_ext (union_asc _ hz) (union_asc _ hy) fun z => by rw [union_mem, union_mem]; exact Or.comm
theorem join6_comm {zs ys : List Int} (hz : Asc zs) (hy : Asc ys) : joinV6 zs ys = joinV6 ys zs := by unfold joinV6; rw [union_comm hz hy]
theorem join6_asc {zs ys : List Int} (hz : Asc zs) : Asc (joinV6 zs ys) := (union_asc ys hz).take
theorem union_assoc {zs ys xs : List Int} (hz : Asc zs) (hy : Asc ys) : unionL (unionL zs ys) xs = unionL zs (unionL ys xs) :=
  asc_ext (union_asc _ (union_asc _ hz)) (union_asc _ hz) fun z => by rw [union_mem, union_mem, union_mem, union_mem]; exact or_assoc
theorem join6_assoc {zs ys xs : List Int} (hz : Asc zs) (hy : Asc ys) (hx : Asc xs) : joinV6 (joinV6 zs ys) xs = joinV6 zs (joinV6 ys xs) := by
  have e1 : joinV6 (joinV6 zs ys) xs = (unionL (unionL zs ys) xs).take 6 := union_take 6 xs (unionL zs ys)
  have e2 : joinV6 zs (joinV6 ys xs) = (unionL (unionL ys xs) zs).take 6 := by
    rw [join6_comm hz (join6_asc hy)]; exact union_take 6 zs (unionL ys xs)
  rw [e1, e2, union_assoc hz hy, union_comm hz (union_asc _ hy)]
theorem join6_self {zs : List Int} (hz : Asc zs) (hl : zs.length ≤ 6) : joinV6 zs zs = zs := by
  have : unionL zs zs = zs := asc_ext (union_asc _ hz) hz fun z => by rw [union_mem]; exact or_self_iff
  unfold joinV6
  rw [this, List.take_of_length_le hl]
theorem join6_over {zs ys : List Int} (hz : Asc zs) (hy : Asc ys) : joinV6 (joinV6 zs ys) ys = joinV6 zs ys := by
  rw [join6_assoc hz hy hy]
  unfold joinV6
  have e : unionL ys ys = ys := asc_ext (union_asc _ hy) hy fun z => by rw [union_mem]; exact or_self_iff
  rw [e]
  rw [union_comm hz (List.Pairwise.take hy), union_take, union_comm hz hy]

theorem behindV_yes {u m : Int} (us : List Int) (h : u = m) : behindV (u :: us) m = us := by
  unfold behindV
  rw [if_pos (show firstV (u :: us) = m from h)]
  rfl
theorem behindV_no {u m : Int} (us : List Int) (h : ¬ u = m) : behindV (u :: us) m = u :: us := if_neg h
/-- The range over the marks of both comes to the same. -/
theorem bothL_mem : ∀ (k : Nat) (zs ys : List Int), (∀ z ∈ zs, z < 64) → (∀ z ∈ ys, z < 64) → zs.length + ys.length ≤ k → ∀ z, z ∈ bothL k zs ys ↔ z ∈ zs ∨ z ∈ ys
  | 0, zs, ys, _, _, hk, z => by
    have h1 : zs = [] := List.eq_nil_of_length_eq_zero (by omega)
    have h2 : ys = [] := List.eq_nil_of_length_eq_zero (by omega)
    subst h1 h2
    simp [bothL]
  | k + 1, zs, ys, hz, hy, hk, z => by
    unfold bothL
    by_cases hE : zs = [] ∧ ys = []
    · rw [if_pos hE, hE.1, hE.2]; simp
    · rw [if_neg hE]
      obtain ⟨m64, hlt⟩ := both_less hz hy hE
      obtain ⟨M, hM⟩ : ∃ M, M = min (firstV zs) (firstV ys) := ⟨_, rfl⟩
      rw [← hM] at m64 hlt ⊢
      rw [List.mem_cons, bothL_mem k _ _ (fun z h => hz z (behindV_mem h)) (fun z h => hy z (behindV_mem h)) (by omega)]
      have bm : ∀ us : List Int, (z ∈ us ∧ z ≠ M → z ∈ behindV us M) ∧ (firstV us = M → us ≠ [] → M ∈ us) := fun us => by
        cases us with
        | nil => exact ⟨fun h => by simp at h, fun _ h => absurd rfl h⟩
        | cons u us =>
          refine ⟨fun h => ?_, fun h _ => by rw [← show u = M from h]; simp⟩
          by_cases e : u = M
          · rw [behindV_yes us e]
            subst e
            simp only [List.mem_cons] at h
            rcases h.1 with h1 | h1
            · exact absurd h1 h.2
            · exact h1
          · rw [behindV_no us e]
            exact h.1
      constructor
      · rintro (rfl | h | h)
        · by_cases h3 : firstV zs ≤ firstV ys
          · have e : firstV zs = z := by omega
            refine .inl ((bm zs).2 e fun q => ?_)
            rw [q] at e; rw [← e] at m64; exact absurd m64 (by decide)
          · have e : firstV ys = z := by omega
            refine .inr ((bm ys).2 e fun q => ?_)
            rw [q] at e; rw [← e] at m64; exact absurd m64 (by decide)
        · exact .inl (behindV_mem h)
        · exact .inr (behindV_mem h)
      · intro h
        by_cases e : z = M
        · exact .inl e
        · exact .inr (h.imp (fun q => (bm zs).1 ⟨q, e⟩) (fun q => (bm ys).1 ⟨q, e⟩))
theorem firstV_le {zs : List Int} (h : Asc zs) : ∀ z ∈ zs, firstV zs ≤ z := fun z hz => by
  cases zs with
  | nil => cases hz
  | cons x xs =>
    simp only [List.mem_cons] at hz
    rcases hz with rfl | hz
    · exact Int.le_refl _
    · have := (List.pairwise_cons.1 h).1 z hz; show x ≤ z; omega
theorem behindV_asc {zs : List Int} (h : Asc zs) (m : Int) : Asc (behindV zs m) := by unfold behindV; split; exact h.tail; exact h
theorem behindV_gt {zs : List Int} (h : Asc zs) {m : Int} (hm : m ≤ firstV zs) : ∀ z ∈ behindV zs m, m < z := fun z hz => by
  cases zs with
  | nil => have := behindV_mem hz; cases this
  | cons x xs =>
    have h1 := (List.pairwise_cons.1 h).1
    have hm' : m ≤ x := hm
    by_cases e : x = m
    · rw [behindV_yes xs e] at hz
      have := h1 z hz; omega
    · rw [behindV_no xs e] at hz
      simp only [List.mem_cons] at hz
      rcases hz with rfl | hz
      · omega
      · have := h1 z hz; omega
theorem bothL_asc : ∀ (k : Nat) (zs ys : List Int), Asc zs → Asc ys → (∀ z ∈ zs, z < 64) → (∀ z ∈ ys, z < 64) → zs.length + ys.length ≤ k → Asc (bothL k zs ys)
  | 0, _, _, _, _, _, _, _ => by simp [bothL]
  | k + 1, zs, ys, az, ay, hz, hy, hk => by
    unfold bothL
    by_cases hE : zs = [] ∧ ys = []
    · rw [if_pos hE]; exact List.Pairwise.nil
    · rw [if_neg hE]
      obtain ⟨m64, hlt⟩ := both_less hz hy hE
      obtain ⟨M, hM⟩ : ∃ M, M = min (firstV zs) (firstV ys) := ⟨_, rfl⟩
      rw [← hM] at m64 hlt ⊢
      refine List.pairwise_cons.2 ⟨fun z hz' => ?_, bothL_asc k _ _ (behindV_asc az M) (behindV_asc ay M) (fun z h => hz z (behindV_mem h)) (fun z h => hy z (behindV_mem h)) (by omega)⟩
      rcases (bothL_mem k _ _ (fun z h => hz z (behindV_mem h)) (fun z h => hy z (behindV_mem h)) (by omega) z).1 hz' with h | h
      · exact behindV_gt az (by omega) z h
      · exact behindV_gt ay (by omega) z h
theorem both_join {zs ys : List Int} (az : Asc zs) (ay : Asc ys) (hz : ∀ z ∈ zs, z < 64) (hy : ∀ z ∈ ys, z < 64) : (bothV zs ys).take 6 = joinV6 zs ys := by
  have : bothV zs ys = unionL zs ys := asc_ext (bothL_asc _ _ _ az ay hz hy (Nat.le_refl _)) (union_asc _ az) fun z => by
    rw [union_mem]; exact bothL_mem _ _ _ hz hy (Nat.le_refl _) z
  rw [this]; rfl

theorem few_lt' {zs : List Int} (h : fewB zs = true) : ∀ j i, i < j → j < zs.length → zs.getD i 0 < zs.getD j 0 := by
  have hp := (fewB_parts h).2.2
  intro j
  induction j with
  | zero => intro i hi; omega
  | succ j ih =>
    intro i hi hj
    have h1 := hp j hj
    by_cases e : i = j
    · subst e; exact h1
    · have := ih i (by omega) (by omega); omega
theorem few_asc {zs : List Int} (h : fewB zs = true) : Asc zs := by
  rw [Asc, List.pairwise_iff_getElem]
  intro i j hi hj hij
  have := few_lt' h j i hij hj
  simpa [hi, hj] using this
theorem few_bd {zs : List Int} (h : fewB zs = true) : ∀ z ∈ zs, 0 ≤ z ∧ z < 64 := fun z hz => by
  obtain ⟨i, hi, rfl⟩ := mem_get.1 hz
  have := (fewB_parts h).2.1 i hi
  omega
theorem few_of {zs : List Int} (ha : Asc zs) (hb : ∀ z ∈ zs, 0 ≤ z ∧ z < 64) (hl : zs.length ≤ 6) : fewB zs = true := by
  refine fewB_good hl fun i hi => ⟨?_, fun h0 => ?_⟩
  · have := hb _ (getD_mem zs i 0 hi); omega
  · have := (List.pairwise_iff_getElem.1 ha) (i - 1) i (by omega) hi (by omega)
    simpa [hi, show i - 1 < zs.length by omega] using this
theorem join6_few {zs ys : List Int} (hz : fewB zs = true) (hy : fewB ys = true) : fewB (joinV6 zs ys) = true := by
  refine few_of (join6_asc (few_asc hz)) (fun z h => ?_) (by simp [joinV6]; omega)
  rcases (union_mem ys zs z).1 (List.mem_of_mem_take h) with h | h
  · exact few_bd hz z h
  · exact few_bd hy z h
theorem put_join {zs : List Int} (hz : Asc zs) (m : Int) : putV zs m = joinV6 zs [m] := by
  unfold putV joinV6
  rw [putL_ins m hz]; rfl

end Go.Proofs.YtnoilafoeaknjaaGreat

/-
  The program's FewJoin and FewAdd at whatever marks.
-/
namespace Go.Proofs.YtnoilafoeaknjaaGreat
open Go.RowKit Go.Sort

def joinOkF (zs ys : List Int) : Bool := fewB zs && fewB ys
def joinF (zs ys : List Int) : List Int := if joinOkF zs ys = true then joinV6 zs ys else []
theorem joinF_yes {zs ys : List Int} (h : joinOkF zs ys = true) : joinF zs ys = joinV6 zs ys := if_pos h
theorem joinF_no {zs ys : List Int} (h : joinOkF zs ys = false) : joinF zs ys = [] := if_neg (by rw [h]; simp)
theorem joinF_len (zs ys : List Int) : (joinF zs ys).length ≤ 6 := by
  unfold joinF; split
  · simp [joinV6]; omega
  · simp
theorem joinF_few (zs ys : List Int) : fewB (joinF zs ys) = true := by
  cases h : joinOkF zs ys with
  | true =>
    rw [joinF_yes h]
    unfold joinOkF at h
    simp only [Bool.and_eq_true] at h
    exact join6_few h.1 h.2
  | false => rw [joinF_no h]; decide

theorem free_later' {w w' : World} {a : Addr} (hb : Below w.heap.size w w') (h : w.frozen? a = false) (hl : a.block < w.heap.size) : w'.frozen? a = false := by rw [hb.frozen hl]; exact h

set_option maxHeartbeats 2000000 in
theorem imFewJoin_no (w : World) (u v : Value) (zs ys : List Int) (ha : Ints w u zs) (hb : Ints w v ys) (hno : joinOkF zs ys = false) :
    Calls Tryz.prog 110 #[.agg #[u], .agg #[v]] w fun e w' => e = .returned (.tuple #[.agg #[.slice none 0 0], .bool false]) ∧ Below w.heap.size w w' := by
  have hA := (((Below.refl w.heap.size w).alloc (Nat.le_refl _) (.cells #[u] 31)).alloc (by simp) (.cells #[v] 31)).alloc (by simp; omega) (.cells #[.slice none 0 0] 31)
  have KA := Lib.hid (imFewOk_at _ u zs (ha.below hA (Nat.le_refl _)))
  have JB := Lib.hid (hb.below hA (Nat.le_refl _))
  have HA := Lib.hid hA
  obtain ⟨⟨x, c, hx⟩, _⟩ := ha.cases
  obtain ⟨⟨y, d, hy⟩, _⟩ := hb.cases
  obtain ⟨na, hna⟩ : ∃ n, n = zs.length := ⟨_, rfl⟩
  obtain ⟨nb, hnb⟩ : ∃ n, n = ys.length := ⟨_, rfl⟩
  rw [← hna] at hx
  rw [← hnb] at hy
  subst hx hy
  obtain ⟨w0, hw0⟩ : ∃ w0, w0 = ((w.alloc (.cells #[.slice x na c] 31)).alloc (.cells #[.slice y nb d] 31)).alloc (.cells #[.slice none 0 0] 31) := ⟨_, rfl⟩
  have c1 : w0.cell? ⟨w.heap.size + 1, 0, none⟩ = some (.slice y nb d) := by rw [hw0, World.cell?_alloc_past (hn := by simp), World.cell?_alloc_at (hn := by simp)]; simp
  have c2 : w0.cell? ⟨w.heap.size + 1 + 1, 0, none⟩ = some (.slice none 0 0) := by rw [hw0, World.cell?_alloc_at (hn := by simp)]; simp
  have f2 : w0.frozen? ⟨w.heap.size + 1 + 1, 0, none⟩ = false := by rw [hw0]; exact World.frozen?_alloc_at _ _ _ _ (by simp)
  rw [← hw0] at KA JB HA
  have HW := Lib.hid hw0
  clear ha hb hA hna hnb hw0
  cases hok : fewB zs with
  | false =>
    rw [hok] at KA
    clear hok hno
    go_enter Tryz.func110, Tryz.ntmps110
    go_wp2_with fail
    rw [← HW.out]
    refine KA.out.mono ?_
    rintro e w1 ⟨rfl, hb1⟩
    have c21 := cell_later hb1 c2
    have f21 : w1.frozen? ⟨w.heap.size + 1 + 1, 0, none⟩ = false := free_later' hb1 f2 (World.block_lt_of_cell? _ _ c2)
    have L1 := Lib.hid (HA.out.trans (hb1.mono HA.out.size))
    clear hb1
    go_wp2
    have hr := World.cell?_setCell_same w1 ⟨w.heap.size + 1 + 1, 0, none⟩ (.slice none 0 0) c21
    exact bodyPost_ret (v := .tuple #[.agg #[.slice none 0 0], .bool false]) (by simp [results, Tryz.results110, go_sem, hr]) rfl ⟨rfl, L1.out.setCell (by simp; omega) _⟩
  | true =>
    rw [hok] at KA
    have okb : fewB ys = false := by unfold joinOkF at hno; rw [hok] at hno; simpa using hno
    clear hok hno
    go_enter Tryz.func110, Tryz.ntmps110
    go_wp2_with fail
    rw [← HW.out]
    refine KA.out.mono ?_
    rintro e w1 ⟨rfl, hb1⟩
    have c11 := cell_later hb1 c1
    have c21 := cell_later hb1 c2
    have f21 : w1.frozen? ⟨w.heap.size + 1 + 1, 0, none⟩ = false := free_later' hb1 f2 (World.block_lt_of_cell? _ _ c2)
    have KB := Lib.hid (imFewOk_at w1 _ ys (JB.out.below hb1 (Nat.le_refl _)))
    rw [okb] at KB
    have L1 := Lib.hid (HA.out.trans (hb1.mono HA.out.size))
    clear hb1
    go_wp2_with fail
    refine KB.out.mono ?_
    rintro e w2 ⟨rfl, hb2⟩
    have c22 := cell_later hb2 c21
    have f22 : w2.frozen? ⟨w.heap.size + 1 + 1, 0, none⟩ = false := free_later' hb2 f21 (World.block_lt_of_cell? _ _ c21)
    have L2 := Lib.hid (L1.out.trans (hb2.mono L1.out.size))
    clear hb2
    go_wp2
    have hr := World.cell?_setCell_same w2 ⟨w.heap.size + 1 + 1, 0, none⟩ (.slice none 0 0) c22
    exact bodyPost_ret (v := .tuple #[.agg #[.slice none 0 0], .bool false]) (by simp [results, Tryz.results110, go_sem, hr]) rfl ⟨rfl, L2.out.setCell (by simp; omega) _⟩

theorem imFewJoin_at (w : World) (u v : Value) (zs ys : List Int) (ha : Ints w u zs) (hb : Ints w v ys) :
    Calls Tryz.prog 110 #[.agg #[u], .agg #[v]] w fun e w' => ∃ v', e = .returned (.tuple #[.agg #[v'], .bool (joinOkF zs ys)]) ∧ OwnI w' w.heap.size v' (joinF zs ys) ∧ Below w.heap.size w w' := by
  cases hok : joinOkF zs ys with
  | false =>
    rw [joinF_no hok]
    exact (imFewJoin_no w u v zs ys ha hb hok).mono fun e w' ⟨he, hb⟩ => ⟨_, he, OwnI.nil _ _, hb⟩
  | true =>
    rw [joinF_yes hok]
    have h' := hok
    unfold joinOkF at h'
    simp only [Bool.and_eq_true] at h'
    rw [← both_join (few_asc h'.1) (few_asc h'.2) (fun z h => (few_bd h'.1 z h).2) (fun z h => (few_bd h'.2 z h).2)]
    exact imFewJoin_yes w u v zs ys ha hb h'.1 h'.2

theorem few_one (t : Int) : fewB [markV t] = inThings t := by
  cases h : inThings t with
  | true =>
    have ht := (inThings_iff t).1 h
    have := markV_in ht.1 ht.2
    exact few_of (by simp) (fun z hz => by simp at hz; subst hz; exact this) (by simp)
  | false =>
    have ht := (inThings_no t).1 h
    rw [markV_no ht]
    decide
theorem join_add (zs : List Int) (t : Int) : joinOkF zs [markV t] = addOkF zs t := by unfold joinOkF addOkF; rw [few_one]
theorem joinF_add (zs : List Int) (t : Int) : joinF zs [markV t] = addF zs t := by
  cases h : addOkF zs t with
  | true =>
    rw [addF_yes h, joinF_yes (by rw [join_add]; exact h)]
    unfold addOkF at h
    simp only [Bool.and_eq_true] at h
    exact (put_join (few_asc h.1) _).symm
  | false => rw [addF_no h, joinF_no (by rw [join_add]; exact h)]

end Go.Proofs.YtnoilafoeaknjaaGreat

/-
  The program's FewAdd, and the model's FewJoin.
-/
namespace Go.Proofs.YtnoilafoeaknjaaGreat
open Go.RowKit Go.Sort

set_option maxHeartbeats 2000000 in
theorem imFewAdd_at (w : World) (u : Value) (zs : List Int) (t : Int) (h : Ints w u zs) :
    Calls Tryz.prog 54 #[.agg #[u], .int .i64 t] w fun e w' => ∃ v, e = .returned (.tuple #[.agg #[v], .bool (addOkF zs t)]) ∧ OwnI w' w.heap.size v (addF zs t) ∧ Below w.heap.size w w' := by
  rw [← join_add, ← joinF_add]
  have hA := ((Below.refl w.heap.size w).alloc (Nat.le_refl _) (.cells #[u] 31)).alloc (by simp) (.cells #[.slice none 0 0] 31)
  have I := h.below hA (Nat.le_refl _)
  have KM : Hid (∀ W, Calls Tryz.prog 88 #[.int .i64 t] W fun e w' => e = .returned (.int .i64 (markV t)) ∧ W = w') := fun W => imMark_at t W
  obtain ⟨⟨x, c, hx⟩, _⟩ := h.cases
  obtain ⟨n, hn⟩ : ∃ n, n = zs.length := ⟨_, rfl⟩
  rw [← hn] at hx
  subst hx
  generalize markV t = M at *
  obtain ⟨w0, hw0⟩ : ∃ w0, w0 = (w.alloc (.cells #[.slice x n c] 31)).alloc (.cells #[.slice none 0 0] 31) := ⟨_, rfl⟩
  have cb : w0.cell? ⟨w.heap.size, 0, none⟩ = some (.slice x n c) := by rw [hw0, World.cell?_alloc_past (hn := by simp)]; simp
  have cr : w0.cell? ⟨w.heap.size + 1, 0, none⟩ = some (.slice none 0 0) := by rw [hw0, World.cell?_alloc_at (hn := by simp)]; simp
  have fr : w0.frozen? ⟨w.heap.size + 1, 0, none⟩ = false := by rw [hw0]; exact World.frozen?_alloc_at _ _ _ _ (by simp)
  have S0 : Hid (w0.heap.size = w.heap.size + 2) := by show w0.heap.size = _; rw [hw0]; simp
  rw [← hw0] at hA I
  have hA1 := (Below.refl w0.heap.size w0).drew.alloc (Nat.le_refl _) (.cells #[.int .i64 M] 3)
  have i1 := I.below hA1 (Nat.le_refl _)
  have i2 : Ints (w0.drew.alloc (.cells #[.int .i64 M] 3)) (.slice (some ⟨w0.heap.size, 0, none⟩) 1 1) [M] := by
    refine .inr ⟨w0.heap.size, 0, 1, rfl, Nat.le_refl _, by unfold maxLen; omega, by simp, fun i hi => ?_⟩
    obtain rfl : i = 0 := by simpa using hi
    rw [World.cell?_alloc_at (hn := by simp)]; simp
  have KJ := Lib.hid (imFewJoin_at (w0.drew.alloc (.cells #[.int .i64 M] 3)) _ _ zs [M] i1 i2)
  have cr1 := cell_later hA1 cr
  have fr1 : (w0.drew.alloc (.cells #[.int .i64 M] 3)).frozen? ⟨w.heap.size + 1, 0, none⟩ = false := free_later' hA1 fr (World.block_lt_of_cell? _ _ cr)
  have cb1 := cell_later hA1 cb
  have HA := Lib.hid hA
  have HA1 := Lib.hid hA1
  have HW := Lib.hid hw0
  have l1 : w.heap.size + 1 < w0.heap.size := World.block_lt_of_cell? _ _ cr
  have l0 : w.heap.size < w0.heap.size := by omega
  clear h hn hA I hA1 i1 i2 hw0
  go_enter Tryz.func54, Tryz.ntmps54
  go_wp2_with fail
  rw [← HW.out]
  clear HW
  go_region_with (first
    | (go_at_call 88; refine (KM.out _).mono ?_; rintro e w' ⟨rfl, rfl⟩)
    | (go_at_call 110; refine KJ.out.mono ?_; rintro e w3 ⟨v3, rfl, ho3, hb3⟩; obtain ⟨x3, c3, rfl⟩ := ho3.form; have cr3 := cell_later hb3 cr1; have fr3 : w3.frozen? ⟨w.heap.size + 1, 0, none⟩ = false := free_later' hb3 fr1 (World.block_lt_of_cell? _ _ cr1)))
  all_goals
    have hs := grownBy_setCell w3 ⟨w.heap.size + 1, 0, none⟩ (.slice x3 (joinF zs [M]).length c3)
    have o3 := (ho3.kept hs (fun k e => by simp at e; have := S0.out; simp; omega)).base (B' := w.heap.size) (by have := S0.out; simp; omega)
    have hb4 : Below w.heap.size w (w3.setCell ⟨w.heap.size + 1, 0, none⟩ (.slice x3 (joinF zs [M]).length c3)) := ((HA.out.trans (HA1.out.mono HA.out.size)).trans (hb3.mono (by have := S0.out; simp; omega))).setCell (by simp) _
    have hr := World.cell?_setCell_same w3 ⟨w.heap.size + 1, 0, none⟩ (.slice x3 (joinF zs [M]).length c3) cr3
    have O3 := Lib.hid o3
    have HB4 := Lib.hid hb4
    have HR := Lib.hid hr
    clear ho3 hb3 hs o3 hb4 hr
    generalize (joinF zs [M]).length = n3 at *
    go_wp2
    have hr := HR.out
    exact bodyPost_ret (v := .tuple #[.agg #[.slice x3 n3 c3], .bool (joinOkF zs [M])]) (by simp [results, Tryz.results54, go_sem, hr]) rfl ⟨_, rfl, O3.out, HB4.out⟩

theorem fold_put : ∀ (ys zs : List Int), Asc zs → zs.length ≤ 6 → ys.foldl putV zs = joinV6 zs ys
  | [], zs, _, hl => by show zs = (unionL zs []).take 6; rw [show unionL zs [] = zs from rfl, List.take_of_length_le hl]
  | y :: ys, zs, h, hl => by
    show ys.foldl putV (putV zs y) = (unionL (ins y zs) ys).take 6
    have e : putV zs y = (ins y zs).take 6 := by unfold putV; rw [putL_ins y h]
    rw [e, fold_put ys _ ((ins_asc y h).take) (by simp; omega)]
    exact union_take 6 ys (ins y zs)
theorem fold_take (zs ys : List Int) (k : Nat) (hk : k < ys.length) : (ys.take (k + 1)).foldl putV zs = putV ((ys.take k).foldl putV zs) (ys.getD k 0) := by
  rw [List.take_succ_eq_append_getElem hk, List.foldl_append]
  simp [hk]
theorem fold_len (zs : List Int) (hl : zs.length ≤ 6) : ∀ ys : List Int, (ys.foldl putV zs).length ≤ 6
  | [] => hl
  | y :: ys => fold_len (putV zs y) (putV_len _ _) ys

set_option maxHeartbeats 2000000 in
theorem spFewJoin_no (w : World) (u v : Value) (zs ys : List Int) (ha : Ints w u zs) (hb : Ints w v ys) (hno : joinOkF zs ys = false) :
    Calls Tryz.prog 113 #[.agg #[u], .agg #[v]] w fun e w' => e = .returned (.tuple #[.agg #[.slice none 0 0], .bool false]) ∧ Below w.heap.size w w' := by
  have hA := (((Below.refl w.heap.size w).alloc (Nat.le_refl _) (.cells #[u] 31)).alloc (by simp) (.cells #[v] 31)).alloc (by simp; omega) (.cells #[.slice none 0 0] 31)
  have KA := Lib.hid (spFewOk_at _ u zs (ha.below hA (Nat.le_refl _)))
  have JB := Lib.hid (hb.below hA (Nat.le_refl _))
  have HA := Lib.hid hA
  obtain ⟨⟨x, c, hx⟩, _⟩ := ha.cases
  obtain ⟨⟨y, d, hy⟩, _⟩ := hb.cases
  obtain ⟨na, hna⟩ : ∃ n, n = zs.length := ⟨_, rfl⟩
  obtain ⟨nb, hnb⟩ : ∃ n, n = ys.length := ⟨_, rfl⟩
  rw [← hna] at hx
  rw [← hnb] at hy
  subst hx hy
  obtain ⟨w0, hw0⟩ : ∃ w0, w0 = ((w.alloc (.cells #[.slice x na c] 31)).alloc (.cells #[.slice y nb d] 31)).alloc (.cells #[.slice none 0 0] 31) := ⟨_, rfl⟩
  have c1 : w0.cell? ⟨w.heap.size + 1, 0, none⟩ = some (.slice y nb d) := by rw [hw0, World.cell?_alloc_past (hn := by simp), World.cell?_alloc_at (hn := by simp)]; simp
  have c2 : w0.cell? ⟨w.heap.size + 1 + 1, 0, none⟩ = some (.slice none 0 0) := by rw [hw0, World.cell?_alloc_at (hn := by simp)]; simp
  have f2 : w0.frozen? ⟨w.heap.size + 1 + 1, 0, none⟩ = false := by rw [hw0]; exact World.frozen?_alloc_at _ _ _ _ (by simp)
  rw [← hw0] at KA JB HA
  have HW := Lib.hid hw0
  clear ha hb hA hna hnb hw0
  cases hok : fewB zs with
  | false =>
    rw [hok] at KA
    clear hok hno
    go_enter Tryz.func113, Tryz.ntmps113
    go_wp2_with fail
    rw [← HW.out]
    refine KA.out.mono ?_
    rintro e w1 ⟨rfl, hb1⟩
    have c21 := cell_later hb1 c2
    have f21 : w1.frozen? ⟨w.heap.size + 1 + 1, 0, none⟩ = false := free_later' hb1 f2 (World.block_lt_of_cell? _ _ c2)
    have L1 := Lib.hid (HA.out.trans (hb1.mono HA.out.size))
    clear hb1
    go_wp2
    have hr := World.cell?_setCell_same w1 ⟨w.heap.size + 1 + 1, 0, none⟩ (.slice none 0 0) c21
    exact bodyPost_ret (v := .tuple #[.agg #[.slice none 0 0], .bool false]) (by simp [results, Tryz.results113, go_sem, hr]) rfl ⟨rfl, L1.out.setCell (by simp; omega) _⟩
  | true =>
    rw [hok] at KA
    have okb : fewB ys = false := by unfold joinOkF at hno; rw [hok] at hno; simpa using hno
    clear hok hno
    go_enter Tryz.func113, Tryz.ntmps113
    go_wp2_with fail
    rw [← HW.out]
    refine KA.out.mono ?_
    rintro e w1 ⟨rfl, hb1⟩
    have c11 := cell_later hb1 c1
    have c21 := cell_later hb1 c2
    have f21 : w1.frozen? ⟨w.heap.size + 1 + 1, 0, none⟩ = false := free_later' hb1 f2 (World.block_lt_of_cell? _ _ c2)
    have KB := Lib.hid (spFewOk_at w1 _ ys (JB.out.below hb1 (Nat.le_refl _)))
    rw [okb] at KB
    have L1 := Lib.hid (HA.out.trans (hb1.mono HA.out.size))
    clear hb1
    go_wp2_with fail
    refine KB.out.mono ?_
    rintro e w2 ⟨rfl, hb2⟩
    have c22 := cell_later hb2 c21
    have f22 : w2.frozen? ⟨w.heap.size + 1 + 1, 0, none⟩ = false := free_later' hb2 f21 (World.block_lt_of_cell? _ _ c21)
    have L2 := Lib.hid (L1.out.trans (hb2.mono L1.out.size))
    clear hb2
    go_wp2
    have hr := World.cell?_setCell_same w2 ⟨w.heap.size + 1 + 1, 0, none⟩ (.slice none 0 0) c22
    exact bodyPost_ret (v := .tuple #[.agg #[.slice none 0 0], .bool false]) (by simp [results, Tryz.results113, go_sem, hr]) rfl ⟨rfl, L2.out.setCell (by simp; omega) _⟩

set_option maxHeartbeats 4000000 in
theorem spFewJoin_yes (w : World) (u v : Value) (zs ys : List Int) (ha : Ints w u zs) (hb : Ints w v ys) (oka : fewB zs = true) (okb : fewB ys = true) :
    Calls Tryz.prog 113 #[.agg #[u], .agg #[v]] w fun e w' => ∃ v', e = .returned (.tuple #[.agg #[v'], .bool true]) ∧ OwnI w' w.heap.size v' (ys.foldl putV zs) ∧ Below w.heap.size w w' := by
  obtain ⟨i0, hi, hz0, hz1, hz2⟩ := info_parts few_info
  have hA := (((Below.refl w.heap.size w).alloc (Nat.le_refl _) (.cells #[u] 31)).alloc (by simp) (.cells #[v] 31)).alloc (by simp; omega) (.cells #[.slice none 0 0] 31)
  have IA := Lib.hid (ha.below hA (Nat.le_refl _))
  have KA := Lib.hid (spFewOk_at _ u zs IA.out)
  have JB := Lib.hid (hb.below hA (Nat.le_refl _))
  rw [oka] at KA
  have la := (fewB_parts oka).1
  have lb := (fewB_parts okb).1
  have HA := Lib.hid hA
  obtain ⟨⟨x, c, hx⟩, _⟩ := ha.cases
  obtain ⟨⟨y, d, hy⟩, _⟩ := hb.cases
  obtain ⟨na, hna⟩ : ∃ n, n = zs.length := ⟨_, rfl⟩
  obtain ⟨nb, hnb⟩ : ∃ n, n = ys.length := ⟨_, rfl⟩
  rw [← hna] at hx la
  rw [← hnb] at hy lb
  have NA := Lib.hid hna
  have NB := Lib.hid hnb
  subst hx hy
  obtain ⟨w0, hw0⟩ : ∃ w0, w0 = ((w.alloc (.cells #[.slice x na c] 31)).alloc (.cells #[.slice y nb d] 31)).alloc (.cells #[.slice none 0 0] 31) := ⟨_, rfl⟩
  have c0 : w0.cell? ⟨w.heap.size, 0, none⟩ = some (.slice x na c) := by rw [hw0, World.cell?_alloc_past (hn := by simp; omega), World.cell?_alloc_past (hn := by simp)]; simp
  have c1 : w0.cell? ⟨w.heap.size + 1, 0, none⟩ = some (.slice y nb d) := by rw [hw0, World.cell?_alloc_past (hn := by simp), World.cell?_alloc_at (hn := by simp)]; simp
  have c2 : w0.cell? ⟨w.heap.size + 1 + 1, 0, none⟩ = some (.slice none 0 0) := by rw [hw0, World.cell?_alloc_at (hn := by simp)]; simp
  have f2 : w0.frozen? ⟨w.heap.size + 1 + 1, 0, none⟩ = false := by rw [hw0]; exact World.frozen?_alloc_at _ _ _ _ (by simp)
  rw [← hw0] at KA JB HA IA
  have HW := Lib.hid hw0
  clear ha hb hA hna hnb hw0 oka
  go_enter Tryz.func113, Tryz.ntmps113
  go_wp2_with fail
  rw [← HW.out]
  refine KA.out.mono ?_
  rintro e w1 ⟨rfl, hb1⟩
  have c01 := cell_later hb1 c0
  have c11 := cell_later hb1 c1
  have c21 := cell_later hb1 c2
  have f21 : w1.frozen? ⟨w.heap.size + 1 + 1, 0, none⟩ = false := free_later' hb1 f2 (World.block_lt_of_cell? _ _ c2)
  have IA1 := Lib.hid (IA.out.below hb1 (Nat.le_refl _))
  have IB1 := Lib.hid (JB.out.below hb1 (Nat.le_refl _))
  have KB := Lib.hid (spFewOk_at w1 _ ys IB1.out)
  rw [okb] at KB
  have L1 := Lib.hid (HA.out.trans (hb1.mono HA.out.size))
  clear hb1 c0 c1 c2 f2 okb HW
  go_wp2_with fail
  refine KB.out.mono ?_
  rintro e w2 ⟨rfl, hb2⟩
  have c02 := cell_later hb2 c01
  have c12 := cell_later hb2 c11
  have c22 := cell_later hb2 c21
  have f22 : w2.frozen? ⟨w.heap.size + 1 + 1, 0, none⟩ = false := free_later' hb2 f21 (World.block_lt_of_cell? _ _ c21)
  have L2 := Lib.hid (L1.out.trans (hb2.mono L1.out.size))
  have hAE := (Below.refl w2.heap.size w2).alloc (Nat.le_refl _) (.cells #[] 3)
  have IA2 := Lib.hid ((IA1.out.below hb2 (Nat.le_refl _)).below hAE (Nat.le_refl _))
  have IB2 := Lib.hid (IB1.out.below hb2 (Nat.le_refl _))
  have OE := Lib.hid (few_empty w2 w2.heap.size (Nat.le_refl _))
  have HAE := Lib.hid hAE
  have l22 : w.heap.size + 1 + 1 < w2.heap.size := World.block_lt_of_cell? _ _ c22
  have l0 : w.heap.size < w2.heap.size := by omega
  have d02 := cell_later hAE c02
  have d12 := cell_later hAE c12
  have d22 := cell_later hAE c22
  have g22 : (w2.alloc (.cells #[] 3)).frozen? ⟨w.heap.size + 1 + 1, 0, none⟩ = false := free_later' hAE f22 l22
  clear hb2 c01 c11 c21 f21 hAE
  rcases IA2.out with ⟨e, ez⟩ | ⟨b, o, cc, e, _, _, hbb, hcc⟩
  · obtain ⟨rfl, rfl, rfl⟩ := Value.slice.inj e
    have hL3 : Below w.heap.size w (w2.alloc (.cells #[] 3)) ∧ w2.heap.size ≤ (w2.alloc (.cells #[] 3)).heap.size := ⟨L2.out.trans (HAE.out.mono L2.out.size), by simp⟩
    have hib3 := IB2.out.below HAE.out (Nat.le_refl _)
    have ho3' : OwnI (w2.alloc (.cells #[] 3)) w2.heap.size (.slice (some ⟨w2.heap.size, 0, none⟩) 0 0) zs := by rw [ez]; exact OE.out
    have e3 := And.intro trivial (And.intro d12 (And.intro d22 g22))
    have hl3 : True := trivial
    go_wp2
    · skip
      have L3 := Lib.hid hL3
      have IB3 := Lib.hid hib3
      have O3 := Lib.hid ho3'
      have HE3 := Lib.hid e3
      have lz := hl3
      clear hL3 hib3 ho3' hl3
      go_loopw [6, 7] (fun p i wr => ∃ (k : Nat) (os : List Int), k ≤ nb ∧ i = .int .i64 k ∧ os = (ys.take k).foldl putV zs ∧ OwnI wr w2.heap.size p os ∧ Below (w2.alloc (.cells #[] 3)).heap.size (w2.alloc (.cells #[] 3)) wr) (fun _ i _ => nb - (intOf i).toNat)
      case atStart => exact ⟨0, zs, Nat.zero_le _, rfl, rfl, O3.out, Below.refl _ _⟩
      case round =>
        obtain ⟨k, os, hk, rfl, hos, hown, hbl⟩ := hrel
        have hol : os.length ≤ 6 := by rw [hos]; exact fold_len zs (by rw [← NA.out]; exact la) _
        have bx := cell_later hbl e3.2.1
        have rx := cell_later hbl e3.2.2.1
        have fx : wr.frozen? ⟨w.heap.size + 1 + 1, 0, none⟩ = false := free_later' hbl e3.2.2.2 (World.block_lt_of_cell? _ _ e3.2.2.1)
        have OS := Lib.hid hos
        have OW := Lib.hid hown
        have HB := Lib.hid hbl
        obtain ⟨xp, cp, rfl⟩ := hown.form
        have IB := Lib.hid (IB3.out.below hbl (Nat.le_refl _))
        have KP := Lib.hid (fun m => l2Put_at wr _ os m hown.rd (by omega))
        obtain ⟨np, hnp⟩ : ∃ np, np = os.length := ⟨_, rfl⟩
        rw [← hnp] at KP OW hol ⊢
        have NP := Lib.hid hnp
        have szr := Lib.hid hbl.size
        clear hos hown hbl hnp e3
        by_cases hlt : k < nb
        · have hcy : ∃ b o, y = some ⟨b, o, none⟩ ∧ wr.cell? ⟨b, o + k, none⟩ = some (.int .i64 (ys.getD k 0)) := by
            rcases IB.out with ⟨e, _⟩ | ⟨b, o, cc, e, _, _, _, hc⟩
            · have := (Value.slice.inj e).2.1; omega
            · exact ⟨b, o, (Value.slice.inj e).1, hc k (by rw [← NB.out]; exact hlt)⟩
          obtain ⟨b, o, rfl, hcy⟩ := hcy
          have ft := Lib.hid (fold_take zs ys k (by rw [← NB.out]; exact hlt))
          obtain ⟨q, hq⟩ : ∃ q, q = ys.getD k 0 := ⟨_, rfl⟩
          rw [← hq] at hcy ft
          have KQ := Lib.hid (KP.out q)
          have k0 : (0 : Int) ≤ (k : Int) := by omega
          have kn : (k : Int) < (nb : Int) := by omega
          clear hq
          go_wp2_with fail
          refine KQ.out.mono ?_
          rintro e w5 ⟨v5, rfl, ho5, hb5⟩
          go_wp2
          go_roundw
          case rel => exact ⟨k + 1, putV os q, by omega, by go_num, by rw [ft.out, ← OS.out], ho5.base (by have h1 := szr.out; have h2 := L3.out.2; omega), HB.out.trans (hb5.mono szr.out)⟩
          case measure => simp [intOf]; omega
        · obtain rfl : k = nb := by omega
          have fin : Hid (os = ys.foldl putV zs) := by show os = _; rw [OS.out, List.take_of_length_le (by rw [← NB.out]; exact Nat.le_refl _)]
          have hs := grownBy_setCell wr ⟨w.heap.size + 1 + 1, 0, none⟩ (.slice xp np cp)
          have o4 := ((show OwnI wr w2.heap.size (.slice xp np cp) os from OW.out).kept hs (fun k e => by simp at e; omega)).base (B' := w.heap.size) (by omega)
          have hb4 : Below w.heap.size w (wr.setCell ⟨w.heap.size + 1 + 1, 0, none⟩ (.slice xp np cp)) := (L3.out.1.trans (HB.out.mono L3.out.1.size)).setCell (by simp; omega) _
          have O4 := Lib.hid o4
          have HB4 := Lib.hid hb4
          clear hs o4 hb4
          go_wp2
          have hr := World.cell?_setCell_same wr ⟨w.heap.size + 1 + 1, 0, none⟩ (.slice xp np cp) rx
          exact bodyPost_ret (v := .tuple #[.agg #[.slice xp np cp], .bool true]) (by simp [results, Tryz.results113, go_sem, hr]) rfl ⟨_, rfl, by rw [← fin.out]; exact O4.out, HB4.out⟩
  · have ex := (Value.slice.inj e).1
    have ec := (Value.slice.inj e).2.2
    rw [← NA.out] at hcc
    clear e
    subst ex ec
    have news : ∀ j u, (ints zs)[j]? = some u → (w2.alloc (.cells #[] 3)).cell? ((⟨b, o, none⟩ : Addr).add j) = some u := fun j u hj => by
      have hlt : j < zs.length := by
        have := (List.getElem?_eq_some_iff.1 hj).1
        rw [ints_len] at this; exact this
      have e : (⟨b, o, none⟩ : Addr).add j = ⟨b, o + j, none⟩ := by unfold Addr.add; split <;> simp_all
      rw [e, hcc j (by rw [NA.out]; exact hlt), ← hj, ints_get _ _ hlt]
    have ones : ∀ u ∈ ints zs, u.oneCell' = true := fun u hu => by simp [ints] at hu; obtain ⟨z, _, rfl⟩ := hu; rfl
    have NEWS := Lib.hid news
    have ONES := Lib.hid ones
    clear news ones hcc
    go_wp2_with (first | (at_builtin; refine wpList_append_own _ rfl _ _ 23 rfl w2.heap.size 3 i0 (.int .i64 0) 1 8 Tryz.underlying23 hi hz0 hz1 hz2 rfl (by decide) (.slice (some ⟨w2.heap.size, 0, none⟩) 0 0) 0 [] rfl OE.out ⟨b, o, none⟩ na c (ints zs) rfl (by rw [ints_len, ← NA.out]; omega) NEWS.out ONES.out (by unfold maxLen; omega) (by omega) (by simp) ?_; intro v3 w3 ho3 hg3 _; have hf3 := (show OwnI w3 w2.heap.size v3 zs from by have h := ho3; rw [Nat.zero_add, List.nil_append, NA.out] at h; exact h); obtain ⟨x3, c3, rfl⟩ := hf3.form))
    · have hL3 : Below w.heap.size w w3 ∧ w2.heap.size ≤ w3.heap.size := by
        have := hg3.size
        simp at this
        exact ⟨(L2.out.trans (HAE.out.mono L2.out.size)).grown hg3 (by have := L2.out.size; simp; omega) (fun k e => by simp [Value.ownBlock] at e; have := L2.out.size; omega), by omega⟩
      have hib3 : Ints w3 (.slice y nb d) ys := (IB2.out.below HAE.out (Nat.le_refl _)) |> fun h => by
        rcases IB2.out with ⟨e1, e2⟩ | ⟨b', o', c', e1, q1, q2, q3, q4⟩
        · exact .inl ⟨e1, e2⟩
        · exact .inr ⟨b', o', c', e1, q1, q2, by omega, fun i hi => hg3.cell (((HAE.out.cell (p := ⟨b', o' + i, none⟩) q3)).trans (q4 i hi)) (by simp [Value.ownBlock]; omega)⟩
      have ho3' : OwnI w3 w2.heap.size (.slice x3 zs.length c3) zs := hf3
      have e3 : True ∧ w3.cell? ⟨w.heap.size + 1, 0, none⟩ = some (.slice y nb d) ∧ w3.cell? ⟨w.heap.size + 1 + 1, 0, none⟩ = some (.slice none 0 0) ∧ w3.frozen? ⟨w.heap.size + 1 + 1, 0, none⟩ = false :=
        ⟨trivial, hg3.cell d12 (by simp [Value.ownBlock]; omega), hg3.cell d22 (by simp [Value.ownBlock]; omega), (hg3.frozen_far ⟨w.heap.size + 1 + 1, 0, none⟩ (World.block_lt_of_cell? _ _ d22) (by simp [Value.ownBlock]; omega)).trans g22⟩
      have hl3 : True := trivial
      clear ho3 hg3 hf3
      have L3 := Lib.hid hL3
      have IB3 := Lib.hid hib3
      have O3 := Lib.hid ho3'
      have HE3 := Lib.hid e3
      have lz := hl3
      clear hL3 hib3 ho3' hl3
      go_loopw [6, 7] (fun p i wr => ∃ (k : Nat) (os : List Int), k ≤ nb ∧ i = .int .i64 k ∧ os = (ys.take k).foldl putV zs ∧ OwnI wr w2.heap.size p os ∧ Below w3.heap.size w3 wr) (fun _ i _ => nb - (intOf i).toNat)
      case atStart => exact ⟨0, zs, Nat.zero_le _, rfl, rfl, O3.out, Below.refl _ _⟩
      case round =>
        obtain ⟨k, os, hk, rfl, hos, hown, hbl⟩ := hrel
        have hol : os.length ≤ 6 := by rw [hos]; exact fold_len zs (by rw [← NA.out]; exact la) _
        have bx := cell_later hbl e3.2.1
        have rx := cell_later hbl e3.2.2.1
        have fx : wr.frozen? ⟨w.heap.size + 1 + 1, 0, none⟩ = false := free_later' hbl e3.2.2.2 (World.block_lt_of_cell? _ _ e3.2.2.1)
        have OS := Lib.hid hos
        have OW := Lib.hid hown
        have HB := Lib.hid hbl
        obtain ⟨xp, cp, rfl⟩ := hown.form
        have IB := Lib.hid (IB3.out.below hbl (Nat.le_refl _))
        have KP := Lib.hid (fun m => l2Put_at wr _ os m hown.rd (by omega))
        obtain ⟨np, hnp⟩ : ∃ np, np = os.length := ⟨_, rfl⟩
        rw [← hnp] at KP OW hol ⊢
        have NP := Lib.hid hnp
        have szr := Lib.hid hbl.size
        clear hos hown hbl hnp e3
        by_cases hlt : k < nb
        · have hcy : ∃ b o, y = some ⟨b, o, none⟩ ∧ wr.cell? ⟨b, o + k, none⟩ = some (.int .i64 (ys.getD k 0)) := by
            rcases IB.out with ⟨e, _⟩ | ⟨b, o, cc, e, _, _, _, hc⟩
            · have := (Value.slice.inj e).2.1; omega
            · exact ⟨b, o, (Value.slice.inj e).1, hc k (by rw [← NB.out]; exact hlt)⟩
          obtain ⟨b, o, rfl, hcy⟩ := hcy
          have ft := Lib.hid (fold_take zs ys k (by rw [← NB.out]; exact hlt))
          obtain ⟨q, hq⟩ : ∃ q, q = ys.getD k 0 := ⟨_, rfl⟩
          rw [← hq] at hcy ft
          have KQ := Lib.hid (KP.out q)
          have k0 : (0 : Int) ≤ (k : Int) := by omega
          have kn : (k : Int) < (nb : Int) := by omega
          clear hq
          go_wp2_with fail
          refine KQ.out.mono ?_
          rintro e w5 ⟨v5, rfl, ho5, hb5⟩
          go_wp2
          go_roundw
          case rel => exact ⟨k + 1, putV os q, by omega, by go_num, by rw [ft.out, ← OS.out], ho5.base (by have h1 := szr.out; have h2 := L3.out.2; omega), HB.out.trans (hb5.mono szr.out)⟩
          case measure => simp [intOf]; omega
        · obtain rfl : k = nb := by omega
          have fin : Hid (os = ys.foldl putV zs) := by show os = _; rw [OS.out, List.take_of_length_le (by rw [← NB.out]; exact Nat.le_refl _)]
          have hs := grownBy_setCell wr ⟨w.heap.size + 1 + 1, 0, none⟩ (.slice xp np cp)
          have o4 := ((show OwnI wr w2.heap.size (.slice xp np cp) os from OW.out).kept hs (fun k e => by simp at e; omega)).base (B' := w.heap.size) (by omega)
          have hb4 : Below w.heap.size w (wr.setCell ⟨w.heap.size + 1 + 1, 0, none⟩ (.slice xp np cp)) := (L3.out.1.trans (HB.out.mono L3.out.1.size)).setCell (by simp; omega) _
          have O4 := Lib.hid o4
          have HB4 := Lib.hid hb4
          clear hs o4 hb4
          go_wp2
          have hr := World.cell?_setCell_same wr ⟨w.heap.size + 1 + 1, 0, none⟩ (.slice xp np cp) rx
          exact bodyPost_ret (v := .tuple #[.agg #[.slice xp np cp], .bool true]) (by simp [results, Tryz.results113, go_sem, hr]) rfl ⟨_, rfl, by rw [← fin.out]; exact O4.out, HB4.out⟩

theorem spFewJoin_at (w : World) (u v : Value) (zs ys : List Int) (ha : Ints w u zs) (hb : Ints w v ys) :
    Calls Tryz.prog 113 #[.agg #[u], .agg #[v]] w fun e w' => ∃ v', e = .returned (.tuple #[.agg #[v'], .bool (joinOkF zs ys)]) ∧ OwnI w' w.heap.size v' (joinF zs ys) ∧ Below w.heap.size w w' := by
  cases hok : joinOkF zs ys with
  | false =>
    rw [joinF_no hok]
    exact (spFewJoin_no w u v zs ys ha hb hok).mono fun e w' ⟨he, hb⟩ => ⟨_, he, OwnI.nil _ _, hb⟩
  | true =>
    rw [joinF_yes hok]
    have h' := hok
    unfold joinOkF at h'
    simp only [Bool.and_eq_true] at h'
    rw [← fold_put ys zs (few_asc h'.1) (fewB_parts h'.1).1]
    exact spFewJoin_yes w u v zs ys ha hb h'.1 h'.2

end Go.Proofs.YtnoilafoeaknjaaGreat
