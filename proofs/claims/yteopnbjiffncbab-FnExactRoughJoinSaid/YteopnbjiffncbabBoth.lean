/-
  The marks of both, ranged over: marksOfBoth and its closure.
-/
import Derived.Test.YteopnbjiffncbabPut
import Derived.RangeFuncBox
import Derived.RangeFuncNested
import Derived.RangeFuncBound
import Derived.RangeFuncCalls
import Derived.RangeFuncLeaves
import Derived.Shelf.Abstract
import Derived.Shelf.RegionOpen
import Derived.OwnWalkIn
import Derived.TacticsInMore
import Derived.LoopNIn
import Derived.LoopIn
namespace Go.Proofs.Yteopnbjiffncbab
open Go.RowKit Go.Shelf

attribute [local go_sem] Oper.semAt_some

/-- The value v reads as zs, in a block below n₀. -/
def InB (n₀ : Nat) (w : World) (v : Value) (zs : List Int) : Prop :=
  (v = .slice none 0 0 ∧ zs = []) ∨
  ∃ b o c, v = .slice (some ⟨b, o, none⟩) zs.length c ∧ zs.length ≤ c ∧ c ≤ maxLen ∧ b < n₀ ∧ ∀ i, i < zs.length → w.cell? ⟨b, o + i, none⟩ = some (.int .i64 (zs.getD i 0))
theorem InB.below {n₀ : Nat} {w w' : World} {v : Value} {zs : List Int} (h : InB n₀ w v zs) (hb : Below n₀ w w') : InB n₀ w' v zs := by
  rcases h with h | ⟨b, o, c, e, h1, h2, h3, h4⟩
  · exact .inl h
  · exact .inr ⟨b, o, c, e, h1, h2, h3, fun i hi => (hb.cell (p := ⟨b, o + i, none⟩) h3).trans (h4 i hi)⟩
theorem Ints.inB {w : World} {v : Value} {zs : List Int} (h : Ints w v zs) : InB w.heap.size w v zs := h

/-- The first mark of a list, 64 of none. -/
def firstV (zs : List Int) : Int := match zs with | [] => 64 | x :: _ => x
/-- Without the mark m, if it is the first. -/
def behindV (zs : List Int) (m : Int) : List Int := if firstV zs = m then zs.tail else zs

theorem firstMark_at (n₀ : Nat) (w : World) (v : Value) (zs : List Int) (h : InB n₀ w v zs) :
    Calls Try.prog 73 #[v] w fun e w' => e = .returned (.int .i64 (firstV zs)) ∧ w = w' := by
  rcases h with ⟨rfl, rfl⟩ | ⟨b, o, c, rfl, h1, h2, _, h4⟩
  · go_enter Try.func73, Try.ntmps73
    go_wp2
    go_ret
    exact ⟨rfl, rfl⟩
  · cases zs with
    | nil =>
      go_enter Try.func73, Try.ntmps73
      go_wp2
      go_ret
      exact ⟨rfl, rfl⟩
    | cons x zs =>
      have h5 : w.cell? ⟨b, o, none⟩ = some (.int .i64 x) := h4 0 (by simp)
      obtain ⟨n, hn⟩ : ∃ n, n = (x :: zs).length := ⟨_, rfl⟩
      have hp : 0 < n := by rw [hn]; simp
      rw [← hn]
      have n0 : ((n : Int) == 0) = false := by simp; omega
      have n1 : (0 : Int) < (n : Int) := by omega
      clear h1 h2 h4 hn
      go_enter Try.func73, Try.ntmps73
      go_wp2
      go_ret
      exact ⟨rfl, rfl⟩

theorem behindMark_at (n₀ : Nat) (w : World) (v : Value) (zs : List Int) (m : Int) (h : InB n₀ w v zs) (hm : zs = [] → m ≠ 64) :
    Calls Try.prog 74 #[v, .int .i64 m] w fun e w' => ∃ x c, e = .returned (.slice x (behindV zs m).length c) ∧ InB n₀ w (.slice x (behindV zs m).length c) (behindV zs m) ∧ w = w' := by
  have KF : Hid (Calls Try.prog 73 #[v] w fun e w' => e = .returned (.int .i64 (firstV zs)) ∧ w = w') := firstMark_at n₀ w v zs h
  by_cases hf : firstV zs = m
  · have hne : zs ≠ [] := fun e => hm e (by rw [← hf, e]; rfl)
    rcases h with ⟨_, e⟩ | ⟨b, o, c, rfl, h1, h2, h3, h4⟩
    · exact absurd e hne
    have hlen : 0 < zs.length := List.length_pos_iff.2 hne
    have tl : ∀ i, i < zs.tail.length → zs.tail.getD i 0 = zs.getD (i + 1) 0 := fun i hi => by simp
    have lt : zs.tail.length = zs.length - 1 := by simp
    have IN : Hid (∀ o' c', zs.tail.length ≤ c' → c' ≤ maxLen → (o' = o + 1 ∨ zs.tail.length = 0) → InB n₀ w (.slice (some ⟨b, o', none⟩) zs.tail.length c') zs.tail) := fun o' c' q1 q2 q3 => .inr ⟨b, o', c', rfl, q1, q2, h3, fun i hi => by
      rcases q3 with q3 | q3
      · rw [tl i hi, ← h4 (i + 1) (by omega), q3, show o + 1 + i = o + (i + 1) by omega]
      · omega⟩
    have eb : behindV zs m = zs.tail := if_pos hf
    rw [eb]
    rw [hf] at KF
    obtain ⟨n, hn⟩ : ∃ n, n = zs.length := ⟨_, rfl⟩
    obtain ⟨k, hk⟩ : ∃ k, k = zs.tail.length := ⟨_, rfl⟩
    rw [← hn] at KF hlen lt h1
    rw [← hn, ← hk]
    rw [← hk] at IN lt
    have n1 : (1 : Int) ≤ (n : Int) := by omega
    have c1 : (n : Int) ≤ (c : Int) := by omega
    have ek : k = n - 1 := lt
    subst ek
    clear hn hk h4 tl lt hf hne hm eb
    by_cases hc : c = 1
    · subst hc
      obtain rfl : n = 1 := by omega
      go_enter Try.func74, Try.ntmps74
      go_wp2_with fail
      refine KF.out.mono ?_
      rintro e w1 ⟨rfl, rfl⟩
      go_wp2
      go_ret
      exact ⟨_, _, rfl, IN.out _ _ (by omega) (by omega) (.inr (by simp)), rfl⟩
    · go_enter Try.func74, Try.ntmps74
      go_wp2_with fail
      refine KF.out.mono ?_
      rintro e w1 ⟨rfl, rfl⟩
      go_wp2
      go_ret
      exact ⟨_, _, rfl, IN.out _ _ (by omega) (by omega) (.inl rfl), rfl⟩
  · have eb : behindV zs m = zs := if_neg hf
    have hf' : (firstV zs == m) = false := by simpa using hf
    have hd : decide (firstV zs = m) = false := by simpa using hf
    rw [eb]
    have I := Lib.hid h
    obtain ⟨x, c, hx⟩ : ∃ x c, v = .slice x zs.length c := by
      rcases h with ⟨rfl, rfl⟩ | ⟨b, o, c, rfl, _⟩
      · exact ⟨_, _, rfl⟩
      · exact ⟨_, _, rfl⟩
    obtain ⟨n, hn⟩ : ∃ n, n = zs.length := ⟨_, rfl⟩
    rw [← hn] at hx ⊢
    subst hx
    generalize firstV zs = F at *
    clear h hn eb hf hm
    go_enter Try.func74, Try.ntmps74
    go_wp2_with fail
    refine KF.out.mono ?_
    rintro e w1 ⟨rfl, rfl⟩
    go_wp2
    go_ret
    exact ⟨_, _, rfl, I.out, rfl⟩

/-- The marks of both, the least first, each once, at most so many. -/
def bothL : Nat → List Int → List Int → List Int
  | 0, _, _ => []
  | k + 1, zs, ys => if zs = [] ∧ ys = [] then [] else min (firstV zs) (firstV ys) :: bothL k (behindV zs (min (firstV zs) (firstV ys))) (behindV ys (min (firstV zs) (firstV ys)))
def bothV (zs ys : List Int) : List Int := bothL (zs.length + ys.length) zs ys
theorem bothL_len : ∀ k zs ys, (bothL k zs ys).length ≤ k
  | 0, _, _ => by simp [bothL]
  | k + 1, zs, ys => by
    unfold bothL
    split
    · simp
    · simp only [List.length_cons]; have := bothL_len k (behindV zs (min (firstV zs) (firstV ys))) (behindV ys (min (firstV zs) (firstV ys))); omega
theorem behindV_len (zs : List Int) (m : Int) : (behindV zs m).length ≤ zs.length := by unfold behindV; split <;> simp
theorem firstV_ne {zs : List Int} (h : ∀ z ∈ zs, z < 64) (hn : zs ≠ []) : firstV zs < 64 := by
  cases zs with
  | nil => exact absurd rfl hn
  | cons x xs => exact h x (by simp)
theorem both_less {zs ys : List Int} (hz : ∀ z ∈ zs, z < 64) (hy : ∀ z ∈ ys, z < 64) (h : ¬ (zs = [] ∧ ys = [])) :
    min (firstV zs) (firstV ys) < 64 ∧ (behindV zs (min (firstV zs) (firstV ys))).length + (behindV ys (min (firstV zs) (firstV ys))).length < zs.length + ys.length := by
  have l1 := behindV_len zs (min (firstV zs) (firstV ys))
  have l2 := behindV_len ys (min (firstV zs) (firstV ys))
  have less : ∀ us : List Int, us ≠ [] → firstV us = min (firstV zs) (firstV ys) → (behindV us (min (firstV zs) (firstV ys))).length < us.length := fun us hu e => by
    unfold behindV
    rw [if_pos e]
    cases us with
    | nil => exact absurd rfl hu
    | cons x xs => simp
  by_cases h1 : zs = []
  · have h2 : ys ≠ [] := fun e => h ⟨h1, e⟩
    have f2 := firstV_ne hy h2
    have f1 : firstV zs = 64 := by rw [h1]; rfl
    have := less ys h2 (by omega)
    exact ⟨by omega, by omega⟩
  · have f1 := firstV_ne hz h1
    by_cases h3 : firstV zs ≤ firstV ys
    · have := less zs h1 (by omega)
      exact ⟨by omega, by omega⟩
    · have h2 : ys ≠ [] := fun e => h3 (by rw [e]; show firstV zs ≤ 64; omega)
      have := less ys h2 (by omega)
      exact ⟨by omega, by omega⟩
theorem behindV_mem {zs : List Int} {m z : Int} (h : z ∈ behindV zs m) : z ∈ zs := by
  unfold behindV at h
  split at h
  · exact List.mem_of_mem_tail h
  · exact h

def sliceN : Value → Nat
  | .slice _ n _ => n
  | _ => 0

set_option maxRecDepth 100000 in
set_option maxHeartbeats 4000000 in
theorem both1_in (n : Nat) (hn : 1 ≤ n) (l Ba Bb n₀ : Nat) (u v : Value) (zs ys : List Int) (hz : ∀ z ∈ zs, z < 64) (hy : ∀ z ∈ ys, z < 64) (J Jx : List Int → World → Prop)
    (hY : ∀ pre x W, J pre W → pre.length < zs.length + ys.length → YieldAt Fence.wide (n - 1) Try.prog l #[.int .i64 x] W fun e W' =>
      (e = .returned (.bool true) ∧ J (pre ++ [x]) W' ∧ Below n₀ W W') ∨ (e = .returned (.bool false) ∧ Jx (pre ++ [x]) W'))
    (hJd : ∀ s W1, J s W1 → J s W1.drew) (W : World) (hA : W.cell? ⟨Ba, 0, none⟩ = some u) (hB : W.cell? ⟨Bb, 0, none⟩ = some v) (iA : InB n₀ W u zs) (iB : InB n₀ W v ys) (h0 : J [] W) :
    CallsIn Fence.wide n Try.prog 72 #[.func (.yield l) #[] #[], .pointer (some ⟨Ba, 0, none⟩), .pointer (some ⟨Bb, 0, none⟩)] W fun e W' => (∃ v, e = .returned v) ∧
      ((∃ xs, xs = bothV zs ys ∧ J xs W') ∨ (∃ pre, pre <+: bothV zs ys ∧ Jx pre W')) := by
  have form : ∀ {v zs}, InB n₀ W v zs → ∃ x c, v = .slice x zs.length c := fun h => by
    rcases h with ⟨rfl, rfl⟩ | ⟨b, o, c, rfl, _⟩
    · exact ⟨_, _, rfl⟩
    · exact ⟨_, _, rfl⟩
  obtain ⟨xa, ca, rfl⟩ := form iA
  obtain ⟨xb, cb, rfl⟩ := form iB
  obtain ⟨na, hna⟩ : ∃ na, na = zs.length := ⟨_, rfl⟩
  obtain ⟨nb, hnb⟩ : ∃ nb, nb = ys.length := ⟨_, rfl⟩
  rw [← hna] at hA iA
  rw [← hnb] at hB iB
  have NA := Lib.hid hna
  have NB := Lib.hid hnb
  have IA := Lib.hid iA
  have IB := Lib.hid iB
  have HY := Lib.hid hY
  have HZ := Lib.hid hz
  have HYS := Lib.hid hy
  have H0 := Lib.hid h0
  clear form hna hnb iA iB hY hz hy h0
  refine callsIn_of_wp Try.func72 rfl trivial ?_ rfl
  simp only [Try.ntmps72, List.size_toArray, List.length_cons, List.length_nil, Nat.reduceAdd, Nat.reduceSub, Array.replicate_succ, Array.replicate_zero, List.push_toArray, List.append_toArray, List.nil_append, List.cons_append]
  gi_wp2
  gi_region
  gi_wp2
  gi_loopw [4, 5] (fun p q wr => ∃ (pre xs ys' : List Int) (k : Nat), InB n₀ wr p xs ∧ InB n₀ wr q ys' ∧ (∀ z ∈ xs, z < 64) ∧ (∀ z ∈ ys', z < 64) ∧ pre ++ bothL k xs ys' = bothV zs ys ∧ xs.length + ys'.length ≤ k ∧ pre.length + (xs.length + ys'.length) ≤ zs.length + ys.length ∧ sliceN p = xs.length ∧ sliceN q = ys'.length ∧ J pre wr)
    (fun p q _ => sliceN p + sliceN q)
  case atStart => exact ⟨[], zs, ys, zs.length + ys.length, IA.out, IB.out, HZ.out, HYS.out, rfl, Nat.le_refl _, by simp, NA.out, NB.out, hJd _ _ H0.out⟩
  case round =>
    obtain ⟨pre, xs, ys', k, ia, ib, hx, hy', hb, hk, hpre, sa, sb, hJs⟩ := hrel
    have form : ∀ {v zs}, InB n₀ wr v zs → ∃ x c, v = .slice x zs.length c := fun h => by
      rcases h with ⟨rfl, rfl⟩ | ⟨b, o, c, rfl, _⟩
      · exact ⟨_, _, rfl⟩
      · exact ⟨_, _, rfl⟩
    obtain ⟨ya, da, rfl⟩ := form ia
    obtain ⟨yb, db, rfl⟩ := form ib
    clear form sa sb
    by_cases hE : xs = [] ∧ ys' = []
    · obtain ⟨rfl, rfl⟩ := hE
      have fin : Hid (pre = bothV zs ys) := by
        have e : bothL k [] [] = [] := by
          cases k with
          | zero => rfl
          | succ k => simp [bothL]
        show pre = _
        rw [← hb, e, List.append_nil]
      have HJ := Lib.hid hJs
      clear ia ib hx hy' hb hk hpre hJs
      gi_wp2
      go_end0
      exact ⟨⟨_, rfl⟩, .inl ⟨pre, fin.out, HJ.out⟩⟩
    · have hl := both_less hx hy' hE
      obtain ⟨k', rfl⟩ : ∃ k', k = k' + 1 := by
        cases k with
        | zero => exact absurd ⟨List.eq_nil_of_length_eq_zero (by omega), List.eq_nil_of_length_eq_zero (by omega)⟩ hE
        | succ k => exact ⟨k, rfl⟩
      have hb' : pre ++ [min (firstV xs) (firstV ys')] ++ bothL k' (behindV xs (min (firstV xs) (firstV ys'))) (behindV ys' (min (firstV xs) (firstV ys'))) = bothV zs ys := by
        rw [← hb]
        conv => rhs; unfold bothL
        rw [if_neg hE]
        simp
      have KA := Lib.hid (firstMark_at n₀ wr _ xs ia)
      have KB := Lib.hid (firstMark_at n₀ wr _ ys' ib)
      obtain ⟨M, hM⟩ : ∃ M, M = min (firstV xs) (firstV ys') := ⟨_, rfl⟩
      rw [← hM] at hl hb'
      have HB := Lib.hid hb'
      have LE := Lib.hid hl
      have LT : Hid (pre.length < zs.length + ys.length) := by
        have : 0 < xs.length + ys'.length := by omega
        show pre.length < _
        omega
      have JS := Lib.hid hJs
      have RA : Hid (∀ W3, Below n₀ wr W3 → Calls Try.prog 74 #[.slice ya xs.length da, .int .i64 M] W3 fun e w' => ∃ x c, e = .returned (.slice x (behindV xs M).length c) ∧ InB n₀ W3 (.slice x (behindV xs M).length c) (behindV xs M) ∧ W3 = w') := fun W3 h3 =>
        behindMark_at n₀ W3 _ xs M (ia.below h3) (fun _ => by omega)
      have RB : Hid (∀ W3, Below n₀ wr W3 → Calls Try.prog 74 #[.slice yb ys'.length db, .int .i64 M] W3 fun e w' => ∃ x c, e = .returned (.slice x (behindV ys' M).length c) ∧ InB n₀ W3 (.slice x (behindV ys' M).length c) (behindV ys' M) ∧ W3 = w') := fun W3 h3 =>
        behindMark_at n₀ W3 _ ys' M (ib.below h3) (fun _ => by omega)
      have MA : Hid (∀ z ∈ behindV xs M, z < 64) := fun z h => hx z (behindV_mem h)
      have MB : Hid (∀ z ∈ behindV ys' M, z < 64) := fun z h => hy' z (behindV_mem h)
      have HPR := Lib.hid hpre
      have HK := Lib.hid hk
      have pos : 0 < xs.length ∨ (xs.length = 0 ∧ 0 < ys'.length) := by omega
      obtain ⟨fn, tmps, assign, body, hy, hR⟩ := HY.out pre M wr hJs LT.out
      obtain ⟨nx, hnx⟩ : ∃ nx, nx = xs.length := ⟨_, rfl⟩
      obtain ⟨ny, hny⟩ : ∃ ny, ny = ys'.length := ⟨_, rfl⟩
      rw [← hnx] at KA RA pos ⊢
      rw [← hny] at KB RB pos ⊢
      have NX := Lib.hid hnx
      have NY := Lib.hid hny
      generalize firstV xs = f1 at *
      generalize firstV ys' = f2 at *
      clear ia ib hx hy' hb hb' hk hpre hJs hl hE hnx hny
      have hmin : (f1 ≤ f2 ∧ M = f1) ∨ (¬ f1 ≤ f2 ∧ M = f2) := by omega
      clear hM
      rcases pos with px | ⟨rfl, py⟩
      · have px' : (0 : Int) < (nx : Int) := by omega
        rcases hmin with ⟨hle, rfl⟩ | ⟨hle, rfl⟩
        · gi_wp2_with (first
            | (refine ⟨trivial, ?_⟩; gi_at_call 73; (with_reducible refine (callsIn_wide.2 KA.out).mono ?_); rintro e w1 ⟨rfl, rfl⟩; clear KA)
            | (refine ⟨trivial, ?_⟩; gi_at_call 73; (with_reducible refine (callsIn_wide.2 KB.out).mono ?_); rintro e w1 ⟨rfl, rfl⟩; clear KB))
          refine hR.mono ?_
          rintro e W3 (⟨rfl, hJ3, hk3⟩ | ⟨rfl, hJx3⟩)
          · have RA3 := Lib.hid (RA.out W3 hk3)
            have RB3 := Lib.hid (RB.out W3 hk3)
            have J3 := Lib.hid hJ3
            clear RA RB hk3 hJ3 hR hy
            gi_wp2_with (first
              | (refine ⟨trivial, ?_⟩; gi_at_call 74; (with_reducible refine (callsIn_wide.2 RA3.out).mono ?_); rintro e w1 ⟨qa, ea, rfl, oa, rfl⟩; clear RA3)
              | (refine ⟨trivial, ?_⟩; gi_at_call 74; (with_reducible refine (callsIn_wide.2 RB3.out).mono ?_); rintro e w1 ⟨qb, eb, rfl, ob, rfl⟩; clear RB3))
            go_roundw
            case rel => exact ⟨pre ++ [M], behindV xs M, behindV ys' M, k', oa, ob, MA.out, MB.out, HB.out, by have h1 := LE.out; have h2 := HK.out; omega, by have h1 := LE.out; have h2 := HPR.out; simp; omega, rfl, rfl, J3.out⟩
            case measure => have h1 := LE.out; have h2 := NX.out; have h3 := NY.out; simp [sliceN]; omega
          · have JX := Lib.hid hJx3
            have PF : Hid (pre ++ [M] <+: bothV zs ys) := ⟨_, HB.out⟩
            clear hJx3
            gi_wp2
            refine bodyPost_ret (results_none rfl _ _ _) rfl ?_
            exact ⟨⟨_, rfl⟩, .inr ⟨pre ++ [M], PF.out, JX.out⟩⟩
        · gi_wp2_with (first
            | (refine ⟨trivial, ?_⟩; gi_at_call 73; (with_reducible refine (callsIn_wide.2 KA.out).mono ?_); rintro e w1 ⟨rfl, rfl⟩; clear KA)
            | (refine ⟨trivial, ?_⟩; gi_at_call 73; (with_reducible refine (callsIn_wide.2 KB.out).mono ?_); rintro e w1 ⟨rfl, rfl⟩; clear KB))
          refine hR.mono ?_
          rintro e W3 (⟨rfl, hJ3, hk3⟩ | ⟨rfl, hJx3⟩)
          · have RA3 := Lib.hid (RA.out W3 hk3)
            have RB3 := Lib.hid (RB.out W3 hk3)
            have J3 := Lib.hid hJ3
            clear RA RB hk3 hJ3 hR hy
            gi_wp2_with (first
              | (refine ⟨trivial, ?_⟩; gi_at_call 74; (with_reducible refine (callsIn_wide.2 RA3.out).mono ?_); rintro e w1 ⟨qa, ea, rfl, oa, rfl⟩; clear RA3)
              | (refine ⟨trivial, ?_⟩; gi_at_call 74; (with_reducible refine (callsIn_wide.2 RB3.out).mono ?_); rintro e w1 ⟨qb, eb, rfl, ob, rfl⟩; clear RB3))
            go_roundw
            case rel => exact ⟨pre ++ [M], behindV xs M, behindV ys' M, k', oa, ob, MA.out, MB.out, HB.out, by have h1 := LE.out; have h2 := HK.out; omega, by have h1 := LE.out; have h2 := HPR.out; simp; omega, rfl, rfl, J3.out⟩
            case measure => have h1 := LE.out; have h2 := NX.out; have h3 := NY.out; simp [sliceN]; omega
          · have JX := Lib.hid hJx3
            have PF : Hid (pre ++ [M] <+: bothV zs ys) := ⟨_, HB.out⟩
            clear hJx3
            gi_wp2
            refine bodyPost_ret (results_none rfl _ _ _) rfl ?_
            exact ⟨⟨_, rfl⟩, .inr ⟨pre ++ [M], PF.out, JX.out⟩⟩
      · have py' : (0 : Int) < (ny : Int) := by omega
        rcases hmin with ⟨hle, rfl⟩ | ⟨hle, rfl⟩
        · gi_wp2_with (first
            | (refine ⟨trivial, ?_⟩; gi_at_call 73; (with_reducible refine (callsIn_wide.2 KA.out).mono ?_); rintro e w1 ⟨rfl, rfl⟩; clear KA)
            | (refine ⟨trivial, ?_⟩; gi_at_call 73; (with_reducible refine (callsIn_wide.2 KB.out).mono ?_); rintro e w1 ⟨rfl, rfl⟩; clear KB))
          refine hR.mono ?_
          rintro e W3 (⟨rfl, hJ3, hk3⟩ | ⟨rfl, hJx3⟩)
          · have RA3 := Lib.hid (RA.out W3 hk3)
            have RB3 := Lib.hid (RB.out W3 hk3)
            have J3 := Lib.hid hJ3
            clear RA RB hk3 hJ3 hR hy
            gi_wp2_with (first
              | (refine ⟨trivial, ?_⟩; gi_at_call 74; (with_reducible refine (callsIn_wide.2 RA3.out).mono ?_); rintro e w1 ⟨qa, ea, rfl, oa, rfl⟩; clear RA3)
              | (refine ⟨trivial, ?_⟩; gi_at_call 74; (with_reducible refine (callsIn_wide.2 RB3.out).mono ?_); rintro e w1 ⟨qb, eb, rfl, ob, rfl⟩; clear RB3))
            go_roundw
            case rel => exact ⟨pre ++ [M], behindV xs M, behindV ys' M, k', oa, ob, MA.out, MB.out, HB.out, by have h1 := LE.out; have h2 := HK.out; omega, by have h1 := LE.out; have h2 := HPR.out; simp; omega, rfl, rfl, J3.out⟩
            case measure => have h1 := LE.out; have h2 := NX.out; have h3 := NY.out; simp [sliceN]; omega
          · have JX := Lib.hid hJx3
            have PF : Hid (pre ++ [M] <+: bothV zs ys) := ⟨_, HB.out⟩
            clear hJx3
            gi_wp2
            refine bodyPost_ret (results_none rfl _ _ _) rfl ?_
            exact ⟨⟨_, rfl⟩, .inr ⟨pre ++ [M], PF.out, JX.out⟩⟩
        · gi_wp2_with (first
            | (refine ⟨trivial, ?_⟩; gi_at_call 73; (with_reducible refine (callsIn_wide.2 KA.out).mono ?_); rintro e w1 ⟨rfl, rfl⟩; clear KA)
            | (refine ⟨trivial, ?_⟩; gi_at_call 73; (with_reducible refine (callsIn_wide.2 KB.out).mono ?_); rintro e w1 ⟨rfl, rfl⟩; clear KB))
          refine hR.mono ?_
          rintro e W3 (⟨rfl, hJ3, hk3⟩ | ⟨rfl, hJx3⟩)
          · have RA3 := Lib.hid (RA.out W3 hk3)
            have RB3 := Lib.hid (RB.out W3 hk3)
            have J3 := Lib.hid hJ3
            clear RA RB hk3 hJ3 hR hy
            gi_wp2_with (first
              | (refine ⟨trivial, ?_⟩; gi_at_call 74; (with_reducible refine (callsIn_wide.2 RA3.out).mono ?_); rintro e w1 ⟨qa, ea, rfl, oa, rfl⟩; clear RA3)
              | (refine ⟨trivial, ?_⟩; gi_at_call 74; (with_reducible refine (callsIn_wide.2 RB3.out).mono ?_); rintro e w1 ⟨qb, eb, rfl, ob, rfl⟩; clear RB3))
            go_roundw
            case rel => exact ⟨pre ++ [M], behindV xs M, behindV ys' M, k', oa, ob, MA.out, MB.out, HB.out, by have h1 := LE.out; have h2 := HK.out; omega, by have h1 := LE.out; have h2 := HPR.out; simp; omega, rfl, rfl, J3.out⟩
            case measure => have h1 := LE.out; have h2 := NX.out; have h3 := NY.out; simp [sliceN]; omega
          · have JX := Lib.hid hJx3
            have PF : Hid (pre ++ [M] <+: bothV zs ys) := ⟨_, HB.out⟩
            clear hJx3
            gi_wp2
            refine bodyPost_ret (results_none rfl _ _ _) rfl ?_
            exact ⟨⟨_, rfl⟩, .inr ⟨pre ++ [M], PF.out, JX.out⟩⟩

end Go.Proofs.Yteopnbjiffncbab
