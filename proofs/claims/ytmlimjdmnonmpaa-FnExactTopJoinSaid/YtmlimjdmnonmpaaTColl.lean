/-
  The pairs of a slice, ranged over and collected: slices.Values, slices.AppendSeq, slices.Collect.
-/
import Derived.Test.YtmlimjdmnonmpaaTPut
import Derived.RangeFuncBox
import Derived.RangeFuncNested
import Derived.RangeFuncBound
import Derived.RangeFuncCalls
import Derived.RangeFuncLeaves
import Derived.Shelf.Abstract
import Derived.Shelf.RegionOpen
import Derived.OwnWalkIn
import Derived.TacticsInMore
import Derived.LoopNIn
import Derived.LoopIn
namespace Go.Proofs.Ytmlimjdmnonmpaa
open Go.RowKit Go.Shelf

attribute [local go_sem] Oper.semAt_some

/-- The value v reads as pairs, in a block below n₀. -/
def InP (n₀ : Nat) (w : World) (v : Value) (ps : List Pr) : Prop :=
  (v = .slice none 0 0 ∧ ps = []) ∨
  ∃ b o c, v = .slice (some ⟨b, o, none⟩) ps.length c ∧ ps.length ≤ c ∧ c ≤ maxLen ∧ b < n₀ ∧ ∀ i, i < ps.length → w.cell? ⟨b, o + i * 2, none⟩ = some (.int .i64 (pr ps i).1) ∧ w.cell? ⟨b, o + i * 2 + 1, none⟩ = some (.int .i64 (pr ps i).2)
theorem InP.below {n₀ : Nat} {w w' : World} {v : Value} {ps : List Pr} (h : InP n₀ w v ps) (hb : Below n₀ w w') : InP n₀ w' v ps := by
  rcases h with h | ⟨b, o, c, e, h1, h2, h3, h4⟩
  · exact .inl h
  · exact .inr ⟨b, o, c, e, h1, h2, h3, fun i hi => ⟨(hb.cell (p := ⟨b, o + i * 2, none⟩) h3).trans (h4 i hi).1, (hb.cell (p := ⟨b, o + i * 2 + 1, none⟩) h3).trans (h4 i hi).2⟩⟩
theorem Prs.inP {w : World} {v : Value} {ps : List Pr} (h : Prs w v ps) : InP w.heap.size w v ps := h

set_option maxRecDepth 100000 in
set_option maxHeartbeats 2000000 in
theorem values1_some (n : Nat) (hn : 1 ≤ n) (l Bs n₀ b off len cap : Nat) (ps : List Pr) (hl : ps.length = len) (hm : len ≤ 1000) (hb : b < n₀) (J Jx : List Pr → World → Prop)
    (hY : ∀ pre (x : Pr) W, J pre W → pre.length < len → YieldAt Fence.wide (n - 1) Try.prog l #[.agg #[.int .i64 x.1, .int .i64 x.2]] W fun e W' =>
      (e = .returned (.bool true) ∧ J (pre ++ [x]) W' ∧ Below n₀ W W') ∨ (e = .returned (.bool false) ∧ Jx (pre ++ [x]) W'))
    (hJa : ∀ s W1 o, J s W1 → J s (W1.alloc o)) (W : World) (hW : n₀ ≤ W.heap.size) (hBs : W.cell? ⟨Bs, 0, none⟩ = some (.slice (some ⟨b, off, none⟩) len cap))
    (hc : ∀ i, i < len → W.cell? ⟨b, off + i * 2, none⟩ = some (.int .i64 (pr ps i).1) ∧ W.cell? ⟨b, off + i * 2 + 1, none⟩ = some (.int .i64 (pr ps i).2)) (h0 : J [] W) :
    CallsIn Fence.wide n Try.prog 62 #[.func (.yield l) #[] #[], .pointer (some ⟨Bs, 0, none⟩)] W fun e W' => (∃ v, e = .returned v) ∧
      ((∃ ys, ys = ps ∧ J ys W') ∨ (∃ pre, pre <+: ps ∧ Jx pre W')) := by
  have HY := Lib.hid hY
  have HA := Lib.hid hJa
  have HC := Lib.hid hc
  have HL := Lib.hid hl
  have H0 := Lib.hid h0
  clear hY hJa hc hl h0
  refine callsIn_of_wp Try.func62 rfl trivial ?_ rfl
  simp only [Try.ntmps62, List.size_toArray, List.length_cons, List.length_nil, Nat.reduceAdd, Nat.reduceSub, Array.replicate_succ, Array.replicate_zero, List.push_toArray, List.append_toArray, List.nil_append, List.cons_append]
  gi_wp2
  gi_loopw [7] (fun i wr => ∃ k : Nat, k ≤ len ∧ i = .int .i64 k ∧ J (ps.take k) wr ∧ Below n₀ W wr)
    (fun i _ => len - (intOf i).toNat)
  case atStart => exact ⟨0, Nat.zero_le _, rfl, by simpa using H0.out, Below.refl _ _⟩
  case round =>
    obtain ⟨k, hk, rfl, hJs, hnx⟩ := hrel
    have HJ := Lib.hid hJs
    have HX := Lib.hid hnx
    have hsz := hnx.size
    clear hJs hnx
    by_cases hlt : k < len
    · have h1 := (HX.out.cell (p := ⟨b, off + k * 2, none⟩) hb).trans (HC.out k hlt).1
      have h2 := (HX.out.cell (p := ⟨b, off + k * 2 + 1, none⟩) hb).trans (HC.out k hlt).2
      have hs : Hid (ps.take (k + 1) = ps.take k ++ [pr ps k]) := take_succ_pr ps k (by rw [HL.out]; exact hlt)
      have HLt : Hid ((ps.take k).length < len) := by show _ < _; have := HL.out; simp; omega
      generalize pr ps k = q at h1 h2 hs
      obtain ⟨t, m⟩ := q
      simp only at h1 h2
      obtain ⟨fn, tmps, assign, body, hy, hR⟩ := HY.out (ps.take k) (t, m) (wr.alloc (.cells #[.int .i64 t, .int .i64 m] 29)) (HA.out _ _ _ HJ.out) HLt.out
      dsimp only at hy
      gi_wp2
      refine hR.mono ?_
      rintro e W3 (⟨rfl, hJ3, hk3⟩ | ⟨rfl, hJx3⟩)
      · have B3 := Lib.hid (hk3)
        have J3 := Lib.hid hJ3
        clear hk3 hJ3 hR hy
        gi_wp2
        go_roundw
        case rel => exact ⟨k + 1, by omega, by simp, by rw [hs.out]; exact J3.out, (HX.out.alloc (by omega) _).trans B3.out⟩
        case measure => simp [intOf]; omega
      · have JX := Lib.hid hJx3
        have PF : Hid (ps.take k ++ [(t, m)] <+: ps) := by show _ <+: _; rw [← hs.out]; exact List.take_prefix _ _
        clear hJx3 hR hy
        gi_wp2
        refine bodyPost_ret (results_none rfl _ _ _) rfl ?_
        exact ⟨⟨_, rfl⟩, .inr ⟨_, PF.out, JX.out⟩⟩
    · obtain rfl : k = len := by omega
      have e1 : ps.take k = ps := List.take_of_length_le (by rw [HL.out]; exact Nat.le_refl _)
      have E1 := Lib.hid e1
      clear e1
      gi_wp2
      go_end0
      exact ⟨⟨_, rfl⟩, .inl ⟨ps, rfl, by have h := HJ.out; rw [E1.out] at h; exact h⟩⟩

set_option maxRecDepth 100000 in
set_option maxHeartbeats 1000000 in
theorem values1_nil (n : Nat) (l Bs : Nat) (J : List Pr → World → Prop) (W : World) (hBs : W.cell? ⟨Bs, 0, none⟩ = some (.slice none 0 0)) (h0 : J [] W) :
    CallsIn Fence.wide n Try.prog 62 #[.func (.yield l) #[] #[], .pointer (some ⟨Bs, 0, none⟩)] W fun e W' => (∃ v, e = .returned v) ∧ J [] W' := by
  have H0 := Lib.hid h0
  clear h0
  refine callsIn_of_wp Try.func62 rfl trivial ?_ rfl
  simp only [Try.ntmps62, List.size_toArray, List.length_cons, List.length_nil, Nat.reduceAdd, Nat.reduceSub, Array.replicate_succ, Array.replicate_zero, List.push_toArray, List.append_toArray, List.nil_append, List.cons_append]
  gi_wp2
  gi_loopw [7] (fun i wr => i = .int .i64 0 ∧ J [] wr) (fun _ _ => 0)
  case atStart => exact ⟨rfl, H0.out⟩
  case round =>
    obtain ⟨rfl, hJs⟩ := hrel
    have HJ := Lib.hid hJs
    clear hJs
    gi_wp2
    go_end0
    exact ⟨⟨_, rfl⟩, HJ.out⟩

theorem values_stops (n : Nat) (hn : 1 ≤ n) (Bs n₀ : Nat) (v : Value) (ps : List Pr) (hm : ps.length ≤ 1000) (w : World) (hBs : Bs < w.heap.size) (hn₀ : n₀ ≤ w.heap.size) (hc : w.cell? ⟨Bs, 0, none⟩ = some v) (hI : InP n₀ w v ps) :
    SeqStopsK Fence.wide n Try.prog 62 #[.pointer (some ⟨Bs, 0, none⟩)] (fun x : Pr => #[.agg #[.int .i64 x.1, .int .i64 x.2]]) (Below n₀) (fun ys => ys = ps) (fun pre => pre <+: ps) ps.length w := fun l J Jx W hW hJ _ hY h0 => by
  have hc' := (hW.cell (p := ⟨Bs, 0, none⟩) hBs).trans hc
  have hJa : ∀ s W1 o, J s W1 → J s (W1.alloc o) := fun s W1 o h => hJ s W1 _ none h (World.grownBy_alloc W1 o none) (fun r e => by cases e)
  rcases hI.below (hW.mono hn₀) with ⟨rfl, rfl⟩ | ⟨b, off, cap, rfl, h1, h2, hb, hcs⟩
  · exact (values1_nil n l Bs J W hc' h0).mono fun e W' ⟨he, hj⟩ => ⟨he, .inl ⟨_, rfl, hj⟩⟩
  · exact values1_some n hn l Bs n₀ b off ps.length cap ps rfl hm hb J Jx hY hJa W (Nat.le_trans hn₀ hW.size) hc' hcs h0

/-- Block B is a pair. -/
def Box2 (W : World) (B : Nat) (x : Pr) : Prop := W.heap[B]? = some (.cells #[.int .i64 x.1, .int .i64 x.2] 29 (0, 0))
theorem Box2.cell0 {W : World} {B : Nat} {x : Pr} (h : Box2 W B x) : W.cell? ⟨B, 0, none⟩ = some (.int .i64 x.1) := by unfold Box2 at h; simp [World.cell?, h]
theorem Box2.cell1 {W : World} {B : Nat} {x : Pr} (h : Box2 W B x) : W.cell? ⟨B, 1, none⟩ = some (.int .i64 x.2) := by unfold Box2 at h; simp [World.cell?, h]
theorem box2_own (B : Nat) (x : Pr) {X Y : World} {row : Option Nat} (h : Box2 X B x) (hg : X.grownBy Y row) (hr : ∀ r, row = some r → ∃ o : Obj, X.heap[r]? = some o ∧ o.isCells = false) : Box2 Y B x := by
  unfold Box2 at h ⊢
  refine (hg.block B (Array.getElem?_eq_some_iff.1 h).1 (fun e => ?_)).trans h
  obtain ⟨o, ho, hc⟩ := hr B e.symm
  rw [h] at ho
  cases ho
  cases hc

set_option maxRecDepth 100000 in
set_option maxHeartbeats 4000000 in
/-- slices.AppendSeq(nil, slices.Values(s)): the pairs of s, in memory of the call's own. -/
theorem appendSeq_at (w : World) (Bs : Nat) (v : Value) (ps : List Pr) (hm : ps.length ≤ 1000) (hc : w.cell? ⟨Bs, 0, none⟩ = some v) (hp : Prs w v ps) :
    CallsIn Fence.wide 8 Try.prog 64 #[.slice none 0 0, .func (.func 62) #[] #[.pointer (some ⟨Bs, 0, none⟩)]] w fun e w' => ∃ u, e = .returned u ∧ OwnP w' w.heap.size u ps ∧ Below w.heap.size w w' := by
  obtain ⟨i0, hi, hz0, hz1, hz2⟩ := info_parts pair_info
  have hBs := World.block_lt_of_cell? _ _ hc
  simp only at hBs
  have IA := Lib.hid hp.inP
  have hb0 := (Below.refl w.heap.size w).alloc (Nat.le_refl _) (.cells #[.slice none 0 0] 23)
  have B0 := Lib.hid hb0
  have C0 := Lib.hid (cell_later hb0 hc)
  have S0 : Hid ((w.alloc (.cells #[.slice none 0 0] 23)).heap.size = w.heap.size + 1) := by show _ = _; simp
  have X0 := Lib.hid (Go.Boxed.new w 23 (.slice none 0 0))
  have HM := Lib.hid hm
  clear hc hp hb0 hm
  refine callsIn_of_wp_marks Try.func64 rfl trivial ?_ rfl
  simp only [Try.ntmps64, List.size_toArray, List.length_cons, List.length_nil, Nat.reduceAdd, Nat.reduceSub, Array.replicate_succ, Array.replicate_zero, List.push_toArray, List.append_toArray, List.nil_append, List.cons_append]
  gi_wp2
  obtain ⟨W0, hW0⟩ : ∃ W0, W0 = w.alloc (.cells #[.slice none 0 0] 23) := ⟨_, rfl⟩
  rw [← hW0] at B0 C0 S0 X0 ⊢
  clear hW0
  refine wpIn_rangeFunc_ownH rfl (by omega) (gf := 62) (lb := #[.pointer (some ⟨Bs, 0, none⟩)]) rfl trivial (enters_of Try.func62 (by kernel_rfl) rfl)
    (values_stops 7 (by omega) Bs w.heap.size v ps HM.out W0 (by rw [S0.out]; omega) B0.out.size C0.out (IA.out.below B0.out)) belowK_t (belowK_b (by rw [S0.out]; omega)) (Below.refl _ _) (fun _ => rfl)
    (fun (pre : List Pr) W => (∃ u, Go.Boxed W w.heap.size 23 u ∧ W.ownsRow w.heap.size 29 2 u pre.length (prs pre) ∧ True) ∧ Below w.heap.size w W)
    (fun _ _ _ => False)
    (OwnFrom.and (Own.from (holdsRow_own w.heap.size w.heap.size 23 29 2 (fun pre : List Pr => pre.length) (fun pre => prs pre) (fun _ _ => True)) _) (ownFrom_below (Nat.le_refl _) (by rw [S0.out]; omega)))
    (fun _ _ _ _ _ hs _ _ => hs)
    ⟨⟨_, X0.out, World.ownsRow_nil _ _ _ _, trivial⟩, B0.out⟩
    (fun x a' W => ∃ Bx, w.heap.size < Bx ∧ Box2 W Bx x ∧ a' = { tmps := #[.slice none 0 0, .func (.func 62) #[] #[.pointer (some ⟨Bs, 0, none⟩)], .pointer (some ⟨w.heap.size, 0, none⟩), undef, .slice none 0 0, .pointer (some ⟨Bx, 0, none⟩), .func (.func 62) #[] #[.pointer (some ⟨Bs, 0, none⟩)], .agg #[.int .i64 x.1, .int .i64 x.2], undef, undef, undef, undef, undef], defers := [] })
    (fun x a' _ X Y row hs hg hr => by obtain ⟨Bx, h1, h2, h3⟩ := hs; exact ⟨Bx, h1, box2_own Bx x h2 hg (fun r e => (hr r e).2), h3⟩)
    ?assign ?body ?done ?stop
  case assign =>
    rintro l pre x W K ⟨⟨u, hu, hrow, _⟩, hB⟩ hK
    obtain ⟨t, m⟩ := x
    gi_wp2
    exact hK _ _ ((KeepsOthers.alloc _ _).from _) ((Below.refl _ W).alloc hB.size _) ⟨⟨u, hu.alloc _, hrow.alloc _, trivial⟩, hB.alloc hB.size _⟩ ⟨W.heap.size, hu.lt, heap_alloc_new W _, rfl⟩
  case body =>
    rintro l pre x a' W hl hr ⟨⟨u, hu, hrow, _⟩, hB⟩ ⟨Bx, hBx, bX, rfl⟩ hlt
    obtain ⟨t, m⟩ := x
    obtain ⟨xu, cu, rfl, _, _⟩ := (show OwnP W w.heap.size u pre from hrow).form
    obtain ⟨np, hnp⟩ : ∃ np, np = pre.length := ⟨_, rfl⟩
    have n1000 : np < 1000 := by have := HM.out; omega
    rw [← hnp] at hu hrow
    have NP := Lib.hid hnp
    have c0 := hu.cell
    have x0 := bX.cell0
    have x1 := bX.cell1
    have HBW := Lib.hid hB
    have lS := hB.size
    simp only at x0 x1
    clear hr hB hnp hlt bX
    gi_wp2_with (gi_at_builtin; refine wpListIn_append_own _ rfl _ _ 23 rfl w.heap.size 29 i0 (.agg #[.int .i64 0, .int .i64 0]) 2 16 Try.underlying23 hi hz0 hz1 hz2 rfl (by decide) _ _ _ rfl (hrow.alloc _) ⟨W.heap.size, 0, none⟩ 1 1 [.int .i64 t, .int .i64 m] rfl rfl (cell_two_new _ _ _ _) (by simp [Value.oneCell']) (by unfold maxLen; omega) (by omega) (by simp; omega) ?_; intro v' w1 hown' hgrow _; obtain ⟨g', cap', rfl⟩ := ownsRow_succ hown'; obtain ⟨hv1, hv2, hr2, hk2, hb2⟩ := hu.appended (by decide) hrow lS (Nat.le_refl _) hown' hgrow; have hc1 := hv1.cell; have hf1 := hv1.frozen)
    have R : (w1.setCell ⟨w.heap.size, 0, none⟩ (.slice (some ⟨g', 0, none⟩) (np + 1) cap')).ownsRow w.heap.size 29 2 (.slice (some ⟨g', 0, none⟩) (np + 1) cap') (pre ++ [(t, m)]).length (prs (pre ++ [(t, m)])) := by
      rw [List.length_append, ← NP.out, prs_snoc]
      exact hr2
    first
      | exact ⟨hk2.from _, hb2, ⟨_, hv2, R, trivial⟩, HBW.out.trans hb2⟩
      | exact ⟨hk2.from _, hb2, ⟨_, hv2, R⟩, HBW.out.trans hb2⟩
  case done =>
    rintro D xs W hD rfl ⟨⟨u, hu, hrow, _⟩, hB⟩ hK
    have c0 := hu.cell
    obtain ⟨xu, cu, rfl, _, _⟩ := (show OwnP W w.heap.size u xs from hrow).form
    obtain ⟨np, hnp⟩ : ∃ np, np = xs.length := ⟨_, rfl⟩
    rw [← hnp] at c0
    gi_wp2
    refine ⟨by simp, .inl ⟨_, _, rfl, run_takeDeferred hK, ?_⟩⟩
    have o3 := ownsRow_putObj hrow (.deferred none) hK rfl
    refine ⟨_, results_tmp rfl _ _ _, _, rfl, ?_, hB.trans (belowK_b (w := w) (Nat.le_refl _) W D _ _ (by have := S0.out; omega) hK rfl rfl)⟩
    exact o3
  case stop =>
    rintro D c pre W _ _ h _
    exact h.elim

end Go.Proofs.Ytmlimjdmnonmpaa
