/-
  Several texts in one: SpJoin, Joined, ImJoin, RMath.
-/
import Derived.Test.YtnoilafoeaknjaaRb
import Derived.Test.YtnoilafoeaknjaaRa
set_option linter.unusedVariables false
/-
  The model's RoughJoin.
-/
namespace Go.Proofs.Ytnoilafoeaknjaa
open Go.RowKit Go.Sort

def addRows (x y : List Int) : List Int := (List.range 8).map fun k => x.getD k 0 + y.getD k 0
/-- Both counts together. -/
def joinV (ra rb : List (List Int)) : List (List Int) := [addRows (ra.getD 0 []) (rb.getD 0 []), addRows (ra.getD 1 []) (rb.getD 1 []), addRows (ra.getD 2 []) (rb.getD 2 [])]
/-- Whether they can be joined. -/
def joinB (ra rb : List (List Int)) : Bool := okB ra && okB rb && decide (allV ra + allV rb ≤ 2000)

theorem joinB_iff (ra rb : List (List Int)) : joinB ra rb = true ↔ okB ra = true ∧ okB rb = true ∧ allV ra + allV rb ≤ 2000 := by simp [joinB, and_assoc]
theorem joinV_get (ra rb : List (List Int)) (i : Nat) (hi : i < 3) : (joinV ra rb).getD i [] = addRows (ra.getD i []) (rb.getD i []) := by
  rcases (by omega : i = 0 ∨ i = 1 ∨ i = 2) with rfl | rfl | rfl <;> rfl
theorem addRows_len (x y : List Int) : (addRows x y).length = 8 := by simp [addRows]
theorem addRows_get (x y : List Int) (k : Nat) (h : k < 8) : (addRows x y).getD k 0 = x.getD k 0 + y.getD k 0 := by
  simp only [addRows, List.getD_eq_getElem?_getD, List.getElem?_map, List.getElem?_range h, Option.map_some, Option.getD_some]

/-- The rows so far: up to row k, and in row k up to place m, both together. -/
def Mixed (ra rb qs : List (List Int)) (k m : Nat) : Prop := qs.length = 3 ∧ ∀ i, i < 3 → (qs.getD i []).length = 8 ∧ ∀ p, p < 8 → (qs.getD i []).getD p 0 = if i < k ∨ (i = k ∧ p < m) then (ra.getD i []).getD p 0 + (rb.getD i []).getD p 0 else (ra.getD i []).getD p 0

theorem Mixed.done {ra rb qs : List (List Int)} (h : Mixed ra rb qs 3 0) : qs = joinV ra rb :=
  eq_three h.1 rfl fun i hi => by
    have := eq_of_get (d := 0) (a := qs.getD i []) (b := (joinV ra rb).getD i []) (h.2 i hi).1 (by rw [joinV_get _ _ _ hi]; exact addRows_len _ _) (fun p hp => by
      rw [(h.2 i hi).2 p hp, if_pos (.inl hi), joinV_get _ _ _ hi, addRows_get _ _ _ hp])
    simpa using this
theorem Mixed.next {ra rb qs : List (List Int)} {k : Nat} (h : Mixed ra rb qs k 8) : Mixed ra rb qs (k + 1) 0 :=
  ⟨h.1, fun i hi => ⟨(h.2 i hi).1, fun p hp => by
    rw [(h.2 i hi).2 p hp]
    by_cases e : i < k ∨ (i = k ∧ p < 8)
    · rw [if_pos e, if_pos (by omega)]
    · rw [if_neg e, if_neg (by omega)]⟩⟩
theorem Mixed.step {ra rb qs : List (List Int)} {k m : Nat} (h : Mixed ra rb qs k m) (hk : k < 3) (hm : m < 8) :
    Mixed ra rb (qs.set k ((qs.getD k []).set m ((ra.getD k []).getD m 0 + (rb.getD k []).getD m 0))) k (m + 1) := by
  refine ⟨by simpa using h.1, fun i hi => ?_⟩
  by_cases e : i = k
  · subst e
    have e1 : (qs.set i ((qs.getD i []).set m ((ra.getD i []).getD m 0 + (rb.getD i []).getD m 0))).getD i [] = (qs.getD i []).set m ((ra.getD i []).getD m 0 + (rb.getD i []).getD m 0) := by
      simp [h.1, hi]
    rw [e1]
    refine ⟨by simpa using (h.2 i hi).1, fun p hp => ?_⟩
    by_cases e2 : p = m
    · subst e2
      rw [if_pos (.inr ⟨rfl, by omega⟩)]
      have := (h.2 i hi).1
      rw [List.getD_eq_getElem?_getD, List.getElem?_set_self (by rw [this]; exact hp)]
      rfl
    · have e3 : ((qs.getD i []).set m ((ra.getD i []).getD m 0 + (rb.getD i []).getD m 0)).getD p 0 = (qs.getD i []).getD p 0 := by
        simp [Ne.symm e2]
      rw [e3, (h.2 i hi).2 p hp]
      by_cases e4 : i < i ∨ (i = i ∧ p < m)
      · rw [if_pos e4, if_pos (by omega)]
      · rw [if_neg e4, if_neg (by omega)]
  · have e1 : (qs.set k ((qs.getD k []).set m ((ra.getD k []).getD m 0 + (rb.getD k []).getD m 0))).getD i [] = qs.getD i [] := by simp [Ne.symm e]
    rw [e1]
    refine ⟨(h.2 i hi).1, fun p hp => ?_⟩
    rw [(h.2 i hi).2 p hp]
    by_cases e4 : i < k ∨ (i = k ∧ p < m)
    · rw [if_pos e4, if_pos (by omega)]
    · rw [if_neg e4, if_neg (by omega)]

theorem spOk_regrown (w : World) (u : Value) (rs : List (List Int)) (h : Rws w u rs) (d : Nat) (os : Array Obj) :
    Calls Try.prog 39 #[.agg #[u]] (grow (redrawn w d) os) fun e w'' => e = .returned (.bool (okB rs)) ∧ ∃ p : Regrown, w'' = grow (redrawn w p.d) p.os :=
  Calls.regrown_of (spOk_any u rs _ (h.below (below_regrown w d os) (Nat.le_refl _)))
theorem l1Sum_regrown (w : World) (b o cap : Nat) (zs : List Int) (S : Int) (hS : zs.sum = S) (hn : zs.length = 8) (hz : ∀ k, k < 8 → 0 ≤ zs.getD k 0 ∧ zs.getD k 0 ≤ 2000)
    (hc : ∀ i, i < 8 → w.cell? ⟨b, o + i, none⟩ = some (.int .i64 (zs.getD i 0))) (d : Nat) (os : Array Obj) :
    Calls Try.prog 83 #[.slice (some ⟨b, o, none⟩) 8 cap] (grow (redrawn w d) os) fun e w'' => e = .returned (.int .i64 S) ∧ ∃ p : Regrown, w'' = grow (redrawn w p.d) p.os := by
  rw [← hS]
  exact Calls.regrown_of ((l1Sum_at b o cap 8 zs _ hn (by omega) hz (fun i hi => cell_regrown (hc i hi) d os)).mono fun _ _ ⟨he, hw⟩ => ⟨he, by subst hw; exact Below.refl _ _⟩)

theorem allV_sum {rs : List (List Int)} (h : okB rs = true) : (rs.getD 0 []).sum = allV rs := (if_pos h).symm

set_option maxHeartbeats 1000000 in
theorem spJoin_no (w : World) (u v : Value) (ra rb : List (List Int)) (ha : Rws w u ra) (hb : Rws w v rb) (hno : joinB ra rb = false) :
    Calls Try.prog 111 #[.agg #[u], .agg #[v]] w fun e w' => e = .returned (.tuple #[.agg #[.slice none 0 0], .bool false]) ∧ Below w.heap.size w w' := by
  obtain ⟨w0, hw0⟩ : ∃ x, x = ((w.alloc (.cells #[u] 25)).alloc (.cells #[v] 25)).alloc (.cells #[.slice none 0 0] 25) := ⟨_, rfl⟩
  have hA : Below w.heap.size w w0 := by rw [hw0]; exact (((Below.refl w.heap.size w).alloc (Nat.le_refl _) _).alloc (by simp) _).alloc (by simp; omega) _
  have tb := three_blocks w (.cells #[u] 25) (.cells #[v] 25) (.cells #[.slice none 0 0] 25)
  rw [← hw0] at tb
  obtain ⟨ca, _, la⟩ := cell_block tb.1
  obtain ⟨cb, _, lb⟩ := cell_block tb.2.1
  obtain ⟨cr, fr, lr⟩ := cell_block tb.2.2
  have Ka := spOk_regrown w0 u ra (ha.below hA (Nat.le_refl _))
  have Kb := spOk_regrown w0 v rb (hb.below hA (Nat.le_refl _))
  have HA := Lib.hid hA
  clear hA tb
  cases hoka : okB ra with
  | false =>
    rw [hoka] at Ka
    have KA := Lib.hid Ka
    obtain ⟨⟨x, c, hx⟩, _⟩ := ha.cases
    obtain ⟨⟨y, d, hy⟩, _⟩ := hb.cases
    obtain ⟨n, hn⟩ : ∃ n, n = ra.length := ⟨_, rfl⟩
    obtain ⟨m, hm⟩ : ∃ n, n = rb.length := ⟨_, rfl⟩
    rw [← hn] at hx
    rw [← hm] at hy
    subst hx hy
    have ra' := cell_regrown ca
    clear ha hb hn hm hoka hno Ka Kb
    go_enter Try.func111, Try.ntmps111
    go_wp2
    rw [← hw0]
    clear hw0
    refine boxed_region (by kernel_rfl) (by kernel_rfl) ?_
    repeat (refine boxed_step (fun K hK => ?_); go_simp; first | (refine hK _ ?_; clear hK K) | (apply Exists.intro; refine ⟨fun _ => ?_, hK _ ?_⟩; (with_reducible exact KA.out _ _); clear hK K))
    refine boxed_nil ?_
    intro _ hw'
    obtain ⟨⟨dq, oq⟩, hw''⟩ := hw'
    subst hw''
    have hb_w1 := below_regrown w0 dq oq
    obtain ⟨w1, hq_w1⟩ : ∃ x, x = grow (redrawn w0 dq) oq := ⟨_, rfl⟩
    rw [← hq_w1] at hb_w1 ⊢
    clear hq_w1
    have cr1 := cell_later hb_w1 cr
    have fr1 : w1.frozen? ⟨w.heap.size + 2, 0, none⟩ = false := by rw [hb_w1.frozen (p := ⟨w.heap.size + 2, 0, none⟩) lr]; exact fr
    have L1 := Lib.hid (HA.out.trans (hb_w1.mono HA.out.size))
    clear hb_w1 ra'
    go_wp2
    have hr := World.cell?_setCell_same w1 ⟨w.heap.size + 2, 0, none⟩ (.slice none 0 0) cr1
    exact bodyPost_ret (v := .tuple #[.agg #[.slice none 0 0], .bool false]) (by simp [results, Try.results111, go_sem, hr]) rfl ⟨rfl, L1.out.setCell (by simp; omega) _⟩
  | true =>
    rw [hoka] at Ka
    have KA := Lib.hid Ka
    obtain ⟨ba, oa, ka, rfl, _, hba, hrowa⟩ := ok_form ha hoka
    cases hokb : okB rb with
    | false =>
      rw [hokb] at Kb
      have KB := Lib.hid Kb
      obtain ⟨⟨y, d, hy⟩, _⟩ := hb.cases
      obtain ⟨m, hm⟩ : ∃ n, n = rb.length := ⟨_, rfl⟩
      rw [← hm] at hy
      subst hy
      have ra' := cell_regrown ca
      have rb' := cell_regrown cb
      clear ha hb hm hoka hokb hno Ka Kb hrowa
      go_enter Try.func111, Try.ntmps111
      go_wp2
      rw [← hw0]
      clear hw0
      refine boxed_region (by kernel_rfl) (by kernel_rfl) ?_
      repeat (refine boxed_step (fun K hK => ?_); go_simp; first | (refine hK _ ?_; clear hK K) | (apply Exists.intro; refine ⟨fun _ => ?_, hK _ ?_⟩; (first | (with_reducible exact KA.out _ _) | (with_reducible exact KB.out _ _)); clear hK K))
      refine boxed_nil ?_
      intro _ hw'
      obtain ⟨⟨dq, oq⟩, hw''⟩ := hw'
      subst hw''
      have hb_w1 := below_regrown w0 dq oq
      obtain ⟨w1, hq_w1⟩ : ∃ x, x = grow (redrawn w0 dq) oq := ⟨_, rfl⟩
      rw [← hq_w1] at hb_w1 ⊢
      clear hq_w1
      have cr1 := cell_later hb_w1 cr
      have fr1 : w1.frozen? ⟨w.heap.size + 2, 0, none⟩ = false := by rw [hb_w1.frozen (p := ⟨w.heap.size + 2, 0, none⟩) lr]; exact fr
      have L1 := Lib.hid (HA.out.trans (hb_w1.mono HA.out.size))
      clear hb_w1 ra' rb'
      go_wp2
      have hr := World.cell?_setCell_same w1 ⟨w.heap.size + 2, 0, none⟩ (.slice none 0 0) cr1
      exact bodyPost_ret (v := .tuple #[.agg #[.slice none 0 0], .bool false]) (by simp [results, Try.results111, go_sem, hr]) rfl ⟨rfl, L1.out.setCell (by simp; omega) _⟩
    | true =>
      rw [hokb] at Kb
      have KB := Lib.hid Kb
      obtain ⟨bb, ob, kb, rfl, _, hbb, hrowb⟩ := ok_form hb hokb
      obtain ⟨b0, o0, c0, e0, l0, r0⟩ := hrowa 0 (by omega)
      obtain ⟨b1, o1, c1, e1, l1, r1⟩ := hrowb 0 (by omega)
      obtain ⟨_, hga⟩ := (okB_iff ra).1 hoka
      obtain ⟨_, hgb⟩ := (okB_iff rb).1 hokb
      obtain ⟨ga8, gar, _, _⟩ := hga 0 (by omega)
      obtain ⟨gb8, gbr, _, _⟩ := hgb 0 (by omega)
      have ava := allV_ok hoka
      have avb := allV_ok hokb
      have SA := l1Sum_regrown w0 b0 o0 c0 _ _ (allV_sum hoka) ga8 gar (fun i hi => by rw [HA.out.cell (p := ⟨b0, o0 + i, none⟩) l0]; exact r0 i hi)
      have SB := l1Sum_regrown w0 b1 o1 c1 _ _ (allV_sum hokb) gb8 gbr (fun i hi => by rw [HA.out.cell (p := ⟨b1, o1 + i, none⟩) l1]; exact r1 i hi)
      have hsum : ¬ allV ra + allV rb ≤ 2000 := fun hh => by
        have := (joinB_iff ra rb).2 ⟨hoka, hokb, hh⟩
        rw [this] at hno
        cases hno
      have q0 : w0.cell? ⟨ba, oa, none⟩ = some (.slice (some ⟨b0, o0, none⟩) 8 c0) := by rw [HA.out.cell (p := ⟨ba, oa, none⟩) hba]; exact e0
      have q1 : w0.cell? ⟨bb, ob, none⟩ = some (.slice (some ⟨b1, o1, none⟩) 8 c1) := by rw [HA.out.cell (p := ⟨bb, ob, none⟩) hbb]; exact e1
      generalize allV ra = Sa at *
      generalize allV rb = Sb at *
      have hgt : 2000 < Sa + Sb := by omega
      have KSA := Lib.hid SA
      have KSB := Lib.hid SB
      have ra' := cell_regrown ca
      have rb' := cell_regrown cb
      have rq0 := cell_regrown q0
      have rq1 := cell_regrown q1
      have wr1 : IntKind.i64.wrap (Sa + Sb) = Sa + Sb := IntWalk.i64_in _ (by omega)
      clear ha hb hoka hokb hno Ka Kb hrowa hrowb e0 e1 r0 r1 hga hgb ga8 gar gb8 gbr SA SB q0 q1 hsum
      go_enter Try.func111, Try.ntmps111
      go_wp2
      rw [← hw0]
      clear hw0
      refine boxed_region (by kernel_rfl) (by kernel_rfl) ?_
      repeat (refine boxed_step (fun K hK => ?_); go_simp; first | (refine hK _ ?_; clear hK K) | (apply Exists.intro; refine ⟨fun _ => ?_, hK _ ?_⟩; (first | (with_reducible exact KA.out _ _) | (with_reducible exact KB.out _ _) | (with_reducible exact KSA.out _ _) | (with_reducible exact KSB.out _ _)); clear hK K))
      refine boxed_nil ?_
      intro _ hw'
      obtain ⟨⟨dq, oq⟩, hw''⟩ := hw'
      subst hw''
      have hb_w1 := below_regrown w0 dq oq
      obtain ⟨w1, hq_w1⟩ : ∃ x, x = grow (redrawn w0 dq) oq := ⟨_, rfl⟩
      rw [← hq_w1] at hb_w1 ⊢
      clear hq_w1
      have cr1 := cell_later hb_w1 cr
      have fr1 : w1.frozen? ⟨w.heap.size + 2, 0, none⟩ = false := by rw [hb_w1.frozen (p := ⟨w.heap.size + 2, 0, none⟩) lr]; exact fr
      have L1 := Lib.hid (HA.out.trans (hb_w1.mono HA.out.size))
      clear hb_w1 ra' rb' rq0 rq1 wr1
      go_wp2
      have hr := World.cell?_setCell_same w1 ⟨w.heap.size + 2, 0, none⟩ (.slice none 0 0) cr1
      exact bodyPost_ret (v := .tuple #[.agg #[.slice none 0 0], .bool false]) (by simp [results, Try.results111, go_sem, hr]) rfl ⟨rfl, L1.out.setCell (by simp; omega) _⟩

set_option maxHeartbeats 4000000 in
theorem spJoin_yes (w : World) (u v : Value) (ra rb : List (List Int)) (ha : Rws w u ra) (hb : Rws w v rb) (hyes : joinB ra rb = true) :
    Calls Try.prog 111 #[.agg #[u], .agg #[v]] w fun e w' => ∃ x c G C, e = .returned (.tuple #[.agg #[.slice x 3 c], .bool true]) ∧ OwnR w' w.heap.size (.slice x 3 c) (joinV ra rb) G C ∧ Below w.heap.size w w' := by
  obtain ⟨hoka, hokb, hle⟩ := (joinB_iff ra rb).1 hyes
  obtain ⟨w0, hw0⟩ : ∃ x, x = ((w.alloc (.cells #[u] 25)).alloc (.cells #[v] 25)).alloc (.cells #[.slice none 0 0] 25) := ⟨_, rfl⟩
  have hA : Below w.heap.size w w0 := by rw [hw0]; exact (((Below.refl w.heap.size w).alloc (Nat.le_refl _) _).alloc (by simp) _).alloc (by simp; omega) _
  have tb := three_blocks w (.cells #[u] 25) (.cells #[v] 25) (.cells #[.slice none 0 0] 25)
  rw [← hw0] at tb
  obtain ⟨ca, _, la⟩ := cell_block tb.1
  obtain ⟨cb, _, lb⟩ := cell_block tb.2.1
  obtain ⟨cr, fr, lr⟩ := cell_block tb.2.2
  have Ka := spOk_regrown w0 u ra (ha.below hA (Nat.le_refl _))
  have Kb := spOk_regrown w0 v rb (hb.below hA (Nat.le_refl _))
  have HA := Lib.hid hA
  clear hA tb
  rw [hoka] at Ka
  rw [hokb] at Kb
  have KA := Lib.hid Ka
  have KB := Lib.hid Kb
  have HRA := Lib.hid ha
  obtain ⟨ba, oa, ka, rfl, _, hba, hrowa⟩ := ok_form ha hoka
  obtain ⟨bb, ob, kb, rfl, _, hbb, hrowb⟩ := ok_form hb hokb
  obtain ⟨b0, o0, c0, e0, l0, r0⟩ := hrowa 0 (by omega)
  obtain ⟨b1, o1, c1, e1, l1, r1⟩ := hrowb 0 (by omega)
  obtain ⟨ha3, hga⟩ := (okB_iff ra).1 hoka
  obtain ⟨_, hgb⟩ := (okB_iff rb).1 hokb
  obtain ⟨ga8, gar, _, _⟩ := hga 0 (by omega)
  obtain ⟨gb8, gbr, _, _⟩ := hgb 0 (by omega)
  have ava := allV_ok hoka
  have avb := allV_ok hokb
  have SA := l1Sum_regrown w0 b0 o0 c0 _ _ (allV_sum hoka) ga8 gar (fun i hi => by rw [HA.out.cell (p := ⟨b0, o0 + i, none⟩) l0]; exact r0 i hi)
  have SB := l1Sum_regrown w0 b1 o1 c1 _ _ (allV_sum hokb) gb8 gbr (fun i hi => by rw [HA.out.cell (p := ⟨b1, o1 + i, none⟩) l1]; exact r1 i hi)
  have q0 : w0.cell? ⟨ba, oa, none⟩ = some (.slice (some ⟨b0, o0, none⟩) 8 c0) := by rw [HA.out.cell (p := ⟨ba, oa, none⟩) hba]; exact e0
  have q1 : w0.cell? ⟨bb, ob, none⟩ = some (.slice (some ⟨b1, o1, none⟩) 8 c1) := by rw [HA.out.cell (p := ⟨bb, ob, none⟩) hbb]; exact e1
  have HGA := Lib.hid hga
  have HGB := Lib.hid hgb
  have HA3 := Lib.hid ha3
  have HOKA := Lib.hid hoka
  have HROWB := Lib.hid hrowb
  generalize allV ra = Sa at *
  generalize allV rb = Sb at *
  have hgt : ¬ 2000 < Sa + Sb := by omega
  have KSA := Lib.hid SA
  have KSB := Lib.hid SB
  have ra' := cell_regrown ca
  have rb' := cell_regrown cb
  have rq0 := cell_regrown q0
  have rq1 := cell_regrown q1
  have wr1 : IntKind.i64.wrap (Sa + Sb) = Sa + Sb := IntWalk.i64_in _ (by omega)
  clear ha hb hoka hokb Ka Kb hrowa hrowb e0 e1 r0 r1 hga hgb ga8 gar gb8 gbr SA SB q0 q1 hyes ha3 hle ava avb
  go_enter Try.func111, Try.ntmps111
  go_wp2
  rw [← hw0]
  clear hw0
  refine boxed_region (by kernel_rfl) (by kernel_rfl) ?_
  repeat (refine boxed_step (fun K hK => ?_); go_simp; first | (refine hK _ ?_; clear hK K) | (apply Exists.intro; refine ⟨fun _ => ?_, hK _ ?_⟩; (first | (with_reducible exact KA.out _ _) | (with_reducible exact KB.out _ _) | (with_reducible exact KSA.out _ _) | (with_reducible exact KSB.out _ _)); clear hK K))
  refine boxed_nil ?_
  intro _ hw'
  obtain ⟨⟨dq, oq⟩, hw''⟩ := hw'
  subst hw''
  have hb_w1 := below_regrown w0 dq oq
  obtain ⟨w1, hq_w1⟩ : ∃ x, x = grow (redrawn w0 dq) oq := ⟨_, rfl⟩
  rw [← hq_w1] at hb_w1 ⊢
  clear hq_w1
  have ca1 := cell_later hb_w1 ca
  have cb1 := cell_later hb_w1 cb
  have cr1 := cell_later hb_w1 cr
  have fr1 : w1.frozen? ⟨w.heap.size + 2, 0, none⟩ = false := by rw [hb_w1.frozen (p := ⟨w.heap.size + 2, 0, none⟩) lr]; exact fr
  have L1 := Lib.hid (HA.out.trans (hb_w1.mono HA.out.size))
  have KCopy := Lib.hid (copy_at w1 _ ra (HRA.out.below L1.out (Nat.le_refl _)) HOKA.out)
  have sz1 := hb_w1.size
  clear hb_w1 ra' rb' rq0 rq1 wr1 ca cb cr fr
  go_wp2_with fail
  refine KCopy.out.mono ?_
  rintro e w2 ⟨x, c, G, C, rfl, ho, hb2⟩
  obtain ⟨g, c', hu, hg1, hg2⟩ := World.ownsRow.form ho.hdr (by rw [HA3.out]; omega)
  rw [HA3.out] at hu
  obtain ⟨rfl, rfl⟩ : x = some ⟨g, 0, none⟩ ∧ c = c' := by simpa using hu
  clear hu
  have cb2 := cell_later hb2 cb1
  have cr2 := cell_later hb2 cr1
  have fr2 : w2.frozen? ⟨w.heap.size + 2, 0, none⟩ = false := by rw [hb2.frozen (p := ⟨w.heap.size + 2, 0, none⟩) (by simp; omega)]; exact fr1
  have sz2 := hb2.size
  have L2 := Lib.hid (L1.out.trans (hb2.mono L1.out.size))
  have HO2 := Lib.hid ho
  clear ho hb2 ca1 cb1 cr1 fr1 hgt
  go_wp2
  -- the rows
  go_loopw [7] (fun i wr => ∃ (k : Nat) (qs : List (List Int)), k ≤ 3 ∧ i = .int .i64 k ∧ Mixed ra rb qs k 0 ∧
      OwnR wr w1.heap.size (.slice (some ⟨g, 0, none⟩) 3 c) qs G C ∧ wr.cell? ⟨w2.heap.size, 0, none⟩ = some (.slice (some ⟨g, 0, none⟩) 3 c) ∧
      wr.cell? ⟨w.heap.size + 1, 0, none⟩ = some (.slice (some ⟨bb, ob, none⟩) 3 kb) ∧
      wr.cell? ⟨w.heap.size + 2, 0, none⟩ = some (.slice none 0 0) ∧ wr.frozen? ⟨w.heap.size + 2, 0, none⟩ = false ∧ Below w.heap.size w wr ∧ w2.heap.size < wr.heap.size) (fun i _ => 3 - (intOf i).toNat)
  case atStart =>
    have l1' : w.heap.size + 2 < w2.heap.size := by omega
    have l2' : w.heap.size + 1 < w2.heap.size := by omega
    exact ⟨0, ra, Nat.zero_le _, rfl, ⟨HA3.out, fun i hi => ⟨(HGA.out i hi).1, fun p hp => by rw [if_neg (by omega)]⟩⟩, HO2.out.below ((Below.refl _ _).alloc (Nat.le_refl _) _) (Nat.le_refl _), by simp,
      by rw [World.cell?_alloc_past _ _ _ l2']; exact cb2, by rw [World.cell?_alloc_past _ _ _ l1']; exact cr2,
      by rw [World.frozen?_alloc_past _ _ _ l1']; exact fr2, L2.out.alloc L2.out.size _, by simp⟩
  case round =>
    obtain ⟨k, qs, hk, rfl, hmix, hown, hbox, cB, cr, fr, hbl, hlt2⟩ := hrel
    have HM := Lib.hid hmix
    have HO := Lib.hid hown
    have HB := Lib.hid hbl
    clear hmix hown hbl
    by_cases hlt : k < 3
    · have hltB : decide ((k : Int) < 3) = true := by simp; omega
      obtain ⟨b2, o2, c2, e2, l2, r2⟩ := HROWB.out k hlt
      have R2 := Lib.hid r2
      have E2 := Lib.hid e2
      clear r2 e2
      go_wp2
      -- the places of row k
      go_loopw [8] (fun j wi => ∃ (m : Nat) (qs : List (List Int)), m ≤ 8 ∧ j = .int .i64 m ∧ Mixed ra rb qs k m ∧
          OwnR wi w1.heap.size (.slice (some ⟨g, 0, none⟩) 3 c) qs G C ∧ wi.cell? ⟨w2.heap.size, 0, none⟩ = some (.slice (some ⟨g, 0, none⟩) 3 c) ∧
          wi.cell? ⟨w.heap.size + 1, 0, none⟩ = some (.slice (some ⟨bb, ob, none⟩) 3 kb) ∧
          wi.cell? ⟨w.heap.size + 2, 0, none⟩ = some (.slice none 0 0) ∧ wi.frozen? ⟨w.heap.size + 2, 0, none⟩ = false ∧ Below w.heap.size w wi ∧ w2.heap.size < wi.heap.size) (fun j _ => 8 - (intOf j).toNat)
      case atStart => exact ⟨0, qs, Nat.zero_le _, rfl, HM.out, HO.out, hbox, cB, cr, fr, HB.out, hlt2⟩
      case round =>
        clear hbox cB cr fr hlt2
        obtain ⟨m, ps, hm, rfl, hmix, hown, hbox, cB, cr, fr, hbl, hlt2⟩ := hrel
        have HM' := Lib.hid hmix
        have HO' := Lib.hid hown
        have HB' := Lib.hid hbl
        clear hmix hown hbl
        by_cases hmt : m < 8
        · have hc1 := HO'.out.hdrCell HM'.out.1 k hlt
          rw [(HM'.out.2 k hlt).1] at hc1
          have hc2 := HO'.out.rowCell k m (by rw [HM'.out.1]; exact hlt) (by rw [(HM'.out.2 k hlt).1]; exact hmt)
          rw [(HM'.out.2 k hlt).2 m hmt, if_neg (by omega)] at hc2
          have he2 := E2.out
          rw [← HB'.out.cell (p := ⟨bb, ob + k, none⟩) hbb] at he2
          have hy := R2.out m hmt
          rw [← HB'.out.cell (p := ⟨b2, o2 + m, none⟩) l2] at hy
          obtain ⟨a0, a1⟩ := (HGA.out k hlt).2.1 m hmt
          obtain ⟨y0, y1⟩ := (HGB.out k hlt).2.1 m hmt
          have hst : ∀ w4 : World, Below wr.heap.size wr w4 → ∃ qs', Mixed ra rb qs' k (m + 1) ∧
              OwnR (w4.setCell ⟨G k, m, none⟩ (.int .i64 ((ra.getD k []).getD m 0 + (rb.getD k []).getD m 0))) w1.heap.size (.slice (some ⟨g, 0, none⟩) 3 c) qs' G C := fun w4 hw4 =>
            ⟨_, HM'.out.step hlt hmt, ((HO'.out.below hw4 (Nat.le_refl _)).store k m _ (by rw [HM'.out.1]; exact hlt) (by rw [(HM'.out.2 k hlt).1]; exact hmt)).1⟩
          have HST := Lib.hid hst
          have HGk : Hid (w1.heap.size ≤ G k ∧ G k < w2.heap.size) := ⟨((HO'.out.row k (by rw [HM'.out.1]; exact hlt)).lt (G k) rfl).1, ((HO2.out.row k (by rw [HA3.out]; exact hlt)).lt (G k) rfl).2⟩
          obtain ⟨a, hA⟩ : ∃ a, a = (ra.getD k []).getD m 0 := ⟨_, rfl⟩
          obtain ⟨y, hY⟩ : ∃ a, a = (rb.getD k []).getD m 0 := ⟨_, rfl⟩
          rw [← hA] at hc2 HST a0 a1
          rw [← hY] at hy HST y0 y1
          obtain ⟨hc2, hf2⟩ := hc2
          have lgk : G k < wr.heap.size := World.block_lt_of_cell? _ _ hc2
          have rb1 := cell_regrown hbox
          have rb2 := cell_regrown hc1
          have rb3 := cell_regrown hc2
          have rb4 := cell_regrown cB
          have rb5 := cell_regrown he2
          have rb6 := cell_regrown hy
          have k0 : (0 : Int) ≤ (k : Int) := by omega
          have k3 : (k : Int) < 3 := by omega
          have m0 : (0 : Int) ≤ (m : Int) := by omega
          have m8 : (m : Int) < 8 := by omega
          have wr1 : IntKind.i64.wrap (a + y) = a + y := IntWalk.i64_in _ (by omega)
          clear hst hA hY
          go_wp2
          refine wp_region_last (C := fun w' => ∃ p : Regrown, w' = grow (redrawn wr p.d) p.os) 24 _ rfl rfl rfl (by kernel_rfl) (by kernel_rfl) (by kernel_rfl) (by kernel_rfl) (by kernel_rfl) ⟨⟨wr.drawn + 1, #[]⟩, by rw [grow_empty]; rfl⟩ ?_
          simp only [List.take_succ_cons, List.take_zero]
          repeat (refine boxed_step (fun K hK => ?_); go_simp; first | (refine hK _ ?_; clear hK K) | (apply Exists.intro; refine ⟨fun _ => ?_, hK _ ?_⟩; (fail); clear hK K))
          refine boxed_nil ?_
          intro _ hw'
          obtain ⟨⟨dq, oq⟩, hw''⟩ := hw'
          subst hw''
          have hb_w4 := below_regrown wr dq oq
          obtain ⟨w4, hq_w4⟩ : ∃ x, x = grow (redrawn wr dq) oq := ⟨_, rfl⟩
          rw [← hq_w4] at hb_w4 ⊢
          clear hq_w4
          have d1 := cell_later hb_w4 hc2
          have d2 : w4.frozen? ⟨G k, m, none⟩ = false := by rw [hb_w4.frozen (p := ⟨G k, m, none⟩) lgk]; exact hf2
          have HB4 := Lib.hid hb_w4
          clear hb_w4 rb1 rb2 rb3 rb4 rb5 rb6 wr1 hc1 hc2 he2 hy
          go_wp2
          go_roundw
          case rel =>
            obtain ⟨qs', q1, q2⟩ := HST.out w4 HB4.out
            have lw2 : w2.heap.size < w4.heap.size := by have := HB4.out.size; omega
            have e2 : G k ≠ w2.heap.size := by have := HGk.out.2; omega
            have e1 : G k ≠ w.heap.size + 2 := by have := HGk.out.1; omega
            have e3 : G k ≠ w.heap.size + 1 := by have := HGk.out.1; omega
            refine ⟨m + 1, qs', by omega, by go_num, q1, q2, ?_, ?_, ?_, ?_, ?_, by simpa using lw2⟩
            · exact (World.cell?_setCell_other (h := fun h => by injection h with h; exact e2 h) ..).trans (cell_later HB4.out hbox)
            · exact (World.cell?_setCell_other (h := fun h => by injection h with h; exact e3 h) ..).trans (cell_later HB4.out cB)
            · exact (World.cell?_setCell_other (h := fun h => by injection h with h; exact e1 h) ..).trans (cell_later HB4.out cr)
            · rw [World.frozen?_setCell, HB4.out.frozen (p := ⟨w.heap.size + 2, 0, none⟩) (by simp; omega)]; exact fr
            · exact (HB'.out.trans (HB4.out.mono HB'.out.size)).setCell (by have := HGk.out.1; simp; omega) _
          case measure => simp [intOf]; omega
        · obtain rfl : m = 8 := by omega
          go_wp2
          go_roundw
          case rel => exact ⟨k + 1, ps, by omega, by go_num, HM'.out.next, HO'.out, hbox, cB, cr, fr, HB'.out, hlt2⟩
          case measure => simp [intOf]; omega
    · obtain rfl : k = 3 := by omega
      have HE := Lib.hid HM.out.done
      go_wp2
      have hr := World.cell?_setCell_same wr ⟨w.heap.size + 2, 0, none⟩ (.slice (some ⟨g, 0, none⟩) 3 c) cr
      have hw := HO.out.grown (grownBy_setCell wr ⟨w.heap.size + 2, 0, none⟩ (.slice (some ⟨g, 0, none⟩) 3 c)) (fun k e => by simp at e; omega)
      rw [HE.out] at hw
      exact bodyPost_ret (v := .tuple #[.agg #[.slice (some ⟨g, 0, none⟩) 3 c], .bool true]) (by simp [results, Try.results111, go_sem, hr]) rfl
        ⟨_, _, G, C, rfl, hw.base (by omega), HB.out.setCell (by simp; omega) _⟩

end Go.Proofs.Ytnoilafoeaknjaa

/-
  The program's generic joined, at numbers and at rows.
-/
namespace Go.Proofs.Ytnoilafoeaknjaa
open Go.RowKit Go.Sort

/-- The header L of rows, up to row m, that are both together, in blocks behind it. -/
structure Rowed (w : World) (L : Nat) (ra rb : List (List Int)) (m : Nat) (G : Nat → Nat) : Prop where
  hdr : ∃ cur, w.heap[L]? = some (.cells cur 26 (0, 0)) ∧ cur.size = 3 ∧ ∀ j, j < m → cur[j]? = some (.slice (some ⟨G j, 0, none⟩) 8 8)
  row : ∀ j, j < m → w.ownsRow (L + 1) 3 1 (.slice (some ⟨G j, 0, none⟩) 8 8) 8 (ints (addRows (ra.getD j []) (rb.getD j [])))
  apart : ∀ i j, i < m → j < m → i ≠ j → G i ≠ G j

theorem Rowed.own {w : World} {L : Nat} {ra rb : List (List Int)} {G : Nat → Nat} (h : Rowed w L ra rb 3 G) : OwnR w L (.slice (some ⟨L, 0, none⟩) 3 3) (joinV ra rb) G (fun _ => 8) := by
  obtain ⟨cur, h1, h2, h3⟩ := h.hdr
  have l8 : ∀ i, i < 3 → ((joinV ra rb).getD i []).length = 8 := fun i hi => by rw [joinV_get _ _ _ hi, addRows_len]
  refine ⟨⟨by simp [joinV], .inr ⟨L, 3, cur, rfl, Nat.le_refl _, h1, by simp [joinV], by simp [maxLen], by simpa using h2, ?_⟩⟩, fun i hi => ?_, fun i hi => ?_, fun i j hi hj => h.apart i j hi hj⟩
  · apply List.ext_getElem?
    intro i
    by_cases hi : i < 3
    · have e : rowV (joinV ra rb) G (fun _ => 8) i = .slice (some ⟨G i, 0, none⟩) 8 8 := by unfold rowV; rw [l8 i hi]
      rw [List.getElem?_map, List.getElem?_range (by simpa [joinV] using hi), List.getElem?_take, if_pos (by simp [joinV]; omega)]
      simp only [Array.getElem?_toList, Option.map_some, e]
      exact h3 i hi
    · rw [List.getElem?_eq_none (by simp [joinV]; omega), List.getElem?_eq_none (by simp [joinV]; omega)]
  · have hi' : i < 3 := by simpa [joinV] using hi
    have e : rowV (joinV ra rb) G (fun _ => 8) i = .slice (some ⟨G i, 0, none⟩) 8 8 := by unfold rowV; rw [l8 i hi']
    rw [e, l8 i hi', joinV_get _ _ _ hi']
    exact ownsRow_base (h.row i hi') (by omega)
  · have hi' : i < 3 := by simpa [joinV] using hi
    have := ((h.row i hi').lt (G i) rfl).1
    simp [Value.ownBlock]
    omega

theorem Rowed.step {w w1 : World} {L m g : Nat} {ra rb : List (List Int)} {G : Nat → Nat} (h : Rowed w L ra rb m G) (hm : m < 3) (hb : Below w.heap.size w w1) (hg : w.heap.size ≤ g) (hL : L < w.heap.size)
    (ho : w1.ownsRow (L + 1) 3 1 (.slice (some ⟨g, 0, none⟩) 8 8) 8 (ints (addRows (ra.getD m []) (rb.getD m [])))) :
    Rowed (w1.setCell ⟨L, m, none⟩ (.slice (some ⟨g, 0, none⟩) 8 8)) L ra rb (m + 1) (fun j => if j < m then G j else g) := by
  obtain ⟨cur, h1, h2, h3⟩ := h.hdr
  have h1' : w1.heap[L]? = some (.cells cur 26 (0, 0)) := by rw [hb.block L hL]; exact h1
  have lt : ∀ j, j < m → G j < w.heap.size ∧ L + 1 ≤ G j := fun j hj => by have := (h.row j hj).lt (G j) rfl; exact ⟨this.2, this.1⟩
  have hgs := grownBy_setCell w1 ⟨L, m, none⟩ (.slice (some ⟨g, 0, none⟩) 8 8)
  refine ⟨⟨_, heap_setCell_same w1 L m cur _ _ h1', by simpa using h2, fun j hj => ?_⟩, fun j hj => ?_, fun i j hi hj hij => ?_⟩
  · rw [Array.getElem?_setIfInBounds]
    by_cases e : j < m
    · rw [if_neg (by omega), if_pos e]; exact h3 j e
    · obtain rfl : j = m := by omega
      rw [if_pos rfl, if_pos (by omega), if_neg (by omega)]
  · by_cases e : j < m
    · simp only [if_pos e]
      have := (h.row j e).kept (grownBy_below (row := none) hb) (.inr (by simp [Value.ownBlock]))
      exact this.kept hgs (.inr (by have := (lt j e).2; simp [Value.ownBlock]; omega))
    · obtain rfl : j = m := by omega
      simp only [if_neg e]
      exact ho.kept hgs (.inr (by simp [Value.ownBlock]; omega))
  · show (if i < m then G i else g) ≠ (if j < m then G j else g)
    by_cases e1 : i < m <;> by_cases e2 : j < m
    · rw [if_pos e1, if_pos e2]; exact h.apart i j e1 e2 hij
    · rw [if_pos e1, if_neg e2]; have := (lt i e1).1; omega
    · rw [if_neg e1, if_pos e2]; have := (lt j e2).1; omega
    · omega

theorem later_free {w w' : World} {b i : Nat} (hb : Below w.heap.size w.drew w') (h : w.frozen? ⟨b, i, none⟩ = false) (hl : b < w.heap.size) : w'.frozen? ⟨b, i, none⟩ = false := by
  rw [hb.frozen (p := ⟨b, i, none⟩) hl]; exact h
theorem below_of_drew {w w' : World} {B : Nat} (hb : Below B w.drew w') : Below B w w' := ⟨hb.os, hb.tape, hb.output, hb.size, hb.block⟩

end Go.Proofs.Ytnoilafoeaknjaa

/-
  The program's RoughJoin and RoughAdd.
-/
namespace Go.Proofs.Ytnoilafoeaknjaa
open Go.RowKit Go.Sort

theorem roughAll_regrown (w : World) (u : Value) (rs : List (List Int)) (h : Rws w u rs) (d : Nat) (os : Array Obj) :
    Calls Try.prog 17 #[.agg #[u]] (grow (redrawn w d) os) fun e w'' => e = .returned (.int .i64 (allV rs)) ∧ ∃ p : Regrown, w'' = grow (redrawn w p.d) p.os :=
  Calls.regrown_of (roughAll_at _ u rs (h.below (below_regrown w d os) (Nat.le_refl _)))

theorem joinB_all (ra rb : List (List Int)) : joinB ra rb = true ↔ 0 ≤ allV ra ∧ 0 ≤ allV rb ∧ allV ra + allV rb ≤ 2000 := by
  rw [joinB_iff]
  constructor
  · rintro ⟨h1, h2, h3⟩
    exact ⟨(allV_ok h1).1, (allV_ok h2).1, h3⟩
  · rintro ⟨h1, h2, h3⟩
    refine ⟨?_, ?_, h3⟩
    · cases h : okB ra with
      | true => rfl
      | false => rw [allV_not h] at h1; omega
    · cases h : okB rb with
      | true => rfl
      | false => rw [allV_not h] at h2; omega

theorem allV_bd (rs : List (List Int)) : -1 ≤ allV rs ∧ allV rs ≤ 2000 := by
  cases h : okB rs with
  | true => have := allV_ok h; omega
  | false => rw [allV_not h]; omega

def oneRow (t n : Int) (i : Nat) : List Int := zeros.set (place i t).toNat n
/-- Nothing but a thing, n times. -/
def oneV (t n : Int) : List (List Int) := [oneRow t n 0, oneRow t n 1, oneRow t n 2]
theorem oneV_get (t n : Int) (i : Nat) (hi : i < 3) : (oneV t n).getD i [] = oneRow t n i := by
  rcases (by omega : i = 0 ∨ i = 1 ∨ i = 2) with rfl | rfl | rfl <;> rfl
theorem oneRow_len (t n : Int) (i : Nat) : (oneRow t n i).length = 8 := by simp [oneRow, zeros]
theorem zeros_get (k : Nat) : zeros.getD k 0 = 0 := by
  by_cases h : k < 8
  · rcases (by omega : k = 0 ∨ k = 1 ∨ k = 2 ∨ k = 3 ∨ k = 4 ∨ k = 5 ∨ k = 6 ∨ k = 7) with rfl | rfl | rfl | rfl | rfl | rfl | rfl | rfl <;> rfl
  · rw [List.getD_eq_getElem?_getD, List.getElem?_eq_none (by simp [zeros]; omega)]; rfl
theorem set_get (zs : List Int) (p k : Nat) (n : Int) (hp : p < zs.length) : (zs.set p n).getD k 0 = if k = p then n else zs.getD k 0 := by
  by_cases h : k = p
  · subst h
    rw [if_pos rfl, List.getD_eq_getElem?_getD, List.getElem?_set_self hp]; rfl
  · rw [if_neg h]
    simp [Ne.symm h]
theorem one_sum (p : Nat) (hp : p < 8) (n : Int) : (zeros.set p n).sum = n := by
  rcases (by omega : p = 0 ∨ p = 1 ∨ p = 2 ∨ p = 3 ∨ p = 4 ∨ p = 5 ∨ p = 6 ∨ p = 7) with rfl | rfl | rfl | rfl | rfl | rfl | rfl | rfl <;> simp [zeros]
theorem oneRow_sum (t n : Int) (i : Nat) : (oneRow t n i).sum = n := by
  obtain ⟨P, _, hP, e⟩ := place_nat i t
  unfold oneRow
  rw [e]
  exact one_sum P hP n
theorem oneRow_get (t n : Int) (i k : Nat) : (oneRow t n i).getD k 0 = if k = (place i t).toNat then n else 0 := by
  obtain ⟨P, _, hP, e⟩ := place_nat i t
  unfold oneRow
  rw [e, set_get _ _ _ _ (by simpa [zeros] using hP), zeros_get]
theorem oneV_ok (t n : Int) (h : 0 ≤ n ∧ n ≤ 2000) : okB (oneV t n) = true := by
  rw [okB_iff]
  refine ⟨rfl, fun i hi => ?_⟩
  unfold Good
  rw [oneV_get _ _ _ hi, oneV_get _ _ 0 (by omega), oneRow_sum, oneRow_sum]
  refine ⟨oneRow_len _ _ _, fun k _ => ?_, rfl, h.2⟩
  rw [oneRow_get]
  split <;> omega
theorem oneV_all (t n : Int) (h : 0 ≤ n ∧ n ≤ 2000) : allV (oneV t n) = n := by
  rw [← allV_sum (oneV_ok t n h), oneV_get _ _ 0 (by omega), oneRow_sum]
theorem oneV_bad (t n : Int) (h : n < 0 ∨ 2000 < n) : okB (oneV t n) = false := by
  refine okB_false (.inr ⟨0, by omega, fun g => ?_⟩)
  have h1 := g.2.1
  have h2 := g.2.2.2
  rw [oneV_get _ _ 0 (by omega)] at h1 h2
  rw [oneRow_sum] at h2
  obtain ⟨P, _, hP, e⟩ := place_nat (0 : Nat) t
  have h3 := h1 P hP
  rw [oneRow_get, if_pos e.symm] at h3
  omega
theorem join_one (rs : List (List Int)) (t n : Int) (h0 : 0 ≤ t) (h1 : t < 64) : joinB rs (oneV t n) = addB rs t n := by
  rw [Bool.eq_iff_iff, joinB_iff, addB_iff]
  by_cases h : 0 ≤ n ∧ n ≤ 2000
  · rw [oneV_all t n h, oneV_ok t n h]
    constructor
    · rintro ⟨a, _, b⟩; exact ⟨a, h0, h1, h.1, by omega⟩
    · rintro ⟨a, _, _, _, b⟩; exact ⟨a, rfl, by omega⟩
  · rw [oneV_bad t n (by omega)]
    constructor
    · rintro ⟨_, b, _⟩; cases b
    · rintro ⟨a, _, _, b, c⟩; have := allV_ok a; omega
theorem joinV_one (rs : List (List Int)) (t n : Int) (hok : okB rs = true) : joinV rs (oneV t n) = addV rs t n := by
  obtain ⟨_, hg⟩ := (okB_iff rs).1 hok
  refine eq_three rfl rfl fun i hi => ?_
  rw [joinV_get _ _ _ hi, addV_get _ _ _ _ hi, oneV_get _ _ _ hi]
  obtain ⟨P, _, hP, e⟩ := place_nat i t
  have h8 := (hg i hi).1
  refine of_decide_eq_true (eq_of_get (d := 0) (n := 8) (addRows_len _ _) (by simp only [addRow, List.length_set]; exact h8) fun k hk => ?_)
  rw [addRows_get _ _ _ hk, oneRow_get]
  unfold addRow atV
  rw [e, set_get _ _ _ _ (by rw [h8]; exact hP)]
  split
  · rename_i h; subst h; rfl
  · omega

/-- How RoughJoin answers, told of both cases at once. -/
def JoinEnd (w : World) (ra rb : List (List Int)) (e : Ending) (w' : World) : Prop :=
  ∃ x m c ok, e = .returned (.tuple #[.agg #[.slice x m c], .bool ok]) ∧ ok = joinB ra rb ∧ Below w.heap.size w w' ∧ (ok = false → x = none ∧ m = 0 ∧ c = 0) ∧ (ok = true → m = 3 ∧ ∃ G C, OwnR w' w.heap.size (.slice x m c) (joinV ra rb) G C)
end Go.Proofs.Ytnoilafoeaknjaa

/-
  Rough counts, added and joined: what they have together.
-/
namespace Go.Proofs.Ytnoilafoeaknjaa
open Go.RowKit

theorem sum8 {zs : List Int} (h : zs.length = 8) : zs.sum = zs.getD 0 0 + zs.getD 1 0 + zs.getD 2 0 + zs.getD 3 0 + zs.getD 4 0 + zs.getD 5 0 + zs.getD 6 0 + zs.getD 7 0 := by
  match zs, h with
  | [a, b, c, d, e, f, g, i], _ => simp; omega

theorem addRows_sum (x y : List Int) (hx : x.length = 8) (hy : y.length = 8) : (addRows x y).sum = x.sum + y.sum := by
  rw [sum8 hx, sum8 hy, sum8 (addRows_len x y)]
  rw [addRows_get _ _ 0 (by omega), addRows_get _ _ 1 (by omega), addRows_get _ _ 2 (by omega), addRows_get _ _ 3 (by omega), addRows_get _ _ 4 (by omega), addRows_get _ _ 5 (by omega), addRows_get _ _ 6 (by omega), addRows_get _ _ 7 (by omega)]
  omega

theorem okB_fine {rs : List (List Int)} (h3 : rs.length = 3) (h : ∀ i, i < 3 → Fine (rs.getD i []) ∧ (rs.getD i []).sum = (rs.getD 0 []).sum) : okB rs = true :=
  (okB_iff rs).2 ⟨h3, fun i hi => ⟨(h i hi).1.1, (h i hi).1.bd.2.2, (h i hi).2, (h i hi).1.2.2⟩⟩
theorem fine_okB {rs : List (List Int)} (h : okB rs = true) (i : Nat) (hi : i < 3) : Fine (rs.getD i []) ∧ (rs.getD i []).sum = allV rs := by
  obtain ⟨_, hg⟩ := (okB_iff rs).1 h
  have g := hg i hi
  exact ⟨⟨g.1, fun k hk => (g.2.1 k hk).1, g.2.2.2⟩, g.2.2.1.trans (allV_sum h)⟩

theorem okB_join {ra rb : List (List Int)} (h : joinB ra rb = true) : okB (joinV ra rb) = true ∧ allV (joinV ra rb) = allV ra + allV rb := by
  obtain ⟨ha, hb, hs⟩ := (joinB_iff ra rb).1 h
  have rowS : ∀ i, i < 3 → ((joinV ra rb).getD i []).sum = allV ra + allV rb := fun i hi => by
    rw [joinV_get _ _ _ hi, addRows_sum _ _ (fine_okB ha i hi).1.1 (fine_okB hb i hi).1.1, (fine_okB ha i hi).2, (fine_okB hb i hi).2]
  have ok : okB (joinV ra rb) = true := okB_fine rfl fun i hi => by
    refine ⟨⟨by rw [joinV_get _ _ _ hi]; exact addRows_len _ _, fun k hk => ?_, by rw [rowS i hi]; exact hs⟩, by rw [rowS i hi, rowS 0 (by omega)]⟩
    rw [joinV_get _ _ _ hi, addRows_get _ _ _ hk]
    have := (fine_okB ha i hi).1.2.1 k hk
    have := (fine_okB hb i hi).1.2.1 k hk
    omega
  exact ⟨ok, by rw [← allV_sum ok, rowS 0 (by omega)]⟩

theorem okB_add {rs : List (List Int)} {t n : Int} (h : addB rs t n = true) : okB (addV rs t n) = true ∧ allV (addV rs t n) = allV rs + n := by
  obtain ⟨ok, t0, t1, n0, n1⟩ := (addB_iff rs t n).1 h
  have hj := join_one rs t n t0 t1
  rw [h] at hj
  have := okB_join hj
  have av := allV_ok ok
  rw [joinV_one rs t n ok, oneV_all t n (by omega)] at this
  exact this

/-- How both RoughAdds and both RoughJoins answer: nothing and false, or the rows and true. -/
def EndR (w : World) (ok : Bool) (rs : List (List Int)) (e : Ending) (w' : World) : Prop :=
  ∃ x m c, e = .returned (.tuple #[.agg #[.slice x m c], .bool ok]) ∧ Below w.heap.size w w' ∧ (ok = false → x = none ∧ m = 0 ∧ c = 0) ∧ (ok = true → m = 3 ∧ ∃ G C, OwnR w' w.heap.size (.slice x m c) rs G C)

theorem spJoin_end (w : World) (u v : Value) (ra rb : List (List Int)) (ha : Rws w u ra) (hb : Rws w v rb) : Calls Try.prog 111 #[.agg #[u], .agg #[v]] w (EndR w (joinB ra rb) (joinV ra rb)) := by
  cases h : joinB ra rb with
  | false => exact (spJoin_no w u v ra rb ha hb h).mono fun e w' ⟨he, hb⟩ => ⟨none, 0, 0, he, hb, fun _ => ⟨rfl, rfl, rfl⟩, fun q => by cases q⟩
  | true => exact (spJoin_yes w u v ra rb ha hb h).mono fun e w' ⟨x, c, G, C, he, ho, hb⟩ => ⟨x, 3, c, he, hb, fun q => (by cases q), fun _ => ⟨rfl, G, C, ho⟩⟩
theorem spAdd_end (w : World) (u : Value) (rs : List (List Int)) (t n : Int) (h : Rws w u rs) : Calls Try.prog 123 #[.agg #[u], .int .i64 t, .int .i64 n] w (EndR w (addB rs t n) (addV rs t n)) := by
  cases q : addB rs t n with
  | false => exact (spAdd_no w u rs t n h q).mono fun e w' ⟨he, hb⟩ => ⟨none, 0, 0, he, hb, fun _ => ⟨rfl, rfl, rfl⟩, fun q => by cases q⟩
  | true => exact (spAdd_yes w u rs t n h q).mono fun e w' ⟨x, c, G, C, he, ho, hb⟩ => ⟨x, 3, c, he, hb, fun q => (by cases q), fun _ => ⟨rfl, G, C, ho⟩⟩
/-- What stands in the answer: the rows, or nothing. -/
def resV (ok : Bool) (rs : List (List Int)) : List (List Int) := if ok = true then rs else []
theorem EndR.rws {w w' : World} {ok : Bool} {rs : List (List Int)} {e : Ending} (h : EndR w ok rs e w') :
    ∃ x m c, e = .returned (.tuple #[.agg #[.slice x m c], .bool ok]) ∧ Below w.heap.size w w' ∧ Rws w' (.slice x m c) (resV ok rs) := by
  obtain ⟨x, m, c, he, hb, h0, h1⟩ := h
  refine ⟨x, m, c, he, hb, ?_⟩
  cases ok with
  | false => obtain ⟨rfl, rfl, rfl⟩ := h0 rfl; exact .inl ⟨rfl, rfl⟩
  | true => obtain ⟨_, G, C, ho⟩ := h1 rfl; exact ho.rws

end Go.Proofs.Ytnoilafoeaknjaa
