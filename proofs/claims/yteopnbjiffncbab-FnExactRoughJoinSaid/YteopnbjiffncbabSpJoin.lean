/-
  The model's RoughJoin.
-/
import Derived.Test.YteopnbjiffncbabSpAdd
namespace Go.Proofs.Yteopnbjiffncbab
open Go.RowKit Go.Sort

def addRows (x y : List Int) : List Int := (List.range 8).map fun k => x.getD k 0 + y.getD k 0
/-- Both counts together. -/
def joinV (ra rb : List (List Int)) : List (List Int) := [addRows (ra.getD 0 []) (rb.getD 0 []), addRows (ra.getD 1 []) (rb.getD 1 []), addRows (ra.getD 2 []) (rb.getD 2 [])]
/-- Whether they can be joined. -/
def joinB (ra rb : List (List Int)) : Bool := okB ra && okB rb && decide (allV ra + allV rb ≤ 2000)

theorem joinB_iff (ra rb : List (List Int)) : joinB ra rb = true ↔ okB ra = true ∧ okB rb = true ∧ allV ra + allV rb ≤ 2000 := by simp [joinB, and_assoc]
theorem joinV_get (ra rb : List (List Int)) (i : Nat) (hi : i < 3) : (joinV ra rb).getD i [] = addRows (ra.getD i []) (rb.getD i []) := by
  rcases (by omega : i = 0 ∨ i = 1 ∨ i = 2) with rfl | rfl | rfl <;> rfl
theorem addRows_len (x y : List Int) : (addRows x y).length = 8 := by simp [addRows]
theorem addRows_get (x y : List Int) (k : Nat) (h : k < 8) : (addRows x y).getD k 0 = x.getD k 0 + y.getD k 0 := by
  simp only [addRows, List.getD_eq_getElem?_getD, List.getElem?_map, List.getElem?_range h, Option.map_some, Option.getD_some]

/-- The rows so far: up to row k, and in row k up to place m, both together. -/
def Mixed (ra rb qs : List (List Int)) (k m : Nat) : Prop := qs.length = 3 ∧ ∀ i, i < 3 → (qs.getD i []).length = 8 ∧ ∀ p, p < 8 → (qs.getD i []).getD p 0 = if i < k ∨ (i = k ∧ p < m) then (ra.getD i []).getD p 0 + (rb.getD i []).getD p 0 else (ra.getD i []).getD p 0

theorem Mixed.done {ra rb qs : List (List Int)} (h : Mixed ra rb qs 3 0) : qs = joinV ra rb :=
  eq_three h.1 rfl fun i hi => by
    have := eq_of_get (d := 0) (a := qs.getD i []) (b := (joinV ra rb).getD i []) (h.2 i hi).1 (by rw [joinV_get _ _ _ hi]; exact addRows_len _ _) (fun p hp => by
      rw [(h.2 i hi).2 p hp, if_pos (.inl hi), joinV_get _ _ _ hi, addRows_get _ _ _ hp])
    simpa using this
theorem Mixed.next {ra rb qs : List (List Int)} {k : Nat} (h : Mixed ra rb qs k 8) : Mixed ra rb qs (k + 1) 0 :=
  ⟨h.1, fun i hi => ⟨(h.2 i hi).1, fun p hp => by
    rw [(h.2 i hi).2 p hp]
    by_cases e : i < k ∨ (i = k ∧ p < 8)
    · rw [if_pos e, if_pos (by omega)]
    · rw [if_neg e, if_neg (by omega)]⟩⟩
theorem Mixed.step {ra rb qs : List (List Int)} {k m : Nat} (h : Mixed ra rb qs k m) (hk : k < 3) (hm : m < 8) :
    Mixed ra rb (qs.set k ((qs.getD k []).set m ((ra.getD k []).getD m 0 + (rb.getD k []).getD m 0))) k (m + 1) := by
  refine ⟨by simpa using h.1, fun i hi => ?_⟩
  by_cases e : i = k
  · subst e
    have e1 : (qs.set i ((qs.getD i []).set m ((ra.getD i []).getD m 0 + (rb.getD i []).getD m 0))).getD i [] = (qs.getD i []).set m ((ra.getD i []).getD m 0 + (rb.getD i []).getD m 0) := by
      simp [h.1, hi]
    rw [e1]
    refine ⟨by simpa using (h.2 i hi).1, fun p hp => ?_⟩
    by_cases e2 : p = m
    · subst e2
      rw [if_pos (.inr ⟨rfl, by omega⟩)]
      have := (h.2 i hi).1
      rw [List.getD_eq_getElem?_getD, List.getElem?_set_self (by rw [this]; exact hp)]
      rfl
    · have e3 : ((qs.getD i []).set m ((ra.getD i []).getD m 0 + (rb.getD i []).getD m 0)).getD p 0 = (qs.getD i []).getD p 0 := by
        simp [Ne.symm e2]
      rw [e3, (h.2 i hi).2 p hp]
      by_cases e4 : i < i ∨ (i = i ∧ p < m)
      · rw [if_pos e4, if_pos (by omega)]
      · rw [if_neg e4, if_neg (by omega)]
  · have e1 : (qs.set k ((qs.getD k []).set m ((ra.getD k []).getD m 0 + (rb.getD k []).getD m 0))).getD i [] = qs.getD i [] := by simp [Ne.symm e]
    rw [e1]
    refine ⟨(h.2 i hi).1, fun p hp => ?_⟩
    rw [(h.2 i hi).2 p hp]
    by_cases e4 : i < k ∨ (i = k ∧ p < m)
    · rw [if_pos e4, if_pos (by omega)]
    · rw [if_neg e4, if_neg (by omega)]

theorem spOk_regrown (w : World) (u : Value) (rs : List (List Int)) (h : Rws w u rs) (d : Nat) (os : Array Obj) :
    Calls Try.prog 20 #[.agg #[u]] (grow (redrawn w d) os) fun e w'' => e = .returned (.bool (okB rs)) ∧ ∃ p : Regrown, w'' = grow (redrawn w p.d) p.os :=
  Calls.regrown_of (spOk_any u rs _ (h.below (below_regrown w d os) (Nat.le_refl _)))
theorem l1Sum_regrown (w : World) (b o cap : Nat) (zs : List Int) (S : Int) (hS : zs.sum = S) (hn : zs.length = 8) (hz : ∀ k, k < 8 → 0 ≤ zs.getD k 0 ∧ zs.getD k 0 ≤ 2000)
    (hc : ∀ i, i < 8 → w.cell? ⟨b, o + i, none⟩ = some (.int .i64 (zs.getD i 0))) (d : Nat) (os : Array Obj) :
    Calls Try.prog 51 #[.slice (some ⟨b, o, none⟩) 8 cap] (grow (redrawn w d) os) fun e w'' => e = .returned (.int .i64 S) ∧ ∃ p : Regrown, w'' = grow (redrawn w p.d) p.os := by
  rw [← hS]
  exact Calls.regrown_of ((l1Sum_at b o cap 8 zs _ hn (by omega) hz (fun i hi => cell_regrown (hc i hi) d os)).mono fun _ _ ⟨he, hw⟩ => ⟨he, by subst hw; exact Below.refl _ _⟩)

theorem allV_sum {rs : List (List Int)} (h : okB rs = true) : (rs.getD 0 []).sum = allV rs := (if_pos h).symm

set_option maxHeartbeats 1000000 in
theorem spJoin_no (w : World) (u v : Value) (ra rb : List (List Int)) (ha : Rws w u ra) (hb : Rws w v rb) (hno : joinB ra rb = false) :
    Calls Try.prog 29 #[.agg #[u], .agg #[v]] w fun e w' => e = .returned (.tuple #[.agg #[.slice none 0 0], .bool false]) ∧ Below w.heap.size w w' := by
  obtain ⟨w0, hw0⟩ : ∃ x, x = ((w.alloc (.cells #[u] 24)).alloc (.cells #[v] 24)).alloc (.cells #[.slice none 0 0] 24) := ⟨_, rfl⟩
  have hA : Below w.heap.size w w0 := by rw [hw0]; exact (((Below.refl w.heap.size w).alloc (Nat.le_refl _) _).alloc (by simp) _).alloc (by simp; omega) _
  have tb := three_blocks w (.cells #[u] 24) (.cells #[v] 24) (.cells #[.slice none 0 0] 24)
  rw [← hw0] at tb
  obtain ⟨ca, _, la⟩ := cell_block tb.1
  obtain ⟨cb, _, lb⟩ := cell_block tb.2.1
  obtain ⟨cr, fr, lr⟩ := cell_block tb.2.2
  have Ka := spOk_regrown w0 u ra (ha.below hA (Nat.le_refl _))
  have Kb := spOk_regrown w0 v rb (hb.below hA (Nat.le_refl _))
  have HA := Lib.hid hA
  clear hA tb
  cases hoka : okB ra with
  | false =>
    rw [hoka] at Ka
    have KA := Lib.hid Ka
    obtain ⟨⟨x, c, hx⟩, _⟩ := ha.cases
    obtain ⟨⟨y, d, hy⟩, _⟩ := hb.cases
    obtain ⟨n, hn⟩ : ∃ n, n = ra.length := ⟨_, rfl⟩
    obtain ⟨m, hm⟩ : ∃ n, n = rb.length := ⟨_, rfl⟩
    rw [← hn] at hx
    rw [← hm] at hy
    subst hx hy
    have ra' := cell_regrown ca
    clear ha hb hn hm hoka hno Ka Kb
    go_enter Try.func29, Try.ntmps29
    go_wp2
    rw [← hw0]
    clear hw0
    refine boxed_region (by kernel_rfl) (by kernel_rfl) ?_
    repeat (refine boxed_step (fun K hK => ?_); go_simp; first | (refine hK _ ?_; clear hK K) | (apply Exists.intro; refine ⟨fun _ => ?_, hK _ ?_⟩; (with_reducible exact KA.out _ _); clear hK K))
    refine boxed_nil ?_
    intro _ hw'
    obtain ⟨⟨dq, oq⟩, hw''⟩ := hw'
    subst hw''
    have hb_w1 := below_regrown w0 dq oq
    obtain ⟨w1, hq_w1⟩ : ∃ x, x = grow (redrawn w0 dq) oq := ⟨_, rfl⟩
    rw [← hq_w1] at hb_w1 ⊢
    clear hq_w1
    have cr1 := cell_later hb_w1 cr
    have fr1 : w1.frozen? ⟨w.heap.size + 2, 0, none⟩ = false := by rw [hb_w1.frozen (p := ⟨w.heap.size + 2, 0, none⟩) lr]; exact fr
    have L1 := Lib.hid (HA.out.trans (hb_w1.mono HA.out.size))
    clear hb_w1 ra'
    go_wp2
    have hr := World.cell?_setCell_same w1 ⟨w.heap.size + 2, 0, none⟩ (.slice none 0 0) cr1
    exact bodyPost_ret (v := .tuple #[.agg #[.slice none 0 0], .bool false]) (by simp [results, Try.results29, go_sem, hr]) rfl ⟨rfl, L1.out.setCell (by simp; omega) _⟩
  | true =>
    rw [hoka] at Ka
    have KA := Lib.hid Ka
    obtain ⟨ba, oa, ka, rfl, _, hba, hrowa⟩ := ok_form ha hoka
    cases hokb : okB rb with
    | false =>
      rw [hokb] at Kb
      have KB := Lib.hid Kb
      obtain ⟨⟨y, d, hy⟩, _⟩ := hb.cases
      obtain ⟨m, hm⟩ : ∃ n, n = rb.length := ⟨_, rfl⟩
      rw [← hm] at hy
      subst hy
      have ra' := cell_regrown ca
      have rb' := cell_regrown cb
      clear ha hb hm hoka hokb hno Ka Kb hrowa
      go_enter Try.func29, Try.ntmps29
      go_wp2
      rw [← hw0]
      clear hw0
      refine boxed_region (by kernel_rfl) (by kernel_rfl) ?_
      repeat (refine boxed_step (fun K hK => ?_); go_simp; first | (refine hK _ ?_; clear hK K) | (apply Exists.intro; refine ⟨fun _ => ?_, hK _ ?_⟩; (first | (with_reducible exact KA.out _ _) | (with_reducible exact KB.out _ _)); clear hK K))
      refine boxed_nil ?_
      intro _ hw'
      obtain ⟨⟨dq, oq⟩, hw''⟩ := hw'
      subst hw''
      have hb_w1 := below_regrown w0 dq oq
      obtain ⟨w1, hq_w1⟩ : ∃ x, x = grow (redrawn w0 dq) oq := ⟨_, rfl⟩
      rw [← hq_w1] at hb_w1 ⊢
      clear hq_w1
      have cr1 := cell_later hb_w1 cr
      have fr1 : w1.frozen? ⟨w.heap.size + 2, 0, none⟩ = false := by rw [hb_w1.frozen (p := ⟨w.heap.size + 2, 0, none⟩) lr]; exact fr
      have L1 := Lib.hid (HA.out.trans (hb_w1.mono HA.out.size))
      clear hb_w1 ra' rb'
      go_wp2
      have hr := World.cell?_setCell_same w1 ⟨w.heap.size + 2, 0, none⟩ (.slice none 0 0) cr1
      exact bodyPost_ret (v := .tuple #[.agg #[.slice none 0 0], .bool false]) (by simp [results, Try.results29, go_sem, hr]) rfl ⟨rfl, L1.out.setCell (by simp; omega) _⟩
    | true =>
      rw [hokb] at Kb
      have KB := Lib.hid Kb
      obtain ⟨bb, ob, kb, rfl, _, hbb, hrowb⟩ := ok_form hb hokb
      obtain ⟨b0, o0, c0, e0, l0, r0⟩ := hrowa 0 (by omega)
      obtain ⟨b1, o1, c1, e1, l1, r1⟩ := hrowb 0 (by omega)
      obtain ⟨_, hga⟩ := (okB_iff ra).1 hoka
      obtain ⟨_, hgb⟩ := (okB_iff rb).1 hokb
      obtain ⟨ga8, gar, _, _⟩ := hga 0 (by omega)
      obtain ⟨gb8, gbr, _, _⟩ := hgb 0 (by omega)
      have ava := allV_ok hoka
      have avb := allV_ok hokb
      have SA := l1Sum_regrown w0 b0 o0 c0 _ _ (allV_sum hoka) ga8 gar (fun i hi => by rw [HA.out.cell (p := ⟨b0, o0 + i, none⟩) l0]; exact r0 i hi)
      have SB := l1Sum_regrown w0 b1 o1 c1 _ _ (allV_sum hokb) gb8 gbr (fun i hi => by rw [HA.out.cell (p := ⟨b1, o1 + i, none⟩) l1]; exact r1 i hi)
      have hsum : ¬ allV ra + allV rb ≤ 2000 := fun hh => by
        have := (joinB_iff ra rb).2 ⟨hoka, hokb, hh⟩
        rw [this] at hno
        cases hno
      have q0 : w0.cell? ⟨ba, oa, none⟩ = some (.slice (some ⟨b0, o0, none⟩) 8 c0) := by rw [HA.out.cell (p := ⟨ba, oa, none⟩) hba]; exact e0
      have q1 : w0.cell? ⟨bb, ob, none⟩ = some (.slice (some ⟨b1, o1, none⟩) 8 c1) := by rw [HA.out.cell (p := ⟨bb, ob, none⟩) hbb]; exact e1
      generalize allV ra = Sa at *
      generalize allV rb = Sb at *
      have hgt : 2000 < Sa + Sb := by omega
      have KSA := Lib.hid SA
      have KSB := Lib.hid SB
      have ra' := cell_regrown ca
      have rb' := cell_regrown cb
      have rq0 := cell_regrown q0
      have rq1 := cell_regrown q1
      have wr1 : IntKind.i64.wrap (Sa + Sb) = Sa + Sb := IntWalk.i64_in _ (by omega)
      clear ha hb hoka hokb hno Ka Kb hrowa hrowb e0 e1 r0 r1 hga hgb ga8 gar gb8 gbr SA SB q0 q1 hsum
      go_enter Try.func29, Try.ntmps29
      go_wp2
      rw [← hw0]
      clear hw0
      refine boxed_region (by kernel_rfl) (by kernel_rfl) ?_
      repeat (refine boxed_step (fun K hK => ?_); go_simp; first | (refine hK _ ?_; clear hK K) | (apply Exists.intro; refine ⟨fun _ => ?_, hK _ ?_⟩; (first | (with_reducible exact KA.out _ _) | (with_reducible exact KB.out _ _) | (with_reducible exact KSA.out _ _) | (with_reducible exact KSB.out _ _)); clear hK K))
      refine boxed_nil ?_
      intro _ hw'
      obtain ⟨⟨dq, oq⟩, hw''⟩ := hw'
      subst hw''
      have hb_w1 := below_regrown w0 dq oq
      obtain ⟨w1, hq_w1⟩ : ∃ x, x = grow (redrawn w0 dq) oq := ⟨_, rfl⟩
      rw [← hq_w1] at hb_w1 ⊢
      clear hq_w1
      have cr1 := cell_later hb_w1 cr
      have fr1 : w1.frozen? ⟨w.heap.size + 2, 0, none⟩ = false := by rw [hb_w1.frozen (p := ⟨w.heap.size + 2, 0, none⟩) lr]; exact fr
      have L1 := Lib.hid (HA.out.trans (hb_w1.mono HA.out.size))
      clear hb_w1 ra' rb' rq0 rq1 wr1
      go_wp2
      have hr := World.cell?_setCell_same w1 ⟨w.heap.size + 2, 0, none⟩ (.slice none 0 0) cr1
      exact bodyPost_ret (v := .tuple #[.agg #[.slice none 0 0], .bool false]) (by simp [results, Try.results29, go_sem, hr]) rfl ⟨rfl, L1.out.setCell (by simp; omega) _⟩

set_option maxHeartbeats 4000000 in
theorem spJoin_yes (w : World) (u v : Value) (ra rb : List (List Int)) (ha : Rws w u ra) (hb : Rws w v rb) (hyes : joinB ra rb = true) :
    Calls Try.prog 29 #[.agg #[u], .agg #[v]] w fun e w' => ∃ x c G C, e = .returned (.tuple #[.agg #[.slice x 3 c], .bool true]) ∧ OwnR w' w.heap.size (.slice x 3 c) (joinV ra rb) G C ∧ Below w.heap.size w w' := by
  obtain ⟨hoka, hokb, hle⟩ := (joinB_iff ra rb).1 hyes
  obtain ⟨w0, hw0⟩ : ∃ x, x = ((w.alloc (.cells #[u] 24)).alloc (.cells #[v] 24)).alloc (.cells #[.slice none 0 0] 24) := ⟨_, rfl⟩
  have hA : Below w.heap.size w w0 := by rw [hw0]; exact (((Below.refl w.heap.size w).alloc (Nat.le_refl _) _).alloc (by simp) _).alloc (by simp; omega) _
  have tb := three_blocks w (.cells #[u] 24) (.cells #[v] 24) (.cells #[.slice none 0 0] 24)
  rw [← hw0] at tb
  obtain ⟨ca, _, la⟩ := cell_block tb.1
  obtain ⟨cb, _, lb⟩ := cell_block tb.2.1
  obtain ⟨cr, fr, lr⟩ := cell_block tb.2.2
  have Ka := spOk_regrown w0 u ra (ha.below hA (Nat.le_refl _))
  have Kb := spOk_regrown w0 v rb (hb.below hA (Nat.le_refl _))
  have HA := Lib.hid hA
  clear hA tb
  rw [hoka] at Ka
  rw [hokb] at Kb
  have KA := Lib.hid Ka
  have KB := Lib.hid Kb
  have HRA := Lib.hid ha
  obtain ⟨ba, oa, ka, rfl, _, hba, hrowa⟩ := ok_form ha hoka
  obtain ⟨bb, ob, kb, rfl, _, hbb, hrowb⟩ := ok_form hb hokb
  obtain ⟨b0, o0, c0, e0, l0, r0⟩ := hrowa 0 (by omega)
  obtain ⟨b1, o1, c1, e1, l1, r1⟩ := hrowb 0 (by omega)
  obtain ⟨ha3, hga⟩ := (okB_iff ra).1 hoka
  obtain ⟨_, hgb⟩ := (okB_iff rb).1 hokb
  obtain ⟨ga8, gar, _, _⟩ := hga 0 (by omega)
  obtain ⟨gb8, gbr, _, _⟩ := hgb 0 (by omega)
  have ava := allV_ok hoka
  have avb := allV_ok hokb
  have SA := l1Sum_regrown w0 b0 o0 c0 _ _ (allV_sum hoka) ga8 gar (fun i hi => by rw [HA.out.cell (p := ⟨b0, o0 + i, none⟩) l0]; exact r0 i hi)
  have SB := l1Sum_regrown w0 b1 o1 c1 _ _ (allV_sum hokb) gb8 gbr (fun i hi => by rw [HA.out.cell (p := ⟨b1, o1 + i, none⟩) l1]; exact r1 i hi)
  have q0 : w0.cell? ⟨ba, oa, none⟩ = some (.slice (some ⟨b0, o0, none⟩) 8 c0) := by rw [HA.out.cell (p := ⟨ba, oa, none⟩) hba]; exact e0
  have q1 : w0.cell? ⟨bb, ob, none⟩ = some (.slice (some ⟨b1, o1, none⟩) 8 c1) := by rw [HA.out.cell (p := ⟨bb, ob, none⟩) hbb]; exact e1
  have HGA := Lib.hid hga
  have HGB := Lib.hid hgb
  have HA3 := Lib.hid ha3
  have HOKA := Lib.hid hoka
  have HROWB := Lib.hid hrowb
  generalize allV ra = Sa at *
  generalize allV rb = Sb at *
  have hgt : ¬ 2000 < Sa + Sb := by omega
  have KSA := Lib.hid SA
  have KSB := Lib.hid SB
  have ra' := cell_regrown ca
  have rb' := cell_regrown cb
  have rq0 := cell_regrown q0
  have rq1 := cell_regrown q1
  have wr1 : IntKind.i64.wrap (Sa + Sb) = Sa + Sb := IntWalk.i64_in _ (by omega)
  clear ha hb hoka hokb Ka Kb hrowa hrowb e0 e1 r0 r1 hga hgb ga8 gar gb8 gbr SA SB q0 q1 hyes ha3 hle ava avb
  go_enter Try.func29, Try.ntmps29
  go_wp2
  rw [← hw0]
  clear hw0
  refine boxed_region (by kernel_rfl) (by kernel_rfl) ?_
  repeat (refine boxed_step (fun K hK => ?_); go_simp; first | (refine hK _ ?_; clear hK K) | (apply Exists.intro; refine ⟨fun _ => ?_, hK _ ?_⟩; (first | (with_reducible exact KA.out _ _) | (with_reducible exact KB.out _ _) | (with_reducible exact KSA.out _ _) | (with_reducible exact KSB.out _ _)); clear hK K))
  refine boxed_nil ?_
  intro _ hw'
  obtain ⟨⟨dq, oq⟩, hw''⟩ := hw'
  subst hw''
  have hb_w1 := below_regrown w0 dq oq
  obtain ⟨w1, hq_w1⟩ : ∃ x, x = grow (redrawn w0 dq) oq := ⟨_, rfl⟩
  rw [← hq_w1] at hb_w1 ⊢
  clear hq_w1
  have ca1 := cell_later hb_w1 ca
  have cb1 := cell_later hb_w1 cb
  have cr1 := cell_later hb_w1 cr
  have fr1 : w1.frozen? ⟨w.heap.size + 2, 0, none⟩ = false := by rw [hb_w1.frozen (p := ⟨w.heap.size + 2, 0, none⟩) lr]; exact fr
  have L1 := Lib.hid (HA.out.trans (hb_w1.mono HA.out.size))
  have KCopy := Lib.hid (copy_at w1 _ ra (HRA.out.below L1.out (Nat.le_refl _)) HOKA.out)
  have sz1 := hb_w1.size
  clear hb_w1 ra' rb' rq0 rq1 wr1 ca cb cr fr
  go_wp2_with fail
  refine KCopy.out.mono ?_
  rintro e w2 ⟨x, c, G, C, rfl, ho, hb2⟩
  obtain ⟨g, c', hu, hg1, hg2⟩ := World.ownsRow.form ho.hdr (by rw [HA3.out]; omega)
  rw [HA3.out] at hu
  obtain ⟨rfl, rfl⟩ : x = some ⟨g, 0, none⟩ ∧ c = c' := by simpa using hu
  clear hu
  have cb2 := cell_later hb2 cb1
  have cr2 := cell_later hb2 cr1
  have fr2 : w2.frozen? ⟨w.heap.size + 2, 0, none⟩ = false := by rw [hb2.frozen (p := ⟨w.heap.size + 2, 0, none⟩) (by simp; omega)]; exact fr1
  have sz2 := hb2.size
  have L2 := Lib.hid (L1.out.trans (hb2.mono L1.out.size))
  have HO2 := Lib.hid ho
  clear ho hb2 ca1 cb1 cr1 fr1 hgt
  go_wp2
  -- the rows
  go_loopw [7] (fun i wr => ∃ (k : Nat) (qs : List (List Int)), k ≤ 3 ∧ i = .int .i64 k ∧ Mixed ra rb qs k 0 ∧
      OwnR wr w1.heap.size (.slice (some ⟨g, 0, none⟩) 3 c) qs G C ∧ wr.cell? ⟨w2.heap.size, 0, none⟩ = some (.slice (some ⟨g, 0, none⟩) 3 c) ∧
      wr.cell? ⟨w.heap.size + 1, 0, none⟩ = some (.slice (some ⟨bb, ob, none⟩) 3 kb) ∧
      wr.cell? ⟨w.heap.size + 2, 0, none⟩ = some (.slice none 0 0) ∧ wr.frozen? ⟨w.heap.size + 2, 0, none⟩ = false ∧ Below w.heap.size w wr ∧ w2.heap.size < wr.heap.size) (fun i _ => 3 - (intOf i).toNat)
  case atStart =>
    have l1' : w.heap.size + 2 < w2.heap.size := by omega
    have l2' : w.heap.size + 1 < w2.heap.size := by omega
    exact ⟨0, ra, Nat.zero_le _, rfl, ⟨HA3.out, fun i hi => ⟨(HGA.out i hi).1, fun p hp => by rw [if_neg (by omega)]⟩⟩, HO2.out.below ((Below.refl _ _).alloc (Nat.le_refl _) _) (Nat.le_refl _), by simp,
      by rw [World.cell?_alloc_past _ _ _ l2']; exact cb2, by rw [World.cell?_alloc_past _ _ _ l1']; exact cr2,
      by rw [World.frozen?_alloc_past _ _ _ l1']; exact fr2, L2.out.alloc L2.out.size _, by simp⟩
  case round =>
    obtain ⟨k, qs, hk, rfl, hmix, hown, hbox, cB, cr, fr, hbl, hlt2⟩ := hrel
    have HM := Lib.hid hmix
    have HO := Lib.hid hown
    have HB := Lib.hid hbl
    clear hmix hown hbl
    by_cases hlt : k < 3
    · have hltB : decide ((k : Int) < 3) = true := by simp; omega
      obtain ⟨b2, o2, c2, e2, l2, r2⟩ := HROWB.out k hlt
      have R2 := Lib.hid r2
      have E2 := Lib.hid e2
      clear r2 e2
      go_wp2
      -- the places of row k
      go_loopw [8] (fun j wi => ∃ (m : Nat) (qs : List (List Int)), m ≤ 8 ∧ j = .int .i64 m ∧ Mixed ra rb qs k m ∧
          OwnR wi w1.heap.size (.slice (some ⟨g, 0, none⟩) 3 c) qs G C ∧ wi.cell? ⟨w2.heap.size, 0, none⟩ = some (.slice (some ⟨g, 0, none⟩) 3 c) ∧
          wi.cell? ⟨w.heap.size + 1, 0, none⟩ = some (.slice (some ⟨bb, ob, none⟩) 3 kb) ∧
          wi.cell? ⟨w.heap.size + 2, 0, none⟩ = some (.slice none 0 0) ∧ wi.frozen? ⟨w.heap.size + 2, 0, none⟩ = false ∧ Below w.heap.size w wi ∧ w2.heap.size < wi.heap.size) (fun j _ => 8 - (intOf j).toNat)
      case atStart => exact ⟨0, qs, Nat.zero_le _, rfl, HM.out, HO.out, hbox, cB, cr, fr, HB.out, hlt2⟩
      case round =>
        clear hbox cB cr fr hlt2
        obtain ⟨m, ps, hm, rfl, hmix, hown, hbox, cB, cr, fr, hbl, hlt2⟩ := hrel
        have HM' := Lib.hid hmix
        have HO' := Lib.hid hown
        have HB' := Lib.hid hbl
        clear hmix hown hbl
        by_cases hmt : m < 8
        · have hc1 := HO'.out.hdrCell HM'.out.1 k hlt
          rw [(HM'.out.2 k hlt).1] at hc1
          have hc2 := HO'.out.rowCell k m (by rw [HM'.out.1]; exact hlt) (by rw [(HM'.out.2 k hlt).1]; exact hmt)
          rw [(HM'.out.2 k hlt).2 m hmt, if_neg (by omega)] at hc2
          have he2 := E2.out
          rw [← HB'.out.cell (p := ⟨bb, ob + k, none⟩) hbb] at he2
          have hy := R2.out m hmt
          rw [← HB'.out.cell (p := ⟨b2, o2 + m, none⟩) l2] at hy
          obtain ⟨a0, a1⟩ := (HGA.out k hlt).2.1 m hmt
          obtain ⟨y0, y1⟩ := (HGB.out k hlt).2.1 m hmt
          have hst : ∀ w4 : World, Below wr.heap.size wr w4 → ∃ qs', Mixed ra rb qs' k (m + 1) ∧
              OwnR (w4.setCell ⟨G k, m, none⟩ (.int .i64 ((ra.getD k []).getD m 0 + (rb.getD k []).getD m 0))) w1.heap.size (.slice (some ⟨g, 0, none⟩) 3 c) qs' G C := fun w4 hw4 =>
            ⟨_, HM'.out.step hlt hmt, ((HO'.out.below hw4 (Nat.le_refl _)).store k m _ (by rw [HM'.out.1]; exact hlt) (by rw [(HM'.out.2 k hlt).1]; exact hmt)).1⟩
          have HST := Lib.hid hst
          have HGk : Hid (w1.heap.size ≤ G k ∧ G k < w2.heap.size) := ⟨((HO'.out.row k (by rw [HM'.out.1]; exact hlt)).lt (G k) rfl).1, ((HO2.out.row k (by rw [HA3.out]; exact hlt)).lt (G k) rfl).2⟩
          obtain ⟨a, hA⟩ : ∃ a, a = (ra.getD k []).getD m 0 := ⟨_, rfl⟩
          obtain ⟨y, hY⟩ : ∃ a, a = (rb.getD k []).getD m 0 := ⟨_, rfl⟩
          rw [← hA] at hc2 HST a0 a1
          rw [← hY] at hy HST y0 y1
          obtain ⟨hc2, hf2⟩ := hc2
          have lgk : G k < wr.heap.size := World.block_lt_of_cell? _ _ hc2
          have rb1 := cell_regrown hbox
          have rb2 := cell_regrown hc1
          have rb3 := cell_regrown hc2
          have rb4 := cell_regrown cB
          have rb5 := cell_regrown he2
          have rb6 := cell_regrown hy
          have k0 : (0 : Int) ≤ (k : Int) := by omega
          have k3 : (k : Int) < 3 := by omega
          have m0 : (0 : Int) ≤ (m : Int) := by omega
          have m8 : (m : Int) < 8 := by omega
          have wr1 : IntKind.i64.wrap (a + y) = a + y := IntWalk.i64_in _ (by omega)
          clear hst hA hY
          go_wp2
          refine wp_region_last (C := fun w' => ∃ p : Regrown, w' = grow (redrawn wr p.d) p.os) 24 _ rfl rfl rfl (by kernel_rfl) (by kernel_rfl) (by kernel_rfl) (by kernel_rfl) (by kernel_rfl) ⟨⟨wr.drawn + 1, #[]⟩, by rw [grow_empty]; rfl⟩ ?_
          simp only [List.take_succ_cons, List.take_zero]
          repeat (refine boxed_step (fun K hK => ?_); go_simp; first | (refine hK _ ?_; clear hK K) | (apply Exists.intro; refine ⟨fun _ => ?_, hK _ ?_⟩; (fail); clear hK K))
          refine boxed_nil ?_
          intro _ hw'
          obtain ⟨⟨dq, oq⟩, hw''⟩ := hw'
          subst hw''
          have hb_w4 := below_regrown wr dq oq
          obtain ⟨w4, hq_w4⟩ : ∃ x, x = grow (redrawn wr dq) oq := ⟨_, rfl⟩
          rw [← hq_w4] at hb_w4 ⊢
          clear hq_w4
          have d1 := cell_later hb_w4 hc2
          have d2 : w4.frozen? ⟨G k, m, none⟩ = false := by rw [hb_w4.frozen (p := ⟨G k, m, none⟩) lgk]; exact hf2
          have HB4 := Lib.hid hb_w4
          clear hb_w4 rb1 rb2 rb3 rb4 rb5 rb6 wr1 hc1 hc2 he2 hy
          go_wp2
          go_roundw
          case rel =>
            obtain ⟨qs', q1, q2⟩ := HST.out w4 HB4.out
            have lw2 : w2.heap.size < w4.heap.size := by have := HB4.out.size; omega
            have e2 : G k ≠ w2.heap.size := by have := HGk.out.2; omega
            have e1 : G k ≠ w.heap.size + 2 := by have := HGk.out.1; omega
            have e3 : G k ≠ w.heap.size + 1 := by have := HGk.out.1; omega
            refine ⟨m + 1, qs', by omega, by go_num, q1, q2, ?_, ?_, ?_, ?_, ?_, by simpa using lw2⟩
            · exact (World.cell?_setCell_other (h := fun h => by injection h with h; exact e2 h) ..).trans (cell_later HB4.out hbox)
            · exact (World.cell?_setCell_other (h := fun h => by injection h with h; exact e3 h) ..).trans (cell_later HB4.out cB)
            · exact (World.cell?_setCell_other (h := fun h => by injection h with h; exact e1 h) ..).trans (cell_later HB4.out cr)
            · rw [World.frozen?_setCell, HB4.out.frozen (p := ⟨w.heap.size + 2, 0, none⟩) (by simp; omega)]; exact fr
            · exact (HB'.out.trans (HB4.out.mono HB'.out.size)).setCell (by have := HGk.out.1; simp; omega) _
          case measure => simp [intOf]; omega
        · obtain rfl : m = 8 := by omega
          go_wp2
          go_roundw
          case rel => exact ⟨k + 1, ps, by omega, by go_num, HM'.out.next, HO'.out, hbox, cB, cr, fr, HB'.out, hlt2⟩
          case measure => simp [intOf]; omega
    · obtain rfl : k = 3 := by omega
      have HE := Lib.hid HM.out.done
      go_wp2
      have hr := World.cell?_setCell_same wr ⟨w.heap.size + 2, 0, none⟩ (.slice (some ⟨g, 0, none⟩) 3 c) cr
      have hw := HO.out.grown (grownBy_setCell wr ⟨w.heap.size + 2, 0, none⟩ (.slice (some ⟨g, 0, none⟩) 3 c)) (fun k e => by simp at e; omega)
      rw [HE.out] at hw
      exact bodyPost_ret (v := .tuple #[.agg #[.slice (some ⟨g, 0, none⟩) 3 c], .bool true]) (by simp [results, Try.results29, go_sem, hr]) rfl
        ⟨_, _, G, C, rfl, hw.base (by omega), HB.out.setCell (by simp; omega) _⟩

end Go.Proofs.Yteopnbjiffncbab
