/-
  The program's RoughJoin and RoughAdd.
-/
import Derived.Test.YteopnbjiffncbabJoined
namespace Go.Proofs.Yteopnbjiffncbab
open Go.RowKit Go.Sort

theorem roughAll_regrown (w : World) (u : Value) (rs : List (List Int)) (h : Rws w u rs) (d : Nat) (os : Array Obj) :
    Calls Try.prog 28 #[.agg #[u]] (grow (redrawn w d) os) fun e w'' => e = .returned (.int .i64 (allV rs)) ∧ ∃ p : Regrown, w'' = grow (redrawn w p.d) p.os :=
  Calls.regrown_of (roughAll_at _ u rs (h.below (below_regrown w d os) (Nat.le_refl _)))

theorem joinB_all (ra rb : List (List Int)) : joinB ra rb = true ↔ 0 ≤ allV ra ∧ 0 ≤ allV rb ∧ allV ra + allV rb ≤ 2000 := by
  rw [joinB_iff]
  constructor
  · rintro ⟨h1, h2, h3⟩
    exact ⟨(allV_ok h1).1, (allV_ok h2).1, h3⟩
  · rintro ⟨h1, h2, h3⟩
    refine ⟨?_, ?_, h3⟩
    · cases h : okB ra with
      | true => rfl
      | false => rw [allV_not h] at h1; omega
    · cases h : okB rb with
      | true => rfl
      | false => rw [allV_not h] at h2; omega

theorem allV_bd (rs : List (List Int)) : -1 ≤ allV rs ∧ allV rs ≤ 2000 := by
  cases h : okB rs with
  | true => have := allV_ok h; omega
  | false => rw [allV_not h]; omega

set_option maxHeartbeats 1000000 in
theorem imJoin_no (w : World) (u v : Value) (ra rb : List (List Int)) (ha : Rws w u ra) (hb : Rws w v rb) (hno : joinB ra rb = false) :
    Calls Try.prog 30 #[.agg #[u], .agg #[v]] w fun e w' => e = .returned (.tuple #[.agg #[.slice none 0 0], .bool false]) ∧ Below w.heap.size w w' := by
  obtain ⟨w0, hw0⟩ : ∃ x, x = ((w.alloc (.cells #[u] 24)).alloc (.cells #[v] 24)).alloc (.cells #[.slice none 0 0] 24) := ⟨_, rfl⟩
  have hA : Below w.heap.size w w0 := by rw [hw0]; exact (((Below.refl w.heap.size w).alloc (Nat.le_refl _) _).alloc (by simp) _).alloc (by simp; omega) _
  have tb := three_blocks w (.cells #[u] 24) (.cells #[v] 24) (.cells #[.slice none 0 0] 24)
  rw [← hw0] at tb
  obtain ⟨ca, _, la⟩ := cell_block tb.1
  obtain ⟨cb, _, lb⟩ := cell_block tb.2.1
  obtain ⟨cr, fr, lr⟩ := cell_block tb.2.2
  have KA := Lib.hid (roughAll_regrown w0 u ra (ha.below hA (Nat.le_refl _)))
  have KB := Lib.hid (roughAll_regrown w0 v rb (hb.below hA (Nat.le_refl _)))
  have HA := Lib.hid hA
  have hcase : allV ra < 0 ∨ (¬ allV ra < 0 ∧ allV rb < 0) ∨ (¬ allV ra < 0 ∧ ¬ allV rb < 0 ∧ 2000 < allV ra + allV rb) := by
    apply Classical.byContradiction
    intro hh
    have := (joinB_all ra rb).2 (by omega)
    rw [this] at hno
    cases hno
  have b1 := allV_bd ra
  have b2 := allV_bd rb
  obtain ⟨⟨x, c, hx⟩, _⟩ := ha.cases
  obtain ⟨⟨y, d, hy⟩, _⟩ := hb.cases
  obtain ⟨n, hn⟩ : ∃ n, n = ra.length := ⟨_, rfl⟩
  obtain ⟨m, hm⟩ : ∃ n, n = rb.length := ⟨_, rfl⟩
  rw [← hn] at hx
  rw [← hm] at hy
  subst hx hy
  generalize allV ra = Sa at *
  generalize allV rb = Sb at *
  clear ha hb hn hm hno hA tb
  have ra' := cell_regrown ca
  have rb' := cell_regrown cb
  go_enter Try.func30, Try.ntmps30
  go_wp2
  rw [← hw0]
  clear hw0
  refine boxed_region (by kernel_rfl) (by kernel_rfl) ?_
  repeat (refine boxed_step (fun K hK => ?_); go_simp; first | (refine hK _ ?_; clear hK K) | (apply Exists.intro; refine ⟨fun _ => ?_, hK _ ?_⟩; (first | (with_reducible exact KA.out _ _) | (with_reducible exact KB.out _ _)); clear hK K))
  refine boxed_nil ?_
  intro _ hw'
  obtain ⟨⟨dq, oq⟩, hw''⟩ := hw'
  subst hw''
  have hb_w1 := below_regrown w0 dq oq
  obtain ⟨w1, hq_w1⟩ : ∃ x, x = grow (redrawn w0 dq) oq := ⟨_, rfl⟩
  rw [← hq_w1] at hb_w1 ⊢
  clear hq_w1
  have cr1 := cell_later hb_w1 cr
  have fr1 : w1.frozen? ⟨w.heap.size + 2, 0, none⟩ = false := by rw [hb_w1.frozen (p := ⟨w.heap.size + 2, 0, none⟩) lr]; exact fr
  have L1 := Lib.hid (HA.out.trans (hb_w1.mono HA.out.size))
  clear hb_w1 ra' rb'
  have hr := Lib.hid (World.cell?_setCell_same w1 ⟨w.heap.size + 2, 0, none⟩ (.slice none 0 0) cr1)
  rcases hcase with h | ⟨h, h2⟩ | ⟨h, h2, h3⟩
  all_goals
    go_wp2
    have hr := hr.out
    exact bodyPost_ret (v := .tuple #[.agg #[.slice none 0 0], .bool false]) (by simp [results, Try.results30, go_sem, hr]) rfl ⟨rfl, L1.out.setCell (by simp; omega) _⟩

set_option maxHeartbeats 1000000 in
theorem imJoin_yes (w : World) (u v : Value) (ra rb : List (List Int)) (ha : Rws w u ra) (hb : Rws w v rb) (hyes : joinB ra rb = true) :
    Calls Try.prog 30 #[.agg #[u], .agg #[v]] w fun e w' => ∃ x c G C, e = .returned (.tuple #[.agg #[.slice x 3 c], .bool true]) ∧ OwnR w' w.heap.size (.slice x 3 c) (joinV ra rb) G C ∧ Below w.heap.size w w' := by
  obtain ⟨hoka, hokb, _⟩ := (joinB_iff ra rb).1 hyes
  obtain ⟨h1, h2, h3⟩ := (joinB_all ra rb).1 hyes
  obtain ⟨w0, hw0⟩ : ∃ x, x = ((w.alloc (.cells #[u] 24)).alloc (.cells #[v] 24)).alloc (.cells #[.slice none 0 0] 24) := ⟨_, rfl⟩
  have hA : Below w.heap.size w w0 := by rw [hw0]; exact (((Below.refl w.heap.size w).alloc (Nat.le_refl _) _).alloc (by simp) _).alloc (by simp; omega) _
  have tb := three_blocks w (.cells #[u] 24) (.cells #[v] 24) (.cells #[.slice none 0 0] 24)
  rw [← hw0] at tb
  obtain ⟨ca, _, la⟩ := cell_block tb.1
  obtain ⟨cb, _, lb⟩ := cell_block tb.2.1
  obtain ⟨cr, fr, lr⟩ := cell_block tb.2.2
  have KA := Lib.hid (roughAll_regrown w0 u ra (ha.below hA (Nat.le_refl _)))
  have KB := Lib.hid (roughAll_regrown w0 v rb (hb.below hA (Nat.le_refl _)))
  have HA := Lib.hid hA
  obtain ⟨_, hga⟩ := (okB_iff ra).1 hoka
  obtain ⟨_, hgb⟩ := (okB_iff rb).1 hokb
  obtain ⟨ba, oa, ka, rfl, _, hba, hrowa⟩ := ok_form ha hoka
  obtain ⟨bb, ob, kb, rfl, _, hbb, hrowb⟩ := ok_form hb hokb
  have GA := Lib.hid (fun (i : Nat) (hi : i < 3) => (hga i hi).2.1)
  have GB := Lib.hid (fun (i : Nat) (hi : i < 3) => (hgb i hi).2.1)
  have RA := Lib.hid hrowa
  have RB := Lib.hid hrowb
  have n1 : ¬ allV ra < 0 := by omega
  have n2 : ¬ allV rb < 0 := by omega
  have n3 : ¬ 2000 < allV ra + allV rb := by omega
  generalize allV ra = Sa at *
  generalize allV rb = Sb at *
  clear ha hb hyes hA tb hrowa hrowb hga hgb hoka hokb h1 h2 h3
  have ra' := cell_regrown ca
  have rb' := cell_regrown cb
  go_enter Try.func30, Try.ntmps30
  go_wp2
  rw [← hw0]
  clear hw0
  refine boxed_region (by kernel_rfl) (by kernel_rfl) ?_
  repeat (refine boxed_step (fun K hK => ?_); go_simp; first | (refine hK _ ?_; clear hK K) | (apply Exists.intro; refine ⟨fun _ => ?_, hK _ ?_⟩; (first | (with_reducible exact KA.out _ _) | (with_reducible exact KB.out _ _)); clear hK K))
  refine boxed_nil ?_
  intro _ hw'
  obtain ⟨⟨dq, oq⟩, hw''⟩ := hw'
  subst hw''
  have hb_w1 := below_regrown w0 dq oq
  obtain ⟨w1, hq_w1⟩ : ∃ x, x = grow (redrawn w0 dq) oq := ⟨_, rfl⟩
  rw [← hq_w1] at hb_w1 ⊢
  clear hq_w1
  have ca1 := cell_later hb_w1 ca
  have cb1 := cell_later hb_w1 cb
  have cr1 := cell_later hb_w1 cr
  have fr1 : w1.frozen? ⟨w.heap.size + 2, 0, none⟩ = false := by rw [hb_w1.frozen (p := ⟨w.heap.size + 2, 0, none⟩) lr]; exact fr
  have hL := HA.out.trans (hb_w1.mono HA.out.size)
  have sz := hb_w1.size
  have KJ := Lib.hid (joinedRows_at w1 _ ba oa ka bb ob kb ra rb rfl (by have := hL.size; omega) (by have := hL.size; omega)
    (fun i hi => by
      obtain ⟨bi, oi, ci, e, l, r⟩ := RA.out i hi
      exact ⟨bi, oi, ci, by rw [hL.cell (p := ⟨ba, oa + i, none⟩) hba]; exact e, Nat.lt_of_lt_of_le l hL.size, fun k hk => by rw [hL.cell (p := ⟨bi, oi + k, none⟩) l]; exact r k hk⟩)
    (fun i hi => by
      obtain ⟨bi, oi, ci, e, l, r⟩ := RB.out i hi
      exact ⟨bi, oi, ci, by rw [hL.cell (p := ⟨bb, ob + i, none⟩) hbb]; exact e, Nat.lt_of_lt_of_le l hL.size, fun k hk => by rw [hL.cell (p := ⟨bi, oi + k, none⟩) l]; exact r k hk⟩) GA.out GB.out)
  have L1 := Lib.hid hL
  clear hb_w1 ra' rb' hL ca cb cr fr
  go_wp2_with fail
  refine KJ.out.mono ?_
  rintro e w2 ⟨G, rfl, ho, hb2⟩
  have cr2 := cell_later hb2 cr1
  have fr2 : w2.frozen? ⟨w.heap.size + 2, 0, none⟩ = false := by rw [hb2.frozen (p := ⟨w.heap.size + 2, 0, none⟩) (by simp; omega)]; exact fr1
  have hw := ho.grown (grownBy_setCell w2 ⟨w.heap.size + 2, 0, none⟩ (.slice (some ⟨w1.heap.size, 0, none⟩) 3 3)) (fun k e => by simp at e; omega)
  have H1 := Lib.hid hw
  have L2 := Lib.hid (L1.out.trans (hb2.mono L1.out.size))
  clear ho hb2 hw
  go_wp2
  have hr := World.cell?_setCell_same w2 ⟨w.heap.size + 2, 0, none⟩ (.slice (some ⟨w1.heap.size, 0, none⟩) 3 3) cr2
  exact bodyPost_ret (v := .tuple #[.agg #[.slice (some ⟨w1.heap.size, 0, none⟩) 3 3], .bool true]) (by simp [results, Try.results30, go_sem, hr]) rfl
    ⟨_, _, G, _, rfl, H1.out.base L1.out.size, L2.out.setCell (by simp; omega) _⟩

def oneRow (t n : Int) (i : Nat) : List Int := zeros.set (place i t).toNat n
/-- Nothing but a thing, n times. -/
def oneV (t n : Int) : List (List Int) := [oneRow t n 0, oneRow t n 1, oneRow t n 2]
theorem oneV_get (t n : Int) (i : Nat) (hi : i < 3) : (oneV t n).getD i [] = oneRow t n i := by
  rcases (by omega : i = 0 ∨ i = 1 ∨ i = 2) with rfl | rfl | rfl <;> rfl
theorem oneRow_len (t n : Int) (i : Nat) : (oneRow t n i).length = 8 := by simp [oneRow, zeros]
theorem zeros_get (k : Nat) : zeros.getD k 0 = 0 := by
  by_cases h : k < 8
  · rcases (by omega : k = 0 ∨ k = 1 ∨ k = 2 ∨ k = 3 ∨ k = 4 ∨ k = 5 ∨ k = 6 ∨ k = 7) with rfl | rfl | rfl | rfl | rfl | rfl | rfl | rfl <;> rfl
  · rw [List.getD_eq_getElem?_getD, List.getElem?_eq_none (by simp [zeros]; omega)]; rfl
theorem set_get (zs : List Int) (p k : Nat) (n : Int) (hp : p < zs.length) : (zs.set p n).getD k 0 = if k = p then n else zs.getD k 0 := by
  by_cases h : k = p
  · subst h
    rw [if_pos rfl, List.getD_eq_getElem?_getD, List.getElem?_set_self hp]; rfl
  · rw [if_neg h]
    simp [Ne.symm h]
theorem one_sum (p : Nat) (hp : p < 8) (n : Int) : (zeros.set p n).sum = n := by
  rcases (by omega : p = 0 ∨ p = 1 ∨ p = 2 ∨ p = 3 ∨ p = 4 ∨ p = 5 ∨ p = 6 ∨ p = 7) with rfl | rfl | rfl | rfl | rfl | rfl | rfl | rfl <;> simp [zeros]
theorem oneRow_sum (t n : Int) (i : Nat) : (oneRow t n i).sum = n := by
  obtain ⟨P, _, hP, e⟩ := place_nat i t
  unfold oneRow
  rw [e]
  exact one_sum P hP n
theorem oneRow_get (t n : Int) (i k : Nat) : (oneRow t n i).getD k 0 = if k = (place i t).toNat then n else 0 := by
  obtain ⟨P, _, hP, e⟩ := place_nat i t
  unfold oneRow
  rw [e, set_get _ _ _ _ (by simpa [zeros] using hP), zeros_get]
theorem oneV_ok (t n : Int) (h : 0 ≤ n ∧ n ≤ 2000) : okB (oneV t n) = true := by
  rw [okB_iff]
  refine ⟨rfl, fun i hi => ?_⟩
  unfold Good
  rw [oneV_get _ _ _ hi, oneV_get _ _ 0 (by omega), oneRow_sum, oneRow_sum]
  refine ⟨oneRow_len _ _ _, fun k _ => ?_, rfl, h.2⟩
  rw [oneRow_get]
  split <;> omega
theorem oneV_all (t n : Int) (h : 0 ≤ n ∧ n ≤ 2000) : allV (oneV t n) = n := by
  rw [← allV_sum (oneV_ok t n h), oneV_get _ _ 0 (by omega), oneRow_sum]
theorem oneV_bad (t n : Int) (h : n < 0 ∨ 2000 < n) : okB (oneV t n) = false := by
  refine okB_false (.inr ⟨0, by omega, fun g => ?_⟩)
  have h1 := g.2.1
  have h2 := g.2.2.2
  rw [oneV_get _ _ 0 (by omega)] at h1 h2
  rw [oneRow_sum] at h2
  obtain ⟨P, _, hP, e⟩ := place_nat (0 : Nat) t
  have h3 := h1 P hP
  rw [oneRow_get, if_pos e.symm] at h3
  omega
theorem join_one (rs : List (List Int)) (t n : Int) (h0 : 0 ≤ t) (h1 : t < 64) : joinB rs (oneV t n) = addB rs t n := by
  rw [Bool.eq_iff_iff, joinB_iff, addB_iff]
  by_cases h : 0 ≤ n ∧ n ≤ 2000
  · rw [oneV_all t n h, oneV_ok t n h]
    constructor
    · rintro ⟨a, _, b⟩; exact ⟨a, h0, h1, h.1, by omega⟩
    · rintro ⟨a, _, _, _, b⟩; exact ⟨a, rfl, by omega⟩
  · rw [oneV_bad t n (by omega)]
    constructor
    · rintro ⟨_, b, _⟩; cases b
    · rintro ⟨a, _, _, b, c⟩; have := allV_ok a; omega
theorem joinV_one (rs : List (List Int)) (t n : Int) (hok : okB rs = true) : joinV rs (oneV t n) = addV rs t n := by
  obtain ⟨_, hg⟩ := (okB_iff rs).1 hok
  refine eq_three rfl rfl fun i hi => ?_
  rw [joinV_get _ _ _ hi, addV_get _ _ _ _ hi, oneV_get _ _ _ hi]
  obtain ⟨P, _, hP, e⟩ := place_nat i t
  have h8 := (hg i hi).1
  refine of_decide_eq_true (eq_of_get (d := 0) (n := 8) (addRows_len _ _) (by simp only [addRow, List.length_set]; exact h8) fun k hk => ?_)
  rw [addRows_get _ _ _ hk, oneRow_get]
  unfold addRow atV
  rw [e, set_get _ _ _ _ (by rw [h8]; exact hP)]
  split
  · rename_i h; subst h; rfl
  · omega

set_option maxHeartbeats 1000000 in
theorem imAdd_far (w : World) (u : Value) (x : Option Addr) (m c : Nat) (t n : Int) (hu : u = .slice x m c) (ht : t < 0 ∨ 64 ≤ t) :
    Calls Try.prog 24 #[.agg #[u], .int .i64 t, .int .i64 n] w fun e w' => e = .returned (.tuple #[.agg #[.slice none 0 0], .bool false]) ∧ Below w.heap.size w w' := by
  subst hu
  go_enter Try.func24, Try.ntmps24
  go_wp2_with (go_at_call 55; refine (isThing_no _ _ ht).mono ?_; rintro e w' ⟨rfl, rfl⟩)
  exact bodyPost_ret (v := .tuple #[.agg #[.slice none 0 0], .bool false]) (by simp [results, Try.results24, go_sem]) rfl ⟨rfl, by
    first
    | exact (((Below.refl _ _).alloc (Nat.le_refl _) _).alloc (by simp) _).setCell (by simp) _
    | exact ((Below.refl _ _).alloc (Nat.le_refl _) _).alloc (by simp) _⟩

/-- How RoughJoin answers, told of both cases at once. -/
def JoinEnd (w : World) (ra rb : List (List Int)) (e : Ending) (w' : World) : Prop :=
  ∃ x m c ok, e = .returned (.tuple #[.agg #[.slice x m c], .bool ok]) ∧ ok = joinB ra rb ∧ Below w.heap.size w w' ∧ (ok = false → x = none ∧ m = 0 ∧ c = 0) ∧ (ok = true → m = 3 ∧ ∃ G C, OwnR w' w.heap.size (.slice x m c) (joinV ra rb) G C)
theorem imJoin_at (w : World) (u v : Value) (ra rb : List (List Int)) (ha : Rws w u ra) (hb : Rws w v rb) : Calls Try.prog 30 #[.agg #[u], .agg #[v]] w (JoinEnd w ra rb) := by
  cases h : joinB ra rb with
  | false => exact (imJoin_no w u v ra rb ha hb h).mono fun e w' ⟨he, hb⟩ => ⟨none, 0, 0, false, he, h.symm, hb, fun _ => ⟨rfl, rfl, rfl⟩, fun q => by cases q⟩
  | true => exact (imJoin_yes w u v ra rb ha hb h).mono fun e w' ⟨x, c, G, C, he, ho, hb⟩ => ⟨x, 3, c, true, he, h.symm, hb, fun q => (by cases q), fun _ => ⟨rfl, G, C, ho⟩⟩

set_option maxHeartbeats 2000000 in
theorem imAdd_near (w : World) (u : Value) (rs : List (List Int)) (t n : Int) (h : Rws w u rs) (t0 : 0 ≤ t) (t1 : t < 64) :
    Calls Try.prog 24 #[.agg #[u], .int .i64 t, .int .i64 n] w fun e w' => JoinEnd w rs (oneV t n) e w' := by
  have HR := Lib.hid h
  obtain ⟨⟨x, c, hx⟩, _⟩ := h.cases
  obtain ⟨m, hm⟩ : ∃ n, n = rs.length := ⟨_, rfl⟩
  rw [← hm] at hx
  subst hx
  clear hm h
  go_enter Try.func24, Try.ntmps24
  go_wp2_with (go_at_call 55; refine (isThing_yes _ _ t0 t1).mono ?_; rintro e w' ⟨rfl, rfl⟩)
  refine (imNew_at _).mono ?_
  rintro e w1 ⟨v, G, C, rfl, ho, hb1⟩
  obtain ⟨g, c', hu, hg1, hg2⟩ := World.ownsRow.form ho.hdr (show 0 < zero3.length from by simp [zero3])
  have h3 : zero3.length = 3 := rfl
  rw [h3] at hu
  subst hu
  have sz := hb1.size
  simp only [World.size_alloc] at sz hg1
  have ca := (cell_later hb1 (show ((w.alloc (.cells #[.slice x m c] 24)).alloc (.cells #[.slice none 0 0] 24)).cell? ⟨w.heap.size, 0, none⟩ = some (.slice x m c) by simp [go_sem]))
  have cr := (cell_later hb1 (show ((w.alloc (.cells #[.slice x m c] 24)).alloc (.cells #[.slice none 0 0] 24)).cell? ⟨w.heap.size + 1, 0, none⟩ = some (.slice none 0 0) by simp [go_sem]))
  have fr : w1.frozen? ⟨w.heap.size + 1, 0, none⟩ = false := by rw [hb1.frozen (p := ⟨w.heap.size + 1, 0, none⟩) (by simp)]; simp [go_sem]
  have hL := (((Below.refl w.heap.size w).alloc (Nat.le_refl _) (.cells #[.slice x m c] 24)).alloc (by simp) (.cells #[.slice none 0 0] 24)).trans (hb1.mono (by simp; omega))
  have L := Lib.hid hL
  have HO1 := Lib.hid ho
  clear ho hb1 hL h3
  go_wp2
  go_loopw [19] (fun i wr => ∃ (k : Nat) (qs : List (List Int)), k ≤ 3 ∧ i = .int .i64 k ∧ qs.length = 3 ∧ (∀ j, j < 3 → qs.getD j [] = if j < k then oneRow t n j else zeros) ∧
      OwnR wr (w.heap.size + 2) (.slice (some ⟨g, 0, none⟩) 3 c') qs G C ∧ wr.cell? ⟨w1.heap.size, 0, none⟩ = some (.slice (some ⟨g, 0, none⟩) 3 c') ∧
      wr.cell? ⟨w.heap.size, 0, none⟩ = some (.slice x m c) ∧
      wr.cell? ⟨w.heap.size + 1, 0, none⟩ = some (.slice none 0 0) ∧ wr.frozen? ⟨w.heap.size + 1, 0, none⟩ = false ∧ Below w.heap.size w wr ∧ w1.heap.size < wr.heap.size) (fun i _ => 3 - (intOf i).toNat)
  case atStart =>
    have l1 : w.heap.size + 1 < w1.heap.size := by omega
    have l0 : w.heap.size < w1.heap.size := by omega
    refine ⟨0, zero3, Nat.zero_le _, rfl, rfl, fun j hj => ?_, by simpa using HO1.out.below ((Below.refl _ _).alloc (Nat.le_refl _) _) (Nat.le_refl _), by simp, by rw [World.cell?_alloc_past _ _ _ l0]; exact ca, by rw [World.cell?_alloc_past _ _ _ l1]; exact cr,
      by rw [World.frozen?_alloc_past _ _ _ l1]; exact fr, L.out.alloc L.out.size _, by simp⟩
    rcases (by omega : j = 0 ∨ j = 1 ∨ j = 2) with rfl | rfl | rfl <;> rfl
  case round =>
    obtain ⟨k, qs, hk, rfl, hq3, hqs, hown, hbox, hA, cR, fR, hbl, hlt2⟩ := hrel
    have HQ3 := Lib.hid hq3
    have HQ := Lib.hid hqs
    have HO := Lib.hid hown
    have HB := Lib.hid hbl
    clear hq3 hqs hown hbl ca cr fr
    by_cases hlt : k < 3
    · obtain ⟨P, hP, hP8, hPn⟩ := place_nat (k : Int) t
      have hqk : qs.getD k [] = zeros := by rw [HQ.out k hlt, if_neg (by omega)]
      have hz8 : zeros.length = 8 := rfl
      have hc1 := HO.out.hdrCell HQ3.out k hlt
      rw [hqk, hz8] at hc1
      obtain ⟨hc2, hf2⟩ := HO.out.rowCell k P (by rw [HQ3.out]; exact hlt) (by rw [hqk]; exact hP8)
      rw [hqk, zeros_get] at hc2
      have K1 : Hid (∀ W, Calls Try.prog 56 #[.int .i64 k, .int .i64 t] W fun e w' => e = .returned (.int .i64 P) ∧ W = w') := fun W => by
        rw [← hP]; exact roughPlace_yes k t W (by omega) (by omega) t0 t1
      have q := HO.out.store k P n (by rw [HQ3.out]; exact hlt) (by rw [hqk]; exact hP8)
      have hst : ∃ qs', qs'.length = 3 ∧ (∀ j, j < 3 → qs'.getD j [] = if j < k + 1 then oneRow t n j else zeros) ∧ OwnR (wr.setCell ⟨G k, P, none⟩ (.int .i64 n)) (w.heap.size + 2) (.slice (some ⟨g, 0, none⟩) 3 c') qs' G C := by
        refine ⟨_, by simpa using HQ3.out, fun j hj => ?_, q.1⟩
        by_cases e : j = k
        · subst e
          rw [if_pos (by omega)]
          unfold oneRow
          rw [hPn, hqk]
          simp [HQ3.out, hlt]
        · have e1 : (qs.set k ((qs.getD k []).set P n)).getD j [] = qs.getD j [] := by simp [Ne.symm e]
          rw [e1, HQ.out j hj]
          by_cases e2 : j < k
          · rw [if_pos e2, if_pos (by omega)]
          · rw [if_neg e2, if_neg (by omega)]
      have HST := Lib.hid hst
      have HGk : Hid (w.heap.size + 2 ≤ G k ∧ G k < w1.heap.size) := ⟨((HO.out.row k (by rw [HQ3.out]; exact hlt)).lt (G k) rfl).1, ((HO1.out.row k (show k < zero3.length from hlt)).lt (G k) rfl).2⟩
      have k0 : (0 : Int) ≤ (k : Int) := by omega
      have k3 : (k : Int) < 3 := by omega
      have P8 : (P : Int) < 8 := by omega
      clear hP hPn hst hqk hP8 q hz8
      go_wp2_with (go_at_call 56; refine (K1.out _).mono ?_; rintro e w' ⟨rfl, rfl⟩)
      go_roundw
      case rel =>
        obtain ⟨qs', q1, q2, q3⟩ := HST.out
        have e2 : G k ≠ w1.heap.size := by have := HGk.out.2; omega
        have e1 : G k ≠ w.heap.size + 1 := by have := HGk.out.1; omega
        have e0 : G k ≠ w.heap.size := by have := HGk.out.1; omega
        refine ⟨k + 1, qs', by omega, by go_num, q1, q2, q3, ?_, ?_, ?_, ?_, ?_, by simpa using hlt2⟩
        · exact (World.cell?_setCell_other (h := fun h => by injection h with h; exact e2 h) ..).trans hbox
        · exact (World.cell?_setCell_other (h := fun h => by injection h with h; exact e0 h) ..).trans hA
        · exact (World.cell?_setCell_other (h := fun h => by injection h with h; exact e1 h) ..).trans cR
        · rw [World.frozen?_setCell]; exact fR
        · exact HB.out.setCell (by have := HGk.out.1; simp; omega) _
      case measure => simp [intOf]; omega
    · have hq : qs = oneV t n := eq_three HQ3.out rfl (fun i hi => by rw [HQ.out i hi, if_pos (by omega), oneV_get _ _ _ hi])
      have ho := HO.out
      rw [hq] at ho
      have KJ := Lib.hid (imJoin_at wr _ _ rs (oneV t n) (HR.out.below HB.out (Nat.le_refl _)) ho.rws)
      clear hq ho
      go_wp2_with fail
      refine KJ.out.mono ?_
      rintro e w3 ⟨z, p, d, ok, rfl, hok, hb3, hno, hyes⟩
      have cR3 := cell_later hb3 cR
      have fR3 : w3.frozen? ⟨w.heap.size + 1, 0, none⟩ = false := by rw [hb3.frozen (p := ⟨w.heap.size + 1, 0, none⟩) (by simp; omega)]; exact fR
      have hr := Lib.hid (World.cell?_setCell_same w3 ⟨w.heap.size + 1, 0, none⟩ (.slice z p d) cR3)
      have hgs := grownBy_setCell w3 ⟨w.heap.size + 1, 0, none⟩ (.slice z p d)
      have FIN : Hid (Below w.heap.size w (w3.setCell ⟨w.heap.size + 1, 0, none⟩ (.slice z p d)) ∧ (ok = true → p = 3 ∧ ∃ G C, OwnR (w3.setCell ⟨w.heap.size + 1, 0, none⟩ (.slice z p d)) w.heap.size (.slice z p d) (joinV rs (oneV t n)) G C)) :=
        ⟨(HB.out.trans (hb3.mono HB.out.size)).setCell (by simp) _, fun q => by
          obtain ⟨q1, G', C', q2⟩ := hyes q
          exact ⟨q1, G', C', (q2.grown hgs (fun k e => by simp at e; omega)).base HB.out.size⟩⟩
      have HOK := Lib.hid hok
      have HNO := Lib.hid hno
      clear hok hno hyes hb3 hgs
      go_wp2
      have hr := hr.out
      exact bodyPost_ret (v := .tuple #[.agg #[.slice z p d], .bool ok]) (by simp [results, Try.results24, go_sem, hr]) rfl ⟨z, p, d, ok, rfl, HOK.out, FIN.out.1, HNO.out, FIN.out.2⟩

end Go.Proofs.Yteopnbjiffncbab
