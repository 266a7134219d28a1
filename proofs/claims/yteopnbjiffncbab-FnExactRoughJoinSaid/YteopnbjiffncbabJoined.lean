/-
  The program's generic joined, at numbers and at rows.
-/
import Derived.Test.YteopnbjiffncbabSpJoin
import Derived.Test.YteopnbjiffncbabImNew
namespace Go.Proofs.Yteopnbjiffncbab
open Go.RowKit Go.Sort

theorem plus_at (a b : Int) (w : World) (h : -1000000 ≤ a ∧ a ≤ 1000000) (h' : -1000000 ≤ b ∧ b ≤ 1000000) :
    Calls Try.prog 71 #[.int .i64 a, .int .i64 b] w fun e w' => e = .returned (.int .i64 (a + b)) ∧ w = w' := by
  obtain ⟨h1, h2⟩ := h
  obtain ⟨h3, h4⟩ := h'
  go_enter Try.func71, Try.ntmps71
  go_wp2
  go_ret
  exact ⟨rfl, rfl⟩

set_option maxHeartbeats 2000000 in
theorem joinedInt_at (w : World) (F : Value) (b o c b' o' c' : Nat) (x y : List Int) (hF : F = .func (.func 71) #[] #[]) (hb : b < w.heap.size) (hb' : b' < w.heap.size)
    (hx : ∀ k, k < 8 → (0 ≤ x.getD k 0 ∧ x.getD k 0 ≤ 2000) ∧ w.cell? ⟨b, o + k, none⟩ = some (.int .i64 (x.getD k 0)))
    (hy : ∀ k, k < 8 → (0 ≤ y.getD k 0 ∧ y.getD k 0 ≤ 2000) ∧ w.cell? ⟨b', o' + k, none⟩ = some (.int .i64 (y.getD k 0))) :
    Calls Try.prog 70 #[.slice (some ⟨b, o, none⟩) 8 c, .slice (some ⟨b', o', none⟩) 8 c', F] w fun e w' =>
      e = .returned (.slice (some ⟨w.heap.size, 0, none⟩) 8 8) ∧ w'.ownsRow w.heap.size 3 1 (.slice (some ⟨w.heap.size, 0, none⟩) 8 8) 8 (ints (addRows x y)) ∧ Below w.heap.size w w' := by
  have m8 := make8
  have HX := Lib.hid hx
  have HY := Lib.hid hy
  subst hF
  clear hx hy
  go_enter Try.func70, Try.ntmps70
  go_wp2
  go_loopw [14] (fun i wr => ∃ (m : Nat) (zs : List Int), m ≤ 8 ∧ i = .int .i64 m ∧ zs.length = 8 ∧ (∀ p, p < 8 → zs.getD p 0 = if p < m then x.getD p 0 + y.getD p 0 else 0) ∧
      wr.ownsRow w.heap.size 3 1 (.slice (some ⟨w.heap.size, 0, none⟩) 8 8) 8 (ints zs) ∧ Below w.heap.size w wr ∧ w.heap.size < wr.heap.size) (fun i _ => 8 - (intOf i).toNat)
  case atStart =>
    have h0 := make_own w w.heap.size zeros (Nat.le_refl _) (by simp [zeros, maxLen])
    refine ⟨0, zeros, Nat.zero_le _, rfl, rfl, fun p hp => ?_, h0, (Below.refl _ _).alloc (Nat.le_refl _) _, by simp⟩
    rcases (by omega : p = 0 ∨ p = 1 ∨ p = 2 ∨ p = 3 ∨ p = 4 ∨ p = 5 ∨ p = 6 ∨ p = 7) with rfl | rfl | rfl | rfl | rfl | rfl | rfl | rfl <;> rfl
  case round =>
    obtain ⟨m, zs, hm, rfl, hl, hz, hown, hbl, hlt⟩ := hrel
    have HL := Lib.hid hl
    have HZ := Lib.hid hz
    have HO := Lib.hid hown
    have HB := Lib.hid hbl
    clear hl hz hown hbl
    by_cases hmt : m < 8
    · obtain ⟨⟨x0, x1⟩, xc⟩ := HX.out m hmt
      obtain ⟨⟨y0, y1⟩, yc⟩ := HY.out m hmt
      rw [← HB.out.cell (p := ⟨b, o + m, none⟩) hb] at xc
      rw [← HB.out.cell (p := ⟨b', o' + m, none⟩) hb'] at yc
      obtain ⟨v, hc⟩ : ∃ v, wr.cell? ⟨w.heap.size, m, none⟩ = some v := by
        rw [HO.out.cellAt m (by omega)]
        exact ⟨_, ints_get _ _ (by rw [HL.out]; exact hmt)⟩
      have hf := HO.out.frozenAt m
      obtain ⟨a, hA⟩ : ∃ a, a = x.getD m 0 := ⟨_, rfl⟩
      obtain ⟨d, hD⟩ : ∃ a, a = y.getD m 0 := ⟨_, rfl⟩
      rw [← hA] at xc x0 x1
      rw [← hD] at yc y0 y1
      have KP : Hid (∀ W, Calls Try.prog 71 #[.int .i64 a, .int .i64 d] W fun e w' => e = .returned (.int .i64 (a + d)) ∧ Below W.heap.size W w') := fun W =>
        (plus_at a d W (by omega) (by omega)).mono fun _ _ ⟨he, hw⟩ => ⟨he, by subst hw; exact Below.refl _ _⟩
      have hst : ∀ w4 : World, Below wr.heap.size wr w4 → ∃ zs', zs'.length = 8 ∧ (∀ p, p < 8 → zs'.getD p 0 = if p < m + 1 then x.getD p 0 + y.getD p 0 else 0) ∧
          (w4.setCell ⟨w.heap.size, m, none⟩ (.int .i64 (a + d))).ownsRow w.heap.size 3 1 (.slice (some ⟨w.heap.size, 0, none⟩) 8 8) 8 (ints zs') := fun w4 hw4 => by
        have h1 := HO.out.kept (grownBy_below (row := none) hw4) (.inr (by simp [Value.ownBlock]))
        have h2 := (h1.stored m (.int .i64 (a + d))).1
        refine ⟨zs.set m (a + d), by simpa using HL.out, fun p hp => ?_, by simpa [ints, List.map_set] using h2⟩
        by_cases e : p = m
        · subst e
          rw [if_pos (by omega), hA, hD, List.getD_eq_getElem?_getD, List.getElem?_set_self (by rw [HL.out]; exact hp)]
          rfl
        · have e1 : (zs.set m (a + d)).getD p 0 = zs.getD p 0 := by simp [Ne.symm e]
          rw [e1, HZ.out p hp]
          by_cases e2 : p < m
          · rw [if_pos e2, if_pos (by omega)]
          · rw [if_neg e2, if_neg (by omega)]
      have HST := Lib.hid hst
      have rb1 := cell_regrown xc
      have rb2 := cell_regrown yc
      have m0 : (0 : Int) ≤ (m : Int) := by omega
      have m8' : (m : Int) < 8 := by omega
      clear hst hA hD
      go_wp2
      refine wp_region_last (C := fun w' => ∃ p : Regrown, w' = grow (redrawn wr p.d) p.os) 13 _ rfl rfl rfl (by kernel_rfl) (by kernel_rfl) (by kernel_rfl) (by kernel_rfl) (by kernel_rfl) ⟨⟨wr.drawn + 1, #[]⟩, by rw [grow_empty]; rfl⟩ ?_
      simp only [List.take_succ_cons, List.take_zero]
      repeat (refine boxed_step (fun K hK => ?_); go_simp; first | (refine hK _ ?_; clear hK K) | (apply Exists.intro; refine ⟨fun _ => ?_, hK _ ?_⟩; (with_reducible exact Calls.regrown_of (KP.out _)); clear hK K))
      refine boxed_nil ?_
      intro _ hw'
      obtain ⟨⟨dq, oq⟩, hw''⟩ := hw'
      subst hw''
      have hb_w4 := below_regrown wr dq oq
      obtain ⟨w4, hq_w4⟩ : ∃ x, x = grow (redrawn wr dq) oq := ⟨_, rfl⟩
      rw [← hq_w4] at hb_w4 ⊢
      clear hq_w4
      have d1 := cell_later hb_w4 hc
      have d2 : w4.frozen? ⟨w.heap.size, m, none⟩ = false := by rw [hb_w4.frozen (p := ⟨w.heap.size, m, none⟩) hlt]; exact hf
      have HB4 := Lib.hid hb_w4
      clear hb_w4 rb1 rb2 hc xc yc
      go_wp2
      go_roundw
      case rel =>
        obtain ⟨zs', q1, q2, q3⟩ := HST.out w4 HB4.out
        exact ⟨m + 1, zs', by omega, by go_num, q1, q2, q3, (HB.out.trans (HB4.out.mono HB.out.size)).setCell (Nat.le_refl _) _, by have := HB4.out.size; simp; omega⟩
      case measure => simp [intOf]; omega
    · obtain rfl : m = 8 := by omega
      have fin : Hid (zs = addRows x y) := by
        have := eq_of_get (d := 0) HL.out (addRows_len x y) (fun p hp => by rw [HZ.out p hp, if_pos hp, addRows_get _ _ _ hp])
        exact (of_decide_eq_true this : zs = addRows x y)
      go_wp2
      go_ret
      have ho := HO.out
      rw [fin.out] at ho
      exact ⟨rfl, ho, HB.out⟩

theorem rowsJoined_at (w : World) (b o c b' o' c' : Nat) (x y : List Int) (hb : b < w.heap.size) (hb' : b' < w.heap.size)
    (hx : ∀ k, k < 8 → (0 ≤ x.getD k 0 ∧ x.getD k 0 ≤ 2000) ∧ w.cell? ⟨b, o + k, none⟩ = some (.int .i64 (x.getD k 0)))
    (hy : ∀ k, k < 8 → (0 ≤ y.getD k 0 ∧ y.getD k 0 ≤ 2000) ∧ w.cell? ⟨b', o' + k, none⟩ = some (.int .i64 (y.getD k 0))) :
    Calls Try.prog 59 #[.slice (some ⟨b, o, none⟩) 8 c, .slice (some ⟨b', o', none⟩) 8 c'] w fun e w' =>
      e = .returned (.slice (some ⟨w.heap.size, 0, none⟩) 8 8) ∧ w'.ownsRow w.heap.size 3 1 (.slice (some ⟨w.heap.size, 0, none⟩) 8 8) 8 (ints (addRows x y)) ∧ Below w.heap.size w w' := by
  have K := Lib.hid (joinedInt_at w _ b o c b' o' c' x y rfl hb hb' hx hy)
  clear hx hy
  go_enter Try.func59, Try.ntmps59
  go_wp2_with fail
  refine K.out.mono ?_
  rintro e w1 ⟨rfl, ho, hb1⟩
  go_wp2
  go_ret
  exact ⟨rfl, ho, hb1⟩

/-- The header L of rows, up to row m, that are both together, in blocks behind it. -/
structure Rowed (w : World) (L : Nat) (ra rb : List (List Int)) (m : Nat) (G : Nat → Nat) : Prop where
  hdr : ∃ cur, w.heap[L]? = some (.cells cur 41 (0, 0)) ∧ cur.size = 3 ∧ ∀ j, j < m → cur[j]? = some (.slice (some ⟨G j, 0, none⟩) 8 8)
  row : ∀ j, j < m → w.ownsRow (L + 1) 3 1 (.slice (some ⟨G j, 0, none⟩) 8 8) 8 (ints (addRows (ra.getD j []) (rb.getD j [])))
  apart : ∀ i j, i < m → j < m → i ≠ j → G i ≠ G j

theorem Rowed.own {w : World} {L : Nat} {ra rb : List (List Int)} {G : Nat → Nat} (h : Rowed w L ra rb 3 G) : OwnR w L (.slice (some ⟨L, 0, none⟩) 3 3) (joinV ra rb) G (fun _ => 8) := by
  obtain ⟨cur, h1, h2, h3⟩ := h.hdr
  have l8 : ∀ i, i < 3 → ((joinV ra rb).getD i []).length = 8 := fun i hi => by rw [joinV_get _ _ _ hi, addRows_len]
  refine ⟨⟨by simp [joinV], .inr ⟨L, 3, cur, rfl, Nat.le_refl _, h1, by simp [joinV], by simp [maxLen], by simpa using h2, ?_⟩⟩, fun i hi => ?_, fun i hi => ?_, fun i j hi hj => h.apart i j hi hj⟩
  · apply List.ext_getElem?
    intro i
    by_cases hi : i < 3
    · have e : rowV (joinV ra rb) G (fun _ => 8) i = .slice (some ⟨G i, 0, none⟩) 8 8 := by unfold rowV; rw [l8 i hi]
      rw [List.getElem?_map, List.getElem?_range (by simpa [joinV] using hi), List.getElem?_take, if_pos (by simp [joinV]; omega)]
      simp only [Array.getElem?_toList, Option.map_some, e]
      exact h3 i hi
    · rw [List.getElem?_eq_none (by simp [joinV]; omega), List.getElem?_eq_none (by simp [joinV]; omega)]
  · have hi' : i < 3 := by simpa [joinV] using hi
    have e : rowV (joinV ra rb) G (fun _ => 8) i = .slice (some ⟨G i, 0, none⟩) 8 8 := by unfold rowV; rw [l8 i hi']
    rw [e, l8 i hi', joinV_get _ _ _ hi']
    exact ownsRow_base (h.row i hi') (by omega)
  · have hi' : i < 3 := by simpa [joinV] using hi
    have := ((h.row i hi').lt (G i) rfl).1
    simp [Value.ownBlock]
    omega

theorem Rowed.step {w w1 : World} {L m g : Nat} {ra rb : List (List Int)} {G : Nat → Nat} (h : Rowed w L ra rb m G) (hm : m < 3) (hb : Below w.heap.size w w1) (hg : w.heap.size ≤ g) (hL : L < w.heap.size)
    (ho : w1.ownsRow (L + 1) 3 1 (.slice (some ⟨g, 0, none⟩) 8 8) 8 (ints (addRows (ra.getD m []) (rb.getD m [])))) :
    Rowed (w1.setCell ⟨L, m, none⟩ (.slice (some ⟨g, 0, none⟩) 8 8)) L ra rb (m + 1) (fun j => if j < m then G j else g) := by
  obtain ⟨cur, h1, h2, h3⟩ := h.hdr
  have h1' : w1.heap[L]? = some (.cells cur 41 (0, 0)) := by rw [hb.block L hL]; exact h1
  have lt : ∀ j, j < m → G j < w.heap.size ∧ L + 1 ≤ G j := fun j hj => by have := (h.row j hj).lt (G j) rfl; exact ⟨this.2, this.1⟩
  have hgs := grownBy_setCell w1 ⟨L, m, none⟩ (.slice (some ⟨g, 0, none⟩) 8 8)
  refine ⟨⟨_, heap_setCell_same w1 L m cur _ _ h1', by simpa using h2, fun j hj => ?_⟩, fun j hj => ?_, fun i j hi hj hij => ?_⟩
  · rw [Array.getElem?_setIfInBounds]
    by_cases e : j < m
    · rw [if_neg (by omega), if_pos e]; exact h3 j e
    · obtain rfl : j = m := by omega
      rw [if_pos rfl, if_pos (by omega), if_neg (by omega)]
  · by_cases e : j < m
    · simp only [if_pos e]
      have := (h.row j e).kept (grownBy_below (row := none) hb) (.inr (by simp [Value.ownBlock]))
      exact this.kept hgs (.inr (by have := (lt j e).2; simp [Value.ownBlock]; omega))
    · obtain rfl : j = m := by omega
      simp only [if_neg e]
      exact ho.kept hgs (.inr (by simp [Value.ownBlock]; omega))
  · show (if i < m then G i else g) ≠ (if j < m then G j else g)
    by_cases e1 : i < m <;> by_cases e2 : j < m
    · rw [if_pos e1, if_pos e2]; exact h.apart i j e1 e2 hij
    · rw [if_pos e1, if_neg e2]; have := (lt i e1).1; omega
    · rw [if_neg e1, if_pos e2]; have := (lt j e2).1; omega
    · omega

theorem later_free {w w' : World} {b i : Nat} (hb : Below w.heap.size w.drew w') (h : w.frozen? ⟨b, i, none⟩ = false) (hl : b < w.heap.size) : w'.frozen? ⟨b, i, none⟩ = false := by
  rw [hb.frozen (p := ⟨b, i, none⟩) hl]; exact h
theorem below_of_drew {w w' : World} {B : Nat} (hb : Below B w.drew w') : Below B w w' := ⟨hb.os, hb.tape, hb.output, hb.size, hb.block⟩

set_option maxHeartbeats 2000000 in
theorem joinedRows_at (w : World) (F : Value) (b o c b' o' c' : Nat) (ra rb : List (List Int)) (hF : F = .func (.func 59) #[] #[]) (hb : b < w.heap.size) (hb' : b' < w.heap.size)
    (ha : ∀ i, i < 3 → ∃ bi oi ci, w.cell? ⟨b, o + i, none⟩ = some (.slice (some ⟨bi, oi, none⟩) 8 ci) ∧ bi < w.heap.size ∧ ∀ k, k < 8 → w.cell? ⟨bi, oi + k, none⟩ = some (.int .i64 ((ra.getD i []).getD k 0)))
    (hr : ∀ i, i < 3 → ∃ bi oi ci, w.cell? ⟨b', o' + i, none⟩ = some (.slice (some ⟨bi, oi, none⟩) 8 ci) ∧ bi < w.heap.size ∧ ∀ k, k < 8 → w.cell? ⟨bi, oi + k, none⟩ = some (.int .i64 ((rb.getD i []).getD k 0)))
    (ga : ∀ i, i < 3 → ∀ k, k < 8 → 0 ≤ (ra.getD i []).getD k 0 ∧ (ra.getD i []).getD k 0 ≤ 2000) (gb : ∀ i, i < 3 → ∀ k, k < 8 → 0 ≤ (rb.getD i []).getD k 0 ∧ (rb.getD i []).getD k 0 ≤ 2000) :
    Calls Try.prog 58 #[.slice (some ⟨b, o, none⟩) 3 c, .slice (some ⟨b', o', none⟩) 3 c', F] w fun e w' =>
      ∃ G, e = .returned (.slice (some ⟨w.heap.size, 0, none⟩) 3 3) ∧ OwnR w' w.heap.size (.slice (some ⟨w.heap.size, 0, none⟩) 3 3) (joinV ra rb) G (fun _ => 8) ∧ Below w.heap.size w w' := by
  have m3 := make3
  have HA := Lib.hid ha
  have HR := Lib.hid hr
  have GA := Lib.hid ga
  have GB := Lib.hid gb
  subst hF
  clear ha hr ga gb
  go_enter Try.func58, Try.ntmps58
  go_wp2
  go_loopw [14] (fun i wr => ∃ (m : Nat) (G : Nat → Nat), m ≤ 3 ∧ i = .int .i64 m ∧ Rowed wr w.heap.size ra rb m G ∧ Below w.heap.size w wr ∧ w.heap.size < wr.heap.size) (fun i _ => 3 - (intOf i).toNat)
  case atStart =>
    exact ⟨0, fun _ => 0, Nat.zero_le _, rfl, ⟨⟨_, heap_alloc_new w _, rfl, fun j h => absurd h (Nat.not_lt_zero j)⟩, fun j h => absurd h (Nat.not_lt_zero j), fun i j h => absurd h (Nat.not_lt_zero i)⟩, (Below.refl _ _).alloc (Nat.le_refl _) _, by simp⟩
  case round =>
    obtain ⟨m, G, hm, rfl, hrow, hbl, hlt⟩ := hrel
    have HW := Lib.hid hrow
    have HB := Lib.hid hbl
    clear hrow hbl
    by_cases hmt : m < 3
    · obtain ⟨b1, o1, c1, e1, l1, r1⟩ := HA.out m hmt
      obtain ⟨b2, o2, c2, e2, l2, r2⟩ := HR.out m hmt
      rw [← HB.out.cell (p := ⟨b, o + m, none⟩) hb] at e1
      rw [← HB.out.cell (p := ⟨b', o' + m, none⟩) hb'] at e2
      have KC : Hid (Calls Try.prog 59 #[.slice (some ⟨b1, o1, none⟩) 8 c1, .slice (some ⟨b2, o2, none⟩) 8 c2] wr.drew fun e w' =>
          e = .returned (.slice (some ⟨wr.heap.size, 0, none⟩) 8 8) ∧ w'.ownsRow wr.heap.size 3 1 (.slice (some ⟨wr.heap.size, 0, none⟩) 8 8) 8 (ints (addRows (ra.getD m []) (rb.getD m []))) ∧ Below wr.heap.size wr.drew w') :=
        rowsJoined_at wr.drew b1 o1 c1 b2 o2 c2 _ _ (by have := HB.out.size; simp; omega) (by have := HB.out.size; simp; omega)
          (fun k hk => ⟨GA.out m hmt k hk, by rw [World.cell?_drew, HB.out.cell (p := ⟨b1, o1 + k, none⟩) l1]; exact r1 k hk⟩)
          (fun k hk => ⟨GB.out m hmt k hk, by rw [World.cell?_drew, HB.out.cell (p := ⟨b2, o2 + k, none⟩) l2]; exact r2 k hk⟩)
      obtain ⟨v, hc, hf⟩ : ∃ v, wr.cell? ⟨w.heap.size, m, none⟩ = some v ∧ wr.frozen? ⟨w.heap.size, m, none⟩ = false := by
        obtain ⟨cur, h1, h2, _⟩ := HW.out.hdr
        refine ⟨cur[m]'(by omega), ?_, by simp [World.frozen?, h1]⟩
        simp [World.cell?, h1, show m < cur.size by omega]
      have m0 : (0 : Int) ≤ (m : Int) := by omega
      have m3' : (m : Int) < 3 := by omega
      clear r1 r2
      go_wp2
      go_region_with (go_at_call 59; refine KC.out.mono ?_; rintro e w4 ⟨rfl, ho, hb4⟩; have d1 := cell_later (below_of_drew hb4) hc; have d2 := later_free hb4 hf hlt; have HO4 := Lib.hid ho; have HB4 := Lib.hid hb4; clear ho hb4)
      all_goals
        have hs := HW.out.step hmt (below_of_drew HB4.out) (Nat.le_refl _) hlt (ownsRow_base HO4.out (by omega))
        have HS := Lib.hid hs
        clear hs
        go_wp2
        go_roundw
        case rel => exact ⟨m + 1, _, by omega, by go_num, HS.out, (HB.out.trans ((below_of_drew HB4.out).mono HB.out.size)).setCell (Nat.le_refl _) _, by have := HB4.out.size; simp at this ⊢; omega⟩
        case measure => simp [intOf]; omega
    · obtain rfl : m = 3 := by omega
      go_wp2
      go_ret
      exact ⟨G, rfl, HW.out.own, HB.out⟩

end Go.Proofs.Yteopnbjiffncbab
