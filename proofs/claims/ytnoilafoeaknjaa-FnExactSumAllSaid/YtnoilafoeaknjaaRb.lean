/-
  Several texts in one: Copy, SpAdd.
-/
import Derived.Test.YtnoilafoeaknjaaRa
import Derived.Test.YtnoilafoeaknjaaBa
import Derived.IntWalk
set_option linter.unusedVariables false
/-
  The model's l1Copy: an ok rough count anew.
-/
namespace Go.Proofs.Ytnoilafoeaknjaa
open Go.RowKit
attribute [local go_sem ↓] Go.wp_at_zero Go.wp_at_succ

theorem news_ints {w : World} {b o n : Nat} {zs : List Int} (hn : zs.length = n) (hc : ∀ k, k < n → w.cell? ⟨b, o + k, none⟩ = some (.int .i64 (zs.getD k 0))) :
    ∀ j u, (ints zs)[j]? = some u → w.cell? ((⟨b, o, none⟩ : Addr).add j) = some u := fun j u hu => by
  have hj : j < zs.length := by
    have := (List.getElem?_eq_some_iff.1 hu).1
    simpa [ints] using this
  have e : (⟨b, o, none⟩ : Addr).add j = ⟨b, o + j, none⟩ := by unfold Addr.add; split <;> simp_all
  rw [e, hc j (by omega)]
  rw [ints_get _ _ hj] at hu
  exact hu
theorem ints_one (zs : List Int) : ∀ u ∈ ints zs, u.oneCell' = true := fun u hu => by
  obtain ⟨z, _, rfl⟩ := List.mem_map.1 hu
  rfl
theorem empty_own (w : World) (B : Nat) (hB : B ≤ w.heap.size) : (w.alloc (.cells #[] 3)).ownsRow B 3 1 (.slice (some ⟨w.heap.size, 0, none⟩) 0 0) 0 [] :=
  World.ownsRow_lit (base := B) (e := 3) (size := 1) w #[] 0 hB (by simp [maxLen]) (by simp)

theorem row_added_n {w wr w1 w2 : World} {S R B W g c gg cap n : Nat} {o o' : Obj} {u : Value} {t : TypeId} {rs : List (List Int)} {G C : Nat → Nat} {zs : List Int} (hn : zs.length = n)
    (HO : OwnR wr B u rs G C) (hX : Below wr.heap.size wr w1) (hz : w1.ownsRow B 3 1 (.slice (some ⟨g, 0, none⟩) n c) n (ints zs)) (hg : wr.heap.size ≤ g)
    (hown1 : w2.ownsRow B 26 1 (.slice (some ⟨gg, 0, none⟩) (rs.length + 1) cap) (rs.length + 1) ((List.range rs.length).map (rowV rs G C) ++ [.slice (some ⟨g, 0, none⟩) n c]))
    (hgrow : (w1.alloc o').grownBy w2 u.ownBlock) (hat : u.ownBlock = some gg ∨ gg = w1.heap.size + 1)
    (hR : wr.heap[R]? = some (.cells #[u] t (0, 0))) (hS : wr.heap[S]? = some o) (hRB : R < B) (hSB : S < B) (hSR : S ≠ R) (hbl : Below W w wr) (hWR : W ≤ R) (hWw : W ≤ w.heap.size) :
    ∃ G' C', OwnR (w2.setCell ⟨R, 0, none⟩ (.slice (some ⟨gg, 0, none⟩) (rs.length + 1) cap)) B (.slice (some ⟨gg, 0, none⟩) (rs.length + 1) cap) (rs ++ [zs]) G' C' ∧
      (w2.setCell ⟨R, 0, none⟩ (.slice (some ⟨gg, 0, none⟩) (rs.length + 1) cap)).heap[S]? = some o ∧
      (w2.setCell ⟨R, 0, none⟩ (.slice (some ⟨gg, 0, none⟩) (rs.length + 1) cap)).heap[R]? = some (.cells #[.slice (some ⟨gg, 0, none⟩) (rs.length + 1) cap] t (0, 0)) ∧
      Below W w (w2.setCell ⟨R, 0, none⟩ (.slice (some ⟨gg, 0, none⟩) (rs.length + 1) cap)) := by
  subst hn
  exact row_added HO (grownBy_trans (grownBy_below hX) (World.grownBy_alloc w1 o' none)) (hz.alloc _) hg hown1 hgrow (by simpa using hat) hR hS hRB hSB hSR hbl hWR hWw

theorem three_blocks (w : World) (a b c : Obj) : (((w.alloc a).alloc b).alloc c).heap[w.heap.size]? = some a ∧ (((w.alloc a).alloc b).alloc c).heap[w.heap.size + 1]? = some b ∧ (((w.alloc a).alloc b).alloc c).heap[w.heap.size + 2]? = some c := by
  have e1 : (w.alloc a).heap.size = w.heap.size + 1 := by simp
  have e2 : ((w.alloc a).alloc b).heap.size = w.heap.size + 2 := by simp
  have h1 := heap_alloc_new (w.alloc a) b
  have h2 := heap_alloc_new ((w.alloc a).alloc b) c
  rw [e1] at h1
  rw [e2] at h2
  exact ⟨(heap_alloc_old _ _ (by omega)).trans ((heap_alloc_old _ _ (by omega)).trans (heap_alloc_new _ _)), (heap_alloc_old _ _ (by omega)).trans h1, h2⟩
theorem box0_keep {wr w1 w2 : World} {S R : Nat} {o o' : Obj} {x : Value} {row : Option Nat} (h : wr.heap[S]? = some o) (hb : Below wr.heap.size wr w1) (hg : (w1.alloc o').grownBy w2 row) (hr : row ≠ some S) (hSR : S ≠ R) :
    (w2.setCell ⟨R, 0, none⟩ x).heap[S]? = some o := by
  rw [heap_setCell_other w2 ⟨R, 0, none⟩ S _ hSR]
  have h1 := block_keep h (grownBy_below (row := none) hb) (by simp)
  have h2 := block_keep h1 (World.grownBy_alloc w1 o' none) (by simp)
  exact block_keep h2 hg hr
theorem take_snoc {α : Type} (l : List α) (k : Nat) (d : α) (h : k < l.length) : l.take k ++ [l.getD k d] = l.take (k + 1) := by
  rw [List.take_succ_eq_append_getElem h]; simp [h]

theorem inner_keep {wr w1 : World} {o : Obj} (h : (wr.alloc o).drew.grownBy w1 (some wr.heap.size)) : Below wr.heap.size wr w1 := by
  have h1 : Below wr.heap.size wr (wr.alloc o).drew := ((Below.refl _ _).alloc (Nat.le_refl _) _).drew
  exact h1.grown h (by simp) (fun k e => by cases e; exact Nat.le_refl _)
theorem box_later {w w1 : World} {b : Nat} {u : Value} (hb : Below w.heap.size w w1) (c : w.cell? ⟨b, 0, none⟩ = some u) (f : w.frozen? ⟨b, 0, none⟩ = false) (l : b < w.heap.size) :
    w1.cell? ⟨b, 0, none⟩ = some u ∧ w1.frozen? ⟨b, 0, none⟩ = false ∧ b < w1.heap.size :=
  ⟨cell_later hb c, by rw [hb.frozen (p := ⟨b, 0, none⟩) l]; exact f, Nat.lt_of_lt_of_le l hb.size⟩
theorem box_far1 {w w1 : World} {o : Obj} {b : Nat} {u : Value} {row : Option Nat} (c : w.cell? ⟨b, 0, none⟩ = some u) (f : w.frozen? ⟨b, 0, none⟩ = false) (l : b < w.heap.size)
    (hg : (w.alloc o).grownBy w1 row) (hr : row ≠ some b) : w1.cell? ⟨b, 0, none⟩ = some u ∧ w1.frozen? ⟨b, 0, none⟩ = false := by
  have l1 : b < (w.alloc o).heap.size := by simp; omega
  rw [hg.cell_far ⟨b, 0, none⟩ l1 (Ne.symm hr), hg.frozen_far ⟨b, 0, none⟩ l1 (Ne.symm hr)]
  rw [World.cell?_alloc_past _ _ _ l, World.frozen?_alloc_past _ _ _ l]
  exact ⟨c, f⟩

set_option maxRecDepth 100000 in
set_option maxHeartbeats 2000000 in
theorem copy_three (b o cap : Nat) (rs : List (List Int)) (w : World) (hl : rs.length = 3) (h8 : ∀ i, i < 3 → (rs.getD i []).length = 8) (hb : b < w.heap.size)
    (hrow : ∀ i, i < 3 → ∃ bi oi ci, w.cell? ⟨b, o + i, none⟩ = some (.slice (some ⟨bi, oi, none⟩) 8 ci) ∧ bi < w.heap.size ∧ ∀ k, k < 8 → w.cell? ⟨bi, oi + k, none⟩ = some (.int .i64 ((rs.getD i []).getD k 0))) :
    Calls Try.prog 125 #[.agg #[.slice (some ⟨b, o, none⟩) 3 cap]] w fun e w' => ∃ u G C, e = .returned (.agg #[u]) ∧ OwnR w' w.heap.size u rs G C ∧ Below w.heap.size w w' := by
  obtain ⟨i0, hi, hz0, hz1, hz2⟩ := info_parts info_ints
  obtain ⟨j0, hj, hy0, hy1, hy2⟩ := info_parts info_int
  have HL := Lib.hid hl
  have H8 := Lib.hid h8
  have HW := Lib.hid hrow
  clear hl h8 hrow
  go_enter Try.func125, Try.ntmps125
  go_wp2
  go_loopw [4] (fun i wr => ∃ (k : Nat) (qs : List (List Int)) (u : Value) (G C : Nat → Nat), k ≤ 3 ∧ i = .int .i64 k ∧ qs = rs.take k ∧ OwnR wr (w.heap.size + 3) u qs G C ∧
      wr.heap[w.heap.size + 1]? = some (.cells #[.slice none 0 0] 25 (0, 0)) ∧ wr.heap[w.heap.size + 2]? = some (.cells #[u] 25 (0, 0)) ∧ Below w.heap.size w wr ∧
      wr.heap[w.heap.size]? = some (.cells #[.slice (some ⟨b, o, none⟩) 3 cap] 25 (0, 0))) (fun i _ => 3 - (intOf i).toNat)
  case atStart =>
    refine ⟨0, _, _, _, _, Nat.zero_le _, rfl, rfl, OwnR.nil _ _, ?_, ?_, (((Below.refl _ _).alloc (Nat.le_refl _) _).alloc (by simp) _).alloc (by simp; omega) _, ?_⟩
    · exact (three_blocks w _ _ _).2.1
    · exact (three_blocks w _ _ _).2.2
    · exact (three_blocks w _ _ _).1
  case round =>
    obtain ⟨k, qs, u, G, C, hk, rfl, hqs, hown, hS, hR, hbl, hbx0⟩ := hrel
    obtain ⟨hbox, _, l0⟩ := cell_block hbx0
    obtain ⟨c1, f1, l1⟩ := cell_block hR
    have HQ := Lib.hid hqs
    have hn : qs.length = k := by rw [hqs]; simp [HL.out]; omega
    have HN := Lib.hid hn
    have hn3 : qs.length ≤ 3 := by omega
    have hub : u.ownBlock ≠ some (w.heap.size + 2) := fun e => by have := (hown.hdr_lt _ e).1; omega
    have hb0 : w.heap.size + 3 ≤ wr.heap.size := by omega
    have hub0 : u.ownBlock ≠ some w.heap.size := fun e => by have := (hown.hdr_lt _ e).1; omega
    have HB0 := Lib.hid hbx0
    have HU0 := Lib.hid hub0
    have HO := Lib.hid hown
    have HS := Lib.hid hS
    have HR := Lib.hid hR
    have HB := Lib.hid hbl
    clear hown hS hR hbl hn hqs hbx0 hub0
    by_cases hlt : k < 3
    · obtain ⟨bi, oi, ci, e1, li, hc⟩ := HW.out k hlt
      rw [← HB.out.cell (p := ⟨b, o + k, none⟩) hb] at e1
      have hzl := H8.out k hlt
      obtain ⟨zs, hzs⟩ : ∃ zs, zs = rs.getD k [] := ⟨_, rfl⟩
      rw [← hzs] at hc hzl
      have hc' : ∀ i, i < 8 → wr.cell? ⟨bi, oi + i, none⟩ = some (.int .i64 (zs.getD i 0)) := fun i hi => by rw [HB.out.cell (p := ⟨bi, oi + i, none⟩) li]; exact hc i hi
      have hbi : bi < wr.heap.size := by have := HB.out.size; omega
      have HC := Lib.hid hc'
      have HZ := Lib.hid hzs
      have HZL := Lib.hid hzl
      clear hc hc' hzs hzl
      have lb : b < wr.heap.size := by have := HB.out.size; omega
      have ki0 : (0 : Int) ≤ (k : Int) := by omega
      have ki3 : (k : Int) < 3 := by omega
      go_wp2_with fail
      go_region_law ((first
        | (refine step_append_lies _ (by rfl) _ _ _ (by rfl) (w.heap.size + 3) 3 j0 _ 1 8 Try.underlying26 hj hy0 hy1 hy2 rfl (by omega) (.slice (some ⟨wr.heap.size, 0, none⟩) 0 0) 0 [] (by rfl) ((empty_own wr (w.heap.size + 3) hb0).drew)
            ⟨bi, oi, none⟩ 8 ci (ints zs) (by rfl) (by rw [ints_len, HZL.out]) (news_ints HZL.out (fun i hi => (World.cell?_alloc_lt (h := hbi) ..).trans (HC.out i hi))) (ints_one zs)
            (by omega) (by unfold maxLen; omega) (by omega) (by simp; omega) (wr.heap.size + 1) (by simp) ?_; intro g1 cap1 w1 hown1 hgrow1 hat1 hlt1; have hbw := inner_keep hgrow1; have HO1 := HO.out.below hbw (Nat.le_refl _); have d1 := box_later hbw c1 f1 l1; obtain ⟨d2, d3, d4⟩ := d1; have HBW := Lib.hid hbw; have HQ1 := Lib.hid HO1; have HW1 := Lib.hid hown1; have hsz := hbw.size; clear hbw HO1 hown1 hgrow1)
        | (refine step_append_lies _ (by rfl) _ _ _ (by rfl) (w.heap.size + 3) 26 i0 _ 1 24 Try.underlying23 hi hz0 hz1 hz2 rfl (by omega) u qs.length _ (by rfl) (HQ1.out.hdr.alloc _)
            ⟨w1.heap.size, 0, none⟩ 1 1 [.slice (some ⟨g1, 0, none⟩) 8 cap1] (by rfl) (by rfl) (World.news_of_block (cs := #[.slice (some ⟨g1, 0, none⟩) 8 cap1]) (t := 26) (fr := (0, 0)) (heap_alloc_new w1 _)) (by simp [Value.oneCell'])
            (by omega) (by unfold maxLen; omega) (by omega) (by simp; omega) (w1.heap.size + 1) (by simp) ?_; intro gg cap2 w2 hown2 hgrow2 hat2 hlt2; have d5 := box_far1 d2 d3 d4 hgrow2 hub; obtain ⟨d6, d7⟩ := d5)))
      all_goals
        have hg1 : wr.heap.size ≤ g1 := by
          rcases hat1 with h | h
          · simp [Value.ownBlock] at h; omega
          · omega
        have fin := row_added_n HZL.out HO.out HBW.out HW1.out hg1 hown2 hgrow2 hat2 HR.out HS.out (by omega) (by omega) (by omega) HB.out (by omega) (Nat.le_refl _)
        have hbx := box0_keep (x := .slice (some ⟨gg, 0, none⟩) (qs.length + 1) cap2) HB0.out HBW.out hgrow2 HU0.out (show w.heap.size ≠ w.heap.size + 2 by omega)
        have FIN := Lib.hid fin
        have HBX := Lib.hid hbx
        clear fin hbx hown2 hgrow2 hat2 hg1 hat1
        go_wp2
        go_roundw
        case rel =>
          obtain ⟨G', C', q1, q2, q3, q4⟩ := FIN.out
          exact ⟨k + 1, qs ++ [zs], _, G', C', by omega, by go_num, by rw [HQ.out, HZ.out]; exact take_snoc _ _ _ (by rw [HL.out]; exact hlt), q1, q2, q3, q4, HBX.out⟩
        case measure => simp [intOf]; omega
    · obtain ⟨s1, s2, s3⟩ := cell_block HS.out
      have h3 : qs.length = 3 := by rw [HN.out]; omega
      obtain ⟨g, cap', hu, hg1, hg2⟩ := World.ownsRow.form HO.out.hdr (by omega)
      subst hu
      have e3 : qs = rs := by rw [HQ.out, List.take_of_length_le (by rw [HL.out]; omega)]
      have hw := HO.out.grown (grownBy_setCell wr ⟨w.heap.size + 1, 0, none⟩ (.slice (some ⟨g, 0, none⟩) 3 cap')) (fun k e => by simp at e; omega)
      have hb := HB.out.setCell (p := ⟨w.heap.size + 1, 0, none⟩) (by simp) (.slice (some ⟨g, 0, none⟩) 3 cap')
      rw [h3] at hw c1
      rw [e3] at hw
      have H1 := Lib.hid hw
      have H2 := Lib.hid hb
      have H3 := Lib.hid h3
      clear hw hb h3 e3 hub hn3
      go_wp2
      have hr := World.cell?_setCell_same wr ⟨w.heap.size + 1, 0, none⟩ (.slice (some ⟨g, 0, none⟩) 3 cap') s1
      exact bodyPost_ret (v := .agg #[.slice (some ⟨g, 0, none⟩) 3 cap']) (by simp [results, Try.results125, go_sem, hr]) rfl ⟨_, G, C, rfl, H1.out.base (by omega), H2.out⟩

/-- The model's copy of a count that is ok. -/
theorem copy_at (w : World) (u : Value) (rs : List (List Int)) (h : Rws w u rs) (hok : okB rs = true) :
    Calls Try.prog 125 #[.agg #[u]] w fun e w' => ∃ x c G C, e = .returned (.agg #[.slice x 3 c]) ∧ OwnR w' w.heap.size (.slice x 3 c) rs G C ∧ Below w.heap.size w w' := by
  obtain ⟨h3, hg⟩ := (okB_iff rs).1 hok
  obtain ⟨b, o, cap, rfl, _, hb, hrow⟩ := ok_form h hok
  refine (copy_three b o cap rs w h3 (fun i hi => (hg i hi).1) hb hrow).mono fun e w' ⟨u', G, C, he, ho, hb'⟩ => ?_
  obtain ⟨⟨x, c, hx⟩, _⟩ := ho.rws.cases
  rw [h3] at hx
  subst hx
  exact ⟨x, c, G, C, he, ho, hb'⟩

end Go.Proofs.Ytnoilafoeaknjaa

/-
  The model's RoughAdd.
-/
namespace Go.Proofs.Ytnoilafoeaknjaa
open Go.RowKit Go.Sort

/-- Row i with n more in the place of the thing t. -/
def addRow (rs : List (List Int)) (t n : Int) (i : Nat) : List Int := (rs.getD i []).set (place i t).toNat (atV rs i t + n)
/-- A thing counted n times more. -/
def addV (rs : List (List Int)) (t n : Int) : List (List Int) := [addRow rs t n 0, addRow rs t n 1, addRow rs t n 2]
/-- Whether it can be counted. -/
def addB (rs : List (List Int)) (t n : Int) : Bool := okB rs && decide (0 ≤ t) && decide (t < 64) && decide (0 ≤ n) && decide (n ≤ 2000 - allV rs)

theorem addB_iff (rs : List (List Int)) (t n : Int) : addB rs t n = true ↔ okB rs = true ∧ 0 ≤ t ∧ t < 64 ∧ 0 ≤ n ∧ n ≤ 2000 - allV rs := by
  simp [addB, and_assoc]

theorem addV_get (rs : List (List Int)) (t n : Int) (i : Nat) (hi : i < 3) : (addV rs t n).getD i [] = addRow rs t n i := by
  rcases (by omega : i = 0 ∨ i = 1 ∨ i = 2) with rfl | rfl | rfl <;> rfl

theorem eq_three {rs qs : List (List Int)} (h : rs.length = 3) (h' : qs.length = 3) (e : ∀ i, i < 3 → rs.getD i [] = qs.getD i []) : rs = qs := by
  have := eq_of_get (d := []) h h' e
  simpa using this

set_option maxHeartbeats 1000000 in
theorem spAdd_no (w : World) (u : Value) (rs : List (List Int)) (t n : Int) (h : Rws w u rs) (hno : addB rs t n = false) :
    Calls Try.prog 123 #[.agg #[u], .int .i64 t, .int .i64 n] w fun e w' => e = .returned (.tuple #[.agg #[.slice none 0 0], .bool false]) ∧ Below w.heap.size w w' := by
  have hA := ((Below.refl w.heap.size w).alloc (Nat.le_refl _) (.cells #[u] 25)).alloc (by simp) (.cells #[.slice none 0 0] 25)
  have K := Lib.hid (spOk_any u rs _ (h.below hA (Nat.le_refl _)))
  have HA := Lib.hid hA
  clear hA
  cases hok : okB rs with
  | false =>
    rw [hok] at K
    obtain ⟨⟨x, c, hx⟩, _⟩ := h.cases
    obtain ⟨m, hn⟩ : ∃ n, n = rs.length := ⟨_, rfl⟩
    rw [← hn] at hx
    subst hx
    clear h hn hok hno
    go_enter Try.func123, Try.ntmps123
    go_wp2_with fail
    refine K.out.mono ?_
    rintro e w1 ⟨rfl, hb1⟩
    have sz := hb1.size
    simp only [World.size_alloc] at sz
    have cb : w1.cell? ⟨w.heap.size + 1, 0, none⟩ = some (.slice none 0 0) := by rw [hb1.cell (by simp)]; simp [go_sem]
    have fb : w1.frozen? ⟨w.heap.size + 1, 0, none⟩ = false := by rw [hb1.frozen (by simp)]; simp [go_sem]
    have L := Lib.hid (HA.out.trans (hb1.mono HA.out.size))
    clear hb1
    go_wp2
    have hr := World.cell?_setCell_same w1 ⟨w.heap.size + 1, 0, none⟩ (.slice none 0 0) cb
    exact bodyPost_ret (v := .tuple #[.agg #[.slice none 0 0], .bool false]) (by simp [results, Try.results123, go_sem, hr]) rfl ⟨rfl, L.out.setCell (by simp) _⟩
  | true =>
    rw [hok] at K
    obtain ⟨b, o, cap, rfl, hcap, hb, hrow⟩ := ok_form h hok
    obtain ⟨b0, o0, c0, e0, l0, r0⟩ := hrow 0 (by omega)
    obtain ⟨_, hg⟩ := (okB_iff rs).1 hok
    have fin : Hid (allV rs = (rs.getD 0 []).sum) := if_pos hok
    obtain ⟨g8, gr, _, _⟩ := hg 0 (by omega)
    have av := allV_ok hok
    generalize rs.getD 0 [] = z0 at g8 gr fin r0
    obtain ⟨S, hS⟩ : ∃ S, S = allV rs := ⟨_, rfl⟩
    rw [← hS] at av fin
    have hno' : (t < 0 ∨ 63 < t) ∨ (0 ≤ t ∧ t ≤ 63 ∧ (n < 0 ∨ 2000 - S < n)) := by
      apply Classical.byContradiction
      intro hh
      have : addB rs t n = true := (addB_iff rs t n).2 ⟨hok, by omega, by omega, by omega, by rw [← hS]; omega⟩
      rw [this] at hno
      cases hno
    have G8 := Lib.hid g8
    have GR := Lib.hid gr
    have e0' : w.cell? ⟨b, o, none⟩ = some (.slice (some ⟨b0, o0, none⟩) 8 c0) := e0
    have R0 := Lib.hid r0
    clear h hrow hok hg g8 gr e0 r0 hno hS
    rcases hno' with ht | ⟨t0, t1, hn⟩
    · go_enter Try.func123, Try.ntmps123
      go_wp2_with fail
      refine K.out.mono ?_
      rintro e w1 ⟨rfl, hb1⟩
      have sz := hb1.size
      simp only [World.size_alloc] at sz
      have cb : w1.cell? ⟨w.heap.size + 1, 0, none⟩ = some (.slice none 0 0) := by rw [hb1.cell (by simp)]; simp [go_sem]
      have fb : w1.frozen? ⟨w.heap.size + 1, 0, none⟩ = false := by rw [hb1.frozen (by simp)]; simp [go_sem]
      have L := Lib.hid (HA.out.trans (hb1.mono HA.out.size))
      clear hb1
      go_wp2_with (go_at_call 49; refine (l6In_no _ _ _ _ ht).mono ?_; rintro e w' ⟨rfl, rfl⟩)
      have hr := World.cell?_setCell_same w1 ⟨w.heap.size + 1, 0, none⟩ (.slice none 0 0) cb
      exact bodyPost_ret (v := .tuple #[.agg #[.slice none 0 0], .bool false]) (by simp [results, Try.results123, go_sem, hr]) rfl ⟨rfl, L.out.setCell (by simp) _⟩
    · go_enter Try.func123, Try.ntmps123
      go_wp2_with fail
      refine K.out.mono ?_
      rintro e w1 ⟨rfl, hb1⟩
      have sz := hb1.size
      simp only [World.size_alloc] at sz
      have cb : w1.cell? ⟨w.heap.size + 1, 0, none⟩ = some (.slice none 0 0) := by rw [hb1.cell (by simp)]; simp [go_sem]
      have ca : w1.cell? ⟨w.heap.size, 0, none⟩ = some (.slice (some ⟨b, o, none⟩) 3 cap) := by rw [hb1.cell (by simp; omega)]; simp [go_sem]
      have fb : w1.frozen? ⟨w.heap.size + 1, 0, none⟩ = false := by rw [hb1.frozen (by simp)]; simp [go_sem]
      have hL := HA.out.trans (hb1.mono HA.out.size)
      rw [← hL.cell (p := ⟨b, o, none⟩) hb] at e0'
      have KC : Hid (Calls Try.prog 83 #[.slice (some ⟨b0, o0, none⟩) 8 c0] w1 fun e w' => e = .returned (.int .i64 S) ∧ w1 = w') := by
        rw [fin.out]
        exact l1Sum_at b0 o0 c0 8 z0 w1 G8.out (by omega) GR.out (fun i hi => by rw [hL.cell (p := ⟨b0, o0 + i, none⟩) l0]; exact R0.out i hi)
      have L := Lib.hid hL
      clear hb1 hL
      go_wp2_with (go_at_call 49; refine (l6In_yes _ _ _ _ t0 t1).mono ?_; rintro e w' ⟨rfl, rfl⟩; clear t1)
      refine KC.out.mono ?_
      rintro e w' ⟨rfl, rfl⟩
      go_wp2_with (go_at_call 49; refine (l6In_no _ _ _ _ hn).mono ?_; rintro e w' ⟨rfl, rfl⟩)
      have hr := World.cell?_setCell_same w1 ⟨w.heap.size + 1, 0, none⟩ (.slice none 0 0) cb
      exact bodyPost_ret (v := .tuple #[.agg #[.slice none 0 0], .bool false]) (by simp [results, Try.results123, go_sem, hr]) rfl ⟨rfl, L.out.setCell (by simp) _⟩

theorem OwnR.hdrCell {w : World} {B g c n : Nat} {rs : List (List Int)} {G C : Nat → Nat} (h : OwnR w B (.slice (some ⟨g, 0, none⟩) n c) rs G C) (hn : rs.length = n) (i : Nat) (hi : i < n) :
    w.cell? ⟨g, i, none⟩ = some (.slice (some ⟨G i, 0, none⟩) (rs.getD i []).length (C i)) := by
  have hh := h.hdr
  rw [hn] at hh
  have := hh.cellAt i (by omega)
  rw [this, List.getElem?_map, List.getElem?_range hi]
  rfl
theorem OwnR.rowCell {w : World} {B : Nat} {u : Value} {rs : List (List Int)} {G C : Nat → Nat} (h : OwnR w B u rs G C) (i k : Nat) (hi : i < rs.length) (hk : k < (rs.getD i []).length) :
    w.cell? ⟨G i, k, none⟩ = some (.int .i64 ((rs.getD i []).getD k 0)) ∧ w.frozen? ⟨G i, k, none⟩ = false := by
  have hr := h.row i hi
  exact ⟨by rw [World.ownsRow.cellAt hr k (by omega), ints_get _ _ hk], World.ownsRow.frozenAt hr k⟩

set_option maxHeartbeats 2000000 in
theorem spAdd_yes (w : World) (u : Value) (rs : List (List Int)) (t n : Int) (h : Rws w u rs) (hyes : addB rs t n = true) :
    Calls Try.prog 123 #[.agg #[u], .int .i64 t, .int .i64 n] w fun e w' => ∃ x c G C, e = .returned (.tuple #[.agg #[.slice x 3 c], .bool true]) ∧ OwnR w' w.heap.size (.slice x 3 c) (addV rs t n) G C ∧ Below w.heap.size w w' := by
  obtain ⟨hok, t0, t1, n0, n1⟩ := (addB_iff rs t n).1 hyes
  have hA := ((Below.refl w.heap.size w).alloc (Nat.le_refl _) (.cells #[u] 25)).alloc (by simp) (.cells #[.slice none 0 0] 25)
  have K := Lib.hid (spOk_any u rs _ (h.below hA (Nat.le_refl _)))
  have HA := Lib.hid hA
  rw [hok] at K
  have HRW := Lib.hid h
  obtain ⟨b, o, cap, rfl, hcap, hb, hrow⟩ := ok_form h hok
  obtain ⟨b0, o0, c0, e0, l0, r0⟩ := hrow 0 (by omega)
  obtain ⟨h3, hg⟩ := (okB_iff rs).1 hok
  have fin : Hid (allV rs = (rs.getD 0 []).sum) := if_pos hok
  obtain ⟨g8, gr, _, _⟩ := hg 0 (by omega)
  have av := allV_ok hok
  have HG := Lib.hid hg
  have H3 := Lib.hid h3
  have HOK := Lib.hid hok
  have t1' : t ≤ 63 := by omega
  generalize hz : rs.getD 0 [] = z0 at g8 gr fin r0
  clear hz
  obtain ⟨S, hS⟩ : ∃ S, S = allV rs := ⟨_, rfl⟩
  rw [← hS] at av fin n1
  have nU : n ≤ 2000 := by omega
  have G8 := Lib.hid g8
  have GR := Lib.hid gr
  have e0' : w.cell? ⟨b, o, none⟩ = some (.slice (some ⟨b0, o0, none⟩) 8 c0) := e0
  have R0 := Lib.hid r0
  clear h hrow hok hg g8 gr e0 r0 hS hyes hA h3
  go_enter Try.func123, Try.ntmps123
  go_wp2_with fail
  refine K.out.mono ?_
  rintro e w1 ⟨rfl, hb1⟩
  have sz := hb1.size
  simp only [World.size_alloc] at sz
  have cb : w1.cell? ⟨w.heap.size + 1, 0, none⟩ = some (.slice none 0 0) := by rw [hb1.cell (by simp)]; simp [go_sem]
  have ca : w1.cell? ⟨w.heap.size, 0, none⟩ = some (.slice (some ⟨b, o, none⟩) 3 cap) := by rw [hb1.cell (by simp; omega)]; simp [go_sem]
  have fb : w1.frozen? ⟨w.heap.size + 1, 0, none⟩ = false := by rw [hb1.frozen (by simp)]; simp [go_sem]
  have hL := HA.out.trans (hb1.mono HA.out.size)
  rw [← hL.cell (p := ⟨b, o, none⟩) hb] at e0'
  have KC : Hid (Calls Try.prog 83 #[.slice (some ⟨b0, o0, none⟩) 8 c0] w1 fun e w' => e = .returned (.int .i64 S) ∧ w1 = w') := by
    rw [fin.out]
    exact l1Sum_at b0 o0 c0 8 z0 w1 G8.out (by omega) GR.out (fun i hi => by rw [hL.cell (p := ⟨b0, o0 + i, none⟩) l0]; exact R0.out i hi)
  have KCopy := Lib.hid (copy_at w1 _ rs (HRW.out.below hL (Nat.le_refl _)) HOK.out)
  have L := Lib.hid hL
  clear hb1 hL
  go_wp2_with (go_at_call 49; refine (l6In_yes _ _ _ _ t0 t1').mono ?_; rintro e w' ⟨rfl, rfl⟩; clear t1')
  refine KC.out.mono ?_
  rintro e w' ⟨rfl, rfl⟩
  go_wp2_with (go_at_call 49; refine (l6In_yes _ _ _ _ n0 n1).mono ?_; rintro e w' ⟨rfl, rfl⟩; clear n1)
  go_wp2_with fail
  refine KCopy.out.mono ?_
  rintro e w2 ⟨x, c, G, C, rfl, ho, hb2⟩
  obtain ⟨g, c', hu, hg1, hg2⟩ := World.ownsRow.form ho.hdr (by rw [H3.out]; omega)
  rw [H3.out] at hu
  obtain ⟨rfl, rfl⟩ : x = some ⟨g, 0, none⟩ ∧ c = c' := by simpa using hu
  clear hu
  have cb2 := cell_later hb2 cb
  have fb2 : w2.frozen? ⟨w.heap.size + 1, 0, none⟩ = false := by rw [hb2.frozen (p := ⟨w.heap.size + 1, 0, none⟩) (by simp; omega)]; exact fb
  have sz2 := hb2.size
  have L2 := Lib.hid (L.out.trans (hb2.mono L.out.size))
  have HO2 := Lib.hid ho
  clear ho hb2 cb fb ca e0'
  have hz := fun (i : Nat) (hi : i < 3) => (HG.out i hi).1
  have H8 := Lib.hid hz
  have AB := Lib.hid (fun (i : Nat) (hi : i < 3) => atV_bd HOK.out i hi t)
  clear hz
  go_wp2
  go_loopw [9] (fun i wr => ∃ (k : Nat) (qs : List (List Int)), k ≤ 3 ∧ i = .int .i64 k ∧ qs.length = 3 ∧ (∀ j, j < 3 → qs.getD j [] = if j < k then addRow rs t n j else rs.getD j []) ∧
      OwnR wr w1.heap.size (.slice (some ⟨g, 0, none⟩) 3 c) qs G C ∧ wr.cell? ⟨w2.heap.size, 0, none⟩ = some (.slice (some ⟨g, 0, none⟩) 3 c) ∧
      wr.cell? ⟨w.heap.size + 1, 0, none⟩ = some (.slice none 0 0) ∧ wr.frozen? ⟨w.heap.size + 1, 0, none⟩ = false ∧ Below w.heap.size w wr ∧ w2.heap.size < wr.heap.size) (fun i _ => 3 - (intOf i).toNat)
  case atStart =>
    have l1 : w.heap.size + 1 < w2.heap.size := by omega
    exact ⟨0, rs, Nat.zero_le _, rfl, H3.out, fun j hj => by simp, HO2.out.below ((Below.refl _ _).alloc (Nat.le_refl _) _) (Nat.le_refl _), by simp, by rw [World.cell?_alloc_past _ _ _ l1]; exact cb2,
      by rw [World.frozen?_alloc_past _ _ _ l1]; exact fb2, L2.out.alloc L2.out.size _, by simp⟩
  case round =>
    obtain ⟨k, qs, hk, rfl, hq3, hqs, hown, hbox, cr, fr, hbl, hlt2⟩ := hrel
    have HQ3 := Lib.hid hq3
    have HQ := Lib.hid hqs
    have HO := Lib.hid hown
    have HB := Lib.hid hbl
    clear hq3 hqs hown hbl
    by_cases hlt : k < 3
    · obtain ⟨P, hP, hP8, hPn⟩ := place_nat (k : Int) t
      have hqk : qs.getD k [] = rs.getD k [] := by rw [HQ.out k hlt, if_neg (by omega)]
      have hc1 := HO.out.hdrCell HQ3.out k hlt
      rw [hqk, H8.out k hlt] at hc1
      have hc2 := HO.out.rowCell k P (by rw [HQ3.out]; exact hlt) (by rw [hqk, H8.out k hlt]; exact hP8)
      have ha : (qs.getD k []).getD P 0 = atV rs k t := by rw [hqk]; unfold atV; rw [hPn]
      rw [ha] at hc2
      obtain ⟨a0, a1⟩ := AB.out k hlt
      have K1 : Hid (∀ W, Calls Try.prog 87 #[.int .i64 k, .int .i64 t] W fun e w' => e = .returned (.int .i64 P) ∧ Below W.heap.size W w') := fun W => by
        rw [← hP]; exact l1Place_yes k t W (by omega) (by omega) t0 t1
      have hst : ∀ w4 : World, Below wr.heap.size wr w4 → ∃ qs', qs'.length = 3 ∧ (∀ j, j < 3 → qs'.getD j [] = if j < k + 1 then addRow rs t n j else rs.getD j []) ∧
          OwnR (w4.setCell ⟨G k, P, none⟩ (.int .i64 (atV rs k t + n))) w1.heap.size (.slice (some ⟨g, 0, none⟩) 3 c) qs' G C ∧ w4.grownBy (w4.setCell ⟨G k, P, none⟩ (.int .i64 (atV rs k t + n))) (some (G k)) := fun w4 hw4 => by
        have q := (HO.out.below hw4 (Nat.le_refl _)).store k P (atV rs k t + n) (by rw [HQ3.out]; exact hlt) (by rw [hqk, H8.out k hlt]; exact hP8)
        refine ⟨_, by simpa using HQ3.out, fun j hj => ?_, q.1, q.2⟩
        by_cases e : j = k
        · subst e
          rw [if_pos (by omega)]
          unfold addRow
          rw [hPn, hqk]
          simp [HQ3.out, hlt]
        · have e1 : (qs.set k ((qs.getD k []).set P (atV rs k t + n))).getD j [] = qs.getD j [] := by simp [Ne.symm e]
          rw [e1, HQ.out j hj]
          by_cases e2 : j < k
          · rw [if_pos e2, if_pos (by omega)]
          · rw [if_neg e2, if_neg (by omega)]
      have HST := Lib.hid hst
      have HGk : Hid (w1.heap.size ≤ G k ∧ G k < w2.heap.size) := ⟨((HO.out.row k (by rw [HQ3.out]; exact hlt)).lt (G k) rfl).1, ((HO2.out.row k (by rw [H3.out]; exact hlt)).lt (G k) rfl).2⟩
      obtain ⟨a, hA⟩ : ∃ a, a = atV rs k t := ⟨_, rfl⟩
      rw [← hA] at hc2 HST a0 a1
      obtain ⟨hc2, hf2⟩ := hc2
      have lgk : G k < wr.heap.size := World.block_lt_of_cell? _ _ hc2
      have rb := cell_regrown hbox
      have r1 := cell_regrown hc1
      have r2 := cell_regrown hc2
      have k0 : (0 : Int) ≤ (k : Int) := by omega
      have k3 : (k : Int) < 3 := by omega
      have P8 : (P : Int) < 8 := by omega
      have wr1 : IntKind.i64.wrap (a + n) = a + n := IntWalk.i64_in _ (by omega)
      clear hP hPn hst hA ha hqk hP8
      go_wp2
      refine wp_region_last (C := fun w' => ∃ p : Regrown, w' = grow (redrawn wr p.d) p.os) 21 _ rfl rfl rfl (by kernel_rfl) (by kernel_rfl) (by kernel_rfl) (by kernel_rfl) (by kernel_rfl) ⟨⟨wr.drawn + 1, #[]⟩, by rw [grow_empty]; rfl⟩ ?_
      simp only [List.take_succ_cons, List.take_zero]
      repeat (refine boxed_step (fun K hK => ?_); go_simp; first | (refine hK _ ?_; clear hK K) | (apply Exists.intro; refine ⟨fun _ => ?_, hK _ ?_⟩; (exact Calls.regrown_of (K1.out _)); clear hK K))
      refine boxed_nil ?_
      intro _ hw'
      obtain ⟨⟨dq, oq⟩, hw''⟩ := hw'
      subst hw''
      have hb_w4 := below_regrown wr dq oq
      obtain ⟨w4, hq_w4⟩ : ∃ x, x = grow (redrawn wr dq) oq := ⟨_, rfl⟩
      rw [← hq_w4] at hb_w4 ⊢
      clear hq_w4
      have d1 := cell_later hb_w4 hc2
      have d2 : w4.frozen? ⟨G k, P, none⟩ = false := by rw [hb_w4.frozen (p := ⟨G k, P, none⟩) lgk]; exact hf2
      have HB4 := Lib.hid hb_w4
      clear hb_w4 rb r1 r2 wr1 hc1 hc2
      go_wp2
      go_roundw
      case rel =>
        obtain ⟨qs', q1, q2, q3, q4⟩ := HST.out w4 HB4.out
        have lw2 : w2.heap.size < w4.heap.size := by have := HB4.out.size; omega
        have e2 : G k ≠ w2.heap.size := by have := HGk.out.2; omega
        have e1 : G k ≠ w.heap.size + 1 := by have := HGk.out.1; omega
        refine ⟨k + 1, qs', by omega, by go_num, q1, q2, q3, ?_, ?_, ?_, ?_, by simpa using lw2⟩
        · exact (World.cell?_setCell_other (h := fun h => by injection h with h; exact e2 h) ..).trans (cell_later HB4.out hbox)
        · exact (World.cell?_setCell_other (h := fun h => by injection h with h; exact e1 h) ..).trans (cell_later HB4.out cr)
        · rw [World.frozen?_setCell, HB4.out.frozen (p := ⟨w.heap.size + 1, 0, none⟩) (by simp; omega)]; exact fr
        · exact (HB.out.trans (HB4.out.mono HB.out.size)).setCell (by have := HGk.out.1; simp; omega) _
      case measure => simp [intOf]; omega
    · have hq : qs = addV rs t n := eq_three HQ3.out rfl (fun i hi => by rw [HQ.out i hi, if_pos (by omega), addV_get _ _ _ _ hi])
      have HE := Lib.hid hq
      clear hq
      go_wp2
      have hr := World.cell?_setCell_same wr ⟨w.heap.size + 1, 0, none⟩ (.slice (some ⟨g, 0, none⟩) 3 c) cr
      have hw := HO.out.grown (grownBy_setCell wr ⟨w.heap.size + 1, 0, none⟩ (.slice (some ⟨g, 0, none⟩) 3 c)) (fun k e => by simp at e; omega)
      rw [HE.out] at hw
      exact bodyPost_ret (v := .tuple #[.agg #[.slice (some ⟨g, 0, none⟩) 3 c], .bool true]) (by simp [results, Try.results123, go_sem, hr]) rfl
        ⟨_, _, G, C, rfl, hw.base (by omega), HB.out.setCell (by simp) _⟩

end Go.Proofs.Ytnoilafoeaknjaa
