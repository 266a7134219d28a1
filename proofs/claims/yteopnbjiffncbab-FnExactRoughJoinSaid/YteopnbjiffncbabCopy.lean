/-
  The model's l1Copy: an ok rough count anew.
-/
import Derived.Test.YteopnbjiffncbabNew
import Derived.Test.YteopnbjiffncbabGet
namespace Go.Proofs.Yteopnbjiffncbab
open Go.RowKit
attribute [local go_sem ↓] Go.wp_at_zero Go.wp_at_succ

theorem news_ints {w : World} {b o n : Nat} {zs : List Int} (hn : zs.length = n) (hc : ∀ k, k < n → w.cell? ⟨b, o + k, none⟩ = some (.int .i64 (zs.getD k 0))) :
    ∀ j u, (ints zs)[j]? = some u → w.cell? ((⟨b, o, none⟩ : Addr).add j) = some u := fun j u hu => by
  have hj : j < zs.length := by
    have := (List.getElem?_eq_some_iff.1 hu).1
    simpa [ints] using this
  have e : (⟨b, o, none⟩ : Addr).add j = ⟨b, o + j, none⟩ := by unfold Addr.add; split <;> simp_all
  rw [e, hc j (by omega)]
  rw [ints_get _ _ hj] at hu
  exact hu
theorem ints_one (zs : List Int) : ∀ u ∈ ints zs, u.oneCell' = true := fun u hu => by
  obtain ⟨z, _, rfl⟩ := List.mem_map.1 hu
  rfl
theorem empty_own (w : World) (B : Nat) (hB : B ≤ w.heap.size) : (w.alloc (.cells #[] 3)).ownsRow B 3 1 (.slice (some ⟨w.heap.size, 0, none⟩) 0 0) 0 [] :=
  World.ownsRow_lit (base := B) (e := 3) (size := 1) w #[] 0 hB (by simp [maxLen]) (by simp)

theorem row_added_n {w wr w1 w2 : World} {S R B W g c gg cap n : Nat} {o o' : Obj} {u : Value} {t : TypeId} {rs : List (List Int)} {G C : Nat → Nat} {zs : List Int} (hn : zs.length = n)
    (HO : OwnR wr B u rs G C) (hX : Below wr.heap.size wr w1) (hz : w1.ownsRow B 3 1 (.slice (some ⟨g, 0, none⟩) n c) n (ints zs)) (hg : wr.heap.size ≤ g)
    (hown1 : w2.ownsRow B 41 1 (.slice (some ⟨gg, 0, none⟩) (rs.length + 1) cap) (rs.length + 1) ((List.range rs.length).map (rowV rs G C) ++ [.slice (some ⟨g, 0, none⟩) n c]))
    (hgrow : (w1.alloc o').grownBy w2 u.ownBlock) (hat : u.ownBlock = some gg ∨ gg = w1.heap.size + 1)
    (hR : wr.heap[R]? = some (.cells #[u] t (0, 0))) (hS : wr.heap[S]? = some o) (hRB : R < B) (hSB : S < B) (hSR : S ≠ R) (hbl : Below W w wr) (hWR : W ≤ R) (hWw : W ≤ w.heap.size) :
    ∃ G' C', OwnR (w2.setCell ⟨R, 0, none⟩ (.slice (some ⟨gg, 0, none⟩) (rs.length + 1) cap)) B (.slice (some ⟨gg, 0, none⟩) (rs.length + 1) cap) (rs ++ [zs]) G' C' ∧
      (w2.setCell ⟨R, 0, none⟩ (.slice (some ⟨gg, 0, none⟩) (rs.length + 1) cap)).heap[S]? = some o ∧
      (w2.setCell ⟨R, 0, none⟩ (.slice (some ⟨gg, 0, none⟩) (rs.length + 1) cap)).heap[R]? = some (.cells #[.slice (some ⟨gg, 0, none⟩) (rs.length + 1) cap] t (0, 0)) ∧
      Below W w (w2.setCell ⟨R, 0, none⟩ (.slice (some ⟨gg, 0, none⟩) (rs.length + 1) cap)) := by
  subst hn
  exact row_added HO (grownBy_trans (grownBy_below hX) (World.grownBy_alloc w1 o' none)) (hz.alloc _) hg hown1 hgrow (by simpa using hat) hR hS hRB hSB hSR hbl hWR hWw

theorem three_blocks (w : World) (a b c : Obj) : (((w.alloc a).alloc b).alloc c).heap[w.heap.size]? = some a ∧ (((w.alloc a).alloc b).alloc c).heap[w.heap.size + 1]? = some b ∧ (((w.alloc a).alloc b).alloc c).heap[w.heap.size + 2]? = some c := by
  have e1 : (w.alloc a).heap.size = w.heap.size + 1 := by simp
  have e2 : ((w.alloc a).alloc b).heap.size = w.heap.size + 2 := by simp
  have h1 := heap_alloc_new (w.alloc a) b
  have h2 := heap_alloc_new ((w.alloc a).alloc b) c
  rw [e1] at h1
  rw [e2] at h2
  exact ⟨(heap_alloc_old _ _ (by omega)).trans ((heap_alloc_old _ _ (by omega)).trans (heap_alloc_new _ _)), (heap_alloc_old _ _ (by omega)).trans h1, h2⟩
theorem box0_keep {wr w1 w2 : World} {S R : Nat} {o o' : Obj} {x : Value} {row : Option Nat} (h : wr.heap[S]? = some o) (hb : Below wr.heap.size wr w1) (hg : (w1.alloc o').grownBy w2 row) (hr : row ≠ some S) (hSR : S ≠ R) :
    (w2.setCell ⟨R, 0, none⟩ x).heap[S]? = some o := by
  rw [heap_setCell_other w2 ⟨R, 0, none⟩ S _ hSR]
  have h1 := block_keep h (grownBy_below (row := none) hb) (by simp)
  have h2 := block_keep h1 (World.grownBy_alloc w1 o' none) (by simp)
  exact block_keep h2 hg hr
theorem take_snoc {α : Type} (l : List α) (k : Nat) (d : α) (h : k < l.length) : l.take k ++ [l.getD k d] = l.take (k + 1) := by
  rw [List.take_succ_eq_append_getElem h]; simp [h]

theorem inner_keep {wr w1 : World} {o : Obj} (h : (wr.alloc o).drew.grownBy w1 (some wr.heap.size)) : Below wr.heap.size wr w1 := by
  have h1 : Below wr.heap.size wr (wr.alloc o).drew := ((Below.refl _ _).alloc (Nat.le_refl _) _).drew
  exact h1.grown h (by simp) (fun k e => by cases e; exact Nat.le_refl _)
theorem box_later {w w1 : World} {b : Nat} {u : Value} (hb : Below w.heap.size w w1) (c : w.cell? ⟨b, 0, none⟩ = some u) (f : w.frozen? ⟨b, 0, none⟩ = false) (l : b < w.heap.size) :
    w1.cell? ⟨b, 0, none⟩ = some u ∧ w1.frozen? ⟨b, 0, none⟩ = false ∧ b < w1.heap.size :=
  ⟨cell_later hb c, by rw [hb.frozen (p := ⟨b, 0, none⟩) l]; exact f, Nat.lt_of_lt_of_le l hb.size⟩
theorem box_far1 {w w1 : World} {o : Obj} {b : Nat} {u : Value} {row : Option Nat} (c : w.cell? ⟨b, 0, none⟩ = some u) (f : w.frozen? ⟨b, 0, none⟩ = false) (l : b < w.heap.size)
    (hg : (w.alloc o).grownBy w1 row) (hr : row ≠ some b) : w1.cell? ⟨b, 0, none⟩ = some u ∧ w1.frozen? ⟨b, 0, none⟩ = false := by
  have l1 : b < (w.alloc o).heap.size := by simp; omega
  rw [hg.cell_far ⟨b, 0, none⟩ l1 (Ne.symm hr), hg.frozen_far ⟨b, 0, none⟩ l1 (Ne.symm hr)]
  rw [World.cell?_alloc_past _ _ _ l, World.frozen?_alloc_past _ _ _ l]
  exact ⟨c, f⟩

set_option maxRecDepth 100000 in
set_option maxHeartbeats 2000000 in
theorem copy_three (b o cap : Nat) (rs : List (List Int)) (w : World) (hl : rs.length = 3) (h8 : ∀ i, i < 3 → (rs.getD i []).length = 8) (hb : b < w.heap.size)
    (hrow : ∀ i, i < 3 → ∃ bi oi ci, w.cell? ⟨b, o + i, none⟩ = some (.slice (some ⟨bi, oi, none⟩) 8 ci) ∧ bi < w.heap.size ∧ ∀ k, k < 8 → w.cell? ⟨bi, oi + k, none⟩ = some (.int .i64 ((rs.getD i []).getD k 0))) :
    Calls Try.prog 53 #[.agg #[.slice (some ⟨b, o, none⟩) 3 cap]] w fun e w' => ∃ u G C, e = .returned (.agg #[u]) ∧ OwnR w' w.heap.size u rs G C ∧ Below w.heap.size w w' := by
  obtain ⟨i0, hi, hz0, hz1, hz2⟩ := info_parts info_ints
  obtain ⟨j0, hj, hy0, hy1, hy2⟩ := info_parts info_int
  have HL := Lib.hid hl
  have H8 := Lib.hid h8
  have HW := Lib.hid hrow
  clear hl h8 hrow
  go_enter Try.func53, Try.ntmps53
  go_wp2
  go_loopw [4] (fun i wr => ∃ (k : Nat) (qs : List (List Int)) (u : Value) (G C : Nat → Nat), k ≤ 3 ∧ i = .int .i64 k ∧ qs = rs.take k ∧ OwnR wr (w.heap.size + 3) u qs G C ∧
      wr.heap[w.heap.size + 1]? = some (.cells #[.slice none 0 0] 24 (0, 0)) ∧ wr.heap[w.heap.size + 2]? = some (.cells #[u] 24 (0, 0)) ∧ Below w.heap.size w wr ∧
      wr.heap[w.heap.size]? = some (.cells #[.slice (some ⟨b, o, none⟩) 3 cap] 24 (0, 0))) (fun i _ => 3 - (intOf i).toNat)
  case atStart =>
    refine ⟨0, _, _, _, _, Nat.zero_le _, rfl, rfl, OwnR.nil _ _, ?_, ?_, (((Below.refl _ _).alloc (Nat.le_refl _) _).alloc (by simp) _).alloc (by simp; omega) _, ?_⟩
    · exact (three_blocks w _ _ _).2.1
    · exact (three_blocks w _ _ _).2.2
    · exact (three_blocks w _ _ _).1
  case round =>
    obtain ⟨k, qs, u, G, C, hk, rfl, hqs, hown, hS, hR, hbl, hbx0⟩ := hrel
    obtain ⟨hbox, _, l0⟩ := cell_block hbx0
    obtain ⟨c1, f1, l1⟩ := cell_block hR
    have HQ := Lib.hid hqs
    have hn : qs.length = k := by rw [hqs]; simp [HL.out]; omega
    have HN := Lib.hid hn
    have hn3 : qs.length ≤ 3 := by omega
    have hub : u.ownBlock ≠ some (w.heap.size + 2) := fun e => by have := (hown.hdr_lt _ e).1; omega
    have hb0 : w.heap.size + 3 ≤ wr.heap.size := by omega
    have hub0 : u.ownBlock ≠ some w.heap.size := fun e => by have := (hown.hdr_lt _ e).1; omega
    have HB0 := Lib.hid hbx0
    have HU0 := Lib.hid hub0
    have HO := Lib.hid hown
    have HS := Lib.hid hS
    have HR := Lib.hid hR
    have HB := Lib.hid hbl
    clear hown hS hR hbl hn hqs hbx0 hub0
    by_cases hlt : k < 3
    · obtain ⟨bi, oi, ci, e1, li, hc⟩ := HW.out k hlt
      rw [← HB.out.cell (p := ⟨b, o + k, none⟩) hb] at e1
      have hzl := H8.out k hlt
      obtain ⟨zs, hzs⟩ : ∃ zs, zs = rs.getD k [] := ⟨_, rfl⟩
      rw [← hzs] at hc hzl
      have hc' : ∀ i, i < 8 → wr.cell? ⟨bi, oi + i, none⟩ = some (.int .i64 (zs.getD i 0)) := fun i hi => by rw [HB.out.cell (p := ⟨bi, oi + i, none⟩) li]; exact hc i hi
      have hbi : bi < wr.heap.size := by have := HB.out.size; omega
      have HC := Lib.hid hc'
      have HZ := Lib.hid hzs
      have HZL := Lib.hid hzl
      clear hc hc' hzs hzl
      have lb : b < wr.heap.size := by have := HB.out.size; omega
      have ki0 : (0 : Int) ≤ (k : Int) := by omega
      have ki3 : (k : Int) < 3 := by omega
      go_wp2_with fail
      go_region_law ((first
        | (refine step_append_lies _ (by rfl) _ _ _ (by rfl) (w.heap.size + 3) 3 j0 _ 1 8 Try.underlying41 hj hy0 hy1 hy2 rfl (by omega) (.slice (some ⟨wr.heap.size, 0, none⟩) 0 0) 0 [] (by rfl) ((empty_own wr (w.heap.size + 3) hb0).drew)
            ⟨bi, oi, none⟩ 8 ci (ints zs) (by rfl) (by rw [ints_len, HZL.out]) (news_ints HZL.out (fun i hi => (World.cell?_alloc_lt (h := hbi) ..).trans (HC.out i hi))) (ints_one zs)
            (by omega) (by unfold maxLen; omega) (by omega) (by simp; omega) (wr.heap.size + 1) (by simp) ?_; intro g1 cap1 w1 hown1 hgrow1 hat1 hlt1; have hbw := inner_keep hgrow1; have HO1 := HO.out.below hbw (Nat.le_refl _); have d1 := box_later hbw c1 f1 l1; obtain ⟨d2, d3, d4⟩ := d1; have HBW := Lib.hid hbw; have HQ1 := Lib.hid HO1; have HW1 := Lib.hid hown1; have hsz := hbw.size; clear hbw HO1 hown1 hgrow1)
        | (refine step_append_lies _ (by rfl) _ _ _ (by rfl) (w.heap.size + 3) 41 i0 _ 1 24 Try.underlying22 hi hz0 hz1 hz2 rfl (by omega) u qs.length _ (by rfl) (HQ1.out.hdr.alloc _)
            ⟨w1.heap.size, 0, none⟩ 1 1 [.slice (some ⟨g1, 0, none⟩) 8 cap1] (by rfl) (by rfl) (World.news_of_block (cs := #[.slice (some ⟨g1, 0, none⟩) 8 cap1]) (t := 41) (fr := (0, 0)) (heap_alloc_new w1 _)) (by simp [Value.oneCell'])
            (by omega) (by unfold maxLen; omega) (by omega) (by simp; omega) (w1.heap.size + 1) (by simp) ?_; intro gg cap2 w2 hown2 hgrow2 hat2 hlt2; have d5 := box_far1 d2 d3 d4 hgrow2 hub; obtain ⟨d6, d7⟩ := d5)))
      all_goals
        have hg1 : wr.heap.size ≤ g1 := by
          rcases hat1 with h | h
          · simp [Value.ownBlock] at h; omega
          · omega
        have fin := row_added_n HZL.out HO.out HBW.out HW1.out hg1 hown2 hgrow2 hat2 HR.out HS.out (by omega) (by omega) (by omega) HB.out (by omega) (Nat.le_refl _)
        have hbx := box0_keep (x := .slice (some ⟨gg, 0, none⟩) (qs.length + 1) cap2) HB0.out HBW.out hgrow2 HU0.out (show w.heap.size ≠ w.heap.size + 2 by omega)
        have FIN := Lib.hid fin
        have HBX := Lib.hid hbx
        clear fin hbx hown2 hgrow2 hat2 hg1 hat1
        go_wp2
        go_roundw
        case rel =>
          obtain ⟨G', C', q1, q2, q3, q4⟩ := FIN.out
          exact ⟨k + 1, qs ++ [zs], _, G', C', by omega, by go_num, by rw [HQ.out, HZ.out]; exact take_snoc _ _ _ (by rw [HL.out]; exact hlt), q1, q2, q3, q4, HBX.out⟩
        case measure => simp [intOf]; omega
    · obtain ⟨s1, s2, s3⟩ := cell_block HS.out
      have h3 : qs.length = 3 := by rw [HN.out]; omega
      obtain ⟨g, cap', hu, hg1, hg2⟩ := World.ownsRow.form HO.out.hdr (by omega)
      subst hu
      have e3 : qs = rs := by rw [HQ.out, List.take_of_length_le (by rw [HL.out]; omega)]
      have hw := HO.out.grown (grownBy_setCell wr ⟨w.heap.size + 1, 0, none⟩ (.slice (some ⟨g, 0, none⟩) 3 cap')) (fun k e => by simp at e; omega)
      have hb := HB.out.setCell (p := ⟨w.heap.size + 1, 0, none⟩) (by simp) (.slice (some ⟨g, 0, none⟩) 3 cap')
      rw [h3] at hw c1
      rw [e3] at hw
      have H1 := Lib.hid hw
      have H2 := Lib.hid hb
      have H3 := Lib.hid h3
      clear hw hb h3 e3 hub hn3
      go_wp2
      have hr := World.cell?_setCell_same wr ⟨w.heap.size + 1, 0, none⟩ (.slice (some ⟨g, 0, none⟩) 3 cap') s1
      exact bodyPost_ret (v := .agg #[.slice (some ⟨g, 0, none⟩) 3 cap']) (by simp [results, Try.results53, go_sem, hr]) rfl ⟨_, G, C, rfl, H1.out.base (by omega), H2.out⟩

/-- The model's copy of a count that is ok. -/
theorem copy_at (w : World) (u : Value) (rs : List (List Int)) (h : Rws w u rs) (hok : okB rs = true) :
    Calls Try.prog 53 #[.agg #[u]] w fun e w' => ∃ x c G C, e = .returned (.agg #[.slice x 3 c]) ∧ OwnR w' w.heap.size (.slice x 3 c) rs G C ∧ Below w.heap.size w w' := by
  obtain ⟨h3, hg⟩ := (okB_iff rs).1 hok
  obtain ⟨b, o, cap, rfl, _, hb, hrow⟩ := ok_form h hok
  refine (copy_three b o cap rs w h3 (fun i hi => (hg i hi).1) hb hrow).mono fun e w' ⟨u', G, C, he, ho, hb'⟩ => ?_
  obtain ⟨⟨x, c, hx⟩, _⟩ := ho.rws.cases
  rw [h3] at hx
  subst hx
  exact ⟨x, c, G, C, he, ho, hb'⟩

end Go.Proofs.Yteopnbjiffncbab
