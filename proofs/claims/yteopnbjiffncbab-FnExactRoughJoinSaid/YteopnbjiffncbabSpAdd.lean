/-
  The model's RoughAdd.
-/
import Derived.Test.YteopnbjiffncbabCopy
import Derived.Test.YteopnbjiffncbabMark
import Derived.Test.YteopnbjiffncbabLast
import Derived.IntWalk
namespace Go.Proofs.Yteopnbjiffncbab
open Go.RowKit Go.Sort

/-- Row i with n more in the place of the thing t. -/
def addRow (rs : List (List Int)) (t n : Int) (i : Nat) : List Int := (rs.getD i []).set (place i t).toNat (atV rs i t + n)
/-- A thing counted n times more. -/
def addV (rs : List (List Int)) (t n : Int) : List (List Int) := [addRow rs t n 0, addRow rs t n 1, addRow rs t n 2]
/-- Whether it can be counted. -/
def addB (rs : List (List Int)) (t n : Int) : Bool := okB rs && decide (0 ≤ t) && decide (t < 64) && decide (0 ≤ n) && decide (n ≤ 2000 - allV rs)

theorem addB_iff (rs : List (List Int)) (t n : Int) : addB rs t n = true ↔ okB rs = true ∧ 0 ≤ t ∧ t < 64 ∧ 0 ≤ n ∧ n ≤ 2000 - allV rs := by
  simp [addB, and_assoc]

theorem addV_get (rs : List (List Int)) (t n : Int) (i : Nat) (hi : i < 3) : (addV rs t n).getD i [] = addRow rs t n i := by
  rcases (by omega : i = 0 ∨ i = 1 ∨ i = 2) with rfl | rfl | rfl <;> rfl

theorem eq_three {rs qs : List (List Int)} (h : rs.length = 3) (h' : qs.length = 3) (e : ∀ i, i < 3 → rs.getD i [] = qs.getD i []) : rs = qs := by
  have := eq_of_get (d := []) h h' e
  simpa using this

set_option maxHeartbeats 1000000 in
theorem spAdd_no (w : World) (u : Value) (rs : List (List Int)) (t n : Int) (h : Rws w u rs) (hno : addB rs t n = false) :
    Calls Try.prog 23 #[.agg #[u], .int .i64 t, .int .i64 n] w fun e w' => e = .returned (.tuple #[.agg #[.slice none 0 0], .bool false]) ∧ Below w.heap.size w w' := by
  have hA := ((Below.refl w.heap.size w).alloc (Nat.le_refl _) (.cells #[u] 24)).alloc (by simp) (.cells #[.slice none 0 0] 24)
  have K := Lib.hid (spOk_any u rs _ (h.below hA (Nat.le_refl _)))
  have HA := Lib.hid hA
  clear hA
  cases hok : okB rs with
  | false =>
    rw [hok] at K
    obtain ⟨⟨x, c, hx⟩, _⟩ := h.cases
    obtain ⟨m, hn⟩ : ∃ n, n = rs.length := ⟨_, rfl⟩
    rw [← hn] at hx
    subst hx
    clear h hn hok hno
    go_enter Try.func23, Try.ntmps23
    go_wp2_with fail
    refine K.out.mono ?_
    rintro e w1 ⟨rfl, hb1⟩
    have sz := hb1.size
    simp only [World.size_alloc] at sz
    have cb : w1.cell? ⟨w.heap.size + 1, 0, none⟩ = some (.slice none 0 0) := by rw [hb1.cell (by simp)]; simp [go_sem]
    have fb : w1.frozen? ⟨w.heap.size + 1, 0, none⟩ = false := by rw [hb1.frozen (by simp)]; simp [go_sem]
    have L := Lib.hid (HA.out.trans (hb1.mono HA.out.size))
    clear hb1
    go_wp2
    have hr := World.cell?_setCell_same w1 ⟨w.heap.size + 1, 0, none⟩ (.slice none 0 0) cb
    exact bodyPost_ret (v := .tuple #[.agg #[.slice none 0 0], .bool false]) (by simp [results, Try.results23, go_sem, hr]) rfl ⟨rfl, L.out.setCell (by simp) _⟩
  | true =>
    rw [hok] at K
    obtain ⟨b, o, cap, rfl, hcap, hb, hrow⟩ := ok_form h hok
    obtain ⟨b0, o0, c0, e0, l0, r0⟩ := hrow 0 (by omega)
    obtain ⟨_, hg⟩ := (okB_iff rs).1 hok
    have fin : Hid (allV rs = (rs.getD 0 []).sum) := if_pos hok
    obtain ⟨g8, gr, _, _⟩ := hg 0 (by omega)
    have av := allV_ok hok
    generalize rs.getD 0 [] = z0 at g8 gr fin r0
    obtain ⟨S, hS⟩ : ∃ S, S = allV rs := ⟨_, rfl⟩
    rw [← hS] at av fin
    have hno' : (t < 0 ∨ 63 < t) ∨ (0 ≤ t ∧ t ≤ 63 ∧ (n < 0 ∨ 2000 - S < n)) := by
      apply Classical.byContradiction
      intro hh
      have : addB rs t n = true := (addB_iff rs t n).2 ⟨hok, by omega, by omega, by omega, by rw [← hS]; omega⟩
      rw [this] at hno
      cases hno
    have G8 := Lib.hid g8
    have GR := Lib.hid gr
    have e0' : w.cell? ⟨b, o, none⟩ = some (.slice (some ⟨b0, o0, none⟩) 8 c0) := e0
    have R0 := Lib.hid r0
    clear h hrow hok hg g8 gr e0 r0 hno hS
    rcases hno' with ht | ⟨t0, t1, hn⟩
    · go_enter Try.func23, Try.ntmps23
      go_wp2_with fail
      refine K.out.mono ?_
      rintro e w1 ⟨rfl, hb1⟩
      have sz := hb1.size
      simp only [World.size_alloc] at sz
      have cb : w1.cell? ⟨w.heap.size + 1, 0, none⟩ = some (.slice none 0 0) := by rw [hb1.cell (by simp)]; simp [go_sem]
      have fb : w1.frozen? ⟨w.heap.size + 1, 0, none⟩ = false := by rw [hb1.frozen (by simp)]; simp [go_sem]
      have L := Lib.hid (HA.out.trans (hb1.mono HA.out.size))
      clear hb1
      go_wp2_with (go_at_call 50; refine (l6In_no _ _ _ _ ht).mono ?_; rintro e w' ⟨rfl, rfl⟩)
      have hr := World.cell?_setCell_same w1 ⟨w.heap.size + 1, 0, none⟩ (.slice none 0 0) cb
      exact bodyPost_ret (v := .tuple #[.agg #[.slice none 0 0], .bool false]) (by simp [results, Try.results23, go_sem, hr]) rfl ⟨rfl, L.out.setCell (by simp) _⟩
    · go_enter Try.func23, Try.ntmps23
      go_wp2_with fail
      refine K.out.mono ?_
      rintro e w1 ⟨rfl, hb1⟩
      have sz := hb1.size
      simp only [World.size_alloc] at sz
      have cb : w1.cell? ⟨w.heap.size + 1, 0, none⟩ = some (.slice none 0 0) := by rw [hb1.cell (by simp)]; simp [go_sem]
      have ca : w1.cell? ⟨w.heap.size, 0, none⟩ = some (.slice (some ⟨b, o, none⟩) 3 cap) := by rw [hb1.cell (by simp; omega)]; simp [go_sem]
      have fb : w1.frozen? ⟨w.heap.size + 1, 0, none⟩ = false := by rw [hb1.frozen (by simp)]; simp [go_sem]
      have hL := HA.out.trans (hb1.mono HA.out.size)
      rw [← hL.cell (p := ⟨b, o, none⟩) hb] at e0'
      have KC : Hid (Calls Try.prog 51 #[.slice (some ⟨b0, o0, none⟩) 8 c0] w1 fun e w' => e = .returned (.int .i64 S) ∧ w1 = w') := by
        rw [fin.out]
        exact l1Sum_at b0 o0 c0 8 z0 w1 G8.out (by omega) GR.out (fun i hi => by rw [hL.cell (p := ⟨b0, o0 + i, none⟩) l0]; exact R0.out i hi)
      have L := Lib.hid hL
      clear hb1 hL
      go_wp2_with (go_at_call 50; refine (l6In_yes _ _ _ _ t0 t1).mono ?_; rintro e w' ⟨rfl, rfl⟩; clear t1)
      refine KC.out.mono ?_
      rintro e w' ⟨rfl, rfl⟩
      go_wp2_with (go_at_call 50; refine (l6In_no _ _ _ _ hn).mono ?_; rintro e w' ⟨rfl, rfl⟩)
      have hr := World.cell?_setCell_same w1 ⟨w.heap.size + 1, 0, none⟩ (.slice none 0 0) cb
      exact bodyPost_ret (v := .tuple #[.agg #[.slice none 0 0], .bool false]) (by simp [results, Try.results23, go_sem, hr]) rfl ⟨rfl, L.out.setCell (by simp) _⟩

theorem OwnR.hdrCell {w : World} {B g c n : Nat} {rs : List (List Int)} {G C : Nat → Nat} (h : OwnR w B (.slice (some ⟨g, 0, none⟩) n c) rs G C) (hn : rs.length = n) (i : Nat) (hi : i < n) :
    w.cell? ⟨g, i, none⟩ = some (.slice (some ⟨G i, 0, none⟩) (rs.getD i []).length (C i)) := by
  have hh := h.hdr
  rw [hn] at hh
  have := hh.cellAt i (by omega)
  rw [this, List.getElem?_map, List.getElem?_range hi]
  rfl
theorem OwnR.rowCell {w : World} {B : Nat} {u : Value} {rs : List (List Int)} {G C : Nat → Nat} (h : OwnR w B u rs G C) (i k : Nat) (hi : i < rs.length) (hk : k < (rs.getD i []).length) :
    w.cell? ⟨G i, k, none⟩ = some (.int .i64 ((rs.getD i []).getD k 0)) ∧ w.frozen? ⟨G i, k, none⟩ = false := by
  have hr := h.row i hi
  exact ⟨by rw [World.ownsRow.cellAt hr k (by omega), ints_get _ _ hk], World.ownsRow.frozenAt hr k⟩

set_option maxHeartbeats 2000000 in
theorem spAdd_yes (w : World) (u : Value) (rs : List (List Int)) (t n : Int) (h : Rws w u rs) (hyes : addB rs t n = true) :
    Calls Try.prog 23 #[.agg #[u], .int .i64 t, .int .i64 n] w fun e w' => ∃ x c G C, e = .returned (.tuple #[.agg #[.slice x 3 c], .bool true]) ∧ OwnR w' w.heap.size (.slice x 3 c) (addV rs t n) G C ∧ Below w.heap.size w w' := by
  obtain ⟨hok, t0, t1, n0, n1⟩ := (addB_iff rs t n).1 hyes
  have hA := ((Below.refl w.heap.size w).alloc (Nat.le_refl _) (.cells #[u] 24)).alloc (by simp) (.cells #[.slice none 0 0] 24)
  have K := Lib.hid (spOk_any u rs _ (h.below hA (Nat.le_refl _)))
  have HA := Lib.hid hA
  rw [hok] at K
  have HRW := Lib.hid h
  obtain ⟨b, o, cap, rfl, hcap, hb, hrow⟩ := ok_form h hok
  obtain ⟨b0, o0, c0, e0, l0, r0⟩ := hrow 0 (by omega)
  obtain ⟨h3, hg⟩ := (okB_iff rs).1 hok
  have fin : Hid (allV rs = (rs.getD 0 []).sum) := if_pos hok
  obtain ⟨g8, gr, _, _⟩ := hg 0 (by omega)
  have av := allV_ok hok
  have HG := Lib.hid hg
  have H3 := Lib.hid h3
  have HOK := Lib.hid hok
  have t1' : t ≤ 63 := by omega
  generalize hz : rs.getD 0 [] = z0 at g8 gr fin r0
  clear hz
  obtain ⟨S, hS⟩ : ∃ S, S = allV rs := ⟨_, rfl⟩
  rw [← hS] at av fin n1
  have nU : n ≤ 2000 := by omega
  have G8 := Lib.hid g8
  have GR := Lib.hid gr
  have e0' : w.cell? ⟨b, o, none⟩ = some (.slice (some ⟨b0, o0, none⟩) 8 c0) := e0
  have R0 := Lib.hid r0
  clear h hrow hok hg g8 gr e0 r0 hS hyes hA h3
  go_enter Try.func23, Try.ntmps23
  go_wp2_with fail
  refine K.out.mono ?_
  rintro e w1 ⟨rfl, hb1⟩
  have sz := hb1.size
  simp only [World.size_alloc] at sz
  have cb : w1.cell? ⟨w.heap.size + 1, 0, none⟩ = some (.slice none 0 0) := by rw [hb1.cell (by simp)]; simp [go_sem]
  have ca : w1.cell? ⟨w.heap.size, 0, none⟩ = some (.slice (some ⟨b, o, none⟩) 3 cap) := by rw [hb1.cell (by simp; omega)]; simp [go_sem]
  have fb : w1.frozen? ⟨w.heap.size + 1, 0, none⟩ = false := by rw [hb1.frozen (by simp)]; simp [go_sem]
  have hL := HA.out.trans (hb1.mono HA.out.size)
  rw [← hL.cell (p := ⟨b, o, none⟩) hb] at e0'
  have KC : Hid (Calls Try.prog 51 #[.slice (some ⟨b0, o0, none⟩) 8 c0] w1 fun e w' => e = .returned (.int .i64 S) ∧ w1 = w') := by
    rw [fin.out]
    exact l1Sum_at b0 o0 c0 8 z0 w1 G8.out (by omega) GR.out (fun i hi => by rw [hL.cell (p := ⟨b0, o0 + i, none⟩) l0]; exact R0.out i hi)
  have KCopy := Lib.hid (copy_at w1 _ rs (HRW.out.below hL (Nat.le_refl _)) HOK.out)
  have L := Lib.hid hL
  clear hb1 hL
  go_wp2_with (go_at_call 50; refine (l6In_yes _ _ _ _ t0 t1').mono ?_; rintro e w' ⟨rfl, rfl⟩; clear t1')
  refine KC.out.mono ?_
  rintro e w' ⟨rfl, rfl⟩
  go_wp2_with (go_at_call 50; refine (l6In_yes _ _ _ _ n0 n1).mono ?_; rintro e w' ⟨rfl, rfl⟩; clear n1)
  go_wp2_with fail
  refine KCopy.out.mono ?_
  rintro e w2 ⟨x, c, G, C, rfl, ho, hb2⟩
  obtain ⟨g, c', hu, hg1, hg2⟩ := World.ownsRow.form ho.hdr (by rw [H3.out]; omega)
  rw [H3.out] at hu
  obtain ⟨rfl, rfl⟩ : x = some ⟨g, 0, none⟩ ∧ c = c' := by simpa using hu
  clear hu
  have cb2 := cell_later hb2 cb
  have fb2 : w2.frozen? ⟨w.heap.size + 1, 0, none⟩ = false := by rw [hb2.frozen (p := ⟨w.heap.size + 1, 0, none⟩) (by simp; omega)]; exact fb
  have sz2 := hb2.size
  have L2 := Lib.hid (L.out.trans (hb2.mono L.out.size))
  have HO2 := Lib.hid ho
  clear ho hb2 cb fb ca e0'
  have hz := fun (i : Nat) (hi : i < 3) => (HG.out i hi).1
  have H8 := Lib.hid hz
  have AB := Lib.hid (fun (i : Nat) (hi : i < 3) => atV_bd HOK.out i hi t)
  clear hz
  go_wp2
  go_loopw [9] (fun i wr => ∃ (k : Nat) (qs : List (List Int)), k ≤ 3 ∧ i = .int .i64 k ∧ qs.length = 3 ∧ (∀ j, j < 3 → qs.getD j [] = if j < k then addRow rs t n j else rs.getD j []) ∧
      OwnR wr w1.heap.size (.slice (some ⟨g, 0, none⟩) 3 c) qs G C ∧ wr.cell? ⟨w2.heap.size, 0, none⟩ = some (.slice (some ⟨g, 0, none⟩) 3 c) ∧
      wr.cell? ⟨w.heap.size + 1, 0, none⟩ = some (.slice none 0 0) ∧ wr.frozen? ⟨w.heap.size + 1, 0, none⟩ = false ∧ Below w.heap.size w wr ∧ w2.heap.size < wr.heap.size) (fun i _ => 3 - (intOf i).toNat)
  case atStart =>
    have l1 : w.heap.size + 1 < w2.heap.size := by omega
    exact ⟨0, rs, Nat.zero_le _, rfl, H3.out, fun j hj => by simp, HO2.out.below ((Below.refl _ _).alloc (Nat.le_refl _) _) (Nat.le_refl _), by simp, by rw [World.cell?_alloc_past _ _ _ l1]; exact cb2,
      by rw [World.frozen?_alloc_past _ _ _ l1]; exact fb2, L2.out.alloc L2.out.size _, by simp⟩
  case round =>
    obtain ⟨k, qs, hk, rfl, hq3, hqs, hown, hbox, cr, fr, hbl, hlt2⟩ := hrel
    have HQ3 := Lib.hid hq3
    have HQ := Lib.hid hqs
    have HO := Lib.hid hown
    have HB := Lib.hid hbl
    clear hq3 hqs hown hbl
    by_cases hlt : k < 3
    · obtain ⟨P, hP, hP8, hPn⟩ := place_nat (k : Int) t
      have hqk : qs.getD k [] = rs.getD k [] := by rw [HQ.out k hlt, if_neg (by omega)]
      have hc1 := HO.out.hdrCell HQ3.out k hlt
      rw [hqk, H8.out k hlt] at hc1
      have hc2 := HO.out.rowCell k P (by rw [HQ3.out]; exact hlt) (by rw [hqk, H8.out k hlt]; exact hP8)
      have ha : (qs.getD k []).getD P 0 = atV rs k t := by rw [hqk]; unfold atV; rw [hPn]
      rw [ha] at hc2
      obtain ⟨a0, a1⟩ := AB.out k hlt
      have K1 : Hid (∀ W, Calls Try.prog 54 #[.int .i64 k, .int .i64 t] W fun e w' => e = .returned (.int .i64 P) ∧ Below W.heap.size W w') := fun W => by
        rw [← hP]; exact l1Place_yes k t W (by omega) (by omega) t0 t1
      have hst : ∀ w4 : World, Below wr.heap.size wr w4 → ∃ qs', qs'.length = 3 ∧ (∀ j, j < 3 → qs'.getD j [] = if j < k + 1 then addRow rs t n j else rs.getD j []) ∧
          OwnR (w4.setCell ⟨G k, P, none⟩ (.int .i64 (atV rs k t + n))) w1.heap.size (.slice (some ⟨g, 0, none⟩) 3 c) qs' G C ∧ w4.grownBy (w4.setCell ⟨G k, P, none⟩ (.int .i64 (atV rs k t + n))) (some (G k)) := fun w4 hw4 => by
        have q := (HO.out.below hw4 (Nat.le_refl _)).store k P (atV rs k t + n) (by rw [HQ3.out]; exact hlt) (by rw [hqk, H8.out k hlt]; exact hP8)
        refine ⟨_, by simpa using HQ3.out, fun j hj => ?_, q.1, q.2⟩
        by_cases e : j = k
        · subst e
          rw [if_pos (by omega)]
          unfold addRow
          rw [hPn, hqk]
          simp [HQ3.out, hlt]
        · have e1 : (qs.set k ((qs.getD k []).set P (atV rs k t + n))).getD j [] = qs.getD j [] := by simp [Ne.symm e]
          rw [e1, HQ.out j hj]
          by_cases e2 : j < k
          · rw [if_pos e2, if_pos (by omega)]
          · rw [if_neg e2, if_neg (by omega)]
      have HST := Lib.hid hst
      have HGk : Hid (w1.heap.size ≤ G k ∧ G k < w2.heap.size) := ⟨((HO.out.row k (by rw [HQ3.out]; exact hlt)).lt (G k) rfl).1, ((HO2.out.row k (by rw [H3.out]; exact hlt)).lt (G k) rfl).2⟩
      obtain ⟨a, hA⟩ : ∃ a, a = atV rs k t := ⟨_, rfl⟩
      rw [← hA] at hc2 HST a0 a1
      obtain ⟨hc2, hf2⟩ := hc2
      have lgk : G k < wr.heap.size := World.block_lt_of_cell? _ _ hc2
      have rb := cell_regrown hbox
      have r1 := cell_regrown hc1
      have r2 := cell_regrown hc2
      have k0 : (0 : Int) ≤ (k : Int) := by omega
      have k3 : (k : Int) < 3 := by omega
      have P8 : (P : Int) < 8 := by omega
      have wr1 : IntKind.i64.wrap (a + n) = a + n := IntWalk.i64_in _ (by omega)
      clear hP hPn hst hA ha hqk hP8
      go_wp2
      refine wp_region_last (C := fun w' => ∃ p : Regrown, w' = grow (redrawn wr p.d) p.os) 21 _ rfl rfl rfl (by kernel_rfl) (by kernel_rfl) (by kernel_rfl) (by kernel_rfl) (by kernel_rfl) ⟨⟨wr.drawn + 1, #[]⟩, by rw [grow_empty]; rfl⟩ ?_
      simp only [List.take_succ_cons, List.take_zero]
      repeat (refine boxed_step (fun K hK => ?_); go_simp; first | (refine hK _ ?_; clear hK K) | (apply Exists.intro; refine ⟨fun _ => ?_, hK _ ?_⟩; (exact Calls.regrown_of (K1.out _)); clear hK K))
      refine boxed_nil ?_
      intro _ hw'
      obtain ⟨⟨dq, oq⟩, hw''⟩ := hw'
      subst hw''
      have hb_w4 := below_regrown wr dq oq
      obtain ⟨w4, hq_w4⟩ : ∃ x, x = grow (redrawn wr dq) oq := ⟨_, rfl⟩
      rw [← hq_w4] at hb_w4 ⊢
      clear hq_w4
      have d1 := cell_later hb_w4 hc2
      have d2 : w4.frozen? ⟨G k, P, none⟩ = false := by rw [hb_w4.frozen (p := ⟨G k, P, none⟩) lgk]; exact hf2
      have HB4 := Lib.hid hb_w4
      clear hb_w4 rb r1 r2 wr1 hc1 hc2
      go_wp2
      go_roundw
      case rel =>
        obtain ⟨qs', q1, q2, q3, q4⟩ := HST.out w4 HB4.out
        have lw2 : w2.heap.size < w4.heap.size := by have := HB4.out.size; omega
        have e2 : G k ≠ w2.heap.size := by have := HGk.out.2; omega
        have e1 : G k ≠ w.heap.size + 1 := by have := HGk.out.1; omega
        refine ⟨k + 1, qs', by omega, by go_num, q1, q2, q3, ?_, ?_, ?_, ?_, by simpa using lw2⟩
        · exact (World.cell?_setCell_other (h := fun h => by injection h with h; exact e2 h) ..).trans (cell_later HB4.out hbox)
        · exact (World.cell?_setCell_other (h := fun h => by injection h with h; exact e1 h) ..).trans (cell_later HB4.out cr)
        · rw [World.frozen?_setCell, HB4.out.frozen (p := ⟨w.heap.size + 1, 0, none⟩) (by simp; omega)]; exact fr
        · exact (HB.out.trans (HB4.out.mono HB.out.size)).setCell (by have := HGk.out.1; simp; omega) _
      case measure => simp [intOf]; omega
    · have hq : qs = addV rs t n := eq_three HQ3.out rfl (fun i hi => by rw [HQ.out i hi, if_pos (by omega), addV_get _ _ _ _ hi])
      have HE := Lib.hid hq
      clear hq
      go_wp2
      have hr := World.cell?_setCell_same wr ⟨w.heap.size + 1, 0, none⟩ (.slice (some ⟨g, 0, none⟩) 3 c) cr
      have hw := HO.out.grown (grownBy_setCell wr ⟨w.heap.size + 1, 0, none⟩ (.slice (some ⟨g, 0, none⟩) 3 c)) (fun k e => by simp at e; omega)
      rw [HE.out] at hw
      exact bodyPost_ret (v := .tuple #[.agg #[.slice (some ⟨g, 0, none⟩) 3 c], .bool true]) (by simp [results, Try.results23, go_sem, hr]) rfl
        ⟨_, _, G, C, rfl, hw.base (by omega), HB.out.setCell (by simp) _⟩

end Go.Proofs.Yteopnbjiffncbab
