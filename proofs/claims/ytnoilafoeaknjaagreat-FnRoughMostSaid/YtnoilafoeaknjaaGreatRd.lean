/-
  Several texts in one: DRough.
-/
import Derived.Test.YtnoilafoeaknjaaGreatRc
import Derived.Test.YtnoilafoeaknjaaGreatRe
import Derived.Test.YtnoilafoeaknjaaGreatDr
set_option linter.unusedVariables false
/-
  A rough count that is drawn from a code: it reads as some rows; of the reader only the place moves on.
-/
namespace Go.Proofs.YtnoilafoeaknjaaGreat
open Go.RowKit Go.Sort

/-- The value u reads as the rows rs in w, and in every world that agrees with w on the blocks from B on. -/
def RwsIn (B : Nat) (w : World) (u : Value) (rs : List (List Int)) : Prop := ∀ W : World, (∀ k, B ≤ k → k < w.heap.size → W.heap[k]? = w.heap[k]?) → w.heap.size ≤ W.heap.size → Rws W u rs
theorem RwsIn.rws {B : Nat} {w : World} {u : Value} {rs : List (List Int)} (h : RwsIn B w u rs) : Rws w u rs := h w (fun _ _ _ => rfl) (Nat.le_refl _)
theorem ownsRow_of {w W : World} {B : Nat} {e : TypeId} {size : Nat} {v : Value} {n : Nat} {xs : List Value} (h : w.ownsRow B e size v n xs) (hk : ∀ k, B ≤ k → k < w.heap.size → W.heap[k]? = w.heap[k]?) : W.ownsRow B e size v n xs := by
  obtain ⟨h1, h2⟩ := h
  refine ⟨h1, ?_⟩
  rcases h2 with h2 | ⟨g, cap, cur, hv, hb, hh, r⟩
  · exact .inl h2
  · exact .inr ⟨g, cap, cur, hv, hb, by rw [hk g hb (Array.getElem?_eq_some_iff.1 hh).1]; exact hh, r⟩
theorem OwnR.within {w : World} {B B' : Nat} {u : Value} {rs : List (List Int)} {G C : Nat → Nat} (h : OwnR w B u rs G C) (hB : B' ≤ B) : RwsIn B' w u rs := fun W hk _ =>
  (⟨ownsRow_of h.hdr (fun k h1 h2 => hk k (by omega) h2), fun i hi => ownsRow_of (h.row i hi) (fun k h1 h2 => hk k (by omega) h2), h.off, h.apart⟩ : OwnR W B u rs G C).rws

theorem drawAdd (w : World) (u : Value) (rs : List (List Int)) (t n : Int) (h : Rws w u rs) (hok : okB rs = true) (hall : allV rs ≤ 1000) (t0 : 0 ≤ t) (t1 : t < 64) (n0 : 0 ≤ n) (n1 : n ≤ 1000) :
    Calls Tryz.prog 103 #[.agg #[u], .int .i64 t, .int .i64 n] w fun e w' => ∃ g c G C, e = .returned (.tuple #[.agg #[.slice (some ⟨g, 0, none⟩) 3 c], .bool true]) ∧
      OwnR w' w.heap.size (.slice (some ⟨g, 0, none⟩) 3 c) (addV rs t n) G C ∧ Below w.heap.size w w' ∧ okB (addV rs t n) = true ∧ allV (addV rs t n) = allV rs + n := by
  have hb : addB rs t n = true := (addB_iff rs t n).2 ⟨hok, t0, t1, n0, by omega⟩
  refine (spAdd_yes w u rs t n h hb).mono fun e w' ⟨x, c, G, C, he, ho, hbl⟩ => ?_
  obtain ⟨g, c', hu, _, _⟩ := World.ownsRow.form ho.hdr (by simp [addV])
  have e3 : (addV rs t n).length = 3 := rfl
  rw [e3] at hu
  obtain ⟨rfl, rfl⟩ : x = some ⟨g, 0, none⟩ ∧ c = c' := by simpa using hu
  exact ⟨g, c, G, C, he, ho, hbl, okB_add hb⟩

theorem addTrue (w : World) (u : Value) (rs : List (List Int)) (t n : Int) (h : Rws w u rs) (hb : addB rs t n = true) :
    Calls Tryz.prog 103 #[.agg #[u], .int .i64 t, .int .i64 n] w fun e w' => ∃ g c G C, e = .returned (.tuple #[.agg #[.slice (some ⟨g, 0, none⟩) 3 c], .bool true]) ∧
      OwnR w' w.heap.size (.slice (some ⟨g, 0, none⟩) 3 c) (addV rs t n) G C ∧ Below w.heap.size w w' ∧ okB (addV rs t n) = true := by
  refine (spAdd_yes w u rs t n h hb).mono fun e w' ⟨x, c, G, C, he, ho, hbl⟩ => ?_
  obtain ⟨g, c', hu, _, _⟩ := World.ownsRow.form ho.hdr (by simp [addV])
  have e3 : (addV rs t n).length = 3 := rfl
  rw [e3] at hu
  obtain ⟨rfl, rfl⟩ : x = some ⟨g, 0, none⟩ ∧ c = c' := by simpa using hu
  exact ⟨g, c, G, C, he, ho, hbl, (okB_add hb).1⟩
theorem far_one {w w1 : World} {o : Obj} {b i : Nat} {u : Value} {row : Option Nat} (c : w.cell? ⟨b, i, none⟩ = some u) (l : b < w.heap.size) (hg : (w.alloc o).drew.grownBy w1 row) (hr : row ≠ some b) : w1.cell? ⟨b, i, none⟩ = some u := by
  have l1 : b < (w.alloc o).drew.heap.size := by simp; omega
  rw [hg.cell_far ⟨b, i, none⟩ l1 (Ne.symm hr), World.cell?_drew, World.cell?_alloc_past _ _ _ l]; exact c
theorem far_free {w w1 : World} {o : Obj} {b i : Nat} {row : Option Nat} (f : w.frozen? ⟨b, i, none⟩ = false) (l : b < w.heap.size) (hg : (w.alloc o).drew.grownBy w1 row) (hr : row ≠ some b) : w1.frozen? ⟨b, i, none⟩ = false := by
  have l1 : b < (w.alloc o).drew.heap.size := by simp; omega
  rw [hg.frozen_far ⟨b, i, none⟩ l1 (Ne.symm hr), World.frozen?_drew, World.frozen?_alloc_past _ _ _ l]; exact f
theorem else_far {w w2 w3 : World} {a r : Nat} (h : Else a w w2) (hg : w2.drew.grownBy w3 (some r)) (hr : w.heap.size ≤ r) : Else a w w3 :=
  ⟨hg.os.trans h.os, hg.tape.trans h.tape, hg.output.trans h.output, Nat.le_trans h.size hg.size, fun k hk hne => (hg.block k (Nat.lt_of_lt_of_le hk h.size) (by simp; omega)).trans (h.block k hk hne)⟩

theorem longer {w2 w3 w4 : World} {o : Obj} {B g c gg cap : Nat} {rs : List (List Int)} {G C : Nat → Nat} (own : OwnR w2 B (.slice (some ⟨g, 0, none⟩) 3 c) rs G C) (h3 : rs.length = 3) (r8 : (rs.getD 1 []).length = 8)
    (hgrow : (w2.alloc o).drew.grownBy w3 (some (G 1))) (hown : w3.ownsRow B 3 1 (.slice (some ⟨gg, 0, none⟩) 9 cap) 9 (ints (rs.getD 1 []) ++ [.int .i64 0])) (hgg : gg ≠ g) (hlt : gg < w3.heap.size)
    (hk : ∀ k, B ≤ k → k < w3.heap.size → w4.heap[k]? = (w3.setCell ⟨g, 1, none⟩ (.slice (some ⟨gg, 0, none⟩) 9 cap)).heap[k]?) (hs : w3.heap.size ≤ w4.heap.size) :
    Rws w4 (.slice (some ⟨g, 0, none⟩) 3 c) (rs.set 1 (rs.getD 1 [] ++ [0])) := by
  have hg := own.hdr_lt g rfl
  have sz : w2.heap.size + 1 ≤ w3.heap.size := by have := hgrow.size; simpa using this
  have hoff : g ≠ G 1 := fun e => own.off 1 (by omega) (by rw [← e]; rfl)
  have len : (rs.set 1 (rs.getD 1 [] ++ [0])).length = 3 := by simpa using h3
  have cap3 : 3 ≤ c ∧ c ≤ maxLen := by
    rcases own.hdr.2 with ⟨h, _⟩ | ⟨_, _, _, h, _, _, h', hm, _⟩
    · cases h
    · have e := (Value.slice.inj h).2.2; omega
  have toG : ∀ i, i < 3 → w4.cell? ⟨g, i, none⟩ = (w3.setCell ⟨g, 1, none⟩ (.slice (some ⟨gg, 0, none⟩) 9 cap)).cell? ⟨g, i, none⟩ := fun i _ =>
    World.cell?_of_block (w := w3.setCell ⟨g, 1, none⟩ (.slice (some ⟨gg, 0, none⟩) 9 cap)) (hk g (by omega) (by omega))
  have old : ∀ i, i < 3 → w3.cell? ⟨g, i, none⟩ = some (.slice (some ⟨G i, 0, none⟩) (rs.getD i []).length (C i)) := fun i hi => far_one (own.hdrCell h3 i hi) hg.2 hgrow (by simp; exact fun h => hoff h.symm)
  refine .inr ⟨g, 0, c, by rw [len], by rw [len]; exact cap3.1, cap3.2, by omega, fun i hi => ?_⟩
  rw [len] at hi
  rw [Nat.zero_add, toG i hi]
  by_cases e : i = 1
  · subst e
    have e1 : (rs.set 1 (rs.getD 1 [] ++ [0])).getD 1 [] = rs.getD 1 [] ++ [0] := by simp [h3]
    refine ⟨_, World.cell?_setCell_same _ _ _ (old 1 hi), ?_⟩
    rw [e1]
    have hl : (rs.getD 1 [] ++ [0]).length = 9 := by rw [List.length_append, r8]; rfl
    have hi' : ints (rs.getD 1 [] ++ [0]) = ints (rs.getD 1 []) ++ [.int .i64 0] := by simp [ints]
    have : w4.ownsRow B 3 1 (.slice (some ⟨gg, 0, none⟩) (rs.getD 1 [] ++ [0]).length cap) (rs.getD 1 [] ++ [0]).length (ints (rs.getD 1 [] ++ [0])) := by
      rw [hl, hi']
      refine ⟨hown.1, ?_⟩
      rcases hown.2 with ⟨h, _⟩ | ⟨g', cap', cur, hv, hb, hh, r⟩
      · cases h
      · have e3 : g' = gg := by have := (Value.slice.inj hv).1; simpa using this.symm
        subst e3
        exact .inr ⟨g', cap', cur, hv, hb, by rw [hk g' hb hlt, heap_setCell_other w3 ⟨g, 1, none⟩ g' _ hgg]; exact hh, r⟩
    have h := ownI_ints this
    rw [hl] at h
    exact h
  · have e1 : (rs.set 1 (rs.getD 1 [] ++ [0])).getD i [] = rs.getD i [] := by simp [Ne.symm e]
    have hrow := own.row i (by omega)
    have hl := hrow.lt (G i) rfl
    have ap := own.apart i 1 (by omega) (by omega) e
    have offi : G i ≠ g := fun h => own.off i (by omega) (by rw [h]; rfl)
    refine ⟨_, (World.cell?_setCell_other (h := fun h => by injection h; omega) ..).trans (old i hi), ?_⟩
    rw [e1]
    have : w4.ownsRow B 3 1 (rowV rs G C i) (rs.getD i []).length (ints (rs.getD i [])) := by
      refine ⟨hrow.1, ?_⟩
      rcases hrow.2 with ⟨h, _⟩ | ⟨g', cap', cur, hv, hb, hh, r⟩
      · cases h
      · have e3 : g' = G i := by have := (Value.slice.inj hv).1; simpa using this.symm
        subst e3
        have f1 : (w2.alloc o).drew.heap[G i]? = some (.cells cur 3 (0, 0)) := (heap_alloc_old w2 o hl.2).trans hh
        have f2 : w3.heap[G i]? = some (.cells cur 3 (0, 0)) := block_keep f1 hgrow (by simp; exact Ne.symm ap)
        exact .inr ⟨G i, cap', cur, hv, hb, by rw [hk (G i) (by omega) (by omega), heap_setCell_other w3 ⟨g, 1, none⟩ (G i) _ offi]; exact f2, r⟩
    exact ownI_ints this

/-- What holds of the count that is drawn, while it is: it lies behind the box R. -/
structure Drawn (w : World) (B R a : Nat) (pos : Int) (top : Int) (g c : Nat) (rs : List (List Int)) (G C : Nat → Nat) : Prop where
  own : OwnR w B (.slice (some ⟨g, 0, none⟩) 3 c) rs G C
  ok : okB rs = true
  all : allV rs ≤ top
  rd : Rd w a pos
  box : w.cell? ⟨R, 0, none⟩ = some (.slice (some ⟨g, 0, none⟩) 3 c)
  free : w.frozen? ⟨R, 0, none⟩ = false
  res : w.cell? ⟨B - 1, 0, none⟩ = some (.slice none 0 0)
  resFree : w.frozen? ⟨B - 1, 0, none⟩ = false
  apart : g ≠ R ∧ ∀ i, i < 3 → G i ≠ R

theorem Drawn.else_ {w w' : World} {B R a : Nat} {pos pos' top : Int} {g c : Nat} {rs : List (List Int)} {G C : Nat → Nat} (h : Drawn w B R a pos top g c rs G C) (hg : w.grownBy w' (some a)) (hr : Rd w' a pos') (haB : a < B - 1) (hBR : B ≤ R) :
    Drawn w' B R a pos' top g c rs G C :=
  ⟨h.own.grown hg (fun k e => by cases e; omega), h.ok, h.all, hr, hg.cell h.box (by simp; omega), (hg.frozen_far ⟨R, 0, none⟩ (World.block_lt_of_cell? _ _ h.box) (by simp; omega)).trans h.free,
    hg.cell h.res (by simp; omega), (hg.frozen_far ⟨B - 1, 0, none⟩ (World.block_lt_of_cell? _ _ h.res) (by simp; omega)).trans h.resFree, h.apart⟩

theorem Drawn.drew {w : World} {B R a : Nat} {pos top : Int} {g c : Nat} {rs : List (List Int)} {G C : Nat → Nat} (h : Drawn w B R a pos top g c rs G C) : Drawn w.drew B R a pos top g c rs G C :=
  ⟨⟨h.own.hdr, h.own.row, h.own.off, h.own.apart⟩, h.ok, h.all, h.rd, h.box, h.free, h.res, h.resFree, h.apart⟩

/-- The count is another one, in new memory, and its box holds it. -/
theorem Drawn.put {w w' : World} {B R a : Nat} {pos top top' : Int} {g c g' c' : Nat} {rs rs' : List (List Int)} {G C G' C' : Nat → Nat} (h : Drawn w B R a pos top g c rs G C) (ho : OwnR w' w.heap.size (.slice (some ⟨g', 0, none⟩) 3 c') rs' G' C') (hb : Below w.heap.size w w')
    (hok : okB rs' = true) (hall : allV rs' ≤ top') (haB : a < B - 1) (hBR : B ≤ R) :
    Drawn (w'.setCell ⟨R, 0, none⟩ (.slice (some ⟨g', 0, none⟩) 3 c')) B R a pos top' g' c' rs' G' C' := by
  have lR := World.block_lt_of_cell? _ _ h.box
  have lB := World.block_lt_of_cell? _ _ h.res
  have la := h.rd.lt
  simp only at lR lB
  have hs := grownBy_setCell w' ⟨R, 0, none⟩ (.slice (some ⟨g', 0, none⟩) 3 c')
  have hg' := (ho.hdr_lt g' rfl).1
  have rd' := h.rd.below hb (Nat.le_refl _)
  refine ⟨(ho.grown hs (fun k e => by simp at e; omega)).base (by omega), hok, hall, rd'.grown hs (fun k e => by simp at e; omega), World.cell?_setCell_same _ _ _ (cell_later hb h.box),
    by rw [World.frozen?_setCell, hb.frozen (p := ⟨R, 0, none⟩) lR]; exact h.free, ?_, by rw [World.frozen?_setCell, hb.frozen (p := ⟨B - 1, 0, none⟩) lB]; exact h.resFree, by omega, fun i hi => ?_⟩
  · exact (World.cell?_setCell_other (h := by simp <;> omega) ..).trans (cell_later hb h.res)
  · have h3 := ((okB_iff rs').1 hok).1
    have := ((ho.row i (by omega)).lt (G' i) rfl).1
    omega

set_option maxHeartbeats 4000000 in
theorem rough_at (w : World) (a : Nat) (p : Int) (h : Rd w a p) (hp : 0 ≤ p) (hp' : p ≤ 80000) :
    Calls Tryz.prog 79 #[.pointer (some ⟨a, 0, none⟩)] w fun e w' => ∃ x m c rs q, e = .returned (.agg #[.slice x m c]) ∧ RwsIn w.heap.size w' (.slice x m c) rs ∧ p ≤ q ∧ q ≤ p + 30 ∧ Rd w' a q ∧ w.grownBy w' (some a) := by
  have HR := Lib.hid h
  have hlt := h.lt
  clear h
  go_enter Tryz.func79, Tryz.ntmps79
  go_wp2_with fail
  refine (spNew_at _).mono ?_
  rintro e w1 ⟨u, G, C, rfl, ho, hb1⟩
  obtain ⟨g, c', hu, hg1, hg2⟩ := World.ownsRow.form ho.hdr (show 0 < zero3.length from by simp [zero3])
  have h3 : zero3.length = 3 := rfl
  rw [h3] at hu
  subst hu
  have sz := hb1.size
  simp only [World.size_alloc] at sz hg1
  have cr : w1.cell? ⟨w.heap.size, 0, none⟩ = some (.slice none 0 0) := by rw [hb1.cell (by simp)]; simp
  have fr : w1.frozen? ⟨w.heap.size, 0, none⟩ = false := by rw [hb1.frozen (by simp)]; simp
  have hL := ((Below.refl w.heap.size w).alloc (Nat.le_refl _) (.cells #[.slice none 0 0] 27)).trans (hb1.mono (by simp))
  have R1 := Lib.hid (HR.out.below hL (Nat.le_refl _))
  have E1 := Lib.hid ((Else.refl a w).below hL)
  have HO1 := Lib.hid ho.rws
  have D1 : Hid (Drawn (w1.alloc (.cells #[.slice (some ⟨g, 0, none⟩) 3 c'] 27)) (w.heap.size + 1) w1.heap.size a p 0 g c' zero3 G C) := by
    have hA := (Below.refl w1.heap.size w1).alloc (Nat.le_refl _) (.cells #[.slice (some ⟨g, 0, none⟩) 3 c'] 27)
    refine ⟨by simpa using ho.below hA (Nat.le_refl _), zero3_ok.1, by rw [zero3_ok.2]; omega, R1.out.alloc _, by simp, by simp, ?_, ?_, ?_, fun i hi => ?_⟩
    · rw [hA.cell (p := ⟨w.heap.size + 1 - 1, 0, none⟩) (by simp; omega)]; exact cr
    · rw [hA.frozen (p := ⟨w.heap.size + 1 - 1, 0, none⟩) (by simp; omega)]; exact fr
    · omega
    · have := ((ho.row i hi).lt (G i) rfl).2; omega
  have E1' := Lib.hid (E1.out.trans (World.grownBy_alloc w1 (.cells #[.slice (some ⟨g, 0, none⟩) 3 c'] 27) (some a)))
  clear ho hb1 hL h3 cr fr
  go_wp2_with fail
  refine (pick_at _ a p 12 D1.out.rd hp (by omega) (by omega) (by omega)).mono ?_
  rintro e w2 ⟨k, rfl, k0, k1, hr2, hg2'⟩
  have D2 := Lib.hid (D1.out.else_ hg2' hr2 (by omega) (by omega))
  have E2 := Lib.hid (E1'.out.trans hg2')
  have hBR : w.heap.size + 1 ≤ w1.heap.size := by omega
  clear hr2 hg2' D1 E1' HO1 R1 E1 hg1 hg2
  go_wp2
  go_loopw [4] (fun i wr => ∃ (j pos : Int) (g c : Nat) (rs : List (List Int)) (G C : Nat → Nat), i = .int .i64 j ∧ 0 ≤ j ∧ j ≤ 11 ∧ p + 1 ≤ pos ∧ pos ≤ p + 1 + 2 * (11 - j) ∧ Drawn wr (w.heap.size + 1) w1.heap.size a pos (8 * (11 - j)) g c rs G C ∧ Else a w wr) (fun i _ => (intOf i).toNat)
  case atStart => exact ⟨k, p + 1, g, c', zero3, G, C, rfl, k0, by omega, by omega, by omega, ⟨D2.out.own, D2.out.ok, by have := D2.out.all; omega, D2.out.rd, D2.out.box, D2.out.free, D2.out.res, D2.out.resFree, D2.out.apart⟩, E2.out⟩
  case round =>
    clear D2 E2 k0 k1
    obtain ⟨j, pos, g, c, rs, G, C, rfl, j0, j1, p0, p1, hd, he⟩ := hrel
    have HD := Lib.hid hd.drew
    have HE := Lib.hid he
    have cb := hd.box
    clear hd he
    by_cases hj : 0 < j
    · go_wp2
      go_region_with (first
        | (go_at_call 78; (with_reducible refine (pick_at _ a pos 64 HD.out.rd (by omega) (by omega) (by omega) (by omega)).mono ?_); rintro e w3 ⟨k1, rfl, k10, k11, hr3, hg3⟩; have D3 := Lib.hid (HD.out.else_ hg3 hr3 (by omega) hBR); have E3 := Lib.hid (Else.trans (a := a) (w1 := wr) HE.out (grownBy_of_drew hg3)); have cb3 := D3.out.box; clear hr3 hg3)
        | (go_at_call 78; (with_reducible refine (pick_at _ a (pos + 1) 9 D3.out.rd (by omega) (by omega) (by omega) (by omega)).mono ?_); rintro e w4 ⟨k2, rfl, k20, k21, hr4, hg4⟩; have D4 := Lib.hid (D3.out.else_ hg4 hr4 (by omega) hBR); have E4 := Lib.hid (E3.out.trans hg4); have cb4 := D4.out.box; have al4 := D4.out.all; have KA := Lib.hid (drawAdd w4 _ rs k1 k2 D4.out.own.rws D4.out.ok (by omega) k10 k11 k20 (by omega)); clear hr4 hg4 al4)
        | (go_at_call 103; refine KA.out.mono ?_; rintro e w5 ⟨g5, c5, G5, C5, rfl, ho5, hb5, ok5, av5⟩; have D5 := Lib.hid (D4.out.put ho5 hb5 ok5 (show allV (addV rs k1 k2) ≤ 8 * (11 - (j - 1)) by have := D4.out.all; omega) (by omega) hBR); have E5 := Lib.hid (E4.out.below hb5); have cb5 := cell_later hb5 cb4; have fb5 := free_later hb5 D4.out.free (World.block_lt_of_cell? _ _ D4.out.box); clear ho5 hb5 ok5 av5))
      all_goals
        go_wp2
        go_roundw
        case rel => exact ⟨j - 1, pos + 1 + 1, g5, c5, addV rs k1 k2, G5, C5, rfl, by omega, by omega, by omega, by omega, D5.out, E5.out.set (by omega) _⟩
        case measure => simp [intOf]; omega
    · obtain rfl : j = 0 := by omega
      have HD0 : Hid (Drawn wr (w.heap.size + 1) w1.heap.size a pos (8 * (11 - 0)) g c rs G C) := ⟨⟨HD.out.own.hdr, HD.out.own.row, HD.out.own.off, HD.out.own.apart⟩, HD.out.ok, HD.out.all, HD.out.rd, HD.out.box, HD.out.free, HD.out.res, HD.out.resFree, HD.out.apart⟩
      clear HD cb
      go_wp2_with fail
      refine (pick_at _ a pos 24 HD0.out.rd (by omega) (by omega) (by omega) (by omega)).mono ?_
      rintro e w2 ⟨k, rfl, k0, k1, hr2, hg2⟩
      have D2 := Lib.hid (HD0.out.else_ hg2 hr2 (by omega) hBR)
      have E2 := Lib.hid (HE.out.trans hg2)
      have cb := D2.out.box
      have fb := D2.out.free
      have cr := D2.out.res
      have fr := D2.out.resFree
      simp only [Nat.add_sub_cancel] at cr fr
      have h3 := ((okB_iff rs).1 D2.out.ok).1
      have c0 := D2.out.own.hdrCell h3 0 (by omega)
      have c1 := D2.out.own.hdrCell h3 1 (by omega)
      rw [(fine_okB D2.out.ok 0 (by omega)).1.1] at c0
      rw [(fine_okB D2.out.ok 1 (by omega)).1.1] at c1
      have H3 := Lib.hid h3
      clear hr2 hg2 HD0 HE h3
      rcases (by omega : k = 0 ∨ k = 1 ∨ k = 2 ∨ k = 3 ∨ 4 ≤ k) with rfl | rfl | rfl | rfl | hk
      · -- a number is one more
        have hc2 := D2.out.own.rowCell 0 0 (by rw [H3.out]; omega) (by rw [(fine_okB D2.out.ok 0 (by omega)).1.1]; omega)
        obtain ⟨v0, v1⟩ := (fine_okB D2.out.ok 0 (by omega)).1.bd.2.2 0 (by omega)
        have ap := D2.out.apart.2 0 (by omega)
        have lt0 := (D2.out.own.row 0 (by rw [H3.out]; omega)).lt (G 0) rfl
        obtain ⟨v, hV⟩ : ∃ v, v = (rs.getD 0 []).getD 0 0 := ⟨_, rfl⟩
        rw [← hV] at hc2 v0 v1
        obtain ⟨hc2, hf2⟩ := hc2
        have HST : Hid (∀ w4 : World, Below w2.heap.size w2 w4 → ∃ rs', OwnR (w4.setCell ⟨G 0, 0, none⟩ (.int .i64 (v + 1))) (w.heap.size + 1) (.slice (some ⟨g, 0, none⟩) 3 c) rs' G C) := fun w4 hw4 =>
          ⟨_, ((D2.out.own.below hw4 (Nat.le_refl _)).store 0 0 _ (by rw [H3.out]; omega) (by rw [(fine_okB D2.out.ok 0 (by omega)).1.1]; omega)).1⟩
        have rb1 := cell_regrown cb
        have rb2 := cell_regrown c0
        have rb3 := cell_regrown hc2
        have wr1 : IntKind.i64.wrap (v + 1) = v + 1 := IntWalk.i64_in _ (by omega)
        have lg0 := lt0.2
        have lg1 := lt0.1
        clear hV lt0
        go_wp2
        refine wp_region_last (C := fun w' => ∃ p : Regrown, w' = grow (redrawn w2 p.d) p.os) 12 _ rfl rfl rfl (by kernel_rfl) (by kernel_rfl) (by kernel_rfl) (by kernel_rfl) (by kernel_rfl) ⟨⟨w2.drawn + 1, #[]⟩, by rw [grow_empty]; rfl⟩ ?_
        simp only [List.take_succ_cons, List.take_zero]
        repeat (refine boxed_step (fun K hK => ?_); go_simp; first | (refine hK _ ?_; clear hK K) | (apply Exists.intro; refine ⟨fun _ => ?_, hK _ ?_⟩; (fail); clear hK K))
        refine boxed_nil ?_
        intro _ hw'
        obtain ⟨⟨dq, oq⟩, hw''⟩ := hw'
        subst hw''
        have hb_w4 := below_regrown w2 dq oq
        obtain ⟨w4, hq_w4⟩ : ∃ x, x = grow (redrawn w2 dq) oq := ⟨_, rfl⟩
        rw [← hq_w4] at hb_w4 ⊢
        clear hq_w4
        have d1 := cell_later hb_w4 hc2
        have d2 := free_later hb_w4 hf2 lg0
        have HB4 := Lib.hid hb_w4
        have hx : (w4.setCell ⟨G 0, 0, none⟩ (.int .i64 (v + 1))).cell? ⟨w1.heap.size, 0, none⟩ = some (.slice (some ⟨g, 0, none⟩) 3 c) := (World.cell?_setCell_other (h := fun h => by injection h; omega) ..).trans (cell_later hb_w4 cb)
        have hy : (w4.setCell ⟨G 0, 0, none⟩ (.int .i64 (v + 1))).cell? ⟨w.heap.size, 0, none⟩ = some (.slice none 0 0) := (World.cell?_setCell_other (h := by simp <;> omega) ..).trans (cell_later hb_w4 cr)
        have hz : (w4.setCell ⟨G 0, 0, none⟩ (.int .i64 (v + 1))).frozen? ⟨w.heap.size, 0, none⟩ = false := by rw [World.frozen?_setCell]; exact free_later hb_w4 fr (World.block_lt_of_cell? _ _ cr)
        have lx : w.heap.size < w2.heap.size := World.block_lt_of_cell? _ _ cr
        clear hb_w4 rb1 rb2 rb3 wr1 hc2 hf2 cb fb cr fr c0 c1
        obtain ⟨rs', ho'⟩ := HST.out w4 HB4.out
        have rd4 := D2.out.rd.below HB4.out (Nat.le_refl _)
        have s1 := grownBy_setCell w4 ⟨G 0, 0, none⟩ (.int .i64 (v + 1))
        have s2 := grownBy_setCell (w4.setCell ⟨G 0, 0, none⟩ (.int .i64 (v + 1))) ⟨w.heap.size, 0, none⟩ (.slice (some ⟨g, 0, none⟩) 3 c)
        have FIN := Lib.hid (show RwsIn w.heap.size _ _ rs' ∧ Rd _ a (pos + 1) from ⟨(ho'.grown s2 (fun k e => by simp at e; omega)).within (by omega), (rd4.grown s1 (fun k e => by simp at e; omega)).grown s2 (fun k e => by simp at e; omega)⟩)
        have E4 := Lib.hid (((E2.out.below HB4.out).set (i := 0) (show w.heap.size ≤ G 0 by omega) (.int .i64 (v + 1))).set (i := 0) (Nat.le_refl w.heap.size) (.slice (some ⟨g, 0, none⟩) 3 c))
        clear ho' rd4 s1 s2
        go_wp2
        have hr := World.cell?_setCell_same _ ⟨w.heap.size, 0, none⟩ (.slice (some ⟨g, 0, none⟩) 3 c) hy
        exact bodyPost_ret (v := .agg #[.slice (some ⟨g, 0, none⟩) 3 c]) (by simp [results, Tryz.results79, go_sem, hr]) rfl
          ⟨_, _, _, rs', pos + 1, rfl, FIN.out.1, by omega, by omega, FIN.out.2, E4.out⟩
      · -- the first row is gone
        have hcap : 3 ≤ c := by
          rcases D2.out.own.hdr.2 with ⟨h, _⟩ | ⟨_, _, _, h, _, _, h', _⟩
          · cases h
          · have e := (Value.slice.inj h).2.2; rw [H3.out] at h'; omega
        have cap1 : ¬ c = 1 := by omega
        have cap1' : (1 : Int) ≤ (c : Int) := by omega
        have cap3 : (3 : Int) ≤ (c : Int) := by omega
        have FR : Hid (∀ w4 : World, (∀ k, w.heap.size + 1 ≤ k → k < w2.heap.size → k ≠ w1.heap.size → w4.heap[k]? = w2.heap[k]?) → w2.heap.size ≤ w4.heap.size → Rws w4 (.slice (some ⟨g, 1, none⟩) 2 (c - 1)) (rs.drop 1)) := fun w4 hk hsz => by
          have own := D2.out.own
          have hl := (own.hdr_lt g rfl)
          have mx := (own.hdr).2
          have lenD : (rs.drop 1).length = 2 := by simp [H3.out]
          refine .inr ⟨g, 1, c - 1, by rw [lenD], by rw [lenD]; omega, ?_, by omega, fun i hi => ?_⟩
          · rcases mx with ⟨h, _⟩ | ⟨_, _, _, h, _, _, _, hm, _⟩
            · cases h
            · have e := (Value.slice.inj h).2.2; omega
          · rw [lenD] at hi
            have hc := own.hdrCell H3.out (i + 1) (by omega)
            have e1 : (rs.drop 1).getD i [] = rs.getD (i + 1) [] := by simp
            have hrow := own.row (i + 1) (by rw [H3.out]; omega)
            have hrl := hrow.lt (G (i + 1)) rfl
            have hap := D2.out.apart.2 (i + 1) (by omega)
            refine ⟨.slice (some ⟨G (i + 1), 0, none⟩) (rs.getD (i + 1) []).length (C (i + 1)), ?_, ?_⟩
            · rw [World.cell?_of_block (w := w2) (hk g hl.1 hl.2 D2.out.apart.1), show 1 + i = i + 1 by omega]
              exact hc
            · rw [e1]
              have : w4.ownsRow (w.heap.size + 1) 3 1 (rowV rs G C (i + 1)) (rs.getD (i + 1) []).length (ints (rs.getD (i + 1) [])) := by
                refine ⟨hrow.1, ?_⟩
                rcases hrow.2 with ⟨h, _⟩ | ⟨gg, cap, cur, hv, hb, hh, r⟩
                · cases h
                · have : gg = G (i + 1) := by cases hv; rfl
                  subst this
                  exact .inr ⟨G (i + 1), cap, cur, hv, hb, by rw [hk _ hrl.1 hrl.2 hap]; exact hh, r⟩
              exact ownI_ints this
        have hx := World.cell?_setCell_same w2 ⟨w1.heap.size, 0, none⟩ (.slice (some ⟨g, 1, none⟩) 2 (c - 1)) cb
        have hy : (w2.setCell ⟨w1.heap.size, 0, none⟩ (.slice (some ⟨g, 1, none⟩) 2 (c - 1))).cell? ⟨w.heap.size, 0, none⟩ = some (.slice none 0 0) := (World.cell?_setCell_other (h := by simp <;> omega) ..).trans cr
        have hz : (w2.setCell ⟨w1.heap.size, 0, none⟩ (.slice (some ⟨g, 1, none⟩) 2 (c - 1))).frozen? ⟨w.heap.size, 0, none⟩ = false := by rw [World.frozen?_setCell]; exact fr
        have s1 := grownBy_setCell w2 ⟨w1.heap.size, 0, none⟩ (.slice (some ⟨g, 1, none⟩) 2 (c - 1))
        have s2 := grownBy_setCell (w2.setCell ⟨w1.heap.size, 0, none⟩ (.slice (some ⟨g, 1, none⟩) 2 (c - 1))) ⟨w.heap.size, 0, none⟩ (.slice (some ⟨g, 1, none⟩) 2 (c - 1))
        have FIN := Lib.hid (show RwsIn w.heap.size ((w2.setCell ⟨w1.heap.size, 0, none⟩ (.slice (some ⟨g, 1, none⟩) 2 (c - 1))).setCell ⟨w.heap.size, 0, none⟩ (.slice (some ⟨g, 1, none⟩) 2 (c - 1))) _ (rs.drop 1) ∧ Rd _ a (pos + 1) from
          ⟨fun W hW hs => FR.out W (fun k h0 h1 h2 => (hW k (by omega) (by simpa using h1)).trans ((heap_setCell_other _ ⟨w.heap.size, 0, none⟩ k _ (by simp; omega)).trans (heap_setCell_other w2 ⟨w1.heap.size, 0, none⟩ k _ h2))) (by simpa using hs),
          (D2.out.rd.grown s1 (fun k e => by simp at e; omega)).grown s2 (fun k e => by simp at e; omega)⟩)
        have E4 := Lib.hid ((E2.out.set (i := 0) (show w.heap.size ≤ w1.heap.size by omega) (.slice (some ⟨g, 1, none⟩) 2 (c - 1))).set (i := 0) (Nat.le_refl w.heap.size) (.slice (some ⟨g, 1, none⟩) 2 (c - 1)))
        clear s1 s2
        go_wp2
        have hr := World.cell?_setCell_same _ ⟨w.heap.size, 0, none⟩ (.slice (some ⟨g, 1, none⟩) 2 (c - 1)) hy
        exact bodyPost_ret (v := .agg #[.slice (some ⟨g, 1, none⟩) 2 (c - 1)]) (by simp [results, Tryz.results79, go_sem, hr]) rfl
          ⟨_, _, _, rs.drop 1, pos + 1, rfl, FIN.out.1, by omega, by omega, FIN.out.2, E4.out⟩
      · -- a row is longer
        obtain ⟨i0, hi, hz0, hz1, hz2⟩ := info_parts info_int
        have hgR := D2.out.apart.1
        have hgr := D2.out.own.hdr_lt g rfl
        have hrow := D2.out.own.row 1 (by rw [H3.out]; omega)
        have r8 := (fine_okB D2.out.ok 1 (by omega)).1.1
        simp only [rowV, r8] at hrow
        have lrow := hrow.lt (G 1) rfl
        have ap1 := D2.out.apart.2 1 (by omega)
        have hoff : g ≠ G 1 := fun e => D2.out.own.off 1 (by rw [H3.out]; omega) (by rw [← e]; rfl)
        have fg1 : w2.frozen? ⟨g, 1, none⟩ = false := by
          have hh := D2.out.own.hdr
          rw [H3.out] at hh
          exact hh.frozenAt 1
        have HROW := Lib.hid hrow
        have hnews : (w2.alloc (.cells #[.int .i64 0] 3)).drew.heap[w2.heap.size]? = some (.cells #[.int .i64 0] 3 (0, 0)) := heap_alloc_new w2 _
        have HNEWS := Lib.hid hnews
        have hb0 : w.heap.size + 1 ≤ w2.heap.size := by omega
        have lb := World.block_lt_of_cell? _ _ cb
        have lr := World.block_lt_of_cell? _ _ cr
        simp only at lb lr
        clear hrow hnews
        go_wp2_with fail
        go_region_law ((first
          | (refine step_append_lies _ (by rfl) _ _ _ (by rfl) (w.heap.size + 1) 3 i0 _ 1 8 Tryz.underlying23 hi hz0 hz1 hz2 rfl (by omega) (.slice (some ⟨G 1, 0, none⟩) 8 (C 1)) 8 _ (by rfl) ((HROW.out.alloc _).drew)
                  ⟨w2.heap.size, 0, none⟩ 1 1 [.int .i64 0] (by rfl) (by rfl) (World.news_of_block (cs := #[.int .i64 0]) (t := 3) (fr := (0, 0)) HNEWS.out) (by simp [Value.oneCell'])
                  (by omega) (by unfold maxLen; omega) (by omega) (by simp; omega) (w2.heap.size + 1) (by simp) ?_; intro gg cap w3 hown3 hgrow3 hat3 hlt3; have cx := far_one cb lb hgrow3 (by simp [Value.ownBlock]; exact ap1); have d1 := far_one c1 hgr.2 hgrow3 (by simp [Value.ownBlock]; exact fun h => hoff h.symm); have d2 := far_free fg1 hgr.2 hgrow3 (by simp [Value.ownBlock]; exact fun h => hoff h.symm))))
        all_goals
          have cy := far_one cr lr hgrow3 (by simp [Value.ownBlock]; omega)
          have fy := far_free fr lr hgrow3 (by simp [Value.ownBlock]; omega)
          have hx : (w3.setCell ⟨g, 1, none⟩ (.slice (some ⟨gg, 0, none⟩) 9 cap)).cell? ⟨w1.heap.size, 0, none⟩ = some (.slice (some ⟨g, 0, none⟩) 3 c) := (World.cell?_setCell_other (h := fun h => by injection h; omega) ..).trans cx
          have hy : (w3.setCell ⟨g, 1, none⟩ (.slice (some ⟨gg, 0, none⟩) 9 cap)).cell? ⟨w.heap.size, 0, none⟩ = some (.slice none 0 0) := (World.cell?_setCell_other (h := by simp <;> omega) ..).trans cy
          have hz : (w3.setCell ⟨g, 1, none⟩ (.slice (some ⟨gg, 0, none⟩) 9 cap)).frozen? ⟨w.heap.size, 0, none⟩ = false := by rw [World.frozen?_setCell]; exact fy
          have hgg : gg ≠ g ∧ gg ≠ w.heap.size ∧ gg ≠ w1.heap.size := by
            rcases hat3 with h | h
            · have e : G 1 = gg := by simpa [Value.ownBlock] using h
              subst e
              exact ⟨fun h => hoff h.symm, by omega, ap1⟩
            · omega
          have FR : Hid (∀ w4 : World, (∀ k, w.heap.size + 1 ≤ k → k < w3.heap.size → w4.heap[k]? = (w3.setCell ⟨g, 1, none⟩ (.slice (some ⟨gg, 0, none⟩) 9 cap)).heap[k]?) → w3.heap.size ≤ w4.heap.size → Rws w4 (.slice (some ⟨g, 0, none⟩) 3 c) (rs.set 1 (rs.getD 1 [] ++ [0]))) := fun w4 h1 h2 =>
            longer D2.out.own H3.out r8 hgrow3 hown3 hgg.1 hlt3 h1 h2
          have s0 := hgrow3
          have s1 := grownBy_setCell w3 ⟨g, 1, none⟩ (.slice (some ⟨gg, 0, none⟩) 9 cap)
          have s2 := grownBy_setCell (w3.setCell ⟨g, 1, none⟩ (.slice (some ⟨gg, 0, none⟩) 9 cap)) ⟨w.heap.size, 0, none⟩ (.slice (some ⟨g, 0, none⟩) 3 c)
          have rd3 := ((((D2.out.rd.alloc _).drew.grown s0 (fun k e => by simp [Value.ownBlock] at e; omega)).grown s1 (fun k e => by simp at e; omega)).grown s2 (fun k e => by simp at e; omega))
          have e3 : Else a w w3 := else_far (((E2.out.below ((Below.refl _ _).alloc (Nat.le_refl _) (.cells #[.int .i64 0] 3)))) : Else a w (w2.alloc (.cells #[.int .i64 0] 3))) (show _ from hgrow3) (show w.heap.size ≤ G 1 by omega)
          have E4 := Lib.hid ((e3.set (i := 1) (show w.heap.size ≤ g by omega) (.slice (some ⟨gg, 0, none⟩) 9 cap)).set (i := 0) (Nat.le_refl w.heap.size) (.slice (some ⟨g, 0, none⟩) 3 c))
          have FIN := Lib.hid (show RwsIn w.heap.size ((w3.setCell ⟨g, 1, none⟩ (.slice (some ⟨gg, 0, none⟩) 9 cap)).setCell ⟨w.heap.size, 0, none⟩ (.slice (some ⟨g, 0, none⟩) 3 c)) _ (rs.set 1 (rs.getD 1 [] ++ [0])) ∧ Rd _ a (pos + 1) from
            ⟨fun W hW hs => FR.out W (fun k h0 h1 => (hW k (by omega) (by simpa using h1)).trans (heap_setCell_other _ ⟨w.heap.size, 0, none⟩ k _ (by simp; omega))) (by simpa using hs), rd3⟩)
          clear s0 s1 s2 rd3 e3 hown3 hgrow3 hat3
          go_wp2
          have hr := World.cell?_setCell_same _ ⟨w.heap.size, 0, none⟩ (.slice (some ⟨g, 0, none⟩) 3 c) hy
          exact bodyPost_ret (v := .agg #[.slice (some ⟨g, 0, none⟩) 3 c]) (by simp [results, Tryz.results79, go_sem, hr]) rfl
            ⟨_, _, _, _, pos + 1, rfl, FIN.out.1, by omega, by omega, FIN.out.2, E4.out⟩
      · -- as much as there can be
        have r0 := (fine_okB D2.out.ok 0 (by omega))
        have gr := r0.1.bd.2.2
        have hrc := fun (i : Nat) (hi : i < 8) => (D2.out.own.rowCell 0 i (by rw [H3.out]; omega) (by rw [r0.1.1]; exact hi)).1
        have av := allV_ok D2.out.ok
        have al := D2.out.all
        have DD := Lib.hid D2.out.drew
        have KS : Hid (∀ W : World, (∀ i, i < 8 → W.cell? ⟨G 0, i, none⟩ = w2.cell? ⟨G 0, i, none⟩) → Calls Tryz.prog 138 #[.slice (some ⟨G 0, 0, none⟩) 8 (C 0)] W fun e w' => e = .returned (.int .i64 (allV rs)) ∧ W = w') := fun W hW => by
          have e := r0.2
          rw [← e]
          exact l1Sum_at (G 0) 0 (C 0) 8 _ W r0.1.1 (by omega) gr (fun i hi => by rw [Nat.zero_add, hW i hi]; exact hrc i hi)
        have KB : Hid (∀ n, 0 ≤ n → n ≤ 2000 - allV rs → addB rs 7 n = true) := fun n n0 n1 => (addB_iff rs 7 n).2 ⟨D2.out.ok, by omega, by omega, n0, n1⟩
        obtain ⟨S, hS⟩ : ∃ S, S = allV rs := ⟨_, rfl⟩
        rw [← hS] at KS KB av al
        have wr1 : IntKind.i64.wrap (2000 - S) = 2000 - S := IntWalk.i64_in _ (by omega)
        clear r0 gr hrc hS
        go_wp2_with fail
        go_region_with (first
          | (go_at_call 138; refine (KS.out _ (fun i hi => by simp)).mono ?_; rintro e w' ⟨rfl, rfl⟩)
          | (go_at_call 78; refine (pick_at _ a (pos + 1) 3 DD.out.rd (by omega) (by omega) (by omega) (by omega)).mono ?_; rintro e w3 ⟨k3, rfl, k30, k31, hr3, hg3⟩; have D3 := Lib.hid (DD.out.else_ hg3 hr3 (by omega) hBR); have E3 := Lib.hid (Else.trans (a := a) (w1 := w2) E2.out (grownBy_of_drew hg3)); have cb3 := D3.out.box; have wr2 : IntKind.i64.wrap (2000 - S - k3) = 2000 - S - k3 := IntWalk.i64_in _ (by omega); have KA := Lib.hid (addTrue w3 _ rs 7 (2000 - S - k3) D3.out.own.rws (KB.out _ (by omega) (by omega))); clear hr3 hg3)
          | (go_at_call 103; refine KA.out.mono ?_; rintro e w5 ⟨g5, c5, G5, C5, rfl, ho5, hb5, ok5⟩; have D5 := Lib.hid (D3.out.put ho5 hb5 ok5 (allV_ok ok5).2 (by omega) hBR); have E5 := Lib.hid (E3.out.below hb5); have cb5 := cell_later hb5 cb3; have fb5 := free_later hb5 D3.out.free (World.block_lt_of_cell? _ _ D3.out.box); clear ho5 hb5 ok5))
        all_goals
          have hx := D5.out.box
          have hy := D5.out.res
          have hz := D5.out.resFree
          simp only [Nat.add_sub_cancel] at hy hz
          have s2 := grownBy_setCell (w5.setCell ⟨w1.heap.size, 0, none⟩ (.slice (some ⟨g5, 0, none⟩) 3 c5)) ⟨w.heap.size, 0, none⟩ (.slice (some ⟨g5, 0, none⟩) 3 c5)
          have FIN := Lib.hid (show RwsIn w.heap.size _ _ (addV rs 7 (2000 - S - k3)) ∧ Rd _ a (pos + 1 + 1) from ⟨(D5.out.own.grown s2 (fun k e => by simp at e; omega)).within (by omega), D5.out.rd.grown s2 (fun k e => by simp at e; omega)⟩)
          have E6 := Lib.hid ((E5.out.set (i := 0) (show w.heap.size ≤ w1.heap.size by omega) (.slice (some ⟨g5, 0, none⟩) 3 c5)).set (i := 0) (Nat.le_refl w.heap.size) (.slice (some ⟨g5, 0, none⟩) 3 c5))
          clear s2
          go_wp2
          have hr := World.cell?_setCell_same _ ⟨w.heap.size, 0, none⟩ (.slice (some ⟨g5, 0, none⟩) 3 c5) hy
          exact bodyPost_ret (v := .agg #[.slice (some ⟨g5, 0, none⟩) 3 c5]) (by simp [results, Tryz.results79, go_sem, hr]) rfl
            ⟨_, _, _, _, pos + 1 + 1, rfl, FIN.out.1, by omega, by omega, FIN.out.2, E6.out⟩
      · have e0 : (k == 0) = false := by simp; omega
        have e1 : (k == 1) = false := by simp; omega
        have e2 : (k == 2) = false := by simp; omega
        have e3 : (k == 3) = false := by simp; omega
        have hw := D2.out.own.rws
        have hs := grownBy_setCell w2 ⟨w.heap.size, 0, none⟩ (.slice (some ⟨g, 0, none⟩) 3 c)
        have FIN : Hid (RwsIn w.heap.size (w2.setCell ⟨w.heap.size, 0, none⟩ (.slice (some ⟨g, 0, none⟩) 3 c)) (.slice (some ⟨g, 0, none⟩) 3 c) rs ∧ Rd (w2.setCell ⟨w.heap.size, 0, none⟩ (.slice (some ⟨g, 0, none⟩) 3 c)) a (pos + 1)) :=
          ⟨(D2.out.own.grown hs (fun k e => by simp at e; omega)).within (by omega), D2.out.rd.grown hs (fun k e => by simp at e; omega)⟩
        clear hw hs
        go_wp2
        have hr := World.cell?_setCell_same w2 ⟨w.heap.size, 0, none⟩ (.slice (some ⟨g, 0, none⟩) 3 c) cr
        exact bodyPost_ret (v := .agg #[.slice (some ⟨g, 0, none⟩) 3 c]) (by simp [results, Tryz.results79, go_sem, hr]) rfl
          ⟨_, _, _, rs, pos + 1, rfl, FIN.out.1, by omega, by omega, FIN.out.2, E2.out.set (Nat.le_refl _) _⟩

end Go.Proofs.YtnoilafoeaknjaaGreat
