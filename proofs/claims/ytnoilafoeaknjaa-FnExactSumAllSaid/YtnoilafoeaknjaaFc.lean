/-
  Several texts in one: FDraw, FDraw2, FDraw3, FDraw4, FOk.
-/
import Derived.Test.YtnoilafoeaknjaaDr
import Derived.Test.YtnoilafoeaknjaaFa
import Derived.Deep.RegionWith
import Derived.Deep.RegionLawGrows
import Derived.IntWalk
import Derived.RangeFuncBox
import Derived.RangeFuncNested
set_option linter.unusedVariables false
/-
  Marks that are drawn from a code.
-/
namespace Go.Proofs.Ytnoilafoeaknjaa
open Go.RowKit Go.Sort

end Go.Proofs.Ytnoilafoeaknjaa

/-
  Marks that are drawn: l71Few.
-/
namespace Go.Proofs.Ytnoilafoeaknjaa
open Go.RowKit Go.Sort

/-- The marks that are drawn, while they are: behind the box N + 1; the answer's cell is N, the reader a. -/
structure DrawnF (w : World) (N a : Nat) (pos : Int) (x : Option Addr) (m c : Nat) (zs : List Int) : Prop where
  own : OwnI w (N + 2) (.slice x m c) zs
  len : zs.length ≤ 6
  eq : m = zs.length
  rd : Rd w a pos
  box : w.cell? ⟨N + 1, 0, none⟩ = some (.slice x m c)
  free : w.frozen? ⟨N + 1, 0, none⟩ = false
  res : w.cell? ⟨N, 0, none⟩ = some (.slice none 0 0)
  resFree : w.frozen? ⟨N, 0, none⟩ = false

theorem Else.cell {a : Nat} {w w' : World} {p : Addr} {u : Value} (h : Else a w w') (hc : w.cell? p = some u) (hp : p.block ≠ a) : w'.cell? p = some u := World.grownBy.cell h hc (by simp; exact hp)
theorem Else.free {a : Nat} {w w' : World} {p : Addr} (h : Else a w w') (hc : w.frozen? p = false) (hl : p.block < w.heap.size) (hp : p.block ≠ a) : w'.frozen? p = false := by
  rw [World.grownBy.frozen_far h p hl (by simp; exact hp)]; exact hc

theorem DrawnF.drew {w : World} {N a m c : Nat} {pos : Int} {x : Option Addr} {zs : List Int} (h : DrawnF w N a pos x m c zs) : DrawnF w.drew N a pos x m c zs :=
  ⟨World.ownsRow.drew h.own, h.len, h.eq, h.rd, h.box, h.free, h.res, h.resFree⟩
theorem DrawnF.else_ {w w' : World} {N a m c : Nat} {pos pos' : Int} {x : Option Addr} {zs : List Int} (h : DrawnF w N a pos x m c zs) (hg : Else a w w') (hr : Rd w' a pos') (ha : a < N) : DrawnF w' N a pos' x m c zs :=
  ⟨h.own.kept hg (fun k e => by cases e; omega), h.len, h.eq, hr, hg.cell h.box (by simp; omega), hg.free h.free (World.block_lt_of_cell? _ _ h.box) (by simp; omega), hg.cell h.res (by simp; omega), hg.free h.resFree (World.block_lt_of_cell? _ _ h.res) (by simp; omega)⟩
theorem DrawnF.put {w w' : World} {N a m c m' c' : Nat} {pos : Int} {x x' : Option Addr} {zs zs' : List Int} (h : DrawnF w N a pos x m c zs) (hb : Below w.heap.size w w') (ho : OwnI w' w.heap.size (.slice x' m' c') zs') (hl : zs'.length ≤ 6) (he : m' = zs'.length) (ha : a < N) :
    DrawnF (w'.setCell ⟨N + 1, 0, none⟩ (.slice x' m' c')) N a pos x' m' c' zs' := by
  have l1 := World.block_lt_of_cell? _ _ h.box
  have l0 := World.block_lt_of_cell? _ _ h.res
  simp only at l1 l0
  have hs := grownBy_setCell w' ⟨N + 1, 0, none⟩ (.slice x' m' c')
  exact ⟨(ho.kept hs (fun k e => by simp at e; omega)).base (by omega), hl, he, (h.rd.below hb (Nat.le_refl _)).grown hs (fun k e => by simp at e; omega), World.cell?_setCell_same _ _ _ (cell_later hb h.box),
    by rw [World.frozen?_setCell]; exact free_later hb h.free l1, (World.cell?_setCell_other (h := by simp) ..).trans (cell_later hb h.res), by rw [World.frozen?_setCell]; exact free_later hb h.resFree l0⟩

/-- The world behind an append onto what was drawn. -/
theorem DrawnF.app {w w' : World} {N a m c : Nat} {pos : Int} {x : Option Addr} {zs : List Int} {o : Obj} (h : DrawnF w N a pos x m c zs) (ha : a < N) (hg : (w.alloc o).grownBy w' (Value.slice x m c).ownBlock) :
    Rd w' a pos ∧ w'.cell? ⟨N + 1, 0, none⟩ = some (.slice x m c) ∧ w'.frozen? ⟨N + 1, 0, none⟩ = false ∧ w'.cell? ⟨N, 0, none⟩ = some (.slice none 0 0) ∧ w'.frozen? ⟨N, 0, none⟩ = false ∧ ∀ k, k < w.heap.size → k < N + 2 → w'.heap[k]? = w.heap[k]? := by
  have lt := fun k e => (World.ownsRow.lt h.own k e).1
  have l1 := World.block_lt_of_cell? _ _ h.box
  have l0 := World.block_lt_of_cell? _ _ h.res
  simp only at l1 l0
  have keep : ∀ k, k < w.heap.size → k < N + 2 → w'.heap[k]? = w.heap[k]? := fun k h1 h2 => (hg.block k (by simp; omega) (fun e => by have := lt k e.symm; omega)).trans (heap_alloc_old w o h1)
  exact ⟨(h.rd.alloc o).grown hg (fun k e => by have := lt k e; omega), (World.cell?_of_block (keep _ l1 (by simp))).trans h.box, (World.frozen?_of_block (keep _ l1 (by simp))).trans h.free,
    (World.cell?_of_block (keep _ l0 (by simp))).trans h.res, (World.frozen?_of_block (keep _ l0 (by simp))).trans h.resFree, keep⟩

theorem else_app {w w2 w3 : World} {a N : Nat} {o : Obj} {v : Value} {n : Nat} {e : TypeId} {xs : List Value} (h : Else a w w2) (ho : w2.ownsRow N e 1 v n xs) (hg : (w2.alloc o).grownBy w3 v.ownBlock) (hN : w.heap.size ≤ N) : Else a w w3 :=
  ⟨hg.os.trans h.os, hg.tape.trans h.tape, hg.output.trans h.output, Nat.le_trans h.size (Nat.le_trans (by simp) hg.size), fun k hk hne =>
    ((hg.block k (by have := h.size; simp; omega) (fun e => by have := (ho.lt k e.symm).1; omega)).trans (heap_alloc_old w2 o (Nat.lt_of_lt_of_le hk h.size))).trans (h.block k hk hne)⟩

/-- The end of the drawing: what lies in the box is handed back. -/
theorem few_end {w w2 w3 : World} {a : Nat} {pos q : Int} {u : Value} {zs : List Int} (E : Else a w w3) (rd : Rd w3 a q) (own : OwnI w3 (w.heap.size + 2) u zs) (ha : a < w.heap.size) :
    OwnI ((w3.setCell ⟨w.heap.size + 1, 0, none⟩ u).setCell ⟨w.heap.size, 0, none⟩ u) w.heap.size u zs ∧ Rd ((w3.setCell ⟨w.heap.size + 1, 0, none⟩ u).setCell ⟨w.heap.size, 0, none⟩ u) a q ∧ Else a w ((w3.setCell ⟨w.heap.size + 1, 0, none⟩ u).setCell ⟨w.heap.size, 0, none⟩ u) := by
  have s1 := grownBy_setCell w3 ⟨w.heap.size + 1, 0, none⟩ u
  have s2 := grownBy_setCell (w3.setCell ⟨w.heap.size + 1, 0, none⟩ u) ⟨w.heap.size, 0, none⟩ u
  exact ⟨((own.kept s1 (fun k e => by simp at e; omega)).kept s2 (fun k e => by simp at e; omega)).base (by omega), (rd.grown s1 (fun k e => by simp at e; omega)).grown s2 (fun k e => by simp at e; omega),
    (E.set (i := 0) (Nat.le_succ _) u).set (i := 0) (Nat.le_refl _) u⟩
theorem few_end0 {w w3 : World} {a : Nat} {q : Int} {u : Value} {zs : List Int} (E : Else a w w3) (rd : Rd w3 a q) (own : OwnI w3 (w.heap.size + 2) u zs) (ha : a < w.heap.size) :
    OwnI (w3.setCell ⟨w.heap.size, 0, none⟩ u) w.heap.size u zs ∧ Rd (w3.setCell ⟨w.heap.size, 0, none⟩ u) a q ∧ Else a w (w3.setCell ⟨w.heap.size, 0, none⟩ u) := by
  have s2 := grownBy_setCell w3 ⟨w.heap.size, 0, none⟩ u
  exact ⟨(own.kept s2 (fun k e => by simp at e; omega)).base (by omega), rd.grown s2 (fun k e => by simp at e; omega), E.set (i := 0) (Nat.le_refl _) u⟩

set_option maxHeartbeats 4000000 in
theorem few_at (w : World) (a : Nat) (p : Int) (h : Rd w a p) (hp : 0 ≤ p) (hp' : p ≤ 80000) :
    Calls Try.prog 37 #[.pointer (some ⟨a, 0, none⟩)] w fun e w' => ∃ x c zs q, e = .returned (.agg #[.slice x zs.length c]) ∧ OwnI w' w.heap.size (.slice x zs.length c) zs ∧ zs.length ≤ 7 ∧ p ≤ q ∧ q ≤ p + 30 ∧ Rd w' a q ∧ Else a w w' := by
  have HR := Lib.hid h
  have hlt := h.lt
  obtain ⟨i0, hi, hz0, hz1, hz2⟩ := info_parts few_info
  clear h
  have D1 : Hid (DrawnF ((w.alloc (.cells #[.slice none 0 0] 28)).alloc (.cells #[.slice none 0 0] 28)) w.heap.size a p none 0 0 []) :=
    ⟨OwnI.nil _ _, by simp, rfl, (HR.out.alloc _).alloc _, by rw [World.cell?_alloc_at (hn := by simp)]; simp, World.frozen?_alloc_at _ _ _ _ (by simp), by rw [World.cell?_alloc_past (hn := by simp)]; simp, by rw [World.frozen?_alloc_past (hn := by simp)]; simp⟩
  have E1 : Hid (Else a w ((w.alloc (.cells #[.slice none 0 0] 28)).alloc (.cells #[.slice none 0 0] 28))) := grownBy_alloc' (World.grownBy_alloc w _ _) _
  go_enter Try.func37, Try.ntmps37
  go_wp2_with fail
  refine (pick_at _ a p 10 D1.out.rd hp (by omega) (by omega) (by omega)).mono ?_
  rintro e w2 ⟨k, rfl, k0, k1, hr2, hg2⟩
  have D2 := Lib.hid (D1.out.else_ hg2 hr2 hlt)
  have E2 := Lib.hid (E1.out.trans hg2)
  clear hr2 hg2 D1 E1
  go_wp2
  go_loopw [4] (fun i wr => ∃ (j pos : Int) (x : Option Addr) (m c : Nat) (zs : List Int), i = .int .i64 j ∧ 0 ≤ j ∧ j ≤ 9 ∧ p + 1 ≤ pos ∧ pos ≤ p + 1 + (9 - j) ∧ DrawnF wr w.heap.size a pos x m c zs ∧ Else a w wr) (fun i _ => (intOf i).toNat)
  case atStart => exact ⟨k, p + 1, none, 0, 0, [], rfl, k0, by omega, by omega, by omega, D2.out, E2.out⟩
  case round =>
    clear D2 E2 k0 k1
    obtain ⟨j, pos, x, m, c, zs, rfl, j0, j1, p0, p1, hd, he⟩ := hrel
    have HD := Lib.hid hd
    have HE := Lib.hid he
    have cb := hd.box
    clear hd he
    by_cases hj : 0 < j
    · have HDd := Lib.hid HD.out.drew
      go_wp2
      go_region_with (first
        | (go_at_call 35; (with_reducible refine (pick_at _ a pos 64 HDd.out.rd (by omega) (by omega) (by omega) (by omega)).mono ?_); rintro e w3 ⟨k1, rfl, k10, k11, hr3, hg3⟩; have D3 := Lib.hid (HDd.out.else_ hg3 hr3 hlt); have E3 := Lib.hid (Else.trans (a := a) (w1 := wr) HE.out (grownBy_of_drew hg3)); have cb3 := D3.out.box; have KA := Lib.hid (spFewAdd_at w3 _ zs k1 D3.out.own.rd); clear hr3 hg3)
        | (go_at_call 82; refine KA.out.mono ?_; rintro e w5 ⟨v5, rfl, ho5, hb5⟩; obtain ⟨x5, c5, rfl⟩ := ho5.form; have D5 := Lib.hid (D3.out.put hb5 ho5 (addF_len _ _) rfl hlt); have E5 := Lib.hid (E3.out.below hb5); have cb5 := cell_later hb5 cb3; have fb5 := free_later hb5 D3.out.free (World.block_lt_of_cell? _ _ D3.out.box); clear ho5 hb5))
      all_goals
        go_wp2
        go_roundw
        case rel => exact ⟨j - 1, pos + 1, x5, (addF zs k1).length, c5, addF zs k1, rfl, by omega, by omega, by omega, by omega, D5.out, E5.out.set (by simp) _⟩
        case measure => simp [intOf]; omega
    · obtain rfl : j = 0 := by omega
      go_wp2_with fail
      refine (pick_at _ a pos 24 HD.out.rd (by omega) (by omega) (by omega) (by omega)).mono ?_
      rintro e w2 ⟨k, rfl, k0, k1, hr2, hg2⟩
      have D2 := Lib.hid (HD.out.else_ hg2 hr2 hlt)
      have E2 := Lib.hid (HE.out.trans hg2)
      have cb := D2.out.box
      have fb := D2.out.free
      have cs := D2.out.res
      have fs := D2.out.resFree
      have hm : m ≤ 6 := by have h1 := D2.out.len; have h2 := D2.out.eq; omega
      have EQ := Lib.hid D2.out.eq
      have ho2 : w2.ownsRow (w.heap.size + 2) 3 1 (.slice x m c) m (ints zs) := by have h := D2.out.own; unfold OwnI at h; rw [← D2.out.eq] at h; exact h
      have HO2 := Lib.hid ho2
      have lw2 : w.heap.size + 1 < w2.heap.size := World.block_lt_of_cell? _ _ cb
      clear hr2 hg2 HD HE ho2
      rcases (by omega : k = 0 ∨ k = 1 ∨ 2 ≤ k) with rfl | rfl | hk
      · clear k0 k1
        go_wp2_with (first | (at_builtin; refine wpList_append_own _ rfl _ _ 26 rfl (w.heap.size + 2) 3 i0 (.int .i64 0) 1 8 Try.underlying26 hi hz0 hz1 hz2 rfl (by decide) _ _ _ rfl (HO2.out.alloc _) ⟨w2.heap.size, 0, none⟩ 1 1 [.int .i64 0] rfl rfl (cell_one_new _ _ _) (by simp [Value.oneCell']) (by unfold maxLen; omega) (by omega) (by simp; omega) ?_; intro v3 w3 ho3 hg3 _; obtain ⟨g3, c3, rfl, _, _⟩ := World.ownsRow.form ho3 (Nat.succ_pos _); obtain ⟨rd3, cb3, fb3, cs3, fs3, _⟩ := DrawnF.app D2.out hlt hg3; have RD3 := Lib.hid rd3; have HO3 := Lib.hid ho3; have E3 := Lib.hid (else_app E2.out HO2.out hg3 (Nat.le_add_right _ _)); have hx3 := World.cell?_setCell_same w3 ⟨w.heap.size + 1, 0, none⟩ (.slice (some ⟨g3, 0, none⟩) (m + 1) c3) cb3; have hy3 := (World.cell?_setCell_other (w := w3) (a := ⟨w.heap.size + 1, 0, none⟩) (v := .slice (some ⟨g3, 0, none⟩) (m + 1) c3) (h := fun h => by injection h; omega) ..).trans cs3; have hz3 : (w3.setCell ⟨w.heap.size + 1, 0, none⟩ (.slice (some ⟨g3, 0, none⟩) (m + 1) c3)).frozen? ⟨w.heap.size, 0, none⟩ = false := by rw [World.frozen?_setCell]; exact fs3))
        have hr := World.cell?_setCell_same _ ⟨w.heap.size, 0, none⟩ (.slice (some ⟨g3, 0, none⟩) (m + 1) c3) hy3
        have own3 := own_snoc HO3.out EQ.out
        have FIN := few_end (pos := pos) (w2 := w2) E3.out RD3.out own3 hlt
        have hl : (zs ++ [(0 : Int)]).length = m + 1 := by rw [EQ.out]; simp
        exact bodyPost_ret (v := .agg #[.slice (some ⟨g3, 0, none⟩) (m + 1) c3]) (by simp [results, Try.results37, go_sem, hr]) rfl ⟨some ⟨g3, 0, none⟩, c3, zs ++ [0], pos + 1, by rw [hl], by rw [hl]; exact FIN.1, by rw [hl]; omega, by omega, by omega, FIN.2.1, FIN.2.2⟩
      · clear k0 k1
        go_wp2_with (first | (at_builtin; refine wpList_append_own _ rfl _ _ 26 rfl (w.heap.size + 2) 3 i0 (.int .i64 0) 1 8 Try.underlying26 hi hz0 hz1 hz2 rfl (by decide) _ _ _ rfl (HO2.out.alloc _) ⟨w2.heap.size, 0, none⟩ 1 1 [.int .i64 64] rfl rfl (cell_one_new _ _ _) (by simp [Value.oneCell']) (by unfold maxLen; omega) (by omega) (by simp; omega) ?_; intro v3 w3 ho3 hg3 _; obtain ⟨g3, c3, rfl, _, _⟩ := World.ownsRow.form ho3 (Nat.succ_pos _); obtain ⟨rd3, cb3, fb3, cs3, fs3, _⟩ := DrawnF.app D2.out hlt hg3; have RD3 := Lib.hid rd3; have HO3 := Lib.hid ho3; have E3 := Lib.hid (else_app E2.out HO2.out hg3 (Nat.le_add_right _ _)); have hx3 := World.cell?_setCell_same w3 ⟨w.heap.size + 1, 0, none⟩ (.slice (some ⟨g3, 0, none⟩) (m + 1) c3) cb3; have hy3 := (World.cell?_setCell_other (w := w3) (a := ⟨w.heap.size + 1, 0, none⟩) (v := .slice (some ⟨g3, 0, none⟩) (m + 1) c3) (h := fun h => by injection h; omega) ..).trans cs3; have hz3 : (w3.setCell ⟨w.heap.size + 1, 0, none⟩ (.slice (some ⟨g3, 0, none⟩) (m + 1) c3)).frozen? ⟨w.heap.size, 0, none⟩ = false := by rw [World.frozen?_setCell]; exact fs3))
        have hr := World.cell?_setCell_same _ ⟨w.heap.size, 0, none⟩ (.slice (some ⟨g3, 0, none⟩) (m + 1) c3) hy3
        have own3 := own_snoc HO3.out EQ.out
        have FIN := few_end (pos := pos) (w2 := w2) E3.out RD3.out own3 hlt
        have hl : (zs ++ [(64 : Int)]).length = m + 1 := by rw [EQ.out]; simp
        exact bodyPost_ret (v := .agg #[.slice (some ⟨g3, 0, none⟩) (m + 1) c3]) (by simp [results, Try.results37, go_sem, hr]) rfl ⟨some ⟨g3, 0, none⟩, c3, zs ++ [64], pos + 1, by rw [hl], by rw [hl]; exact FIN.1, by rw [hl]; omega, by omega, by omega, FIN.2.1, FIN.2.2⟩
      · have e0 : (k == 0) = false := by simp; omega
        have e1 : (k == 1) = false := by simp; omega
        go_wp2
        have hr := World.cell?_setCell_same w2 ⟨w.heap.size, 0, none⟩ (.slice x m c) cs
        have FIN := few_end0 E2.out D2.out.rd D2.out.own hlt
        have hl : zs.length = m := EQ.out.symm
        exact bodyPost_ret (v := .agg #[.slice x m c]) (by simp [results, Try.results37, go_sem, hr]) rfl ⟨x, c, zs, pos + 1, by rw [hl], by rw [hl]; exact FIN.1, by rw [hl]; omega, by omega, by omega, FIN.2.1, FIN.2.2⟩

end Go.Proofs.Ytnoilafoeaknjaa

/-
  Marks that are drawn, alone, with a thing, and of two.
-/
namespace Go.Proofs.Ytnoilafoeaknjaa
open Go.RowKit Go.Sort

theorem else_below' {a B : Nat} {w w' : World} (h : Else a w w') (hB : B ≤ a) (hw : B ≤ w.heap.size) : Below B w w' := below_grown h hB hw
theorem bts_alloc {w : World} {v : Value} {n : Nat} (h : Bts w w.heap.size v n) (o : Obj) : Bts (w.alloc o) (w.alloc o).heap.size v n := bts_below h ((Below.refl _ _).alloc (Nat.le_refl _) o)




end Go.Proofs.Ytnoilafoeaknjaa

/-
  Marks that are drawn and may be spoilt: DrawFewOk.
-/
namespace Go.Proofs.Ytnoilafoeaknjaa
open Go.RowKit Go.Sort

theorem bx_below {W w' : World} {b : Nat} {t : TypeId} {v : Value} (h : Go.Boxed W b t v) (hb : Below W.heap.size W w') : Go.Boxed w' b t v := (hb.block _ h.lt).trans h

/-- The end: what is owned goes into the box b, and thence into the answer's cell. -/
theorem ok_end {w w5 : World} {b B : Nat} {u u0 u1 : Value} {zs : List Int} (hB : Below w.heap.size w w5) (ho : OwnI w5 B u zs) (X : Go.Boxed w5 b 28 u0) (XR : Go.Boxed w5 w.heap.size 28 u1) (hb : w.heap.size < b) :
    Ints ((w5.setCell ⟨b, 0, none⟩ u).setCell ⟨w.heap.size, 0, none⟩ u) u zs ∧ Below w.heap.size w ((w5.setCell ⟨b, 0, none⟩ u).setCell ⟨w.heap.size, 0, none⟩ u) := by
  have s1 := grownBy_setCell w5 ⟨b, 0, none⟩ u
  have o1 : OwnI (w5.setCell ⟨b, 0, none⟩ u) B u zs := World.ownsRow.kept ho s1 (.inr (Ne.symm (X.not_row (by decide) ho)))
  have XR1 := XR.other (B' := b) (by omega) u
  have s2 := grownBy_setCell (w5.setCell ⟨b, 0, none⟩ u) ⟨w.heap.size, 0, none⟩ u
  exact ⟨OwnI.rd (World.ownsRow.kept o1 s2 (.inr (Ne.symm (XR1.not_row (by decide) o1)))), (hB.setCell (by show w.heap.size ≤ b; omega) _).setCell (Nat.le_refl _) _⟩
theorem ok_end0 {w w5 : World} {B : Nat} {u u1 : Value} {zs : List Int} (hB : Below w.heap.size w w5) (ho : OwnI w5 B u zs) (XR : Go.Boxed w5 w.heap.size 28 u1) :
    Ints (w5.setCell ⟨w.heap.size, 0, none⟩ u) u zs ∧ Below w.heap.size w (w5.setCell ⟨w.heap.size, 0, none⟩ u) := by
  have s2 := grownBy_setCell w5 ⟨w.heap.size, 0, none⟩ u
  exact ⟨OwnI.rd (World.ownsRow.kept ho s2 (.inr (Ne.symm (XR.not_row (by decide) ho)))), hB.setCell (Nat.le_refl _) _⟩
theorem ints_news {w : World} {b o m c : Nat} {zs : List Int} (h : Ints w (.slice (some ⟨b, o, none⟩) m c) zs) : ∀ j u, (ints zs)[j]? = some u → w.cell? ((⟨b, o, none⟩ : Addr).add j) = some u := by
  intro j u hu
  have hj : j < zs.length := by
    have := (List.getElem?_eq_some_iff.1 hu).1
    rwa [ints_len] at this
  rw [ints_get _ _ hj] at hu
  cases hu
  rcases h with ⟨e, _⟩ | ⟨b', o', cap, e, _, _, _, h4⟩
  · cases e
  · cases e
    have h := h4 j hj
    by_cases h0 : j = 0
    · subst h0; simpa [Addr.add] using h
    · simpa [Addr.add, h0] using h

theorem ints_one' (zs : List Int) : ∀ u ∈ ints zs, u.oneCell' = true := fun u hu => by
  obtain ⟨z, _, rfl⟩ := List.mem_map.1 hu
  rfl

theorem setCells_none (w : World) (b i : Nat) : w.setCells b i [] = w := rfl


end Go.Proofs.Ytnoilafoeaknjaa

/-
  Parts of marks.
-/
namespace Go.Proofs.Ytnoilafoeaknjaa
open Go.RowKit Go.Sort

theorem ints_drop {w : World} {b o m c : Nat} {zs : List Int} (h : Ints w (.slice (some ⟨b, o, none⟩) m c) zs) (j : Nat) (hj : j ≤ m) : Ints w (.slice (some ⟨b, o + j, none⟩) (m - j) (c - j)) (zs.drop j) := by
  rcases h with ⟨e, _⟩ | ⟨b', o', cap, e, h1, h2, h3, h4⟩
  · cases e
  · cases e
    refine .inr ⟨b, o + j, c - j, by rw [List.length_drop], by rw [List.length_drop]; omega, by omega, h3, fun i hi => ?_⟩
    rw [List.length_drop] at hi
    have h := h4 (j + i) (by omega)
    rw [Nat.add_assoc, h]
    simp [List.getD_eq_getElem?_getD]
theorem ints_take {w : World} {b o m c : Nat} {zs : List Int} (h : Ints w (.slice (some ⟨b, o, none⟩) m c) zs) (j : Nat) (hj : j ≤ m) : Ints w (.slice (some ⟨b, o, none⟩) j c) (zs.take j) := by
  rcases h with ⟨e, _⟩ | ⟨b', o', cap, e, h1, h2, h3, h4⟩
  · cases e
  · cases e
    have hl : (zs.take j).length = j := by simp; omega
    refine .inr ⟨b, o, c, by rw [hl], by omega, h2, h3, fun i hi => ?_⟩
    rw [hl] at hi
    rw [h4 i (by omega)]
    simp [List.getD_eq_getElem?_getD, List.getElem?_take_of_lt hi]
theorem few_drop {zs : List Int} (h : fewB zs = true) (j : Nat) : fewB (zs.drop j) = true := by
  obtain ⟨h1, h2⟩ := (fewB_iff zs).1 h
  refine fewB_good (by rw [List.length_drop]; omega) fun i hi => ?_
  rw [List.length_drop] at hi
  obtain ⟨g1, g2⟩ := h2 (j + i) (by omega)
  have e : ∀ k, (zs.drop j).getD k 0 = zs.getD (j + k) 0 := fun k => by simp [List.getD_eq_getElem?_getD]
  unfold FewG
  rw [e, e]
  refine ⟨g1, fun hi0 => ?_⟩
  have := g2 (by omega)
  rwa [show j + i - 1 = j + (i - 1) by omega] at this
theorem few_take {zs : List Int} (h : fewB zs = true) (j : Nat) : fewB (zs.take j) = true := by
  obtain ⟨h1, h2⟩ := (fewB_iff zs).1 h
  refine fewB_good (by rw [List.length_take]; omega) fun i hi => ?_
  rw [List.length_take] at hi
  obtain ⟨g1, g2⟩ := h2 i (by omega)
  have e : ∀ k, k < j → (zs.take j).getD k 0 = zs.getD k 0 := fun k hk => by simp [List.getD_eq_getElem?_getD, List.getElem?_take_of_lt hk]
  unfold FewG
  rw [e i (by omega), e (i - 1) (by omega)]
  exact ⟨g1, g2⟩

end Go.Proofs.Ytnoilafoeaknjaa
