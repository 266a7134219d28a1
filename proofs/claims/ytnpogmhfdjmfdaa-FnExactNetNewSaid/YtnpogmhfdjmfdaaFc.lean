/-
  Several texts in one: FDraw, FDraw2, FDraw3, FDraw4, FOk.
-/
import Derived.Test.YtnpogmhfdjmfdaaDr
import Derived.Test.YtnpogmhfdjmfdaaFa
import Derived.Deep.RegionWith
import Derived.Deep.RegionLawGrows
import Derived.IntWalk
import Derived.RangeFuncBox
import Derived.RangeFuncNested
set_option linter.unusedVariables false
/-
  Marks that are drawn from a code.
-/
namespace Go.Proofs.Ytnpogmhfdjmfdaa
open Go.RowKit Go.Sort

end Go.Proofs.Ytnpogmhfdjmfdaa

/-
  Marks that are drawn: l71Few.
-/
namespace Go.Proofs.Ytnpogmhfdjmfdaa
open Go.RowKit Go.Sort

theorem Else.cell {a : Nat} {w w' : World} {p : Addr} {u : Value} (h : Else a w w') (hc : w.cell? p = some u) (hp : p.block ≠ a) : w'.cell? p = some u := World.grownBy.cell h hc (by simp; exact hp)
theorem Else.free {a : Nat} {w w' : World} {p : Addr} (h : Else a w w') (hc : w.frozen? p = false) (hl : p.block < w.heap.size) (hp : p.block ≠ a) : w'.frozen? p = false := by
  rw [World.grownBy.frozen_far h p hl (by simp; exact hp)]; exact hc

theorem else_app {w w2 w3 : World} {a N : Nat} {o : Obj} {v : Value} {n : Nat} {e : TypeId} {xs : List Value} (h : Else a w w2) (ho : w2.ownsRow N e 1 v n xs) (hg : (w2.alloc o).grownBy w3 v.ownBlock) (hN : w.heap.size ≤ N) : Else a w w3 :=
  ⟨hg.os.trans h.os, hg.tape.trans h.tape, hg.output.trans h.output, Nat.le_trans h.size (Nat.le_trans (by simp) hg.size), fun k hk hne =>
    ((hg.block k (by have := h.size; simp; omega) (fun e => by have := (ho.lt k e.symm).1; omega)).trans (heap_alloc_old w2 o (Nat.lt_of_lt_of_le hk h.size))).trans (h.block k hk hne)⟩

end Go.Proofs.Ytnpogmhfdjmfdaa

/-
  Marks that are drawn, alone, with a thing, and of two.
-/
namespace Go.Proofs.Ytnpogmhfdjmfdaa
open Go.RowKit Go.Sort

theorem else_below' {a B : Nat} {w w' : World} (h : Else a w w') (hB : B ≤ a) (hw : B ≤ w.heap.size) : Below B w w' := below_grown h hB hw
theorem bts_alloc {w : World} {v : Value} {n : Nat} (h : Bts w w.heap.size v n) (o : Obj) : Bts (w.alloc o) (w.alloc o).heap.size v n := bts_below h ((Below.refl _ _).alloc (Nat.le_refl _) o)




end Go.Proofs.Ytnpogmhfdjmfdaa

/-
  Marks that are drawn and may be spoilt: DrawFewOk.
-/
namespace Go.Proofs.Ytnpogmhfdjmfdaa
open Go.RowKit Go.Sort

theorem bx_below {W w' : World} {b : Nat} {t : TypeId} {v : Value} (h : Go.Boxed W b t v) (hb : Below W.heap.size W w') : Go.Boxed w' b t v := (hb.block _ h.lt).trans h

/-- The end: what is owned goes into the box b, and thence into the answer's cell. -/
theorem ok_end {w w5 : World} {b B : Nat} {u u0 u1 : Value} {zs : List Int} (hB : Below w.heap.size w w5) (ho : OwnI w5 B u zs) (X : Go.Boxed w5 b 65 u0) (XR : Go.Boxed w5 w.heap.size 65 u1) (hb : w.heap.size < b) :
    Ints ((w5.setCell ⟨b, 0, none⟩ u).setCell ⟨w.heap.size, 0, none⟩ u) u zs ∧ Below w.heap.size w ((w5.setCell ⟨b, 0, none⟩ u).setCell ⟨w.heap.size, 0, none⟩ u) := by
  have s1 := grownBy_setCell w5 ⟨b, 0, none⟩ u
  have o1 : OwnI (w5.setCell ⟨b, 0, none⟩ u) B u zs := World.ownsRow.kept ho s1 (.inr (Ne.symm (X.not_row (by decide) ho)))
  have XR1 := XR.other (B' := b) (by omega) u
  have s2 := grownBy_setCell (w5.setCell ⟨b, 0, none⟩ u) ⟨w.heap.size, 0, none⟩ u
  exact ⟨OwnI.rd (World.ownsRow.kept o1 s2 (.inr (Ne.symm (XR1.not_row (by decide) o1)))), (hB.setCell (by show w.heap.size ≤ b; omega) _).setCell (Nat.le_refl _) _⟩
theorem ok_end0 {w w5 : World} {B : Nat} {u u1 : Value} {zs : List Int} (hB : Below w.heap.size w w5) (ho : OwnI w5 B u zs) (XR : Go.Boxed w5 w.heap.size 65 u1) :
    Ints (w5.setCell ⟨w.heap.size, 0, none⟩ u) u zs ∧ Below w.heap.size w (w5.setCell ⟨w.heap.size, 0, none⟩ u) := by
  have s2 := grownBy_setCell w5 ⟨w.heap.size, 0, none⟩ u
  exact ⟨OwnI.rd (World.ownsRow.kept ho s2 (.inr (Ne.symm (XR.not_row (by decide) ho)))), hB.setCell (Nat.le_refl _) _⟩
theorem ints_news {w : World} {b o m c : Nat} {zs : List Int} (h : Ints w (.slice (some ⟨b, o, none⟩) m c) zs) : ∀ j u, (ints zs)[j]? = some u → w.cell? ((⟨b, o, none⟩ : Addr).add j) = some u := by
  intro j u hu
  have hj : j < zs.length := by
    have := (List.getElem?_eq_some_iff.1 hu).1
    rwa [ints_len] at this
  rw [ints_get _ _ hj] at hu
  cases hu
  rcases h with ⟨e, _⟩ | ⟨b', o', cap, e, _, _, _, h4⟩
  · cases e
  · cases e
    have h := h4 j hj
    by_cases h0 : j = 0
    · subst h0; simpa [Addr.add] using h
    · simpa [Addr.add, h0] using h

theorem ints_one' (zs : List Int) : ∀ u ∈ ints zs, u.oneCell' = true := fun u hu => by
  obtain ⟨z, _, rfl⟩ := List.mem_map.1 hu
  rfl

theorem setCells_none (w : World) (b i : Nat) : w.setCells b i [] = w := rfl


end Go.Proofs.Ytnpogmhfdjmfdaa

/-
  Parts of marks.
-/
namespace Go.Proofs.Ytnpogmhfdjmfdaa
open Go.RowKit Go.Sort

theorem ints_drop {w : World} {b o m c : Nat} {zs : List Int} (h : Ints w (.slice (some ⟨b, o, none⟩) m c) zs) (j : Nat) (hj : j ≤ m) : Ints w (.slice (some ⟨b, o + j, none⟩) (m - j) (c - j)) (zs.drop j) := by
  rcases h with ⟨e, _⟩ | ⟨b', o', cap, e, h1, h2, h3, h4⟩
  · cases e
  · cases e
    refine .inr ⟨b, o + j, c - j, by rw [List.length_drop], by rw [List.length_drop]; omega, by omega, h3, fun i hi => ?_⟩
    rw [List.length_drop] at hi
    have h := h4 (j + i) (by omega)
    rw [Nat.add_assoc, h]
    simp [List.getD_eq_getElem?_getD]
theorem ints_take {w : World} {b o m c : Nat} {zs : List Int} (h : Ints w (.slice (some ⟨b, o, none⟩) m c) zs) (j : Nat) (hj : j ≤ m) : Ints w (.slice (some ⟨b, o, none⟩) j c) (zs.take j) := by
  rcases h with ⟨e, _⟩ | ⟨b', o', cap, e, h1, h2, h3, h4⟩
  · cases e
  · cases e
    have hl : (zs.take j).length = j := by simp; omega
    refine .inr ⟨b, o, c, by rw [hl], by omega, h2, h3, fun i hi => ?_⟩
    rw [hl] at hi
    rw [h4 i (by omega)]
    simp [List.getD_eq_getElem?_getD, List.getElem?_take_of_lt hi]
theorem few_drop {zs : List Int} (h : fewB zs = true) (j : Nat) : fewB (zs.drop j) = true := by
  obtain ⟨h1, h2⟩ := (fewB_iff zs).1 h
  refine fewB_good (by rw [List.length_drop]; omega) fun i hi => ?_
  rw [List.length_drop] at hi
  obtain ⟨g1, g2⟩ := h2 (j + i) (by omega)
  have e : ∀ k, (zs.drop j).getD k 0 = zs.getD (j + k) 0 := fun k => by simp [List.getD_eq_getElem?_getD]
  unfold FewG
  rw [e, e]
  refine ⟨g1, fun hi0 => ?_⟩
  have := g2 (by omega)
  rwa [show j + i - 1 = j + (i - 1) by omega] at this
theorem few_take {zs : List Int} (h : fewB zs = true) (j : Nat) : fewB (zs.take j) = true := by
  obtain ⟨h1, h2⟩ := (fewB_iff zs).1 h
  refine fewB_good (by rw [List.length_take]; omega) fun i hi => ?_
  rw [List.length_take] at hi
  obtain ⟨g1, g2⟩ := h2 i (by omega)
  have e : ∀ k, k < j → (zs.take j).getD k 0 = zs.getD k 0 := fun k hk => by simp [List.getD_eq_getElem?_getD, List.getElem?_take_of_lt hk]
  unfold FewG
  rw [e i (by omega), e (i - 1) (by omega)]
  exact ⟨g1, g2⟩

end Go.Proofs.Ytnpogmhfdjmfdaa
