/-
  Several texts in one: TCmp, TSort, TColl, TOrder, TConc.
-/
import Derived.Test.YtnpogmhfdjmfdaaTa
import Derived.Shelf.SlSortCmp.InsertionK
import Derived.Deep.RegionWith
import Derived.RangeFuncBox
import Derived.RangeFuncNested
import Derived.RangeFuncBound
import Derived.RangeFuncCalls
import Derived.RangeFuncLeaves
import Derived.Shelf.Abstract
import Derived.Shelf.RegionOpen
import Derived.OwnWalkIn
import Derived.TacticsInMore
import Derived.LoopNIn
import Derived.LoopIn
import Derived.Laws.EntriesVeiled
import Derived.Lib.AppendZerosOnto
import Derived.Lib.SliceRun
import Derived.Lib.Walk
import Derived.Laws.AppendOwnNone
set_option linter.unusedVariables false
/-
  The two orders of pairs: what the comparisons answer.
-/
namespace Go.Proofs.Ytnpogmhfdjmfdaa.T
open Go.RowKit Go.Sort Go.Shelf

/-- What cmp.Compare answers. -/
def cmpV (a b : Int) : Int := if a < b then -1 else if b < a then 1 else 0
/-- What cmp.Or answers, of two. -/
def orV (a b : Int) : Int := if a = 0 then b else a
/-- A pair's two cells. -/
def encP (p : Pr) : List Value := [.int .i64 p.1, .int .i64 p.2]
/-- What the order by numbers answers. -/
def cmpN (x y : Pr) : Int := orV (cmpV y.2 x.2) (cmpV x.1 y.1)
end Go.Proofs.Ytnpogmhfdjmfdaa.T

/-
  The sorting of pairs that are not many: slices.SortFunc, over the library's contract of the insertion sort.
-/
namespace Go.Proofs.Ytnpogmhfdjmfdaa.T
open Go.RowKit Go.Sort Go.Shelf

theorem flat_prs (ps : List Pr) : flatK encP 2 ps.toArray = (prs ps).toArray := by
  apply ext_get!
  · simp [prs_len]
  · intro t ht
    simp only [size_flatK, List.size_toArray] at ht
    rw [get_flatK encP 2 ps.toArray t (by simpa using ht)]
    have hi : t / 2 < ps.length := by omega
    have hg := prs_get ps (t / 2) hi
    have e1 : ps.toArray[t / 2]! = pr ps (t / 2) := by
      rw [getElem!_pos _ _ (by simpa using hi)]; simp [pr, hi]
    rw [e1]
    have hl : t < (prs ps).length := by rw [prs_len]; exact ht
    have key : (prs ps)[t]? = some ((encP (pr ps (t / 2)))[t % 2]!) := by
      rcases (by omega : t % 2 = 0 ∨ t % 2 = 1) with h | h
      · rw [show t = t / 2 * 2 by omega, hg.1, show t / 2 * 2 / 2 = t / 2 by omega, show t / 2 * 2 % 2 = 0 by omega]; rfl
      · rw [show t = t / 2 * 2 + 1 by omega, hg.2, show (t / 2 * 2 + 1) / 2 = t / 2 by omega, show (t / 2 * 2 + 1) % 2 = 1 by omega]; rfl
    rw [getElem!_pos (prs ps).toArray t (by simpa using hl)]
    rw [List.getElem?_eq_getElem hl] at key
    simpa using (Option.some.inj key).symm

theorem OwnP.holds {w : World} {B g n c : Nat} {ps : List Pr} (h : OwnP w B (.slice (some ⟨g, 0, none⟩) n c) ps) : HoldsK encP 2 w g 0 ps.toArray ∧ g < w.heap.size ∧ B ≤ g ∧ n = ps.length := by
  rcases h.2 with ⟨e, _⟩ | ⟨g', cap, cur, e, hb, hg, hn, hc, hs, ht⟩
  · cases e
  · obtain ⟨e1, rfl, rfl⟩ := Value.slice.inj e
    have e2 : g = g' := by simpa using e1
    subst e2
    have hl := (Array.getElem?_eq_some_iff.1 hg).1
    refine ⟨?_, hl, hb, rfl⟩
    unfold HoldsK
    rw [flat_prs]
    intro j hj
    simp only [List.size_toArray] at hj
    constructor
    · have := World.ownsRow.cells h (g := g) rfl j ((prs ps)[j]) (List.getElem?_eq_getElem hj)
      rw [addr_plus] at this
      rw [this]
      simp [getElem!_pos, hj]
    · simp [World.frozen?, hg]

theorem grown_sortWorldK (w : World) (g n : Nat) (d : Array Pr) (os : Array Obj) : w.grownBy (sortWorldK encP 2 w g 0 n d os) (some g) := by
  refine ⟨rfl, rfl, rfl, size_sortWorldK_c encP 2 w g 0 n d os, fun k hk hne => ?_⟩
  have hne' : g ≠ k := fun e => hne (by rw [e])
  show ((w.heap.modify g _) ++ os)[k]? = _
  rw [Array.getElem?_append_left (by simpa using hk)]
  simp [Array.getElem?_modify, hne']

theorem prs_sortWorldK {w : World} {g c n : Nat} {d d' : Array Pr} {os : Array Obj} (h : HoldsK encP 2 w g 0 d) (hg : g < w.heap.size) (hs : d'.size = d.size) (hc : d.size ≤ c) (hm : c ≤ maxLen) :
    Prs (sortWorldK encP 2 w g 0 n d' os) (.slice (some ⟨g, 0, none⟩) d.size c) d'.toList := by
  have H := holdsK_sortWorldK_c encP 2 w g 0 d d' n os h hg hs
  have e : d'.toList.toArray = d' := by simp
  rw [← e] at H
  unfold HoldsK at H
  rw [flat_prs] at H
  refine .inr ⟨g, 0, c, by simp [hs], by simpa [hs] using hc, hm, Nat.lt_of_lt_of_le hg (size_sortWorldK_c encP 2 w g 0 n _ os), fun i hi => ?_⟩
  have hgg := prs_get d'.toList i hi
  have hl := prs_len d'.toList
  have a := (H (i * 2) (by simp only [List.size_toArray]; omega)).1
  have b := (H (i * 2 + 1) (by simp only [List.size_toArray]; omega)).1
  have l0 : i * 2 < (prs d'.toList).length := by omega
  have l1 : i * 2 + 1 < (prs d'.toList).length := by omega
  rw [List.getElem?_eq_getElem l0] at hgg
  rw [List.getElem?_eq_getElem l1] at hgg
  rw [e] at a b
  refine ⟨by rw [a]; rw [getElem!_pos _ _ (by simpa using l0)]; simpa using hgg.1, ?_⟩
  rw [Nat.add_assoc, b, getElem!_pos _ _ (by simpa using l1)]
  simpa using hgg.2

/-- The order of a list: none behind is less. -/
def SortedL (cf : Pr → Pr → Int) (qs : List Pr) : Prop := ∀ i j, i < j → j < qs.length → ltOf cf (pr qs j) (pr qs i) = false

section
variable (g : Nat) (cf : Pr → Pr → Int) (eg : ∀ args w, (callFunc g args).run Try.prog w = .ok (.enter g args) w) (hg : ∀ x y W, Calls Try.prog g #[.agg (encP x).toArray, .agg (encP y).toArray] W fun e w' => e = .returned (.int .i64 (cf x y)) ∧ ∃ q os, w' = grow (W.drewN q) os)
include eg hg

end

end Go.Proofs.Ytnpogmhfdjmfdaa.T

/-
  The pairs of a slice, ranged over and collected: slices.Values, slices.AppendSeq, slices.Collect.
-/
namespace Go.Proofs.Ytnpogmhfdjmfdaa.T
open Go.RowKit Go.Shelf

attribute [local go_sem] Oper.semAt_some

/-- The value v reads as pairs, in a block below n₀. -/
def InP (n₀ : Nat) (w : World) (v : Value) (ps : List Pr) : Prop :=
  (v = .slice none 0 0 ∧ ps = []) ∨
  ∃ b o c, v = .slice (some ⟨b, o, none⟩) ps.length c ∧ ps.length ≤ c ∧ c ≤ maxLen ∧ b < n₀ ∧ ∀ i, i < ps.length → w.cell? ⟨b, o + i * 2, none⟩ = some (.int .i64 (pr ps i).1) ∧ w.cell? ⟨b, o + i * 2 + 1, none⟩ = some (.int .i64 (pr ps i).2)
theorem InP.below {n₀ : Nat} {w w' : World} {v : Value} {ps : List Pr} (h : InP n₀ w v ps) (hb : Below n₀ w w') : InP n₀ w' v ps := by
  rcases h with h | ⟨b, o, c, e, h1, h2, h3, h4⟩
  · exact .inl h
  · exact .inr ⟨b, o, c, e, h1, h2, h3, fun i hi => ⟨(hb.cell (p := ⟨b, o + i * 2, none⟩) h3).trans (h4 i hi).1, (hb.cell (p := ⟨b, o + i * 2 + 1, none⟩) h3).trans (h4 i hi).2⟩⟩
theorem Prs.inP {w : World} {v : Value} {ps : List Pr} (h : Prs w v ps) : InP w.heap.size w v ps := h

/-- Block B is a pair. -/
def Box2 (W : World) (B : Nat) (x : Pr) : Prop := W.heap[B]? = some (.cells #[.int .i64 x.1, .int .i64 x.2] 94 (0, 0))
theorem Box2.cell0 {W : World} {B : Nat} {x : Pr} (h : Box2 W B x) : W.cell? ⟨B, 0, none⟩ = some (.int .i64 x.1) := by unfold Box2 at h; simp [World.cell?, h]
theorem Box2.cell1 {W : World} {B : Nat} {x : Pr} (h : Box2 W B x) : W.cell? ⟨B, 1, none⟩ = some (.int .i64 x.2) := by unfold Box2 at h; simp [World.cell?, h]
theorem box2_own (B : Nat) (x : Pr) {X Y : World} {row : Option Nat} (h : Box2 X B x) (hg : X.grownBy Y row) (hr : ∀ r, row = some r → ∃ o : Obj, X.heap[r]? = some o ∧ o.isCells = false) : Box2 Y B x := by
  unfold Box2 at h ⊢
  refine (hg.block B (Array.getElem?_eq_some_iff.1 h).1 (fun e => ?_)).trans h
  obtain ⟨o, ho, hc⟩ := hr B e.symm
  rw [h] at ho
  cases ho
  cases hc

end Go.Proofs.Ytnpogmhfdjmfdaa.T

/-
  Pairs in order: the program's inOrder, by things, and by numbers.
-/
namespace Go.Proofs.Ytnpogmhfdjmfdaa.T
open Go.RowKit Go.Sort Go.Shelf

/-- What a sorting answers. -/
def Sorted (cf : Pr → Pr → Int) (w : World) (ps : List Pr) (w' : World) (u : Value) : Prop := ∃ qs : List Pr, qs.Perm ps ∧ SortedL cf qs ∧ Prs w' u qs ∧ Below w.heap.size w w'

def cmpT (x y : Pr) : Int := cmpV x.1 y.1
theorem cmpV_neg (a b : Int) : cmpV a b < 0 ↔ a < b := by
  unfold cmpV
  by_cases h : a < b
  · simp [h]
  · by_cases h' : b < a <;> simp [h, h']
theorem cmpV_zero (a b : Int) : cmpV a b = 0 ↔ a = b := by
  unfold cmpV
  by_cases h : a < b
  · simp [h]; omega
  · by_cases h' : b < a
    · simp [h, h']; omega
    · simp [h, h']; omega
theorem ltT_iff (x y : Pr) : ltOf cmpT x y = true ↔ x.1 < y.1 := by
  simp only [ltOf, cmpT, decide_eq_true_eq, cmpV_neg]
theorem ltN_iff (x y : Pr) : ltOf cmpN x y = true ↔ y.2 < x.2 ∨ (y.2 = x.2 ∧ x.1 < y.1) := by
  simp only [ltOf, cmpN, orV]
  have h0 := cmpV_zero y.2 x.2
  have h1 := cmpV_neg y.2 x.2
  have h2 := cmpV_neg x.1 y.1
  split
  · rw [decide_eq_true_eq, h2]; omega
  · rw [decide_eq_true_eq, h1]; omega
theorem ltT_no (x y : Pr) : ltOf cmpT x y = false ↔ ¬ x.1 < y.1 := by rw [← ltT_iff]; simp
theorem ltN_no (x y : Pr) : ltOf cmpN x y = false ↔ ¬ (y.2 < x.2 ∨ (y.2 = x.2 ∧ x.1 < y.1)) := by rw [← ltN_iff]; simp
theorem swoT : SWO (ltOf cmpT) := ⟨fun x => by rw [ltT_no]; omega, fun x y z => by simp only [ltT_iff]; omega, fun x y z => by simp only [ltT_no]; omega⟩
theorem swoN : SWO (ltOf cmpN) := ⟨fun x => by rw [ltN_no]; omega, fun x y z => by simp only [ltN_iff]; omega, fun x y z => by simp only [ltN_no]; omega⟩

end Go.Proofs.Ytnpogmhfdjmfdaa.T

/-
  The pairs of both, one behind the other: slices.Grow of nothing, slices.Concat of two.
-/
namespace Go.Proofs.Ytnpogmhfdjmfdaa.T
open Go.RowKit Go.Sort

theorem row_form {w : World} {B : Nat} {e : TypeId} {size n : Nat} {v : Value} {xs : List Value} (h : w.ownsRow B e size v n xs) : ∃ x c, v = .slice x n c := by
  rcases h.2 with ⟨rfl, h0⟩ | ⟨g, cap, cur, rfl, _⟩
  · exact ⟨none, 0, by rw [h0]⟩
  · exact ⟨_, _, rfl⟩
theorem prs_one (ps : List Pr) : ∀ u ∈ prs ps, u.oneCell' = true := by
  induction ps with
  | nil => intro u hu; cases hu
  | cons p ps ih =>
    intro u hu
    rw [prs_cons] at hu
    simp only [List.mem_cons] at hu
    rcases hu with rfl | rfl | hu
    · rfl
    · rfl
    · exact ih u hu
theorem Prs.news {w : World} {b o n c : Nat} {ps : List Pr} (h : Prs w (.slice (some ⟨b, o, none⟩) n c) ps) : ∀ j u, (prs ps)[j]? = some u → w.cell? ((⟨b, o, none⟩ : Addr).add j) = some u := fun j u hu => by
  have hj : j < (prs ps).length := (List.getElem?_eq_some_iff.1 hu).1
  rw [prs_len] at hj
  obtain ⟨b', o', e, _, h1, h2⟩ := h.cells (j / 2) (by omega)
  cases e
  have hg := prs_get ps (j / 2) (by omega)
  rw [addr_plus]
  rcases (by omega : j % 2 = 0 ∨ j % 2 = 1) with h0 | h0
  · have e : j = j / 2 * 2 := by omega
    rw [e] at hu ⊢
    rw [hg.1] at hu
    rw [h1, ← hu]
  · have e : j = j / 2 * 2 + 1 := by omega
    rw [e] at hu ⊢
    rw [hg.2] at hu
    rw [← Nat.add_assoc, h2, ← hu]

end Go.Proofs.Ytnpogmhfdjmfdaa.T
