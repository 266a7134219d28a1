/-
  Several texts in one: KPair, KBox, KInts, KSpan, KOk, KNums, KSqz, KList, KBelow.
-/
import Derived.Test.YtnpogmhfdjmfdaaBa
import Derived.Maps.AppendAt
import Derived.OneCell
import Derived.Deep.OwnRows
import Derived.IntWalk
import Derived.BigQuiet
import Derived.Deep.RegionLaw
import Derived.Deep.AppendLies
set_option linter.unusedVariables false
/-
  How pairs of a thing and a number lie in memory: words for readings, and for what is a call's own.
-/
namespace Go.Proofs.Ytnpogmhfdjmfdaa.K
open Go.RowKit Go.Sort

abbrev Pr := Int × Int
/-- Pair i; nothing past the end. -/
def pr (ps : List Pr) (i : Nat) : Pr := ps.getD i (0, 0)
def prs (ps : List Pr) : List Value := ps.flatMap fun p => [.int .i64 p.1, .int .i64 p.2]
theorem prs_nil : prs [] = [] := rfl
theorem prs_cons (p : Pr) (ps : List Pr) : prs (p :: ps) = .int .i64 p.1 :: .int .i64 p.2 :: prs ps := rfl
theorem prs_append (ps qs : List Pr) : prs (ps ++ qs) = prs ps ++ prs qs := by simp [prs]
theorem prs_snoc (ps : List Pr) (p : Pr) : prs (ps ++ [p]) = prs ps ++ [.int .i64 p.1, .int .i64 p.2] := by simp [prs]
theorem prs_len (ps : List Pr) : (prs ps).length = ps.length * 2 := by
  induction ps with
  | nil => rfl
  | cons p ps ih => rw [prs_cons]; simp [ih]; omega
theorem prs_get (ps : List Pr) (i : Nat) (h : i < ps.length) : (prs ps)[i * 2]? = some (.int .i64 (pr ps i).1) ∧ (prs ps)[i * 2 + 1]? = some (.int .i64 (pr ps i).2) := by
  induction ps generalizing i with
  | nil => cases h
  | cons p ps ih =>
    rw [prs_cons]
    cases i with
    | zero => exact ⟨rfl, rfl⟩
    | succ i =>
      have := ih i (by simpa using h)
      rw [show (i + 1) * 2 = i * 2 + 1 + 1 by omega]
      simp only [List.getElem?_cons_succ]
      exact this
theorem pr_mem {ps : List Pr} {i : Nat} (h : i < ps.length) : pr ps i ∈ ps := getD_mem ps i (0, 0) h
theorem pr_at {ps : List Pr} {p : Pr} (h : p ∈ ps) : ∃ i, i < ps.length ∧ pr ps i = p := by
  obtain ⟨i, hi, rfl⟩ := List.getElem_of_mem h
  exact ⟨i, hi, by simp [pr, hi]⟩

/-- The value v reads in w as the pairs ps. -/
def Prs (w : World) (v : Value) (ps : List Pr) : Prop :=
  (v = .slice none 0 0 ∧ ps = []) ∨
  ∃ b o cap, v = .slice (some ⟨b, o, none⟩) ps.length cap ∧ ps.length ≤ cap ∧ cap ≤ maxLen ∧ b < w.heap.size ∧
    ∀ i, i < ps.length → w.cell? ⟨b, o + i * 2, none⟩ = some (.int .i64 (pr ps i).1) ∧ w.cell? ⟨b, o + i * 2 + 1, none⟩ = some (.int .i64 (pr ps i).2)

theorem Prs.below {w w' : World} {v : Value} {ps : List Pr} (h : Prs w v ps) {B : Nat} (hb : Below B w w') (hB : w.heap.size ≤ B) : Prs w' v ps := by
  rcases h with h | ⟨b, o, cap, rfl, h1, h2, h3, h4⟩
  · exact .inl h
  · exact .inr ⟨b, o, cap, rfl, h1, h2, Nat.lt_of_lt_of_le h3 hb.size, fun i hi => by
      rw [hb.cell (by show b < B; omega), hb.cell (by show b < B; omega)]; exact h4 i hi⟩
theorem Prs.form {w : World} {v : Value} {ps : List Pr} (h : Prs w v ps) : ∃ x c, v = .slice x ps.length c ∧ ps.length ≤ c ∧ c ≤ maxLen := by
  rcases h with ⟨rfl, rfl⟩ | ⟨b, o, cap, rfl, h1, h2, _⟩
  · exact ⟨none, 0, rfl, Nat.le_refl _, Nat.zero_le _⟩
  · exact ⟨_, _, rfl, h1, h2⟩
theorem Prs.cells {w : World} {x : Option Addr} {n c : Nat} {ps : List Pr} (h : Prs w (.slice x n c) ps) : ∀ i, i < ps.length → ∃ b o, x = some ⟨b, o, none⟩ ∧ b < w.heap.size ∧ w.cell? ⟨b, o + i * 2, none⟩ = some (.int .i64 (pr ps i).1) ∧ w.cell? ⟨b, o + i * 2 + 1, none⟩ = some (.int .i64 (pr ps i).2) := fun i hi => by
  rcases h with ⟨_, rfl⟩ | ⟨b, o, cap, e, h1, h2, h3, h4⟩
  · cases hi
  · exact ⟨b, o, (Value.slice.inj e).1, h3, h4 i hi⟩

/-- The value v is the pairs ps, in a block of the call's own. -/
def OwnP (w : World) (B : Nat) (v : Value) (ps : List Pr) : Prop := w.ownsRow B 96 2 v ps.length (prs ps)
theorem addr_plus (b o i : Nat) : (⟨b, o, none⟩ : Addr).add i = ⟨b, o + i, none⟩ := by unfold Addr.add; split <;> simp_all
theorem OwnP.rd {w : World} {B : Nat} {v : Value} {ps : List Pr} (h : OwnP w B v ps) : Prs w v ps := by
  rcases h.2 with ⟨rfl, h0⟩ | ⟨g, cap, cur, rfl, hb, hg, hn, hc, hs, ht⟩
  · exact .inl ⟨rfl, List.eq_nil_of_length_eq_zero h0⟩
  · refine .inr ⟨g, 0, cap, rfl, hn, hc, (Array.getElem?_eq_some_iff.1 hg).1, fun i hi => ?_⟩
    have e := prs_get ps i hi
    have a := World.ownsRow.cells h (g := g) rfl _ _ e.1
    have b := World.ownsRow.cells h (g := g) rfl _ _ e.2
    rw [addr_plus] at a b
    exact ⟨a, by rw [Nat.add_assoc]; exact b⟩
theorem OwnP.base {w : World} {B B' : Nat} {v : Value} {ps : List Pr} (h : OwnP w B v ps) (hB : B' ≤ B) : OwnP w B' v ps := ownsRow_base h hB
theorem OwnP.kept {w w' : World} {B : Nat} {v : Value} {ps : List Pr} {row : Option Nat} (h : OwnP w B v ps) (hg : w.grownBy w' row) (hr : ∀ k, row = some k → k < B) : OwnP w' B v ps := by
  refine World.ownsRow.kept h hg ?_
  cases hv : v.ownBlock with
  | none => exact .inl rfl
  | some k => exact .inr (fun e => by have := (World.ownsRow.lt h k hv).1; have := hr k e.symm; omega)
theorem OwnP.keep {w w' : World} {B : Nat} {v : Value} {ps : List Pr} {row : Option Nat} (h : OwnP w B v ps) (hg : w.grownBy w' row) (hr : v.ownBlock ≠ row) : OwnP w' B v ps := World.ownsRow.kept h hg (.inr hr)
theorem OwnP.alloc {w : World} {B : Nat} {v : Value} {ps : List Pr} (h : OwnP w B v ps) (o : Obj) : OwnP (w.alloc o) B v ps := World.ownsRow.alloc h o
theorem OwnP.below {w w' : World} {B : Nat} {v : Value} {ps : List Pr} (h : OwnP w B v ps) (hb : Below w.heap.size w w') : OwnP w' B v ps := h.kept (row := none) (grownBy_below hb) (fun _ e => by cases e)
theorem OwnP.nil (w : World) (B : Nat) : OwnP w B (.slice none 0 0) [] := World.ownsRow_nil w B _ 2
theorem OwnP.form {w : World} {B : Nat} {v : Value} {ps : List Pr} (h : OwnP w B v ps) : ∃ x c, v = .slice x ps.length c ∧ ps.length ≤ c ∧ c ≤ maxLen := h.rd.form
theorem OwnP.lt {w : World} {B : Nat} {p : Value} {ps : List Pr} (hp : OwnP w B p ps) : ∀ k, p.ownBlock = some k → k < w.heap.size := fun k e => (World.ownsRow.lt hp k e).2
theorem pair_info : (Try.prog.info? 96).map (fun i => (i.zero, i.size, i.bytes)) = some (some (.agg #[.int .i64 0, .int .i64 0]), 2, 16) := by kernel_rfl
theorem pair_empty (w : World) (B : Nat) (hB : B ≤ w.heap.size) : OwnP (w.alloc (.cells #[] 96)) B (.slice (some ⟨w.heap.size, 0, none⟩) 0 0) [] :=
  World.ownsRow_lit (base := B) (e := 96) (size := 2) w #[] 0 hB (by simp [maxLen]) (by simp)

end Go.Proofs.Ytnpogmhfdjmfdaa.K

/-
  A block of two cells: a struct of two fields that lies by itself.
-/
namespace Go.Proofs.Ytnpogmhfdjmfdaa.K
open Go.RowKit Go.Sort

/-- Block b is a struct of two cells. -/
def Box2 (W : World) (b : Nat) (t : TypeId) (x y : Value) : Prop := W.heap[b]? = some (.cells #[x, y] t (0, 0))
section
variable {W W' : World} {b : Nat} {t : TypeId} {x y : Value}
theorem Box2.lt (h : Box2 W b t x y) : b < W.heap.size := (Array.getElem?_eq_some_iff.1 h).1
theorem Box2.new (W : World) (t : TypeId) (x y : Value) : Box2 (W.alloc (.cells #[x, y] t)) W.heap.size t x y := heap_alloc_new W _
theorem Box2.below (h : Box2 W b t x y) {B : Nat} (hb : Below B W W') (hB : b < B) : Box2 W' b t x y := (hb.block b hB).trans h
theorem Box2.later (h : Box2 W b t x y) (hb : Below W.heap.size W W') : Box2 W' b t x y := h.below hb h.lt
theorem Box2.drew (h : Box2 W b t x y) : Box2 W.drew b t x y := h
theorem Box2.drewN (h : Box2 W b t x y) (n : Nat) : Box2 (W.drewN n) b t x y := h
theorem Box2.alloc (h : Box2 W b t x y) (o : Obj) : Box2 (W.alloc o) b t x y := h.later ((Below.refl _ _).alloc (Nat.le_refl _) o)
theorem Box2.kept {row : Option Nat} (h : Box2 W b t x y) (hg : W.grownBy W' row) (hr : row ≠ some b) : Box2 W' b t x y := (hg.block b h.lt (fun e => hr e.symm)).trans h
theorem Box2.cell0 (h : Box2 W b t x y) : W.cell? ⟨b, 0, none⟩ = some x := by unfold Box2 at h; simp [World.cell?, h]
theorem Box2.cell1 (h : Box2 W b t x y) : W.cell? ⟨b, 1, none⟩ = some y := by unfold Box2 at h; simp [World.cell?, h]
theorem Box2.free (h : Box2 W b t x y) (i : Nat) : W.frozen? ⟨b, i, none⟩ = false := by unfold Box2 at h; simp [World.frozen?, h]
theorem Box2.set0 (h : Box2 W b t x y) (u : Value) : Box2 (W.setCell ⟨b, 0, none⟩ u) b t u y := by unfold Box2 at h ⊢; rw [heap_setCell_same W b 0 _ _ _ h]; rfl
theorem Box2.set1 (h : Box2 W b t x y) (u : Value) : Box2 (W.setCell ⟨b, 1, none⟩ u) b t x u := by unfold Box2 at h ⊢; rw [heap_setCell_same W b 1 _ _ _ h]; rfl
theorem Box2.set (h : Box2 W b t x y) (x' y' : Value) : Box2 ((W.setCell ⟨b, 0, none⟩ x').setCell ⟨b, 1, none⟩ y') b t x' y' := (h.set0 x').set1 y'
theorem Box2.not_row {B : Nat} {e : TypeId} {size n : Nat} {v : Value} {xs : List Value} (h : Box2 W b t x y) (ht : t ≠ e) (ho : W.ownsRow B e size v n xs) : v.ownBlock ≠ some b := fun hb => by
  rcases ho.2 with ⟨rfl, _⟩ | ⟨g, cap, cur, rfl, _, hg, _⟩
  · cases hb
  · obtain rfl : g = b := by simpa [Value.ownBlock] using hb
    unfold Box2 at h
    rw [hg] at h
    cases h
    exact ht rfl
end
theorem below_set2 {B b : Nat} {w W : World} (h : Below B w W) (hb : B ≤ b) (x y : Value) : Below B w ((W.setCell ⟨b, 0, none⟩ x).setCell ⟨b, 1, none⟩ y) := (h.setCell hb _).setCell hb _
theorem OwnP.set2 {W : World} {B b : Nat} {v : Value} {ps : List Pr} (h : OwnP W B v ps) (hv : v.ownBlock ≠ some b) (x y : Value) : OwnP ((W.setCell ⟨b, 0, none⟩ x).setCell ⟨b, 1, none⟩ y) B v ps :=
  (h.keep (grownBy_setCell W ⟨b, 0, none⟩ x) hv).keep (grownBy_setCell _ ⟨b, 1, none⟩ y) hv

end Go.Proofs.Ytnpogmhfdjmfdaa.K

/-
  Numbers in a block of the call's own, written by place.
-/
namespace Go.Proofs.Ytnpogmhfdjmfdaa.K
open Go.RowKit Go.Sort

theorem int_info : (Try.prog.info? 3).map (fun i => (i.zero, i.size, i.bytes)) = some (some (.int .i64 0), 1, 8) := by kernel_rfl
/-- The value v is the numbers zs, in a block of the call's own. -/
def OwnI (w : World) (B : Nat) (v : Value) (zs : List Int) : Prop := w.ownsRow B 3 1 v zs.length (ints zs)
theorem OwnI.base {w : World} {B B' : Nat} {v : Value} {zs : List Int} (h : OwnI w B v zs) (hB : B' ≤ B) : OwnI w B' v zs := ownsRow_base h hB
theorem OwnI.kept {w w' : World} {B : Nat} {v : Value} {zs : List Int} {row : Option Nat} (h : OwnI w B v zs) (hg : w.grownBy w' row) (hr : ∀ k, row = some k → k < B) : OwnI w' B v zs := by
  refine World.ownsRow.kept h hg ?_
  cases hv : v.ownBlock with
  | none => exact .inl rfl
  | some k => exact .inr (fun e => by have := (World.ownsRow.lt h k hv).1; have := hr k e.symm; omega)
theorem OwnI.keep {w w' : World} {B : Nat} {v : Value} {zs : List Int} {row : Option Nat} (h : OwnI w B v zs) (hg : w.grownBy w' row) (hr : v.ownBlock ≠ row) : OwnI w' B v zs := World.ownsRow.kept h hg (.inr hr)
theorem OwnI.below {w w' : World} {B : Nat} {v : Value} {zs : List Int} (h : OwnI w B v zs) (hb : Below w.heap.size w w') : OwnI w' B v zs := h.kept (row := none) (grownBy_below hb) (fun _ e => by cases e)
theorem OwnI.alloc {w : World} {B : Nat} {v : Value} {zs : List Int} (h : OwnI w B v zs) (o : Obj) : OwnI (w.alloc o) B v zs := World.ownsRow.alloc h o
theorem ints_set (zs : List Int) (k : Nat) (x : Int) : (ints zs).set k (.int .i64 x) = ints (zs.set k x) := by simp [ints, List.map_set]
/-- A row of n places, in block g. -/
def RowI (w : World) (B g n c : Nat) (zs : List Int) : Prop := zs.length = n ∧ w.ownsRow B 3 1 (.slice (some ⟨g, 0, none⟩) n c) n (ints zs)
section
variable {w w' : World} {B g n c : Nat} {zs : List Int}
theorem RowI.own (h : RowI w B g n c zs) : OwnI w B (.slice (some ⟨g, 0, none⟩) n c) zs := by unfold OwnI; rw [h.1]; exact h.2
theorem RowI.cell (h : RowI w B g n c zs) {i : Nat} (hi : i < n) : w.cell? ⟨g, i, none⟩ = some (.int .i64 (zs.getD i 0)) := by
  rw [h.2.cellAt i (by omega)]
  exact ints_get _ _ (by rw [h.1]; exact hi)
theorem RowI.free (h : RowI w B g n c zs) (i : Nat) : w.frozen? ⟨g, i, none⟩ = false := h.2.frozenAt i
theorem RowI.set (h : RowI w B g n c zs) (i : Nat) (x : Int) : RowI (w.setCell ⟨g, i, none⟩ (.int .i64 x)) B g n c (zs.set i x) := by
  have hs := (h.2.stored i (.int .i64 x)).1
  rw [ints_set] at hs
  exact ⟨by simpa using h.1, hs⟩
theorem RowI.grown (h : RowI w B g n c zs) (i : Nat) (x : Int) : w.grownBy (w.setCell ⟨g, i, none⟩ (.int .i64 x)) (some g) := (h.2.stored i (.int .i64 x)).2
theorem RowI.below (h : RowI w B g n c zs) (hb : Below w.heap.size w w') : RowI w' B g n c zs := by
  have h2 := h.own.below hb
  unfold OwnI at h2
  rw [h.1] at h2
  exact ⟨h.1, h2⟩
theorem RowI.alloc (h : RowI w B g n c zs) (o : Obj) : RowI (w.alloc o) B g n c zs := ⟨h.1, World.ownsRow.alloc h.2 o⟩
theorem RowI.drewN (h : RowI w B g n c zs) (k : Nat) : RowI (w.drewN k) B g n c zs := h
theorem RowI.lt (h : RowI w B g n c zs) : B ≤ g ∧ g < w.heap.size := World.ownsRow.lt h.2 g rfl
end
theorem made_ints (w : World) (n : Nat) (hn : n ≤ 1048576) : RowI (w.alloc (.cells (madeCells #[.int .i64 0] n) 3)) w.heap.size w.heap.size n n (List.replicate n 0) := by
  have := World.ownsRow_lit (base := w.heap.size) (e := 3) (size := 1) w (madeCells #[.int .i64 0] n) n (Nat.le_refl _) (by unfold maxLen; omega) (by rw [size_madeCells]; omega)
  rw [toList_madeCells_one] at this
  exact ⟨by simp, by simpa [ints] using this⟩

end Go.Proofs.Ytnpogmhfdjmfdaa.K

/-
  From which thing to which one a knot is: the model's l4Span and RankSpan.
-/
namespace Go.Proofs.Ytnpogmhfdjmfdaa.K
open Go.RowKit Go.Sort

def dblL : Nat → Int → Int
  | 0, x => x
  | f + 1, x => if x < 64 then dblL f (2 * x) else x
def dblH : Nat → Int → Int → Int
  | 0, _, h => h
  | f + 1, x, h => if x < 64 then dblH f (2 * x) (2 * h + 1) else h
/-- The first, and the last, thing of a knot. -/
def lowT (a : Int) : Int := dblL 7 a - 64
def highT (a : Int) : Int := dblH 7 a a - 64
theorem dbl_stop (f : Nat) {x : Int} (h : 64 ≤ x) : dblL f x = x ∧ ∀ y, dblH f x y = y := by
  cases f with
  | zero => exact ⟨rfl, fun _ => rfl⟩
  | succ f => simp [dblL, dblH, show ¬ x < 64 by omega]
theorem dbl_step (f : Nat) {x : Int} (h : x < 64) : dblL (f + 1) x = dblL f (2 * x) ∧ ∀ y, dblH (f + 1) x y = dblH f (2 * x) (2 * y + 1) := by
  simp [dblL, dblH, h]
/-- What one knot is, of all that there are. -/
theorem span_all : ∀ n : Nat, n < 127 → (0 ≤ lowT ((n : Int) + 1) ∧ lowT ((n : Int) + 1) ≤ highT ((n : Int) + 1) ∧ highT ((n : Int) + 1) ≤ 63) ∧ (63 ≤ n → lowT ((n : Int) + 1) = (n : Int) + 1 - 64 ∧ highT ((n : Int) + 1) = (n : Int) + 1 - 64) ∧
    (n < 63 → lowT (2 * ((n : Int) + 1)) = lowT ((n : Int) + 1) ∧ highT (2 * ((n : Int) + 1)) + 1 = lowT (2 * ((n : Int) + 1) + 1) ∧ highT (2 * ((n : Int) + 1) + 1) = highT ((n : Int) + 1) ∧ highT (2 * ((n : Int) + 1)) - lowT (2 * ((n : Int) + 1)) = highT ((n : Int) + 1) - highT (2 * ((n : Int) + 1)) - 1) := by decide +kernel

end Go.Proofs.Ytnpogmhfdjmfdaa.K

/-
  Whether knots are in form: the model's RankOk.
-/
namespace Go.Proofs.Ytnpogmhfdjmfdaa.K
open Go.RowKit Go.Sort

def sumP (ps : List Pr) : Int := (ps.map (·.2)).sum
theorem sumP_nil : sumP [] = 0 := rfl
theorem sumP_append (ps qs : List Pr) : sumP (ps ++ qs) = sumP ps + sumP qs := by simp [sumP]
theorem take_succ_pr (ps : List Pr) (k : Nat) (h : k < ps.length) : ps.take (k + 1) = ps.take k ++ [pr ps k] := by
  rw [List.take_succ_eq_append_getElem h]; simp [pr, h]
theorem sumP_succ (ps : List Pr) (k : Nat) (h : k < ps.length) : sumP (ps.take (k + 1)) = sumP (ps.take k) + (pr ps k).2 := by
  rw [take_succ_pr ps k h, sumP_append]; simp [sumP]

/-- Knot i is in form. -/
def KnG (ps : List Pr) (all : Int) (i : Nat) : Prop := ((1 ≤ (pr ps i).1 ∧ (pr ps i).1 ≤ 127) ∧ 1 ≤ (pr ps i).2 ∧ (pr ps i).2 ≤ 2000) ∧ (0 < i → (pr ps (i - 1)).1 < (pr ps i).1) ∧ ((pr ps i).1 < 64 → (pr ps i).2 ≤ all / 8)
instance (ps : List Pr) (all : Int) (i : Nat) : Decidable (KnG ps all i) := by unfold KnG; infer_instance
def RankP (ps : List Pr) (all : Int) : Prop := (0 ≤ all ∧ all ≤ 2000) ∧ (∀ i, i < ps.length → KnG ps all i) ∧ sumP ps = all
instance (ps : List Pr) (all : Int) : Decidable (RankP ps all) := by unfold RankP; infer_instance
def rankB (ps : List Pr) (all : Int) : Bool := decide (RankP ps all)
theorem rankB_iff (ps : List Pr) (all : Int) : rankB ps all = true ↔ RankP ps all := by simp [rankB]
theorem rankB_no {ps : List Pr} {all : Int} (h : ¬ RankP ps all) : rankB ps all = false := by simpa [rankB] using h
theorem knG_at {ps : List Pr} {all : Int} {k : Nat} (h : ∀ i, i < k → KnG ps all i) : ∀ i, i < k → (i : Int) + 1 ≤ (pr ps i).1 := fun i hi => by
  induction i with
  | zero => have := (h 0 hi).1.1.1; omega
  | succ i ih =>
    have := ih (by omega)
    have := (h (i + 1) hi).2.1 (by omega)
    simp only [Nat.add_sub_cancel] at this
    omega
theorem knG_few {ps : List Pr} {all : Int} {k : Nat} (h : ∀ i, i < k → KnG ps all i) : k ≤ 127 := by
  cases k with
  | zero => omega
  | succ k =>
    have := knG_at h k (by omega)
    have := (h k (by omega)).1.1.2
    omega
theorem sumK_bd {ps : List Pr} {all : Int} {k : Nat} (hk : k ≤ ps.length) (h : ∀ i, i < k → KnG ps all i) : 0 ≤ sumP (ps.take k) ∧ sumP (ps.take k) ≤ 2000 * k := by
  induction k with
  | zero => simp [sumP]
  | succ k ih =>
    have := ih (by omega) (fun i hi => h i (by omega))
    have g := (h k (by omega)).1.2
    rw [sumP_succ ps k (by omega)]
    omega

end Go.Proofs.Ytnpogmhfdjmfdaa.K

/-
  How much was counted at each knot: the model's l4Nums.
-/
namespace Go.Proofs.Ytnpogmhfdjmfdaa.K
open Go.RowKit Go.Sort

def addN (a : List Int) (p : Pr) : List Int := a.set p.1.toNat (a.getD p.1.toNat 0 + p.2)
def numsV (ps : List Pr) : List Int := ps.foldl addN (List.replicate 128 0)
theorem numsV_len (ps : List Pr) : (numsV ps).length = 128 := by
  unfold numsV
  have : ∀ (ps : List Pr) (a : List Int), a.length = 128 → (ps.foldl addN a).length = 128 := by
    intro ps
    induction ps with
    | nil => intro a h; exact h
    | cons p ps ih => intro a h; exact ih _ (by simpa [addN] using h)
  exact this ps _ (by simp)
theorem numsV_succ (ps : List Pr) (k : Nat) (h : k < ps.length) : numsV (ps.take (k + 1)) = addN (numsV (ps.take k)) (pr ps k) := by
  rw [take_succ_pr ps k h]; simp [numsV]
/-- Things of a knot that is one, and numbers that are not much. -/
def KnB (ps : List Pr) : Prop := ∀ i, i < ps.length → (0 ≤ (pr ps i).1 ∧ (pr ps i).1 ≤ 127) ∧ 0 ≤ (pr ps i).2 ∧ (pr ps i).2 ≤ 2000
theorem numsV_bd {ps : List Pr} (h : KnB ps) : ∀ k, k ≤ ps.length → ∀ i, 0 ≤ (numsV (ps.take k)).getD i 0 ∧ (numsV (ps.take k)).getD i 0 ≤ 2000 * (k : Int) := by
  intro k
  induction k with
  | zero =>
    intro _ i
    have e0 : ∀ n, (List.replicate n (0 : Int)).getD i 0 = 0 := fun n => by
      by_cases hi : i < n <;> simp [hi]
    have e := e0 128
    show 0 ≤ (List.replicate 128 (0 : Int)).getD i 0 ∧ (List.replicate 128 (0 : Int)).getD i 0 ≤ _
    rw [e]; omega
  | succ k ih =>
    intro hk i
    have h1 := ih (by omega) i
    have h2 := ih (by omega) (pr ps k).1.toNat
    have h3 := (h k (by omega)).2
    rw [numsV_succ ps k (by omega)]
    unfold addN
    by_cases e : (pr ps k).1.toNat = i
    · subst e
      by_cases hl : (pr ps k).1.toNat < (numsV (ps.take k)).length
      · rw [List.getD_eq_getElem?_getD, List.getElem?_set_self hl]
        simp only [Option.getD_some]
        omega
      · rw [List.set_eq_of_length_le (by omega)]; omega
    · have e1 : ((numsV (ps.take k)).set (pr ps k).1.toNat ((numsV (ps.take k)).getD (pr ps k).1.toNat 0 + (pr ps k).2)).getD i 0 = (numsV (ps.take k)).getD i 0 := by simp [e]
      rw [e1]; omega

end Go.Proofs.Ytnpogmhfdjmfdaa.K

/-
  What is little is counted above: the model's l4Squeeze.
-/
namespace Go.Proofs.Ytnpogmhfdjmfdaa.K
open Go.RowKit Go.Sort

/-- Knots 2j and 2j+1, counted at j, if both together have something, and with it not more than D. -/
def sq1 (N : List Int) (D : Int) (j : Nat) : List Int :=
  if 0 < N.getD (2 * j) 0 + N.getD (2 * j + 1) 0 ∧ N.getD (2 * j) 0 + N.getD (2 * j + 1) 0 + N.getD j 0 ≤ D then ((N.set j (N.getD j 0 + (N.getD (2 * j) 0 + N.getD (2 * j + 1) 0))).set (2 * j) 0).set (2 * j + 1) 0 else N
/-- The first s steps, from 63 on down. -/
def sqz (N : List Int) (D : Int) : Nat → List Int
  | 0 => N
  | s + 1 => sq1 (sqz N D s) D (63 - s)
theorem sq1_len (N : List Int) (D : Int) (j : Nat) : (sq1 N D j).length = N.length := by unfold sq1; split <;> simp
theorem sqz_len (N : List Int) (D : Int) (s : Nat) : (sqz N D s).length = N.length := by
  induction s with
  | zero => rfl
  | succ s ih => rw [sqz, sq1_len, ih]
def BdN (N : List Int) (M : Int) : Prop := ∀ i, 0 ≤ N.getD i 0 ∧ N.getD i 0 ≤ M
theorem BdN.set {N : List Int} {M : Int} (h : BdN N M) (i : Nat) {x : Int} (h0 : 0 ≤ x) (h1 : x ≤ M) : BdN (N.set i x) M := fun j => by
  have := h j
  by_cases e : i = j
  · subst e
    by_cases hl : i < N.length
    · rw [List.getD_eq_getElem?_getD, List.getElem?_set_self hl]; exact ⟨h0, h1⟩
    · rw [List.set_eq_of_length_le (by omega)]; exact this
  · have e1 : (N.set i x).getD j 0 = N.getD j 0 := by simp [e]
    rw [e1]; exact this
theorem sq1_bd {N : List Int} {M D : Int} (h : BdN N M) (hD : D ≤ M) (hM : 0 ≤ M) (j : Nat) : BdN (sq1 N D j) M := by
  unfold sq1
  split
  · rename_i hc
    have a := h j
    have b := h (2 * j)
    have c := h (2 * j + 1)
    exact ((h.set j (by omega) (by omega)).set _ (Int.le_refl _) hM).set _ (Int.le_refl _) hM
  · exact h
theorem sqz_bd {N : List Int} {M D : Int} (h : BdN N M) (hD : D ≤ M) (hM : 0 ≤ M) (s : Nat) : BdN (sqz N D s) M := by
  induction s with
  | zero => exact h
  | succ s ih => exact sq1_bd ih hD hM _

end Go.Proofs.Ytnpogmhfdjmfdaa.K

/-
  All knots at which something was counted: the model's l4List.
-/
namespace Go.Proofs.Ytnpogmhfdjmfdaa.K
open Go.RowKit Go.Sort

theorem cell_two_new (w : World) (x y : Value) (t : TypeId) : ∀ j u, [x, y][j]? = some u → (w.alloc (.cells #[x, y] t)).cell? ((⟨w.heap.size, 0, none⟩ : Addr).add j) = some u := by
  intro j u hj
  match j, hj with
  | 0, hj => simp at hj; subst hj; simp [Addr.add]
  | 1, hj => simp at hj; subst hj; simp [Addr.add]
theorem OwnP.drewN {w : World} {B : Nat} {v : Value} {ps : List Pr} (h : OwnP w B v ps) (n : Nat) : OwnP (w.drewN n) B v ps := h
theorem own_snocP {w : World} {B no : Nat} {v : Value} {os : List Pr} {t m : Int} (h : w.ownsRow B 96 2 v (no + 1) (prs os ++ [.int .i64 t, .int .i64 m])) (hn : no = os.length) : OwnP w B v (os ++ [(t, m)]) := by
  unfold OwnP
  rw [prs_snoc, List.length_append, ← hn]
  exact h
theorem below_appendP {B : Nat} {w wr w' : World} {o : Obj} {e : TypeId} {size : Nat} {v : Value} {n : Nat} {xs : List Value} (hb : Below B w wr) (hB : B ≤ wr.heap.size) (ho : wr.ownsRow B e size v n xs) (hg : (wr.alloc o).grownBy w' v.ownBlock) : Below B w w' :=
  (hb.alloc hB o).grown hg (Nat.le_trans hB (by simp)) (fun k e => (ho.lt k e).1)

/-- The knots 1 to k at which something was counted. -/
def listK (N : List Int) : Nat → List Pr
  | 0 => []
  | k + 1 => listK N k ++ if 0 < N.getD (k + 1) 0 then [(((k + 1 : Nat) : Int), N.getD (k + 1) 0)] else []
def listV (N : List Int) : List Pr := listK N 127
theorem listK_len (N : List Int) (k : Nat) : (listK N k).length ≤ k := by
  induction k with
  | zero => exact Nat.le_refl _
  | succ k ih => unfold listK; split <;> simp <;> omega

end Go.Proofs.Ytnpogmhfdjmfdaa.K

/-
  How many are up to a thing, at least and at most: the model's RankBelow.
-/
namespace Go.Proofs.Ytnpogmhfdjmfdaa.K
open Go.RowKit Go.Sort

/-- What is counted at knots whose last thing is not above t; and at those whose first is not. -/
def leastP : List Pr → Int → Int
  | [], _ => 0
  | p :: ps, t => (if highT p.1 ≤ t then p.2 else 0) + leastP ps t
def mostP : List Pr → Int → Int
  | [], _ => 0
  | p :: ps, t => (if lowT p.1 ≤ t then p.2 else 0) + mostP ps t
theorem leastP_append (ps qs : List Pr) (t : Int) : leastP (ps ++ qs) t = leastP ps t + leastP qs t := by
  induction ps with
  | nil => simp [leastP]
  | cons p ps ih => simp only [List.cons_append, leastP, ih]; omega
theorem mostP_append (ps qs : List Pr) (t : Int) : mostP (ps ++ qs) t = mostP ps t + mostP qs t := by
  induction ps with
  | nil => simp [mostP]
  | cons p ps ih => simp only [List.cons_append, mostP, ih]; omega
theorem leastP_succ (ps : List Pr) (k : Nat) (t : Int) (h : k < ps.length) : leastP (ps.take (k + 1)) t = leastP (ps.take k) t + if highT (pr ps k).1 ≤ t then (pr ps k).2 else 0 := by
  rw [take_succ_pr ps k h, leastP_append]; simp [leastP]
theorem mostP_succ (ps : List Pr) (k : Nat) (t : Int) (h : k < ps.length) : mostP (ps.take (k + 1)) t = mostP (ps.take k) t + if lowT (pr ps k).1 ≤ t then (pr ps k).2 else 0 := by
  rw [take_succ_pr ps k h, mostP_append]; simp [mostP]
theorem below_bd {ps : List Pr} {all : Int} (t : Int) (h : ∀ i, i < ps.length → KnG ps all i) : ∀ k, k ≤ ps.length → (0 ≤ leastP (ps.take k) t ∧ leastP (ps.take k) t ≤ 2000 * k) ∧ (0 ≤ mostP (ps.take k) t ∧ mostP (ps.take k) t ≤ 2000 * k) := by
  intro k
  induction k with
  | zero => intro _; simp [leastP, mostP]
  | succ k ih =>
    intro hk
    have := ih (by omega)
    have g := (h k (by omega)).1.2
    rw [leastP_succ ps k t (by omega), mostP_succ ps k t (by omega)]
    split <;> split <;> omega
def belOk (ps : List Pr) (all t : Int) : Bool := rankB ps all && decide (0 ≤ t ∧ t ≤ 63)
def belL (ps : List Pr) (all t : Int) : Int := if belOk ps all t then leastP ps t else -1
def belM (ps : List Pr) (all t : Int) : Int := if belOk ps all t then mostP ps t else -1

theorem belOk_yes {ps : List Pr} {all t : Int} (h : belOk ps all t = true) : rankB ps all = true ∧ 0 ≤ t ∧ t ≤ 63 := by
  unfold belOk at h
  simpa using h
end Go.Proofs.Ytnpogmhfdjmfdaa.K
