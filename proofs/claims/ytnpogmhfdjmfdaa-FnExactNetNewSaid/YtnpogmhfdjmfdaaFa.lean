/-
  Several texts in one: Few, Few2, Few3, Put, PutAdd.
-/
import Derived.Test.YtnpogmhfdjmfdaaBa
import Derived.Test.YtnpogmhfdjmfdaaRa
import Derived.Maps.AppendAt
import Derived.OneCell
import Derived.Deep.RegionLaw
set_option linter.unusedVariables false
/-
  Marks of things, and whether marks are in form: of the program and of its model.
-/
namespace Go.Proofs.Ytnpogmhfdjmfdaa
open Go.RowKit Go.Sort

def markV (t : Int) : Int := if 0 ≤ t ∧ t < 64 then (37 * t + 11) % 64 else -1
theorem markV_yes {t : Int} (h0 : 0 ≤ t) (h1 : t < 64) : markV t = (37 * t + 11) % 64 := if_pos ⟨h0, h1⟩
theorem markV_no {t : Int} (h : t < 0 ∨ 64 ≤ t) : markV t = -1 := if_neg (by omega)
theorem markV_bd (t : Int) : -1 ≤ markV t ∧ markV t < 64 := by unfold markV; split <;> omega
theorem markV_in {t : Int} (h0 : 0 ≤ t) (h1 : t < 64) : 0 ≤ markV t ∧ markV t < 64 := by rw [markV_yes h0 h1]; omega
theorem markV_one {s t : Int} (h0 : 0 ≤ t) (h1 : t < 64) (h2 : 0 ≤ s) (h3 : s < 64) : markV s = markV t ↔ s = t := by
  rw [markV_yes h0 h1, markV_yes h2 h3]; omega

/-- Mark i is in form. -/
def FewG (zs : List Int) (i : Nat) : Prop := (0 ≤ zs.getD i 0 ∧ zs.getD i 0 ≤ 63) ∧ (0 < i → zs.getD (i - 1) 0 < zs.getD i 0)
instance (zs : List Int) (i : Nat) : Decidable (FewG zs i) := by unfold FewG; infer_instance
def FewP (zs : List Int) : Prop := zs.length ≤ 6 ∧ ∀ i, i < zs.length → FewG zs i
instance (zs : List Int) : Decidable (FewP zs) := by unfold FewP; infer_instance
def fewB (zs : List Int) : Bool := decide (FewP zs)
/-- The mark ahead of place k; -1 ahead of the first. -/
def lastV (zs : List Int) (k : Nat) : Int := if k = 0 then -1 else zs.getD (k - 1) 0
theorem fewB_iff (zs : List Int) : fewB zs = true ↔ FewP zs := by simp [fewB]
theorem fewB_long {zs : List Int} (h : 6 < zs.length) : fewB zs = false := by simp only [fewB, decide_eq_false_iff_not]; exact fun q => by have := q.1; omega
theorem fewB_bad {zs : List Int} {i : Nat} (hi : i < zs.length) (h : ¬ FewG zs i) : fewB zs = false := by simp only [fewB, decide_eq_false_iff_not]; exact fun q => h (q.2 i hi)
theorem fewB_good {zs : List Int} (hl : zs.length ≤ 6) (h : ∀ i, i < zs.length → FewG zs i) : fewB zs = true := (fewB_iff zs).2 ⟨hl, h⟩
theorem lastV_bd {zs : List Int} {k : Nat} (h : ∀ i, i < k → FewG zs i) : -1 ≤ lastV zs k ∧ lastV zs k ≤ 63 := by
  unfold lastV
  split
  · omega
  · have := (h (k - 1) (by omega)).1; omega
theorem fewG_iff {zs : List Int} {k : Nat} (h : ∀ i, i < k → FewG zs i) : FewG zs k ↔ lastV zs k < zs.getD k 0 ∧ zs.getD k 0 < 64 := by
  have hb := lastV_bd h
  unfold FewG
  unfold lastV at hb ⊢
  split
  · subst_vars; simp; omega
  · have : 0 < k := by omega
    simp only [this, true_implies]
    rw [if_neg (by omega)] at hb
    omega

end Go.Proofs.Ytnpogmhfdjmfdaa

/-
  How many things there are by their marks, and whether a thing was counted: of the program and of its model.
-/
namespace Go.Proofs.Ytnpogmhfdjmfdaa
open Go.RowKit Go.Sort

/-- How many there are, and whether just so. -/
def countN (zs : List Int) : Int := if fewB zs = true then (if zs.length < 6 then (zs.length : Int) else 320 / (zs.getD 5 0 + 1)) else 0
def countJ (zs : List Int) : Bool := fewB zs && decide (zs.length < 6)
theorem countN_no {zs : List Int} (h : fewB zs = false) : countN zs = 0 := by unfold countN; rw [h]; rfl
theorem countJ_no {zs : List Int} (h : fewB zs = false) : countJ zs = false := by unfold countJ; rw [h]; rfl
theorem countN_few {zs : List Int} (h : fewB zs = true) (hl : zs.length < 6) : countN zs = zs.length := by unfold countN; rw [if_pos h, if_pos hl]
theorem countJ_few {zs : List Int} (h : fewB zs = true) (hl : zs.length < 6) : countJ zs = true := by unfold countJ; rw [h, decide_eq_true hl]; rfl
theorem countN_six {zs : List Int} (h : fewB zs = true) (hl : zs.length = 6) : countN zs = 320 / (zs.getD 5 0 + 1) := by unfold countN; rw [if_pos h, if_neg (by omega)]
theorem countJ_six {zs : List Int} (h : fewB zs = true) (hl : zs.length = 6) : countJ zs = false := by unfold countJ; rw [h, decide_eq_false (by omega)]; rfl

/-- Marks in form: the parts of the word. -/
theorem fewB_parts {zs : List Int} (h : fewB zs = true) : zs.length ≤ 6 ∧ (∀ i, i < zs.length → 0 ≤ zs.getD i 0 ∧ zs.getD i 0 ≤ 63) ∧ ∀ i, i + 1 < zs.length → zs.getD i 0 < zs.getD (i + 1) 0 := by
  obtain ⟨h1, h2⟩ := (fewB_iff zs).1 h
  refine ⟨h1, fun i hi => (h2 i hi).1, fun i hi => ?_⟩
  have := (h2 (i + 1) hi).2 (by omega)
  rwa [Nat.add_sub_cancel] at this

end Go.Proofs.Ytnpogmhfdjmfdaa

/-
  Whether a thing was counted, and whether that is known: of the program and of its model.
-/
namespace Go.Proofs.Ytnpogmhfdjmfdaa
open Go.RowKit Go.Sort

def inThings (t : Int) : Bool := decide (0 ≤ t ∧ t < 64)
/-- Whether a thing is known to be counted; whether it is known. -/
def hasA (zs : List Int) (t : Int) : Bool := fewB zs && inThings t && decide (markV t ∈ zs)
def hasK (zs : List Int) (t : Int) : Bool := fewB zs && inThings t && (decide (markV t ∈ zs) || decide (zs.length < 6) || decide (markV t < zs.getD 5 0))

theorem mem_get {zs : List Int} {x : Int} : x ∈ zs ↔ ∃ i, i < zs.length ∧ zs.getD i 0 = x := by
  constructor
  · intro h
    obtain ⟨i, hi, rfl⟩ := List.getElem_of_mem h
    exact ⟨i, hi, by simp [hi]⟩
  · rintro ⟨i, hi, rfl⟩
    exact getD_mem zs i 0 hi

theorem has_no {zs : List Int} {t : Int} (h : fewB zs = false ∨ inThings t = false) : hasA zs t = false ∧ hasK zs t = false := by
  unfold hasA hasK
  rcases h with h | h <;> rw [h] <;> simp
theorem has_in {zs : List Int} {t : Int} (h : fewB zs = true) (ht : inThings t = true) (hm : markV t ∈ zs) : hasA zs t = true ∧ hasK zs t = true := by
  unfold hasA hasK
  rw [h, ht, decide_eq_true hm]; simp
theorem has_out {zs : List Int} {t : Int} (h : fewB zs = true) (ht : inThings t = true) (hm : markV t ∉ zs) : hasA zs t = false ∧ hasK zs t = (decide (zs.length < 6) || decide (markV t < zs.getD 5 0)) := by
  unfold hasA hasK
  rw [h, ht, decide_eq_false hm]; simp
theorem inThings_iff (t : Int) : inThings t = true ↔ 0 ≤ t ∧ t < 64 := by simp [inThings]
theorem inThings_no (t : Int) : inThings t = false ↔ t < 0 ∨ 64 ≤ t := by simp [inThings]; omega

end Go.Proofs.Ytnpogmhfdjmfdaa

/-
  A mark that is put among others: the model's l2Put.
-/
namespace Go.Proofs.Ytnpogmhfdjmfdaa
open Go.RowKit Go.Sort

theorem few_info : (Try.prog.info? 3).map (fun i => (i.zero, i.size, i.bytes)) = some (some (.int .i64 0), 1, 8) := by kernel_rfl
theorem few_empty (w : World) (B : Nat) (hB : B ≤ w.heap.size) : (w.alloc (.cells #[] 3)).ownsRow B 3 1 (.slice (some ⟨w.heap.size, 0, none⟩) 0 0) 0 [] :=
  World.ownsRow_lit (base := B) (e := 3) (size := 1) w #[] 0 hB (by simp [maxLen]) (by simp)

/-- The value v is the numbers zs, in a block of the call's own. -/
def OwnI (w : World) (B : Nat) (v : Value) (zs : List Int) : Prop := w.ownsRow B 3 1 v zs.length (ints zs)
theorem OwnI.rd {w : World} {B : Nat} {v : Value} {zs : List Int} (h : OwnI w B v zs) : Ints w v zs := ownI_ints h
theorem OwnI.base {w : World} {B B' : Nat} {v : Value} {zs : List Int} (h : OwnI w B v zs) (hB : B' ≤ B) : OwnI w B' v zs := ownsRow_base h hB
theorem OwnI.kept {w w' : World} {B : Nat} {v : Value} {zs : List Int} {row : Option Nat} (h : OwnI w B v zs) (hg : w.grownBy w' row) (hr : ∀ k, row = some k → k < B) : OwnI w' B v zs := by
  refine World.ownsRow.kept h hg ?_
  cases hv : v.ownBlock with
  | none => exact .inl rfl
  | some k => exact .inr (fun e => by have := (World.ownsRow.lt h k hv).1; have := hr k e.symm; omega)
theorem OwnI.alloc {w : World} {B : Nat} {v : Value} {zs : List Int} (h : OwnI w B v zs) (o : Obj) : OwnI (w.alloc o) B v zs := World.ownsRow.alloc h o
theorem OwnI.nil (w : World) (B : Nat) : OwnI w B (.slice none 0 0) [] := World.ownsRow_nil w B _ 1
theorem OwnI.form {w : World} {B : Nat} {v : Value} {zs : List Int} (h : OwnI w B v zs) : ∃ x c, v = .slice x zs.length c := h.rd.cases.1
theorem ints_snoc (zs : List Int) (x : Int) : ints (zs ++ [x]) = ints zs ++ [.int .i64 x] := by simp [ints]
/-- The first k. -/
theorem OwnI.take {w : World} {B n c : Nat} {x : Option Addr} {zs : List Int} (h : OwnI w B (.slice x n c) zs) (k : Nat) (hk : k ≤ zs.length) : OwnI w B (.slice x k c) (zs.take k) := by
  have hl : (zs.take k).length = k := by simp; omega
  have hi : ints (zs.take k) = (ints zs).take k := by simp [ints, List.map_take]
  obtain ⟨h1, h2⟩ := h
  refine ⟨by rw [ints_len]; simp, ?_⟩
  rw [hl]
  rcases h2 with ⟨e, h0⟩ | ⟨g, cap, cur, e, hb, hh, hn, hm, hs, ht⟩
  · refine .inl ⟨?_, by omega⟩
    obtain ⟨rfl, rfl, rfl⟩ := Value.slice.inj e
    obtain rfl : k = 0 := by omega
    rfl
  · obtain ⟨rfl, rfl, rfl⟩ := Value.slice.inj e
    refine .inr ⟨g, c, cur, rfl, hb, hh, by omega, hm, hs, ?_⟩
    rw [hi, ← ht, List.take_take]
    congr 1
    omega

/-- The mark m among marks, d telling that it stands already. -/
def putL (m : Int) : List Int → Bool → List Int
  | [], d => if d then [] else [m]
  | x :: xs, d => (if !d && decide (m ≤ x) then [m] else []) ++ ((if x = m then [] else [x]) ++ putL m xs (d || decide (m ≤ x)))
def putV (zs : List Int) (m : Int) : List Int := (putL m zs false).take 6
theorem putL_len (m : Int) (zs : List Int) (d : Bool) : (putL m zs d).length ≤ zs.length * 2 + 1 := by
  induction zs generalizing d with
  | nil => unfold putL; split <;> simp
  | cons x xs ih =>
    have := ih (d || decide (m ≤ x))
    unfold putL
    simp only [List.length_append, List.length_cons]
    split <;> split <;> simp <;> omega
theorem putV_len (zs : List Int) (m : Int) : (putV zs m).length ≤ 6 := by simp [putV]; omega
theorem drop_cons {zs : List Int} {k : Nat} (h : k < zs.length) : zs.drop k = zs.getD k 0 :: zs.drop (k + 1) := by
  rw [List.drop_eq_getElem_cons h]; simp [h]

theorem put1 (m : Int) (rest : List Int) : putL m (m :: rest) false = [m] ++ putL m rest true := by
  show (if _ then _ else _) ++ ((if _ then _ else _) ++ putL m rest _) = _
  simp
theorem put2 {m y : Int} (rest : List Int) (h : m ≤ y) (h' : y ≠ m) : putL m (y :: rest) false = [m] ++ ([y] ++ putL m rest true) := by
  show (if _ then _ else _) ++ ((if _ then _ else _) ++ putL m rest _) = _
  simp [h, h']
theorem put3 (m : Int) (rest : List Int) : putL m (m :: rest) true = putL m rest true := by
  show (if _ then _ else _) ++ ((if _ then _ else _) ++ putL m rest _) = _
  simp
theorem put4 {m y : Int} {d : Bool} (rest : List Int) (h : d = true ∨ y < m) (h' : y ≠ m) : putL m (y :: rest) d = [y] ++ putL m rest d := by
  show (if _ then _ else _) ++ ((if _ then _ else _) ++ putL m rest _) = _
  rcases h with h | h
  · simp [h, h']
  · have : ¬ m ≤ y := by omega
    simp [this, h']
theorem own_snoc {w : World} {B no : Nat} {v : Value} {os : List Int} {m : Int} (h : w.ownsRow B 3 1 v (no + 1) (ints os ++ [.int .i64 m])) (hn : no = os.length) : OwnI w B v (os ++ [m]) := by
  unfold OwnI
  rw [ints_snoc, List.length_append, ← hn]
  exact h
theorem below_append {w wr w' : World} {o : Obj} {e : TypeId} {v : Value} {n : Nat} {xs : List Value} (hb : Below w.heap.size w wr) (ho : wr.ownsRow w.heap.size e 1 v n xs) (hg : (wr.alloc o).grownBy w' v.ownBlock) : Below w.heap.size w w' :=
  (hb.alloc hb.size o).grown hg (Nat.le_trans hb.size (by simp)) (fun k e => (ho.lt k e).1)

theorem own_cap {w : World} {B n c : Nat} {e : TypeId} {x : Option Addr} {xs : List Value} (h : w.ownsRow B e 1 (.slice x n c) n xs) : n ≤ c ∧ c ≤ maxLen := by
  rcases h.2 with ⟨e, h0⟩ | ⟨g, cap, cur, e, hb, hh, hn, hm, hs, ht⟩
  · obtain ⟨_, h1, h2⟩ := Value.slice.inj e
    subst h1 h2
    exact ⟨Nat.le_refl _, Nat.zero_le _⟩
  · obtain ⟨_, _, h2⟩ := Value.slice.inj e
    subst h2
    exact ⟨hn, hm⟩
theorem cell_append {w wr w' : World} {o : Obj} {e : TypeId} {v u : Value} {n : Nat} {xs : List Value} {a : Addr} (hc : wr.cell? a = some u) (ha : a.block < w.heap.size) (ho : wr.ownsRow w.heap.size e 1 v n xs) (hg : (wr.alloc o).grownBy w' v.ownBlock) : w'.cell? a = some u :=
  hg.cell ((World.cell?_alloc_lt (h := World.block_lt_of_cell? _ _ hc) ..).trans hc) (fun h => by have := (ho.lt _ h.symm).1; omega)

end Go.Proofs.Ytnpogmhfdjmfdaa

/-
  A thing that is counted: the model's FewAdd.
-/
namespace Go.Proofs.Ytnpogmhfdjmfdaa
open Go.RowKit Go.Sort

def addOkF (zs : List Int) (t : Int) : Bool := fewB zs && inThings t
def addF (zs : List Int) (t : Int) : List Int := if addOkF zs t = true then putV zs (markV t) else []
theorem addF_len (zs : List Int) (t : Int) : (addF zs t).length ≤ 6 := by
  unfold addF; split
  · exact putV_len _ _
  · simp
theorem addF_yes {zs : List Int} {t : Int} (h : addOkF zs t = true) : addF zs t = putV zs (markV t) := if_pos h
theorem addF_no {zs : List Int} {t : Int} (h : addOkF zs t = false) : addF zs t = [] := if_neg (by rw [h]; simp)

end Go.Proofs.Ytnpogmhfdjmfdaa
