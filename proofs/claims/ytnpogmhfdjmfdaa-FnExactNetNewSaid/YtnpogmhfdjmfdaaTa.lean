/-
  Several texts in one: TPair, TOk, TGet, TPut, TBox, TOver.
-/
import Derived.Test.YtnpogmhfdjmfdaaBa
import Derived.Maps.AppendAt
import Derived.OneCell
import Derived.IntWalk
import Derived.Deep.RegionLaw
import Derived.Deep.AppendLies
set_option linter.unusedVariables false
/-
  How pairs of a thing and a number lie in memory: words for readings, and for what is a call's own.
-/
namespace Go.Proofs.Ytnpogmhfdjmfdaa.T
open Go.RowKit Go.Sort

abbrev Pr := Int × Int
/-- Pair i; nothing past the end. -/
def pr (ps : List Pr) (i : Nat) : Pr := ps.getD i (0, 0)
def prs (ps : List Pr) : List Value := ps.flatMap fun p => [.int .i64 p.1, .int .i64 p.2]
theorem prs_nil : prs [] = [] := rfl
theorem prs_cons (p : Pr) (ps : List Pr) : prs (p :: ps) = .int .i64 p.1 :: .int .i64 p.2 :: prs ps := rfl
theorem prs_append (ps qs : List Pr) : prs (ps ++ qs) = prs ps ++ prs qs := by simp [prs]
theorem prs_snoc (ps : List Pr) (p : Pr) : prs (ps ++ [p]) = prs ps ++ [.int .i64 p.1, .int .i64 p.2] := by simp [prs]
theorem prs_len (ps : List Pr) : (prs ps).length = ps.length * 2 := by
  induction ps with
  | nil => rfl
  | cons p ps ih => rw [prs_cons]; simp [ih]; omega
theorem prs_get (ps : List Pr) (i : Nat) (h : i < ps.length) : (prs ps)[i * 2]? = some (.int .i64 (pr ps i).1) ∧ (prs ps)[i * 2 + 1]? = some (.int .i64 (pr ps i).2) := by
  induction ps generalizing i with
  | nil => cases h
  | cons p ps ih =>
    rw [prs_cons]
    cases i with
    | zero => exact ⟨rfl, rfl⟩
    | succ i =>
      have := ih i (by simpa using h)
      rw [show (i + 1) * 2 = i * 2 + 1 + 1 by omega]
      simp only [List.getElem?_cons_succ]
      exact this
theorem pr_mem {ps : List Pr} {i : Nat} (h : i < ps.length) : pr ps i ∈ ps := getD_mem ps i (0, 0) h
theorem pr_at {ps : List Pr} {p : Pr} (h : p ∈ ps) : ∃ i, i < ps.length ∧ pr ps i = p := by
  obtain ⟨i, hi, rfl⟩ := List.getElem_of_mem h
  exact ⟨i, hi, by simp [pr, hi]⟩

/-- The value v reads in w as the pairs ps. -/
def Prs (w : World) (v : Value) (ps : List Pr) : Prop :=
  (v = .slice none 0 0 ∧ ps = []) ∨
  ∃ b o cap, v = .slice (some ⟨b, o, none⟩) ps.length cap ∧ ps.length ≤ cap ∧ cap ≤ maxLen ∧ b < w.heap.size ∧
    ∀ i, i < ps.length → w.cell? ⟨b, o + i * 2, none⟩ = some (.int .i64 (pr ps i).1) ∧ w.cell? ⟨b, o + i * 2 + 1, none⟩ = some (.int .i64 (pr ps i).2)

theorem Prs.below {w w' : World} {v : Value} {ps : List Pr} (h : Prs w v ps) {B : Nat} (hb : Below B w w') (hB : w.heap.size ≤ B) : Prs w' v ps := by
  rcases h with h | ⟨b, o, cap, rfl, h1, h2, h3, h4⟩
  · exact .inl h
  · exact .inr ⟨b, o, cap, rfl, h1, h2, Nat.lt_of_lt_of_le h3 hb.size, fun i hi => by
      rw [hb.cell (by show b < B; omega), hb.cell (by show b < B; omega)]; exact h4 i hi⟩
theorem Prs.form {w : World} {v : Value} {ps : List Pr} (h : Prs w v ps) : ∃ x c, v = .slice x ps.length c ∧ ps.length ≤ c ∧ c ≤ maxLen := by
  rcases h with ⟨rfl, rfl⟩ | ⟨b, o, cap, rfl, h1, h2, _⟩
  · exact ⟨none, 0, rfl, Nat.le_refl _, Nat.zero_le _⟩
  · exact ⟨_, _, rfl, h1, h2⟩
theorem Prs.cells {w : World} {x : Option Addr} {n c : Nat} {ps : List Pr} (h : Prs w (.slice x n c) ps) : ∀ i, i < ps.length → ∃ b o, x = some ⟨b, o, none⟩ ∧ b < w.heap.size ∧ w.cell? ⟨b, o + i * 2, none⟩ = some (.int .i64 (pr ps i).1) ∧ w.cell? ⟨b, o + i * 2 + 1, none⟩ = some (.int .i64 (pr ps i).2) := fun i hi => by
  rcases h with ⟨_, rfl⟩ | ⟨b, o, cap, e, h1, h2, h3, h4⟩
  · cases hi
  · exact ⟨b, o, (Value.slice.inj e).1, h3, h4 i hi⟩

/-- The value v is the pairs ps, in a block of the call's own. -/
def OwnP (w : World) (B : Nat) (v : Value) (ps : List Pr) : Prop := w.ownsRow B 94 2 v ps.length (prs ps)
theorem addr_plus (b o i : Nat) : (⟨b, o, none⟩ : Addr).add i = ⟨b, o + i, none⟩ := by unfold Addr.add; split <;> simp_all
theorem OwnP.rd {w : World} {B : Nat} {v : Value} {ps : List Pr} (h : OwnP w B v ps) : Prs w v ps := by
  rcases h.2 with ⟨rfl, h0⟩ | ⟨g, cap, cur, rfl, hb, hg, hn, hc, hs, ht⟩
  · exact .inl ⟨rfl, List.eq_nil_of_length_eq_zero h0⟩
  · refine .inr ⟨g, 0, cap, rfl, hn, hc, (Array.getElem?_eq_some_iff.1 hg).1, fun i hi => ?_⟩
    have e := prs_get ps i hi
    have a := World.ownsRow.cells h (g := g) rfl _ _ e.1
    have b := World.ownsRow.cells h (g := g) rfl _ _ e.2
    rw [addr_plus] at a b
    exact ⟨a, by rw [Nat.add_assoc]; exact b⟩
theorem OwnP.base {w : World} {B B' : Nat} {v : Value} {ps : List Pr} (h : OwnP w B v ps) (hB : B' ≤ B) : OwnP w B' v ps := ownsRow_base h hB
theorem OwnP.kept {w w' : World} {B : Nat} {v : Value} {ps : List Pr} {row : Option Nat} (h : OwnP w B v ps) (hg : w.grownBy w' row) (hr : ∀ k, row = some k → k < B) : OwnP w' B v ps := by
  refine World.ownsRow.kept h hg ?_
  cases hv : v.ownBlock with
  | none => exact .inl rfl
  | some k => exact .inr (fun e => by have := (World.ownsRow.lt h k hv).1; have := hr k e.symm; omega)
theorem OwnP.keep {w w' : World} {B : Nat} {v : Value} {ps : List Pr} {row : Option Nat} (h : OwnP w B v ps) (hg : w.grownBy w' row) (hr : v.ownBlock ≠ row) : OwnP w' B v ps := World.ownsRow.kept h hg (.inr hr)
theorem OwnP.alloc {w : World} {B : Nat} {v : Value} {ps : List Pr} (h : OwnP w B v ps) (o : Obj) : OwnP (w.alloc o) B v ps := World.ownsRow.alloc h o
theorem OwnP.below {w w' : World} {B : Nat} {v : Value} {ps : List Pr} (h : OwnP w B v ps) (hb : Below w.heap.size w w') : OwnP w' B v ps := h.kept (row := none) (grownBy_below hb) (fun _ e => by cases e)
theorem OwnP.nil (w : World) (B : Nat) : OwnP w B (.slice none 0 0) [] := World.ownsRow_nil w B _ 2
theorem OwnP.form {w : World} {B : Nat} {v : Value} {ps : List Pr} (h : OwnP w B v ps) : ∃ x c, v = .slice x ps.length c ∧ ps.length ≤ c ∧ c ≤ maxLen := h.rd.form
theorem OwnP.lt {w : World} {B : Nat} {p : Value} {ps : List Pr} (hp : OwnP w B p ps) : ∀ k, p.ownBlock = some k → k < w.heap.size := fun k e => (World.ownsRow.lt hp k e).2
theorem pair_info : (Try.prog.info? 94).map (fun i => (i.zero, i.size, i.bytes)) = some (some (.agg #[.int .i64 0, .int .i64 0]), 2, 16) := by kernel_rfl
theorem pair_empty (w : World) (B : Nat) (hB : B ≤ w.heap.size) : OwnP (w.alloc (.cells #[] 94)) B (.slice (some ⟨w.heap.size, 0, none⟩) 0 0) [] :=
  World.ownsRow_lit (base := B) (e := 94) (size := 2) w #[] 0 hB (by simp [maxLen]) (by simp)

end Go.Proofs.Ytnpogmhfdjmfdaa.T

/-
  Whether one that was counted most is in form: of the program and of its model.
-/
namespace Go.Proofs.Ytnpogmhfdjmfdaa.T
open Go.RowKit Go.Sort

def sumP (ps : List Pr) : Int := (ps.map (·.2)).sum
theorem sumP_nil : sumP [] = 0 := rfl
theorem sumP_append (ps qs : List Pr) : sumP (ps ++ qs) = sumP ps + sumP qs := by simp [sumP]
theorem take_succ_pr (ps : List Pr) (k : Nat) (h : k < ps.length) : ps.take (k + 1) = ps.take k ++ [pr ps k] := by
  rw [List.take_succ_eq_append_getElem h]; simp [pr, h]
theorem sumP_succ (ps : List Pr) (k : Nat) (h : k < ps.length) : sumP (ps.take (k + 1)) = sumP (ps.take k) + (pr ps k).2 := by
  rw [take_succ_pr ps k h, sumP_append]; simp [sumP]

/-- Pair i is in form. -/
def TopG (ps : List Pr) (i : Nat) : Prop := ((0 ≤ (pr ps i).1 ∧ (pr ps i).1 ≤ 63) ∧ 1 ≤ (pr ps i).2 ∧ (pr ps i).2 ≤ 2000) ∧ (0 < i → (pr ps (i - 1)).1 < (pr ps i).1)
instance (ps : List Pr) (i : Nat) : Decidable (TopG ps i) := by unfold TopG; infer_instance
def TopP (ps : List Pr) (lost all : Int) : Prop := (ps.length ≤ 4 ∧ (0 ≤ lost ∧ lost ≤ 2000) ∧ 0 ≤ all ∧ all ≤ 2000) ∧ (∀ i, i < ps.length → TopG ps i) ∧ sumP ps + 5 * lost ≤ all
instance (ps : List Pr) (lost all : Int) : Decidable (TopP ps lost all) := by unfold TopP; infer_instance
def topB (ps : List Pr) (lost all : Int) : Bool := decide (TopP ps lost all)
theorem topB_iff (ps : List Pr) (lost all : Int) : topB ps lost all = true ↔ TopP ps lost all := by simp [topB]
theorem topB_no {ps : List Pr} {lost all : Int} (h : ¬ TopP ps lost all) : topB ps lost all = false := by simpa [topB] using h
/-- The thing ahead of place k; -1 ahead of the first. -/
def lastT (ps : List Pr) (k : Nat) : Int := if k = 0 then -1 else (pr ps (k - 1)).1
theorem sumP_bd {ps : List Pr} {k : Nat} (hk : k ≤ ps.length) (h : ∀ i, i < k → TopG ps i) : 0 ≤ sumP (ps.take k) ∧ sumP (ps.take k) ≤ 2000 * k := by
  induction k with
  | zero => simp [sumP]
  | succ k ih =>
    have := ih (by omega) (fun i hi => h i (by omega))
    have g := (h k (by omega)).1.2
    rw [sumP_succ ps k (by omega)]
    omega
theorem lastT_bd {ps : List Pr} {k : Nat} (h : ∀ i, i < k → TopG ps i) : -1 ≤ lastT ps k ∧ lastT ps k ≤ 63 := by
  unfold lastT
  split
  · omega
  · have := (h (k - 1) (by omega)).1.1; omega
theorem topG_iff {ps : List Pr} {k : Nat} (h : ∀ i, i < k → TopG ps i) : TopG ps k ↔ (lastT ps k < (pr ps k).1 ∧ (pr ps k).1 < 64) ∧ 1 ≤ (pr ps k).2 ∧ (pr ps k).2 ≤ 2000 := by
  have hb := lastT_bd h
  unfold TopG
  unfold lastT at hb ⊢
  split
  · subst_vars; simp; omega
  · have : 0 < k := by omega
    simp only [this, true_implies]
    rw [if_neg (by omega)] at hb
    omega
theorem lastT_succ (ps : List Pr) (k : Nat) : lastT ps (k + 1) = (pr ps k).1 := by unfold lastT; rw [if_neg (by omega)]; rfl

/-! ### the model's -/

end Go.Proofs.Ytnpogmhfdjmfdaa.T

/-
  How often a thing was counted: the program's TopGet and its model's.
-/
namespace Go.Proofs.Ytnpogmhfdjmfdaa.T
open Go.RowKit Go.Sort

/-- How much of the thing t is among pairs. -/
def tot : List Pr → Int → Int
  | [], _ => 0
  | p :: ps, t => (if p.1 = t then p.2 else 0) + tot ps t
theorem tot_append (ps qs : List Pr) (t : Int) : tot (ps ++ qs) t = tot ps t + tot qs t := by
  induction ps with
  | nil => simp [tot]
  | cons p ps ih => simp only [List.cons_append, tot, ih]; omega
theorem tot_one (p : Pr) (t : Int) : tot [p] t = if p.1 = t then p.2 else 0 := by simp [tot]
theorem tot_none {ps : List Pr} {t : Int} (h : ∀ p ∈ ps, p.1 ≠ t) : tot ps t = 0 := by
  induction ps with
  | nil => rfl
  | cons p ps ih =>
    have h1 := h p (by simp)
    simp only [tot, if_neg h1, ih (fun q hq => h q (by simp [hq]))]; rfl
/-- The things stand in ascending order. -/
def Asc (ps : List Pr) : Prop := ∀ i, 0 < i → i < ps.length → (pr ps (i - 1)).1 < (pr ps i).1
theorem Asc.lt {ps : List Pr} (h : Asc ps) {i : Nat} : ∀ {j : Nat}, i < j → j < ps.length → (pr ps i).1 < (pr ps j).1 := by
  intro j
  induction j with
  | zero => intro h0; omega
  | succ j ih =>
    intro hij hj
    have h1 := h (j + 1) (by omega) hj
    rw [Nat.add_sub_cancel] at h1
    by_cases e : i = j
    · rw [e]; exact h1
    · have := ih (by omega) (by omega); omega
theorem pr_take {ps : List Pr} {k i : Nat} (h : i < k) : pr (ps.take k) i = pr ps i := by simp [pr, h]
theorem tot_succ (ps : List Pr) (k : Nat) (t : Int) (h : k < ps.length) : tot (ps.take (k + 1)) t = tot (ps.take k) t + if (pr ps k).1 = t then (pr ps k).2 else 0 := by
  rw [take_succ_pr ps k h, tot_append, tot_one]
theorem Asc.before {ps : List Pr} (h : Asc ps) {k : Nat} {t : Int} (hk : k < ps.length) (ht : (pr ps k).1 ≤ t) : tot (ps.take k) t = 0 := tot_none fun p hp => by
  obtain ⟨i, hi, rfl⟩ := pr_at hp
  have hi' : i < k := by simp at hi; omega
  rw [pr_take hi']
  have := h.lt hi' hk
  omega
theorem Asc.at {ps : List Pr} (h : Asc ps) {k : Nat} (hk : k < ps.length) : tot ps (pr ps k).1 = (pr ps k).2 := by
  have e1 : tot (ps.drop (k + 1)) (pr ps k).1 = 0 := tot_none fun p hp => by
    obtain ⟨i, hi, rfl⟩ := pr_at hp
    have e2 : pr (ps.drop (k + 1)) i = pr ps (k + 1 + i) := by simp [pr]
    rw [e2]
    simp at hi
    have := h.lt (i := k) (j := k + 1 + i) (by omega) (by omega)
    omega
  have e2 : tot ps (pr ps k).1 = tot (ps.take (k + 1)) (pr ps k).1 + tot (ps.drop (k + 1)) (pr ps k).1 := by rw [← tot_append, List.take_append_drop]
  rw [e2, e1, tot_succ ps k _ hk, h.before hk (Int.le_refl _)]
  simp
theorem TopP.asc {ps : List Pr} {lost all : Int} (h : TopP ps lost all) : Asc ps := fun i h0 hi => (h.2.1 i hi).2 h0

def isT (t : Int) : Bool := decide (0 ≤ t ∧ t < 64)
theorem isT_yes {t : Int} (h : isT t = true) : 0 ≤ t ∧ t < 64 := by simpa [isT] using h
theorem isT_no {t : Int} (h : isT t = false) : t < 0 ∨ 64 ≤ t := by simp [isT] at h; omega
def getOk (ps : List Pr) (lost all t : Int) : Bool := topB ps lost all && isT t
def getL (ps : List Pr) (lost all t : Int) : Int := if getOk ps lost all t then tot ps t else -1
def getM (ps : List Pr) (lost all t : Int) : Int := if getOk ps lost all t then tot ps t + lost else -1
theorem getOk_cases (ps : List Pr) (lost all t : Int) : (topB ps lost all = false ∧ getOk ps lost all t = false) ∨ (topB ps lost all = true ∧ (t < 0 ∨ 64 ≤ t) ∧ getOk ps lost all t = false) ∨ (topB ps lost all = true ∧ (0 ≤ t ∧ t < 64) ∧ getOk ps lost all t = true) := by
  unfold getOk
  cases h : topB ps lost all
  · exact .inl ⟨rfl, rfl⟩
  · cases h' : isT t
    · exact .inr (.inl ⟨rfl, isT_no h', rfl⟩)
    · exact .inr (.inr ⟨rfl, isT_yes h', rfl⟩)
theorem get_no {ps : List Pr} {lost all t : Int} (h : getOk ps lost all t = false) : getL ps lost all t = -1 ∧ getM ps lost all t = -1 := by simp [getL, getM, h]
theorem get_yes {ps : List Pr} {lost all t : Int} (h : getOk ps lost all t = true) : getL ps lost all t = tot ps t ∧ getM ps lost all t = tot ps t + lost := by simp [getL, getM, h]

theorem tot_bd {ps : List Pr} {t : Int} (h : ∀ i, i < ps.length → TopG ps i) (ha : Asc ps) : 0 ≤ tot ps t ∧ tot ps t ≤ 2000 := by
  by_cases hx : ∃ i, i < ps.length ∧ (pr ps i).1 = t
  · obtain ⟨i, hi, rfl⟩ := hx
    rw [ha.at hi]
    have := (h i hi).1.2
    omega
  · rw [tot_none fun p hp e => by obtain ⟨i, hi, rfl⟩ := pr_at hp; exact hx ⟨i, hi, e⟩]
    omega
theorem TopG.take {ps : List Pr} {k : Nat} (h : ∀ i, i < ps.length → TopG ps i) : ∀ i, i < (ps.take k).length → TopG (ps.take k) i := fun i hi => by
  simp at hi
  have := h i (by omega)
  unfold TopG at this ⊢
  rw [pr_take (by omega), pr_take (by omega)]
  exact this
theorem Asc.take {ps : List Pr} (h : Asc ps) (k : Nat) : Asc (ps.take k) := fun i h0 hi => by
  simp at hi
  rw [pr_take (by omega), pr_take (by omega)]
  exact h i h0 (by omega)

end Go.Proofs.Ytnpogmhfdjmfdaa.T

/-
  A pair that is put among others: the model's l3Put.
-/
namespace Go.Proofs.Ytnpogmhfdjmfdaa.T
open Go.RowKit Go.Sort

theorem cell_two_new (w : World) (x y : Value) (t : TypeId) : ∀ j u, [x, y][j]? = some u → (w.alloc (.cells #[x, y] t)).cell? ((⟨w.heap.size, 0, none⟩ : Addr).add j) = some u := by
  intro j u hj
  match j, hj with
  | 0, hj => simp at hj; subst hj; simp [Addr.add]
  | 1, hj => simp at hj; subst hj; simp [Addr.add]
theorem OwnP.drewN {w : World} {B : Nat} {v : Value} {ps : List Pr} (h : OwnP w B v ps) (n : Nat) : OwnP (w.drewN n) B v ps := h
theorem Prs.drewN {w : World} {v : Value} {ps : List Pr} (h : Prs w v ps) (n : Nat) : Prs (w.drewN n) v ps := h

theorem grownBy_of_drew' {w w' : World} {row : Option Nat} (h : w.drew.grownBy w' row) : w.grownBy w' row := ⟨h.os, h.tape, h.output, h.size, h.block⟩

/-- The pair x among pairs. -/
def putP : List Pr → Pr → List Pr
  | [], x => [x]
  | p :: ps, x => if p.1 < x.1 then p :: putP ps x else if p.1 = x.1 then (x.1, x.2 + p.2) :: ps else x :: p :: ps
/-- What is still to come, d telling that x stands already. -/
def toCome (ps : List Pr) (x : Pr) (d : Bool) : List Pr := if d then ps else putP ps x
theorem putP_len (ps : List Pr) (x : Pr) : (putP ps x).length ≤ ps.length + 1 := by
  induction ps with
  | nil => simp [putP]
  | cons p ps ih =>
    unfold putP
    split
    · simp; omega
    · split <;> simp
theorem drop_pr {ps : List Pr} {k : Nat} (h : k < ps.length) : ps.drop k = pr ps k :: ps.drop (k + 1) := by
  rw [List.drop_eq_getElem_cons h]; simp [pr, h]
theorem own_snocP {w : World} {B no : Nat} {v : Value} {os : List Pr} {t m : Int} (h : w.ownsRow B 94 2 v (no + 1) (prs os ++ [.int .i64 t, .int .i64 m])) (hn : no = os.length) : OwnP w B v (os ++ [(t, m)]) := by
  unfold OwnP
  rw [prs_snoc, List.length_append, ← hn]
  exact h
theorem below_appendP {B : Nat} {w wr w' : World} {o : Obj} {e : TypeId} {size : Nat} {v : Value} {n : Nat} {xs : List Value} (hb : Below B w wr) (hB : B ≤ wr.heap.size) (ho : wr.ownsRow B e size v n xs) (hg : (wr.alloc o).grownBy w' v.ownBlock) : Below B w w' :=
  (hb.alloc hB o).grown hg (Nat.le_trans hB (by simp)) (fun k e => (ho.lt k e).1)
theorem cell_appendP {B : Nat} {wr w' : World} {o : Obj} {e : TypeId} {size : Nat} {v u : Value} {n : Nat} {xs : List Value} {a : Addr} (hc : wr.cell? a = some u) (ha : a.block < B) (ho : wr.ownsRow B e size v n xs) (hg : (wr.alloc o).grownBy w' v.ownBlock) : w'.cell? a = some u :=
  hg.cell ((World.cell?_alloc_lt (h := World.block_lt_of_cell? _ _ hc) ..).trans hc) (fun h => by have := (ho.lt _ h.symm).1; omega)

end Go.Proofs.Ytnpogmhfdjmfdaa.T

/-
  A block of three cells: a struct of three fields that lies by itself.
-/
namespace Go.Proofs.Ytnpogmhfdjmfdaa.T
open Go.RowKit Go.Sort

/-- Block b is a struct of three cells. -/
def Box3 (W : World) (b : Nat) (t : TypeId) (x y z : Value) : Prop := W.heap[b]? = some (.cells #[x, y, z] t (0, 0))
section
variable {W W' : World} {b : Nat} {t : TypeId} {x y z : Value}
theorem Box3.lt (h : Box3 W b t x y z) : b < W.heap.size := (Array.getElem?_eq_some_iff.1 h).1
theorem Box3.new (W : World) (t : TypeId) (x y z : Value) : Box3 (W.alloc (.cells #[x, y, z] t)) W.heap.size t x y z := heap_alloc_new W _
theorem Box3.below (h : Box3 W b t x y z) {B : Nat} (hb : Below B W W') (hB : b < B) : Box3 W' b t x y z := (hb.block b hB).trans h
theorem Box3.later (h : Box3 W b t x y z) (hb : Below W.heap.size W W') : Box3 W' b t x y z := h.below hb h.lt
theorem Box3.drew (h : Box3 W b t x y z) : Box3 W.drew b t x y z := h
theorem Box3.drewN (h : Box3 W b t x y z) (n : Nat) : Box3 (W.drewN n) b t x y z := h
theorem Box3.alloc (h : Box3 W b t x y z) (o : Obj) : Box3 (W.alloc o) b t x y z := h.later ((Below.refl _ _).alloc (Nat.le_refl _) o)
theorem Box3.kept {row : Option Nat} (h : Box3 W b t x y z) (hg : W.grownBy W' row) (hr : row ≠ some b) : Box3 W' b t x y z := (hg.block b h.lt (fun e => hr e.symm)).trans h
theorem Box3.cell0 (h : Box3 W b t x y z) : W.cell? ⟨b, 0, none⟩ = some x := by unfold Box3 at h; simp [World.cell?, h]
theorem Box3.cell1 (h : Box3 W b t x y z) : W.cell? ⟨b, 1, none⟩ = some y := by unfold Box3 at h; simp [World.cell?, h]
theorem Box3.cell2 (h : Box3 W b t x y z) : W.cell? ⟨b, 2, none⟩ = some z := by unfold Box3 at h; simp [World.cell?, h]
theorem Box3.free (h : Box3 W b t x y z) (i : Nat) : W.frozen? ⟨b, i, none⟩ = false := by unfold Box3 at h; simp [World.frozen?, h]
theorem Box3.set0 (h : Box3 W b t x y z) (u : Value) : Box3 (W.setCell ⟨b, 0, none⟩ u) b t u y z := by unfold Box3 at h ⊢; rw [heap_setCell_same W b 0 _ _ _ h]; rfl
theorem Box3.set1 (h : Box3 W b t x y z) (u : Value) : Box3 (W.setCell ⟨b, 1, none⟩ u) b t x u z := by unfold Box3 at h ⊢; rw [heap_setCell_same W b 1 _ _ _ h]; rfl
theorem Box3.set2 (h : Box3 W b t x y z) (u : Value) : Box3 (W.setCell ⟨b, 2, none⟩ u) b t x y u := by unfold Box3 at h ⊢; rw [heap_setCell_same W b 2 _ _ _ h]; rfl
theorem Box3.set (h : Box3 W b t x y z) (x' y' z' : Value) : Box3 (((W.setCell ⟨b, 0, none⟩ x').setCell ⟨b, 1, none⟩ y').setCell ⟨b, 2, none⟩ z') b t x' y' z' := ((h.set0 x').set1 y').set2 z'
theorem Box3.not_row {B : Nat} {e : TypeId} {size n : Nat} {v : Value} {xs : List Value} (h : Box3 W b t x y z) (ht : t ≠ e) (ho : W.ownsRow B e size v n xs) : v.ownBlock ≠ some b := fun hb => by
  rcases ho.2 with ⟨rfl, _⟩ | ⟨g, cap, cur, rfl, _, hg, _⟩
  · cases hb
  · obtain rfl : g = b := by simpa [Value.ownBlock] using hb
    unfold Box3 at h
    rw [hg] at h
    cases h
    exact ht rfl
end
theorem below_set3 {B b : Nat} {w W : World} (h : Below B w W) (hb : B ≤ b) (x y z : Value) : Below B w (((W.setCell ⟨b, 0, none⟩ x).setCell ⟨b, 1, none⟩ y).setCell ⟨b, 2, none⟩ z) := ((h.setCell hb _).setCell hb _).setCell hb _
theorem OwnP.set3 {W : World} {B b : Nat} {v : Value} {ps : List Pr} (h : OwnP W B v ps) (hv : v.ownBlock ≠ some b) (x y z : Value) : OwnP (((W.setCell ⟨b, 0, none⟩ x).setCell ⟨b, 1, none⟩ y).setCell ⟨b, 2, none⟩ z) B v ps :=
  ((h.keep (grownBy_setCell W ⟨b, 0, none⟩ x) hv).keep (grownBy_setCell _ ⟨b, 1, none⟩ y) hv).keep (grownBy_setCell _ ⟨b, 2, none⟩ z) hv

end Go.Proofs.Ytnpogmhfdjmfdaa.T

/-
  The greatest number that more than are kept come up to: the model's l3Over.
-/
namespace Go.Proofs.Ytnpogmhfdjmfdaa.T
open Go.RowKit Go.Sort

/-- How many have at least so much. -/
def cntGe (ps : List Pr) (v : Int) : Nat := (ps.filter fun p => decide (v ≤ p.2)).length
def overK (ps : List Pr) : Nat → Int
  | 0 => 0
  | k + 1 => if 4 < cntGe ps (pr ps k).2 then max (overK ps k) (pr ps k).2 else overK ps k
def overV (ps : List Pr) : Int := overK ps ps.length
theorem cntGe_le (ps : List Pr) (v : Int) : cntGe ps v ≤ ps.length := List.length_filter_le _ _
theorem cntGe_succ (ps : List Pr) (k : Nat) (v : Int) (h : k < ps.length) : cntGe (ps.take (k + 1)) v = cntGe (ps.take k) v + if v ≤ (pr ps k).2 then 1 else 0 := by
  rw [take_succ_pr ps k h]
  unfold cntGe
  rw [List.filter_append, List.length_append]
  by_cases h : v ≤ (pr ps k).2 <;> simp [h]
theorem overK_bd {ps : List Pr} {M : Int} {k : Nat} (hM : 0 ≤ M) (hk : k ≤ ps.length) (h : ∀ i, i < ps.length → 0 ≤ (pr ps i).2 ∧ (pr ps i).2 ≤ M) : 0 ≤ overK ps k ∧ overK ps k ≤ M := by
  induction k with
  | zero => exact ⟨Int.le_refl _, hM⟩
  | succ k ih =>
    have := ih (by omega)
    have := h k (by omega)
    unfold overK
    split <;> omega
theorem overV_bd {ps : List Pr} {M : Int} (hM : 0 ≤ M) (h : ∀ i, i < ps.length → 0 ≤ (pr ps i).2 ∧ (pr ps i).2 ≤ M) : 0 ≤ overV ps ∧ overV ps ≤ M := overK_bd hM (Nat.le_refl _) h

end Go.Proofs.Ytnpogmhfdjmfdaa.T
