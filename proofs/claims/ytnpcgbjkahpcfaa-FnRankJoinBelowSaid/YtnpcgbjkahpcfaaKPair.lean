/-
  How pairs of a thing and a number lie in memory: words for readings, and for what is a call's own.
-/
import Derived.Test.YtnpcgbjkahpcfaaOwn
import Derived.Test.YtnpcgbjkahpcfaaLast
import Derived.Maps.AppendAt
import Derived.OneCell
namespace Go.Proofs.Ytnpcgbjkahpcfaa
open Go.RowKit Go.Sort

abbrev Pr := Int × Int
/-- Pair i; nothing past the end. -/
def pr (ps : List Pr) (i : Nat) : Pr := ps.getD i (0, 0)
def prs (ps : List Pr) : List Value := ps.flatMap fun p => [.int .i64 p.1, .int .i64 p.2]
theorem prs_nil : prs [] = [] := rfl
theorem prs_cons (p : Pr) (ps : List Pr) : prs (p :: ps) = .int .i64 p.1 :: .int .i64 p.2 :: prs ps := rfl
theorem prs_append (ps qs : List Pr) : prs (ps ++ qs) = prs ps ++ prs qs := by simp [prs]
theorem prs_snoc (ps : List Pr) (p : Pr) : prs (ps ++ [p]) = prs ps ++ [.int .i64 p.1, .int .i64 p.2] := by simp [prs]
theorem prs_len (ps : List Pr) : (prs ps).length = ps.length * 2 := by
  induction ps with
  | nil => rfl
  | cons p ps ih => rw [prs_cons]; simp [ih]; omega
theorem prs_get (ps : List Pr) (i : Nat) (h : i < ps.length) : (prs ps)[i * 2]? = some (.int .i64 (pr ps i).1) ∧ (prs ps)[i * 2 + 1]? = some (.int .i64 (pr ps i).2) := by
  induction ps generalizing i with
  | nil => cases h
  | cons p ps ih =>
    rw [prs_cons]
    cases i with
    | zero => exact ⟨rfl, rfl⟩
    | succ i =>
      have := ih i (by simpa using h)
      rw [show (i + 1) * 2 = i * 2 + 1 + 1 by omega]
      simp only [List.getElem?_cons_succ]
      exact this
theorem pr_mem {ps : List Pr} {i : Nat} (h : i < ps.length) : pr ps i ∈ ps := getD_mem ps i (0, 0) h
theorem pr_at {ps : List Pr} {p : Pr} (h : p ∈ ps) : ∃ i, i < ps.length ∧ pr ps i = p := by
  obtain ⟨i, hi, rfl⟩ := List.getElem_of_mem h
  exact ⟨i, hi, by simp [pr, hi]⟩

/-- The value v reads in w as the pairs ps. -/
def Prs (w : World) (v : Value) (ps : List Pr) : Prop :=
  (v = .slice none 0 0 ∧ ps = []) ∨
  ∃ b o cap, v = .slice (some ⟨b, o, none⟩) ps.length cap ∧ ps.length ≤ cap ∧ cap ≤ maxLen ∧ b < w.heap.size ∧
    ∀ i, i < ps.length → w.cell? ⟨b, o + i * 2, none⟩ = some (.int .i64 (pr ps i).1) ∧ w.cell? ⟨b, o + i * 2 + 1, none⟩ = some (.int .i64 (pr ps i).2)

theorem Prs.below {w w' : World} {v : Value} {ps : List Pr} (h : Prs w v ps) {B : Nat} (hb : Below B w w') (hB : w.heap.size ≤ B) : Prs w' v ps := by
  rcases h with h | ⟨b, o, cap, rfl, h1, h2, h3, h4⟩
  · exact .inl h
  · exact .inr ⟨b, o, cap, rfl, h1, h2, Nat.lt_of_lt_of_le h3 hb.size, fun i hi => by
      rw [hb.cell (by show b < B; omega), hb.cell (by show b < B; omega)]; exact h4 i hi⟩
theorem Prs.form {w : World} {v : Value} {ps : List Pr} (h : Prs w v ps) : ∃ x c, v = .slice x ps.length c ∧ ps.length ≤ c ∧ c ≤ maxLen := by
  rcases h with ⟨rfl, rfl⟩ | ⟨b, o, cap, rfl, h1, h2, _⟩
  · exact ⟨none, 0, rfl, Nat.le_refl _, Nat.zero_le _⟩
  · exact ⟨_, _, rfl, h1, h2⟩
theorem Prs.cells {w : World} {x : Option Addr} {n c : Nat} {ps : List Pr} (h : Prs w (.slice x n c) ps) : ∀ i, i < ps.length → ∃ b o, x = some ⟨b, o, none⟩ ∧ b < w.heap.size ∧ w.cell? ⟨b, o + i * 2, none⟩ = some (.int .i64 (pr ps i).1) ∧ w.cell? ⟨b, o + i * 2 + 1, none⟩ = some (.int .i64 (pr ps i).2) := fun i hi => by
  rcases h with ⟨_, rfl⟩ | ⟨b, o, cap, e, h1, h2, h3, h4⟩
  · cases hi
  · exact ⟨b, o, (Value.slice.inj e).1, h3, h4 i hi⟩

/-- The value v is the pairs ps, in a block of the call's own. -/
def OwnP (w : World) (B : Nat) (v : Value) (ps : List Pr) : Prop := w.ownsRow B 33 2 v ps.length (prs ps)
theorem addr_plus (b o i : Nat) : (⟨b, o, none⟩ : Addr).add i = ⟨b, o + i, none⟩ := by unfold Addr.add; split <;> simp_all
theorem OwnP.rd {w : World} {B : Nat} {v : Value} {ps : List Pr} (h : OwnP w B v ps) : Prs w v ps := by
  rcases h.2 with ⟨rfl, h0⟩ | ⟨g, cap, cur, rfl, hb, hg, hn, hc, hs, ht⟩
  · exact .inl ⟨rfl, List.eq_nil_of_length_eq_zero h0⟩
  · refine .inr ⟨g, 0, cap, rfl, hn, hc, (Array.getElem?_eq_some_iff.1 hg).1, fun i hi => ?_⟩
    have e := prs_get ps i hi
    have a := World.ownsRow.cells h (g := g) rfl _ _ e.1
    have b := World.ownsRow.cells h (g := g) rfl _ _ e.2
    rw [addr_plus] at a b
    exact ⟨a, by rw [Nat.add_assoc]; exact b⟩
theorem OwnP.base {w : World} {B B' : Nat} {v : Value} {ps : List Pr} (h : OwnP w B v ps) (hB : B' ≤ B) : OwnP w B' v ps := ownsRow_base h hB
theorem OwnP.kept {w w' : World} {B : Nat} {v : Value} {ps : List Pr} {row : Option Nat} (h : OwnP w B v ps) (hg : w.grownBy w' row) (hr : ∀ k, row = some k → k < B) : OwnP w' B v ps := by
  refine World.ownsRow.kept h hg ?_
  cases hv : v.ownBlock with
  | none => exact .inl rfl
  | some k => exact .inr (fun e => by have := (World.ownsRow.lt h k hv).1; have := hr k e.symm; omega)
theorem OwnP.keep {w w' : World} {B : Nat} {v : Value} {ps : List Pr} {row : Option Nat} (h : OwnP w B v ps) (hg : w.grownBy w' row) (hr : v.ownBlock ≠ row) : OwnP w' B v ps := World.ownsRow.kept h hg (.inr hr)
theorem OwnP.alloc {w : World} {B : Nat} {v : Value} {ps : List Pr} (h : OwnP w B v ps) (o : Obj) : OwnP (w.alloc o) B v ps := World.ownsRow.alloc h o
theorem OwnP.below {w w' : World} {B : Nat} {v : Value} {ps : List Pr} (h : OwnP w B v ps) (hb : Below w.heap.size w w') : OwnP w' B v ps := h.kept (row := none) (grownBy_below hb) (fun _ e => by cases e)
theorem OwnP.nil (w : World) (B : Nat) : OwnP w B (.slice none 0 0) [] := World.ownsRow_nil w B _ 2
theorem OwnP.form {w : World} {B : Nat} {v : Value} {ps : List Pr} (h : OwnP w B v ps) : ∃ x c, v = .slice x ps.length c ∧ ps.length ≤ c ∧ c ≤ maxLen := h.rd.form
theorem OwnP.lt {w : World} {B : Nat} {p : Value} {ps : List Pr} (hp : OwnP w B p ps) : ∀ k, p.ownBlock = some k → k < w.heap.size := fun k e => (World.ownsRow.lt hp k e).2
theorem pair_info : (Try.prog.info? 33).map (fun i => (i.zero, i.size, i.bytes)) = some (some (.agg #[.int .i64 0, .int .i64 0]), 2, 16) := by kernel_rfl
theorem pair_empty (w : World) (B : Nat) (hB : B ≤ w.heap.size) : OwnP (w.alloc (.cells #[] 33)) B (.slice (some ⟨w.heap.size, 0, none⟩) 0 0) [] :=
  World.ownsRow_lit (base := B) (e := 33) (size := 2) w #[] 0 hB (by simp [maxLen]) (by simp)

end Go.Proofs.Ytnpcgbjkahpcfaa
