/-
  Rough counts in memory of a call's own: rows that lie apart; what stays, what a store and an append make of it.
-/
import Derived.Test.YtnpcgbjkahpcfaaMem
import Derived.Deep.AppendLies
import Derived.Deep.RegionHeld3
namespace Go.Proofs.Ytnpcgbjkahpcfaa
open Go.RowKit

theorem grownBy_trans {w w1 w2 : World} {row : Option Nat} (h1 : w.grownBy w1 row) (h2 : w1.grownBy w2 row) : w.grownBy w2 row :=
  ⟨h2.os.trans h1.os, h2.tape.trans h1.tape, h2.output.trans h1.output, Nat.le_trans h1.size h2.size, fun k hk hr => (h2.block k (Nat.lt_of_lt_of_le hk h1.size) hr).trans (h1.block k hk hr)⟩
theorem grownBy_refl (w : World) (row : Option Nat) : w.grownBy w row := ⟨rfl, rfl, rfl, Nat.le_refl _, fun _ _ _ => rfl⟩
theorem grownBy_below {w w' : World} {row : Option Nat} (h : Below w.heap.size w w') : w.grownBy w' row := ⟨h.os, h.tape, h.output, h.size, fun k hk _ => h.block k hk⟩
theorem grownBy_drewN {w w' : World} {row : Option Nat} (h : w.grownBy w' row) (n : Nat) : w.grownBy (w'.drewN n) row := ⟨h.os, h.tape, h.output, h.size, h.block⟩
theorem below_grown {w w' : World} {B a : Nat} (h : w.grownBy w' (some a)) (hB : B ≤ a) (hw : B ≤ w.heap.size) : Below B w w' :=
  ⟨h.os, h.tape, h.output, h.size, fun k hk => h.block k (by omega) (by simp; omega)⟩
theorem grownBy_setCell (w : World) (a : Addr) (u : Value) : w.grownBy (w.setCell a u) (some a.block) :=
  ⟨rfl, rfl, rfl, by simp, fun k _ hk => heap_setCell_other w a k u (fun e => hk (by simp [e]))⟩

/-- All blocks are as they were, but those of S. -/
structure KeptB (S : Nat → Prop) (w w' : World) : Prop where
  os : w'.os = w.os
  tape : w'.tape = w.tape
  output : w'.output = w.output
  size : w.heap.size ≤ w'.heap.size
  block : ∀ k, k < w.heap.size → ¬ S k → w'.heap[k]? = w.heap[k]?

theorem KeptB.refl (S : Nat → Prop) (w : World) : KeptB S w w := ⟨rfl, rfl, rfl, Nat.le_refl _, fun _ _ _ => rfl⟩
theorem KeptB.trans {S : Nat → Prop} {a b c : World} (h : KeptB S a b) (k : KeptB S b c) : KeptB S a c :=
  ⟨k.os.trans h.os, k.tape.trans h.tape, k.output.trans h.output, Nat.le_trans h.size k.size, fun i hi hs => (k.block i (Nat.lt_of_lt_of_le hi h.size) hs).trans (h.block i hi hs)⟩
theorem KeptB.mono {S T : Nat → Prop} {w w' : World} (h : KeptB S w w') (hST : ∀ k, S k → T k) : KeptB T w w' := ⟨h.os, h.tape, h.output, h.size, fun k hk ht => h.block k hk (fun hs => ht (hST k hs))⟩
theorem KeptB.of_grown {w w' : World} {g : Nat} {S : Nat → Prop} (h : w.grownBy w' (some g)) (hS : S g) : KeptB S w w' :=
  ⟨h.os, h.tape, h.output, h.size, fun k hk hs => h.block k hk (fun e => by cases e; exact hs hS)⟩
theorem KeptB.of_below {w w' : World} (S : Nat → Prop) (h : Below w.heap.size w w') : KeptB S w w' := ⟨h.os, h.tape, h.output, h.size, fun k hk _ => h.block k hk⟩
theorem KeptB.below {S : Nat → Prop} {w w' : World} {B : Nat} (h : KeptB S w w') (hB : B ≤ w.heap.size) (hS : ∀ k, S k → B ≤ k) : Below B w w' :=
  ⟨h.os, h.tape, h.output, h.size, fun k hk => h.block k (by omega) (fun hs => by have := hS k hs; omega)⟩
theorem KeptB.cell {S : Nat → Prop} {w w' : World} (h : KeptB S w w') {a : Addr} {v : Value} (hc : w.cell? a = some v) (hS : ¬ S a.block) : w'.cell? a = some v :=
  (World.cell?_of_block (w := w) (h.block a.block (World.block_lt_of_cell? _ _ hc) hS)).trans hc

/-- The value of row i, and what its cells hold. -/
def rowV (rs : List (List Int)) (G C : Nat → Nat) (i : Nat) : Value := .slice (some ⟨G i, 0, none⟩) (rs.getD i []).length (C i)
def ints (zs : List Int) : List Value := zs.map (Value.int .i64)

/-- The value u is rows of numbers, all in blocks from B on, apart from one another. -/
structure OwnR (w : World) (B : Nat) (u : Value) (rs : List (List Int)) (G C : Nat → Nat) : Prop where
  hdr : w.ownsRow B 64 1 u rs.length ((List.range rs.length).map (rowV rs G C))
  row : ∀ i, i < rs.length → w.ownsRow B 3 1 (rowV rs G C i) (rs.getD i []).length (ints (rs.getD i []))
  off : ∀ i, i < rs.length → u.ownBlock ≠ some (G i)
  apart : ∀ i j, i < rs.length → j < rs.length → i ≠ j → G i ≠ G j

theorem ints_len (zs : List Int) : (ints zs).length = zs.length := by simp [ints]
theorem ints_get (zs : List Int) (i : Nat) (h : i < zs.length) : (ints zs)[i]? = some (.int .i64 (zs.getD i 0)) := by simp [ints, h]

theorem ownI_ints {w : World} {B : Nat} {v : Value} {zs : List Int} (h : w.ownsRow B 3 1 v zs.length (ints zs)) : Ints w v zs := by
  rcases h.2 with ⟨rfl, h0⟩ | ⟨g, cap, cur, rfl, hb, hg, hn, hc, hs, ht⟩
  · exact .inl ⟨rfl, List.eq_nil_of_length_eq_zero h0⟩
  · refine .inr ⟨g, 0, cap, rfl, hn, hc, (Array.getElem?_eq_some_iff.1 hg).1, fun i hi => ?_⟩
    have := World.ownsRow.cellAt h i (by omega)
    rw [Nat.zero_add, this, ints_get _ _ hi]

theorem OwnR.rws {w : World} {B : Nat} {u : Value} {rs : List (List Int)} {G C : Nat → Nat} (h : OwnR w B u rs G C) : Rws w u rs := by
  have hh := h.hdr
  rcases hh.2 with ⟨rfl, h0⟩ | ⟨g, cap, cur, rfl, hb, hg, hn, hc, hs, ht⟩
  · exact .inl ⟨rfl, List.eq_nil_of_length_eq_zero h0⟩
  · refine .inr ⟨g, 0, cap, rfl, hn, hc, (Array.getElem?_eq_some_iff.1 hg).1, fun i hi => ⟨_, ?_, ownI_ints (h.row i hi)⟩⟩
    have := World.ownsRow.cellAt hh i (by omega)
    rw [Nat.zero_add, this]
    simp [hi]

theorem OwnR.grown {w w' : World} {B : Nat} {u : Value} {rs : List (List Int)} {G C : Nat → Nat} {row : Option Nat} (h : OwnR w B u rs G C) (hg : w.grownBy w' row) (hr : ∀ k, row = some k → k < B) : OwnR w' B u rs G C := by
  have ne : ∀ {v : Value} {n : Nat} {e : TypeId} {xs : List Value}, w.ownsRow B e 1 v n xs → v.ownBlock = none ∨ v.ownBlock ≠ row := fun {v n e xs} ho => by
    cases hv : v.ownBlock with
    | none => exact .inl rfl
    | some k => exact .inr (fun e => by have := (ho.lt k hv).1; have := hr k e.symm; omega)
  exact ⟨h.hdr.kept hg (ne h.hdr), fun i hi => (h.row i hi).kept hg (ne (h.row i hi)), h.off, h.apart⟩

theorem OwnR.below {w w' : World} {B B' : Nat} {u : Value} {rs : List (List Int)} {G C : Nat → Nat} (h : OwnR w B u rs G C) (hg : Below B' w w') (hB : w.heap.size ≤ B') : OwnR w' B u rs G C :=
  h.grown (row := none) ⟨hg.os, hg.tape, hg.output, hg.size, fun k hk _ => hg.block k (by omega)⟩ (fun _ e => by cases e)

theorem ownsRow_base {w : World} {B B' : Nat} {e : TypeId} {size : Nat} {v : Value} {n : Nat} {xs : List Value} (h : w.ownsRow B e size v n xs) (hB : B' ≤ B) : w.ownsRow B' e size v n xs := by
  obtain ⟨h1, h2⟩ := h
  refine ⟨h1, ?_⟩
  rcases h2 with h2 | ⟨g, cap, cur, hv, hg, r⟩
  · exact .inl h2
  · exact .inr ⟨g, cap, cur, hv, Nat.le_trans hB hg, r⟩

theorem OwnR.base {w : World} {B B' : Nat} {u : Value} {rs : List (List Int)} {G C : Nat → Nat} (h : OwnR w B u rs G C) (hB : B' ≤ B) : OwnR w B' u rs G C :=
  ⟨ownsRow_base h.hdr hB, fun i hi => ownsRow_base (h.row i hi) hB, h.off, h.apart⟩

/-- A row more. -/
theorem OwnR.snoc {w w' : World} {B : Nat} {u : Value} {rs : List (List Int)} {G C : Nat → Nat} (h : OwnR w B u rs G C) {zs : List Int} {g c gg cap : Nat}
    (hz : w.ownsRow B 3 1 (.slice (some ⟨g, 0, none⟩) zs.length c) zs.length (ints zs)) (hu : u.ownBlock ≠ some g) (hG : ∀ i, i < rs.length → G i ≠ g)
    (hown : w'.ownsRow B 64 1 (.slice (some ⟨gg, 0, none⟩) (rs.length + 1) cap) (rs.length + 1) ((List.range rs.length).map (rowV rs G C) ++ [.slice (some ⟨g, 0, none⟩) zs.length c]))
    (hg : w.grownBy w' u.ownBlock) (hat : u.ownBlock = some gg ∨ gg = w.heap.size) :
    OwnR w' B (.slice (some ⟨gg, 0, none⟩) (rs.length + 1) cap) (rs ++ [zs]) (fun i => if i < rs.length then G i else g) (fun i => if i < rs.length then C i else c) := by
  have e1 : ∀ i, i < rs.length → rowV (rs ++ [zs]) (fun i => if i < rs.length then G i else g) (fun i => if i < rs.length then C i else c) i = rowV rs G C i := fun i hi => by
    simp [rowV, hi, List.getElem?_append_left]
  have e2 : rowV (rs ++ [zs]) (fun i => if i < rs.length then G i else g) (fun i => if i < rs.length then C i else c) rs.length = .slice (some ⟨g, 0, none⟩) zs.length c := by
    simp [rowV]
  have f1 : ∀ i, i < rs.length → (rs ++ [zs]).getD i [] = rs.getD i [] := fun i hi => by simp [hi, List.getElem?_append_left]
  have f2 : (rs ++ [zs]).getD rs.length [] = zs := by simp
  have lt1 : ∀ i, i < rs.length → G i < w.heap.size := fun i hi => ((h.row i hi).lt (G i) rfl).2
  have ltg : g < w.heap.size := (hz.lt g rfl).2
  refine ⟨?_, fun i hi => ?_, fun i hi => ?_, fun i j hi hj hij => ?_⟩
  · simp only [List.length_append, List.length_singleton]
    rw [List.range_succ, List.map_append, List.map_singleton, e2, List.map_congr_left (fun i hi => e1 i (List.mem_range.1 hi))]
    exact hown
  · simp only [List.length_append, List.length_singleton] at hi
    by_cases hi' : i < rs.length
    · rw [e1 i hi', f1 i hi']
      exact (h.row i hi').kept hg (.inr (fun e => h.off i hi' e.symm))
    · obtain rfl : i = rs.length := by omega
      rw [e2, f2]
      exact hz.kept hg (.inr (fun e => hu e.symm))
  · simp only [List.length_append, List.length_singleton] at hi
    intro e
    have e' : gg = if i < rs.length then G i else g := by simpa [Value.ownBlock] using e
    by_cases hi' : i < rs.length
    · rw [if_pos hi'] at e'
      rcases hat with hat | hat
      · exact h.off i hi' (by rw [hat, e'])
      · have := lt1 i hi'; omega
    · rw [if_neg hi'] at e'
      rcases hat with hat | hat
      · exact hu (by rw [hat, e'])
      · omega
  · simp only [List.length_append, List.length_singleton] at hi hj
    show (if i < rs.length then G i else g) ≠ (if j < rs.length then G j else g)
    by_cases hi' : i < rs.length <;> by_cases hj' : j < rs.length
    · rw [if_pos hi', if_pos hj']; exact h.apart i j hi' hj' hij
    · rw [if_pos hi', if_neg hj']; exact hG i hi'
    · rw [if_neg hi', if_pos hj']; exact fun e => hG j hj' e.symm
    · omega

/-- A store into row i. -/
theorem OwnR.store {w : World} {B : Nat} {u : Value} {rs : List (List Int)} {G C : Nat → Nat} (h : OwnR w B u rs G C) (i k : Nat) (z : Int) (hi : i < rs.length) (hk : k < (rs.getD i []).length) :
    OwnR (w.setCell ⟨G i, k, none⟩ (.int .i64 z)) B u (rs.set i ((rs.getD i []).set k z)) G C ∧ w.grownBy (w.setCell ⟨G i, k, none⟩ (.int .i64 z)) (some (G i)) := by
  have hg := grownBy_setCell w ⟨G i, k, none⟩ (.int .i64 z)
  have eL : ∀ j, ((rs.set i ((rs.getD i []).set k z)).getD j []).length = (rs.getD j []).length := fun j => by
    simp only [List.getD_eq_getElem?_getD, List.getElem?_set]
    by_cases e : i = j
    · subst e; simp [hi]
    · simp [e]
  have eV : ∀ j, rowV (rs.set i ((rs.getD i []).set k z)) G C j = rowV rs G C j := fun j => by unfold rowV; rw [eL]
  refine ⟨⟨?_, fun j hj => ?_, fun j hj => h.off j (by simpa using hj), fun a b ha hb hab => h.apart a b (by simpa using ha) (by simpa using hb) hab⟩, hg⟩
  · simp only [List.length_set]
    rw [List.map_congr_left (fun j _ => eV j)]
    exact h.hdr.kept hg (.inr (h.off i hi))
  · simp only [List.length_set] at hj
    rw [eV, eL]
    by_cases e : j = i
    · subst e
      have := ((h.row j hj).stored k (.int .i64 z)).1
      have e' : ints ((rs.set j ((rs.getD j []).set k z)).getD j []) = (ints (rs.getD j [])).set k (.int .i64 z) := by
        simp [ints, hj, List.map_set]
      rw [e']
      exact this
    · have e' : (rs.set i ((rs.getD i []).set k z)).getD j [] = rs.getD j [] := by simp [Ne.symm e]
      rw [e']
      exact (h.row j hj).kept hg (.inr (by simp [rowV, Value.ownBlock]; exact h.apart j i hj hi e))

end Go.Proofs.Ytnpcgbjkahpcfaa
