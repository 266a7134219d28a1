/-
  Several texts in one: Num, Mem, Own, Last.
-/
import Derived.Test.YtbnggcgojbkoaaaDoorRows
import Derived.WalkKit
import Derived.WalkSpells
import Derived.WalkLawsBesides
import Derived.Lib.Hide
import Derived.Deep.QuietTactic
import Derived.BigQuiet
import Derived.Deep.AppendLies
import Derived.Deep.RegionHeld3
import Derived.Lib.QuietBelow
import Derived.StillTail
set_option linter.unusedVariables false
/-
  The walks of the small functions on numbers: RoughPlace of the program and of its model, and what they call.
-/
namespace Go.Proofs.YtbnggcgojbkoaaaDoor
open Go.RowKit

theorem ret_int {k : IntKind} {a b : Int} (h : a = b) : Ending.returned (.int k a) = .returned (.int k b) := by rw [h]
theorem ret_bool {a b : Bool} (h : a = b) : Ending.returned (.bool a) = .returned (.bool b) := by rw [h]


theorem l6In_yes (n lo hi : Int) (w : World) (h0 : lo ≤ n) (h1 : n ≤ hi) :
    Calls Tryd.prog 22 #[.int .i64 n, .int .i64 lo, .int .i64 hi] w fun e w' => e = .returned (.bool true) ∧ w = w' := by
  go_enter Tryd.func22, Tryd.ntmps22
  go_wp2
  go_ret
  exact ⟨rfl, rfl⟩
theorem l6In_no (n lo hi : Int) (w : World) (h : n < lo ∨ hi < n) :
    Calls Tryd.prog 22 #[.int .i64 n, .int .i64 lo, .int .i64 hi] w fun e w' => e = .returned (.bool false) ∧ w = w' := by
  by_cases h' : lo ≤ n
  · have h1 : ¬ n ≤ hi := by omega
    go_enter Tryd.func22, Tryd.ntmps22
    go_wp2
    go_ret
    exact ⟨rfl, rfl⟩
  · go_enter Tryd.func22, Tryd.ntmps22
    go_wp2
    go_ret
    exact ⟨rfl, rfl⟩

/-- In which place of row i the thing t is counted. -/
def place (i t : Int) : Int := if i = 0 then (3 * t + t / 8) % 8 else if i = 1 then (5 * t + t / 16 + 1) % 8 else (t + t / 4 + 2) % 8
theorem place_bd (i t : Int) : 0 ≤ place i t ∧ place i t < 8 := by unfold place; split <;> (try split) <;> omega


end Go.Proofs.YtbnggcgojbkoaaaDoor

/-
  How slices of numbers, and rough counts, lie in memory: words for readings, and that they stay.
-/
namespace Go.Proofs.YtbnggcgojbkoaaaDoor
open Go.RowKit

/-- The value v reads in w as the numbers zs. -/
def Ints (w : World) (v : Value) (zs : List Int) : Prop :=
  (v = .slice none 0 0 ∧ zs = []) ∨
  ∃ b o cap, v = .slice (some ⟨b, o, none⟩) zs.length cap ∧ zs.length ≤ cap ∧ cap ≤ maxLen ∧ b < w.heap.size ∧ ∀ i, i < zs.length → w.cell? ⟨b, o + i, none⟩ = some (.int .i64 (zs.getD i 0))

/-- The value v reads in w as rows of numbers. -/
def Rws (w : World) (v : Value) (rs : List (List Int)) : Prop :=
  (v = .slice none 0 0 ∧ rs = []) ∨
  ∃ b o cap, v = .slice (some ⟨b, o, none⟩) rs.length cap ∧ rs.length ≤ cap ∧ cap ≤ maxLen ∧ b < w.heap.size ∧ ∀ i, i < rs.length → ∃ x, w.cell? ⟨b, o + i, none⟩ = some x ∧ Ints w x (rs.getD i [])

theorem Ints.below {w w' : World} {v : Value} {zs : List Int} (h : Ints w v zs) {B : Nat} (hb : Below B w w') (hB : w.heap.size ≤ B) : Ints w' v zs := by
  rcases h with h | ⟨b, o, cap, rfl, h1, h2, h3, h4⟩
  · exact .inl h
  · exact .inr ⟨b, o, cap, rfl, h1, h2, Nat.lt_of_lt_of_le h3 hb.size, fun i hi => by rw [hb.cell (by show b < B; omega)]; exact h4 i hi⟩

theorem Rws.below {w w' : World} {v : Value} {rs : List (List Int)} (h : Rws w v rs) {B : Nat} (hb : Below B w w') (hB : w.heap.size ≤ B) : Rws w' v rs := by
  rcases h with h | ⟨b, o, cap, rfl, h1, h2, h3, h4⟩
  · exact .inl h
  · refine .inr ⟨b, o, cap, rfl, h1, h2, Nat.lt_of_lt_of_le h3 hb.size, fun i hi => ?_⟩
    obtain ⟨x, hx, hi'⟩ := h4 i hi
    exact ⟨x, by rw [hb.cell (by show b < B; omega)]; exact hx, hi'.below hb hB⟩

theorem getD_mem {α : Type} (l : List α) (k : Nat) (d : α) (h : k < l.length) : l.getD k d ∈ l := by
  rw [List.getD_eq_getElem?_getD, List.getElem?_eq_getElem h]; exact List.getElem_mem h

theorem sum_take_succ (zs : List Int) (k : Nat) (h : k < zs.length) : (zs.take (k + 1)).sum = (zs.take k).sum + zs.getD k 0 := by
  rw [List.take_succ_eq_append_getElem h, List.sum_append]; simp [h]

theorem quiet_same' {P : Program} {f : FuncId} {args : Array Value} {w : World} {n : Nat} {v : Value}
    (h : Calls P f args (w.drewN n) fun e w' => e = .returned v ∧ w.drewN n = w') : Calls P f args (w.drewN n) fun e w'' => e = .returned v ∧ ∃ m, w'' = w.drewN m :=
  h.mono fun _ _ ⟨he, hm⟩ => ⟨he, n, hm.symm⟩

theorem sum_bd (n : Int) (zs : List Int) (h : ∀ z ∈ zs, 0 ≤ z ∧ z ≤ n) : 0 ≤ zs.sum ∧ zs.sum ≤ n * zs.length := by
  induction zs with
  | nil => simp
  | cons a l ih =>
    have h1 := ih (fun z hz => h z (by simp [hz]))
    have h2 := h a (by simp)
    simp only [List.sum_cons, List.length_cons]
    constructor
    · omega
    · have : n * ((l.length + 1 : Nat) : Int) = n * (l.length : Int) + n := by rw [Int.natCast_add, Int.mul_add]; simp
      omega


end Go.Proofs.YtbnggcgojbkoaaaDoor

/-
  Rough counts in memory of a call's own: rows that lie apart; what stays, what a store and an append make of it.
-/
namespace Go.Proofs.YtbnggcgojbkoaaaDoor
open Go.RowKit

theorem grownBy_trans {w w1 w2 : World} {row : Option Nat} (h1 : w.grownBy w1 row) (h2 : w1.grownBy w2 row) : w.grownBy w2 row :=
  ⟨h2.os.trans h1.os, h2.tape.trans h1.tape, h2.output.trans h1.output, Nat.le_trans h1.size h2.size, fun k hk hr => (h2.block k (Nat.lt_of_lt_of_le hk h1.size) hr).trans (h1.block k hk hr)⟩
theorem grownBy_refl (w : World) (row : Option Nat) : w.grownBy w row := ⟨rfl, rfl, rfl, Nat.le_refl _, fun _ _ _ => rfl⟩
theorem grownBy_below {w w' : World} {row : Option Nat} (h : Below w.heap.size w w') : w.grownBy w' row := ⟨h.os, h.tape, h.output, h.size, fun k hk _ => h.block k hk⟩
theorem grownBy_drewN {w w' : World} {row : Option Nat} (h : w.grownBy w' row) (n : Nat) : w.grownBy (w'.drewN n) row := ⟨h.os, h.tape, h.output, h.size, h.block⟩
theorem below_grown {w w' : World} {B a : Nat} (h : w.grownBy w' (some a)) (hB : B ≤ a) (hw : B ≤ w.heap.size) : Below B w w' :=
  ⟨h.os, h.tape, h.output, h.size, fun k hk => h.block k (by omega) (by simp; omega)⟩
theorem grownBy_setCell (w : World) (a : Addr) (u : Value) : w.grownBy (w.setCell a u) (some a.block) :=
  ⟨rfl, rfl, rfl, by simp, fun k _ hk => heap_setCell_other w a k u (fun e => hk (by simp [e]))⟩

/-- All blocks are as they were, but those of S. -/
structure KeptB (S : Nat → Prop) (w w' : World) : Prop where
  os : w'.os = w.os
  tape : w'.tape = w.tape
  output : w'.output = w.output
  size : w.heap.size ≤ w'.heap.size
  block : ∀ k, k < w.heap.size → ¬ S k → w'.heap[k]? = w.heap[k]?

theorem KeptB.refl (S : Nat → Prop) (w : World) : KeptB S w w := ⟨rfl, rfl, rfl, Nat.le_refl _, fun _ _ _ => rfl⟩
theorem KeptB.trans {S : Nat → Prop} {a b c : World} (h : KeptB S a b) (k : KeptB S b c) : KeptB S a c :=
  ⟨k.os.trans h.os, k.tape.trans h.tape, k.output.trans h.output, Nat.le_trans h.size k.size, fun i hi hs => (k.block i (Nat.lt_of_lt_of_le hi h.size) hs).trans (h.block i hi hs)⟩
theorem KeptB.mono {S T : Nat → Prop} {w w' : World} (h : KeptB S w w') (hST : ∀ k, S k → T k) : KeptB T w w' := ⟨h.os, h.tape, h.output, h.size, fun k hk ht => h.block k hk (fun hs => ht (hST k hs))⟩
theorem KeptB.of_grown {w w' : World} {g : Nat} {S : Nat → Prop} (h : w.grownBy w' (some g)) (hS : S g) : KeptB S w w' :=
  ⟨h.os, h.tape, h.output, h.size, fun k hk hs => h.block k hk (fun e => by cases e; exact hs hS)⟩
theorem KeptB.of_below {w w' : World} (S : Nat → Prop) (h : Below w.heap.size w w') : KeptB S w w' := ⟨h.os, h.tape, h.output, h.size, fun k hk _ => h.block k hk⟩
theorem KeptB.below {S : Nat → Prop} {w w' : World} {B : Nat} (h : KeptB S w w') (hB : B ≤ w.heap.size) (hS : ∀ k, S k → B ≤ k) : Below B w w' :=
  ⟨h.os, h.tape, h.output, h.size, fun k hk => h.block k (by omega) (fun hs => by have := hS k hs; omega)⟩
theorem KeptB.cell {S : Nat → Prop} {w w' : World} (h : KeptB S w w') {a : Addr} {v : Value} (hc : w.cell? a = some v) (hS : ¬ S a.block) : w'.cell? a = some v :=
  (World.cell?_of_block (w := w) (h.block a.block (World.block_lt_of_cell? _ _ hc) hS)).trans hc

/-- The value of row i, and what its cells hold. -/
def rowV (rs : List (List Int)) (G C : Nat → Nat) (i : Nat) : Value := .slice (some ⟨G i, 0, none⟩) (rs.getD i []).length (C i)
def ints (zs : List Int) : List Value := zs.map (Value.int .i64)

/-- The value u is rows of numbers, all in blocks from B on, apart from one another. -/
structure OwnR (w : World) (B : Nat) (u : Value) (rs : List (List Int)) (G C : Nat → Nat) : Prop where
  hdr : w.ownsRow B 41 1 u rs.length ((List.range rs.length).map (rowV rs G C))
  row : ∀ i, i < rs.length → w.ownsRow B 3 1 (rowV rs G C i) (rs.getD i []).length (ints (rs.getD i []))
  off : ∀ i, i < rs.length → u.ownBlock ≠ some (G i)
  apart : ∀ i j, i < rs.length → j < rs.length → i ≠ j → G i ≠ G j

theorem ints_len (zs : List Int) : (ints zs).length = zs.length := by simp [ints]
theorem ints_get (zs : List Int) (i : Nat) (h : i < zs.length) : (ints zs)[i]? = some (.int .i64 (zs.getD i 0)) := by simp [ints, h]

theorem ownI_ints {w : World} {B : Nat} {v : Value} {zs : List Int} (h : w.ownsRow B 3 1 v zs.length (ints zs)) : Ints w v zs := by
  rcases h.2 with ⟨rfl, h0⟩ | ⟨g, cap, cur, rfl, hb, hg, hn, hc, hs, ht⟩
  · exact .inl ⟨rfl, List.eq_nil_of_length_eq_zero h0⟩
  · refine .inr ⟨g, 0, cap, rfl, hn, hc, (Array.getElem?_eq_some_iff.1 hg).1, fun i hi => ?_⟩
    have := World.ownsRow.cellAt h i (by omega)
    rw [Nat.zero_add, this, ints_get _ _ hi]

theorem OwnR.rws {w : World} {B : Nat} {u : Value} {rs : List (List Int)} {G C : Nat → Nat} (h : OwnR w B u rs G C) : Rws w u rs := by
  have hh := h.hdr
  rcases hh.2 with ⟨rfl, h0⟩ | ⟨g, cap, cur, rfl, hb, hg, hn, hc, hs, ht⟩
  · exact .inl ⟨rfl, List.eq_nil_of_length_eq_zero h0⟩
  · refine .inr ⟨g, 0, cap, rfl, hn, hc, (Array.getElem?_eq_some_iff.1 hg).1, fun i hi => ⟨_, ?_, ownI_ints (h.row i hi)⟩⟩
    have := World.ownsRow.cellAt hh i (by omega)
    rw [Nat.zero_add, this]
    simp [hi]

theorem OwnR.grown {w w' : World} {B : Nat} {u : Value} {rs : List (List Int)} {G C : Nat → Nat} {row : Option Nat} (h : OwnR w B u rs G C) (hg : w.grownBy w' row) (hr : ∀ k, row = some k → k < B) : OwnR w' B u rs G C := by
  have ne : ∀ {v : Value} {n : Nat} {e : TypeId} {xs : List Value}, w.ownsRow B e 1 v n xs → v.ownBlock = none ∨ v.ownBlock ≠ row := fun {v n e xs} ho => by
    cases hv : v.ownBlock with
    | none => exact .inl rfl
    | some k => exact .inr (fun e => by have := (ho.lt k hv).1; have := hr k e.symm; omega)
  exact ⟨h.hdr.kept hg (ne h.hdr), fun i hi => (h.row i hi).kept hg (ne (h.row i hi)), h.off, h.apart⟩

theorem OwnR.below {w w' : World} {B B' : Nat} {u : Value} {rs : List (List Int)} {G C : Nat → Nat} (h : OwnR w B u rs G C) (hg : Below B' w w') (hB : w.heap.size ≤ B') : OwnR w' B u rs G C :=
  h.grown (row := none) ⟨hg.os, hg.tape, hg.output, hg.size, fun k hk _ => hg.block k (by omega)⟩ (fun _ e => by cases e)

theorem ownsRow_base {w : World} {B B' : Nat} {e : TypeId} {size : Nat} {v : Value} {n : Nat} {xs : List Value} (h : w.ownsRow B e size v n xs) (hB : B' ≤ B) : w.ownsRow B' e size v n xs := by
  obtain ⟨h1, h2⟩ := h
  refine ⟨h1, ?_⟩
  rcases h2 with h2 | ⟨g, cap, cur, hv, hg, r⟩
  · exact .inl h2
  · exact .inr ⟨g, cap, cur, hv, Nat.le_trans hB hg, r⟩

theorem OwnR.base {w : World} {B B' : Nat} {u : Value} {rs : List (List Int)} {G C : Nat → Nat} (h : OwnR w B u rs G C) (hB : B' ≤ B) : OwnR w B' u rs G C :=
  ⟨ownsRow_base h.hdr hB, fun i hi => ownsRow_base (h.row i hi) hB, h.off, h.apart⟩

/-- A row more. -/
theorem OwnR.snoc {w w' : World} {B : Nat} {u : Value} {rs : List (List Int)} {G C : Nat → Nat} (h : OwnR w B u rs G C) {zs : List Int} {g c gg cap : Nat}
    (hz : w.ownsRow B 3 1 (.slice (some ⟨g, 0, none⟩) zs.length c) zs.length (ints zs)) (hu : u.ownBlock ≠ some g) (hG : ∀ i, i < rs.length → G i ≠ g)
    (hown : w'.ownsRow B 41 1 (.slice (some ⟨gg, 0, none⟩) (rs.length + 1) cap) (rs.length + 1) ((List.range rs.length).map (rowV rs G C) ++ [.slice (some ⟨g, 0, none⟩) zs.length c]))
    (hg : w.grownBy w' u.ownBlock) (hat : u.ownBlock = some gg ∨ gg = w.heap.size) :
    OwnR w' B (.slice (some ⟨gg, 0, none⟩) (rs.length + 1) cap) (rs ++ [zs]) (fun i => if i < rs.length then G i else g) (fun i => if i < rs.length then C i else c) := by
  have e1 : ∀ i, i < rs.length → rowV (rs ++ [zs]) (fun i => if i < rs.length then G i else g) (fun i => if i < rs.length then C i else c) i = rowV rs G C i := fun i hi => by
    simp [rowV, hi, List.getElem?_append_left]
  have e2 : rowV (rs ++ [zs]) (fun i => if i < rs.length then G i else g) (fun i => if i < rs.length then C i else c) rs.length = .slice (some ⟨g, 0, none⟩) zs.length c := by
    simp [rowV]
  have f1 : ∀ i, i < rs.length → (rs ++ [zs]).getD i [] = rs.getD i [] := fun i hi => by simp [hi, List.getElem?_append_left]
  have f2 : (rs ++ [zs]).getD rs.length [] = zs := by simp
  have lt1 : ∀ i, i < rs.length → G i < w.heap.size := fun i hi => ((h.row i hi).lt (G i) rfl).2
  have ltg : g < w.heap.size := (hz.lt g rfl).2
  refine ⟨?_, fun i hi => ?_, fun i hi => ?_, fun i j hi hj hij => ?_⟩
  · simp only [List.length_append, List.length_singleton]
    rw [List.range_succ, List.map_append, List.map_singleton, e2, List.map_congr_left (fun i hi => e1 i (List.mem_range.1 hi))]
    exact hown
  · simp only [List.length_append, List.length_singleton] at hi
    by_cases hi' : i < rs.length
    · rw [e1 i hi', f1 i hi']
      exact (h.row i hi').kept hg (.inr (fun e => h.off i hi' e.symm))
    · obtain rfl : i = rs.length := by omega
      rw [e2, f2]
      exact hz.kept hg (.inr (fun e => hu e.symm))
  · simp only [List.length_append, List.length_singleton] at hi
    intro e
    have e' : gg = if i < rs.length then G i else g := by simpa [Value.ownBlock] using e
    by_cases hi' : i < rs.length
    · rw [if_pos hi'] at e'
      rcases hat with hat | hat
      · exact h.off i hi' (by rw [hat, e'])
      · have := lt1 i hi'; omega
    · rw [if_neg hi'] at e'
      rcases hat with hat | hat
      · exact hu (by rw [hat, e'])
      · omega
  · simp only [List.length_append, List.length_singleton] at hi hj
    show (if i < rs.length then G i else g) ≠ (if j < rs.length then G j else g)
    by_cases hi' : i < rs.length <;> by_cases hj' : j < rs.length
    · rw [if_pos hi', if_pos hj']; exact h.apart i j hi' hj' hij
    · rw [if_pos hi', if_neg hj']; exact hG i hi'
    · rw [if_neg hi', if_pos hj']; exact fun e => hG j hj' e.symm
    · omega

/-- A store into row i. -/
theorem OwnR.store {w : World} {B : Nat} {u : Value} {rs : List (List Int)} {G C : Nat → Nat} (h : OwnR w B u rs G C) (i k : Nat) (z : Int) (hi : i < rs.length) (hk : k < (rs.getD i []).length) :
    OwnR (w.setCell ⟨G i, k, none⟩ (.int .i64 z)) B u (rs.set i ((rs.getD i []).set k z)) G C ∧ w.grownBy (w.setCell ⟨G i, k, none⟩ (.int .i64 z)) (some (G i)) := by
  have hg := grownBy_setCell w ⟨G i, k, none⟩ (.int .i64 z)
  have eL : ∀ j, ((rs.set i ((rs.getD i []).set k z)).getD j []).length = (rs.getD j []).length := fun j => by
    simp only [List.getD_eq_getElem?_getD, List.getElem?_set]
    by_cases e : i = j
    · subst e; simp [hi]
    · simp [e]
  have eV : ∀ j, rowV (rs.set i ((rs.getD i []).set k z)) G C j = rowV rs G C j := fun j => by unfold rowV; rw [eL]
  refine ⟨⟨?_, fun j hj => ?_, fun j hj => h.off j (by simpa using hj), fun a b ha hb hab => h.apart a b (by simpa using ha) (by simpa using hb) hab⟩, hg⟩
  · simp only [List.length_set]
    rw [List.map_congr_left (fun j _ => eV j)]
    exact h.hdr.kept hg (.inr (h.off i hi))
  · simp only [List.length_set] at hj
    rw [eV, eL]
    by_cases e : j = i
    · subst e
      have := ((h.row j hj).stored k (.int .i64 z)).1
      have e' : ints ((rs.set j ((rs.getD j []).set k z)).getD j []) = (ints (rs.getD j [])).set k (.int .i64 z) := by
        simp [ints, hj, List.map_set]
      rw [e']
      exact this
    · have e' : (rs.set i ((rs.getD i []).set k z)).getD j [] = rs.getD j [] := by simp [Ne.symm e]
      rw [e']
      exact (h.row j hj).kept hg (.inr (by simp [rowV, Value.ownBlock]; exact h.apart j i hj hi e))

end Go.Proofs.YtbnggcgojbkoaaaDoor

/-
  A statement that draws its order, reads, calls what makes memory of its own, and stores once, at its end: one walk in the order of the text serves every order.
-/
namespace Go.Proofs.YtbnggcgojbkoaaaDoor
open Go.RowKit Go.Sort

/-- A fact that no unfolding looks into. -/
structure Boxed (p : Prop) : Prop where
  out : p

/-- One operation of the walk, what follows behind a variable, and boxed. -/
theorem boxed_step {P : Program} {ops : Array Oper} {C : World → Prop} {Q : Act → Prop} {a : Act} {o : Oper} {rest : List Oper}
    (h : ∀ K : Act → Prop, (∀ a, Boxed (wpQuiet P ops C Q rest a) → K a) → if Region.wanted o (yielded ops a.tmps) then o.quiet P a C K else K (a.put o.dst undef)) : Boxed (wpQuiet P ops C Q (o :: rest) a) :=
  ⟨wpQuiet_step fun K hK => h K fun a ha => hK a ha.out⟩
theorem boxed_nil {P : Program} {ops : Array Oper} {C : World → Prop} {Q : Act → Prop} {a : Act} (h : Q a) : Boxed (wpQuiet P ops C Q [] a) := ⟨h⟩
theorem boxed_region {P : Program} {id : Nat} {Q : Exit → Act → World → Prop} {a : Act} {w : World} {l : List Oper} (hm : P.follows .mixedOrders = true) (hB : Region.lexB .any l.toArray = true)
    (h : Boxed (wpQuiet P l.toArray (fun w' => ∃ p : Regrown, w' = grow (redrawn w p.d) p.os) (fun a' => ∀ w', (∃ p : Regrown, w' = grow (redrawn w p.d) p.os) → Q .normal a' w') l a)) : (Code.region id l.toArray true).wp P Q a w :=
  wp_region_quiet_below hm hB h.out

/-- The operation o, but that it does nothing. -/
def hush (o : Oper) : Oper := { o with op := .move (.const (.bool false)) }

section
variable {P : Program} {md : Region.Mode} {C : World → Prop}

theorem ready_hush {A B : Array Oper} (hs : A.size = B.size) (h : ∀ j : Nat, (A[j]?).map Oper.after = (B[j]?).map Oper.after) (listed : Array Bool) : Region.ready md A listed = Region.ready md B listed := by
  have e : ∀ j, j ∈ Region.ready md A listed ↔ j ∈ Region.ready md B listed := fun j => by
    rw [mem_ready, mem_ready]
    have hj := h j
    constructor
    · rintro ⟨h1, o, ho, h2⟩
      rw [ho] at hj
      cases hB : B[j]? with
      | none => rw [hB] at hj; cases hj
      | some o' =>
        rw [hB] at hj
        have e : o.after = o'.after := by simpa using hj
        exact ⟨h1, o', rfl, fun e' he' => h2 e' (by rw [e]; exact he')⟩
    · rintro ⟨h1, o, ho, h2⟩
      rw [ho] at hj
      cases hA : A[j]? with
      | none => rw [hA] at hj; cases hj
      | some o' =>
        rw [hA] at hj
        have e : o'.after = o.after := by simpa using hj
        exact ⟨h1, o', rfl, fun e' he' => h2 e' (by rw [← e]; exact he')⟩
  unfold Region.ready at e ⊢
  rw [hs] at e ⊢
  apply List.filter_congr
  intro j hj
  have := e j
  simp only [List.mem_filter, hj, true_and] at this
  exact Bool.eq_iff_iff.2 this

theorem yielded_hush {A B : Array Oper} (h : ∀ j : Nat, (A[j]?).bind Oper.dst = (B[j]?).bind Oper.dst) (tmps : Array Value) : yielded A tmps = yielded B tmps := by
  funext j
  have h' : ((A[j]?).bind fun x => x.dst) = (B[j]?).bind fun x => x.dst := h j
  unfold yielded
  rw [h']

theorem wpQuiet_ops {A B : Array Oper} (h : ∀ tmps, yielded A tmps = yielded B tmps) {Q : Act → Prop} : ∀ (l : List Oper) (a : Act), wpQuiet P A C Q l a → wpQuiet P B C Q l a
  | [], _, hh => hh
  | o :: l, a, hh => by
    unfold wpQuiet at hh ⊢
    rw [← h]
    split
    · rename_i hw
      rw [if_pos hw] at hh
      exact Oper.quiet_mono (fun a' => wpQuiet_ops h l a') hh
    · rename_i hw
      rw [if_neg hw] at hh
      exact wpQuiet_ops h l _ hh

theorem wpQuiet_mono {A : Array Oper} {R R' : Act → Prop} (ho : ∀ a, R a → R' a) : ∀ (l : List Oper) (a : Act), wpQuiet P A C R l a → wpQuiet P A C R' l a
  | [], a, hh => ho a hh
  | p :: l, a, hh => by
    unfold wpQuiet at hh ⊢
    split
    · rename_i hw
      rw [if_pos hw] at hh
      exact Oper.quiet_mono (fun a' => wpQuiet_mono ho l a') hh
    · rename_i hw
      rw [if_neg hw] at hh
      exact wpQuiet_mono ho l _ hh

theorem wpQuiet_snoc {A : Array Oper} {R R' : Act → Prop} {o : Oper} (ho : ∀ a, R a → wpQuiet P A C R' [o] a) : ∀ (l : List Oper) (a : Act), wpQuiet P A C R l a → wpQuiet P A C R' (l ++ [o]) a
  | [], a, hh => ho a hh
  | p :: l, a, hh => by
    rw [List.cons_append]
    unfold wpQuiet at hh ⊢
    split
    · rename_i hw
      rw [if_pos hw] at hh
      exact Oper.quiet_mono (fun a' => wpQuiet_snoc ho l a') hh
    · rename_i hw
      rw [if_neg hw] at hh
      exact wpQuiet_snoc ho l _ hh

/-- The last operation, and what stands behind the region. -/
def OutLast (P : Program) (o : Oper) (Q : Exit → Act → World → Prop) (a : Act) (w : World) : Prop := o.wp P a w (fun a w => Q .normal a w) Q ∨ (o.asks P a w ∧ LetsOut Q)

/-- Every operation waits only for such as stand ahead of it. -/
def backB (A : Array Oper) : Bool := (List.range A.size).all fun i => match A[i]? with | some o => o.after.all fun e => decide (e.on < i) | none => true

/-- While one has not come up, one may. -/
theorem some_ready {A : Array Oper} {listed : Array Bool} (hb : backB A = true) (hsz : listed.size = A.size) : ∀ (i : Nat), i < A.size → listed.getD i true = false → ∃ j, j ∈ Region.ready md A listed := by
  intro i
  induction i using Nat.strongRecOn with
  | _ i ih =>
    intro hi hun
    by_cases hr : i ∈ Region.ready md A listed
    · exact ⟨i, hr⟩
    · have ho : A[i]? = some A[i] := Array.getElem?_eq_getElem hi
      have h1 := List.all_eq_true.1 hb i (List.mem_range.2 hi)
      rw [ho] at h1
      simp only at h1
      have : ∃ e ∈ A[i].after, listed.getD e.on false ≠ true := by
        apply Classical.byContradiction
        intro hno
        apply hr
        rw [mem_ready]
        refine ⟨hun, _, ho, fun e he _ => ?_⟩
        apply Classical.byContradiction
        exact fun hne => hno ⟨e, he, hne⟩
      obtain ⟨e, he, hne⟩ := this
      have hlt : e.on < i := by
        obtain ⟨k, hk, rfl⟩ := Array.getElem_of_mem he
        have := Array.all_eq_true.1 h1 k hk
        simpa using this
      refine ih e.on hlt (by omega) ?_
      exact getD_in (by omega) (by simpa using hne)

/-- What is shown of the hushed region serves the region itself, the last operation coming last. -/
theorem wpAny_of_hush {A B : Array Oper} {n : Nat} {o : Oper} {Q' : Exit → Act → World → Prop} (hn : n + 1 = A.size) (hsz : B.size = A.size) (hrd : ∀ listed, Region.ready md B listed = Region.ready md A listed)
    (hhead : ∀ j, j < n → B[j]? = A[j]?) (hlast : A[n]? = some o) (hquiet : B[n]? = some (hush o)) (hdst : o.dst = none) (hguard : o.guard = none) (hy : ∀ tmps, yielded B tmps = yielded A tmps)
    (hs : Region.sinkB md A n = true) (hc : Region.chainB md A n = true) (hback : backB A = true) :
    ∀ (fuel : Nat) (listed : Array Bool) (a : Act) (w : World), HeadInv md A n listed → (∃ j, j ∈ Region.ready md A listed) → C w →
      wpAnyQ P md B C (fun a' => ∀ w', C w' → OutLast P o Q' a' w') fuel listed a → wpAny P md A Q' fuel listed a w
  | 0, listed, a, w, _, hj, _, h => by
    obtain ⟨j, hj⟩ := hj
    have h0 : Region.ready md B listed = [] := h.1
    rw [hrd] at h0
    rw [h0] at hj
    cases hj
  | fuel + 1, listed, a, w, inv, hj, hw, h => by
    obtain ⟨j, hj⟩ := hj
    refine ⟨fun h0 => (by rw [h0] at hj; cases hj), fun i hi => ?_⟩
    have h2 := h.2 i (by rw [hrd]; exact hi)
    have hiA : i < A.size := by
      obtain ⟨_, oi, hoi, _⟩ := mem_ready.1 hi
      exact (Array.getElem?_eq_some_iff.1 hoi).1
    by_cases hin : i < n
    · -- an operation ahead of the last: the same in both
      have inv' := inv.set hi hin
      have hB : B[i]? = A[i]? := hhead i hin
      have hq : qOp P A C i (wpAnyQ P md B C (fun a' => ∀ w', C w' → OutLast P o Q' a' w') fuel (listed.setIfInBounds i true)) a := by
        unfold qOp at h2 ⊢
        rw [hB] at h2
        cases hA : A[i]? with
        | none => rw [hA] at h2; exact h2
        | some oi =>
          rw [hA] at h2
          simp only at h2 ⊢
          rw [hy] at h2
          exact h2
      refine wpOp_of_qOp hw (fun a' w' hw' h3 => ?_) hq
      -- the last is not yet carried out: something may come up
      have hlt : listed.getD n true = false := inv.tail n (Nat.le_refl _) (by omega)
      have hun : (listed.setIfInBounds i true).getD n true = false := by rw [getD_set_ne true (by omega)]; exact hlt
      have hsome := some_ready (md := md) hback inv'.size n (by omega) hun
      exact wpAny_of_hush hn hsz hrd hhead hlast hquiet hdst hguard hy hs hc hback fuel _ a' w' inv' hsome hw' h3
    · obtain rfl : i = n := by omega
      -- the last: all others are carried out
      have hall : ∀ k, k < i → listed.getD k true = true := fun k hk => by
        cases hl : listed.getD k true with
        | true => rfl
        | false => exact absurd hi (tail_waits hs hc (by omega) inv _ k rfl hk hl i (Nat.le_refl _))
      have hend : Region.ready md A (listed.setIfInBounds i true) = [] := by
        cases hr : Region.ready md A (listed.setIfInBounds i true) with
        | nil => rfl
        | cons x xs =>
          have hx : x ∈ Region.ready md A (listed.setIfInBounds i true) := by rw [hr]; simp
          obtain ⟨hu, ox, hox, _⟩ := mem_ready.1 hx
          have hxA := (Array.getElem?_eq_some_iff.1 hox).1
          have hxs : x < listed.size := by rw [inv.size]; exact hxA
          by_cases e : i = x
          · subst e
            simp [hxs] at hu
          · rw [getD_set_ne true e] at hu
            rw [hall x (by omega)] at hu
            cases hu
      have hq : wpAnyQ P md B C (fun a' => ∀ w', C w' → OutLast P o Q' a' w') fuel (listed.setIfInBounds i true) a := by
        unfold qOp at h2
        rw [hquiet] at h2
        simp only at h2
        have hp : ∀ v, a.put (hush o).dst v = a := fun v => by show a.put o.dst v = a; rw [hdst]; rfl
        split at h2
        · obtain ⟨v, _, h3⟩ := h2
          rw [hp] at h3
          exact h3
        · rw [hp] at h2
          exact h2
      have hR : ∀ w', C w' → OutLast P o Q' a w' := by
        cases fuel with
        | zero => exact hq.2
        | succ f => exact hq.1 (by rw [hrd]; exact hend)
      unfold wpOp
      rw [hlast]
      simp only
      have hwd : Region.wanted o (yielded A a.tmps) = true := by simp [Region.wanted, hguard]
      rw [if_pos hwd]
      rcases hR w hw with h3 | h3
      · refine .inl (Oper.wp_mono (fun a' w' hq' => ?_) h3)
        cases fuel with
        | zero => exact ⟨hend, hq'⟩
        | succ f => exact ⟨fun _ => hq', fun k hk => by rw [hend] at hk; cases hk⟩
      · exact .inr h3

theorem wp_region_last {id : Nat} {Q : Exit → Act → World → Prop} {a : Act} {w : World} {l : List Oper} (n : Nat) (o : Oper) (hl : l.drop n = [o]) (hdst : o.dst = none) (hguard : o.guard = none)
    (hm : P.follows .mixedOrders = true) (hB : Region.lexB .any (l.take n ++ [hush o]).toArray = true) (hs : Region.sinkB .any l.toArray n = true) (hc : Region.chainB .any l.toArray n = true) (hback : backB l.toArray = true)
    (hC : C { w with drawn := w.drawn + 1 }) (h : Boxed (wpQuiet P l.toArray C (fun a' => ∀ w', C w' → wpList P l.toArray Q [o] a' w') (l.take n) a)) : (Code.region id l.toArray true).wp P Q a w := by
  replace h := h.out
  have hn : n < l.length := by
    apply Classical.byContradiction
    intro hno
    rw [List.drop_of_length_le (by omega)] at hl
    cases hl
  have hlen : n + 1 = l.length := by
    have := congrArg List.length hl
    simp at this
    omega
  have htake : (l.take n).length = n := by simp; omega
  have hsplit : l = l.take n ++ [o] := by rw [← hl, List.take_append_drop]
  have gA : ∀ j : Nat, l.toArray[j]? = if j < n then (l.take n)[j]? else if j = n then some o else none := fun j => by
    rw [List.getElem?_toArray]
    conv => lhs; rw [hsplit]
    rw [List.getElem?_append]
    simp only [htake]
    split
    · rfl
    · split
      · rename_i h1 h2; subst h2; simp
      · rename_i h1 h2; rw [List.getElem?_eq_none (by simp; omega)]
  have gB : ∀ j : Nat, (l.take n ++ [hush o]).toArray[j]? = if j < n then (l.take n)[j]? else if j = n then some (hush o) else none := fun j => by
    rw [List.getElem?_toArray, List.getElem?_append]
    simp only [htake]
    split
    · rfl
    · split
      · rename_i h1 h2; subst h2; simp
      · rename_i h1 h2; rw [List.getElem?_eq_none (by simp; omega)]
  have hsz : (l.take n ++ [hush o]).toArray.size = l.toArray.size := by simp; omega
  have haft : ∀ j : Nat, ((l.take n ++ [hush o]).toArray[j]?).map Oper.after = (l.toArray[j]?).map Oper.after := fun j => by
    rw [gA, gB]; split
    · rfl
    · split <;> rfl
  have hdd : ∀ j : Nat, ((l.take n ++ [hush o]).toArray[j]?).bind Oper.dst = (l.toArray[j]?).bind Oper.dst := fun j => by
    rw [gA, gB]; split
    · rfl
    · split <;> rfl
  have hy := yielded_hush hdd
  have hwd : ∀ t, Region.wanted o t = true := fun t => by simp [Region.wanted, hguard]
  have h1 : wpQuiet P (l.take n ++ [hush o]).toArray C (fun a' => ∀ w', C w' → OutLast P o Q a' w') (l.take n ++ [hush o]) a := by
    refine wpQuiet_snoc (R := fun a' => ∀ w', C w' → OutLast P o Q a' w') (fun a' hR => ?_) _ _ (wpQuiet_ops (fun t => (hy t).symm) _ _ ?_)
    · unfold wpQuiet
      have hw' : Region.wanted (hush o) (yielded (l.take n ++ [hush o]).toArray a'.tmps) = true := by simp [Region.wanted, hush, hguard]
      rw [if_pos hw']
      refine ⟨.bool false, fun w' _ => ?_, ?_⟩
      · unfold Oper.quietAt
        show Oper.quietUpon P C w' (.bool false) ((execOp a'.eval (hush o)).run P w')
        simp [hush, execOp, Oper.quietUpon, Act.eval]
      · unfold wpQuiet
        have : a'.put (hush o).dst (.bool false) = a' := by show a'.put o.dst _ = a'; rw [hdst]; rfl
        rw [this]
        exact hR
    · refine wpQuiet_mono (fun a' h2 w' hw' => ?_) _ _ h
      have h3 := h2 w' hw'
      unfold wpList at h3
      rw [if_pos (hwd _)] at h3
      exact h3
  refine wp_region_any hm ?_
  have hlex := hB
  simp only [Region.lexB, Bool.and_eq_true] at hlex
  have h2 := wpAnyQ_lex (C := C) (md := .any) hlex.1 (l.take n ++ [hush o]) 0 (Array.replicate l.toArray.size false) a (by simp) (by rw [← hsz]; simpa using hlex.2) h1
  have h3 : (l.take n ++ [hush o]).length = l.toArray.size := by simp; omega
  rw [h3] at h2
  have inv0 : HeadInv .any l.toArray n (Array.replicate l.toArray.size false) :=
    ⟨by simp, fun j oj _ hl => (by rw [getD_replicate_false] at hl; cases hl), fun t _ ht => getD_in (by simpa using ht) (getD_replicate_false _ _)⟩
  have hrd := fun listed => ready_hush (md := .any) hsz haft listed
  refine wpAny_of_hush (n := n) (o := o) (by simpa using hlen) hsz hrd (fun j hj => by rw [gA, gB, if_pos hj, if_pos hj]) (by rw [gA, if_neg (by omega), if_pos rfl]) (by rw [gB, if_neg (by omega), if_pos rfl]) hdst hguard hy hs hc hback _ _ _ _ inv0 ?_ hC h2
  exact some_ready hback (by simp) n (by simpa using hn) (getD_in (by simpa using hn) (getD_replicate_false _ _))

end
end Go.Proofs.YtbnggcgojbkoaaaDoor
