/-
  Several texts in one: KArr, KOf, KQue, KSqueezed, KConc.
-/
import Derived.Test.YtnpogmhfdjmfdaaKa
import Derived.Deep.WholeRow
import Derived.Deep.MidRow
import Derived.Laws.ResultCell
import Derived.Deep.Cut
import Derived.ArgAppend
import Derived.Test.YtnpogmhfdjmfdaaKb
import Derived.Test.YtnpogmhfdjmfdaaKc
import Derived.Lib.AppendZerosOnto
import Derived.Lib.SliceRun
import Derived.Lib.Walk
import Derived.Laws.AppendOwnNone
set_option linter.unusedVariables false
/-
  An array of numbers in a block of its own: by place, and whole.
-/
namespace Go.Proofs.Ytnpogmhfdjmfdaa.K
open Go.RowKit Go.Sort

def arrC (N : List Int) : Array Value := (ints N).toArray
theorem arrC_size (N : List Int) : (arrC N).size = N.length := by simp [arrC, ints]
section
variable {W W' : World} {b : Nat} {N : List Int}
end
theorem arrC_one (N : List Int) : (arrC N).all (·.oneCell') = true := by
  unfold arrC
  exact all_oneCell_toArray (fun v hv => by
    unfold ints at hv
    obtain ⟨z, _, rfl⟩ := List.mem_map.1 hv
    rfl)

section
variable {ops : Array Oper} {rest : List Oper} {o : Oper} {a : Act} {w : World} {Q : Exit → Act → World → Prop}
end
theorem grownBy_setRow (W : World) (b : Nat) (c : Array Value) : W.grownBy (W.setRow b c) (some b) := ⟨rfl, rfl, rfl, by simp, fun k _ hk => setRow_other W b k c (fun e => hk (by rw [e]))⟩

end Go.Proofs.Ytnpogmhfdjmfdaa.K

/-
  The knots that have something: the program's knotsOf.
-/
namespace Go.Proofs.Ytnpogmhfdjmfdaa.K
open Go.RowKit Go.Sort

end Go.Proofs.Ytnpogmhfdjmfdaa.K

/-
  A queue of numbers: a slice of numbers in a block of the call's own, wherever in it it begins; what is left of it behind a cut, and what an append makes of it.
-/
namespace Go.Proofs.Ytnpogmhfdjmfdaa.K
open Go.RowKit Go.Sort

/-- The slice at x, of capacity c, holds the numbers zs, in a block from B on; all its places may be written. -/
def Que (w : World) (B : Nat) (x : Option Addr) (c : Nat) (zs : List Int) : Prop :=
  ∃ g o, x = some ⟨g, o, none⟩ ∧ B ≤ g ∧ g < w.heap.size ∧ zs.length ≤ c ∧ c ≤ maxLen ∧
    (∀ i, i < zs.length → w.cell? ⟨g, o + i, none⟩ = some (.int .i64 (zs.getD i 0))) ∧
    ∀ i, i < c → (w.cell? ⟨g, o + i, none⟩).isSome = true ∧ w.frozen? ⟨g, o + i, none⟩ = false
section
variable {w w' : World} {B c : Nat} {x : Option Addr} {zs : List Int}
theorem Que.of_own {n : Nat} (h : w.ownsRow B 3 1 (.slice x n c) n (ints zs)) (hn : n = zs.length) (h0 : 0 < n) : Que w B x c zs := by
  rcases h.2 with ⟨_, h00⟩ | ⟨g, cap, cur, e, hb, hg, hnc, hcm, hcs, ht⟩
  · omega
  · obtain ⟨rfl, _, rfl⟩ := Value.slice.inj e
    refine ⟨g, 0, rfl, hb, (Array.getElem?_eq_some_iff.1 hg).1, by omega, hcm, fun i hi => ?_, fun i hi => ⟨?_, by simp [World.frozen?, hg]⟩⟩
    · rw [Nat.zero_add]
      exact (World.ownsRow.cellAt h i (by omega)).trans (ints_get _ _ hi)
    · rw [cell_of_row w g (0 + i) cur _ _ hg, Array.getElem?_eq_getElem (by omega)]
      rfl
theorem Que.keep (h : Que w B x c zs) (hb : ∀ g, B ≤ g → g < w.heap.size → w'.heap[g]? = w.heap[g]?) (hs : w.heap.size ≤ w'.heap.size) : Que w' B x c zs := by
  obtain ⟨g, o, rfl, h1, h2, h3, h4, h5, h6⟩ := h
  have e := hb g h1 h2
  refine ⟨g, o, rfl, h1, Nat.lt_of_lt_of_le h2 hs, h3, h4, fun i hi => ?_, fun i hi => ?_⟩
  · rw [World.cell?_of_block (a := ⟨g, o + i, none⟩) e]; exact h5 i hi
  · rw [World.cell?_of_block (a := ⟨g, o + i, none⟩) e, World.frozen?_of_block (a := ⟨g, o + i, none⟩) e]; exact h6 i hi
theorem Que.alloc (h : Que w B x c zs) (o : Obj) : Que (w.alloc o) B x c zs := h.keep (fun g _ hg => heap_alloc_old w o hg) (by simp)
theorem Que.drewN (h : Que w B x c zs) (n : Nat) : Que (w.drewN n) B x c zs := h
theorem Que.drew (h : Que w B x c zs) : Que w.drew B x c zs := h
theorem Que.below (h : Que w B x c zs) (hb : Below w.heap.size w w') : Que w' B x c zs := h.keep (fun g _ hg => hb.block g hg) hb.size
/-- A store elsewhere: into a block ahead of B. -/
theorem Que.set (h : Que w B x c zs) (b i : Nat) (v : Value) (hb : b < B) : Que (w.setCell ⟨b, i, none⟩ v) B x c zs := h.keep (fun g hg _ => heap_setCell_other w ⟨b, i, none⟩ g v (by show g ≠ b; omega)) (by simp)
theorem Que.at (h : Que w B x c zs) : ∃ g o, x = some ⟨g, o, none⟩ ∧ B ≤ g ∧ g < w.heap.size ∧ zs.length ≤ c ∧ c ≤ maxLen ∧ ∀ i, i < zs.length → w.cell? ⟨g, o + i, none⟩ = some (.int .i64 (zs.getD i 0)) := by
  obtain ⟨g, o, rfl, h1, h2, h3, h4, h5, h6⟩ := h
  exact ⟨g, o, rfl, h1, h2, h3, h4, h5⟩
/-- Behind its first two. -/
theorem Que.drop2 {g o : Nat} {a b : Int} (h : Que w B (some ⟨g, o, none⟩) c (a :: b :: zs)) : Que w B (some (if c = 2 then ⟨g, o, none⟩ else ⟨g, o + 2, none⟩)) (c - 2) zs := by
  obtain ⟨g', o', e, h1, h2, h3, h4, h5, h6⟩ := h
  cases e
  simp only [List.length_cons] at h3 h5
  by_cases hc : c = 2
  · rw [if_pos hc]
    have hz : zs.length = 0 := by omega
    exact ⟨g, o, rfl, h1, h2, by omega, by omega, fun i hi => by omega, fun i hi => by omega⟩
  · rw [if_neg hc]
    refine ⟨g, o + 2, rfl, h1, h2, by omega, by omega, fun i hi => ?_, fun i hi => ?_⟩
    · have := h5 (i + 2) (by omega)
      rw [show o + 2 + i = o + (i + 2) by omega]
      simpa using this
    · rw [show o + 2 + i = o + (i + 2) by omega]
      exact h6 (i + 2) (by omega)
end
section
variable {ops : Array Oper} {rest : List Oper} {o : Oper} {a : Act} {w : World} {Q : Exit → Act → World → Prop}
/-- One number more. -/
theorem wpList_append_que (hgd : o.guard = none) (s x : Operand) (ho : o.op = .call { callee := .builtin .append, args := #[s, x], argTypes := #[ 22, 22 ] })
    (B n c : Nat) (y : Option Addr) (zs : List Int) (hs : a.eval s = .slice y n c) (hq : Que w B y c zs) (hn : n = zs.length) (z : Int) (ad : Addr) (hx : a.eval x = .slice (some ad) 1 1) (hc : ∀ j u, [Value.int .i64 z][j]? = some u → w.cell? (ad.add j) = some u)
    (hB : B ≤ w.heap.size) (hsm : n ≤ 1000)
    (h : ∀ y' c' w' row, Que w' B y' c' (zs ++ [z]) → w.grownBy w' row → (∀ k, row = some k → B ≤ k) → wpList Try.prog ops Q rest (a.put o.dst (.slice y' (n + 1) c')) w') :
    wpList Try.prog ops Q (o :: rest) a w := by
  obtain ⟨i0, hi, hz0, hz1, hz2⟩ := info_parts int_info
  have hq' := hq
  obtain ⟨g, off, rfl, h1, h2, h3, h4, h5, h6⟩ := hq
  have getl : ∀ i, i < zs.length + 1 → (zs ++ [z]).getD i 0 = if i < zs.length then zs.getD i 0 else z := fun i hi => by
    by_cases e : i < zs.length
    · rw [if_pos e]; simp [List.getD_eq_getElem?_getD, List.getElem?_append_left e]
    · rw [if_neg e]
      obtain rfl : i = zs.length := by omega
      simp
  refine wpList_append_arg w hgd s x 22 ho 3 i0 (.int .i64 0) 1 8 Try.underlying22 hi hz0 hz1 hz2 rfl (by decide) g off n c (ints zs) hs (by rw [ints_len, hn]; omega) (fun j u hj => ?_) ad 1 1 [.int .i64 z] hx rfl hc (by simp [Value.oneCell']) (fun hr j hj => ?_) (by unfold maxLen; omega) (by omega) (fun hr => ?_) (fun hg v' w' ho' hgr => ?_)
  · have hj' : j < zs.length := by have := (List.getElem?_eq_some_iff.1 hj).1; rwa [ints_len] at this
    rw [h5 j hj', ← ints_get zs j hj', hj]
  · obtain rfl : j = 0 := by simpa using hj
    exact h6 (n * 1) (by omega)
  · have e1 : off + n * 1 = off + n := by omega
    have hcell := h6 n (by omega)
    have eq : w.setCells g (off + n * 1) [.int .i64 z] = w.setCell ⟨g, off + n, none⟩ (.int .i64 z) := by rw [e1]; rfl
    rw [eq]
    refine h _ _ _ (some g) ⟨g, off, rfl, h1, by simpa using h2, by simp; omega, h4, fun i hi => ?_, fun i hi => ?_⟩ (grownBy_setCell w ⟨g, off + n, none⟩ _) (fun k e => by cases e; exact h1)
    · simp only [List.length_append, List.length_cons, List.length_nil] at hi
      rw [getl i (by omega)]
      by_cases e : i < zs.length
      · rw [if_pos e, World.cell?_setCell_other _ _ _ _ (fun q => by have := congrArg Addr.off q; simp at this; omega)]; exact h5 i e
      · rw [if_neg e, show i = n by omega]
        exact World.cell?_setCell_same' _ _ _ hcell.1
    · rw [World.frozen?_setCell]
      refine ⟨?_, (h6 i hi).2⟩
      by_cases e : i = n
      · subst e; rw [World.cell?_setCell_same' _ _ _ hcell.1]; rfl
      · rw [World.cell?_setCell_other _ _ _ _ (fun q => by have := congrArg Addr.off q; simp at this; omega)]; exact (h6 i hi).1
  · have f := ho'
    rw [show ints zs ++ [Value.int .i64 z] = ints (zs ++ [z]) by simp [ints]] at f
    rcases f.2 with ⟨_, h00⟩ | ⟨g', cap, cur, rfl, hb, hg', _⟩
    · omega
    · have q := Que.of_own (ownsRow_base f hB) (by simp [hn]) (Nat.succ_pos _)
      exact h _ _ _ none q hgr (fun k e => by cases e)
end
theorem below_keep {w0 w w' : World} {B C : Nat} {row : Option Nat} (h : Below C w0 w) (hg : w.grownBy w' row) (hr : ∀ k, row = some k → B ≤ k) (hC : C ≤ B) (hw : C ≤ w.heap.size) : Below C w0 w' :=
  h.trans ⟨hg.os, hg.tape, hg.output, hg.size, fun k hk => hg.block k (by omega) (fun e => by have := hr k e.symm; omega)⟩

/-- n numbers, from p on down. -/
def down (p : Int) : Nat → List Int
  | 0 => []
  | n + 1 => p :: down (p - 1) n
theorem down_len (p : Int) (n : Nat) : (down p n).length = n := by
  induction n generalizing p with
  | zero => rfl
  | succ n ih => simp [down, ih]
theorem down_snoc (p : Int) (n : Nat) : down p n ++ [p - n] = down p (n + 1) := by
  induction n generalizing p with
  | zero => simp [down]
  | succ n ih =>
    have := ih (p - 1)
    rw [show p - 1 - (n : Int) = p - ((n + 1 : Nat) : Int) by omega] at this
    rw [down, List.cons_append, this]
    rfl

end Go.Proofs.Ytnpogmhfdjmfdaa.K

/-
  What is little is counted above: the program's squeezed.
-/
namespace Go.Proofs.Ytnpogmhfdjmfdaa.K
open Go.RowKit Go.Sort

def lenQ : Value → Nat
  | .slice _ n _ => n
  | _ => 0
theorem down_two (p : Int) (n : Nat) : down p (n + 2) = p :: (p - 1) :: down (p - 1 - 1) n := rfl

theorem quiet_sameN {P : Program} {f : FuncId} {args : Array Value} {w : World} {m n : Nat} {v : Value}
    (h : ∀ W, Calls P f args W fun e w' => e = .returned v ∧ W = w') : Calls P f args (w.drewN (m + n)) fun e w'' => e = .returned v ∧ ∃ k, w'' = w.drewN (m + k) :=
  (h _).mono fun _ _ ⟨he, hm⟩ => ⟨he, n, hm.symm⟩

end Go.Proofs.Ytnpogmhfdjmfdaa.K

/-
  The knots of both, one behind the other: slices.Grow of nothing, slices.Concat of two.
-/
namespace Go.Proofs.Ytnpogmhfdjmfdaa.K
open Go.RowKit Go.Sort

theorem row_form {w : World} {B : Nat} {e : TypeId} {size n : Nat} {v : Value} {xs : List Value} (h : w.ownsRow B e size v n xs) : ∃ x c, v = .slice x n c := by
  rcases h.2 with ⟨rfl, h0⟩ | ⟨g, cap, cur, rfl, _⟩
  · exact ⟨none, 0, by rw [h0]⟩
  · exact ⟨_, _, rfl⟩
theorem prs_one (ps : List Pr) : ∀ u ∈ prs ps, u.oneCell' = true := by
  induction ps with
  | nil => intro u hu; cases hu
  | cons p ps ih =>
    intro u hu
    rw [prs_cons] at hu
    simp only [List.mem_cons] at hu
    rcases hu with rfl | rfl | hu
    · rfl
    · rfl
    · exact ih u hu
theorem Prs.news {w : World} {b o n c : Nat} {ps : List Pr} (h : Prs w (.slice (some ⟨b, o, none⟩) n c) ps) : ∀ j u, (prs ps)[j]? = some u → w.cell? ((⟨b, o, none⟩ : Addr).add j) = some u := fun j u hu => by
  have hj : j < (prs ps).length := (List.getElem?_eq_some_iff.1 hu).1
  rw [prs_len] at hj
  obtain ⟨b', o', e, _, h1, h2⟩ := h.cells (j / 2) (by omega)
  cases e
  have hg := prs_get ps (j / 2) (by omega)
  rw [addr_plus]
  rcases (by omega : j % 2 = 0 ∨ j % 2 = 1) with h0 | h0
  · have e : j = j / 2 * 2 := by omega
    rw [e] at hu ⊢
    rw [hg.1] at hu
    rw [h1, ← hu]
  · have e : j = j / 2 * 2 + 1 := by omega
    rw [e] at hu ⊢
    rw [hg.2] at hu
    rw [← Nat.add_assoc, h2, ← hu]

end Go.Proofs.Ytnpogmhfdjmfdaa.K
