/-
  Several texts in one: Draw, Thing.
-/
import Derived.Test.YtnpogmhfdjmfdaaBa
import Derived.IntWalk
import Derived.OpenShut
set_option linter.unusedVariables false
/-
  The reader of codes: what it draws from a code, of whatever bytes, is in its bounds, and only the reader's own place moves.
-/
namespace Go.Proofs.Ytnpogmhfdjmfdaa
open Go.RowKit

/-- The value v is a slice of n bytes below block a. -/
def Bts (w : World) (a : Nat) (v : Value) (n : Nat) : Prop :=
  (n = 0 ∧ ∃ x cap, v = .slice x 0 cap) ∨
  ∃ b o cap, v = .slice (some ⟨b, o, none⟩) n cap ∧ n ≤ cap ∧ b < a ∧ ∀ i, i < n → ∃ z : Int, w.cell? ⟨b, o + i, none⟩ = some (.int .u8 z) ∧ 0 ≤ z ∧ z ≤ 255

theorem Bts.grown {w w' : World} {a n : Nat} {v : Value} {row : Option Nat} (h : Bts w a v n) (hg : w.grownBy w' row) (hr : ∀ k, row = some k → a ≤ k) : Bts w' a v n := by
  rcases h with h | ⟨b, o, cap, rfl, h1, h2, h3⟩
  · exact .inl h
  · refine .inr ⟨b, o, cap, rfl, h1, h2, fun i hi => ?_⟩
    obtain ⟨z, hz, hb⟩ := h3 i hi
    refine ⟨z, hg.cell hz (fun e => ?_), hb⟩
    have := hr _ e.symm
    simp at this
    omega

theorem ofInt_i64 (a : Nat) (ha : a < 1073741824) : (BitVec.ofInt 64 (a : Int)).toNat = a := by
  rw [BitVec.ofInt_natCast, BitVec.toNat_ofNat]; exact Nat.mod_eq_of_lt (by omega)
theorem bits_xor_nonneg (a b : Int) (ha : 0 ≤ a) (hb : 0 ≤ b) (ha' : a < 1073741824) (hb' : b < 1073741824) : 0 ≤ bits .xor .i64 a b ∧ bits .xor .i64 a b < 1073741824 := by
  obtain ⟨A, rfl⟩ := Int.eq_ofNat_of_zero_le ha
  obtain ⟨B, rfl⟩ := Int.eq_ofNat_of_zero_le hb
  have hx : A ^^^ B < 2 ^ 30 := Nat.xor_lt_two_pow (by omega) (by omega)
  have e : bits .xor .i64 (A : Int) (B : Int) = ((A ^^^ B : Nat) : Int) := by
    show IntKind.i64.wrap ((BitVec.ofInt 64 (A : Int) ^^^ BitVec.ofInt 64 (B : Int)).toNat : Int) = _
    rw [BitVec.toNat_xor, ofInt_i64 A (by omega), ofInt_i64 B (by omega)]
    exact IntWalk.i64_in _ (by omega)
  rw [e]
  omega

theorem mod_in (x n : Int) (hn : 1 ≤ n) : 0 ≤ x % n ∧ x % n < n := ⟨Int.emod_nonneg _ (by omega), Int.emod_lt_of_pos _ (by omega)⟩

theorem tmod_in (x n : Int) (hx : 0 ≤ x) (hn : 1 ≤ n) : 0 ≤ x.tmod n ∧ x.tmod n < n := by rw [Int.tmod_eq_emod_of_nonneg hx]; exact mod_in x n hn

end Go.Proofs.Ytnpogmhfdjmfdaa

/-
  Things, and places, that are drawn from a code.
-/
namespace Go.Proofs.Ytnpogmhfdjmfdaa
open Go.RowKit

theorem grownBy_alloc' {w w' : World} {row : Option Nat} (h : w.grownBy w' row) (o : Obj) : w.grownBy (w'.alloc o) row := grownBy_trans h (World.grownBy_alloc w' o row)

/-- A slice of bytes that came in, as the reader takes it. -/
theorem bts_of (w : World) (x : Option Addr) (len cap : Nat) (zs : List Int)
    (h : (x = none ∧ len = 0 ∧ cap = 0 ∧ zs = []) ∨ ∃ y, x = some y ∧ len ≤ cap ∧ cap ≤ maxLen ∧ zs.length = cap ∧ (∀ i, i < zs.length → w.cell? (y.add i) = some (.int .u8 (zs.getD i 0))) ∧ ∀ n ∈ zs, (Lit.int .u8 n).wf = true) :
    Bts w w.heap.size (.slice x len cap) len ∧ ((len : Int) > 1048576 ∨ ¬ (1048576 : Int) < len) := by
  refine ⟨?_, by omega⟩
  rcases h with ⟨rfl, rfl, rfl, rfl⟩ | ⟨⟨b, o, sp⟩, rfl, h1, h2, h3, h4, h5⟩
  · exact .inl ⟨rfl, _, _, rfl⟩
  · by_cases h0 : len = 0
    · subst h0
      exact .inl ⟨rfl, _, _, rfl⟩
    · have hc := h4 0 (by omega)
      have hs : sp = none := by simpa [Addr.add] using World.cell?_spot hc
      subst hs
      refine .inr ⟨b, o, cap, rfl, h1, ?_, fun i hi => ⟨zs.getD i 0, ?_, ?_⟩⟩
      · simpa [Addr.add] using World.block_lt_of_cell? _ _ hc
      · have e : (⟨b, o, none⟩ : Addr).add i = ⟨b, o + i, none⟩ := by unfold Addr.add; split <;> simp_all
        rw [← e]
        exact h4 i (by omega)
      · have := h5 (zs.getD i 0) (getD_mem _ _ _ (by omega))
        exact bounds_u8 this

/-- Of a world nothing has turned but the reader a, and what is new. -/
def Else (a : Nat) (w w' : World) : Prop := w.grownBy w' (some a)
theorem Else.refl (a : Nat) (w : World) : Else a w w := grownBy_refl w _
theorem Else.trans {a : Nat} {w w1 w2 : World} (h : Else a w w1) (k : Else a w1 w2) : Else a w w2 := grownBy_trans h k
theorem Else.below {a : Nat} {w w1 w2 : World} (h : Else a w w1) (k : Below w1.heap.size w1 w2) : Else a w w2 := grownBy_trans h (grownBy_below k)

theorem grownBy_of_drew {w w' : World} {row : Option Nat} (h : w.drew.grownBy w' row) : w.grownBy w' row := ⟨h.os, h.tape, h.output, h.size, h.block⟩
theorem free_later {w w' : World} {a : Addr} (hb : Below w.heap.size w w') (h : w.frozen? a = false) (hl : a.block < w.heap.size) : w'.frozen? a = false := by rw [hb.frozen hl]; exact h

theorem Else.set {a R i : Nat} {w w' : World} (h : Else a w w') (hR : w.heap.size ≤ R) (u : Value) : Else a w (w'.setCell ⟨R, i, none⟩ u) :=
  ⟨h.os, h.tape, h.output, by simpa using h.size, fun k hk hne => by rw [heap_setCell_other w' ⟨R, i, none⟩ k u (by simp; omega)]; exact h.block k hk hne⟩

theorem bts_below {w w' : World} {v : Value} {n : Nat} (h : Bts w w.heap.size v n) (hb : Below w.heap.size w w') : Bts w' w'.heap.size v n := by
  rcases h with h0 | ⟨b, o, cap, hv, h1, h2, h3⟩
  · exact .inl h0
  · exact .inr ⟨b, o, cap, hv, h1, Nat.lt_of_lt_of_le h2 hb.size, fun i hi => by
      obtain ⟨z, hz, q⟩ := h3 i hi
      exact ⟨z, by rw [hb.cell (p := ⟨b, o + i, none⟩) h2]; exact hz, q⟩⟩


end Go.Proofs.Ytnpogmhfdjmfdaa
