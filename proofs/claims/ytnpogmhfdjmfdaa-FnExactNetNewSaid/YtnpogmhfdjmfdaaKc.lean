/-
  Several texts in one: KIm, KIm2, KIm3, KAt.
-/
import Derived.Test.YtnpogmhfdjmfdaaKa
import Derived.BigQuiet
import Derived.Test.YtnpogmhfdjmfdaaKb
set_option linter.unusedVariables false
/-
  Knots in the program: isCount, knotMost, RankSpan, RankOk.
-/
namespace Go.Proofs.Ytnpogmhfdjmfdaa.K
open Go.RowKit Go.Sort

/-- How much a knot has at most. -/
def mostK (a all : Int) : Int := if a < 64 then all / 8 else all
def lastV (ps : List Pr) (k : Nat) : Int := if k = 0 then 0 else (pr ps (k - 1)).1
theorem RankP.le_all {ps : List Pr} {all : Int} (h : RankP ps all) (k : Nat) (hk : k < ps.length) : (pr ps k).2 ≤ all := by
  have g : ∀ (m : Nat), m ≤ ps.length → k < m → (pr ps k).2 ≤ sumP (ps.take m) ∧ 0 ≤ sumP (ps.take m) := by
    intro m
    induction m with
    | zero => intro _ h; omega
    | succ m ih =>
      intro hm hkm
      have b := sumK_bd (k := m) (by omega) (fun i hi => h.2.1 i (by omega))
      have g := (h.2.1 m (by omega)).1.2
      rw [sumP_succ ps m (by omega)]
      by_cases e : k = m
      · subst e; omega
      · have := ih (by omega) (by omega); omega
  have := (g ps.length (Nat.le_refl _) hk).1
  rw [List.take_of_length_le (Nat.le_refl _), h.2.2] at this
  exact this

end Go.Proofs.Ytnpogmhfdjmfdaa.K

/-
  Knots in the program: RankSpan.
-/
namespace Go.Proofs.Ytnpogmhfdjmfdaa.K
open Go.RowKit Go.Sort

theorem or_one : ∀ n : Nat, n < 200 → bits BinOp.or IntKind.i64 ((n : Int) * 2) 1 = 2 * (n : Int) + 1 := by decide +kernel
theorem or_one' (y : Int) (h0 : 0 ≤ y) (h1 : y < 200) : bits BinOp.or IntKind.i64 (y * 2) 1 = 2 * y + 1 := by
  obtain ⟨n, rfl⟩ : ∃ n : Nat, y = (n : Int) := ⟨y.toNat, by omega⟩
  exact or_one n (by omega)
end Go.Proofs.Ytnpogmhfdjmfdaa.K

/-
  How many are up to a thing, in the program: RankBelow.
-/
namespace Go.Proofs.Ytnpogmhfdjmfdaa.K
open Go.RowKit Go.Sort

end Go.Proofs.Ytnpogmhfdjmfdaa.K

/-
  The least thing up to which there are as many: RankAt of the program and of its model.
-/
namespace Go.Proofs.Ytnpogmhfdjmfdaa.K
open Go.RowKit Go.Sort

/-- x is the least thing up to which at least n are counted at least; or there is none. -/
def AtR (ps : List Pr) (all n x : Int) (ok : Bool) : Prop :=
  (ok = true ∧ rankB ps all = true ∧ 1 ≤ n ∧ (0 ≤ x ∧ x ≤ 63) ∧ n ≤ leastP ps x ∧ ∀ y : Int, 0 ≤ y → y < x → leastP ps y < n) ∨
  (ok = false ∧ x = 0 ∧ (rankB ps all = false ∨ n < 1 ∨ all < n))
theorem AtR.least {ps : List Pr} {all n x : Int} (h : AtR ps all n x true) : (0 ≤ x ∧ x ≤ 63) ∧ rankB ps all = true ∧ n ≤ leastP ps x ∧ ∀ y : Int, 0 ≤ y → y < x → leastP ps y < n := by
  rcases h with ⟨_, a, _, b, c, d⟩ | ⟨h, _⟩
  · exact ⟨b, a, c, d⟩
  · cases h
theorem AtR.uniq {ps : List Pr} {all n x x' : Int} {ok ok' : Bool} (h : AtR ps all n x ok) (h' : AtR ps all n x' ok') : x = x' ∧ ok = ok' := by
  have top : rankB ps all = true → ∀ y : Int, 0 ≤ y → y ≤ 63 → leastP ps y ≤ all := fun hk y y0 y1 => by
    have P := (rankB_iff _ _).1 hk
    have := (below_mono (ps := ps) (fun p hp => by have := (P.num p hp).1; omega) y1).1
    rw [(below_all P).1] at this
    exact this
  rcases h with ⟨rfl, a, b, c, d, e⟩ | ⟨rfl, rfl, h⟩ <;> rcases h' with ⟨rfl, a', b', c', d', e'⟩ | ⟨rfl, rfl, h'⟩
  · refine ⟨?_, rfl⟩
    rcases Int.lt_trichotomy x x' with q | q | q
    · have := e' x c.1 q; omega
    · exact q
    · have := e x' c'.1 q; omega
  · exfalso
    have := top a x c.1 c.2
    rcases h' with h' | h' | h'
    · rw [a] at h'; cases h'
    · omega
    · omega
  · exfalso
    have := top a' x' c'.1 c'.2
    rcases h with h | h | h
    · rw [a'] at h; cases h
    · omega
    · omega
  · exact ⟨rfl, rfl⟩

end Go.Proofs.Ytnpogmhfdjmfdaa.K
