/-
  A sum as it comes in: a struct of four structs.
-/
import Derived.Test.YtnpogmhfdjmfdaaZExA
import Derived.Test.YtnpogmhfdjmfdaaXa
import Derived.Test.YtnpogmhfdjmfdaaTf
import Derived.Test.YtnpogmhfdjmfdaaKg
set_option linter.unusedVariables false
namespace Go.Proofs.Ytnpogmhfdjmfdaa
open Go.RowKit Go.ChangeShapes Go.WideShapes Go.ChangeAt Go.Deep Go.Joins

theorem open_intsC {H : Type} {enc : TypeId × Value → H} {w : World} {n : Nat} {v0 : Value} {y : DataW H × List MemPlace} (hf : DataW.trod enc Try.prog w 0 (fun _ => true) true n 22 [v0] = some y) : ∃ zs, ArgI w v0 zs := by
  rcases open_ints Try.underlying22 Try.underlying3 (by kernel_rfl) hf with ⟨hcs, _⟩ | ⟨x, l, c, zs, hcs, _, hl, hm, hz, _, hcell, hwz⟩
  · simp at hcs
    exact ⟨[], .inl ⟨rfl, _, _, hcs⟩⟩
  · simp at hcs
    subst hcs
    exact ⟨zs.take l, argI_of hl hm (by simpa using hz) (fun h => by cases h) (fun x' e => by cases e; exact hcell)⟩
set_option maxRecDepth 100000 in
theorem open_rowsC {H : Type} {enc : TypeId × Value → H} {w : World} {n : Nat} {v0 : Value} {y : DataW H × List MemPlace} (hf : DataW.trod enc Try.prog w 0 (fun _ => true) true n 43 [v0] = some y) : ∃ rs, ArgR w v0 rs := by
  rcases open_int_rows Try.underlying43 Try.underlying22 Try.underlying3 (by kernel_rfl) (by kernel_rfl) hf with ⟨hcs, _⟩ | ⟨a, len, cap, A, L, C, Z, hcs, _, hl, hm, _, hx⟩
  · simp at hcs
    exact ⟨[], .inl ⟨rfl, _, _, hcs⟩⟩
  · simp at hcs
    subst hcs
    by_cases h0 : len = 0
    · subst h0
      exact ⟨[], .inl ⟨rfl, _, _, rfl⟩⟩
    obtain ⟨b, o, sp⟩ := a
    have h1 := (hx 0 (by omega)).1
    have hs : sp = none := by simpa [Addr.add] using World.cell?_spot h1
    subst hs
    have e : ((List.range len).map fun r => (Z r).take (L r)).length = len := by simp
    refine ⟨(List.range len).map fun r => (Z r).take (L r), .inr ⟨b, o, cap, by rw [e], by omega, by omega, by simpa [Addr.add] using World.block_lt_of_cell? _ _ h1, fun i hi => ?_⟩⟩
    rw [e] at hi
    obtain ⟨e1, r1, r2, r3, r4, r5, r6⟩ := hx i (by omega)
    rw [addr_add] at e1
    have eg : ((List.range len).map fun r => (Z r).take (L r)).getD i [] = (Z i).take (L i) := by simp [hi]
    rw [eg]
    exact ⟨_, e1, argI_of r1 r2 r3 r5 (fun x ex j hj => (r6 x ex).2 j (by omega))⟩
theorem trod_struct1 {H : Type} {enc : TypeId × Value → H} {P : Program} {w : World} {base : Nat} {spare : Nat → Bool} {held : Bool} {t : TypeId} {f0 : Field} {fuel : Nat} {cs : List Value} {x : DataW H × List MemPlace} (ht : P.underlying t = some (.struct #[f0])) (h : DataW.trod enc P w base spare held fuel t cs = some x) :
    ∃ y0 n, DataW.trod enc P w base spare held n f0.type ((cs.drop f0.offset).take (P.cellsOf f0.type)) = some y0 := by
  obtain ⟨xs, n, _, _, _, hlen, hf⟩ := DataW.trod_struct ht h
  match xs, hlen with
  | [y0], _ => exact ⟨y0, n, by simpa using hf 0 f0 rfl⟩

set_option maxRecDepth 100000 in
/-- A slice of numbers that comes in as it is. -/
theorem open_intsV {H : Type} {enc : TypeId × Value → H} {w : World} {r : Reach} {b0 : Nat} {v : Value} {d : DataW H} {p : List MemPlace} (hv : Value.okWide Try.prog w r b0 22 v)
    (h : DataW.Trod enc Try.prog w 0 (fun _ => true) true 22 v d p) : ∃ zs, ArgI w v zs := by
  obtain ⟨a0, l0, c0, rfl⟩ := okWide_slice Try.underlying22 hv
  obtain ⟨fuel, hf⟩ := h
  exact open_intsC (by simpa [Value.cells] using hf)

end Go.Proofs.Ytnpogmhfdjmfdaa
