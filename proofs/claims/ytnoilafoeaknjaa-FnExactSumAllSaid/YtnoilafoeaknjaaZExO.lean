/-
  A sum as it comes in: a struct of four structs.
-/
import Derived.Test.YtnoilafoeaknjaaZExA
import Derived.Test.YtnoilafoeaknjaaXa
import Derived.Test.YtnoilafoeaknjaaTf
import Derived.Test.YtnoilafoeaknjaaKg
set_option linter.unusedVariables false
namespace Go.Proofs.Ytnoilafoeaknjaa
open Go.RowKit Go.ChangeShapes Go.WideShapes Go.ChangeAt Go.Deep Go.Joins

theorem open_intsC {H : Type} {enc : TypeId × Value → H} {w : World} {n : Nat} {v0 : Value} {y : DataW H × List MemPlace} (hf : DataW.trod enc Try.prog w 0 (fun _ => true) true n 26 [v0] = some y) : ∃ zs, ArgI w v0 zs := by
  rcases open_ints Try.underlying26 Try.underlying3 (by kernel_rfl) hf with ⟨hcs, _⟩ | ⟨x, l, c, zs, hcs, _, hl, hm, hz, _, hcell, hwz⟩
  · simp at hcs
    exact ⟨[], .inl ⟨rfl, _, _, hcs⟩⟩
  · simp at hcs
    subst hcs
    exact ⟨zs.take l, argI_of hl hm (by simpa using hz) (fun h => by cases h) (fun x' e => by cases e; exact hcell)⟩
set_option maxRecDepth 100000 in
theorem open_rowsC {H : Type} {enc : TypeId × Value → H} {w : World} {n : Nat} {v0 : Value} {y : DataW H × List MemPlace} (hf : DataW.trod enc Try.prog w 0 (fun _ => true) true n 23 [v0] = some y) : ∃ rs, ArgR w v0 rs := by
  rcases open_int_rows Try.underlying23 Try.underlying26 Try.underlying3 (by kernel_rfl) (by kernel_rfl) hf with ⟨hcs, _⟩ | ⟨a, len, cap, A, L, C, Z, hcs, _, hl, hm, _, hx⟩
  · simp at hcs
    exact ⟨[], .inl ⟨rfl, _, _, hcs⟩⟩
  · simp at hcs
    subst hcs
    by_cases h0 : len = 0
    · subst h0
      exact ⟨[], .inl ⟨rfl, _, _, rfl⟩⟩
    obtain ⟨b, o, sp⟩ := a
    have h1 := (hx 0 (by omega)).1
    have hs : sp = none := by simpa [Addr.add] using World.cell?_spot h1
    subst hs
    have e : ((List.range len).map fun r => (Z r).take (L r)).length = len := by simp
    refine ⟨(List.range len).map fun r => (Z r).take (L r), .inr ⟨b, o, cap, by rw [e], by omega, by omega, by simpa [Addr.add] using World.block_lt_of_cell? _ _ h1, fun i hi => ?_⟩⟩
    rw [e] at hi
    obtain ⟨e1, r1, r2, r3, r4, r5, r6⟩ := hx i (by omega)
    rw [addr_add] at e1
    have eg : ((List.range len).map fun r => (Z r).take (L r)).getD i [] = (Z i).take (L i) := by simp [hi]
    rw [eg]
    exact ⟨_, e1, argI_of r1 r2 r3 r5 (fun x ex j hj => (r6 x ex).2 j (by omega))⟩
theorem trod_struct1 {H : Type} {enc : TypeId × Value → H} {P : Program} {w : World} {base : Nat} {spare : Nat → Bool} {held : Bool} {t : TypeId} {f0 : Field} {fuel : Nat} {cs : List Value} {x : DataW H × List MemPlace} (ht : P.underlying t = some (.struct #[f0])) (h : DataW.trod enc P w base spare held fuel t cs = some x) :
    ∃ y0 n, DataW.trod enc P w base spare held n f0.type ((cs.drop f0.offset).take (P.cellsOf f0.type)) = some y0 := by
  obtain ⟨xs, n, _, _, _, hlen, hf⟩ := DataW.trod_struct ht h
  match xs, hlen with
  | [y0], _ => exact ⟨y0, n, by simpa using hf 0 f0 rfl⟩

set_option maxRecDepth 100000 in
theorem open_sum {H : Type} {enc : TypeId × Value → H} {w : World} {r : Reach} {b0 : Nat} {v : Value} {d : DataW H} {p : List MemPlace} (hv : Value.okWide Try.prog w r b0 66 v)
    (h : DataW.Trod enc Try.prog w 0 (fun _ => true) true 66 v d p) : ∃ V s, v = .agg #[.slice V.xr V.nr V.cr, .slice V.xf V.nf V.cf, .slice V.xt V.nt V.ct, .int .i64 s.lo, .int .i64 s.al, .slice V.xk V.nk V.ck, .int .i64 s.ka] ∧ ArgS w V s := by
  have hC : Try.prog.cellsOf 66 = 7 := by kernel_rfl
  obtain ⟨cs, rfl, hsz⟩ := okWide_struct Try.underlying66 hv
  rw [hC] at hsz
  obtain ⟨c0, c1, c2, c3, c4, c5, c6, rfl⟩ : ∃ c0 c1 c2 c3 c4 c5 c6, cs = #[c0, c1, c2, c3, c4, c5, c6] := by
    obtain ⟨l⟩ := cs
    match l, hsz with
    | [c0, c1, c2, c3, c4, c5, c6], _ => exact ⟨c0, c1, c2, c3, c4, c5, c6, rfl⟩
  obtain ⟨fuel, hf⟩ := h
  obtain ⟨y0, y1, y2, y3, n, _, _, h0, h1, h2, h3⟩ := trod_struct4 Try.underlying66 hf
  have k0 : Try.prog.cellsOf 57 = 1 := by kernel_rfl
  have k1 : Try.prog.cellsOf 58 = 1 := by kernel_rfl
  have k2 : Try.prog.cellsOf 61 = 3 := by kernel_rfl
  have k3 : Try.prog.cellsOf 64 = 2 := by kernel_rfl
  have j0 : Try.prog.cellsOf 23 = 1 := by kernel_rfl
  have j1 : Try.prog.cellsOf 26 = 1 := by kernel_rfl
  have j2 : Try.prog.cellsOf 59 = 1 := by kernel_rfl
  have j3 : Try.prog.cellsOf 62 = 1 := by kernel_rfl
  have j4 : Try.prog.cellsOf 3 = 1 := by kernel_rfl
  simp [Value.cells, k0] at h0
  simp [Value.cells, k1] at h1
  simp [Value.cells, k2] at h2
  simp [Value.cells, k3] at h3
  obtain ⟨z0, n0, g0⟩ := trod_struct1 Try.underlying57 h0
  obtain ⟨z1, n1, g1⟩ := trod_struct1 Try.underlying58 h1
  obtain ⟨z2, z3, z4, n2, _, _, g2, g3, g4⟩ := trod_struct3 Try.underlying61 h2
  obtain ⟨z5, z6, n3, _, _, g5, g6⟩ := trod_struct2 Try.underlying64 h3
  simp [j0] at g0
  simp [j1] at g1
  simp [j2] at g2
  simp [j4] at g3 g4 g6
  simp [j3] at g5
  obtain ⟨rs, a0⟩ := open_rowsC g0
  obtain ⟨zs, a1⟩ := open_intsC g1
  obtain ⟨ps, a2⟩ := T.open_pairs g2
  obtain ⟨lo, e3, _⟩ := DataW.trod_int Try.underlying3 g3
  obtain ⟨al, e4, _⟩ := DataW.trod_int Try.underlying3 g4
  obtain ⟨ks, a5⟩ := K.open_pairs g5
  obtain ⟨ka, e6, _⟩ := DataW.trod_int Try.underlying3 g6
  simp at e3 e4 e6
  obtain ⟨xr, cr, hr⟩ := a0.form
  obtain ⟨xf, cf, hf⟩ := a1.form
  obtain ⟨xt, ct, ht⟩ := a2.form
  obtain ⟨xk, ck, hk⟩ := a5.form
  refine ⟨⟨xr, rs.length, cr, xf, zs.length, cf, xt, ps.length, ct, xk, ks.length, ck⟩, ⟨rs, zs, ps, lo, al, ks, ka⟩, by rw [hr, hf, ht, hk, e3, e4, e6], ?_, ?_, ?_, ?_⟩
  · rw [hr] at a0; exact a0
  · rw [hf] at a1; exact a1
  · rw [ht] at a2; exact a2
  · rw [hk] at a5; exact a5

set_option maxRecDepth 100000 in
/-- A slice of numbers that comes in as it is. -/
theorem open_intsV {H : Type} {enc : TypeId × Value → H} {w : World} {r : Reach} {b0 : Nat} {v : Value} {d : DataW H} {p : List MemPlace} (hv : Value.okWide Try.prog w r b0 26 v)
    (h : DataW.Trod enc Try.prog w 0 (fun _ => true) true 26 v d p) : ∃ zs, ArgI w v zs := by
  obtain ⟨a0, l0, c0, rfl⟩ := okWide_slice Try.underlying26 hv
  obtain ⟨fuel, hf⟩ := h
  exact open_intsC (by simpa [Value.cells] using hf)

end Go.Proofs.Ytnoilafoeaknjaa
