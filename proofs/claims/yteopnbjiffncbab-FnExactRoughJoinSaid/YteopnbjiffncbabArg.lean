/-
  What comes in as a struct of one field: a slice of numbers, or of rows of numbers.
-/
import Derived.Test.YteopnbjiffncbabOwn
import Derived.Lib.SmallJoins
import Derived.Deep.Matrix
import Derived.Carry
namespace Go.Proofs.Yteopnbjiffncbab
open Go.RowKit Go.ChangeShapes Go.WideShapes Go.ChangeAt Go.Deep

/-- The value v is a slice that came in, and reads as the numbers zs. -/
def ArgI (w : World) (v : Value) (zs : List Int) : Prop :=
  (zs = [] ∧ ∃ x c, v = .slice x 0 c) ∨
  ∃ b o c, v = .slice (some ⟨b, o, none⟩) zs.length c ∧ 0 < zs.length ∧ zs.length ≤ maxLen ∧ b < w.heap.size ∧ ∀ i, i < zs.length → w.cell? ⟨b, o + i, none⟩ = some (.int .i64 (zs.getD i 0))
theorem ArgI.below {w w' : World} {v : Value} {zs : List Int} (h : ArgI w v zs) {B : Nat} (hb : Below B w w') (hB : w.heap.size ≤ B) : ArgI w' v zs := by
  rcases h with h | ⟨b, o, c, e, h0, h1, h2, h3⟩
  · exact .inl h
  · exact .inr ⟨b, o, c, e, h0, h1, Nat.lt_of_lt_of_le h2 hb.size, fun i hi => by rw [hb.cell (p := ⟨b, o + i, none⟩) (by show b < B; omega)]; exact h3 i hi⟩
theorem ArgI.form {w : World} {v : Value} {zs : List Int} (h : ArgI w v zs) : ∃ x c, v = .slice x zs.length c := by
  rcases h with ⟨rfl, x, c, e⟩ | ⟨b, o, c, e, _⟩
  · exact ⟨x, c, e⟩
  · exact ⟨_, c, e⟩
theorem ArgI.len {w : World} {v : Value} {zs : List Int} (h : ArgI w v zs) : zs.length ≤ maxLen := by
  rcases h with ⟨rfl, _⟩ | ⟨b, o, c, e, h0, h1, _⟩
  · exact Nat.zero_le _
  · exact h1

/-- The value v is a slice that came in, and reads as the rows rs. -/
def ArgR (w : World) (v : Value) (rs : List (List Int)) : Prop :=
  (rs = [] ∧ ∃ x c, v = .slice x 0 c) ∨
  ∃ b o c, v = .slice (some ⟨b, o, none⟩) rs.length c ∧ 0 < rs.length ∧ rs.length ≤ maxLen ∧ b < w.heap.size ∧ ∀ i, i < rs.length → ∃ x, w.cell? ⟨b, o + i, none⟩ = some x ∧ ArgI w x (rs.getD i [])
theorem ArgR.below {w w' : World} {v : Value} {rs : List (List Int)} (h : ArgR w v rs) {B : Nat} (hb : Below B w w') (hB : w.heap.size ≤ B) : ArgR w' v rs := by
  rcases h with h | ⟨b, o, c, e, h0, h1, h2, h3⟩
  · exact .inl h
  · refine .inr ⟨b, o, c, e, h0, h1, Nat.lt_of_lt_of_le h2 hb.size, fun i hi => ?_⟩
    obtain ⟨x, hx, hi'⟩ := h3 i hi
    exact ⟨x, by rw [hb.cell (p := ⟨b, o + i, none⟩) (by show b < B; omega)]; exact hx, hi'.below hb hB⟩
theorem ArgR.form {w : World} {v : Value} {rs : List (List Int)} (h : ArgR w v rs) : ∃ x c, v = .slice x rs.length c := by
  rcases h with ⟨rfl, x, c, e⟩ | ⟨b, o, c, e, _⟩
  · exact ⟨x, c, e⟩
  · exact ⟨_, c, e⟩

section
variable {H : Type} {enc : TypeId × Value → H} {P : Program} {w : World} {base : Nat} {spare : Nat → Bool} {held : Bool}
theorem open_agg1 {r : Reach} {b0 : Nat} {t : TypeId} {f0 : Field} {v : Value} {d : DataW H} {p : List MemPlace} (hs : P.underlying t = some (.struct #[f0])) (hone : oneCellFields P #[f0] = true) (hC : P.cellsOf t = 1)
    (hv : Value.okWide P w r b0 t v) (h : DataW.Trod enc P w base spare held t v d p) :
    ∃ (v0 : Value) (y0 : DataW H × List MemPlace) (n : Nat), v = .agg #[v0] ∧ DataW.trod enc P w base spare held n f0.type [v0] = some y0 := by
  obtain ⟨cs, rfl, hsz⟩ := okWide_struct hs hv
  obtain ⟨c0, rfl⟩ : ∃ c0, cs = #[c0] := by
    obtain ⟨l⟩ := cs
    match l, hsz.trans hC with
    | [c0], _ => exact ⟨c0, rfl⟩
  obtain ⟨fuel, hf⟩ := h
  obtain ⟨xs, n, _, _, _, hlen, hf⟩ := DataW.trod_struct hs hf
  obtain ⟨o0, k0⟩ := hone_of hone 0 f0 rfl
  match xs, hlen with
  | [y0], _ => exact ⟨c0, y0, n, rfl, by simpa [Value.cells, o0, k0] using hf 0 f0 rfl⟩
end

theorem addr_add (b o i : Nat) : (⟨b, o, none⟩ : Addr).add i = ⟨b, o + i, none⟩ := by unfold Addr.add; split <;> simp_all

theorem argI_of {w : World} {a : Option Addr} {len cap : Nat} {zs : List Int} (hl : len ≤ cap) (hm : cap ≤ maxLen) (hz : zs.length = cap) (hn : a = none → cap = 0) (hc : ∀ x, a = some x → ∀ i, i < zs.length → w.cell? (x.add i) = some (.int .i64 (zs.getD i 0))) :
    ArgI w (.slice a len cap) (zs.take len) := by
  by_cases h0 : len = 0
  · subst h0
    exact .inl ⟨rfl, _, _, rfl⟩
  cases a with
  | none => exact absurd (hn rfl) (by omega)
  | some x =>
    obtain ⟨b, o, sp⟩ := x
    have hc := hc _ rfl
    have h1 := hc 0 (by omega)
    have hs : sp = none := by simpa [Addr.add] using World.cell?_spot h1
    subst hs
    have e : (zs.take len).length = len := by simp; omega
    refine .inr ⟨b, o, cap, by rw [e], by omega, by omega, by simpa [Addr.add] using World.block_lt_of_cell? _ _ h1, fun i hi => ?_⟩
    rw [← addr_add, hc i (by omega)]
    have : i < len := by omega
    simp [this]

theorem open_few {H : Type} {enc : TypeId × Value → H} {w : World} {r : Reach} {b0 : Nat} {v : Value} {d : DataW H} {p : List MemPlace} (hv : Value.okWide Try.prog w r b0 43 v)
    (h : DataW.Trod enc Try.prog w 0 (fun _ => true) true 43 v d p) : ∃ u zs, v = .agg #[u] ∧ ArgI w u zs := by
  obtain ⟨v0, y0, n, rfl, hf⟩ := open_agg1 Try.underlying43 (by kernel_rfl) (by kernel_rfl) hv h
  rcases open_ints Try.underlying41 Try.underlying3 (by kernel_rfl) hf with ⟨hcs, _⟩ | ⟨x, l, c, zs, hcs, _, hl, hm, hz, _, hcell, hwz⟩
  · simp at hcs
    exact ⟨_, [], rfl, .inl ⟨rfl, _, _, hcs⟩⟩
  · simp at hcs
    subst hcs
    exact ⟨_, zs.take l, rfl, argI_of hl hm (by simpa using hz) (fun h => by cases h) (fun x' e => by cases e; exact hcell)⟩
theorem open_rough {H : Type} {enc : TypeId × Value → H} {w : World} {r : Reach} {b0 : Nat} {v : Value} {d : DataW H} {p : List MemPlace} (hv : Value.okWide Try.prog w r b0 29 v)
    (h : DataW.Trod enc Try.prog w 0 (fun _ => true) true 29 v d p) : ∃ u rs, v = .agg #[u] ∧ ArgR w u rs := by
  obtain ⟨v0, y0, n, rfl, hf⟩ := open_agg1 Try.underlying29 (by kernel_rfl) (by kernel_rfl) hv h
  rcases open_int_rows Try.underlying22 Try.underlying41 Try.underlying3 (by kernel_rfl) (by kernel_rfl) hf with ⟨hcs, _⟩ | ⟨a, len, cap, A, L, C, Z, hcs, _, hl, hm, _, hx⟩
  · simp at hcs
    exact ⟨_, [], rfl, .inl ⟨rfl, _, _, hcs⟩⟩
  · simp at hcs
    subst hcs
    by_cases h0 : len = 0
    · subst h0
      exact ⟨_, [], rfl, .inl ⟨rfl, _, _, rfl⟩⟩
    obtain ⟨b, o, sp⟩ := a
    have h1 := (hx 0 (by omega)).1
    have hs : sp = none := by simpa [Addr.add] using World.cell?_spot h1
    subst hs
    have e : ((List.range len).map fun r => (Z r).take (L r)).length = len := by simp
    refine ⟨_, (List.range len).map fun r => (Z r).take (L r), rfl, .inr ⟨b, o, cap, by rw [e], by omega, by omega, by simpa [Addr.add] using World.block_lt_of_cell? _ _ h1, fun i hi => ?_⟩⟩
    rw [e] at hi
    obtain ⟨e1, r1, r2, r3, r4, r5, r6⟩ := hx i (by omega)
    rw [addr_add] at e1
    have eg : ((List.range len).map fun r => (Z r).take (L r)).getD i [] = (Z i).take (L i) := by simp [hi]
    rw [eg]
    exact ⟨_, e1, argI_of r1 r2 r3 r5 (fun x ex j hj => (r6 x ex).2 j (by omega))⟩

end Go.Proofs.Yteopnbjiffncbab
