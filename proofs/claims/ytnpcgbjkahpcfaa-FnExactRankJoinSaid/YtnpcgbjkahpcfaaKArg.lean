/-
  How many are up to things, as it comes in: a struct of a slice of knots and a number. And its size.
-/
import Derived.Test.YtnpcgbjkahpcfaaKBox
import Derived.Lib.SmallJoins
import Derived.Deep.Slices
import Derived.Deep.Fields
import Derived.ChangeSame
import Derived.Deep.Matrix
import Derived.Carry
namespace Go.Proofs.Ytnpcgbjkahpcfaa
open Go.RowKit Go.ChangeShapes Go.WideShapes Go.ChangeAt Go.Deep Go.Joins

/-- The value v is a slice of pairs that came in, and reads as the pairs ps. -/
def ArgP (w : World) (v : Value) (ps : List Pr) : Prop :=
  (ps = [] ∧ ∃ x c, v = .slice x 0 c) ∨
  ∃ b o c, v = .slice (some ⟨b, o, none⟩) ps.length c ∧ 0 < ps.length ∧ ps.length ≤ maxLen ∧ b < w.heap.size ∧
    ∀ i, i < ps.length → w.cell? ⟨b, o + i * 2, none⟩ = some (.int .i64 (pr ps i).1) ∧ w.cell? ⟨b, o + i * 2 + 1, none⟩ = some (.int .i64 (pr ps i).2)
theorem ArgP.below {w w' : World} {v : Value} {ps : List Pr} (h : ArgP w v ps) {B : Nat} (hb : Below B w w') (hB : w.heap.size ≤ B) : ArgP w' v ps := by
  rcases h with h | ⟨b, o, c, e, h0, h1, h2, h3⟩
  · exact .inl h
  · exact .inr ⟨b, o, c, e, h0, h1, Nat.lt_of_lt_of_le h2 hb.size, fun i hi => by
      rw [hb.cell (p := ⟨b, o + i * 2, none⟩) (by show b < B; omega), hb.cell (p := ⟨b, o + i * 2 + 1, none⟩) (by show b < B; omega)]; exact h3 i hi⟩
theorem ArgP.form {w : World} {v : Value} {ps : List Pr} (h : ArgP w v ps) : ∃ x c, v = .slice x ps.length c := by
  rcases h with ⟨rfl, x, c, e⟩ | ⟨b, o, c, e, _⟩
  · exact ⟨x, c, e⟩
  · exact ⟨_, c, e⟩
theorem ArgP.len {w : World} {v : Value} {ps : List Pr} (h : ArgP w v ps) : ps.length ≤ maxLen := by
  rcases h with ⟨rfl, _⟩ | ⟨b, o, c, e, h0, h1, _⟩
  · exact Nat.zero_le _
  · exact h1
theorem ArgP.cells {w : World} {x : Option Addr} {n c : Nat} {ps : List Pr} (h : ArgP w (.slice x n c) ps) : ∀ i, i < ps.length → ∃ b o, x = some ⟨b, o, none⟩ ∧ b < w.heap.size ∧ w.cell? ⟨b, o + i * 2, none⟩ = some (.int .i64 (pr ps i).1) ∧ w.cell? ⟨b, o + i * 2 + 1, none⟩ = some (.int .i64 (pr ps i).2) := fun i hi => by
  rcases h with ⟨rfl, _⟩ | ⟨b, o, c, e, h0, h1, h2, h3⟩
  · cases hi
  · exact ⟨b, o, (Value.slice.inj e).1, h2, h3 i hi⟩

/-- What is left of a bound when n is taken; -1 if it is passed. -/
def szV (left : Int) (n : Nat) : Int := if left < n then -1 else left - n
theorem szV_in {left : Int} {n : Nat} (h : (n : Int) ≤ left) : szV left n = left - n := if_neg (by omega)
theorem szV_out {left : Int} {n : Nat} (h : left < n) : szV left n = -1 := if_pos h

set_option maxRecDepth 100000 in
/-- A slice of pairs, opened at every place. -/
theorem open_pairs {H : Type} {enc : TypeId × Value → H} {w : World} {fuel : Nat} {u : Value} {y : DataW H × List MemPlace} (h : DataW.trod enc Try.prog w 0 (fun _ => true) true fuel 46 [u] = some y) : ∃ ps, ArgP w u ps := by
  have hC : Try.prog.cellsOf 82 = 2 := by kernel_rfl
  have hC0 : Try.prog.cellsOf 3 = 1 := by kernel_rfl
  rcases open_slice Try.underlying46 h with ⟨e, _⟩ | ⟨a, len, cap, m, n, D, Pl, e, _, hl, hm, hmm, _, hi⟩
  · simp at e
    exact ⟨[], .inl ⟨rfl, _, _, e⟩⟩
  · simp at e
    simp only [if_true] at hmm
    subst e
    rw [hC] at hi
    have key : ∀ i, i < len → ∃ p : Pr, w.cell? (a.add (i * 2)) = some (.int .i64 p.1) ∧ w.cell? (a.add (i * 2 + 1)) = some (.int .i64 p.2) := fun i hlt => by
      obtain ⟨cs, hc, ht⟩ := hi i (by omega)
      obtain ⟨y0, y1, k, _, hlen, h0, h1⟩ := trod_struct2 Try.underlying82 ht
      obtain ⟨_, hcl, hat⟩ := World.cells?_some hc
      obtain ⟨l0, l1, rfl⟩ : ∃ l0 l1, cs = [l0, l1] := by
        match cs, hcl with
        | [l0, l1], _ => exact ⟨l0, l1, rfl⟩
      simp [hC0] at h0 h1
      obtain ⟨t, e0, _⟩ := DataW.trod_int Try.underlying3 h0
      obtain ⟨z, e1, _⟩ := DataW.trod_int Try.underlying3 h1
      simp at e0 e1
      have a0 := hat 0 (by omega)
      have a1 := hat 1 (by omega)
      rw [Go.Deep.add_add] at a0 a1
      exact ⟨(t, z), by simpa [e0] using a0, by simpa [e1] using a1⟩
    by_cases h0 : len = 0
    · subst h0
      exact ⟨[], .inl ⟨rfl, _, _, rfl⟩⟩
    obtain ⟨b, o, sp⟩ := a
    have f : ∀ i, ∃ p : Pr, i < len → w.cell? ((⟨b, o, sp⟩ : Addr).add (i * 2)) = some (.int .i64 p.1) ∧ w.cell? ((⟨b, o, sp⟩ : Addr).add (i * 2 + 1)) = some (.int .i64 p.2) := fun i => by
      by_cases hlt : i < len
      · obtain ⟨p, hp⟩ := key i hlt
        exact ⟨p, fun _ => hp⟩
      · exact ⟨(0, 0), fun hc => absurd hc hlt⟩
    have f' : ∃ F : Nat → Pr, ∀ i, i < len → w.cell? ((⟨b, o, sp⟩ : Addr).add (i * 2)) = some (.int .i64 (F i).1) ∧ w.cell? ((⟨b, o, sp⟩ : Addr).add (i * 2 + 1)) = some (.int .i64 (F i).2) := ⟨fun i => Classical.choose (f i), fun i => Classical.choose_spec (f i)⟩
    obtain ⟨F, hF⟩ := f'
    have c0 := (hF 0 (by omega)).1
    have hs : sp = none := by simpa [Addr.add] using World.cell?_spot c0
    subst hs
    have e : ((List.range len).map F).length = len := by simp
    refine ⟨(List.range len).map F, .inr ⟨b, o, cap, by rw [e], by omega, by omega, by simpa [Addr.add] using World.block_lt_of_cell? _ _ c0, fun i hi => ?_⟩⟩
    rw [e] at hi
    have eg : pr ((List.range len).map F) i = F i := by simp [pr, hi]
    rw [eg]
    have := hF i hi
    rw [addr_plus, addr_plus, ← Nat.add_assoc] at this
    exact this

set_option maxRecDepth 100000 in
theorem open_rank {H : Type} {enc : TypeId × Value → H} {w : World} {r : Reach} {b0 : Nat} {v : Value} {d : DataW H} {p : List MemPlace} (hv : Value.okWide Try.prog w r b0 48 v)
    (h : DataW.Trod enc Try.prog w 0 (fun _ => true) true 48 v d p) : ∃ u ps all, v = .agg #[u, .int .i64 all] ∧ ArgP w u ps := by
  obtain ⟨v0, v1, y0, y1, n, rfl, _, _, h0, h1⟩ := open_agg2 Try.underlying48 (by kernel_rfl) (by kernel_rfl) hv h
  obtain ⟨ps, hp⟩ := open_pairs h0
  obtain ⟨all, e1, _⟩ := DataW.trod_int Try.underlying3 h1
  simp at e1
  exact ⟨v0, ps, all, by rw [e1], hp⟩

theorem szKnotS_at (w : World) (v : Value) (ps : List Pr) (left : Int) (h : ArgP w v ps) (h0 : 0 ≤ left) (h1 : left ≤ 1048576) :
    Calls Try.prog 57 #[v, .int .i64 left] w fun e w' => e = .returned (.int .i64 (szV left ps.length)) ∧ w = w' := by
  obtain ⟨x, c, hx⟩ := h.form
  have hl := h.len
  obtain ⟨n, hn⟩ : ∃ n, n = ps.length := ⟨_, rfl⟩
  rw [← hn] at hx hl ⊢
  subst hx
  unfold maxLen at hl
  clear h hn
  by_cases hle : left < n
  · rw [szV_out hle]
    have h2 : left - (n : Int) < 0 := by omega
    go_enter Try.func57, Try.ntmps57
    go_wp2
    go_ret
    exact ⟨rfl, rfl⟩
  · rw [szV_in (by omega)]
    have h2 : ¬ left - (n : Int) < 0 := by omega
    go_enter Try.func57, Try.ntmps57
    go_wp2
    go_ret
    exact ⟨rfl, rfl⟩

theorem szRank_at (w : World) (u : Value) (ps : List Pr) (all left : Int) (h : ArgP w u ps) (h0 : 0 ≤ left) (h1 : left ≤ 1048576) :
    Calls Try.prog 37 #[.agg #[u, .int .i64 all], .int .i64 left] w fun e w' => e = .returned (.int .i64 (szV left ps.length)) ∧ Below w.heap.size w w' := by
  have hA := (Below.refl w.heap.size w).alloc (Nat.le_refl _) (.cells #[u, .int .i64 all] 48)
  have K := Lib.hid (szKnotS_at _ u ps left (h.below hA (Nat.le_refl _)) h0 h1)
  have HA := Lib.hid hA
  obtain ⟨x, c, hx⟩ := h.form
  obtain ⟨n, hn⟩ : ∃ n, n = ps.length := ⟨_, rfl⟩
  rw [← hn] at hx K ⊢
  subst hx
  clear h hn hA
  by_cases hle : left < n
  · rw [szV_out hle] at K ⊢
    go_enter Try.func37, Try.ntmps37
    go_wp2_with fail
    refine K.out.mono ?_
    rintro e w1 ⟨rfl, rfl⟩
    go_wp2
    go_ret
    exact ⟨rfl, HA.out⟩
  · rw [szV_in (by omega)] at K ⊢
    have h2 : ¬ left - (n : Int) < 0 := by omega
    go_enter Try.func37, Try.ntmps37
    go_wp2_with fail
    refine K.out.mono ?_
    rintro e w1 ⟨rfl, rfl⟩
    go_wp2
    go_ret
    exact ⟨rfl, HA.out⟩

end Go.Proofs.Ytnpcgbjkahpcfaa
