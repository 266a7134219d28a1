/-
  Several texts in one: Arg, ExArg, ExArgR.
-/
import Derived.Test.YtnoilafoeaknjaaBa
import Derived.Lib.SmallJoins
import Derived.Deep.Matrix
import Derived.Carry
import Derived.Test.YtnoilafoeaknjaaFa
import Derived.Deep.OwnRows
import Derived.Test.YtnoilafoeaknjaaRa
set_option linter.unusedVariables false
/-
  What comes in as a struct of one field: a slice of numbers, or of rows of numbers.
-/
namespace Go.Proofs.Ytnoilafoeaknjaa
open Go.RowKit Go.ChangeShapes Go.WideShapes Go.ChangeAt Go.Deep

/-- The value v is a slice that came in, and reads as the numbers zs. -/
def ArgI (w : World) (v : Value) (zs : List Int) : Prop :=
  (zs = [] ∧ ∃ x c, v = .slice x 0 c) ∨
  ∃ b o c, v = .slice (some ⟨b, o, none⟩) zs.length c ∧ 0 < zs.length ∧ zs.length ≤ maxLen ∧ b < w.heap.size ∧ ∀ i, i < zs.length → w.cell? ⟨b, o + i, none⟩ = some (.int .i64 (zs.getD i 0))
theorem ArgI.below {w w' : World} {v : Value} {zs : List Int} (h : ArgI w v zs) {B : Nat} (hb : Below B w w') (hB : w.heap.size ≤ B) : ArgI w' v zs := by
  rcases h with h | ⟨b, o, c, e, h0, h1, h2, h3⟩
  · exact .inl h
  · exact .inr ⟨b, o, c, e, h0, h1, Nat.lt_of_lt_of_le h2 hb.size, fun i hi => by rw [hb.cell (p := ⟨b, o + i, none⟩) (by show b < B; omega)]; exact h3 i hi⟩
theorem ArgI.form {w : World} {v : Value} {zs : List Int} (h : ArgI w v zs) : ∃ x c, v = .slice x zs.length c := by
  rcases h with ⟨rfl, x, c, e⟩ | ⟨b, o, c, e, _⟩
  · exact ⟨x, c, e⟩
  · exact ⟨_, c, e⟩
theorem ArgI.len {w : World} {v : Value} {zs : List Int} (h : ArgI w v zs) : zs.length ≤ maxLen := by
  rcases h with ⟨rfl, _⟩ | ⟨b, o, c, e, h0, h1, _⟩
  · exact Nat.zero_le _
  · exact h1

/-- The value v is a slice that came in, and reads as the rows rs. -/
def ArgR (w : World) (v : Value) (rs : List (List Int)) : Prop :=
  (rs = [] ∧ ∃ x c, v = .slice x 0 c) ∨
  ∃ b o c, v = .slice (some ⟨b, o, none⟩) rs.length c ∧ 0 < rs.length ∧ rs.length ≤ maxLen ∧ b < w.heap.size ∧ ∀ i, i < rs.length → ∃ x, w.cell? ⟨b, o + i, none⟩ = some x ∧ ArgI w x (rs.getD i [])
theorem ArgR.below {w w' : World} {v : Value} {rs : List (List Int)} (h : ArgR w v rs) {B : Nat} (hb : Below B w w') (hB : w.heap.size ≤ B) : ArgR w' v rs := by
  rcases h with h | ⟨b, o, c, e, h0, h1, h2, h3⟩
  · exact .inl h
  · refine .inr ⟨b, o, c, e, h0, h1, Nat.lt_of_lt_of_le h2 hb.size, fun i hi => ?_⟩
    obtain ⟨x, hx, hi'⟩ := h3 i hi
    exact ⟨x, by rw [hb.cell (p := ⟨b, o + i, none⟩) (by show b < B; omega)]; exact hx, hi'.below hb hB⟩
theorem ArgR.form {w : World} {v : Value} {rs : List (List Int)} (h : ArgR w v rs) : ∃ x c, v = .slice x rs.length c := by
  rcases h with ⟨rfl, x, c, e⟩ | ⟨b, o, c, e, _⟩
  · exact ⟨x, c, e⟩
  · exact ⟨_, c, e⟩

section
variable {H : Type} {enc : TypeId × Value → H} {P : Program} {w : World} {base : Nat} {spare : Nat → Bool} {held : Bool}
set_option maxRecDepth 100000 in
theorem open_agg1 {r : Reach} {b0 : Nat} {t : TypeId} {f0 : Field} {v : Value} {d : DataW H} {p : List MemPlace} (hs : P.underlying t = some (.struct #[f0])) (hone : oneCellFields P #[f0] = true) (hC : P.cellsOf t = 1)
    (hv : Value.okWide P w r b0 t v) (h : DataW.Trod enc P w base spare held t v d p) :
    ∃ (v0 : Value) (y0 : DataW H × List MemPlace) (n : Nat), v = .agg #[v0] ∧ DataW.trod enc P w base spare held n f0.type [v0] = some y0 := by
  obtain ⟨cs, rfl, hsz⟩ := okWide_struct hs hv
  obtain ⟨c0, rfl⟩ : ∃ c0, cs = #[c0] := by
    obtain ⟨l⟩ := cs
    match l, hsz.trans hC with
    | [c0], _ => exact ⟨c0, rfl⟩
  obtain ⟨fuel, hf⟩ := h
  obtain ⟨xs, n, _, _, _, hlen, hf⟩ := DataW.trod_struct hs hf
  obtain ⟨o0, k0⟩ := hone_of hone 0 f0 rfl
  match xs, hlen with
  | [y0], _ => exact ⟨c0, y0, n, rfl, by simpa [Value.cells, o0, k0] using hf 0 f0 rfl⟩
end

theorem addr_add (b o i : Nat) : (⟨b, o, none⟩ : Addr).add i = ⟨b, o + i, none⟩ := by unfold Addr.add; split <;> simp_all

theorem argI_of {w : World} {a : Option Addr} {len cap : Nat} {zs : List Int} (hl : len ≤ cap) (hm : cap ≤ maxLen) (hz : zs.length = cap) (hn : a = none → cap = 0) (hc : ∀ x, a = some x → ∀ i, i < zs.length → w.cell? (x.add i) = some (.int .i64 (zs.getD i 0))) :
    ArgI w (.slice a len cap) (zs.take len) := by
  by_cases h0 : len = 0
  · subst h0
    exact .inl ⟨rfl, _, _, rfl⟩
  cases a with
  | none => exact absurd (hn rfl) (by omega)
  | some x =>
    obtain ⟨b, o, sp⟩ := x
    have hc := hc _ rfl
    have h1 := hc 0 (by omega)
    have hs : sp = none := by simpa [Addr.add] using World.cell?_spot h1
    subst hs
    have e : (zs.take len).length = len := by simp; omega
    refine .inr ⟨b, o, cap, by rw [e], by omega, by omega, by simpa [Addr.add] using World.block_lt_of_cell? _ _ h1, fun i hi => ?_⟩
    rw [← addr_add, hc i (by omega)]
    have : i < len := by omega
    simp [this]

set_option maxRecDepth 100000 in
theorem open_few {H : Type} {enc : TypeId × Value → H} {w : World} {r : Reach} {b0 : Nat} {v : Value} {d : DataW H} {p : List MemPlace} (hv : Value.okWide Try.prog w r b0 58 v)
    (h : DataW.Trod enc Try.prog w 0 (fun _ => true) true 58 v d p) : ∃ u zs, v = .agg #[u] ∧ ArgI w u zs := by
  obtain ⟨v0, y0, n, rfl, hf⟩ := open_agg1 Try.underlying58 (by kernel_rfl) (by kernel_rfl) hv h
  rcases open_ints Try.underlying26 Try.underlying3 (by kernel_rfl) hf with ⟨hcs, _⟩ | ⟨x, l, c, zs, hcs, _, hl, hm, hz, _, hcell, hwz⟩
  · simp at hcs
    exact ⟨_, [], rfl, .inl ⟨rfl, _, _, hcs⟩⟩
  · simp at hcs
    subst hcs
    exact ⟨_, zs.take l, rfl, argI_of hl hm (by simpa using hz) (fun h => by cases h) (fun x' e => by cases e; exact hcell)⟩
set_option maxRecDepth 100000 in
theorem open_rough {H : Type} {enc : TypeId × Value → H} {w : World} {r : Reach} {b0 : Nat} {v : Value} {d : DataW H} {p : List MemPlace} (hv : Value.okWide Try.prog w r b0 57 v)
    (h : DataW.Trod enc Try.prog w 0 (fun _ => true) true 57 v d p) : ∃ u rs, v = .agg #[u] ∧ ArgR w u rs := by
  obtain ⟨v0, y0, n, rfl, hf⟩ := open_agg1 Try.underlying57 (by kernel_rfl) (by kernel_rfl) hv h
  rcases open_int_rows Try.underlying23 Try.underlying26 Try.underlying3 (by kernel_rfl) (by kernel_rfl) hf with ⟨hcs, _⟩ | ⟨a, len, cap, A, L, C, Z, hcs, _, hl, hm, _, hx⟩
  · simp at hcs
    exact ⟨_, [], rfl, .inl ⟨rfl, _, _, hcs⟩⟩
  · simp at hcs
    subst hcs
    by_cases h0 : len = 0
    · subst h0
      exact ⟨_, [], rfl, .inl ⟨rfl, _, _, rfl⟩⟩
    obtain ⟨b, o, sp⟩ := a
    have h1 := (hx 0 (by omega)).1
    have hs : sp = none := by simpa [Addr.add] using World.cell?_spot h1
    subst hs
    have e : ((List.range len).map fun r => (Z r).take (L r)).length = len := by simp
    refine ⟨_, (List.range len).map fun r => (Z r).take (L r), rfl, .inr ⟨b, o, cap, by rw [e], by omega, by omega, by simpa [Addr.add] using World.block_lt_of_cell? _ _ h1, fun i hi => ?_⟩⟩
    rw [e] at hi
    obtain ⟨e1, r1, r2, r3, r4, r5, r6⟩ := hx i (by omega)
    rw [addr_add] at e1
    have eg : ((List.range len).map fun r => (Z r).take (L r)).getD i [] = (Z i).take (L i) := by simp [hi]
    rw [eg]
    exact ⟨_, e1, argI_of r1 r2 r3 r5 (fun x ex j hj => (r6 x ex).2 j (by omega))⟩

end Go.Proofs.Ytnoilafoeaknjaa

/-
  The exact laws' own functions over what came in: its size, and a copy of it.
-/
namespace Go.Proofs.Ytnoilafoeaknjaa
open Go.RowKit Go.Sort

/-- What is left of a bound when n is taken; -1 if it is passed. -/
def szV (left : Int) (n : Nat) : Int := if left < n then -1 else left - n
theorem szV_in {left : Int} {n : Nat} (h : (n : Int) ≤ left) : szV left n = left - n := if_neg (by omega)
theorem szV_out {left : Int} {n : Nat} (h : left < n) : szV left n = -1 := if_pos h

theorem szIntS_at (w : World) (v : Value) (zs : List Int) (left : Int) (h : ArgI w v zs) (h0 : 0 ≤ left) (h1 : left ≤ 1048576) :
    Calls Try.prog 103 #[v, .int .i64 left] w fun e w' => e = .returned (.int .i64 (szV left zs.length)) ∧ w = w' := by
  obtain ⟨x, c, hx⟩ := h.form
  have hl := h.len
  obtain ⟨n, hn⟩ : ∃ n, n = zs.length := ⟨_, rfl⟩
  rw [← hn] at hx hl ⊢
  subst hx
  unfold maxLen at hl
  clear h hn
  by_cases hle : left < n
  · rw [szV_out hle]
    have h2 : left - (n : Int) < 0 := by omega
    go_enter Try.func103, Try.ntmps103
    go_wp2
    go_ret
    exact ⟨rfl, rfl⟩
  · rw [szV_in (by omega)]
    have h2 : ¬ left - (n : Int) < 0 := by omega
    go_enter Try.func103, Try.ntmps103
    go_wp2
    go_ret
    exact ⟨rfl, rfl⟩

theorem int_make (n : Nat) (hn : n ≤ 1048576) : ∀ w, (Instr.makeSlice 26 (.int .i64 (n : Int)) (.int .i64 (n : Int))).run Try.prog w = .ok (.slice (some ⟨w.heap.size, 0, none⟩) n n) (w.alloc (.cells (madeCells #[.int .i64 0] n) 3)) :=
  run_make_row' (P := Try.prog) 26 3 (.int .i64 0) 8 Try.underlying26 few_info rfl .i64 .i64 n (by omega) (by omega)

theorem ints_set (zs : List Int) (k : Nat) (x : Int) : (ints zs).set k (.int .i64 x) = ints (zs.set k x) := by simp [ints, List.map_set]

set_option maxHeartbeats 1000000 in
theorem toIntS_at (w : World) (v : Value) (zs : List Int) (h : ArgI w v zs) (hn : zs.length ≤ 1048576) :
    Calls Try.prog 107 #[v] w fun e w' => e = .returned (.slice (some ⟨w.heap.size, 0, none⟩) zs.length zs.length) ∧ OwnI w' w.heap.size (.slice (some ⟨w.heap.size, 0, none⟩) zs.length zs.length) zs ∧ Below w.heap.size w w' := by
  obtain ⟨x, c, hx⟩ := h.form
  obtain ⟨n, hn'⟩ : ∃ n, n = zs.length := ⟨_, rfl⟩
  have HZ : Hid (∀ i, i < n → ∃ b o, x = some ⟨b, o, none⟩ ∧ b < w.heap.size ∧ w.cell? ⟨b, o + i, none⟩ = some (.int .i64 (zs.getD i 0))) := fun i hi => by
    rcases h with ⟨rfl, _⟩ | ⟨b, o, c', e, _, _, hb, hc⟩
    · rw [hn'] at hi; cases hi
    · rw [hx] at e
      exact ⟨b, o, (Value.slice.inj e).1, hb, hc i (by rw [← hn']; exact hi)⟩
  have HN := Lib.hid hn'
  rw [← hn'] at hx hn ⊢
  have hmk := int_make n hn
  have own0 : OwnI (w.alloc (.cells (madeCells #[.int .i64 0] n) 3)) w.heap.size (.slice (some ⟨w.heap.size, 0, none⟩) n n) (List.replicate n 0) := by
    have := World.ownsRow_lit (base := w.heap.size) (e := 3) (size := 1) w (madeCells #[.int .i64 0] n) n (Nat.le_refl _) (by unfold maxLen; omega) (by rw [size_madeCells]; omega)
    rw [toList_madeCells_one] at this
    unfold OwnI
    rw [List.length_replicate]
    simpa [ints] using this
  have O0 := Lib.hid own0
  subst hx
  clear h hn' own0
  go_enter Try.func107, Try.ntmps107
  go_wp2
  go_loopw [4] (fun i wr => ∃ (k : Nat) (ys : List Int), k ≤ n ∧ i = .int .i64 k ∧ ys.length = n ∧ (∀ i, i < k → ys.getD i 0 = zs.getD i 0) ∧ OwnI wr w.heap.size (.slice (some ⟨w.heap.size, 0, none⟩) n n) ys ∧ Below w.heap.size w wr) (fun i _ => n - (intOf i).toNat)
  case atStart => exact ⟨0, List.replicate n 0, Nat.zero_le _, rfl, by simp, fun _ h => absurd h (Nat.not_lt_zero _), O0.out, (Below.refl _ _).alloc (Nat.le_refl _) _⟩
  case round =>
    obtain ⟨k, ys, hk, rfl, hy, hys, hown, hbl⟩ := hrel
    have HY := Lib.hid hy
    have HYS := Lib.hid hys
    have HB := Lib.hid hbl
    have ho : wr.ownsRow w.heap.size 3 1 (.slice (some ⟨w.heap.size, 0, none⟩) n n) n (ints ys) := by have h := hown; unfold OwnI at h; rw [hy] at h; exact h
    have HO := Lib.hid ho
    clear hy hys hbl hown ho
    by_cases hlt : k < n
    · obtain ⟨b, o, rfl, hb, h1⟩ := HZ.out k hlt
      rw [← HB.out.cell (p := ⟨b, o + k, none⟩) hb] at h1
      obtain ⟨y, hyk⟩ : ∃ y, zs.getD k 0 = y := ⟨_, rfl⟩
      rw [hyk] at h1
      have HK := Lib.hid hyk
      obtain ⟨u, hc⟩ : ∃ u, wr.cell? ⟨w.heap.size, k, none⟩ = some u := by
        rw [HO.out.cellAt k (by omega)]
        exact ⟨_, ints_get _ _ (by rw [HY.out]; exact hlt)⟩
      have hf := HO.out.frozenAt k
      have hs := HO.out.stored k (.int .i64 y)
      rw [ints_set] at hs
      have HS := Lib.hid hs
      have k0 : (0 : Int) ≤ (k : Int) := by omega
      have kn : (k : Int) < (n : Int) := by omega
      clear hyk hs
      go_wp2
      go_roundw
      case rel =>
        refine ⟨k + 1, ys.set k y, by omega, by go_num, by simpa using HY.out, fun i hi => ?_, ?_, HB.out.setCell (Nat.le_refl _) _⟩
        · by_cases e : i = k
          · subst e
            rw [HK.out, List.getD_eq_getElem?_getD, List.getElem?_set_self (by rw [HY.out]; exact hlt)]; rfl
          · have e1 : (ys.set k y).getD i 0 = ys.getD i 0 := by simp [Ne.symm e]
            rw [e1]; exact HYS.out i (by omega)
        · unfold OwnI
          rw [List.length_set, HY.out]
          exact HS.out.1
      case measure => simp [intOf]; omega
    · obtain rfl : k = n := by omega
      have fin0 : ys = zs := of_decide_eq_true (eq_of_get (d := 0) HY.out HN.out.symm HYS.out)
      have fin := Lib.hid fin0
      clear fin0
      go_wp2
      go_ret
      refine ⟨rfl, ?_, HB.out⟩
      rw [← fin.out]
      unfold OwnI
      rw [HY.out]
      exact HO.out

theorem szFew_at (w : World) (u : Value) (zs : List Int) (left : Int) (h : ArgI w u zs) (h0 : 0 ≤ left) (h1 : left ≤ 1048576) :
    Calls Try.prog 71 #[.agg #[u], .int .i64 left] w fun e w' => e = .returned (.int .i64 (szV left zs.length)) ∧ Below w.heap.size w w' := by
  have hA := (Below.refl w.heap.size w).alloc (Nat.le_refl _) (.cells #[u] 58)
  have K := Lib.hid (szIntS_at _ u zs left (h.below hA (Nat.le_refl _)) h0 h1)
  have HA := Lib.hid hA
  obtain ⟨x, c, hx⟩ := h.form
  obtain ⟨n, hn⟩ : ∃ n, n = zs.length := ⟨_, rfl⟩
  rw [← hn] at hx K ⊢
  subst hx
  clear h hn hA
  by_cases hle : left < n
  · rw [szV_out hle] at K ⊢
    go_enter Try.func71, Try.ntmps71
    go_wp2_with fail
    refine K.out.mono ?_
    rintro e w1 ⟨rfl, rfl⟩
    go_wp2
    go_ret
    exact ⟨rfl, HA.out⟩
  · rw [szV_in (by omega)] at K ⊢
    have h2 : ¬ left - (n : Int) < 0 := by omega
    go_enter Try.func71, Try.ntmps71
    go_wp2_with fail
    refine K.out.mono ?_
    rintro e w1 ⟨rfl, rfl⟩
    go_wp2
    go_ret
    exact ⟨rfl, HA.out⟩

set_option maxHeartbeats 1000000 in
theorem toFew_at (w : World) (u : Value) (zs : List Int) (h : ArgI w u zs) (hn : zs.length ≤ 1048576) :
    Calls Try.prog 75 #[.agg #[u]] w fun e w' => ∃ g, e = .returned (.agg #[.slice (some ⟨g, 0, none⟩) zs.length zs.length]) ∧ OwnI w' w.heap.size (.slice (some ⟨g, 0, none⟩) zs.length zs.length) zs ∧ Below w.heap.size w w' := by
  have hA := (((Below.refl w.heap.size w).alloc (Nat.le_refl _) (.cells #[u] 58)).alloc (by simp) (.cells #[.slice none 0 0] 28)).alloc (by simp; omega) (.cells #[.slice none 0 0] 28)
  have K := Lib.hid (toIntS_at _ u zs (h.below hA (Nat.le_refl _)) hn)
  have HA := Lib.hid hA
  obtain ⟨x, c, hx⟩ := h.form
  obtain ⟨n, hn'⟩ : ∃ n, n = zs.length := ⟨_, rfl⟩
  rw [← hn'] at hx K hn ⊢
  subst hx
  clear h hn' hA
  obtain ⟨w0, hw0⟩ : ∃ w0, w0 = (((w.alloc (.cells #[.slice x n c] 58)).alloc (.cells #[.slice none 0 0] 28)).alloc (.cells #[.slice none 0 0] 28)) := ⟨_, rfl⟩
  have c1 : w0.cell? ⟨w.heap.size + 1, 0, none⟩ = some (.slice none 0 0) := by rw [hw0, World.cell?_alloc_past (hn := by simp), World.cell?_alloc_at (hn := by simp)]; simp
  have f1 : w0.frozen? ⟨w.heap.size + 1, 0, none⟩ = false := by rw [hw0, World.frozen?_alloc_past (hn := by simp)]; exact World.frozen?_alloc_at _ _ _ _ (by simp)
  have c2 : w0.cell? ⟨w.heap.size + 1 + 1, 0, none⟩ = some (.slice none 0 0) := by rw [hw0, World.cell?_alloc_at (hn := by simp)]; simp
  have f2 : w0.frozen? ⟨w.heap.size + 1 + 1, 0, none⟩ = false := by rw [hw0]; exact World.frozen?_alloc_at _ _ _ _ (by simp)
  have sz := Lib.hid (show w0.heap.size = w.heap.size + 3 by rw [hw0]; simp)
  rw [← hw0] at K HA
  have HW := Lib.hid hw0
  clear hw0
  go_enter Try.func75, Try.ntmps75
  go_wp2_with fail
  rw [← HW.out]
  refine K.out.mono ?_
  rintro e w1 ⟨rfl, ho1, hb1⟩
  have d1 := cell_later hb1 c1
  have d2 := cell_later hb1 c2
  have g1 : w1.frozen? ⟨w.heap.size + 1, 0, none⟩ = false := (hb1.frozen (p := ⟨w.heap.size + 1, 0, none⟩) (by have := sz.out; simp; omega)).trans f1
  have g2 : w1.frozen? ⟨w.heap.size + 1 + 1, 0, none⟩ = false := (hb1.frozen (p := ⟨w.heap.size + 1 + 1, 0, none⟩) (by have := sz.out; simp; omega)).trans f2
  have B1 := Lib.hid (HA.out.trans (hb1.mono HA.out.size))
  have O1 := Lib.hid ho1
  have e1 : (w1.setCell ⟨w.heap.size + 1 + 1, 0, none⟩ (.slice (some ⟨w0.heap.size, 0, none⟩) n n)).cell? ⟨w.heap.size + 1, 0, none⟩ = some (.slice none 0 0) := (World.cell?_setCell_other (h := by simp) ..).trans d1
  have e2 : (w1.setCell ⟨w.heap.size + 1 + 1, 0, none⟩ (.slice (some ⟨w0.heap.size, 0, none⟩) n n)).frozen? ⟨w.heap.size + 1, 0, none⟩ = false := by rw [World.frozen?_setCell]; exact g1
  have e3 := World.cell?_setCell_same w1 ⟨w.heap.size + 1 + 1, 0, none⟩ (.slice (some ⟨w0.heap.size, 0, none⟩) n n) d2
  clear hb1 ho1 HW c1 c2 f1 f2
  go_wp2
  have hr := World.cell?_setCell_same _ ⟨w.heap.size + 1, 0, none⟩ (.slice (some ⟨w0.heap.size, 0, none⟩) n n) e1
  have s1 := grownBy_setCell w1 ⟨w.heap.size + 1 + 1, 0, none⟩ (.slice (some ⟨w0.heap.size, 0, none⟩) n n)
  have s2 := grownBy_setCell (w1.setCell ⟨w.heap.size + 1 + 1, 0, none⟩ (.slice (some ⟨w0.heap.size, 0, none⟩) n n)) ⟨w.heap.size + 1, 0, none⟩ (.slice (some ⟨w0.heap.size, 0, none⟩) n n)
  refine bodyPost_ret (v := .agg #[.slice (some ⟨w0.heap.size, 0, none⟩) n n]) (by simp [results, Try.results75, go_sem, hr]) rfl ⟨_, rfl, ?_, ?_⟩
  · exact ((O1.out.kept s1 (fun k e => by have := sz.out; simp at e; omega)).kept s2 (fun k e => by have := sz.out; simp at e; omega)).base (by have := sz.out; omega)
  · exact (B1.out.setCell (by simp; omega) _).setCell (by simp) _

set_option maxHeartbeats 1000000 in
theorem eqFew_at (w : World) (u v : Value) (za zb : List Int) (ha : Ints w u za) (hb : Ints w v zb) (hl : za.length ≤ maxLen) :
    Calls Try.prog 59 #[.agg #[u], .agg #[v]] w fun e w' => e = .returned (.bool (decide (za = zb))) ∧ Below w.heap.size w w' := by
  have hA := ((Below.refl w.heap.size w).alloc (Nat.le_refl _) (.cells #[u] 28)).alloc (by simp) (.cells #[v] 28)
  have K := Lib.hid (eqIntS_at _ u v za zb (ha.below hA (Nat.le_refl _)) (hb.below hA (Nat.le_refl _)) hl)
  have HA := Lib.hid hA
  obtain ⟨⟨x, c, hx⟩, _⟩ := ha.cases
  obtain ⟨⟨y, d, hy⟩, _⟩ := hb.cases
  obtain ⟨n, hn⟩ : ∃ n, n = za.length := ⟨_, rfl⟩
  obtain ⟨m, hm⟩ : ∃ m, m = zb.length := ⟨_, rfl⟩
  rw [← hn] at hx
  rw [← hm] at hy
  subst hx hy
  clear ha hb hn hm hl hA
  by_cases h : za = zb
  · rw [decide_eq_true h] at K ⊢
    clear h
    go_enter Try.func59, Try.ntmps59
    go_wp2_with fail
    refine K.out.mono ?_
    rintro e w1 ⟨rfl, q, rfl⟩
    go_wp2
    go_ret
    exact ⟨rfl, below_drewN HA.out _⟩
  · rw [decide_eq_false h] at K ⊢
    clear h
    go_enter Try.func59, Try.ntmps59
    go_wp2_with fail
    refine K.out.mono ?_
    rintro e w1 ⟨rfl, q, rfl⟩
    go_wp2
    go_ret
    exact ⟨rfl, below_drewN HA.out _⟩

end Go.Proofs.Ytnoilafoeaknjaa

/-
  The exact laws' own functions over a rough count that came in: its size, and a copy of it.
-/
namespace Go.Proofs.Ytnoilafoeaknjaa
open Go.RowKit Go.Sort

theorem ahead_mono (rs : List (List Int)) : ∀ i j, i ≤ j → ahead rs i ≤ ahead rs j := fun i j h => by
  induction h with
  | refl => exact Nat.le_refl _
  | step _ ih => exact Nat.le_trans ih (by simp [ahead])
theorem ahead_row (rs : List (List Int)) (i n : Nat) (h : i < n) : (rs.getD i []).length ≤ ahead rs n :=
  Nat.le_trans (by show _ ≤ ahead rs i + (rs.getD i []).length; omega) (ahead_mono rs (i + 1) n h)

theorem ArgR.len {w : World} {v : Value} {rs : List (List Int)} (h : ArgR w v rs) : rs.length ≤ maxLen := by
  rcases h with ⟨rfl, _⟩ | ⟨b, o, c, e, h0, h1, _⟩
  · exact Nat.zero_le _
  · exact h1
theorem ArgR.cells {w : World} {x : Option Addr} {n c : Nat} {rs : List (List Int)} (h : ArgR w (.slice x n c) rs) : ∀ i, i < rs.length → ∃ b o u, x = some ⟨b, o, none⟩ ∧ b < w.heap.size ∧ w.cell? ⟨b, o + i, none⟩ = some u ∧ ArgI w u (rs.getD i []) := fun i hi => by
  rcases h with ⟨rfl, _⟩ | ⟨b, o, c', e, _, _, hb, hc⟩
  · cases hi
  · obtain ⟨u, hu, ha⟩ := hc i hi
    exact ⟨b, o, u, (Value.slice.inj e).1, hb, hu, ha⟩

set_option maxHeartbeats 1000000 in
theorem szIntSS_at (w : World) (v : Value) (rs : List (List Int)) (left : Int) (h : ArgR w v rs) (h0 : 0 ≤ left) (h1 : left ≤ 1048576) :
    Calls Try.prog 102 #[v, .int .i64 left] w fun e w' => e = .returned (.int .i64 (szV left (rs.length + ahead rs rs.length))) ∧ w = w' := by
  obtain ⟨x, c, hx⟩ := h.form
  have hl := h.len
  have hcs := fun hx' : v = .slice x rs.length c => (hx' ▸ h : ArgR w (.slice x rs.length c) rs).cells
  obtain ⟨n, hn⟩ : ∃ n, n = rs.length := ⟨_, rfl⟩
  have HC := Lib.hid (hcs hx)
  rw [← hn] at hx hl HC ⊢
  have HN := Lib.hid hn
  subst hx
  unfold maxLen at hl
  clear h hn hcs
  by_cases hle : left < n
  · rw [szV_out (by omega)]
    have h2 : left - (n : Int) < 0 := by omega
    go_enter Try.func102, Try.ntmps102
    go_wp2
    go_ret
    exact ⟨rfl, rfl⟩
  · have h2 : ¬ left - (n : Int) < 0 := by omega
    have HM := Lib.hid (ahead_mono rs)
    go_enter Try.func102, Try.ntmps102
    go_wp2
    go_loop [1, 5] (fun q i => ∃ (k a : Nat), k ≤ n ∧ i = .int .i64 k ∧ q = .int .i64 (left - n - a) ∧ a = ahead rs k ∧ (a : Int) ≤ left - n) (fun _ i => n - (intOf i).toNat)
    case atStart => exact ⟨0, 0, Nat.zero_le _, rfl, by simp, rfl, by omega⟩
    case round =>
      obtain ⟨k, a, hk, rfl, rfl, ha, hal⟩ := hrel
      have HA := Lib.hid ha
      clear ha
      by_cases hlt : k < n
      · obtain ⟨b, o, u, rfl, hb, hu, hai⟩ := HC.out k hlt
        obtain ⟨m, hm⟩ : ∃ m, m = (rs.getD k []).length := ⟨_, rfl⟩
        have KS := Lib.hid (szIntS_at w u (rs.getD k []) (left - n - a) hai (by omega) (by omega))
        obtain ⟨xu, cu, hxu⟩ := hai.form
        rw [← hm] at KS hxu
        have e3 : ahead rs (k + 1) = a + m := by rw [hm, HA.out]; rfl
        have E3 := Lib.hid e3
        have mono := HM.out (k + 1) n hlt
        rw [e3] at mono
        have MO := Lib.hid mono
        have k0 : (0 : Int) ≤ (k : Int) := by omega
        have kn : (k : Int) < (n : Int) := by omega
        subst hxu
        clear hm e3 mono hai
        by_cases hlm : left - n - a < m
        · rw [szV_out hlm] at KS
          have fin : Hid (szV left (n + ahead rs n) = -1) := szV_out (by have := MO.out; omega)
          go_wp2_with fail
          refine KS.out.mono ?_
          rintro e w1 ⟨rfl, rfl⟩
          go_wp2
          go_ret
          exact ⟨by rw [fin.out]; rfl, rfl⟩
        · rw [szV_in (by omega)] at KS
          have h3 : ¬ left - (n : Int) - (a : Int) - (m : Int) < 0 := by omega
          go_wp2_with fail
          refine KS.out.mono ?_
          rintro e w1 ⟨rfl, rfl⟩
          go_wp2
          go_round
          case rel => exact ⟨k + 1, a + m, by omega, by go_num, by rw [show left - (n : Int) - (a : Int) - (m : Int) = left - n - ((a + m : Nat) : Int) by omega], E3.out.symm, by omega⟩
          case measure => simp [intOf]; omega
      · obtain rfl : k = n := by omega
        have fin : Hid (szV left (k + ahead rs k) = left - k - a) := by
          show szV left (k + ahead rs k) = _
          rw [← HA.out, szV_in (by omega)]; omega
        go_wp2
        go_ret
        exact ⟨by rw [fin.out]; rfl, rfl⟩

theorem info_slice : (Try.prog.info? 26).map (fun i => (i.zero, i.size, i.bytes)) = some (some (.slice none 0 0), 1, 24) := by kernel_rfl
theorem rows_make (n : Nat) (hn : n ≤ 1048576) : ∀ w, (Instr.makeSlice 23 (.int .i64 (n : Int)) (.int .i64 (n : Int))).run Try.prog w = .ok (.slice (some ⟨w.heap.size, 0, none⟩) n n) (w.alloc (.cells (madeCells #[.slice none 0 0] n) 26)) :=
  run_make_row' (P := Try.prog) 23 26 (.slice none 0 0) 24 Try.underlying23 info_slice rfl .i64 .i64 n (by omega) (by omega)

set_option maxHeartbeats 2000000 in
theorem toIntSS_at (w : World) (v : Value) (rs : List (List Int)) (h : ArgR w v rs) (hn : rs.length ≤ 1048576) (hr : ∀ i, i < rs.length → (rs.getD i []).length ≤ 1048576) :
    Calls Try.prog 106 #[v] w fun e w' => e = .returned (.slice (some ⟨w.heap.size, 0, none⟩) rs.length rs.length) ∧ (∃ xs : List Value, w'.ownsRow w.heap.size 26 1 (.slice (some ⟨w.heap.size, 0, none⟩) rs.length rs.length) rs.length xs ∧ ∀ j, j < rs.length → ∃ x, xs[j]? = some x ∧ OwnI w' (w.heap.size + 1) x (rs.getD j [])) ∧ Below w.heap.size w w' := by
  obtain ⟨x, c, hx⟩ := h.form
  have hcs := fun hx' : v = .slice x rs.length c => (hx' ▸ h : ArgR w (.slice x rs.length c) rs).cells
  obtain ⟨n, hn'⟩ : ∃ n, n = rs.length := ⟨_, rfl⟩
  have HC := Lib.hid (hcs hx)
  rw [← hn'] at hx hn HC hr ⊢
  have HR := Lib.hid hr
  have hmk := rows_make n hn
  have own0 := World.ownsRow_lit (base := w.heap.size) (e := 26) (size := 1) w (madeCells #[.slice none 0 0] n) n (Nat.le_refl _) (by unfold maxLen; omega) (by rw [size_madeCells]; omega)
  have O0 := Lib.hid own0
  subst hx
  clear h hn' hcs own0 hr
  go_enter Try.func106, Try.ntmps106
  go_wp2
  go_loopw [4] (fun i wr => ∃ (k : Nat) (xs : List Value), k ≤ n ∧ i = .int .i64 k ∧ xs.length = n ∧ (∀ j, j < k → ∃ x, xs[j]? = some x ∧ OwnI wr (w.heap.size + 1) x (rs.getD j [])) ∧ wr.ownsRow w.heap.size 26 1 (.slice (some ⟨w.heap.size, 0, none⟩) n n) n xs ∧ Below w.heap.size w wr) (fun i _ => n - (intOf i).toNat)
  case atStart => exact ⟨0, _, Nat.zero_le _, rfl, by rw [Array.length_toList, size_madeCells], fun _ h => absurd h (Nat.not_lt_zero _), O0.out, (Below.refl _ _).alloc (Nat.le_refl _) _⟩
  case round =>
    obtain ⟨k, xs, hk, rfl, hy, hys, hown, hbl⟩ := hrel
    have HY := Lib.hid hy
    have HYS := Lib.hid hys
    have HB := Lib.hid hbl
    have HO := Lib.hid hown
    clear hy hys hbl hown
    by_cases hlt : k < n
    · obtain ⟨b, o, u, rfl, hb, h1, hai⟩ := HC.out k hlt
      rw [← HB.out.cell (p := ⟨b, o + k, none⟩) hb] at h1
      have KT := Lib.hid (toIntS_at wr u (rs.getD k []) (hai.below HB.out (Nat.le_refl _)) (HR.out k hlt))
      obtain ⟨xu, cu, hxu⟩ := hai.form
      obtain ⟨m, hm⟩ : ∃ m, m = (rs.getD k []).length := ⟨_, rfl⟩
      rw [← hm] at KT hxu
      subst hxu
      have hlw : w.heap.size < wr.heap.size := (World.ownsRow.lt HO.out w.heap.size rfl).2
      have k0 : (0 : Int) ≤ (k : Int) := by omega
      have kn : (k : Int) < (n : Int) := by omega
      clear hai hm
      go_wp2_with fail
      refine KT.out.mono ?_
      rintro e w1 ⟨rfl, ho1, hb1⟩
      have ho2 := HO.out.kept (grownBy_below (row := none) hb1) (.inr (by simp [Value.ownBlock]))
      obtain ⟨uu, hc⟩ : ∃ uu, w1.cell? ⟨w.heap.size, k, none⟩ = some uu := by
        rw [ho2.cellAt k (by omega)]
        exact ⟨_, List.getElem?_eq_getElem (by rw [HY.out]; exact hlt)⟩
      have hf := ho2.frozenAt k
      have hs := ho2.stored k (.slice (some ⟨wr.heap.size, 0, none⟩) m m)
      have HS := Lib.hid hs
      have O1 := Lib.hid ho1
      have B1 := Lib.hid hb1
      clear hs ho1 ho2 hb1
      go_wp2
      go_roundw
      case rel =>
        have sg := grownBy_setCell w1 ⟨w.heap.size, k, none⟩ (.slice (some ⟨wr.heap.size, 0, none⟩) m m)
        refine ⟨k + 1, xs.set k (.slice (some ⟨wr.heap.size, 0, none⟩) m m), by omega, by go_num, by simpa using HY.out, fun j hj => ?_, HS.out.1, (HB.out.trans (B1.out.mono HB.out.size)).setCell (Nat.le_refl _) _⟩
        by_cases e : j = k
        · subst e
          refine ⟨_, List.getElem?_set_self (by rw [HY.out]; exact hlt), ?_⟩
          exact (O1.out.base (by omega)).kept sg (fun q eq => by simp at eq; omega)
        · obtain ⟨x, hx, hox⟩ := HYS.out j (by omega)
          refine ⟨x, by rw [List.getElem?_set_ne (Ne.symm e)]; exact hx, ?_⟩
          exact (hox.kept (grownBy_below (row := none) B1.out) (fun q eq => by cases eq)).kept sg (fun q eq => by simp at eq; omega)
      case measure => simp [intOf]; omega
    · obtain rfl : k = n := by omega
      go_wp2
      go_ret
      exact ⟨rfl, ⟨xs, HO.out, HYS.out⟩, HB.out⟩

/-- What was copied reads as it was. -/
theorem copied_rws {w : World} {L n : Nat} {rs : List (List Int)} {xs : List Value} (hl : n = rs.length) (hn : n ≤ 1048576) (h : w.ownsRow L 26 1 (.slice (some ⟨L, 0, none⟩) n n) n xs) (hx : ∀ j, j < n → ∃ x, xs[j]? = some x ∧ OwnI w (L + 1) x (rs.getD j [])) : Rws w (.slice (some ⟨L, 0, none⟩) n n) rs := by
  refine .inr ⟨L, 0, n, by rw [hl], by omega, by unfold maxLen; omega, (World.ownsRow.lt h L rfl).2, fun i hi => ?_⟩
  obtain ⟨x, h1, h2⟩ := hx i (by omega)
  refine ⟨x, ?_, h2.rd⟩
  rw [Nat.zero_add, h.cellAt i (by omega)]
  exact h1

theorem szRough_at (w : World) (u : Value) (rs : List (List Int)) (left : Int) (h : ArgR w u rs) (h0 : 0 ≤ left) (h1 : left ≤ 1048576) :
    Calls Try.prog 70 #[.agg #[u], .int .i64 left] w fun e w' => e = .returned (.int .i64 (szV left (rs.length + ahead rs rs.length))) ∧ Below w.heap.size w w' := by
  have hA := (Below.refl w.heap.size w).alloc (Nat.le_refl _) (.cells #[u] 57)
  have K := Lib.hid (szIntSS_at _ u rs left (h.below hA (Nat.le_refl _)) h0 h1)
  have HA := Lib.hid hA
  obtain ⟨x, c, hx⟩ := h.form
  obtain ⟨n, hn⟩ : ∃ n, n = rs.length := ⟨_, rfl⟩
  obtain ⟨m, hm⟩ : ∃ m, m = rs.length + ahead rs rs.length := ⟨_, rfl⟩
  rw [← hm] at K ⊢
  rw [← hn] at hx
  subst hx
  clear h hn hA hm
  by_cases hle : left < m
  · rw [szV_out hle] at K ⊢
    go_enter Try.func70, Try.ntmps70
    go_wp2_with fail
    refine K.out.mono ?_
    rintro e w1 ⟨rfl, rfl⟩
    go_wp2
    go_ret
    exact ⟨rfl, HA.out⟩
  · rw [szV_in (by omega)] at K ⊢
    have h2 : ¬ left - (m : Int) < 0 := by omega
    go_enter Try.func70, Try.ntmps70
    go_wp2_with fail
    refine K.out.mono ?_
    rintro e w1 ⟨rfl, rfl⟩
    go_wp2
    go_ret
    exact ⟨rfl, HA.out⟩

set_option maxHeartbeats 1000000 in
theorem toRough_at (w : World) (u : Value) (rs : List (List Int)) (h : ArgR w u rs) (hn : rs.length ≤ 1048576) (hr : ∀ i, i < rs.length → (rs.getD i []).length ≤ 1048576) :
    Calls Try.prog 74 #[.agg #[u]] w fun e w' => ∃ g, e = .returned (.agg #[.slice (some ⟨g, 0, none⟩) rs.length rs.length]) ∧ (w.heap.size ≤ g ∧ ∃ xs : List Value, w'.ownsRow g 26 1 (.slice (some ⟨g, 0, none⟩) rs.length rs.length) rs.length xs ∧ ∀ j, j < rs.length → ∃ x, xs[j]? = some x ∧ OwnI w' (g + 1) x (rs.getD j [])) ∧ Below w.heap.size w w' := by
  have hA := (((Below.refl w.heap.size w).alloc (Nat.le_refl _) (.cells #[u] 57)).alloc (by simp) (.cells #[.slice none 0 0] 25)).alloc (by simp; omega) (.cells #[.slice none 0 0] 25)
  have K := Lib.hid (toIntSS_at _ u rs (h.below hA (Nat.le_refl _)) hn hr)
  have HA := Lib.hid hA
  obtain ⟨x, c, hx⟩ := h.form
  obtain ⟨n, hn'⟩ : ∃ n, n = rs.length := ⟨_, rfl⟩
  rw [← hn'] at hx K hn ⊢
  subst hx
  have HNN := Lib.hid hn'
  clear h hn' hA hr
  obtain ⟨w0, hw0⟩ : ∃ w0, w0 = (((w.alloc (.cells #[.slice x n c] 57)).alloc (.cells #[.slice none 0 0] 25)).alloc (.cells #[.slice none 0 0] 25)) := ⟨_, rfl⟩
  have c1 : w0.cell? ⟨w.heap.size + 1, 0, none⟩ = some (.slice none 0 0) := by rw [hw0, World.cell?_alloc_past (hn := by simp), World.cell?_alloc_at (hn := by simp)]; simp
  have f1 : w0.frozen? ⟨w.heap.size + 1, 0, none⟩ = false := by rw [hw0, World.frozen?_alloc_past (hn := by simp)]; exact World.frozen?_alloc_at _ _ _ _ (by simp)
  have c2 : w0.cell? ⟨w.heap.size + 1 + 1, 0, none⟩ = some (.slice none 0 0) := by rw [hw0, World.cell?_alloc_at (hn := by simp)]; simp
  have f2 : w0.frozen? ⟨w.heap.size + 1 + 1, 0, none⟩ = false := by rw [hw0]; exact World.frozen?_alloc_at _ _ _ _ (by simp)
  have sz := Lib.hid (show w0.heap.size = w.heap.size + 3 by rw [hw0]; simp)
  rw [← hw0] at K HA
  have HW := Lib.hid hw0
  clear hw0
  go_enter Try.func74, Try.ntmps74
  go_wp2_with fail
  rw [← HW.out]
  refine K.out.mono ?_
  rintro e w1 ⟨rfl, ho1, hb1⟩
  have d1 := cell_later hb1 c1
  have d2 := cell_later hb1 c2
  have g1 : w1.frozen? ⟨w.heap.size + 1, 0, none⟩ = false := (hb1.frozen (p := ⟨w.heap.size + 1, 0, none⟩) (by have := sz.out; simp; omega)).trans f1
  have g2 : w1.frozen? ⟨w.heap.size + 1 + 1, 0, none⟩ = false := (hb1.frozen (p := ⟨w.heap.size + 1 + 1, 0, none⟩) (by have := sz.out; simp; omega)).trans f2
  have B1 := Lib.hid (HA.out.trans (hb1.mono HA.out.size))
  have O1 := Lib.hid ho1
  have e1 : (w1.setCell ⟨w.heap.size + 1 + 1, 0, none⟩ (.slice (some ⟨w0.heap.size, 0, none⟩) n n)).cell? ⟨w.heap.size + 1, 0, none⟩ = some (.slice none 0 0) := (World.cell?_setCell_other (h := by simp) ..).trans d1
  have e2 : (w1.setCell ⟨w.heap.size + 1 + 1, 0, none⟩ (.slice (some ⟨w0.heap.size, 0, none⟩) n n)).frozen? ⟨w.heap.size + 1, 0, none⟩ = false := by rw [World.frozen?_setCell]; exact g1
  have e3 := World.cell?_setCell_same w1 ⟨w.heap.size + 1 + 1, 0, none⟩ (.slice (some ⟨w0.heap.size, 0, none⟩) n n) d2
  clear hb1 ho1 HW c1 c2 f1 f2
  go_wp2
  have hr := World.cell?_setCell_same _ ⟨w.heap.size + 1, 0, none⟩ (.slice (some ⟨w0.heap.size, 0, none⟩) n n) e1
  have s1 := grownBy_setCell w1 ⟨w.heap.size + 1 + 1, 0, none⟩ (.slice (some ⟨w0.heap.size, 0, none⟩) n n)
  have s2 := grownBy_setCell (w1.setCell ⟨w.heap.size + 1 + 1, 0, none⟩ (.slice (some ⟨w0.heap.size, 0, none⟩) n n)) ⟨w.heap.size + 1, 0, none⟩ (.slice (some ⟨w0.heap.size, 0, none⟩) n n)
  refine bodyPost_ret (v := .agg #[.slice (some ⟨w0.heap.size, 0, none⟩) n n]) (by simp [results, Try.results74, go_sem, hr]) rfl ⟨_, rfl, ?_, ?_⟩
  · obtain ⟨xs, o1, o2⟩ := O1.out
    refine ⟨by have := sz.out; omega, xs, ?_, fun j hj => ?_⟩
    · exact (o1.kept s1 (.inr (by have := sz.out; simp [Value.ownBlock]; omega))).kept s2 (.inr (by have := sz.out; simp [Value.ownBlock]; omega))
    · obtain ⟨x, h1, h2⟩ := o2 j hj
      exact ⟨x, h1, (h2.kept s1 (fun k e => by have := sz.out; simp at e; omega)).kept s2 (fun k e => by have := sz.out; simp at e; omega)⟩
  · exact (B1.out.setCell (by simp; omega) _).setCell (by simp) _


end Go.Proofs.Ytnoilafoeaknjaa
