/-
  Several texts in one: Arg, ExArg, ExArgR.
-/
import Derived.Test.YtnpogmhfdjmfdaaBa
import Derived.Lib.SmallJoins
import Derived.Deep.Matrix
import Derived.Carry
import Derived.Test.YtnpogmhfdjmfdaaFa
import Derived.Deep.OwnRows
import Derived.Test.YtnpogmhfdjmfdaaRa
set_option linter.unusedVariables false
/-
  What comes in as a struct of one field: a slice of numbers, or of rows of numbers.
-/
namespace Go.Proofs.Ytnpogmhfdjmfdaa
open Go.RowKit Go.ChangeShapes Go.WideShapes Go.ChangeAt Go.Deep

/-- The value v is a slice that came in, and reads as the numbers zs. -/
def ArgI (w : World) (v : Value) (zs : List Int) : Prop :=
  (zs = [] ∧ ∃ x c, v = .slice x 0 c) ∨
  ∃ b o c, v = .slice (some ⟨b, o, none⟩) zs.length c ∧ 0 < zs.length ∧ zs.length ≤ maxLen ∧ b < w.heap.size ∧ ∀ i, i < zs.length → w.cell? ⟨b, o + i, none⟩ = some (.int .i64 (zs.getD i 0))
theorem ArgI.below {w w' : World} {v : Value} {zs : List Int} (h : ArgI w v zs) {B : Nat} (hb : Below B w w') (hB : w.heap.size ≤ B) : ArgI w' v zs := by
  rcases h with h | ⟨b, o, c, e, h0, h1, h2, h3⟩
  · exact .inl h
  · exact .inr ⟨b, o, c, e, h0, h1, Nat.lt_of_lt_of_le h2 hb.size, fun i hi => by rw [hb.cell (p := ⟨b, o + i, none⟩) (by show b < B; omega)]; exact h3 i hi⟩
theorem ArgI.form {w : World} {v : Value} {zs : List Int} (h : ArgI w v zs) : ∃ x c, v = .slice x zs.length c := by
  rcases h with ⟨rfl, x, c, e⟩ | ⟨b, o, c, e, _⟩
  · exact ⟨x, c, e⟩
  · exact ⟨_, c, e⟩
theorem ArgI.len {w : World} {v : Value} {zs : List Int} (h : ArgI w v zs) : zs.length ≤ maxLen := by
  rcases h with ⟨rfl, _⟩ | ⟨b, o, c, e, h0, h1, _⟩
  · exact Nat.zero_le _
  · exact h1

/-- The value v is a slice that came in, and reads as the rows rs. -/
def ArgR (w : World) (v : Value) (rs : List (List Int)) : Prop :=
  (rs = [] ∧ ∃ x c, v = .slice x 0 c) ∨
  ∃ b o c, v = .slice (some ⟨b, o, none⟩) rs.length c ∧ 0 < rs.length ∧ rs.length ≤ maxLen ∧ b < w.heap.size ∧ ∀ i, i < rs.length → ∃ x, w.cell? ⟨b, o + i, none⟩ = some x ∧ ArgI w x (rs.getD i [])
theorem ArgR.below {w w' : World} {v : Value} {rs : List (List Int)} (h : ArgR w v rs) {B : Nat} (hb : Below B w w') (hB : w.heap.size ≤ B) : ArgR w' v rs := by
  rcases h with h | ⟨b, o, c, e, h0, h1, h2, h3⟩
  · exact .inl h
  · refine .inr ⟨b, o, c, e, h0, h1, Nat.lt_of_lt_of_le h2 hb.size, fun i hi => ?_⟩
    obtain ⟨x, hx, hi'⟩ := h3 i hi
    exact ⟨x, by rw [hb.cell (p := ⟨b, o + i, none⟩) (by show b < B; omega)]; exact hx, hi'.below hb hB⟩
theorem ArgR.form {w : World} {v : Value} {rs : List (List Int)} (h : ArgR w v rs) : ∃ x c, v = .slice x rs.length c := by
  rcases h with ⟨rfl, x, c, e⟩ | ⟨b, o, c, e, _⟩
  · exact ⟨x, c, e⟩
  · exact ⟨_, c, e⟩

section
variable {H : Type} {enc : TypeId × Value → H} {P : Program} {w : World} {base : Nat} {spare : Nat → Bool} {held : Bool}
set_option maxRecDepth 100000 in
theorem open_agg1 {r : Reach} {b0 : Nat} {t : TypeId} {f0 : Field} {v : Value} {d : DataW H} {p : List MemPlace} (hs : P.underlying t = some (.struct #[f0])) (hone : oneCellFields P #[f0] = true) (hC : P.cellsOf t = 1)
    (hv : Value.okWide P w r b0 t v) (h : DataW.Trod enc P w base spare held t v d p) :
    ∃ (v0 : Value) (y0 : DataW H × List MemPlace) (n : Nat), v = .agg #[v0] ∧ DataW.trod enc P w base spare held n f0.type [v0] = some y0 := by
  obtain ⟨cs, rfl, hsz⟩ := okWide_struct hs hv
  obtain ⟨c0, rfl⟩ : ∃ c0, cs = #[c0] := by
    obtain ⟨l⟩ := cs
    match l, hsz.trans hC with
    | [c0], _ => exact ⟨c0, rfl⟩
  obtain ⟨fuel, hf⟩ := h
  obtain ⟨xs, n, _, _, _, hlen, hf⟩ := DataW.trod_struct hs hf
  obtain ⟨o0, k0⟩ := hone_of hone 0 f0 rfl
  match xs, hlen with
  | [y0], _ => exact ⟨c0, y0, n, rfl, by simpa [Value.cells, o0, k0] using hf 0 f0 rfl⟩
end

theorem addr_add (b o i : Nat) : (⟨b, o, none⟩ : Addr).add i = ⟨b, o + i, none⟩ := by unfold Addr.add; split <;> simp_all

theorem argI_of {w : World} {a : Option Addr} {len cap : Nat} {zs : List Int} (hl : len ≤ cap) (hm : cap ≤ maxLen) (hz : zs.length = cap) (hn : a = none → cap = 0) (hc : ∀ x, a = some x → ∀ i, i < zs.length → w.cell? (x.add i) = some (.int .i64 (zs.getD i 0))) :
    ArgI w (.slice a len cap) (zs.take len) := by
  by_cases h0 : len = 0
  · subst h0
    exact .inl ⟨rfl, _, _, rfl⟩
  cases a with
  | none => exact absurd (hn rfl) (by omega)
  | some x =>
    obtain ⟨b, o, sp⟩ := x
    have hc := hc _ rfl
    have h1 := hc 0 (by omega)
    have hs : sp = none := by simpa [Addr.add] using World.cell?_spot h1
    subst hs
    have e : (zs.take len).length = len := by simp; omega
    refine .inr ⟨b, o, cap, by rw [e], by omega, by omega, by simpa [Addr.add] using World.block_lt_of_cell? _ _ h1, fun i hi => ?_⟩
    rw [← addr_add, hc i (by omega)]
    have : i < len := by omega
    simp [this]


end Go.Proofs.Ytnpogmhfdjmfdaa

/-
  The exact laws' own functions over what came in: its size, and a copy of it.
-/
namespace Go.Proofs.Ytnpogmhfdjmfdaa
open Go.RowKit Go.Sort

/-- What is left of a bound when n is taken; -1 if it is passed. -/
def szV (left : Int) (n : Nat) : Int := if left < n then -1 else left - n
theorem szV_in {left : Int} {n : Nat} (h : (n : Int) ≤ left) : szV left n = left - n := if_neg (by omega)
theorem szV_out {left : Int} {n : Nat} (h : left < n) : szV left n = -1 := if_pos h

theorem int_make (n : Nat) (hn : n ≤ 1048576) : ∀ w, (Instr.makeSlice 22 (.int .i64 (n : Int)) (.int .i64 (n : Int))).run Try.prog w = .ok (.slice (some ⟨w.heap.size, 0, none⟩) n n) (w.alloc (.cells (madeCells #[.int .i64 0] n) 3)) :=
  run_make_row' (P := Try.prog) 22 3 (.int .i64 0) 8 Try.underlying22 few_info rfl .i64 .i64 n (by omega) (by omega)

theorem ints_set (zs : List Int) (k : Nat) (x : Int) : (ints zs).set k (.int .i64 x) = ints (zs.set k x) := by simp [ints, List.map_set]

set_option maxHeartbeats 1000000 in
theorem toIntS_at (w : World) (v : Value) (zs : List Int) (h : ArgI w v zs) (hn : zs.length ≤ 1048576) :
    Calls Try.prog 5 #[v] w fun e w' => e = .returned (.slice (some ⟨w.heap.size, 0, none⟩) zs.length zs.length) ∧ OwnI w' w.heap.size (.slice (some ⟨w.heap.size, 0, none⟩) zs.length zs.length) zs ∧ Below w.heap.size w w' := by
  obtain ⟨x, c, hx⟩ := h.form
  obtain ⟨n, hn'⟩ : ∃ n, n = zs.length := ⟨_, rfl⟩
  have HZ : Hid (∀ i, i < n → ∃ b o, x = some ⟨b, o, none⟩ ∧ b < w.heap.size ∧ w.cell? ⟨b, o + i, none⟩ = some (.int .i64 (zs.getD i 0))) := fun i hi => by
    rcases h with ⟨rfl, _⟩ | ⟨b, o, c', e, _, _, hb, hc⟩
    · rw [hn'] at hi; cases hi
    · rw [hx] at e
      exact ⟨b, o, (Value.slice.inj e).1, hb, hc i (by rw [← hn']; exact hi)⟩
  have HN := Lib.hid hn'
  rw [← hn'] at hx hn ⊢
  have hmk := int_make n hn
  have own0 : OwnI (w.alloc (.cells (madeCells #[.int .i64 0] n) 3)) w.heap.size (.slice (some ⟨w.heap.size, 0, none⟩) n n) (List.replicate n 0) := by
    have := World.ownsRow_lit (base := w.heap.size) (e := 3) (size := 1) w (madeCells #[.int .i64 0] n) n (Nat.le_refl _) (by unfold maxLen; omega) (by rw [size_madeCells]; omega)
    rw [toList_madeCells_one] at this
    unfold OwnI
    rw [List.length_replicate]
    simpa [ints] using this
  have O0 := Lib.hid own0
  subst hx
  clear h hn' own0
  go_enter Try.func5, Try.ntmps5
  go_wp2
  go_loopw [4] (fun i wr => ∃ (k : Nat) (ys : List Int), k ≤ n ∧ i = .int .i64 k ∧ ys.length = n ∧ (∀ i, i < k → ys.getD i 0 = zs.getD i 0) ∧ OwnI wr w.heap.size (.slice (some ⟨w.heap.size, 0, none⟩) n n) ys ∧ Below w.heap.size w wr) (fun i _ => n - (intOf i).toNat)
  case atStart => exact ⟨0, List.replicate n 0, Nat.zero_le _, rfl, by simp, fun _ h => absurd h (Nat.not_lt_zero _), O0.out, (Below.refl _ _).alloc (Nat.le_refl _) _⟩
  case round =>
    obtain ⟨k, ys, hk, rfl, hy, hys, hown, hbl⟩ := hrel
    have HY := Lib.hid hy
    have HYS := Lib.hid hys
    have HB := Lib.hid hbl
    have ho : wr.ownsRow w.heap.size 3 1 (.slice (some ⟨w.heap.size, 0, none⟩) n n) n (ints ys) := by have h := hown; unfold OwnI at h; rw [hy] at h; exact h
    have HO := Lib.hid ho
    clear hy hys hbl hown ho
    by_cases hlt : k < n
    · obtain ⟨b, o, rfl, hb, h1⟩ := HZ.out k hlt
      rw [← HB.out.cell (p := ⟨b, o + k, none⟩) hb] at h1
      obtain ⟨y, hyk⟩ : ∃ y, zs.getD k 0 = y := ⟨_, rfl⟩
      rw [hyk] at h1
      have HK := Lib.hid hyk
      obtain ⟨u, hc⟩ : ∃ u, wr.cell? ⟨w.heap.size, k, none⟩ = some u := by
        rw [HO.out.cellAt k (by omega)]
        exact ⟨_, ints_get _ _ (by rw [HY.out]; exact hlt)⟩
      have hf := HO.out.frozenAt k
      have hs := HO.out.stored k (.int .i64 y)
      rw [ints_set] at hs
      have HS := Lib.hid hs
      have k0 : (0 : Int) ≤ (k : Int) := by omega
      have kn : (k : Int) < (n : Int) := by omega
      clear hyk hs
      go_wp2
      go_roundw
      case rel =>
        refine ⟨k + 1, ys.set k y, by omega, by go_num, by simpa using HY.out, fun i hi => ?_, ?_, HB.out.setCell (Nat.le_refl _) _⟩
        · by_cases e : i = k
          · subst e
            rw [HK.out, List.getD_eq_getElem?_getD, List.getElem?_set_self (by rw [HY.out]; exact hlt)]; rfl
          · have e1 : (ys.set k y).getD i 0 = ys.getD i 0 := by simp [Ne.symm e]
            rw [e1]; exact HYS.out i (by omega)
        · unfold OwnI
          rw [List.length_set, HY.out]
          exact HS.out.1
      case measure => simp [intOf]; omega
    · obtain rfl : k = n := by omega
      have fin0 : ys = zs := of_decide_eq_true (eq_of_get (d := 0) HY.out HN.out.symm HYS.out)
      have fin := Lib.hid fin0
      clear fin0
      go_wp2
      go_ret
      refine ⟨rfl, ?_, HB.out⟩
      rw [← fin.out]
      unfold OwnI
      rw [HY.out]
      exact HO.out

set_option maxHeartbeats 1000000 in
theorem eqFew_at (w : World) (u v : Value) (za zb : List Int) (ha : Ints w u za) (hb : Ints w v zb) (hl : za.length ≤ maxLen) :
    Calls Try.prog 53 #[.agg #[u], .agg #[v]] w fun e w' => e = .returned (.bool (decide (za = zb))) ∧ Below w.heap.size w w' := by
  have hA := ((Below.refl w.heap.size w).alloc (Nat.le_refl _) (.cells #[u] 65)).alloc (by simp) (.cells #[v] 65)
  have K := Lib.hid (eqIntS_at _ u v za zb (ha.below hA (Nat.le_refl _)) (hb.below hA (Nat.le_refl _)) hl)
  have HA := Lib.hid hA
  obtain ⟨⟨x, c, hx⟩, _⟩ := ha.cases
  obtain ⟨⟨y, d, hy⟩, _⟩ := hb.cases
  obtain ⟨n, hn⟩ : ∃ n, n = za.length := ⟨_, rfl⟩
  obtain ⟨m, hm⟩ : ∃ m, m = zb.length := ⟨_, rfl⟩
  rw [← hn] at hx
  rw [← hm] at hy
  subst hx hy
  clear ha hb hn hm hl hA
  by_cases h : za = zb
  · rw [decide_eq_true h] at K ⊢
    clear h
    go_enter Try.func53, Try.ntmps53
    go_wp2_with fail
    refine K.out.mono ?_
    rintro e w1 ⟨rfl, q, rfl⟩
    go_wp2
    go_ret
    exact ⟨rfl, below_drewN HA.out _⟩
  · rw [decide_eq_false h] at K ⊢
    clear h
    go_enter Try.func53, Try.ntmps53
    go_wp2_with fail
    refine K.out.mono ?_
    rintro e w1 ⟨rfl, q, rfl⟩
    go_wp2
    go_ret
    exact ⟨rfl, below_drewN HA.out _⟩

end Go.Proofs.Ytnpogmhfdjmfdaa

/-
  The exact laws' own functions over a rough count that came in: its size, and a copy of it.
-/
namespace Go.Proofs.Ytnpogmhfdjmfdaa
open Go.RowKit Go.Sort

theorem ahead_mono (rs : List (List Int)) : ∀ i j, i ≤ j → ahead rs i ≤ ahead rs j := fun i j h => by
  induction h with
  | refl => exact Nat.le_refl _
  | step _ ih => exact Nat.le_trans ih (by simp [ahead])
theorem ahead_row (rs : List (List Int)) (i n : Nat) (h : i < n) : (rs.getD i []).length ≤ ahead rs n :=
  Nat.le_trans (by show _ ≤ ahead rs i + (rs.getD i []).length; omega) (ahead_mono rs (i + 1) n h)

theorem ArgR.len {w : World} {v : Value} {rs : List (List Int)} (h : ArgR w v rs) : rs.length ≤ maxLen := by
  rcases h with ⟨rfl, _⟩ | ⟨b, o, c, e, h0, h1, _⟩
  · exact Nat.zero_le _
  · exact h1
theorem ArgR.cells {w : World} {x : Option Addr} {n c : Nat} {rs : List (List Int)} (h : ArgR w (.slice x n c) rs) : ∀ i, i < rs.length → ∃ b o u, x = some ⟨b, o, none⟩ ∧ b < w.heap.size ∧ w.cell? ⟨b, o + i, none⟩ = some u ∧ ArgI w u (rs.getD i []) := fun i hi => by
  rcases h with ⟨rfl, _⟩ | ⟨b, o, c', e, _, _, hb, hc⟩
  · cases hi
  · obtain ⟨u, hu, ha⟩ := hc i hi
    exact ⟨b, o, u, (Value.slice.inj e).1, hb, hu, ha⟩

theorem info_slice : (Try.prog.info? 22).map (fun i => (i.zero, i.size, i.bytes)) = some (some (.slice none 0 0), 1, 24) := by kernel_rfl
theorem rows_make (n : Nat) (hn : n ≤ 1048576) : ∀ w, (Instr.makeSlice 43 (.int .i64 (n : Int)) (.int .i64 (n : Int))).run Try.prog w = .ok (.slice (some ⟨w.heap.size, 0, none⟩) n n) (w.alloc (.cells (madeCells #[.slice none 0 0] n) 22)) :=
  run_make_row' (P := Try.prog) 43 22 (.slice none 0 0) 24 Try.underlying43 info_slice rfl .i64 .i64 n (by omega) (by omega)

/-- What was copied reads as it was. -/
theorem copied_rws {w : World} {L n : Nat} {rs : List (List Int)} {xs : List Value} (hl : n = rs.length) (hn : n ≤ 1048576) (h : w.ownsRow L 22 1 (.slice (some ⟨L, 0, none⟩) n n) n xs) (hx : ∀ j, j < n → ∃ x, xs[j]? = some x ∧ OwnI w (L + 1) x (rs.getD j [])) : Rws w (.slice (some ⟨L, 0, none⟩) n n) rs := by
  refine .inr ⟨L, 0, n, by rw [hl], by omega, by unfold maxLen; omega, (World.ownsRow.lt h L rfl).2, fun i hi => ?_⟩
  obtain ⟨x, h1, h2⟩ := hx i (by omega)
  refine ⟨x, ?_, h2.rd⟩
  rw [Nat.zero_add, h.cellAt i (by omega)]
  exact h1

end Go.Proofs.Ytnpogmhfdjmfdaa
