/-
  Things that are drawn: l71Things.
-/
import Derived.Test.YtnoilafoeaknjaaDr
import Derived.Test.YtnoilafoeaknjaaKa
set_option linter.unusedVariables false
namespace Go.Proofs.Ytnoilafoeaknjaa.K
open Go.RowKit Go.Sort

theorem int_empty (w : World) (B : Nat) (hB : B ≤ w.heap.size) : (w.alloc (.cells #[] 3)).ownsRow B 3 1 (.slice (some ⟨w.heap.size, 0, none⟩) 0 0) 0 [] :=
  World.ownsRow_lit (base := B) (e := 3) (size := 1) w #[] 0 hB (by simp [maxLen]) (by simp)
/-- The value v is the numbers zs, in a block of the call's own. -/
def OwnL (w : World) (B : Nat) (v : Value) (zs : List Int) : Prop := w.ownsRow B 3 1 v zs.length (ints zs)
theorem OwnL.rd {w : World} {B : Nat} {v : Value} {zs : List Int} (h : OwnL w B v zs) : Ints w v zs := ownI_ints h
theorem OwnL.base {w : World} {B B' : Nat} {v : Value} {zs : List Int} (h : OwnL w B v zs) (hB : B' ≤ B) : OwnL w B' v zs := ownsRow_base h hB
theorem OwnL.kept {w w' : World} {B : Nat} {v : Value} {zs : List Int} {row : Option Nat} (h : OwnL w B v zs) (hg : w.grownBy w' row) (hr : ∀ k, row = some k → k < B) : OwnL w' B v zs := by
  refine World.ownsRow.kept h hg ?_
  cases hv : v.ownBlock with
  | none => exact .inl rfl
  | some k => exact .inr (fun e => by have := (World.ownsRow.lt h k hv).1; have := hr k e.symm; omega)
theorem OwnL.below {w w' : World} {B : Nat} {v : Value} {zs : List Int} (h : OwnL w B v zs) (hb : Below w.heap.size w w') : OwnL w' B v zs := h.kept (row := none) (grownBy_below hb) (fun _ e => by cases e)
theorem OwnL.form {w : World} {B : Nat} {v : Value} {zs : List Int} (h : OwnL w B v zs) : ∃ x c, v = .slice x zs.length c := by
  rcases h.2 with ⟨rfl, h0⟩ | ⟨g, cap, cur, rfl, _⟩
  · exact ⟨none, 0, by rw [h0]⟩
  · exact ⟨_, _, rfl⟩
theorem OwnL.at {w : World} {B n c : Nat} {x : Option Addr} {zs : List Int} (h : OwnL w B (.slice x n c) zs) : ∀ i, i < zs.length → ∃ g, x = some ⟨g, 0, none⟩ ∧ B ≤ g ∧ g < w.heap.size ∧ w.cell? ⟨g, i, none⟩ = some (.int .i64 (zs.getD i 0)) := fun i hi => by
  rcases h.2 with ⟨_, h0⟩ | ⟨g, cap, cur, e, hb, hg, hn, hc, hs, ht⟩
  · omega
  · obtain ⟨rfl, rfl, rfl⟩ := Value.slice.inj e
    exact ⟨g, rfl, hb, (Array.getElem?_eq_some_iff.1 hg).1, (World.ownsRow.cellAt h i (by omega)).trans (ints_get _ _ hi)⟩
theorem ints_snoc' (zs : List Int) (x : Int) : ints (zs ++ [x]) = ints zs ++ [.int .i64 x] := by simp [ints]
theorem own_snocL {w : World} {B no : Nat} {v : Value} {os : List Int} {m : Int} (h : w.ownsRow B 3 1 v (no + 1) (ints os ++ [.int .i64 m])) (hn : no = os.length) : OwnL w B v (os ++ [m]) := by
  unfold OwnL
  rw [ints_snoc', List.length_append, ← hn]
  exact h
theorem else_appT {w w2 w3 : World} {a N : Nat} {o : Obj} {v : Value} {n size : Nat} {e : TypeId} {xs : List Value} (h : Else a w w2) (ho : w2.ownsRow N e size v n xs) (hg : (w2.alloc o).grownBy w3 v.ownBlock) (hN : w.heap.size ≤ N) : Else a w w3 :=
  ⟨hg.os.trans h.os, hg.tape.trans h.tape, hg.output.trans h.output, Nat.le_trans h.size (Nat.le_trans (by simp) hg.size), fun k hk hne =>
    ((hg.block k (by have := h.size; simp; omega) (fun e => by have := (ho.lt k e.symm).1; omega)).trans (heap_alloc_old w2 o (Nat.lt_of_lt_of_le hk h.size))).trans (h.block k hk hne)⟩
theorem Rd.app {w w' : World} {a : Nat} {p : Int} {B : Nat} {o : Obj} {v : Value} {n size : Nat} {e : TypeId} {xs : List Value} (h : Rd w a p) (ho : w.ownsRow B e size v n xs) (hg : (w.alloc o).grownBy w' v.ownBlock) (ha : a < B) : Rd w' a p :=
  (h.alloc o).grown hg (fun k e => by have := (ho.lt k e).1; omega)

/-- What the drawing of things leaves. -/
def Things (w : World) (a : Nat) (p most : Int) (w' : World) (v : Value) : Prop := ∃ zs q, OwnL w' w.heap.size v zs ∧ (zs.length : Int) ≤ most ∧ p ≤ q ∧ q ≤ p + 1 + 2 * most ∧ Rd w' a q ∧ Else a w w'

set_option maxHeartbeats 4000000 in
theorem things_at (w : World) (a : Nat) (p most : Int) (h : Rd w a p) (hp : 0 ≤ p) (hp' : p ≤ 60000) (m0 : 0 ≤ most) (m1 : most ≤ 100) :
    Calls Try.prog 79 #[.pointer (some ⟨a, 0, none⟩), .int .i64 most] w fun e w' => ∃ v, e = .returned v ∧ Things w a p most w' v := by
  obtain ⟨i0, hi, hz0, hz1, hz2⟩ := info_parts int_info
  have hlt := h.lt
  have HO := Lib.hid (show OwnL (w.alloc (.cells #[] 3)) w.heap.size (.slice (some ⟨w.heap.size, 0, none⟩) 0 0) [] from int_empty w w.heap.size (Nat.le_refl _))
  have HR := Lib.hid (h.alloc (.cells #[] 3))
  have HE := Lib.hid (show Else a w (w.alloc (.cells #[] 3)) from World.grownBy_alloc w _ _)
  clear h
  go_enter Try.func79, Try.ntmps79
  go_wp2_with fail
  refine (pick_at _ a p (most + 1) HR.out hp (by omega) (by omega) (by omega)).mono ?_
  rintro e w2 ⟨k, rfl, k0, k1, hr2, hg2⟩
  have O2 := Lib.hid (HO.out.kept hg2 (fun k e => by cases e; omega))
  have E2 := Lib.hid (HE.out.trans hg2)
  have R2 := Lib.hid hr2
  clear hr2 hg2 HO HR HE
  go_wp2
  go_loopw [5, 6] (fun u i wr => ∃ (j pos : Int) (zs : List Int), i = .int .i64 j ∧ 0 ≤ j ∧ j ≤ most ∧ (zs.length : Int) ≤ most - j ∧ p + 1 ≤ pos ∧ pos ≤ p + 1 + 2 * (most - j) ∧ OwnL wr w.heap.size u zs ∧ Rd wr a pos ∧ Else a w wr) (fun _ i _ => (intOf i).toNat)
  case atStart => exact ⟨k, p + 1, [], rfl, k0, by omega, by simp; omega, by omega, by omega, O2.out, R2.out, E2.out⟩
  case round =>
    clear O2 E2 R2 k0 k1
    obtain ⟨j, pos, zs, rfl, j0, j1, hzl, p0, p1, ho, hr, he⟩ := hrel
    obtain ⟨y, cp, hu⟩ := ho.form
    obtain ⟨no, hno⟩ : ∃ no, no = zs.length := ⟨_, rfl⟩
    rw [← hno] at hu hzl
    subst hu
    have HN := Lib.hid hno
    have HR := Lib.hid hr
    have HE := Lib.hid he
    have HO := Lib.hid ho
    have hsz := he.size
    clear ho hr he hno
    by_cases hj : 0 < j
    · go_wp2_with fail
      refine (thing_at wr a pos HR.out (by omega) (by omega)).mono ?_
      rintro e w3 ⟨t, q, rfl, t0, t1, q0, q1, hr3, hg3⟩
      have HO3 := HO.out.kept hg3 (fun k e => by cases e; omega)
      have ho3 : w3.ownsRow w.heap.size 3 1 (.slice y no cp) no (ints zs) := by have h := HO3; unfold OwnL at h; rw [← HN.out] at h; exact h
      have O3 := Lib.hid ho3
      have R3 := Lib.hid hr3
      have E3 := Lib.hid (HE.out.trans hg3)
      have hs3 := hg3.size
      clear HO3 ho3 hr3 hg3 HR HE
      by_cases ht : t < 0 ∨ 63 < t
      · have KT : Hid (∀ W, Calls Try.prog 49 #[.int .i64 t, .int .i64 0, .int .i64 63] W fun e w' => e = .returned (.bool false) ∧ W = w') := fun W => l6In_no t 0 63 W ht
        go_wp2_with fail
        refine (KT.out _).mono ?_
        rintro e w' ⟨rfl, rfl⟩
        go_wp2
        go_roundw
        case rel => exact ⟨j - 1, q, zs, rfl, by omega, by omega, by rw [← HN.out]; omega, by omega, by omega, by have h := O3.out; rw [HN.out] at h ⊢; exact h, R3.out, E3.out⟩
        case measure => simp [intOf]; omega
      · have KT : Hid (∀ W, Calls Try.prog 49 #[.int .i64 t, .int .i64 0, .int .i64 63] W fun e w' => e = .returned (.bool true) ∧ W = w') := fun W => l6In_yes t 0 63 W (by omega) (by omega)
        go_wp2_with fail
        refine (KT.out _).mono ?_
        rintro e w' ⟨rfl, rfl⟩
        go_wp2_with (first | (at_builtin; refine wpList_append_own _ rfl _ _ 26 rfl w.heap.size 3 i0 (.int .i64 0) 1 8 Try.underlying26 hi hz0 hz1 hz2 rfl (by decide) _ _ _ rfl (O3.out.alloc _) ⟨w3.heap.size, 0, none⟩ 1 1 [.int .i64 t] rfl rfl (cell_one_new _ _ _) (by simp [Value.oneCell']) (by unfold maxLen; omega) (by omega) (by simp; omega) ?_; intro v1 w1 ho1 hg1 _; obtain ⟨g_v1, c_v1, rfl, _, _⟩ := World.ownsRow.form ho1 (Nat.succ_pos _)))
        go_roundw
        case rel => exact ⟨j - 1, q, zs ++ [t], rfl, by omega, by omega, by simp; rw [← HN.out]; omega, by omega, by omega, own_snocL ho1 HN.out, Rd.app R3.out O3.out hg1 hlt, else_appT E3.out O3.out hg1 (Nat.le_refl _)⟩
        case measure => simp [intOf]; omega
    · obtain rfl : j = 0 := by omega
      go_wp2
      go_ret
      exact ⟨_, rfl, zs, pos, HO.out, by rw [← HN.out]; omega, by omega, by omega, HR.out, HE.out⟩

end Go.Proofs.Ytnoilafoeaknjaa.K
