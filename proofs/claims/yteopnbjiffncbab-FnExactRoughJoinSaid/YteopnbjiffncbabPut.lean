/-
  A mark that is put among others: the model's l2Put.
-/
import Derived.Test.YteopnbjiffncbabFew2
import Derived.Maps.AppendAt
import Derived.OneCell
namespace Go.Proofs.Yteopnbjiffncbab
open Go.RowKit Go.Sort

theorem few_info : (Try.prog.info? 3).map (fun i => (i.zero, i.size, i.bytes)) = some (some (.int .i64 0), 1, 8) := by kernel_rfl
theorem few_empty (w : World) (B : Nat) (hB : B ≤ w.heap.size) : (w.alloc (.cells #[] 3)).ownsRow B 3 1 (.slice (some ⟨w.heap.size, 0, none⟩) 0 0) 0 [] :=
  World.ownsRow_lit (base := B) (e := 3) (size := 1) w #[] 0 hB (by simp [maxLen]) (by simp)

/-- The value v is the numbers zs, in a block of the call's own. -/
def OwnI (w : World) (B : Nat) (v : Value) (zs : List Int) : Prop := w.ownsRow B 3 1 v zs.length (ints zs)
theorem OwnI.rd {w : World} {B : Nat} {v : Value} {zs : List Int} (h : OwnI w B v zs) : Ints w v zs := ownI_ints h
theorem OwnI.base {w : World} {B B' : Nat} {v : Value} {zs : List Int} (h : OwnI w B v zs) (hB : B' ≤ B) : OwnI w B' v zs := ownsRow_base h hB
theorem OwnI.kept {w w' : World} {B : Nat} {v : Value} {zs : List Int} {row : Option Nat} (h : OwnI w B v zs) (hg : w.grownBy w' row) (hr : ∀ k, row = some k → k < B) : OwnI w' B v zs := by
  refine World.ownsRow.kept h hg ?_
  cases hv : v.ownBlock with
  | none => exact .inl rfl
  | some k => exact .inr (fun e => by have := (World.ownsRow.lt h k hv).1; have := hr k e.symm; omega)
theorem OwnI.alloc {w : World} {B : Nat} {v : Value} {zs : List Int} (h : OwnI w B v zs) (o : Obj) : OwnI (w.alloc o) B v zs := World.ownsRow.alloc h o
theorem OwnI.nil (w : World) (B : Nat) : OwnI w B (.slice none 0 0) [] := World.ownsRow_nil w B _ 1
theorem OwnI.form {w : World} {B : Nat} {v : Value} {zs : List Int} (h : OwnI w B v zs) : ∃ x c, v = .slice x zs.length c := h.rd.cases.1
theorem ints_snoc (zs : List Int) (x : Int) : ints (zs ++ [x]) = ints zs ++ [.int .i64 x] := by simp [ints]
/-- The first k. -/
theorem OwnI.take {w : World} {B n c : Nat} {x : Option Addr} {zs : List Int} (h : OwnI w B (.slice x n c) zs) (k : Nat) (hk : k ≤ zs.length) : OwnI w B (.slice x k c) (zs.take k) := by
  have hl : (zs.take k).length = k := by simp; omega
  have hi : ints (zs.take k) = (ints zs).take k := by simp [ints, List.map_take]
  obtain ⟨h1, h2⟩ := h
  refine ⟨by rw [ints_len]; simp, ?_⟩
  rw [hl]
  rcases h2 with ⟨e, h0⟩ | ⟨g, cap, cur, e, hb, hh, hn, hm, hs, ht⟩
  · refine .inl ⟨?_, by omega⟩
    obtain ⟨rfl, rfl, rfl⟩ := Value.slice.inj e
    obtain rfl : k = 0 := by omega
    rfl
  · obtain ⟨rfl, rfl, rfl⟩ := Value.slice.inj e
    refine .inr ⟨g, c, cur, rfl, hb, hh, by omega, hm, hs, ?_⟩
    rw [hi, ← ht, List.take_take]
    congr 1
    omega

/-- The mark m among marks, d telling that it stands already. -/
def putL (m : Int) : List Int → Bool → List Int
  | [], d => if d then [] else [m]
  | x :: xs, d => (if !d && decide (m ≤ x) then [m] else []) ++ ((if x = m then [] else [x]) ++ putL m xs (d || decide (m ≤ x)))
def putV (zs : List Int) (m : Int) : List Int := (putL m zs false).take 6
theorem putL_len (m : Int) (zs : List Int) (d : Bool) : (putL m zs d).length ≤ zs.length * 2 + 1 := by
  induction zs generalizing d with
  | nil => unfold putL; split <;> simp
  | cons x xs ih =>
    have := ih (d || decide (m ≤ x))
    unfold putL
    simp only [List.length_append, List.length_cons]
    split <;> split <;> simp <;> omega
theorem putV_len (zs : List Int) (m : Int) : (putV zs m).length ≤ 6 := by simp [putV]; omega
theorem drop_cons {zs : List Int} {k : Nat} (h : k < zs.length) : zs.drop k = zs.getD k 0 :: zs.drop (k + 1) := by
  rw [List.drop_eq_getElem_cons h]; simp [h]

theorem put1 (m : Int) (rest : List Int) : putL m (m :: rest) false = [m] ++ putL m rest true := by
  show (if _ then _ else _) ++ ((if _ then _ else _) ++ putL m rest _) = _
  simp
theorem put2 {m y : Int} (rest : List Int) (h : m ≤ y) (h' : y ≠ m) : putL m (y :: rest) false = [m] ++ ([y] ++ putL m rest true) := by
  show (if _ then _ else _) ++ ((if _ then _ else _) ++ putL m rest _) = _
  simp [h, h']
theorem put3 (m : Int) (rest : List Int) : putL m (m :: rest) true = putL m rest true := by
  show (if _ then _ else _) ++ ((if _ then _ else _) ++ putL m rest _) = _
  simp
theorem put4 {m y : Int} {d : Bool} (rest : List Int) (h : d = true ∨ y < m) (h' : y ≠ m) : putL m (y :: rest) d = [y] ++ putL m rest d := by
  show (if _ then _ else _) ++ ((if _ then _ else _) ++ putL m rest _) = _
  rcases h with h | h
  · simp [h, h']
  · have : ¬ m ≤ y := by omega
    simp [this, h']
theorem own_snoc {w : World} {B no : Nat} {v : Value} {os : List Int} {m : Int} (h : w.ownsRow B 3 1 v (no + 1) (ints os ++ [.int .i64 m])) (hn : no = os.length) : OwnI w B v (os ++ [m]) := by
  unfold OwnI
  rw [ints_snoc, List.length_append, ← hn]
  exact h
theorem below_append {w wr w' : World} {o : Obj} {e : TypeId} {v : Value} {n : Nat} {xs : List Value} (hb : Below w.heap.size w wr) (ho : wr.ownsRow w.heap.size e 1 v n xs) (hg : (wr.alloc o).grownBy w' v.ownBlock) : Below w.heap.size w w' :=
  (hb.alloc hb.size o).grown hg (Nat.le_trans hb.size (by simp)) (fun k e => (ho.lt k e).1)

theorem own_cap {w : World} {B n c : Nat} {e : TypeId} {x : Option Addr} {xs : List Value} (h : w.ownsRow B e 1 (.slice x n c) n xs) : n ≤ c ∧ c ≤ maxLen := by
  rcases h.2 with ⟨e, h0⟩ | ⟨g, cap, cur, e, hb, hh, hn, hm, hs, ht⟩
  · obtain ⟨_, h1, h2⟩ := Value.slice.inj e
    subst h1 h2
    exact ⟨Nat.le_refl _, Nat.zero_le _⟩
  · obtain ⟨_, _, h2⟩ := Value.slice.inj e
    subst h2
    exact ⟨hn, hm⟩
theorem cell_append {w wr w' : World} {o : Obj} {e : TypeId} {v u : Value} {n : Nat} {xs : List Value} {a : Addr} (hc : wr.cell? a = some u) (ha : a.block < w.heap.size) (ho : wr.ownsRow w.heap.size e 1 v n xs) (hg : (wr.alloc o).grownBy w' v.ownBlock) : w'.cell? a = some u :=
  hg.cell ((World.cell?_alloc_lt (h := World.block_lt_of_cell? _ _ hc) ..).trans hc) (fun h => by have := (ho.lt _ h.symm).1; omega)

set_option maxHeartbeats 4000000 in
theorem l2Put_some (w : World) (b o c n : Nat) (zs : List Int) (m : Int) (hl : zs.length = n) (hn : n ≤ 100) (hb : b < w.heap.size) (hc : ∀ i, i < n → w.cell? ⟨b, o + i, none⟩ = some (.int .i64 (zs.getD i 0))) :
    Calls Try.prog 63 #[.slice (some ⟨b, o, none⟩) n c, .int .i64 m] w fun e w' => ∃ v, e = .returned v ∧ OwnI w' w.heap.size v (putV zs m) ∧ Below w.heap.size w w' := by
  obtain ⟨i0, hi, hz0, hz1, hz2⟩ := info_parts few_info
  have HL := Lib.hid hl
  have HC := Lib.hid hc
  clear hl hc
  go_enter Try.func63, Try.ntmps63
  go_wp2
  go_loopw [5, 6, 7] (fun u d i wr => ∃ (k : Nat) (dn : Bool) (os : List Int), k ≤ n ∧ i = .int .i64 k ∧ d = .bool dn ∧ os.length ≤ 2 * k ∧ OwnI wr w.heap.size u os ∧ os ++ putL m (zs.drop k) dn = putL m zs false ∧ Below w.heap.size w wr) (fun _ _ i _ => n - (intOf i).toNat)
  case atStart => exact ⟨0, false, [], Nat.zero_le _, rfl, rfl, Nat.le_refl _, few_empty w w.heap.size (Nat.le_refl _), rfl, (Below.refl _ _).alloc (Nat.le_refl _) _⟩
  case round =>
    obtain ⟨k, dn, os, hk, rfl, rfl, hos, hown, hput, hbl⟩ := hrel
    obtain ⟨x, cp, hu⟩ := hown.form
    obtain ⟨no, hno⟩ : ∃ no, no = os.length := ⟨_, rfl⟩
    have hno2 : no ≤ 200 := by omega
    rw [← hno] at hu
    subst hu
    have HN := Lib.hid hno
    have HP := Lib.hid hput
    have HB := Lib.hid hbl
    have hsz := hbl.size
    have ho : wr.ownsRow w.heap.size 3 1 (.slice x no cp) no (ints os) := by have h := hown; unfold OwnI at h; rw [← hno] at h; exact h
    have HO := Lib.hid ho
    clear hput hbl hown hno ho
    by_cases hlt : k < n
    · have h1 := HC.out k hlt
      rw [← HB.out.cell (p := ⟨b, o + k, none⟩) hb] at h1
      have hd := drop_cons (zs := zs) (k := k) (by rw [HL.out]; exact hlt)
      generalize zs.getD k 0 = y at h1 hd
      rw [hd] at HP
      clear hd
      have k0 : (0 : Int) ≤ (k : Int) := by omega
      have kn : (k : Int) < (n : Int) := by omega
      cases dn with
      | false =>
        by_cases hmy : m ≤ y
        · have hD : decide (m ≤ y) = true := decide_eq_true hmy
          by_cases hym : y = m
          · subst hym
            go_wp2_with (first | (at_builtin; refine wpList_append_own _ rfl _ _ 41 rfl w.heap.size 3 i0 (.int .i64 0) 1 8 Try.underlying41 hi hz0 hz1 hz2 rfl (by decide) _ _ _ rfl (HO.out.alloc _) ⟨wr.heap.size, 0, none⟩ 1 1 [.int .i64 y] rfl rfl (cell_one_new _ _ _) (by simp [Value.oneCell']) (by unfold maxLen; omega) (by omega) (by simp; omega) ?_; intro v1 w1 ho1 hg1 _; obtain ⟨g_v1, c_v1, rfl, _, _⟩ := World.ownsRow.form ho1 (Nat.succ_pos _); have c_w1 := cell_append h1 hb HO.out hg1))
            go_roundw
            case rel => exact ⟨k + 1, true, os ++ [y], by omega, by go_num, rfl, by simp; omega, own_snoc ho1 HN.out, by rw [← HP.out, put1, List.append_assoc], below_append HB.out HO.out hg1⟩
            case measure => simp [intOf]; omega
          · have hne : (y != m) = true := by simpa using hym
            have hne2 : decide (y = m) = false := decide_eq_false hym
            go_wp2_with (first | (at_builtin; refine wpList_append_own _ rfl _ _ 41 rfl w.heap.size 3 i0 (.int .i64 0) 1 8 Try.underlying41 hi hz0 hz1 hz2 rfl (by decide) _ _ _ rfl (HO.out.alloc _) ⟨wr.heap.size, 0, none⟩ 1 1 [.int .i64 m] rfl rfl (cell_one_new _ _ _) (by simp [Value.oneCell']) (by unfold maxLen; omega) (by omega) (by simp; omega) ?_; intro v1 w1 ho1 hg1 _; obtain ⟨g_v1, c_v1, rfl, _, _⟩ := World.ownsRow.form ho1 (Nat.succ_pos _); have c_w1 := cell_append h1 hb HO.out hg1) | (at_builtin; refine wpList_append_own _ rfl _ _ 41 rfl w.heap.size 3 i0 (.int .i64 0) 1 8 Try.underlying41 hi hz0 hz1 hz2 rfl (by decide) _ _ _ rfl (ho1.alloc _) ⟨w1.heap.size, 0, none⟩ 1 1 [.int .i64 y] rfl rfl (cell_one_new _ _ _) (by simp [Value.oneCell']) (by unfold maxLen; omega) (by omega) (by simp; omega) ?_; intro v2 w2 ho2 hg2 _; obtain ⟨g_v2, c_v2, rfl, _, _⟩ := World.ownsRow.form ho2 (Nat.succ_pos _)))
            go_roundw
            case rel =>
              have o1 := own_snoc ho1 HN.out
              have o2 := own_snoc (os := os ++ [m]) (by have h := ho2; rw [← ints_snoc] at h; exact h) (by simp; exact HN.out)
              have b1 := below_append HB.out HO.out hg1
              exact ⟨k + 1, true, os ++ [m] ++ [y], by omega, by go_num, rfl, by simp; omega, o2, by rw [← HP.out, put2 _ hmy hym]; simp, below_append b1 ho1 hg2⟩
            case measure => simp [intOf]; omega
        · have hD : decide (m ≤ y) = false := decide_eq_false hmy
          have hym : y ≠ m := by omega
          have hne : (y != m) = true := by simpa using hym
          have hne2 : decide (y = m) = false := decide_eq_false hym
          go_wp2_with (first | (at_builtin; refine wpList_append_own _ rfl _ _ 41 rfl w.heap.size 3 i0 (.int .i64 0) 1 8 Try.underlying41 hi hz0 hz1 hz2 rfl (by decide) _ _ _ rfl (HO.out.alloc _) ⟨wr.heap.size, 0, none⟩ 1 1 [.int .i64 y] rfl rfl (cell_one_new _ _ _) (by simp [Value.oneCell']) (by unfold maxLen; omega) (by omega) (by simp; omega) ?_; intro v1 w1 ho1 hg1 _; obtain ⟨g_v1, c_v1, rfl, _, _⟩ := World.ownsRow.form ho1 (Nat.succ_pos _); have c_w1 := cell_append h1 hb HO.out hg1))
          go_roundw
          case rel => exact ⟨k + 1, false, os ++ [y], by omega, by go_num, rfl, by simp; omega, own_snoc ho1 HN.out, by rw [← HP.out, put4 _ (.inr (by omega)) hym, List.append_assoc], below_append HB.out HO.out hg1⟩
          case measure => simp [intOf]; omega
      | true =>
        by_cases hym : y = m
        · subst hym
          go_wp2
          go_roundw
          case rel => exact ⟨k + 1, true, os, by omega, by go_num, rfl, by omega, by have h := HO.out; rw [HN.out] at h; rw [HN.out]; exact h, by rw [← HP.out, put3], HB.out⟩
          case measure => simp [intOf]; omega
        · have hne : (y != m) = true := by simpa using hym
          have hne2 : decide (y = m) = false := decide_eq_false hym
          go_wp2_with (first | (at_builtin; refine wpList_append_own _ rfl _ _ 41 rfl w.heap.size 3 i0 (.int .i64 0) 1 8 Try.underlying41 hi hz0 hz1 hz2 rfl (by decide) _ _ _ rfl (HO.out.alloc _) ⟨wr.heap.size, 0, none⟩ 1 1 [.int .i64 y] rfl rfl (cell_one_new _ _ _) (by simp [Value.oneCell']) (by unfold maxLen; omega) (by omega) (by simp; omega) ?_; intro v1 w1 ho1 hg1 _; obtain ⟨g_v1, c_v1, rfl, _, _⟩ := World.ownsRow.form ho1 (Nat.succ_pos _); have c_w1 := cell_append h1 hb HO.out hg1))
          go_roundw
          case rel => exact ⟨k + 1, true, os ++ [y], by omega, by go_num, rfl, by simp; omega, own_snoc ho1 HN.out, by rw [← HP.out, put4 _ (.inl rfl) hym, List.append_assoc], below_append HB.out HO.out hg1⟩
          case measure => simp [intOf]; omega
    · have hd0 : zs.drop k = [] := List.drop_of_length_le (by rw [HL.out]; omega)
      rw [hd0] at HP
      clear hd0
      cases dn with
      | false =>
        have hPV : putL m zs false = os ++ [m] := HP.out.symm
        have HPV := Lib.hid hPV
        clear hPV
        by_cases h6 : no + 1 ≤ 6
        · have h6' : (no : Int) + 1 ≤ 6 := by omega
          go_wp2_with (first | (at_builtin; refine wpList_append_own _ rfl _ _ 41 rfl w.heap.size 3 i0 (.int .i64 0) 1 8 Try.underlying41 hi hz0 hz1 hz2 rfl (by decide) _ _ _ rfl (HO.out.alloc _) ⟨wr.heap.size, 0, none⟩ 1 1 [.int .i64 m] rfl rfl (cell_one_new _ _ _) (by simp [Value.oneCell']) (by unfold maxLen; omega) (by omega) (by simp; omega) ?_; intro v1 w1 ho1 hg1 _; obtain ⟨g_v1, c_v1, rfl, _, _⟩ := World.ownsRow.form ho1 (Nat.succ_pos _); obtain ⟨cc1, cc2⟩ := own_cap ho1))
          go_ret
          refine ⟨_, rfl, ?_, below_append HB.out HO.out hg1⟩
          have o1 := own_snoc ho1 HN.out
          have e : putV zs m = os ++ [m] := by unfold putV; rw [HPV.out, List.take_of_length_le (by simp; rw [← HN.out]; omega)]
          rw [e]
          exact o1
        · have h6' : ¬ (no : Int) + 1 ≤ 6 := by omega
          go_wp2_with (first | (at_builtin; refine wpList_append_own _ rfl _ _ 41 rfl w.heap.size 3 i0 (.int .i64 0) 1 8 Try.underlying41 hi hz0 hz1 hz2 rfl (by decide) _ _ _ rfl (HO.out.alloc _) ⟨wr.heap.size, 0, none⟩ 1 1 [.int .i64 m] rfl rfl (cell_one_new _ _ _) (by simp [Value.oneCell']) (by unfold maxLen; omega) (by omega) (by simp; omega) ?_; intro v1 w1 ho1 hg1 _; obtain ⟨g_v1, c_v1, rfl, _, _⟩ := World.ownsRow.form ho1 (Nat.succ_pos _); obtain ⟨cc1, cc2⟩ := own_cap ho1))
          go_ret
          refine ⟨_, rfl, ?_, below_append HB.out HO.out hg1⟩
          have o1 := own_snoc ho1 HN.out
          have e : putV zs m = (os ++ [m]).take 6 := by unfold putV; rw [HPV.out]
          rw [e]
          exact o1.take 6 (by simp; rw [← HN.out]; omega)
      | true =>
        have hPV : putL m zs false = os := by rw [← HP.out]; unfold putL; simp
        have HPV := Lib.hid hPV
        clear hPV
        have hcc := own_cap HO.out
        obtain ⟨cc1, cc2⟩ := hcc
        have fin : ∀ k, k ≤ no → (k = no ∧ no ≤ 6 ∨ k = 6) → OwnI wr w.heap.size (.slice x k cp) (putV zs m) := fun k hk h => by
          have ho := HO.out
          have o1 : OwnI wr w.heap.size (.slice x no cp) os := by rw [HN.out] at ho; rw [HN.out]; exact ho
          have hn := HN.out
          have e : putV zs m = os.take k := by
            unfold putV
            rw [HPV.out]
            rcases h with ⟨h, h6⟩ | h
            · rw [List.take_of_length_le (by omega), List.take_of_length_le (by omega)]
            · rw [h]
          rw [e]
          exact o1.take k (by omega)
        have FIN := Lib.hid fin
        clear fin
        have hx : (x = none ∧ no = 0 ∧ cp = 0) ∨ ∃ g, x = some ⟨g, 0, none⟩ := by
          rcases HO.out.2 with ⟨e, h0⟩ | ⟨g, cap, cur, e, _⟩
          · exact .inl (by have := Value.slice.inj e; exact this)
          · exact .inr ⟨g, (Value.slice.inj e).1⟩
        rcases hx with ⟨rfl, rfl, rfl⟩ | ⟨g, rfl⟩
        · go_wp2
          go_ret
          exact ⟨_, rfl, FIN.out 0 (Nat.le_refl _) (.inl ⟨rfl, by omega⟩), HB.out⟩
        · have cc3 : (no : Int) ≤ (cp : Int) := by omega
          by_cases h6 : no ≤ 6
          · have h6' : (no : Int) ≤ 6 := by omega
            go_wp2
            go_ret
            exact ⟨_, rfl, FIN.out no (Nat.le_refl _) (.inl ⟨rfl, h6⟩), HB.out⟩
          · have h6' : ¬ (no : Int) ≤ 6 := by omega
            have c6 : (6 : Int) ≤ (cp : Int) := by omega
            go_wp2
            go_ret
            exact ⟨_, rfl, FIN.out 6 (by omega) (.inr rfl), HB.out⟩

theorem l2Put_none (w : World) (m : Int) : Calls Try.prog 63 #[.slice none 0 0, .int .i64 m] w fun e w' => ∃ v, e = .returned v ∧ OwnI w' w.heap.size v (putV [] m) ∧ Below w.heap.size w w' := by
  obtain ⟨i0, hi, hz0, hz1, hz2⟩ := info_parts few_info
  have HO := Lib.hid (few_empty w w.heap.size (Nat.le_refl _))
  have hbl := (Below.refl w.heap.size w).alloc (Nat.le_refl _) (.cells #[] 3)
  have HB := Lib.hid hbl
  clear hbl
  go_enter Try.func63, Try.ntmps63
  go_wp2
  refine wp_loop_rounds 1 ?_
  rw [rounds_succ]
  go_wp2_with (first | (at_builtin; refine wpList_append_own _ rfl _ _ 41 rfl w.heap.size 3 i0 (.int .i64 0) 1 8 Try.underlying41 hi hz0 hz1 hz2 rfl (by decide) _ _ _ rfl (HO.out.alloc _) ⟨w.heap.size + 1, 0, none⟩ 1 1 [.int .i64 m] rfl rfl (by have := cell_one_new (w.alloc (.cells #[] 3)) (.int .i64 m) 3; simpa using this) (by simp [Value.oneCell']) (by unfold maxLen; omega) (by omega) (by simp; omega) ?_; intro v1 w1 ho1 hg1 _; obtain ⟨g_v1, c_v1, rfl, _, _⟩ := World.ownsRow.form ho1 (Nat.succ_pos _); obtain ⟨cc1, cc2⟩ := own_cap ho1))
  go_ret
  refine ⟨_, rfl, ?_, below_append HB.out HO.out hg1⟩
  have o1 := own_snoc (os := []) ho1 rfl
  exact o1

/-- l2Put, at marks that are not too many. -/
theorem l2Put_at (w : World) (v : Value) (zs : List Int) (m : Int) (h : Ints w v zs) (hn : zs.length ≤ 100) :
    Calls Try.prog 63 #[v, .int .i64 m] w fun e w' => ∃ v, e = .returned v ∧ OwnI w' w.heap.size v (putV zs m) ∧ Below w.heap.size w w' := by
  rcases h with ⟨rfl, rfl⟩ | ⟨b, o, cap, rfl, _, _, hb, hc⟩
  · exact l2Put_none w m
  · exact l2Put_some w b o cap _ zs m rfl hn hb hc

end Go.Proofs.Yteopnbjiffncbab
