/-
  The knots of both, one behind the other: slices.Grow of nothing, slices.Concat of two.
-/
import Derived.Test.YtnpcgbjkahpcfaaKList
import Derived.Lib.AppendZerosOnto
import Derived.Lib.SliceRun
import Derived.Lib.Walk
import Derived.Laws.AppendOwnNone
namespace Go.Proofs.Ytnpcgbjkahpcfaa
open Go.RowKit Go.Sort

theorem row_form {w : World} {B : Nat} {e : TypeId} {size n : Nat} {v : Value} {xs : List Value} (h : w.ownsRow B e size v n xs) : ∃ x c, v = .slice x n c := by
  rcases h.2 with ⟨rfl, h0⟩ | ⟨g, cap, cur, rfl, _⟩
  · exact ⟨none, 0, by rw [h0]⟩
  · exact ⟨_, _, rfl⟩
theorem prs_one (ps : List Pr) : ∀ u ∈ prs ps, u.oneCell' = true := by
  induction ps with
  | nil => intro u hu; cases hu
  | cons p ps ih =>
    intro u hu
    rw [prs_cons] at hu
    simp only [List.mem_cons] at hu
    rcases hu with rfl | rfl | hu
    · rfl
    · rfl
    · exact ih u hu
theorem Prs.news {w : World} {b o n c : Nat} {ps : List Pr} (h : Prs w (.slice (some ⟨b, o, none⟩) n c) ps) : ∀ j u, (prs ps)[j]? = some u → w.cell? ((⟨b, o, none⟩ : Addr).add j) = some u := fun j u hu => by
  have hj : j < (prs ps).length := (List.getElem?_eq_some_iff.1 hu).1
  rw [prs_len] at hj
  obtain ⟨b', o', e, _, h1, h2⟩ := h.cells (j / 2) (by omega)
  cases e
  have hg := prs_get ps (j / 2) (by omega)
  rw [addr_plus]
  rcases (by omega : j % 2 = 0 ∨ j % 2 = 1) with h0 | h0
  · have e : j = j / 2 * 2 := by omega
    rw [e] at hu ⊢
    rw [hg.1] at hu
    rw [h1, ← hu]
  · have e : j = j / 2 * 2 + 1 := by omega
    rw [e] at hu ⊢
    rw [hg.2] at hu
    rw [← Nat.add_assoc, h2, ← hu]

set_option maxRecDepth 100000 in
set_option maxHeartbeats 2000000 in
theorem growNil_at (n : Nat) (w : World) (hn : n ≤ 300) : Calls Try.prog 63 #[.slice none 0 0, .int .i64 n] w fun e w' => ∃ v, e = .returned v ∧ OwnP w' w.heap.size v [] ∧ Below w.heap.size w w' := by
  obtain ⟨i0, hi, hz0, hz1, hz2⟩ := info_parts pair_info
  by_cases h0 : n = 0
  · subst h0
    go_enter Try.func63, Try.ntmps63
    go_wp2
    go_ret
    exact ⟨_, rfl, OwnP.nil _ _, Below.refl _ _⟩
  · have h1 : ¬ ((n : Int) < 0) := by omega
    have h4 : (0 : Int) < (n : Int) := by omega
    have hrz : ∀ ty, (Builtin.append_ #[27, 3 ] ty #[.slice none 0 0, .int .i64 (n : Int)]).run Try.prog w =
        .ok (.slice (some ⟨w.heap.size, 0, none⟩) n (grownCap w n 0 33)) (w.drew.alloc (.cells ((([] : List Value).toArray ++ Builtin.zeroCells (Value.agg #[.int .i64 0, .int .i64 0]).cells n) ++ Builtin.zeroCells (Value.agg #[.int .i64 0, .int .i64 0]).cells (grownCap w n 0 33 - n)) 33)) := fun ty => by
      have h := Lib.run_append_grow_zeros w 27 3 ty 33 i0 _ .i64 .i64 Try.underlying27 Try.underlying3 hi hz0 none 0 0 [] (run_firstCells_none w.drew i0.size 0 0 0) n (by omega) (by rw [hz1]; omega) (by omega) (by omega) (by rw [hz2]; omega)
        (by rw [Nat.zero_add]; exact growslice_fits (by omega) (by rw [hz2]; omega))
      rw [Nat.zero_add] at h
      exact h
    have hGn : n ≤ grownCap w n 0 33 := grownCap_ge w _ _ _
    have hG63 := grownCap_le_maxLen w n 0 33 (by unfold maxLen; omega)
    have hsz : ∀ G, n ≤ G → ((([] : List Value).toArray ++ Builtin.zeroCells (Value.agg #[.int .i64 0, .int .i64 0]).cells n) ++ Builtin.zeroCells (Value.agg #[.int .i64 0, .int .i64 0]).cells (G - n)).size = G * 2 := fun G hG => by
      simp only [Array.size_append, size_zeroCells, Value.cells]
      simp
      omega
    obtain ⟨G, hG⟩ : ∃ G, G = grownCap w n 0 33 := ⟨_, rfl⟩
    rw [← hG] at hrz hGn hG63
    obtain ⟨CS, hCS⟩ : ∃ CS, CS = ((([] : List Value).toArray ++ Builtin.zeroCells (Value.agg #[.int .i64 0, .int .i64 0]).cells n) ++ Builtin.zeroCells (Value.agg #[.int .i64 0, .int .i64 0]).cells (G - n)) := ⟨_, rfl⟩
    have hs := hsz G hGn
    rw [← hCS] at hrz hs
    have FIN : Hid (OwnP (w.drew.alloc (.cells CS 33)) w.heap.size (.slice (some ⟨w.heap.size, 0, none⟩) 0 G) [] ∧ Below w.heap.size w (w.drew.alloc (.cells CS 33))) :=
      ⟨World.ownsRow_made w.drew CS G (Nat.le_refl _) hG63 hs, (Below.drew (Below.refl _ _)).alloc (Nat.le_refl _) _⟩
    have hGi : (n : Int) ≤ (G : Int) := by omega
    have hG0 : (0 : Int) ≤ (G : Int) := by omega
    have hG64 : (G : Int) ≤ 9223372036854775807 := by unfold maxLen at hG63; omega
    clear hG hCS hsz hs
    go_enter Try.func63, Try.ntmps63
    go_wp2_with (at_builtin; refine Lib.wpList_append_run _ rfl _ _ _ _ rfl _ _ rfl rfl _ _ (hrz _) ?_)
    go_ret
    exact ⟨_, rfl, FIN.out.1, FIN.out.2⟩

set_option maxRecDepth 100000 in
set_option maxHeartbeats 8000000 in
theorem concat_at (w : World) (g na nb ca cb : Nat) (x y : Option Addr) (ps qs : List Pr) (ha : ps.length = na) (hb : qs.length = nb) (la : na ≤ 127) (lb : nb ≤ 127) (hp : Prs w (.slice x na ca) ps) (hq : Prs w (.slice y nb cb) qs)
    (c0 : w.cell? ⟨g, 0, none⟩ = some (.slice x na ca)) (c1 : w.cell? ⟨g, 1, none⟩ = some (.slice y nb cb)) :
    Calls Try.prog 54 #[.slice (some ⟨g, 0, none⟩) 2 2] w fun e w' => ∃ v, e = .returned v ∧ OwnP w' w.heap.size v (ps ++ qs) ∧ Below w.heap.size w w' := by
  obtain ⟨i0, hi, hz0, hz1, hz2⟩ := info_parts pair_info
  have HA := Lib.hid ha
  have HB := Lib.hid hb
  have HP := Lib.hid hp
  have HQ := Lib.hid hq
  have C0 := Lib.hid c0
  have C1 := Lib.hid c1
  have n0 : ¬ (na : Int) < 0 := by omega
  have n1 : ¬ (na : Int) + (nb : Int) < 0 := by omega
  have KG : Hid (Calls Try.prog 63 #[.slice none 0 0, .int .i64 ((na : Int) + (nb : Int))] w fun e w' => ∃ v, e = .returned v ∧ OwnP w' w.heap.size v [] ∧ Below w.heap.size w w') := by
    have h := growNil_at (na + nb) w (by omega)
    rw [Int.natCast_add] at h
    exact h
  have NP : Hid (x = none → ps = [] ∧ na = 0 ∧ ca = 0) := fun e => by
    subst e
    rcases HP.out with ⟨e, h0⟩ | ⟨b, o, c, e, _⟩
    · injection e with e1 e2 e3; exact ⟨h0, e2, e3⟩
    · cases e
  have NQ : Hid (y = none → qs = [] ∧ nb = 0 ∧ cb = 0) := fun e => by
    subst e
    rcases HQ.out with ⟨e, h0⟩ | ⟨b, o, c, e, _⟩
    · injection e with e1 e2 e3; exact ⟨h0, e2, e3⟩
    · cases e
  have SX : Hid (∀ a, x = some a → ∃ b o, a = ⟨b, o, none⟩) := fun a e => by
    rcases HP.out with ⟨e', _⟩ | ⟨b, o, c, e', _⟩
    · rw [e] at e'; cases e'
    · rw [e] at e'; injection e' with e1; exact ⟨b, o, Option.some.inj e1⟩
  have SY : Hid (∀ a, y = some a → ∃ b o, a = ⟨b, o, none⟩) := fun a e => by
    rcases HQ.out with ⟨e', _⟩ | ⟨b, o, c, e', _⟩
    · rw [e] at e'; cases e'
    · rw [e] at e'; injection e' with e1; exact ⟨b, o, Option.some.inj e1⟩
  clear ha hb hp hq
  go_enter Try.func54, Try.ntmps54
  go_wp2
  refine wp_loop_rounds 3 ?_
  rw [rounds_succ]
  go_wp2
  rw [rounds_succ]
  go_wp2
  rw [rounds_succ]
  go_wp2_with fail
  refine KG.out.mono ?_
  rintro e w1 ⟨v, rfl, ho1, hb1⟩
  obtain ⟨z, cz, rfl, _, _⟩ := ho1.form
  have d0 := cell_later hb1 C0.out
  have d1 := cell_later hb1 C1.out
  have P1 := Lib.hid (HP.out.below hb1 (Nat.le_refl _))
  have Q1 := Lib.hid (HQ.out.below hb1 (Nat.le_refl _))
  have O1 : Hid (w1.ownsRow w.heap.size 33 2 (.slice z 0 cz) 0 []) := ho1
  have B1 := Lib.hid hb1
  have s1 := hb1.size
  have D1 := Lib.hid d1
  have gl : g < w.heap.size := World.block_lt_of_cell? _ _ C1.out
  clear ho1 hb1 c0 c1 KG
  simp only [List.length_nil]
  go_wp2
  refine wp_loop_rounds 3 ?_
  rw [rounds_succ]
  -- the first
  rcases hx : x with _ | ⟨bx, ox, sx⟩
  · subst hx
    obtain ⟨rfl, rfl, rfl⟩ := NP.out rfl
    rcases hy : y with _ | ⟨by', oy, sy⟩
    · subst hy
      obtain ⟨rfl, rfl, rfl⟩ := NQ.out rfl
      go_wp2_with (first | (at_builtin; refine wpList_append_own_none rfl _ _ 27 rfl w.heap.size 33 i0 2 Try.underlying27 hi (.slice z 0 cz) 0 [] rfl O1.out rfl ?_; have tok1 : True := trivial))
      rw [rounds_succ]
      go_wp2_with (first | (at_builtin; refine wpList_append_own_none rfl _ _ 27 rfl w.heap.size 33 i0 2 Try.underlying27 hi (.slice z 0 cz) 0 [] rfl O1.out rfl ?_; have tok2 : True := trivial))
      rw [rounds_succ]
      go_wp2
      go_ret
      exact ⟨_, rfl, O1.out, B1.out⟩
    · obtain ⟨by2, oy2, ey⟩ := SY.out _ hy
      obtain ⟨rfl, rfl, rfl⟩ : by' = by2 ∧ oy = oy2 ∧ sy = none := by injection ey with e1 e2 e3; exact ⟨e1, e2, e3⟩
      subst hy
      clear ey
      go_wp2_with (first | (at_builtin; refine wpList_append_own_none rfl _ _ 27 rfl w.heap.size 33 i0 2 Try.underlying27 hi (.slice z 0 cz) 0 [] rfl O1.out rfl ?_; have tok1 : True := trivial))
      rw [rounds_succ]
      go_wp2_with (first | (at_builtin; refine wpList_append_own _ rfl _ _ 27 rfl w.heap.size 33 i0 (.agg #[.int .i64 0, .int .i64 0]) 2 16 Try.underlying27 hi hz0 hz1 hz2 rfl (by decide) (.slice z 0 cz) 0 [] rfl O1.out ⟨by', oy, none⟩ nb cb (prs qs) rfl (by rw [prs_len, HB.out]) (Q1.out.news) (prs_one _) (by unfold maxLen; omega) (by omega) (by omega) ?_; intro v3 w3 ho3 hg3 _; have O3 := Lib.hid ho3; obtain ⟨z3, cz3, rfl⟩ := row_form ho3; have B3 := Lib.hid (B1.out.grown hg3 B1.out.size (fun k e => (O1.out.lt k e).1))))
      rw [rounds_succ]
      go_wp2
      go_ret
      refine ⟨_, rfl, ?_, B3.out⟩
      unfold OwnP
      have h := O3.out
      rw [← HB.out] at h ⊢
      simpa using h
  · obtain ⟨bx', ox', ex⟩ := SX.out _ hx
    obtain ⟨rfl, rfl, rfl⟩ : bx = bx' ∧ ox = ox' ∧ sx = none := by injection ex with e1 e2 e3; exact ⟨e1, e2, e3⟩
    subst hx
    clear ex
    rcases hy : y with _ | ⟨by', oy, sy⟩
    · subst hy
      obtain ⟨rfl, rfl, rfl⟩ := NQ.out rfl
      go_wp2_with (first | (at_builtin; refine wpList_append_own _ rfl _ _ 27 rfl w.heap.size 33 i0 (.agg #[.int .i64 0, .int .i64 0]) 2 16 Try.underlying27 hi hz0 hz1 hz2 rfl (by decide) (.slice z 0 cz) 0 [] rfl O1.out ⟨bx, ox, none⟩ na ca (prs ps) rfl (by rw [prs_len, HA.out]) (P1.out.news) (prs_one _) (by unfold maxLen; omega) (by omega) (by omega) ?_; intro v2 w2 ho2 hg2 _; simp only [Nat.zero_add, List.nil_append] at ho2; obtain ⟨z2, cz2, rfl⟩ := row_form ho2; have O2 := Lib.hid ho2; have B2 := Lib.hid (B1.out.grown hg2 B1.out.size (fun k e => (O1.out.lt k e).1)); have d2 := hg2.cell D1.out (fun e => by have := (O1.out.lt _ e.symm).1; simp only at this; omega); have s2 := hg2.size; have Q2 := Lib.hid (HQ.out.below B2.out (Nat.le_refl _))))
      rw [rounds_succ]
      go_wp2_with (first | (at_builtin; refine wpList_append_own_none rfl _ _ 27 rfl w.heap.size 33 i0 2 Try.underlying27 hi (.slice z2 na cz2) na (prs ps) rfl O2.out rfl ?_; have tok2 : True := trivial))
      rw [rounds_succ]
      go_wp2
      go_ret
      exact ⟨_, rfl, by rw [List.append_nil]; have h := O2.out; rw [← HA.out] at h ⊢; exact h, B2.out⟩
    · obtain ⟨by2, oy2, ey⟩ := SY.out _ hy
      obtain ⟨rfl, rfl, rfl⟩ : by' = by2 ∧ oy = oy2 ∧ sy = none := by injection ey with e1 e2 e3; exact ⟨e1, e2, e3⟩
      subst hy
      clear ey
      go_wp2_with (first | (at_builtin; refine wpList_append_own _ rfl _ _ 27 rfl w.heap.size 33 i0 (.agg #[.int .i64 0, .int .i64 0]) 2 16 Try.underlying27 hi hz0 hz1 hz2 rfl (by decide) (.slice z 0 cz) 0 [] rfl O1.out ⟨bx, ox, none⟩ na ca (prs ps) rfl (by rw [prs_len, HA.out]) (P1.out.news) (prs_one _) (by unfold maxLen; omega) (by omega) (by omega) ?_; intro v2 w2 ho2 hg2 _; simp only [Nat.zero_add, List.nil_append] at ho2; obtain ⟨z2, cz2, rfl⟩ := row_form ho2; have O2 := Lib.hid ho2; have B2 := Lib.hid (B1.out.grown hg2 B1.out.size (fun k e => (O1.out.lt k e).1)); have d2 := hg2.cell D1.out (fun e => by have := (O1.out.lt _ e.symm).1; simp only at this; omega); have s2 := hg2.size; have Q2 := Lib.hid (HQ.out.below B2.out (Nat.le_refl _))))
      rw [rounds_succ]
      go_wp2_with (first | (at_builtin; refine wpList_append_own _ rfl _ _ 27 rfl w.heap.size 33 i0 (.agg #[.int .i64 0, .int .i64 0]) 2 16 Try.underlying27 hi hz0 hz1 hz2 rfl (by decide) (.slice z2 na cz2) na (prs ps) rfl O2.out ⟨by', oy, none⟩ nb cb (prs qs) rfl (by rw [prs_len, HB.out]) (Q2.out.news) (prs_one _) (by unfold maxLen; omega) (by omega) (by omega) ?_; intro v3 w3 ho3 hg3 _; have O3 := Lib.hid ho3; obtain ⟨z3, cz3, rfl⟩ := row_form ho3; have B3 := Lib.hid (B2.out.grown hg3 B2.out.size (fun k e => (O2.out.lt k e).1))))
      rw [rounds_succ]
      go_wp2
      go_ret
      refine ⟨_, rfl, ?_, B3.out⟩
      unfold OwnP
      have h := O3.out
      rw [← HA.out, ← HB.out] at h ⊢
      rw [prs_append, List.length_append]
      exact h

end Go.Proofs.Ytnpcgbjkahpcfaa
