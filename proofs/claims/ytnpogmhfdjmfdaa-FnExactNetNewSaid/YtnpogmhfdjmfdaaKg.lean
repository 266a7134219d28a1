/-
  Several texts in one: KArg, KConv, KEq, KMark, KExPair.
-/
import Derived.Test.YtnpogmhfdjmfdaaKa
import Derived.Lib.SmallJoins
import Derived.Deep.Slices
import Derived.Deep.Fields
import Derived.ChangeSame
import Derived.Deep.Matrix
import Derived.Carry
import Derived.BigQuiet
import Derived.Deep.OwnRows
import Derived.Deep.RegionWith
set_option linter.unusedVariables false
/-
  How many are up to things, as it comes in: a struct of a slice of knots and a number. And its size.
-/
namespace Go.Proofs.Ytnpogmhfdjmfdaa.K
open Go.RowKit Go.ChangeShapes Go.WideShapes Go.ChangeAt Go.Deep Go.Joins

/-- The value v is a slice of pairs that came in, and reads as the pairs ps. -/
def ArgP (w : World) (v : Value) (ps : List Pr) : Prop :=
  (ps = [] ∧ ∃ x c, v = .slice x 0 c) ∨
  ∃ b o c, v = .slice (some ⟨b, o, none⟩) ps.length c ∧ 0 < ps.length ∧ ps.length ≤ maxLen ∧ b < w.heap.size ∧
    ∀ i, i < ps.length → w.cell? ⟨b, o + i * 2, none⟩ = some (.int .i64 (pr ps i).1) ∧ w.cell? ⟨b, o + i * 2 + 1, none⟩ = some (.int .i64 (pr ps i).2)
theorem ArgP.below {w w' : World} {v : Value} {ps : List Pr} (h : ArgP w v ps) {B : Nat} (hb : Below B w w') (hB : w.heap.size ≤ B) : ArgP w' v ps := by
  rcases h with h | ⟨b, o, c, e, h0, h1, h2, h3⟩
  · exact .inl h
  · exact .inr ⟨b, o, c, e, h0, h1, Nat.lt_of_lt_of_le h2 hb.size, fun i hi => by
      rw [hb.cell (p := ⟨b, o + i * 2, none⟩) (by show b < B; omega), hb.cell (p := ⟨b, o + i * 2 + 1, none⟩) (by show b < B; omega)]; exact h3 i hi⟩
theorem ArgP.form {w : World} {v : Value} {ps : List Pr} (h : ArgP w v ps) : ∃ x c, v = .slice x ps.length c := by
  rcases h with ⟨rfl, x, c, e⟩ | ⟨b, o, c, e, _⟩
  · exact ⟨x, c, e⟩
  · exact ⟨_, c, e⟩
theorem ArgP.len {w : World} {v : Value} {ps : List Pr} (h : ArgP w v ps) : ps.length ≤ maxLen := by
  rcases h with ⟨rfl, _⟩ | ⟨b, o, c, e, h0, h1, _⟩
  · exact Nat.zero_le _
  · exact h1
theorem ArgP.cells {w : World} {x : Option Addr} {n c : Nat} {ps : List Pr} (h : ArgP w (.slice x n c) ps) : ∀ i, i < ps.length → ∃ b o, x = some ⟨b, o, none⟩ ∧ b < w.heap.size ∧ w.cell? ⟨b, o + i * 2, none⟩ = some (.int .i64 (pr ps i).1) ∧ w.cell? ⟨b, o + i * 2 + 1, none⟩ = some (.int .i64 (pr ps i).2) := fun i hi => by
  rcases h with ⟨rfl, _⟩ | ⟨b, o, c, e, h0, h1, h2, h3⟩
  · cases hi
  · exact ⟨b, o, (Value.slice.inj e).1, h2, h3 i hi⟩

/-- What is left of a bound when n is taken; -1 if it is passed. -/
def szV (left : Int) (n : Nat) : Int := if left < n then -1 else left - n
theorem szV_in {left : Int} {n : Nat} (h : (n : Int) ≤ left) : szV left n = left - n := if_neg (by omega)
theorem szV_out {left : Int} {n : Nat} (h : left < n) : szV left n = -1 := if_pos h


end Go.Proofs.Ytnpogmhfdjmfdaa.K

/-
  What came in, turned; and that two which read the same are told so.
-/
namespace Go.Proofs.Ytnpogmhfdjmfdaa.K
open Go.RowKit Go.Sort

theorem prs_zero (n : Nat) : prs (List.replicate n (0, 0)) = List.replicate (n * 2) (.int .i64 0) := by
  induction n with
  | zero => rfl
  | succ n ih => rw [List.replicate_succ, prs_cons, ih, show (n + 1) * 2 = n * 2 + 1 + 1 by omega, List.replicate_succ, List.replicate_succ]
theorem made_pairs (n : Nat) : (madeCells #[.int .i64 0, .int .i64 0] (n * 2)).toList = prs (List.replicate n (0, 0)) := by
  rw [prs_zero]
  apply List.ext_getElem?
  intro j
  by_cases hj : j < n * 2
  · have h2 : j % 2 = 0 ∨ j % 2 = 1 := by omega
    rcases h2 with h | h <;> simp [madeCells, hj, h]
  · simp [madeCells, hj]
theorem pair_make (n : Nat) (hn : n ≤ 1048576) : ∀ w, (Instr.makeSlice 69 (.int .i64 (n : Int)) (.int .i64 (n : Int))).run Try.prog w = .ok (.slice (some ⟨w.heap.size, 0, none⟩) n n) (w.alloc (.cells (madeCells #[.int .i64 0, .int .i64 0] (n * 2)) 96)) := fun w => by
  obtain ⟨i0, hi, hz0, hz1, hz2⟩ := info_parts pair_info
  have h := run_make (P := Try.prog) w 69 96 i0 (.agg #[.int .i64 0, .int .i64 0]) Try.underlying69 hi hz0 .i64 .i64 n n (by omega) (Int.le_refl _) (by rw [hz2]; omega) (by omega)
  simp only [Int.toNat_natCast, hz1] at h
  exact h
theorem prs_set2 (ps : List Pr) (k : Nat) (t z : Int) (h : k < ps.length) : ((prs ps).set (k * 2) (.int .i64 t)).set (k * 2 + 1) (.int .i64 z) = prs (ps.set k (t, z)) := by
  induction ps generalizing k with
  | nil => cases h
  | cons p ps ih =>
    cases k with
    | zero => rfl
    | succ k =>
      have := ih k (by simpa using h)
      rw [List.set_cons_succ, prs_cons, prs_cons, ← this, show (k + 1) * 2 = k * 2 + 1 + 1 by omega]
      simp



end Go.Proofs.Ytnpogmhfdjmfdaa.K

/-
  Two that read the same: the exact laws' comparisons say so.
-/
namespace Go.Proofs.Ytnpogmhfdjmfdaa.K
open Go.RowKit Go.Sort

set_option maxHeartbeats 1000000 in
theorem eqKnot_same (w : World) (t z : Int) : Calls Try.prog 59 #[.agg #[.int .i64 t, .int .i64 z], .agg #[.int .i64 t, .int .i64 z]] w fun e w' => e = .returned (.bool true) ∧ Below w.heap.size w w' := by
  have e1 : (t != t) = false := by simp
  have e2 : (z != z) = false := by simp
  have e3 : decide (t = t) = true := by simp
  have e4 : decide (z = z) = true := by simp
  go_enter Try.func59, Try.ntmps59
  go_wp2
  go_ret
  exact ⟨rfl, ((Below.refl _ _).alloc (Nat.le_refl _) _).alloc (by simp) _⟩

set_option maxHeartbeats 4000000 in
theorem eqKnotS_in (w : World) (x : Option Addr) (c : Nat) (y : Option Addr) (d n : Nat) (ps : List Pr) (hl : ps.length = n) (hp : Prs w (.slice x n c) ps) (hq : Prs w (.slice y n d) ps) (hn : n ≤ 1048576) :
    Calls Try.prog 57 #[.slice x n c, .slice y n d] w fun e w' => e = .returned (.bool true) ∧ Below w.heap.size w w' := by
  have PC := Lib.hid hp.cells
  have QC := Lib.hid hq.cells
  have HL := Lib.hid hl
  have e3 : ((n : Int) != (n : Int)) = false := by simp
  have e6 : decide ((n : Int) = (n : Int)) = true := by simp
  clear hp hq hl
  go_enter Try.func57, Try.ntmps57
  go_wp2
  go_loopw [5] (fun i wr => ∃ k : Nat, k ≤ n ∧ i = .int .i64 k ∧ Below w.heap.size w wr) (fun i _ => n - (intOf i).toNat)
  case atStart => exact ⟨0, Nat.zero_le _, rfl, Below.refl _ _⟩
  case round =>
    obtain ⟨k, hk, rfl, hb0⟩ := hrel
    have BB := Lib.hid hb0
    clear hb0
    by_cases hlt : k < n
    · obtain ⟨b, o, rfl, hb, h1, h2⟩ := PC.out k (by rw [HL.out]; exact hlt)
      obtain ⟨b', o', rfl, hb', h3, h4⟩ := QC.out k (by rw [HL.out]; exact hlt)
      rw [← BB.out.cell (p := ⟨b, o + k * 2, none⟩) hb] at h1
      rw [← BB.out.cell (p := ⟨b, o + k * 2 + 1, none⟩) hb] at h2
      rw [← BB.out.cell (p := ⟨b', o' + k * 2, none⟩) hb'] at h3
      rw [← BB.out.cell (p := ⟨b', o' + k * 2 + 1, none⟩) hb'] at h4
      generalize pr ps k = q at h1 h2 h3 h4
      obtain ⟨t, z⟩ := q
      have k0 : (0 : Int) ≤ (k : Int) := by omega
      have k1 : (k : Int) < (n : Int) := by omega
      have KE := Lib.hid (fun W => eqKnot_same W t z)
      go_wp2
      go_region_with (first
        | (go_at_call 59; refine (KE.out _).mono ?_; rintro e w1 ⟨rfl, hb1⟩))
      all_goals
        have B1 := Lib.hid ((BB.out.trans (Below.drew (Below.refl _ _))).trans (hb1.mono BB.out.size))
        clear hb1
        go_wp2
        go_roundw
        case rel => exact ⟨k + 1, by omega, by go_num, B1.out⟩
        case measure => simp [intOf]; omega
    · obtain rfl : k = n := by omega
      go_wp2
      go_ret
      exact ⟨by first | rfl | simp, BB.out⟩
theorem eqKnotS_same (w : World) (u v : Value) (ps : List Pr) (hp : Prs w u ps) (hq : Prs w v ps) (hn : ps.length ≤ 1048576) :
    Calls Try.prog 57 #[u, v] w fun e w' => e = .returned (.bool true) ∧ Below w.heap.size w w' := by
  obtain ⟨x, c, rfl, _, _⟩ := hp.form
  obtain ⟨y, d, rfl, _, _⟩ := hq.form
  exact eqKnotS_in w x c y d _ ps rfl hp hq hn

set_option maxHeartbeats 2000000 in
theorem eqRank_same (w : World) (u v : Value) (ps : List Pr) (all : Int) (hp : Prs w u ps) (hq : Prs w v ps) (hn : ps.length ≤ 1048576) :
    Calls Try.prog 55 #[.agg #[u, .int .i64 all], .agg #[v, .int .i64 all]] w fun e w' => e = .returned (.bool true) ∧ Below w.heap.size w w' := by
  obtain ⟨W, hW⟩ : ∃ W, W = (w.alloc (.cells #[u, .int .i64 all] 71)).alloc (.cells #[v, .int .i64 all] 71) := ⟨_, rfl⟩
  have B0 : Below w.heap.size w W := by rw [hW]; exact ((Below.refl _ _).alloc (Nat.le_refl _) _).alloc (by simp) _
  have X : Box2 W w.heap.size 71 u (.int .i64 all) := by rw [hW]; exact (Box2.new w _ _ _).alloc _
  have Y : Box2 W (w.heap.size + 1) 71 v (.int .i64 all) := by rw [hW]; have := Box2.new (w.alloc (.cells #[u, .int .i64 all] 71)) 71 v (.int .i64 all); rwa [World.size_alloc] at this
  have K := Lib.hid (eqKnotS_same W u v ps (hp.below B0 (Nat.le_refl _)) (hq.below B0 (Nat.le_refl _)) hn)
  obtain ⟨x, c, rfl, _, _⟩ := hp.form
  obtain ⟨y, d, rfl, _, _⟩ := hq.form
  obtain ⟨n, hn'⟩ : ∃ n, n = ps.length := ⟨_, rfl⟩
  rw [← hn'] at K X Y hW ⊢
  have BB := Lib.hid B0
  have e2 : (all != all) = false := by simp
  have e5 : decide (all = all) = true := by simp
  clear hp hq hn' B0
  go_enter Try.func55, Try.ntmps55
  go_wp2_with fail
  rw [← hW]
  clear hW
  refine K.out.mono ?_
  rintro e w1 ⟨rfl, hb1⟩
  have X1 := X.later hb1
  have Y1 := Y.later hb1
  have x1 := X1.cell1
  have y1 := Y1.cell1
  go_wp2
  go_ret
  exact ⟨by first | rfl | simp, BB.out.trans (hb1.mono BB.out.size)⟩

end Go.Proofs.Ytnpogmhfdjmfdaa.K

/-
  The exact laws' marks in pairs: numbers written into every cell that an answer owns, and looked for again.
-/
namespace Go.Proofs.Ytnpogmhfdjmfdaa.K
open Go.RowKit Go.Sort

def mkP (k : Int) (n : Nat) : List Pr := (List.range n).map fun (i : Nat) => (k + 2 * (i : Int), k + 2 * (i : Int) + 1)
theorem mkP_len (k : Int) (n : Nat) : (mkP k n).length = n := by simp [mkP]
theorem mkP_get (k : Int) (n i : Nat) (h : i < n) : pr (mkP k n) i = (k + 2 * (i : Int), k + 2 * (i : Int) + 1) := by simp [pr, mkP, h]
theorem mark_setP (k : Int) (ps : List Pr) (j : Nat) (hj : j < ps.length) :
    (mkP k j ++ ps.drop j).set j (k + 2 * (j : Int), k + 2 * (j : Int) + 1) = mkP k (j + 1) ++ ps.drop (j + 1) := by
  apply List.ext_getElem?
  intro i
  simp only [List.getElem?_set, List.length_append, mkP_len, List.length_drop]
  rcases Nat.lt_trichotomy i j with h | h | h
  · rw [if_neg (by omega), List.getElem?_append_left (by rw [mkP_len]; exact h), List.getElem?_append_left (by rw [mkP_len]; omega)]
    simp [mkP, h, show i < j + 1 by omega]
  · subst h
    rw [if_pos rfl, if_pos (by omega), List.getElem?_append_left (by rw [mkP_len]; omega)]
    simp [mkP]
  · rw [if_neg (by omega), List.getElem?_append_right (by rw [mkP_len]; omega), List.getElem?_append_right (by rw [mkP_len]; omega), mkP_len, mkP_len]
    simp only [List.getElem?_drop]
    rw [show j + (i - j) = i by omega, show j + 1 + (i - (j + 1)) = i by omega]

theorem markKnotS_nil (w : World) (k : Int) : Calls Try.prog 46 #[.slice none 0 0, .int .i64 k] w fun e w' => e = .returned (.int .i64 k) ∧ w = w' := by
  go_enter Try.func46, Try.ntmps46
  go_wp2
  refine wp_loop_rounds 1 ?_
  rw [rounds_succ]
  go_wp2
  go_ret
  exact ⟨rfl, rfl⟩

set_option maxHeartbeats 2000000 in
theorem markKnotS_in (w : World) (B g c n : Nat) (ps : List Pr) (k : Int) (hl : ps.length = n) (hn : n ≤ 1048576) (hk : 0 ≤ k) (hk' : k ≤ 1000000000000)
    (h : w.ownsRow B 96 2 (.slice (some ⟨g, 0, none⟩) n c) n (prs ps)) :
    Calls Try.prog 46 #[.slice (some ⟨g, 0, none⟩) n c, .int .i64 k] w fun e w' =>
      e = .returned (.int .i64 (k + 2 * (n : Int))) ∧ w'.ownsRow B 96 2 (.slice (some ⟨g, 0, none⟩) n c) n (prs (mkP k n)) ∧ w.grownBy w' (some g) := by
  have HL := Lib.hid hl
  have H := Lib.hid h
  clear hl h
  go_enter Try.func46, Try.ntmps46
  go_wp2
  go_loopw [1, 5] (fun q i wr => ∃ j : Nat, j ≤ n ∧ i = .int .i64 j ∧ q = .int .i64 (k + 2 * (j : Int)) ∧ wr.ownsRow B 96 2 (.slice (some ⟨g, 0, none⟩) n c) n (prs (mkP k j ++ ps.drop j)) ∧ w.grownBy wr (some g)) (fun _ i _ => n - (intOf i).toNat)
  case atStart => exact ⟨0, Nat.zero_le _, rfl, by go_num, by simpa [mkP] using H.out, grownBy_refl _ _⟩
  case round =>
    obtain ⟨j, hj, rfl, rfl, hown, hg⟩ := hrel
    have HO := Lib.hid hown
    have HG := Lib.hid hg
    clear hown hg
    by_cases hlt : j < n
    · have hl2 : (prs (mkP k j ++ ps.drop j)).length = n * 2 := by rw [prs_len]; simp [mkP_len, HL.out]; omega
      obtain ⟨x0, hc0⟩ : ∃ x, wr.cell? ⟨g, j * 2, none⟩ = some x := by
        rw [HO.out.cellAt (j * 2) (by omega)]
        exact ⟨_, List.getElem?_eq_getElem (by omega)⟩
      obtain ⟨x1, hc1⟩ : ∃ x, wr.cell? ⟨g, j * 2 + 1, none⟩ = some x := by
        rw [HO.out.cellAt (j * 2 + 1) (by omega)]
        exact ⟨_, List.getElem?_eq_getElem (by omega)⟩
      have hf0 := HO.out.frozenAt (j * 2)
      have hf1 := HO.out.frozenAt (j * 2 + 1)
      have s1 := HO.out.stored (j * 2) (.int .i64 (k + 2 * (j : Int)))
      have s2 := s1.1.stored (j * 2 + 1) (.int .i64 (k + 2 * (j : Int) + 1))
      rw [prs_set2 _ j _ _ (by simp [mkP_len, HL.out]; omega), mark_setP k ps j (by rw [HL.out]; exact hlt)] at s2
      have G := Lib.hid (grownBy_trans HG.out (grownBy_trans s1.2 s2.2))
      have HS := Lib.hid s2.1
      have j0 : (0 : Int) ≤ (j : Int) := by omega
      have jn : (j : Int) < (n : Int) := by omega
      clear s1 s2 hl2
      go_wp2
      go_roundw
      case rel => exact ⟨j + 1, by omega, by go_num, by rw [show ((j + 1 : Nat) : Int) = (j : Int) + 1 by omega]; congr 1; omega, HS.out, G.out⟩
      case measure => simp [intOf]; omega
    · obtain rfl : j = n := by omega
      go_wp2
      go_ret
      have h0 : ps.drop j = [] := List.drop_of_length_le (by rw [HL.out]; exact Nat.le_refl _)
      have ho := HO.out
      rw [h0, List.append_nil] at ho
      exact ⟨rfl, ho, HG.out⟩

theorem markKnotS_own (w : World) (B : Nat) (v : Value) (ps : List Pr) (k : Int) (h : OwnP w B v ps) (hn : ps.length ≤ 1048576) (hk : 0 ≤ k) (hk' : k ≤ 1000000000000) :
    Calls Try.prog 46 #[v, .int .i64 k] w fun e w' => e = .returned (.int .i64 (k + 2 * (ps.length : Int))) ∧ OwnP w' B v (mkP k ps.length) ∧ w.grownBy w' v.ownBlock := by
  by_cases h0 : v = .slice none 0 0
  · subst h0
    have hz : ps = [] := by
      rcases h.2 with ⟨_, e⟩ | ⟨g, cap, cur, e, _⟩
      · exact List.eq_nil_of_length_eq_zero e
      · cases e
    subst hz
    exact (markKnotS_nil w k).mono fun e w' ⟨he, hw⟩ => ⟨by rw [he]; simp, by subst hw; exact OwnP.nil _ _, by subst hw; exact grownBy_refl _ _⟩
  · rcases h.2 with ⟨e, _⟩ | ⟨g, cap, cur, e, hb, hh, hc, hm, hs, ht⟩
    · exact absurd e h0
    · subst e
      refine (markKnotS_in w B g cap ps.length ps k rfl hn hk hk' h).mono fun e w' ⟨he, ho, hg⟩ => ⟨he, ?_, hg⟩
      unfold OwnP
      rw [mkP_len]
      exact ho

set_option maxHeartbeats 2000000 in
theorem heldKnotS_in (w : World) (x : Option Addr) (c n : Nat) (k : Int) (hn : n ≤ 1048576) (hk : 0 ≤ k) (hk' : k ≤ 1000000000000) (hp : Prs w (.slice x n c) (mkP k n)) :
    Calls Try.prog 49 #[.slice x n c, .int .i64 k] w fun e w' => e = .returned (.int .i64 (k + 2 * (n : Int))) ∧ w = w' := by
  have PC := Lib.hid hp.cells
  clear hp
  go_enter Try.func49, Try.ntmps49
  go_wp2
  go_loopw [1, 5] (fun q i wr => ∃ j : Nat, j ≤ n ∧ i = .int .i64 j ∧ q = .int .i64 (k + 2 * (j : Int)) ∧ wr = w) (fun _ i _ => n - (intOf i).toNat)
  case atStart => exact ⟨0, Nat.zero_le _, rfl, by go_num, rfl⟩
  case round =>
    obtain ⟨j, hj, rfl, rfl, rfl⟩ := hrel
    by_cases hlt : j < n
    · obtain ⟨b, o, rfl, hb, h1, h2⟩ := PC.out j (by rw [mkP_len]; exact hlt)
      rw [mkP_get k n j hlt] at h1 h2
      simp only at h1 h2
      have j0 : (0 : Int) ≤ (j : Int) := by omega
      have jn : (j : Int) < (n : Int) := by omega
      have e1 : (k + 2 * (j : Int) != k + 2 * (j : Int)) = false := by simp
      have e2 : (k + 2 * (j : Int) + 1 != k + 2 * (j : Int) + 1) = false := by simp
      go_wp2
      go_roundw
      case rel => exact ⟨j + 1, by omega, by go_num, by rw [show ((j + 1 : Nat) : Int) = (j : Int) + 1 by omega]; congr 1; omega, by first | rfl | trivial⟩
      case measure => simp [intOf]; omega
    · obtain rfl : j = n := by omega
      go_wp2
      go_ret
      exact ⟨rfl, rfl⟩

end Go.Proofs.Ytnpogmhfdjmfdaa.K

/-
  What marks leave as it was; and what a call of two turned arguments leaves: a box with what it made, and an answer.
-/
namespace Go.Proofs.Ytnpogmhfdjmfdaa.K
open Go.RowKit Go.Sort

/-- What was made earlier stays when what was made later is written into. -/
theorem OwnP.keepL {w w' : World} {B B' : Nat} {p q : Value} {zs ys : List Pr} (hp : OwnP w B p zs) (hlt : ∀ k, p.ownBlock = some k → k < B') (hq : OwnP w B' q ys) (hg : w.grownBy w' q.ownBlock) : OwnP w' B p zs := by
  refine World.ownsRow.kept hp hg ?_
  cases hv : p.ownBlock with
  | none => exact .inl rfl
  | some k => exact .inr (fun e => by have := hlt k hv; have := (World.ownsRow.lt hq k e.symm).1; omega)
/-- And the other way round. -/
theorem OwnP.keepR {w w' : World} {B' : Nat} {p q : Value} {ys : List Pr} (hq : OwnP w B' q ys) (hlt : ∀ k, p.ownBlock = some k → k < B') (hg : w.grownBy w' p.ownBlock) : OwnP w' B' q ys := hq.kept hg hlt
theorem below_markP {w W w' : World} {B : Nat} {p : Value} {zs : List Pr} (h : Below w.heap.size w W) (hp : OwnP W B p zs) (hB : w.heap.size ≤ B) (hg : W.grownBy w' p.ownBlock) : Below w.heap.size w w' :=
  h.grown hg h.size (fun k e => by have := (World.ownsRow.lt hp k e).1; omega)
theorem Box2.mark {W w' : World} {b B : Nat} {t : TypeId} {x y p : Value} {zs : List Pr} (h : Box2 W b t x y) (ht : t ≠ 96) (hp : OwnP W B p zs) (hg : W.grownBy w' p.ownBlock) : Box2 w' b t x y := h.kept hg (h.not_row ht hp)

def MadeRank (W : World) (ns : List Pr) (na : Int) (ok : Bool) (sp sb : Value) (wx : World) : Prop :=
  ∃ P xs cs B, sp = .pointer (some ⟨P, 0, none⟩) ∧ sb = .bool ok ∧ Below W.heap.size W wx ∧ W.heap.size ≤ B ∧ OwnP wx B (.slice xs ns.length cs) ns ∧ Box2 wx P 71 (.slice xs ns.length cs) (.int .i64 na)

/-- The box was made last. -/
theorem MadeRank.last {W wc : World} {ns : List Pr} {na : Int} {ok : Bool} {B cs : Nat} {xs : Option Addr} (h : Below W.heap.size W wc) (hB : W.heap.size ≤ B) (ho : OwnP wc B (.slice xs ns.length cs) ns) :
    MadeRank W ns na ok (.pointer (some ⟨wc.heap.size, 0, none⟩)) (.bool ok) (wc.alloc (.cells #[.slice xs ns.length cs, .int .i64 na] 71)) :=
  ⟨_, _, _, _, rfl, rfl, h.alloc h.size _, hB, ho.alloc _, Box2.new _ _ _ _⟩
/-- The box was there, and is written into. -/
theorem MadeRank.stored {W wc : World} {ns : List Pr} {na : Int} {ok : Bool} {B cs P : Nat} {xs : Option Addr} {x y : Value} (h : Below W.heap.size W wc) (hB : W.heap.size ≤ B) (ho : OwnP wc B (.slice xs ns.length cs) ns) (hP : W.heap.size ≤ P) (hX : Box2 wc P 71 x y) :
    MadeRank W ns na ok (.pointer (some ⟨P, 0, none⟩)) (.bool ok) ((wc.setCell ⟨P, 0, none⟩ (.slice xs ns.length cs)).setCell ⟨P, 1, none⟩ (.int .i64 na)) :=
  ⟨_, _, _, _, rfl, rfl, below_set2 h hP _ _, hB, ho.set2 (hX.not_row (by decide) ho) _ _, hX.set _ _⟩

end Go.Proofs.Ytnpogmhfdjmfdaa.K
