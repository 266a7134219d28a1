/-
  What the law FnExactNetReach needs of the texts before it, part 1.
-/
import Derived.Below
import Derived.BigQuiet
import Derived.Carry
import Derived.ChangeAt
import Derived.ChangeOld
import Derived.ChangeSame
import Derived.Deep.AppendLies
import Derived.Deep.DrawnRows
import Derived.Deep.Fields
import Derived.Deep.Matrix
import Derived.Deep.MidRow
import Derived.Deep.OwnRows
import Derived.Deep.QuietTactic
import Derived.Deep.RegionHeld3
import Derived.Deep.RegionLaw
import Derived.Deep.RegionWith
import Derived.Deep.Slices
import Derived.Deep.WholeRow
import Derived.DeepKeys5
import Derived.IntWalk
import Derived.KernelRfl
import Derived.Lib.Hide
import Derived.Lib.QuietBelow
import Derived.Lib.SmallJoins
import Derived.Maps.AppendAt
import Derived.Maps.Keyed
import Derived.OneCell
import Derived.OpenShut
import Derived.OrdersHeld
import Derived.RangeFuncBox
import Derived.RegionTactic
import Derived.StillTail
import Derived.Test.YtcblbdpdbggkbaaGreatRows
import Derived.WalkKit
import Derived.WalkLawsBesides
import Derived.WalkSpells
set_option maxRecDepth 100000
set_option maxHeartbeats 16000000
set_option linter.unusedVariables false
set_option linter.unusedSectionVars false
set_option linter.unusedSimpArgs false
set_option linter.unusedVariables false
namespace Go.Proofs.YtcblbdpdbggkbaaGreat
open Go.RowKit
theorem ret_bool {a b : Bool} (h : a = b) : Ending.returned (.bool a) = .returned (.bool b) := by rw [h]
def Ints (w : World) (v : Value) (zs : List Int) : Prop :=
  (v = .slice none 0 0 ∧ zs = []) ∨
  ∃ b o cap, v = .slice (some ⟨b, o, none⟩) zs.length cap ∧ zs.length ≤ cap ∧ cap ≤ maxLen ∧ b < w.heap.size ∧ ∀ i, i < zs.length → w.cell? ⟨b, o + i, none⟩ = some (.int .i64 (zs.getD i 0))
def Rws (w : World) (v : Value) (rs : List (List Int)) : Prop :=
  (v = .slice none 0 0 ∧ rs = []) ∨
  ∃ b o cap, v = .slice (some ⟨b, o, none⟩) rs.length cap ∧ rs.length ≤ cap ∧ cap ≤ maxLen ∧ b < w.heap.size ∧ ∀ i, i < rs.length → ∃ x, w.cell? ⟨b, o + i, none⟩ = some x ∧ Ints w x (rs.getD i [])
theorem Ints.below {w w' : World} {v : Value} {zs : List Int} (h : Ints w v zs) {B : Nat} (hb : Below B w w') (hB : w.heap.size ≤ B) : Ints w' v zs := by
  rcases h with h | ⟨b, o, cap, rfl, h1, h2, h3, h4⟩
  · exact .inl h
  · exact .inr ⟨b, o, cap, rfl, h1, h2, Nat.lt_of_lt_of_le h3 hb.size, fun i hi => by rw [hb.cell (by show b < B; omega)]; exact h4 i hi⟩
theorem Rws.below {w w' : World} {v : Value} {rs : List (List Int)} (h : Rws w v rs) {B : Nat} (hb : Below B w w') (hB : w.heap.size ≤ B) : Rws w' v rs := by
  rcases h with h | ⟨b, o, cap, rfl, h1, h2, h3, h4⟩
  · exact .inl h
  · refine .inr ⟨b, o, cap, rfl, h1, h2, Nat.lt_of_lt_of_le h3 hb.size, fun i hi => ?_⟩
    obtain ⟨x, hx, hi'⟩ := h4 i hi
    exact ⟨x, by rw [hb.cell (by show b < B; omega)]; exact hx, hi'.below hb hB⟩
theorem grownBy_trans {w w1 w2 : World} {row : Option Nat} (h1 : w.grownBy w1 row) (h2 : w1.grownBy w2 row) : w.grownBy w2 row :=
  ⟨h2.os.trans h1.os, h2.tape.trans h1.tape, h2.output.trans h1.output, Nat.le_trans h1.size h2.size, fun k hk hr => (h2.block k (Nat.lt_of_lt_of_le hk h1.size) hr).trans (h1.block k hk hr)⟩
theorem grownBy_refl (w : World) (row : Option Nat) : w.grownBy w row := ⟨rfl, rfl, rfl, Nat.le_refl _, fun _ _ _ => rfl⟩
theorem grownBy_below {w w' : World} {row : Option Nat} (h : Below w.heap.size w w') : w.grownBy w' row := ⟨h.os, h.tape, h.output, h.size, fun k hk _ => h.block k hk⟩
theorem grownBy_setCell (w : World) (a : Addr) (u : Value) : w.grownBy (w.setCell a u) (some a.block) :=
  ⟨rfl, rfl, rfl, by simp, fun k _ hk => heap_setCell_other w a k u (fun e => hk (by simp [e]))⟩
structure KeptB (S : Nat → Prop) (w w' : World) : Prop where
  os : w'.os = w.os
  tape : w'.tape = w.tape
  output : w'.output = w.output
  size : w.heap.size ≤ w'.heap.size
  block : ∀ k, k < w.heap.size → ¬ S k → w'.heap[k]? = w.heap[k]?
theorem KeptB.refl (S : Nat → Prop) (w : World) : KeptB S w w := ⟨rfl, rfl, rfl, Nat.le_refl _, fun _ _ _ => rfl⟩
theorem KeptB.of_grown {w w' : World} {g : Nat} {S : Nat → Prop} (h : w.grownBy w' (some g)) (hS : S g) : KeptB S w w' :=
  ⟨h.os, h.tape, h.output, h.size, fun k hk hs => h.block k hk (fun e => by cases e; exact hs hS)⟩
theorem KeptB.below {S : Nat → Prop} {w w' : World} {B : Nat} (h : KeptB S w w') (hB : B ≤ w.heap.size) (hS : ∀ k, S k → B ≤ k) : Below B w w' :=
  ⟨h.os, h.tape, h.output, h.size, fun k hk => h.block k (by omega) (fun hs => by have := hS k hs; omega)⟩
def rowV (rs : List (List Int)) (G C : Nat → Nat) (i : Nat) : Value := .slice (some ⟨G i, 0, none⟩) (rs.getD i []).length (C i)
def ints (zs : List Int) : List Value := zs.map (Value.int .i64)
structure OwnR (w : World) (B : Nat) (u : Value) (rs : List (List Int)) (G C : Nat → Nat) : Prop where
  hdr : w.ownsRow B 23 1 u rs.length ((List.range rs.length).map (rowV rs G C))
  row : ∀ i, i < rs.length → w.ownsRow B 3 1 (rowV rs G C i) (rs.getD i []).length (ints (rs.getD i []))
  off : ∀ i, i < rs.length → u.ownBlock ≠ some (G i)
  apart : ∀ i j, i < rs.length → j < rs.length → i ≠ j → G i ≠ G j
theorem ints_len (zs : List Int) : (ints zs).length = zs.length := by simp [ints]
theorem ints_get (zs : List Int) (i : Nat) (h : i < zs.length) : (ints zs)[i]? = some (.int .i64 (zs.getD i 0)) := by simp [ints, h]
theorem ownI_ints {w : World} {B : Nat} {v : Value} {zs : List Int} (h : w.ownsRow B 3 1 v zs.length (ints zs)) : Ints w v zs := by
  rcases h.2 with ⟨rfl, h0⟩ | ⟨g, cap, cur, rfl, hb, hg, hn, hc, hs, ht⟩
  · exact .inl ⟨rfl, List.eq_nil_of_length_eq_zero h0⟩
  · refine .inr ⟨g, 0, cap, rfl, hn, hc, (Array.getElem?_eq_some_iff.1 hg).1, fun i hi => ?_⟩
    have := World.ownsRow.cellAt h i (by omega)
    rw [Nat.zero_add, this, ints_get _ _ hi]
theorem OwnR.grown {w w' : World} {B : Nat} {u : Value} {rs : List (List Int)} {G C : Nat → Nat} {row : Option Nat} (h : OwnR w B u rs G C) (hg : w.grownBy w' row) (hr : ∀ k, row = some k → k < B) : OwnR w' B u rs G C := by
  have ne : ∀ {v : Value} {n : Nat} {e : TypeId} {xs : List Value}, w.ownsRow B e 1 v n xs → v.ownBlock = none ∨ v.ownBlock ≠ row := fun {v n e xs} ho => by
    cases hv : v.ownBlock with
    | none => exact .inl rfl
    | some k => exact .inr (fun e => by have := (ho.lt k hv).1; have := hr k e.symm; omega)
  exact ⟨h.hdr.kept hg (ne h.hdr), fun i hi => (h.row i hi).kept hg (ne (h.row i hi)), h.off, h.apart⟩
theorem OwnR.below {w w' : World} {B B' : Nat} {u : Value} {rs : List (List Int)} {G C : Nat → Nat} (h : OwnR w B u rs G C) (hg : Below B' w w') (hB : w.heap.size ≤ B') : OwnR w' B u rs G C :=
  h.grown (row := none) ⟨hg.os, hg.tape, hg.output, hg.size, fun k hk _ => hg.block k (by omega)⟩ (fun _ e => by cases e)
theorem ownsRow_base {w : World} {B B' : Nat} {e : TypeId} {size : Nat} {v : Value} {n : Nat} {xs : List Value} (h : w.ownsRow B e size v n xs) (hB : B' ≤ B) : w.ownsRow B' e size v n xs := by
  obtain ⟨h1, h2⟩ := h
  refine ⟨h1, ?_⟩
  rcases h2 with h2 | ⟨g, cap, cur, hv, hg, r⟩
  · exact .inl h2
  · exact .inr ⟨g, cap, cur, hv, Nat.le_trans hB hg, r⟩
theorem OwnR.base {w : World} {B B' : Nat} {u : Value} {rs : List (List Int)} {G C : Nat → Nat} (h : OwnR w B u rs G C) (hB : B' ≤ B) : OwnR w B' u rs G C :=
  ⟨ownsRow_base h.hdr hB, fun i hi => ownsRow_base (h.row i hi) hB, h.off, h.apart⟩
end Go.Proofs.YtcblbdpdbggkbaaGreat
namespace Go.Proofs.YtcblbdpdbggkbaaGreat
open Go.RowKit Go.Sort
section
variable {P : Program} {md : Region.Mode} {C : World → Prop}
end
end Go.Proofs.YtcblbdpdbggkbaaGreat
set_option linter.unusedVariables false
namespace Go.Proofs.YtcblbdpdbggkbaaGreat
open Go.RowKit
theorem Ints.cases {w : World} {v : Value} {zs : List Int} (h : Ints w v zs) :
    (∃ x c, v = .slice x zs.length c) ∧ (zs.length = 0 ∨ ∃ b o c, v = .slice (some ⟨b, o, none⟩) zs.length c ∧ ∀ i, i < zs.length → w.cell? ⟨b, o + i, none⟩ = some (.int .i64 (zs.getD i 0))) := by
  rcases h with ⟨rfl, rfl⟩ | ⟨b, o, c, rfl, _, _, _, hc⟩
  · exact ⟨⟨_, _, rfl⟩, .inl rfl⟩
  · exact ⟨⟨_, _, rfl⟩, .inr ⟨b, o, c, rfl, hc⟩⟩
theorem Rws.cases {w : World} {v : Value} {rs : List (List Int)} (h : Rws w v rs) :
    (∃ x c, v = .slice x rs.length c) ∧ (rs.length = 0 ∨ ∃ b o c, v = .slice (some ⟨b, o, none⟩) rs.length c ∧ ∀ i, i < rs.length → ∃ x, w.cell? ⟨b, o + i, none⟩ = some x ∧ Ints w x (rs.getD i [])) := by
  rcases h with ⟨rfl, rfl⟩ | ⟨b, o, c, rfl, _, _, _, hc⟩
  · exact ⟨⟨_, _, rfl⟩, .inl rfl⟩
  · exact ⟨⟨_, _, rfl⟩, .inr ⟨b, o, c, rfl, hc⟩⟩
theorem ne_of_len {α : Type} [DecidableEq α] {a b : List α} (h : a.length ≠ b.length) : decide (a = b) = false := by
  simp only [decide_eq_false_iff_not]; exact fun e => h (by rw [e])
theorem ne_of_get {α : Type} [DecidableEq α] {a b : List α} {i : Nat} {d : α} (h : a.getD i d ≠ b.getD i d) : decide (a = b) = false := by
  simp only [decide_eq_false_iff_not]; exact fun e => h (by rw [e])
theorem eq_of_get {α : Type} [DecidableEq α] {a b : List α} {n : Nat} {d : α} (ha : a.length = n) (hb : b.length = n) (h : ∀ i, i < n → a.getD i d = b.getD i d) : decide (a = b) = true := by
  simp only [decide_eq_true_eq]
  apply List.ext_getElem (by omega)
  intro i h1 h2
  have := h i (by omega)
  simpa [h1, h2] using this
theorem Ints.drewN {w : World} {v : Value} {zs : List Int} (h : Ints w v zs) (n : Nat) : Ints (w.drewN n) v zs := h
theorem eqIntS_short (x y : Option Addr) (n m c d : Nat) (w : World) (h : n ≠ m ∨ (n = 0 ∧ m = 0)) :
    Calls Tryz.prog 51 #[.slice x n c, .slice y m d] w fun e w' => e = .returned (.bool (decide (n = m))) ∧ w = w' := by
  rcases h with h | ⟨rfl, rfl⟩
  · have hn : ((n : Int) != (m : Int)) = true := by simp; omega
    go_enter Tryz.func51, Tryz.ntmps51
    go_wp2
    go_ret
    exact ⟨by simpa using h, rfl⟩
  · go_enter Tryz.func51, Tryz.ntmps51
    go_wp2
    refine wp_loop_rounds 1 ?_
    rw [rounds_succ]
    go_wp2
    go_ret
    exact ⟨by simp, rfl⟩
theorem eqIntS_long (b o c b' o' c' n : Nat) (za zb : List Int) (w : World) (hn : n ≤ maxLen) (ha : za.length = n) (hb : zb.length = n)
    (hca : ∀ i, i < n → w.cell? ⟨b, o + i, none⟩ = some (.int .i64 (za.getD i 0))) (hcb : ∀ i, i < n → w.cell? ⟨b', o' + i, none⟩ = some (.int .i64 (zb.getD i 0))) :
    Calls Tryz.prog 51 #[.slice (some ⟨b, o, none⟩) n c, .slice (some ⟨b', o', none⟩) n c'] w fun e w' => e = .returned (.bool (decide (za = zb))) ∧ ∃ m, w' = w.drewN m := by
  unfold maxLen at hn
  have Ha := Lib.hid ha
  have Hb := Lib.hid hb
  have Hca := Lib.hid hca
  have Hcb := Lib.hid hcb
  clear ha hb hca hcb
  go_enter Tryz.func51, Tryz.ntmps51
  go_wp2
  go_loopw [5] (fun i wr => ∃ k : Nat, k ≤ n ∧ i = .int .i64 k ∧ (∀ j, j < k → za.getD j 0 = zb.getD j 0) ∧ ∃ m, wr = w.drewN m) (fun i _ => n - (intOf i).toNat)
  case atStart => exact ⟨0, Nat.zero_le _, rfl, fun _ h => absurd h (Nat.not_lt_zero _), 0, rfl⟩
  case round =>
    obtain ⟨k, hk, rfl, heq, m, rfl⟩ := hrel
    have HE := Lib.hid heq
    clear heq
    by_cases hlt : k < n
    · have h1 := Hca.out k hlt
      have h2 := Hcb.out k hlt
      obtain ⟨x, hx⟩ : ∃ x, za.getD k 0 = x := ⟨_, rfl⟩
      obtain ⟨y, hy⟩ : ∃ y, zb.getD k 0 = y := ⟨_, rfl⟩
      rw [hx] at h1
      rw [hy] at h2
      have HX := Lib.hid hx
      have HY := Lib.hid hy
      clear hx hy
      have k0 : (0 : Int) ≤ (k : Int) := by omega
      have k1 : (k : Int) < (n : Int) := by omega
      by_cases he : x = y
      · subst he
        go_wp2
        go_quiet (fail)
        go_wp2
        go_roundw
        case rel => exact ⟨k + 1, by omega, by go_num, fun j hj => by
          by_cases h : j < k
          · exact HE.out j h
          · obtain rfl : j = k := by omega
            rw [HX.out, HY.out], _, rfl⟩
        case measure => simp [intOf]; omega
      · have he' : (x != y) = true := by simpa using he
        go_wp2
        go_quiet (fail)
        go_wp2
        go_ret
        exact ⟨ret_bool (ne_of_get (i := k) (d := 0) (by rw [HX.out, HY.out]; exact he)).symm, _, World.drewN_drewN _ _ _⟩
    · have fin : Hid (decide (za = zb) = true) := eq_of_get (d := 0) Ha.out Hb.out (fun i hi => HE.out i (by omega))
      go_wp2
      go_ret
      exact ⟨ret_bool fin.out.symm, _, rfl⟩
theorem eqIntS_at (w : World) (u v : Value) (za zb : List Int) (ha : Ints w u za) (hb : Ints w v zb) (hl : za.length ≤ maxLen) :
    Calls Tryz.prog 51 #[u, v] w fun e w' => e = .returned (.bool (decide (za = zb))) ∧ ∃ m, w' = w.drewN m := by
  obtain ⟨⟨x, c, hx⟩, qa⟩ := ha.cases
  obtain ⟨⟨y, d, hy⟩, qb⟩ := hb.cases
  by_cases h : za.length ≠ zb.length ∨ (za.length = 0 ∧ zb.length = 0)
  · rw [hx, hy]
    refine (eqIntS_short x y _ _ c d w h).mono fun e w' ⟨he, hw⟩ => ⟨?_, 0, hw.symm⟩
    rw [he]
    refine ret_bool ?_
    rcases h with h | ⟨h1, h2⟩
    · rw [ne_of_len h]; simpa using h
    · rw [List.eq_nil_of_length_eq_zero h1, List.eq_nil_of_length_eq_zero h2]; simp
  · have e : za.length = zb.length := by omega
    rcases qa with qa | ⟨b, o, c, rfl, hca⟩
    · omega
    rcases qb with qb | ⟨b', o', c', rfl, hcb⟩
    · omega
    rw [← e] at hcb ⊢
    exact eqIntS_long b o c b' o' c' _ za zb w hl rfl e.symm hca hcb
theorem eqIntSS_short (x y : Option Addr) (n m c d : Nat) (w : World) (h : n ≠ m ∨ (n = 0 ∧ m = 0)) :
    Calls Tryz.prog 190 #[.slice x n c, .slice y m d] w fun e w' => e = .returned (.bool (decide (n = m))) ∧ Below w.heap.size w w' := by
  rcases h with h | ⟨rfl, rfl⟩
  · have hn : ((n : Int) != (m : Int)) = true := by simp; omega
    go_enter Tryz.func190, Tryz.ntmps190
    go_wp2
    go_ret
    exact ⟨by simpa using h, Below.refl _ _⟩
  · go_enter Tryz.func190, Tryz.ntmps190
    go_wp2
    refine wp_loop_rounds 1 ?_
    rw [rounds_succ]
    go_wp2
    go_ret
    exact ⟨by simp, Below.refl _ _⟩
theorem eqIntSS_long (b o c b' o' c' n : Nat) (ra rb : List (List Int)) (w : World) (hn : n ≤ maxLen) (ha : ra.length = n) (hb : rb.length = n) (hla : ∀ i, i < n → (ra.getD i []).length ≤ maxLen) (hlb : b < w.heap.size) (hlb' : b' < w.heap.size)
    (hca : ∀ i, i < n → ∃ x, w.cell? ⟨b, o + i, none⟩ = some x ∧ Ints w x (ra.getD i [])) (hcb : ∀ i, i < n → ∃ x, w.cell? ⟨b', o' + i, none⟩ = some x ∧ Ints w x (rb.getD i [])) :
    Calls Tryz.prog 190 #[.slice (some ⟨b, o, none⟩) n c, .slice (some ⟨b', o', none⟩) n c'] w fun e w' => e = .returned (.bool (decide (ra = rb))) ∧ Below w.heap.size w w' := by
  unfold maxLen at hn
  have Ha := Lib.hid ha
  have Hb := Lib.hid hb
  have Hla := Lib.hid hla
  have Hca := Lib.hid hca
  have Hcb := Lib.hid hcb
  clear ha hb hca hcb hla
  go_enter Tryz.func190, Tryz.ntmps190
  go_wp2
  go_loopw [5] (fun i wr => ∃ k : Nat, k ≤ n ∧ i = .int .i64 k ∧ (∀ j, j < k → ra.getD j [] = rb.getD j []) ∧ Below w.heap.size w wr) (fun i _ => n - (intOf i).toNat)
  case atStart => exact ⟨0, Nat.zero_le _, rfl, fun _ h => absurd h (Nat.not_lt_zero _), Below.refl _ _⟩
  case round =>
    obtain ⟨k, hk, rfl, heq, hbl⟩ := hrel
    have HE := Lib.hid heq
    have HB := Lib.hid hbl
    clear heq hbl
    by_cases hlt : k < n
    · obtain ⟨x, h1, i1⟩ := Hca.out k hlt
      obtain ⟨y, h2, i2⟩ := Hcb.out k hlt
      rw [← HB.out.cell (p := ⟨b, o + k, none⟩) hlb] at h1
      rw [← HB.out.cell (p := ⟨b', o' + k, none⟩) hlb'] at h2
      have I1 := Lib.hid (i1.below HB.out (Nat.le_refl _))
      have I2 := Lib.hid (i2.below HB.out (Nat.le_refl _))
      clear i1 i2
      have k0 : (0 : Int) ≤ (k : Int) := by omega
      have k1 : (k : Int) < (n : Int) := by omega
      have KC : Hid (∀ q, Calls Tryz.prog 51 #[x, y] (wr.drewN q) fun e w'' => e = .returned (.bool (decide (ra.getD k [] = rb.getD k []))) ∧ ∃ m, w'' = (wr.drewN q).drewN m) := fun q =>
        eqIntS_at (wr.drewN q) x y _ _ (I1.out.drewN q) (I2.out.drewN q) (Hla.out k hlt)
      obtain ⟨⟨xa, xc, hx⟩, _⟩ := I1.out.cases
      obtain ⟨⟨ya, yc, hy⟩, _⟩ := I2.out.cases
      obtain ⟨ln, hln⟩ : ∃ ln, ln = (ra.getD k []).length := ⟨_, rfl⟩
      obtain ⟨lm, hlm⟩ : ∃ lm, lm = (rb.getD k []).length := ⟨_, rfl⟩
      rw [← hln] at hx
      rw [← hlm] at hy
      subst hx hy
      clear hln hlm I1 I2
      by_cases he : ra.getD k [] = rb.getD k []
      · rw [show decide (ra.getD k [] = rb.getD k []) = true from by simpa using he] at KC
        have HEQ := Lib.hid he
        clear he
        go_wp2
        go_quiet ((with_reducible refine Calls.quiet_of (KC.out _)))
        go_wp2
        go_roundw
        case rel => exact ⟨k + 1, by omega, by go_num, fun j hj => by
          by_cases h : j < k
          · exact HE.out j h
          · obtain rfl : j = k := by omega
            exact HEQ.out, below_drewN HB.out _⟩
        case measure => simp [intOf]; omega
      · rw [show decide (ra.getD k [] = rb.getD k []) = false from by simpa using he] at KC
        have HNE := Lib.hid he
        clear he
        go_wp2
        go_quiet ((with_reducible refine Calls.quiet_of (KC.out _)))
        go_wp2
        go_ret
        exact ⟨ret_bool (ne_of_get (i := k) (d := []) HNE.out).symm, below_drewN HB.out _⟩
    · have fin : Hid (decide (ra = rb) = true) := eq_of_get (d := []) Ha.out Hb.out (fun i hi => HE.out i (by omega))
      go_wp2
      go_ret
      exact ⟨ret_bool fin.out.symm, HB.out⟩
theorem eqIntSS_at (w : World) (u v : Value) (ra rb : List (List Int)) (ha : Rws w u ra) (hb : Rws w v rb) (hl : ra.length ≤ maxLen) (hla : ∀ i, i < ra.length → (ra.getD i []).length ≤ maxLen) :
    Calls Tryz.prog 190 #[u, v] w fun e w' => e = .returned (.bool (decide (ra = rb))) ∧ Below w.heap.size w w' := by
  obtain ⟨⟨x, c, hx⟩, qa⟩ := ha.cases
  obtain ⟨⟨y, d, hy⟩, qb⟩ := hb.cases
  by_cases h : ra.length ≠ rb.length ∨ (ra.length = 0 ∧ rb.length = 0)
  · rw [hx, hy]
    refine (eqIntSS_short x y _ _ c d w h).mono fun e w' ⟨he, hw⟩ => ⟨?_, hw⟩
    rw [he]
    refine ret_bool ?_
    rcases h with h | ⟨h1, h2⟩
    · rw [ne_of_len h]; simpa using h
    · rw [List.eq_nil_of_length_eq_zero h1, List.eq_nil_of_length_eq_zero h2]; simp
  · have e : ra.length = rb.length := by omega
    rcases ha with ⟨rfl, rfl⟩ | ⟨b, o, c, rfl, _, _, hlb, hca⟩
    · exact absurd (Or.inr ⟨rfl, e.symm⟩) h
    rcases hb with ⟨rfl, rfl⟩ | ⟨b', o', c', rfl, _, _, hlb', hcb⟩
    · exact absurd (Or.inr ⟨e, rfl⟩) h
    rw [← e] at hcb ⊢
    exact eqIntSS_long b o c b' o' c' _ ra rb w hl rfl e.symm hla hlb hlb' hca hcb
theorem eqRough_at (w : World) (u v : Value) (ra rb : List (List Int)) (ha : Rws w u ra) (hb : Rws w v rb) (hl : ra.length ≤ maxLen) (hla : ∀ i, i < ra.length → (ra.getD i []).length ≤ maxLen) :
    Calls Tryz.prog 135 #[.agg #[u], .agg #[v]] w fun e w' => e = .returned (.bool (decide (ra = rb))) ∧ Below w.heap.size w w' := by
  obtain ⟨⟨x, c, hx⟩, _⟩ := ha.cases
  obtain ⟨⟨y, d, hy⟩, _⟩ := hb.cases
  obtain ⟨n, hn⟩ : ∃ n, n = ra.length := ⟨_, rfl⟩
  obtain ⟨m, hm⟩ : ∃ m, m = rb.length := ⟨_, rfl⟩
  rw [← hn] at hx
  rw [← hm] at hy
  subst hx hy
  have K : Hid (∀ W, Below w.heap.size w W → Calls Tryz.prog 190 #[.slice x n c, .slice y m d] W fun e w' => e = .returned (.bool (decide (ra = rb))) ∧ Below W.heap.size W w') := fun W hW =>
    eqIntSS_at W _ _ ra rb (ha.below hW (Nat.le_refl _)) (hb.below hW (Nat.le_refl _)) hl hla
  clear ha hb hn hm hl hla
  by_cases h : ra = rb
  · rw [show decide (ra = rb) = true from by simpa using h] at K ⊢
    clear h
    go_enter Tryz.func135, Tryz.ntmps135
    go_wp2_with (go_at_call 190; refine (K.out _ (((Below.refl _ _).alloc (Nat.le_refl _) _).alloc (by simp) _)).mono ?_; rintro e w1 ⟨rfl, hb1⟩)
    go_ret
    exact ⟨rfl, (((Below.refl _ _).alloc (Nat.le_refl _) _).alloc (by simp) _).trans (hb1.mono (by simp; omega))⟩
  · rw [show decide (ra = rb) = false from by simpa using h] at K ⊢
    clear h
    go_enter Tryz.func135, Tryz.ntmps135
    go_wp2_with (go_at_call 190; refine (K.out _ (((Below.refl _ _).alloc (Nat.le_refl _) _).alloc (by simp) _)).mono ?_; rintro e w1 ⟨rfl, hb1⟩)
    go_ret
    exact ⟨rfl, (((Below.refl _ _).alloc (Nat.le_refl _) _).alloc (by simp) _).trans (hb1.mono (by simp; omega))⟩
end Go.Proofs.YtcblbdpdbggkbaaGreat
namespace Go.Proofs.YtcblbdpdbggkbaaGreat
open Go.RowKit Go.Sort
end Go.Proofs.YtcblbdpdbggkbaaGreat
namespace Go.Proofs.YtcblbdpdbggkbaaGreat
open Go.RowKit
def mkRow (k : Int) (n : Nat) : List Int := (List.range n).map fun (i : Nat) => k + (i : Int)
def ahead (rs : List (List Int)) : Nat → Nat
  | 0 => 0
  | i + 1 => ahead rs i + (rs.getD i []).length
theorem mkRow_len (k : Int) (n : Nat) : (mkRow k n).length = n := by simp [mkRow]
theorem mkRow_get (k : Int) (n i : Nat) (h : i < n) : (mkRow k n).getD i 0 = k + i := by simp [mkRow, h]
theorem mark_set (k : Int) (zs : List Int) (j : Nat) (hj : j < zs.length) :
    (ints (mkRow k j ++ zs.drop j)).set j (.int .i64 (k + j)) = ints (mkRow k (j + 1) ++ zs.drop (j + 1)) := by
  apply List.ext_getElem?
  intro i
  simp only [ints, List.getElem?_set, List.getElem?_map, List.length_map, List.length_append, mkRow_len, List.length_drop]
  rcases Nat.lt_trichotomy i j with h | h | h
  · rw [if_neg (by omega), List.getElem?_append_left (by rw [mkRow_len]; exact h), List.getElem?_append_left (by rw [mkRow_len]; omega)]
    simp [mkRow, h, show i < j + 1 by omega]
  · subst h
    rw [if_pos rfl, if_pos (by omega), List.getElem?_append_left (by rw [mkRow_len]; omega)]
    simp [mkRow]
  · rw [if_neg (by omega), List.getElem?_append_right (by rw [mkRow_len]; omega), List.getElem?_append_right (by rw [mkRow_len]; omega), mkRow_len, mkRow_len]
    simp only [List.getElem?_drop]
    rw [show j + (i - j) = i by omega, show j + 1 + (i - (j + 1)) = i by omega]
theorem markIntS_at (w : World) (B g c n : Nat) (zs : List Int) (k : Int) (hl : zs.length = n) (hn : n ≤ 200000000) (hk : 0 ≤ k) (hk' : k ≤ 1000000000000)
    (h : w.ownsRow B 3 1 (.slice (some ⟨g, 0, none⟩) n c) n (ints zs)) :
    Calls Tryz.prog 53 #[.slice (some ⟨g, 0, none⟩) n c, .int .i64 k] w fun e w' =>
      e = .returned (.int .i64 (k + n)) ∧ w'.ownsRow B 3 1 (.slice (some ⟨g, 0, none⟩) n c) n (ints (mkRow k n)) ∧ w.grownBy w' (some g) := by
  have HL := Lib.hid hl
  have H := Lib.hid h
  clear hl h
  go_enter Tryz.func53, Tryz.ntmps53
  go_wp2
  go_loopw [1, 5] (fun q i wr => ∃ j : Nat, j ≤ n ∧ i = .int .i64 j ∧ q = .int .i64 (k + j) ∧ wr.ownsRow B 3 1 (.slice (some ⟨g, 0, none⟩) n c) n (ints (mkRow k j ++ zs.drop j)) ∧ w.grownBy wr (some g)) (fun _ i _ => n - (intOf i).toNat)
  case atStart => exact ⟨0, Nat.zero_le _, rfl, by go_num, by simpa [mkRow] using H.out, grownBy_refl _ _⟩
  case round =>
    obtain ⟨j, hj, rfl, rfl, hown, hg⟩ := hrel
    have HO := Lib.hid hown
    have HG := Lib.hid hg
    clear hown hg
    by_cases hlt : j < n
    · have hc : ∃ x, wr.cell? ⟨g, j, none⟩ = some x := by
        rw [HO.out.cellAt j (by omega)]
        exact ⟨_, List.getElem?_eq_getElem (by rw [ints_len]; simp [mkRow_len, HL.out]; omega)⟩
      obtain ⟨x, hc⟩ := hc
      have hf := HO.out.frozenAt j
      have hs := HO.out.stored j (.int .i64 (k + j))
      rw [mark_set k zs j (by rw [HL.out]; exact hlt)] at hs
      have HS := Lib.hid hs
      clear hs
      go_wp2
      go_roundw
      case rel => exact ⟨j + 1, by omega, by go_num, by rw [show ((j + 1 : Nat) : Int) = (j : Int) + 1 by omega]; congr 1; omega, HS.out.1, grownBy_trans HG.out HS.out.2⟩
      case measure => simp [intOf]; omega
    · obtain rfl : j = n := by omega
      go_wp2
      go_ret
      have h0 : zs.drop j = [] := List.drop_of_length_le (by rw [HL.out]; exact Nat.le_refl _)
      have ho := HO.out
      rw [h0, List.append_nil] at ho
      exact ⟨rfl, ho, HG.out⟩
theorem heldIntS_at (w : World) (v : Value) (n : Nat) (k : Int) (hn : n ≤ 200000000) (hk : 0 ≤ k) (hk' : k ≤ 1000000000000) (h : Ints w v (mkRow k n)) :
    Calls Tryz.prog 54 #[v, .int .i64 k] w fun e w' => e = .returned (.int .i64 (k + n)) ∧ w = w' := by
  obtain ⟨⟨x, c, hv⟩, q⟩ := h.cases
  rw [mkRow_len] at hv q
  by_cases h0 : n = 0
  · subst h0 hv
    go_enter Tryz.func54, Tryz.ntmps54
    go_wp2
    refine wp_loop_rounds 1 ?_
    rw [rounds_succ]
    go_wp2
    go_ret
    exact ⟨by simp, rfl⟩
  rcases q with q | ⟨b, o, c, rfl, hc⟩
  · omega
  have Hc := Lib.hid hc
  clear hc h hv
  go_enter Tryz.func54, Tryz.ntmps54
  go_wp2
  go_loop [1, 5] (fun q i => ∃ j : Nat, j ≤ n ∧ i = .int .i64 j ∧ q = .int .i64 (k + j)) (fun _ i => n - (intOf i).toNat)
  case atStart => exact ⟨0, Nat.zero_le _, rfl, by go_num⟩
  case round =>
    obtain ⟨j, hj, rfl, rfl⟩ := hrel
    by_cases hlt : j < n
    · have h1 := Hc.out j hlt
      rw [mkRow_get _ _ _ hlt] at h1
      go_wp2
      go_round
      case rel => exact ⟨j + 1, by omega, by go_num, by rw [show ((j + 1 : Nat) : Int) = (j : Int) + 1 by omega]; congr 1; omega⟩
      case measure => simp [intOf]; omega
    · obtain rfl : j = n := by omega
      go_wp2
      go_ret
      exact ⟨rfl, rfl⟩
end Go.Proofs.YtcblbdpdbggkbaaGreat
set_option linter.unusedVariables false
namespace Go.Proofs.YtcblbdpdbggkbaaGreat
open Go.RowKit Go.Sort
theorem few_info : (Tryz.prog.info? 3).map (fun i => (i.zero, i.size, i.bytes)) = some (some (.int .i64 0), 1, 8) := by kernel_rfl
def OwnI (w : World) (B : Nat) (v : Value) (zs : List Int) : Prop := w.ownsRow B 3 1 v zs.length (ints zs)
theorem OwnI.rd {w : World} {B : Nat} {v : Value} {zs : List Int} (h : OwnI w B v zs) : Ints w v zs := ownI_ints h
theorem OwnI.base {w : World} {B B' : Nat} {v : Value} {zs : List Int} (h : OwnI w B v zs) (hB : B' ≤ B) : OwnI w B' v zs := ownsRow_base h hB
theorem OwnI.kept {w w' : World} {B : Nat} {v : Value} {zs : List Int} {row : Option Nat} (h : OwnI w B v zs) (hg : w.grownBy w' row) (hr : ∀ k, row = some k → k < B) : OwnI w' B v zs := by
  refine World.ownsRow.kept h hg ?_
  cases hv : v.ownBlock with
  | none => exact .inl rfl
  | some k => exact .inr (fun e => by have := (World.ownsRow.lt h k hv).1; have := hr k e.symm; omega)
theorem OwnI.nil (w : World) (B : Nat) : OwnI w B (.slice none 0 0) [] := World.ownsRow_nil w B _ 1
end Go.Proofs.YtcblbdpdbggkbaaGreat
set_option linter.unusedVariables false
namespace Go.Proofs.YtcblbdpdbggkbaaGreat.T
open Go.RowKit Go.Sort
abbrev Pr := Int × Int
def pr (ps : List Pr) (i : Nat) : Pr := ps.getD i (0, 0)
def prs (ps : List Pr) : List Value := ps.flatMap fun p => [.int .i64 p.1, .int .i64 p.2]
theorem prs_cons (p : Pr) (ps : List Pr) : prs (p :: ps) = .int .i64 p.1 :: .int .i64 p.2 :: prs ps := rfl
theorem prs_len (ps : List Pr) : (prs ps).length = ps.length * 2 := by
  induction ps with
  | nil => rfl
  | cons p ps ih => rw [prs_cons]; simp [ih]; omega
theorem prs_get (ps : List Pr) (i : Nat) (h : i < ps.length) : (prs ps)[i * 2]? = some (.int .i64 (pr ps i).1) ∧ (prs ps)[i * 2 + 1]? = some (.int .i64 (pr ps i).2) := by
  induction ps generalizing i with
  | nil => cases h
  | cons p ps ih =>
    rw [prs_cons]
    cases i with
    | zero => exact ⟨rfl, rfl⟩
    | succ i =>
      have := ih i (by simpa using h)
      rw [show (i + 1) * 2 = i * 2 + 1 + 1 by omega]
      simp only [List.getElem?_cons_succ]
      exact this
theorem pr_at {ps : List Pr} {p : Pr} (h : p ∈ ps) : ∃ i, i < ps.length ∧ pr ps i = p := by
  obtain ⟨i, hi, rfl⟩ := List.getElem_of_mem h
  exact ⟨i, hi, by simp [pr, hi]⟩
def Prs (w : World) (v : Value) (ps : List Pr) : Prop :=
  (v = .slice none 0 0 ∧ ps = []) ∨
  ∃ b o cap, v = .slice (some ⟨b, o, none⟩) ps.length cap ∧ ps.length ≤ cap ∧ cap ≤ maxLen ∧ b < w.heap.size ∧
    ∀ i, i < ps.length → w.cell? ⟨b, o + i * 2, none⟩ = some (.int .i64 (pr ps i).1) ∧ w.cell? ⟨b, o + i * 2 + 1, none⟩ = some (.int .i64 (pr ps i).2)
theorem Prs.below {w w' : World} {v : Value} {ps : List Pr} (h : Prs w v ps) {B : Nat} (hb : Below B w w') (hB : w.heap.size ≤ B) : Prs w' v ps := by
  rcases h with h | ⟨b, o, cap, rfl, h1, h2, h3, h4⟩
  · exact .inl h
  · exact .inr ⟨b, o, cap, rfl, h1, h2, Nat.lt_of_lt_of_le h3 hb.size, fun i hi => by
      rw [hb.cell (by show b < B; omega), hb.cell (by show b < B; omega)]; exact h4 i hi⟩
theorem Prs.form {w : World} {v : Value} {ps : List Pr} (h : Prs w v ps) : ∃ x c, v = .slice x ps.length c ∧ ps.length ≤ c ∧ c ≤ maxLen := by
  rcases h with ⟨rfl, rfl⟩ | ⟨b, o, cap, rfl, h1, h2, _⟩
  · exact ⟨none, 0, rfl, Nat.le_refl _, Nat.zero_le _⟩
  · exact ⟨_, _, rfl, h1, h2⟩
theorem Prs.cells {w : World} {x : Option Addr} {n c : Nat} {ps : List Pr} (h : Prs w (.slice x n c) ps) : ∀ i, i < ps.length → ∃ b o, x = some ⟨b, o, none⟩ ∧ b < w.heap.size ∧ w.cell? ⟨b, o + i * 2, none⟩ = some (.int .i64 (pr ps i).1) ∧ w.cell? ⟨b, o + i * 2 + 1, none⟩ = some (.int .i64 (pr ps i).2) := fun i hi => by
  rcases h with ⟨_, rfl⟩ | ⟨b, o, cap, e, h1, h2, h3, h4⟩
  · cases hi
  · exact ⟨b, o, (Value.slice.inj e).1, h3, h4 i hi⟩
def OwnP (w : World) (B : Nat) (v : Value) (ps : List Pr) : Prop := w.ownsRow B 213 2 v ps.length (prs ps)
theorem addr_plus (b o i : Nat) : (⟨b, o, none⟩ : Addr).add i = ⟨b, o + i, none⟩ := by unfold Addr.add; split <;> simp_all
theorem OwnP.rd {w : World} {B : Nat} {v : Value} {ps : List Pr} (h : OwnP w B v ps) : Prs w v ps := by
  rcases h.2 with ⟨rfl, h0⟩ | ⟨g, cap, cur, rfl, hb, hg, hn, hc, hs, ht⟩
  · exact .inl ⟨rfl, List.eq_nil_of_length_eq_zero h0⟩
  · refine .inr ⟨g, 0, cap, rfl, hn, hc, (Array.getElem?_eq_some_iff.1 hg).1, fun i hi => ?_⟩
    have e := prs_get ps i hi
    have a := World.ownsRow.cells h (g := g) rfl _ _ e.1
    have b := World.ownsRow.cells h (g := g) rfl _ _ e.2
    rw [addr_plus] at a b
    exact ⟨a, by rw [Nat.add_assoc]; exact b⟩
theorem OwnP.base {w : World} {B B' : Nat} {v : Value} {ps : List Pr} (h : OwnP w B v ps) (hB : B' ≤ B) : OwnP w B' v ps := ownsRow_base h hB
theorem OwnP.kept {w w' : World} {B : Nat} {v : Value} {ps : List Pr} {row : Option Nat} (h : OwnP w B v ps) (hg : w.grownBy w' row) (hr : ∀ k, row = some k → k < B) : OwnP w' B v ps := by
  refine World.ownsRow.kept h hg ?_
  cases hv : v.ownBlock with
  | none => exact .inl rfl
  | some k => exact .inr (fun e => by have := (World.ownsRow.lt h k hv).1; have := hr k e.symm; omega)
theorem OwnP.keep {w w' : World} {B : Nat} {v : Value} {ps : List Pr} {row : Option Nat} (h : OwnP w B v ps) (hg : w.grownBy w' row) (hr : v.ownBlock ≠ row) : OwnP w' B v ps := World.ownsRow.kept h hg (.inr hr)
theorem OwnP.below {w w' : World} {B : Nat} {v : Value} {ps : List Pr} (h : OwnP w B v ps) (hb : Below w.heap.size w w') : OwnP w' B v ps := h.kept (row := none) (grownBy_below hb) (fun _ e => by cases e)
theorem OwnP.nil (w : World) (B : Nat) : OwnP w B (.slice none 0 0) [] := World.ownsRow_nil w B _ 2
theorem pair_info : (Tryz.prog.info? 213).map (fun i => (i.zero, i.size, i.bytes)) = some (some (.agg #[.int .i64 0, .int .i64 0]), 2, 16) := by kernel_rfl
def sumP (ps : List Pr) : Int := (ps.map (·.2)).sum
def Box3 (W : World) (b : Nat) (t : TypeId) (x y z : Value) : Prop := W.heap[b]? = some (.cells #[x, y, z] t (0, 0))
section
variable {W W' : World} {b : Nat} {t : TypeId} {x y z : Value}
theorem Box3.lt (h : Box3 W b t x y z) : b < W.heap.size := (Array.getElem?_eq_some_iff.1 h).1
theorem Box3.new (W : World) (t : TypeId) (x y z : Value) : Box3 (W.alloc (.cells #[x, y, z] t)) W.heap.size t x y z := heap_alloc_new W _
theorem Box3.below (h : Box3 W b t x y z) {B : Nat} (hb : Below B W W') (hB : b < B) : Box3 W' b t x y z := (hb.block b hB).trans h
theorem Box3.later (h : Box3 W b t x y z) (hb : Below W.heap.size W W') : Box3 W' b t x y z := h.below hb h.lt
theorem Box3.alloc (h : Box3 W b t x y z) (o : Obj) : Box3 (W.alloc o) b t x y z := h.later ((Below.refl _ _).alloc (Nat.le_refl _) o)
theorem Box3.kept {row : Option Nat} (h : Box3 W b t x y z) (hg : W.grownBy W' row) (hr : row ≠ some b) : Box3 W' b t x y z := (hg.block b h.lt (fun e => hr e.symm)).trans h
theorem Box3.cell0 (h : Box3 W b t x y z) : W.cell? ⟨b, 0, none⟩ = some x := by unfold Box3 at h; simp [World.cell?, h]
theorem Box3.cell1 (h : Box3 W b t x y z) : W.cell? ⟨b, 1, none⟩ = some y := by unfold Box3 at h; simp [World.cell?, h]
theorem Box3.cell2 (h : Box3 W b t x y z) : W.cell? ⟨b, 2, none⟩ = some z := by unfold Box3 at h; simp [World.cell?, h]
theorem Box3.free (h : Box3 W b t x y z) (i : Nat) : W.frozen? ⟨b, i, none⟩ = false := by unfold Box3 at h; simp [World.frozen?, h]
theorem Box3.set0 (h : Box3 W b t x y z) (u : Value) : Box3 (W.setCell ⟨b, 0, none⟩ u) b t u y z := by unfold Box3 at h ⊢; rw [heap_setCell_same W b 0 _ _ _ h]; rfl
theorem Box3.set1 (h : Box3 W b t x y z) (u : Value) : Box3 (W.setCell ⟨b, 1, none⟩ u) b t x u z := by unfold Box3 at h ⊢; rw [heap_setCell_same W b 1 _ _ _ h]; rfl
theorem Box3.set2 (h : Box3 W b t x y z) (u : Value) : Box3 (W.setCell ⟨b, 2, none⟩ u) b t x y u := by unfold Box3 at h ⊢; rw [heap_setCell_same W b 2 _ _ _ h]; rfl
theorem Box3.set (h : Box3 W b t x y z) (x' y' z' : Value) : Box3 (((W.setCell ⟨b, 0, none⟩ x').setCell ⟨b, 1, none⟩ y').setCell ⟨b, 2, none⟩ z') b t x' y' z' := ((h.set0 x').set1 y').set2 z'
theorem Box3.not_row {B : Nat} {e : TypeId} {size n : Nat} {v : Value} {xs : List Value} (h : Box3 W b t x y z) (ht : t ≠ e) (ho : W.ownsRow B e size v n xs) : v.ownBlock ≠ some b := fun hb => by
  rcases ho.2 with ⟨rfl, _⟩ | ⟨g, cap, cur, rfl, _, hg, _⟩
  · cases hb
  · obtain rfl : g = b := by simpa [Value.ownBlock] using hb
    unfold Box3 at h
    rw [hg] at h
    cases h
    exact ht rfl
end
theorem below_set3 {B b : Nat} {w W : World} (h : Below B w W) (hb : B ≤ b) (x y z : Value) : Below B w (((W.setCell ⟨b, 0, none⟩ x).setCell ⟨b, 1, none⟩ y).setCell ⟨b, 2, none⟩ z) := ((h.setCell hb _).setCell hb _).setCell hb _
theorem OwnP.set3 {W : World} {B b : Nat} {v : Value} {ps : List Pr} (h : OwnP W B v ps) (hv : v.ownBlock ≠ some b) (x y z : Value) : OwnP (((W.setCell ⟨b, 0, none⟩ x).setCell ⟨b, 1, none⟩ y).setCell ⟨b, 2, none⟩ z) B v ps :=
  ((h.keep (grownBy_setCell W ⟨b, 0, none⟩ x) hv).keep (grownBy_setCell _ ⟨b, 1, none⟩ y) hv).keep (grownBy_setCell _ ⟨b, 2, none⟩ z) hv
end Go.Proofs.YtcblbdpdbggkbaaGreat.T
set_option linter.unusedVariables false
namespace Go.Proofs.YtcblbdpdbggkbaaGreat.K
open Go.RowKit Go.Sort
abbrev Pr := Int × Int
def pr (ps : List Pr) (i : Nat) : Pr := ps.getD i (0, 0)
def prs (ps : List Pr) : List Value := ps.flatMap fun p => [.int .i64 p.1, .int .i64 p.2]
theorem prs_cons (p : Pr) (ps : List Pr) : prs (p :: ps) = .int .i64 p.1 :: .int .i64 p.2 :: prs ps := rfl
theorem prs_len (ps : List Pr) : (prs ps).length = ps.length * 2 := by
  induction ps with
  | nil => rfl
  | cons p ps ih => rw [prs_cons]; simp [ih]; omega
theorem prs_get (ps : List Pr) (i : Nat) (h : i < ps.length) : (prs ps)[i * 2]? = some (.int .i64 (pr ps i).1) ∧ (prs ps)[i * 2 + 1]? = some (.int .i64 (pr ps i).2) := by
  induction ps generalizing i with
  | nil => cases h
  | cons p ps ih =>
    rw [prs_cons]
    cases i with
    | zero => exact ⟨rfl, rfl⟩
    | succ i =>
      have := ih i (by simpa using h)
      rw [show (i + 1) * 2 = i * 2 + 1 + 1 by omega]
      simp only [List.getElem?_cons_succ]
      exact this
theorem pr_at {ps : List Pr} {p : Pr} (h : p ∈ ps) : ∃ i, i < ps.length ∧ pr ps i = p := by
  obtain ⟨i, hi, rfl⟩ := List.getElem_of_mem h
  exact ⟨i, hi, by simp [pr, hi]⟩
def Prs (w : World) (v : Value) (ps : List Pr) : Prop :=
  (v = .slice none 0 0 ∧ ps = []) ∨
  ∃ b o cap, v = .slice (some ⟨b, o, none⟩) ps.length cap ∧ ps.length ≤ cap ∧ cap ≤ maxLen ∧ b < w.heap.size ∧
    ∀ i, i < ps.length → w.cell? ⟨b, o + i * 2, none⟩ = some (.int .i64 (pr ps i).1) ∧ w.cell? ⟨b, o + i * 2 + 1, none⟩ = some (.int .i64 (pr ps i).2)
theorem Prs.below {w w' : World} {v : Value} {ps : List Pr} (h : Prs w v ps) {B : Nat} (hb : Below B w w') (hB : w.heap.size ≤ B) : Prs w' v ps := by
  rcases h with h | ⟨b, o, cap, rfl, h1, h2, h3, h4⟩
  · exact .inl h
  · exact .inr ⟨b, o, cap, rfl, h1, h2, Nat.lt_of_lt_of_le h3 hb.size, fun i hi => by
      rw [hb.cell (by show b < B; omega), hb.cell (by show b < B; omega)]; exact h4 i hi⟩
theorem Prs.form {w : World} {v : Value} {ps : List Pr} (h : Prs w v ps) : ∃ x c, v = .slice x ps.length c ∧ ps.length ≤ c ∧ c ≤ maxLen := by
  rcases h with ⟨rfl, rfl⟩ | ⟨b, o, cap, rfl, h1, h2, _⟩
  · exact ⟨none, 0, rfl, Nat.le_refl _, Nat.zero_le _⟩
  · exact ⟨_, _, rfl, h1, h2⟩
theorem Prs.cells {w : World} {x : Option Addr} {n c : Nat} {ps : List Pr} (h : Prs w (.slice x n c) ps) : ∀ i, i < ps.length → ∃ b o, x = some ⟨b, o, none⟩ ∧ b < w.heap.size ∧ w.cell? ⟨b, o + i * 2, none⟩ = some (.int .i64 (pr ps i).1) ∧ w.cell? ⟨b, o + i * 2 + 1, none⟩ = some (.int .i64 (pr ps i).2) := fun i hi => by
  rcases h with ⟨_, rfl⟩ | ⟨b, o, cap, e, h1, h2, h3, h4⟩
  · cases hi
  · exact ⟨b, o, (Value.slice.inj e).1, h3, h4 i hi⟩
def OwnP (w : World) (B : Nat) (v : Value) (ps : List Pr) : Prop := w.ownsRow B 152 2 v ps.length (prs ps)
theorem addr_plus (b o i : Nat) : (⟨b, o, none⟩ : Addr).add i = ⟨b, o + i, none⟩ := by unfold Addr.add; split <;> simp_all
theorem OwnP.rd {w : World} {B : Nat} {v : Value} {ps : List Pr} (h : OwnP w B v ps) : Prs w v ps := by
  rcases h.2 with ⟨rfl, h0⟩ | ⟨g, cap, cur, rfl, hb, hg, hn, hc, hs, ht⟩
  · exact .inl ⟨rfl, List.eq_nil_of_length_eq_zero h0⟩
  · refine .inr ⟨g, 0, cap, rfl, hn, hc, (Array.getElem?_eq_some_iff.1 hg).1, fun i hi => ?_⟩
    have e := prs_get ps i hi
    have a := World.ownsRow.cells h (g := g) rfl _ _ e.1
    have b := World.ownsRow.cells h (g := g) rfl _ _ e.2
    rw [addr_plus] at a b
    exact ⟨a, by rw [Nat.add_assoc]; exact b⟩
theorem OwnP.base {w : World} {B B' : Nat} {v : Value} {ps : List Pr} (h : OwnP w B v ps) (hB : B' ≤ B) : OwnP w B' v ps := ownsRow_base h hB
theorem OwnP.kept {w w' : World} {B : Nat} {v : Value} {ps : List Pr} {row : Option Nat} (h : OwnP w B v ps) (hg : w.grownBy w' row) (hr : ∀ k, row = some k → k < B) : OwnP w' B v ps := by
  refine World.ownsRow.kept h hg ?_
  cases hv : v.ownBlock with
  | none => exact .inl rfl
  | some k => exact .inr (fun e => by have := (World.ownsRow.lt h k hv).1; have := hr k e.symm; omega)
theorem OwnP.keep {w w' : World} {B : Nat} {v : Value} {ps : List Pr} {row : Option Nat} (h : OwnP w B v ps) (hg : w.grownBy w' row) (hr : v.ownBlock ≠ row) : OwnP w' B v ps := World.ownsRow.kept h hg (.inr hr)
theorem OwnP.below {w w' : World} {B : Nat} {v : Value} {ps : List Pr} (h : OwnP w B v ps) (hb : Below w.heap.size w w') : OwnP w' B v ps := h.kept (row := none) (grownBy_below hb) (fun _ e => by cases e)
theorem OwnP.nil (w : World) (B : Nat) : OwnP w B (.slice none 0 0) [] := World.ownsRow_nil w B _ 2
theorem pair_info : (Tryz.prog.info? 152).map (fun i => (i.zero, i.size, i.bytes)) = some (some (.agg #[.int .i64 0, .int .i64 0]), 2, 16) := by kernel_rfl
def Box2 (W : World) (b : Nat) (t : TypeId) (x y : Value) : Prop := W.heap[b]? = some (.cells #[x, y] t (0, 0))
section
variable {W W' : World} {b : Nat} {t : TypeId} {x y : Value}
theorem Box2.lt (h : Box2 W b t x y) : b < W.heap.size := (Array.getElem?_eq_some_iff.1 h).1
theorem Box2.new (W : World) (t : TypeId) (x y : Value) : Box2 (W.alloc (.cells #[x, y] t)) W.heap.size t x y := heap_alloc_new W _
theorem Box2.below (h : Box2 W b t x y) {B : Nat} (hb : Below B W W') (hB : b < B) : Box2 W' b t x y := (hb.block b hB).trans h
theorem Box2.later (h : Box2 W b t x y) (hb : Below W.heap.size W W') : Box2 W' b t x y := h.below hb h.lt
theorem Box2.alloc (h : Box2 W b t x y) (o : Obj) : Box2 (W.alloc o) b t x y := h.later ((Below.refl _ _).alloc (Nat.le_refl _) o)
theorem Box2.kept {row : Option Nat} (h : Box2 W b t x y) (hg : W.grownBy W' row) (hr : row ≠ some b) : Box2 W' b t x y := (hg.block b h.lt (fun e => hr e.symm)).trans h
theorem Box2.cell0 (h : Box2 W b t x y) : W.cell? ⟨b, 0, none⟩ = some x := by unfold Box2 at h; simp [World.cell?, h]
theorem Box2.cell1 (h : Box2 W b t x y) : W.cell? ⟨b, 1, none⟩ = some y := by unfold Box2 at h; simp [World.cell?, h]
theorem Box2.free (h : Box2 W b t x y) (i : Nat) : W.frozen? ⟨b, i, none⟩ = false := by unfold Box2 at h; simp [World.frozen?, h]
theorem Box2.set0 (h : Box2 W b t x y) (u : Value) : Box2 (W.setCell ⟨b, 0, none⟩ u) b t u y := by unfold Box2 at h ⊢; rw [heap_setCell_same W b 0 _ _ _ h]; rfl
theorem Box2.set1 (h : Box2 W b t x y) (u : Value) : Box2 (W.setCell ⟨b, 1, none⟩ u) b t x u := by unfold Box2 at h ⊢; rw [heap_setCell_same W b 1 _ _ _ h]; rfl
theorem Box2.set (h : Box2 W b t x y) (x' y' : Value) : Box2 ((W.setCell ⟨b, 0, none⟩ x').setCell ⟨b, 1, none⟩ y') b t x' y' := (h.set0 x').set1 y'
theorem Box2.not_row {B : Nat} {e : TypeId} {size n : Nat} {v : Value} {xs : List Value} (h : Box2 W b t x y) (ht : t ≠ e) (ho : W.ownsRow B e size v n xs) : v.ownBlock ≠ some b := fun hb => by
  rcases ho.2 with ⟨rfl, _⟩ | ⟨g, cap, cur, rfl, _, hg, _⟩
  · cases hb
  · obtain rfl : g = b := by simpa [Value.ownBlock] using hb
    unfold Box2 at h
    rw [hg] at h
    cases h
    exact ht rfl
end
theorem below_set2 {B b : Nat} {w W : World} (h : Below B w W) (hb : B ≤ b) (x y : Value) : Below B w ((W.setCell ⟨b, 0, none⟩ x).setCell ⟨b, 1, none⟩ y) := (h.setCell hb _).setCell hb _
theorem OwnP.set2 {W : World} {B b : Nat} {v : Value} {ps : List Pr} (h : OwnP W B v ps) (hv : v.ownBlock ≠ some b) (x y : Value) : OwnP ((W.setCell ⟨b, 0, none⟩ x).setCell ⟨b, 1, none⟩ y) B v ps :=
  (h.keep (grownBy_setCell W ⟨b, 0, none⟩ x) hv).keep (grownBy_setCell _ ⟨b, 1, none⟩ y) hv
section
variable {w w' : World} {B g n c : Nat} {zs : List Int}
end
def sumP (ps : List Pr) : Int := (ps.map (·.2)).sum
def KnG (ps : List Pr) (all : Int) (i : Nat) : Prop := ((1 ≤ (pr ps i).1 ∧ (pr ps i).1 ≤ 127) ∧ 1 ≤ (pr ps i).2 ∧ (pr ps i).2 ≤ 2000) ∧ (0 < i → (pr ps (i - 1)).1 < (pr ps i).1) ∧ ((pr ps i).1 < 64 → (pr ps i).2 ≤ all / 8)
instance (ps : List Pr) (all : Int) (i : Nat) : Decidable (KnG ps all i) := by unfold KnG; infer_instance
def RankP (ps : List Pr) (all : Int) : Prop := (0 ≤ all ∧ all ≤ 2000) ∧ (∀ i, i < ps.length → KnG ps all i) ∧ sumP ps = all
instance (ps : List Pr) (all : Int) : Decidable (RankP ps all) := by unfold RankP; infer_instance
end Go.Proofs.YtcblbdpdbggkbaaGreat.K
set_option linter.unusedVariables false
namespace Go.Proofs.YtcblbdpdbggkbaaGreat.K
open Go.RowKit Go.Sort
end Go.Proofs.YtcblbdpdbggkbaaGreat.K
namespace Go.Proofs.YtcblbdpdbggkbaaGreat.K
theorem RankP.num {ps : List Pr} {all : Int} (h : RankP ps all) : ∀ p ∈ ps, 1 ≤ p.2 ∧ p.2 ≤ 2000 ∧ (p.1 < 64 → p.2 ≤ all / 8) := fun p hp => by
  obtain ⟨i, hi, rfl⟩ := pr_at hp
  exact ⟨(h.2.1 i hi).1.2.1, (h.2.1 i hi).1.2.2, (h.2.1 i hi).2.2⟩
section
variable {ps qs : List Pr} {a b : Int}
end
end Go.Proofs.YtcblbdpdbggkbaaGreat.K
set_option linter.unusedVariables false
namespace Go.Proofs.YtcblbdpdbggkbaaGreat
open Go.RowKit Go.Sort
structure Sm where
  rs : List (List Int)
  zs : List Int
  ps : List T.Pr
  lo : Int
  al : Int
  ks : List K.Pr
  ka : Int
def noSm : Sm := ⟨[], [], [], 0, 0, [], 0⟩
end Go.Proofs.YtcblbdpdbggkbaaGreat
set_option linter.unusedVariables false
set_option linter.unusedSectionVars false
set_option linter.unusedSimpArgs false
namespace Go.Proofs.YtcblbdpdbggkbaaGreat.N
end Go.Proofs.YtcblbdpdbggkbaaGreat.N
namespace Go.Proofs.YtcblbdpdbggkbaaGreat
open Go.RowKit Go.Sort
abbrev Rep (α : Type) := World → List Value → α → List Nat → Prop
structure Rep.Frame {α : Type} (R : Rep α) : Prop where
  lt : ∀ {w cs a fp}, R w cs a fp → ∀ b ∈ fp, b < w.heap.size
  keep : ∀ {w w' cs a fp}, R w cs a fp → (∀ b ∈ fp, w'.heap[b]? = w.heap[b]?) → w.heap.size ≤ w'.heap.size → R w' cs a fp
theorem Rep.Frame.below {α : Type} {R : Rep α} (F : R.Frame) {w w' : World} {cs : List Value} {a : α} {fp : List Nat} (h : R w cs a fp) {B : Nat} (hb : Below B w w') (hB : w.heap.size ≤ B) : R w' cs a fp :=
  F.keep h (fun b hm => hb.block b (Nat.lt_of_lt_of_le (F.lt h b hm) hB)) hb.size
def intR : Rep Int := fun _ cs z fp => cs = [.int .i64 z] ∧ fp = []
def andR {α β : Type} (A : Rep α) (B : Rep β) : Rep (α × β) := fun w cs p fp => ∃ c1 c2 f1 f2, cs = c1 ++ c2 ∧ fp = f1 ++ f2 ∧ A w c1 p.1 f1 ∧ B w c2 p.2 f2
def viaR {α β : Type} (A : Rep α) (f : β → α) : Rep β := fun w cs b fp => A w cs (f b) fp
def slcR {α : Type} (e : TypeId) (size : Nat) (A : Rep α) : Rep (List α) := fun w cs xs fp =>
  ∃ (v : Value) (c : Nat → List Value) (f : Nat → List Nat), cs = [v] ∧ w.ownsRow 0 e size v xs.length ((List.range xs.length).map c).flatten ∧ (∀ i, i < xs.length → (c i).length = size) ∧ (∀ i a, xs[i]? = some a → A w (c i) a (f i)) ∧
    fp = v.ownBlock.toList ++ ((List.range xs.length).map f).flatten
theorem intR_frame : intR.Frame := ⟨fun h b hm => absurd hm (by rw [h.2]; exact List.not_mem_nil), fun h _ _ => h⟩
theorem andR_frame {α β : Type} {A : Rep α} {B : Rep β} (FA : A.Frame) (FB : B.Frame) : (andR A B).Frame := by
  refine ⟨?_, ?_⟩
  · rintro w cs a fp ⟨c1, c2, f1, f2, rfl, rfl, h1, h2⟩ b hm
    rcases List.mem_append.1 hm with hm | hm
    · exact FA.lt h1 b hm
    · exact FB.lt h2 b hm
  · rintro w w' cs a fp ⟨c1, c2, f1, f2, rfl, rfl, h1, h2⟩ hk hs
    exact ⟨c1, c2, f1, f2, rfl, rfl, FA.keep h1 (fun b hm => hk b (List.mem_append_left _ hm)) hs, FB.keep h2 (fun b hm => hk b (List.mem_append_right _ hm)) hs⟩
theorem viaR_frame {α β : Type} {A : Rep α} (FA : A.Frame) (f : β → α) : (viaR A f).Frame := ⟨fun h => FA.lt h, fun h hk hs => FA.keep h hk hs⟩
theorem ownsRow_same {w w' : World} {B : Nat} {e : TypeId} {size n : Nat} {v : Value} {xs : List Value} (h : w.ownsRow B e size v n xs) (hk : ∀ g, v.ownBlock = some g → w'.heap[g]? = w.heap[g]?) : w'.ownsRow B e size v n xs := by
  refine ⟨h.1, ?_⟩
  rcases h.2 with hn | ⟨g, cap, cur, rfl, hb, hg, r⟩
  · exact .inl hn
  · exact .inr ⟨g, cap, cur, rfl, hb, (hk g rfl).trans hg, r⟩
theorem mem_fps {n : Nat} {f : Nat → List Nat} {b : Nat} (h : b ∈ ((List.range n).map f).flatten) : ∃ i, i < n ∧ b ∈ f i := by
  obtain ⟨l, hl, hb⟩ := List.mem_flatten.1 h
  obtain ⟨i, hi, rfl⟩ := List.mem_map.1 hl
  exact ⟨i, List.mem_range.1 hi, hb⟩
theorem mem_fps_of {n : Nat} {f : Nat → List Nat} {b i : Nat} (hi : i < n) (h : b ∈ f i) : b ∈ ((List.range n).map f).flatten :=
  List.mem_flatten.2 ⟨f i, List.mem_map.2 ⟨i, List.mem_range.2 hi, rfl⟩, h⟩
theorem slcR_frame {α : Type} {A : Rep α} (FA : A.Frame) (e : TypeId) (size : Nat) : (slcR e size A).Frame := by
  refine ⟨?_, ?_⟩
  · rintro w cs xs fp ⟨v, c, f, rfl, ho, hl, ha, rfl⟩ b hm
    rcases List.mem_append.1 hm with hm | hm
    · exact (ho.lt b (by cases hv : v.ownBlock <;> simp [hv] at hm ⊢; exact hm.symm)).2
    · obtain ⟨i, hi, hb⟩ := mem_fps hm
      exact FA.lt (ha i _ (List.getElem?_eq_getElem hi)) b hb
  · rintro w w' cs xs fp ⟨v, c, f, rfl, ho, hl, ha, rfl⟩ hk hs
    refine ⟨v, c, f, rfl, ownsRow_same ho (fun g hg => hk g (List.mem_append_left _ (by simp [hg]))), hl, fun i a hi => FA.keep (ha i a hi) (fun b hm => hk b (List.mem_append_right _ (mem_fps_of ?_ hm))) hs, rfl⟩
    exact (List.getElem?_eq_some_iff.1 hi).1
theorem flat_at {c : Nat → List Value} {size n i k : Nat} (hl : ∀ i, i < n → (c i).length = size) (hi : i < n) (hk : k < size) : ((List.range n).map c).flatten[i * size + k]? = (c i)[k]? := by
  induction n with
  | zero => omega
  | succ n ih =>
    have hn : ((List.range n).map c).flatten.length = n * size := by
      clear ih hi
      induction n with
      | zero => simp
      | succ m im =>
        rw [List.range_succ, List.map_append, List.flatten_append, List.length_append, im (fun i hi => hl i (by omega))]
        simp [hl m (by omega), Nat.succ_mul]
    rw [List.range_succ, List.map_append, List.flatten_append]
    by_cases h : i < n
    · rw [List.getElem?_append_left (by rw [hn]; (have : i * size + size ≤ n * size := by rw [← Nat.succ_mul]; exact Nat.mul_le_mul_right _ h); omega)]
      exact ih (fun i hi => hl i (by omega)) h
    · obtain rfl : i = n := by omega
      rw [List.getElem?_append_right (by rw [hn]; omega), hn, Nat.add_sub_cancel_left]
      simp
theorem flat_len {c : Nat → List Value} {size n : Nat} (hl : ∀ i, i < n → (c i).length = size) : ((List.range n).map c).flatten.length = n * size := by
  induction n with
  | zero => simp
  | succ m im =>
    rw [List.range_succ, List.map_append, List.flatten_append, List.length_append, im (fun i hi => hl i (by omega))]
    simp [hl m (by omega), Nat.succ_mul]
def flatR {α : Type} (enc : α → List Value) : Rep α := fun _ cs a fp => cs = enc a ∧ fp = []
theorem flatR_frame {α : Type} (enc : α → List Value) : (flatR enc).Frame := ⟨fun h b hm => absurd hm (by rw [h.2]; exact List.not_mem_nil), fun h _ _ => h⟩
theorem range_flat {α : Type} (xs : List α) (enc : α → List Value) (c : Nat → List Value) (hc : ∀ i a, xs[i]? = some a → c i = enc a) : ((List.range xs.length).map c).flatten = xs.flatMap enc := by
  have e : (List.range xs.length).map c = xs.map enc := by
    apply List.ext_getElem?
    intro i
    by_cases h : i < xs.length
    · have hi := List.getElem?_eq_getElem h
      simp [h, hc i _ hi]
    · have h' : xs.length ≤ i := by omega
      simp [h']
  rw [e, List.flatMap_def]
theorem nil_flat {n : Nat} : ((List.range n).map fun _ => ([] : List Nat)).flatten = [] := by
  induction n with
  | zero => rfl
  | succ n ih => rw [List.range_succ, List.map_append, List.flatten_append, ih]; rfl
theorem one_flat {β : Type} (l : List Nat) (g : Nat → β) : (l.map fun i => [g i]).flatten = l.map g := by
  induction l with
  | nil => rfl
  | cons a l ih => simp [ih]
section
variable {α : Type} {enc : α → List Value} {w : World} {B size : Nat} {e : TypeId} {v : Value} {xs : List α}
theorem slc_flat_of (h : w.ownsRow B e size v xs.length (xs.flatMap enc)) (hl : ∀ a, (enc a).length = size) : slcR e size (flatR enc) w [v] xs v.ownBlock.toList := by
  refine ⟨v, fun i => (xs[i]?.map enc).getD [], fun _ => [], rfl, ?_, fun i hi => ?_, fun i a hi => ?_, ?_⟩
  · rw [range_flat xs enc _ (fun i a hi => by simp [hi])]
    exact ownsRow_base h (Nat.zero_le _)
  · simp [List.getElem?_eq_getElem hi, hl]
  · exact ⟨by simp [hi], rfl⟩
  · rw [nil_flat, List.append_nil]
theorem slc_flat_to {cs : List Value} {fp : List Nat} (h : slcR e size (flatR enc) w cs xs fp) : ∃ v, cs = [v] ∧ w.ownsRow 0 e size v xs.length (xs.flatMap enc) ∧ fp = v.ownBlock.toList := by
  obtain ⟨v, c, f, rfl, ho, hl, ha, rfl⟩ := h
  refine ⟨v, rfl, ?_, ?_⟩
  · rw [range_flat xs enc c (fun i a hi => (ha i a hi).1)] at ho
    exact ho
  · have e : (List.range xs.length).map f = (List.range xs.length).map fun _ => [] := List.map_congr_left fun i hi => (ha i _ (List.getElem?_eq_getElem (List.mem_range.1 hi))).2
    rw [e, nil_flat, List.append_nil]
end
def encI (z : Int) : List Value := [.int .i64 z]
def flR {α : Type} (e : TypeId) (size : Nat) (enc : α → List Value) : Rep (List α) := fun w cs xs fp => slcR e size (flatR enc) w cs xs fp ∨ (xs = [] ∧ fp = [] ∧ ∃ b o, cs = [.slice (some ⟨b, o, none⟩) 0 0] ∧ b < w.heap.size)
theorem flR_frame {α : Type} {e : TypeId} {size : Nat} {enc : α → List Value} : (flR e size enc).Frame :=
  ⟨fun h => h.elim (fun h => (slcR_frame (flatR_frame _) _ _).lt h) fun h b hm => (by rw [h.2.1] at hm; cases hm), fun h hk hs => h.elim (fun h => .inl ((slcR_frame (flatR_frame _) _ _).keep h hk hs)) fun ⟨h1, h2, b, o, h3, h4⟩ => .inr ⟨h1, h2, b, o, h3, Nat.lt_of_lt_of_le h4 hs⟩⟩
def intsR : Rep (List Int) := flR 3 1 encI
def rowsR : Rep (List (List Int)) := slcR 23 1 intsR
theorem intsR_frame : intsR.Frame := flR_frame
theorem rowsR_frame : rowsR.Frame := slcR_frame intsR_frame _ _
theorem block_mem {v : Value} {b : Nat} (h : b ∈ v.ownBlock.toList) : v.ownBlock = some b := by
  cases hv : v.ownBlock <;> simp [hv] at h ⊢
  exact h.symm
theorem block_nodup (v : Value) : v.ownBlock.toList.Nodup := by cases v.ownBlock <;> simp
structure Rep.One {α : Type} (R : Rep α) (size : Nat) : Prop where
  len : ∀ {w cs a fp}, R w cs a fp → cs.length = size
  one : ∀ {w cs a fp}, R w cs a fp → ∀ u ∈ cs, u.oneCell' = true
theorem slcR_value {α : Type} {A : Rep α} {e : TypeId} {size : Nat} {w : World} {v : Value} {xs : List α} {fp : List Nat} (h : slcR e size A w [v] xs fp) : ∃ x c, v = .slice x xs.length c ∧ xs.length ≤ c ∧ c ≤ maxLen := by
  obtain ⟨v', c, f, ev, ho, _⟩ := h
  cases ev
  rcases ho.2 with ⟨rfl, h0⟩ | ⟨g, cap, cur, rfl, hb, hg, hn, hc, _⟩
  · exact ⟨none, 0, by rw [h0], by omega, Nat.zero_le _⟩
  · exact ⟨_, _, rfl, hn, hc⟩
theorem flR_value {α : Type} {enc : α → List Value} {e : TypeId} {size : Nat} {w : World} {v : Value} {xs : List α} {fp : List Nat} (h : flR e size enc w [v] xs fp) : ∃ x c, v = .slice x xs.length c ∧ xs.length ≤ c ∧ c ≤ maxLen := by
  rcases h with h | ⟨rfl, _, b, o, e1, _⟩
  · exact slcR_value h
  · exact ⟨_, 0, (List.cons.inj e1).1, Nat.le_refl _, Nat.zero_le _⟩
def upd {β : Type} (f : Nat → β) (n : Nat) (x : β) : Nat → β := fun i => if i = n then x else f i
theorem upd_same {β : Type} (f : Nat → β) (n : Nat) (x : β) : upd f n x n = x := if_pos rfl
theorem upd_other {β : Type} (f : Nat → β) {n i : Nat} (x : β) (h : i ≠ n) : upd f n x i = f i := if_neg h
structure Els {α : Type} (A : Rep α) (e : TypeId) (size : Nat) (w : World) (B : Nat) (v : Value) (xs : List α) (c : Nat → List Value) (f : Nat → List Nat) : Prop where
  own : w.ownsRow B e size v xs.length ((List.range xs.length).map c).flatten
  len : ∀ i, i < xs.length → (c i).length = size
  one : ∀ i a, xs[i]? = some a → A w (c i) a (f i)
def fps (v : Value) (n : Nat) (f : Nat → List Nat) : List Nat := v.ownBlock.toList ++ ((List.range n).map f).flatten
theorem mem_own {v : Value} {b n : Nat} {f : Nat → List Nat} (h : v.ownBlock = some b) : b ∈ fps v n f := List.mem_append_left _ (by simp [h])
theorem mem_el {v : Value} {b n i : Nat} {f : Nat → List Nat} (hi : i < n) (h : b ∈ f i) : b ∈ fps v n f := List.mem_append_right _ (mem_fps_of hi h)
theorem mem_split {v : Value} {b n : Nat} {f : Nat → List Nat} (h : b ∈ fps v n f) : v.ownBlock = some b ∨ ∃ i, i < n ∧ b ∈ f i := by
  rcases List.mem_append.1 h with h | h
  · exact .inl (block_mem h)
  · exact .inr (mem_fps h)
section
variable {α : Type} {A : Rep α} {e : TypeId} {size : Nat} {w : World} {B : Nat} {v : Value} {xs : List α} {c : Nat → List Value} {f : Nat → List Nat}
theorem Els.rep (h : Els A e size w B v xs c f) : slcR e size A w [v] xs (fps v xs.length f) := ⟨v, c, f, rfl, ownsRow_base h.own (Nat.zero_le _), h.len, h.one, rfl⟩
theorem slcR_els {cs : List Value} {fp : List Nat} (h : slcR e size A w cs xs fp) : ∃ v c f, cs = [v] ∧ Els A e size w 0 v xs c f ∧ fp = fps v xs.length f := by
  obtain ⟨v, c, f, rfl, ho, hl, ha, rfl⟩ := h
  exact ⟨v, c, f, rfl, ⟨ho, hl, ha⟩, rfl⟩
theorem Els.nil (w : World) (B : Nat) (c : Nat → List Value) (f : Nat → List Nat) : Els A e size w B (.slice none 0 0) [] c f := ⟨World.ownsRow_nil w B e size, fun i hi => absurd hi (Nat.not_lt_zero i), fun i a hi => by simp at hi⟩
theorem flat_upd (n : Nat) (c : Nat → List Value) (cs : List Value) : ((List.range (n + 1)).map (upd c n cs)).flatten = ((List.range n).map c).flatten ++ cs := by
  rw [List.range_succ, List.map_append, List.flatten_append]
  have e : (List.range n).map (upd c n cs) = (List.range n).map c := List.map_congr_left fun i hi => upd_other c cs (by have := List.mem_range.1 hi; omega)
  rw [e]
  simp [upd_same]
theorem Els.snoc (h : Els A e size w B v xs c f) (FA : A.Frame) {w' : World} {v' : Value} {cs : List Value} {a : α} {fa : List Nat} (ho : w'.ownsRow B e size v' (xs.length + 1) (((List.range xs.length).map c).flatten ++ cs)) (hc : cs.length = size)
    (hk : ∀ i, i < xs.length → ∀ b ∈ f i, w'.heap[b]? = w.heap[b]?) (hs : w.heap.size ≤ w'.heap.size) (ha : A w' cs a fa) : Els A e size w' B v' (xs ++ [a]) (upd c xs.length cs) (upd f xs.length fa) := by
  have ln : (xs ++ [a]).length = xs.length + 1 := by simp
  refine ⟨by rw [ln, flat_upd]; exact ho, fun i hi => ?_, fun i x hx => ?_⟩
  · rw [ln] at hi
    by_cases q : i = xs.length
    · rw [q, upd_same]; exact hc
    · rw [upd_other _ _ q]; exact h.len i (by omega)
  · by_cases q : i = xs.length
    · subst q
      rw [upd_same, upd_same]
      have : x = a := by simp at hx; exact hx.symm
      rw [this]; exact ha
    · have hi : i < xs.length := by have := (List.getElem?_eq_some_iff.1 hx).1; simp at this; omega
      rw [upd_other _ _ q, upd_other _ _ q]
      rw [List.getElem?_append_left hi] at hx
      exact FA.keep (h.one i x hx) (hk i hi) hs
theorem Els.cell (h : Els A e size w B v xs c f) {i k : Nat} (hi : i < xs.length) {z : Value} (hz : (c i)[k]? = some z) : ∃ g cap, v = .slice (some ⟨g, 0, none⟩) xs.length cap ∧ B ≤ g ∧ g < w.heap.size ∧ xs.length ≤ cap ∧ cap ≤ maxLen ∧ w.cell? ⟨g, i * size + k, none⟩ = some z := by
  have hk : k < size := by have := (List.getElem?_eq_some_iff.1 hz).1; rw [h.len i hi] at this; exact this
  rcases h.own.2 with ⟨rfl, h0⟩ | ⟨g, cap, cur, rfl, hb, hg, hn, hc, hs, ht⟩
  · omega
  · refine ⟨g, cap, rfl, hb, (Array.getElem?_eq_some_iff.1 hg).1, hn, hc, ?_⟩
    have lt : i * size + k < xs.length * size := by
      have : i * size + size ≤ xs.length * size := by rw [← Nat.succ_mul]; exact Nat.mul_le_mul_right _ hi
      omega
    rw [World.ownsRow.cellAt h.own _ lt, flat_at h.len hi hk, hz]
theorem flat_set {n i k : Nat} {u : Value} (hl : ∀ i, i < n → (c i).length = size) (hi : i < n) (hk : k < size) : ((List.range n).map c).flatten.set (i * size + k) u = ((List.range n).map (upd c i ((c i).set k u))).flatten := by
  have hl' : ∀ j, j < n → (upd c i ((c i).set k u) j).length = size := fun j hj => by
    by_cases q : j = i
    · rw [q, upd_same, List.length_set]; exact hl i hi
    · rw [upd_other _ _ q]; exact hl j hj
  apply List.ext_getElem?
  intro j
  by_cases hj : j < n * size
  · have s0 : 0 < size := by omega
    obtain ⟨q, r, rfl, hr, hq⟩ : ∃ q r, j = q * size + r ∧ r < size ∧ q < n := ⟨j / size, j % size, by rw [Nat.mul_comm]; exact (Nat.div_add_mod j size).symm, Nat.mod_lt _ s0, (Nat.div_lt_iff_lt_mul s0).2 hj⟩
    rw [List.getElem?_set, flat_at hl' hq hr, flat_len hl]
    by_cases d : q = i
    · subst d
      rw [upd_same, List.getElem?_set]
      by_cases d2 : k = r
      · rw [if_pos (by rw [d2]), if_pos (by rw [d2]; exact hj), if_pos d2, if_pos (by rw [hl q hq]; exact hk)]
      · rw [if_neg (fun x => d2 (by omega)), if_neg d2, flat_at hl hq hr]
    · rw [upd_other _ _ d, if_neg ?_, flat_at hl hq hr]
      intro x
      apply d
      have x1 : (i * size + k) / size = i := by rw [Nat.mul_comm, Nat.mul_add_div s0, Nat.div_eq_of_lt hk, Nat.add_zero]
      have x2 : (q * size + r) / size = q := by rw [Nat.mul_comm, Nat.mul_add_div s0, Nat.div_eq_of_lt hr, Nat.add_zero]
      rw [← x1, x, x2]
  · rw [List.getElem?_eq_none (by rw [List.length_set, flat_len hl]; omega), List.getElem?_eq_none (by rw [flat_len hl']; omega)]
theorem Els.set {g cap : Nat} (h : Els A e size w B (.slice (some ⟨g, 0, none⟩) xs.length cap) xs c f) (FA : A.Frame) {i k : Nat} (hi : i < xs.length) (hk : k < size) {u : Value} {a : α} {fa : List Nat}
    (off : ∀ j, j < xs.length → j ≠ i → g ∉ f j) (ha : A (w.setCell ⟨g, i * size + k, none⟩ u) ((c i).set k u) a fa) :
    Els A e size (w.setCell ⟨g, i * size + k, none⟩ u) B (.slice (some ⟨g, 0, none⟩) xs.length cap) (xs.set i a) (upd c i ((c i).set k u)) (upd f i fa) := by
  obtain ⟨s1, s2⟩ := World.ownsRow.stored h.own (i * size + k) u
  have ln : (xs.set i a).length = xs.length := List.length_set
  refine ⟨?_, fun j hj => ?_, fun j x hx => ?_⟩
  · rw [ln, ← flat_set h.len hi hk]; exact s1
  · rw [ln] at hj
    by_cases q : j = i
    · rw [q, upd_same, List.length_set]; exact h.len i hi
    · rw [upd_other _ _ q]; exact h.len j hj
  · by_cases q : j = i
    · subst q
      rw [upd_same, upd_same]
      rw [List.getElem?_set_self hi] at hx
      rw [← Option.some.inj hx]; exact ha
    · rw [upd_other _ _ q, upd_other _ _ q]
      rw [List.getElem?_set_ne (fun z => q z.symm)] at hx
      have hj := (List.getElem?_eq_some_iff.1 hx).1
      exact FA.keep (h.one j x hx) (fun b hb => s2.block b (FA.lt (h.one j x hx) b hb) (fun z => off j hj q (by rw [← Option.some.inj z]; exact hb))) s2.size
end
section
variable {v : Value} {n : Nat} {f : Nat → List Nat}
theorem flat_nodup : ((List.range n).map f).flatten.Nodup ↔ (∀ i, i < n → (f i).Nodup) ∧ ∀ i j, i < n → j < n → i ≠ j → ∀ b ∈ f i, b ∉ f j := by
  induction n with
  | zero => exact ⟨fun _ => ⟨fun i hi => absurd hi (Nat.not_lt_zero i), fun i j hi => absurd hi (Nat.not_lt_zero i)⟩, fun _ => by simp⟩
  | succ n ih =>
    rw [List.range_succ, List.map_append, List.flatten_append, List.nodup_append, ih]
    simp only [List.map_cons, List.map_nil, List.flatten_cons, List.flatten_nil, List.append_nil]
    constructor
    · rintro ⟨⟨h1, h2⟩, h3, h4⟩
      refine ⟨fun i hi => ?_, fun i j hi hj ne b hb hb' => ?_⟩
      · by_cases q : i = n
        · rw [q]; exact h3
        · exact h1 i (by omega)
      · by_cases qi : i = n
        · subst qi
          exact h4 b (mem_fps_of (show j < i by omega) hb') b hb rfl
        · by_cases qj : j = n
          · subst qj
            exact h4 b (mem_fps_of (show i < j by omega) hb) b hb' rfl
          · exact h2 i j (by omega) (by omega) ne b hb hb'
    · rintro ⟨h1, h2⟩
      refine ⟨⟨fun i hi => h1 i (by omega), fun i j hi hj => h2 i j (by omega) (by omega)⟩, h1 n (by omega), fun a ha b hb e => ?_⟩
      subst e
      obtain ⟨i, hi, hm⟩ := mem_fps ha
      exact h2 i n (by omega) (by omega) (by omega) a hm hb
theorem fps_nodup : (fps v n f).Nodup ↔ ((∀ i, i < n → (f i).Nodup) ∧ ∀ i j, i < n → j < n → i ≠ j → ∀ b ∈ f i, b ∉ f j) ∧ ∀ g, v.ownBlock = some g → ∀ i, i < n → g ∉ f i := by
  unfold fps
  rw [List.nodup_append, flat_nodup]
  constructor
  · rintro ⟨_, h, k⟩
    exact ⟨h, fun g hg i hi hm => k g (by simp [hg]) g (mem_fps_of hi hm) rfl⟩
  · rintro ⟨h, k⟩
    refine ⟨block_nodup v, h, fun a ha b hb e => ?_⟩
    subst e
    obtain ⟨i, hi, hm⟩ := mem_fps hb
    exact k a (block_mem ha) i hi hm
theorem fps_changed (h : (fps v n f).Nodup) {i : Nat} (hi : i < n) {x : List Nat} (hx : x.Nodup) (hd : ∀ b ∈ x, b ∈ f i ∨ b ∉ fps v n f) : (fps v n (upd f i x)).Nodup := by
  obtain ⟨⟨h1, h2⟩, h3⟩ := fps_nodup.1 h
  have far : ∀ b ∈ x, ∀ j, j < n → j ≠ i → b ∉ f j := fun b hb j hj ne hm => by
    rcases hd b hb with q | q
    · exact h2 i j hi hj (fun e => ne e.symm) b q hm
    · exact q (mem_el hj hm)
  refine fps_nodup.2 ⟨⟨fun j hj => ?_, fun j k hj hk ne b hb hb' => ?_⟩, fun g hg j hj hm => ?_⟩
  · by_cases q : j = i
    · rw [q, upd_same]; exact hx
    · rw [upd_other _ _ q]; exact h1 j hj
  · by_cases qj : j = i
    · subst qj
      rw [upd_same] at hb
      rw [upd_other _ _ (fun e => ne e.symm)] at hb'
      exact far b hb k hk (fun e => ne e.symm) hb'
    · rw [upd_other _ _ qj] at hb
      by_cases qk : k = i
      · subst qk
        rw [upd_same] at hb'
        exact far b hb' j hj qj hb
      · rw [upd_other _ _ qk] at hb'
        exact h2 j k hj hk ne b hb hb'
  · by_cases q : j = i
    · rw [q, upd_same] at hm
      rcases hd g hm with d | d
      · exact h3 g hg i hi d
      · exact d (mem_own hg)
    · rw [upd_other _ _ q] at hm
      exact h3 g hg j hj hm
theorem fps_mem_changed {i b : Nat} {x : List Nat} (h : b ∈ fps v n (upd f i x)) : b ∈ fps v n f ∨ b ∈ x := by
  rcases mem_split h with h | ⟨j, hj, h⟩
  · exact .inl (mem_own h)
  · by_cases q : j = i
    · rw [q, upd_same] at h; exact .inr h
    · rw [upd_other _ _ q] at h; exact .inl (mem_el hj h)
theorem fps_more (h : (fps v n f).Nodup) {v' : Value} {x : List Nat} (hx : x.Nodup) (hd : ∀ b ∈ x, ∀ i, i < n → b ∉ f i) (hv : ∀ g, v'.ownBlock = some g → (∀ i, i < n → g ∉ f i) ∧ g ∉ x) : (fps v' (n + 1) (upd f n x)).Nodup := by
  obtain ⟨⟨h1, h2⟩, _⟩ := fps_nodup.1 h
  refine fps_nodup.2 ⟨⟨fun j hj => ?_, fun j k hj hk ne b hb hb' => ?_⟩, fun g hg j hj hm => ?_⟩
  · by_cases q : j = n
    · rw [q, upd_same]; exact hx
    · rw [upd_other _ _ q]; exact h1 j (by omega)
  · by_cases qj : j = n
    · subst qj
      rw [upd_same] at hb
      rw [upd_other _ _ (fun e => ne e.symm)] at hb'
      exact hd b hb k (by omega) hb'
    · rw [upd_other _ _ qj] at hb
      by_cases qk : k = n
      · subst qk
        rw [upd_same] at hb'
        exact hd b hb' j (by omega) hb
      · rw [upd_other _ _ qk] at hb'
        exact h2 j k (by omega) (by omega) ne b hb hb'
  · by_cases q : j = n
    · rw [q, upd_same] at hm; exact (hv g hg).2 hm
    · rw [upd_other _ _ q] at hm; exact (hv g hg).1 j (by omega) hm
theorem fps_mem_more {b : Nat} {v' : Value} {x : List Nat} (h : b ∈ fps v' (n + 1) (upd f n x)) : v'.ownBlock = some b ∨ b ∈ fps v n f ∨ b ∈ x := by
  rcases mem_split h with h | ⟨j, hj, h⟩
  · exact .inl h
  · by_cases q : j = n
    · rw [q, upd_same] at h; exact .inr (.inr h)
    · rw [upd_other _ _ q] at h; exact .inr (.inl (mem_el (by omega) h))
end
def Sole {α : Type} (R : Rep α) (B : Nat) (w : World) (cs : List Value) (a : α) (fp : List Nat) : Prop := R w cs a fp ∧ fp.Nodup ∧ ∀ b ∈ fp, B ≤ b
section
variable {α : Type} {A : Rep α} {e : TypeId} {size : Nat} {w : World} {B : Nat} {xs : List α} {fp : List Nat}
theorem Sole.set (FA : A.Frame) {g n cap : Nat} (h : Sole (slcR e size A) B w [.slice (some ⟨g, 0, none⟩) n cap] xs fp) {i k : Nat} {x : α} (hi : xs[i]? = some x) (hk : k < size) :
    n = xs.length ∧ g ∈ fp ∧ ∃ ci fi, A w ci x fi ∧ (∀ b ∈ fi, b ∈ fp) ∧ fi.Nodup ∧ g ∉ fi ∧ ci.length = size ∧ (∀ j z, ci[j]? = some z → w.cell? ⟨g, i * size + j, none⟩ = some z) ∧ (∀ u, w.grownBy (w.setCell ⟨g, i * size + k, none⟩ u) (some g)) ∧
      ∀ u x' fi', A (w.setCell ⟨g, i * size + k, none⟩ u) (ci.set k u) x' fi' → fi'.Nodup → (∀ b ∈ fi', (b ∈ fi ∨ b ∉ fp) ∧ B ≤ b) →
        ∃ fp', Sole (slcR e size A) B (w.setCell ⟨g, i * size + k, none⟩ u) [.slice (some ⟨g, 0, none⟩) n cap] (xs.set i x') fp' ∧ (∀ b ∈ fp', b ∈ fp ∨ b ∈ fi') := by
  obtain ⟨hR, nd, low⟩ := h
  obtain ⟨v, c, f, ev, E, rfl⟩ := slcR_els hR
  have hlt : i < xs.length := (List.getElem?_eq_some_iff.1 hi).1
  cases ev
  obtain ⟨z, hz⟩ : ∃ z, (c i)[k]? = some z := ⟨(c i)[k]'(by rw [E.len i hlt]; exact hk), List.getElem?_eq_getElem _⟩
  obtain ⟨g', cap', ev, _, _, _, _, _⟩ := E.cell hlt hz
  injection ev with e1 e2 e3
  have en : n = xs.length := e2
  subst en
  refine ⟨rfl, mem_own rfl, c i, f i, E.one i x hi, fun b hb => mem_el hlt hb, ?_, ?_, E.len i hlt, fun j z hz => ?_, fun u => (World.ownsRow.stored E.own _ u).2, fun u x' fi' ha nf hd => ?_⟩
  · exact (fps_nodup.1 nd).1.1 i hlt
  · exact (fps_nodup.1 nd).2 g rfl i hlt
  · obtain ⟨g2, cap2, ev2, _, _, _, _, hc⟩ := E.cell hlt hz
    injection ev2 with q1 q2 q3
    injection q1 with q1
    injection q1 with q1
    rw [q1]; exact hc
  · have S := E.set FA hlt hk (u := u) (a := x') (fa := fi') (fun j hj _ => (fps_nodup.1 nd).2 g rfl j hj) ha
    have R := S.rep
    rw [List.length_set] at R
    refine ⟨_, ⟨R, fps_changed nd hlt nf (fun b hb => (hd b hb).1), fun b hb => ?_⟩, fun b hb => fps_mem_changed hb⟩
    rcases fps_mem_changed hb with q | q
    · exact low b q
    · exact (hd b q).2
theorem Sole.more (FA : A.Frame) {v : Value} (h : Sole (slcR e size A) B w [v] xs fp) : ∃ cells, w.ownsRow B e size v xs.length cells ∧ cells.length = xs.length * size ∧
    ∀ w' v' cs x fx, w'.ownsRow B e size v' (xs.length + 1) (cells ++ cs) → w.grownBy w' v.ownBlock → (v'.ownBlock = v.ownBlock ∨ ∀ g, v'.ownBlock = some g → w.heap.size ≤ g) → cs.length = size → Sole A B w' cs x fx → (∀ b ∈ fx, b ∉ fp) → (∀ g, v'.ownBlock = some g → g ∉ fx) →
      ∃ fp', Sole (slcR e size A) B w' [v'] (xs ++ [x]) fp' ∧ ∀ b ∈ fp', b ∈ fp ∨ b ∈ fx ∨ v'.ownBlock = some b := by
  obtain ⟨hR, nd, low⟩ := h
  obtain ⟨v0, c, f, ev, E, rfl⟩ := slcR_els hR
  cases ev
  have nd' := fps_nodup.1 nd
  have oB : w.ownsRow B e size v xs.length ((List.range xs.length).map c).flatten := by
    refine ⟨E.own.1, ?_⟩
    rcases E.own.2 with q | ⟨g, cap, cur, rfl, hb, r⟩
    · exact .inl q
    · exact .inr ⟨g, cap, cur, rfl, low g (mem_own rfl), r⟩
  refine ⟨_, oB, flat_len E.len, fun w' v' cs x fx ho hg hv hc hx hd hgx => ?_⟩
  have EB : Els A e size w B v xs c f := ⟨oB, E.len, E.one⟩
  have fl : ∀ i, i < xs.length → ∀ b ∈ f i, b < w.heap.size ∧ some b ≠ v.ownBlock := fun i hi b hb => ⟨FA.lt (E.one i _ (List.getElem?_eq_getElem hi)) b hb, fun q => nd'.2 b q.symm i hi hb⟩
  have S := EB.snoc FA ho hc (fun i hi b hb => hg.block b (fl i hi b hb).1 (fl i hi b hb).2) hg.size hx.1
  have R := S.rep
  rw [show (xs ++ [x]).length = xs.length + 1 by simp] at R
  refine ⟨_, ⟨R, fps_more nd hx.2.1 (fun b hb i hi hm => hd b hb (mem_el hi hm)) (fun g q => ⟨fun i hi hm => ?_, hgx g q⟩), fun b hb => ?_⟩, fun b hb => ?_⟩
  · rcases hv with hv | hv
    · exact (fl i hi g hm).2 (by rw [← hv, q])
    · have := hv g q
      have := (fl i hi g hm).1
      omega
  · rcases fps_mem_more (v := v) hb with q | q | q
    · exact (World.ownsRow.lt ho b q).1
    · exact low b q
    · exact hx.2.2 b q
  · rcases fps_mem_more (v := v) hb with q | q | q
    · exact .inr (.inr q)
    · exact .inl q
    · exact .inr (.inl q)
end
section
variable {α : Type} {A : Rep α} {e : TypeId} {size : Nat} {w : World} {xs : List α} {fp : List Nat} {v : Value}
theorem slcR_at (h : slcR e size A w [v] xs fp) {i : Nat} {x : α} (hi : xs[i]? = some x) : ∃ g cap ci fi, v = .slice (some ⟨g, 0, none⟩) xs.length cap ∧ g < w.heap.size ∧ xs.length ≤ cap ∧ cap ≤ maxLen ∧ A w ci x fi ∧ (∀ b ∈ fi, b ∈ fp) ∧ ci.length = size ∧ ∀ j z, ci[j]? = some z → w.cell? ⟨g, i * size + j, none⟩ = some z := by
  obtain ⟨v0, c, f, ev, E, rfl⟩ := slcR_els h
  cases ev
  have hlt : i < xs.length := (List.getElem?_eq_some_iff.1 hi).1
  rcases E.own.2 with ⟨rfl, h0⟩ | ⟨g, cap, cur, rfl, hb, hg, hn, hc, hs, ht⟩
  · omega
  · refine ⟨g, cap, c i, f i, rfl, (Array.getElem?_eq_some_iff.1 hg).1, hn, hc, E.one i x hi, fun b hb => mem_el hlt hb, E.len i hlt, fun j z hz => ?_⟩
    obtain ⟨g', cap', ev, _, _, _, _, q⟩ := E.cell hlt hz
    injection ev with q1 q2 q3
    injection q1 with q1
    injection q1 with q1
    rw [q1]; exact q
theorem slcR_row {x : Option Addr} {k c : Nat} (h : slcR e size A w [.slice x k c] xs fp) : k = xs.length ∧ ∀ {i : Nat} {a : α}, xs[i]? = some a → ∃ g ci fi, x = some ⟨g, 0, none⟩ ∧ g < w.heap.size ∧ A w ci a fi ∧ (∀ b ∈ fi, b ∈ fp) ∧ ci.length = size ∧ ∀ j z, ci[j]? = some z → w.cell? ⟨g, i * size + j, none⟩ = some z := by
  refine ⟨?_, fun {i a} hi => ?_⟩
  · obtain ⟨x', c', q, _⟩ := slcR_value h
    injection q
  · obtain ⟨g, cap, ci, fi, q, h1, _, _, h2, h3, h4, h5⟩ := slcR_at h hi
    injection q with q1 q2 q3
    exact ⟨g, ci, fi, q1, h1, h2, h3, h4, h5⟩
end
structure Ch where
  at_ : World → List Nat → Prop
  lt : ∀ {w : World} {f : List Nat}, at_ w f → ∀ b ∈ f, b < w.heap.size
  keep : ∀ {w w' : World} {f : List Nat}, at_ w f → (∀ b ∈ f, w'.heap[b]? = w.heap[b]?) → w.heap.size ≤ w'.heap.size → at_ w' f
def Rep.Frame.ch {α : Type} {R : Rep α} (F : R.Frame) (cs : List Value) (a : α) : Ch := ⟨fun w f => R w cs a f, F.lt, F.keep⟩
theorem nodup_one (b : Nat) : [b].Nodup := by simp
def emp : Ch := ⟨fun _ f => f = [], fun h b hb => (by rw [h] at hb; cases hb), fun h _ _ => h⟩
def boxC (b : Nat) (t : TypeId) (vs : Array Value) : Ch := ⟨fun w f => w.heap[b]? = some (.cells vs t (0, 0)) ∧ f = [b],
  fun h x hx => (by rw [h.2] at hx; rw [List.mem_singleton.1 hx]; exact (Array.getElem?_eq_some_iff.1 h.1).1),
  fun h hk _ => ⟨(hk b (by rw [h.2]; exact List.mem_singleton_self b)).trans h.1, h.2⟩⟩
def Ch.sep (c d : Ch) : Ch := ⟨fun w f => ∃ f1 f2, f = f1 ++ f2 ∧ c.at_ w f1 ∧ d.at_ w f2,
  fun ⟨_, _, e, h1, h2⟩ b hb => (List.mem_append.1 (by rw [e] at hb; exact hb)).elim (c.lt h1 b) (d.lt h2 b),
  fun ⟨f1, f2, e, h1, h2⟩ hk hs => ⟨f1, f2, e, c.keep h1 (fun b hb => hk b (by rw [e]; exact List.mem_append_left _ hb)) hs, d.keep h2 (fun b hb => hk b (by rw [e]; exact List.mem_append_right _ hb)) hs⟩⟩
def alls : List Ch → Ch
  | [] => emp
  | c :: l => c.sep (alls l)
structure M (B : Nat) (w0 w : World) (l : List Ch) : Prop where
  below : Below B w0 w
  low : B ≤ w.heap.size
  own : ∃ f, (alls l).at_ w f ∧ f.Nodup ∧ ∀ b ∈ f, B ≤ b
theorem M.start (w : World) : M w.heap.size w w [] := ⟨Below.refl _ _, Nat.le_refl _, [], rfl, List.nodup_nil, fun b hb => by cases hb⟩
section
variable {B : Nat} {w0 w w' : World} {l : List Ch} {c d : Ch}
theorem M.later (h : M B w0 w l) (hb : Below w.heap.size w w') : M B w0 w' l := by
  obtain ⟨f, ha, nd, lo⟩ := h.own
  exact ⟨h.below.trans (hb.mono h.low), Nat.le_trans h.low hb.size, f, (alls l).keep ha (fun b hm => hb.block b ((alls l).lt ha b hm)) hb.size, nd, lo⟩
theorem M.drew (h : M B w0 w l) : M B w0 w.drew l := h.later (Below.drew (Below.refl _ _))
theorem M.drewN (h : M B w0 w l) (n : Nat) : M B w0 (w.drewN n) l := h.later ⟨rfl, rfl, rfl, Nat.le_refl _, fun _ _ => rfl⟩
theorem M.add (h : M B w0 w l) (hb : Below w.heap.size w w') {f : List Nat} (ha : c.at_ w' f) (nd : f.Nodup) (lo : ∀ b ∈ f, w.heap.size ≤ b) : M B w0 w' (c :: l) := by
  obtain ⟨g, hg, ng, lg⟩ := h.own
  have h' := h.later hb
  refine ⟨h'.below, h'.low, f ++ g, ⟨f, g, rfl, ha, (alls l).keep hg (fun b hm => hb.block b ((alls l).lt hg b hm)) hb.size⟩, List.nodup_append.2 ⟨nd, ng, fun a h1 b h2 e => ?_⟩, fun b hm => ?_⟩
  · have := lo a h1; have := (alls l).lt hg b h2; omega
  · rcases List.mem_append.1 hm with hm | hm
    · exact Nat.le_trans h.low (lo b hm)
    · exact lg b hm
theorem M.got {α : Type} {R : Rep α} (F : R.Frame) {cs : List Value} {a : α} {fp : List Nat} (h : M B w0 w l) (hb : Below w.heap.size w w') (s : Sole R w.heap.size w' cs a fp) : M B w0 w' (F.ch cs a :: l) := h.add hb s.1 s.2.1 s.2.2
theorem M.alloc (h : M B w0 w l) (vs : Array Value) (t : TypeId) : M B w0 (w.alloc (.cells vs t)) (boxC w.heap.size t vs :: l) :=
  h.add ((Below.refl _ _).alloc (Nat.le_refl _) _) ⟨heap_alloc_new w _, rfl⟩ (nodup_one _) fun b hb => by rw [List.mem_singleton.1 hb]; exact Nat.le_refl _
theorem M.turn (h : M B w0 w (c :: l)) (k : ∀ f, c.at_ w f → f.Nodup → (∀ b ∈ f, B ≤ b) → KeptB (fun b => b ∈ f) w w' ∧ ∃ f', d.at_ w' f' ∧ f'.Nodup ∧ ∀ b ∈ f', b ∈ f ∨ w.heap.size ≤ b) : M B w0 w' (d :: l) := by
  obtain ⟨_, ⟨f, g, rfl, hc, hg⟩, nd, lo⟩ := h.own
  obtain ⟨n1, n2, n3⟩ := List.nodup_append.1 nd
  obtain ⟨hk, f', hd, nf, hf⟩ := k f hc n1 fun b hb => lo b (List.mem_append_left _ hb)
  refine ⟨h.below.trans (hk.below h.low fun b hb => lo b (List.mem_append_left _ hb)), Nat.le_trans h.low hk.size, f' ++ g, ⟨f', g, rfl, hd, (alls l).keep hg (fun b hm => hk.block b ((alls l).lt hg b hm) fun q => n3 b q b hm rfl) hk.size⟩, List.nodup_append.2 ⟨nf, n2, fun a h1 b h2 e => ?_⟩, fun b hm => ?_⟩
  · rcases hf a h1 with q | q
    · exact n3 a q b h2 e
    · have := (alls l).lt hg b h2; omega
  · rcases List.mem_append.1 hm with hm | hm
    · rcases hf b hm with q | q
      · exact lo b (List.mem_append_left _ q)
      · exact Nat.le_trans h.low q
    · exact lo b (List.mem_append_right _ hm)
theorem M.to (h : M B w0 w (c :: l)) (k : ∀ f, c.at_ w f → f.Nodup → ∃ f', d.at_ w f' ∧ f'.Nodup ∧ ∀ b ∈ f', b ∈ f) : M B w0 w (d :: l) :=
  h.turn fun f hf nd _ => let ⟨f', h1, h2, h3⟩ := k f hf nd; ⟨KeptB.refl _ _, f', h1, h2, fun b hb => .inl (h3 b hb)⟩
theorem M.set {b i : Nat} {t : TypeId} {vs : Array Value} (h : M B w0 w (boxC b t vs :: l)) (u : Value) : M B w0 (w.setCell ⟨b, i, none⟩ u) (boxC b t (vs.setIfInBounds i u) :: l) :=
  h.turn fun f hf _ _ => ⟨KeptB.of_grown (grownBy_setCell w ⟨b, i, none⟩ u) (by rw [hf.2]; exact List.mem_singleton_self b), [b], ⟨by rw [heap_setCell_same w b i _ _ _ hf.1], rfl⟩, nodup_one _, fun x hx => .inl (by rw [hf.2]; exact hx)⟩
theorem M.first (h : M B w0 w (c :: l)) : ∃ f, c.at_ w f ∧ f.Nodup ∧ ∀ b ∈ f, B ≤ b := by
  obtain ⟨_, ⟨f, g, rfl, hc, hg⟩, nd, lo⟩ := h.own
  exact ⟨f, hc, (List.nodup_append.1 nd).1, fun b hb => lo b (List.mem_append_left _ hb)⟩
theorem M.drop (h : M B w0 w (c :: l)) : M B w0 w l := by
  obtain ⟨_, ⟨f, g, rfl, hc, hg⟩, nd, lo⟩ := h.own
  exact ⟨h.below, h.low, g, hg, (List.nodup_append.1 nd).2.1, fun b hb => lo b (List.mem_append_right _ hb)⟩
theorem alls_perm {l l' : List Ch} (p : l.Perm l') : ∀ {w f}, (alls l).at_ w f → ∃ f', (alls l').at_ w f' ∧ f.Perm f' := by
  induction p with
  | nil => exact fun h => ⟨_, h, .refl _⟩
  | cons x _ ih =>
    rintro w f ⟨f1, f2, rfl, h1, h2⟩
    obtain ⟨g, hg, pg⟩ := ih h2
    exact ⟨f1 ++ g, ⟨f1, g, rfl, h1, hg⟩, .append_left _ pg⟩
  | swap x y l =>
    rintro w f ⟨f1, _, rfl, h1, ⟨f2, f3, rfl, h2, h3⟩⟩
    refine ⟨f2 ++ (f1 ++ f3), ⟨f2, _, rfl, h2, ⟨f1, f3, rfl, h1, h3⟩⟩, ?_⟩
    rw [← List.append_assoc, ← List.append_assoc]
    exact List.perm_append_comm.append_right _
  | trans _ _ i1 i2 =>
    intro w f h
    obtain ⟨g, hg, pg⟩ := i1 h
    obtain ⟨k, hk, pk⟩ := i2 hg
    exact ⟨k, hk, pg.trans pk⟩
theorem M.perm {l' : List Ch} (h : M B w0 w l) (p : l.Perm l') : M B w0 w l' := by
  obtain ⟨f, ha, nd, lo⟩ := h.own
  obtain ⟨g, hg, pg⟩ := alls_perm p ha
  exact ⟨h.below, h.low, g, hg, pg.nodup_iff.1 nd, fun b hb => lo b (pg.mem_iff.2 hb)⟩
theorem M.p1 {a b : Ch} (h : M B w0 w (a :: b :: l)) : M B w0 w (b :: a :: l) := h.perm (.swap _ _ _)
theorem M.p2 {a b c : Ch} (h : M B w0 w (a :: b :: c :: l)) : M B w0 w (c :: a :: b :: l) := h.perm ((List.Perm.swap _ _ _).cons a |>.trans (.swap _ _ _))
theorem perm_front {α : Type} (a : α) : ∀ (k l : List α), (k ++ a :: l).Perm (a :: k ++ l)
  | [], l => .refl _
  | x :: k, l => ((perm_front a k l).cons x).trans (.swap _ _ _)
theorem M.p3 {a' b' c' d' : Ch} (h : M B w0 w (a' :: b' :: c' :: d' :: l)) : M B w0 w (d' :: a' :: b' :: c' :: l) := h.perm (perm_front d' [a', b', c'] l)
theorem M.p4 {a' b' c' d' e' : Ch} (h : M B w0 w (a' :: b' :: c' :: d' :: e' :: l)) : M B w0 w (e' :: a' :: b' :: c' :: d' :: l) := h.perm (perm_front e' [a', b', c', d'] l)
theorem M.two (h : M B w0 w (c.sep d :: l)) : M B w0 w (c :: d :: l) := by
  obtain ⟨_, ⟨_, g, rfl, ⟨f1, f2, rfl, h1, h2⟩, hg⟩, nd, lo⟩ := h.own
  rw [List.append_assoc] at nd lo
  exact ⟨h.below, h.low, _, ⟨f1, _, rfl, h1, ⟨f2, g, rfl, h2, hg⟩⟩, nd, lo⟩
theorem M.sep (h : M B w0 w (c :: d :: l)) : M B w0 w (c.sep d :: l) := by
  obtain ⟨_, ⟨f1, _, rfl, h1, ⟨f2, g, rfl, h2, hg⟩⟩, nd, lo⟩ := h.own
  rw [← List.append_assoc] at nd lo
  exact ⟨h.below, h.low, _, ⟨_, g, rfl, ⟨f1, f2, rfl, h1, h2⟩, hg⟩, nd, lo⟩
section
variable {b i : Nat} {t : TypeId} {vs : Array Value}
theorem M.cell (h : M B w0 w (boxC b t vs :: l)) {u : Value} (hi : vs[i]? = some u) : w.cell? ⟨b, i, none⟩ = some u := by
  obtain ⟨f, hf, _⟩ := h.first
  simp [World.cell?, hf.1, hi]
theorem M.free (h : M B w0 w (boxC b t vs :: l)) (i : Nat) : w.frozen? ⟨b, i, none⟩ = false := by
  obtain ⟨f, hf, _⟩ := h.first
  simp [World.frozen?, hf.1]
end
theorem M.rd {α : Type} {R : Rep α} {F : R.Frame} {cs : List Value} {a : α} (h : M B w0 w (F.ch cs a :: l)) : ∃ f, R w cs a f := let ⟨f, hf, _⟩ := h.first; ⟨f, hf⟩
end
structure SlT (P : Program) (t e : TypeId) (z : Value) (size bytes : Nat) : Prop where
  und : P.underlying t = some (.slice e)
  info : (P.info? e).map (fun i => (i.zero, i.size, i.bytes)) = some (some z, size, bytes)
  zs : z.cells.size = size
  pos : 0 < size
section
variable {α : Type} {A : Rep α} {e : TypeId} {size : Nat} {w w' w0 : World} {B b : Nat} {l : List Ch} {xs : List α} {x : α} {v : Value} {cs : List Value}
def slcC (FA : A.Frame) (e : TypeId) (size : Nat) (v : Value) (xs : List α) : Ch := (slcR_frame FA e size).ch [v] xs
theorem M.nil (FA : A.Frame) (e : TypeId) (size : Nat) (h : M B w0 w l) : M B w0 w (slcC FA e size (.slice none 0 0) [] :: l) :=
  h.add (Below.refl _ _) (f := []) (Els.nil w 0 (fun _ => []) fun _ => []).rep List.nodup_nil fun b hb => by cases hb
theorem M.empty (FA : A.Frame) (size : Nat) (h : M B w0 w (boxC b e #[] :: l)) : M B w0 w (slcC FA e size (.slice (some ⟨b, 0, none⟩) 0 0) [] :: l) :=
  h.to fun f hf nd => ⟨f, by
    obtain ⟨hb, rfl⟩ := hf
    exact ⟨_, fun _ => [], fun _ => [], rfl, ⟨by simp, .inr ⟨b, 0, #[], rfl, Nat.zero_le _, hb, Nat.le_refl _, by simp [maxLen], by simp, by simp⟩⟩, fun i hi => absurd hi (Nat.not_lt_zero i), fun i a hi => by simp at hi, by simp [Value.ownBlock]⟩, nd, fun _ h => h⟩
theorem M.one (FA : A.Frame) (h : M B w0 w (boxC b e cs.toArray :: FA.ch cs x :: l)) (hc : cs.length = size) : M B w0 w (slcC FA e size (.slice (some ⟨b, 0, none⟩) 1 1) [x] :: l) :=
  h.sep.to fun f hf nd => ⟨f, by
    obtain ⟨_, f2, rfl, ⟨hb, rfl⟩, h2⟩ := hf
    refine ⟨_, fun _ => cs, fun _ => f2, rfl, ⟨by simp [hc], .inr ⟨b, 1, _, rfl, Nat.zero_le _, hb, Nat.le_refl _, by simp [maxLen], by simp [hc], by simp [← hc]⟩⟩, fun i hi => hc, fun i a hi => ?_, by simp [Value.ownBlock]⟩
    match i, hi with
    | 0, hi => simp at hi; subst hi; exact h2, nd, fun _ h => h⟩
theorem M.snoc (FA : A.Frame) (h : M B w0 w (slcC FA e size v xs :: FA.ch cs x :: l)) (hc : cs.length = size) : ∃ cells, w.ownsRow B e size v xs.length cells ∧
    ∀ w' v', w'.ownsRow B e size v' (xs.length + 1) (cells ++ cs) → w.grownBy w' v.ownBlock → (v'.ownBlock = v.ownBlock ∨ v'.ownBlock = some w.heap.size) → M B w0 w' (slcC FA e size v' (xs ++ [x]) :: l) := by
  obtain ⟨f, hf, nd, lo⟩ := h.first
  obtain ⟨cells, ho, _, _⟩ := Sole.more FA (v := v) (xs := xs) ⟨hf, nd, lo⟩
  refine ⟨cells, ho, fun w' v' ho' hg hv => h.sep.turn fun f hf nd lo => ?_⟩
  obtain ⟨f1, f2, rfl, h1, h2⟩ := hf
  obtain ⟨n1, n2, n3⟩ := List.nodup_append.1 nd
  obtain ⟨cells', ho2, _, more⟩ := Sole.more FA (v := v) (xs := xs) ⟨h1, n1, fun b hb => lo b (List.mem_append_left _ hb)⟩
  have own : ∀ g, v.ownBlock = some g → g ∈ f1 := fun g hg => by
    obtain ⟨_, _, _, ev, _, e1⟩ := slcR_els h1
    cases ev
    rw [e1]; exact mem_own hg
  have ec : cells' = cells := by
    rcases ho.2 with ⟨rfl, h0⟩ | ⟨g, cap, cur, rfl, _, hgg, _, _, _, ht⟩
    · exact (List.eq_nil_of_length_eq_zero (l := cells') (by rw [ho2.1, h0, Nat.zero_mul])).trans (List.eq_nil_of_length_eq_zero (by rw [ho.1, h0, Nat.zero_mul])).symm
    · rcases ho2.2 with ⟨q, _⟩ | ⟨g2, cap2, cur2, q, _, hgg2, _, _, _, ht2⟩
      · cases q
      · cases q
        rw [hgg] at hgg2
        cases hgg2
        rw [← ht, ← ht2]
  subst ec
  have off2 : ∀ b ∈ f2, some b ≠ v.ownBlock := fun b hb q => n3 b (own b q.symm) b hb rfl
  obtain ⟨f', hS, hm⟩ := more w' v' cs x f2 ho' hg (hv.imp id fun q g hg' => (by rw [q] at hg'; cases hg'; exact Nat.le_refl _)) hc
    ⟨FA.keep h2 (fun b hb => hg.block b (FA.lt h2 b hb) (off2 b hb)) hg.size, n2, fun b hb => lo b (List.mem_append_right _ hb)⟩ (fun b hb hb' => n3 b hb' b hb rfl)
    (fun g hg' hm => by
      rcases hv with q | q
      · exact off2 g hm (by rw [← q, hg'])
      · rw [q] at hg'; cases hg'; exact absurd (FA.lt h2 _ hm) (Nat.lt_irrefl _))
  refine ⟨⟨hg.os, hg.tape, hg.output, hg.size, fun k hk hs => hg.block k hk fun q => hs (List.mem_append_left _ (own k q.symm))⟩, f', hS.1, hS.2.1, fun b hb => ?_⟩
  rcases hm b hb with q | q | q
  · exact .inl (List.mem_append_left _ q)
  · exact .inl (List.mem_append_right _ q)
  · rcases hv with r | r
    · exact .inl (List.mem_append_left _ (own b (by rw [← r, q])))
    · rw [r] at q; cases q; exact .inr (Nat.le_refl _)
theorem row_slice {B : Nat} {n : Nat} {ys : List Value} (h : w.ownsRow B e size v n ys) : ∃ y c, v = .slice y n c := by
  rcases h.2 with ⟨rfl, rfl⟩ | ⟨g, cap, cur, rfl, _⟩
  · exact ⟨_, _, rfl⟩
  · exact ⟨_, _, rfl⟩
theorem run_app {P : Program} {t : TypeId} {z : Value} {bytes : Nat} (T : SlT P t e z size bytes) {FA : A.Frame} (OA : A.One size) (h : M B w0 w (boxC b e cs.toArray :: slcC FA e size v xs :: FA.ch cs x :: l))
    (ty : TypeId) (c : Nat) (h63 : xs.length + 1 ≤ maxLen) (hby : (xs.length + 1) * bytes ≤ 140737488355328) :
    ∃ y cap w', (Builtin.append_ #[t, t] ty #[v, .slice (some ⟨b, 0, none⟩) 1 c]).run P w = .ok (.slice y (xs.length + 1) cap) w' ∧ M B w0 w' (slcC FA e size (.slice y (xs.length + 1) cap) (xs ++ [x]) :: l) := by
  obtain ⟨i, hi, hz, hs, hb⟩ := info_parts T.info
  obtain ⟨f, hf, _⟩ := h.drop.p1.first
  have hc : cs.length = size := OA.len hf
  obtain ⟨cells, ho, more⟩ := h.drop.snoc FA hc
  obtain ⟨v', w', hr, h1, h2, _, h4⟩ := run_append_own_at (P := P) w B t ty e i z size bytes T.und hi hz hs hb T.zs T.pos v xs.length cells ho ⟨b, 0, none⟩ 1 c cs (by rw [hc, Nat.one_mul])
    (fun j u hu => by rw [Addr.add_mid, Nat.zero_add]; exact h.cell (by simpa using hu)) (OA.one hf) h63 hby h.low
  obtain ⟨y, cap, rfl⟩ := row_slice h1
  exact ⟨y, cap, w', hr, more w' _ h1 h2 h4⟩
theorem wp_app {P : Program} {t : TypeId} {z : Value} {bytes : Nat} (T : SlT P t e z size bytes) {FA : A.Frame} (OA : A.One size) (h : M B w0 w (boxC b e cs.toArray :: slcC FA e size v xs :: FA.ch cs x :: l))
    {o : Oper} {a : Act} {K : Act → World → Prop} {Q : Exit → Act → World → Prop} {s u : Operand} (ho : o.op = .call { callee := .builtin .append, args := #[s, u], argTypes := #[t, t] }) {c N : Nat} (hs : a.eval s = v) (hu : a.eval u = .slice (some ⟨b, 0, none⟩) 1 c)
    (h63 : xs.length + 1 ≤ maxLen) (hby : (xs.length + 1) * bytes ≤ 140737488355328) (hN : N = xs.length + 1)
    (k : ∀ y cap w', M B w0 w' (slcC FA e size (.slice y N cap) (xs ++ [x]) :: l) → K (a.put o.dst (.slice y N cap)) w') : o.wp P a w K Q := by
  obtain ⟨y, cap, w', hr, hM⟩ := run_app T OA h o.type c h63 hby
  unfold Oper.wp execOp
  simp only [ho, resolve, invoke, builtin, Sem.run_bind, Sem.run_pure, Result.andThen_ok, List.map_toArray, List.map_cons, List.map_nil, hs, hu, hr]
  rw [hN] at k
  exact k y cap w' hM
theorem wpList_app {P : Program} {t : TypeId} {z : Value} {bytes : Nat} (T : SlT P t e z size bytes) {FA : A.Frame} (OA : A.One size) (h : M B w0 w (boxC b e cs.toArray :: slcC FA e size v xs :: FA.ch cs x :: l))
    {ops : Array Oper} {rest : List Oper} {o : Oper} {a : Act} {Q : Exit → Act → World → Prop} {s u : Operand} (hgd : o.guard = none) (ho : o.op = .call { callee := .builtin .append, args := #[s, u], argTypes := #[t, t] }) {c N : Nat} (hs : a.eval s = v) (hu : a.eval u = .slice (some ⟨b, 0, none⟩) 1 c)
    (h63 : xs.length + 1 ≤ maxLen) (hby : (xs.length + 1) * bytes ≤ 140737488355328) (hN : N = xs.length + 1)
    (k : ∀ y cap w', M B w0 w' (slcC FA e size (.slice y N cap) (xs ++ [x]) :: l) → wpList P ops Q rest (a.put o.dst (.slice y N cap)) w') : wpList P ops Q (o :: rest) a w :=
  wpList_plain hgd fun _ hK => wp_app T OA h ho hs hu h63 hby hN fun y cap w' hM => hK _ _ (k y cap w' hM)
theorem wpList_mk {P : Program} {t : TypeId} {z : Value} {bytes : Nat} (T : SlT P t e z 1 bytes) {enc : α → List Value} {z0 : α} (hz : z.cells = #[z]) (hz0 : enc z0 = [z]) (hl : ∀ a, (enc a).length = 1) (h : M B w0 w l)
    {ops : Array Oper} {rest : List Oper} {o : Oper} {a : Act} {Q : Exit → Act → World → Prop} (hgd : o.guard = none) {lo co : Operand} (hop : o.op = Op.makeSlice t lo co) {kl kc : IntKind} {L C : Int} (n : Nat) (hlo : a.eval lo = .int kl L) (hco : a.eval co = .int kc C) (hL : L = (n : Int)) (hC : C = (n : Int))
    (b2 : bytes * n ≤ 281474976710656) (b3 : n ≤ maxLen) (k : ∀ w', M B w0 w' (slcC (flatR_frame enc) e 1 (.slice (some ⟨w.heap.size, 0, none⟩) n n) (List.replicate n z0) :: l) → Below w.heap.size w w' → wpList P ops Q rest (a.put o.dst (.slice (some ⟨w.heap.size, 0, none⟩) n n)) w') : wpList P ops Q (o :: rest) a w := by
  obtain ⟨i, hi, hiz, hs, hb⟩ := info_parts T.info
  refine wpList_make_full w hgd lo co t hop w.heap.size e i z 1 T.und hi hiz hs kl kc L C n hlo hco hL hC (by rw [hb]; exact b2) b3 (Nat.le_refl _) fun w' ho hg => ?_
  have bl : Below w.heap.size w w' := ⟨hg.os, hg.tape, hg.output, hg.size, fun q hq => hg.block q hq (by simp)⟩
  rw [hz, Nat.mul_one, toList_madeCells_one] at ho
  have e1 : (List.replicate n z0).flatMap enc = List.replicate n z := by
    clear k b2 b3 hL hC ho
    induction n with
    | zero => rfl
    | succ n ih => rw [List.replicate_succ, List.flatMap_cons, ih, hz0]; rfl
  have r := slc_flat_of (enc := enc) (xs := List.replicate n z0) (by rw [e1, List.length_replicate]; exact ho) hl
  exact k w' (h.add bl r (block_nodup _) fun b hb => (ho.lt b (block_mem hb)).1) bl
theorem M.elem {enc : α → List Value} {g n c i : Nat} {u : Value} (h : M B w0 w (slcC (flatR_frame enc) e 1 (.slice (some ⟨g, 0, none⟩) n c) xs :: l)) (hi : xs[i]? = some x) (hu : enc x = [u]) : w.cell? ⟨g, i, none⟩ = some u := by
  obtain ⟨f, hf, _⟩ := h.first
  obtain ⟨g', cap, ci, fi, ev, _, _, _, ha, _, _, hc⟩ := slcR_at hf hi
  cases ev
  have := hc 0 u (by rw [ha.1, hu]; rfl)
  rwa [Nat.mul_one, Nat.add_zero] at this
theorem M.setEl {enc : α → List Value} {g n c i : Nat} (h : M B w0 w (slcC (flatR_frame enc) e 1 (.slice (some ⟨g, 0, none⟩) n c) xs :: l)) (hi : i < xs.length) (y : α) {u : Value} (hy : enc y = [u]) :
    (∃ z, w.cell? ⟨g, i, none⟩ = some z) ∧ w.frozen? ⟨g, i, none⟩ = false ∧ M B w0 (w.setCell ⟨g, i, none⟩ u) (slcC (flatR_frame enc) e 1 (.slice (some ⟨g, 0, none⟩) n c) (xs.set i y) :: l) := by
  obtain ⟨f, hf, nd, lo⟩ := h.first
  have at_ : ∀ f, Sole (slcR e 1 (flatR enc)) B w [.slice (some ⟨g, 0, none⟩) n c] xs f → (∃ z, w.cell? ⟨g, i, none⟩ = some z) ∧ KeptB (fun b => b ∈ f) w (w.setCell ⟨g, i, none⟩ u) ∧ ∃ f', Sole (slcR e 1 (flatR enc)) B (w.setCell ⟨g, i, none⟩ u) [.slice (some ⟨g, 0, none⟩) n c] (xs.set i y) f' ∧ ∀ b ∈ f', b ∈ f := fun f S => by
    obtain ⟨_, mg, ci, fi, ha, _, _, _, hl, hc, _, k⟩ := Sole.set (flatR_frame enc) S (i := i) (k := 0) (List.getElem?_eq_getElem hi) (by omega)
    simp only [Nat.mul_one, Nat.add_zero] at hc k
    obtain ⟨f', s', m⟩ := k u y [] ⟨by match ci, hl with
      | [_], _ => rw [hy]; rfl, rfl⟩ List.nodup_nil (fun b hb => by cases hb)
    exact ⟨⟨_, hc 0 _ (List.getElem?_eq_getElem (by omega))⟩, KeptB.of_grown (grownBy_setCell _ _ _) mg, f', s', fun b hb => (m b hb).elim id fun q => by cases q⟩
  obtain ⟨hz, _, _⟩ := at_ f ⟨hf, nd, lo⟩
  refine ⟨hz, ?_, h.turn fun f hf nd lo => ?_⟩
  · obtain ⟨_, _, _, ev, E, _⟩ := slcR_els hf
    cases ev
    rcases E.own.2 with ⟨q, _⟩ | ⟨g', cap, cur, q, _, hg, _⟩
    · cases q
    · cases q; simp [World.frozen?, hg]
  · obtain ⟨_, hk, f', s', m⟩ := at_ f ⟨hf, nd, lo⟩
    exact ⟨hk, f', s'.1, s'.2.1, fun b hb => .inl (m b hb)⟩
end
section
variable {w w0 w' : World} {B b : Nat} {l : List Ch} {t : TypeId}
theorem M.cells1 {x0 : Value} (h : M B w0 w (boxC b t #[x0] :: l)) : w.cell? ⟨b, 0, none⟩ = some x0 :=
  h.cell rfl
theorem M.cells2 {x0 x1 : Value} (h : M B w0 w (boxC b t #[x0, x1] :: l)) : w.cell? ⟨b, 0, none⟩ = some x0 ∧ w.cell? ⟨b, 1, none⟩ = some x1 :=
  ⟨h.cell rfl, h.cell rfl⟩
theorem M.cells4 {x0 x1 x2 x3 : Value} (h : M B w0 w (boxC b t #[x0, x1, x2, x3] :: l)) : w.cell? ⟨b, 0, none⟩ = some x0 ∧ w.cell? ⟨b, 1, none⟩ = some x1 ∧ w.cell? ⟨b, 2, none⟩ = some x2 ∧ w.cell? ⟨b, 3, none⟩ = some x3 :=
  ⟨h.cell rfl, h.cell rfl, h.cell rfl, h.cell rfl⟩
theorem M.set4 {x0 x1 x2 x3 : Value} (h : M B w0 w (boxC b t #[x0, x1, x2, x3] :: l)) (y0 y1 y2 y3 : Value) : M B w0 ((((w.setCell ⟨b, 0, none⟩ y0).setCell ⟨b, 1, none⟩ y1).setCell ⟨b, 2, none⟩ y2).setCell ⟨b, 3, none⟩ y3) (boxC b t #[y0, y1, y2, y3] :: l) := by
  have h0 := h.set (i := 0) y0
  simp only [List.setIfInBounds_toArray, List.set_cons_zero, List.set_cons_succ] at h0
  have h1 := h0.set (i := 1) y1
  simp only [List.setIfInBounds_toArray, List.set_cons_zero, List.set_cons_succ] at h1
  have h2 := h1.set (i := 2) y2
  simp only [List.setIfInBounds_toArray, List.set_cons_zero, List.set_cons_succ] at h2
  have h3 := h2.set (i := 3) y3
  simp only [List.setIfInBounds_toArray, List.set_cons_zero, List.set_cons_succ] at h3
  exact h3
theorem M.cells5 {x0 x1 x2 x3 x4 : Value} (h : M B w0 w (boxC b t #[x0, x1, x2, x3, x4] :: l)) : w.cell? ⟨b, 0, none⟩ = some x0 ∧ w.cell? ⟨b, 1, none⟩ = some x1 ∧ w.cell? ⟨b, 2, none⟩ = some x2 ∧ w.cell? ⟨b, 3, none⟩ = some x3 ∧ w.cell? ⟨b, 4, none⟩ = some x4 :=
  ⟨h.cell rfl, h.cell rfl, h.cell rfl, h.cell rfl, h.cell rfl⟩
theorem M.cells6 {x0 x1 x2 x3 x4 x5 : Value} (h : M B w0 w (boxC b t #[x0, x1, x2, x3, x4, x5] :: l)) : w.cell? ⟨b, 0, none⟩ = some x0 ∧ w.cell? ⟨b, 1, none⟩ = some x1 ∧ w.cell? ⟨b, 2, none⟩ = some x2 ∧ w.cell? ⟨b, 3, none⟩ = some x3 ∧ w.cell? ⟨b, 4, none⟩ = some x4 ∧ w.cell? ⟨b, 5, none⟩ = some x5 :=
  ⟨h.cell rfl, h.cell rfl, h.cell rfl, h.cell rfl, h.cell rfl, h.cell rfl⟩
theorem M.cells10 {x0 x1 x2 x3 x4 x5 x6 x7 x8 x9 : Value} (h : M B w0 w (boxC b t #[x0, x1, x2, x3, x4, x5, x6, x7, x8, x9] :: l)) : w.cell? ⟨b, 0, none⟩ = some x0 ∧ w.cell? ⟨b, 1, none⟩ = some x1 ∧ w.cell? ⟨b, 2, none⟩ = some x2 ∧ w.cell? ⟨b, 3, none⟩ = some x3 ∧ w.cell? ⟨b, 4, none⟩ = some x4 ∧ w.cell? ⟨b, 5, none⟩ = some x5 ∧ w.cell? ⟨b, 6, none⟩ = some x6 ∧ w.cell? ⟨b, 7, none⟩ = some x7 ∧ w.cell? ⟨b, 8, none⟩ = some x8 ∧ w.cell? ⟨b, 9, none⟩ = some x9 :=
  ⟨h.cell rfl, h.cell rfl, h.cell rfl, h.cell rfl, h.cell rfl, h.cell rfl, h.cell rfl, h.cell rfl, h.cell rfl, h.cell rfl⟩
end
end Go.Proofs.YtcblbdpdbggkbaaGreat
namespace Go.Proofs.YtcblbdpdbggkbaaGreat
open Go.RowKit Go.Sort Go.Maps
open Go.ChangeMaps (setBlock modify_eq_set)
structure KeyT (P : Program) (k : TypeId) {κ : Type} (ok : κ → Prop) (kv : κ → Value) : Prop where
  keyed : Keyed P k
  key : ∀ x, ok x → ∃ l, keyOf P k (kv x) = some l
  inj : ∀ x y, kv x = kv y → x = y
section
variable {P : Program} {k t el : TypeId} {κ : Type} [DecidableEq κ] {ok : κ → Prop} {kv : κ → Value} {w w0 w' : World} {b B : Nat} {l : List Ch} {g : κ → Option Value}
def MapIs (ok : κ → Prop) (kv : κ → Value) (w : World) (b : Nat) (g : κ → Option Value) : Prop := ∃ es clock, w.heap[b]? = some (.map es clock) ∧ (∀ e ∈ es.toList, ∃ x, ok x ∧ e.key = kv x ∧ g x = some e.val) ∧ (∀ x v, g x = some v → ∃ e ∈ es.toList, e.key = kv x) ∧ (es.toList.map (·.key)).Nodup
def mapC (ok : κ → Prop) (kv : κ → Value) (b : Nat) (g : κ → Option Value) : Ch := ⟨fun w f => MapIs ok kv w b g ∧ f = [b],
  fun h x hx => by obtain ⟨⟨_, _, hb, _⟩, rfl⟩ := h; rw [List.mem_singleton.1 hx]; exact (Array.getElem?_eq_some_iff.1 hb).1,
  fun h hk _ => by obtain ⟨⟨es, c, hb, r⟩, rfl⟩ := h; exact ⟨⟨es, c, (hk b (List.mem_singleton_self b)).trans hb, r⟩, rfl⟩⟩
theorem M.map (ok : κ → Prop) (kv : κ → Value) (h : M B w0 w l) : M B w0 (w.alloc (.map #[] 0)) (mapC ok kv w.heap.size (fun _ => none) :: l) :=
  h.add ((Below.refl _ _).alloc (Nat.le_refl _) _) ⟨⟨#[], 0, heap_alloc_new w _, fun e he => (by simp at he), fun x v hx => (by cases hx), by simp⟩, rfl⟩ (nodup_one _) fun b hb => by rw [List.mem_singleton.1 hb]; exact Nat.le_refl _
theorem MapIs.look (K : KeyT P k ok kv) (ht : P.underlying t = some (.map k el)) {z : Value} (hz : (zeroValue el).run P w = .ok z w) (h : MapIs ok kv w b g) {x : κ} (hx : ok x) (c : Bool) :
    (Instr.lookup t (.map (some b)) (kv x) c).run P w = .ok (if c then .tuple #[(g x).getD z, .bool (g x).isSome] else (g x).getD z) w := by
  obtain ⟨es, clock, hb, h1, h2, nd⟩ := h
  obtain ⟨lx, hl⟩ := K.key x hx
  rcases K.keyed.find w hl es.toList (fun e he => by obtain ⟨y, hy, e1, _⟩ := h1 e he; rw [e1]; exact K.key y hy) with ⟨f1, f2⟩ | ⟨j, e0, f1, f2, f3⟩
  · have n : g x = none := by
      cases q : g x with
      | none => rfl
      | some v => obtain ⟨e, he, e1⟩ := h2 x v q; exact absurd e1 (f2 e he)
    simp [Instr.lookup, run_underlying ht, MapKept.run_getObj_map hb, K.keyed.check w _ hl, f1, hz, Result.andThen, n]
  · obtain ⟨y, hy, e1, e2⟩ := h1 e0 (List.mem_of_getElem? f2)
    obtain rfl := K.inj y x (e1.symm.trans f3)
    simp [Instr.lookup, run_underlying ht, MapKept.run_getObj_map hb, K.keyed.check w _ hl, f1, Result.andThen, e2]
theorem MapIs.store (K : KeyT P k ok kv) (ht : P.underlying t = some (.map k el)) (h : MapIs ok kv w b g) {x : κ} (hx : ok x) (v : Value) :
    ∃ es clock, (Instr.mapUpdate t (.map (some b)) (kv x) v).run P w = .ok () (setBlock w b (.map es clock)) ∧ MapIs ok kv (setBlock w b (.map es clock)) b (fun y => if y = x then some v else g y) := by
  obtain ⟨es, clock, hb, h1, h2, nd⟩ := h
  obtain ⟨lx, hl⟩ := K.key x hx
  have lt : b < w.heap.size := (Array.getElem?_eq_some_iff.1 hb).1
  have here : ∀ o : Obj, (setBlock w b o).heap[b]? = some o := fun o => by simp [setBlock, lt]
  rcases K.keyed.find w hl es.toList (fun e he => by obtain ⟨y, hy, e1, _⟩ := h1 e he; rw [e1]; exact K.key y hy) with ⟨f1, f2⟩ | ⟨j, e0, f1, f2, f3⟩
  · refine ⟨es.push ⟨kv x, v, clock⟩, clock + 1, ?_, _, _, here _, fun e he => ?_, fun y u hy => ?_, ?_⟩
    · simp [Instr.mapUpdate, run_underlying ht, MapKept.run_getObj_map hb, K.keyed.check w false hl, f1, MapKept.run_setObj_map _ hb, Result.andThen, setBlock]
    · simp only [Array.toList_push, List.mem_append, List.mem_singleton] at he
      rcases he with he | rfl
      · obtain ⟨y, hy, e1, e2⟩ := h1 e he
        exact ⟨y, hy, e1, (if_neg fun q => f2 e he (by rw [e1, q])).trans e2⟩
      · exact ⟨x, hx, rfl, if_pos rfl⟩
    · by_cases q : y = x
      · subst q; exact ⟨⟨kv y, v, clock⟩, by simp, rfl⟩
      · replace hy := (if_neg q).symm.trans hy
        obtain ⟨e, he, e1⟩ := h2 y u hy
        exact ⟨e, by simp [he], e1⟩
    · rw [Array.toList_push, List.map_append, List.nodup_append]
      refine ⟨nd, by simp, fun a ha c hc q => ?_⟩
      obtain ⟨e, he, rfl⟩ := List.mem_map.1 ha
      simp only [List.map_cons, List.map_nil, List.mem_singleton] at hc
      exact f2 e he (q.trans hc)
  · have hj : es[j]? = some e0 := by simpa using f2
    have hlist : (es.modify j (fun e' => { e' with key := kv x, val := v })).toList = es.toList.set j { e0 with key := kv x, val := v } := by rw [Array.toList_modify, modify_eq_set _ _ _ _ f2]
    have jl : j < es.toList.length := (List.getElem?_eq_some_iff.1 f2).1
    refine ⟨es.modify j (fun e' => { e' with key := kv x, val := v }), clock, ?_, _, _, here _, fun e he => ?_, fun y u hy => ?_, ?_⟩
    · simp [Instr.mapUpdate, run_underlying ht, MapKept.run_getObj_map hb, K.keyed.check w false hl, f1, hj, f3, K.keyed.stays w hl, MapKept.run_setObj_map _ hb, Result.andThen, setBlock]
    · rw [hlist] at he
      obtain ⟨i, hi, rfl⟩ := List.getElem_of_mem he
      have hi' : i < es.toList.length := by simpa using hi
      by_cases q : j = i
      · subst q
        rw [List.getElem_set_self]
        exact ⟨x, hx, rfl, if_pos rfl⟩
      · rw [List.getElem_set_ne q]
        obtain ⟨y, hy, e1, e2⟩ := h1 _ (List.getElem_mem hi')
        refine ⟨y, hy, e1, (if_neg fun r => ?_).trans e2⟩
        · have a1 : (es.toList.map (·.key))[i]'(by simpa using hi') = kv x := by rw [List.getElem_map, e1, r]
          have a2 : (es.toList.map (·.key))[j]'(by simpa using jl) = kv x := by
            rw [List.getElem?_eq_getElem jl] at f2
            rw [List.getElem_map, Option.some.inj f2, f3]
          rcases Nat.lt_or_gt_of_ne q with z | z
          · exact (List.pairwise_iff_getElem.1 nd j i (by simpa using jl) (by simpa using hi') z) (a2.trans a1.symm)
          · exact (List.pairwise_iff_getElem.1 nd i j (by simpa using hi') (by simpa using jl) z) (a1.trans a2.symm)
    · rw [hlist]
      by_cases q : y = x
      · subst q; exact ⟨{ e0 with key := kv y, val := v }, List.mem_iff_getElem.2 ⟨j, by simpa using jl, by simp⟩, rfl⟩
      · replace hy := (if_neg q).symm.trans hy
        obtain ⟨e, he, e1⟩ := h2 y u hy
        obtain ⟨i, hi, rfl⟩ := List.getElem_of_mem he
        refine ⟨es.toList[i], List.mem_iff_getElem.2 ⟨i, by simpa using hi, ?_⟩, e1⟩
        rw [List.getElem_set_ne]
        intro e2
        subst e2
        rw [List.getElem?_eq_getElem hi] at f2
        cases f2
        exact q (K.inj y x (e1.symm.trans f3))
    · rw [hlist, List.map_set]
      have : (es.toList.map (·.key)).set j (kv x) = es.toList.map (·.key) := by
        rw [List.getElem?_eq_getElem jl] at f2
        have a2 : (es.toList.map (·.key))[j]'(by simpa using jl) = kv x := by rw [List.getElem_map, Option.some.inj f2, f3]
        rw [← a2]; exact List.set_getElem_self _
      rw [this]; exact nd
theorem M.look (K : KeyT P k ok kv) (ht : P.underlying t = some (.map k el)) {z : Value} (hz : (zeroValue el).run P w = .ok z w) (h : M B w0 w (mapC ok kv b g :: l)) {x : κ} (hx : ok x) (c : Bool) :
    (Instr.lookup t (.map (some b)) (kv x) c).run P w = .ok (if c then .tuple #[(g x).getD z, .bool (g x).isSome] else (g x).getD z) w := by
  obtain ⟨f, hf, _⟩ := h.first
  exact hf.1.look K ht hz hx c
theorem M.store (K : KeyT P k ok kv) (ht : P.underlying t = some (.map k el)) (h : M B w0 w (mapC ok kv b g :: l)) {x : κ} (hx : ok x) (v : Value) :
    ∃ w', (Instr.mapUpdate t (.map (some b)) (kv x) v).run P w = .ok () w' ∧ M B w0 w' (mapC ok kv b (fun y => if y = x then some v else g y) :: l) ∧ w'.heap.size = w.heap.size := by
  obtain ⟨f, hf, _⟩ := h.first
  obtain ⟨es, c, hr, hm⟩ := hf.1.store K ht hx v
  refine ⟨_, hr, h.turn fun f hf _ _ => ⟨⟨rfl, rfl, rfl, by simp [setBlock], fun q _ hq => ?_⟩, [b], ⟨hm, rfl⟩, nodup_one _, fun y hy => .inl (by rw [hf.2]; exact hy)⟩, by simp [setBlock]⟩
  rw [hf.2] at hq
  have ne : ¬ b = q := fun e => hq (by simp [e])
  simp [setBlock, Array.getElem?_setIfInBounds, ne]
theorem wp_mset (K : KeyT P k ok kv) (ht : P.underlying t = some (.map k el)) (h : M B w0 w (mapC ok kv b g :: l)) {x : κ} (hx : ok x) {o : Oper} {a : Act} {N : Act → World → Prop} {Q : Exit → Act → World → Prop} {mo ko vo : Operand} (hop : o.op = .mapUpdate t mo ko vo) {v : Value}
    (hm : a.eval mo = .map (some b)) (hk : a.eval ko = kv x) (hv : a.eval vo = v) (n : ∀ w', M B w0 w' (mapC ok kv b (fun y => if y = x then some v else g y) :: l) → w'.heap.size = w.heap.size → N (a.put o.dst undef) w') : o.wp P a w N Q := by
  obtain ⟨w', hr, hM, hs⟩ := h.store K ht hx v
  unfold Oper.wp
  simp [execOp, hop, hm, hk, hv, hr, Result.andThen, Oper.upon]
  exact n w' hM hs
theorem wpList_mset (K : KeyT P k ok kv) (ht : P.underlying t = some (.map k el)) (h : M B w0 w (mapC ok kv b g :: l)) {x : κ} (hx : ok x) {ops : Array Oper} {rest : List Oper} {o : Oper} {a : Act} {Q : Exit → Act → World → Prop} {mo ko vo : Operand} (hgd : o.guard = none) (hop : o.op = .mapUpdate t mo ko vo) {v : Value}
    (hm : a.eval mo = .map (some b)) (hk : a.eval ko = kv x) (hv : a.eval vo = v) (n : ∀ w', M B w0 w' (mapC ok kv b (fun y => if y = x then some v else g y) :: l) → w'.heap.size = w.heap.size → wpList P ops Q rest (a.put o.dst undef) w') : wpList P ops Q (o :: rest) a w :=
  wpList_plain hgd fun _ hK => wp_mset K ht h hx hop hm hk hv fun w' h1 h2 => hK _ _ (n w' h1 h2)
end
end Go.Proofs.YtcblbdpdbggkbaaGreat
namespace Go.Proofs.YtcblbdpdbggkbaaGreat
open Go
section
variable {P : Program} {ops : Array Oper} {Q : Exit → Act → World → Prop} {md : Region.Mode} {S : World → Prop} {n : Nat}
def wpL (P : Program) (md : Region.Mode) (ops : Array Oper) (Q : Exit → Act → World → Prop) (S : World → Prop) (n : Nat) : Nat → Array Bool → Act → World → Prop
  | 0, listed, a, w => Region.ready md ops listed = [] ∧ Q .normal a w
  | fuel + 1, listed, a, w =>
    (Region.ready md ops listed = [] → Q .normal a w) ∧
    ∀ i ∈ Region.ready md ops listed, wpOp P ops Q i (fun a' w' => (i = n ∨ S w') ∧ wpL P md ops Q S n fuel (listed.setIfInBounds i true) a' w') a w
theorem wpAny_of_L : ∀ (fuel : Nat) (listed : Array Bool) (a : Act) (w : World), wpL P md ops Q S n fuel listed a w → wpAny P md ops Q fuel listed a w
  | 0, _, _, _, h => h
  | fuel + 1, _, _, _, h => ⟨h.1, fun i hi => wpOp_mono (fun a' w' h' => wpAny_of_L fuel _ a' w' h'.2) (h.2 i hi)⟩
theorem waits_not {i : Nat} (h : (match ops[n]? with | some o => o.after.any fun e => Region.binds md e && e.on == i | none => true) = true) {listed : Array Bool} (hu : listed.getD i true = false) : n ∉ Region.ready md ops listed := fun hr => by
  obtain ⟨_, o, ho, hall⟩ := mem_ready.1 hr
  rw [ho] at h
  obtain ⟨e, he, hb⟩ := Array.any_eq_true'.1 h
  simp only [Bool.and_eq_true, beq_iff_eq] at hb
  have h1 := hall e he hb.1
  rw [hb.2] at h1
  rcases Nat.lt_or_ge i listed.size with h' | h'
  · simp [h'] at hu h1; rw [hu] at h1; cases h1
  · simp [Array.getElem?_eq_none h'] at h1
theorem wpL_first {i : Nat} {oi : Oper} {v : Value} (hi : ops[i]? = some oi) (hsel : ∀ (j : Nat) (o : Oper) cs b, ops[j]? = some o → o.op ≠ .select cs b)
    (hQ : ∀ c a w, Q (.panic c) (a.put oi.dst v) w → Q (.panic c) a w) (hn : ∀ listed : Array Bool, listed.getD i true = false → n ∉ Region.ready md ops listed) :
    ∀ (fuel : Nat) (listed : Array Bool) (a : Act) (w : World),
      (∀ j oj, ops[j]? = some oj → j ≠ i → listed.getD j true = false → (∀ e ∈ oj.after, Region.binds md e = true → e.on ≠ i) → oi.apart ops oj = true) →
      i ∈ Region.ready md ops listed → YieldsIf P ops S oi v a → S w →
      wpL P md ops Q S n fuel (listed.setIfInBounds i true) (a.put oi.dst v) w → wpL P md ops Q S n (fuel + 1) listed a w := by
  intro fuel
  induction fuel with
  | zero =>
    intro listed a w _ hr hy hS H
    refine ⟨fun h => (by rw [h] at hr; cases hr), fun j hj => ?_⟩
    by_cases hji : j = i
    · subst hji; exact hy.wpOp hi hS ⟨.inr hS, H⟩
    · have := ready_mono hj hji
      rw [H.1] at this
      cases this
  | succ fuel ih =>
    intro listed a w hfree hr hy hS H
    refine ⟨fun h => (by rw [h] at hr; cases hr), fun j hj => ?_⟩
    by_cases hji : j = i
    · subst hji; exact hy.wpOp hi hS ⟨.inr hS, H⟩
    · by_cases hjn : j = n
      · subst hjn; exact absurd hj (hn listed (mem_ready.1 hr).1)
      have h1 := H.2 j (ready_mono hj hji)
      obtain ⟨hjun, oj, hoj, hall⟩ := mem_ready.1 hj
      have hnot : ∀ e ∈ oj.after, Region.binds md e = true → e.on ≠ i := fun e he hb heq => by
        have h1 := hall e he hb
        have h0 := (mem_ready.1 hr).1
        rw [heq] at h1
        rcases Nat.lt_or_ge i listed.size with h' | h'
        · simp [h'] at h0 h1; rw [h0] at h1; cases h1
        · simp [Array.getElem?_eq_none h'] at h1
      have h2 := wpOp_putIf hoj (hfree j oj hoj hji hjun hnot) (fun cs b => hsel i oi cs b hi) (fun cs b => hsel j oj cs b hoj) hQ hy h1
      have hfree' : ∀ k ok, ops[k]? = some ok → k ≠ i → (listed.setIfInBounds j true).getD k true = false →
          (∀ e ∈ ok.after, Region.binds md e = true → e.on ≠ i) → oi.apart ops ok = true := fun k ok hk hki hun hno => by
        refine hfree k ok hk hki ?_ hno
        by_cases hjk : j = k
        · subst hjk; exact hjun
        · rw [getD_set_ne true hjk] at hun; exact hun
      refine wpOp_mono (fun a' w' h3 => ?_) h2
      have s := h3.2.1.resolve_left hjn
      refine ⟨.inr s, ih (listed.setIfInBounds j true) a' w' hfree' (ready_mono hr (Ne.symm hji)) h3.1 s ?_⟩
      rw [Array.setIfInBounds_comm _ _ hji]
      exact h3.2.2
inductive Tr where
  | done
  | take (i : Nat) (t : Tr)
  | alt (i : Nat) (t more : Tr)
  | nomore
def Tr.idx : Tr → List Nat
  | .alt i _ m => i :: m.idx
  | _ => []
def Tr.isDone : Tr → Bool
  | .done => true
  | _ => false
def Tr.chk (md : Region.Mode) (ops : Array Oper) (n : Nat) : Bool → Array Bool → Tr → Bool
  | _, listed, .done => (Region.ready md ops listed).isEmpty
  | _, listed, .take i t => Region.noSelect ops && Region.free md ops listed i && (Region.ready md ops listed).contains i && (match ops[n]? with | some o => o.after.any fun e => Region.binds md e && e.on == i | none => true) && t.chk md ops n true (listed.setIfInBounds i true)
  | head, listed, .alt i t m => (i != n || t.isDone) && (!head || Region.ready md ops listed == i :: m.idx) && t.chk md ops n true (listed.setIfInBounds i true) && m.chk md ops n false listed
  | head, _, .nomore => !head
def Tr.size : Tr → Nat
  | .done => 0
  | .take _ t => t.size + 1
  | .alt _ t m => max (t.size + 1) m.size
  | .nomore => 0
def stepsL (P : Program) (ops : Array Oper) (Q : Exit → Act → World → Prop) (S : World → Prop) (n : Nat) : Tr → Act → World → Prop
  | .done, a, w => Q .normal a w
  | .take i t, a, w => ∃ o v, ops[i]? = some o ∧ YieldsIf P ops S o v a ∧ stepsL P ops Q S n t (a.put o.dst v) w
  | .alt i t m, a, w => wpOp P ops Q i (fun a' w' => (i = n ∨ S w') ∧ stepsL P ops Q S n t a' w') a w ∧ stepsL P ops Q S n m a w
  | .nomore, _, _ => True
theorem Tr.isDone_iff {t : Tr} : t.isDone = true ↔ t = .done := by cases t <;> simp [Tr.isDone]
theorem wpL_of_steps (hQ : ∀ c a (d : Tmp) v w, Q (.panic c) (Act.put a (some d) v) w → Q (.panic c) a w) : ∀ (t : Tr) (head : Bool) (listed : Array Bool) (a : Act) (w : World), t.chk md ops n head listed = true → stepsL P ops Q S n t a w →
    (head = true → (S w ∨ t = .done) → ∀ F, t.size ≤ F → wpL P md ops Q S n F listed a w) ∧ (S w → ∀ j ∈ t.idx, ∀ F, t.size ≤ F + 1 → wpOp P ops Q j (fun a' w' => (j = n ∨ S w') ∧ wpL P md ops Q S n F (listed.setIfInBounds j true) a' w') a w)
  | .done, head, listed, a, w, c, h => by
    refine ⟨fun _ _ F _ => ?_, fun _ j hj => by cases hj⟩
    have e : Region.ready md ops listed = [] := List.isEmpty_iff.1 c
    cases F with
    | zero => exact ⟨e, h⟩
    | succ F => exact ⟨fun _ => h, fun i hi => by rw [e] at hi; cases hi⟩
  | .take i t, head, listed, a, w, c, h => by
    refine ⟨fun hh hs F hF => ?_, fun _ j hj => by cases hj⟩
    obtain ⟨o, v, ho, hy, hr⟩ := h
    simp only [Tr.chk, Bool.and_eq_true] at c
    obtain ⟨⟨⟨⟨c1, c2⟩, c3⟩, c4⟩, c5⟩ := c
    have s : S w := hs.resolve_right (fun q => by cases q)
    simp only [Tr.size] at hF
    obtain ⟨F', rfl⟩ : ∃ F', F = F' + 1 := ⟨F - 1, by omega⟩
    exact wpL_first ho (Region.noSelect_spec c1) (fun c a w => by cases hd : o.dst with
      | none => exact id
      | some d => exact hQ c a d v w) (fun l hu => waits_not c4 hu) F' listed a w (Region.free_spec ho c2) (by simpa using c3) hy s
      ((wpL_of_steps hQ t true _ _ w c5 hr).1 rfl (.inl s) F' (by omega))
  | .alt i t m, head, listed, a, w, c, h => by
    simp only [Tr.chk, Bool.and_eq_true] at c
    obtain ⟨⟨⟨c0, c1⟩, c2⟩, c3⟩ := c
    have one : ∀ F, t.size ≤ F → wpOp P ops Q i (fun a' w' => (i = n ∨ S w') ∧ wpL P md ops Q S n F (listed.setIfInBounds i true) a' w') a w := fun F hF =>
      wpOp_mono (fun a' w' h' => ⟨h'.1, (wpL_of_steps hQ t true _ a' w' c2 h'.2).1 rfl (by
        rcases h'.1 with q | q
        · refine .inr (Tr.isDone_iff.1 ?_)
          simpa [q] using c0
        · exact .inl q) F hF⟩) h.1
    have all : S w → ∀ j ∈ i :: m.idx, ∀ F, max (t.size + 1) m.size ≤ F + 1 → wpOp P ops Q j (fun a' w' => (j = n ∨ S w') ∧ wpL P md ops Q S n F (listed.setIfInBounds j true) a' w') a w := fun s j hj F hF => by
      rcases List.mem_cons.1 hj with rfl | hj
      · exact one F (by omega)
      · exact (wpL_of_steps hQ m false listed a w c3 h.2).2 s j hj F (by omega)
    refine ⟨fun hh hs F hF => ?_, fun s j hj F hF => all s j hj F hF⟩
    have s : S w := hs.resolve_right (fun q => by cases q)
    simp only [Tr.size] at hF
    obtain ⟨F', rfl⟩ : ∃ F', F = F' + 1 := ⟨F - 1, by omega⟩
    subst hh
    have e : Region.ready md ops listed = i :: m.idx := by simpa using c1
    exact ⟨fun q => (by rw [e] at q; cases q), fun j hj => all s j (by rw [← e]; exact hj) F' hF⟩
  | .nomore, head, listed, a, w, c, h => ⟨fun hh => (by subst hh; cases c), fun _ j hj => (by cases hj)⟩
theorem wp_region_plan {id : Nat} {a : Act} {w : World} (n : Nat) (t : Tr) (S : World → Prop) (hm : P.follows .mixedOrders = true) (hc : (t.chk .any ops n true (Array.replicate ops.size false) && decide (t.size ≤ ops.size)) = true)
    (hQ : ∀ c a (d : Tmp) v w, Q (.panic c) (Act.put a (some d) v) w → Q (.panic c) a w) (hS : S w.drew) (h : stepsL P ops Q S n t a w.drew) : (Code.region id ops true).wp P Q a w := by
  simp only [Bool.and_eq_true, decide_eq_true_eq] at hc
  exact wp_region_any hm (wpAny_of_L _ _ _ _ ((wpL_of_steps hQ t true _ a w.drew hc.1 h).1 rfl (.inl hS) _ hc.2))
theorem plan_take {i : Nat} {t : Tr} {a : Act} {w : World} {o : Oper} (ho : ops[i]? = some o) (hw : Region.wanted o (yielded ops a.tmps) = true) (h : ∃ v, (∀ w', S w' → (execOp a.eval o).run P w' = .ok (.value v) w') ∧ stepsL P ops Q S n t (a.put o.dst v) w) : stepsL P ops Q S n (.take i t) a w :=
  let ⟨v, hv, h⟩ := h; ⟨o, v, ho, .inl ⟨hw, hv⟩, h⟩
theorem plan_skip {i : Nat} {t : Tr} {a : Act} {w : World} {o : Oper} (ho : ops[i]? = some o) (hw : Region.wanted o (yielded ops a.tmps) = false) (h : stepsL P ops Q S n t (a.put o.dst undef) w) : stepsL P ops Q S n (.take i t) a w :=
  ⟨o, undef, ho, .inr ⟨hw, rfl⟩, h⟩
theorem plan_alt {i : Nat} {t m : Tr} {a : Act} {w : World} {o : Oper} (ho : ops[i]? = some o) (h : ∀ K : Act → World → Prop, (∀ a' w', (i = n ∨ S w') → stepsL P ops Q S n t a' w' → K a' w') → if Region.wanted o (yielded ops a.tmps) = true then Oper.wp P o a w K Q else K (a.put o.dst undef) w)
    (hm : stepsL P ops Q S n m a w) : stepsL P ops Q S n (.alt i t m) a w :=
  ⟨wpOp_step ho fun K' hK => h K' fun a' w' h1 h2 => hK a' w' ⟨h1, h2⟩, hm⟩
theorem plan_last {i : Nat} {t : Tr} {a : Act} {w : World} {o : Oper} (ho : ops[i]? = some o) (h : ∀ K : Act → World → Prop, (∀ a' w', (i = n ∨ S w') → stepsL P ops Q S n t a' w' → K a' w') → if Region.wanted o (yielded ops a.tmps) = true then Oper.wp P o a w K Q else K (a.put o.dst undef) w) : stepsL P ops Q S n (.alt i t .nomore) a w :=
  plan_alt ho h trivial
theorem plan_done {a : Act} {w : World} (h : Q .normal a w) : stepsL P ops Q S n .done a w := h
end
end Go.Proofs.YtcblbdpdbggkbaaGreat
namespace Go.Proofs.YtcblbdpdbggkbaaGreat
open Go.RowKit Go.Sort
section
variable {B a k : Nat} {w0 w : World} {l : List Ch}
end
section
variable {P : Program} {ops : Array Oper} {rest : List Oper} {o : Oper} {a : Act} {w w0 : World} {Q : Exit → Act → World → Prop} {B b : Nat} {l : List Ch} {t : TypeId} {us vs : Array Value}
end
theorem pg3 {α : Type _} (a : α) (r : List α) (h : 0 < (a :: r).length) : (a :: r)[0] = a := rfl
theorem pg4 {α : Type _} (l : List α) (i : Nat) (a : α) : l.toArray.setIfInBounds i a = (l.set i a).toArray := List.setIfInBounds_toArray l i a
theorem pg5 {α : Type _} (a b : α) (r : List α) : (a :: r).set 0 b = b :: r := rfl
theorem pg6 {α : Type _} (a b : α) (r : List α) (i : Nat) : (a :: r).set (i + 1) b = a :: r.set i b := rfl
def Tr.tk : Nat → Nat → Tr → Tr
  | _, 0, t => t
  | a, k + 1, t => .take a (Tr.tk (a + 1) k t)
end Go.Proofs.YtcblbdpdbggkbaaGreat
set_option linter.unusedVariables false
namespace Go.Proofs.YtcblbdpdbggkbaaGreat
open Go.RowKit Go.Sort
theorem OwnI.keep {w w' : World} {B : Nat} {v : Value} {zs : List Int} {row : Option Nat} (h : OwnI w B v zs) (hg : w.grownBy w' row) (hr : v.ownBlock ≠ row) : OwnI w' B v zs := World.ownsRow.kept h hg (.inr hr)
theorem OwnI.below {w w' : World} {B : Nat} {v : Value} {zs : List Int} (h : OwnI w B v zs) (hb : Below w.heap.size w w') : OwnI w' B v zs := h.kept (row := Option.none) (grownBy_below hb) (fun _ e => by cases e)
def OwnRR (W : World) (B T : Nat) (v : Value) (rs : List (List Int)) : Prop := ∃ G C, OwnR W B v rs G C ∧ (∀ k, v.ownBlock = some k → k < T) ∧ (∀ i, i < rs.length → G i < T) ∧ T ≤ W.heap.size
theorem OwnR.bounds {W : World} {B : Nat} {v : Value} {rs : List (List Int)} {G C : Nat → Nat} (h : OwnR W B v rs G C) : OwnRR W B W.heap.size v rs :=
  ⟨G, C, h, fun k e => (World.ownsRow.lt h.hdr k e).2, fun i hi => ((h.row i hi).lt (G i) rfl).2, Nat.le_refl _⟩
theorem OwnRR.top {W : World} {B T : Nat} {v : Value} {rs : List (List Int)} (h : OwnRR W B T v rs) : T ≤ W.heap.size := by obtain ⟨_, _, _, _, _, h⟩ := h; exact h
theorem OwnRR.below {W W' : World} {B T : Nat} {v : Value} {rs : List (List Int)} (h : OwnRR W B T v rs) (hb : Below W.heap.size W W') : OwnRR W' B T v rs := by
  obtain ⟨G, C, h, h1, h2, h3⟩ := h; exact ⟨G, C, h.below hb (Nat.le_refl _), h1, h2, Nat.le_trans h3 hb.size⟩
theorem ownsRow_keptB {w w' : World} {B : Nat} {e : TypeId} {size : Nat} {v : Value} {n : Nat} {xs : List Value} {S : Nat → Prop} (h : w.ownsRow B e size v n xs) (hk : KeptB S w w') (hS : ∀ k, v.ownBlock = some k → ¬ S k) : w'.ownsRow B e size v n xs := by
  obtain ⟨h1, h2⟩ := h
  refine ⟨h1, ?_⟩
  rcases h2 with h2 | ⟨g, cap, cur, hv, hg, hh, r⟩
  · exact .inl h2
  · refine .inr ⟨g, cap, cur, hv, hg, ?_, r⟩
    rw [hk.block g (Array.getElem?_eq_some_iff.1 hh).1 (hS g (by rw [hv]; rfl))]
    exact hh
end Go.Proofs.YtcblbdpdbggkbaaGreat
set_option linter.unusedVariables false
namespace Go.Proofs.YtcblbdpdbggkbaaGreat
open Go.RowKit Go.Sort
def Box7 (W : World) (b : Nat) (t : TypeId) (x0 x1 x2 x3 x4 x5 x6 : Value) : Prop := W.heap[b]? = some (.cells #[x0, x1, x2, x3, x4, x5, x6] t (0, 0))
section
variable {W W' : World} {b : Nat} {t : TypeId} {x0 x1 x2 x3 x4 x5 x6 : Value}
theorem Box7.lt (h : Box7 W b t x0 x1 x2 x3 x4 x5 x6) : b < W.heap.size := (Array.getElem?_eq_some_iff.1 h).1
theorem Box7.new (W : World) (t : TypeId) (x0 x1 x2 x3 x4 x5 x6 : Value) : Box7 (W.alloc (.cells #[x0, x1, x2, x3, x4, x5, x6] t)) W.heap.size t x0 x1 x2 x3 x4 x5 x6 := heap_alloc_new W _
theorem Box7.below (h : Box7 W b t x0 x1 x2 x3 x4 x5 x6) {B : Nat} (hb : Below B W W') (hB : b < B) : Box7 W' b t x0 x1 x2 x3 x4 x5 x6 := (hb.block b hB).trans h
theorem Box7.later (h : Box7 W b t x0 x1 x2 x3 x4 x5 x6) (hb : Below W.heap.size W W') : Box7 W' b t x0 x1 x2 x3 x4 x5 x6 := h.below hb h.lt
theorem Box7.alloc (h : Box7 W b t x0 x1 x2 x3 x4 x5 x6) (o : Obj) : Box7 (W.alloc o) b t x0 x1 x2 x3 x4 x5 x6 := h.later ((Below.refl _ _).alloc (Nat.le_refl _) o)
theorem Box7.kept {row : Option Nat} (h : Box7 W b t x0 x1 x2 x3 x4 x5 x6) (hg : W.grownBy W' row) (hr : row ≠ some b) : Box7 W' b t x0 x1 x2 x3 x4 x5 x6 := (hg.block b h.lt (fun e => hr e.symm)).trans h
theorem Box7.cell0 (h : Box7 W b t x0 x1 x2 x3 x4 x5 x6) : W.cell? ⟨b, 0, none⟩ = some x0 := by unfold Box7 at h; simp [World.cell?, h]
theorem Box7.cell1 (h : Box7 W b t x0 x1 x2 x3 x4 x5 x6) : W.cell? ⟨b, 1, none⟩ = some x1 := by unfold Box7 at h; simp [World.cell?, h]
theorem Box7.cell2 (h : Box7 W b t x0 x1 x2 x3 x4 x5 x6) : W.cell? ⟨b, 2, none⟩ = some x2 := by unfold Box7 at h; simp [World.cell?, h]
theorem Box7.cell3 (h : Box7 W b t x0 x1 x2 x3 x4 x5 x6) : W.cell? ⟨b, 3, none⟩ = some x3 := by unfold Box7 at h; simp [World.cell?, h]
theorem Box7.cell4 (h : Box7 W b t x0 x1 x2 x3 x4 x5 x6) : W.cell? ⟨b, 4, none⟩ = some x4 := by unfold Box7 at h; simp [World.cell?, h]
theorem Box7.cell5 (h : Box7 W b t x0 x1 x2 x3 x4 x5 x6) : W.cell? ⟨b, 5, none⟩ = some x5 := by unfold Box7 at h; simp [World.cell?, h]
theorem Box7.cell6 (h : Box7 W b t x0 x1 x2 x3 x4 x5 x6) : W.cell? ⟨b, 6, none⟩ = some x6 := by unfold Box7 at h; simp [World.cell?, h]
theorem Box7.cells (h : Box7 W b t x0 x1 x2 x3 x4 x5 x6) : W.cell? ⟨b, 0, none⟩ = some x0 ∧ W.cell? ⟨b, 1, none⟩ = some x1 ∧ W.cell? ⟨b, 2, none⟩ = some x2 ∧ W.cell? ⟨b, 3, none⟩ = some x3 ∧ W.cell? ⟨b, 4, none⟩ = some x4 ∧ W.cell? ⟨b, 5, none⟩ = some x5 ∧ W.cell? ⟨b, 6, none⟩ = some x6 :=
  ⟨h.cell0, h.cell1, h.cell2, h.cell3, h.cell4, h.cell5, h.cell6⟩
theorem Box7.free (h : Box7 W b t x0 x1 x2 x3 x4 x5 x6) (i : Nat) : W.frozen? ⟨b, i, none⟩ = false := by unfold Box7 at h; simp [World.frozen?, h]
theorem Box7.set0 (h : Box7 W b t x0 x1 x2 x3 x4 x5 x6) (u : Value) : Box7 (W.setCell ⟨b, 0, none⟩ u) b t u x1 x2 x3 x4 x5 x6 := by unfold Box7 at h ⊢; rw [heap_setCell_same W b 0 _ _ _ h]; rfl
theorem Box7.set1 (h : Box7 W b t x0 x1 x2 x3 x4 x5 x6) (u : Value) : Box7 (W.setCell ⟨b, 1, none⟩ u) b t x0 u x2 x3 x4 x5 x6 := by unfold Box7 at h ⊢; rw [heap_setCell_same W b 1 _ _ _ h]; rfl
theorem Box7.set2 (h : Box7 W b t x0 x1 x2 x3 x4 x5 x6) (u : Value) : Box7 (W.setCell ⟨b, 2, none⟩ u) b t x0 x1 u x3 x4 x5 x6 := by unfold Box7 at h ⊢; rw [heap_setCell_same W b 2 _ _ _ h]; rfl
theorem Box7.set3 (h : Box7 W b t x0 x1 x2 x3 x4 x5 x6) (u : Value) : Box7 (W.setCell ⟨b, 3, none⟩ u) b t x0 x1 x2 u x4 x5 x6 := by unfold Box7 at h ⊢; rw [heap_setCell_same W b 3 _ _ _ h]; rfl
theorem Box7.set4 (h : Box7 W b t x0 x1 x2 x3 x4 x5 x6) (u : Value) : Box7 (W.setCell ⟨b, 4, none⟩ u) b t x0 x1 x2 x3 u x5 x6 := by unfold Box7 at h ⊢; rw [heap_setCell_same W b 4 _ _ _ h]; rfl
theorem Box7.set5 (h : Box7 W b t x0 x1 x2 x3 x4 x5 x6) (u : Value) : Box7 (W.setCell ⟨b, 5, none⟩ u) b t x0 x1 x2 x3 x4 u x6 := by unfold Box7 at h ⊢; rw [heap_setCell_same W b 5 _ _ _ h]; rfl
theorem Box7.set6 (h : Box7 W b t x0 x1 x2 x3 x4 x5 x6) (u : Value) : Box7 (W.setCell ⟨b, 6, none⟩ u) b t x0 x1 x2 x3 x4 x5 u := by unfold Box7 at h ⊢; rw [heap_setCell_same W b 6 _ _ _ h]; rfl
theorem Box7.not_row {B : Nat} {e : TypeId} {size n : Nat} {v : Value} {xs : List Value} (h : Box7 W b t x0 x1 x2 x3 x4 x5 x6) (ht : t ≠ e) (ho : W.ownsRow B e size v n xs) : v.ownBlock ≠ some b := fun hb => by
  rcases ho.2 with ⟨rfl, _⟩ | ⟨g, cap, cur, rfl, _, hg, _⟩
  · cases hb
  · obtain rfl : g = b := by simpa [Value.ownBlock] using hb
    unfold Box7 at h
    rw [hg] at h
    cases h
    exact ht rfl
end
def set7 (W : World) (b : Nat) (x0 x1 x2 x3 x4 x5 x6 : Value) : World :=
  ((((((W.setCell ⟨b, 0, none⟩ x0).setCell ⟨b, 1, none⟩ x1).setCell ⟨b, 2, none⟩ x2).setCell ⟨b, 3, none⟩ x3).setCell ⟨b, 4, none⟩ x4).setCell ⟨b, 5, none⟩ x5).setCell ⟨b, 6, none⟩ x6
theorem set7_grown (W : World) (b : Nat) (x0 x1 x2 x3 x4 x5 x6 : Value) : W.grownBy (set7 W b x0 x1 x2 x3 x4 x5 x6) (some b) :=
  grownBy_trans (grownBy_trans (grownBy_trans (grownBy_trans (grownBy_trans (grownBy_trans (grownBy_setCell W ⟨b, 0, none⟩ x0) (grownBy_setCell _ ⟨b, 1, none⟩ x1)) (grownBy_setCell _ ⟨b, 2, none⟩ x2)) (grownBy_setCell _ ⟨b, 3, none⟩ x3)) (grownBy_setCell _ ⟨b, 4, none⟩ x4)) (grownBy_setCell _ ⟨b, 5, none⟩ x5)) (grownBy_setCell _ ⟨b, 6, none⟩ x6)
theorem Box7.set {W : World} {b : Nat} {t : TypeId} {x0 x1 x2 x3 x4 x5 x6 : Value} (h : Box7 W b t x0 x1 x2 x3 x4 x5 x6) (y0 y1 y2 y3 y4 y5 y6 : Value) : Box7 (set7 W b y0 y1 y2 y3 y4 y5 y6) b t y0 y1 y2 y3 y4 y5 y6 :=
  ((((((h.set0 y0).set1 y1).set2 y2).set3 y3).set4 y4).set5 y5).set6 y6
theorem below_set7 {B b : Nat} {w W : World} (h : Below B w W) (hb : B ≤ b) (x0 x1 x2 x3 x4 x5 x6 : Value) : Below B w (set7 W b x0 x1 x2 x3 x4 x5 x6) := ((((((h.setCell hb _).setCell hb _).setCell hb _).setCell hb _).setCell hb _).setCell hb _).setCell hb _
theorem set7_size (W : World) (b : Nat) (x0 x1 x2 x3 x4 x5 x6 : Value) : (set7 W b x0 x1 x2 x3 x4 x5 x6).heap.size = W.heap.size := by unfold set7; simp
structure SV where
  xr : Option Addr
  nr : Nat
  cr : Nat
  xf : Option Addr
  nf : Nat
  cf : Nat
  xt : Option Addr
  nt : Nat
  ct : Nat
  xk : Option Addr
  nk : Nat
  ck : Nat
def SV.r (V : SV) : Value := .slice V.xr V.nr V.cr
def SV.f (V : SV) : Value := .slice V.xf V.nf V.cf
def SV.t (V : SV) : Value := .slice V.xt V.nt V.ct
def SV.k (V : SV) : Value := .slice V.xk V.nk V.ck
theorem Ints.len {w : World} {x : Option Addr} {n c : Nat} {zs : List Int} (h : Ints w (.slice x n c) zs) : n = zs.length := by
  rcases h with ⟨e, rfl⟩ | ⟨b, o, cap, e, _⟩
  · simp at e; simp [e]
  · simp at e; omega
structure RdS (w : World) (V : SV) (s : Sm) : Prop where
  r : Rws w V.r s.rs
  f : Ints w V.f s.zs
  t : T.Prs w V.t s.ps
  k : K.Prs w V.k s.ks
theorem RdS.below {w w' : World} {V : SV} {s : Sm} (h : RdS w V s) {B : Nat} (hb : Below B w w') (hB : w.heap.size ≤ B) : RdS w' V s := ⟨h.r.below hb hB, h.f.below hb hB, h.t.below hb hB, h.k.below hb hB⟩
structure OwnS (w : World) (B U : Nat) (V : SV) (s : Sm) : Prop where
  mid : ∃ M, B ≤ M ∧ M ≤ U ∧ OwnRR w B M V.r s.rs ∧ OwnI w M V.f s.zs
  t : T.OwnP w B V.t s.ps
  k : K.OwnP w B V.k s.ks
  ft : ∀ g, V.f.ownBlock = some g → g < U
  tt : ∀ g, V.t.ownBlock = some g → g < U
  kt : ∀ g, V.k.ownBlock = some g → g < U
  top : U ≤ w.heap.size
theorem OwnRR.base {w : World} {B B' U : Nat} {v : Value} {rs : List (List Int)} (h : OwnRR w B U v rs) (hB : B' ≤ B) : OwnRR w B' U v rs := by
  obtain ⟨G, C, h, h1, h2, h3⟩ := h
  exact ⟨G, C, ⟨ownsRow_base h.hdr hB, fun i hi => ownsRow_base (h.row i hi) hB, h.off, h.apart⟩, h1, h2, h3⟩
theorem OwnS.base {w : World} {B B' U U' : Nat} {V : SV} {s : Sm} (h : OwnS w B U V s) (hB : B' ≤ B) (hT : U ≤ U') (hU' : U' ≤ w.heap.size) : OwnS w B' U' V s := by
  obtain ⟨M, h1, h2, hr, hf⟩ := h.mid
  exact ⟨⟨M, by omega, by omega, hr.base hB, hf⟩, ownsRow_base h.t hB, ownsRow_base h.k hB, fun g e => by have := h.ft g e; omega, fun g e => by have := h.tt g e; omega, fun g e => by have := h.kt g e; omega, hU'⟩
end Go.Proofs.YtcblbdpdbggkbaaGreat
set_option linter.unusedVariables false
namespace Go.Proofs.YtcblbdpdbggkbaaGreat
open Go.RowKit Go.Sort
theorem own_ne {w : World} {B B' : Nat} {e e' : TypeId} {z z' n n' : Nat} {u v : Value} {xs ys : List Value} (h : w.ownsRow B e z u n xs) (h' : w.ownsRow B' e' z' v n' ys) (he : e ≠ e') : u.ownBlock = none ∨ u.ownBlock ≠ v.ownBlock := by
  rcases h.2 with ⟨rfl, _⟩ | ⟨g, cap, cur, rfl, _, hg, _⟩
  · exact .inl rfl
  · refine .inr fun q => ?_
    rcases h'.2 with ⟨rfl, _⟩ | ⟨g', cap', cur', rfl, _, hg', _⟩
    · cases q
    · have q' : g = g' := by simpa [Value.ownBlock] using q
      subst q'
      rw [hg] at hg'
      simp at hg'
      exact he hg'.2
end Go.Proofs.YtcblbdpdbggkbaaGreat
set_option linter.unusedVariables false
set_option linter.unusedSectionVars false
set_option linter.unusedSimpArgs false
namespace Go.Proofs.YtcblbdpdbggkbaaGreat.N
open Go.RowKit Go.Sort
structure En where
  node : Int
  born : Int
  num : Int
  s : Sm
structure Nd where
  born : Int
  known : List En
  beacon : Int
  level : Int
  up : Int
structure Wd where
  kind : Int
  src : Int
  dst : Int
  beacon : Int
  level : Int
  known : List En
structure Nt where
  nodes : List Nd
  links : List Bool
  words : List Wd
  past : List (List (List Int))
def noNd : Nd := ⟨0, [], 0, 0, 0⟩
def isNode (i : Int) : Prop := 0 ≤ i ∧ i ≤ 4
instance (i : Int) : Decidable (isNode i) := by unfold isNode; infer_instance
end Go.Proofs.YtcblbdpdbggkbaaGreat.N
namespace Go.Proofs.YtcblbdpdbggkbaaGreat
open Go.RowKit Go.Sort
def encP2 (p : Int × Int) : List Value := [.int .i64 p.1, .int .i64 p.2]
def pairsR : Rep (List (Int × Int)) := flR 213 2 encP2
def knotsR : Rep (List (Int × Int)) := flR 152 2 encP2
theorem pairsR_frame : pairsR.Frame := flR_frame
theorem knotsR_frame : knotsR.Frame := flR_frame
theorem ints_flat (zs : List Int) : zs.flatMap encI = ints zs := by
  induction zs with
  | nil => rfl
  | cons z zs ih => rw [List.flatMap_cons, ih]; rfl
theorem intsR_of {w : World} {B : Nat} {v : Value} {zs : List Int} (h : OwnI w B v zs) : intsR w [v] zs v.ownBlock.toList :=
  .inl (slc_flat_of (by rw [ints_flat]; exact h) (fun _ => rfl))
theorem intsR_to {w : World} {cs : List Value} {zs : List Int} {fp : List Nat} (h : intsR w cs zs fp) : ∃ v, cs = [v] ∧ Ints w v zs ∧ (zs ≠ [] → OwnI w 0 v zs ∧ fp = v.ownBlock.toList) := by
  rcases h with h | ⟨rfl, rfl, b, o, rfl, hb⟩
  · obtain ⟨v, e, ho, hf⟩ := slc_flat_to h
    rw [ints_flat] at ho
    exact ⟨v, e, OwnI.rd ho, fun _ => ⟨ho, hf⟩⟩
  · exact ⟨_, rfl, .inr ⟨b, o, 0, rfl, Nat.le_refl _, Nat.zero_le _, hb, fun i hi => absurd hi (Nat.not_lt_zero i)⟩, fun q => absurd rfl q⟩
theorem pairsR_of {w : World} {B : Nat} {v : Value} {ps : List T.Pr} (h : T.OwnP w B v ps) : pairsR w [v] ps v.ownBlock.toList := .inl (slc_flat_of h (fun _ => rfl))
theorem pairsR_to {w : World} {cs : List Value} {ps : List T.Pr} {fp : List Nat} (h : pairsR w cs ps fp) : ∃ v, cs = [v] ∧ T.Prs w v ps ∧ (ps ≠ [] → T.OwnP w 0 v ps ∧ fp = v.ownBlock.toList) := by
  rcases h with h | ⟨rfl, rfl, b, o, rfl, hb⟩
  · obtain ⟨v, e, ho, hf⟩ := slc_flat_to h
    exact ⟨v, e, T.OwnP.rd ho, fun _ => ⟨ho, hf⟩⟩
  · exact ⟨_, rfl, .inr ⟨b, o, 0, rfl, Nat.le_refl _, Nat.zero_le _, hb, fun i hi => absurd hi (Nat.not_lt_zero i)⟩, fun q => absurd rfl q⟩
theorem knotsR_of {w : World} {B : Nat} {v : Value} {ps : List K.Pr} (h : K.OwnP w B v ps) : knotsR w [v] ps v.ownBlock.toList := .inl (slc_flat_of h (fun _ => rfl))
theorem knotsR_to {w : World} {cs : List Value} {ps : List K.Pr} {fp : List Nat} (h : knotsR w cs ps fp) : ∃ v, cs = [v] ∧ K.Prs w v ps ∧ (ps ≠ [] → K.OwnP w 0 v ps ∧ fp = v.ownBlock.toList) := by
  rcases h with h | ⟨rfl, rfl, b, o, rfl, hb⟩
  · obtain ⟨v, e, ho, hf⟩ := slc_flat_to h
    exact ⟨v, e, K.OwnP.rd ho, fun _ => ⟨ho, hf⟩⟩
  · exact ⟨_, rfl, .inr ⟨b, o, 0, rfl, Nat.le_refl _, Nat.zero_le _, hb, fun i hi => absurd hi (Nat.not_lt_zero i)⟩, fun q => absurd rfl q⟩
theorem rowsR_of {w : World} {B : Nat} {v : Value} {rs : List (List Int)} {G C : Nat → Nat} (h : OwnR w B v rs G C) : rowsR w [v] rs (v.ownBlock.toList ++ (List.range rs.length).map G) := by
  refine ⟨v, fun i => [rowV rs G C i], fun i => [G i], rfl, ?_, fun i hi => rfl, fun i a hi => ?_, ?_⟩
  · rw [one_flat]
    exact ownsRow_base h.hdr (Nat.zero_le _)
  · have hlt := (List.getElem?_eq_some_iff.1 hi).1
    have e : rs.getD i [] = a := by rw [List.getD_eq_getElem?_getD, hi]; rfl
    have r := h.row i hlt
    rw [e] at r
    exact intsR_of r
  · rw [one_flat]
theorem rowsR_rd {w : World} {cs : List Value} {rs : List (List Int)} {fp : List Nat} (h : rowsR w cs rs fp) : ∃ v, cs = [v] ∧ Rws w v rs := by
  obtain ⟨v, c, f, rfl, ho, hl, ha, rfl⟩ := h
  refine ⟨v, rfl, ?_⟩
  rcases ho.2 with ⟨rfl, h0⟩ | ⟨g, cap, cur, rfl, hb, hg, hn, hc, hs, ht⟩
  · exact .inl ⟨rfl, List.eq_nil_of_length_eq_zero h0⟩
  · refine .inr ⟨g, 0, cap, rfl, hn, hc, (Array.getElem?_eq_some_iff.1 hg).1, fun i hi => ?_⟩
    obtain ⟨x, hx, hox, _⟩ := intsR_to (ha i _ (List.getElem?_eq_getElem hi))
    have q := World.ownsRow.cellAt ho i (by omega)
    have z := flat_at (k := 0) hl hi (by omega)
    rw [Nat.mul_one, Nat.add_zero] at z
    refine ⟨x, by rw [Nat.zero_add, q, z, hx]; rfl, ?_⟩
    rw [List.getD_eq_getElem?_getD, List.getElem?_eq_getElem hi]
    exact hox
def sumR : Rep Sm := fun w cs s fp => ∃ V f1 f2 f3 f4, cs = [.slice V.xr V.nr V.cr, .slice V.xf V.nf V.cf, .slice V.xt V.nt V.ct, .int .i64 s.lo, .int .i64 s.al, .slice V.xk V.nk V.ck, .int .i64 s.ka] ∧ fp = f1 ++ (f2 ++ (f3 ++ f4)) ∧ rowsR w [SV.r V] s.rs f1 ∧ intsR w [SV.f V] s.zs f2 ∧ pairsR w [SV.t V] s.ps f3 ∧ knotsR w [SV.k V] s.ks f4
theorem sumR_frame : sumR.Frame := by
  refine ⟨?_, ?_⟩
  · rintro w cs s fp ⟨V, f1, f2, f3, f4, rfl, rfl, h1, h2, h3, h4⟩ b hm
    simp only [List.mem_append] at hm
    rcases hm with hm | hm | hm | hm
    · exact rowsR_frame.lt h1 b hm
    · exact intsR_frame.lt h2 b hm
    · exact pairsR_frame.lt h3 b hm
    · exact knotsR_frame.lt h4 b hm
  · rintro w w' cs s fp ⟨V, f1, f2, f3, f4, rfl, rfl, h1, h2, h3, h4⟩ hk hs
    exact ⟨V, f1, f2, f3, f4, rfl, rfl, rowsR_frame.keep h1 (fun b hm => hk b (by simp [hm])) hs, intsR_frame.keep h2 (fun b hm => hk b (by simp [hm])) hs, pairsR_frame.keep h3 (fun b hm => hk b (by simp [hm])) hs, knotsR_frame.keep h4 (fun b hm => hk b (by simp [hm])) hs⟩
theorem sumR_rd {w : World} {cs : List Value} {s : Sm} {fp : List Nat} (h : sumR w cs s fp) : ∃ V, cs = [.slice V.xr V.nr V.cr, .slice V.xf V.nf V.cf, .slice V.xt V.nt V.ct, .int .i64 s.lo, .int .i64 s.al, .slice V.xk V.nk V.ck, .int .i64 s.ka] ∧ RdS w V s := by
  obtain ⟨V, f1, f2, f3, f4, rfl, rfl, h1, h2, h3, h4⟩ := h
  obtain ⟨v1, e1, r1⟩ := rowsR_rd h1
  obtain ⟨v2, e2, r2, _⟩ := intsR_to h2
  obtain ⟨v3, e3, r3, _⟩ := pairsR_to h3
  obtain ⟨v4, e4, r4, _⟩ := knotsR_to h4
  cases e1; cases e2; cases e3; cases e4
  exact ⟨V, rfl, r1, r2, r3, r4⟩
theorem OwnS.rep {w : World} {B U : Nat} {V : SV} {s : Sm} (h : OwnS w B U V s) : ∃ fp, sumR w [.slice V.xr V.nr V.cr, .slice V.xf V.nf V.cf, .slice V.xt V.nt V.ct, .int .i64 s.lo, .int .i64 s.al, .slice V.xk V.nk V.ck, .int .i64 s.ka] s fp ∧ fp.Nodup ∧ ∀ b ∈ fp, B ≤ b ∧ b < U := by
  obtain ⟨M, m1, m2, ⟨G, C, o, q1, q2, q3⟩, hf⟩ := h.mid
  refine ⟨_, ⟨V, _, _, _, _, rfl, rfl, rowsR_of o, intsR_of hf, pairsR_of h.t, knotsR_of h.k⟩, ?_, ?_⟩
  · have gG : ∀ i, i < s.rs.length → B ≤ G i ∧ G i < M := fun i hi => ⟨((o.row i hi).lt (G i) rfl).1, q2 i hi⟩
    have gr : ∀ b, V.r.ownBlock = some b → B ≤ b ∧ b < M := fun b e => ⟨(World.ownsRow.lt o.hdr b e).1, q1 b e⟩
    have gf : ∀ b, V.f.ownBlock = some b → M ≤ b := fun b e => (World.ownsRow.lt hf b e).1
    have tr : ∀ b, V.t.ownBlock = some b → V.r.ownBlock ≠ some b := fun b e e' => by
      rcases own_ne h.t o.hdr (by decide) with n | n
      · rw [n] at e; cases e
      · exact n (e.trans e'.symm)
    have tg : ∀ b, V.t.ownBlock = some b → ∀ i, i < s.rs.length → G i ≠ b := fun b e i hi e' => by
      rcases own_ne h.t (o.row i hi) (by decide) with n | n
      · rw [n] at e; cases e
      · exact n (e.trans (by rw [← e']; rfl))
    have tf : ∀ b, V.t.ownBlock = some b → V.f.ownBlock ≠ some b := fun b e e' => by
      rcases own_ne h.t hf (by decide) with n | n
      · rw [n] at e; cases e
      · exact n (e.trans e'.symm)
    have kr : ∀ b, V.k.ownBlock = some b → V.r.ownBlock ≠ some b := fun b e e' => by
      rcases own_ne h.k o.hdr (by decide) with n | n
      · rw [n] at e; cases e
      · exact n (e.trans e'.symm)
    have kg : ∀ b, V.k.ownBlock = some b → ∀ i, i < s.rs.length → G i ≠ b := fun b e i hi e' => by
      rcases own_ne h.k (o.row i hi) (by decide) with n | n
      · rw [n] at e; cases e
      · exact n (e.trans (by rw [← e']; rfl))
    have kf : ∀ b, V.k.ownBlock = some b → V.f.ownBlock ≠ some b := fun b e e' => by
      rcases own_ne h.k hf (by decide) with n | n
      · rw [n] at e; cases e
      · exact n (e.trans e'.symm)
    have kt : ∀ b, V.k.ownBlock = some b → V.t.ownBlock ≠ some b := fun b e e' => by
      rcases own_ne h.k h.t (by decide) with n | n
      · rw [n] at e; cases e
      · exact n (e.trans e'.symm)
    refine List.nodup_append.2 ⟨List.nodup_append.2 ⟨block_nodup _, ?_, ?_⟩, List.nodup_append.2 ⟨block_nodup _, List.nodup_append.2 ⟨block_nodup _, block_nodup _, ?_⟩, ?_⟩, ?_⟩
    · exact List.pairwise_map.2 (List.Pairwise.imp_of_mem (fun {i j} hi hj q e => o.apart i j (List.mem_range.1 hi) (List.mem_range.1 hj) q e) List.nodup_range)
    · intro a ha b hb e
      obtain ⟨i, hi, rfl⟩ := List.mem_map.1 hb
      exact o.off i (List.mem_range.1 hi) (by rw [block_mem ha, e])
    · intro a ha b hb e
      exact kt b (block_mem hb) (by rw [block_mem ha, e])
    · intro a ha b hb e
      rcases List.mem_append.1 hb with hb | hb
      · exact tf b (block_mem hb) (by rw [block_mem ha, e])
      · exact kf b (block_mem hb) (by rw [block_mem ha, e])
    · intro a ha b hb e
      subst e
      rcases List.mem_append.1 ha with ha | ha
      · have e1 := block_mem ha
        rcases List.mem_append.1 hb with hb | hb
        · have := gf a (block_mem hb); have := (gr a e1).2; omega
        · rcases List.mem_append.1 hb with hb | hb
          · exact tr a (block_mem hb) e1
          · exact kr a (block_mem hb) e1
      · obtain ⟨i, hi, rfl⟩ := List.mem_map.1 ha
        have hi := List.mem_range.1 hi
        rcases List.mem_append.1 hb with hb | hb
        · have := gf _ (block_mem hb); have := (gG i hi).2; omega
        · rcases List.mem_append.1 hb with hb | hb
          · exact tg _ (block_mem hb) i hi rfl
          · exact kg _ (block_mem hb) i hi rfl
  · intro b hb
    simp only [List.mem_append] at hb
    rcases hb with (hb | hb) | hb | hb | hb
    · have e := block_mem hb
      have := (World.ownsRow.lt o.hdr b e).1; have := q1 b e; omega
    · obtain ⟨i, hi, rfl⟩ := List.mem_map.1 hb
      have hi := List.mem_range.1 hi
      have := ((o.row i hi).lt (G i) rfl).1; have := q2 i hi; omega
    · have e := block_mem hb
      have := (World.ownsRow.lt hf b e).1; have := h.ft b e; omega
    · have e := block_mem hb
      exact ⟨(World.ownsRow.lt h.t b e).1, h.tt b e⟩
    · have e := block_mem hb
      exact ⟨(World.ownsRow.lt h.k b e).1, h.kt b e⟩
end Go.Proofs.YtcblbdpdbggkbaaGreat
namespace Go.Proofs.YtcblbdpdbggkbaaGreat
open Go.RowKit Go.Sort
namespace N
structure Ty where
  entry : TypeId
  node : TypeId
  word : TypeId
  bool : TypeId
  rows : TypeId
variable {T : Ty}
def encB (b : Bool) : List Value := [.bool b]
def entryR : Rep En := viaR (andR intR (andR intR (andR intR sumR))) fun e => (e.node, e.born, e.num, e.s)
def knownR (T : Ty) : Rep (List En) := slcR T.entry 10 entryR
def nodeR (T : Ty) : Rep Nd := viaR (andR intR (andR (knownR T) (andR intR (andR intR intR)))) fun x => (x.born, x.known, x.beacon, x.level, x.up)
def wordR (T : Ty) : Rep Wd := viaR (andR intR (andR intR (andR intR (andR intR (andR intR (knownR T)))))) fun x => (x.kind, x.src, x.dst, x.beacon, x.level, x.known)
def nodesR (T : Ty) : Rep (List Nd) := slcR T.node 5 (nodeR T)
def wordsR (T : Ty) : Rep (List Wd) := slcR T.word 6 (wordR T)
def linksR (T : Ty) : Rep (List Bool) := slcR T.bool 1 (flatR encB)
def pastR (T : Ty) : Rep (List (List (List Int))) := slcR T.rows 1 rowsR
def netR (T : Ty) : Rep Nt := viaR (andR (nodesR T) (andR (linksR T) (andR (wordsR T) (pastR T)))) fun n => (n.nodes, n.links, n.words, n.past)
theorem entryR_frame : entryR.Frame := viaR_frame (andR_frame intR_frame (andR_frame intR_frame (andR_frame intR_frame sumR_frame))) _
theorem knownR_frame : (knownR T).Frame := slcR_frame entryR_frame _ _
theorem nodeR_frame : (nodeR T).Frame := viaR_frame (andR_frame intR_frame (andR_frame knownR_frame (andR_frame intR_frame (andR_frame intR_frame intR_frame)))) _
theorem wordR_frame : (wordR T).Frame := viaR_frame (andR_frame intR_frame (andR_frame intR_frame (andR_frame intR_frame (andR_frame intR_frame (andR_frame intR_frame knownR_frame))))) _
theorem nodesR_frame : (nodesR T).Frame := slcR_frame nodeR_frame _ _
theorem wordsR_frame : (wordsR T).Frame := slcR_frame wordR_frame _ _
theorem linksR_frame : (linksR T).Frame := slcR_frame (flatR_frame _) _ _
theorem pastR_frame : (pastR T).Frame := slcR_frame rowsR_frame _ _
theorem netR_frame : (netR T).Frame := viaR_frame (andR_frame nodesR_frame (andR_frame linksR_frame (andR_frame wordsR_frame pastR_frame))) _
section
variable {w : World} {cs : List Value} {fp : List Nat}
theorem entryR_iff {e : En} : entryR w cs e fp ↔ ∃ c, cs = .int .i64 e.node :: .int .i64 e.born :: .int .i64 e.num :: c ∧ sumR w c e.s fp := by
  constructor
  · rintro ⟨_, _, _, _, rfl, rfl, ⟨rfl, rfl⟩, ⟨_, _, _, _, rfl, rfl, ⟨rfl, rfl⟩, ⟨_, _, _, _, rfl, rfl, ⟨rfl, rfl⟩, h⟩⟩⟩
    exact ⟨_, rfl, h⟩
  · rintro ⟨c, rfl, h⟩
    exact ⟨[_], _, [], fp, rfl, rfl, ⟨rfl, rfl⟩, ⟨[_], _, [], fp, rfl, rfl, ⟨rfl, rfl⟩, ⟨[_], _, [], fp, rfl, rfl, ⟨rfl, rfl⟩, h⟩⟩⟩
theorem nodeR_iff {x : Nd} : nodeR T w cs x fp ↔ ∃ v, cs = [.int .i64 x.born, v, .int .i64 x.beacon, .int .i64 x.level, .int .i64 x.up] ∧ knownR T w [v] x.known fp := by
  constructor
  · rintro ⟨_, _, _, _, rfl, rfl, ⟨rfl, rfl⟩, ⟨_, _, _, _, rfl, rfl, h, ⟨_, _, _, _, rfl, rfl, ⟨rfl, rfl⟩, ⟨_, _, _, _, rfl, rfl, ⟨rfl, rfl⟩, ⟨rfl, rfl⟩⟩⟩⟩⟩
    obtain ⟨v, c, f, rfl, h'⟩ := h
    refine ⟨v, rfl, ?_⟩
    simp only [List.nil_append, List.append_nil]
    exact ⟨v, c, f, rfl, h'⟩
  · rintro ⟨v, rfl, h⟩
    refine ⟨[_], [v, _, _, _], [], fp, rfl, rfl, ⟨rfl, rfl⟩, ⟨[v], [_, _, _], fp, [], rfl, (List.append_nil _).symm, h, ⟨[_], [_, _], [], [], rfl, rfl, ⟨rfl, rfl⟩, ⟨[_], [_], [], [], rfl, rfl, ⟨rfl, rfl⟩, ⟨rfl, rfl⟩⟩⟩⟩⟩
theorem wordR_iff {x : Wd} : wordR T w cs x fp ↔ ∃ v, cs = [.int .i64 x.kind, .int .i64 x.src, .int .i64 x.dst, .int .i64 x.beacon, .int .i64 x.level, v] ∧ knownR T w [v] x.known fp := by
  constructor
  · rintro ⟨_, _, _, _, rfl, rfl, ⟨rfl, rfl⟩, ⟨_, _, _, _, rfl, rfl, ⟨rfl, rfl⟩, ⟨_, _, _, _, rfl, rfl, ⟨rfl, rfl⟩, ⟨_, _, _, _, rfl, rfl, ⟨rfl, rfl⟩, ⟨_, _, _, _, rfl, rfl, ⟨rfl, rfl⟩, h⟩⟩⟩⟩⟩
    obtain ⟨v, c, f, rfl, h'⟩ := h
    exact ⟨v, rfl, ⟨v, c, f, rfl, h'⟩⟩
  · rintro ⟨v, rfl, h⟩
    exact ⟨[_], _, [], fp, rfl, rfl, ⟨rfl, rfl⟩, ⟨[_], _, [], fp, rfl, rfl, ⟨rfl, rfl⟩, ⟨[_], _, [], fp, rfl, rfl, ⟨rfl, rfl⟩, ⟨[_], _, [], fp, rfl, rfl, ⟨rfl, rfl⟩, ⟨[_], _, [], fp, rfl, rfl, ⟨rfl, rfl⟩, h⟩⟩⟩⟩⟩
theorem netR_iff {n : Nt} : netR T w cs n fp ↔ ∃ v1 v2 v3 v4 f1 f2 f3 f4, cs = [v1, v2, v3, v4] ∧ fp = f1 ++ (f2 ++ (f3 ++ f4)) ∧ nodesR T w [v1] n.nodes f1 ∧ linksR T w [v2] n.links f2 ∧ wordsR T w [v3] n.words f3 ∧ pastR T w [v4] n.past f4 := by
  constructor
  · rintro ⟨_, _, f1, _, rfl, rfl, ⟨v1, a1, b1, rfl, h1⟩, ⟨_, _, f2, _, rfl, rfl, ⟨v2, a2, b2, rfl, h2⟩, ⟨_, _, f3, f4, rfl, rfl, ⟨v3, a3, b3, rfl, h3⟩, ⟨v4, a4, b4, rfl, h4⟩⟩⟩⟩
    exact ⟨v1, v2, v3, v4, f1, f2, f3, f4, rfl, rfl, ⟨v1, a1, b1, rfl, h1⟩, ⟨v2, a2, b2, rfl, h2⟩, ⟨v3, a3, b3, rfl, h3⟩, ⟨v4, a4, b4, rfl, h4⟩⟩
  · rintro ⟨v1, v2, v3, v4, f1, f2, f3, f4, rfl, rfl, h1, h2, h3, h4⟩
    exact ⟨[v1], [v2, v3, v4], f1, _, rfl, rfl, h1, ⟨[v2], [v3, v4], f2, _, rfl, rfl, h2, ⟨[v3], [v4], f3, f4, rfl, rfl, h3, h4⟩⟩⟩
end
end N
end Go.Proofs.YtcblbdpdbggkbaaGreat
namespace Go.Proofs.YtcblbdpdbggkbaaGreat
open Go.RowKit Go.Sort
section
variable {α : Type} {A : Rep α} {e : TypeId} {size : Nat} {w : World} {B : Nat} {xs : List α} {fp : List Nat}
end
namespace N
variable {T : Ty} {w : World} {B : Nat} {n : Nt} {fp : List Nat} {v1 v2 v3 v4 : Value}
section
variable {f1 f2 f3 f4 : List Nat}
end
end N
end Go.Proofs.YtcblbdpdbggkbaaGreat
namespace Go.Proofs.YtcblbdpdbggkbaaGreat
open Go.RowKit Go.Sort
namespace N
variable {T : Ty} {w : World} {fp : List Nat} {x : Option Addr} {k c : Nat}
theorem known_at {es : List En} (h : knownR T w [.slice x k c] es fp) {i : Nat} {e : En} (hi : es[i]? = some e) : ∃ (g : Nat) (V : SV) (fe : List Nat), x = some ⟨g, 0, none⟩ ∧ g < w.heap.size ∧ (∀ b ∈ fe, b ∈ fp) ∧ sumR w [.slice V.xr V.nr V.cr, .slice V.xf V.nf V.cf, .slice V.xt V.nt V.ct, .int .i64 (e.s).lo, .int .i64 (e.s).al, .slice V.xk V.nk V.ck, .int .i64 (e.s).ka] e.s fe ∧
    w.cell? ⟨g, i * 10, none⟩ = some (.int .i64 e.node) ∧ w.cell? ⟨g, i * 10 + 1, none⟩ = some (.int .i64 e.born) ∧ w.cell? ⟨g, i * 10 + 2, none⟩ = some (.int .i64 e.num) ∧
    ∀ j z, ([.slice V.xr V.nr V.cr, .slice V.xf V.nf V.cf, .slice V.xt V.nt V.ct, .int .i64 (e.s).lo, .int .i64 (e.s).al, .slice V.xk V.nk V.ck, .int .i64 (e.s).ka] : List Value)[j]? = some z → w.cell? ⟨g, i * 10 + (3 + j), none⟩ = some z := by
  obtain ⟨_, at_⟩ := slcR_row h
  obtain ⟨g, ci, fi, q, h1, h2, h3, h4, h5⟩ := at_ hi
  obtain ⟨cs, rfl, hs⟩ := entryR_iff.1 h2
  obtain ⟨V, f1, f2, f3, f4, rfl, r⟩ := hs
  refine ⟨g, V, fi, q, h1, h3, ⟨V, f1, f2, f3, f4, rfl, r⟩, h5 0 _ rfl, h5 1 _ rfl, h5 2 _ rfl, fun j z hz => h5 (3 + j) z ?_⟩
  rw [Nat.add_comm]
  exact hz
theorem node_at {ns : List Nd} (h : nodesR T w [.slice x k c] ns fp) {i : Nat} {a : Nd} (hi : ns[i]? = some a) : ∃ g xk ck fk, x = some ⟨g, 0, none⟩ ∧ g < w.heap.size ∧ (∀ b ∈ fk, b ∈ fp) ∧ knownR T w [.slice xk a.known.length ck] a.known fk ∧ a.known.length ≤ ck ∧ ck ≤ maxLen ∧
    w.cell? ⟨g, i * 5, none⟩ = some (.int .i64 a.born) ∧ w.cell? ⟨g, i * 5 + 1, none⟩ = some (.slice xk a.known.length ck) ∧ w.cell? ⟨g, i * 5 + 2, none⟩ = some (.int .i64 a.beacon) ∧ w.cell? ⟨g, i * 5 + 3, none⟩ = some (.int .i64 a.level) ∧ w.cell? ⟨g, i * 5 + 4, none⟩ = some (.int .i64 a.up) := by
  obtain ⟨_, at_⟩ := slcR_row h
  obtain ⟨g, ci, fi, q, h1, h2, h3, h4, h5⟩ := at_ hi
  obtain ⟨kn, rfl, hk⟩ := nodeR_iff.1 h2
  obtain ⟨xk, ck, rfl, l1, l2⟩ := slcR_value hk
  exact ⟨g, xk, ck, fi, q, h1, h3, hk, l1, l2, h5 0 _ rfl, h5 1 _ rfl, h5 2 _ rfl, h5 3 _ rfl, h5 4 _ rfl⟩
theorem wordR_at {ws : List Wd} (h : wordsR T w [.slice x k c] ws fp) {i : Nat} {a : Wd} (hi : ws[i]? = some a) : ∃ g xk ck fk, x = some ⟨g, 0, none⟩ ∧ g < w.heap.size ∧ (∀ b ∈ fk, b ∈ fp) ∧ knownR T w [.slice xk a.known.length ck] a.known fk ∧ a.known.length ≤ ck ∧ ck ≤ maxLen ∧
    w.cell? ⟨g, i * 6, none⟩ = some (.int .i64 a.kind) ∧ w.cell? ⟨g, i * 6 + 1, none⟩ = some (.int .i64 a.src) ∧ w.cell? ⟨g, i * 6 + 2, none⟩ = some (.int .i64 a.dst) ∧ w.cell? ⟨g, i * 6 + 3, none⟩ = some (.int .i64 a.beacon) ∧ w.cell? ⟨g, i * 6 + 4, none⟩ = some (.int .i64 a.level) ∧ w.cell? ⟨g, i * 6 + 5, none⟩ = some (.slice xk a.known.length ck) := by
  obtain ⟨_, at_⟩ := slcR_row h
  obtain ⟨g, ci, fi, q, h1, h2, h3, h4, h5⟩ := at_ hi
  obtain ⟨kn, rfl, hk⟩ := wordR_iff.1 h2
  obtain ⟨xk, ck, rfl, l1, l2⟩ := slcR_value hk
  exact ⟨g, xk, ck, fi, q, h1, h3, hk, l1, l2, h5 0 _ rfl, h5 1 _ rfl, h5 2 _ rfl, h5 3 _ rfl, h5 4 _ rfl, h5 5 _ rfl⟩
theorem link_at {ls : List Bool} (h : linksR T w [.slice x k c] ls fp) {i : Nat} {b : Bool} (hi : ls[i]? = some b) : ∃ g, x = some ⟨g, 0, none⟩ ∧ g < w.heap.size ∧ w.cell? ⟨g, i, none⟩ = some (.bool b) := by
  obtain ⟨_, at_⟩ := slcR_row h
  obtain ⟨g, ci, fi, q, h1, h2, h3, h4, h5⟩ := at_ hi
  refine ⟨g, q, h1, ?_⟩
  have r := h5 0 (.bool b) (by rw [h2.1]; rfl)
  rwa [Nat.mul_one, Nat.add_zero] at r
theorem past_at {ps : List (List (List Int))} (h : pastR T w [.slice x k c] ps fp) {i : Nat} {rs : List (List Int)} (hi : ps[i]? = some rs) : ∃ g xr cr fr, x = some ⟨g, 0, none⟩ ∧ g < w.heap.size ∧ (∀ b ∈ fr, b ∈ fp) ∧ rowsR w [.slice xr rs.length cr] rs fr ∧ rs.length ≤ cr ∧ cr ≤ maxLen ∧ w.cell? ⟨g, i, none⟩ = some (.slice xr rs.length cr) := by
  obtain ⟨_, at_⟩ := slcR_row h
  obtain ⟨g, ci, fi, q, h1, h2, h3, h4, h5⟩ := at_ hi
  obtain ⟨vr, rfl⟩ : ∃ vr, ci = [vr] := by
    obtain ⟨vr, a, b, e, _⟩ := h2
    exact ⟨vr, e⟩
  obtain ⟨xr, cr, rfl, l1, l2⟩ := slcR_value h2
  have r := h5 0 _ rfl
  rw [Nat.mul_one, Nat.add_zero] at r
  exact ⟨g, xr, cr, fi, q, h1, h3, h2, l1, l2, r⟩
theorem row_at {rs : List (List Int)} (h : rowsR w [.slice x k c] rs fp) {i : Nat} {l : List Int} (hi : rs[i]? = some l) : ∃ g xr cr fr, x = some ⟨g, 0, none⟩ ∧ g < w.heap.size ∧ (∀ b ∈ fr, b ∈ fp) ∧ intsR w [.slice xr l.length cr] l fr ∧ l.length ≤ cr ∧ cr ≤ maxLen ∧ w.cell? ⟨g, i, none⟩ = some (.slice xr l.length cr) := by
  obtain ⟨_, at_⟩ := slcR_row h
  obtain ⟨g, ci, fi, q, h1, h2, h3, h4, h5⟩ := at_ hi
  obtain ⟨vr, rfl⟩ : ∃ vr, ci = [vr] := by
    obtain ⟨vr, e, _⟩ := intsR_to h2
    exact ⟨vr, e⟩
  obtain ⟨xr, cr, rfl, l1, l2⟩ := flR_value h2
  have r := h5 0 _ rfl
  rw [Nat.mul_one, Nat.add_zero] at r
  exact ⟨g, xr, cr, fi, q, h1, h3, h2, l1, l2, r⟩
end N
end Go.Proofs.YtcblbdpdbggkbaaGreat
set_option linter.unusedVariables false
set_option linter.unusedSectionVars false
set_option linter.unusedSimpArgs false
namespace Go.Proofs.YtcblbdpdbggkbaaGreat
open Go.RowKit Go.ChangeShapes Go.WideShapes Go.ChangeAt Go.Deep
abbrev RdA (α : Type) := World → List Value → α → Prop
def intA : RdA Int := fun _ cs z => cs = [.int .i64 z]
def boolA : RdA Bool := fun _ cs b => cs = [.bool b]
def andA {α β : Type} (A : RdA α) (B : RdA β) : RdA (α × β) := fun w cs p => ∃ c1 c2, cs = c1 ++ c2 ∧ A w c1 p.1 ∧ B w c2 p.2
def viaA {α β : Type} (A : RdA α) (f : β → α) : RdA β := fun w cs b => A w cs (f b)
def slcA {α : Type} (size : Nat) (A : RdA α) : RdA (List α) := fun w cs xs =>
  (xs = [] ∧ ∃ x c, cs = [.slice x 0 c]) ∨
  ∃ b o c, cs = [.slice (some ⟨b, o, none⟩) xs.length c] ∧ 0 < xs.length ∧ xs.length ≤ maxLen ∧ b < w.heap.size ∧ ∀ i a, xs[i]? = some a → ∃ ci, ci.length = size ∧ w.rangeAt b (o + i * size) ci ∧ A w ci a
structure RdA.Stay {α : Type} (A : RdA α) : Prop where
  keep : ∀ {w w' : World} {cs : List Value} {a : α} {B : Nat}, A w cs a → Below B w w' → w.heap.size ≤ B → A w' cs a
theorem intA_stay : RdA.Stay intA := ⟨fun h _ _ => h⟩
theorem boolA_stay : RdA.Stay boolA := ⟨fun h _ _ => h⟩
theorem andA_stay {α β : Type} {A : RdA α} {B : RdA β} (SA : RdA.Stay A) (SB : RdA.Stay B) : RdA.Stay (andA A B) := by
  refine ⟨?_⟩
  rintro w w' cs a X ⟨c1, c2, rfl, h1, h2⟩ hb hB
  exact ⟨c1, c2, rfl, SA.keep h1 hb hB, SB.keep h2 hb hB⟩
theorem viaA_stay {α β : Type} {A : RdA α} (SA : RdA.Stay A) (f : β → α) : RdA.Stay (viaA A f) := ⟨fun h hb hB => SA.keep h hb hB⟩
theorem slcA_stay {α : Type} {A : RdA α} (SA : RdA.Stay A) (size : Nat) : RdA.Stay (slcA size A) := by
  refine ⟨?_⟩
  rintro w w' cs xs X (h | ⟨b, o, c, e, h0, h1, h2, h3⟩) hb hB
  · exact .inl h
  · refine .inr ⟨b, o, c, e, h0, h1, Nat.lt_of_lt_of_le h2 hb.size, fun i a hi => ?_⟩
    obtain ⟨ci, l, r, ha⟩ := h3 i a hi
    exact ⟨ci, l, fun j z hz => (hb.cell (p := ⟨b, o + i * size + j, none⟩) (by show b < X; omega)).trans (r j z hz), SA.keep ha hb hB⟩
theorem slcA_form {α : Type} {A : RdA α} {size : Nat} {w : World} {cs : List Value} {xs : List α} (h : slcA size A w cs xs) : ∃ x c, cs = [.slice x xs.length c] ∧ xs.length ≤ maxLen := by
  rcases h with ⟨rfl, x, c, e⟩ | ⟨b, o, c, e, h0, h1, _⟩
  · exact ⟨x, c, e, Nat.zero_le _⟩
  · exact ⟨_, c, e, h1⟩
theorem slcA_at {α : Type} {A : RdA α} {size : Nat} {w : World} {x : Option Addr} {n c : Nat} {xs : List α} (h : slcA size A w [.slice x n c] xs) {i : Nat} {a : α} (hi : xs[i]? = some a) : ∃ b o ci, x = some ⟨b, o, none⟩ ∧ b < w.heap.size ∧ ci.length = size ∧ w.rangeAt b (o + i * size) ci ∧ A w ci a := by
  rcases h with ⟨rfl, _⟩ | ⟨b, o, c', e, h0, h1, h2, h3⟩
  · simp at hi
  · obtain ⟨ci, l, r, ha⟩ := h3 i a hi
    injection e with e _
    injection e with e1 e2 e3
    exact ⟨b, o, ci, e1, h2, l, r, ha⟩
section
variable {H : Type} {enc : TypeId × Value → H} {P : Program} {w : World} {t : TypeId}
def Opens {α : Type} (enc : TypeId × Value → H) (P : Program) (w : World) (t : TypeId) (A : RdA α) : Prop := ∀ fuel cs y, DataW.trod enc P w 0 (fun _ => true) true fuel t cs = some y → ∃ a, A w cs a
theorem opens_int (ht : P.underlying t = some (.int .i64)) : Opens enc P w t intA := fun fuel cs y h => by
  obtain ⟨n, e, _⟩ := DataW.trod_int ht h
  exact ⟨n, e⟩
theorem opens_bool (ht : P.underlying t = some .bool) : Opens enc P w t boolA := fun fuel cs y h => by
  obtain ⟨b, e, _⟩ := DataW.trod_bool ht h
  exact ⟨b, e⟩
theorem opens_via {α β : Type} {A : RdA α} (O : Opens enc P w t A) (f : β → α) (g : α → β) (fg : ∀ a, f (g a) = a) : Opens enc P w t (viaA A f) := fun fuel cs y h => by
  obtain ⟨a, ha⟩ := O fuel cs y h
  exact ⟨g a, by unfold viaA; rw [fg]; exact ha⟩
theorem opens_slice {α : Type} {A : RdA α} {e : TypeId} {size : Nat} (ht : P.underlying t = some (.slice e)) (hs : P.cellsOf e = size) (s0 : 0 < size) (O : Opens enc P w e A) : Opens enc P w t (slcA size A) := fun fuel cs y h => by
  rcases open_slice ht h with ⟨e, _⟩ | ⟨a, len, cap, m, n, D, Pl, e, _, hl, hm, hmm, _, hi⟩
  · exact ⟨[], .inl ⟨rfl, _, _, e⟩⟩
  · simp only [if_true] at hmm
    subst e
    rw [hs] at hi
    by_cases h0 : len = 0
    · subst h0
      exact ⟨[], .inl ⟨rfl, _, _, rfl⟩⟩
    have key : ∀ i, i < len → ∃ x ci, ci.length = size ∧ (∀ j z, ci[j]? = some z → w.cell? (a.add (i * size + j)) = some z) ∧ A w ci x := fun i hlt => by
      obtain ⟨cs', hc, ht'⟩ := hi i (by omega)
      obtain ⟨x, hx⟩ := O _ _ _ ht'
      obtain ⟨_, hcl, hat⟩ := World.cells?_some hc
      refine ⟨x, cs', hcl, fun j z hz => ?_, hx⟩
      have hj : j < size := by rw [← hcl]; exact (List.getElem?_eq_some_iff.1 hz).1
      have := hat j hj
      rw [Go.Deep.add_add] at this
      rw [this, hz]
    obtain ⟨b, o, sp⟩ := a
    obtain ⟨x0, c0, l0, r0, _⟩ := key 0 (by omega)
    have z0 : c0[0]? = some (c0[0]'(by omega)) := List.getElem?_eq_getElem _
    have q0 := r0 0 _ z0
    have hsp : sp = none := by simpa [Addr.add] using World.cell?_spot q0
    subst hsp
    have hb : b < w.heap.size := by simpa [Addr.add] using World.block_lt_of_cell? _ _ q0
    have F : ∀ i, ∃ x, i < len → ∃ ci, ci.length = size ∧ (∀ j z, ci[j]? = some z → w.cell? ((⟨b, o, none⟩ : Addr).add (i * size + j)) = some z) ∧ A w ci x := fun i => by
      by_cases hlt : i < len
      · obtain ⟨x, r⟩ := key i hlt
        exact ⟨x, fun _ => r⟩
      · exact ⟨x0, fun c => absurd c hlt⟩
    have el : ((List.range len).map fun i => Classical.choose (F i)).length = len := by simp
    refine ⟨(List.range len).map fun i => Classical.choose (F i), .inr ⟨b, o, cap, by rw [el], by omega, by omega, hb, fun i x hx => ?_⟩⟩
    have hlt : i < len := by have := (List.getElem?_eq_some_iff.1 hx).1; omega
    have ex : Classical.choose (F i) = x := by simpa [hlt] using hx
    obtain ⟨ci, l, r, ha⟩ := Classical.choose_spec (F i) hlt
    rw [ex] at ha
    refine ⟨ci, l, fun j z hz => ?_, ha⟩
    have := r j z hz
    rw [Addr.add_mid, ← Nat.add_assoc] at this
    exact this
theorem cut_one (cs : List Value) (o s : Nat) : cs.drop o = (cs.drop o).take s ++ cs.drop (o + s) := by
  rw [← List.drop_drop, List.take_append_drop]
theorem opens_four {α0 α1 α2 α3 : Type} {A0 : RdA α0} {A1 : RdA α1} {A2 : RdA α2} {A3 : RdA α3} {f0 f1 f2 f3 : Field} {s0 s1 s2 s3 : Nat} (ht : P.underlying t = some (.struct #[f0, f1, f2, f3]))
    (o0 : f0.offset = 0) (o1 : f1.offset = s0) (o2 : f2.offset = s0 + s1) (o3 : f3.offset = s0 + s1 + s2) (hs : P.cellsOf t = s0 + s1 + s2 + s3)
    (c0 : P.cellsOf f0.type = s0) (c1 : P.cellsOf f1.type = s1) (c2 : P.cellsOf f2.type = s2) (c3 : P.cellsOf f3.type = s3)
    (O0 : Opens enc P w f0.type A0) (O1 : Opens enc P w f1.type A1) (O2 : Opens enc P w f2.type A2) (O3 : Opens enc P w f3.type A3) : Opens enc P w t (andA A0 (andA A1 (andA A2 (A3)))) := fun fuel cs y h => by
  obtain ⟨xs, n, _, _, hl, hx, hf⟩ := DataW.trod_struct ht h
  rw [hs] at hl
  have h0 := hf 0 f0 rfl
  rw [o0, c0, List.getElem?_eq_getElem (by rw [hx]; show 0 < 4; omega)] at h0
  obtain ⟨a0, r0⟩ := O0 _ _ _ h0
  have h1 := hf 1 f1 rfl
  rw [o1, c1, List.getElem?_eq_getElem (by rw [hx]; show 1 < 4; omega)] at h1
  obtain ⟨a1, r1⟩ := O1 _ _ _ h1
  have h2 := hf 2 f2 rfl
  rw [o2, c2, List.getElem?_eq_getElem (by rw [hx]; show 2 < 4; omega)] at h2
  obtain ⟨a2, r2⟩ := O2 _ _ _ h2
  have h3 := hf 3 f3 rfl
  rw [o3, c3, List.getElem?_eq_getElem (by rw [hx]; show 3 < 4; omega)] at h3
  obtain ⟨a3, r3⟩ := O3 _ _ _ h3
  have e3 : (cs.drop (s0 + s1 + s2)).take s3 = cs.drop (s0 + s1 + s2) := List.take_of_length_le (by rw [List.length_drop]; omega)
  rw [e3] at r3
  exact ⟨(a0, a1, a2, a3), ⟨_, _, (by have e := cut_one cs 0 s0; rw [List.drop_zero, Nat.zero_add] at e; rw [List.drop_zero]; exact e), r0, ⟨_, _, cut_one cs (s0) s1, r1, ⟨_, _, cut_one cs (s0 + s1) s2, r2, r3⟩⟩⟩⟩
theorem opens_five {α0 α1 α2 α3 α4 : Type} {A0 : RdA α0} {A1 : RdA α1} {A2 : RdA α2} {A3 : RdA α3} {A4 : RdA α4} {f0 f1 f2 f3 f4 : Field} {s0 s1 s2 s3 s4 : Nat} (ht : P.underlying t = some (.struct #[f0, f1, f2, f3, f4]))
    (o0 : f0.offset = 0) (o1 : f1.offset = s0) (o2 : f2.offset = s0 + s1) (o3 : f3.offset = s0 + s1 + s2) (o4 : f4.offset = s0 + s1 + s2 + s3) (hs : P.cellsOf t = s0 + s1 + s2 + s3 + s4)
    (c0 : P.cellsOf f0.type = s0) (c1 : P.cellsOf f1.type = s1) (c2 : P.cellsOf f2.type = s2) (c3 : P.cellsOf f3.type = s3) (c4 : P.cellsOf f4.type = s4)
    (O0 : Opens enc P w f0.type A0) (O1 : Opens enc P w f1.type A1) (O2 : Opens enc P w f2.type A2) (O3 : Opens enc P w f3.type A3) (O4 : Opens enc P w f4.type A4) : Opens enc P w t (andA A0 (andA A1 (andA A2 (andA A3 (A4))))) := fun fuel cs y h => by
  obtain ⟨xs, n, _, _, hl, hx, hf⟩ := DataW.trod_struct ht h
  rw [hs] at hl
  have h0 := hf 0 f0 rfl
  rw [o0, c0, List.getElem?_eq_getElem (by rw [hx]; show 0 < 5; omega)] at h0
  obtain ⟨a0, r0⟩ := O0 _ _ _ h0
  have h1 := hf 1 f1 rfl
  rw [o1, c1, List.getElem?_eq_getElem (by rw [hx]; show 1 < 5; omega)] at h1
  obtain ⟨a1, r1⟩ := O1 _ _ _ h1
  have h2 := hf 2 f2 rfl
  rw [o2, c2, List.getElem?_eq_getElem (by rw [hx]; show 2 < 5; omega)] at h2
  obtain ⟨a2, r2⟩ := O2 _ _ _ h2
  have h3 := hf 3 f3 rfl
  rw [o3, c3, List.getElem?_eq_getElem (by rw [hx]; show 3 < 5; omega)] at h3
  obtain ⟨a3, r3⟩ := O3 _ _ _ h3
  have h4 := hf 4 f4 rfl
  rw [o4, c4, List.getElem?_eq_getElem (by rw [hx]; show 4 < 5; omega)] at h4
  obtain ⟨a4, r4⟩ := O4 _ _ _ h4
  have e4 : (cs.drop (s0 + s1 + s2 + s3)).take s4 = cs.drop (s0 + s1 + s2 + s3) := List.take_of_length_le (by rw [List.length_drop]; omega)
  rw [e4] at r4
  exact ⟨(a0, a1, a2, a3, a4), ⟨_, _, (by have e := cut_one cs 0 s0; rw [List.drop_zero, Nat.zero_add] at e; rw [List.drop_zero]; exact e), r0, ⟨_, _, cut_one cs (s0) s1, r1, ⟨_, _, cut_one cs (s0 + s1) s2, r2, ⟨_, _, cut_one cs (s0 + s1 + s2) s3, r3, r4⟩⟩⟩⟩⟩
theorem opens_six {α0 α1 α2 α3 α4 α5 : Type} {A0 : RdA α0} {A1 : RdA α1} {A2 : RdA α2} {A3 : RdA α3} {A4 : RdA α4} {A5 : RdA α5} {f0 f1 f2 f3 f4 f5 : Field} {s0 s1 s2 s3 s4 s5 : Nat} (ht : P.underlying t = some (.struct #[f0, f1, f2, f3, f4, f5]))
    (o0 : f0.offset = 0) (o1 : f1.offset = s0) (o2 : f2.offset = s0 + s1) (o3 : f3.offset = s0 + s1 + s2) (o4 : f4.offset = s0 + s1 + s2 + s3) (o5 : f5.offset = s0 + s1 + s2 + s3 + s4) (hs : P.cellsOf t = s0 + s1 + s2 + s3 + s4 + s5)
    (c0 : P.cellsOf f0.type = s0) (c1 : P.cellsOf f1.type = s1) (c2 : P.cellsOf f2.type = s2) (c3 : P.cellsOf f3.type = s3) (c4 : P.cellsOf f4.type = s4) (c5 : P.cellsOf f5.type = s5)
    (O0 : Opens enc P w f0.type A0) (O1 : Opens enc P w f1.type A1) (O2 : Opens enc P w f2.type A2) (O3 : Opens enc P w f3.type A3) (O4 : Opens enc P w f4.type A4) (O5 : Opens enc P w f5.type A5) : Opens enc P w t (andA A0 (andA A1 (andA A2 (andA A3 (andA A4 (A5)))))) := fun fuel cs y h => by
  obtain ⟨xs, n, _, _, hl, hx, hf⟩ := DataW.trod_struct ht h
  rw [hs] at hl
  have h0 := hf 0 f0 rfl
  rw [o0, c0, List.getElem?_eq_getElem (by rw [hx]; show 0 < 6; omega)] at h0
  obtain ⟨a0, r0⟩ := O0 _ _ _ h0
  have h1 := hf 1 f1 rfl
  rw [o1, c1, List.getElem?_eq_getElem (by rw [hx]; show 1 < 6; omega)] at h1
  obtain ⟨a1, r1⟩ := O1 _ _ _ h1
  have h2 := hf 2 f2 rfl
  rw [o2, c2, List.getElem?_eq_getElem (by rw [hx]; show 2 < 6; omega)] at h2
  obtain ⟨a2, r2⟩ := O2 _ _ _ h2
  have h3 := hf 3 f3 rfl
  rw [o3, c3, List.getElem?_eq_getElem (by rw [hx]; show 3 < 6; omega)] at h3
  obtain ⟨a3, r3⟩ := O3 _ _ _ h3
  have h4 := hf 4 f4 rfl
  rw [o4, c4, List.getElem?_eq_getElem (by rw [hx]; show 4 < 6; omega)] at h4
  obtain ⟨a4, r4⟩ := O4 _ _ _ h4
  have h5 := hf 5 f5 rfl
  rw [o5, c5, List.getElem?_eq_getElem (by rw [hx]; show 5 < 6; omega)] at h5
  obtain ⟨a5, r5⟩ := O5 _ _ _ h5
  have e5 : (cs.drop (s0 + s1 + s2 + s3 + s4)).take s5 = cs.drop (s0 + s1 + s2 + s3 + s4) := List.take_of_length_le (by rw [List.length_drop]; omega)
  rw [e5] at r5
  exact ⟨(a0, a1, a2, a3, a4, a5), ⟨_, _, (by have e := cut_one cs 0 s0; rw [List.drop_zero, Nat.zero_add] at e; rw [List.drop_zero]; exact e), r0, ⟨_, _, cut_one cs (s0) s1, r1, ⟨_, _, cut_one cs (s0 + s1) s2, r2, ⟨_, _, cut_one cs (s0 + s1 + s2) s3, r3, ⟨_, _, cut_one cs (s0 + s1 + s2 + s3) s4, r4, r5⟩⟩⟩⟩⟩⟩
end
end Go.Proofs.YtcblbdpdbggkbaaGreat
set_option linter.unusedVariables false
namespace Go.Proofs.YtcblbdpdbggkbaaGreat
open Go.RowKit Go.Sort
section
variable {w : World} {B U b : Nat} {x0 x1 x2 x3 x4 x5 x6 : Value}
theorem OwnRR.cell7 {v : Value} {rs : List (List Int)} (h : OwnRR w B U v rs) (X : Box7 w b 46 x0 x1 x2 x3 x4 x5 x6) (i : Nat) (y : Value) : OwnRR (w.setCell ⟨b, i, none⟩ y) B U v rs := by
  obtain ⟨G, C, ho, q1, q2, q3⟩ := h
  have hk : KeptB (fun k => k = b) w (w.setCell ⟨b, i, none⟩ y) := KeptB.of_grown (grownBy_setCell w ⟨b, i, none⟩ y) rfl
  exact ⟨G, C, ⟨ownsRow_keptB ho.hdr hk fun k e1 e2 => X.not_row (by decide) ho.hdr (by rw [e1, e2]), fun i hi => ownsRow_keptB (ho.row i hi) hk fun k e1 e2 => X.not_row (by decide) (ho.row i hi) (by rw [e1, e2]), ho.off, ho.apart⟩, q1, q2, by simpa using q3⟩
theorem OwnI.cell7 {v : Value} {zs : List Int} (h : OwnI w B v zs) (X : Box7 w b 46 x0 x1 x2 x3 x4 x5 x6) (i : Nat) (y : Value) : OwnI (w.setCell ⟨b, i, none⟩ y) B v zs := h.keep (grownBy_setCell w ⟨b, i, none⟩ y) (X.not_row (by decide) h)
theorem T.OwnP.cell7 {v : Value} {zs : List T.Pr} (h : T.OwnP w B v zs) (X : Box7 w b 46 x0 x1 x2 x3 x4 x5 x6) (i : Nat) (y : Value) : T.OwnP (w.setCell ⟨b, i, none⟩ y) B v zs := h.keep (grownBy_setCell w ⟨b, i, none⟩ y) (X.not_row (by decide) h)
theorem K.OwnP.cell7 {v : Value} {zs : List K.Pr} (h : K.OwnP w B v zs) (X : Box7 w b 46 x0 x1 x2 x3 x4 x5 x6) (i : Nat) (y : Value) : K.OwnP (w.setCell ⟨b, i, none⟩ y) B v zs := h.keep (grownBy_setCell w ⟨b, i, none⟩ y) (X.not_row (by decide) h)
end
theorem OwnS.box7 {w : World} {B U b : Nat} {V : SV} {s : Sm} {x0 x1 x2 x3 x4 x5 x6 : Value} (h : OwnS w B U V s) (X : Box7 w b 46 x0 x1 x2 x3 x4 x5 x6) (y0 y1 y2 y3 y4 y5 y6 : Value) : OwnS (set7 w b y0 y1 y2 y3 y4 y5 y6) B U V s := by
  obtain ⟨M, h1, h2, hr, hf⟩ := h.mid
  have hg := set7_grown w b y0 y1 y2 y3 y4 y5 y6
  have hk : KeptB (fun k => k = b) w (set7 w b y0 y1 y2 y3 y4 y5 y6) := KeptB.of_grown hg rfl
  have e := set7_size w b y0 y1 y2 y3 y4 y5 y6
  refine ⟨⟨M, h1, h2, ?_, ?_⟩, ?_, ?_, h.ft, h.tt, h.kt, by rw [e]; exact h.top⟩
  · obtain ⟨G, C, ho, q1, q2, q3⟩ := hr
    exact ⟨G, C, ⟨ownsRow_keptB ho.hdr hk fun k e1 e2 => X.not_row (by decide) ho.hdr (by rw [e1, e2]), fun i hi => ownsRow_keptB (ho.row i hi) hk fun k e1 e2 => X.not_row (by decide) (ho.row i hi) (by rw [e1, e2]), ho.off, ho.apart⟩, q1, q2, by rw [e]; exact q3⟩
  · exact hf.keep hg (X.not_row (by decide) hf)
  · exact h.t.keep hg (X.not_row (by decide) h.t)
  · exact h.k.keep hg (X.not_row (by decide) h.k)
theorem OwnS.make {W : World} {B B1 M B2 B3 B4 : Nat} {V : SV} {s : Sm} (hr : OwnRR W B1 M V.r s.rs) (hf : OwnI W B2 V.f s.zs) (ht : T.OwnP W B3 V.t s.ps) (hk : K.OwnP W B4 V.k s.ks) (h1 : B ≤ B1) (hM : B ≤ M) (h2 : M ≤ B2) (h3 : B ≤ B3) (h4 : B ≤ B4) : OwnS W B W.heap.size V s :=
  ⟨⟨M, hM, hr.top, hr.base h1, ownsRow_base hf h2⟩, ownsRow_base ht h3, ownsRow_base hk h4, fun _ e => (World.ownsRow.lt hf _ e).2, fun _ e => (World.ownsRow.lt ht _ e).2, fun _ e => (World.ownsRow.lt hk _ e).2, Nat.le_refl _⟩
end Go.Proofs.YtcblbdpdbggkbaaGreat
set_option linter.unusedVariables false
namespace Go.Proofs.YtcblbdpdbggkbaaGreat
open Go.RowKit Go.ChangeShapes Go.WideShapes Go.ChangeAt Go.Deep
def ArgI (w : World) (v : Value) (zs : List Int) : Prop :=
  (zs = [] ∧ ∃ x c, v = .slice x 0 c) ∨
  ∃ b o c, v = .slice (some ⟨b, o, none⟩) zs.length c ∧ 0 < zs.length ∧ zs.length ≤ maxLen ∧ b < w.heap.size ∧ ∀ i, i < zs.length → w.cell? ⟨b, o + i, none⟩ = some (.int .i64 (zs.getD i 0))
theorem ArgI.below {w w' : World} {v : Value} {zs : List Int} (h : ArgI w v zs) {B : Nat} (hb : Below B w w') (hB : w.heap.size ≤ B) : ArgI w' v zs := by
  rcases h with h | ⟨b, o, c, e, h0, h1, h2, h3⟩
  · exact .inl h
  · exact .inr ⟨b, o, c, e, h0, h1, Nat.lt_of_lt_of_le h2 hb.size, fun i hi => by rw [hb.cell (p := ⟨b, o + i, none⟩) (by show b < B; omega)]; exact h3 i hi⟩
theorem ArgI.form {w : World} {v : Value} {zs : List Int} (h : ArgI w v zs) : ∃ x c, v = .slice x zs.length c := by
  rcases h with ⟨rfl, x, c, e⟩ | ⟨b, o, c, e, _⟩
  · exact ⟨x, c, e⟩
  · exact ⟨_, c, e⟩
theorem ArgI.len {w : World} {v : Value} {zs : List Int} (h : ArgI w v zs) : zs.length ≤ maxLen := by
  rcases h with ⟨rfl, _⟩ | ⟨b, o, c, e, h0, h1, _⟩
  · exact Nat.zero_le _
  · exact h1
def ArgR (w : World) (v : Value) (rs : List (List Int)) : Prop :=
  (rs = [] ∧ ∃ x c, v = .slice x 0 c) ∨
  ∃ b o c, v = .slice (some ⟨b, o, none⟩) rs.length c ∧ 0 < rs.length ∧ rs.length ≤ maxLen ∧ b < w.heap.size ∧ ∀ i, i < rs.length → ∃ x, w.cell? ⟨b, o + i, none⟩ = some x ∧ ArgI w x (rs.getD i [])
theorem ArgR.below {w w' : World} {v : Value} {rs : List (List Int)} (h : ArgR w v rs) {B : Nat} (hb : Below B w w') (hB : w.heap.size ≤ B) : ArgR w' v rs := by
  rcases h with h | ⟨b, o, c, e, h0, h1, h2, h3⟩
  · exact .inl h
  · refine .inr ⟨b, o, c, e, h0, h1, Nat.lt_of_lt_of_le h2 hb.size, fun i hi => ?_⟩
    obtain ⟨x, hx, hi'⟩ := h3 i hi
    exact ⟨x, by rw [hb.cell (p := ⟨b, o + i, none⟩) (by show b < B; omega)]; exact hx, hi'.below hb hB⟩
theorem ArgR.form {w : World} {v : Value} {rs : List (List Int)} (h : ArgR w v rs) : ∃ x c, v = .slice x rs.length c := by
  rcases h with ⟨rfl, x, c, e⟩ | ⟨b, o, c, e, _⟩
  · exact ⟨x, c, e⟩
  · exact ⟨_, c, e⟩
section
variable {H : Type} {enc : TypeId × Value → H} {P : Program} {w : World} {base : Nat} {spare : Nat → Bool} {held : Bool}
end
theorem addr_add (b o i : Nat) : (⟨b, o, none⟩ : Addr).add i = ⟨b, o + i, none⟩ := by unfold Addr.add; split <;> simp_all
theorem argI_of {w : World} {a : Option Addr} {len cap : Nat} {zs : List Int} (hl : len ≤ cap) (hm : cap ≤ maxLen) (hz : zs.length = cap) (hn : a = none → cap = 0) (hc : ∀ x, a = some x → ∀ i, i < zs.length → w.cell? (x.add i) = some (.int .i64 (zs.getD i 0))) :
    ArgI w (.slice a len cap) (zs.take len) := by
  by_cases h0 : len = 0
  · subst h0
    exact .inl ⟨rfl, _, _, rfl⟩
  cases a with
  | none => exact absurd (hn rfl) (by omega)
  | some x =>
    obtain ⟨b, o, sp⟩ := x
    have hc := hc _ rfl
    have h1 := hc 0 (by omega)
    have hs : sp = none := by simpa [Addr.add] using World.cell?_spot h1
    subst hs
    have e : (zs.take len).length = len := by simp; omega
    refine .inr ⟨b, o, cap, by rw [e], by omega, by omega, by simpa [Addr.add] using World.block_lt_of_cell? _ _ h1, fun i hi => ?_⟩
    rw [← addr_add, hc i (by omega)]
    have : i < len := by omega
    simp [this]
end Go.Proofs.YtcblbdpdbggkbaaGreat
namespace Go.Proofs.YtcblbdpdbggkbaaGreat
open Go.RowKit Go.Sort
def szV (left : Int) (n : Nat) : Int := if left < n then -1 else left - n
theorem szV_in {left : Int} {n : Nat} (h : (n : Int) ≤ left) : szV left n = left - n := if_neg (by omega)
theorem szV_out {left : Int} {n : Nat} (h : left < n) : szV left n = -1 := if_pos h
theorem szIntS_at (w : World) (v : Value) (zs : List Int) (left : Int) (h : ArgI w v zs) (h0 : 0 ≤ left) (h1 : left ≤ 1048576) :
    Calls Tryz.prog 235 #[v, .int .i64 left] w fun e w' => e = .returned (.int .i64 (szV left zs.length)) ∧ w = w' := by
  obtain ⟨x, c, hx⟩ := h.form
  have hl := h.len
  obtain ⟨n, hn⟩ : ∃ n, n = zs.length := ⟨_, rfl⟩
  rw [← hn] at hx hl ⊢
  subst hx
  unfold maxLen at hl
  clear h hn
  by_cases hle : left < n
  · rw [szV_out hle]
    have h2 : left - (n : Int) < 0 := by omega
    go_enter Tryz.func235, Tryz.ntmps235
    go_wp2
    go_ret
    exact ⟨rfl, rfl⟩
  · rw [szV_in (by omega)]
    have h2 : ¬ left - (n : Int) < 0 := by omega
    go_enter Tryz.func235, Tryz.ntmps235
    go_wp2
    go_ret
    exact ⟨rfl, rfl⟩
theorem int_make (n : Nat) (hn : n ≤ 1048576) : ∀ w, (Instr.makeSlice 23 (.int .i64 (n : Int)) (.int .i64 (n : Int))).run Tryz.prog w = .ok (.slice (some ⟨w.heap.size, 0, none⟩) n n) (w.alloc (.cells (madeCells #[.int .i64 0] n) 3)) :=
  run_make_row' (P := Tryz.prog) 23 3 (.int .i64 0) 8 Tryz.underlying23 few_info rfl .i64 .i64 n (by omega) (by omega)
theorem ints_set (zs : List Int) (k : Nat) (x : Int) : (ints zs).set k (.int .i64 x) = ints (zs.set k x) := by simp [ints, List.map_set]
theorem toIntS_at (w : World) (v : Value) (zs : List Int) (h : ArgI w v zs) (hn : zs.length ≤ 1048576) :
    Calls Tryz.prog 236 #[v] w fun e w' => e = .returned (.slice (some ⟨w.heap.size, 0, none⟩) zs.length zs.length) ∧ OwnI w' w.heap.size (.slice (some ⟨w.heap.size, 0, none⟩) zs.length zs.length) zs ∧ Below w.heap.size w w' := by
  obtain ⟨x, c, hx⟩ := h.form
  obtain ⟨n, hn'⟩ : ∃ n, n = zs.length := ⟨_, rfl⟩
  have HZ : Hid (∀ i, i < n → ∃ b o, x = some ⟨b, o, none⟩ ∧ b < w.heap.size ∧ w.cell? ⟨b, o + i, none⟩ = some (.int .i64 (zs.getD i 0))) := fun i hi => by
    rcases h with ⟨rfl, _⟩ | ⟨b, o, c', e, _, _, hb, hc⟩
    · rw [hn'] at hi; cases hi
    · rw [hx] at e
      exact ⟨b, o, (Value.slice.inj e).1, hb, hc i (by rw [← hn']; exact hi)⟩
  have HN := Lib.hid hn'
  rw [← hn'] at hx hn ⊢
  have hmk := int_make n hn
  have own0 : OwnI (w.alloc (.cells (madeCells #[.int .i64 0] n) 3)) w.heap.size (.slice (some ⟨w.heap.size, 0, none⟩) n n) (List.replicate n 0) := by
    have := World.ownsRow_lit (base := w.heap.size) (e := 3) (size := 1) w (madeCells #[.int .i64 0] n) n (Nat.le_refl _) (by unfold maxLen; omega) (by rw [size_madeCells]; omega)
    rw [toList_madeCells_one] at this
    unfold OwnI
    rw [List.length_replicate]
    simpa [ints] using this
  have O0 := Lib.hid own0
  subst hx
  clear h hn' own0
  go_enter Tryz.func236, Tryz.ntmps236
  go_wp2
  go_loopw [4] (fun i wr => ∃ (k : Nat) (ys : List Int), k ≤ n ∧ i = .int .i64 k ∧ ys.length = n ∧ (∀ i, i < k → ys.getD i 0 = zs.getD i 0) ∧ OwnI wr w.heap.size (.slice (some ⟨w.heap.size, 0, none⟩) n n) ys ∧ Below w.heap.size w wr) (fun i _ => n - (intOf i).toNat)
  case atStart => exact ⟨0, List.replicate n 0, Nat.zero_le _, rfl, by simp, fun _ h => absurd h (Nat.not_lt_zero _), O0.out, (Below.refl _ _).alloc (Nat.le_refl _) _⟩
  case round =>
    obtain ⟨k, ys, hk, rfl, hy, hys, hown, hbl⟩ := hrel
    have HY := Lib.hid hy
    have HYS := Lib.hid hys
    have HB := Lib.hid hbl
    have ho : wr.ownsRow w.heap.size 3 1 (.slice (some ⟨w.heap.size, 0, none⟩) n n) n (ints ys) := by have h := hown; unfold OwnI at h; rw [hy] at h; exact h
    have HO := Lib.hid ho
    clear hy hys hbl hown ho
    by_cases hlt : k < n
    · obtain ⟨b, o, rfl, hb, h1⟩ := HZ.out k hlt
      rw [← HB.out.cell (p := ⟨b, o + k, none⟩) hb] at h1
      obtain ⟨y, hyk⟩ : ∃ y, zs.getD k 0 = y := ⟨_, rfl⟩
      rw [hyk] at h1
      have HK := Lib.hid hyk
      obtain ⟨u, hc⟩ : ∃ u, wr.cell? ⟨w.heap.size, k, none⟩ = some u := by
        rw [HO.out.cellAt k (by omega)]
        exact ⟨_, ints_get _ _ (by rw [HY.out]; exact hlt)⟩
      have hf := HO.out.frozenAt k
      have hs := HO.out.stored k (.int .i64 y)
      rw [ints_set] at hs
      have HS := Lib.hid hs
      have k0 : (0 : Int) ≤ (k : Int) := by omega
      have kn : (k : Int) < (n : Int) := by omega
      clear hyk hs
      go_wp2
      go_roundw
      case rel =>
        refine ⟨k + 1, ys.set k y, by omega, by go_num, by simpa using HY.out, fun i hi => ?_, ?_, HB.out.setCell (Nat.le_refl _) _⟩
        · by_cases e : i = k
          · subst e
            rw [HK.out, List.getD_eq_getElem?_getD, List.getElem?_set_self (by rw [HY.out]; exact hlt)]; rfl
          · have e1 : (ys.set k y).getD i 0 = ys.getD i 0 := by simp [Ne.symm e]
            rw [e1]; exact HYS.out i (by omega)
        · unfold OwnI
          rw [List.length_set, HY.out]
          exact HS.out.1
      case measure => simp [intOf]; omega
    · obtain rfl : k = n := by omega
      have fin0 : ys = zs := of_decide_eq_true (eq_of_get (d := 0) HY.out HN.out.symm HYS.out)
      have fin := Lib.hid fin0
      clear fin0
      go_wp2
      go_ret
      refine ⟨rfl, ?_, HB.out⟩
      rw [← fin.out]
      unfold OwnI
      rw [HY.out]
      exact HO.out
theorem szFew_at (w : World) (u : Value) (zs : List Int) (left : Int) (h : ArgI w u zs) (h0 : 0 ≤ left) (h1 : left ≤ 1048576) :
    Calls Tryz.prog 240 #[.agg #[u], .int .i64 left] w fun e w' => e = .returned (.int .i64 (szV left zs.length)) ∧ Below w.heap.size w w' := by
  have hA := (Below.refl w.heap.size w).alloc (Nat.le_refl _) (.cells #[u] 173)
  have K := Lib.hid (szIntS_at _ u zs left (h.below hA (Nat.le_refl _)) h0 h1)
  have HA := Lib.hid hA
  obtain ⟨x, c, hx⟩ := h.form
  obtain ⟨n, hn⟩ : ∃ n, n = zs.length := ⟨_, rfl⟩
  rw [← hn] at hx K ⊢
  subst hx
  clear h hn hA
  by_cases hle : left < n
  · rw [szV_out hle] at K ⊢
    go_enter Tryz.func240, Tryz.ntmps240
    go_wp2_with fail
    refine K.out.mono ?_
    rintro e w1 ⟨rfl, rfl⟩
    go_wp2
    go_ret
    exact ⟨rfl, HA.out⟩
  · rw [szV_in (by omega)] at K ⊢
    have h2 : ¬ left - (n : Int) < 0 := by omega
    go_enter Tryz.func240, Tryz.ntmps240
    go_wp2_with fail
    refine K.out.mono ?_
    rintro e w1 ⟨rfl, rfl⟩
    go_wp2
    go_ret
    exact ⟨rfl, HA.out⟩
theorem toFew_at (w : World) (u : Value) (zs : List Int) (h : ArgI w u zs) (hn : zs.length ≤ 1048576) :
    Calls Tryz.prog 244 #[.agg #[u]] w fun e w' => ∃ g, e = .returned (.agg #[.slice (some ⟨g, 0, none⟩) zs.length zs.length]) ∧ OwnI w' w.heap.size (.slice (some ⟨g, 0, none⟩) zs.length zs.length) zs ∧ Below w.heap.size w w' := by
  have hA := (((Below.refl w.heap.size w).alloc (Nat.le_refl _) (.cells #[u] 173)).alloc (by simp) (.cells #[.slice none 0 0] 38)).alloc (by simp; omega) (.cells #[.slice none 0 0] 38)
  have K := Lib.hid (toIntS_at _ u zs (h.below hA (Nat.le_refl _)) hn)
  have HA := Lib.hid hA
  obtain ⟨x, c, hx⟩ := h.form
  obtain ⟨n, hn'⟩ : ∃ n, n = zs.length := ⟨_, rfl⟩
  rw [← hn'] at hx K hn ⊢
  subst hx
  clear h hn' hA
  obtain ⟨w0, hw0⟩ : ∃ w0, w0 = (((w.alloc (.cells #[.slice x n c] 173)).alloc (.cells #[.slice none 0 0] 38)).alloc (.cells #[.slice none 0 0] 38)) := ⟨_, rfl⟩
  have c1 : w0.cell? ⟨w.heap.size + 1, 0, none⟩ = some (.slice none 0 0) := by rw [hw0, World.cell?_alloc_past (hn := by simp), World.cell?_alloc_at (hn := by simp)]; simp
  have f1 : w0.frozen? ⟨w.heap.size + 1, 0, none⟩ = false := by rw [hw0, World.frozen?_alloc_past (hn := by simp)]; exact World.frozen?_alloc_at _ _ _ _ (by simp)
  have c2 : w0.cell? ⟨w.heap.size + 1 + 1, 0, none⟩ = some (.slice none 0 0) := by rw [hw0, World.cell?_alloc_at (hn := by simp)]; simp
  have f2 : w0.frozen? ⟨w.heap.size + 1 + 1, 0, none⟩ = false := by rw [hw0]; exact World.frozen?_alloc_at _ _ _ _ (by simp)
  have sz := Lib.hid (show w0.heap.size = w.heap.size + 3 by rw [hw0]; simp)
  rw [← hw0] at K HA
  have HW := Lib.hid hw0
  clear hw0
  go_enter Tryz.func244, Tryz.ntmps244
  go_wp2_with fail
  rw [← HW.out]
  refine K.out.mono ?_
  rintro e w1 ⟨rfl, ho1, hb1⟩
  have d1 := cell_later hb1 c1
  have d2 := cell_later hb1 c2
  have g1 : w1.frozen? ⟨w.heap.size + 1, 0, none⟩ = false := (hb1.frozen (p := ⟨w.heap.size + 1, 0, none⟩) (by have := sz.out; simp; omega)).trans f1
  have g2 : w1.frozen? ⟨w.heap.size + 1 + 1, 0, none⟩ = false := (hb1.frozen (p := ⟨w.heap.size + 1 + 1, 0, none⟩) (by have := sz.out; simp; omega)).trans f2
  have B1 := Lib.hid (HA.out.trans (hb1.mono HA.out.size))
  have O1 := Lib.hid ho1
  have e1 : (w1.setCell ⟨w.heap.size + 1 + 1, 0, none⟩ (.slice (some ⟨w0.heap.size, 0, none⟩) n n)).cell? ⟨w.heap.size + 1, 0, none⟩ = some (.slice none 0 0) := (World.cell?_setCell_other (h := by simp) ..).trans d1
  have e2 : (w1.setCell ⟨w.heap.size + 1 + 1, 0, none⟩ (.slice (some ⟨w0.heap.size, 0, none⟩) n n)).frozen? ⟨w.heap.size + 1, 0, none⟩ = false := by rw [World.frozen?_setCell]; exact g1
  have e3 := World.cell?_setCell_same w1 ⟨w.heap.size + 1 + 1, 0, none⟩ (.slice (some ⟨w0.heap.size, 0, none⟩) n n) d2
  clear hb1 ho1 HW c1 c2 f1 f2
  go_wp2
  have hr := World.cell?_setCell_same _ ⟨w.heap.size + 1, 0, none⟩ (.slice (some ⟨w0.heap.size, 0, none⟩) n n) e1
  have s1 := grownBy_setCell w1 ⟨w.heap.size + 1 + 1, 0, none⟩ (.slice (some ⟨w0.heap.size, 0, none⟩) n n)
  have s2 := grownBy_setCell (w1.setCell ⟨w.heap.size + 1 + 1, 0, none⟩ (.slice (some ⟨w0.heap.size, 0, none⟩) n n)) ⟨w.heap.size + 1, 0, none⟩ (.slice (some ⟨w0.heap.size, 0, none⟩) n n)
  refine bodyPost_ret (v := .agg #[.slice (some ⟨w0.heap.size, 0, none⟩) n n]) (by simp [results, Tryz.results244, go_sem, hr]) rfl ⟨_, rfl, ?_, ?_⟩
  · exact ((O1.out.kept s1 (fun k e => by have := sz.out; simp at e; omega)).kept s2 (fun k e => by have := sz.out; simp at e; omega)).base (by have := sz.out; omega)
  · exact (B1.out.setCell (by simp; omega) _).setCell (by simp) _
theorem eqFew_at (w : World) (u v : Value) (za zb : List Int) (ha : Ints w u za) (hb : Ints w v zb) (hl : za.length ≤ maxLen) :
    Calls Tryz.prog 136 #[.agg #[u], .agg #[v]] w fun e w' => e = .returned (.bool (decide (za = zb))) ∧ Below w.heap.size w w' := by
  have hA := ((Below.refl w.heap.size w).alloc (Nat.le_refl _) (.cells #[u] 38)).alloc (by simp) (.cells #[v] 38)
  have K := Lib.hid (eqIntS_at _ u v za zb (ha.below hA (Nat.le_refl _)) (hb.below hA (Nat.le_refl _)) hl)
  have HA := Lib.hid hA
  obtain ⟨⟨x, c, hx⟩, _⟩ := ha.cases
  obtain ⟨⟨y, d, hy⟩, _⟩ := hb.cases
  obtain ⟨n, hn⟩ : ∃ n, n = za.length := ⟨_, rfl⟩
  obtain ⟨m, hm⟩ : ∃ m, m = zb.length := ⟨_, rfl⟩
  rw [← hn] at hx
  rw [← hm] at hy
  subst hx hy
  clear ha hb hn hm hl hA
  by_cases h : za = zb
  · rw [decide_eq_true h] at K ⊢
    clear h
    go_enter Tryz.func136, Tryz.ntmps136
    go_wp2_with fail
    refine K.out.mono ?_
    rintro e w1 ⟨rfl, q, rfl⟩
    go_wp2
    go_ret
    exact ⟨rfl, below_drewN HA.out _⟩
  · rw [decide_eq_false h] at K ⊢
    clear h
    go_enter Tryz.func136, Tryz.ntmps136
    go_wp2_with fail
    refine K.out.mono ?_
    rintro e w1 ⟨rfl, q, rfl⟩
    go_wp2
    go_ret
    exact ⟨rfl, below_drewN HA.out _⟩
theorem ahead_mono (rs : List (List Int)) : ∀ i j, i ≤ j → ahead rs i ≤ ahead rs j := fun i j h => by
  induction h with
  | refl => exact Nat.le_refl _
  | step _ ih => exact Nat.le_trans ih (by simp [ahead])
theorem ahead_row (rs : List (List Int)) (i n : Nat) (h : i < n) : (rs.getD i []).length ≤ ahead rs n :=
  Nat.le_trans (by show _ ≤ ahead rs i + (rs.getD i []).length; omega) (ahead_mono rs (i + 1) n h)
theorem ArgR.len {w : World} {v : Value} {rs : List (List Int)} (h : ArgR w v rs) : rs.length ≤ maxLen := by
  rcases h with ⟨rfl, _⟩ | ⟨b, o, c, e, h0, h1, _⟩
  · exact Nat.zero_le _
  · exact h1
theorem ArgR.cells {w : World} {x : Option Addr} {n c : Nat} {rs : List (List Int)} (h : ArgR w (.slice x n c) rs) : ∀ i, i < rs.length → ∃ b o u, x = some ⟨b, o, none⟩ ∧ b < w.heap.size ∧ w.cell? ⟨b, o + i, none⟩ = some u ∧ ArgI w u (rs.getD i []) := fun i hi => by
  rcases h with ⟨rfl, _⟩ | ⟨b, o, c', e, _, _, hb, hc⟩
  · cases hi
  · obtain ⟨u, hu, ha⟩ := hc i hi
    exact ⟨b, o, u, (Value.slice.inj e).1, hb, hu, ha⟩
theorem szIntSS_at (w : World) (v : Value) (rs : List (List Int)) (left : Int) (h : ArgR w v rs) (h0 : 0 ≤ left) (h1 : left ≤ 1048576) :
    Calls Tryz.prog 184 #[v, .int .i64 left] w fun e w' => e = .returned (.int .i64 (szV left (rs.length + ahead rs rs.length))) ∧ w = w' := by
  obtain ⟨x, c, hx⟩ := h.form
  have hl := h.len
  have hcs := fun hx' : v = .slice x rs.length c => (hx' ▸ h : ArgR w (.slice x rs.length c) rs).cells
  obtain ⟨n, hn⟩ : ∃ n, n = rs.length := ⟨_, rfl⟩
  have HC := Lib.hid (hcs hx)
  rw [← hn] at hx hl HC ⊢
  have HN := Lib.hid hn
  subst hx
  unfold maxLen at hl
  clear h hn hcs
  by_cases hle : left < n
  · rw [szV_out (by omega)]
    have h2 : left - (n : Int) < 0 := by omega
    go_enter Tryz.func184, Tryz.ntmps184
    go_wp2
    go_ret
    exact ⟨rfl, rfl⟩
  · have h2 : ¬ left - (n : Int) < 0 := by omega
    have HM := Lib.hid (ahead_mono rs)
    go_enter Tryz.func184, Tryz.ntmps184
    go_wp2
    go_loop [1, 5] (fun q i => ∃ (k a : Nat), k ≤ n ∧ i = .int .i64 k ∧ q = .int .i64 (left - n - a) ∧ a = ahead rs k ∧ (a : Int) ≤ left - n) (fun _ i => n - (intOf i).toNat)
    case atStart => exact ⟨0, 0, Nat.zero_le _, rfl, by simp, rfl, by omega⟩
    case round =>
      obtain ⟨k, a, hk, rfl, rfl, ha, hal⟩ := hrel
      have HA := Lib.hid ha
      clear ha
      by_cases hlt : k < n
      · obtain ⟨b, o, u, rfl, hb, hu, hai⟩ := HC.out k hlt
        obtain ⟨m, hm⟩ : ∃ m, m = (rs.getD k []).length := ⟨_, rfl⟩
        have KS := Lib.hid (szIntS_at w u (rs.getD k []) (left - n - a) hai (by omega) (by omega))
        obtain ⟨xu, cu, hxu⟩ := hai.form
        rw [← hm] at KS hxu
        have e3 : ahead rs (k + 1) = a + m := by rw [hm, HA.out]; rfl
        have E3 := Lib.hid e3
        have mono := HM.out (k + 1) n hlt
        rw [e3] at mono
        have MO := Lib.hid mono
        have k0 : (0 : Int) ≤ (k : Int) := by omega
        have kn : (k : Int) < (n : Int) := by omega
        subst hxu
        clear hm e3 mono hai
        by_cases hlm : left - n - a < m
        · rw [szV_out hlm] at KS
          have fin : Hid (szV left (n + ahead rs n) = -1) := szV_out (by have := MO.out; omega)
          go_wp2_with fail
          refine KS.out.mono ?_
          rintro e w1 ⟨rfl, rfl⟩
          go_wp2
          go_ret
          exact ⟨by rw [fin.out]; rfl, rfl⟩
        · rw [szV_in (by omega)] at KS
          have h3 : ¬ left - (n : Int) - (a : Int) - (m : Int) < 0 := by omega
          go_wp2_with fail
          refine KS.out.mono ?_
          rintro e w1 ⟨rfl, rfl⟩
          go_wp2
          go_round
          case rel => exact ⟨k + 1, a + m, by omega, by go_num, by rw [show left - (n : Int) - (a : Int) - (m : Int) = left - n - ((a + m : Nat) : Int) by omega], E3.out.symm, by omega⟩
          case measure => simp [intOf]; omega
      · obtain rfl : k = n := by omega
        have fin : Hid (szV left (k + ahead rs k) = left - k - a) := by
          show szV left (k + ahead rs k) = _
          rw [← HA.out, szV_in (by omega)]; omega
        go_wp2
        go_ret
        exact ⟨by rw [fin.out]; rfl, rfl⟩
theorem info_slice : (Tryz.prog.info? 23).map (fun i => (i.zero, i.size, i.bytes)) = some (some (.slice none 0 0), 1, 24) := by kernel_rfl
theorem rows_make (n : Nat) (hn : n ≤ 1048576) : ∀ w, (Instr.makeSlice 34 (.int .i64 (n : Int)) (.int .i64 (n : Int))).run Tryz.prog w = .ok (.slice (some ⟨w.heap.size, 0, none⟩) n n) (w.alloc (.cells (madeCells #[.slice none 0 0] n) 23)) :=
  run_make_row' (P := Tryz.prog) 34 23 (.slice none 0 0) 24 Tryz.underlying34 info_slice rfl .i64 .i64 n (by omega) (by omega)
theorem szRough_at (w : World) (u : Value) (rs : List (List Int)) (left : Int) (h : ArgR w u rs) (h0 : 0 ≤ left) (h1 : left ≤ 1048576) :
    Calls Tryz.prog 239 #[.agg #[u], .int .i64 left] w fun e w' => e = .returned (.int .i64 (szV left (rs.length + ahead rs rs.length))) ∧ Below w.heap.size w w' := by
  have hA := (Below.refl w.heap.size w).alloc (Nat.le_refl _) (.cells #[u] 172)
  have K := Lib.hid (szIntSS_at _ u rs left (h.below hA (Nat.le_refl _)) h0 h1)
  have HA := Lib.hid hA
  obtain ⟨x, c, hx⟩ := h.form
  obtain ⟨n, hn⟩ : ∃ n, n = rs.length := ⟨_, rfl⟩
  obtain ⟨m, hm⟩ : ∃ m, m = rs.length + ahead rs rs.length := ⟨_, rfl⟩
  rw [← hm] at K ⊢
  rw [← hn] at hx
  subst hx
  clear h hn hA hm
  by_cases hle : left < m
  · rw [szV_out hle] at K ⊢
    go_enter Tryz.func239, Tryz.ntmps239
    go_wp2_with fail
    refine K.out.mono ?_
    rintro e w1 ⟨rfl, rfl⟩
    go_wp2
    go_ret
    exact ⟨rfl, HA.out⟩
  · rw [szV_in (by omega)] at K ⊢
    have h2 : ¬ left - (m : Int) < 0 := by omega
    go_enter Tryz.func239, Tryz.ntmps239
    go_wp2_with fail
    refine K.out.mono ?_
    rintro e w1 ⟨rfl, rfl⟩
    go_wp2
    go_ret
    exact ⟨rfl, HA.out⟩
end Go.Proofs.YtcblbdpdbggkbaaGreat
set_option linter.unusedVariables false
namespace Go.Proofs.YtcblbdpdbggkbaaGreat
open Go.RowKit Go.Sort
theorem markIntS_nil (w : World) (k : Int) : Calls Tryz.prog 53 #[.slice none 0 0, .int .i64 k] w fun e w' => e = .returned (.int .i64 k) ∧ w = w' := by
  go_enter Tryz.func53, Tryz.ntmps53
  go_wp2
  refine wp_loop_rounds 1 ?_
  rw [rounds_succ]
  go_wp2
  go_ret
  exact ⟨rfl, rfl⟩
theorem markIntS_own (w : World) (B : Nat) (v : Value) (zs : List Int) (k : Int) (h : OwnI w B v zs) (hn : zs.length ≤ 200000000) (hk : 0 ≤ k) (hk' : k ≤ 1000000000000) :
    Calls Tryz.prog 53 #[v, .int .i64 k] w fun e w' => e = .returned (.int .i64 (k + zs.length)) ∧ OwnI w' B v (mkRow k zs.length) ∧ w.grownBy w' v.ownBlock := by
  by_cases h0 : v = .slice none 0 0
  · subst h0
    have hz : zs = [] := by
      rcases h.2 with ⟨_, e⟩ | ⟨g, cap, cur, e, _⟩
      · exact List.eq_nil_of_length_eq_zero e
      · cases e
    subst hz
    exact (markIntS_nil w k).mono fun e w' ⟨he, hw⟩ => ⟨by rw [he]; simp, by subst hw; exact OwnI.nil _ _, by subst hw; exact grownBy_refl _ _⟩
  · rcases h.2 with ⟨e, _⟩ | ⟨g, cap, cur, e, hb, hh, hc, hm, hs, ht⟩
    · exact absurd e h0
    · subst e
      refine (markIntS_at w B g cap zs.length zs k rfl hn hk hk' h).mono fun e w' ⟨he, ho, hg⟩ => ⟨he, ?_, hg⟩
      unfold OwnI
      rw [mkRow_len]
      exact ho
def CopiedTo (W : World) (L : Nat) (rs : List (List Int)) (xs : List Value) (G : Nat → Nat) (k : Nat) : Prop :=
  ∀ j, j < k → xs[j]? = some (.slice (some ⟨G j, 0, none⟩) (rs.getD j []).length (rs.getD j []).length) ∧ OwnI W (L + 1) (.slice (some ⟨G j, 0, none⟩) (rs.getD j []).length (rs.getD j []).length) (rs.getD j []) ∧ L < G j ∧ G j < W.heap.size ∧ ∀ i, i < j → G i < G j
theorem copied_own {W : World} {L n : Nat} {rs : List (List Int)} {xs : List Value} {G : Nat → Nat} (hn : n = rs.length) (hx : xs.length = n) (ho : W.ownsRow L 23 1 (.slice (some ⟨L, 0, none⟩) n n) n xs) (hc : CopiedTo W L rs xs G n) :
    OwnR W L (.slice (some ⟨L, 0, none⟩) n n) rs G (fun i => (rs.getD i []).length) := by
  subst hn
  have e : xs = (List.range rs.length).map (rowV rs G fun i => (rs.getD i []).length) := by
    refine List.ext_getElem? fun i => ?_
    by_cases hi : i < rs.length
    · rw [(hc i hi).1, List.getElem?_map, List.getElem?_range hi]; rfl
    · rw [List.getElem?_eq_none (by omega), List.getElem?_eq_none (by simp; omega)]
  refine ⟨by rw [← e]; exact ho, fun i hi => OwnI.base (hc i hi).2.1 (Nat.le_succ _), fun i hi q => ?_, fun i j hi hj hne q => ?_⟩
  · have h := (hc i hi).2.2.1
    simp [Value.ownBlock] at q
    omega
  · rcases Nat.lt_or_gt_of_ne hne with h | h
    · have := (hc j hj).2.2.2.2 i h; omega
    · have := (hc i hi).2.2.2.2 j h; omega
theorem toIntSS_own (w : World) (v : Value) (rs : List (List Int)) (h : ArgR w v rs) (hn : rs.length ≤ 1048576) (hr : ∀ i, i < rs.length → (rs.getD i []).length ≤ 1048576) :
    Calls Tryz.prog 187 #[v] w fun e w' => e = .returned (.slice (some ⟨w.heap.size, 0, none⟩) rs.length rs.length) ∧ (∃ G : Nat → Nat, OwnR w' w.heap.size (.slice (some ⟨w.heap.size, 0, none⟩) rs.length rs.length) rs G (fun i => (rs.getD i []).length)) ∧ Below w.heap.size w w' := by
  obtain ⟨x, c, hx⟩ := h.form
  have hcs := fun hx' : v = .slice x rs.length c => (hx' ▸ h : ArgR w (.slice x rs.length c) rs).cells
  obtain ⟨n, hn'⟩ : ∃ n, n = rs.length := ⟨_, rfl⟩
  have HC := Lib.hid (hcs hx)
  rw [← hn'] at hx hn HC hr ⊢
  have HR := Lib.hid hr
  have hmk := rows_make n hn
  have own0 := World.ownsRow_lit (base := w.heap.size) (e := 23) (size := 1) w (madeCells #[.slice none 0 0] n) n (Nat.le_refl _) (by unfold maxLen; omega) (by rw [size_madeCells]; omega)
  have O0 := Lib.hid own0
  have HN := Lib.hid hn'
  subst hx
  clear h hn' hcs own0 hr
  go_enter Tryz.func187, Tryz.ntmps187
  go_wp2
  go_loopw [4] (fun i wr => ∃ (k : Nat) (xs : List Value) (G : Nat → Nat), k ≤ n ∧ i = .int .i64 k ∧ xs.length = n ∧ CopiedTo wr w.heap.size rs xs G k ∧ wr.ownsRow w.heap.size 23 1 (.slice (some ⟨w.heap.size, 0, none⟩) n n) n xs ∧ Below w.heap.size w wr) (fun i _ => n - (intOf i).toNat)
  case atStart => exact ⟨0, _, fun _ => 0, Nat.zero_le _, rfl, by rw [Array.length_toList, size_madeCells], fun _ h => absurd h (Nat.not_lt_zero _), O0.out, (Below.refl _ _).alloc (Nat.le_refl _) _⟩
  case round =>
    obtain ⟨k, xs, G, hk, rfl, hy, hys, hown, hbl⟩ := hrel
    have HY := Lib.hid hy
    have HYS := Lib.hid hys
    have HB := Lib.hid hbl
    have HO := Lib.hid hown
    clear hy hys hbl hown
    by_cases hlt : k < n
    · obtain ⟨b, o, u, rfl, hb, h1, hai⟩ := HC.out k hlt
      rw [← HB.out.cell (p := ⟨b, o + k, none⟩) hb] at h1
      have KT := Lib.hid (toIntS_at wr u (rs.getD k []) (hai.below HB.out (Nat.le_refl _)) (HR.out k hlt))
      obtain ⟨xu, cu, hxu⟩ := hai.form
      obtain ⟨m, hm⟩ : ∃ m, m = (rs.getD k []).length := ⟨_, rfl⟩
      rw [← hm] at KT hxu
      subst hxu
      have hlw : w.heap.size < wr.heap.size := (World.ownsRow.lt HO.out w.heap.size rfl).2
      have k0 : (0 : Int) ≤ (k : Int) := by omega
      have kn : (k : Int) < (n : Int) := by omega
      have HM := Lib.hid hm
      clear hai hm
      go_wp2_with fail
      refine KT.out.mono ?_
      rintro e w1 ⟨rfl, ho1, hb1⟩
      have ho2 := HO.out.kept (grownBy_below (row := none) hb1) (.inr (by simp [Value.ownBlock]))
      obtain ⟨uu, hc⟩ : ∃ uu, w1.cell? ⟨w.heap.size, k, none⟩ = some uu := by
        rw [ho2.cellAt k (by omega)]
        exact ⟨_, List.getElem?_eq_getElem (by rw [HY.out]; exact hlt)⟩
      have hf := ho2.frozenAt k
      have hs := ho2.stored k (.slice (some ⟨wr.heap.size, 0, none⟩) m m)
      have HS := Lib.hid hs
      have O1 := Lib.hid ho1
      have B1 := Lib.hid hb1
      clear hs ho1 ho2 hb1
      go_wp2
      go_roundw
      case rel =>
        have sg := grownBy_setCell w1 ⟨w.heap.size, k, none⟩ (.slice (some ⟨wr.heap.size, 0, none⟩) m m)
        have hg := hlw
        refine ⟨k + 1, xs.set k (.slice (some ⟨wr.heap.size, 0, none⟩) m m), fun i => if i = k then wr.heap.size else G i, by omega, by go_num, by simpa using HY.out, fun j hj => ?_, HS.out.1, (HB.out.trans (B1.out.mono HB.out.size)).setCell (Nat.le_refl _) _⟩
        have sz1 : wr.heap.size < w1.heap.size := (World.ownsRow.lt O1.out wr.heap.size rfl).2
        by_cases e : j = k
        · subst e
          simp only [if_pos]
          refine ⟨by rw [List.getElem?_set_self (by rw [HY.out]; exact hlt), HM.out], by rw [← HM.out]; exact (O1.out.base (by omega)).kept sg (fun q eq => by simp at eq; omega), hlw, by simpa using sz1, fun i hi => ?_⟩
          rw [if_neg (by omega)]
          exact (HYS.out i (by omega)).2.2.2.1
        · obtain ⟨hx, hox, h1, h2, h3⟩ := HYS.out j (by omega)
          simp only [if_neg e]
          refine ⟨by rw [List.getElem?_set_ne (Ne.symm e)]; exact hx, (hox.kept (grownBy_below (row := none) B1.out) (fun q eq => by cases eq)).kept sg (fun q eq => by simp at eq; omega), h1, by simp; omega, fun i hi => ?_⟩
          rw [if_neg (by omega)]
          exact h3 i hi
      case measure => simp [intOf]; omega
    · obtain rfl : k = n := by omega
      go_wp2
      go_ret
      exact ⟨rfl, ⟨G, copied_own HN.out HY.out HO.out HYS.out⟩, HB.out⟩
theorem toRough_own (w : World) (u : Value) (rs : List (List Int)) (h : ArgR w u rs) (hn : rs.length ≤ 1048576) (hr : ∀ i, i < rs.length → (rs.getD i []).length ≤ 1048576) :
    Calls Tryz.prog 243 #[.agg #[u]] w fun e w' => ∃ g, e = .returned (.agg #[.slice (some ⟨g, 0, none⟩) rs.length rs.length]) ∧ OwnRR w' w.heap.size w'.heap.size (.slice (some ⟨g, 0, none⟩) rs.length rs.length) rs ∧ Below w.heap.size w w' := by
  have hA := (((Below.refl w.heap.size w).alloc (Nat.le_refl _) (.cells #[u] 172)).alloc (by simp) (.cells #[.slice none 0 0] 36)).alloc (by simp; omega) (.cells #[.slice none 0 0] 36)
  have K := Lib.hid (toIntSS_own _ u rs (h.below hA (Nat.le_refl _)) hn hr)
  have HA := Lib.hid hA
  obtain ⟨x, c, hx⟩ := h.form
  obtain ⟨n, hn'⟩ : ∃ n, n = rs.length := ⟨_, rfl⟩
  rw [← hn'] at hx K hn ⊢
  subst hx
  have HNN := Lib.hid hn'
  clear h hn' hA hr
  obtain ⟨w0, hw0⟩ : ∃ w0, w0 = (((w.alloc (.cells #[.slice x n c] 172)).alloc (.cells #[.slice none 0 0] 36)).alloc (.cells #[.slice none 0 0] 36)) := ⟨_, rfl⟩
  have c1 : w0.cell? ⟨w.heap.size + 1, 0, none⟩ = some (.slice none 0 0) := by rw [hw0, World.cell?_alloc_past (hn := by simp), World.cell?_alloc_at (hn := by simp)]; simp
  have f1 : w0.frozen? ⟨w.heap.size + 1, 0, none⟩ = false := by rw [hw0, World.frozen?_alloc_past (hn := by simp)]; exact World.frozen?_alloc_at _ _ _ _ (by simp)
  have c2 : w0.cell? ⟨w.heap.size + 1 + 1, 0, none⟩ = some (.slice none 0 0) := by rw [hw0, World.cell?_alloc_at (hn := by simp)]; simp
  have f2 : w0.frozen? ⟨w.heap.size + 1 + 1, 0, none⟩ = false := by rw [hw0]; exact World.frozen?_alloc_at _ _ _ _ (by simp)
  have sz := Lib.hid (show w0.heap.size = w.heap.size + 3 by rw [hw0]; simp)
  rw [← hw0] at K HA
  have HW := Lib.hid hw0
  clear hw0
  go_enter Tryz.func243, Tryz.ntmps243
  go_wp2_with fail
  rw [← HW.out]
  refine K.out.mono ?_
  rintro e w1 ⟨rfl, ho1, hb1⟩
  have d1 := cell_later hb1 c1
  have d2 := cell_later hb1 c2
  have g1 : w1.frozen? ⟨w.heap.size + 1, 0, none⟩ = false := (hb1.frozen (p := ⟨w.heap.size + 1, 0, none⟩) (by have := sz.out; simp; omega)).trans f1
  have g2 : w1.frozen? ⟨w.heap.size + 1 + 1, 0, none⟩ = false := (hb1.frozen (p := ⟨w.heap.size + 1 + 1, 0, none⟩) (by have := sz.out; simp; omega)).trans f2
  have B1 := Lib.hid (HA.out.trans (hb1.mono HA.out.size))
  have O1 := Lib.hid ho1
  have e1 : (w1.setCell ⟨w.heap.size + 1 + 1, 0, none⟩ (.slice (some ⟨w0.heap.size, 0, none⟩) n n)).cell? ⟨w.heap.size + 1, 0, none⟩ = some (.slice none 0 0) := (World.cell?_setCell_other (h := by simp) ..).trans d1
  have e2 : (w1.setCell ⟨w.heap.size + 1 + 1, 0, none⟩ (.slice (some ⟨w0.heap.size, 0, none⟩) n n)).frozen? ⟨w.heap.size + 1, 0, none⟩ = false := by rw [World.frozen?_setCell]; exact g1
  have e3 := World.cell?_setCell_same w1 ⟨w.heap.size + 1 + 1, 0, none⟩ (.slice (some ⟨w0.heap.size, 0, none⟩) n n) d2
  clear hb1 ho1 HW c1 c2 f1 f2
  go_wp2
  have hr := World.cell?_setCell_same _ ⟨w.heap.size + 1, 0, none⟩ (.slice (some ⟨w0.heap.size, 0, none⟩) n n) e1
  have s1 := grownBy_setCell w1 ⟨w.heap.size + 1 + 1, 0, none⟩ (.slice (some ⟨w0.heap.size, 0, none⟩) n n)
  have s2 := grownBy_setCell (w1.setCell ⟨w.heap.size + 1 + 1, 0, none⟩ (.slice (some ⟨w0.heap.size, 0, none⟩) n n)) ⟨w.heap.size + 1, 0, none⟩ (.slice (some ⟨w0.heap.size, 0, none⟩) n n)
  refine bodyPost_ret (v := .agg #[.slice (some ⟨w0.heap.size, 0, none⟩) n n]) (by simp [results, Tryz.results243, go_sem, hr]) rfl ⟨_, rfl, ?_, ?_⟩
  · obtain ⟨G, o1⟩ := O1.out
    exact (((o1.grown s1 (fun k e => by have := sz.out; simp at e; omega)).grown s2 (fun k e => by have := sz.out; simp at e; omega)).base (by have := sz.out; omega)).bounds
  · exact (B1.out.setCell (by simp; omega) _).setCell (by simp) _
structure Lens (A : List (List Int)) : Prop where
  len : A.length ≤ 1048576
  row : ∀ i, i < A.length → (A.getD i []).length ≤ 1048576
  all : ahead A A.length ≤ 100000000
  lenM : A.length ≤ maxLen
  rowM : ∀ i, i < A.length → (A.getD i []).length ≤ maxLen
theorem Lens.arg {A : List (List Int)} (h : A.length + ahead A A.length ≤ 1048576) : Lens A :=
  ⟨by omega, fun i hi => by have := ahead_row A i A.length hi; omega, by omega, by unfold maxLen; omega, fun i hi => by have := ahead_row A i A.length hi; unfold maxLen; omega⟩
end Go.Proofs.YtcblbdpdbggkbaaGreat
set_option linter.unusedVariables false
namespace Go.Proofs.YtcblbdpdbggkbaaGreat.T
open Go.RowKit Go.ChangeShapes Go.WideShapes Go.ChangeAt Go.Deep Go.Joins
def ArgP (w : World) (v : Value) (ps : List Pr) : Prop :=
  (ps = [] ∧ ∃ x c, v = .slice x 0 c) ∨
  ∃ b o c, v = .slice (some ⟨b, o, none⟩) ps.length c ∧ 0 < ps.length ∧ ps.length ≤ maxLen ∧ b < w.heap.size ∧
    ∀ i, i < ps.length → w.cell? ⟨b, o + i * 2, none⟩ = some (.int .i64 (pr ps i).1) ∧ w.cell? ⟨b, o + i * 2 + 1, none⟩ = some (.int .i64 (pr ps i).2)
theorem ArgP.below {w w' : World} {v : Value} {ps : List Pr} (h : ArgP w v ps) {B : Nat} (hb : Below B w w') (hB : w.heap.size ≤ B) : ArgP w' v ps := by
  rcases h with h | ⟨b, o, c, e, h0, h1, h2, h3⟩
  · exact .inl h
  · exact .inr ⟨b, o, c, e, h0, h1, Nat.lt_of_lt_of_le h2 hb.size, fun i hi => by
      rw [hb.cell (p := ⟨b, o + i * 2, none⟩) (by show b < B; omega), hb.cell (p := ⟨b, o + i * 2 + 1, none⟩) (by show b < B; omega)]; exact h3 i hi⟩
theorem ArgP.form {w : World} {v : Value} {ps : List Pr} (h : ArgP w v ps) : ∃ x c, v = .slice x ps.length c := by
  rcases h with ⟨rfl, x, c, e⟩ | ⟨b, o, c, e, _⟩
  · exact ⟨x, c, e⟩
  · exact ⟨_, c, e⟩
theorem ArgP.len {w : World} {v : Value} {ps : List Pr} (h : ArgP w v ps) : ps.length ≤ maxLen := by
  rcases h with ⟨rfl, _⟩ | ⟨b, o, c, e, h0, h1, _⟩
  · exact Nat.zero_le _
  · exact h1
theorem ArgP.cells {w : World} {x : Option Addr} {n c : Nat} {ps : List Pr} (h : ArgP w (.slice x n c) ps) : ∀ i, i < ps.length → ∃ b o, x = some ⟨b, o, none⟩ ∧ b < w.heap.size ∧ w.cell? ⟨b, o + i * 2, none⟩ = some (.int .i64 (pr ps i).1) ∧ w.cell? ⟨b, o + i * 2 + 1, none⟩ = some (.int .i64 (pr ps i).2) := fun i hi => by
  rcases h with ⟨rfl, _⟩ | ⟨b, o, c, e, h0, h1, h2, h3⟩
  · cases hi
  · exact ⟨b, o, (Value.slice.inj e).1, h2, h3 i hi⟩
def szV (left : Int) (n : Nat) : Int := if left < n then -1 else left - n
theorem szV_in {left : Int} {n : Nat} (h : (n : Int) ≤ left) : szV left n = left - n := if_neg (by omega)
theorem szV_out {left : Int} {n : Nat} (h : left < n) : szV left n = -1 := if_pos h
theorem open_pairs {H : Type} {enc : TypeId × Value → H} {w : World} {fuel : Nat} {u : Value} {y : DataW H × List MemPlace} (h : DataW.trod enc Tryz.prog w 0 (fun _ => true) true fuel 174 [u] = some y) : ∃ ps, ArgP w u ps := by
  have hC : Tryz.prog.cellsOf 318 = 2 := by kernel_rfl
  have hC0 : Tryz.prog.cellsOf 3 = 1 := by kernel_rfl
  rcases open_slice Tryz.underlying174 h with ⟨e, _⟩ | ⟨a, len, cap, m, n, D, Pl, e, _, hl, hm, hmm, _, hi⟩
  · simp at e
    exact ⟨[], .inl ⟨rfl, _, _, e⟩⟩
  · simp at e
    simp only [if_true] at hmm
    subst e
    rw [hC] at hi
    have key : ∀ i, i < len → ∃ p : Pr, w.cell? (a.add (i * 2)) = some (.int .i64 p.1) ∧ w.cell? (a.add (i * 2 + 1)) = some (.int .i64 p.2) := fun i hlt => by
      obtain ⟨cs, hc, ht⟩ := hi i (by omega)
      obtain ⟨y0, y1, k, _, hlen, h0, h1⟩ := trod_struct2 Tryz.underlying318 ht
      obtain ⟨_, hcl, hat⟩ := World.cells?_some hc
      obtain ⟨l0, l1, rfl⟩ : ∃ l0 l1, cs = [l0, l1] := by
        match cs, hcl with
        | [l0, l1], _ => exact ⟨l0, l1, rfl⟩
      simp [hC0] at h0 h1
      obtain ⟨t, e0, _⟩ := DataW.trod_int Tryz.underlying3 h0
      obtain ⟨z, e1, _⟩ := DataW.trod_int Tryz.underlying3 h1
      simp at e0 e1
      have a0 := hat 0 (by omega)
      have a1 := hat 1 (by omega)
      rw [Go.Deep.add_add] at a0 a1
      exact ⟨(t, z), by simpa [e0] using a0, by simpa [e1] using a1⟩
    by_cases h0 : len = 0
    · subst h0
      exact ⟨[], .inl ⟨rfl, _, _, rfl⟩⟩
    obtain ⟨b, o, sp⟩ := a
    have f : ∀ i, ∃ p : Pr, i < len → w.cell? ((⟨b, o, sp⟩ : Addr).add (i * 2)) = some (.int .i64 p.1) ∧ w.cell? ((⟨b, o, sp⟩ : Addr).add (i * 2 + 1)) = some (.int .i64 p.2) := fun i => by
      by_cases hlt : i < len
      · obtain ⟨p, hp⟩ := key i hlt
        exact ⟨p, fun _ => hp⟩
      · exact ⟨(0, 0), fun hc => absurd hc hlt⟩
    have f' : ∃ F : Nat → Pr, ∀ i, i < len → w.cell? ((⟨b, o, sp⟩ : Addr).add (i * 2)) = some (.int .i64 (F i).1) ∧ w.cell? ((⟨b, o, sp⟩ : Addr).add (i * 2 + 1)) = some (.int .i64 (F i).2) := ⟨fun i => Classical.choose (f i), fun i => Classical.choose_spec (f i)⟩
    obtain ⟨F, hF⟩ := f'
    have c0 := (hF 0 (by omega)).1
    have hs : sp = none := by simpa [Addr.add] using World.cell?_spot c0
    subst hs
    have e : ((List.range len).map F).length = len := by simp
    refine ⟨(List.range len).map F, .inr ⟨b, o, cap, by rw [e], by omega, by omega, by simpa [Addr.add] using World.block_lt_of_cell? _ _ c0, fun i hi => ?_⟩⟩
    rw [e] at hi
    have eg : pr ((List.range len).map F) i = F i := by simp [pr, hi]
    rw [eg]
    have := hF i hi
    rw [addr_plus, addr_plus, ← Nat.add_assoc] at this
    exact this
theorem szPairS_at (w : World) (v : Value) (ps : List Pr) (left : Int) (h : ArgP w v ps) (h0 : 0 ≤ left) (h1 : left ≤ 1048576) :
    Calls Tryz.prog 280 #[v, .int .i64 left] w fun e w' => e = .returned (.int .i64 (szV left ps.length)) ∧ w = w' := by
  obtain ⟨x, c, hx⟩ := h.form
  have hl := h.len
  obtain ⟨n, hn⟩ : ∃ n, n = ps.length := ⟨_, rfl⟩
  rw [← hn] at hx hl ⊢
  subst hx
  unfold maxLen at hl
  clear h hn
  by_cases hle : left < n
  · rw [szV_out hle]
    have h2 : left - (n : Int) < 0 := by omega
    go_enter Tryz.func280, Tryz.ntmps280
    go_wp2
    go_ret
    exact ⟨rfl, rfl⟩
  · rw [szV_in (by omega)]
    have h2 : ¬ left - (n : Int) < 0 := by omega
    go_enter Tryz.func280, Tryz.ntmps280
    go_wp2
    go_ret
    exact ⟨rfl, rfl⟩
theorem szTop_at (w : World) (u : Value) (ps : List Pr) (lost all left : Int) (h : ArgP w u ps) (h0 : 0 ≤ left) (h1 : left ≤ 1048576) :
    Calls Tryz.prog 241 #[.agg #[u, .int .i64 lost, .int .i64 all], .int .i64 left] w fun e w' => e = .returned (.int .i64 (szV left ps.length)) ∧ Below w.heap.size w w' := by
  have hA := (Below.refl w.heap.size w).alloc (Nat.le_refl _) (.cells #[u, .int .i64 lost, .int .i64 all] 176)
  have K := Lib.hid (szPairS_at _ u ps left (h.below hA (Nat.le_refl _)) h0 h1)
  have HA := Lib.hid hA
  obtain ⟨x, c, hx⟩ := h.form
  obtain ⟨n, hn⟩ : ∃ n, n = ps.length := ⟨_, rfl⟩
  rw [← hn] at hx K ⊢
  subst hx
  clear h hn hA
  by_cases hle : left < n
  · rw [szV_out hle] at K ⊢
    go_enter Tryz.func241, Tryz.ntmps241
    go_wp2_with fail
    refine K.out.mono ?_
    rintro e w1 ⟨rfl, rfl⟩
    go_wp2
    go_ret
    exact ⟨rfl, HA.out⟩
  · rw [szV_in (by omega)] at K ⊢
    have h2 : ¬ left - (n : Int) < 0 := by omega
    go_enter Tryz.func241, Tryz.ntmps241
    go_wp2_with fail
    refine K.out.mono ?_
    rintro e w1 ⟨rfl, rfl⟩
    go_wp2
    go_ret
    exact ⟨rfl, HA.out⟩
end Go.Proofs.YtcblbdpdbggkbaaGreat.T
namespace Go.Proofs.YtcblbdpdbggkbaaGreat.T
open Go.RowKit Go.Sort
theorem prs_zero (n : Nat) : prs (List.replicate n (0, 0)) = List.replicate (n * 2) (.int .i64 0) := by
  induction n with
  | zero => rfl
  | succ n ih => rw [List.replicate_succ, prs_cons, ih, show (n + 1) * 2 = n * 2 + 1 + 1 by omega, List.replicate_succ, List.replicate_succ]
theorem made_pairs (n : Nat) : (madeCells #[.int .i64 0, .int .i64 0] (n * 2)).toList = prs (List.replicate n (0, 0)) := by
  rw [prs_zero]
  apply List.ext_getElem?
  intro j
  by_cases hj : j < n * 2
  · have h2 : j % 2 = 0 ∨ j % 2 = 1 := by omega
    rcases h2 with h | h <;> simp [madeCells, hj, h]
  · simp [madeCells, hj]
theorem pair_make (n : Nat) (hn : n ≤ 1048576) : ∀ w, (Instr.makeSlice 39 (.int .i64 (n : Int)) (.int .i64 (n : Int))).run Tryz.prog w = .ok (.slice (some ⟨w.heap.size, 0, none⟩) n n) (w.alloc (.cells (madeCells #[.int .i64 0, .int .i64 0] (n * 2)) 213)) := fun w => by
  obtain ⟨i0, hi, hz0, hz1, hz2⟩ := info_parts pair_info
  have h := run_make (P := Tryz.prog) w 39 213 i0 (.agg #[.int .i64 0, .int .i64 0]) Tryz.underlying39 hi hz0 .i64 .i64 n n (by omega) (Int.le_refl _) (by rw [hz2]; omega) (by omega)
  simp only [Int.toNat_natCast, hz1] at h
  exact h
theorem prs_set2 (ps : List Pr) (k : Nat) (t z : Int) (h : k < ps.length) : ((prs ps).set (k * 2) (.int .i64 t)).set (k * 2 + 1) (.int .i64 z) = prs (ps.set k (t, z)) := by
  induction ps generalizing k with
  | nil => cases h
  | cons p ps ih =>
    cases k with
    | zero => rfl
    | succ k =>
      have := ih k (by simpa using h)
      rw [List.set_cons_succ, prs_cons, prs_cons, ← this, show (k + 1) * 2 = k * 2 + 1 + 1 by omega]
      simp
theorem toPair_at (w : World) (t z : Int) : Calls Tryz.prog 299 #[.agg #[.int .i64 t, .int .i64 z]] w fun e w' => e = .returned (.agg #[.int .i64 t, .int .i64 z]) ∧ Below w.heap.size w w' := by
  go_enter Tryz.func299, Tryz.ntmps299
  go_wp2
  refine bodyPost_ret (v := .agg #[.int .i64 t, .int .i64 z]) (by simp [results, Tryz.results299, go_sem]) rfl ⟨rfl, ?_⟩
  exact (((Below.refl _ _).alloc (Nat.le_refl _) _).alloc (by simp) _).alloc (by simp; omega) _
theorem toPairS_at (w : World) (v : Value) (ps : List Pr) (h : ArgP w v ps) (hn : ps.length ≤ 1048576) :
    Calls Tryz.prog 282 #[v] w fun e w' => e = .returned (.slice (some ⟨w.heap.size, 0, none⟩) ps.length ps.length) ∧ OwnP w' w.heap.size (.slice (some ⟨w.heap.size, 0, none⟩) ps.length ps.length) ps ∧ Below w.heap.size w w' := by
  obtain ⟨x, c, hx⟩ := h.form
  obtain ⟨n, hn'⟩ : ∃ n, n = ps.length := ⟨_, rfl⟩
  have HZ : Hid (∀ i, i < n → ∃ b o, x = some ⟨b, o, none⟩ ∧ b < w.heap.size ∧ w.cell? ⟨b, o + i * 2, none⟩ = some (.int .i64 (pr ps i).1) ∧ w.cell? ⟨b, o + i * 2 + 1, none⟩ = some (.int .i64 (pr ps i).2)) := fun i hi => by
    rw [hx] at h
    exact h.cells i (by rw [← hn']; exact hi)
  have HN := Lib.hid hn'
  rw [← hn'] at hx hn ⊢
  have hmk := pair_make n hn
  have own0 : OwnP (w.alloc (.cells (madeCells #[.int .i64 0, .int .i64 0] (n * 2)) 213)) w.heap.size (.slice (some ⟨w.heap.size, 0, none⟩) n n) (List.replicate n (0, 0)) := by
    have := World.ownsRow_lit (base := w.heap.size) (e := 213) (size := 2) w (madeCells #[.int .i64 0, .int .i64 0] (n * 2)) n (Nat.le_refl _) (by unfold maxLen; omega) (by rw [size_madeCells])
    rw [made_pairs] at this
    unfold OwnP
    rw [List.length_replicate]
    exact this
  have O0 := Lib.hid own0
  subst hx
  clear h hn' own0
  go_enter Tryz.func282, Tryz.ntmps282
  go_wp2
  go_loopw [4] (fun i wr => ∃ (k : Nat) (ys : List Pr), k ≤ n ∧ i = .int .i64 k ∧ ys.length = n ∧ (∀ i, i < k → pr ys i = pr ps i) ∧ OwnP wr w.heap.size (.slice (some ⟨w.heap.size, 0, none⟩) n n) ys ∧ Below w.heap.size w wr) (fun i _ => n - (intOf i).toNat)
  case atStart => exact ⟨0, List.replicate n (0, 0), Nat.zero_le _, rfl, by simp, fun _ h => absurd h (Nat.not_lt_zero _), O0.out, (Below.refl _ _).alloc (Nat.le_refl _) _⟩
  case round =>
    obtain ⟨k, ys, hk, rfl, hy, hys, hown, hbl⟩ := hrel
    have HY := Lib.hid hy
    have HYS := Lib.hid hys
    have HB := Lib.hid hbl
    have HO := Lib.hid hown
    clear hy hys hbl hown
    by_cases hlt : k < n
    · obtain ⟨b, o, rfl, hb, h1, h2⟩ := HZ.out k hlt
      rw [← HB.out.cell (p := ⟨b, o + k * 2, none⟩) hb] at h1
      rw [← HB.out.cell (p := ⟨b, o + k * 2 + 1, none⟩) hb] at h2
      obtain ⟨y, hyk⟩ : ∃ y, pr ps k = y := ⟨_, rfl⟩
      rw [hyk] at h1 h2
      have HK := Lib.hid hyk
      obtain ⟨t, z⟩ := y
      simp only at h1 h2
      have k0 : (0 : Int) ≤ (k : Int) := by omega
      have kn : (k : Int) < (n : Int) := by omega
      clear hyk
      go_wp2_with fail
      refine (toPair_at wr t z).mono ?_
      rintro e w1 ⟨rfl, hb1⟩
      have ho : w1.ownsRow w.heap.size 213 2 (.slice (some ⟨w.heap.size, 0, none⟩) n n) n (prs ys) := by have h := HO.out.below hb1; unfold OwnP at h; rw [HY.out] at h; exact h
      have hl := prs_len ys
      rw [HY.out] at hl
      obtain ⟨u0, hc0⟩ : ∃ u, w1.cell? ⟨w.heap.size, k * 2, none⟩ = some u := by
        rw [ho.cellAt (k * 2) (by omega)]
        exact ⟨_, List.getElem?_eq_getElem (by omega)⟩
      obtain ⟨u1, hc1⟩ : ∃ u, w1.cell? ⟨w.heap.size, k * 2 + 1, none⟩ = some u := by
        rw [ho.cellAt (k * 2 + 1) (by omega)]
        exact ⟨_, List.getElem?_eq_getElem (by omega)⟩
      have hf0 := ho.frozenAt (k * 2)
      have hf1 := ho.frozenAt (k * 2 + 1)
      have hs := ((ho.stored (k * 2) (.int .i64 t)).1.stored (k * 2 + 1) (.int .i64 z)).1
      rw [prs_set2 ys k t z (by rw [HY.out]; exact hlt)] at hs
      have HS := Lib.hid hs
      have B1 := Lib.hid (HB.out.trans (hb1.mono HB.out.size))
      clear hs ho hl hb1 h1 h2
      go_wp2
      go_roundw
      case rel =>
        refine ⟨k + 1, ys.set k (t, z), by omega, by go_num, by simpa using HY.out, fun i hi => ?_, ?_, (B1.out.setCell (Nat.le_refl _) _).setCell (Nat.le_refl _) _⟩
        · by_cases e : i = k
          · subst e
            rw [HK.out]
            simp [pr, HY.out, hlt]
          · have e1 : pr (ys.set k (t, z)) i = pr ys i := by simp [pr, Ne.symm e]
            rw [e1]; exact HYS.out i (by omega)
        · unfold OwnP
          rw [List.length_set, HY.out]
          exact HS.out
      case measure => simp [intOf]; omega
    · obtain rfl : k = n := by omega
      have fin0 : ys = ps := by
        apply List.ext_getElem (by rw [HY.out, HN.out])
        intro i h1 h2
        have := HYS.out i (by rw [← HY.out]; exact h1)
        simpa [pr, h1, h2] using this
      have fin := Lib.hid fin0
      clear fin0
      go_wp2
      go_ret
      refine ⟨rfl, ?_, HB.out⟩
      rw [← fin.out]
      exact HO.out
theorem toTop_at (w : World) (u : Value) (ps : List Pr) (lost all : Int) (h : ArgP w u ps) (hn : ps.length ≤ 1048576) :
    Calls Tryz.prog 245 #[.agg #[u, .int .i64 lost, .int .i64 all]] w fun e w' => ∃ g, e = .returned (.agg #[.slice (some ⟨g, 0, none⟩) ps.length ps.length, .int .i64 lost, .int .i64 all]) ∧ OwnP w' w.heap.size (.slice (some ⟨g, 0, none⟩) ps.length ps.length) ps ∧ Below w.heap.size w w' := by
  obtain ⟨W, hW⟩ : ∃ W, W = ((w.alloc (.cells #[u, .int .i64 lost, .int .i64 all] 176)).alloc (.cells #[.slice none 0 0, .int .i64 0, .int .i64 0] 41)).alloc (.cells #[.slice none 0 0, .int .i64 0, .int .i64 0] 41) := ⟨_, rfl⟩
  have hA : Below w.heap.size w W := by rw [hW]; exact (((Below.refl _ _).alloc (Nat.le_refl _) _).alloc (by simp) _).alloc (by simp; omega) _
  have sW : W.heap.size = w.heap.size + 3 := by rw [hW]; simp
  have A : Box3 W w.heap.size 176 u (.int .i64 lost) (.int .i64 all) := by rw [hW]; exact ((Box3.new w _ _ _ _).alloc _).alloc _
  have X : Box3 W (w.heap.size + 1) 41 (.slice none 0 0) (.int .i64 0) (.int .i64 0) := by
    rw [hW]
    have := Box3.new (w.alloc (.cells #[u, .int .i64 lost, .int .i64 all] 176)) 41 (.slice none 0 0) (.int .i64 0) (.int .i64 0)
    rw [World.size_alloc] at this
    exact this.alloc _
  have Y : Box3 W (w.heap.size + 1 + 1) 41 (.slice none 0 0) (.int .i64 0) (.int .i64 0) := by
    rw [hW]
    have := Box3.new ((w.alloc (.cells #[u, .int .i64 lost, .int .i64 all] 176)).alloc (.cells #[.slice none 0 0, .int .i64 0, .int .i64 0] 41)) 41 (.slice none 0 0) (.int .i64 0) (.int .i64 0)
    rw [World.size_alloc, World.size_alloc] at this
    exact this
  have K := Lib.hid (toPairS_at W u ps (h.below hA (Nat.le_refl _)) hn)
  obtain ⟨x, c, hx⟩ := h.form
  obtain ⟨n, hn'⟩ : ∃ n, n = ps.length := ⟨_, rfl⟩
  rw [← hn'] at hx K hn ⊢
  subst hx
  have HA := Lib.hid hA
  have HS := Lib.hid sW
  clear h hn' hA sW
  go_enter Tryz.func245, Tryz.ntmps245
  go_wp2_with fail
  rw [← hW]
  clear hW
  refine K.out.mono ?_
  rintro e w1 ⟨rfl, ho, hb1⟩
  have A1 := A.later hb1
  have X1 := X.later hb1
  have Y1 := Y.later hb1
  have L1 := Lib.hid (HA.out.trans (hb1.mono HA.out.size))
  rw [HS.out] at ho ⊢
  clear hb1 A X Y
  -- the copy, filled field by field
  have gy := ((grownBy_setCell w1 ⟨w.heap.size + 1 + 1, 0, none⟩ (.slice (some ⟨w.heap.size + 3, 0, none⟩) n n)).trans (grownBy_setCell _ ⟨w.heap.size + 1 + 1, 1, none⟩ (.int .i64 lost))).trans (grownBy_setCell _ ⟨w.heap.size + 1 + 1, 2, none⟩ (.int .i64 all))
  have Yb := Y1.set (.slice (some ⟨w.heap.size + 3, 0, none⟩) n n) (.int .i64 lost) (.int .i64 all)
  have Xb := X1.kept gy (by simp)
  have o1 := ho.set3 (b := w.heap.size + 1 + 1) (Y1.not_row (by decide) ho) (.slice (some ⟨w.heap.size + 3, 0, none⟩) n n) (.int .i64 lost) (.int .i64 all)
  have o2 := Lib.hid ((o1.set3 (b := w.heap.size + 1) (Xb.not_row (by decide) o1) (.slice (some ⟨w.heap.size + 3, 0, none⟩) n n) (.int .i64 lost) (.int .i64 all)).base (B' := w.heap.size) (by omega))
  have L2 := Lib.hid (below_set3 (b := w.heap.size + 1) (below_set3 (b := w.heap.size + 1 + 1) L1.out (by omega) (.slice (some ⟨w.heap.size + 3, 0, none⟩) n n) (.int .i64 lost) (.int .i64 all)) (by omega) (.slice (some ⟨w.heap.size + 3, 0, none⟩) n n) (.int .i64 lost) (.int .i64 all))
  have Xc := Xb.set (.slice (some ⟨w.heap.size + 3, 0, none⟩) n n) (.int .i64 lost) (.int .i64 all)
  have a0 := A1.cell0
  have a1 := A1.cell1
  have a2 := A1.cell2
  have y0 := Y1.cell0
  have y1 := Y1.cell1
  have y2 := Y1.cell2
  have yf := Y1.free
  have yb0 := Yb.cell0
  have yb1 := Yb.cell1
  have yb2 := Yb.cell2
  have xb0 := Xb.cell0
  have xb1 := Xb.cell1
  have xb2 := Xb.cell2
  have xbf := Xb.free
  have xc0 := Xc.cell0
  have xc1 := Xc.cell1
  have xc2 := Xc.cell2
  clear A1 X1 Y1 gy Yb Xb Xc o1 ho K
  go_wp2
  exact bodyPost_ret (v := .agg #[.slice (some ⟨w.heap.size + 3, 0, none⟩) n n, .int .i64 lost, .int .i64 all]) (by simp [results, Tryz.results245, go_sem, xc0, xc1, xc2]) rfl ⟨_, rfl, o2.out, L2.out⟩
theorem eqPair_same (w : World) (t z : Int) : Calls Tryz.prog 237 #[.agg #[.int .i64 t, .int .i64 z], .agg #[.int .i64 t, .int .i64 z]] w fun e w' => e = .returned (.bool true) ∧ Below w.heap.size w w' := by
  have e1 : (t != t) = false := by simp
  have e2 : (z != z) = false := by simp
  have e3 : decide (t = t) = true := by simp
  have e4 : decide (z = z) = true := by simp
  go_enter Tryz.func237, Tryz.ntmps237
  go_wp2
  go_ret
  exact ⟨rfl, ((Below.refl _ _).alloc (Nat.le_refl _) _).alloc (by simp) _⟩
theorem eqPairS_in (w : World) (x : Option Addr) (c : Nat) (y : Option Addr) (d n : Nat) (ps : List Pr) (hl : ps.length = n) (hp : Prs w (.slice x n c) ps) (hq : Prs w (.slice y n d) ps) (hn : n ≤ 1048576) :
    Calls Tryz.prog 191 #[.slice x n c, .slice y n d] w fun e w' => e = .returned (.bool true) ∧ Below w.heap.size w w' := by
  have PC := Lib.hid hp.cells
  have QC := Lib.hid hq.cells
  have HL := Lib.hid hl
  have e3 : ((n : Int) != (n : Int)) = false := by simp
  have e6 : decide ((n : Int) = (n : Int)) = true := by simp
  clear hp hq hl
  go_enter Tryz.func191, Tryz.ntmps191
  go_wp2
  go_loopw [5] (fun i wr => ∃ k : Nat, k ≤ n ∧ i = .int .i64 k ∧ Below w.heap.size w wr) (fun i _ => n - (intOf i).toNat)
  case atStart => exact ⟨0, Nat.zero_le _, rfl, Below.refl _ _⟩
  case round =>
    obtain ⟨k, hk, rfl, hb0⟩ := hrel
    have BB := Lib.hid hb0
    clear hb0
    by_cases hlt : k < n
    · obtain ⟨b, o, rfl, hb, h1, h2⟩ := PC.out k (by rw [HL.out]; exact hlt)
      obtain ⟨b', o', rfl, hb', h3, h4⟩ := QC.out k (by rw [HL.out]; exact hlt)
      rw [← BB.out.cell (p := ⟨b, o + k * 2, none⟩) hb] at h1
      rw [← BB.out.cell (p := ⟨b, o + k * 2 + 1, none⟩) hb] at h2
      rw [← BB.out.cell (p := ⟨b', o' + k * 2, none⟩) hb'] at h3
      rw [← BB.out.cell (p := ⟨b', o' + k * 2 + 1, none⟩) hb'] at h4
      generalize pr ps k = q at h1 h2 h3 h4
      obtain ⟨t, z⟩ := q
      have k0 : (0 : Int) ≤ (k : Int) := by omega
      have k1 : (k : Int) < (n : Int) := by omega
      have KE := Lib.hid (fun W => eqPair_same W t z)
      go_wp2
      go_region_with (first
        | (go_at_call 237; refine (KE.out _).mono ?_; rintro e w1 ⟨rfl, hb1⟩))
      all_goals
        have B1 := Lib.hid ((BB.out.trans (Below.drew (Below.refl _ _))).trans (hb1.mono BB.out.size))
        clear hb1
        go_wp2
        go_roundw
        case rel => exact ⟨k + 1, by omega, by go_num, B1.out⟩
        case measure => simp [intOf]; omega
    · obtain rfl : k = n := by omega
      go_wp2
      go_ret
      exact ⟨by first | rfl | simp, BB.out⟩
theorem eqPairS_same (w : World) (u v : Value) (ps : List Pr) (hp : Prs w u ps) (hq : Prs w v ps) (hn : ps.length ≤ 1048576) :
    Calls Tryz.prog 191 #[u, v] w fun e w' => e = .returned (.bool true) ∧ Below w.heap.size w w' := by
  obtain ⟨x, c, rfl, _, _⟩ := hp.form
  obtain ⟨y, d, rfl, _, _⟩ := hq.form
  exact eqPairS_in w x c y d _ ps rfl hp hq hn
theorem eqTop_same (w : World) (u v : Value) (ps : List Pr) (lost all : Int) (hp : Prs w u ps) (hq : Prs w v ps) (hn : ps.length ≤ 1048576) :
    Calls Tryz.prog 137 #[.agg #[u, .int .i64 lost, .int .i64 all], .agg #[v, .int .i64 lost, .int .i64 all]] w fun e w' => e = .returned (.bool true) ∧ Below w.heap.size w w' := by
  obtain ⟨W, hW⟩ : ∃ W, W = (w.alloc (.cells #[u, .int .i64 lost, .int .i64 all] 41)).alloc (.cells #[v, .int .i64 lost, .int .i64 all] 41) := ⟨_, rfl⟩
  have B0 : Below w.heap.size w W := by rw [hW]; exact ((Below.refl _ _).alloc (Nat.le_refl _) _).alloc (by simp) _
  have X : Box3 W w.heap.size 41 u (.int .i64 lost) (.int .i64 all) := by rw [hW]; exact (Box3.new w _ _ _ _).alloc _
  have Y : Box3 W (w.heap.size + 1) 41 v (.int .i64 lost) (.int .i64 all) := by rw [hW]; have := Box3.new (w.alloc (.cells #[u, .int .i64 lost, .int .i64 all] 41)) 41 v (.int .i64 lost) (.int .i64 all); rwa [World.size_alloc] at this
  have K := Lib.hid (eqPairS_same W u v ps (hp.below B0 (Nat.le_refl _)) (hq.below B0 (Nat.le_refl _)) hn)
  obtain ⟨x, c, rfl, _, _⟩ := hp.form
  obtain ⟨y, d, rfl, _, _⟩ := hq.form
  obtain ⟨n, hn'⟩ : ∃ n, n = ps.length := ⟨_, rfl⟩
  rw [← hn'] at K X Y hW ⊢
  have BB := Lib.hid B0
  have e1 : (lost != lost) = false := by simp
  have e2 : (all != all) = false := by simp
  have e4 : decide (lost = lost) = true := by simp
  have e5 : decide (all = all) = true := by simp
  clear hp hq hn' B0
  go_enter Tryz.func137, Tryz.ntmps137
  go_wp2_with fail
  rw [← hW]
  clear hW
  refine K.out.mono ?_
  rintro e w1 ⟨rfl, hb1⟩
  have X1 := X.later hb1
  have Y1 := Y.later hb1
  have x1 := X1.cell1
  have x2 := X1.cell2
  have y1 := Y1.cell1
  have y2 := Y1.cell2
  go_wp2
  go_ret
  exact ⟨by first | rfl | simp, BB.out.trans (hb1.mono BB.out.size)⟩
def mkP (k : Int) (n : Nat) : List Pr := (List.range n).map fun (i : Nat) => (k + 2 * (i : Int), k + 2 * (i : Int) + 1)
theorem mkP_len (k : Int) (n : Nat) : (mkP k n).length = n := by simp [mkP]
theorem mark_setP (k : Int) (ps : List Pr) (j : Nat) (hj : j < ps.length) :
    (mkP k j ++ ps.drop j).set j (k + 2 * (j : Int), k + 2 * (j : Int) + 1) = mkP k (j + 1) ++ ps.drop (j + 1) := by
  apply List.ext_getElem?
  intro i
  simp only [List.getElem?_set, List.length_append, mkP_len, List.length_drop]
  rcases Nat.lt_trichotomy i j with h | h | h
  · rw [if_neg (by omega), List.getElem?_append_left (by rw [mkP_len]; exact h), List.getElem?_append_left (by rw [mkP_len]; omega)]
    simp [mkP, h, show i < j + 1 by omega]
  · subst h
    rw [if_pos rfl, if_pos (by omega), List.getElem?_append_left (by rw [mkP_len]; omega)]
    simp [mkP]
  · rw [if_neg (by omega), List.getElem?_append_right (by rw [mkP_len]; omega), List.getElem?_append_right (by rw [mkP_len]; omega), mkP_len, mkP_len]
    simp only [List.getElem?_drop]
    rw [show j + (i - j) = i by omega, show j + 1 + (i - (j + 1)) = i by omega]
theorem markPairS_nil (w : World) (k : Int) : Calls Tryz.prog 130 #[.slice none 0 0, .int .i64 k] w fun e w' => e = .returned (.int .i64 k) ∧ w = w' := by
  go_enter Tryz.func130, Tryz.ntmps130
  go_wp2
  refine wp_loop_rounds 1 ?_
  rw [rounds_succ]
  go_wp2
  go_ret
  exact ⟨rfl, rfl⟩
theorem markPairS_in (w : World) (B g c n : Nat) (ps : List Pr) (k : Int) (hl : ps.length = n) (hn : n ≤ 100000000) (hk : 0 ≤ k) (hk' : k ≤ 1000000000000)
    (h : w.ownsRow B 213 2 (.slice (some ⟨g, 0, none⟩) n c) n (prs ps)) :
    Calls Tryz.prog 130 #[.slice (some ⟨g, 0, none⟩) n c, .int .i64 k] w fun e w' =>
      e = .returned (.int .i64 (k + 2 * (n : Int))) ∧ w'.ownsRow B 213 2 (.slice (some ⟨g, 0, none⟩) n c) n (prs (mkP k n)) ∧ w.grownBy w' (some g) := by
  have HL := Lib.hid hl
  have H := Lib.hid h
  clear hl h
  go_enter Tryz.func130, Tryz.ntmps130
  go_wp2
  go_loopw [1, 5] (fun q i wr => ∃ j : Nat, j ≤ n ∧ i = .int .i64 j ∧ q = .int .i64 (k + 2 * (j : Int)) ∧ wr.ownsRow B 213 2 (.slice (some ⟨g, 0, none⟩) n c) n (prs (mkP k j ++ ps.drop j)) ∧ w.grownBy wr (some g)) (fun _ i _ => n - (intOf i).toNat)
  case atStart => exact ⟨0, Nat.zero_le _, rfl, by go_num, by simpa [mkP] using H.out, grownBy_refl _ _⟩
  case round =>
    obtain ⟨j, hj, rfl, rfl, hown, hg⟩ := hrel
    have HO := Lib.hid hown
    have HG := Lib.hid hg
    clear hown hg
    by_cases hlt : j < n
    · have hl2 : (prs (mkP k j ++ ps.drop j)).length = n * 2 := by rw [prs_len]; simp [mkP_len, HL.out]; omega
      obtain ⟨x0, hc0⟩ : ∃ x, wr.cell? ⟨g, j * 2, none⟩ = some x := by
        rw [HO.out.cellAt (j * 2) (by omega)]
        exact ⟨_, List.getElem?_eq_getElem (by omega)⟩
      obtain ⟨x1, hc1⟩ : ∃ x, wr.cell? ⟨g, j * 2 + 1, none⟩ = some x := by
        rw [HO.out.cellAt (j * 2 + 1) (by omega)]
        exact ⟨_, List.getElem?_eq_getElem (by omega)⟩
      have hf0 := HO.out.frozenAt (j * 2)
      have hf1 := HO.out.frozenAt (j * 2 + 1)
      have s1 := HO.out.stored (j * 2) (.int .i64 (k + 2 * (j : Int)))
      have s2 := s1.1.stored (j * 2 + 1) (.int .i64 (k + 2 * (j : Int) + 1))
      rw [prs_set2 _ j _ _ (by simp [mkP_len, HL.out]; omega), mark_setP k ps j (by rw [HL.out]; exact hlt)] at s2
      have G := Lib.hid (grownBy_trans HG.out (grownBy_trans s1.2 s2.2))
      have HS := Lib.hid s2.1
      have j0 : (0 : Int) ≤ (j : Int) := by omega
      have jn : (j : Int) < (n : Int) := by omega
      clear s1 s2 hl2
      go_wp2
      go_roundw
      case rel => exact ⟨j + 1, by omega, by go_num, by rw [show ((j + 1 : Nat) : Int) = (j : Int) + 1 by omega]; congr 1; omega, HS.out, G.out⟩
      case measure => simp [intOf]; omega
    · obtain rfl : j = n := by omega
      go_wp2
      go_ret
      have h0 : ps.drop j = [] := List.drop_of_length_le (by rw [HL.out]; exact Nat.le_refl _)
      have ho := HO.out
      rw [h0, List.append_nil] at ho
      exact ⟨rfl, ho, HG.out⟩
theorem markPairS_own (w : World) (B : Nat) (v : Value) (ps : List Pr) (k : Int) (h : OwnP w B v ps) (hn : ps.length ≤ 100000000) (hk : 0 ≤ k) (hk' : k ≤ 1000000000000) :
    Calls Tryz.prog 130 #[v, .int .i64 k] w fun e w' => e = .returned (.int .i64 (k + 2 * (ps.length : Int))) ∧ OwnP w' B v (mkP k ps.length) ∧ w.grownBy w' v.ownBlock := by
  by_cases h0 : v = .slice none 0 0
  · subst h0
    have hz : ps = [] := by
      rcases h.2 with ⟨_, e⟩ | ⟨g, cap, cur, e, _⟩
      · exact List.eq_nil_of_length_eq_zero e
      · cases e
    subst hz
    exact (markPairS_nil w k).mono fun e w' ⟨he, hw⟩ => ⟨by rw [he]; simp, by subst hw; exact OwnP.nil _ _, by subst hw; exact grownBy_refl _ _⟩
  · rcases h.2 with ⟨e, _⟩ | ⟨g, cap, cur, e, hb, hh, hc, hm, hs, ht⟩
    · exact absurd e h0
    · subst e
      refine (markPairS_in w B g cap ps.length ps k rfl hn hk hk' h).mono fun e w' ⟨he, ho, hg⟩ => ⟨he, ?_, hg⟩
      unfold OwnP
      rw [mkP_len]
      exact ho
end Go.Proofs.YtcblbdpdbggkbaaGreat.T
set_option linter.unusedVariables false
namespace Go.Proofs.YtcblbdpdbggkbaaGreat.K
open Go.RowKit Go.ChangeShapes Go.WideShapes Go.ChangeAt Go.Deep Go.Joins
def ArgP (w : World) (v : Value) (ps : List Pr) : Prop :=
  (ps = [] ∧ ∃ x c, v = .slice x 0 c) ∨
  ∃ b o c, v = .slice (some ⟨b, o, none⟩) ps.length c ∧ 0 < ps.length ∧ ps.length ≤ maxLen ∧ b < w.heap.size ∧
    ∀ i, i < ps.length → w.cell? ⟨b, o + i * 2, none⟩ = some (.int .i64 (pr ps i).1) ∧ w.cell? ⟨b, o + i * 2 + 1, none⟩ = some (.int .i64 (pr ps i).2)
theorem ArgP.below {w w' : World} {v : Value} {ps : List Pr} (h : ArgP w v ps) {B : Nat} (hb : Below B w w') (hB : w.heap.size ≤ B) : ArgP w' v ps := by
  rcases h with h | ⟨b, o, c, e, h0, h1, h2, h3⟩
  · exact .inl h
  · exact .inr ⟨b, o, c, e, h0, h1, Nat.lt_of_lt_of_le h2 hb.size, fun i hi => by
      rw [hb.cell (p := ⟨b, o + i * 2, none⟩) (by show b < B; omega), hb.cell (p := ⟨b, o + i * 2 + 1, none⟩) (by show b < B; omega)]; exact h3 i hi⟩
theorem ArgP.form {w : World} {v : Value} {ps : List Pr} (h : ArgP w v ps) : ∃ x c, v = .slice x ps.length c := by
  rcases h with ⟨rfl, x, c, e⟩ | ⟨b, o, c, e, _⟩
  · exact ⟨x, c, e⟩
  · exact ⟨_, c, e⟩
theorem ArgP.len {w : World} {v : Value} {ps : List Pr} (h : ArgP w v ps) : ps.length ≤ maxLen := by
  rcases h with ⟨rfl, _⟩ | ⟨b, o, c, e, h0, h1, _⟩
  · exact Nat.zero_le _
  · exact h1
theorem ArgP.cells {w : World} {x : Option Addr} {n c : Nat} {ps : List Pr} (h : ArgP w (.slice x n c) ps) : ∀ i, i < ps.length → ∃ b o, x = some ⟨b, o, none⟩ ∧ b < w.heap.size ∧ w.cell? ⟨b, o + i * 2, none⟩ = some (.int .i64 (pr ps i).1) ∧ w.cell? ⟨b, o + i * 2 + 1, none⟩ = some (.int .i64 (pr ps i).2) := fun i hi => by
  rcases h with ⟨rfl, _⟩ | ⟨b, o, c, e, h0, h1, h2, h3⟩
  · cases hi
  · exact ⟨b, o, (Value.slice.inj e).1, h2, h3 i hi⟩
def szV (left : Int) (n : Nat) : Int := if left < n then -1 else left - n
theorem szV_in {left : Int} {n : Nat} (h : (n : Int) ≤ left) : szV left n = left - n := if_neg (by omega)
theorem szV_out {left : Int} {n : Nat} (h : left < n) : szV left n = -1 := if_pos h
theorem open_pairs {H : Type} {enc : TypeId × Value → H} {w : World} {fuel : Nat} {u : Value} {y : DataW H × List MemPlace} (h : DataW.trod enc Tryz.prog w 0 (fun _ => true) true fuel 177 [u] = some y) : ∃ ps, ArgP w u ps := by
  have hC : Tryz.prog.cellsOf 320 = 2 := by kernel_rfl
  have hC0 : Tryz.prog.cellsOf 3 = 1 := by kernel_rfl
  rcases open_slice Tryz.underlying177 h with ⟨e, _⟩ | ⟨a, len, cap, m, n, D, Pl, e, _, hl, hm, hmm, _, hi⟩
  · simp at e
    exact ⟨[], .inl ⟨rfl, _, _, e⟩⟩
  · simp at e
    simp only [if_true] at hmm
    subst e
    rw [hC] at hi
    have key : ∀ i, i < len → ∃ p : Pr, w.cell? (a.add (i * 2)) = some (.int .i64 p.1) ∧ w.cell? (a.add (i * 2 + 1)) = some (.int .i64 p.2) := fun i hlt => by
      obtain ⟨cs, hc, ht⟩ := hi i (by omega)
      obtain ⟨y0, y1, k, _, hlen, h0, h1⟩ := trod_struct2 Tryz.underlying320 ht
      obtain ⟨_, hcl, hat⟩ := World.cells?_some hc
      obtain ⟨l0, l1, rfl⟩ : ∃ l0 l1, cs = [l0, l1] := by
        match cs, hcl with
        | [l0, l1], _ => exact ⟨l0, l1, rfl⟩
      simp [hC0] at h0 h1
      obtain ⟨t, e0, _⟩ := DataW.trod_int Tryz.underlying3 h0
      obtain ⟨z, e1, _⟩ := DataW.trod_int Tryz.underlying3 h1
      simp at e0 e1
      have a0 := hat 0 (by omega)
      have a1 := hat 1 (by omega)
      rw [Go.Deep.add_add] at a0 a1
      exact ⟨(t, z), by simpa [e0] using a0, by simpa [e1] using a1⟩
    by_cases h0 : len = 0
    · subst h0
      exact ⟨[], .inl ⟨rfl, _, _, rfl⟩⟩
    obtain ⟨b, o, sp⟩ := a
    have f : ∀ i, ∃ p : Pr, i < len → w.cell? ((⟨b, o, sp⟩ : Addr).add (i * 2)) = some (.int .i64 p.1) ∧ w.cell? ((⟨b, o, sp⟩ : Addr).add (i * 2 + 1)) = some (.int .i64 p.2) := fun i => by
      by_cases hlt : i < len
      · obtain ⟨p, hp⟩ := key i hlt
        exact ⟨p, fun _ => hp⟩
      · exact ⟨(0, 0), fun hc => absurd hc hlt⟩
    have f' : ∃ F : Nat → Pr, ∀ i, i < len → w.cell? ((⟨b, o, sp⟩ : Addr).add (i * 2)) = some (.int .i64 (F i).1) ∧ w.cell? ((⟨b, o, sp⟩ : Addr).add (i * 2 + 1)) = some (.int .i64 (F i).2) := ⟨fun i => Classical.choose (f i), fun i => Classical.choose_spec (f i)⟩
    obtain ⟨F, hF⟩ := f'
    have c0 := (hF 0 (by omega)).1
    have hs : sp = none := by simpa [Addr.add] using World.cell?_spot c0
    subst hs
    have e : ((List.range len).map F).length = len := by simp
    refine ⟨(List.range len).map F, .inr ⟨b, o, cap, by rw [e], by omega, by omega, by simpa [Addr.add] using World.block_lt_of_cell? _ _ c0, fun i hi => ?_⟩⟩
    rw [e] at hi
    have eg : pr ((List.range len).map F) i = F i := by simp [pr, hi]
    rw [eg]
    have := hF i hi
    rw [addr_plus, addr_plus, ← Nat.add_assoc] at this
    exact this
theorem szKnotS_at (w : World) (v : Value) (ps : List Pr) (left : Int) (h : ArgP w v ps) (h0 : 0 ≤ left) (h1 : left ≤ 1048576) :
    Calls Tryz.prog 281 #[v, .int .i64 left] w fun e w' => e = .returned (.int .i64 (szV left ps.length)) ∧ w = w' := by
  obtain ⟨x, c, hx⟩ := h.form
  have hl := h.len
  obtain ⟨n, hn⟩ : ∃ n, n = ps.length := ⟨_, rfl⟩
  rw [← hn] at hx hl ⊢
  subst hx
  unfold maxLen at hl
  clear h hn
  by_cases hle : left < n
  · rw [szV_out hle]
    have h2 : left - (n : Int) < 0 := by omega
    go_enter Tryz.func281, Tryz.ntmps281
    go_wp2
    go_ret
    exact ⟨rfl, rfl⟩
  · rw [szV_in (by omega)]
    have h2 : ¬ left - (n : Int) < 0 := by omega
    go_enter Tryz.func281, Tryz.ntmps281
    go_wp2
    go_ret
    exact ⟨rfl, rfl⟩
theorem szRank_at (w : World) (u : Value) (ps : List Pr) (all left : Int) (h : ArgP w u ps) (h0 : 0 ≤ left) (h1 : left ≤ 1048576) :
    Calls Tryz.prog 242 #[.agg #[u, .int .i64 all], .int .i64 left] w fun e w' => e = .returned (.int .i64 (szV left ps.length)) ∧ Below w.heap.size w w' := by
  have hA := (Below.refl w.heap.size w).alloc (Nat.le_refl _) (.cells #[u, .int .i64 all] 179)
  have K := Lib.hid (szKnotS_at _ u ps left (h.below hA (Nat.le_refl _)) h0 h1)
  have HA := Lib.hid hA
  obtain ⟨x, c, hx⟩ := h.form
  obtain ⟨n, hn⟩ : ∃ n, n = ps.length := ⟨_, rfl⟩
  rw [← hn] at hx K ⊢
  subst hx
  clear h hn hA
  by_cases hle : left < n
  · rw [szV_out hle] at K ⊢
    go_enter Tryz.func242, Tryz.ntmps242
    go_wp2_with fail
    refine K.out.mono ?_
    rintro e w1 ⟨rfl, rfl⟩
    go_wp2
    go_ret
    exact ⟨rfl, HA.out⟩
  · rw [szV_in (by omega)] at K ⊢
    have h2 : ¬ left - (n : Int) < 0 := by omega
    go_enter Tryz.func242, Tryz.ntmps242
    go_wp2_with fail
    refine K.out.mono ?_
    rintro e w1 ⟨rfl, rfl⟩
    go_wp2
    go_ret
    exact ⟨rfl, HA.out⟩
end Go.Proofs.YtcblbdpdbggkbaaGreat.K
namespace Go.Proofs.YtcblbdpdbggkbaaGreat.K
open Go.RowKit Go.Sort
theorem prs_zero (n : Nat) : prs (List.replicate n (0, 0)) = List.replicate (n * 2) (.int .i64 0) := by
  induction n with
  | zero => rfl
  | succ n ih => rw [List.replicate_succ, prs_cons, ih, show (n + 1) * 2 = n * 2 + 1 + 1 by omega, List.replicate_succ, List.replicate_succ]
theorem made_pairs (n : Nat) : (madeCells #[.int .i64 0, .int .i64 0] (n * 2)).toList = prs (List.replicate n (0, 0)) := by
  rw [prs_zero]
  apply List.ext_getElem?
  intro j
  by_cases hj : j < n * 2
  · have h2 : j % 2 = 0 ∨ j % 2 = 1 := by omega
    rcases h2 with h | h <;> simp [madeCells, hj, h]
  · simp [madeCells, hj]
theorem pair_make (n : Nat) (hn : n ≤ 1048576) : ∀ w, (Instr.makeSlice 42 (.int .i64 (n : Int)) (.int .i64 (n : Int))).run Tryz.prog w = .ok (.slice (some ⟨w.heap.size, 0, none⟩) n n) (w.alloc (.cells (madeCells #[.int .i64 0, .int .i64 0] (n * 2)) 152)) := fun w => by
  obtain ⟨i0, hi, hz0, hz1, hz2⟩ := info_parts pair_info
  have h := run_make (P := Tryz.prog) w 42 152 i0 (.agg #[.int .i64 0, .int .i64 0]) Tryz.underlying42 hi hz0 .i64 .i64 n n (by omega) (Int.le_refl _) (by rw [hz2]; omega) (by omega)
  simp only [Int.toNat_natCast, hz1] at h
  exact h
theorem prs_set2 (ps : List Pr) (k : Nat) (t z : Int) (h : k < ps.length) : ((prs ps).set (k * 2) (.int .i64 t)).set (k * 2 + 1) (.int .i64 z) = prs (ps.set k (t, z)) := by
  induction ps generalizing k with
  | nil => cases h
  | cons p ps ih =>
    cases k with
    | zero => rfl
    | succ k =>
      have := ih k (by simpa using h)
      rw [List.set_cons_succ, prs_cons, prs_cons, ← this, show (k + 1) * 2 = k * 2 + 1 + 1 by omega]
      simp
theorem toKnot_at (w : World) (t z : Int) : Calls Tryz.prog 300 #[.agg #[.int .i64 t, .int .i64 z]] w fun e w' => e = .returned (.agg #[.int .i64 t, .int .i64 z]) ∧ Below w.heap.size w w' := by
  go_enter Tryz.func300, Tryz.ntmps300
  go_wp2
  refine bodyPost_ret (v := .agg #[.int .i64 t, .int .i64 z]) (by simp [results, Tryz.results300, go_sem]) rfl ⟨rfl, ?_⟩
  exact (((Below.refl _ _).alloc (Nat.le_refl _) _).alloc (by simp) _).alloc (by simp; omega) _
theorem toKnotS_at (w : World) (v : Value) (ps : List Pr) (h : ArgP w v ps) (hn : ps.length ≤ 1048576) :
    Calls Tryz.prog 283 #[v] w fun e w' => e = .returned (.slice (some ⟨w.heap.size, 0, none⟩) ps.length ps.length) ∧ OwnP w' w.heap.size (.slice (some ⟨w.heap.size, 0, none⟩) ps.length ps.length) ps ∧ Below w.heap.size w w' := by
  obtain ⟨x, c, hx⟩ := h.form
  obtain ⟨n, hn'⟩ : ∃ n, n = ps.length := ⟨_, rfl⟩
  have HZ : Hid (∀ i, i < n → ∃ b o, x = some ⟨b, o, none⟩ ∧ b < w.heap.size ∧ w.cell? ⟨b, o + i * 2, none⟩ = some (.int .i64 (pr ps i).1) ∧ w.cell? ⟨b, o + i * 2 + 1, none⟩ = some (.int .i64 (pr ps i).2)) := fun i hi => by
    rw [hx] at h
    exact h.cells i (by rw [← hn']; exact hi)
  have HN := Lib.hid hn'
  rw [← hn'] at hx hn ⊢
  have hmk := pair_make n hn
  have own0 : OwnP (w.alloc (.cells (madeCells #[.int .i64 0, .int .i64 0] (n * 2)) 152)) w.heap.size (.slice (some ⟨w.heap.size, 0, none⟩) n n) (List.replicate n (0, 0)) := by
    have := World.ownsRow_lit (base := w.heap.size) (e := 152) (size := 2) w (madeCells #[.int .i64 0, .int .i64 0] (n * 2)) n (Nat.le_refl _) (by unfold maxLen; omega) (by rw [size_madeCells])
    rw [made_pairs] at this
    unfold OwnP
    rw [List.length_replicate]
    exact this
  have O0 := Lib.hid own0
  subst hx
  clear h hn' own0
  go_enter Tryz.func283, Tryz.ntmps283
  go_wp2
  go_loopw [4] (fun i wr => ∃ (k : Nat) (ys : List Pr), k ≤ n ∧ i = .int .i64 k ∧ ys.length = n ∧ (∀ i, i < k → pr ys i = pr ps i) ∧ OwnP wr w.heap.size (.slice (some ⟨w.heap.size, 0, none⟩) n n) ys ∧ Below w.heap.size w wr) (fun i _ => n - (intOf i).toNat)
  case atStart => exact ⟨0, List.replicate n (0, 0), Nat.zero_le _, rfl, by simp, fun _ h => absurd h (Nat.not_lt_zero _), O0.out, (Below.refl _ _).alloc (Nat.le_refl _) _⟩
  case round =>
    obtain ⟨k, ys, hk, rfl, hy, hys, hown, hbl⟩ := hrel
    have HY := Lib.hid hy
    have HYS := Lib.hid hys
    have HB := Lib.hid hbl
    have HO := Lib.hid hown
    clear hy hys hbl hown
    by_cases hlt : k < n
    · obtain ⟨b, o, rfl, hb, h1, h2⟩ := HZ.out k hlt
      rw [← HB.out.cell (p := ⟨b, o + k * 2, none⟩) hb] at h1
      rw [← HB.out.cell (p := ⟨b, o + k * 2 + 1, none⟩) hb] at h2
      obtain ⟨y, hyk⟩ : ∃ y, pr ps k = y := ⟨_, rfl⟩
      rw [hyk] at h1 h2
      have HK := Lib.hid hyk
      obtain ⟨t, z⟩ := y
      simp only at h1 h2
      have k0 : (0 : Int) ≤ (k : Int) := by omega
      have kn : (k : Int) < (n : Int) := by omega
      clear hyk
      go_wp2_with fail
      refine (toKnot_at wr t z).mono ?_
      rintro e w1 ⟨rfl, hb1⟩
      have ho : w1.ownsRow w.heap.size 152 2 (.slice (some ⟨w.heap.size, 0, none⟩) n n) n (prs ys) := by have h := HO.out.below hb1; unfold OwnP at h; rw [HY.out] at h; exact h
      have hl := prs_len ys
      rw [HY.out] at hl
      obtain ⟨u0, hc0⟩ : ∃ u, w1.cell? ⟨w.heap.size, k * 2, none⟩ = some u := by
        rw [ho.cellAt (k * 2) (by omega)]
        exact ⟨_, List.getElem?_eq_getElem (by omega)⟩
      obtain ⟨u1, hc1⟩ : ∃ u, w1.cell? ⟨w.heap.size, k * 2 + 1, none⟩ = some u := by
        rw [ho.cellAt (k * 2 + 1) (by omega)]
        exact ⟨_, List.getElem?_eq_getElem (by omega)⟩
      have hf0 := ho.frozenAt (k * 2)
      have hf1 := ho.frozenAt (k * 2 + 1)
      have hs := ((ho.stored (k * 2) (.int .i64 t)).1.stored (k * 2 + 1) (.int .i64 z)).1
      rw [prs_set2 ys k t z (by rw [HY.out]; exact hlt)] at hs
      have HS := Lib.hid hs
      have B1 := Lib.hid (HB.out.trans (hb1.mono HB.out.size))
      clear hs ho hl hb1 h1 h2
      go_wp2
      go_roundw
      case rel =>
        refine ⟨k + 1, ys.set k (t, z), by omega, by go_num, by simpa using HY.out, fun i hi => ?_, ?_, (B1.out.setCell (Nat.le_refl _) _).setCell (Nat.le_refl _) _⟩
        · by_cases e : i = k
          · subst e
            rw [HK.out]
            simp [pr, HY.out, hlt]
          · have e1 : pr (ys.set k (t, z)) i = pr ys i := by simp [pr, Ne.symm e]
            rw [e1]; exact HYS.out i (by omega)
        · unfold OwnP
          rw [List.length_set, HY.out]
          exact HS.out
      case measure => simp [intOf]; omega
    · obtain rfl : k = n := by omega
      have fin0 : ys = ps := by
        apply List.ext_getElem (by rw [HY.out, HN.out])
        intro i h1 h2
        have := HYS.out i (by rw [← HY.out]; exact h1)
        simpa [pr, h1, h2] using this
      have fin := Lib.hid fin0
      clear fin0
      go_wp2
      go_ret
      refine ⟨rfl, ?_, HB.out⟩
      rw [← fin.out]
      exact HO.out
theorem toRank_at (w : World) (u : Value) (ps : List Pr) (all : Int) (h : ArgP w u ps) (hn : ps.length ≤ 1048576) :
    Calls Tryz.prog 246 #[.agg #[u, .int .i64 all]] w fun e w' => ∃ g, e = .returned (.agg #[.slice (some ⟨g, 0, none⟩) ps.length ps.length, .int .i64 all]) ∧ OwnP w' w.heap.size (.slice (some ⟨g, 0, none⟩) ps.length ps.length) ps ∧ Below w.heap.size w w' := by
  obtain ⟨W, hW⟩ : ∃ W, W = ((w.alloc (.cells #[u, .int .i64 all] 179)).alloc (.cells #[.slice none 0 0, .int .i64 0] 44)).alloc (.cells #[.slice none 0 0, .int .i64 0] 44) := ⟨_, rfl⟩
  have hA : Below w.heap.size w W := by rw [hW]; exact (((Below.refl _ _).alloc (Nat.le_refl _) _).alloc (by simp) _).alloc (by simp; omega) _
  have sW : W.heap.size = w.heap.size + 3 := by rw [hW]; simp
  have A : Box2 W w.heap.size 179 u (.int .i64 all) := by rw [hW]; exact ((Box2.new w _ _ _).alloc _).alloc _
  have X : Box2 W (w.heap.size + 1) 44 (.slice none 0 0) (.int .i64 0) := by
    rw [hW]
    have := Box2.new (w.alloc (.cells #[u, .int .i64 all] 179)) 44 (.slice none 0 0) (.int .i64 0)
    rw [World.size_alloc] at this
    exact this.alloc _
  have Y : Box2 W (w.heap.size + 1 + 1) 44 (.slice none 0 0) (.int .i64 0) := by
    rw [hW]
    have := Box2.new ((w.alloc (.cells #[u, .int .i64 all] 179)).alloc (.cells #[.slice none 0 0, .int .i64 0] 44)) 44 (.slice none 0 0) (.int .i64 0)
    rw [World.size_alloc, World.size_alloc] at this
    exact this
  have K := Lib.hid (toKnotS_at W u ps (h.below hA (Nat.le_refl _)) hn)
  obtain ⟨x, c, hx⟩ := h.form
  obtain ⟨n, hn'⟩ : ∃ n, n = ps.length := ⟨_, rfl⟩
  rw [← hn'] at hx K hn ⊢
  subst hx
  have HA := Lib.hid hA
  have HS := Lib.hid sW
  clear h hn' hA sW
  go_enter Tryz.func246, Tryz.ntmps246
  go_wp2_with fail
  rw [← hW]
  clear hW
  refine K.out.mono ?_
  rintro e w1 ⟨rfl, ho, hb1⟩
  have A1 := A.later hb1
  have X1 := X.later hb1
  have Y1 := Y.later hb1
  have L1 := Lib.hid (HA.out.trans (hb1.mono HA.out.size))
  rw [HS.out] at ho ⊢
  clear hb1 A X Y
  -- the copy, filled field by field
  have gy := (grownBy_setCell w1 ⟨w.heap.size + 1 + 1, 0, none⟩ (.slice (some ⟨w.heap.size + 3, 0, none⟩) n n)).trans (grownBy_setCell _ ⟨w.heap.size + 1 + 1, 1, none⟩ (.int .i64 all))
  have Yb := Y1.set (.slice (some ⟨w.heap.size + 3, 0, none⟩) n n) (.int .i64 all)
  have Xb := X1.kept gy (by simp)
  have o1 := ho.set2 (b := w.heap.size + 1 + 1) (Y1.not_row (by decide) ho) (.slice (some ⟨w.heap.size + 3, 0, none⟩) n n) (.int .i64 all)
  have o2 := Lib.hid ((o1.set2 (b := w.heap.size + 1) (Xb.not_row (by decide) o1) (.slice (some ⟨w.heap.size + 3, 0, none⟩) n n) (.int .i64 all)).base (B' := w.heap.size) (by omega))
  have L2 := Lib.hid (below_set2 (b := w.heap.size + 1) (below_set2 (b := w.heap.size + 1 + 1) L1.out (by omega) (.slice (some ⟨w.heap.size + 3, 0, none⟩) n n) (.int .i64 all)) (by omega) (.slice (some ⟨w.heap.size + 3, 0, none⟩) n n) (.int .i64 all))
  have Xc := Xb.set (.slice (some ⟨w.heap.size + 3, 0, none⟩) n n) (.int .i64 all)
  have a0 := A1.cell0
  have a1 := A1.cell1
  have y0 := Y1.cell0
  have y1 := Y1.cell1
  have yf := Y1.free
  have yb0 := Yb.cell0
  have yb1 := Yb.cell1
  have xb0 := Xb.cell0
  have xb1 := Xb.cell1
  have xbf := Xb.free
  have xc0 := Xc.cell0
  have xc1 := Xc.cell1
  clear A1 X1 Y1 gy Yb Xb Xc o1 ho K
  go_wp2
  exact bodyPost_ret (v := .agg #[.slice (some ⟨w.heap.size + 3, 0, none⟩) n n, .int .i64 all]) (by simp [results, Tryz.results246, go_sem, xc0, xc1]) rfl ⟨_, rfl, o2.out, L2.out⟩
theorem eqKnot_same (w : World) (t z : Int) : Calls Tryz.prog 238 #[.agg #[.int .i64 t, .int .i64 z], .agg #[.int .i64 t, .int .i64 z]] w fun e w' => e = .returned (.bool true) ∧ Below w.heap.size w w' := by
  have e1 : (t != t) = false := by simp
  have e2 : (z != z) = false := by simp
  have e3 : decide (t = t) = true := by simp
  have e4 : decide (z = z) = true := by simp
  go_enter Tryz.func238, Tryz.ntmps238
  go_wp2
  go_ret
  exact ⟨rfl, ((Below.refl _ _).alloc (Nat.le_refl _) _).alloc (by simp) _⟩
theorem eqKnotS_in (w : World) (x : Option Addr) (c : Nat) (y : Option Addr) (d n : Nat) (ps : List Pr) (hl : ps.length = n) (hp : Prs w (.slice x n c) ps) (hq : Prs w (.slice y n d) ps) (hn : n ≤ 1048576) :
    Calls Tryz.prog 192 #[.slice x n c, .slice y n d] w fun e w' => e = .returned (.bool true) ∧ Below w.heap.size w w' := by
  have PC := Lib.hid hp.cells
  have QC := Lib.hid hq.cells
  have HL := Lib.hid hl
  have e3 : ((n : Int) != (n : Int)) = false := by simp
  have e6 : decide ((n : Int) = (n : Int)) = true := by simp
  clear hp hq hl
  go_enter Tryz.func192, Tryz.ntmps192
  go_wp2
  go_loopw [5] (fun i wr => ∃ k : Nat, k ≤ n ∧ i = .int .i64 k ∧ Below w.heap.size w wr) (fun i _ => n - (intOf i).toNat)
  case atStart => exact ⟨0, Nat.zero_le _, rfl, Below.refl _ _⟩
  case round =>
    obtain ⟨k, hk, rfl, hb0⟩ := hrel
    have BB := Lib.hid hb0
    clear hb0
    by_cases hlt : k < n
    · obtain ⟨b, o, rfl, hb, h1, h2⟩ := PC.out k (by rw [HL.out]; exact hlt)
      obtain ⟨b', o', rfl, hb', h3, h4⟩ := QC.out k (by rw [HL.out]; exact hlt)
      rw [← BB.out.cell (p := ⟨b, o + k * 2, none⟩) hb] at h1
      rw [← BB.out.cell (p := ⟨b, o + k * 2 + 1, none⟩) hb] at h2
      rw [← BB.out.cell (p := ⟨b', o' + k * 2, none⟩) hb'] at h3
      rw [← BB.out.cell (p := ⟨b', o' + k * 2 + 1, none⟩) hb'] at h4
      generalize pr ps k = q at h1 h2 h3 h4
      obtain ⟨t, z⟩ := q
      have k0 : (0 : Int) ≤ (k : Int) := by omega
      have k1 : (k : Int) < (n : Int) := by omega
      have KE := Lib.hid (fun W => eqKnot_same W t z)
      go_wp2
      go_region_with (first
        | (go_at_call 238; refine (KE.out _).mono ?_; rintro e w1 ⟨rfl, hb1⟩))
      all_goals
        have B1 := Lib.hid ((BB.out.trans (Below.drew (Below.refl _ _))).trans (hb1.mono BB.out.size))
        clear hb1
        go_wp2
        go_roundw
        case rel => exact ⟨k + 1, by omega, by go_num, B1.out⟩
        case measure => simp [intOf]; omega
    · obtain rfl : k = n := by omega
      go_wp2
      go_ret
      exact ⟨by first | rfl | simp, BB.out⟩
theorem eqKnotS_same (w : World) (u v : Value) (ps : List Pr) (hp : Prs w u ps) (hq : Prs w v ps) (hn : ps.length ≤ 1048576) :
    Calls Tryz.prog 192 #[u, v] w fun e w' => e = .returned (.bool true) ∧ Below w.heap.size w w' := by
  obtain ⟨x, c, rfl, _, _⟩ := hp.form
  obtain ⟨y, d, rfl, _, _⟩ := hq.form
  exact eqKnotS_in w x c y d _ ps rfl hp hq hn
theorem eqRank_same (w : World) (u v : Value) (ps : List Pr) (all : Int) (hp : Prs w u ps) (hq : Prs w v ps) (hn : ps.length ≤ 1048576) :
    Calls Tryz.prog 138 #[.agg #[u, .int .i64 all], .agg #[v, .int .i64 all]] w fun e w' => e = .returned (.bool true) ∧ Below w.heap.size w w' := by
  obtain ⟨W, hW⟩ : ∃ W, W = (w.alloc (.cells #[u, .int .i64 all] 44)).alloc (.cells #[v, .int .i64 all] 44) := ⟨_, rfl⟩
  have B0 : Below w.heap.size w W := by rw [hW]; exact ((Below.refl _ _).alloc (Nat.le_refl _) _).alloc (by simp) _
  have X : Box2 W w.heap.size 44 u (.int .i64 all) := by rw [hW]; exact (Box2.new w _ _ _).alloc _
  have Y : Box2 W (w.heap.size + 1) 44 v (.int .i64 all) := by rw [hW]; have := Box2.new (w.alloc (.cells #[u, .int .i64 all] 44)) 44 v (.int .i64 all); rwa [World.size_alloc] at this
  have K := Lib.hid (eqKnotS_same W u v ps (hp.below B0 (Nat.le_refl _)) (hq.below B0 (Nat.le_refl _)) hn)
  obtain ⟨x, c, rfl, _, _⟩ := hp.form
  obtain ⟨y, d, rfl, _, _⟩ := hq.form
  obtain ⟨n, hn'⟩ : ∃ n, n = ps.length := ⟨_, rfl⟩
  rw [← hn'] at K X Y hW ⊢
  have BB := Lib.hid B0
  have e2 : (all != all) = false := by simp
  have e5 : decide (all = all) = true := by simp
  clear hp hq hn' B0
  go_enter Tryz.func138, Tryz.ntmps138
  go_wp2_with fail
  rw [← hW]
  clear hW
  refine K.out.mono ?_
  rintro e w1 ⟨rfl, hb1⟩
  have X1 := X.later hb1
  have Y1 := Y.later hb1
  have x1 := X1.cell1
  have y1 := Y1.cell1
  go_wp2
  go_ret
  exact ⟨by first | rfl | simp, BB.out.trans (hb1.mono BB.out.size)⟩
def mkP (k : Int) (n : Nat) : List Pr := (List.range n).map fun (i : Nat) => (k + 2 * (i : Int), k + 2 * (i : Int) + 1)
theorem mkP_len (k : Int) (n : Nat) : (mkP k n).length = n := by simp [mkP]
theorem mark_setP (k : Int) (ps : List Pr) (j : Nat) (hj : j < ps.length) :
    (mkP k j ++ ps.drop j).set j (k + 2 * (j : Int), k + 2 * (j : Int) + 1) = mkP k (j + 1) ++ ps.drop (j + 1) := by
  apply List.ext_getElem?
  intro i
  simp only [List.getElem?_set, List.length_append, mkP_len, List.length_drop]
  rcases Nat.lt_trichotomy i j with h | h | h
  · rw [if_neg (by omega), List.getElem?_append_left (by rw [mkP_len]; exact h), List.getElem?_append_left (by rw [mkP_len]; omega)]
    simp [mkP, h, show i < j + 1 by omega]
  · subst h
    rw [if_pos rfl, if_pos (by omega), List.getElem?_append_left (by rw [mkP_len]; omega)]
    simp [mkP]
  · rw [if_neg (by omega), List.getElem?_append_right (by rw [mkP_len]; omega), List.getElem?_append_right (by rw [mkP_len]; omega), mkP_len, mkP_len]
    simp only [List.getElem?_drop]
    rw [show j + (i - j) = i by omega, show j + 1 + (i - (j + 1)) = i by omega]
theorem markKnotS_nil (w : World) (k : Int) : Calls Tryz.prog 131 #[.slice none 0 0, .int .i64 k] w fun e w' => e = .returned (.int .i64 k) ∧ w = w' := by
  go_enter Tryz.func131, Tryz.ntmps131
  go_wp2
  refine wp_loop_rounds 1 ?_
  rw [rounds_succ]
  go_wp2
  go_ret
  exact ⟨rfl, rfl⟩
theorem markKnotS_in (w : World) (B g c n : Nat) (ps : List Pr) (k : Int) (hl : ps.length = n) (hn : n ≤ 100000000) (hk : 0 ≤ k) (hk' : k ≤ 1000000000000)
    (h : w.ownsRow B 152 2 (.slice (some ⟨g, 0, none⟩) n c) n (prs ps)) :
    Calls Tryz.prog 131 #[.slice (some ⟨g, 0, none⟩) n c, .int .i64 k] w fun e w' =>
      e = .returned (.int .i64 (k + 2 * (n : Int))) ∧ w'.ownsRow B 152 2 (.slice (some ⟨g, 0, none⟩) n c) n (prs (mkP k n)) ∧ w.grownBy w' (some g) := by
  have HL := Lib.hid hl
  have H := Lib.hid h
  clear hl h
  go_enter Tryz.func131, Tryz.ntmps131
  go_wp2
  go_loopw [1, 5] (fun q i wr => ∃ j : Nat, j ≤ n ∧ i = .int .i64 j ∧ q = .int .i64 (k + 2 * (j : Int)) ∧ wr.ownsRow B 152 2 (.slice (some ⟨g, 0, none⟩) n c) n (prs (mkP k j ++ ps.drop j)) ∧ w.grownBy wr (some g)) (fun _ i _ => n - (intOf i).toNat)
  case atStart => exact ⟨0, Nat.zero_le _, rfl, by go_num, by simpa [mkP] using H.out, grownBy_refl _ _⟩
  case round =>
    obtain ⟨j, hj, rfl, rfl, hown, hg⟩ := hrel
    have HO := Lib.hid hown
    have HG := Lib.hid hg
    clear hown hg
    by_cases hlt : j < n
    · have hl2 : (prs (mkP k j ++ ps.drop j)).length = n * 2 := by rw [prs_len]; simp [mkP_len, HL.out]; omega
      obtain ⟨x0, hc0⟩ : ∃ x, wr.cell? ⟨g, j * 2, none⟩ = some x := by
        rw [HO.out.cellAt (j * 2) (by omega)]
        exact ⟨_, List.getElem?_eq_getElem (by omega)⟩
      obtain ⟨x1, hc1⟩ : ∃ x, wr.cell? ⟨g, j * 2 + 1, none⟩ = some x := by
        rw [HO.out.cellAt (j * 2 + 1) (by omega)]
        exact ⟨_, List.getElem?_eq_getElem (by omega)⟩
      have hf0 := HO.out.frozenAt (j * 2)
      have hf1 := HO.out.frozenAt (j * 2 + 1)
      have s1 := HO.out.stored (j * 2) (.int .i64 (k + 2 * (j : Int)))
      have s2 := s1.1.stored (j * 2 + 1) (.int .i64 (k + 2 * (j : Int) + 1))
      rw [prs_set2 _ j _ _ (by simp [mkP_len, HL.out]; omega), mark_setP k ps j (by rw [HL.out]; exact hlt)] at s2
      have G := Lib.hid (grownBy_trans HG.out (grownBy_trans s1.2 s2.2))
      have HS := Lib.hid s2.1
      have j0 : (0 : Int) ≤ (j : Int) := by omega
      have jn : (j : Int) < (n : Int) := by omega
      clear s1 s2 hl2
      go_wp2
      go_roundw
      case rel => exact ⟨j + 1, by omega, by go_num, by rw [show ((j + 1 : Nat) : Int) = (j : Int) + 1 by omega]; congr 1; omega, HS.out, G.out⟩
      case measure => simp [intOf]; omega
    · obtain rfl : j = n := by omega
      go_wp2
      go_ret
      have h0 : ps.drop j = [] := List.drop_of_length_le (by rw [HL.out]; exact Nat.le_refl _)
      have ho := HO.out
      rw [h0, List.append_nil] at ho
      exact ⟨rfl, ho, HG.out⟩
theorem markKnotS_own (w : World) (B : Nat) (v : Value) (ps : List Pr) (k : Int) (h : OwnP w B v ps) (hn : ps.length ≤ 100000000) (hk : 0 ≤ k) (hk' : k ≤ 1000000000000) :
    Calls Tryz.prog 131 #[v, .int .i64 k] w fun e w' => e = .returned (.int .i64 (k + 2 * (ps.length : Int))) ∧ OwnP w' B v (mkP k ps.length) ∧ w.grownBy w' v.ownBlock := by
  by_cases h0 : v = .slice none 0 0
  · subst h0
    have hz : ps = [] := by
      rcases h.2 with ⟨_, e⟩ | ⟨g, cap, cur, e, _⟩
      · exact List.eq_nil_of_length_eq_zero e
      · cases e
    subst hz
    exact (markKnotS_nil w k).mono fun e w' ⟨he, hw⟩ => ⟨by rw [he]; simp, by subst hw; exact OwnP.nil _ _, by subst hw; exact grownBy_refl _ _⟩
  · rcases h.2 with ⟨e, _⟩ | ⟨g, cap, cur, e, hb, hh, hc, hm, hs, ht⟩
    · exact absurd e h0
    · subst e
      refine (markKnotS_in w B g cap ps.length ps k rfl hn hk hk' h).mono fun e w' ⟨he, ho, hg⟩ => ⟨he, ?_, hg⟩
      unfold OwnP
      rw [mkP_len]
      exact ho
end Go.Proofs.YtcblbdpdbggkbaaGreat.K
