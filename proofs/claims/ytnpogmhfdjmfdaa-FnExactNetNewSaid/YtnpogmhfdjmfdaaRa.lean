/-
  Several texts in one: Eq, SpOk, New, ImNew, ImAll, Get, Mark.
-/
import Derived.Test.YtnpogmhfdjmfdaaBa
import Derived.Deep.RegionLaw
import Derived.Deep.DrawnRows
import Derived.OneCell
set_option linter.unusedVariables false
/-
  The laws' own comparisons: they tell whether what two values read as is the same.
-/
namespace Go.Proofs.Ytnpogmhfdjmfdaa
open Go.RowKit

theorem Ints.cases {w : World} {v : Value} {zs : List Int} (h : Ints w v zs) :
    (∃ x c, v = .slice x zs.length c) ∧ (zs.length = 0 ∨ ∃ b o c, v = .slice (some ⟨b, o, none⟩) zs.length c ∧ ∀ i, i < zs.length → w.cell? ⟨b, o + i, none⟩ = some (.int .i64 (zs.getD i 0))) := by
  rcases h with ⟨rfl, rfl⟩ | ⟨b, o, c, rfl, _, _, _, hc⟩
  · exact ⟨⟨_, _, rfl⟩, .inl rfl⟩
  · exact ⟨⟨_, _, rfl⟩, .inr ⟨b, o, c, rfl, hc⟩⟩

theorem Rws.cases {w : World} {v : Value} {rs : List (List Int)} (h : Rws w v rs) :
    (∃ x c, v = .slice x rs.length c) ∧ (rs.length = 0 ∨ ∃ b o c, v = .slice (some ⟨b, o, none⟩) rs.length c ∧ ∀ i, i < rs.length → ∃ x, w.cell? ⟨b, o + i, none⟩ = some x ∧ Ints w x (rs.getD i [])) := by
  rcases h with ⟨rfl, rfl⟩ | ⟨b, o, c, rfl, _, _, _, hc⟩
  · exact ⟨⟨_, _, rfl⟩, .inl rfl⟩
  · exact ⟨⟨_, _, rfl⟩, .inr ⟨b, o, c, rfl, hc⟩⟩

theorem ne_of_len {α : Type} [DecidableEq α] {a b : List α} (h : a.length ≠ b.length) : decide (a = b) = false := by
  simp only [decide_eq_false_iff_not]; exact fun e => h (by rw [e])
theorem ne_of_get {α : Type} [DecidableEq α] {a b : List α} {i : Nat} {d : α} (h : a.getD i d ≠ b.getD i d) : decide (a = b) = false := by
  simp only [decide_eq_false_iff_not]; exact fun e => h (by rw [e])
theorem eq_of_get {α : Type} [DecidableEq α] {a b : List α} {n : Nat} {d : α} (ha : a.length = n) (hb : b.length = n) (h : ∀ i, i < n → a.getD i d = b.getD i d) : decide (a = b) = true := by
  simp only [decide_eq_true_eq]
  apply List.ext_getElem (by omega)
  intro i h1 h2
  have := h i (by omega)
  simpa [h1, h2] using this
theorem Ints.drewN {w : World} {v : Value} {zs : List Int} (h : Ints w v zs) (n : Nat) : Ints (w.drewN n) v zs := h
theorem Rws.drewN {w : World} {v : Value} {rs : List (List Int)} (h : Rws w v rs) (n : Nat) : Rws (w.drewN n) v rs := h

theorem eqIntS_short (x y : Option Addr) (n m c d : Nat) (w : World) (h : n ≠ m ∨ (n = 0 ∧ m = 0)) :
    Calls Try.prog 8 #[.slice x n c, .slice y m d] w fun e w' => e = .returned (.bool (decide (n = m))) ∧ w = w' := by
  rcases h with h | ⟨rfl, rfl⟩
  · have hn : ((n : Int) != (m : Int)) = true := by simp; omega
    go_enter Try.func8, Try.ntmps8
    go_wp2
    go_ret
    exact ⟨by simpa using h, rfl⟩
  · go_enter Try.func8, Try.ntmps8
    go_wp2
    refine wp_loop_rounds 1 ?_
    rw [rounds_succ]
    go_wp2
    go_ret
    exact ⟨by simp, rfl⟩

set_option maxHeartbeats 1000000 in
theorem eqIntS_long (b o c b' o' c' n : Nat) (za zb : List Int) (w : World) (hn : n ≤ maxLen) (ha : za.length = n) (hb : zb.length = n)
    (hca : ∀ i, i < n → w.cell? ⟨b, o + i, none⟩ = some (.int .i64 (za.getD i 0))) (hcb : ∀ i, i < n → w.cell? ⟨b', o' + i, none⟩ = some (.int .i64 (zb.getD i 0))) :
    Calls Try.prog 8 #[.slice (some ⟨b, o, none⟩) n c, .slice (some ⟨b', o', none⟩) n c'] w fun e w' => e = .returned (.bool (decide (za = zb))) ∧ ∃ m, w' = w.drewN m := by
  unfold maxLen at hn
  have Ha := Lib.hid ha
  have Hb := Lib.hid hb
  have Hca := Lib.hid hca
  have Hcb := Lib.hid hcb
  clear ha hb hca hcb
  go_enter Try.func8, Try.ntmps8
  go_wp2
  go_loopw [5] (fun i wr => ∃ k : Nat, k ≤ n ∧ i = .int .i64 k ∧ (∀ j, j < k → za.getD j 0 = zb.getD j 0) ∧ ∃ m, wr = w.drewN m) (fun i _ => n - (intOf i).toNat)
  case atStart => exact ⟨0, Nat.zero_le _, rfl, fun _ h => absurd h (Nat.not_lt_zero _), 0, rfl⟩
  case round =>
    obtain ⟨k, hk, rfl, heq, m, rfl⟩ := hrel
    have HE := Lib.hid heq
    clear heq
    by_cases hlt : k < n
    · have h1 := Hca.out k hlt
      have h2 := Hcb.out k hlt
      obtain ⟨x, hx⟩ : ∃ x, za.getD k 0 = x := ⟨_, rfl⟩
      obtain ⟨y, hy⟩ : ∃ y, zb.getD k 0 = y := ⟨_, rfl⟩
      rw [hx] at h1
      rw [hy] at h2
      have HX := Lib.hid hx
      have HY := Lib.hid hy
      clear hx hy
      have k0 : (0 : Int) ≤ (k : Int) := by omega
      have k1 : (k : Int) < (n : Int) := by omega
      by_cases he : x = y
      · subst he
        go_wp2
        go_quiet (fail)
        go_wp2
        go_roundw
        case rel => exact ⟨k + 1, by omega, by go_num, fun j hj => by
          by_cases h : j < k
          · exact HE.out j h
          · obtain rfl : j = k := by omega
            rw [HX.out, HY.out], _, rfl⟩
        case measure => simp [intOf]; omega
      · have he' : (x != y) = true := by simpa using he
        go_wp2
        go_quiet (fail)
        go_wp2
        go_ret
        exact ⟨ret_bool (ne_of_get (i := k) (d := 0) (by rw [HX.out, HY.out]; exact he)).symm, _, World.drewN_drewN _ _ _⟩
    · have fin : Hid (decide (za = zb) = true) := eq_of_get (d := 0) Ha.out Hb.out (fun i hi => HE.out i (by omega))
      go_wp2
      go_ret
      exact ⟨ret_bool fin.out.symm, _, rfl⟩

/-- laws.eqIntS: whether two slices read the same. -/
theorem eqIntS_at (w : World) (u v : Value) (za zb : List Int) (ha : Ints w u za) (hb : Ints w v zb) (hl : za.length ≤ maxLen) :
    Calls Try.prog 8 #[u, v] w fun e w' => e = .returned (.bool (decide (za = zb))) ∧ ∃ m, w' = w.drewN m := by
  obtain ⟨⟨x, c, hx⟩, qa⟩ := ha.cases
  obtain ⟨⟨y, d, hy⟩, qb⟩ := hb.cases
  by_cases h : za.length ≠ zb.length ∨ (za.length = 0 ∧ zb.length = 0)
  · rw [hx, hy]
    refine (eqIntS_short x y _ _ c d w h).mono fun e w' ⟨he, hw⟩ => ⟨?_, 0, hw.symm⟩
    rw [he]
    refine ret_bool ?_
    rcases h with h | ⟨h1, h2⟩
    · rw [ne_of_len h]; simpa using h
    · rw [List.eq_nil_of_length_eq_zero h1, List.eq_nil_of_length_eq_zero h2]; simp
  · have e : za.length = zb.length := by omega
    rcases qa with qa | ⟨b, o, c, rfl, hca⟩
    · omega
    rcases qb with qb | ⟨b', o', c', rfl, hcb⟩
    · omega
    rw [← e] at hcb ⊢
    exact eqIntS_long b o c b' o' c' _ za zb w hl rfl e.symm hca hcb


theorem eqIntSS_short (x y : Option Addr) (n m c d : Nat) (w : World) (h : n ≠ m ∨ (n = 0 ∧ m = 0)) :
    Calls Try.prog 37 #[.slice x n c, .slice y m d] w fun e w' => e = .returned (.bool (decide (n = m))) ∧ Below w.heap.size w w' := by
  rcases h with h | ⟨rfl, rfl⟩
  · have hn : ((n : Int) != (m : Int)) = true := by simp; omega
    go_enter Try.func37, Try.ntmps37
    go_wp2
    go_ret
    exact ⟨by simpa using h, Below.refl _ _⟩
  · go_enter Try.func37, Try.ntmps37
    go_wp2
    refine wp_loop_rounds 1 ?_
    rw [rounds_succ]
    go_wp2
    go_ret
    exact ⟨by simp, Below.refl _ _⟩

set_option maxHeartbeats 1000000 in
theorem eqIntSS_long (b o c b' o' c' n : Nat) (ra rb : List (List Int)) (w : World) (hn : n ≤ maxLen) (ha : ra.length = n) (hb : rb.length = n) (hla : ∀ i, i < n → (ra.getD i []).length ≤ maxLen) (hlb : b < w.heap.size) (hlb' : b' < w.heap.size)
    (hca : ∀ i, i < n → ∃ x, w.cell? ⟨b, o + i, none⟩ = some x ∧ Ints w x (ra.getD i [])) (hcb : ∀ i, i < n → ∃ x, w.cell? ⟨b', o' + i, none⟩ = some x ∧ Ints w x (rb.getD i [])) :
    Calls Try.prog 37 #[.slice (some ⟨b, o, none⟩) n c, .slice (some ⟨b', o', none⟩) n c'] w fun e w' => e = .returned (.bool (decide (ra = rb))) ∧ Below w.heap.size w w' := by
  unfold maxLen at hn
  have Ha := Lib.hid ha
  have Hb := Lib.hid hb
  have Hla := Lib.hid hla
  have Hca := Lib.hid hca
  have Hcb := Lib.hid hcb
  clear ha hb hca hcb hla
  go_enter Try.func37, Try.ntmps37
  go_wp2
  go_loopw [5] (fun i wr => ∃ k : Nat, k ≤ n ∧ i = .int .i64 k ∧ (∀ j, j < k → ra.getD j [] = rb.getD j []) ∧ Below w.heap.size w wr) (fun i _ => n - (intOf i).toNat)
  case atStart => exact ⟨0, Nat.zero_le _, rfl, fun _ h => absurd h (Nat.not_lt_zero _), Below.refl _ _⟩
  case round =>
    obtain ⟨k, hk, rfl, heq, hbl⟩ := hrel
    have HE := Lib.hid heq
    have HB := Lib.hid hbl
    clear heq hbl
    by_cases hlt : k < n
    · obtain ⟨x, h1, i1⟩ := Hca.out k hlt
      obtain ⟨y, h2, i2⟩ := Hcb.out k hlt
      rw [← HB.out.cell (p := ⟨b, o + k, none⟩) hlb] at h1
      rw [← HB.out.cell (p := ⟨b', o' + k, none⟩) hlb'] at h2
      have I1 := Lib.hid (i1.below HB.out (Nat.le_refl _))
      have I2 := Lib.hid (i2.below HB.out (Nat.le_refl _))
      clear i1 i2
      have k0 : (0 : Int) ≤ (k : Int) := by omega
      have k1 : (k : Int) < (n : Int) := by omega
      have KC : Hid (∀ q, Calls Try.prog 8 #[x, y] (wr.drewN q) fun e w'' => e = .returned (.bool (decide (ra.getD k [] = rb.getD k []))) ∧ ∃ m, w'' = (wr.drewN q).drewN m) := fun q =>
        eqIntS_at (wr.drewN q) x y _ _ (I1.out.drewN q) (I2.out.drewN q) (Hla.out k hlt)
      obtain ⟨⟨xa, xc, hx⟩, _⟩ := I1.out.cases
      obtain ⟨⟨ya, yc, hy⟩, _⟩ := I2.out.cases
      obtain ⟨ln, hln⟩ : ∃ ln, ln = (ra.getD k []).length := ⟨_, rfl⟩
      obtain ⟨lm, hlm⟩ : ∃ lm, lm = (rb.getD k []).length := ⟨_, rfl⟩
      rw [← hln] at hx
      rw [← hlm] at hy
      subst hx hy
      clear hln hlm I1 I2
      by_cases he : ra.getD k [] = rb.getD k []
      · rw [show decide (ra.getD k [] = rb.getD k []) = true from by simpa using he] at KC
        have HEQ := Lib.hid he
        clear he
        go_wp2
        go_quiet ((with_reducible refine Calls.quiet_of (KC.out _)))
        go_wp2
        go_roundw
        case rel => exact ⟨k + 1, by omega, by go_num, fun j hj => by
          by_cases h : j < k
          · exact HE.out j h
          · obtain rfl : j = k := by omega
            exact HEQ.out, below_drewN HB.out _⟩
        case measure => simp [intOf]; omega
      · rw [show decide (ra.getD k [] = rb.getD k []) = false from by simpa using he] at KC
        have HNE := Lib.hid he
        clear he
        go_wp2
        go_quiet ((with_reducible refine Calls.quiet_of (KC.out _)))
        go_wp2
        go_ret
        exact ⟨ret_bool (ne_of_get (i := k) (d := []) HNE.out).symm, below_drewN HB.out _⟩
    · have fin : Hid (decide (ra = rb) = true) := eq_of_get (d := []) Ha.out Hb.out (fun i hi => HE.out i (by omega))
      go_wp2
      go_ret
      exact ⟨ret_bool fin.out.symm, HB.out⟩

/-- laws.eqIntSS: whether rows read the same. -/
theorem eqIntSS_at (w : World) (u v : Value) (ra rb : List (List Int)) (ha : Rws w u ra) (hb : Rws w v rb) (hl : ra.length ≤ maxLen) (hla : ∀ i, i < ra.length → (ra.getD i []).length ≤ maxLen) :
    Calls Try.prog 37 #[u, v] w fun e w' => e = .returned (.bool (decide (ra = rb))) ∧ Below w.heap.size w w' := by
  obtain ⟨⟨x, c, hx⟩, qa⟩ := ha.cases
  obtain ⟨⟨y, d, hy⟩, qb⟩ := hb.cases
  by_cases h : ra.length ≠ rb.length ∨ (ra.length = 0 ∧ rb.length = 0)
  · rw [hx, hy]
    refine (eqIntSS_short x y _ _ c d w h).mono fun e w' ⟨he, hw⟩ => ⟨?_, hw⟩
    rw [he]
    refine ret_bool ?_
    rcases h with h | ⟨h1, h2⟩
    · rw [ne_of_len h]; simpa using h
    · rw [List.eq_nil_of_length_eq_zero h1, List.eq_nil_of_length_eq_zero h2]; simp
  · have e : ra.length = rb.length := by omega
    rcases ha with ⟨rfl, rfl⟩ | ⟨b, o, c, rfl, _, _, hlb, hca⟩
    · exact absurd (Or.inr ⟨rfl, e.symm⟩) h
    rcases hb with ⟨rfl, rfl⟩ | ⟨b', o', c', rfl, _, _, hlb', hcb⟩
    · exact absurd (Or.inr ⟨e, rfl⟩) h
    rw [← e] at hcb ⊢
    exact eqIntSS_long b o c b' o' c' _ ra rb w hl rfl e.symm hla hlb hlb' hca hcb


/-- eqRough, whole. -/
theorem eqRough_at (w : World) (u v : Value) (ra rb : List (List Int)) (ha : Rws w u ra) (hb : Rws w v rb) (hl : ra.length ≤ maxLen) (hla : ∀ i, i < ra.length → (ra.getD i []).length ≤ maxLen) :
    Calls Try.prog 52 #[.agg #[u], .agg #[v]] w fun e w' => e = .returned (.bool (decide (ra = rb))) ∧ Below w.heap.size w w' := by
  obtain ⟨⟨x, c, hx⟩, _⟩ := ha.cases
  obtain ⟨⟨y, d, hy⟩, _⟩ := hb.cases
  obtain ⟨n, hn⟩ : ∃ n, n = ra.length := ⟨_, rfl⟩
  obtain ⟨m, hm⟩ : ∃ m, m = rb.length := ⟨_, rfl⟩
  rw [← hn] at hx
  rw [← hm] at hy
  subst hx hy
  have K : Hid (∀ W, Below w.heap.size w W → Calls Try.prog 37 #[.slice x n c, .slice y m d] W fun e w' => e = .returned (.bool (decide (ra = rb))) ∧ Below W.heap.size W w') := fun W hW =>
    eqIntSS_at W _ _ ra rb (ha.below hW (Nat.le_refl _)) (hb.below hW (Nat.le_refl _)) hl hla
  clear ha hb hn hm hl hla
  by_cases h : ra = rb
  · rw [show decide (ra = rb) = true from by simpa using h] at K ⊢
    clear h
    go_enter Try.func52, Try.ntmps52
    go_wp2_with (go_at_call 37; refine (K.out _ (((Below.refl _ _).alloc (Nat.le_refl _) _).alloc (by simp) _)).mono ?_; rintro e w1 ⟨rfl, hb1⟩)
    go_ret
    exact ⟨rfl, (((Below.refl _ _).alloc (Nat.le_refl _) _).alloc (by simp) _).trans (hb1.mono (by simp; omega))⟩
  · rw [show decide (ra = rb) = false from by simpa using h] at K ⊢
    clear h
    go_enter Try.func52, Try.ntmps52
    go_wp2_with (go_at_call 37; refine (K.out _ (((Below.refl _ _).alloc (Nat.le_refl _) _).alloc (by simp) _)).mono ?_; rintro e w1 ⟨rfl, hb1⟩)
    go_ret
    exact ⟨rfl, (((Below.refl _ _).alloc (Nat.le_refl _) _).alloc (by simp) _).trans (hb1.mono (by simp; omega))⟩

end Go.Proofs.Ytnpogmhfdjmfdaa

/-
  The model's RoughOk: it says whether the rows are in form.
-/
namespace Go.Proofs.Ytnpogmhfdjmfdaa
open Go.RowKit

def rowOkB (zs : List Int) : Bool := zs.length == 8 && zs.all fun z => decide (0 ≤ z) && decide (z ≤ 2000)
/-- A rough count is in form. -/
def okB (rs : List (List Int)) : Bool := rs.length == 3 && rs.all fun zs => rowOkB zs && zs.sum == (rs.getD 0 []).sum && decide (zs.sum ≤ 2000)

/-- Row i is in form. -/
def Good (rs : List (List Int)) (i : Nat) : Prop := (rs.getD i []).length = 8 ∧ (∀ k, k < 8 → 0 ≤ (rs.getD i []).getD k 0 ∧ (rs.getD i []).getD k 0 ≤ 2000) ∧ (rs.getD i []).sum = (rs.getD 0 []).sum ∧ (rs.getD i []).sum ≤ 2000

theorem okB_iff (rs : List (List Int)) : okB rs = true ↔ rs.length = 3 ∧ ∀ i, i < 3 → Good rs i := by
  unfold okB Good rowOkB
  simp only [Bool.and_eq_true, beq_iff_eq, List.all_eq_true, decide_eq_true_eq]
  constructor
  · rintro ⟨h3, h⟩
    refine ⟨h3, fun i hi => ?_⟩
    have hm : rs.getD i [] ∈ rs := getD_mem _ _ _ (by omega)
    obtain ⟨⟨⟨h8, ha⟩, hs⟩, hl⟩ := h _ hm
    refine ⟨h8, fun k hk => ?_, hs, hl⟩
    exact ha _ (getD_mem _ _ _ (by omega))
  · rintro ⟨h3, h⟩
    refine ⟨h3, fun zs hz => ?_⟩
    obtain ⟨i, hi, rfl⟩ := List.getElem_of_mem hz
    have h' := h i (by omega)
    simp only [List.getD_eq_getElem?_getD, List.getElem?_eq_getElem hi, Option.getD_some] at h' ⊢
    refine ⟨⟨⟨h'.1, fun z hz => ?_⟩, h'.2.2.1⟩, h'.2.2.2⟩
    obtain ⟨k, hk, rfl⟩ := List.getElem_of_mem hz
    have h2 := h'.2.1 k (by omega)
    simpa [hk] using h2

theorem okB_false {rs : List (List Int)} (h : rs.length ≠ 3 ∨ ∃ i, i < 3 ∧ ¬ Good rs i) : okB rs = false := by
  cases hb : okB rs with
  | false => rfl
  | true =>
    obtain ⟨h3, hg⟩ := (okB_iff rs).1 hb
    rcases h with h | ⟨i, hi, hn⟩
    · exact absurd h3 h
    · exact absurd (hg i hi) hn

end Go.Proofs.Ytnpogmhfdjmfdaa

/-
  A rough count of nothing, of the program and of its model.
-/
namespace Go.Proofs.Ytnpogmhfdjmfdaa
open Go.RowKit

def zeros : List Int := [0, 0, 0, 0, 0, 0, 0, 0]
theorem info_int : (Try.prog.info? 3).map (fun i => (i.zero, i.size, i.bytes)) = some (some (.int .i64 0), 1, 8) := by kernel_rfl
theorem info_ints : (Try.prog.info? 22).map (fun i => (i.zero, i.size, i.bytes)) = some (some (.slice none 0 0), 1, 24) := by kernel_rfl
theorem make8 : ∀ w, (Instr.makeSlice 22 (.int .i64 8) (.int .i64 8)).run Try.prog w = .ok (.slice (some ⟨w.heap.size, 0, none⟩) 8 8) (w.alloc (.cells (ints zeros).toArray 3)) := fun _ => by kernel_rfl
theorem make3 : ∀ w, (Instr.makeSlice 43 (.int .i64 3) (.int .i64 3)).run Try.prog w = .ok (.slice (some ⟨w.heap.size, 0, none⟩) 3 3) (w.alloc (.cells #[.slice none 0 0, .slice none 0 0, .slice none 0 0] 22)) := fun _ => by kernel_rfl

def zero3 : List (List Int) := [zeros, zeros, zeros]

theorem cell_block {w : World} {b : Nat} {u : Value} {t : TypeId} (h : w.heap[b]? = some (.cells #[u] t (0, 0))) : w.cell? ⟨b, 0, none⟩ = some u ∧ w.frozen? ⟨b, 0, none⟩ = false ∧ b < w.heap.size :=
  ⟨by simp [World.cell?, h], by simp [World.frozen?, h], (Array.getElem?_eq_some_iff.1 h).1⟩

theorem OwnR.nil (w : World) (B : Nat) : OwnR w B (.slice none 0 0) [] (fun _ => 0) (fun _ => 0) :=
  ⟨World.ownsRow_nil w B _ 1, fun i h => absurd h (Nat.not_lt_zero i), fun i h => absurd h (Nat.not_lt_zero i), fun i _ h => absurd h (Nat.not_lt_zero i)⟩

theorem OwnR.hdr_lt {w : World} {B : Nat} {u : Value} {rs : List (List Int)} {G C : Nat → Nat} (h : OwnR w B u rs G C) : ∀ k, u.ownBlock = some k → B ≤ k ∧ k < w.heap.size := h.hdr.lt

theorem block_keep {w w' : World} {row : Option Nat} {b : Nat} {o : Obj} (h : w.heap[b]? = some o) (hg : w.grownBy w' row) (hr : row ≠ some b) : w'.heap[b]? = some o := by
  rw [hg.block b (Array.getElem?_eq_some_iff.1 h).1 (fun e => hr e.symm)]; exact h

theorem make_own (w : World) (B : Nat) (zs : List Int) (hB : B ≤ w.heap.size) (hl : zs.length ≤ maxLen) :
    (w.alloc (.cells (ints zs).toArray 3)).ownsRow B 3 1 (.slice (some ⟨w.heap.size, 0, none⟩) zs.length zs.length) zs.length (ints zs) := by
  have := World.ownsRow_lit (base := B) (e := 3) (size := 1) w (ints zs).toArray zs.length hB hl (by simp [ints])
  simpa using this

theorem new2 (w : World) (o o' : Obj) : ((w.alloc o).alloc o').drew.heap[w.heap.size + 1]? = some o' := by
  have := heap_alloc_new (w.alloc o) o'
  rw [show (w.alloc o).heap.size = w.heap.size + 1 by simp] at this
  exact this

theorem box_far {w w1 : World} {o o' : Obj} {b : Nat} {u : Value} {row : Option Nat} (c : w.cell? ⟨b, 0, none⟩ = some u) (f : w.frozen? ⟨b, 0, none⟩ = false) (l : b < w.heap.size)
    (hg : ((w.alloc o).alloc o').drew.grownBy w1 row) (hr : row ≠ some b) : w1.cell? ⟨b, 0, none⟩ = some u ∧ w1.frozen? ⟨b, 0, none⟩ = false := by
  have l1 : b < (w.alloc o).heap.size := by simp; omega
  have l2 : b < ((w.alloc o).alloc o').drew.heap.size := by simp; omega
  rw [hg.cell_far ⟨b, 0, none⟩ l2 (Ne.symm hr), hg.frozen_far ⟨b, 0, none⟩ l2 (Ne.symm hr)]
  simp only [World.cell?_drew, World.frozen?_drew]
  rw [World.cell?_alloc_past _ _ _ l1, World.cell?_alloc_past _ _ _ l, World.frozen?_alloc_past _ _ _ l1, World.frozen?_alloc_past _ _ _ l]
  exact ⟨c, f⟩

theorem grownBy_drew {w w' : World} {row : Option Nat} (h : w.grownBy w' row) : w.grownBy w'.drew row := ⟨h.os, h.tape, h.output, h.size, h.block⟩

/-- What a round that appends a row makes of the rows so far, which lie behind the box R. -/
theorem row_added {w wr X w1 : World} {S R B W g c gg cap : Nat} {o : Obj} {u : Value} {t : TypeId} {rs : List (List Int)} {G C : Nat → Nat} {zs : List Int}
    (HO : OwnR wr B u rs G C) (hX : wr.grownBy X none) (hz : X.ownsRow B 3 1 (.slice (some ⟨g, 0, none⟩) zs.length c) zs.length (ints zs)) (hg : wr.heap.size ≤ g)
    (hown1 : w1.ownsRow B 22 1 (.slice (some ⟨gg, 0, none⟩) (rs.length + 1) cap) (rs.length + 1) ((List.range rs.length).map (rowV rs G C) ++ [.slice (some ⟨g, 0, none⟩) zs.length c]))
    (hgrow : X.grownBy w1 u.ownBlock) (hat : u.ownBlock = some gg ∨ gg = X.heap.size)
    (hR : wr.heap[R]? = some (.cells #[u] t (0, 0))) (hS : wr.heap[S]? = some o) (hRB : R < B) (hSB : S < B) (hSR : S ≠ R) (hbl : Below W w wr) (hWR : W ≤ R) (hWw : W ≤ w.heap.size) :
    ∃ G' C', OwnR (w1.setCell ⟨R, 0, none⟩ (.slice (some ⟨gg, 0, none⟩) (rs.length + 1) cap)) B (.slice (some ⟨gg, 0, none⟩) (rs.length + 1) cap) (rs ++ [zs]) G' C' ∧
      (w1.setCell ⟨R, 0, none⟩ (.slice (some ⟨gg, 0, none⟩) (rs.length + 1) cap)).heap[S]? = some o ∧
      (w1.setCell ⟨R, 0, none⟩ (.slice (some ⟨gg, 0, none⟩) (rs.length + 1) cap)).heap[R]? = some (.cells #[.slice (some ⟨gg, 0, none⟩) (rs.length + 1) cap] t (0, 0)) ∧
      Below W w (w1.setCell ⟨R, 0, none⟩ (.slice (some ⟨gg, 0, none⟩) (rs.length + 1) cap)) := by
  have lt : ∀ k, u.ownBlock = some k → B ≤ k ∧ k < wr.heap.size := HO.hdr_lt
  have HX := HO.grown hX (fun _ e => by cases e)
  have h1 := HX.snoc hz (fun e => by have := (lt g e).2; omega) (fun i hi e => by have := ((HO.row i hi).lt (G i) rfl).2; omega) hown1 hgrow hat
  have hRX := block_keep hR hX (by simp)
  have hSX := block_keep hS hX (by simp)
  have hR1 := block_keep hRX hgrow (fun e => by have := (lt R e).1; omega)
  have hS1 := block_keep hSX hgrow (fun e => by have := (lt S e).1; omega)
  refine ⟨_, _, h1.grown (grownBy_setCell w1 ⟨R, 0, none⟩ _) (fun k e => by simp at e; omega), ?_, ?_, ?_⟩
  · rw [heap_setCell_other w1 ⟨R, 0, none⟩ S _ hSR]; exact hS1
  · exact one_setCell hR1
  · have hXb : Below W w X := hbl.trans ⟨hX.os, hX.tape, hX.output, hX.size, fun k hk => hX.block k (Nat.lt_of_lt_of_le hk (Nat.le_trans hWw hbl.size)) (by simp)⟩
    have h1b : Below W w w1 := hXb.grown hgrow (Nat.le_trans hWw hXb.size) (fun k e => by have := (lt k e).1; omega)
    exact h1b.setCell (by simpa using hWR) _

set_option maxRecDepth 100000 in
set_option maxHeartbeats 2000000 in
theorem spNew_at (w : World) :
    Calls Try.prog 42 #[] w fun e w' => ∃ u G C, e = .returned (.agg #[u]) ∧ OwnR w' w.heap.size u zero3 G C ∧ Below w.heap.size w w' := by
  have m8 := make8
  obtain ⟨i0, hi, hz0, hz1, hz2⟩ := info_parts info_ints
  go_enter Try.func42, Try.ntmps42
  go_wp2
  go_loopw [2] (fun i wr => ∃ (k : Nat) (rs : List (List Int)) (u : Value) (G C : Nat → Nat), k ≤ 3 ∧ i = .int .i64 k ∧ rs = List.replicate k zeros ∧ OwnR wr (w.heap.size + 2) u rs G C ∧
      wr.heap[w.heap.size]? = some (.cells #[.slice none 0 0] 63 (0, 0)) ∧ wr.heap[w.heap.size + 1]? = some (.cells #[u] 63 (0, 0)) ∧ Below w.heap.size w wr) (fun i _ => 3 - (intOf i).toNat)
  case atStart =>
    refine ⟨0, _, _, _, _, Nat.zero_le _, rfl, rfl, OwnR.nil _ _, ?_, ?_, ((Below.refl _ _).alloc (Nat.le_refl _) _).alloc (by simp) _⟩
    · exact (heap_alloc_old _ _ (by simp)).trans (heap_alloc_new _ _)
    · have := heap_alloc_new (w.alloc (Obj.cells #[Value.slice none 0 0] 63)) (Obj.cells #[Value.slice none 0 0] 63)
      simpa using this
  case round =>
    obtain ⟨k, rs, u, G, C, hk, rfl, hrs, hown, hS, hR, hbl⟩ := hrel
    have HRS := Lib.hid hrs
    have hn : rs.length ≤ 3 := by rw [hrs]; simpa using hk
    clear hrs
    obtain ⟨c1, f1, l1⟩ := cell_block hR
    have hb0 : w.heap.size + 2 ≤ wr.heap.size := by omega
    have l2 : w.heap.size + 1 < wr.heap.size + 1 := by omega
    have hub : u.ownBlock ≠ some (w.heap.size + 1) := fun e => by have := (hown.hdr_lt _ e).1; omega
    have HO := Lib.hid hown
    have HS := Lib.hid hS
    have HR := Lib.hid hR
    have HB := Lib.hid hbl
    clear hown hS hR hbl
    by_cases hlt : k < 3
    · go_wp2_with fail
      go_region_law
        ((refine step_append_lies _ (by rfl) _ _ _ (by rfl) (w.heap.size + 2) 22 i0 _ 1 24 Try.underlying43 hi hz0 hz1 hz2 rfl (by omega) u rs.length _ (by rfl) (((HO.out.hdr.alloc _).alloc _).drew)
            ⟨wr.heap.size + 1, 0, none⟩ 1 1 [.slice (some ⟨wr.heap.size, 0, none⟩) 8 8] (by rfl) (by rfl) (World.news_of_block (cs := #[.slice (some ⟨wr.heap.size, 0, none⟩) 8 8]) (t := 22) (fr := (0, 0)) (new2 _ _ _)) (by simp [Value.oneCell'])
            (by omega) (by unfold maxLen; omega) (by omega) (by simp; omega) (wr.heap.size + 2) (by simp) ?_; intro gg cap w1 hown1 hgrow hat hlt1; have d1 := box_far c1 f1 l1 hgrow hub; obtain ⟨d2, d3⟩ := d1))
      all_goals
        have hX : wr.grownBy ((wr.alloc (.cells (ints zeros).toArray 3)).alloc (.cells #[.slice (some ⟨wr.heap.size, 0, none⟩) 8 8] 22)).drew none :=
          grownBy_drew (grownBy_trans (World.grownBy_alloc wr _ none) (World.grownBy_alloc _ _ none))
        have hz := (((make_own wr (w.heap.size + 2) zeros hb0 (by simp [zeros, maxLen])).alloc (.cells #[.slice (some ⟨wr.heap.size, 0, none⟩) 8 8] 22)).drew)
        have fin := row_added HO.out hX hz (Nat.le_refl _) hown1 hgrow (by simpa using hat) HR.out HS.out (by omega) (by omega) (by omega) HB.out (by omega) (Nat.le_refl _)
        have FIN := Lib.hid fin
        clear fin hX hz hown1 hgrow hat
        go_wp2
        go_roundw
        case rel =>
          obtain ⟨G', C', q1, q2, q3, q4⟩ := FIN.out
          exact ⟨k + 1, rs ++ [zeros], _, G', C', by omega, by go_num, by rw [HRS.out, List.replicate_succ'], q1, q2, q3, q4⟩
        case measure => simp [intOf]; omega
    · obtain ⟨s1, s2, s3⟩ := cell_block HS.out
      have h3 : rs.length = 3 := by rw [HRS.out]; simp; omega
      obtain ⟨g, cap, hu, hg1, hg2⟩ := World.ownsRow.form HO.out.hdr (by omega)
      subst hu
      have e3 : rs = zero3 := by rw [HRS.out, show k = 3 by omega]; rfl
      have hw := HO.out.grown (grownBy_setCell wr ⟨w.heap.size, 0, none⟩ (.slice (some ⟨g, 0, none⟩) rs.length cap)) (fun k e => by simp at e; omega)
      have hb := HB.out.setCell (p := ⟨w.heap.size, 0, none⟩) (Nat.le_refl _) (.slice (some ⟨g, 0, none⟩) rs.length cap)
      rw [e3] at hw hb
      have H1 := Lib.hid hw
      have H2 := Lib.hid hb
      have E3 := Lib.hid e3
      clear hw hb h3 e3
      go_wp2
      rw [E3.out]
      have hr := World.cell?_setCell_same wr ⟨w.heap.size, 0, none⟩ (.slice (some ⟨g, 0, none⟩) zero3.length cap) s1
      exact bodyPost_ret (v := .agg #[.slice (some ⟨g, 0, none⟩) zero3.length cap]) (by simp [results, Try.results42, go_sem, hr]) rfl ⟨_, G, C, rfl, H1.out.base (by omega), H2.out⟩

end Go.Proofs.Ytnpogmhfdjmfdaa

/-
  The program's RoughNew: three rows of eight noughts, in new memory.
-/
namespace Go.Proofs.Ytnpogmhfdjmfdaa
open Go.RowKit

theorem own_three (w : World) (o : Obj) (r0 r1 r2 : List Int) (n : Nat) (hn : w.heap.size = n) (h0 : r0.length = 8) (h1 : r1.length = 8) (h2 : r2.length = 8) :
    OwnR (((((w.alloc o).alloc (.cells #[.slice (some ⟨n + 1 + 1, 0, none⟩) 8 8, .slice (some ⟨n + 1 + 1 + 1, 0, none⟩) 8 8, .slice (some ⟨n + 1 + 1 + 1 + 1, 0, none⟩) 8 8] 22)).alloc
      (.cells (ints r0).toArray 3)).alloc (.cells (ints r1).toArray 3)).alloc (.cells (ints r2).toArray 3)) n (.slice (some ⟨n + 1, 0, none⟩) 3 3) [r0, r1, r2] (fun i => n + 2 + i) (fun _ => 8) := by
  subst hn
  have eV : ∀ i, rowV [r0, r1, r2] (fun i => w.heap.size + 2 + i) (fun _ => 8) i = .slice (some ⟨w.heap.size + 2 + i, 0, none⟩) ([r0, r1, r2].getD i []).length 8 := fun i => rfl
  have hh := World.ownsRow_lit (base := w.heap.size) (e := 22) (size := 1) (w.alloc o) #[.slice (some ⟨w.heap.size + 1 + 1, 0, none⟩) 8 8, .slice (some ⟨w.heap.size + 1 + 1 + 1, 0, none⟩) 8 8, .slice (some ⟨w.heap.size + 1 + 1 + 1 + 1, 0, none⟩) 8 8] 3 (by simp) (by simp [maxLen]) (by simp)
  have z0 := make_own ((w.alloc o).alloc (.cells #[.slice (some ⟨w.heap.size + 1 + 1, 0, none⟩) 8 8, .slice (some ⟨w.heap.size + 1 + 1 + 1, 0, none⟩) 8 8, .slice (some ⟨w.heap.size + 1 + 1 + 1 + 1, 0, none⟩) 8 8] 22)) w.heap.size r0 (by simp; omega) (by simp [h0, maxLen])
  have z1 := make_own (((w.alloc o).alloc (.cells #[.slice (some ⟨w.heap.size + 1 + 1, 0, none⟩) 8 8, .slice (some ⟨w.heap.size + 1 + 1 + 1, 0, none⟩) 8 8, .slice (some ⟨w.heap.size + 1 + 1 + 1 + 1, 0, none⟩) 8 8] 22)).alloc (.cells (ints r0).toArray 3)) w.heap.size r1 (by simp; omega) (by simp [h1, maxLen])
  have z2 := make_own ((((w.alloc o).alloc (.cells #[.slice (some ⟨w.heap.size + 1 + 1, 0, none⟩) 8 8, .slice (some ⟨w.heap.size + 1 + 1 + 1, 0, none⟩) 8 8, .slice (some ⟨w.heap.size + 1 + 1 + 1 + 1, 0, none⟩) 8 8] 22)).alloc (.cells (ints r0).toArray 3)).alloc (.cells (ints r1).toArray 3)) w.heap.size r2 (by simp; omega) (by simp [h2, maxLen])
  simp only [World.size_alloc, h0, h1, h2] at hh z0 z1 z2
  refine ⟨?_, fun i hi => ?_, fun i hi => ?_, fun i j hi hj hij => ?_⟩
  · have := ((hh.alloc (.cells (ints r0).toArray 3)).alloc (.cells (ints r1).toArray 3)).alloc (.cells (ints r2).toArray 3)
    simpa [List.range_succ, rowV, h0, h1, h2] using this
  · simp only [List.length_cons, List.length_nil] at hi
    rw [eV]
    rcases (by omega : i = 0 ∨ i = 1 ∨ i = 2) with rfl | rfl | rfl
    · simpa [h0] using (z0.alloc (.cells (ints r1).toArray 3)).alloc (.cells (ints r2).toArray 3)
    · simpa [h1] using z1.alloc (.cells (ints r2).toArray 3)
    · simpa [h2] using z2
  · simp [Value.ownBlock]; omega
  · simp; omega

set_option maxRecDepth 100000 in
set_option maxHeartbeats 1000000 in
theorem imNew_at (w : World) :
    Calls Try.prog 43 #[] w fun e w' => ∃ u G C, e = .returned (.agg #[u]) ∧ OwnR w' w.heap.size u zero3 G C ∧ Below w.heap.size w w' := by
  have m8 := make8
  have m3 := make3
  go_enter Try.func43, Try.ntmps43
  go_wp2
  refine wp_loop_rounds 4 ?_
  rw [rounds_succ]
  go_wp2
  rw [rounds_succ]
  go_wp2
  rw [rounds_succ]
  go_wp2
  rw [rounds_succ]
  go_wp2
  exact bodyPost_ret (v := .agg #[.slice (some ⟨w.heap.size + 1, 0, none⟩) 3 3]) (by simp [results, Try.results43, go_sem]) rfl
    ⟨_, _, _, rfl, own_three w _ zeros zeros zeros _ rfl rfl rfl rfl, (((((Below.refl _ _).alloc (Nat.le_refl _) _).alloc (by simp) _).alloc (by simp; omega) _).alloc (by simp; omega) _).alloc (by simp; omega) _⟩

end Go.Proofs.Ytnpogmhfdjmfdaa

/-
  The program's rowAll, RoughAll and RoughOk.
-/
namespace Go.Proofs.Ytnpogmhfdjmfdaa
open Go.RowKit

def Fine (zs : List Int) : Prop := zs.length = 8 ∧ (∀ k, k < 8 → 0 ≤ zs.getD k 0) ∧ zs.sum ≤ 2000
instance (zs : List Int) : Decidable (Fine zs) := by unfold Fine; infer_instance
/-- How much a row has together, or -1. -/
def rowAllV (zs : List Int) : Int := if Fine zs then zs.sum else -1
/-- How much was counted in all, or -1. -/
def allV (rs : List (List Int)) : Int := if okB rs = true then (rs.getD 0 []).sum else -1

theorem nonneg_mem {zs : List Int} (h : ∀ k, k < zs.length → 0 ≤ zs.getD k 0) : ∀ z ∈ zs, 0 ≤ z := fun z hz => by
  obtain ⟨k, hk, rfl⟩ := List.getElem_of_mem hz
  have := h k hk
  simpa [hk] using this
theorem sum_nonneg {zs : List Int} (h : ∀ z ∈ zs, 0 ≤ z) : 0 ≤ zs.sum := by
  induction zs with
  | nil => simp
  | cons a l ih => simp only [List.sum_cons]; have := h a (by simp); have := ih (fun z hz => h z (by simp [hz])); omega
theorem sum_take_le {zs : List Int} (h : ∀ z ∈ zs, 0 ≤ z) (k : Nat) : (zs.take k).sum ≤ zs.sum := by
  have e : zs.sum = (zs.take k).sum + (zs.drop k).sum := by rw [← List.sum_append, List.take_append_drop]
  have := sum_nonneg (fun z hz => h z (List.mem_of_mem_drop hz) : ∀ z ∈ zs.drop k, 0 ≤ z)
  omega
theorem Fine.bd {zs : List Int} (h : Fine zs) : (∀ z ∈ zs, 0 ≤ z) ∧ 0 ≤ zs.sum ∧ (∀ k, k < 8 → 0 ≤ zs.getD k 0 ∧ zs.getD k 0 ≤ 2000) := by
  have hm := nonneg_mem (fun k hk => h.2.1 k (by rw [← h.1]; exact hk) : ∀ k, k < zs.length → 0 ≤ zs.getD k 0)
  refine ⟨hm, sum_nonneg hm, fun k hk => ⟨h.2.1 k hk, ?_⟩⟩
  have h1 := sum_take_succ zs k (by rw [h.1]; exact hk)
  have h2 := sum_take_le hm (k + 1)
  have h3 := sum_nonneg (fun z hz => hm z (List.mem_of_mem_take hz) : ∀ z ∈ zs.take k, 0 ≤ z)
  have := h.2.2
  omega
theorem rowAllV_fine {zs : List Int} (h : Fine zs) : rowAllV zs = zs.sum := if_pos h
theorem rowAllV_not {zs : List Int} (h : ¬ Fine zs) : rowAllV zs = -1 := if_neg h
theorem rowAllV_bd (zs : List Int) : -1 ≤ rowAllV zs ∧ rowAllV zs ≤ 2000 := by
  unfold rowAllV
  split
  · rename_i h; have := h.bd; have := h.2.2; omega
  · omega
theorem allV_eq (rs : List (List Int)) : allV rs = if rs.length = 3 ∧ rowAllV (rs.getD 1 []) = rowAllV (rs.getD 0 []) ∧ rowAllV (rs.getD 2 []) = rowAllV (rs.getD 0 []) then rowAllV (rs.getD 0 []) else -1 := by
  unfold allV
  by_cases hok : okB rs = true
  · rw [if_pos hok]
    obtain ⟨h3, hg⟩ := (okB_iff rs).1 hok
    have fine : ∀ i, i < 3 → Fine (rs.getD i []) := fun i hi => ⟨(hg i hi).1, fun k hk => ((hg i hi).2.1 k hk).1, (hg i hi).2.2.2⟩
    rw [if_pos ⟨h3, by rw [rowAllV_fine (fine 1 (by omega)), rowAllV_fine (fine 0 (by omega))]; exact (hg 1 (by omega)).2.2.1, by rw [rowAllV_fine (fine 2 (by omega)), rowAllV_fine (fine 0 (by omega))]; exact (hg 2 (by omega)).2.2.1⟩,
      rowAllV_fine (fine 0 (by omega))]
  · rw [if_neg hok]
    split
    · rename_i h
      obtain ⟨h3, h1, h2⟩ := h
      by_cases f0 : Fine (rs.getD 0 [])
      · exfalso
        apply hok
        rw [okB_iff]
        have pos := f0.bd.2.1
        have all : ∀ i, i < 3 → Fine (rs.getD i []) ∧ (rs.getD i []).sum = (rs.getD 0 []).sum := fun i hi => by
          have e : rowAllV (rs.getD i []) = rowAllV (rs.getD 0 []) := by
            rcases (by omega : i = 0 ∨ i = 1 ∨ i = 2) with rfl | rfl | rfl
            · rfl
            · exact h1
            · exact h2
          rw [rowAllV_fine f0] at e
          by_cases fi : Fine (rs.getD i [])
          · rw [rowAllV_fine fi] at e; exact ⟨fi, e⟩
          · rw [rowAllV_not fi] at e; omega
        exact ⟨h3, fun i hi => ⟨(all i hi).1.1, (all i hi).1.bd.2.2, (all i hi).2, (all i hi).1.2.2⟩⟩
      · rw [rowAllV_not f0]
    · rfl

theorem allV_ok {rs : List (List Int)} (h : okB rs = true) : 0 ≤ allV rs ∧ allV rs ≤ 2000 := by
  obtain ⟨_, hg⟩ := (okB_iff rs).1 h
  have f : Fine (rs.getD 0 []) := ⟨(hg 0 (by omega)).1, fun k hk => ((hg 0 (by omega)).2.1 k hk).1, (hg 0 (by omega)).2.2.2⟩
  unfold allV
  rw [if_pos h]
  exact ⟨f.bd.2.1, f.2.2⟩
theorem allV_not {rs : List (List Int)} (h : okB rs = false) : allV rs = -1 := by unfold allV; rw [h]; rfl

end Go.Proofs.Ytnpogmhfdjmfdaa

/-
  RoughAll of the model, and RoughGet of the program and of its model.
-/
namespace Go.Proofs.Ytnpogmhfdjmfdaa
open Go.RowKit Go.Sort

/-- How an ok rough count lies in memory. -/
theorem ok_form {w : World} {u : Value} {rs : List (List Int)} (h : Rws w u rs) (hok : okB rs = true) :
    ∃ b o cap, u = .slice (some ⟨b, o, none⟩) 3 cap ∧ 3 ≤ cap ∧ b < w.heap.size ∧
      ∀ i, i < 3 → ∃ bi oi ci, w.cell? ⟨b, o + i, none⟩ = some (.slice (some ⟨bi, oi, none⟩) 8 ci) ∧ bi < w.heap.size ∧ ∀ k, k < 8 → w.cell? ⟨bi, oi + k, none⟩ = some (.int .i64 ((rs.getD i []).getD k 0)) := by
  obtain ⟨h3, hg⟩ := (okB_iff rs).1 hok
  rcases h with ⟨rfl, rfl⟩ | ⟨b, o, cap, rfl, hcap, _, hb, hc⟩
  · simp at h3
  refine ⟨b, o, cap, by rw [h3], by omega, hb, fun i hi => ?_⟩
  obtain ⟨x, hx, hi'⟩ := hc i (by omega)
  have g := hg i hi
  rcases hi' with ⟨_, h0⟩ | ⟨bi, oi, ci, rfl, _, _, hbi, hci⟩
  · have := g.1; rw [h0] at this; simp at this
  · rw [g.1] at hx hci
    exact ⟨bi, oi, ci, hx, hbi, hci⟩

/-- The number at the place of the thing t in row i. -/
def atV (rs : List (List Int)) (i : Nat) (t : Int) : Int := (rs.getD i []).getD (place i t).toNat 0
/-- How often a thing was counted at most; -1, if the count is not ok, or that is no thing. -/
def getV (rs : List (List Int)) (t : Int) : Int := if okB rs = true ∧ 0 ≤ t ∧ t < 64 then min (min (atV rs 0 t) (atV rs 1 t)) (atV rs 2 t) else -1
theorem getV_ok {rs : List (List Int)} {t : Int} (h : okB rs = true) (h0 : 0 ≤ t) (h1 : t < 64) : getV rs t = min (min (atV rs 0 t) (atV rs 1 t)) (atV rs 2 t) := if_pos ⟨h, h0, h1⟩
theorem getV_not {rs : List (List Int)} {t : Int} (h : okB rs = false ∨ t < 0 ∨ 64 ≤ t) : getV rs t = -1 := if_neg (fun q => by
  rcases h with h | h
  · rw [q.1] at h; cases h
  · omega)
theorem place_nat (i t : Int) : ∃ P : Nat, place i t = P ∧ P < 8 ∧ (place i t).toNat = P := by
  have := place_bd i t
  exact ⟨(place i t).toNat, by omega, by omega, rfl⟩
theorem atV_bd {rs : List (List Int)} (h : okB rs = true) (i : Nat) (hi : i < 3) (t : Int) : 0 ≤ atV rs i t ∧ atV rs i t ≤ 2000 := by
  obtain ⟨_, hg⟩ := (okB_iff rs).1 h
  obtain ⟨P, _, hP, e⟩ := place_nat i t
  unfold atV
  rw [e]
  exact (hg i hi).2.1 P hP

end Go.Proofs.Ytnpogmhfdjmfdaa

/-
  The exact laws' marks: numbers written into every cell that an answer owns, one behind the other, and looked for again.
-/
namespace Go.Proofs.Ytnpogmhfdjmfdaa
open Go.RowKit

def mkRow (k : Int) (n : Nat) : List Int := (List.range n).map fun (i : Nat) => k + (i : Int)
/-- How many numbers stand ahead of row i. -/
def ahead (rs : List (List Int)) : Nat → Nat
  | 0 => 0
  | i + 1 => ahead rs i + (rs.getD i []).length
/-- The rows rs' are those of rs, marked from k on. -/
def Marked (k : Int) (rs rs' : List (List Int)) : Prop := rs'.length = rs.length ∧ ∀ i, i < rs.length → rs'.getD i [] = mkRow (k + ahead rs i) (rs.getD i []).length

theorem mkRow_len (k : Int) (n : Nat) : (mkRow k n).length = n := by simp [mkRow]
theorem mkRow_get (k : Int) (n i : Nat) (h : i < n) : (mkRow k n).getD i 0 = k + i := by simp [mkRow, h]

/-- Row i is another one, as long. -/
theorem OwnR.setRow {w w' : World} {B : Nat} {u : Value} {rs : List (List Int)} {G C : Nat → Nat} (h : OwnR w B u rs G C) {i : Nat} {zs : List Int} (hi : i < rs.length) (hl : zs.length = (rs.getD i []).length)
    (hz : w'.ownsRow B 3 1 (rowV rs G C i) zs.length (ints zs)) (hg : w.grownBy w' (some (G i))) : OwnR w' B u (rs.set i zs) G C := by
  have eL : ∀ j, ((rs.set i zs).getD j []).length = (rs.getD j []).length := fun j => by
    simp only [List.getD_eq_getElem?_getD, List.getElem?_set]
    by_cases e : i = j
    · subst e; simp [hi, hl]
    · simp [e]
  have eV : ∀ j, rowV (rs.set i zs) G C j = rowV rs G C j := fun j => by unfold rowV; rw [eL]
  refine ⟨?_, fun j hj => ?_, fun j hj => h.off j (by simpa using hj), fun a b ha hb hab => h.apart a b (by simpa using ha) (by simpa using hb) hab⟩
  · simp only [List.length_set]
    rw [List.map_congr_left (fun j _ => eV j)]
    exact h.hdr.kept hg (.inr (h.off i hi))
  · simp only [List.length_set] at hj
    rw [eV, eL]
    by_cases e : j = i
    · subst e
      have e' : (rs.set j zs).getD j [] = zs := by simp [hj]
      rw [e', ← hl]
      exact hz
    · have e' : (rs.set i zs).getD j [] = rs.getD j [] := by simp [Ne.symm e]
      rw [e']
      exact (h.row j hj).kept hg (.inr (by simp [rowV, Value.ownBlock]; exact h.apart j i hj hi e))

theorem mark_set (k : Int) (zs : List Int) (j : Nat) (hj : j < zs.length) :
    (ints (mkRow k j ++ zs.drop j)).set j (.int .i64 (k + j)) = ints (mkRow k (j + 1) ++ zs.drop (j + 1)) := by
  apply List.ext_getElem?
  intro i
  simp only [ints, List.getElem?_set, List.getElem?_map, List.length_map, List.length_append, mkRow_len, List.length_drop]
  rcases Nat.lt_trichotomy i j with h | h | h
  · rw [if_neg (by omega), List.getElem?_append_left (by rw [mkRow_len]; exact h), List.getElem?_append_left (by rw [mkRow_len]; omega)]
    simp [mkRow, h, show i < j + 1 by omega]
  · subst h
    rw [if_pos rfl, if_pos (by omega), List.getElem?_append_left (by rw [mkRow_len]; omega)]
    simp [mkRow]
  · rw [if_neg (by omega), List.getElem?_append_right (by rw [mkRow_len]; omega), List.getElem?_append_right (by rw [mkRow_len]; omega), mkRow_len, mkRow_len]
    simp only [List.getElem?_drop]
    rw [show j + (i - j) = i by omega, show j + 1 + (i - (j + 1)) = i by omega]

set_option maxHeartbeats 1000000 in
theorem markIntS_at (w : World) (B g c n : Nat) (zs : List Int) (k : Int) (hl : zs.length = n) (hn : n ≤ 1048576) (hk : 0 ≤ k) (hk' : k ≤ 1000000000000)
    (h : w.ownsRow B 3 1 (.slice (some ⟨g, 0, none⟩) n c) n (ints zs)) :
    Calls Try.prog 9 #[.slice (some ⟨g, 0, none⟩) n c, .int .i64 k] w fun e w' =>
      e = .returned (.int .i64 (k + n)) ∧ w'.ownsRow B 3 1 (.slice (some ⟨g, 0, none⟩) n c) n (ints (mkRow k n)) ∧ w.grownBy w' (some g) := by
  have HL := Lib.hid hl
  have H := Lib.hid h
  clear hl h
  go_enter Try.func9, Try.ntmps9
  go_wp2
  go_loopw [1, 5] (fun q i wr => ∃ j : Nat, j ≤ n ∧ i = .int .i64 j ∧ q = .int .i64 (k + j) ∧ wr.ownsRow B 3 1 (.slice (some ⟨g, 0, none⟩) n c) n (ints (mkRow k j ++ zs.drop j)) ∧ w.grownBy wr (some g)) (fun _ i _ => n - (intOf i).toNat)
  case atStart => exact ⟨0, Nat.zero_le _, rfl, by go_num, by simpa [mkRow] using H.out, grownBy_refl _ _⟩
  case round =>
    obtain ⟨j, hj, rfl, rfl, hown, hg⟩ := hrel
    have HO := Lib.hid hown
    have HG := Lib.hid hg
    clear hown hg
    by_cases hlt : j < n
    · have hc : ∃ x, wr.cell? ⟨g, j, none⟩ = some x := by
        rw [HO.out.cellAt j (by omega)]
        exact ⟨_, List.getElem?_eq_getElem (by rw [ints_len]; simp [mkRow_len, HL.out]; omega)⟩
      obtain ⟨x, hc⟩ := hc
      have hf := HO.out.frozenAt j
      have hs := HO.out.stored j (.int .i64 (k + j))
      rw [mark_set k zs j (by rw [HL.out]; exact hlt)] at hs
      have HS := Lib.hid hs
      clear hs
      go_wp2
      go_roundw
      case rel => exact ⟨j + 1, by omega, by go_num, by rw [show ((j + 1 : Nat) : Int) = (j : Int) + 1 by omega]; congr 1; omega, HS.out.1, grownBy_trans HG.out HS.out.2⟩
      case measure => simp [intOf]; omega
    · obtain rfl : j = n := by omega
      go_wp2
      go_ret
      have h0 : zs.drop j = [] := List.drop_of_length_le (by rw [HL.out]; exact Nat.le_refl _)
      have ho := HO.out
      rw [h0, List.append_nil] at ho
      exact ⟨rfl, ho, HG.out⟩

set_option maxHeartbeats 1000000 in
theorem markIntSS_at (w : World) (B n : Nat) (u : Value) (x : Option Addr) (c : Nat) (rs : List (List Int)) (G C : Nat → Nat) (k : Int) (hu : u = .slice x n c) (hl : rs.length = n) (hn : n ≤ 1048576) (hr : ∀ i, i < n → (rs.getD i []).length ≤ 1048576) (hs : ahead rs n ≤ 100000000)
    (hk : 0 ≤ k) (hk' : k ≤ 100000000000) (h : OwnR w B u rs G C) :
    Calls Try.prog 39 #[u, .int .i64 k] w fun e w' => ∃ rs', e = .returned (.int .i64 (k + ahead rs n)) ∧ Marked k rs rs' ∧ OwnR w' B u rs' G C ∧ KeptB (fun b => ∃ i, i < n ∧ G i = b) w w' := by
  have hmono : ∀ i j, i ≤ j → ahead rs i ≤ ahead rs j := fun i j h => by
    induction h with
    | refl => exact Nat.le_refl _
    | step _ ih => exact Nat.le_trans ih (by simp [ahead])
  have HM := Lib.hid hmono
  have HL := Lib.hid hl
  have HR := Lib.hid hr
  have H := Lib.hid h
  clear hl h hr hmono
  by_cases h0 : n = 0
  · subst h0 hu
    go_enter Try.func39, Try.ntmps39
    go_wp2
    refine wp_loop_rounds 1 ?_
    rw [rounds_succ]
    go_wp2
    go_ret
    exact ⟨rs, by simp [ahead], ⟨rfl, fun i hi => by have := HL.out; omega⟩, H.out, KeptB.refl _ _⟩
  obtain ⟨g, c', hform, hBg, hgl⟩ := World.ownsRow.form H.out.hdr (by rw [HL.out]; omega)
  obtain ⟨rfl, rfl⟩ : x = some ⟨g, 0, none⟩ ∧ c = c' := by
    rw [hu, HL.out] at hform
    simpa using hform
  subst hu
  clear hform
  go_enter Try.func39, Try.ntmps39
  go_wp2
  go_loopw [1, 5] (fun q i wr => ∃ (j : Nat) (rs' : List (List Int)), j ≤ n ∧ i = .int .i64 j ∧ q = .int .i64 (k + ahead rs j) ∧ rs'.length = n ∧ (∀ i, i < n → rs'.getD i [] = if i < j then mkRow (k + ahead rs i) (rs.getD i []).length else rs.getD i []) ∧
      OwnR wr B (.slice (some ⟨g, 0, none⟩) n c) rs' G C ∧ KeptB (fun b => ∃ i, i < n ∧ G i = b) w wr) (fun _ i _ => n - (intOf i).toNat)
  case atStart => exact ⟨0, rs, Nat.zero_le _, rfl, by simp [ahead], HL.out, fun i hi => by simp, H.out, KeptB.refl _ _⟩
  case round =>
    obtain ⟨j, rs', hj, rfl, rfl, hl', hrow, hown, hb⟩ := hrel
    have HL' := Lib.hid hl'
    have HO := Lib.hid hown
    have HB := Lib.hid hb
    have HW := Lib.hid hrow
    clear hown hb hl' hrow
    by_cases hlt : j < n
    · have hown := HO.out
      have hh := hown.hdr
      rw [HL'.out] at hh
      have hcell := hh.cellAt j (by omega)
      rw [List.getElem?_map, List.getElem?_range hlt] at hcell
      clear hh
      have hrj : rs'.getD j [] = rs.getD j [] := by rw [HW.out j hlt, if_neg (by omega)]
      simp only [Option.map_some, rowV, hrj] at hcell
      obtain ⟨m, hm⟩ : ∃ m, m = (rs.getD j []).length := ⟨_, rfl⟩
      rw [← hm] at hcell
      have b1 : m ≤ 1048576 := by rw [hm]; exact HR.out j hlt
      have b2 := HM.out (j + 1) n hlt
      have e3 : ahead rs (j + 1) = ahead rs j + m := by rw [hm]; rfl
      have hz := hown.row j (by rw [HL'.out]; exact hlt)
      simp only [rowV, hrj, ← hm] at hz
      have b3 : 0 ≤ k + (ahead rs j : Int) := by omega
      have b4 : k + (ahead rs j : Int) ≤ 1000000000000 := by omega
      have KC : Hid (Calls Try.prog 9 #[.slice (some ⟨G j, 0, none⟩) m (C j), .int .i64 (k + ahead rs j)] wr fun e w' =>
          e = .returned (.int .i64 (k + ahead rs j + m)) ∧ w'.ownsRow B 3 1 (.slice (some ⟨G j, 0, none⟩) m (C j)) m (ints (mkRow (k + ahead rs j) m)) ∧ wr.grownBy w' (some (G j))) :=
        markIntS_at wr B (G j) (C j) m _ _ hm.symm b1 b3 b4 hz
      have HM2 := Lib.hid hm
      have E3 := Lib.hid e3
      have HRJ := Lib.hid hrj
      clear hown hz hm e3 hrj b2
      go_wp2_with (go_at_call 9; refine KC.out.mono ?_; rintro e w1 ⟨rfl, ho1, hg1⟩)
      have hset := HO.out.setRow (i := j) (zs := mkRow (k + ahead rs j) m) (by rw [HL'.out]; exact hlt) (by rw [mkRow_len, HRJ.out, HM2.out]) (by rw [mkRow_len]; unfold rowV; rw [HRJ.out, ← HM2.out]; exact ho1) hg1
      have hbb : KeptB (fun b => ∃ i, i < n ∧ G i = b) w w1 := HB.out.trans (KeptB.of_grown hg1 ⟨j, hlt, rfl⟩)
      go_roundw
      case rel =>
        refine ⟨j + 1, rs'.set j (mkRow (k + ahead rs j) m), by omega, by go_num, by rw [E3.out]; congr 1; omega, by simpa using HL'.out, fun i hi => ?_, hset, hbb⟩
        by_cases e : i = j
        · subst e
          rw [if_pos (by omega), ← HM2.out]
          simp [show i < rs'.length by rw [HL'.out]; exact hi]
        · have e1 : (rs'.set j (mkRow (k + ahead rs j) m)).getD i [] = rs'.getD i [] := by simp [Ne.symm e]
          rw [e1, HW.out i hi]
          by_cases e2 : i < j
          · rw [if_pos e2, if_pos (by omega)]
          · rw [if_neg e2, if_neg (by omega)]
      case measure => simp [intOf]; omega
    · obtain rfl : j = n := by omega
      go_wp2
      go_ret
      exact ⟨rs', rfl, ⟨by rw [HL'.out, HL.out], fun i hi => by rw [HW.out i (by rw [← HL.out]; exact hi), if_pos (by rw [← HL.out]; exact hi)]⟩, HO.out, HB.out⟩

set_option maxHeartbeats 1000000 in
theorem heldIntS_at (w : World) (v : Value) (n : Nat) (k : Int) (hn : n ≤ 1048576) (hk : 0 ≤ k) (hk' : k ≤ 1000000000000) (h : Ints w v (mkRow k n)) :
    Calls Try.prog 47 #[v, .int .i64 k] w fun e w' => e = .returned (.int .i64 (k + n)) ∧ w = w' := by
  obtain ⟨⟨x, c, hv⟩, q⟩ := h.cases
  rw [mkRow_len] at hv q
  by_cases h0 : n = 0
  · subst h0 hv
    go_enter Try.func47, Try.ntmps47
    go_wp2
    refine wp_loop_rounds 1 ?_
    rw [rounds_succ]
    go_wp2
    go_ret
    exact ⟨by simp, rfl⟩
  rcases q with q | ⟨b, o, c, rfl, hc⟩
  · omega
  have Hc := Lib.hid hc
  clear hc h hv
  go_enter Try.func47, Try.ntmps47
  go_wp2
  go_loop [1, 5] (fun q i => ∃ j : Nat, j ≤ n ∧ i = .int .i64 j ∧ q = .int .i64 (k + j)) (fun _ i => n - (intOf i).toNat)
  case atStart => exact ⟨0, Nat.zero_le _, rfl, by go_num⟩
  case round =>
    obtain ⟨j, hj, rfl, rfl⟩ := hrel
    by_cases hlt : j < n
    · have h1 := Hc.out j hlt
      rw [mkRow_get _ _ _ hlt] at h1
      go_wp2
      go_round
      case rel => exact ⟨j + 1, by omega, by go_num, by rw [show ((j + 1 : Nat) : Int) = (j : Int) + 1 by omega]; congr 1; omega⟩
      case measure => simp [intOf]; omega
    · obtain rfl : j = n := by omega
      go_wp2
      go_ret
      exact ⟨rfl, rfl⟩

set_option maxHeartbeats 1000000 in
theorem heldIntSS_at (w : World) (u : Value) (rs rs' : List (List Int)) (n : Nat) (k : Int) (hl : rs.length = n) (hm : Marked k rs rs') (hn : n ≤ 1048576) (hr : ∀ i, i < n → (rs.getD i []).length ≤ 1048576) (hs : ahead rs n ≤ 100000000)
    (hk : 0 ≤ k) (hk' : k ≤ 100000000000) (h : Rws w u rs') :
    Calls Try.prog 41 #[u, .int .i64 k] w fun e w' => e = .returned (.int .i64 (k + ahead rs n)) ∧ w = w' := by
  obtain ⟨⟨x, c, hv⟩, q⟩ := h.cases
  rw [hm.1, hl] at hv q
  by_cases h0 : n = 0
  · subst h0 hv
    go_enter Try.func41, Try.ntmps41
    go_wp2
    refine wp_loop_rounds 1 ?_
    rw [rounds_succ]
    go_wp2
    go_ret
    exact ⟨by simp [ahead], rfl⟩
  rcases q with q | ⟨b, o, c, rfl, hc⟩
  · omega
  have hmono : ∀ i j, i ≤ j → ahead rs i ≤ ahead rs j := fun i j h => by
    induction h with
    | refl => exact Nat.le_refl _
    | step _ ih => exact Nat.le_trans ih (by simp [ahead])
  have HMo := Lib.hid hmono
  have Hc := Lib.hid hc
  have HM := Lib.hid hm
  have HL := Lib.hid hl
  have HR := Lib.hid hr
  clear hc h hv hm hl hr hmono
  go_enter Try.func41, Try.ntmps41
  go_wp2
  go_loop [1, 5] (fun q i => ∃ j : Nat, j ≤ n ∧ i = .int .i64 j ∧ q = .int .i64 (k + ahead rs j)) (fun _ i => n - (intOf i).toNat)
  case atStart => exact ⟨0, Nat.zero_le _, rfl, by simp [ahead]⟩
  case round =>
    obtain ⟨j, hj, rfl, rfl⟩ := hrel
    by_cases hlt : j < n
    · obtain ⟨y, h1, h2⟩ := Hc.out j hlt
      rw [HM.out.2 j (by rw [HL.out]; exact hlt)] at h2
      obtain ⟨m, hm⟩ : ∃ m, m = (rs.getD j []).length := ⟨_, rfl⟩
      rw [← hm] at h2
      have b1 : m ≤ 1048576 := by rw [hm]; exact HR.out j hlt
      have e3 : ahead rs (j + 1) = ahead rs j + m := by rw [hm]; rfl
      have b2 := HMo.out (j + 1) n hlt
      have b3 : 0 ≤ k + (ahead rs j : Int) := by omega
      have b4 : k + (ahead rs j : Int) ≤ 1000000000000 := by omega
      have b5 : ¬ k + (ahead rs j : Int) + (m : Int) < 0 := by omega
      have KC := Lib.hid (heldIntS_at w y m _ b1 b3 b4 h2)
      obtain ⟨⟨xa, xc, hx⟩, _⟩ := h2.cases
      rw [mkRow_len] at hx
      subst hx
      have E3 := Lib.hid e3
      clear e3 hm b2 h2
      go_wp2_with (go_at_call 47; refine KC.out.mono ?_; rintro e w1 ⟨rfl, rfl⟩)
      go_round
      case rel => exact ⟨j + 1, by omega, by go_num, by rw [E3.out]; congr 1; omega⟩
      case measure => simp [intOf]; omega
    · obtain rfl : j = n := by omega
      go_wp2
      go_ret
      exact ⟨rfl, rfl⟩

end Go.Proofs.Ytnpogmhfdjmfdaa
