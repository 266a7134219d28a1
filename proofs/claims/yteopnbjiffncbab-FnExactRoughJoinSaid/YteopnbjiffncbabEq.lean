/-
  The laws' own comparisons: they tell whether what two values read as is the same.
-/
import Derived.Test.YteopnbjiffncbabMem
namespace Go.Proofs.Yteopnbjiffncbab
open Go.RowKit

theorem Ints.cases {w : World} {v : Value} {zs : List Int} (h : Ints w v zs) :
    (∃ x c, v = .slice x zs.length c) ∧ (zs.length = 0 ∨ ∃ b o c, v = .slice (some ⟨b, o, none⟩) zs.length c ∧ ∀ i, i < zs.length → w.cell? ⟨b, o + i, none⟩ = some (.int .i64 (zs.getD i 0))) := by
  rcases h with ⟨rfl, rfl⟩ | ⟨b, o, c, rfl, _, _, _, hc⟩
  · exact ⟨⟨_, _, rfl⟩, .inl rfl⟩
  · exact ⟨⟨_, _, rfl⟩, .inr ⟨b, o, c, rfl, hc⟩⟩

theorem Rws.cases {w : World} {v : Value} {rs : List (List Int)} (h : Rws w v rs) :
    (∃ x c, v = .slice x rs.length c) ∧ (rs.length = 0 ∨ ∃ b o c, v = .slice (some ⟨b, o, none⟩) rs.length c ∧ ∀ i, i < rs.length → ∃ x, w.cell? ⟨b, o + i, none⟩ = some x ∧ Ints w x (rs.getD i [])) := by
  rcases h with ⟨rfl, rfl⟩ | ⟨b, o, c, rfl, _, _, _, hc⟩
  · exact ⟨⟨_, _, rfl⟩, .inl rfl⟩
  · exact ⟨⟨_, _, rfl⟩, .inr ⟨b, o, c, rfl, hc⟩⟩

theorem ne_of_len {α : Type} [DecidableEq α] {a b : List α} (h : a.length ≠ b.length) : decide (a = b) = false := by
  simp only [decide_eq_false_iff_not]; exact fun e => h (by rw [e])
theorem ne_of_get {α : Type} [DecidableEq α] {a b : List α} {i : Nat} {d : α} (h : a.getD i d ≠ b.getD i d) : decide (a = b) = false := by
  simp only [decide_eq_false_iff_not]; exact fun e => h (by rw [e])
theorem eq_of_get {α : Type} [DecidableEq α] {a b : List α} {n : Nat} {d : α} (ha : a.length = n) (hb : b.length = n) (h : ∀ i, i < n → a.getD i d = b.getD i d) : decide (a = b) = true := by
  simp only [decide_eq_true_eq]
  apply List.ext_getElem (by omega)
  intro i h1 h2
  have := h i (by omega)
  simpa [h1, h2] using this
theorem Ints.drewN {w : World} {v : Value} {zs : List Int} (h : Ints w v zs) (n : Nat) : Ints (w.drewN n) v zs := h
theorem Rws.drewN {w : World} {v : Value} {rs : List (List Int)} (h : Rws w v rs) (n : Nat) : Rws (w.drewN n) v rs := h

theorem eqIntS_short (x y : Option Addr) (n m c d : Nat) (w : World) (h : n ≠ m ∨ (n = 0 ∧ m = 0)) :
    Calls Try.prog 62 #[.slice x n c, .slice y m d] w fun e w' => e = .returned (.bool (decide (n = m))) ∧ w = w' := by
  rcases h with h | ⟨rfl, rfl⟩
  · have hn : ((n : Int) != (m : Int)) = true := by simp; omega
    go_enter Try.func62, Try.ntmps62
    go_wp2
    go_ret
    exact ⟨by simpa using h, rfl⟩
  · go_enter Try.func62, Try.ntmps62
    go_wp2
    refine wp_loop_rounds 1 ?_
    rw [rounds_succ]
    go_wp2
    go_ret
    exact ⟨by simp, rfl⟩

set_option maxHeartbeats 1000000 in
theorem eqIntS_long (b o c b' o' c' n : Nat) (za zb : List Int) (w : World) (hn : n ≤ maxLen) (ha : za.length = n) (hb : zb.length = n)
    (hca : ∀ i, i < n → w.cell? ⟨b, o + i, none⟩ = some (.int .i64 (za.getD i 0))) (hcb : ∀ i, i < n → w.cell? ⟨b', o' + i, none⟩ = some (.int .i64 (zb.getD i 0))) :
    Calls Try.prog 62 #[.slice (some ⟨b, o, none⟩) n c, .slice (some ⟨b', o', none⟩) n c'] w fun e w' => e = .returned (.bool (decide (za = zb))) ∧ ∃ m, w' = w.drewN m := by
  unfold maxLen at hn
  have Ha := Lib.hid ha
  have Hb := Lib.hid hb
  have Hca := Lib.hid hca
  have Hcb := Lib.hid hcb
  clear ha hb hca hcb
  go_enter Try.func62, Try.ntmps62
  go_wp2
  go_loopw [5] (fun i wr => ∃ k : Nat, k ≤ n ∧ i = .int .i64 k ∧ (∀ j, j < k → za.getD j 0 = zb.getD j 0) ∧ ∃ m, wr = w.drewN m) (fun i _ => n - (intOf i).toNat)
  case atStart => exact ⟨0, Nat.zero_le _, rfl, fun _ h => absurd h (Nat.not_lt_zero _), 0, rfl⟩
  case round =>
    obtain ⟨k, hk, rfl, heq, m, rfl⟩ := hrel
    have HE := Lib.hid heq
    clear heq
    by_cases hlt : k < n
    · have h1 := Hca.out k hlt
      have h2 := Hcb.out k hlt
      obtain ⟨x, hx⟩ : ∃ x, za.getD k 0 = x := ⟨_, rfl⟩
      obtain ⟨y, hy⟩ : ∃ y, zb.getD k 0 = y := ⟨_, rfl⟩
      rw [hx] at h1
      rw [hy] at h2
      have HX := Lib.hid hx
      have HY := Lib.hid hy
      clear hx hy
      have k0 : (0 : Int) ≤ (k : Int) := by omega
      have k1 : (k : Int) < (n : Int) := by omega
      by_cases he : x = y
      · subst he
        go_wp2
        go_quiet (fail)
        go_wp2
        go_roundw
        case rel => exact ⟨k + 1, by omega, by go_num, fun j hj => by
          by_cases h : j < k
          · exact HE.out j h
          · obtain rfl : j = k := by omega
            rw [HX.out, HY.out], _, rfl⟩
        case measure => simp [intOf]; omega
      · have he' : (x != y) = true := by simpa using he
        go_wp2
        go_quiet (fail)
        go_wp2
        go_ret
        exact ⟨ret_bool (ne_of_get (i := k) (d := 0) (by rw [HX.out, HY.out]; exact he)).symm, _, World.drewN_drewN _ _ _⟩
    · have fin : Hid (decide (za = zb) = true) := eq_of_get (d := 0) Ha.out Hb.out (fun i hi => HE.out i (by omega))
      go_wp2
      go_ret
      exact ⟨ret_bool fin.out.symm, _, rfl⟩

/-- laws.eqIntS: whether two slices read the same. -/
theorem eqIntS_at (w : World) (u v : Value) (za zb : List Int) (ha : Ints w u za) (hb : Ints w v zb) (hl : za.length ≤ maxLen) :
    Calls Try.prog 62 #[u, v] w fun e w' => e = .returned (.bool (decide (za = zb))) ∧ ∃ m, w' = w.drewN m := by
  obtain ⟨⟨x, c, hx⟩, qa⟩ := ha.cases
  obtain ⟨⟨y, d, hy⟩, qb⟩ := hb.cases
  by_cases h : za.length ≠ zb.length ∨ (za.length = 0 ∧ zb.length = 0)
  · rw [hx, hy]
    refine (eqIntS_short x y _ _ c d w h).mono fun e w' ⟨he, hw⟩ => ⟨?_, 0, hw.symm⟩
    rw [he]
    refine ret_bool ?_
    rcases h with h | ⟨h1, h2⟩
    · rw [ne_of_len h]; simpa using h
    · rw [List.eq_nil_of_length_eq_zero h1, List.eq_nil_of_length_eq_zero h2]; simp
  · have e : za.length = zb.length := by omega
    rcases qa with qa | ⟨b, o, c, rfl, hca⟩
    · omega
    rcases qb with qb | ⟨b', o', c', rfl, hcb⟩
    · omega
    rw [← e] at hcb ⊢
    exact eqIntS_long b o c b' o' c' _ za zb w hl rfl e.symm hca hcb


theorem eqIntSS_short (x y : Option Addr) (n m c d : Nat) (w : World) (h : n ≠ m ∨ (n = 0 ∧ m = 0)) :
    Calls Try.prog 46 #[.slice x n c, .slice y m d] w fun e w' => e = .returned (.bool (decide (n = m))) ∧ Below w.heap.size w w' := by
  rcases h with h | ⟨rfl, rfl⟩
  · have hn : ((n : Int) != (m : Int)) = true := by simp; omega
    go_enter Try.func46, Try.ntmps46
    go_wp2
    go_ret
    exact ⟨by simpa using h, Below.refl _ _⟩
  · go_enter Try.func46, Try.ntmps46
    go_wp2
    refine wp_loop_rounds 1 ?_
    rw [rounds_succ]
    go_wp2
    go_ret
    exact ⟨by simp, Below.refl _ _⟩

set_option maxHeartbeats 1000000 in
theorem eqIntSS_long (b o c b' o' c' n : Nat) (ra rb : List (List Int)) (w : World) (hn : n ≤ maxLen) (ha : ra.length = n) (hb : rb.length = n) (hla : ∀ i, i < n → (ra.getD i []).length ≤ maxLen) (hlb : b < w.heap.size) (hlb' : b' < w.heap.size)
    (hca : ∀ i, i < n → ∃ x, w.cell? ⟨b, o + i, none⟩ = some x ∧ Ints w x (ra.getD i [])) (hcb : ∀ i, i < n → ∃ x, w.cell? ⟨b', o' + i, none⟩ = some x ∧ Ints w x (rb.getD i [])) :
    Calls Try.prog 46 #[.slice (some ⟨b, o, none⟩) n c, .slice (some ⟨b', o', none⟩) n c'] w fun e w' => e = .returned (.bool (decide (ra = rb))) ∧ Below w.heap.size w w' := by
  unfold maxLen at hn
  have Ha := Lib.hid ha
  have Hb := Lib.hid hb
  have Hla := Lib.hid hla
  have Hca := Lib.hid hca
  have Hcb := Lib.hid hcb
  clear ha hb hca hcb hla
  go_enter Try.func46, Try.ntmps46
  go_wp2
  go_loopw [5] (fun i wr => ∃ k : Nat, k ≤ n ∧ i = .int .i64 k ∧ (∀ j, j < k → ra.getD j [] = rb.getD j []) ∧ Below w.heap.size w wr) (fun i _ => n - (intOf i).toNat)
  case atStart => exact ⟨0, Nat.zero_le _, rfl, fun _ h => absurd h (Nat.not_lt_zero _), Below.refl _ _⟩
  case round =>
    obtain ⟨k, hk, rfl, heq, hbl⟩ := hrel
    have HE := Lib.hid heq
    have HB := Lib.hid hbl
    clear heq hbl
    by_cases hlt : k < n
    · obtain ⟨x, h1, i1⟩ := Hca.out k hlt
      obtain ⟨y, h2, i2⟩ := Hcb.out k hlt
      rw [← HB.out.cell (p := ⟨b, o + k, none⟩) hlb] at h1
      rw [← HB.out.cell (p := ⟨b', o' + k, none⟩) hlb'] at h2
      have I1 := Lib.hid (i1.below HB.out (Nat.le_refl _))
      have I2 := Lib.hid (i2.below HB.out (Nat.le_refl _))
      clear i1 i2
      have k0 : (0 : Int) ≤ (k : Int) := by omega
      have k1 : (k : Int) < (n : Int) := by omega
      have KC : Hid (∀ q, Calls Try.prog 62 #[x, y] (wr.drewN q) fun e w'' => e = .returned (.bool (decide (ra.getD k [] = rb.getD k []))) ∧ ∃ m, w'' = (wr.drewN q).drewN m) := fun q =>
        eqIntS_at (wr.drewN q) x y _ _ (I1.out.drewN q) (I2.out.drewN q) (Hla.out k hlt)
      obtain ⟨⟨xa, xc, hx⟩, _⟩ := I1.out.cases
      obtain ⟨⟨ya, yc, hy⟩, _⟩ := I2.out.cases
      obtain ⟨ln, hln⟩ : ∃ ln, ln = (ra.getD k []).length := ⟨_, rfl⟩
      obtain ⟨lm, hlm⟩ : ∃ lm, lm = (rb.getD k []).length := ⟨_, rfl⟩
      rw [← hln] at hx
      rw [← hlm] at hy
      subst hx hy
      clear hln hlm I1 I2
      by_cases he : ra.getD k [] = rb.getD k []
      · rw [show decide (ra.getD k [] = rb.getD k []) = true from by simpa using he] at KC
        have HEQ := Lib.hid he
        clear he
        go_wp2
        go_quiet ((with_reducible refine Calls.quiet_of (KC.out _)))
        go_wp2
        go_roundw
        case rel => exact ⟨k + 1, by omega, by go_num, fun j hj => by
          by_cases h : j < k
          · exact HE.out j h
          · obtain rfl : j = k := by omega
            exact HEQ.out, below_drewN HB.out _⟩
        case measure => simp [intOf]; omega
      · rw [show decide (ra.getD k [] = rb.getD k []) = false from by simpa using he] at KC
        have HNE := Lib.hid he
        clear he
        go_wp2
        go_quiet ((with_reducible refine Calls.quiet_of (KC.out _)))
        go_wp2
        go_ret
        exact ⟨ret_bool (ne_of_get (i := k) (d := []) HNE.out).symm, below_drewN HB.out _⟩
    · have fin : Hid (decide (ra = rb) = true) := eq_of_get (d := []) Ha.out Hb.out (fun i hi => HE.out i (by omega))
      go_wp2
      go_ret
      exact ⟨ret_bool fin.out.symm, HB.out⟩

/-- laws.eqIntSS: whether rows read the same. -/
theorem eqIntSS_at (w : World) (u v : Value) (ra rb : List (List Int)) (ha : Rws w u ra) (hb : Rws w v rb) (hl : ra.length ≤ maxLen) (hla : ∀ i, i < ra.length → (ra.getD i []).length ≤ maxLen) :
    Calls Try.prog 46 #[u, v] w fun e w' => e = .returned (.bool (decide (ra = rb))) ∧ Below w.heap.size w w' := by
  obtain ⟨⟨x, c, hx⟩, qa⟩ := ha.cases
  obtain ⟨⟨y, d, hy⟩, qb⟩ := hb.cases
  by_cases h : ra.length ≠ rb.length ∨ (ra.length = 0 ∧ rb.length = 0)
  · rw [hx, hy]
    refine (eqIntSS_short x y _ _ c d w h).mono fun e w' ⟨he, hw⟩ => ⟨?_, hw⟩
    rw [he]
    refine ret_bool ?_
    rcases h with h | ⟨h1, h2⟩
    · rw [ne_of_len h]; simpa using h
    · rw [List.eq_nil_of_length_eq_zero h1, List.eq_nil_of_length_eq_zero h2]; simp
  · have e : ra.length = rb.length := by omega
    rcases ha with ⟨rfl, rfl⟩ | ⟨b, o, c, rfl, _, _, hlb, hca⟩
    · exact absurd (Or.inr ⟨rfl, e.symm⟩) h
    rcases hb with ⟨rfl, rfl⟩ | ⟨b', o', c', rfl, _, _, hlb', hcb⟩
    · exact absurd (Or.inr ⟨e, rfl⟩) h
    rw [← e] at hcb ⊢
    exact eqIntSS_long b o c b' o' c' _ ra rb w hl rfl e.symm hla hlb hlb' hca hcb


/-- eqRough, whole. -/
theorem eqRough_at (w : World) (u v : Value) (ra rb : List (List Int)) (ha : Rws w u ra) (hb : Rws w v rb) (hl : ra.length ≤ maxLen) (hla : ∀ i, i < ra.length → (ra.getD i []).length ≤ maxLen) :
    Calls Try.prog 16 #[.agg #[u], .agg #[v]] w fun e w' => e = .returned (.bool (decide (ra = rb))) ∧ Below w.heap.size w w' := by
  obtain ⟨⟨x, c, hx⟩, _⟩ := ha.cases
  obtain ⟨⟨y, d, hy⟩, _⟩ := hb.cases
  obtain ⟨n, hn⟩ : ∃ n, n = ra.length := ⟨_, rfl⟩
  obtain ⟨m, hm⟩ : ∃ m, m = rb.length := ⟨_, rfl⟩
  rw [← hn] at hx
  rw [← hm] at hy
  subst hx hy
  have K : Hid (∀ W, Below w.heap.size w W → Calls Try.prog 46 #[.slice x n c, .slice y m d] W fun e w' => e = .returned (.bool (decide (ra = rb))) ∧ Below W.heap.size W w') := fun W hW =>
    eqIntSS_at W _ _ ra rb (ha.below hW (Nat.le_refl _)) (hb.below hW (Nat.le_refl _)) hl hla
  clear ha hb hn hm hl hla
  by_cases h : ra = rb
  · rw [show decide (ra = rb) = true from by simpa using h] at K ⊢
    clear h
    go_enter Try.func16, Try.ntmps16
    go_wp2_with (go_at_call 46; refine (K.out _ (((Below.refl _ _).alloc (Nat.le_refl _) _).alloc (by simp) _)).mono ?_; rintro e w1 ⟨rfl, hb1⟩)
    go_ret
    exact ⟨rfl, (((Below.refl _ _).alloc (Nat.le_refl _) _).alloc (by simp) _).trans (hb1.mono (by simp; omega))⟩
  · rw [show decide (ra = rb) = false from by simpa using h] at K ⊢
    clear h
    go_enter Try.func16, Try.ntmps16
    go_wp2_with (go_at_call 46; refine (K.out _ (((Below.refl _ _).alloc (Nat.le_refl _) _).alloc (by simp) _)).mono ?_; rintro e w1 ⟨rfl, hb1⟩)
    go_ret
    exact ⟨rfl, (((Below.refl _ _).alloc (Nat.le_refl _) _).alloc (by simp) _).trans (hb1.mono (by simp; omega))⟩

end Go.Proofs.Yteopnbjiffncbab
