/-
  Whether a thing was counted, and whether that is known: of the program and of its model.
-/
import Derived.Test.YteopnbjiffncbabFew2
namespace Go.Proofs.Yteopnbjiffncbab
open Go.RowKit Go.Sort

def inThings (t : Int) : Bool := decide (0 ≤ t ∧ t < 64)
/-- Whether a thing is known to be counted; whether it is known. -/
def hasA (zs : List Int) (t : Int) : Bool := fewB zs && inThings t && decide (markV t ∈ zs)
def hasK (zs : List Int) (t : Int) : Bool := fewB zs && inThings t && (decide (markV t ∈ zs) || decide (zs.length < 6) || decide (markV t < zs.getD 5 0))

theorem mem_get {zs : List Int} {x : Int} : x ∈ zs ↔ ∃ i, i < zs.length ∧ zs.getD i 0 = x := by
  constructor
  · intro h
    obtain ⟨i, hi, rfl⟩ := List.getElem_of_mem h
    exact ⟨i, hi, by simp [hi]⟩
  · rintro ⟨i, hi, rfl⟩
    exact getD_mem zs i 0 hi

set_option maxHeartbeats 1000000 in
theorem index_at (w : World) (v : Value) (zs : List Int) (x : Int) (h : Ints w v zs) :
    Calls Try.prog 75 #[v, .int .i64 x] w fun e w' => ∃ i : Int, e = .returned (.int .i64 i) ∧ (0 ≤ i ↔ x ∈ zs) ∧ w = w' := by
  obtain ⟨⟨y, c, hx⟩, q⟩ := h.cases
  by_cases h0 : zs.length = 0
  · have h1 := List.eq_nil_of_length_eq_zero h0
    subst h1
    subst hx
    go_enter Try.func75, Try.ntmps75
    go_wp2
    refine wp_loop_rounds 1 ?_
    rw [rounds_succ]
    go_wp2
    go_ret
    exact ⟨-1, rfl, by simp, rfl⟩
  rcases q with q | ⟨b, o, c', hv, hc⟩
  · exact absurd q h0
  have hm : zs.length ≤ maxLen := by
    rcases h with ⟨_, h⟩ | ⟨_, _, _, _, h1, h2, _, _⟩
    · rw [h]; exact Nat.zero_le _
    · omega
  unfold maxLen at hm
  obtain ⟨n, hn⟩ : ∃ n, n = zs.length := ⟨_, rfl⟩
  rw [← hn] at hv hc hm
  have HC := Lib.hid hc
  have HN := Lib.hid hn
  subst hv
  clear hc hn h hx h0
  go_enter Try.func75, Try.ntmps75
  go_wp2
  go_loop [8] (fun i => ∃ k : Nat, k ≤ n ∧ i = .int .i64 k ∧ ∀ i, i < k → zs.getD i 0 ≠ x) (fun i => n - (intOf i).toNat)
  case atStart => exact ⟨0, Nat.zero_le _, rfl, fun _ h => absurd h (Nat.not_lt_zero _)⟩
  case round =>
    obtain ⟨k, hk, rfl, hg⟩ := hrel
    have G := Lib.hid hg
    clear hg
    by_cases hlt : k < n
    · have h1 := HC.out k hlt
      obtain ⟨y, hy⟩ : ∃ y, zs.getD k 0 = y := ⟨_, rfl⟩
      rw [hy] at h1
      have HY := Lib.hid hy
      clear hy
      have k0 : (0 : Int) ≤ (k : Int) := by omega
      have kn : (k : Int) < (n : Int) := by omega
      by_cases he : x = y
      · subst he
        have fin : Hid (x ∈ zs) := mem_get.2 ⟨k, by rw [← HN.out]; exact hlt, HY.out⟩
        go_wp2
        go_ret
        exact ⟨k, rfl, ⟨fun _ => fin.out, fun _ => k0⟩, rfl⟩
      · have he' : (x == y) = false := by simpa using he
        have he2 : decide (x = y) = false := by simpa using he
        go_wp2
        go_round
        case rel => exact ⟨k + 1, by omega, by go_num, fun i hi => by
          by_cases h : i < k
          · exact G.out i h
          · obtain rfl : i = k := by omega
            rw [HY.out]; exact fun e => he e.symm⟩
        case measure => simp [intOf]; omega
    · have fin : Hid (x ∉ zs) := fun h => by
        obtain ⟨i, hi, e⟩ := mem_get.1 h
        exact G.out i (by rw [← HN.out] at hi; omega) e
      go_wp2
      go_ret
      exact ⟨-1, rfl, ⟨fun h => by omega, fun h => absurd h fin.out⟩, rfl⟩

theorem contains_at (w : World) (v : Value) (zs : List Int) (x : Int) (h : Ints w v zs) :
    Calls Try.prog 69 #[v, .int .i64 x] w fun e w' => e = .returned (.bool (decide (x ∈ zs))) ∧ w = w' := by
  have K := Lib.hid (index_at w v zs x h)
  obtain ⟨⟨y, c, hx⟩, _⟩ := h.cases
  obtain ⟨n, hn⟩ : ∃ n, n = zs.length := ⟨_, rfl⟩
  rw [← hn] at hx
  subst hx
  clear h hn
  go_enter Try.func69, Try.ntmps69
  go_wp2_with fail
  refine K.out.mono ?_
  rintro e w1 ⟨i, rfl, hi, rfl⟩
  have HI := Lib.hid hi
  clear hi
  by_cases h : 0 ≤ i
  · have fin := Lib.hid (HI.out.1 h)
    go_wp2
    go_ret
    exact ⟨ret_bool (by rw [decide_eq_true fin.out]), rfl⟩
  · have fin := Lib.hid (fun q => h (HI.out.2 q))
    go_wp2
    go_ret
    exact ⟨ret_bool (by rw [decide_eq_false fin.out]; simp; omega), rfl⟩

theorem has_no {zs : List Int} {t : Int} (h : fewB zs = false ∨ inThings t = false) : hasA zs t = false ∧ hasK zs t = false := by
  unfold hasA hasK
  rcases h with h | h <;> rw [h] <;> simp
theorem has_in {zs : List Int} {t : Int} (h : fewB zs = true) (ht : inThings t = true) (hm : markV t ∈ zs) : hasA zs t = true ∧ hasK zs t = true := by
  unfold hasA hasK
  rw [h, ht, decide_eq_true hm]; simp
theorem has_out {zs : List Int} {t : Int} (h : fewB zs = true) (ht : inThings t = true) (hm : markV t ∉ zs) : hasA zs t = false ∧ hasK zs t = (decide (zs.length < 6) || decide (markV t < zs.getD 5 0)) := by
  unfold hasA hasK
  rw [h, ht, decide_eq_false hm]; simp
theorem inThings_iff (t : Int) : inThings t = true ↔ 0 ≤ t ∧ t < 64 := by simp [inThings]
theorem inThings_no (t : Int) : inThings t = false ↔ t < 0 ∨ 64 ≤ t := by simp [inThings]; omega

set_option maxHeartbeats 2000000 in
theorem imHas_at (w : World) (u : Value) (zs : List Int) (t : Int) (h : Ints w u zs) :
    Calls Try.prog 45 #[.agg #[u], .int .i64 t] w fun e w' => e = .returned (.tuple #[.bool (hasA zs t), .bool (hasK zs t)]) ∧ Below w.heap.size w w' := by
  have hA := (Below.refl w.heap.size w).alloc (Nat.le_refl _) (.cells #[u] 46)
  have I := Lib.hid (h.below hA (Nat.le_refl _))
  have K := Lib.hid (imFewOk_at _ u zs I.out)
  have HA := Lib.hid hA
  clear hA
  obtain ⟨⟨x, c, hx⟩, q⟩ := h.cases
  cases hok : fewB zs with
  | false =>
    rw [(has_no (.inl hok)).1, (has_no (.inl hok)).2]
    rw [hok] at K
    obtain ⟨n, hn⟩ : ∃ n, n = zs.length := ⟨_, rfl⟩
    rw [← hn] at hx
    subst hx
    clear h q hok hn I
    go_enter Try.func45, Try.ntmps45
    go_wp2_with fail
    refine K.out.mono ?_
    rintro e w1 ⟨rfl, hb1⟩
    go_wp2
    go_ret2
    exact ⟨rfl, HA.out.trans (hb1.mono HA.out.size)⟩
  | true =>
    rw [hok] at K
    cases hth : inThings t with
    | false =>
      rw [(has_no (.inr hth)).1, (has_no (.inr hth)).2]
      obtain ⟨n, hn⟩ : ∃ n, n = zs.length := ⟨_, rfl⟩
      rw [← hn] at hx
      subst hx
      have ht := (inThings_no t).1 hth
      clear h q hok hn I hth
      go_enter Try.func45, Try.ntmps45
      go_wp2_with fail
      refine K.out.mono ?_
      rintro e w1 ⟨rfl, hb1⟩
      go_wp2_with (go_at_call 55; refine (isThing_no _ _ ht).mono ?_; rintro e w' ⟨rfl, rfl⟩)
      go_ret2
      exact ⟨rfl, HA.out.trans (hb1.mono HA.out.size)⟩
    | true =>
      obtain ⟨t0, t1⟩ := (inThings_iff t).1 hth
      have hp := fewB_parts hok
      have KM : Hid (∀ W, Calls Try.prog 65 #[.int .i64 t] W fun e w' => e = .returned (.int .i64 (markV t)) ∧ W = w') := fun W => imMark_at t W
      by_cases hm : markV t ∈ zs
      · rw [(has_in hok hth hm).1, (has_in hok hth hm).2]
        have KC : Hid (∀ W, Ints W u zs → Calls Try.prog 69 #[u, .int .i64 (markV t)] W fun e w' => e = .returned (.bool true) ∧ W = w') := fun W hW => by
          have := contains_at W u zs (markV t) hW
          rw [decide_eq_true hm] at this
          exact this
        obtain ⟨n, hn⟩ : ∃ n, n = zs.length := ⟨_, rfl⟩
        rw [← hn] at hx
        have cb : (w.alloc (.cells #[.slice x n c] 46)).cell? ⟨w.heap.size, 0, none⟩ = some (.slice x n c) := by simp
        subst hx
        generalize markV t = M at *
        clear h q hok hn hth hm hp
        go_enter Try.func45, Try.ntmps45
        go_wp2_with fail
        refine K.out.mono ?_
        rintro e w1 ⟨rfl, hb1⟩
        have cb1 := cell_later hb1 cb
        have I1 := Lib.hid (I.out.below hb1 (Nat.le_refl _))
        go_wp2_with (first | (go_at_call 55; refine (isThing_yes _ _ t0 t1).mono ?_; rintro e w' ⟨rfl, rfl⟩) | (go_at_call 65; refine (KM.out _).mono ?_; rintro e w' ⟨rfl, rfl⟩) | (go_at_call 69; refine (KC.out _ I1.out).mono ?_; rintro e w' ⟨rfl, rfl⟩))
        go_ret2
        exact ⟨rfl, HA.out.trans (hb1.mono HA.out.size)⟩
      · rw [(has_out hok hth hm).1, (has_out hok hth hm).2]
        have KC : Hid (∀ W, Ints W u zs → Calls Try.prog 69 #[u, .int .i64 (markV t)] W fun e w' => e = .returned (.bool false) ∧ W = w') := fun W hW => by
          have := contains_at W u zs (markV t) hW
          rw [decide_eq_false hm] at this
          exact this
        by_cases hl : zs.length < 6
        · rw [decide_eq_true hl]
          obtain ⟨n, hn⟩ : ∃ n, n = zs.length := ⟨_, rfl⟩
          rw [← hn] at hx hl
          have cb : (w.alloc (.cells #[.slice x n c] 46)).cell? ⟨w.heap.size, 0, none⟩ = some (.slice x n c) := by simp
          subst hx
          generalize markV t = M at *
          have h6 : (n : Int) < 6 := by omega
          clear h q hok hn hth hm hp hl
          go_enter Try.func45, Try.ntmps45
          go_wp2_with fail
          refine K.out.mono ?_
          rintro e w1 ⟨rfl, hb1⟩
          have cb1 := cell_later hb1 cb
          have I1 := Lib.hid (I.out.below hb1 (Nat.le_refl _))
          go_wp2_with (first | (go_at_call 55; refine (isThing_yes _ _ t0 t1).mono ?_; rintro e w' ⟨rfl, rfl⟩) | (go_at_call 65; refine (KM.out _).mono ?_; rintro e w' ⟨rfl, rfl⟩) | (go_at_call 69; refine (KC.out _ I1.out).mono ?_; rintro e w' ⟨rfl, rfl⟩))
          go_quiet (fail)
          go_wp2
          go_ret2
          exact ⟨rfl, below_drewN (HA.out.trans (hb1.mono HA.out.size)) _⟩
        · have h6 : zs.length = 6 := by omega
          rw [decide_eq_false hl]
          rcases h with ⟨rfl, rfl⟩ | ⟨b, o, cap, rfl, h1, h2, hb, hc⟩
          · cases h6
          have c5 := hc 5 (by omega)
          rw [h6] at K HA I KC ⊢
          have cb : (w.alloc (.cells #[.slice (some ⟨b, o, none⟩) 6 cap] 46)).cell? ⟨w.heap.size, 0, none⟩ = some (.slice (some ⟨b, o, none⟩) 6 cap) := by simp
          rw [← HA.out.cell (p := ⟨b, o + 5, none⟩) hb] at c5
          generalize zs.getD 5 0 = y at *
          generalize markV t = M at *
          clear hx q hc hok hth hm hp hl h6 h1 h2
          by_cases hy : M < y
          · have hd : decide (M < y) = true := decide_eq_true hy
            rw [hd]
            go_enter Try.func45, Try.ntmps45
            go_wp2_with fail
            refine K.out.mono ?_
            rintro e w1 ⟨rfl, hb1⟩
            have cb1 := cell_later hb1 cb
            have c51 := cell_later hb1 c5
            have I1 := Lib.hid (I.out.below hb1 (Nat.le_refl _))
            go_wp2_with (first | (go_at_call 55; refine (isThing_yes _ _ t0 t1).mono ?_; rintro e w' ⟨rfl, rfl⟩) | (go_at_call 65; refine (KM.out _).mono ?_; rintro e w' ⟨rfl, rfl⟩) | (go_at_call 69; refine (KC.out _ I1.out).mono ?_; rintro e w' ⟨rfl, rfl⟩))
            go_quiet (fail)
            go_wp2
            go_ret2
            exact ⟨rfl, below_drewN (HA.out.trans (hb1.mono HA.out.size)) _⟩
          · have hd : decide (M < y) = false := decide_eq_false hy
            rw [hd]
            go_enter Try.func45, Try.ntmps45
            go_wp2_with fail
            refine K.out.mono ?_
            rintro e w1 ⟨rfl, hb1⟩
            have cb1 := cell_later hb1 cb
            have c51 := cell_later hb1 c5
            have I1 := Lib.hid (I.out.below hb1 (Nat.le_refl _))
            go_wp2_with (first | (go_at_call 55; refine (isThing_yes _ _ t0 t1).mono ?_; rintro e w' ⟨rfl, rfl⟩) | (go_at_call 65; refine (KM.out _).mono ?_; rintro e w' ⟨rfl, rfl⟩) | (go_at_call 69; refine (KC.out _ I1.out).mono ?_; rintro e w' ⟨rfl, rfl⟩))
            go_quiet (fail)
            go_wp2
            go_ret2
            exact ⟨rfl, below_drewN (HA.out.trans (hb1.mono HA.out.size)) _⟩

set_option maxHeartbeats 2000000 in
theorem spHas_no (w : World) (u : Value) (zs : List Int) (t : Int) (h : Ints w u zs) (hno : fewB zs = false ∨ inThings t = false) :
    Calls Try.prog 44 #[.agg #[u], .int .i64 t] w fun e w' => e = .returned (.tuple #[.bool false, .bool false]) ∧ Below w.heap.size w w' := by
  have hA := (Below.refl w.heap.size w).alloc (Nat.le_refl _) (.cells #[u] 46)
  have K := Lib.hid (spFewOk_at _ u zs (h.below hA (Nat.le_refl _)))
  have HA := Lib.hid hA
  clear hA
  obtain ⟨⟨x, c, hx⟩, _⟩ := h.cases
  obtain ⟨n, hn⟩ : ∃ n, n = zs.length := ⟨_, rfl⟩
  rw [← hn] at hx
  subst hx
  clear h hn
  cases hok : fewB zs with
  | false =>
    rw [hok] at K
    clear hok hno
    go_enter Try.func44, Try.ntmps44
    go_wp2_with fail
    refine K.out.mono ?_
    rintro e w1 ⟨rfl, hb1⟩
    go_wp2
    go_ret2
    exact ⟨rfl, HA.out.trans (hb1.mono HA.out.size)⟩
  | true =>
    rw [hok] at K
    have ht : t < 0 ∨ 63 < t := by
      rcases hno with h | h
      · rw [hok] at h; cases h
      · have := (inThings_no t).1 h; omega
    clear hok hno
    go_enter Try.func44, Try.ntmps44
    go_wp2_with fail
    refine K.out.mono ?_
    rintro e w1 ⟨rfl, hb1⟩
    go_wp2_with (go_at_call 50; refine (l6In_no _ _ _ _ ht).mono ?_; rintro e w' ⟨rfl, rfl⟩)
    go_ret2
    exact ⟨rfl, HA.out.trans (hb1.mono HA.out.size)⟩

set_option maxHeartbeats 2000000 in
theorem spHas_yes (w : World) (u : Value) (zs : List Int) (t : Int) (h : Ints w u zs) (hok : fewB zs = true) (t0 : 0 ≤ t) (t1 : t < 64) :
    Calls Try.prog 44 #[.agg #[u], .int .i64 t] w fun e w' => e = .returned (.tuple #[.bool (hasA zs t), .bool (hasK zs t)]) ∧ Below w.heap.size w w' := by
  have hth := (inThings_iff t).2 ⟨t0, t1⟩
  have hA := (Below.refl w.heap.size w).alloc (Nat.le_refl _) (.cells #[u] 46)
  have K := Lib.hid (spFewOk_at _ u zs (h.below hA (Nat.le_refl _)))
  rw [hok] at K
  have HA := Lib.hid hA
  clear hA
  have t2 : t ≤ 63 := by omega
  have KM : Hid (∀ W, Calls Try.prog 64 #[.int .i64 t] W fun e w' => e = .returned (.int .i64 (markV t)) ∧ W = w') := fun W => spMark_at t W
  have YES := Lib.hid (fun hm => @has_in zs t hok hth hm)
  have NO := Lib.hid (fun hm => @has_out zs t hok hth hm)
  have hl := (fewB_parts hok).1
  obtain ⟨⟨x, c, hx⟩, q⟩ := h.cases
  obtain ⟨n, hn⟩ : ∃ n, n = zs.length := ⟨_, rfl⟩
  rw [← hn] at hx hl
  have HN := Lib.hid hn
  have cb : (w.alloc (.cells #[.slice x n c] 46)).cell? ⟨w.heap.size, 0, none⟩ = some (.slice x n c) := by simp
  have hcells : ∀ i, i < n → ∃ b o, x = some ⟨b, o, none⟩ ∧ b < w.heap.size ∧ w.cell? ⟨b, o + i, none⟩ = some (.int .i64 (zs.getD i 0)) := fun i hi => by
    rcases h with ⟨rfl, rfl⟩ | ⟨b, o, cap, e, _, _, hb, hc⟩
    · rw [hn] at hi; cases hi
    · rw [e] at hx
      exact ⟨b, o, (Value.slice.inj hx).1.symm, hb, hc i (by rw [← hn]; exact hi)⟩
  have HC := Lib.hid hcells
  subst hx
  generalize markV t = M at *
  clear h q hn hok hth hcells
  go_enter Try.func44, Try.ntmps44
  go_wp2_with fail
  refine K.out.mono ?_
  rintro e w1 ⟨rfl, hb1⟩
  have cb1 := cell_later hb1 cb
  have B1 := Lib.hid (HA.out.trans (hb1.mono HA.out.size))
  clear hb1 cb
  go_wp2_with (first | (go_at_call 50; refine (l6In_yes _ _ _ _ t0 t2).mono ?_; rintro e w' ⟨rfl, rfl⟩) | (go_at_call 64; refine (KM.out _).mono ?_; rintro e w' ⟨rfl, rfl⟩))
  go_loop [8] (fun i => ∃ k : Nat, k ≤ n ∧ i = .int .i64 k ∧ ∀ i, i < k → zs.getD i 0 ≠ M) (fun i => n - (intOf i).toNat)
  case atStart => exact ⟨0, Nat.zero_le _, rfl, fun _ h => absurd h (Nat.not_lt_zero _)⟩
  case round =>
    obtain ⟨k, hk, rfl, hg⟩ := hrel
    have G := Lib.hid hg
    clear hg
    by_cases hlt : k < n
    · obtain ⟨b, o, rfl, hb, h1⟩ := HC.out k hlt
      rw [← B1.out.cell (p := ⟨b, o + k, none⟩) hb] at h1
      obtain ⟨y, hy⟩ : ∃ y, zs.getD k 0 = y := ⟨_, rfl⟩
      rw [hy] at h1
      have HY := Lib.hid hy
      clear hy
      have k0 : (0 : Int) ≤ (k : Int) := by omega
      have kn : (k : Int) < (n : Int) := by omega
      by_cases he : y = M
      · subst he
        have fin := Lib.hid (YES.out (mem_get.2 ⟨k, by rw [← HN.out]; exact hlt, HY.out⟩))
        go_wp2
        go_ret2
        exact ⟨by rw [fin.out.1, fin.out.2]; rfl, B1.out⟩
      · have he' : (y == M) = false := by simpa using he
        have he2 : decide (y = M) = false := by simpa using he
        go_wp2
        go_round
        case rel => exact ⟨k + 1, by omega, by go_num, fun i hi => by
          by_cases h : i < k
          · exact G.out i h
          · obtain rfl : i = k := by omega
            rw [HY.out]; exact he⟩
        case measure => simp [intOf]; omega
    · have hm : M ∉ zs := fun h => by
        obtain ⟨i, hi, e⟩ := mem_get.1 h
        exact G.out i (by rw [← HN.out] at hi; omega) e
      have fin := NO.out hm
      rw [← HN.out] at fin
      have FIN := Lib.hid fin
      clear fin hm
      by_cases h6 : n < 6
      · have h6' : (n : Int) < 6 := by omega
        have d6 : Hid (decide (n < 6) = true) := decide_eq_true h6
        go_wp2
        go_quiet (fail)
        go_wp2
        go_ret2
        exact ⟨by rw [FIN.out.1, FIN.out.2, d6.out]; rfl, below_drewN B1.out _⟩
      · obtain rfl : n = 6 := by omega
        obtain ⟨b, o, rfl, hb, h1⟩ := HC.out 5 (by omega)
        rw [← B1.out.cell (p := ⟨b, o + 5, none⟩) hb] at h1
        have d6 : Hid (decide (6 < 6) = false) := rfl
        generalize zs.getD 5 0 = y at *
        by_cases hy : M < y
        · have hd : decide (M < y) = true := decide_eq_true hy
          go_wp2
          go_quiet (fail)
          go_wp2
          go_ret2
          exact ⟨by rw [FIN.out.1, FIN.out.2, d6.out, hd]; rfl, below_drewN B1.out _⟩
        · have hd : decide (M < y) = false := decide_eq_false hy
          go_wp2
          go_quiet (fail)
          go_wp2
          go_ret2
          exact ⟨by rw [FIN.out.1, FIN.out.2, d6.out, hd]; rfl, below_drewN B1.out _⟩

theorem spHas_at (w : World) (u : Value) (zs : List Int) (t : Int) (h : Ints w u zs) :
    Calls Try.prog 44 #[.agg #[u], .int .i64 t] w fun e w' => e = .returned (.tuple #[.bool (hasA zs t), .bool (hasK zs t)]) ∧ Below w.heap.size w w' := by
  by_cases hno : fewB zs = false ∨ inThings t = false
  · rw [(has_no hno).1, (has_no hno).2]
    exact spHas_no w u zs t h hno
  · have h1 : fewB zs = true := by
      cases e : fewB zs with
      | true => rfl
      | false => exact absurd (.inl e) hno
    have h2 : inThings t = true := by
      cases e : inThings t with
      | true => rfl
      | false => exact absurd (.inr e) hno
    have := (inThings_iff t).1 h2
    exact spHas_yes w u zs t h h1 this.1 this.2

end Go.Proofs.Yteopnbjiffncbab
