/-
  RoughAll of the model, and RoughGet of the program and of its model.
-/
import Derived.Test.YteopnbjiffncbabImAll
import Derived.Test.YteopnbjiffncbabLast
namespace Go.Proofs.Yteopnbjiffncbab
open Go.RowKit Go.Sort

/-- How an ok rough count lies in memory. -/
theorem ok_form {w : World} {u : Value} {rs : List (List Int)} (h : Rws w u rs) (hok : okB rs = true) :
    ∃ b o cap, u = .slice (some ⟨b, o, none⟩) 3 cap ∧ 3 ≤ cap ∧ b < w.heap.size ∧
      ∀ i, i < 3 → ∃ bi oi ci, w.cell? ⟨b, o + i, none⟩ = some (.slice (some ⟨bi, oi, none⟩) 8 ci) ∧ bi < w.heap.size ∧ ∀ k, k < 8 → w.cell? ⟨bi, oi + k, none⟩ = some (.int .i64 ((rs.getD i []).getD k 0)) := by
  obtain ⟨h3, hg⟩ := (okB_iff rs).1 hok
  rcases h with ⟨rfl, rfl⟩ | ⟨b, o, cap, rfl, hcap, _, hb, hc⟩
  · simp at h3
  refine ⟨b, o, cap, by rw [h3], by omega, hb, fun i hi => ?_⟩
  obtain ⟨x, hx, hi'⟩ := hc i (by omega)
  have g := hg i hi
  rcases hi' with ⟨_, h0⟩ | ⟨bi, oi, ci, rfl, _, _, hbi, hci⟩
  · have := g.1; rw [h0] at this; simp at this
  · rw [g.1] at hx hci
    exact ⟨bi, oi, ci, hx, hbi, hci⟩

/-- The number at the place of the thing t in row i. -/
def atV (rs : List (List Int)) (i : Nat) (t : Int) : Int := (rs.getD i []).getD (place i t).toNat 0
/-- How often a thing was counted at most; -1, if the count is not ok, or that is no thing. -/
def getV (rs : List (List Int)) (t : Int) : Int := if okB rs = true ∧ 0 ≤ t ∧ t < 64 then min (min (atV rs 0 t) (atV rs 1 t)) (atV rs 2 t) else -1
theorem getV_ok {rs : List (List Int)} {t : Int} (h : okB rs = true) (h0 : 0 ≤ t) (h1 : t < 64) : getV rs t = min (min (atV rs 0 t) (atV rs 1 t)) (atV rs 2 t) := if_pos ⟨h, h0, h1⟩
theorem getV_not {rs : List (List Int)} {t : Int} (h : okB rs = false ∨ t < 0 ∨ 64 ≤ t) : getV rs t = -1 := if_neg (fun q => by
  rcases h with h | h
  · rw [q.1] at h; cases h
  · omega)
theorem place_nat (i t : Int) : ∃ P : Nat, place i t = P ∧ P < 8 ∧ (place i t).toNat = P := by
  have := place_bd i t
  exact ⟨(place i t).toNat, by omega, by omega, rfl⟩
theorem atV_bd {rs : List (List Int)} (h : okB rs = true) (i : Nat) (hi : i < 3) (t : Int) : 0 ≤ atV rs i t ∧ atV rs i t ≤ 2000 := by
  obtain ⟨_, hg⟩ := (okB_iff rs).1 h
  obtain ⟨P, _, hP, e⟩ := place_nat i t
  unfold atV
  rw [e]
  exact (hg i hi).2.1 P hP

set_option maxHeartbeats 1000000 in
theorem imGet_at (w : World) (u : Value) (rs : List (List Int)) (t : Int) (h : Rws w u rs) :
    Calls Try.prog 26 #[.agg #[u], .int .i64 t] w fun e w' => e = .returned (.int .i64 (getV rs t)) ∧ Below w.heap.size w w' := by
  have hA := (Below.refl w.heap.size w).alloc (Nat.le_refl _) (.cells #[u] 24)
  have K := Lib.hid (imOk_at _ u rs (h.below hA (Nat.le_refl _)))
  have HA := Lib.hid hA
  clear hA
  cases hok : okB rs with
  | false =>
    rw [hok] at K
    rw [getV_not (.inl hok)]
    obtain ⟨⟨x, c, hx⟩, _⟩ := h.cases
    obtain ⟨n, hn⟩ : ∃ n, n = rs.length := ⟨_, rfl⟩
    rw [← hn] at hx
    subst hx
    clear h hn hok
    go_enter Try.func26, Try.ntmps26
    go_wp2_with (go_at_call 22; refine K.out.mono ?_; rintro e w1 ⟨rfl, hb1⟩)
    go_ret
    exact ⟨rfl, HA.out.trans (hb1.mono HA.out.size)⟩
  | true =>
    rw [hok] at K
    obtain ⟨b, o, cap, rfl, hcap, hb, hrow⟩ := ok_form h hok
    by_cases ht : t < 0 ∨ 64 ≤ t
    · rw [getV_not (.inr ht)]
      clear h hrow hok
      go_enter Try.func26, Try.ntmps26
      go_wp2_with (first | (go_at_call 22; refine K.out.mono ?_; rintro e w1 ⟨rfl, hb1⟩) | (go_at_call 55; refine (isThing_no _ _ ht).mono ?_; rintro e w' ⟨rfl, rfl⟩))
      go_ret
      exact ⟨rfl, HA.out.trans (hb1.mono HA.out.size)⟩
    · have h0 : 0 ≤ t := by omega
      have h1 : t < 64 := by omega
      have fin := Lib.hid (getV_ok hok h0 h1)
      have A0 := (atV_bd hok 0 (by omega) t).2
      obtain ⟨b0, o0, c0, e0, l0, r0⟩ := hrow 0 (by omega)
      obtain ⟨b1, o1, c1, e1, l1, r1⟩ := hrow 1 (by omega)
      obtain ⟨b2, o2, c2, e2, l2, r2⟩ := hrow 2 (by omega)
      obtain ⟨P0, p0, q0, s0⟩ := place_nat 0 t
      obtain ⟨P1, p1, q1, s1⟩ := place_nat 1 t
      obtain ⟨P2, p2, q2, s2⟩ := place_nat 2 t
      have x0 : w.cell? ⟨b0, o0 + P0, none⟩ = some (.int .i64 (atV rs 0 t)) := by unfold atV; rw [show ((0 : Nat) : Int) = 0 from rfl, s0]; exact r0 P0 q0
      have x1 : w.cell? ⟨b1, o1 + P1, none⟩ = some (.int .i64 (atV rs 1 t)) := by unfold atV; rw [show ((1 : Nat) : Int) = 1 from rfl, s1]; exact r1 P1 q1
      have x2 : w.cell? ⟨b2, o2 + P2, none⟩ = some (.int .i64 (atV rs 2 t)) := by unfold atV; rw [show ((2 : Nat) : Int) = 2 from rfl, s2]; exact r2 P2 q2
      have k0 : Hid (∀ W, Calls Try.prog 56 #[.int .i64 0, .int .i64 t] W fun e w' => e = .returned (.int .i64 P0) ∧ W = w') := fun W => by rw [← p0]; exact roughPlace_yes 0 t W (by omega) (by omega) h0 h1
      have k1 : Hid (∀ W, Calls Try.prog 56 #[.int .i64 1, .int .i64 t] W fun e w' => e = .returned (.int .i64 P1) ∧ W = w') := fun W => by rw [← p1]; exact roughPlace_yes 1 t W (by omega) (by omega) h0 h1
      have k2 : Hid (∀ W, Calls Try.prog 56 #[.int .i64 2, .int .i64 t] W fun e w' => e = .returned (.int .i64 P2) ∧ W = w') := fun W => by rw [← p2]; exact roughPlace_yes 2 t W (by omega) (by omega) h0 h1
      generalize atV rs 0 t = a0 at *
      generalize atV rs 1 t = a1 at *
      generalize atV rs 2 t = a2 at *
      clear h hrow r0 r1 r2 p0 p1 p2 s0 s1 s2 hok
      have e0' : w.cell? ⟨b, o, none⟩ = some (.slice (some ⟨b0, o0, none⟩) 8 c0) := e0
      clear e0
      go_enter Try.func26, Try.ntmps26
      go_wp2_with fail
      refine K.out.mono ?_
      rintro e w1 ⟨rfl, hb1⟩
      have L := HA.out.trans (hb1.mono HA.out.size)
      have cb : w1.cell? ⟨w.heap.size, 0, none⟩ = some (.slice (some ⟨b, o, none⟩) 3 cap) := by rw [hb1.cell (by simp)]; simp
      rw [← L.cell (p := ⟨b, o, none⟩) hb] at e0'
      rw [← L.cell (p := ⟨b, o + 1, none⟩) hb] at e1
      rw [← L.cell (p := ⟨b, o + 2, none⟩) hb] at e2
      rw [← L.cell (p := ⟨b0, o0 + P0, none⟩) l0] at x0
      rw [← L.cell (p := ⟨b1, o1 + P1, none⟩) l1] at x1
      rw [← L.cell (p := ⟨b2, o2 + P2, none⟩) l2] at x2
      have HL := Lib.hid L
      clear L hb1
      go_wp2_with (go_at_call 55; refine (isThing_yes _ _ h0 h1).mono ?_; rintro e w' ⟨rfl, rfl⟩)
      refine wp_loop_rounds 4 ?_
      rw [rounds_succ]
      go_wp2_with (go_at_call 56; refine (k0.out _).mono ?_; rintro e w' ⟨rfl, rfl⟩)
      all_goals
        rw [rounds_succ]
        go_wp2_with (go_at_call 56; refine (k1.out _).mono ?_; rintro e w' ⟨rfl, rfl⟩)
      all_goals
        rw [rounds_succ]
        go_wp2_with (go_at_call 56; refine (k2.out _).mono ?_; rintro e w' ⟨rfl, rfl⟩)
      all_goals
        rw [rounds_succ]
        go_wp2
        go_ret
        exact ⟨ret_int (by rw [fin.out]; omega), HL.out⟩

theorem spAll_at (w : World) (u : Value) (rs : List (List Int)) (h : Rws w u rs) :
    Calls Try.prog 27 #[.agg #[u]] w fun e w' => e = .returned (.int .i64 (allV rs)) ∧ Below w.heap.size w w' := by
  have hA := (Below.refl w.heap.size w).alloc (Nat.le_refl _) (.cells #[u] 24)
  have K := Lib.hid (spOk_any u rs _ (h.below hA (Nat.le_refl _)))
  have HA := Lib.hid hA
  clear hA
  cases hok : okB rs with
  | false =>
    rw [hok] at K
    rw [allV_not hok]
    obtain ⟨⟨x, c, hx⟩, _⟩ := h.cases
    obtain ⟨n, hn⟩ : ∃ n, n = rs.length := ⟨_, rfl⟩
    rw [← hn] at hx
    subst hx
    clear h hn hok
    go_enter Try.func27, Try.ntmps27
    go_wp2_with (go_at_call 20; refine K.out.mono ?_; rintro e w1 ⟨rfl, hb1⟩)
    go_ret
    exact ⟨rfl, HA.out.trans (hb1.mono HA.out.size)⟩
  | true =>
    rw [hok] at K
    obtain ⟨b, o, cap, rfl, hcap, hb, hrow⟩ := ok_form h hok
    obtain ⟨b0, o0, c0, e0, l0, r0⟩ := hrow 0 (by omega)
    obtain ⟨_, hg⟩ := (okB_iff rs).1 hok
    have fin : Hid (allV rs = (rs.getD 0 []).sum) := if_pos hok
    obtain ⟨g8, gr, _, _⟩ := hg 0 (by omega)
    generalize rs.getD 0 [] = z0 at g8 gr fin r0
    have G8 := Lib.hid g8
    have GR := Lib.hid gr
    have e0' : w.cell? ⟨b, o, none⟩ = some (.slice (some ⟨b0, o0, none⟩) 8 c0) := e0
    have R0 := Lib.hid r0
    clear h hrow hok hg g8 gr e0 r0
    go_enter Try.func27, Try.ntmps27
    go_wp2_with fail
    refine K.out.mono ?_
    rintro e w1 ⟨rfl, hb1⟩
    have L := HA.out.trans (hb1.mono HA.out.size)
    have cb : w1.cell? ⟨w.heap.size, 0, none⟩ = some (.slice (some ⟨b, o, none⟩) 3 cap) := by rw [hb1.cell (by simp)]; simp
    rw [← L.cell (p := ⟨b, o, none⟩) hb] at e0'
    have KC : Hid (Calls Try.prog 51 #[.slice (some ⟨b0, o0, none⟩) 8 c0] w1 fun e w' => e = .returned (.int .i64 z0.sum) ∧ w1 = w') :=
      l1Sum_at b0 o0 c0 8 z0 w1 G8.out (by omega) GR.out (fun i hi => by rw [L.cell (p := ⟨b0, o0 + i, none⟩) l0]; exact R0.out i hi)
    have HL := Lib.hid L
    clear L hb1
    go_wp2_with (go_at_call 51; refine KC.out.mono ?_; rintro e w' ⟨rfl, rfl⟩)
    go_ret
    exact ⟨ret_int fin.out.symm, HL.out⟩

set_option maxHeartbeats 2000000 in
theorem spGet_at (w : World) (u : Value) (rs : List (List Int)) (t : Int) (h : Rws w u rs) :
    Calls Try.prog 25 #[.agg #[u], .int .i64 t] w fun e w' => e = .returned (.int .i64 (getV rs t)) ∧ Below w.heap.size w w' := by
  have hA := (Below.refl w.heap.size w).alloc (Nat.le_refl _) (.cells #[u] 24)
  have K := Lib.hid (spOk_any u rs _ (h.below hA (Nat.le_refl _)))
  have HA := Lib.hid hA
  clear hA
  cases hok : okB rs with
  | false =>
    rw [hok] at K
    rw [getV_not (.inl hok)]
    obtain ⟨⟨x, c, hx⟩, _⟩ := h.cases
    obtain ⟨n, hn⟩ : ∃ n, n = rs.length := ⟨_, rfl⟩
    rw [← hn] at hx
    subst hx
    clear h hn hok
    go_enter Try.func25, Try.ntmps25
    go_wp2_with (go_at_call 20; refine K.out.mono ?_; rintro e w1 ⟨rfl, hb1⟩)
    go_ret
    exact ⟨rfl, HA.out.trans (hb1.mono HA.out.size)⟩
  | true =>
    rw [hok] at K
    obtain ⟨b, o, cap, rfl, hcap, hb, hrow⟩ := ok_form h hok
    by_cases ht : t < 0 ∨ 63 < t
    · rw [getV_not (.inr (by omega))]
      clear h hrow hok
      go_enter Try.func25, Try.ntmps25
      go_wp2_with (first | (go_at_call 20; refine K.out.mono ?_; rintro e w1 ⟨rfl, hb1⟩) | (go_at_call 50; refine (l6In_no _ _ _ _ ht).mono ?_; rintro e w' ⟨rfl, rfl⟩))
      go_ret
      exact ⟨rfl, HA.out.trans (hb1.mono HA.out.size)⟩
    · have h0 : 0 ≤ t := by omega
      have h1 : t < 64 := by omega
      have h1' : t ≤ 63 := by omega
      have fin := Lib.hid (getV_ok hok h0 h1)
      obtain ⟨b0, o0, c0, e0, l0, r0⟩ := hrow 0 (by omega)
      obtain ⟨b1, o1, c1, e1, l1, r1⟩ := hrow 1 (by omega)
      obtain ⟨b2, o2, c2, e2, l2, r2⟩ := hrow 2 (by omega)
      obtain ⟨P0, p0, q0, s0⟩ := place_nat 0 t
      obtain ⟨P1, p1, q1, s1⟩ := place_nat 1 t
      obtain ⟨P2, p2, q2, s2⟩ := place_nat 2 t
      have x0 : w.cell? ⟨b0, o0 + P0, none⟩ = some (.int .i64 (atV rs 0 t)) := by unfold atV; rw [show ((0 : Nat) : Int) = 0 from rfl, s0]; exact r0 P0 q0
      have x1 : w.cell? ⟨b1, o1 + P1, none⟩ = some (.int .i64 (atV rs 1 t)) := by unfold atV; rw [show ((1 : Nat) : Int) = 1 from rfl, s1]; exact r1 P1 q1
      have x2 : w.cell? ⟨b2, o2 + P2, none⟩ = some (.int .i64 (atV rs 2 t)) := by unfold atV; rw [show ((2 : Nat) : Int) = 2 from rfl, s2]; exact r2 P2 q2
      have k0 : Hid (∀ W, Calls Try.prog 54 #[.int .i64 0, .int .i64 t] W fun e w' => e = .returned (.int .i64 P0) ∧ Below W.heap.size W w') := fun W => by rw [← p0]; exact l1Place_yes 0 t W (by omega) (by omega) h0 h1
      have k1 : Hid (∀ W, Calls Try.prog 54 #[.int .i64 1, .int .i64 t] W fun e w' => e = .returned (.int .i64 P1) ∧ Below W.heap.size W w') := fun W => by rw [← p1]; exact l1Place_yes 1 t W (by omega) (by omega) h0 h1
      have k2 : Hid (∀ W, Calls Try.prog 54 #[.int .i64 2, .int .i64 t] W fun e w' => e = .returned (.int .i64 P2) ∧ Below W.heap.size W w') := fun W => by rw [← p2]; exact l1Place_yes 2 t W (by omega) (by omega) h0 h1
      generalize atV rs 0 t = a0 at *
      generalize atV rs 1 t = a1 at *
      generalize atV rs 2 t = a2 at *
      have i0 : (P0 : Int) < 8 := by omega
      have i1 : (P1 : Int) < 8 := by omega
      have i2 : (P2 : Int) < 8 := by omega
      clear h hrow r0 r1 r2 p0 p1 p2 s0 s1 s2 hok
      have e0' : w.cell? ⟨b, o, none⟩ = some (.slice (some ⟨b0, o0, none⟩) 8 c0) := e0
      clear e0
      go_enter Try.func25, Try.ntmps25
      go_wp2_with fail
      refine K.out.mono ?_
      rintro e w1 ⟨rfl, hb1⟩
      have L := HA.out.trans (hb1.mono HA.out.size)
      have cb : w1.cell? ⟨w.heap.size, 0, none⟩ = some (.slice (some ⟨b, o, none⟩) 3 cap) := by rw [hb1.cell (by simp)]; simp
      rw [← L.cell (p := ⟨b, o, none⟩) hb] at e0'
      rw [← L.cell (p := ⟨b, o + 1, none⟩) hb] at e1
      rw [← L.cell (p := ⟨b, o + 2, none⟩) hb] at e2
      rw [← L.cell (p := ⟨b0, o0 + P0, none⟩) l0] at x0
      rw [← L.cell (p := ⟨b1, o1 + P1, none⟩) l1] at x1
      rw [← L.cell (p := ⟨b2, o2 + P2, none⟩) l2] at x2
      have HL := Lib.hid L
      clear L hb1
      have rb := cell_regrown cb
      have re0 := cell_regrown e0'
      have rx0 := cell_regrown x0
      go_wp2_with (go_at_call 50; refine (l6In_yes _ _ _ _ h0 h1').mono ?_; rintro e w' ⟨rfl, rfl⟩)
      refine boxed_region (by kernel_rfl) (by kernel_rfl) ?_
      repeat (refine boxed_step (fun K hK => ?_); go_simp; first | (refine hK _ ?_; clear hK K) | (apply Exists.intro; refine ⟨fun _ => ?_, hK _ ?_⟩; (exact Calls.regrown_of (k0.out _)); clear hK K))
      refine boxed_nil ?_
      intro _ hw'
      obtain ⟨⟨dq, oq⟩, hw''⟩ := hw'
      subst hw''
      have hb_w3 := below_regrown w1 dq oq
      obtain ⟨w3, hq_w3⟩ : ∃ x, x = grow (redrawn w1 dq) oq := ⟨_, rfl⟩
      rw [← hq_w3] at hb_w3 ⊢
      clear hq_w3
      have cb3 : w3.cell? ⟨w.heap.size, 0, none⟩ = some (.slice (some ⟨b, o, none⟩) 3 cap) := cell_later hb_w3 cb
      have e1' := cell_later hb_w3 e1
      have x1' := cell_later hb_w3 x1
      have e2' := cell_later hb_w3 e2
      have x2' := cell_later hb_w3 x2
      have L3 := Lib.hid (HL.out.trans (hb_w3.mono HL.out.size))
      clear hb_w3 rb re0 rx0 cb e0' x0 e1 x1 e2 x2
      go_wp2
      refine wp_loop_rounds 3 ?_
      rw [rounds_succ]
      have rb := cell_regrown cb3
      have re := cell_regrown e1'
      have rx := cell_regrown x1'
      go_wp2
      refine boxed_region (by kernel_rfl) (by kernel_rfl) ?_
      repeat (refine boxed_step (fun K hK => ?_); go_simp; first | (refine hK _ ?_; clear hK K) | (apply Exists.intro; refine ⟨fun _ => ?_, hK _ ?_⟩; (exact Calls.regrown_of (k1.out _)); clear hK K))
      refine boxed_nil ?_
      intro _ hw'
      obtain ⟨⟨dq, oq⟩, hw''⟩ := hw'
      subst hw''
      have hb_w4 := below_regrown w3 dq oq
      obtain ⟨w4, hq_w4⟩ : ∃ x, x = grow (redrawn w3 dq) oq := ⟨_, rfl⟩
      rw [← hq_w4] at hb_w4 ⊢
      clear hq_w4
      have cb4 := cell_later hb_w4 cb3
      have e2'' := cell_later hb_w4 e2'
      have x2'' := cell_later hb_w4 x2'
      have L4 := Lib.hid (L3.out.trans (hb_w4.mono L3.out.size))
      clear hb_w4 rb re rx cb3 e1' x1' e2' x2'
      go_wp2
      all_goals
        rw [rounds_succ]
        have rb := cell_regrown cb4
        have re := cell_regrown e2''
        have rx := cell_regrown x2''
        go_wp2
        refine boxed_region (by kernel_rfl) (by kernel_rfl) ?_
        repeat (refine boxed_step (fun K hK => ?_); go_simp; first | (refine hK _ ?_; clear hK K) | (apply Exists.intro; refine ⟨fun _ => ?_, hK _ ?_⟩; (exact Calls.regrown_of (k2.out _)); clear hK K))
        refine boxed_nil ?_
        intro _ hw'
        obtain ⟨⟨dq, oq⟩, hw''⟩ := hw'
        subst hw''
        have hb_w5 := below_regrown w4 dq oq
        obtain ⟨w5, hq_w5⟩ : ∃ x, x = grow (redrawn w4 dq) oq := ⟨_, rfl⟩
        rw [← hq_w5] at hb_w5 ⊢
        clear hq_w5
        have L5 := Lib.hid (L4.out.trans (hb_w5.mono L4.out.size))
        clear hb_w5 rb re rx cb4 e2'' x2''
        go_wp2
      all_goals
        rw [rounds_succ]
        go_wp2
        go_ret
        exact ⟨ret_int (by rw [fin.out]; omega), L5.out⟩

end Go.Proofs.Yteopnbjiffncbab
