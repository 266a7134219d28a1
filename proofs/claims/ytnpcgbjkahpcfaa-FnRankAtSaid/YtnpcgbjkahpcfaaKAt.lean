/-
  The least thing up to which there are as many: RankAt of the program and of its model.
-/
import Derived.Test.YtnpcgbjkahpcfaaKIm3
import Derived.Test.YtnpcgbjkahpcfaaKMath
namespace Go.Proofs.Ytnpcgbjkahpcfaa
open Go.RowKit Go.Sort

/-- x is the least thing up to which at least n are counted at least; or there is none. -/
def AtR (ps : List Pr) (all n x : Int) (ok : Bool) : Prop :=
  (ok = true ∧ rankB ps all = true ∧ 1 ≤ n ∧ (0 ≤ x ∧ x ≤ 63) ∧ n ≤ leastP ps x ∧ ∀ y : Int, 0 ≤ y → y < x → leastP ps y < n) ∨
  (ok = false ∧ x = 0 ∧ (rankB ps all = false ∨ n < 1 ∨ all < n))
theorem AtR.least {ps : List Pr} {all n x : Int} (h : AtR ps all n x true) : (0 ≤ x ∧ x ≤ 63) ∧ rankB ps all = true ∧ n ≤ leastP ps x ∧ ∀ y : Int, 0 ≤ y → y < x → leastP ps y < n := by
  rcases h with ⟨_, a, _, b, c, d⟩ | ⟨h, _⟩
  · exact ⟨b, a, c, d⟩
  · cases h
theorem AtR.uniq {ps : List Pr} {all n x x' : Int} {ok ok' : Bool} (h : AtR ps all n x ok) (h' : AtR ps all n x' ok') : x = x' ∧ ok = ok' := by
  have top : rankB ps all = true → ∀ y : Int, 0 ≤ y → y ≤ 63 → leastP ps y ≤ all := fun hk y y0 y1 => by
    have P := (rankB_iff _ _).1 hk
    have := (below_mono (ps := ps) (fun p hp => by have := (P.num p hp).1; omega) y1).1
    rw [(below_all P).1] at this
    exact this
  rcases h with ⟨rfl, a, b, c, d, e⟩ | ⟨rfl, rfl, h⟩ <;> rcases h' with ⟨rfl, a', b', c', d', e'⟩ | ⟨rfl, rfl, h'⟩
  · refine ⟨?_, rfl⟩
    rcases Int.lt_trichotomy x x' with q | q | q
    · have := e' x c.1 q; omega
    · exact q
    · have := e x' c'.1 q; omega
  · exfalso
    have := top a x c.1 c.2
    rcases h' with h' | h' | h'
    · rw [a] at h'; cases h'
    · omega
    · omega
  · exfalso
    have := top a' x' c'.1 c'.2
    rcases h with h | h | h
    · rw [a'] at h; cases h
    · omega
    · omega
  · exact ⟨rfl, rfl⟩

set_option maxHeartbeats 4000000 in
theorem imRankAt_at (w : World) (u : Value) (ps : List Pr) (all m : Int) (hp : Prs w u ps) :
    Calls Try.prog 33 #[.agg #[u, .int .i64 all], .int .i64 m] w fun e w' => ∃ x ok, e = .returned (.tuple #[.int .i64 x, .bool ok]) ∧ AtR ps all m x ok ∧ Below w.heap.size w w' := by
  obtain ⟨W, hW⟩ : ∃ W, W = w.alloc (.cells #[u, .int .i64 all] 29) := ⟨_, rfl⟩
  have hA : Below w.heap.size w W := by rw [hW]; exact (Below.refl w.heap.size w).alloc (Nat.le_refl _) _
  have HI := Lib.hid (hp.below hA (Nat.le_refl _))
  obtain ⟨x, c, rfl, _, _⟩ := hp.form
  obtain ⟨n, hn⟩ : ∃ n, n = ps.length := ⟨_, rfl⟩
  rw [← hn] at HI hW ⊢
  have HN := Lib.hid hn
  have HX : Hid (Box2 W w.heap.size 29 (.slice x n c) (.int .i64 all)) := by show Box2 _ _ _ _ _; rw [hW]; exact Box2.new _ _ _ _
  have HA := Lib.hid hA
  clear hp hn hA
  by_cases h1 : m < 1
  · go_enter Try.func33, Try.ntmps33
    go_wp2_with fail
    rw [← hW]
    clear hW
    go_wp2
    go_ret2
    exact ⟨_, _, rfl, .inr ⟨rfl, rfl, .inr (.inl h1)⟩, HA.out⟩
  go_enter Try.func33, Try.ntmps33
  go_wp2_with fail
  rw [← hW]
  clear hW
  go_wp2
  go_loopw [11] (fun i wr => ∃ k : Nat, k ≤ 64 ∧ i = .int .i64 k ∧ (∀ y : Int, 0 ≤ y → y < k → belL ps all y < m) ∧ Below W.heap.size W wr) (fun i _ => 64 - (intOf i).toNat)
  case atStart => exact ⟨0, Nat.zero_le _, rfl, fun y h h' => by omega, Below.refl _ _⟩
  case round =>
    obtain ⟨k, hk, rfl, hy, hbl⟩ := hrel
    have HY := Lib.hid hy
    have HB := Lib.hid hbl
    have X := HX.out.below HB.out HX.out.lt
    have x0 := X.cell0
    have x1 := X.cell1
    clear X hy
    by_cases hlt : k < 64
    · have K := Lib.hid (imRankBelow_at wr (.slice x n c) ps all (k : Int) (HI.out.below HB.out (Nat.le_refl _)))
      have k0 : (0 : Int) ≤ (k : Int) := by omega
      have k1 : (k : Int) < 64 := by omega
      have HBV : Hid (m ≤ belL ps all k → rankB ps all = true ∧ leastP ps k = belL ps all k) := fun h => by
        unfold belL at h ⊢
        cases e : belOk ps all k with
        | false => rw [e] at h; simp at h; omega
        | true => rw [if_pos rfl]; exact ⟨(belOk_yes e).1, rfl⟩
      have HLO : Hid (∀ y : Int, 0 ≤ y → y < k → rankB ps all = true → leastP ps y < m) := fun y a b r => by
        have := HY.out y a b
        unfold belL at this
        have e : belOk ps all y = true := by unfold belOk; rw [r]; simp; omega
        rw [if_pos e] at this
        exact this
      obtain ⟨V, hV⟩ : ∃ V, V = belL ps all k := ⟨_, rfl⟩
      have HV := Lib.hid hV
      generalize belM ps all k = U at *
      rw [← hV] at K HBV
      clear hV hbl
      by_cases hge : m ≤ V
      · have g := HBV.out hge
        have FIN : Hid (AtR ps all m k true) := .inl ⟨rfl, g.1, by omega, by omega, by rw [g.2]; exact hge, fun y a b => HLO.out y a b g.1⟩
        clear g HBV HLO
        go_wp2_with fail
        refine K.out.mono ?_
        rintro e w2 ⟨rfl, hb2⟩
        go_wp2
        go_ret2
        exact ⟨_, _, rfl, FIN.out, HA.out.trans ((HB.out.trans (hb2.mono HB.out.size)).mono HA.out.size)⟩
      · have NX : Hid (∀ y : Int, 0 ≤ y → y < ((k + 1 : Nat) : Int) → belL ps all y < m) := fun y a b => by
          by_cases e : y = (k : Int)
          · subst e; rw [← HV.out]; omega
          · exact HY.out y a (by omega)
        clear HBV HLO
        go_wp2_with fail
        refine K.out.mono ?_
        rintro e w2 ⟨rfl, hb2⟩
        go_wp2
        go_roundw
        case rel => exact ⟨k + 1, by omega, by go_num, NX.out, HB.out.trans (hb2.mono HB.out.size)⟩
        case measure => simp [intOf]; omega
    · obtain rfl : k = 64 := by omega
      have FIN : Hid (AtR ps all m 0 false) := .inr ⟨rfl, rfl, by
        cases r : rankB ps all with
        | false => exact .inl rfl
        | true =>
          right; right
          have := HY.out 63 (by omega) (by omega)
          unfold belL at this
          have e : belOk ps all 63 = true := by unfold belOk; rw [r]; simp
          rw [if_pos e, (below_all ((rankB_iff _ _).1 r)).1] at this
          exact this⟩
      have FB := Lib.hid (HA.out.trans (HB.out.mono HA.out.size))
      clear hbl x0 x1
      go_wp2
      go_ret2
      exact ⟨_, _, rfl, FIN.out, FB.out⟩

set_option maxHeartbeats 4000000 in
theorem spRankAt_at (w : World) (u : Value) (ps : List Pr) (all m : Int) (hp : Prs w u ps) :
    Calls Try.prog 32 #[.agg #[u, .int .i64 all], .int .i64 m] w fun e w' => ∃ x ok, e = .returned (.tuple #[.int .i64 x, .bool ok]) ∧ AtR ps all m x ok ∧ Below w.heap.size w w' := by
  obtain ⟨W, hW⟩ : ∃ W, W = w.alloc (.cells #[u, .int .i64 all] 29) := ⟨_, rfl⟩
  have hA : Below w.heap.size w W := by rw [hW]; exact (Below.refl w.heap.size w).alloc (Nat.le_refl _) _
  have hI := hp.below hA (Nat.le_refl _)
  have K := Lib.hid (spRankOk_at W u ps all hI)
  obtain ⟨x, c, rfl, _, _⟩ := hp.form
  obtain ⟨n, hn⟩ : ∃ n, n = ps.length := ⟨_, rfl⟩
  rw [← hn] at K hI hW ⊢
  have HN := Lib.hid hn
  have HI := Lib.hid hI
  have X : Box2 W w.heap.size 29 (.slice x n c) (.int .i64 all) := by rw [hW]; exact Box2.new _ _ _ _
  have x0 := X.cell0
  have x1 := X.cell1
  have HX := Lib.hid X
  have HA := Lib.hid hA
  clear hp hn hA X hI
  cases hk : rankB ps all with
  | false =>
    rw [hk] at K
    have FIN : Hid (AtR ps all m 0 false) := .inr ⟨rfl, rfl, .inl hk⟩
    clear hk
    go_enter Try.func32, Try.ntmps32
    go_wp2_with fail
    rw [← hW]
    clear hW
    go_wp2_with fail
    refine K.out.mono ?_
    rintro e w1 ⟨rfl, hb1⟩
    go_wp2
    go_ret2
    exact ⟨_, _, rfl, FIN.out, HA.out.trans (hb1.mono HA.out.size)⟩
  | true =>
    rw [hk] at K
    have HK := Lib.hid hk
    clear hk
    by_cases hm : m < 1 ∨ all < m
    · have FIN : Hid (AtR ps all m 0 false) := .inr ⟨rfl, rfl, .inr hm⟩
      go_enter Try.func32, Try.ntmps32
      go_wp2_with fail
      rw [← hW]
      clear hW
      go_wp2_with fail
      refine K.out.mono ?_
      rintro e w1 ⟨rfl, hb1⟩
      have X1 := HX.out.later hb1
      have B1 := Lib.hid (HA.out.trans (hb1.mono HA.out.size))
      clear x0 x1 hb1
      have x1 := X1.cell1
      clear X1
      go_wp2_with fail
      refine (l6In_no m 1 all _ hm).mono ?_
      rintro e w' ⟨rfl, rfl⟩
      go_wp2
      go_ret2
      exact ⟨_, _, rfl, FIN.out, B1.out⟩
    have m0 : 1 ≤ m := by omega
    have m1 : m ≤ all := by omega
    clear hm
    go_enter Try.func32, Try.ntmps32
    go_wp2_with fail
    rw [← hW]
    clear hW
    go_wp2_with fail
    refine K.out.mono ?_
    rintro e w1 ⟨rfl, hb1⟩
    have X1 := HX.out.later hb1
    have B1 := Lib.hid (HA.out.trans (hb1.mono HA.out.size))
    have I1 := Lib.hid (HI.out.below hb1 (Nat.le_refl _))
    have HX1 := Lib.hid X1
    clear x0 x1 hb1
    have x1 := X1.cell1
    clear X1
    go_wp2_with fail
    refine (l6In_yes m 1 all _ m0 m1).mono ?_
    rintro e w' ⟨rfl, rfl⟩
    clear x1
    go_wp2
    go_loopw [6] (fun i wr => ∃ k : Nat, k ≤ 63 ∧ i = .int .i64 k ∧ (∀ y : Int, 0 ≤ y → y < k → leastP ps y < m) ∧ Below w1.heap.size w1 wr) (fun i _ => 64 - (intOf i).toNat)
    case atStart => exact ⟨0, Nat.zero_le _, rfl, fun y h h' => by omega, Below.refl _ _⟩
    case round =>
      obtain ⟨k, hk, rfl, hy, hbl⟩ := hrel
      have HY := Lib.hid hy
      have HB := Lib.hid hbl
      have X := HX1.out.below HB.out HX1.out.lt
      have x0 := X.cell0
      have x1 := X.cell1
      clear X hy
      by_cases hlt : k < 63
      · have K := Lib.hid (spRankBelow_yes wr (.slice x n c) ps all (k : Int) (I1.out.below HB.out (Nat.le_refl _)) HK.out (by omega) (by omega))
        have k0 : (0 : Int) ≤ (k : Int) := by omega
        have k1 : (k : Int) < 63 := by omega
        obtain ⟨V, hV⟩ : ∃ V, V = leastP ps k := ⟨_, rfl⟩
        have HV := Lib.hid hV
        generalize mostP ps k = U at *
        rw [← hV] at K
        clear hV hbl
        by_cases hge : m ≤ V
        · have FIN : Hid (AtR ps all m k true) := .inl ⟨rfl, HK.out, by omega, by omega, by rw [← HV.out]; exact hge, HY.out⟩
          go_wp2_with fail
          refine K.out.mono ?_
          rintro e w2 ⟨rfl, hb2⟩
          go_wp2
          go_ret2
          exact ⟨_, _, rfl, FIN.out, B1.out.trans ((HB.out.trans (hb2.mono HB.out.size)).mono B1.out.size)⟩
        · have NX : Hid (∀ y : Int, 0 ≤ y → y < ((k + 1 : Nat) : Int) → leastP ps y < m) := fun y a b => by
            by_cases e : y = (k : Int)
            · subst e; rw [← HV.out]; omega
            · exact HY.out y a (by omega)
          go_wp2_with fail
          refine K.out.mono ?_
          rintro e w2 ⟨rfl, hb2⟩
          go_wp2
          go_roundw
          case rel => exact ⟨k + 1, by omega, by go_num, NX.out, HB.out.trans (hb2.mono HB.out.size)⟩
          case measure => simp [intOf]; omega
      · obtain rfl : k = 63 := by omega
        have FIN : Hid (AtR ps all m 63 true) := .inl ⟨rfl, HK.out, m0, by omega, by rw [(below_all ((rankB_iff _ _).1 HK.out)).1]; exact m1, fun y a b => HY.out y a (by omega)⟩
        have FB := Lib.hid (B1.out.trans (HB.out.mono B1.out.size))
        clear hbl x0 x1
        go_wp2
        go_ret2
        exact ⟨_, _, rfl, FIN.out, FB.out⟩

end Go.Proofs.Ytnpcgbjkahpcfaa
