/-
  Several texts in one: KIm, KIm2, KIm3, KAt.
-/
import Derived.Test.YtnoilafoeaknjaaKa
import Derived.BigQuiet
import Derived.Test.YtnoilafoeaknjaaKb
set_option linter.unusedVariables false
/-
  Knots in the program: isCount, knotMost, RankSpan, RankOk.
-/
namespace Go.Proofs.Ytnoilafoeaknjaa.K
open Go.RowKit Go.Sort

theorem isCount_yes (a : Int) (w : World) (h0 : 0 ≤ a) (h1 : a ≤ 2000) :
    Calls Try.prog 44 #[.int .i64 a] w fun e w' => e = .returned (.bool true) ∧ w = w' := by
  go_enter Try.func44, Try.ntmps44
  go_wp2
  go_ret
  exact ⟨rfl, rfl⟩
theorem isCount_no (a : Int) (w : World) (h : a < 0 ∨ 2000 < a) :
    Calls Try.prog 44 #[.int .i64 a] w fun e w' => e = .returned (.bool false) ∧ w = w' := by
  rcases h with h | h
  · have h' : ¬ 0 ≤ a := by omega
    go_enter Try.func44, Try.ntmps44
    go_wp2
    go_ret
    exact ⟨rfl, rfl⟩
  · have h' : ¬ a ≤ 2000 := by omega
    have h'' : 0 ≤ a := by omega
    go_enter Try.func44, Try.ntmps44
    go_wp2
    go_ret
    exact ⟨rfl, rfl⟩

/-- How much a knot has at most. -/
def mostK (a all : Int) : Int := if a < 64 then all / 8 else all
theorem knotMost_at (a all : Int) (w : World) (h0 : 0 ≤ all) (h1 : all ≤ 2000) :
    Calls Try.prog 46 #[.int .i64 a, .int .i64 all] w fun e w' => e = .returned (.int .i64 (mostK a all)) ∧ w = w' := by
  have hD : all.tdiv 8 = all / 8 := Int.tdiv_eq_ediv_of_nonneg h0
  have hw : IntKind.i64.wrap (all / 8) = all / 8 := IntWalk.i64_in _ (by omega)
  unfold mostK
  by_cases h : a < 64
  · rw [if_pos h]
    go_enter Try.func46, Try.ntmps46
    go_wp2
    go_ret
    exact ⟨rfl, rfl⟩
  · rw [if_neg h]
    clear hD hw
    go_enter Try.func46, Try.ntmps46
    go_wp2
    go_ret
    exact ⟨rfl, rfl⟩

def lastV (ps : List Pr) (k : Nat) : Int := if k = 0 then 0 else (pr ps (k - 1)).1
theorem RankP.le_all {ps : List Pr} {all : Int} (h : RankP ps all) (k : Nat) (hk : k < ps.length) : (pr ps k).2 ≤ all := by
  have g : ∀ (m : Nat), m ≤ ps.length → k < m → (pr ps k).2 ≤ sumP (ps.take m) ∧ 0 ≤ sumP (ps.take m) := by
    intro m
    induction m with
    | zero => intro _ h; omega
    | succ m ih =>
      intro hm hkm
      have b := sumK_bd (k := m) (by omega) (fun i hi => h.2.1 i (by omega))
      have g := (h.2.1 m (by omega)).1.2
      rw [sumP_succ ps m (by omega)]
      by_cases e : k = m
      · subst e; omega
      · have := ih (by omega) (by omega); omega
  have := (g ps.length (Nat.le_refl _) hk).1
  rw [List.take_of_length_le (Nat.le_refl _), h.2.2] at this
  exact this

set_option maxHeartbeats 8000000 in
theorem imRankOk_in (w : World) (x : Option Addr) (n c : Nat) (ps : List Pr) (all : Int) (hl : ps.length = n) (hp : Prs w (.slice x n c) ps) (hn : n ≤ maxLen) :
    Calls Try.prog 16 #[.agg #[.slice x n c, .int .i64 all]] w fun e w' => e = .returned (.bool (rankB ps all)) ∧ Below w.heap.size w w' := by
  unfold maxLen at hn
  have HPR := Lib.hid hp
  have HP := Lib.hid hp.cells
  have HL := Lib.hid hl
  obtain ⟨W, hW⟩ : ∃ W, W = w.alloc (.cells #[.slice x n c, .int .i64 all] 34) := ⟨_, rfl⟩
  have hA : Below w.heap.size w W := by rw [hW]; exact (Below.refl w.heap.size w).alloc (Nat.le_refl _) _
  have sW : W.heap.size = w.heap.size + 1 := by rw [hW]; simp
  have X : Box2 W w.heap.size 34 (.slice x n c) (.int .i64 all) := by rw [hW]; exact Box2.new _ _ _ _
  have HA := Lib.hid hA
  have HS := Lib.hid sW
  have HX := Lib.hid X
  have x0 := X.cell0
  have x1 := X.cell1
  clear hl hp hA sW X
  by_cases ha : all < 0 ∨ 2000 < all
  · have bd : Hid (rankB ps all = false) := rankB_no (fun q => by have := q.1; omega)
    go_enter Try.func16, Try.ntmps16
    go_wp2_with fail
    rw [← hW]
    clear hW
    go_wp2_with fail
    refine (isCount_no _ _ ha).mono ?_
    rintro e w' ⟨rfl, rfl⟩
    go_wp2
    go_ret
    exact ⟨ret_bool bd.out.symm, HA.out⟩
  have ha0 : 0 ≤ all := by omega
  have ha1 : all ≤ 2000 := by omega
  go_enter Try.func16, Try.ntmps16
  go_wp2_with fail
  rw [← hW]
  clear hW
  go_wp2_with fail
  refine (isCount_yes _ _ ha0 ha1).mono ?_
  rintro e w' ⟨rfl, rfl⟩
  go_wp2
  go_loopw [3, 4, 14] (fun q l i wr => ∃ k : Nat, k ≤ n ∧ i = .int .i64 k ∧ q = .int .i64 (sumP (ps.take k)) ∧ l = .int .i64 (lastV ps k) ∧ (∀ i, i < k → KnG ps all i) ∧ Below (w.heap.size + 1) W wr) (fun _ _ i _ => n - (intOf i).toNat)
  case atStart => exact ⟨0, Nat.zero_le _, rfl, rfl, rfl, fun _ h => absurd h (Nat.not_lt_zero _), Below.refl _ _⟩
  case round =>
    obtain ⟨k, hk, rfl, rfl, rfl, hg, hbl⟩ := hrel
    have G := Lib.hid hg
    have HB := Lib.hid hbl
    have kf := knG_few hg
    have hsb := sumK_bd (by rw [HL.out]; exact hk) hg
    have hX1 := HX.out.below HB.out (Nat.lt_succ_self _)
    have cw0 := hX1.cell0
    have cw1 := hX1.cell1
    have FIN := Lib.hid (HA.out.trans (HB.out.mono (Nat.le_succ _)))
    have sw : w.heap.size + 1 ≤ wr.heap.size := by have := HB.out.size; have := HS.out; omega
    by_cases hlt : k < n
    · obtain ⟨b, o, rfl, hb, h1, h2⟩ := HP.out k (by rw [HL.out]; exact hlt)
      have tr : ∀ j v, w.cell? ⟨b, j, none⟩ = some v → wr.cell? ⟨b, j, none⟩ = some v := fun j v h => by
        rw [HB.out.cell (p := ⟨b, j, none⟩) (by show b < _; omega), HA.out.cell (p := ⟨b, j, none⟩) hb]; exact h
      replace h1 := tr _ _ h1
      replace h2 := tr _ _ h2
      have HQ : Hid (KnG ps all k ↔ (((1 ≤ (pr ps k).1 ∧ (pr ps k).1 ≤ 127) ∧ 1 ≤ (pr ps k).2 ∧ (pr ps k).2 ≤ 2000) ∧ (0 < k → (pr ps (k - 1)).1 < (pr ps k).1) ∧ ((pr ps k).1 < 64 → (pr ps k).2 ≤ all / 8))) := Iff.rfl
      have bad : Hid (¬ KnG ps all k → rankB ps all = false) := fun h => rankB_no (fun q => h (q.2.1 k (by rw [HL.out]; exact hlt)))
      have badM : Hid (all < (pr ps k).2 → rankB ps all = false) := fun h => rankB_no (fun q => by have := q.le_all k (by rw [HL.out]; exact hlt); omega)
      have hs := Lib.hid (sumP_succ ps k (by rw [HL.out]; exact hlt))
      have hlv : Hid (lastV ps (k + 1) = (pr ps k).1) := by show lastV ps (k + 1) = _; simp [lastV]
      -- the knot ahead
      have hL0 : Hid (k = 0 → lastV ps k = 0) := fun h => by simp [lastV, h]
      have hL1 : Hid (0 < k → lastV ps k = (pr ps (k - 1)).1) := fun h => by simp [lastV, show k ≠ 0 by omega]
      have hLG : Hid (0 ≤ lastV ps k ∧ lastV ps k ≤ 127) := by
        show _ ∧ _
        by_cases h : k = 0
        · rw [hL0.out h]; omega
        · rw [hL1.out (by omega)]; have := (G.out (k - 1) (by omega)).1.1; omega
      generalize pr ps k = q at h1 h2 HQ hs badM hlv
      generalize pr ps (k - 1) = q' at HQ hL1
      obtain ⟨t, m⟩ := q
      generalize lastV ps k = L at *
      have k0 : (0 : Int) ≤ (k : Int) := by omega
      have kn : (k : Int) < (n : Int) := by omega
      -- the world with this round's box
      obtain ⟨wk, hwk⟩ : ∃ wk, wk = wr.alloc (.cells #[.int .i64 t, .int .i64 m] 85) := ⟨_, rfl⟩
      have hK : Below wr.heap.size wr wk := by rw [hwk]; exact (Below.refl _ _).alloc (Nat.le_refl _) _
      have bK : Box2 wk wr.heap.size 85 (.int .i64 t) (.int .i64 m) := by rw [hwk]; exact Box2.new _ _ _ _
      have y0 := bK.cell0
      have y1 := bK.cell1
      have yX := hX1.later hK
      have xk1 := yX.cell1
      have HB2 := Lib.hid (HB.out.trans (hK.mono sw))
      have FIN2 := Lib.hid (FIN.out.trans (hK.mono FIN.out.size))
      generalize hSS : sumP (ps.take k) = S at *
      obtain ⟨M, hM⟩ : ∃ M, M = mostK t all := ⟨_, rfl⟩
      have HM := Lib.hid hM
      have KM : Hid (∀ W, Calls Try.prog 46 #[.int .i64 t, .int .i64 all] W fun e w' => e = .returned (.int .i64 M) ∧ W = w') := fun W => by rw [hM]; exact knotMost_at t all W ha0 ha1
      clear hg hbl tr hX1 bK yX hSS hK hM
      by_cases hlo : t ≤ L
      · have eL : decide (t ≤ L) = true := decide_eq_true hlo
        have bd := Lib.hid (bad.out (fun q => by
          have g := HQ.out.1 q
          by_cases h : k = 0
          · have := hL0.out h; have := g.1.1.1; (try simp at this); omega
          · have := hL1.out (by omega); have := g.2.1 (by omega); (try simp at this); omega))
        clear HQ bad badM hs hlv hL0 hL1 hLG HM KM
        go_wp2_with fail
        rw [← hwk]
        clear hwk
        go_quiet (fail)
        go_wp2
        go_ret
        exact ⟨ret_bool bd.out.symm, below_drewN FIN2.out _⟩
      have eL : decide (t ≤ L) = false := decide_eq_false hlo
      by_cases hhi : 128 ≤ t
      · have eH : decide (128 ≤ t) = true := decide_eq_true hhi
        have bd := Lib.hid (bad.out (fun q => by have := (HQ.out.1 q).1.1.2; (try simp at this); omega))
        clear HQ bad badM hs hlv hL0 hL1 hLG HM KM
        go_wp2_with fail
        rw [← hwk]
        clear hwk
        go_quiet (fail)
        go_wp2
        go_ret
        exact ⟨ret_bool bd.out.symm, below_drewN FIN2.out _⟩
      have eH : decide (128 ≤ t) = false := decide_eq_false hhi
      by_cases hm : m < 1
      · have eM : decide (m < 1) = true := decide_eq_true hm
        have bd := Lib.hid (bad.out (fun q => by have := (HQ.out.1 q).1.2.1; (try simp at this); omega))
        clear HQ bad badM hs hlv hL0 hL1 hLG HM KM
        go_wp2_with fail
        rw [← hwk]
        clear hwk
        go_quiet (fail)
        go_wp2
        go_ret
        exact ⟨ret_bool bd.out.symm, below_drewN FIN2.out _⟩
      have eM : decide (m < 1) = false := decide_eq_false hm
      by_cases hmm : M < m
      · have eMM : decide (M < m) = true := decide_eq_true hmm
        have bd : Hid (rankB ps all = false) := by
          show _ = _
          have e := HM.out
          unfold mostK at e
          by_cases h64 : t < 64
          · rw [if_pos h64] at e
            exact bad.out (fun q => by have := (HQ.out.1 q).2.2 h64; (try simp at this); omega)
          · rw [if_neg h64] at e
            exact badM.out (by show all < m; omega)
        clear HQ bad badM hs hlv hL0 hL1 hLG HM
        go_wp2_with fail
        rw [← hwk]
        clear hwk
        go_quiet (with_reducible exact quiet_same' (KM.out _))
        go_wp2
        go_ret
        exact ⟨ret_bool bd.out.symm, below_drewN FIN2.out _⟩
      have eMM : decide (M < m) = false := decide_eq_false hmm
      have good : Hid (KnG ps all k) := by
        refine HQ.out.2 ?_
        have hLG' := hLG.out
        have e := HM.out
        unfold mostK at e
        refine ⟨⟨⟨?_, ?_⟩, ?_, ?_⟩, fun h => ?_, fun h => ?_⟩
        · show 1 ≤ t; omega
        · show t ≤ 127; omega
        · show 1 ≤ m; omega
        · show m ≤ 2000
          split at e <;> omega
        · show q'.1 < t
          have := hL1.out h; omega
        · have h' : t < 64 := h
          rw [if_pos h'] at e
          show m ≤ all / 8; omega
      have mle : m ≤ 2000 := by have := HQ.out.1 good.out; exact this.1.2.2
      have LV := hlv.out
      simp only at LV
      have HLV := Lib.hid LV
      clear HQ bad badM hlv hL0 hL1 hLG HM LV
      go_wp2_with fail
      rw [← hwk]
      clear hwk
      go_quiet (with_reducible exact quiet_same' (KM.out _))
      go_wp2
      go_roundw
      case rel => exact ⟨k + 1, by omega, by go_num, by rw [hs.out], by rw [HLV.out], fun i hi => by
        by_cases h : i < k
        · exact G.out i h
        · obtain rfl : i = k := by omega
          exact good.out, below_drewN HB2.out _⟩
      case measure => simp [intOf]; omega
    · obtain rfl : k = n := by omega
      have e1 : ps.take k = ps := List.take_of_length_le (by rw [HL.out]; exact Nat.le_refl _)
      rw [e1] at hsb ⊢
      have HF : Hid (sumP ps = all → rankB ps all = true) := fun h => (rankB_iff _ _).2 ⟨⟨ha0, ha1⟩, fun i hi => G.out i (by rw [HL.out] at hi; exact hi), h⟩
      have HN : Hid (¬ sumP ps = all → rankB ps all = false) := fun h => rankB_no (fun q => h q.2.2)
      generalize sumP ps = S at *
      clear hg hbl hX1 e1
      by_cases he : S = all
      · have fv := Lib.hid (HF.out he)
        have e2 : (S == all) = true := by simpa using he
        go_wp2
        go_ret
        exact ⟨ret_bool (by first | (rw [fv.out]; done) | (rw [fv.out]; simp [he])), FIN.out⟩
      · have fv := Lib.hid (HN.out he)
        have e2 : (S == all) = false := by simpa using he
        go_wp2
        go_ret
        exact ⟨ret_bool (by first | (rw [fv.out]; done) | (rw [fv.out]; simp [he])), FIN.out⟩

theorem imRankOk_at (w : World) (u : Value) (ps : List Pr) (all : Int) (hp : Prs w u ps) :
    Calls Try.prog 16 #[.agg #[u, .int .i64 all]] w fun e w' => e = .returned (.bool (rankB ps all)) ∧ Below w.heap.size w w' := by
  obtain ⟨x, c, rfl, hc0, hc⟩ := hp.form
  exact imRankOk_in w x _ c ps all rfl hp (by omega)

end Go.Proofs.Ytnoilafoeaknjaa.K

/-
  Knots in the program: RankSpan.
-/
namespace Go.Proofs.Ytnoilafoeaknjaa.K
open Go.RowKit Go.Sort

theorem or_one : ∀ n : Nat, n < 200 → bits BinOp.or IntKind.i64 ((n : Int) * 2) 1 = 2 * (n : Int) + 1 := by decide +kernel
theorem or_one' (y : Int) (h0 : 0 ≤ y) (h1 : y < 200) : bits BinOp.or IntKind.i64 (y * 2) 1 = 2 * y + 1 := by
  obtain ⟨n, rfl⟩ : ∃ n : Nat, y = (n : Int) := ⟨y.toNat, by omega⟩
  exact or_one n (by omega)
end Go.Proofs.Ytnoilafoeaknjaa.K

/-
  How many are up to a thing, in the program: RankBelow.
-/
namespace Go.Proofs.Ytnoilafoeaknjaa.K
open Go.RowKit Go.Sort

end Go.Proofs.Ytnoilafoeaknjaa.K

/-
  The least thing up to which there are as many: RankAt of the program and of its model.
-/
namespace Go.Proofs.Ytnoilafoeaknjaa.K
open Go.RowKit Go.Sort

/-- x is the least thing up to which at least n are counted at least; or there is none. -/
def AtR (ps : List Pr) (all n x : Int) (ok : Bool) : Prop :=
  (ok = true ∧ rankB ps all = true ∧ 1 ≤ n ∧ (0 ≤ x ∧ x ≤ 63) ∧ n ≤ leastP ps x ∧ ∀ y : Int, 0 ≤ y → y < x → leastP ps y < n) ∨
  (ok = false ∧ x = 0 ∧ (rankB ps all = false ∨ n < 1 ∨ all < n))
theorem AtR.least {ps : List Pr} {all n x : Int} (h : AtR ps all n x true) : (0 ≤ x ∧ x ≤ 63) ∧ rankB ps all = true ∧ n ≤ leastP ps x ∧ ∀ y : Int, 0 ≤ y → y < x → leastP ps y < n := by
  rcases h with ⟨_, a, _, b, c, d⟩ | ⟨h, _⟩
  · exact ⟨b, a, c, d⟩
  · cases h
theorem AtR.uniq {ps : List Pr} {all n x x' : Int} {ok ok' : Bool} (h : AtR ps all n x ok) (h' : AtR ps all n x' ok') : x = x' ∧ ok = ok' := by
  have top : rankB ps all = true → ∀ y : Int, 0 ≤ y → y ≤ 63 → leastP ps y ≤ all := fun hk y y0 y1 => by
    have P := (rankB_iff _ _).1 hk
    have := (below_mono (ps := ps) (fun p hp => by have := (P.num p hp).1; omega) y1).1
    rw [(below_all P).1] at this
    exact this
  rcases h with ⟨rfl, a, b, c, d, e⟩ | ⟨rfl, rfl, h⟩ <;> rcases h' with ⟨rfl, a', b', c', d', e'⟩ | ⟨rfl, rfl, h'⟩
  · refine ⟨?_, rfl⟩
    rcases Int.lt_trichotomy x x' with q | q | q
    · have := e' x c.1 q; omega
    · exact q
    · have := e x' c'.1 q; omega
  · exfalso
    have := top a x c.1 c.2
    rcases h' with h' | h' | h'
    · rw [a] at h'; cases h'
    · omega
    · omega
  · exfalso
    have := top a' x' c'.1 c'.2
    rcases h with h | h | h
    · rw [a'] at h; cases h
    · omega
    · omega
  · exact ⟨rfl, rfl⟩

end Go.Proofs.Ytnoilafoeaknjaa.K
