/-
  The pairs of both together, by things: the program's pairsOfBoth.
-/
import Derived.Test.YtmlimjdmnonmpaaTConc
import Derived.Test.YtmlimjdmnonmpaaTOrder
import Derived.Test.YtmlimjdmnonmpaaTSpAdd
namespace Go.Proofs.Ytmlimjdmnonmpaa
open Go.RowKit Go.Sort

/-- One pair more: counted with the last, if that is of the same thing. -/
def mrg (os : List Pr) (p : Pr) : List Pr := if 0 < os.length ∧ (pr os (os.length - 1)).1 = p.1 then os.set (os.length - 1) (p.1, (pr os (os.length - 1)).2 + p.2) else os ++ [p]
theorem mrg_new {os : List Pr} {p : Pr} (h : ¬ (0 < os.length ∧ (pr os (os.length - 1)).1 = p.1)) : mrg os p = os ++ [p] := if_neg h
theorem mrg_old {os : List Pr} {p : Pr} (h0 : 0 < os.length) (h : (pr os (os.length - 1)).1 = p.1) : mrg os p = os.set (os.length - 1) (p.1, (pr os (os.length - 1)).2 + p.2) := if_pos ⟨h0, h⟩
def mrgV (qs : List Pr) : List Pr := qs.foldl mrg []
theorem mrg_len (os : List Pr) (p : Pr) : (mrg os p).length ≤ os.length + 1 := by unfold mrg; split <;> simp
theorem mrgV_succ (qs : List Pr) (k : Nat) (h : k < qs.length) : mrgV (qs.take (k + 1)) = mrg (mrgV (qs.take k)) (pr qs k) := by
  rw [take_succ_pr qs k h]; simp [mrgV]
theorem mrgV_len (qs : List Pr) {k : Nat} (h : k ≤ qs.length) : (mrgV (qs.take k)).length ≤ k := by
  induction k with
  | zero => simp [mrgV]
  | succ k ih => rw [mrgV_succ qs k h]; have := mrg_len (mrgV (qs.take k)) (pr qs k); have := ih (by omega); omega
theorem BdP.mrg {M N : Int} {os : List Pr} {p : Pr} (h : BdP M os) (h0 : 0 ≤ M) (hp : 0 ≤ p.2 ∧ p.2 ≤ N) : BdP (M + N) (mrg os p) := by
  unfold Ytmlimjdmnonmpaa.mrg
  split
  · rename_i hc
    intro q hq
    have hl := h _ (pr_mem (ps := os) (i := os.length - 1) (by omega))
    rcases List.mem_or_eq_of_mem_set hq with h1 | h1
    · have := h q h1; omega
    · rw [h1]; exact ⟨by simp; omega, by simp; omega⟩
  · intro q hq
    rcases List.mem_append.1 hq with h1 | h1
    · have := h q h1; omega
    · simp at h1; subst h1; omega
theorem BdP.mrgV {N : Int} {qs : List Pr} (h : BdP N qs) (hN : 0 ≤ N) {k : Nat} (hk : k ≤ qs.length) : BdP (N * k) (mrgV (qs.take k)) := by
  induction k with
  | zero => intro q hq; simp [Ytmlimjdmnonmpaa.mrgV] at hq
  | succ k ih =>
    rw [mrgV_succ qs k hk]
    have h3 := BdP.mrg (ih (by omega)) (Int.mul_nonneg hN (by omega)) (h.at k (by omega))
    have e : N * ((k + 1 : Nat) : Int) = N * (k : Int) + N := by rw [Int.natCast_add, Int.mul_add]; simp
    rw [e]
    exact h3

theorem prs_set (ps : List Pr) (k : Nat) (z : Int) (h : k < ps.length) : (prs ps).set (k * 2 + 1) (.int .i64 z) = prs (ps.set k ((pr ps k).1, z)) := by
  induction ps generalizing k with
  | nil => cases h
  | cons p ps ih =>
    rw [prs_cons]
    cases k with
    | zero => rfl
    | succ k =>
      have := ih k (by simpa using h)
      rw [show (k + 1) * 2 + 1 = k * 2 + 1 + 1 + 1 by omega]
      simp only [List.set_cons_succ]
      rw [this]
      rfl

theorem row_last {w : World} {B j c : Nat} {x : Option Addr} {os : List Pr} (h : w.ownsRow B 29 2 (.slice x (j + 1) c) (j + 1) (prs os)) (hl : os.length = j + 1) :
    ∃ g, x = some ⟨g, 0, none⟩ ∧ B ≤ g ∧ g < w.heap.size ∧ j + 1 ≤ c ∧ w.cell? ⟨g, j * 2, none⟩ = some (.int .i64 (pr os j).1) ∧ w.cell? ⟨g, j * 2 + 1, none⟩ = some (.int .i64 (pr os j).2) ∧ w.frozen? ⟨g, j * 2 + 1, none⟩ = false := by
  rcases h.2 with ⟨_, h0⟩ | ⟨g, cap, cur, e, hb, hg, hn, hc, hs, ht⟩
  · omega
  · obtain ⟨e1, _, e3⟩ := Value.slice.inj e
    subst e1 e3
    have e2 := prs_get os j (by omega)
    have a := World.ownsRow.cells h (g := g) rfl _ _ e2.1
    have b := World.ownsRow.cells h (g := g) rfl _ _ e2.2
    rw [addr_plus, Nat.zero_add] at a b
    exact ⟨g, rfl, hb, (Array.getElem?_eq_some_iff.1 hg).1, hn, a, b, World.ownsRow.frozenAt h _⟩

/-- What the sorted pairs come to. -/
def Both (w : World) (ps qs : List Pr) (w' : World) (u : Value) : Prop := ∃ ss : List Pr, ss.Perm (ps ++ qs) ∧ SortedL cmpT ss ∧ OwnP w' w.heap.size u (mrgV ss) ∧ Below w.heap.size w w'

set_option maxRecDepth 100000 in
set_option maxHeartbeats 8000000 in
theorem pairsOfBoth_at (w : World) (u v : Value) (ps qs : List Pr) (hp : Prs w u ps) (hq : Prs w v qs) (la : ps.length ≤ 4) (lb : qs.length ≤ 4) (ba : BdP 2000 ps) (bb : BdP 2000 qs) :
    Calls Try.prog 40 #[u, v] w fun e w' => ∃ r, e = .returned r ∧ Both w ps qs w' r := by
  obtain ⟨i0, hi, hz0, hz1, hz2⟩ := info_parts pair_info
  obtain ⟨x, ca, rfl, _, _⟩ := hp.form
  obtain ⟨y, cb, rfl, _, _⟩ := hq.form
  obtain ⟨na, hna⟩ : ∃ na, na = ps.length := ⟨_, rfl⟩
  obtain ⟨nb, hnb⟩ : ∃ nb, nb = qs.length := ⟨_, rfl⟩
  rw [← hna] at hp la ⊢
  rw [← hnb] at hq lb ⊢
  obtain ⟨W0, hW0⟩ : ∃ W0, W0 = w.alloc (.cells #[.slice x na ca, .slice y nb cb] 23) := ⟨_, rfl⟩
  have B0 : Hid (Below w.heap.size w W0) := by show Below _ _ _; rw [hW0]; exact (Below.refl _ _).alloc (Nat.le_refl _) _
  have KC := Lib.hid (concat_at W0 w.heap.size na nb ca cb x y ps qs hna.symm hnb.symm (by omega) (by omega) (hp.below B0.out (Nat.le_refl _)) (hq.below B0.out (Nat.le_refl _)) (by rw [hW0]; simp) (by rw [hW0]; simp))
  have HW := Lib.hid hW0
  obtain ⟨L, hL⟩ : ∃ L, L = ps ++ qs := ⟨_, rfl⟩
  have HLEN : Hid (L.length ≤ 8) := by show _ ≤ _; rw [hL, List.length_append, ← hna, ← hnb]; omega
  have HBD : Hid (BdP 2000 L) := fun p hp' => by rw [hL] at hp'; rcases List.mem_append.1 hp' with h | h; exact ba p h; exact bb p h
  have HLL := Lib.hid hL
  rw [← hL] at KC
  have KO : Hid (∀ W r, Prs W r L → Calls Try.prog 49 #[r, .int .i64 0] W fun e w' => ∃ u, e = .returned u ∧ Sorted cmpT W L w' u) := fun W r h => inOrderT_at W r _ h HLEN.out
  clear hp hq ba bb hna hnb hW0 hL
  go_enter Try.func40, Try.ntmps40
  go_wp2_with fail
  rw [← HW.out]
  clear HW
  go_wp2_with fail
  refine KC.out.mono ?_
  rintro e w1 ⟨r, rfl, ho1, hb1⟩
  have B1 := Lib.hid (B0.out.trans (hb1.mono B0.out.size))
  have KO1 := Lib.hid (KO.out w1 r ho1.rd)
  obtain ⟨xr, cr, rfl, _, _⟩ := ho1.form
  generalize L.length = nl at KO1 ⊢
  clear ho1 hb1 KC KO B0
  go_wp2_with fail
  refine KO1.out.mono ?_
  rintro e w2 ⟨s, rfl, ss, hperm, hsort, hs, hb2⟩
  have B2 := Lib.hid (B1.out.trans (hb2.mono B1.out.size))
  have PE : Hid (ss.Perm (ps ++ qs)) := by show List.Perm _ _; rw [← HLL.out]; exact hperm
  have SO := Lib.hid hsort
  obtain ⟨xs, cs, rfl, _, _⟩ := hs.form
  have HP := Lib.hid hs.cells
  obtain ⟨n, hn⟩ : ∃ n, n = ss.length := ⟨_, rfl⟩
  have n8 : n ≤ 8 := by have h1 := hperm.length_eq; have h2 := HLEN.out; omega
  have HL := Lib.hid hn
  have BS : Hid (BdP 2000 ss) := fun p hp' => HBD.out p (hperm.mem_iff.1 hp')
  rw [← hn]
  clear hperm hsort hs hb2 hn KO1 B1
  go_wp2
  go_loopw [5, 15] (fun q i wr => ∃ (k : Nat) (os : List Pr), k ≤ n ∧ i = .int .i64 k ∧ os = mrgV (ss.take k) ∧ OwnP wr w2.heap.size q os ∧ Below w2.heap.size w2 wr) (fun _ i _ => n - (intOf i).toNat)
  case atStart => exact ⟨0, [], Nat.zero_le _, rfl, by simp [mrgV], OwnP.nil _ _, Below.refl _ _⟩
  case round =>
    obtain ⟨k, os, hk, rfl, hos, hown, hbl⟩ := hrel
    have olen : os.length ≤ k := by rw [hos]; exact mrgV_len ss (by rw [← HL.out]; exact hk)
    have obd : BdP (2000 * k) os := by rw [hos]; exact BS.out.mrgV (by omega) (by rw [← HL.out]; exact hk)
    obtain ⟨z, cz, hu, _, _⟩ := hown.form
    obtain ⟨no, hno⟩ : ∃ no, no = os.length := ⟨_, rfl⟩
    have no8 : no ≤ 8 := by omega
    rw [← hno] at hu
    subst hu
    have HOS := Lib.hid hos
    have HN := Lib.hid hno
    have HB := Lib.hid hbl
    have OB := Lib.hid obd
    have hsz := hbl.size
    have ho : wr.ownsRow w2.heap.size 29 2 (.slice z no cz) no (prs os) := by have h := hown; unfold OwnP at h; rw [← hno] at h; exact h
    have HO := Lib.hid ho
    clear hbl hown ho hos obd olen hno
    by_cases hlt : k < n
    · obtain ⟨b, o, rfl, hb, h1, h2⟩ := HP.out k (by rw [← HL.out]; exact hlt)
      replace h1 := (HB.out.cell (p := ⟨b, o + k * 2, none⟩) hb).trans h1
      replace h2 := (HB.out.cell (p := ⟨b, o + k * 2 + 1, none⟩) hb).trans h2
      have hs := Lib.hid (mrgV_succ ss k (by rw [← HL.out]; exact hlt))
      have hm := BS.out.at k (by rw [← HL.out]; exact hlt)
      generalize pr ss k = q at h1 h2 hs hm
      obtain ⟨t, m⟩ := q
      simp only at h1 h2 hm
      obtain ⟨m0, m1⟩ := hm
      have k0 : (0 : Int) ≤ (k : Int) := by omega
      have kn : (k : Int) < (n : Int) := by omega
      rcases Nat.eq_zero_or_pos no with h0 | h0
      · subst h0
        have hz : Hid (mrg os (t, m) = os ++ [(t, m)]) := mrg_new (fun h => by have := HN.out; omega)
        go_wp2
        go_quiet (fail)
        obtain ⟨wq, hwq⟩ : ∃ wq, wq = (wr.alloc (.cells #[.int .i64 t, .int .i64 m] 29)).drewN nq := ⟨_, rfl⟩
        have HOq : Hid (wq.ownsRow w2.heap.size 29 2 (.slice z 0 cz) 0 (prs os)) := by rw [hwq]; exact HO.out.alloc _
        have HBq : Hid (Below w2.heap.size w2 wq) := by rw [hwq]; exact below_drewN (HB.out.alloc hsz _) _
        have hszq : w2.heap.size ≤ wq.heap.size := by rw [hwq]; show _ ≤ (wr.alloc (.cells #[.int .i64 t, .int .i64 m] 29)).heap.size; simp; omega
        have b0q : wq.cell? ⟨wr.heap.size, 0, none⟩ = some (.int .i64 t) := by rw [hwq]; show (wr.alloc (.cells #[.int .i64 t, .int .i64 m] 29)).cell? _ = _; simp
        have b1q : wq.cell? ⟨wr.heap.size, 1, none⟩ = some (.int .i64 m) := by rw [hwq]; show (wr.alloc (.cells #[.int .i64 t, .int .i64 m] 29)).cell? _ = _; simp
        rw [← hwq]
        clear hwq
        go_wp2_with (first | (at_builtin; refine wpList_append_own _ rfl _ _ 23 rfl w2.heap.size 29 i0 (.agg #[.int .i64 0, .int .i64 0]) 2 16 Try.underlying23 hi hz0 hz1 hz2 rfl (by decide) _ _ _ rfl (HOq.out.alloc _) ⟨wq.heap.size, 0, none⟩ 1 1 [.int .i64 t, .int .i64 m] rfl rfl (cell_two_new _ _ _ _) (by simp [Value.oneCell']) (by unfold maxLen; omega) (by omega) (by simp; omega) ?_; intro v1 w3 ho1 hg1 _; obtain ⟨g_v1, c_v1, rfl, _, _⟩ := World.ownsRow.form ho1 (Nat.succ_pos _)))
        go_roundw
        case rel => exact ⟨k + 1, os ++ [(t, m)], by omega, by go_num, by rw [hs.out, ← HOS.out, hz.out], own_snocP ho1 HN.out, below_appendP HBq.out hszq HOq.out hg1⟩
        case measure => simp [intOf]; omega
      · obtain ⟨j, rfl⟩ : ∃ j, no = j + 1 := ⟨no - 1, by omega⟩
        obtain ⟨gz, rfl, gz0, gz1, gzc, q1, q2, q3⟩ := row_last HO.out HN.out.symm
        have hlast := OB.out.at j (by rw [← HN.out]; omega)
        have hsub : os.length - 1 = j := by rw [← HN.out]; omega
        have HM1 : Hid ((pr os j).1 = t → mrg os (t, m) = os.set j (t, (pr os j).2 + m)) := fun e => by have := mrg_old (os := os) (p := (t, m)) (by rw [← HN.out]; omega) (by rw [hsub]; exact e); rw [hsub] at this; exact this
        have HM2 : Hid (¬ (pr os j).1 = t → mrg os (t, m) = os ++ [(t, m)]) := fun e => mrg_new (fun h => e (by have := h.2; rw [hsub] at this; exact this))
        have HST : Hid (∀ W : World, W.ownsRow w2.heap.size 29 2 (.slice (some ⟨gz, 0, none⟩) (j + 1) cz) (j + 1) (prs os) → ∀ x, (pr os j).1 = t → OwnP (W.setCell ⟨gz, j * 2 + 1, none⟩ (.int .i64 x)) w2.heap.size (.slice (some ⟨gz, 0, none⟩) (j + 1) cz) (os.set j (t, x)) ∧ W.grownBy (W.setCell ⟨gz, j * 2 + 1, none⟩ (.int .i64 x)) (some gz)) := fun W hW x e => by
          have hst := hW.stored (j * 2 + 1) (.int .i64 x)
          rw [prs_set os j x (by rw [← HN.out]; omega), e] at hst
          refine ⟨?_, hst.2⟩
          unfold OwnP
          rw [List.length_set, ← HN.out]
          exact hst.1
        clear hsub
        generalize pr os j = l at q1 q2 HM1 HM2 HST hlast
        obtain ⟨t0, m0'⟩ := l
        simp only at q1 q2 hlast
        obtain ⟨hl0, hl1⟩ := hlast
        have hl2 : m0' ≤ 16000 := by have : (k : Int) ≤ 8 := by omega
                                     omega
        have p0 : (0 : Int) ≤ ((j + 1 : Nat) : Int) - 1 := by omega
        have e1 : ((j + 1 : Nat) : Int) - 1 = (j : Int) := by omega
        have j0 : (0 : Int) ≤ (j : Int) := by omega
        have jn : (j : Int) < ((j + 1 : Nat) : Int) := by omega
        have a1 := (World.cell?_alloc_lt (w := wr) (o := (.cells #[.int .i64 t, .int .i64 m] 29)) (a := ⟨gz, j * 2, none⟩) (h := gz1)).trans q1
        have a2 := (World.cell?_alloc_lt (w := wr) (o := (.cells #[.int .i64 t, .int .i64 m] 29)) (a := ⟨gz, j * 2 + 1, none⟩) (h := gz1)).trans q2
        by_cases ht : t0 = t
        · have hd : (t0 == t) = true := by simpa using ht
          have hd2 : decide (t0 = t) = true := by simpa using ht
          have fin := Lib.hid (HM1.out ht)
          have FST := Lib.hid (fun W hW x => HST.out W hW x ht)
          have ws : IntKind.i64.wrap (m0' + m) = m0' + m := IntWalk.i64_in _ (by omega)
          clear ht HM1 HM2 HST hl1
          go_wp2
          go_quiet (fail)
          obtain ⟨wq, hwq⟩ : ∃ wq, wq = (wr.alloc (.cells #[.int .i64 t, .int .i64 m] 29)).drewN nq := ⟨_, rfl⟩
          have HOq : Hid (wq.ownsRow w2.heap.size 29 2 (.slice (some ⟨gz, 0, none⟩) (j + 1) cz) (j + 1) (prs os)) := by rw [hwq]; exact HO.out.alloc _
          have HBq : Hid (Below w2.heap.size w2 wq) := by rw [hwq]; exact below_drewN (HB.out.alloc hsz _) _
          have hszq : w2.heap.size ≤ wq.heap.size := by rw [hwq]; show _ ≤ (wr.alloc (.cells #[.int .i64 t, .int .i64 m] 29)).heap.size; simp; omega
          have b0q : wq.cell? ⟨wr.heap.size, 0, none⟩ = some (.int .i64 t) := by rw [hwq]; show (wr.alloc (.cells #[.int .i64 t, .int .i64 m] 29)).cell? _ = _; simp
          have b1q : wq.cell? ⟨wr.heap.size, 1, none⟩ = some (.int .i64 m) := by rw [hwq]; show (wr.alloc (.cells #[.int .i64 t, .int .i64 m] 29)).cell? _ = _; simp
          have a2q : wq.cell? ⟨gz, j * 2 + 1, none⟩ = some (.int .i64 m0') := by rw [hwq]; exact a2
          have fq : wq.frozen? ⟨gz, j * 2 + 1, none⟩ = false := World.ownsRow.frozenAt HOq.out _
          rw [← hwq]
          clear hwq a1 a2 q1 q2 q3
          go_wp2_with fail
          go_region
          all_goals
            have fz := FST.out wq HOq.out (m0' + m)
            have FZ := Lib.hid fz
            clear fz
            go_wp2
            go_roundw
            case rel => exact ⟨k + 1, os.set j (t, m0' + m), by omega, by go_num, by rw [hs.out, ← HOS.out, fin.out], World.ownsRow.drew FZ.out.1, ((HBq.out.grown FZ.out.2 hszq (fun k e => by cases e; exact gz0)).trans (Below.drew (Below.refl _ _)))⟩
            case measure => simp [intOf]; omega
        · have hd : (t0 == t) = false := by simpa using ht
          have hd2 : decide (t0 = t) = false := by simpa using ht
          have fin := Lib.hid (HM2.out ht)
          clear ht HM1 HM2 HST hl1
          go_wp2
          go_quiet (fail)
          obtain ⟨wq, hwq⟩ : ∃ wq, wq = (wr.alloc (.cells #[.int .i64 t, .int .i64 m] 29)).drewN nq := ⟨_, rfl⟩
          have HOq : Hid (wq.ownsRow w2.heap.size 29 2 (.slice (some ⟨gz, 0, none⟩) (j + 1) cz) (j + 1) (prs os)) := by rw [hwq]; exact HO.out.alloc _
          have HBq : Hid (Below w2.heap.size w2 wq) := by rw [hwq]; exact below_drewN (HB.out.alloc hsz _) _
          have hszq : w2.heap.size ≤ wq.heap.size := by rw [hwq]; show _ ≤ (wr.alloc (.cells #[.int .i64 t, .int .i64 m] 29)).heap.size; simp; omega
          have b0q : wq.cell? ⟨wr.heap.size, 0, none⟩ = some (.int .i64 t) := by rw [hwq]; show (wr.alloc (.cells #[.int .i64 t, .int .i64 m] 29)).cell? _ = _; simp
          have b1q : wq.cell? ⟨wr.heap.size, 1, none⟩ = some (.int .i64 m) := by rw [hwq]; show (wr.alloc (.cells #[.int .i64 t, .int .i64 m] 29)).cell? _ = _; simp
          have a2q : wq.cell? ⟨gz, j * 2 + 1, none⟩ = some (.int .i64 m0') := by rw [hwq]; exact a2
          have fq : wq.frozen? ⟨gz, j * 2 + 1, none⟩ = false := World.ownsRow.frozenAt HOq.out _
          rw [← hwq]
          clear hwq a1 a2 q1 q2 q3
          go_wp2_with (first | (at_builtin; refine wpList_append_own _ rfl _ _ 23 rfl w2.heap.size 29 i0 (.agg #[.int .i64 0, .int .i64 0]) 2 16 Try.underlying23 hi hz0 hz1 hz2 rfl (by decide) _ _ _ rfl (HOq.out.alloc _) ⟨wq.heap.size, 0, none⟩ 1 1 [.int .i64 t, .int .i64 m] rfl rfl (cell_two_new _ _ _ _) (by simp [Value.oneCell']) (by unfold maxLen; omega) (by omega) (by simp; omega) ?_; intro v1 w3 ho1 hg1 _; obtain ⟨g_v1, c_v1, rfl, _, _⟩ := World.ownsRow.form ho1 (Nat.succ_pos _)))
          go_roundw
          case rel => exact ⟨k + 1, os ++ [(t, m)], by omega, by go_num, by rw [hs.out, ← HOS.out, fin.out], own_snocP ho1 HN.out, below_appendP HBq.out hszq HOq.out hg1⟩
          case measure => simp [intOf]; omega
    · obtain rfl : k = n := by omega
      have e1 : ss.take k = ss := List.take_of_length_le (by rw [← HL.out]; exact Nat.le_refl _)
      have FIN : Hid (Both w ps qs wr (.slice z no cz)) := ⟨ss, PE.out, SO.out, by rw [e1] at HOS; rw [← HOS.out]; have h := HO.out; rw [HN.out] at h ⊢; exact OwnP.base (B := w2.heap.size) h B2.out.size, B2.out.trans (HB.out.mono B2.out.size)⟩
      clear e1
      go_wp2
      go_ret
      exact ⟨_, rfl, FIN.out⟩

end Go.Proofs.Ytmlimjdmnonmpaa
