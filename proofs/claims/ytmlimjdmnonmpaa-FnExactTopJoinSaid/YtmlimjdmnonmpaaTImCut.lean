/-
  What is kept behind a cut: the program's cutPairs.
-/
import Derived.Test.YtmlimjdmnonmpaaTBoth
namespace Go.Proofs.Ytmlimjdmnonmpaa
open Go.RowKit Go.Sort

theorem cntGe_append (ps qs : List Pr) (v : Int) : cntGe (ps ++ qs) v = cntGe ps v + cntGe qs v := by simp [cntGe]
theorem cntGe_perm {ps qs : List Pr} (h : ps.Perm qs) (v : Int) : cntGe ps v = cntGe qs v := (h.filter _).length_eq
theorem cntGe_all {ps : List Pr} {v : Int} (h : ∀ p ∈ ps, v ≤ p.2) : cntGe ps v = ps.length := by
  unfold cntGe; rw [List.filter_eq_self.2 (fun p hp => by simpa using h p hp)]
theorem cntGe_zero {ps : List Pr} {v : Int} (h : ∀ p ∈ ps, ¬ v ≤ p.2) : cntGe ps v = 0 := by
  unfold cntGe; rw [List.filter_eq_nil_iff.2 (fun p hp => by simpa using h p hp)]; rfl
theorem overK_ge {ps : List Pr} {k i : Nat} (hi : i < k) (h : 4 < cntGe ps (pr ps i).2) : (pr ps i).2 ≤ overK ps k := by
  induction k with
  | zero => omega
  | succ k ih =>
    unfold overK
    by_cases e : i = k
    · subst e; rw [if_pos h]; omega
    · have := ih (by omega)
      split <;> omega
theorem overK_is (ps : List Pr) {k : Nat} (hk : k ≤ ps.length) : overK ps k = 0 ∨ ∃ i, i < k ∧ 4 < cntGe ps (pr ps i).2 ∧ (pr ps i).2 = overK ps k := by
  induction k with
  | zero => exact .inl rfl
  | succ k ih =>
    have h := ih (by omega)
    unfold overK
    by_cases hc : 4 < cntGe ps (pr ps k).2
    · rw [if_pos hc]
      rcases (by omega : max (overK ps k) (pr ps k).2 = overK ps k ∨ max (overK ps k) (pr ps k).2 = (pr ps k).2) with e | e
      · rw [e]
        rcases h with h | ⟨i, h1, h2, h3⟩
        · exact .inl h
        · exact .inr ⟨i, by omega, h2, h3⟩
      · exact .inr ⟨k, by omega, hc, e.symm⟩
    · rw [if_neg hc]
      rcases h with h | ⟨i, h1, h2, h3⟩
      · exact .inl h
      · exact .inr ⟨i, by omega, h2, h3⟩
theorem overV_few {ps : List Pr} (h : ps.length ≤ 4) : overV ps = 0 := by
  rcases overK_is ps (Nat.le_refl _) with e | ⟨i, _, h2, _⟩
  · exact e
  · have := cntGe_le ps (pr ps i).2; omega
theorem lessV_zero {ps : List Pr} (h : ∀ p ∈ ps, 0 < p.2) : lessV ps 0 = ps := by
  induction ps with
  | nil => rfl
  | cons p ps ih =>
    unfold lessV
    rw [if_pos (h p (by simp)), ih (fun q hq => h q (by simp [hq]))]
    simp
/-- The fifth of the sorted is the number that is lost. -/
theorem over_fifth {ps ss : List Pr} (hp : ss.Perm ps) (hs : SortedL cmpN ss) (hl : 4 < ps.length) (h0 : ∀ p ∈ ps, 0 ≤ p.2) : (pr ss 4).2 = overV ps := by
  have hlen := hp.length_eq
  have ge : ∀ i j, i < j → j < ss.length → (pr ss j).2 ≤ (pr ss i).2 := fun i j hij hj => by
    have := (ltN_no _ _).1 (hs i j hij hj); omega
  have hsplit : ∀ v, cntGe ss v = cntGe (ss.take 4) v + cntGe (ss.drop 4) v := fun v => by rw [← cntGe_append, List.take_append_drop]
  have mem_ps : ∀ i, i < ss.length → pr ss i ∈ ps := fun i hi => hp.mem_iff.1 (pr_mem hi)
  -- at least five have as much as the fifth
  have h5 : 4 < cntGe ps (pr ss 4).2 := by
    rw [← cntGe_perm hp]
    have e : ss = ss.take 5 ++ ss.drop 5 := (List.take_append_drop _ _).symm
    rw [show cntGe ss (pr ss 4).2 = cntGe (ss.take 5) (pr ss 4).2 + cntGe (ss.drop 5) (pr ss 4).2 by rw [← cntGe_append, List.take_append_drop]]
    rw [cntGe_all (ps := ss.take 5) (fun p hp' => by
      obtain ⟨i, hi, rfl⟩ := pr_at hp'
      simp at hi
      rw [pr_take (by omega)]
      by_cases e : i = 4
      · rw [e]; exact Int.le_refl _
      · exact ge i 4 (by omega) (by omega))]
    simp
    omega
  apply Int.le_antisymm
  · obtain ⟨i, hi, e⟩ := pr_at (mem_ps 4 (by omega))
    have := overK_ge (ps := ps) (k := ps.length) hi (by rw [e]; exact h5)
    rw [e] at this
    exact this
  · rcases overK_is ps (Nat.le_refl _) with e | ⟨i, hi, h2, h3⟩
    · have := h0 _ (mem_ps 4 (by omega))
      have e' : overV ps = 0 := e
      omega
    · have e' : overV ps = (pr ps i).2 := h3.symm
      rw [e']
      apply Classical.byContradiction
      intro hlt
      rw [← cntGe_perm hp, hsplit, cntGe_zero (ps := ss.drop 4) (fun p hp' => by
        obtain ⟨j, hj, rfl⟩ := pr_at hp'
        have e2 : pr (ss.drop 4) j = pr ss (4 + j) := by simp [pr]
        rw [e2]
        simp at hj
        by_cases ej : j = 0
        · subst ej; exact fun h => hlt h
        · have := ge 4 (4 + j) (by omega) (by omega); omega)] at h2
      have := cntGe_le (ss.take 4) (pr ps i).2
      simp at this
      omega

/-- What the cut answers. -/
def Cut (w : World) (B : Nat) (ps : List Pr) (w' : World) (u : Value) (n : Int) : Prop := OwnP w' B u (cutP ps) ∧ n = overV ps ∧ Below w.heap.size w w'

theorem cutPairs_few (w : World) (B : Nat) (u : Value) (ps : List Pr) (ho : OwnP w B u ps) (hl : ps.length ≤ 4) (h1 : ∀ p ∈ ps, 0 < p.2) :
    Calls Try.prog 39 #[u] w fun e w' => ∃ r n, e = .returned (.tuple #[r, .int .i64 n]) ∧ Cut w B ps w' r n := by
  have HC : Hid (Cut w B ps w u 0) := ⟨by unfold cutP; rw [overV_few hl, lessV_zero h1]; exact ho, (overV_few hl).symm, Below.refl _ _⟩
  obtain ⟨x, c, rfl, _, _⟩ := ho.form
  obtain ⟨n, hn⟩ : ∃ n, n = ps.length := ⟨_, rfl⟩
  rw [← hn] at HC hl ⊢
  have hl' : (n : Int) ≤ 4 := by omega
  clear ho h1 hn
  go_enter Try.func39, Try.ntmps39
  go_wp2
  go_ret2
  exact ⟨_, _, rfl, HC.out⟩

set_option maxRecDepth 100000 in
set_option maxHeartbeats 4000000 in
theorem cutPairs_many (w : World) (B : Nat) (u : Value) (ps : List Pr) (hB : B ≤ w.heap.size) (ho : OwnP w B u ps) (hl : 4 < ps.length) (hl8 : ps.length ≤ 8) (h1 : BdP 16000 ps) :
    Calls Try.prog 39 #[u] w fun e w' => ∃ r n, e = .returned (.tuple #[r, .int .i64 n]) ∧ Cut w B ps w' r n := by
  obtain ⟨i0, hi, hz0, hz1, hz2⟩ := info_parts pair_info
  have hp := ho.rd
  have K := Lib.hid (inOrderN_at w u ps hp hl8)
  have H0 : Hid (∀ p ∈ ps, 0 ≤ p.2) := fun p hp => (h1 p hp).1
  have HBD := Lib.hid h1
  have ob := overV_bd (M := 16000) (by omega) h1.at
  obtain ⟨x, c, rfl, _, _⟩ := ho.form
  have HPC := Lib.hid hp.cells
  obtain ⟨n, hn⟩ : ∃ n, n = ps.length := ⟨_, rfl⟩
  have HL := Lib.hid hn
  rw [← hn] at K hl hl8 ⊢
  obtain ⟨ov, hov⟩ : ∃ ov, ov = overV ps := ⟨_, rfl⟩
  rw [← hov] at ob
  have HOV := Lib.hid hov
  have hl4 : ¬ (n : Int) ≤ 4 := by omega
  clear ho hp h1 hn hov
  go_enter Try.func39, Try.ntmps39
  go_wp2_with fail
  refine K.out.mono ?_
  rintro e w1 ⟨s, rfl, ss, hperm, hsort, hs, hb1⟩
  have hov5 : (pr ss 4).2 = ov := by rw [HOV.out]; exact over_fifth hperm hsort (by rw [← HL.out]; exact hl) H0.out
  have hsl : ss.length = n := by rw [hperm.length_eq]; exact HL.out.symm
  obtain ⟨xs, cs, rfl, _, _⟩ := hs.form
  obtain ⟨b, o, rfl, hb, s1, s2⟩ := hs.cells 4 (by omega)
  rw [hov5] at s2
  rw [hsl]
  have n4 : (4 : Int) < (n : Int) := by omega
  have B1 := Lib.hid hb1
  clear hperm hsort hs hb1 hov5 hsl s1 K
  have s2' : w1.cell? ⟨b, o + 9, none⟩ = some (.int .i64 ov) := s2
  have s2'' : w1.cell? ⟨b, o + 8 + 1, none⟩ = some (.int .i64 ov) := s2
  go_wp2
  go_loopw [5, 19] (fun q i wr => ∃ (k : Nat) (os : List Pr), k ≤ n ∧ i = .int .i64 k ∧ os = lessV (ps.take k) ov ∧ OwnP wr w1.heap.size q os ∧ Below w1.heap.size w1 wr) (fun _ i _ => n - (intOf i).toNat)
  case atStart => exact ⟨0, [], Nat.zero_le _, rfl, by simp [lessV], OwnP.nil _ _, Below.refl _ _⟩
  case round =>
    clear s2 s2' s2''
    obtain ⟨k, os, hk, rfl, hos, hown, hbl⟩ := hrel
    obtain ⟨z, cz, hu, _, _⟩ := hown.form
    obtain ⟨no, hno⟩ : ∃ no, no = os.length := ⟨_, rfl⟩
    have no8 : no ≤ 8 := by have := lessV_len (ps.take k) ov; have h2 := HL.out; rw [hno, hos]; simp at this; omega
    rw [← hno] at hu
    subst hu
    have HOS := Lib.hid hos
    have HN := Lib.hid hno
    have HB := Lib.hid hbl
    have hsz := hbl.size
    have ho : wr.ownsRow w1.heap.size 29 2 (.slice z no cz) no (prs os) := by have h := hown; unfold OwnP at h; rw [← hno] at h; exact h
    have HO := Lib.hid ho
    clear hbl hown ho hos hno
    by_cases hlt : k < n
    · obtain ⟨b', o', rfl, hb', h1, h2⟩ := HPC.out k (by rw [← HL.out]; exact hlt)
      have tr : ∀ j v, w.cell? ⟨b', j, none⟩ = some v → wr.cell? ⟨b', j, none⟩ = some v := fun j v h =>
        (HB.out.cell (p := ⟨b', j, none⟩) (Nat.lt_of_lt_of_le hb' B1.out.size)).trans ((B1.out.cell (p := ⟨b', j, none⟩) hb').trans h)
      replace h1 := tr _ _ h1
      replace h2 := tr _ _ h2
      have hs := Lib.hid (lessV_succ ps k ov (by rw [← HL.out]; exact hlt))
      have hm := HBD.out.at k (by rw [← HL.out]; exact hlt)
      generalize pr ps k = q at h1 h2 hs hm
      obtain ⟨t, m⟩ := q
      simp only at h1 h2 hm
      obtain ⟨m0, m1⟩ := hm
      have k0 : (0 : Int) ≤ (k : Int) := by omega
      have kn : (k : Int) < (n : Int) := by omega
      clear tr
      by_cases hlm : ov < m
      · rw [if_pos (by exact hlm)] at hs
        go_wp2_with (first | (at_builtin; refine wpList_append_own _ rfl _ _ 23 rfl w1.heap.size 29 i0 (.agg #[.int .i64 0, .int .i64 0]) 2 16 Try.underlying23 hi hz0 hz1 hz2 rfl (by decide) _ _ _ rfl ((HO.out.alloc _).alloc _) ⟨wr.heap.size + 1, 0, none⟩ 1 1 [.int .i64 t, .int .i64 (m - ov)] rfl rfl (by have := cell_two_new (wr.alloc (.cells #[.int .i64 t, .int .i64 m] 29)) (.int .i64 t) (.int .i64 (m - ov)) 29; simpa using this) (by simp [Value.oneCell']) (by unfold maxLen; omega) (by omega) (by simp; omega) ?_; intro v1 w3 ho1 hg1 _; obtain ⟨g_v1, c_v1, rfl, _, _⟩ := World.ownsRow.form ho1 (Nat.succ_pos _)))
        go_roundw
        case rel => exact ⟨k + 1, os ++ [(t, m - ov)], by omega, by go_num, by rw [hs.out, HOS.out], own_snocP ho1 HN.out, below_appendP (HB.out.alloc hsz _) (by simp; omega) (HO.out.alloc _) hg1⟩
        case measure => simp [intOf]; omega
      · rw [if_neg (by exact hlm)] at hs
        go_wp2
        go_roundw
        case rel => exact ⟨k + 1, os, by omega, by go_num, by rw [hs.out, HOS.out, List.append_nil], by have h := HO.out.alloc (.cells #[.int .i64 t, .int .i64 m] 29); rw [HN.out] at h ⊢; exact h, HB.out.alloc hsz _⟩
        case measure => simp [intOf]; omega
    · obtain rfl : k = n := by omega
      have e1 : ps.take k = ps := List.take_of_length_le (by rw [← HL.out]; exact Nat.le_refl _)
      have FIN : Hid (Cut w B ps wr (.slice z no cz) ov) := ⟨by unfold cutP; rw [e1] at HOS; rw [← HOV.out, ← HOS.out]; have h := HO.out; rw [HN.out] at h ⊢; exact OwnP.base (B := w1.heap.size) h (Nat.le_trans hB B1.out.size), HOV.out, B1.out.trans (HB.out.mono B1.out.size)⟩
      clear e1
      go_wp2
      go_ret2
      exact ⟨_, _, rfl, FIN.out⟩

theorem cutPairs_at (w : World) (B : Nat) (u : Value) (ps : List Pr) (hB : B ≤ w.heap.size) (ho : OwnP w B u ps) (hl8 : ps.length ≤ 8) (h1 : BdP 16000 ps) (h2 : ∀ p ∈ ps, 0 < p.2) :
    Calls Try.prog 39 #[u] w fun e w' => ∃ r n, e = .returned (.tuple #[r, .int .i64 n]) ∧ Cut w B ps w' r n := by
  by_cases hl : ps.length ≤ 4
  · exact cutPairs_few w B u ps ho hl h2
  · exact cutPairs_many w B u ps hB ho (by omega) hl8 h1

end Go.Proofs.Ytmlimjdmnonmpaa
