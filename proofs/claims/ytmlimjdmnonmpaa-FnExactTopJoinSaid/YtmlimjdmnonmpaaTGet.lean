/-
  How often a thing was counted: the program's TopGet and its model's.
-/
import Derived.Test.YtmlimjdmnonmpaaTOk
namespace Go.Proofs.Ytmlimjdmnonmpaa
open Go.RowKit Go.Sort

/-- How much of the thing t is among pairs. -/
def tot : List Pr → Int → Int
  | [], _ => 0
  | p :: ps, t => (if p.1 = t then p.2 else 0) + tot ps t
theorem tot_append (ps qs : List Pr) (t : Int) : tot (ps ++ qs) t = tot ps t + tot qs t := by
  induction ps with
  | nil => simp [tot]
  | cons p ps ih => simp only [List.cons_append, tot, ih]; omega
theorem tot_one (p : Pr) (t : Int) : tot [p] t = if p.1 = t then p.2 else 0 := by simp [tot]
theorem tot_none {ps : List Pr} {t : Int} (h : ∀ p ∈ ps, p.1 ≠ t) : tot ps t = 0 := by
  induction ps with
  | nil => rfl
  | cons p ps ih =>
    have h1 := h p (by simp)
    simp only [tot, if_neg h1, ih (fun q hq => h q (by simp [hq]))]; rfl
/-- The things stand in ascending order. -/
def Asc (ps : List Pr) : Prop := ∀ i, 0 < i → i < ps.length → (pr ps (i - 1)).1 < (pr ps i).1
theorem Asc.lt {ps : List Pr} (h : Asc ps) {i : Nat} : ∀ {j : Nat}, i < j → j < ps.length → (pr ps i).1 < (pr ps j).1 := by
  intro j
  induction j with
  | zero => intro h0; omega
  | succ j ih =>
    intro hij hj
    have h1 := h (j + 1) (by omega) hj
    rw [Nat.add_sub_cancel] at h1
    by_cases e : i = j
    · rw [e]; exact h1
    · have := ih (by omega) (by omega); omega
theorem pr_take {ps : List Pr} {k i : Nat} (h : i < k) : pr (ps.take k) i = pr ps i := by simp [pr, h]
theorem tot_succ (ps : List Pr) (k : Nat) (t : Int) (h : k < ps.length) : tot (ps.take (k + 1)) t = tot (ps.take k) t + if (pr ps k).1 = t then (pr ps k).2 else 0 := by
  rw [take_succ_pr ps k h, tot_append, tot_one]
theorem Asc.before {ps : List Pr} (h : Asc ps) {k : Nat} {t : Int} (hk : k < ps.length) (ht : (pr ps k).1 ≤ t) : tot (ps.take k) t = 0 := tot_none fun p hp => by
  obtain ⟨i, hi, rfl⟩ := pr_at hp
  have hi' : i < k := by simp at hi; omega
  rw [pr_take hi']
  have := h.lt hi' hk
  omega
theorem Asc.at {ps : List Pr} (h : Asc ps) {k : Nat} (hk : k < ps.length) : tot ps (pr ps k).1 = (pr ps k).2 := by
  have e1 : tot (ps.drop (k + 1)) (pr ps k).1 = 0 := tot_none fun p hp => by
    obtain ⟨i, hi, rfl⟩ := pr_at hp
    have e2 : pr (ps.drop (k + 1)) i = pr ps (k + 1 + i) := by simp [pr]
    rw [e2]
    simp at hi
    have := h.lt (i := k) (j := k + 1 + i) (by omega) (by omega)
    omega
  have e2 : tot ps (pr ps k).1 = tot (ps.take (k + 1)) (pr ps k).1 + tot (ps.drop (k + 1)) (pr ps k).1 := by rw [← tot_append, List.take_append_drop]
  rw [e2, e1, tot_succ ps k _ hk, h.before hk (Int.le_refl _)]
  simp
theorem TopP.asc {ps : List Pr} {lost all : Int} (h : TopP ps lost all) : Asc ps := fun i h0 hi => (h.2.1 i hi).2 h0

def isT (t : Int) : Bool := decide (0 ≤ t ∧ t < 64)
theorem isT_yes {t : Int} (h : isT t = true) : 0 ≤ t ∧ t < 64 := by simpa [isT] using h
theorem isT_no {t : Int} (h : isT t = false) : t < 0 ∨ 64 ≤ t := by simp [isT] at h; omega
def getOk (ps : List Pr) (lost all t : Int) : Bool := topB ps lost all && isT t
def getL (ps : List Pr) (lost all t : Int) : Int := if getOk ps lost all t then tot ps t else -1
def getM (ps : List Pr) (lost all t : Int) : Int := if getOk ps lost all t then tot ps t + lost else -1
theorem getOk_cases (ps : List Pr) (lost all t : Int) : (topB ps lost all = false ∧ getOk ps lost all t = false) ∨ (topB ps lost all = true ∧ (t < 0 ∨ 64 ≤ t) ∧ getOk ps lost all t = false) ∨ (topB ps lost all = true ∧ (0 ≤ t ∧ t < 64) ∧ getOk ps lost all t = true) := by
  unfold getOk
  cases h : topB ps lost all
  · exact .inl ⟨rfl, rfl⟩
  · cases h' : isT t
    · exact .inr (.inl ⟨rfl, isT_no h', rfl⟩)
    · exact .inr (.inr ⟨rfl, isT_yes h', rfl⟩)
theorem get_no {ps : List Pr} {lost all t : Int} (h : getOk ps lost all t = false) : getL ps lost all t = -1 ∧ getM ps lost all t = -1 := by simp [getL, getM, h]
theorem get_yes {ps : List Pr} {lost all t : Int} (h : getOk ps lost all t = true) : getL ps lost all t = tot ps t ∧ getM ps lost all t = tot ps t + lost := by simp [getL, getM, h]

theorem tot_bd {ps : List Pr} {t : Int} (h : ∀ i, i < ps.length → TopG ps i) (ha : Asc ps) : 0 ≤ tot ps t ∧ tot ps t ≤ 2000 := by
  by_cases hx : ∃ i, i < ps.length ∧ (pr ps i).1 = t
  · obtain ⟨i, hi, rfl⟩ := hx
    rw [ha.at hi]
    have := (h i hi).1.2
    omega
  · rw [tot_none fun p hp e => by obtain ⟨i, hi, rfl⟩ := pr_at hp; exact hx ⟨i, hi, e⟩]
    omega
theorem TopG.take {ps : List Pr} {k : Nat} (h : ∀ i, i < ps.length → TopG ps i) : ∀ i, i < (ps.take k).length → TopG (ps.take k) i := fun i hi => by
  simp at hi
  have := h i (by omega)
  unfold TopG at this ⊢
  rw [pr_take (by omega), pr_take (by omega)]
  exact this
theorem Asc.take {ps : List Pr} (h : Asc ps) (k : Nat) : Asc (ps.take k) := fun i h0 hi => by
  simp at hi
  rw [pr_take (by omega), pr_take (by omega)]
  exact h i h0 (by omega)

set_option maxHeartbeats 1000000 in
theorem imTopGet_in (w : World) (x : Option Addr) (n c : Nat) (ps : List Pr) (lost all t : Int) (hl : ps.length = n) (hp : Prs w (.slice x n c) ps) :
    Calls Try.prog 18 #[.agg #[.slice x n c, .int .i64 lost, .int .i64 all], .int .i64 t] w fun e w' => e = .returned (.tuple #[.int .i64 (getL ps lost all t), .int .i64 (getM ps lost all t)]) ∧ Below w.heap.size w w' := by
  have hA := (Below.refl w.heap.size w).alloc (Nat.le_refl _) (.cells #[.slice x n c, .int .i64 lost, .int .i64 all] 25)
  have c0 : (w.alloc (.cells #[.slice x n c, .int .i64 lost, .int .i64 all] 25)).cell? ⟨w.heap.size, 0, none⟩ = some (.slice x n c) := by simp
  have c1 : (w.alloc (.cells #[.slice x n c, .int .i64 lost, .int .i64 all] 25)).cell? ⟨w.heap.size, 1, none⟩ = some (.int .i64 lost) := by simp
  have C0 := Lib.hid c0
  have C1 := Lib.hid c1
  have HA := Lib.hid hA
  have K := Lib.hid (imTopOk_at _ _ ps lost all (hp.below hA (Nat.le_refl _)))
  rcases getOk_cases ps lost all t with ⟨hk, hno⟩ | ⟨hk, ht, hno⟩ | ⟨hk, ht, hok⟩
  · rw [(get_no hno).1, (get_no hno).2]
    rw [hk] at K
    clear hp hA c0 c1 hk hno hl
    go_enter Try.func18, Try.ntmps18
    go_wp2_with fail
    refine K.out.mono ?_
    rintro e w1 ⟨rfl, hb1⟩
    go_wp2
    go_ret2
    exact ⟨rfl, HA.out.trans (hb1.mono HA.out.size)⟩
  · rw [(get_no hno).1, (get_no hno).2]
    rw [hk] at K
    clear hp hA c0 c1 hk hno hl
    have KT : Hid (∀ W, Calls Try.prog 33 #[.int .i64 t] W fun e w' => e = .returned (.bool false) ∧ W = w') := fun W => isThing_no t W ht
    clear ht
    go_enter Try.func18, Try.ntmps18
    go_wp2_with fail
    refine K.out.mono ?_
    rintro e w1 ⟨rfl, hb1⟩
    go_wp2_with fail
    refine (KT.out _).mono ?_
    rintro e w' ⟨rfl, rfl⟩
    go_wp2
    go_ret2
    exact ⟨rfl, HA.out.trans (hb1.mono HA.out.size)⟩
  · rw [(get_yes hok).1, (get_yes hok).2]
    rw [hk] at K
    have hP := (topB_iff _ _ _).1 hk
    have hln : n ≤ 4 := by rw [← hl]; exact hP.1.1
    have hlo := hP.1.2.1
    have G := Lib.hid hP.2.1
    have A := Lib.hid hP.asc
    have hb := tot_bd (t := t) G.out A.out
    obtain ⟨S, hS⟩ : ∃ S, S = tot ps t := ⟨_, rfl⟩
    rw [← hS] at hb ⊢
    have HS := Lib.hid hS
    have HP := Lib.hid hp.cells
    have HL := Lib.hid hl
    have KT : Hid (∀ W, Calls Try.prog 33 #[.int .i64 t] W fun e w' => e = .returned (.bool true) ∧ W = w') := fun W => isThing_yes t W ht.1 ht.2
    clear hp hA hk hok hl ht hP c0 c1 hS
    go_enter Try.func18, Try.ntmps18
    go_wp2_with fail
    refine K.out.mono ?_
    rintro e w1 ⟨rfl, hb1⟩
    have d0 := cell_later hb1 C0.out
    have d1 := cell_later hb1 C1.out
    have D1 := Lib.hid d1
    have B1 := Lib.hid (HA.out.trans (hb1.mono HA.out.size))
    clear hb1
    go_wp2_with fail
    refine (KT.out _).mono ?_
    rintro e w' ⟨rfl, rfl⟩
    go_wp2
    go_loopw [6, 20] (fun q i wr => ∃ k : Nat, k ≤ n ∧ i = .int .i64 k ∧ q = .int .i64 (tot (ps.take k) t) ∧ Below w1.heap.size w1 wr) (fun _ i _ => n - (intOf i).toNat)
    case atStart => exact ⟨0, Nat.zero_le _, rfl, by simp [tot], Below.refl _ _⟩
    case round =>
      obtain ⟨k, hk, rfl, rfl, hbl⟩ := hrel
      have HB := Lib.hid hbl
      have cw := cell_later hbl D1.out
      clear hbl
      by_cases hlt : k < n
      · obtain ⟨b, o, rfl, hb, h1, h2⟩ := HP.out k (by rw [HL.out]; exact hlt)
        have tr : ∀ j v, w.cell? ⟨b, j, none⟩ = some v → wr.cell? ⟨b, j, none⟩ = some v := fun j v h =>
          (HB.out.cell (p := ⟨b, j, none⟩) (Nat.lt_of_lt_of_le hb B1.out.size)).trans ((B1.out.cell (p := ⟨b, j, none⟩) hb).trans h)
        replace h1 := tr _ _ h1
        replace h2 := tr _ _ h2
        have hs := Lib.hid (tot_succ ps k t (by rw [HL.out]; exact hlt))
        have hz : Hid ((pr ps k).1 = t → tot (ps.take k) t = 0) := fun e => A.out.before (by rw [HL.out]; exact hlt) (by omega)
        generalize pr ps k = q at h1 h2 hs hz
        obtain ⟨t', m⟩ := q
        clear tr
        by_cases e : t' = t
        · subst e
          rw [hz.out rfl] at hs
          go_wp2
          go_roundw
          case rel => exact ⟨k + 1, by omega, by go_num, by rw [hs.out]; simp, HB.out.alloc HB.out.size _⟩
          case measure => simp [intOf]; omega
        · have e' : (t' == t) = false := by simpa using e
          have e2 : decide (t' = t) = false := by simpa using e
          rw [if_neg (by exact e)] at hs
          clear e
          go_wp2
          go_roundw
          case rel => exact ⟨k + 1, by omega, by go_num, by rw [hs.out]; simp, HB.out.alloc HB.out.size _⟩
          case measure => simp [intOf]; omega
      · obtain rfl : k = n := by omega
        have e1 : ps.take k = ps := List.take_of_length_le (by rw [HL.out]; exact Nat.le_refl _)
        rw [e1, ← HS.out]
        have ws : IntKind.i64.wrap (S + lost) = S + lost := IntWalk.i64_in _ (by omega)
        clear e1
        go_wp2
        go_quiet (fail)
        go_wp2
        go_ret2
        exact ⟨rfl, below_drewN (B1.out.trans (HB.out.mono B1.out.size)) _⟩

theorem imTopGet_at (w : World) (u : Value) (ps : List Pr) (lost all t : Int) (hp : Prs w u ps) :
    Calls Try.prog 18 #[.agg #[u, .int .i64 lost, .int .i64 all], .int .i64 t] w fun e w' => e = .returned (.tuple #[.int .i64 (getL ps lost all t), .int .i64 (getM ps lost all t)]) ∧ Below w.heap.size w w' := by
  obtain ⟨x, c, rfl, hc0, hc⟩ := hp.form
  exact imTopGet_in w x _ c ps lost all t rfl hp

set_option maxHeartbeats 1000000 in
theorem spTopGet_in (w : World) (x : Option Addr) (n c : Nat) (ps : List Pr) (lost all t : Int) (hl : ps.length = n) (hp : Prs w (.slice x n c) ps) :
    Calls Try.prog 20 #[.agg #[.slice x n c, .int .i64 lost, .int .i64 all], .int .i64 t] w fun e w' => e = .returned (.tuple #[.int .i64 (getL ps lost all t), .int .i64 (getM ps lost all t)]) ∧ Below w.heap.size w w' := by
  have hA := (Below.refl w.heap.size w).alloc (Nat.le_refl _) (.cells #[.slice x n c, .int .i64 lost, .int .i64 all] 25)
  have c0 : (w.alloc (.cells #[.slice x n c, .int .i64 lost, .int .i64 all] 25)).cell? ⟨w.heap.size, 0, none⟩ = some (.slice x n c) := by simp
  have c1 : (w.alloc (.cells #[.slice x n c, .int .i64 lost, .int .i64 all] 25)).cell? ⟨w.heap.size, 1, none⟩ = some (.int .i64 lost) := by simp
  have C0 := Lib.hid c0
  have C1 := Lib.hid c1
  have HA := Lib.hid hA
  have K := Lib.hid (spTopOk_at _ _ ps lost all (hp.below hA (Nat.le_refl _)))
  rcases getOk_cases ps lost all t with ⟨hk, hno⟩ | ⟨hk, ht, hno⟩ | ⟨hk, ht, hok⟩
  · rw [(get_no hno).1, (get_no hno).2]
    rw [hk] at K
    clear hp hA c0 c1 hk hno hl
    go_enter Try.func20, Try.ntmps20
    go_wp2_with fail
    refine K.out.mono ?_
    rintro e w1 ⟨rfl, hb1⟩
    go_wp2
    go_ret2
    exact ⟨rfl, HA.out.trans (hb1.mono HA.out.size)⟩
  · rw [(get_no hno).1, (get_no hno).2]
    rw [hk] at K
    clear hp hA c0 c1 hk hno hl
    have KT : Hid (∀ W, Calls Try.prog 34 #[.int .i64 t, .int .i64 0, .int .i64 63] W fun e w' => e = .returned (.bool false) ∧ W = w') := fun W => l6In_no t 0 63 W (by omega)
    clear ht
    go_enter Try.func20, Try.ntmps20
    go_wp2_with fail
    refine K.out.mono ?_
    rintro e w1 ⟨rfl, hb1⟩
    go_wp2_with fail
    refine (KT.out _).mono ?_
    rintro e w' ⟨rfl, rfl⟩
    go_wp2
    go_ret2
    exact ⟨rfl, HA.out.trans (hb1.mono HA.out.size)⟩
  · rw [(get_yes hok).1, (get_yes hok).2]
    rw [hk] at K
    have hP := (topB_iff _ _ _).1 hk
    have hln : n ≤ 4 := by rw [← hl]; exact hP.1.1
    have hlo := hP.1.2.1
    have G := Lib.hid hP.2.1
    have A := Lib.hid hP.asc
    have HP := Lib.hid hp.cells
    have HL := Lib.hid hl
    have FIN : Hid (∀ k, k < n → (pr ps k).1 = t → tot ps t = (pr ps k).2) := fun k hk e => by rw [← e]; exact A.out.at (by rw [HL.out]; exact hk)
    have hb := tot_bd (t := t) G.out A.out
    obtain ⟨S, hS⟩ : ∃ S, S = tot ps t := ⟨_, rfl⟩
    rw [← hS] at hb FIN ⊢
    have HS := Lib.hid hS
    have KT : Hid (∀ W, Calls Try.prog 34 #[.int .i64 t, .int .i64 0, .int .i64 63] W fun e w' => e = .returned (.bool true) ∧ W = w') := fun W => l6In_yes t 0 63 W ht.1 (by omega)
    clear hp hA hk hok hl ht hP c0 c1 hS
    go_enter Try.func20, Try.ntmps20
    go_wp2_with fail
    refine K.out.mono ?_
    rintro e w1 ⟨rfl, hb1⟩
    have D0 := Lib.hid (cell_later hb1 C0.out)
    have D1 := Lib.hid (cell_later hb1 C1.out)
    have B1 := Lib.hid (HA.out.trans (hb1.mono HA.out.size))
    clear hb1
    go_wp2_with fail
    refine (KT.out _).mono ?_
    rintro e w' ⟨rfl, rfl⟩
    go_wp2
    go_loopw [6] (fun i wr => ∃ k : Nat, k ≤ n ∧ i = .int .i64 k ∧ tot (ps.take k) t = 0 ∧ Below w1.heap.size w1 wr) (fun i _ => n - (intOf i).toNat)
    case atStart => exact ⟨0, Nat.zero_le _, rfl, by simp [tot], Below.refl _ _⟩
    case round =>
      obtain ⟨k, hk, rfl, ht0, hbl⟩ := hrel
      have HB := Lib.hid hbl
      have HT := Lib.hid ht0
      have cw0 := cell_later hbl D0.out
      have cw := cell_later hbl D1.out
      clear hbl ht0
      by_cases hlt : k < n
      · obtain ⟨b, o, rfl, hb', h1, h2⟩ := HP.out k (by rw [HL.out]; exact hlt)
        have tr : ∀ j v, w.cell? ⟨b, j, none⟩ = some v → wr.cell? ⟨b, j, none⟩ = some v := fun j v h =>
          (HB.out.cell (p := ⟨b, j, none⟩) (Nat.lt_of_lt_of_le hb' B1.out.size)).trans ((B1.out.cell (p := ⟨b, j, none⟩) hb').trans h)
        replace h1 := tr _ _ h1
        replace h2 := tr _ _ h2
        have hs := Lib.hid (tot_succ ps k t (by rw [HL.out]; exact hlt))
        have hz := Lib.hid (FIN.out k hlt)
        generalize pr ps k = q at h1 h2 hs hz
        obtain ⟨t', m⟩ := q
        have k0 : (0 : Int) ≤ (k : Int) := by omega
        have kn : (k : Int) < (n : Int) := by omega
        clear tr
        by_cases e : t' = t
        · subst e
          have em : m = S := (hz.out rfl).symm
          subst em
          have ws : IntKind.i64.wrap (m + lost) = m + lost := IntWalk.i64_in _ (by omega)
          go_wp2
          go_quiet (fail)
          go_wp2
          go_ret2
          exact ⟨rfl, below_drewN (B1.out.trans (HB.out.mono B1.out.size)) _⟩
        · have e' : (t' == t) = false := by simpa using e
          have e2 : decide (t' = t) = false := by simpa using e
          rw [if_neg (by exact e)] at hs
          clear e
          go_wp2
          go_roundw
          case rel => exact ⟨k + 1, by omega, by go_num, by rw [hs.out, HT.out]; rfl, HB.out⟩
          case measure => simp [intOf]; omega
      · obtain rfl : k = n := by omega
        have e1 : ps.take k = ps := List.take_of_length_le (by rw [HL.out]; exact Nat.le_refl _)
        rw [e1, ← HS.out] at HT
        have e0 : S = 0 := HT.out
        subst e0
        clear e1
        go_wp2
        go_quiet (fail)
        go_wp2
        go_ret2
        exact ⟨by first | rfl | simp, below_drewN (B1.out.trans (HB.out.mono B1.out.size)) _⟩

theorem spTopGet_at (w : World) (u : Value) (ps : List Pr) (lost all t : Int) (hp : Prs w u ps) :
    Calls Try.prog 20 #[.agg #[u, .int .i64 lost, .int .i64 all], .int .i64 t] w fun e w' => e = .returned (.tuple #[.int .i64 (getL ps lost all t), .int .i64 (getM ps lost all t)]) ∧ Below w.heap.size w w' := by
  obtain ⟨x, c, rfl, hc0, hc⟩ := hp.form
  exact spTopGet_in w x _ c ps lost all t rfl hp

end Go.Proofs.Ytmlimjdmnonmpaa
