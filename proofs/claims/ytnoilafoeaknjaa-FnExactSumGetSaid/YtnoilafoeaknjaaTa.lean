/-
  Several texts in one: TPair, TOk, TGet, TPut, TBox, TOver.
-/
import Derived.Test.YtnoilafoeaknjaaBa
import Derived.Maps.AppendAt
import Derived.OneCell
import Derived.IntWalk
import Derived.Deep.RegionLaw
import Derived.Deep.AppendLies
set_option linter.unusedVariables false
/-
  How pairs of a thing and a number lie in memory: words for readings, and for what is a call's own.
-/
namespace Go.Proofs.Ytnoilafoeaknjaa.T
open Go.RowKit Go.Sort

abbrev Pr := Int × Int
/-- Pair i; nothing past the end. -/
def pr (ps : List Pr) (i : Nat) : Pr := ps.getD i (0, 0)
def prs (ps : List Pr) : List Value := ps.flatMap fun p => [.int .i64 p.1, .int .i64 p.2]
theorem prs_nil : prs [] = [] := rfl
theorem prs_cons (p : Pr) (ps : List Pr) : prs (p :: ps) = .int .i64 p.1 :: .int .i64 p.2 :: prs ps := rfl
theorem prs_append (ps qs : List Pr) : prs (ps ++ qs) = prs ps ++ prs qs := by simp [prs]
theorem prs_snoc (ps : List Pr) (p : Pr) : prs (ps ++ [p]) = prs ps ++ [.int .i64 p.1, .int .i64 p.2] := by simp [prs]
theorem prs_len (ps : List Pr) : (prs ps).length = ps.length * 2 := by
  induction ps with
  | nil => rfl
  | cons p ps ih => rw [prs_cons]; simp [ih]; omega
theorem prs_get (ps : List Pr) (i : Nat) (h : i < ps.length) : (prs ps)[i * 2]? = some (.int .i64 (pr ps i).1) ∧ (prs ps)[i * 2 + 1]? = some (.int .i64 (pr ps i).2) := by
  induction ps generalizing i with
  | nil => cases h
  | cons p ps ih =>
    rw [prs_cons]
    cases i with
    | zero => exact ⟨rfl, rfl⟩
    | succ i =>
      have := ih i (by simpa using h)
      rw [show (i + 1) * 2 = i * 2 + 1 + 1 by omega]
      simp only [List.getElem?_cons_succ]
      exact this
theorem pr_mem {ps : List Pr} {i : Nat} (h : i < ps.length) : pr ps i ∈ ps := getD_mem ps i (0, 0) h
theorem pr_at {ps : List Pr} {p : Pr} (h : p ∈ ps) : ∃ i, i < ps.length ∧ pr ps i = p := by
  obtain ⟨i, hi, rfl⟩ := List.getElem_of_mem h
  exact ⟨i, hi, by simp [pr, hi]⟩

/-- The value v reads in w as the pairs ps. -/
def Prs (w : World) (v : Value) (ps : List Pr) : Prop :=
  (v = .slice none 0 0 ∧ ps = []) ∨
  ∃ b o cap, v = .slice (some ⟨b, o, none⟩) ps.length cap ∧ ps.length ≤ cap ∧ cap ≤ maxLen ∧ b < w.heap.size ∧
    ∀ i, i < ps.length → w.cell? ⟨b, o + i * 2, none⟩ = some (.int .i64 (pr ps i).1) ∧ w.cell? ⟨b, o + i * 2 + 1, none⟩ = some (.int .i64 (pr ps i).2)

theorem Prs.below {w w' : World} {v : Value} {ps : List Pr} (h : Prs w v ps) {B : Nat} (hb : Below B w w') (hB : w.heap.size ≤ B) : Prs w' v ps := by
  rcases h with h | ⟨b, o, cap, rfl, h1, h2, h3, h4⟩
  · exact .inl h
  · exact .inr ⟨b, o, cap, rfl, h1, h2, Nat.lt_of_lt_of_le h3 hb.size, fun i hi => by
      rw [hb.cell (by show b < B; omega), hb.cell (by show b < B; omega)]; exact h4 i hi⟩
theorem Prs.form {w : World} {v : Value} {ps : List Pr} (h : Prs w v ps) : ∃ x c, v = .slice x ps.length c ∧ ps.length ≤ c ∧ c ≤ maxLen := by
  rcases h with ⟨rfl, rfl⟩ | ⟨b, o, cap, rfl, h1, h2, _⟩
  · exact ⟨none, 0, rfl, Nat.le_refl _, Nat.zero_le _⟩
  · exact ⟨_, _, rfl, h1, h2⟩
theorem Prs.cells {w : World} {x : Option Addr} {n c : Nat} {ps : List Pr} (h : Prs w (.slice x n c) ps) : ∀ i, i < ps.length → ∃ b o, x = some ⟨b, o, none⟩ ∧ b < w.heap.size ∧ w.cell? ⟨b, o + i * 2, none⟩ = some (.int .i64 (pr ps i).1) ∧ w.cell? ⟨b, o + i * 2 + 1, none⟩ = some (.int .i64 (pr ps i).2) := fun i hi => by
  rcases h with ⟨_, rfl⟩ | ⟨b, o, cap, e, h1, h2, h3, h4⟩
  · cases hi
  · exact ⟨b, o, (Value.slice.inj e).1, h3, h4 i hi⟩

/-- The value v is the pairs ps, in a block of the call's own. -/
def OwnP (w : World) (B : Nat) (v : Value) (ps : List Pr) : Prop := w.ownsRow B 83 2 v ps.length (prs ps)
theorem addr_plus (b o i : Nat) : (⟨b, o, none⟩ : Addr).add i = ⟨b, o + i, none⟩ := by unfold Addr.add; split <;> simp_all
theorem OwnP.rd {w : World} {B : Nat} {v : Value} {ps : List Pr} (h : OwnP w B v ps) : Prs w v ps := by
  rcases h.2 with ⟨rfl, h0⟩ | ⟨g, cap, cur, rfl, hb, hg, hn, hc, hs, ht⟩
  · exact .inl ⟨rfl, List.eq_nil_of_length_eq_zero h0⟩
  · refine .inr ⟨g, 0, cap, rfl, hn, hc, (Array.getElem?_eq_some_iff.1 hg).1, fun i hi => ?_⟩
    have e := prs_get ps i hi
    have a := World.ownsRow.cells h (g := g) rfl _ _ e.1
    have b := World.ownsRow.cells h (g := g) rfl _ _ e.2
    rw [addr_plus] at a b
    exact ⟨a, by rw [Nat.add_assoc]; exact b⟩
theorem OwnP.base {w : World} {B B' : Nat} {v : Value} {ps : List Pr} (h : OwnP w B v ps) (hB : B' ≤ B) : OwnP w B' v ps := ownsRow_base h hB
theorem OwnP.kept {w w' : World} {B : Nat} {v : Value} {ps : List Pr} {row : Option Nat} (h : OwnP w B v ps) (hg : w.grownBy w' row) (hr : ∀ k, row = some k → k < B) : OwnP w' B v ps := by
  refine World.ownsRow.kept h hg ?_
  cases hv : v.ownBlock with
  | none => exact .inl rfl
  | some k => exact .inr (fun e => by have := (World.ownsRow.lt h k hv).1; have := hr k e.symm; omega)
theorem OwnP.keep {w w' : World} {B : Nat} {v : Value} {ps : List Pr} {row : Option Nat} (h : OwnP w B v ps) (hg : w.grownBy w' row) (hr : v.ownBlock ≠ row) : OwnP w' B v ps := World.ownsRow.kept h hg (.inr hr)
theorem OwnP.alloc {w : World} {B : Nat} {v : Value} {ps : List Pr} (h : OwnP w B v ps) (o : Obj) : OwnP (w.alloc o) B v ps := World.ownsRow.alloc h o
theorem OwnP.below {w w' : World} {B : Nat} {v : Value} {ps : List Pr} (h : OwnP w B v ps) (hb : Below w.heap.size w w') : OwnP w' B v ps := h.kept (row := none) (grownBy_below hb) (fun _ e => by cases e)
theorem OwnP.nil (w : World) (B : Nat) : OwnP w B (.slice none 0 0) [] := World.ownsRow_nil w B _ 2
theorem OwnP.form {w : World} {B : Nat} {v : Value} {ps : List Pr} (h : OwnP w B v ps) : ∃ x c, v = .slice x ps.length c ∧ ps.length ≤ c ∧ c ≤ maxLen := h.rd.form
theorem OwnP.lt {w : World} {B : Nat} {p : Value} {ps : List Pr} (hp : OwnP w B p ps) : ∀ k, p.ownBlock = some k → k < w.heap.size := fun k e => (World.ownsRow.lt hp k e).2
theorem pair_info : (Try.prog.info? 83).map (fun i => (i.zero, i.size, i.bytes)) = some (some (.agg #[.int .i64 0, .int .i64 0]), 2, 16) := by kernel_rfl
theorem pair_empty (w : World) (B : Nat) (hB : B ≤ w.heap.size) : OwnP (w.alloc (.cells #[] 83)) B (.slice (some ⟨w.heap.size, 0, none⟩) 0 0) [] :=
  World.ownsRow_lit (base := B) (e := 83) (size := 2) w #[] 0 hB (by simp [maxLen]) (by simp)

end Go.Proofs.Ytnoilafoeaknjaa.T

/-
  Whether one that was counted most is in form: of the program and of its model.
-/
namespace Go.Proofs.Ytnoilafoeaknjaa.T
open Go.RowKit Go.Sort

def sumP (ps : List Pr) : Int := (ps.map (·.2)).sum
theorem sumP_nil : sumP [] = 0 := rfl
theorem sumP_append (ps qs : List Pr) : sumP (ps ++ qs) = sumP ps + sumP qs := by simp [sumP]
theorem take_succ_pr (ps : List Pr) (k : Nat) (h : k < ps.length) : ps.take (k + 1) = ps.take k ++ [pr ps k] := by
  rw [List.take_succ_eq_append_getElem h]; simp [pr, h]
theorem sumP_succ (ps : List Pr) (k : Nat) (h : k < ps.length) : sumP (ps.take (k + 1)) = sumP (ps.take k) + (pr ps k).2 := by
  rw [take_succ_pr ps k h, sumP_append]; simp [sumP]

/-- Pair i is in form. -/
def TopG (ps : List Pr) (i : Nat) : Prop := ((0 ≤ (pr ps i).1 ∧ (pr ps i).1 ≤ 63) ∧ 1 ≤ (pr ps i).2 ∧ (pr ps i).2 ≤ 2000) ∧ (0 < i → (pr ps (i - 1)).1 < (pr ps i).1)
instance (ps : List Pr) (i : Nat) : Decidable (TopG ps i) := by unfold TopG; infer_instance
def TopP (ps : List Pr) (lost all : Int) : Prop := (ps.length ≤ 4 ∧ (0 ≤ lost ∧ lost ≤ 2000) ∧ 0 ≤ all ∧ all ≤ 2000) ∧ (∀ i, i < ps.length → TopG ps i) ∧ sumP ps + 5 * lost ≤ all
instance (ps : List Pr) (lost all : Int) : Decidable (TopP ps lost all) := by unfold TopP; infer_instance
def topB (ps : List Pr) (lost all : Int) : Bool := decide (TopP ps lost all)
theorem topB_iff (ps : List Pr) (lost all : Int) : topB ps lost all = true ↔ TopP ps lost all := by simp [topB]
theorem topB_no {ps : List Pr} {lost all : Int} (h : ¬ TopP ps lost all) : topB ps lost all = false := by simpa [topB] using h
/-- The thing ahead of place k; -1 ahead of the first. -/
def lastT (ps : List Pr) (k : Nat) : Int := if k = 0 then -1 else (pr ps (k - 1)).1
theorem sumP_bd {ps : List Pr} {k : Nat} (hk : k ≤ ps.length) (h : ∀ i, i < k → TopG ps i) : 0 ≤ sumP (ps.take k) ∧ sumP (ps.take k) ≤ 2000 * k := by
  induction k with
  | zero => simp [sumP]
  | succ k ih =>
    have := ih (by omega) (fun i hi => h i (by omega))
    have g := (h k (by omega)).1.2
    rw [sumP_succ ps k (by omega)]
    omega
theorem lastT_bd {ps : List Pr} {k : Nat} (h : ∀ i, i < k → TopG ps i) : -1 ≤ lastT ps k ∧ lastT ps k ≤ 63 := by
  unfold lastT
  split
  · omega
  · have := (h (k - 1) (by omega)).1.1; omega
theorem topG_iff {ps : List Pr} {k : Nat} (h : ∀ i, i < k → TopG ps i) : TopG ps k ↔ (lastT ps k < (pr ps k).1 ∧ (pr ps k).1 < 64) ∧ 1 ≤ (pr ps k).2 ∧ (pr ps k).2 ≤ 2000 := by
  have hb := lastT_bd h
  unfold TopG
  unfold lastT at hb ⊢
  split
  · subst_vars; simp; omega
  · have : 0 < k := by omega
    simp only [this, true_implies]
    rw [if_neg (by omega)] at hb
    omega
theorem lastT_succ (ps : List Pr) (k : Nat) : lastT ps (k + 1) = (pr ps k).1 := by unfold lastT; rw [if_neg (by omega)]; rfl

theorem isCount_yes (a : Int) (w : World) (h : 0 ≤ a ∧ a ≤ 2000) :
    Calls Try.prog 44 #[.int .i64 a] w fun e w' => e = .returned (.bool true) ∧ w = w' := by
  obtain ⟨h0, h1⟩ := h
  go_enter Try.func44, Try.ntmps44
  go_wp2
  go_ret
  exact ⟨rfl, rfl⟩
theorem isCount_no (a : Int) (w : World) (h : ¬ (0 ≤ a ∧ a ≤ 2000)) :
    Calls Try.prog 44 #[.int .i64 a] w fun e w' => e = .returned (.bool false) ∧ w = w' := by
  by_cases h0 : 0 ≤ a
  · have h1 : ¬ a ≤ 2000 := by omega
    clear h
    go_enter Try.func44, Try.ntmps44
    go_wp2
    go_ret
    exact ⟨rfl, rfl⟩
  · clear h
    go_enter Try.func44, Try.ntmps44
    go_wp2
    go_ret
    exact ⟨rfl, rfl⟩

set_option maxHeartbeats 1000000 in
theorem imTopOk_in (w : World) (x : Option Addr) (n c : Nat) (ps : List Pr) (lost all : Int) (hl : ps.length = n) (hp : Prs w (.slice x n c) ps) (hn : n ≤ 4) (hlo : 0 ≤ lost ∧ lost ≤ 2000) (hal : 0 ≤ all ∧ all ≤ 2000) :
    Calls Try.prog 15 #[.agg #[.slice x n c, .int .i64 lost, .int .i64 all]] w fun e w' => e = .returned (.bool (topB ps lost all)) ∧ Below w.heap.size w w' := by
  have hA := (Below.refl w.heap.size w).alloc (Nat.le_refl _) (.cells #[.slice x n c, .int .i64 lost, .int .i64 all] 31)
  have HP := Lib.hid (hp.cells)
  have HL := Lib.hid hl
  have HA := Lib.hid hA
  have KL : Hid (∀ W, Calls Try.prog 44 #[.int .i64 lost] W fun e w' => e = .returned (.bool true) ∧ W = w') := fun W => isCount_yes lost W hlo
  have KA : Hid (∀ W, Calls Try.prog 44 #[.int .i64 all] W fun e w' => e = .returned (.bool true) ∧ W = w') := fun W => isCount_yes all W hal
  have hn' : ¬ (4 : Int) < (n : Int) := by omega
  have c2 : (w.alloc (.cells #[.slice x n c, .int .i64 lost, .int .i64 all] 31)).cell? ⟨w.heap.size, 2, none⟩ = some (.int .i64 all) := by simp
  have C2 := Lib.hid c2
  obtain ⟨lo0, lo1⟩ := hlo
  have HAL := Lib.hid hal
  clear hl hp hA c2 hal
  go_enter Try.func15, Try.ntmps15
  go_wp2_with fail
  refine (KL.out _).mono ?_
  rintro e w1 ⟨rfl, rfl⟩
  go_wp2_with fail
  refine (KA.out _).mono ?_
  rintro e w1 ⟨rfl, rfl⟩
  go_wp2
  go_loopw [3, 4, 29] (fun tg la i wr => ∃ k : Nat, k ≤ n ∧ i = .int .i64 k ∧ la = .int .i64 (lastT ps k) ∧ tg = .int .i64 (lost * 5 + sumP (ps.take k)) ∧ (∀ i, i < k → TopG ps i) ∧ Below (w.heap.size + 1) (w.alloc (.cells #[.slice x n c, .int .i64 lost, .int .i64 all] 31)) wr) (fun _ _ i _ => n - (intOf i).toNat)
  case atStart => exact ⟨0, Nat.zero_le _, rfl, rfl, by simp [sumP], fun _ h => absurd h (Nat.not_lt_zero _), Below.refl _ _⟩
  case round =>
    obtain ⟨k, hk, rfl, rfl, rfl, hg, hbl⟩ := hrel
    have G := Lib.hid hg
    have I := Lib.hid (topG_iff hg)
    have HB := Lib.hid hbl
    have hsb := sumP_bd (by rw [HL.out]; exact hk) hg
    have cw : wr.cell? ⟨w.heap.size, 2, none⟩ = some (.int .i64 all) := (HB.out.cell (p := ⟨w.heap.size, 2, none⟩) (by simp)).trans C2.out
    by_cases hlt : k < n
    · obtain ⟨b, o, rfl, hb, h1, h2⟩ := HP.out k (by rw [HL.out]; exact hlt)
      have tr : ∀ j v, w.cell? ⟨b, j, none⟩ = some v → wr.cell? ⟨b, j, none⟩ = some v := fun j v h => by
        rw [HB.out.cell (p := ⟨b, j, none⟩) (by show b < _; omega), HA.out.cell (p := ⟨b, j, none⟩) hb]; exact h
      replace h1 := tr _ _ h1
      replace h2 := tr _ _ h2
      have hs := Lib.hid (sumP_succ ps k (by rw [HL.out]; exact hlt))
      have hla := Lib.hid (lastT_succ ps k)
      have hPr : Hid (∃ q, q = pr ps k) := ⟨_, rfl⟩
      generalize pr ps k = q at h1 h2 I hs hla
      obtain ⟨t, m⟩ := q
      have hLb := lastT_bd hg
      generalize lastT ps k = L at I hLb ⊢
      generalize sumP (ps.take k) = S at *
      clear hg hbl tr hPr
      by_cases hx : t ≤ L
      · have bad : Hid (topB ps lost all = false) := topB_no (fun q => by have := (I.out.1 (q.2.1 k (by rw [HL.out]; exact hlt))).1.1; simp at this; omega)
        go_wp2
        go_ret
        exact ⟨ret_bool bad.out.symm, (HA.out.trans (HB.out.mono (by simp))).alloc (by have := HB.out.size; simp at this; omega) _⟩
      have hx' : L < t := by omega
      by_cases hy : 64 ≤ t
      · have bad : Hid (topB ps lost all = false) := topB_no (fun q => by have := (I.out.1 (q.2.1 k (by rw [HL.out]; exact hlt))).1.2; simp at this; omega)
        have KT : Hid (∀ W, Calls Try.prog 45 #[.int .i64 t] W fun e w' => e = .returned (.bool false) ∧ W = w') := fun W => isThing_no t W (.inr hy)
        go_wp2_with fail
        refine (KT.out _).mono ?_
        rintro e w1 ⟨rfl, rfl⟩
        go_wp2
        go_ret
        exact ⟨ret_bool bad.out.symm, (HA.out.trans (HB.out.mono (by simp))).alloc (by have := HB.out.size; simp at this; omega) _⟩
      have KT : Hid (∀ W, Calls Try.prog 45 #[.int .i64 t] W fun e w' => e = .returned (.bool true) ∧ W = w') := fun W => isThing_yes t W (by omega) (by omega)
      by_cases hm : m < 1
      · have bad : Hid (topB ps lost all = false) := topB_no (fun q => by have := (I.out.1 (q.2.1 k (by rw [HL.out]; exact hlt))).2.1; simp at this; omega)
        go_wp2_with fail
        refine (KT.out _).mono ?_
        rintro e w1 ⟨rfl, rfl⟩
        go_wp2
        go_ret
        exact ⟨ret_bool bad.out.symm, (HA.out.trans (HB.out.mono (by simp))).alloc (by have := HB.out.size; simp at this; omega) _⟩
      by_cases hm2 : 2000 < m
      · have bad : Hid (topB ps lost all = false) := topB_no (fun q => by have := (I.out.1 (q.2.1 k (by rw [HL.out]; exact hlt))).2.2; simp at this; omega)
        go_wp2_with fail
        refine (KT.out _).mono ?_
        rintro e w1 ⟨rfl, rfl⟩
        go_wp2
        go_ret
        exact ⟨ret_bool bad.out.symm, (HA.out.trans (HB.out.mono (by simp))).alloc (by have := HB.out.size; simp at this; omega) _⟩
      go_wp2_with fail
      refine (KT.out _).mono ?_
      rintro e w1 ⟨rfl, rfl⟩
      go_wp2
      go_roundw
      case rel => exact ⟨k + 1, by omega, by go_num, by rw [hla.out], by rw [hs.out]; go_num, fun i hi => by
        by_cases h : i < k
        · exact G.out i h
        · obtain rfl : i = k := by omega
          exact I.out.2 ⟨⟨hx', by omega⟩, by omega, by omega⟩, HB.out.alloc (by have := HB.out.size; simp at this; omega) _⟩
      case measure => simp [intOf]; omega
    · obtain rfl : k = n := by omega
      have e1 : ps.take k = ps := List.take_of_length_le (by rw [HL.out]; exact Nat.le_refl _)
      rw [e1] at hsb ⊢
      generalize hS : sumP ps = S at *
      have HS := Lib.hid hS
      clear hg hbl e1 hS
      by_cases hle : lost * 5 + S ≤ all
      · have good : Hid (topB ps lost all = true) := (topB_iff _ _ _).2 ⟨⟨by rw [HL.out]; exact hn, ⟨lo0, lo1⟩, HAL.out⟩, fun i hi => G.out i (by rw [HL.out] at hi; exact hi), by rw [HS.out]; omega⟩
        go_wp2
        go_ret
        exact ⟨ret_bool (by first | (rw [good.out]; done) | (rw [good.out]; simpa using hle)), HA.out.trans (HB.out.mono (by simp))⟩
      · have bad : Hid (topB ps lost all = false) := topB_no (fun q => by have := q.2.2; rw [HS.out] at this; omega)
        go_wp2
        go_ret
        exact ⟨ret_bool (by first | (rw [bad.out]; done) | (rw [bad.out]; simpa using hle)), HA.out.trans (HB.out.mono (by simp))⟩

theorem imTopOk_at (w : World) (u : Value) (ps : List Pr) (lost all : Int) (hp : Prs w u ps) :
    Calls Try.prog 15 #[.agg #[u, .int .i64 lost, .int .i64 all]] w fun e w' => e = .returned (.bool (topB ps lost all)) ∧ Below w.heap.size w w' := by
  obtain ⟨x, c, rfl, hc0, hc⟩ := hp.form
  obtain ⟨n, hn⟩ : ∃ n, n = ps.length := ⟨_, rfl⟩
  by_cases h4 : ps.length ≤ 4
  · by_cases hlo : 0 ≤ lost ∧ lost ≤ 2000
    · by_cases hal : 0 ≤ all ∧ all ≤ 2000
      · exact imTopOk_in w x _ c ps lost all rfl hp h4 hlo hal
      · have bad : topB ps lost all = false := topB_no (fun q => hal q.1.2.2)
        rw [bad]
        have KL : Hid (∀ W, Calls Try.prog 44 #[.int .i64 lost] W fun e w' => e = .returned (.bool true) ∧ W = w') := fun W => isCount_yes lost W hlo
        have KA : Hid (∀ W, Calls Try.prog 44 #[.int .i64 all] W fun e w' => e = .returned (.bool false) ∧ W = w') := fun W => isCount_no all W hal
        rw [← hn] at h4 ⊢
        have hn' : ¬ (4 : Int) < (n : Int) := by omega
        clear hp hn bad hal hlo hc hc0
        go_enter Try.func15, Try.ntmps15
        go_wp2_with fail
        refine (KL.out _).mono ?_
        rintro e w1 ⟨rfl, rfl⟩
        go_wp2_with fail
        refine (KA.out _).mono ?_
        rintro e w1 ⟨rfl, rfl⟩
        go_wp2
        go_ret
        exact ⟨rfl, (Below.refl _ _).alloc (Nat.le_refl _) _⟩
    · have bad : topB ps lost all = false := topB_no (fun q => hlo q.1.2.1)
      rw [bad]
      have KL : Hid (∀ W, Calls Try.prog 44 #[.int .i64 lost] W fun e w' => e = .returned (.bool false) ∧ W = w') := fun W => isCount_no lost W hlo
      rw [← hn] at h4 ⊢
      have hn' : ¬ (4 : Int) < (n : Int) := by omega
      clear hp hn bad hlo hc hc0
      go_enter Try.func15, Try.ntmps15
      go_wp2_with fail
      refine (KL.out _).mono ?_
      rintro e w1 ⟨rfl, rfl⟩
      go_wp2
      go_ret
      exact ⟨rfl, (Below.refl _ _).alloc (Nat.le_refl _) _⟩
  · have bad : topB ps lost all = false := topB_no (fun q => h4 q.1.1)
    rw [bad]
    rw [← hn] at h4 ⊢
    have hn' : (4 : Int) < (n : Int) := by omega
    clear hp hn bad hc hc0 h4
    go_enter Try.func15, Try.ntmps15
    go_wp2
    go_ret
    exact ⟨rfl, (Below.refl _ _).alloc (Nat.le_refl _) _⟩

/-! ### the model's -/

set_option maxHeartbeats 400000 in
theorem l3All_at (w : World) (x : Option Addr) (n c : Nat) (ps : List Pr) (hl : ps.length = n) (hp : Prs w (.slice x n c) ps) (hn : n ≤ 4) (hg : ∀ i, i < n → TopG ps i) :
    Calls Try.prog 84 #[.slice x n c] w fun e w' => e = .returned (.int .i64 (sumP ps)) ∧ w = w' := by
  have HP := Lib.hid hp.cells
  have HL := Lib.hid hl
  have G := Lib.hid hg
  clear hl hp hg
  go_enter Try.func84, Try.ntmps84
  go_wp2
  go_loop [3, 4] (fun q i => ∃ k : Nat, k ≤ n ∧ i = .int .i64 k ∧ q = .int .i64 (sumP (ps.take k))) (fun _ i => n - (intOf i).toNat)
  case atStart => exact ⟨0, Nat.zero_le _, rfl, rfl⟩
  case round =>
    obtain ⟨k, hk, rfl, rfl⟩ := hrel
    have hsb := sumP_bd (by rw [HL.out]; exact hk) (fun i hi => G.out i (by omega))
    by_cases hlt : k < n
    · obtain ⟨b, o, rfl, hb, h1, h2⟩ := HP.out k (by rw [HL.out]; exact hlt)
      have g := (G.out k hlt).1.2
      have hs := Lib.hid (sumP_succ ps k (by rw [HL.out]; exact hlt))
      generalize pr ps k = q at h1 h2 hs g
      obtain ⟨t, m⟩ := q
      generalize sumP (ps.take k) = S at *
      obtain ⟨g1, g2⟩ := g
      go_wp2
      go_round
      case rel => exact ⟨k + 1, by omega, by go_num, by rw [hs.out]⟩
      case measure => simp [intOf]; omega
    · obtain rfl : k = n := by omega
      have e1 : ps.take k = ps := List.take_of_length_le (by rw [HL.out]; exact Nat.le_refl _)
      rw [e1]
      go_wp2
      go_ret
      exact ⟨rfl, rfl⟩

set_option maxHeartbeats 4000000 in
theorem spTopOk_in (w : World) (x : Option Addr) (n c : Nat) (ps : List Pr) (lost all : Int) (hl : ps.length = n) (hp : Prs w (.slice x n c) ps) (hn : n ≤ maxLen) :
    Calls Try.prog 41 #[.agg #[.slice x n c, .int .i64 lost, .int .i64 all]] w fun e w' => e = .returned (.bool (topB ps lost all)) ∧ Below w.heap.size w w' := by
  unfold maxLen at hn
  have hA := (Below.refl w.heap.size w).alloc (Nat.le_refl _) (.cells #[.slice x n c, .int .i64 lost, .int .i64 all] 31)
  have c0 : (w.alloc (.cells #[.slice x n c, .int .i64 lost, .int .i64 all] 31)).cell? ⟨w.heap.size, 0, none⟩ = some (.slice x n c) := by simp
  have c1 : (w.alloc (.cells #[.slice x n c, .int .i64 lost, .int .i64 all] 31)).cell? ⟨w.heap.size, 1, none⟩ = some (.int .i64 lost) := by simp
  have c2 : (w.alloc (.cells #[.slice x n c, .int .i64 lost, .int .i64 all] 31)).cell? ⟨w.heap.size, 2, none⟩ = some (.int .i64 all) := by simp
  have HC := Lib.hid (And.intro c0 (And.intro c1 c2))
  have HPR := Lib.hid hp
  have HP := Lib.hid hp.cells
  have HL := Lib.hid hl
  have HA := Lib.hid hA
  clear hl hp hA c0 c1 c2
  go_enter Try.func41, Try.ntmps41
  go_wp2
  go_loopw [3] (fun i wr => ∃ k : Nat, k ≤ n ∧ i = .int .i64 k ∧ (∀ i, i < k → TopG ps i) ∧ Below (w.heap.size + 1) (w.alloc (.cells #[.slice x n c, .int .i64 lost, .int .i64 all] 31)) wr) (fun i _ => n - (intOf i).toNat)
  case atStart => exact ⟨0, Nat.zero_le _, rfl, fun _ h => absurd h (Nat.not_lt_zero _), Below.refl _ _⟩
  case round =>
    obtain ⟨k, hk, rfl, hg, hbl⟩ := hrel
    have G := Lib.hid hg
    have HB := Lib.hid hbl
    have cw0 : wr.cell? ⟨w.heap.size, 0, none⟩ = some (.slice x n c) := (HB.out.cell (p := ⟨w.heap.size, 0, none⟩) (by simp)).trans HC.out.1
    have cw1 : wr.cell? ⟨w.heap.size, 1, none⟩ = some (.int .i64 lost) := (HB.out.cell (p := ⟨w.heap.size, 1, none⟩) (by simp)).trans HC.out.2.1
    have cw2 : wr.cell? ⟨w.heap.size, 2, none⟩ = some (.int .i64 all) := (HB.out.cell (p := ⟨w.heap.size, 2, none⟩) (by simp)).trans HC.out.2.2
    have FIN := Lib.hid (HA.out.trans (HB.out.mono (Nat.le_succ _)))
    by_cases hlt : k < n
    · obtain ⟨b, o, rfl, hb, h1, h2⟩ := HP.out k (by rw [HL.out]; exact hlt)
      have tr : ∀ j v, w.cell? ⟨b, j, none⟩ = some v → wr.cell? ⟨b, j, none⟩ = some v := fun j v h => by
        rw [HB.out.cell (p := ⟨b, j, none⟩) (by show b < _; omega), HA.out.cell (p := ⟨b, j, none⟩) hb]; exact h
      have TR := Lib.hid tr
      replace h1 := tr _ _ h1
      replace h2 := tr _ _ h2
      have HQ : Hid (TopG ps k ↔ (((0 ≤ (pr ps k).1 ∧ (pr ps k).1 ≤ 63) ∧ 1 ≤ (pr ps k).2 ∧ (pr ps k).2 ≤ 2000) ∧ (0 < k → (pr ps (k - 1)).1 < (pr ps k).1))) := Iff.rfl
      have bad : Hid (¬ TopG ps k → topB ps lost all = false) := fun h => topB_no (fun q => h (q.2.1 k (by rw [HL.out]; exact hlt)))
      generalize pr ps k = q at h1 h2 HQ
      obtain ⟨t, m⟩ := q
      have k0 : (0 : Int) ≤ (k : Int) := by omega
      have kn : (k : Int) < (n : Int) := by omega
      clear hg hbl tr
      by_cases ht : t < 0 ∨ 63 < t
      · have bd := Lib.hid (bad.out (fun q => by have := (HQ.out.1 q).1.1; simp at this; omega))
        clear HQ bad
        go_wp2
        go_quiet (with_reducible exact quiet_same' (l6In_no _ _ _ _ ht))
        go_wp2
        go_ret
        exact ⟨ret_bool bd.out.symm, below_drewN FIN.out _⟩
      have ht0 : 0 ≤ t := by omega
      have ht1 : t ≤ 63 := by omega
      by_cases hm : m < 1 ∨ 2000 < m
      · have bd := Lib.hid (bad.out (fun q => by have := (HQ.out.1 q).1.2; simp at this; omega))
        clear HQ bad
        go_wp2
        go_quiet (first | (with_reducible exact quiet_same' (l6In_yes _ _ _ _ ht0 ht1)) | (with_reducible exact quiet_same' (l6In_no _ _ _ _ hm)))
        go_wp2
        go_ret
        exact ⟨ret_bool bd.out.symm, below_drewN FIN.out _⟩
      have hm0 : 1 ≤ m := by omega
      have hm1 : m ≤ 2000 := by omega
      rcases Nat.eq_zero_or_pos k with h0 | h0
      · subst h0
        have good := Lib.hid (HQ.out.2 ⟨⟨⟨ht0, ht1⟩, hm0, hm1⟩, fun h => absurd h (Nat.lt_irrefl _)⟩)
        clear HQ bad
        have e0 : o + 0 * 2 = o := by omega
        rw [e0] at h1 h2
        go_wp2
        go_quiet (first | (with_reducible exact quiet_same' (l6In_yes _ _ _ _ ht0 ht1)) | (with_reducible exact quiet_same' (l6In_yes _ _ _ _ hm0 hm1)))
        go_wp2
        go_roundw
        case rel => exact ⟨1, by omega, by go_num, fun i hi => by
          obtain rfl : i = 0 := by omega
          exact good.out, below_drewN HB.out _⟩
        case measure => simp [intOf]; omega
      · obtain ⟨j, rfl⟩ : ∃ j, k = j + 1 := ⟨k - 1, by omega⟩
        obtain ⟨b', o', e', hb', h3, _⟩ := HP.out j (by rw [HL.out]; omega)
        cases e'
        replace h3 := TR.out _ _ h3
        rw [Nat.add_sub_cancel] at HQ
        generalize pr ps j = q' at h3 HQ
        obtain ⟨t', m'⟩ := q'
        have p0 : (0 : Int) < ((j + 1 : Nat) : Int) := by omega
        have e1 : ((j + 1 : Nat) : Int) - 1 = (j : Int) := by omega
        have j0 : (0 : Int) ≤ (j : Int) := by omega
        have jn : (j : Int) < (n : Int) := by omega
        by_cases hyx : t ≤ t'
        · have bd := Lib.hid (bad.out (fun q => by have := (HQ.out.1 q).2 h0; simp at this; omega))
          have hd : decide (t ≤ t') = true := decide_eq_true hyx
          clear HQ bad
          go_wp2
          go_quiet (first | (with_reducible exact quiet_same' (l6In_yes _ _ _ _ ht0 ht1)) | (with_reducible exact quiet_same' (l6In_yes _ _ _ _ hm0 hm1)))
          go_wp2
          go_ret
          exact ⟨ret_bool bd.out.symm, below_drewN FIN.out _⟩
        · have good := Lib.hid (HQ.out.2 ⟨⟨⟨ht0, ht1⟩, hm0, hm1⟩, fun _ => by simp; omega⟩)
          have hd : decide (t ≤ t') = false := decide_eq_false hyx
          clear HQ bad
          go_wp2
          go_quiet (first | (with_reducible exact quiet_same' (l6In_yes _ _ _ _ ht0 ht1)) | (with_reducible exact quiet_same' (l6In_yes _ _ _ _ hm0 hm1)))
          go_wp2
          go_roundw
          case rel => exact ⟨j + 1 + 1, by omega, by go_num, fun i hi => by
            by_cases h : i < j + 1
            · exact G.out i h
            · obtain rfl : i = j + 1 := by omega
              exact good.out, below_drewN HB.out _⟩
          case measure => simp [intOf]; omega
    · obtain rfl : k = n := by omega
      clear hg hbl
      by_cases h4 : 4 < k
      · have bd : Hid (topB ps lost all = false) := topB_no (fun q => by have := q.1.1; rw [HL.out] at this; omega)
        have h4' : decide ((k : Int) ≤ 4) = false := decide_eq_false (by omega)
        go_wp2
        go_quiet (fail)
        go_wp2
        go_ret
        exact ⟨ret_bool bd.out.symm, below_drewN FIN.out _⟩
      have h4' : (k : Int) ≤ 4 := by omega
      by_cases ha : all < 0 ∨ 2000 < all
      · have bd : Hid (topB ps lost all = false) := topB_no (fun q => by have := q.1.2.2; omega)
        go_wp2
        go_quiet (first | (with_reducible exact quiet_same' (l6In_no _ _ _ _ ha)))
        go_wp2
        go_ret
        exact ⟨ret_bool bd.out.symm, below_drewN FIN.out _⟩
      have ha0 : 0 ≤ all := by omega
      have ha1 : all ≤ 2000 := by omega
      by_cases hl : lost < 0 ∨ 2000 < lost
      · have bd : Hid (topB ps lost all = false) := topB_no (fun q => by have := q.1.2.1; omega)
        go_wp2
        go_quiet (first | (with_reducible exact quiet_same' (l6In_yes _ _ _ _ ha0 ha1)) | (with_reducible exact quiet_same' (l6In_no _ _ _ _ hl)))
        go_wp2
        go_ret
        exact ⟨ret_bool bd.out.symm, below_drewN FIN.out _⟩
      have hl0 : 0 ≤ lost := by omega
      have hl1 : lost ≤ 2000 := by omega
      have KA : Hid (∀ q, Calls Try.prog 84 #[.slice x k c] (wr.drewN q) fun e w' => e = .returned (.int .i64 (sumP ps)) ∧ wr.drewN q = w') := fun q =>
        l3All_at _ x k c ps HL.out (Prs.below HPR.out (below_drewN FIN.out q) (Nat.le_refl _)) (by omega) G.out
      have hsb := sumP_bd (k := k) (by rw [HL.out]; exact Nat.le_refl _) G.out
      rw [List.take_of_length_le (by rw [HL.out]; exact Nat.le_refl _)] at hsb
      have HI := Lib.hid (topB_iff ps lost all)
      have HF : Hid (sumP ps + 5 * lost ≤ all → topB ps lost all = true) := fun h => (topB_iff _ _ _).2 ⟨⟨by rw [HL.out]; omega, ⟨hl0, hl1⟩, ha0, ha1⟩, fun i hi => G.out i (by rw [HL.out] at hi; exact hi), h⟩
      have HN : Hid (¬ sumP ps + 5 * lost ≤ all → topB ps lost all = false) := fun h => topB_no (fun q => h q.2.2)
      generalize sumP ps = S at *
      have ws : IntKind.i64.wrap (5 * lost) = 5 * lost := IntWalk.i64_in _ (by omega)
      have ws2 : IntKind.i64.wrap (S + 5 * lost) = S + 5 * lost := IntWalk.i64_in _ (by omega)
      by_cases hle : S + 5 * lost ≤ all
      · have fv := Lib.hid (HF.out hle)
        go_wp2
        go_quiet (first | (with_reducible exact quiet_same' (l6In_yes _ _ _ _ ha0 ha1)) | (with_reducible exact quiet_same' (l6In_yes _ _ _ _ hl0 hl1)) | (with_reducible exact quiet_same' (KA.out _)))
        go_wp2
        go_ret
        exact ⟨ret_bool (by first | (rw [fv.out]; done) | (rw [fv.out]; simp; omega) | (rw [fv.out]; simpa using hle)), below_drewN FIN.out _⟩
      · have fv := Lib.hid (HN.out hle)
        go_wp2
        go_quiet (first | (with_reducible exact quiet_same' (l6In_yes _ _ _ _ ha0 ha1)) | (with_reducible exact quiet_same' (l6In_yes _ _ _ _ hl0 hl1)) | (with_reducible exact quiet_same' (KA.out _)))
        go_wp2
        go_ret
        exact ⟨ret_bool (by first | (rw [fv.out]; done) | (rw [fv.out]; simp; omega) | (rw [fv.out]; simpa using hle)), below_drewN FIN.out _⟩

theorem spTopOk_at (w : World) (u : Value) (ps : List Pr) (lost all : Int) (hp : Prs w u ps) :
    Calls Try.prog 41 #[.agg #[u, .int .i64 lost, .int .i64 all]] w fun e w' => e = .returned (.bool (topB ps lost all)) ∧ Below w.heap.size w w' := by
  obtain ⟨x, c, rfl, hc0, hc⟩ := hp.form
  exact spTopOk_in w x _ c ps lost all rfl hp (by omega)

end Go.Proofs.Ytnoilafoeaknjaa.T

/-
  How often a thing was counted: the program's TopGet and its model's.
-/
namespace Go.Proofs.Ytnoilafoeaknjaa.T
open Go.RowKit Go.Sort

/-- How much of the thing t is among pairs. -/
def tot : List Pr → Int → Int
  | [], _ => 0
  | p :: ps, t => (if p.1 = t then p.2 else 0) + tot ps t
theorem tot_append (ps qs : List Pr) (t : Int) : tot (ps ++ qs) t = tot ps t + tot qs t := by
  induction ps with
  | nil => simp [tot]
  | cons p ps ih => simp only [List.cons_append, tot, ih]; omega
theorem tot_one (p : Pr) (t : Int) : tot [p] t = if p.1 = t then p.2 else 0 := by simp [tot]
theorem tot_none {ps : List Pr} {t : Int} (h : ∀ p ∈ ps, p.1 ≠ t) : tot ps t = 0 := by
  induction ps with
  | nil => rfl
  | cons p ps ih =>
    have h1 := h p (by simp)
    simp only [tot, if_neg h1, ih (fun q hq => h q (by simp [hq]))]; rfl
/-- The things stand in ascending order. -/
def Asc (ps : List Pr) : Prop := ∀ i, 0 < i → i < ps.length → (pr ps (i - 1)).1 < (pr ps i).1
theorem Asc.lt {ps : List Pr} (h : Asc ps) {i : Nat} : ∀ {j : Nat}, i < j → j < ps.length → (pr ps i).1 < (pr ps j).1 := by
  intro j
  induction j with
  | zero => intro h0; omega
  | succ j ih =>
    intro hij hj
    have h1 := h (j + 1) (by omega) hj
    rw [Nat.add_sub_cancel] at h1
    by_cases e : i = j
    · rw [e]; exact h1
    · have := ih (by omega) (by omega); omega
theorem pr_take {ps : List Pr} {k i : Nat} (h : i < k) : pr (ps.take k) i = pr ps i := by simp [pr, h]
theorem tot_succ (ps : List Pr) (k : Nat) (t : Int) (h : k < ps.length) : tot (ps.take (k + 1)) t = tot (ps.take k) t + if (pr ps k).1 = t then (pr ps k).2 else 0 := by
  rw [take_succ_pr ps k h, tot_append, tot_one]
theorem Asc.before {ps : List Pr} (h : Asc ps) {k : Nat} {t : Int} (hk : k < ps.length) (ht : (pr ps k).1 ≤ t) : tot (ps.take k) t = 0 := tot_none fun p hp => by
  obtain ⟨i, hi, rfl⟩ := pr_at hp
  have hi' : i < k := by simp at hi; omega
  rw [pr_take hi']
  have := h.lt hi' hk
  omega
theorem Asc.at {ps : List Pr} (h : Asc ps) {k : Nat} (hk : k < ps.length) : tot ps (pr ps k).1 = (pr ps k).2 := by
  have e1 : tot (ps.drop (k + 1)) (pr ps k).1 = 0 := tot_none fun p hp => by
    obtain ⟨i, hi, rfl⟩ := pr_at hp
    have e2 : pr (ps.drop (k + 1)) i = pr ps (k + 1 + i) := by simp [pr]
    rw [e2]
    simp at hi
    have := h.lt (i := k) (j := k + 1 + i) (by omega) (by omega)
    omega
  have e2 : tot ps (pr ps k).1 = tot (ps.take (k + 1)) (pr ps k).1 + tot (ps.drop (k + 1)) (pr ps k).1 := by rw [← tot_append, List.take_append_drop]
  rw [e2, e1, tot_succ ps k _ hk, h.before hk (Int.le_refl _)]
  simp
theorem TopP.asc {ps : List Pr} {lost all : Int} (h : TopP ps lost all) : Asc ps := fun i h0 hi => (h.2.1 i hi).2 h0

def isT (t : Int) : Bool := decide (0 ≤ t ∧ t < 64)
theorem isT_yes {t : Int} (h : isT t = true) : 0 ≤ t ∧ t < 64 := by simpa [isT] using h
theorem isT_no {t : Int} (h : isT t = false) : t < 0 ∨ 64 ≤ t := by simp [isT] at h; omega
def getOk (ps : List Pr) (lost all t : Int) : Bool := topB ps lost all && isT t
def getL (ps : List Pr) (lost all t : Int) : Int := if getOk ps lost all t then tot ps t else -1
def getM (ps : List Pr) (lost all t : Int) : Int := if getOk ps lost all t then tot ps t + lost else -1
theorem getOk_cases (ps : List Pr) (lost all t : Int) : (topB ps lost all = false ∧ getOk ps lost all t = false) ∨ (topB ps lost all = true ∧ (t < 0 ∨ 64 ≤ t) ∧ getOk ps lost all t = false) ∨ (topB ps lost all = true ∧ (0 ≤ t ∧ t < 64) ∧ getOk ps lost all t = true) := by
  unfold getOk
  cases h : topB ps lost all
  · exact .inl ⟨rfl, rfl⟩
  · cases h' : isT t
    · exact .inr (.inl ⟨rfl, isT_no h', rfl⟩)
    · exact .inr (.inr ⟨rfl, isT_yes h', rfl⟩)
theorem get_no {ps : List Pr} {lost all t : Int} (h : getOk ps lost all t = false) : getL ps lost all t = -1 ∧ getM ps lost all t = -1 := by simp [getL, getM, h]
theorem get_yes {ps : List Pr} {lost all t : Int} (h : getOk ps lost all t = true) : getL ps lost all t = tot ps t ∧ getM ps lost all t = tot ps t + lost := by simp [getL, getM, h]

theorem tot_bd {ps : List Pr} {t : Int} (h : ∀ i, i < ps.length → TopG ps i) (ha : Asc ps) : 0 ≤ tot ps t ∧ tot ps t ≤ 2000 := by
  by_cases hx : ∃ i, i < ps.length ∧ (pr ps i).1 = t
  · obtain ⟨i, hi, rfl⟩ := hx
    rw [ha.at hi]
    have := (h i hi).1.2
    omega
  · rw [tot_none fun p hp e => by obtain ⟨i, hi, rfl⟩ := pr_at hp; exact hx ⟨i, hi, e⟩]
    omega
theorem TopG.take {ps : List Pr} {k : Nat} (h : ∀ i, i < ps.length → TopG ps i) : ∀ i, i < (ps.take k).length → TopG (ps.take k) i := fun i hi => by
  simp at hi
  have := h i (by omega)
  unfold TopG at this ⊢
  rw [pr_take (by omega), pr_take (by omega)]
  exact this
theorem Asc.take {ps : List Pr} (h : Asc ps) (k : Nat) : Asc (ps.take k) := fun i h0 hi => by
  simp at hi
  rw [pr_take (by omega), pr_take (by omega)]
  exact h i h0 (by omega)

set_option maxHeartbeats 1000000 in
theorem imTopGet_in (w : World) (x : Option Addr) (n c : Nat) (ps : List Pr) (lost all t : Int) (hl : ps.length = n) (hp : Prs w (.slice x n c) ps) :
    Calls Try.prog 21 #[.agg #[.slice x n c, .int .i64 lost, .int .i64 all], .int .i64 t] w fun e w' => e = .returned (.tuple #[.int .i64 (getL ps lost all t), .int .i64 (getM ps lost all t)]) ∧ Below w.heap.size w w' := by
  have hA := (Below.refl w.heap.size w).alloc (Nat.le_refl _) (.cells #[.slice x n c, .int .i64 lost, .int .i64 all] 31)
  have c0 : (w.alloc (.cells #[.slice x n c, .int .i64 lost, .int .i64 all] 31)).cell? ⟨w.heap.size, 0, none⟩ = some (.slice x n c) := by simp
  have c1 : (w.alloc (.cells #[.slice x n c, .int .i64 lost, .int .i64 all] 31)).cell? ⟨w.heap.size, 1, none⟩ = some (.int .i64 lost) := by simp
  have C0 := Lib.hid c0
  have C1 := Lib.hid c1
  have HA := Lib.hid hA
  have K := Lib.hid (imTopOk_at _ _ ps lost all (hp.below hA (Nat.le_refl _)))
  rcases getOk_cases ps lost all t with ⟨hk, hno⟩ | ⟨hk, ht, hno⟩ | ⟨hk, ht, hok⟩
  · rw [(get_no hno).1, (get_no hno).2]
    rw [hk] at K
    clear hp hA c0 c1 hk hno hl
    go_enter Try.func21, Try.ntmps21
    go_wp2_with fail
    refine K.out.mono ?_
    rintro e w1 ⟨rfl, hb1⟩
    go_wp2
    go_ret2
    exact ⟨rfl, HA.out.trans (hb1.mono HA.out.size)⟩
  · rw [(get_no hno).1, (get_no hno).2]
    rw [hk] at K
    clear hp hA c0 c1 hk hno hl
    have KT : Hid (∀ W, Calls Try.prog 45 #[.int .i64 t] W fun e w' => e = .returned (.bool false) ∧ W = w') := fun W => isThing_no t W ht
    clear ht
    go_enter Try.func21, Try.ntmps21
    go_wp2_with fail
    refine K.out.mono ?_
    rintro e w1 ⟨rfl, hb1⟩
    go_wp2_with fail
    refine (KT.out _).mono ?_
    rintro e w' ⟨rfl, rfl⟩
    go_wp2
    go_ret2
    exact ⟨rfl, HA.out.trans (hb1.mono HA.out.size)⟩
  · rw [(get_yes hok).1, (get_yes hok).2]
    rw [hk] at K
    have hP := (topB_iff _ _ _).1 hk
    have hln : n ≤ 4 := by rw [← hl]; exact hP.1.1
    have hlo := hP.1.2.1
    have G := Lib.hid hP.2.1
    have A := Lib.hid hP.asc
    have hb := tot_bd (t := t) G.out A.out
    obtain ⟨S, hS⟩ : ∃ S, S = tot ps t := ⟨_, rfl⟩
    rw [← hS] at hb ⊢
    have HS := Lib.hid hS
    have HP := Lib.hid hp.cells
    have HL := Lib.hid hl
    have KT : Hid (∀ W, Calls Try.prog 45 #[.int .i64 t] W fun e w' => e = .returned (.bool true) ∧ W = w') := fun W => isThing_yes t W ht.1 ht.2
    clear hp hA hk hok hl ht hP c0 c1 hS
    go_enter Try.func21, Try.ntmps21
    go_wp2_with fail
    refine K.out.mono ?_
    rintro e w1 ⟨rfl, hb1⟩
    have d0 := cell_later hb1 C0.out
    have d1 := cell_later hb1 C1.out
    have D1 := Lib.hid d1
    have B1 := Lib.hid (HA.out.trans (hb1.mono HA.out.size))
    clear hb1
    go_wp2_with fail
    refine (KT.out _).mono ?_
    rintro e w' ⟨rfl, rfl⟩
    go_wp2
    go_loopw [6, 20] (fun q i wr => ∃ k : Nat, k ≤ n ∧ i = .int .i64 k ∧ q = .int .i64 (tot (ps.take k) t) ∧ Below w1.heap.size w1 wr) (fun _ i _ => n - (intOf i).toNat)
    case atStart => exact ⟨0, Nat.zero_le _, rfl, by simp [tot], Below.refl _ _⟩
    case round =>
      obtain ⟨k, hk, rfl, rfl, hbl⟩ := hrel
      have HB := Lib.hid hbl
      have cw := cell_later hbl D1.out
      clear hbl
      by_cases hlt : k < n
      · obtain ⟨b, o, rfl, hb, h1, h2⟩ := HP.out k (by rw [HL.out]; exact hlt)
        have tr : ∀ j v, w.cell? ⟨b, j, none⟩ = some v → wr.cell? ⟨b, j, none⟩ = some v := fun j v h =>
          (HB.out.cell (p := ⟨b, j, none⟩) (Nat.lt_of_lt_of_le hb B1.out.size)).trans ((B1.out.cell (p := ⟨b, j, none⟩) hb).trans h)
        replace h1 := tr _ _ h1
        replace h2 := tr _ _ h2
        have hs := Lib.hid (tot_succ ps k t (by rw [HL.out]; exact hlt))
        have hz : Hid ((pr ps k).1 = t → tot (ps.take k) t = 0) := fun e => A.out.before (by rw [HL.out]; exact hlt) (by omega)
        generalize pr ps k = q at h1 h2 hs hz
        obtain ⟨t', m⟩ := q
        clear tr
        by_cases e : t' = t
        · subst e
          rw [hz.out rfl] at hs
          go_wp2
          go_roundw
          case rel => exact ⟨k + 1, by omega, by go_num, by rw [hs.out]; simp, HB.out.alloc HB.out.size _⟩
          case measure => simp [intOf]; omega
        · have e' : (t' == t) = false := by simpa using e
          have e2 : decide (t' = t) = false := by simpa using e
          rw [if_neg (by exact e)] at hs
          clear e
          go_wp2
          go_roundw
          case rel => exact ⟨k + 1, by omega, by go_num, by rw [hs.out]; simp, HB.out.alloc HB.out.size _⟩
          case measure => simp [intOf]; omega
      · obtain rfl : k = n := by omega
        have e1 : ps.take k = ps := List.take_of_length_le (by rw [HL.out]; exact Nat.le_refl _)
        rw [e1, ← HS.out]
        have ws : IntKind.i64.wrap (S + lost) = S + lost := IntWalk.i64_in _ (by omega)
        clear e1
        go_wp2
        go_quiet (fail)
        go_wp2
        go_ret2
        exact ⟨rfl, below_drewN (B1.out.trans (HB.out.mono B1.out.size)) _⟩

theorem imTopGet_at (w : World) (u : Value) (ps : List Pr) (lost all t : Int) (hp : Prs w u ps) :
    Calls Try.prog 21 #[.agg #[u, .int .i64 lost, .int .i64 all], .int .i64 t] w fun e w' => e = .returned (.tuple #[.int .i64 (getL ps lost all t), .int .i64 (getM ps lost all t)]) ∧ Below w.heap.size w w' := by
  obtain ⟨x, c, rfl, hc0, hc⟩ := hp.form
  exact imTopGet_in w x _ c ps lost all t rfl hp

set_option maxHeartbeats 1000000 in
theorem spTopGet_in (w : World) (x : Option Addr) (n c : Nat) (ps : List Pr) (lost all t : Int) (hl : ps.length = n) (hp : Prs w (.slice x n c) ps) :
    Calls Try.prog 50 #[.agg #[.slice x n c, .int .i64 lost, .int .i64 all], .int .i64 t] w fun e w' => e = .returned (.tuple #[.int .i64 (getL ps lost all t), .int .i64 (getM ps lost all t)]) ∧ Below w.heap.size w w' := by
  have hA := (Below.refl w.heap.size w).alloc (Nat.le_refl _) (.cells #[.slice x n c, .int .i64 lost, .int .i64 all] 31)
  have c0 : (w.alloc (.cells #[.slice x n c, .int .i64 lost, .int .i64 all] 31)).cell? ⟨w.heap.size, 0, none⟩ = some (.slice x n c) := by simp
  have c1 : (w.alloc (.cells #[.slice x n c, .int .i64 lost, .int .i64 all] 31)).cell? ⟨w.heap.size, 1, none⟩ = some (.int .i64 lost) := by simp
  have C0 := Lib.hid c0
  have C1 := Lib.hid c1
  have HA := Lib.hid hA
  have K := Lib.hid (spTopOk_at _ _ ps lost all (hp.below hA (Nat.le_refl _)))
  rcases getOk_cases ps lost all t with ⟨hk, hno⟩ | ⟨hk, ht, hno⟩ | ⟨hk, ht, hok⟩
  · rw [(get_no hno).1, (get_no hno).2]
    rw [hk] at K
    clear hp hA c0 c1 hk hno hl
    go_enter Try.func50, Try.ntmps50
    go_wp2_with fail
    refine K.out.mono ?_
    rintro e w1 ⟨rfl, hb1⟩
    go_wp2
    go_ret2
    exact ⟨rfl, HA.out.trans (hb1.mono HA.out.size)⟩
  · rw [(get_no hno).1, (get_no hno).2]
    rw [hk] at K
    clear hp hA c0 c1 hk hno hl
    have KT : Hid (∀ W, Calls Try.prog 49 #[.int .i64 t, .int .i64 0, .int .i64 63] W fun e w' => e = .returned (.bool false) ∧ W = w') := fun W => l6In_no t 0 63 W (by omega)
    clear ht
    go_enter Try.func50, Try.ntmps50
    go_wp2_with fail
    refine K.out.mono ?_
    rintro e w1 ⟨rfl, hb1⟩
    go_wp2_with fail
    refine (KT.out _).mono ?_
    rintro e w' ⟨rfl, rfl⟩
    go_wp2
    go_ret2
    exact ⟨rfl, HA.out.trans (hb1.mono HA.out.size)⟩
  · rw [(get_yes hok).1, (get_yes hok).2]
    rw [hk] at K
    have hP := (topB_iff _ _ _).1 hk
    have hln : n ≤ 4 := by rw [← hl]; exact hP.1.1
    have hlo := hP.1.2.1
    have G := Lib.hid hP.2.1
    have A := Lib.hid hP.asc
    have HP := Lib.hid hp.cells
    have HL := Lib.hid hl
    have FIN : Hid (∀ k, k < n → (pr ps k).1 = t → tot ps t = (pr ps k).2) := fun k hk e => by rw [← e]; exact A.out.at (by rw [HL.out]; exact hk)
    have hb := tot_bd (t := t) G.out A.out
    obtain ⟨S, hS⟩ : ∃ S, S = tot ps t := ⟨_, rfl⟩
    rw [← hS] at hb FIN ⊢
    have HS := Lib.hid hS
    have KT : Hid (∀ W, Calls Try.prog 49 #[.int .i64 t, .int .i64 0, .int .i64 63] W fun e w' => e = .returned (.bool true) ∧ W = w') := fun W => l6In_yes t 0 63 W ht.1 (by omega)
    clear hp hA hk hok hl ht hP c0 c1 hS
    go_enter Try.func50, Try.ntmps50
    go_wp2_with fail
    refine K.out.mono ?_
    rintro e w1 ⟨rfl, hb1⟩
    have D0 := Lib.hid (cell_later hb1 C0.out)
    have D1 := Lib.hid (cell_later hb1 C1.out)
    have B1 := Lib.hid (HA.out.trans (hb1.mono HA.out.size))
    clear hb1
    go_wp2_with fail
    refine (KT.out _).mono ?_
    rintro e w' ⟨rfl, rfl⟩
    go_wp2
    go_loopw [6] (fun i wr => ∃ k : Nat, k ≤ n ∧ i = .int .i64 k ∧ tot (ps.take k) t = 0 ∧ Below w1.heap.size w1 wr) (fun i _ => n - (intOf i).toNat)
    case atStart => exact ⟨0, Nat.zero_le _, rfl, by simp [tot], Below.refl _ _⟩
    case round =>
      obtain ⟨k, hk, rfl, ht0, hbl⟩ := hrel
      have HB := Lib.hid hbl
      have HT := Lib.hid ht0
      have cw0 := cell_later hbl D0.out
      have cw := cell_later hbl D1.out
      clear hbl ht0
      by_cases hlt : k < n
      · obtain ⟨b, o, rfl, hb', h1, h2⟩ := HP.out k (by rw [HL.out]; exact hlt)
        have tr : ∀ j v, w.cell? ⟨b, j, none⟩ = some v → wr.cell? ⟨b, j, none⟩ = some v := fun j v h =>
          (HB.out.cell (p := ⟨b, j, none⟩) (Nat.lt_of_lt_of_le hb' B1.out.size)).trans ((B1.out.cell (p := ⟨b, j, none⟩) hb').trans h)
        replace h1 := tr _ _ h1
        replace h2 := tr _ _ h2
        have hs := Lib.hid (tot_succ ps k t (by rw [HL.out]; exact hlt))
        have hz := Lib.hid (FIN.out k hlt)
        generalize pr ps k = q at h1 h2 hs hz
        obtain ⟨t', m⟩ := q
        have k0 : (0 : Int) ≤ (k : Int) := by omega
        have kn : (k : Int) < (n : Int) := by omega
        clear tr
        by_cases e : t' = t
        · subst e
          have em : m = S := (hz.out rfl).symm
          subst em
          have ws : IntKind.i64.wrap (m + lost) = m + lost := IntWalk.i64_in _ (by omega)
          go_wp2
          go_quiet (fail)
          go_wp2
          go_ret2
          exact ⟨rfl, below_drewN (B1.out.trans (HB.out.mono B1.out.size)) _⟩
        · have e' : (t' == t) = false := by simpa using e
          have e2 : decide (t' = t) = false := by simpa using e
          rw [if_neg (by exact e)] at hs
          clear e
          go_wp2
          go_roundw
          case rel => exact ⟨k + 1, by omega, by go_num, by rw [hs.out, HT.out]; rfl, HB.out⟩
          case measure => simp [intOf]; omega
      · obtain rfl : k = n := by omega
        have e1 : ps.take k = ps := List.take_of_length_le (by rw [HL.out]; exact Nat.le_refl _)
        rw [e1, ← HS.out] at HT
        have e0 : S = 0 := HT.out
        subst e0
        clear e1
        go_wp2
        go_quiet (fail)
        go_wp2
        go_ret2
        exact ⟨by first | rfl | simp, below_drewN (B1.out.trans (HB.out.mono B1.out.size)) _⟩

theorem spTopGet_at (w : World) (u : Value) (ps : List Pr) (lost all t : Int) (hp : Prs w u ps) :
    Calls Try.prog 50 #[.agg #[u, .int .i64 lost, .int .i64 all], .int .i64 t] w fun e w' => e = .returned (.tuple #[.int .i64 (getL ps lost all t), .int .i64 (getM ps lost all t)]) ∧ Below w.heap.size w w' := by
  obtain ⟨x, c, rfl, hc0, hc⟩ := hp.form
  exact spTopGet_in w x _ c ps lost all t rfl hp

end Go.Proofs.Ytnoilafoeaknjaa.T

/-
  A pair that is put among others: the model's l3Put.
-/
namespace Go.Proofs.Ytnoilafoeaknjaa.T
open Go.RowKit Go.Sort

theorem cell_two_new (w : World) (x y : Value) (t : TypeId) : ∀ j u, [x, y][j]? = some u → (w.alloc (.cells #[x, y] t)).cell? ((⟨w.heap.size, 0, none⟩ : Addr).add j) = some u := by
  intro j u hj
  match j, hj with
  | 0, hj => simp at hj; subst hj; simp [Addr.add]
  | 1, hj => simp at hj; subst hj; simp [Addr.add]
theorem OwnP.drewN {w : World} {B : Nat} {v : Value} {ps : List Pr} (h : OwnP w B v ps) (n : Nat) : OwnP (w.drewN n) B v ps := h
theorem Prs.drewN {w : World} {v : Value} {ps : List Pr} (h : Prs w v ps) (n : Nat) : Prs (w.drewN n) v ps := h

theorem grownBy_of_drew' {w w' : World} {row : Option Nat} (h : w.drew.grownBy w' row) : w.grownBy w' row := ⟨h.os, h.tape, h.output, h.size, h.block⟩

/-- The pair x among pairs. -/
def putP : List Pr → Pr → List Pr
  | [], x => [x]
  | p :: ps, x => if p.1 < x.1 then p :: putP ps x else if p.1 = x.1 then (x.1, x.2 + p.2) :: ps else x :: p :: ps
/-- What is still to come, d telling that x stands already. -/
def toCome (ps : List Pr) (x : Pr) (d : Bool) : List Pr := if d then ps else putP ps x
theorem putP_len (ps : List Pr) (x : Pr) : (putP ps x).length ≤ ps.length + 1 := by
  induction ps with
  | nil => simp [putP]
  | cons p ps ih =>
    unfold putP
    split
    · simp; omega
    · split <;> simp
theorem drop_pr {ps : List Pr} {k : Nat} (h : k < ps.length) : ps.drop k = pr ps k :: ps.drop (k + 1) := by
  rw [List.drop_eq_getElem_cons h]; simp [pr, h]
theorem own_snocP {w : World} {B no : Nat} {v : Value} {os : List Pr} {t m : Int} (h : w.ownsRow B 83 2 v (no + 1) (prs os ++ [.int .i64 t, .int .i64 m])) (hn : no = os.length) : OwnP w B v (os ++ [(t, m)]) := by
  unfold OwnP
  rw [prs_snoc, List.length_append, ← hn]
  exact h
theorem below_appendP {B : Nat} {w wr w' : World} {o : Obj} {e : TypeId} {size : Nat} {v : Value} {n : Nat} {xs : List Value} (hb : Below B w wr) (hB : B ≤ wr.heap.size) (ho : wr.ownsRow B e size v n xs) (hg : (wr.alloc o).grownBy w' v.ownBlock) : Below B w w' :=
  (hb.alloc hB o).grown hg (Nat.le_trans hB (by simp)) (fun k e => (ho.lt k e).1)
theorem cell_appendP {B : Nat} {wr w' : World} {o : Obj} {e : TypeId} {size : Nat} {v u : Value} {n : Nat} {xs : List Value} {a : Addr} (hc : wr.cell? a = some u) (ha : a.block < B) (ho : wr.ownsRow B e size v n xs) (hg : (wr.alloc o).grownBy w' v.ownBlock) : w'.cell? a = some u :=
  hg.cell ((World.cell?_alloc_lt (h := World.block_lt_of_cell? _ _ hc) ..).trans hc) (fun h => by have := (ho.lt _ h.symm).1; omega)

set_option maxHeartbeats 8000000 in
theorem l3Put_in (w : World) (x : Option Addr) (n c : Nat) (ps : List Pr) (t m : Int) (hl : ps.length = n) (hp : Prs w (.slice x n c) ps) (hn : n ≤ 100) (hm : ∀ i, i < n → 0 ≤ (pr ps i).2 ∧ (pr ps i).2 ≤ 100000) (m0 : 0 ≤ m) (m1 : m ≤ 100000) :
    Calls Try.prog 126 #[.slice x n c, .agg #[.int .i64 t, .int .i64 m]] w fun e w' => ∃ v, e = .returned v ∧ OwnP w' w.heap.size v (putP ps (t, m)) ∧ Below w.heap.size w w' := by
  obtain ⟨i0, hi, hz0, hz1, hz2⟩ := info_parts pair_info
  have HP := Lib.hid hp.cells
  have HL := Lib.hid hl
  have HM := Lib.hid hm
  have hA := (Below.refl w.heap.size w).alloc (Nat.le_refl _) (.cells #[.int .i64 t, .int .i64 m] 83)
  have HA := Lib.hid hA
  have C0 : Hid ((w.alloc (.cells #[.int .i64 t, .int .i64 m] 83)).cell? ⟨w.heap.size, 0, none⟩ = some (.int .i64 t)) := by show _ = _; simp
  have C1 : Hid ((w.alloc (.cells #[.int .i64 t, .int .i64 m] 83)).cell? ⟨w.heap.size, 1, none⟩ = some (.int .i64 m)) := by show _ = _; simp
  have E0 : Hid (OwnP ((w.alloc (.cells #[.int .i64 t, .int .i64 m] 83)).alloc (.cells #[] 83)) (w.heap.size + 1) (.slice (some ⟨w.heap.size + 1, 0, none⟩) 0 0) []) := by
    have h := pair_empty (w.alloc (.cells #[.int .i64 t, .int .i64 m] 83)) (w.heap.size + 1) (by simp)
    have e : (w.alloc (.cells #[.int .i64 t, .int .i64 m] 83)).heap.size = w.heap.size + 1 := by simp
    rw [e] at h
    exact h
  clear hl hp hm hA
  go_enter Try.func126, Try.ntmps126
  go_wp2
  go_loopw [5, 6, 7] (fun u d i wr => ∃ (k : Nat) (dn : Bool) (os : List Pr), k ≤ n ∧ i = .int .i64 k ∧ d = .bool dn ∧ os.length ≤ k + dn.toNat ∧ OwnP wr (w.heap.size + 1) u os ∧ os ++ toCome (ps.drop k) (t, m) dn = putP ps (t, m) ∧ Below (w.heap.size + 1) (w.alloc (.cells #[.int .i64 t, .int .i64 m] 83)) wr) (fun _ _ i _ => n - (intOf i).toNat)
  case atStart => exact ⟨0, false, [], Nat.zero_le _, rfl, rfl, Nat.zero_le _, E0.out, rfl, (Below.refl _ _).alloc (by simp) _⟩
  case round =>
    obtain ⟨k, dn, os, hk, rfl, rfl, hos, hown, hput, hbl⟩ := hrel
    obtain ⟨y, cp, hu, _, _⟩ := hown.form
    obtain ⟨no, hno⟩ : ∃ no, no = os.length := ⟨_, rfl⟩
    have hdn : dn.toNat ≤ 1 := by cases dn <;> simp
    have hno2 : no ≤ 200 := by omega
    clear hdn
    rw [← hno] at hu
    subst hu
    have HN := Lib.hid hno
    have HPT := Lib.hid hput
    have HB := Lib.hid hbl
    have hsz := hbl.size
    simp only [World.size_alloc] at hsz
    have ho : wr.ownsRow (w.heap.size + 1) 83 2 (.slice y no cp) no (prs os) := by have h := hown; unfold OwnP at h; rw [← hno] at h; exact h
    have HO := Lib.hid ho
    have b0 : wr.cell? ⟨w.heap.size, 0, none⟩ = some (.int .i64 t) := (hbl.cell (p := ⟨w.heap.size, 0, none⟩) (by simp)).trans C0.out
    have b1 : wr.cell? ⟨w.heap.size, 1, none⟩ = some (.int .i64 m) := (hbl.cell (p := ⟨w.heap.size, 1, none⟩) (by simp)).trans C1.out
    have hlt1 : w.heap.size < w.heap.size + 1 := Nat.lt_succ_self _
    clear hput hbl hown hno ho
    by_cases hlt : k < n
    · obtain ⟨b, o, rfl, hb, h1, h2⟩ := HP.out k (by rw [HL.out]; exact hlt)
      have tr : ∀ j v, w.cell? ⟨b, j, none⟩ = some v → wr.cell? ⟨b, j, none⟩ = some v := fun j v h => by
        rw [HB.out.cell (p := ⟨b, j, none⟩) (by show b < _; omega), HA.out.cell (p := ⟨b, j, none⟩) hb]; exact h
      replace h1 := tr _ _ h1
      replace h2 := tr _ _ h2
      have hb1 : b < w.heap.size + 1 := by omega
      have hd := drop_pr (ps := ps) (k := k) (by rw [HL.out]; exact hlt)
      have hmm := HM.out k hlt
      have H200 : no ≤ 200 := hno2
      generalize pr ps k = q at h1 h2 hd hmm
      obtain ⟨t', m'⟩ := q
      simp only at h1 h2 hmm
      rw [hd] at HPT
      obtain ⟨mm0, mm1⟩ := hmm
      clear hd tr
      have k0 : (0 : Int) ≤ (k : Int) := by omega
      have kn : (k : Int) < (n : Int) := by omega
      cases dn with
      | true =>
        have hos1 : os.length ≤ k + 1 := hos
        clear hos
        go_wp2
        go_quiet (fail)
        obtain ⟨wq, hwq⟩ : ∃ wq, wq = wr.drewN nq := ⟨_, rfl⟩
        have HOq : Hid (wq.ownsRow (w.heap.size + 1) 83 2 (.slice y no cp) no (prs os)) := by rw [hwq]; exact HO.out
        have HBq : Hid (Below (w.heap.size + 1) (w.alloc (.cells #[.int .i64 t, .int .i64 m] 83)) wq) := by rw [hwq]; exact below_drewN HB.out _
        have hszq : w.heap.size + 1 ≤ wq.heap.size := by rw [hwq]; exact hsz
        have h1q : wq.cell? ⟨b, o + k * 2, none⟩ = some (.int .i64 t') := by rw [hwq]; exact h1
        have h2q : wq.cell? ⟨b, o + k * 2 + 1, none⟩ = some (.int .i64 m') := by rw [hwq]; exact h2
        have b0q : wq.cell? ⟨w.heap.size, 0, none⟩ = some (.int .i64 t) := by rw [hwq]; exact b0
        have b1q : wq.cell? ⟨w.heap.size, 1, none⟩ = some (.int .i64 m) := by rw [hwq]; exact b1
        rw [← hwq]
        clear hwq h1 h2 b0 b1 HO HB hsz
        go_wp2_with (first | (at_builtin; refine wpList_append_own _ rfl _ _ 29 rfl (w.heap.size + 1) 83 i0 (.agg #[.int .i64 0, .int .i64 0]) 2 16 Try.underlying29 hi hz0 hz1 hz2 rfl (by decide) _ _ _ rfl (HOq.out.alloc _) ⟨wq.heap.size, 0, none⟩ 1 1 [.int .i64 t', .int .i64 m'] rfl rfl (cell_two_new _ _ _ _) (by simp [Value.oneCell']) (by unfold maxLen; omega) (by omega) (by simp; omega) ?_; intro v1 w1 ho1 hg1 _; obtain ⟨g_v1, c_v1, rfl, _, _⟩ := World.ownsRow.form ho1 (Nat.succ_pos _)))
        go_roundw
        case rel => exact ⟨k + 1, true, os ++ [(t', m')], by omega, by go_num, rfl, by simp; omega, own_snocP ho1 HN.out, by rw [← HPT.out]; simp [toCome], below_appendP HBq.out hszq HOq.out hg1⟩
        case measure => simp [intOf]; omega
      | false =>
        have hos1 : os.length ≤ k := hos
        clear hos
        by_cases hlt2 : t' < t
        · have hD : decide (t ≤ t') = false := decide_eq_false (by omega)
          go_wp2
          go_quiet (fail)
          obtain ⟨wq, hwq⟩ : ∃ wq, wq = wr.drewN nq := ⟨_, rfl⟩
          have HOq : Hid (wq.ownsRow (w.heap.size + 1) 83 2 (.slice y no cp) no (prs os)) := by rw [hwq]; exact HO.out
          have HBq : Hid (Below (w.heap.size + 1) (w.alloc (.cells #[.int .i64 t, .int .i64 m] 83)) wq) := by rw [hwq]; exact below_drewN HB.out _
          have hszq : w.heap.size + 1 ≤ wq.heap.size := by rw [hwq]; exact hsz
          have h1q : wq.cell? ⟨b, o + k * 2, none⟩ = some (.int .i64 t') := by rw [hwq]; exact h1
          have h2q : wq.cell? ⟨b, o + k * 2 + 1, none⟩ = some (.int .i64 m') := by rw [hwq]; exact h2
          have b0q : wq.cell? ⟨w.heap.size, 0, none⟩ = some (.int .i64 t) := by rw [hwq]; exact b0
          have b1q : wq.cell? ⟨w.heap.size, 1, none⟩ = some (.int .i64 m) := by rw [hwq]; exact b1
          rw [← hwq]
          clear hwq h1 h2 b0 b1 HO HB hsz
          go_wp2_with (first | (at_builtin; refine wpList_append_own _ rfl _ _ 29 rfl (w.heap.size + 1) 83 i0 (.agg #[.int .i64 0, .int .i64 0]) 2 16 Try.underlying29 hi hz0 hz1 hz2 rfl (by decide) _ _ _ rfl (HOq.out.alloc _) ⟨wq.heap.size, 0, none⟩ 1 1 [.int .i64 t', .int .i64 m'] rfl rfl (cell_two_new _ _ _ _) (by simp [Value.oneCell']) (by unfold maxLen; omega) (by omega) (by simp; omega) ?_; intro v1 w1 ho1 hg1 _; obtain ⟨g_v1, c_v1, rfl, _, _⟩ := World.ownsRow.form ho1 (Nat.succ_pos _)))
          go_roundw
          case rel => exact ⟨k + 1, false, os ++ [(t', m')], by omega, by go_num, rfl, by simp; omega, own_snocP ho1 HN.out, by rw [← HPT.out]; simp [toCome, putP, hlt2], below_appendP HBq.out hszq HOq.out hg1⟩
          case measure => simp [intOf]; omega
        · have hD : decide (t ≤ t') = true := decide_eq_true (by omega)
          by_cases he : t' = t
          · have he' := he.symm
            subst he'
            go_wp2
            go_quiet (fail)
            obtain ⟨wq, hwq⟩ : ∃ wq, wq = wr.drewN nq := ⟨_, rfl⟩
            have HOq : Hid (wq.ownsRow (w.heap.size + 1) 83 2 (.slice y no cp) no (prs os)) := by rw [hwq]; exact HO.out
            have HBq : Hid (Below (w.heap.size + 1) (w.alloc (.cells #[.int .i64 t, .int .i64 m] 83)) wq) := by rw [hwq]; exact below_drewN HB.out _
            have hszq : w.heap.size + 1 ≤ wq.heap.size := by rw [hwq]; exact hsz
            have h1q : wq.cell? ⟨b, o + k * 2, none⟩ = some (.int .i64 t) := by rw [hwq]; exact h1
            have h2q : wq.cell? ⟨b, o + k * 2 + 1, none⟩ = some (.int .i64 m') := by rw [hwq]; exact h2
            have b0q : wq.cell? ⟨w.heap.size, 0, none⟩ = some (.int .i64 t) := by rw [hwq]; exact b0
            have b1q : wq.cell? ⟨w.heap.size, 1, none⟩ = some (.int .i64 m) := by rw [hwq]; exact b1
            rw [← hwq]
            clear hwq h1 h2 b0 b1 HO HB hsz
            have ws : IntKind.i64.wrap (m + m') = m + m' := IntWalk.i64_in _ (by omega)
            go_wp2
            go_quiet (fail)
            obtain ⟨w3, hw3⟩ : ∃ w3, w3 = wq.drewN nq := ⟨_, rfl⟩
            have HO3 : Hid (w3.ownsRow (w.heap.size + 1) 83 2 (.slice y no cp) no (prs os)) := by rw [hw3]; exact HOq.out
            have HB3 : Hid (Below (w.heap.size + 1) (w.alloc (.cells #[.int .i64 t, .int .i64 m] 83)) w3) := by rw [hw3]; exact below_drewN HBq.out _
            have hsz3 : w.heap.size + 1 ≤ w3.heap.size := by rw [hw3]; exact hszq
            have h2r : w3.cell? ⟨b, o + k * 2 + 1, none⟩ = some (.int .i64 m') := by rw [hw3]; exact h2q
            have b0r : w3.cell? ⟨w.heap.size, 0, none⟩ = some (.int .i64 t) := by rw [hw3]; exact b0q
            have b1r : w3.cell? ⟨w.heap.size, 1, none⟩ = some (.int .i64 m) := by rw [hw3]; exact b1q
            rw [← hw3]
            clear hw3 h1q h2q b0q b1q HOq HBq hszq
            go_wp2_with fail
            go_region_law ((refine step_append_lies _ (by rfl) _ _ _ (by rfl) (w.heap.size + 1) 83 i0 _ 2 16 Try.underlying29 hi hz0 hz1 hz2 rfl (by decide) (.slice y no cp) no (prs os) (by rfl) ((HO3.out.alloc _).drew) ⟨w3.heap.size, 0, none⟩ 1 1 [.int .i64 t, .int .i64 (m + m')] (by rfl) (by rfl) (World.news_of_block (cs := #[.int .i64 t, .int .i64 (m + m')]) (t := 83) (fr := (0, 0)) (heap_alloc_new w3 _)) (by simp [Value.oneCell']) (by omega) (by unfold maxLen; omega) (by omega) (by simp; omega) (w3.heap.size + 1) (by simp) ?_; intro g1 cap1 w4 hown4 hgrow4 hat4 hlt4))
            all_goals
              have hg5 : (w3.alloc (.cells #[.int .i64 t, .int .i64 (m + m')] 83)).grownBy w4 (Value.slice y no cp).ownBlock := grownBy_of_drew' hgrow4
              go_wp2
              go_roundw
              case rel => exact ⟨k + 1, true, os ++ [(t, m + m')], by omega, by go_num, rfl, by simp; omega, own_snocP hown4 HN.out, by rw [← HPT.out]; simp [toCome, putP], below_appendP HB3.out hsz3 HO3.out hg5⟩
              case measure => simp [intOf]; omega
          · have he1 : (t' == t) = false := by simpa using he
            have he2 : decide (t' = t) = false := by simpa using he
            go_wp2
            go_quiet (fail)
            obtain ⟨wq, hwq⟩ : ∃ wq, wq = wr.drewN nq := ⟨_, rfl⟩
            have HOq : Hid (wq.ownsRow (w.heap.size + 1) 83 2 (.slice y no cp) no (prs os)) := by rw [hwq]; exact HO.out
            have HBq : Hid (Below (w.heap.size + 1) (w.alloc (.cells #[.int .i64 t, .int .i64 m] 83)) wq) := by rw [hwq]; exact below_drewN HB.out _
            have hszq : w.heap.size + 1 ≤ wq.heap.size := by rw [hwq]; exact hsz
            have h1q : wq.cell? ⟨b, o + k * 2, none⟩ = some (.int .i64 t') := by rw [hwq]; exact h1
            have h2q : wq.cell? ⟨b, o + k * 2 + 1, none⟩ = some (.int .i64 m') := by rw [hwq]; exact h2
            have b0q : wq.cell? ⟨w.heap.size, 0, none⟩ = some (.int .i64 t) := by rw [hwq]; exact b0
            have b1q : wq.cell? ⟨w.heap.size, 1, none⟩ = some (.int .i64 m) := by rw [hwq]; exact b1
            rw [← hwq]
            clear hwq h1 h2 b0 b1 HO HB hsz
            go_wp2
            go_quiet (fail)
            obtain ⟨w3, hw3⟩ : ∃ w3, w3 = wq.drewN nq := ⟨_, rfl⟩
            have HO3 : Hid (w3.ownsRow (w.heap.size + 1) 83 2 (.slice y no cp) no (prs os)) := by rw [hw3]; exact HOq.out
            have HB3 : Hid (Below (w.heap.size + 1) (w.alloc (.cells #[.int .i64 t, .int .i64 m] 83)) w3) := by rw [hw3]; exact below_drewN HBq.out _
            have hsz3 : w.heap.size + 1 ≤ w3.heap.size := by rw [hw3]; exact hszq
            have h1r : w3.cell? ⟨b, o + k * 2, none⟩ = some (.int .i64 t') := by rw [hw3]; exact h1q
            have h2r : w3.cell? ⟨b, o + k * 2 + 1, none⟩ = some (.int .i64 m') := by rw [hw3]; exact h2q
            have b0r : w3.cell? ⟨w.heap.size, 0, none⟩ = some (.int .i64 t) := by rw [hw3]; exact b0q
            have b1r : w3.cell? ⟨w.heap.size, 1, none⟩ = some (.int .i64 m) := by rw [hw3]; exact b1q
            rw [← hw3]
            clear hw3 h1q h2q b0q b1q HOq HBq hszq
            go_wp2_with (first | (at_builtin; refine wpList_append_own _ rfl _ _ 29 rfl (w.heap.size + 1) 83 i0 (.agg #[.int .i64 0, .int .i64 0]) 2 16 Try.underlying29 hi hz0 hz1 hz2 rfl (by decide) _ _ _ rfl (HO3.out.alloc _) ⟨w3.heap.size, 0, none⟩ 1 1 [.int .i64 t, .int .i64 m] rfl rfl (cell_two_new _ _ _ _) (by simp [Value.oneCell']) (by unfold maxLen; omega) (by omega) (by simp; omega) ?_; intro v1 w1 ho1 hg1 _; obtain ⟨g_v1, c_v1, rfl, _, _⟩ := World.ownsRow.form ho1 (Nat.succ_pos _); have c_1 := cell_appendP h1r hb1 HO3.out hg1; have c_2 := cell_appendP h2r hb1 HO3.out hg1; have sz1 := hg1.size; simp only [World.size_alloc] at sz1; clear h1r h2r) | (at_builtin; refine wpList_append_own _ rfl _ _ 29 rfl (w.heap.size + 1) 83 i0 (.agg #[.int .i64 0, .int .i64 0]) 2 16 Try.underlying29 hi hz0 hz1 hz2 rfl (by decide) _ _ _ rfl (ho1.alloc _) ⟨w1.heap.size, 0, none⟩ 1 1 [.int .i64 t', .int .i64 m'] rfl rfl (cell_two_new _ _ _ _) (by simp [Value.oneCell']) (by unfold maxLen; omega) (by omega) (by simp; omega) ?_; intro v2 w2 ho2 hg2 _; obtain ⟨g_v2, c_v2, rfl, _, _⟩ := World.ownsRow.form ho2 (Nat.succ_pos _)))
            have o1 := own_snocP ho1 HN.out
            have o2 := own_snocP (os := os ++ [(t, m)]) (by have h := ho2; rw [show prs os ++ [Value.int .i64 t, Value.int .i64 m] = prs (os ++ [(t, m)]) from (prs_snoc os (t, m)).symm] at h; exact h) (by simp; exact HN.out)
            have e2 : toCome ((t', m') :: ps.drop (k + 1)) (t, m) false = [(t, m)] ++ [(t', m')] ++ ps.drop (k + 1) := by simp [toCome, putP, he, hlt2]
            rw [e2] at HPT
            have B1 := below_appendP HB3.out hsz3 HO3.out hg1
            have B2 := below_appendP B1 (by omega) ho1 hg2
            clear e2 B1
            go_roundw
            case rel => exact ⟨k + 1, true, os ++ [(t, m)] ++ [(t', m')], by omega, by go_num, rfl, by simp; omega, o2, by rw [← HPT.out]; simp [toCome], B2⟩
            case measure => simp [intOf]; omega
    · have hd0 : ps.drop k = [] := List.drop_of_length_le (by rw [HL.out]; omega)
      rw [hd0] at HPT
      clear hd0
      cases dn with
      | true =>
        go_wp2
        go_ret
        refine ⟨_, rfl, ?_, HA.out.trans (HB.out.mono (Nat.le_succ _))⟩
        have e : putP ps (t, m) = os := by rw [← HPT.out]; simp [toCome]
        rw [e]
        have ho := HO.out
        rw [HN.out] at ho ⊢
        exact ownsRow_base ho (Nat.le_succ _)
      | false =>
        go_wp2_with (first | (at_builtin; refine wpList_append_own _ rfl _ _ 29 rfl (w.heap.size + 1) 83 i0 (.agg #[.int .i64 0, .int .i64 0]) 2 16 Try.underlying29 hi hz0 hz1 hz2 rfl (by decide) _ _ _ rfl (HO.out.alloc _) ⟨wr.heap.size, 0, none⟩ 1 1 [.int .i64 t, .int .i64 m] rfl rfl (cell_two_new _ _ _ _) (by simp [Value.oneCell']) (by unfold maxLen; omega) (by omega) (by simp; omega) ?_; intro v1 w1 ho1 hg1 _; obtain ⟨g_v1, c_v1, rfl, _, _⟩ := World.ownsRow.form ho1 (Nat.succ_pos _)))
        go_ret
        refine ⟨_, rfl, ?_, HA.out.trans ((below_appendP HB.out hsz HO.out hg1).mono (Nat.le_succ _))⟩
        have e : putP ps (t, m) = os ++ [(t, m)] := by rw [← HPT.out]; simp [toCome, putP]
        rw [e]
        exact (own_snocP ho1 HN.out).base (Nat.le_succ _)

theorem l3Put_at (w : World) (v : Value) (ps : List Pr) (t m : Int) (hp : Prs w v ps) (hn : ps.length ≤ 100) (hm : ∀ i, i < ps.length → 0 ≤ (pr ps i).2 ∧ (pr ps i).2 ≤ 100000) (m0 : 0 ≤ m) (m1 : m ≤ 100000) :
    Calls Try.prog 126 #[v, .agg #[.int .i64 t, .int .i64 m]] w fun e w' => ∃ v, e = .returned v ∧ OwnP w' w.heap.size v (putP ps (t, m)) ∧ Below w.heap.size w w' := by
  obtain ⟨x, c, rfl, _, _⟩ := hp.form
  exact l3Put_in w x _ c ps t m rfl hp hn hm m0 m1

end Go.Proofs.Ytnoilafoeaknjaa.T

/-
  A block of three cells: a struct of three fields that lies by itself.
-/
namespace Go.Proofs.Ytnoilafoeaknjaa.T
open Go.RowKit Go.Sort

/-- Block b is a struct of three cells. -/
def Box3 (W : World) (b : Nat) (t : TypeId) (x y z : Value) : Prop := W.heap[b]? = some (.cells #[x, y, z] t (0, 0))
section
variable {W W' : World} {b : Nat} {t : TypeId} {x y z : Value}
theorem Box3.lt (h : Box3 W b t x y z) : b < W.heap.size := (Array.getElem?_eq_some_iff.1 h).1
theorem Box3.new (W : World) (t : TypeId) (x y z : Value) : Box3 (W.alloc (.cells #[x, y, z] t)) W.heap.size t x y z := heap_alloc_new W _
theorem Box3.below (h : Box3 W b t x y z) {B : Nat} (hb : Below B W W') (hB : b < B) : Box3 W' b t x y z := (hb.block b hB).trans h
theorem Box3.later (h : Box3 W b t x y z) (hb : Below W.heap.size W W') : Box3 W' b t x y z := h.below hb h.lt
theorem Box3.drew (h : Box3 W b t x y z) : Box3 W.drew b t x y z := h
theorem Box3.drewN (h : Box3 W b t x y z) (n : Nat) : Box3 (W.drewN n) b t x y z := h
theorem Box3.alloc (h : Box3 W b t x y z) (o : Obj) : Box3 (W.alloc o) b t x y z := h.later ((Below.refl _ _).alloc (Nat.le_refl _) o)
theorem Box3.kept {row : Option Nat} (h : Box3 W b t x y z) (hg : W.grownBy W' row) (hr : row ≠ some b) : Box3 W' b t x y z := (hg.block b h.lt (fun e => hr e.symm)).trans h
theorem Box3.cell0 (h : Box3 W b t x y z) : W.cell? ⟨b, 0, none⟩ = some x := by unfold Box3 at h; simp [World.cell?, h]
theorem Box3.cell1 (h : Box3 W b t x y z) : W.cell? ⟨b, 1, none⟩ = some y := by unfold Box3 at h; simp [World.cell?, h]
theorem Box3.cell2 (h : Box3 W b t x y z) : W.cell? ⟨b, 2, none⟩ = some z := by unfold Box3 at h; simp [World.cell?, h]
theorem Box3.free (h : Box3 W b t x y z) (i : Nat) : W.frozen? ⟨b, i, none⟩ = false := by unfold Box3 at h; simp [World.frozen?, h]
theorem Box3.set0 (h : Box3 W b t x y z) (u : Value) : Box3 (W.setCell ⟨b, 0, none⟩ u) b t u y z := by unfold Box3 at h ⊢; rw [heap_setCell_same W b 0 _ _ _ h]; rfl
theorem Box3.set1 (h : Box3 W b t x y z) (u : Value) : Box3 (W.setCell ⟨b, 1, none⟩ u) b t x u z := by unfold Box3 at h ⊢; rw [heap_setCell_same W b 1 _ _ _ h]; rfl
theorem Box3.set2 (h : Box3 W b t x y z) (u : Value) : Box3 (W.setCell ⟨b, 2, none⟩ u) b t x y u := by unfold Box3 at h ⊢; rw [heap_setCell_same W b 2 _ _ _ h]; rfl
theorem Box3.set (h : Box3 W b t x y z) (x' y' z' : Value) : Box3 (((W.setCell ⟨b, 0, none⟩ x').setCell ⟨b, 1, none⟩ y').setCell ⟨b, 2, none⟩ z') b t x' y' z' := ((h.set0 x').set1 y').set2 z'
theorem Box3.not_row {B : Nat} {e : TypeId} {size n : Nat} {v : Value} {xs : List Value} (h : Box3 W b t x y z) (ht : t ≠ e) (ho : W.ownsRow B e size v n xs) : v.ownBlock ≠ some b := fun hb => by
  rcases ho.2 with ⟨rfl, _⟩ | ⟨g, cap, cur, rfl, _, hg, _⟩
  · cases hb
  · obtain rfl : g = b := by simpa [Value.ownBlock] using hb
    unfold Box3 at h
    rw [hg] at h
    cases h
    exact ht rfl
end
theorem below_set3 {B b : Nat} {w W : World} (h : Below B w W) (hb : B ≤ b) (x y z : Value) : Below B w (((W.setCell ⟨b, 0, none⟩ x).setCell ⟨b, 1, none⟩ y).setCell ⟨b, 2, none⟩ z) := ((h.setCell hb _).setCell hb _).setCell hb _
theorem OwnP.set3 {W : World} {B b : Nat} {v : Value} {ps : List Pr} (h : OwnP W B v ps) (hv : v.ownBlock ≠ some b) (x y z : Value) : OwnP (((W.setCell ⟨b, 0, none⟩ x).setCell ⟨b, 1, none⟩ y).setCell ⟨b, 2, none⟩ z) B v ps :=
  ((h.keep (grownBy_setCell W ⟨b, 0, none⟩ x) hv).keep (grownBy_setCell _ ⟨b, 1, none⟩ y) hv).keep (grownBy_setCell _ ⟨b, 2, none⟩ z) hv

end Go.Proofs.Ytnoilafoeaknjaa.T

/-
  The greatest number that more than are kept come up to: the model's l3Over.
-/
namespace Go.Proofs.Ytnoilafoeaknjaa.T
open Go.RowKit Go.Sort

/-- How many have at least so much. -/
def cntGe (ps : List Pr) (v : Int) : Nat := (ps.filter fun p => decide (v ≤ p.2)).length
def overK (ps : List Pr) : Nat → Int
  | 0 => 0
  | k + 1 => if 4 < cntGe ps (pr ps k).2 then max (overK ps k) (pr ps k).2 else overK ps k
def overV (ps : List Pr) : Int := overK ps ps.length
theorem cntGe_le (ps : List Pr) (v : Int) : cntGe ps v ≤ ps.length := List.length_filter_le _ _
theorem cntGe_succ (ps : List Pr) (k : Nat) (v : Int) (h : k < ps.length) : cntGe (ps.take (k + 1)) v = cntGe (ps.take k) v + if v ≤ (pr ps k).2 then 1 else 0 := by
  rw [take_succ_pr ps k h]
  unfold cntGe
  rw [List.filter_append, List.length_append]
  by_cases h : v ≤ (pr ps k).2 <;> simp [h]
theorem overK_bd {ps : List Pr} {M : Int} {k : Nat} (hM : 0 ≤ M) (hk : k ≤ ps.length) (h : ∀ i, i < ps.length → 0 ≤ (pr ps i).2 ∧ (pr ps i).2 ≤ M) : 0 ≤ overK ps k ∧ overK ps k ≤ M := by
  induction k with
  | zero => exact ⟨Int.le_refl _, hM⟩
  | succ k ih =>
    have := ih (by omega)
    have := h k (by omega)
    unfold overK
    split <;> omega
theorem overV_bd {ps : List Pr} {M : Int} (hM : 0 ≤ M) (h : ∀ i, i < ps.length → 0 ≤ (pr ps i).2 ∧ (pr ps i).2 ≤ M) : 0 ≤ overV ps ∧ overV ps ≤ M := overK_bd hM (Nat.le_refl _) h

set_option maxHeartbeats 2000000 in
theorem l3Over_in (w : World) (x : Option Addr) (n c : Nat) (ps : List Pr) (hl : ps.length = n) (hp : Prs w (.slice x n c) ps) (hn : n ≤ 100) (hm : ∀ i, i < n → 0 ≤ (pr ps i).2 ∧ (pr ps i).2 ≤ 100000) :
    Calls Try.prog 128 #[.slice x n c] w fun e w' => e = .returned (.int .i64 (overV ps)) ∧ Below w.heap.size w w' := by
  have HP := Lib.hid hp.cells
  have HL := Lib.hid hl
  have HM := Lib.hid hm
  clear hl hp hm
  go_enter Try.func128, Try.ntmps128
  go_wp2
  go_loopw [3, 4] (fun q i wr => ∃ k : Nat, k ≤ n ∧ i = .int .i64 k ∧ q = .int .i64 (overK ps k) ∧ Below w.heap.size w wr) (fun _ i _ => n - (intOf i).toNat)
  case atStart => exact ⟨0, Nat.zero_le _, rfl, rfl, Below.refl _ _⟩
  case round =>
    obtain ⟨k, hk, rfl, rfl, hbl⟩ := hrel
    have HB := Lib.hid hbl
    have ob := overK_bd (ps := ps) (M := 100000) (k := k) (by omega) (by rw [HL.out]; exact hk) (fun i hi => HM.out i (by rw [HL.out] at hi; exact hi))
    clear hbl
    by_cases hlt : k < n
    · obtain ⟨b, o, rfl, hb, g1, g2⟩ := HP.out k (by rw [HL.out]; exact hlt)
      have G2 := Lib.hid g2
      have hmk := HM.out k hlt
      have hov : Hid (overK ps (k + 1) = if 4 < cntGe ps (pr ps k).2 then max (overK ps k) (pr ps k).2 else overK ps k) := by show overK _ _ = _; rfl
      have k0 : (0 : Int) ≤ (k : Int) := by omega
      have kn : (k : Int) < (n : Int) := by omega
      obtain ⟨wo, rfl⟩ : ∃ wo : World, wo = wr := ⟨_, rfl⟩
      generalize (pr ps k).2 = v at G2 hmk hov
      clear g1 g2
      go_wp2
      go_loopw [5, 6] (fun q i wr => ∃ j : Nat, j ≤ n ∧ i = .int .i64 j ∧ q = .int .i64 (cntGe (ps.take j) v) ∧ Below wo.heap.size wo wr) (fun _ i _ => n - (intOf i).toNat)
      case atStart => exact ⟨0, Nat.zero_le _, rfl, rfl, Below.refl _ _⟩
      case round =>
        obtain ⟨j, hj, rfl, rfl, hbj⟩ := hrel
        have HJ := Lib.hid hbj
        have FB := Lib.hid (HB.out.trans (hbj.mono HB.out.size))
        have cb := cntGe_le (ps.take j) v
        have cl : (ps.take j).length ≤ 100 := by have := HL.out; simp; omega
        have g2w : wr.cell? ⟨b, o + k * 2 + 1, none⟩ = some (.int .i64 v) := (FB.out.cell (p := ⟨b, o + k * 2 + 1, none⟩) hb).trans G2.out
        clear hbj
        by_cases hjl : j < n
        · obtain ⟨b', o', e', hb', h1, h2⟩ := HP.out j (by rw [HL.out]; exact hjl)
          cases e'
          have h2w := (FB.out.cell (p := ⟨b, o + j * 2 + 1, none⟩) hb).trans h2
          have hc := Lib.hid (cntGe_succ ps j v (by rw [HL.out]; exact hjl))
          have hmj := HM.out j hjl
          generalize (pr ps j).2 = u at h2w hc hmj
          generalize cntGe (ps.take j) v = C at *
          have j0 : (0 : Int) ≤ (j : Int) := by omega
          have jn : (j : Int) < (n : Int) := by omega
          clear h1 h2
          by_cases hvu : v ≤ u
          · rw [if_pos hvu] at hc
            go_wp2
            go_quiet (fail)
            go_wp2
            go_roundw
            case rel => exact ⟨j + 1, by omega, by go_num, by rw [hc.out]; go_num, below_drewN HJ.out _⟩
            case measure => simp [intOf]; omega
          · rw [if_neg hvu] at hc
            go_wp2
            go_quiet (fail)
            go_wp2
            go_roundw
            case rel => exact ⟨j + 1, by omega, by go_num, by rw [hc.out]; rfl, below_drewN HJ.out _⟩
            case measure => simp [intOf]; omega
        · obtain rfl : j = n := by omega
          have e1 : ps.take j = ps := List.take_of_length_le (by rw [HL.out]; exact Nat.le_refl _)
          rw [e1] at cb ⊢
          generalize cntGe ps v = C at *
          clear e1 cl
          by_cases h4 : 4 < C
          · rw [if_pos h4] at hov
            go_wp2
            go_roundw
            case rel => exact ⟨k + 1, by omega, by go_num, by rw [hov.out]; first | rfl | (congr 1; omega) | (congr 1; simp [Int.max_def]; omega), FB.out⟩
            case measure => simp [intOf]; omega
          · rw [if_neg h4] at hov
            go_wp2
            go_roundw
            case rel => exact ⟨k + 1, by omega, by go_num, by rw [hov.out], FB.out⟩
            case measure => simp [intOf]; omega
    · obtain rfl : k = n := by omega
      go_wp2
      go_ret
      exact ⟨ret_int (by unfold overV; rw [HL.out]), HB.out⟩

theorem l3Over_at (w : World) (v : Value) (ps : List Pr) (hp : Prs w v ps) (hn : ps.length ≤ 100) (hm : ∀ i, i < ps.length → 0 ≤ (pr ps i).2 ∧ (pr ps i).2 ≤ 100000) :
    Calls Try.prog 128 #[v] w fun e w' => e = .returned (.int .i64 (overV ps)) ∧ Below w.heap.size w w' := by
  obtain ⟨x, c, rfl, _, _⟩ := hp.form
  exact l3Over_in w x _ c ps rfl hp hn hm

end Go.Proofs.Ytnoilafoeaknjaa.T
