/-
  A pair that is put among others: the model's l3Put.
-/
import Derived.Test.YtmlimjdmnonmpaaTGet
import Derived.Deep.RegionLaw
import Derived.Deep.AppendLies
namespace Go.Proofs.Ytmlimjdmnonmpaa
open Go.RowKit Go.Sort

theorem cell_two_new (w : World) (x y : Value) (t : TypeId) : ∀ j u, [x, y][j]? = some u → (w.alloc (.cells #[x, y] t)).cell? ((⟨w.heap.size, 0, none⟩ : Addr).add j) = some u := by
  intro j u hj
  match j, hj with
  | 0, hj => simp at hj; subst hj; simp [Addr.add]
  | 1, hj => simp at hj; subst hj; simp [Addr.add]
theorem OwnP.drewN {w : World} {B : Nat} {v : Value} {ps : List Pr} (h : OwnP w B v ps) (n : Nat) : OwnP (w.drewN n) B v ps := h
theorem Prs.drewN {w : World} {v : Value} {ps : List Pr} (h : Prs w v ps) (n : Nat) : Prs (w.drewN n) v ps := h

theorem grownBy_of_drew' {w w' : World} {row : Option Nat} (h : w.drew.grownBy w' row) : w.grownBy w' row := ⟨h.os, h.tape, h.output, h.size, h.block⟩

/-- The pair x among pairs. -/
def putP : List Pr → Pr → List Pr
  | [], x => [x]
  | p :: ps, x => if p.1 < x.1 then p :: putP ps x else if p.1 = x.1 then (x.1, x.2 + p.2) :: ps else x :: p :: ps
/-- What is still to come, d telling that x stands already. -/
def toCome (ps : List Pr) (x : Pr) (d : Bool) : List Pr := if d then ps else putP ps x
theorem putP_len (ps : List Pr) (x : Pr) : (putP ps x).length ≤ ps.length + 1 := by
  induction ps with
  | nil => simp [putP]
  | cons p ps ih =>
    unfold putP
    split
    · simp; omega
    · split <;> simp
theorem drop_pr {ps : List Pr} {k : Nat} (h : k < ps.length) : ps.drop k = pr ps k :: ps.drop (k + 1) := by
  rw [List.drop_eq_getElem_cons h]; simp [pr, h]
theorem own_snocP {w : World} {B no : Nat} {v : Value} {os : List Pr} {t m : Int} (h : w.ownsRow B 29 2 v (no + 1) (prs os ++ [.int .i64 t, .int .i64 m])) (hn : no = os.length) : OwnP w B v (os ++ [(t, m)]) := by
  unfold OwnP
  rw [prs_snoc, List.length_append, ← hn]
  exact h
theorem below_appendP {B : Nat} {w wr w' : World} {o : Obj} {e : TypeId} {size : Nat} {v : Value} {n : Nat} {xs : List Value} (hb : Below B w wr) (hB : B ≤ wr.heap.size) (ho : wr.ownsRow B e size v n xs) (hg : (wr.alloc o).grownBy w' v.ownBlock) : Below B w w' :=
  (hb.alloc hB o).grown hg (Nat.le_trans hB (by simp)) (fun k e => (ho.lt k e).1)
theorem cell_appendP {B : Nat} {wr w' : World} {o : Obj} {e : TypeId} {size : Nat} {v u : Value} {n : Nat} {xs : List Value} {a : Addr} (hc : wr.cell? a = some u) (ha : a.block < B) (ho : wr.ownsRow B e size v n xs) (hg : (wr.alloc o).grownBy w' v.ownBlock) : w'.cell? a = some u :=
  hg.cell ((World.cell?_alloc_lt (h := World.block_lt_of_cell? _ _ hc) ..).trans hc) (fun h => by have := (ho.lt _ h.symm).1; omega)

set_option maxHeartbeats 8000000 in
theorem l3Put_in (w : World) (x : Option Addr) (n c : Nat) (ps : List Pr) (t m : Int) (hl : ps.length = n) (hp : Prs w (.slice x n c) ps) (hn : n ≤ 100) (hm : ∀ i, i < n → 0 ≤ (pr ps i).2 ∧ (pr ps i).2 ≤ 100000) (m0 : 0 ≤ m) (m1 : m ≤ 100000) :
    Calls Try.prog 38 #[.slice x n c, .agg #[.int .i64 t, .int .i64 m]] w fun e w' => ∃ v, e = .returned v ∧ OwnP w' w.heap.size v (putP ps (t, m)) ∧ Below w.heap.size w w' := by
  obtain ⟨i0, hi, hz0, hz1, hz2⟩ := info_parts pair_info
  have HP := Lib.hid hp.cells
  have HL := Lib.hid hl
  have HM := Lib.hid hm
  have hA := (Below.refl w.heap.size w).alloc (Nat.le_refl _) (.cells #[.int .i64 t, .int .i64 m] 29)
  have HA := Lib.hid hA
  have C0 : Hid ((w.alloc (.cells #[.int .i64 t, .int .i64 m] 29)).cell? ⟨w.heap.size, 0, none⟩ = some (.int .i64 t)) := by show _ = _; simp
  have C1 : Hid ((w.alloc (.cells #[.int .i64 t, .int .i64 m] 29)).cell? ⟨w.heap.size, 1, none⟩ = some (.int .i64 m)) := by show _ = _; simp
  have E0 : Hid (OwnP ((w.alloc (.cells #[.int .i64 t, .int .i64 m] 29)).alloc (.cells #[] 29)) (w.heap.size + 1) (.slice (some ⟨w.heap.size + 1, 0, none⟩) 0 0) []) := by
    have h := pair_empty (w.alloc (.cells #[.int .i64 t, .int .i64 m] 29)) (w.heap.size + 1) (by simp)
    have e : (w.alloc (.cells #[.int .i64 t, .int .i64 m] 29)).heap.size = w.heap.size + 1 := by simp
    rw [e] at h
    exact h
  clear hl hp hm hA
  go_enter Try.func38, Try.ntmps38
  go_wp2
  go_loopw [5, 6, 7] (fun u d i wr => ∃ (k : Nat) (dn : Bool) (os : List Pr), k ≤ n ∧ i = .int .i64 k ∧ d = .bool dn ∧ os.length ≤ k + dn.toNat ∧ OwnP wr (w.heap.size + 1) u os ∧ os ++ toCome (ps.drop k) (t, m) dn = putP ps (t, m) ∧ Below (w.heap.size + 1) (w.alloc (.cells #[.int .i64 t, .int .i64 m] 29)) wr) (fun _ _ i _ => n - (intOf i).toNat)
  case atStart => exact ⟨0, false, [], Nat.zero_le _, rfl, rfl, Nat.zero_le _, E0.out, rfl, (Below.refl _ _).alloc (by simp) _⟩
  case round =>
    obtain ⟨k, dn, os, hk, rfl, rfl, hos, hown, hput, hbl⟩ := hrel
    obtain ⟨y, cp, hu, _, _⟩ := hown.form
    obtain ⟨no, hno⟩ : ∃ no, no = os.length := ⟨_, rfl⟩
    have hdn : dn.toNat ≤ 1 := by cases dn <;> simp
    have hno2 : no ≤ 200 := by omega
    clear hdn
    rw [← hno] at hu
    subst hu
    have HN := Lib.hid hno
    have HPT := Lib.hid hput
    have HB := Lib.hid hbl
    have hsz := hbl.size
    simp only [World.size_alloc] at hsz
    have ho : wr.ownsRow (w.heap.size + 1) 29 2 (.slice y no cp) no (prs os) := by have h := hown; unfold OwnP at h; rw [← hno] at h; exact h
    have HO := Lib.hid ho
    have b0 : wr.cell? ⟨w.heap.size, 0, none⟩ = some (.int .i64 t) := (hbl.cell (p := ⟨w.heap.size, 0, none⟩) (by simp)).trans C0.out
    have b1 : wr.cell? ⟨w.heap.size, 1, none⟩ = some (.int .i64 m) := (hbl.cell (p := ⟨w.heap.size, 1, none⟩) (by simp)).trans C1.out
    have hlt1 : w.heap.size < w.heap.size + 1 := Nat.lt_succ_self _
    clear hput hbl hown hno ho
    by_cases hlt : k < n
    · obtain ⟨b, o, rfl, hb, h1, h2⟩ := HP.out k (by rw [HL.out]; exact hlt)
      have tr : ∀ j v, w.cell? ⟨b, j, none⟩ = some v → wr.cell? ⟨b, j, none⟩ = some v := fun j v h => by
        rw [HB.out.cell (p := ⟨b, j, none⟩) (by show b < _; omega), HA.out.cell (p := ⟨b, j, none⟩) hb]; exact h
      replace h1 := tr _ _ h1
      replace h2 := tr _ _ h2
      have hb1 : b < w.heap.size + 1 := by omega
      have hd := drop_pr (ps := ps) (k := k) (by rw [HL.out]; exact hlt)
      have hmm := HM.out k hlt
      have H200 : no ≤ 200 := hno2
      generalize pr ps k = q at h1 h2 hd hmm
      obtain ⟨t', m'⟩ := q
      simp only at h1 h2 hmm
      rw [hd] at HPT
      obtain ⟨mm0, mm1⟩ := hmm
      clear hd tr
      have k0 : (0 : Int) ≤ (k : Int) := by omega
      have kn : (k : Int) < (n : Int) := by omega
      cases dn with
      | true =>
        have hos1 : os.length ≤ k + 1 := hos
        clear hos
        go_wp2
        go_quiet (fail)
        obtain ⟨wq, hwq⟩ : ∃ wq, wq = wr.drewN nq := ⟨_, rfl⟩
        have HOq : Hid (wq.ownsRow (w.heap.size + 1) 29 2 (.slice y no cp) no (prs os)) := by rw [hwq]; exact HO.out
        have HBq : Hid (Below (w.heap.size + 1) (w.alloc (.cells #[.int .i64 t, .int .i64 m] 29)) wq) := by rw [hwq]; exact below_drewN HB.out _
        have hszq : w.heap.size + 1 ≤ wq.heap.size := by rw [hwq]; exact hsz
        have h1q : wq.cell? ⟨b, o + k * 2, none⟩ = some (.int .i64 t') := by rw [hwq]; exact h1
        have h2q : wq.cell? ⟨b, o + k * 2 + 1, none⟩ = some (.int .i64 m') := by rw [hwq]; exact h2
        have b0q : wq.cell? ⟨w.heap.size, 0, none⟩ = some (.int .i64 t) := by rw [hwq]; exact b0
        have b1q : wq.cell? ⟨w.heap.size, 1, none⟩ = some (.int .i64 m) := by rw [hwq]; exact b1
        rw [← hwq]
        clear hwq h1 h2 b0 b1 HO HB hsz
        go_wp2_with (first | (at_builtin; refine wpList_append_own _ rfl _ _ 23 rfl (w.heap.size + 1) 29 i0 (.agg #[.int .i64 0, .int .i64 0]) 2 16 Try.underlying23 hi hz0 hz1 hz2 rfl (by decide) _ _ _ rfl (HOq.out.alloc _) ⟨wq.heap.size, 0, none⟩ 1 1 [.int .i64 t', .int .i64 m'] rfl rfl (cell_two_new _ _ _ _) (by simp [Value.oneCell']) (by unfold maxLen; omega) (by omega) (by simp; omega) ?_; intro v1 w1 ho1 hg1 _; obtain ⟨g_v1, c_v1, rfl, _, _⟩ := World.ownsRow.form ho1 (Nat.succ_pos _)))
        go_roundw
        case rel => exact ⟨k + 1, true, os ++ [(t', m')], by omega, by go_num, rfl, by simp; omega, own_snocP ho1 HN.out, by rw [← HPT.out]; simp [toCome], below_appendP HBq.out hszq HOq.out hg1⟩
        case measure => simp [intOf]; omega
      | false =>
        have hos1 : os.length ≤ k := hos
        clear hos
        by_cases hlt2 : t' < t
        · have hD : decide (t ≤ t') = false := decide_eq_false (by omega)
          go_wp2
          go_quiet (fail)
          obtain ⟨wq, hwq⟩ : ∃ wq, wq = wr.drewN nq := ⟨_, rfl⟩
          have HOq : Hid (wq.ownsRow (w.heap.size + 1) 29 2 (.slice y no cp) no (prs os)) := by rw [hwq]; exact HO.out
          have HBq : Hid (Below (w.heap.size + 1) (w.alloc (.cells #[.int .i64 t, .int .i64 m] 29)) wq) := by rw [hwq]; exact below_drewN HB.out _
          have hszq : w.heap.size + 1 ≤ wq.heap.size := by rw [hwq]; exact hsz
          have h1q : wq.cell? ⟨b, o + k * 2, none⟩ = some (.int .i64 t') := by rw [hwq]; exact h1
          have h2q : wq.cell? ⟨b, o + k * 2 + 1, none⟩ = some (.int .i64 m') := by rw [hwq]; exact h2
          have b0q : wq.cell? ⟨w.heap.size, 0, none⟩ = some (.int .i64 t) := by rw [hwq]; exact b0
          have b1q : wq.cell? ⟨w.heap.size, 1, none⟩ = some (.int .i64 m) := by rw [hwq]; exact b1
          rw [← hwq]
          clear hwq h1 h2 b0 b1 HO HB hsz
          go_wp2_with (first | (at_builtin; refine wpList_append_own _ rfl _ _ 23 rfl (w.heap.size + 1) 29 i0 (.agg #[.int .i64 0, .int .i64 0]) 2 16 Try.underlying23 hi hz0 hz1 hz2 rfl (by decide) _ _ _ rfl (HOq.out.alloc _) ⟨wq.heap.size, 0, none⟩ 1 1 [.int .i64 t', .int .i64 m'] rfl rfl (cell_two_new _ _ _ _) (by simp [Value.oneCell']) (by unfold maxLen; omega) (by omega) (by simp; omega) ?_; intro v1 w1 ho1 hg1 _; obtain ⟨g_v1, c_v1, rfl, _, _⟩ := World.ownsRow.form ho1 (Nat.succ_pos _)))
          go_roundw
          case rel => exact ⟨k + 1, false, os ++ [(t', m')], by omega, by go_num, rfl, by simp; omega, own_snocP ho1 HN.out, by rw [← HPT.out]; simp [toCome, putP, hlt2], below_appendP HBq.out hszq HOq.out hg1⟩
          case measure => simp [intOf]; omega
        · have hD : decide (t ≤ t') = true := decide_eq_true (by omega)
          by_cases he : t' = t
          · have he' := he.symm
            subst he'
            go_wp2
            go_quiet (fail)
            obtain ⟨wq, hwq⟩ : ∃ wq, wq = wr.drewN nq := ⟨_, rfl⟩
            have HOq : Hid (wq.ownsRow (w.heap.size + 1) 29 2 (.slice y no cp) no (prs os)) := by rw [hwq]; exact HO.out
            have HBq : Hid (Below (w.heap.size + 1) (w.alloc (.cells #[.int .i64 t, .int .i64 m] 29)) wq) := by rw [hwq]; exact below_drewN HB.out _
            have hszq : w.heap.size + 1 ≤ wq.heap.size := by rw [hwq]; exact hsz
            have h1q : wq.cell? ⟨b, o + k * 2, none⟩ = some (.int .i64 t) := by rw [hwq]; exact h1
            have h2q : wq.cell? ⟨b, o + k * 2 + 1, none⟩ = some (.int .i64 m') := by rw [hwq]; exact h2
            have b0q : wq.cell? ⟨w.heap.size, 0, none⟩ = some (.int .i64 t) := by rw [hwq]; exact b0
            have b1q : wq.cell? ⟨w.heap.size, 1, none⟩ = some (.int .i64 m) := by rw [hwq]; exact b1
            rw [← hwq]
            clear hwq h1 h2 b0 b1 HO HB hsz
            have ws : IntKind.i64.wrap (m + m') = m + m' := IntWalk.i64_in _ (by omega)
            go_wp2
            go_quiet (fail)
            obtain ⟨w3, hw3⟩ : ∃ w3, w3 = wq.drewN nq := ⟨_, rfl⟩
            have HO3 : Hid (w3.ownsRow (w.heap.size + 1) 29 2 (.slice y no cp) no (prs os)) := by rw [hw3]; exact HOq.out
            have HB3 : Hid (Below (w.heap.size + 1) (w.alloc (.cells #[.int .i64 t, .int .i64 m] 29)) w3) := by rw [hw3]; exact below_drewN HBq.out _
            have hsz3 : w.heap.size + 1 ≤ w3.heap.size := by rw [hw3]; exact hszq
            have h2r : w3.cell? ⟨b, o + k * 2 + 1, none⟩ = some (.int .i64 m') := by rw [hw3]; exact h2q
            have b0r : w3.cell? ⟨w.heap.size, 0, none⟩ = some (.int .i64 t) := by rw [hw3]; exact b0q
            have b1r : w3.cell? ⟨w.heap.size, 1, none⟩ = some (.int .i64 m) := by rw [hw3]; exact b1q
            rw [← hw3]
            clear hw3 h1q h2q b0q b1q HOq HBq hszq
            go_wp2_with fail
            go_region_law ((refine step_append_lies _ (by rfl) _ _ _ (by rfl) (w.heap.size + 1) 29 i0 _ 2 16 Try.underlying23 hi hz0 hz1 hz2 rfl (by decide) (.slice y no cp) no (prs os) (by rfl) ((HO3.out.alloc _).drew) ⟨w3.heap.size, 0, none⟩ 1 1 [.int .i64 t, .int .i64 (m + m')] (by rfl) (by rfl) (World.news_of_block (cs := #[.int .i64 t, .int .i64 (m + m')]) (t := 29) (fr := (0, 0)) (heap_alloc_new w3 _)) (by simp [Value.oneCell']) (by omega) (by unfold maxLen; omega) (by omega) (by simp; omega) (w3.heap.size + 1) (by simp) ?_; intro g1 cap1 w4 hown4 hgrow4 hat4 hlt4))
            all_goals
              have hg5 : (w3.alloc (.cells #[.int .i64 t, .int .i64 (m + m')] 29)).grownBy w4 (Value.slice y no cp).ownBlock := grownBy_of_drew' hgrow4
              go_wp2
              go_roundw
              case rel => exact ⟨k + 1, true, os ++ [(t, m + m')], by omega, by go_num, rfl, by simp; omega, own_snocP hown4 HN.out, by rw [← HPT.out]; simp [toCome, putP], below_appendP HB3.out hsz3 HO3.out hg5⟩
              case measure => simp [intOf]; omega
          · have he1 : (t' == t) = false := by simpa using he
            have he2 : decide (t' = t) = false := by simpa using he
            go_wp2
            go_quiet (fail)
            obtain ⟨wq, hwq⟩ : ∃ wq, wq = wr.drewN nq := ⟨_, rfl⟩
            have HOq : Hid (wq.ownsRow (w.heap.size + 1) 29 2 (.slice y no cp) no (prs os)) := by rw [hwq]; exact HO.out
            have HBq : Hid (Below (w.heap.size + 1) (w.alloc (.cells #[.int .i64 t, .int .i64 m] 29)) wq) := by rw [hwq]; exact below_drewN HB.out _
            have hszq : w.heap.size + 1 ≤ wq.heap.size := by rw [hwq]; exact hsz
            have h1q : wq.cell? ⟨b, o + k * 2, none⟩ = some (.int .i64 t') := by rw [hwq]; exact h1
            have h2q : wq.cell? ⟨b, o + k * 2 + 1, none⟩ = some (.int .i64 m') := by rw [hwq]; exact h2
            have b0q : wq.cell? ⟨w.heap.size, 0, none⟩ = some (.int .i64 t) := by rw [hwq]; exact b0
            have b1q : wq.cell? ⟨w.heap.size, 1, none⟩ = some (.int .i64 m) := by rw [hwq]; exact b1
            rw [← hwq]
            clear hwq h1 h2 b0 b1 HO HB hsz
            go_wp2
            go_quiet (fail)
            obtain ⟨w3, hw3⟩ : ∃ w3, w3 = wq.drewN nq := ⟨_, rfl⟩
            have HO3 : Hid (w3.ownsRow (w.heap.size + 1) 29 2 (.slice y no cp) no (prs os)) := by rw [hw3]; exact HOq.out
            have HB3 : Hid (Below (w.heap.size + 1) (w.alloc (.cells #[.int .i64 t, .int .i64 m] 29)) w3) := by rw [hw3]; exact below_drewN HBq.out _
            have hsz3 : w.heap.size + 1 ≤ w3.heap.size := by rw [hw3]; exact hszq
            have h1r : w3.cell? ⟨b, o + k * 2, none⟩ = some (.int .i64 t') := by rw [hw3]; exact h1q
            have h2r : w3.cell? ⟨b, o + k * 2 + 1, none⟩ = some (.int .i64 m') := by rw [hw3]; exact h2q
            have b0r : w3.cell? ⟨w.heap.size, 0, none⟩ = some (.int .i64 t) := by rw [hw3]; exact b0q
            have b1r : w3.cell? ⟨w.heap.size, 1, none⟩ = some (.int .i64 m) := by rw [hw3]; exact b1q
            rw [← hw3]
            clear hw3 h1q h2q b0q b1q HOq HBq hszq
            go_wp2_with (first | (at_builtin; refine wpList_append_own _ rfl _ _ 23 rfl (w.heap.size + 1) 29 i0 (.agg #[.int .i64 0, .int .i64 0]) 2 16 Try.underlying23 hi hz0 hz1 hz2 rfl (by decide) _ _ _ rfl (HO3.out.alloc _) ⟨w3.heap.size, 0, none⟩ 1 1 [.int .i64 t, .int .i64 m] rfl rfl (cell_two_new _ _ _ _) (by simp [Value.oneCell']) (by unfold maxLen; omega) (by omega) (by simp; omega) ?_; intro v1 w1 ho1 hg1 _; obtain ⟨g_v1, c_v1, rfl, _, _⟩ := World.ownsRow.form ho1 (Nat.succ_pos _); have c_1 := cell_appendP h1r hb1 HO3.out hg1; have c_2 := cell_appendP h2r hb1 HO3.out hg1; have sz1 := hg1.size; simp only [World.size_alloc] at sz1; clear h1r h2r) | (at_builtin; refine wpList_append_own _ rfl _ _ 23 rfl (w.heap.size + 1) 29 i0 (.agg #[.int .i64 0, .int .i64 0]) 2 16 Try.underlying23 hi hz0 hz1 hz2 rfl (by decide) _ _ _ rfl (ho1.alloc _) ⟨w1.heap.size, 0, none⟩ 1 1 [.int .i64 t', .int .i64 m'] rfl rfl (cell_two_new _ _ _ _) (by simp [Value.oneCell']) (by unfold maxLen; omega) (by omega) (by simp; omega) ?_; intro v2 w2 ho2 hg2 _; obtain ⟨g_v2, c_v2, rfl, _, _⟩ := World.ownsRow.form ho2 (Nat.succ_pos _)))
            have o1 := own_snocP ho1 HN.out
            have o2 := own_snocP (os := os ++ [(t, m)]) (by have h := ho2; rw [show prs os ++ [Value.int .i64 t, Value.int .i64 m] = prs (os ++ [(t, m)]) from (prs_snoc os (t, m)).symm] at h; exact h) (by simp; exact HN.out)
            have e2 : toCome ((t', m') :: ps.drop (k + 1)) (t, m) false = [(t, m)] ++ [(t', m')] ++ ps.drop (k + 1) := by simp [toCome, putP, he, hlt2]
            rw [e2] at HPT
            have B1 := below_appendP HB3.out hsz3 HO3.out hg1
            have B2 := below_appendP B1 (by omega) ho1 hg2
            clear e2 B1
            go_roundw
            case rel => exact ⟨k + 1, true, os ++ [(t, m)] ++ [(t', m')], by omega, by go_num, rfl, by simp; omega, o2, by rw [← HPT.out]; simp [toCome], B2⟩
            case measure => simp [intOf]; omega
    · have hd0 : ps.drop k = [] := List.drop_of_length_le (by rw [HL.out]; omega)
      rw [hd0] at HPT
      clear hd0
      cases dn with
      | true =>
        go_wp2
        go_ret
        refine ⟨_, rfl, ?_, HA.out.trans (HB.out.mono (Nat.le_succ _))⟩
        have e : putP ps (t, m) = os := by rw [← HPT.out]; simp [toCome]
        rw [e]
        have ho := HO.out
        rw [HN.out] at ho ⊢
        exact ownsRow_base ho (Nat.le_succ _)
      | false =>
        go_wp2_with (first | (at_builtin; refine wpList_append_own _ rfl _ _ 23 rfl (w.heap.size + 1) 29 i0 (.agg #[.int .i64 0, .int .i64 0]) 2 16 Try.underlying23 hi hz0 hz1 hz2 rfl (by decide) _ _ _ rfl (HO.out.alloc _) ⟨wr.heap.size, 0, none⟩ 1 1 [.int .i64 t, .int .i64 m] rfl rfl (cell_two_new _ _ _ _) (by simp [Value.oneCell']) (by unfold maxLen; omega) (by omega) (by simp; omega) ?_; intro v1 w1 ho1 hg1 _; obtain ⟨g_v1, c_v1, rfl, _, _⟩ := World.ownsRow.form ho1 (Nat.succ_pos _)))
        go_ret
        refine ⟨_, rfl, ?_, HA.out.trans ((below_appendP HB.out hsz HO.out hg1).mono (Nat.le_succ _))⟩
        have e : putP ps (t, m) = os ++ [(t, m)] := by rw [← HPT.out]; simp [toCome, putP]
        rw [e]
        exact (own_snocP ho1 HN.out).base (Nat.le_succ _)

theorem l3Put_at (w : World) (v : Value) (ps : List Pr) (t m : Int) (hp : Prs w v ps) (hn : ps.length ≤ 100) (hm : ∀ i, i < ps.length → 0 ≤ (pr ps i).2 ∧ (pr ps i).2 ≤ 100000) (m0 : 0 ≤ m) (m1 : m ≤ 100000) :
    Calls Try.prog 38 #[v, .agg #[.int .i64 t, .int .i64 m]] w fun e w' => ∃ v, e = .returned v ∧ OwnP w' w.heap.size v (putP ps (t, m)) ∧ Below w.heap.size w w' := by
  obtain ⟨x, c, rfl, _, _⟩ := hp.form
  exact l3Put_in w x _ c ps t m rfl hp hn hm m0 m1

end Go.Proofs.Ytmlimjdmnonmpaa
