/-
  Several texts in one: TLess, TSpAdd.
-/
import Derived.Test.YtnoilafoeaknjaaTa
set_option linter.unusedVariables false
/-
  What is left when so much is taken from each: the model's l3Less, and l3Cut.
-/
namespace Go.Proofs.Ytnoilafoeaknjaa.T
open Go.RowKit Go.Sort

/-- So much less of each, without those that have nothing then. -/
def lessV : List Pr → Int → List Pr
  | [], _ => []
  | p :: ps, n => if n < p.2 then (p.1, p.2 - n) :: lessV ps n else lessV ps n
theorem lessV_append (ps qs : List Pr) (n : Int) : lessV (ps ++ qs) n = lessV ps n ++ lessV qs n := by
  induction ps with
  | nil => rfl
  | cons p ps ih =>
    simp only [List.cons_append, lessV]
    split <;> simp [ih]
theorem lessV_len (ps : List Pr) (n : Int) : (lessV ps n).length ≤ ps.length := by
  induction ps with
  | nil => simp [lessV]
  | cons p ps ih => unfold lessV; split <;> simp <;> omega
theorem lessV_succ (ps : List Pr) (k : Nat) (n : Int) (h : k < ps.length) : lessV (ps.take (k + 1)) n = lessV (ps.take k) n ++ if n < (pr ps k).2 then [((pr ps k).1, (pr ps k).2 - n)] else [] := by
  rw [take_succ_pr ps k h, lessV_append]
  simp only [lessV]

set_option maxHeartbeats 4000000 in
theorem l3Less_in (w : World) (x : Option Addr) (n c : Nat) (ps : List Pr) (m : Int) (hl : ps.length = n) (hp : Prs w (.slice x n c) ps) (hn : n ≤ 100) (hm : ∀ i, i < n → 0 ≤ (pr ps i).2 ∧ (pr ps i).2 ≤ 100000) (m0 : 0 ≤ m) (m1 : m ≤ 100000) :
    Calls Try.prog 129 #[.slice x n c, .int .i64 m] w fun e w' => ∃ v, e = .returned v ∧ OwnP w' w.heap.size v (lessV ps m) ∧ Below w.heap.size w w' := by
  obtain ⟨i0, hi, hz0, hz1, hz2⟩ := info_parts pair_info
  have HP := Lib.hid hp.cells
  have HL := Lib.hid hl
  have HM := Lib.hid hm
  have E0 := Lib.hid (pair_empty w w.heap.size (Nat.le_refl _))
  clear hl hp hm
  go_enter Try.func129, Try.ntmps129
  go_wp2
  go_loopw [5, 6] (fun u i wr => ∃ (k : Nat) (os : List Pr), k ≤ n ∧ i = .int .i64 k ∧ os = lessV (ps.take k) m ∧ OwnP wr w.heap.size u os ∧ Below w.heap.size w wr) (fun _ i _ => n - (intOf i).toNat)
  case atStart => exact ⟨0, [], Nat.zero_le _, rfl, by simp [lessV], E0.out, (Below.refl _ _).alloc (Nat.le_refl _) _⟩
  case round =>
    obtain ⟨k, os, hk, rfl, hos, hown, hbl⟩ := hrel
    obtain ⟨y, cp, hu, _, _⟩ := hown.form
    obtain ⟨no, hno⟩ : ∃ no, no = os.length := ⟨_, rfl⟩
    have hno2 : no ≤ 200 := by have := lessV_len (ps.take k) m; rw [hno, hos]; have := HL.out; simp at *; omega
    rw [← hno] at hu
    subst hu
    have HOS := Lib.hid hos
    have HN := Lib.hid hno
    have HB := Lib.hid hbl
    have hsz := hbl.size
    have ho : wr.ownsRow w.heap.size 83 2 (.slice y no cp) no (prs os) := by have h := hown; unfold OwnP at h; rw [← hno] at h; exact h
    have HO := Lib.hid ho
    clear hbl hown hno ho hos
    by_cases hlt : k < n
    · obtain ⟨b, o, rfl, hb, h1, h2⟩ := HP.out k (by rw [HL.out]; exact hlt)
      replace h1 := (HB.out.cell (p := ⟨b, o + k * 2, none⟩) hb).trans h1
      replace h2 := (HB.out.cell (p := ⟨b, o + k * 2 + 1, none⟩) hb).trans h2
      have hs := Lib.hid (lessV_succ ps k m (by rw [HL.out]; exact hlt))
      have hmm := HM.out k hlt
      generalize pr ps k = q at h1 h2 hs hmm
      obtain ⟨t', m'⟩ := q
      simp only at h1 h2 hmm
      have k0 : (0 : Int) ≤ (k : Int) := by omega
      have kn : (k : Int) < (n : Int) := by omega
      by_cases hlm : m < m'
      · rw [if_pos (by exact hlm)] at hs
        have ws : IntKind.i64.wrap (m' - m) = m' - m := IntWalk.i64_in _ (by omega)
        go_wp2_with fail
        go_region_law ((refine step_append_lies _ (by rfl) _ _ _ (by rfl) w.heap.size 83 i0 _ 2 16 Try.underlying29 hi hz0 hz1 hz2 rfl (by decide) (.slice y no cp) no (prs os) (by rfl) ((HO.out.alloc _).drew) ⟨wr.heap.size, 0, none⟩ 1 1 [.int .i64 t', .int .i64 (m' - m)] (by rfl) (by rfl) (World.news_of_block (cs := #[.int .i64 t', .int .i64 (m' - m)]) (t := 83) (fr := (0, 0)) (heap_alloc_new wr _)) (by simp [Value.oneCell']) (by omega) (by unfold maxLen; omega) (by omega) (by simp; omega) (wr.heap.size + 1) (by simp) ?_; intro g1 cap1 w4 hown4 hgrow4 hat4 hlt4))
        all_goals
          have hg5 : (wr.alloc (.cells #[.int .i64 t', .int .i64 (m' - m)] 83)).grownBy w4 (Value.slice y no cp).ownBlock := grownBy_of_drew' hgrow4
          go_wp2
          go_roundw
          case rel => exact ⟨k + 1, os ++ [(t', m' - m)], by omega, by go_num, by rw [hs.out, HOS.out], own_snocP hown4 HN.out, below_appendP HB.out hsz HO.out hg5⟩
          case measure => simp [intOf]; omega
      · rw [if_neg (by exact hlm)] at hs
        go_wp2
        go_roundw
        case rel => exact ⟨k + 1, os, by omega, by go_num, by rw [hs.out, HOS.out, List.append_nil], by have h := HO.out; rw [HN.out] at h ⊢; exact h, HB.out⟩
        case measure => simp [intOf]; omega
    · obtain rfl : k = n := by omega
      have e1 : lessV ps m = os := by rw [HOS.out, List.take_of_length_le (by rw [HL.out]; exact Nat.le_refl _)]
      have E1 := Lib.hid e1
      clear e1
      go_wp2
      go_ret
      exact ⟨_, rfl, by rw [E1.out]; have h := HO.out; rw [HN.out] at h ⊢; exact h, HB.out⟩

theorem l3Less_at (w : World) (v : Value) (ps : List Pr) (m : Int) (hp : Prs w v ps) (hn : ps.length ≤ 100) (hm : ∀ i, i < ps.length → 0 ≤ (pr ps i).2 ∧ (pr ps i).2 ≤ 100000) (m0 : 0 ≤ m) (m1 : m ≤ 100000) :
    Calls Try.prog 129 #[v, .int .i64 m] w fun e w' => ∃ v, e = .returned v ∧ OwnP w' w.heap.size v (lessV ps m) ∧ Below w.heap.size w w' := by
  obtain ⟨x, c, rfl, _, _⟩ := hp.form
  exact l3Less_in w x _ c ps m rfl hp hn hm m0 m1

set_option maxHeartbeats 4000000 in
theorem l3Cut_at (w : World) (u : Value) (ps : List Pr) (lost all : Int) (hp : Prs w u ps) (hn : ps.length ≤ 100) (hm : ∀ i, i < ps.length → 0 ≤ (pr ps i).2 ∧ (pr ps i).2 ≤ 100000) (m0 : 0 ≤ lost) (m1 : lost ≤ 100000) :
    Calls Try.prog 127 #[.agg #[u, .int .i64 lost, .int .i64 all]] w fun e w' => ∃ v, e = .returned (.agg #[v, .int .i64 (lost + overV ps), .int .i64 all]) ∧ OwnP w' w.heap.size v (lessV ps (overV ps)) ∧ Below w.heap.size w w' := by
  have hA := ((Below.refl w.heap.size w).alloc (Nat.le_refl _) (.cells #[u, .int .i64 lost, .int .i64 all] 31)).alloc (by simp) (.cells #[.slice none 0 0, .int .i64 0, .int .i64 0] 31)
  have HA := Lib.hid hA
  have I0 := Lib.hid (hp.below hA (Nat.le_refl _))
  have K := Lib.hid (l3Over_at _ u ps I0.out hn hm)
  have ob := overV_bd (M := 100000) (by omega) hm
  obtain ⟨ov, hov⟩ : ∃ ov, ov = overV ps := ⟨_, rfl⟩
  rw [← hov] at K ob ⊢
  have KL : Hid (∀ W, Prs W u ps → Calls Try.prog 129 #[u, .int .i64 ov] W fun e w' => ∃ v, e = .returned v ∧ OwnP w' W.heap.size v (lessV ps ov) ∧ Below W.heap.size W w') := fun W hW => l3Less_at W u ps ov hW hn hm ob.1 ob.2
  obtain ⟨x, c, hu, _, _⟩ := hp.form
  obtain ⟨n, hn'⟩ : ∃ n, n = ps.length := ⟨_, rfl⟩
  rw [← hn'] at hu
  subst hu
  have K0 := Lib.hid (K.out)
  obtain ⟨W0, hW0⟩ : ∃ W0, W0 = (w.alloc (.cells #[.slice x n c, .int .i64 lost, .int .i64 all] 31)).alloc (.cells #[.slice none 0 0, .int .i64 0, .int .i64 0] 31) := ⟨_, rfl⟩
  have X0 : Box3 W0 w.heap.size 31 (.slice x n c) (.int .i64 lost) (.int .i64 all) := by rw [hW0]; exact (Box3.new _ _ _ _ _).alloc _
  have R0 : Box3 W0 (w.heap.size + 1) 31 (.slice none 0 0) (.int .i64 0) (.int .i64 0) := by
    have h := Box3.new (w.alloc (.cells #[.slice x n c, .int .i64 lost, .int .i64 all] 31)) 31 (.slice none 0 0) (.int .i64 0) (.int .i64 0)
    rw [hW0]
    simpa using h
  rw [← hW0] at K HA I0
  have HW0 := Lib.hid hW0
  have x0 := X0.cell0
  have x1 := X0.cell1
  have x2 := X0.cell2
  clear hA hW0 hov hn' hp hm K0
  go_enter Try.func127, Try.ntmps127
  go_wp2_with fail
  rw [← HW0.out]
  go_wp2_with fail
  refine K.out.mono ?_
  rintro e w1 ⟨rfl, hb1⟩
  have X1 := X0.later hb1
  have R1 := R0.later hb1
  have B1 := Lib.hid (HA.out.trans (hb1.mono HA.out.size))
  have I1 := Lib.hid (I0.out.below hb1 (Nat.le_refl _))
  clear hb1 X0 R0 x0 x1 x2 K HA I0
  have x0 := X1.cell0
  have x1 := X1.cell1
  have x2 := X1.cell2
  have ws : IntKind.i64.wrap (lost + ov) = lost + ov := IntWalk.i64_in _ (by omega)
  have KD : Hid (Calls Try.prog 129 #[.slice x n c, .int .i64 ov] w1.drew fun e w' => ∃ v, e = .returned v ∧ OwnP w' w1.drew.heap.size v (lessV ps ov) ∧ Below w1.drew.heap.size w1.drew w') := KL.out w1.drew I1.out
  go_wp2_with fail
  go_region_with (first | (go_at_call 129; refine KD.out.mono ?_; rintro e w2 ⟨v, rfl, ho2, hb2⟩; obtain ⟨xv, cv, rfl, _, _⟩ := ho2.form; have X2 := X1.drew.later hb2; have y0 := X2.cell0; have y1 := X2.cell1; have y2 := X2.cell2; have R2 := R1.drew.later hb2; have f2 := R2.free; have z0 := R2.cell0; have z1 := R2.cell1; have z2 := R2.cell2))
  all_goals
    have RZ := R2.set (.slice xv (lessV ps ov).length cv) (.int .i64 (lost + ov)) (.int .i64 all)
    have hr0 := RZ.cell0
    have hr1 := RZ.cell1
    have hr2 := RZ.cell2
    have OZ := Lib.hid (((ho2.set3 (R2.not_row (by decide) ho2) (.slice xv (lessV ps ov).length cv) (.int .i64 (lost + ov)) (.int .i64 all))).base (B' := w.heap.size) (by have := B1.out.size; simpa using this))
    have BZ := Lib.hid (below_set3 (b := w.heap.size + 1) ((B1.out.trans (Below.drew (Below.refl _ _))).trans (hb2.mono (by have := B1.out.size; simpa using this))) (Nat.le_succ _) (.slice xv (lessV ps ov).length cv) (.int .i64 (lost + ov)) (.int .i64 all))
    clear ho2 hb2 X2 R2 RZ y0 y1 y2 f2 z0 z1 z2
    go_wp2
    exact bodyPost_ret (v := .agg #[.slice xv (lessV ps ov).length cv, .int .i64 (lost + ov), .int .i64 all]) (by simp [results, Try.results127, go_sem, hr0, hr1, hr2]) rfl ⟨_, rfl, OZ.out, BZ.out⟩

end Go.Proofs.Ytnoilafoeaknjaa.T

/-
  Counted once: the model's TopAdd.
-/
namespace Go.Proofs.Ytnoilafoeaknjaa.T
open Go.RowKit Go.Sort

def BdP (M : Int) (ps : List Pr) : Prop := ∀ p ∈ ps, 0 ≤ p.2 ∧ p.2 ≤ M
theorem BdP.at {M : Int} {ps : List Pr} (h : BdP M ps) : ∀ i, i < ps.length → 0 ≤ (pr ps i).2 ∧ (pr ps i).2 ≤ M := fun _ hi => h _ (pr_mem hi)
theorem BdP.mono {M N : Int} {ps : List Pr} (h : BdP M ps) (hM : M ≤ N) : BdP N ps := fun p hp => by have := h p hp; omega
theorem BdP.put {M : Int} {ps : List Pr} {x : Pr} (h : BdP M ps) (hM : 0 ≤ M) (hx : 0 ≤ x.2) : BdP (M + x.2) (putP ps x) := by
  induction ps with
  | nil => intro p hp; simp [putP] at hp; subst hp; omega
  | cons q ps ih =>
    have hq := h q (by simp)
    have ht : BdP M ps := fun p hp => h p (by simp [hp])
    intro p hp
    unfold putP at hp
    split at hp
    · rcases List.mem_cons.1 hp with rfl | hp
      · omega
      · exact ih ht p hp
    · split at hp
      · rcases List.mem_cons.1 hp with rfl | hp
        · exact ⟨by simp; omega, by simp; omega⟩
        · have := ht p hp; omega
      · rcases List.mem_cons.1 hp with rfl | hp
        · omega
        · rcases List.mem_cons.1 hp with rfl | hp
          · omega
          · have := ht p hp; omega
theorem TopP.bd {ps : List Pr} {lost all : Int} (h : TopP ps lost all) : BdP 2000 ps := fun p hp => by
  obtain ⟨i, hi, rfl⟩ := pr_at hp
  have := (h.2.1 i hi).1.2
  omega

/-- What is kept behind a cut. -/
def cutP (ps : List Pr) : List Pr := lessV ps (overV ps)
theorem cutP_len (ps : List Pr) : (cutP ps).length ≤ ps.length := lessV_len _ _
/-- Pairs, lost, all. -/
abbrev Tp := List Pr × Int × Int
def noneT : Tp := ([], 0, 0)
def addOk (ps : List Pr) (lost all t : Int) : Bool := topB ps lost all && (isT t && decide (all < 2000))
def addT (ps : List Pr) (lost all t : Int) : Tp := if addOk ps lost all t then (cutP (putP ps (t, 1)), lost + overV (putP ps (t, 1)), all + 1) else noneT
theorem addT_no {ps : List Pr} {lost all t : Int} (h : addOk ps lost all t = false) : addT ps lost all t = noneT := by simp [addT, h]
theorem addT_yes {ps : List Pr} {lost all t : Int} (h : addOk ps lost all t = true) : addT ps lost all t = (cutP (putP ps (t, 1)), lost + overV (putP ps (t, 1)), all + 1) := by simp [addT, h]
theorem addOk_cases (ps : List Pr) (lost all t : Int) : (topB ps lost all = false ∧ addOk ps lost all t = false) ∨ (topB ps lost all = true ∧ (t < 0 ∨ 63 < t) ∧ addOk ps lost all t = false) ∨ (topB ps lost all = true ∧ (0 ≤ t ∧ t ≤ 63) ∧ 2000 ≤ all ∧ addOk ps lost all t = false) ∨ (topB ps lost all = true ∧ (0 ≤ t ∧ t ≤ 63) ∧ all < 2000 ∧ addOk ps lost all t = true) := by
  unfold addOk
  cases h : topB ps lost all
  · exact .inl ⟨rfl, rfl⟩
  · cases h' : isT t
    · exact .inr (.inl ⟨rfl, by have := isT_no h'; omega, rfl⟩)
    · have := isT_yes h'
      by_cases ha : all < 2000
      · exact .inr (.inr (.inr ⟨rfl, by omega, ha, by simp [ha]⟩))
      · exact .inr (.inr (.inl ⟨rfl, by omega, by omega, by simp [ha]⟩))

set_option maxHeartbeats 4000000 in
theorem spTopAdd_no (w : World) (u : Value) (ps : List Pr) (lost all t : Int) (hp : Prs w u ps) (hno : addOk ps lost all t = false) :
    Calls Try.prog 124 #[.agg #[u, .int .i64 lost, .int .i64 all], .int .i64 t] w fun e w' => e = .returned (.tuple #[.agg #[.slice none 0 0, .int .i64 0, .int .i64 0], .bool false]) ∧ Below w.heap.size w w' := by
  have hA := ((Below.refl w.heap.size w).alloc (Nat.le_refl _) (.cells #[u, .int .i64 lost, .int .i64 all] 31)).alloc (by simp) (.cells #[.slice none 0 0, .int .i64 0, .int .i64 0] 31)
  have K := Lib.hid (spTopOk_at _ u ps lost all (hp.below hA (Nat.le_refl _)))
  have HA := Lib.hid hA
  obtain ⟨x, c, hu, _, _⟩ := hp.form
  obtain ⟨n, hn'⟩ : ∃ n, n = ps.length := ⟨_, rfl⟩
  rw [← hn'] at hu
  subst hu
  obtain ⟨W0, hW0⟩ : ∃ W0, W0 = (w.alloc (.cells #[.slice x n c, .int .i64 lost, .int .i64 all] 31)).alloc (.cells #[.slice none 0 0, .int .i64 0, .int .i64 0] 31) := ⟨_, rfl⟩
  have X0 : Box3 W0 w.heap.size 31 (.slice x n c) (.int .i64 lost) (.int .i64 all) := by rw [hW0]; exact (Box3.new _ _ _ _ _).alloc _
  have R0 : Box3 W0 (w.heap.size + 1) 31 (.slice none 0 0) (.int .i64 0) (.int .i64 0) := by
    have h := Box3.new (w.alloc (.cells #[.slice x n c, .int .i64 lost, .int .i64 all] 31)) 31 (.slice none 0 0) (.int .i64 0) (.int .i64 0)
    rw [hW0]
    simpa using h
  rw [← hW0] at K HA
  have HW0 := Lib.hid hW0
  have x0 := X0.cell0
  have x1 := X0.cell1
  have x2 := X0.cell2
  have HNO := Lib.hid (addOk_cases ps lost all t)
  have HN := Lib.hid hno
  have EB := Lib.hid (rfl : topB ps lost all = topB ps lost all)
  have main : ∀ ok, topB ps lost all = ok → (ok = true → (t < 0 ∨ 63 < t) ∨ ((0 ≤ t ∧ t ≤ 63) ∧ 2000 ≤ all)) → Calls Try.prog 124 #[.agg #[.slice x n c, .int .i64 lost, .int .i64 all], .int .i64 t] w fun e w' => e = .returned (.tuple #[.agg #[.slice none 0 0, .int .i64 0, .int .i64 0], .bool false]) ∧ Below w.heap.size w w' := by
    intro ok hok hwhy
    rw [hok] at K
    have HY := Lib.hid hwhy
    clear hok hwhy hA hW0 hn' hp hno
    cases ok with
    | false =>
      go_enter Try.func124, Try.ntmps124
      go_wp2_with fail
      rw [← HW0.out]
      go_wp2_with fail
      refine K.out.mono ?_
      rintro e w1 ⟨rfl, hb1⟩
      have R1 := R0.later hb1
      have z0 := R1.cell0
      have z1 := R1.cell1
      have z2 := R1.cell2
      have f2 := R1.free
      have RZ := R1.set (.slice none 0 0) (.int .i64 0) (.int .i64 0)
      have hr0 := RZ.cell0
      have hr1 := RZ.cell1
      have hr2 := RZ.cell2
      have BZ := Lib.hid (below_set3 (b := w.heap.size + 1) (HA.out.trans (hb1.mono HA.out.size)) (Nat.le_succ _) (.slice none 0 0) (.int .i64 0) (.int .i64 0))
      clear R1 RZ x0 x1 x2 X0 R0 hb1
      go_wp2
      exact bodyPost_ret (v := .tuple #[.agg #[.slice none 0 0, .int .i64 0, .int .i64 0], .bool false]) (by simp [results, Try.results124, go_sem, hr0, hr1, hr2]) rfl ⟨rfl, BZ.out⟩
    | true =>
      rcases HY.out rfl with ht | ⟨ht, ha⟩
      · have KT : Hid (∀ W, Calls Try.prog 49 #[.int .i64 t, .int .i64 0, .int .i64 63] W fun e w' => e = .returned (.bool false) ∧ W = w') := fun W => l6In_no t 0 63 W ht
        clear ht
        go_enter Try.func124, Try.ntmps124
        go_wp2_with fail
        rw [← HW0.out]
        go_wp2_with fail
        refine K.out.mono ?_
        rintro e w1 ⟨rfl, hb1⟩
        go_wp2_with fail
        refine (KT.out _).mono ?_
        rintro e w' ⟨rfl, rfl⟩
        have R1 := R0.later hb1
        have z0 := R1.cell0
        have z1 := R1.cell1
        have z2 := R1.cell2
        have f2 := R1.free
        have RZ := R1.set (.slice none 0 0) (.int .i64 0) (.int .i64 0)
        have hr0 := RZ.cell0
        have hr1 := RZ.cell1
        have hr2 := RZ.cell2
        have BZ := Lib.hid (below_set3 (b := w.heap.size + 1) (HA.out.trans (hb1.mono HA.out.size)) (Nat.le_succ _) (.slice none 0 0) (.int .i64 0) (.int .i64 0))
        clear R1 RZ x0 x1 x2 X0 R0 hb1
        go_wp2
        exact bodyPost_ret (v := .tuple #[.agg #[.slice none 0 0, .int .i64 0, .int .i64 0], .bool false]) (by simp [results, Try.results124, go_sem, hr0, hr1, hr2]) rfl ⟨rfl, BZ.out⟩
      · have KT : Hid (∀ W, Calls Try.prog 49 #[.int .i64 t, .int .i64 0, .int .i64 63] W fun e w' => e = .returned (.bool true) ∧ W = w') := fun W => l6In_yes t 0 63 W ht.1 ht.2
        clear ht
        go_enter Try.func124, Try.ntmps124
        go_wp2_with fail
        rw [← HW0.out]
        go_wp2_with fail
        refine K.out.mono ?_
        rintro e w1 ⟨rfl, hb1⟩
        go_wp2_with fail
        refine (KT.out _).mono ?_
        rintro e w' ⟨rfl, rfl⟩
        have X1 := X0.later hb1
        have y2 := X1.cell2
        have R1 := R0.later hb1
        have z0 := R1.cell0
        have z1 := R1.cell1
        have z2 := R1.cell2
        have f2 := R1.free
        have RZ := R1.set (.slice none 0 0) (.int .i64 0) (.int .i64 0)
        have hr0 := RZ.cell0
        have hr1 := RZ.cell1
        have hr2 := RZ.cell2
        have BZ := Lib.hid (below_set3 (b := w.heap.size + 1) (HA.out.trans (hb1.mono HA.out.size)) (Nat.le_succ _) (.slice none 0 0) (.int .i64 0) (.int .i64 0))
        clear R1 RZ x0 x1 x2 X0 R0 hb1
        go_wp2
        exact bodyPost_ret (v := .tuple #[.agg #[.slice none 0 0, .int .i64 0, .int .i64 0], .bool false]) (by simp [results, Try.results124, go_sem, hr0, hr1, hr2]) rfl ⟨rfl, BZ.out⟩
  refine main _ rfl fun hok => ?_
  rcases HNO.out with ⟨h, _⟩ | ⟨_, h, _⟩ | ⟨_, h, h', _⟩ | ⟨_, _, _, h⟩
  · rw [h] at hok; cases hok
  · exact .inl h
  · exact .inr ⟨h, h'⟩
  · rw [hno] at h; cases h

set_option maxHeartbeats 8000000 in
theorem spTopAdd_yes (w : World) (u : Value) (ps : List Pr) (lost all t : Int) (hp : Prs w u ps) (hok : topB ps lost all = true) (ht : 0 ≤ t ∧ t ≤ 63) (ha : all < 2000) :
    Calls Try.prog 124 #[.agg #[u, .int .i64 lost, .int .i64 all], .int .i64 t] w fun e w' => ∃ v, e = .returned (.tuple #[.agg #[v, .int .i64 (lost + overV (putP ps (t, 1))), .int .i64 (all + 1)], .bool true]) ∧ OwnP w' w.heap.size v (cutP (putP ps (t, 1))) ∧ Below w.heap.size w w' := by
  have hA := ((Below.refl w.heap.size w).alloc (Nat.le_refl _) (.cells #[u, .int .i64 lost, .int .i64 all] 31)).alloc (by simp) (.cells #[.slice none 0 0, .int .i64 0, .int .i64 0] 31)
  have I0 := Lib.hid (hp.below hA (Nat.le_refl _))
  have K := Lib.hid (spTopOk_at _ u ps lost all I0.out)
  have HA := Lib.hid hA
  have hP := (topB_iff _ _ _).1 hok
  have hbd := hP.bd
  have hl4 := hP.1.1
  have hlo := hP.1.2.1
  have hal := hP.1.2.2
  have KP : Hid (∀ W, Prs W u ps → Calls Try.prog 126 #[u, .agg #[.int .i64 t, .int .i64 1]] W fun e w' => ∃ v, e = .returned v ∧ OwnP w' W.heap.size v (putP ps (t, 1)) ∧ Below W.heap.size W w') := fun W hW =>
    l3Put_at W u ps t 1 hW (by omega) (hbd.mono (by omega)).at (by omega) (by omega)
  have hbq := (hbd.put (x := (t, 1)) (by omega) (by simp)).mono (N := 100000) (by simp)
  have hlq := putP_len ps (t, 1)
  rw [hok] at K
  obtain ⟨qs, hqs⟩ : ∃ qs, qs = putP ps (t, 1) := ⟨_, rfl⟩
  rw [← hqs] at KP hbq hlq ⊢
  have KC : Hid (∀ W v, Prs W v qs → Calls Try.prog 127 #[.agg #[v, .int .i64 lost, .int .i64 (all + 1)]] W fun e w' => ∃ v, e = .returned (.agg #[v, .int .i64 (lost + overV qs), .int .i64 (all + 1)]) ∧ OwnP w' W.heap.size v (cutP qs) ∧ Below W.heap.size W w') := fun W v hv =>
    l3Cut_at W v qs lost (all + 1) hv (by omega) hbq.at (by omega) (by omega)
  obtain ⟨x, c, hu, _, _⟩ := hp.form
  obtain ⟨n, hn'⟩ : ∃ n, n = ps.length := ⟨_, rfl⟩
  rw [← hn'] at hu
  subst hu
  obtain ⟨W0, hW0⟩ : ∃ W0, W0 = (w.alloc (.cells #[.slice x n c, .int .i64 lost, .int .i64 all] 31)).alloc (.cells #[.slice none 0 0, .int .i64 0, .int .i64 0] 31) := ⟨_, rfl⟩
  have X0 : Box3 W0 w.heap.size 31 (.slice x n c) (.int .i64 lost) (.int .i64 all) := by rw [hW0]; exact (Box3.new _ _ _ _ _).alloc _
  have R0 : Box3 W0 (w.heap.size + 1) 31 (.slice none 0 0) (.int .i64 0) (.int .i64 0) := by
    have h := Box3.new (w.alloc (.cells #[.slice x n c, .int .i64 lost, .int .i64 all] 31)) 31 (.slice none 0 0) (.int .i64 0) (.int .i64 0)
    rw [hW0]
    simpa using h
  rw [← hW0] at K HA I0
  have HW0 := Lib.hid hW0
  have x0 := X0.cell0
  have x1 := X0.cell1
  have x2 := X0.cell2
  have KT : Hid (∀ W, Calls Try.prog 49 #[.int .i64 t, .int .i64 0, .int .i64 63] W fun e w' => e = .returned (.bool true) ∧ W = w') := fun W => l6In_yes t 0 63 W ht.1 ht.2
  obtain ⟨ov, hov⟩ : ∃ ov, ov = overV qs := ⟨_, rfl⟩
  obtain ⟨cs, hcs⟩ : ∃ cs, cs = cutP qs := ⟨_, rfl⟩
  rw [← hov, ← hcs] at KC ⊢
  clear hA hW0 hn' hp hP hbd hok hqs hbq hlq hov hcs
  go_enter Try.func124, Try.ntmps124
  go_wp2_with fail
  rw [← HW0.out]
  go_wp2_with fail
  refine K.out.mono ?_
  rintro e w1 ⟨rfl, hb1⟩
  go_wp2_with fail
  refine (KT.out _).mono ?_
  rintro e w' ⟨rfl, rfl⟩
  have X1 := X0.later hb1
  have R1 := R0.later hb1
  have B1 := Lib.hid (HA.out.trans (hb1.mono HA.out.size))
  have I1 := Lib.hid (I0.out.below hb1 (Nat.le_refl _))
  clear hb1 X0 R0 x0 x1 x2 K HA I0 KT
  have x0 := X1.cell0
  have x1 := X1.cell1
  have x2 := X1.cell2
  have KD : Hid (Calls Try.prog 126 #[.slice x n c, .agg #[.int .i64 t, .int .i64 1]] w1.drew fun e w' => ∃ v, e = .returned v ∧ OwnP w' w1.drew.heap.size v qs ∧ Below w1.drew.heap.size w1.drew w') := KP.out w1.drew I1.out
  have ws : IntKind.i64.wrap (all + 1) = all + 1 := IntWalk.i64_in _ (by omega)
  go_wp2_with fail
  go_region_with (first | (go_at_call 126; refine KD.out.mono ?_; rintro e w2 ⟨v, rfl, ho2, hb2⟩; obtain ⟨xv, cv, rfl, _, _⟩ := ho2.form; have X2 := X1.drew.later hb2; have y0 := X2.cell0; have y1 := X2.cell1; have y2 := X2.cell2; have R2 := R1.drew.later hb2; have KE := Lib.hid (KC.out w2 _ ho2.rd)) | (go_at_call 127; refine KE.out.mono ?_; rintro e w3 ⟨v, rfl, ho3, hb3⟩; obtain ⟨xz, cz, rfl, _, _⟩ := ho3.form; have R3 := R2.later hb3; have f2 := R3.free; have z0 := R3.cell0; have z1 := R3.cell1; have z2 := R3.cell2))
  all_goals
    have RZ := R3.set (.slice xz cs.length cz) (.int .i64 (lost + ov)) (.int .i64 (all + 1))
    have hr0 := RZ.cell0
    have hr1 := RZ.cell1
    have hr2 := RZ.cell2
    have s1 : w.heap.size ≤ w1.heap.size := B1.out.size
    have s2 : w1.heap.size ≤ w2.heap.size := by have := hb2.size; simpa using this
    have OZ := Lib.hid (((ho3.set3 (R3.not_row (by decide) ho3) (.slice xz cs.length cz) (.int .i64 (lost + ov)) (.int .i64 (all + 1)))).base (B' := w.heap.size) (by omega))
    have BZ := Lib.hid (below_set3 (b := w.heap.size + 1) ((B1.out.trans (Below.drew (Below.refl _ _))).trans ((hb2.trans (hb3.mono (by simpa using s2))).mono (by simpa using s1))) (Nat.le_succ _) (.slice xz cs.length cz) (.int .i64 (lost + ov)) (.int .i64 (all + 1)))
    clear ho2 hb2 X2 R2 ho3 hb3 R3 RZ y0 y1 y2 f2 z0 z1 z2 s1 s2
    go_wp2
    exact bodyPost_ret (v := .tuple #[.agg #[.slice xz cs.length cz, .int .i64 (lost + ov), .int .i64 (all + 1)], .bool true]) (by simp [results, Try.results124, go_sem, hr0, hr1, hr2]) rfl ⟨_, rfl, OZ.out, BZ.out⟩

theorem spTopAdd_at (w : World) (u : Value) (ps : List Pr) (lost all t : Int) (hp : Prs w u ps) :
    Calls Try.prog 124 #[.agg #[u, .int .i64 lost, .int .i64 all], .int .i64 t] w fun e w' => ∃ v, e = .returned (.tuple #[.agg #[v, .int .i64 (addT ps lost all t).2.1, .int .i64 (addT ps lost all t).2.2], .bool (addOk ps lost all t)]) ∧ OwnP w' w.heap.size v (addT ps lost all t).1 ∧ Below w.heap.size w w' := by
  cases h : addOk ps lost all t with
  | false =>
    rw [addT_no h]
    exact (spTopAdd_no w u ps lost all t hp h).mono fun e w' ⟨he, hb⟩ => ⟨_, he, OwnP.nil _ _, hb⟩
  | true =>
    rw [addT_yes h]
    rcases addOk_cases ps lost all t with ⟨_, h'⟩ | ⟨_, _, h'⟩ | ⟨_, _, _, h'⟩ | ⟨hk, ht, ha, _⟩
    · rw [h] at h'; cases h'
    · rw [h] at h'; cases h'
    · rw [h] at h'; cases h'
    · exact spTopAdd_yes w u ps lost all t hp hk ht ha

end Go.Proofs.Ytnoilafoeaknjaa.T
