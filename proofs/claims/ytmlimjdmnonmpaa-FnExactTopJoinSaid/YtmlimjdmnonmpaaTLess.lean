/-
  What is left when so much is taken from each: the model's l3Less, and l3Cut.
-/
import Derived.Test.YtmlimjdmnonmpaaTOver
import Derived.Test.YtmlimjdmnonmpaaTBox
namespace Go.Proofs.Ytmlimjdmnonmpaa
open Go.RowKit Go.Sort

/-- So much less of each, without those that have nothing then. -/
def lessV : List Pr → Int → List Pr
  | [], _ => []
  | p :: ps, n => if n < p.2 then (p.1, p.2 - n) :: lessV ps n else lessV ps n
theorem lessV_append (ps qs : List Pr) (n : Int) : lessV (ps ++ qs) n = lessV ps n ++ lessV qs n := by
  induction ps with
  | nil => rfl
  | cons p ps ih =>
    simp only [List.cons_append, lessV]
    split <;> simp [ih]
theorem lessV_len (ps : List Pr) (n : Int) : (lessV ps n).length ≤ ps.length := by
  induction ps with
  | nil => simp [lessV]
  | cons p ps ih => unfold lessV; split <;> simp <;> omega
theorem lessV_succ (ps : List Pr) (k : Nat) (n : Int) (h : k < ps.length) : lessV (ps.take (k + 1)) n = lessV (ps.take k) n ++ if n < (pr ps k).2 then [((pr ps k).1, (pr ps k).2 - n)] else [] := by
  rw [take_succ_pr ps k h, lessV_append]
  simp only [lessV]

set_option maxHeartbeats 4000000 in
theorem l3Less_in (w : World) (x : Option Addr) (n c : Nat) (ps : List Pr) (m : Int) (hl : ps.length = n) (hp : Prs w (.slice x n c) ps) (hn : n ≤ 100) (hm : ∀ i, i < n → 0 ≤ (pr ps i).2 ∧ (pr ps i).2 ≤ 100000) (m0 : 0 ≤ m) (m1 : m ≤ 100000) :
    Calls Try.prog 48 #[.slice x n c, .int .i64 m] w fun e w' => ∃ v, e = .returned v ∧ OwnP w' w.heap.size v (lessV ps m) ∧ Below w.heap.size w w' := by
  obtain ⟨i0, hi, hz0, hz1, hz2⟩ := info_parts pair_info
  have HP := Lib.hid hp.cells
  have HL := Lib.hid hl
  have HM := Lib.hid hm
  have E0 := Lib.hid (pair_empty w w.heap.size (Nat.le_refl _))
  clear hl hp hm
  go_enter Try.func48, Try.ntmps48
  go_wp2
  go_loopw [5, 6] (fun u i wr => ∃ (k : Nat) (os : List Pr), k ≤ n ∧ i = .int .i64 k ∧ os = lessV (ps.take k) m ∧ OwnP wr w.heap.size u os ∧ Below w.heap.size w wr) (fun _ i _ => n - (intOf i).toNat)
  case atStart => exact ⟨0, [], Nat.zero_le _, rfl, by simp [lessV], E0.out, (Below.refl _ _).alloc (Nat.le_refl _) _⟩
  case round =>
    obtain ⟨k, os, hk, rfl, hos, hown, hbl⟩ := hrel
    obtain ⟨y, cp, hu, _, _⟩ := hown.form
    obtain ⟨no, hno⟩ : ∃ no, no = os.length := ⟨_, rfl⟩
    have hno2 : no ≤ 200 := by have := lessV_len (ps.take k) m; rw [hno, hos]; have := HL.out; simp at *; omega
    rw [← hno] at hu
    subst hu
    have HOS := Lib.hid hos
    have HN := Lib.hid hno
    have HB := Lib.hid hbl
    have hsz := hbl.size
    have ho : wr.ownsRow w.heap.size 29 2 (.slice y no cp) no (prs os) := by have h := hown; unfold OwnP at h; rw [← hno] at h; exact h
    have HO := Lib.hid ho
    clear hbl hown hno ho hos
    by_cases hlt : k < n
    · obtain ⟨b, o, rfl, hb, h1, h2⟩ := HP.out k (by rw [HL.out]; exact hlt)
      replace h1 := (HB.out.cell (p := ⟨b, o + k * 2, none⟩) hb).trans h1
      replace h2 := (HB.out.cell (p := ⟨b, o + k * 2 + 1, none⟩) hb).trans h2
      have hs := Lib.hid (lessV_succ ps k m (by rw [HL.out]; exact hlt))
      have hmm := HM.out k hlt
      generalize pr ps k = q at h1 h2 hs hmm
      obtain ⟨t', m'⟩ := q
      simp only at h1 h2 hmm
      have k0 : (0 : Int) ≤ (k : Int) := by omega
      have kn : (k : Int) < (n : Int) := by omega
      by_cases hlm : m < m'
      · rw [if_pos (by exact hlm)] at hs
        have ws : IntKind.i64.wrap (m' - m) = m' - m := IntWalk.i64_in _ (by omega)
        go_wp2_with fail
        go_region_law ((refine step_append_lies _ (by rfl) _ _ _ (by rfl) w.heap.size 29 i0 _ 2 16 Try.underlying23 hi hz0 hz1 hz2 rfl (by decide) (.slice y no cp) no (prs os) (by rfl) ((HO.out.alloc _).drew) ⟨wr.heap.size, 0, none⟩ 1 1 [.int .i64 t', .int .i64 (m' - m)] (by rfl) (by rfl) (World.news_of_block (cs := #[.int .i64 t', .int .i64 (m' - m)]) (t := 29) (fr := (0, 0)) (heap_alloc_new wr _)) (by simp [Value.oneCell']) (by omega) (by unfold maxLen; omega) (by omega) (by simp; omega) (wr.heap.size + 1) (by simp) ?_; intro g1 cap1 w4 hown4 hgrow4 hat4 hlt4))
        all_goals
          have hg5 : (wr.alloc (.cells #[.int .i64 t', .int .i64 (m' - m)] 29)).grownBy w4 (Value.slice y no cp).ownBlock := grownBy_of_drew' hgrow4
          go_wp2
          go_roundw
          case rel => exact ⟨k + 1, os ++ [(t', m' - m)], by omega, by go_num, by rw [hs.out, HOS.out], own_snocP hown4 HN.out, below_appendP HB.out hsz HO.out hg5⟩
          case measure => simp [intOf]; omega
      · rw [if_neg (by exact hlm)] at hs
        go_wp2
        go_roundw
        case rel => exact ⟨k + 1, os, by omega, by go_num, by rw [hs.out, HOS.out, List.append_nil], by have h := HO.out; rw [HN.out] at h ⊢; exact h, HB.out⟩
        case measure => simp [intOf]; omega
    · obtain rfl : k = n := by omega
      have e1 : lessV ps m = os := by rw [HOS.out, List.take_of_length_le (by rw [HL.out]; exact Nat.le_refl _)]
      have E1 := Lib.hid e1
      clear e1
      go_wp2
      go_ret
      exact ⟨_, rfl, by rw [E1.out]; have h := HO.out; rw [HN.out] at h ⊢; exact h, HB.out⟩

theorem l3Less_at (w : World) (v : Value) (ps : List Pr) (m : Int) (hp : Prs w v ps) (hn : ps.length ≤ 100) (hm : ∀ i, i < ps.length → 0 ≤ (pr ps i).2 ∧ (pr ps i).2 ≤ 100000) (m0 : 0 ≤ m) (m1 : m ≤ 100000) :
    Calls Try.prog 48 #[v, .int .i64 m] w fun e w' => ∃ v, e = .returned v ∧ OwnP w' w.heap.size v (lessV ps m) ∧ Below w.heap.size w w' := by
  obtain ⟨x, c, rfl, _, _⟩ := hp.form
  exact l3Less_in w x _ c ps m rfl hp hn hm m0 m1

set_option maxHeartbeats 4000000 in
theorem l3Cut_at (w : World) (u : Value) (ps : List Pr) (lost all : Int) (hp : Prs w u ps) (hn : ps.length ≤ 100) (hm : ∀ i, i < ps.length → 0 ≤ (pr ps i).2 ∧ (pr ps i).2 ≤ 100000) (m0 : 0 ≤ lost) (m1 : lost ≤ 100000) :
    Calls Try.prog 37 #[.agg #[u, .int .i64 lost, .int .i64 all]] w fun e w' => ∃ v, e = .returned (.agg #[v, .int .i64 (lost + overV ps), .int .i64 all]) ∧ OwnP w' w.heap.size v (lessV ps (overV ps)) ∧ Below w.heap.size w w' := by
  have hA := ((Below.refl w.heap.size w).alloc (Nat.le_refl _) (.cells #[u, .int .i64 lost, .int .i64 all] 25)).alloc (by simp) (.cells #[.slice none 0 0, .int .i64 0, .int .i64 0] 25)
  have HA := Lib.hid hA
  have I0 := Lib.hid (hp.below hA (Nat.le_refl _))
  have K := Lib.hid (l3Over_at _ u ps I0.out hn hm)
  have ob := overV_bd (M := 100000) (by omega) hm
  obtain ⟨ov, hov⟩ : ∃ ov, ov = overV ps := ⟨_, rfl⟩
  rw [← hov] at K ob ⊢
  have KL : Hid (∀ W, Prs W u ps → Calls Try.prog 48 #[u, .int .i64 ov] W fun e w' => ∃ v, e = .returned v ∧ OwnP w' W.heap.size v (lessV ps ov) ∧ Below W.heap.size W w') := fun W hW => l3Less_at W u ps ov hW hn hm ob.1 ob.2
  obtain ⟨x, c, hu, _, _⟩ := hp.form
  obtain ⟨n, hn'⟩ : ∃ n, n = ps.length := ⟨_, rfl⟩
  rw [← hn'] at hu
  subst hu
  have K0 := Lib.hid (K.out)
  obtain ⟨W0, hW0⟩ : ∃ W0, W0 = (w.alloc (.cells #[.slice x n c, .int .i64 lost, .int .i64 all] 25)).alloc (.cells #[.slice none 0 0, .int .i64 0, .int .i64 0] 25) := ⟨_, rfl⟩
  have X0 : Box3 W0 w.heap.size 25 (.slice x n c) (.int .i64 lost) (.int .i64 all) := by rw [hW0]; exact (Box3.new _ _ _ _ _).alloc _
  have R0 : Box3 W0 (w.heap.size + 1) 25 (.slice none 0 0) (.int .i64 0) (.int .i64 0) := by
    have h := Box3.new (w.alloc (.cells #[.slice x n c, .int .i64 lost, .int .i64 all] 25)) 25 (.slice none 0 0) (.int .i64 0) (.int .i64 0)
    rw [hW0]
    simpa using h
  rw [← hW0] at K HA I0
  have HW0 := Lib.hid hW0
  have x0 := X0.cell0
  have x1 := X0.cell1
  have x2 := X0.cell2
  clear hA hW0 hov hn' hp hm K0
  go_enter Try.func37, Try.ntmps37
  go_wp2_with fail
  rw [← HW0.out]
  go_wp2_with fail
  refine K.out.mono ?_
  rintro e w1 ⟨rfl, hb1⟩
  have X1 := X0.later hb1
  have R1 := R0.later hb1
  have B1 := Lib.hid (HA.out.trans (hb1.mono HA.out.size))
  have I1 := Lib.hid (I0.out.below hb1 (Nat.le_refl _))
  clear hb1 X0 R0 x0 x1 x2 K HA I0
  have x0 := X1.cell0
  have x1 := X1.cell1
  have x2 := X1.cell2
  have ws : IntKind.i64.wrap (lost + ov) = lost + ov := IntWalk.i64_in _ (by omega)
  have KD : Hid (Calls Try.prog 48 #[.slice x n c, .int .i64 ov] w1.drew fun e w' => ∃ v, e = .returned v ∧ OwnP w' w1.drew.heap.size v (lessV ps ov) ∧ Below w1.drew.heap.size w1.drew w') := KL.out w1.drew I1.out
  go_wp2_with fail
  go_region_with (first | (go_at_call 48; refine KD.out.mono ?_; rintro e w2 ⟨v, rfl, ho2, hb2⟩; obtain ⟨xv, cv, rfl, _, _⟩ := ho2.form; have X2 := X1.drew.later hb2; have y0 := X2.cell0; have y1 := X2.cell1; have y2 := X2.cell2; have R2 := R1.drew.later hb2; have f2 := R2.free; have z0 := R2.cell0; have z1 := R2.cell1; have z2 := R2.cell2))
  all_goals
    have RZ := R2.set (.slice xv (lessV ps ov).length cv) (.int .i64 (lost + ov)) (.int .i64 all)
    have hr0 := RZ.cell0
    have hr1 := RZ.cell1
    have hr2 := RZ.cell2
    have OZ := Lib.hid (((ho2.set3 (R2.not_row (by decide) ho2) (.slice xv (lessV ps ov).length cv) (.int .i64 (lost + ov)) (.int .i64 all))).base (B' := w.heap.size) (by have := B1.out.size; simpa using this))
    have BZ := Lib.hid (below_set3 (b := w.heap.size + 1) ((B1.out.trans (Below.drew (Below.refl _ _))).trans (hb2.mono (by have := B1.out.size; simpa using this))) (Nat.le_succ _) (.slice xv (lessV ps ov).length cv) (.int .i64 (lost + ov)) (.int .i64 all))
    clear ho2 hb2 X2 R2 RZ y0 y1 y2 f2 z0 z1 z2
    go_wp2
    exact bodyPost_ret (v := .agg #[.slice xv (lessV ps ov).length cv, .int .i64 (lost + ov), .int .i64 all]) (by simp [results, Try.results37, go_sem, hr0, hr1, hr2]) rfl ⟨_, rfl, OZ.out, BZ.out⟩

end Go.Proofs.Ytmlimjdmnonmpaa
