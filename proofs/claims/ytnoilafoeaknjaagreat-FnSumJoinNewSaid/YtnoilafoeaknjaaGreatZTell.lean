/-
  What sums tell, as the functions answer: of a list, and of two that are joined.
-/
import Derived.Test.YtnoilafoeaknjaaGreatZTold
import Derived.Test.YtnoilafoeaknjaaGreatZImGet
set_option linter.unusedVariables false
namespace Go.Proofs.YtnoilafoeaknjaaGreat
open Go.RowKit Go.Sort

theorem at_told {l : List Int} (h : okS (upS l) = true) {n x : Int} {ok : Bool} (A : K.AtR (upS l).ks (upS l).ka n x ok) (n1 : 1 ≤ n) (n2 : n ≤ l.length) :
    ok = true ∧ (0 ≤ x ∧ x ≤ 63) ∧ n ≤ cntU l x ∧ (x ≠ 0 → cntU l (x - 1) < n + 6 * ((l.length : Int) / 8)) := by
  have o := (okS_iff _).1 h
  have P := (K.rankB_iff _ _).1 o.k
  have ka : (upS l).ka = l.length := by rw [← o.ta]; exact (okS_up h).1
  rcases A with ⟨rfl, _, _, hx, hl, hlo⟩ | ⟨rfl, _, hh⟩
  · refine ⟨rfl, hx, ?_, fun x0 => ?_⟩
    · have := (rank_told l h x).1; omega
    · have a := hlo (x - 1) (by omega) (by omega)
      have b := (rank_told l h (x - 1)).2
      have c := (K.gap_six P (t := x - 1) (by omega) (by omega)).2
      rw [ka] at c
      omega
  · rcases hh with hh | hh | hh
    · rw [o.k] at hh; cases hh
    · omega
    · rw [ka] at hh; omega
theorem few_rank {l : List Int} (h : okS (upS l) = true) (hl : l.length < 8) {t : Int} (t0 : 0 ≤ t) (t1 : t ≤ 63) : K.belL (upS l).ks (upS l).ka t = cntU l t ∧ K.belM (upS l).ks (upS l).ka t = cntU l t := by
  have o := (okS_iff _).1 h
  have P := (K.rankB_iff _ _).1 o.k
  have ka : (upS l).ka = l.length := by rw [← o.ta]; exact (okS_up h).1
  obtain ⟨e1, e2⟩ := K.bel_ok o.k t0 t1
  have a := rank_told l h t
  have b := (K.gap_six P t0 t1).2
  rw [ka] at b
  rw [e1, e2]
  omega

/-- What a sum tells of a list: its marks and rows are the list's, and its numbers are near. -/
theorem getS_tell {s : Sm} {l : List Int} (hs : okS s = true) (h : okS (upS l) = true) (hr : s.rs = (upS l).rs) (hz : s.zs = (upS l).zs) {t : Int} (t0 : 0 ≤ t) (t1 : t ≤ 63) (ht : T.tot s.ps t ≤ cntT l t ∧ cntT l t ≤ T.tot s.ps t + s.lo) :
    getSL s t ≤ cntT l t ∧ cntT l t ≤ getSM s t ∧ getSM s t ≤ getV s.rs t := by
  have o := (okS_iff _).1 hs
  obtain ⟨e1, e2⟩ := T.get_ok o.t t0 t1
  have fh := few_has h t
  rw [← hz] at fh
  have rl := (rough_least h t0 t1).1
  rw [← hr] at rl
  have c0 : 0 ≤ cntT l t := (cnt_bd l fun z => decide (z = t)).1
  rw [getSL_yes hs t0 (by omega), getSM_yes hs t0 (by omega), e1, e2]
  clear e1 e2
  generalize cntT l t = c at *
  generalize T.tot s.ps t = tt at *
  generalize getV s.rs t = gv at *
  cases hk : hasK s.zs t <;> cases ha : hasA s.zs t
  · simp; omega
  · have := (fh.1 ha).2
    rw [hk] at this; cases this
  · have := fh.2 hk ha
    simp; omega
  · have := (fh.1 ha).1
    simp; omega
theorem getS_told {l : List Int} (h : okS (upS l) = true) {t : Int} (t0 : 0 ≤ t) (t1 : t ≤ 63) : getSL (upS l) t ≤ cntT l t ∧ cntT l t ≤ getSM (upS l) t ∧ getSM (upS l) t ≤ getV (upS l).rs t :=
  getS_tell h h rfl rfl t0 t1 (top_told l h t)

/-- Who was counted often is kept. -/
theorem top_heavy {l : List Int} (h : okS (upS l) = true) {t : Int} (t0 : 0 ≤ t) (t1 : t ≤ 63) : (l.length : Int) / 5 < cntT l t → T.getL (upS l).ps (upS l).lo (upS l).al t ≠ 0 := by
  intro hc
  have o := (okS_iff _).1 h
  obtain ⟨e1, _⟩ := T.get_ok o.t t0 t1
  have a := top_told l h t
  have b := (top_part o).1
  rw [(okS_up h).1] at b
  rw [e1]
  omega
theorem lost_part {l : List Int} (h : okS (upS l) = true) : (upS l).lo ≤ (l.length : Int) / 5 ∧ 0 ≤ (upS l).lo ∧ (fewN l 64 ≤ 4 → (upS l).lo = 0) := by
  have b := top_part ((okS_iff _).1 h)
  rw [(okS_up h).1] at b
  exact ⟨b.1, b.2, (top_few l h).2⟩

/-! ### two lists -/
theorem two_ok {a b : List Int} (ha : okS (upS a) = true) (hb : okS (upS b) = true) (hl : a.length + b.length ≤ 2000) : joinOkS (upS a) (upS b) = true := by
  refine (joinOkS_iff _ _).2 ⟨(okS_iff _).1 ha, (okS_iff _).1 hb, ?_⟩
  rw [(okS_up ha).1, (okS_up hb).1]
  omega
theorem app_ok {a b : List Int} (ha : okS (upS a) = true) (hb : okS (upS b) = true) (hl : a.length + b.length ≤ 2000) : okS (upS (a ++ b)) = true :=
  up_fine (fun t ht => by
    rcases List.mem_append.1 ht with q | q
    · exact (okS_up ha).2 t q
    · exact (okS_up hb).2 t q) (by rw [List.length_append]; exact hl)
theorem joined_top {a b : List Int} (ha : okS (upS a) = true) (hb : okS (upS b) = true) (hl : a.length + b.length ≤ 2000) (t : Int) :
    T.tot (joinS0 (upS a) (upS b)).ps t ≤ cntT a t + cntT b t ∧ cntT a t + cntT b t ≤ T.tot (joinS0 (upS a) (upS b)).ps t + (joinS0 (upS a) (upS b)).lo := by
  have A := joinAll (two_ok ha hb hl)
  have h := T.join_tot A.t t
  have x := top_told a ha t
  have y := top_told b hb t
  show T.tot (T.joinT _ _ _ _ _ _).1 t ≤ _ ∧ _ ≤ T.tot (T.joinT _ _ _ _ _ _).1 t + (T.joinT _ _ _ _ _ _).2.1
  omega
theorem joined_tell {a b : List Int} (ha : okS (upS a) = true) (hb : okS (upS b) = true) (hl : a.length + b.length ≤ 2000) {t : Int} (t0 : 0 ≤ t) (t1 : t ≤ 63) :
    getSL (joinS (upS a) (upS b)) t ≤ cntT a t + cntT b t ∧ cntT a t + cntT b t ≤ getSM (joinS (upS a) (upS b)) t := by
  have hj := two_ok ha hb hl
  have hab := app_ok ha hb hl
  have ok := (okS_iff _).2 (joinS_ok hj).1
  have e : cntT (a ++ b) t = cntT a t + cntT b t := cnt_append a b _
  have R := join_list_r ha b hb (by rw [(okS_up ha).1, (okS_up hb).1]; omega)
  rw [joinS_yes hj] at ok ⊢
  have T := joined_top ha hb hl t
  rw [← e] at T ⊢
  have g := getS_tell ok hab R.1 R.2 t0 t1 T
  exact ⟨g.1, g.2.1⟩
/-- What both of those that were counted most tell. -/
theorem top_joined {a b : List Int} (ha : okS (upS a) = true) (hb : okS (upS b) = true) (hl : a.length + b.length ≤ 2000) {z : List T.Pr} {lo al : Int} (hz : T.joinT (upS a).ps (upS a).lo (upS a).al (upS b).ps (upS b).lo (upS b).al = (z, lo, al)) :
    T.joinOk (upS a).ps (upS a).lo (upS a).al (upS b).ps (upS b).lo (upS b).al = true ∧ z.length ≤ 4 ∧ lo ≤ ((a.length : Int) + b.length) / 5 ∧ 0 ≤ lo ∧
      ∀ t : Int, 0 ≤ t → t ≤ 63 → (0 ≤ T.getL z lo al t ∧ T.getL z lo al t ≤ cntT a t + cntT b t) ∧ (cntT a t + cntT b t ≤ T.getM z lo al t) ∧ (((a.length : Int) + b.length) / 5 < cntT a t + cntT b t → T.getL z lo al t ≠ 0) := by
  have A := joinAll (two_ok ha hb hl)
  have M := T.joinMore A.t
  rw [hz] at M
  simp only at M
  have P := (T.topB_iff _ _ _).1 M.top
  have ea := (okS_up ha).1
  have eb := (okS_up hb).1
  have nn : 0 ≤ T.sumP z := by
    have := (T.sumP_bd (ps := z) (Nat.le_refl _) P.2.1).1
    rwa [List.take_length] at this
  have al' : al = a.length + b.length := by rw [← ea, ← eb]; exact M.na'
  have p3 := P.2.2
  have p1 := P.1.2.1
  have lo5 : lo ≤ ((a.length : Int) + b.length) / 5 := by rw [← al']; omega
  refine ⟨A.t, P.1.1, lo5, p1.1, fun t t0 t1 => ?_⟩
  obtain ⟨e1, e2⟩ := T.get_ok M.top t0 t1
  have h := T.join_tot A.t t
  rw [hz] at h
  simp only at h
  have x := top_told a ha t
  have y := top_told b hb t
  have tn : 0 ≤ T.tot z t := (T.tot_bd P.2.1 P.asc).1
  rw [e1, e2]
  omega
/-- What both ranks tell. -/
theorem rank_joined {a b : List Int} (ha : okS (upS a) = true) (hb : okS (upS b) = true) (hl : a.length + b.length ≤ 2000) {z : List K.Pr} {al : Int} (hz : K.joinK (upS a).ks (upS a).ka (upS b).ks (upS b).ka = (z, al)) :
    K.joinOkK (upS a).ks (upS a).ka (upS b).ks (upS b).ka = true ∧ z.length ≤ 127 ∧
      ∀ t : Int, 0 ≤ t → t ≤ 63 → K.belL z al t ≤ cntU a t + cntU b t ∧ cntU a t + cntU b t ≤ K.belM z al t ∧ K.belM z al t - K.belL z al t ≤ 6 * (((a.length : Int) + b.length) / 8) ∧ -1 ≤ K.belL z al t ∧ K.belM z al t ≤ 2000 := by
  have A := joinAll (two_ok ha hb hl)
  obtain ⟨_, _, _, _, eal, P, say⟩ := K.joinK_say A.k
  rw [hz] at eal P say
  simp only at eal P say
  have kb : K.rankB z al = true := (K.rankB_iff _ _).2 P
  have ln := K.joinK_len (upS a).ks (upS a).ka (upS b).ks (upS b).ka
  rw [hz] at ln
  have al' : al = a.length + b.length := by rw [eal, ← A.oka.ta, ← A.okb.ta, (okS_up ha).1, (okS_up hb).1]
  refine ⟨A.k, ln, fun t t0 t1 => ?_⟩
  obtain ⟨e1, e2⟩ := K.bel_ok kb t0 t1
  have g := K.gap_six P t0 t1
  have s := say t
  have x := rank_told a ha t
  have y := rank_told b hb t
  have i := K.below_in P t0 (by omega)
  rw [al'] at g
  rw [e1, e2]
  have := A.oka.al0
  have := P.1
  omega
/-- With nothing. -/
theorem join_new {a : Sm} (h : okS a = true) : joinOkS a newSm = true ∧ (joinS a newSm).rs = a.rs ∧ (joinS a newSm).zs = a.zs ∧ (joinS a newSm).ps = a.ps ∧ (joinS a newSm).lo = a.lo ∧ (joinS a newSm).al = a.al ∧ (joinS a newSm).ka = a.ka := by
  have o := (okS_iff _).1 h
  have hj : joinOkS a newSm = true := (joinOkS_iff _ _).2 ⟨o, new_ok, by have := o.al0; show a.al + 0 ≤ 2000; omega⟩
  have A := joinAll hj
  rw [joinS_yes hj]
  have t := (T.join_nothing o.t).2
  have k := (K.joinK_say A.k).2.2.2.2.1
  refine ⟨hj, (join_none o.r).2, ?_, ?_, ?_, ?_, ?_⟩
  · show joinF a.zs newSm.zs = _
    rw [joinF_yes A.f]
    exact List.take_of_length_le ((fewB_iff _).1 o.f).1
  · show (T.joinT a.ps a.lo a.al [] 0 0).1 = _
    rw [t]
  · show (T.joinT a.ps a.lo a.al [] 0 0).2.1 = _
    rw [t]
  · show (T.joinT a.ps a.lo a.al [] 0 0).2.2 = _
    rw [t]
  · show (K.joinK a.ks a.ka newSm.ks newSm.ka).2 = _
    rw [k]
    show a.ka + 0 = a.ka
    omega
/-- Two more, in either order. -/
theorem addS_swap {s : Sm} {t u : Int} (h : addOkS s t = true) (h' : addOkS (addS s t) u = true) :
    addOkS s u = true ∧ addOkS (addS s u) t = true ∧ (addS (addS s t) u).rs = (addS (addS s u) t).rs ∧ (addS (addS s t) u).zs = (addS (addS s u) t).zs ∧ (addS (addS s t) u).al = (addS (addS s u) t).al := by
  have A := addAll h
  have A' := addAll h'
  have e1 := (addS_ok h).2
  have r1 := A'.room
  have u1 : addOkS s u = true := (addOkS_iff _ _).2 ⟨A.ok, A'.thing, A.room⟩
  have o1 := addS_ok u1
  have u2 : addOkS (addS s u) t = true := (addOkS_iff _ _).2 ⟨o1.1, A.thing, by rw [o1.2]; omega⟩
  refine ⟨u1, u2, ?_, ?_, by rw [(addS_ok h').2, (addS_ok u2).2, e1, o1.2]⟩
  · have rr := A'.r
    rw [addS_yes h'] 
    rw [addS_yes u2]
    show addV (addS s t).rs u 1 = addV (addS s u).rs t 1
    rw [addS_yes h] at rr ⊢
    rw [addS_yes u1]
    exact (add_swapR A.r).2 rr
  · rw [addS_yes h', addS_yes u2]
    have ff := A'.f
    show addF (addS s t).zs u = addF (addS s u).zs t
    rw [addS_yes h] at ff ⊢
    rw [addS_yes u1]
    exact (add_swap A.f).2 ff

end Go.Proofs.YtnoilafoeaknjaaGreat
