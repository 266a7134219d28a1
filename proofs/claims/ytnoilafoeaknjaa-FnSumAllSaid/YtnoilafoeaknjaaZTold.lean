/-
  What a sum of a list of things tells: each of the four, and both joined.
-/
import Derived.Test.YtnoilafoeaknjaaZSm
import Derived.Test.YtnoilafoeaknjaaRe
import Derived.Test.YtnoilafoeaknjaaFd
import Derived.Test.YtnoilafoeaknjaaKc
set_option linter.unusedVariables false
namespace Go.Proofs.Ytnoilafoeaknjaa
open Go.RowKit Go.Sort

/-- How many of a list are so. -/
abbrev cnt (l : List Int) (p : Int → Bool) : Int := ((l.countP p : Nat) : Int)
theorem cnt_snoc (l : List Int) (t : Int) (p : Int → Bool) : cnt (l ++ [t]) p = cnt l p + if p t = true then 1 else 0 := by
  show (((l ++ [t]).countP p : Nat) : Int) = _
  rw [List.countP_append, List.countP_cons, List.countP_nil]
  by_cases h : p t = true <;> simp [h]
theorem cnt_append (l m : List Int) (p : Int → Bool) : cnt (l ++ m) p = cnt l p + cnt m p := by
  show (((l ++ m).countP p : Nat) : Int) = _
  rw [List.countP_append]
  exact Int.natCast_add _ _
theorem cnt_le (l : List Int) (p q : Int → Bool) (h : ∀ z, p z = true → q z = true) : cnt l p ≤ cnt l q := Int.ofNat_le.2 (List.countP_mono_left fun z _ => h z)
theorem cnt_bd (l : List Int) (p : Int → Bool) : 0 ≤ cnt l p ∧ cnt l p ≤ l.length := ⟨Int.natCast_nonneg _, Int.ofNat_le.2 List.countP_le_length⟩
/-- How often a thing is among such. -/
abbrev cntT (l : List Int) (t : Int) : Int := cnt l fun z => decide (z = t)
/-- How many are up to a thing. -/
abbrev cntU (l : List Int) (t : Int) : Int := cnt l fun z => decide (z ≤ t)
/-- How many have its place in a row. -/
abbrev cntP (l : List Int) (i : Nat) (t : Int) : Int := cnt l fun z => decide (place i z = place i t)
theorem cntT_snoc (l : List Int) (u t : Int) : cntT (l ++ [u]) t = cntT l t + if u = t then 1 else 0 := by
  refine (cnt_snoc l u _).trans ?_
  simp only [decide_eq_true_eq]
theorem cntU_snoc (l : List Int) (u t : Int) : cntU (l ++ [u]) t = cntU l t + if u ≤ t then 1 else 0 := by
  refine (cnt_snoc l u _).trans ?_
  simp only [decide_eq_true_eq]
theorem cntP_snoc (l : List Int) (u : Int) (i : Nat) (t : Int) : cntP (l ++ [u]) i t = cntP l i t + if place i u = place i t then 1 else 0 := by
  refine (cnt_snoc l u _).trans ?_
  simp only [decide_eq_true_eq]
theorem cntT_pos (l : List Int) (t : Int) : 0 < cntT l t ↔ t ∈ l := by
  have : 0 < l.countP (fun z => decide (z = t)) ↔ t ∈ l := by
    rw [List.countP_pos_iff]
    simp
  rw [← this]
  exact Int.natCast_pos
theorem cntT_zero (l : List Int) (t : Int) : cntT l t = 0 ↔ t ∉ l := by
  have h1 := cntT_pos l t
  have h2 : 0 ≤ cntT l t := (cnt_bd l fun z => decide (z = t)).1
  constructor
  · intro e q
    have := h1.2 q
    omega
  · intro q
    apply Classical.byContradiction
    intro e
    exact q (h1.1 (by omega))

/-! ### rough -/
theorem atV_zero (i : Nat) (hi : i < 3) (t : Int) : atV zero3 i t = 0 := by
  unfold atV
  have : zero3.getD i [] = zeros := by rcases (by omega : i = 0 ∨ i = 1 ∨ i = 2) with rfl | rfl | rfl <;> rfl
  rw [this]
  exact zeros_get _
theorem atV_one (u n : Int) (i : Nat) (hi : i < 3) (t : Int) : atV (oneV u n) i t = if place i u = place i t then n else 0 := by
  unfold atV
  rw [oneV_get _ _ _ hi]
  unfold oneRow
  obtain ⟨P, eP, hP, eP'⟩ := place_nat i u
  obtain ⟨Q, eQ, hQ, eQ'⟩ := place_nat i t
  rw [eP', eQ', eP, eQ]
  by_cases h : P = Q
  · subst h
    rw [if_pos rfl, List.getD_eq_getElem?_getD, List.getElem?_set_self (by simp [zeros]; omega)]
    rfl
  · rw [if_neg (by omega), List.getD_eq_getElem?_getD, List.getElem?_set_ne h, ← List.getD_eq_getElem?_getD]
    exact zeros_get _
theorem rough_told : ∀ l : List Int, okS (upS l) = true → ∀ i, i < 3 → ∀ t, atV (upS l).rs i t = cntP l i t :=
  up_ind (P := fun l s => ∀ i, i < 3 → ∀ t, atV s.rs i t = cntP l i t) (fun i hi t => by rw [show newSm.rs = zero3 from rfl, atV_zero i hi]; rfl) (fun l s u hp A i hi t => by
    show atV (addV s.rs u 1) i t = _
    rw [addV_join A.r, atV_join _ _ _ _ hi, atV_one _ _ _ hi, hp i hi t, cntP_snoc])
theorem rough_get {l : List Int} (h : okS (upS l) = true) {t : Int} (h0 : 0 ≤ t) (h1 : t ≤ 63) : getV (upS l).rs t = min (min (cntP l 0 t) (cntP l 1 t)) (cntP l 2 t) := by
  rw [getV_ok ((okS_iff _).1 h).r h0 (by omega), rough_told l h 0 (by omega), rough_told l h 1 (by omega), rough_told l h 2 (by omega)]
theorem rough_least {l : List Int} (h : okS (upS l) = true) {t : Int} (h0 : 0 ≤ t) (h1 : t ≤ 63) : cntT l t ≤ getV (upS l).rs t ∧ getV (upS l).rs t ≤ l.length := by
  rw [rough_get h h0 h1]
  have g : ∀ i : Nat, cntT l t ≤ cntP l i t := fun i => cnt_le l _ _ fun z hz => by
    rw [of_decide_eq_true hz]; simp
  have a := g 0
  have b := g 1
  have c := g 2
  have d := (cnt_bd l fun z => decide (place (0 : Nat) z = place (0 : Nat) t)).2
  constructor
  · omega
  · show min (min (cntP l 0 t) _) _ ≤ _
    have : cntP l 0 t ≤ l.length := d
    omega
theorem rough_all {l : List Int} (h : okS (upS l) = true) : allV (upS l).rs = l.length := by
  rw [((okS_iff _).1 h).ra, (okS_up h).1]

/-! ### few -/
theorem union_app (zs a b : List Int) : unionL zs (a ++ b) = unionL (unionL zs a) b := by unfold unionL; rw [List.foldl_append]
def allM (l : List Int) : List Int := unionL [] (l.map markV)
theorem allM_asc (l : List Int) : Asc (allM l) := union_asc _ List.Pairwise.nil
theorem allM_mem (l : List Int) (m : Int) : m ∈ allM l ↔ ∃ t ∈ l, markV t = m := by
  unfold allM
  rw [union_mem]
  simp
theorem few_told : ∀ l : List Int, okS (upS l) = true → (upS l).zs = (allM l).take 6 :=
  up_ind (P := fun l s => s.zs = (allM l).take 6) rfl (fun l s u hp A => by
    show addF s.zs u = _
    rw [(add_union A.f).2, hp, union_take]
    unfold allM
    rw [List.map_append, union_app]
    rfl)
theorem mark_one : ∀ x y : Fin 64, markV (x.val : Int) = markV (y.val : Int) → x = y := by decide +kernel
theorem mark_inj {s t : Int} (s0 : 0 ≤ s) (s1 : s ≤ 63) (t0 : 0 ≤ t) (t1 : t ≤ 63) (h : markV s = markV t) : s = t := by
  obtain ⟨m, rfl⟩ := Int.eq_ofNat_of_zero_le s0
  obtain ⟨n, rfl⟩ := Int.eq_ofNat_of_zero_le t0
  have := mark_one ⟨m, by omega⟩ ⟨n, by omega⟩ h
  have := congrArg Fin.val this
  simp only at this
  omega
theorem mem_mark {l : List Int} (hl : ∀ t ∈ l, 0 ≤ t ∧ t ≤ 63) {t : Int} (h0 : 0 ≤ t) (h1 : t ≤ 63) : markV t ∈ allM l ↔ t ∈ l := by
  rw [allM_mem]
  constructor
  · rintro ⟨u, hu, e⟩
    have g := hl u hu
    rw [← mark_inj g.1 g.2 h0 h1 e]; exact hu
  · exact fun h => ⟨t, h, rfl⟩
/-- How many different things there are among the first k. -/
def fewN (l : List Int) (k : Nat) : Nat := (List.range k).countP fun i : Nat => decide ((i : Int) ∈ l)
theorem fewN_succ (l : List Int) (k : Nat) : fewN l (k + 1) = fewN l k + if (k : Int) ∈ l then 1 else 0 := by
  unfold fewN
  rw [List.range_succ, List.countP_append, List.countP_cons, List.countP_nil]
  by_cases h : (k : Int) ∈ l <;> simp [h]
theorem fewN_le (l : List Int) (k : Nat) : fewN l k ≤ k := by
  have := List.countP_le_length (p := fun i : Nat => decide ((i : Int) ∈ l)) (l := List.range k)
  simpa [fewN] using this
theorem mark_bd {t : Int} (h0 : 0 ≤ t) (h1 : t ≤ 63) : 0 ≤ markV t ∧ markV t ≤ 63 := by
  unfold markV
  rw [if_pos (by omega)]
  omega
theorem fewN_all {l : List Int} (hl : ∀ t ∈ l, 0 ≤ t ∧ t ≤ 63) : fewN l 64 = (allM l).length := by
  rw [← few_count (allM l) (allM_asc l) (fun z hz => by
    obtain ⟨t, ht, rfl⟩ := (allM_mem l z).1 hz
    exact mark_bd (hl t ht).1 (hl t ht).2)]
  unfold fewN
  refine List.countP_congr fun i hi => ?_
  have := List.mem_range.1 hi
  simp only [decide_eq_true_eq]
  exact (mem_mark hl (by omega) (by omega)).symm
theorem few_just {l : List Int} (h : okS (upS l) = true) : countJ (upS l).zs = decide (fewN l 64 < 6) ∧ (fewN l 64 < 6 → countN (upS l).zs = fewN l 64) := by
  have f := ((okS_iff _).1 h).f
  have e := few_told l h
  have g := fewN_all (okS_up h).2
  unfold countJ countN
  rw [f, if_pos rfl, e, List.length_take]
  constructor
  · rw [Bool.true_and]
    exact decide_eq_decide.2 ⟨fun q => by omega, fun q => by omega⟩
  · intro q
    rw [if_pos (by omega)]
    omega
theorem few_has {l : List Int} (h : okS (upS l) = true) (t : Int) : (hasA (upS l).zs t = true → 0 < cntT l t ∧ hasK (upS l).zs t = true) ∧ (hasK (upS l).zs t = true → hasA (upS l).zs t = false → cntT l t = 0) := by
  have f := ((okS_iff _).1 h).f
  have e := few_told l h
  have g := (okS_up h).2
  unfold hasA hasK
  rw [f]
  simp only [Bool.true_and]
  by_cases ht : inThings t = true
  · have ht' : 0 ≤ t ∧ t < 64 := of_decide_eq_true ht
    have mm := mem_mark g ht'.1 (by omega : t ≤ 63)
    rw [ht]
    simp only [Bool.true_and]
    constructor
    · intro q
      rw [q]
      refine ⟨(cntT_pos _ _).2 ?_, rfl⟩
      have := of_decide_eq_true q
      rw [e] at this
      exact mm.1 (List.mem_of_mem_take this)
    · intro q q'
      have nm := of_decide_eq_false q'
      rw [cntT_zero, ← mm]
      intro hm
      rw [e] at nm q
      have lo := left_out (allM_asc l) hm nm
      simp only [Bool.or_eq_true, decide_eq_true_eq] at q
      rcases q with (q | q) | q
      · exact nm q
      · omega
      · omega
  · rw [Bool.not_eq_true] at ht
    rw [ht]
    simp

/-! ### counted most -/
theorem T.over_nn {ps : List T.Pr} (h : ∀ p ∈ ps, 0 ≤ p.2) : 0 ≤ T.overV ps := (T.cut_five h).2
theorem T.add_tot {ps : List T.Pr} {lost all t : Int} (h : T.addOk ps lost all t = true) (u : Int) :
    T.tot (T.addT ps lost all t).1 u ≤ T.tot ps u + (if t = u then 1 else 0) ∧ T.tot ps u + (if t = u then 1 else 0) + lost ≤ T.tot (T.addT ps lost all t).1 u + (T.addT ps lost all t).2.1 := by
  have A := (T.topB_iff _ _ _).1 (T.addMore h).was
  have up := (A.asc.up).put (x := (t, 1))
  have pos := (A.pos).put (x := (t, 1)) (show (0 : Int) < 1 by decide)
  have nn : ∀ p ∈ T.putP ps (t, 1), 0 ≤ p.2 := fun p hp => by have := pos p hp; omega
  have L := T.tot_less up (T.over_nn nn) nn u
  have P := T.tot_put ps (t, 1) u
  rw [T.addT_yes h]
  show T.tot (T.lessV _ _) u ≤ _ ∧ _ ≤ T.tot (T.lessV _ _) u + (lost + T.overV _)
  simp only at P
  omega
theorem T.join_tot {ps qs : List T.Pr} {la aa lb ab : Int} (h : T.joinOk ps la aa qs lb ab = true) (u : Int) :
    T.tot (T.joinT ps la aa qs lb ab).1 u ≤ T.tot ps u + T.tot qs u ∧ T.tot ps u + T.tot qs u + (la + lb) ≤ T.tot (T.joinT ps la aa qs lb ab).1 u + (T.joinT ps la aa qs lb ab).2.1 := by
  have A := (T.topB_iff _ _ _).1 (T.joinMore h).was
  rw [← T.joinOk_comm] at h
  have B := (T.topB_iff _ _ _).1 (T.joinMore h).was
  rw [T.joinOk_comm] at h
  obtain ⟨up, pos, _, tt⟩ := T.bothP_all ps qs A.asc.up A.pos B.pos
  have nn : ∀ p ∈ T.bothP ps qs, 0 ≤ p.2 := fun p hp => by have := pos p hp; omega
  have L := T.tot_less up (T.over_nn nn) nn u
  have P := tt u
  rw [T.joinT_yes h]
  show T.tot (T.lessV _ _) u ≤ _ ∧ _ ≤ T.tot (T.lessV _ _) u + (la + lb + T.overV _)
  omega
theorem top_told : ∀ l : List Int, okS (upS l) = true → ∀ t, T.tot (upS l).ps t ≤ cntT l t ∧ cntT l t ≤ T.tot (upS l).ps t + (upS l).lo :=
  up_ind (P := fun l s => ∀ t, T.tot s.ps t ≤ cntT l t ∧ cntT l t ≤ T.tot s.ps t + s.lo) (fun t => ⟨Int.le_refl _, Int.le_refl _⟩) (fun l s u hp A t => by
    have h1 := hp t
    have h2 := T.add_tot A.t t
    show T.tot (T.addT s.ps s.lo s.al u).1 t ≤ _ ∧ _ ≤ T.tot (T.addT s.ps s.lo s.al u).1 t + (T.addT s.ps s.lo s.al u).2.1
    rw [cntT_snoc]
    omega)
theorem top_part {s : Sm} (h : Ok s) : s.lo ≤ s.al / 5 ∧ 0 ≤ s.lo := by
  have A := (T.topB_iff _ _ _).1 h.t
  have := A.2.2
  have := A.1.2.1
  have nn : 0 ≤ T.sumP s.ps := by
    have := (T.sumP_bd (ps := s.ps) (Nat.le_refl _) A.2.1).1
    rwa [List.take_length] at this
  omega
/-- Numbers of which each is greater than the one before it. -/
theorem keys_count : ∀ zs : List Int, zs.Pairwise (· < ·) → (∀ z ∈ zs, 0 ≤ z ∧ z ≤ 63) → ((List.range 64).countP fun i : Nat => decide ((i : Int) ∈ zs)) = zs.length
  | [], _, _ => by simp
  | x :: xs, hp, hb => by
    have h1 := List.pairwise_cons.1 hp
    have hx : x ∉ xs := fun q => by have := h1.1 x q; omega
    have one : ∀ x : Fin 64, ((List.range 64).countP fun i : Nat => decide ((i : Int) = (x.val : Int))) = 1 := by decide +kernel
    have hx' := hb x (by simp)
    obtain ⟨n, rfl⟩ := Int.eq_ofNat_of_zero_le hx'.1
    have := one ⟨n, by omega⟩
    simp only at this
    rw [countP_split (n : Int) xs hx (fun i => (i : Int)), this, keys_count xs h1.2 (fun z hz => hb z (by simp [hz]))]
    simp only [List.length_cons]
    omega
theorem keys_le {l : List Int} {ps : List T.Pr} (hu : T.Up ps) (hb : ∀ p ∈ ps, p.1 ∈ l) (hl : ∀ t ∈ l, 0 ≤ t ∧ t ≤ 63) : ps.length ≤ fewN l 64 := by
  have e := keys_count (ps.map (·.1)) (by rw [List.pairwise_map]; exact hu) (fun z hz => by
    obtain ⟨p, hp, rfl⟩ := List.mem_map.1 hz
    exact hl _ (hb p hp))
  rw [List.length_map] at e
  rw [← e]
  unfold fewN
  refine List.countP_mono_left fun i _ hi => ?_
  have hi := of_decide_eq_true hi
  obtain ⟨p, hp, e⟩ := List.mem_map.1 hi
  rw [← e]
  exact decide_eq_true (hb p hp)
theorem fewN_mono (l m : List Int) (k : Nat) : fewN l k ≤ fewN (l ++ m) k := by
  unfold fewN
  refine List.countP_mono_left fun i _ hi => ?_
  have hi := of_decide_eq_true hi
  exact decide_eq_true (List.mem_append.2 (.inl hi))
theorem T.over_few {ps : List T.Pr} (h : ps.length ≤ 4) : T.overV ps = 0 := by
  have key : ∀ k, T.overK ps k = 0 := by
    intro k
    induction k with
    | zero => rfl
    | succ k ih =>
      have := T.cntGe_le ps (T.pr ps k).2
      show (if 4 < T.cntGe ps (T.pr ps k).2 then _ else T.overK ps k) = 0
      rw [if_neg (by omega), ih]
  exact key _
theorem top_few : ∀ l : List Int, okS (upS l) = true → (∀ p ∈ (upS l).ps, p.1 ∈ l) ∧ (fewN l 64 ≤ 4 → (upS l).lo = 0) := by
  intro l hl
  refine (up_ind (P := fun l s => ((∀ p ∈ s.ps, p.1 ∈ l) ∧ (fewN l 64 ≤ 4 → s.lo = 0)) ∧ ∀ t ∈ l, 0 ≤ t ∧ t ≤ 63) ⟨⟨fun p hp => (by cases hp), fun _ => rfl⟩, by simp⟩ (fun l s u hp A => ?_) l hl).1
  obtain ⟨⟨h1, h2⟩, h3⟩ := hp
  have TP := (T.topB_iff _ _ _).1 A.ok.t
  have up := (TP.asc.up).put (x := (u, 1))
  have h3' : ∀ t ∈ l ++ [u], 0 ≤ t ∧ t ≤ 63 := fun t ht => by
    rcases List.mem_append.1 ht with q | q
    · exact h3 t q
    · rw [List.mem_singleton.1 q]; exact A.thing
  have keys : ∀ p ∈ T.putP s.ps (u, 1), p.1 ∈ l ++ [u] := fun p hp => by
    rcases T.put_mem hp with q | q
    · exact List.mem_append.2 (.inr (by simp [q]))
    · exact List.mem_append.2 (.inl (h1 p q))
  refine ⟨⟨fun p hp => ?_, fun hf => ?_⟩, h3'⟩
  · have hp' : p ∈ T.lessV (T.putP s.ps (u, 1)) (T.overV (T.putP s.ps (u, 1))) := by
      have : p ∈ (T.addT s.ps s.lo s.al u).1 := hp
      rwa [T.addT_yes A.t] at this
    obtain ⟨q, hq, e, _⟩ := T.less_mem hp'
    rw [← e]; exact keys q hq
  · have := keys_le up keys h3'
    have m := fewN_mono l [u] 64
    show (T.addT s.ps s.lo s.al u).2.1 = 0
    rw [T.addT_yes A.t]
    show s.lo + T.overV _ = 0
    rw [T.over_few (by omega), h2 (by omega)]
    rfl

/-! ### ranks -/
theorem rank_told : ∀ l : List Int, okS (upS l) = true → ∀ t, K.leastP (upS l).ks t ≤ cntU l t ∧ cntU l t ≤ K.mostP (upS l).ks t :=
  up_ind (P := fun l s => ∀ t, K.leastP s.ks t ≤ cntU l t ∧ cntU l t ≤ K.mostP s.ks t) (fun t => ⟨Int.le_refl _, Int.le_refl _⟩) (fun l s u hp A t => by
    have h1 := hp t
    have h2 := (K.addK_say A.k).2.2.2.2 t
    show K.leastP (K.addK s.ks s.ka u).1 t ≤ _ ∧ _ ≤ K.mostP (K.addK s.ks s.ka u).1 t
    rw [cntU_snoc]
    omega)

/-! ### both joined -/
theorem join_list_r {a : List Int} (ha : okS (upS a) = true) : ∀ b : List Int, okS (upS b) = true → (upS a).al + (upS b).al ≤ 2000 → joinV (upS a).rs (upS b).rs = (upS (a ++ b)).rs ∧ joinF (upS a).zs (upS b).zs = (upS (a ++ b)).zs := by
  intro b hb
  have oa := (okS_iff _).1 ha
  have oka := okS_up ha
  refine (up_ind (P := fun b s => (∀ t ∈ b, 0 ≤ t ∧ t ≤ 63) ∧ s.al = b.length ∧ Ok s ∧ ((upS a).al + s.al ≤ 2000 → joinV (upS a).rs s.rs = (upS (a ++ b)).rs ∧ joinF (upS a).zs s.zs = (upS (a ++ b)).zs)) ⟨by simp, rfl, new_ok, fun _ => ?_⟩ (fun l s u hp A => ?_) b hb).2.2.2
  · rw [List.append_nil]
    refine ⟨(join_none oa.r).2, ?_⟩
    have hj : joinOkF (upS a).zs newSm.zs = true := by unfold joinOkF; rw [oa.f]; rfl
    rw [joinF_yes hj]
    show ((upS a).zs).take 6 = _
    exact List.take_of_length_le ((fewB_iff _).1 oa.f).1
  · obtain ⟨h1, h2, h3, h4⟩ := hp
    have hadd : addOkS s u = true := (addOkS_iff _ _).2 ⟨A.ok, A.thing, A.room⟩
    have hs := addS_ok hadd
    rw [addS_yes hadd] at hs
    refine ⟨fun t ht => ?_, by rw [hs.2, h2]; simp, hs.1, fun hr => ?_⟩
    · rcases List.mem_append.1 ht with q | q
      · exact h1 t q
      · rw [List.mem_singleton.1 q]; exact A.thing
    · rw [hs.2] at hr
      obtain ⟨r1, r2⟩ := h4 (by omega)
      have lenA := oka.1
      have okab : okS (upS (a ++ l)) = true := up_fine (fun t ht => by
        rcases List.mem_append.1 ht with q | q
        · exact oka.2 t q
        · exact h1 t q) (by rw [List.length_append]; omega)
      have lab := (okS_up okab).1
      rw [List.length_append] at lab
      have hadd' : addOkS (upS (a ++ l)) u = true := (addOkS_iff _ _).2 ⟨(okS_iff _).1 okab, A.thing, by omega⟩
      have A' := addAll hadd'
      rw [← List.append_assoc, upS_snoc, addS_yes hadd']
      constructor
      · show joinV _ (addV s.rs u 1) = addV (upS (a ++ l)).rs u 1
        rw [addV_join A.r, addV_join A'.r, joinV_assoc, r1]
      · show joinF _ (addF s.zs u) = addF (upS (a ++ l)).zs u
        have hm : joinOkF s.zs [markV u] = true := by rw [join_add]; exact A.f
        have hj : joinOkF (upS a).zs s.zs = true := by unfold joinOkF; rw [oa.f, A.ok.f]; rfl
        rw [← joinF_add, ← joinF_add, ← r2]
        have J := join_three (xs := [markV u]) hj
        refine J.2 ?_
        rw [J.1, hm, Bool.true_and]
        unfold joinOkF
        rw [oa.f, joinF_few]; rfl
theorem fold_swap (l : List Int) (h : ∀ t ∈ l, 0 ≤ t ∧ t ≤ 63) (hl : l.length ≤ 2000) : (upS l.reverse).rs = (upS l).rs ∧ (upS l.reverse).zs = (upS l).zs := by
  have h' : ∀ t ∈ l.reverse, 0 ≤ t ∧ t ≤ 63 := fun t ht => h t (List.mem_reverse.1 ht)
  have ok := up_fine h hl
  have ok' := up_fine h' (by simpa using hl)
  have o := (okS_iff _).1 ok
  have o' := (okS_iff _).1 ok'
  constructor
  · obtain ⟨l3, g⟩ := (okB_iff _).1 o.r
    obtain ⟨l3', g'⟩ := (okB_iff _).1 o'.r
    refine eq_three l3' l3 fun i hi => ?_
    refine of_decide_eq_true (eq_of_get (d := 0) (n := 8) (g' i hi).1 (g i hi).1 fun k hk => ?_)
    have hit : ∀ (i : Fin 3) (k : Fin 8), ∃ t : Fin 64, (place ((i.val : Nat) : Int) (t.val : Int)).toNat = k.val := by decide +kernel
    obtain ⟨t, ht⟩ := hit ⟨i, hi⟩ ⟨k, hk⟩
    simp only at ht
    have a := rough_told l ok i hi (t.val : Int)
    have b := rough_told l.reverse ok' i hi (t.val : Int)
    unfold atV at a b
    rw [ht] at a b
    rw [a, b]
    show ((l.reverse.countP _ : Nat) : Int) = ((l.countP _ : Nat) : Int)
    rw [List.countP_reverse]
  · rw [few_told _ ok, few_told _ ok']
    congr 1
    refine asc_ext (allM_asc _) (allM_asc _) fun z => ?_
    rw [allM_mem, allM_mem]
    simp

/-! ### as the functions tell it -/
theorem T.get_ok {ps : List T.Pr} {lo al t : Int} (h : T.topB ps lo al = true) (t0 : 0 ≤ t) (t1 : t ≤ 63) : T.getL ps lo al t = T.tot ps t ∧ T.getM ps lo al t = T.tot ps t + lo := by
  have ok : T.getOk ps lo al t = true := by
    unfold T.getOk T.isT
    rw [h, decide_eq_true (by omega)]; rfl
  unfold T.getL T.getM
  rw [ok]
  exact ⟨rfl, rfl⟩
theorem K.bel_ok {ps : List K.Pr} {al t : Int} (h : K.rankB ps al = true) (t0 : 0 ≤ t) (t1 : t ≤ 63) : K.belL ps al t = K.leastP ps t ∧ K.belM ps al t = K.mostP ps t := by
  have ok : K.belOk ps al t = true := by
    unfold K.belOk
    rw [h, decide_eq_true ⟨t0, t1⟩]; rfl
  unfold K.belL K.belM
  rw [ok]
  exact ⟨rfl, rfl⟩
theorem get_told {l : List Int} (h : okS (upS l) = true) {t : Int} (t0 : 0 ≤ t) (t1 : t ≤ 63) :
    T.getL (upS l).ps (upS l).lo (upS l).al t ≤ cntT l t ∧ cntT l t ≤ T.getM (upS l).ps (upS l).lo (upS l).al t ∧ T.getM (upS l).ps (upS l).lo (upS l).al t - T.getL (upS l).ps (upS l).lo (upS l).al t = (upS l).lo ∧ 0 ≤ (upS l).lo ∧ (upS l).lo ≤ 2000 := by
  have o := (okS_iff _).1 h
  obtain ⟨e1, e2⟩ := T.get_ok o.t t0 t1
  have a := top_told l h t
  have b := top_part o
  have c := o.al0
  rw [e1, e2]
  omega
theorem below_told {l : List Int} (h : okS (upS l) = true) {t : Int} (t0 : 0 ≤ t) (t1 : t ≤ 63) :
    K.belL (upS l).ks (upS l).ka t ≤ cntU l t ∧ cntU l t ≤ K.belM (upS l).ks (upS l).ka t := by
  obtain ⟨e1, e2⟩ := K.bel_ok ((okS_iff _).1 h).k t0 t1
  rw [e1, e2]
  exact rank_told l h t

end Go.Proofs.Ytnoilafoeaknjaa
