/-
  Pairs in order: the program's inOrder, by things, and by numbers.
-/
import Derived.Test.YtmlimjdmnonmpaaTColl
import Derived.Test.YtmlimjdmnonmpaaTSort
import Derived.Laws.EntriesVeiled
namespace Go.Proofs.Ytmlimjdmnonmpaa
open Go.RowKit Go.Sort Go.Shelf

theorem values_at (x : Option Addr) (n c : Nat) (w : World) : Calls Try.prog 56 #[.slice x n c] w fun e w' => e = .returned (.func (.func 62) #[] #[.pointer (some ⟨w.heap.size, 0, none⟩)]) ∧ w.alloc (.cells #[.slice x n c] 23) = w' := by
  go_enter Try.func56, Try.ntmps56
  go_wp2
  go_ret
  exact ⟨rfl, rfl⟩

theorem collect_at (w : World) (Bs : Nat) (v : Value) (ps : List Pr) (hm : ps.length ≤ 1000) (hc : w.cell? ⟨Bs, 0, none⟩ = some v) (hp : Prs w v ps) :
    Calls Try.prog 60 #[.func (.func 62) #[] #[.pointer (some ⟨Bs, 0, none⟩)]] w fun e w' => ∃ u, e = .returned u ∧ OwnP w' w.heap.size u ps ∧ Below w.heap.size w w' := by
  have K := Lib.hid (callsIn_wide.1 (appendSeq_at w Bs v ps hm hc hp))
  clear hc hp hm
  go_enter Try.func60, Try.ntmps60
  go_wp2_with fail
  refine K.out.mono ?_
  rintro e w1 ⟨u, rfl, ho, hb⟩
  obtain ⟨x, c, rfl, _, _⟩ := ho.form
  go_wp2
  go_ret
  exact ⟨_, rfl, ho, hb⟩

/-- What a sorting answers. -/
def Sorted (cf : Pr → Pr → Int) (w : World) (ps : List Pr) (w' : World) (u : Value) : Prop := ∃ qs : List Pr, qs.Perm ps ∧ SortedL cf qs ∧ Prs w' u qs ∧ Below w.heap.size w w'

theorem sortedFunc_at (g : Nat) (cf : Pr → Pr → Int) (eg : ∀ args w, (callFunc g args).run Try.prog w = .ok (.enter g args) w) (hg : ∀ x y W, Calls Try.prog g #[.agg (encP x).toArray, .agg (encP y).toArray] W fun e w' => e = .returned (.int .i64 (cf x y)) ∧ ∃ q os, w' = grow (W.drewN q) os) (hS : SWO (ltOf cf))
    (w : World) (Bs : Nat) (v : Value) (ps : List Pr) (hm : ps.length ≤ 8) (hc : w.cell? ⟨Bs, 0, none⟩ = some v) (hp : Prs w v ps) :
    Calls Try.prog 55 #[.func (.func 62) #[] #[.pointer (some ⟨Bs, 0, none⟩)], .func (.func g) #[] #[]] w fun e w' => ∃ u, e = .returned u ∧ Sorted cf w ps w' u := by
  have K := Lib.hid (collect_at w Bs v ps (by omega) hc hp)
  have KS : Hid (∀ W u, OwnP W w.heap.size u ps → Calls Try.prog 61 #[u, .func (.func g) #[] #[]] W fun e w' => e = .returned (.tuple #[]) ∧ ∃ qs : List Pr, qs.Perm ps ∧ SortedL cf qs ∧ Prs w' u qs ∧ W.grownBy w' u.ownBlock) := fun W u h => sortFunc_at g cf eg hg hS W w.heap.size u ps h hm
  clear hc hp hm eg hg hS
  go_enter Try.func55, Try.ntmps55
  go_wp2_with fail
  refine K.out.mono ?_
  rintro e w1 ⟨u, rfl, ho, hb⟩
  have KS1 := Lib.hid (KS.out w1 u ho)
  have LT := Lib.hid (fun k e => (World.ownsRow.lt ho k e).1)
  have HB := Lib.hid hb
  obtain ⟨x, c, rfl, _, _⟩ := ho.form
  clear ho hb
  go_wp2_with fail
  refine KS1.out.mono ?_
  rintro e w2 ⟨rfl, qs, h1, h2, h3, h4⟩
  have fin : Hid (Sorted cf w ps w2 (.slice x ps.length c)) := ⟨qs, h1, h2, h3, HB.out.grown h4 HB.out.size (fun k e => LT.out k e)⟩
  clear h1 h2 h3 h4
  go_wp2
  go_ret
  exact ⟨_, rfl, fin.out⟩

def cmpT (x y : Pr) : Int := cmpV x.1 y.1
theorem cmpV_neg (a b : Int) : cmpV a b < 0 ↔ a < b := by
  unfold cmpV
  by_cases h : a < b
  · simp [h]
  · by_cases h' : b < a <;> simp [h, h']
theorem cmpV_zero (a b : Int) : cmpV a b = 0 ↔ a = b := by
  unfold cmpV
  by_cases h : a < b
  · simp [h]; omega
  · by_cases h' : b < a
    · simp [h, h']; omega
    · simp [h, h']; omega
theorem ltT_iff (x y : Pr) : ltOf cmpT x y = true ↔ x.1 < y.1 := by
  simp only [ltOf, cmpT, decide_eq_true_eq, cmpV_neg]
theorem ltN_iff (x y : Pr) : ltOf cmpN x y = true ↔ y.2 < x.2 ∨ (y.2 = x.2 ∧ x.1 < y.1) := by
  simp only [ltOf, cmpN, orV, decide_eq_true_eq]
  have h0 := cmpV_zero y.2 x.2
  have h1 := cmpV_neg y.2 x.2
  have h2 := cmpV_neg x.1 y.1
  split
  · rw [decide_eq_true_eq, h2]; omega
  · rw [decide_eq_true_eq, h1]; omega
theorem ltT_no (x y : Pr) : ltOf cmpT x y = false ↔ ¬ x.1 < y.1 := by rw [← ltT_iff]; simp
theorem ltN_no (x y : Pr) : ltOf cmpN x y = false ↔ ¬ (y.2 < x.2 ∨ (y.2 = x.2 ∧ x.1 < y.1)) := by rw [← ltN_iff]; simp
theorem swoT : SWO (ltOf cmpT) := ⟨fun x => by rw [ltT_no]; omega, fun x y z => by simp only [ltT_iff]; omega, fun x y z => by simp only [ltT_no]; omega⟩
theorem swoN : SWO (ltOf cmpN) := ⟨fun x => by rw [ltN_no]; omega, fun x y z => by simp only [ltN_iff]; omega, fun x y z => by simp only [ltN_no]; omega⟩

theorem egT : ∀ args w, (callFunc 53 args).run Try.prog w = .ok (.enter 53 args) w := enters_of Try.func53 (by kernel_rfl) rfl
theorem egN : ∀ args w, (callFunc 54 args).run Try.prog w = .ok (.enter 54 args) w := enters_of Try.func54 (by kernel_rfl) rfl
theorem hgT (x y : Pr) (W : World) : Calls Try.prog 53 #[.agg (encP x).toArray, .agg (encP y).toArray] W fun e w' => e = .returned (.int .i64 (cmpT x y)) ∧ ∃ q os, w' = grow (W.drewN q) os :=
  (againstThing_at x y W).mono fun e w' ⟨he, hw⟩ => ⟨he, 0, #[.cells #[.int .i64 x.1, .int .i64 x.2] 29 ] ++ #[.cells #[.int .i64 y.1, .int .i64 y.2] 29 ], by subst hw; rw [alloc_eq_grow, alloc_eq_grow, grow_grow]; rfl⟩

theorem againstNumE (x y : Pr) (W : World) : Calls Try.prog 54 #[.agg (encP x).toArray, .agg (encP y).toArray] W fun e w' => e = .returned (.int .i64 (cmpN x y)) ∧ ∃ q os, w' = grow (W.drewN q) os := againstNum_at x y W

set_option maxHeartbeats 2000000 in
theorem inOrderT_at (w : World) (v : Value) (ps : List Pr) (hp : Prs w v ps) (hn : ps.length ≤ 8) :
    Calls Try.prog 49 #[v, .int .i64 0] w fun e w' => ∃ u, e = .returned u ∧ Sorted cmpT w ps w' u := by
  obtain ⟨x, c, rfl, _, _⟩ := hp.form
  obtain ⟨n, hn'⟩ : ∃ n, n = ps.length := ⟨_, rfl⟩
  rw [← hn'] at hp ⊢
  obtain ⟨W0, hW0⟩ : ∃ W0, W0 = w.alloc (.cells #[.func (.func 53) #[] #[], .func (.func 54) #[] #[]] 78) := ⟨_, rfl⟩
  have B0 : Hid (Below w.heap.size w W0) := by show Below _ _ _; rw [hW0]; exact (Below.refl _ _).alloc (Nat.le_refl _) _
  have P0 := Lib.hid (hp.below B0.out (Nat.le_refl _))
  have c0 : W0.cell? ⟨w.heap.size, 0, none⟩ = some (.func (.func 53) #[] #[]) := by rw [hW0]; simp
  have l0 : w.heap.size < W0.heap.size := by rw [hW0]; simp
  have c1 : (W0.drew.alloc (.cells #[.slice x n c] 23)).cell? ⟨w.heap.size, 0, none⟩ = some (.func (.func 53) #[] #[]) := (World.cell?_alloc_lt (h := l0) ..).trans c0
  have KS : Hid (Calls Try.prog 55 #[.func (.func 62) #[] #[.pointer (some ⟨W0.heap.size, 0, none⟩)], .func (.func 53) #[] #[]] (W0.drew.alloc (.cells #[.slice x n c] 23)) fun e w' => ∃ u, e = .returned u ∧ Sorted cmpT (W0.drew.alloc (.cells #[.slice x n c] 23)) ps w' u) :=
    sortedFunc_at _ cmpT egT hgT swoT _ W0.heap.size (.slice x n c) ps hn (by rw [World.cell?_alloc_at (hn := by simp)]; simp) (Prs.below (show Prs W0.drew _ ps from P0.out) ((Below.refl _ _).alloc (Nat.le_refl _) _) (Nat.le_refl _))
  have HW := Lib.hid hW0
  clear hp hn hn' hW0
  go_enter Try.func49, Try.ntmps49
  go_wp2_with fail
  rw [← HW.out]
  clear HW
  go_wp2_with fail
  go_region_with (first
    | (go_at_call 56; refine (values_at x n c _).mono ?_; rintro e w1 ⟨rfl, rfl⟩)
    | (go_at_call 55; refine KS.out.mono ?_; rintro e w2 ⟨u, rfl, qs, h1, h2, h3, h4⟩; obtain ⟨xu, cu, rfl, _, _⟩ := h3.form))
  all_goals
    have fin : Hid (Sorted cmpT w ps w2 (.slice xu qs.length cu)) := ⟨qs, h1, h2, h3, (B0.out.trans (Below.drew (Below.refl _ _))).trans ((((Below.refl _ _).alloc (Nat.le_refl _) _).trans (h4.mono (by simp))).mono (by simpa using B0.out.size))⟩
    clear h1 h2 h3 h4
    go_wp2
    go_ret
    exact ⟨_, rfl, fin.out⟩

set_option maxHeartbeats 2000000 in
theorem inOrderN_at (w : World) (v : Value) (ps : List Pr) (hp : Prs w v ps) (hn : ps.length ≤ 8) :
    Calls Try.prog 49 #[v, .int .i64 1] w fun e w' => ∃ u, e = .returned u ∧ Sorted cmpN w ps w' u := by
  obtain ⟨x, c, rfl, _, _⟩ := hp.form
  obtain ⟨n, hn'⟩ : ∃ n, n = ps.length := ⟨_, rfl⟩
  rw [← hn'] at hp ⊢
  obtain ⟨W0, hW0⟩ : ∃ W0, W0 = w.alloc (.cells #[.func (.func 53) #[] #[], .func (.func 54) #[] #[]] 78) := ⟨_, rfl⟩
  have B0 : Hid (Below w.heap.size w W0) := by show Below _ _ _; rw [hW0]; exact (Below.refl _ _).alloc (Nat.le_refl _) _
  have P0 := Lib.hid (hp.below B0.out (Nat.le_refl _))
  have c0 : W0.cell? ⟨w.heap.size, 1, none⟩ = some (.func (.func 54) #[] #[]) := by rw [hW0]; simp
  have l0 : w.heap.size < W0.heap.size := by rw [hW0]; simp
  have c1 : (W0.drew.alloc (.cells #[.slice x n c] 23)).cell? ⟨w.heap.size, 1, none⟩ = some (.func (.func 54) #[] #[]) := (World.cell?_alloc_lt (h := l0) ..).trans c0
  have KS : Hid (Calls Try.prog 55 #[.func (.func 62) #[] #[.pointer (some ⟨W0.heap.size, 0, none⟩)], .func (.func 54) #[] #[]] (W0.drew.alloc (.cells #[.slice x n c] 23)) fun e w' => ∃ u, e = .returned u ∧ Sorted cmpN (W0.drew.alloc (.cells #[.slice x n c] 23)) ps w' u) :=
    sortedFunc_at _ cmpN egN againstNumE swoN _ W0.heap.size (.slice x n c) ps hn (by rw [World.cell?_alloc_at (hn := by simp)]; simp) (Prs.below (show Prs W0.drew _ ps from P0.out) ((Below.refl _ _).alloc (Nat.le_refl _) _) (Nat.le_refl _))
  have HW := Lib.hid hW0
  clear hp hn hn' hW0
  go_enter Try.func49, Try.ntmps49
  go_wp2_with fail
  rw [← HW.out]
  clear HW
  go_wp2_with fail
  go_region_with (first
    | (go_at_call 56; refine (values_at x n c _).mono ?_; rintro e w1 ⟨rfl, rfl⟩)
    | (go_at_call 55; refine KS.out.mono ?_; rintro e w2 ⟨u, rfl, qs, h1, h2, h3, h4⟩; obtain ⟨xu, cu, rfl, _, _⟩ := h3.form))
  all_goals
    have fin : Hid (Sorted cmpN w ps w2 (.slice xu qs.length cu)) := ⟨qs, h1, h2, h3, (B0.out.trans (Below.drew (Below.refl _ _))).trans ((((Below.refl _ _).alloc (Nat.le_refl _) _).trans (h4.mono (by simp))).mono (by simpa using B0.out.size))⟩
    clear h1 h2 h3 h4
    go_wp2
    go_ret
    exact ⟨_, rfl, fin.out⟩

end Go.Proofs.Ytmlimjdmnonmpaa
