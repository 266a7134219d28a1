/-
  The sorting of pairs that are not many: slices.SortFunc, over the library's contract of the insertion sort.
-/
import Derived.Test.YtmlimjdmnonmpaaTCmp
namespace Go.Proofs.Ytmlimjdmnonmpaa
open Go.RowKit Go.Sort Go.Shelf

theorem flat_prs (ps : List Pr) : flatK encP 2 ps.toArray = (prs ps).toArray := by
  apply ext_get!
  · simp [prs_len]
  · intro t ht
    simp only [size_flatK, List.size_toArray] at ht
    rw [get_flatK encP 2 ps.toArray t (by simpa using ht)]
    have hi : t / 2 < ps.length := by omega
    have hg := prs_get ps (t / 2) hi
    have e1 : ps.toArray[t / 2]! = pr ps (t / 2) := by
      rw [getElem!_pos _ _ (by simpa using hi)]; simp [pr, hi]
    rw [e1]
    have hl : t < (prs ps).length := by rw [prs_len]; exact ht
    have key : (prs ps)[t]? = some ((encP (pr ps (t / 2)))[t % 2]!) := by
      rcases (by omega : t % 2 = 0 ∨ t % 2 = 1) with h | h
      · rw [show t = t / 2 * 2 by omega, hg.1, show t / 2 * 2 / 2 = t / 2 by omega, show t / 2 * 2 % 2 = 0 by omega]; rfl
      · rw [show t = t / 2 * 2 + 1 by omega, hg.2, show (t / 2 * 2 + 1) / 2 = t / 2 by omega, show (t / 2 * 2 + 1) % 2 = 1 by omega]; rfl
    rw [getElem!_pos (prs ps).toArray t (by simpa using hl)]
    rw [List.getElem?_eq_getElem hl] at key
    simpa using (Option.some.inj key).symm

theorem OwnP.holds {w : World} {B g n c : Nat} {ps : List Pr} (h : OwnP w B (.slice (some ⟨g, 0, none⟩) n c) ps) : HoldsK encP 2 w g 0 ps.toArray ∧ g < w.heap.size ∧ B ≤ g ∧ n = ps.length := by
  rcases h.2 with ⟨e, _⟩ | ⟨g', cap, cur, e, hb, hg, hn, hc, hs, ht⟩
  · cases e
  · obtain ⟨e1, rfl, rfl⟩ := Value.slice.inj e
    have e2 : g = g' := by simpa using e1
    subst e2
    have hl := (Array.getElem?_eq_some_iff.1 hg).1
    refine ⟨?_, hl, hb, rfl⟩
    unfold HoldsK
    rw [flat_prs]
    intro j hj
    simp only [List.size_toArray] at hj
    constructor
    · have := World.ownsRow.cells h (g := g) rfl j ((prs ps)[j]) (List.getElem?_eq_getElem hj)
      rw [addr_plus] at this
      rw [this]
      simp [getElem!_pos, hj]
    · simp [World.frozen?, hg]

theorem grown_sortWorldK (w : World) (g n : Nat) (d : Array Pr) (os : Array Obj) : w.grownBy (sortWorldK encP 2 w g 0 n d os) (some g) := by
  refine ⟨rfl, rfl, rfl, size_sortWorldK_c encP 2 w g 0 n d os, fun k hk hne => ?_⟩
  have hne' : g ≠ k := fun e => hne (by rw [e])
  show ((w.heap.modify g _) ++ os)[k]? = _
  rw [Array.getElem?_append_left (by simpa using hk)]
  simp [Array.getElem?_modify, hne']

theorem prs_sortWorldK {w : World} {g c n : Nat} {d d' : Array Pr} {os : Array Obj} (h : HoldsK encP 2 w g 0 d) (hg : g < w.heap.size) (hs : d'.size = d.size) (hc : d.size ≤ c) (hm : c ≤ maxLen) :
    Prs (sortWorldK encP 2 w g 0 n d' os) (.slice (some ⟨g, 0, none⟩) d.size c) d'.toList := by
  have H := holdsK_sortWorldK_c encP 2 w g 0 d d' n os h hg hs
  have e : d'.toList.toArray = d' := by simp
  rw [← e] at H
  unfold HoldsK at H
  rw [flat_prs] at H
  refine .inr ⟨g, 0, c, by simp [hs], by simpa [hs] using hc, hm, Nat.lt_of_lt_of_le hg (size_sortWorldK_c encP 2 w g 0 n _ os), fun i hi => ?_⟩
  have hgg := prs_get d'.toList i hi
  have hl := prs_len d'.toList
  have a := (H (i * 2) (by simp only [List.size_toArray]; omega)).1
  have b := (H (i * 2 + 1) (by simp only [List.size_toArray]; omega)).1
  have l0 : i * 2 < (prs d'.toList).length := by omega
  have l1 : i * 2 + 1 < (prs d'.toList).length := by omega
  rw [List.getElem?_eq_getElem l0] at hgg
  rw [List.getElem?_eq_getElem l1] at hgg
  rw [e] at a b
  refine ⟨by rw [a]; rw [getElem!_pos _ _ (by simpa using l0)]; simpa using hgg.1, ?_⟩
  rw [Nat.add_assoc, b, getElem!_pos _ _ (by simpa using l1)]
  simpa using hgg.2

/-- The order of a list: none behind is less. -/
def SortedL (cf : Pr → Pr → Int) (qs : List Pr) : Prop := ∀ i j, i < j → j < qs.length → ltOf cf (pr qs j) (pr qs i) = false

set_option maxHeartbeats 1000000 in
theorem len_at (n : Nat) (w : World) (h : n ≤ 8) : Calls Try.prog 66 #[.int .u64 n] w fun e w' => (∃ l : Int, e = .returned (.int .i64 l)) ∧ w = w' := by
  rcases (by omega : n = 0 ∨ n = 1 ∨ n = 2 ∨ n = 3 ∨ n = 4 ∨ n = 5 ∨ n = 6 ∨ n = 7 ∨ n = 8) with rfl | rfl | rfl | rfl | rfl | rfl | rfl | rfl | rfl
  all_goals
    clear h
    go_enter Try.func66, Try.ntmps66
    go_wp2
    go_ret
    exact ⟨⟨_, rfl⟩, rfl⟩

section
variable (g : Nat) (cf : Pr → Pr → Int) (eg : ∀ args w, (callFunc g args).run Try.prog w = .ok (.enter g args) w) (hg : ∀ x y W, Calls Try.prog g #[.agg (encP x).toArray, .agg (encP y).toArray] W fun e w' => e = .returned (.int .i64 (cf x y)) ∧ ∃ q os, w' = grow (W.drewN q) os)
include eg hg

theorem insert_at (w : World) (k c : Nat) (d : Array Pr) (hH : HoldsK encP 2 w k 0 d) (hk : k < w.heap.size) (hn : d.size ≤ 8) :
    Calls Try.prog 67 #[.slice (some ⟨k, 0, none⟩) d.size c, .int .i64 0, .int .i64 d.size, .func (.func g) #[] #[]] w fun e w' => e = .returned (.tuple #[]) ∧ ∃ n os, w' = sortWorldK encP 2 w k 0 n (Sort.insertionSort (ltOf cf) d 0 d.size) os := by
  have h := AnyQ.insertionSortCmpFunc sortP 2 Try.isAgg29 Try.sizeOf29 encP (fun _ => rfl) (fun x v hv => by simp [encP] at hv; rcases hv with rfl | rfl <;> rfl) cf g #[] k 0 c 0 d.size d w eg
    (fun m os dk _ x y => hg x y _) hH hk (Nat.zero_le _) (Nat.le_refl _) (by omega)
  exact h

set_option maxHeartbeats 1000000 in
theorem sortFunc_some (w : World) (k c n : Nat) (d : Array Pr) (hs : d.size = n) (hH : HoldsK encP 2 w k 0 d) (hk : k < w.heap.size) (hn : n ≤ 8) :
    Calls Try.prog 61 #[.slice (some ⟨k, 0, none⟩) n c, .func (.func g) #[] #[]] w fun e w' => e = .returned (.tuple #[]) ∧ ∃ n os, w' = sortWorldK encP 2 w k 0 n (Sort.insertionSort (ltOf cf) d 0 d.size) os := by
  have hi : Hid (Calls Try.prog 67 #[.slice (some ⟨k, 0, none⟩) n c, .int .i64 0, .int .i64 n, .func (.func g) #[] #[]] w fun e w' => e = .returned (.tuple #[]) ∧ ∃ n os, w' = sortWorldK encP 2 w k 0 n (Sort.insertionSort (ltOf cf) d 0 d.size) os) := by
    have h := insert_at g cf eg hg w k c d hH hk (by omega)
    rw [hs] at h ⊢
    exact h
  clear hH hs
  have hp : Hid (∀ l : Int, Calls Try.prog 65 #[.slice (some ⟨k, 0, none⟩) n c, .int .i64 0, .int .i64 n, .int .i64 l, .func (.func g) #[] #[]] w fun e w' => e = .returned (.tuple #[]) ∧ ∃ n os, w' = sortWorldK encP 2 w k 0 n (Sort.insertionSort (ltOf cf) d 0 d.size) os) := fun l => by
    generalize Sort.insertionSort (ltOf cf) d 0 d.size = r at hi ⊢
    go_enter Try.func65, Try.ntmps65
    go_wp2
    refine wp_loop_rounds 1 ?_
    rw [rounds_succ]
    go_wp2_with fail
    refine hi.out.mono ?_
    rintro e w' ⟨rfl, n', os, rfl⟩
    go_wp2
    (try simp only [Exit.inBlock, Exit.then]); refine bodyPost_ret (results_none rfl _ _ _) rfl ?_
    exact ⟨rfl, n', os, rfl⟩
  generalize Sort.insertionSort (ltOf cf) d 0 d.size = r at hp ⊢
  have e0 : IntKind.u64.wrap (n : Int) = (n : Int) := by unfold IntKind.wrap; simp [IntKind.bits, IntKind.signed]; omega
  clear hi
  go_enter Try.func61, Try.ntmps61
  go_wp2_with fail
  refine (len_at n w hn).mono ?_
  rintro e w' ⟨⟨l, rfl⟩, rfl⟩
  go_wp2_with fail
  refine (hp.out l).mono ?_
  rintro e w' ⟨rfl, n', os, rfl⟩
  go_wp2
  go_end0
  exact ⟨rfl, n', os, rfl⟩

omit eg hg in
set_option maxHeartbeats 1000000 in
theorem sortFunc_none (w : World) : Calls Try.prog 61 #[.slice none 0 0, .func (.func g) #[] #[]] w fun e w' => e = .returned (.tuple #[]) ∧ w = w' := by
  have hi : Hid (Calls Try.prog 67 #[.slice none 0 0, .int .i64 0, .int .i64 0, .func (.func g) #[] #[]] w fun e w' => e = .returned (.tuple #[]) ∧ w = w') := by
    show Calls _ _ _ _ _
    go_enter Try.func67, Try.ntmps67
    go_wp2
    refine wp_loop_rounds 1 ?_
    rw [rounds_succ]
    go_wp2
    go_end0
    exact ⟨rfl, rfl⟩
  have hp : Hid (∀ l : Int, Calls Try.prog 65 #[.slice none 0 0, .int .i64 0, .int .i64 0, .int .i64 l, .func (.func g) #[] #[]] w fun e w' => e = .returned (.tuple #[]) ∧ w = w') := fun l => by
    go_enter Try.func65, Try.ntmps65
    go_wp2
    refine wp_loop_rounds 1 ?_
    rw [rounds_succ]
    go_wp2_with fail
    refine hi.out.mono ?_
    rintro e w' ⟨rfl, rfl⟩
    go_wp2
    (try simp only [Exit.inBlock, Exit.then]); refine bodyPost_ret (results_none rfl _ _ _) rfl ?_
    exact ⟨rfl, rfl⟩
  go_enter Try.func61, Try.ntmps61
  go_wp2_with fail
  refine (len_at 0 w (by omega)).mono ?_
  rintro e w' ⟨⟨l, rfl⟩, rfl⟩
  go_wp2_with fail
  refine (hp.out l).mono ?_
  rintro e w' ⟨rfl, rfl⟩
  go_wp2
  go_end0
  exact ⟨rfl, rfl⟩

theorem sortFunc_at (hS : SWO (ltOf cf)) (w : World) (B : Nat) (v : Value) (ps : List Pr) (h : OwnP w B v ps) (hn : ps.length ≤ 8) :
    Calls Try.prog 61 #[v, .func (.func g) #[] #[]] w fun e w' => e = .returned (.tuple #[]) ∧ ∃ qs : List Pr, qs.Perm ps ∧ SortedL cf qs ∧ Prs w' v qs ∧ w.grownBy w' v.ownBlock := by
  by_cases hv : v = .slice none 0 0
  · subst hv
    have h0 : ps = [] := by
      rcases h.2 with ⟨_, h0⟩ | ⟨g', cap, cur, e, _⟩
      · exact List.eq_nil_of_length_eq_zero h0
      · cases e
    subst h0
    refine (sortFunc_none g w).mono fun e w' ⟨he, hw⟩ => ⟨he, [], List.Perm.refl _, fun i j _ hj => (by cases hj), .inl ⟨rfl, rfl⟩, ?_⟩
    subst hw
    exact grownBy_refl _ _
  · rcases h.2 with ⟨e, _⟩ | ⟨k, c, cur, e, _, _, hnc, hcm, _⟩
    · exact absurd e hv
    · subst e
      have hh := h.holds
      refine (sortFunc_some g cf eg hg w k c ps.length ps.toArray (by simp) hh.1 hh.2.1 hn).mono fun e w' ⟨he, n, os, hw⟩ => ⟨he, ?_⟩
      have hi := insertionSort_holds (lt := ltOf cf) hS ps.toArray 0 ps.toArray.size (Nat.zero_le _) (Nat.le_refl _)
      obtain ⟨⟨hsz, _, hperm⟩, hsrt⟩ := hi
      generalize Sort.insertionSort (ltOf cf) ps.toArray 0 ps.toArray.size = d' at hw hsz hperm hsrt
      subst hw
      have hp := prs_sortWorldK (n := n) (os := os) (c := c) hh.1 hh.2.1 hsz (by simpa using hnc) hcm
      refine ⟨d'.toList, ?_, ?_, by simpa using hp, by simpa [Value.ownBlock] using grown_sortWorldK w k n d' os⟩
      · have e1 : (d'.extract 0 ps.toArray.size).toList = d'.toList := by simp [← hsz]
        have e2 : (ps.toArray.extract 0 ps.toArray.size).toList = ps := by simp
        rw [e1, e2] at hperm
        exact hperm
      · intro i j hij hj
        have h2 := hsrt i j (Nat.zero_le _) hij (by rw [← hsz]; simpa using hj)
        have f : ∀ k, k < d'.toList.length → pr d'.toList k = d'[k]! := fun k hk => by
          have hk' : k < d'.size := by simpa using hk
          rw [getElem!_pos d' k hk']; simp [pr, List.getD_eq_getElem?_getD, hk']
        rw [f j hj, f i (by omega)]
        exact h2
end

end Go.Proofs.Ytmlimjdmnonmpaa
