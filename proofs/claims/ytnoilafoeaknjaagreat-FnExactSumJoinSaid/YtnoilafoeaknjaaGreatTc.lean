/-
  Several texts in one: TCmp, TSort, TColl, TOrder, TConc.
-/
import Derived.Test.YtnoilafoeaknjaaGreatTa
import Derived.Shelf.SlSortCmp.InsertionK
import Derived.Deep.RegionWith
import Derived.RangeFuncBox
import Derived.RangeFuncNested
import Derived.RangeFuncBound
import Derived.RangeFuncCalls
import Derived.RangeFuncLeaves
import Derived.Shelf.Abstract
import Derived.Shelf.RegionOpen
import Derived.OwnWalkIn
import Derived.TacticsInMore
import Derived.LoopNIn
import Derived.LoopIn
import Derived.Laws.EntriesVeiled
import Derived.Lib.AppendZerosOnto
import Derived.Lib.SliceRun
import Derived.Lib.Walk
import Derived.Laws.AppendOwnNone
set_option linter.unusedVariables false
/-
  The two orders of pairs: what the comparisons answer.
-/
namespace Go.Proofs.YtnoilafoeaknjaaGreat.T
open Go.RowKit Go.Sort Go.Shelf

def sortP_ren : Go.Shelf.Ren := ⟨fun | 20 => 208 | n => n, fun | 24 => 117 | 22 => 32 | 3 => 3 | 25 => 185 | 4 => 4 | 0 => 0 | n => n, fun | n => n⟩
theorem sortP : Go.Proofs.SlLaysF0.n20 Tryz.prog sortP_ren := {
  mixed := by kernel_rfl
  f20 := ⟨Tryz.f208.name, by decide, Tryz.func208.trans (congrArg some (by kernel_rfl))⟩
  t0 := Tryz.underlying0
  a0 := Tryz.isAgg0
  z0 := Tryz.sizeOf0
  v0 := Tryz.zeroValue0
  t3 := Tryz.underlying3
  a3 := Tryz.isAgg3
  z3 := Tryz.sizeOf3
  v3 := Tryz.zeroValue3
  t4 := Tryz.underlying4
  a4 := Tryz.isAgg4
  z4 := Tryz.sizeOf4
  v4 := Tryz.zeroValue4
  t22 := Tryz.underlying32
  a22 := Tryz.isAgg32
  z22 := Tryz.sizeOf32
  v22 := Tryz.zeroValue32
  t25 := Tryz.underlying185
  a25 := Tryz.isAgg185
  z25 := Tryz.sizeOf185
  v25 := Tryz.zeroValue185 }

/-- What cmp.Compare answers. -/
def cmpV (a b : Int) : Int := if a < b then -1 else if b < a then 1 else 0
theorem compare_at (a b : Int) (w : World) : Calls Tryz.prog 199 #[.int .i64 a, .int .i64 b] w fun e w' => e = .returned (.int .i64 (cmpV a b)) ∧ w = w' := by
  have e1 : (a != a) = false := by simp
  have e2 : (b != b) = false := by simp
  rcases (by omega : a < b ∨ a = b ∨ b < a) with h | h | h
  · have e : cmpV a b = -1 := if_pos h
    rw [e]
    clear e
    go_enter Tryz.func199, Tryz.ntmps199
    go_wp2
    go_ret
    exact ⟨rfl, rfl⟩
  · subst h
    have e : cmpV a a = 0 := by simp [cmpV]
    rw [e]
    clear e
    go_enter Tryz.func199, Tryz.ntmps199
    go_wp2
    go_ret
    exact ⟨rfl, rfl⟩
  · have e : cmpV a b = 1 := by simp [cmpV, h]; omega
    have h' : ¬ a < b := by omega
    rw [e]
    clear e
    go_enter Tryz.func199, Tryz.ntmps199
    go_wp2
    go_ret
    exact ⟨rfl, rfl⟩

/-- What cmp.Or answers, of two. -/
def orV (a b : Int) : Int := if a = 0 then b else a
set_option maxHeartbeats 1000000 in
theorem or_at (g : Nat) (a b : Int) (w : World) (h0 : w.cell? ⟨g, 0, none⟩ = some (.int .i64 a)) (h1 : w.cell? ⟨g, 1, none⟩ = some (.int .i64 b)) :
    Calls Tryz.prog 200 #[.slice (some ⟨g, 0, none⟩) 2 2] w fun e w' => e = .returned (.int .i64 (orV a b)) ∧ w = w' := by
  by_cases ha : a = 0
  · subst ha
    rw [show orV 0 b = b from if_pos rfl]
    by_cases hb : b = 0
    · subst hb
      go_enter Tryz.func200, Tryz.ntmps200
      go_wp2
      refine wp_loop_rounds 3 ?_
      rw [rounds_succ]
      go_wp2
      rw [rounds_succ]
      go_wp2
      rw [rounds_succ]
      go_wp2
      go_ret
      exact ⟨rfl, rfl⟩
    · have e1 : (b != 0) = true := by simpa using hb
      have e2 : decide (b = 0) = false := by simpa using hb
      clear hb
      go_enter Tryz.func200, Tryz.ntmps200
      go_wp2
      refine wp_loop_rounds 2 ?_
      rw [rounds_succ]
      go_wp2
      rw [rounds_succ]
      go_wp2
      go_ret
      exact ⟨rfl, rfl⟩
  · have e1 : (a != 0) = true := by simpa using ha
    have e2 : decide (a = 0) = false := by simpa using ha
    rw [show orV a b = a from if_neg ha]
    clear ha
    go_enter Tryz.func200, Tryz.ntmps200
    go_wp2
    refine wp_loop_rounds 1 ?_
    rw [rounds_succ]
    go_wp2
    go_ret
    exact ⟨rfl, rfl⟩

/-- A pair's two cells. -/
def encP (p : Pr) : List Value := [.int .i64 p.1, .int .i64 p.2]
theorem againstThing_at (x y : Pr) (w : World) : Calls Tryz.prog 182 #[.agg #[.int .i64 x.1, .int .i64 x.2], .agg #[.int .i64 y.1, .int .i64 y.2]] w fun e w' => e = .returned (.int .i64 (cmpV x.1 y.1)) ∧
    (w.alloc (.cells #[.int .i64 x.1, .int .i64 x.2] 117)).alloc (.cells #[.int .i64 y.1, .int .i64 y.2] 117) = w' := by
  obtain ⟨a, b⟩ := x
  obtain ⟨c, d⟩ := y
  simp only
  have K : Hid (∀ W, Calls Tryz.prog 199 #[.int .i64 a, .int .i64 c] W fun e w' => e = .returned (.int .i64 (cmpV a c)) ∧ W = w') := fun W => compare_at a c W
  generalize cmpV a c = V at K ⊢
  go_enter Tryz.func182, Tryz.ntmps182
  go_wp2_with fail
  refine (K.out _).mono ?_
  rintro e w1 ⟨rfl, rfl⟩
  go_wp2
  go_ret
  exact ⟨rfl, rfl⟩

/-- What the order by numbers answers. -/
def cmpN (x y : Pr) : Int := orV (cmpV y.2 x.2) (cmpV x.1 y.1)
set_option maxHeartbeats 4000000 in
theorem againstNum_at (x y : Pr) (w : World) : Calls Tryz.prog 183 #[.agg #[.int .i64 x.1, .int .i64 x.2], .agg #[.int .i64 y.1, .int .i64 y.2]] w fun e w' => e = .returned (.int .i64 (cmpN x y)) ∧ ∃ q os, w' = grow (w.drewN q) os := by
  obtain ⟨a, b⟩ := x
  obtain ⟨c, d⟩ := y
  have K : Hid (∀ W, Calls Tryz.prog 199 #[.int .i64 d, .int .i64 b] W fun e w' => e = .returned (.int .i64 (cmpV d b)) ∧ W = w') := fun W => compare_at d b W
  have KT : Hid (∀ W, Calls Tryz.prog 182 #[.agg #[.int .i64 a, .int .i64 b], .agg #[.int .i64 c, .int .i64 d]] W fun e w' => e = .returned (.int .i64 (cmpV a c)) ∧
    (W.alloc (.cells #[.int .i64 a, .int .i64 b] 117)).alloc (.cells #[.int .i64 c, .int .i64 d] 117) = w') := fun W => againstThing_at (a, b) (c, d) W
  show Calls _ _ #[.agg #[.int .i64 a, .int .i64 b], .agg #[.int .i64 c, .int .i64 d]] _ fun e w' => e = .returned (.int .i64 (orV (cmpV d b) (cmpV a c))) ∧ _
  generalize cmpV d b = V at K ⊢
  generalize cmpV a c = U at KT ⊢
  have KO : Hid (∀ W g, W.cell? ⟨g, 0, none⟩ = some (.int .i64 V) → W.cell? ⟨g, 1, none⟩ = some (.int .i64 U) → Calls Tryz.prog 200 #[.slice (some ⟨g, 0, none⟩) 2 2] W fun e w' => e = .returned (.int .i64 (orV V U)) ∧ W = w') := fun W g h0 h1 => or_at g V U W h0 h1
  generalize orV V U = Z at KO ⊢
  obtain ⟨W0, hW0⟩ : ∃ W0, W0 = (w.alloc (.cells #[.int .i64 a, .int .i64 b] 117)).alloc (.cells #[.int .i64 c, .int .i64 d] 117) := ⟨_, rfl⟩
  have G0 : Hid (∃ os, W0 = grow w os) := by show ∃ os, _; rw [hW0, alloc_eq_grow, alloc_eq_grow, grow_grow]; exact ⟨_, rfl⟩
  have c0 : W0.cell? ⟨w.heap.size, 0, none⟩ = some (.int .i64 a) ∧ W0.cell? ⟨w.heap.size, 1, none⟩ = some (.int .i64 b) := by constructor <;> (rw [hW0, World.cell?_alloc_past (hn := by simp)]; simp)
  have c1 : W0.cell? ⟨w.heap.size + 1, 0, none⟩ = some (.int .i64 c) ∧ W0.cell? ⟨w.heap.size + 1, 1, none⟩ = some (.int .i64 d) := by constructor <;> (rw [hW0, World.cell?_alloc_at (hn := by simp)]; simp)
  have far : ∀ (p : Addr) v o, W0.cell? p = some v → (W0.alloc o).cell? p = some v := fun p v o h => (World.cell?_alloc_lt (h := World.block_lt_of_cell? _ _ h) ..).trans h
  have far2 : ∀ (p : Addr) v o o', W0.cell? p = some v → ((W0.alloc o).alloc o').cell? p = some v := fun p v o o' h => (World.cell?_alloc_lt (h := World.block_lt_of_cell? _ _ (far p v o h)) ..).trans (far p v o h)
  have F2 := Lib.hid far2
  have HW0 := Lib.hid hW0
  obtain ⟨x0, x1⟩ := c0
  obtain ⟨y0, y1⟩ := c1
  have a0 := fun o o' => F2.out _ _ o o' x0
  have a1 := fun o o' => F2.out _ _ o o' x1
  have b0 := fun o o' => F2.out _ _ o o' y0
  have b1 := fun o o' => F2.out _ _ o o' y1
  have n0 : ∀ o o', (((W0.alloc o).alloc o').alloc (.cells #[.int .i64 V, .int .i64 U] 3)).cell? ⟨W0.heap.size + 1 + 1, 0, none⟩ = some (.int .i64 V) := fun o o' => by rw [World.cell?_alloc_at (hn := by simp)]; simp
  have n1 : ∀ o o', (((W0.alloc o).alloc o').alloc (.cells #[.int .i64 V, .int .i64 U] 3)).cell? ⟨W0.heap.size + 1 + 1, 1, none⟩ = some (.int .i64 U) := fun o o' => by rw [World.cell?_alloc_at (hn := by simp)]; simp
  clear hW0 far far2
  go_enter Tryz.func183, Tryz.ntmps183
  go_wp2_with fail
  rw [← HW0.out]
  clear HW0
  go_wp2_with fail
  go_region_held3 (fun w' => w'.cell? ⟨w.heap.size, 0, none⟩ = some (.int .i64 a) ∧ w'.cell? ⟨w.heap.size, 1, none⟩ = some (.int .i64 b) ∧ w'.cell? ⟨w.heap.size + 1, 0, none⟩ = some (.int .i64 c) ∧ w'.cell? ⟨w.heap.size + 1, 1, none⟩ = some (.int .i64 d)) (go_keep)
    (first
      | (go_at_call 199; refine (K.out _).mono ?_; rintro e w1 ⟨rfl, rfl⟩)
      | (go_at_call 182; refine (KT.out _).mono ?_; rintro e w1 ⟨rfl, rfl⟩)
      | (go_at_call 200; refine (KO.out _ _ (by simpa using n0 _ _) (by simpa using n1 _ _)).mono ?_; rintro e w1 ⟨rfl, rfl⟩))
  all_goals
    go_wp2
    go_ret
    obtain ⟨os, hg⟩ := G0.out
    exact ⟨rfl, 1, _, by rw [hg, alloc_eq_grow, alloc_eq_grow, alloc_eq_grow, grow_grow, grow_grow, grow_grow]; rfl⟩

end Go.Proofs.YtnoilafoeaknjaaGreat.T

/-
  The sorting of pairs that are not many: slices.SortFunc, over the library's contract of the insertion sort.
-/
namespace Go.Proofs.YtnoilafoeaknjaaGreat.T
open Go.RowKit Go.Sort Go.Shelf

theorem flat_prs (ps : List Pr) : flatK encP 2 ps.toArray = (prs ps).toArray := by
  apply ext_get!
  · simp [prs_len]
  · intro t ht
    simp only [size_flatK, List.size_toArray] at ht
    rw [get_flatK encP 2 ps.toArray t (by simpa using ht)]
    have hi : t / 2 < ps.length := by omega
    have hg := prs_get ps (t / 2) hi
    have e1 : ps.toArray[t / 2]! = pr ps (t / 2) := by
      rw [getElem!_pos _ _ (by simpa using hi)]; simp [pr, hi]
    rw [e1]
    have hl : t < (prs ps).length := by rw [prs_len]; exact ht
    have key : (prs ps)[t]? = some ((encP (pr ps (t / 2)))[t % 2]!) := by
      rcases (by omega : t % 2 = 0 ∨ t % 2 = 1) with h | h
      · rw [show t = t / 2 * 2 by omega, hg.1, show t / 2 * 2 / 2 = t / 2 by omega, show t / 2 * 2 % 2 = 0 by omega]; rfl
      · rw [show t = t / 2 * 2 + 1 by omega, hg.2, show (t / 2 * 2 + 1) / 2 = t / 2 by omega, show (t / 2 * 2 + 1) % 2 = 1 by omega]; rfl
    rw [getElem!_pos (prs ps).toArray t (by simpa using hl)]
    rw [List.getElem?_eq_getElem hl] at key
    simpa using (Option.some.inj key).symm

theorem OwnP.holds {w : World} {B g n c : Nat} {ps : List Pr} (h : OwnP w B (.slice (some ⟨g, 0, none⟩) n c) ps) : HoldsK encP 2 w g 0 ps.toArray ∧ g < w.heap.size ∧ B ≤ g ∧ n = ps.length := by
  rcases h.2 with ⟨e, _⟩ | ⟨g', cap, cur, e, hb, hg, hn, hc, hs, ht⟩
  · cases e
  · obtain ⟨e1, rfl, rfl⟩ := Value.slice.inj e
    have e2 : g = g' := by simpa using e1
    subst e2
    have hl := (Array.getElem?_eq_some_iff.1 hg).1
    refine ⟨?_, hl, hb, rfl⟩
    unfold HoldsK
    rw [flat_prs]
    intro j hj
    simp only [List.size_toArray] at hj
    constructor
    · have := World.ownsRow.cells h (g := g) rfl j ((prs ps)[j]) (List.getElem?_eq_getElem hj)
      rw [addr_plus] at this
      rw [this]
      simp [getElem!_pos, hj]
    · simp [World.frozen?, hg]

theorem grown_sortWorldK (w : World) (g n : Nat) (d : Array Pr) (os : Array Obj) : w.grownBy (sortWorldK encP 2 w g 0 n d os) (some g) := by
  refine ⟨rfl, rfl, rfl, size_sortWorldK_c encP 2 w g 0 n d os, fun k hk hne => ?_⟩
  have hne' : g ≠ k := fun e => hne (by rw [e])
  show ((w.heap.modify g _) ++ os)[k]? = _
  rw [Array.getElem?_append_left (by simpa using hk)]
  simp [Array.getElem?_modify, hne']

theorem prs_sortWorldK {w : World} {g c n : Nat} {d d' : Array Pr} {os : Array Obj} (h : HoldsK encP 2 w g 0 d) (hg : g < w.heap.size) (hs : d'.size = d.size) (hc : d.size ≤ c) (hm : c ≤ maxLen) :
    Prs (sortWorldK encP 2 w g 0 n d' os) (.slice (some ⟨g, 0, none⟩) d.size c) d'.toList := by
  have H := holdsK_sortWorldK_c encP 2 w g 0 d d' n os h hg hs
  have e : d'.toList.toArray = d' := by simp
  rw [← e] at H
  unfold HoldsK at H
  rw [flat_prs] at H
  refine .inr ⟨g, 0, c, by simp [hs], by simpa [hs] using hc, hm, Nat.lt_of_lt_of_le hg (size_sortWorldK_c encP 2 w g 0 n _ os), fun i hi => ?_⟩
  have hgg := prs_get d'.toList i hi
  have hl := prs_len d'.toList
  have a := (H (i * 2) (by simp only [List.size_toArray]; omega)).1
  have b := (H (i * 2 + 1) (by simp only [List.size_toArray]; omega)).1
  have l0 : i * 2 < (prs d'.toList).length := by omega
  have l1 : i * 2 + 1 < (prs d'.toList).length := by omega
  rw [List.getElem?_eq_getElem l0] at hgg
  rw [List.getElem?_eq_getElem l1] at hgg
  rw [e] at a b
  refine ⟨by rw [a]; rw [getElem!_pos _ _ (by simpa using l0)]; simpa using hgg.1, ?_⟩
  rw [Nat.add_assoc, b, getElem!_pos _ _ (by simpa using l1)]
  simpa using hgg.2

/-- The order of a list: none behind is less. -/
def SortedL (cf : Pr → Pr → Int) (qs : List Pr) : Prop := ∀ i j, i < j → j < qs.length → ltOf cf (pr qs j) (pr qs i) = false

set_option maxHeartbeats 1000000 in
theorem len_at (n : Nat) (w : World) (h : n ≤ 8) : Calls Tryz.prog 207 #[.int .u64 n] w fun e w' => (∃ l : Int, e = .returned (.int .i64 l)) ∧ w = w' := by
  rcases (by omega : n = 0 ∨ n = 1 ∨ n = 2 ∨ n = 3 ∨ n = 4 ∨ n = 5 ∨ n = 6 ∨ n = 7 ∨ n = 8) with rfl | rfl | rfl | rfl | rfl | rfl | rfl | rfl | rfl
  all_goals
    clear h
    go_enter Tryz.func207, Tryz.ntmps207
    go_wp2
    go_ret
    exact ⟨⟨_, rfl⟩, rfl⟩

section
variable (g : Nat) (cf : Pr → Pr → Int) (eg : ∀ args w, (callFunc g args).run Tryz.prog w = .ok (.enter g args) w) (hg : ∀ x y W, Calls Tryz.prog g #[.agg (encP x).toArray, .agg (encP y).toArray] W fun e w' => e = .returned (.int .i64 (cf x y)) ∧ ∃ q os, w' = grow (W.drewN q) os)
include eg hg

theorem insert_at (w : World) (k c : Nat) (d : Array Pr) (hH : HoldsK encP 2 w k 0 d) (hk : k < w.heap.size) (hn : d.size ≤ 8) :
    Calls Tryz.prog 208 #[.slice (some ⟨k, 0, none⟩) d.size c, .int .i64 0, .int .i64 d.size, .func (.func g) #[] #[]] w fun e w' => e = .returned (.tuple #[]) ∧ ∃ n os, w' = sortWorldK encP 2 w k 0 n (Sort.insertionSort (ltOf cf) d 0 d.size) os := by
  have h := AnyQ.insertionSortCmpFunc sortP 2 Tryz.isAgg117 Tryz.sizeOf117 encP (fun _ => rfl) (fun x v hv => by simp [encP] at hv; rcases hv with rfl | rfl <;> rfl) cf g #[] k 0 c 0 d.size d w eg
    (fun m os dk _ x y => hg x y _) hH hk (Nat.zero_le _) (Nat.le_refl _) (by omega)
  exact h

set_option maxHeartbeats 1000000 in
theorem sortFunc_some (w : World) (k c n : Nat) (d : Array Pr) (hs : d.size = n) (hH : HoldsK encP 2 w k 0 d) (hk : k < w.heap.size) (hn : n ≤ 8) :
    Calls Tryz.prog 202 #[.slice (some ⟨k, 0, none⟩) n c, .func (.func g) #[] #[]] w fun e w' => e = .returned (.tuple #[]) ∧ ∃ n os, w' = sortWorldK encP 2 w k 0 n (Sort.insertionSort (ltOf cf) d 0 d.size) os := by
  have hi : Hid (Calls Tryz.prog 208 #[.slice (some ⟨k, 0, none⟩) n c, .int .i64 0, .int .i64 n, .func (.func g) #[] #[]] w fun e w' => e = .returned (.tuple #[]) ∧ ∃ n os, w' = sortWorldK encP 2 w k 0 n (Sort.insertionSort (ltOf cf) d 0 d.size) os) := by
    have h := insert_at g cf eg hg w k c d hH hk (by omega)
    rw [hs] at h ⊢
    exact h
  clear hH hs
  have hp : Hid (∀ l : Int, Calls Tryz.prog 206 #[.slice (some ⟨k, 0, none⟩) n c, .int .i64 0, .int .i64 n, .int .i64 l, .func (.func g) #[] #[]] w fun e w' => e = .returned (.tuple #[]) ∧ ∃ n os, w' = sortWorldK encP 2 w k 0 n (Sort.insertionSort (ltOf cf) d 0 d.size) os) := fun l => by
    generalize Sort.insertionSort (ltOf cf) d 0 d.size = r at hi ⊢
    go_enter Tryz.func206, Tryz.ntmps206
    go_wp2
    refine wp_loop_rounds 1 ?_
    rw [rounds_succ]
    go_wp2_with fail
    refine hi.out.mono ?_
    rintro e w' ⟨rfl, n', os, rfl⟩
    go_wp2
    (try simp only [Exit.inBlock, Exit.then]); refine bodyPost_ret (results_none rfl _ _ _) rfl ?_
    exact ⟨rfl, n', os, rfl⟩
  generalize Sort.insertionSort (ltOf cf) d 0 d.size = r at hp ⊢
  have e0 : IntKind.u64.wrap (n : Int) = (n : Int) := by unfold IntKind.wrap; simp [IntKind.bits, IntKind.signed]; omega
  clear hi
  go_enter Tryz.func202, Tryz.ntmps202
  go_wp2_with fail
  refine (len_at n w hn).mono ?_
  rintro e w' ⟨⟨l, rfl⟩, rfl⟩
  go_wp2_with fail
  refine (hp.out l).mono ?_
  rintro e w' ⟨rfl, n', os, rfl⟩
  go_wp2
  go_end0
  exact ⟨rfl, n', os, rfl⟩

omit eg hg in
set_option maxHeartbeats 1000000 in
theorem sortFunc_none (w : World) : Calls Tryz.prog 202 #[.slice none 0 0, .func (.func g) #[] #[]] w fun e w' => e = .returned (.tuple #[]) ∧ w = w' := by
  have hi : Hid (Calls Tryz.prog 208 #[.slice none 0 0, .int .i64 0, .int .i64 0, .func (.func g) #[] #[]] w fun e w' => e = .returned (.tuple #[]) ∧ w = w') := by
    show Calls _ _ _ _ _
    go_enter Tryz.func208, Tryz.ntmps208
    go_wp2
    refine wp_loop_rounds 1 ?_
    rw [rounds_succ]
    go_wp2
    go_end0
    exact ⟨rfl, rfl⟩
  have hp : Hid (∀ l : Int, Calls Tryz.prog 206 #[.slice none 0 0, .int .i64 0, .int .i64 0, .int .i64 l, .func (.func g) #[] #[]] w fun e w' => e = .returned (.tuple #[]) ∧ w = w') := fun l => by
    go_enter Tryz.func206, Tryz.ntmps206
    go_wp2
    refine wp_loop_rounds 1 ?_
    rw [rounds_succ]
    go_wp2_with fail
    refine hi.out.mono ?_
    rintro e w' ⟨rfl, rfl⟩
    go_wp2
    (try simp only [Exit.inBlock, Exit.then]); refine bodyPost_ret (results_none rfl _ _ _) rfl ?_
    exact ⟨rfl, rfl⟩
  go_enter Tryz.func202, Tryz.ntmps202
  go_wp2_with fail
  refine (len_at 0 w (by omega)).mono ?_
  rintro e w' ⟨⟨l, rfl⟩, rfl⟩
  go_wp2_with fail
  refine (hp.out l).mono ?_
  rintro e w' ⟨rfl, rfl⟩
  go_wp2
  go_end0
  exact ⟨rfl, rfl⟩

theorem sortFunc_at (hS : SWO (ltOf cf)) (w : World) (B : Nat) (v : Value) (ps : List Pr) (h : OwnP w B v ps) (hn : ps.length ≤ 8) :
    Calls Tryz.prog 202 #[v, .func (.func g) #[] #[]] w fun e w' => e = .returned (.tuple #[]) ∧ ∃ qs : List Pr, qs.Perm ps ∧ SortedL cf qs ∧ Prs w' v qs ∧ w.grownBy w' v.ownBlock := by
  by_cases hv : v = .slice none 0 0
  · subst hv
    have h0 : ps = [] := by
      rcases h.2 with ⟨_, h0⟩ | ⟨g', cap, cur, e, _⟩
      · exact List.eq_nil_of_length_eq_zero h0
      · cases e
    subst h0
    refine (sortFunc_none g w).mono fun e w' ⟨he, hw⟩ => ⟨he, [], List.Perm.refl _, fun i j _ hj => (by cases hj), .inl ⟨rfl, rfl⟩, ?_⟩
    subst hw
    exact grownBy_refl _ _
  · rcases h.2 with ⟨e, _⟩ | ⟨k, c, cur, e, _, _, hnc, hcm, _⟩
    · exact absurd e hv
    · subst e
      have hh := h.holds
      refine (sortFunc_some g cf eg hg w k c ps.length ps.toArray (by simp) hh.1 hh.2.1 hn).mono fun e w' ⟨he, n, os, hw⟩ => ⟨he, ?_⟩
      have hi := insertionSort_holds (lt := ltOf cf) hS ps.toArray 0 ps.toArray.size (Nat.zero_le _) (Nat.le_refl _)
      obtain ⟨⟨hsz, _, hperm⟩, hsrt⟩ := hi
      generalize Sort.insertionSort (ltOf cf) ps.toArray 0 ps.toArray.size = d' at hw hsz hperm hsrt
      subst hw
      have hp := prs_sortWorldK (n := n) (os := os) (c := c) hh.1 hh.2.1 hsz (by simpa using hnc) hcm
      refine ⟨d'.toList, ?_, ?_, by simpa using hp, by simpa [Value.ownBlock] using grown_sortWorldK w k n d' os⟩
      · have e1 : (d'.extract 0 ps.toArray.size).toList = d'.toList := by simp [← hsz]
        have e2 : (ps.toArray.extract 0 ps.toArray.size).toList = ps := by simp
        rw [e1, e2] at hperm
        exact hperm
      · intro i j hij hj
        have h2 := hsrt i j (Nat.zero_le _) hij (by rw [← hsz]; simpa using hj)
        have f : ∀ k, k < d'.toList.length → pr d'.toList k = d'[k]! := fun k hk => by
          have hk' : k < d'.size := by simpa using hk
          rw [getElem!_pos d' k hk']; simp [pr, List.getD_eq_getElem?_getD, hk']
        rw [f j hj, f i (by omega)]
        exact h2
end

end Go.Proofs.YtnoilafoeaknjaaGreat.T

/-
  The pairs of a slice, ranged over and collected: slices.Values, slices.AppendSeq, slices.Collect.
-/
namespace Go.Proofs.YtnoilafoeaknjaaGreat.T
open Go.RowKit Go.Shelf

attribute [local go_sem] Oper.semAt_some

/-- The value v reads as pairs, in a block below n₀. -/
def InP (n₀ : Nat) (w : World) (v : Value) (ps : List Pr) : Prop :=
  (v = .slice none 0 0 ∧ ps = []) ∨
  ∃ b o c, v = .slice (some ⟨b, o, none⟩) ps.length c ∧ ps.length ≤ c ∧ c ≤ maxLen ∧ b < n₀ ∧ ∀ i, i < ps.length → w.cell? ⟨b, o + i * 2, none⟩ = some (.int .i64 (pr ps i).1) ∧ w.cell? ⟨b, o + i * 2 + 1, none⟩ = some (.int .i64 (pr ps i).2)
theorem InP.below {n₀ : Nat} {w w' : World} {v : Value} {ps : List Pr} (h : InP n₀ w v ps) (hb : Below n₀ w w') : InP n₀ w' v ps := by
  rcases h with h | ⟨b, o, c, e, h1, h2, h3, h4⟩
  · exact .inl h
  · exact .inr ⟨b, o, c, e, h1, h2, h3, fun i hi => ⟨(hb.cell (p := ⟨b, o + i * 2, none⟩) h3).trans (h4 i hi).1, (hb.cell (p := ⟨b, o + i * 2 + 1, none⟩) h3).trans (h4 i hi).2⟩⟩
theorem Prs.inP {w : World} {v : Value} {ps : List Pr} (h : Prs w v ps) : InP w.heap.size w v ps := h

set_option maxRecDepth 100000 in
set_option maxHeartbeats 2000000 in
theorem values1_some (n : Nat) (hn : 1 ≤ n) (l Bs n₀ b off len cap : Nat) (ps : List Pr) (hl : ps.length = len) (hm : len ≤ 1000) (hb : b < n₀) (J Jx : List Pr → World → Prop)
    (hY : ∀ pre (x : Pr) W, J pre W → pre.length < len → YieldAt Fence.wide (n - 1) Tryz.prog l #[.agg #[.int .i64 x.1, .int .i64 x.2]] W fun e W' =>
      (e = .returned (.bool true) ∧ J (pre ++ [x]) W' ∧ Below n₀ W W') ∨ (e = .returned (.bool false) ∧ Jx (pre ++ [x]) W'))
    (hJa : ∀ s W1 o, J s W1 → J s (W1.alloc o)) (W : World) (hW : n₀ ≤ W.heap.size) (hBs : W.cell? ⟨Bs, 0, none⟩ = some (.slice (some ⟨b, off, none⟩) len cap))
    (hc : ∀ i, i < len → W.cell? ⟨b, off + i * 2, none⟩ = some (.int .i64 (pr ps i).1) ∧ W.cell? ⟨b, off + i * 2 + 1, none⟩ = some (.int .i64 (pr ps i).2)) (h0 : J [] W) :
    CallsIn Fence.wide n Tryz.prog 203 #[.func (.yield l) #[] #[], .pointer (some ⟨Bs, 0, none⟩)] W fun e W' => (∃ v, e = .returned v) ∧
      ((∃ ys, ys = ps ∧ J ys W') ∨ (∃ pre, pre <+: ps ∧ Jx pre W')) := by
  have HY := Lib.hid hY
  have HA := Lib.hid hJa
  have HC := Lib.hid hc
  have HL := Lib.hid hl
  have H0 := Lib.hid h0
  clear hY hJa hc hl h0
  refine callsIn_of_wp Tryz.func203 rfl trivial ?_ rfl
  simp only [Tryz.ntmps203, List.size_toArray, List.length_cons, List.length_nil, Nat.reduceAdd, Nat.reduceSub, Array.replicate_succ, Array.replicate_zero, List.push_toArray, List.append_toArray, List.nil_append, List.cons_append]
  gi_wp2
  gi_loopw [7] (fun i wr => ∃ k : Nat, k ≤ len ∧ i = .int .i64 k ∧ J (ps.take k) wr ∧ Below n₀ W wr)
    (fun i _ => len - (intOf i).toNat)
  case atStart => exact ⟨0, Nat.zero_le _, rfl, by simpa using H0.out, Below.refl _ _⟩
  case round =>
    obtain ⟨k, hk, rfl, hJs, hnx⟩ := hrel
    have HJ := Lib.hid hJs
    have HX := Lib.hid hnx
    have hsz := hnx.size
    clear hJs hnx
    by_cases hlt : k < len
    · have h1 := (HX.out.cell (p := ⟨b, off + k * 2, none⟩) hb).trans (HC.out k hlt).1
      have h2 := (HX.out.cell (p := ⟨b, off + k * 2 + 1, none⟩) hb).trans (HC.out k hlt).2
      have hs : Hid (ps.take (k + 1) = ps.take k ++ [pr ps k]) := take_succ_pr ps k (by rw [HL.out]; exact hlt)
      have HLt : Hid ((ps.take k).length < len) := by show _ < _; have := HL.out; simp; omega
      generalize pr ps k = q at h1 h2 hs
      obtain ⟨t, m⟩ := q
      simp only at h1 h2
      obtain ⟨fn, tmps, assign, body, hy, hR⟩ := HY.out (ps.take k) (t, m) (wr.alloc (.cells #[.int .i64 t, .int .i64 m] 117)) (HA.out _ _ _ HJ.out) HLt.out
      dsimp only at hy
      gi_wp2
      refine hR.mono ?_
      rintro e W3 (⟨rfl, hJ3, hk3⟩ | ⟨rfl, hJx3⟩)
      · have B3 := Lib.hid (hk3)
        have J3 := Lib.hid hJ3
        clear hk3 hJ3 hR hy
        gi_wp2
        go_roundw
        case rel => exact ⟨k + 1, by omega, by simp, by rw [hs.out]; exact J3.out, (HX.out.alloc (by omega) _).trans B3.out⟩
        case measure => simp [intOf]; omega
      · have JX := Lib.hid hJx3
        have PF : Hid (ps.take k ++ [(t, m)] <+: ps) := by show _ <+: _; rw [← hs.out]; exact List.take_prefix _ _
        clear hJx3 hR hy
        gi_wp2
        refine bodyPost_ret (results_none rfl _ _ _) rfl ?_
        exact ⟨⟨_, rfl⟩, .inr ⟨_, PF.out, JX.out⟩⟩
    · obtain rfl : k = len := by omega
      have e1 : ps.take k = ps := List.take_of_length_le (by rw [HL.out]; exact Nat.le_refl _)
      have E1 := Lib.hid e1
      clear e1
      gi_wp2
      go_end0
      exact ⟨⟨_, rfl⟩, .inl ⟨ps, rfl, by have h := HJ.out; rw [E1.out] at h; exact h⟩⟩

set_option maxRecDepth 100000 in
set_option maxHeartbeats 1000000 in
theorem values1_nil (n : Nat) (l Bs : Nat) (J : List Pr → World → Prop) (W : World) (hBs : W.cell? ⟨Bs, 0, none⟩ = some (.slice none 0 0)) (h0 : J [] W) :
    CallsIn Fence.wide n Tryz.prog 203 #[.func (.yield l) #[] #[], .pointer (some ⟨Bs, 0, none⟩)] W fun e W' => (∃ v, e = .returned v) ∧ J [] W' := by
  have H0 := Lib.hid h0
  clear h0
  refine callsIn_of_wp Tryz.func203 rfl trivial ?_ rfl
  simp only [Tryz.ntmps203, List.size_toArray, List.length_cons, List.length_nil, Nat.reduceAdd, Nat.reduceSub, Array.replicate_succ, Array.replicate_zero, List.push_toArray, List.append_toArray, List.nil_append, List.cons_append]
  gi_wp2
  gi_loopw [7] (fun i wr => i = .int .i64 0 ∧ J [] wr) (fun _ _ => 0)
  case atStart => exact ⟨rfl, H0.out⟩
  case round =>
    obtain ⟨rfl, hJs⟩ := hrel
    have HJ := Lib.hid hJs
    clear hJs
    gi_wp2
    go_end0
    exact ⟨⟨_, rfl⟩, HJ.out⟩

theorem values_stops (n : Nat) (hn : 1 ≤ n) (Bs n₀ : Nat) (v : Value) (ps : List Pr) (hm : ps.length ≤ 1000) (w : World) (hBs : Bs < w.heap.size) (hn₀ : n₀ ≤ w.heap.size) (hc : w.cell? ⟨Bs, 0, none⟩ = some v) (hI : InP n₀ w v ps) :
    SeqStopsK Fence.wide n Tryz.prog 203 #[.pointer (some ⟨Bs, 0, none⟩)] (fun x : Pr => #[.agg #[.int .i64 x.1, .int .i64 x.2]]) (Below n₀) (fun ys => ys = ps) (fun pre => pre <+: ps) ps.length w := fun l J Jx W hW hJ _ hY h0 => by
  have hc' := (hW.cell (p := ⟨Bs, 0, none⟩) hBs).trans hc
  have hJa : ∀ s W1 o, J s W1 → J s (W1.alloc o) := fun s W1 o h => hJ s W1 _ none h (World.grownBy_alloc W1 o none) (fun r e => by cases e)
  rcases hI.below (hW.mono hn₀) with ⟨rfl, rfl⟩ | ⟨b, off, cap, rfl, h1, h2, hb, hcs⟩
  · exact (values1_nil n l Bs J W hc' h0).mono fun e W' ⟨he, hj⟩ => ⟨he, .inl ⟨_, rfl, hj⟩⟩
  · exact values1_some n hn l Bs n₀ b off ps.length cap ps rfl hm hb J Jx hY hJa W (Nat.le_trans hn₀ hW.size) hc' hcs h0

/-- Block B is a pair. -/
def Box2 (W : World) (B : Nat) (x : Pr) : Prop := W.heap[B]? = some (.cells #[.int .i64 x.1, .int .i64 x.2] 117 (0, 0))
theorem Box2.cell0 {W : World} {B : Nat} {x : Pr} (h : Box2 W B x) : W.cell? ⟨B, 0, none⟩ = some (.int .i64 x.1) := by unfold Box2 at h; simp [World.cell?, h]
theorem Box2.cell1 {W : World} {B : Nat} {x : Pr} (h : Box2 W B x) : W.cell? ⟨B, 1, none⟩ = some (.int .i64 x.2) := by unfold Box2 at h; simp [World.cell?, h]
theorem box2_own (B : Nat) (x : Pr) {X Y : World} {row : Option Nat} (h : Box2 X B x) (hg : X.grownBy Y row) (hr : ∀ r, row = some r → ∃ o : Obj, X.heap[r]? = some o ∧ o.isCells = false) : Box2 Y B x := by
  unfold Box2 at h ⊢
  refine (hg.block B (Array.getElem?_eq_some_iff.1 h).1 (fun e => ?_)).trans h
  obtain ⟨o, ho, hc⟩ := hr B e.symm
  rw [h] at ho
  cases ho
  cases hc

set_option maxRecDepth 100000 in
set_option maxHeartbeats 4000000 in
/-- slices.AppendSeq(nil, slices.Values(s)): the pairs of s, in memory of the call's own. -/
theorem appendSeq_at (w : World) (Bs : Nat) (v : Value) (ps : List Pr) (hm : ps.length ≤ 1000) (hc : w.cell? ⟨Bs, 0, none⟩ = some v) (hp : Prs w v ps) :
    CallsIn Fence.wide 8 Tryz.prog 205 #[.slice none 0 0, .func (.func 203) #[] #[.pointer (some ⟨Bs, 0, none⟩)]] w fun e w' => ∃ u, e = .returned u ∧ OwnP w' w.heap.size u ps ∧ Below w.heap.size w w' := by
  obtain ⟨i0, hi, hz0, hz1, hz2⟩ := info_parts pair_info
  have hBs := World.block_lt_of_cell? _ _ hc
  simp only at hBs
  have IA := Lib.hid hp.inP
  have hb0 := (Below.refl w.heap.size w).alloc (Nat.le_refl _) (.cells #[.slice none 0 0] 32)
  have B0 := Lib.hid hb0
  have C0 := Lib.hid (cell_later hb0 hc)
  have S0 : Hid ((w.alloc (.cells #[.slice none 0 0] 32)).heap.size = w.heap.size + 1) := by show _ = _; simp
  have X0 := Lib.hid (Go.Boxed.new w 32 (.slice none 0 0))
  have HM := Lib.hid hm
  clear hc hp hb0 hm
  refine callsIn_of_wp_marks Tryz.func205 rfl trivial ?_ rfl
  simp only [Tryz.ntmps205, List.size_toArray, List.length_cons, List.length_nil, Nat.reduceAdd, Nat.reduceSub, Array.replicate_succ, Array.replicate_zero, List.push_toArray, List.append_toArray, List.nil_append, List.cons_append]
  gi_wp2
  obtain ⟨W0, hW0⟩ : ∃ W0, W0 = w.alloc (.cells #[.slice none 0 0] 32) := ⟨_, rfl⟩
  rw [← hW0] at B0 C0 S0 X0 ⊢
  clear hW0
  refine wpIn_rangeFunc_ownH rfl (by omega) (gf := 203) (lb := #[.pointer (some ⟨Bs, 0, none⟩)]) rfl trivial (enters_of Tryz.func203 (by kernel_rfl) rfl)
    (values_stops 7 (by omega) Bs w.heap.size v ps HM.out W0 (by rw [S0.out]; omega) B0.out.size C0.out (IA.out.below B0.out)) belowK_t (belowK_b (by rw [S0.out]; omega)) (Below.refl _ _) (fun _ => rfl)
    (fun (pre : List Pr) W => (∃ u, Go.Boxed W w.heap.size 32 u ∧ W.ownsRow w.heap.size 117 2 u pre.length (prs pre) ∧ True) ∧ Below w.heap.size w W)
    (fun _ _ _ => False)
    (OwnFrom.and (Own.from (holdsRow_own w.heap.size w.heap.size 32 117 2 (fun pre : List Pr => pre.length) (fun pre => prs pre) (fun _ _ => True)) _) (ownFrom_below (Nat.le_refl _) (by rw [S0.out]; omega)))
    (fun _ _ _ _ _ hs _ _ => hs)
    ⟨⟨_, X0.out, World.ownsRow_nil _ _ _ _, trivial⟩, B0.out⟩
    (fun x a' W => ∃ Bx, w.heap.size < Bx ∧ Box2 W Bx x ∧ a' = { tmps := #[.slice none 0 0, .func (.func 203) #[] #[.pointer (some ⟨Bs, 0, none⟩)], .pointer (some ⟨w.heap.size, 0, none⟩), undef, .slice none 0 0, .pointer (some ⟨Bx, 0, none⟩), .func (.func 203) #[] #[.pointer (some ⟨Bs, 0, none⟩)], .agg #[.int .i64 x.1, .int .i64 x.2], undef, undef, undef, undef, undef], defers := [] })
    (fun x a' _ X Y row hs hg hr => by obtain ⟨Bx, h1, h2, h3⟩ := hs; exact ⟨Bx, h1, box2_own Bx x h2 hg (fun r e => (hr r e).2), h3⟩)
    ?assign ?body ?done ?stop
  case assign =>
    rintro l pre x W K ⟨⟨u, hu, hrow, _⟩, hB⟩ hK
    obtain ⟨t, m⟩ := x
    gi_wp2
    exact hK _ _ ((KeepsOthers.alloc _ _).from _) ((Below.refl _ W).alloc hB.size _) ⟨⟨u, hu.alloc _, hrow.alloc _, trivial⟩, hB.alloc hB.size _⟩ ⟨W.heap.size, hu.lt, heap_alloc_new W _, rfl⟩
  case body =>
    rintro l pre x a' W hl hr ⟨⟨u, hu, hrow, _⟩, hB⟩ ⟨Bx, hBx, bX, rfl⟩ hlt
    obtain ⟨t, m⟩ := x
    obtain ⟨xu, cu, rfl, _, _⟩ := (show OwnP W w.heap.size u pre from hrow).form
    obtain ⟨np, hnp⟩ : ∃ np, np = pre.length := ⟨_, rfl⟩
    have n1000 : np < 1000 := by have := HM.out; omega
    rw [← hnp] at hu hrow
    have NP := Lib.hid hnp
    have c0 := hu.cell
    have x0 := bX.cell0
    have x1 := bX.cell1
    have HBW := Lib.hid hB
    have lS := hB.size
    simp only at x0 x1
    clear hr hB hnp hlt bX
    gi_wp2_with (gi_at_builtin; refine wpListIn_append_own _ rfl _ _ 32 rfl w.heap.size 117 i0 (.agg #[.int .i64 0, .int .i64 0]) 2 16 Tryz.underlying32 hi hz0 hz1 hz2 rfl (by decide) _ _ _ rfl (hrow.alloc _) ⟨W.heap.size, 0, none⟩ 1 1 [.int .i64 t, .int .i64 m] rfl rfl (cell_two_new _ _ _ _) (by simp [Value.oneCell']) (by unfold maxLen; omega) (by omega) (by simp; omega) ?_; intro v' w1 hown' hgrow _; obtain ⟨g', cap', rfl⟩ := ownsRow_succ hown'; obtain ⟨hv1, hv2, hr2, hk2, hb2⟩ := hu.appended (by decide) hrow lS (Nat.le_refl _) hown' hgrow; have hc1 := hv1.cell; have hf1 := hv1.frozen)
    have R : (w1.setCell ⟨w.heap.size, 0, none⟩ (.slice (some ⟨g', 0, none⟩) (np + 1) cap')).ownsRow w.heap.size 117 2 (.slice (some ⟨g', 0, none⟩) (np + 1) cap') (pre ++ [(t, m)]).length (prs (pre ++ [(t, m)])) := by
      rw [List.length_append, ← NP.out, prs_snoc]
      exact hr2
    first
      | exact ⟨hk2.from _, hb2, ⟨_, hv2, R, trivial⟩, HBW.out.trans hb2⟩
      | exact ⟨hk2.from _, hb2, ⟨_, hv2, R⟩, HBW.out.trans hb2⟩
  case done =>
    rintro D xs W hD rfl ⟨⟨u, hu, hrow, _⟩, hB⟩ hK
    have c0 := hu.cell
    obtain ⟨xu, cu, rfl, _, _⟩ := (show OwnP W w.heap.size u xs from hrow).form
    obtain ⟨np, hnp⟩ : ∃ np, np = xs.length := ⟨_, rfl⟩
    rw [← hnp] at c0
    gi_wp2
    refine ⟨by simp, .inl ⟨_, _, rfl, run_takeDeferred hK, ?_⟩⟩
    have o3 := ownsRow_putObj hrow (.deferred none) hK rfl
    refine ⟨_, results_tmp rfl _ _ _, _, rfl, ?_, hB.trans (belowK_b (w := w) (Nat.le_refl _) W D _ _ (by have := S0.out; omega) hK rfl rfl)⟩
    exact o3
  case stop =>
    rintro D c pre W _ _ h _
    exact h.elim

end Go.Proofs.YtnoilafoeaknjaaGreat.T

/-
  Pairs in order: the program's inOrder, by things, and by numbers.
-/
namespace Go.Proofs.YtnoilafoeaknjaaGreat.T
open Go.RowKit Go.Sort Go.Shelf

theorem values_at (x : Option Addr) (n c : Nat) (w : World) : Calls Tryz.prog 185 #[.slice x n c] w fun e w' => e = .returned (.func (.func 203) #[] #[.pointer (some ⟨w.heap.size, 0, none⟩)]) ∧ w.alloc (.cells #[.slice x n c] 32) = w' := by
  go_enter Tryz.func185, Tryz.ntmps185
  go_wp2
  go_ret
  exact ⟨rfl, rfl⟩

theorem collect_at (w : World) (Bs : Nat) (v : Value) (ps : List Pr) (hm : ps.length ≤ 1000) (hc : w.cell? ⟨Bs, 0, none⟩ = some v) (hp : Prs w v ps) :
    Calls Tryz.prog 201 #[.func (.func 203) #[] #[.pointer (some ⟨Bs, 0, none⟩)]] w fun e w' => ∃ u, e = .returned u ∧ OwnP w' w.heap.size u ps ∧ Below w.heap.size w w' := by
  have K := Lib.hid (callsIn_wide.1 (appendSeq_at w Bs v ps hm hc hp))
  clear hc hp hm
  go_enter Tryz.func201, Tryz.ntmps201
  go_wp2_with fail
  refine K.out.mono ?_
  rintro e w1 ⟨u, rfl, ho, hb⟩
  obtain ⟨x, c, rfl, _, _⟩ := ho.form
  go_wp2
  go_ret
  exact ⟨_, rfl, ho, hb⟩

/-- What a sorting answers. -/
def Sorted (cf : Pr → Pr → Int) (w : World) (ps : List Pr) (w' : World) (u : Value) : Prop := ∃ qs : List Pr, qs.Perm ps ∧ SortedL cf qs ∧ Prs w' u qs ∧ Below w.heap.size w w'

theorem sortedFunc_at (g : Nat) (cf : Pr → Pr → Int) (eg : ∀ args w, (callFunc g args).run Tryz.prog w = .ok (.enter g args) w) (hg : ∀ x y W, Calls Tryz.prog g #[.agg (encP x).toArray, .agg (encP y).toArray] W fun e w' => e = .returned (.int .i64 (cf x y)) ∧ ∃ q os, w' = grow (W.drewN q) os) (hS : SWO (ltOf cf))
    (w : World) (Bs : Nat) (v : Value) (ps : List Pr) (hm : ps.length ≤ 8) (hc : w.cell? ⟨Bs, 0, none⟩ = some v) (hp : Prs w v ps) :
    Calls Tryz.prog 184 #[.func (.func 203) #[] #[.pointer (some ⟨Bs, 0, none⟩)], .func (.func g) #[] #[]] w fun e w' => ∃ u, e = .returned u ∧ Sorted cf w ps w' u := by
  have K := Lib.hid (collect_at w Bs v ps (by omega) hc hp)
  have KS : Hid (∀ W u, OwnP W w.heap.size u ps → Calls Tryz.prog 202 #[u, .func (.func g) #[] #[]] W fun e w' => e = .returned (.tuple #[]) ∧ ∃ qs : List Pr, qs.Perm ps ∧ SortedL cf qs ∧ Prs w' u qs ∧ W.grownBy w' u.ownBlock) := fun W u h => sortFunc_at g cf eg hg hS W w.heap.size u ps h hm
  clear hc hp hm eg hg hS
  go_enter Tryz.func184, Tryz.ntmps184
  go_wp2_with fail
  refine K.out.mono ?_
  rintro e w1 ⟨u, rfl, ho, hb⟩
  have KS1 := Lib.hid (KS.out w1 u ho)
  have LT := Lib.hid (fun k e => (World.ownsRow.lt ho k e).1)
  have HB := Lib.hid hb
  obtain ⟨x, c, rfl, _, _⟩ := ho.form
  clear ho hb
  go_wp2_with fail
  refine KS1.out.mono ?_
  rintro e w2 ⟨rfl, qs, h1, h2, h3, h4⟩
  have fin : Hid (Sorted cf w ps w2 (.slice x ps.length c)) := ⟨qs, h1, h2, h3, HB.out.grown h4 HB.out.size (fun k e => LT.out k e)⟩
  clear h1 h2 h3 h4
  go_wp2
  go_ret
  exact ⟨_, rfl, fin.out⟩

def cmpT (x y : Pr) : Int := cmpV x.1 y.1
theorem cmpV_neg (a b : Int) : cmpV a b < 0 ↔ a < b := by
  unfold cmpV
  by_cases h : a < b
  · simp [h]
  · by_cases h' : b < a <;> simp [h, h']
theorem cmpV_zero (a b : Int) : cmpV a b = 0 ↔ a = b := by
  unfold cmpV
  by_cases h : a < b
  · simp [h]; omega
  · by_cases h' : b < a
    · simp [h, h']; omega
    · simp [h, h']; omega
theorem ltT_iff (x y : Pr) : ltOf cmpT x y = true ↔ x.1 < y.1 := by
  simp only [ltOf, cmpT, decide_eq_true_eq, cmpV_neg]
theorem ltN_iff (x y : Pr) : ltOf cmpN x y = true ↔ y.2 < x.2 ∨ (y.2 = x.2 ∧ x.1 < y.1) := by
  simp only [ltOf, cmpN, orV]
  have h0 := cmpV_zero y.2 x.2
  have h1 := cmpV_neg y.2 x.2
  have h2 := cmpV_neg x.1 y.1
  split
  · rw [decide_eq_true_eq, h2]; omega
  · rw [decide_eq_true_eq, h1]; omega
theorem ltT_no (x y : Pr) : ltOf cmpT x y = false ↔ ¬ x.1 < y.1 := by rw [← ltT_iff]; simp
theorem ltN_no (x y : Pr) : ltOf cmpN x y = false ↔ ¬ (y.2 < x.2 ∨ (y.2 = x.2 ∧ x.1 < y.1)) := by rw [← ltN_iff]; simp
theorem swoT : SWO (ltOf cmpT) := ⟨fun x => by rw [ltT_no]; omega, fun x y z => by simp only [ltT_iff]; omega, fun x y z => by simp only [ltT_no]; omega⟩
theorem swoN : SWO (ltOf cmpN) := ⟨fun x => by rw [ltN_no]; omega, fun x y z => by simp only [ltN_iff]; omega, fun x y z => by simp only [ltN_no]; omega⟩

theorem egT : ∀ args w, (callFunc 182 args).run Tryz.prog w = .ok (.enter 182 args) w := enters_of Tryz.func182 (by kernel_rfl) rfl
theorem egN : ∀ args w, (callFunc 183 args).run Tryz.prog w = .ok (.enter 183 args) w := enters_of Tryz.func183 (by kernel_rfl) rfl
theorem hgT (x y : Pr) (W : World) : Calls Tryz.prog 182 #[.agg (encP x).toArray, .agg (encP y).toArray] W fun e w' => e = .returned (.int .i64 (cmpT x y)) ∧ ∃ q os, w' = grow (W.drewN q) os :=
  (againstThing_at x y W).mono fun e w' ⟨he, hw⟩ => ⟨he, 0, #[.cells #[.int .i64 x.1, .int .i64 x.2] 117 ] ++ #[.cells #[.int .i64 y.1, .int .i64 y.2] 117 ], by subst hw; rw [alloc_eq_grow, alloc_eq_grow, grow_grow]; rfl⟩

theorem againstNumE (x y : Pr) (W : World) : Calls Tryz.prog 183 #[.agg (encP x).toArray, .agg (encP y).toArray] W fun e w' => e = .returned (.int .i64 (cmpN x y)) ∧ ∃ q os, w' = grow (W.drewN q) os := againstNum_at x y W

set_option maxHeartbeats 2000000 in
theorem inOrderT_at (w : World) (v : Value) (ps : List Pr) (hp : Prs w v ps) (hn : ps.length ≤ 8) :
    Calls Tryz.prog 143 #[v, .int .i64 0] w fun e w' => ∃ u, e = .returned u ∧ Sorted cmpT w ps w' u := by
  obtain ⟨x, c, rfl, _, _⟩ := hp.form
  obtain ⟨n, hn'⟩ : ∃ n, n = ps.length := ⟨_, rfl⟩
  rw [← hn'] at hp ⊢
  obtain ⟨W0, hW0⟩ : ∃ W0, W0 = w.alloc (.cells #[.func (.func 182) #[] #[], .func (.func 183) #[] #[]] 187) := ⟨_, rfl⟩
  have B0 : Hid (Below w.heap.size w W0) := by show Below _ _ _; rw [hW0]; exact (Below.refl _ _).alloc (Nat.le_refl _) _
  have P0 := Lib.hid (hp.below B0.out (Nat.le_refl _))
  have c0 : W0.cell? ⟨w.heap.size, 0, none⟩ = some (.func (.func 182) #[] #[]) := by rw [hW0]; simp
  have l0 : w.heap.size < W0.heap.size := by rw [hW0]; simp
  have c1 : (W0.drew.alloc (.cells #[.slice x n c] 32)).cell? ⟨w.heap.size, 0, none⟩ = some (.func (.func 182) #[] #[]) := (World.cell?_alloc_lt (h := l0) ..).trans c0
  have KS : Hid (Calls Tryz.prog 184 #[.func (.func 203) #[] #[.pointer (some ⟨W0.heap.size, 0, none⟩)], .func (.func 182) #[] #[]] (W0.drew.alloc (.cells #[.slice x n c] 32)) fun e w' => ∃ u, e = .returned u ∧ Sorted cmpT (W0.drew.alloc (.cells #[.slice x n c] 32)) ps w' u) :=
    sortedFunc_at _ cmpT egT hgT swoT _ W0.heap.size (.slice x n c) ps hn (by rw [World.cell?_alloc_at (hn := by simp)]; simp) (Prs.below (show Prs W0.drew _ ps from P0.out) ((Below.refl _ _).alloc (Nat.le_refl _) _) (Nat.le_refl _))
  have HW := Lib.hid hW0
  clear hp hn hn' hW0
  go_enter Tryz.func143, Tryz.ntmps143
  go_wp2_with fail
  rw [← HW.out]
  clear HW
  go_wp2_with fail
  go_region_with (first
    | (go_at_call 185; refine (values_at x n c _).mono ?_; rintro e w1 ⟨rfl, rfl⟩)
    | (go_at_call 184; refine KS.out.mono ?_; rintro e w2 ⟨u, rfl, qs, h1, h2, h3, h4⟩; obtain ⟨xu, cu, rfl, _, _⟩ := h3.form))
  all_goals
    have fin : Hid (Sorted cmpT w ps w2 (.slice xu qs.length cu)) := ⟨qs, h1, h2, h3, (B0.out.trans (Below.drew (Below.refl _ _))).trans ((((Below.refl _ _).alloc (Nat.le_refl _) _).trans (h4.mono (by simp))).mono (by simpa using B0.out.size))⟩
    clear h1 h2 h3 h4
    go_wp2
    go_ret
    exact ⟨_, rfl, fin.out⟩

set_option maxHeartbeats 2000000 in
theorem inOrderN_at (w : World) (v : Value) (ps : List Pr) (hp : Prs w v ps) (hn : ps.length ≤ 8) :
    Calls Tryz.prog 143 #[v, .int .i64 1] w fun e w' => ∃ u, e = .returned u ∧ Sorted cmpN w ps w' u := by
  obtain ⟨x, c, rfl, _, _⟩ := hp.form
  obtain ⟨n, hn'⟩ : ∃ n, n = ps.length := ⟨_, rfl⟩
  rw [← hn'] at hp ⊢
  obtain ⟨W0, hW0⟩ : ∃ W0, W0 = w.alloc (.cells #[.func (.func 182) #[] #[], .func (.func 183) #[] #[]] 187) := ⟨_, rfl⟩
  have B0 : Hid (Below w.heap.size w W0) := by show Below _ _ _; rw [hW0]; exact (Below.refl _ _).alloc (Nat.le_refl _) _
  have P0 := Lib.hid (hp.below B0.out (Nat.le_refl _))
  have c0 : W0.cell? ⟨w.heap.size, 1, none⟩ = some (.func (.func 183) #[] #[]) := by rw [hW0]; simp
  have l0 : w.heap.size < W0.heap.size := by rw [hW0]; simp
  have c1 : (W0.drew.alloc (.cells #[.slice x n c] 32)).cell? ⟨w.heap.size, 1, none⟩ = some (.func (.func 183) #[] #[]) := (World.cell?_alloc_lt (h := l0) ..).trans c0
  have KS : Hid (Calls Tryz.prog 184 #[.func (.func 203) #[] #[.pointer (some ⟨W0.heap.size, 0, none⟩)], .func (.func 183) #[] #[]] (W0.drew.alloc (.cells #[.slice x n c] 32)) fun e w' => ∃ u, e = .returned u ∧ Sorted cmpN (W0.drew.alloc (.cells #[.slice x n c] 32)) ps w' u) :=
    sortedFunc_at _ cmpN egN againstNumE swoN _ W0.heap.size (.slice x n c) ps hn (by rw [World.cell?_alloc_at (hn := by simp)]; simp) (Prs.below (show Prs W0.drew _ ps from P0.out) ((Below.refl _ _).alloc (Nat.le_refl _) _) (Nat.le_refl _))
  have HW := Lib.hid hW0
  clear hp hn hn' hW0
  go_enter Tryz.func143, Tryz.ntmps143
  go_wp2_with fail
  rw [← HW.out]
  clear HW
  go_wp2_with fail
  go_region_with (first
    | (go_at_call 185; refine (values_at x n c _).mono ?_; rintro e w1 ⟨rfl, rfl⟩)
    | (go_at_call 184; refine KS.out.mono ?_; rintro e w2 ⟨u, rfl, qs, h1, h2, h3, h4⟩; obtain ⟨xu, cu, rfl, _, _⟩ := h3.form))
  all_goals
    have fin : Hid (Sorted cmpN w ps w2 (.slice xu qs.length cu)) := ⟨qs, h1, h2, h3, (B0.out.trans (Below.drew (Below.refl _ _))).trans ((((Below.refl _ _).alloc (Nat.le_refl _) _).trans (h4.mono (by simp))).mono (by simpa using B0.out.size))⟩
    clear h1 h2 h3 h4
    go_wp2
    go_ret
    exact ⟨_, rfl, fin.out⟩

end Go.Proofs.YtnoilafoeaknjaaGreat.T

/-
  The pairs of both, one behind the other: slices.Grow of nothing, slices.Concat of two.
-/
namespace Go.Proofs.YtnoilafoeaknjaaGreat.T
open Go.RowKit Go.Sort

theorem row_form {w : World} {B : Nat} {e : TypeId} {size n : Nat} {v : Value} {xs : List Value} (h : w.ownsRow B e size v n xs) : ∃ x c, v = .slice x n c := by
  rcases h.2 with ⟨rfl, h0⟩ | ⟨g, cap, cur, rfl, _⟩
  · exact ⟨none, 0, by rw [h0]⟩
  · exact ⟨_, _, rfl⟩
theorem prs_one (ps : List Pr) : ∀ u ∈ prs ps, u.oneCell' = true := by
  induction ps with
  | nil => intro u hu; cases hu
  | cons p ps ih =>
    intro u hu
    rw [prs_cons] at hu
    simp only [List.mem_cons] at hu
    rcases hu with rfl | rfl | hu
    · rfl
    · rfl
    · exact ih u hu
theorem Prs.news {w : World} {b o n c : Nat} {ps : List Pr} (h : Prs w (.slice (some ⟨b, o, none⟩) n c) ps) : ∀ j u, (prs ps)[j]? = some u → w.cell? ((⟨b, o, none⟩ : Addr).add j) = some u := fun j u hu => by
  have hj : j < (prs ps).length := (List.getElem?_eq_some_iff.1 hu).1
  rw [prs_len] at hj
  obtain ⟨b', o', e, _, h1, h2⟩ := h.cells (j / 2) (by omega)
  cases e
  have hg := prs_get ps (j / 2) (by omega)
  rw [addr_plus]
  rcases (by omega : j % 2 = 0 ∨ j % 2 = 1) with h0 | h0
  · have e : j = j / 2 * 2 := by omega
    rw [e] at hu ⊢
    rw [hg.1] at hu
    rw [h1, ← hu]
  · have e : j = j / 2 * 2 + 1 := by omega
    rw [e] at hu ⊢
    rw [hg.2] at hu
    rw [← Nat.add_assoc, h2, ← hu]

set_option maxRecDepth 100000 in
set_option maxHeartbeats 2000000 in
theorem growNil_at (n : Nat) (w : World) (hn : n ≤ 100) : Calls Tryz.prog 186 #[.slice none 0 0, .int .i64 n] w fun e w' => ∃ v, e = .returned v ∧ OwnP w' w.heap.size v [] ∧ Below w.heap.size w w' := by
  obtain ⟨i0, hi, hz0, hz1, hz2⟩ := info_parts pair_info
  by_cases h0 : n = 0
  · subst h0
    go_enter Tryz.func186, Tryz.ntmps186
    go_wp2
    go_ret
    exact ⟨_, rfl, OwnP.nil _ _, Below.refl _ _⟩
  · have h1 : ¬ ((n : Int) < 0) := by omega
    have h4 : (0 : Int) < (n : Int) := by omega
    have hrz : ∀ ty, (Builtin.append_ #[32, 3 ] ty #[.slice none 0 0, .int .i64 (n : Int)]).run Tryz.prog w =
        .ok (.slice (some ⟨w.heap.size, 0, none⟩) n (grownCap w n 0 117)) (w.drew.alloc (.cells ((([] : List Value).toArray ++ Builtin.zeroCells (Value.agg #[.int .i64 0, .int .i64 0]).cells n) ++ Builtin.zeroCells (Value.agg #[.int .i64 0, .int .i64 0]).cells (grownCap w n 0 117 - n)) 117)) := fun ty => by
      have h := Lib.run_append_grow_zeros w 32 3 ty 117 i0 _ .i64 .i64 Tryz.underlying32 Tryz.underlying3 hi hz0 none 0 0 [] (run_firstCells_none w.drew i0.size 0 0 0) n (by omega) (by rw [hz1]; omega) (by omega) (by omega) (by rw [hz2]; omega)
        (by rw [Nat.zero_add]; exact growslice_fits (by omega) (by rw [hz2]; omega))
      rw [Nat.zero_add] at h
      exact h
    have hGn : n ≤ grownCap w n 0 117 := grownCap_ge w _ _ _
    have hG63 := grownCap_le_maxLen w n 0 117 (by unfold maxLen; omega)
    have hsz : ∀ G, n ≤ G → ((([] : List Value).toArray ++ Builtin.zeroCells (Value.agg #[.int .i64 0, .int .i64 0]).cells n) ++ Builtin.zeroCells (Value.agg #[.int .i64 0, .int .i64 0]).cells (G - n)).size = G * 2 := fun G hG => by
      simp only [Array.size_append, size_zeroCells, Value.cells]
      simp
      omega
    obtain ⟨G, hG⟩ : ∃ G, G = grownCap w n 0 117 := ⟨_, rfl⟩
    rw [← hG] at hrz hGn hG63
    obtain ⟨CS, hCS⟩ : ∃ CS, CS = ((([] : List Value).toArray ++ Builtin.zeroCells (Value.agg #[.int .i64 0, .int .i64 0]).cells n) ++ Builtin.zeroCells (Value.agg #[.int .i64 0, .int .i64 0]).cells (G - n)) := ⟨_, rfl⟩
    have hs := hsz G hGn
    rw [← hCS] at hrz hs
    have FIN : Hid (OwnP (w.drew.alloc (.cells CS 117)) w.heap.size (.slice (some ⟨w.heap.size, 0, none⟩) 0 G) [] ∧ Below w.heap.size w (w.drew.alloc (.cells CS 117))) :=
      ⟨World.ownsRow_made w.drew CS G (Nat.le_refl _) hG63 hs, (Below.drew (Below.refl _ _)).alloc (Nat.le_refl _) _⟩
    have hGi : (n : Int) ≤ (G : Int) := by omega
    have hG0 : (0 : Int) ≤ (G : Int) := by omega
    have hG64 : (G : Int) ≤ 9223372036854775807 := by unfold maxLen at hG63; omega
    clear hG hCS hsz hs
    go_enter Tryz.func186, Tryz.ntmps186
    go_wp2_with (at_builtin; refine Lib.wpList_append_run _ rfl _ _ _ _ rfl _ _ rfl rfl _ _ (hrz _) ?_)
    go_ret
    exact ⟨_, rfl, FIN.out.1, FIN.out.2⟩

set_option maxRecDepth 100000 in
set_option maxHeartbeats 8000000 in
theorem concat_at (w : World) (g na nb ca cb : Nat) (x y : Option Addr) (ps qs : List Pr) (ha : ps.length = na) (hb : qs.length = nb) (la : na ≤ 8) (lb : nb ≤ 8) (hp : Prs w (.slice x na ca) ps) (hq : Prs w (.slice y nb cb) qs)
    (c0 : w.cell? ⟨g, 0, none⟩ = some (.slice x na ca)) (c1 : w.cell? ⟨g, 1, none⟩ = some (.slice y nb cb)) :
    Calls Tryz.prog 144 #[.slice (some ⟨g, 0, none⟩) 2 2] w fun e w' => ∃ v, e = .returned v ∧ OwnP w' w.heap.size v (ps ++ qs) ∧ Below w.heap.size w w' := by
  obtain ⟨i0, hi, hz0, hz1, hz2⟩ := info_parts pair_info
  have HA := Lib.hid ha
  have HB := Lib.hid hb
  have HP := Lib.hid hp
  have HQ := Lib.hid hq
  have C0 := Lib.hid c0
  have C1 := Lib.hid c1
  have n0 : ¬ (na : Int) < 0 := by omega
  have n1 : ¬ (na : Int) + (nb : Int) < 0 := by omega
  have KG : Hid (Calls Tryz.prog 186 #[.slice none 0 0, .int .i64 ((na : Int) + (nb : Int))] w fun e w' => ∃ v, e = .returned v ∧ OwnP w' w.heap.size v [] ∧ Below w.heap.size w w') := by
    have h := growNil_at (na + nb) w (by omega)
    rw [Int.natCast_add] at h
    exact h
  have NP : Hid (x = none → ps = [] ∧ na = 0 ∧ ca = 0) := fun e => by
    subst e
    rcases HP.out with ⟨e, h0⟩ | ⟨b, o, c, e, _⟩
    · injection e with e1 e2 e3; exact ⟨h0, e2, e3⟩
    · cases e
  have NQ : Hid (y = none → qs = [] ∧ nb = 0 ∧ cb = 0) := fun e => by
    subst e
    rcases HQ.out with ⟨e, h0⟩ | ⟨b, o, c, e, _⟩
    · injection e with e1 e2 e3; exact ⟨h0, e2, e3⟩
    · cases e
  have SX : Hid (∀ a, x = some a → ∃ b o, a = ⟨b, o, none⟩) := fun a e => by
    rcases HP.out with ⟨e', _⟩ | ⟨b, o, c, e', _⟩
    · rw [e] at e'; cases e'
    · rw [e] at e'; injection e' with e1; exact ⟨b, o, Option.some.inj e1⟩
  have SY : Hid (∀ a, y = some a → ∃ b o, a = ⟨b, o, none⟩) := fun a e => by
    rcases HQ.out with ⟨e', _⟩ | ⟨b, o, c, e', _⟩
    · rw [e] at e'; cases e'
    · rw [e] at e'; injection e' with e1; exact ⟨b, o, Option.some.inj e1⟩
  clear ha hb hp hq
  go_enter Tryz.func144, Tryz.ntmps144
  go_wp2
  refine wp_loop_rounds 3 ?_
  rw [rounds_succ]
  go_wp2
  rw [rounds_succ]
  go_wp2
  rw [rounds_succ]
  go_wp2_with fail
  refine KG.out.mono ?_
  rintro e w1 ⟨v, rfl, ho1, hb1⟩
  obtain ⟨z, cz, rfl, _, _⟩ := ho1.form
  have d0 := cell_later hb1 C0.out
  have d1 := cell_later hb1 C1.out
  have P1 := Lib.hid (HP.out.below hb1 (Nat.le_refl _))
  have Q1 := Lib.hid (HQ.out.below hb1 (Nat.le_refl _))
  have O1 : Hid (w1.ownsRow w.heap.size 117 2 (.slice z 0 cz) 0 []) := ho1
  have B1 := Lib.hid hb1
  have s1 := hb1.size
  have D1 := Lib.hid d1
  have gl : g < w.heap.size := World.block_lt_of_cell? _ _ C1.out
  clear ho1 hb1 c0 c1 KG
  simp only [List.length_nil]
  go_wp2
  refine wp_loop_rounds 3 ?_
  rw [rounds_succ]
  -- the first
  rcases hx : x with _ | ⟨bx, ox, sx⟩
  · subst hx
    obtain ⟨rfl, rfl, rfl⟩ := NP.out rfl
    rcases hy : y with _ | ⟨by', oy, sy⟩
    · subst hy
      obtain ⟨rfl, rfl, rfl⟩ := NQ.out rfl
      go_wp2_with (first | (at_builtin; refine wpList_append_own_none rfl _ _ 32 rfl w.heap.size 117 i0 2 Tryz.underlying32 hi (.slice z 0 cz) 0 [] rfl O1.out rfl ?_; have tok1 : True := trivial))
      rw [rounds_succ]
      go_wp2_with (first | (at_builtin; refine wpList_append_own_none rfl _ _ 32 rfl w.heap.size 117 i0 2 Tryz.underlying32 hi (.slice z 0 cz) 0 [] rfl O1.out rfl ?_; have tok2 : True := trivial))
      rw [rounds_succ]
      go_wp2
      go_ret
      exact ⟨_, rfl, O1.out, B1.out⟩
    · obtain ⟨by2, oy2, ey⟩ := SY.out _ hy
      obtain ⟨rfl, rfl, rfl⟩ : by' = by2 ∧ oy = oy2 ∧ sy = none := by injection ey with e1 e2 e3; exact ⟨e1, e2, e3⟩
      subst hy
      clear ey
      go_wp2_with (first | (at_builtin; refine wpList_append_own_none rfl _ _ 32 rfl w.heap.size 117 i0 2 Tryz.underlying32 hi (.slice z 0 cz) 0 [] rfl O1.out rfl ?_; have tok1 : True := trivial))
      rw [rounds_succ]
      go_wp2_with (first | (at_builtin; refine wpList_append_own _ rfl _ _ 32 rfl w.heap.size 117 i0 (.agg #[.int .i64 0, .int .i64 0]) 2 16 Tryz.underlying32 hi hz0 hz1 hz2 rfl (by decide) (.slice z 0 cz) 0 [] rfl O1.out ⟨by', oy, none⟩ nb cb (prs qs) rfl (by rw [prs_len, HB.out]) (Q1.out.news) (prs_one _) (by unfold maxLen; omega) (by omega) (by omega) ?_; intro v3 w3 ho3 hg3 _; have O3 := Lib.hid ho3; obtain ⟨z3, cz3, rfl⟩ := row_form ho3; have B3 := Lib.hid (B1.out.grown hg3 B1.out.size (fun k e => (O1.out.lt k e).1))))
      rw [rounds_succ]
      go_wp2
      go_ret
      refine ⟨_, rfl, ?_, B3.out⟩
      unfold OwnP
      have h := O3.out
      rw [← HB.out] at h ⊢
      simpa using h
  · obtain ⟨bx', ox', ex⟩ := SX.out _ hx
    obtain ⟨rfl, rfl, rfl⟩ : bx = bx' ∧ ox = ox' ∧ sx = none := by injection ex with e1 e2 e3; exact ⟨e1, e2, e3⟩
    subst hx
    clear ex
    rcases hy : y with _ | ⟨by', oy, sy⟩
    · subst hy
      obtain ⟨rfl, rfl, rfl⟩ := NQ.out rfl
      go_wp2_with (first | (at_builtin; refine wpList_append_own _ rfl _ _ 32 rfl w.heap.size 117 i0 (.agg #[.int .i64 0, .int .i64 0]) 2 16 Tryz.underlying32 hi hz0 hz1 hz2 rfl (by decide) (.slice z 0 cz) 0 [] rfl O1.out ⟨bx, ox, none⟩ na ca (prs ps) rfl (by rw [prs_len, HA.out]) (P1.out.news) (prs_one _) (by unfold maxLen; omega) (by omega) (by omega) ?_; intro v2 w2 ho2 hg2 _; simp only [Nat.zero_add, List.nil_append] at ho2; obtain ⟨z2, cz2, rfl⟩ := row_form ho2; have O2 := Lib.hid ho2; have B2 := Lib.hid (B1.out.grown hg2 B1.out.size (fun k e => (O1.out.lt k e).1)); have d2 := hg2.cell D1.out (fun e => by have := (O1.out.lt _ e.symm).1; simp only at this; omega); have s2 := hg2.size; have Q2 := Lib.hid (HQ.out.below B2.out (Nat.le_refl _))))
      rw [rounds_succ]
      go_wp2_with (first | (at_builtin; refine wpList_append_own_none rfl _ _ 32 rfl w.heap.size 117 i0 2 Tryz.underlying32 hi (.slice z2 na cz2) na (prs ps) rfl O2.out rfl ?_; have tok2 : True := trivial))
      rw [rounds_succ]
      go_wp2
      go_ret
      exact ⟨_, rfl, by rw [List.append_nil]; have h := O2.out; rw [← HA.out] at h ⊢; exact h, B2.out⟩
    · obtain ⟨by2, oy2, ey⟩ := SY.out _ hy
      obtain ⟨rfl, rfl, rfl⟩ : by' = by2 ∧ oy = oy2 ∧ sy = none := by injection ey with e1 e2 e3; exact ⟨e1, e2, e3⟩
      subst hy
      clear ey
      go_wp2_with (first | (at_builtin; refine wpList_append_own _ rfl _ _ 32 rfl w.heap.size 117 i0 (.agg #[.int .i64 0, .int .i64 0]) 2 16 Tryz.underlying32 hi hz0 hz1 hz2 rfl (by decide) (.slice z 0 cz) 0 [] rfl O1.out ⟨bx, ox, none⟩ na ca (prs ps) rfl (by rw [prs_len, HA.out]) (P1.out.news) (prs_one _) (by unfold maxLen; omega) (by omega) (by omega) ?_; intro v2 w2 ho2 hg2 _; simp only [Nat.zero_add, List.nil_append] at ho2; obtain ⟨z2, cz2, rfl⟩ := row_form ho2; have O2 := Lib.hid ho2; have B2 := Lib.hid (B1.out.grown hg2 B1.out.size (fun k e => (O1.out.lt k e).1)); have d2 := hg2.cell D1.out (fun e => by have := (O1.out.lt _ e.symm).1; simp only at this; omega); have s2 := hg2.size; have Q2 := Lib.hid (HQ.out.below B2.out (Nat.le_refl _))))
      rw [rounds_succ]
      go_wp2_with (first | (at_builtin; refine wpList_append_own _ rfl _ _ 32 rfl w.heap.size 117 i0 (.agg #[.int .i64 0, .int .i64 0]) 2 16 Tryz.underlying32 hi hz0 hz1 hz2 rfl (by decide) (.slice z2 na cz2) na (prs ps) rfl O2.out ⟨by', oy, none⟩ nb cb (prs qs) rfl (by rw [prs_len, HB.out]) (Q2.out.news) (prs_one _) (by unfold maxLen; omega) (by omega) (by omega) ?_; intro v3 w3 ho3 hg3 _; have O3 := Lib.hid ho3; obtain ⟨z3, cz3, rfl⟩ := row_form ho3; have B3 := Lib.hid (B2.out.grown hg3 B2.out.size (fun k e => (O2.out.lt k e).1))))
      rw [rounds_succ]
      go_wp2
      go_ret
      refine ⟨_, rfl, ?_, B3.out⟩
      unfold OwnP
      have h := O3.out
      rw [← HA.out, ← HB.out] at h ⊢
      rw [prs_append, List.length_append]
      exact h

end Go.Proofs.YtnoilafoeaknjaaGreat.T
