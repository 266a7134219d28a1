/-
  The program's FewJoin and FewAdd at whatever marks.
-/
import Derived.Test.YteopnbjiffncbabFMath
import Derived.Deep.RegionWith
namespace Go.Proofs.Yteopnbjiffncbab
open Go.RowKit Go.Sort

def joinOkF (zs ys : List Int) : Bool := fewB zs && fewB ys
def joinF (zs ys : List Int) : List Int := if joinOkF zs ys = true then joinV6 zs ys else []
theorem joinF_yes {zs ys : List Int} (h : joinOkF zs ys = true) : joinF zs ys = joinV6 zs ys := if_pos h
theorem joinF_no {zs ys : List Int} (h : joinOkF zs ys = false) : joinF zs ys = [] := if_neg (by rw [h]; simp)
theorem joinF_len (zs ys : List Int) : (joinF zs ys).length ≤ 6 := by
  unfold joinF; split
  · simp [joinV6]; omega
  · simp
theorem joinF_few (zs ys : List Int) : fewB (joinF zs ys) = true := by
  cases h : joinOkF zs ys with
  | true =>
    rw [joinF_yes h]
    unfold joinOkF at h
    simp only [Bool.and_eq_true] at h
    exact join6_few h.1 h.2
  | false => rw [joinF_no h]; decide

theorem free_later' {w w' : World} {a : Addr} (hb : Below w.heap.size w w') (h : w.frozen? a = false) (hl : a.block < w.heap.size) : w'.frozen? a = false := by rw [hb.frozen hl]; exact h

set_option maxHeartbeats 2000000 in
theorem imFewJoin_no (w : World) (u v : Value) (zs ys : List Int) (ha : Ints w u zs) (hb : Ints w v ys) (hno : joinOkF zs ys = false) :
    Calls Try.prog 41 #[.agg #[u], .agg #[v]] w fun e w' => e = .returned (.tuple #[.agg #[.slice none 0 0], .bool false]) ∧ Below w.heap.size w w' := by
  have hA := (((Below.refl w.heap.size w).alloc (Nat.le_refl _) (.cells #[u] 46)).alloc (by simp) (.cells #[v] 46)).alloc (by simp; omega) (.cells #[.slice none 0 0] 46)
  have KA := Lib.hid (imFewOk_at _ u zs (ha.below hA (Nat.le_refl _)))
  have JB := Lib.hid (hb.below hA (Nat.le_refl _))
  have HA := Lib.hid hA
  obtain ⟨⟨x, c, hx⟩, _⟩ := ha.cases
  obtain ⟨⟨y, d, hy⟩, _⟩ := hb.cases
  obtain ⟨na, hna⟩ : ∃ n, n = zs.length := ⟨_, rfl⟩
  obtain ⟨nb, hnb⟩ : ∃ n, n = ys.length := ⟨_, rfl⟩
  rw [← hna] at hx
  rw [← hnb] at hy
  subst hx hy
  obtain ⟨w0, hw0⟩ : ∃ w0, w0 = ((w.alloc (.cells #[.slice x na c] 46)).alloc (.cells #[.slice y nb d] 46)).alloc (.cells #[.slice none 0 0] 46) := ⟨_, rfl⟩
  have c1 : w0.cell? ⟨w.heap.size + 1, 0, none⟩ = some (.slice y nb d) := by rw [hw0, World.cell?_alloc_past (hn := by simp), World.cell?_alloc_at (hn := by simp)]; simp
  have c2 : w0.cell? ⟨w.heap.size + 1 + 1, 0, none⟩ = some (.slice none 0 0) := by rw [hw0, World.cell?_alloc_at (hn := by simp)]; simp
  have f2 : w0.frozen? ⟨w.heap.size + 1 + 1, 0, none⟩ = false := by rw [hw0]; exact World.frozen?_alloc_at _ _ _ _ (by simp)
  rw [← hw0] at KA JB HA
  have HW := Lib.hid hw0
  clear ha hb hA hna hnb hw0
  cases hok : fewB zs with
  | false =>
    rw [hok] at KA
    clear hok hno
    go_enter Try.func41, Try.ntmps41
    go_wp2_with fail
    rw [← HW.out]
    refine KA.out.mono ?_
    rintro e w1 ⟨rfl, hb1⟩
    have c21 := cell_later hb1 c2
    have f21 : w1.frozen? ⟨w.heap.size + 1 + 1, 0, none⟩ = false := free_later' hb1 f2 (World.block_lt_of_cell? _ _ c2)
    have L1 := Lib.hid (HA.out.trans (hb1.mono HA.out.size))
    clear hb1
    go_wp2
    have hr := World.cell?_setCell_same w1 ⟨w.heap.size + 1 + 1, 0, none⟩ (.slice none 0 0) c21
    exact bodyPost_ret (v := .tuple #[.agg #[.slice none 0 0], .bool false]) (by simp [results, Try.results41, go_sem, hr]) rfl ⟨rfl, L1.out.setCell (by simp; omega) _⟩
  | true =>
    rw [hok] at KA
    have okb : fewB ys = false := by unfold joinOkF at hno; rw [hok] at hno; simpa using hno
    clear hok hno
    go_enter Try.func41, Try.ntmps41
    go_wp2_with fail
    rw [← HW.out]
    refine KA.out.mono ?_
    rintro e w1 ⟨rfl, hb1⟩
    have c11 := cell_later hb1 c1
    have c21 := cell_later hb1 c2
    have f21 : w1.frozen? ⟨w.heap.size + 1 + 1, 0, none⟩ = false := free_later' hb1 f2 (World.block_lt_of_cell? _ _ c2)
    have KB := Lib.hid (imFewOk_at w1 _ ys (JB.out.below hb1 (Nat.le_refl _)))
    rw [okb] at KB
    have L1 := Lib.hid (HA.out.trans (hb1.mono HA.out.size))
    clear hb1
    go_wp2_with fail
    refine KB.out.mono ?_
    rintro e w2 ⟨rfl, hb2⟩
    have c22 := cell_later hb2 c21
    have f22 : w2.frozen? ⟨w.heap.size + 1 + 1, 0, none⟩ = false := free_later' hb2 f21 (World.block_lt_of_cell? _ _ c21)
    have L2 := Lib.hid (L1.out.trans (hb2.mono L1.out.size))
    clear hb2
    go_wp2
    have hr := World.cell?_setCell_same w2 ⟨w.heap.size + 1 + 1, 0, none⟩ (.slice none 0 0) c22
    exact bodyPost_ret (v := .tuple #[.agg #[.slice none 0 0], .bool false]) (by simp [results, Try.results41, go_sem, hr]) rfl ⟨rfl, L2.out.setCell (by simp; omega) _⟩

theorem imFewJoin_at (w : World) (u v : Value) (zs ys : List Int) (ha : Ints w u zs) (hb : Ints w v ys) :
    Calls Try.prog 41 #[.agg #[u], .agg #[v]] w fun e w' => ∃ v', e = .returned (.tuple #[.agg #[v'], .bool (joinOkF zs ys)]) ∧ OwnI w' w.heap.size v' (joinF zs ys) ∧ Below w.heap.size w w' := by
  cases hok : joinOkF zs ys with
  | false =>
    rw [joinF_no hok]
    exact (imFewJoin_no w u v zs ys ha hb hok).mono fun e w' ⟨he, hb⟩ => ⟨_, he, OwnI.nil _ _, hb⟩
  | true =>
    rw [joinF_yes hok]
    have h' := hok
    unfold joinOkF at h'
    simp only [Bool.and_eq_true] at h'
    rw [← both_join (few_asc h'.1) (few_asc h'.2) (fun z h => (few_bd h'.1 z h).2) (fun z h => (few_bd h'.2 z h).2)]
    exact imFewJoin_yes w u v zs ys ha hb h'.1 h'.2

theorem few_one (t : Int) : fewB [markV t] = inThings t := by
  cases h : inThings t with
  | true =>
    have ht := (inThings_iff t).1 h
    have := markV_in ht.1 ht.2
    exact few_of (by simp) (fun z hz => by simp at hz; subst hz; exact this) (by simp)
  | false =>
    have ht := (inThings_no t).1 h
    rw [markV_no ht]
    decide
theorem join_add (zs : List Int) (t : Int) : joinOkF zs [markV t] = addOkF zs t := by unfold joinOkF addOkF; rw [few_one]
theorem joinF_add (zs : List Int) (t : Int) : joinF zs [markV t] = addF zs t := by
  cases h : addOkF zs t with
  | true =>
    rw [addF_yes h, joinF_yes (by rw [join_add]; exact h)]
    unfold addOkF at h
    simp only [Bool.and_eq_true] at h
    exact (put_join (few_asc h.1) _).symm
  | false => rw [addF_no h, joinF_no (by rw [join_add]; exact h)]

end Go.Proofs.Yteopnbjiffncbab
