/-
  Two drawn lots of marks; what the laws of counting a thing, and of joining, ask of lists.
-/
import Derived.Test.YteopnbjiffncbacFDraw3
import Derived.Test.YteopnbjiffncbacBoth4
namespace Go.Proofs.Yteopnbjiffncbac
open Go.RowKit Go.Sort

theorem lkIntsB_at (w : World) (u v : Value) (za zb : List Int) (ha : Ints w u za) (hb : Ints w v zb) (hl : za.length ≤ 100) :
    Calls Try.prog 23 #[u, v] w fun e w' => e = .returned (.bool (decide (za = zb))) ∧ Below w.heap.size w w' :=
  (lkInts_at w u v za zb ha hb (by unfold maxLen; omega)).mono fun e w' ⟨he, m, hm⟩ => ⟨he, by rw [hm]; exact below_drewN (Below.refl _ _) _⟩

theorem ins_len (m : Int) (zs : List Int) : zs.length ≤ (ins m zs).length ∧ (ins m zs).length ≤ zs.length + 1 := by
  induction zs with
  | nil => simp [ins]
  | cons x xs ih =>
    unfold ins
    split
    · simp
    · split
      · simp
      · simp only [List.length_cons]; omega

/-- What was said of counting a thing twice. -/
theorem add_again {zs : List Int} {t : Int} (h : addOkF zs t = true) :
    fewB (addF zs t) = true ∧ addOkF (addF zs t) t = true ∧ addF (addF zs t) t = addF zs t ∧ zs.length ≤ (addF zs t).length ∧ (addF zs t).length ≤ zs.length + 1 := by
  have h' := h
  unfold addOkF at h'
  simp only [Bool.and_eq_true] at h'
  have az := few_asc h'.1
  have f1 : fewB (addF zs t) = true := by rw [← joinF_add]; exact joinF_few _ _
  have ok1 : addOkF (addF zs t) t = true := by unfold addOkF; rw [f1, h'.2]; rfl
  have e0 : addF zs t = joinV6 zs [markV t] := by rw [addF_yes h, put_join az]
  have e1 : addF (addF zs t) t = addF zs t := by
    rw [addF_yes ok1, put_join (few_asc f1), e0]
    exact join6_over az (by simp)
  have l6 := (fewB_parts h'.1).1
  have hl := ins_len (markV t) zs
  have el : addF zs t = (ins (markV t) zs).take 6 := by rw [e0]; rfl
  refine ⟨f1, ok1, e1, ?_, ?_⟩ <;> (rw [el, List.length_take]; omega)

/-- Counted one, and then the other, either way. -/
theorem add_swap {zs : List Int} {s t : Int} (h : addOkF zs s = true) :
    addOkF (addF zs s) t = (addOkF zs t && addOkF (addF zs t) s) ∧ (addOkF (addF zs s) t = true → addF (addF zs s) t = addF (addF zs t) s) := by
  have h' := h
  unfold addOkF at h'
  simp only [Bool.and_eq_true] at h'
  have az := few_asc h'.1
  have fs : ∀ r, fewB (addF zs r) = true := fun r => by rw [← joinF_add]; exact joinF_few _ _
  have e1 : addOkF (addF zs s) t = inThings t := by unfold addOkF; rw [fs]; rfl
  have e2 : addOkF zs t = inThings t := by unfold addOkF; rw [h'.1]; rfl
  have e3 : addOkF (addF zs t) s = true := by unfold addOkF; rw [fs, h'.2]; rfl
  refine ⟨by rw [e1, e2, e3, Bool.and_true], fun hk => ?_⟩
  have ht : addOkF zs t = true := by rw [e2, ← e1]; exact hk
  rw [addF_yes hk, addF_yes e3, put_join (few_asc (fs s)), put_join (few_asc (fs t)), addF_yes h, addF_yes ht, put_join az, put_join az]
  rw [join6_assoc az (by simp) (by simp), join6_assoc az (by simp) (by simp), join6_comm (zs := [markV s]) (by simp) (by simp)]

/-- Joined either way, with itself, and once more. -/
theorem join_laws {zs ys : List Int} (h : joinOkF zs ys = true) :
    fewB (joinF zs ys) = true ∧ (joinOkF ys zs = true ∧ joinF ys zs = joinF zs ys) ∧ (joinOkF zs zs = true ∧ joinF zs zs = zs) ∧ (joinOkF (joinF zs ys) ys = true ∧ joinF (joinF zs ys) ys = joinF zs ys) := by
  have h' := h
  unfold joinOkF at h'
  simp only [Bool.and_eq_true] at h'
  have az := few_asc h'.1
  have ay := few_asc h'.2
  have f1 := joinF_few zs ys
  have o1 : joinOkF ys zs = true := by unfold joinOkF; rw [h'.1, h'.2]; rfl
  have o2 : joinOkF zs zs = true := by unfold joinOkF; rw [h'.1]; rfl
  have o3 : joinOkF (joinF zs ys) ys = true := by unfold joinOkF; rw [f1, h'.2]; rfl
  refine ⟨f1, ⟨o1, ?_⟩, ⟨o2, ?_⟩, ⟨o3, ?_⟩⟩
  · rw [joinF_yes o1, joinF_yes h, join6_comm ay az]
  · rw [joinF_yes o2, join6_self az (fewB_parts h'.1).1]
  · rw [joinF_yes o3, joinF_yes h, join6_over az ay]

/-- It does not matter which two are joined first. -/
theorem join_three {zs ys xs : List Int} (h : joinOkF zs ys = true) :
    joinOkF (joinF zs ys) xs = (joinOkF ys xs && joinOkF zs (joinF ys xs)) ∧ (joinOkF (joinF zs ys) xs = true → joinF zs (joinF ys xs) = joinF (joinF zs ys) xs) := by
  have h' := h
  unfold joinOkF at h'
  simp only [Bool.and_eq_true] at h'
  have f1 := joinF_few zs ys
  have f2 := joinF_few ys xs
  have e1 : joinOkF (joinF zs ys) xs = fewB xs := by unfold joinOkF; rw [f1]; rfl
  have e2 : joinOkF ys xs = fewB xs := by unfold joinOkF; rw [h'.2]; rfl
  have e3 : joinOkF zs (joinF ys xs) = true := by unfold joinOkF; rw [h'.1, f2]; rfl
  refine ⟨by rw [e1, e2, e3, Bool.and_true], fun hk => ?_⟩
  have hx : fewB xs = true := by rw [← e1]; exact hk
  have h2 : joinOkF ys xs = true := by rw [e2]; exact hx
  rw [joinF_yes e3, joinF_yes hk, joinF_yes h, joinF_yes h2, join6_assoc (few_asc h'.1) (few_asc h'.2) (few_asc hx)]

set_option maxHeartbeats 2000000 in
theorem drawFJoin_at (w : World) (v : Value) (n : Nat) (h : ∃ x cap, v = .slice x n cap) (hb : Bts w w.heap.size v n) :
    Calls Try.prog 24 #[v] w fun e w' => ∃ x c zs y d ys, e = .returned (.tuple #[.agg #[.slice x zs.length c], .agg #[.slice y ys.length d]]) ∧ OwnI w' w.heap.size (.slice x zs.length c) zs ∧ OwnI w' w.heap.size (.slice y ys.length d) ys ∧ zs.length ≤ 7 ∧ ys.length ≤ 7 ∧ Below w.heap.size w w' := by
  have hA := ((Below.refl w.heap.size w).alloc (Nat.le_refl _) (.cells #[.slice none 0 0] 28)).alloc (by simp) (.cells #[.slice none 0 0] 28)
  obtain ⟨w0, hw0⟩ : ∃ w0, w0 = (w.alloc (.cells #[.slice none 0 0] 28)).alloc (.cells #[.slice none 0 0] 28) := ⟨_, rfl⟩
  have cr0 : w0.cell? ⟨w.heap.size, 0, none⟩ = some (.slice none 0 0) := by rw [hw0, World.cell?_alloc_past (hn := by simp)]; simp
  have fr0 : w0.frozen? ⟨w.heap.size, 0, none⟩ = false := by rw [hw0, World.frozen?_alloc_past (hn := by simp)]; simp
  have cs0 : w0.cell? ⟨w.heap.size + 1, 0, none⟩ = some (.slice none 0 0) := by rw [hw0, World.cell?_alloc_at (hn := by simp)]; simp
  have fs0 : w0.frozen? ⟨w.heap.size + 1, 0, none⟩ = false := by rw [hw0]; exact World.frozen?_alloc_at _ _ _ _ (by simp)
  have S0 : Hid (w0.heap.size = w.heap.size + 2) := by show w0.heap.size = _; rw [hw0]; simp
  rw [← hw0] at hA
  have K := Lib.hid (open_rd w0 v n h (bts_below hb hA))
  have HA := Lib.hid hA
  have HW := Lib.hid hw0
  clear h hb hA hw0
  go_enter Try.func24, Try.ntmps24
  go_wp2_with fail
  rw [← HW.out]
  refine K.out.mono ?_
  rintro e w1 ⟨rfl, hr1, hb1⟩
  have cr1 := cell_later hb1 cr0
  have fr1 := free_later hb1 fr0 (World.block_lt_of_cell? _ _ cr0)
  have cs1 := cell_later hb1 cs0
  have fs1 := free_later hb1 fs0 (World.block_lt_of_cell? _ _ cs0)
  have L1 := Lib.hid (HA.out.trans (hb1.mono HA.out.size))
  have R1 := Lib.hid hr1
  have ea : w0.heap.size ≠ w.heap.size := by have := S0.out; omega
  have eb : w0.heap.size ≠ w.heap.size + 1 := by have := S0.out; omega
  clear hb1 hr1 cr0 fr0 cs0 fs0 HW K
  go_wp2_with fail
  refine (few_at w1 w0.heap.size 0 R1.out (by omega) (by omega)).mono ?_
  rintro e w2 ⟨x, c, zs, q, rfl, own, hl, q0, q1, hr2, hE⟩
  have cr2 := hE.cell cr1 (Ne.symm ea)
  have fr2 := hE.free fr1 (World.block_lt_of_cell? _ _ cr1) (Ne.symm ea)
  have cs2 := hE.cell cs1 (Ne.symm eb)
  have fs2 := hE.free fs1 (World.block_lt_of_cell? _ _ cs1) (Ne.symm eb)
  have l1 : w0.heap.size < w1.heap.size := R1.out.lt
  have L2 := Lib.hid (L1.out.trans (else_below' hE (by have := S0.out; omega) L1.out.size))
  have O2 := Lib.hid own
  have R2 := Lib.hid hr2
  have HL := Lib.hid hl
  have E2 := Lib.hid hE.size
  clear hE own hl hr2 cr1 fr1 cs1 fs1
  obtain ⟨m, hm⟩ : ∃ m, m = zs.length := ⟨_, rfl⟩
  have HM := Lib.hid hm
  rw [← hm]
  clear hm
  go_wp2_with fail
  refine (few_at w2 w0.heap.size q R2.out (by omega) (by omega)).mono ?_
  rintro e w3 ⟨y, d, ys, q', rfl, own, hl, _, _, hr3, hE⟩
  have cr3 := hE.cell cr2 (Ne.symm ea)
  have fr3 := hE.free fr2 (World.block_lt_of_cell? _ _ cr2) (Ne.symm ea)
  have cs3 := hE.cell cs2 (Ne.symm eb)
  have fs3 := hE.free fs2 (World.block_lt_of_cell? _ _ cs2) (Ne.symm eb)
  have hL3 : Below w.heap.size w w3 := L2.out.trans (else_below' hE (by have := S0.out; omega) L2.out.size)
  have s1 := grownBy_setCell w3 ⟨w.heap.size, 0, none⟩ (.slice x zs.length c)
  have s2 := grownBy_setCell (w3.setCell ⟨w.heap.size, 0, none⟩ (.slice x zs.length c)) ⟨w.heap.size + 1, 0, none⟩ (.slice y ys.length d)
  have oz := (((O2.out.kept (row := some w0.heap.size) hE (fun k e => by cases e; exact l1)).kept s1 (fun k e => by simp at e; have := S0.out; omega)).kept s2 (fun k e => by simp at e; have := S0.out; omega)).base (B' := w.heap.size) (by have := S0.out; omega)
  have oy := ((own.kept s1 (fun k e => by simp at e; have := S0.out; have := E2.out; omega)).kept s2 (fun k e => by simp at e; have := S0.out; have := E2.out; omega)).base (B' := w.heap.size) (by have := S0.out; have := E2.out; omega)
  have hbb : Below w.heap.size w ((w3.setCell ⟨w.heap.size, 0, none⟩ (.slice x zs.length c)).setCell ⟨w.heap.size + 1, 0, none⟩ (.slice y ys.length d)) := (hL3.setCell (Nat.le_refl _) _).setCell (by simp) _
  rw [← HM.out] at oz oy hbb
  obtain ⟨p, hp⟩ : ∃ p, p = ys.length := ⟨_, rfl⟩
  rw [← hp] at oz oy hbb ⊢
  have HP := Lib.hid hp
  have OZ := Lib.hid oz
  have OY := Lib.hid oy
  have HB := Lib.hid hbb
  have HL' := Lib.hid hl
  have ct : (w3.setCell ⟨w.heap.size, 0, none⟩ (.slice x m c)).cell? ⟨w.heap.size + 1, 0, none⟩ = some (.slice none 0 0) := (World.cell?_setCell_other (h := by simp) ..).trans cs3
  have ft : (w3.setCell ⟨w.heap.size, 0, none⟩ (.slice x m c)).frozen? ⟨w.heap.size + 1, 0, none⟩ = false := by rw [World.frozen?_setCell]; exact fs3
  clear hE own hl hL3 s1 s2 oz oy hbb hp cr2 fr2 cs2 fs2
  go_wp2
  have hr1 : ((w3.setCell ⟨w.heap.size, 0, none⟩ (.slice x m c)).setCell ⟨w.heap.size + 1, 0, none⟩ (.slice y p d)).cell? ⟨w.heap.size, 0, none⟩ = some (.slice x m c) := (World.cell?_setCell_other (h := by simp) ..).trans (World.cell?_setCell_same _ _ _ cr3)
  have hr2 := World.cell?_setCell_same _ ⟨w.heap.size + 1, 0, none⟩ (.slice y p d) ct
  refine bodyPost_ret (v := .tuple #[.agg #[.slice x m c], .agg #[.slice y p d]]) (by simp [results, Try.results24, go_sem, hr1, hr2]) rfl ⟨x, c, zs, y, d, ys, by rw [HM.out, HP.out], ?_, ?_, HL.out, HL'.out, HB.out⟩
  · rw [← HM.out]; exact OZ.out
  · rw [← HP.out]; exact OY.out

end Go.Proofs.Yteopnbjiffncbac
