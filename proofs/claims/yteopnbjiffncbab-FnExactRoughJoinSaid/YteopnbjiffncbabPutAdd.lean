/-
  A thing that is counted: the model's FewAdd.
-/
import Derived.Test.YteopnbjiffncbabPut
import Derived.Test.YteopnbjiffncbabFew3
import Derived.Deep.RegionLaw
namespace Go.Proofs.Yteopnbjiffncbab
open Go.RowKit Go.Sort

def addOkF (zs : List Int) (t : Int) : Bool := fewB zs && inThings t
def addF (zs : List Int) (t : Int) : List Int := if addOkF zs t = true then putV zs (markV t) else []
theorem addF_len (zs : List Int) (t : Int) : (addF zs t).length ≤ 6 := by
  unfold addF; split
  · exact putV_len _ _
  · simp
theorem addF_yes {zs : List Int} {t : Int} (h : addOkF zs t = true) : addF zs t = putV zs (markV t) := if_pos h
theorem addF_no {zs : List Int} {t : Int} (h : addOkF zs t = false) : addF zs t = [] := if_neg (by rw [h]; simp)

set_option maxHeartbeats 2000000 in
theorem spFewAdd_no (w : World) (u : Value) (zs : List Int) (t : Int) (h : Ints w u zs) (hno : addOkF zs t = false) :
    Calls Try.prog 36 #[.agg #[u], .int .i64 t] w fun e w' => e = .returned (.tuple #[.agg #[.slice none 0 0], .bool false]) ∧ Below w.heap.size w w' := by
  have hA := ((Below.refl w.heap.size w).alloc (Nat.le_refl _) (.cells #[u] 46)).alloc (by simp) (.cells #[.slice none 0 0] 46)
  have K := Lib.hid (spFewOk_at _ u zs (h.below hA (Nat.le_refl _)))
  have HA := Lib.hid hA
  clear hA
  obtain ⟨⟨x, c, hx⟩, _⟩ := h.cases
  obtain ⟨n, hn⟩ : ∃ n, n = zs.length := ⟨_, rfl⟩
  rw [← hn] at hx
  subst hx
  clear h hn
  have cr : ((w.alloc (.cells #[.slice x n c] 46)).alloc (.cells #[.slice none 0 0] 46)).cell? ⟨w.heap.size + 1, 0, none⟩ = some (.slice none 0 0) := by rw [World.cell?_alloc_at (hn := by simp)]; simp
  have fr : ((w.alloc (.cells #[.slice x n c] 46)).alloc (.cells #[.slice none 0 0] 46)).frozen? ⟨w.heap.size + 1, 0, none⟩ = false := World.frozen?_alloc_at _ _ _ _ (by simp)
  cases hok : fewB zs with
  | false =>
    rw [hok] at K
    clear hok hno
    go_enter Try.func36, Try.ntmps36
    go_wp2_with fail
    refine K.out.mono ?_
    rintro e w1 ⟨rfl, hb1⟩
    have cr1 := cell_later hb1 cr
    have fr1 : w1.frozen? ⟨w.heap.size + 1, 0, none⟩ = false := by rw [hb1.frozen (by simp)]; exact fr
    go_wp2
    have hr := World.cell?_setCell_same w1 ⟨w.heap.size + 1, 0, none⟩ (.slice none 0 0) cr1
    exact bodyPost_ret (v := .tuple #[.agg #[.slice none 0 0], .bool false]) (by simp [results, Try.results36, go_sem, hr]) rfl ⟨rfl, (HA.out.trans (hb1.mono HA.out.size)).setCell (by simp) _⟩
  | true =>
    rw [hok] at K
    have ht : t < 0 ∨ 63 < t := by
      unfold addOkF at hno
      rw [hok] at hno
      have := (inThings_no t).1 (by simpa using hno)
      omega
    clear hok hno
    go_enter Try.func36, Try.ntmps36
    go_wp2_with fail
    refine K.out.mono ?_
    rintro e w1 ⟨rfl, hb1⟩
    have cr1 := cell_later hb1 cr
    have fr1 : w1.frozen? ⟨w.heap.size + 1, 0, none⟩ = false := by rw [hb1.frozen (by simp)]; exact fr
    go_wp2_with (go_at_call 50; refine (l6In_no _ _ _ _ ht).mono ?_; rintro e w' ⟨rfl, rfl⟩)
    have hr := World.cell?_setCell_same w1 ⟨w.heap.size + 1, 0, none⟩ (.slice none 0 0) cr1
    exact bodyPost_ret (v := .tuple #[.agg #[.slice none 0 0], .bool false]) (by simp [results, Try.results36, go_sem, hr]) rfl ⟨rfl, (HA.out.trans (hb1.mono HA.out.size)).setCell (by simp) _⟩

set_option maxHeartbeats 2000000 in
theorem spFewAdd_yes (w : World) (u : Value) (zs : List Int) (t : Int) (h : Ints w u zs) (hok : fewB zs = true) (t0 : 0 ≤ t) (t1 : t < 64) :
    Calls Try.prog 36 #[.agg #[u], .int .i64 t] w fun e w' => ∃ v, e = .returned (.tuple #[.agg #[v], .bool true]) ∧ OwnI w' w.heap.size v (putV zs (markV t)) ∧ Below w.heap.size w w' := by
  have hA := ((Below.refl w.heap.size w).alloc (Nat.le_refl _) (.cells #[u] 46)).alloc (by simp) (.cells #[.slice none 0 0] 46)
  have I := Lib.hid (h.below hA (Nat.le_refl _))
  have K := Lib.hid (spFewOk_at _ u zs I.out)
  rw [hok] at K
  have HA := Lib.hid hA
  have hl := (fewB_parts hok).1
  have t2 : t ≤ 63 := by omega
  have KM : Hid (∀ W, Calls Try.prog 64 #[.int .i64 t] W fun e w' => e = .returned (.int .i64 (markV t)) ∧ W = w') := fun W => spMark_at t W
  have KP : Hid (∀ W, Ints W u zs → Calls Try.prog 63 #[u, .int .i64 (markV t)] W fun e w' => ∃ v, e = .returned v ∧ OwnI w' W.heap.size v (putV zs (markV t)) ∧ Below W.heap.size W w') := fun W hW => l2Put_at W u zs _ hW (by omega)
  clear hA
  obtain ⟨⟨x, c, hx⟩, _⟩ := h.cases
  obtain ⟨n, hn⟩ : ∃ n, n = zs.length := ⟨_, rfl⟩
  rw [← hn] at hx
  subst hx
  generalize markV t = M at *
  clear h hn hok
  have cb : ((w.alloc (.cells #[.slice x n c] 46)).alloc (.cells #[.slice none 0 0] 46)).cell? ⟨w.heap.size, 0, none⟩ = some (.slice x n c) := by
    rw [World.cell?_alloc_past (hn := by simp)]; simp
  have cr : ((w.alloc (.cells #[.slice x n c] 46)).alloc (.cells #[.slice none 0 0] 46)).cell? ⟨w.heap.size + 1, 0, none⟩ = some (.slice none 0 0) := by rw [World.cell?_alloc_at (hn := by simp)]; simp
  have fr : ((w.alloc (.cells #[.slice x n c] 46)).alloc (.cells #[.slice none 0 0] 46)).frozen? ⟨w.heap.size + 1, 0, none⟩ = false := World.frozen?_alloc_at _ _ _ _ (by simp)
  go_enter Try.func36, Try.ntmps36
  go_wp2_with fail
  refine K.out.mono ?_
  rintro e w1 ⟨rfl, hb1⟩
  have cb1 := cell_later hb1 cb
  have cr1 := cell_later hb1 cr
  have fr1 : w1.frozen? ⟨w.heap.size + 1, 0, none⟩ = false := by rw [hb1.frozen (by simp)]; exact fr
  have B1 := Lib.hid (HA.out.trans (hb1.mono HA.out.size))
  have I1 := Lib.hid (I.out.below hb1 (Nat.le_refl _))
  have l1 : w.heap.size + 1 < w1.heap.size := World.block_lt_of_cell? _ _ cr1
  clear hb1 cb cr fr I
  go_wp2_with (go_at_call 50; refine (l6In_yes _ _ _ _ t0 t2).mono ?_; rintro e w' ⟨rfl, rfl⟩)
  have KPd : Hid (Calls Try.prog 63 #[.slice x n c, .int .i64 M] w1.drew fun e w' => ∃ v, e = .returned v ∧ OwnI w' w1.drew.heap.size v (putV zs M) ∧ Below w1.drew.heap.size w1.drew w') := KP.out w1.drew I1.out
  go_region_with (first | (go_at_call 64; refine (KM.out _).mono ?_; rintro e w' ⟨rfl, rfl⟩) | (go_at_call 63; refine KPd.out.mono ?_; rintro e w2 ⟨v, rfl, ho2, hb2⟩; obtain ⟨xv, cv, rfl⟩ := ho2.form; have cr2 := cell_later hb2 cr1; have fr2 : w2.frozen? ⟨w.heap.size + 1, 0, none⟩ = false := (hb2.frozen (p := ⟨w.heap.size + 1, 0, none⟩) l1).trans fr1))
  all_goals
    have ho3 := (ho2.kept (grownBy_setCell w2 ⟨w.heap.size + 1, 0, none⟩ (.slice xv (putV zs M).length cv)) (fun k e => by simp at e; simp; omega)).base (B' := w.heap.size) (by simp; omega)
    have hr := World.cell?_setCell_same w2 ⟨w.heap.size + 1, 0, none⟩ (.slice xv (putV zs M).length cv) cr2
    have hb3 : Below w.heap.size w (w2.setCell ⟨w.heap.size + 1, 0, none⟩ (.slice xv (putV zs M).length cv)) := ((B1.out.trans (Below.drew (Below.refl _ _))).trans (hb2.mono (by simp; omega))).setCell (by simp) _
    have HR := Lib.hid hr
    have H3 := Lib.hid ho3
    have HB3 := Lib.hid hb3
    clear hr ho3 hb3
    go_wp2
    have hr := HR.out
    exact bodyPost_ret (v := .tuple #[.agg #[.slice xv (putV zs M).length cv], .bool true]) (by simp [results, Try.results36, go_sem, hr]) rfl ⟨_, rfl, H3.out, HB3.out⟩

/-- The model's FewAdd at whatever marks. -/
theorem spFewAdd_at (w : World) (u : Value) (zs : List Int) (t : Int) (h : Ints w u zs) :
    Calls Try.prog 36 #[.agg #[u], .int .i64 t] w fun e w' => ∃ v, e = .returned (.tuple #[.agg #[v], .bool (addOkF zs t)]) ∧ OwnI w' w.heap.size v (addF zs t) ∧ Below w.heap.size w w' := by
  cases hok : addOkF zs t with
  | false =>
    rw [addF_no hok]
    exact (spFewAdd_no w u zs t h hok).mono fun e w' ⟨he, hb⟩ => ⟨_, he, OwnI.nil _ _, hb⟩
  | true =>
    rw [addF_yes hok]
    have h' : fewB zs = true ∧ inThings t = true := by unfold addOkF at hok; simpa using hok
    have ht := (inThings_iff t).1 h'.2
    exact spFewAdd_yes w u zs t h h'.1 ht.1 ht.2

end Go.Proofs.Yteopnbjiffncbab
