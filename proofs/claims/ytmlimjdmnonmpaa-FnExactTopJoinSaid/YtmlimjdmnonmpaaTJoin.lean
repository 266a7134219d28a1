/-
  Joined: the program's TopJoin and its model's.
-/
import Derived.Test.YtmlimjdmnonmpaaTMath
import Derived.Laws.AppendOwnNone
namespace Go.Proofs.Ytmlimjdmnonmpaa
open Go.RowKit Go.Sort

def joinOk (ps : List Pr) (la aa : Int) (qs : List Pr) (lb ab : Int) : Bool := topB ps la aa && (topB qs lb ab && decide (aa + ab ≤ 2000))
def joinT (ps : List Pr) (la aa : Int) (qs : List Pr) (lb ab : Int) : Tp := if joinOk ps la aa qs lb ab then (cutP (bothP ps qs), la + lb + overV (bothP ps qs), aa + ab) else noneT
theorem joinT_no {ps qs : List Pr} {la aa lb ab : Int} (h : joinOk ps la aa qs lb ab = false) : joinT ps la aa qs lb ab = noneT := by simp [joinT, h]
theorem joinT_yes {ps qs : List Pr} {la aa lb ab : Int} (h : joinOk ps la aa qs lb ab = true) : joinT ps la aa qs lb ab = (cutP (bothP ps qs), la + lb + overV (bothP ps qs), aa + ab) := by simp [joinT, h]
theorem joinOk_cases (ps : List Pr) (la aa : Int) (qs : List Pr) (lb ab : Int) : (topB ps la aa = false ∧ joinOk ps la aa qs lb ab = false) ∨ (topB ps la aa = true ∧ topB qs lb ab = false ∧ joinOk ps la aa qs lb ab = false) ∨ (topB ps la aa = true ∧ topB qs lb ab = true ∧ 2000 < aa + ab ∧ joinOk ps la aa qs lb ab = false) ∨ (topB ps la aa = true ∧ topB qs lb ab = true ∧ aa + ab ≤ 2000 ∧ joinOk ps la aa qs lb ab = true) := by
  unfold joinOk
  cases h : topB ps la aa
  · exact .inl ⟨rfl, rfl⟩
  · cases h' : topB qs lb ab
    · exact .inr (.inl ⟨rfl, rfl, rfl⟩)
    · by_cases ha : aa + ab ≤ 2000
      · exact .inr (.inr (.inr ⟨rfl, rfl, ha, by simp [ha]⟩))
      · exact .inr (.inr (.inl ⟨rfl, rfl, by omega, by simp [ha]⟩))

/-- The three boxes that a join begins with. -/
theorem three_boxes (w : World) (x0 x1 x2 y0 y1 y2 : Value) :
    Box3 (((w.alloc (.cells #[x0, x1, x2] 25)).alloc (.cells #[y0, y1, y2] 25)).alloc (.cells #[.slice none 0 0, .int .i64 0, .int .i64 0] 25)) w.heap.size 25 x0 x1 x2 ∧
    Box3 (((w.alloc (.cells #[x0, x1, x2] 25)).alloc (.cells #[y0, y1, y2] 25)).alloc (.cells #[.slice none 0 0, .int .i64 0, .int .i64 0] 25)) (w.heap.size + 1) 25 y0 y1 y2 ∧
    Box3 (((w.alloc (.cells #[x0, x1, x2] 25)).alloc (.cells #[y0, y1, y2] 25)).alloc (.cells #[.slice none 0 0, .int .i64 0, .int .i64 0] 25)) (w.heap.size + 1 + 1) 25 (.slice none 0 0) (.int .i64 0) (.int .i64 0) ∧
    Below w.heap.size w (((w.alloc (.cells #[x0, x1, x2] 25)).alloc (.cells #[y0, y1, y2] 25)).alloc (.cells #[.slice none 0 0, .int .i64 0, .int .i64 0] 25)) := by
  refine ⟨((Box3.new _ _ _ _ _).alloc _).alloc _, ?_, ?_, (((Below.refl _ _).alloc (Nat.le_refl _) _).alloc (by simp) _).alloc (by simp; omega) _⟩
  · have h := Box3.new (w.alloc (.cells #[x0, x1, x2] 25)) 25 y0 y1 y2
    have e : (w.alloc (.cells #[x0, x1, x2] 25)).heap.size = w.heap.size + 1 := by simp
    rw [e] at h
    exact h.alloc _
  · have h := Box3.new ((w.alloc (.cells #[x0, x1, x2] 25)).alloc (.cells #[y0, y1, y2] 25)) 25 (.slice none 0 0) (.int .i64 0) (.int .i64 0)
    have e : ((w.alloc (.cells #[x0, x1, x2] 25)).alloc (.cells #[y0, y1, y2] 25)).heap.size = w.heap.size + 1 + 1 := by simp
    rw [e] at h
    exact h

theorem BdP.tot {M : Int} {ps : List Pr} (h : BdP M ps) (hM : 0 ≤ M) (t : Int) : 0 ≤ tot ps t ∧ tot ps t ≤ M * ps.length := by
  induction ps with
  | nil => simp [Ytmlimjdmnonmpaa.tot]
  | cons p ps ih =>
    have h1 := ih (fun q hq => h q (by simp [hq]))
    have h2 := h p (by simp)
    have e : M * ((p :: ps).length : Int) = M * (ps.length : Int) + M := by simp [Int.mul_add]
    rw [e]
    simp only [Ytmlimjdmnonmpaa.tot]
    split <;> omega
theorem bothP_bd {ps qs : List Pr} (ua : Up ps) (ba : BdP 2000 ps) (bb : BdP 2000 qs) (pa : Pos ps) (pb : Pos qs) (lb : qs.length ≤ 4) : BdP 16000 (bothP ps qs) := fun p hp => by
  have hb := bothP_all ps qs ua pa pb
  have h0 := hb.2.1 p hp
  obtain ⟨i, hi, rfl⟩ := pr_at hp
  have e := hb.1.asc.at hi
  rw [hb.2.2.2] at e
  have h2 := bb.tot (by omega) (pr (bothP ps qs) i).1
  have h1 : tot ps (pr (bothP ps qs) i).1 ≤ 2000 := by
    by_cases hx : ∃ j, j < ps.length ∧ (pr ps j).1 = (pr (bothP ps qs) i).1
    · obtain ⟨j, hj, ej⟩ := hx
      rw [← ej, ua.asc.at hj]
      exact (ba.at j hj).2
    · rw [tot_none fun q hq ej => by obtain ⟨j, hj, rfl⟩ := pr_at hq; exact hx ⟨j, hj, ej⟩]
      omega
  omega

set_option maxRecDepth 100000 in
set_option maxHeartbeats 8000000 in
theorem imTopJoin_no (w : World) (u v : Value) (ps qs : List Pr) (la aa lb ab : Int) (hp : Prs w u ps) (hq : Prs w v qs) (hno : joinOk ps la aa qs lb ab = false) :
    Calls Try.prog 23 #[.agg #[u, .int .i64 la, .int .i64 aa], .agg #[v, .int .i64 lb, .int .i64 ab]] w fun e w' => e = .returned (.tuple #[.agg #[.slice none 0 0, .int .i64 0, .int .i64 0], .bool false]) ∧ Below w.heap.size w w' := by
  obtain ⟨x, ca, rfl, _, _⟩ := hp.form
  obtain ⟨y, cb, rfl, _, _⟩ := hq.form
  obtain ⟨na, hna⟩ : ∃ na, na = ps.length := ⟨_, rfl⟩
  obtain ⟨nb, hnb⟩ : ∃ nb, nb = qs.length := ⟨_, rfl⟩
  rw [← hna] at hp ⊢
  rw [← hnb] at hq ⊢
  obtain ⟨X0, Y0, R0, hA⟩ := three_boxes w (.slice x na ca) (.int .i64 la) (.int .i64 aa) (.slice y nb cb) (.int .i64 lb) (.int .i64 ab)
  obtain ⟨W0, hW0⟩ : ∃ W0, W0 = (((w.alloc (.cells #[.slice x na ca, .int .i64 la, .int .i64 aa] 25)).alloc (.cells #[.slice y nb cb, .int .i64 lb, .int .i64 ab] 25)).alloc (.cells #[.slice none 0 0, .int .i64 0, .int .i64 0] 25)) := ⟨_, rfl⟩
  rw [← hW0] at X0 Y0 R0 hA
  have HW0 := Lib.hid hW0
  have HA := Lib.hid hA
  have PA := Lib.hid (hp.below hA (Nat.le_refl _))
  have PB := Lib.hid (hq.below hA (Nat.le_refl _))
  have KA := Lib.hid (imTopOk_at W0 _ ps la aa PA.out)
  have KB : Hid (∀ W, Below W0.heap.size W0 W → Calls Try.prog 12 #[.agg #[.slice y nb cb, .int .i64 lb, .int .i64 ab]] W fun e w' => e = .returned (.bool (topB qs lb ab)) ∧ Below W.heap.size W w') := fun W h => imTopOk_at W _ qs lb ab (PB.out.below h (Nat.le_refl _))
  have x0 := X0.cell0
  have x1 := X0.cell1
  have x2 := X0.cell2
  have y0 := Y0.cell0
  have y1 := Y0.cell1
  have y2 := Y0.cell2
  have HC := Lib.hid (joinOk_cases ps la aa qs lb ab)
  have HNO := Lib.hid hno
  clear hp hq hna hnb hW0 hA hno
  rcases HC.out with ⟨ha, _⟩ | ⟨ha, hb', _⟩ | ⟨ha, hb', hs, _⟩ | ⟨_, _, _, h⟩
  · rw [ha] at KA
    clear ha KB HC
    go_enter Try.func23, Try.ntmps23
    go_wp2_with fail
    rw [← HW0.out]
    clear HW0
    go_wp2_with fail
    refine KA.out.mono ?_
    rintro e w1 ⟨rfl, hb⟩
    have R1 := R0.later hb
    have B1 := HA.out.trans (hb.mono HA.out.size)
    clear x0 x1 x2 y0 y1 y2 X0 Y0 R0 hb
    have z0 := R1.cell0
    have z1 := R1.cell1
    have z2 := R1.cell2
    have f2 := R1.free
    have RZ := R1.set (.slice none 0 0) (.int .i64 0) (.int .i64 0)
    have hr0 := RZ.cell0
    have hr1 := RZ.cell1
    have hr2 := RZ.cell2
    have BZ := Lib.hid (below_set3 (b := w.heap.size + 1 + 1) B1 (by omega) (.slice none 0 0) (.int .i64 0) (.int .i64 0))
    clear RZ
    go_wp2
    exact bodyPost_ret (v := .tuple #[.agg #[.slice none 0 0, .int .i64 0, .int .i64 0], .bool false]) (by simp [results, Try.results23, go_sem, hr0, hr1, hr2]) rfl ⟨rfl, BZ.out⟩
  · rw [ha] at KA
    rw [hb'] at KB
    clear ha hb' HC
    go_enter Try.func23, Try.ntmps23
    go_wp2_with fail
    rw [← HW0.out]
    clear HW0
    go_wp2_with fail
    refine KA.out.mono ?_
    rintro e w1 ⟨rfl, hb⟩
    have R1 := R0.later hb
    have Y1 := Y0.later hb
    have B1 := Lib.hid (HA.out.trans (hb.mono HA.out.size))
    have KB1 := Lib.hid (KB.out w1 hb)
    clear x0 x1 x2 y0 y1 y2 X0 Y0 R0 hb KB
    have y0 := Y1.cell0
    have y1 := Y1.cell1
    have y2 := Y1.cell2
    go_wp2_with fail
    refine KB1.out.mono ?_
    rintro e w2 ⟨rfl, hb⟩
    have R2 := R1.later hb
    have B2 := B1.out.trans (hb.mono B1.out.size)
    clear y0 y1 y2 Y1 R1 hb
    have z0 := R2.cell0
    have z1 := R2.cell1
    have z2 := R2.cell2
    have f2 := R2.free
    have RZ := R2.set (.slice none 0 0) (.int .i64 0) (.int .i64 0)
    have hr0 := RZ.cell0
    have hr1 := RZ.cell1
    have hr2 := RZ.cell2
    have BZ := Lib.hid (below_set3 (b := w.heap.size + 1 + 1) B2 (by omega) (.slice none 0 0) (.int .i64 0) (.int .i64 0))
    clear RZ
    go_wp2
    exact bodyPost_ret (v := .tuple #[.agg #[.slice none 0 0, .int .i64 0, .int .i64 0], .bool false]) (by simp [results, Try.results23, go_sem, hr0, hr1, hr2]) rfl ⟨rfl, BZ.out⟩
  · rw [ha] at KA
    rw [hb'] at KB
    have hPa := (topB_iff _ _ _).1 ha
    have hPb := (topB_iff _ _ _).1 hb'
    have a1 := hPa.1.2.2
    have a2 := hPb.1.2.2
    clear ha hb' HC hPa hPb
    go_enter Try.func23, Try.ntmps23
    go_wp2_with fail
    rw [← HW0.out]
    clear HW0
    go_wp2_with fail
    refine KA.out.mono ?_
    rintro e w1 ⟨rfl, hb⟩
    have X1 := X0.later hb
    have R1 := R0.later hb
    have Y1 := Y0.later hb
    have B1 := Lib.hid (HA.out.trans (hb.mono HA.out.size))
    have KB1 := Lib.hid (KB.out w1 hb)
    clear x0 x1 x2 y0 y1 y2 X0 Y0 R0 hb KB
    have y0 := Y1.cell0
    have y1 := Y1.cell1
    have y2 := Y1.cell2
    go_wp2_with fail
    refine KB1.out.mono ?_
    rintro e w2 ⟨rfl, hb⟩
    have X2 := X1.later hb
    have Y2 := Y1.later hb
    have R2 := R1.later hb
    have B2 := B1.out.trans (hb.mono B1.out.size)
    clear y0 y1 y2 Y1 R1 X1 hb
    have x2 := X2.cell2
    have y2 := Y2.cell2
    have z0 := R2.cell0
    have z1 := R2.cell1
    have z2 := R2.cell2
    have f2 := R2.free
    have RZ := R2.set (.slice none 0 0) (.int .i64 0) (.int .i64 0)
    have hr0 := RZ.cell0
    have hr1 := RZ.cell1
    have hr2 := RZ.cell2
    have BZ := Lib.hid (below_set3 (b := w.heap.size + 1 + 1) B2 (by omega) (.slice none 0 0) (.int .i64 0) (.int .i64 0))
    clear RZ
    go_wp2
    exact bodyPost_ret (v := .tuple #[.agg #[.slice none 0 0, .int .i64 0, .int .i64 0], .bool false]) (by simp [results, Try.results23, go_sem, hr0, hr1, hr2]) rfl ⟨rfl, BZ.out⟩
  · rw [HNO.out] at h; cases h

set_option maxRecDepth 100000 in
set_option maxHeartbeats 8000000 in
theorem spTopJoin_no (w : World) (u v : Value) (ps qs : List Pr) (la aa lb ab : Int) (hp : Prs w u ps) (hq : Prs w v qs) (hno : joinOk ps la aa qs lb ab = false) :
    Calls Try.prog 22 #[.agg #[u, .int .i64 la, .int .i64 aa], .agg #[v, .int .i64 lb, .int .i64 ab]] w fun e w' => e = .returned (.tuple #[.agg #[.slice none 0 0, .int .i64 0, .int .i64 0], .bool false]) ∧ Below w.heap.size w w' := by
  obtain ⟨x, ca, rfl, _, _⟩ := hp.form
  obtain ⟨y, cb, rfl, _, _⟩ := hq.form
  obtain ⟨na, hna⟩ : ∃ na, na = ps.length := ⟨_, rfl⟩
  obtain ⟨nb, hnb⟩ : ∃ nb, nb = qs.length := ⟨_, rfl⟩
  rw [← hna] at hp ⊢
  rw [← hnb] at hq ⊢
  obtain ⟨X0, Y0, R0, hA⟩ := three_boxes w (.slice x na ca) (.int .i64 la) (.int .i64 aa) (.slice y nb cb) (.int .i64 lb) (.int .i64 ab)
  obtain ⟨W0, hW0⟩ : ∃ W0, W0 = (((w.alloc (.cells #[.slice x na ca, .int .i64 la, .int .i64 aa] 25)).alloc (.cells #[.slice y nb cb, .int .i64 lb, .int .i64 ab] 25)).alloc (.cells #[.slice none 0 0, .int .i64 0, .int .i64 0] 25)) := ⟨_, rfl⟩
  rw [← hW0] at X0 Y0 R0 hA
  have HW0 := Lib.hid hW0
  have HA := Lib.hid hA
  have PA := Lib.hid (hp.below hA (Nat.le_refl _))
  have PB := Lib.hid (hq.below hA (Nat.le_refl _))
  have KA := Lib.hid (spTopOk_at W0 _ ps la aa PA.out)
  have KB : Hid (∀ W, Below W0.heap.size W0 W → Calls Try.prog 13 #[.agg #[.slice y nb cb, .int .i64 lb, .int .i64 ab]] W fun e w' => e = .returned (.bool (topB qs lb ab)) ∧ Below W.heap.size W w') := fun W h => spTopOk_at W _ qs lb ab (PB.out.below h (Nat.le_refl _))
  have x0 := X0.cell0
  have x1 := X0.cell1
  have x2 := X0.cell2
  have y0 := Y0.cell0
  have y1 := Y0.cell1
  have y2 := Y0.cell2
  have HC := Lib.hid (joinOk_cases ps la aa qs lb ab)
  have HNO := Lib.hid hno
  clear hp hq hna hnb hW0 hA hno
  rcases HC.out with ⟨ha, _⟩ | ⟨ha, hb', _⟩ | ⟨ha, hb', hs, _⟩ | ⟨_, _, _, h⟩
  · rw [ha] at KA
    clear ha KB HC
    go_enter Try.func22, Try.ntmps22
    go_wp2_with fail
    rw [← HW0.out]
    clear HW0
    go_wp2_with fail
    refine KA.out.mono ?_
    rintro e w1 ⟨rfl, hb⟩
    have R1 := R0.later hb
    have B1 := HA.out.trans (hb.mono HA.out.size)
    clear x0 x1 x2 y0 y1 y2 X0 Y0 R0 hb
    have z0 := R1.cell0
    have z1 := R1.cell1
    have z2 := R1.cell2
    have f2 := R1.free
    have RZ := R1.set (.slice none 0 0) (.int .i64 0) (.int .i64 0)
    have hr0 := RZ.cell0
    have hr1 := RZ.cell1
    have hr2 := RZ.cell2
    have BZ := Lib.hid (below_set3 (b := w.heap.size + 1 + 1) B1 (by omega) (.slice none 0 0) (.int .i64 0) (.int .i64 0))
    clear RZ
    go_wp2
    exact bodyPost_ret (v := .tuple #[.agg #[.slice none 0 0, .int .i64 0, .int .i64 0], .bool false]) (by simp [results, Try.results22, go_sem, hr0, hr1, hr2]) rfl ⟨rfl, BZ.out⟩
  · rw [ha] at KA
    rw [hb'] at KB
    clear ha hb' HC
    go_enter Try.func22, Try.ntmps22
    go_wp2_with fail
    rw [← HW0.out]
    clear HW0
    go_wp2_with fail
    refine KA.out.mono ?_
    rintro e w1 ⟨rfl, hb⟩
    have R1 := R0.later hb
    have Y1 := Y0.later hb
    have B1 := Lib.hid (HA.out.trans (hb.mono HA.out.size))
    have KB1 := Lib.hid (KB.out w1 hb)
    clear x0 x1 x2 y0 y1 y2 X0 Y0 R0 hb KB
    have y0 := Y1.cell0
    have y1 := Y1.cell1
    have y2 := Y1.cell2
    go_wp2_with fail
    refine KB1.out.mono ?_
    rintro e w2 ⟨rfl, hb⟩
    have R2 := R1.later hb
    have B2 := B1.out.trans (hb.mono B1.out.size)
    clear y0 y1 y2 Y1 R1 hb
    have z0 := R2.cell0
    have z1 := R2.cell1
    have z2 := R2.cell2
    have f2 := R2.free
    have RZ := R2.set (.slice none 0 0) (.int .i64 0) (.int .i64 0)
    have hr0 := RZ.cell0
    have hr1 := RZ.cell1
    have hr2 := RZ.cell2
    have BZ := Lib.hid (below_set3 (b := w.heap.size + 1 + 1) B2 (by omega) (.slice none 0 0) (.int .i64 0) (.int .i64 0))
    clear RZ
    go_wp2
    exact bodyPost_ret (v := .tuple #[.agg #[.slice none 0 0, .int .i64 0, .int .i64 0], .bool false]) (by simp [results, Try.results22, go_sem, hr0, hr1, hr2]) rfl ⟨rfl, BZ.out⟩
  · rw [ha] at KA
    rw [hb'] at KB
    have hPa := (topB_iff _ _ _).1 ha
    have hPb := (topB_iff _ _ _).1 hb'
    have a1 := hPa.1.2.2
    have a2 := hPb.1.2.2
    clear ha hb' HC hPa hPb
    go_enter Try.func22, Try.ntmps22
    go_wp2_with fail
    rw [← HW0.out]
    clear HW0
    go_wp2_with fail
    refine KA.out.mono ?_
    rintro e w1 ⟨rfl, hb⟩
    have X1 := X0.later hb
    have R1 := R0.later hb
    have Y1 := Y0.later hb
    have B1 := Lib.hid (HA.out.trans (hb.mono HA.out.size))
    have KB1 := Lib.hid (KB.out w1 hb)
    clear x0 x1 x2 y0 y1 y2 X0 Y0 R0 hb KB
    have y0 := Y1.cell0
    have y1 := Y1.cell1
    have y2 := Y1.cell2
    go_wp2_with fail
    refine KB1.out.mono ?_
    rintro e w2 ⟨rfl, hb⟩
    have X2 := X1.later hb
    have Y2 := Y1.later hb
    have R2 := R1.later hb
    have B2 := B1.out.trans (hb.mono B1.out.size)
    clear y0 y1 y2 Y1 R1 X1 hb
    have x2 := X2.cell2
    have y2 := Y2.cell2
    have z0 := R2.cell0
    have z1 := R2.cell1
    have z2 := R2.cell2
    have f2 := R2.free
    have RZ := R2.set (.slice none 0 0) (.int .i64 0) (.int .i64 0)
    have hr0 := RZ.cell0
    have hr1 := RZ.cell1
    have hr2 := RZ.cell2
    have BZ := Lib.hid (below_set3 (b := w.heap.size + 1 + 1) B2 (by omega) (.slice none 0 0) (.int .i64 0) (.int .i64 0))
    clear RZ
    go_wp2
    exact bodyPost_ret (v := .tuple #[.agg #[.slice none 0 0, .int .i64 0, .int .i64 0], .bool false]) (by simp [results, Try.results22, go_sem, hr0, hr1, hr2]) rfl ⟨rfl, BZ.out⟩
  · rw [HNO.out] at h; cases h

/-- What a join that can be leaves. -/
def Joined (w : World) (ps qs : List Pr) (w' : World) (r : Value) : Prop := OwnP w' w.heap.size r (cutP (bothP ps qs)) ∧ Below w.heap.size w w'

set_option maxRecDepth 100000 in
set_option maxHeartbeats 8000000 in
theorem imTopJoin_yes (w : World) (u v : Value) (ps qs : List Pr) (la aa lb ab : Int) (hp : Prs w u ps) (hq : Prs w v qs) (ha : topB ps la aa = true) (hb' : topB qs lb ab = true) (hs : aa + ab ≤ 2000) :
    Calls Try.prog 23 #[.agg #[u, .int .i64 la, .int .i64 aa], .agg #[v, .int .i64 lb, .int .i64 ab]] w fun e w' => ∃ r, e = .returned (.tuple #[.agg #[r, .int .i64 (la + lb + overV (bothP ps qs)), .int .i64 (aa + ab)], .bool true]) ∧ Joined w ps qs w' r := by
  obtain ⟨x, ca, rfl, _, _⟩ := hp.form
  obtain ⟨y, cb, rfl, _, _⟩ := hq.form
  obtain ⟨na, hna⟩ : ∃ na, na = ps.length := ⟨_, rfl⟩
  obtain ⟨nb, hnb⟩ : ∃ nb, nb = qs.length := ⟨_, rfl⟩
  rw [← hna] at hp ⊢
  rw [← hnb] at hq ⊢
  obtain ⟨X0, Y0, R0, hA⟩ := three_boxes w (.slice x na ca) (.int .i64 la) (.int .i64 aa) (.slice y nb cb) (.int .i64 lb) (.int .i64 ab)
  obtain ⟨W0, hW0⟩ : ∃ W0, W0 = (((w.alloc (.cells #[.slice x na ca, .int .i64 la, .int .i64 aa] 25)).alloc (.cells #[.slice y nb cb, .int .i64 lb, .int .i64 ab] 25)).alloc (.cells #[.slice none 0 0, .int .i64 0, .int .i64 0] 25)) := ⟨_, rfl⟩
  rw [← hW0] at X0 Y0 R0 hA
  have HW0 := Lib.hid hW0
  have HA := Lib.hid hA
  have PA := Lib.hid (hp.below hA (Nat.le_refl _))
  have PB := Lib.hid (hq.below hA (Nat.le_refl _))
  have KA := Lib.hid (imTopOk_at W0 _ ps la aa PA.out)
  have KB : Hid (∀ W, Below W0.heap.size W0 W → Calls Try.prog 12 #[.agg #[.slice y nb cb, .int .i64 lb, .int .i64 ab]] W fun e w' => e = .returned (.bool (topB qs lb ab)) ∧ Below W.heap.size W w') := fun W h => imTopOk_at W _ qs lb ab (PB.out.below h (Nat.le_refl _))
  have x0 := X0.cell0
  have x1 := X0.cell1
  have x2 := X0.cell2
  have y0 := Y0.cell0
  have y1 := Y0.cell1
  have y2 := Y0.cell2
  have hPa := (topB_iff _ _ _).1 ha
  have hPb := (topB_iff _ _ _).1 hb'
  have la4 := hPa.1.1
  have lb4 := hPb.1.1
  have la2 := hPa.1.2.1
  have lb2 := hPb.1.2.1
  have a1 := hPa.1.2.2
  have a2 := hPb.1.2.2
  have ba := hPa.bd
  have bb := hPb.bd
  have pa := hPa.pos
  have pb := hPb.pos
  have ua := hPa.asc.up
  rw [ha] at KA
  rw [hb'] at KB
  have KP : Hid (∀ W, Prs W (.slice x na ca) ps → Prs W (.slice y nb cb) qs → Calls Try.prog 40 #[.slice x na ca, .slice y nb cb] W fun e w' => ∃ r, e = .returned r ∧ OwnP w' W.heap.size r (bothP ps qs) ∧ Below W.heap.size W w') := fun W h1 h2 =>
    (pairsOfBoth_at W _ _ ps qs h1 h2 la4 lb4 ba bb).mono fun e w' ⟨r, he, ss, q1, q2, q3, q4⟩ => ⟨r, he, by rw [← mrgV_both ua pa pb q1 q2]; exact q3, q4⟩
  have hbp := bothP_all ps qs ua pa pb
  have LB : Hid ((bothP ps qs).length ≤ 8) := by show _ ≤ _; have := hbp.2.2.1; omega
  have PB' := Lib.hid hbp.2.1
  have BD : Hid (BdP 16000 (bothP ps qs)) := bothP_bd ua ba bb pa pb lb4
  have ob := overV_bd (M := 16000) (by omega) BD.out.at
  obtain ⟨bs, hbs⟩ : ∃ bs, bs = bothP ps qs := ⟨_, rfl⟩
  rw [← hbs] at KP LB PB' BD ob ⊢
  obtain ⟨ov, hov⟩ : ∃ ov, ov = overV bs := ⟨_, rfl⟩
  rw [← hov] at ob ⊢
  have HBS := Lib.hid hbs
  have HOV := Lib.hid hov
  have KCU : Hid (∀ W r, OwnP W W.heap.size r bs → True) := fun _ _ _ => trivial
  clear hp hq hna hnb hW0 hA ha hb' hPa hPb ba bb pa pb ua hbp hbs hov KCU
  go_enter Try.func23, Try.ntmps23
  go_wp2_with fail
  rw [← HW0.out]
  clear HW0
  go_wp2_with fail
  refine KA.out.mono ?_
  rintro e w1 ⟨rfl, hb⟩
  have X1 := X0.later hb
  have R1 := R0.later hb
  have Y1 := Y0.later hb
  have B1 := Lib.hid (HA.out.trans (hb.mono HA.out.size))
  have PA1 := Lib.hid (PA.out.below hb (Nat.le_refl _))
  have PB1 := Lib.hid (PB.out.below hb (Nat.le_refl _))
  have KB1 := Lib.hid (KB.out w1 hb)
  clear x0 x1 x2 y0 y1 y2 X0 Y0 R0 hb KB KA PA PB
  have y0 := Y1.cell0
  have y1 := Y1.cell1
  have y2 := Y1.cell2
  go_wp2_with fail
  refine KB1.out.mono ?_
  rintro e w2 ⟨rfl, hb⟩
  have X2 := X1.later hb
  have Y2 := Y1.later hb
  have R2 := R1.later hb
  have B2 := Lib.hid (B1.out.trans (hb.mono B1.out.size))
  have PA2 := Lib.hid (PA1.out.below hb (Nat.le_refl _))
  have PB2 := Lib.hid (PB1.out.below hb (Nat.le_refl _))
  clear y0 y1 y2 Y1 R1 X1 hb KB1 PA1 PB1 B1
  have x0 := X2.cell0
  have x1 := X2.cell1
  have x2 := X2.cell2
  have y0 := Y2.cell0
  have y1 := Y2.cell1
  have y2 := Y2.cell2
  go_wp2_with fail
  refine (KP.out w2 PA2.out PB2.out).mono ?_
  rintro e w3 ⟨r, rfl, ho3, hb⟩
  obtain ⟨xr, cr, rfl, _, _⟩ := ho3.form
  have X3 := X2.later hb
  have Y3 := Y2.later hb
  have R3 := R2.later hb
  have B3 := Lib.hid (B2.out.trans (hb.mono B2.out.size))
  have s23 := hb.size
  have KC := Lib.hid (cutPairs_at w3 w2.heap.size _ bs hb.size ho3 LB.out BD.out PB'.out)
  have OB3 := Lib.hid (fun k e => (World.ownsRow.lt ho3 k e).1)
  generalize bs.length = nbs at KC ⊢
  clear x0 x1 x2 y0 y1 y2 X2 Y2 R2 hb ho3 KP PA2 PB2
  go_wp2_with fail
  refine KC.out.mono ?_
  rintro e w4 ⟨r, n, rfl, ho4, hn, hb⟩
  have X4 := X3.later hb
  have Y4 := Y3.later hb
  have R4 := R3.later hb
  have B4 := Lib.hid (B3.out.trans (hb.mono B3.out.size))
  rw [← HOV.out] at hn
  subst hn
  obtain ⟨xz, cz, rfl, _, _⟩ := ho4.form
  obtain ⟨cs, hcs⟩ : ∃ cs, cs = cutP bs := ⟨_, rfl⟩
  rw [← hcs] at ho4 ⊢
  have HCS := Lib.hid hcs
  have x1 := X4.cell1
  have x2 := X4.cell2
  have y1 := Y4.cell1
  have y2 := Y4.cell2
  have z0 := R4.cell0
  have z1 := R4.cell1
  have z2 := R4.cell2
  have f2 := R4.free
  have RZ := R4.set (.slice xz cs.length cz) (.int .i64 (la + lb + n)) (.int .i64 (aa + ab))
  have hr0 := RZ.cell0
  have hr1 := RZ.cell1
  have hr2 := RZ.cell2
  have OZ := Lib.hid ((ho4.set3 (b := w.heap.size + 1 + 1) (R4.not_row (by decide) ho4) (.slice xz cs.length cz) (.int .i64 (la + lb + n)) (.int .i64 (aa + ab))).base (B' := w.heap.size) (B2.out.size))
  have BZ := Lib.hid (below_set3 (b := w.heap.size + 1 + 1) B4.out (by omega) (.slice xz cs.length cz) (.int .i64 (la + lb + n)) (.int .i64 (aa + ab)))
  have FIN : Hid (Joined w ps qs (((w4.setCell ⟨w.heap.size + 1 + 1, 0, none⟩ (.slice xz cs.length cz)).setCell ⟨w.heap.size + 1 + 1, 1, none⟩ (.int .i64 (la + lb + n))).setCell ⟨w.heap.size + 1 + 1, 2, none⟩ (.int .i64 (aa + ab))) (.slice xz cs.length cz)) := by
    refine ⟨?_, BZ.out⟩
    rw [← HBS.out, ← HCS.out]
    exact OZ.out
  clear RZ X3 Y3 R3 X4 Y4 R4 ho4 hb hcs OZ BZ
  go_wp2
  exact bodyPost_ret (v := .tuple #[.agg #[.slice xz cs.length cz, .int .i64 (la + lb + n), .int .i64 (aa + ab)], .bool true]) (by simp [results, Try.results23, go_sem, hr0, hr1, hr2]) rfl ⟨_, rfl, FIN.out⟩

theorem bothP_succ (ps qs : List Pr) (k : Nat) (h : k < qs.length) : bothP ps (qs.take (k + 1)) = putP (bothP ps (qs.take k)) (pr qs k) := by
  rw [take_succ_pr qs k h]; simp [bothP]
set_option maxRecDepth 100000 in
set_option maxHeartbeats 8000000 in
theorem spTopJoin_yes (w : World) (u v : Value) (ps qs : List Pr) (la aa lb ab : Int) (hp : Prs w u ps) (hq : Prs w v qs) (ha : topB ps la aa = true) (hb' : topB qs lb ab = true) (hs : aa + ab ≤ 2000) :
    Calls Try.prog 22 #[.agg #[u, .int .i64 la, .int .i64 aa], .agg #[v, .int .i64 lb, .int .i64 ab]] w fun e w' => ∃ r, e = .returned (.tuple #[.agg #[r, .int .i64 (la + lb + overV (bothP ps qs)), .int .i64 (aa + ab)], .bool true]) ∧ Joined w ps qs w' r := by
  obtain ⟨x, ca, rfl, _, _⟩ := hp.form
  obtain ⟨y, cb, rfl, _, _⟩ := hq.form
  obtain ⟨na, hna⟩ : ∃ na, na = ps.length := ⟨_, rfl⟩
  obtain ⟨nb, hnb⟩ : ∃ nb, nb = qs.length := ⟨_, rfl⟩
  rw [← hna] at hp ⊢
  rw [← hnb] at hq ⊢
  obtain ⟨X0, Y0, R0, hA⟩ := three_boxes w (.slice x na ca) (.int .i64 la) (.int .i64 aa) (.slice y nb cb) (.int .i64 lb) (.int .i64 ab)
  obtain ⟨W0, hW0⟩ : ∃ W0, W0 = (((w.alloc (.cells #[.slice x na ca, .int .i64 la, .int .i64 aa] 25)).alloc (.cells #[.slice y nb cb, .int .i64 lb, .int .i64 ab] 25)).alloc (.cells #[.slice none 0 0, .int .i64 0, .int .i64 0] 25)) := ⟨_, rfl⟩
  rw [← hW0] at X0 Y0 R0 hA
  have HW0 := Lib.hid hW0
  have HA := Lib.hid hA
  have PA := Lib.hid (hp.below hA (Nat.le_refl _))
  have PB := Lib.hid (hq.below hA (Nat.le_refl _))
  have KA := Lib.hid (spTopOk_at W0 _ ps la aa PA.out)
  have KB : Hid (∀ W, Below W0.heap.size W0 W → Calls Try.prog 13 #[.agg #[.slice y nb cb, .int .i64 lb, .int .i64 ab]] W fun e w' => e = .returned (.bool (topB qs lb ab)) ∧ Below W.heap.size W w') := fun W h => spTopOk_at W _ qs lb ab (PB.out.below h (Nat.le_refl _))
  have x0 := X0.cell0
  have x1 := X0.cell1
  have x2 := X0.cell2
  have y0 := Y0.cell0
  have y1 := Y0.cell1
  have y2 := Y0.cell2
  have hPa := (topB_iff _ _ _).1 ha
  have hPb := (topB_iff _ _ _).1 hb'
  have la4 := hPa.1.1
  have lb4 := hPb.1.1
  have la2 := hPa.1.2.1
  have lb2 := hPb.1.2.1
  have a1 := hPa.1.2.2
  have a2 := hPb.1.2.2
  have ba := hPa.bd
  have bb := hPb.bd
  have pa := hPa.pos
  have pb := hPb.pos
  have ua := hPa.asc.up
  rw [ha] at KA
  rw [hb'] at KB
  obtain ⟨i0, hi, hz0, hz1, hz2⟩ := info_parts pair_info
  have GA := Lib.hid (fun k => (⟨bothP_bd (qs := qs.take k) ua ba (fun p hp => bb p (List.mem_of_mem_take hp)) pa (fun p hp => pb p (List.mem_of_mem_take hp)) (by simp; omega), by have h := (bothP_all ps (qs.take k) ua pa (fun p hp => pb p (List.mem_of_mem_take hp))).2.2.1; simp at h; omega⟩ : BdP 16000 (bothP ps (qs.take k)) ∧ (bothP ps (qs.take k)).length ≤ 8))
  have HBB := Lib.hid bb
  have HNA := Lib.hid hna
  have HNB := Lib.hid hnb
  have na4 : na ≤ 4 := by omega
  have nb4 : nb ≤ 4 := by omega
  have NX : Hid (x = none → ps = [] ∧ na = 0 ∧ ca = 0) := fun e => by
    subst e
    rcases hp with ⟨e, h0⟩ | ⟨b, o, c, e, _⟩
    · injection e with e1 e2 e3; exact ⟨h0, e2, e3⟩
    · cases e
  have SX : Hid (∀ a, x = some a → ∃ b o, a = ⟨b, o, none⟩) := fun a e => by
    rcases hp with ⟨e', _⟩ | ⟨b, o, c, e', _⟩
    · rw [e] at e'; cases e'
    · rw [e] at e'; injection e' with e1; exact ⟨b, o, Option.some.inj e1⟩
  have KC : Hid (∀ W r, OwnP W 0 r (bothP ps qs) → Calls Try.prog 37 #[.agg #[r, .int .i64 (la + lb), .int .i64 (aa + ab)]] W fun e w' => ∃ v, e = .returned (.agg #[v, .int .i64 (la + lb + overV (bothP ps qs)), .int .i64 (aa + ab)]) ∧ OwnP w' W.heap.size v (cutP (bothP ps qs)) ∧ Below W.heap.size W w') := fun W r h =>
    l3Cut_at W r (bothP ps qs) (la + lb) (aa + ab) h.rd (by have h := (GA.out qs.length).2; rw [List.take_length] at h; omega) (by have h := (GA.out qs.length).1; rw [List.take_length] at h; exact (h.mono (by omega)).at) (by omega) (by omega)
  clear hp hq hna hnb hW0 hA ha hb' hPa hPb ba bb pa pb ua
  go_enter Try.func22, Try.ntmps22
  go_wp2_with fail
  rw [← HW0.out]
  clear HW0
  go_wp2_with fail
  refine KA.out.mono ?_
  rintro e w1 ⟨rfl, hb⟩
  have X1 := X0.later hb
  have R1 := R0.later hb
  have Y1 := Y0.later hb
  have B1 := Lib.hid (HA.out.trans (hb.mono HA.out.size))
  have PA1 := Lib.hid (PA.out.below hb (Nat.le_refl _))
  have PB1 := Lib.hid (PB.out.below hb (Nat.le_refl _))
  have KB1 := Lib.hid (KB.out w1 hb)
  clear x0 x1 x2 y0 y1 y2 X0 Y0 R0 hb KB KA PA PB
  have y0 := Y1.cell0
  have y1 := Y1.cell1
  have y2 := Y1.cell2
  go_wp2_with fail
  refine KB1.out.mono ?_
  rintro e w2 ⟨rfl, hb⟩
  have X2 := X1.later hb
  have Y2 := Y1.later hb
  have R2 := R1.later hb
  have B2 := Lib.hid (B1.out.trans (hb.mono B1.out.size))
  have PA2 := Lib.hid (PA1.out.below hb (Nat.le_refl _))
  have PB2 := Lib.hid (PB1.out.below hb (Nat.le_refl _))
  clear y0 y1 y2 Y1 R1 X1 hb KB1 PA1 PB1 B1
  have x0 := X2.cell0
  have x1 := X2.cell1
  have x2 := X2.cell2
  have y0 := Y2.cell0
  have y1 := Y2.cell1
  have y2 := Y2.cell2
  have E2 : Hid ((w2.alloc (.cells #[] 29)).ownsRow w2.heap.size 29 2 (.slice (some ⟨w2.heap.size, 0, none⟩) 0 0) 0 []) := pair_empty w2 w2.heap.size (Nat.le_refl _)
  have Xa := X2.alloc (.cells #[] 29)
  have Ya := Y2.alloc (.cells #[] 29)
  have xa0 := Xa.cell0
  have ya0 := Ya.cell0
  have ya1 := Ya.cell1
  have ya2 := Ya.cell2
  clear Xa Ya
  have s02 : w.heap.size + 1 + 1 < w2.heap.size := R2.lt
  rcases hx : x with _ | ⟨bx, ox, sx⟩
  · subst hx
    obtain ⟨eps, rfl, rfl⟩ := NX.out rfl
    have EPS := Lib.hid eps
    clear eps
    go_wp2_with (first | (at_builtin; refine wpList_append_own_none rfl _ _ 23 rfl w2.heap.size 29 i0 2 Try.underlying23 hi (.slice (some ⟨w2.heap.size, 0, none⟩) 0 0) 0 [] rfl E2.out rfl ?_; have tok1 : True := trivial))
    go_wp2
    go_loopw [6, 7] (fun q i wr => ∃ (k : Nat) (L : List Pr), k ≤ nb ∧ i = .int .i64 k ∧ L = bothP ps (qs.take k) ∧ OwnP wr w2.heap.size q L ∧ Below w2.heap.size w2 wr) (fun _ i _ => nb - (intOf i).toNat)
    case atStart => exact ⟨0, ps, Nat.zero_le _, rfl, by simp [bothP], by rw [EPS.out]; exact E2.out, (Below.refl _ _).alloc (Nat.le_refl _) _⟩
    case round =>
      clear x0 x1 x2 xa0 ya0 ya1 ya2 y0 y1 y2
      obtain ⟨k, L, hk, rfl, hLk, hown, hbl⟩ := hrel
      obtain ⟨z, cz, hu, _, _⟩ := hown.form
      obtain ⟨nl, hnl⟩ : ∃ nl, nl = L.length := ⟨_, rfl⟩
      rw [← hnl] at hu
      subst hu
      have HLK := Lib.hid hLk
      have HO := Lib.hid hown
      have HB := Lib.hid hbl
      have HNL := Lib.hid hnl
      have Xr := X2.later hbl
      have Yr := Y2.later hbl
      have Rr := R2.later hbl
      have PBr := Lib.hid ((PB2.out.below hbl (Nat.le_refl _)).cells)
      have gk := GA.out k
      rw [← hLk] at gk
      have GK := Lib.hid gk
      have y0 := Yr.cell0
      have y1 := Yr.cell1
      have y2 := Yr.cell2
      have hsz := hbl.size
      clear hLk hown hbl gk hnl
      by_cases hlt : k < nb
      · obtain ⟨b, o, rfl, hb, h1, h2⟩ := PBr.out k (by rw [← HNB.out]; exact hlt)
        have hsu := Lib.hid (bothP_succ ps qs k (by rw [← HNB.out]; exact hlt))
        have hm := HBB.out.at k (by rw [← HNB.out]; exact hlt)
        generalize pr qs k = q at h1 h2 hsu hm
        obtain ⟨t, m⟩ := q
        simp only at h1 h2 hm
        obtain ⟨m0, m1⟩ := hm
        have k0 : (0 : Int) ≤ (k : Int) := by omega
        have kn : (k : Int) < (nb : Int) := by omega
        have KPU := Lib.hid (l3Put_at wr (.slice z nl cz) L t m HO.out.rd (by have := GK.out.2; omega) ((GK.out.1.mono (by omega)).at) m0 (by omega))
        go_wp2_with fail
        refine KPU.out.mono ?_
        rintro e w4 ⟨r, rfl, ho4, hb4⟩
        obtain ⟨xz, cz', rfl, _, _⟩ := ho4.form
        have O4 := Lib.hid (ho4.base hsz)
        have B4 := Lib.hid (HB.out.trans (hb4.mono hsz))
        clear ho4 hb4
        go_wp2
        go_roundw
        case rel => exact ⟨k + 1, putP L (t, m), by omega, by go_num, by rw [hsu.out, HLK.out], O4.out, B4.out⟩
        case measure => simp [intOf]; omega
      · obtain rfl : k = nb := by omega
        have e1 : L = bothP ps qs := by rw [HLK.out, List.take_of_length_le (by rw [HNB.out]; exact Nat.le_refl _)]
        have KC3 := Lib.hid (KC.out wr (.slice z nl cz) (by rw [← e1]; exact HO.out.base (Nat.zero_le _)))
        have x1 := Xr.cell1
        have x2 := Xr.cell2
        obtain ⟨bs, hbs⟩ : ∃ bs, bs = bothP ps qs := ⟨_, rfl⟩
        rw [← hbs] at KC3
        have HBS := Lib.hid hbs
        obtain ⟨ov, hov⟩ : ∃ ov, ov = overV bs := ⟨_, rfl⟩
        rw [← hov] at KC3
        have HOV : Hid (ov = overV (bothP ps qs)) := by show _ = _; rw [hov, hbs]
        clear e1 hbs hov KC
        go_wp2_with fail
        refine KC3.out.mono ?_
        rintro e w4 ⟨r, rfl, ho4, hb⟩
        have R4 := Rr.later hb
        obtain ⟨cs, hcs⟩ : ∃ cs, cs = cutP bs := ⟨_, rfl⟩
        rw [← hcs] at ho4
        obtain ⟨xz, cz', rfl, _, _⟩ := ho4.form
        have HCS := Lib.hid hcs
        have z0 := R4.cell0
        have z1 := R4.cell1
        have z2 := R4.cell2
        have f2 := R4.free
        have RZ := R4.set (.slice xz cs.length cz') (.int .i64 (la + lb + ov)) (.int .i64 (aa + ab))
        have hr0 := RZ.cell0
        have hr1 := RZ.cell1
        have hr2 := RZ.cell2
        have B4 := B2.out.trans ((HB.out.trans (hb.mono hsz)).mono B2.out.size)
        have OZ := Lib.hid ((ho4.set3 (b := w.heap.size + 1 + 1) (R4.not_row (by decide) ho4) (.slice xz cs.length cz') (.int .i64 (la + lb + ov)) (.int .i64 (aa + ab))).base (B' := w.heap.size) (by omega))
        have BZ := Lib.hid (below_set3 (b := w.heap.size + 1 + 1) B4 (by omega) (.slice xz cs.length cz') (.int .i64 (la + lb + ov)) (.int .i64 (aa + ab)))
        have FIN : Hid (Joined w ps qs (((w4.setCell ⟨w.heap.size + 1 + 1, 0, none⟩ (.slice xz cs.length cz')).setCell ⟨w.heap.size + 1 + 1, 1, none⟩ (.int .i64 (la + lb + ov))).setCell ⟨w.heap.size + 1 + 1, 2, none⟩ (.int .i64 (aa + ab))) (.slice xz cs.length cz')) := by
          refine ⟨?_, BZ.out⟩
          rw [← HBS.out, ← HCS.out]
          exact OZ.out
        clear RZ R4 ho4 hb hcs OZ BZ B4 Xr Yr Rr
        go_wp2
        exact bodyPost_ret (v := .tuple #[.agg #[.slice xz cs.length cz', .int .i64 (la + lb + ov), .int .i64 (aa + ab)], .bool true]) (by simp [results, Try.results22, go_sem, hr0, hr1, hr2]) rfl ⟨.slice xz cs.length cz', by rw [← HOV.out], FIN.out⟩
  · obtain ⟨bx', ox', ex⟩ := SX.out _ hx
    obtain ⟨rfl, rfl, rfl⟩ : bx = bx' ∧ ox = ox' ∧ sx = none := by injection ex with e1 e2 e3; exact ⟨e1, e2, e3⟩
    subst hx
    clear ex
    have PA3 := Lib.hid (PA2.out.below ((Below.refl w2.heap.size w2).alloc (Nat.le_refl _) (.cells #[] 29)) (Nat.le_refl _))
    go_wp2_with (first | (at_builtin; refine wpList_append_own _ rfl _ _ 23 rfl w2.heap.size 29 i0 (.agg #[.int .i64 0, .int .i64 0]) 2 16 Try.underlying23 hi hz0 hz1 hz2 rfl (by decide) (.slice (some ⟨w2.heap.size, 0, none⟩) 0 0) 0 [] rfl E2.out ⟨bx, ox, none⟩ na ca (prs ps) rfl (by rw [prs_len, HNA.out]) (PA3.out.news) (prs_one _) (by unfold maxLen; omega) (by omega) (by simp) ?_; intro v3 w3 ho3 hg3 _; simp only [Nat.zero_add, List.nil_append] at ho3; obtain ⟨z3, cz3, rfl⟩ := row_form ho3; have O3 := Lib.hid ho3; have B3 := Lib.hid (((Below.refl w2.heap.size w2).alloc (Nat.le_refl _) (.cells #[] 29)).grown hg3 (by simp) (fun k e => (E2.out.lt k e).1)); have Yq := Y2.later B3.out; have y0 := Yq.cell0; have y1 := Yq.cell1; have y2 := Yq.cell2))
    go_wp2
    go_loopw [6, 7] (fun q i wr => ∃ (k : Nat) (L : List Pr), k ≤ nb ∧ i = .int .i64 k ∧ L = bothP ps (qs.take k) ∧ OwnP wr w2.heap.size q L ∧ Below w2.heap.size w2 wr) (fun _ i _ => nb - (intOf i).toNat)
    case atStart => exact ⟨0, ps, Nat.zero_le _, rfl, by simp [bothP], by have h := O3.out; rw [HNA.out] at h ⊢; exact h, B3.out⟩
    case round =>
      clear x0 x1 x2 xa0 ya0 ya1 ya2 y0 y1 y2
      obtain ⟨k, L, hk, rfl, hLk, hown, hbl⟩ := hrel
      obtain ⟨z, cz, hu, _, _⟩ := hown.form
      obtain ⟨nl, hnl⟩ : ∃ nl, nl = L.length := ⟨_, rfl⟩
      rw [← hnl] at hu
      subst hu
      have HLK := Lib.hid hLk
      have HO := Lib.hid hown
      have HB := Lib.hid hbl
      have HNL := Lib.hid hnl
      have Xr := X2.later hbl
      have Yr := Y2.later hbl
      have Rr := R2.later hbl
      have PBr := Lib.hid ((PB2.out.below hbl (Nat.le_refl _)).cells)
      have gk := GA.out k
      rw [← hLk] at gk
      have GK := Lib.hid gk
      have y0 := Yr.cell0
      have y1 := Yr.cell1
      have y2 := Yr.cell2
      have hsz := hbl.size
      clear hLk hown hbl gk hnl
      by_cases hlt : k < nb
      · obtain ⟨b, o, rfl, hb, h1, h2⟩ := PBr.out k (by rw [← HNB.out]; exact hlt)
        have hsu := Lib.hid (bothP_succ ps qs k (by rw [← HNB.out]; exact hlt))
        have hm := HBB.out.at k (by rw [← HNB.out]; exact hlt)
        generalize pr qs k = q at h1 h2 hsu hm
        obtain ⟨t, m⟩ := q
        simp only at h1 h2 hm
        obtain ⟨m0, m1⟩ := hm
        have k0 : (0 : Int) ≤ (k : Int) := by omega
        have kn : (k : Int) < (nb : Int) := by omega
        have KPU := Lib.hid (l3Put_at wr (.slice z nl cz) L t m HO.out.rd (by have := GK.out.2; omega) ((GK.out.1.mono (by omega)).at) m0 (by omega))
        go_wp2_with fail
        refine KPU.out.mono ?_
        rintro e w4 ⟨r, rfl, ho4, hb4⟩
        obtain ⟨xz, cz', rfl, _, _⟩ := ho4.form
        have O4 := Lib.hid (ho4.base hsz)
        have B4 := Lib.hid (HB.out.trans (hb4.mono hsz))
        clear ho4 hb4
        go_wp2
        go_roundw
        case rel => exact ⟨k + 1, putP L (t, m), by omega, by go_num, by rw [hsu.out, HLK.out], O4.out, B4.out⟩
        case measure => simp [intOf]; omega
      · obtain rfl : k = nb := by omega
        have e1 : L = bothP ps qs := by rw [HLK.out, List.take_of_length_le (by rw [HNB.out]; exact Nat.le_refl _)]
        have KC3 := Lib.hid (KC.out wr (.slice z nl cz) (by rw [← e1]; exact HO.out.base (Nat.zero_le _)))
        have x1 := Xr.cell1
        have x2 := Xr.cell2
        obtain ⟨bs, hbs⟩ : ∃ bs, bs = bothP ps qs := ⟨_, rfl⟩
        rw [← hbs] at KC3
        have HBS := Lib.hid hbs
        obtain ⟨ov, hov⟩ : ∃ ov, ov = overV bs := ⟨_, rfl⟩
        rw [← hov] at KC3
        have HOV : Hid (ov = overV (bothP ps qs)) := by show _ = _; rw [hov, hbs]
        clear e1 hbs hov KC
        go_wp2_with fail
        refine KC3.out.mono ?_
        rintro e w4 ⟨r, rfl, ho4, hb⟩
        have R4 := Rr.later hb
        obtain ⟨cs, hcs⟩ : ∃ cs, cs = cutP bs := ⟨_, rfl⟩
        rw [← hcs] at ho4
        obtain ⟨xz, cz', rfl, _, _⟩ := ho4.form
        have HCS := Lib.hid hcs
        have z0 := R4.cell0
        have z1 := R4.cell1
        have z2 := R4.cell2
        have f2 := R4.free
        have RZ := R4.set (.slice xz cs.length cz') (.int .i64 (la + lb + ov)) (.int .i64 (aa + ab))
        have hr0 := RZ.cell0
        have hr1 := RZ.cell1
        have hr2 := RZ.cell2
        have B4 := B2.out.trans ((HB.out.trans (hb.mono hsz)).mono B2.out.size)
        have OZ := Lib.hid ((ho4.set3 (b := w.heap.size + 1 + 1) (R4.not_row (by decide) ho4) (.slice xz cs.length cz') (.int .i64 (la + lb + ov)) (.int .i64 (aa + ab))).base (B' := w.heap.size) (by omega))
        have BZ := Lib.hid (below_set3 (b := w.heap.size + 1 + 1) B4 (by omega) (.slice xz cs.length cz') (.int .i64 (la + lb + ov)) (.int .i64 (aa + ab)))
        have FIN : Hid (Joined w ps qs (((w4.setCell ⟨w.heap.size + 1 + 1, 0, none⟩ (.slice xz cs.length cz')).setCell ⟨w.heap.size + 1 + 1, 1, none⟩ (.int .i64 (la + lb + ov))).setCell ⟨w.heap.size + 1 + 1, 2, none⟩ (.int .i64 (aa + ab))) (.slice xz cs.length cz')) := by
          refine ⟨?_, BZ.out⟩
          rw [← HBS.out, ← HCS.out]
          exact OZ.out
        clear RZ R4 ho4 hb hcs OZ BZ B4 Xr Yr Rr
        go_wp2
        exact bodyPost_ret (v := .tuple #[.agg #[.slice xz cs.length cz', .int .i64 (la + lb + ov), .int .i64 (aa + ab)], .bool true]) (by simp [results, Try.results22, go_sem, hr0, hr1, hr2]) rfl ⟨.slice xz cs.length cz', by rw [← HOV.out], FIN.out⟩

end Go.Proofs.Ytmlimjdmnonmpaa
