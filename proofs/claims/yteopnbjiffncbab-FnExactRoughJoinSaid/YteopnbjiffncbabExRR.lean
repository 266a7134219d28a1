/-
  Rows of one's own between two bounds, and their marks.
-/
import Derived.Test.YteopnbjiffncbabExRows
import Derived.Test.YteopnbjiffncbabRMath
namespace Go.Proofs.Yteopnbjiffncbab
open Go.RowKit Go.Sort

/-- The value v is the rows rs, in blocks of the call's own, from B on and ahead of T. -/
def OwnRR (W : World) (B T : Nat) (v : Value) (rs : List (List Int)) : Prop := ∃ G C, OwnR W B v rs G C ∧ (∀ k, v.ownBlock = some k → k < T) ∧ (∀ i, i < rs.length → G i < T) ∧ T ≤ W.heap.size
theorem OwnR.bounds {W : World} {B : Nat} {v : Value} {rs : List (List Int)} {G C : Nat → Nat} (h : OwnR W B v rs G C) : OwnRR W B W.heap.size v rs :=
  ⟨G, C, h, fun k e => (World.ownsRow.lt h.hdr k e).2, fun i hi => ((h.row i hi).lt (G i) rfl).2, Nat.le_refl _⟩
theorem OwnRR.top {W : World} {B T : Nat} {v : Value} {rs : List (List Int)} (h : OwnRR W B T v rs) : T ≤ W.heap.size := by obtain ⟨_, _, _, _, _, h⟩ := h; exact h
theorem OwnRR.rd {W : World} {B T : Nat} {v : Value} {rs : List (List Int)} (h : OwnRR W B T v rs) : Rws W v rs := by obtain ⟨G, C, h, _⟩ := h; exact h.rws
theorem OwnRR.below {W W' : World} {B T : Nat} {v : Value} {rs : List (List Int)} (h : OwnRR W B T v rs) (hb : Below W.heap.size W W') : OwnRR W' B T v rs := by
  obtain ⟨G, C, h, h1, h2, h3⟩ := h; exact ⟨G, C, h.below hb (Nat.le_refl _), h1, h2, Nat.le_trans h3 hb.size⟩
theorem OwnRR.alloc {W : World} {B T : Nat} {v : Value} {rs : List (List Int)} (h : OwnRR W B T v rs) (o : Obj) : OwnRR (W.alloc o) B T v rs := h.below ((Below.refl _ _).alloc (Nat.le_refl _) o)
theorem OwnRR.nil (W : World) (B T : Nat) (hT : T ≤ W.heap.size) : OwnRR W B T (.slice none 0 0) [] :=
  ⟨fun _ => 0, fun _ => 0, ⟨World.ownsRow_nil W B _ 1, fun i hi => absurd hi (Nat.not_lt_zero i), fun i hi => absurd hi (Nat.not_lt_zero i), fun i j hi => absurd hi (Nat.not_lt_zero i)⟩, (fun k e => by cases e), (fun i hi => absurd hi (Nat.not_lt_zero i)), hT⟩
/-- How both RoughAdds and both RoughJoins answer. -/
theorem EndR.own {w w' : World} {ok : Bool} {rs : List (List Int)} {e : Ending} (h3 : ok = true → rs.length = 3) (h : EndR w ok rs e w') :
    ∃ x c, e = .returned (.tuple #[.agg #[.slice x (resV ok rs).length c], .bool ok]) ∧ OwnRR w' w.heap.size w'.heap.size (.slice x (resV ok rs).length c) (resV ok rs) ∧ Below w.heap.size w w' := by
  obtain ⟨x, m, c, he, hb, h0, h1⟩ := h
  cases ok with
  | false => obtain ⟨rfl, rfl, rfl⟩ := h0 rfl; exact ⟨none, 0, he, OwnRR.nil _ _ _ (Nat.le_refl _), hb⟩
  | true =>
    obtain ⟨rfl, G, C, ho⟩ := h1 rfl
    have e3 : (resV true rs).length = 3 := h3 rfl
    rw [e3]
    exact ⟨x, c, he, ho.bounds, hb⟩
theorem ownsRow_keptB {w w' : World} {B : Nat} {e : TypeId} {size : Nat} {v : Value} {n : Nat} {xs : List Value} {S : Nat → Prop} (h : w.ownsRow B e size v n xs) (hk : KeptB S w w') (hS : ∀ k, v.ownBlock = some k → ¬ S k) : w'.ownsRow B e size v n xs := by
  obtain ⟨h1, h2⟩ := h
  refine ⟨h1, ?_⟩
  rcases h2 with h2 | ⟨g, cap, cur, hv, hg, hh, r⟩
  · exact .inl h2
  · refine .inr ⟨g, cap, cur, hv, hg, ?_, r⟩
    rw [hk.block g (Array.getElem?_eq_some_iff.1 hh).1 (hS g (by rw [hv]; rfl))]
    exact hh
theorem OwnRR.keptB {w w' : World} {B T : Nat} {v : Value} {rs : List (List Int)} {S : Nat → Prop} (h : OwnRR w B T v rs) (hk : KeptB S w w') (hS : ∀ k, B ≤ k → k < T → ¬ S k) : OwnRR w' B T v rs := by
  obtain ⟨G, C, h, h1, h2, h3⟩ := h
  refine ⟨G, C, ⟨ownsRow_keptB h.hdr hk fun k e => hS k (World.ownsRow.lt h.hdr k e).1 (h1 k e), fun i hi => ownsRow_keptB (h.row i hi) hk fun k e => ?_, h.off, h.apart⟩, h1, h2, Nat.le_trans h3 hk.size⟩
  have l := (World.ownsRow.lt (h.row i hi) k e).1
  have e' : G i = k := by simpa [rowV, Value.ownBlock] using e
  exact hS k l (by rw [← e']; exact h2 i hi)

/-- What a mark leaves as it was. -/
structure MarkKeeps (W W' : World) (B T : Nat) : Prop where
  box : ∀ b t u, t ≠ 3 → Go.Boxed W b t u → Go.Boxed W' b t u
  own : ∀ B2 T2 v2 rs2, (T2 ≤ B ∨ T ≤ B2) → OwnRR W B2 T2 v2 rs2 → OwnRR W' B2 T2 v2 rs2
  below : ∀ w : World, w.heap.size ≤ B → Below w.heap.size w W → Below w.heap.size w W'

theorem markRR_at (W : World) (B T : Nat) (u : Value) (rs : List (List Int)) (k : Int) (hn : rs.length ≤ 1048576) (hr : ∀ i, i < rs.length → (rs.getD i []).length ≤ 1048576) (hs : ahead rs rs.length ≤ 100000000) (hk : 0 ≤ k) (hk' : k ≤ 100000000000) (h : OwnRR W B T u rs) :
    Calls Try.prog 17 #[.agg #[u], .int .i64 k] W fun e W' => ∃ rs', e = .returned (.int .i64 (k + ahead rs rs.length)) ∧ Marked k rs rs' ∧ OwnRR W' B T u rs' ∧ MarkKeeps W W' B T := by
  obtain ⟨G, C, h, h1, h2, h3⟩ := h
  refine (markRough_at W B u rs G C k hn hr hs hk hk' h).mono fun e W' ⟨rs', he, hm, ho, hkb⟩ => ⟨rs', he, hm, ⟨G, C, ho, h1, fun i hi => h2 i (by rw [← hm.1]; exact hi), Nat.le_trans h3 hkb.size⟩, ?_⟩
  have lo : ∀ i, i < rs.length → B ≤ G i := fun i hi => ((h.row i hi).lt (G i) rfl).1
  refine ⟨fun b t v ht hX => ?_, fun B2 T2 v2 rs2 hd h' => h'.keptB hkb fun k q1 q2 => ?_, fun w hw hb => ?_⟩
  · refine (hkb.block b hX.lt ?_).trans hX
    rintro ⟨i, hi, e⟩
    exact hX.not_row ht (h.row i hi) (by rw [← e]; rfl)
  · rintro ⟨i, hi, e⟩
    have := lo i hi
    have := h2 i hi
    omega
  · exact hb.trans (hkb.below hb.size (fun k ⟨i, hi, e⟩ => by have := lo i hi; omega))

theorem toRough_own (w : World) (u : Value) (rs : List (List Int)) (h : ArgR w u rs) (hn : rs.length ≤ 1048576) (hr : ∀ i, i < rs.length → (rs.getD i []).length ≤ 1048576) :
    Calls Try.prog 21 #[.agg #[u]] w fun e w' => ∃ g, e = .returned (.agg #[.slice (some ⟨g, 0, none⟩) rs.length rs.length]) ∧ OwnRR w' w.heap.size w'.heap.size (.slice (some ⟨g, 0, none⟩) rs.length rs.length) rs ∧ Below w.heap.size w w' := by
  have hA := (((Below.refl w.heap.size w).alloc (Nat.le_refl _) (.cells #[u] 29)).alloc (by simp) (.cells #[.slice none 0 0] 24)).alloc (by simp; omega) (.cells #[.slice none 0 0] 24)
  have K := Lib.hid (toIntSS_own _ u rs (h.below hA (Nat.le_refl _)) hn hr)
  have HA := Lib.hid hA
  obtain ⟨x, c, hx⟩ := h.form
  obtain ⟨n, hn'⟩ : ∃ n, n = rs.length := ⟨_, rfl⟩
  rw [← hn'] at hx K hn ⊢
  subst hx
  have HNN := Lib.hid hn'
  clear h hn' hA hr
  obtain ⟨w0, hw0⟩ : ∃ w0, w0 = (((w.alloc (.cells #[.slice x n c] 29)).alloc (.cells #[.slice none 0 0] 24)).alloc (.cells #[.slice none 0 0] 24)) := ⟨_, rfl⟩
  have c1 : w0.cell? ⟨w.heap.size + 1, 0, none⟩ = some (.slice none 0 0) := by rw [hw0, World.cell?_alloc_past (hn := by simp), World.cell?_alloc_at (hn := by simp)]; simp
  have f1 : w0.frozen? ⟨w.heap.size + 1, 0, none⟩ = false := by rw [hw0, World.frozen?_alloc_past (hn := by simp)]; exact World.frozen?_alloc_at _ _ _ _ (by simp)
  have c2 : w0.cell? ⟨w.heap.size + 1 + 1, 0, none⟩ = some (.slice none 0 0) := by rw [hw0, World.cell?_alloc_at (hn := by simp)]; simp
  have f2 : w0.frozen? ⟨w.heap.size + 1 + 1, 0, none⟩ = false := by rw [hw0]; exact World.frozen?_alloc_at _ _ _ _ (by simp)
  have sz := Lib.hid (show w0.heap.size = w.heap.size + 3 by rw [hw0]; simp)
  rw [← hw0] at K HA
  have HW := Lib.hid hw0
  clear hw0
  go_enter Try.func21, Try.ntmps21
  go_wp2_with fail
  rw [← HW.out]
  refine K.out.mono ?_
  rintro e w1 ⟨rfl, ho1, hb1⟩
  have d1 := cell_later hb1 c1
  have d2 := cell_later hb1 c2
  have g1 : w1.frozen? ⟨w.heap.size + 1, 0, none⟩ = false := (hb1.frozen (p := ⟨w.heap.size + 1, 0, none⟩) (by have := sz.out; simp; omega)).trans f1
  have g2 : w1.frozen? ⟨w.heap.size + 1 + 1, 0, none⟩ = false := (hb1.frozen (p := ⟨w.heap.size + 1 + 1, 0, none⟩) (by have := sz.out; simp; omega)).trans f2
  have B1 := Lib.hid (HA.out.trans (hb1.mono HA.out.size))
  have O1 := Lib.hid ho1
  have e1 : (w1.setCell ⟨w.heap.size + 1 + 1, 0, none⟩ (.slice (some ⟨w0.heap.size, 0, none⟩) n n)).cell? ⟨w.heap.size + 1, 0, none⟩ = some (.slice none 0 0) := (World.cell?_setCell_other (h := by simp) ..).trans d1
  have e2 : (w1.setCell ⟨w.heap.size + 1 + 1, 0, none⟩ (.slice (some ⟨w0.heap.size, 0, none⟩) n n)).frozen? ⟨w.heap.size + 1, 0, none⟩ = false := by rw [World.frozen?_setCell]; exact g1
  have e3 := World.cell?_setCell_same w1 ⟨w.heap.size + 1 + 1, 0, none⟩ (.slice (some ⟨w0.heap.size, 0, none⟩) n n) d2
  clear hb1 ho1 HW c1 c2 f1 f2
  go_wp2
  have hr := World.cell?_setCell_same _ ⟨w.heap.size + 1, 0, none⟩ (.slice (some ⟨w0.heap.size, 0, none⟩) n n) e1
  have s1 := grownBy_setCell w1 ⟨w.heap.size + 1 + 1, 0, none⟩ (.slice (some ⟨w0.heap.size, 0, none⟩) n n)
  have s2 := grownBy_setCell (w1.setCell ⟨w.heap.size + 1 + 1, 0, none⟩ (.slice (some ⟨w0.heap.size, 0, none⟩) n n)) ⟨w.heap.size + 1, 0, none⟩ (.slice (some ⟨w0.heap.size, 0, none⟩) n n)
  refine bodyPost_ret (v := .agg #[.slice (some ⟨w0.heap.size, 0, none⟩) n n]) (by simp [results, Try.results21, go_sem, hr]) rfl ⟨_, rfl, ?_, ?_⟩
  · obtain ⟨G, o1⟩ := O1.out
    exact (((o1.grown s1 (fun k e => by have := sz.out; simp at e; omega)).grown s2 (fun k e => by have := sz.out; simp at e; omega)).base (by have := sz.out; omega)).bounds
  · exact (B1.out.setCell (by simp; omega) _).setCell (by simp) _

def addA (rs : List (List Int)) (t n : Int) : List (List Int) := resV (addB rs t n) (addV rs t n)
def joinA (ra rb : List (List Int)) : List (List Int) := resV (joinB ra rb) (joinV ra rb)
theorem ahead_le (A : List (List Int)) (h : ∀ i, i < A.length → (A.getD i []).length ≤ 8) : ∀ n, n ≤ A.length → ahead A n ≤ 8 * n
  | 0, _ => Nat.le_refl _
  | n + 1, hn => by have h1 := ahead_le A h n (by omega); have h2 := h n (by omega); show ahead A n + (A.getD n []).length ≤ _; omega
theorem addA_len (rs : List (List Int)) (t n : Int) : (addA rs t n).length ≤ 3 ∧ (∀ i, i < (addA rs t n).length → (addA rs t n).getD i [] = (addA rs t n).getD i [] ∧ ((addA rs t n).getD i []).length ≤ 8) := by
  unfold addA resV
  by_cases hj : addB rs t n = true
  · rw [if_pos hj]
    exact ⟨Nat.le_refl _, fun i hi => ⟨rfl, by rw [(fine_okB (okB_add hj).1 i hi).1.1]; omega⟩⟩
  · rw [if_neg hj]
    exact ⟨Nat.zero_le _, fun i hi => absurd hi (Nat.not_lt_zero i)⟩
theorem joinA_len (ra rb : List (List Int)) : (joinA ra rb).length ≤ 3 ∧ (∀ i, i < (joinA ra rb).length → (joinA ra rb).getD i [] = (joinA ra rb).getD i [] ∧ ((joinA ra rb).getD i []).length ≤ 8) := by
  unfold joinA resV
  by_cases hj : joinB ra rb = true
  · rw [if_pos hj]
    exact ⟨Nat.le_refl _, fun i hi => ⟨rfl, by rw [joinV_get _ _ i hi]; simp [addRows]⟩⟩
  · rw [if_neg hj]
    exact ⟨Nat.zero_le _, fun i hi => absurd hi (Nat.not_lt_zero i)⟩
theorem spAddRR (W : World) (u : Value) (rs : List (List Int)) (t n : Int) (h : Rws W u rs) : Calls Try.prog 23 #[.agg #[u], .int .i64 t, .int .i64 n] W fun e w' => ∃ x c, e = .returned (.tuple #[.agg #[.slice x (addA rs t n).length c], .bool (addB rs t n)]) ∧ OwnRR w' W.heap.size w'.heap.size (.slice x (addA rs t n).length c) (addA rs t n) ∧ Below W.heap.size W w' :=
  (spAdd_end W u rs t n h).mono fun _ _ he => he.own (fun _ => rfl)
theorem imAddRR (W : World) (u : Value) (rs : List (List Int)) (t n : Int) (h : Rws W u rs) : Calls Try.prog 24 #[.agg #[u], .int .i64 t, .int .i64 n] W fun e w' => ∃ x c, e = .returned (.tuple #[.agg #[.slice x (addA rs t n).length c], .bool (addB rs t n)]) ∧ OwnRR w' W.heap.size w'.heap.size (.slice x (addA rs t n).length c) (addA rs t n) ∧ Below W.heap.size W w' :=
  (imAdd_end W u rs t n h).mono fun _ _ he => he.own (fun _ => rfl)
theorem spJoinRR (W : World) (u v : Value) (ra rb : List (List Int)) (ha : Rws W u ra) (hb : Rws W v rb) : Calls Try.prog 29 #[.agg #[u], .agg #[v]] W fun e w' => ∃ x c, e = .returned (.tuple #[.agg #[.slice x (joinA ra rb).length c], .bool (joinB ra rb)]) ∧ OwnRR w' W.heap.size w'.heap.size (.slice x (joinA ra rb).length c) (joinA ra rb) ∧ Below W.heap.size W w' :=
  (spJoin_end W u v ra rb ha hb).mono fun _ _ he => he.own (fun _ => rfl)
theorem imJoinRR (W : World) (u v : Value) (ra rb : List (List Int)) (ha : Rws W u ra) (hb : Rws W v rb) : Calls Try.prog 30 #[.agg #[u], .agg #[v]] W fun e w' => ∃ x c, e = .returned (.tuple #[.agg #[.slice x (joinA ra rb).length c], .bool (joinB ra rb)]) ∧ OwnRR w' W.heap.size w'.heap.size (.slice x (joinA ra rb).length c) (joinA ra rb) ∧ Below W.heap.size W w' :=
  (imJoin_end W u v ra rb ha hb).mono fun _ _ he => he.own (fun _ => rfl)
/-- What comparing and marking ask of the lengths. -/
structure Lens (A : List (List Int)) : Prop where
  len : A.length ≤ 1048576
  row : ∀ i, i < A.length → (A.getD i []).length ≤ 1048576
  all : ahead A A.length ≤ 100000000
  lenM : A.length ≤ maxLen
  rowM : ∀ i, i < A.length → (A.getD i []).length ≤ maxLen
theorem Lens.small {A : List (List Int)} (h : A.length ≤ 3 ∧ (∀ i, i < A.length → A.getD i [] = A.getD i [] ∧ (A.getD i []).length ≤ 8)) : Lens A :=
  ⟨by omega, fun i hi => by have := (h.2 i hi).2; omega, by have := ahead_le A (fun i hi => (h.2 i hi).2) A.length (Nat.le_refl _); omega, by unfold maxLen; omega, fun i hi => by have := (h.2 i hi).2; unfold maxLen; omega⟩
theorem Lens.arg {A : List (List Int)} (h : A.length + ahead A A.length ≤ 1048576) : Lens A :=
  ⟨by omega, fun i hi => by have := ahead_row A i A.length hi; omega, by omega, by unfold maxLen; omega, fun i hi => by have := ahead_row A i A.length hi; unfold maxLen; omega⟩

end Go.Proofs.Yteopnbjiffncbab
