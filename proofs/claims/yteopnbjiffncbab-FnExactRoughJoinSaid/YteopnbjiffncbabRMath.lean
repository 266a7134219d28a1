/-
  Rough counts, added and joined: what they have together.
-/
import Derived.Test.YteopnbjiffncbabImJoin
namespace Go.Proofs.Yteopnbjiffncbab
open Go.RowKit

theorem sum8 {zs : List Int} (h : zs.length = 8) : zs.sum = zs.getD 0 0 + zs.getD 1 0 + zs.getD 2 0 + zs.getD 3 0 + zs.getD 4 0 + zs.getD 5 0 + zs.getD 6 0 + zs.getD 7 0 := by
  match zs, h with
  | [a, b, c, d, e, f, g, i], _ => simp; omega

theorem addRows_sum (x y : List Int) (hx : x.length = 8) (hy : y.length = 8) : (addRows x y).sum = x.sum + y.sum := by
  rw [sum8 hx, sum8 hy, sum8 (addRows_len x y)]
  rw [addRows_get _ _ 0 (by omega), addRows_get _ _ 1 (by omega), addRows_get _ _ 2 (by omega), addRows_get _ _ 3 (by omega), addRows_get _ _ 4 (by omega), addRows_get _ _ 5 (by omega), addRows_get _ _ 6 (by omega), addRows_get _ _ 7 (by omega)]
  omega

theorem okB_fine {rs : List (List Int)} (h3 : rs.length = 3) (h : ∀ i, i < 3 → Fine (rs.getD i []) ∧ (rs.getD i []).sum = (rs.getD 0 []).sum) : okB rs = true :=
  (okB_iff rs).2 ⟨h3, fun i hi => ⟨(h i hi).1.1, (h i hi).1.bd.2.2, (h i hi).2, (h i hi).1.2.2⟩⟩
theorem fine_okB {rs : List (List Int)} (h : okB rs = true) (i : Nat) (hi : i < 3) : Fine (rs.getD i []) ∧ (rs.getD i []).sum = allV rs := by
  obtain ⟨_, hg⟩ := (okB_iff rs).1 h
  have g := hg i hi
  exact ⟨⟨g.1, fun k hk => (g.2.1 k hk).1, g.2.2.2⟩, g.2.2.1.trans (allV_sum h)⟩

theorem okB_join {ra rb : List (List Int)} (h : joinB ra rb = true) : okB (joinV ra rb) = true ∧ allV (joinV ra rb) = allV ra + allV rb := by
  obtain ⟨ha, hb, hs⟩ := (joinB_iff ra rb).1 h
  have rowS : ∀ i, i < 3 → ((joinV ra rb).getD i []).sum = allV ra + allV rb := fun i hi => by
    rw [joinV_get _ _ _ hi, addRows_sum _ _ (fine_okB ha i hi).1.1 (fine_okB hb i hi).1.1, (fine_okB ha i hi).2, (fine_okB hb i hi).2]
  have ok : okB (joinV ra rb) = true := okB_fine rfl fun i hi => by
    refine ⟨⟨by rw [joinV_get _ _ _ hi]; exact addRows_len _ _, fun k hk => ?_, by rw [rowS i hi]; exact hs⟩, by rw [rowS i hi, rowS 0 (by omega)]⟩
    rw [joinV_get _ _ _ hi, addRows_get _ _ _ hk]
    have := (fine_okB ha i hi).1.2.1 k hk
    have := (fine_okB hb i hi).1.2.1 k hk
    omega
  exact ⟨ok, by rw [← allV_sum ok, rowS 0 (by omega)]⟩

theorem okB_add {rs : List (List Int)} {t n : Int} (h : addB rs t n = true) : okB (addV rs t n) = true ∧ allV (addV rs t n) = allV rs + n := by
  obtain ⟨ok, t0, t1, n0, n1⟩ := (addB_iff rs t n).1 h
  have hj := join_one rs t n t0 t1
  rw [h] at hj
  have := okB_join hj
  have av := allV_ok ok
  rw [joinV_one rs t n ok, oneV_all t n (by omega)] at this
  exact this

/-- How both RoughAdds and both RoughJoins answer: nothing and false, or the rows and true. -/
def EndR (w : World) (ok : Bool) (rs : List (List Int)) (e : Ending) (w' : World) : Prop :=
  ∃ x m c, e = .returned (.tuple #[.agg #[.slice x m c], .bool ok]) ∧ Below w.heap.size w w' ∧ (ok = false → x = none ∧ m = 0 ∧ c = 0) ∧ (ok = true → m = 3 ∧ ∃ G C, OwnR w' w.heap.size (.slice x m c) rs G C)

theorem imJoin_end (w : World) (u v : Value) (ra rb : List (List Int)) (ha : Rws w u ra) (hb : Rws w v rb) : Calls Try.prog 30 #[.agg #[u], .agg #[v]] w (EndR w (joinB ra rb) (joinV ra rb)) :=
  (imJoin_at w u v ra rb ha hb).mono fun e w' ⟨x, m, c, ok, he, hok, hb, h0, h1⟩ => by subst hok; exact ⟨x, m, c, he, hb, h0, h1⟩
theorem spJoin_end (w : World) (u v : Value) (ra rb : List (List Int)) (ha : Rws w u ra) (hb : Rws w v rb) : Calls Try.prog 29 #[.agg #[u], .agg #[v]] w (EndR w (joinB ra rb) (joinV ra rb)) := by
  cases h : joinB ra rb with
  | false => exact (spJoin_no w u v ra rb ha hb h).mono fun e w' ⟨he, hb⟩ => ⟨none, 0, 0, he, hb, fun _ => ⟨rfl, rfl, rfl⟩, fun q => by cases q⟩
  | true => exact (spJoin_yes w u v ra rb ha hb h).mono fun e w' ⟨x, c, G, C, he, ho, hb⟩ => ⟨x, 3, c, he, hb, fun q => (by cases q), fun _ => ⟨rfl, G, C, ho⟩⟩
theorem spAdd_end (w : World) (u : Value) (rs : List (List Int)) (t n : Int) (h : Rws w u rs) : Calls Try.prog 23 #[.agg #[u], .int .i64 t, .int .i64 n] w (EndR w (addB rs t n) (addV rs t n)) := by
  cases q : addB rs t n with
  | false => exact (spAdd_no w u rs t n h q).mono fun e w' ⟨he, hb⟩ => ⟨none, 0, 0, he, hb, fun _ => ⟨rfl, rfl, rfl⟩, fun q => by cases q⟩
  | true => exact (spAdd_yes w u rs t n h q).mono fun e w' ⟨x, c, G, C, he, ho, hb⟩ => ⟨x, 3, c, he, hb, fun q => (by cases q), fun _ => ⟨rfl, G, C, ho⟩⟩
theorem imAdd_end (w : World) (u : Value) (rs : List (List Int)) (t n : Int) (h : Rws w u rs) : Calls Try.prog 24 #[.agg #[u], .int .i64 t, .int .i64 n] w (EndR w (addB rs t n) (addV rs t n)) := by
  by_cases ht : t < 0 ∨ 64 ≤ t
  · have hno : addB rs t n = false := by
      cases q : addB rs t n with
      | false => rfl
      | true => have := (addB_iff rs t n).1 q; omega
    obtain ⟨⟨x, c, hx⟩, _⟩ := h.cases
    rw [hno]
    exact (imAdd_far w u x _ c t n hx ht).mono fun e w' ⟨he, hb⟩ => ⟨none, 0, 0, he, hb, fun _ => ⟨rfl, rfl, rfl⟩, fun q => by cases q⟩
  · have t0 : 0 ≤ t := by omega
    have t1 : t < 64 := by omega
    refine (imAdd_near w u rs t n h t0 t1).mono fun e w' ⟨x, m, c, ok, he, hok, hb, h0, h1⟩ => ?_
    rw [join_one rs t n t0 t1] at hok
    subst hok
    refine ⟨x, m, c, he, hb, h0, fun q => ?_⟩
    obtain ⟨hm, G, C, ho⟩ := h1 q
    rw [joinV_one rs t n ((addB_iff rs t n).1 q).1] at ho
    exact ⟨hm, G, C, ho⟩

/-- What stands in the answer: the rows, or nothing. -/
def resV (ok : Bool) (rs : List (List Int)) : List (List Int) := if ok = true then rs else []
theorem EndR.rws {w w' : World} {ok : Bool} {rs : List (List Int)} {e : Ending} (h : EndR w ok rs e w') :
    ∃ x m c, e = .returned (.tuple #[.agg #[.slice x m c], .bool ok]) ∧ Below w.heap.size w w' ∧ Rws w' (.slice x m c) (resV ok rs) := by
  obtain ⟨x, m, c, he, hb, h0, h1⟩ := h
  refine ⟨x, m, c, he, hb, ?_⟩
  cases ok with
  | false => obtain ⟨rfl, rfl, rfl⟩ := h0 rfl; exact .inl ⟨rfl, rfl⟩
  | true => obtain ⟨_, G, C, ho⟩ := h1 rfl; exact ho.rws

end Go.Proofs.Yteopnbjiffncbab
