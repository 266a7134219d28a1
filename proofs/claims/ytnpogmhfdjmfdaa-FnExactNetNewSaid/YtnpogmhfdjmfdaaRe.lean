/-
  Several texts in one: GetJoin, JoinLaw, AddLaw.
-/
import Derived.Test.YtnpogmhfdjmfdaaRc
import Derived.Deep.RegionWith
set_option linter.unusedVariables false
/-
  What a joined count tells of a thing.
-/
namespace Go.Proofs.Ytnpogmhfdjmfdaa
open Go.RowKit Go.Sort

theorem zero3_ok : okB zero3 = true ∧ allV zero3 = 0 := by
  have e : oneV 0 0 = zero3 := by decide +kernel
  rw [← e]
  exact ⟨oneV_ok 0 0 (by omega), oneV_all 0 0 (by omega)⟩

theorem addRows_assoc (x y z : List Int) : addRows x (addRows y z) = addRows (addRows x y) z := by
  have g : ∀ (p q : List Int) k, k < 8 → (addRows p q).getD k 0 = p.getD k 0 + q.getD k 0 := fun p q k hk => by
    unfold addRows
    simp [hk]
  show (List.range 8).map _ = (List.range 8).map _
  refine List.map_congr_left fun k hk => ?_
  have hk := List.mem_range.1 hk
  rw [g y z k hk, g x y k hk]
  omega
theorem joinV_assoc (ra rb rc : List (List Int)) : joinV ra (joinV rb rc) = joinV (joinV ra rb) rc := by
  show [addRows _ (addRows _ _), addRows _ (addRows _ _), addRows _ (addRows _ _)] = [addRows (addRows _ _) _, addRows (addRows _ _) _, addRows (addRows _ _) _]
  rw [addRows_assoc, addRows_assoc, addRows_assoc]
theorem atV_le {rs : List (List Int)} (ok : okB rs = true) (t : Int) (i : Nat) (hi : i < 3) : atV rs i t ≤ allV rs := by
  obtain ⟨P, _, hP, e⟩ := place_nat i t
  have F := fine_okB ok i hi
  have hs := sum_take_succ (rs.getD i []) P (by rw [F.1.1]; exact hP)
  have p0 := sum_nonneg (fun z hz => F.1.bd.1 z (List.mem_of_mem_take hz) : ∀ z ∈ (rs.getD i []).take P, 0 ≤ z)
  have p1 := sum_take_le F.1.bd.1 (P + 1)
  have p2 := F.2
  unfold atV
  rw [e]
  omega

theorem atV_join (ra rb : List (List Int)) (t : Int) (i : Nat) (hi : i < 3) : atV (joinV ra rb) i t = atV ra i t + atV rb i t := by
  obtain ⟨P, _, hP, e⟩ := place_nat i t
  unfold atV
  rw [e, joinV_get _ _ i hi]
  unfold addRows
  simp [hP]

theorem getV_join {ra rb : List (List Int)} {t : Int} (hj : joinB ra rb = true) (h0 : 0 ≤ t) (h1 : t < 64) :
    getV ra t + getV rb t ≤ getV (joinV ra rb) t ∧ getV (joinV ra rb) t ≤ getV ra t + allV rb ∧ (0 ≤ getV ra t ∧ getV ra t ≤ 2000) ∧ (0 ≤ getV rb t ∧ getV rb t ≤ 2000) ∧ 0 ≤ allV rb ∧ allV rb ≤ 2000 := by
  obtain ⟨ka, kb, _⟩ := (joinB_iff _ _).1 hj
  have kx := (okB_join hj).1
  rw [getV_ok ka h0 h1, getV_ok kb h0 h1, getV_ok kx h0 h1, atV_join _ _ _ 0 (by omega), atV_join _ _ _ 1 (by omega), atV_join _ _ _ 2 (by omega)]
  have a0 := atV_bd ka 0 (by omega) t
  have a1 := atV_bd ka 1 (by omega) t
  have a2 := atV_bd ka 2 (by omega) t
  have b0 := atV_bd kb 0 (by omega) t
  have b1 := atV_bd kb 1 (by omega) t
  have b2 := atV_bd kb 2 (by omega) t
  have l0 := atV_le kb t 0 (by omega)
  have l1 := atV_le kb t 1 (by omega)
  have l2 := atV_le kb t 2 (by omega)
  have s := allV_ok kb
  generalize atV ra 0 t = p0 at *
  generalize atV ra 1 t = p1 at *
  generalize atV ra 2 t = p2 at *
  generalize atV rb 0 t = q0 at *
  generalize atV rb 1 t = q1 at *
  generalize atV rb 2 t = q2 at *
  refine ⟨by omega, by omega, by omega, by omega, by omega⟩

end Go.Proofs.Ytnpogmhfdjmfdaa

/-
  Joined either way, and with nothing.
-/
namespace Go.Proofs.Ytnpogmhfdjmfdaa
open Go.RowKit Go.Sort

theorem addRows_comm (x y : List Int) : addRows x y = addRows y x := by
  refine of_decide_eq_true (eq_of_get (d := 0) (addRows_len x y) (addRows_len y x) fun k hk => ?_)
  rw [addRows_get _ _ _ hk, addRows_get _ _ _ hk]; omega
theorem joinV_comm (ra rb : List (List Int)) : joinV ra rb = joinV rb ra := by
  unfold joinV
  rw [addRows_comm (ra.getD 0 []), addRows_comm (ra.getD 1 []), addRows_comm (ra.getD 2 [])]
theorem joinB_comm (ra rb : List (List Int)) : joinB ra rb = joinB rb ra := by
  rw [Bool.eq_iff_iff, joinB_iff, joinB_iff]
  constructor
  · rintro ⟨a, b, c⟩; exact ⟨b, a, by omega⟩
  · rintro ⟨a, b, c⟩; exact ⟨b, a, by omega⟩
theorem join_none {ra : List (List Int)} (h : okB ra = true) : joinB ra zero3 = true ∧ joinV ra zero3 = ra := by
  have hz := zero3_ok
  have ha := allV_ok h
  obtain ⟨h3, hg⟩ := (okB_iff ra).1 h
  refine ⟨(joinB_iff _ _).2 ⟨h, hz.1, by rw [hz.2]; omega⟩, ?_⟩
  have row : ∀ i, i < 3 → addRows (ra.getD i []) (zero3.getD i []) = ra.getD i [] := fun i hi => by
    have e : zero3.getD i [] = zeros := by rcases (by omega : i = 0 ∨ i = 1 ∨ i = 2) with rfl | rfl | rfl <;> rfl
    rw [e]
    refine of_decide_eq_true (eq_of_get (d := 0) (addRows_len _ _) (hg i hi).1 fun k hk => ?_)
    rw [addRows_get _ _ _ hk, zeros_get]; omega
  refine eq_three rfl h3 fun i hi => ?_
  rw [joinV_get _ _ i hi]
  exact row i hi

end Go.Proofs.Ytnpogmhfdjmfdaa

/-
  Counted twice, in either order, or in parts: plain lists.
-/
namespace Go.Proofs.Ytnpogmhfdjmfdaa
open Go.RowKit

theorem addV_join {rs : List (List Int)} {t n : Int} (h : addB rs t n = true) : addV rs t n = joinV rs (oneV t n) := (joinV_one rs t n ((addB_iff rs t n).1 h).1).symm
theorem add_swapR {rs : List (List Int)} {t n s m : Int} (h : addB rs t n = true) :
    addB (addV rs t n) s m = (addB rs s m && addB (addV rs s m) t n) ∧ (addB (addV rs t n) s m = true → addV (addV rs t n) s m = addV (addV rs s m) t n) := by
  obtain ⟨ok, t0, t1, n0, n1⟩ := (addB_iff rs t n).1 h
  obtain ⟨okn, alln⟩ := okB_add h
  have fwd : addB (addV rs t n) s m = true → addB rs s m = true ∧ addB (addV rs s m) t n = true := fun q => by
    obtain ⟨_, s0, s1, m0, m1⟩ := (addB_iff _ s m).1 q
    have q1 : addB rs s m = true := (addB_iff rs s m).2 ⟨ok, s0, s1, m0, by omega⟩
    obtain ⟨okm, allm⟩ := okB_add q1
    exact ⟨q1, (addB_iff _ t n).2 ⟨okm, t0, t1, n0, by omega⟩⟩
  have bwd : addB rs s m = true → addB (addV rs s m) t n = true → addB (addV rs t n) s m = true := fun q1 q2 => by
    obtain ⟨_, s0, s1, m0, m1⟩ := (addB_iff rs s m).1 q1
    obtain ⟨okm, allm⟩ := okB_add q1
    obtain ⟨_, _, _, _, m2⟩ := (addB_iff _ t n).1 q2
    exact (addB_iff _ s m).2 ⟨okn, s0, s1, m0, by omega⟩
  refine ⟨?_, fun q => ?_⟩
  · cases q : addB (addV rs t n) s m with
    | true => obtain ⟨q1, q2⟩ := fwd q; rw [q1, q2]; rfl
    | false =>
      cases q1 : addB rs s m with
      | false => rfl
      | true =>
        cases q2 : addB (addV rs s m) t n with
        | false => rfl
        | true => rw [bwd q1 q2] at q; cases q
  · obtain ⟨q1, q2⟩ := fwd q
    rw [addV_join q, addV_join h, addV_join q2, addV_join q1, ← joinV_assoc, ← joinV_assoc, joinV_comm (oneV t n)]
theorem one_two (t a b : Int) : joinV (oneV t a) (oneV t b) = oneV t (a + b) := by
  have row : ∀ i, addRows (oneRow t a i) (oneRow t b i) = oneRow t (a + b) i := fun i => by
    refine List.ext_getElem (by rw [addRows_len, oneRow_len]) fun k h1 h2 => ?_
    have hk : k < 8 := by rwa [addRows_len] at h1
    have e : ∀ (l : List Int) (h : k < l.length), l[k] = l.getD k 0 := fun l h => by simp [h]
    rw [e _ h1, e _ h2, addRows_get _ _ _ hk, oneRow_get, oneRow_get, oneRow_get]
    split <;> omega
  show [addRows _ _, addRows _ _, addRows _ _] = [_, _, _]
  exact congr (congrArg List.cons (row 0)) (congr (congrArg List.cons (row 1)) (congr (congrArg List.cons (row 2)) rfl))
theorem add_cut {rs : List (List Int)} {t n a : Int} (h : addB rs t n = true) (h0 : 0 ≤ a) (h1 : a ≤ n) :
    addB rs t a = true ∧ addB (addV rs t a) t (n - a) = true ∧ addV (addV rs t a) t (n - a) = addV rs t n := by
  obtain ⟨ok, t0, t1, n0, n1⟩ := (addB_iff rs t n).1 h
  have q1 : addB rs t a = true := (addB_iff rs t a).2 ⟨ok, t0, t1, h0, by omega⟩
  obtain ⟨okm, allm⟩ := okB_add q1
  have q2 : addB (addV rs t a) t (n - a) = true := (addB_iff _ t _).2 ⟨okm, t0, t1, by omega, by omega⟩
  refine ⟨q1, q2, ?_⟩
  rw [addV_join q2, addV_join q1, addV_join h, ← joinV_assoc, one_two, show a + (n - a) = n by omega]

end Go.Proofs.Ytnpogmhfdjmfdaa
