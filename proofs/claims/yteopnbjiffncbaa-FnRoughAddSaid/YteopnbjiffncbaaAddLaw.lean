/-
  Counted twice, in either order, or in parts: plain lists.
-/
import Derived.Test.YteopnbjiffncbaaJoinLaw
import Derived.Test.YteopnbjiffncbaaDAdd
namespace Go.Proofs.Yteopnbjiffncbaa
open Go.RowKit

theorem addV_join {rs : List (List Int)} {t n : Int} (h : addB rs t n = true) : addV rs t n = joinV rs (oneV t n) := (joinV_one rs t n ((addB_iff rs t n).1 h).1).symm
theorem add_swapR {rs : List (List Int)} {t n s m : Int} (h : addB rs t n = true) :
    addB (addV rs t n) s m = (addB rs s m && addB (addV rs s m) t n) ∧ (addB (addV rs t n) s m = true → addV (addV rs t n) s m = addV (addV rs s m) t n) := by
  obtain ⟨ok, t0, t1, n0, n1⟩ := (addB_iff rs t n).1 h
  obtain ⟨okn, alln⟩ := okB_add h
  have fwd : addB (addV rs t n) s m = true → addB rs s m = true ∧ addB (addV rs s m) t n = true := fun q => by
    obtain ⟨_, s0, s1, m0, m1⟩ := (addB_iff _ s m).1 q
    have q1 : addB rs s m = true := (addB_iff rs s m).2 ⟨ok, s0, s1, m0, by omega⟩
    obtain ⟨okm, allm⟩ := okB_add q1
    exact ⟨q1, (addB_iff _ t n).2 ⟨okm, t0, t1, n0, by omega⟩⟩
  have bwd : addB rs s m = true → addB (addV rs s m) t n = true → addB (addV rs t n) s m = true := fun q1 q2 => by
    obtain ⟨_, s0, s1, m0, m1⟩ := (addB_iff rs s m).1 q1
    obtain ⟨okm, allm⟩ := okB_add q1
    obtain ⟨_, _, _, _, m2⟩ := (addB_iff _ t n).1 q2
    exact (addB_iff _ s m).2 ⟨okn, s0, s1, m0, by omega⟩
  refine ⟨?_, fun q => ?_⟩
  · cases q : addB (addV rs t n) s m with
    | true => obtain ⟨q1, q2⟩ := fwd q; rw [q1, q2]; rfl
    | false =>
      cases q1 : addB rs s m with
      | false => rfl
      | true =>
        cases q2 : addB (addV rs s m) t n with
        | false => rfl
        | true => rw [bwd q1 q2] at q; cases q
  · obtain ⟨q1, q2⟩ := fwd q
    rw [addV_join q, addV_join h, addV_join q2, addV_join q1, ← joinV_assoc, ← joinV_assoc, joinV_comm (oneV t n)]
theorem one_two (t a b : Int) : joinV (oneV t a) (oneV t b) = oneV t (a + b) := by
  have row : ∀ i, addRows (oneRow t a i) (oneRow t b i) = oneRow t (a + b) i := fun i => by
    refine List.ext_getElem (by rw [addRows_len, oneRow_len]) fun k h1 h2 => ?_
    have hk : k < 8 := by rwa [addRows_len] at h1
    have e : ∀ (l : List Int) (h : k < l.length), l[k] = l.getD k 0 := fun l h => by simp [h]
    rw [e _ h1, e _ h2, addRows_get _ _ _ hk, oneRow_get, oneRow_get, oneRow_get]
    split <;> omega
  show [addRows _ _, addRows _ _, addRows _ _] = [_, _, _]
  exact congr (congrArg List.cons (row 0)) (congr (congrArg List.cons (row 1)) (congr (congrArg List.cons (row 2)) rfl))
theorem add_cut {rs : List (List Int)} {t n a : Int} (h : addB rs t n = true) (h0 : 0 ≤ a) (h1 : a ≤ n) :
    addB rs t a = true ∧ addB (addV rs t a) t (n - a) = true ∧ addV (addV rs t a) t (n - a) = addV rs t n := by
  obtain ⟨ok, t0, t1, n0, n1⟩ := (addB_iff rs t n).1 h
  have q1 : addB rs t a = true := (addB_iff rs t a).2 ⟨ok, t0, t1, h0, by omega⟩
  obtain ⟨okm, allm⟩ := okB_add q1
  have q2 : addB (addV rs t a) t (n - a) = true := (addB_iff _ t _).2 ⟨okm, t0, t1, by omega, by omega⟩
  refine ⟨q1, q2, ?_⟩
  rw [addV_join q2, addV_join q1, addV_join h, ← joinV_assoc, one_two, show a + (n - a) = n by omega]

end Go.Proofs.Yteopnbjiffncbaa
