/-
  Joined either way, and with nothing.
-/
import Derived.Test.YteopnbjiffncbaaGetJoin
import Derived.Deep.RegionWith
namespace Go.Proofs.Yteopnbjiffncbaa
open Go.RowKit Go.Sort

theorem addRows_comm (x y : List Int) : addRows x y = addRows y x := by
  refine of_decide_eq_true (eq_of_get (d := 0) (addRows_len x y) (addRows_len y x) fun k hk => ?_)
  rw [addRows_get _ _ _ hk, addRows_get _ _ _ hk]; omega
theorem joinV_comm (ra rb : List (List Int)) : joinV ra rb = joinV rb ra := by
  unfold joinV
  rw [addRows_comm (ra.getD 0 []), addRows_comm (ra.getD 1 []), addRows_comm (ra.getD 2 [])]
theorem joinB_comm (ra rb : List (List Int)) : joinB ra rb = joinB rb ra := by
  rw [Bool.eq_iff_iff, joinB_iff, joinB_iff]
  constructor
  · rintro ⟨a, b, c⟩; exact ⟨b, a, by omega⟩
  · rintro ⟨a, b, c⟩; exact ⟨b, a, by omega⟩
theorem join_none {ra : List (List Int)} (h : okB ra = true) : joinB ra zero3 = true ∧ joinV ra zero3 = ra := by
  have hz := zero3_ok
  have ha := allV_ok h
  obtain ⟨h3, hg⟩ := (okB_iff ra).1 h
  refine ⟨(joinB_iff _ _).2 ⟨h, hz.1, by rw [hz.2]; omega⟩, ?_⟩
  have row : ∀ i, i < 3 → addRows (ra.getD i []) (zero3.getD i []) = ra.getD i [] := fun i hi => by
    have e : zero3.getD i [] = zeros := by rcases (by omega : i = 0 ∨ i = 1 ∨ i = 2) with rfl | rfl | rfl <;> rfl
    rw [e]
    refine of_decide_eq_true (eq_of_get (d := 0) (addRows_len _ _) (hg i hi).1 fun k hk => ?_)
    rw [addRows_get _ _ _ hk, zeros_get]; omega
  refine eq_three rfl h3 fun i hi => ?_
  rw [joinV_get _ _ i hi]
  exact row i hi

end Go.Proofs.Yteopnbjiffncbaa
