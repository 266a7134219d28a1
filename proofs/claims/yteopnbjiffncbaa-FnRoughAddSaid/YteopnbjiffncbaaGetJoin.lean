/-
  What a joined count tells of a thing.
-/
import Derived.Test.YteopnbjiffncbaaDJoin
namespace Go.Proofs.Yteopnbjiffncbaa
open Go.RowKit Go.Sort

theorem atV_le {rs : List (List Int)} (ok : okB rs = true) (t : Int) (i : Nat) (hi : i < 3) : atV rs i t ≤ allV rs := by
  obtain ⟨P, _, hP, e⟩ := place_nat i t
  have F := fine_okB ok i hi
  have hs := sum_take_succ (rs.getD i []) P (by rw [F.1.1]; exact hP)
  have p0 := sum_nonneg (fun z hz => F.1.bd.1 z (List.mem_of_mem_take hz) : ∀ z ∈ (rs.getD i []).take P, 0 ≤ z)
  have p1 := sum_take_le F.1.bd.1 (P + 1)
  have p2 := F.2
  unfold atV
  rw [e]
  omega

theorem atV_join (ra rb : List (List Int)) (t : Int) (i : Nat) (hi : i < 3) : atV (joinV ra rb) i t = atV ra i t + atV rb i t := by
  obtain ⟨P, _, hP, e⟩ := place_nat i t
  unfold atV
  rw [e, joinV_get _ _ i hi]
  unfold addRows
  simp [hP]

theorem getV_join {ra rb : List (List Int)} {t : Int} (hj : joinB ra rb = true) (h0 : 0 ≤ t) (h1 : t < 64) :
    getV ra t + getV rb t ≤ getV (joinV ra rb) t ∧ getV (joinV ra rb) t ≤ getV ra t + allV rb ∧ (0 ≤ getV ra t ∧ getV ra t ≤ 2000) ∧ (0 ≤ getV rb t ∧ getV rb t ≤ 2000) ∧ 0 ≤ allV rb ∧ allV rb ≤ 2000 := by
  obtain ⟨ka, kb, _⟩ := (joinB_iff _ _).1 hj
  have kx := (okB_join hj).1
  rw [getV_ok ka h0 h1, getV_ok kb h0 h1, getV_ok kx h0 h1, atV_join _ _ _ 0 (by omega), atV_join _ _ _ 1 (by omega), atV_join _ _ _ 2 (by omega)]
  have a0 := atV_bd ka 0 (by omega) t
  have a1 := atV_bd ka 1 (by omega) t
  have a2 := atV_bd ka 2 (by omega) t
  have b0 := atV_bd kb 0 (by omega) t
  have b1 := atV_bd kb 1 (by omega) t
  have b2 := atV_bd kb 2 (by omega) t
  have l0 := atV_le kb t 0 (by omega)
  have l1 := atV_le kb t 1 (by omega)
  have l2 := atV_le kb t 2 (by omega)
  have s := allV_ok kb
  generalize atV ra 0 t = p0 at *
  generalize atV ra 1 t = p1 at *
  generalize atV ra 2 t = p2 at *
  generalize atV rb 0 t = q0 at *
  generalize atV rb 1 t = q1 at *
  generalize atV rb 2 t = q2 at *
  refine ⟨by omega, by omega, by omega, by omega, by omega⟩

end Go.Proofs.Yteopnbjiffncbaa
