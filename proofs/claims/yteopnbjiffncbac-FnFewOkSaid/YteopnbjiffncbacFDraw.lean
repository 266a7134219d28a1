/-
  Marks that are drawn from a code.
-/
import Derived.Test.YteopnbjiffncbacThing
import Derived.Test.YteopnbjiffncbacPutAdd
namespace Go.Proofs.Yteopnbjiffncbac
open Go.RowKit Go.Sort

theorem drawMark_at (w : World) (v : Value) (n : Nat) (h : ∃ x cap, v = .slice x n cap) (hb : Bts w w.heap.size v n) :
    Calls Try.prog 14 #[v] w fun e w' => ∃ t : Int, e = .returned (.int .i64 t) ∧ Below w.heap.size w w' := by
  have H := Lib.hid h
  have HB := Lib.hid hb
  clear h hb
  go_enter Try.func14, Try.ntmps14
  go_wp2_with fail
  refine (open_rd w v n H.out HB.out).mono ?_
  rintro e w1 ⟨rfl, hr1, hb1⟩
  go_wp2_with fail
  refine (thing_at w1 w.heap.size 0 hr1 (by omega) (by omega)).mono ?_
  rintro e w2 ⟨t, q, rfl, t0, t1, _, _, hr2, hg2⟩
  go_wp2
  go_ret
  exact ⟨_, rfl, hb1.trans (below_grown hg2 (Nat.le_refl _) (by have := hr1.lt; omega))⟩

end Go.Proofs.Yteopnbjiffncbac
