/-
  eqDeed of a deed and itself.
-/
import Derived.Test.YtbnggcgojbkoaaaDoorNo
set_option linter.unusedVariables false
set_option linter.unusedSectionVars false
set_option linter.unusedSimpArgs false
namespace Go.Proofs.YtbnggcgojbkoaaaDoor
open Go.RowKit Go.Sort
namespace N
theorem eqDeed_at {B : Nat} {w0 w : World} {l : List Ch} (h : M B w0 w l) (x y z : Int) : Calls Tryd.prog 15 #[.agg #[.int .i64 x, .int .i64 y, .int .i64 z], .agg #[.int .i64 x, .int .i64 y, .int .i64 z]] w fun e w' => e = .returned (.bool true) ∧ M B w0 w' l := by
  have H1 := Lib.hid ((h.alloc #[.int .i64 x, .int .i64 y, .int .i64 z] 24).alloc #[.int .i64 x, .int .i64 y, .int .i64 z] 24)
  clear h
  obtain ⟨c0, c1, c2⟩ := H1.out.cells3
  obtain ⟨d0, d1, d2⟩ := H1.out.p1.cells3
  go_enter Tryd.func15, Tryd.ntmps15
  go_wp2
  go_ret
  exact ⟨rfl, H1.out.drop.drop⟩
end N
end Go.Proofs.YtbnggcgojbkoaaaDoor
