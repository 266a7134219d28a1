/-
  The statement of the law FnExactNetSum: at every input the call returns true and leaves what it was given as it was.
-/
import Derived.Deep.DeepCutAuto
import Derived.Test.YtcblbdpdbggkbaaGreatRows
import Derived.WalkKit
import Derived.ProofKit
import Derived.OpenShut
import Derived.ShutString
import Derived.ChangeOld
import Derived.Below
import Derived.Test.YtcblbdpdbggkbaaGreatSXS13
namespace Go.Proofs.YtcblbdpdbggkbaaGreat.fnExactNetSum
open Go.ChangeShapes Go.WideShapes Go.ChangeAt Go.RowKit
open Go.ChangeMaps (open_string shut_string)
set_option linter.unusedVariables false

theorem joined : joinedFacts Tryz.prog 15 Tryz.f15 Rows.fnExactNetSumSpec Rows.fnExactNetSumRow = true := by unfold joinedFacts; rw [mayE, liftF, makeC]; kernel_rfl
end Go.Proofs.YtcblbdpdbggkbaaGreat.fnExactNetSum
