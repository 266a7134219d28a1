/-
  Two of what was counted most that read the same: laws.lkTop says so.
-/
import Derived.Test.YtnoilafoeaknjaaTa
import Derived.BigQuiet
import Derived.Laws.StructEq
set_option linter.unusedVariables false
namespace Go.Proofs.Ytnoilafoeaknjaa.T
open Go.RowKit Go.Sort

end Go.Proofs.Ytnoilafoeaknjaa.T
