/-
  Two of what was counted most that read the same: laws.lkRank says so.
-/
import Derived.Test.YtnoilafoeaknjaaKa
import Derived.BigQuiet
import Derived.Laws.StructEq
set_option linter.unusedVariables false
namespace Go.Proofs.Ytnoilafoeaknjaa.K
open Go.RowKit Go.Sort

end Go.Proofs.Ytnoilafoeaknjaa.K
