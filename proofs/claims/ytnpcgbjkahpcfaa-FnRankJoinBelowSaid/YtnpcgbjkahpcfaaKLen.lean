/-
  How many knots there are at most, counted once more or joined.
-/
import Derived.Test.YtnpcgbjkahpcfaaKJoin2
namespace Go.Proofs.Ytnpcgbjkahpcfaa

theorem addK_len (ps : List Pr) (all t : Int) : (addK ps all t).1.length ≤ 127 := by
  unfold addK
  split
  · exact doneK_len _ _
  · exact Nat.zero_le _
theorem joinK_len (ps : List Pr) (a : Int) (qs : List Pr) (b : Int) : (joinK ps a qs b).1.length ≤ 127 := by
  unfold joinK
  split
  · exact doneK_len _ _
  · exact Nat.zero_le _

end Go.Proofs.Ytnpcgbjkahpcfaa
