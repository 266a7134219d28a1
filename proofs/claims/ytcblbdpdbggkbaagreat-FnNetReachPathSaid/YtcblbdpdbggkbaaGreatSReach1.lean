/-
  What the laws of Reach need of the texts before it, part 1.
-/
import Derived.Lib.Hide
import Derived.RegionTactic
set_option maxRecDepth 100000
set_option maxHeartbeats 16000000
set_option linter.unusedVariables false
set_option linter.unusedSectionVars false
set_option linter.unusedSimpArgs false
namespace Go.Proofs.YtcblbdpdbggkbaaGreat
theorem hd_ {P : Prop} (h : P) : Go.RowKit.Hid P := h
theorem lr_ {n : Nat} : n ≤ n := Nat.le_refl n
end Go.Proofs.YtcblbdpdbggkbaaGreat
