/-
  What the laws of XS need of the texts before it, part 1.
-/
import Derived.Test.YtcblbdpdbggkbaaGreatProg
import Derived.WalkKit
import Derived.KernelRfl
import Derived.Lib.Hide
import Derived.RegionTactic
set_option maxRecDepth 100000
set_option maxHeartbeats 16000000
set_option linter.unusedVariables false
set_option linter.unusedSectionVars false
set_option linter.unusedSimpArgs false
namespace Go.Proofs.YtcblbdpdbggkbaaGreat
theorem r_ {p : Prop} (h : p := by rfl) : p := h
theorem kr_ {p : Prop} (h : p := by kernel_rfl) : p := h
theorem dc_ {p : Prop} (h : p := by decide) : p := h
theorem gn_ {p : Prop} (h : p := by go_num) : p := h
theorem hd_ {P : Prop} (h : P) : Go.RowKit.Hid P := h
theorem lr_ {n : Nat} : n ≤ n := Nat.le_refl n
end Go.Proofs.YtcblbdpdbggkbaaGreat
