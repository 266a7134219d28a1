/-
  The first words of the program's head, and what follows from them.
-/
import Derived.Test.YtnoilafoeaknjaaGreatChecked
import Derived.KernelRfl
import Derived.JoinedOf
namespace Go.Proofs.YtnoilafoeaknjaaGreat
open Go
def headN : List Nat := [104, 97, 114, 110, 101, 115, 115, 32, 101, 56, 57, 102, 51, 99, 97, 56, 50, 98, 55, 50, 99, 51, 99, 102, 55, 55, 102, 99, 57, 51, 49, 50, 56, 50, 56, 102, 100, 54, 52, 57, 53, 99, 102, 50, 99, 101, 97, 52, 55, 57, 48, 57, 49, 102, 100, 99, 48, 52, 97, 97, 102, 54, 56, 100, 49, 51, 54, 54, 51, 101, 55, 102, 32, 99, 117, 116, 32]
def tailN : List Nat := [97, 116, 32, 108, 111, 111, 112, 46, 101, 120, 97, 109, 112, 108, 101, 47, 105, 110, 107, 108, 105, 110, 103, 47, 108, 97, 119, 115, 46, 70, 110, 82, 111, 117, 103, 104, 76, 101, 97, 115, 116, 32, 108, 111, 111, 112, 46, 101, 120, 97, 109, 112, 108, 101, 47, 105, 110, 107, 108, 105, 110, 103, 47, 108, 97, 119, 115, 46, 70, 110, 82, 111, 117, 103, 104, 77, 111, 115, 116, 32, 108, 111, 111, 112, 46, 101, 120, 97, 109, 112, 108, 101, 47, 105, 110, 107, 108, 105, 110, 103, 47, 108, 97, 119, 115, 46, 70, 110, 70, 101, 119, 74, 117, 115, 116, 32, 108, 111, 111, 112, 46, 101, 120, 97, 109, 112, 108, 101, 47, 105, 110, 107, 108, 105, 110, 103, 47, 108, 97, 119, 115, 46, 70, 110, 70, 101, 119, 72, 97, 115, 32, 108, 111, 111, 112, 46, 101, 120, 97, 109, 112, 108, 101, 47, 105, 110, 107, 108, 105, 110, 103, 47, 108, 97, 119, 115, 46, 70, 110, 84, 111, 112, 71, 101, 116, 32, 108, 111, 111, 112, 46, 101, 120, 97, 109, 112, 108, 101, 47, 105, 110, 107, 108, 105, 110, 103, 47, 108, 97, 119, 115, 46, 70, 110, 84, 111, 112, 76, 111, 115, 116, 32, 108, 111, 111, 112, 46, 101, 120, 97, 109, 112, 108, 101, 47, 105, 110, 107, 108, 105, 110, 103, 47, 108, 97, 119, 115, 46, 70, 110, 84, 111, 112, 74, 111, 105, 110, 71, 101, 116, 32, 108, 111, 111, 112, 46, 101, 120, 97, 109, 112, 108, 101, 47, 105, 110, 107, 108, 105, 110, 103, 47, 108, 97, 119, 115, 46, 70, 110, 82, 97, 110, 107, 66, 101, 108, 111, 119, 32, 108, 111, 111, 112, 46, 101, 120, 97, 109, 112, 108, 101, 47, 105, 110, 107, 108, 105, 110, 103, 47, 108, 97, 119, 115, 46, 70, 110, 82, 97, 110, 107, 65, 116, 76, 105, 115, 116, 32, 108, 111, 111, 112, 46, 101, 120, 97, 109, 112, 108, 101, 47, 105, 110, 107, 108, 105, 110, 103, 47, 108, 97, 119, 115, 46, 70, 110, 82, 97, 110, 107, 70, 101, 119, 32, 108, 111, 111, 112, 46, 101, 120, 97, 109, 112, 108, 101, 47, 105, 110, 107, 108, 105, 110, 103, 47, 108, 97, 119, 115, 46, 70, 110, 82, 97, 110, 107, 74, 111, 105, 110, 76, 105, 115, 116, 32, 108, 111, 111, 112, 46, 101, 120, 97, 109, 112, 108, 101, 47, 105, 110, 107, 108, 105, 110, 103, 47, 108, 97, 119, 115, 46, 70, 110, 83, 117, 109, 65, 100, 100, 32, 108, 111, 111, 112, 46, 101, 120, 97, 109, 112, 108, 101, 47, 105, 110, 107, 108, 105, 110, 103, 47, 108, 97, 119, 115, 46, 70, 110, 83, 117, 109, 79, 102, 32, 108, 111, 111, 112, 46, 101, 120, 97, 109, 112, 108, 101, 47, 105, 110, 107, 108, 105, 110, 103, 47, 108, 97, 119, 115, 46, 70, 110, 83, 117, 109, 79, 102, 67, 117, 116, 32, 108, 111, 111, 112, 46, 101, 120, 97, 109, 112, 108, 101, 47, 105, 110, 107, 108, 105, 110, 103, 47, 108, 97, 119, 115, 46, 70, 110, 83, 117, 109, 79, 102, 83, 119, 97, 112, 32, 108, 111, 111, 112, 46, 101, 120, 97, 109, 112, 108, 101, 47, 105, 110, 107, 108, 105, 110, 103, 47, 108, 97, 119, 115, 46, 70, 110, 83, 117, 109, 71, 101, 116, 32, 108, 111, 111, 112, 46, 101, 120, 97, 109, 112, 108, 101, 47, 105, 110, 107, 108, 105, 110, 103, 47, 108, 97, 119, 115, 46, 70, 110, 83, 117, 109, 74, 111, 105, 110, 32, 108, 111, 111, 112, 46, 101, 120, 97, 109, 112, 108, 101, 47, 105, 110, 107, 108, 105, 110, 103, 47, 108, 97, 119, 115, 46, 70, 110, 83, 117, 109, 74, 111, 105, 110, 78, 101, 119, 32, 108, 111, 111, 112, 46, 101, 120, 97, 109, 112, 108, 101, 47, 105, 110, 107, 108, 105, 110, 103, 47, 108, 97, 119, 115, 46, 70, 110, 83, 117, 109, 74, 111, 105, 110, 76, 105, 115, 116, 32, 108, 111, 111, 112, 46, 101, 120, 97, 109, 112, 108, 101, 47, 105, 110, 107, 108, 105, 110, 103, 47, 108, 97, 119, 115, 46, 70, 110, 83, 117, 109, 74, 111, 105, 110, 71, 101, 116, 32, 108, 111, 111, 112, 46, 101, 120, 97, 109, 112, 108, 101, 47, 105, 110, 107, 108, 105, 110, 103, 47, 108, 97, 119, 115, 46, 70, 110, 84, 111, 112, 74, 111, 105, 110, 72, 101, 97, 118, 121, 32, 108, 111, 111, 112, 46, 101, 120, 97, 109, 112, 108, 101, 47, 105, 110, 107, 108, 105, 110, 103, 47, 108, 97, 119, 115, 46, 70, 110, 83, 117, 109, 65, 100, 100, 83, 119, 97, 112, 32, 108, 111, 111, 112, 46, 101, 120, 97, 109, 112, 108, 101, 47, 105, 110, 107, 108, 105, 110, 103, 47, 108, 97, 119, 115, 46, 70, 110, 69, 120, 97, 99, 116, 83, 117, 109, 65, 100, 100, 32, 108, 111, 111, 112, 46, 101, 120, 97, 109, 112, 108, 101, 47, 105, 110, 107, 108, 105, 110, 103, 47, 108, 97, 119, 115, 46, 70, 110, 69, 120, 97, 99, 116, 83, 117, 109, 79, 102, 32, 108, 111, 111, 112, 46, 101, 120, 97, 109, 112, 108, 101, 47, 105, 110, 107, 108, 105, 110, 103, 47, 108, 97, 119, 115, 46, 70, 110, 69, 120, 97, 99, 116, 83, 117, 109, 74, 111, 105, 110]
set_option maxRecDepth 100000 in
theorem a1 : Tryz.prog.initOrder = String.ofList (headN.map Char.ofNat ++ tailN.map Char.ofNat) := by kernel_rfl
theorem a2 : Tryz.prog.initOrder.toList = headN.map Char.ofNat ++ tailN.map Char.ofNat := by rw [a1, String.toList_ofList]
theorem a3 (t : List Char) : behindMainWord (wordsSigns (headN.map Char.ofNat ++ t)) = "cut".toList :: wordsSigns t := by kernel_rfl
theorem bm : ∃ X, behindMainWord (wordsSigns Tryz.prog.initOrder.toList) = "cut".toList :: X := ⟨_, by rw [a2, a3]⟩
theorem may_of {P : Program} {c : List Char} {rest : List (List Char)} (h : behindMainWord (wordsSigns P.initOrder.toList) = c :: rest) : P.mayEnter =
    (((c == "gc".toList || c == "spec".toList) && (rest.isEmpty || rest.head? == some "stop".toList)) ||
    (c == "carried".toList && rest.take 2 == ["gc".toList, "cut".toList] && !P.laysLater && !P.bearsReflect) ||
    ((stripLifts liftWords (c :: rest)).2.head? == some "cut".toList &&
      ((stripLifts liftWords (c :: rest)).1.contains "finals" || !P.laysLater) && ((stripLifts liftWords (c :: rest)).1.contains "reflectrows" || !P.bearsReflect) &&
      ((stripLifts liftWords (c :: rest)).1.contains "reflectrows" || !(stripLifts liftWords (c :: rest)).1.contains "leanrows") &&
      P.doorFits (stripLifts liftWords (c :: rest)).1)) := by
  unfold Program.mayEnter; rw [h]
theorem lift_of {P : Program} {c : List Char} {rest : List (List Char)} (h : behindMainWord (wordsSigns P.initOrder.toList) = c :: rest) : P.headLifts = if (stripLifts liftWords (c :: rest)).2.head? == some "cut".toList then (stripLifts liftWords (c :: rest)).1 else [] := by
  unfold Program.headLifts; rw [h]
theorem strip (X : List (List Char)) : stripLifts liftWords ("cut".toList :: X) = ([], "cut".toList :: X) := by kernel_rfl
theorem make_of {P : Program} {rest : List (List Char)} (h : behindMainWord (wordsSigns P.initOrder.toList) = "cut".toList :: rest) : P.make = some .cut := by
  unfold Program.make; rw [h]; kernel_rfl
theorem may_cut {P : Program} {rest : List (List Char)} (h : behindMainWord (wordsSigns P.initOrder.toList) = "cut".toList :: rest) (h1 : P.laysLater = false) (h2 : P.bearsReflect = false) (h3 : P.doorFits [] = true) : P.mayEnter = true := by
  rw [may_of h, strip, h1, h2, h3]; kernel_rfl
theorem final_cut {P : Program} {rest : List (List Char)} (h : behindMainWord (wordsSigns P.initOrder.toList) = "cut".toList :: rest) : P.liftsFinal = false := by
  unfold Program.liftsFinal; rw [lift_of h, h, strip]; kernel_rfl
theorem lays0 : Tryz.prog.laysLater = false := by kernel_rfl
theorem refl0 : Tryz.prog.bearsReflect = false := by kernel_rfl
theorem door0 : Tryz.prog.doorFits [] = true := by kernel_rfl
theorem mayE : Tryz.prog.mayEnter = true := by
  obtain ⟨X, h⟩ := bm; exact may_cut h lays0 refl0 door0
theorem liftF : Tryz.prog.liftsFinal = false := by
  obtain ⟨X, h⟩ := bm; exact final_cut h
theorem makeC : Tryz.prog.make = some .cut := by
  obtain ⟨X, h⟩ := bm; exact make_of h
end Go.Proofs.YtnoilafoeaknjaaGreat
