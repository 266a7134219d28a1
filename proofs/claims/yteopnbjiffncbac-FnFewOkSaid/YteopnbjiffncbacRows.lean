/-
  No cell of these rows narrows 'for every input' (looked for: loops, veiled, ifaces, maps, wideKeys, modest, calm, conditions, laid).
  DERIVED. THE GIVEN ROWS OF THIS SEAT. 11 by the template 'for every input the law returns true; each argument reads behind the call as it read before'; 0 by the template 'total and deterministic' (their statements: YteopnbjiffncbacTotals.lean).
  GIVEN WITH THE SEED: the statements are not yours to turn. If you find one false, say at which input.
  Laid BY PROGRAM, IN A SANDBOX (cutbox-rows.mjs): the forced cells as the released guide's own fill.sh prints them over the translation c10e5e4142aaaf0a… (all of the seat's roots in one cut). By AI agents, Wed Nov 11 2026. No macro, syntax, notation, axiom, sorry.
-/
import Derived.Test.YteopnbjiffncbacChecked
import GoSem.Claim
import GoSem.ClaimJoined
import GoSem.ClaimMapViews
import Derived.JoinedTies
import Derived.KernelRfl
namespace Go.Proofs.Yteopnbjiffncbac
/- THE CELL 'sum', in the pinned program and in every row, IS THE sha256 OF THE DUMP (.gsa) THAT YteopnbjiffncbacProg.lean LOADS. Nothing in Lean hashes anything: it is a label: what it is worth is what the hold of that sum in a sandbox is worth. -/
noncomputable def Try.pinned : Pinned := { name := "yteopnbjiffncbac", sum := "c10e5e4142aaaf0af2b4079c261364f42b033d8c51cc0ff896db8e8233503ec9", checked := Try.checked }
namespace Rows
def none {H : Type} : Left H := { results := [], args := [] }

/-- 'laws.FnFewMark': WHATEVER THE INPUT: true; the input reads as it did. -/
def fnFewMarkSpec : ChangeSpec := { name := "fnFewMark", fn := fun _ => fun
  | [d1, d2] => { results := [.lit (.bool true)], args := [d1, d2] }
  | _ => none }
def fnFewMarkRow : OpenClaim := { program := "yteopnbjiffncbac", sum := "c10e5e4142aaaf0af2b4079c261364f42b033d8c51cc0ff896db8e8233503ec9", func := "loop.example/inkling/laws.FnFewMark", spec := "fnFewMark", apart := false }
def FnFewMarkSaid : Prop := fnFewMarkRow.holds Try.pinned (OpenSpec.ofChange fnFewMarkSpec)

/-- ITS FALSE NEIGHBOUR: 'it returns false'. Refute it at one input. -/
def fnFewMarkWrong : ChangeSpec := { name := "fnFewMark", fn := fun _ => fun
  | [d1, d2] => { results := [.lit (.bool false)], args := [d1, d2] }
  | _ => none }
def FnFewMarkWrongFalsely : Prop := fnFewMarkRow.holds Try.pinned (OpenSpec.ofChange fnFewMarkWrong)

/-- 'laws.FnFewOk': WHATEVER THE INPUT: true; the input reads as it did. -/
def fnFewOkSpec : ChangeSpec := { name := "fnFewOk", fn := fun _ => fun
  | [d] => { results := [.lit (.bool true)], args := [d] }
  | _ => none }
def fnFewOkRow : OpenClaim := { program := "yteopnbjiffncbac", sum := "c10e5e4142aaaf0af2b4079c261364f42b033d8c51cc0ff896db8e8233503ec9", func := "loop.example/inkling/laws.FnFewOk", spec := "fnFewOk", apart := false }
def FnFewOkSaid : Prop := fnFewOkRow.holds Try.pinned (OpenSpec.ofChange fnFewOkSpec)

/-- ITS FALSE NEIGHBOUR: 'it returns false'. Refute it at one input. -/
def fnFewOkWrong : ChangeSpec := { name := "fnFewOk", fn := fun _ => fun
  | [d] => { results := [.lit (.bool false)], args := [d] }
  | _ => none }
def FnFewOkWrongFalsely : Prop := fnFewOkRow.holds Try.pinned (OpenSpec.ofChange fnFewOkWrong)

/-- 'laws.FnFewAdd': WHATEVER THE INPUT: true; the input reads as it did. -/
def fnFewAddSpec : ChangeSpec := { name := "fnFewAdd", fn := fun _ => fun
  | [d] => { results := [.lit (.bool true)], args := [d] }
  | _ => none }
def fnFewAddRow : OpenClaim := { program := "yteopnbjiffncbac", sum := "c10e5e4142aaaf0af2b4079c261364f42b033d8c51cc0ff896db8e8233503ec9", func := "loop.example/inkling/laws.FnFewAdd", spec := "fnFewAdd", unfollowed := true, recurses := true, apart := false }
def FnFewAddSaid : Prop := fnFewAddRow.holds Try.pinned (OpenSpec.ofChange fnFewAddSpec)

/-- ITS FALSE NEIGHBOUR: 'it returns false'. Refute it at one input. -/
def fnFewAddWrong : ChangeSpec := { name := "fnFewAdd", fn := fun _ => fun
  | [d] => { results := [.lit (.bool false)], args := [d] }
  | _ => none }
def FnFewAddWrongFalsely : Prop := fnFewAddRow.holds Try.pinned (OpenSpec.ofChange fnFewAddWrong)

/-- 'laws.FnFewAddSwap': WHATEVER THE INPUT: true; the input reads as it did. -/
def fnFewAddSwapSpec : ChangeSpec := { name := "fnFewAddSwap", fn := fun _ => fun
  | [d1, d2] => { results := [.lit (.bool true)], args := [d1, d2] }
  | _ => none }
def fnFewAddSwapRow : OpenClaim := { program := "yteopnbjiffncbac", sum := "c10e5e4142aaaf0af2b4079c261364f42b033d8c51cc0ff896db8e8233503ec9", func := "loop.example/inkling/laws.FnFewAddSwap", spec := "fnFewAddSwap", unfollowed := true, recurses := true, apart := false }
def FnFewAddSwapSaid : Prop := fnFewAddSwapRow.holds Try.pinned (OpenSpec.ofChange fnFewAddSwapSpec)

/-- ITS FALSE NEIGHBOUR: 'it returns false'. Refute it at one input. -/
def fnFewAddSwapWrong : ChangeSpec := { name := "fnFewAddSwap", fn := fun _ => fun
  | [d1, d2] => { results := [.lit (.bool false)], args := [d1, d2] }
  | _ => none }
def FnFewAddSwapWrongFalsely : Prop := fnFewAddSwapRow.holds Try.pinned (OpenSpec.ofChange fnFewAddSwapWrong)

/-- 'laws.FnFewJoin': WHATEVER THE INPUT: true; the input reads as it did. -/
def fnFewJoinSpec : ChangeSpec := { name := "fnFewJoin", fn := fun _ => fun
  | [d] => { results := [.lit (.bool true)], args := [d] }
  | _ => none }
def fnFewJoinRow : OpenClaim := { program := "yteopnbjiffncbac", sum := "c10e5e4142aaaf0af2b4079c261364f42b033d8c51cc0ff896db8e8233503ec9", func := "loop.example/inkling/laws.FnFewJoin", spec := "fnFewJoin", unfollowed := true, recurses := true, apart := false }
def FnFewJoinSaid : Prop := fnFewJoinRow.holds Try.pinned (OpenSpec.ofChange fnFewJoinSpec)

/-- ITS FALSE NEIGHBOUR: 'it returns false'. Refute it at one input. -/
def fnFewJoinWrong : ChangeSpec := { name := "fnFewJoin", fn := fun _ => fun
  | [d] => { results := [.lit (.bool false)], args := [d] }
  | _ => none }
def FnFewJoinWrongFalsely : Prop := fnFewJoinRow.holds Try.pinned (OpenSpec.ofChange fnFewJoinWrong)

/-- 'laws.FnFewJoinThree': WHATEVER THE INPUT: true; the input reads as it did. -/
def fnFewJoinThreeSpec : ChangeSpec := { name := "fnFewJoinThree", fn := fun _ => fun
  | [d1, d2] => { results := [.lit (.bool true)], args := [d1, d2] }
  | _ => none }
def fnFewJoinThreeRow : OpenClaim := { program := "yteopnbjiffncbac", sum := "c10e5e4142aaaf0af2b4079c261364f42b033d8c51cc0ff896db8e8233503ec9", func := "loop.example/inkling/laws.FnFewJoinThree", spec := "fnFewJoinThree", unfollowed := true, recurses := true, apart := false }
def FnFewJoinThreeSaid : Prop := fnFewJoinThreeRow.holds Try.pinned (OpenSpec.ofChange fnFewJoinThreeSpec)

/-- ITS FALSE NEIGHBOUR: 'it returns false'. Refute it at one input. -/
def fnFewJoinThreeWrong : ChangeSpec := { name := "fnFewJoinThree", fn := fun _ => fun
  | [d1, d2] => { results := [.lit (.bool false)], args := [d1, d2] }
  | _ => none }
def FnFewJoinThreeWrongFalsely : Prop := fnFewJoinThreeRow.holds Try.pinned (OpenSpec.ofChange fnFewJoinThreeWrong)

/-- 'laws.FnFewCount': WHATEVER THE INPUT: true; the input reads as it did. -/
def fnFewCountSpec : ChangeSpec := { name := "fnFewCount", fn := fun _ => fun
  | [d] => { results := [.lit (.bool true)], args := [d] }
  | _ => none }
def fnFewCountRow : OpenClaim := { program := "yteopnbjiffncbac", sum := "c10e5e4142aaaf0af2b4079c261364f42b033d8c51cc0ff896db8e8233503ec9", func := "loop.example/inkling/laws.FnFewCount", spec := "fnFewCount", apart := false }
def FnFewCountSaid : Prop := fnFewCountRow.holds Try.pinned (OpenSpec.ofChange fnFewCountSpec)

/-- ITS FALSE NEIGHBOUR: 'it returns false'. Refute it at one input. -/
def fnFewCountWrong : ChangeSpec := { name := "fnFewCount", fn := fun _ => fun
  | [d] => { results := [.lit (.bool false)], args := [d] }
  | _ => none }
def FnFewCountWrongFalsely : Prop := fnFewCountRow.holds Try.pinned (OpenSpec.ofChange fnFewCountWrong)

/-- 'laws.FnFewHasAll': WHATEVER THE INPUT: true; the input reads as it did. -/
def fnFewHasAllSpec : ChangeSpec := { name := "fnFewHasAll", fn := fun _ => fun
  | [d] => { results := [.lit (.bool true)], args := [d] }
  | _ => none }
def fnFewHasAllRow : OpenClaim := { program := "yteopnbjiffncbac", sum := "c10e5e4142aaaf0af2b4079c261364f42b033d8c51cc0ff896db8e8233503ec9", func := "loop.example/inkling/laws.FnFewHasAll", spec := "fnFewHasAll", apart := false }
def FnFewHasAllSaid : Prop := fnFewHasAllRow.holds Try.pinned (OpenSpec.ofChange fnFewHasAllSpec)

/-- ITS FALSE NEIGHBOUR: 'it returns false'. Refute it at one input. -/
def fnFewHasAllWrong : ChangeSpec := { name := "fnFewHasAll", fn := fun _ => fun
  | [d] => { results := [.lit (.bool false)], args := [d] }
  | _ => none }
def FnFewHasAllWrongFalsely : Prop := fnFewHasAllRow.holds Try.pinned (OpenSpec.ofChange fnFewHasAllWrong)

/-- 'laws.FnFewJoinHas': WHATEVER THE INPUT: true; the input reads as it did. -/
def fnFewJoinHasSpec : ChangeSpec := { name := "fnFewJoinHas", fn := fun _ => fun
  | [d] => { results := [.lit (.bool true)], args := [d] }
  | _ => none }
def fnFewJoinHasRow : OpenClaim := { program := "yteopnbjiffncbac", sum := "c10e5e4142aaaf0af2b4079c261364f42b033d8c51cc0ff896db8e8233503ec9", func := "loop.example/inkling/laws.FnFewJoinHas", spec := "fnFewJoinHas", unfollowed := true, recurses := true, apart := false }
def FnFewJoinHasSaid : Prop := fnFewJoinHasRow.holds Try.pinned (OpenSpec.ofChange fnFewJoinHasSpec)

/-- ITS FALSE NEIGHBOUR: 'it returns false'. Refute it at one input. -/
def fnFewJoinHasWrong : ChangeSpec := { name := "fnFewJoinHas", fn := fun _ => fun
  | [d] => { results := [.lit (.bool false)], args := [d] }
  | _ => none }
def FnFewJoinHasWrongFalsely : Prop := fnFewJoinHasRow.holds Try.pinned (OpenSpec.ofChange fnFewJoinHasWrong)

/-- 'laws.FnFewKept': WHATEVER THE INPUT: true; the input reads as it did. -/
def fnFewKeptSpec : ChangeSpec := { name := "fnFewKept", fn := fun _ => fun
  | [d] => { results := [.lit (.bool true)], args := [d] }
  | _ => none }
def fnFewKeptRow : OpenClaim := { program := "yteopnbjiffncbac", sum := "c10e5e4142aaaf0af2b4079c261364f42b033d8c51cc0ff896db8e8233503ec9", func := "loop.example/inkling/laws.FnFewKept", spec := "fnFewKept", unfollowed := true, recurses := true, apart := false }
def FnFewKeptSaid : Prop := fnFewKeptRow.holds Try.pinned (OpenSpec.ofChange fnFewKeptSpec)

/-- ITS FALSE NEIGHBOUR: 'it returns false'. Refute it at one input. -/
def fnFewKeptWrong : ChangeSpec := { name := "fnFewKept", fn := fun _ => fun
  | [d] => { results := [.lit (.bool false)], args := [d] }
  | _ => none }
def FnFewKeptWrongFalsely : Prop := fnFewKeptRow.holds Try.pinned (OpenSpec.ofChange fnFewKeptWrong)

/-- 'laws.FnExactFewMark': WHATEVER THE INPUT: true; the input reads as it did. -/
def fnExactFewMarkSpec : ChangeSpec := { name := "fnExactFewMark", fn := fun _ => fun
  | [d] => { results := [.lit (.bool true)], args := [d] }
  | _ => none }
def fnExactFewMarkRow : OpenClaim := { program := "yteopnbjiffncbac", sum := "c10e5e4142aaaf0af2b4079c261364f42b033d8c51cc0ff896db8e8233503ec9", func := "loop.example/inkling/laws.FnExactFewMark", spec := "fnExactFewMark", apart := false }
def FnExactFewMarkSaid : Prop := fnExactFewMarkRow.holds Try.pinned (OpenSpec.ofChange fnExactFewMarkSpec)

/-- ITS FALSE NEIGHBOUR: 'it returns false'. Refute it at one input. -/
def fnExactFewMarkWrong : ChangeSpec := { name := "fnExactFewMark", fn := fun _ => fun
  | [d] => { results := [.lit (.bool false)], args := [d] }
  | _ => none }
def FnExactFewMarkWrongFalsely : Prop := fnExactFewMarkRow.holds Try.pinned (OpenSpec.ofChange fnExactFewMarkWrong)

/- THE SECOND FORM. 'bulk': how many values and letters a reading holds, each counted each time it is reached (what is shared counts as often as it is met; a slice's spare places count too). A statement '..UptoSaid' is the law's where the arguments, and the package variables that the reading takes, are together of bulk at most 1048576: NARROWER than '..Said'. Prove '..Said' where nothing that the law and all that it calls make is longer than what came in: it says more and counts as full. Else prove '..UptoSaid'. A law counts once. -/
mutual
def uptoBulk {H : Type} : DataW H → Nat
  | .lit (.string bytes) => bytes.length + 1
  | .lit _ => 1
  | .nil => 1
  | .ptr d => uptoBulk d + 1
  | .slice elems spare => uptoBulkAll elems + uptoBulkAll spare + 1
  | .agg parts => uptoBulkAll parts + 1
  | .iface _ d => uptoBulk d + 1
  | .map entries => uptoBulkEntries entries + 1
  | .held _ => 1
def uptoBulkAll {H : Type} : List (DataW H) → Nat
  | [] => 0
  | d :: r => uptoBulk d + uptoBulkAll r
def uptoBulkEntries {H : Type} : List (Lit × DataW H) → Nat
  | [] => 0
  | x :: r => uptoBulkEntry x + uptoBulkEntries r
def uptoBulkEntry {H : Type} : Lit × DataW H → Nat
  | (.string bytes, d) => bytes.length + uptoBulk d + 1
  | (_, d) => uptoBulk d + 1
 end
def uptoSmall : (H : Type) → List (DataW H) → Bool := fun _ ds => decide (uptoBulkAll ds ≤ 1048576)
def OpenSpec.upto (s : _root_.Go.ChangeSpec) : _root_.Go.OpenSpec := { _root_.Go.OpenSpec.ofChange s with cond := some uptoSmall }

/-- 'laws.FnFewMark', WHERE WHAT IT READS IS OF BULK AT MOST 1048576: true; the input reads as it did. -/
def fnFewMarkUptoRow : OpenClaim := { program := "yteopnbjiffncbac", sum := "c10e5e4142aaaf0af2b4079c261364f42b033d8c51cc0ff896db8e8233503ec9", func := "loop.example/inkling/laws.FnFewMark", spec := "fnFewMark", apart := false, narrowed := true }
def FnFewMarkUptoSaid : Prop := fnFewMarkUptoRow.holds Try.pinned (OpenSpec.upto fnFewMarkSpec)

/-- 'laws.FnFewOk', WHERE WHAT IT READS IS OF BULK AT MOST 1048576: true; the input reads as it did. -/
def fnFewOkUptoRow : OpenClaim := { program := "yteopnbjiffncbac", sum := "c10e5e4142aaaf0af2b4079c261364f42b033d8c51cc0ff896db8e8233503ec9", func := "loop.example/inkling/laws.FnFewOk", spec := "fnFewOk", apart := false, narrowed := true }
def FnFewOkUptoSaid : Prop := fnFewOkUptoRow.holds Try.pinned (OpenSpec.upto fnFewOkSpec)

/-- 'laws.FnFewAdd', WHERE WHAT IT READS IS OF BULK AT MOST 1048576: true; the input reads as it did. -/
def fnFewAddUptoRow : OpenClaim := { program := "yteopnbjiffncbac", sum := "c10e5e4142aaaf0af2b4079c261364f42b033d8c51cc0ff896db8e8233503ec9", func := "loop.example/inkling/laws.FnFewAdd", spec := "fnFewAdd", unfollowed := true, recurses := true, apart := false, narrowed := true }
def FnFewAddUptoSaid : Prop := fnFewAddUptoRow.holds Try.pinned (OpenSpec.upto fnFewAddSpec)

/-- 'laws.FnFewAddSwap', WHERE WHAT IT READS IS OF BULK AT MOST 1048576: true; the input reads as it did. -/
def fnFewAddSwapUptoRow : OpenClaim := { program := "yteopnbjiffncbac", sum := "c10e5e4142aaaf0af2b4079c261364f42b033d8c51cc0ff896db8e8233503ec9", func := "loop.example/inkling/laws.FnFewAddSwap", spec := "fnFewAddSwap", unfollowed := true, recurses := true, apart := false, narrowed := true }
def FnFewAddSwapUptoSaid : Prop := fnFewAddSwapUptoRow.holds Try.pinned (OpenSpec.upto fnFewAddSwapSpec)

/-- 'laws.FnFewJoin', WHERE WHAT IT READS IS OF BULK AT MOST 1048576: true; the input reads as it did. -/
def fnFewJoinUptoRow : OpenClaim := { program := "yteopnbjiffncbac", sum := "c10e5e4142aaaf0af2b4079c261364f42b033d8c51cc0ff896db8e8233503ec9", func := "loop.example/inkling/laws.FnFewJoin", spec := "fnFewJoin", unfollowed := true, recurses := true, apart := false, narrowed := true }
def FnFewJoinUptoSaid : Prop := fnFewJoinUptoRow.holds Try.pinned (OpenSpec.upto fnFewJoinSpec)

/-- 'laws.FnFewJoinThree', WHERE WHAT IT READS IS OF BULK AT MOST 1048576: true; the input reads as it did. -/
def fnFewJoinThreeUptoRow : OpenClaim := { program := "yteopnbjiffncbac", sum := "c10e5e4142aaaf0af2b4079c261364f42b033d8c51cc0ff896db8e8233503ec9", func := "loop.example/inkling/laws.FnFewJoinThree", spec := "fnFewJoinThree", unfollowed := true, recurses := true, apart := false, narrowed := true }
def FnFewJoinThreeUptoSaid : Prop := fnFewJoinThreeUptoRow.holds Try.pinned (OpenSpec.upto fnFewJoinThreeSpec)

/-- 'laws.FnFewCount', WHERE WHAT IT READS IS OF BULK AT MOST 1048576: true; the input reads as it did. -/
def fnFewCountUptoRow : OpenClaim := { program := "yteopnbjiffncbac", sum := "c10e5e4142aaaf0af2b4079c261364f42b033d8c51cc0ff896db8e8233503ec9", func := "loop.example/inkling/laws.FnFewCount", spec := "fnFewCount", apart := false, narrowed := true }
def FnFewCountUptoSaid : Prop := fnFewCountUptoRow.holds Try.pinned (OpenSpec.upto fnFewCountSpec)

/-- 'laws.FnFewHasAll', WHERE WHAT IT READS IS OF BULK AT MOST 1048576: true; the input reads as it did. -/
def fnFewHasAllUptoRow : OpenClaim := { program := "yteopnbjiffncbac", sum := "c10e5e4142aaaf0af2b4079c261364f42b033d8c51cc0ff896db8e8233503ec9", func := "loop.example/inkling/laws.FnFewHasAll", spec := "fnFewHasAll", apart := false, narrowed := true }
def FnFewHasAllUptoSaid : Prop := fnFewHasAllUptoRow.holds Try.pinned (OpenSpec.upto fnFewHasAllSpec)

/-- 'laws.FnFewJoinHas', WHERE WHAT IT READS IS OF BULK AT MOST 1048576: true; the input reads as it did. -/
def fnFewJoinHasUptoRow : OpenClaim := { program := "yteopnbjiffncbac", sum := "c10e5e4142aaaf0af2b4079c261364f42b033d8c51cc0ff896db8e8233503ec9", func := "loop.example/inkling/laws.FnFewJoinHas", spec := "fnFewJoinHas", unfollowed := true, recurses := true, apart := false, narrowed := true }
def FnFewJoinHasUptoSaid : Prop := fnFewJoinHasUptoRow.holds Try.pinned (OpenSpec.upto fnFewJoinHasSpec)

/-- 'laws.FnFewKept', WHERE WHAT IT READS IS OF BULK AT MOST 1048576: true; the input reads as it did. -/
def fnFewKeptUptoRow : OpenClaim := { program := "yteopnbjiffncbac", sum := "c10e5e4142aaaf0af2b4079c261364f42b033d8c51cc0ff896db8e8233503ec9", func := "loop.example/inkling/laws.FnFewKept", spec := "fnFewKept", unfollowed := true, recurses := true, apart := false, narrowed := true }
def FnFewKeptUptoSaid : Prop := fnFewKeptUptoRow.holds Try.pinned (OpenSpec.upto fnFewKeptSpec)

/-- 'laws.FnExactFewMark', WHERE WHAT IT READS IS OF BULK AT MOST 1048576: true; the input reads as it did. -/
def fnExactFewMarkUptoRow : OpenClaim := { program := "yteopnbjiffncbac", sum := "c10e5e4142aaaf0af2b4079c261364f42b033d8c51cc0ff896db8e8233503ec9", func := "loop.example/inkling/laws.FnExactFewMark", spec := "fnExactFewMark", apart := false, narrowed := true }
def FnExactFewMarkUptoSaid : Prop := fnExactFewMarkUptoRow.holds Try.pinned (OpenSpec.upto fnExactFewMarkSpec)

end Rows
end Go.Proofs.Yteopnbjiffncbac
