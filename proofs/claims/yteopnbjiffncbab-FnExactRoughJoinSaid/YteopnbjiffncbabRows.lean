/-
  No cell of these rows narrows 'for every input' (looked for: loops, veiled, ifaces, maps, wideKeys, modest, calm, conditions, laid).
  DERIVED. THE GIVEN ROWS OF THIS SEAT. 11 by the template 'for every input the law returns true; each argument reads behind the call as it read before'; 0 by the template 'total and deterministic' (their statements: YteopnbjiffncbabTotals.lean).
  GIVEN WITH THE SEED: the statements are not yours to turn. If you find one false, say at which input.
  Laid BY PROGRAM, IN A SANDBOX (cutbox-rows.mjs): the forced cells as the released guide's own fill.sh prints them over the translation 2c793e326a62536b… (all of the seat's roots in one cut). By AI agents, Wed Nov 11 2026. No macro, syntax, notation, axiom, sorry.
-/
import Derived.Test.YteopnbjiffncbabChecked
import GoSem.Claim
import GoSem.ClaimJoined
import GoSem.ClaimMapViews
import Derived.JoinedTies
import Derived.KernelRfl
namespace Go.Proofs.Yteopnbjiffncbab
/- THE CELL 'sum', in the pinned program and in every row, IS THE sha256 OF THE DUMP (.gsa) THAT YteopnbjiffncbabProg.lean LOADS. Nothing in Lean hashes anything: it is a label: what it is worth is what the hold of that sum in a sandbox is worth. -/
noncomputable def Try.pinned : Pinned := { name := "yteopnbjiffncbab", sum := "2c793e326a62536bbde1777af7ed7d1d6c909991c111cad7416b2b4427ad3af2", checked := Try.checked }
namespace Rows
def none {H : Type} : Left H := { results := [], args := [] }

/-- 'laws.FnExactRoughNew': WHATEVER THE INPUT: true; the input reads as it did. -/
def fnExactRoughNewSpec : ChangeSpec := { name := "fnExactRoughNew", fn := fun _ => fun
  | [] => { results := [.lit (.bool true)], args := [] }
  | _ => none }
def fnExactRoughNewRow : OpenClaim := { program := "yteopnbjiffncbab", sum := "2c793e326a62536bbde1777af7ed7d1d6c909991c111cad7416b2b4427ad3af2", func := "loop.example/inkling/laws.FnExactRoughNew", spec := "fnExactRoughNew", apart := false }
def FnExactRoughNewSaid : Prop := fnExactRoughNewRow.holds Try.pinned (OpenSpec.ofChange fnExactRoughNewSpec)

/-- ITS FALSE NEIGHBOUR: 'it returns false'. Refute it at one input. -/
def fnExactRoughNewWrong : ChangeSpec := { name := "fnExactRoughNew", fn := fun _ => fun
  | [] => { results := [.lit (.bool false)], args := [] }
  | _ => none }
def FnExactRoughNewWrongFalsely : Prop := fnExactRoughNewRow.holds Try.pinned (OpenSpec.ofChange fnExactRoughNewWrong)

/-- 'laws.FnExactRoughOk': WHATEVER THE INPUT: true; the input reads as it did. -/
def fnExactRoughOkSpec : ChangeSpec := { name := "fnExactRoughOk", fn := fun _ => fun
  | [d] => { results := [.lit (.bool true)], args := [d] }
  | _ => none }
def fnExactRoughOkRow : OpenClaim := { program := "yteopnbjiffncbab", sum := "2c793e326a62536bbde1777af7ed7d1d6c909991c111cad7416b2b4427ad3af2", func := "loop.example/inkling/laws.FnExactRoughOk", spec := "fnExactRoughOk", apart := false }
def FnExactRoughOkSaid : Prop := fnExactRoughOkRow.holds Try.pinned (OpenSpec.ofChange fnExactRoughOkSpec)

/-- ITS FALSE NEIGHBOUR: 'it returns false'. Refute it at one input. -/
def fnExactRoughOkWrong : ChangeSpec := { name := "fnExactRoughOk", fn := fun _ => fun
  | [d] => { results := [.lit (.bool false)], args := [d] }
  | _ => none }
def FnExactRoughOkWrongFalsely : Prop := fnExactRoughOkRow.holds Try.pinned (OpenSpec.ofChange fnExactRoughOkWrong)

/-- 'laws.FnExactRoughAdd': WHATEVER THE INPUT: true; the input reads as it did. -/
def fnExactRoughAddSpec : ChangeSpec := { name := "fnExactRoughAdd", fn := fun _ => fun
  | [d1, d2, d3] => { results := [.lit (.bool true)], args := [d1, d2, d3] }
  | _ => none }
def fnExactRoughAddRow : OpenClaim := { program := "yteopnbjiffncbab", sum := "2c793e326a62536bbde1777af7ed7d1d6c909991c111cad7416b2b4427ad3af2", func := "loop.example/inkling/laws.FnExactRoughAdd", spec := "fnExactRoughAdd", unfollowed := true, recurses := true, apart := false }
def FnExactRoughAddSaid : Prop := fnExactRoughAddRow.holds Try.pinned (OpenSpec.ofChange fnExactRoughAddSpec)

/-- ITS FALSE NEIGHBOUR: 'it returns false'. Refute it at one input. -/
def fnExactRoughAddWrong : ChangeSpec := { name := "fnExactRoughAdd", fn := fun _ => fun
  | [d1, d2, d3] => { results := [.lit (.bool false)], args := [d1, d2, d3] }
  | _ => none }
def FnExactRoughAddWrongFalsely : Prop := fnExactRoughAddRow.holds Try.pinned (OpenSpec.ofChange fnExactRoughAddWrong)

/-- 'laws.FnExactRoughGet': WHATEVER THE INPUT: true; the input reads as it did. -/
def fnExactRoughGetSpec : ChangeSpec := { name := "fnExactRoughGet", fn := fun _ => fun
  | [d1, d2] => { results := [.lit (.bool true)], args := [d1, d2] }
  | _ => none }
def fnExactRoughGetRow : OpenClaim := { program := "yteopnbjiffncbab", sum := "2c793e326a62536bbde1777af7ed7d1d6c909991c111cad7416b2b4427ad3af2", func := "loop.example/inkling/laws.FnExactRoughGet", spec := "fnExactRoughGet", apart := false }
def FnExactRoughGetSaid : Prop := fnExactRoughGetRow.holds Try.pinned (OpenSpec.ofChange fnExactRoughGetSpec)

/-- ITS FALSE NEIGHBOUR: 'it returns false'. Refute it at one input. -/
def fnExactRoughGetWrong : ChangeSpec := { name := "fnExactRoughGet", fn := fun _ => fun
  | [d1, d2] => { results := [.lit (.bool false)], args := [d1, d2] }
  | _ => none }
def FnExactRoughGetWrongFalsely : Prop := fnExactRoughGetRow.holds Try.pinned (OpenSpec.ofChange fnExactRoughGetWrong)

/-- 'laws.FnExactRoughAll': WHATEVER THE INPUT: true; the input reads as it did. -/
def fnExactRoughAllSpec : ChangeSpec := { name := "fnExactRoughAll", fn := fun _ => fun
  | [d] => { results := [.lit (.bool true)], args := [d] }
  | _ => none }
def fnExactRoughAllRow : OpenClaim := { program := "yteopnbjiffncbab", sum := "2c793e326a62536bbde1777af7ed7d1d6c909991c111cad7416b2b4427ad3af2", func := "loop.example/inkling/laws.FnExactRoughAll", spec := "fnExactRoughAll", apart := false }
def FnExactRoughAllSaid : Prop := fnExactRoughAllRow.holds Try.pinned (OpenSpec.ofChange fnExactRoughAllSpec)

/-- ITS FALSE NEIGHBOUR: 'it returns false'. Refute it at one input. -/
def fnExactRoughAllWrong : ChangeSpec := { name := "fnExactRoughAll", fn := fun _ => fun
  | [d] => { results := [.lit (.bool false)], args := [d] }
  | _ => none }
def FnExactRoughAllWrongFalsely : Prop := fnExactRoughAllRow.holds Try.pinned (OpenSpec.ofChange fnExactRoughAllWrong)

/-- 'laws.FnExactRoughJoin': WHATEVER THE INPUT: true; the input reads as it did. -/
def fnExactRoughJoinSpec : ChangeSpec := { name := "fnExactRoughJoin", fn := fun _ => fun
  | [d1, d2] => { results := [.lit (.bool true)], args := [d1, d2] }
  | _ => none }
def fnExactRoughJoinRow : OpenClaim := { program := "yteopnbjiffncbab", sum := "2c793e326a62536bbde1777af7ed7d1d6c909991c111cad7416b2b4427ad3af2", func := "loop.example/inkling/laws.FnExactRoughJoin", spec := "fnExactRoughJoin", unfollowed := true, recurses := true, apart := false }
def FnExactRoughJoinSaid : Prop := fnExactRoughJoinRow.holds Try.pinned (OpenSpec.ofChange fnExactRoughJoinSpec)

/-- ITS FALSE NEIGHBOUR: 'it returns false'. Refute it at one input. -/
def fnExactRoughJoinWrong : ChangeSpec := { name := "fnExactRoughJoin", fn := fun _ => fun
  | [d1, d2] => { results := [.lit (.bool false)], args := [d1, d2] }
  | _ => none }
def FnExactRoughJoinWrongFalsely : Prop := fnExactRoughJoinRow.holds Try.pinned (OpenSpec.ofChange fnExactRoughJoinWrong)

/-- 'laws.FnExactFewOk': WHATEVER THE INPUT: true; the input reads as it did. -/
def fnExactFewOkSpec : ChangeSpec := { name := "fnExactFewOk", fn := fun _ => fun
  | [d] => { results := [.lit (.bool true)], args := [d] }
  | _ => none }
def fnExactFewOkRow : OpenClaim := { program := "yteopnbjiffncbab", sum := "2c793e326a62536bbde1777af7ed7d1d6c909991c111cad7416b2b4427ad3af2", func := "loop.example/inkling/laws.FnExactFewOk", spec := "fnExactFewOk", apart := false }
def FnExactFewOkSaid : Prop := fnExactFewOkRow.holds Try.pinned (OpenSpec.ofChange fnExactFewOkSpec)

/-- ITS FALSE NEIGHBOUR: 'it returns false'. Refute it at one input. -/
def fnExactFewOkWrong : ChangeSpec := { name := "fnExactFewOk", fn := fun _ => fun
  | [d] => { results := [.lit (.bool false)], args := [d] }
  | _ => none }
def FnExactFewOkWrongFalsely : Prop := fnExactFewOkRow.holds Try.pinned (OpenSpec.ofChange fnExactFewOkWrong)

/-- 'laws.FnExactFewAdd': WHATEVER THE INPUT: true; the input reads as it did. -/
def fnExactFewAddSpec : ChangeSpec := { name := "fnExactFewAdd", fn := fun _ => fun
  | [d1, d2] => { results := [.lit (.bool true)], args := [d1, d2] }
  | _ => none }
def fnExactFewAddRow : OpenClaim := { program := "yteopnbjiffncbab", sum := "2c793e326a62536bbde1777af7ed7d1d6c909991c111cad7416b2b4427ad3af2", func := "loop.example/inkling/laws.FnExactFewAdd", spec := "fnExactFewAdd", unfollowed := true, recurses := true, apart := false }
def FnExactFewAddSaid : Prop := fnExactFewAddRow.holds Try.pinned (OpenSpec.ofChange fnExactFewAddSpec)

/-- ITS FALSE NEIGHBOUR: 'it returns false'. Refute it at one input. -/
def fnExactFewAddWrong : ChangeSpec := { name := "fnExactFewAdd", fn := fun _ => fun
  | [d1, d2] => { results := [.lit (.bool false)], args := [d1, d2] }
  | _ => none }
def FnExactFewAddWrongFalsely : Prop := fnExactFewAddRow.holds Try.pinned (OpenSpec.ofChange fnExactFewAddWrong)

/-- 'laws.FnExactFewJoin': WHATEVER THE INPUT: true; the input reads as it did. -/
def fnExactFewJoinSpec : ChangeSpec := { name := "fnExactFewJoin", fn := fun _ => fun
  | [d1, d2] => { results := [.lit (.bool true)], args := [d1, d2] }
  | _ => none }
def fnExactFewJoinRow : OpenClaim := { program := "yteopnbjiffncbab", sum := "2c793e326a62536bbde1777af7ed7d1d6c909991c111cad7416b2b4427ad3af2", func := "loop.example/inkling/laws.FnExactFewJoin", spec := "fnExactFewJoin", unfollowed := true, recurses := true, apart := false }
def FnExactFewJoinSaid : Prop := fnExactFewJoinRow.holds Try.pinned (OpenSpec.ofChange fnExactFewJoinSpec)

/-- ITS FALSE NEIGHBOUR: 'it returns false'. Refute it at one input. -/
def fnExactFewJoinWrong : ChangeSpec := { name := "fnExactFewJoin", fn := fun _ => fun
  | [d1, d2] => { results := [.lit (.bool false)], args := [d1, d2] }
  | _ => none }
def FnExactFewJoinWrongFalsely : Prop := fnExactFewJoinRow.holds Try.pinned (OpenSpec.ofChange fnExactFewJoinWrong)

/-- 'laws.FnExactFewCount': WHATEVER THE INPUT: true; the input reads as it did. -/
def fnExactFewCountSpec : ChangeSpec := { name := "fnExactFewCount", fn := fun _ => fun
  | [d] => { results := [.lit (.bool true)], args := [d] }
  | _ => none }
def fnExactFewCountRow : OpenClaim := { program := "yteopnbjiffncbab", sum := "2c793e326a62536bbde1777af7ed7d1d6c909991c111cad7416b2b4427ad3af2", func := "loop.example/inkling/laws.FnExactFewCount", spec := "fnExactFewCount", apart := false }
def FnExactFewCountSaid : Prop := fnExactFewCountRow.holds Try.pinned (OpenSpec.ofChange fnExactFewCountSpec)

/-- ITS FALSE NEIGHBOUR: 'it returns false'. Refute it at one input. -/
def fnExactFewCountWrong : ChangeSpec := { name := "fnExactFewCount", fn := fun _ => fun
  | [d] => { results := [.lit (.bool false)], args := [d] }
  | _ => none }
def FnExactFewCountWrongFalsely : Prop := fnExactFewCountRow.holds Try.pinned (OpenSpec.ofChange fnExactFewCountWrong)

/-- 'laws.FnExactFewHas': WHATEVER THE INPUT: true; the input reads as it did. -/
def fnExactFewHasSpec : ChangeSpec := { name := "fnExactFewHas", fn := fun _ => fun
  | [d1, d2] => { results := [.lit (.bool true)], args := [d1, d2] }
  | _ => none }
def fnExactFewHasRow : OpenClaim := { program := "yteopnbjiffncbab", sum := "2c793e326a62536bbde1777af7ed7d1d6c909991c111cad7416b2b4427ad3af2", func := "loop.example/inkling/laws.FnExactFewHas", spec := "fnExactFewHas", apart := false }
def FnExactFewHasSaid : Prop := fnExactFewHasRow.holds Try.pinned (OpenSpec.ofChange fnExactFewHasSpec)

/-- ITS FALSE NEIGHBOUR: 'it returns false'. Refute it at one input. -/
def fnExactFewHasWrong : ChangeSpec := { name := "fnExactFewHas", fn := fun _ => fun
  | [d1, d2] => { results := [.lit (.bool false)], args := [d1, d2] }
  | _ => none }
def FnExactFewHasWrongFalsely : Prop := fnExactFewHasRow.holds Try.pinned (OpenSpec.ofChange fnExactFewHasWrong)

/- THE SECOND FORM. 'bulk': how many values and letters a reading holds, each counted each time it is reached (what is shared counts as often as it is met; a slice's spare places count too). A statement '..UptoSaid' is the law's where the arguments, and the package variables that the reading takes, are together of bulk at most 1048576: NARROWER than '..Said'. Prove '..Said' where nothing that the law and all that it calls make is longer than what came in: it says more and counts as full. Else prove '..UptoSaid'. A law counts once. -/
mutual
def uptoBulk {H : Type} : DataW H → Nat
  | .lit (.string bytes) => bytes.length + 1
  | .lit _ => 1
  | .nil => 1
  | .ptr d => uptoBulk d + 1
  | .slice elems spare => uptoBulkAll elems + uptoBulkAll spare + 1
  | .agg parts => uptoBulkAll parts + 1
  | .iface _ d => uptoBulk d + 1
  | .map entries => uptoBulkEntries entries + 1
  | .held _ => 1
def uptoBulkAll {H : Type} : List (DataW H) → Nat
  | [] => 0
  | d :: r => uptoBulk d + uptoBulkAll r
def uptoBulkEntries {H : Type} : List (Lit × DataW H) → Nat
  | [] => 0
  | x :: r => uptoBulkEntry x + uptoBulkEntries r
def uptoBulkEntry {H : Type} : Lit × DataW H → Nat
  | (.string bytes, d) => bytes.length + uptoBulk d + 1
  | (_, d) => uptoBulk d + 1
 end
def uptoSmall : (H : Type) → List (DataW H) → Bool := fun _ ds => decide (uptoBulkAll ds ≤ 1048576)
def OpenSpec.upto (s : _root_.Go.ChangeSpec) : _root_.Go.OpenSpec := { _root_.Go.OpenSpec.ofChange s with cond := some uptoSmall }

/-- 'laws.FnExactRoughNew', WHERE WHAT IT READS IS OF BULK AT MOST 1048576: true; the input reads as it did. -/
def fnExactRoughNewUptoRow : OpenClaim := { program := "yteopnbjiffncbab", sum := "2c793e326a62536bbde1777af7ed7d1d6c909991c111cad7416b2b4427ad3af2", func := "loop.example/inkling/laws.FnExactRoughNew", spec := "fnExactRoughNew", apart := false, narrowed := true }
def FnExactRoughNewUptoSaid : Prop := fnExactRoughNewUptoRow.holds Try.pinned (OpenSpec.upto fnExactRoughNewSpec)

/-- 'laws.FnExactRoughOk', WHERE WHAT IT READS IS OF BULK AT MOST 1048576: true; the input reads as it did. -/
def fnExactRoughOkUptoRow : OpenClaim := { program := "yteopnbjiffncbab", sum := "2c793e326a62536bbde1777af7ed7d1d6c909991c111cad7416b2b4427ad3af2", func := "loop.example/inkling/laws.FnExactRoughOk", spec := "fnExactRoughOk", apart := false, narrowed := true }
def FnExactRoughOkUptoSaid : Prop := fnExactRoughOkUptoRow.holds Try.pinned (OpenSpec.upto fnExactRoughOkSpec)

/-- 'laws.FnExactRoughAdd', WHERE WHAT IT READS IS OF BULK AT MOST 1048576: true; the input reads as it did. -/
def fnExactRoughAddUptoRow : OpenClaim := { program := "yteopnbjiffncbab", sum := "2c793e326a62536bbde1777af7ed7d1d6c909991c111cad7416b2b4427ad3af2", func := "loop.example/inkling/laws.FnExactRoughAdd", spec := "fnExactRoughAdd", unfollowed := true, recurses := true, apart := false, narrowed := true }
def FnExactRoughAddUptoSaid : Prop := fnExactRoughAddUptoRow.holds Try.pinned (OpenSpec.upto fnExactRoughAddSpec)

/-- 'laws.FnExactRoughGet', WHERE WHAT IT READS IS OF BULK AT MOST 1048576: true; the input reads as it did. -/
def fnExactRoughGetUptoRow : OpenClaim := { program := "yteopnbjiffncbab", sum := "2c793e326a62536bbde1777af7ed7d1d6c909991c111cad7416b2b4427ad3af2", func := "loop.example/inkling/laws.FnExactRoughGet", spec := "fnExactRoughGet", apart := false, narrowed := true }
def FnExactRoughGetUptoSaid : Prop := fnExactRoughGetUptoRow.holds Try.pinned (OpenSpec.upto fnExactRoughGetSpec)

/-- 'laws.FnExactRoughAll', WHERE WHAT IT READS IS OF BULK AT MOST 1048576: true; the input reads as it did. -/
def fnExactRoughAllUptoRow : OpenClaim := { program := "yteopnbjiffncbab", sum := "2c793e326a62536bbde1777af7ed7d1d6c909991c111cad7416b2b4427ad3af2", func := "loop.example/inkling/laws.FnExactRoughAll", spec := "fnExactRoughAll", apart := false, narrowed := true }
def FnExactRoughAllUptoSaid : Prop := fnExactRoughAllUptoRow.holds Try.pinned (OpenSpec.upto fnExactRoughAllSpec)

/-- 'laws.FnExactRoughJoin', WHERE WHAT IT READS IS OF BULK AT MOST 1048576: true; the input reads as it did. -/
def fnExactRoughJoinUptoRow : OpenClaim := { program := "yteopnbjiffncbab", sum := "2c793e326a62536bbde1777af7ed7d1d6c909991c111cad7416b2b4427ad3af2", func := "loop.example/inkling/laws.FnExactRoughJoin", spec := "fnExactRoughJoin", unfollowed := true, recurses := true, apart := false, narrowed := true }
def FnExactRoughJoinUptoSaid : Prop := fnExactRoughJoinUptoRow.holds Try.pinned (OpenSpec.upto fnExactRoughJoinSpec)

/-- 'laws.FnExactFewOk', WHERE WHAT IT READS IS OF BULK AT MOST 1048576: true; the input reads as it did. -/
def fnExactFewOkUptoRow : OpenClaim := { program := "yteopnbjiffncbab", sum := "2c793e326a62536bbde1777af7ed7d1d6c909991c111cad7416b2b4427ad3af2", func := "loop.example/inkling/laws.FnExactFewOk", spec := "fnExactFewOk", apart := false, narrowed := true }
def FnExactFewOkUptoSaid : Prop := fnExactFewOkUptoRow.holds Try.pinned (OpenSpec.upto fnExactFewOkSpec)

/-- 'laws.FnExactFewAdd', WHERE WHAT IT READS IS OF BULK AT MOST 1048576: true; the input reads as it did. -/
def fnExactFewAddUptoRow : OpenClaim := { program := "yteopnbjiffncbab", sum := "2c793e326a62536bbde1777af7ed7d1d6c909991c111cad7416b2b4427ad3af2", func := "loop.example/inkling/laws.FnExactFewAdd", spec := "fnExactFewAdd", unfollowed := true, recurses := true, apart := false, narrowed := true }
def FnExactFewAddUptoSaid : Prop := fnExactFewAddUptoRow.holds Try.pinned (OpenSpec.upto fnExactFewAddSpec)

/-- 'laws.FnExactFewJoin', WHERE WHAT IT READS IS OF BULK AT MOST 1048576: true; the input reads as it did. -/
def fnExactFewJoinUptoRow : OpenClaim := { program := "yteopnbjiffncbab", sum := "2c793e326a62536bbde1777af7ed7d1d6c909991c111cad7416b2b4427ad3af2", func := "loop.example/inkling/laws.FnExactFewJoin", spec := "fnExactFewJoin", unfollowed := true, recurses := true, apart := false, narrowed := true }
def FnExactFewJoinUptoSaid : Prop := fnExactFewJoinUptoRow.holds Try.pinned (OpenSpec.upto fnExactFewJoinSpec)

/-- 'laws.FnExactFewCount', WHERE WHAT IT READS IS OF BULK AT MOST 1048576: true; the input reads as it did. -/
def fnExactFewCountUptoRow : OpenClaim := { program := "yteopnbjiffncbab", sum := "2c793e326a62536bbde1777af7ed7d1d6c909991c111cad7416b2b4427ad3af2", func := "loop.example/inkling/laws.FnExactFewCount", spec := "fnExactFewCount", apart := false, narrowed := true }
def FnExactFewCountUptoSaid : Prop := fnExactFewCountUptoRow.holds Try.pinned (OpenSpec.upto fnExactFewCountSpec)

/-- 'laws.FnExactFewHas', WHERE WHAT IT READS IS OF BULK AT MOST 1048576: true; the input reads as it did. -/
def fnExactFewHasUptoRow : OpenClaim := { program := "yteopnbjiffncbab", sum := "2c793e326a62536bbde1777af7ed7d1d6c909991c111cad7416b2b4427ad3af2", func := "loop.example/inkling/laws.FnExactFewHas", spec := "fnExactFewHas", apart := false, narrowed := true }
def FnExactFewHasUptoSaid : Prop := fnExactFewHasUptoRow.holds Try.pinned (OpenSpec.upto fnExactFewHasSpec)

end Rows
end Go.Proofs.Yteopnbjiffncbab
