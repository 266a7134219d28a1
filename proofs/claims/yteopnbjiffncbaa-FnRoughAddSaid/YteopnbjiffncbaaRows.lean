/-
  No cell of these rows narrows 'for every input' (looked for: loops, veiled, ifaces, maps, wideKeys, modest, calm, conditions, laid).
  DERIVED. THE GIVEN ROWS OF THIS SEAT. 11 by the template 'for every input the law returns true; each argument reads behind the call as it read before'; 0 by the template 'total and deterministic' (their statements: YteopnbjiffncbaaTotals.lean).
  GIVEN WITH THE SEED: the statements are not yours to turn. If you find one false, say at which input.
  Laid BY PROGRAM, IN A SANDBOX (cutbox-rows.mjs): the forced cells as the released guide's own fill.sh prints them over the translation 1fe1f90c1926adf8… (all of the seat's roots in one cut). By AI agents, Wed Nov 11 2026. No macro, syntax, notation, axiom, sorry.
-/
import Derived.Test.YteopnbjiffncbaaChecked
import GoSem.Claim
import GoSem.ClaimJoined
import GoSem.ClaimMapViews
import Derived.JoinedTies
import Derived.KernelRfl
namespace Go.Proofs.Yteopnbjiffncbaa
/- THE CELL 'sum', in the pinned program and in every row, IS THE sha256 OF THE DUMP (.gsa) THAT YteopnbjiffncbaaProg.lean LOADS. Nothing in Lean hashes anything: it is a label: what it is worth is what the hold of that sum in a sandbox is worth. -/
noncomputable def Try.pinned : Pinned := { name := "yteopnbjiffncbaa", sum := "1fe1f90c1926adf8ab6772005e70c6edec9225f1bfed3740651a75aa2cba5d0e", checked := Try.checked }
namespace Rows
def none {H : Type} : Left H := { results := [], args := [] }

/-- 'laws.FnRoughPlace': WHATEVER THE INPUT: true; the input reads as it did. -/
def fnRoughPlaceSpec : ChangeSpec := { name := "fnRoughPlace", fn := fun _ => fun
  | [d] => { results := [.lit (.bool true)], args := [d] }
  | _ => none }
def fnRoughPlaceRow : OpenClaim := { program := "yteopnbjiffncbaa", sum := "1fe1f90c1926adf8ab6772005e70c6edec9225f1bfed3740651a75aa2cba5d0e", func := "loop.example/inkling/laws.FnRoughPlace", spec := "fnRoughPlace", apart := false }
def FnRoughPlaceSaid : Prop := fnRoughPlaceRow.holds Try.pinned (OpenSpec.ofChange fnRoughPlaceSpec)

/-- ITS FALSE NEIGHBOUR: 'it returns false'. Refute it at one input. -/
def fnRoughPlaceWrong : ChangeSpec := { name := "fnRoughPlace", fn := fun _ => fun
  | [d] => { results := [.lit (.bool false)], args := [d] }
  | _ => none }
def FnRoughPlaceWrongFalsely : Prop := fnRoughPlaceRow.holds Try.pinned (OpenSpec.ofChange fnRoughPlaceWrong)

/-- 'laws.FnRoughAdd': WHATEVER THE INPUT: true; the input reads as it did. -/
def fnRoughAddSpec : ChangeSpec := { name := "fnRoughAdd", fn := fun _ => fun
  | [d] => { results := [.lit (.bool true)], args := [d] }
  | _ => none }
def fnRoughAddRow : OpenClaim := { program := "yteopnbjiffncbaa", sum := "1fe1f90c1926adf8ab6772005e70c6edec9225f1bfed3740651a75aa2cba5d0e", func := "loop.example/inkling/laws.FnRoughAdd", spec := "fnRoughAdd", unfollowed := true, recurses := true, apart := false }
def FnRoughAddSaid : Prop := fnRoughAddRow.holds Try.pinned (OpenSpec.ofChange fnRoughAddSpec)

/-- ITS FALSE NEIGHBOUR: 'it returns false'. Refute it at one input. -/
def fnRoughAddWrong : ChangeSpec := { name := "fnRoughAdd", fn := fun _ => fun
  | [d] => { results := [.lit (.bool false)], args := [d] }
  | _ => none }
def FnRoughAddWrongFalsely : Prop := fnRoughAddRow.holds Try.pinned (OpenSpec.ofChange fnRoughAddWrong)

/-- 'laws.FnRoughAddSwap': WHATEVER THE INPUT: true; the input reads as it did. -/
def fnRoughAddSwapSpec : ChangeSpec := { name := "fnRoughAddSwap", fn := fun _ => fun
  | [d1, d2] => { results := [.lit (.bool true)], args := [d1, d2] }
  | _ => none }
def fnRoughAddSwapRow : OpenClaim := { program := "yteopnbjiffncbaa", sum := "1fe1f90c1926adf8ab6772005e70c6edec9225f1bfed3740651a75aa2cba5d0e", func := "loop.example/inkling/laws.FnRoughAddSwap", spec := "fnRoughAddSwap", unfollowed := true, recurses := true, apart := false }
def FnRoughAddSwapSaid : Prop := fnRoughAddSwapRow.holds Try.pinned (OpenSpec.ofChange fnRoughAddSwapSpec)

/-- ITS FALSE NEIGHBOUR: 'it returns false'. Refute it at one input. -/
def fnRoughAddSwapWrong : ChangeSpec := { name := "fnRoughAddSwap", fn := fun _ => fun
  | [d1, d2] => { results := [.lit (.bool false)], args := [d1, d2] }
  | _ => none }
def FnRoughAddSwapWrongFalsely : Prop := fnRoughAddSwapRow.holds Try.pinned (OpenSpec.ofChange fnRoughAddSwapWrong)

/-- 'laws.FnRoughAddCut': WHATEVER THE INPUT: true; the input reads as it did. -/
def fnRoughAddCutSpec : ChangeSpec := { name := "fnRoughAddCut", fn := fun _ => fun
  | [d1, d2] => { results := [.lit (.bool true)], args := [d1, d2] }
  | _ => none }
def fnRoughAddCutRow : OpenClaim := { program := "yteopnbjiffncbaa", sum := "1fe1f90c1926adf8ab6772005e70c6edec9225f1bfed3740651a75aa2cba5d0e", func := "loop.example/inkling/laws.FnRoughAddCut", spec := "fnRoughAddCut", unfollowed := true, recurses := true, apart := false }
def FnRoughAddCutSaid : Prop := fnRoughAddCutRow.holds Try.pinned (OpenSpec.ofChange fnRoughAddCutSpec)

/-- ITS FALSE NEIGHBOUR: 'it returns false'. Refute it at one input. -/
def fnRoughAddCutWrong : ChangeSpec := { name := "fnRoughAddCut", fn := fun _ => fun
  | [d1, d2] => { results := [.lit (.bool false)], args := [d1, d2] }
  | _ => none }
def FnRoughAddCutWrongFalsely : Prop := fnRoughAddCutRow.holds Try.pinned (OpenSpec.ofChange fnRoughAddCutWrong)

/-- 'laws.FnRoughGet': WHATEVER THE INPUT: true; the input reads as it did. -/
def fnRoughGetSpec : ChangeSpec := { name := "fnRoughGet", fn := fun _ => fun
  | [d] => { results := [.lit (.bool true)], args := [d] }
  | _ => none }
def fnRoughGetRow : OpenClaim := { program := "yteopnbjiffncbaa", sum := "1fe1f90c1926adf8ab6772005e70c6edec9225f1bfed3740651a75aa2cba5d0e", func := "loop.example/inkling/laws.FnRoughGet", spec := "fnRoughGet", apart := false }
def FnRoughGetSaid : Prop := fnRoughGetRow.holds Try.pinned (OpenSpec.ofChange fnRoughGetSpec)

/-- ITS FALSE NEIGHBOUR: 'it returns false'. Refute it at one input. -/
def fnRoughGetWrong : ChangeSpec := { name := "fnRoughGet", fn := fun _ => fun
  | [d] => { results := [.lit (.bool false)], args := [d] }
  | _ => none }
def FnRoughGetWrongFalsely : Prop := fnRoughGetRow.holds Try.pinned (OpenSpec.ofChange fnRoughGetWrong)

/-- 'laws.FnRoughAll': WHATEVER THE INPUT: true; the input reads as it did. -/
def fnRoughAllSpec : ChangeSpec := { name := "fnRoughAll", fn := fun _ => fun
  | [d] => { results := [.lit (.bool true)], args := [d] }
  | _ => none }
def fnRoughAllRow : OpenClaim := { program := "yteopnbjiffncbaa", sum := "1fe1f90c1926adf8ab6772005e70c6edec9225f1bfed3740651a75aa2cba5d0e", func := "loop.example/inkling/laws.FnRoughAll", spec := "fnRoughAll", apart := false }
def FnRoughAllSaid : Prop := fnRoughAllRow.holds Try.pinned (OpenSpec.ofChange fnRoughAllSpec)

/-- ITS FALSE NEIGHBOUR: 'it returns false'. Refute it at one input. -/
def fnRoughAllWrong : ChangeSpec := { name := "fnRoughAll", fn := fun _ => fun
  | [d] => { results := [.lit (.bool false)], args := [d] }
  | _ => none }
def FnRoughAllWrongFalsely : Prop := fnRoughAllRow.holds Try.pinned (OpenSpec.ofChange fnRoughAllWrong)

/-- 'laws.FnRoughJoin': WHATEVER THE INPUT: true; the input reads as it did. -/
def fnRoughJoinSpec : ChangeSpec := { name := "fnRoughJoin", fn := fun _ => fun
  | [d] => { results := [.lit (.bool true)], args := [d] }
  | _ => none }
def fnRoughJoinRow : OpenClaim := { program := "yteopnbjiffncbaa", sum := "1fe1f90c1926adf8ab6772005e70c6edec9225f1bfed3740651a75aa2cba5d0e", func := "loop.example/inkling/laws.FnRoughJoin", spec := "fnRoughJoin", unfollowed := true, recurses := true, apart := false }
def FnRoughJoinSaid : Prop := fnRoughJoinRow.holds Try.pinned (OpenSpec.ofChange fnRoughJoinSpec)

/-- ITS FALSE NEIGHBOUR: 'it returns false'. Refute it at one input. -/
def fnRoughJoinWrong : ChangeSpec := { name := "fnRoughJoin", fn := fun _ => fun
  | [d] => { results := [.lit (.bool false)], args := [d] }
  | _ => none }
def FnRoughJoinWrongFalsely : Prop := fnRoughJoinRow.holds Try.pinned (OpenSpec.ofChange fnRoughJoinWrong)

/-- 'laws.FnRoughJoinThree': WHATEVER THE INPUT: true; the input reads as it did. -/
def fnRoughJoinThreeSpec : ChangeSpec := { name := "fnRoughJoinThree", fn := fun _ => fun
  | [d1, d2] => { results := [.lit (.bool true)], args := [d1, d2] }
  | _ => none }
def fnRoughJoinThreeRow : OpenClaim := { program := "yteopnbjiffncbaa", sum := "1fe1f90c1926adf8ab6772005e70c6edec9225f1bfed3740651a75aa2cba5d0e", func := "loop.example/inkling/laws.FnRoughJoinThree", spec := "fnRoughJoinThree", unfollowed := true, recurses := true, apart := false }
def FnRoughJoinThreeSaid : Prop := fnRoughJoinThreeRow.holds Try.pinned (OpenSpec.ofChange fnRoughJoinThreeSpec)

/-- ITS FALSE NEIGHBOUR: 'it returns false'. Refute it at one input. -/
def fnRoughJoinThreeWrong : ChangeSpec := { name := "fnRoughJoinThree", fn := fun _ => fun
  | [d1, d2] => { results := [.lit (.bool false)], args := [d1, d2] }
  | _ => none }
def FnRoughJoinThreeWrongFalsely : Prop := fnRoughJoinThreeRow.holds Try.pinned (OpenSpec.ofChange fnRoughJoinThreeWrong)

/-- 'laws.FnRoughJoinGet': WHATEVER THE INPUT: true; the input reads as it did. -/
def fnRoughJoinGetSpec : ChangeSpec := { name := "fnRoughJoinGet", fn := fun _ => fun
  | [d1, d2] => { results := [.lit (.bool true)], args := [d1, d2] }
  | _ => none }
def fnRoughJoinGetRow : OpenClaim := { program := "yteopnbjiffncbaa", sum := "1fe1f90c1926adf8ab6772005e70c6edec9225f1bfed3740651a75aa2cba5d0e", func := "loop.example/inkling/laws.FnRoughJoinGet", spec := "fnRoughJoinGet", unfollowed := true, recurses := true, apart := false }
def FnRoughJoinGetSaid : Prop := fnRoughJoinGetRow.holds Try.pinned (OpenSpec.ofChange fnRoughJoinGetSpec)

/-- ITS FALSE NEIGHBOUR: 'it returns false'. Refute it at one input. -/
def fnRoughJoinGetWrong : ChangeSpec := { name := "fnRoughJoinGet", fn := fun _ => fun
  | [d1, d2] => { results := [.lit (.bool false)], args := [d1, d2] }
  | _ => none }
def FnRoughJoinGetWrongFalsely : Prop := fnRoughJoinGetRow.holds Try.pinned (OpenSpec.ofChange fnRoughJoinGetWrong)

/-- 'laws.FnRoughNew': WHATEVER THE INPUT: true; the input reads as it did. -/
def fnRoughNewSpec : ChangeSpec := { name := "fnRoughNew", fn := fun _ => fun
  | [d] => { results := [.lit (.bool true)], args := [d] }
  | _ => none }
def fnRoughNewRow : OpenClaim := { program := "yteopnbjiffncbaa", sum := "1fe1f90c1926adf8ab6772005e70c6edec9225f1bfed3740651a75aa2cba5d0e", func := "loop.example/inkling/laws.FnRoughNew", spec := "fnRoughNew", unfollowed := true, recurses := true, apart := false }
def FnRoughNewSaid : Prop := fnRoughNewRow.holds Try.pinned (OpenSpec.ofChange fnRoughNewSpec)

/-- ITS FALSE NEIGHBOUR: 'it returns false'. Refute it at one input. -/
def fnRoughNewWrong : ChangeSpec := { name := "fnRoughNew", fn := fun _ => fun
  | [d] => { results := [.lit (.bool false)], args := [d] }
  | _ => none }
def FnRoughNewWrongFalsely : Prop := fnRoughNewRow.holds Try.pinned (OpenSpec.ofChange fnRoughNewWrong)

/-- 'laws.FnExactRoughPlace': WHATEVER THE INPUT: true; the input reads as it did. -/
def fnExactRoughPlaceSpec : ChangeSpec := { name := "fnExactRoughPlace", fn := fun _ => fun
  | [d1, d2] => { results := [.lit (.bool true)], args := [d1, d2] }
  | _ => none }
def fnExactRoughPlaceRow : OpenClaim := { program := "yteopnbjiffncbaa", sum := "1fe1f90c1926adf8ab6772005e70c6edec9225f1bfed3740651a75aa2cba5d0e", func := "loop.example/inkling/laws.FnExactRoughPlace", spec := "fnExactRoughPlace", apart := false }
def FnExactRoughPlaceSaid : Prop := fnExactRoughPlaceRow.holds Try.pinned (OpenSpec.ofChange fnExactRoughPlaceSpec)

/-- ITS FALSE NEIGHBOUR: 'it returns false'. Refute it at one input. -/
def fnExactRoughPlaceWrong : ChangeSpec := { name := "fnExactRoughPlace", fn := fun _ => fun
  | [d1, d2] => { results := [.lit (.bool false)], args := [d1, d2] }
  | _ => none }
def FnExactRoughPlaceWrongFalsely : Prop := fnExactRoughPlaceRow.holds Try.pinned (OpenSpec.ofChange fnExactRoughPlaceWrong)

/- THE SECOND FORM. 'bulk': how many values and letters a reading holds, each counted each time it is reached (what is shared counts as often as it is met; a slice's spare places count too). A statement '..UptoSaid' is the law's where the arguments, and the package variables that the reading takes, are together of bulk at most 1048576: NARROWER than '..Said'. Prove '..Said' where nothing that the law and all that it calls make is longer than what came in: it says more and counts as full. Else prove '..UptoSaid'. A law counts once. -/
mutual
def uptoBulk {H : Type} : DataW H → Nat
  | .lit (.string bytes) => bytes.length + 1
  | .lit _ => 1
  | .nil => 1
  | .ptr d => uptoBulk d + 1
  | .slice elems spare => uptoBulkAll elems + uptoBulkAll spare + 1
  | .agg parts => uptoBulkAll parts + 1
  | .iface _ d => uptoBulk d + 1
  | .map entries => uptoBulkEntries entries + 1
  | .held _ => 1
def uptoBulkAll {H : Type} : List (DataW H) → Nat
  | [] => 0
  | d :: r => uptoBulk d + uptoBulkAll r
def uptoBulkEntries {H : Type} : List (Lit × DataW H) → Nat
  | [] => 0
  | x :: r => uptoBulkEntry x + uptoBulkEntries r
def uptoBulkEntry {H : Type} : Lit × DataW H → Nat
  | (.string bytes, d) => bytes.length + uptoBulk d + 1
  | (_, d) => uptoBulk d + 1
 end
def uptoSmall : (H : Type) → List (DataW H) → Bool := fun _ ds => decide (uptoBulkAll ds ≤ 1048576)
def OpenSpec.upto (s : _root_.Go.ChangeSpec) : _root_.Go.OpenSpec := { _root_.Go.OpenSpec.ofChange s with cond := some uptoSmall }

/-- 'laws.FnRoughPlace', WHERE WHAT IT READS IS OF BULK AT MOST 1048576: true; the input reads as it did. -/
def fnRoughPlaceUptoRow : OpenClaim := { program := "yteopnbjiffncbaa", sum := "1fe1f90c1926adf8ab6772005e70c6edec9225f1bfed3740651a75aa2cba5d0e", func := "loop.example/inkling/laws.FnRoughPlace", spec := "fnRoughPlace", apart := false, narrowed := true }
def FnRoughPlaceUptoSaid : Prop := fnRoughPlaceUptoRow.holds Try.pinned (OpenSpec.upto fnRoughPlaceSpec)

/-- 'laws.FnRoughAdd', WHERE WHAT IT READS IS OF BULK AT MOST 1048576: true; the input reads as it did. -/
def fnRoughAddUptoRow : OpenClaim := { program := "yteopnbjiffncbaa", sum := "1fe1f90c1926adf8ab6772005e70c6edec9225f1bfed3740651a75aa2cba5d0e", func := "loop.example/inkling/laws.FnRoughAdd", spec := "fnRoughAdd", unfollowed := true, recurses := true, apart := false, narrowed := true }
def FnRoughAddUptoSaid : Prop := fnRoughAddUptoRow.holds Try.pinned (OpenSpec.upto fnRoughAddSpec)

/-- 'laws.FnRoughAddSwap', WHERE WHAT IT READS IS OF BULK AT MOST 1048576: true; the input reads as it did. -/
def fnRoughAddSwapUptoRow : OpenClaim := { program := "yteopnbjiffncbaa", sum := "1fe1f90c1926adf8ab6772005e70c6edec9225f1bfed3740651a75aa2cba5d0e", func := "loop.example/inkling/laws.FnRoughAddSwap", spec := "fnRoughAddSwap", unfollowed := true, recurses := true, apart := false, narrowed := true }
def FnRoughAddSwapUptoSaid : Prop := fnRoughAddSwapUptoRow.holds Try.pinned (OpenSpec.upto fnRoughAddSwapSpec)

/-- 'laws.FnRoughAddCut', WHERE WHAT IT READS IS OF BULK AT MOST 1048576: true; the input reads as it did. -/
def fnRoughAddCutUptoRow : OpenClaim := { program := "yteopnbjiffncbaa", sum := "1fe1f90c1926adf8ab6772005e70c6edec9225f1bfed3740651a75aa2cba5d0e", func := "loop.example/inkling/laws.FnRoughAddCut", spec := "fnRoughAddCut", unfollowed := true, recurses := true, apart := false, narrowed := true }
def FnRoughAddCutUptoSaid : Prop := fnRoughAddCutUptoRow.holds Try.pinned (OpenSpec.upto fnRoughAddCutSpec)

/-- 'laws.FnRoughGet', WHERE WHAT IT READS IS OF BULK AT MOST 1048576: true; the input reads as it did. -/
def fnRoughGetUptoRow : OpenClaim := { program := "yteopnbjiffncbaa", sum := "1fe1f90c1926adf8ab6772005e70c6edec9225f1bfed3740651a75aa2cba5d0e", func := "loop.example/inkling/laws.FnRoughGet", spec := "fnRoughGet", apart := false, narrowed := true }
def FnRoughGetUptoSaid : Prop := fnRoughGetUptoRow.holds Try.pinned (OpenSpec.upto fnRoughGetSpec)

/-- 'laws.FnRoughAll', WHERE WHAT IT READS IS OF BULK AT MOST 1048576: true; the input reads as it did. -/
def fnRoughAllUptoRow : OpenClaim := { program := "yteopnbjiffncbaa", sum := "1fe1f90c1926adf8ab6772005e70c6edec9225f1bfed3740651a75aa2cba5d0e", func := "loop.example/inkling/laws.FnRoughAll", spec := "fnRoughAll", apart := false, narrowed := true }
def FnRoughAllUptoSaid : Prop := fnRoughAllUptoRow.holds Try.pinned (OpenSpec.upto fnRoughAllSpec)

/-- 'laws.FnRoughJoin', WHERE WHAT IT READS IS OF BULK AT MOST 1048576: true; the input reads as it did. -/
def fnRoughJoinUptoRow : OpenClaim := { program := "yteopnbjiffncbaa", sum := "1fe1f90c1926adf8ab6772005e70c6edec9225f1bfed3740651a75aa2cba5d0e", func := "loop.example/inkling/laws.FnRoughJoin", spec := "fnRoughJoin", unfollowed := true, recurses := true, apart := false, narrowed := true }
def FnRoughJoinUptoSaid : Prop := fnRoughJoinUptoRow.holds Try.pinned (OpenSpec.upto fnRoughJoinSpec)

/-- 'laws.FnRoughJoinThree', WHERE WHAT IT READS IS OF BULK AT MOST 1048576: true; the input reads as it did. -/
def fnRoughJoinThreeUptoRow : OpenClaim := { program := "yteopnbjiffncbaa", sum := "1fe1f90c1926adf8ab6772005e70c6edec9225f1bfed3740651a75aa2cba5d0e", func := "loop.example/inkling/laws.FnRoughJoinThree", spec := "fnRoughJoinThree", unfollowed := true, recurses := true, apart := false, narrowed := true }
def FnRoughJoinThreeUptoSaid : Prop := fnRoughJoinThreeUptoRow.holds Try.pinned (OpenSpec.upto fnRoughJoinThreeSpec)

/-- 'laws.FnRoughJoinGet', WHERE WHAT IT READS IS OF BULK AT MOST 1048576: true; the input reads as it did. -/
def fnRoughJoinGetUptoRow : OpenClaim := { program := "yteopnbjiffncbaa", sum := "1fe1f90c1926adf8ab6772005e70c6edec9225f1bfed3740651a75aa2cba5d0e", func := "loop.example/inkling/laws.FnRoughJoinGet", spec := "fnRoughJoinGet", unfollowed := true, recurses := true, apart := false, narrowed := true }
def FnRoughJoinGetUptoSaid : Prop := fnRoughJoinGetUptoRow.holds Try.pinned (OpenSpec.upto fnRoughJoinGetSpec)

/-- 'laws.FnRoughNew', WHERE WHAT IT READS IS OF BULK AT MOST 1048576: true; the input reads as it did. -/
def fnRoughNewUptoRow : OpenClaim := { program := "yteopnbjiffncbaa", sum := "1fe1f90c1926adf8ab6772005e70c6edec9225f1bfed3740651a75aa2cba5d0e", func := "loop.example/inkling/laws.FnRoughNew", spec := "fnRoughNew", unfollowed := true, recurses := true, apart := false, narrowed := true }
def FnRoughNewUptoSaid : Prop := fnRoughNewUptoRow.holds Try.pinned (OpenSpec.upto fnRoughNewSpec)

/-- 'laws.FnExactRoughPlace', WHERE WHAT IT READS IS OF BULK AT MOST 1048576: true; the input reads as it did. -/
def fnExactRoughPlaceUptoRow : OpenClaim := { program := "yteopnbjiffncbaa", sum := "1fe1f90c1926adf8ab6772005e70c6edec9225f1bfed3740651a75aa2cba5d0e", func := "loop.example/inkling/laws.FnExactRoughPlace", spec := "fnExactRoughPlace", apart := false, narrowed := true }
def FnExactRoughPlaceUptoSaid : Prop := fnExactRoughPlaceUptoRow.holds Try.pinned (OpenSpec.upto fnExactRoughPlaceSpec)

end Rows
end Go.Proofs.Yteopnbjiffncbaa
