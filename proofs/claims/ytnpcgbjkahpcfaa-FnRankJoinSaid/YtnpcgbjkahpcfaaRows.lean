/-
  No cell of these rows narrows 'for every input' (looked for: loops, veiled, ifaces, maps, wideKeys, modest, calm, conditions, laid).
  DERIVED. THE GIVEN ROWS OF THIS SEAT. 15 by the template 'for every input the law returns true; each argument reads behind the call as it read before'; 0 by the template 'total and deterministic' (their statements: YtnpcgbjkahpcfaaTotals.lean).
  GIVEN WITH THE SEED: the statements are not yours to turn. If you find one false, say at which input.
  Laid BY PROGRAM, IN A SANDBOX (cutbox-rows.mjs): the forced cells as the released guide's own fill.sh prints them over the translation b0c2ad04eba72b98… (all of the seat's roots in one cut). By AI agents, Wed Nov 11 2026. No macro, syntax, notation, axiom, sorry.
-/
import Derived.Test.YtnpcgbjkahpcfaaChecked
import GoSem.Claim
import GoSem.ClaimJoined
import GoSem.ClaimMapViews
import Derived.JoinedTies
import Derived.KernelRfl
namespace Go.Proofs.Ytnpcgbjkahpcfaa
/- THE CELL 'sum', in the pinned program and in every row, IS THE sha256 OF THE DUMP (.gsa) THAT YtnpcgbjkahpcfaaProg.lean LOADS. Nothing in Lean hashes anything: it is a label: what it is worth is what the hold of that sum in a sandbox is worth. -/
noncomputable def Try.pinned : Pinned := { name := "ytnpcgbjkahpcfaa", sum := "b0c2ad04eba72b9875d4f24ecb7d2aae3a957a968e2238dfaf06473b0412716d", checked := Try.checked }
namespace Rows
def none {H : Type} : Left H := { results := [], args := [] }

/-- 'laws.FnRankSpan': WHATEVER THE INPUT: true; the input reads as it did. -/
def fnRankSpanSpec : ChangeSpec := { name := "fnRankSpan", fn := fun _ => fun
  | [d] => { results := [.lit (.bool true)], args := [d] }
  | _ => none }
def fnRankSpanRow : OpenClaim := { program := "ytnpcgbjkahpcfaa", sum := "b0c2ad04eba72b9875d4f24ecb7d2aae3a957a968e2238dfaf06473b0412716d", func := "loop.example/inkling/laws.FnRankSpan", spec := "fnRankSpan", apart := false }
def FnRankSpanSaid : Prop := fnRankSpanRow.holds Try.pinned (OpenSpec.ofChange fnRankSpanSpec)

/-- ITS FALSE NEIGHBOUR: 'it returns false'. Refute it at one input. -/
def fnRankSpanWrong : ChangeSpec := { name := "fnRankSpan", fn := fun _ => fun
  | [d] => { results := [.lit (.bool false)], args := [d] }
  | _ => none }
def FnRankSpanWrongFalsely : Prop := fnRankSpanRow.holds Try.pinned (OpenSpec.ofChange fnRankSpanWrong)

/-- 'laws.FnRankOk': WHATEVER THE INPUT: true; the input reads as it did. -/
def fnRankOkSpec : ChangeSpec := { name := "fnRankOk", fn := fun _ => fun
  | [d] => { results := [.lit (.bool true)], args := [d] }
  | _ => none }
def fnRankOkRow : OpenClaim := { program := "ytnpcgbjkahpcfaa", sum := "b0c2ad04eba72b9875d4f24ecb7d2aae3a957a968e2238dfaf06473b0412716d", func := "loop.example/inkling/laws.FnRankOk", spec := "fnRankOk", apart := false }
def FnRankOkSaid : Prop := fnRankOkRow.holds Try.pinned (OpenSpec.ofChange fnRankOkSpec)

/-- ITS FALSE NEIGHBOUR: 'it returns false'. Refute it at one input. -/
def fnRankOkWrong : ChangeSpec := { name := "fnRankOk", fn := fun _ => fun
  | [d] => { results := [.lit (.bool false)], args := [d] }
  | _ => none }
def FnRankOkWrongFalsely : Prop := fnRankOkRow.holds Try.pinned (OpenSpec.ofChange fnRankOkWrong)

/-- 'laws.FnRankAdd': WHATEVER THE INPUT: true; the input reads as it did. -/
def fnRankAddSpec : ChangeSpec := { name := "fnRankAdd", fn := fun _ => fun
  | [d] => { results := [.lit (.bool true)], args := [d] }
  | _ => none }
def fnRankAddRow : OpenClaim := { program := "ytnpcgbjkahpcfaa", sum := "b0c2ad04eba72b9875d4f24ecb7d2aae3a957a968e2238dfaf06473b0412716d", func := "loop.example/inkling/laws.FnRankAdd", spec := "fnRankAdd", apart := false }
def FnRankAddSaid : Prop := fnRankAddRow.holds Try.pinned (OpenSpec.ofChange fnRankAddSpec)

/-- ITS FALSE NEIGHBOUR: 'it returns false'. Refute it at one input. -/
def fnRankAddWrong : ChangeSpec := { name := "fnRankAdd", fn := fun _ => fun
  | [d] => { results := [.lit (.bool false)], args := [d] }
  | _ => none }
def FnRankAddWrongFalsely : Prop := fnRankAddRow.holds Try.pinned (OpenSpec.ofChange fnRankAddWrong)

/-- 'laws.FnRankGap': WHATEVER THE INPUT: true; the input reads as it did. -/
def fnRankGapSpec : ChangeSpec := { name := "fnRankGap", fn := fun _ => fun
  | [d] => { results := [.lit (.bool true)], args := [d] }
  | _ => none }
def fnRankGapRow : OpenClaim := { program := "ytnpcgbjkahpcfaa", sum := "b0c2ad04eba72b9875d4f24ecb7d2aae3a957a968e2238dfaf06473b0412716d", func := "loop.example/inkling/laws.FnRankGap", spec := "fnRankGap", apart := false }
def FnRankGapSaid : Prop := fnRankGapRow.holds Try.pinned (OpenSpec.ofChange fnRankGapSpec)

/-- ITS FALSE NEIGHBOUR: 'it returns false'. Refute it at one input. -/
def fnRankGapWrong : ChangeSpec := { name := "fnRankGap", fn := fun _ => fun
  | [d] => { results := [.lit (.bool false)], args := [d] }
  | _ => none }
def FnRankGapWrongFalsely : Prop := fnRankGapRow.holds Try.pinned (OpenSpec.ofChange fnRankGapWrong)

/-- 'laws.FnRankMore': WHATEVER THE INPUT: true; the input reads as it did. -/
def fnRankMoreSpec : ChangeSpec := { name := "fnRankMore", fn := fun _ => fun
  | [d1, d2] => { results := [.lit (.bool true)], args := [d1, d2] }
  | _ => none }
def fnRankMoreRow : OpenClaim := { program := "ytnpcgbjkahpcfaa", sum := "b0c2ad04eba72b9875d4f24ecb7d2aae3a957a968e2238dfaf06473b0412716d", func := "loop.example/inkling/laws.FnRankMore", spec := "fnRankMore", apart := false }
def FnRankMoreSaid : Prop := fnRankMoreRow.holds Try.pinned (OpenSpec.ofChange fnRankMoreSpec)

/-- ITS FALSE NEIGHBOUR: 'it returns false'. Refute it at one input. -/
def fnRankMoreWrong : ChangeSpec := { name := "fnRankMore", fn := fun _ => fun
  | [d1, d2] => { results := [.lit (.bool false)], args := [d1, d2] }
  | _ => none }
def FnRankMoreWrongFalsely : Prop := fnRankMoreRow.holds Try.pinned (OpenSpec.ofChange fnRankMoreWrong)

/-- 'laws.FnRankAt': WHATEVER THE INPUT: true; the input reads as it did. -/
def fnRankAtSpec : ChangeSpec := { name := "fnRankAt", fn := fun _ => fun
  | [d] => { results := [.lit (.bool true)], args := [d] }
  | _ => none }
def fnRankAtRow : OpenClaim := { program := "ytnpcgbjkahpcfaa", sum := "b0c2ad04eba72b9875d4f24ecb7d2aae3a957a968e2238dfaf06473b0412716d", func := "loop.example/inkling/laws.FnRankAt", spec := "fnRankAt", apart := false }
def FnRankAtSaid : Prop := fnRankAtRow.holds Try.pinned (OpenSpec.ofChange fnRankAtSpec)

/-- ITS FALSE NEIGHBOUR: 'it returns false'. Refute it at one input. -/
def fnRankAtWrong : ChangeSpec := { name := "fnRankAt", fn := fun _ => fun
  | [d] => { results := [.lit (.bool false)], args := [d] }
  | _ => none }
def FnRankAtWrongFalsely : Prop := fnRankAtRow.holds Try.pinned (OpenSpec.ofChange fnRankAtWrong)

/-- 'laws.FnRankJoin': WHATEVER THE INPUT: true; the input reads as it did. -/
def fnRankJoinSpec : ChangeSpec := { name := "fnRankJoin", fn := fun _ => fun
  | [d] => { results := [.lit (.bool true)], args := [d] }
  | _ => none }
def fnRankJoinRow : OpenClaim := { program := "ytnpcgbjkahpcfaa", sum := "b0c2ad04eba72b9875d4f24ecb7d2aae3a957a968e2238dfaf06473b0412716d", func := "loop.example/inkling/laws.FnRankJoin", spec := "fnRankJoin", apart := false }
def FnRankJoinSaid : Prop := fnRankJoinRow.holds Try.pinned (OpenSpec.ofChange fnRankJoinSpec)

/-- ITS FALSE NEIGHBOUR: 'it returns false'. Refute it at one input. -/
def fnRankJoinWrong : ChangeSpec := { name := "fnRankJoin", fn := fun _ => fun
  | [d] => { results := [.lit (.bool false)], args := [d] }
  | _ => none }
def FnRankJoinWrongFalsely : Prop := fnRankJoinRow.holds Try.pinned (OpenSpec.ofChange fnRankJoinWrong)

/-- 'laws.FnRankJoinBelow': WHATEVER THE INPUT: true; the input reads as it did. -/
def fnRankJoinBelowSpec : ChangeSpec := { name := "fnRankJoinBelow", fn := fun _ => fun
  | [d] => { results := [.lit (.bool true)], args := [d] }
  | _ => none }
def fnRankJoinBelowRow : OpenClaim := { program := "ytnpcgbjkahpcfaa", sum := "b0c2ad04eba72b9875d4f24ecb7d2aae3a957a968e2238dfaf06473b0412716d", func := "loop.example/inkling/laws.FnRankJoinBelow", spec := "fnRankJoinBelow", apart := false }
def FnRankJoinBelowSaid : Prop := fnRankJoinBelowRow.holds Try.pinned (OpenSpec.ofChange fnRankJoinBelowSpec)

/-- ITS FALSE NEIGHBOUR: 'it returns false'. Refute it at one input. -/
def fnRankJoinBelowWrong : ChangeSpec := { name := "fnRankJoinBelow", fn := fun _ => fun
  | [d] => { results := [.lit (.bool false)], args := [d] }
  | _ => none }
def FnRankJoinBelowWrongFalsely : Prop := fnRankJoinBelowRow.holds Try.pinned (OpenSpec.ofChange fnRankJoinBelowWrong)

/-- 'laws.FnRankSpanIn': WHATEVER THE INPUT: true; the input reads as it did. -/
def fnRankSpanInSpec : ChangeSpec := { name := "fnRankSpanIn", fn := fun _ => fun
  | [d1, d2] => { results := [.lit (.bool true)], args := [d1, d2] }
  | _ => none }
def fnRankSpanInRow : OpenClaim := { program := "ytnpcgbjkahpcfaa", sum := "b0c2ad04eba72b9875d4f24ecb7d2aae3a957a968e2238dfaf06473b0412716d", func := "loop.example/inkling/laws.FnRankSpanIn", spec := "fnRankSpanIn", apart := false }
def FnRankSpanInSaid : Prop := fnRankSpanInRow.holds Try.pinned (OpenSpec.ofChange fnRankSpanInSpec)

/-- ITS FALSE NEIGHBOUR: 'it returns false'. Refute it at one input. -/
def fnRankSpanInWrong : ChangeSpec := { name := "fnRankSpanIn", fn := fun _ => fun
  | [d1, d2] => { results := [.lit (.bool false)], args := [d1, d2] }
  | _ => none }
def FnRankSpanInWrongFalsely : Prop := fnRankSpanInRow.holds Try.pinned (OpenSpec.ofChange fnRankSpanInWrong)

/-- 'laws.FnExactRankOk': WHATEVER THE INPUT: true; the input reads as it did. -/
def fnExactRankOkSpec : ChangeSpec := { name := "fnExactRankOk", fn := fun _ => fun
  | [d] => { results := [.lit (.bool true)], args := [d] }
  | _ => none }
def fnExactRankOkRow : OpenClaim := { program := "ytnpcgbjkahpcfaa", sum := "b0c2ad04eba72b9875d4f24ecb7d2aae3a957a968e2238dfaf06473b0412716d", func := "loop.example/inkling/laws.FnExactRankOk", spec := "fnExactRankOk", apart := false }
def FnExactRankOkSaid : Prop := fnExactRankOkRow.holds Try.pinned (OpenSpec.ofChange fnExactRankOkSpec)

/-- ITS FALSE NEIGHBOUR: 'it returns false'. Refute it at one input. -/
def fnExactRankOkWrong : ChangeSpec := { name := "fnExactRankOk", fn := fun _ => fun
  | [d] => { results := [.lit (.bool false)], args := [d] }
  | _ => none }
def FnExactRankOkWrongFalsely : Prop := fnExactRankOkRow.holds Try.pinned (OpenSpec.ofChange fnExactRankOkWrong)

/-- 'laws.FnExactRankAdd': WHATEVER THE INPUT: true; the input reads as it did. -/
def fnExactRankAddSpec : ChangeSpec := { name := "fnExactRankAdd", fn := fun _ => fun
  | [d1, d2] => { results := [.lit (.bool true)], args := [d1, d2] }
  | _ => none }
def fnExactRankAddRow : OpenClaim := { program := "ytnpcgbjkahpcfaa", sum := "b0c2ad04eba72b9875d4f24ecb7d2aae3a957a968e2238dfaf06473b0412716d", func := "loop.example/inkling/laws.FnExactRankAdd", spec := "fnExactRankAdd", apart := false }
def FnExactRankAddSaid : Prop := fnExactRankAddRow.holds Try.pinned (OpenSpec.ofChange fnExactRankAddSpec)

/-- ITS FALSE NEIGHBOUR: 'it returns false'. Refute it at one input. -/
def fnExactRankAddWrong : ChangeSpec := { name := "fnExactRankAdd", fn := fun _ => fun
  | [d1, d2] => { results := [.lit (.bool false)], args := [d1, d2] }
  | _ => none }
def FnExactRankAddWrongFalsely : Prop := fnExactRankAddRow.holds Try.pinned (OpenSpec.ofChange fnExactRankAddWrong)

/-- 'laws.FnExactRankJoin': WHATEVER THE INPUT: true; the input reads as it did. -/
def fnExactRankJoinSpec : ChangeSpec := { name := "fnExactRankJoin", fn := fun _ => fun
  | [d1, d2] => { results := [.lit (.bool true)], args := [d1, d2] }
  | _ => none }
def fnExactRankJoinRow : OpenClaim := { program := "ytnpcgbjkahpcfaa", sum := "b0c2ad04eba72b9875d4f24ecb7d2aae3a957a968e2238dfaf06473b0412716d", func := "loop.example/inkling/laws.FnExactRankJoin", spec := "fnExactRankJoin", apart := false }
def FnExactRankJoinSaid : Prop := fnExactRankJoinRow.holds Try.pinned (OpenSpec.ofChange fnExactRankJoinSpec)

/-- ITS FALSE NEIGHBOUR: 'it returns false'. Refute it at one input. -/
def fnExactRankJoinWrong : ChangeSpec := { name := "fnExactRankJoin", fn := fun _ => fun
  | [d1, d2] => { results := [.lit (.bool false)], args := [d1, d2] }
  | _ => none }
def FnExactRankJoinWrongFalsely : Prop := fnExactRankJoinRow.holds Try.pinned (OpenSpec.ofChange fnExactRankJoinWrong)

/-- 'laws.FnExactRankBelow': WHATEVER THE INPUT: true; the input reads as it did. -/
def fnExactRankBelowSpec : ChangeSpec := { name := "fnExactRankBelow", fn := fun _ => fun
  | [d1, d2] => { results := [.lit (.bool true)], args := [d1, d2] }
  | _ => none }
def fnExactRankBelowRow : OpenClaim := { program := "ytnpcgbjkahpcfaa", sum := "b0c2ad04eba72b9875d4f24ecb7d2aae3a957a968e2238dfaf06473b0412716d", func := "loop.example/inkling/laws.FnExactRankBelow", spec := "fnExactRankBelow", apart := false }
def FnExactRankBelowSaid : Prop := fnExactRankBelowRow.holds Try.pinned (OpenSpec.ofChange fnExactRankBelowSpec)

/-- ITS FALSE NEIGHBOUR: 'it returns false'. Refute it at one input. -/
def fnExactRankBelowWrong : ChangeSpec := { name := "fnExactRankBelow", fn := fun _ => fun
  | [d1, d2] => { results := [.lit (.bool false)], args := [d1, d2] }
  | _ => none }
def FnExactRankBelowWrongFalsely : Prop := fnExactRankBelowRow.holds Try.pinned (OpenSpec.ofChange fnExactRankBelowWrong)

/-- 'laws.FnExactRankAt': WHATEVER THE INPUT: true; the input reads as it did. -/
def fnExactRankAtSpec : ChangeSpec := { name := "fnExactRankAt", fn := fun _ => fun
  | [d1, d2] => { results := [.lit (.bool true)], args := [d1, d2] }
  | _ => none }
def fnExactRankAtRow : OpenClaim := { program := "ytnpcgbjkahpcfaa", sum := "b0c2ad04eba72b9875d4f24ecb7d2aae3a957a968e2238dfaf06473b0412716d", func := "loop.example/inkling/laws.FnExactRankAt", spec := "fnExactRankAt", apart := false }
def FnExactRankAtSaid : Prop := fnExactRankAtRow.holds Try.pinned (OpenSpec.ofChange fnExactRankAtSpec)

/-- ITS FALSE NEIGHBOUR: 'it returns false'. Refute it at one input. -/
def fnExactRankAtWrong : ChangeSpec := { name := "fnExactRankAt", fn := fun _ => fun
  | [d1, d2] => { results := [.lit (.bool false)], args := [d1, d2] }
  | _ => none }
def FnExactRankAtWrongFalsely : Prop := fnExactRankAtRow.holds Try.pinned (OpenSpec.ofChange fnExactRankAtWrong)

/-- 'laws.FnExactRankSpan': WHATEVER THE INPUT: true; the input reads as it did. -/
def fnExactRankSpanSpec : ChangeSpec := { name := "fnExactRankSpan", fn := fun _ => fun
  | [d] => { results := [.lit (.bool true)], args := [d] }
  | _ => none }
def fnExactRankSpanRow : OpenClaim := { program := "ytnpcgbjkahpcfaa", sum := "b0c2ad04eba72b9875d4f24ecb7d2aae3a957a968e2238dfaf06473b0412716d", func := "loop.example/inkling/laws.FnExactRankSpan", spec := "fnExactRankSpan", apart := false }
def FnExactRankSpanSaid : Prop := fnExactRankSpanRow.holds Try.pinned (OpenSpec.ofChange fnExactRankSpanSpec)

/-- ITS FALSE NEIGHBOUR: 'it returns false'. Refute it at one input. -/
def fnExactRankSpanWrong : ChangeSpec := { name := "fnExactRankSpan", fn := fun _ => fun
  | [d] => { results := [.lit (.bool false)], args := [d] }
  | _ => none }
def FnExactRankSpanWrongFalsely : Prop := fnExactRankSpanRow.holds Try.pinned (OpenSpec.ofChange fnExactRankSpanWrong)

/- THE SECOND FORM. 'bulk': how many values and letters a reading holds, each counted each time it is reached (what is shared counts as often as it is met; a slice's spare places count too). A statement '..UptoSaid' is the law's where the arguments, and the package variables that the reading takes, are together of bulk at most 1048576: NARROWER than '..Said'. Prove '..Said' where nothing that the law and all that it calls make is longer than what came in: it says more and counts as full. Else prove '..UptoSaid'. A law counts once. -/
mutual
def uptoBulk {H : Type} : DataW H → Nat
  | .lit (.string bytes) => bytes.length + 1
  | .lit _ => 1
  | .nil => 1
  | .ptr d => uptoBulk d + 1
  | .slice elems spare => uptoBulkAll elems + uptoBulkAll spare + 1
  | .agg parts => uptoBulkAll parts + 1
  | .iface _ d => uptoBulk d + 1
  | .map entries => uptoBulkEntries entries + 1
  | .held _ => 1
def uptoBulkAll {H : Type} : List (DataW H) → Nat
  | [] => 0
  | d :: r => uptoBulk d + uptoBulkAll r
def uptoBulkEntries {H : Type} : List (Lit × DataW H) → Nat
  | [] => 0
  | x :: r => uptoBulkEntry x + uptoBulkEntries r
def uptoBulkEntry {H : Type} : Lit × DataW H → Nat
  | (.string bytes, d) => bytes.length + uptoBulk d + 1
  | (_, d) => uptoBulk d + 1
 end
def uptoSmall : (H : Type) → List (DataW H) → Bool := fun _ ds => decide (uptoBulkAll ds ≤ 1048576)
def OpenSpec.upto (s : _root_.Go.ChangeSpec) : _root_.Go.OpenSpec := { _root_.Go.OpenSpec.ofChange s with cond := some uptoSmall }

/-- 'laws.FnRankSpan', WHERE WHAT IT READS IS OF BULK AT MOST 1048576: true; the input reads as it did. -/
def fnRankSpanUptoRow : OpenClaim := { program := "ytnpcgbjkahpcfaa", sum := "b0c2ad04eba72b9875d4f24ecb7d2aae3a957a968e2238dfaf06473b0412716d", func := "loop.example/inkling/laws.FnRankSpan", spec := "fnRankSpan", apart := false, narrowed := true }
def FnRankSpanUptoSaid : Prop := fnRankSpanUptoRow.holds Try.pinned (OpenSpec.upto fnRankSpanSpec)

/-- 'laws.FnRankOk', WHERE WHAT IT READS IS OF BULK AT MOST 1048576: true; the input reads as it did. -/
def fnRankOkUptoRow : OpenClaim := { program := "ytnpcgbjkahpcfaa", sum := "b0c2ad04eba72b9875d4f24ecb7d2aae3a957a968e2238dfaf06473b0412716d", func := "loop.example/inkling/laws.FnRankOk", spec := "fnRankOk", apart := false, narrowed := true }
def FnRankOkUptoSaid : Prop := fnRankOkUptoRow.holds Try.pinned (OpenSpec.upto fnRankOkSpec)

/-- 'laws.FnRankAdd', WHERE WHAT IT READS IS OF BULK AT MOST 1048576: true; the input reads as it did. -/
def fnRankAddUptoRow : OpenClaim := { program := "ytnpcgbjkahpcfaa", sum := "b0c2ad04eba72b9875d4f24ecb7d2aae3a957a968e2238dfaf06473b0412716d", func := "loop.example/inkling/laws.FnRankAdd", spec := "fnRankAdd", apart := false, narrowed := true }
def FnRankAddUptoSaid : Prop := fnRankAddUptoRow.holds Try.pinned (OpenSpec.upto fnRankAddSpec)

/-- 'laws.FnRankGap', WHERE WHAT IT READS IS OF BULK AT MOST 1048576: true; the input reads as it did. -/
def fnRankGapUptoRow : OpenClaim := { program := "ytnpcgbjkahpcfaa", sum := "b0c2ad04eba72b9875d4f24ecb7d2aae3a957a968e2238dfaf06473b0412716d", func := "loop.example/inkling/laws.FnRankGap", spec := "fnRankGap", apart := false, narrowed := true }
def FnRankGapUptoSaid : Prop := fnRankGapUptoRow.holds Try.pinned (OpenSpec.upto fnRankGapSpec)

/-- 'laws.FnRankMore', WHERE WHAT IT READS IS OF BULK AT MOST 1048576: true; the input reads as it did. -/
def fnRankMoreUptoRow : OpenClaim := { program := "ytnpcgbjkahpcfaa", sum := "b0c2ad04eba72b9875d4f24ecb7d2aae3a957a968e2238dfaf06473b0412716d", func := "loop.example/inkling/laws.FnRankMore", spec := "fnRankMore", apart := false, narrowed := true }
def FnRankMoreUptoSaid : Prop := fnRankMoreUptoRow.holds Try.pinned (OpenSpec.upto fnRankMoreSpec)

/-- 'laws.FnRankAt', WHERE WHAT IT READS IS OF BULK AT MOST 1048576: true; the input reads as it did. -/
def fnRankAtUptoRow : OpenClaim := { program := "ytnpcgbjkahpcfaa", sum := "b0c2ad04eba72b9875d4f24ecb7d2aae3a957a968e2238dfaf06473b0412716d", func := "loop.example/inkling/laws.FnRankAt", spec := "fnRankAt", apart := false, narrowed := true }
def FnRankAtUptoSaid : Prop := fnRankAtUptoRow.holds Try.pinned (OpenSpec.upto fnRankAtSpec)

/-- 'laws.FnRankJoin', WHERE WHAT IT READS IS OF BULK AT MOST 1048576: true; the input reads as it did. -/
def fnRankJoinUptoRow : OpenClaim := { program := "ytnpcgbjkahpcfaa", sum := "b0c2ad04eba72b9875d4f24ecb7d2aae3a957a968e2238dfaf06473b0412716d", func := "loop.example/inkling/laws.FnRankJoin", spec := "fnRankJoin", apart := false, narrowed := true }
def FnRankJoinUptoSaid : Prop := fnRankJoinUptoRow.holds Try.pinned (OpenSpec.upto fnRankJoinSpec)

/-- 'laws.FnRankJoinBelow', WHERE WHAT IT READS IS OF BULK AT MOST 1048576: true; the input reads as it did. -/
def fnRankJoinBelowUptoRow : OpenClaim := { program := "ytnpcgbjkahpcfaa", sum := "b0c2ad04eba72b9875d4f24ecb7d2aae3a957a968e2238dfaf06473b0412716d", func := "loop.example/inkling/laws.FnRankJoinBelow", spec := "fnRankJoinBelow", apart := false, narrowed := true }
def FnRankJoinBelowUptoSaid : Prop := fnRankJoinBelowUptoRow.holds Try.pinned (OpenSpec.upto fnRankJoinBelowSpec)

/-- 'laws.FnRankSpanIn', WHERE WHAT IT READS IS OF BULK AT MOST 1048576: true; the input reads as it did. -/
def fnRankSpanInUptoRow : OpenClaim := { program := "ytnpcgbjkahpcfaa", sum := "b0c2ad04eba72b9875d4f24ecb7d2aae3a957a968e2238dfaf06473b0412716d", func := "loop.example/inkling/laws.FnRankSpanIn", spec := "fnRankSpanIn", apart := false, narrowed := true }
def FnRankSpanInUptoSaid : Prop := fnRankSpanInUptoRow.holds Try.pinned (OpenSpec.upto fnRankSpanInSpec)

/-- 'laws.FnExactRankOk', WHERE WHAT IT READS IS OF BULK AT MOST 1048576: true; the input reads as it did. -/
def fnExactRankOkUptoRow : OpenClaim := { program := "ytnpcgbjkahpcfaa", sum := "b0c2ad04eba72b9875d4f24ecb7d2aae3a957a968e2238dfaf06473b0412716d", func := "loop.example/inkling/laws.FnExactRankOk", spec := "fnExactRankOk", apart := false, narrowed := true }
def FnExactRankOkUptoSaid : Prop := fnExactRankOkUptoRow.holds Try.pinned (OpenSpec.upto fnExactRankOkSpec)

/-- 'laws.FnExactRankAdd', WHERE WHAT IT READS IS OF BULK AT MOST 1048576: true; the input reads as it did. -/
def fnExactRankAddUptoRow : OpenClaim := { program := "ytnpcgbjkahpcfaa", sum := "b0c2ad04eba72b9875d4f24ecb7d2aae3a957a968e2238dfaf06473b0412716d", func := "loop.example/inkling/laws.FnExactRankAdd", spec := "fnExactRankAdd", apart := false, narrowed := true }
def FnExactRankAddUptoSaid : Prop := fnExactRankAddUptoRow.holds Try.pinned (OpenSpec.upto fnExactRankAddSpec)

/-- 'laws.FnExactRankJoin', WHERE WHAT IT READS IS OF BULK AT MOST 1048576: true; the input reads as it did. -/
def fnExactRankJoinUptoRow : OpenClaim := { program := "ytnpcgbjkahpcfaa", sum := "b0c2ad04eba72b9875d4f24ecb7d2aae3a957a968e2238dfaf06473b0412716d", func := "loop.example/inkling/laws.FnExactRankJoin", spec := "fnExactRankJoin", apart := false, narrowed := true }
def FnExactRankJoinUptoSaid : Prop := fnExactRankJoinUptoRow.holds Try.pinned (OpenSpec.upto fnExactRankJoinSpec)

/-- 'laws.FnExactRankBelow', WHERE WHAT IT READS IS OF BULK AT MOST 1048576: true; the input reads as it did. -/
def fnExactRankBelowUptoRow : OpenClaim := { program := "ytnpcgbjkahpcfaa", sum := "b0c2ad04eba72b9875d4f24ecb7d2aae3a957a968e2238dfaf06473b0412716d", func := "loop.example/inkling/laws.FnExactRankBelow", spec := "fnExactRankBelow", apart := false, narrowed := true }
def FnExactRankBelowUptoSaid : Prop := fnExactRankBelowUptoRow.holds Try.pinned (OpenSpec.upto fnExactRankBelowSpec)

/-- 'laws.FnExactRankAt', WHERE WHAT IT READS IS OF BULK AT MOST 1048576: true; the input reads as it did. -/
def fnExactRankAtUptoRow : OpenClaim := { program := "ytnpcgbjkahpcfaa", sum := "b0c2ad04eba72b9875d4f24ecb7d2aae3a957a968e2238dfaf06473b0412716d", func := "loop.example/inkling/laws.FnExactRankAt", spec := "fnExactRankAt", apart := false, narrowed := true }
def FnExactRankAtUptoSaid : Prop := fnExactRankAtUptoRow.holds Try.pinned (OpenSpec.upto fnExactRankAtSpec)

/-- 'laws.FnExactRankSpan', WHERE WHAT IT READS IS OF BULK AT MOST 1048576: true; the input reads as it did. -/
def fnExactRankSpanUptoRow : OpenClaim := { program := "ytnpcgbjkahpcfaa", sum := "b0c2ad04eba72b9875d4f24ecb7d2aae3a957a968e2238dfaf06473b0412716d", func := "loop.example/inkling/laws.FnExactRankSpan", spec := "fnExactRankSpan", apart := false, narrowed := true }
def FnExactRankSpanUptoSaid : Prop := fnExactRankSpanUptoRow.holds Try.pinned (OpenSpec.upto fnExactRankSpanSpec)

end Rows
end Go.Proofs.Ytnpcgbjkahpcfaa
