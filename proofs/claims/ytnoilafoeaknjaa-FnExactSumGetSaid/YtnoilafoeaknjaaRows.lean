/-
  No cell of these rows narrows 'for every input' (looked for: loops, veiled, ifaces, maps, wideKeys, modest, calm, conditions, laid).
  DERIVED. THE GIVEN ROWS OF THIS SEAT. 7 by the template 'for every input the law returns true; each argument reads behind the call as it read before'; 0 by the template 'total and deterministic' (their statements: YtnoilafoeaknjaaTotals.lean).
  GIVEN WITH THE SEED: the statements are not yours to turn. If you find one false, say at which input.
  Laid BY PROGRAM, IN A SANDBOX (cutbox-rows.mjs): the forced cells as the released guide's own fill.sh prints them over the translation ce70498a66eb3852… (all of the seat's roots in one cut). By AI agents, Wed Nov 11 2026. No macro, syntax, notation, axiom, sorry.
-/
import Derived.Test.YtnoilafoeaknjaaChecked
import GoSem.Claim
import GoSem.ClaimJoined
import GoSem.ClaimMapViews
import Derived.JoinedTies
import Derived.KernelRfl
namespace Go.Proofs.Ytnoilafoeaknjaa
/- THE CELL 'sum', in the pinned program and in every row, IS THE sha256 OF THE DUMP (.gsa) THAT YtnoilafoeaknjaaProg.lean LOADS. Nothing in Lean hashes anything: it is a label: what it is worth is what the hold of that sum in a sandbox is worth. -/
noncomputable def Try.pinned : Pinned := { name := "ytnoilafoeaknjaa", sum := "ce70498a66eb38526b9e574ff88bde402e84aea9c8d850dc4ca42c5bed484204", checked := Try.checked }
namespace Rows
def none {H : Type} : Left H := { results := [], args := [] }

/-- 'laws.FnSumOk': WHATEVER THE INPUT: true; the input reads as it did. -/
def fnSumOkSpec : ChangeSpec := { name := "fnSumOk", fn := fun _ => fun
  | [d] => { results := [.lit (.bool true)], args := [d] }
  | _ => none }
def fnSumOkRow : OpenClaim := { program := "ytnoilafoeaknjaa", sum := "ce70498a66eb38526b9e574ff88bde402e84aea9c8d850dc4ca42c5bed484204", func := "loop.example/inkling/laws.FnSumOk", spec := "fnSumOk", unfollowed := true, recurses := true, apart := false }
def FnSumOkSaid : Prop := fnSumOkRow.holds Try.pinned (OpenSpec.ofChange fnSumOkSpec)

/-- ITS FALSE NEIGHBOUR: 'it returns false'. Refute it at one input. -/
def fnSumOkWrong : ChangeSpec := { name := "fnSumOk", fn := fun _ => fun
  | [d] => { results := [.lit (.bool false)], args := [d] }
  | _ => none }
def FnSumOkWrongFalsely : Prop := fnSumOkRow.holds Try.pinned (OpenSpec.ofChange fnSumOkWrong)

/-- 'laws.FnSumGetNear': WHATEVER THE INPUT: true; the input reads as it did. -/
def fnSumGetNearSpec : ChangeSpec := { name := "fnSumGetNear", fn := fun _ => fun
  | [d] => { results := [.lit (.bool true)], args := [d] }
  | _ => none }
def fnSumGetNearRow : OpenClaim := { program := "ytnoilafoeaknjaa", sum := "ce70498a66eb38526b9e574ff88bde402e84aea9c8d850dc4ca42c5bed484204", func := "loop.example/inkling/laws.FnSumGetNear", spec := "fnSumGetNear", unfollowed := true, recurses := true, apart := false }
def FnSumGetNearSaid : Prop := fnSumGetNearRow.holds Try.pinned (OpenSpec.ofChange fnSumGetNearSpec)

/-- ITS FALSE NEIGHBOUR: 'it returns false'. Refute it at one input. -/
def fnSumGetNearWrong : ChangeSpec := { name := "fnSumGetNear", fn := fun _ => fun
  | [d] => { results := [.lit (.bool false)], args := [d] }
  | _ => none }
def FnSumGetNearWrongFalsely : Prop := fnSumGetNearRow.holds Try.pinned (OpenSpec.ofChange fnSumGetNearWrong)

/-- 'laws.FnSumAll': WHATEVER THE INPUT: true; the input reads as it did. -/
def fnSumAllSpec : ChangeSpec := { name := "fnSumAll", fn := fun _ => fun
  | [d] => { results := [.lit (.bool true)], args := [d] }
  | _ => none }
def fnSumAllRow : OpenClaim := { program := "ytnoilafoeaknjaa", sum := "ce70498a66eb38526b9e574ff88bde402e84aea9c8d850dc4ca42c5bed484204", func := "loop.example/inkling/laws.FnSumAll", spec := "fnSumAll", unfollowed := true, recurses := true, apart := false }
def FnSumAllSaid : Prop := fnSumAllRow.holds Try.pinned (OpenSpec.ofChange fnSumAllSpec)

/-- ITS FALSE NEIGHBOUR: 'it returns false'. Refute it at one input. -/
def fnSumAllWrong : ChangeSpec := { name := "fnSumAll", fn := fun _ => fun
  | [d] => { results := [.lit (.bool false)], args := [d] }
  | _ => none }
def FnSumAllWrongFalsely : Prop := fnSumAllRow.holds Try.pinned (OpenSpec.ofChange fnSumAllWrong)

/-- 'laws.FnExactSumNew': WHATEVER THE INPUT: true; the input reads as it did. -/
def fnExactSumNewSpec : ChangeSpec := { name := "fnExactSumNew", fn := fun _ => fun
  | [] => { results := [.lit (.bool true)], args := [] }
  | _ => none }
def fnExactSumNewRow : OpenClaim := { program := "ytnoilafoeaknjaa", sum := "ce70498a66eb38526b9e574ff88bde402e84aea9c8d850dc4ca42c5bed484204", func := "loop.example/inkling/laws.FnExactSumNew", spec := "fnExactSumNew", apart := false }
def FnExactSumNewSaid : Prop := fnExactSumNewRow.holds Try.pinned (OpenSpec.ofChange fnExactSumNewSpec)

/-- ITS FALSE NEIGHBOUR: 'it returns false'. Refute it at one input. -/
def fnExactSumNewWrong : ChangeSpec := { name := "fnExactSumNew", fn := fun _ => fun
  | [] => { results := [.lit (.bool false)], args := [] }
  | _ => none }
def FnExactSumNewWrongFalsely : Prop := fnExactSumNewRow.holds Try.pinned (OpenSpec.ofChange fnExactSumNewWrong)

/-- 'laws.FnExactSumOk': WHATEVER THE INPUT: true; the input reads as it did. -/
def fnExactSumOkSpec : ChangeSpec := { name := "fnExactSumOk", fn := fun _ => fun
  | [d] => { results := [.lit (.bool true)], args := [d] }
  | _ => none }
def fnExactSumOkRow : OpenClaim := { program := "ytnoilafoeaknjaa", sum := "ce70498a66eb38526b9e574ff88bde402e84aea9c8d850dc4ca42c5bed484204", func := "loop.example/inkling/laws.FnExactSumOk", spec := "fnExactSumOk", unfollowed := true, recurses := true, apart := false }
def FnExactSumOkSaid : Prop := fnExactSumOkRow.holds Try.pinned (OpenSpec.ofChange fnExactSumOkSpec)

/-- ITS FALSE NEIGHBOUR: 'it returns false'. Refute it at one input. -/
def fnExactSumOkWrong : ChangeSpec := { name := "fnExactSumOk", fn := fun _ => fun
  | [d] => { results := [.lit (.bool false)], args := [d] }
  | _ => none }
def FnExactSumOkWrongFalsely : Prop := fnExactSumOkRow.holds Try.pinned (OpenSpec.ofChange fnExactSumOkWrong)

/-- 'laws.FnExactSumAll': WHATEVER THE INPUT: true; the input reads as it did. -/
def fnExactSumAllSpec : ChangeSpec := { name := "fnExactSumAll", fn := fun _ => fun
  | [d] => { results := [.lit (.bool true)], args := [d] }
  | _ => none }
def fnExactSumAllRow : OpenClaim := { program := "ytnoilafoeaknjaa", sum := "ce70498a66eb38526b9e574ff88bde402e84aea9c8d850dc4ca42c5bed484204", func := "loop.example/inkling/laws.FnExactSumAll", spec := "fnExactSumAll", unfollowed := true, recurses := true, apart := false }
def FnExactSumAllSaid : Prop := fnExactSumAllRow.holds Try.pinned (OpenSpec.ofChange fnExactSumAllSpec)

/-- ITS FALSE NEIGHBOUR: 'it returns false'. Refute it at one input. -/
def fnExactSumAllWrong : ChangeSpec := { name := "fnExactSumAll", fn := fun _ => fun
  | [d] => { results := [.lit (.bool false)], args := [d] }
  | _ => none }
def FnExactSumAllWrongFalsely : Prop := fnExactSumAllRow.holds Try.pinned (OpenSpec.ofChange fnExactSumAllWrong)

/-- 'laws.FnExactSumGet': WHATEVER THE INPUT: true; the input reads as it did. -/
def fnExactSumGetSpec : ChangeSpec := { name := "fnExactSumGet", fn := fun _ => fun
  | [d1, d2] => { results := [.lit (.bool true)], args := [d1, d2] }
  | _ => none }
def fnExactSumGetRow : OpenClaim := { program := "ytnoilafoeaknjaa", sum := "ce70498a66eb38526b9e574ff88bde402e84aea9c8d850dc4ca42c5bed484204", func := "loop.example/inkling/laws.FnExactSumGet", spec := "fnExactSumGet", unfollowed := true, recurses := true, apart := false }
def FnExactSumGetSaid : Prop := fnExactSumGetRow.holds Try.pinned (OpenSpec.ofChange fnExactSumGetSpec)

/-- ITS FALSE NEIGHBOUR: 'it returns false'. Refute it at one input. -/
def fnExactSumGetWrong : ChangeSpec := { name := "fnExactSumGet", fn := fun _ => fun
  | [d1, d2] => { results := [.lit (.bool false)], args := [d1, d2] }
  | _ => none }
def FnExactSumGetWrongFalsely : Prop := fnExactSumGetRow.holds Try.pinned (OpenSpec.ofChange fnExactSumGetWrong)

/- THE SECOND FORM. 'bulk': how many values and letters a reading holds, each counted each time it is reached (what is shared counts as often as it is met; a slice's spare places count too). A statement '..UptoSaid' is the law's where the arguments, and the package variables that the reading takes, are together of bulk at most 1048576: NARROWER than '..Said'. Prove '..Said' where nothing that the law and all that it calls make is longer than what came in: it says more and counts as full. Else prove '..UptoSaid'. A law counts once. -/
mutual
def uptoBulk {H : Type} : DataW H → Nat
  | .lit (.string bytes) => bytes.length + 1
  | .lit _ => 1
  | .nil => 1
  | .ptr d => uptoBulk d + 1
  | .slice elems spare => uptoBulkAll elems + uptoBulkAll spare + 1
  | .agg parts => uptoBulkAll parts + 1
  | .iface _ d => uptoBulk d + 1
  | .map entries => uptoBulkEntries entries + 1
  | .held _ => 1
def uptoBulkAll {H : Type} : List (DataW H) → Nat
  | [] => 0
  | d :: r => uptoBulk d + uptoBulkAll r
def uptoBulkEntries {H : Type} : List (Lit × DataW H) → Nat
  | [] => 0
  | x :: r => uptoBulkEntry x + uptoBulkEntries r
def uptoBulkEntry {H : Type} : Lit × DataW H → Nat
  | (.string bytes, d) => bytes.length + uptoBulk d + 1
  | (_, d) => uptoBulk d + 1
 end
def uptoSmall : (H : Type) → List (DataW H) → Bool := fun _ ds => decide (uptoBulkAll ds ≤ 1048576)
def OpenSpec.upto (s : _root_.Go.ChangeSpec) : _root_.Go.OpenSpec := { _root_.Go.OpenSpec.ofChange s with cond := some uptoSmall }

/-- 'laws.FnSumOk', WHERE WHAT IT READS IS OF BULK AT MOST 1048576: true; the input reads as it did. -/
def fnSumOkUptoRow : OpenClaim := { program := "ytnoilafoeaknjaa", sum := "ce70498a66eb38526b9e574ff88bde402e84aea9c8d850dc4ca42c5bed484204", func := "loop.example/inkling/laws.FnSumOk", spec := "fnSumOk", unfollowed := true, recurses := true, apart := false, narrowed := true }
def FnSumOkUptoSaid : Prop := fnSumOkUptoRow.holds Try.pinned (OpenSpec.upto fnSumOkSpec)

/-- 'laws.FnSumGetNear', WHERE WHAT IT READS IS OF BULK AT MOST 1048576: true; the input reads as it did. -/
def fnSumGetNearUptoRow : OpenClaim := { program := "ytnoilafoeaknjaa", sum := "ce70498a66eb38526b9e574ff88bde402e84aea9c8d850dc4ca42c5bed484204", func := "loop.example/inkling/laws.FnSumGetNear", spec := "fnSumGetNear", unfollowed := true, recurses := true, apart := false, narrowed := true }
def FnSumGetNearUptoSaid : Prop := fnSumGetNearUptoRow.holds Try.pinned (OpenSpec.upto fnSumGetNearSpec)

/-- 'laws.FnSumAll', WHERE WHAT IT READS IS OF BULK AT MOST 1048576: true; the input reads as it did. -/
def fnSumAllUptoRow : OpenClaim := { program := "ytnoilafoeaknjaa", sum := "ce70498a66eb38526b9e574ff88bde402e84aea9c8d850dc4ca42c5bed484204", func := "loop.example/inkling/laws.FnSumAll", spec := "fnSumAll", unfollowed := true, recurses := true, apart := false, narrowed := true }
def FnSumAllUptoSaid : Prop := fnSumAllUptoRow.holds Try.pinned (OpenSpec.upto fnSumAllSpec)

/-- 'laws.FnExactSumNew', WHERE WHAT IT READS IS OF BULK AT MOST 1048576: true; the input reads as it did. -/
def fnExactSumNewUptoRow : OpenClaim := { program := "ytnoilafoeaknjaa", sum := "ce70498a66eb38526b9e574ff88bde402e84aea9c8d850dc4ca42c5bed484204", func := "loop.example/inkling/laws.FnExactSumNew", spec := "fnExactSumNew", apart := false, narrowed := true }
def FnExactSumNewUptoSaid : Prop := fnExactSumNewUptoRow.holds Try.pinned (OpenSpec.upto fnExactSumNewSpec)

/-- 'laws.FnExactSumOk', WHERE WHAT IT READS IS OF BULK AT MOST 1048576: true; the input reads as it did. -/
def fnExactSumOkUptoRow : OpenClaim := { program := "ytnoilafoeaknjaa", sum := "ce70498a66eb38526b9e574ff88bde402e84aea9c8d850dc4ca42c5bed484204", func := "loop.example/inkling/laws.FnExactSumOk", spec := "fnExactSumOk", unfollowed := true, recurses := true, apart := false, narrowed := true }
def FnExactSumOkUptoSaid : Prop := fnExactSumOkUptoRow.holds Try.pinned (OpenSpec.upto fnExactSumOkSpec)

/-- 'laws.FnExactSumAll', WHERE WHAT IT READS IS OF BULK AT MOST 1048576: true; the input reads as it did. -/
def fnExactSumAllUptoRow : OpenClaim := { program := "ytnoilafoeaknjaa", sum := "ce70498a66eb38526b9e574ff88bde402e84aea9c8d850dc4ca42c5bed484204", func := "loop.example/inkling/laws.FnExactSumAll", spec := "fnExactSumAll", unfollowed := true, recurses := true, apart := false, narrowed := true }
def FnExactSumAllUptoSaid : Prop := fnExactSumAllUptoRow.holds Try.pinned (OpenSpec.upto fnExactSumAllSpec)

/-- 'laws.FnExactSumGet', WHERE WHAT IT READS IS OF BULK AT MOST 1048576: true; the input reads as it did. -/
def fnExactSumGetUptoRow : OpenClaim := { program := "ytnoilafoeaknjaa", sum := "ce70498a66eb38526b9e574ff88bde402e84aea9c8d850dc4ca42c5bed484204", func := "loop.example/inkling/laws.FnExactSumGet", spec := "fnExactSumGet", unfollowed := true, recurses := true, apart := false, narrowed := true }
def FnExactSumGetUptoSaid : Prop := fnExactSumGetUptoRow.holds Try.pinned (OpenSpec.upto fnExactSumGetSpec)

end Rows
end Go.Proofs.Ytnoilafoeaknjaa
