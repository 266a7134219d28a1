/-
  No cell of these rows narrows 'for every input' (looked for: loops, veiled, ifaces, maps, wideKeys, modest, calm, conditions, laid).
  DERIVED. THE GIVEN ROWS OF THIS SEAT. 14 by the template 'for every input the law returns true; each argument reads behind the call as it read before'; 0 by the template 'total and deterministic' (their statements: YtcblbdpdbggkbaaGreatTotals.lean).
  GIVEN WITH THE SEED: the statements are not yours to turn. If you find one false, say at which input.
  Laid BY PROGRAM, IN A SANDBOX (cutbox-rows.mjs): the forced cells as the released guide's own fill.sh prints them over the translation c190c3fa986e3d24… (all of the seat's roots in one cut). By AI agents, Wed Nov 11 2026. No macro, syntax, notation, axiom, sorry.
-/
import Derived.Test.YtcblbdpdbggkbaaGreatChecked
import GoSem.Claim
import GoSem.ClaimJoined
import GoSem.ClaimMapViews
import Derived.JoinedTies
import Derived.KernelRfl
namespace Go.Proofs.YtcblbdpdbggkbaaGreat
/- THE CELL 'sum', in the pinned program and in every row, IS THE sha256 OF THE DUMP (.gsa) THAT YtcblbdpdbggkbaaGreatProg.lean LOADS. Nothing in Lean hashes anything: it is a label: what it is worth is what the hold of that sum in a sandbox is worth. -/
noncomputable def Tryz.pinned : Pinned := { name := "ytcblbdpdbggkbaagreat", sum := "c190c3fa986e3d24582a717e2f05eefff407bf048c43d659bd8c7ebb6fa677af", checked := Tryz.checked }
namespace Rows
def none {H : Type} : Left H := { results := [], args := [] }

/-- 'laws.FnNetNew': WHATEVER THE INPUT: true; the input reads as it did. -/
def fnNetNewSpec : ChangeSpec := { name := "fnNetNew", fn := fun _ => fun
  | [d] => { results := [.lit (.bool true)], args := [d] }
  | _ => none }
def fnNetNewRow : OpenClaim := { program := "ytcblbdpdbggkbaagreat", sum := "c190c3fa986e3d24582a717e2f05eefff407bf048c43d659bd8c7ebb6fa677af", func := "loop.example/inkling/laws.FnNetNew", spec := "fnNetNew", unfollowed := true, recurses := true, plainKeys := false, apart := false }
def FnNetNewSaid : Prop := fnNetNewRow.holds Tryz.pinned (OpenSpec.ofChange fnNetNewSpec)

/-- ITS FALSE NEIGHBOUR: 'it returns false'. Refute it at one input. -/
def fnNetNewWrong : ChangeSpec := { name := "fnNetNew", fn := fun _ => fun
  | [d] => { results := [.lit (.bool false)], args := [d] }
  | _ => none }
def FnNetNewWrongFalsely : Prop := fnNetNewRow.holds Tryz.pinned (OpenSpec.ofChange fnNetNewWrong)

/-- 'laws.FnNetOk': WHATEVER THE INPUT: true; the input reads as it did. -/
def fnNetOkSpec : ChangeSpec := { name := "fnNetOk", fn := fun _ => fun
  | [d] => { results := [.lit (.bool true)], args := [d] }
  | _ => none }
def fnNetOkRow : OpenClaim := { program := "ytcblbdpdbggkbaagreat", sum := "c190c3fa986e3d24582a717e2f05eefff407bf048c43d659bd8c7ebb6fa677af", func := "loop.example/inkling/laws.FnNetOk", spec := "fnNetOk", unfollowed := true, recurses := true, plainKeys := false, apart := false }
def FnNetOkSaid : Prop := fnNetOkRow.holds Tryz.pinned (OpenSpec.ofChange fnNetOkSpec)

/-- ITS FALSE NEIGHBOUR: 'it returns false'. Refute it at one input. -/
def fnNetOkWrong : ChangeSpec := { name := "fnNetOk", fn := fun _ => fun
  | [d] => { results := [.lit (.bool false)], args := [d] }
  | _ => none }
def FnNetOkWrongFalsely : Prop := fnNetOkRow.holds Tryz.pinned (OpenSpec.ofChange fnNetOkWrong)

/-- 'laws.FnNetReach': WHATEVER THE INPUT: true; the input reads as it did. -/
def fnNetReachSpec : ChangeSpec := { name := "fnNetReach", fn := fun _ => fun
  | [d] => { results := [.lit (.bool true)], args := [d] }
  | _ => none }
def fnNetReachRow : OpenClaim := { program := "ytcblbdpdbggkbaagreat", sum := "c190c3fa986e3d24582a717e2f05eefff407bf048c43d659bd8c7ebb6fa677af", func := "loop.example/inkling/laws.FnNetReach", spec := "fnNetReach", unfollowed := true, recurses := true, plainKeys := false, apart := false }
def FnNetReachSaid : Prop := fnNetReachRow.holds Tryz.pinned (OpenSpec.ofChange fnNetReachSpec)

/-- ITS FALSE NEIGHBOUR: 'it returns false'. Refute it at one input. -/
def fnNetReachWrong : ChangeSpec := { name := "fnNetReach", fn := fun _ => fun
  | [d] => { results := [.lit (.bool false)], args := [d] }
  | _ => none }
def FnNetReachWrongFalsely : Prop := fnNetReachRow.holds Tryz.pinned (OpenSpec.ofChange fnNetReachWrong)

/-- 'laws.FnNetReachPath': WHATEVER THE INPUT: true; the input reads as it did. -/
def fnNetReachPathSpec : ChangeSpec := { name := "fnNetReachPath", fn := fun _ => fun
  | [d] => { results := [.lit (.bool true)], args := [d] }
  | _ => none }
def fnNetReachPathRow : OpenClaim := { program := "ytcblbdpdbggkbaagreat", sum := "c190c3fa986e3d24582a717e2f05eefff407bf048c43d659bd8c7ebb6fa677af", func := "loop.example/inkling/laws.FnNetReachPath", spec := "fnNetReachPath", unfollowed := true, recurses := true, plainKeys := false, apart := false }
def FnNetReachPathSaid : Prop := fnNetReachPathRow.holds Tryz.pinned (OpenSpec.ofChange fnNetReachPathSpec)

/-- ITS FALSE NEIGHBOUR: 'it returns false'. Refute it at one input. -/
def fnNetReachPathWrong : ChangeSpec := { name := "fnNetReachPath", fn := fun _ => fun
  | [d] => { results := [.lit (.bool false)], args := [d] }
  | _ => none }
def FnNetReachPathWrongFalsely : Prop := fnNetReachPathRow.holds Tryz.pinned (OpenSpec.ofChange fnNetReachPathWrong)

/-- 'laws.FnNetKnown': WHATEVER THE INPUT: true; the input reads as it did. -/
def fnNetKnownSpec : ChangeSpec := { name := "fnNetKnown", fn := fun _ => fun
  | [d] => { results := [.lit (.bool true)], args := [d] }
  | _ => none }
def fnNetKnownRow : OpenClaim := { program := "ytcblbdpdbggkbaagreat", sum := "c190c3fa986e3d24582a717e2f05eefff407bf048c43d659bd8c7ebb6fa677af", func := "loop.example/inkling/laws.FnNetKnown", spec := "fnNetKnown", unfollowed := true, recurses := true, plainKeys := false, apart := false }
def FnNetKnownSaid : Prop := fnNetKnownRow.holds Tryz.pinned (OpenSpec.ofChange fnNetKnownSpec)

/-- ITS FALSE NEIGHBOUR: 'it returns false'. Refute it at one input. -/
def fnNetKnownWrong : ChangeSpec := { name := "fnNetKnown", fn := fun _ => fun
  | [d] => { results := [.lit (.bool false)], args := [d] }
  | _ => none }
def FnNetKnownWrongFalsely : Prop := fnNetKnownRow.holds Tryz.pinned (OpenSpec.ofChange fnNetKnownWrong)

/-- 'laws.FnNetSum': WHATEVER THE INPUT: true; the input reads as it did. -/
def fnNetSumSpec : ChangeSpec := { name := "fnNetSum", fn := fun _ => fun
  | [d] => { results := [.lit (.bool true)], args := [d] }
  | _ => none }
def fnNetSumRow : OpenClaim := { program := "ytcblbdpdbggkbaagreat", sum := "c190c3fa986e3d24582a717e2f05eefff407bf048c43d659bd8c7ebb6fa677af", func := "loop.example/inkling/laws.FnNetSum", spec := "fnNetSum", unfollowed := true, recurses := true, plainKeys := false, apart := false }
def FnNetSumSaid : Prop := fnNetSumRow.holds Tryz.pinned (OpenSpec.ofChange fnNetSumSpec)

/-- ITS FALSE NEIGHBOUR: 'it returns false'. Refute it at one input. -/
def fnNetSumWrong : ChangeSpec := { name := "fnNetSum", fn := fun _ => fun
  | [d] => { results := [.lit (.bool false)], args := [d] }
  | _ => none }
def FnNetSumWrongFalsely : Prop := fnNetSumRow.holds Tryz.pinned (OpenSpec.ofChange fnNetSumWrong)

/-- 'laws.FnNetSumGet': WHATEVER THE INPUT: true; the input reads as it did. -/
def fnNetSumGetSpec : ChangeSpec := { name := "fnNetSumGet", fn := fun _ => fun
  | [d] => { results := [.lit (.bool true)], args := [d] }
  | _ => none }
def fnNetSumGetRow : OpenClaim := { program := "ytcblbdpdbggkbaagreat", sum := "c190c3fa986e3d24582a717e2f05eefff407bf048c43d659bd8c7ebb6fa677af", func := "loop.example/inkling/laws.FnNetSumGet", spec := "fnNetSumGet", unfollowed := true, recurses := true, plainKeys := false, apart := false }
def FnNetSumGetSaid : Prop := fnNetSumGetRow.holds Tryz.pinned (OpenSpec.ofChange fnNetSumGetSpec)

/-- ITS FALSE NEIGHBOUR: 'it returns false'. Refute it at one input. -/
def fnNetSumGetWrong : ChangeSpec := { name := "fnNetSumGet", fn := fun _ => fun
  | [d] => { results := [.lit (.bool false)], args := [d] }
  | _ => none }
def FnNetSumGetWrongFalsely : Prop := fnNetSumGetRow.holds Tryz.pinned (OpenSpec.ofChange fnNetSumGetWrong)

/-- 'laws.FnNetSumFar': WHATEVER THE INPUT: true; the input reads as it did. -/
def fnNetSumFarSpec : ChangeSpec := { name := "fnNetSumFar", fn := fun _ => fun
  | [d] => { results := [.lit (.bool true)], args := [d] }
  | _ => none }
def fnNetSumFarRow : OpenClaim := { program := "ytcblbdpdbggkbaagreat", sum := "c190c3fa986e3d24582a717e2f05eefff407bf048c43d659bd8c7ebb6fa677af", func := "loop.example/inkling/laws.FnNetSumFar", spec := "fnNetSumFar", unfollowed := true, recurses := true, plainKeys := false, apart := false }
def FnNetSumFarSaid : Prop := fnNetSumFarRow.holds Tryz.pinned (OpenSpec.ofChange fnNetSumFarSpec)

/-- ITS FALSE NEIGHBOUR: 'it returns false'. Refute it at one input. -/
def fnNetSumFarWrong : ChangeSpec := { name := "fnNetSumFar", fn := fun _ => fun
  | [d] => { results := [.lit (.bool false)], args := [d] }
  | _ => none }
def FnNetSumFarWrongFalsely : Prop := fnNetSumFarRow.holds Tryz.pinned (OpenSpec.ofChange fnNetSumFarWrong)

/-- 'laws.FnNetList': WHATEVER THE INPUT: true; the input reads as it did. -/
def fnNetListSpec : ChangeSpec := { name := "fnNetList", fn := fun _ => fun
  | [d] => { results := [.lit (.bool true)], args := [d] }
  | _ => none }
def fnNetListRow : OpenClaim := { program := "ytcblbdpdbggkbaagreat", sum := "c190c3fa986e3d24582a717e2f05eefff407bf048c43d659bd8c7ebb6fa677af", func := "loop.example/inkling/laws.FnNetList", spec := "fnNetList", unfollowed := true, recurses := true, plainKeys := false, apart := false }
def FnNetListSaid : Prop := fnNetListRow.holds Tryz.pinned (OpenSpec.ofChange fnNetListSpec)

/-- ITS FALSE NEIGHBOUR: 'it returns false'. Refute it at one input. -/
def fnNetListWrong : ChangeSpec := { name := "fnNetList", fn := fun _ => fun
  | [d] => { results := [.lit (.bool false)], args := [d] }
  | _ => none }
def FnNetListWrongFalsely : Prop := fnNetListRow.holds Tryz.pinned (OpenSpec.ofChange fnNetListWrong)

/-- 'laws.FnExactNetOk': WHATEVER THE INPUT: true; the input reads as it did. -/
def fnExactNetOkSpec : ChangeSpec := { name := "fnExactNetOk", fn := fun _ => fun
  | [d] => { results := [.lit (.bool true)], args := [d] }
  | _ => none }
def fnExactNetOkRow : OpenClaim := { program := "ytcblbdpdbggkbaagreat", sum := "c190c3fa986e3d24582a717e2f05eefff407bf048c43d659bd8c7ebb6fa677af", func := "loop.example/inkling/laws.FnExactNetOk", spec := "fnExactNetOk", unfollowed := true, recurses := true, plainKeys := false, apart := false }
def FnExactNetOkSaid : Prop := fnExactNetOkRow.holds Tryz.pinned (OpenSpec.ofChange fnExactNetOkSpec)

/-- ITS FALSE NEIGHBOUR: 'it returns false'. Refute it at one input. -/
def fnExactNetOkWrong : ChangeSpec := { name := "fnExactNetOk", fn := fun _ => fun
  | [d] => { results := [.lit (.bool false)], args := [d] }
  | _ => none }
def FnExactNetOkWrongFalsely : Prop := fnExactNetOkRow.holds Tryz.pinned (OpenSpec.ofChange fnExactNetOkWrong)

/-- 'laws.FnExactNetReach': WHATEVER THE INPUT: true; the input reads as it did. -/
def fnExactNetReachSpec : ChangeSpec := { name := "fnExactNetReach", fn := fun _ => fun
  | [d] => { results := [.lit (.bool true)], args := [d] }
  | _ => none }
def fnExactNetReachRow : OpenClaim := { program := "ytcblbdpdbggkbaagreat", sum := "c190c3fa986e3d24582a717e2f05eefff407bf048c43d659bd8c7ebb6fa677af", func := "loop.example/inkling/laws.FnExactNetReach", spec := "fnExactNetReach", unfollowed := true, recurses := true, plainKeys := false, apart := false }
def FnExactNetReachSaid : Prop := fnExactNetReachRow.holds Tryz.pinned (OpenSpec.ofChange fnExactNetReachSpec)

/-- ITS FALSE NEIGHBOUR: 'it returns false'. Refute it at one input. -/
def fnExactNetReachWrong : ChangeSpec := { name := "fnExactNetReach", fn := fun _ => fun
  | [d] => { results := [.lit (.bool false)], args := [d] }
  | _ => none }
def FnExactNetReachWrongFalsely : Prop := fnExactNetReachRow.holds Tryz.pinned (OpenSpec.ofChange fnExactNetReachWrong)

/-- 'laws.FnExactNetKnown': WHATEVER THE INPUT: true; the input reads as it did. -/
def fnExactNetKnownSpec : ChangeSpec := { name := "fnExactNetKnown", fn := fun _ => fun
  | [d1, d2] => { results := [.lit (.bool true)], args := [d1, d2] }
  | _ => none }
def fnExactNetKnownRow : OpenClaim := { program := "ytcblbdpdbggkbaagreat", sum := "c190c3fa986e3d24582a717e2f05eefff407bf048c43d659bd8c7ebb6fa677af", func := "loop.example/inkling/laws.FnExactNetKnown", spec := "fnExactNetKnown", unfollowed := true, recurses := true, plainKeys := false, apart := false }
def FnExactNetKnownSaid : Prop := fnExactNetKnownRow.holds Tryz.pinned (OpenSpec.ofChange fnExactNetKnownSpec)

/-- ITS FALSE NEIGHBOUR: 'it returns false'. Refute it at one input. -/
def fnExactNetKnownWrong : ChangeSpec := { name := "fnExactNetKnown", fn := fun _ => fun
  | [d1, d2] => { results := [.lit (.bool false)], args := [d1, d2] }
  | _ => none }
def FnExactNetKnownWrongFalsely : Prop := fnExactNetKnownRow.holds Tryz.pinned (OpenSpec.ofChange fnExactNetKnownWrong)

/-- 'laws.FnExactNetSum': WHATEVER THE INPUT: true; the input reads as it did. -/
def fnExactNetSumSpec : ChangeSpec := { name := "fnExactNetSum", fn := fun _ => fun
  | [d1, d2] => { results := [.lit (.bool true)], args := [d1, d2] }
  | _ => none }
def fnExactNetSumRow : OpenClaim := { program := "ytcblbdpdbggkbaagreat", sum := "c190c3fa986e3d24582a717e2f05eefff407bf048c43d659bd8c7ebb6fa677af", func := "loop.example/inkling/laws.FnExactNetSum", spec := "fnExactNetSum", unfollowed := true, recurses := true, plainKeys := false, apart := false }
def FnExactNetSumSaid : Prop := fnExactNetSumRow.holds Tryz.pinned (OpenSpec.ofChange fnExactNetSumSpec)

/-- ITS FALSE NEIGHBOUR: 'it returns false'. Refute it at one input. -/
def fnExactNetSumWrong : ChangeSpec := { name := "fnExactNetSum", fn := fun _ => fun
  | [d1, d2] => { results := [.lit (.bool false)], args := [d1, d2] }
  | _ => none }
def FnExactNetSumWrongFalsely : Prop := fnExactNetSumRow.holds Tryz.pinned (OpenSpec.ofChange fnExactNetSumWrong)

/-- 'laws.FnExactNetList': WHATEVER THE INPUT: true; the input reads as it did. -/
def fnExactNetListSpec : ChangeSpec := { name := "fnExactNetList", fn := fun _ => fun
  | [d1, d2] => { results := [.lit (.bool true)], args := [d1, d2] }
  | _ => none }
def fnExactNetListRow : OpenClaim := { program := "ytcblbdpdbggkbaagreat", sum := "c190c3fa986e3d24582a717e2f05eefff407bf048c43d659bd8c7ebb6fa677af", func := "loop.example/inkling/laws.FnExactNetList", spec := "fnExactNetList", unfollowed := true, recurses := true, plainKeys := false, apart := false }
def FnExactNetListSaid : Prop := fnExactNetListRow.holds Tryz.pinned (OpenSpec.ofChange fnExactNetListSpec)

/-- ITS FALSE NEIGHBOUR: 'it returns false'. Refute it at one input. -/
def fnExactNetListWrong : ChangeSpec := { name := "fnExactNetList", fn := fun _ => fun
  | [d1, d2] => { results := [.lit (.bool false)], args := [d1, d2] }
  | _ => none }
def FnExactNetListWrongFalsely : Prop := fnExactNetListRow.holds Tryz.pinned (OpenSpec.ofChange fnExactNetListWrong)

/- THE SECOND FORM. 'bulk': how many values and letters a reading holds, each counted each time it is reached (what is shared counts as often as it is met; a slice's spare places count too). A statement '..UptoSaid' is the law's where the arguments, and the package variables that the reading takes, are together of bulk at most 1048576: NARROWER than '..Said'. Prove '..Said' where nothing that the law and all that it calls make is longer than what came in: it says more and counts as full. Else prove '..UptoSaid'. A law counts once. -/
mutual
def uptoBulk {H : Type} : DataW H → Nat
  | .lit (.string bytes) => bytes.length + 1
  | .lit _ => 1
  | .nil => 1
  | .ptr d => uptoBulk d + 1
  | .slice elems spare => uptoBulkAll elems + uptoBulkAll spare + 1
  | .agg parts => uptoBulkAll parts + 1
  | .iface _ d => uptoBulk d + 1
  | .map entries => uptoBulkEntries entries + 1
  | .held _ => 1
def uptoBulkAll {H : Type} : List (DataW H) → Nat
  | [] => 0
  | d :: r => uptoBulk d + uptoBulkAll r
def uptoBulkEntries {H : Type} : List (Lit × DataW H) → Nat
  | [] => 0
  | x :: r => uptoBulkEntry x + uptoBulkEntries r
def uptoBulkEntry {H : Type} : Lit × DataW H → Nat
  | (.string bytes, d) => bytes.length + uptoBulk d + 1
  | (_, d) => uptoBulk d + 1
 end
def uptoSmall : (H : Type) → List (DataW H) → Bool := fun _ ds => decide (uptoBulkAll ds ≤ 1048576)
def OpenSpec.upto (s : _root_.Go.ChangeSpec) : _root_.Go.OpenSpec := { _root_.Go.OpenSpec.ofChange s with cond := some uptoSmall }

/-- 'laws.FnNetNew', WHERE WHAT IT READS IS OF BULK AT MOST 1048576: true; the input reads as it did. -/
def fnNetNewUptoRow : OpenClaim := { program := "ytcblbdpdbggkbaagreat", sum := "c190c3fa986e3d24582a717e2f05eefff407bf048c43d659bd8c7ebb6fa677af", func := "loop.example/inkling/laws.FnNetNew", spec := "fnNetNew", unfollowed := true, recurses := true, plainKeys := false, apart := false, narrowed := true }
def FnNetNewUptoSaid : Prop := fnNetNewUptoRow.holds Tryz.pinned (OpenSpec.upto fnNetNewSpec)

/-- 'laws.FnNetOk', WHERE WHAT IT READS IS OF BULK AT MOST 1048576: true; the input reads as it did. -/
def fnNetOkUptoRow : OpenClaim := { program := "ytcblbdpdbggkbaagreat", sum := "c190c3fa986e3d24582a717e2f05eefff407bf048c43d659bd8c7ebb6fa677af", func := "loop.example/inkling/laws.FnNetOk", spec := "fnNetOk", unfollowed := true, recurses := true, plainKeys := false, apart := false, narrowed := true }
def FnNetOkUptoSaid : Prop := fnNetOkUptoRow.holds Tryz.pinned (OpenSpec.upto fnNetOkSpec)

/-- 'laws.FnNetReach', WHERE WHAT IT READS IS OF BULK AT MOST 1048576: true; the input reads as it did. -/
def fnNetReachUptoRow : OpenClaim := { program := "ytcblbdpdbggkbaagreat", sum := "c190c3fa986e3d24582a717e2f05eefff407bf048c43d659bd8c7ebb6fa677af", func := "loop.example/inkling/laws.FnNetReach", spec := "fnNetReach", unfollowed := true, recurses := true, plainKeys := false, apart := false, narrowed := true }
def FnNetReachUptoSaid : Prop := fnNetReachUptoRow.holds Tryz.pinned (OpenSpec.upto fnNetReachSpec)

/-- 'laws.FnNetReachPath', WHERE WHAT IT READS IS OF BULK AT MOST 1048576: true; the input reads as it did. -/
def fnNetReachPathUptoRow : OpenClaim := { program := "ytcblbdpdbggkbaagreat", sum := "c190c3fa986e3d24582a717e2f05eefff407bf048c43d659bd8c7ebb6fa677af", func := "loop.example/inkling/laws.FnNetReachPath", spec := "fnNetReachPath", unfollowed := true, recurses := true, plainKeys := false, apart := false, narrowed := true }
def FnNetReachPathUptoSaid : Prop := fnNetReachPathUptoRow.holds Tryz.pinned (OpenSpec.upto fnNetReachPathSpec)

/-- 'laws.FnNetKnown', WHERE WHAT IT READS IS OF BULK AT MOST 1048576: true; the input reads as it did. -/
def fnNetKnownUptoRow : OpenClaim := { program := "ytcblbdpdbggkbaagreat", sum := "c190c3fa986e3d24582a717e2f05eefff407bf048c43d659bd8c7ebb6fa677af", func := "loop.example/inkling/laws.FnNetKnown", spec := "fnNetKnown", unfollowed := true, recurses := true, plainKeys := false, apart := false, narrowed := true }
def FnNetKnownUptoSaid : Prop := fnNetKnownUptoRow.holds Tryz.pinned (OpenSpec.upto fnNetKnownSpec)

/-- 'laws.FnNetSum', WHERE WHAT IT READS IS OF BULK AT MOST 1048576: true; the input reads as it did. -/
def fnNetSumUptoRow : OpenClaim := { program := "ytcblbdpdbggkbaagreat", sum := "c190c3fa986e3d24582a717e2f05eefff407bf048c43d659bd8c7ebb6fa677af", func := "loop.example/inkling/laws.FnNetSum", spec := "fnNetSum", unfollowed := true, recurses := true, plainKeys := false, apart := false, narrowed := true }
def FnNetSumUptoSaid : Prop := fnNetSumUptoRow.holds Tryz.pinned (OpenSpec.upto fnNetSumSpec)

/-- 'laws.FnNetSumGet', WHERE WHAT IT READS IS OF BULK AT MOST 1048576: true; the input reads as it did. -/
def fnNetSumGetUptoRow : OpenClaim := { program := "ytcblbdpdbggkbaagreat", sum := "c190c3fa986e3d24582a717e2f05eefff407bf048c43d659bd8c7ebb6fa677af", func := "loop.example/inkling/laws.FnNetSumGet", spec := "fnNetSumGet", unfollowed := true, recurses := true, plainKeys := false, apart := false, narrowed := true }
def FnNetSumGetUptoSaid : Prop := fnNetSumGetUptoRow.holds Tryz.pinned (OpenSpec.upto fnNetSumGetSpec)

/-- 'laws.FnNetSumFar', WHERE WHAT IT READS IS OF BULK AT MOST 1048576: true; the input reads as it did. -/
def fnNetSumFarUptoRow : OpenClaim := { program := "ytcblbdpdbggkbaagreat", sum := "c190c3fa986e3d24582a717e2f05eefff407bf048c43d659bd8c7ebb6fa677af", func := "loop.example/inkling/laws.FnNetSumFar", spec := "fnNetSumFar", unfollowed := true, recurses := true, plainKeys := false, apart := false, narrowed := true }
def FnNetSumFarUptoSaid : Prop := fnNetSumFarUptoRow.holds Tryz.pinned (OpenSpec.upto fnNetSumFarSpec)

/-- 'laws.FnNetList', WHERE WHAT IT READS IS OF BULK AT MOST 1048576: true; the input reads as it did. -/
def fnNetListUptoRow : OpenClaim := { program := "ytcblbdpdbggkbaagreat", sum := "c190c3fa986e3d24582a717e2f05eefff407bf048c43d659bd8c7ebb6fa677af", func := "loop.example/inkling/laws.FnNetList", spec := "fnNetList", unfollowed := true, recurses := true, plainKeys := false, apart := false, narrowed := true }
def FnNetListUptoSaid : Prop := fnNetListUptoRow.holds Tryz.pinned (OpenSpec.upto fnNetListSpec)

/-- 'laws.FnExactNetOk', WHERE WHAT IT READS IS OF BULK AT MOST 1048576: true; the input reads as it did. -/
def fnExactNetOkUptoRow : OpenClaim := { program := "ytcblbdpdbggkbaagreat", sum := "c190c3fa986e3d24582a717e2f05eefff407bf048c43d659bd8c7ebb6fa677af", func := "loop.example/inkling/laws.FnExactNetOk", spec := "fnExactNetOk", unfollowed := true, recurses := true, plainKeys := false, apart := false, narrowed := true }
def FnExactNetOkUptoSaid : Prop := fnExactNetOkUptoRow.holds Tryz.pinned (OpenSpec.upto fnExactNetOkSpec)

/-- 'laws.FnExactNetReach', WHERE WHAT IT READS IS OF BULK AT MOST 1048576: true; the input reads as it did. -/
def fnExactNetReachUptoRow : OpenClaim := { program := "ytcblbdpdbggkbaagreat", sum := "c190c3fa986e3d24582a717e2f05eefff407bf048c43d659bd8c7ebb6fa677af", func := "loop.example/inkling/laws.FnExactNetReach", spec := "fnExactNetReach", unfollowed := true, recurses := true, plainKeys := false, apart := false, narrowed := true }
def FnExactNetReachUptoSaid : Prop := fnExactNetReachUptoRow.holds Tryz.pinned (OpenSpec.upto fnExactNetReachSpec)

/-- 'laws.FnExactNetKnown', WHERE WHAT IT READS IS OF BULK AT MOST 1048576: true; the input reads as it did. -/
def fnExactNetKnownUptoRow : OpenClaim := { program := "ytcblbdpdbggkbaagreat", sum := "c190c3fa986e3d24582a717e2f05eefff407bf048c43d659bd8c7ebb6fa677af", func := "loop.example/inkling/laws.FnExactNetKnown", spec := "fnExactNetKnown", unfollowed := true, recurses := true, plainKeys := false, apart := false, narrowed := true }
def FnExactNetKnownUptoSaid : Prop := fnExactNetKnownUptoRow.holds Tryz.pinned (OpenSpec.upto fnExactNetKnownSpec)

/-- 'laws.FnExactNetSum', WHERE WHAT IT READS IS OF BULK AT MOST 1048576: true; the input reads as it did. -/
def fnExactNetSumUptoRow : OpenClaim := { program := "ytcblbdpdbggkbaagreat", sum := "c190c3fa986e3d24582a717e2f05eefff407bf048c43d659bd8c7ebb6fa677af", func := "loop.example/inkling/laws.FnExactNetSum", spec := "fnExactNetSum", unfollowed := true, recurses := true, plainKeys := false, apart := false, narrowed := true }
def FnExactNetSumUptoSaid : Prop := fnExactNetSumUptoRow.holds Tryz.pinned (OpenSpec.upto fnExactNetSumSpec)

/-- 'laws.FnExactNetList', WHERE WHAT IT READS IS OF BULK AT MOST 1048576: true; the input reads as it did. -/
def fnExactNetListUptoRow : OpenClaim := { program := "ytcblbdpdbggkbaagreat", sum := "c190c3fa986e3d24582a717e2f05eefff407bf048c43d659bd8c7ebb6fa677af", func := "loop.example/inkling/laws.FnExactNetList", spec := "fnExactNetList", unfollowed := true, recurses := true, plainKeys := false, apart := false, narrowed := true }
def FnExactNetListUptoSaid : Prop := fnExactNetListUptoRow.holds Tryz.pinned (OpenSpec.upto fnExactNetListSpec)

end Rows
end Go.Proofs.YtcblbdpdbggkbaaGreat
