/-
  No cell of these rows narrows 'for every input' (looked for: loops, veiled, ifaces, maps, wideKeys, modest, calm, conditions, laid).
  DERIVED. THE GIVEN ROWS OF THIS SEAT. 25 by the template 'for every input the law returns true; each argument reads behind the call as it read before'; 0 by the template 'total and deterministic' (their statements: YtnoilafoeaknjaaGreatTotals.lean).
  GIVEN WITH THE SEED: the statements are not yours to turn. If you find one false, say at which input.
  Laid BY PROGRAM, IN A SANDBOX (cutbox-rows.mjs): the forced cells as the released guide's own fill.sh prints them over the translation e5e474529e9affc6… (all of the seat's roots in one cut). By AI agents, Wed Nov 11 2026. No macro, syntax, notation, axiom, sorry.
-/
import Derived.Test.YtnoilafoeaknjaaGreatChecked
import GoSem.Claim
import GoSem.ClaimJoined
import GoSem.ClaimMapViews
import Derived.JoinedTies
import Derived.KernelRfl
namespace Go.Proofs.YtnoilafoeaknjaaGreat
/- THE CELL 'sum', in the pinned program and in every row, IS THE sha256 OF THE DUMP (.gsa) THAT YtnoilafoeaknjaaGreatProg.lean LOADS. Nothing in Lean hashes anything: it is a label: what it is worth is what the hold of that sum in a sandbox is worth. -/
noncomputable def Tryz.pinned : Pinned := { name := "ytnoilafoeaknjaagreat", sum := "e5e474529e9affc64fa37b63fd058eed329dbac3b63ba999de391b482d27bf5c", checked := Tryz.checked }
namespace Rows
def none {H : Type} : Left H := { results := [], args := [] }

/-- 'laws.FnRoughLeast': WHATEVER THE INPUT: true; the input reads as it did. -/
def fnRoughLeastSpec : ChangeSpec := { name := "fnRoughLeast", fn := fun _ => fun
  | [d1, d2] => { results := [.lit (.bool true)], args := [d1, d2] }
  | _ => none }
def fnRoughLeastRow : OpenClaim := { program := "ytnoilafoeaknjaagreat", sum := "e5e474529e9affc64fa37b63fd058eed329dbac3b63ba999de391b482d27bf5c", func := "loop.example/inkling/laws.FnRoughLeast", spec := "fnRoughLeast", unfollowed := true, recurses := true, apart := false }
def FnRoughLeastSaid : Prop := fnRoughLeastRow.holds Tryz.pinned (OpenSpec.ofChange fnRoughLeastSpec)

/-- ITS FALSE NEIGHBOUR: 'it returns false'. Refute it at one input. -/
def fnRoughLeastWrong : ChangeSpec := { name := "fnRoughLeast", fn := fun _ => fun
  | [d1, d2] => { results := [.lit (.bool false)], args := [d1, d2] }
  | _ => none }
def FnRoughLeastWrongFalsely : Prop := fnRoughLeastRow.holds Tryz.pinned (OpenSpec.ofChange fnRoughLeastWrong)

/-- 'laws.FnRoughMost': WHATEVER THE INPUT: true; the input reads as it did. -/
def fnRoughMostSpec : ChangeSpec := { name := "fnRoughMost", fn := fun _ => fun
  | [d1, d2] => { results := [.lit (.bool true)], args := [d1, d2] }
  | _ => none }
def fnRoughMostRow : OpenClaim := { program := "ytnoilafoeaknjaagreat", sum := "e5e474529e9affc64fa37b63fd058eed329dbac3b63ba999de391b482d27bf5c", func := "loop.example/inkling/laws.FnRoughMost", spec := "fnRoughMost", unfollowed := true, recurses := true, apart := false }
def FnRoughMostSaid : Prop := fnRoughMostRow.holds Tryz.pinned (OpenSpec.ofChange fnRoughMostSpec)

/-- ITS FALSE NEIGHBOUR: 'it returns false'. Refute it at one input. -/
def fnRoughMostWrong : ChangeSpec := { name := "fnRoughMost", fn := fun _ => fun
  | [d1, d2] => { results := [.lit (.bool false)], args := [d1, d2] }
  | _ => none }
def FnRoughMostWrongFalsely : Prop := fnRoughMostRow.holds Tryz.pinned (OpenSpec.ofChange fnRoughMostWrong)

/-- 'laws.FnFewJust': WHATEVER THE INPUT: true; the input reads as it did. -/
def fnFewJustSpec : ChangeSpec := { name := "fnFewJust", fn := fun _ => fun
  | [d] => { results := [.lit (.bool true)], args := [d] }
  | _ => none }
def fnFewJustRow : OpenClaim := { program := "ytnoilafoeaknjaagreat", sum := "e5e474529e9affc64fa37b63fd058eed329dbac3b63ba999de391b482d27bf5c", func := "loop.example/inkling/laws.FnFewJust", spec := "fnFewJust", unfollowed := true, recurses := true, apart := false }
def FnFewJustSaid : Prop := fnFewJustRow.holds Tryz.pinned (OpenSpec.ofChange fnFewJustSpec)

/-- ITS FALSE NEIGHBOUR: 'it returns false'. Refute it at one input. -/
def fnFewJustWrong : ChangeSpec := { name := "fnFewJust", fn := fun _ => fun
  | [d] => { results := [.lit (.bool false)], args := [d] }
  | _ => none }
def FnFewJustWrongFalsely : Prop := fnFewJustRow.holds Tryz.pinned (OpenSpec.ofChange fnFewJustWrong)

/-- 'laws.FnFewHas': WHATEVER THE INPUT: true; the input reads as it did. -/
def fnFewHasSpec : ChangeSpec := { name := "fnFewHas", fn := fun _ => fun
  | [d1, d2] => { results := [.lit (.bool true)], args := [d1, d2] }
  | _ => none }
def fnFewHasRow : OpenClaim := { program := "ytnoilafoeaknjaagreat", sum := "e5e474529e9affc64fa37b63fd058eed329dbac3b63ba999de391b482d27bf5c", func := "loop.example/inkling/laws.FnFewHas", spec := "fnFewHas", unfollowed := true, recurses := true, apart := false }
def FnFewHasSaid : Prop := fnFewHasRow.holds Tryz.pinned (OpenSpec.ofChange fnFewHasSpec)

/-- ITS FALSE NEIGHBOUR: 'it returns false'. Refute it at one input. -/
def fnFewHasWrong : ChangeSpec := { name := "fnFewHas", fn := fun _ => fun
  | [d1, d2] => { results := [.lit (.bool false)], args := [d1, d2] }
  | _ => none }
def FnFewHasWrongFalsely : Prop := fnFewHasRow.holds Tryz.pinned (OpenSpec.ofChange fnFewHasWrong)

/-- 'laws.FnTopGet': WHATEVER THE INPUT: true; the input reads as it did. -/
def fnTopGetSpec : ChangeSpec := { name := "fnTopGet", fn := fun _ => fun
  | [d1, d2] => { results := [.lit (.bool true)], args := [d1, d2] }
  | _ => none }
def fnTopGetRow : OpenClaim := { program := "ytnoilafoeaknjaagreat", sum := "e5e474529e9affc64fa37b63fd058eed329dbac3b63ba999de391b482d27bf5c", func := "loop.example/inkling/laws.FnTopGet", spec := "fnTopGet", unfollowed := true, recurses := true, apart := false }
def FnTopGetSaid : Prop := fnTopGetRow.holds Tryz.pinned (OpenSpec.ofChange fnTopGetSpec)

/-- ITS FALSE NEIGHBOUR: 'it returns false'. Refute it at one input. -/
def fnTopGetWrong : ChangeSpec := { name := "fnTopGet", fn := fun _ => fun
  | [d1, d2] => { results := [.lit (.bool false)], args := [d1, d2] }
  | _ => none }
def FnTopGetWrongFalsely : Prop := fnTopGetRow.holds Tryz.pinned (OpenSpec.ofChange fnTopGetWrong)

/-- 'laws.FnTopLost': WHATEVER THE INPUT: true; the input reads as it did. -/
def fnTopLostSpec : ChangeSpec := { name := "fnTopLost", fn := fun _ => fun
  | [d] => { results := [.lit (.bool true)], args := [d] }
  | _ => none }
def fnTopLostRow : OpenClaim := { program := "ytnoilafoeaknjaagreat", sum := "e5e474529e9affc64fa37b63fd058eed329dbac3b63ba999de391b482d27bf5c", func := "loop.example/inkling/laws.FnTopLost", spec := "fnTopLost", unfollowed := true, recurses := true, apart := false }
def FnTopLostSaid : Prop := fnTopLostRow.holds Tryz.pinned (OpenSpec.ofChange fnTopLostSpec)

/-- ITS FALSE NEIGHBOUR: 'it returns false'. Refute it at one input. -/
def fnTopLostWrong : ChangeSpec := { name := "fnTopLost", fn := fun _ => fun
  | [d] => { results := [.lit (.bool false)], args := [d] }
  | _ => none }
def FnTopLostWrongFalsely : Prop := fnTopLostRow.holds Tryz.pinned (OpenSpec.ofChange fnTopLostWrong)

/-- 'laws.FnTopJoinGet': WHATEVER THE INPUT: true; the input reads as it did. -/
def fnTopJoinGetSpec : ChangeSpec := { name := "fnTopJoinGet", fn := fun _ => fun
  | [d1, d2] => { results := [.lit (.bool true)], args := [d1, d2] }
  | _ => none }
def fnTopJoinGetRow : OpenClaim := { program := "ytnoilafoeaknjaagreat", sum := "e5e474529e9affc64fa37b63fd058eed329dbac3b63ba999de391b482d27bf5c", func := "loop.example/inkling/laws.FnTopJoinGet", spec := "fnTopJoinGet", unfollowed := true, recurses := true, apart := false }
def FnTopJoinGetSaid : Prop := fnTopJoinGetRow.holds Tryz.pinned (OpenSpec.ofChange fnTopJoinGetSpec)

/-- ITS FALSE NEIGHBOUR: 'it returns false'. Refute it at one input. -/
def fnTopJoinGetWrong : ChangeSpec := { name := "fnTopJoinGet", fn := fun _ => fun
  | [d1, d2] => { results := [.lit (.bool false)], args := [d1, d2] }
  | _ => none }
def FnTopJoinGetWrongFalsely : Prop := fnTopJoinGetRow.holds Tryz.pinned (OpenSpec.ofChange fnTopJoinGetWrong)

/-- 'laws.FnRankBelow': WHATEVER THE INPUT: true; the input reads as it did. -/
def fnRankBelowSpec : ChangeSpec := { name := "fnRankBelow", fn := fun _ => fun
  | [d1, d2] => { results := [.lit (.bool true)], args := [d1, d2] }
  | _ => none }
def fnRankBelowRow : OpenClaim := { program := "ytnoilafoeaknjaagreat", sum := "e5e474529e9affc64fa37b63fd058eed329dbac3b63ba999de391b482d27bf5c", func := "loop.example/inkling/laws.FnRankBelow", spec := "fnRankBelow", unfollowed := true, recurses := true, apart := false }
def FnRankBelowSaid : Prop := fnRankBelowRow.holds Tryz.pinned (OpenSpec.ofChange fnRankBelowSpec)

/-- ITS FALSE NEIGHBOUR: 'it returns false'. Refute it at one input. -/
def fnRankBelowWrong : ChangeSpec := { name := "fnRankBelow", fn := fun _ => fun
  | [d1, d2] => { results := [.lit (.bool false)], args := [d1, d2] }
  | _ => none }
def FnRankBelowWrongFalsely : Prop := fnRankBelowRow.holds Tryz.pinned (OpenSpec.ofChange fnRankBelowWrong)

/-- 'laws.FnRankAtList': WHATEVER THE INPUT: true; the input reads as it did. -/
def fnRankAtListSpec : ChangeSpec := { name := "fnRankAtList", fn := fun _ => fun
  | [d1, d2] => { results := [.lit (.bool true)], args := [d1, d2] }
  | _ => none }
def fnRankAtListRow : OpenClaim := { program := "ytnoilafoeaknjaagreat", sum := "e5e474529e9affc64fa37b63fd058eed329dbac3b63ba999de391b482d27bf5c", func := "loop.example/inkling/laws.FnRankAtList", spec := "fnRankAtList", unfollowed := true, recurses := true, apart := false }
def FnRankAtListSaid : Prop := fnRankAtListRow.holds Tryz.pinned (OpenSpec.ofChange fnRankAtListSpec)

/-- ITS FALSE NEIGHBOUR: 'it returns false'. Refute it at one input. -/
def fnRankAtListWrong : ChangeSpec := { name := "fnRankAtList", fn := fun _ => fun
  | [d1, d2] => { results := [.lit (.bool false)], args := [d1, d2] }
  | _ => none }
def FnRankAtListWrongFalsely : Prop := fnRankAtListRow.holds Tryz.pinned (OpenSpec.ofChange fnRankAtListWrong)

/-- 'laws.FnRankFew': WHATEVER THE INPUT: true; the input reads as it did. -/
def fnRankFewSpec : ChangeSpec := { name := "fnRankFew", fn := fun _ => fun
  | [d1, d2] => { results := [.lit (.bool true)], args := [d1, d2] }
  | _ => none }
def fnRankFewRow : OpenClaim := { program := "ytnoilafoeaknjaagreat", sum := "e5e474529e9affc64fa37b63fd058eed329dbac3b63ba999de391b482d27bf5c", func := "loop.example/inkling/laws.FnRankFew", spec := "fnRankFew", unfollowed := true, recurses := true, apart := false }
def FnRankFewSaid : Prop := fnRankFewRow.holds Tryz.pinned (OpenSpec.ofChange fnRankFewSpec)

/-- ITS FALSE NEIGHBOUR: 'it returns false'. Refute it at one input. -/
def fnRankFewWrong : ChangeSpec := { name := "fnRankFew", fn := fun _ => fun
  | [d1, d2] => { results := [.lit (.bool false)], args := [d1, d2] }
  | _ => none }
def FnRankFewWrongFalsely : Prop := fnRankFewRow.holds Tryz.pinned (OpenSpec.ofChange fnRankFewWrong)

/-- 'laws.FnRankJoinList': WHATEVER THE INPUT: true; the input reads as it did. -/
def fnRankJoinListSpec : ChangeSpec := { name := "fnRankJoinList", fn := fun _ => fun
  | [d1, d2] => { results := [.lit (.bool true)], args := [d1, d2] }
  | _ => none }
def fnRankJoinListRow : OpenClaim := { program := "ytnoilafoeaknjaagreat", sum := "e5e474529e9affc64fa37b63fd058eed329dbac3b63ba999de391b482d27bf5c", func := "loop.example/inkling/laws.FnRankJoinList", spec := "fnRankJoinList", unfollowed := true, recurses := true, apart := false }
def FnRankJoinListSaid : Prop := fnRankJoinListRow.holds Tryz.pinned (OpenSpec.ofChange fnRankJoinListSpec)

/-- ITS FALSE NEIGHBOUR: 'it returns false'. Refute it at one input. -/
def fnRankJoinListWrong : ChangeSpec := { name := "fnRankJoinList", fn := fun _ => fun
  | [d1, d2] => { results := [.lit (.bool false)], args := [d1, d2] }
  | _ => none }
def FnRankJoinListWrongFalsely : Prop := fnRankJoinListRow.holds Tryz.pinned (OpenSpec.ofChange fnRankJoinListWrong)

/-- 'laws.FnSumAdd': WHATEVER THE INPUT: true; the input reads as it did. -/
def fnSumAddSpec : ChangeSpec := { name := "fnSumAdd", fn := fun _ => fun
  | [d] => { results := [.lit (.bool true)], args := [d] }
  | _ => none }
def fnSumAddRow : OpenClaim := { program := "ytnoilafoeaknjaagreat", sum := "e5e474529e9affc64fa37b63fd058eed329dbac3b63ba999de391b482d27bf5c", func := "loop.example/inkling/laws.FnSumAdd", spec := "fnSumAdd", unfollowed := true, recurses := true, apart := false }
def FnSumAddSaid : Prop := fnSumAddRow.holds Tryz.pinned (OpenSpec.ofChange fnSumAddSpec)

/-- ITS FALSE NEIGHBOUR: 'it returns false'. Refute it at one input. -/
def fnSumAddWrong : ChangeSpec := { name := "fnSumAdd", fn := fun _ => fun
  | [d] => { results := [.lit (.bool false)], args := [d] }
  | _ => none }
def FnSumAddWrongFalsely : Prop := fnSumAddRow.holds Tryz.pinned (OpenSpec.ofChange fnSumAddWrong)

/-- 'laws.FnSumOf': WHATEVER THE INPUT: true; the input reads as it did. -/
def fnSumOfSpec : ChangeSpec := { name := "fnSumOf", fn := fun _ => fun
  | [d] => { results := [.lit (.bool true)], args := [d] }
  | _ => none }
def fnSumOfRow : OpenClaim := { program := "ytnoilafoeaknjaagreat", sum := "e5e474529e9affc64fa37b63fd058eed329dbac3b63ba999de391b482d27bf5c", func := "loop.example/inkling/laws.FnSumOf", spec := "fnSumOf", unfollowed := true, recurses := true, apart := false }
def FnSumOfSaid : Prop := fnSumOfRow.holds Tryz.pinned (OpenSpec.ofChange fnSumOfSpec)

/-- ITS FALSE NEIGHBOUR: 'it returns false'. Refute it at one input. -/
def fnSumOfWrong : ChangeSpec := { name := "fnSumOf", fn := fun _ => fun
  | [d] => { results := [.lit (.bool false)], args := [d] }
  | _ => none }
def FnSumOfWrongFalsely : Prop := fnSumOfRow.holds Tryz.pinned (OpenSpec.ofChange fnSumOfWrong)

/-- 'laws.FnSumOfCut': WHATEVER THE INPUT: true; the input reads as it did. -/
def fnSumOfCutSpec : ChangeSpec := { name := "fnSumOfCut", fn := fun _ => fun
  | [d1, d2] => { results := [.lit (.bool true)], args := [d1, d2] }
  | _ => none }
def fnSumOfCutRow : OpenClaim := { program := "ytnoilafoeaknjaagreat", sum := "e5e474529e9affc64fa37b63fd058eed329dbac3b63ba999de391b482d27bf5c", func := "loop.example/inkling/laws.FnSumOfCut", spec := "fnSumOfCut", unfollowed := true, recurses := true, apart := false }
def FnSumOfCutSaid : Prop := fnSumOfCutRow.holds Tryz.pinned (OpenSpec.ofChange fnSumOfCutSpec)

/-- ITS FALSE NEIGHBOUR: 'it returns false'. Refute it at one input. -/
def fnSumOfCutWrong : ChangeSpec := { name := "fnSumOfCut", fn := fun _ => fun
  | [d1, d2] => { results := [.lit (.bool false)], args := [d1, d2] }
  | _ => none }
def FnSumOfCutWrongFalsely : Prop := fnSumOfCutRow.holds Tryz.pinned (OpenSpec.ofChange fnSumOfCutWrong)

/-- 'laws.FnSumOfSwap': WHATEVER THE INPUT: true; the input reads as it did. -/
def fnSumOfSwapSpec : ChangeSpec := { name := "fnSumOfSwap", fn := fun _ => fun
  | [d] => { results := [.lit (.bool true)], args := [d] }
  | _ => none }
def fnSumOfSwapRow : OpenClaim := { program := "ytnoilafoeaknjaagreat", sum := "e5e474529e9affc64fa37b63fd058eed329dbac3b63ba999de391b482d27bf5c", func := "loop.example/inkling/laws.FnSumOfSwap", spec := "fnSumOfSwap", unfollowed := true, recurses := true, apart := false }
def FnSumOfSwapSaid : Prop := fnSumOfSwapRow.holds Tryz.pinned (OpenSpec.ofChange fnSumOfSwapSpec)

/-- ITS FALSE NEIGHBOUR: 'it returns false'. Refute it at one input. -/
def fnSumOfSwapWrong : ChangeSpec := { name := "fnSumOfSwap", fn := fun _ => fun
  | [d] => { results := [.lit (.bool false)], args := [d] }
  | _ => none }
def FnSumOfSwapWrongFalsely : Prop := fnSumOfSwapRow.holds Tryz.pinned (OpenSpec.ofChange fnSumOfSwapWrong)

/-- 'laws.FnSumGet': WHATEVER THE INPUT: true; the input reads as it did. -/
def fnSumGetSpec : ChangeSpec := { name := "fnSumGet", fn := fun _ => fun
  | [d1, d2] => { results := [.lit (.bool true)], args := [d1, d2] }
  | _ => none }
def fnSumGetRow : OpenClaim := { program := "ytnoilafoeaknjaagreat", sum := "e5e474529e9affc64fa37b63fd058eed329dbac3b63ba999de391b482d27bf5c", func := "loop.example/inkling/laws.FnSumGet", spec := "fnSumGet", unfollowed := true, recurses := true, apart := false }
def FnSumGetSaid : Prop := fnSumGetRow.holds Tryz.pinned (OpenSpec.ofChange fnSumGetSpec)

/-- ITS FALSE NEIGHBOUR: 'it returns false'. Refute it at one input. -/
def fnSumGetWrong : ChangeSpec := { name := "fnSumGet", fn := fun _ => fun
  | [d1, d2] => { results := [.lit (.bool false)], args := [d1, d2] }
  | _ => none }
def FnSumGetWrongFalsely : Prop := fnSumGetRow.holds Tryz.pinned (OpenSpec.ofChange fnSumGetWrong)

/-- 'laws.FnSumJoin': WHATEVER THE INPUT: true; the input reads as it did. -/
def fnSumJoinSpec : ChangeSpec := { name := "fnSumJoin", fn := fun _ => fun
  | [d] => { results := [.lit (.bool true)], args := [d] }
  | _ => none }
def fnSumJoinRow : OpenClaim := { program := "ytnoilafoeaknjaagreat", sum := "e5e474529e9affc64fa37b63fd058eed329dbac3b63ba999de391b482d27bf5c", func := "loop.example/inkling/laws.FnSumJoin", spec := "fnSumJoin", unfollowed := true, recurses := true, apart := false }
def FnSumJoinSaid : Prop := fnSumJoinRow.holds Tryz.pinned (OpenSpec.ofChange fnSumJoinSpec)

/-- ITS FALSE NEIGHBOUR: 'it returns false'. Refute it at one input. -/
def fnSumJoinWrong : ChangeSpec := { name := "fnSumJoin", fn := fun _ => fun
  | [d] => { results := [.lit (.bool false)], args := [d] }
  | _ => none }
def FnSumJoinWrongFalsely : Prop := fnSumJoinRow.holds Tryz.pinned (OpenSpec.ofChange fnSumJoinWrong)

/-- 'laws.FnSumJoinNew': WHATEVER THE INPUT: true; the input reads as it did. -/
def fnSumJoinNewSpec : ChangeSpec := { name := "fnSumJoinNew", fn := fun _ => fun
  | [d] => { results := [.lit (.bool true)], args := [d] }
  | _ => none }
def fnSumJoinNewRow : OpenClaim := { program := "ytnoilafoeaknjaagreat", sum := "e5e474529e9affc64fa37b63fd058eed329dbac3b63ba999de391b482d27bf5c", func := "loop.example/inkling/laws.FnSumJoinNew", spec := "fnSumJoinNew", unfollowed := true, recurses := true, apart := false }
def FnSumJoinNewSaid : Prop := fnSumJoinNewRow.holds Tryz.pinned (OpenSpec.ofChange fnSumJoinNewSpec)

/-- ITS FALSE NEIGHBOUR: 'it returns false'. Refute it at one input. -/
def fnSumJoinNewWrong : ChangeSpec := { name := "fnSumJoinNew", fn := fun _ => fun
  | [d] => { results := [.lit (.bool false)], args := [d] }
  | _ => none }
def FnSumJoinNewWrongFalsely : Prop := fnSumJoinNewRow.holds Tryz.pinned (OpenSpec.ofChange fnSumJoinNewWrong)

/-- 'laws.FnSumJoinList': WHATEVER THE INPUT: true; the input reads as it did. -/
def fnSumJoinListSpec : ChangeSpec := { name := "fnSumJoinList", fn := fun _ => fun
  | [d1, d2] => { results := [.lit (.bool true)], args := [d1, d2] }
  | _ => none }
def fnSumJoinListRow : OpenClaim := { program := "ytnoilafoeaknjaagreat", sum := "e5e474529e9affc64fa37b63fd058eed329dbac3b63ba999de391b482d27bf5c", func := "loop.example/inkling/laws.FnSumJoinList", spec := "fnSumJoinList", unfollowed := true, recurses := true, apart := false }
def FnSumJoinListSaid : Prop := fnSumJoinListRow.holds Tryz.pinned (OpenSpec.ofChange fnSumJoinListSpec)

/-- ITS FALSE NEIGHBOUR: 'it returns false'. Refute it at one input. -/
def fnSumJoinListWrong : ChangeSpec := { name := "fnSumJoinList", fn := fun _ => fun
  | [d1, d2] => { results := [.lit (.bool false)], args := [d1, d2] }
  | _ => none }
def FnSumJoinListWrongFalsely : Prop := fnSumJoinListRow.holds Tryz.pinned (OpenSpec.ofChange fnSumJoinListWrong)

/-- 'laws.FnSumJoinGet': WHATEVER THE INPUT: true; the input reads as it did. -/
def fnSumJoinGetSpec : ChangeSpec := { name := "fnSumJoinGet", fn := fun _ => fun
  | [d1, d2] => { results := [.lit (.bool true)], args := [d1, d2] }
  | _ => none }
def fnSumJoinGetRow : OpenClaim := { program := "ytnoilafoeaknjaagreat", sum := "e5e474529e9affc64fa37b63fd058eed329dbac3b63ba999de391b482d27bf5c", func := "loop.example/inkling/laws.FnSumJoinGet", spec := "fnSumJoinGet", unfollowed := true, recurses := true, apart := false }
def FnSumJoinGetSaid : Prop := fnSumJoinGetRow.holds Tryz.pinned (OpenSpec.ofChange fnSumJoinGetSpec)

/-- ITS FALSE NEIGHBOUR: 'it returns false'. Refute it at one input. -/
def fnSumJoinGetWrong : ChangeSpec := { name := "fnSumJoinGet", fn := fun _ => fun
  | [d1, d2] => { results := [.lit (.bool false)], args := [d1, d2] }
  | _ => none }
def FnSumJoinGetWrongFalsely : Prop := fnSumJoinGetRow.holds Tryz.pinned (OpenSpec.ofChange fnSumJoinGetWrong)

/-- 'laws.FnTopJoinHeavy': WHATEVER THE INPUT: true; the input reads as it did. -/
def fnTopJoinHeavySpec : ChangeSpec := { name := "fnTopJoinHeavy", fn := fun _ => fun
  | [d1, d2] => { results := [.lit (.bool true)], args := [d1, d2] }
  | _ => none }
def fnTopJoinHeavyRow : OpenClaim := { program := "ytnoilafoeaknjaagreat", sum := "e5e474529e9affc64fa37b63fd058eed329dbac3b63ba999de391b482d27bf5c", func := "loop.example/inkling/laws.FnTopJoinHeavy", spec := "fnTopJoinHeavy", unfollowed := true, recurses := true, apart := false }
def FnTopJoinHeavySaid : Prop := fnTopJoinHeavyRow.holds Tryz.pinned (OpenSpec.ofChange fnTopJoinHeavySpec)

/-- ITS FALSE NEIGHBOUR: 'it returns false'. Refute it at one input. -/
def fnTopJoinHeavyWrong : ChangeSpec := { name := "fnTopJoinHeavy", fn := fun _ => fun
  | [d1, d2] => { results := [.lit (.bool false)], args := [d1, d2] }
  | _ => none }
def FnTopJoinHeavyWrongFalsely : Prop := fnTopJoinHeavyRow.holds Tryz.pinned (OpenSpec.ofChange fnTopJoinHeavyWrong)

/-- 'laws.FnSumAddSwap': WHATEVER THE INPUT: true; the input reads as it did. -/
def fnSumAddSwapSpec : ChangeSpec := { name := "fnSumAddSwap", fn := fun _ => fun
  | [d1, d2] => { results := [.lit (.bool true)], args := [d1, d2] }
  | _ => none }
def fnSumAddSwapRow : OpenClaim := { program := "ytnoilafoeaknjaagreat", sum := "e5e474529e9affc64fa37b63fd058eed329dbac3b63ba999de391b482d27bf5c", func := "loop.example/inkling/laws.FnSumAddSwap", spec := "fnSumAddSwap", unfollowed := true, recurses := true, apart := false }
def FnSumAddSwapSaid : Prop := fnSumAddSwapRow.holds Tryz.pinned (OpenSpec.ofChange fnSumAddSwapSpec)

/-- ITS FALSE NEIGHBOUR: 'it returns false'. Refute it at one input. -/
def fnSumAddSwapWrong : ChangeSpec := { name := "fnSumAddSwap", fn := fun _ => fun
  | [d1, d2] => { results := [.lit (.bool false)], args := [d1, d2] }
  | _ => none }
def FnSumAddSwapWrongFalsely : Prop := fnSumAddSwapRow.holds Tryz.pinned (OpenSpec.ofChange fnSumAddSwapWrong)

/-- 'laws.FnExactSumAdd': WHATEVER THE INPUT: true; the input reads as it did. -/
def fnExactSumAddSpec : ChangeSpec := { name := "fnExactSumAdd", fn := fun _ => fun
  | [d1, d2] => { results := [.lit (.bool true)], args := [d1, d2] }
  | _ => none }
def fnExactSumAddRow : OpenClaim := { program := "ytnoilafoeaknjaagreat", sum := "e5e474529e9affc64fa37b63fd058eed329dbac3b63ba999de391b482d27bf5c", func := "loop.example/inkling/laws.FnExactSumAdd", spec := "fnExactSumAdd", unfollowed := true, recurses := true, apart := false }
def FnExactSumAddSaid : Prop := fnExactSumAddRow.holds Tryz.pinned (OpenSpec.ofChange fnExactSumAddSpec)

/-- ITS FALSE NEIGHBOUR: 'it returns false'. Refute it at one input. -/
def fnExactSumAddWrong : ChangeSpec := { name := "fnExactSumAdd", fn := fun _ => fun
  | [d1, d2] => { results := [.lit (.bool false)], args := [d1, d2] }
  | _ => none }
def FnExactSumAddWrongFalsely : Prop := fnExactSumAddRow.holds Tryz.pinned (OpenSpec.ofChange fnExactSumAddWrong)

/-- 'laws.FnExactSumOf': WHATEVER THE INPUT: true; the input reads as it did. -/
def fnExactSumOfSpec : ChangeSpec := { name := "fnExactSumOf", fn := fun _ => fun
  | [d] => { results := [.lit (.bool true)], args := [d] }
  | _ => none }
def fnExactSumOfRow : OpenClaim := { program := "ytnoilafoeaknjaagreat", sum := "e5e474529e9affc64fa37b63fd058eed329dbac3b63ba999de391b482d27bf5c", func := "loop.example/inkling/laws.FnExactSumOf", spec := "fnExactSumOf", unfollowed := true, recurses := true, apart := false }
def FnExactSumOfSaid : Prop := fnExactSumOfRow.holds Tryz.pinned (OpenSpec.ofChange fnExactSumOfSpec)

/-- ITS FALSE NEIGHBOUR: 'it returns false'. Refute it at one input. -/
def fnExactSumOfWrong : ChangeSpec := { name := "fnExactSumOf", fn := fun _ => fun
  | [d] => { results := [.lit (.bool false)], args := [d] }
  | _ => none }
def FnExactSumOfWrongFalsely : Prop := fnExactSumOfRow.holds Tryz.pinned (OpenSpec.ofChange fnExactSumOfWrong)

/-- 'laws.FnExactSumJoin': WHATEVER THE INPUT: true; the input reads as it did. -/
def fnExactSumJoinSpec : ChangeSpec := { name := "fnExactSumJoin", fn := fun _ => fun
  | [d1, d2] => { results := [.lit (.bool true)], args := [d1, d2] }
  | _ => none }
def fnExactSumJoinRow : OpenClaim := { program := "ytnoilafoeaknjaagreat", sum := "e5e474529e9affc64fa37b63fd058eed329dbac3b63ba999de391b482d27bf5c", func := "loop.example/inkling/laws.FnExactSumJoin", spec := "fnExactSumJoin", unfollowed := true, recurses := true, apart := false }
def FnExactSumJoinSaid : Prop := fnExactSumJoinRow.holds Tryz.pinned (OpenSpec.ofChange fnExactSumJoinSpec)

/-- ITS FALSE NEIGHBOUR: 'it returns false'. Refute it at one input. -/
def fnExactSumJoinWrong : ChangeSpec := { name := "fnExactSumJoin", fn := fun _ => fun
  | [d1, d2] => { results := [.lit (.bool false)], args := [d1, d2] }
  | _ => none }
def FnExactSumJoinWrongFalsely : Prop := fnExactSumJoinRow.holds Tryz.pinned (OpenSpec.ofChange fnExactSumJoinWrong)

/- THE SECOND FORM. 'bulk': how many values and letters a reading holds, each counted each time it is reached (what is shared counts as often as it is met; a slice's spare places count too). A statement '..UptoSaid' is the law's where the arguments, and the package variables that the reading takes, are together of bulk at most 1048576: NARROWER than '..Said'. Prove '..Said' where nothing that the law and all that it calls make is longer than what came in: it says more and counts as full. Else prove '..UptoSaid'. A law counts once. -/
mutual
def uptoBulk {H : Type} : DataW H → Nat
  | .lit (.string bytes) => bytes.length + 1
  | .lit _ => 1
  | .nil => 1
  | .ptr d => uptoBulk d + 1
  | .slice elems spare => uptoBulkAll elems + uptoBulkAll spare + 1
  | .agg parts => uptoBulkAll parts + 1
  | .iface _ d => uptoBulk d + 1
  | .map entries => uptoBulkEntries entries + 1
  | .held _ => 1
def uptoBulkAll {H : Type} : List (DataW H) → Nat
  | [] => 0
  | d :: r => uptoBulk d + uptoBulkAll r
def uptoBulkEntries {H : Type} : List (Lit × DataW H) → Nat
  | [] => 0
  | x :: r => uptoBulkEntry x + uptoBulkEntries r
def uptoBulkEntry {H : Type} : Lit × DataW H → Nat
  | (.string bytes, d) => bytes.length + uptoBulk d + 1
  | (_, d) => uptoBulk d + 1
 end
def uptoSmall : (H : Type) → List (DataW H) → Bool := fun _ ds => decide (uptoBulkAll ds ≤ 1048576)
def OpenSpec.upto (s : _root_.Go.ChangeSpec) : _root_.Go.OpenSpec := { _root_.Go.OpenSpec.ofChange s with cond := some uptoSmall }

/-- 'laws.FnRoughLeast', WHERE WHAT IT READS IS OF BULK AT MOST 1048576: true; the input reads as it did. -/
def fnRoughLeastUptoRow : OpenClaim := { program := "ytnoilafoeaknjaagreat", sum := "e5e474529e9affc64fa37b63fd058eed329dbac3b63ba999de391b482d27bf5c", func := "loop.example/inkling/laws.FnRoughLeast", spec := "fnRoughLeast", unfollowed := true, recurses := true, apart := false, narrowed := true }
def FnRoughLeastUptoSaid : Prop := fnRoughLeastUptoRow.holds Tryz.pinned (OpenSpec.upto fnRoughLeastSpec)

/-- 'laws.FnRoughMost', WHERE WHAT IT READS IS OF BULK AT MOST 1048576: true; the input reads as it did. -/
def fnRoughMostUptoRow : OpenClaim := { program := "ytnoilafoeaknjaagreat", sum := "e5e474529e9affc64fa37b63fd058eed329dbac3b63ba999de391b482d27bf5c", func := "loop.example/inkling/laws.FnRoughMost", spec := "fnRoughMost", unfollowed := true, recurses := true, apart := false, narrowed := true }
def FnRoughMostUptoSaid : Prop := fnRoughMostUptoRow.holds Tryz.pinned (OpenSpec.upto fnRoughMostSpec)

/-- 'laws.FnFewJust', WHERE WHAT IT READS IS OF BULK AT MOST 1048576: true; the input reads as it did. -/
def fnFewJustUptoRow : OpenClaim := { program := "ytnoilafoeaknjaagreat", sum := "e5e474529e9affc64fa37b63fd058eed329dbac3b63ba999de391b482d27bf5c", func := "loop.example/inkling/laws.FnFewJust", spec := "fnFewJust", unfollowed := true, recurses := true, apart := false, narrowed := true }
def FnFewJustUptoSaid : Prop := fnFewJustUptoRow.holds Tryz.pinned (OpenSpec.upto fnFewJustSpec)

/-- 'laws.FnFewHas', WHERE WHAT IT READS IS OF BULK AT MOST 1048576: true; the input reads as it did. -/
def fnFewHasUptoRow : OpenClaim := { program := "ytnoilafoeaknjaagreat", sum := "e5e474529e9affc64fa37b63fd058eed329dbac3b63ba999de391b482d27bf5c", func := "loop.example/inkling/laws.FnFewHas", spec := "fnFewHas", unfollowed := true, recurses := true, apart := false, narrowed := true }
def FnFewHasUptoSaid : Prop := fnFewHasUptoRow.holds Tryz.pinned (OpenSpec.upto fnFewHasSpec)

/-- 'laws.FnTopGet', WHERE WHAT IT READS IS OF BULK AT MOST 1048576: true; the input reads as it did. -/
def fnTopGetUptoRow : OpenClaim := { program := "ytnoilafoeaknjaagreat", sum := "e5e474529e9affc64fa37b63fd058eed329dbac3b63ba999de391b482d27bf5c", func := "loop.example/inkling/laws.FnTopGet", spec := "fnTopGet", unfollowed := true, recurses := true, apart := false, narrowed := true }
def FnTopGetUptoSaid : Prop := fnTopGetUptoRow.holds Tryz.pinned (OpenSpec.upto fnTopGetSpec)

/-- 'laws.FnTopLost', WHERE WHAT IT READS IS OF BULK AT MOST 1048576: true; the input reads as it did. -/
def fnTopLostUptoRow : OpenClaim := { program := "ytnoilafoeaknjaagreat", sum := "e5e474529e9affc64fa37b63fd058eed329dbac3b63ba999de391b482d27bf5c", func := "loop.example/inkling/laws.FnTopLost", spec := "fnTopLost", unfollowed := true, recurses := true, apart := false, narrowed := true }
def FnTopLostUptoSaid : Prop := fnTopLostUptoRow.holds Tryz.pinned (OpenSpec.upto fnTopLostSpec)

/-- 'laws.FnTopJoinGet', WHERE WHAT IT READS IS OF BULK AT MOST 1048576: true; the input reads as it did. -/
def fnTopJoinGetUptoRow : OpenClaim := { program := "ytnoilafoeaknjaagreat", sum := "e5e474529e9affc64fa37b63fd058eed329dbac3b63ba999de391b482d27bf5c", func := "loop.example/inkling/laws.FnTopJoinGet", spec := "fnTopJoinGet", unfollowed := true, recurses := true, apart := false, narrowed := true }
def FnTopJoinGetUptoSaid : Prop := fnTopJoinGetUptoRow.holds Tryz.pinned (OpenSpec.upto fnTopJoinGetSpec)

/-- 'laws.FnRankBelow', WHERE WHAT IT READS IS OF BULK AT MOST 1048576: true; the input reads as it did. -/
def fnRankBelowUptoRow : OpenClaim := { program := "ytnoilafoeaknjaagreat", sum := "e5e474529e9affc64fa37b63fd058eed329dbac3b63ba999de391b482d27bf5c", func := "loop.example/inkling/laws.FnRankBelow", spec := "fnRankBelow", unfollowed := true, recurses := true, apart := false, narrowed := true }
def FnRankBelowUptoSaid : Prop := fnRankBelowUptoRow.holds Tryz.pinned (OpenSpec.upto fnRankBelowSpec)

/-- 'laws.FnRankAtList', WHERE WHAT IT READS IS OF BULK AT MOST 1048576: true; the input reads as it did. -/
def fnRankAtListUptoRow : OpenClaim := { program := "ytnoilafoeaknjaagreat", sum := "e5e474529e9affc64fa37b63fd058eed329dbac3b63ba999de391b482d27bf5c", func := "loop.example/inkling/laws.FnRankAtList", spec := "fnRankAtList", unfollowed := true, recurses := true, apart := false, narrowed := true }
def FnRankAtListUptoSaid : Prop := fnRankAtListUptoRow.holds Tryz.pinned (OpenSpec.upto fnRankAtListSpec)

/-- 'laws.FnRankFew', WHERE WHAT IT READS IS OF BULK AT MOST 1048576: true; the input reads as it did. -/
def fnRankFewUptoRow : OpenClaim := { program := "ytnoilafoeaknjaagreat", sum := "e5e474529e9affc64fa37b63fd058eed329dbac3b63ba999de391b482d27bf5c", func := "loop.example/inkling/laws.FnRankFew", spec := "fnRankFew", unfollowed := true, recurses := true, apart := false, narrowed := true }
def FnRankFewUptoSaid : Prop := fnRankFewUptoRow.holds Tryz.pinned (OpenSpec.upto fnRankFewSpec)

/-- 'laws.FnRankJoinList', WHERE WHAT IT READS IS OF BULK AT MOST 1048576: true; the input reads as it did. -/
def fnRankJoinListUptoRow : OpenClaim := { program := "ytnoilafoeaknjaagreat", sum := "e5e474529e9affc64fa37b63fd058eed329dbac3b63ba999de391b482d27bf5c", func := "loop.example/inkling/laws.FnRankJoinList", spec := "fnRankJoinList", unfollowed := true, recurses := true, apart := false, narrowed := true }
def FnRankJoinListUptoSaid : Prop := fnRankJoinListUptoRow.holds Tryz.pinned (OpenSpec.upto fnRankJoinListSpec)

/-- 'laws.FnSumAdd', WHERE WHAT IT READS IS OF BULK AT MOST 1048576: true; the input reads as it did. -/
def fnSumAddUptoRow : OpenClaim := { program := "ytnoilafoeaknjaagreat", sum := "e5e474529e9affc64fa37b63fd058eed329dbac3b63ba999de391b482d27bf5c", func := "loop.example/inkling/laws.FnSumAdd", spec := "fnSumAdd", unfollowed := true, recurses := true, apart := false, narrowed := true }
def FnSumAddUptoSaid : Prop := fnSumAddUptoRow.holds Tryz.pinned (OpenSpec.upto fnSumAddSpec)

/-- 'laws.FnSumOf', WHERE WHAT IT READS IS OF BULK AT MOST 1048576: true; the input reads as it did. -/
def fnSumOfUptoRow : OpenClaim := { program := "ytnoilafoeaknjaagreat", sum := "e5e474529e9affc64fa37b63fd058eed329dbac3b63ba999de391b482d27bf5c", func := "loop.example/inkling/laws.FnSumOf", spec := "fnSumOf", unfollowed := true, recurses := true, apart := false, narrowed := true }
def FnSumOfUptoSaid : Prop := fnSumOfUptoRow.holds Tryz.pinned (OpenSpec.upto fnSumOfSpec)

/-- 'laws.FnSumOfCut', WHERE WHAT IT READS IS OF BULK AT MOST 1048576: true; the input reads as it did. -/
def fnSumOfCutUptoRow : OpenClaim := { program := "ytnoilafoeaknjaagreat", sum := "e5e474529e9affc64fa37b63fd058eed329dbac3b63ba999de391b482d27bf5c", func := "loop.example/inkling/laws.FnSumOfCut", spec := "fnSumOfCut", unfollowed := true, recurses := true, apart := false, narrowed := true }
def FnSumOfCutUptoSaid : Prop := fnSumOfCutUptoRow.holds Tryz.pinned (OpenSpec.upto fnSumOfCutSpec)

/-- 'laws.FnSumOfSwap', WHERE WHAT IT READS IS OF BULK AT MOST 1048576: true; the input reads as it did. -/
def fnSumOfSwapUptoRow : OpenClaim := { program := "ytnoilafoeaknjaagreat", sum := "e5e474529e9affc64fa37b63fd058eed329dbac3b63ba999de391b482d27bf5c", func := "loop.example/inkling/laws.FnSumOfSwap", spec := "fnSumOfSwap", unfollowed := true, recurses := true, apart := false, narrowed := true }
def FnSumOfSwapUptoSaid : Prop := fnSumOfSwapUptoRow.holds Tryz.pinned (OpenSpec.upto fnSumOfSwapSpec)

/-- 'laws.FnSumGet', WHERE WHAT IT READS IS OF BULK AT MOST 1048576: true; the input reads as it did. -/
def fnSumGetUptoRow : OpenClaim := { program := "ytnoilafoeaknjaagreat", sum := "e5e474529e9affc64fa37b63fd058eed329dbac3b63ba999de391b482d27bf5c", func := "loop.example/inkling/laws.FnSumGet", spec := "fnSumGet", unfollowed := true, recurses := true, apart := false, narrowed := true }
def FnSumGetUptoSaid : Prop := fnSumGetUptoRow.holds Tryz.pinned (OpenSpec.upto fnSumGetSpec)

/-- 'laws.FnSumJoin', WHERE WHAT IT READS IS OF BULK AT MOST 1048576: true; the input reads as it did. -/
def fnSumJoinUptoRow : OpenClaim := { program := "ytnoilafoeaknjaagreat", sum := "e5e474529e9affc64fa37b63fd058eed329dbac3b63ba999de391b482d27bf5c", func := "loop.example/inkling/laws.FnSumJoin", spec := "fnSumJoin", unfollowed := true, recurses := true, apart := false, narrowed := true }
def FnSumJoinUptoSaid : Prop := fnSumJoinUptoRow.holds Tryz.pinned (OpenSpec.upto fnSumJoinSpec)

/-- 'laws.FnSumJoinNew', WHERE WHAT IT READS IS OF BULK AT MOST 1048576: true; the input reads as it did. -/
def fnSumJoinNewUptoRow : OpenClaim := { program := "ytnoilafoeaknjaagreat", sum := "e5e474529e9affc64fa37b63fd058eed329dbac3b63ba999de391b482d27bf5c", func := "loop.example/inkling/laws.FnSumJoinNew", spec := "fnSumJoinNew", unfollowed := true, recurses := true, apart := false, narrowed := true }
def FnSumJoinNewUptoSaid : Prop := fnSumJoinNewUptoRow.holds Tryz.pinned (OpenSpec.upto fnSumJoinNewSpec)

/-- 'laws.FnSumJoinList', WHERE WHAT IT READS IS OF BULK AT MOST 1048576: true; the input reads as it did. -/
def fnSumJoinListUptoRow : OpenClaim := { program := "ytnoilafoeaknjaagreat", sum := "e5e474529e9affc64fa37b63fd058eed329dbac3b63ba999de391b482d27bf5c", func := "loop.example/inkling/laws.FnSumJoinList", spec := "fnSumJoinList", unfollowed := true, recurses := true, apart := false, narrowed := true }
def FnSumJoinListUptoSaid : Prop := fnSumJoinListUptoRow.holds Tryz.pinned (OpenSpec.upto fnSumJoinListSpec)

/-- 'laws.FnSumJoinGet', WHERE WHAT IT READS IS OF BULK AT MOST 1048576: true; the input reads as it did. -/
def fnSumJoinGetUptoRow : OpenClaim := { program := "ytnoilafoeaknjaagreat", sum := "e5e474529e9affc64fa37b63fd058eed329dbac3b63ba999de391b482d27bf5c", func := "loop.example/inkling/laws.FnSumJoinGet", spec := "fnSumJoinGet", unfollowed := true, recurses := true, apart := false, narrowed := true }
def FnSumJoinGetUptoSaid : Prop := fnSumJoinGetUptoRow.holds Tryz.pinned (OpenSpec.upto fnSumJoinGetSpec)

/-- 'laws.FnTopJoinHeavy', WHERE WHAT IT READS IS OF BULK AT MOST 1048576: true; the input reads as it did. -/
def fnTopJoinHeavyUptoRow : OpenClaim := { program := "ytnoilafoeaknjaagreat", sum := "e5e474529e9affc64fa37b63fd058eed329dbac3b63ba999de391b482d27bf5c", func := "loop.example/inkling/laws.FnTopJoinHeavy", spec := "fnTopJoinHeavy", unfollowed := true, recurses := true, apart := false, narrowed := true }
def FnTopJoinHeavyUptoSaid : Prop := fnTopJoinHeavyUptoRow.holds Tryz.pinned (OpenSpec.upto fnTopJoinHeavySpec)

/-- 'laws.FnSumAddSwap', WHERE WHAT IT READS IS OF BULK AT MOST 1048576: true; the input reads as it did. -/
def fnSumAddSwapUptoRow : OpenClaim := { program := "ytnoilafoeaknjaagreat", sum := "e5e474529e9affc64fa37b63fd058eed329dbac3b63ba999de391b482d27bf5c", func := "loop.example/inkling/laws.FnSumAddSwap", spec := "fnSumAddSwap", unfollowed := true, recurses := true, apart := false, narrowed := true }
def FnSumAddSwapUptoSaid : Prop := fnSumAddSwapUptoRow.holds Tryz.pinned (OpenSpec.upto fnSumAddSwapSpec)

/-- 'laws.FnExactSumAdd', WHERE WHAT IT READS IS OF BULK AT MOST 1048576: true; the input reads as it did. -/
def fnExactSumAddUptoRow : OpenClaim := { program := "ytnoilafoeaknjaagreat", sum := "e5e474529e9affc64fa37b63fd058eed329dbac3b63ba999de391b482d27bf5c", func := "loop.example/inkling/laws.FnExactSumAdd", spec := "fnExactSumAdd", unfollowed := true, recurses := true, apart := false, narrowed := true }
def FnExactSumAddUptoSaid : Prop := fnExactSumAddUptoRow.holds Tryz.pinned (OpenSpec.upto fnExactSumAddSpec)

/-- 'laws.FnExactSumOf', WHERE WHAT IT READS IS OF BULK AT MOST 1048576: true; the input reads as it did. -/
def fnExactSumOfUptoRow : OpenClaim := { program := "ytnoilafoeaknjaagreat", sum := "e5e474529e9affc64fa37b63fd058eed329dbac3b63ba999de391b482d27bf5c", func := "loop.example/inkling/laws.FnExactSumOf", spec := "fnExactSumOf", unfollowed := true, recurses := true, apart := false, narrowed := true }
def FnExactSumOfUptoSaid : Prop := fnExactSumOfUptoRow.holds Tryz.pinned (OpenSpec.upto fnExactSumOfSpec)

/-- 'laws.FnExactSumJoin', WHERE WHAT IT READS IS OF BULK AT MOST 1048576: true; the input reads as it did. -/
def fnExactSumJoinUptoRow : OpenClaim := { program := "ytnoilafoeaknjaagreat", sum := "e5e474529e9affc64fa37b63fd058eed329dbac3b63ba999de391b482d27bf5c", func := "loop.example/inkling/laws.FnExactSumJoin", spec := "fnExactSumJoin", unfollowed := true, recurses := true, apart := false, narrowed := true }
def FnExactSumJoinUptoSaid : Prop := fnExactSumJoinUptoRow.holds Tryz.pinned (OpenSpec.upto fnExactSumJoinSpec)

end Rows
end Go.Proofs.YtnoilafoeaknjaaGreat
