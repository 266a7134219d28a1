/-
  No cell of these rows narrows 'for every input' (looked for: loops, veiled, ifaces, maps, wideKeys, modest, calm, conditions, laid).
  DERIVED. THE GIVEN ROWS OF THIS SEAT. 8 by the template 'for every input the law returns true; each argument reads behind the call as it read before'; 0 by the template 'total and deterministic' (their statements: YtmlimjdmnonmpaaTotals.lean).
  GIVEN WITH THE SEED: the statements are not yours to turn. If you find one false, say at which input.
  Laid BY PROGRAM, IN A SANDBOX (cutbox-rows.mjs): the forced cells as the released guide's own fill.sh prints them over the translation df43dc9c060171be… (all of the seat's roots in one cut). By AI agents, Wed Nov 11 2026. No macro, syntax, notation, axiom, sorry.
-/
import Derived.Test.YtmlimjdmnonmpaaChecked
import GoSem.Claim
import GoSem.ClaimJoined
import GoSem.ClaimMapViews
import Derived.JoinedTies
import Derived.KernelRfl
namespace Go.Proofs.Ytmlimjdmnonmpaa
/- THE CELL 'sum', in the pinned program and in every row, IS THE sha256 OF THE DUMP (.gsa) THAT YtmlimjdmnonmpaaProg.lean LOADS. Nothing in Lean hashes anything: it is a label: what it is worth is what the hold of that sum in a sandbox is worth. -/
noncomputable def Try.pinned : Pinned := { name := "ytmlimjdmnonmpaa", sum := "df43dc9c060171be58fb28a04dac1ed1727f135d91bfd996508e6076d8244044", checked := Try.checked }
namespace Rows
def none {H : Type} : Left H := { results := [], args := [] }

/-- 'laws.FnTopOk': WHATEVER THE INPUT: true; the input reads as it did. -/
def fnTopOkSpec : ChangeSpec := { name := "fnTopOk", fn := fun _ => fun
  | [d] => { results := [.lit (.bool true)], args := [d] }
  | _ => none }
def fnTopOkRow : OpenClaim := { program := "ytmlimjdmnonmpaa", sum := "df43dc9c060171be58fb28a04dac1ed1727f135d91bfd996508e6076d8244044", func := "loop.example/inkling/laws.FnTopOk", spec := "fnTopOk", apart := false }
def FnTopOkSaid : Prop := fnTopOkRow.holds Try.pinned (OpenSpec.ofChange fnTopOkSpec)

/-- ITS FALSE NEIGHBOUR: 'it returns false'. Refute it at one input. -/
def fnTopOkWrong : ChangeSpec := { name := "fnTopOk", fn := fun _ => fun
  | [d] => { results := [.lit (.bool false)], args := [d] }
  | _ => none }
def FnTopOkWrongFalsely : Prop := fnTopOkRow.holds Try.pinned (OpenSpec.ofChange fnTopOkWrong)

/-- 'laws.FnTopAdd': WHATEVER THE INPUT: true; the input reads as it did. -/
def fnTopAddSpec : ChangeSpec := { name := "fnTopAdd", fn := fun _ => fun
  | [d] => { results := [.lit (.bool true)], args := [d] }
  | _ => none }
def fnTopAddRow : OpenClaim := { program := "ytmlimjdmnonmpaa", sum := "df43dc9c060171be58fb28a04dac1ed1727f135d91bfd996508e6076d8244044", func := "loop.example/inkling/laws.FnTopAdd", spec := "fnTopAdd", unfollowed := true, recurses := true, apart := false }
def FnTopAddSaid : Prop := fnTopAddRow.holds Try.pinned (OpenSpec.ofChange fnTopAddSpec)

/-- ITS FALSE NEIGHBOUR: 'it returns false'. Refute it at one input. -/
def fnTopAddWrong : ChangeSpec := { name := "fnTopAdd", fn := fun _ => fun
  | [d] => { results := [.lit (.bool false)], args := [d] }
  | _ => none }
def FnTopAddWrongFalsely : Prop := fnTopAddRow.holds Try.pinned (OpenSpec.ofChange fnTopAddWrong)

/-- 'laws.FnTopGetOne': WHATEVER THE INPUT: true; the input reads as it did. -/
def fnTopGetOneSpec : ChangeSpec := { name := "fnTopGetOne", fn := fun _ => fun
  | [d] => { results := [.lit (.bool true)], args := [d] }
  | _ => none }
def fnTopGetOneRow : OpenClaim := { program := "ytmlimjdmnonmpaa", sum := "df43dc9c060171be58fb28a04dac1ed1727f135d91bfd996508e6076d8244044", func := "loop.example/inkling/laws.FnTopGetOne", spec := "fnTopGetOne", apart := false }
def FnTopGetOneSaid : Prop := fnTopGetOneRow.holds Try.pinned (OpenSpec.ofChange fnTopGetOneSpec)

/-- ITS FALSE NEIGHBOUR: 'it returns false'. Refute it at one input. -/
def fnTopGetOneWrong : ChangeSpec := { name := "fnTopGetOne", fn := fun _ => fun
  | [d] => { results := [.lit (.bool false)], args := [d] }
  | _ => none }
def FnTopGetOneWrongFalsely : Prop := fnTopGetOneRow.holds Try.pinned (OpenSpec.ofChange fnTopGetOneWrong)

/-- 'laws.FnTopJoin': WHATEVER THE INPUT: true; the input reads as it did. -/
def fnTopJoinSpec : ChangeSpec := { name := "fnTopJoin", fn := fun _ => fun
  | [d] => { results := [.lit (.bool true)], args := [d] }
  | _ => none }
def fnTopJoinRow : OpenClaim := { program := "ytmlimjdmnonmpaa", sum := "df43dc9c060171be58fb28a04dac1ed1727f135d91bfd996508e6076d8244044", func := "loop.example/inkling/laws.FnTopJoin", spec := "fnTopJoin", unfollowed := true, recurses := true, apart := false }
def FnTopJoinSaid : Prop := fnTopJoinRow.holds Try.pinned (OpenSpec.ofChange fnTopJoinSpec)

/-- ITS FALSE NEIGHBOUR: 'it returns false'. Refute it at one input. -/
def fnTopJoinWrong : ChangeSpec := { name := "fnTopJoin", fn := fun _ => fun
  | [d] => { results := [.lit (.bool false)], args := [d] }
  | _ => none }
def FnTopJoinWrongFalsely : Prop := fnTopJoinRow.holds Try.pinned (OpenSpec.ofChange fnTopJoinWrong)

/-- 'laws.FnExactTopOk': WHATEVER THE INPUT: true; the input reads as it did. -/
def fnExactTopOkSpec : ChangeSpec := { name := "fnExactTopOk", fn := fun _ => fun
  | [d] => { results := [.lit (.bool true)], args := [d] }
  | _ => none }
def fnExactTopOkRow : OpenClaim := { program := "ytmlimjdmnonmpaa", sum := "df43dc9c060171be58fb28a04dac1ed1727f135d91bfd996508e6076d8244044", func := "loop.example/inkling/laws.FnExactTopOk", spec := "fnExactTopOk", apart := false }
def FnExactTopOkSaid : Prop := fnExactTopOkRow.holds Try.pinned (OpenSpec.ofChange fnExactTopOkSpec)

/-- ITS FALSE NEIGHBOUR: 'it returns false'. Refute it at one input. -/
def fnExactTopOkWrong : ChangeSpec := { name := "fnExactTopOk", fn := fun _ => fun
  | [d] => { results := [.lit (.bool false)], args := [d] }
  | _ => none }
def FnExactTopOkWrongFalsely : Prop := fnExactTopOkRow.holds Try.pinned (OpenSpec.ofChange fnExactTopOkWrong)

/-- 'laws.FnExactTopAdd': WHATEVER THE INPUT: true; the input reads as it did. -/
def fnExactTopAddSpec : ChangeSpec := { name := "fnExactTopAdd", fn := fun _ => fun
  | [d1, d2] => { results := [.lit (.bool true)], args := [d1, d2] }
  | _ => none }
def fnExactTopAddRow : OpenClaim := { program := "ytmlimjdmnonmpaa", sum := "df43dc9c060171be58fb28a04dac1ed1727f135d91bfd996508e6076d8244044", func := "loop.example/inkling/laws.FnExactTopAdd", spec := "fnExactTopAdd", unfollowed := true, recurses := true, apart := false }
def FnExactTopAddSaid : Prop := fnExactTopAddRow.holds Try.pinned (OpenSpec.ofChange fnExactTopAddSpec)

/-- ITS FALSE NEIGHBOUR: 'it returns false'. Refute it at one input. -/
def fnExactTopAddWrong : ChangeSpec := { name := "fnExactTopAdd", fn := fun _ => fun
  | [d1, d2] => { results := [.lit (.bool false)], args := [d1, d2] }
  | _ => none }
def FnExactTopAddWrongFalsely : Prop := fnExactTopAddRow.holds Try.pinned (OpenSpec.ofChange fnExactTopAddWrong)

/-- 'laws.FnExactTopGet': WHATEVER THE INPUT: true; the input reads as it did. -/
def fnExactTopGetSpec : ChangeSpec := { name := "fnExactTopGet", fn := fun _ => fun
  | [d1, d2] => { results := [.lit (.bool true)], args := [d1, d2] }
  | _ => none }
def fnExactTopGetRow : OpenClaim := { program := "ytmlimjdmnonmpaa", sum := "df43dc9c060171be58fb28a04dac1ed1727f135d91bfd996508e6076d8244044", func := "loop.example/inkling/laws.FnExactTopGet", spec := "fnExactTopGet", apart := false }
def FnExactTopGetSaid : Prop := fnExactTopGetRow.holds Try.pinned (OpenSpec.ofChange fnExactTopGetSpec)

/-- ITS FALSE NEIGHBOUR: 'it returns false'. Refute it at one input. -/
def fnExactTopGetWrong : ChangeSpec := { name := "fnExactTopGet", fn := fun _ => fun
  | [d1, d2] => { results := [.lit (.bool false)], args := [d1, d2] }
  | _ => none }
def FnExactTopGetWrongFalsely : Prop := fnExactTopGetRow.holds Try.pinned (OpenSpec.ofChange fnExactTopGetWrong)

/-- 'laws.FnExactTopJoin': WHATEVER THE INPUT: true; the input reads as it did. -/
def fnExactTopJoinSpec : ChangeSpec := { name := "fnExactTopJoin", fn := fun _ => fun
  | [d1, d2] => { results := [.lit (.bool true)], args := [d1, d2] }
  | _ => none }
def fnExactTopJoinRow : OpenClaim := { program := "ytmlimjdmnonmpaa", sum := "df43dc9c060171be58fb28a04dac1ed1727f135d91bfd996508e6076d8244044", func := "loop.example/inkling/laws.FnExactTopJoin", spec := "fnExactTopJoin", unfollowed := true, recurses := true, apart := false }
def FnExactTopJoinSaid : Prop := fnExactTopJoinRow.holds Try.pinned (OpenSpec.ofChange fnExactTopJoinSpec)

/-- ITS FALSE NEIGHBOUR: 'it returns false'. Refute it at one input. -/
def fnExactTopJoinWrong : ChangeSpec := { name := "fnExactTopJoin", fn := fun _ => fun
  | [d1, d2] => { results := [.lit (.bool false)], args := [d1, d2] }
  | _ => none }
def FnExactTopJoinWrongFalsely : Prop := fnExactTopJoinRow.holds Try.pinned (OpenSpec.ofChange fnExactTopJoinWrong)

/- THE SECOND FORM. 'bulk': how many values and letters a reading holds, each counted each time it is reached (what is shared counts as often as it is met; a slice's spare places count too). A statement '..UptoSaid' is the law's where the arguments, and the package variables that the reading takes, are together of bulk at most 1048576: NARROWER than '..Said'. Prove '..Said' where nothing that the law and all that it calls make is longer than what came in: it says more and counts as full. Else prove '..UptoSaid'. A law counts once. -/
mutual
def uptoBulk {H : Type} : DataW H → Nat
  | .lit (.string bytes) => bytes.length + 1
  | .lit _ => 1
  | .nil => 1
  | .ptr d => uptoBulk d + 1
  | .slice elems spare => uptoBulkAll elems + uptoBulkAll spare + 1
  | .agg parts => uptoBulkAll parts + 1
  | .iface _ d => uptoBulk d + 1
  | .map entries => uptoBulkEntries entries + 1
  | .held _ => 1
def uptoBulkAll {H : Type} : List (DataW H) → Nat
  | [] => 0
  | d :: r => uptoBulk d + uptoBulkAll r
def uptoBulkEntries {H : Type} : List (Lit × DataW H) → Nat
  | [] => 0
  | x :: r => uptoBulkEntry x + uptoBulkEntries r
def uptoBulkEntry {H : Type} : Lit × DataW H → Nat
  | (.string bytes, d) => bytes.length + uptoBulk d + 1
  | (_, d) => uptoBulk d + 1
 end
def uptoSmall : (H : Type) → List (DataW H) → Bool := fun _ ds => decide (uptoBulkAll ds ≤ 1048576)
def OpenSpec.upto (s : _root_.Go.ChangeSpec) : _root_.Go.OpenSpec := { _root_.Go.OpenSpec.ofChange s with cond := some uptoSmall }

/-- 'laws.FnTopOk', WHERE WHAT IT READS IS OF BULK AT MOST 1048576: true; the input reads as it did. -/
def fnTopOkUptoRow : OpenClaim := { program := "ytmlimjdmnonmpaa", sum := "df43dc9c060171be58fb28a04dac1ed1727f135d91bfd996508e6076d8244044", func := "loop.example/inkling/laws.FnTopOk", spec := "fnTopOk", apart := false, narrowed := true }
def FnTopOkUptoSaid : Prop := fnTopOkUptoRow.holds Try.pinned (OpenSpec.upto fnTopOkSpec)

/-- 'laws.FnTopAdd', WHERE WHAT IT READS IS OF BULK AT MOST 1048576: true; the input reads as it did. -/
def fnTopAddUptoRow : OpenClaim := { program := "ytmlimjdmnonmpaa", sum := "df43dc9c060171be58fb28a04dac1ed1727f135d91bfd996508e6076d8244044", func := "loop.example/inkling/laws.FnTopAdd", spec := "fnTopAdd", unfollowed := true, recurses := true, apart := false, narrowed := true }
def FnTopAddUptoSaid : Prop := fnTopAddUptoRow.holds Try.pinned (OpenSpec.upto fnTopAddSpec)

/-- 'laws.FnTopGetOne', WHERE WHAT IT READS IS OF BULK AT MOST 1048576: true; the input reads as it did. -/
def fnTopGetOneUptoRow : OpenClaim := { program := "ytmlimjdmnonmpaa", sum := "df43dc9c060171be58fb28a04dac1ed1727f135d91bfd996508e6076d8244044", func := "loop.example/inkling/laws.FnTopGetOne", spec := "fnTopGetOne", apart := false, narrowed := true }
def FnTopGetOneUptoSaid : Prop := fnTopGetOneUptoRow.holds Try.pinned (OpenSpec.upto fnTopGetOneSpec)

/-- 'laws.FnTopJoin', WHERE WHAT IT READS IS OF BULK AT MOST 1048576: true; the input reads as it did. -/
def fnTopJoinUptoRow : OpenClaim := { program := "ytmlimjdmnonmpaa", sum := "df43dc9c060171be58fb28a04dac1ed1727f135d91bfd996508e6076d8244044", func := "loop.example/inkling/laws.FnTopJoin", spec := "fnTopJoin", unfollowed := true, recurses := true, apart := false, narrowed := true }
def FnTopJoinUptoSaid : Prop := fnTopJoinUptoRow.holds Try.pinned (OpenSpec.upto fnTopJoinSpec)

/-- 'laws.FnExactTopOk', WHERE WHAT IT READS IS OF BULK AT MOST 1048576: true; the input reads as it did. -/
def fnExactTopOkUptoRow : OpenClaim := { program := "ytmlimjdmnonmpaa", sum := "df43dc9c060171be58fb28a04dac1ed1727f135d91bfd996508e6076d8244044", func := "loop.example/inkling/laws.FnExactTopOk", spec := "fnExactTopOk", apart := false, narrowed := true }
def FnExactTopOkUptoSaid : Prop := fnExactTopOkUptoRow.holds Try.pinned (OpenSpec.upto fnExactTopOkSpec)

/-- 'laws.FnExactTopAdd', WHERE WHAT IT READS IS OF BULK AT MOST 1048576: true; the input reads as it did. -/
def fnExactTopAddUptoRow : OpenClaim := { program := "ytmlimjdmnonmpaa", sum := "df43dc9c060171be58fb28a04dac1ed1727f135d91bfd996508e6076d8244044", func := "loop.example/inkling/laws.FnExactTopAdd", spec := "fnExactTopAdd", unfollowed := true, recurses := true, apart := false, narrowed := true }
def FnExactTopAddUptoSaid : Prop := fnExactTopAddUptoRow.holds Try.pinned (OpenSpec.upto fnExactTopAddSpec)

/-- 'laws.FnExactTopGet', WHERE WHAT IT READS IS OF BULK AT MOST 1048576: true; the input reads as it did. -/
def fnExactTopGetUptoRow : OpenClaim := { program := "ytmlimjdmnonmpaa", sum := "df43dc9c060171be58fb28a04dac1ed1727f135d91bfd996508e6076d8244044", func := "loop.example/inkling/laws.FnExactTopGet", spec := "fnExactTopGet", apart := false, narrowed := true }
def FnExactTopGetUptoSaid : Prop := fnExactTopGetUptoRow.holds Try.pinned (OpenSpec.upto fnExactTopGetSpec)

/-- 'laws.FnExactTopJoin', WHERE WHAT IT READS IS OF BULK AT MOST 1048576: true; the input reads as it did. -/
def fnExactTopJoinUptoRow : OpenClaim := { program := "ytmlimjdmnonmpaa", sum := "df43dc9c060171be58fb28a04dac1ed1727f135d91bfd996508e6076d8244044", func := "loop.example/inkling/laws.FnExactTopJoin", spec := "fnExactTopJoin", unfollowed := true, recurses := true, apart := false, narrowed := true }
def FnExactTopJoinUptoSaid : Prop := fnExactTopJoinUptoRow.holds Try.pinned (OpenSpec.upto fnExactTopJoinSpec)

end Rows
end Go.Proofs.Ytmlimjdmnonmpaa
