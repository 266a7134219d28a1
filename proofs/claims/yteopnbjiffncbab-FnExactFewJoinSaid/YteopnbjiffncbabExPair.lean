/-
  What a call of two turned arguments leaves: a box with the marks that it made, and an answer.
-/
import Derived.Test.YteopnbjiffncbabExMark
namespace Go.Proofs.Yteopnbjiffncbab
open Go.RowKit Go.Sort

def MadeFew (W : World) (A : List Int) (ok : Bool) (sp sb : Value) (wx : World) : Prop :=
  ∃ P xs cs B, sp = .pointer (some ⟨P, 0, none⟩) ∧ sb = .bool ok ∧ Below W.heap.size W wx ∧ W.heap.size ≤ B ∧ OwnI wx B (.slice xs A.length cs) A ∧ Go.Boxed wx P 46 (.slice xs A.length cs)

/-- The box was made last. -/
theorem MadeFew.last {W wc : World} {A : List Int} {ok : Bool} {B cs : Nat} {xs : Option Addr} (h : Below W.heap.size W wc) (hB : W.heap.size ≤ B) (ho : OwnI wc B (.slice xs A.length cs) A) :
    MadeFew W A ok (.pointer (some ⟨wc.heap.size, 0, none⟩)) (.bool ok) (wc.alloc (.cells #[.slice xs A.length cs] 46)) :=
  ⟨_, _, _, _, rfl, rfl, h.alloc h.size _, hB, ho.alloc _, Go.Boxed.new _ _ _⟩
/-- The box was there, and is written into. -/
theorem MadeFew.stored {W wc : World} {A : List Int} {ok : Bool} {B cs P : Nat} {xs : Option Addr} {v : Value} (h : Below W.heap.size W wc) (hB : W.heap.size ≤ B) (ho : OwnI wc B (.slice xs A.length cs) A) (hP : W.heap.size ≤ P) (hX : Go.Boxed wc P 46 v) :
    MadeFew W A ok (.pointer (some ⟨P, 0, none⟩)) (.bool ok) (wc.setCell ⟨P, 0, none⟩ (.slice xs A.length cs)) :=
  ⟨_, _, _, _, rfl, rfl, h.setCell hP _, hB, ho.keep (grownBy_setCell wc ⟨P, 0, none⟩ _) (Ne.symm (hX.not_row (by decide) ho)), hX.set _⟩

end Go.Proofs.Yteopnbjiffncbab
