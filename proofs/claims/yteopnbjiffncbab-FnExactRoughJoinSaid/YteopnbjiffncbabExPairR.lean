/-
  What a call of two turned arguments leaves, over rows: a box with the rows that it made, and an answer.
-/
import Derived.Test.YteopnbjiffncbabExRR
namespace Go.Proofs.Yteopnbjiffncbab
open Go.RowKit Go.Sort

theorem OwnRR.setBox {W : World} {B T P : Nat} {v u : Value} {t : TypeId} {rs : List (List Int)} (h : OwnRR W B T v rs) (X : Go.Boxed W P t u) (h1 : t ≠ 3) (h2 : t ≠ 41) (u' : Value) : OwnRR (W.setCell ⟨P, 0, none⟩ u') B T v rs := by
  obtain ⟨G, C, h, a, b, c⟩ := h
  have hk : KeptB (fun k => k = P) W (W.setCell ⟨P, 0, none⟩ u') := KeptB.of_grown (grownBy_setCell W ⟨P, 0, none⟩ u') rfl
  exact ⟨G, C, ⟨ownsRow_keptB h.hdr hk (fun k e q => X.not_row h2 h.hdr (by rw [e, q])), fun i hi => ownsRow_keptB (h.row i hi) hk (fun k e q => X.not_row h1 (h.row i hi) (by rw [e, q])), h.off, h.apart⟩, a, b, by simpa using c⟩

def MadeRR (W : World) (A : List (List Int)) (ok : Bool) (sp sb : Value) (wx : World) : Prop :=
  ∃ P xs cs B T, sp = .pointer (some ⟨P, 0, none⟩) ∧ sb = .bool ok ∧ Below W.heap.size W wx ∧ W.heap.size ≤ B ∧ OwnRR wx B T (.slice xs A.length cs) A ∧ Go.Boxed wx P 24 (.slice xs A.length cs)

/-- The box was made last. -/
theorem MadeRR.last {W wc : World} {A : List (List Int)} {ok : Bool} {B T cs : Nat} {xs : Option Addr} (h : Below W.heap.size W wc) (hB : W.heap.size ≤ B) (ho : OwnRR wc B T (.slice xs A.length cs) A) :
    MadeRR W A ok (.pointer (some ⟨wc.heap.size, 0, none⟩)) (.bool ok) (wc.alloc (.cells #[.slice xs A.length cs] 24)) :=
  ⟨_, _, _, _, _, rfl, rfl, h.alloc h.size _, hB, ho.alloc _, Go.Boxed.new _ _ _⟩
/-- The box was there, and is written into. -/
theorem MadeRR.stored {W wc : World} {A : List (List Int)} {ok : Bool} {B T cs P : Nat} {xs : Option Addr} {v : Value} (h : Below W.heap.size W wc) (hB : W.heap.size ≤ B) (ho : OwnRR wc B T (.slice xs A.length cs) A) (hP : W.heap.size ≤ P) (hX : Go.Boxed wc P 24 v) :
    MadeRR W A ok (.pointer (some ⟨P, 0, none⟩)) (.bool ok) (wc.setCell ⟨P, 0, none⟩ (.slice xs A.length cs)) :=
  ⟨_, _, _, _, _, rfl, rfl, h.setCell hP _, hB, ho.setBox hX (by decide) (by decide) _, hX.set _⟩

end Go.Proofs.Yteopnbjiffncbab
