/-
  What the deeds' laws share: a deed that comes in, its copy.
-/
import Derived.Test.YtbnggcgojbkoaaaDoorNDeB
import Derived.Test.YtbnggcgojbkoaaaDoorNDeD
import Derived.OpenShut
import Derived.Lib.SmallJoins
import Derived.Deep.Slices
import Derived.Deep.Fields
import Derived.ChangeSame
import Derived.Carry
set_option linter.unusedVariables false
set_option linter.unusedSectionVars false
set_option linter.unusedSimpArgs false
namespace Go.Proofs.YtbnggcgojbkoaaaDoor
open Go.RowKit Go.ChangeShapes Go.WideShapes Go.ChangeAt Go.Deep Go.Joins
set_option maxRecDepth 100000 in
theorem open_deed {H : Type} {enc : TypeId × Value → H} {w : World} {r : Reach} {b0 : Nat} {v : Value} {d : DataW H} {p : List MemPlace} (hv : Value.okWide Tryd.prog w r b0 32 v)
    (h : DataW.Trod enc Tryd.prog w 0 (fun _ => true) true 32 v d p) : ∃ a b c, v = .agg #[.int .i64 a, .int .i64 b, .int .i64 c] := by
  obtain ⟨v0, v1, v2, y0, y1, y2, n, rfl, _, _, h0, h1, h2⟩ := open_agg3 Tryd.underlying32 (by kernel_rfl) (by kernel_rfl) hv h
  obtain ⟨a, e0, _⟩ := DataW.trod_int Tryd.underlying3 h0
  obtain ⟨b, e1, _⟩ := DataW.trod_int Tryd.underlying3 h1
  obtain ⟨c, e2, _⟩ := DataW.trod_int Tryd.underlying3 h2
  simp at e0 e1 e2
  exact ⟨a, b, c, by rw [e0, e1, e2]⟩
namespace N
section
variable {B p : Nat} {w0 w : World} {l : List Ch}
set_option maxRecDepth 100000 in
theorem toDeed_at (h : M B w0 w l) (a b c : Int) : Calls Tryd.prog 14 #[.agg #[.int .i64 a, .int .i64 b, .int .i64 c]] w fun e w' => e = .returned (.agg #[.int .i64 a, .int .i64 b, .int .i64 c]) ∧ M B w0 w' l := by
  have h1 := h.alloc #[.int .i64 a, .int .i64 b, .int .i64 c] 32
  have h2 := h1.alloc #[.int .i64 a, .int .i64 b, .int .i64 c] 24
  have h3 := h2.alloc #[.int .i64 a, .int .i64 b, .int .i64 c] 24
  go_enter Tryd.func14, Tryd.ntmps14
  go_wp2
  obtain ⟨d0, d1, d2⟩ := h3.p1.cells3
  simp only [World.size_alloc] at d0 d1 d2
  refine bodyPost_ret (v := .agg #[.int .i64 a, .int .i64 b, .int .i64 c]) (by simp [results, Tryd.results14, go_sem, d0, d1, d2]) rfl ⟨rfl, h3.drop.drop.drop⟩
end
end N
end Go.Proofs.YtbnggcgojbkoaaaDoor
