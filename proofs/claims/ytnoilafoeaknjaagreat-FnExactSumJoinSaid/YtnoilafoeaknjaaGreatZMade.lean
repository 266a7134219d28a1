/-
  What a region leaves that calls for a sum, from other calls' answers, and lays it in a box of its own.
-/
import Derived.Test.YtnoilafoeaknjaaGreatZOwn
set_option linter.unusedVariables false
namespace Go.Proofs.YtnoilafoeaknjaaGreat
open Go.RowKit Go.Sort

def MadeS (W : World) (s : Sm) (ok : Bool) (sp sb : Value) (wx : World) : Prop := ∃ P V, sp = .pointer (some ⟨P, 0, none⟩) ∧ sb = .bool ok ∧ Got W wx P V s
/-- The box was made last. -/
theorem MadeS.last {W wc : World} {s : Sm} {ok : Bool} {B : Nat} {V : SV} (h : Below W.heap.size W wc) (hB : W.heap.size ≤ B) (ho : OwnS wc B wc.heap.size V s) :
    MadeS W s ok (.pointer (some ⟨wc.heap.size, 0, none⟩)) (.bool ok) (wc.alloc (.cells #[.slice V.xr V.nr V.cr, .slice V.xf V.nf V.cf, .slice V.xt V.nt V.ct, .int .i64 s.lo, .int .i64 s.al, .slice V.xk V.nk V.ck, .int .i64 s.ka] 39)) :=
  ⟨_, V, rfl, rfl, Got.last h ho hB⟩
/-- The box was there, and is written into. -/
theorem MadeS.stored {W wc : World} {s : Sm} {ok : Bool} {B P : Nat} {V : SV} {x0 x1 x2 x3 x4 x5 x6 : Value} (h : Below W.heap.size W wc) (hB : W.heap.size ≤ B) (ho : OwnS wc B wc.heap.size V s) (hP : W.heap.size ≤ P) (X : Box7 wc P 39 x0 x1 x2 x3 x4 x5 x6) :
    MadeS W s ok (.pointer (some ⟨P, 0, none⟩)) (.bool ok) (set7 wc P (.slice V.xr V.nr V.cr) (.slice V.xf V.nf V.cf) (.slice V.xt V.nt V.ct) (.int .i64 s.lo) (.int .i64 s.al) (.slice V.xk V.nk V.ck) (.int .i64 s.ka)) :=
  ⟨P, V, rfl, rfl, Got.stored h ho hB X hP⟩

end Go.Proofs.YtnoilafoeaknjaaGreat
