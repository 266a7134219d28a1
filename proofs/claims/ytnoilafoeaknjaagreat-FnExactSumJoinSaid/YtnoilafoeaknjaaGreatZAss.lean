/-
  The type switch's asks.
-/
import Derived.Test.YtnoilafoeaknjaaGreatZImOne
set_option linter.unusedVariables false
namespace Go.Proofs.YtnoilafoeaknjaaGreat
open Go.RowKit Go.Sort

theorem ask_R (v : Value) (w : World) : (Instr.typeAssert (.iface 27 v) 136 27 true).run Tryz.prog w = .ok (.tuple #[v, .bool true]) w := by kernel_rfl
theorem ask_F (v : Value) (w : World) : (Instr.typeAssert (.iface 31 v) 136 27 true).run Tryz.prog w = .ok (.tuple #[.agg #[.slice none 0 0], .bool false]) w ∧
    (Instr.typeAssert (.iface 31 v) 136 31 true).run Tryz.prog w = .ok (.tuple #[v, .bool true]) w := ⟨by kernel_rfl, by kernel_rfl⟩
theorem ask_T (v : Value) (w : World) : (Instr.typeAssert (.iface 34 v) 136 27 true).run Tryz.prog w = .ok (.tuple #[.agg #[.slice none 0 0], .bool false]) w ∧
    (Instr.typeAssert (.iface 34 v) 136 31 true).run Tryz.prog w = .ok (.tuple #[.agg #[.slice none 0 0], .bool false]) w ∧
    (Instr.typeAssert (.iface 34 v) 136 34 true).run Tryz.prog w = .ok (.tuple #[v, .bool true]) w := ⟨by kernel_rfl, by kernel_rfl, by kernel_rfl⟩
theorem ask_K (v : Value) (w : World) : (Instr.typeAssert (.iface 37 v) 136 27 true).run Tryz.prog w = .ok (.tuple #[.agg #[.slice none 0 0], .bool false]) w ∧
    (Instr.typeAssert (.iface 37 v) 136 31 true).run Tryz.prog w = .ok (.tuple #[.agg #[.slice none 0 0], .bool false]) w ∧
    (Instr.typeAssert (.iface 37 v) 136 34 true).run Tryz.prog w = .ok (.tuple #[.agg #[.slice none 0 0, .int .i64 0, .int .i64 0], .bool false]) w ∧
    (Instr.typeAssert (.iface 37 v) 136 37 true).run Tryz.prog w = .ok (.tuple #[v, .bool true]) w := ⟨by kernel_rfl, by kernel_rfl, by kernel_rfl, by kernel_rfl⟩

end Go.Proofs.YtnoilafoeaknjaaGreat
