/-
  An array of numbers in a block of its own: by place, and whole.
-/
import Derived.Test.YtnpcgbjkahpcfaaKInts
import Derived.Deep.WholeRow
import Derived.Deep.MidRow
import Derived.Laws.ResultCell
namespace Go.Proofs.Ytnpcgbjkahpcfaa
open Go.RowKit Go.Sort

def arrC (N : List Int) : Array Value := (ints N).toArray
theorem arrC_size (N : List Int) : (arrC N).size = N.length := by simp [arrC, ints]
theorem arr_info : (Try.prog.info? 68).map (fun i => (i.zero, i.size)) = some (some (.agg (arrC (List.replicate 128 0))), 128) := by kernel_rfl
theorem arr_size : (Try.prog.info? 68).map (·.size) = some 128 := (zero_of_info arr_info).2
theorem arr_zero (w : World) : (zeroValue 68).run Try.prog w = .ok (.agg (arrC (List.replicate 128 0))) w := (zero_of_info arr_info).1 w
/-- Block b is the array N. -/
def ArrI (W : World) (b : Nat) (N : List Int) : Prop := N.length = 128 ∧ W.heap[b]? = some (.cells (arrC N) 68 (0, 0))
section
variable {W W' : World} {b : Nat} {N : List Int}
theorem ArrI.lt (h : ArrI W b N) : b < W.heap.size := (Array.getElem?_eq_some_iff.1 h.2).1
theorem ArrI.new (W : World) (N : List Int) (hl : N.length = 128) : ArrI (W.alloc (.cells (arrC N) 68)) W.heap.size N := ⟨hl, heap_alloc_new W _⟩
theorem ArrI.below (h : ArrI W b N) {B : Nat} (hb : Below B W W') (hB : b < B) : ArrI W' b N := ⟨h.1, (hb.block b hB).trans h.2⟩
theorem ArrI.later (h : ArrI W b N) (hb : Below W.heap.size W W') : ArrI W' b N := h.below hb h.lt
theorem ArrI.drew (h : ArrI W b N) : ArrI W.drew b N := h
theorem ArrI.drewN (h : ArrI W b N) (n : Nat) : ArrI (W.drewN n) b N := h
theorem ArrI.alloc (h : ArrI W b N) (o : Obj) : ArrI (W.alloc o) b N := h.later ((Below.refl _ _).alloc (Nat.le_refl _) o)
theorem ArrI.kept {row : Option Nat} (h : ArrI W b N) (hg : W.grownBy W' row) (hr : row ≠ some b) : ArrI W' b N := ⟨h.1, (hg.block b h.lt (fun e => hr e.symm)).trans h.2⟩
theorem ArrI.cell (h : ArrI W b N) {i : Nat} (hi : i < 128) : W.cell? ⟨b, i, none⟩ = some (.int .i64 (N.getD i 0)) := by
  rw [cell_of_row W b i _ _ _ h.2]
  unfold arrC
  rw [List.getElem?_toArray]
  exact ints_get N i (by rw [h.1]; exact hi)
theorem ArrI.free (h : ArrI W b N) (i : Nat) : W.frozen? ⟨b, i, none⟩ = false := by simp [World.frozen?, h.2]
theorem ArrI.set (h : ArrI W b N) (i : Nat) (x : Int) : ArrI (W.setCell ⟨b, i, none⟩ (.int .i64 x)) b (N.set i x) := by
  refine ⟨by simpa using h.1, ?_⟩
  rw [heap_setCell_same W b i _ _ _ h.2]
  unfold arrC
  simp [ints, List.map_set]
theorem ArrI.grown (W : World) (b i : Nat) (x : Value) : W.grownBy (W.setCell ⟨b, i, none⟩ x) (some b) := grownBy_setCell W ⟨b, i, none⟩ x
theorem ArrI.loadVar (h : ArrI W b N) : (loadVar 68 ⟨b, 0, none⟩).run Try.prog W = .ok (.agg (arrC N)) W :=
  run_loadVar_row W b _ _ _ _ _ h.2 Try.underlying68 rfl (by rw [arrC_size, h.1]; exact arr_size)
theorem ArrI.load (h : ArrI W b N) : (Instr.loadAt 68 (.pointer (some ⟨b, 0, none⟩))).run Try.prog W = .ok (.agg (arrC N)) W := by
  simp only [Instr.loadAt, Instr.sureAddr, Sem.run_bind, Sem.run_pure, Result.andThen]
  exact run_loadVar_row W b _ _ _ _ _ h.2 Try.underlying68 rfl (by rw [arrC_size, h.1]; exact arr_size)
theorem ArrI.not_row {B : Nat} {e : TypeId} {size n : Nat} {v : Value} {xs : List Value} (h : ArrI W b N) (ht : 68 ≠ e) (ho : W.ownsRow B e size v n xs) : v.ownBlock ≠ some b := fun hb => by
  rcases ho.2 with ⟨rfl, _⟩ | ⟨g, cap, cur, rfl, _, hg, _⟩
  · cases hb
  · obtain rfl : g = b := by simpa [Value.ownBlock] using hb
    rw [h.2] at hg
    cases hg
    exact ht rfl
end
theorem arrC_one (N : List Int) : (arrC N).all (·.oneCell') = true := by
  unfold arrC
  exact all_oneCell_toArray (fun v hv => by
    unfold ints at hv
    obtain ⟨z, _, rfl⟩ := List.mem_map.1 hv
    rfl)

section
variable {ops : Array Oper} {rest : List Oper} {o : Oper} {a : Act} {w : World} {Q : Exit → Act → World → Prop}
/-- A whole array into a new block. -/
theorem wpList_box_arr (hgd : o.guard = none) (x : Operand) (ho : o.op = .box 68 x) (N : List Int) (hx : a.eval x = .agg (arrC N))
    (h : wpList Try.prog ops Q rest (a.put o.dst (.pointer (some ⟨w.heap.size, 0, none⟩))) (w.alloc (.cells (arrC N) 68))) : wpList Try.prog ops Q (o :: rest) a w := by
  refine wpList_plain hgd fun K hK => ?_
  unfold Oper.wp execOp
  simp only [ho, hx, Instr.box, newVar, Value.cells, Sem.run_bind, Sem.run_pure]
  exact hK _ _ h
/-- A new array of nothing. -/
theorem wpList_alloc_arr (hgd : o.guard = none) (ho : o.op = .alloc 68)
    (h : wpList Try.prog ops Q rest (a.put o.dst (.pointer (some ⟨w.heap.size, 0, none⟩))) (w.alloc (.cells (arrC (List.replicate 128 0)) 68))) : wpList Try.prog ops Q (o :: rest) a w := by
  refine wpList_plain hgd fun K hK => ?_
  unfold Oper.wp execOp
  simp only [ho, Instr.alloc, newVar, Value.cells, Sem.run_bind, Sem.run_pure, Result.andThen_ok, arr_zero]
  exact hK _ _ h
/-- A whole array out of its block. -/
theorem wpList_load_arr (hgd : o.guard = none) (x : Operand) (ho : o.op = .load 68 x) (b : Nat) (N : List Int) (hx : a.eval x = .pointer (some ⟨b, 0, none⟩)) (hA : ArrI w b N)
    (h : wpList Try.prog ops Q rest (a.put o.dst (.agg (arrC N))) w) : wpList Try.prog ops Q (o :: rest) a w := by
  refine wpList_plain hgd fun K hK => ?_
  have hl := hA.load
  unfold Oper.wp execOp
  simp only [ho, hx, Sem.run_bind, Sem.run_pure, hl, Result.andThen_ok]
  exact hK _ _ h
/-- One of an array's numbers. -/
theorem wpList_index_arr (hgd : o.guard = none) (x y : Operand) (ho : o.op = .index 68 x y) (N : List Int) (k : Nat) (hx : a.eval x = .agg (arrC N)) (hy : a.eval y = .int .i64 (k : Int)) (hl : N.length = 128) (hk : k < 128)
    (h : wpList Try.prog ops Q rest (a.put o.dst (.int .i64 (N.getD k 0))) w) : wpList Try.prog ops Q (o :: rest) a w := by
  refine wpList_plain hgd fun K hK => ?_
  have hg : (arrC N)[k]? = some (.int .i64 (N.getD k 0)) := by unfold arrC; rw [List.getElem?_toArray]; exact ints_get N k (by omega)
  have hr : (Instr.index 68 (.agg (arrC N)) (.int .i64 (k : Int))).run Try.prog w = .ok (.int .i64 (N.getD k 0)) w := by
    have h1 : (0 : Int) ≤ (k : Int) ∧ (k : Int) < (128 : Nat) := by omega
    unfold Instr.index
    simp only [asIntOf, Sem.run_bind, Sem.run_pure, Result.andThen_ok, run_underlying Try.underlying68, if_pos h1]
    have hz : (sizeOf 3).run Try.prog w = .ok 1 w := by
      cases hq : Try.prog.info? 3 with
      | none => have := int_info; simp [hq] at this
      | some i => have := int_info; simp [hq] at this; simp [sizeOf, typeInfo, hq, this]
    simp [part, hz, hg]
  unfold Oper.wp execOp
  simp only [ho, hx, hy, Sem.run_bind, Sem.run_pure, hr, Result.andThen_ok]
  exact hK _ _ h
/-- A whole array into a block that is one. -/
theorem wpList_store_arr (hgd : o.guard = none) (x y : Operand) (ho : o.op = .store 68 x y) (b : Nat) (M N : List Int) (hx : a.eval x = .pointer (some ⟨b, 0, none⟩)) (hy : a.eval y = .agg (arrC N)) (hA : ArrI w b M) (hl : N.length = 128)
    (h : wpList Try.prog ops Q rest (a.put o.dst undef) (w.setRow b (arrC N))) : wpList Try.prog ops Q (o :: rest) a w := by
  refine wpList_plain hgd fun K hK => ?_
  have hs := run_storeVar_row (P := Try.prog) w b 68 68 (arrC M) (arrC N) hA.2 (by rw [arrC_size, hl]; exact arr_size) (by rw [arrC_size, arrC_size, hA.1, hl]) (arrC_one N)
  unfold Oper.wp execOp
  simp only [ho, hx, hy, Instr.storeAt, Instr.sureAddr, Sem.run_bind, Sem.run_pure, Result.andThen_ok, hs]
  exact hK _ _ h
end
theorem ArrI.setRow {W : World} {b : Nat} {M N : List Int} (h : ArrI W b M) (hl : N.length = 128) : ArrI (W.setRow b (arrC N)) b N := ⟨hl, setRow_heap W b _ _ _ _ h.2⟩
theorem grownBy_setRow (W : World) (b : Nat) (c : Array Value) : W.grownBy (W.setRow b c) (some b) := ⟨rfl, rfl, rfl, by simp, fun k _ hk => setRow_other W b k c (fun e => hk (by rw [e]))⟩

end Go.Proofs.Ytnpcgbjkahpcfaa
