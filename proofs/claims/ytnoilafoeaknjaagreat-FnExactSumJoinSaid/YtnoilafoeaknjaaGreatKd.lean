/-
  Several texts in one: KArr, KOf, KQue, KSqueezed, KConc.
-/
import Derived.Test.YtnoilafoeaknjaaGreatKa
import Derived.Deep.WholeRow
import Derived.Deep.MidRow
import Derived.Laws.ResultCell
import Derived.Deep.Cut
import Derived.ArgAppend
import Derived.Test.YtnoilafoeaknjaaGreatKb
import Derived.Test.YtnoilafoeaknjaaGreatKc
import Derived.Lib.AppendZerosOnto
import Derived.Lib.SliceRun
import Derived.Lib.Walk
import Derived.Laws.AppendOwnNone
set_option linter.unusedVariables false
/-
  An array of numbers in a block of its own: by place, and whole.
-/
namespace Go.Proofs.YtnoilafoeaknjaaGreat.K
open Go.RowKit Go.Sort

def arrC (N : List Int) : Array Value := (ints N).toArray
theorem arrC_size (N : List Int) : (arrC N).size = N.length := by simp [arrC, ints]
theorem arr_info : (Tryz.prog.info? 125).map (fun i => (i.zero, i.size)) = some (some (.agg (arrC (List.replicate 128 0))), 128) := by kernel_rfl
theorem arr_size : (Tryz.prog.info? 125).map (·.size) = some 128 := (zero_of_info arr_info).2
theorem arr_zero (w : World) : (zeroValue 125).run Tryz.prog w = .ok (.agg (arrC (List.replicate 128 0))) w := (zero_of_info arr_info).1 w
/-- Block b is the array N. -/
def ArrI (W : World) (b : Nat) (N : List Int) : Prop := N.length = 128 ∧ W.heap[b]? = some (.cells (arrC N) 125 (0, 0))
section
variable {W W' : World} {b : Nat} {N : List Int}
theorem ArrI.lt (h : ArrI W b N) : b < W.heap.size := (Array.getElem?_eq_some_iff.1 h.2).1
theorem ArrI.new (W : World) (N : List Int) (hl : N.length = 128) : ArrI (W.alloc (.cells (arrC N) 125)) W.heap.size N := ⟨hl, heap_alloc_new W _⟩
theorem ArrI.below (h : ArrI W b N) {B : Nat} (hb : Below B W W') (hB : b < B) : ArrI W' b N := ⟨h.1, (hb.block b hB).trans h.2⟩
theorem ArrI.later (h : ArrI W b N) (hb : Below W.heap.size W W') : ArrI W' b N := h.below hb h.lt
theorem ArrI.drew (h : ArrI W b N) : ArrI W.drew b N := h
theorem ArrI.drewN (h : ArrI W b N) (n : Nat) : ArrI (W.drewN n) b N := h
theorem ArrI.alloc (h : ArrI W b N) (o : Obj) : ArrI (W.alloc o) b N := h.later ((Below.refl _ _).alloc (Nat.le_refl _) o)
theorem ArrI.kept {row : Option Nat} (h : ArrI W b N) (hg : W.grownBy W' row) (hr : row ≠ some b) : ArrI W' b N := ⟨h.1, (hg.block b h.lt (fun e => hr e.symm)).trans h.2⟩
theorem ArrI.cell (h : ArrI W b N) {i : Nat} (hi : i < 128) : W.cell? ⟨b, i, none⟩ = some (.int .i64 (N.getD i 0)) := by
  rw [cell_of_row W b i _ _ _ h.2]
  unfold arrC
  rw [List.getElem?_toArray]
  exact ints_get N i (by rw [h.1]; exact hi)
theorem ArrI.free (h : ArrI W b N) (i : Nat) : W.frozen? ⟨b, i, none⟩ = false := by simp [World.frozen?, h.2]
theorem ArrI.set (h : ArrI W b N) (i : Nat) (x : Int) : ArrI (W.setCell ⟨b, i, none⟩ (.int .i64 x)) b (N.set i x) := by
  refine ⟨by simpa using h.1, ?_⟩
  rw [heap_setCell_same W b i _ _ _ h.2]
  unfold arrC
  simp [ints, List.map_set]
theorem ArrI.grown (W : World) (b i : Nat) (x : Value) : W.grownBy (W.setCell ⟨b, i, none⟩ x) (some b) := grownBy_setCell W ⟨b, i, none⟩ x
theorem ArrI.loadVar (h : ArrI W b N) : (loadVar 125 ⟨b, 0, none⟩).run Tryz.prog W = .ok (.agg (arrC N)) W :=
  run_loadVar_row W b _ _ _ _ _ h.2 Tryz.underlying125 rfl (by rw [arrC_size, h.1]; exact arr_size)
theorem ArrI.load (h : ArrI W b N) : (Instr.loadAt 125 (.pointer (some ⟨b, 0, none⟩))).run Tryz.prog W = .ok (.agg (arrC N)) W := by
  simp only [Instr.loadAt, Instr.sureAddr, Sem.run_bind, Sem.run_pure, Result.andThen]
  exact run_loadVar_row W b _ _ _ _ _ h.2 Tryz.underlying125 rfl (by rw [arrC_size, h.1]; exact arr_size)
theorem ArrI.not_row {B : Nat} {e : TypeId} {size n : Nat} {v : Value} {xs : List Value} (h : ArrI W b N) (ht : 125 ≠ e) (ho : W.ownsRow B e size v n xs) : v.ownBlock ≠ some b := fun hb => by
  rcases ho.2 with ⟨rfl, _⟩ | ⟨g, cap, cur, rfl, _, hg, _⟩
  · cases hb
  · obtain rfl : g = b := by simpa [Value.ownBlock] using hb
    rw [h.2] at hg
    cases hg
    exact ht rfl
end
theorem arrC_one (N : List Int) : (arrC N).all (·.oneCell') = true := by
  unfold arrC
  exact all_oneCell_toArray (fun v hv => by
    unfold ints at hv
    obtain ⟨z, _, rfl⟩ := List.mem_map.1 hv
    rfl)

section
variable {ops : Array Oper} {rest : List Oper} {o : Oper} {a : Act} {w : World} {Q : Exit → Act → World → Prop}
/-- A whole array into a new block. -/
theorem wpList_box_arr (hgd : o.guard = none) (x : Operand) (ho : o.op = .box 125 x) (N : List Int) (hx : a.eval x = .agg (arrC N))
    (h : wpList Tryz.prog ops Q rest (a.put o.dst (.pointer (some ⟨w.heap.size, 0, none⟩))) (w.alloc (.cells (arrC N) 125))) : wpList Tryz.prog ops Q (o :: rest) a w := by
  refine wpList_plain hgd fun K hK => ?_
  unfold Oper.wp execOp
  simp only [ho, hx, Instr.box, newVar, Value.cells, Sem.run_bind, Sem.run_pure]
  exact hK _ _ h
/-- A new array of nothing. -/
theorem wpList_alloc_arr (hgd : o.guard = none) (ho : o.op = .alloc 125)
    (h : wpList Tryz.prog ops Q rest (a.put o.dst (.pointer (some ⟨w.heap.size, 0, none⟩))) (w.alloc (.cells (arrC (List.replicate 128 0)) 125))) : wpList Tryz.prog ops Q (o :: rest) a w := by
  refine wpList_plain hgd fun K hK => ?_
  unfold Oper.wp execOp
  simp only [ho, Instr.alloc, newVar, Value.cells, Sem.run_bind, Sem.run_pure, Result.andThen_ok, arr_zero]
  exact hK _ _ h
/-- A whole array out of its block. -/
theorem wpList_load_arr (hgd : o.guard = none) (x : Operand) (ho : o.op = .load 125 x) (b : Nat) (N : List Int) (hx : a.eval x = .pointer (some ⟨b, 0, none⟩)) (hA : ArrI w b N)
    (h : wpList Tryz.prog ops Q rest (a.put o.dst (.agg (arrC N))) w) : wpList Tryz.prog ops Q (o :: rest) a w := by
  refine wpList_plain hgd fun K hK => ?_
  have hl := hA.load
  unfold Oper.wp execOp
  simp only [ho, hx, Sem.run_bind, Sem.run_pure, hl, Result.andThen_ok]
  exact hK _ _ h
/-- One of an array's numbers. -/
theorem wpList_index_arr (hgd : o.guard = none) (x y : Operand) (ho : o.op = .index 125 x y) (N : List Int) (k : Nat) (hx : a.eval x = .agg (arrC N)) (hy : a.eval y = .int .i64 (k : Int)) (hl : N.length = 128) (hk : k < 128)
    (h : wpList Tryz.prog ops Q rest (a.put o.dst (.int .i64 (N.getD k 0))) w) : wpList Tryz.prog ops Q (o :: rest) a w := by
  refine wpList_plain hgd fun K hK => ?_
  have hg : (arrC N)[k]? = some (.int .i64 (N.getD k 0)) := by unfold arrC; rw [List.getElem?_toArray]; exact ints_get N k (by omega)
  have hr : (Instr.index 125 (.agg (arrC N)) (.int .i64 (k : Int))).run Tryz.prog w = .ok (.int .i64 (N.getD k 0)) w := by
    have h1 : (0 : Int) ≤ (k : Int) ∧ (k : Int) < (128 : Nat) := by omega
    unfold Instr.index
    simp only [asIntOf, Sem.run_bind, Sem.run_pure, Result.andThen_ok, run_underlying Tryz.underlying125, if_pos h1]
    have hz : (sizeOf 3).run Tryz.prog w = .ok 1 w := by
      cases hq : Tryz.prog.info? 3 with
      | none => have := int_info; simp [hq] at this
      | some i => have := int_info; simp [hq] at this; simp [sizeOf, typeInfo, hq, this]
    simp [part, hz, hg]
  unfold Oper.wp execOp
  simp only [ho, hx, hy, Sem.run_bind, Sem.run_pure, hr, Result.andThen_ok]
  exact hK _ _ h
/-- A whole array into a block that is one. -/
theorem wpList_store_arr (hgd : o.guard = none) (x y : Operand) (ho : o.op = .store 125 x y) (b : Nat) (M N : List Int) (hx : a.eval x = .pointer (some ⟨b, 0, none⟩)) (hy : a.eval y = .agg (arrC N)) (hA : ArrI w b M) (hl : N.length = 128)
    (h : wpList Tryz.prog ops Q rest (a.put o.dst undef) (w.setRow b (arrC N))) : wpList Tryz.prog ops Q (o :: rest) a w := by
  refine wpList_plain hgd fun K hK => ?_
  have hs := run_storeVar_row (P := Tryz.prog) w b 125 125 (arrC M) (arrC N) hA.2 (by rw [arrC_size, hl]; exact arr_size) (by rw [arrC_size, arrC_size, hA.1, hl]) (arrC_one N)
  unfold Oper.wp execOp
  simp only [ho, hx, hy, Instr.storeAt, Instr.sureAddr, Sem.run_bind, Sem.run_pure, Result.andThen_ok, hs]
  exact hK _ _ h
end
theorem ArrI.setRow {W : World} {b : Nat} {M N : List Int} (h : ArrI W b M) (hl : N.length = 128) : ArrI (W.setRow b (arrC N)) b N := ⟨hl, setRow_heap W b _ _ _ _ h.2⟩
theorem grownBy_setRow (W : World) (b : Nat) (c : Array Value) : W.grownBy (W.setRow b c) (some b) := ⟨rfl, rfl, rfl, by simp, fun k _ hk => setRow_other W b k c (fun e => hk (by rw [e]))⟩

end Go.Proofs.YtnoilafoeaknjaaGreat.K

/-
  The knots that have something: the program's knotsOf.
-/
namespace Go.Proofs.YtnoilafoeaknjaaGreat.K
open Go.RowKit Go.Sort

set_option maxHeartbeats 4000000 in
theorem knotsOf_at (w : World) (N : List Int) (hl : N.length = 128) (h0 : N.getD 0 0 = 0) :
    Calls Tryz.prog 98 #[.agg (arrC N)] w fun e w' => ∃ v, e = .returned v ∧ OwnP w' w.heap.size v (listV N) ∧ Below w.heap.size w w' := by
  obtain ⟨i0, hi, hz0, hz1, hz2⟩ := info_parts pair_info
  have HA := Lib.hid (ArrI.new w N hl)
  obtain ⟨W, hW⟩ : ∃ W, W = w.alloc (.cells (arrC N) 125) := ⟨_, rfl⟩
  have hB : Below w.heap.size w W := by rw [hW]; exact (Below.refl _ _).alloc (Nat.le_refl _) _
  have HB0 := Lib.hid hB
  rw [← hW] at HA
  clear hB
  go_enter Tryz.func98, Tryz.ntmps98
  go_upto_region 0 with fail
  go_step
  refine wpList_box_arr rfl _ rfl N rfl ?_
  rw [← hW]
  clear hW
  go_wp2_with (refine wpList_load_arr rfl _ rfl _ N rfl HA.out ?_)
  go_loopw [3, 7] (fun o i wr => ∃ (k no : Nat) (x : Option Addr) (co : Nat), k ≤ 128 ∧ i = .int .i64 ((k : Nat) : Int) ∧ o = .slice x no co ∧ no = (listK N (k - 1)).length ∧ OwnP wr W.heap.size (.slice x no co) (listK N (k - 1)) ∧ Below W.heap.size W wr) (fun _ i _ => 128 - (intOf i).toNat)
  case atStart => exact ⟨0, 0, none, 0, Nat.zero_le _, rfl, rfl, rfl, OwnP.nil _ _, Below.refl _ _⟩
  case round =>
    obtain ⟨k, no, x, co, hk, rfl, rfl, hno, hown, hbl⟩ := hrel
    by_cases hlt : k < 128
    · have k0 : (0 : Int) ≤ (k : Int) := by omega
      have kn : (k : Int) < 128 := by omega
      have ho : wr.ownsRow W.heap.size 123 2 (.slice x no co) no (prs (listK N (k - 1))) := by have h := hown; unfold OwnP at h; rw [← hno] at h; exact h
      have HO := Lib.hid ho
      have HN := Lib.hid hno
      have HB := Lib.hid hbl
      have HL := Lib.hid hl
      have szr := hbl.size
      have nb : no ≤ 127 := by have := listK_len N (k - 1); omega
      have hs : Hid (listK N (k + 1 - 1) = listK N (k - 1) ++ if 0 < N.getD k 0 then [((k : Int), N.getD k 0)] else []) := by
        show _ = _
        by_cases hk0 : k = 0
        · subst hk0; rw [h0]; simp [listK]
        · obtain ⟨j, rfl⟩ : ∃ j, k = j + 1 := ⟨k - 1, by omega⟩
          rfl
      have step : ∀ V, V = N.getD k 0 → Hid (V = N.getD k 0) := fun V h => h
      clear h0 hown hno hbl hl ho
      go_upto_region 4 with fail
      go_step
      go_step
      go_step
      go_step
      refine wpList_index_arr rfl _ _ rfl N k rfl rfl HL.out hlt ?_
      generalize listK N (k - 1) = os at *
      generalize N.getD k 0 = V at *
      by_cases hp : 0 < V
      · have e := Lib.hid (hs.out.trans (by rw [if_pos hp]))
        go_wp2_with (first | (at_builtin; refine wpList_append_own _ rfl _ _ 35 rfl W.heap.size 123 i0 (.agg #[.int .i64 0, .int .i64 0]) 2 16 Tryz.underlying35 hi hz0 hz1 hz2 rfl (by decide) _ _ _ rfl (HO.out.alloc _) ⟨wr.heap.size, 0, none⟩ 1 1 [.int .i64 k, .int .i64 V] rfl rfl (cell_two_new _ _ _ _) (by simp [Value.oneCell']) (by unfold maxLen; omega) (by omega) (by simp; omega) ?_; intro v1 w3 ho1 hg1 _; obtain ⟨g_v1, c_v1, rfl, _, _⟩ := World.ownsRow.form ho1 (Nat.succ_pos _)))
        go_roundw
        case rel => exact ⟨k + 1, no + 1, _, _, by omega, by go_num, rfl, by rw [e.out]; simp [HN.out], by rw [e.out]; exact own_snocP ho1 HN.out, below_appendP HB.out szr HO.out hg1⟩
        case measure => simp [intOf]; omega
      · have e := Lib.hid (hs.out.trans (by rw [if_neg hp, List.append_nil]))
        have OW : Hid (OwnP wr W.heap.size (.slice x no co) os) := by show OwnP _ _ _ _; unfold OwnP; rw [← HN.out]; exact HO.out
        go_wp2
        go_roundw
        case rel => exact ⟨k + 1, no, _, _, by omega, by go_num, rfl, by rw [e.out]; exact HN.out, by rw [e.out]; exact OW.out, HB.out⟩
        case measure => simp [intOf]; omega
    · obtain rfl : k = 128 := by omega
      have HO := Lib.hid hown
      have HB := Lib.hid (HB0.out.trans (hbl.mono HB0.out.size))
      have HS := Lib.hid HB0.out.size
      clear h0 hno hbl hl HA hlt hk hown
      go_wp2
      go_ret
      exact ⟨_, rfl, HO.out.base HS.out, HB.out⟩

end Go.Proofs.YtnoilafoeaknjaaGreat.K

/-
  A queue of numbers: a slice of numbers in a block of the call's own, wherever in it it begins; what is left of it behind a cut, and what an append makes of it.
-/
namespace Go.Proofs.YtnoilafoeaknjaaGreat.K
open Go.RowKit Go.Sort

/-- The slice at x, of capacity c, holds the numbers zs, in a block from B on; all its places may be written. -/
def Que (w : World) (B : Nat) (x : Option Addr) (c : Nat) (zs : List Int) : Prop :=
  ∃ g o, x = some ⟨g, o, none⟩ ∧ B ≤ g ∧ g < w.heap.size ∧ zs.length ≤ c ∧ c ≤ maxLen ∧
    (∀ i, i < zs.length → w.cell? ⟨g, o + i, none⟩ = some (.int .i64 (zs.getD i 0))) ∧
    ∀ i, i < c → (w.cell? ⟨g, o + i, none⟩).isSome = true ∧ w.frozen? ⟨g, o + i, none⟩ = false
section
variable {w w' : World} {B c : Nat} {x : Option Addr} {zs : List Int}
theorem Que.of_own {n : Nat} (h : w.ownsRow B 3 1 (.slice x n c) n (ints zs)) (hn : n = zs.length) (h0 : 0 < n) : Que w B x c zs := by
  rcases h.2 with ⟨_, h00⟩ | ⟨g, cap, cur, e, hb, hg, hnc, hcm, hcs, ht⟩
  · omega
  · obtain ⟨rfl, _, rfl⟩ := Value.slice.inj e
    refine ⟨g, 0, rfl, hb, (Array.getElem?_eq_some_iff.1 hg).1, by omega, hcm, fun i hi => ?_, fun i hi => ⟨?_, by simp [World.frozen?, hg]⟩⟩
    · rw [Nat.zero_add]
      exact (World.ownsRow.cellAt h i (by omega)).trans (ints_get _ _ hi)
    · rw [cell_of_row w g (0 + i) cur _ _ hg, Array.getElem?_eq_getElem (by omega)]
      rfl
theorem Que.keep (h : Que w B x c zs) (hb : ∀ g, B ≤ g → g < w.heap.size → w'.heap[g]? = w.heap[g]?) (hs : w.heap.size ≤ w'.heap.size) : Que w' B x c zs := by
  obtain ⟨g, o, rfl, h1, h2, h3, h4, h5, h6⟩ := h
  have e := hb g h1 h2
  refine ⟨g, o, rfl, h1, Nat.lt_of_lt_of_le h2 hs, h3, h4, fun i hi => ?_, fun i hi => ?_⟩
  · rw [World.cell?_of_block (a := ⟨g, o + i, none⟩) e]; exact h5 i hi
  · rw [World.cell?_of_block (a := ⟨g, o + i, none⟩) e, World.frozen?_of_block (a := ⟨g, o + i, none⟩) e]; exact h6 i hi
theorem Que.alloc (h : Que w B x c zs) (o : Obj) : Que (w.alloc o) B x c zs := h.keep (fun g _ hg => heap_alloc_old w o hg) (by simp)
theorem Que.drewN (h : Que w B x c zs) (n : Nat) : Que (w.drewN n) B x c zs := h
theorem Que.drew (h : Que w B x c zs) : Que w.drew B x c zs := h
theorem Que.below (h : Que w B x c zs) (hb : Below w.heap.size w w') : Que w' B x c zs := h.keep (fun g _ hg => hb.block g hg) hb.size
/-- A store elsewhere: into a block ahead of B. -/
theorem Que.set (h : Que w B x c zs) (b i : Nat) (v : Value) (hb : b < B) : Que (w.setCell ⟨b, i, none⟩ v) B x c zs := h.keep (fun g hg _ => heap_setCell_other w ⟨b, i, none⟩ g v (by show g ≠ b; omega)) (by simp)
theorem Que.at (h : Que w B x c zs) : ∃ g o, x = some ⟨g, o, none⟩ ∧ B ≤ g ∧ g < w.heap.size ∧ zs.length ≤ c ∧ c ≤ maxLen ∧ ∀ i, i < zs.length → w.cell? ⟨g, o + i, none⟩ = some (.int .i64 (zs.getD i 0)) := by
  obtain ⟨g, o, rfl, h1, h2, h3, h4, h5, h6⟩ := h
  exact ⟨g, o, rfl, h1, h2, h3, h4, h5⟩
/-- Behind its first two. -/
theorem Que.drop2 {g o : Nat} {a b : Int} (h : Que w B (some ⟨g, o, none⟩) c (a :: b :: zs)) : Que w B (some (if c = 2 then ⟨g, o, none⟩ else ⟨g, o + 2, none⟩)) (c - 2) zs := by
  obtain ⟨g', o', e, h1, h2, h3, h4, h5, h6⟩ := h
  cases e
  simp only [List.length_cons] at h3 h5
  by_cases hc : c = 2
  · rw [if_pos hc]
    have hz : zs.length = 0 := by omega
    exact ⟨g, o, rfl, h1, h2, by omega, by omega, fun i hi => by omega, fun i hi => by omega⟩
  · rw [if_neg hc]
    refine ⟨g, o + 2, rfl, h1, h2, by omega, by omega, fun i hi => ?_, fun i hi => ?_⟩
    · have := h5 (i + 2) (by omega)
      rw [show o + 2 + i = o + (i + 2) by omega]
      simpa using this
    · rw [show o + 2 + i = o + (i + 2) by omega]
      exact h6 (i + 2) (by omega)
end
section
variable {ops : Array Oper} {rest : List Oper} {o : Oper} {a : Act} {w : World} {Q : Exit → Act → World → Prop}
/-- One number more. -/
theorem wpList_append_que (hgd : o.guard = none) (s x : Operand) (ho : o.op = .call { callee := .builtin .append, args := #[s, x], argTypes := #[ 23, 23 ] })
    (B n c : Nat) (y : Option Addr) (zs : List Int) (hs : a.eval s = .slice y n c) (hq : Que w B y c zs) (hn : n = zs.length) (z : Int) (ad : Addr) (hx : a.eval x = .slice (some ad) 1 1) (hc : ∀ j u, [Value.int .i64 z][j]? = some u → w.cell? (ad.add j) = some u)
    (hB : B ≤ w.heap.size) (hsm : n ≤ 1000)
    (h : ∀ y' c' w' row, Que w' B y' c' (zs ++ [z]) → w.grownBy w' row → (∀ k, row = some k → B ≤ k) → wpList Tryz.prog ops Q rest (a.put o.dst (.slice y' (n + 1) c')) w') :
    wpList Tryz.prog ops Q (o :: rest) a w := by
  obtain ⟨i0, hi, hz0, hz1, hz2⟩ := info_parts int_info
  have hq' := hq
  obtain ⟨g, off, rfl, h1, h2, h3, h4, h5, h6⟩ := hq
  have getl : ∀ i, i < zs.length + 1 → (zs ++ [z]).getD i 0 = if i < zs.length then zs.getD i 0 else z := fun i hi => by
    by_cases e : i < zs.length
    · rw [if_pos e]; simp [List.getD_eq_getElem?_getD, List.getElem?_append_left e]
    · rw [if_neg e]
      obtain rfl : i = zs.length := by omega
      simp
  refine wpList_append_arg w hgd s x 23 ho 3 i0 (.int .i64 0) 1 8 Tryz.underlying23 hi hz0 hz1 hz2 rfl (by decide) g off n c (ints zs) hs (by rw [ints_len, hn]; omega) (fun j u hj => ?_) ad 1 1 [.int .i64 z] hx rfl hc (by simp [Value.oneCell']) (fun hr j hj => ?_) (by unfold maxLen; omega) (by omega) (fun hr => ?_) (fun hg v' w' ho' hgr => ?_)
  · have hj' : j < zs.length := by have := (List.getElem?_eq_some_iff.1 hj).1; rwa [ints_len] at this
    rw [h5 j hj', ← ints_get zs j hj', hj]
  · obtain rfl : j = 0 := by simpa using hj
    exact h6 (n * 1) (by omega)
  · have e1 : off + n * 1 = off + n := by omega
    have hcell := h6 n (by omega)
    have eq : w.setCells g (off + n * 1) [.int .i64 z] = w.setCell ⟨g, off + n, none⟩ (.int .i64 z) := by rw [e1]; rfl
    rw [eq]
    refine h _ _ _ (some g) ⟨g, off, rfl, h1, by simpa using h2, by simp; omega, h4, fun i hi => ?_, fun i hi => ?_⟩ (grownBy_setCell w ⟨g, off + n, none⟩ _) (fun k e => by cases e; exact h1)
    · simp only [List.length_append, List.length_cons, List.length_nil] at hi
      rw [getl i (by omega)]
      by_cases e : i < zs.length
      · rw [if_pos e, World.cell?_setCell_other _ _ _ _ (fun q => by have := congrArg Addr.off q; simp at this; omega)]; exact h5 i e
      · rw [if_neg e, show i = n by omega]
        exact World.cell?_setCell_same' _ _ _ hcell.1
    · rw [World.frozen?_setCell]
      refine ⟨?_, (h6 i hi).2⟩
      by_cases e : i = n
      · subst e; rw [World.cell?_setCell_same' _ _ _ hcell.1]; rfl
      · rw [World.cell?_setCell_other _ _ _ _ (fun q => by have := congrArg Addr.off q; simp at this; omega)]; exact (h6 i hi).1
  · have f := ho'
    rw [show ints zs ++ [Value.int .i64 z] = ints (zs ++ [z]) by simp [ints]] at f
    rcases f.2 with ⟨_, h00⟩ | ⟨g', cap, cur, rfl, hb, hg', _⟩
    · omega
    · have q := Que.of_own (ownsRow_base f hB) (by simp [hn]) (Nat.succ_pos _)
      exact h _ _ _ none q hgr (fun k e => by cases e)
end
theorem ArrI.keep {w w' : World} {b B : Nat} {N : List Int} {row : Option Nat} (h : ArrI w b N) (hg : w.grownBy w' row) (hr : ∀ k, row = some k → B ≤ k) (hb : b < B) : ArrI w' b N := h.kept hg (fun e => by have := hr b e; omega)
theorem below_keep {w0 w w' : World} {B C : Nat} {row : Option Nat} (h : Below C w0 w) (hg : w.grownBy w' row) (hr : ∀ k, row = some k → B ≤ k) (hC : C ≤ B) (hw : C ≤ w.heap.size) : Below C w0 w' :=
  h.trans ⟨hg.os, hg.tape, hg.output, hg.size, fun k hk => hg.block k (by omega) (fun e => by have := hr k e.symm; omega)⟩

/-- n numbers, from p on down. -/
def down (p : Int) : Nat → List Int
  | 0 => []
  | n + 1 => p :: down (p - 1) n
theorem down_len (p : Int) (n : Nat) : (down p n).length = n := by
  induction n generalizing p with
  | zero => rfl
  | succ n ih => simp [down, ih]
theorem down_snoc (p : Int) (n : Nat) : down p n ++ [p - n] = down p (n + 1) := by
  induction n generalizing p with
  | zero => simp [down]
  | succ n ih =>
    have := ih (p - 1)
    rw [show p - 1 - (n : Int) = p - ((n + 1 : Nat) : Int) by omega] at this
    rw [down, List.cons_append, this]
    rfl

end Go.Proofs.YtnoilafoeaknjaaGreat.K

/-
  What is little is counted above: the program's squeezed.
-/
namespace Go.Proofs.YtnoilafoeaknjaaGreat.K
open Go.RowKit Go.Sort

def lenQ : Value → Nat
  | .slice _ n _ => n
  | _ => 0
theorem down_two (p : Int) (n : Nat) : down p (n + 2) = p :: (p - 1) :: down (p - 1 - 1) n := rfl

theorem quiet_sameN {P : Program} {f : FuncId} {args : Array Value} {w : World} {m n : Nat} {v : Value}
    (h : ∀ W, Calls P f args W fun e w' => e = .returned v ∧ W = w') : Calls P f args (w.drewN (m + n)) fun e w'' => e = .returned v ∧ ∃ k, w'' = w.drewN (m + k) :=
  (h _).mono fun _ _ ⟨he, hm⟩ => ⟨he, n, hm.symm⟩

set_option maxRecDepth 100000 in
set_option maxHeartbeats 8000000 in
theorem squeezed_at (w : World) (N : List Int) (all : Int) (hl : N.length = 128) (hb : BdN N 600000) (a0 : 0 ≤ all) (a1 : all ≤ 2000) :
    Calls Tryz.prog 99 #[.agg (arrC N), .int .i64 all] w fun e w' => e = .returned (.agg (arrC (sqz N (all / 8) 63))) ∧ Below w.heap.size w w' := by
  obtain ⟨i0, hi, hz0, hz1, hz2⟩ := info_parts int_info
  obtain ⟨D, hDD⟩ : ∃ D, D = all / 8 := ⟨_, rfl⟩
  have hD0 : 0 ≤ D := by omega
  have hD1 : D ≤ 250 := by omega
  rw [← hDD]
  have HDD := Lib.hid hDD
  obtain ⟨Z0, hZ0⟩ : ∃ Z0, Z0 = List.replicate 128 (0 : Int) := ⟨_, rfl⟩
  have hz128 : Z0.length = 128 := by rw [hZ0]; simp
  obtain ⟨W, hW⟩ : ∃ W, W = (w.alloc (.cells (arrC N) 125)).alloc (.cells (arrC Z0) 125) := ⟨_, rfl⟩
  have hA : Below w.heap.size w W := by rw [hW]; exact ((Below.refl _ _).alloc (Nat.le_refl _) _).alloc (by simp) _
  have sW : W.heap.size = w.heap.size + 2 := by rw [hW]; simp
  have R0 : ArrI W w.heap.size N := by rw [hW]; exact (ArrI.new w N hl).alloc _
  have R1 : ArrI W (w.heap.size + 1) Z0 := by rw [hW]; have := ArrI.new (w.alloc (.cells (arrC N) 125)) Z0 hz128; rwa [World.size_alloc] at this
  have HA := Lib.hid hA
  have HS := Lib.hid sW
  have HR0 := Lib.hid R0
  have HR1 := Lib.hid R1
  have HB := Lib.hid hb
  have HL := Lib.hid hl
  have HZ := Lib.hid hZ0
  clear hA sW R0 R1 hb hl hDD hz128 hZ0
  go_enter Tryz.func99, Tryz.ntmps99
  go_upto_region 0 with fail
  go_step
  refine wpList_box_arr rfl _ rfl N rfl ?_
  refine wpList_alloc_arr rfl rfl ?_
  rw [← HZ.out]
  rw [← hW]
  clear hW
  rw [World.size_alloc]
  go_wp2_with fail
  go_loopw [5, 6] (fun q i wr => ∃ (j : Nat) (I : Int) (x : Option Addr) (c : Nat), j ≤ 64 ∧ I = 127 - (j : Int) ∧ i = .int .i64 I ∧ q = .slice x j c ∧ wr.ownsRow W.heap.size 3 1 (.slice x j c) j (ints (down 127 j)) ∧ Below W.heap.size W wr) (fun _ i _ => (intOf i).toNat)
  case atStart => exact ⟨0, 127, none, 0, by omega, rfl, rfl, rfl, World.ownsRow_nil _ _ _ 1, Below.refl _ _⟩
  case round =>
    obtain ⟨j, I, x, c, hj, hI, rfl, rfl, ho, hbl⟩ := hrel
    have HO := Lib.hid ho
    have HBL := Lib.hid hbl
    have szr := hbl.size
    have hdn := Lib.hid (down_snoc 127 j)
    by_cases hlt : j < 64
    · have I0 : 64 ≤ I := by omega
      have I1 : I ≤ 127 := by omega
      have e : Hid (ints (down 127 j) ++ [Value.int .i64 I] = ints (down 127 (j + 1))) := by
        show _ = _
        rw [← hdn.out, hI]; simp [ints]
      have HI := Lib.hid hI
      clear ho hbl hI
      go_wp2_with (first | (at_builtin; refine wpList_append_own _ rfl _ _ 23 rfl W.heap.size 3 i0 (.int .i64 0) 1 8 Tryz.underlying23 hi hz0 hz1 hz2 rfl (by decide) _ _ _ rfl (HO.out.alloc _) ⟨wr.heap.size, 0, none⟩ 1 1 [.int .i64 I] rfl rfl (cell_one_new _ _ _) (by simp [Value.oneCell']) (by unfold maxLen; omega) (by omega) (by simp; omega) ?_; intro v1 w3 ho1 hg1 _; obtain ⟨g_v1, c_v1, rfl, _, _⟩ := World.ownsRow.form ho1 (Nat.succ_pos _)))
      go_roundw
      case rel => exact ⟨j + 1, I - 1, _, _, by omega, by have := HI.out; omega, rfl, rfl, by rw [← e.out]; exact ho1, below_appendP HBL.out szr HO.out hg1⟩
      case measure => simp [intOf]; omega
    · obtain rfl : j = 64 := by omega
      obtain rfl : I = 63 := by omega
      have HQ0 := Lib.hid (Que.of_own ho (by rw [down_len]) (by omega))
      have HX0 := Lib.hid (HR0.out.below hbl HR0.out.lt)
      have HX1 := Lib.hid (HR1.out.below hbl HR1.out.lt)
      have HB0 := Lib.hid (HA.out.trans (hbl.mono HA.out.size))
      clear ho hbl hI HO HBL hlt hj hdn
      go_wp2_with fail
      go_loopw [5] (fun q wx => ∃ (J n : Nat) (y : Option Addr) (c : Nat), J ≤ 63 ∧ n = J + 1 ∧ q = .slice y n c ∧ Que wx W.heap.size y c (down (2 * (J : Int) + 1) (J + 1)) ∧ ArrI wx w.heap.size (sqz N D (63 - J)) ∧ ArrI wx (w.heap.size + 1) Z0 ∧ Below w.heap.size w wx ∧ W.heap.size ≤ wx.heap.size) (fun q _ => lenQ q)
      case atStart => exact ⟨63, 64, _, _, Nat.le_refl _, rfl, rfl, HQ0.out, HX0.out, HX1.out, HB0.out, szr⟩
      case round =>
        clear HQ0 HX0 HX1 HB0 HA HR0 HR1 szr
        obtain ⟨J, n, y, c, hJ, hn, rfl, hq, hx0, hx1, hbl, szr⟩ := hrel
        have HQ := Lib.hid hq
        have HX1 := Lib.hid hx1
        have HBL := Lib.hid hbl
        by_cases h1 : 1 ≤ J
        · obtain ⟨m, hm⟩ : ∃ m, m = J - 1 := ⟨_, rfl⟩
          obtain ⟨g, o, rfl, hg0, hg1, hc0, hc1, hcells⟩ := hq.at
          rw [down_len] at hc0 hcells
          have q0 := hcells 0 (by omega)
          have q1 := hcells 1 (by omega)
          rw [show J + 1 = m + 2 by omega, down_two] at q0 q1 HQ
          simp only [Nat.add_zero, List.getD_cons_zero, List.getD_cons_succ] at q0 q1
          obtain ⟨I, hI⟩ : ∃ I : Nat, I = 2 * J := ⟨_, rfl⟩
          obtain ⟨I1, hI1⟩ : ∃ I1 : Nat, I1 = 2 * J + 1 := ⟨_, rfl⟩
          have eI1 : 2 * (J : Int) + 1 = (I1 : Int) := by omega
          have eI : (I1 : Int) - 1 = (I : Int) := by omega
          rw [eI1, eI] at q1 HQ
          rw [eI1] at q0
          have bd := sqz_bd HB.out (show D ≤ 600000 by omega) (by omega) (63 - J)
          have hs := Lib.hid (show sqz N D (63 - (J - 1)) = sq1 (sqz N D (63 - J)) D J by rw [show 63 - (J - 1) = (63 - J) + 1 by omega, sqz, show 63 - (63 - J) = J by omega])
          have lZ : (sqz N D (63 - J)).length = 128 := by rw [sqz_len]; exact HL.out
          have hany := sq1_any (D := D) (fun i => (bd i).1) lZ J h1 hJ
          generalize sqz N D (63 - J) = Z at *
          have cI := hx0.cell (i := I) (by omega)
          have cI1 := hx0.cell (i := I1) (by omega)
          have cJ := hx0.cell (i := J) (by omega)
          have fI := hx0.free I
          have fI1 := hx0.free I1
          have fJ := hx0.free J
          have bI := bd I
          have bI1 := bd I1
          have bJ := bd J
          rw [← hI1, ← hI] at hany
          obtain ⟨V0, hV0⟩ : ∃ V, V = Z.getD I 0 := ⟨_, rfl⟩
          obtain ⟨V1, hV1⟩ : ∃ V, V = Z.getD I1 0 := ⟨_, rfl⟩
          obtain ⟨VJ, hVJ⟩ : ∃ V, V = Z.getD J 0 := ⟨_, rfl⟩
          rw [← hV0, ← hV1, ← hVJ] at hany
          rw [← hV0] at cI bI
          rw [← hV1] at cI1 bI1
          rw [← hVJ] at cJ bJ
          have HANY := Lib.hid hany
          have HR := Lib.hid hx0
          have w1 : IntKind.i64.wrap (V0 + V1) = V0 + V1 := IntWalk.i64_in _ (by omega)
          have w2 : IntKind.i64.wrap (VJ + (V0 + V1)) = VJ + (V0 + V1) := IntWalk.i64_in _ (by omega)
          have j0 : (J : Int) < 64 := by omega
          have j128 : (J : Int) < 128 := by omega
          have jj : (0 : Int) ≤ (J : Int) := by omega
          have i0' : (I : Int) < 128 := by omega
          have i1' : (I1 : Int) < 128 := by omega
          have n2 : (1 : Int) < (n : Int) := by omega
          have hsh : (I1 : Int) / 2 = (J : Int) := by omega
          have KM : Hid (∀ W, Calls Tryz.prog 146 #[.int .i64 J, .int .i64 all] W fun e w' => e = .returned (.int .i64 D) ∧ W = w') := fun W => by
            have h := knotMost_at J all W a0 a1
            unfold mostK at h
            rw [if_pos (by omega), ← HDD.out] at h
            exact h
          have HI := Lib.hid hI
          have HI1 := Lib.hid hI1
          have HM := Lib.hid hm
          have HN := Lib.hid hn
          clear hn hm hcells hV0 hV1 hVJ hany hx0 hx1 hbl hq eI eI1 hI hI1 bd lZ
          have hge : (1 : Int) ≤ (J : Int) := by omega
          have HB2 : Hid (w.heap.size < W.heap.size ∧ w.heap.size + 1 < W.heap.size) := by show _ ∧ _; have := HS.out; omega
          have nc : n ≤ c := by have := HN.out; omega
          have n22 : (2 : Int) ≤ (n : Int) := by omega
          have LST : Hid (down ((I : Int) - 1) m ++ [(J : Int)] = down (2 * ((J - 1 : Nat) : Int) + 1) (J - 1 + 1)) := by
            show _ = _
            have h := down_snoc ((I : Int) - 1) m
            have e1 := HI.out
            have e2 := HM.out
            rw [show (I : Int) - 1 - (m : Int) = (J : Int) by omega] at h
            rw [h, show 2 * ((J - 1 : Nat) : Int) + 1 = (I : Int) - 1 by omega, show J - 1 + 1 = m + 1 by omega]
          by_cases c2 : VJ + (V0 + V1) ≤ D
          · have e := Lib.hid (HANY.out.symm.trans (if_pos c2))
            have dc : decide (VJ + (V0 + V1) ≤ D) = true := decide_eq_true c2
            have ne1 : I ≠ J := by have := HI.out; omega
            have ne2 : I1 ≠ J := by have := HI1.out; omega
            have ne3 : I1 ≠ I := by have := HI1.out; have := HI.out; omega
            obtain ⟨F, hF⟩ : ∃ F : Nat → World, F = fun q => (((wr.drewN q).setCell ⟨w.heap.size, J, none⟩ (.int .i64 (VJ + (V0 + V1)))).setCell ⟨w.heap.size, I, none⟩ (.int .i64 0)).setCell ⟨w.heap.size, I1, none⟩ (.int .i64 0) := ⟨_, rfl⟩
            have FA : Hid (∀ q, ArrI (F q) w.heap.size (((Z.set J (VJ + (V0 + V1))).set I 0).set I1 0)) := fun q => by rw [hF]; exact (((HR.out.drewN q).set J _).set I 0).set I1 0
            have FX : Hid (∀ q, ArrI (F q) (w.heap.size + 1) Z0) := fun q => by rw [hF]; exact (((HX1.out.drewN q).kept (ArrI.grown _ _ _ _) (by simp)).kept (ArrI.grown _ _ _ _) (by simp)).kept (ArrI.grown _ _ _ _) (by simp)
            have FB : Hid (∀ q, Below w.heap.size w (F q)) := fun q => by rw [hF]; exact (((below_drewN HBL.out q).setCell (Nat.le_refl _) _).setCell (Nat.le_refl _) _).setCell (Nat.le_refl _) _
            have FS : Hid (∀ q, (F q).heap.size = wr.heap.size) := fun q => by rw [hF]; simp
            have FQ : Hid (∀ q, Que (F q) W.heap.size (some ⟨g, o, none⟩) c (↑I1 :: ↑I :: down (↑I - 1) m)) := fun q => by rw [hF]; exact (((HQ.out.drewN q).set _ _ _ HB2.out.1).set _ _ _ HB2.out.1).set _ _ _ HB2.out.1
            have GOF : Hid (∀ q, (((wr.drewN q).setCell ⟨w.heap.size, J, none⟩ (.int .i64 (VJ + (V0 + V1)))).setCell ⟨w.heap.size, I, none⟩ (.int .i64 0)).setCell ⟨w.heap.size, I1, none⟩ (.int .i64 0) = F q) := fun q => by rw [hF]
            clear hF
            go_wp2_with fail
            go_quiet (fail)
            go_wp2_with fail
            go_quiet (fail)
            go_wp2_with fail
            go_quiet (with_reducible exact quiet_sameN KM.out)
            go_upto_region 13 with fail
            rw [GOF.out]
            by_cases hc2 : c = 2
            · subst hc2
              obtain rfl : n = 2 := by omega
              have QD := Lib.hid (fun q => (FQ.out q).drop2)
              rw [if_pos rfl] at QD
              simp only [Nat.sub_self] at QD
              go_wp2_with (first | (at_builtin; refine wpList_append_que rfl _ _ rfl W.heap.size 0 0 _ _ rfl (Que.alloc (QD.out _) _) (by rw [down_len]; have := HN.out; have := HM.out; omega) (J : Int) ⟨(F _).heap.size, 0, none⟩ rfl (cell_one_new _ _ _) (by have := FS.out; simp [FS.out]; omega) (by have := HN.out; omega) ?_; intro y' c' w' row hq' hgr hrow))
              rw [LST.out] at hq'
              go_roundw
              case rel => exact ⟨J - 1, 1, y', c', by omega, by have := HN.out; omega, rfl, hq', by rw [hs.out, e.out]; exact ((FA.out _).alloc _).keep hgr hrow HB2.out.1, ((FX.out _).alloc _).keep hgr hrow HB2.out.2, below_keep ((FB.out _).alloc (FB.out _).size _) hgr hrow (by have := HB2.out.1; omega) (by have := (FB.out 0).size; simp [FS.out] at this ⊢; omega), by have := hgr.size; simp [FS.out] at this; omega⟩
              case measure => simp [lenQ]
            · have QD := Lib.hid (fun q => (FQ.out q).drop2)
              rw [if_neg hc2] at QD
              go_wp2_with (first | (at_builtin; refine wpList_append_que rfl _ _ rfl W.heap.size (n - 2) (c - 2) _ _ rfl (Que.alloc (QD.out _) _) (by rw [down_len]; have := HN.out; have := HM.out; omega) (J : Int) ⟨(F _).heap.size, 0, none⟩ rfl (cell_one_new _ _ _) (by have := FS.out; simp [FS.out]; omega) (by have := HN.out; omega) ?_; intro y' c' w' row hq' hgr hrow))
              rw [LST.out] at hq'
              go_roundw
              case rel => exact ⟨J - 1, n - 2 + 1, y', c', by omega, by have := HN.out; omega, rfl, hq', by rw [hs.out, e.out]; exact ((FA.out _).alloc _).keep hgr hrow HB2.out.1, ((FX.out _).alloc _).keep hgr hrow HB2.out.2, below_keep ((FB.out _).alloc (FB.out _).size _) hgr hrow (by have := HB2.out.1; omega) (by have := (FB.out 0).size; simp [FS.out] at this ⊢; omega), by have := hgr.size; simp [FS.out] at this; omega⟩
              case measure => simp [lenQ]; omega
          · have e := Lib.hid (HANY.out.symm.trans (if_neg c2))
            have dc : decide (VJ + (V0 + V1) ≤ D) = false := decide_eq_false c2
            obtain ⟨F, hF⟩ : ∃ F : Nat → World, F = fun q => wr.drewN q := ⟨_, rfl⟩
            have FA : Hid (∀ q, ArrI (F q) w.heap.size Z) := fun q => by rw [hF]; exact HR.out.drewN q
            have FX : Hid (∀ q, ArrI (F q) (w.heap.size + 1) Z0) := fun q => by rw [hF]; exact HX1.out.drewN q
            have FB : Hid (∀ q, Below w.heap.size w (F q)) := fun q => by rw [hF]; exact below_drewN HBL.out q
            have FS : Hid (∀ q, (F q).heap.size = wr.heap.size) := fun q => by rw [hF]; simp
            have FQ : Hid (∀ q, Que (F q) W.heap.size (some ⟨g, o, none⟩) c (↑I1 :: ↑I :: down (↑I - 1) m)) := fun q => by rw [hF]; exact HQ.out.drewN q
            have GOF : Hid (∀ a b c, ((wr.drewN a).drewN b).drewN c = F (a + b + c)) := fun a b c => by rw [hF, World.drewN_drewN, World.drewN_drewN]; show wr.drewN _ = wr.drewN _; rw [Nat.add_assoc]
            clear hF
            go_wp2_with fail
            go_quiet (fail)
            go_wp2_with fail
            go_quiet (fail)
            go_wp2_with fail
            go_quiet (with_reducible exact quiet_sameN KM.out)
            go_upto_region 13 with fail
            rw [GOF.out]
            by_cases hc2 : c = 2
            · subst hc2
              obtain rfl : n = 2 := by omega
              have QD := Lib.hid (fun q => (FQ.out q).drop2)
              rw [if_pos rfl] at QD
              simp only [Nat.sub_self] at QD
              go_wp2_with (first | (at_builtin; refine wpList_append_que rfl _ _ rfl W.heap.size 0 0 _ _ rfl (Que.alloc (QD.out _) _) (by rw [down_len]; have := HN.out; have := HM.out; omega) (J : Int) ⟨(F _).heap.size, 0, none⟩ rfl (cell_one_new _ _ _) (by have := FS.out; simp [FS.out]; omega) (by have := HN.out; omega) ?_; intro y' c' w' row hq' hgr hrow))
              rw [LST.out] at hq'
              go_roundw
              case rel => exact ⟨J - 1, 1, y', c', by omega, by have := HN.out; omega, rfl, hq', by rw [hs.out, e.out]; exact ((FA.out _).alloc _).keep hgr hrow HB2.out.1, ((FX.out _).alloc _).keep hgr hrow HB2.out.2, below_keep ((FB.out _).alloc (FB.out _).size _) hgr hrow (by have := HB2.out.1; omega) (by have := (FB.out 0).size; simp [FS.out] at this ⊢; omega), by have := hgr.size; simp [FS.out] at this; omega⟩
              case measure => simp [lenQ]
            · have QD := Lib.hid (fun q => (FQ.out q).drop2)
              rw [if_neg hc2] at QD
              go_wp2_with (first | (at_builtin; refine wpList_append_que rfl _ _ rfl W.heap.size (n - 2) (c - 2) _ _ rfl (Que.alloc (QD.out _) _) (by rw [down_len]; have := HN.out; have := HM.out; omega) (J : Int) ⟨(F _).heap.size, 0, none⟩ rfl (cell_one_new _ _ _) (by have := FS.out; simp [FS.out]; omega) (by have := HN.out; omega) ?_; intro y' c' w' row hq' hgr hrow))
              rw [LST.out] at hq'
              go_roundw
              case rel => exact ⟨J - 1, n - 2 + 1, y', c', by omega, by have := HN.out; omega, rfl, hq', by rw [hs.out, e.out]; exact ((FA.out _).alloc _).keep hgr hrow HB2.out.1, ((FX.out _).alloc _).keep hgr hrow HB2.out.2, below_keep ((FB.out _).alloc (FB.out _).size _) hgr hrow (by have := HB2.out.1; omega) (by have := (FB.out 0).size; simp [FS.out] at this ⊢; omega), by have := hgr.size; simp [FS.out] at this; omega⟩
              case measure => simp [lenQ]; omega
        · obtain rfl : J = 0 := by omega
          obtain rfl : n = 1 := by omega
          obtain ⟨y', c', hy⟩ : ∃ y' c', y = y' ∧ c = c' := ⟨_, _, rfl, rfl⟩
          have HA0 := Lib.hid hx0
          have z63 : Hid (sqz N D (63 - 0) = sqz N D 63) := Lib.hid rfl
          have lQ : Hid ((sqz N D 63).length = 128) := by show _ = _; rw [sqz_len]; exact HL.out
          rw [z63.out] at HA0
          obtain ⟨S, hS⟩ : ∃ S, S = sqz N D 63 := ⟨_, rfl⟩
          rw [← hS] at HA0 lQ
          have HSS := Lib.hid hS
          have HA1 := Lib.hid (HX1.out.setRow lQ.out)
          have hld := HA1.out.loadVar
          have FIN := Lib.hid (HBL.out.trans (below_grown (grownBy_setRow wr (w.heap.size + 1) (arrC S)) (show w.heap.size ≤ w.heap.size + 1 by omega) HBL.out.size))
          clear hq hx0 hx1 hbl hy hJ h1 hn hS
          go_wp2_with (first | (refine wpList_load_arr rfl _ rfl _ S rfl HA0.out ?_) | (refine wpList_store_arr rfl _ _ rfl _ Z0 S rfl rfl HX1.out lQ.out ?_))
          exact bodyPost_ret (v := .agg (arrC S)) (by simp [results, Tryz.results99, asAddr, hld]) rfl ⟨by rw [HSS.out], FIN.out⟩

end Go.Proofs.YtnoilafoeaknjaaGreat.K

/-
  The knots of both, one behind the other: slices.Grow of nothing, slices.Concat of two.
-/
namespace Go.Proofs.YtnoilafoeaknjaaGreat.K
open Go.RowKit Go.Sort

theorem row_form {w : World} {B : Nat} {e : TypeId} {size n : Nat} {v : Value} {xs : List Value} (h : w.ownsRow B e size v n xs) : ∃ x c, v = .slice x n c := by
  rcases h.2 with ⟨rfl, h0⟩ | ⟨g, cap, cur, rfl, _⟩
  · exact ⟨none, 0, by rw [h0]⟩
  · exact ⟨_, _, rfl⟩
theorem prs_one (ps : List Pr) : ∀ u ∈ prs ps, u.oneCell' = true := by
  induction ps with
  | nil => intro u hu; cases hu
  | cons p ps ih =>
    intro u hu
    rw [prs_cons] at hu
    simp only [List.mem_cons] at hu
    rcases hu with rfl | rfl | hu
    · rfl
    · rfl
    · exact ih u hu
theorem Prs.news {w : World} {b o n c : Nat} {ps : List Pr} (h : Prs w (.slice (some ⟨b, o, none⟩) n c) ps) : ∀ j u, (prs ps)[j]? = some u → w.cell? ((⟨b, o, none⟩ : Addr).add j) = some u := fun j u hu => by
  have hj : j < (prs ps).length := (List.getElem?_eq_some_iff.1 hu).1
  rw [prs_len] at hj
  obtain ⟨b', o', e, _, h1, h2⟩ := h.cells (j / 2) (by omega)
  cases e
  have hg := prs_get ps (j / 2) (by omega)
  rw [addr_plus]
  rcases (by omega : j % 2 = 0 ∨ j % 2 = 1) with h0 | h0
  · have e : j = j / 2 * 2 := by omega
    rw [e] at hu ⊢
    rw [hg.1] at hu
    rw [h1, ← hu]
  · have e : j = j / 2 * 2 + 1 := by omega
    rw [e] at hu ⊢
    rw [hg.2] at hu
    rw [← Nat.add_assoc, h2, ← hu]

set_option maxRecDepth 100000 in
set_option maxHeartbeats 2000000 in
theorem growNil_at (n : Nat) (w : World) (hn : n ≤ 300) : Calls Tryz.prog 147 #[.slice none 0 0, .int .i64 n] w fun e w' => ∃ v, e = .returned v ∧ OwnP w' w.heap.size v [] ∧ Below w.heap.size w w' := by
  obtain ⟨i0, hi, hz0, hz1, hz2⟩ := info_parts pair_info
  by_cases h0 : n = 0
  · subst h0
    go_enter Tryz.func147, Tryz.ntmps147
    go_wp2
    go_ret
    exact ⟨_, rfl, OwnP.nil _ _, Below.refl _ _⟩
  · have h1 : ¬ ((n : Int) < 0) := by omega
    have h4 : (0 : Int) < (n : Int) := by omega
    have hrz : ∀ ty, (Builtin.append_ #[35, 3 ] ty #[.slice none 0 0, .int .i64 (n : Int)]).run Tryz.prog w =
        .ok (.slice (some ⟨w.heap.size, 0, none⟩) n (grownCap w n 0 123)) (w.drew.alloc (.cells ((([] : List Value).toArray ++ Builtin.zeroCells (Value.agg #[.int .i64 0, .int .i64 0]).cells n) ++ Builtin.zeroCells (Value.agg #[.int .i64 0, .int .i64 0]).cells (grownCap w n 0 123 - n)) 123)) := fun ty => by
      have h := Lib.run_append_grow_zeros w 35 3 ty 123 i0 _ .i64 .i64 Tryz.underlying35 Tryz.underlying3 hi hz0 none 0 0 [] (run_firstCells_none w.drew i0.size 0 0 0) n (by omega) (by rw [hz1]; omega) (by omega) (by omega) (by rw [hz2]; omega)
        (by rw [Nat.zero_add]; exact growslice_fits (by omega) (by rw [hz2]; omega))
      rw [Nat.zero_add] at h
      exact h
    have hGn : n ≤ grownCap w n 0 123 := grownCap_ge w _ _ _
    have hG63 := grownCap_le_maxLen w n 0 123 (by unfold maxLen; omega)
    have hsz : ∀ G, n ≤ G → ((([] : List Value).toArray ++ Builtin.zeroCells (Value.agg #[.int .i64 0, .int .i64 0]).cells n) ++ Builtin.zeroCells (Value.agg #[.int .i64 0, .int .i64 0]).cells (G - n)).size = G * 2 := fun G hG => by
      simp only [Array.size_append, size_zeroCells, Value.cells]
      simp
      omega
    obtain ⟨G, hG⟩ : ∃ G, G = grownCap w n 0 123 := ⟨_, rfl⟩
    rw [← hG] at hrz hGn hG63
    obtain ⟨CS, hCS⟩ : ∃ CS, CS = ((([] : List Value).toArray ++ Builtin.zeroCells (Value.agg #[.int .i64 0, .int .i64 0]).cells n) ++ Builtin.zeroCells (Value.agg #[.int .i64 0, .int .i64 0]).cells (G - n)) := ⟨_, rfl⟩
    have hs := hsz G hGn
    rw [← hCS] at hrz hs
    have FIN : Hid (OwnP (w.drew.alloc (.cells CS 123)) w.heap.size (.slice (some ⟨w.heap.size, 0, none⟩) 0 G) [] ∧ Below w.heap.size w (w.drew.alloc (.cells CS 123))) :=
      ⟨World.ownsRow_made w.drew CS G (Nat.le_refl _) hG63 hs, (Below.drew (Below.refl _ _)).alloc (Nat.le_refl _) _⟩
    have hGi : (n : Int) ≤ (G : Int) := by omega
    have hG0 : (0 : Int) ≤ (G : Int) := by omega
    have hG64 : (G : Int) ≤ 9223372036854775807 := by unfold maxLen at hG63; omega
    clear hG hCS hsz hs
    go_enter Tryz.func147, Tryz.ntmps147
    go_wp2_with (at_builtin; refine Lib.wpList_append_run _ rfl _ _ _ _ rfl _ _ rfl rfl _ _ (hrz _) ?_)
    go_ret
    exact ⟨_, rfl, FIN.out.1, FIN.out.2⟩

set_option maxRecDepth 100000 in
set_option maxHeartbeats 8000000 in
theorem concat_at (w : World) (g na nb ca cb : Nat) (x y : Option Addr) (ps qs : List Pr) (ha : ps.length = na) (hb : qs.length = nb) (la : na ≤ 127) (lb : nb ≤ 127) (hp : Prs w (.slice x na ca) ps) (hq : Prs w (.slice y nb cb) qs)
    (c0 : w.cell? ⟨g, 0, none⟩ = some (.slice x na ca)) (c1 : w.cell? ⟨g, 1, none⟩ = some (.slice y nb cb)) :
    Calls Tryz.prog 97 #[.slice (some ⟨g, 0, none⟩) 2 2] w fun e w' => ∃ v, e = .returned v ∧ OwnP w' w.heap.size v (ps ++ qs) ∧ Below w.heap.size w w' := by
  obtain ⟨i0, hi, hz0, hz1, hz2⟩ := info_parts pair_info
  have HA := Lib.hid ha
  have HB := Lib.hid hb
  have HP := Lib.hid hp
  have HQ := Lib.hid hq
  have C0 := Lib.hid c0
  have C1 := Lib.hid c1
  have n0 : ¬ (na : Int) < 0 := by omega
  have n1 : ¬ (na : Int) + (nb : Int) < 0 := by omega
  have KG : Hid (Calls Tryz.prog 147 #[.slice none 0 0, .int .i64 ((na : Int) + (nb : Int))] w fun e w' => ∃ v, e = .returned v ∧ OwnP w' w.heap.size v [] ∧ Below w.heap.size w w') := by
    have h := growNil_at (na + nb) w (by omega)
    rw [Int.natCast_add] at h
    exact h
  have NP : Hid (x = none → ps = [] ∧ na = 0 ∧ ca = 0) := fun e => by
    subst e
    rcases HP.out with ⟨e, h0⟩ | ⟨b, o, c, e, _⟩
    · injection e with e1 e2 e3; exact ⟨h0, e2, e3⟩
    · cases e
  have NQ : Hid (y = none → qs = [] ∧ nb = 0 ∧ cb = 0) := fun e => by
    subst e
    rcases HQ.out with ⟨e, h0⟩ | ⟨b, o, c, e, _⟩
    · injection e with e1 e2 e3; exact ⟨h0, e2, e3⟩
    · cases e
  have SX : Hid (∀ a, x = some a → ∃ b o, a = ⟨b, o, none⟩) := fun a e => by
    rcases HP.out with ⟨e', _⟩ | ⟨b, o, c, e', _⟩
    · rw [e] at e'; cases e'
    · rw [e] at e'; injection e' with e1; exact ⟨b, o, Option.some.inj e1⟩
  have SY : Hid (∀ a, y = some a → ∃ b o, a = ⟨b, o, none⟩) := fun a e => by
    rcases HQ.out with ⟨e', _⟩ | ⟨b, o, c, e', _⟩
    · rw [e] at e'; cases e'
    · rw [e] at e'; injection e' with e1; exact ⟨b, o, Option.some.inj e1⟩
  clear ha hb hp hq
  go_enter Tryz.func97, Tryz.ntmps97
  go_wp2
  refine wp_loop_rounds 3 ?_
  rw [rounds_succ]
  go_wp2
  rw [rounds_succ]
  go_wp2
  rw [rounds_succ]
  go_wp2_with fail
  refine KG.out.mono ?_
  rintro e w1 ⟨v, rfl, ho1, hb1⟩
  obtain ⟨z, cz, rfl, _, _⟩ := ho1.form
  have d0 := cell_later hb1 C0.out
  have d1 := cell_later hb1 C1.out
  have P1 := Lib.hid (HP.out.below hb1 (Nat.le_refl _))
  have Q1 := Lib.hid (HQ.out.below hb1 (Nat.le_refl _))
  have O1 : Hid (w1.ownsRow w.heap.size 123 2 (.slice z 0 cz) 0 []) := ho1
  have B1 := Lib.hid hb1
  have s1 := hb1.size
  have D1 := Lib.hid d1
  have gl : g < w.heap.size := World.block_lt_of_cell? _ _ C1.out
  clear ho1 hb1 c0 c1 KG
  simp only [List.length_nil]
  go_wp2
  refine wp_loop_rounds 3 ?_
  rw [rounds_succ]
  -- the first
  rcases hx : x with _ | ⟨bx, ox, sx⟩
  · subst hx
    obtain ⟨rfl, rfl, rfl⟩ := NP.out rfl
    rcases hy : y with _ | ⟨by', oy, sy⟩
    · subst hy
      obtain ⟨rfl, rfl, rfl⟩ := NQ.out rfl
      go_wp2_with (first | (at_builtin; refine wpList_append_own_none rfl _ _ 35 rfl w.heap.size 123 i0 2 Tryz.underlying35 hi (.slice z 0 cz) 0 [] rfl O1.out rfl ?_; have tok1 : True := trivial))
      rw [rounds_succ]
      go_wp2_with (first | (at_builtin; refine wpList_append_own_none rfl _ _ 35 rfl w.heap.size 123 i0 2 Tryz.underlying35 hi (.slice z 0 cz) 0 [] rfl O1.out rfl ?_; have tok2 : True := trivial))
      rw [rounds_succ]
      go_wp2
      go_ret
      exact ⟨_, rfl, O1.out, B1.out⟩
    · obtain ⟨by2, oy2, ey⟩ := SY.out _ hy
      obtain ⟨rfl, rfl, rfl⟩ : by' = by2 ∧ oy = oy2 ∧ sy = none := by injection ey with e1 e2 e3; exact ⟨e1, e2, e3⟩
      subst hy
      clear ey
      go_wp2_with (first | (at_builtin; refine wpList_append_own_none rfl _ _ 35 rfl w.heap.size 123 i0 2 Tryz.underlying35 hi (.slice z 0 cz) 0 [] rfl O1.out rfl ?_; have tok1 : True := trivial))
      rw [rounds_succ]
      go_wp2_with (first | (at_builtin; refine wpList_append_own _ rfl _ _ 35 rfl w.heap.size 123 i0 (.agg #[.int .i64 0, .int .i64 0]) 2 16 Tryz.underlying35 hi hz0 hz1 hz2 rfl (by decide) (.slice z 0 cz) 0 [] rfl O1.out ⟨by', oy, none⟩ nb cb (prs qs) rfl (by rw [prs_len, HB.out]) (Q1.out.news) (prs_one _) (by unfold maxLen; omega) (by omega) (by omega) ?_; intro v3 w3 ho3 hg3 _; have O3 := Lib.hid ho3; obtain ⟨z3, cz3, rfl⟩ := row_form ho3; have B3 := Lib.hid (B1.out.grown hg3 B1.out.size (fun k e => (O1.out.lt k e).1))))
      rw [rounds_succ]
      go_wp2
      go_ret
      refine ⟨_, rfl, ?_, B3.out⟩
      unfold OwnP
      have h := O3.out
      rw [← HB.out] at h ⊢
      simpa using h
  · obtain ⟨bx', ox', ex⟩ := SX.out _ hx
    obtain ⟨rfl, rfl, rfl⟩ : bx = bx' ∧ ox = ox' ∧ sx = none := by injection ex with e1 e2 e3; exact ⟨e1, e2, e3⟩
    subst hx
    clear ex
    rcases hy : y with _ | ⟨by', oy, sy⟩
    · subst hy
      obtain ⟨rfl, rfl, rfl⟩ := NQ.out rfl
      go_wp2_with (first | (at_builtin; refine wpList_append_own _ rfl _ _ 35 rfl w.heap.size 123 i0 (.agg #[.int .i64 0, .int .i64 0]) 2 16 Tryz.underlying35 hi hz0 hz1 hz2 rfl (by decide) (.slice z 0 cz) 0 [] rfl O1.out ⟨bx, ox, none⟩ na ca (prs ps) rfl (by rw [prs_len, HA.out]) (P1.out.news) (prs_one _) (by unfold maxLen; omega) (by omega) (by omega) ?_; intro v2 w2 ho2 hg2 _; simp only [Nat.zero_add, List.nil_append] at ho2; obtain ⟨z2, cz2, rfl⟩ := row_form ho2; have O2 := Lib.hid ho2; have B2 := Lib.hid (B1.out.grown hg2 B1.out.size (fun k e => (O1.out.lt k e).1)); have d2 := hg2.cell D1.out (fun e => by have := (O1.out.lt _ e.symm).1; simp only at this; omega); have s2 := hg2.size; have Q2 := Lib.hid (HQ.out.below B2.out (Nat.le_refl _))))
      rw [rounds_succ]
      go_wp2_with (first | (at_builtin; refine wpList_append_own_none rfl _ _ 35 rfl w.heap.size 123 i0 2 Tryz.underlying35 hi (.slice z2 na cz2) na (prs ps) rfl O2.out rfl ?_; have tok2 : True := trivial))
      rw [rounds_succ]
      go_wp2
      go_ret
      exact ⟨_, rfl, by rw [List.append_nil]; have h := O2.out; rw [← HA.out] at h ⊢; exact h, B2.out⟩
    · obtain ⟨by2, oy2, ey⟩ := SY.out _ hy
      obtain ⟨rfl, rfl, rfl⟩ : by' = by2 ∧ oy = oy2 ∧ sy = none := by injection ey with e1 e2 e3; exact ⟨e1, e2, e3⟩
      subst hy
      clear ey
      go_wp2_with (first | (at_builtin; refine wpList_append_own _ rfl _ _ 35 rfl w.heap.size 123 i0 (.agg #[.int .i64 0, .int .i64 0]) 2 16 Tryz.underlying35 hi hz0 hz1 hz2 rfl (by decide) (.slice z 0 cz) 0 [] rfl O1.out ⟨bx, ox, none⟩ na ca (prs ps) rfl (by rw [prs_len, HA.out]) (P1.out.news) (prs_one _) (by unfold maxLen; omega) (by omega) (by omega) ?_; intro v2 w2 ho2 hg2 _; simp only [Nat.zero_add, List.nil_append] at ho2; obtain ⟨z2, cz2, rfl⟩ := row_form ho2; have O2 := Lib.hid ho2; have B2 := Lib.hid (B1.out.grown hg2 B1.out.size (fun k e => (O1.out.lt k e).1)); have d2 := hg2.cell D1.out (fun e => by have := (O1.out.lt _ e.symm).1; simp only at this; omega); have s2 := hg2.size; have Q2 := Lib.hid (HQ.out.below B2.out (Nat.le_refl _))))
      rw [rounds_succ]
      go_wp2_with (first | (at_builtin; refine wpList_append_own _ rfl _ _ 35 rfl w.heap.size 123 i0 (.agg #[.int .i64 0, .int .i64 0]) 2 16 Tryz.underlying35 hi hz0 hz1 hz2 rfl (by decide) (.slice z2 na cz2) na (prs ps) rfl O2.out ⟨by', oy, none⟩ nb cb (prs qs) rfl (by rw [prs_len, HB.out]) (Q2.out.news) (prs_one _) (by unfold maxLen; omega) (by omega) (by omega) ?_; intro v3 w3 ho3 hg3 _; have O3 := Lib.hid ho3; obtain ⟨z3, cz3, rfl⟩ := row_form ho3; have B3 := Lib.hid (B2.out.grown hg3 B2.out.size (fun k e => (O2.out.lt k e).1))))
      rw [rounds_succ]
      go_wp2
      go_ret
      refine ⟨_, rfl, ?_, B3.out⟩
      unfold OwnP
      have h := O3.out
      rw [← HA.out, ← HB.out] at h ⊢
      rw [prs_append, List.length_append]
      exact h

end Go.Proofs.YtnoilafoeaknjaaGreat.K
