/-
  A rough count of nothing, of the program and of its model.
-/
import Derived.Test.YteopnbjiffncbabOwn
import Derived.Deep.RegionLaw
import Derived.Deep.DrawnRows
import Derived.OneCell
namespace Go.Proofs.Yteopnbjiffncbab
open Go.RowKit

def zeros : List Int := [0, 0, 0, 0, 0, 0, 0, 0]
theorem info_int : (Try.prog.info? 3).map (fun i => (i.zero, i.size, i.bytes)) = some (some (.int .i64 0), 1, 8) := by kernel_rfl
theorem info_ints : (Try.prog.info? 41).map (fun i => (i.zero, i.size, i.bytes)) = some (some (.slice none 0 0), 1, 24) := by kernel_rfl
theorem make8 : ∀ w, (Instr.makeSlice 41 (.int .i64 8) (.int .i64 8)).run Try.prog w = .ok (.slice (some ⟨w.heap.size, 0, none⟩) 8 8) (w.alloc (.cells (ints zeros).toArray 3)) := fun _ => by kernel_rfl
theorem make3 : ∀ w, (Instr.makeSlice 22 (.int .i64 3) (.int .i64 3)).run Try.prog w = .ok (.slice (some ⟨w.heap.size, 0, none⟩) 3 3) (w.alloc (.cells #[.slice none 0 0, .slice none 0 0, .slice none 0 0] 41)) := fun _ => by kernel_rfl

def zero3 : List (List Int) := [zeros, zeros, zeros]

theorem cell_block {w : World} {b : Nat} {u : Value} {t : TypeId} (h : w.heap[b]? = some (.cells #[u] t (0, 0))) : w.cell? ⟨b, 0, none⟩ = some u ∧ w.frozen? ⟨b, 0, none⟩ = false ∧ b < w.heap.size :=
  ⟨by simp [World.cell?, h], by simp [World.frozen?, h], (Array.getElem?_eq_some_iff.1 h).1⟩

theorem OwnR.nil (w : World) (B : Nat) : OwnR w B (.slice none 0 0) [] (fun _ => 0) (fun _ => 0) :=
  ⟨World.ownsRow_nil w B _ 1, fun i h => absurd h (Nat.not_lt_zero i), fun i h => absurd h (Nat.not_lt_zero i), fun i _ h => absurd h (Nat.not_lt_zero i)⟩

theorem OwnR.hdr_lt {w : World} {B : Nat} {u : Value} {rs : List (List Int)} {G C : Nat → Nat} (h : OwnR w B u rs G C) : ∀ k, u.ownBlock = some k → B ≤ k ∧ k < w.heap.size := h.hdr.lt

theorem block_keep {w w' : World} {row : Option Nat} {b : Nat} {o : Obj} (h : w.heap[b]? = some o) (hg : w.grownBy w' row) (hr : row ≠ some b) : w'.heap[b]? = some o := by
  rw [hg.block b (Array.getElem?_eq_some_iff.1 h).1 (fun e => hr e.symm)]; exact h

theorem make_own (w : World) (B : Nat) (zs : List Int) (hB : B ≤ w.heap.size) (hl : zs.length ≤ maxLen) :
    (w.alloc (.cells (ints zs).toArray 3)).ownsRow B 3 1 (.slice (some ⟨w.heap.size, 0, none⟩) zs.length zs.length) zs.length (ints zs) := by
  have := World.ownsRow_lit (base := B) (e := 3) (size := 1) w (ints zs).toArray zs.length hB hl (by simp [ints])
  simpa using this

theorem new2 (w : World) (o o' : Obj) : ((w.alloc o).alloc o').drew.heap[w.heap.size + 1]? = some o' := by
  have := heap_alloc_new (w.alloc o) o'
  rw [show (w.alloc o).heap.size = w.heap.size + 1 by simp] at this
  exact this

theorem box_far {w w1 : World} {o o' : Obj} {b : Nat} {u : Value} {row : Option Nat} (c : w.cell? ⟨b, 0, none⟩ = some u) (f : w.frozen? ⟨b, 0, none⟩ = false) (l : b < w.heap.size)
    (hg : ((w.alloc o).alloc o').drew.grownBy w1 row) (hr : row ≠ some b) : w1.cell? ⟨b, 0, none⟩ = some u ∧ w1.frozen? ⟨b, 0, none⟩ = false := by
  have l1 : b < (w.alloc o).heap.size := by simp; omega
  have l2 : b < ((w.alloc o).alloc o').drew.heap.size := by simp; omega
  rw [hg.cell_far ⟨b, 0, none⟩ l2 (Ne.symm hr), hg.frozen_far ⟨b, 0, none⟩ l2 (Ne.symm hr)]
  simp only [World.cell?_drew, World.frozen?_drew]
  rw [World.cell?_alloc_past _ _ _ l1, World.cell?_alloc_past _ _ _ l, World.frozen?_alloc_past _ _ _ l1, World.frozen?_alloc_past _ _ _ l]
  exact ⟨c, f⟩

theorem grownBy_drew {w w' : World} {row : Option Nat} (h : w.grownBy w' row) : w.grownBy w'.drew row := ⟨h.os, h.tape, h.output, h.size, h.block⟩

/-- What a round that appends a row makes of the rows so far, which lie behind the box R. -/
theorem row_added {w wr X w1 : World} {S R B W g c gg cap : Nat} {o : Obj} {u : Value} {t : TypeId} {rs : List (List Int)} {G C : Nat → Nat} {zs : List Int}
    (HO : OwnR wr B u rs G C) (hX : wr.grownBy X none) (hz : X.ownsRow B 3 1 (.slice (some ⟨g, 0, none⟩) zs.length c) zs.length (ints zs)) (hg : wr.heap.size ≤ g)
    (hown1 : w1.ownsRow B 41 1 (.slice (some ⟨gg, 0, none⟩) (rs.length + 1) cap) (rs.length + 1) ((List.range rs.length).map (rowV rs G C) ++ [.slice (some ⟨g, 0, none⟩) zs.length c]))
    (hgrow : X.grownBy w1 u.ownBlock) (hat : u.ownBlock = some gg ∨ gg = X.heap.size)
    (hR : wr.heap[R]? = some (.cells #[u] t (0, 0))) (hS : wr.heap[S]? = some o) (hRB : R < B) (hSB : S < B) (hSR : S ≠ R) (hbl : Below W w wr) (hWR : W ≤ R) (hWw : W ≤ w.heap.size) :
    ∃ G' C', OwnR (w1.setCell ⟨R, 0, none⟩ (.slice (some ⟨gg, 0, none⟩) (rs.length + 1) cap)) B (.slice (some ⟨gg, 0, none⟩) (rs.length + 1) cap) (rs ++ [zs]) G' C' ∧
      (w1.setCell ⟨R, 0, none⟩ (.slice (some ⟨gg, 0, none⟩) (rs.length + 1) cap)).heap[S]? = some o ∧
      (w1.setCell ⟨R, 0, none⟩ (.slice (some ⟨gg, 0, none⟩) (rs.length + 1) cap)).heap[R]? = some (.cells #[.slice (some ⟨gg, 0, none⟩) (rs.length + 1) cap] t (0, 0)) ∧
      Below W w (w1.setCell ⟨R, 0, none⟩ (.slice (some ⟨gg, 0, none⟩) (rs.length + 1) cap)) := by
  have lt : ∀ k, u.ownBlock = some k → B ≤ k ∧ k < wr.heap.size := HO.hdr_lt
  have HX := HO.grown hX (fun _ e => by cases e)
  have h1 := HX.snoc hz (fun e => by have := (lt g e).2; omega) (fun i hi e => by have := ((HO.row i hi).lt (G i) rfl).2; omega) hown1 hgrow hat
  have hRX := block_keep hR hX (by simp)
  have hSX := block_keep hS hX (by simp)
  have hR1 := block_keep hRX hgrow (fun e => by have := (lt R e).1; omega)
  have hS1 := block_keep hSX hgrow (fun e => by have := (lt S e).1; omega)
  refine ⟨_, _, h1.grown (grownBy_setCell w1 ⟨R, 0, none⟩ _) (fun k e => by simp at e; omega), ?_, ?_, ?_⟩
  · rw [heap_setCell_other w1 ⟨R, 0, none⟩ S _ hSR]; exact hS1
  · exact one_setCell hR1
  · have hXb : Below W w X := hbl.trans ⟨hX.os, hX.tape, hX.output, hX.size, fun k hk => hX.block k (Nat.lt_of_lt_of_le hk (Nat.le_trans hWw hbl.size)) (by simp)⟩
    have h1b : Below W w w1 := hXb.grown hgrow (Nat.le_trans hWw hXb.size) (fun k e => by have := (lt k e).1; omega)
    exact h1b.setCell (by simpa using hWR) _

set_option maxRecDepth 100000 in
set_option maxHeartbeats 2000000 in
theorem spNew_at (w : World) :
    Calls Try.prog 14 #[] w fun e w' => ∃ u G C, e = .returned (.agg #[u]) ∧ OwnR w' w.heap.size u zero3 G C ∧ Below w.heap.size w w' := by
  have m8 := make8
  obtain ⟨i0, hi, hz0, hz1, hz2⟩ := info_parts info_ints
  go_enter Try.func14, Try.ntmps14
  go_wp2
  go_loopw [2] (fun i wr => ∃ (k : Nat) (rs : List (List Int)) (u : Value) (G C : Nat → Nat), k ≤ 3 ∧ i = .int .i64 k ∧ rs = List.replicate k zeros ∧ OwnR wr (w.heap.size + 2) u rs G C ∧
      wr.heap[w.heap.size]? = some (.cells #[.slice none 0 0] 24 (0, 0)) ∧ wr.heap[w.heap.size + 1]? = some (.cells #[u] 24 (0, 0)) ∧ Below w.heap.size w wr) (fun i _ => 3 - (intOf i).toNat)
  case atStart =>
    refine ⟨0, _, _, _, _, Nat.zero_le _, rfl, rfl, OwnR.nil _ _, ?_, ?_, ((Below.refl _ _).alloc (Nat.le_refl _) _).alloc (by simp) _⟩
    · exact (heap_alloc_old _ _ (by simp)).trans (heap_alloc_new _ _)
    · have := heap_alloc_new (w.alloc (Obj.cells #[Value.slice none 0 0] 24)) (Obj.cells #[Value.slice none 0 0] 24)
      simpa using this
  case round =>
    obtain ⟨k, rs, u, G, C, hk, rfl, hrs, hown, hS, hR, hbl⟩ := hrel
    have HRS := Lib.hid hrs
    have hn : rs.length ≤ 3 := by rw [hrs]; simpa using hk
    clear hrs
    obtain ⟨c1, f1, l1⟩ := cell_block hR
    have hb0 : w.heap.size + 2 ≤ wr.heap.size := by omega
    have l2 : w.heap.size + 1 < wr.heap.size + 1 := by omega
    have hub : u.ownBlock ≠ some (w.heap.size + 1) := fun e => by have := (hown.hdr_lt _ e).1; omega
    have HO := Lib.hid hown
    have HS := Lib.hid hS
    have HR := Lib.hid hR
    have HB := Lib.hid hbl
    clear hown hS hR hbl
    by_cases hlt : k < 3
    · go_wp2_with fail
      go_region_law
        ((refine step_append_lies _ (by rfl) _ _ _ (by rfl) (w.heap.size + 2) 41 i0 _ 1 24 Try.underlying22 hi hz0 hz1 hz2 rfl (by omega) u rs.length _ (by rfl) (((HO.out.hdr.alloc _).alloc _).drew)
            ⟨wr.heap.size + 1, 0, none⟩ 1 1 [.slice (some ⟨wr.heap.size, 0, none⟩) 8 8] (by rfl) (by rfl) (World.news_of_block (cs := #[.slice (some ⟨wr.heap.size, 0, none⟩) 8 8]) (t := 41) (fr := (0, 0)) (new2 _ _ _)) (by simp [Value.oneCell'])
            (by omega) (by unfold maxLen; omega) (by omega) (by simp; omega) (wr.heap.size + 2) (by simp) ?_; intro gg cap w1 hown1 hgrow hat hlt1; have d1 := box_far c1 f1 l1 hgrow hub; obtain ⟨d2, d3⟩ := d1))
      all_goals
        have hX : wr.grownBy ((wr.alloc (.cells (ints zeros).toArray 3)).alloc (.cells #[.slice (some ⟨wr.heap.size, 0, none⟩) 8 8] 41)).drew none :=
          grownBy_drew (grownBy_trans (World.grownBy_alloc wr _ none) (World.grownBy_alloc _ _ none))
        have hz := (((make_own wr (w.heap.size + 2) zeros hb0 (by simp [zeros, maxLen])).alloc (.cells #[.slice (some ⟨wr.heap.size, 0, none⟩) 8 8] 41)).drew)
        have fin := row_added HO.out hX hz (Nat.le_refl _) hown1 hgrow (by simpa using hat) HR.out HS.out (by omega) (by omega) (by omega) HB.out (by omega) (Nat.le_refl _)
        have FIN := Lib.hid fin
        clear fin hX hz hown1 hgrow hat
        go_wp2
        go_roundw
        case rel =>
          obtain ⟨G', C', q1, q2, q3, q4⟩ := FIN.out
          exact ⟨k + 1, rs ++ [zeros], _, G', C', by omega, by go_num, by rw [HRS.out, List.replicate_succ'], q1, q2, q3, q4⟩
        case measure => simp [intOf]; omega
    · obtain ⟨s1, s2, s3⟩ := cell_block HS.out
      have h3 : rs.length = 3 := by rw [HRS.out]; simp; omega
      obtain ⟨g, cap, hu, hg1, hg2⟩ := World.ownsRow.form HO.out.hdr (by omega)
      subst hu
      have e3 : rs = zero3 := by rw [HRS.out, show k = 3 by omega]; rfl
      have hw := HO.out.grown (grownBy_setCell wr ⟨w.heap.size, 0, none⟩ (.slice (some ⟨g, 0, none⟩) rs.length cap)) (fun k e => by simp at e; omega)
      have hb := HB.out.setCell (p := ⟨w.heap.size, 0, none⟩) (Nat.le_refl _) (.slice (some ⟨g, 0, none⟩) rs.length cap)
      rw [e3] at hw hb
      have H1 := Lib.hid hw
      have H2 := Lib.hid hb
      have E3 := Lib.hid e3
      clear hw hb h3 e3
      go_wp2
      rw [E3.out]
      have hr := World.cell?_setCell_same wr ⟨w.heap.size, 0, none⟩ (.slice (some ⟨g, 0, none⟩) zero3.length cap) s1
      exact bodyPost_ret (v := .agg #[.slice (some ⟨g, 0, none⟩) zero3.length cap]) (by simp [results, Try.results14, go_sem, hr]) rfl ⟨_, G, C, rfl, H1.out.base (by omega), H2.out⟩

end Go.Proofs.Yteopnbjiffncbab
