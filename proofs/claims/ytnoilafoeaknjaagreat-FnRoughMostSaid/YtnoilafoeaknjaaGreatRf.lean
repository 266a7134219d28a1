/-
  Several texts in one: DGet, DGet2, DJoin, DAdd.
-/
import Derived.Test.YtnoilafoeaknjaaGreatRd
import Derived.Test.YtnoilafoeaknjaaGreatRe
import Derived.RangeFuncBox
import Derived.RangeFuncNested
set_option linter.unusedVariables false
/-
  Drawn rough counts, with a thing, and two of them.
-/
namespace Go.Proofs.YtnoilafoeaknjaaGreat
open Go.RowKit Go.Sort

/-- What a draw may leave: of what was there nothing has turned. -/
theorem else_below {w w' : World} (h : Else w.heap.size w w') : Below w.heap.size w w' := below_grown h (Nat.le_refl _) (Nat.le_refl _)

end Go.Proofs.YtnoilafoeaknjaaGreat

/-
  A drawn rough count with a thing.
-/
namespace Go.Proofs.YtnoilafoeaknjaaGreat
open Go.RowKit Go.Sort

theorem RwsIn.later {B : Nat} {w w' : World} {u : Value} {rs : List (List Int)} (h : RwsIn B w u rs) {row : Option Nat} (hg : w.grownBy w' row) (hr : ∀ k, row = some k → k < B) : RwsIn B w' u rs := fun W hk hs =>
  h W (fun k h1 h2 => (hk k h1 (Nat.lt_of_lt_of_le h2 hg.size)).trans (hg.block k h2 (fun e => by have := hr k e.symm; omega))) (Nat.le_trans hg.size hs)

set_option maxHeartbeats 1000000 in
theorem drawGet_at (w : World) (v : Value) (n : Nat) (h : ∃ x cap, v = .slice x n cap) (hb : Bts w w.heap.size v n) :
    Calls Tryz.prog 29 #[v] w fun e w' => ∃ x m c rs t, e = .returned (.tuple #[.agg #[.slice x m c], .int .i64 t]) ∧ Rws w' (.slice x m c) rs ∧ -1 ≤ t ∧ t ≤ 64 ∧ Below w.heap.size w w' := by
  have hA := (Below.refl w.heap.size w).alloc (Nat.le_refl _) (.cells #[.slice none 0 0] 27)
  have hb' : Bts (w.alloc (.cells #[.slice none 0 0] 27)) (w.alloc (.cells #[.slice none 0 0] 27)).heap.size v n := by
    rcases hb with h0 | ⟨b, o, cap, hv, h1, h2, h3⟩
    · exact .inl h0
    · exact .inr ⟨b, o, cap, hv, h1, by simp; omega, fun i hi => by
        obtain ⟨z, hz, q⟩ := h3 i hi
        exact ⟨z, by rw [hA.cell (p := ⟨b, o + i, none⟩) h2]; exact hz, q⟩⟩
  have K := Lib.hid (open_rd _ v n h hb')
  have HA := Lib.hid hA
  clear h hb hb' hA
  go_enter Tryz.func29, Tryz.ntmps29
  go_wp2_with fail
  refine K.out.mono ?_
  rintro e w1 ⟨rfl, hr1, hb1⟩
  have cr : w1.cell? ⟨w.heap.size, 0, none⟩ = some (.slice none 0 0) := by rw [hb1.cell (by simp)]; simp
  have fr : w1.frozen? ⟨w.heap.size, 0, none⟩ = false := by rw [hb1.frozen (by simp)]; simp
  have L1 := Lib.hid (HA.out.trans (hb1.mono HA.out.size))
  have R1 := Lib.hid hr1
  clear hb1 hr1
  simp only [World.size_alloc] at R1 ⊢
  go_wp2_with fail
  refine (rough_at w1 (w.heap.size + 1) 0 R1.out (by omega) (by omega)).mono ?_
  rintro e w2 ⟨x, m, c, rs, q, rfl, hrs, q0, q1, hr2, hg⟩
  have cr2 := hg.cell cr (by simp)
  have fr2 : w2.frozen? ⟨w.heap.size, 0, none⟩ = false := by rw [hg.frozen_far ⟨w.heap.size, 0, none⟩ (World.block_lt_of_cell? _ _ cr) (by simp)]; exact fr
  have hL2 : Below w.heap.size w w2 := L1.out.trans (below_grown hg (by omega) L1.out.size)
  have l1 : w.heap.size + 1 < w1.heap.size := R1.out.lt
  have L2 := Lib.hid hL2
  have RS := Lib.hid hrs
  have R2 := Lib.hid hr2
  clear hg hrs hL2 cr fr hr2
  go_wp2_with fail
  refine (thing_at w2 (w.heap.size + 1) q R2.out (by omega) (by omega)).mono ?_
  rintro e w3 ⟨t, _, rfl, t0, t1, _, _, _, hg⟩
  have cr3 := hg.cell cr2 (by simp)
  have fr3 : w3.frozen? ⟨w.heap.size, 0, none⟩ = false := by rw [hg.frozen_far ⟨w.heap.size, 0, none⟩ (World.block_lt_of_cell? _ _ cr2) (by simp)]; exact fr2
  have hL3 : Below w.heap.size w w3 := L2.out.trans (below_grown hg (by omega) L2.out.size)
  have hw := (RS.out.later hg (fun k e => by cases e; omega)) (w3.setCell ⟨w.heap.size, 0, none⟩ (.slice x m c)) (fun k hk _ => heap_setCell_other w3 ⟨w.heap.size, 0, none⟩ k _ (by simp; omega)) (by simp)
  have HW := Lib.hid hw
  have L3 := Lib.hid hL3
  clear hg hw hL3 cr2 fr2
  go_wp2
  have hr := World.cell?_setCell_same w3 ⟨w.heap.size, 0, none⟩ (.slice x m c) cr3
  exact bodyPost_ret (v := .tuple #[.agg #[.slice x m c], .int .i64 t]) (by simp [results, Tryz.results29, go_sem, hr]) rfl ⟨_, _, _, rs, t, rfl, HW.out, t0, t1, L3.out.setCell (Nat.le_refl _) _⟩

end Go.Proofs.YtnoilafoeaknjaaGreat

/-
  Two drawn rough counts.
-/
namespace Go.Proofs.YtnoilafoeaknjaaGreat
open Go.RowKit Go.Sort

end Go.Proofs.YtnoilafoeaknjaaGreat

/-
  A drawn rough count with a thing and a number.
-/
namespace Go.Proofs.YtnoilafoeaknjaaGreat
open Go.RowKit Go.Sort

/-- The seven numbers. -/
def sevenV : Array Value := #[.int .i64 0, .int .i64 1, .int .i64 1, .int .i64 5, .int .i64 30, .int .i64 (-1), .int .i64 2000]
def numV (k : Int) : Int := ([0, 1, 1, 5, 30, -1, 2000] : List Int).getD k.toNat 0
theorem num_cases {k : Int} (h0 : 0 ≤ k) (h1 : k < 7) : k = 0 ∨ k = 1 ∨ k = 2 ∨ k = 3 ∨ k = 4 ∨ k = 5 ∨ k = 6 := by omega
theorem numV_bd {k : Int} (h0 : 0 ≤ k) (h1 : k < 7) : -1 ≤ numV k ∧ numV k ≤ 2000 := by
  rcases num_cases h0 h1 with rfl | rfl | rfl | rfl | rfl | rfl | rfl <;> decide
theorem seven_get {k : Int} (h0 : 0 ≤ k) (h1 : k < 7) : (#[.int .i64 0, .int .i64 1, .int .i64 1, .int .i64 5, .int .i64 30, .int .i64 (-1), .int .i64 2000] : Array Value)[k.toNat]? = some (.int .i64 (numV k)) := by
  rcases num_cases h0 h1 with rfl | rfl | rfl | rfl | rfl | rfl | rfl <;> rfl
theorem seven_at {k : Int} (h0 : 0 ≤ k) (h1 : k < 7) : ∀ h, ([.int .i64 0, .int .i64 1, .int .i64 1, .int .i64 5, .int .i64 30, .int .i64 (-1), .int .i64 2000] : List Value)[k.toNat]'h = .int .i64 (numV k) := by
  rcases num_cases h0 h1 with rfl | rfl | rfl | rfl | rfl | rfl | rfl <;> exact fun _ => rfl
/-- The block L, behind the reader a, holds the seven numbers. -/
def LitB (a : Nat) (W : World) (L : Nat) : Prop := a < L ∧ W.heap[L]? = some (.cells #[.int .i64 0, .int .i64 1, .int .i64 1, .int .i64 5, .int .i64 30, .int .i64 (-1), .int .i64 2000] 3 (0, 0))
theorem LitB.new {W : World} {a : Nat} (h : a < W.heap.size) : LitB a (W.alloc (.cells #[.int .i64 0, .int .i64 1, .int .i64 1, .int .i64 5, .int .i64 30, .int .i64 (-1), .int .i64 2000] 3)) W.heap.size := ⟨h, World.alloc_heap_new W _⟩
theorem LitB.kept {W W' : World} {a L : Nat} (h : LitB a W L) (hg : W.grownBy W' (some a)) : LitB a W' L :=
  ⟨h.1, (hg.block L (Array.getElem?_eq_some_iff.1 h.2).1 (by have := h.1; simp; omega)).trans h.2⟩
theorem LitB.cell {W : World} {a L : Nat} (h : LitB a W L) {k : Int} (h0 : 0 ≤ k) (h1 : k < 7) : W.cell? ⟨L, k.toNat, none⟩ = some (.int .i64 (numV k)) := by
  have e := seven_get h0 h1
  rcases num_cases h0 h1 with rfl | rfl | rfl | rfl | rfl | rfl | rfl <;> (simp [World.cell?, h.2]; rfl)
theorem RwsIn.base {B B' : Nat} {w : World} {u : Value} {rs : List (List Int)} (h : RwsIn B w u rs) (hB : B' ≤ B) : RwsIn B' w u rs := fun W hk hs => h W (fun k h1 h2 => hk k (Nat.le_trans hB h1) h2) hs
theorem RwsIn.alloc {B : Nat} {w : World} {u : Value} {rs : List (List Int)} (h : RwsIn B w u rs) (o : Obj) : RwsIn B (w.alloc o) u rs := h.later (World.grownBy_alloc w o none) (fun _ e => by cases e)
theorem add_end {w w4 : World} {B : Nat} {u : Value} {rs : List (List Int)} (h : RwsIn B w4 u rs) (hB : w.heap.size < B) (L : Below w.heap.size w w4) :
    (Rws (w4.setCell ⟨w.heap.size, 0, none⟩ u) u rs ∧ Below w.heap.size w (w4.setCell ⟨w.heap.size, 0, none⟩ u)) ∧
    ∀ o, Rws ((w4.setCell ⟨w.heap.size, 0, none⟩ u).alloc o) u rs ∧ Below w.heap.size w ((w4.setCell ⟨w.heap.size, 0, none⟩ u).alloc o) := by
  have b1 := L.setCell (p := ⟨w.heap.size, 0, none⟩) (Nat.le_refl _) u
  have e1 : ∀ k, B ≤ k → (w4.setCell ⟨w.heap.size, 0, none⟩ u).heap[k]? = w4.heap[k]? := fun k hk => heap_setCell_other w4 ⟨w.heap.size, 0, none⟩ k _ (by simp; omega)
  refine ⟨⟨h _ (fun k h1 _ => e1 k h1) (by simp), b1⟩, fun o => ⟨h _ (fun k h1 h2 => (heap_alloc_old _ o (by simpa using h2)).trans (e1 k h1)) (by simp), b1.alloc b1.size o⟩⟩


end Go.Proofs.YtnoilafoeaknjaaGreat
