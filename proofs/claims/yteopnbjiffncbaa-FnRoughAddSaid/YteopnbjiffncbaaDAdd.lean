/-
  A drawn rough count with a thing and a number.
-/
import Derived.Test.YteopnbjiffncbaaDGet2
import Derived.RangeFuncBox
import Derived.RangeFuncNested
namespace Go.Proofs.Yteopnbjiffncbaa
open Go.RowKit Go.Sort

/-- The seven numbers. -/
def sevenV : Array Value := #[.int .i64 0, .int .i64 1, .int .i64 1, .int .i64 5, .int .i64 30, .int .i64 (-1), .int .i64 2000]
def numV (k : Int) : Int := ([0, 1, 1, 5, 30, -1, 2000] : List Int).getD k.toNat 0
theorem num_cases {k : Int} (h0 : 0 ≤ k) (h1 : k < 7) : k = 0 ∨ k = 1 ∨ k = 2 ∨ k = 3 ∨ k = 4 ∨ k = 5 ∨ k = 6 := by omega
theorem numV_bd {k : Int} (h0 : 0 ≤ k) (h1 : k < 7) : -1 ≤ numV k ∧ numV k ≤ 2000 := by
  rcases num_cases h0 h1 with rfl | rfl | rfl | rfl | rfl | rfl | rfl <;> decide
theorem seven_get {k : Int} (h0 : 0 ≤ k) (h1 : k < 7) : (#[.int .i64 0, .int .i64 1, .int .i64 1, .int .i64 5, .int .i64 30, .int .i64 (-1), .int .i64 2000] : Array Value)[k.toNat]? = some (.int .i64 (numV k)) := by
  rcases num_cases h0 h1 with rfl | rfl | rfl | rfl | rfl | rfl | rfl <;> rfl
theorem seven_at {k : Int} (h0 : 0 ≤ k) (h1 : k < 7) : ∀ h, ([.int .i64 0, .int .i64 1, .int .i64 1, .int .i64 5, .int .i64 30, .int .i64 (-1), .int .i64 2000] : List Value)[k.toNat]'h = .int .i64 (numV k) := by
  rcases num_cases h0 h1 with rfl | rfl | rfl | rfl | rfl | rfl | rfl <;> exact fun _ => rfl
/-- The block L, behind the reader a, holds the seven numbers. -/
def LitB (a : Nat) (W : World) (L : Nat) : Prop := a < L ∧ W.heap[L]? = some (.cells #[.int .i64 0, .int .i64 1, .int .i64 1, .int .i64 5, .int .i64 30, .int .i64 (-1), .int .i64 2000] 3 (0, 0))
theorem LitB.new {W : World} {a : Nat} (h : a < W.heap.size) : LitB a (W.alloc (.cells #[.int .i64 0, .int .i64 1, .int .i64 1, .int .i64 5, .int .i64 30, .int .i64 (-1), .int .i64 2000] 3)) W.heap.size := ⟨h, World.alloc_heap_new W _⟩
theorem LitB.kept {W W' : World} {a L : Nat} (h : LitB a W L) (hg : W.grownBy W' (some a)) : LitB a W' L :=
  ⟨h.1, (hg.block L (Array.getElem?_eq_some_iff.1 h.2).1 (by have := h.1; simp; omega)).trans h.2⟩
theorem LitB.cell {W : World} {a L : Nat} (h : LitB a W L) {k : Int} (h0 : 0 ≤ k) (h1 : k < 7) : W.cell? ⟨L, k.toNat, none⟩ = some (.int .i64 (numV k)) := by
  have e := seven_get h0 h1
  rcases num_cases h0 h1 with rfl | rfl | rfl | rfl | rfl | rfl | rfl <;> (simp [World.cell?, h.2]; rfl)
theorem RwsIn.base {B B' : Nat} {w : World} {u : Value} {rs : List (List Int)} (h : RwsIn B w u rs) (hB : B' ≤ B) : RwsIn B' w u rs := fun W hk hs => h W (fun k h1 h2 => hk k (Nat.le_trans hB h1) h2) hs
theorem RwsIn.alloc {B : Nat} {w : World} {u : Value} {rs : List (List Int)} (h : RwsIn B w u rs) (o : Obj) : RwsIn B (w.alloc o) u rs := h.later (World.grownBy_alloc w o none) (fun _ e => by cases e)
theorem add_end {w w4 : World} {B : Nat} {u : Value} {rs : List (List Int)} (h : RwsIn B w4 u rs) (hB : w.heap.size < B) (L : Below w.heap.size w w4) :
    (Rws (w4.setCell ⟨w.heap.size, 0, none⟩ u) u rs ∧ Below w.heap.size w (w4.setCell ⟨w.heap.size, 0, none⟩ u)) ∧
    ∀ o, Rws ((w4.setCell ⟨w.heap.size, 0, none⟩ u).alloc o) u rs ∧ Below w.heap.size w ((w4.setCell ⟨w.heap.size, 0, none⟩ u).alloc o) := by
  have b1 := L.setCell (p := ⟨w.heap.size, 0, none⟩) (Nat.le_refl _) u
  have e1 : ∀ k, B ≤ k → (w4.setCell ⟨w.heap.size, 0, none⟩ u).heap[k]? = w4.heap[k]? := fun k hk => heap_setCell_other w4 ⟨w.heap.size, 0, none⟩ k _ (by simp; omega)
  refine ⟨⟨h _ (fun k h1 _ => e1 k h1) (by simp), b1⟩, fun o => ⟨h _ (fun k h1 h2 => (heap_alloc_old _ o (by simpa using h2)).trans (e1 k h1)) (by simp), b1.alloc b1.size o⟩⟩

set_option maxHeartbeats 8000000 in
theorem drawAdd_at (w : World) (v : Value) (n : Nat) (h : ∃ x cap, v = .slice x n cap) (hb : Bts w w.heap.size v n) :
    Calls Try.prog 17 #[v] w fun e w' => ∃ x m c rs t k, e = .returned (.tuple #[.agg #[.slice x m c], .int .i64 t, .int .i64 k]) ∧ Rws w' (.slice x m c) rs ∧ -1 ≤ t ∧ t ≤ 64 ∧ -1 ≤ k ∧ k ≤ 2000 ∧ Below w.heap.size w w' := by
  have hA := (Below.refl w.heap.size w).alloc (Nat.le_refl _) (.cells #[.slice none 0 0] 29)
  have XRa : Go.Boxed (w.alloc (.cells #[.slice none 0 0] 29)) w.heap.size 29 (.slice none 0 0) := Go.Boxed.new _ _ _
  have K := Lib.hid (open_rd _ v n h (bts_below hb hA))
  have HA := Lib.hid hA
  clear h hb hA
  go_enter Try.func17, Try.ntmps17
  go_wp2_with fail
  refine K.out.mono ?_
  rintro e w1 ⟨rfl, hr1, hb1⟩
  have hX : Go.Boxed w1 w.heap.size 29 (.slice none 0 0) := (hb1.block _ XRa.lt).trans XRa
  have hL : Below w.heap.size w w1 := HA.out.trans (hb1.mono HA.out.size)
  simp only [World.size_alloc] at hr1 ⊢
  have l1 : w.heap.size + 1 < w1.heap.size := hr1.lt
  have cr1 := hX.cell
  have fr1 := hX.frozen
  have L0 : Hid (Below w.heap.size w w1.drew) := Lib.hid (hL.trans (Below.drew (Below.refl _ _)))
  have R0 : Hid (Rd w1.drew (w.heap.size + 1) 0) := Lib.hid (show Rd w1.drew _ _ from hr1)
  have X0 : Hid (Go.Boxed w1.drew w.heap.size 29 (.slice none 0 0)) := Lib.hid hX
  have LE0 := Lib.hid (L0.out.alloc L0.out.size (.cells #[.int .i64 0, .int .i64 1, .int .i64 1, .int .i64 5, .int .i64 30, .int .i64 (-1), .int .i64 2000] 3))
  have RE0 := Lib.hid (R0.out.alloc (.cells #[.int .i64 0, .int .i64 1, .int .i64 1, .int .i64 5, .int .i64 30, .int .i64 (-1), .int .i64 2000] 3))
  have XE0 := Lib.hid (X0.out.alloc (.cells #[.int .i64 0, .int .i64 1, .int .i64 1, .int .i64 5, .int .i64 30, .int .i64 (-1), .int .i64 2000] 3))
  have PE0 : Hid (LitB (w.heap.size + 1) (w1.drew.alloc (.cells #[.int .i64 0, .int .i64 1, .int .i64 1, .int .i64 5, .int .i64 30, .int .i64 (-1), .int .i64 2000] 3)) w1.heap.size) := Lib.hid (LitB.new (W := w1.drew) l1)
  clear hb1 hX hL XRa hr1
  go_wp2_with fail
  go_region_with (first
    | (go_at_call 38; refine (rough_at _ (w.heap.size + 1) 0 ?_ (by omega) (by omega)).mono ?_; (first | exact RE0.out | exact R0.out); rintro e w2 ⟨x, m, c, rs, q, rfl, hrs, q0, q1, hr, hg⟩; (first | (have X1 := Lib.hid (XE0.out.kept hg (by simp)); have L1 := Lib.hid (LE0.out.trans (below_grown hg (by omega) LE0.out.size)); have P1 := Lib.hid (PE0.out.kept hg); have RW1 : Hid (RwsIn w1.heap.size w2 (.slice x m c) rs) := Lib.hid (hrs.base (by simp))) | (have X1 := Lib.hid (X0.out.kept hg (by simp)); have L1 := Lib.hid (L0.out.trans (below_grown hg (by omega) L0.out.size)); have RW1 : Hid (RwsIn w1.heap.size w2 (.slice x m c) rs) := Lib.hid (hrs.base (by simp)))); have R1 := Lib.hid hr; have l2 := hr.lt; have LE1 := Lib.hid (L1.out.alloc L1.out.size (.cells #[.int .i64 0, .int .i64 1, .int .i64 1, .int .i64 5, .int .i64 30, .int .i64 (-1), .int .i64 2000] 3)); have RE1 := Lib.hid (R1.out.alloc (.cells #[.int .i64 0, .int .i64 1, .int .i64 1, .int .i64 5, .int .i64 30, .int .i64 (-1), .int .i64 2000] 3)); have XE1 := Lib.hid (X1.out.alloc (.cells #[.int .i64 0, .int .i64 1, .int .i64 1, .int .i64 5, .int .i64 30, .int .i64 (-1), .int .i64 2000] 3)); have RWE1 := Lib.hid (RW1.out.alloc (.cells #[.int .i64 0, .int .i64 1, .int .i64 1, .int .i64 5, .int .i64 30, .int .i64 (-1), .int .i64 2000] 3)); have PE1 := Lib.hid (LitB.new (W := w2) l2); clear hr hg hrs)
    | (go_at_call 34; refine (thing_at _ (w.heap.size + 1) q ?_ (by omega) (by omega)).mono ?_; (first | exact RE1.out | exact R1.out); rintro e w3 ⟨t, q', rfl, t0, t1, q2, q3, hr, hg⟩; (first | (have X2 := Lib.hid (XE1.out.kept hg (by simp)); have L2 := Lib.hid (LE1.out.trans (below_grown hg (by omega) LE1.out.size)); have P2 := Lib.hid (PE1.out.kept hg); have RW2 := Lib.hid (RWE1.out.later hg (fun k e => by cases e; omega))) | (have X2 := Lib.hid (X1.out.kept hg (by simp)); have L2 := Lib.hid (L1.out.trans (below_grown hg (by omega) L1.out.size)); (try have P2 := Lib.hid (P1.out.kept hg)); have RW2 := Lib.hid (RW1.out.later hg (fun k e => by cases e; omega)))); have R2 := Lib.hid hr; have l3 := hr.lt; have LE2 := Lib.hid (L2.out.alloc L2.out.size (.cells #[.int .i64 0, .int .i64 1, .int .i64 1, .int .i64 5, .int .i64 30, .int .i64 (-1), .int .i64 2000] 3)); have RE2 := Lib.hid (R2.out.alloc (.cells #[.int .i64 0, .int .i64 1, .int .i64 1, .int .i64 5, .int .i64 30, .int .i64 (-1), .int .i64 2000] 3)); have XE2 := Lib.hid (X2.out.alloc (.cells #[.int .i64 0, .int .i64 1, .int .i64 1, .int .i64 5, .int .i64 30, .int .i64 (-1), .int .i64 2000] 3)); have RWE2 := Lib.hid (RW2.out.alloc (.cells #[.int .i64 0, .int .i64 1, .int .i64 1, .int .i64 5, .int .i64 30, .int .i64 (-1), .int .i64 2000] 3)); have PE2 := Lib.hid (LitB.new (W := w3) l3); clear hr hg)
    | (go_at_call 33; refine (pick_at _ (w.heap.size + 1) q' 7 ?_ (by omega) (by omega) (by omega) (by omega)).mono ?_; (first | exact RE2.out | exact R2.out); rintro e w4 ⟨k, rfl, k0, k1, hr, hg⟩; (first | (have X3 := Lib.hid (XE2.out.kept hg (by simp)); have L3 := Lib.hid (LE2.out.trans (below_grown hg (by omega) LE2.out.size)); have P3 := Lib.hid (PE2.out.kept hg); have RW3 := Lib.hid (RWE2.out.later hg (fun k e => by cases e; omega))) | (have X3 := Lib.hid (X2.out.kept hg (by simp)); have L3 := Lib.hid (L2.out.trans (below_grown hg (by omega) L2.out.size)); (try have P3 := Lib.hid (P2.out.kept hg)); have RW3 := Lib.hid (RW2.out.later hg (fun k e => by cases e; omega)))); have l4 := hr.lt; have cr3 := X3.out.cell; have fr3 := X3.out.frozen; have lr3 := X3.out.lt; have sg := seven_get k0 k1; (try have nc := P3.out.cell k0 k1); clear hr hg))
  all_goals
    go_wp2_with fail
    have hr := World.cell?_setCell_same w4 ⟨w.heap.size, 0, none⟩ (.slice x m c) cr3
    have FIN := add_end RW3.out (by omega) L3.out
    have nb := numV_bd k0 k1
    first
    | exact bodyPost_ret (v := .tuple #[.agg #[.slice x m c], .int .i64 t, .int .i64 (numV k)]) (by simp [results, Try.results17, go_sem, hr]) rfl ⟨_, _, _, rs, t, numV k, rfl, FIN.1.1, t0, t1, nb.1, nb.2, FIN.1.2⟩
    | exact bodyPost_ret (v := .tuple #[.agg #[.slice x m c], .int .i64 t, .int .i64 (numV k)]) (by simp [results, Try.results17, go_sem, hr, lr3]; exact seven_at k0 k1 _) rfl ⟨_, _, _, rs, t, numV k, rfl, (FIN.2 _).1, t0, t1, nb.1, nb.2, (FIN.2 _).2⟩

end Go.Proofs.Yteopnbjiffncbaa
