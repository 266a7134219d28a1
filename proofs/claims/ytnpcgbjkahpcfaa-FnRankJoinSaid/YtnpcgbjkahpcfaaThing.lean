/-
  Things, and places, that are drawn from a code.
-/
import Derived.Test.YtnpcgbjkahpcfaaDraw
import Derived.OpenShut
namespace Go.Proofs.Ytnpcgbjkahpcfaa
open Go.RowKit

theorem Rd.alloc {w : World} {a : Nat} {p : Int} (h : Rd w a p) (o : Obj) : Rd (w.alloc o) a p := h.grown (World.grownBy_alloc w o none) (fun _ h => by cases h)
theorem grownBy_alloc' {w w' : World} {row : Option Nat} (h : w.grownBy w' row) (o : Obj) : w.grownBy (w'.alloc o) row := grownBy_trans h (World.grownBy_alloc w' o row)

set_option maxHeartbeats 1000000 in
/-- A thing that is drawn, seldom none. -/
theorem thing_at (w : World) (a : Nat) (p : Int) (h : Rd w a p) (hp : 0 ≤ p) (hp' : p ≤ 90000) :
    Calls Try.prog 49 #[.pointer (some ⟨a, 0, none⟩)] w fun e w' => ∃ v q, e = .returned (.int .i64 v) ∧ -1 ≤ v ∧ v ≤ 64 ∧ p ≤ q ∧ q ≤ p + 2 ∧ Rd w' a q ∧ w.grownBy w' (some a) := by
  have hlt := h.lt
  have H := Lib.hid h
  clear h
  go_enter Try.func49, Try.ntmps49
  go_wp2_with fail
  refine (pick_at w a p 12 H.out hp (by omega) (by omega) (by omega)).mono ?_
  rintro e w1 ⟨k, rfl, k0, k1, hr1, hg1⟩
  have HR := Lib.hid hr1
  have HG := Lib.hid hg1
  clear hr1 hg1
  rcases (by omega : k = 0 ∨ (k = 1 ∨ k = 2 ∨ k = 3) ∨ (4 ≤ k)) with rfl | hk | hk
  · go_wp2_with fail
    refine (pick_at _ a (p + 1) 4 (HR.out.alloc _) (by omega) (by omega) (by omega) (by omega)).mono ?_
    rintro e w2 ⟨v, rfl, v0, v1, hr2, hg2⟩
    have hne : some w1.heap.size ≠ some a := by have := HR.out.lt; simp; omega
    have hc := fun (i : Nat) (u : Value) (h : (#[.int .i64 (-1), .int .i64 64, .int .i64 0, .int .i64 63] : Array Value)[i]? = some u) => hg2.cell (a := ⟨w1.heap.size, i, none⟩) (by rw [World.cell?_alloc_at _ _ _ _ rfl]; exact h) hne
    have HR2 := Lib.hid hr2
    have HG2 := Lib.hid (grownBy_trans (grownBy_alloc' HG.out _) hg2)
    have Hc := Lib.hid hc
    clear hr2 hg2 hc hne
    rcases (by omega : v = 0 ∨ v = 1 ∨ v = 2 ∨ v = 3) with rfl | rfl | rfl | rfl
    · have e0 := Hc.out 0 _ rfl
      go_wp2
      go_ret
      exact ⟨-1, p + 1 + 1, rfl, by omega, by omega, by omega, by omega, HR2.out, HG2.out⟩
    · have e0 := Hc.out 1 _ rfl
      go_wp2
      go_ret
      exact ⟨64, p + 1 + 1, rfl, by omega, by omega, by omega, by omega, HR2.out, HG2.out⟩
    · have e0 := Hc.out 2 _ rfl
      go_wp2
      go_ret
      exact ⟨0, p + 1 + 1, rfl, by omega, by omega, by omega, by omega, HR2.out, HG2.out⟩
    · have e0 := Hc.out 3 _ rfl
      go_wp2
      go_ret
      exact ⟨63, p + 1 + 1, rfl, by omega, by omega, by omega, by omega, HR2.out, HG2.out⟩
  · have k0' : (k == 0) = false := by simp; omega
    rcases hk with rfl | rfl | rfl
    all_goals
      go_wp2_with fail
      refine (pick_at _ a (p + 1) 64 HR.out (by omega) (by omega) (by omega) (by omega)).mono ?_
      rintro e w2 ⟨v, rfl, v0, v1, hr2, hg2⟩
      go_wp2
      go_ret
      exact ⟨v, p + 1 + 1, rfl, by omega, by omega, by omega, by omega, hr2, grownBy_trans HG.out hg2⟩
  · have e0 : (k == 0) = false := by simp; omega
    have e1 : (k == 1) = false := by simp; omega
    have e2 : (k == 2) = false := by simp; omega
    have e3 : (k == 3) = false := by simp; omega
    go_wp2_with fail
    refine (pick_at _ a (p + 1) 6 (HR.out.alloc _) (by omega) (by omega) (by omega) (by omega)).mono ?_
    rintro e w2 ⟨v, rfl, v0, v1, hr2, hg2⟩
    have hne : some w1.heap.size ≠ some a := by have := HR.out.lt; simp; omega
    have hc := fun (i : Nat) (u : Value) (h : (#[.int .i64 3, .int .i64 5, .int .i64 9, .int .i64 17, .int .i64 33, .int .i64 40] : Array Value)[i]? = some u) => hg2.cell (a := ⟨w1.heap.size, i, none⟩) (by rw [World.cell?_alloc_at _ _ _ _ rfl]; exact h) hne
    have HR2 := Lib.hid hr2
    have HG2 := Lib.hid (grownBy_trans (grownBy_alloc' HG.out _) hg2)
    have Hc := Lib.hid hc
    clear hr2 hg2 hc hne
    rcases (by omega : v = 0 ∨ v = 1 ∨ v = 2 ∨ v = 3 ∨ v = 4 ∨ v = 5) with rfl | rfl | rfl | rfl | rfl | rfl
    · have e0 := Hc.out 0 _ rfl
      go_wp2
      go_ret
      exact ⟨3, p + 1 + 1, rfl, by omega, by omega, by omega, by omega, HR2.out, HG2.out⟩
    · have e0 := Hc.out 1 _ rfl
      go_wp2
      go_ret
      exact ⟨5, p + 1 + 1, rfl, by omega, by omega, by omega, by omega, HR2.out, HG2.out⟩
    · have e0 := Hc.out 2 _ rfl
      go_wp2
      go_ret
      exact ⟨9, p + 1 + 1, rfl, by omega, by omega, by omega, by omega, HR2.out, HG2.out⟩
    · have e0 := Hc.out 3 _ rfl
      go_wp2
      go_ret
      exact ⟨17, p + 1 + 1, rfl, by omega, by omega, by omega, by omega, HR2.out, HG2.out⟩
    · have e0 := Hc.out 4 _ rfl
      go_wp2
      go_ret
      exact ⟨33, p + 1 + 1, rfl, by omega, by omega, by omega, by omega, HR2.out, HG2.out⟩
    · have e0 := Hc.out 5 _ rfl
      go_wp2
      go_ret
      exact ⟨40, p + 1 + 1, rfl, by omega, by omega, by omega, by omega, HR2.out, HG2.out⟩

/-- A reader is made of whatever bytes came in. -/
theorem open_rd (w : World) (v : Value) (n : Nat) (h : ∃ x cap, v = .slice x n cap) (hb : Bts w w.heap.size v n) :
    Calls Try.prog 42 #[v] w fun e w' => e = .returned (.pointer (some ⟨w.heap.size, 0, none⟩)) ∧ Rd w' w.heap.size 0 ∧ Below w.heap.size w w' := by
  have hA : ∀ u, (w.alloc (.cells #[u, .int .i64 0] 77)).heap[w.heap.size]? = some (.cells #[u, .int .i64 0] 77 (0, 0)) := fun u => heap_alloc_new w _
  by_cases hn : n ≤ 2000
  · obtain ⟨x, cap, rfl⟩ := h
    refine (open_small w x n cap _ rfl hn).mono fun e w' ⟨he, hw⟩ => ⟨he, ?_, ?_⟩
    · subst hw
      exact ⟨_, n, hA _, hb.grown (World.grownBy_alloc w _ none) (fun _ h => by cases h), hn⟩
    · subst hw
      exact (Below.refl _ _).alloc (Nat.le_refl _) _
  · rcases hb with ⟨h0, _⟩ | ⟨b, o, cap, rfl, h1, h2, h3⟩
    · omega
    refine (open_great w b o n cap (by omega) h1).mono fun e w' ⟨he, hw⟩ => ⟨he, ?_, ?_⟩
    · subst hw
      refine ⟨_, 2000, hA _, Bts.grown ?_ (World.grownBy_alloc w _ none) (fun _ h => by cases h), Nat.le_refl _⟩
      exact .inr ⟨b, o, cap, rfl, by omega, h2, fun i hi => h3 i (by omega)⟩
    · subst hw
      exact (Below.refl _ _).alloc (Nat.le_refl _) _

/-- A slice of bytes that came in, as the reader takes it. -/
theorem bts_of (w : World) (x : Option Addr) (len cap : Nat) (zs : List Int)
    (h : (x = none ∧ len = 0 ∧ cap = 0 ∧ zs = []) ∨ ∃ y, x = some y ∧ len ≤ cap ∧ cap ≤ maxLen ∧ zs.length = cap ∧ (∀ i, i < zs.length → w.cell? (y.add i) = some (.int .u8 (zs.getD i 0))) ∧ ∀ n ∈ zs, (Lit.int .u8 n).wf = true) :
    Bts w w.heap.size (.slice x len cap) len ∧ ((len : Int) > 1048576 ∨ ¬ (1048576 : Int) < len) := by
  refine ⟨?_, by omega⟩
  rcases h with ⟨rfl, rfl, rfl, rfl⟩ | ⟨⟨b, o, sp⟩, rfl, h1, h2, h3, h4, h5⟩
  · exact .inl ⟨rfl, _, _, rfl⟩
  · by_cases h0 : len = 0
    · subst h0
      exact .inl ⟨rfl, _, _, rfl⟩
    · have hc := h4 0 (by omega)
      have hs : sp = none := by simpa [Addr.add] using World.cell?_spot hc
      subst hs
      refine .inr ⟨b, o, cap, rfl, h1, ?_, fun i hi => ⟨zs.getD i 0, ?_, ?_⟩⟩
      · simpa [Addr.add] using World.block_lt_of_cell? _ _ hc
      · have e : (⟨b, o, none⟩ : Addr).add i = ⟨b, o + i, none⟩ := by unfold Addr.add; split <;> simp_all
        rw [← e]
        exact h4 i (by omega)
      · have := h5 (zs.getD i 0) (getD_mem _ _ _ (by omega))
        exact bounds_u8 this

theorem Rd.drew {w : World} {a : Nat} {p : Int} (h : Rd w a p) : Rd w.drew a p := h
theorem Rd.below {w w' : World} {a : Nat} {p : Int} (h : Rd w a p) {B : Nat} (hb : Below B w w') (hB : w.heap.size ≤ B) : Rd w' a p :=
  h.grown (row := none) ⟨hb.os, hb.tape, hb.output, hb.size, fun k hk _ => hb.block k (by omega)⟩ (fun _ e => by cases e)

/-- Of a world nothing has turned but the reader a, and what is new. -/
def Else (a : Nat) (w w' : World) : Prop := w.grownBy w' (some a)
theorem Else.refl (a : Nat) (w : World) : Else a w w := grownBy_refl w _
theorem Else.trans {a : Nat} {w w1 w2 : World} (h : Else a w w1) (k : Else a w1 w2) : Else a w w2 := grownBy_trans h k
theorem Else.below {a : Nat} {w w1 w2 : World} (h : Else a w w1) (k : Below w1.heap.size w1 w2) : Else a w w2 := grownBy_trans h (grownBy_below k)

theorem grownBy_of_drew {w w' : World} {row : Option Nat} (h : w.drew.grownBy w' row) : w.grownBy w' row := ⟨h.os, h.tape, h.output, h.size, h.block⟩
theorem free_later {w w' : World} {a : Addr} (hb : Below w.heap.size w w') (h : w.frozen? a = false) (hl : a.block < w.heap.size) : w'.frozen? a = false := by rw [hb.frozen hl]; exact h

theorem Else.set {a R i : Nat} {w w' : World} (h : Else a w w') (hR : w.heap.size ≤ R) (u : Value) : Else a w (w'.setCell ⟨R, i, none⟩ u) :=
  ⟨h.os, h.tape, h.output, by simpa using h.size, fun k hk hne => by rw [heap_setCell_other w' ⟨R, i, none⟩ k u (by simp; omega)]; exact h.block k hk hne⟩

theorem bts_below {w w' : World} {v : Value} {n : Nat} (h : Bts w w.heap.size v n) (hb : Below w.heap.size w w') : Bts w' w'.heap.size v n := by
  rcases h with h0 | ⟨b, o, cap, hv, h1, h2, h3⟩
  · exact .inl h0
  · exact .inr ⟨b, o, cap, hv, h1, Nat.lt_of_lt_of_le h2 hb.size, fun i hi => by
      obtain ⟨z, hz, q⟩ := h3 i hi
      exact ⟨z, by rw [hb.cell (p := ⟨b, o + i, none⟩) h2]; exact hz, q⟩⟩


end Go.Proofs.Ytnpcgbjkahpcfaa
