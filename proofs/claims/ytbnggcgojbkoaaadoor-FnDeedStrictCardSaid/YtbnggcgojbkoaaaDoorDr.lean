/-
  Several texts in one: Draw, Thing.
-/
import Derived.Test.YtbnggcgojbkoaaaDoorBa
import Derived.IntWalk
import Derived.OpenShut
set_option linter.unusedVariables false
/-
  The reader of codes: what it draws from a code, of whatever bytes, is in its bounds, and only the reader's own place moves.
-/
namespace Go.Proofs.YtbnggcgojbkoaaaDoor
open Go.RowKit

/-- The value v is a slice of n bytes below block a. -/
def Bts (w : World) (a : Nat) (v : Value) (n : Nat) : Prop :=
  (n = 0 ∧ ∃ x cap, v = .slice x 0 cap) ∨
  ∃ b o cap, v = .slice (some ⟨b, o, none⟩) n cap ∧ n ≤ cap ∧ b < a ∧ ∀ i, i < n → ∃ z : Int, w.cell? ⟨b, o + i, none⟩ = some (.int .u8 z) ∧ 0 ≤ z ∧ z ≤ 255

/-- Block a is a reader at place p. -/
def Rd (w : World) (a : Nat) (p : Int) : Prop :=
  ∃ v n, w.heap[a]? = some (.cells #[v, .int .i64 p] 62 (0, 0)) ∧ Bts w a v n ∧ n ≤ 2000

theorem Bts.grown {w w' : World} {a n : Nat} {v : Value} {row : Option Nat} (h : Bts w a v n) (hg : w.grownBy w' row) (hr : ∀ k, row = some k → a ≤ k) : Bts w' a v n := by
  rcases h with h | ⟨b, o, cap, rfl, h1, h2, h3⟩
  · exact .inl h
  · refine .inr ⟨b, o, cap, rfl, h1, h2, fun i hi => ?_⟩
    obtain ⟨z, hz, hb⟩ := h3 i hi
    refine ⟨z, hg.cell hz (fun e => ?_), hb⟩
    have := hr _ e.symm
    simp at this
    omega

theorem Rd.grown {w w' : World} {a : Nat} {p : Int} {row : Option Nat} (h : Rd w a p) (hg : w.grownBy w' row) (hr : ∀ k, row = some k → a < k) : Rd w' a p := by
  obtain ⟨v, n, h1, h2, h3⟩ := h
  refine ⟨v, n, ?_, h2.grown hg (fun k hk => by have := hr k hk; omega), h3⟩
  rw [hg.block a (Array.getElem?_eq_some_iff.1 h1).1 (fun e => by have := hr a e.symm; omega)]
  exact h1

theorem Rd.lt {w : World} {a : Nat} {p : Int} (h : Rd w a p) : a < w.heap.size := by
  obtain ⟨v, n, h1, _⟩ := h
  exact (Array.getElem?_eq_some_iff.1 h1).1

theorem open_small (w : World) (x : Option Addr) (n cap : Nat) (v : Value) (hv : v = .slice x n cap) (hn : n ≤ 2000) :
    Calls Tryd.prog 16 #[v] w fun e w' => e = .returned (.pointer (some ⟨w.heap.size, 0, none⟩)) ∧ w.alloc (.cells #[v, .int .i64 0] 62) = w' := by
  subst hv
  have hn' : ¬ (2000 : Int) < (n : Int) := by omega
  go_enter Tryd.func16, Tryd.ntmps16
  go_wp2
  go_ret
  exact ⟨rfl, rfl⟩
theorem open_great (w : World) (b o n cap : Nat) (hn : 2000 < n) (hc : n ≤ cap) :
    Calls Tryd.prog 16 #[.slice (some ⟨b, o, none⟩) n cap] w fun e w' => e = .returned (.pointer (some ⟨w.heap.size, 0, none⟩)) ∧ w.alloc (.cells #[.slice (some ⟨b, o, none⟩) 2000 cap, .int .i64 0] 62) = w' := by
  have hn' : (2000 : Int) < (n : Int) := by omega
  have hc' : (2000 : Int) ≤ (cap : Int) := by omega
  go_enter Tryd.func16, Tryd.ntmps16
  go_wp2
  go_ret
  exact ⟨rfl, rfl⟩

theorem ofInt_i64 (a : Nat) (ha : a < 1073741824) : (BitVec.ofInt 64 (a : Int)).toNat = a := by
  rw [BitVec.ofInt_natCast, BitVec.toNat_ofNat]; exact Nat.mod_eq_of_lt (by omega)
theorem bits_xor_nonneg (a b : Int) (ha : 0 ≤ a) (hb : 0 ≤ b) (ha' : a < 1073741824) (hb' : b < 1073741824) : 0 ≤ bits .xor .i64 a b ∧ bits .xor .i64 a b < 1073741824 := by
  obtain ⟨A, rfl⟩ := Int.eq_ofNat_of_zero_le ha
  obtain ⟨B, rfl⟩ := Int.eq_ofNat_of_zero_le hb
  have hx : A ^^^ B < 2 ^ 30 := Nat.xor_lt_two_pow (by omega) (by omega)
  have e : bits .xor .i64 (A : Int) (B : Int) = ((A ^^^ B : Nat) : Int) := by
    show IntKind.i64.wrap ((BitVec.ofInt 64 (A : Int) ^^^ BitVec.ofInt 64 (B : Int)).toNat : Int) = _
    rw [BitVec.toNat_xor, ofInt_i64 A (by omega), ofInt_i64 B (by omega)]
    exact IntWalk.i64_in _ (by omega)
  rw [e]
  omega

theorem Rd.step {w : World} {a : Nat} {v u : Value} {p q : Int} {n : Nat} (hA : w.heap[a]? = some (.cells #[v, .int .i64 p] 62 (0, 0))) (hB : Bts w a v n) (hn : n ≤ 2000) (hu : u = .int .i64 q) :
    Rd (w.setCell ⟨a, 1, none⟩ u) a q ∧ w.grownBy (w.setCell ⟨a, 1, none⟩ u) (some a) := by
  subst hu
  have hg : w.grownBy (w.setCell ⟨a, 1, none⟩ (.int .i64 q)) (some a) := ⟨rfl, rfl, rfl, by simp, fun k _ hk => heap_setCell_other w ⟨a, 1, none⟩ k _ (fun e => hk (by simp [e]))⟩
  exact ⟨⟨v, n, by rw [heap_setCell_same w a 1 _ _ _ hA]; rfl, hB.grown hg (fun k hk => by cases hk; exact Nat.le_refl _), hn⟩, hg⟩

theorem Rd.drewN {w : World} {a : Nat} {p : Int} (h : Rd w a p) (n : Nat) : Rd (w.drewN n) a p := h
theorem mod_in (x n : Int) (hn : 1 ≤ n) : 0 ≤ x % n ∧ x % n < n := ⟨Int.emod_nonneg _ (by omega), Int.emod_lt_of_pos _ (by omega)⟩

theorem tmod_in (x n : Int) (hx : 0 ≤ x) (hn : 1 ≤ n) : 0 ≤ x.tmod n ∧ x.tmod n < n := by rw [Int.tmod_eq_emod_of_nonneg hx]; exact mod_in x n hn

set_option maxHeartbeats 1000000 in
theorem pick_atC (w : World) (a : Nat) (p n : Int) (h : Rd w a p) (hp : 0 ≤ p) (hp' : p ≤ 100000) (hn : 1 ≤ n) (hn' : n ≤ 10000) :
    Calls Tryd.prog 18 #[.pointer (some ⟨a, 0, none⟩), .int .i64 n] w fun e w' => ∃ v, e = .returned (.int .i64 v) ∧ 0 ≤ v ∧ v < n ∧ Rd w' a (p + 1) ∧ w.grownBy w' (some a) ∧ w'.cell? ⟨a, 0, none⟩ = w.cell? ⟨a, 0, none⟩ := by
  obtain ⟨bs, len, hA, hB, hlen⟩ := h
  obtain ⟨P, rfl⟩ := Int.eq_ofNat_of_zero_le hp
  have c0 : w.cell? ⟨a, 0, none⟩ = some bs := by simp [World.cell?, hA]
  have c1 : w.cell? ⟨a, 1, none⟩ = some (.int .i64 P) := by simp [World.cell?, hA]
  have f1 : w.frozen? ⟨a, 1, none⟩ = false := by simp [World.frozen?, hA]
  have hR := Rd.step (u := .int .i64 ((P : Int) + 1)) hA hB hlen rfl
  have HR := Lib.hid hR
  have d0 : (w.setCell ⟨a, 1, none⟩ (.int .i64 (P + 1))).cell? ⟨a, 0, none⟩ = some bs := (World.cell?_setCell_other (h := by simp) ..).trans c0
  have d1 : (w.setCell ⟨a, 1, none⟩ (.int .i64 (P + 1))).cell? ⟨a, 1, none⟩ = some (.int .i64 (P + 1)) := World.cell?_setCell_same _ _ _ c1
  have HC := Lib.hid (d0.trans c0.symm)
  have zero : 0 ≤ (0 : Int) ∧ (0 : Int) < n := by omega
  clear hA hR
  by_cases h0 : len = 0
  · obtain ⟨x, cap, rfl⟩ : ∃ x cap, bs = .slice x 0 cap := by
      rcases hB with ⟨_, x, cap, rfl⟩ | ⟨b, o, cap, rfl, _⟩
      · exact ⟨x, cap, rfl⟩
      · exact ⟨_, cap, by rw [h0]⟩
    clear hB h0
    go_enter Tryd.func18, Tryd.ntmps18
    go_wp2
    go_ret
    exact ⟨0, rfl, zero.1, zero.2, HR.out.1, HR.out.2, HC.out⟩
  · rcases hB with ⟨h, _⟩ | ⟨b, o, cap, rfl, hc, hb, hz⟩
    · exact absurd h h0
    have hz' : ∀ i, i < len → ∃ z : Int, (w.setCell ⟨a, 1, none⟩ (.int .i64 (P + 1))).cell? ⟨b, o + i, none⟩ = some (.int .u8 z) ∧ 0 ≤ z ∧ z ≤ 255 := fun i hi => by
      obtain ⟨z, h1, h2⟩ := hz i hi
      exact ⟨z, (World.cell?_setCell_other (h := fun h => by injection h with h; omega) ..).trans h1, h2⟩
    have l0 : ((len : Int) == 0) = false := by simp; omega
    have l1 : (1 : Int) ≤ (len : Int) := by omega
    have n0 : (n == 0) = false := by simp; omega
    have Hz := Lib.hid hz'
    clear hz hz' hc h0
    by_cases hk : P < len
    · obtain ⟨z, hz, z0, z1⟩ := Hz.out P hk
      go_enter Tryd.func18, Tryd.ntmps18
      go_wp2
      go_ret
      exact ⟨_, rfl, (mod_in _ _ hn).1, (mod_in _ _ hn).2, HR.out.1, HR.out.2, HC.out⟩
    · go_enter Tryd.func18, Tryd.ntmps18
      go_wp2
      obtain ⟨I1, hI1, hlt1⟩ : ∃ I1 : Nat, (P : Int).tmod (len : Int) = (I1 : Int) ∧ I1 < len := ⟨P % len, by rw [Int.tmod_eq_emod_of_nonneg (by omega)]; simp, Nat.mod_lt _ (by omega)⟩
      obtain ⟨I2, hI2, hlt2⟩ : ∃ I2 : Nat, ((P : Int) * 7 + 3).tmod (len : Int) = (I2 : Int) ∧ I2 < len := ⟨(P * 7 + 3) % len, by rw [Int.tmod_eq_emod_of_nonneg (by omega)]; simp, Nat.mod_lt _ (by omega)⟩
      obtain ⟨Q, hQ, q0, q1⟩ : ∃ Q : Int, (P : Int).tdiv (len : Int) = Q ∧ 0 ≤ Q ∧ Q ≤ 100000 := ⟨_, rfl, Int.tdiv_nonneg (by omega) (by omega), by
        rw [Int.tdiv_eq_ediv_of_nonneg (by omega)]; exact Int.le_trans (Int.ediv_le_self _ (by omega)) hp'⟩
      have len0 : ¬ len = 0 := by omega
      obtain ⟨z1, hz1, z10, z11⟩ := Hz.out I1 hlt1
      obtain ⟨z2, hz2, z20, z21⟩ := Hz.out I2 hlt2
      have i1a : (0 : Int) ≤ (I1 : Int) := by omega
      have i1b : (I1 : Int) < (len : Int) := by omega
      have i2a : (0 : Int) ≤ (I2 : Int) := by omega
      have i2b : (I2 : Int) < (len : Int) := by omega
      have w1 : IntKind.i64.wrap ((P : Int) * 7) = (P : Int) * 7 := IntWalk.i64_in _ (by omega)
      have w2 : IntKind.i64.wrap ((P : Int) * 7 + 3) = (P : Int) * 7 + 3 := IntWalk.i64_in _ (by omega)
      obtain ⟨W, hW⟩ : ∃ W, W = w.setCell ⟨a, 1, none⟩ (.int .i64 ((P : Int) + 1)) := ⟨_, rfl⟩
      rw [← hW] at d0 d1 hz1 hz2 HR HC ⊢
      clear hW
      go_quiet (fail)
      clear hI1 hI2 hQ w1 w2
      go_wp2
      go_ret
      have hx := bits_xor_nonneg (z1 * 131 + z2 * 1117 + P * 29 + Q * 53) ((z1 * 131 + z2 * 1117 + P * 29 + Q * 53) / 64) (by omega) (by omega) (by omega) (by omega)
      have hv := tmod_in _ n hx.1 hn
      exact ⟨_, rfl, hv.1, hv.2, HR.out.1.drewN _, grownBy_drewN HR.out.2 _, HC.out⟩

theorem pick_at (w : World) (a : Nat) (p n : Int) (h : Rd w a p) (hp : 0 ≤ p) (hp' : p ≤ 100000) (hn : 1 ≤ n) (hn' : n ≤ 10000) :
    Calls Tryd.prog 18 #[.pointer (some ⟨a, 0, none⟩), .int .i64 n] w fun e w' => ∃ v, e = .returned (.int .i64 v) ∧ 0 ≤ v ∧ v < n ∧ Rd w' a (p + 1) ∧ w.grownBy w' (some a) :=
  (pick_atC w a p n h hp hp' hn hn').mono fun _ _ ⟨v, h1, h2, h3, h4, h5, _⟩ => ⟨v, h1, h2, h3, h4, h5⟩

end Go.Proofs.YtbnggcgojbkoaaaDoor

/-
  Things, and places, that are drawn from a code.
-/
namespace Go.Proofs.YtbnggcgojbkoaaaDoor
open Go.RowKit

theorem Rd.alloc {w : World} {a : Nat} {p : Int} (h : Rd w a p) (o : Obj) : Rd (w.alloc o) a p := h.grown (World.grownBy_alloc w o none) (fun _ h => by cases h)
theorem grownBy_alloc' {w w' : World} {row : Option Nat} (h : w.grownBy w' row) (o : Obj) : w.grownBy (w'.alloc o) row := grownBy_trans h (World.grownBy_alloc w' o row)

/-- A reader is made of whatever bytes came in. -/
theorem open_rd (w : World) (v : Value) (n : Nat) (h : ∃ x cap, v = .slice x n cap) (hb : Bts w w.heap.size v n) :
    Calls Tryd.prog 16 #[v] w fun e w' => e = .returned (.pointer (some ⟨w.heap.size, 0, none⟩)) ∧ Rd w' w.heap.size 0 ∧ Below w.heap.size w w' := by
  have hA : ∀ u, (w.alloc (.cells #[u, .int .i64 0] 62)).heap[w.heap.size]? = some (.cells #[u, .int .i64 0] 62 (0, 0)) := fun u => heap_alloc_new w _
  by_cases hn : n ≤ 2000
  · obtain ⟨x, cap, rfl⟩ := h
    refine (open_small w x n cap _ rfl hn).mono fun e w' ⟨he, hw⟩ => ⟨he, ?_, ?_⟩
    · subst hw
      exact ⟨_, n, hA _, hb.grown (World.grownBy_alloc w _ none) (fun _ h => by cases h), hn⟩
    · subst hw
      exact (Below.refl _ _).alloc (Nat.le_refl _) _
  · rcases hb with ⟨h0, _⟩ | ⟨b, o, cap, rfl, h1, h2, h3⟩
    · omega
    refine (open_great w b o n cap (by omega) h1).mono fun e w' ⟨he, hw⟩ => ⟨he, ?_, ?_⟩
    · subst hw
      refine ⟨_, 2000, hA _, Bts.grown ?_ (World.grownBy_alloc w _ none) (fun _ h => by cases h), Nat.le_refl _⟩
      exact .inr ⟨b, o, cap, rfl, by omega, h2, fun i hi => h3 i (by omega)⟩
    · subst hw
      exact (Below.refl _ _).alloc (Nat.le_refl _) _

/-- A slice of bytes that came in, as the reader takes it. -/
theorem bts_of (w : World) (x : Option Addr) (len cap : Nat) (zs : List Int)
    (h : (x = none ∧ len = 0 ∧ cap = 0 ∧ zs = []) ∨ ∃ y, x = some y ∧ len ≤ cap ∧ cap ≤ maxLen ∧ zs.length = cap ∧ (∀ i, i < zs.length → w.cell? (y.add i) = some (.int .u8 (zs.getD i 0))) ∧ ∀ n ∈ zs, (Lit.int .u8 n).wf = true) :
    Bts w w.heap.size (.slice x len cap) len ∧ ((len : Int) > 1048576 ∨ ¬ (1048576 : Int) < len) := by
  refine ⟨?_, by omega⟩
  rcases h with ⟨rfl, rfl, rfl, rfl⟩ | ⟨⟨b, o, sp⟩, rfl, h1, h2, h3, h4, h5⟩
  · exact .inl ⟨rfl, _, _, rfl⟩
  · by_cases h0 : len = 0
    · subst h0
      exact .inl ⟨rfl, _, _, rfl⟩
    · have hc := h4 0 (by omega)
      have hs : sp = none := by simpa [Addr.add] using World.cell?_spot hc
      subst hs
      refine .inr ⟨b, o, cap, rfl, h1, ?_, fun i hi => ⟨zs.getD i 0, ?_, ?_⟩⟩
      · simpa [Addr.add] using World.block_lt_of_cell? _ _ hc
      · have e : (⟨b, o, none⟩ : Addr).add i = ⟨b, o + i, none⟩ := by unfold Addr.add; split <;> simp_all
        rw [← e]
        exact h4 i (by omega)
      · have := h5 (zs.getD i 0) (getD_mem _ _ _ (by omega))
        exact bounds_u8 this

theorem Rd.drew {w : World} {a : Nat} {p : Int} (h : Rd w a p) : Rd w.drew a p := h
theorem Rd.below {w w' : World} {a : Nat} {p : Int} (h : Rd w a p) {B : Nat} (hb : Below B w w') (hB : w.heap.size ≤ B) : Rd w' a p :=
  h.grown (row := none) ⟨hb.os, hb.tape, hb.output, hb.size, fun k hk _ => hb.block k (by omega)⟩ (fun _ e => by cases e)

/-- Of a world nothing has turned but the reader a, and what is new. -/
def Else (a : Nat) (w w' : World) : Prop := w.grownBy w' (some a)
theorem Else.refl (a : Nat) (w : World) : Else a w w := grownBy_refl w _
theorem Else.trans {a : Nat} {w w1 w2 : World} (h : Else a w w1) (k : Else a w1 w2) : Else a w w2 := grownBy_trans h k
theorem Else.below {a : Nat} {w w1 w2 : World} (h : Else a w w1) (k : Below w1.heap.size w1 w2) : Else a w w2 := grownBy_trans h (grownBy_below k)

theorem grownBy_of_drew {w w' : World} {row : Option Nat} (h : w.drew.grownBy w' row) : w.grownBy w' row := ⟨h.os, h.tape, h.output, h.size, h.block⟩
theorem free_later {w w' : World} {a : Addr} (hb : Below w.heap.size w w') (h : w.frozen? a = false) (hl : a.block < w.heap.size) : w'.frozen? a = false := by rw [hb.frozen hl]; exact h

theorem Else.set {a R i : Nat} {w w' : World} (h : Else a w w') (hR : w.heap.size ≤ R) (u : Value) : Else a w (w'.setCell ⟨R, i, none⟩ u) :=
  ⟨h.os, h.tape, h.output, by simpa using h.size, fun k hk hne => by rw [heap_setCell_other w' ⟨R, i, none⟩ k u (by simp; omega)]; exact h.block k hk hne⟩

theorem bts_below {w w' : World} {v : Value} {n : Nat} (h : Bts w w.heap.size v n) (hb : Below w.heap.size w w') : Bts w' w'.heap.size v n := by
  rcases h with h0 | ⟨b, o, cap, hv, h1, h2, h3⟩
  · exact .inl h0
  · exact .inr ⟨b, o, cap, hv, h1, Nat.lt_of_lt_of_le h2 hb.size, fun i hi => by
      obtain ⟨z, hz, q⟩ := h3 i hi
      exact ⟨z, by rw [hb.cell (p := ⟨b, o + i, none⟩) h2]; exact hz, q⟩⟩


end Go.Proofs.YtbnggcgojbkoaaaDoor
