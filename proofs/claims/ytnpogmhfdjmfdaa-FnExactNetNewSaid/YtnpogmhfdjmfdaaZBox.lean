/-
  A sum in memory: a block of seven cells; four lists that read as a plain sum; such as are a call's own.
-/
import Derived.Test.YtnpogmhfdjmfdaaZSm
import Derived.Test.YtnpogmhfdjmfdaaORR
set_option linter.unusedVariables false
namespace Go.Proofs.Ytnpogmhfdjmfdaa
open Go.RowKit Go.Sort

/-- Block b is a struct of seven cells. -/
def Box7 (W : World) (b : Nat) (t : TypeId) (x0 x1 x2 x3 x4 x5 x6 : Value) : Prop := W.heap[b]? = some (.cells #[x0, x1, x2, x3, x4, x5, x6] t (0, 0))
section
variable {W W' : World} {b : Nat} {t : TypeId} {x0 x1 x2 x3 x4 x5 x6 : Value}
theorem Box7.lt (h : Box7 W b t x0 x1 x2 x3 x4 x5 x6) : b < W.heap.size := (Array.getElem?_eq_some_iff.1 h).1
theorem Box7.new (W : World) (t : TypeId) (x0 x1 x2 x3 x4 x5 x6 : Value) : Box7 (W.alloc (.cells #[x0, x1, x2, x3, x4, x5, x6] t)) W.heap.size t x0 x1 x2 x3 x4 x5 x6 := heap_alloc_new W _
theorem Box7.below (h : Box7 W b t x0 x1 x2 x3 x4 x5 x6) {B : Nat} (hb : Below B W W') (hB : b < B) : Box7 W' b t x0 x1 x2 x3 x4 x5 x6 := (hb.block b hB).trans h
theorem Box7.later (h : Box7 W b t x0 x1 x2 x3 x4 x5 x6) (hb : Below W.heap.size W W') : Box7 W' b t x0 x1 x2 x3 x4 x5 x6 := h.below hb h.lt
theorem Box7.drew (h : Box7 W b t x0 x1 x2 x3 x4 x5 x6) : Box7 W.drew b t x0 x1 x2 x3 x4 x5 x6 := h
theorem Box7.drewN (h : Box7 W b t x0 x1 x2 x3 x4 x5 x6) (n : Nat) : Box7 (W.drewN n) b t x0 x1 x2 x3 x4 x5 x6 := h
theorem Box7.alloc (h : Box7 W b t x0 x1 x2 x3 x4 x5 x6) (o : Obj) : Box7 (W.alloc o) b t x0 x1 x2 x3 x4 x5 x6 := h.later ((Below.refl _ _).alloc (Nat.le_refl _) o)
theorem Box7.kept {row : Option Nat} (h : Box7 W b t x0 x1 x2 x3 x4 x5 x6) (hg : W.grownBy W' row) (hr : row ≠ some b) : Box7 W' b t x0 x1 x2 x3 x4 x5 x6 := (hg.block b h.lt (fun e => hr e.symm)).trans h
theorem Box7.cell0 (h : Box7 W b t x0 x1 x2 x3 x4 x5 x6) : W.cell? ⟨b, 0, none⟩ = some x0 := by unfold Box7 at h; simp [World.cell?, h]
theorem Box7.cell1 (h : Box7 W b t x0 x1 x2 x3 x4 x5 x6) : W.cell? ⟨b, 1, none⟩ = some x1 := by unfold Box7 at h; simp [World.cell?, h]
theorem Box7.cell2 (h : Box7 W b t x0 x1 x2 x3 x4 x5 x6) : W.cell? ⟨b, 2, none⟩ = some x2 := by unfold Box7 at h; simp [World.cell?, h]
theorem Box7.cell3 (h : Box7 W b t x0 x1 x2 x3 x4 x5 x6) : W.cell? ⟨b, 3, none⟩ = some x3 := by unfold Box7 at h; simp [World.cell?, h]
theorem Box7.cell4 (h : Box7 W b t x0 x1 x2 x3 x4 x5 x6) : W.cell? ⟨b, 4, none⟩ = some x4 := by unfold Box7 at h; simp [World.cell?, h]
theorem Box7.cell5 (h : Box7 W b t x0 x1 x2 x3 x4 x5 x6) : W.cell? ⟨b, 5, none⟩ = some x5 := by unfold Box7 at h; simp [World.cell?, h]
theorem Box7.cell6 (h : Box7 W b t x0 x1 x2 x3 x4 x5 x6) : W.cell? ⟨b, 6, none⟩ = some x6 := by unfold Box7 at h; simp [World.cell?, h]
theorem Box7.cells (h : Box7 W b t x0 x1 x2 x3 x4 x5 x6) : W.cell? ⟨b, 0, none⟩ = some x0 ∧ W.cell? ⟨b, 1, none⟩ = some x1 ∧ W.cell? ⟨b, 2, none⟩ = some x2 ∧ W.cell? ⟨b, 3, none⟩ = some x3 ∧ W.cell? ⟨b, 4, none⟩ = some x4 ∧ W.cell? ⟨b, 5, none⟩ = some x5 ∧ W.cell? ⟨b, 6, none⟩ = some x6 :=
  ⟨h.cell0, h.cell1, h.cell2, h.cell3, h.cell4, h.cell5, h.cell6⟩
theorem Box7.free (h : Box7 W b t x0 x1 x2 x3 x4 x5 x6) (i : Nat) : W.frozen? ⟨b, i, none⟩ = false := by unfold Box7 at h; simp [World.frozen?, h]
theorem Box7.set0 (h : Box7 W b t x0 x1 x2 x3 x4 x5 x6) (u : Value) : Box7 (W.setCell ⟨b, 0, none⟩ u) b t u x1 x2 x3 x4 x5 x6 := by unfold Box7 at h ⊢; rw [heap_setCell_same W b 0 _ _ _ h]; rfl
theorem Box7.set1 (h : Box7 W b t x0 x1 x2 x3 x4 x5 x6) (u : Value) : Box7 (W.setCell ⟨b, 1, none⟩ u) b t x0 u x2 x3 x4 x5 x6 := by unfold Box7 at h ⊢; rw [heap_setCell_same W b 1 _ _ _ h]; rfl
theorem Box7.set2 (h : Box7 W b t x0 x1 x2 x3 x4 x5 x6) (u : Value) : Box7 (W.setCell ⟨b, 2, none⟩ u) b t x0 x1 u x3 x4 x5 x6 := by unfold Box7 at h ⊢; rw [heap_setCell_same W b 2 _ _ _ h]; rfl
theorem Box7.set3 (h : Box7 W b t x0 x1 x2 x3 x4 x5 x6) (u : Value) : Box7 (W.setCell ⟨b, 3, none⟩ u) b t x0 x1 x2 u x4 x5 x6 := by unfold Box7 at h ⊢; rw [heap_setCell_same W b 3 _ _ _ h]; rfl
theorem Box7.set4 (h : Box7 W b t x0 x1 x2 x3 x4 x5 x6) (u : Value) : Box7 (W.setCell ⟨b, 4, none⟩ u) b t x0 x1 x2 x3 u x5 x6 := by unfold Box7 at h ⊢; rw [heap_setCell_same W b 4 _ _ _ h]; rfl
theorem Box7.set5 (h : Box7 W b t x0 x1 x2 x3 x4 x5 x6) (u : Value) : Box7 (W.setCell ⟨b, 5, none⟩ u) b t x0 x1 x2 x3 x4 u x6 := by unfold Box7 at h ⊢; rw [heap_setCell_same W b 5 _ _ _ h]; rfl
theorem Box7.set6 (h : Box7 W b t x0 x1 x2 x3 x4 x5 x6) (u : Value) : Box7 (W.setCell ⟨b, 6, none⟩ u) b t x0 x1 x2 x3 x4 x5 u := by unfold Box7 at h ⊢; rw [heap_setCell_same W b 6 _ _ _ h]; rfl
theorem Box7.not_row {B : Nat} {e : TypeId} {size n : Nat} {v : Value} {xs : List Value} (h : Box7 W b t x0 x1 x2 x3 x4 x5 x6) (ht : t ≠ e) (ho : W.ownsRow B e size v n xs) : v.ownBlock ≠ some b := fun hb => by
  rcases ho.2 with ⟨rfl, _⟩ | ⟨g, cap, cur, rfl, _, hg, _⟩
  · cases hb
  · obtain rfl : g = b := by simpa [Value.ownBlock] using hb
    unfold Box7 at h
    rw [hg] at h
    cases h
    exact ht rfl
end
/-- Block b is written into, cell by cell. -/
def set7 (W : World) (b : Nat) (x0 x1 x2 x3 x4 x5 x6 : Value) : World :=
  ((((((W.setCell ⟨b, 0, none⟩ x0).setCell ⟨b, 1, none⟩ x1).setCell ⟨b, 2, none⟩ x2).setCell ⟨b, 3, none⟩ x3).setCell ⟨b, 4, none⟩ x4).setCell ⟨b, 5, none⟩ x5).setCell ⟨b, 6, none⟩ x6
theorem set7_grown (W : World) (b : Nat) (x0 x1 x2 x3 x4 x5 x6 : Value) : W.grownBy (set7 W b x0 x1 x2 x3 x4 x5 x6) (some b) :=
  grownBy_trans (grownBy_trans (grownBy_trans (grownBy_trans (grownBy_trans (grownBy_trans (grownBy_setCell W ⟨b, 0, none⟩ x0) (grownBy_setCell _ ⟨b, 1, none⟩ x1)) (grownBy_setCell _ ⟨b, 2, none⟩ x2)) (grownBy_setCell _ ⟨b, 3, none⟩ x3)) (grownBy_setCell _ ⟨b, 4, none⟩ x4)) (grownBy_setCell _ ⟨b, 5, none⟩ x5)) (grownBy_setCell _ ⟨b, 6, none⟩ x6)
theorem Box7.set {W : World} {b : Nat} {t : TypeId} {x0 x1 x2 x3 x4 x5 x6 : Value} (h : Box7 W b t x0 x1 x2 x3 x4 x5 x6) (y0 y1 y2 y3 y4 y5 y6 : Value) : Box7 (set7 W b y0 y1 y2 y3 y4 y5 y6) b t y0 y1 y2 y3 y4 y5 y6 :=
  ((((((h.set0 y0).set1 y1).set2 y2).set3 y3).set4 y4).set5 y5).set6 y6
theorem below_set7 {B b : Nat} {w W : World} (h : Below B w W) (hb : B ≤ b) (x0 x1 x2 x3 x4 x5 x6 : Value) : Below B w (set7 W b x0 x1 x2 x3 x4 x5 x6) := ((((((h.setCell hb _).setCell hb _).setCell hb _).setCell hb _).setCell hb _).setCell hb _).setCell hb _
theorem set7_size (W : World) (b : Nat) (x0 x1 x2 x3 x4 x5 x6 : Value) : (set7 W b x0 x1 x2 x3 x4 x5 x6).heap.size = W.heap.size := by unfold set7; simp

/-- Where the four lists of a sum lie. -/
structure SV where
  xr : Option Addr
  nr : Nat
  cr : Nat
  xf : Option Addr
  nf : Nat
  cf : Nat
  xt : Option Addr
  nt : Nat
  ct : Nat
  xk : Option Addr
  nk : Nat
  ck : Nat
def SV.none : SV := ⟨.none, 0, 0, .none, 0, 0, .none, 0, 0, .none, 0, 0⟩
def SV.r (V : SV) : Value := .slice V.xr V.nr V.cr
def SV.f (V : SV) : Value := .slice V.xf V.nf V.cf
def SV.t (V : SV) : Value := .slice V.xt V.nt V.ct
def SV.k (V : SV) : Value := .slice V.xk V.nk V.ck
/-- Block b is the sum s, whose lists lie at V. -/
def BoxS (W : World) (b : Nat) (V : SV) (s : Sm) : Prop := Box7 W b 73 V.r V.f V.t (.int .i64 s.lo) (.int .i64 s.al) V.k (.int .i64 s.ka)
theorem BoxS.box {W : World} {b : Nat} {V : SV} {s : Sm} (h : BoxS W b V s) : Box7 W b 73 (.slice V.xr V.nr V.cr) (.slice V.xf V.nf V.cf) (.slice V.xt V.nt V.ct) (.int .i64 s.lo) (.int .i64 s.al) (.slice V.xk V.nk V.ck) (.int .i64 s.ka) := h

theorem Ints.len {w : World} {x : Option Addr} {n c : Nat} {zs : List Int} (h : Ints w (.slice x n c) zs) : n = zs.length := by
  rcases h with ⟨e, rfl⟩ | ⟨b, o, cap, e, _⟩
  · simp at e; simp [e]
  · simp at e; omega
theorem Rws.len {w : World} {x : Option Addr} {n c : Nat} {zs : List (List Int)} (h : Rws w (.slice x n c) zs) : n = zs.length := by
  rcases h with ⟨e, rfl⟩ | ⟨b, o, cap, e, _⟩
  · simp at e; simp [e]
  · simp at e; omega
theorem T.Prs.len {w : World} {x : Option Addr} {n c : Nat} {zs : List T.Pr} (h : T.Prs w (.slice x n c) zs) : n = zs.length := by
  rcases h with ⟨e, rfl⟩ | ⟨b, o, cap, e, _⟩
  · simp at e; simp [e]
  · simp at e; omega
theorem K.Prs.len {w : World} {x : Option Addr} {n c : Nat} {zs : List K.Pr} (h : K.Prs w (.slice x n c) zs) : n = zs.length := by
  rcases h with ⟨e, rfl⟩ | ⟨b, o, cap, e, _⟩
  · simp at e; simp [e]
  · simp at e; omega
/-- The lists at V read as the sum s. -/
structure RdS (w : World) (V : SV) (s : Sm) : Prop where
  r : Rws w V.r s.rs
  f : Ints w V.f s.zs
  t : T.Prs w V.t s.ps
  k : K.Prs w V.k s.ks
theorem RdS.below {w w' : World} {V : SV} {s : Sm} (h : RdS w V s) {B : Nat} (hb : Below B w w') (hB : w.heap.size ≤ B) : RdS w' V s := ⟨h.r.below hb hB, h.f.below hb hB, h.t.below hb hB, h.k.below hb hB⟩
theorem RdS.lens {w : World} {V : SV} {s : Sm} (h : RdS w V s) : V.nr = s.rs.length ∧ V.nf = s.zs.length ∧ V.nt = s.ps.length ∧ V.nk = s.ks.length := ⟨Rws.len h.r, Ints.len h.f, T.Prs.len h.t, K.Prs.len h.k⟩
theorem RdS.later {w w' : World} {V : SV} {s : Sm} (h : RdS w V s) (hb : Below w.heap.size w w') : RdS w' V s := h.below hb (Nat.le_refl _)
theorem RdS.alloc {w : World} {V : SV} {s : Sm} (h : RdS w V s) (o : Obj) : RdS (w.alloc o) V s := h.later ((Below.refl _ _).alloc (Nat.le_refl _) o)
theorem RdS.drew {w : World} {V : SV} {s : Sm} (h : RdS w V s) : RdS w.drew V s := h.later (Below.drew (Below.refl _ _))

/-- The lists at V read as the sum s, in blocks of the call's own, from B on and ahead of U, apart from one another. -/
structure OwnS (w : World) (B U : Nat) (V : SV) (s : Sm) : Prop where
  mid : ∃ M, B ≤ M ∧ M ≤ U ∧ OwnRR w B M V.r s.rs ∧ OwnI w M V.f s.zs
  t : T.OwnP w B V.t s.ps
  k : K.OwnP w B V.k s.ks
  ft : ∀ g, V.f.ownBlock = some g → g < U
  tt : ∀ g, V.t.ownBlock = some g → g < U
  kt : ∀ g, V.k.ownBlock = some g → g < U
  top : U ≤ w.heap.size
theorem OwnS.rd {w : World} {B U : Nat} {V : SV} {s : Sm} (h : OwnS w B U V s) : RdS w V s := by
  obtain ⟨M, _, _, hr, hf⟩ := h.mid
  exact ⟨hr.rd, hf.rd, h.t.rd, h.k.rd⟩
theorem OwnS.below {w w' : World} {B U : Nat} {V : SV} {s : Sm} (h : OwnS w B U V s) (hb : Below w.heap.size w w') : OwnS w' B U V s := by
  obtain ⟨M, h1, h2, hr, hf⟩ := h.mid
  exact ⟨⟨M, h1, h2, hr.below hb, hf.below hb⟩, h.t.below hb, h.k.below hb, h.ft, h.tt, h.kt, Nat.le_trans h.top hb.size⟩
theorem OwnS.alloc {w : World} {B U : Nat} {V : SV} {s : Sm} (h : OwnS w B U V s) (o : Obj) : OwnS (w.alloc o) B U V s := h.below ((Below.refl _ _).alloc (Nat.le_refl _) o)
theorem OwnRR.base {w : World} {B B' U : Nat} {v : Value} {rs : List (List Int)} (h : OwnRR w B U v rs) (hB : B' ≤ B) : OwnRR w B' U v rs := by
  obtain ⟨G, C, h, h1, h2, h3⟩ := h
  exact ⟨G, C, ⟨ownsRow_base h.hdr hB, fun i hi => ownsRow_base (h.row i hi) hB, h.off, h.apart⟩, h1, h2, h3⟩
theorem OwnRR.upto {w : World} {B U U' : Nat} {v : Value} {rs : List (List Int)} (h : OwnRR w B U v rs) (hU : U ≤ U') (hU' : U' ≤ w.heap.size) : OwnRR w B U' v rs := by
  obtain ⟨G, C, h, h1, h2, h3⟩ := h
  exact ⟨G, C, h, fun k e => Nat.lt_of_lt_of_le (h1 k e) hU, fun i hi => Nat.lt_of_lt_of_le (h2 i hi) hU, hU'⟩
theorem OwnS.base {w : World} {B B' U U' : Nat} {V : SV} {s : Sm} (h : OwnS w B U V s) (hB : B' ≤ B) (hT : U ≤ U') (hU' : U' ≤ w.heap.size) : OwnS w B' U' V s := by
  obtain ⟨M, h1, h2, hr, hf⟩ := h.mid
  exact ⟨⟨M, by omega, by omega, hr.base hB, hf⟩, ownsRow_base h.t hB, ownsRow_base h.k hB, fun g e => by have := h.ft g e; omega, fun g e => by have := h.tt g e; omega, fun g e => by have := h.kt g e; omega, hU'⟩
theorem OwnS.none (w : World) (B U : Nat) (hB : B ≤ U) (hT : U ≤ w.heap.size) : OwnS w B U SV.none noSm :=
  ⟨⟨U, hB, Nat.le_refl _, OwnRR.nil _ _ _ hT, World.ownsRow_nil _ _ _ _⟩, World.ownsRow_nil _ _ _ _, World.ownsRow_nil _ _ _ _, fun _ e => (by cases e), fun _ e => (by cases e), fun _ e => (by cases e), hT⟩

end Go.Proofs.Ytnpogmhfdjmfdaa
