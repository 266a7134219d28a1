/-
  Parts of sums in memory of a call's own: what a store into another block leaves.
-/
import Derived.Test.YtnpogmhfdjmfdaaZBox
set_option linter.unusedVariables false
namespace Go.Proofs.Ytnpogmhfdjmfdaa
open Go.RowKit Go.Sort

theorem OwnR.form {w : World} {B : Nat} {u : Value} {rs : List (List Int)} {G C : Nat → Nat} (h : OwnR w B u rs G C) : ∃ x c, u = .slice x rs.length c := by
  rcases h.hdr.2 with ⟨rfl, h0⟩ | ⟨g, cap, cur, rfl, _⟩
  · exact ⟨none, 0, by rw [h0]⟩
  · exact ⟨_, _, rfl⟩
theorem OwnI.form' {w : World} {B : Nat} {u : Value} {zs : List Int} (h : OwnI w B u zs) : ∃ x c, u = .slice x zs.length c := by
  rcases h.2 with ⟨rfl, h0⟩ | ⟨g, cap, cur, rfl, _⟩
  · exact ⟨none, 0, by rw [h0]⟩
  · exact ⟨_, _, rfl⟩
theorem T.OwnP.form' {w : World} {B : Nat} {u : Value} {zs : List T.Pr} (h : T.OwnP w B u zs) : ∃ x c, u = .slice x zs.length c := by
  rcases h.2 with ⟨rfl, h0⟩ | ⟨g, cap, cur, rfl, _⟩
  · exact ⟨none, 0, by rw [h0]⟩
  · exact ⟨_, _, rfl⟩
theorem K.OwnP.form' {w : World} {B : Nat} {u : Value} {zs : List K.Pr} (h : K.OwnP w B u zs) : ∃ x c, u = .slice x zs.length c := by
  rcases h.2 with ⟨rfl, h0⟩ | ⟨g, cap, cur, rfl, _⟩
  · exact ⟨none, 0, by rw [h0]⟩
  · exact ⟨_, _, rfl⟩
/-- A sum of nothing but rows. -/
theorem OwnS.rows {w : World} {B : Nat} {x : Option Addr} {n c : Nat} {rs : List (List Int)} {G C : Nat → Nat} (h : OwnR w B (.slice x n c) rs G C) (hB : B ≤ w.heap.size) : OwnS w B w.heap.size ⟨x, n, c, Option.none, 0, 0, Option.none, 0, 0, Option.none, 0, 0⟩ ⟨rs, [], [], 0, 0, [], 0⟩ :=
  ⟨⟨w.heap.size, hB, Nat.le_refl _, h.bounds, World.ownsRow_nil _ _ _ _⟩, World.ownsRow_nil _ _ _ _, World.ownsRow_nil _ _ _ _, fun _ e => (by cases e), fun _ e => (by cases e), fun _ e => (by cases e), Nat.le_refl _⟩
section
variable {w : World} {B U b : Nat} {x0 x1 x2 x3 x4 x5 x6 : Value}
theorem OwnRR.box7 {v : Value} {rs : List (List Int)} (h : OwnRR w B U v rs) (X : Box7 w b 73 x0 x1 x2 x3 x4 x5 x6) (y0 y1 y2 y3 y4 y5 y6 : Value) : OwnRR (set7 w b y0 y1 y2 y3 y4 y5 y6) B U v rs := by
  obtain ⟨G, C, ho, q1, q2, q3⟩ := h
  have hk : KeptB (fun k => k = b) w (set7 w b y0 y1 y2 y3 y4 y5 y6) := KeptB.of_grown (set7_grown w b y0 y1 y2 y3 y4 y5 y6) rfl
  exact ⟨G, C, ⟨ownsRow_keptB ho.hdr hk fun k e1 e2 => X.not_row (by decide) ho.hdr (by rw [e1, e2]), fun i hi => ownsRow_keptB (ho.row i hi) hk fun k e1 e2 => X.not_row (by decide) (ho.row i hi) (by rw [e1, e2]), ho.off, ho.apart⟩, q1, q2, by rw [set7_size]; exact q3⟩
theorem OwnI.box7 {v : Value} {zs : List Int} (h : OwnI w B v zs) (X : Box7 w b 73 x0 x1 x2 x3 x4 x5 x6) (y0 y1 y2 y3 y4 y5 y6 : Value) : OwnI (set7 w b y0 y1 y2 y3 y4 y5 y6) B v zs := h.keep (set7_grown w b y0 y1 y2 y3 y4 y5 y6) (X.not_row (by decide) h)
theorem T.OwnP.box7 {v : Value} {zs : List T.Pr} (h : T.OwnP w B v zs) (X : Box7 w b 73 x0 x1 x2 x3 x4 x5 x6) (y0 y1 y2 y3 y4 y5 y6 : Value) : T.OwnP (set7 w b y0 y1 y2 y3 y4 y5 y6) B v zs := h.keep (set7_grown w b y0 y1 y2 y3 y4 y5 y6) (X.not_row (by decide) h)
theorem K.OwnP.box7 {v : Value} {zs : List K.Pr} (h : K.OwnP w B v zs) (X : Box7 w b 73 x0 x1 x2 x3 x4 x5 x6) (y0 y1 y2 y3 y4 y5 y6 : Value) : K.OwnP (set7 w b y0 y1 y2 y3 y4 y5 y6) B v zs := h.keep (set7_grown w b y0 y1 y2 y3 y4 y5 y6) (X.not_row (by decide) h)
theorem OwnRR.cell7 {v : Value} {rs : List (List Int)} (h : OwnRR w B U v rs) (X : Box7 w b 73 x0 x1 x2 x3 x4 x5 x6) (i : Nat) (y : Value) : OwnRR (w.setCell ⟨b, i, none⟩ y) B U v rs := by
  obtain ⟨G, C, ho, q1, q2, q3⟩ := h
  have hk : KeptB (fun k => k = b) w (w.setCell ⟨b, i, none⟩ y) := KeptB.of_grown (grownBy_setCell w ⟨b, i, none⟩ y) rfl
  exact ⟨G, C, ⟨ownsRow_keptB ho.hdr hk fun k e1 e2 => X.not_row (by decide) ho.hdr (by rw [e1, e2]), fun i hi => ownsRow_keptB (ho.row i hi) hk fun k e1 e2 => X.not_row (by decide) (ho.row i hi) (by rw [e1, e2]), ho.off, ho.apart⟩, q1, q2, by simpa using q3⟩
theorem OwnI.cell7 {v : Value} {zs : List Int} (h : OwnI w B v zs) (X : Box7 w b 73 x0 x1 x2 x3 x4 x5 x6) (i : Nat) (y : Value) : OwnI (w.setCell ⟨b, i, none⟩ y) B v zs := h.keep (grownBy_setCell w ⟨b, i, none⟩ y) (X.not_row (by decide) h)
theorem T.OwnP.cell7 {v : Value} {zs : List T.Pr} (h : T.OwnP w B v zs) (X : Box7 w b 73 x0 x1 x2 x3 x4 x5 x6) (i : Nat) (y : Value) : T.OwnP (w.setCell ⟨b, i, none⟩ y) B v zs := h.keep (grownBy_setCell w ⟨b, i, none⟩ y) (X.not_row (by decide) h)
theorem K.OwnP.cell7 {v : Value} {zs : List K.Pr} (h : K.OwnP w B v zs) (X : Box7 w b 73 x0 x1 x2 x3 x4 x5 x6) (i : Nat) (y : Value) : K.OwnP (w.setCell ⟨b, i, none⟩ y) B v zs := h.keep (grownBy_setCell w ⟨b, i, none⟩ y) (X.not_row (by decide) h)
end
theorem OwnS.box7 {w : World} {B U b : Nat} {V : SV} {s : Sm} {x0 x1 x2 x3 x4 x5 x6 : Value} (h : OwnS w B U V s) (X : Box7 w b 73 x0 x1 x2 x3 x4 x5 x6) (y0 y1 y2 y3 y4 y5 y6 : Value) : OwnS (set7 w b y0 y1 y2 y3 y4 y5 y6) B U V s := by
  obtain ⟨M, h1, h2, hr, hf⟩ := h.mid
  have hg := set7_grown w b y0 y1 y2 y3 y4 y5 y6
  have hk : KeptB (fun k => k = b) w (set7 w b y0 y1 y2 y3 y4 y5 y6) := KeptB.of_grown hg rfl
  have e := set7_size w b y0 y1 y2 y3 y4 y5 y6
  refine ⟨⟨M, h1, h2, ?_, ?_⟩, ?_, ?_, h.ft, h.tt, h.kt, by rw [e]; exact h.top⟩
  · obtain ⟨G, C, ho, q1, q2, q3⟩ := hr
    exact ⟨G, C, ⟨ownsRow_keptB ho.hdr hk fun k e1 e2 => X.not_row (by decide) ho.hdr (by rw [e1, e2]), fun i hi => ownsRow_keptB (ho.row i hi) hk fun k e1 e2 => X.not_row (by decide) (ho.row i hi) (by rw [e1, e2]), ho.off, ho.apart⟩, q1, q2, by rw [e]; exact q3⟩
  · exact hf.keep hg (X.not_row (by decide) hf)
  · exact h.t.keep hg (X.not_row (by decide) h.t)
  · exact h.k.keep hg (X.not_row (by decide) h.k)

theorem OwnS.make {W : World} {B B1 M B2 B3 B4 : Nat} {V : SV} {s : Sm} (hr : OwnRR W B1 M V.r s.rs) (hf : OwnI W B2 V.f s.zs) (ht : T.OwnP W B3 V.t s.ps) (hk : K.OwnP W B4 V.k s.ks) (h1 : B ≤ B1) (hM : B ≤ M) (h2 : M ≤ B2) (h3 : B ≤ B3) (h4 : B ≤ B4) : OwnS W B W.heap.size V s :=
  ⟨⟨M, hM, hr.top, hr.base h1, ownsRow_base hf h2⟩, ownsRow_base ht h3, ownsRow_base hk h4, fun _ e => (World.ownsRow.lt hf _ e).2, fun _ e => (World.ownsRow.lt ht _ e).2, fun _ e => (World.ownsRow.lt hk _ e).2, Nat.le_refl _⟩
theorem joinA_yes {ra rb : List (List Int)} (h : joinB ra rb = true) : joinA ra rb = joinV ra rb := by unfold joinA; rw [h]; rfl
/-- What a region leaves that calls for a sum and lays it in a box of its own. -/
structure Got (w wx : World) (P : Nat) (V : SV) (s : Sm) : Prop where
  below : Below w.heap.size w wx
  own : OwnS wx w.heap.size wx.heap.size V s
  box : BoxS wx P V s
  lo : w.heap.size ≤ P
theorem Got.last {w wx : World} {B : Nat} {V : SV} {s : Sm} (hb : Below w.heap.size w wx) (ho : OwnS wx B wx.heap.size V s) (hB : w.heap.size ≤ B) : Got w (wx.alloc (.cells #[.slice V.xr V.nr V.cr, .slice V.xf V.nf V.cf, .slice V.xt V.nt V.ct, .int .i64 s.lo, .int .i64 s.al, .slice V.xk V.nk V.ck, .int .i64 s.ka] 73)) wx.heap.size V s :=
  ⟨hb.alloc hb.size _, (ho.alloc _).base hB (by simp) (Nat.le_refl _), Box7.new _ _ _ _ _ _ _ _ _, hb.size⟩
theorem Got.stored {w wx : World} {B P : Nat} {V : SV} {s : Sm} {x0 x1 x2 x3 x4 x5 x6 : Value} (hb : Below w.heap.size w wx) (ho : OwnS wx B wx.heap.size V s) (hB : w.heap.size ≤ B) (X : Box7 wx P 73 x0 x1 x2 x3 x4 x5 x6) (hP : w.heap.size ≤ P) :
    Got w (set7 wx P (.slice V.xr V.nr V.cr) (.slice V.xf V.nf V.cf) (.slice V.xt V.nt V.ct) (.int .i64 s.lo) (.int .i64 s.al) (.slice V.xk V.nk V.ck) (.int .i64 s.ka)) P V s :=
  ⟨below_set7 hb hP _ _ _ _ _ _ _, (ho.box7 X _ _ _ _ _ _ _).base hB (by rw [set7_size]; exact Nat.le_refl _) (Nat.le_refl _), X.set _ _ _ _ _ _ _, hP⟩

end Go.Proofs.Ytnpogmhfdjmfdaa
