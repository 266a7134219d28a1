/-
  The exact laws' marks in sums.
-/
import Derived.Test.YtnpogmhfdjmfdaaZExA
import Derived.Test.YtnpogmhfdjmfdaaTf
import Derived.Test.YtnpogmhfdjmfdaaKg
import Derived.Test.YtnpogmhfdjmfdaaXb
set_option linter.unusedVariables false
namespace Go.Proofs.Ytnpogmhfdjmfdaa
open Go.RowKit Go.Sort

/-- What marks in blocks between two bounds leave as it was. -/
structure MarkKeepsS (W W' : World) (B T : Nat) : Prop where
  box : ∀ b t x0 x1 x2 x3 x4 x5 x6, t ≠ 3 → t ≠ 94 → t ≠ 96 → Box7 W b t x0 x1 x2 x3 x4 x5 x6 → Box7 W' b t x0 x1 x2 x3 x4 x5 x6
  keep : KeptB (fun k => B ≤ k ∧ k < T) W W'
theorem MarkKeepsS.trans {W W1 W2 : World} {B T : Nat} (h : MarkKeepsS W W1 B T) (k : MarkKeepsS W1 W2 B T) : MarkKeepsS W W2 B T :=
  ⟨fun b t x0 x1 x2 x3 x4 x5 x6 h1 h2 h3 X => k.box b t x0 x1 x2 x3 x4 x5 x6 h1 h2 h3 (h.box b t x0 x1 x2 x3 x4 x5 x6 h1 h2 h3 X), h.keep.trans k.keep⟩
theorem MarkKeepsS.alloc (W : World) (B T : Nat) (o : Obj) : MarkKeepsS W (W.alloc o) B T :=
  ⟨fun _ _ _ _ _ _ _ _ _ _ _ _ X => X.alloc o, KeptB.of_below _ ((Below.refl _ _).alloc (Nat.le_refl _) o)⟩
theorem MarkKeepsS.row {W W' : World} {B B' T : Nat} {e : TypeId} {size n : Nat} {v : Value} {xs : List Value} (ho : W.ownsRow B' e size v n xs) (he : e = 3 ∨ e = 94 ∨ e = 96) (hB : B ≤ B') (hT : ∀ k, v.ownBlock = some k → k < T) (hg : W.grownBy W' v.ownBlock) : MarkKeepsS W W' B T := by
  refine ⟨fun b t x0 x1 x2 x3 x4 x5 x6 h1 h2 h3 X => X.kept hg (X.not_row ?_ ho), ⟨hg.os, hg.tape, hg.output, hg.size, fun k hk hn => hg.block k hk (fun e => hn ⟨Nat.le_trans hB (ho.lt k e.symm).1, hT k e.symm⟩)⟩⟩
  rcases he with rfl | rfl | rfl <;> assumption
theorem MarkKeepsS.rough {W W' : World} {B T : Nat} {u : Value} {rs : List (List Int)} {G C : Nat → Nat} (h : OwnR W B u rs G C) (hT : ∀ i, i < rs.length → G i < T) (hk : KeptB (fun b => ∃ i, i < rs.length ∧ G i = b) W W') : MarkKeepsS W W' B T :=
  ⟨fun b t x0 x1 x2 x3 x4 x5 x6 h1 _ _ X => (hk.block b X.lt (by rintro ⟨i, hi, rfl⟩; exact X.not_row h1 (h.row i hi) rfl)).trans X, hk.mono (by rintro k ⟨i, hi, rfl⟩; exact ⟨((h.row i hi).lt (G i) rfl).1, hT i hi⟩)⟩
theorem MarkKeepsS.below {w W W' : World} {B T : Nat} (h : MarkKeepsS W W' B T) (hb : Below w.heap.size w W) (hB : w.heap.size ≤ B) : Below w.heap.size w W' := hb.trans (h.keep.below hb.size (fun _ q => Nat.le_trans hB q.1))
theorem MarkKeepsS.own {W W' : World} {B T B2 T2 : Nat} {V : SV} {s : Sm} (h : MarkKeepsS W W' B T) (hd : T2 ≤ B ∨ T ≤ B2) (o : OwnS W B2 T2 V s) : OwnS W' B2 T2 V s := by
  obtain ⟨M, m1, m2, hr, hf⟩ := o.mid
  have ns : ∀ k, B2 ≤ k → k < T2 → ¬ (B ≤ k ∧ k < T) := fun k a b c => by omega
  exact ⟨⟨M, m1, m2, hr.keptB h.keep (fun k a b => ns k a (by omega)), ownsRow_keptB hf h.keep (fun k e => ns k (Nat.le_trans m1 (World.ownsRow.lt hf k e).1) (o.ft k e))⟩, ownsRow_keptB o.t h.keep (fun k e => ns k (World.ownsRow.lt o.t k e).1 (o.tt k e)), ownsRow_keptB o.k h.keep (fun k e => ns k (World.ownsRow.lt o.k k e).1 (o.kt k e)), o.ft, o.tt, o.kt, Nat.le_trans o.top h.keep.size⟩
theorem MarkKeepsS.ints {W W' : World} {B T B2 T2 : Nat} {v : Value} {zs : List Int} (h : MarkKeepsS W W' B T) (hd : T2 ≤ B ∨ T ≤ B2) (o : OwnI W B2 v zs) (ht : ∀ k, v.ownBlock = some k → k < T2) : OwnI W' B2 v zs :=
  ownsRow_keptB o h.keep (fun k e c => by have := (World.ownsRow.lt o k e).1; have := ht k e; omega)
theorem OwnRR.other {W W' : World} {B M B' : Nat} {u v : Value} {rs : List (List Int)} {e : TypeId} {size n : Nat} {xs : List Value} (h : OwnRR W B M u rs) (hp : W.ownsRow B' e size v n xs) (h1 : 3 ≠ e) (h2 : 22 ≠ e) (hg : W.grownBy W' v.ownBlock) : OwnRR W' B M u rs := by
  obtain ⟨G, C, o, q1, q2, q3⟩ := h
  exact ⟨G, C, ⟨World.ownsRow.kept o.hdr hg (own_ne o.hdr hp h2), fun i hi => World.ownsRow.kept (o.row i hi) hg (own_ne (o.row i hi) hp h1), o.off, o.apart⟩, q1, q2, Nat.le_trans q3 hg.size⟩
theorem OwnRR.marked {W W' : World} {B M : Nat} {u v : Value} {rs : List (List Int)} {zs : List Int} (h : OwnRR W B M u rs) (hp : OwnI W M v zs) (hg : W.grownBy W' v.ownBlock) : OwnRR W' B M u rs := by
  have hk : KeptB (fun k => v.ownBlock = some k) W W' := ⟨hg.os, hg.tape, hg.output, hg.size, fun k hk hn => hg.block k hk (fun e => hn e.symm)⟩
  exact h.keptB hk (fun k _ q2 e => by have := (World.ownsRow.lt hp k e).1; omega)

def totS (s : Sm) : Nat := ahead s.rs s.rs.length + s.zs.length + 2 * s.ps.length + 2 * s.ks.length
theorem LenS.tot {s : Sm} (h : LenS s) : totS s ≤ 200000000 := by
  have := h.r.all
  have := h.f
  have := h.t
  have := h.k
  unfold totS
  omega
def MarkedS (k : Int) (s s' : Sm) : Prop := ∃ rs', Marked k s.rs rs' ∧ s' = ⟨rs', mkRow (k + (ahead s.rs s.rs.length : Nat)) s.zs.length, T.mkP (k + (ahead s.rs s.rs.length : Nat) + (s.zs.length : Nat)) s.ps.length, s.lo, s.al, K.mkP (k + (ahead s.rs s.rs.length : Nat) + (s.zs.length : Nat) + 2 * (s.ps.length : Int)) s.ks.length, s.ka⟩

end Go.Proofs.Ytnpogmhfdjmfdaa
