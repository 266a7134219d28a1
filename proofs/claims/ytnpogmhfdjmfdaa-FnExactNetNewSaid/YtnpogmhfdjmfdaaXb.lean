/-
  Several texts in one: ExMark, ExPair, ExRows, ExRR, ExPairR.
-/
import Derived.Test.YtnpogmhfdjmfdaaXa
import Derived.Test.YtnpogmhfdjmfdaaRa
import Derived.Test.YtnpogmhfdjmfdaaFb
import Derived.Test.YtnpogmhfdjmfdaaORR
import Derived.Test.YtnpogmhfdjmfdaaRc
set_option linter.unusedVariables false
/-
  The exact laws' marks in a slice of numbers that is a struct's one field.
-/
namespace Go.Proofs.Ytnpogmhfdjmfdaa
open Go.RowKit Go.Sort

theorem markIntS_nil (w : World) (k : Int) : Calls Try.prog 9 #[.slice none 0 0, .int .i64 k] w fun e w' => e = .returned (.int .i64 k) ∧ w = w' := by
  go_enter Try.func9, Try.ntmps9
  go_wp2
  refine wp_loop_rounds 1 ?_
  rw [rounds_succ]
  go_wp2
  go_ret
  exact ⟨rfl, rfl⟩

theorem markIntS_own (w : World) (B : Nat) (v : Value) (zs : List Int) (k : Int) (h : OwnI w B v zs) (hn : zs.length ≤ 1048576) (hk : 0 ≤ k) (hk' : k ≤ 1000000000000) :
    Calls Try.prog 9 #[v, .int .i64 k] w fun e w' => e = .returned (.int .i64 (k + zs.length)) ∧ OwnI w' B v (mkRow k zs.length) ∧ w.grownBy w' v.ownBlock := by
  by_cases h0 : v = .slice none 0 0
  · subst h0
    have hz : zs = [] := by
      rcases h.2 with ⟨_, e⟩ | ⟨g, cap, cur, e, _⟩
      · exact List.eq_nil_of_length_eq_zero e
      · cases e
    subst hz
    exact (markIntS_nil w k).mono fun e w' ⟨he, hw⟩ => ⟨by rw [he]; simp, by subst hw; exact OwnI.nil _ _, by subst hw; exact grownBy_refl _ _⟩
  · rcases h.2 with ⟨e, _⟩ | ⟨g, cap, cur, e, hb, hh, hc, hm, hs, ht⟩
    · exact absurd e h0
    · subst e
      refine (markIntS_at w B g cap zs.length zs k rfl hn hk hk' h).mono fun e w' ⟨he, ho, hg⟩ => ⟨he, ?_, hg⟩
      unfold OwnI
      rw [mkRow_len]
      exact ho


/-- What was made earlier stays when what was made later is written into. -/
theorem OwnI.keepL {w w' : World} {B B' : Nat} {p q : Value} {zs ys : List Int} (hp : OwnI w B p zs) (hlt : ∀ k, p.ownBlock = some k → k < B') (hq : OwnI w B' q ys) (hg : w.grownBy w' q.ownBlock) : OwnI w' B p zs := by
  refine World.ownsRow.kept hp hg ?_
  cases hv : p.ownBlock with
  | none => exact .inl rfl
  | some k => exact .inr (fun e => by have := hlt k hv; have := (World.ownsRow.lt hq k e.symm).1; omega)
/-- And the other way round. -/
theorem OwnI.keepR {w w' : World} {B' : Nat} {p q : Value} {ys : List Int} (hq : OwnI w B' q ys) (hlt : ∀ k, p.ownBlock = some k → k < B') (hg : w.grownBy w' p.ownBlock) : OwnI w' B' q ys := hq.kept hg hlt
theorem below_mark {w W w' : World} {B : Nat} {p : Value} {zs : List Int} (h : Below w.heap.size w W) (hp : OwnI W B p zs) (hB : w.heap.size ≤ B) (hg : W.grownBy w' p.ownBlock) : Below w.heap.size w w' :=
  h.grown hg h.size (fun k e => by have := (World.ownsRow.lt hp k e).1; omega)
theorem boxed_mark {W w' : World} {b B : Nat} {t : TypeId} {v p : Value} {zs : List Int} (h : Go.Boxed W b t v) (ht : t ≠ 3) (hp : OwnI W B p zs) (hg : W.grownBy w' p.ownBlock) : Go.Boxed w' b t v := h.kept hg (h.not_row ht hp)

end Go.Proofs.Ytnpogmhfdjmfdaa

/-
  What a call of two turned arguments leaves: a box with the marks that it made, and an answer.
-/
namespace Go.Proofs.Ytnpogmhfdjmfdaa
open Go.RowKit Go.Sort

def MadeFew (W : World) (A : List Int) (ok : Bool) (sp sb : Value) (wx : World) : Prop :=
  ∃ P xs cs B, sp = .pointer (some ⟨P, 0, none⟩) ∧ sb = .bool ok ∧ Below W.heap.size W wx ∧ W.heap.size ≤ B ∧ OwnI wx B (.slice xs A.length cs) A ∧ Go.Boxed wx P 65 (.slice xs A.length cs)

/-- The box was made last. -/
theorem MadeFew.last {W wc : World} {A : List Int} {ok : Bool} {B cs : Nat} {xs : Option Addr} (h : Below W.heap.size W wc) (hB : W.heap.size ≤ B) (ho : OwnI wc B (.slice xs A.length cs) A) :
    MadeFew W A ok (.pointer (some ⟨wc.heap.size, 0, none⟩)) (.bool ok) (wc.alloc (.cells #[.slice xs A.length cs] 65)) :=
  ⟨_, _, _, _, rfl, rfl, h.alloc h.size _, hB, ho.alloc _, Go.Boxed.new _ _ _⟩
/-- The box was there, and is written into. -/
theorem MadeFew.stored {W wc : World} {A : List Int} {ok : Bool} {B cs P : Nat} {xs : Option Addr} {v : Value} (h : Below W.heap.size W wc) (hB : W.heap.size ≤ B) (ho : OwnI wc B (.slice xs A.length cs) A) (hP : W.heap.size ≤ P) (hX : Go.Boxed wc P 65 v) :
    MadeFew W A ok (.pointer (some ⟨P, 0, none⟩)) (.bool ok) (wc.setCell ⟨P, 0, none⟩ (.slice xs A.length cs)) :=
  ⟨_, _, _, _, rfl, rfl, h.setCell hP _, hB, ho.keep (grownBy_setCell wc ⟨P, 0, none⟩ _) (Ne.symm (hX.not_row (by decide) ho)), hX.set _⟩

end Go.Proofs.Ytnpogmhfdjmfdaa

/-
  A rough count that came in, turned: its rows are one's own, in blocks of their own.
-/
namespace Go.Proofs.Ytnpogmhfdjmfdaa
open Go.RowKit Go.Sort

/-- The first k rows are copied, to blocks that ascend. -/
def CopiedTo (W : World) (L : Nat) (rs : List (List Int)) (xs : List Value) (G : Nat → Nat) (k : Nat) : Prop :=
  ∀ j, j < k → xs[j]? = some (.slice (some ⟨G j, 0, none⟩) (rs.getD j []).length (rs.getD j []).length) ∧ OwnI W (L + 1) (.slice (some ⟨G j, 0, none⟩) (rs.getD j []).length (rs.getD j []).length) (rs.getD j []) ∧ L < G j ∧ G j < W.heap.size ∧ ∀ i, i < j → G i < G j
theorem copied_own {W : World} {L n : Nat} {rs : List (List Int)} {xs : List Value} {G : Nat → Nat} (hn : n = rs.length) (hx : xs.length = n) (ho : W.ownsRow L 22 1 (.slice (some ⟨L, 0, none⟩) n n) n xs) (hc : CopiedTo W L rs xs G n) :
    OwnR W L (.slice (some ⟨L, 0, none⟩) n n) rs G (fun i => (rs.getD i []).length) := by
  subst hn
  have e : xs = (List.range rs.length).map (rowV rs G fun i => (rs.getD i []).length) := by
    refine List.ext_getElem? fun i => ?_
    by_cases hi : i < rs.length
    · rw [(hc i hi).1, List.getElem?_map, List.getElem?_range hi]; rfl
    · rw [List.getElem?_eq_none (by omega), List.getElem?_eq_none (by simp; omega)]
  refine ⟨by rw [← e]; exact ho, fun i hi => OwnI.base (hc i hi).2.1 (Nat.le_succ _), fun i hi q => ?_, fun i j hi hj hne q => ?_⟩
  · have h := (hc i hi).2.2.1
    simp [Value.ownBlock] at q
    omega
  · rcases Nat.lt_or_gt_of_ne hne with h | h
    · have := (hc j hj).2.2.2.2 i h; omega
    · have := (hc i hi).2.2.2.2 j h; omega

end Go.Proofs.Ytnpogmhfdjmfdaa

/-
  Rows of one's own between two bounds, and their marks.
-/
namespace Go.Proofs.Ytnpogmhfdjmfdaa
open Go.RowKit Go.Sort

/-- What a mark leaves as it was. -/
structure MarkKeeps (W W' : World) (B T : Nat) : Prop where
  box : ∀ b t u, t ≠ 3 → Go.Boxed W b t u → Go.Boxed W' b t u
  own : ∀ B2 T2 v2 rs2, (T2 ≤ B ∨ T ≤ B2) → OwnRR W B2 T2 v2 rs2 → OwnRR W' B2 T2 v2 rs2
  below : ∀ w : World, w.heap.size ≤ B → Below w.heap.size w W → Below w.heap.size w W'

theorem ahead_le (A : List (List Int)) (h : ∀ i, i < A.length → (A.getD i []).length ≤ 8) : ∀ n, n ≤ A.length → ahead A n ≤ 8 * n
  | 0, _ => Nat.le_refl _
  | n + 1, hn => by have h1 := ahead_le A h n (by omega); have h2 := h n (by omega); show ahead A n + (A.getD n []).length ≤ _; omega
theorem addA_len (rs : List (List Int)) (t n : Int) : (addA rs t n).length ≤ 3 ∧ (∀ i, i < (addA rs t n).length → (addA rs t n).getD i [] = (addA rs t n).getD i [] ∧ ((addA rs t n).getD i []).length ≤ 8) := by
  unfold addA resV
  by_cases hj : addB rs t n = true
  · rw [if_pos hj]
    exact ⟨Nat.le_refl _, fun i hi => ⟨rfl, by rw [(fine_okB (okB_add hj).1 i hi).1.1]; omega⟩⟩
  · rw [if_neg hj]
    exact ⟨Nat.zero_le _, fun i hi => absurd hi (Nat.not_lt_zero i)⟩
theorem joinA_len (ra rb : List (List Int)) : (joinA ra rb).length ≤ 3 ∧ (∀ i, i < (joinA ra rb).length → (joinA ra rb).getD i [] = (joinA ra rb).getD i [] ∧ ((joinA ra rb).getD i []).length ≤ 8) := by
  unfold joinA resV
  by_cases hj : joinB ra rb = true
  · rw [if_pos hj]
    exact ⟨Nat.le_refl _, fun i hi => ⟨rfl, by rw [joinV_get _ _ i hi]; simp [addRows]⟩⟩
  · rw [if_neg hj]
    exact ⟨Nat.zero_le _, fun i hi => absurd hi (Nat.not_lt_zero i)⟩
/-- What comparing and marking ask of the lengths. -/
structure Lens (A : List (List Int)) : Prop where
  len : A.length ≤ 1048576
  row : ∀ i, i < A.length → (A.getD i []).length ≤ 1048576
  all : ahead A A.length ≤ 100000000
  lenM : A.length ≤ maxLen
  rowM : ∀ i, i < A.length → (A.getD i []).length ≤ maxLen
theorem Lens.small {A : List (List Int)} (h : A.length ≤ 3 ∧ (∀ i, i < A.length → A.getD i [] = A.getD i [] ∧ (A.getD i []).length ≤ 8)) : Lens A :=
  ⟨by omega, fun i hi => by have := (h.2 i hi).2; omega, by have := ahead_le A (fun i hi => (h.2 i hi).2) A.length (Nat.le_refl _); omega, by unfold maxLen; omega, fun i hi => by have := (h.2 i hi).2; unfold maxLen; omega⟩
theorem Lens.arg {A : List (List Int)} (h : A.length + ahead A A.length ≤ 1048576) : Lens A :=
  ⟨by omega, fun i hi => by have := ahead_row A i A.length hi; omega, by omega, by unfold maxLen; omega, fun i hi => by have := ahead_row A i A.length hi; unfold maxLen; omega⟩

end Go.Proofs.Ytnpogmhfdjmfdaa

/-
  What a call of two turned arguments leaves, over rows: a box with the rows that it made, and an answer.
-/
namespace Go.Proofs.Ytnpogmhfdjmfdaa
open Go.RowKit Go.Sort

theorem OwnRR.setBox {W : World} {B T P : Nat} {v u : Value} {t : TypeId} {rs : List (List Int)} (h : OwnRR W B T v rs) (X : Go.Boxed W P t u) (h1 : t ≠ 3) (h2 : t ≠ 22) (u' : Value) : OwnRR (W.setCell ⟨P, 0, none⟩ u') B T v rs := by
  obtain ⟨G, C, h, a, b, c⟩ := h
  have hk : KeptB (fun k => k = P) W (W.setCell ⟨P, 0, none⟩ u') := KeptB.of_grown (grownBy_setCell W ⟨P, 0, none⟩ u') rfl
  exact ⟨G, C, ⟨ownsRow_keptB h.hdr hk (fun k e q => X.not_row h2 h.hdr (by rw [e, q])), fun i hi => ownsRow_keptB (h.row i hi) hk (fun k e q => X.not_row h1 (h.row i hi) (by rw [e, q])), h.off, h.apart⟩, a, b, by simpa using c⟩

def MadeRR (W : World) (A : List (List Int)) (ok : Bool) (sp sb : Value) (wx : World) : Prop :=
  ∃ P xs cs B T, sp = .pointer (some ⟨P, 0, none⟩) ∧ sb = .bool ok ∧ Below W.heap.size W wx ∧ W.heap.size ≤ B ∧ OwnRR wx B T (.slice xs A.length cs) A ∧ Go.Boxed wx P 63 (.slice xs A.length cs)

/-- The box was made last. -/
theorem MadeRR.last {W wc : World} {A : List (List Int)} {ok : Bool} {B T cs : Nat} {xs : Option Addr} (h : Below W.heap.size W wc) (hB : W.heap.size ≤ B) (ho : OwnRR wc B T (.slice xs A.length cs) A) :
    MadeRR W A ok (.pointer (some ⟨wc.heap.size, 0, none⟩)) (.bool ok) (wc.alloc (.cells #[.slice xs A.length cs] 63)) :=
  ⟨_, _, _, _, _, rfl, rfl, h.alloc h.size _, hB, ho.alloc _, Go.Boxed.new _ _ _⟩
/-- The box was there, and is written into. -/
theorem MadeRR.stored {W wc : World} {A : List (List Int)} {ok : Bool} {B T cs P : Nat} {xs : Option Addr} {v : Value} (h : Below W.heap.size W wc) (hB : W.heap.size ≤ B) (ho : OwnRR wc B T (.slice xs A.length cs) A) (hP : W.heap.size ≤ P) (hX : Go.Boxed wc P 63 v) :
    MadeRR W A ok (.pointer (some ⟨P, 0, none⟩)) (.bool ok) (wc.setCell ⟨P, 0, none⟩ (.slice xs A.length cs)) :=
  ⟨_, _, _, _, _, rfl, rfl, h.setCell hP _, hB, ho.setBox hX (by decide) (by decide) _, hX.set _⟩

end Go.Proofs.Ytnpogmhfdjmfdaa
