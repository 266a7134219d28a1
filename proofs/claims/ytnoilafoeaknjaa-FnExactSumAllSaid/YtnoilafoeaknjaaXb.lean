/-
  Several texts in one: ExMark, ExPair, ExRows, ExRR, ExPairR.
-/
import Derived.Test.YtnoilafoeaknjaaXa
import Derived.Test.YtnoilafoeaknjaaRa
import Derived.Test.YtnoilafoeaknjaaFb
import Derived.Test.YtnoilafoeaknjaaORR
import Derived.Test.YtnoilafoeaknjaaRc
set_option linter.unusedVariables false
/-
  The exact laws' marks in a slice of numbers that is a struct's one field.
-/
namespace Go.Proofs.Ytnoilafoeaknjaa
open Go.RowKit Go.Sort

theorem markIntS_nil (w : World) (k : Int) : Calls Try.prog 95 #[.slice none 0 0, .int .i64 k] w fun e w' => e = .returned (.int .i64 k) ∧ w = w' := by
  go_enter Try.func95, Try.ntmps95
  go_wp2
  refine wp_loop_rounds 1 ?_
  rw [rounds_succ]
  go_wp2
  go_ret
  exact ⟨rfl, rfl⟩

theorem markIntS_own (w : World) (B : Nat) (v : Value) (zs : List Int) (k : Int) (h : OwnI w B v zs) (hn : zs.length ≤ 1048576) (hk : 0 ≤ k) (hk' : k ≤ 1000000000000) :
    Calls Try.prog 95 #[v, .int .i64 k] w fun e w' => e = .returned (.int .i64 (k + zs.length)) ∧ OwnI w' B v (mkRow k zs.length) ∧ w.grownBy w' v.ownBlock := by
  by_cases h0 : v = .slice none 0 0
  · subst h0
    have hz : zs = [] := by
      rcases h.2 with ⟨_, e⟩ | ⟨g, cap, cur, e, _⟩
      · exact List.eq_nil_of_length_eq_zero e
      · cases e
    subst hz
    exact (markIntS_nil w k).mono fun e w' ⟨he, hw⟩ => ⟨by rw [he]; simp, by subst hw; exact OwnI.nil _ _, by subst hw; exact grownBy_refl _ _⟩
  · rcases h.2 with ⟨e, _⟩ | ⟨g, cap, cur, e, hb, hh, hc, hm, hs, ht⟩
    · exact absurd e h0
    · subst e
      refine (markIntS_at w B g cap zs.length zs k rfl hn hk hk' h).mono fun e w' ⟨he, ho, hg⟩ => ⟨he, ?_, hg⟩
      unfold OwnI
      rw [mkRow_len]
      exact ho

theorem markFew_at (w : World) (B : Nat) (u : Value) (zs : List Int) (k : Int) (h : OwnI w B u zs) (hn : zs.length ≤ 1048576) (hk : 0 ≤ k) (hk' : k ≤ 1000000000000) :
    Calls Try.prog 63 #[.agg #[u], .int .i64 k] w fun e w' => e = .returned (.int .i64 (k + zs.length)) ∧ OwnI w' B u (mkRow k zs.length) ∧ w.grownBy w' u.ownBlock := by
  have K := Lib.hid (markIntS_own (w.alloc (.cells #[u] 28)) B u zs k (h.alloc _) hn hk hk')
  obtain ⟨x, c, hx⟩ := h.form
  obtain ⟨n, hn'⟩ : ∃ n, n = zs.length := ⟨_, rfl⟩
  rw [← hn'] at hx K ⊢
  subst hx
  clear h hn hn'
  go_enter Try.func63, Try.ntmps63
  go_wp2_with fail
  refine K.out.mono ?_
  rintro e w1 ⟨rfl, ho, hg⟩
  go_wp2
  go_ret
  exact ⟨rfl, ho, grownBy_trans (World.grownBy_alloc w _ _) hg⟩

theorem heldFew_at (w : World) (u : Value) (n : Nat) (k : Int) (h : Ints w u (mkRow k n)) (hn : n ≤ 1048576) (hk : 0 ≤ k) (hk' : k ≤ 1000000000000) :
    Calls Try.prog 67 #[.agg #[u], .int .i64 k] w fun e w' => e = .returned (.int .i64 (k + n)) ∧ Below w.heap.size w w' := by
  have hA := (Below.refl w.heap.size w).alloc (Nat.le_refl _) (.cells #[u] 28)
  have K := Lib.hid (heldIntS_at _ u n k hn hk hk' (h.below hA (Nat.le_refl _)))
  have HA := Lib.hid hA
  obtain ⟨⟨x, c, hx⟩, _⟩ := h.cases
  rw [mkRow_len] at hx
  subst hx
  have b : ¬ k + (n : Int) < 0 := by omega
  clear h hA
  go_enter Try.func67, Try.ntmps67
  go_wp2_with fail
  refine K.out.mono ?_
  rintro e w1 ⟨rfl, rfl⟩
  go_wp2
  go_ret
  exact ⟨rfl, HA.out⟩

/-- What was made earlier stays when what was made later is written into. -/
theorem OwnI.keepL {w w' : World} {B B' : Nat} {p q : Value} {zs ys : List Int} (hp : OwnI w B p zs) (hlt : ∀ k, p.ownBlock = some k → k < B') (hq : OwnI w B' q ys) (hg : w.grownBy w' q.ownBlock) : OwnI w' B p zs := by
  refine World.ownsRow.kept hp hg ?_
  cases hv : p.ownBlock with
  | none => exact .inl rfl
  | some k => exact .inr (fun e => by have := hlt k hv; have := (World.ownsRow.lt hq k e.symm).1; omega)
/-- And the other way round. -/
theorem OwnI.keepR {w w' : World} {B' : Nat} {p q : Value} {ys : List Int} (hq : OwnI w B' q ys) (hlt : ∀ k, p.ownBlock = some k → k < B') (hg : w.grownBy w' p.ownBlock) : OwnI w' B' q ys := hq.kept hg hlt
theorem below_mark {w W w' : World} {B : Nat} {p : Value} {zs : List Int} (h : Below w.heap.size w W) (hp : OwnI W B p zs) (hB : w.heap.size ≤ B) (hg : W.grownBy w' p.ownBlock) : Below w.heap.size w w' :=
  h.grown hg h.size (fun k e => by have := (World.ownsRow.lt hp k e).1; omega)
theorem boxed_mark {W w' : World} {b B : Nat} {t : TypeId} {v p : Value} {zs : List Int} (h : Go.Boxed W b t v) (ht : t ≠ 3) (hp : OwnI W B p zs) (hg : W.grownBy w' p.ownBlock) : Go.Boxed w' b t v := h.kept hg (h.not_row ht hp)

end Go.Proofs.Ytnoilafoeaknjaa

/-
  What a call of two turned arguments leaves: a box with the marks that it made, and an answer.
-/
namespace Go.Proofs.Ytnoilafoeaknjaa
open Go.RowKit Go.Sort

def MadeFew (W : World) (A : List Int) (ok : Bool) (sp sb : Value) (wx : World) : Prop :=
  ∃ P xs cs B, sp = .pointer (some ⟨P, 0, none⟩) ∧ sb = .bool ok ∧ Below W.heap.size W wx ∧ W.heap.size ≤ B ∧ OwnI wx B (.slice xs A.length cs) A ∧ Go.Boxed wx P 28 (.slice xs A.length cs)

/-- The box was made last. -/
theorem MadeFew.last {W wc : World} {A : List Int} {ok : Bool} {B cs : Nat} {xs : Option Addr} (h : Below W.heap.size W wc) (hB : W.heap.size ≤ B) (ho : OwnI wc B (.slice xs A.length cs) A) :
    MadeFew W A ok (.pointer (some ⟨wc.heap.size, 0, none⟩)) (.bool ok) (wc.alloc (.cells #[.slice xs A.length cs] 28)) :=
  ⟨_, _, _, _, rfl, rfl, h.alloc h.size _, hB, ho.alloc _, Go.Boxed.new _ _ _⟩
/-- The box was there, and is written into. -/
theorem MadeFew.stored {W wc : World} {A : List Int} {ok : Bool} {B cs P : Nat} {xs : Option Addr} {v : Value} (h : Below W.heap.size W wc) (hB : W.heap.size ≤ B) (ho : OwnI wc B (.slice xs A.length cs) A) (hP : W.heap.size ≤ P) (hX : Go.Boxed wc P 28 v) :
    MadeFew W A ok (.pointer (some ⟨P, 0, none⟩)) (.bool ok) (wc.setCell ⟨P, 0, none⟩ (.slice xs A.length cs)) :=
  ⟨_, _, _, _, rfl, rfl, h.setCell hP _, hB, ho.keep (grownBy_setCell wc ⟨P, 0, none⟩ _) (Ne.symm (hX.not_row (by decide) ho)), hX.set _⟩

end Go.Proofs.Ytnoilafoeaknjaa

/-
  A rough count that came in, turned: its rows are one's own, in blocks of their own.
-/
namespace Go.Proofs.Ytnoilafoeaknjaa
open Go.RowKit Go.Sort

/-- The first k rows are copied, to blocks that ascend. -/
def CopiedTo (W : World) (L : Nat) (rs : List (List Int)) (xs : List Value) (G : Nat → Nat) (k : Nat) : Prop :=
  ∀ j, j < k → xs[j]? = some (.slice (some ⟨G j, 0, none⟩) (rs.getD j []).length (rs.getD j []).length) ∧ OwnI W (L + 1) (.slice (some ⟨G j, 0, none⟩) (rs.getD j []).length (rs.getD j []).length) (rs.getD j []) ∧ L < G j ∧ G j < W.heap.size ∧ ∀ i, i < j → G i < G j
theorem copied_own {W : World} {L n : Nat} {rs : List (List Int)} {xs : List Value} {G : Nat → Nat} (hn : n = rs.length) (hx : xs.length = n) (ho : W.ownsRow L 26 1 (.slice (some ⟨L, 0, none⟩) n n) n xs) (hc : CopiedTo W L rs xs G n) :
    OwnR W L (.slice (some ⟨L, 0, none⟩) n n) rs G (fun i => (rs.getD i []).length) := by
  subst hn
  have e : xs = (List.range rs.length).map (rowV rs G fun i => (rs.getD i []).length) := by
    refine List.ext_getElem? fun i => ?_
    by_cases hi : i < rs.length
    · rw [(hc i hi).1, List.getElem?_map, List.getElem?_range hi]; rfl
    · rw [List.getElem?_eq_none (by omega), List.getElem?_eq_none (by simp; omega)]
  refine ⟨by rw [← e]; exact ho, fun i hi => OwnI.base (hc i hi).2.1 (Nat.le_succ _), fun i hi q => ?_, fun i j hi hj hne q => ?_⟩
  · have h := (hc i hi).2.2.1
    simp [Value.ownBlock] at q
    omega
  · rcases Nat.lt_or_gt_of_ne hne with h | h
    · have := (hc j hj).2.2.2.2 i h; omega
    · have := (hc i hi).2.2.2.2 j h; omega

set_option maxHeartbeats 2000000 in
theorem toIntSS_own (w : World) (v : Value) (rs : List (List Int)) (h : ArgR w v rs) (hn : rs.length ≤ 1048576) (hr : ∀ i, i < rs.length → (rs.getD i []).length ≤ 1048576) :
    Calls Try.prog 106 #[v] w fun e w' => e = .returned (.slice (some ⟨w.heap.size, 0, none⟩) rs.length rs.length) ∧ (∃ G : Nat → Nat, OwnR w' w.heap.size (.slice (some ⟨w.heap.size, 0, none⟩) rs.length rs.length) rs G (fun i => (rs.getD i []).length)) ∧ Below w.heap.size w w' := by
  obtain ⟨x, c, hx⟩ := h.form
  have hcs := fun hx' : v = .slice x rs.length c => (hx' ▸ h : ArgR w (.slice x rs.length c) rs).cells
  obtain ⟨n, hn'⟩ : ∃ n, n = rs.length := ⟨_, rfl⟩
  have HC := Lib.hid (hcs hx)
  rw [← hn'] at hx hn HC hr ⊢
  have HR := Lib.hid hr
  have hmk := rows_make n hn
  have own0 := World.ownsRow_lit (base := w.heap.size) (e := 26) (size := 1) w (madeCells #[.slice none 0 0] n) n (Nat.le_refl _) (by unfold maxLen; omega) (by rw [size_madeCells]; omega)
  have O0 := Lib.hid own0
  have HN := Lib.hid hn'
  subst hx
  clear h hn' hcs own0 hr
  go_enter Try.func106, Try.ntmps106
  go_wp2
  go_loopw [4] (fun i wr => ∃ (k : Nat) (xs : List Value) (G : Nat → Nat), k ≤ n ∧ i = .int .i64 k ∧ xs.length = n ∧ CopiedTo wr w.heap.size rs xs G k ∧ wr.ownsRow w.heap.size 26 1 (.slice (some ⟨w.heap.size, 0, none⟩) n n) n xs ∧ Below w.heap.size w wr) (fun i _ => n - (intOf i).toNat)
  case atStart => exact ⟨0, _, fun _ => 0, Nat.zero_le _, rfl, by rw [Array.length_toList, size_madeCells], fun _ h => absurd h (Nat.not_lt_zero _), O0.out, (Below.refl _ _).alloc (Nat.le_refl _) _⟩
  case round =>
    obtain ⟨k, xs, G, hk, rfl, hy, hys, hown, hbl⟩ := hrel
    have HY := Lib.hid hy
    have HYS := Lib.hid hys
    have HB := Lib.hid hbl
    have HO := Lib.hid hown
    clear hy hys hbl hown
    by_cases hlt : k < n
    · obtain ⟨b, o, u, rfl, hb, h1, hai⟩ := HC.out k hlt
      rw [← HB.out.cell (p := ⟨b, o + k, none⟩) hb] at h1
      have KT := Lib.hid (toIntS_at wr u (rs.getD k []) (hai.below HB.out (Nat.le_refl _)) (HR.out k hlt))
      obtain ⟨xu, cu, hxu⟩ := hai.form
      obtain ⟨m, hm⟩ : ∃ m, m = (rs.getD k []).length := ⟨_, rfl⟩
      rw [← hm] at KT hxu
      subst hxu
      have hlw : w.heap.size < wr.heap.size := (World.ownsRow.lt HO.out w.heap.size rfl).2
      have k0 : (0 : Int) ≤ (k : Int) := by omega
      have kn : (k : Int) < (n : Int) := by omega
      have HM := Lib.hid hm
      clear hai hm
      go_wp2_with fail
      refine KT.out.mono ?_
      rintro e w1 ⟨rfl, ho1, hb1⟩
      have ho2 := HO.out.kept (grownBy_below (row := none) hb1) (.inr (by simp [Value.ownBlock]))
      obtain ⟨uu, hc⟩ : ∃ uu, w1.cell? ⟨w.heap.size, k, none⟩ = some uu := by
        rw [ho2.cellAt k (by omega)]
        exact ⟨_, List.getElem?_eq_getElem (by rw [HY.out]; exact hlt)⟩
      have hf := ho2.frozenAt k
      have hs := ho2.stored k (.slice (some ⟨wr.heap.size, 0, none⟩) m m)
      have HS := Lib.hid hs
      have O1 := Lib.hid ho1
      have B1 := Lib.hid hb1
      clear hs ho1 ho2 hb1
      go_wp2
      go_roundw
      case rel =>
        have sg := grownBy_setCell w1 ⟨w.heap.size, k, none⟩ (.slice (some ⟨wr.heap.size, 0, none⟩) m m)
        have hg := hlw
        refine ⟨k + 1, xs.set k (.slice (some ⟨wr.heap.size, 0, none⟩) m m), fun i => if i = k then wr.heap.size else G i, by omega, by go_num, by simpa using HY.out, fun j hj => ?_, HS.out.1, (HB.out.trans (B1.out.mono HB.out.size)).setCell (Nat.le_refl _) _⟩
        have sz1 : wr.heap.size < w1.heap.size := (World.ownsRow.lt O1.out wr.heap.size rfl).2
        by_cases e : j = k
        · subst e
          simp only [if_pos]
          refine ⟨by rw [List.getElem?_set_self (by rw [HY.out]; exact hlt), HM.out], by rw [← HM.out]; exact (O1.out.base (by omega)).kept sg (fun q eq => by simp at eq; omega), hlw, by simpa using sz1, fun i hi => ?_⟩
          rw [if_neg (by omega)]
          exact (HYS.out i (by omega)).2.2.2.1
        · obtain ⟨hx, hox, h1, h2, h3⟩ := HYS.out j (by omega)
          simp only [if_neg e]
          refine ⟨by rw [List.getElem?_set_ne (Ne.symm e)]; exact hx, (hox.kept (grownBy_below (row := none) B1.out) (fun q eq => by cases eq)).kept sg (fun q eq => by simp at eq; omega), h1, by simp; omega, fun i hi => ?_⟩
          rw [if_neg (by omega)]
          exact h3 i hi
      case measure => simp [intOf]; omega
    · obtain rfl : k = n := by omega
      go_wp2
      go_ret
      exact ⟨rfl, ⟨G, copied_own HN.out HY.out HO.out HYS.out⟩, HB.out⟩

end Go.Proofs.Ytnoilafoeaknjaa

/-
  Rows of one's own between two bounds, and their marks.
-/
namespace Go.Proofs.Ytnoilafoeaknjaa
open Go.RowKit Go.Sort

/-- What a mark leaves as it was. -/
structure MarkKeeps (W W' : World) (B T : Nat) : Prop where
  box : ∀ b t u, t ≠ 3 → Go.Boxed W b t u → Go.Boxed W' b t u
  own : ∀ B2 T2 v2 rs2, (T2 ≤ B ∨ T ≤ B2) → OwnRR W B2 T2 v2 rs2 → OwnRR W' B2 T2 v2 rs2
  below : ∀ w : World, w.heap.size ≤ B → Below w.heap.size w W → Below w.heap.size w W'

theorem markRR_at (W : World) (B T : Nat) (u : Value) (rs : List (List Int)) (k : Int) (hn : rs.length ≤ 1048576) (hr : ∀ i, i < rs.length → (rs.getD i []).length ≤ 1048576) (hs : ahead rs rs.length ≤ 100000000) (hk : 0 ≤ k) (hk' : k ≤ 100000000000) (h : OwnRR W B T u rs) :
    Calls Try.prog 62 #[.agg #[u], .int .i64 k] W fun e W' => ∃ rs', e = .returned (.int .i64 (k + ahead rs rs.length)) ∧ Marked k rs rs' ∧ OwnRR W' B T u rs' ∧ MarkKeeps W W' B T := by
  obtain ⟨G, C, h, h1, h2, h3⟩ := h
  refine (markRough_at W B u rs G C k hn hr hs hk hk' h).mono fun e W' ⟨rs', he, hm, ho, hkb⟩ => ⟨rs', he, hm, ⟨G, C, ho, h1, fun i hi => h2 i (by rw [← hm.1]; exact hi), Nat.le_trans h3 hkb.size⟩, ?_⟩
  have lo : ∀ i, i < rs.length → B ≤ G i := fun i hi => ((h.row i hi).lt (G i) rfl).1
  refine ⟨fun b t v ht hX => ?_, fun B2 T2 v2 rs2 hd h' => h'.keptB hkb fun k q1 q2 => ?_, fun w hw hb => ?_⟩
  · refine (hkb.block b hX.lt ?_).trans hX
    rintro ⟨i, hi, e⟩
    exact hX.not_row ht (h.row i hi) (by rw [← e]; rfl)
  · rintro ⟨i, hi, e⟩
    have := lo i hi
    have := h2 i hi
    omega
  · exact hb.trans (hkb.below hb.size (fun k ⟨i, hi, e⟩ => by have := lo i hi; omega))

theorem toRough_own (w : World) (u : Value) (rs : List (List Int)) (h : ArgR w u rs) (hn : rs.length ≤ 1048576) (hr : ∀ i, i < rs.length → (rs.getD i []).length ≤ 1048576) :
    Calls Try.prog 74 #[.agg #[u]] w fun e w' => ∃ g, e = .returned (.agg #[.slice (some ⟨g, 0, none⟩) rs.length rs.length]) ∧ OwnRR w' w.heap.size w'.heap.size (.slice (some ⟨g, 0, none⟩) rs.length rs.length) rs ∧ Below w.heap.size w w' := by
  have hA := (((Below.refl w.heap.size w).alloc (Nat.le_refl _) (.cells #[u] 57)).alloc (by simp) (.cells #[.slice none 0 0] 25)).alloc (by simp; omega) (.cells #[.slice none 0 0] 25)
  have K := Lib.hid (toIntSS_own _ u rs (h.below hA (Nat.le_refl _)) hn hr)
  have HA := Lib.hid hA
  obtain ⟨x, c, hx⟩ := h.form
  obtain ⟨n, hn'⟩ : ∃ n, n = rs.length := ⟨_, rfl⟩
  rw [← hn'] at hx K hn ⊢
  subst hx
  have HNN := Lib.hid hn'
  clear h hn' hA hr
  obtain ⟨w0, hw0⟩ : ∃ w0, w0 = (((w.alloc (.cells #[.slice x n c] 57)).alloc (.cells #[.slice none 0 0] 25)).alloc (.cells #[.slice none 0 0] 25)) := ⟨_, rfl⟩
  have c1 : w0.cell? ⟨w.heap.size + 1, 0, none⟩ = some (.slice none 0 0) := by rw [hw0, World.cell?_alloc_past (hn := by simp), World.cell?_alloc_at (hn := by simp)]; simp
  have f1 : w0.frozen? ⟨w.heap.size + 1, 0, none⟩ = false := by rw [hw0, World.frozen?_alloc_past (hn := by simp)]; exact World.frozen?_alloc_at _ _ _ _ (by simp)
  have c2 : w0.cell? ⟨w.heap.size + 1 + 1, 0, none⟩ = some (.slice none 0 0) := by rw [hw0, World.cell?_alloc_at (hn := by simp)]; simp
  have f2 : w0.frozen? ⟨w.heap.size + 1 + 1, 0, none⟩ = false := by rw [hw0]; exact World.frozen?_alloc_at _ _ _ _ (by simp)
  have sz := Lib.hid (show w0.heap.size = w.heap.size + 3 by rw [hw0]; simp)
  rw [← hw0] at K HA
  have HW := Lib.hid hw0
  clear hw0
  go_enter Try.func74, Try.ntmps74
  go_wp2_with fail
  rw [← HW.out]
  refine K.out.mono ?_
  rintro e w1 ⟨rfl, ho1, hb1⟩
  have d1 := cell_later hb1 c1
  have d2 := cell_later hb1 c2
  have g1 : w1.frozen? ⟨w.heap.size + 1, 0, none⟩ = false := (hb1.frozen (p := ⟨w.heap.size + 1, 0, none⟩) (by have := sz.out; simp; omega)).trans f1
  have g2 : w1.frozen? ⟨w.heap.size + 1 + 1, 0, none⟩ = false := (hb1.frozen (p := ⟨w.heap.size + 1 + 1, 0, none⟩) (by have := sz.out; simp; omega)).trans f2
  have B1 := Lib.hid (HA.out.trans (hb1.mono HA.out.size))
  have O1 := Lib.hid ho1
  have e1 : (w1.setCell ⟨w.heap.size + 1 + 1, 0, none⟩ (.slice (some ⟨w0.heap.size, 0, none⟩) n n)).cell? ⟨w.heap.size + 1, 0, none⟩ = some (.slice none 0 0) := (World.cell?_setCell_other (h := by simp) ..).trans d1
  have e2 : (w1.setCell ⟨w.heap.size + 1 + 1, 0, none⟩ (.slice (some ⟨w0.heap.size, 0, none⟩) n n)).frozen? ⟨w.heap.size + 1, 0, none⟩ = false := by rw [World.frozen?_setCell]; exact g1
  have e3 := World.cell?_setCell_same w1 ⟨w.heap.size + 1 + 1, 0, none⟩ (.slice (some ⟨w0.heap.size, 0, none⟩) n n) d2
  clear hb1 ho1 HW c1 c2 f1 f2
  go_wp2
  have hr := World.cell?_setCell_same _ ⟨w.heap.size + 1, 0, none⟩ (.slice (some ⟨w0.heap.size, 0, none⟩) n n) e1
  have s1 := grownBy_setCell w1 ⟨w.heap.size + 1 + 1, 0, none⟩ (.slice (some ⟨w0.heap.size, 0, none⟩) n n)
  have s2 := grownBy_setCell (w1.setCell ⟨w.heap.size + 1 + 1, 0, none⟩ (.slice (some ⟨w0.heap.size, 0, none⟩) n n)) ⟨w.heap.size + 1, 0, none⟩ (.slice (some ⟨w0.heap.size, 0, none⟩) n n)
  refine bodyPost_ret (v := .agg #[.slice (some ⟨w0.heap.size, 0, none⟩) n n]) (by simp [results, Try.results74, go_sem, hr]) rfl ⟨_, rfl, ?_, ?_⟩
  · obtain ⟨G, o1⟩ := O1.out
    exact (((o1.grown s1 (fun k e => by have := sz.out; simp at e; omega)).grown s2 (fun k e => by have := sz.out; simp at e; omega)).base (by have := sz.out; omega)).bounds
  · exact (B1.out.setCell (by simp; omega) _).setCell (by simp) _

theorem ahead_le (A : List (List Int)) (h : ∀ i, i < A.length → (A.getD i []).length ≤ 8) : ∀ n, n ≤ A.length → ahead A n ≤ 8 * n
  | 0, _ => Nat.le_refl _
  | n + 1, hn => by have h1 := ahead_le A h n (by omega); have h2 := h n (by omega); show ahead A n + (A.getD n []).length ≤ _; omega
theorem addA_len (rs : List (List Int)) (t n : Int) : (addA rs t n).length ≤ 3 ∧ (∀ i, i < (addA rs t n).length → (addA rs t n).getD i [] = (addA rs t n).getD i [] ∧ ((addA rs t n).getD i []).length ≤ 8) := by
  unfold addA resV
  by_cases hj : addB rs t n = true
  · rw [if_pos hj]
    exact ⟨Nat.le_refl _, fun i hi => ⟨rfl, by rw [(fine_okB (okB_add hj).1 i hi).1.1]; omega⟩⟩
  · rw [if_neg hj]
    exact ⟨Nat.zero_le _, fun i hi => absurd hi (Nat.not_lt_zero i)⟩
theorem joinA_len (ra rb : List (List Int)) : (joinA ra rb).length ≤ 3 ∧ (∀ i, i < (joinA ra rb).length → (joinA ra rb).getD i [] = (joinA ra rb).getD i [] ∧ ((joinA ra rb).getD i []).length ≤ 8) := by
  unfold joinA resV
  by_cases hj : joinB ra rb = true
  · rw [if_pos hj]
    exact ⟨Nat.le_refl _, fun i hi => ⟨rfl, by rw [joinV_get _ _ i hi]; simp [addRows]⟩⟩
  · rw [if_neg hj]
    exact ⟨Nat.zero_le _, fun i hi => absurd hi (Nat.not_lt_zero i)⟩
/-- What comparing and marking ask of the lengths. -/
structure Lens (A : List (List Int)) : Prop where
  len : A.length ≤ 1048576
  row : ∀ i, i < A.length → (A.getD i []).length ≤ 1048576
  all : ahead A A.length ≤ 100000000
  lenM : A.length ≤ maxLen
  rowM : ∀ i, i < A.length → (A.getD i []).length ≤ maxLen
theorem Lens.small {A : List (List Int)} (h : A.length ≤ 3 ∧ (∀ i, i < A.length → A.getD i [] = A.getD i [] ∧ (A.getD i []).length ≤ 8)) : Lens A :=
  ⟨by omega, fun i hi => by have := (h.2 i hi).2; omega, by have := ahead_le A (fun i hi => (h.2 i hi).2) A.length (Nat.le_refl _); omega, by unfold maxLen; omega, fun i hi => by have := (h.2 i hi).2; unfold maxLen; omega⟩
theorem Lens.arg {A : List (List Int)} (h : A.length + ahead A A.length ≤ 1048576) : Lens A :=
  ⟨by omega, fun i hi => by have := ahead_row A i A.length hi; omega, by omega, by unfold maxLen; omega, fun i hi => by have := ahead_row A i A.length hi; unfold maxLen; omega⟩

end Go.Proofs.Ytnoilafoeaknjaa

/-
  What a call of two turned arguments leaves, over rows: a box with the rows that it made, and an answer.
-/
namespace Go.Proofs.Ytnoilafoeaknjaa
open Go.RowKit Go.Sort

theorem OwnRR.setBox {W : World} {B T P : Nat} {v u : Value} {t : TypeId} {rs : List (List Int)} (h : OwnRR W B T v rs) (X : Go.Boxed W P t u) (h1 : t ≠ 3) (h2 : t ≠ 26) (u' : Value) : OwnRR (W.setCell ⟨P, 0, none⟩ u') B T v rs := by
  obtain ⟨G, C, h, a, b, c⟩ := h
  have hk : KeptB (fun k => k = P) W (W.setCell ⟨P, 0, none⟩ u') := KeptB.of_grown (grownBy_setCell W ⟨P, 0, none⟩ u') rfl
  exact ⟨G, C, ⟨ownsRow_keptB h.hdr hk (fun k e q => X.not_row h2 h.hdr (by rw [e, q])), fun i hi => ownsRow_keptB (h.row i hi) hk (fun k e q => X.not_row h1 (h.row i hi) (by rw [e, q])), h.off, h.apart⟩, a, b, by simpa using c⟩

def MadeRR (W : World) (A : List (List Int)) (ok : Bool) (sp sb : Value) (wx : World) : Prop :=
  ∃ P xs cs B T, sp = .pointer (some ⟨P, 0, none⟩) ∧ sb = .bool ok ∧ Below W.heap.size W wx ∧ W.heap.size ≤ B ∧ OwnRR wx B T (.slice xs A.length cs) A ∧ Go.Boxed wx P 25 (.slice xs A.length cs)

/-- The box was made last. -/
theorem MadeRR.last {W wc : World} {A : List (List Int)} {ok : Bool} {B T cs : Nat} {xs : Option Addr} (h : Below W.heap.size W wc) (hB : W.heap.size ≤ B) (ho : OwnRR wc B T (.slice xs A.length cs) A) :
    MadeRR W A ok (.pointer (some ⟨wc.heap.size, 0, none⟩)) (.bool ok) (wc.alloc (.cells #[.slice xs A.length cs] 25)) :=
  ⟨_, _, _, _, _, rfl, rfl, h.alloc h.size _, hB, ho.alloc _, Go.Boxed.new _ _ _⟩
/-- The box was there, and is written into. -/
theorem MadeRR.stored {W wc : World} {A : List (List Int)} {ok : Bool} {B T cs P : Nat} {xs : Option Addr} {v : Value} (h : Below W.heap.size W wc) (hB : W.heap.size ≤ B) (ho : OwnRR wc B T (.slice xs A.length cs) A) (hP : W.heap.size ≤ P) (hX : Go.Boxed wc P 25 v) :
    MadeRR W A ok (.pointer (some ⟨P, 0, none⟩)) (.bool ok) (wc.setCell ⟨P, 0, none⟩ (.slice xs A.length cs)) :=
  ⟨_, _, _, _, _, rfl, rfl, h.setCell hP _, hB, ho.setBox hX (by decide) (by decide) _, hX.set _⟩

end Go.Proofs.Ytnoilafoeaknjaa
