/-
  A rough count that came in, turned: its rows are one's own, in blocks of their own.
-/
import Derived.Test.YteopnbjiffncbabExArgR
import Derived.Test.YteopnbjiffncbabExMark
namespace Go.Proofs.Yteopnbjiffncbab
open Go.RowKit Go.Sort

/-- The first k rows are copied, to blocks that ascend. -/
def CopiedTo (W : World) (L : Nat) (rs : List (List Int)) (xs : List Value) (G : Nat → Nat) (k : Nat) : Prop :=
  ∀ j, j < k → xs[j]? = some (.slice (some ⟨G j, 0, none⟩) (rs.getD j []).length (rs.getD j []).length) ∧ OwnI W (L + 1) (.slice (some ⟨G j, 0, none⟩) (rs.getD j []).length (rs.getD j []).length) (rs.getD j []) ∧ L < G j ∧ G j < W.heap.size ∧ ∀ i, i < j → G i < G j
theorem copied_own {W : World} {L n : Nat} {rs : List (List Int)} {xs : List Value} {G : Nat → Nat} (hn : n = rs.length) (hx : xs.length = n) (ho : W.ownsRow L 41 1 (.slice (some ⟨L, 0, none⟩) n n) n xs) (hc : CopiedTo W L rs xs G n) :
    OwnR W L (.slice (some ⟨L, 0, none⟩) n n) rs G (fun i => (rs.getD i []).length) := by
  subst hn
  have e : xs = (List.range rs.length).map (rowV rs G fun i => (rs.getD i []).length) := by
    refine List.ext_getElem? fun i => ?_
    by_cases hi : i < rs.length
    · rw [(hc i hi).1, List.getElem?_map, List.getElem?_range hi]; rfl
    · rw [List.getElem?_eq_none (by omega), List.getElem?_eq_none (by simp; omega)]
  refine ⟨by rw [← e]; exact ho, fun i hi => OwnI.base (hc i hi).2.1 (Nat.le_succ _), fun i hi q => ?_, fun i j hi hj hne q => ?_⟩
  · have h := (hc i hi).2.2.1
    simp [Value.ownBlock] at q
    omega
  · rcases Nat.lt_or_gt_of_ne hne with h | h
    · have := (hc j hj).2.2.2.2 i h; omega
    · have := (hc i hi).2.2.2.2 j h; omega

set_option maxHeartbeats 2000000 in
theorem toIntSS_own (w : World) (v : Value) (rs : List (List Int)) (h : ArgR w v rs) (hn : rs.length ≤ 1048576) (hr : ∀ i, i < rs.length → (rs.getD i []).length ≤ 1048576) :
    Calls Try.prog 52 #[v] w fun e w' => e = .returned (.slice (some ⟨w.heap.size, 0, none⟩) rs.length rs.length) ∧ (∃ G : Nat → Nat, OwnR w' w.heap.size (.slice (some ⟨w.heap.size, 0, none⟩) rs.length rs.length) rs G (fun i => (rs.getD i []).length)) ∧ Below w.heap.size w w' := by
  obtain ⟨x, c, hx⟩ := h.form
  have hcs := fun hx' : v = .slice x rs.length c => (hx' ▸ h : ArgR w (.slice x rs.length c) rs).cells
  obtain ⟨n, hn'⟩ : ∃ n, n = rs.length := ⟨_, rfl⟩
  have HC := Lib.hid (hcs hx)
  rw [← hn'] at hx hn HC hr ⊢
  have HR := Lib.hid hr
  have hmk := rows_make n hn
  have own0 := World.ownsRow_lit (base := w.heap.size) (e := 41) (size := 1) w (madeCells #[.slice none 0 0] n) n (Nat.le_refl _) (by unfold maxLen; omega) (by rw [size_madeCells]; omega)
  have O0 := Lib.hid own0
  have HN := Lib.hid hn'
  subst hx
  clear h hn' hcs own0 hr
  go_enter Try.func52, Try.ntmps52
  go_wp2
  go_loopw [4] (fun i wr => ∃ (k : Nat) (xs : List Value) (G : Nat → Nat), k ≤ n ∧ i = .int .i64 k ∧ xs.length = n ∧ CopiedTo wr w.heap.size rs xs G k ∧ wr.ownsRow w.heap.size 41 1 (.slice (some ⟨w.heap.size, 0, none⟩) n n) n xs ∧ Below w.heap.size w wr) (fun i _ => n - (intOf i).toNat)
  case atStart => exact ⟨0, _, fun _ => 0, Nat.zero_le _, rfl, by rw [Array.length_toList, size_madeCells], fun _ h => absurd h (Nat.not_lt_zero _), O0.out, (Below.refl _ _).alloc (Nat.le_refl _) _⟩
  case round =>
    obtain ⟨k, xs, G, hk, rfl, hy, hys, hown, hbl⟩ := hrel
    have HY := Lib.hid hy
    have HYS := Lib.hid hys
    have HB := Lib.hid hbl
    have HO := Lib.hid hown
    clear hy hys hbl hown
    by_cases hlt : k < n
    · obtain ⟨b, o, u, rfl, hb, h1, hai⟩ := HC.out k hlt
      rw [← HB.out.cell (p := ⟨b, o + k, none⟩) hb] at h1
      have KT := Lib.hid (toIntS_at wr u (rs.getD k []) (hai.below HB.out (Nat.le_refl _)) (HR.out k hlt))
      obtain ⟨xu, cu, hxu⟩ := hai.form
      obtain ⟨m, hm⟩ : ∃ m, m = (rs.getD k []).length := ⟨_, rfl⟩
      rw [← hm] at KT hxu
      subst hxu
      have hlw : w.heap.size < wr.heap.size := (World.ownsRow.lt HO.out w.heap.size rfl).2
      have k0 : (0 : Int) ≤ (k : Int) := by omega
      have kn : (k : Int) < (n : Int) := by omega
      have HM := Lib.hid hm
      clear hai hm
      go_wp2_with fail
      refine KT.out.mono ?_
      rintro e w1 ⟨rfl, ho1, hb1⟩
      have ho2 := HO.out.kept (grownBy_below (row := none) hb1) (.inr (by simp [Value.ownBlock]))
      obtain ⟨uu, hc⟩ : ∃ uu, w1.cell? ⟨w.heap.size, k, none⟩ = some uu := by
        rw [ho2.cellAt k (by omega)]
        exact ⟨_, List.getElem?_eq_getElem (by rw [HY.out]; exact hlt)⟩
      have hf := ho2.frozenAt k
      have hs := ho2.stored k (.slice (some ⟨wr.heap.size, 0, none⟩) m m)
      have HS := Lib.hid hs
      have O1 := Lib.hid ho1
      have B1 := Lib.hid hb1
      clear hs ho1 ho2 hb1
      go_wp2
      go_roundw
      case rel =>
        have sg := grownBy_setCell w1 ⟨w.heap.size, k, none⟩ (.slice (some ⟨wr.heap.size, 0, none⟩) m m)
        have hg := hlw
        refine ⟨k + 1, xs.set k (.slice (some ⟨wr.heap.size, 0, none⟩) m m), fun i => if i = k then wr.heap.size else G i, by omega, by go_num, by simpa using HY.out, fun j hj => ?_, HS.out.1, (HB.out.trans (B1.out.mono HB.out.size)).setCell (Nat.le_refl _) _⟩
        have sz1 : wr.heap.size < w1.heap.size := (World.ownsRow.lt O1.out wr.heap.size rfl).2
        by_cases e : j = k
        · subst e
          simp only [if_pos]
          refine ⟨by rw [List.getElem?_set_self (by rw [HY.out]; exact hlt), HM.out], by rw [← HM.out]; exact (O1.out.base (by omega)).kept sg (fun q eq => by simp at eq; omega), hlw, by simpa using sz1, fun i hi => ?_⟩
          rw [if_neg (by omega)]
          exact (HYS.out i (by omega)).2.2.2.1
        · obtain ⟨hx, hox, h1, h2, h3⟩ := HYS.out j (by omega)
          simp only [if_neg e]
          refine ⟨by rw [List.getElem?_set_ne (Ne.symm e)]; exact hx, (hox.kept (grownBy_below (row := none) B1.out) (fun q eq => by cases eq)).kept sg (fun q eq => by simp at eq; omega), h1, by simp; omega, fun i hi => ?_⟩
          rw [if_neg (by omega)]
          exact h3 i hi
      case measure => simp [intOf]; omega
    · obtain rfl : k = n := by omega
      go_wp2
      go_ret
      exact ⟨rfl, ⟨G, copied_own HN.out HY.out HO.out HYS.out⟩, HB.out⟩

end Go.Proofs.Yteopnbjiffncbab
