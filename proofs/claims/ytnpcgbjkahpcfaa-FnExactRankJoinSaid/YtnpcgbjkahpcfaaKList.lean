/-
  All knots at which something was counted: the model's l4List.
-/
import Derived.Test.YtnpcgbjkahpcfaaKSqz
import Derived.Deep.RegionLaw
import Derived.Deep.AppendLies
namespace Go.Proofs.Ytnpcgbjkahpcfaa
open Go.RowKit Go.Sort

theorem cell_two_new (w : World) (x y : Value) (t : TypeId) : ∀ j u, [x, y][j]? = some u → (w.alloc (.cells #[x, y] t)).cell? ((⟨w.heap.size, 0, none⟩ : Addr).add j) = some u := by
  intro j u hj
  match j, hj with
  | 0, hj => simp at hj; subst hj; simp [Addr.add]
  | 1, hj => simp at hj; subst hj; simp [Addr.add]
theorem OwnP.drewN {w : World} {B : Nat} {v : Value} {ps : List Pr} (h : OwnP w B v ps) (n : Nat) : OwnP (w.drewN n) B v ps := h
theorem own_snocP {w : World} {B no : Nat} {v : Value} {os : List Pr} {t m : Int} (h : w.ownsRow B 33 2 v (no + 1) (prs os ++ [.int .i64 t, .int .i64 m])) (hn : no = os.length) : OwnP w B v (os ++ [(t, m)]) := by
  unfold OwnP
  rw [prs_snoc, List.length_append, ← hn]
  exact h
theorem below_appendP {B : Nat} {w wr w' : World} {o : Obj} {e : TypeId} {size : Nat} {v : Value} {n : Nat} {xs : List Value} (hb : Below B w wr) (hB : B ≤ wr.heap.size) (ho : wr.ownsRow B e size v n xs) (hg : (wr.alloc o).grownBy w' v.ownBlock) : Below B w w' :=
  (hb.alloc hB o).grown hg (Nat.le_trans hB (by simp)) (fun k e => (ho.lt k e).1)

/-- The knots 1 to k at which something was counted. -/
def listK (N : List Int) : Nat → List Pr
  | 0 => []
  | k + 1 => listK N k ++ if 0 < N.getD (k + 1) 0 then [(((k + 1 : Nat) : Int), N.getD (k + 1) 0)] else []
def listV (N : List Int) : List Pr := listK N 127
theorem listK_len (N : List Int) (k : Nat) : (listK N k).length ≤ k := by
  induction k with
  | zero => exact Nat.le_refl _
  | succ k ih => unfold listK; split <;> simp <;> omega

set_option maxRecDepth 100000 in
set_option maxHeartbeats 4000000 in
theorem l4List_at (w : World) (B g c : Nat) (N : List Int) (h : RowI w B g 128 c N) :
    Calls Try.prog 51 #[.slice (some ⟨g, 0, none⟩) 128 c] w fun e w' => ∃ v, e = .returned v ∧ OwnP w' w.heap.size v (listV N) ∧ Below w.heap.size w w' := by
  obtain ⟨i0, hi, hz0, hz1, hz2⟩ := info_parts pair_info
  have HR := Lib.hid h
  have HG := Lib.hid h.lt.2
  have HE := Lib.hid (pair_empty w w.heap.size (Nat.le_refl _))
  clear h
  go_enter Try.func51, Try.ntmps51
  go_wp2
  go_loopw [3, 4] (fun o i wr => ∃ (k no : Nat) (x : Option Addr) (co : Nat), k ≤ 127 ∧ i = .int .i64 ((k + 1 : Nat) : Int) ∧ o = .slice x no co ∧ no = (listK N k).length ∧ OwnP wr w.heap.size (.slice x no co) (listK N k) ∧ Below w.heap.size w wr) (fun _ i _ => 128 - (intOf i).toNat)
  case atStart => exact ⟨0, 0, _, _, Nat.zero_le _, by first | rfl | go_num, rfl, rfl, HE.out, (Below.refl _ _).alloc (Nat.le_refl _) _⟩
  case round =>
    obtain ⟨k, no, x, co, hk, rfl, rfl, hno, hown, hbl⟩ := hrel
    have HB := Lib.hid hbl
    have szr := hbl.size
    have ho : wr.ownsRow w.heap.size 33 2 (.slice x no co) no (prs (listK N k)) := by have h := hown; unfold OwnP at h; rw [← hno] at h; exact h
    have HO := Lib.hid ho
    have HN := Lib.hid hno
    have ln := listK_len N k
    have nb : no ≤ 127 := by omega
    have hs := Lib.hid (show listK N (k + 1) = listK N k ++ if 0 < N.getD (k + 1) 0 then [(((k + 1 : Nat) : Int), N.getD (k + 1) 0)] else [] from rfl)
    have hfin : Hid (k = 127 → listK N k = listV N) := fun e => by rw [e]; rfl
    generalize listK N k = os at *
    obtain ⟨K, hK⟩ : ∃ K, K = k + 1 := ⟨_, rfl⟩
    rw [← hK] at hs ⊢
    have HKK := Lib.hid hK
    clear hbl ho hno hown ln
    by_cases hlt : k < 127
    · have cN := (HR.out.below (by have := HB.out; exact this.mono (Nat.le_refl _))).cell (i := K) (by omega)
      obtain ⟨V, hV⟩ : ∃ V, V = N.getD K 0 := ⟨_, rfl⟩
      rw [← hV] at hs cN
      have k0 : (0 : Int) ≤ (K : Int) := by omega
      have kn : (K : Int) < 128 := by omega
      clear hV hK
      by_cases hp : 0 < V
      · have e := Lib.hid (hs.out.trans (by rw [if_pos hp]))
        go_wp2_with (first | (at_builtin; refine wpList_append_own _ rfl _ _ 27 rfl w.heap.size 33 i0 (.agg #[.int .i64 0, .int .i64 0]) 2 16 Try.underlying27 hi hz0 hz1 hz2 rfl (by decide) _ _ _ rfl (HO.out.alloc _) ⟨wr.heap.size, 0, none⟩ 1 1 [.int .i64 K, .int .i64 V] rfl rfl (cell_two_new _ _ _ _) (by simp [Value.oneCell']) (by unfold maxLen; omega) (by omega) (by simp; omega) ?_; intro v1 w3 ho1 hg1 _; obtain ⟨g_v1, c_v1, rfl, _, _⟩ := World.ownsRow.form ho1 (Nat.succ_pos _)))
        go_roundw
        case rel => exact ⟨K, no + 1, _, _, by omega, by go_num, rfl, by rw [HKK.out, ← HKK.out, e.out]; simp [HN.out], by rw [e.out]; exact own_snocP ho1 HN.out, below_appendP HB.out szr HO.out hg1⟩
        case measure => simp [intOf]; omega
      · have e := Lib.hid (hs.out.trans (by rw [if_neg hp, List.append_nil]))
        have OW : Hid (OwnP wr w.heap.size (.slice x no co) os) := by show OwnP _ _ _ _; unfold OwnP; rw [← HN.out]; exact HO.out
        go_wp2
        go_roundw
        case rel => exact ⟨K, no, _, _, by omega, by go_num, rfl, by rw [e.out]; exact HN.out, by rw [e.out]; exact OW.out, HB.out⟩
        case measure => simp [intOf]; omega
    · have ef := Lib.hid (hfin.out (by omega))
      clear hfin
      obtain rfl : k = 127 := by omega
      obtain rfl : K = 128 := by omega
      have OW : Hid (OwnP wr w.heap.size (.slice x no co) os) := by show OwnP _ _ _ _; unfold OwnP; rw [← HN.out]; exact HO.out
      clear hK hlt hk
      go_wp2
      go_ret
      exact ⟨_, rfl, ef.out ▸ OW.out, HB.out⟩

end Go.Proofs.Ytnpcgbjkahpcfaa
