/-
  The knots that have something: the program's knotsOf.
-/
import Derived.Test.YtnpcgbjkahpcfaaKArr
import Derived.Test.YtnpcgbjkahpcfaaKList
import Derived.Deep.Cut
namespace Go.Proofs.Ytnpcgbjkahpcfaa
open Go.RowKit Go.Sort

set_option maxHeartbeats 4000000 in
theorem knotsOf_at (w : World) (N : List Int) (hl : N.length = 128) (h0 : N.getD 0 0 = 0) :
    Calls Try.prog 55 #[.agg (arrC N)] w fun e w' => ∃ v, e = .returned v ∧ OwnP w' w.heap.size v (listV N) ∧ Below w.heap.size w w' := by
  obtain ⟨i0, hi, hz0, hz1, hz2⟩ := info_parts pair_info
  have HA := Lib.hid (ArrI.new w N hl)
  obtain ⟨W, hW⟩ : ∃ W, W = w.alloc (.cells (arrC N) 68) := ⟨_, rfl⟩
  have hB : Below w.heap.size w W := by rw [hW]; exact (Below.refl _ _).alloc (Nat.le_refl _) _
  have HB0 := Lib.hid hB
  rw [← hW] at HA
  clear hB
  go_enter Try.func55, Try.ntmps55
  go_upto_region 0 with fail
  go_step
  refine wpList_box_arr rfl _ rfl N rfl ?_
  rw [← hW]
  clear hW
  go_wp2_with (refine wpList_load_arr rfl _ rfl _ N rfl HA.out ?_)
  go_loopw [3, 7] (fun o i wr => ∃ (k no : Nat) (x : Option Addr) (co : Nat), k ≤ 128 ∧ i = .int .i64 ((k : Nat) : Int) ∧ o = .slice x no co ∧ no = (listK N (k - 1)).length ∧ OwnP wr W.heap.size (.slice x no co) (listK N (k - 1)) ∧ Below W.heap.size W wr) (fun _ i _ => 128 - (intOf i).toNat)
  case atStart => exact ⟨0, 0, none, 0, Nat.zero_le _, rfl, rfl, rfl, OwnP.nil _ _, Below.refl _ _⟩
  case round =>
    obtain ⟨k, no, x, co, hk, rfl, rfl, hno, hown, hbl⟩ := hrel
    by_cases hlt : k < 128
    · have k0 : (0 : Int) ≤ (k : Int) := by omega
      have kn : (k : Int) < 128 := by omega
      have ho : wr.ownsRow W.heap.size 33 2 (.slice x no co) no (prs (listK N (k - 1))) := by have h := hown; unfold OwnP at h; rw [← hno] at h; exact h
      have HO := Lib.hid ho
      have HN := Lib.hid hno
      have HB := Lib.hid hbl
      have HL := Lib.hid hl
      have szr := hbl.size
      have nb : no ≤ 127 := by have := listK_len N (k - 1); omega
      have hs : Hid (listK N (k + 1 - 1) = listK N (k - 1) ++ if 0 < N.getD k 0 then [((k : Int), N.getD k 0)] else []) := by
        show _ = _
        by_cases hk0 : k = 0
        · subst hk0; rw [h0]; simp [listK]
        · obtain ⟨j, rfl⟩ : ∃ j, k = j + 1 := ⟨k - 1, by omega⟩
          rfl
      have step : ∀ V, V = N.getD k 0 → Hid (V = N.getD k 0) := fun V h => h
      clear h0 hown hno hbl hl ho
      go_upto_region 4 with fail
      go_step
      go_step
      go_step
      go_step
      refine wpList_index_arr rfl _ _ rfl N k rfl rfl HL.out hlt ?_
      generalize listK N (k - 1) = os at *
      generalize N.getD k 0 = V at *
      by_cases hp : 0 < V
      · have e := Lib.hid (hs.out.trans (by rw [if_pos hp]))
        go_wp2_with (first | (at_builtin; refine wpList_append_own _ rfl _ _ 27 rfl W.heap.size 33 i0 (.agg #[.int .i64 0, .int .i64 0]) 2 16 Try.underlying27 hi hz0 hz1 hz2 rfl (by decide) _ _ _ rfl (HO.out.alloc _) ⟨wr.heap.size, 0, none⟩ 1 1 [.int .i64 k, .int .i64 V] rfl rfl (cell_two_new _ _ _ _) (by simp [Value.oneCell']) (by unfold maxLen; omega) (by omega) (by simp; omega) ?_; intro v1 w3 ho1 hg1 _; obtain ⟨g_v1, c_v1, rfl, _, _⟩ := World.ownsRow.form ho1 (Nat.succ_pos _)))
        go_roundw
        case rel => exact ⟨k + 1, no + 1, _, _, by omega, by go_num, rfl, by rw [e.out]; simp [HN.out], by rw [e.out]; exact own_snocP ho1 HN.out, below_appendP HB.out szr HO.out hg1⟩
        case measure => simp [intOf]; omega
      · have e := Lib.hid (hs.out.trans (by rw [if_neg hp, List.append_nil]))
        have OW : Hid (OwnP wr W.heap.size (.slice x no co) os) := by show OwnP _ _ _ _; unfold OwnP; rw [← HN.out]; exact HO.out
        go_wp2
        go_roundw
        case rel => exact ⟨k + 1, no, _, _, by omega, by go_num, rfl, by rw [e.out]; exact HN.out, by rw [e.out]; exact OW.out, HB.out⟩
        case measure => simp [intOf]; omega
    · obtain rfl : k = 128 := by omega
      have HO := Lib.hid hown
      have HB := Lib.hid (HB0.out.trans (hbl.mono HB0.out.size))
      have HS := Lib.hid HB0.out.size
      clear h0 hno hbl hl HA hlt hk hown
      go_wp2
      go_ret
      exact ⟨_, rfl, HO.out.base HS.out, HB.out⟩

end Go.Proofs.Ytnpcgbjkahpcfaa
