/-
  Marks that are drawn and may be spoilt: DrawFewOk.
-/
import Derived.Test.YteopnbjiffncbacFDraw3
import Derived.Deep.RegionLawGrows
import Derived.IntWalk
import Derived.RangeFuncBox
import Derived.RangeFuncNested
namespace Go.Proofs.Yteopnbjiffncbac
open Go.RowKit Go.Sort

theorem bx_below {W w' : World} {b : Nat} {t : TypeId} {v : Value} (h : Go.Boxed W b t v) (hb : Below W.heap.size W w') : Go.Boxed w' b t v := (hb.block _ h.lt).trans h

/-- The end: what is owned goes into the box b, and thence into the answer's cell. -/
theorem ok_end {w w5 : World} {b B : Nat} {u u0 u1 : Value} {zs : List Int} (hB : Below w.heap.size w w5) (ho : OwnI w5 B u zs) (X : Go.Boxed w5 b 28 u0) (XR : Go.Boxed w5 w.heap.size 28 u1) (hb : w.heap.size < b) :
    Ints ((w5.setCell ⟨b, 0, none⟩ u).setCell ⟨w.heap.size, 0, none⟩ u) u zs ∧ Below w.heap.size w ((w5.setCell ⟨b, 0, none⟩ u).setCell ⟨w.heap.size, 0, none⟩ u) := by
  have s1 := grownBy_setCell w5 ⟨b, 0, none⟩ u
  have o1 : OwnI (w5.setCell ⟨b, 0, none⟩ u) B u zs := World.ownsRow.kept ho s1 (.inr (Ne.symm (X.not_row (by decide) ho)))
  have XR1 := XR.other (B' := b) (by omega) u
  have s2 := grownBy_setCell (w5.setCell ⟨b, 0, none⟩ u) ⟨w.heap.size, 0, none⟩ u
  exact ⟨OwnI.rd (World.ownsRow.kept o1 s2 (.inr (Ne.symm (XR1.not_row (by decide) o1)))), (hB.setCell (by show w.heap.size ≤ b; omega) _).setCell (Nat.le_refl _) _⟩
theorem ok_end0 {w w5 : World} {B : Nat} {u u1 : Value} {zs : List Int} (hB : Below w.heap.size w w5) (ho : OwnI w5 B u zs) (XR : Go.Boxed w5 w.heap.size 28 u1) :
    Ints (w5.setCell ⟨w.heap.size, 0, none⟩ u) u zs ∧ Below w.heap.size w (w5.setCell ⟨w.heap.size, 0, none⟩ u) := by
  have s2 := grownBy_setCell w5 ⟨w.heap.size, 0, none⟩ u
  exact ⟨OwnI.rd (World.ownsRow.kept ho s2 (.inr (Ne.symm (XR.not_row (by decide) ho)))), hB.setCell (Nat.le_refl _) _⟩
theorem ints_news {w : World} {b o m c : Nat} {zs : List Int} (h : Ints w (.slice (some ⟨b, o, none⟩) m c) zs) : ∀ j u, (ints zs)[j]? = some u → w.cell? ((⟨b, o, none⟩ : Addr).add j) = some u := by
  intro j u hu
  have hj : j < zs.length := by
    have := (List.getElem?_eq_some_iff.1 hu).1
    rwa [ints_len] at this
  rw [ints_get _ _ hj] at hu
  cases hu
  rcases h with ⟨e, _⟩ | ⟨b', o', cap, e, _, _, _, h4⟩
  · cases e
  · cases e
    have h := h4 j hj
    by_cases h0 : j = 0
    · subst h0; simpa [Addr.add] using h
    · simpa [Addr.add, h0] using h

theorem ints_one' (zs : List Int) : ∀ u ∈ ints zs, u.oneCell' = true := fun u hu => by
  obtain ⟨z, _, rfl⟩ := List.mem_map.1 hu
  rfl

theorem setCells_none (w : World) (b i : Nat) : w.setCells b i [] = w := rfl

set_option maxHeartbeats 8000000 in
theorem drawFOk_at (w : World) (v : Value) (n : Nat) (h : ∃ x cap, v = .slice x n cap) (hb : Bts w w.heap.size v n) :
    Calls Try.prog 17 #[v] w fun e w' => ∃ x c zs, e = .returned (.agg #[.slice x zs.length c]) ∧ Ints w' (.slice x zs.length c) zs ∧ zs.length ≤ 8 ∧ Below w.heap.size w w' := by
  obtain ⟨i0, hi, hz0, hz1, hz2⟩ := info_parts few_info
  have hA := (Below.refl w.heap.size w).alloc (Nat.le_refl _) (.cells #[.slice none 0 0] 28)
  have XR0 : Go.Boxed (w.alloc (.cells #[.slice none 0 0] 28)) w.heap.size 28 (.slice none 0 0) := Go.Boxed.new _ _ _
  have K := Lib.hid (open_rd _ v n h (bts_alloc hb (.cells #[.slice none 0 0] 28)))
  have HA := Lib.hid hA
  clear h hb hA
  go_enter Try.func17, Try.ntmps17
  go_wp2_with fail
  refine K.out.mono ?_
  rintro e w1 ⟨rfl, hr1, hb1⟩
  have XR1 := Lib.hid (bx_below XR0 hb1)
  have L1 := Lib.hid (HA.out.trans (hb1.mono HA.out.size))
  have R1 := Lib.hid hr1
  clear hb1 hr1 XR0
  simp only [World.size_alloc] at R1 ⊢
  go_wp2_with fail
  refine (few_at w1 (w.heap.size + 1) 0 R1.out (by omega) (by omega)).mono ?_
  rintro e w2 ⟨x, c, zs, q, rfl, own, hl, q0, q1, rd2, hE⟩
  have XR2 := Lib.hid (XR1.out.kept hE (by simp))
  have l1 : w.heap.size + 1 < w1.heap.size := R1.out.lt
  have l12 : w1.heap.size ≤ w2.heap.size := hE.size
  have L2 := Lib.hid (L1.out.trans (else_below' hE (by omega) L1.out.size))
  have O2 := Lib.hid (own.alloc (.cells #[.slice x zs.length c] 28))
  have R2 := Lib.hid (rd2.alloc (.cells #[.slice x zs.length c] 28))
  have X2 := Lib.hid (Go.Boxed.new w2 28 (.slice x zs.length c))
  have HL := Lib.hid hl
  clear hE own hl rd2 XR1 L1
  obtain ⟨m, hm⟩ : ∃ m, m = zs.length := ⟨_, rfl⟩
  have HM := Lib.hid hm
  rw [← hm] at O2 R2 X2 ⊢
  clear hm
  go_wp2_with fail
  refine (pick_at _ (w.heap.size + 1) q 4 R2.out (by omega) (by omega) (by omega) (by omega)).mono ?_
  rintro e w4 ⟨k, rfl, k0, k1, rd4, hE4⟩
  have XR4 := Lib.hid ((XR2.out.alloc _).kept hE4 (by simp))
  have X4 := Lib.hid (X2.out.kept hE4 (by simp; omega))
  have O4 := Lib.hid (O2.out.kept hE4 (fun k e => by cases e; omega))
  have l4 : w2.heap.size < w4.heap.size := X4.out.lt
  have L4 := Lib.hid ((L2.out.alloc L2.out.size _).trans (else_below' hE4 (by omega) (by have := L2.out.size; simp; omega)))
  have R4 := Lib.hid rd4
  clear rd4 hE4 O2 R2 X2 XR2 L2
  have cb4 := X4.out.cell
  have fb4 := X4.out.frozen
  have cr4 := XR4.out.cell
  have fr4 := XR4.out.frozen
  rcases (by omega : k = 0 ∨ k = 1 ∨ 2 ≤ k) with rfl | rfl | hk
  · clear k0 k1
    have HO4 : Hid (w4.ownsRow w1.heap.size 3 1 (.slice x m c) m (ints zs)) := by have h := O4.out; unfold OwnI at h; rw [← HM.out] at h; exact Lib.hid h
    have hm7 : m ≤ 7 := by rw [HM.out]; exact HL.out
    have XA := Lib.hid (X4.out.alloc (.cells #[.int .i64 63] 3))
    have XRA := Lib.hid (XR4.out.alloc (.cells #[.int .i64 63] 3))
    have LA := Lib.hid (L4.out.alloc L4.out.size (.cells #[.int .i64 63] 3))
    have HA4 := Lib.hid (HO4.out.alloc (.cells #[.int .i64 63] 3))
    have nX : Hid (some w2.heap.size ≠ (Value.slice x m c).ownBlock) := Lib.hid (XA.out.not_row (by decide) HA4.out)
    have nR : Hid (some w.heap.size ≠ (Value.slice x m c).ownBlock) := Lib.hid (XRA.out.not_row (by decide) HA4.out)
    go_wp2_with (first | (at_builtin; refine wpList_append_own _ rfl _ _ 26 rfl w1.heap.size 3 i0 (.int .i64 0) 1 8 Try.underlying26 hi hz0 hz1 hz2 rfl (by decide) _ _ _ rfl HA4.out ⟨w4.heap.size, 0, none⟩ 1 1 [.int .i64 63] rfl rfl (cell_one_new _ _ _) (by simp [Value.oneCell']) (by unfold maxLen; omega) (by omega) (by simp; omega) ?_; intro v5 w5 ho5 hg5 _; obtain ⟨g5, c5, rfl, _, _⟩ := World.ownsRow.form ho5 (Nat.succ_pos _); have X5 := Lib.hid (XA.out.kept hg5 nX.out); have XR5 := Lib.hid (XRA.out.kept hg5 nR.out); have L5 := Lib.hid (LA.out.grown hg5 LA.out.size (fun k e => by have := (World.ownsRow.lt HA4.out k e).1; omega)); have HO5 := Lib.hid ho5; have cb5 := X5.out.cell; have fb5 := X5.out.frozen; have hx5 := World.cell?_setCell_same w5 ⟨w2.heap.size, 0, none⟩ (.slice (some ⟨g5, 0, none⟩) (m + 1) c5) cb5; have hy5 := (XR5.out.other (B' := w2.heap.size) (by omega) (.slice (some ⟨g5, 0, none⟩) (m + 1) c5)).cell; have hz5 := (XR5.out.other (B' := w2.heap.size) (by omega) (.slice (some ⟨g5, 0, none⟩) (m + 1) c5)).frozen))
    have hr := World.cell?_setCell_same _ ⟨w.heap.size, 0, none⟩ (.slice (some ⟨g5, 0, none⟩) (m + 1) c5) hy5
    have own5 := own_snoc HO5.out HM.out
    have FIN := ok_end L5.out own5 X5.out XR5.out (by omega)
    have hl : (zs ++ [(63 : Int)]).length = m + 1 := by rw [HM.out]; simp
    exact bodyPost_ret (v := .agg #[(.slice (some ⟨g5, 0, none⟩) (m + 1) c5)]) (by simp [results, Try.results17, go_sem, hr]) rfl ⟨some ⟨g5, 0, none⟩, c5, zs ++ [63], by rw [hl], by rw [hl]; exact FIN.1, by rw [hl]; omega, FIN.2⟩
  · clear k0 k1
    have RD : Hid (Rd w4.drew (w.heap.size + 1) (q + 1)) := Lib.hid (show Rd w4.drew _ _ from R4.out)
    have cb4d : w4.drew.cell? ⟨w2.heap.size, 0, none⟩ = some (.slice x m c) := cb4
    have lb4 : w2.heap.size < w4.drew.heap.size := l4
    have hm7 : m ≤ 7 := by rw [HM.out]; exact HL.out
    have PK := Lib.hid (pick_at w4.drew (w.heap.size + 1) (q + 1) 3 RD.out (by omega) (by omega) (by omega) (by omega))
    have O4d : Hid (OwnI w4.drew w1.heap.size (.slice x m c) zs) := Lib.hid (World.ownsRow.drew O4.out)
    have X4d : Hid (Go.Boxed w4.drew w2.heap.size 28 (.slice x m c)) := Lib.hid X4.out
    have XR4d : Hid (Go.Boxed w4.drew w.heap.size 28 (.slice none 0 0)) := Lib.hid XR4.out
    have L4d := Lib.hid (L4.out.trans (Below.drew (Below.refl w.heap.size w4)))
    have n0 : Hid (∀ k, (some (w.heap.size + 1) : Option Nat) = some k → k < w1.heap.size) := Lib.hid (fun k e => by cases e; omega)
    rcases Nat.eq_zero_or_pos m with rfl | hm0
    · have hz0' : zs = [] := List.eq_nil_of_length_eq_zero HM.out.symm
      have two : (x = none ∧ c = 0) ∨ ∃ b o, x = some ⟨b, o, none⟩ := by
        rcases O4.out.rd with ⟨hnil, _⟩ | ⟨b, o, cap, hs, _, _, _, _⟩
        · left; injection hnil with h1 h2 h3; exact ⟨h1, h3⟩
        · right; exact ⟨b, o, by injection hs⟩
      subst hz0'
      have lit := Lib.hid (fun (w5 : World) (z : Int) (hb : w1.heap.size ≤ w5.heap.size) => World.ownsRow_lit (base := w1.heap.size) (e := 3) (size := 1) w5 #[.int .i64 z] 1 hb (by simp [maxLen]) (by simp))
      rcases two with ⟨rfl, rfl⟩ | ⟨b, o, rfl⟩
      · skip
        go_wp2
        go_region_law ((first
          | (go_simp; go_at_call 39; refine PK.out.mono ?_; rintro e w5 ⟨k5, rfl, k50, k51, rd5, hE5⟩; have sb5 : IntKind.i64.wrap (k5 - 1) = k5 - 1 := IntWalk.i64_in _ (by omega); have X5 := Lib.hid (X4d.out.kept hE5 (by simp; omega)); have XR5 := Lib.hid (XR4d.out.kept hE5 (by simp)); have O5 := Lib.hid (O4d.out.kept hE5 n0.out); have L5 := Lib.hid (L4d.out.trans (else_below' hE5 (by omega) L4d.out.size)); have cb5 := X5.out.cell; have fb5 := X5.out.frozen; have cr5 := XR5.out.cell; have fr5 := XR5.out.frozen; have lb5 := X5.out.lt; have lr5 := XR5.out.lt; have X5a := Lib.hid (X5.out.alloc (.cells #[.int .i64 (k5 - 1)] 3)); have XR5a := Lib.hid (XR5.out.alloc (.cells #[.int .i64 (k5 - 1)] 3)); have O5a := Lib.hid (O5.out.alloc (.cells #[.int .i64 (k5 - 1)] 3)); have L5a := Lib.hid (L5.out.alloc L5.out.size (.cells #[.int .i64 (k5 - 1)] 3)); have cb5a := X5a.out.cell; clear rd5 hE5)))
        all_goals
          clear sb5
          have hx5 := World.cell?_setCell_same w5 ⟨w2.heap.size, 0, none⟩ (.slice (some ⟨w5.heap.size, 0, none⟩) 1 1) cb5
          have hy5 := (XR5.out.other (B' := w2.heap.size) (by omega) (.slice (some ⟨w5.heap.size, 0, none⟩) 1 1)).cell
          have hz5 := (XR5.out.other (B' := w2.heap.size) (by omega) (.slice (some ⟨w5.heap.size, 0, none⟩) 1 1)).frozen
          have own6 : OwnI (w5.alloc (.cells #[.int .i64 (k5 - 1)] 3)) w1.heap.size (.slice (some ⟨w5.heap.size, 0, none⟩) 1 1) [k5 - 1] := lit.out w5 (k5 - 1) (by omega)
          have FIN := ok_end L5a.out own6 X5a.out XR5a.out (by omega)
          rw [World.setCell_alloc_past _ _ _ _ lb5, World.setCell_alloc_past _ _ _ _ (by simpa using lr5)] at FIN
          have hr := World.cell?_setCell_same _ ⟨w.heap.size, 0, none⟩ (.slice (some ⟨w5.heap.size, 0, none⟩) 1 1) hy5
          go_wp2
          exact bodyPost_ret (v := .agg #[.slice (some ⟨w5.heap.size, 0, none⟩) 1 1]) (by simp [results, Try.results17, go_sem, hr, lr5]) rfl ⟨some ⟨w5.heap.size, 0, none⟩, 1, [k5 - 1], rfl, FIN.1, by simp, FIN.2⟩
      · go_wp2
        go_region_law ((first
          | (go_simp; go_at_call 39; refine PK.out.mono ?_; rintro e w5 ⟨k5, rfl, k50, k51, rd5, hE5⟩; have sb5 : IntKind.i64.wrap (k5 - 1) = k5 - 1 := IntWalk.i64_in _ (by omega); have X5 := Lib.hid (X4d.out.kept hE5 (by simp; omega)); have XR5 := Lib.hid (XR4d.out.kept hE5 (by simp)); have O5 := Lib.hid (O4d.out.kept hE5 n0.out); have L5 := Lib.hid (L4d.out.trans (else_below' hE5 (by omega) L4d.out.size)); have cb5 := X5.out.cell; have fb5 := X5.out.frozen; have cr5 := XR5.out.cell; have fr5 := XR5.out.frozen; have lb5 := X5.out.lt; have lr5 := XR5.out.lt; have X5a := Lib.hid (X5.out.alloc (.cells #[.int .i64 (k5 - 1)] 3)); have XR5a := Lib.hid (XR5.out.alloc (.cells #[.int .i64 (k5 - 1)] 3)); have O5a := Lib.hid (O5.out.alloc (.cells #[.int .i64 (k5 - 1)] 3)); have L5a := Lib.hid (L5.out.alloc L5.out.size (.cells #[.int .i64 (k5 - 1)] 3)); have cb5a := X5a.out.cell; clear rd5 hE5)
          | (refine step_append_room rfl (.tmp 23) (.tmp 25) 26 rfl 3 i0 1 Try.underlying26 hi hz1 w5.heap.size 0 1 1 (by rfl) ⟨b, o, none⟩ 0 c [] (by rfl) rfl (by simp) (by simp) (by omega) (by simp) ?_; rw [setCells_none])))
        all_goals
          clear sb5
          have hx5 := World.cell?_setCell_same w5 ⟨w2.heap.size, 0, none⟩ (.slice (some ⟨w5.heap.size, 0, none⟩) 1 1) cb5
          have hy5 := (XR5.out.other (B' := w2.heap.size) (by omega) (.slice (some ⟨w5.heap.size, 0, none⟩) 1 1)).cell
          have hz5 := (XR5.out.other (B' := w2.heap.size) (by omega) (.slice (some ⟨w5.heap.size, 0, none⟩) 1 1)).frozen
          have own6 : OwnI (w5.alloc (.cells #[.int .i64 (k5 - 1)] 3)) w1.heap.size (.slice (some ⟨w5.heap.size, 0, none⟩) 1 1) [k5 - 1] := lit.out w5 (k5 - 1) (by omega)
          have FIN := ok_end L5a.out own6 X5a.out XR5a.out (by omega)
          rw [World.setCell_alloc_past _ _ _ _ lb5, World.setCell_alloc_past _ _ _ _ (by simpa using lr5)] at FIN
          have hr := World.cell?_setCell_same _ ⟨w.heap.size, 0, none⟩ (.slice (some ⟨w5.heap.size, 0, none⟩) 1 1) hy5
          go_wp2
          exact bodyPost_ret (v := .agg #[.slice (some ⟨w5.heap.size, 0, none⟩) 1 1]) (by simp [results, Try.results17, go_sem, hr, lr5]) rfl ⟨some ⟨w5.heap.size, 0, none⟩, 1, [k5 - 1], rfl, FIN.1, by simp, FIN.2⟩
    · obtain ⟨b, o, rfl⟩ : ∃ b o, x = some ⟨b, o, none⟩ := by
        rcases O4.out.rd with ⟨hnil, hz⟩ | ⟨b, o, cap, hs, _, _, _, _⟩
        · cases hnil; omega
        · exact ⟨b, o, by injection hs⟩
      go_wp2
      go_region_law ((first
        | (go_simp; go_at_call 39; refine PK.out.mono ?_; rintro e w5 ⟨k5, rfl, k50, k51, rd5, hE5⟩; have sb5 : IntKind.i64.wrap (k5 - 1) = k5 - 1 := IntWalk.i64_in _ (by omega); have X5 := Lib.hid (X4d.out.kept hE5 (by simp; omega)); have XR5 := Lib.hid (XR4d.out.kept hE5 (by simp)); have O5 := Lib.hid (O4d.out.kept hE5 n0.out); have L5 := Lib.hid (L4d.out.trans (else_below' hE5 (by omega) L4d.out.size)); have cb5 := X5.out.cell; have fb5 := X5.out.frozen; have cr5 := XR5.out.cell; have fr5 := XR5.out.frozen; have lb5 := X5.out.lt; have lr5 := XR5.out.lt; have X5a := Lib.hid (X5.out.alloc (.cells #[.int .i64 (k5 - 1)] 3)); have XR5a := Lib.hid (XR5.out.alloc (.cells #[.int .i64 (k5 - 1)] 3)); have O5a := Lib.hid (O5.out.alloc (.cells #[.int .i64 (k5 - 1)] 3)); have L5a := Lib.hid (L5.out.alloc L5.out.size (.cells #[.int .i64 (k5 - 1)] 3)); have cb5a := X5a.out.cell; clear rd5 hE5)
        | (refine step_append_grows rfl (.tmp 23) (.tmp 25) 26 rfl 3 i0 (.int .i64 0) 1 8 Try.underlying26 hi hz0 hz1 hz2 rfl (by decide) (some ⟨w5.heap.size, 0, none⟩) 1 1 [.int .i64 (k5 - 1)] (by rfl) (by simp) (by simp) (fun b' hb' j u hu => by cases hb'; exact cell_one_new w5 _ _ j u hu) ⟨b, o, none⟩ m c (ints zs) (by rfl) (by rw [ints_len, HM.out]; simp) (ints_news O5a.out.rd) (ints_one' zs) (by omega) (by unfold maxLen; omega) (by omega) ?_; intro v6 w6 ho6 hg6; obtain ⟨g6, c6, rfl, _, _⟩ := World.ownsRow.form ho6 (by omega); have X6 := Lib.hid (X5a.out.kept hg6 (by simp)); have XR6 := Lib.hid (XR5a.out.kept hg6 (by simp)); have L6 := Lib.hid (L5a.out.grown hg6 L5a.out.size (fun k e => by cases e)); have HO6 := Lib.hid ho6; have cb6 := X6.out.cell; have fb6 := X6.out.frozen; have hx6 := World.cell?_setCell_same w6 ⟨w2.heap.size, 0, none⟩ (.slice (some ⟨g6, 0, none⟩) (1 + m) c6) cb6; have hy6 := (XR6.out.other (B' := w2.heap.size) (by omega) (.slice (some ⟨g6, 0, none⟩) (1 + m) c6)).cell; have hz6 := (XR6.out.other (B' := w2.heap.size) (by omega) (.slice (some ⟨g6, 0, none⟩) (1 + m) c6)).frozen; clear ho6 hg6)))
      all_goals
        clear sb5
        go_wp2
        have hr := World.cell?_setCell_same _ ⟨w.heap.size, 0, none⟩ (.slice (some ⟨g6, 0, none⟩) (1 + m) c6) hy6
        have hl : ((k5 - 1) :: zs).length = 1 + m := by rw [HM.out]; simp [Nat.add_comm]
        have own6 : OwnI w6 (w5.alloc (.cells #[.int .i64 (k5 - 1)] 3)).heap.size (.slice (some ⟨g6, 0, none⟩) (1 + m) c6) ((k5 - 1) :: zs) := by unfold OwnI; rw [hl]; exact HO6.out
        have FIN := ok_end L6.out own6 X6.out XR6.out (by omega)
        exact bodyPost_ret (v := .agg #[(.slice (some ⟨g6, 0, none⟩) (1 + m) c6)]) (by simp [results, Try.results17, go_sem, hr]) rfl ⟨some ⟨g6, 0, none⟩, c6, (k5 - 1) :: zs, by rw [hl], by rw [hl]; exact FIN.1, by rw [hl]; omega, FIN.2⟩
  · have e0 : (k == 0) = false := by simp; omega
    have e1 : (k == 1) = false := by simp; omega
    go_wp2
    have hr := World.cell?_setCell_same w4 ⟨w.heap.size, 0, none⟩ (.slice x m c) cr4
    have FIN := ok_end0 L4.out O4.out XR4.out
    exact bodyPost_ret (v := .agg #[.slice x m c]) (by simp [results, Try.results17, go_sem, hr]) rfl ⟨x, c, zs, by rw [HM.out], by rw [← HM.out]; exact FIN.1, by have := HL.out; omega, FIN.2⟩

end Go.Proofs.Yteopnbjiffncbac
