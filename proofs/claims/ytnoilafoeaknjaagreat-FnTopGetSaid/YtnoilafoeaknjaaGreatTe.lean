/-
  Several texts in one: TThings, TDraw, TDraw2.
-/
import Derived.Test.YtnoilafoeaknjaaGreatDr
import Derived.Test.YtnoilafoeaknjaaGreatTa
import Derived.Test.YtnoilafoeaknjaaGreatTb
import Derived.Deep.RegionWith
set_option linter.unusedVariables false
/-
  Things that are drawn: l71Things.
-/
namespace Go.Proofs.YtnoilafoeaknjaaGreat.T
open Go.RowKit Go.Sort

theorem int_info : (Tryz.prog.info? 3).map (fun i => (i.zero, i.size, i.bytes)) = some (some (.int .i64 0), 1, 8) := by kernel_rfl
theorem int_empty (w : World) (B : Nat) (hB : B ≤ w.heap.size) : (w.alloc (.cells #[] 3)).ownsRow B 3 1 (.slice (some ⟨w.heap.size, 0, none⟩) 0 0) 0 [] :=
  World.ownsRow_lit (base := B) (e := 3) (size := 1) w #[] 0 hB (by simp [maxLen]) (by simp)
/-- The value v is the numbers zs, in a block of the call's own. -/
def OwnL (w : World) (B : Nat) (v : Value) (zs : List Int) : Prop := w.ownsRow B 3 1 v zs.length (ints zs)
theorem OwnL.rd {w : World} {B : Nat} {v : Value} {zs : List Int} (h : OwnL w B v zs) : Ints w v zs := ownI_ints h
theorem OwnL.base {w : World} {B B' : Nat} {v : Value} {zs : List Int} (h : OwnL w B v zs) (hB : B' ≤ B) : OwnL w B' v zs := ownsRow_base h hB
theorem OwnL.kept {w w' : World} {B : Nat} {v : Value} {zs : List Int} {row : Option Nat} (h : OwnL w B v zs) (hg : w.grownBy w' row) (hr : ∀ k, row = some k → k < B) : OwnL w' B v zs := by
  refine World.ownsRow.kept h hg ?_
  cases hv : v.ownBlock with
  | none => exact .inl rfl
  | some k => exact .inr (fun e => by have := (World.ownsRow.lt h k hv).1; have := hr k e.symm; omega)
theorem OwnL.below {w w' : World} {B : Nat} {v : Value} {zs : List Int} (h : OwnL w B v zs) (hb : Below w.heap.size w w') : OwnL w' B v zs := h.kept (row := none) (grownBy_below hb) (fun _ e => by cases e)
theorem OwnL.form {w : World} {B : Nat} {v : Value} {zs : List Int} (h : OwnL w B v zs) : ∃ x c, v = .slice x zs.length c := by
  rcases h.2 with ⟨rfl, h0⟩ | ⟨g, cap, cur, rfl, _⟩
  · exact ⟨none, 0, by rw [h0]⟩
  · exact ⟨_, _, rfl⟩
theorem OwnL.at {w : World} {B n c : Nat} {x : Option Addr} {zs : List Int} (h : OwnL w B (.slice x n c) zs) : ∀ i, i < zs.length → ∃ g, x = some ⟨g, 0, none⟩ ∧ B ≤ g ∧ g < w.heap.size ∧ w.cell? ⟨g, i, none⟩ = some (.int .i64 (zs.getD i 0)) := fun i hi => by
  rcases h.2 with ⟨_, h0⟩ | ⟨g, cap, cur, e, hb, hg, hn, hc, hs, ht⟩
  · omega
  · obtain ⟨rfl, rfl, rfl⟩ := Value.slice.inj e
    exact ⟨g, rfl, hb, (Array.getElem?_eq_some_iff.1 hg).1, (World.ownsRow.cellAt h i (by omega)).trans (ints_get _ _ hi)⟩
theorem ints_snoc' (zs : List Int) (x : Int) : ints (zs ++ [x]) = ints zs ++ [.int .i64 x] := by simp [ints]
theorem own_snocL {w : World} {B no : Nat} {v : Value} {os : List Int} {m : Int} (h : w.ownsRow B 3 1 v (no + 1) (ints os ++ [.int .i64 m])) (hn : no = os.length) : OwnL w B v (os ++ [m]) := by
  unfold OwnL
  rw [ints_snoc', List.length_append, ← hn]
  exact h
theorem else_appT {w w2 w3 : World} {a N : Nat} {o : Obj} {v : Value} {n size : Nat} {e : TypeId} {xs : List Value} (h : Else a w w2) (ho : w2.ownsRow N e size v n xs) (hg : (w2.alloc o).grownBy w3 v.ownBlock) (hN : w.heap.size ≤ N) : Else a w w3 :=
  ⟨hg.os.trans h.os, hg.tape.trans h.tape, hg.output.trans h.output, Nat.le_trans h.size (Nat.le_trans (by simp) hg.size), fun k hk hne =>
    ((hg.block k (by have := h.size; simp; omega) (fun e => by have := (ho.lt k e.symm).1; omega)).trans (heap_alloc_old w2 o (Nat.lt_of_lt_of_le hk h.size))).trans (h.block k hk hne)⟩
theorem Rd.app {w w' : World} {a : Nat} {p : Int} {B : Nat} {o : Obj} {v : Value} {n size : Nat} {e : TypeId} {xs : List Value} (h : Rd w a p) (ho : w.ownsRow B e size v n xs) (hg : (w.alloc o).grownBy w' v.ownBlock) (ha : a < B) : Rd w' a p :=
  (h.alloc o).grown hg (fun k e => by have := (ho.lt k e).1; omega)

/-- What the drawing of things leaves. -/
def Things (w : World) (a : Nat) (p most : Int) (w' : World) (v : Value) : Prop := ∃ zs q, OwnL w' w.heap.size v zs ∧ (zs.length : Int) ≤ most ∧ p ≤ q ∧ q ≤ p + 1 + 2 * most ∧ Rd w' a q ∧ Else a w w'

set_option maxHeartbeats 4000000 in
theorem things_at (w : World) (a : Nat) (p most : Int) (h : Rd w a p) (hp : 0 ≤ p) (hp' : p ≤ 60000) (m0 : 0 ≤ most) (m1 : most ≤ 100) :
    Calls Tryz.prog 77 #[.pointer (some ⟨a, 0, none⟩), .int .i64 most] w fun e w' => ∃ v, e = .returned v ∧ Things w a p most w' v := by
  obtain ⟨i0, hi, hz0, hz1, hz2⟩ := info_parts int_info
  have hlt := h.lt
  have HO := Lib.hid (show OwnL (w.alloc (.cells #[] 3)) w.heap.size (.slice (some ⟨w.heap.size, 0, none⟩) 0 0) [] from int_empty w w.heap.size (Nat.le_refl _))
  have HR := Lib.hid (h.alloc (.cells #[] 3))
  have HE := Lib.hid (show Else a w (w.alloc (.cells #[] 3)) from World.grownBy_alloc w _ _)
  clear h
  go_enter Tryz.func77, Tryz.ntmps77
  go_wp2_with fail
  refine (pick_at _ a p (most + 1) HR.out hp (by omega) (by omega) (by omega)).mono ?_
  rintro e w2 ⟨k, rfl, k0, k1, hr2, hg2⟩
  have O2 := Lib.hid (HO.out.kept hg2 (fun k e => by cases e; omega))
  have E2 := Lib.hid (HE.out.trans hg2)
  have R2 := Lib.hid hr2
  clear hr2 hg2 HO HR HE
  go_wp2
  go_loopw [5, 6] (fun u i wr => ∃ (j pos : Int) (zs : List Int), i = .int .i64 j ∧ 0 ≤ j ∧ j ≤ most ∧ (zs.length : Int) ≤ most - j ∧ p + 1 ≤ pos ∧ pos ≤ p + 1 + 2 * (most - j) ∧ OwnL wr w.heap.size u zs ∧ Rd wr a pos ∧ Else a w wr) (fun _ i _ => (intOf i).toNat)
  case atStart => exact ⟨k, p + 1, [], rfl, k0, by omega, by simp; omega, by omega, by omega, O2.out, R2.out, E2.out⟩
  case round =>
    clear O2 E2 R2 k0 k1
    obtain ⟨j, pos, zs, rfl, j0, j1, hzl, p0, p1, ho, hr, he⟩ := hrel
    obtain ⟨y, cp, hu⟩ := ho.form
    obtain ⟨no, hno⟩ : ∃ no, no = zs.length := ⟨_, rfl⟩
    rw [← hno] at hu hzl
    subst hu
    have HN := Lib.hid hno
    have HR := Lib.hid hr
    have HE := Lib.hid he
    have HO := Lib.hid ho
    have hsz := he.size
    clear ho hr he hno
    by_cases hj : 0 < j
    · go_wp2_with fail
      refine (thing_at wr a pos HR.out (by omega) (by omega)).mono ?_
      rintro e w3 ⟨t, q, rfl, t0, t1, q0, q1, hr3, hg3⟩
      have HO3 := HO.out.kept hg3 (fun k e => by cases e; omega)
      have ho3 : w3.ownsRow w.heap.size 3 1 (.slice y no cp) no (ints zs) := by have h := HO3; unfold OwnL at h; rw [← HN.out] at h; exact h
      have O3 := Lib.hid ho3
      have R3 := Lib.hid hr3
      have E3 := Lib.hid (HE.out.trans hg3)
      have hs3 := hg3.size
      clear HO3 ho3 hr3 hg3 HR HE
      by_cases ht : t < 0 ∨ 63 < t
      · have KT : Hid (∀ W, Calls Tryz.prog 102 #[.int .i64 t, .int .i64 0, .int .i64 63] W fun e w' => e = .returned (.bool false) ∧ W = w') := fun W => l6In_no t 0 63 W ht
        go_wp2_with fail
        refine (KT.out _).mono ?_
        rintro e w' ⟨rfl, rfl⟩
        go_wp2
        go_roundw
        case rel => exact ⟨j - 1, q, zs, rfl, by omega, by omega, by rw [← HN.out]; omega, by omega, by omega, by have h := O3.out; rw [HN.out] at h ⊢; exact h, R3.out, E3.out⟩
        case measure => simp [intOf]; omega
      · have KT : Hid (∀ W, Calls Tryz.prog 102 #[.int .i64 t, .int .i64 0, .int .i64 63] W fun e w' => e = .returned (.bool true) ∧ W = w') := fun W => l6In_yes t 0 63 W (by omega) (by omega)
        go_wp2_with fail
        refine (KT.out _).mono ?_
        rintro e w' ⟨rfl, rfl⟩
        go_wp2_with (first | (at_builtin; refine wpList_append_own _ rfl _ _ 23 rfl w.heap.size 3 i0 (.int .i64 0) 1 8 Tryz.underlying23 hi hz0 hz1 hz2 rfl (by decide) _ _ _ rfl (O3.out.alloc _) ⟨w3.heap.size, 0, none⟩ 1 1 [.int .i64 t] rfl rfl (cell_one_new _ _ _) (by simp [Value.oneCell']) (by unfold maxLen; omega) (by omega) (by simp; omega) ?_; intro v1 w1 ho1 hg1 _; obtain ⟨g_v1, c_v1, rfl, _, _⟩ := World.ownsRow.form ho1 (Nat.succ_pos _)))
        go_roundw
        case rel => exact ⟨j - 1, q, zs ++ [t], rfl, by omega, by omega, by simp; rw [← HN.out]; omega, by omega, by omega, own_snocL ho1 HN.out, Rd.app R3.out O3.out hg1 hlt, else_appT E3.out O3.out hg1 (Nat.le_refl _)⟩
        case measure => simp [intOf]; omega
    · obtain rfl : j = 0 := by omega
      go_wp2
      go_ret
      exact ⟨_, rfl, zs, pos, HO.out, by rw [← HN.out]; omega, by omega, by omega, HR.out, HE.out⟩

end Go.Proofs.YtnoilafoeaknjaaGreat.T

/-
  What was counted most, drawn: l71Top.
-/
namespace Go.Proofs.YtnoilafoeaknjaaGreat.T
open Go.RowKit Go.Sort

structure DrawnT (w : World) (N a : Nat) (pos : Int) (v : Value) (lost all : Int) (ps : List Pr) : Prop where
  own : OwnP w (N + 2) v ps
  len : ps.length ≤ 5
  lo : 0 ≤ lost ∧ lost ≤ 200000
  al : 0 ≤ all ∧ all ≤ 2000
  rd : Rd w a pos
  box : Box3 w (N + 1) 34 v (.int .i64 lost) (.int .i64 all)
  res : Box3 w N 34 (.slice none 0 0) (.int .i64 0) (.int .i64 0)
section
variable {w w' : World} {N a : Nat} {pos pos' lost all lost' all' : Int} {v v' : Value} {ps ps' : List Pr}
theorem DrawnT.drew (h : DrawnT w N a pos v lost all ps) : DrawnT w.drew N a pos v lost all ps := ⟨World.ownsRow.drew h.own, h.len, h.lo, h.al, h.rd, h.box, h.res⟩
theorem DrawnT.else_ (h : DrawnT w N a pos v lost all ps) (hg : Else a w w') (hr : Rd w' a pos') (ha : a < N) : DrawnT w' N a pos' v lost all ps :=
  ⟨h.own.kept hg (fun k e => by cases e; omega), h.len, h.lo, h.al, hr, h.box.kept hg (by simp; omega), h.res.kept hg (by simp; omega)⟩
theorem DrawnT.put (h : DrawnT w N a pos v lost all ps) (hb : Below w.heap.size w w') (ho : OwnP w' w.heap.size v' ps') (hl : ps'.length ≤ 5) (hlo : 0 ≤ lost' ∧ lost' ≤ 200000) (hal : 0 ≤ all' ∧ all' ≤ 2000) (ha : a < N) :
    DrawnT (((w'.setCell ⟨N + 1, 0, none⟩ v').setCell ⟨N + 1, 1, none⟩ (.int .i64 lost')).setCell ⟨N + 1, 2, none⟩ (.int .i64 all')) N a pos v' lost' all' ps' := by
  have l1 := h.box.lt
  have g0 := grownBy_setCell w' ⟨N + 1, 0, none⟩ v'
  have g1 := grownBy_setCell (w'.setCell ⟨N + 1, 0, none⟩ v') ⟨N + 1, 1, none⟩ (.int .i64 lost')
  have g2 := grownBy_setCell ((w'.setCell ⟨N + 1, 0, none⟩ v').setCell ⟨N + 1, 1, none⟩ (.int .i64 lost')) ⟨N + 1, 2, none⟩ (.int .i64 all')
  have gg := grownBy_trans (grownBy_trans g0 g1) g2
  exact ⟨(ho.kept gg (fun k e => by simp at e; omega)).base (by omega), hl, hlo, hal, ((h.rd.below hb (Nat.le_refl _)).grown gg (fun k e => by simp at e; omega)), (h.box.later hb).set _ _ _,
    (h.res.later hb).kept gg (by simp)⟩
end
theorem addT_bd (ps : List Pr) (lost all t : Int) : (addT ps lost all t).1.length ≤ 5 ∧ (0 ≤ (addT ps lost all t).2.1 ∧ (addT ps lost all t).2.1 ≤ 200000) ∧ 0 ≤ (addT ps lost all t).2.2 ∧ (addT ps lost all t).2.2 ≤ 2000 := by
  cases h : addOk ps lost all t with
  | false => rw [addT_no h]; simp [noneT]
  | true =>
    rw [addT_yes h]
    rcases addOk_cases ps lost all t with ⟨_, h'⟩ | ⟨_, _, h'⟩ | ⟨_, _, _, h'⟩ | ⟨hk, ht, ha, _⟩
    · rw [h] at h'; cases h'
    · rw [h] at h'; cases h'
    · rw [h] at h'; cases h'
    · have hP := (topB_iff _ _ _).1 hk
      have h1 := cutP_len (putP ps (t, 1))
      have h2 := putP_len ps (t, 1)
      have h3 := hP.1
      have h4 := overV_bd (M := 2001) (by omega) ((hP.bd.put (x := (t, 1)) (by omega) (by simp)).mono (N := 2001) (by simp)).at
      simp only
      omega

/-- What the drawing leaves. -/
def DrawnTop (w : World) (a : Nat) (p : Int) (w' : World) (v : Value) (lost all : Int) : Prop :=
  ∃ ps q, OwnP w' w.heap.size v ps ∧ ps.length ≤ 6 ∧ (0 ≤ lost ∧ lost ≤ 300000) ∧ (-1 ≤ all ∧ all ≤ 2001) ∧ p ≤ q ∧ q ≤ p + 60 ∧ Rd w' a q ∧ Else a w w'

theorem top_end {w w3 : World} {a : Nat} {p q lost all : Int} {v : Value} {ps : List Pr} (own : OwnP w3 (w.heap.size + 2) v ps) (len : ps.length ≤ 6) (lo : 0 ≤ lost ∧ lost ≤ 300000) (al : -1 ≤ all ∧ all ≤ 2001) (q0 : p ≤ q) (q1 : q ≤ p + 60) (rd : Rd w3 a q) (E : Else a w w3) (ha : a < w.heap.size) :
    DrawnTop w a p (((w3.setCell ⟨w.heap.size, 0, none⟩ v).setCell ⟨w.heap.size, 1, none⟩ (.int .i64 lost)).setCell ⟨w.heap.size, 2, none⟩ (.int .i64 all)) v lost all := by
  have g0 := grownBy_setCell w3 ⟨w.heap.size, 0, none⟩ v
  have g1 := grownBy_setCell (w3.setCell ⟨w.heap.size, 0, none⟩ v) ⟨w.heap.size, 1, none⟩ (.int .i64 lost)
  have g2 := grownBy_setCell ((w3.setCell ⟨w.heap.size, 0, none⟩ v).setCell ⟨w.heap.size, 1, none⟩ (.int .i64 lost)) ⟨w.heap.size, 2, none⟩ (.int .i64 all)
  have gg := grownBy_trans (grownBy_trans g0 g1) g2
  exact ⟨ps, q, (own.kept gg (fun k e => by simp at e; omega)).base (by omega), len, lo, al, q0, q1, rd.grown gg (fun k e => by simp at e; omega), ((E.set (i := 0) (Nat.le_refl _) _).set (i := 1) (Nat.le_refl _) _).set (i := 2) (Nat.le_refl _) _⟩

set_option maxRecDepth 100000 in
set_option maxHeartbeats 8000000 in
theorem top_at (w : World) (a : Nat) (p : Int) (h : Rd w a p) (hp : 0 ≤ p) (hp' : p ≤ 50000) :
    Calls Tryz.prog 141 #[.pointer (some ⟨a, 0, none⟩)] w fun e w' => ∃ v lost all, e = .returned (.agg #[v, .int .i64 lost, .int .i64 all]) ∧ DrawnTop w a p w' v lost all := by
  have HR := Lib.hid h
  have hlt := h.lt
  obtain ⟨i0, hi, hz0, hz1, hz2⟩ := info_parts pair_info
  obtain ⟨W0, hW0⟩ : ∃ W0, W0 = (w.alloc (.cells #[.slice none 0 0, .int .i64 0, .int .i64 0] 34)).alloc (.cells #[.slice none 0 0, .int .i64 0, .int .i64 0] 34) := ⟨_, rfl⟩
  have D0 : Hid (DrawnT W0 w.heap.size a p (.slice none 0 0) 0 0 []) := by
    rw [hW0]
    refine ⟨OwnP.nil _ _, by simp, by omega, by omega, (HR.out.alloc _).alloc _, ?_, (Box3.new _ _ _ _ _).alloc _⟩
    have h := Box3.new (w.alloc (.cells #[.slice none 0 0, .int .i64 0, .int .i64 0] 34)) 34 (.slice none 0 0) (.int .i64 0) (.int .i64 0)
    simpa using h
  have E0 : Hid (Else a w W0) := by rw [hW0]; exact grownBy_alloc' (World.grownBy_alloc w _ _) _
  have S0 : Hid (W0.heap.size = w.heap.size + 2) := by show _ = _; rw [hW0]; simp
  have HW0 := Lib.hid hW0
  clear h hW0
  go_enter Tryz.func141, Tryz.ntmps141
  go_wp2_with fail
  rw [← HW0.out]
  go_wp2_with fail
  refine (things_at W0 a p 24 D0.out.rd hp (by omega) (by omega) (by omega)).mono ?_
  rintro e w2 ⟨u, rfl, zs, q, ho, hzl, q0, q1, hr2, he2⟩
  have D2 := Lib.hid (D0.out.else_ he2 hr2 hlt)
  have E2 := Lib.hid (E0.out.trans he2)
  rw [S0.out] at ho
  obtain ⟨y, cy, rfl⟩ := ho.form
  obtain ⟨nz, hnz⟩ : ∃ nz, nz = zs.length := ⟨_, rfl⟩
  rw [← hnz] at ho hzl ⊢
  have NZ := Lib.hid hnz
  have OL := Lib.hid ho
  clear ho hr2 he2 D0 E0 HW0 hnz
  go_wp2
  go_loopw [5] (fun i wr => ∃ (j : Nat) (v : Value) (lost all : Int) (ps : List Pr), i = .int .i64 j ∧ j ≤ nz ∧ DrawnT wr w.heap.size a q v lost all ps ∧ OwnL wr (w.heap.size + 2) (.slice y nz cy) zs ∧ Else a w wr) (fun i _ => nz - (intOf i).toNat)
  case atStart => exact ⟨0, .slice none 0 0, 0, 0, [], rfl, Nat.zero_le _, D2.out, OL.out, E2.out⟩
  case round =>
    clear D2 E2 OL
    obtain ⟨j, v, lost, all, ps, rfl, hj, hd, hol, he⟩ := hrel
    obtain ⟨x, c, rfl, _, _⟩ := hd.own.form
    have HD := Lib.hid hd
    have HE := Lib.hid he
    have HL := Lib.hid hol
    have b0 := hd.box.cell0
    have b1 := hd.box.cell1
    have b2 := hd.box.cell2
    clear hd he hol
    by_cases hlt2 : j < nz
    · obtain ⟨g, rfl, _, hg, hz⟩ := HL.out.at j (by rw [← NZ.out]; exact hlt2)
      generalize zs.getD j 0 = t at hz
      have KA := Lib.hid (spTopAdd_at wr.drew _ ps lost all t (show Prs wr.drew _ ps from HD.out.own.rd))
      have hbd := addT_bd ps lost all t
      have BD := Lib.hid hbd
      obtain ⟨T, hT⟩ : ∃ T, T = addT ps lost all t := ⟨_, rfl⟩
      rw [← hT] at KA BD
      have j0 : (0 : Int) ≤ (j : Int) := by omega
      have jn : (j : Int) < (nz : Int) := by omega
      obtain ⟨qs, lo2, al2⟩ := T
      simp only at KA BD
      clear hbd hT
      obtain ⟨n, hn⟩ : ∃ n, n = ps.length := ⟨_, rfl⟩
      rw [← hn] at b0 KA
      have HN := Lib.hid hn
      clear hn
      go_wp2_with fail
      go_region_with (first
        | (go_at_call 105; refine KA.out.mono ?_; rintro e w5 ⟨v5, rfl, ho5, hb5⟩; obtain ⟨x5, c5, rfl, _, _⟩ := ho5.form; have D5 := Lib.hid (HD.out.drew.put hb5 ho5 BD.out.1 BD.out.2.1 BD.out.2.2 hlt); have E5 := Lib.hid (Else.below (a := a) (w1 := wr) HE.out ((Below.drew (Below.refl _ _)).trans hb5)); have L5 := Lib.hid (OwnL.below (show OwnL wr.drew _ _ zs from HL.out) hb5); have X5 := HD.out.drew.box.later hb5; have y0 := X5.cell0; have y1 := X5.cell1; have y2 := X5.cell2; have f5 := X5.free))
      all_goals
        clear X5 y0 y1 y2 f5 ho5 hb5
        have L6 := Lib.hid (((L5.out.kept (grownBy_setCell w5 ⟨w.heap.size + 1, 0, none⟩ (.slice x5 qs.length c5)) (fun k e => by simp at e; omega)).kept (grownBy_setCell _ ⟨w.heap.size + 1, 1, none⟩ (.int .i64 lo2)) (fun k e => by simp at e; omega)).kept (grownBy_setCell _ ⟨w.heap.size + 1, 2, none⟩ (.int .i64 al2)) (fun k e => by simp at e; omega))
        have E6 := Lib.hid (((E5.out.set (R := w.heap.size + 1) (i := 0) (Nat.le_succ _) (.slice x5 qs.length c5)).set (R := w.heap.size + 1) (i := 1) (Nat.le_succ _) (.int .i64 lo2)).set (R := w.heap.size + 1) (i := 2) (Nat.le_succ _) (.int .i64 al2))
        clear L5 E5
        go_wp2
        go_roundw
        case rel => exact ⟨j + 1, .slice x5 qs.length c5, lo2, al2, qs, by go_num, by omega, D5.out, L6.out, E6.out⟩
        case measure => simp [intOf]; omega
    · obtain rfl : j = nz := by omega
      go_wp2_with fail
      refine (pick_at _ a q 24 HD.out.rd (by omega) (by omega) (by omega) (by omega)).mono ?_
      rintro e w2 ⟨k, rfl, k0, k1, hr2, hg2⟩
      have D2 := Lib.hid (HD.out.else_ hg2 hr2 hlt)
      have E2 := Lib.hid (HE.out.trans hg2)
      obtain ⟨n, hn⟩ : ∃ n, n = ps.length := ⟨_, rfl⟩
      rw [← hn] at D2 b0
      have hn5 : n ≤ 5 := by have := D2.out.len; omega
      have HN := Lib.hid hn
      have lo := D2.out.lo
      have al := D2.out.al
      have x0 := D2.out.box.cell0
      have x1 := D2.out.box.cell1
      have x2 := D2.out.box.cell2
      have fx := D2.out.box.free
      have r0 := D2.out.res.cell0
      have r1 := D2.out.res.cell1
      have r2 := D2.out.res.cell2
      have fr := D2.out.res.free
      clear hr2 hg2 HD HE b0 b1 b2 hn HL
      rcases (by omega : k = 0 ∨ k = 1 ∨ k = 2 ∨ 3 ≤ k) with rfl | rfl | rfl | hk
      · clear k0 k1
        have XA := D2.out.box.set1 (.int .i64 (lost + 1))
        have gA := grownBy_setCell w2 ⟨w.heap.size + 1, 1, none⟩ (.int .i64 (lost + 1))
        have RA := D2.out.res.kept gA (by simp)
        have OA := D2.out.own.kept gA (fun k e => by simp at e; omega)
        have RDA := D2.out.rd.grown gA (fun k e => by simp at e; omega)
        have EA := E2.out.set (R := w.heap.size + 1) (i := 1) (Nat.le_succ _) (.int .i64 (lost + 1))
        have FIN := Lib.hid (top_end (p := p) OA (by have := D2.out.len; omega) (lost := lost + 1) (by omega) (all := all) (by omega) (by omega) (by omega) RDA EA hlt)
        have RZ := RA.set (.slice x n c) (.int .i64 (lost + 1)) (.int .i64 all)
        have hr0 := RZ.cell0
        have hr1 := RZ.cell1
        have hr2 := RZ.cell2
        have y0 := XA.cell0
        have y1 := XA.cell1
        have y2 := XA.cell2
        have s0 := RA.cell0
        have s1 := RA.cell1
        have s2 := RA.cell2
        have fs := RA.free
        clear XA gA RA OA RDA EA RZ
        go_wp2
        exact bodyPost_ret (v := .agg #[.slice x n c, .int .i64 (lost + 1), .int .i64 all]) (by simp [results, Tryz.results141, go_sem, hr0, hr1, hr2]) rfl ⟨_, _, _, rfl, FIN.out⟩
      · clear k0 k1
        go_wp2_with fail
        refine (pick_at _ a (q + 1) 3 (D2.out.rd.alloc _) (by omega) (by omega) (by omega) (by omega)).mono ?_
        rintro e w3 ⟨k, rfl, k0, k1, hr3, hg3⟩
        have lw : a < w2.heap.size := D2.out.rd.lt
        have lx : w.heap.size + 1 < w2.heap.size := D2.out.box.lt
        have hne : some w2.heap.size ≠ some a := by simp; omega
        have hc := fun (i : Nat) (u : Value) (h : (#[.int .i64 (-1), .int .i64 2001, .int .i64 2000] : Array Value)[i]? = some u) => hg3.cell (a := ⟨w2.heap.size, i, none⟩) (by rw [World.cell?_alloc_at _ _ _ _ rfl]; exact h) hne
        have Hc := Lib.hid hc
        have X3 := (D2.out.box.alloc (.cells #[.int .i64 (-1), .int .i64 2001, .int .i64 2000] 3)).kept hg3 (by simp; omega)
        have Y3 := (D2.out.res.alloc (.cells #[.int .i64 (-1), .int .i64 2001, .int .i64 2000] 3)).kept hg3 (by simp; omega)
        have O3 := (D2.out.own.alloc (.cells #[.int .i64 (-1), .int .i64 2001, .int .i64 2000] 3)).kept hg3 (fun k e => by cases e; omega)
        have E3 : Else a w w3 := grownBy_trans (grownBy_alloc' E2.out (.cells #[.int .i64 (-1), .int .i64 2001, .int .i64 2000] 3)) hg3
        have HX3 := Lib.hid X3
        have HY3 := Lib.hid Y3
        have HO3 := Lib.hid O3
        have HE3 := Lib.hid E3
        have HR3 := Lib.hid hr3
        have fx3 := X3.free
        have lenq := D2.out.len
        clear hc hne X3 Y3 O3 E3 hr3 hg3 x0 x1 x2 fx r0 r1 r2 fr D2 E2
        have main : ∀ (A : Int), -1 ≤ A → A ≤ 2001 → Hid (DrawnTop w a p ((((w3.setCell ⟨w.heap.size + 1, 2, none⟩ (.int .i64 A)).setCell ⟨w.heap.size, 0, none⟩ (.slice x n c)).setCell ⟨w.heap.size, 1, none⟩ (.int .i64 lost)).setCell ⟨w.heap.size, 2, none⟩ (.int .i64 A)) (.slice x n c) lost A) ∧ Hid (Box3 (w3.setCell ⟨w.heap.size + 1, 2, none⟩ (.int .i64 A)) (w.heap.size + 1) 34 (.slice x n c) (.int .i64 lost) (.int .i64 A)) ∧ Hid (Box3 (w3.setCell ⟨w.heap.size + 1, 2, none⟩ (.int .i64 A)) w.heap.size 34 (.slice none 0 0) (.int .i64 0) (.int .i64 0)) := fun A a0 a1 => by
          have gA := grownBy_setCell w3 ⟨w.heap.size + 1, 2, none⟩ (.int .i64 A)
          have E3 : Else a w w3 := HE3.out
          exact ⟨top_end (p := p) (q := q + 1 + 1) (HO3.out.kept gA (fun k e => by simp at e; omega)) (by omega) (lost := lost) (by omega) (all := A) (by omega) (by omega) (by omega) (HR3.out.grown gA (fun k e => by simp at e; omega)) (E3.set (R := w.heap.size + 1) (i := 2) (Nat.le_succ _) (.int .i64 A)) hlt, HX3.out.set2 _, HY3.out.kept gA (by simp)⟩
        have z2 := HX3.out.cell2
        have MAIN := Lib.hid main
        clear main HX3 HY3 HO3 HE3 HR3
        rcases (by omega : k = 0 ∨ k = 1 ∨ k = 2) with rfl | rfl | rfl
        · have e0 := Hc.out 0 _ rfl
          obtain ⟨FIN, HX, HY⟩ := MAIN.out (-1) (by omega) (by omega)
          have y0 := HX.out.cell0
          have y1 := HX.out.cell1
          have y2 := HX.out.cell2
          have s0 := HY.out.cell0
          have s1 := HY.out.cell1
          have s2 := HY.out.cell2
          have fs := HY.out.free
          have RZ := HY.out.set (.slice x n c) (.int .i64 lost) (.int .i64 (-1))
          have hr0 := RZ.cell0
          have hr1 := RZ.cell1
          have hr2 := RZ.cell2
          clear RZ
          go_wp2
          exact bodyPost_ret (v := .agg #[.slice x n c, .int .i64 lost, .int .i64 (-1)]) (by simp [results, Tryz.results141, go_sem, hr0, hr1, hr2]) rfl ⟨_, _, _, rfl, FIN.out⟩
        · have e0 := Hc.out 1 _ rfl
          obtain ⟨FIN, HX, HY⟩ := MAIN.out 2001 (by omega) (by omega)
          have y0 := HX.out.cell0
          have y1 := HX.out.cell1
          have y2 := HX.out.cell2
          have s0 := HY.out.cell0
          have s1 := HY.out.cell1
          have s2 := HY.out.cell2
          have fs := HY.out.free
          have RZ := HY.out.set (.slice x n c) (.int .i64 lost) (.int .i64 2001)
          have hr0 := RZ.cell0
          have hr1 := RZ.cell1
          have hr2 := RZ.cell2
          clear RZ
          go_wp2
          exact bodyPost_ret (v := .agg #[.slice x n c, .int .i64 lost, .int .i64 2001]) (by simp [results, Tryz.results141, go_sem, hr0, hr1, hr2]) rfl ⟨_, _, _, rfl, FIN.out⟩
        · have e0 := Hc.out 2 _ rfl
          obtain ⟨FIN, HX, HY⟩ := MAIN.out 2000 (by omega) (by omega)
          have y0 := HX.out.cell0
          have y1 := HX.out.cell1
          have y2 := HX.out.cell2
          have s0 := HY.out.cell0
          have s1 := HY.out.cell1
          have s2 := HY.out.cell2
          have fs := HY.out.free
          have RZ := HY.out.set (.slice x n c) (.int .i64 lost) (.int .i64 2000)
          have hr0 := RZ.cell0
          have hr1 := RZ.cell1
          have hr2 := RZ.cell2
          clear RZ
          go_wp2
          exact bodyPost_ret (v := .agg #[.slice x n c, .int .i64 lost, .int .i64 2000]) (by simp [results, Tryz.results141, go_sem, hr0, hr1, hr2]) rfl ⟨_, _, _, rfl, FIN.out⟩
      · clear k0 k1 r0 r1 r2 fr
        have HDD := Lib.hid D2.out.drew
        have EDD : Hid (∀ w3, Else a w2.drew w3 → Else a w w3) := fun w3 h => E2.out.trans (grownBy_of_drew h)
        go_wp2_with fail
        go_region_law ((first
          | (refine step_append_lies _ (by rfl) _ _ _ (by rfl) (w.heap.size + 2) 117 i0 _ 2 16 Tryz.underlying32 hi hz0 hz1 hz2 rfl (by decide) (.slice x n c) n (prs ps) (by rfl) (HO3.out.alloc _) ⟨w3.heap.size, 0, none⟩ 1 1 [.int .i64 63, .int .i64 k3] (by rfl) (by rfl) (World.news_of_block (cs := #[.int .i64 63, .int .i64 k3]) (t := 117) (fr := (0, 0)) (heap_alloc_new w3 _)) (by simp [Value.oneCell']) (by omega) (by unfold maxLen; omega) (by omega) (by have := HS3.out; simp; omega) (w3.heap.size + 1) (by simp) ?_; intro g1 cap1 w4 hown4 hgrow4 hat4 hlt4; have X4 := ((D3.out.box.alloc (.cells #[.int .i64 63, .int .i64 k3] 117)).kept hgrow4 (D3.out.box.not_row (by decide) HO3.out)); have v0 := X4.cell0; have v1 := X4.cell1; have v2 := X4.cell2; have fv := X4.free)
          | (go_simp; go_at_call 78; (with_reducible refine (pick_at _ a (q + 1) 2 HDD.out.rd (by omega) (by omega) (by omega) (by omega)).mono ?_); rintro e w3 ⟨k3, rfl, k30, k31, hr3, hg3⟩; have D3 := Lib.hid (HDD.out.else_ hg3 hr3 hlt); have E3 := Lib.hid (EDD.out w3 hg3); have HO3 : Hid (w3.ownsRow (w.heap.size + 2) 117 2 (.slice x n c) n (prs ps)) := (by have h := D3.out.own; unfold OwnP at h; rw [← HN.out] at h; exact h); have HS3 : Hid (w.heap.size + 2 ≤ w3.heap.size) := (by have := D3.out.box.lt; show _ ≤ _; omega); have ua := (D3.out.box.alloc (.cells #[.int .i64 63, .int .i64 k3] 117)).cell0; have u0 := D3.out.box.cell0; have u1 := D3.out.box.cell1; have u2 := D3.out.box.cell2)))
        all_goals
          have hV : Else a w w4 := else_appT E3.out HO3.out hgrow4 (Nat.le_add_right _ _)
          have hR : Rd w4 a (q + 1 + 1) := Rd.app D3.out.rd HO3.out hgrow4 (by omega)
          have hO := own_snocP hown4 HN.out
          have hY := (D3.out.res.alloc (.cells #[.int .i64 63, .int .i64 k3] 117)).kept hgrow4 (D3.out.res.alloc (.cells #[.int .i64 63, .int .i64 k3] 117) |>.not_row (by decide) (HO3.out.alloc _))
          have gA := grownBy_setCell w4 ⟨w.heap.size + 1, 0, none⟩ (.slice (some ⟨g1, 0, none⟩) (n + 1) cap1)
          have XA := X4.set0 (.slice (some ⟨g1, 0, none⟩) (n + 1) cap1)
          have YA := hY.kept gA (by simp)
          have FIN := Lib.hid (top_end (p := p) (q := q + 1 + 1) (hO.kept gA (fun k e => by simp at e; omega)) (by have := HN.out; simp; omega) (lost := lost) (by omega) (all := all) (by omega) (by omega) (by omega) (hR.grown gA (fun k e => by simp at e; omega)) (hV.set (R := w.heap.size + 1) (i := 0) (Nat.le_succ _) (.slice (some ⟨g1, 0, none⟩) (n + 1) cap1)) hlt)
          have y0 := XA.cell0
          have y1 := XA.cell1
          have y2 := XA.cell2
          have s0 := YA.cell0
          have s1 := YA.cell1
          have s2 := YA.cell2
          have fs := YA.free
          have RZ := YA.set (.slice (some ⟨g1, 0, none⟩) (n + 1) cap1) (.int .i64 lost) (.int .i64 all)
          have hr0 := RZ.cell0
          have hr1 := RZ.cell1
          have hr2 := RZ.cell2
          clear RZ hV hR hO hY gA XA YA X4 v0 v1 v2 fv u0 u1 u2 ua
          go_wp2
          exact bodyPost_ret (v := .agg #[.slice (some ⟨g1, 0, none⟩) (n + 1) cap1, .int .i64 lost, .int .i64 all]) (by simp [results, Tryz.results141, go_sem, hr0, hr1, hr2]) rfl ⟨_, _, _, rfl, FIN.out⟩
      · have e0 : (k == 0) = false := by simp; omega
        have e1 : (k == 1) = false := by simp; omega
        have e2 : (k == 2) = false := by simp; omega
        have FIN := Lib.hid (top_end (p := p) D2.out.own (by have := D2.out.len; omega) (lost := lost) (by omega) (all := all) (by omega) (by omega) (by omega) D2.out.rd E2.out hlt)
        have RZ := D2.out.res.set (.slice x n c) (.int .i64 lost) (.int .i64 all)
        have hr0 := RZ.cell0
        have hr1 := RZ.cell1
        have hr2 := RZ.cell2
        clear RZ
        go_wp2
        exact bodyPost_ret (v := .agg #[.slice x n c, .int .i64 lost, .int .i64 all]) (by simp [results, Tryz.results141, go_sem, hr0, hr1, hr2]) rfl ⟨_, _, _, rfl, FIN.out⟩

end Go.Proofs.YtnoilafoeaknjaaGreat.T

/-
  What was counted most, drawn: alone, with a thing, and of two.
-/
namespace Go.Proofs.YtnoilafoeaknjaaGreat.T
open Go.RowKit Go.Sort

theorem bts_alloc' {w : World} {v : Value} {n : Nat} (h : Bts w w.heap.size v n) (o : Obj) : Bts (w.alloc o) (w.alloc o).heap.size v n := bts_below h ((Below.refl _ _).alloc (Nat.le_refl _) o)

theorem OwnP.drew {w : World} {B : Nat} {v : Value} {ps : List Pr} (h : OwnP w B v ps) : OwnP w.drew B v ps := World.ownsRow.drew h

/-- A drawn one, of the call's own. -/
structure DrT (w w' : World) (v : Value) (lost all : Int) (ps : List Pr) : Prop where
  own : OwnP w' w.heap.size v ps
  len : ps.length ≤ 7
  lo : 0 ≤ lost ∧ lost ≤ 300000
  al : -10 ≤ all ∧ all ≤ 2010
  below : Below w.heap.size w w'

set_option maxHeartbeats 2000000 in
theorem drawTAdd_at (w : World) (v : Value) (n : Nat) (h : ∃ x cap, v = .slice x n cap) (hb : Bts w w.heap.size v n) :
    Calls Tryz.prog 90 #[v] w fun e w' => ∃ u lost all t, e = .returned (.tuple #[.agg #[u, .int .i64 lost, .int .i64 all], .int .i64 t]) ∧ (-1 ≤ t ∧ t ≤ 64) ∧ ∃ ps, DrT w w' u lost all ps := by
  have hA := (Below.refl w.heap.size w).alloc (Nat.le_refl _) (.cells #[.slice none 0 0, .int .i64 0, .int .i64 0] 34)
  have K := Lib.hid (open_rd _ v n h (bts_alloc' hb (.cells #[.slice none 0 0, .int .i64 0, .int .i64 0] 34)))
  have HA := Lib.hid hA
  have R0 := Box3.new w 34 (.slice none 0 0) (.int .i64 0) (.int .i64 0)
  clear h hb hA
  go_enter Tryz.func90, Tryz.ntmps90
  go_wp2_with fail
  refine K.out.mono ?_
  rintro e w1 ⟨rfl, hr1, hb1⟩
  have R1 := R0.later hb1
  have L1 := Lib.hid (HA.out.trans (hb1.mono HA.out.size))
  have RD1 := Lib.hid hr1
  clear hb1 hr1 R0
  simp only [World.size_alloc] at RD1 ⊢
  go_wp2_with fail
  refine (top_at w1 (w.heap.size + 1) 0 RD1.out (by omega) (by omega)).mono ?_
  rintro e w2 ⟨u, lost, all, rfl, ps, q, own, len, lo, al, q0, q1, hr2, hE⟩
  have R2 := R1.kept hE (by simp)
  have l1 : w.heap.size + 1 < w1.heap.size := RD1.out.lt
  have L2 := Lib.hid (L1.out.trans (below_grown hE (by omega) L1.out.size))
  have HO := Lib.hid own
  have RD2 := Lib.hid hr2
  obtain ⟨x, c, rfl, _, _⟩ := own.form
  clear hE own hr2 R1
  obtain ⟨m, hm⟩ : ∃ m, m = ps.length := ⟨_, rfl⟩
  rw [← hm] at HO ⊢
  have HM := Lib.hid hm
  clear hm
  go_wp2_with fail
  refine (thing_at w2 (w.heap.size + 1) q RD2.out (by omega) (by omega)).mono ?_
  rintro e w3 ⟨t, _, rfl, t0, t1, _, _, _, hg⟩
  have R3 := R2.kept hg (by simp)
  have L3 := Lib.hid (L2.out.trans (below_grown hg (by omega) L2.out.size))
  have O3 := HO.out.kept hg (fun k e => by cases e; omega)
  have ho := Lib.hid ((O3.set3 (b := w.heap.size) (R3.not_row (by decide) O3) (.slice x m c) (.int .i64 lost) (.int .i64 all)).base (B' := w.heap.size) (by omega))
  have hl := Lib.hid (below_set3 (b := w.heap.size) L3.out (Nat.le_refl _) (.slice x m c) (.int .i64 lost) (.int .i64 all))
  have RZ := R3.set (.slice x m c) (.int .i64 lost) (.int .i64 all)
  have y0 := R3.cell0
  have y1 := R3.cell1
  have y2 := R3.cell2
  have fr := R3.free
  have hr0 := RZ.cell0
  have hr1 := RZ.cell1
  have hr2 := RZ.cell2
  clear RZ R2 R3 O3 hg L3
  go_wp2
  exact bodyPost_ret (v := .tuple #[.agg #[.slice x m c, .int .i64 lost, .int .i64 all], .int .i64 t]) (by simp [results, Tryz.results90, go_sem, hr0, hr1, hr2]) rfl ⟨_, lost, all, t, rfl, ⟨t0, t1⟩, ps, ho.out, by omega, lo, by omega, hl.out⟩

set_option maxHeartbeats 2000000 in
theorem drawTGet_at (w : World) (v : Value) (n : Nat) (h : ∃ x cap, v = .slice x n cap) (hb : Bts w w.heap.size v n) :
    Calls Tryz.prog 41 #[v] w fun e w' => ∃ u lost all t, e = .returned (.tuple #[.agg #[u, .int .i64 lost, .int .i64 all], .int .i64 t]) ∧ (-1 ≤ t ∧ t ≤ 64) ∧ ∃ ps, DrT w w' u lost all ps := by
  have hA := (Below.refl w.heap.size w).alloc (Nat.le_refl _) (.cells #[.slice none 0 0, .int .i64 0, .int .i64 0] 34)
  have K := Lib.hid (drawTAdd_at _ v n h (bts_alloc' hb (.cells #[.slice none 0 0, .int .i64 0, .int .i64 0] 34)))
  have HA := Lib.hid hA
  have R0 := Box3.new w 34 (.slice none 0 0) (.int .i64 0) (.int .i64 0)
  clear h hb hA
  go_enter Tryz.func41, Tryz.ntmps41
  go_wp2_with fail
  refine K.out.mono ?_
  rintro e w1 ⟨u, lost, all, t, rfl, ht, ps, own, len, lo, al, hb1⟩
  have R1 := R0.later hb1
  have L1 := Lib.hid (HA.out.trans (hb1.mono HA.out.size))
  obtain ⟨x, c, rfl, _, _⟩ := own.form
  obtain ⟨m, hm⟩ : ∃ m, m = ps.length := ⟨_, rfl⟩
  rw [← hm] at own ⊢
  have HM := Lib.hid hm
  have ho := Lib.hid ((own.set3 (b := w.heap.size) (R1.not_row (by decide) own) (.slice x m c) (.int .i64 lost) (.int .i64 all)).base (B' := w.heap.size) (by simp))
  have hl := Lib.hid (below_set3 (b := w.heap.size) L1.out (Nat.le_refl _) (.slice x m c) (.int .i64 lost) (.int .i64 all))
  have RZ := R1.set (.slice x m c) (.int .i64 lost) (.int .i64 all)
  have y0 := R1.cell0
  have y1 := R1.cell1
  have y2 := R1.cell2
  have fr := R1.free
  have hr0 := RZ.cell0
  have hr1 := RZ.cell1
  have hr2 := RZ.cell2
  clear RZ R1 R0 own hb1 hm
  go_wp2
  exact bodyPost_ret (v := .tuple #[.agg #[.slice x m c, .int .i64 lost, .int .i64 all], .int .i64 t]) (by simp [results, Tryz.results41, go_sem, hr0, hr1, hr2]) rfl ⟨_, lost, all, t, rfl, ht, ps, ho.out, len, lo, al, hl.out⟩

end Go.Proofs.YtnoilafoeaknjaaGreat.T
