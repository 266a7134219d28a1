/-
  Sums, drawn: alone, with a thing, and two.
-/
import Derived.Test.YtnoilafoeaknjaaZDrawS
import Derived.Test.YtnoilafoeaknjaaKf
set_option linter.unusedVariables false
namespace Go.Proofs.Ytnoilafoeaknjaa
open Go.RowKit Go.Sort

theorem DrS.base {w : World} {B B' : Nat} {V : SV} {s : Sm} (h : DrS w B V s) (hB : B' ≤ B) : DrS w B' V s := by
  obtain ⟨G, C, o⟩ := h.r
  exact ⟨⟨G, C, ⟨ownsRow_base o.hdr hB, fun i hi => ownsRow_base (o.row i hi) hB, o.off, o.apart⟩⟩, ownsRow_base h.f hB, ownsRow_base h.t hB, ownsRow_base h.k hB⟩

set_option maxRecDepth 100000 in
set_option maxHeartbeats 8000000 in
theorem drawSAdd_at (w : World) (v : Value) (n : Nat) (h : ∃ x cap, v = .slice x n cap) (hb : Bts w w.heap.size v n) :
    Calls Try.prog 48 #[v] w fun e w' => ∃ V s t, e = .returned (.tuple #[.agg #[.slice V.xr V.nr V.cr, .slice V.xf V.nf V.cf, .slice V.xt V.nt V.ct, .int .i64 s.lo, .int .i64 s.al, .slice V.xk V.nk V.ck, .int .i64 s.ka], .int .i64 t]) ∧ (-1 ≤ t ∧ t ≤ 64) ∧ DrS w' w.heap.size V s ∧ Below w.heap.size w w' := by
  have hA := (Below.refl w.heap.size w).alloc (Nat.le_refl _) (.cells #[.slice none 0 0, .slice none 0 0, .slice none 0 0, .int .i64 0, .int .i64 0, .slice none 0 0, .int .i64 0] 36)
  have KD := Lib.hid (open_rd _ v n h (K.bts_alloc' hb (.cells #[.slice none 0 0, .slice none 0 0, .slice none 0 0, .int .i64 0, .int .i64 0, .slice none 0 0, .int .i64 0] 36)))
  have HA := Lib.hid hA
  have R0 := Box7.new w 36 (.slice none 0 0) (.slice none 0 0) (.slice none 0 0) (.int .i64 0) (.int .i64 0) (.slice none 0 0) (.int .i64 0)
  clear h hb hA
  go_enter Try.func48, Try.ntmps48
  go_wp2_with fail
  refine KD.out.mono ?_
  rintro e w1 ⟨rfl, hr1, hb1⟩
  have R1 := R0.later hb1
  have L1 := Lib.hid (HA.out.trans (hb1.mono HA.out.size))
  have RD1 := Lib.hid hr1
  clear hb1 hr1 R0
  simp only [World.size_alloc] at RD1 ⊢
  go_wp2_with fail
  refine (sum_at w1 (w.heap.size + 1) 0 RD1.out (by omega) (by omega)).mono ?_
  rintro e w2 ⟨V, s, q, rfl, own, q0, q1, hr2, hE⟩
  have R2 := R1.kept hE (by simp)
  have l1 : w.heap.size + 1 < w1.heap.size := RD1.out.lt
  have L2 := Lib.hid (L1.out.trans (below_grown hE (by omega) L1.out.size))
  have HO := Lib.hid own
  have RD2 := Lib.hid hr2
  clear hE own hr2 R1
  go_wp2_with fail
  refine (thing_at w2 (w.heap.size + 1) q RD2.out (by omega) (by omega)).mono ?_
  rintro e w3 ⟨t, _, rfl, t0, t1, _, _, _, hg⟩
  have R3 := R2.kept hg (by simp)
  have L3 := Lib.hid (L2.out.trans (below_grown hg (by omega) L2.out.size))
  have O3 := HO.out.kept hg (fun k e => by cases e; omega)
  have DX := Lib.hid ((O3.box7 R3 (.slice V.xr V.nr V.cr) (.slice V.xf V.nf V.cf) (.slice V.xt V.nt V.ct) (.int .i64 s.lo) (.int .i64 s.al) (.slice V.xk V.nk V.ck) (.int .i64 s.ka)).base (B' := w.heap.size) (by omega))
  have LX := Lib.hid (below_set7 L3.out (Nat.le_refl _) (.slice V.xr V.nr V.cr) (.slice V.xf V.nf V.cf) (.slice V.xt V.nt V.ct) (.int .i64 s.lo) (.int .i64 s.al) (.slice V.xk V.nk V.ck) (.int .i64 s.ka))
  have HY := Lib.hid (R3.set (.slice V.xr V.nr V.cr) (.slice V.xf V.nf V.cf) (.slice V.xt V.nt V.ct) (.int .i64 s.lo) (.int .i64 s.al) (.slice V.xk V.nk V.ck) (.int .i64 s.ka))
  obtain ⟨c0, c1, c2, c3, c4, c5, c6⟩ := R3.cells
  have fr := R3.free
  clear R2 R3 O3 hg L3
  go_wp2
  show bodyPost _ _ _ _ _ (set7 w3 w.heap.size (.slice V.xr V.nr V.cr) (.slice V.xf V.nf V.cf) (.slice V.xt V.nt V.ct) (.int .i64 s.lo) (.int .i64 s.al) (.slice V.xk V.nk V.ck) (.int .i64 s.ka))
  obtain ⟨d0, d1, d2, d3, d4, d5, d6⟩ := HY.out.cells
  generalize set7 w3 w.heap.size (.slice V.xr V.nr V.cr) (.slice V.xf V.nf V.cf) (.slice V.xt V.nt V.ct) (.int .i64 s.lo) (.int .i64 s.al) (.slice V.xk V.nk V.ck) (.int .i64 s.ka) = WF at DX LX d0 d1 d2 d3 d4 d5 d6 ⊢
  refine bodyPost_ret (v := .tuple #[.agg #[.slice V.xr V.nr V.cr, .slice V.xf V.nf V.cf, .slice V.xt V.nt V.ct, .int .i64 s.lo, .int .i64 s.al, .slice V.xk V.nk V.ck, .int .i64 s.ka], .int .i64 t]) (by simp [results, Try.results48, go_sem, d0, d1, d2, d3, d4, d5, d6]) rfl ?_
  exact ⟨V, s, t, rfl, ⟨t0, t1⟩, DX.out, LX.out⟩

set_option maxRecDepth 100000 in
set_option maxHeartbeats 8000000 in
theorem drawSGet_at (w : World) (v : Value) (n : Nat) (h : ∃ x cap, v = .slice x n cap) (hb : Bts w w.heap.size v n) :
    Calls Try.prog 18 #[v] w fun e w' => ∃ V s t, e = .returned (.tuple #[.agg #[.slice V.xr V.nr V.cr, .slice V.xf V.nf V.cf, .slice V.xt V.nt V.ct, .int .i64 s.lo, .int .i64 s.al, .slice V.xk V.nk V.ck, .int .i64 s.ka], .int .i64 t]) ∧ (-1 ≤ t ∧ t ≤ 64) ∧ DrS w' w.heap.size V s ∧ Below w.heap.size w w' := by
  have hA := (Below.refl w.heap.size w).alloc (Nat.le_refl _) (.cells #[.slice none 0 0, .slice none 0 0, .slice none 0 0, .int .i64 0, .int .i64 0, .slice none 0 0, .int .i64 0] 36)
  have KD := Lib.hid (drawSAdd_at _ v n h (K.bts_alloc' hb (.cells #[.slice none 0 0, .slice none 0 0, .slice none 0 0, .int .i64 0, .int .i64 0, .slice none 0 0, .int .i64 0] 36)))
  have HA := Lib.hid hA
  have R0 := Box7.new w 36 (.slice none 0 0) (.slice none 0 0) (.slice none 0 0) (.int .i64 0) (.int .i64 0) (.slice none 0 0) (.int .i64 0)
  clear h hb hA
  go_enter Try.func18, Try.ntmps18
  go_wp2_with fail
  refine KD.out.mono ?_
  rintro e w1 ⟨V, s, t, rfl, ht, own, hb1⟩
  have R1 := R0.later hb1
  have L1 := Lib.hid (HA.out.trans (hb1.mono HA.out.size))
  have DX := Lib.hid ((own.box7 R1 (.slice V.xr V.nr V.cr) (.slice V.xf V.nf V.cf) (.slice V.xt V.nt V.ct) (.int .i64 s.lo) (.int .i64 s.al) (.slice V.xk V.nk V.ck) (.int .i64 s.ka)).base (B' := w.heap.size) (by simp))
  have LX := Lib.hid (below_set7 L1.out (Nat.le_refl _) (.slice V.xr V.nr V.cr) (.slice V.xf V.nf V.cf) (.slice V.xt V.nt V.ct) (.int .i64 s.lo) (.int .i64 s.al) (.slice V.xk V.nk V.ck) (.int .i64 s.ka))
  have HY := Lib.hid (R1.set (.slice V.xr V.nr V.cr) (.slice V.xf V.nf V.cf) (.slice V.xt V.nt V.ct) (.int .i64 s.lo) (.int .i64 s.al) (.slice V.xk V.nk V.ck) (.int .i64 s.ka))
  obtain ⟨c0, c1, c2, c3, c4, c5, c6⟩ := R1.cells
  have fr := R1.free
  clear R0 R1 own hb1 L1
  go_wp2
  show bodyPost _ _ _ _ _ (set7 w1 w.heap.size (.slice V.xr V.nr V.cr) (.slice V.xf V.nf V.cf) (.slice V.xt V.nt V.ct) (.int .i64 s.lo) (.int .i64 s.al) (.slice V.xk V.nk V.ck) (.int .i64 s.ka))
  obtain ⟨d0, d1, d2, d3, d4, d5, d6⟩ := HY.out.cells
  generalize set7 w1 w.heap.size (.slice V.xr V.nr V.cr) (.slice V.xf V.nf V.cf) (.slice V.xt V.nt V.ct) (.int .i64 s.lo) (.int .i64 s.al) (.slice V.xk V.nk V.ck) (.int .i64 s.ka) = WF at DX LX d0 d1 d2 d3 d4 d5 d6 ⊢
  refine bodyPost_ret (v := .tuple #[.agg #[.slice V.xr V.nr V.cr, .slice V.xf V.nf V.cf, .slice V.xt V.nt V.ct, .int .i64 s.lo, .int .i64 s.al, .slice V.xk V.nk V.ck, .int .i64 s.ka], .int .i64 t]) (by simp [results, Try.results18, go_sem, d0, d1, d2, d3, d4, d5, d6]) rfl ?_
  exact ⟨V, s, t, rfl, ht, DX.out, LX.out⟩

set_option maxRecDepth 100000 in
set_option maxHeartbeats 8000000 in
theorem drawSAll_at (w : World) (v : Value) (n : Nat) (h : ∃ x cap, v = .slice x n cap) (hb : Bts w w.heap.size v n) :
    Calls Try.prog 23 #[v] w fun e w' => ∃ V s, e = .returned (.agg #[.slice V.xr V.nr V.cr, .slice V.xf V.nf V.cf, .slice V.xt V.nt V.ct, .int .i64 s.lo, .int .i64 s.al, .slice V.xk V.nk V.ck, .int .i64 s.ka]) ∧ DrS w' w.heap.size V s ∧ Below w.heap.size w w' := by
  have hA := (Below.refl w.heap.size w).alloc (Nat.le_refl _) (.cells #[.slice none 0 0, .slice none 0 0, .slice none 0 0, .int .i64 0, .int .i64 0, .slice none 0 0, .int .i64 0] 36)
  have KD := Lib.hid (open_rd _ v n h (K.bts_alloc' hb (.cells #[.slice none 0 0, .slice none 0 0, .slice none 0 0, .int .i64 0, .int .i64 0, .slice none 0 0, .int .i64 0] 36)))
  have HA := Lib.hid hA
  have R0 := Box7.new w 36 (.slice none 0 0) (.slice none 0 0) (.slice none 0 0) (.int .i64 0) (.int .i64 0) (.slice none 0 0) (.int .i64 0)
  clear h hb hA
  go_enter Try.func23, Try.ntmps23
  go_wp2_with fail
  refine KD.out.mono ?_
  rintro e w1 ⟨rfl, hr1, hb1⟩
  have R1 := R0.later hb1
  have L1 := Lib.hid (HA.out.trans (hb1.mono HA.out.size))
  have RD1 := Lib.hid hr1
  clear hb1 hr1 R0
  simp only [World.size_alloc] at RD1 ⊢
  go_wp2_with fail
  refine (sum_at w1 (w.heap.size + 1) 0 RD1.out (by omega) (by omega)).mono ?_
  rintro e w2 ⟨V, s, q, rfl, own, q0, q1, hr2, hE⟩
  have R2 := R1.kept hE (by simp)
  have l1 : w.heap.size + 1 < w1.heap.size := RD1.out.lt
  have L2 := Lib.hid (L1.out.trans (below_grown hE (by omega) L1.out.size))
  have HO := Lib.hid own
  have RD2 := Lib.hid hr2
  clear hE own hr2 R1
  have L3 := L2
  have O3 := HO.out
  have DX := Lib.hid ((O3.box7 R2 (.slice V.xr V.nr V.cr) (.slice V.xf V.nf V.cf) (.slice V.xt V.nt V.ct) (.int .i64 s.lo) (.int .i64 s.al) (.slice V.xk V.nk V.ck) (.int .i64 s.ka)).base (B' := w.heap.size) (by omega))
  have LX := Lib.hid (below_set7 L3.out (Nat.le_refl _) (.slice V.xr V.nr V.cr) (.slice V.xf V.nf V.cf) (.slice V.xt V.nt V.ct) (.int .i64 s.lo) (.int .i64 s.al) (.slice V.xk V.nk V.ck) (.int .i64 s.ka))
  have HY := Lib.hid (R2.set (.slice V.xr V.nr V.cr) (.slice V.xf V.nf V.cf) (.slice V.xt V.nt V.ct) (.int .i64 s.lo) (.int .i64 s.al) (.slice V.xk V.nk V.ck) (.int .i64 s.ka))
  obtain ⟨c0, c1, c2, c3, c4, c5, c6⟩ := R2.cells
  have fr := R2.free
  clear R2 O3 L3
  go_wp2
  show bodyPost _ _ _ _ _ (set7 w2 w.heap.size (.slice V.xr V.nr V.cr) (.slice V.xf V.nf V.cf) (.slice V.xt V.nt V.ct) (.int .i64 s.lo) (.int .i64 s.al) (.slice V.xk V.nk V.ck) (.int .i64 s.ka))
  obtain ⟨d0, d1, d2, d3, d4, d5, d6⟩ := HY.out.cells
  generalize set7 w2 w.heap.size (.slice V.xr V.nr V.cr) (.slice V.xf V.nf V.cf) (.slice V.xt V.nt V.ct) (.int .i64 s.lo) (.int .i64 s.al) (.slice V.xk V.nk V.ck) (.int .i64 s.ka) = WF at DX LX d0 d1 d2 d3 d4 d5 d6 ⊢
  refine bodyPost_ret (v := .agg #[.slice V.xr V.nr V.cr, .slice V.xf V.nf V.cf, .slice V.xt V.nt V.ct, .int .i64 s.lo, .int .i64 s.al, .slice V.xk V.nk V.ck, .int .i64 s.ka]) (by simp [results, Try.results23, go_sem, d0, d1, d2, d3, d4, d5, d6]) rfl ?_
  exact ⟨V, s, rfl, DX.out, LX.out⟩

set_option maxRecDepth 100000 in
set_option maxHeartbeats 8000000 in
theorem drawSOk_at (w : World) (v : Value) (n : Nat) (h : ∃ x cap, v = .slice x n cap) (hb : Bts w w.heap.size v n) :
    Calls Try.prog 10 #[v] w fun e w' => ∃ V s, e = .returned (.agg #[.slice V.xr V.nr V.cr, .slice V.xf V.nf V.cf, .slice V.xt V.nt V.ct, .int .i64 s.lo, .int .i64 s.al, .slice V.xk V.nk V.ck, .int .i64 s.ka]) ∧ DrS w' w.heap.size V s ∧ Below w.heap.size w w' := by
  have hA := (Below.refl w.heap.size w).alloc (Nat.le_refl _) (.cells #[.slice none 0 0, .slice none 0 0, .slice none 0 0, .int .i64 0, .int .i64 0, .slice none 0 0, .int .i64 0] 36)
  have KD := Lib.hid (open_rd _ v n h (K.bts_alloc' hb (.cells #[.slice none 0 0, .slice none 0 0, .slice none 0 0, .int .i64 0, .int .i64 0, .slice none 0 0, .int .i64 0] 36)))
  have HA := Lib.hid hA
  have R0 := Box7.new w 36 (.slice none 0 0) (.slice none 0 0) (.slice none 0 0) (.int .i64 0) (.int .i64 0) (.slice none 0 0) (.int .i64 0)
  clear h hb hA
  go_enter Try.func10, Try.ntmps10
  go_wp2_with fail
  refine KD.out.mono ?_
  rintro e w1 ⟨rfl, hr1, hb1⟩
  have R1 := R0.later hb1
  have L1 := Lib.hid (HA.out.trans (hb1.mono HA.out.size))
  have RD1 := Lib.hid hr1
  clear hb1 hr1 R0
  simp only [World.size_alloc] at RD1 ⊢
  go_wp2_with fail
  refine (sum_at w1 (w.heap.size + 1) 0 RD1.out (by omega) (by omega)).mono ?_
  rintro e w2 ⟨V, s, q, rfl, own, q0, q1, hr2, hE⟩
  have R2 := R1.kept hE (by simp)
  have l1 : w.heap.size + 1 < w1.heap.size := RD1.out.lt
  have L2 := Lib.hid (L1.out.trans (below_grown hE (by omega) L1.out.size))
  obtain ⟨W2, hW⟩ : ∃ W, W = w2.alloc (.cells #[.slice V.xr V.nr V.cr, .slice V.xf V.nf V.cf, .slice V.xt V.nt V.ct, .int .i64 s.lo, .int .i64 s.al, .slice V.xk V.nk V.ck, .int .i64 s.ka] 36) := ⟨_, rfl⟩
  replace R2 := R2.alloc (.cells #[.slice V.xr V.nr V.cr, .slice V.xf V.nf V.cf, .slice V.xt V.nt V.ct, .int .i64 s.lo, .int .i64 s.al, .slice V.xk V.nk V.ck, .int .i64 s.ka] 36)
  replace L2 := Lib.hid (L2.out.alloc L2.out.size (.cells #[.slice V.xr V.nr V.cr, .slice V.xf V.nf V.cf, .slice V.xt V.nt V.ct, .int .i64 s.lo, .int .i64 s.al, .slice V.xk V.nk V.ck, .int .i64 s.ka] 36))
  have HO := Lib.hid (own.alloc (.cells #[.slice V.xr V.nr V.cr, .slice V.xf V.nf V.cf, .slice V.xt V.nt V.ct, .int .i64 s.lo, .int .i64 s.al, .slice V.xk V.nk V.ck, .int .i64 s.ka] 36))
  have RD2 := Lib.hid (hr2.alloc (.cells #[.slice V.xr V.nr V.cr, .slice V.xf V.nf V.cf, .slice V.xt V.nt V.ct, .int .i64 s.lo, .int .i64 s.al, .slice V.xk V.nk V.ck, .int .i64 s.ka] 36))
  have X2 := Box7.new w2 36 (.slice V.xr V.nr V.cr) (.slice V.xf V.nf V.cf) (.slice V.xt V.nt V.ct) (.int .i64 s.lo) (.int .i64 s.al) (.slice V.xk V.nk V.ck) (.int .i64 s.ka)
  have l2 : w1.heap.size ≤ w2.heap.size := hE.size
  rw [← hW] at R2 L2 HO RD2 X2
  clear hE own hr2 R1
  go_wp2_with fail
  rw [← hW]
  clear hW
  obtain ⟨b, hb⟩ : ∃ b, b = w2.heap.size := ⟨_, rfl⟩
  rw [← hb] at X2 l2 ⊢
  clear hb
  go_wp2_with fail
  refine (pick_at W2 (w.heap.size + 1) q 4 RD2.out (by omega) (by omega) (by omega) (by omega)).mono ?_
  rintro e w3 ⟨k, rfl, k0, k1, hr3, hg⟩
  have R3 := R2.kept hg (by simp)
  have X3 := X2.kept hg (by simp; omega)
  have L3 := Lib.hid (L2.out.trans (below_grown hg (by omega) L2.out.size))
  have O3 := Lib.hid (HO.out.kept hg (fun k e => by cases e; omega))
  have RD3 := Lib.hid hr3
  have l3 := X3.lt
  clear hg hr3 R2 X2 L2 HO RD2
  rcases (by omega : k = 0 ∨ k = 1 ∨ 2 ≤ k) with rfl | rfl | hk
  · clear k0 k1
    go_wp2_with fail
    refine (K.rank_at w3 (w.heap.size + 1) (q + 1) RD3.out (by omega) (by omega)).mono ?_
    rintro e w4 ⟨u, all, rfl, ps, q2, own, len, al, q20, q21, hr4, hE⟩
    obtain ⟨x, c, rfl⟩ := K.OwnP.form' own
    obtain ⟨m, hm⟩ : ∃ m, m = ps.length := ⟨_, rfl⟩
    rw [← hm] at own ⊢
    clear hm
    have R4 := R3.kept hE (by simp)
    have X4 := X3.kept hE (by simp; omega)
    have L4 := L3.out.trans (below_grown hE (by omega) L3.out.size)
    have O4 := O3.out.kept hE (fun k e => by cases e; omega)
    have s4 := hE.size
    obtain ⟨x0, x1, x2, x3, x4, x5, x6⟩ := X4.cells
    obtain ⟨g0, g1, g2, g3, g4, g5, g6⟩ := R4.cells
    have fx := X4.free
    have fr := R4.free
    clear hE hr4
    have R55 := R4.kept (grownBy_setCell w4 ⟨b, 5, none⟩ (.slice x m c)) (by simp; omega)
    have O55 := O4.cell7 X4 5 (.slice x m c)
    have own55 := K.OwnP.cell7 own X4 5 (.slice x m c)
    have L55 := L4.setCell (p := ⟨b, 5, none⟩) (show w.heap.size ≤ b by omega) (.slice x m c)
    have X55 := X4.set5 (.slice x m c)
    have R65 := R55.kept (grownBy_setCell (w4.setCell ⟨b, 5, none⟩ (.slice x m c)) ⟨b, 6, none⟩ (.int .i64 all)) (by simp; omega)
    have O65 := O55.cell7 X55 6 (.int .i64 all)
    have own65 := K.OwnP.cell7 own55 X55 6 (.int .i64 all)
    have L65 := L55.setCell (p := ⟨b, 6, none⟩) (show w.heap.size ≤ b by omega) (.int .i64 all)
    have X65 := X55.set6 (.int .i64 all)
    obtain ⟨WS, hW⟩ : ∃ W, W = ((w4.setCell ⟨b, 5, none⟩ (.slice x m c)).setCell ⟨b, 6, none⟩ (.int .i64 all)) := ⟨_, rfl⟩
    obtain ⟨y0, y1, y2, y3, y4, y5, y6⟩ := X65.cells
    obtain ⟨h0, h1, h2, h3, h4, h5, h6⟩ := R65.cells
    have fx' := X65.free
    have fr' := R65.free
    have R5 := R65
    have O5 := O65
    have own5 := own65
    have L5 := L65
    rw [← hW] at R5 O5 own5 L5
    clear R55 O55 own55 L55 X55 R65 O65 own65 L65 X65 R4 X4 O4 L4 own R3 X3 L3 O3
    have DS : DrS WS w1.heap.size ⟨V.xr, V.nr, V.cr, V.xf, V.nf, V.cf, V.xt, V.nt, V.ct, x, m, c⟩ ⟨s.rs, s.zs, s.ps, s.lo, s.al, ps, all⟩ := ⟨O5.r, O5.f, O5.t, ownsRow_base own5 (by omega)⟩
    clear O5 own5
    have DX := Lib.hid ((DS.box7 R5 (.slice V.xr V.nr V.cr) (.slice V.xf V.nf V.cf) (.slice V.xt V.nt V.ct) (.int .i64 s.lo) (.int .i64 s.al) (.slice x m c) (.int .i64 all)).base (B' := w.heap.size) (by omega))
    have LX := Lib.hid (below_set7 L5 (Nat.le_refl _) (.slice V.xr V.nr V.cr) (.slice V.xf V.nf V.cf) (.slice V.xt V.nt V.ct) (.int .i64 s.lo) (.int .i64 s.al) (.slice x m c) (.int .i64 all))
    have HY := Lib.hid (R5.set (.slice V.xr V.nr V.cr) (.slice V.xf V.nf V.cf) (.slice V.xt V.nt V.ct) (.int .i64 s.lo) (.int .i64 s.al) (.slice x m c) (.int .i64 all))
    have HHW := Lib.hid hW
    clear hW DS R5 L5
    go_wp2
    rw [← HHW.out]
    show bodyPost _ _ _ _ _ (set7 WS w.heap.size (.slice V.xr V.nr V.cr) (.slice V.xf V.nf V.cf) (.slice V.xt V.nt V.ct) (.int .i64 s.lo) (.int .i64 s.al) (.slice x m c) (.int .i64 all))
    obtain ⟨d0, d1, d2, d3, d4, d5, d6⟩ := HY.out.cells
    generalize set7 WS w.heap.size (.slice V.xr V.nr V.cr) (.slice V.xf V.nf V.cf) (.slice V.xt V.nt V.ct) (.int .i64 s.lo) (.int .i64 s.al) (.slice x m c) (.int .i64 all) = WF at DX LX d0 d1 d2 d3 d4 d5 d6 ⊢
    refine bodyPost_ret (v := .agg #[.slice V.xr V.nr V.cr, .slice V.xf V.nf V.cf, .slice V.xt V.nt V.ct, .int .i64 s.lo, .int .i64 s.al, .slice x m c, .int .i64 all]) (by simp [results, Try.results10, go_sem, d0, d1, d2, d3, d4, d5, d6]) rfl ?_
    exact ⟨⟨V.xr, V.nr, V.cr, V.xf, V.nf, V.cf, V.xt, V.nt, V.ct, x, m, c⟩, ⟨s.rs, s.zs, s.ps, s.lo, s.al, ps, all⟩, rfl, DX.out, LX.out⟩
  · clear k0 k1
    go_wp2_with fail
    refine (few_at w3 (w.heap.size + 1) (q + 1) RD3.out (by omega) (by omega)).mono ?_
    rintro e w4 ⟨x, c, zs, q2, rfl, own, len, q20, q21, hr4, hE⟩
    obtain ⟨m, hm⟩ : ∃ m, m = zs.length := ⟨_, rfl⟩
    rw [← hm] at own ⊢
    clear hm
    have R4 := R3.kept hE (by simp)
    have X4 := X3.kept hE (by simp; omega)
    have L4 := L3.out.trans (below_grown hE (by omega) L3.out.size)
    have O4 := O3.out.kept hE (fun k e => by cases e; omega)
    have s4 := hE.size
    obtain ⟨x0, x1, x2, x3, x4, x5, x6⟩ := X4.cells
    obtain ⟨g0, g1, g2, g3, g4, g5, g6⟩ := R4.cells
    have fx := X4.free
    have fr := R4.free
    clear hE hr4
    have R15 := R4.kept (grownBy_setCell w4 ⟨b, 1, none⟩ (.slice x m c)) (by simp; omega)
    have O15 := O4.cell7 X4 1 (.slice x m c)
    have own15 := own.cell7 X4 1 (.slice x m c)
    have L15 := L4.setCell (p := ⟨b, 1, none⟩) (show w.heap.size ≤ b by omega) (.slice x m c)
    have X15 := X4.set1 (.slice x m c)
    obtain ⟨WS, hW⟩ : ∃ W, W = (w4.setCell ⟨b, 1, none⟩ (.slice x m c)) := ⟨_, rfl⟩
    obtain ⟨y0, y1, y2, y3, y4, y5, y6⟩ := X15.cells
    obtain ⟨h0, h1, h2, h3, h4, h5, h6⟩ := R15.cells
    have fx' := X15.free
    have fr' := R15.free
    have R5 := R15
    have O5 := O15
    have own5 := own15
    have L5 := L15
    rw [← hW] at R5 O5 own5 L5
    clear R15 O15 own15 L15 X15 R4 X4 O4 L4 own R3 X3 L3 O3
    have DS : DrS WS w1.heap.size ⟨V.xr, V.nr, V.cr, x, m, c, V.xt, V.nt, V.ct, V.xk, V.nk, V.ck⟩ ⟨s.rs, zs, s.ps, s.lo, s.al, s.ks, s.ka⟩ := ⟨O5.r, ownsRow_base own5 (by omega), O5.t, O5.k⟩
    clear O5 own5
    have DX := Lib.hid ((DS.box7 R5 (.slice V.xr V.nr V.cr) (.slice x m c) (.slice V.xt V.nt V.ct) (.int .i64 s.lo) (.int .i64 s.al) (.slice V.xk V.nk V.ck) (.int .i64 s.ka)).base (B' := w.heap.size) (by omega))
    have LX := Lib.hid (below_set7 L5 (Nat.le_refl _) (.slice V.xr V.nr V.cr) (.slice x m c) (.slice V.xt V.nt V.ct) (.int .i64 s.lo) (.int .i64 s.al) (.slice V.xk V.nk V.ck) (.int .i64 s.ka))
    have HY := Lib.hid (R5.set (.slice V.xr V.nr V.cr) (.slice x m c) (.slice V.xt V.nt V.ct) (.int .i64 s.lo) (.int .i64 s.al) (.slice V.xk V.nk V.ck) (.int .i64 s.ka))
    have HHW := Lib.hid hW
    clear hW DS R5 L5
    go_wp2
    rw [← HHW.out]
    show bodyPost _ _ _ _ _ (set7 WS w.heap.size (.slice V.xr V.nr V.cr) (.slice x m c) (.slice V.xt V.nt V.ct) (.int .i64 s.lo) (.int .i64 s.al) (.slice V.xk V.nk V.ck) (.int .i64 s.ka))
    obtain ⟨d0, d1, d2, d3, d4, d5, d6⟩ := HY.out.cells
    generalize set7 WS w.heap.size (.slice V.xr V.nr V.cr) (.slice x m c) (.slice V.xt V.nt V.ct) (.int .i64 s.lo) (.int .i64 s.al) (.slice V.xk V.nk V.ck) (.int .i64 s.ka) = WF at DX LX d0 d1 d2 d3 d4 d5 d6 ⊢
    refine bodyPost_ret (v := .agg #[.slice V.xr V.nr V.cr, .slice x m c, .slice V.xt V.nt V.ct, .int .i64 s.lo, .int .i64 s.al, .slice V.xk V.nk V.ck, .int .i64 s.ka]) (by simp [results, Try.results10, go_sem, d0, d1, d2, d3, d4, d5, d6]) rfl ?_
    exact ⟨⟨V.xr, V.nr, V.cr, x, m, c, V.xt, V.nt, V.ct, V.xk, V.nk, V.ck⟩, ⟨s.rs, zs, s.ps, s.lo, s.al, s.ks, s.ka⟩, rfl, DX.out, LX.out⟩
  · have q0 : (k == 0) = false := by simp; omega
    have q1 : (k == 1) = false := by simp; omega
    obtain ⟨x0, x1, x2, x3, x4, x5, x6⟩ := X3.cells
    have fx := X3.free
    have O4 := O3.out
    have DX := Lib.hid ((O4.box7 R3 (.slice V.xr V.nr V.cr) (.slice V.xf V.nf V.cf) (.slice V.xt V.nt V.ct) (.int .i64 s.lo) (.int .i64 s.al) (.slice V.xk V.nk V.ck) (.int .i64 s.ka)).base (B' := w.heap.size) (by omega))
    have LX := Lib.hid (below_set7 L3.out (Nat.le_refl _) (.slice V.xr V.nr V.cr) (.slice V.xf V.nf V.cf) (.slice V.xt V.nt V.ct) (.int .i64 s.lo) (.int .i64 s.al) (.slice V.xk V.nk V.ck) (.int .i64 s.ka))
    have HY := Lib.hid (R3.set (.slice V.xr V.nr V.cr) (.slice V.xf V.nf V.cf) (.slice V.xt V.nt V.ct) (.int .i64 s.lo) (.int .i64 s.al) (.slice V.xk V.nk V.ck) (.int .i64 s.ka))
    obtain ⟨c0, c1, c2, c3, c4, c5, c6⟩ := R3.cells
    have fr := R3.free
    clear R3 X3 O4 O3 L3
    go_wp2
    show bodyPost _ _ _ _ _ (set7 w3 w.heap.size (.slice V.xr V.nr V.cr) (.slice V.xf V.nf V.cf) (.slice V.xt V.nt V.ct) (.int .i64 s.lo) (.int .i64 s.al) (.slice V.xk V.nk V.ck) (.int .i64 s.ka))
    obtain ⟨d0, d1, d2, d3, d4, d5, d6⟩ := HY.out.cells
    generalize set7 w3 w.heap.size (.slice V.xr V.nr V.cr) (.slice V.xf V.nf V.cf) (.slice V.xt V.nt V.ct) (.int .i64 s.lo) (.int .i64 s.al) (.slice V.xk V.nk V.ck) (.int .i64 s.ka) = WF at DX LX d0 d1 d2 d3 d4 d5 d6 ⊢
    refine bodyPost_ret (v := .agg #[.slice V.xr V.nr V.cr, .slice V.xf V.nf V.cf, .slice V.xt V.nt V.ct, .int .i64 s.lo, .int .i64 s.al, .slice V.xk V.nk V.ck, .int .i64 s.ka]) (by simp [results, Try.results10, go_sem, d0, d1, d2, d3, d4, d5, d6]) rfl ?_
    exact ⟨V, s, rfl, DX.out, LX.out⟩


end Go.Proofs.Ytnoilafoeaknjaa
