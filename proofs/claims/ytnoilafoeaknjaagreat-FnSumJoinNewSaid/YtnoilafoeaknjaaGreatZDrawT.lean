/-
  Sums, drawn: alone, with a thing, and two.
-/
import Derived.Test.YtnoilafoeaknjaaGreatZDrawS
import Derived.Test.YtnoilafoeaknjaaGreatKf
set_option linter.unusedVariables false
namespace Go.Proofs.YtnoilafoeaknjaaGreat
open Go.RowKit Go.Sort

theorem DrS.base {w : World} {B B' : Nat} {V : SV} {s : Sm} (h : DrS w B V s) (hB : B' ≤ B) : DrS w B' V s := by
  obtain ⟨G, C, o⟩ := h.r
  exact ⟨⟨G, C, ⟨ownsRow_base o.hdr hB, fun i hi => ownsRow_base (o.row i hi) hB, o.off, o.apart⟩⟩, ownsRow_base h.f hB, ownsRow_base h.t hB, ownsRow_base h.k hB⟩

set_option maxRecDepth 100000 in
set_option maxHeartbeats 8000000 in
theorem drawSAdd_at (w : World) (v : Value) (n : Nat) (h : ∃ x cap, v = .slice x n cap) (hb : Bts w w.heap.size v n) :
    Calls Tryz.prog 50 #[v] w fun e w' => ∃ V s t, e = .returned (.tuple #[.agg #[.slice V.xr V.nr V.cr, .slice V.xf V.nf V.cf, .slice V.xt V.nt V.ct, .int .i64 s.lo, .int .i64 s.al, .slice V.xk V.nk V.ck, .int .i64 s.ka], .int .i64 t]) ∧ (-1 ≤ t ∧ t ≤ 64) ∧ DrS w' w.heap.size V s ∧ Below w.heap.size w w' := by
  have hA := (Below.refl w.heap.size w).alloc (Nat.le_refl _) (.cells #[.slice none 0 0, .slice none 0 0, .slice none 0 0, .int .i64 0, .int .i64 0, .slice none 0 0, .int .i64 0] 39)
  have K := Lib.hid (open_rd _ v n h (K.bts_alloc' hb (.cells #[.slice none 0 0, .slice none 0 0, .slice none 0 0, .int .i64 0, .int .i64 0, .slice none 0 0, .int .i64 0] 39)))
  have HA := Lib.hid hA
  have R0 := Box7.new w 39 (.slice none 0 0) (.slice none 0 0) (.slice none 0 0) (.int .i64 0) (.int .i64 0) (.slice none 0 0) (.int .i64 0)
  clear h hb hA
  go_enter Tryz.func50, Tryz.ntmps50
  go_wp2_with fail
  refine K.out.mono ?_
  rintro e w1 ⟨rfl, hr1, hb1⟩
  have R1 := R0.later hb1
  have L1 := Lib.hid (HA.out.trans (hb1.mono HA.out.size))
  have RD1 := Lib.hid hr1
  clear hb1 hr1 R0
  simp only [World.size_alloc] at RD1 ⊢
  go_wp2_with fail
  refine (sum_at w1 (w.heap.size + 1) 0 RD1.out (by omega) (by omega)).mono ?_
  rintro e w2 ⟨V, s, q, rfl, own, q0, q1, hr2, hE⟩
  have R2 := R1.kept hE (by simp)
  have l1 : w.heap.size + 1 < w1.heap.size := RD1.out.lt
  have L2 := Lib.hid (L1.out.trans (below_grown hE (by omega) L1.out.size))
  have HO := Lib.hid own
  have RD2 := Lib.hid hr2
  clear hE own hr2 R1
  go_wp2_with fail
  refine (thing_at w2 (w.heap.size + 1) q RD2.out (by omega) (by omega)).mono ?_
  rintro e w3 ⟨t, _, rfl, t0, t1, _, _, _, hg⟩
  have R3 := R2.kept hg (by simp)
  have L3 := Lib.hid (L2.out.trans (below_grown hg (by omega) L2.out.size))
  have O3 := HO.out.kept hg (fun k e => by cases e; omega)
  have DX := Lib.hid ((O3.box7 R3 (.slice V.xr V.nr V.cr) (.slice V.xf V.nf V.cf) (.slice V.xt V.nt V.ct) (.int .i64 s.lo) (.int .i64 s.al) (.slice V.xk V.nk V.ck) (.int .i64 s.ka)).base (B' := w.heap.size) (by omega))
  have LX := Lib.hid (below_set7 L3.out (Nat.le_refl _) (.slice V.xr V.nr V.cr) (.slice V.xf V.nf V.cf) (.slice V.xt V.nt V.ct) (.int .i64 s.lo) (.int .i64 s.al) (.slice V.xk V.nk V.ck) (.int .i64 s.ka))
  have HY := Lib.hid (R3.set (.slice V.xr V.nr V.cr) (.slice V.xf V.nf V.cf) (.slice V.xt V.nt V.ct) (.int .i64 s.lo) (.int .i64 s.al) (.slice V.xk V.nk V.ck) (.int .i64 s.ka))
  obtain ⟨c0, c1, c2, c3, c4, c5, c6⟩ := R3.cells
  have fr := R3.free
  clear R2 R3 O3 hg L3
  go_wp2
  show bodyPost _ _ _ _ _ (set7 w3 w.heap.size (.slice V.xr V.nr V.cr) (.slice V.xf V.nf V.cf) (.slice V.xt V.nt V.ct) (.int .i64 s.lo) (.int .i64 s.al) (.slice V.xk V.nk V.ck) (.int .i64 s.ka))
  obtain ⟨d0, d1, d2, d3, d4, d5, d6⟩ := HY.out.cells
  generalize set7 w3 w.heap.size (.slice V.xr V.nr V.cr) (.slice V.xf V.nf V.cf) (.slice V.xt V.nt V.ct) (.int .i64 s.lo) (.int .i64 s.al) (.slice V.xk V.nk V.ck) (.int .i64 s.ka) = WF at DX LX d0 d1 d2 d3 d4 d5 d6 ⊢
  refine bodyPost_ret (v := .tuple #[.agg #[.slice V.xr V.nr V.cr, .slice V.xf V.nf V.cf, .slice V.xt V.nt V.ct, .int .i64 s.lo, .int .i64 s.al, .slice V.xk V.nk V.ck, .int .i64 s.ka], .int .i64 t]) (by simp [results, Tryz.results50, go_sem, d0, d1, d2, d3, d4, d5, d6]) rfl ?_
  exact ⟨V, s, t, rfl, ⟨t0, t1⟩, DX.out, LX.out⟩

set_option maxRecDepth 100000 in
set_option maxHeartbeats 8000000 in
theorem drawSGet_at (w : World) (v : Value) (n : Nat) (h : ∃ x cap, v = .slice x n cap) (hb : Bts w w.heap.size v n) :
    Calls Tryz.prog 62 #[v] w fun e w' => ∃ V s t, e = .returned (.tuple #[.agg #[.slice V.xr V.nr V.cr, .slice V.xf V.nf V.cf, .slice V.xt V.nt V.ct, .int .i64 s.lo, .int .i64 s.al, .slice V.xk V.nk V.ck, .int .i64 s.ka], .int .i64 t]) ∧ (-1 ≤ t ∧ t ≤ 64) ∧ DrS w' w.heap.size V s ∧ Below w.heap.size w w' := by
  have hA := (Below.refl w.heap.size w).alloc (Nat.le_refl _) (.cells #[.slice none 0 0, .slice none 0 0, .slice none 0 0, .int .i64 0, .int .i64 0, .slice none 0 0, .int .i64 0] 39)
  have K := Lib.hid (drawSAdd_at _ v n h (K.bts_alloc' hb (.cells #[.slice none 0 0, .slice none 0 0, .slice none 0 0, .int .i64 0, .int .i64 0, .slice none 0 0, .int .i64 0] 39)))
  have HA := Lib.hid hA
  have R0 := Box7.new w 39 (.slice none 0 0) (.slice none 0 0) (.slice none 0 0) (.int .i64 0) (.int .i64 0) (.slice none 0 0) (.int .i64 0)
  clear h hb hA
  go_enter Tryz.func62, Tryz.ntmps62
  go_wp2_with fail
  refine K.out.mono ?_
  rintro e w1 ⟨V, s, t, rfl, ht, own, hb1⟩
  have R1 := R0.later hb1
  have L1 := Lib.hid (HA.out.trans (hb1.mono HA.out.size))
  have DX := Lib.hid ((own.box7 R1 (.slice V.xr V.nr V.cr) (.slice V.xf V.nf V.cf) (.slice V.xt V.nt V.ct) (.int .i64 s.lo) (.int .i64 s.al) (.slice V.xk V.nk V.ck) (.int .i64 s.ka)).base (B' := w.heap.size) (by simp))
  have LX := Lib.hid (below_set7 L1.out (Nat.le_refl _) (.slice V.xr V.nr V.cr) (.slice V.xf V.nf V.cf) (.slice V.xt V.nt V.ct) (.int .i64 s.lo) (.int .i64 s.al) (.slice V.xk V.nk V.ck) (.int .i64 s.ka))
  have HY := Lib.hid (R1.set (.slice V.xr V.nr V.cr) (.slice V.xf V.nf V.cf) (.slice V.xt V.nt V.ct) (.int .i64 s.lo) (.int .i64 s.al) (.slice V.xk V.nk V.ck) (.int .i64 s.ka))
  obtain ⟨c0, c1, c2, c3, c4, c5, c6⟩ := R1.cells
  have fr := R1.free
  clear R0 R1 own hb1 L1
  go_wp2
  show bodyPost _ _ _ _ _ (set7 w1 w.heap.size (.slice V.xr V.nr V.cr) (.slice V.xf V.nf V.cf) (.slice V.xt V.nt V.ct) (.int .i64 s.lo) (.int .i64 s.al) (.slice V.xk V.nk V.ck) (.int .i64 s.ka))
  obtain ⟨d0, d1, d2, d3, d4, d5, d6⟩ := HY.out.cells
  generalize set7 w1 w.heap.size (.slice V.xr V.nr V.cr) (.slice V.xf V.nf V.cf) (.slice V.xt V.nt V.ct) (.int .i64 s.lo) (.int .i64 s.al) (.slice V.xk V.nk V.ck) (.int .i64 s.ka) = WF at DX LX d0 d1 d2 d3 d4 d5 d6 ⊢
  refine bodyPost_ret (v := .tuple #[.agg #[.slice V.xr V.nr V.cr, .slice V.xf V.nf V.cf, .slice V.xt V.nt V.ct, .int .i64 s.lo, .int .i64 s.al, .slice V.xk V.nk V.ck, .int .i64 s.ka], .int .i64 t]) (by simp [results, Tryz.results62, go_sem, d0, d1, d2, d3, d4, d5, d6]) rfl ?_
  exact ⟨V, s, t, rfl, ht, DX.out, LX.out⟩

set_option maxRecDepth 100000 in
set_option maxHeartbeats 8000000 in
theorem drawSJoin_at (w : World) (v : Value) (n : Nat) (h : ∃ x cap, v = .slice x n cap) (hb : Bts w w.heap.size v n) :
    Calls Tryz.prog 64 #[v] w fun e w' => ∃ V s V' s', e = .returned (.tuple #[.agg #[.slice V.xr V.nr V.cr, .slice V.xf V.nf V.cf, .slice V.xt V.nt V.ct, .int .i64 s.lo, .int .i64 s.al, .slice V.xk V.nk V.ck, .int .i64 s.ka], .agg #[.slice V'.xr V'.nr V'.cr, .slice V'.xf V'.nf V'.cf, .slice V'.xt V'.nt V'.ct, .int .i64 s'.lo, .int .i64 s'.al, .slice V'.xk V'.nk V'.ck, .int .i64 s'.ka]]) ∧ DrS w' w.heap.size V s ∧ DrS w' w.heap.size V' s' ∧ Below w.heap.size w w' := by
  obtain ⟨W, hW⟩ : ∃ W, W = (w.alloc (.cells #[.slice none 0 0, .slice none 0 0, .slice none 0 0, .int .i64 0, .int .i64 0, .slice none 0 0, .int .i64 0] 39)).alloc (.cells #[.slice none 0 0, .slice none 0 0, .slice none 0 0, .int .i64 0, .int .i64 0, .slice none 0 0, .int .i64 0] 39) := ⟨_, rfl⟩
  have hA : Below w.heap.size w W := by rw [hW]; exact ((Below.refl _ _).alloc (Nat.le_refl _) _).alloc (by simp) _
  have sW : W.heap.size = w.heap.size + 2 := by rw [hW]; simp
  have X : Box7 W w.heap.size 39 (.slice none 0 0) (.slice none 0 0) (.slice none 0 0) (.int .i64 0) (.int .i64 0) (.slice none 0 0) (.int .i64 0) := by rw [hW]; exact (Box7.new w _ _ _ _ _ _ _ _).alloc _
  have Y : Box7 W (w.heap.size + 1) 39 (.slice none 0 0) (.slice none 0 0) (.slice none 0 0) (.int .i64 0) (.int .i64 0) (.slice none 0 0) (.int .i64 0) := by rw [hW]; have := Box7.new (w.alloc (.cells #[.slice none 0 0, .slice none 0 0, .slice none 0 0, .int .i64 0, .int .i64 0, .slice none 0 0, .int .i64 0] 39)) 39 (.slice none 0 0) (.slice none 0 0) (.slice none 0 0) (.int .i64 0) (.int .i64 0) (.slice none 0 0) (.int .i64 0); rwa [World.size_alloc] at this
  have K := Lib.hid (open_rd W v n h (by rw [hW]; exact K.bts_alloc' (K.bts_alloc' hb _) _))
  have HA := Lib.hid hA
  have HS := Lib.hid sW
  clear h hb hA sW
  go_enter Tryz.func64, Tryz.ntmps64
  go_wp2_with fail
  rw [← hW]
  clear hW
  go_wp2_with fail
  refine K.out.mono ?_
  rintro e w1 ⟨rfl, hr1, hb1⟩
  have X1 := X.later hb1
  have Y1 := Y.later hb1
  have L1 := Lib.hid (HA.out.trans (hb1.mono HA.out.size))
  have RD1 := Lib.hid hr1
  clear hb1 hr1 X Y
  have E := HS.out
  rw [E] at RD1 ⊢
  clear E
  go_wp2_with fail
  refine (sum_at w1 (w.heap.size + 2) 0 RD1.out (by omega) (by omega)).mono ?_
  rintro e w2 ⟨V, s, q, rfl, own, q0, q1, hr2, hE⟩
  have X2 := X1.kept hE (by simp)
  have Y2 := Y1.kept hE (by simp)
  have l1 : w.heap.size + 2 < w1.heap.size := RD1.out.lt
  have L2 := Lib.hid (L1.out.trans (below_grown hE (by omega) L1.out.size))
  have HO := Lib.hid own
  have RD2 := Lib.hid hr2
  clear hE own hr2 X1 Y1
  go_wp2_with fail
  refine (sum_at w2 (w.heap.size + 2) q RD2.out (by omega) (by omega)).mono ?_
  rintro e w3 ⟨V', s', q', rfl, own', q0', q1', hr3, hE⟩
  have X3 := X2.kept hE (by simp)
  have Y3 := Y2.kept hE (by simp)
  have L3 := Lib.hid (L2.out.trans (below_grown hE (by omega) L2.out.size))
  have O3 := HO.out.kept hE (fun k e => by cases e; omega)
  have l2 : w.heap.size + 2 < w2.heap.size := RD2.out.lt
  have oa := O3.box7 X3 (.slice V.xr V.nr V.cr) (.slice V.xf V.nf V.cf) (.slice V.xt V.nt V.ct) (.int .i64 s.lo) (.int .i64 s.al) (.slice V.xk V.nk V.ck) (.int .i64 s.ka)
  have ob := own'.box7 X3 (.slice V.xr V.nr V.cr) (.slice V.xf V.nf V.cf) (.slice V.xt V.nt V.ct) (.int .i64 s.lo) (.int .i64 s.al) (.slice V.xk V.nk V.ck) (.int .i64 s.ka)
  have Xa := X3.set (.slice V.xr V.nr V.cr) (.slice V.xf V.nf V.cf) (.slice V.xt V.nt V.ct) (.int .i64 s.lo) (.int .i64 s.al) (.slice V.xk V.nk V.ck) (.int .i64 s.ka)
  have Ya := Y3.kept (set7_grown w3 w.heap.size (.slice V.xr V.nr V.cr) (.slice V.xf V.nf V.cf) (.slice V.xt V.nt V.ct) (.int .i64 s.lo) (.int .i64 s.al) (.slice V.xk V.nk V.ck) (.int .i64 s.ka)) (by simp)
  have oa2 := Lib.hid ((oa.box7 Ya (.slice V'.xr V'.nr V'.cr) (.slice V'.xf V'.nf V'.cf) (.slice V'.xt V'.nt V'.ct) (.int .i64 s'.lo) (.int .i64 s'.al) (.slice V'.xk V'.nk V'.ck) (.int .i64 s'.ka)).base (B' := w.heap.size) (by omega))
  have ob2 := Lib.hid ((ob.box7 Ya (.slice V'.xr V'.nr V'.cr) (.slice V'.xf V'.nf V'.cf) (.slice V'.xt V'.nt V'.ct) (.int .i64 s'.lo) (.int .i64 s'.al) (.slice V'.xk V'.nk V'.ck) (.int .i64 s'.ka)).base (B' := w.heap.size) (by omega))
  have LX := Lib.hid (below_set7 (b := w.heap.size + 1) (below_set7 (b := w.heap.size) L3.out (Nat.le_refl _) (.slice V.xr V.nr V.cr) (.slice V.xf V.nf V.cf) (.slice V.xt V.nt V.ct) (.int .i64 s.lo) (.int .i64 s.al) (.slice V.xk V.nk V.ck) (.int .i64 s.ka)) (by omega) (.slice V'.xr V'.nr V'.cr) (.slice V'.xf V'.nf V'.cf) (.slice V'.xt V'.nt V'.ct) (.int .i64 s'.lo) (.int .i64 s'.al) (.slice V'.xk V'.nk V'.ck) (.int .i64 s'.ka))
  have Yb := Lib.hid (Ya.set (.slice V'.xr V'.nr V'.cr) (.slice V'.xf V'.nf V'.cf) (.slice V'.xt V'.nt V'.ct) (.int .i64 s'.lo) (.int .i64 s'.al) (.slice V'.xk V'.nk V'.ck) (.int .i64 s'.ka))
  have Xb := Lib.hid (Xa.kept (set7_grown _ (w.heap.size + 1) (.slice V'.xr V'.nr V'.cr) (.slice V'.xf V'.nf V'.cf) (.slice V'.xt V'.nt V'.ct) (.int .i64 s'.lo) (.int .i64 s'.al) (.slice V'.xk V'.nk V'.ck) (.int .i64 s'.ka)) (by simp))
  obtain ⟨s0, s1, s2, s3, s4, s5, s6⟩ := X3.cells
  have sf := X3.free
  obtain ⟨z0, z1, z2, z3, z4, z5, z6⟩ := Y3.cells
  have zf := Y3.free
  obtain ⟨a0, a1, a2, a3, a4, a5, a6⟩ := Ya.cells
  have af := Ya.free
  clear Xa Ya X3 Y3 O3 oa ob own' hE X2 Y2
  unfold set7 at a0 a1 a2 a3 a4 a5 a6 af
  go_wp2
  show bodyPost _ _ _ _ _ (set7 (set7 w3 w.heap.size (.slice V.xr V.nr V.cr) (.slice V.xf V.nf V.cf) (.slice V.xt V.nt V.ct) (.int .i64 s.lo) (.int .i64 s.al) (.slice V.xk V.nk V.ck) (.int .i64 s.ka)) (w.heap.size + 1) (.slice V'.xr V'.nr V'.cr) (.slice V'.xf V'.nf V'.cf) (.slice V'.xt V'.nt V'.ct) (.int .i64 s'.lo) (.int .i64 s'.al) (.slice V'.xk V'.nk V'.ck) (.int .i64 s'.ka))
  obtain ⟨p0, p1, p2, p3, p4, p5, p6⟩ := Xb.out.cells
  obtain ⟨r0, r1, r2, r3, r4, r5, r6⟩ := Yb.out.cells
  generalize set7 (set7 w3 w.heap.size (.slice V.xr V.nr V.cr) (.slice V.xf V.nf V.cf) (.slice V.xt V.nt V.ct) (.int .i64 s.lo) (.int .i64 s.al) (.slice V.xk V.nk V.ck) (.int .i64 s.ka)) (w.heap.size + 1) (.slice V'.xr V'.nr V'.cr) (.slice V'.xf V'.nf V'.cf) (.slice V'.xt V'.nt V'.ct) (.int .i64 s'.lo) (.int .i64 s'.al) (.slice V'.xk V'.nk V'.ck) (.int .i64 s'.ka) = WF at oa2 ob2 LX p0 p1 p2 p3 p4 p5 p6 r0 r1 r2 r3 r4 r5 r6 ⊢
  refine bodyPost_ret (v := .tuple #[.agg #[.slice V.xr V.nr V.cr, .slice V.xf V.nf V.cf, .slice V.xt V.nt V.ct, .int .i64 s.lo, .int .i64 s.al, .slice V.xk V.nk V.ck, .int .i64 s.ka], .agg #[.slice V'.xr V'.nr V'.cr, .slice V'.xf V'.nf V'.cf, .slice V'.xt V'.nt V'.ct, .int .i64 s'.lo, .int .i64 s'.al, .slice V'.xk V'.nk V'.ck, .int .i64 s'.ka]]) (by simp [results, Tryz.results64, go_sem, p0, p1, p2, p3, p4, p5, p6, r0, r1, r2, r3, r4, r5, r6]) rfl ?_
  exact ⟨V, s, V', s', rfl, oa2.out, ob2.out, LX.out⟩

end Go.Proofs.YtnoilafoeaknjaaGreat
