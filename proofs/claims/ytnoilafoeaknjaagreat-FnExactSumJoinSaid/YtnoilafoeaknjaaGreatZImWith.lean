/-
  One of the four joined, of the program: told apart by a type switch.
-/
import Derived.Test.YtnoilafoeaknjaaGreatZAss
set_option linter.unusedVariables false
namespace Go.Proofs.YtnoilafoeaknjaaGreat
open Go.RowKit Go.Sort

set_option maxRecDepth 100000 in
set_option maxHeartbeats 4000000 in
theorem imWithR_at (w : World) (V : SV) (s : Sm) (x : Option Addr) (n c : Nat) (rs : List (List Int)) (h : RdS w V s) (hu : Rws w (.slice x n c) rs) :
    Calls Tryz.prog 116 #[.agg #[.slice V.xr V.nr V.cr, .slice V.xf V.nf V.cf, .slice V.xt V.nt V.ct, .int .i64 s.lo, .int .i64 s.al, .slice V.xk V.nk V.ck, .int .i64 s.ka], .iface 27 (.agg #[.slice x n c])] w fun e w' => ∃ y m d, e = .returned (.tuple #[.agg #[.slice y m d, .slice V.xf V.nf V.cf, .slice V.xt V.nt V.ct, .int .i64 s.lo, .int .i64 s.al, .slice V.xk V.nk V.ck, .int .i64 s.ka], .bool (joinB s.rs rs)]) ∧ OwnRR w' w.heap.size w'.heap.size (.slice y m d) (joinA s.rs rs) ∧ Below w.heap.size w w' := by
  have I1 := fun w => ask_R (.agg #[.slice x n c]) w
  have hA := ((((Below.refl w.heap.size w).alloc (Nat.le_refl _) (.cells #[.slice V.xr V.nr V.cr, .slice V.xf V.nf V.cf, .slice V.xt V.nt V.ct, .int .i64 s.lo, .int .i64 s.al, .slice V.xk V.nk V.ck, .int .i64 s.ka] 39)).alloc (by simp) (.cells #[.slice none 0 0, .slice none 0 0, .slice none 0 0, .int .i64 0, .int .i64 0, .slice none 0 0, .int .i64 0] 39)).alloc (by simp; omega) (.cells #[.slice x n c] 27))
  have X := ((Box7.new w 39 (.slice V.xr V.nr V.cr) (.slice V.xf V.nf V.cf) (.slice V.xt V.nt V.ct) (.int .i64 s.lo) (.int .i64 s.al) (.slice V.xk V.nk V.ck) (.int .i64 s.ka)).alloc (.cells #[.slice none 0 0, .slice none 0 0, .slice none 0 0, .int .i64 0, .int .i64 0, .slice none 0 0, .int .i64 0] 39)).alloc (.cells #[.slice x n c] 27)
  have R := (Box7.new (w.alloc (.cells #[.slice V.xr V.nr V.cr, .slice V.xf V.nf V.cf, .slice V.xt V.nt V.ct, .int .i64 s.lo, .int .i64 s.al, .slice V.xk V.nk V.ck, .int .i64 s.ka] 39)) 39 (.slice none 0 0) (.slice none 0 0) (.slice none 0 0) (.int .i64 0) (.int .i64 0) (.slice none 0 0) (.int .i64 0)).alloc (.cells #[.slice x n c] 27)
  rw [World.size_alloc] at R
  have D := Go.Boxed.new ((w.alloc (.cells #[.slice V.xr V.nr V.cr, .slice V.xf V.nf V.cf, .slice V.xt V.nt V.ct, .int .i64 s.lo, .int .i64 s.al, .slice V.xk V.nk V.ck, .int .i64 s.ka] 39)).alloc (.cells #[.slice none 0 0, .slice none 0 0, .slice none 0 0, .int .i64 0, .int .i64 0, .slice none 0 0, .int .i64 0] 39)) 27 (.slice x n c)
  rw [World.size_alloc, World.size_alloc] at D
  obtain ⟨ax0, ax1, ax2, ax3, ax4, ax5, ax6⟩ := (X).cells
  have ad0 := (D).cell
  obtain ⟨W1, hW⟩ : ∃ W, W = ((w.alloc (.cells #[.slice V.xr V.nr V.cr, .slice V.xf V.nf V.cf, .slice V.xt V.nt V.ct, .int .i64 s.lo, .int .i64 s.al, .slice V.xk V.nk V.ck, .int .i64 s.ka] 39)).alloc (.cells #[.slice none 0 0, .slice none 0 0, .slice none 0 0, .int .i64 0, .int .i64 0, .slice none 0 0, .int .i64 0] 39)).alloc (.cells #[.slice x n c] 27) := ⟨_, rfl⟩
  rw [← hW] at hA X R D
  have S : Hid (RdS W1 V s) := Lib.hid (h.below hA (Nat.le_refl _))
  have P := Lib.hid (hu.below hA (Nat.le_refl _))
  have B := Lib.hid hA
  have SZ0 : Hid (w.heap.size + 2 ≤ W1.heap.size) := by show _ ≤ _; rw [hW]; simp
  clear hA h hu
  have KA := imJoinRR W1 (.slice V.xr V.nr V.cr) (.slice x n c) s.rs rs S.out.r P.out
  obtain ⟨A, hA⟩ : ∃ A, A = joinA s.rs rs := ⟨_, rfl⟩
  have HA := Lib.hid hA
  rw [← hA] at KA
  generalize joinB s.rs rs = ok at KA ⊢
  clear hA
  go_enter Tryz.func116, Tryz.ntmps116
  go_wp2_with fail
  rw [← hW]
  clear hW ax0 ax1 ax2 ax3 ax4 ax5 ax6 ad0
  refine (KA).mono ?_
  rintro e w1 ⟨y, d, rfl, ho, hb⟩
  obtain ⟨m, hm⟩ : ∃ m, m = (A).length := ⟨_, rfl⟩
  rw [← hm] at ho ⊢
  have Sw0 := Lib.hid hb.size
  clear hm KA
  clear S
  clear P
  clear D
  replace X := X.later hb
  replace R := R.later hb
  replace B := Lib.hid (B.out.trans (hb.mono B.out.size))
  have O := Lib.hid (ho)
  clear hb
  obtain ⟨cx0, cx1, cx2, cx3, cx4, cx5, cx6⟩ := (X).cells
  obtain ⟨cr0, cr1, cr2, cr3, cr4, cr5, cr6⟩ := (R).cells
  have frx := X.free
  have frr := R.free
  clear ho
  have Y := X
  replace Y := Y.set0 (.slice y m d)
  obtain ⟨y0, y1, y2, y3, y4, y5, y6⟩ := Y.cells
  clear Y
  have G1 := Lib.hid (grownBy_setCell w1 ⟨w.heap.size, 0, none⟩ (.slice y m d))
  have BX : Hid (Below w.heap.size w ((w1.setCell ⟨w.heap.size, 0, none⟩ (.slice y m d)))) := Lib.hid ((B.out.setCell (Nat.le_refl _) _))
  have RX := R.kept G1.out (by simp)
  have SZ : Hid (w.heap.size + 2 ≤ W1.heap.size) := SZ0
  have Sw : Hid (W1.heap.size ≤ w1.heap.size) := Sw0
  clear X R B
  go_wp2
  show bodyPost _ _ _ _ _ (set7 (w1.setCell ⟨w.heap.size, 0, none⟩ (.slice y m d)) (w.heap.size + 1) (.slice y m d) (.slice V.xf V.nf V.cf) (.slice V.xt V.nt V.ct) (.int .i64 s.lo) (.int .i64 s.al) (.slice V.xk V.nk V.ck) (.int .i64 s.ka))
  generalize (w1.setCell ⟨w.heap.size, 0, none⟩ (.slice y m d)) = WX at G1 BX RX ⊢
  have G2 := set7_grown WX (w.heap.size + 1) (.slice y m d) (.slice V.xf V.nf V.cf) (.slice V.xt V.nt V.ct) (.int .i64 s.lo) (.int .i64 s.al) (.slice V.xk V.nk V.ck) (.int .i64 s.ka)
  have Y := RX.set (.slice y m d) (.slice V.xf V.nf V.cf) (.slice V.xt V.nt V.ct) (.int .i64 s.lo) (.int .i64 s.al) (.slice V.xk V.nk V.ck) (.int .i64 s.ka)
  have BF := below_set7 BX.out (Nat.le_add_right _ 1) (.slice y m d) (.slice V.xf V.nf V.cf) (.slice V.xt V.nt V.ct) (.int .i64 s.lo) (.int .i64 s.al) (.slice V.xk V.nk V.ck) (.int .i64 s.ka)
  generalize set7 WX (w.heap.size + 1) (.slice y m d) (.slice V.xf V.nf V.cf) (.slice V.xt V.nt V.ct) (.int .i64 s.lo) (.int .i64 s.al) (.slice V.xk V.nk V.ck) (.int .i64 s.ka) = WF at G2 Y BF ⊢
  have s1 := SZ.out
  have s2 := Sw.out
  have s3 := G1.out.size
  have s4 := G2.size
  have HK : KeptB (fun k => k < W1.heap.size) w1 WF := (KeptB.of_grown G1.out (show w.heap.size < W1.heap.size by omega)).trans (KeptB.of_grown G2 (show w.heap.size + 1 < W1.heap.size by omega))
  obtain ⟨d0, d1, d2, d3, d4, d5, d6⟩ := Y.cells
  refine bodyPost_ret (v := .tuple #[.agg #[.slice y m d, .slice V.xf V.nf V.cf, .slice V.xt V.nt V.ct, .int .i64 s.lo, .int .i64 s.al, .slice V.xk V.nk V.ck, .int .i64 s.ka], .bool ok]) (by simp [results, Tryz.results116, go_sem, d0, d1, d2, d3, d4, d5, d6]) rfl ?_
  rw [← HA.out]
  exact ⟨y, m, d, rfl, ((O.out.keptB HK (fun k q1 _ q => by omega)).base (by omega)).upto (by omega) (Nat.le_refl _), BF⟩

set_option maxRecDepth 100000 in
set_option maxHeartbeats 4000000 in
theorem imWithF_at (w : World) (V : SV) (s : Sm) (x : Option Addr) (n c : Nat) (zs : List Int) (h : RdS w V s) (hu : Ints w (.slice x n c) zs) :
    Calls Tryz.prog 116 #[.agg #[.slice V.xr V.nr V.cr, .slice V.xf V.nf V.cf, .slice V.xt V.nt V.ct, .int .i64 s.lo, .int .i64 s.al, .slice V.xk V.nk V.ck, .int .i64 s.ka], .iface 31 (.agg #[.slice x n c])] w fun e w' => ∃ y m d, e = .returned (.tuple #[.agg #[.slice V.xr V.nr V.cr, .slice y m d, .slice V.xt V.nt V.ct, .int .i64 s.lo, .int .i64 s.al, .slice V.xk V.nk V.ck, .int .i64 s.ka], .bool (joinOkF s.zs zs)]) ∧ OwnI w' w.heap.size (.slice y m d) (joinF s.zs zs) ∧ Below w.heap.size w w' := by
  have I1 := fun w => (ask_F (.agg #[.slice x n c]) w).1
  have I2 := fun w => (ask_F (.agg #[.slice x n c]) w).2
  have hA := ((((Below.refl w.heap.size w).alloc (Nat.le_refl _) (.cells #[.slice V.xr V.nr V.cr, .slice V.xf V.nf V.cf, .slice V.xt V.nt V.ct, .int .i64 s.lo, .int .i64 s.al, .slice V.xk V.nk V.ck, .int .i64 s.ka] 39)).alloc (by simp) (.cells #[.slice none 0 0, .slice none 0 0, .slice none 0 0, .int .i64 0, .int .i64 0, .slice none 0 0, .int .i64 0] 39)).alloc (by simp; omega) (.cells #[.slice x n c] 31))
  have X := ((Box7.new w 39 (.slice V.xr V.nr V.cr) (.slice V.xf V.nf V.cf) (.slice V.xt V.nt V.ct) (.int .i64 s.lo) (.int .i64 s.al) (.slice V.xk V.nk V.ck) (.int .i64 s.ka)).alloc (.cells #[.slice none 0 0, .slice none 0 0, .slice none 0 0, .int .i64 0, .int .i64 0, .slice none 0 0, .int .i64 0] 39)).alloc (.cells #[.slice x n c] 31)
  have R := (Box7.new (w.alloc (.cells #[.slice V.xr V.nr V.cr, .slice V.xf V.nf V.cf, .slice V.xt V.nt V.ct, .int .i64 s.lo, .int .i64 s.al, .slice V.xk V.nk V.ck, .int .i64 s.ka] 39)) 39 (.slice none 0 0) (.slice none 0 0) (.slice none 0 0) (.int .i64 0) (.int .i64 0) (.slice none 0 0) (.int .i64 0)).alloc (.cells #[.slice x n c] 31)
  rw [World.size_alloc] at R
  have D := Go.Boxed.new ((w.alloc (.cells #[.slice V.xr V.nr V.cr, .slice V.xf V.nf V.cf, .slice V.xt V.nt V.ct, .int .i64 s.lo, .int .i64 s.al, .slice V.xk V.nk V.ck, .int .i64 s.ka] 39)).alloc (.cells #[.slice none 0 0, .slice none 0 0, .slice none 0 0, .int .i64 0, .int .i64 0, .slice none 0 0, .int .i64 0] 39)) 31 (.slice x n c)
  rw [World.size_alloc, World.size_alloc] at D
  obtain ⟨ax0, ax1, ax2, ax3, ax4, ax5, ax6⟩ := (X).cells
  have ad0 := (D).cell
  obtain ⟨W1, hW⟩ : ∃ W, W = ((w.alloc (.cells #[.slice V.xr V.nr V.cr, .slice V.xf V.nf V.cf, .slice V.xt V.nt V.ct, .int .i64 s.lo, .int .i64 s.al, .slice V.xk V.nk V.ck, .int .i64 s.ka] 39)).alloc (.cells #[.slice none 0 0, .slice none 0 0, .slice none 0 0, .int .i64 0, .int .i64 0, .slice none 0 0, .int .i64 0] 39)).alloc (.cells #[.slice x n c] 31) := ⟨_, rfl⟩
  rw [← hW] at hA X R D
  have S : Hid (RdS W1 V s) := Lib.hid (h.below hA (Nat.le_refl _))
  have P := Lib.hid (hu.below hA (Nat.le_refl _))
  have B := Lib.hid hA
  have SZ0 : Hid (w.heap.size + 2 ≤ W1.heap.size) := by show _ ≤ _; rw [hW]; simp
  clear hA h hu
  have KA := imFewJoin_at W1 (.slice V.xf V.nf V.cf) (.slice x n c) s.zs zs S.out.f P.out
  obtain ⟨A, hA⟩ : ∃ A, A = joinF s.zs zs := ⟨_, rfl⟩
  have HA := Lib.hid hA
  rw [← hA] at KA
  generalize joinOkF s.zs zs = ok at KA ⊢
  clear hA
  go_enter Tryz.func116, Tryz.ntmps116
  go_wp2_with fail
  rw [← hW]
  clear hW ax0 ax1 ax2 ax3 ax4 ax5 ax6 ad0
  refine (KA).mono ?_
  rintro e w1 ⟨v, rfl, ho, hb⟩
  obtain ⟨y, d, rfl⟩ := ho.form'
  obtain ⟨m, hm⟩ : ∃ m, m = (A).length := ⟨_, rfl⟩
  rw [← hm] at ho ⊢
  have Sw0 := Lib.hid hb.size
  clear hm KA
  clear S
  clear P
  clear D
  replace X := X.later hb
  replace R := R.later hb
  replace B := Lib.hid (B.out.trans (hb.mono B.out.size))
  have O := Lib.hid (ho)
  clear hb
  obtain ⟨cx0, cx1, cx2, cx3, cx4, cx5, cx6⟩ := (X).cells
  obtain ⟨cr0, cr1, cr2, cr3, cr4, cr5, cr6⟩ := (R).cells
  have frx := X.free
  have frr := R.free
  clear ho
  have Y := X
  replace Y := Y.set1 (.slice y m d)
  obtain ⟨y0, y1, y2, y3, y4, y5, y6⟩ := Y.cells
  clear Y
  have G1 := Lib.hid (grownBy_setCell w1 ⟨w.heap.size, 1, none⟩ (.slice y m d))
  have BX : Hid (Below w.heap.size w ((w1.setCell ⟨w.heap.size, 1, none⟩ (.slice y m d)))) := Lib.hid ((B.out.setCell (Nat.le_refl _) _))
  have RX := R.kept G1.out (by simp)
  have SZ : Hid (w.heap.size + 2 ≤ W1.heap.size) := SZ0
  have Sw : Hid (W1.heap.size ≤ w1.heap.size) := Sw0
  clear X R B
  go_wp2
  show bodyPost _ _ _ _ _ (set7 (w1.setCell ⟨w.heap.size, 1, none⟩ (.slice y m d)) (w.heap.size + 1) (.slice V.xr V.nr V.cr) (.slice y m d) (.slice V.xt V.nt V.ct) (.int .i64 s.lo) (.int .i64 s.al) (.slice V.xk V.nk V.ck) (.int .i64 s.ka))
  generalize (w1.setCell ⟨w.heap.size, 1, none⟩ (.slice y m d)) = WX at G1 BX RX ⊢
  have G2 := set7_grown WX (w.heap.size + 1) (.slice V.xr V.nr V.cr) (.slice y m d) (.slice V.xt V.nt V.ct) (.int .i64 s.lo) (.int .i64 s.al) (.slice V.xk V.nk V.ck) (.int .i64 s.ka)
  have Y := RX.set (.slice V.xr V.nr V.cr) (.slice y m d) (.slice V.xt V.nt V.ct) (.int .i64 s.lo) (.int .i64 s.al) (.slice V.xk V.nk V.ck) (.int .i64 s.ka)
  have BF := below_set7 BX.out (Nat.le_add_right _ 1) (.slice V.xr V.nr V.cr) (.slice y m d) (.slice V.xt V.nt V.ct) (.int .i64 s.lo) (.int .i64 s.al) (.slice V.xk V.nk V.ck) (.int .i64 s.ka)
  generalize set7 WX (w.heap.size + 1) (.slice V.xr V.nr V.cr) (.slice y m d) (.slice V.xt V.nt V.ct) (.int .i64 s.lo) (.int .i64 s.al) (.slice V.xk V.nk V.ck) (.int .i64 s.ka) = WF at G2 Y BF ⊢
  have s1 := SZ.out
  have s2 := Sw.out
  have s3 := G1.out.size
  have s4 := G2.size
  have HK : KeptB (fun k => k < W1.heap.size) w1 WF := (KeptB.of_grown G1.out (show w.heap.size < W1.heap.size by omega)).trans (KeptB.of_grown G2 (show w.heap.size + 1 < W1.heap.size by omega))
  obtain ⟨d0, d1, d2, d3, d4, d5, d6⟩ := Y.cells
  refine bodyPost_ret (v := .tuple #[.agg #[.slice V.xr V.nr V.cr, .slice y m d, .slice V.xt V.nt V.ct, .int .i64 s.lo, .int .i64 s.al, .slice V.xk V.nk V.ck, .int .i64 s.ka], .bool ok]) (by simp [results, Tryz.results116, go_sem, d0, d1, d2, d3, d4, d5, d6]) rfl ?_
  rw [← HA.out]
  exact ⟨y, m, d, rfl, ownsRow_base (ownsRow_keptB O.out HK (fun k e q => by have := (World.ownsRow.lt O.out k e).1; omega)) (by omega), BF⟩

set_option maxRecDepth 100000 in
set_option maxHeartbeats 4000000 in
theorem imWithT_at (w : World) (V : SV) (s : Sm) (x : Option Addr) (n c : Nat) (ps : List T.Pr) (lo al : Int) (h : RdS w V s) (hu : T.Prs w (.slice x n c) ps) :
    Calls Tryz.prog 116 #[.agg #[.slice V.xr V.nr V.cr, .slice V.xf V.nf V.cf, .slice V.xt V.nt V.ct, .int .i64 s.lo, .int .i64 s.al, .slice V.xk V.nk V.ck, .int .i64 s.ka], .iface 34 (.agg #[.slice x n c, .int .i64 lo, .int .i64 al])] w fun e w' => ∃ y m d, e = .returned (.tuple #[.agg #[.slice V.xr V.nr V.cr, .slice V.xf V.nf V.cf, .slice y m d, .int .i64 (T.joinT s.ps s.lo s.al ps lo al).2.1, .int .i64 (T.joinT s.ps s.lo s.al ps lo al).2.2, .slice V.xk V.nk V.ck, .int .i64 s.ka], .bool (T.joinOk s.ps s.lo s.al ps lo al)]) ∧ T.OwnP w' w.heap.size (.slice y m d) (T.joinT s.ps s.lo s.al ps lo al).1 ∧ Below w.heap.size w w' := by
  have I1 := fun w => (ask_T (.agg #[.slice x n c, .int .i64 lo, .int .i64 al]) w).1
  have I2 := fun w => (ask_T (.agg #[.slice x n c, .int .i64 lo, .int .i64 al]) w).2.1
  have I3 := fun w => (ask_T (.agg #[.slice x n c, .int .i64 lo, .int .i64 al]) w).2.2
  have hA := ((((Below.refl w.heap.size w).alloc (Nat.le_refl _) (.cells #[.slice V.xr V.nr V.cr, .slice V.xf V.nf V.cf, .slice V.xt V.nt V.ct, .int .i64 s.lo, .int .i64 s.al, .slice V.xk V.nk V.ck, .int .i64 s.ka] 39)).alloc (by simp) (.cells #[.slice none 0 0, .slice none 0 0, .slice none 0 0, .int .i64 0, .int .i64 0, .slice none 0 0, .int .i64 0] 39)).alloc (by simp; omega) (.cells #[.slice x n c, .int .i64 lo, .int .i64 al] 34))
  have X := ((Box7.new w 39 (.slice V.xr V.nr V.cr) (.slice V.xf V.nf V.cf) (.slice V.xt V.nt V.ct) (.int .i64 s.lo) (.int .i64 s.al) (.slice V.xk V.nk V.ck) (.int .i64 s.ka)).alloc (.cells #[.slice none 0 0, .slice none 0 0, .slice none 0 0, .int .i64 0, .int .i64 0, .slice none 0 0, .int .i64 0] 39)).alloc (.cells #[.slice x n c, .int .i64 lo, .int .i64 al] 34)
  have R := (Box7.new (w.alloc (.cells #[.slice V.xr V.nr V.cr, .slice V.xf V.nf V.cf, .slice V.xt V.nt V.ct, .int .i64 s.lo, .int .i64 s.al, .slice V.xk V.nk V.ck, .int .i64 s.ka] 39)) 39 (.slice none 0 0) (.slice none 0 0) (.slice none 0 0) (.int .i64 0) (.int .i64 0) (.slice none 0 0) (.int .i64 0)).alloc (.cells #[.slice x n c, .int .i64 lo, .int .i64 al] 34)
  rw [World.size_alloc] at R
  have D := T.Box3.new ((w.alloc (.cells #[.slice V.xr V.nr V.cr, .slice V.xf V.nf V.cf, .slice V.xt V.nt V.ct, .int .i64 s.lo, .int .i64 s.al, .slice V.xk V.nk V.ck, .int .i64 s.ka] 39)).alloc (.cells #[.slice none 0 0, .slice none 0 0, .slice none 0 0, .int .i64 0, .int .i64 0, .slice none 0 0, .int .i64 0] 39)) 34 (.slice x n c) (.int .i64 lo) (.int .i64 al)
  rw [World.size_alloc, World.size_alloc] at D
  obtain ⟨ax0, ax1, ax2, ax3, ax4, ax5, ax6⟩ := (X).cells
  have ad0 := (D).cell0
  have ad1 := (D).cell1
  have ad2 := (D).cell2
  obtain ⟨W1, hW⟩ : ∃ W, W = ((w.alloc (.cells #[.slice V.xr V.nr V.cr, .slice V.xf V.nf V.cf, .slice V.xt V.nt V.ct, .int .i64 s.lo, .int .i64 s.al, .slice V.xk V.nk V.ck, .int .i64 s.ka] 39)).alloc (.cells #[.slice none 0 0, .slice none 0 0, .slice none 0 0, .int .i64 0, .int .i64 0, .slice none 0 0, .int .i64 0] 39)).alloc (.cells #[.slice x n c, .int .i64 lo, .int .i64 al] 34) := ⟨_, rfl⟩
  rw [← hW] at hA X R D
  have S : Hid (RdS W1 V s) := Lib.hid (h.below hA (Nat.le_refl _))
  have P := Lib.hid (hu.below hA (Nat.le_refl _))
  have B := Lib.hid hA
  have SZ0 : Hid (w.heap.size + 2 ≤ W1.heap.size) := by show _ ≤ _; rw [hW]; simp
  clear hA h hu
  have KA := T.imTopJoin_at W1 (.slice V.xt V.nt V.ct) (.slice x n c) s.ps ps s.lo s.al lo al S.out.t P.out
  generalize T.joinT s.ps s.lo s.al ps lo al = A at KA ⊢
  generalize T.joinOk s.ps s.lo s.al ps lo al = ok at KA ⊢
  go_enter Tryz.func116, Tryz.ntmps116
  go_wp2_with fail
  rw [← hW]
  clear hW ax0 ax1 ax2 ax3 ax4 ax5 ax6 ad0 ad1 ad2
  refine (KA).mono ?_
  rintro e w1 ⟨v, rfl, ho, hb⟩
  obtain ⟨y, d, rfl⟩ := ho.form'
  obtain ⟨m, hm⟩ : ∃ m, m = (A.1).length := ⟨_, rfl⟩
  rw [← hm] at ho ⊢
  have Sw0 := Lib.hid hb.size
  clear hm KA
  clear S
  clear P
  clear D
  replace X := X.later hb
  replace R := R.later hb
  replace B := Lib.hid (B.out.trans (hb.mono B.out.size))
  have O := Lib.hid (ho)
  clear hb
  obtain ⟨cx0, cx1, cx2, cx3, cx4, cx5, cx6⟩ := (X).cells
  obtain ⟨cr0, cr1, cr2, cr3, cr4, cr5, cr6⟩ := (R).cells
  have frx := X.free
  have frr := R.free
  clear ho
  have Y := X
  replace Y := Y.set2 (.slice y m d)
  replace Y := Y.set3 (.int .i64 A.2.1)
  replace Y := Y.set4 (.int .i64 A.2.2)
  obtain ⟨y0, y1, y2, y3, y4, y5, y6⟩ := Y.cells
  clear Y
  have G1 := Lib.hid (grownBy_trans (grownBy_trans (grownBy_setCell w1 ⟨w.heap.size, 2, none⟩ (.slice y m d)) (grownBy_setCell _ ⟨w.heap.size, 3, none⟩ (.int .i64 A.2.1))) (grownBy_setCell _ ⟨w.heap.size, 4, none⟩ (.int .i64 A.2.2)))
  have BX : Hid (Below w.heap.size w ((((w1.setCell ⟨w.heap.size, 2, none⟩ (.slice y m d)).setCell ⟨w.heap.size, 3, none⟩ (.int .i64 A.2.1)).setCell ⟨w.heap.size, 4, none⟩ (.int .i64 A.2.2)))) := Lib.hid ((((B.out.setCell (Nat.le_refl _) _).setCell (Nat.le_refl _) _).setCell (Nat.le_refl _) _))
  have RX := R.kept G1.out (by simp)
  have SZ : Hid (w.heap.size + 2 ≤ W1.heap.size) := SZ0
  have Sw : Hid (W1.heap.size ≤ w1.heap.size) := Sw0
  clear X R B
  go_wp2
  show bodyPost _ _ _ _ _ (set7 (((w1.setCell ⟨w.heap.size, 2, none⟩ (.slice y m d)).setCell ⟨w.heap.size, 3, none⟩ (.int .i64 A.2.1)).setCell ⟨w.heap.size, 4, none⟩ (.int .i64 A.2.2)) (w.heap.size + 1) (.slice V.xr V.nr V.cr) (.slice V.xf V.nf V.cf) (.slice y m d) (.int .i64 A.2.1) (.int .i64 A.2.2) (.slice V.xk V.nk V.ck) (.int .i64 s.ka))
  generalize (((w1.setCell ⟨w.heap.size, 2, none⟩ (.slice y m d)).setCell ⟨w.heap.size, 3, none⟩ (.int .i64 A.2.1)).setCell ⟨w.heap.size, 4, none⟩ (.int .i64 A.2.2)) = WX at G1 BX RX ⊢
  have G2 := set7_grown WX (w.heap.size + 1) (.slice V.xr V.nr V.cr) (.slice V.xf V.nf V.cf) (.slice y m d) (.int .i64 A.2.1) (.int .i64 A.2.2) (.slice V.xk V.nk V.ck) (.int .i64 s.ka)
  have Y := RX.set (.slice V.xr V.nr V.cr) (.slice V.xf V.nf V.cf) (.slice y m d) (.int .i64 A.2.1) (.int .i64 A.2.2) (.slice V.xk V.nk V.ck) (.int .i64 s.ka)
  have BF := below_set7 BX.out (Nat.le_add_right _ 1) (.slice V.xr V.nr V.cr) (.slice V.xf V.nf V.cf) (.slice y m d) (.int .i64 A.2.1) (.int .i64 A.2.2) (.slice V.xk V.nk V.ck) (.int .i64 s.ka)
  generalize set7 WX (w.heap.size + 1) (.slice V.xr V.nr V.cr) (.slice V.xf V.nf V.cf) (.slice y m d) (.int .i64 A.2.1) (.int .i64 A.2.2) (.slice V.xk V.nk V.ck) (.int .i64 s.ka) = WF at G2 Y BF ⊢
  have s1 := SZ.out
  have s2 := Sw.out
  have s3 := G1.out.size
  have s4 := G2.size
  have HK : KeptB (fun k => k < W1.heap.size) w1 WF := (KeptB.of_grown G1.out (show w.heap.size < W1.heap.size by omega)).trans (KeptB.of_grown G2 (show w.heap.size + 1 < W1.heap.size by omega))
  obtain ⟨d0, d1, d2, d3, d4, d5, d6⟩ := Y.cells
  refine bodyPost_ret (v := .tuple #[.agg #[.slice V.xr V.nr V.cr, .slice V.xf V.nf V.cf, .slice y m d, .int .i64 A.2.1, .int .i64 A.2.2, .slice V.xk V.nk V.ck, .int .i64 s.ka], .bool ok]) (by simp [results, Tryz.results116, go_sem, d0, d1, d2, d3, d4, d5, d6]) rfl ?_
  exact ⟨y, m, d, rfl, ownsRow_base (ownsRow_keptB O.out HK (fun k e q => by have := (World.ownsRow.lt O.out k e).1; omega)) (by omega), BF⟩

set_option maxRecDepth 100000 in
set_option maxHeartbeats 4000000 in
theorem imWithK_at (w : World) (V : SV) (s : Sm) (x : Option Addr) (n c : Nat) (ps : List K.Pr) (al : Int) (h : RdS w V s) (hu : K.Prs w (.slice x n c) ps) :
    Calls Tryz.prog 116 #[.agg #[.slice V.xr V.nr V.cr, .slice V.xf V.nf V.cf, .slice V.xt V.nt V.ct, .int .i64 s.lo, .int .i64 s.al, .slice V.xk V.nk V.ck, .int .i64 s.ka], .iface 37 (.agg #[.slice x n c, .int .i64 al])] w fun e w' => ∃ y m d, e = .returned (.tuple #[.agg #[.slice V.xr V.nr V.cr, .slice V.xf V.nf V.cf, .slice V.xt V.nt V.ct, .int .i64 s.lo, .int .i64 s.al, .slice y m d, .int .i64 (K.joinK s.ks s.ka ps al).2], .bool (K.joinOkK s.ks s.ka ps al)]) ∧ K.OwnP w' w.heap.size (.slice y m d) (K.joinK s.ks s.ka ps al).1 ∧ Below w.heap.size w w' := by
  have I1 := fun w => (ask_K (.agg #[.slice x n c, .int .i64 al]) w).1
  have I2 := fun w => (ask_K (.agg #[.slice x n c, .int .i64 al]) w).2.1
  have I3 := fun w => (ask_K (.agg #[.slice x n c, .int .i64 al]) w).2.2.1
  have I4 := fun w => (ask_K (.agg #[.slice x n c, .int .i64 al]) w).2.2.2
  have hA := ((((Below.refl w.heap.size w).alloc (Nat.le_refl _) (.cells #[.slice V.xr V.nr V.cr, .slice V.xf V.nf V.cf, .slice V.xt V.nt V.ct, .int .i64 s.lo, .int .i64 s.al, .slice V.xk V.nk V.ck, .int .i64 s.ka] 39)).alloc (by simp) (.cells #[.slice none 0 0, .slice none 0 0, .slice none 0 0, .int .i64 0, .int .i64 0, .slice none 0 0, .int .i64 0] 39)).alloc (by simp; omega) (.cells #[.slice x n c, .int .i64 al] 37))
  have X := ((Box7.new w 39 (.slice V.xr V.nr V.cr) (.slice V.xf V.nf V.cf) (.slice V.xt V.nt V.ct) (.int .i64 s.lo) (.int .i64 s.al) (.slice V.xk V.nk V.ck) (.int .i64 s.ka)).alloc (.cells #[.slice none 0 0, .slice none 0 0, .slice none 0 0, .int .i64 0, .int .i64 0, .slice none 0 0, .int .i64 0] 39)).alloc (.cells #[.slice x n c, .int .i64 al] 37)
  have R := (Box7.new (w.alloc (.cells #[.slice V.xr V.nr V.cr, .slice V.xf V.nf V.cf, .slice V.xt V.nt V.ct, .int .i64 s.lo, .int .i64 s.al, .slice V.xk V.nk V.ck, .int .i64 s.ka] 39)) 39 (.slice none 0 0) (.slice none 0 0) (.slice none 0 0) (.int .i64 0) (.int .i64 0) (.slice none 0 0) (.int .i64 0)).alloc (.cells #[.slice x n c, .int .i64 al] 37)
  rw [World.size_alloc] at R
  have D := K.Box2.new ((w.alloc (.cells #[.slice V.xr V.nr V.cr, .slice V.xf V.nf V.cf, .slice V.xt V.nt V.ct, .int .i64 s.lo, .int .i64 s.al, .slice V.xk V.nk V.ck, .int .i64 s.ka] 39)).alloc (.cells #[.slice none 0 0, .slice none 0 0, .slice none 0 0, .int .i64 0, .int .i64 0, .slice none 0 0, .int .i64 0] 39)) 37 (.slice x n c) (.int .i64 al)
  rw [World.size_alloc, World.size_alloc] at D
  obtain ⟨ax0, ax1, ax2, ax3, ax4, ax5, ax6⟩ := (X).cells
  have ad0 := (D).cell0
  have ad1 := (D).cell1
  obtain ⟨W1, hW⟩ : ∃ W, W = ((w.alloc (.cells #[.slice V.xr V.nr V.cr, .slice V.xf V.nf V.cf, .slice V.xt V.nt V.ct, .int .i64 s.lo, .int .i64 s.al, .slice V.xk V.nk V.ck, .int .i64 s.ka] 39)).alloc (.cells #[.slice none 0 0, .slice none 0 0, .slice none 0 0, .int .i64 0, .int .i64 0, .slice none 0 0, .int .i64 0] 39)).alloc (.cells #[.slice x n c, .int .i64 al] 37) := ⟨_, rfl⟩
  rw [← hW] at hA X R D
  have S : Hid (RdS W1 V s) := Lib.hid (h.below hA (Nat.le_refl _))
  have P := Lib.hid (hu.below hA (Nat.le_refl _))
  have B := Lib.hid hA
  have SZ0 : Hid (w.heap.size + 2 ≤ W1.heap.size) := by show _ ≤ _; rw [hW]; simp
  clear hA h hu
  have KA := K.imRankJoin_at W1 (.slice V.xk V.nk V.ck) (.slice x n c) s.ks s.ka ps al S.out.k P.out
  generalize K.joinK s.ks s.ka ps al = A at KA ⊢
  generalize K.joinOkK s.ks s.ka ps al = ok at KA ⊢
  go_enter Tryz.func116, Tryz.ntmps116
  go_wp2_with fail
  rw [← hW]
  clear hW ax0 ax1 ax2 ax3 ax4 ax5 ax6 ad0 ad1
  refine (KA).mono ?_
  rintro e w1 ⟨v, rfl, ho, hb⟩
  obtain ⟨y, d, rfl⟩ := ho.form'
  obtain ⟨m, hm⟩ : ∃ m, m = (A.1).length := ⟨_, rfl⟩
  rw [← hm] at ho ⊢
  have Sw0 := Lib.hid hb.size
  clear hm KA
  clear S
  clear P
  clear D
  replace X := X.later hb
  replace R := R.later hb
  replace B := Lib.hid (B.out.trans (hb.mono B.out.size))
  have O := Lib.hid (ho)
  clear hb
  obtain ⟨cx0, cx1, cx2, cx3, cx4, cx5, cx6⟩ := (X).cells
  obtain ⟨cr0, cr1, cr2, cr3, cr4, cr5, cr6⟩ := (R).cells
  have frx := X.free
  have frr := R.free
  clear ho
  have Y := X
  replace Y := Y.set5 (.slice y m d)
  replace Y := Y.set6 (.int .i64 A.2)
  obtain ⟨y0, y1, y2, y3, y4, y5, y6⟩ := Y.cells
  clear Y
  have G1 := Lib.hid (grownBy_trans (grownBy_setCell w1 ⟨w.heap.size, 5, none⟩ (.slice y m d)) (grownBy_setCell _ ⟨w.heap.size, 6, none⟩ (.int .i64 A.2)))
  have BX : Hid (Below w.heap.size w (((w1.setCell ⟨w.heap.size, 5, none⟩ (.slice y m d)).setCell ⟨w.heap.size, 6, none⟩ (.int .i64 A.2)))) := Lib.hid (((B.out.setCell (Nat.le_refl _) _).setCell (Nat.le_refl _) _))
  have RX := R.kept G1.out (by simp)
  have SZ : Hid (w.heap.size + 2 ≤ W1.heap.size) := SZ0
  have Sw : Hid (W1.heap.size ≤ w1.heap.size) := Sw0
  clear X R B
  go_wp2
  show bodyPost _ _ _ _ _ (set7 ((w1.setCell ⟨w.heap.size, 5, none⟩ (.slice y m d)).setCell ⟨w.heap.size, 6, none⟩ (.int .i64 A.2)) (w.heap.size + 1) (.slice V.xr V.nr V.cr) (.slice V.xf V.nf V.cf) (.slice V.xt V.nt V.ct) (.int .i64 s.lo) (.int .i64 s.al) (.slice y m d) (.int .i64 A.2))
  generalize ((w1.setCell ⟨w.heap.size, 5, none⟩ (.slice y m d)).setCell ⟨w.heap.size, 6, none⟩ (.int .i64 A.2)) = WX at G1 BX RX ⊢
  have G2 := set7_grown WX (w.heap.size + 1) (.slice V.xr V.nr V.cr) (.slice V.xf V.nf V.cf) (.slice V.xt V.nt V.ct) (.int .i64 s.lo) (.int .i64 s.al) (.slice y m d) (.int .i64 A.2)
  have Y := RX.set (.slice V.xr V.nr V.cr) (.slice V.xf V.nf V.cf) (.slice V.xt V.nt V.ct) (.int .i64 s.lo) (.int .i64 s.al) (.slice y m d) (.int .i64 A.2)
  have BF := below_set7 BX.out (Nat.le_add_right _ 1) (.slice V.xr V.nr V.cr) (.slice V.xf V.nf V.cf) (.slice V.xt V.nt V.ct) (.int .i64 s.lo) (.int .i64 s.al) (.slice y m d) (.int .i64 A.2)
  generalize set7 WX (w.heap.size + 1) (.slice V.xr V.nr V.cr) (.slice V.xf V.nf V.cf) (.slice V.xt V.nt V.ct) (.int .i64 s.lo) (.int .i64 s.al) (.slice y m d) (.int .i64 A.2) = WF at G2 Y BF ⊢
  have s1 := SZ.out
  have s2 := Sw.out
  have s3 := G1.out.size
  have s4 := G2.size
  have HK : KeptB (fun k => k < W1.heap.size) w1 WF := (KeptB.of_grown G1.out (show w.heap.size < W1.heap.size by omega)).trans (KeptB.of_grown G2 (show w.heap.size + 1 < W1.heap.size by omega))
  obtain ⟨d0, d1, d2, d3, d4, d5, d6⟩ := Y.cells
  refine bodyPost_ret (v := .tuple #[.agg #[.slice V.xr V.nr V.cr, .slice V.xf V.nf V.cf, .slice V.xt V.nt V.ct, .int .i64 s.lo, .int .i64 s.al, .slice y m d, .int .i64 A.2], .bool ok]) (by simp [results, Tryz.results116, go_sem, d0, d1, d2, d3, d4, d5, d6]) rfl ?_
  exact ⟨y, m, d, rfl, ownsRow_base (ownsRow_keptB O.out HK (fun k e q => by have := (World.ownsRow.lt O.out k e).1; omega)) (by omega), BF⟩


end Go.Proofs.YtnoilafoeaknjaaGreat
