/-
  Several texts in one: KDraw, KDraw2.
-/
import Derived.Test.YtnoilafoeaknjaaKThings
import Derived.Test.YtnoilafoeaknjaaKb
import Derived.Test.YtnoilafoeaknjaaKe
import Derived.Deep.RegionWith
import Derived.Deep.RegionLaw
import Derived.Deep.DeepCutAuto
set_option linter.unusedVariables false
/-
  Knots, drawn: l71Rank.
-/
namespace Go.Proofs.Ytnoilafoeaknjaa.K
open Go.RowKit Go.Sort

theorem OwnP.drew {w : World} {B : Nat} {v : Value} {ps : List Pr} (h : OwnP w B v ps) : OwnP w.drew B v ps := World.ownsRow.drew h
structure DrawnK (w : World) (N a : Nat) (pos : Int) (v : Value) (all : Int) (ps : List Pr) : Prop where
  own : OwnP w (N + 2) v ps
  al : 0 ≤ all ∧ all ≤ 2001
  rd : Rd w a pos
  box : Box2 w (N + 1) 34 v (.int .i64 all)
  res : Box2 w N 34 (.slice none 0 0) (.int .i64 0)
section
variable {w w' : World} {N a : Nat} {pos pos' all all' : Int} {v v' : Value} {ps ps' : List Pr}
theorem DrawnK.drew (h : DrawnK w N a pos v all ps) : DrawnK w.drew N a pos v all ps := ⟨World.ownsRow.drew h.own, h.al, h.rd, h.box, h.res⟩
theorem DrawnK.alloc (h : DrawnK w N a pos v all ps) (o : Obj) : DrawnK (w.alloc o) N a pos v all ps := ⟨h.own.alloc o, h.al, h.rd.alloc o, h.box.alloc o, h.res.alloc o⟩
theorem DrawnK.else_ (h : DrawnK w N a pos v all ps) (hg : Else a w w') (hr : Rd w' a pos') (ha : a < N) : DrawnK w' N a pos' v all ps :=
  ⟨h.own.kept hg (fun k e => by cases e; omega), h.al, hr, h.box.kept hg (by simp; omega), h.res.kept hg (by simp; omega)⟩
theorem DrawnK.put (h : DrawnK w N a pos v all ps) (hb : Below w.heap.size w w') (ho : OwnP w' w.heap.size v' ps') (hal : 0 ≤ all' ∧ all' ≤ 2001) (ha : a < N) :
    DrawnK ((w'.setCell ⟨N + 1, 0, none⟩ v').setCell ⟨N + 1, 1, none⟩ (.int .i64 all')) N a pos v' all' ps' := by
  have l1 := h.box.lt
  have g0 := grownBy_setCell w' ⟨N + 1, 0, none⟩ v'
  have g1 := grownBy_setCell (w'.setCell ⟨N + 1, 0, none⟩ v') ⟨N + 1, 1, none⟩ (.int .i64 all')
  have gg := grownBy_trans g0 g1
  exact ⟨(ho.kept gg (fun k e => by simp at e; omega)).base (by omega), hal, ((h.rd.below hb (Nat.le_refl _)).grown gg (fun k e => by simp at e; omega)), (h.box.later hb).set _ _,
    (h.res.later hb).kept gg (by simp)⟩
/-- Another list at the box. -/
theorem DrawnK.set0 (h : DrawnK w N a pos v all ps) (ho : OwnP w (N + 2) v' ps') (ha : a < N) : DrawnK (w.setCell ⟨N + 1, 0, none⟩ v') N a pos v' all ps' := by
  have g0 := grownBy_setCell w ⟨N + 1, 0, none⟩ v'
  exact ⟨ho.kept g0 (fun k e => by simp at e; omega), h.al, h.rd.grown g0 (fun k e => by simp at e; omega), h.box.set0 _, h.res.kept g0 (by simp)⟩
/-- Another number at the box. -/
theorem DrawnK.set1 (h : DrawnK w N a pos v all ps) (hal : 0 ≤ all' ∧ all' ≤ 2001) (ha : a < N) : DrawnK (w.setCell ⟨N + 1, 1, none⟩ (.int .i64 all')) N a pos v all' ps := by
  have g0 := grownBy_setCell w ⟨N + 1, 1, none⟩ (.int .i64 all')
  exact ⟨h.own.kept g0 (fun k e => by simp at e; omega), hal, h.rd.grown g0 (fun k e => by simp at e; omega), h.box.set1 _, h.res.kept g0 (by simp)⟩
/-- An append to a list of its own. -/
theorem DrawnK.app {row : Option Nat} (h : DrawnK w N a pos v all ps) (hg : w.grownBy w' row) (hr : ∀ k, row = some k → N + 2 ≤ k) (ha : a < N) (ho : OwnP w' (N + 2) v' ps') : DrawnK (w'.setCell ⟨N + 1, 0, none⟩ v') N a pos v' all ps' := by
  have g0 := grownBy_setCell w' ⟨N + 1, 0, none⟩ v'
  have X := h.box.kept hg (fun e => by have := hr _ e; omega)
  have Y := h.res.kept hg (fun e => by have := hr _ e; omega)
  exact ⟨ho.kept g0 (fun k e => by simp at e; omega), h.al, (h.rd.grown hg (fun k e => by have := hr k e; omega)).grown g0 (fun k e => by simp at e; omega), X.set0 _, Y.kept g0 (by simp)⟩
end
theorem addK_all (ps : List Pr) (all t : Int) (h0 : 0 ≤ all) : 0 ≤ (addK ps all t).2 ∧ (addK ps all t).2 ≤ 2000 := by
  cases h : addOkK ps all t with
  | false => rw [addK_no h]; simp
  | true =>
    rw [addK_yes h]
    have := (addOkK_yes h).2.2
    simp only
    omega

theorem else_grown {a : Nat} {w W w' : World} {row : Option Nat} (h : Else a w W) (hg : W.grownBy w' row) (hr : ∀ k, row = some k → w.heap.size ≤ k) : Else a w w' :=
  ⟨hg.os.trans h.os, hg.tape.trans h.tape, hg.output.trans h.output, Nat.le_trans h.size hg.size, fun k hk hne =>
    (hg.block k (Nat.lt_of_lt_of_le hk h.size) (fun e => by have := hr k e.symm; omega)).trans (h.block k hk hne)⟩
/-- What the drawing leaves. -/
def DrawnRank (w : World) (a : Nat) (p : Int) (w' : World) (v : Value) (all : Int) : Prop :=
  ∃ ps q, OwnP w' w.heap.size v ps ∧ ps.length ≤ 128 ∧ (0 ≤ all ∧ all ≤ 2001) ∧ p ≤ q ∧ q ≤ p + 90 ∧ Rd w' a q ∧ Else a w w'

theorem rank_end {w w3 : World} {a : Nat} {p q all : Int} {v : Value} {ps : List Pr} (D : DrawnK w3 w.heap.size a q v all ps) (len : ps.length ≤ 128) (q0 : p ≤ q) (q1 : q ≤ p + 90) (E : Else a w w3) (ha : a < w.heap.size) :
    DrawnRank w a p ((w3.setCell ⟨w.heap.size, 0, none⟩ v).setCell ⟨w.heap.size, 1, none⟩ (.int .i64 all)) v all := by
  have g0 := grownBy_setCell w3 ⟨w.heap.size, 0, none⟩ v
  have g1 := grownBy_setCell (w3.setCell ⟨w.heap.size, 0, none⟩ v) ⟨w.heap.size, 1, none⟩ (.int .i64 all)
  have gg := grownBy_trans g0 g1
  exact ⟨ps, q, (D.own.kept gg (fun k e => by simp at e; omega)).base (by omega), len, D.al, q0, q1, D.rd.grown gg (fun k e => by simp at e; omega), (E.set (i := 0) (Nat.le_refl _) _).set (i := 1) (Nat.le_refl _) _⟩

/-- The three knots that may come behind. -/
def knV (k : Int) : Int := ([127, 128, 5] : List Int).getD k.toNat 0
theorem kn_cases {k : Int} (h0 : 0 ≤ k) (h1 : k < 3) : k = 0 ∨ k = 1 ∨ k = 2 := by omega
theorem kn_get {k : Int} (h0 : 0 ≤ k) (h1 : k < 3) : (#[.int .i64 127, .int .i64 128, .int .i64 5] : Array Value)[k.toNat]? = some (.int .i64 (knV k)) := by
  rcases kn_cases h0 h1 with rfl | rfl | rfl <;> rfl
theorem kn_at {k : Int} (h0 : 0 ≤ k) (h1 : k < 3) : ∀ h, ([.int .i64 127, .int .i64 128, .int .i64 5] : List Value)[k.toNat]'h = .int .i64 (knV k) := by
  rcases kn_cases h0 h1 with rfl | rfl | rfl <;> exact fun _ => rfl
theorem pr_one (w : World) (t m : Int) : Prs (w.alloc (.cells #[.int .i64 t, .int .i64 m] 85)) (.slice (some ⟨w.heap.size, 0, none⟩) 1 1) [(t, m)] := by
  refine .inr ⟨w.heap.size, 0, 1, rfl, by simp, by simp [maxLen], by simp, fun i hi => ?_⟩
  obtain rfl : i = 0 := by simpa using hi
  simp [pr]
theorem own_one (w : World) (B : Nat) (t m : Int) (hB : B ≤ w.heap.size) : OwnP (w.alloc (.cells #[.int .i64 t, .int .i64 m] 85)) B (.slice (some ⟨w.heap.size, 0, none⟩) 1 1) [(t, m)] :=
  World.ownsRow_lit (base := B) (e := 85) (size := 2) w #[.int .i64 t, .int .i64 m] 1 hB (by simp [maxLen]) (by simp)

theorem pr_two (w : World) (t : Int) : Prs ((w.alloc (.cells #[.int .i64 127, .int .i64 128, .int .i64 5] 3)).alloc (.cells #[.int .i64 t, .int .i64 1] 85)) (.slice (some ⟨w.heap.size + 1, 0, none⟩) 1 1) [(t, 1)] := by
  have h := pr_one (w.alloc (.cells #[.int .i64 127, .int .i64 128, .int .i64 5] 3)) t 1
  rwa [World.size_alloc] at h
theorem lit_kept {w2 w3 : World} {a : Nat} {k : Int} (hg : (w2.alloc (.cells #[.int .i64 127, .int .i64 128, .int .i64 5] 3)).drew.grownBy w3 (some a)) (ha : a < w2.heap.size) (h0 : 0 ≤ k) (h1 : k < 3) : w3.cell? ⟨w2.heap.size, k.toNat, none⟩ = some (.int .i64 (knV k)) := by
  have e : w3.heap[w2.heap.size]? = some (.cells #[.int .i64 127, .int .i64 128, .int .i64 5] 3 (0, 0)) := by
    rw [hg.block w2.heap.size (by simp) (by simp; omega)]
    exact heap_alloc_new w2 _
  rw [cell_of_row w3 w2.heap.size k.toNat _ _ _ e]
  exact kn_get h0 h1

set_option maxRecDepth 100000 in
set_option maxHeartbeats 8000000 in
theorem rank_at (w : World) (a : Nat) (p : Int) (h : Rd w a p) (hp : 0 ≤ p) (hp' : p ≤ 50000) :
    Calls Try.prog 36 #[.pointer (some ⟨a, 0, none⟩)] w fun e w' => ∃ v all, e = .returned (.agg #[v, .int .i64 all]) ∧ DrawnRank w a p w' v all := by
  have HR := Lib.hid h
  have hlt := h.lt
  obtain ⟨W0, hW0⟩ : ∃ W0, W0 = (w.alloc (.cells #[.slice none 0 0, .int .i64 0] 34)).alloc (.cells #[.slice none 0 0, .int .i64 0] 34) := ⟨_, rfl⟩
  have D0 : Hid (DrawnK W0 w.heap.size a p (.slice none 0 0) 0 []) := by
    rw [hW0]
    refine ⟨OwnP.nil _ _, by omega, (HR.out.alloc _).alloc _, ?_, (Box2.new _ _ _ _).alloc _⟩
    have h := Box2.new (w.alloc (.cells #[.slice none 0 0, .int .i64 0] 34)) 34 (.slice none 0 0) (.int .i64 0)
    simpa using h
  have E0 : Hid (Else a w W0) := by rw [hW0]; exact grownBy_alloc' (World.grownBy_alloc w _ _) _
  have S0 : Hid (W0.heap.size = w.heap.size + 2) := by show _ = _; rw [hW0]; simp
  have HW0 := Lib.hid hW0
  clear h hW0
  go_enter Try.func36, Try.ntmps36
  go_wp2_with fail
  rw [← HW0.out]
  go_wp2_with fail
  refine (things_at W0 a p 40 D0.out.rd hp (by omega) (by omega) (by omega)).mono ?_
  rintro e w2 ⟨u, rfl, zs, q, ho, hzl, q0, q1, hr2, he2⟩
  have D2 := Lib.hid (D0.out.else_ he2 hr2 hlt)
  have E2 := Lib.hid (E0.out.trans he2)
  rw [S0.out] at ho
  obtain ⟨y, cy, rfl⟩ := ho.form
  obtain ⟨nz, hnz⟩ : ∃ nz, nz = zs.length := ⟨_, rfl⟩
  rw [← hnz] at ho hzl ⊢
  have NZ := Lib.hid hnz
  have OL := Lib.hid ho
  clear ho hr2 he2 D0 E0 HW0 hnz
  go_wp2
  go_loopw [5] (fun i wr => ∃ (j : Nat) (v : Value) (all : Int) (ps : List Pr), i = .int .i64 j ∧ j ≤ nz ∧ DrawnK wr w.heap.size a q v all ps ∧ all ≤ 2000 ∧ ps.length ≤ 127 ∧ OwnL wr (w.heap.size + 2) (.slice y nz cy) zs ∧ Else a w wr) (fun i _ => nz - (intOf i).toNat)
  case atStart => exact ⟨0, .slice none 0 0, 0, [], rfl, Nat.zero_le _, D2.out, by omega, by simp, OL.out, E2.out⟩
  case round =>
    clear D2 E2 OL
    obtain ⟨j, v, all, ps, rfl, hj, hd, hal2, hlen, hol, he⟩ := hrel
    obtain ⟨x, c, rfl, _, _⟩ := hd.own.form
    have HD := Lib.hid hd
    have HE := Lib.hid he
    have HL := Lib.hid hol
    have b0 := hd.box.cell0
    have b1 := hd.box.cell1
    have hal0 := hd.al.1
    clear hd he hol
    by_cases hlt2 : j < nz
    · obtain ⟨g, rfl, _, hg, hz⟩ := HL.out.at j (by rw [← NZ.out]; exact hlt2)
      generalize zs.getD j 0 = t at hz
      have KA := Lib.hid (spRankAdd_at wr.drew _ ps all t (show Prs wr.drew _ ps from HD.out.own.rd))
      have BD := Lib.hid (addK_all ps all t hal0)
      have LN := Lib.hid (addK_len ps all t)
      obtain ⟨T, hT⟩ : ∃ T, T = addK ps all t := ⟨_, rfl⟩
      rw [← hT] at KA BD LN
      have j0 : (0 : Int) ≤ (j : Int) := by omega
      have jn : (j : Int) < (nz : Int) := by omega
      obtain ⟨qs, al2⟩ := T
      simp only at KA BD LN
      clear hT
      obtain ⟨n, hn⟩ : ∃ n, n = ps.length := ⟨_, rfl⟩
      rw [← hn] at b0 KA
      have HN := Lib.hid hn
      clear hn
      go_wp2_with fail
      go_region_with (first
        | (go_at_call 81; refine KA.out.mono ?_; rintro e w5 ⟨v5, rfl, ho5, hb5⟩; obtain ⟨x5, c5, rfl, _, _⟩ := ho5.form; have D5 := Lib.hid (HD.out.drew.put hb5 ho5 ⟨BD.out.1, by have := BD.out.2; omega⟩ hlt); have E5 := Lib.hid (Else.below (a := a) (w1 := wr) HE.out ((Below.drew (Below.refl _ _)).trans hb5)); have L5 := Lib.hid (OwnL.below (show OwnL wr.drew _ _ zs from HL.out) hb5); have X5 := HD.out.drew.box.later hb5; have y0 := X5.cell0; have y1 := X5.cell1; have f5 := X5.free))
      all_goals
        clear X5 y0 y1 f5 ho5 hb5
        have L6 := Lib.hid ((L5.out.kept (grownBy_setCell w5 ⟨w.heap.size + 1, 0, none⟩ (.slice x5 qs.length c5)) (fun k e => by simp at e; omega)).kept (grownBy_setCell _ ⟨w.heap.size + 1, 1, none⟩ (.int .i64 al2)) (fun k e => by simp at e; omega))
        have E6 := Lib.hid ((E5.out.set (R := w.heap.size + 1) (i := 0) (Nat.le_succ _) (.slice x5 qs.length c5)).set (R := w.heap.size + 1) (i := 1) (Nat.le_succ _) (.int .i64 al2))
        clear L5 E5
        go_wp2
        go_roundw
        case rel => exact ⟨j + 1, .slice x5 qs.length c5, al2, qs, by go_num, by omega, D5.out, BD.out.2, LN.out, L6.out, E6.out⟩
        case measure => simp [intOf]; omega
    · obtain rfl : j = nz := by omega
      go_wp2_with fail
      refine (pick_at _ a q 24 HD.out.rd (by omega) (by omega) (by omega) (by omega)).mono ?_
      rintro e w2 ⟨k, rfl, k0, k1, hr2, hg2⟩
      have D2 := Lib.hid (HD.out.else_ hg2 hr2 hlt)
      have E2 := Lib.hid (HE.out.trans hg2)
      obtain ⟨n, hn⟩ : ∃ n, n = ps.length := ⟨_, rfl⟩
      rw [← hn] at D2 b0 hlen
      have HN := Lib.hid hn
      have x0 := D2.out.box.cell0
      have x1 := D2.out.box.cell1
      have fx := D2.out.box.free
      have r0 := D2.out.res.cell0
      have r1 := D2.out.res.cell1
      have fr := D2.out.res.free
      clear hr2 hg2 HD HE b0 b1 hn HL
      rcases (by omega : k = 0 ∨ k = 1 ∨ k = 2 ∨ 3 ≤ k) with rfl | rfl | rfl | hk
      · clear k0 k1
        have DA := D2.out.set1 (all' := all + 1) (by omega) hlt
        have EA := E2.out.set (R := w.heap.size + 1) (i := 1) (Nat.le_succ _) (.int .i64 (all + 1))
        have FIN := Lib.hid (rank_end (p := p) DA (by rw [← HN.out]; omega) (by omega) (by omega) EA hlt)
        have RZ := DA.res.set (.slice x n c) (.int .i64 (all + 1))
        have hr0 := RZ.cell0
        have hr1 := RZ.cell1
        have y0 := DA.box.cell0
        have y1 := DA.box.cell1
        have s0 := DA.res.cell0
        have s1 := DA.res.cell1
        have fs := DA.res.free
        clear DA EA RZ
        go_wp2
        exact bodyPost_ret (v := .agg #[.slice x n c, .int .i64 (all + 1)]) (by simp [results, Try.results36, go_sem, hr0, hr1]) rfl ⟨_, _, rfl, FIN.out⟩
      · clear k0 k1
        go_upto_region 11 with fail
        go_cut [43] (fun v wx => ∃ y c' ps', v = .slice y (n + 1) c' ∧ ps'.length = n + 1 ∧ DrawnK wx w.heap.size a (q + 1 + 1) (.slice y (n + 1) c') all ps' ∧ Else a w wx)
        case first =>
          have HDD := Lib.hid D2.out.drew
          have HDA := Lib.hid (D2.out.alloc (.cells #[.int .i64 127, .int .i64 128, .int .i64 5] 3)).drew
          have EDD : Hid (∀ w3, Else a w2.drew w3 → Else a w w3) := fun w3 h => E2.out.trans (grownBy_of_drew h)
          have EDA : Hid (∀ w3, Else a (w2.alloc (.cells #[.int .i64 127, .int .i64 128, .int .i64 5] 3)).drew w3 → Else a w w3) := fun w3 h => (grownBy_alloc' E2.out (.cells #[.int .i64 127, .int .i64 128, .int .i64 5] 3)).trans (grownBy_of_drew h)
          have xa0 := (D2.out.alloc (.cells #[.int .i64 127, .int .i64 128, .int .i64 5] 3)).box.cell0
          have SW : Hid (w.heap.size + 1 < w2.heap.size) := D2.out.box.lt
          go_region_law ((first
            | (go_simp; go_at_call 35; (first
                | ((with_reducible refine (pick_at _ a (q + 1) 3 HDD.out.rd (by omega) (by omega) (by omega) (by omega)).mono ?_); rintro e w3 ⟨k3, rfl, k30, k31, hr3, hg3⟩; have D3 := Lib.hid (HDD.out.else_ hg3 hr3 hlt); have E3 := Lib.hid (EDD.out w3 hg3))
                | ((with_reducible refine (pick_at _ a (q + 1) 3 HDA.out.rd (by omega) (by omega) (by omega) (by omega)).mono ?_); rintro e w3 ⟨k3, rfl, k30, k31, hr3, hg3⟩; have D3 := Lib.hid (HDA.out.else_ hg3 hr3 hlt); have E3 := Lib.hid (EDA.out w3 hg3); have nc := lit_kept hg3 D2.out.rd.lt k30 k31));
               have sg := kn_get k30 k31; have sa := kn_at k30 k31; have u0 := D3.out.box.cell0; have ua := (D3.out.alloc (.cells #[.int .i64 (knV k3), .int .i64 1] 85)).box.cell0; have ul := (D3.out.alloc (.cells #[.int .i64 127, .int .i64 128, .int .i64 5] 3)).box.cell0; have ulp := ((D3.out.alloc (.cells #[.int .i64 127, .int .i64 128, .int .i64 5] 3)).alloc (.cells #[.int .i64 (knV k3), .int .i64 1] 85)).box.cell0; have S3 : Hid (w.heap.size + 1 < w3.heap.size) := D3.out.box.lt)
            | ((first
                | (refine step_append_prs rfl _ _ (by rfl) (w.heap.size + 2) n 1 (n + 1) _ _ ps [(knV k3, 1)] (by rfl) (by rfl) (D3.out.own.alloc (.cells #[.int .i64 (knV k3), .int .i64 1] 85)) (pr_one w3 (knV k3) 1) (by rw [← HN.out]; omega) (by simp) HN.out rfl rfl (by have := S3.out; simp; omega) ?_; intro y2 c2 w5 ho5 hg5; have X5 := (D3.out.alloc (.cells #[.int .i64 (knV k3), .int .i64 1] 85)).box.kept hg5 (D3.out.box.not_row (by decide) D3.out.own); have D5 := Lib.hid ((D3.out.alloc (.cells #[.int .i64 (knV k3), .int .i64 1] 85)).app hg5 (fun k e => (World.ownsRow.lt D3.out.own k e).1) hlt ho5); have E5 := Lib.hid (else_grown (grownBy_alloc' E3.out (.cells #[.int .i64 (knV k3), .int .i64 1] 85)) hg5 (fun k e => by have := (World.ownsRow.lt D3.out.own k e).1; omega)))
                | (refine step_append_prs rfl _ _ (by rfl) (w.heap.size + 2) n 1 (n + 1) _ _ ps [(knV k3, 1)] (by rfl) (by rfl) ((D3.out.own.alloc (.cells #[.int .i64 127, .int .i64 128, .int .i64 5] 3)).alloc (.cells #[.int .i64 (knV k3), .int .i64 1] 85)) (pr_two w3 (knV k3)) (by rw [← HN.out]; omega) (by simp) HN.out rfl rfl (by have := S3.out; simp; omega) ?_; intro y2 c2 w5 ho5 hg5; have X5 := ((D3.out.alloc (.cells #[.int .i64 127, .int .i64 128, .int .i64 5] 3)).alloc (.cells #[.int .i64 (knV k3), .int .i64 1] 85)).box.kept hg5 (D3.out.box.not_row (by decide) D3.out.own); have D5 := Lib.hid (((D3.out.alloc (.cells #[.int .i64 127, .int .i64 128, .int .i64 5] 3)).alloc (.cells #[.int .i64 (knV k3), .int .i64 1] 85)).app hg5 (fun k e => (World.ownsRow.lt D3.out.own k e).1) hlt ho5); have E5 := Lib.hid (else_grown (grownBy_alloc' (grownBy_alloc' E3.out (.cells #[.int .i64 127, .int .i64 128, .int .i64 5] 3)) (.cells #[.int .i64 (knV k3), .int .i64 1] 85)) hg5 (fun k e => by have := (World.ownsRow.lt D3.out.own k e).1; omega))));
               have v0 := X5.cell0; have fv := X5.free; clear ho5 hg5)))
          all_goals (go_wp2_with fail; go_meet)
          all_goals exact ⟨_, _, _, rfl, by have := HN.out; simp; omega, D5.out, E5.out.set (R := w.heap.size + 1) (i := 0) (Nat.le_succ _) _⟩
        case rest =>
          obtain ⟨y', c', ps', rfl, hl', hd', he'⟩ := hcut
          have al' := hd'.al
          have b1 := hd'.box.cell1
          have bf := hd'.box.free
          have D := Lib.hid (hd'.set1 (all' := all + 1) (by omega) hlt)
          have E := Lib.hid (he'.set (R := w.heap.size + 1) (i := 1) (Nat.le_succ _) (.int .i64 (all + 1)))
          clear hd' he' x0 x1 fx r0 r1 fr D2 E2
          have FIN := Lib.hid (rank_end (p := p) D.out (by omega) (by omega) (by omega) E.out hlt)
          have RZ := D.out.res.set (.slice y' (n + 1) c') (.int .i64 (all + 1))
          have hr0 := RZ.cell0
          have hr1 := RZ.cell1
          have y0 := D.out.box.cell0
          have y1 := D.out.box.cell1
          have s0 := D.out.res.cell0
          have s1 := D.out.res.cell1
          have fs := D.out.res.free
          clear RZ
          go_wp2
          exact bodyPost_ret (v := .agg #[.slice y' (n + 1) c', .int .i64 (all + 1)]) (by simp [results, Try.results36, go_sem, hr0, hr1]) rfl ⟨_, _, rfl, FIN.out⟩
      · clear k0 k1
        go_upto_region 14 with fail
        have HDD := Lib.hid D2.out.drew
        have EDD : Hid (∀ w3, Else a w2.drew w3 → Else a w w3) := fun w3 h => E2.out.trans (grownBy_of_drew h)
        go_region_law ((first
          | (go_simp; go_at_call 35; (first
              | ((with_reducible refine (pick_at _ a (q + 1) 3 HDD.out.rd (by omega) (by omega) (by omega) (by omega)).mono ?_); rintro e w3 ⟨k3, rfl, k30, k31, hr3, hg3⟩; have D3 := Lib.hid (HDD.out.else_ hg3 hr3 hlt); have E3 := Lib.hid (EDD.out w3 hg3); have u0 := D3.out.box.cell0)
              | ((with_reducible refine (pick_at _ a (q + 1 + 1) 9 D3.out.rd (by omega) (by omega) (by omega) (by omega)).mono ?_); rintro e w4 ⟨k4, rfl, k40, k41, hr4, hg4⟩; have D4 := Lib.hid (D3.out.else_ hg4 hr4 hlt); have E4 := Lib.hid (E3.out.trans hg4); have u1 := D4.out.box.cell0; have ua := (D4.out.alloc (.cells #[.int .i64 k3, .int .i64 (1 + k4)] 85)).box.cell0; have ws : IntKind.i64.wrap (1 + k4) = 1 + k4 := (IntWalk.i64_in _ (by omega)); have S4 : Hid (w.heap.size + 1 < w4.heap.size) := D4.out.box.lt)))
          | (refine step_append_prs rfl _ _ (by rfl) (w.heap.size + 2) 1 n (n + 1) _ _ [(k3, 1 + k4)] ps (by rfl) (by rfl) (own_one w4 (w.heap.size + 2) k3 (1 + k4) (by have := S4.out; omega)) (D4.out.own.alloc (.cells #[.int .i64 k3, .int .i64 (1 + k4)] 85)).rd (by simp) (by rw [← HN.out]; omega) rfl HN.out (by omega) (by have := S4.out; simp; omega) ?_; intro y2 c2 w5 ho5 hg5; have X5 := (D4.out.alloc (.cells #[.int .i64 k3, .int .i64 (1 + k4)] 85)).box.kept hg5 (by simp [Value.ownBlock]; have := S4.out; omega); have D5 := Lib.hid ((D4.out.alloc (.cells #[.int .i64 k3, .int .i64 (1 + k4)] 85)).app hg5 (fun k e => by simp [Value.ownBlock] at e; have := S4.out; omega) hlt ho5); have E5 := Lib.hid (else_grown (grownBy_alloc' E4.out (.cells #[.int .i64 k3, .int .i64 (1 + k4)] 85)) hg5 (fun k e => by simp [Value.ownBlock] at e; have := S4.out; omega)); have v0 := X5.cell0; have v1 := X5.cell1; have fv := X5.free; clear ho5 hg5)))
        all_goals
          have E := Lib.hid (E5.out.set (R := w.heap.size + 1) (i := 0) (Nat.le_succ _) (.slice y2 (n + 1) c2))
          have FIN := Lib.hid (rank_end (p := p) D5.out (by have := HN.out; simp; omega) (by omega) (by omega) E.out hlt)
          have RZ := D5.out.res.set (.slice y2 (n + 1) c2) (.int .i64 all)
          have hr0 := RZ.cell0
          have hr1 := RZ.cell1
          have y0 := D5.out.box.cell0
          have y1 := D5.out.box.cell1
          have s0 := D5.out.res.cell0
          have s1 := D5.out.res.cell1
          have fs := D5.out.res.free
          clear RZ X5 v0 v1 fv u0 u1 ua
          go_wp2
          exact bodyPost_ret (v := .agg #[.slice y2 (n + 1) c2, .int .i64 all]) (by simp [results, Try.results36, go_sem, hr0, hr1]) rfl ⟨_, _, rfl, FIN.out⟩
      · have e0 : (k == 0) = false := by simp; omega
        have e1 : (k == 1) = false := by simp; omega
        have e2 : (k == 2) = false := by simp; omega
        have FIN := Lib.hid (rank_end (p := p) D2.out (by rw [← HN.out]; omega) (by omega) (by omega) E2.out hlt)
        have RZ := D2.out.res.set (.slice x n c) (.int .i64 all)
        have hr0 := RZ.cell0
        have hr1 := RZ.cell1
        clear RZ
        go_wp2
        exact bodyPost_ret (v := .agg #[.slice x n c, .int .i64 all]) (by simp [results, Try.results36, go_sem, hr0, hr1]) rfl ⟨_, _, rfl, FIN.out⟩

end Go.Proofs.Ytnoilafoeaknjaa.K

/-
  What was counted most, drawn: alone, with a thing, and of two.
-/
namespace Go.Proofs.Ytnoilafoeaknjaa.K
open Go.RowKit Go.Sort

theorem bts_alloc' {w : World} {v : Value} {n : Nat} (h : Bts w w.heap.size v n) (o : Obj) : Bts (w.alloc o) (w.alloc o).heap.size v n := bts_below h ((Below.refl _ _).alloc (Nat.le_refl _) o)


/-- A drawn one, of the call's own. -/
structure DrK (w w' : World) (v : Value) (all : Int) (ps : List Pr) : Prop where
  own : OwnP w' w.heap.size v ps
  len : ps.length ≤ 130
  al : -10 ≤ all ∧ all ≤ 2010
  below : Below w.heap.size w w'

end Go.Proofs.Ytnoilafoeaknjaa.K
