/-
  The program's FewJoin: by the range over the marks of both.
-/
import Derived.Test.YteopnbjiffncbabBoth
import Derived.Maps.AppendAt
namespace Go.Proofs.Yteopnbjiffncbab
open Go.RowKit Go.Shelf

attribute [local go_sem] Oper.semAt_some

theorem marksOfBoth_at (w : World) (u v : Value) (x y : Option Addr) (n m c d : Nat) (hu : u = .slice x n c) (hv : v = .slice y m d) :
    Calls Try.prog 68 #[u, v] w fun e w' => e = .returned (.func (.func 72) #[] #[.pointer (some ⟨w.heap.size, 0, none⟩), .pointer (some ⟨w.heap.size + 1, 0, none⟩)]) ∧ w' = (w.alloc (.cells #[u] 41)).alloc (.cells #[v] 41) := by
  subst hu hv
  refine (callsIn_wide (n := 3)).1 ?_
  refine callsIn_of_wp Try.func68 rfl trivial ?_ rfl
  simp only [Try.ntmps68, List.size_toArray, List.length_cons, List.length_nil, Nat.reduceAdd, Nat.reduceSub, Array.replicate_succ, Array.replicate_zero, List.push_toArray, List.append_toArray, List.nil_append, List.cons_append]
  gi_wp2
  go_ret
  exact ⟨rfl, rfl⟩

theorem mem_get' {zs : List Int} {x : Int} : x ∈ zs ↔ ∃ i, i < zs.length ∧ zs.getD i 0 = x := by
  constructor
  · intro h
    obtain ⟨i, hi, rfl⟩ := List.getElem_of_mem h
    exact ⟨i, hi, by simp [hi]⟩
  · rintro ⟨i, hi, rfl⟩
    exact getD_mem zs i 0 hi

theorem both_stops (n : Nat) (hn : 1 ≤ n) (Ba Bb n₀ : Nat) (u v : Value) (zs ys : List Int) (hz : ∀ z ∈ zs, z < 64) (hy : ∀ z ∈ ys, z < 64) (w : World) (hBa : Ba < w.heap.size) (hBb : Bb < w.heap.size) (hn₀ : n₀ ≤ w.heap.size)
    (hA : w.cell? ⟨Ba, 0, none⟩ = some u) (hB : w.cell? ⟨Bb, 0, none⟩ = some v) (iA : InB n₀ w u zs) (iB : InB n₀ w v ys) :
    SeqStopsK Fence.wide n Try.prog 72 #[.pointer (some ⟨Ba, 0, none⟩), .pointer (some ⟨Bb, 0, none⟩)] (fun x : Int => #[Value.int .i64 x]) (Below n₀) (fun xs => xs = bothV zs ys) (fun pre => pre <+: bothV zs ys) (zs.length + ys.length) w := fun l J Jx W hW hJ _ hY h0 =>
  both1_in n hn l Ba Bb n₀ u v zs ys hz hy J Jx hY (fun s W1 h => hJ s W1 W1.drew none h ⟨rfl, rfl, rfl, Nat.le_refl _, fun _ _ _ => rfl⟩ (fun _ e => by cases e)) W ((hW.cell (p := ⟨Ba, 0, none⟩) hBa).trans hA) ((hW.cell (p := ⟨Bb, 0, none⟩) hBb).trans hB) (iA.below (hW.mono hn₀)) (iB.below (hW.mono hn₀)) h0

set_option maxRecDepth 100000 in
set_option maxHeartbeats 4000000 in
theorem imFewJoin_yes (w : World) (u v : Value) (zs ys : List Int) (ha : Ints w u zs) (hb : Ints w v ys) (oka : fewB zs = true) (okb : fewB ys = true) :
    Calls Try.prog 41 #[.agg #[u], .agg #[v]] w fun e w' => ∃ v', e = .returned (.tuple #[.agg #[v'], .bool true]) ∧ OwnI w' w.heap.size v' ((bothV zs ys).take 6) ∧ Below w.heap.size w w' := by
  obtain ⟨i0, hi, hz0, hz1, hz2⟩ := info_parts few_info
  have hA := (((Below.refl w.heap.size w).alloc (Nat.le_refl _) (.cells #[u] 46)).alloc (by simp) (.cells #[v] 46)).alloc (by simp; omega) (.cells #[.slice none 0 0] 46)
  have z64 : ∀ z ∈ zs, z < 64 := fun z hz => by
    obtain ⟨i, hi, rfl⟩ := mem_get'.1 hz
    have := ((fewB_parts oka).2.1 i hi).2; omega
  have y64 : ∀ z ∈ ys, z < 64 := fun z hz => by
    obtain ⟨i, hi, rfl⟩ := mem_get'.1 hz
    have := ((fewB_parts okb).2.1 i hi).2; omega
  have la := (fewB_parts oka).1
  have lb := (fewB_parts okb).1
  have IA := Lib.hid ha.inB
  have IB := Lib.hid hb.inB
  have KA := Lib.hid (imFewOk_at _ u zs (ha.below hA (Nat.le_refl _)))
  have JB := Lib.hid (hb.below hA (Nat.le_refl _))
  rw [oka] at KA
  have HA := Lib.hid hA
  obtain ⟨⟨x, c, hx⟩, _⟩ := ha.cases
  obtain ⟨⟨y, d, hy⟩, _⟩ := hb.cases
  obtain ⟨na, hna⟩ : ∃ n, n = zs.length := ⟨_, rfl⟩
  obtain ⟨nb, hnb⟩ : ∃ n, n = ys.length := ⟨_, rfl⟩
  rw [← hna] at hx
  rw [← hnb] at hy
  have NA := Lib.hid hna
  have NB := Lib.hid hnb
  subst hx hy
  obtain ⟨w0, hw0⟩ : ∃ w0, w0 = ((w.alloc (.cells #[.slice x na c] 46)).alloc (.cells #[.slice y nb d] 46)).alloc (.cells #[.slice none 0 0] 46) := ⟨_, rfl⟩
  have c0 : w0.cell? ⟨w.heap.size, 0, none⟩ = some (.slice x na c) := by rw [hw0, World.cell?_alloc_past (hn := by simp; omega), World.cell?_alloc_past (hn := by simp)]; simp
  have c1 : w0.cell? ⟨w.heap.size + 1, 0, none⟩ = some (.slice y nb d) := by rw [hw0, World.cell?_alloc_past (hn := by simp), World.cell?_alloc_at (hn := by simp)]; simp
  have b2 : Go.Boxed w0 (w.heap.size + 1 + 1) 46 (.slice none 0 0) := by
    rw [hw0]
    have := Go.Boxed.new ((w.alloc (.cells #[.slice x na c] 46)).alloc (.cells #[.slice y nb d] 46)) 46 (.slice none 0 0)
    simpa using this
  have S0 : Hid (w0.heap.size = w.heap.size + 3) := by show w0.heap.size = _; rw [hw0]; simp
  rw [← hw0] at KA JB HA
  have B2 := Lib.hid b2
  have HW := Lib.hid hw0
  clear ha hb hA hna hnb hw0 b2 oka la lb
  refine (callsIn_wide (n := 9)).1 ?_
  refine callsIn_of_wp_marks Try.func41 rfl trivial ?_ rfl
  simp only [Try.ntmps41, List.size_toArray, List.length_cons, List.length_nil, Nat.reduceAdd, Nat.reduceSub, Array.replicate_succ, Array.replicate_zero, List.push_toArray, List.append_toArray, List.nil_append, List.cons_append]
  gi_wp2_with fail
  rw [← HW.out]
  refine ⟨trivial, (callsIn_wide.2 KA.out).mono ?_⟩
  rintro e w1 ⟨rfl, hb1⟩
  have c01 := cell_later hb1 c0
  have c11 := cell_later hb1 c1
  have KB := Lib.hid (imFewOk_at w1 _ ys (JB.out.below hb1 (Nat.le_refl _)))
  rw [okb] at KB
  have BX1 : Hid (Go.Boxed w1 (w.heap.size + 1 + 1) 46 (.slice none 0 0)) := (hb1.block _ B2.out.lt).trans B2.out
  have L1 := Lib.hid (HA.out.trans (hb1.mono HA.out.size))
  have S1 : Hid (w.heap.size + 3 ≤ w1.heap.size) := by have h1 := S0.out; have h2 := hb1.size; show _ ≤ _; omega
  clear hb1 c0 c1 okb
  gi_wp2_with fail
  refine ⟨trivial, (callsIn_wide.2 KB.out).mono ?_⟩
  rintro e w2 ⟨rfl, hb2⟩
  have c02 := cell_later hb2 c01
  have c12 := cell_later hb2 c11
  have BX2 : Hid (Go.Boxed w2 (w.heap.size + 1 + 1) 46 (.slice none 0 0)) := (hb2.block _ BX1.out.lt).trans BX1.out
  have L2 := Lib.hid (L1.out.trans (hb2.mono L1.out.size))
  have S2 : Hid (w.heap.size + 3 ≤ w2.heap.size) := by have h1 := S1.out; have h2 := hb2.size; show _ ≤ _; omega
  have l0 : w.heap.size < w2.heap.size := World.block_lt_of_cell? _ _ c02
  have l1 : w.heap.size + 1 < w2.heap.size := World.block_lt_of_cell? _ _ c12
  have c03 : (w2.alloc (.cells #[.slice none 0 0] 41)).cell? ⟨w.heap.size, 0, none⟩ = some (.slice x na c) := by rw [World.cell?_alloc_past (hn := l0)]; exact c02
  have c13 : (w2.alloc (.cells #[.slice none 0 0] 41)).cell? ⟨w.heap.size + 1, 0, none⟩ = some (.slice y nb d) := by rw [World.cell?_alloc_past (hn := l1)]; exact c12
  have e1 : ¬ w.heap.size = w2.heap.size := by omega
  have e2 : ¬ w.heap.size + 1 = w2.heap.size := by omega
  clear hb2 c01 c11
  gi_wp2_with fail
  refine ⟨trivial, (callsIn_wide.2 (marksOfBoth_at _ _ _ x y na nb c d rfl rfl)).mono ?_⟩
  rintro e w3 ⟨rfl, hw3⟩
  have s3 : w3.heap.size = w2.heap.size + 3 := by rw [hw3]; simp
  have kb : Go.Boxed w3 w2.heap.size 41 (.slice none 0 0) := by rw [hw3]; exact ((Go.Boxed.new w2 41 (.slice none 0 0)).alloc _).alloc _
  have rb : Go.Boxed w3 (w.heap.size + 1 + 1) 46 (.slice none 0 0) := by rw [hw3]; exact ((BX2.out.alloc _).alloc _).alloc _
  have ca : w3.cell? ⟨w2.heap.size + 1, 0, none⟩ = some (.slice x na c) := by rw [hw3, World.cell?_alloc_past (hn := by simp), World.cell?_alloc_at (hn := by simp)]; simp
  have cb : w3.cell? ⟨w2.heap.size + 2, 0, none⟩ = some (.slice y nb d) := by rw [hw3, World.cell?_alloc_at (hn := by simp)]; simp
  have hB3 : Below w.heap.size w w3 := by
    have h2 := S2.out
    have := ((L2.out.alloc (o := .cells #[.slice none 0 0] 41) L2.out.size).alloc (o := .cells #[.slice x na c] 41) (by have := L2.out.size; simp; omega)).alloc (o := .cells #[.slice y nb d] 41) (by have := L2.out.size; simp; omega)
    rw [hw3]; exact this
  have B3 := Lib.hid hB3
  have HW3 := Lib.hid hw3
  have lw : Hid (w.heap.size + 3 ≤ w2.heap.size) := S2.out
  clear hw3 c02 c12 c03 c13 hB3 l0 l1 e1 e2
  simp only [World.size_alloc]
  gi_wp2
  refine wpIn_rangeFunc_ownG rfl (by omega) (gf := 72) (lb := #[.pointer (some ⟨w2.heap.size + 1, 0, none⟩), .pointer (some ⟨w2.heap.size + 1 + 1, 0, none⟩)]) rfl trivial (enters_of Try.func72 (by kernel_rfl) rfl)
    (both_stops 8 (by omega) (w2.heap.size + 1) (w2.heap.size + 2) w.heap.size _ _ zs ys z64 y64 w3 (by omega) (by omega) B3.out.size ca cb (IA.out.below B3.out) (IB.out.below B3.out)) belowK_t (belowK_b (by have := lw.out; omega)) (Below.refl _ _) (fun _ => rfl)
    (fun (pre : List Int) W => (∃ v, Go.Boxed W w2.heap.size 41 v ∧ W.ownsRow w.heap.size 3 1 v pre.length (ints pre) ∧ True) ∧ Go.Boxed W (w.heap.size + 1 + 1) 46 (.slice none 0 0) ∧ Below w.heap.size w W ∧ pre.length ≤ 6)
    (fun c (pre : List Int) W => (c = .exit 0 ∧ pre.length = 7) ∧ (∃ v, Go.Boxed W w2.heap.size 41 v ∧ W.ownsRow w.heap.size 3 1 v 6 (ints (pre.take 6)) ∧ True) ∧ Go.Boxed W (w.heap.size + 1 + 1) 46 (.slice none 0 0) ∧ Below w.heap.size w W)
    (OwnFrom.and (Own.from (holdsRow_own w.heap.size w2.heap.size 41 3 1 (fun pre : List Int => pre.length) (fun pre => ints pre) (fun _ _ => True)) _) (OwnFrom.and (Own.from (boxed_own (w.heap.size + 1 + 1) 46 (fun _ => .slice none 0 0)) _) (OwnFrom.and (ownFrom_below (Nat.le_refl _) B3.out.size) (ownFrom_pure _ (fun pre : List Int => pre.length ≤ 6)))))
    (fun c => OwnFrom.and (ownFrom_pure _ (fun pre : List Int => c = .exit 0 ∧ pre.length = 7)) (OwnFrom.and (Own.from (holdsRow_own w.heap.size w2.heap.size 41 3 1 (fun _ => 6) (fun pre : List Int => ints (pre.take 6)) (fun _ _ => True)) _) (OwnFrom.and (Own.from (boxed_own (w.heap.size + 1 + 1) 46 (fun _ => .slice none 0 0)) _) (ownFrom_below (Nat.le_refl _) B3.out.size))))
    ⟨⟨_, kb, World.ownsRow_nil _ _ _ _, trivial⟩, rb, B3.out, by simp⟩
    (fun m => { tmps := #[.agg #[.slice x na c], .agg #[.slice y nb d], .pointer (some ⟨w.heap.size, 0, none⟩), .pointer (some ⟨w.heap.size + 1, 0, none⟩), .pointer (some ⟨w.heap.size + 1 + 1, 0, none⟩), .bool false, .pointer (some ⟨w2.heap.size, 0, none⟩), .int .i64 m, .agg #[.slice x na c], .bool true, .bool false, .bool false, .agg #[.slice y nb d], .bool true, .bool false, .bool false, undef, .pointer (some ⟨w.heap.size, 0, none⟩), .slice x na c, .pointer (some ⟨w.heap.size + 1, 0, none⟩), .slice y nb d, .func (.func 72) #[] #[.pointer (some ⟨w2.heap.size + 1, 0, none⟩), .pointer (some ⟨w2.heap.size + 1 + 1, 0, none⟩)], .int .i64 m, undef, undef, undef, undef, undef, undef, undef, undef, undef], defers := [] }) ?assign ?body ?done ?stop
  case assign =>
    intro l x W K hK
    gi_wp2
    exact hK
  case body =>
    rintro l pre m W ⟨⟨v, hv, hrow, _⟩, hR, hB, hp6⟩ hlt
    have hf := (show OwnI W w.heap.size v pre from hrow).form
    obtain ⟨xv, cv, rfl⟩ := hf
    obtain ⟨np, hnp⟩ : ∃ np, np = pre.length := ⟨_, rfl⟩
    rw [← hnp] at hv hrow hp6
    have hc := hv.cell
    have NP := Lib.hid hnp
    have HR := Lib.hid hR
    have HBW := Lib.hid hB
    have lS := hB.size
    have lw3 := lw.out
    have dR := hR.not_row (by decide) hrow
    clear hR hB hnp hlt
    by_cases h6 : np = 6
    · subst h6
      gi_wp2
      refine ⟨KeepsFrom.refl _ _, ⟨rfl, by simp; rw [← NP.out]⟩, ⟨_, hv, ?_, trivial⟩, HR.out, HBW.out⟩
      have e : (pre ++ [m]).take 6 = pre := by rw [List.take_append_of_le_length (by rw [← NP.out]; exact Nat.le_refl _), List.take_of_length_le (by rw [← NP.out]; exact Nat.le_refl _)]
      rw [e]
      exact hrow
    · have n6 : ¬ (np : Int) = 6 := by omega
      have n6' : ((np : Int) == 6) = false := by simp; omega
      gi_wp2_with (gi_at_builtin; refine wpListIn_append_own _ rfl _ _ 41 rfl w.heap.size 3 i0 (.int .i64 0) 1 8 Try.underlying41 hi hz0 hz1 hz2 rfl (by decide) _ _ _ rfl (hrow.alloc _) ⟨W.heap.size, 0, none⟩ 1 1 [.int .i64 m] rfl rfl (cell_one_new _ _ _) (by simp [Value.oneCell']) (by unfold maxLen; omega) (by omega) (by simp; omega) ?_; intro v' w1 hown' hgrow _; obtain ⟨g', cap', rfl, _, _⟩ := World.ownsRow.form hown' (Nat.succ_pos _); obtain ⟨hv1, hv2, hr2, hk2, hb2⟩ := hv.appended (by decide) hrow lS (by omega) hown' hgrow; have hR1 := (HR.out.alloc _).kept hgrow dR; have hc1 := hv1.cell; have hf1 := hv1.frozen)
      refine ⟨hk2.from _, hb2, ⟨_, hv2, ?_, trivial⟩, hR1.other (by omega) _, HBW.out.trans hb2, by simp; rw [← NP.out]; omega⟩
      rw [List.length_append, ← NP.out, ints_snoc]
      exact hr2
  case done =>
    rintro D xs W hD rfl ⟨⟨v, hv, hrow, _⟩, hR, hB, hp6⟩ hK
    have hf := (show OwnI W w.heap.size v (bothV zs ys) from hrow).form
    obtain ⟨xv, cv, rfl⟩ := hf
    obtain ⟨np, hnp⟩ : ∃ np, np = (bothV zs ys).length := ⟨_, rfl⟩
    rw [← hnp] at hv hrow hp6
    have hc := hv.cell
    have hRc := hR.cell
    have hRf := hR.frozen
    have NP := Lib.hid hnp
    have HB := Lib.hid hB
    have lw3 := lw.out
    clear hB hnp
    gi_wp2
    have hK2 := (KeepsOthers.setCell W ⟨w.heap.size + 1 + 1, 0, none⟩ (.slice xv np cv)).same D _ hK rfl
    refine ⟨by simp, .inl ⟨_, _, rfl, run_takeDeferred hK2, ?_⟩⟩
    have b4 := ((hR.set (.slice xv np cv)).kept (grownBy_putObj' _ D (.deferred none)) (by simp; omega))
    have hr := b4.cell
    have o2 := (hrow.kept (grownBy_setCell' W (w.heap.size + 1 + 1) (.slice xv np cv)) (.inr (hR.not_row (by decide) hrow).symm))
    have o3 := ownsRow_putObj o2 (.deferred none) hK2 rfl
    have hb4 : Below w.heap.size W (W.setCell ⟨w.heap.size + 1 + 1, 0, none⟩ (.slice xv np cv)) := (Below.refl _ _).setCell (by simp; omega) _
    refine ⟨.tuple #[.agg #[.slice xv np cv], .bool true], by simp [results, Try.results41, go_sem, hr], _, rfl, ?_, (HB.out.trans hb4).trans (belowK_b (w := w) (Nat.le_refl _) _ D _ _ (by omega) hK2 rfl rfl)⟩
    unfold OwnI
    have e : (bothV zs ys).take 6 = bothV zs ys := List.take_of_length_le (by rw [← NP.out]; exact hp6)
    rw [e, ← NP.out]
    exact o3
  case stop =>
    rintro D cj pre W hD hpf ⟨⟨rfl, h7⟩, ⟨v, hv, hrow, _⟩, hR, hB⟩ hK
    have l6 : (pre.take 6).length = 6 := by simp; omega
    have hf := (show OwnI W w.heap.size v (pre.take 6) from by unfold OwnI; rw [l6]; exact hrow).form
    rw [l6] at hf
    obtain ⟨xv, cv, rfl⟩ := hf
    obtain ⟨np, hnp⟩ : ∃ np, np = 6 := ⟨_, rfl⟩
    rw [← hnp] at hv hrow
    have hc := hv.cell
    have hRc := hR.cell
    have hRf := hR.frozen
    have NP := Lib.hid hnp
    have HB := Lib.hid hB
    have lw3 := lw.out
    have PF := Lib.hid hpf
    clear hB hnp hpf
    gi_wp2
    have hK2 := (KeepsOthers.setCell W ⟨w.heap.size + 1 + 1, 0, none⟩ (.slice xv np cv)).same D _ hK rfl
    refine ⟨by simp, .inl ⟨_, _, rfl, run_takeDeferred hK2, ?_⟩⟩
    have b4 := ((hR.set (.slice xv np cv)).kept (grownBy_putObj' _ D (.deferred none)) (by simp; omega))
    have hr := b4.cell
    have o2 := (hrow.kept (grownBy_setCell' W (w.heap.size + 1 + 1) (.slice xv np cv)) (.inr (hR.not_row (by decide) hrow).symm))
    have o3 := ownsRow_putObj o2 (.deferred none) hK2 rfl
    have hb4 : Below w.heap.size W (W.setCell ⟨w.heap.size + 1 + 1, 0, none⟩ (.slice xv np cv)) := (Below.refl _ _).setCell (by simp; omega) _
    refine ⟨.tuple #[.agg #[.slice xv np cv], .bool true], by simp [results, Try.results41, go_sem, hr], _, rfl, ?_, (HB.out.trans hb4).trans (belowK_b (w := w) (Nat.le_refl _) _ D _ _ (by omega) hK2 rfl rfl)⟩
    have e : (bothV zs ys).take 6 = pre.take 6 := by
      obtain ⟨r, hr'⟩ := PF.out
      rw [← hr', List.take_append_of_le_length (by omega)]
    unfold OwnI
    rw [e, l6, ← NP.out]
    exact o3

end Go.Proofs.Yteopnbjiffncbab
