/-
  Several texts in one: KJoin, KJoin2, KLen, KApp, KSpJoin, KSpJoin2, KSay.
-/
import Derived.Test.YtnoilafoeaknjaaKd
import Derived.Deep.RegionHeld3
import Derived.Deep.RegionLaw
import Derived.Deep.DeepCutAuto
import Derived.Test.YtnoilafoeaknjaaKc
set_option linter.unusedVariables false
/-
  Knots of two joined: the program's RankJoin and RankAdd.
-/
namespace Go.Proofs.Ytnoilafoeaknjaa.K
open Go.RowKit Go.Sort

def joinOkK (ps : List Pr) (a : Int) (qs : List Pr) (b : Int) : Bool := rankB ps a && (rankB qs b && decide (a + b ≤ 2000))
def joinK (ps : List Pr) (a : Int) (qs : List Pr) (b : Int) : List Pr × Int := if joinOkK ps a qs b then (bothK ps a qs b, a + b) else ([], 0)
theorem joinK_no {ps : List Pr} {a : Int} {qs : List Pr} {b : Int} (h : joinOkK ps a qs b = false) : joinK ps a qs b = ([], 0) := by simp [joinK, h]
theorem joinK_yes {ps : List Pr} {a : Int} {qs : List Pr} {b : Int} (h : joinOkK ps a qs b = true) : joinK ps a qs b = (bothK ps a qs b, a + b) := by simp [joinK, h]
theorem joinOkK_yes {ps : List Pr} {a : Int} {qs : List Pr} {b : Int} (h : joinOkK ps a qs b = true) : rankB ps a = true ∧ rankB qs b = true ∧ a + b ≤ 2000 := by
  unfold joinOkK at h
  simpa using h
theorem sqz_0 (N : List Int) (D : Int) : ∀ s, s ≤ 63 → (sqz N D s).getD 0 0 = N.getD 0 0 := by
  intro s
  induction s with
  | zero => intro _; rfl
  | succ s ih => intro h; rw [sqz, sq1_0 _ (by omega)]; exact ih (by omega)
theorem RankP.len {ps : List Pr} {all : Int} (h : RankP ps all) : ps.length ≤ 127 := knG_few h.2.1
theorem KnB.append {ps qs : List Pr} (h : KnB ps) (h' : KnB qs) : KnB (ps ++ qs) := fun i hi => by
  have m : ∀ {l : List Pr}, KnB l → ∀ p ∈ l, (0 ≤ p.1 ∧ p.1 ≤ 127) ∧ 0 ≤ p.2 ∧ p.2 ≤ 2000 := fun hl p hp => by
    obtain ⟨j, hj, rfl⟩ := pr_at hp
    exact hl j hj
  rcases List.mem_append.1 (pr_mem hi) with e | e
  · exact m h _ e
  · exact m h' _ e

end Go.Proofs.Ytnoilafoeaknjaa.K

/-
  Knots of two that cannot be joined; RankJoin and RankAdd of the program, whole.
-/
namespace Go.Proofs.Ytnoilafoeaknjaa.K
open Go.RowKit Go.Sort

theorem add_join (ps : List Pr) (a t : Int) (h : 0 ≤ t ∧ t ≤ 63) : joinOkK ps a [(64 + t, 1)] 1 = addOkK ps a t ∧ joinK ps a [(64 + t, 1)] 1 = addK ps a t := by
  have e : joinOkK ps a [(64 + t, 1)] 1 = addOkK ps a t := by
    unfold joinOkK addOkK
    rw [(rankB_iff _ _).2 (one_ok t h)]
    have h1 : decide (0 ≤ t ∧ t ≤ 63) = true := decide_eq_true h
    have h2 : decide (a + 1 ≤ 2000) = decide (a < 2000) := decide_eq_decide.2 ⟨fun _ => by omega, fun _ => by omega⟩
    rw [h1, h2]
  refine ⟨e, ?_⟩
  unfold joinK addK
  rw [e, add_both]

end Go.Proofs.Ytnoilafoeaknjaa.K

/-
  How many knots there are at most, counted once more or joined.
-/
namespace Go.Proofs.Ytnoilafoeaknjaa.K

theorem addK_len (ps : List Pr) (all t : Int) : (addK ps all t).1.length ≤ 127 := by
  unfold addK
  split
  · exact doneK_len _ _
  · exact Nat.zero_le _
theorem joinK_len (ps : List Pr) (a : Int) (qs : List Pr) (b : Int) : (joinK ps a qs b).1.length ≤ 127 := by
  unfold joinK
  split
  · exact doneK_len _ _
  · exact Nat.zero_le _

end Go.Proofs.Ytnoilafoeaknjaa.K

/-
  Knots appended to knots of the call's own, whichever they are: none too.
-/
namespace Go.Proofs.Ytnoilafoeaknjaa.K
open Go.RowKit Go.Sort

theorem run_append_prs (w : World) (ty : TypeId) (B : Nat) (v u : Value) (ps qs : List Pr) (ho : OwnP w B v ps) (hq : Prs w u qs) (l1 : ps.length ≤ 1000) (l2 : qs.length ≤ 1000) (hB : B ≤ w.heap.size) :
    ∃ x c w', (Builtin.append_ #[ 32, 32 ] ty #[v, u]).run Try.prog w = .ok (.slice x (ps.length + qs.length) c) w' ∧ OwnP w' B (.slice x (ps.length + qs.length) c) (ps ++ qs) ∧ w.grownBy w' v.ownBlock := by
  obtain ⟨i0, hi, hz0, hz1, hz2⟩ := info_parts pair_info
  rcases hq with ⟨rfl, rfl⟩ | ⟨b, o, cap, rfl, hc0, hc1, hb, hcell⟩
  · obtain ⟨x, c, rfl, _, _⟩ := ho.form
    refine ⟨x, c, w, run_append_owned_none (P := Try.prog) (w := w) B 32 ty 85 i0 2 Try.underlying32 hi _ _ _ ho, by simpa using ho, grownBy_refl _ _⟩
  · have news : ∀ j z, (prs qs)[j]? = some z → w.cell? ((⟨b, o, none⟩ : Addr).add j) = some z :=
      Prs.news (w := w) (b := b) (o := o) (n := qs.length) (c := cap) (ps := qs) (.inr ⟨b, o, cap, rfl, hc0, hc1, hb, hcell⟩)
    obtain ⟨v', w', hr, h2, h3, _, _⟩ := run_append_own_at (P := Try.prog) w B 32 ty 85 i0 (.agg #[.int .i64 0, .int .i64 0]) 2 16 Try.underlying32 hi hz0 hz1 hz2 rfl (by decide) v ps.length (prs ps) ho ⟨b, o, none⟩ qs.length cap (prs qs) (prs_len qs) news (prs_one qs) (by unfold maxLen; omega) (by omega) hB
    obtain ⟨x, c, rfl⟩ := row_form h2
    refine ⟨x, c, w', hr, ?_, h3⟩
    unfold OwnP
    rw [prs_append, List.length_append]
    exact h2

theorem wp_append_prs {o : Oper} {a : Act} {w : World} {K : Act → World → Prop} {Q : Exit → Act → World → Prop} (s x : Operand) (ho : o.op = .call { callee := .builtin .append, args := #[s, x], argTypes := #[ 32, 32 ] })
    (B n m N : Nat) (v u : Value) (ps qs : List Pr) (hs : a.eval s = v) (hx : a.eval x = u) (hown : OwnP w B v ps) (hq : Prs w u qs) (l1 : ps.length ≤ 1000) (l2 : qs.length ≤ 1000) (hn : n = ps.length) (hm : m = qs.length) (hN : N = n + m) (hB : B ≤ w.heap.size)
    (h : ∀ y c w', OwnP w' B (.slice y N c) (ps ++ qs) → w.grownBy w' v.ownBlock → K (a.put o.dst (.slice y N c)) w') : o.wp Try.prog a w K Q := by
  obtain ⟨y, c, w', hr, h2, h3⟩ := run_append_prs w o.type B v u ps qs hown hq l1 l2 hB
  rw [← hn, ← hm, ← hN] at hr h2
  unfold Oper.wp execOp
  simp only [ho, resolve, invoke, builtin, Sem.run_bind, Sem.run_pure, Result.andThen_ok, List.map_toArray, List.map_cons, List.map_nil, hs, hx, hr]
  exact h y c w' h2 h3
theorem step_append_prs {ops : Array Oper} {o : Oper} {a : Act} {w : World} {K : Act → World → Prop} {Q : Exit → Act → World → Prop} {E : Prop} (hgd : o.guard = none) (s x : Operand) (ho : o.op = .call { callee := .builtin .append, args := #[s, x], argTypes := #[ 32, 32 ] })
    (B n m N : Nat) (v u : Value) (ps qs : List Pr) (hs : a.eval s = v) (hx : a.eval x = u) (hown : OwnP w B v ps) (hq : Prs w u qs) (l1 : ps.length ≤ 1000) (l2 : qs.length ≤ 1000) (hn : n = ps.length) (hm : m = qs.length) (hN : N = n + m) (hB : B ≤ w.heap.size)
    (h : ∀ y c w', OwnP w' B (.slice y N c) (ps ++ qs) → w.grownBy w' v.ownBlock → K (a.put o.dst (.slice y N c)) w') :
    if Region.wanted o (yielded ops a.tmps) = true then Oper.wp Try.prog o a w K Q else E := by
  have hw : Region.wanted o (yielded ops a.tmps) = true := by simp [Region.wanted, hgd]
  rw [if_pos hw]
  exact wp_append_prs s x ho B n m N v u ps qs hs hx hown hq l1 l2 hn hm hN hB h
theorem wpList_append_prs {ops : Array Oper} {rest : List Oper} {o : Oper} {a : Act} {w : World} {Q : Exit → Act → World → Prop} (hgd : o.guard = none) (s x : Operand) (ho : o.op = .call { callee := .builtin .append, args := #[s, x], argTypes := #[ 32, 32 ] })
    (B n m N : Nat) (v u : Value) (ps qs : List Pr) (hs : a.eval s = v) (hx : a.eval x = u) (hown : OwnP w B v ps) (hq : Prs w u qs) (l1 : ps.length ≤ 1000) (l2 : qs.length ≤ 1000) (hn : n = ps.length) (hm : m = qs.length) (hN : N = n + m) (hB : B ≤ w.heap.size)
    (h : ∀ y c w', OwnP w' B (.slice y N c) (ps ++ qs) → w.grownBy w' v.ownBlock → wpList Try.prog ops Q rest (a.put o.dst (.slice y N c)) w') : wpList Try.prog ops Q (o :: rest) a w :=
  wpList_plain hgd fun _ hK => wp_append_prs s x ho B n m N v u ps qs hs hx hown hq l1 l2 hn hm hN hB fun y c w' h2 h3 => hK _ _ (h y c w' h2 h3)

end Go.Proofs.Ytnoilafoeaknjaa.K

/-
  Knots of two joined: the model's RankJoin.
-/
namespace Go.Proofs.Ytnoilafoeaknjaa.K
open Go.RowKit Go.Sort

/-- What the numbers at knots leave: their row, and the boxes ahead of it. -/
structure CutJ (w w2 wx : World) (g : Nat) (NN : List Int) (x : Option Addr) (na c : Nat) (a : Int) (y : Option Addr) (nb d : Nat) (b : Int) : Prop where
  new : w2.heap.size ≤ g
  row : RowI wx g g 128 128 NN
  X : Box2 wx w.heap.size 34 (.slice x na c) (.int .i64 a)
  Y : Box2 wx (w.heap.size + 1) 34 (.slice y nb d) (.int .i64 b)
  R : Box2 wx (w.heap.size + 1 + 1) 34 (.slice none 0 0) (.int .i64 0)
  B : Below w2.heap.size w2 wx

set_option maxRecDepth 100000 in
set_option maxHeartbeats 16000000 in
theorem spRankJoin_yes (w : World) (u v : Value) (ps : List Pr) (a : Int) (qs : List Pr) (b : Int) (hp : Prs w u ps) (hq : Prs w v qs) (ka : rankB ps a = true) (kb : rankB qs b = true) (hab : a + b ≤ 2000) :
    Calls Try.prog 114 #[.agg #[u, .int .i64 a], .agg #[v, .int .i64 b]] w fun e w' => ∃ x, e = .returned (.tuple #[.agg #[x, .int .i64 (a + b)], .bool true]) ∧ OwnP w' w.heap.size x (bothK ps a qs b) ∧ Below w.heap.size w w' := by
  have PA := (rankB_iff _ _).1 ka
  have PB := (rankB_iff _ _).1 kb
  have la := PA.len
  have lb := PB.len
  have kn := PA.knB.append PB.knB
  have aa := PA.1.1
  have bb := PB.1.1
  have hat := PA.atK.append PB.atK
  have HAT := Lib.hid hat
  obtain ⟨W, hW⟩ : ∃ W, W = ((w.alloc (.cells #[u, .int .i64 a] 34)).alloc (.cells #[v, .int .i64 b] 34)).alloc (.cells #[.slice none 0 0, .int .i64 0] 34) := ⟨_, rfl⟩
  have hA : Below w.heap.size w W := by rw [hW]; exact (((Below.refl _ _).alloc (Nat.le_refl _) _).alloc (by simp) _).alloc (by simp; omega) _
  have sW : W.heap.size = w.heap.size + 3 := by rw [hW]; simp
  have X : Box2 W w.heap.size 34 u (.int .i64 a) := by rw [hW]; exact ((Box2.new _ _ _ _).alloc _).alloc _
  have Y : Box2 W (w.heap.size + 1) 34 v (.int .i64 b) := by
    have h := (Box2.new (w.alloc (.cells #[u, .int .i64 a] 34)) 34 v (.int .i64 b)).alloc (.cells #[.slice none 0 0, .int .i64 0] 34)
    rw [hW]; simpa using h
  have R : Box2 W (w.heap.size + 1 + 1) 34 (.slice none 0 0) (.int .i64 0) := by
    have h := Box2.new ((w.alloc (.cells #[u, .int .i64 a] 34)).alloc (.cells #[v, .int .i64 b] 34)) 34 (.slice none 0 0) (.int .i64 0)
    rw [hW]; simpa using h
  have IA := Lib.hid (hp.below hA (Nat.le_refl _))
  have IB := Lib.hid (hq.below hA (Nat.le_refl _))
  have KA := Lib.hid (spRankOk_at W u ps a IA.out)
  have KB : Hid (∀ W, Prs W v qs → Calls Try.prog 42 #[.agg #[v, .int .i64 b]] W fun e w' => e = .returned (.bool true) ∧ Below W.heap.size W w') := fun W h => by rw [← kb]; exact spRankOk_at W v qs b h
  rw [ka] at KA
  obtain ⟨x, c, rfl, _, _⟩ := hp.form
  obtain ⟨y, d, rfl, _, _⟩ := hq.form
  obtain ⟨na, hna⟩ : ∃ n, n = ps.length := ⟨_, rfl⟩
  obtain ⟨nb, hnb⟩ : ∃ n, n = qs.length := ⟨_, rfl⟩
  rw [← hna] at KA hW X IA la
  rw [← hnb] at KB hW Y IB lb
  rw [← hna, ← hnb]
  have HNA := Lib.hid hna
  have HNB := Lib.hid hnb
  have HA := Lib.hid hA
  have HS := Lib.hid sW
  have KN := Lib.hid kn
  obtain ⟨A, hAll⟩ : ∃ A, A = a + b := ⟨_, rfl⟩
  rw [← hAll] at hab ⊢
  have ws : IntKind.i64.wrap (a + b) = A := by rw [hAll]; exact IntWalk.i64_in _ (by omega)
  have hgt : decide ((2000 : Int) < A) = false := decide_eq_false (by omega)
  have HAL := Lib.hid hAll
  have A0 : 0 ≤ A := by omega
  have EB : Hid (bothK ps a qs b = listV (sqz (numsV (ps ++ qs)) (A / 8) 63)) := by show _ = _; unfold bothK doneK; rw [hAll]
  have x0 := X.cell0
  have x1 := X.cell1
  have y0 := Y.cell0
  have y1 := Y.cell1
  clear hp hq ka kb PA PB kn hat hA sW hna hnb hAll
  go_enter Try.func114, Try.ntmps114
  go_wp2_with fail
  rw [← hW]
  clear hW
  go_wp2_with fail
  refine KA.out.mono ?_
  rintro e w1 ⟨rfl, hb1⟩
  have X1 := X.later hb1
  have Y1 := Y.later hb1
  have R1 := R.later hb1
  have B1 := Lib.hid (HA.out.trans (hb1.mono HA.out.size))
  have IA1 := Lib.hid (IA.out.below hb1 (Nat.le_refl _))
  have IB1 := Lib.hid (IB.out.below hb1 (Nat.le_refl _))
  clear hb1 X Y R x0 x1 y0 y1 KA IA IB
  have x0 := X1.cell0
  have x1 := X1.cell1
  have y0 := Y1.cell0
  have y1 := Y1.cell1
  go_wp2_with fail
  refine (KB.out _ IB1.out).mono ?_
  rintro e w2 ⟨rfl, hb2⟩
  have X2 := X1.later hb2
  have Y2 := Y1.later hb2
  have R2 := R1.later hb2
  have B2 := Lib.hid (B1.out.trans (hb2.mono B1.out.size))
  have IA2 := Lib.hid (IA1.out.below hb2 (Nat.le_refl _))
  have IB2 := Lib.hid (IB1.out.below hb2 (Nat.le_refl _))
  clear hb2 X1 Y1 R1 x0 x1 y0 y1 KB IA1 IB1
  have x0 := X2.cell0
  have x1 := X2.cell1
  have y0 := Y2.cell0
  have y1 := Y2.cell1
  have nb6 := numsV_all KN.out (by rw [List.length_append, ← HNA.out, ← HNB.out]; omega)
  have KNN : Hid (∀ W x c, Prs W (.slice x (na + nb) c) (ps ++ qs) → Calls Try.prog 115 #[.slice x (na + nb) c] W fun e w' => e = .returned (.slice (some ⟨W.heap.size, 0, none⟩) 128 128) ∧ RowI w' W.heap.size W.heap.size 128 128 (numsV (ps ++ qs)) ∧ Below W.heap.size W w') := fun W x c h =>
    l4Nums_in W x (na + nb) c (ps ++ qs) (by rw [List.length_append, ← HNA.out, ← HNB.out]) h (by omega) KN.out
  generalize numsV (ps ++ qs) = NN at *
  have KQ : Hid (∀ W B g c, RowI W B g 128 c NN → Calls Try.prog 117 #[.slice (some ⟨g, 0, none⟩) 128 c, .int .i64 A] W fun e w' => e = .returned (.slice (some ⟨g, 0, none⟩) 128 c) ∧ RowI w' B g 128 c (sqz NN (A / 8) 63) ∧ W.grownBy w' (some g)) := fun W B g c h =>
    l4Squeeze_at W B g c _ A 600000 h nb6 A0 (by omega) (by omega)
  generalize sqz NN (A / 8) 63 = Q at *
  clear nb6
  go_upto_region 3 with fail
  -- the literal of nothing
  have lxy : w.heap.size + 1 + 1 < w2.heap.size := R2.lt
  have hBA := ((Below.refl w2.heap.size w2).alloc (Nat.le_refl _) (.cells #[] 85)).drew
  have OE : Hid (OwnP (w2.alloc (.cells #[] 85)).drew w2.heap.size (.slice (some ⟨w2.heap.size, 0, none⟩) 0 0) []) := Lib.hid (World.ownsRow.drew (pair_empty w2 w2.heap.size (Nat.le_refl _)))
  have XA := (X2.alloc (.cells #[] 85)).drew
  have YA := (Y2.alloc (.cells #[] 85)).drew
  have RA := (R2.alloc (.cells #[] 85)).drew
  have PA := Lib.hid (IA2.out.below hBA (Nat.le_refl _))
  have HBA := Lib.hid hBA
  have xa0 := XA.cell0
  have ya0 := YA.cell0
  have LXY := Lib.hid lxy
  have HXA := Lib.hid XA
  have HYA := Lib.hid YA
  have HRA := Lib.hid RA
  have x0d := X2.drew.cell0
  have y0d := Y2.drew.cell0
  clear hBA XA YA RA lxy X2 Y2 R2 x0 x1 y0 y1
  go_cut [6] (fun q wx => ∃ g, q = .slice (some ⟨g, 0, none⟩) 128 128 ∧ CutJ w w2 wx g NN x na c a y nb d b)
  case first =>
    go_region_law ((first
        | (refine step_append_prs rfl _ _ (by rfl) w2.heap.size 0 na na _ _ [] ps (by rfl) (by rfl) OE.out PA.out (by simp) (by rw [← HNA.out]; omega) rfl HNA.out (by omega) (by simp) ?_; intro y1 c1 w5 ho5 hg5; have X5 := HXA.out.kept hg5 (by simp [Value.ownBlock]; have := LXY.out; omega); have Y5 := HYA.out.kept hg5 (by simp [Value.ownBlock]; have := LXY.out; omega); have R5 := HRA.out.kept hg5 (by simp [Value.ownBlock]; have := LXY.out; omega); have x50 := X5.cell0; have y50 := Y5.cell0; have B5 := Lib.hid (HBA.out.grown hg5 HBA.out.size (fun k e => by simp [Value.ownBlock] at e; omega)); have P5 := Lib.hid (IB2.out.below B5.out (Nat.le_refl _)))
        | (refine step_append_prs rfl _ _ (by rfl) w2.heap.size na nb (na + nb) _ _ ps qs (by rfl) (by rfl) ho5 P5.out (by rw [← HNA.out]; omega) (by rw [← HNB.out]; omega) HNA.out HNB.out rfl B5.out.size ?_; intro y2 c2 w6 ho6 hg6; have X6 := Lib.hid (X5.kept hg6 (X5.not_row (by decide) ho5)); have Y6 := Lib.hid (Y5.kept hg6 (Y5.not_row (by decide) ho5)); have R6 := Lib.hid (R5.kept hg6 (R5.not_row (by decide) ho5)); have B6 := Lib.hid (B5.out.grown hg6 B5.out.size (fun k e => (World.ownsRow.lt ho5 k e).1)); clear X5 Y5 R5 x50 y50)
        | (go_simp; go_at_call 115; refine (KNN.out _ _ _ ho6.rd).mono ?_; rintro e w7 ⟨rfl, hr7, hb7⟩; have CUT := Lib.hid (CutJ.mk (g := w6.heap.size) B6.out.size hr7 (X6.out.later hb7) (Y6.out.later hb7) (R6.out.later hb7) (B6.out.trans (hb7.mono B6.out.size))); clear hr7 hb7 ho6 ho5 hg5 hg6)))
    all_goals (go_wp2_with fail; go_meet)
    all_goals exact ⟨_, rfl, CUT.out⟩
  case rest =>
    obtain ⟨g, rfl, hc⟩ := hcut
    have hgl := hc.row.lt.2
    have g0 := hc.new
    have KD := Lib.hid (KQ.out wc.drew g g 128 (hc.row.drewN 1))
    have HX := Lib.hid hc.X.drew
    have HY := Lib.hid hc.Y.drew
    have HR := Lib.hid hc.R.drew
    have HBL : Hid (Below w.heap.size w wc.drew) := Lib.hid ((B2.out.trans (hc.B.mono B2.out.size)).trans (Below.drew (Below.refl _ _)))
    have x1 := hc.X.drew.cell1
    have y1 := hc.Y.drew.cell1
    have x1' := hc.X.cell1
    have y1' := hc.Y.cell1
    have lxy := LXY.out
    clear hc
    go_upto_region 4 with fail
    go_region_held3 (fun w' => w'.cell? ⟨w.heap.size, 1, none⟩ = some (.int .i64 a) ∧ w'.cell? ⟨w.heap.size + 1, 1, none⟩ = some (.int .i64 b)) (first | (with_reducible exact ⟨x1, y1⟩) | (with_reducible exact ⟨p1, q1⟩) | (with_reducible exact ⟨q0, q0'⟩) | (with_reducible exact ⟨r0, r0'⟩))
     (first
      | (go_at_call 117; refine KD.out.mono ?_; rintro e w4 ⟨rfl, hr4, hg4⟩; have X4 := HX.out.kept hg4 (by simp; omega); have Y4 := HY.out.kept hg4 (by simp; omega); have R4 := HR.out.kept hg4 (by simp; omega); have p1 := X4.cell1; have q1 := Y4.cell1; have B4 := Lib.hid (HBL.out.trans (below_grown hg4 (by omega) HBL.out.size)); have KE := Lib.hid (l4List_at w4 g g 128 Q hr4); have SZ := Lib.hid hg4.size; clear hr4 hg4)
      | (go_at_call 116; refine KE.out.mono ?_; rintro e w5 ⟨v, rfl, ho5, hb5⟩; obtain ⟨xz, cz, rfl, _, _⟩ := ho5.form; have R5 := R4.later hb5; have f2 := R5.free; have z0 := R5.cell0; have z1 := R5.cell1; have X5 := X4.later hb5; have q0 := X5.cell1; have Y5 := Y4.later hb5; have q0' := Y5.cell1; have B5 := Lib.hid (B4.out.trans (hb5.mono B4.out.size)); have XZ := X5.kept ((grownBy_setCell w5 ⟨w.heap.size + 1 + 1, 0, none⟩ (.slice xz (listV Q).length cz)).trans (grownBy_setCell _ ⟨w.heap.size + 1 + 1, 1, none⟩ (.int .i64 A))) (by simp; omega); have YZ := Y5.kept ((grownBy_setCell w5 ⟨w.heap.size + 1 + 1, 0, none⟩ (.slice xz (listV Q).length cz)).trans (grownBy_setCell _ ⟨w.heap.size + 1 + 1, 1, none⟩ (.int .i64 A))) (by simp); have r0 := XZ.cell1; have r0' := YZ.cell1; clear XZ YZ hb5))
    have RZ := R5.set (.slice xz (listV Q).length cz) (.int .i64 A)
    have hr0 := RZ.cell0
    have hr1 := RZ.cell1
    have OZ := Lib.hid ((ho5.set2 (R5.not_row (by decide) ho5) (.slice xz (listV Q).length cz) (.int .i64 A)).base (B' := w.heap.size) (by have := SZ.out; simp at this; omega))
    have BZ := Lib.hid (below_set2 (b := w.heap.size + 1 + 1) B5.out (by omega) (.slice xz (listV Q).length cz) (.int .i64 A))
    clear ho5 X4 Y4 R4 X5 Y5 R5 RZ f2 z0 z1 q0 q0' p1 q1 r0 r0'
    go_wp2
    exact bodyPost_ret (v := .tuple #[.agg #[.slice xz (listV Q).length cz, .int .i64 A], .bool true]) (by simp [results, Try.results114, go_sem, hr0, hr1]) rfl ⟨_, rfl, by rw [EB.out]; exact OZ.out, BZ.out⟩

end Go.Proofs.Ytnoilafoeaknjaa.K

/-
  Knots of two that cannot be joined; the model's RankJoin, whole.
-/
namespace Go.Proofs.Ytnoilafoeaknjaa.K
open Go.RowKit Go.Sort

set_option maxRecDepth 100000 in
set_option maxHeartbeats 8000000 in
theorem spRankJoin_no (w : World) (u v : Value) (ps : List Pr) (a : Int) (qs : List Pr) (b : Int) (hp : Prs w u ps) (hq : Prs w v qs) (hno : joinOkK ps a qs b = false) :
    Calls Try.prog 114 #[.agg #[u, .int .i64 a], .agg #[v, .int .i64 b]] w fun e w' => e = .returned (.tuple #[.agg #[.slice none 0 0, .int .i64 0], .bool false]) ∧ Below w.heap.size w w' := by
  obtain ⟨W, hW⟩ : ∃ W, W = ((w.alloc (.cells #[u, .int .i64 a] 34)).alloc (.cells #[v, .int .i64 b] 34)).alloc (.cells #[.slice none 0 0, .int .i64 0] 34) := ⟨_, rfl⟩
  have hA : Below w.heap.size w W := by rw [hW]; exact (((Below.refl _ _).alloc (Nat.le_refl _) _).alloc (by simp) _).alloc (by simp; omega) _
  have X : Box2 W w.heap.size 34 u (.int .i64 a) := by rw [hW]; exact ((Box2.new _ _ _ _).alloc _).alloc _
  have Y : Box2 W (w.heap.size + 1) 34 v (.int .i64 b) := by
    have h := (Box2.new (w.alloc (.cells #[u, .int .i64 a] 34)) 34 v (.int .i64 b)).alloc (.cells #[.slice none 0 0, .int .i64 0] 34)
    rw [hW]; simpa using h
  have R : Box2 W (w.heap.size + 1 + 1) 34 (.slice none 0 0) (.int .i64 0) := by
    have h := Box2.new ((w.alloc (.cells #[u, .int .i64 a] 34)).alloc (.cells #[v, .int .i64 b] 34)) 34 (.slice none 0 0) (.int .i64 0)
    rw [hW]; simpa using h
  have IA := Lib.hid (hp.below hA (Nat.le_refl _))
  have IB := Lib.hid (hq.below hA (Nat.le_refl _))
  have KA := Lib.hid (spRankOk_at W u ps a IA.out)
  have KB : Hid (∀ W, Prs W v qs → Calls Try.prog 42 #[.agg #[v, .int .i64 b]] W fun e w' => e = .returned (.bool (rankB qs b)) ∧ Below W.heap.size W w') := fun W h => spRankOk_at W v qs b h
  obtain ⟨x, c, rfl, _, _⟩ := hp.form
  obtain ⟨y, d, rfl, _, _⟩ := hq.form
  obtain ⟨na, hna⟩ : ∃ n, n = ps.length := ⟨_, rfl⟩
  obtain ⟨nb, hnb⟩ : ∃ n, n = qs.length := ⟨_, rfl⟩
  rw [← hna] at KA hW X IA
  rw [← hnb] at KB hW Y IB
  rw [← hna, ← hnb]
  have HA := Lib.hid hA
  have x0 := X.cell0
  have x1 := X.cell1
  have y0 := Y.cell0
  have y1 := Y.cell1
  have CASES : Hid (rankB ps a = true → rankB qs b = true → (0 ≤ a ∧ a ≤ 2000) ∧ (0 ≤ b ∧ b ≤ 2000) ∧ 2000 < a + b) := fun h1 h2 => by
    unfold joinOkK at hno
    rw [h1, h2] at hno
    simp at hno
    exact ⟨((rankB_iff _ _).1 h1).1, ((rankB_iff _ _).1 h2).1, hno⟩
  have HW := Lib.hid hW
  have END : Hid (∀ w1, Below W.heap.size W w1 → Box2 w1 (w.heap.size + 1 + 1) 34 (.slice none 0 0) (.int .i64 0) ∧ Below w.heap.size w ((w1.setCell ⟨w.heap.size + 1 + 1, 0, none⟩ (.slice none 0 0)).setCell ⟨w.heap.size + 1 + 1, 1, none⟩ (.int .i64 0))) := fun w1 h =>
    ⟨R.later h, below_set2 (b := w.heap.size + 1 + 1) (hA.trans (h.mono hA.size)) (by omega) (.slice none 0 0) (.int .i64 0)⟩
  clear hp hq hno hA hna hnb hW R
  cases ka : rankB ps a with
  | false =>
    rw [ka] at KA
    clear CASES ka
    go_enter Try.func114, Try.ntmps114
    go_wp2_with fail
    rw [← HW.out]
    go_wp2_with fail
    refine KA.out.mono ?_
    rintro e w1 ⟨rfl, hb1⟩
    obtain ⟨R1, hl⟩ := END.out w1 hb1
    have BZ := Lib.hid hl
    have z0 := R1.cell0
    have z1 := R1.cell1
    have f2 := R1.free
    have RZ := R1.set (.slice none 0 0) (.int .i64 0)
    have hr0 := RZ.cell0
    have hr1 := RZ.cell1
    clear R1 RZ x0 x1 y0 y1 X Y hb1 hl
    go_wp2
    exact bodyPost_ret (v := .tuple #[.agg #[.slice none 0 0, .int .i64 0], .bool false]) (by simp [results, Try.results114, go_sem, hr0, hr1]) rfl ⟨rfl, BZ.out⟩
  | true =>
    rw [ka] at KA
    cases kb : rankB qs b with
    | false =>
      rw [kb] at KB
      clear CASES ka kb
      go_enter Try.func114, Try.ntmps114
      go_wp2_with fail
      rw [← HW.out]
      go_wp2_with fail
      refine KA.out.mono ?_
      rintro e w1 ⟨rfl, hb1⟩
      have X1 := X.later hb1
      have Y1 := Y.later hb1
      have IB1 := Lib.hid (IB.out.below hb1 (Nat.le_refl _))
      have HB1 := Lib.hid hb1
      clear hb1 X Y x0 x1 y0 y1
      have x0 := X1.cell0
      have x1 := X1.cell1
      have y0 := Y1.cell0
      have y1 := Y1.cell1
      go_wp2_with fail
      refine (KB.out _ IB1.out).mono ?_
      rintro e w2 ⟨rfl, hb2⟩
      obtain ⟨R1, hl⟩ := END.out w2 (HB1.out.trans (hb2.mono HB1.out.size))
      have BZ := Lib.hid hl
      have z0 := R1.cell0
      have z1 := R1.cell1
      have f2 := R1.free
      have RZ := R1.set (.slice none 0 0) (.int .i64 0)
      have hr0 := RZ.cell0
      have hr1 := RZ.cell1
      clear R1 RZ x0 x1 y0 y1 X1 Y1 hb2 hl
      go_wp2
      exact bodyPost_ret (v := .tuple #[.agg #[.slice none 0 0, .int .i64 0], .bool false]) (by simp [results, Try.results114, go_sem, hr0, hr1]) rfl ⟨rfl, BZ.out⟩
    | true =>
      rw [kb] at KB
      obtain ⟨⟨a0, a1⟩, ⟨b0, b1⟩, hs⟩ := CASES.out ka kb
      have ws : IntKind.i64.wrap (a + b) = a + b := IntWalk.i64_in _ (by omega)
      have hgt : decide ((2000 : Int) < a + b) = true := decide_eq_true hs
      clear CASES ka kb
      go_enter Try.func114, Try.ntmps114
      go_wp2_with fail
      rw [← HW.out]
      go_wp2_with fail
      refine KA.out.mono ?_
      rintro e w1 ⟨rfl, hb1⟩
      have X1 := X.later hb1
      have Y1 := Y.later hb1
      have IB1 := Lib.hid (IB.out.below hb1 (Nat.le_refl _))
      have HB1 := Lib.hid hb1
      clear hb1 X Y x0 x1 y0 y1
      have x0 := X1.cell0
      have x1 := X1.cell1
      have y0 := Y1.cell0
      have y1 := Y1.cell1
      go_wp2_with fail
      refine (KB.out _ IB1.out).mono ?_
      rintro e w2 ⟨rfl, hb2⟩
      obtain ⟨R1, hl⟩ := END.out w2 (HB1.out.trans (hb2.mono HB1.out.size))
      have X2 := X1.later hb2
      have Y2 := Y1.later hb2
      have BZ := Lib.hid hl
      have z0 := R1.cell0
      have z1 := R1.cell1
      have f2 := R1.free
      have RZ := R1.set (.slice none 0 0) (.int .i64 0)
      have hr0 := RZ.cell0
      have hr1 := RZ.cell1
      clear R1 RZ x0 x1 y0 y1 X1 Y1 hb2 hl
      have x1 := X2.cell1
      have y1 := Y2.cell1
      clear X2 Y2
      go_wp2
      exact bodyPost_ret (v := .tuple #[.agg #[.slice none 0 0, .int .i64 0], .bool false]) (by simp [results, Try.results114, go_sem, hr0, hr1]) rfl ⟨rfl, BZ.out⟩

theorem spRankJoin_at (w : World) (u v : Value) (ps : List Pr) (a : Int) (qs : List Pr) (b : Int) (hp : Prs w u ps) (hq : Prs w v qs) :
    Calls Try.prog 114 #[.agg #[u, .int .i64 a], .agg #[v, .int .i64 b]] w fun e w' => ∃ x, e = .returned (.tuple #[.agg #[x, .int .i64 (joinK ps a qs b).2], .bool (joinOkK ps a qs b)]) ∧ OwnP w' w.heap.size x (joinK ps a qs b).1 ∧ Below w.heap.size w w' := by
  cases h : joinOkK ps a qs b with
  | false =>
    rw [joinK_no h]
    exact (spRankJoin_no w u v ps a qs b hp hq h).mono fun e w' ⟨he, hb⟩ => ⟨_, he, OwnP.nil _ _, hb⟩
  | true =>
    rw [joinK_yes h]
    obtain ⟨k1, k2, k3⟩ := joinOkK_yes h
    exact spRankJoin_yes w u v ps a qs b hp hq k1 k2 k3

end Go.Proofs.Ytnoilafoeaknjaa.K

/-
  What is told of knots that were counted once more, or joined.
-/
namespace Go.Proofs.Ytnoilafoeaknjaa.K

theorem joinK_say {ps qs : List Pr} {a b : Int} (h : joinOkK ps a qs b = true) :
    RankP ps a ∧ RankP qs b ∧ joinOkK qs b ps a = true ∧ joinK qs b ps a = joinK ps a qs b ∧ (joinK ps a qs b).2 = a + b ∧ RankP (joinK ps a qs b).1 (joinK ps a qs b).2 ∧
      ∀ t : Int, leastP (joinK ps a qs b).1 t ≤ leastP ps t + leastP qs t ∧ mostP ps t + mostP qs t ≤ mostP (joinK ps a qs b).1 t := by
  obtain ⟨ka, kb, hs⟩ := joinOkK_yes h
  have PA := (rankB_iff _ _).1 ka
  have PB := (rankB_iff _ _).1 kb
  have hb : joinOkK qs b ps a = true := by
    unfold joinOkK
    rw [ka, kb]
    simp; omega
  rw [joinK_yes h, joinK_yes hb]
  refine ⟨PA, PB, hb, ?_, rfl, both_ok PA PB hs, fun t => ⟨both_least PA PB t, both_most PA PB t⟩⟩
  rw [both_comm PB PA, Int.add_comm]
theorem addK_say {ps : List Pr} {a t : Int} (h : addOkK ps a t = true) :
    RankP ps a ∧ (0 ≤ t ∧ t ≤ 63) ∧ (addK ps a t).2 = a + 1 ∧ RankP (addK ps a t).1 (addK ps a t).2 ∧
      ∀ i : Int, leastP (addK ps a t).1 i ≤ leastP ps i + (if t ≤ i then 1 else 0) ∧ mostP ps i + (if t ≤ i then 1 else 0) ≤ mostP (addK ps a t).1 i := by
  obtain ⟨ka, ht, hs⟩ := addOkK_yes h
  have J := add_join ps a t ht
  rw [← J.1] at h
  obtain ⟨p1, p2, p3, p4, p5, p6, p7⟩ := joinK_say h
  rw [← J.2]
  refine ⟨p1, ht, p5, p6, fun i => ?_⟩
  have := p7 i
  rw [one_least t i ht, one_most t i ht] at this
  exact this
/-- What is told, in bounds. -/
theorem below_in {ps : List Pr} {a t : Int} (h : RankP ps a) (t0 : 0 ≤ t) (t1 : t ≤ 63) : (0 ≤ leastP ps t ∧ leastP ps t ≤ 2000) ∧ 0 ≤ mostP ps t ∧ mostP ps t ≤ 2000 := by
  have g := gap_six h t0 t1
  have b := below_all h
  have m := below_mono (ps := ps) (fun p hp => by have := (h.num p hp).1; omega) t1
  have z : 0 ≤ leastP ps t := by
    have : ∀ ps : List Pr, (∀ p ∈ ps, 0 ≤ p.2) → 0 ≤ leastP ps t := by
      intro ps
      induction ps with
      | nil => intro _; exact Int.le_refl _
      | cons p ps ih =>
        intro hn
        have := ih (fun q hq => hn q (List.mem_cons_of_mem _ hq))
        have := hn p (List.mem_cons_self ..)
        simp only [leastP]
        split <;> omega
    exact this ps (fun p hp => by have := (h.num p hp).1; omega)
  have := h.1
  omega

end Go.Proofs.Ytnoilafoeaknjaa.K
