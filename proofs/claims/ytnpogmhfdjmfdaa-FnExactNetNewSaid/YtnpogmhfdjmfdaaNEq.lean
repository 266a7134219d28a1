/-
  The laws' own comparisons of nets: what reads the same is told to be the same.
-/
import Derived.Test.YtnpogmhfdjmfdaaNb
import Derived.Test.YtnpogmhfdjmfdaaNa
import Derived.Test.YtnpogmhfdjmfdaaZExA
set_option linter.unusedVariables false
set_option linter.unusedSectionVars false
set_option linter.unusedSimpArgs false
namespace Go.Proofs.Ytnpogmhfdjmfdaa
open Go.RowKit Go.Sort
namespace N
def LenEs (es : List En) : Prop := ∀ e ∈ es, LenS e.s
def LenNs (ns : List Nd) : Prop := ∀ x ∈ ns, LenEs x.known
def LenWs (ws : List Wd) : Prop := ∀ x ∈ ws, LenEs x.known
theorem below_M {w w' : World} {l : List Ch} (h : M w.heap.size w w' l) : Below w.heap.size w w' := h.below
set_option maxRecDepth 100000 in
set_option maxHeartbeats 4000000 in
theorem eqEntry_same (w : World) (V1 V2 : SV) (e : En) {f1 f2 : List Nat} (h1 : sumR w [.slice V1.xr V1.nr V1.cr, .slice V1.xf V1.nf V1.cf, .slice V1.xt V1.nt V1.ct, .int .i64 (e.s).lo, .int .i64 (e.s).al, .slice V1.xk V1.nk V1.ck, .int .i64 (e.s).ka] e.s f1) (h2 : sumR w [.slice V2.xr V2.nr V2.cr, .slice V2.xf V2.nf V2.cf, .slice V2.xt V2.nt V2.ct, .int .i64 (e.s).lo, .int .i64 (e.s).al, .slice V2.xk V2.nk V2.ck, .int .i64 (e.s).ka] e.s f2) (hl : LenS e.s) :
    Calls Try.prog 50 #[.agg #[.int .i64 e.node, .int .i64 e.born, .int .i64 e.num, .slice V1.xr V1.nr V1.cr, .slice V1.xf V1.nf V1.cf, .slice V1.xt V1.nt V1.ct, .int .i64 (e.s).lo, .int .i64 (e.s).al, .slice V1.xk V1.nk V1.ck, .int .i64 (e.s).ka], .agg #[.int .i64 e.node, .int .i64 e.born, .int .i64 e.num, .slice V2.xr V2.nr V2.cr, .slice V2.xf V2.nf V2.cf, .slice V2.xt V2.nt V2.ct, .int .i64 (e.s).lo, .int .i64 (e.s).al, .slice V2.xk V2.nk V2.ck, .int .i64 (e.s).ka]] w fun r w' => r = .returned (.bool true) ∧ Below w.heap.size w w' := by
  obtain ⟨i, bo, nu, s⟩ := e
  simp only at h1 h2 hl ⊢
  have H := Lib.hid (((M.start w).alloc #[.int .i64 i, .int .i64 bo, .int .i64 nu, .slice V1.xr V1.nr V1.cr, .slice V1.xf V1.nf V1.cf, .slice V1.xt V1.nt V1.ct, .int .i64 s.lo, .int .i64 s.al, .slice V1.xk V1.nk V1.ck, .int .i64 s.ka] 76).alloc #[.int .i64 i, .int .i64 bo, .int .i64 nu, .slice V2.xr V2.nr V2.cr, .slice V2.xf V2.nf V2.cf, .slice V2.xt V2.nt V2.ct, .int .i64 s.lo, .int .i64 s.al, .slice V2.xk V2.nk V2.ck, .int .i64 s.ka] 76)
  obtain ⟨U1, e1, r1⟩ := sumR_rd (sumR_frame.below h1 H.out.below (Nat.le_refl _))
  obtain ⟨U2, e2, r2⟩ := sumR_rd (sumR_frame.below h2 H.out.below (Nat.le_refl _))
  have K := Lib.hid (eqSum_at _ U1 U2 s r1 r2 hl)
  simp only [List.cons.injEq, Value.slice.injEq, true_and, and_true] at e1 e2
  obtain ⟨⟨a1, a2, a3⟩, ⟨a4, a5, a6⟩, ⟨a7, a8, a9⟩, a10, a11, a12⟩ := e1
  obtain ⟨⟨b1, b2, b3⟩, ⟨b4, b5, b6⟩, ⟨b7, b8, b9⟩, b10, b11, b12⟩ := e2
  rw [← a1, ← a2, ← a3, ← a4, ← a5, ← a6, ← a7, ← a8, ← a9, ← a10, ← a11, ← a12, ← b1, ← b2, ← b3, ← b4, ← b5, ← b6, ← b7, ← b8, ← b9, ← b10, ← b11, ← b12] at K
  clear a1 a2 a3 a4 a5 a6 a7 a8 a9 a10 a11 a12 b1 b2 b3 b4 b5 b6 b7 b8 b9 b10 b11 b12 r1 r2 h1 h2 hl
  obtain ⟨c0, c1, c2, c3, c4, c5, c6, c7, c8, c9⟩ := H.out.p1.cells10
  obtain ⟨d0, d1, d2, d3, d4, d5, d6, d7, d8, d9⟩ := H.out.cells10
  simp only [World.size_alloc] at d0 d1 d2 d3 d4 d5 d6 d7 d8 d9
  go_enter Try.func50, Try.ntmps50
  go_wp2_with fail
  refine K.out.mono ?_
  rintro r w1 ⟨rfl, hb⟩
  have H1 := Lib.hid (H.out.later hb)
  clear K hb c0 c1 c2 c3 c4 c5 c6 c7 c8 c9 d0 d1 d2 d3 d4 d5 d6 d7 d8 d9 H
  go_wp2
  go_ret
  exact ⟨rfl, H1.out.below⟩
--begin lists
set_option maxRecDepth 100000 in
set_option maxHeartbeats 4000000 in
theorem eqEntryS_same (w : World) {x1 x2 : Option Addr} {n m c1 c2 : Nat} {xs : List En} {f1 f2 : List Nat} (h1 : knownR TY w [.slice x1 n c1] xs f1) (h2 : knownR TY w [.slice x2 m c2] xs f2) (hl : LenEs xs) :
    Calls Try.prog 44 #[.slice x1 n c1, .slice x2 m c2] w fun r w' => r = .returned (.bool true) ∧ Below w.heap.size w w' := by
  obtain rfl : n = xs.length := (slcR_row h1).1
  obtain rfl : m = xs.length := (slcR_row h2).1
  obtain ⟨_, _, e1, q1, q2⟩ := slcR_value h1
  have hm : xs.length ≤ maxLen := Nat.le_trans q1 q2
  unfold maxLen at hm
  clear e1 q1 q2
  have H1 := Lib.hid h1
  have H2 := Lib.hid h2
  have HL := Lib.hid hl
  have n0 : ((xs.length : Int) != (xs.length : Int)) = false := by simp
  clear h1 h2 hl
  go_enter Try.func44, Try.ntmps44
  go_wp2
  go_loopw [5] (fun i wr => ∃ k : Nat, k ≤ xs.length ∧ i = .int .i64 k ∧ Below w.heap.size w wr) (fun i _ => xs.length - (intOf i).toNat)
  case atStart => exact ⟨0, Nat.zero_le _, rfl, Below.refl _ _⟩
  case round =>
    obtain ⟨k, hk, rfl, hb⟩ := hrel
    have HB := Lib.hid hb
    clear hb
    by_cases hlt : k < xs.length
    · obtain ⟨a, ha⟩ : ∃ a, xs[k]? = some a := ⟨_, List.getElem?_eq_getElem hlt⟩
      have k0 : (0 : Int) ≤ (k : Int) := by omega
      have k1 : (k : Int) < (xs.length : Int) := by omega
      obtain ⟨g1, V1, p1, rfl, q1, _, r1, ca0, ca1, ca2, cas⟩ := known_at H1.out ha
      obtain ⟨g2, V2, p2, rfl, q2, _, r2, cb0, cb1, cb2, cbs⟩ := known_at H2.out ha
      have ca3 := cas 0 _ rfl
      have ca4 := cas 1 _ rfl
      have ca5 := cas 2 _ rfl
      have ca6 := cas 3 _ rfl
      have ca7 := cas 4 _ rfl
      have ca8 := cas 5 _ rfl
      have ca9 := cas 6 _ rfl
      have cb3 := cbs 0 _ rfl
      have cb4 := cbs 1 _ rfl
      have cb5 := cbs 2 _ rfl
      have cb6 := cbs 3 _ rfl
      have cb7 := cbs 4 _ rfl
      have cb8 := cbs 5 _ rfl
      have cb9 := cbs 6 _ rfl
      have R1 := Lib.hid r1
      have R2 := Lib.hid r2
      clear cas cbs r1 r2 q1 q2
      have LA := Lib.hid (HL.out a (List.mem_of_getElem? ha))
      clear ha
      have SS := Lib.hid (fun w' (hb : Below w.heap.size w w') => show w'.cell? ⟨g1, k * 10, none⟩ = some (.int .i64 a.node) ∧ w'.cell? ⟨g1, k * 10 + 1, none⟩ = some (.int .i64 a.born) ∧ w'.cell? ⟨g1, k * 10 + 2, none⟩ = some (.int .i64 a.num) ∧ w'.cell? ⟨g1, k * 10 + 3, none⟩ = some (.slice V1.xr V1.nr V1.cr) ∧ w'.cell? ⟨g1, k * 10 + 4, none⟩ = some (.slice V1.xf V1.nf V1.cf) ∧ w'.cell? ⟨g1, k * 10 + 5, none⟩ = some (.slice V1.xt V1.nt V1.ct) ∧ w'.cell? ⟨g1, k * 10 + 6, none⟩ = some (.int .i64 a.s.lo) ∧ w'.cell? ⟨g1, k * 10 + 7, none⟩ = some (.int .i64 a.s.al) ∧ w'.cell? ⟨g1, k * 10 + 8, none⟩ = some (.slice V1.xk V1.nk V1.ck) ∧ w'.cell? ⟨g1, k * 10 + 9, none⟩ = some (.int .i64 a.s.ka) ∧ w'.cell? ⟨g2, k * 10, none⟩ = some (.int .i64 a.node) ∧ w'.cell? ⟨g2, k * 10 + 1, none⟩ = some (.int .i64 a.born) ∧ w'.cell? ⟨g2, k * 10 + 2, none⟩ = some (.int .i64 a.num) ∧ w'.cell? ⟨g2, k * 10 + 3, none⟩ = some (.slice V2.xr V2.nr V2.cr) ∧ w'.cell? ⟨g2, k * 10 + 4, none⟩ = some (.slice V2.xf V2.nf V2.cf) ∧ w'.cell? ⟨g2, k * 10 + 5, none⟩ = some (.slice V2.xt V2.nt V2.ct) ∧ w'.cell? ⟨g2, k * 10 + 6, none⟩ = some (.int .i64 a.s.lo) ∧ w'.cell? ⟨g2, k * 10 + 7, none⟩ = some (.int .i64 a.s.al) ∧ w'.cell? ⟨g2, k * 10 + 8, none⟩ = some (.slice V2.xk V2.nk V2.ck) ∧ w'.cell? ⟨g2, k * 10 + 9, none⟩ = some (.int .i64 a.s.ka) from ⟨cell_later hb ca0, cell_later hb ca1, cell_later hb ca2, cell_later hb ca3, cell_later hb ca4, cell_later hb ca5, cell_later hb ca6, cell_later hb ca7, cell_later hb ca8, cell_later hb ca9, cell_later hb cb0, cell_later hb cb1, cell_later hb cb2, cell_later hb cb3, cell_later hb cb4, cell_later hb cb5, cell_later hb cb6, cell_later hb cb7, cell_later hb cb8, cell_later hb cb9⟩)
      clear ca0 ca1 ca2 ca3 ca4 ca5 ca6 ca7 ca8 ca9 cb0 cb1 cb2 cb3 cb4 cb5 cb6 cb7 cb8 cb9
      go_wp2
      refine wp_region_plan 99 (.take 0 (.take 1 (.take 2 (.take 3 (.take 4 (.take 5 (.take 6 (.take 7 (.alt 8 (.take 9 .done) .nomore))))))))) (fun w' => w'.cell? ⟨g1, k * 10, none⟩ = some (.int .i64 a.node) ∧ w'.cell? ⟨g1, k * 10 + 1, none⟩ = some (.int .i64 a.born) ∧ w'.cell? ⟨g1, k * 10 + 2, none⟩ = some (.int .i64 a.num) ∧ w'.cell? ⟨g1, k * 10 + 3, none⟩ = some (.slice V1.xr V1.nr V1.cr) ∧ w'.cell? ⟨g1, k * 10 + 4, none⟩ = some (.slice V1.xf V1.nf V1.cf) ∧ w'.cell? ⟨g1, k * 10 + 5, none⟩ = some (.slice V1.xt V1.nt V1.ct) ∧ w'.cell? ⟨g1, k * 10 + 6, none⟩ = some (.int .i64 a.s.lo) ∧ w'.cell? ⟨g1, k * 10 + 7, none⟩ = some (.int .i64 a.s.al) ∧ w'.cell? ⟨g1, k * 10 + 8, none⟩ = some (.slice V1.xk V1.nk V1.ck) ∧ w'.cell? ⟨g1, k * 10 + 9, none⟩ = some (.int .i64 a.s.ka) ∧ w'.cell? ⟨g2, k * 10, none⟩ = some (.int .i64 a.node) ∧ w'.cell? ⟨g2, k * 10 + 1, none⟩ = some (.int .i64 a.born) ∧ w'.cell? ⟨g2, k * 10 + 2, none⟩ = some (.int .i64 a.num) ∧ w'.cell? ⟨g2, k * 10 + 3, none⟩ = some (.slice V2.xr V2.nr V2.cr) ∧ w'.cell? ⟨g2, k * 10 + 4, none⟩ = some (.slice V2.xf V2.nf V2.cf) ∧ w'.cell? ⟨g2, k * 10 + 5, none⟩ = some (.slice V2.xt V2.nt V2.ct) ∧ w'.cell? ⟨g2, k * 10 + 6, none⟩ = some (.int .i64 a.s.lo) ∧ w'.cell? ⟨g2, k * 10 + 7, none⟩ = some (.int .i64 a.s.al) ∧ w'.cell? ⟨g2, k * 10 + 8, none⟩ = some (.slice V2.xk V2.nk V2.ck) ∧ w'.cell? ⟨g2, k * 10 + 9, none⟩ = some (.int .i64 a.s.ka)) (by kernel_rfl) (by kernel_rfl) (fun _ _ _ _ _ h => h) (SS.out _ HB.out.drew) ?_
      have HD := Lib.hid HB.out.drew
      clear HB
      generalize wr.drew = w3 at HD ⊢
      repeat (first | (refine plan_take (by rfl) (by rfl) ?_; apply Exists.intro; refine ⟨fun w' hw' => ?_, ?_⟩; (· ((try dsimp only at hw'); go_simp; (try with_reducible rfl))); simp only [Act.put, List.getElem_toArray, List.getElem_cons_succ, List.getElem_cons_zero, List.setIfInBounds_toArray, List.set_cons_zero, List.set_cons_succ]) | (refine plan_skip (by rfl) (by rfl) ?_; simp only [Act.put, List.getElem_toArray, List.getElem_cons_succ, List.getElem_cons_zero, List.setIfInBounds_toArray, List.set_cons_zero, List.set_cons_succ]))
      refine plan_last (by rfl) (fun K hK => ?_)
      go_simp
      refine (eqEntry_same _ V1 V2 a (sumR_frame.below R1.out HD.out (Nat.le_refl _)) (sumR_frame.below R2.out HD.out (Nat.le_refl _)) LA.out).mono ?_
      rintro r w4 ⟨rfl, hb⟩
      have HE := Lib.hid (HD.out.trans (hb.mono HD.out.size))
      clear hb
      refine hK _ _ (.inr (SS.out _ HE.out)) ?_
      clear hK K
      try simp only [Act.put, List.getElem_toArray, List.getElem_cons_succ, List.getElem_cons_zero, List.setIfInBounds_toArray, List.set_cons_zero, List.set_cons_succ]
      repeat (first | (refine plan_take (by rfl) (by rfl) ?_; apply Exists.intro; refine ⟨fun w' hw' => ?_, ?_⟩; (· ((try dsimp only at hw'); go_simp; (try with_reducible rfl))); simp only [Act.put, List.getElem_toArray, List.getElem_cons_succ, List.getElem_cons_zero, List.setIfInBounds_toArray, List.set_cons_zero, List.set_cons_succ]) | (refine plan_skip (by rfl) (by rfl) ?_; simp only [Act.put, List.getElem_toArray, List.getElem_cons_succ, List.getElem_cons_zero, List.setIfInBounds_toArray, List.set_cons_zero, List.set_cons_succ]))
      refine plan_done ?_
      clear SS HD
      go_wp2
      go_roundw
      case rel => exact ⟨k + 1, hlt, by go_num, HE.out⟩
      case measure => simp [intOf]; omega
    · go_wp2
      go_ret
      exact ⟨rfl, HB.out⟩
set_option maxRecDepth 100000 in
set_option maxHeartbeats 4000000 in
theorem eqNode_same (w : World) {a : Nd} {x1 x2 : Option Addr} {n1 n2 c1 c2 : Nat} {f1 f2 : List Nat} (h1 : knownR TY w [.slice x1 n1 c1] a.known f1) (h2 : knownR TY w [.slice x2 n2 c2] a.known f2) (hl : LenEs a.known) :
    Calls Try.prog 35 #[.agg #[.int .i64 a.born, .slice x1 n1 c1, .int .i64 a.beacon, .int .i64 a.level, .int .i64 a.up], .agg #[.int .i64 a.born, .slice x2 n2 c2, .int .i64 a.beacon, .int .i64 a.level, .int .i64 a.up]] w fun r w' => r = .returned (.bool true) ∧ Below w.heap.size w w' := by
  have H := Lib.hid (((M.start w).alloc #[.int .i64 a.born, .slice x1 n1 c1, .int .i64 a.beacon, .int .i64 a.level, .int .i64 a.up] 41).alloc #[.int .i64 a.born, .slice x2 n2 c2, .int .i64 a.beacon, .int .i64 a.level, .int .i64 a.up] 41)
  have R1 := Lib.hid h1
  have R2 := Lib.hid h2
  have HL := Lib.hid hl
  clear h1 h2 hl
  obtain ⟨c0, c1, c2, c3, c4⟩ := H.out.p1.cells5
  obtain ⟨d0, d1, d2, d3, d4⟩ := H.out.cells5
  simp only [World.size_alloc] at d0 d1 d2 d3 d4
  go_enter Try.func35, Try.ntmps35
  go_wp2_with fail
  refine (eqEntryS_same _ (knownR_frame.below R1.out H.out.below (Nat.le_refl _)) (knownR_frame.below R2.out H.out.below (Nat.le_refl _)) HL.out).mono ?_
  rintro r w1 ⟨rfl, hb⟩
  have H1 := Lib.hid (H.out.later hb)
  clear hb c0 c1 c2 c3 c4 d0 d1 d2 d3 d4
  obtain ⟨c0, c1, c2, c3, c4⟩ := H1.out.p1.cells5
  obtain ⟨d0, d1, d2, d3, d4⟩ := H1.out.cells5
  simp only [World.size_alloc] at d0 d1 d2 d3 d4
  go_wp2
  go_ret
  exact ⟨rfl, H1.out.below⟩
set_option maxRecDepth 100000 in
set_option maxHeartbeats 4000000 in
theorem eqNodeS_same (w : World) {x1 x2 : Option Addr} {n m c1 c2 : Nat} {xs : List Nd} {f1 f2 : List Nat} (h1 : nodesR TY w [.slice x1 n c1] xs f1) (h2 : nodesR TY w [.slice x2 m c2] xs f2) (hl : LenNs xs) :
    Calls Try.prog 19 #[.slice x1 n c1, .slice x2 m c2] w fun r w' => r = .returned (.bool true) ∧ Below w.heap.size w w' := by
  obtain rfl : n = xs.length := (slcR_row h1).1
  obtain rfl : m = xs.length := (slcR_row h2).1
  obtain ⟨_, _, e1, q1, q2⟩ := slcR_value h1
  have hm : xs.length ≤ maxLen := Nat.le_trans q1 q2
  unfold maxLen at hm
  clear e1 q1 q2
  have H1 := Lib.hid h1
  have H2 := Lib.hid h2
  have HL := Lib.hid hl
  have n0 : ((xs.length : Int) != (xs.length : Int)) = false := by simp
  clear h1 h2 hl
  go_enter Try.func19, Try.ntmps19
  go_wp2
  go_loopw [5] (fun i wr => ∃ k : Nat, k ≤ xs.length ∧ i = .int .i64 k ∧ Below w.heap.size w wr) (fun i _ => xs.length - (intOf i).toNat)
  case atStart => exact ⟨0, Nat.zero_le _, rfl, Below.refl _ _⟩
  case round =>
    obtain ⟨k, hk, rfl, hb⟩ := hrel
    have HB := Lib.hid hb
    clear hb
    by_cases hlt : k < xs.length
    · obtain ⟨a, ha⟩ : ∃ a, xs[k]? = some a := ⟨_, List.getElem?_eq_getElem hlt⟩
      have k0 : (0 : Int) ≤ (k : Int) := by omega
      have k1 : (k : Int) < (xs.length : Int) := by omega
      obtain ⟨g1, y1, d1, p1, rfl, q1, _, r1, _, _, ca0, ca1, ca2, ca3, ca4⟩ := node_at H1.out ha
      obtain ⟨g2, y2, d2, p2, rfl, q2, _, r2, _, _, cb0, cb1, cb2, cb3, cb4⟩ := node_at H2.out ha
      have R1 := Lib.hid r1
      have R2 := Lib.hid r2
      clear r1 r2 q1 q2
      have LA := Lib.hid (HL.out a (List.mem_of_getElem? ha))
      clear ha
      have SS := Lib.hid (fun w' (hb : Below w.heap.size w w') => show w'.cell? ⟨g1, k * 5, none⟩ = some (.int .i64 a.born) ∧ w'.cell? ⟨g1, k * 5 + 1, none⟩ = some (.slice y1 a.known.length d1) ∧ w'.cell? ⟨g1, k * 5 + 2, none⟩ = some (.int .i64 a.beacon) ∧ w'.cell? ⟨g1, k * 5 + 3, none⟩ = some (.int .i64 a.level) ∧ w'.cell? ⟨g1, k * 5 + 4, none⟩ = some (.int .i64 a.up) ∧ w'.cell? ⟨g2, k * 5, none⟩ = some (.int .i64 a.born) ∧ w'.cell? ⟨g2, k * 5 + 1, none⟩ = some (.slice y2 a.known.length d2) ∧ w'.cell? ⟨g2, k * 5 + 2, none⟩ = some (.int .i64 a.beacon) ∧ w'.cell? ⟨g2, k * 5 + 3, none⟩ = some (.int .i64 a.level) ∧ w'.cell? ⟨g2, k * 5 + 4, none⟩ = some (.int .i64 a.up) from ⟨cell_later hb ca0, cell_later hb ca1, cell_later hb ca2, cell_later hb ca3, cell_later hb ca4, cell_later hb cb0, cell_later hb cb1, cell_later hb cb2, cell_later hb cb3, cell_later hb cb4⟩)
      clear ca0 ca1 ca2 ca3 ca4 cb0 cb1 cb2 cb3 cb4
      go_wp2
      refine wp_region_plan 99 (.take 0 (.take 1 (.take 2 (.take 3 (.take 4 (.take 5 (.take 6 (.take 7 (.alt 8 (.take 9 .done) .nomore))))))))) (fun w' => w'.cell? ⟨g1, k * 5, none⟩ = some (.int .i64 a.born) ∧ w'.cell? ⟨g1, k * 5 + 1, none⟩ = some (.slice y1 a.known.length d1) ∧ w'.cell? ⟨g1, k * 5 + 2, none⟩ = some (.int .i64 a.beacon) ∧ w'.cell? ⟨g1, k * 5 + 3, none⟩ = some (.int .i64 a.level) ∧ w'.cell? ⟨g1, k * 5 + 4, none⟩ = some (.int .i64 a.up) ∧ w'.cell? ⟨g2, k * 5, none⟩ = some (.int .i64 a.born) ∧ w'.cell? ⟨g2, k * 5 + 1, none⟩ = some (.slice y2 a.known.length d2) ∧ w'.cell? ⟨g2, k * 5 + 2, none⟩ = some (.int .i64 a.beacon) ∧ w'.cell? ⟨g2, k * 5 + 3, none⟩ = some (.int .i64 a.level) ∧ w'.cell? ⟨g2, k * 5 + 4, none⟩ = some (.int .i64 a.up)) (by kernel_rfl) (by kernel_rfl) (fun _ _ _ _ _ h => h) (SS.out _ HB.out.drew) ?_
      have HD := Lib.hid HB.out.drew
      clear HB
      generalize wr.drew = w3 at HD ⊢
      repeat (first | (refine plan_take (by rfl) (by rfl) ?_; apply Exists.intro; refine ⟨fun w' hw' => ?_, ?_⟩; (· ((try dsimp only at hw'); go_simp; (try with_reducible rfl))); simp only [Act.put, List.getElem_toArray, List.getElem_cons_succ, List.getElem_cons_zero, List.setIfInBounds_toArray, List.set_cons_zero, List.set_cons_succ]) | (refine plan_skip (by rfl) (by rfl) ?_; simp only [Act.put, List.getElem_toArray, List.getElem_cons_succ, List.getElem_cons_zero, List.setIfInBounds_toArray, List.set_cons_zero, List.set_cons_succ]))
      refine plan_last (by rfl) (fun K hK => ?_)
      go_simp
      refine (eqNode_same _ (knownR_frame.below R1.out HD.out (Nat.le_refl _)) (knownR_frame.below R2.out HD.out (Nat.le_refl _)) LA.out).mono ?_
      rintro r w4 ⟨rfl, hb⟩
      have HE := Lib.hid (HD.out.trans (hb.mono HD.out.size))
      clear hb
      refine hK _ _ (.inr (SS.out _ HE.out)) ?_
      clear hK K
      try simp only [Act.put, List.getElem_toArray, List.getElem_cons_succ, List.getElem_cons_zero, List.setIfInBounds_toArray, List.set_cons_zero, List.set_cons_succ]
      repeat (first | (refine plan_take (by rfl) (by rfl) ?_; apply Exists.intro; refine ⟨fun w' hw' => ?_, ?_⟩; (· ((try dsimp only at hw'); go_simp; (try with_reducible rfl))); simp only [Act.put, List.getElem_toArray, List.getElem_cons_succ, List.getElem_cons_zero, List.setIfInBounds_toArray, List.set_cons_zero, List.set_cons_succ]) | (refine plan_skip (by rfl) (by rfl) ?_; simp only [Act.put, List.getElem_toArray, List.getElem_cons_succ, List.getElem_cons_zero, List.setIfInBounds_toArray, List.set_cons_zero, List.set_cons_succ]))
      refine plan_done ?_
      clear SS HD
      go_wp2
      go_roundw
      case rel => exact ⟨k + 1, hlt, by go_num, HE.out⟩
      case measure => simp [intOf]; omega
    · go_wp2
      go_ret
      exact ⟨rfl, HB.out⟩
set_option maxRecDepth 100000 in
set_option maxHeartbeats 4000000 in
theorem eqWord_same (w : World) {a : Wd} {x1 x2 : Option Addr} {n1 n2 c1 c2 : Nat} {f1 f2 : List Nat} (h1 : knownR TY w [.slice x1 n1 c1] a.known f1) (h2 : knownR TY w [.slice x2 n2 c2] a.known f2) (hl : LenEs a.known) :
    Calls Try.prog 36 #[.agg #[.int .i64 a.kind, .int .i64 a.src, .int .i64 a.dst, .int .i64 a.beacon, .int .i64 a.level, .slice x1 n1 c1], .agg #[.int .i64 a.kind, .int .i64 a.src, .int .i64 a.dst, .int .i64 a.beacon, .int .i64 a.level, .slice x2 n2 c2]] w fun r w' => r = .returned (.bool true) ∧ Below w.heap.size w w' := by
  have H := Lib.hid (((M.start w).alloc #[.int .i64 a.kind, .int .i64 a.src, .int .i64 a.dst, .int .i64 a.beacon, .int .i64 a.level, .slice x1 n1 c1] 84).alloc #[.int .i64 a.kind, .int .i64 a.src, .int .i64 a.dst, .int .i64 a.beacon, .int .i64 a.level, .slice x2 n2 c2] 84)
  have R1 := Lib.hid h1
  have R2 := Lib.hid h2
  have HL := Lib.hid hl
  clear h1 h2 hl
  obtain ⟨c0, c1, c2, c3, c4, c5⟩ := H.out.p1.cells6
  obtain ⟨d0, d1, d2, d3, d4, d5⟩ := H.out.cells6
  simp only [World.size_alloc] at d0 d1 d2 d3 d4 d5
  go_enter Try.func36, Try.ntmps36
  go_wp2_with fail
  refine (eqEntryS_same _ (knownR_frame.below R1.out H.out.below (Nat.le_refl _)) (knownR_frame.below R2.out H.out.below (Nat.le_refl _)) HL.out).mono ?_
  rintro r w1 ⟨rfl, hb⟩
  have H1 := Lib.hid (H.out.later hb)
  clear hb c0 c1 c2 c3 c4 c5 d0 d1 d2 d3 d4 d5
  obtain ⟨c0, c1, c2, c3, c4, c5⟩ := H1.out.p1.cells6
  obtain ⟨d0, d1, d2, d3, d4, d5⟩ := H1.out.cells6
  simp only [World.size_alloc] at d0 d1 d2 d3 d4 d5
  go_wp2
  go_ret
  exact ⟨rfl, H1.out.below⟩
set_option maxRecDepth 100000 in
set_option maxHeartbeats 4000000 in
theorem eqWordS_same (w : World) {x1 x2 : Option Addr} {n m c1 c2 : Nat} {xs : List Wd} {f1 f2 : List Nat} (h1 : wordsR TY w [.slice x1 n c1] xs f1) (h2 : wordsR TY w [.slice x2 m c2] xs f2) (hl : LenWs xs) :
    Calls Try.prog 21 #[.slice x1 n c1, .slice x2 m c2] w fun r w' => r = .returned (.bool true) ∧ Below w.heap.size w w' := by
  obtain rfl : n = xs.length := (slcR_row h1).1
  obtain rfl : m = xs.length := (slcR_row h2).1
  obtain ⟨_, _, e1, q1, q2⟩ := slcR_value h1
  have hm : xs.length ≤ maxLen := Nat.le_trans q1 q2
  unfold maxLen at hm
  clear e1 q1 q2
  have H1 := Lib.hid h1
  have H2 := Lib.hid h2
  have HL := Lib.hid hl
  have n0 : ((xs.length : Int) != (xs.length : Int)) = false := by simp
  clear h1 h2 hl
  go_enter Try.func21, Try.ntmps21
  go_wp2
  go_loopw [5] (fun i wr => ∃ k : Nat, k ≤ xs.length ∧ i = .int .i64 k ∧ Below w.heap.size w wr) (fun i _ => xs.length - (intOf i).toNat)
  case atStart => exact ⟨0, Nat.zero_le _, rfl, Below.refl _ _⟩
  case round =>
    obtain ⟨k, hk, rfl, hb⟩ := hrel
    have HB := Lib.hid hb
    clear hb
    by_cases hlt : k < xs.length
    · obtain ⟨a, ha⟩ : ∃ a, xs[k]? = some a := ⟨_, List.getElem?_eq_getElem hlt⟩
      have k0 : (0 : Int) ≤ (k : Int) := by omega
      have k1 : (k : Int) < (xs.length : Int) := by omega
      obtain ⟨g1, y1, d1, p1, rfl, q1, _, r1, _, _, ca0, ca1, ca2, ca3, ca4, ca5⟩ := wordR_at H1.out ha
      obtain ⟨g2, y2, d2, p2, rfl, q2, _, r2, _, _, cb0, cb1, cb2, cb3, cb4, cb5⟩ := wordR_at H2.out ha
      have R1 := Lib.hid r1
      have R2 := Lib.hid r2
      clear r1 r2 q1 q2
      have LA := Lib.hid (HL.out a (List.mem_of_getElem? ha))
      clear ha
      have SS := Lib.hid (fun w' (hb : Below w.heap.size w w') => show w'.cell? ⟨g1, k * 6, none⟩ = some (.int .i64 a.kind) ∧ w'.cell? ⟨g1, k * 6 + 1, none⟩ = some (.int .i64 a.src) ∧ w'.cell? ⟨g1, k * 6 + 2, none⟩ = some (.int .i64 a.dst) ∧ w'.cell? ⟨g1, k * 6 + 3, none⟩ = some (.int .i64 a.beacon) ∧ w'.cell? ⟨g1, k * 6 + 4, none⟩ = some (.int .i64 a.level) ∧ w'.cell? ⟨g1, k * 6 + 5, none⟩ = some (.slice y1 a.known.length d1) ∧ w'.cell? ⟨g2, k * 6, none⟩ = some (.int .i64 a.kind) ∧ w'.cell? ⟨g2, k * 6 + 1, none⟩ = some (.int .i64 a.src) ∧ w'.cell? ⟨g2, k * 6 + 2, none⟩ = some (.int .i64 a.dst) ∧ w'.cell? ⟨g2, k * 6 + 3, none⟩ = some (.int .i64 a.beacon) ∧ w'.cell? ⟨g2, k * 6 + 4, none⟩ = some (.int .i64 a.level) ∧ w'.cell? ⟨g2, k * 6 + 5, none⟩ = some (.slice y2 a.known.length d2) from ⟨cell_later hb ca0, cell_later hb ca1, cell_later hb ca2, cell_later hb ca3, cell_later hb ca4, cell_later hb ca5, cell_later hb cb0, cell_later hb cb1, cell_later hb cb2, cell_later hb cb3, cell_later hb cb4, cell_later hb cb5⟩)
      clear ca0 ca1 ca2 ca3 ca4 ca5 cb0 cb1 cb2 cb3 cb4 cb5
      go_wp2
      refine wp_region_plan 99 (.take 0 (.take 1 (.take 2 (.take 3 (.take 4 (.take 5 (.take 6 (.take 7 (.alt 8 (.take 9 .done) .nomore))))))))) (fun w' => w'.cell? ⟨g1, k * 6, none⟩ = some (.int .i64 a.kind) ∧ w'.cell? ⟨g1, k * 6 + 1, none⟩ = some (.int .i64 a.src) ∧ w'.cell? ⟨g1, k * 6 + 2, none⟩ = some (.int .i64 a.dst) ∧ w'.cell? ⟨g1, k * 6 + 3, none⟩ = some (.int .i64 a.beacon) ∧ w'.cell? ⟨g1, k * 6 + 4, none⟩ = some (.int .i64 a.level) ∧ w'.cell? ⟨g1, k * 6 + 5, none⟩ = some (.slice y1 a.known.length d1) ∧ w'.cell? ⟨g2, k * 6, none⟩ = some (.int .i64 a.kind) ∧ w'.cell? ⟨g2, k * 6 + 1, none⟩ = some (.int .i64 a.src) ∧ w'.cell? ⟨g2, k * 6 + 2, none⟩ = some (.int .i64 a.dst) ∧ w'.cell? ⟨g2, k * 6 + 3, none⟩ = some (.int .i64 a.beacon) ∧ w'.cell? ⟨g2, k * 6 + 4, none⟩ = some (.int .i64 a.level) ∧ w'.cell? ⟨g2, k * 6 + 5, none⟩ = some (.slice y2 a.known.length d2)) (by kernel_rfl) (by kernel_rfl) (fun _ _ _ _ _ h => h) (SS.out _ HB.out.drew) ?_
      have HD := Lib.hid HB.out.drew
      clear HB
      generalize wr.drew = w3 at HD ⊢
      repeat (first | (refine plan_take (by rfl) (by rfl) ?_; apply Exists.intro; refine ⟨fun w' hw' => ?_, ?_⟩; (· ((try dsimp only at hw'); go_simp; (try with_reducible rfl))); simp only [Act.put, List.getElem_toArray, List.getElem_cons_succ, List.getElem_cons_zero, List.setIfInBounds_toArray, List.set_cons_zero, List.set_cons_succ]) | (refine plan_skip (by rfl) (by rfl) ?_; simp only [Act.put, List.getElem_toArray, List.getElem_cons_succ, List.getElem_cons_zero, List.setIfInBounds_toArray, List.set_cons_zero, List.set_cons_succ]))
      refine plan_last (by rfl) (fun K hK => ?_)
      go_simp
      refine (eqWord_same _ (knownR_frame.below R1.out HD.out (Nat.le_refl _)) (knownR_frame.below R2.out HD.out (Nat.le_refl _)) LA.out).mono ?_
      rintro r w4 ⟨rfl, hb⟩
      have HE := Lib.hid (HD.out.trans (hb.mono HD.out.size))
      clear hb
      refine hK _ _ (.inr (SS.out _ HE.out)) ?_
      clear hK K
      try simp only [Act.put, List.getElem_toArray, List.getElem_cons_succ, List.getElem_cons_zero, List.setIfInBounds_toArray, List.set_cons_zero, List.set_cons_succ]
      repeat (first | (refine plan_take (by rfl) (by rfl) ?_; apply Exists.intro; refine ⟨fun w' hw' => ?_, ?_⟩; (· ((try dsimp only at hw'); go_simp; (try with_reducible rfl))); simp only [Act.put, List.getElem_toArray, List.getElem_cons_succ, List.getElem_cons_zero, List.setIfInBounds_toArray, List.set_cons_zero, List.set_cons_succ]) | (refine plan_skip (by rfl) (by rfl) ?_; simp only [Act.put, List.getElem_toArray, List.getElem_cons_succ, List.getElem_cons_zero, List.setIfInBounds_toArray, List.set_cons_zero, List.set_cons_succ]))
      refine plan_done ?_
      clear SS HD
      go_wp2
      go_roundw
      case rel => exact ⟨k + 1, hlt, by go_num, HE.out⟩
      case measure => simp [intOf]; omega
    · go_wp2
      go_ret
      exact ⟨rfl, HB.out⟩
set_option maxRecDepth 100000 in
set_option maxHeartbeats 4000000 in
theorem eqBoolS_same (w : World) {x1 x2 : Option Addr} {n m c1 c2 : Nat} {xs : List Bool} {f1 f2 : List Nat} (h1 : linksR TY w [.slice x1 n c1] xs f1) (h2 : linksR TY w [.slice x2 m c2] xs f2) :
    Calls Try.prog 20 #[.slice x1 n c1, .slice x2 m c2] w fun r w' => r = .returned (.bool true) ∧ Below w.heap.size w w' := by
  obtain rfl : n = xs.length := (slcR_row h1).1
  obtain rfl : m = xs.length := (slcR_row h2).1
  obtain ⟨_, _, e1, q1, q2⟩ := slcR_value h1
  have hm : xs.length ≤ maxLen := Nat.le_trans q1 q2
  unfold maxLen at hm
  clear e1 q1 q2
  have H1 := Lib.hid h1
  have H2 := Lib.hid h2
  have n0 : ((xs.length : Int) != (xs.length : Int)) = false := by simp
  clear h1 h2
  go_enter Try.func20, Try.ntmps20
  go_wp2
  go_loopw [5] (fun i wr => ∃ k : Nat, k ≤ xs.length ∧ i = .int .i64 k ∧ Below w.heap.size w wr) (fun i _ => xs.length - (intOf i).toNat)
  case atStart => exact ⟨0, Nat.zero_le _, rfl, Below.refl _ _⟩
  case round =>
    obtain ⟨k, hk, rfl, hb⟩ := hrel
    have HB := Lib.hid hb
    clear hb
    by_cases hlt : k < xs.length
    · obtain ⟨a, ha⟩ : ∃ a, xs[k]? = some a := ⟨_, List.getElem?_eq_getElem hlt⟩
      have k0 : (0 : Int) ≤ (k : Int) := by omega
      have k1 : (k : Int) < (xs.length : Int) := by omega
      obtain ⟨g1, rfl, _, ca0⟩ := link_at H1.out ha
      obtain ⟨g2, rfl, _, cb0⟩ := link_at H2.out ha
      clear ha
      have SS := Lib.hid (fun w' (hb : Below w.heap.size w w') => show w'.cell? ⟨g1, k, none⟩ = some (.bool a) ∧ w'.cell? ⟨g2, k, none⟩ = some (.bool a) from ⟨cell_later hb ca0, cell_later hb cb0⟩)
      clear ca0 cb0
      go_wp2
      refine wp_region_plan 99 (.take 0 (.take 1 (.take 2 (.take 3 (.take 4 (.take 5 (.take 6 (.take 7 (.take 8 .done))))))))) (fun w' => w'.cell? ⟨g1, k, none⟩ = some (.bool a) ∧ w'.cell? ⟨g2, k, none⟩ = some (.bool a)) (by kernel_rfl) (by kernel_rfl) (fun _ _ _ _ _ h => h) (SS.out _ HB.out.drew) ?_
      have HD := Lib.hid HB.out.drew
      clear HB
      generalize wr.drew = w3 at HD ⊢
      repeat (first | (refine plan_take (by rfl) (by rfl) ?_; apply Exists.intro; refine ⟨fun w' hw' => ?_, ?_⟩; (· ((try dsimp only at hw'); go_simp; (try with_reducible rfl))); simp only [Act.put, List.getElem_toArray, List.getElem_cons_succ, List.getElem_cons_zero, List.setIfInBounds_toArray, List.set_cons_zero, List.set_cons_succ]) | (refine plan_skip (by rfl) (by rfl) ?_; simp only [Act.put, List.getElem_toArray, List.getElem_cons_succ, List.getElem_cons_zero, List.setIfInBounds_toArray, List.set_cons_zero, List.set_cons_succ]))
      have HE := HD
      refine plan_done ?_
      clear SS HD
      go_wp2
      go_roundw
      case rel => exact ⟨k + 1, hlt, by go_num, HE.out⟩
      case measure => simp [intOf]; omega
    · go_wp2
      go_ret
      exact ⟨rfl, HB.out⟩
theorem eqIntSS_same (w : World) {v1 v2 : Value} {rs : List (List Int)} {f1 f2 : List Nat} (h1 : rowsR w [v1] rs f1) (h2 : rowsR w [v2] rs f2) :
    Calls Try.prog 37 #[v1, v2] w fun r w' => r = .returned (.bool true) ∧ Below w.heap.size w w' := by
  have hm : rs.length ≤ maxLen := by obtain ⟨_, _, _, q1, q2⟩ := slcR_value h1; exact Nat.le_trans q1 q2
  have hr : ∀ i, i < rs.length → (rs.getD i []).length ≤ maxLen := fun i hi => by
    obtain ⟨x, c, rfl, _⟩ := slcR_value h1
    have hi' : rs[i]? = some (rs.getD i []) := by simp [List.getD, hi]
    obtain ⟨_, _, _, _, _, _, _, _, q1, q2, _⟩ := row_at h1 hi'
    exact Nat.le_trans q1 q2
  obtain ⟨u1, e1, r1⟩ := rowsR_rd h1
  obtain ⟨u2, e2, r2⟩ := rowsR_rd h2
  cases e1
  cases e2
  have K := eqIntSS_at w v1 v2 rs rs r1 r2 hm hr
  rw [show decide (rs = rs) = true from decide_eq_true rfl] at K
  exact K
set_option maxRecDepth 100000 in
set_option maxHeartbeats 4000000 in
theorem eqIntSSS_same (w : World) {x1 x2 : Option Addr} {n m c1 c2 : Nat} {xs : List (List (List Int))} {f1 f2 : List Nat} (h1 : pastR TY w [.slice x1 n c1] xs f1) (h2 : pastR TY w [.slice x2 m c2] xs f2) :
    Calls Try.prog 22 #[.slice x1 n c1, .slice x2 m c2] w fun r w' => r = .returned (.bool true) ∧ Below w.heap.size w w' := by
  obtain rfl : n = xs.length := (slcR_row h1).1
  obtain rfl : m = xs.length := (slcR_row h2).1
  obtain ⟨_, _, e1, q1, q2⟩ := slcR_value h1
  have hm : xs.length ≤ maxLen := Nat.le_trans q1 q2
  unfold maxLen at hm
  clear e1 q1 q2
  have H1 := Lib.hid h1
  have H2 := Lib.hid h2
  have n0 : ((xs.length : Int) != (xs.length : Int)) = false := by simp
  clear h1 h2
  go_enter Try.func22, Try.ntmps22
  go_wp2
  go_loopw [5] (fun i wr => ∃ k : Nat, k ≤ xs.length ∧ i = .int .i64 k ∧ Below w.heap.size w wr) (fun i _ => xs.length - (intOf i).toNat)
  case atStart => exact ⟨0, Nat.zero_le _, rfl, Below.refl _ _⟩
  case round =>
    obtain ⟨k, hk, rfl, hb⟩ := hrel
    have HB := Lib.hid hb
    clear hb
    by_cases hlt : k < xs.length
    · obtain ⟨a, ha⟩ : ∃ a, xs[k]? = some a := ⟨_, List.getElem?_eq_getElem hlt⟩
      have k0 : (0 : Int) ≤ (k : Int) := by omega
      have k1 : (k : Int) < (xs.length : Int) := by omega
      obtain ⟨g1, y1, d1, p1, rfl, q1, _, r1, _, _, ca0⟩ := past_at H1.out ha
      obtain ⟨g2, y2, d2, p2, rfl, q2, _, r2, _, _, cb0⟩ := past_at H2.out ha
      have R1 := Lib.hid r1
      have R2 := Lib.hid r2
      clear r1 r2 q1 q2
      clear ha
      have SS := Lib.hid (fun w' (hb : Below w.heap.size w w') => show w'.cell? ⟨g1, k, none⟩ = some (.slice y1 a.length d1) ∧ w'.cell? ⟨g2, k, none⟩ = some (.slice y2 a.length d2) from ⟨cell_later hb ca0, cell_later hb cb0⟩)
      clear ca0 cb0
      go_wp2
      refine wp_region_plan 99 (.take 0 (.take 1 (.take 2 (.take 3 (.take 4 (.take 5 (.take 6 (.take 7 (.alt 8 (.take 9 .done) .nomore))))))))) (fun w' => w'.cell? ⟨g1, k, none⟩ = some (.slice y1 a.length d1) ∧ w'.cell? ⟨g2, k, none⟩ = some (.slice y2 a.length d2)) (by kernel_rfl) (by kernel_rfl) (fun _ _ _ _ _ h => h) (SS.out _ HB.out.drew) ?_
      have HD := Lib.hid HB.out.drew
      clear HB
      generalize wr.drew = w3 at HD ⊢
      repeat (first | (refine plan_take (by rfl) (by rfl) ?_; apply Exists.intro; refine ⟨fun w' hw' => ?_, ?_⟩; (· ((try dsimp only at hw'); go_simp; (try with_reducible rfl))); simp only [Act.put, List.getElem_toArray, List.getElem_cons_succ, List.getElem_cons_zero, List.setIfInBounds_toArray, List.set_cons_zero, List.set_cons_succ]) | (refine plan_skip (by rfl) (by rfl) ?_; simp only [Act.put, List.getElem_toArray, List.getElem_cons_succ, List.getElem_cons_zero, List.setIfInBounds_toArray, List.set_cons_zero, List.set_cons_succ]))
      refine plan_last (by rfl) (fun K hK => ?_)
      go_simp
      refine (eqIntSS_same _ (rowsR_frame.below R1.out HD.out (Nat.le_refl _)) (rowsR_frame.below R2.out HD.out (Nat.le_refl _))).mono ?_
      rintro r w4 ⟨rfl, hb⟩
      have HE := Lib.hid (HD.out.trans (hb.mono HD.out.size))
      clear hb
      refine hK _ _ (.inr (SS.out _ HE.out)) ?_
      clear hK K
      try simp only [Act.put, List.getElem_toArray, List.getElem_cons_succ, List.getElem_cons_zero, List.setIfInBounds_toArray, List.set_cons_zero, List.set_cons_succ]
      repeat (first | (refine plan_take (by rfl) (by rfl) ?_; apply Exists.intro; refine ⟨fun w' hw' => ?_, ?_⟩; (· ((try dsimp only at hw'); go_simp; (try with_reducible rfl))); simp only [Act.put, List.getElem_toArray, List.getElem_cons_succ, List.getElem_cons_zero, List.setIfInBounds_toArray, List.set_cons_zero, List.set_cons_succ]) | (refine plan_skip (by rfl) (by rfl) ?_; simp only [Act.put, List.getElem_toArray, List.getElem_cons_succ, List.getElem_cons_zero, List.setIfInBounds_toArray, List.set_cons_zero, List.set_cons_succ]))
      refine plan_done ?_
      clear SS HD
      go_wp2
      go_roundw
      case rel => exact ⟨k + 1, hlt, by go_num, HE.out⟩
      case measure => simp [intOf]; omega
    · go_wp2
      go_ret
      exact ⟨rfl, HB.out⟩
structure LenN (n : Nt) : Prop where
  ns : LenNs n.nodes
  ws : LenWs n.words
set_option maxRecDepth 100000 in
set_option maxHeartbeats 4000000 in
theorem eqNet_same (w : World) {a : Nt} {x1a x1b x1c x1d x2a x2b x2c x2d : Option Addr} {n1a n1b n1c n1d n2a n2b n2c n2d c1a c1b c1c c1d c2a c2b c2c c2d : Nat} {f1 f2 : List Nat} (h1 : netR TY w [.slice x1a n1a c1a, .slice x1b n1b c1b, .slice x1c n1c c1c, .slice x1d n1d c1d] a f1) (h2 : netR TY w [.slice x2a n2a c2a, .slice x2b n2b c2b, .slice x2c n2c c2c, .slice x2d n2d c2d] a f2) (hl : LenN a) :
    Calls Try.prog 7 #[.agg #[.slice x1a n1a c1a, .slice x1b n1b c1b, .slice x1c n1c c1c, .slice x1d n1d c1d], .agg #[.slice x2a n2a c2a, .slice x2b n2b c2b, .slice x2c n2c c2c, .slice x2d n2d c2d]] w fun r w' => r = .returned (.bool true) ∧ Below w.heap.size w w' := by
  have H := Lib.hid (((M.start w).alloc #[.slice x1a n1a c1a, .slice x1b n1b c1b, .slice x1c n1c c1c, .slice x1d n1d c1d] 28).alloc #[.slice x2a n2a c2a, .slice x2b n2b c2b, .slice x2c n2c c2c, .slice x2d n2d c2d] 28)
  obtain ⟨_, _, _, _, _, _, _, _, e1, _, ra1, ra2, ra3, ra4⟩ := netR_iff.1 h1
  cases e1
  obtain ⟨_, _, _, _, _, _, _, _, e2, _, rb1, rb2, rb3, rb4⟩ := netR_iff.1 h2
  cases e2
  have A1 := Lib.hid ra1
  have A2 := Lib.hid ra2
  have A3 := Lib.hid ra3
  have A4 := Lib.hid ra4
  have B1 := Lib.hid rb1
  have B2 := Lib.hid rb2
  have B3 := Lib.hid rb3
  have B4 := Lib.hid rb4
  have HL := Lib.hid hl
  clear h1 h2 hl ra1 ra2 ra3 ra4 rb1 rb2 rb3 rb4
  obtain ⟨c0, c1, c2, c3⟩ := H.out.p1.cells4
  obtain ⟨d0, d1, d2, d3⟩ := H.out.cells4
  simp only [World.size_alloc] at d0 d1 d2 d3
  go_enter Try.func7, Try.ntmps7
  go_wp2_with fail
  refine (eqNodeS_same _ (nodesR_frame.below A1.out H.out.below (Nat.le_refl _)) (nodesR_frame.below B1.out H.out.below (Nat.le_refl _)) HL.out.ns).mono ?_
  rintro r w1 ⟨rfl, hb⟩
  have H1 := Lib.hid (H.out.later hb)
  clear hb c0 c1 c2 c3 d0 d1 d2 d3
  obtain ⟨c0, c1, c2, c3⟩ := H1.out.p1.cells4
  obtain ⟨d0, d1, d2, d3⟩ := H1.out.cells4
  simp only [World.size_alloc] at d0 d1 d2 d3
  go_wp2_with fail
  refine (eqBoolS_same _ (linksR_frame.below A2.out H1.out.below (Nat.le_refl _)) (linksR_frame.below B2.out H1.out.below (Nat.le_refl _))).mono ?_
  rintro r w2 ⟨rfl, hb⟩
  have H2 := Lib.hid (H1.out.later hb)
  clear hb c0 c1 c2 c3 d0 d1 d2 d3
  obtain ⟨c0, c1, c2, c3⟩ := H2.out.p1.cells4
  obtain ⟨d0, d1, d2, d3⟩ := H2.out.cells4
  simp only [World.size_alloc] at d0 d1 d2 d3
  go_wp2_with fail
  refine (eqWordS_same _ (wordsR_frame.below A3.out H2.out.below (Nat.le_refl _)) (wordsR_frame.below B3.out H2.out.below (Nat.le_refl _)) HL.out.ws).mono ?_
  rintro r w3 ⟨rfl, hb⟩
  have H3 := Lib.hid (H2.out.later hb)
  clear hb c0 c1 c2 c3 d0 d1 d2 d3
  obtain ⟨c0, c1, c2, c3⟩ := H3.out.p1.cells4
  obtain ⟨d0, d1, d2, d3⟩ := H3.out.cells4
  simp only [World.size_alloc] at d0 d1 d2 d3
  go_wp2_with fail
  refine (eqIntSSS_same _ (pastR_frame.below A4.out H3.out.below (Nat.le_refl _)) (pastR_frame.below B4.out H3.out.below (Nat.le_refl _))).mono ?_
  rintro r w4 ⟨rfl, hb⟩
  have H4 := Lib.hid (H3.out.later hb)
  clear hb c0 c1 c2 c3 d0 d1 d2 d3
  obtain ⟨c0, c1, c2, c3⟩ := H4.out.p1.cells4
  obtain ⟨d0, d1, d2, d3⟩ := H4.out.cells4
  simp only [World.size_alloc] at d0 d1 d2 d3
  go_wp2
  go_ret
  exact ⟨rfl, H4.out.below⟩
end N
end Go.Proofs.Ytnpogmhfdjmfdaa
