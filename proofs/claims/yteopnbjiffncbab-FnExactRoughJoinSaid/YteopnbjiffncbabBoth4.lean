/-
  The program's FewAdd, and the model's FewJoin.
-/
import Derived.Test.YteopnbjiffncbabBoth3
namespace Go.Proofs.Yteopnbjiffncbab
open Go.RowKit Go.Sort

set_option maxHeartbeats 2000000 in
theorem imFewAdd_at (w : World) (u : Value) (zs : List Int) (t : Int) (h : Ints w u zs) :
    Calls Try.prog 37 #[.agg #[u], .int .i64 t] w fun e w' => ∃ v, e = .returned (.tuple #[.agg #[v], .bool (addOkF zs t)]) ∧ OwnI w' w.heap.size v (addF zs t) ∧ Below w.heap.size w w' := by
  rw [← join_add, ← joinF_add]
  have hA := ((Below.refl w.heap.size w).alloc (Nat.le_refl _) (.cells #[u] 46)).alloc (by simp) (.cells #[.slice none 0 0] 46)
  have I := h.below hA (Nat.le_refl _)
  have KM : Hid (∀ W, Calls Try.prog 65 #[.int .i64 t] W fun e w' => e = .returned (.int .i64 (markV t)) ∧ W = w') := fun W => imMark_at t W
  obtain ⟨⟨x, c, hx⟩, _⟩ := h.cases
  obtain ⟨n, hn⟩ : ∃ n, n = zs.length := ⟨_, rfl⟩
  rw [← hn] at hx
  subst hx
  generalize markV t = M at *
  obtain ⟨w0, hw0⟩ : ∃ w0, w0 = (w.alloc (.cells #[.slice x n c] 46)).alloc (.cells #[.slice none 0 0] 46) := ⟨_, rfl⟩
  have cb : w0.cell? ⟨w.heap.size, 0, none⟩ = some (.slice x n c) := by rw [hw0, World.cell?_alloc_past (hn := by simp)]; simp
  have cr : w0.cell? ⟨w.heap.size + 1, 0, none⟩ = some (.slice none 0 0) := by rw [hw0, World.cell?_alloc_at (hn := by simp)]; simp
  have fr : w0.frozen? ⟨w.heap.size + 1, 0, none⟩ = false := by rw [hw0]; exact World.frozen?_alloc_at _ _ _ _ (by simp)
  have S0 : Hid (w0.heap.size = w.heap.size + 2) := by show w0.heap.size = _; rw [hw0]; simp
  rw [← hw0] at hA I
  have hA1 := (Below.refl w0.heap.size w0).drew.alloc (Nat.le_refl _) (.cells #[.int .i64 M] 3)
  have i1 := I.below hA1 (Nat.le_refl _)
  have i2 : Ints (w0.drew.alloc (.cells #[.int .i64 M] 3)) (.slice (some ⟨w0.heap.size, 0, none⟩) 1 1) [M] := by
    refine .inr ⟨w0.heap.size, 0, 1, rfl, Nat.le_refl _, by unfold maxLen; omega, by simp, fun i hi => ?_⟩
    obtain rfl : i = 0 := by simpa using hi
    rw [World.cell?_alloc_at (hn := by simp)]; simp
  have KJ := Lib.hid (imFewJoin_at (w0.drew.alloc (.cells #[.int .i64 M] 3)) _ _ zs [M] i1 i2)
  have cr1 := cell_later hA1 cr
  have fr1 : (w0.drew.alloc (.cells #[.int .i64 M] 3)).frozen? ⟨w.heap.size + 1, 0, none⟩ = false := free_later' hA1 fr (World.block_lt_of_cell? _ _ cr)
  have cb1 := cell_later hA1 cb
  have HA := Lib.hid hA
  have HA1 := Lib.hid hA1
  have HW := Lib.hid hw0
  have l1 : w.heap.size + 1 < w0.heap.size := World.block_lt_of_cell? _ _ cr
  have l0 : w.heap.size < w0.heap.size := by omega
  clear h hn hA I hA1 i1 i2 hw0
  go_enter Try.func37, Try.ntmps37
  go_wp2_with fail
  rw [← HW.out]
  clear HW
  go_region_with (first
    | (go_at_call 65; refine (KM.out _).mono ?_; rintro e w' ⟨rfl, rfl⟩)
    | (go_at_call 41; refine KJ.out.mono ?_; rintro e w3 ⟨v3, rfl, ho3, hb3⟩; obtain ⟨x3, c3, rfl⟩ := ho3.form; have cr3 := cell_later hb3 cr1; have fr3 : w3.frozen? ⟨w.heap.size + 1, 0, none⟩ = false := free_later' hb3 fr1 (World.block_lt_of_cell? _ _ cr1)))
  all_goals
    have hs := grownBy_setCell w3 ⟨w.heap.size + 1, 0, none⟩ (.slice x3 (joinF zs [M]).length c3)
    have o3 := (ho3.kept hs (fun k e => by simp at e; have := S0.out; simp; omega)).base (B' := w.heap.size) (by have := S0.out; simp; omega)
    have hb4 : Below w.heap.size w (w3.setCell ⟨w.heap.size + 1, 0, none⟩ (.slice x3 (joinF zs [M]).length c3)) := ((HA.out.trans (HA1.out.mono HA.out.size)).trans (hb3.mono (by have := S0.out; simp; omega))).setCell (by simp) _
    have hr := World.cell?_setCell_same w3 ⟨w.heap.size + 1, 0, none⟩ (.slice x3 (joinF zs [M]).length c3) cr3
    have O3 := Lib.hid o3
    have HB4 := Lib.hid hb4
    have HR := Lib.hid hr
    clear ho3 hb3 hs o3 hb4 hr
    generalize (joinF zs [M]).length = n3 at *
    go_wp2
    have hr := HR.out
    exact bodyPost_ret (v := .tuple #[.agg #[.slice x3 n3 c3], .bool (joinOkF zs [M])]) (by simp [results, Try.results37, go_sem, hr]) rfl ⟨_, rfl, O3.out, HB4.out⟩

theorem fold_put : ∀ (ys zs : List Int), Asc zs → zs.length ≤ 6 → ys.foldl putV zs = joinV6 zs ys
  | [], zs, _, hl => by show zs = (unionL zs []).take 6; rw [show unionL zs [] = zs from rfl, List.take_of_length_le hl]
  | y :: ys, zs, h, hl => by
    show ys.foldl putV (putV zs y) = (unionL (ins y zs) ys).take 6
    have e : putV zs y = (ins y zs).take 6 := by unfold putV; rw [putL_ins y h]
    rw [e, fold_put ys _ ((ins_asc y h).take) (by simp; omega)]
    exact union_take 6 ys (ins y zs)
theorem fold_take (zs ys : List Int) (k : Nat) (hk : k < ys.length) : (ys.take (k + 1)).foldl putV zs = putV ((ys.take k).foldl putV zs) (ys.getD k 0) := by
  rw [List.take_succ_eq_append_getElem hk, List.foldl_append]
  simp [hk]
theorem fold_len (zs : List Int) (hl : zs.length ≤ 6) : ∀ ys : List Int, (ys.foldl putV zs).length ≤ 6
  | [] => hl
  | y :: ys => fold_len (putV zs y) (putV_len _ _) ys

set_option maxHeartbeats 2000000 in
theorem spFewJoin_no (w : World) (u v : Value) (zs ys : List Int) (ha : Ints w u zs) (hb : Ints w v ys) (hno : joinOkF zs ys = false) :
    Calls Try.prog 40 #[.agg #[u], .agg #[v]] w fun e w' => e = .returned (.tuple #[.agg #[.slice none 0 0], .bool false]) ∧ Below w.heap.size w w' := by
  have hA := (((Below.refl w.heap.size w).alloc (Nat.le_refl _) (.cells #[u] 46)).alloc (by simp) (.cells #[v] 46)).alloc (by simp; omega) (.cells #[.slice none 0 0] 46)
  have KA := Lib.hid (spFewOk_at _ u zs (ha.below hA (Nat.le_refl _)))
  have JB := Lib.hid (hb.below hA (Nat.le_refl _))
  have HA := Lib.hid hA
  obtain ⟨⟨x, c, hx⟩, _⟩ := ha.cases
  obtain ⟨⟨y, d, hy⟩, _⟩ := hb.cases
  obtain ⟨na, hna⟩ : ∃ n, n = zs.length := ⟨_, rfl⟩
  obtain ⟨nb, hnb⟩ : ∃ n, n = ys.length := ⟨_, rfl⟩
  rw [← hna] at hx
  rw [← hnb] at hy
  subst hx hy
  obtain ⟨w0, hw0⟩ : ∃ w0, w0 = ((w.alloc (.cells #[.slice x na c] 46)).alloc (.cells #[.slice y nb d] 46)).alloc (.cells #[.slice none 0 0] 46) := ⟨_, rfl⟩
  have c1 : w0.cell? ⟨w.heap.size + 1, 0, none⟩ = some (.slice y nb d) := by rw [hw0, World.cell?_alloc_past (hn := by simp), World.cell?_alloc_at (hn := by simp)]; simp
  have c2 : w0.cell? ⟨w.heap.size + 1 + 1, 0, none⟩ = some (.slice none 0 0) := by rw [hw0, World.cell?_alloc_at (hn := by simp)]; simp
  have f2 : w0.frozen? ⟨w.heap.size + 1 + 1, 0, none⟩ = false := by rw [hw0]; exact World.frozen?_alloc_at _ _ _ _ (by simp)
  rw [← hw0] at KA JB HA
  have HW := Lib.hid hw0
  clear ha hb hA hna hnb hw0
  cases hok : fewB zs with
  | false =>
    rw [hok] at KA
    clear hok hno
    go_enter Try.func40, Try.ntmps40
    go_wp2_with fail
    rw [← HW.out]
    refine KA.out.mono ?_
    rintro e w1 ⟨rfl, hb1⟩
    have c21 := cell_later hb1 c2
    have f21 : w1.frozen? ⟨w.heap.size + 1 + 1, 0, none⟩ = false := free_later' hb1 f2 (World.block_lt_of_cell? _ _ c2)
    have L1 := Lib.hid (HA.out.trans (hb1.mono HA.out.size))
    clear hb1
    go_wp2
    have hr := World.cell?_setCell_same w1 ⟨w.heap.size + 1 + 1, 0, none⟩ (.slice none 0 0) c21
    exact bodyPost_ret (v := .tuple #[.agg #[.slice none 0 0], .bool false]) (by simp [results, Try.results40, go_sem, hr]) rfl ⟨rfl, L1.out.setCell (by simp; omega) _⟩
  | true =>
    rw [hok] at KA
    have okb : fewB ys = false := by unfold joinOkF at hno; rw [hok] at hno; simpa using hno
    clear hok hno
    go_enter Try.func40, Try.ntmps40
    go_wp2_with fail
    rw [← HW.out]
    refine KA.out.mono ?_
    rintro e w1 ⟨rfl, hb1⟩
    have c11 := cell_later hb1 c1
    have c21 := cell_later hb1 c2
    have f21 : w1.frozen? ⟨w.heap.size + 1 + 1, 0, none⟩ = false := free_later' hb1 f2 (World.block_lt_of_cell? _ _ c2)
    have KB := Lib.hid (spFewOk_at w1 _ ys (JB.out.below hb1 (Nat.le_refl _)))
    rw [okb] at KB
    have L1 := Lib.hid (HA.out.trans (hb1.mono HA.out.size))
    clear hb1
    go_wp2_with fail
    refine KB.out.mono ?_
    rintro e w2 ⟨rfl, hb2⟩
    have c22 := cell_later hb2 c21
    have f22 : w2.frozen? ⟨w.heap.size + 1 + 1, 0, none⟩ = false := free_later' hb2 f21 (World.block_lt_of_cell? _ _ c21)
    have L2 := Lib.hid (L1.out.trans (hb2.mono L1.out.size))
    clear hb2
    go_wp2
    have hr := World.cell?_setCell_same w2 ⟨w.heap.size + 1 + 1, 0, none⟩ (.slice none 0 0) c22
    exact bodyPost_ret (v := .tuple #[.agg #[.slice none 0 0], .bool false]) (by simp [results, Try.results40, go_sem, hr]) rfl ⟨rfl, L2.out.setCell (by simp; omega) _⟩

set_option maxHeartbeats 4000000 in
theorem spFewJoin_yes (w : World) (u v : Value) (zs ys : List Int) (ha : Ints w u zs) (hb : Ints w v ys) (oka : fewB zs = true) (okb : fewB ys = true) :
    Calls Try.prog 40 #[.agg #[u], .agg #[v]] w fun e w' => ∃ v', e = .returned (.tuple #[.agg #[v'], .bool true]) ∧ OwnI w' w.heap.size v' (ys.foldl putV zs) ∧ Below w.heap.size w w' := by
  obtain ⟨i0, hi, hz0, hz1, hz2⟩ := info_parts few_info
  have hA := (((Below.refl w.heap.size w).alloc (Nat.le_refl _) (.cells #[u] 46)).alloc (by simp) (.cells #[v] 46)).alloc (by simp; omega) (.cells #[.slice none 0 0] 46)
  have IA := Lib.hid (ha.below hA (Nat.le_refl _))
  have KA := Lib.hid (spFewOk_at _ u zs IA.out)
  have JB := Lib.hid (hb.below hA (Nat.le_refl _))
  rw [oka] at KA
  have la := (fewB_parts oka).1
  have lb := (fewB_parts okb).1
  have HA := Lib.hid hA
  obtain ⟨⟨x, c, hx⟩, _⟩ := ha.cases
  obtain ⟨⟨y, d, hy⟩, _⟩ := hb.cases
  obtain ⟨na, hna⟩ : ∃ n, n = zs.length := ⟨_, rfl⟩
  obtain ⟨nb, hnb⟩ : ∃ n, n = ys.length := ⟨_, rfl⟩
  rw [← hna] at hx la
  rw [← hnb] at hy lb
  have NA := Lib.hid hna
  have NB := Lib.hid hnb
  subst hx hy
  obtain ⟨w0, hw0⟩ : ∃ w0, w0 = ((w.alloc (.cells #[.slice x na c] 46)).alloc (.cells #[.slice y nb d] 46)).alloc (.cells #[.slice none 0 0] 46) := ⟨_, rfl⟩
  have c0 : w0.cell? ⟨w.heap.size, 0, none⟩ = some (.slice x na c) := by rw [hw0, World.cell?_alloc_past (hn := by simp; omega), World.cell?_alloc_past (hn := by simp)]; simp
  have c1 : w0.cell? ⟨w.heap.size + 1, 0, none⟩ = some (.slice y nb d) := by rw [hw0, World.cell?_alloc_past (hn := by simp), World.cell?_alloc_at (hn := by simp)]; simp
  have c2 : w0.cell? ⟨w.heap.size + 1 + 1, 0, none⟩ = some (.slice none 0 0) := by rw [hw0, World.cell?_alloc_at (hn := by simp)]; simp
  have f2 : w0.frozen? ⟨w.heap.size + 1 + 1, 0, none⟩ = false := by rw [hw0]; exact World.frozen?_alloc_at _ _ _ _ (by simp)
  rw [← hw0] at KA JB HA IA
  have HW := Lib.hid hw0
  clear ha hb hA hna hnb hw0 oka
  go_enter Try.func40, Try.ntmps40
  go_wp2_with fail
  rw [← HW.out]
  refine KA.out.mono ?_
  rintro e w1 ⟨rfl, hb1⟩
  have c01 := cell_later hb1 c0
  have c11 := cell_later hb1 c1
  have c21 := cell_later hb1 c2
  have f21 : w1.frozen? ⟨w.heap.size + 1 + 1, 0, none⟩ = false := free_later' hb1 f2 (World.block_lt_of_cell? _ _ c2)
  have IA1 := Lib.hid (IA.out.below hb1 (Nat.le_refl _))
  have IB1 := Lib.hid (JB.out.below hb1 (Nat.le_refl _))
  have KB := Lib.hid (spFewOk_at w1 _ ys IB1.out)
  rw [okb] at KB
  have L1 := Lib.hid (HA.out.trans (hb1.mono HA.out.size))
  clear hb1 c0 c1 c2 f2 okb HW
  go_wp2_with fail
  refine KB.out.mono ?_
  rintro e w2 ⟨rfl, hb2⟩
  have c02 := cell_later hb2 c01
  have c12 := cell_later hb2 c11
  have c22 := cell_later hb2 c21
  have f22 : w2.frozen? ⟨w.heap.size + 1 + 1, 0, none⟩ = false := free_later' hb2 f21 (World.block_lt_of_cell? _ _ c21)
  have L2 := Lib.hid (L1.out.trans (hb2.mono L1.out.size))
  have hAE := (Below.refl w2.heap.size w2).alloc (Nat.le_refl _) (.cells #[] 3)
  have IA2 := Lib.hid ((IA1.out.below hb2 (Nat.le_refl _)).below hAE (Nat.le_refl _))
  have IB2 := Lib.hid (IB1.out.below hb2 (Nat.le_refl _))
  have OE := Lib.hid (few_empty w2 w2.heap.size (Nat.le_refl _))
  have HAE := Lib.hid hAE
  have l22 : w.heap.size + 1 + 1 < w2.heap.size := World.block_lt_of_cell? _ _ c22
  have l0 : w.heap.size < w2.heap.size := by omega
  have d02 := cell_later hAE c02
  have d12 := cell_later hAE c12
  have d22 := cell_later hAE c22
  have g22 : (w2.alloc (.cells #[] 3)).frozen? ⟨w.heap.size + 1 + 1, 0, none⟩ = false := free_later' hAE f22 l22
  clear hb2 c01 c11 c21 f21 hAE
  rcases IA2.out with ⟨e, ez⟩ | ⟨b, o, cc, e, _, _, hbb, hcc⟩
  · obtain ⟨rfl, rfl, rfl⟩ := Value.slice.inj e
    have hL3 : Below w.heap.size w (w2.alloc (.cells #[] 3)) ∧ w2.heap.size ≤ (w2.alloc (.cells #[] 3)).heap.size := ⟨L2.out.trans (HAE.out.mono L2.out.size), by simp⟩
    have hib3 := IB2.out.below HAE.out (Nat.le_refl _)
    have ho3' : OwnI (w2.alloc (.cells #[] 3)) w2.heap.size (.slice (some ⟨w2.heap.size, 0, none⟩) 0 0) zs := by rw [ez]; exact OE.out
    have e3 := And.intro trivial (And.intro d12 (And.intro d22 g22))
    have hl3 : True := trivial
    go_wp2
    · skip
      have L3 := Lib.hid hL3
      have IB3 := Lib.hid hib3
      have O3 := Lib.hid ho3'
      have HE3 := Lib.hid e3
      have lz := hl3
      clear hL3 hib3 ho3' hl3
      go_loopw [6, 7] (fun p i wr => ∃ (k : Nat) (os : List Int), k ≤ nb ∧ i = .int .i64 k ∧ os = (ys.take k).foldl putV zs ∧ OwnI wr w2.heap.size p os ∧ Below (w2.alloc (.cells #[] 3)).heap.size (w2.alloc (.cells #[] 3)) wr) (fun _ i _ => nb - (intOf i).toNat)
      case atStart => exact ⟨0, zs, Nat.zero_le _, rfl, rfl, O3.out, Below.refl _ _⟩
      case round =>
        obtain ⟨k, os, hk, rfl, hos, hown, hbl⟩ := hrel
        have hol : os.length ≤ 6 := by rw [hos]; exact fold_len zs (by rw [← NA.out]; exact la) _
        have bx := cell_later hbl e3.2.1
        have rx := cell_later hbl e3.2.2.1
        have fx : wr.frozen? ⟨w.heap.size + 1 + 1, 0, none⟩ = false := free_later' hbl e3.2.2.2 (World.block_lt_of_cell? _ _ e3.2.2.1)
        have OS := Lib.hid hos
        have OW := Lib.hid hown
        have HB := Lib.hid hbl
        obtain ⟨xp, cp, rfl⟩ := hown.form
        have IB := Lib.hid (IB3.out.below hbl (Nat.le_refl _))
        have KP := Lib.hid (fun m => l2Put_at wr _ os m hown.rd (by omega))
        obtain ⟨np, hnp⟩ : ∃ np, np = os.length := ⟨_, rfl⟩
        rw [← hnp] at KP OW hol ⊢
        have NP := Lib.hid hnp
        have szr := Lib.hid hbl.size
        clear hos hown hbl hnp e3
        by_cases hlt : k < nb
        · have hcy : ∃ b o, y = some ⟨b, o, none⟩ ∧ wr.cell? ⟨b, o + k, none⟩ = some (.int .i64 (ys.getD k 0)) := by
            rcases IB.out with ⟨e, _⟩ | ⟨b, o, cc, e, _, _, _, hc⟩
            · have := (Value.slice.inj e).2.1; omega
            · exact ⟨b, o, (Value.slice.inj e).1, hc k (by rw [← NB.out]; exact hlt)⟩
          obtain ⟨b, o, rfl, hcy⟩ := hcy
          have ft := Lib.hid (fold_take zs ys k (by rw [← NB.out]; exact hlt))
          obtain ⟨q, hq⟩ : ∃ q, q = ys.getD k 0 := ⟨_, rfl⟩
          rw [← hq] at hcy ft
          have KQ := Lib.hid (KP.out q)
          have k0 : (0 : Int) ≤ (k : Int) := by omega
          have kn : (k : Int) < (nb : Int) := by omega
          clear hq
          go_wp2_with fail
          refine KQ.out.mono ?_
          rintro e w5 ⟨v5, rfl, ho5, hb5⟩
          go_wp2
          go_roundw
          case rel => exact ⟨k + 1, putV os q, by omega, by go_num, by rw [ft.out, ← OS.out], ho5.base (by have h1 := szr.out; have h2 := L3.out.2; omega), HB.out.trans (hb5.mono szr.out)⟩
          case measure => simp [intOf]; omega
        · obtain rfl : k = nb := by omega
          have fin : Hid (os = ys.foldl putV zs) := by show os = _; rw [OS.out, List.take_of_length_le (by rw [← NB.out]; exact Nat.le_refl _)]
          have hs := grownBy_setCell wr ⟨w.heap.size + 1 + 1, 0, none⟩ (.slice xp np cp)
          have o4 := ((show OwnI wr w2.heap.size (.slice xp np cp) os from OW.out).kept hs (fun k e => by simp at e; omega)).base (B' := w.heap.size) (by omega)
          have hb4 : Below w.heap.size w (wr.setCell ⟨w.heap.size + 1 + 1, 0, none⟩ (.slice xp np cp)) := (L3.out.1.trans (HB.out.mono L3.out.1.size)).setCell (by simp; omega) _
          have O4 := Lib.hid o4
          have HB4 := Lib.hid hb4
          clear hs o4 hb4
          go_wp2
          have hr := World.cell?_setCell_same wr ⟨w.heap.size + 1 + 1, 0, none⟩ (.slice xp np cp) rx
          exact bodyPost_ret (v := .tuple #[.agg #[.slice xp np cp], .bool true]) (by simp [results, Try.results40, go_sem, hr]) rfl ⟨_, rfl, by rw [← fin.out]; exact O4.out, HB4.out⟩
  · have ex := (Value.slice.inj e).1
    have ec := (Value.slice.inj e).2.2
    rw [← NA.out] at hcc
    clear e
    subst ex ec
    have news : ∀ j u, (ints zs)[j]? = some u → (w2.alloc (.cells #[] 3)).cell? ((⟨b, o, none⟩ : Addr).add j) = some u := fun j u hj => by
      have hlt : j < zs.length := by
        have := (List.getElem?_eq_some_iff.1 hj).1
        rw [ints_len] at this; exact this
      have e : (⟨b, o, none⟩ : Addr).add j = ⟨b, o + j, none⟩ := by unfold Addr.add; split <;> simp_all
      rw [e, hcc j (by rw [NA.out]; exact hlt), ← hj, ints_get _ _ hlt]
    have ones : ∀ u ∈ ints zs, u.oneCell' = true := fun u hu => by simp [ints] at hu; obtain ⟨z, _, rfl⟩ := hu; rfl
    have NEWS := Lib.hid news
    have ONES := Lib.hid ones
    clear news ones hcc
    go_wp2_with (first | (at_builtin; refine wpList_append_own _ rfl _ _ 41 rfl w2.heap.size 3 i0 (.int .i64 0) 1 8 Try.underlying41 hi hz0 hz1 hz2 rfl (by decide) (.slice (some ⟨w2.heap.size, 0, none⟩) 0 0) 0 [] rfl OE.out ⟨b, o, none⟩ na c (ints zs) rfl (by rw [ints_len, ← NA.out]; omega) NEWS.out ONES.out (by unfold maxLen; omega) (by omega) (by simp) ?_; intro v3 w3 ho3 hg3 _; have hf3 := (show OwnI w3 w2.heap.size v3 zs from by have h := ho3; rw [Nat.zero_add, List.nil_append, NA.out] at h; exact h); obtain ⟨x3, c3, rfl⟩ := hf3.form))
    · have hL3 : Below w.heap.size w w3 ∧ w2.heap.size ≤ w3.heap.size := by
        have := hg3.size
        simp at this
        exact ⟨(L2.out.trans (HAE.out.mono L2.out.size)).grown hg3 (by have := L2.out.size; simp; omega) (fun k e => by simp [Value.ownBlock] at e; have := L2.out.size; omega), by omega⟩
      have hib3 : Ints w3 (.slice y nb d) ys := (IB2.out.below HAE.out (Nat.le_refl _)) |> fun h => by
        rcases IB2.out with ⟨e1, e2⟩ | ⟨b', o', c', e1, q1, q2, q3, q4⟩
        · exact .inl ⟨e1, e2⟩
        · exact .inr ⟨b', o', c', e1, q1, q2, by omega, fun i hi => hg3.cell (((HAE.out.cell (p := ⟨b', o' + i, none⟩) q3)).trans (q4 i hi)) (by simp [Value.ownBlock]; omega)⟩
      have ho3' : OwnI w3 w2.heap.size (.slice x3 zs.length c3) zs := hf3
      have e3 : True ∧ w3.cell? ⟨w.heap.size + 1, 0, none⟩ = some (.slice y nb d) ∧ w3.cell? ⟨w.heap.size + 1 + 1, 0, none⟩ = some (.slice none 0 0) ∧ w3.frozen? ⟨w.heap.size + 1 + 1, 0, none⟩ = false :=
        ⟨trivial, hg3.cell d12 (by simp [Value.ownBlock]; omega), hg3.cell d22 (by simp [Value.ownBlock]; omega), (hg3.frozen_far ⟨w.heap.size + 1 + 1, 0, none⟩ (World.block_lt_of_cell? _ _ d22) (by simp [Value.ownBlock]; omega)).trans g22⟩
      have hl3 : True := trivial
      clear ho3 hg3 hf3
      have L3 := Lib.hid hL3
      have IB3 := Lib.hid hib3
      have O3 := Lib.hid ho3'
      have HE3 := Lib.hid e3
      have lz := hl3
      clear hL3 hib3 ho3' hl3
      go_loopw [6, 7] (fun p i wr => ∃ (k : Nat) (os : List Int), k ≤ nb ∧ i = .int .i64 k ∧ os = (ys.take k).foldl putV zs ∧ OwnI wr w2.heap.size p os ∧ Below w3.heap.size w3 wr) (fun _ i _ => nb - (intOf i).toNat)
      case atStart => exact ⟨0, zs, Nat.zero_le _, rfl, rfl, O3.out, Below.refl _ _⟩
      case round =>
        obtain ⟨k, os, hk, rfl, hos, hown, hbl⟩ := hrel
        have hol : os.length ≤ 6 := by rw [hos]; exact fold_len zs (by rw [← NA.out]; exact la) _
        have bx := cell_later hbl e3.2.1
        have rx := cell_later hbl e3.2.2.1
        have fx : wr.frozen? ⟨w.heap.size + 1 + 1, 0, none⟩ = false := free_later' hbl e3.2.2.2 (World.block_lt_of_cell? _ _ e3.2.2.1)
        have OS := Lib.hid hos
        have OW := Lib.hid hown
        have HB := Lib.hid hbl
        obtain ⟨xp, cp, rfl⟩ := hown.form
        have IB := Lib.hid (IB3.out.below hbl (Nat.le_refl _))
        have KP := Lib.hid (fun m => l2Put_at wr _ os m hown.rd (by omega))
        obtain ⟨np, hnp⟩ : ∃ np, np = os.length := ⟨_, rfl⟩
        rw [← hnp] at KP OW hol ⊢
        have NP := Lib.hid hnp
        have szr := Lib.hid hbl.size
        clear hos hown hbl hnp e3
        by_cases hlt : k < nb
        · have hcy : ∃ b o, y = some ⟨b, o, none⟩ ∧ wr.cell? ⟨b, o + k, none⟩ = some (.int .i64 (ys.getD k 0)) := by
            rcases IB.out with ⟨e, _⟩ | ⟨b, o, cc, e, _, _, _, hc⟩
            · have := (Value.slice.inj e).2.1; omega
            · exact ⟨b, o, (Value.slice.inj e).1, hc k (by rw [← NB.out]; exact hlt)⟩
          obtain ⟨b, o, rfl, hcy⟩ := hcy
          have ft := Lib.hid (fold_take zs ys k (by rw [← NB.out]; exact hlt))
          obtain ⟨q, hq⟩ : ∃ q, q = ys.getD k 0 := ⟨_, rfl⟩
          rw [← hq] at hcy ft
          have KQ := Lib.hid (KP.out q)
          have k0 : (0 : Int) ≤ (k : Int) := by omega
          have kn : (k : Int) < (nb : Int) := by omega
          clear hq
          go_wp2_with fail
          refine KQ.out.mono ?_
          rintro e w5 ⟨v5, rfl, ho5, hb5⟩
          go_wp2
          go_roundw
          case rel => exact ⟨k + 1, putV os q, by omega, by go_num, by rw [ft.out, ← OS.out], ho5.base (by have h1 := szr.out; have h2 := L3.out.2; omega), HB.out.trans (hb5.mono szr.out)⟩
          case measure => simp [intOf]; omega
        · obtain rfl : k = nb := by omega
          have fin : Hid (os = ys.foldl putV zs) := by show os = _; rw [OS.out, List.take_of_length_le (by rw [← NB.out]; exact Nat.le_refl _)]
          have hs := grownBy_setCell wr ⟨w.heap.size + 1 + 1, 0, none⟩ (.slice xp np cp)
          have o4 := ((show OwnI wr w2.heap.size (.slice xp np cp) os from OW.out).kept hs (fun k e => by simp at e; omega)).base (B' := w.heap.size) (by omega)
          have hb4 : Below w.heap.size w (wr.setCell ⟨w.heap.size + 1 + 1, 0, none⟩ (.slice xp np cp)) := (L3.out.1.trans (HB.out.mono L3.out.1.size)).setCell (by simp; omega) _
          have O4 := Lib.hid o4
          have HB4 := Lib.hid hb4
          clear hs o4 hb4
          go_wp2
          have hr := World.cell?_setCell_same wr ⟨w.heap.size + 1 + 1, 0, none⟩ (.slice xp np cp) rx
          exact bodyPost_ret (v := .tuple #[.agg #[.slice xp np cp], .bool true]) (by simp [results, Try.results40, go_sem, hr]) rfl ⟨_, rfl, by rw [← fin.out]; exact O4.out, HB4.out⟩

theorem spFewJoin_at (w : World) (u v : Value) (zs ys : List Int) (ha : Ints w u zs) (hb : Ints w v ys) :
    Calls Try.prog 40 #[.agg #[u], .agg #[v]] w fun e w' => ∃ v', e = .returned (.tuple #[.agg #[v'], .bool (joinOkF zs ys)]) ∧ OwnI w' w.heap.size v' (joinF zs ys) ∧ Below w.heap.size w w' := by
  cases hok : joinOkF zs ys with
  | false =>
    rw [joinF_no hok]
    exact (spFewJoin_no w u v zs ys ha hb hok).mono fun e w' ⟨he, hb⟩ => ⟨_, he, OwnI.nil _ _, hb⟩
  | true =>
    rw [joinF_yes hok]
    have h' := hok
    unfold joinOkF at h'
    simp only [Bool.and_eq_true] at h'
    rw [← fold_put ys zs (few_asc h'.1) (fewB_parts h'.1).1]
    exact spFewJoin_yes w u v zs ys ha hb h'.1 h'.2

end Go.Proofs.Yteopnbjiffncbab
