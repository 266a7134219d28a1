/-
  What the laws of sums ask of lists: how often, how many, how few; and whether sums are the same.
-/
import Derived.Test.YtnoilafoeaknjaaGreatZBox
import Derived.Test.YtnoilafoeaknjaaGreatZTold
import Derived.Test.YtnoilafoeaknjaaGreatTLk
import Derived.Test.YtnoilafoeaknjaaGreatKLk
import Derived.Test.YtnoilafoeaknjaaGreatKe
import Derived.Test.YtnoilafoeaknjaaGreatKThings
set_option linter.unusedVariables false
namespace Go.Proofs.YtnoilafoeaknjaaGreat
open Go.RowKit Go.Sort

/-- No list of a sum is long. -/
structure Small (s : Sm) : Prop where
  r : s.rs.length ≤ 3 ∧ ∀ i, i < s.rs.length → (s.rs.getD i []).length ≤ 8
  f : s.zs.length ≤ 6
  t : s.ps.length ≤ 4
  k : s.ks.length ≤ 127
theorem K.rank_len {ps : List K.Pr} {all : Int} (h : K.rankB ps all = true) : ps.length ≤ 127 := by
  have P := (K.rankB_iff _ _).1 h
  by_cases h0 : ps.length = 0
  · omega
  · have a := K.knG_at P.2.1 (ps.length - 1) (by omega)
    have b := (P.2.1 (ps.length - 1) (by omega)).1.1.2
    omega
theorem Ok.small {s : Sm} (h : Ok s) : Small s := by
  obtain ⟨l3, g⟩ := (okB_iff _).1 h.r
  exact ⟨⟨Nat.le_of_eq l3, fun i hi => Nat.le_of_eq (g i (by omega)).1⟩, ((fewB_iff _).1 h.f).1, ((T.topB_iff _ _ _).1 h.t).1.1, K.rank_len h.k⟩
theorem small_no : Small noSm := ⟨⟨by decide, fun i hi => absurd hi (Nat.not_lt_zero i)⟩, by decide, by decide, by decide⟩
theorem small_of {s : Sm} (h : okS s = true ∨ s = noSm) : Small s := by
  rcases h with h | rfl
  · exact ((okS_iff _).1 h).small
  · exact small_no
theorem up_small (l : List Int) : Small (upS l) := by
  cases h : okS (upS l) with
  | true => exact small_of (.inl h)
  | false => exact small_of (.inr (up_no h))
theorem add_small (s : Sm) (t : Int) : Small (addS s t) := by
  cases h : addOkS s t with
  | true => exact (addS_ok h).1.small
  | false => rw [addS_no h]; exact small_no
theorem join_small (a b : Sm) : Small (joinS a b) := by
  cases h : joinOkS a b with
  | true => exact (joinS_ok h).1.small
  | false => rw [joinS_no h]; exact small_no

set_option maxRecDepth 100000 in
set_option maxHeartbeats 4000000 in
theorem lkSum_same (w : World) (V1 V2 : SV) (s : Sm) (h1 : RdS w V1 s) (h2 : RdS w V2 s) (hs : Small s) :
    Calls Tryz.prog 32 #[.agg #[.slice V1.xr V1.nr V1.cr, .slice V1.xf V1.nf V1.cf, .slice V1.xt V1.nt V1.ct, .int .i64 s.lo, .int .i64 s.al, .slice V1.xk V1.nk V1.ck, .int .i64 s.ka], .agg #[.slice V2.xr V2.nr V2.cr, .slice V2.xf V2.nf V2.cf, .slice V2.xt V2.nt V2.ct, .int .i64 s.lo, .int .i64 s.al, .slice V2.xk V2.nk V2.ck, .int .i64 s.ka]] w fun e w' => e = .returned (.bool true) ∧ Below w.heap.size w w' := by
  have hA := ((Below.refl w.heap.size w).alloc (Nat.le_refl _) (.cells #[.slice V1.xr V1.nr V1.cr, .slice V1.xf V1.nf V1.cf, .slice V1.xt V1.nt V1.ct, .int .i64 s.lo, .int .i64 s.al, .slice V1.xk V1.nk V1.ck, .int .i64 s.ka] 39)).alloc (by simp) (.cells #[.slice V2.xr V2.nr V2.cr, .slice V2.xf V2.nf V2.cf, .slice V2.xt V2.nt V2.ct, .int .i64 s.lo, .int .i64 s.al, .slice V2.xk V2.nk V2.ck, .int .i64 s.ka] 39)
  have XA := (Box7.new w 39 (.slice V1.xr V1.nr V1.cr) (.slice V1.xf V1.nf V1.cf) (.slice V1.xt V1.nt V1.ct) (.int .i64 s.lo) (.int .i64 s.al) (.slice V1.xk V1.nk V1.ck) (.int .i64 s.ka)).alloc (.cells #[.slice V2.xr V2.nr V2.cr, .slice V2.xf V2.nf V2.cf, .slice V2.xt V2.nt V2.ct, .int .i64 s.lo, .int .i64 s.al, .slice V2.xk V2.nk V2.ck, .int .i64 s.ka] 39)
  have XB := Box7.new (w.alloc (.cells #[.slice V1.xr V1.nr V1.cr, .slice V1.xf V1.nf V1.cf, .slice V1.xt V1.nt V1.ct, .int .i64 s.lo, .int .i64 s.al, .slice V1.xk V1.nk V1.ck, .int .i64 s.ka] 39)) 39 (.slice V2.xr V2.nr V2.cr) (.slice V2.xf V2.nf V2.cf) (.slice V2.xt V2.nt V2.ct) (.int .i64 s.lo) (.int .i64 s.al) (.slice V2.xk V2.nk V2.ck) (.int .i64 s.ka)
  rw [World.size_alloc] at XB
  obtain ⟨a0, a1, a2, a3, a4, a5, a6⟩ := XA.cells
  obtain ⟨b0, b1, b2, b3, b4, b5, b6⟩ := XB.cells
  obtain ⟨W0, hW⟩ : ∃ W, W = (w.alloc (.cells #[.slice V1.xr V1.nr V1.cr, .slice V1.xf V1.nf V1.cf, .slice V1.xt V1.nt V1.ct, .int .i64 s.lo, .int .i64 s.al, .slice V1.xk V1.nk V1.ck, .int .i64 s.ka] 39)).alloc (.cells #[.slice V2.xr V2.nr V2.cr, .slice V2.xf V2.nf V2.cf, .slice V2.xt V2.nt V2.ct, .int .i64 s.lo, .int .i64 s.al, .slice V2.xk V2.nk V2.ck, .int .i64 s.ka] 39) := ⟨_, rfl⟩
  rw [← hW] at hA XA XB
  have B := Lib.hid hA
  have H1 := Lib.hid h1
  have H2 := Lib.hid h2
  have HS := Lib.hid hs
  clear hA h1 h2 hs
  have K1 := lkRough_at W0 (.slice V1.xr V1.nr V1.cr) (.slice V2.xr V2.nr V2.cr) s.rs s.rs (H1.out.below B.out (Nat.le_refl _)).r (H2.out.below B.out (Nat.le_refl _)).r (by have := HS.out.r.1; unfold maxLen; omega) (fun i hi => by have := HS.out.r.2 i hi; unfold maxLen; omega)
  rw [decide_eq_true rfl] at K1
  go_enter Tryz.func32, Tryz.ntmps32
  go_wp2_with fail
  rw [← hW]
  clear hW a0 a1 a2 a3 a4 a5 a6 b0 b1 b2 b3 b4 b5 b6
  refine K1.mono ?_
  rintro e w1 ⟨rfl, hb⟩
  replace XA := XA.later hb
  replace XB := XB.later hb
  replace B := Lib.hid (B.out.trans (hb.mono B.out.size))
  clear hb K1
  have K2 := lkInts_at w1 (.slice V1.xf V1.nf V1.cf) (.slice V2.xf V2.nf V2.cf) s.zs s.zs (H1.out.below B.out (Nat.le_refl _)).f (H2.out.below B.out (Nat.le_refl _)).f (by have := HS.out.f; unfold maxLen; omega)
  rw [decide_eq_true rfl] at K2
  obtain ⟨a0, a1, a2, a3, a4, a5, a6⟩ := XA.cells
  obtain ⟨b0, b1, b2, b3, b4, b5, b6⟩ := XB.cells
  go_wp2_with fail
  refine K2.mono ?_
  rintro e w2 ⟨rfl, m, hm⟩
  have hb : Below w1.heap.size w1 w2 := by rw [hm]; exact below_drewN (Below.refl _ _) _
  clear a0 a1 a2 a3 a4 a5 a6 b0 b1 b2 b3 b4 b5 b6 hm
  replace XA := XA.later hb
  replace XB := XB.later hb
  replace B := Lib.hid (B.out.trans (hb.mono B.out.size))
  clear hb K2
  have K3 := T.lkTop_same w2 (.slice V1.xt V1.nt V1.ct) (.slice V2.xt V2.nt V2.ct) s.ps s.lo s.al (H1.out.below B.out (Nat.le_refl _)).t (H2.out.below B.out (Nat.le_refl _)).t (by have := HS.out.t; omega)
  obtain ⟨a0, a1, a2, a3, a4, a5, a6⟩ := XA.cells
  obtain ⟨b0, b1, b2, b3, b4, b5, b6⟩ := XB.cells
  go_wp2_with fail
  refine K3.mono ?_
  rintro e w3 ⟨rfl, hb⟩
  clear a0 a1 a2 a3 a4 a5 a6 b0 b1 b2 b3 b4 b5 b6
  replace XA := XA.later hb
  replace XB := XB.later hb
  replace B := Lib.hid (B.out.trans (hb.mono B.out.size))
  clear hb K3
  have K4 := K.lkRank_same w3 (.slice V1.xk V1.nk V1.ck) (.slice V2.xk V2.nk V2.ck) s.ks s.ka (H1.out.below B.out (Nat.le_refl _)).k (H2.out.below B.out (Nat.le_refl _)).k (by have := HS.out.k; omega)
  obtain ⟨a0, a1, a2, a3, a4, a5, a6⟩ := XA.cells
  obtain ⟨b0, b1, b2, b3, b4, b5, b6⟩ := XB.cells
  go_wp2_with fail
  refine K4.mono ?_
  rintro e w4 ⟨rfl, hb⟩
  replace B := Lib.hid (B.out.trans (hb.mono B.out.size))
  clear a0 a1 a2 a3 a4 a5 a6 b0 b1 b2 b3 b4 b5 b6 hb
  go_wp2
  go_ret
  exact ⟨rfl, B.out⟩

def fineL (l : List Int) : List Int := l.filter fun z => decide (0 ≤ z ∧ z ≤ 63)
theorem fineL_all (l : List Int) : ∀ t ∈ fineL l, 0 ≤ t ∧ t ≤ 63 := fun t ht => by
  have := (List.mem_filter.1 ht).2
  simpa using this
theorem fineL_len (l : List Int) : (fineL l).length ≤ l.length := List.length_filter_le _ _
theorem fineL_succ (l : List Int) (k : Nat) (hk : k < l.length) : fineL (l.take (k + 1)) = fineL (l.take k) ++ if 0 ≤ l.getD k 0 ∧ l.getD k 0 ≤ 63 then [l.getD k 0] else [] := by
  unfold fineL
  rw [List.take_succ_eq_append_getElem hk, List.filter_append]
  congr 1
  have e : l[k] = l.getD k 0 := by simp [hk]
  rw [e]
  by_cases h : 0 ≤ l.getD k 0 ∧ l.getD k 0 ≤ 63
  · rw [if_pos h, List.filter_cons_of_pos (by simpa using h)]; rfl
  · rw [if_neg h, List.filter_cons_of_neg (by simpa using h)]; rfl
theorem cntU_take (l : List Int) (t : Int) (k : Nat) (hk : k < l.length) : cntU (l.take (k + 1)) t = cntU (l.take k) t + if l.getD k 0 ≤ t then 1 else 0 := by
  rw [List.take_succ_eq_append_getElem hk, cntU_snoc]
  simp [hk]
theorem cntT_take (l : List Int) (t : Int) (k : Nat) (hk : k < l.length) : cntT (l.take (k + 1)) t = cntT (l.take k) t + if l.getD k 0 = t then 1 else 0 := by
  rw [List.take_succ_eq_append_getElem hk, cntT_snoc]
  simp [hk]

theorem lkTimesZ_at (w : World) (v : Value) (l : List Int) (x : Int) (h : Ints w v l) (hl : l.length ≤ 100) :
    Calls Tryz.prog 34 #[v, .int .i64 x] w fun e w' => e = .returned (.int .i64 (cntT l x)) ∧ Below w.heap.size w w' := by
  obtain ⟨⟨y, c, hx⟩, qq⟩ := h.cases
  obtain ⟨n, hn⟩ : ∃ n, n = l.length := ⟨_, rfl⟩
  have HZ : Hid (∀ i, i < n → ∃ b o, y = some ⟨b, o, none⟩ ∧ w.cell? ⟨b, o + i, none⟩ = some (.int .i64 (l.getD i 0))) := fun i hi => by
    rcases h with ⟨rfl, rfl⟩ | ⟨b, o, c', e, _, _, hb, hc⟩
    · rw [hn] at hi; cases hi
    · rw [hx] at e
      exact ⟨b, o, (Value.slice.inj e).1, hc i (by rw [← hn]; exact hi)⟩
  rw [← hn] at hx hl
  have HN := Lib.hid hn
  subst hx
  clear hn h qq
  go_enter Tryz.func34, Tryz.ntmps34
  go_wp2
  go_loop [5, 6] (fun q i => ∃ (k : Nat) (j : Int), k ≤ n ∧ i = .int .i64 k ∧ q = .int .i64 j ∧ 0 ≤ j ∧ j ≤ k ∧ j = cntT (l.take k) x) (fun _ i => n - (intOf i).toNat)
  case atStart => exact ⟨0, 0, Nat.zero_le _, rfl, rfl, Int.le_refl _, Int.le_refl _, rfl⟩
  case round =>
    obtain ⟨k, j, hk, rfl, rfl, j0, hj, hg⟩ := hrel
    have G := Lib.hid hg
    clear hg
    by_cases hlt : k < n
    · obtain ⟨b, o, rfl, h1⟩ := HZ.out k hlt
      have ts := Lib.hid (cntT_take l x k (by rw [← HN.out]; exact hlt))
      obtain ⟨z, hz⟩ : ∃ z, l.getD k 0 = z := ⟨_, rfl⟩
      rw [hz] at h1 ts
      have k0 : (0 : Int) ≤ (k : Int) := by omega
      have kn : (k : Int) < (n : Int) := by omega
      clear hz
      by_cases he : z = x
      · subst he
        go_wp2
        go_round
        case rel => exact ⟨k + 1, j + 1, by omega, by go_num, by go_num, by omega, by omega, by rw [ts.out, ← G.out, if_pos rfl]⟩
        case measure => simp [intOf]; omega
      · have he' : (z == x) = false := by simpa using he
        have he2 : decide (z = x) = false := by simpa using he
        go_wp2
        go_round
        case rel => exact ⟨k + 1, j, by omega, by go_num, rfl, by omega, by omega, by rw [ts.out, ← G.out, if_neg he]; omega⟩
        case measure => simp [intOf]; omega
    · have fin : Hid (j = cntT l x) := by show j = _; rw [G.out, List.take_of_length_le (by rw [← HN.out]; omega)]
      go_wp2
      go_ret
      exact ⟨by rw [← fin.out]; rfl, Below.refl _ _⟩

theorem lkUpTo_at (w : World) (v : Value) (l : List Int) (x : Int) (h : Ints w v l) (hl : l.length ≤ 100) :
    Calls Tryz.prog 47 #[v, .int .i64 x] w fun e w' => e = .returned (.int .i64 (cntU l x)) ∧ Below w.heap.size w w' := by
  obtain ⟨⟨y, c, hx⟩, qq⟩ := h.cases
  obtain ⟨n, hn⟩ : ∃ n, n = l.length := ⟨_, rfl⟩
  have HZ : Hid (∀ i, i < n → ∃ b o, y = some ⟨b, o, none⟩ ∧ w.cell? ⟨b, o + i, none⟩ = some (.int .i64 (l.getD i 0))) := fun i hi => by
    rcases h with ⟨rfl, rfl⟩ | ⟨b, o, c', e, _, _, hb, hc⟩
    · rw [hn] at hi; cases hi
    · rw [hx] at e
      exact ⟨b, o, (Value.slice.inj e).1, hc i (by rw [← hn]; exact hi)⟩
  rw [← hn] at hx hl
  have HN := Lib.hid hn
  subst hx
  clear hn h qq
  go_enter Tryz.func47, Tryz.ntmps47
  go_wp2
  go_loop [5, 6] (fun q i => ∃ (k : Nat) (j : Int), k ≤ n ∧ i = .int .i64 k ∧ q = .int .i64 j ∧ 0 ≤ j ∧ j ≤ k ∧ j = cntU (l.take k) x) (fun _ i => n - (intOf i).toNat)
  case atStart => exact ⟨0, 0, Nat.zero_le _, rfl, rfl, Int.le_refl _, Int.le_refl _, rfl⟩
  case round =>
    obtain ⟨k, j, hk, rfl, rfl, j0, hj, hg⟩ := hrel
    have G := Lib.hid hg
    clear hg
    by_cases hlt : k < n
    · obtain ⟨b, o, rfl, h1⟩ := HZ.out k hlt
      have ts := Lib.hid (cntU_take l x k (by rw [← HN.out]; exact hlt))
      obtain ⟨z, hz⟩ : ∃ z, l.getD k 0 = z := ⟨_, rfl⟩
      rw [hz] at h1 ts
      have k0 : (0 : Int) ≤ (k : Int) := by omega
      have kn : (k : Int) < (n : Int) := by omega
      clear hz
      by_cases he : z ≤ x
      · go_wp2
        go_round
        case rel => exact ⟨k + 1, j + 1, by omega, by go_num, by go_num, by omega, by omega, by rw [ts.out, ← G.out, if_pos he]⟩
        case measure => simp [intOf]; omega
      · go_wp2
        go_round
        case rel => exact ⟨k + 1, j, by omega, by go_num, rfl, by omega, by omega, by rw [ts.out, ← G.out, if_neg he]; omega⟩
        case measure => simp [intOf]; omega
    · have fin : Hid (j = cntU l x) := by show j = _; rw [G.out, List.take_of_length_le (by rw [← HN.out]; omega)]
      go_wp2
      go_ret
      exact ⟨by rw [← fin.out]; rfl, Below.refl _ _⟩

theorem lkFew_at (w : World) (x : Option Addr) (m c : Nat) (l : List Int) (h : Ints w (.slice x m c) l) (hl : l.length ≤ 100) :
    Calls Tryz.prog 38 #[.slice x m c] w fun e w' => e = .returned (.int .i64 (fewN l 64)) ∧ Below w.heap.size w w' := by
  have H := Lib.hid h
  clear h
  go_enter Tryz.func38, Tryz.ntmps38
  go_wp2
  go_loopw [3, 4] (fun q i wr => ∃ (k j : Nat), k ≤ 64 ∧ i = .int .i64 k ∧ q = .int .i64 j ∧ j ≤ k ∧ j = fewN l k ∧ Below w.heap.size w wr) (fun _ i _ => 64 - (intOf i).toNat)
  case atStart => exact ⟨0, 0, Nat.zero_le _, rfl, rfl, Nat.le_refl _, rfl, Below.refl _ _⟩
  case round =>
    obtain ⟨k, j, hk, rfl, rfl, hj, hg, hB⟩ := hrel
    have G := Lib.hid hg
    have B := Lib.hid hB
    clear hg hB
    by_cases hlt : k < 64
    · have FS := Lib.hid (fewN_succ l k)
      have KT := lkTimesZ_at wr (.slice x m c) l (k : Int) (H.out.below B.out (Nat.le_refl _)) hl
      have CP := Lib.hid (cntT_pos l (k : Int))
      have cb := (cnt_bd l fun z => decide (z = (k : Int))).1
      have cb' : 0 ≤ cntT l (k : Int) := cb
      clear cb
      generalize cntT l (k : Int) = cn at KT CP cb'
      have hlt' : (k : Int) < 64 := by omega
      go_wp2_with fail
      refine KT.mono ?_
      rintro e w1 ⟨rfl, hb⟩
      replace B := Lib.hid (B.out.trans (hb.mono B.out.size))
      clear hb KT
      by_cases hc : 0 < cn
      · have hm := CP.out.1 hc
        have e1 : fewN l (k + 1) = j + 1 := by rw [FS.out, if_pos hm, ← G.out]
        have E1 := Lib.hid e1
        clear e1 hm
        go_wp2
        go_roundw
        case rel => exact ⟨k + 1, j + 1, by omega, by go_num, by go_num, by omega, E1.out.symm, B.out⟩
        case measure => simp [intOf]; omega
      · have hm : (k : Int) ∉ l := fun q => hc (CP.out.2 q)
        have e1 : fewN l (k + 1) = j := by rw [FS.out, if_neg hm, ← G.out, Nat.add_zero]
        have E1 := Lib.hid e1
        clear e1 hm
        go_wp2
        go_roundw
        case rel => exact ⟨k + 1, j, by omega, by go_num, rfl, by omega, E1.out.symm, B.out⟩
        case measure => simp [intOf]; omega
    · obtain rfl : k = 64 := by omega
      go_wp2
      go_ret
      exact ⟨by rw [← G.out]; rfl, B.out⟩

set_option maxRecDepth 100000 in
theorem lkFine_at (w : World) (v : Value) (l : List Int) (h : Ints w v l) (hl : l.length ≤ 100) :
    Calls Tryz.prog 43 #[v] w fun e w' => ∃ x c, e = .returned (.slice x (fineL l).length c) ∧ K.OwnL w' w.heap.size (.slice x (fineL l).length c) (fineL l) ∧ Below w.heap.size w w' := by
  obtain ⟨i0, hi, hz0, hz1, hz2⟩ := info_parts K.int_info
  obtain ⟨⟨y, c, hx⟩, qq⟩ := h.cases
  obtain ⟨n, hn⟩ : ∃ n, n = l.length := ⟨_, rfl⟩
  have HZ : Hid (∀ i, i < n → ∃ b o, y = some ⟨b, o, none⟩ ∧ w.cell? ⟨b, o + i, none⟩ = some (.int .i64 (l.getD i 0))) := fun i hi => by
    rcases h with ⟨rfl, rfl⟩ | ⟨b, o, c', e, _, _, hb, hc⟩
    · rw [hn] at hi; cases hi
    · rw [hx] at e
      exact ⟨b, o, (Value.slice.inj e).1, hc i (by rw [← hn]; exact hi)⟩
  rw [← hn] at hx hl
  have HN := Lib.hid hn
  subst hx
  clear hn h qq
  have O0 := Lib.hid (show K.OwnL (w.alloc (.cells #[] 3)) w.heap.size (.slice (some ⟨w.heap.size, 0, none⟩) 0 0) [] from K.int_empty w w.heap.size (Nat.le_refl _))
  go_enter Tryz.func43, Tryz.ntmps43
  go_wp2
  go_loopw [3, 4] (fun u i wr => ∃ (k : Nat) (os : List Int), k ≤ n ∧ i = .int .i64 k ∧ os = fineL (l.take k) ∧ os.length ≤ k ∧ K.OwnL wr w.heap.size u os ∧ Below w.heap.size w wr) (fun _ i _ => n - (intOf i).toNat)
  case atStart => exact ⟨0, [], Nat.zero_le _, rfl, rfl, Nat.le_refl _, O0.out, (Below.refl _ _).alloc (Nat.le_refl _) _⟩
  case round =>
    clear O0
    obtain ⟨k, os, hk, rfl, hg, hle, ho, hB⟩ := hrel
    obtain ⟨p, cp, hu⟩ := ho.form
    obtain ⟨no, hno⟩ : ∃ no, no = os.length := ⟨_, rfl⟩
    rw [← hno] at hu hle
    subst hu
    have HNO := Lib.hid hno
    have G := Lib.hid hg
    have O := Lib.hid (show wr.ownsRow w.heap.size 3 1 (.slice p no cp) no (ints os) by have h := ho; unfold K.OwnL at h; rw [← hno] at h; exact h)
    have OL := Lib.hid ho
    have B := Lib.hid hB
    clear hno hg ho hB
    by_cases hlt : k < n
    · obtain ⟨b, o, rfl, h1⟩ := HZ.out k hlt
      have ts := Lib.hid (fineL_succ l k (by rw [← HN.out]; exact hlt))
      have h2 := cell_later B.out h1
      have bs := B.out.size
      obtain ⟨z, hz⟩ : ∃ z, l.getD k 0 = z := ⟨_, rfl⟩
      rw [hz] at h2 ts
      have k0 : (0 : Int) ≤ (k : Int) := by omega
      have kn : (k : Int) < (n : Int) := by omega
      clear hz h1
      by_cases he : 0 ≤ z ∧ z ≤ 63
      · have e1 := ts.out
        rw [if_pos he, ← G.out] at e1
        have E1 := Lib.hid e1
        obtain ⟨z0, z1⟩ := he
        clear e1 ts
        go_wp2_with (first | (at_builtin; refine wpList_append_own _ rfl _ _ 23 rfl w.heap.size 3 i0 (.int .i64 0) 1 8 Tryz.underlying23 hi hz0 hz1 hz2 rfl (by decide) _ _ _ rfl (O.out.alloc _) ⟨wr.heap.size, 0, none⟩ 1 1 [.int .i64 z] rfl rfl (cell_one_new _ _ _) (by simp [Value.oneCell']) (by unfold maxLen; omega) (by omega) (by simp; omega) ?_; intro v1 w1 ho1 hg1 _; obtain ⟨g_v1, c_v1, rfl, _, _⟩ := World.ownsRow.form ho1 (Nat.succ_pos _)))
        go_roundw
        case rel => exact ⟨k + 1, os ++ [z], by omega, by go_num, E1.out.symm, by simp; rw [← HNO.out]; omega, K.own_snocL ho1 HNO.out, (B.out.alloc B.out.size _).grown hg1 (B.out.alloc B.out.size _).size (fun k e => (World.ownsRow.lt O.out k e).1)⟩
        case measure => simp [intOf]; omega
      · have e1 := ts.out
        rw [if_neg he, ← G.out, List.append_nil] at e1
        have E1 := Lib.hid e1
        have hz' : z < 0 ∨ 63 < z := by omega
        clear e1 ts he
        rcases hz' with hz' | hz'
        · go_wp2
          go_roundw
          case rel => exact ⟨k + 1, os, by omega, by go_num, E1.out.symm, by rw [← HNO.out]; omega, OL.out, B.out⟩
          case measure => simp [intOf]; omega
        · have hz0' : 0 ≤ z := by omega
          go_wp2
          go_roundw
          case rel => exact ⟨k + 1, os, by omega, by go_num, E1.out.symm, by rw [← HNO.out]; omega, OL.out, B.out⟩
          case measure => simp [intOf]; omega
    · have fin : os = fineL l := by rw [G.out, List.take_of_length_le (by rw [← HN.out]; omega)]
      have FIN := Lib.hid fin
      clear fin
      go_wp2
      go_ret
      rw [← FIN.out, ← HNO.out]
      exact ⟨_, _, rfl, OL.out, B.out⟩

end Go.Proofs.YtnoilafoeaknjaaGreat
