/-
  Several texts in one: NHd, NHdW.
-/
import Derived.Test.YtnpogmhfdjmfdaaNe
set_option linter.unusedVariables false
set_option linter.unusedSectionVars false
set_option linter.unusedSimpArgs false
/-
  The laws' own marks in nets: whether they are held.
-/
namespace Go.Proofs.Ytnpogmhfdjmfdaa
open Go.RowKit Go.Sort
namespace N
variable {w : World} {v : Value} {k : Int} {fp : List Nat}
theorem heldI_at {zs : List Int} (h : intsR w [v] (mkI zs k) fp) (hk : 0 ≤ k) (hc : k + cntI zs ≤ 1000000) :
    Calls Try.prog 47 #[v, .int .i64 k] w fun r w' => r = .returned (.int .i64 (k + cntI zs)) ∧ w = w' := by
  have hk2 : k ≤ 1000000 := by have := cntI_nn zs; omega
  have hn : (zs.length : Int) ≤ 1000000 := by unfold cntI at hc; omega
  obtain ⟨_, e, o, _⟩ := intsR_to h
  cases e
  exact heldIntS_at w v zs.length k (by omega) hk (by omega) o.rd
theorem heldP_at {ps : List (Int × Int)} (h : pairsR w [v] (mkP2 ps k) fp) (hk : 0 ≤ k) (hc : k + 2 * (ps.length : Int) ≤ 1000000) :
    Calls Try.prog 48 #[v, .int .i64 k] w fun r w' => r = .returned (.int .i64 (k + 2 * (ps.length : Int))) ∧ w = w' := by
  obtain ⟨_, e, o, _⟩ := pairsR_to h
  cases e
  obtain ⟨x, c, rfl, _⟩ := slcR_value h
  rw [show (mkP2 ps k).length = ps.length by unfold mkP2; simp]
  refine T.heldPairS_in w x c ps.length k (by omega) hk (by omega) ?_
  have r := o.rd
  rw [show (mkP2 ps k).length = ps.length by unfold mkP2; simp] at r
  exact r
theorem heldKn_at {ps : List (Int × Int)} (h : knotsR w [v] (mkP2 ps k) fp) (hk : 0 ≤ k) (hc : k + 2 * (ps.length : Int) ≤ 1000000) :
    Calls Try.prog 49 #[v, .int .i64 k] w fun r w' => r = .returned (.int .i64 (k + 2 * (ps.length : Int))) ∧ w = w' := by
  obtain ⟨_, e, o, _⟩ := knotsR_to h
  cases e
  obtain ⟨x, c, rfl, _⟩ := slcR_value h
  rw [show (mkP2 ps k).length = ps.length by unfold mkP2; simp]
  refine K.heldKnotS_in w x c ps.length k (by omega) hk (by omega) ?_
  have r := o.rd
  rw [show (mkP2 ps k).length = ps.length by unfold mkP2; simp] at r
  exact r
set_option maxRecDepth 100000 in
set_option maxHeartbeats 8000000 in
theorem heldRs_at {xs : List (List Int)} (h : rowsR w [v] (mkL mkI cntI xs k) fp) (hk : 0 ≤ k) (hc : k + cntL cntI xs ≤ 1000000) :
    Calls Try.prog 41 #[v, .int .i64 k] w fun r w' => r = .returned (.int .i64 (k + cntL cntI xs)) ∧ w = w' := by
  obtain ⟨x, n, c, rfl, hn, hm⟩ : ∃ x n c, v = .slice x n c ∧ n = xs.length ∧ n ≤ maxLen := by obtain ⟨_, _, e, q1, q2⟩ := slcR_value h; exact ⟨_, _, _, e, by rw [mkL_len], Nat.le_trans q1 q2⟩
  unfold maxLen at hm
  have HC := Lib.hid (And.intro hk hc)
  have HN := Lib.hid hn
  have H := Lib.hid h
  clear h hk hc hn
  go_enter Try.func41, Try.ntmps41
  go_wp2
  go_loopw [1, 5] (fun q i wr => ∃ j : Nat, j ≤ n ∧ i = .int .i64 (j : Int) ∧ q = .int .i64 (k + cntL cntI (xs.take j)) ∧ w = wr) (fun _ i _ => n - (intOf i).toNat)
  case atStart => exact ⟨0, Nat.zero_le _, rfl, by rw [List.take_zero, cntL_nil, Int.add_zero], rfl⟩
  case round =>
    obtain ⟨j, hj, rfl, rfl, rfl⟩ := hrel
    obtain ⟨kk, hkk⟩ : ∃ kk, kk = k + cntL cntI (xs.take j) := ⟨_, rfl⟩
    have KK := Lib.hid hkk
    rw [← hkk]
    by_cases hlt : j < n
    · obtain ⟨a, ha⟩ : ∃ a, xs[j]? = some a := ⟨_, List.getElem?_eq_getElem (by rw [← HN.out]; exact hlt)⟩
      have e2 := mkL_at (f := mkI) (c := cntI) ha k
      rw [← hkk] at e2
      obtain ⟨g, xr, cr, fr, rfl, _, _, r1, _, _, cz⟩ := row_at H.out e2
      have k0 : 0 ≤ kk := by have := cntL_nn cntI_nn (xs.take j); have := HC.out.1; omega
      have k1 : kk + cntI a ≤ 1000000 := by
        have := cntL_take cntI_nn xs (j + 1)
        rw [cntL_at ha] at this
        have := HC.out.2
        omega
      have SP := Lib.hid (cntL_at (c := cntI) ha)
      have ca := cntI_nn a
      have j0 : (0 : Int) ≤ (j : Int) := by omega
      have j1 : (j : Int) < (n : Int) := by omega
      have KC := Lib.hid (heldI_at r1 k0 k1)
      obtain ⟨m, hm2⟩ : ∃ m, m = (mkI a kk).length := ⟨_, rfl⟩
      rw [← hm2] at KC cz
      have s0 : 0 ≤ kk + cntI a := by have q : 0 ≤ cntI a := ca; omega
      clear r1 e2 hkk ha hm2
      go_wp2_with fail
      refine KC.out.mono ?_
      rintro r w1 ⟨rfl, rfl⟩
      clear KC
      go_wp2
      go_roundw
      case rel => exact ⟨j + 1, hlt, by go_num, (by rw [SP.out, ← Int.add_assoc, ← KK.out]; try rfl), by trivial⟩
      case measure => simp [intOf]; omega
    · obtain rfl : j = n := by omega
      go_wp2
      go_ret
      have e1 : xs.take j = xs := List.take_of_length_le (by rw [HN.out]; exact Nat.le_refl _)
      rw [KK.out, e1]
      exact ⟨rfl, by trivial⟩
set_option maxRecDepth 100000 in
set_option maxHeartbeats 8000000 in
theorem heldPa_at {xs : List (List (List Int))} (h : pastR TY w [v] (mkL mkR cntR xs k) fp) (hk : 0 ≤ k) (hc : k + cntL cntR xs ≤ 1000000) :
    Calls Try.prog 30 #[v, .int .i64 k] w fun r w' => r = .returned (.int .i64 (k + cntL cntR xs)) ∧ w = w' := by
  obtain ⟨x, n, c, rfl, hn, hm⟩ : ∃ x n c, v = .slice x n c ∧ n = xs.length ∧ n ≤ maxLen := by obtain ⟨_, _, e, q1, q2⟩ := slcR_value h; exact ⟨_, _, _, e, by rw [mkL_len], Nat.le_trans q1 q2⟩
  unfold maxLen at hm
  have HC := Lib.hid (And.intro hk hc)
  have HN := Lib.hid hn
  have H := Lib.hid h
  clear h hk hc hn
  go_enter Try.func30, Try.ntmps30
  go_wp2
  go_loopw [1, 5] (fun q i wr => ∃ j : Nat, j ≤ n ∧ i = .int .i64 (j : Int) ∧ q = .int .i64 (k + cntL cntR (xs.take j)) ∧ w = wr) (fun _ i _ => n - (intOf i).toNat)
  case atStart => exact ⟨0, Nat.zero_le _, rfl, by rw [List.take_zero, cntL_nil, Int.add_zero], rfl⟩
  case round =>
    obtain ⟨j, hj, rfl, rfl, rfl⟩ := hrel
    obtain ⟨kk, hkk⟩ : ∃ kk, kk = k + cntL cntR (xs.take j) := ⟨_, rfl⟩
    have KK := Lib.hid hkk
    rw [← hkk]
    by_cases hlt : j < n
    · obtain ⟨a, ha⟩ : ∃ a, xs[j]? = some a := ⟨_, List.getElem?_eq_getElem (by rw [← HN.out]; exact hlt)⟩
      have e2 := mkL_at (f := mkR) (c := cntR) ha k
      rw [← hkk] at e2
      obtain ⟨g, xr, cr, fr, rfl, _, _, r1, _, _, cz⟩ := past_at H.out e2
      have k0 : 0 ≤ kk := by have := cntL_nn cntR_nn (xs.take j); have := HC.out.1; omega
      have k1 : kk + cntR a ≤ 1000000 := by
        have := cntL_take cntR_nn xs (j + 1)
        rw [cntL_at ha] at this
        have := HC.out.2
        omega
      have SP := Lib.hid (cntL_at (c := cntR) ha)
      have ca := cntR_nn a
      have j0 : (0 : Int) ≤ (j : Int) := by omega
      have j1 : (j : Int) < (n : Int) := by omega
      have KC := Lib.hid (heldRs_at r1 k0 k1)
      obtain ⟨m, hm2⟩ : ∃ m, m = (mkR a kk).length := ⟨_, rfl⟩
      rw [← hm2] at KC cz
      have s0 : 0 ≤ kk + cntL cntI a := by have q : 0 ≤ cntL cntI a := ca; omega
      clear r1 e2 hkk ha hm2
      go_wp2_with fail
      refine KC.out.mono ?_
      rintro r w1 ⟨rfl, rfl⟩
      clear KC
      go_wp2
      go_roundw
      case rel => exact ⟨j + 1, hlt, by go_num, (by rw [SP.out, ← Int.add_assoc, ← KK.out]; try rfl), by trivial⟩
      case measure => simp [intOf]; omega
    · obtain rfl : j = n := by omega
      go_wp2
      go_ret
      have e1 : xs.take j = xs := List.take_of_length_le (by rw [HN.out]; exact Nat.le_refl _)
      rw [KK.out, e1]
      exact ⟨rfl, by trivial⟩
theorem sum_reads {V : SV} {s : Sm} {f : List Nat} (h : sumR w [.slice V.xr V.nr V.cr, .slice V.xf V.nf V.cf, .slice V.xt V.nt V.ct, .int .i64 s.lo, .int .i64 s.al, .slice V.xk V.nk V.ck, .int .i64 s.ka] s f) : ∃ f1 f2 f3 f4, rowsR w [.slice V.xr V.nr V.cr] s.rs f1 ∧ intsR w [.slice V.xf V.nf V.cf] s.zs f2 ∧ pairsR w [.slice V.xt V.nt V.ct] s.ps f3 ∧ knotsR w [.slice V.xk V.nk V.ck] s.ks f4 := by
  obtain ⟨U, f1, f2, f3, f4, e, rfl, h1, h2, h3, h4⟩ := h
  obtain ⟨a1, a2, a3, a4⟩ : SV.r U = SV.r V ∧ SV.f U = SV.f V ∧ SV.t U = SV.t V ∧ SV.k U = SV.k V := by
    simp only [List.cons.injEq, Value.slice.injEq, and_true, true_and] at e
    obtain ⟨⟨a1, a2, a3⟩, ⟨b1, b2, b3⟩, ⟨c1, c2, c3⟩, d1, d2, d3⟩ := e
    simp only [SV.r, SV.f, SV.t, SV.k, a1, a2, a3, b1, b2, b3, c1, c2, c3, d1, d2, d3, and_self]
  rw [a1] at h1; rw [a2] at h2; rw [a3] at h3; rw [a4] at h4
  exact ⟨f1, f2, f3, f4, h1, h2, h3, h4⟩
set_option maxRecDepth 100000 in
set_option maxHeartbeats 8000000 in
theorem heldK_at {xs : List En} (h : knownR TY w [v] (mkL mkE cntE xs k) fp) (hk : 0 ≤ k) (hc : k + cntL cntE xs ≤ 1000000) :
    Calls Try.prog 40 #[v, .int .i64 k] w fun r w' => r = .returned (.int .i64 (k + cntL cntE xs)) ∧ w = w' := by
  obtain ⟨x, n, c, rfl, hn, hm⟩ : ∃ x n c, v = .slice x n c ∧ n = xs.length ∧ n ≤ maxLen := by obtain ⟨_, _, e, q1, q2⟩ := slcR_value h; exact ⟨_, _, _, e, by rw [mkL_len], Nat.le_trans q1 q2⟩
  unfold maxLen at hm
  have HC := Lib.hid (And.intro hk hc)
  have HN := Lib.hid hn
  have H := Lib.hid h
  clear h hk hc hn
  go_enter Try.func40, Try.ntmps40
  go_wp2
  go_loopw [1, 5] (fun q i wr => ∃ j : Nat, j ≤ n ∧ i = .int .i64 (j : Int) ∧ q = .int .i64 (k + cntL cntE (xs.take j)) ∧ w = wr) (fun _ i _ => n - (intOf i).toNat)
  case atStart => exact ⟨0, Nat.zero_le _, rfl, by rw [List.take_zero, cntL_nil, Int.add_zero], rfl⟩
  case round =>
    obtain ⟨j, hj, rfl, rfl, rfl⟩ := hrel
    obtain ⟨kk, hkk⟩ : ∃ kk, kk = k + cntL cntE (xs.take j) := ⟨_, rfl⟩
    have KK := Lib.hid hkk
    rw [← hkk]
    by_cases hlt : j < n
    · obtain ⟨a, ha⟩ : ∃ a, xs[j]? = some a := ⟨_, List.getElem?_eq_getElem (by rw [← HN.out]; exact hlt)⟩
      have e2 := mkL_at (f := mkE) (c := cntE) ha k
      rw [← hkk] at e2
      skip
      have k0 : 0 ≤ kk := by have := cntL_nn cntE_nn (xs.take j); have := HC.out.1; omega
      have k1 : kk + cntE a ≤ 1000000 := by
        have := cntL_take cntE_nn xs (j + 1)
        rw [cntL_at ha] at this
        have := HC.out.2
        omega
      have SP := Lib.hid (cntL_at (c := cntE) ha)
      have ca := cntE_nn a
      have j0 : (0 : Int) ≤ (j : Int) := by omega
      have j1 : (j : Int) < (n : Int) := by omega
      have CB := Lib.hid (show kk + (3 + (cntR a.s.rs + a.s.zs.length + 2 * a.s.ps.length + 2 + 2 * a.s.ks.length + 1)) ≤ 1000000 from k1)
      have EQ := Lib.hid (show cntE a = 3 + (cntR a.s.rs + a.s.zs.length + 2 * a.s.ps.length + 2 + 2 * a.s.ks.length + 1) from rfl)
      obtain ⟨k4, hk4⟩ : ∃ k4, k4 = kk + 3 + cntR a.s.rs := ⟨_, rfl⟩
      obtain ⟨k5, hk5⟩ : ∃ k5, k5 = k4 + a.s.zs.length := ⟨_, rfl⟩
      obtain ⟨k6, hk6⟩ : ∃ k6, k6 = k5 + 2 * (a.s.ps.length : Int) := ⟨_, rfl⟩
      obtain ⟨k7, hk7⟩ : ∃ k7, k7 = k6 + 2 + 2 * (a.s.ks.length : Int) := ⟨_, rfl⟩
      have he : mkE a kk = ⟨kk, kk + 1, kk + 1 + 1, ⟨mkR a.s.rs (kk + 3), mkI a.s.zs k4, mkP2 a.s.ps k5, k6, k6 + 1, mkP2 a.s.ks (k6 + 2), k7⟩⟩ := by rw [show kk + 1 + 1 = kk + 2 by omega, hk7, hk6, hk5, hk4]; rfl
      rw [he] at e2
      obtain ⟨g, V, fe, rfl, _, _, r1, z0, z1, z2, zs⟩ := known_at H.out e2
      simp only at z0 z1 z2
      have z3 := zs 0 _ rfl
      have z4 := zs 1 _ rfl
      have z5 := zs 2 _ rfl
      have z6 := zs 3 _ rfl
      have z7 := zs 4 _ rfl
      have z8 := zs 5 _ rfl
      have z9 := zs 6 _ rfl
      simp only [Nat.add_zero, Nat.reduceAdd] at z3 z4 z5 z6 z7 z8 z9
      obtain ⟨f1, f2, f3, f4, r2, r3, r4, r5⟩ := sum_reads r1
      simp only at r2 r3 r4 r5
      have nr := cntR_nn a.s.rs
      have C1 := Lib.hid (heldRs_at (k := kk + 3) r2 (by omega) (by have := CB.out; show kk + 3 + cntR a.s.rs ≤ 1000000; omega))
      have C2 := Lib.hid (heldI_at (k := k4) r3 (by omega) (by have := CB.out; show k4 + a.s.zs.length ≤ 1000000; omega))
      have C3 := Lib.hid (heldP_at (k := k5) r4 (by omega) (by have := CB.out; omega))
      have C4 := Lib.hid (heldKn_at (k := k6 + 2) r5 (by omega) (by have := CB.out; omega))
      have b0 : kk ≤ 1000000 := by have := CB.out; omega
      have b4 : 0 ≤ k4 := by omega
      have b5 : 0 ≤ k5 := by omega
      have b6 : 0 ≤ k6 := by omega
      have b6' : k6 ≤ 1000000 := by have := CB.out; omega
      have b7 : 0 ≤ k7 := by omega
      have b7' : k7 ≤ 1000000 := by have := CB.out; omega
      have K4 := Lib.hid hk4
      have K5 := Lib.hid hk5
      have K6 := Lib.hid hk6
      have K7 := Lib.hid hk7
      have E7 := Lib.hid (show k7 + 1 = k + cntL cntE (xs.take (j + 1)) by
        rw [SP.out, ← Int.add_assoc, ← KK.out, EQ.out]
        omega)
      clear r1 r2 r3 r4 r5 zs e2 he hk4 hk5 hk6 hk7 hkk ha k1 ca nr
      go_wp2_with fail
      rw [show kk + 1 + 1 + 1 = kk + 3 by omega]
      refine C1.out.mono ?_
      rintro r w1 ⟨rfl, rfl⟩
      rw [show kk + 3 + cntL cntI a.s.rs = k4 from K4.out.symm]
      go_wp2_with fail
      refine C2.out.mono ?_
      rintro r w1 ⟨rfl, rfl⟩
      rw [show k4 + cntI a.s.zs = k5 from K5.out.symm]
      go_wp2_with fail
      refine C3.out.mono ?_
      rintro r w1 ⟨rfl, rfl⟩
      rw [← K6.out]
      go_wp2_with fail
      rw [show k6 + 1 + 1 = k6 + 2 by omega]
      refine C4.out.mono ?_
      rintro r w1 ⟨rfl, rfl⟩
      rw [← K7.out]
      go_wp2
      go_roundw
      case rel => exact ⟨j + 1, hlt, by go_num, (by rw [E7.out]), by trivial⟩
      case measure => simp [intOf]; omega
    · obtain rfl : j = n := by omega
      go_wp2
      go_ret
      have e1 : xs.take j = xs := List.take_of_length_le (by rw [HN.out]; exact Nat.le_refl _)
      rw [KK.out, e1]
      exact ⟨rfl, by trivial⟩
set_option maxRecDepth 100000 in
set_option maxHeartbeats 8000000 in
theorem heldNs_at {xs : List Nd} (h : nodesR TY w [v] (mkL mkN cntN xs k) fp) (hk : 0 ≤ k) (hc : k + cntL cntN xs ≤ 1000000) :
    Calls Try.prog 27 #[v, .int .i64 k] w fun r w' => r = .returned (.int .i64 (k + cntL cntN xs)) ∧ w = w' := by
  obtain ⟨x, n, c, rfl, hn, hm⟩ : ∃ x n c, v = .slice x n c ∧ n = xs.length ∧ n ≤ maxLen := by obtain ⟨_, _, e, q1, q2⟩ := slcR_value h; exact ⟨_, _, _, e, by rw [mkL_len], Nat.le_trans q1 q2⟩
  unfold maxLen at hm
  have HC := Lib.hid (And.intro hk hc)
  have HN := Lib.hid hn
  have H := Lib.hid h
  clear h hk hc hn
  go_enter Try.func27, Try.ntmps27
  go_wp2
  go_loopw [1, 5] (fun q i wr => ∃ j : Nat, j ≤ n ∧ i = .int .i64 (j : Int) ∧ q = .int .i64 (k + cntL cntN (xs.take j)) ∧ w = wr) (fun _ i _ => n - (intOf i).toNat)
  case atStart => exact ⟨0, Nat.zero_le _, rfl, by rw [List.take_zero, cntL_nil, Int.add_zero], rfl⟩
  case round =>
    obtain ⟨j, hj, rfl, rfl, rfl⟩ := hrel
    obtain ⟨kk, hkk⟩ : ∃ kk, kk = k + cntL cntN (xs.take j) := ⟨_, rfl⟩
    have KK := Lib.hid hkk
    rw [← hkk]
    by_cases hlt : j < n
    · obtain ⟨a, ha⟩ : ∃ a, xs[j]? = some a := ⟨_, List.getElem?_eq_getElem (by rw [← HN.out]; exact hlt)⟩
      have e2 := mkL_at (f := mkN) (c := cntN) ha k
      rw [← hkk] at e2
      skip
      have k0 : 0 ≤ kk := by have := cntL_nn cntN_nn (xs.take j); have := HC.out.1; omega
      have k1 : kk + cntN a ≤ 1000000 := by
        have := cntL_take cntN_nn xs (j + 1)
        rw [cntL_at ha] at this
        have := HC.out.2
        omega
      have SP := Lib.hid (cntL_at (c := cntN) ha)
      have ca := cntN_nn a
      have j0 : (0 : Int) ≤ (j : Int) := by omega
      have j1 : (j : Int) < (n : Int) := by omega
      obtain ⟨k4, hk4⟩ : ∃ k4, k4 = kk + 1 + cntK a.known := ⟨_, rfl⟩
      have he : mkN a kk = ⟨kk, mkK a.known (kk + 1), k4, k4 + 1, k4 + 1 + 1⟩ := by rw [hk4]; unfold mkN; congr 1; omega
      rw [he] at e2
      obtain ⟨g, y, cy, fe, rfl, _, _, r1, _, _, z0, z1, z2, z3, z4⟩ := node_at H.out e2
      simp only at z0 z1 z2 z3 z4 r1
      have cn := cntK_nn a.known
      have CB := Lib.hid (show kk + (1 + cntK a.known + 3) ≤ 1000000 from k1)
      have EQ := Lib.hid (show cntN a = 1 + cntK a.known + 3 from rfl)
      have KC := Lib.hid (heldK_at (k := kk + 1) r1 (by omega) (by have := CB.out; show kk + 1 + cntK a.known ≤ 1000000; omega))
      obtain ⟨m, hm2⟩ : ∃ m, m = (mkK a.known (kk + 1)).length := ⟨_, rfl⟩
      rw [← hm2] at KC z1
      have b0 : kk ≤ 1000000 := by have := CB.out; omega
      have b4 : 0 ≤ k4 := by omega
      have b4' : k4 ≤ 1000000 := by have := CB.out; omega
      have K4 := Lib.hid hk4
      have E7 := Lib.hid (show k4 + 1 + 1 + 1 = k + cntL cntN (xs.take (j + 1)) by
        rw [SP.out, ← Int.add_assoc, ← KK.out, EQ.out]
        omega)
      clear r1 e2 he hk4 hkk ha k1 ca cn hm2
      go_wp2_with fail
      refine KC.out.mono ?_
      rintro r w1 ⟨rfl, rfl⟩
      rw [show kk + 1 + cntL cntE a.known = k4 from K4.out.symm]
      go_wp2
      go_roundw
      case rel => exact ⟨j + 1, hlt, by go_num, (by rw [E7.out]), by trivial⟩
      case measure => simp [intOf]; omega
    · obtain rfl : j = n := by omega
      go_wp2
      go_ret
      have e1 : xs.take j = xs := List.take_of_length_le (by rw [HN.out]; exact Nat.le_refl _)
      rw [KK.out, e1]
      exact ⟨rfl, by trivial⟩
set_option maxRecDepth 100000 in
set_option maxHeartbeats 8000000 in
theorem heldWs_at {xs : List Wd} (h : wordsR TY w [v] (mkL mkW cntW xs k) fp) (hk : 0 ≤ k) (hc : k + cntL cntW xs ≤ 1000000) :
    Calls Try.prog 29 #[v, .int .i64 k] w fun r w' => r = .returned (.int .i64 (k + cntL cntW xs)) ∧ w = w' := by
  obtain ⟨x, n, c, rfl, hn, hm⟩ : ∃ x n c, v = .slice x n c ∧ n = xs.length ∧ n ≤ maxLen := by obtain ⟨_, _, e, q1, q2⟩ := slcR_value h; exact ⟨_, _, _, e, by rw [mkL_len], Nat.le_trans q1 q2⟩
  unfold maxLen at hm
  have HC := Lib.hid (And.intro hk hc)
  have HN := Lib.hid hn
  have H := Lib.hid h
  clear h hk hc hn
  go_enter Try.func29, Try.ntmps29
  go_wp2
  go_loopw [1, 5] (fun q i wr => ∃ j : Nat, j ≤ n ∧ i = .int .i64 (j : Int) ∧ q = .int .i64 (k + cntL cntW (xs.take j)) ∧ w = wr) (fun _ i _ => n - (intOf i).toNat)
  case atStart => exact ⟨0, Nat.zero_le _, rfl, by rw [List.take_zero, cntL_nil, Int.add_zero], rfl⟩
  case round =>
    obtain ⟨j, hj, rfl, rfl, rfl⟩ := hrel
    obtain ⟨kk, hkk⟩ : ∃ kk, kk = k + cntL cntW (xs.take j) := ⟨_, rfl⟩
    have KK := Lib.hid hkk
    rw [← hkk]
    by_cases hlt : j < n
    · obtain ⟨a, ha⟩ : ∃ a, xs[j]? = some a := ⟨_, List.getElem?_eq_getElem (by rw [← HN.out]; exact hlt)⟩
      have e2 := mkL_at (f := mkW) (c := cntW) ha k
      rw [← hkk] at e2
      skip
      have k0 : 0 ≤ kk := by have := cntL_nn cntW_nn (xs.take j); have := HC.out.1; omega
      have k1 : kk + cntW a ≤ 1000000 := by
        have := cntL_take cntW_nn xs (j + 1)
        rw [cntL_at ha] at this
        have := HC.out.2
        omega
      have SP := Lib.hid (cntL_at (c := cntW) ha)
      have ca := cntW_nn a
      have j0 : (0 : Int) ≤ (j : Int) := by omega
      have j1 : (j : Int) < (n : Int) := by omega
      have he : mkW a kk = ⟨kk, kk + 1, kk + 1 + 1, kk + 1 + 1 + 1, kk + 1 + 1 + 1 + 1, mkK a.known (kk + 1 + 1 + 1 + 1 + 1)⟩ := by rw [show kk + 1 + 1 + 1 + 1 + 1 = kk + 5 by omega]; unfold mkW; congr 1 <;> omega
      rw [he] at e2
      obtain ⟨g, y, cy, fe, rfl, _, _, r1, _, _, z0, z1, z2, z3, z4, z5⟩ := wordR_at H.out e2
      simp only at z0 z1 z2 z3 z4 z5 r1
      have cn := cntK_nn a.known
      have CB := Lib.hid (show kk + (5 + cntK a.known) ≤ 1000000 from k1)
      have EQ := Lib.hid (show cntW a = 5 + cntK a.known from rfl)
      have KC := Lib.hid (heldK_at (k := kk + 1 + 1 + 1 + 1 + 1) r1 (by omega) (by have := CB.out; show kk + 1 + 1 + 1 + 1 + 1 + cntK a.known ≤ 1000000; omega))
      obtain ⟨m, hm2⟩ : ∃ m, m = (mkK a.known (kk + 1 + 1 + 1 + 1 + 1)).length := ⟨_, rfl⟩
      rw [← hm2] at KC z5
      obtain ⟨k4, hk4⟩ : ∃ k4, k4 = kk + 1 + 1 + 1 + 1 + 1 + cntK a.known := ⟨_, rfl⟩
      have b0 : kk ≤ 1000000 := by have := CB.out; omega
      have b4 : 0 ≤ k4 := by omega
      have K4 := Lib.hid hk4
      have E7 := Lib.hid (show k4 = k + cntL cntW (xs.take (j + 1)) by
        rw [SP.out, ← Int.add_assoc, ← KK.out, EQ.out]
        omega)
      clear r1 e2 he hk4 hkk ha k1 ca cn hm2
      go_wp2_with fail
      refine KC.out.mono ?_
      rintro r w1 ⟨rfl, rfl⟩
      rw [show kk + 1 + 1 + 1 + 1 + 1 + cntL cntE a.known = k4 from K4.out.symm]
      go_wp2
      go_roundw
      case rel => exact ⟨j + 1, hlt, by go_num, (by rw [E7.out]), by trivial⟩
      case measure => simp [intOf]; omega
    · obtain rfl : j = n := by omega
      go_wp2
      go_ret
      have e1 : xs.take j = xs := List.take_of_length_le (by rw [HN.out]; exact Nat.le_refl _)
      rw [KK.out, e1]
      exact ⟨rfl, by trivial⟩
end N
end Go.Proofs.Ytnpogmhfdjmfdaa

/-
  The laws' own marks in a whole net: whether they are held.
-/
namespace Go.Proofs.Ytnpogmhfdjmfdaa
open Go.RowKit Go.Sort
namespace N
variable {w : World} {v : Value} {k : Int} {fp : List Nat}
set_option maxRecDepth 100000 in
set_option maxHeartbeats 4000000 in
theorem heldBs_at {xs : List Bool} (h : linksR TY w [v] (mkB xs k) fp) (hk : 0 ≤ k) (hc : k + (xs.length : Int) ≤ 1000000) :
    Calls Try.prog 28 #[v, .int .i64 k] w fun r w' => r = .returned (.int .i64 (k + (xs.length : Int))) ∧ w = w' := by
  obtain ⟨x, n, c, rfl, hn, hm⟩ : ∃ x n c, v = .slice x n c ∧ n = xs.length ∧ n ≤ maxLen := by obtain ⟨_, _, e, q1, q2⟩ := slcR_value h; exact ⟨_, _, _, e, by rw [mkB_len], Nat.le_trans q1 q2⟩
  unfold maxLen at hm
  rw [← hn] at hc ⊢
  have HC := Lib.hid (And.intro hk hc)
  have HN := Lib.hid hn
  have H := Lib.hid h
  clear h hk hc hn
  go_enter Try.func28, Try.ntmps28
  go_wp2
  go_loopw [1, 5] (fun q i wr => ∃ j : Nat, j ≤ n ∧ i = .int .i64 (j : Int) ∧ q = .int .i64 (k + (j : Int)) ∧ w = wr) (fun _ i _ => n - (intOf i).toNat)
  case atStart => exact ⟨0, Nat.zero_le _, rfl, by simp, rfl⟩
  case round =>
    obtain ⟨j, hj, rfl, rfl, rfl⟩ := hrel
    by_cases hlt : j < n
    · obtain ⟨kk, hkk⟩ : ∃ kk, kk = k + (j : Int) := ⟨_, rfl⟩
      have KK := Lib.hid hkk
      rw [← hkk]
      have k0 : 0 ≤ kk := by have := HC.out.1; omega
      have k1 : kk ≤ 1000000 := by have := HC.out.2; omega
      have q : (kk % 3 == 0) = decide (kk % 3 = 0) := by by_cases h : kk % 3 = 0 <;> simp [h]
      have e2 : (mkB xs k)[j]? = some (kk % 3 == 0) := by
        rw [q]
        unfold mkB
        rw [List.getElem?_map, List.getElem?_range (by rw [← HN.out]; exact hlt), Option.map_some, ← hkk, Int.tmod_eq_emod_of_nonneg k0]
      obtain ⟨g, rfl, _, cz⟩ := link_at H.out e2
      have j0 : (0 : Int) ≤ (j : Int) := by omega
      have j1 : (j : Int) < (n : Int) := by omega
      clear e2 hkk q
      go_wp2
      go_roundw
      case rel => exact ⟨j + 1, hlt, by go_num, by rw [KK.out]; go_num, by trivial⟩
      case measure => simp [intOf]; omega
    · obtain rfl : j = n := by omega
      go_wp2
      go_ret
      exact ⟨rfl, by trivial⟩
set_option maxRecDepth 100000 in
set_option maxHeartbeats 4000000 in
theorem heldNet_at {a : Nt} {xa xb xc xd : Option Addr} {na nb nc nd ca cb cc cd : Nat} (h : netR TY w [.slice xa na ca, .slice xb nb cb, .slice xc nc cc, .slice xd nd cd] (mkNt a k) fp) (hk : 0 ≤ k) (hc : k + cntNt a ≤ 1000000) :
    Calls Try.prog 11 #[.agg #[.slice xa na ca, .slice xb nb cb, .slice xc nc cc, .slice xd nd cd], .int .i64 k] w fun r w' => r = .returned (.int .i64 (k + cntNt a)) ∧ Below w.heap.size w w' := by
  obtain ⟨p1, p2, p3⟩ := parts_nn a
  have ei := cntNt_iff a
  obtain ⟨k1, hk1⟩ : ∃ k1, k1 = k + cntL cntN a.nodes := ⟨_, rfl⟩
  obtain ⟨k2, hk2⟩ : ∃ k2, k2 = k1 + (a.links.length : Int) := ⟨_, rfl⟩
  obtain ⟨k3, hk3⟩ : ∃ k3, k3 = k2 + cntL cntW a.words := ⟨_, rfl⟩
  obtain ⟨k4, hk4⟩ : ∃ k4, k4 = k3 + cntL cntR a.past := ⟨_, rfl⟩
  have e : mkNt a k = ⟨mkL mkN cntN a.nodes k, mkB a.links k1, mkL mkW cntW a.words k2, mkL mkR cntR a.past k3⟩ := by rw [hk3, hk2, hk1]; rfl
  rw [e] at h
  rw [show k + cntNt a = k4 by omega]
  obtain ⟨_, _, _, _, f1, f2, f3, f4, e', _, r1, r2, r3, r4⟩ := netR_iff.1 h
  cases e'
  simp only at r1 r2 r3 r4
  have H := Lib.hid ((M.start w).alloc #[.slice xa na ca, .slice xb nb cb, .slice xc nc cc, .slice xd nd cd] 28)
  have C1 := Lib.hid (heldNs_at (k := k) (nodesR_frame.below r1 H.out.below (Nat.le_refl _)) hk (by omega))
  have C2 := Lib.hid (heldBs_at (k := k1) (linksR_frame.below r2 H.out.below (Nat.le_refl _)) (by omega) (by omega))
  have C3 := Lib.hid (heldWs_at (k := k2) (wordsR_frame.below r3 H.out.below (Nat.le_refl _)) (by omega) (by omega))
  have C4 := Lib.hid (heldPa_at (k := k3) (pastR_frame.below r4 H.out.below (Nat.le_refl _)) (by omega) (by omega))
  rw [← hk1] at C1
  rw [← hk2] at C2
  rw [← hk3] at C3
  rw [← hk4] at C4
  have b1 : 0 ≤ k1 := by omega
  have b2 : 0 ≤ k2 := by omega
  have b3 : 0 ≤ k3 := by omega
  have b4 : 0 ≤ k4 := by omega
  obtain ⟨c0, c1, c2, c3⟩ := H.out.cells4
  clear h e r1 r2 r3 r4 hk1 hk2 hk3 hk4 p1 p2 p3 ei hc
  go_enter Try.func11, Try.ntmps11
  go_wp2_with fail
  refine C1.out.mono ?_
  rintro r w1 ⟨rfl, rfl⟩
  go_wp2_with fail
  refine C2.out.mono ?_
  rintro r w1 ⟨rfl, rfl⟩
  go_wp2_with fail
  refine C3.out.mono ?_
  rintro r w1 ⟨rfl, rfl⟩
  go_wp2_with fail
  refine C4.out.mono ?_
  rintro r w1 ⟨rfl, rfl⟩
  go_wp2
  go_ret
  exact ⟨rfl, H.out.below⟩
end N
end Go.Proofs.Ytnpogmhfdjmfdaa
