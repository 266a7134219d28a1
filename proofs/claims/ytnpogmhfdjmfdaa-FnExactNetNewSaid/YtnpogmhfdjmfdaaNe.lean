/-
  Several texts in one: NMark, NMk, NMkE, NMkN, NMkW.
-/
import Derived.Test.YtnpogmhfdjmfdaaNa
import Derived.Test.YtnpogmhfdjmfdaaNb
import Derived.Test.YtnpogmhfdjmfdaaZExM
set_option linter.unusedVariables false
set_option linter.unusedSectionVars false
set_option linter.unusedSimpArgs false
/-
  A net whose every number is marked, one behind the other, as plain data.
-/
namespace Go.Proofs.Ytnpogmhfdjmfdaa.N
open Go.RowKit Go.Sort

def cntL {α : Type} (c : α → Int) (l : List α) : Int := (l.map c).sum
def mkL {α : Type} (f : α → Int → α) (c : α → Int) : List α → Int → List α
  | [], _ => []
  | x :: xs, k => f x k :: mkL f c xs (k + c x)
section
variable {α : Type} {f : α → Int → α} {c : α → Int}
theorem cntL_nil : cntL c [] = 0 := rfl
theorem cntL_cons (x : α) (xs : List α) : cntL c (x :: xs) = c x + cntL c xs := by unfold cntL; rw [List.map_cons, List.sum_cons]
theorem cntL_app (a b : List α) : cntL c (a ++ b) = cntL c a + cntL c b := by unfold cntL; rw [List.map_append, List.sum_append]
theorem cntL_nn (h : ∀ x, 0 ≤ c x) : ∀ l : List α, 0 ≤ cntL c l
  | [] => Int.le_refl _
  | x :: xs => by have := cntL_nn h xs; have := h x; rw [cntL_cons]; omega
theorem cntL_at {l : List α} {i : Nat} {x : α} (h : l[i]? = some x) : cntL c (l.take (i + 1)) = cntL c (l.take i) + c x := by
  rw [List.take_add_one, h, cntL_app]
  show _ + cntL c [x] = _
  rw [cntL_cons, cntL_nil, Int.add_zero]
theorem cntL_take (h : ∀ x, 0 ≤ c x) (l : List α) (i : Nat) : cntL c (l.take i) ≤ cntL c l := by
  have e : cntL c l = cntL c (l.take i) + cntL c (l.drop i) := by rw [← cntL_app, List.take_append_drop]
  have := cntL_nn h (l.drop i)
  omega
theorem mkL_len : ∀ (l : List α) (k : Int), (mkL f c l k).length = l.length
  | [], _ => rfl
  | x :: xs, k => by show (mkL f c xs _).length + 1 = xs.length + 1; rw [mkL_len xs]
theorem mkL_app : ∀ (a b : List α) (k : Int), mkL f c (a ++ b) k = mkL f c a k ++ mkL f c b (k + cntL c a)
  | [], b, k => by rw [cntL_nil, Int.add_zero]; rfl
  | x :: xs, b, k => by
    show f x k :: mkL f c (xs ++ b) (k + c x) = f x k :: (mkL f c xs (k + c x) ++ _)
    rw [mkL_app xs b, cntL_cons, Int.add_assoc]
theorem mkL_at : ∀ {l : List α} {i : Nat} {x : α}, l[i]? = some x → ∀ k, (mkL f c l k)[i]? = some (f x (k + cntL c (l.take i)))
  | [], i, x, h, k => by simp at h
  | y :: ys, 0, x, h, k => by
    have : y = x := by simpa using h
    subst this
    show some (f y k) = _
    rw [List.take_zero, cntL_nil, Int.add_zero]
  | y :: ys, i + 1, x, h, k => by
    have h' : ys[i]? = some x := by simpa using h
    show (mkL f c ys (k + c y))[i]? = _
    rw [mkL_at h', List.take_succ_cons, cntL_cons, Int.add_assoc]
/-- One more is marked. -/
theorem mkL_step {l : List α} {i : Nat} {x : α} (h : l[i]? = some x) (k : Int) : (mkL f c (l.take i) k ++ l.drop i).set i (f x (k + cntL c (l.take i))) = mkL f c (l.take (i + 1)) k ++ l.drop (i + 1) ∧ (mkL f c (l.take i) k ++ l.drop i)[i]? = some x := by
  obtain ⟨hi, rfl⟩ := List.getElem?_eq_some_iff.1 h
  have ln : (mkL f c (l.take i) k).length = i := by rw [mkL_len, List.length_take]; omega
  have d : l.drop i = l[i] :: l.drop (i + 1) := List.drop_eq_getElem_cons hi
  constructor
  · rw [d, List.set_append_right _ _ (by omega), ln, Nat.sub_self, List.set_cons_zero, List.take_add_one, h, mkL_app]
    show _ = (_ ++ [f l[i] _]) ++ _
    rw [List.append_assoc]; rfl
  · rw [List.getElem?_append_right (by omega), ln, Nat.sub_self, d]; rfl
end
def cntI (l : List Int) : Int := l.length
def mkI (l : List Int) (k : Int) : List Int := (List.range l.length).map fun (i : Nat) => k + (i : Int)
def mkP2 (l : List (Int × Int)) (k : Int) : List (Int × Int) := (List.range l.length).map fun (i : Nat) => (k + 2 * (i : Int), k + 2 * (i : Int) + 1)
def mkB (l : List Bool) (k : Int) : List Bool := (List.range l.length).map fun (i : Nat) => decide ((k + (i : Int)).tmod 3 = 0)
def cntR (rs : List (List Int)) : Int := cntL cntI rs
def mkR (rs : List (List Int)) (k : Int) : List (List Int) := mkL mkI cntI rs k
def cntS (s : Sm) : Int := cntR s.rs + s.zs.length + 2 * s.ps.length + 2 + 2 * s.ks.length + 1
def mkS (s : Sm) (k : Int) : Sm :=
  let k1 := k + cntR s.rs
  let k2 := k1 + s.zs.length
  let k3 := k2 + 2 * s.ps.length
  let k4 := k3 + 2
  let k5 := k4 + 2 * s.ks.length
  ⟨mkR s.rs k, mkI s.zs k1, mkP2 s.ps k2, k3, k3 + 1, mkP2 s.ks k4, k5⟩
def cntE (e : En) : Int := 3 + cntS e.s
def mkE (e : En) (k : Int) : En := ⟨k, k + 1, k + 2, mkS e.s (k + 3)⟩
def cntK (es : List En) : Int := cntL cntE es
def mkK (es : List En) (k : Int) : List En := mkL mkE cntE es k
def cntN (x : Nd) : Int := 1 + cntK x.known + 3
def mkN (x : Nd) (k : Int) : Nd := ⟨k, mkK x.known (k + 1), k + 1 + cntK x.known, k + 1 + cntK x.known + 1, k + 1 + cntK x.known + 2⟩
def cntW (x : Wd) : Int := 5 + cntK x.known
def mkW (x : Wd) (k : Int) : Wd := ⟨k, k + 1, k + 2, k + 3, k + 4, mkK x.known (k + 5)⟩
def cntP (ps : List (List (List Int))) : Int := cntL cntR ps
def mkPast (ps : List (List (List Int))) (k : Int) : List (List (List Int)) := mkL mkR cntR ps k
def cntNt (n : Nt) : Int := cntL cntN n.nodes + n.links.length + cntL cntW n.words + cntP n.past
def mkNt (n : Nt) (k : Int) : Nt :=
  let k1 := k + cntL cntN n.nodes
  let k2 := k1 + n.links.length
  let k3 := k2 + cntL cntW n.words
  ⟨mkL mkN cntN n.nodes k, mkB n.links k1, mkL mkW cntW n.words k2, mkPast n.past k3⟩
theorem cntI_nn (l : List Int) : 0 ≤ cntI l := Int.natCast_nonneg _
theorem cntR_nn (rs : List (List Int)) : 0 ≤ cntR rs := cntL_nn cntI_nn rs
theorem cntS_nn (s : Sm) : 0 ≤ cntS s := by have := cntR_nn s.rs; unfold cntS; omega
theorem cntE_nn (e : En) : 0 ≤ cntE e := by have := cntS_nn e.s; unfold cntE; omega
theorem cntK_nn (es : List En) : 0 ≤ cntK es := cntL_nn cntE_nn es
theorem cntN_nn (x : Nd) : 0 ≤ cntN x := by have := cntK_nn x.known; unfold cntN; omega
theorem cntW_nn (x : Wd) : 0 ≤ cntW x := by have := cntK_nn x.known; unfold cntW; omega
theorem cntP_nn (ps : List (List (List Int))) : 0 ≤ cntP ps := cntL_nn cntR_nn ps
end Go.Proofs.Ytnpogmhfdjmfdaa.N

/-
  The laws' own marks in nets: every number another one, one behind the other.
-/
namespace Go.Proofs.Ytnpogmhfdjmfdaa
open Go.RowKit Go.Sort
namespace N
variable {B : Nat} {w0 w : World} {l : List Ch} {v : Value} {k : Int}
theorem kept_row {w w' : World} {v : Value} (h : w.grownBy w' v.ownBlock) : KeptB (fun b => b ∈ v.ownBlock.toList) w w' := by
  cases e : v.ownBlock with
  | none => rw [e] at h; exact ⟨h.1, h.2, h.3, h.4, fun b hb _ => h.5 b hb (by simp)⟩
  | some g => rw [e] at h; exact KeptB.of_grown h (by simp)
def pairsC (v : Value) (ps : List (Int × Int)) : Ch := slcC (flatR_frame encP2) 94 2 v ps
def knotsC (v : Value) (ps : List (Int × Int)) : Ch := slcC (flatR_frame encP2) 96 2 v ps
theorem markI_M {zs : List Int} (h : M B w0 w (intsC v zs :: l)) (hk : 0 ≤ k) (hc : k + cntI zs ≤ 1000000) :
    Calls Try.prog 9 #[v, .int .i64 k] w fun r w' => r = .returned (.int .i64 (k + cntI zs)) ∧ M B w0 w' (intsC v (mkI zs k) :: l) := by
  have hn : (zs.length : Int) ≤ 1000000 := by unfold cntI at hc; omega
  obtain ⟨f, hf, _⟩ := h.first
  obtain ⟨v', e, o, _⟩ := intsR_to hf
  cases e
  have hk2 : k ≤ 1000000 := by have := cntI_nn zs; omega
  refine (markIntS_own w 0 v zs k o (by omega) hk (by omega)).mono ?_
  rintro r w' ⟨rfl, o', hg⟩
  refine ⟨rfl, h.turn fun f hf nd lo => ?_⟩
  obtain ⟨_, e, _, rfl⟩ := intsR_to hf
  cases e
  exact ⟨kept_row hg, _, intsR_of o', nd, fun b hb => .inl hb⟩
theorem markP_M {ps : List (Int × Int)} (h : M B w0 w (pairsC v ps :: l)) (hk : 0 ≤ k) (hc : k + 2 * (ps.length : Int) ≤ 1000000) :
    Calls Try.prog 45 #[v, .int .i64 k] w fun r w' => r = .returned (.int .i64 (k + 2 * (ps.length : Int))) ∧ M B w0 w' (pairsC v (mkP2 ps k) :: l) := by
  obtain ⟨f, hf, _⟩ := h.first
  obtain ⟨v', e, o, _⟩ := pairsR_to hf
  cases e
  refine (T.markPairS_own w 0 v ps k o (by omega) hk (by omega)).mono ?_
  rintro r w' ⟨rfl, o', hg⟩
  refine ⟨rfl, h.turn fun f hf nd lo => ?_⟩
  obtain ⟨_, e, _, rfl⟩ := pairsR_to hf
  cases e
  exact ⟨kept_row hg, _, pairsR_of o', nd, fun b hb => .inl hb⟩
theorem markKn_M {ps : List (Int × Int)} (h : M B w0 w (knotsC v ps :: l)) (hk : 0 ≤ k) (hc : k + 2 * (ps.length : Int) ≤ 1000000) :
    Calls Try.prog 46 #[v, .int .i64 k] w fun r w' => r = .returned (.int .i64 (k + 2 * (ps.length : Int))) ∧ M B w0 w' (knotsC v (mkP2 ps k) :: l) := by
  obtain ⟨f, hf, _⟩ := h.first
  obtain ⟨v', e, o, _⟩ := knotsR_to hf
  cases e
  refine (K.markKnotS_own w 0 v ps k o (by omega) hk (by omega)).mono ?_
  rintro r w' ⟨rfl, o', hg⟩
  refine ⟨rfl, h.turn fun f hf nd lo => ?_⟩
  obtain ⟨_, e, _, rfl⟩ := knotsR_to hf
  cases e
  exact ⟨kept_row hg, _, knotsR_of o', nd, fun b hb => .inl hb⟩
set_option maxRecDepth 100000 in
set_option maxHeartbeats 4000000 in
theorem markRs_M {xs : List (List Int)} (h : M B w0 w (rowsC v xs :: l)) (hk : 0 ≤ k) (hc : k + cntL cntI xs ≤ 1000000) :
    Calls Try.prog 39 #[v, .int .i64 k] w fun r w' => r = .returned (.int .i64 (k + cntL cntI xs)) ∧ M B w0 w' (rowsC v (mkL mkI cntI xs k) :: l) := by
  obtain ⟨x, n, c, rfl, hn, hm⟩ : ∃ x n c, v = .slice x n c ∧ n = xs.length ∧ n ≤ maxLen := by obtain ⟨f, hf, _⟩ := h.first; obtain ⟨_, _, e, q1, q2⟩ := slcR_value hf; exact ⟨_, _, _, e, rfl, Nat.le_trans q1 q2⟩
  unfold maxLen at hm
  have HC := Lib.hid (And.intro hk hc)
  have HN := Lib.hid hn
  have H := Lib.hid h
  clear h hk hc hn
  go_enter Try.func39, Try.ntmps39
  go_wp2
  go_loopw [1, 5] (fun q i wr => ∃ j : Nat, j ≤ n ∧ i = .int .i64 (j : Int) ∧ q = .int .i64 (k + cntL cntI (xs.take j)) ∧ M B w0 wr (rowsC (.slice x n c) (mkL mkI cntI (xs.take j) k ++ xs.drop j) :: l)) (fun _ i _ => n - (intOf i).toNat)
  case atStart => exact ⟨0, Nat.zero_le _, rfl, by rw [List.take_zero, cntL_nil, Int.add_zero], H.out⟩
  case round =>
    clear H
    obtain ⟨j, hj, rfl, rfl, h⟩ := hrel
    obtain ⟨kk, hkk⟩ : ∃ kk, kk = k + cntL cntI (xs.take j) := ⟨_, rfl⟩
    have KK := Lib.hid hkk
    rw [← hkk]
    by_cases hlt : j < n
    · obtain ⟨a, ha⟩ : ∃ a, xs[j]? = some a := ⟨_, List.getElem?_eq_getElem (by rw [← HN.out]; exact hlt)⟩
      obtain ⟨e1, e2⟩ := mkL_step (f := mkI) (c := cntI) ha k
      rw [← hkk] at e1
      obtain ⟨g, cap, ci, e, _, h1⟩ := M.open intsR_frame h e2
      injection e with q1 q2 q3
      subst q1 q3
      obtain ⟨y, cy, rfl⟩ : ∃ y cy, ci = [.slice y a.length cy] := by
        obtain ⟨f, hf, _⟩ := h1.first
        obtain ⟨v, _, _, e, _⟩ := slcR_els hf
        subst e
        obtain ⟨y, c, q, _⟩ := slcR_value hf
        cases q
        exact ⟨_, _, rfl⟩
      have hjl : j < (mkL mkI cntI (xs.take j) k ++ xs.drop j).length := by rw [← q2]; exact hlt
      have cz := h1.p1.hcell1 hjl
      have k0 : 0 ≤ kk := by have := cntL_nn cntI_nn (xs.take j); have := HC.out.1; omega
      have k1 : kk + cntI a ≤ 1000000 := by
        have := cntL_take cntI_nn xs (j + 1)
        rw [cntL_at ha] at this
        have := HC.out.2
        omega
      have SP := Lib.hid (cntL_at (c := cntI) ha)
      have E1 := Lib.hid e1
      have HL := Lib.hid hjl
      have KC := Lib.hid (markI_M h1 k0 k1)
      have j0 : (0 : Int) ≤ (j : Int) := by omega
      have j1 : (j : Int) < (n : Int) := by omega
      obtain ⟨m, hm2⟩ : ∃ m, m = a.length := ⟨_, rfl⟩
      rw [← hm2] at KC cz
      clear h h1 e1 e2 q2 hjl hkk ha hm2
      go_wp2_with fail
      refine KC.out.mono ?_
      rintro r w1 ⟨rfl, h2⟩
      have F := Lib.hid (show M B w0 w1 (rowsC _ _ :: l) from E1.out ▸ h2.close HL.out)
      clear h2 KC cz
      go_wp2
      go_roundw
      case rel => exact ⟨j + 1, hlt, by go_num, (by rw [SP.out, ← Int.add_assoc, ← KK.out]; try rfl), F.out⟩
      case measure => simp [intOf]; omega
    · obtain rfl : j = n := by omega
      have F := Lib.hid h
      clear h
      go_wp2
      go_ret
      have e1 : xs.take j = xs := List.take_of_length_le (by rw [HN.out]; exact Nat.le_refl _)
      have e2 : xs.drop j = [] := List.drop_eq_nil_of_le (by rw [HN.out]; exact Nat.le_refl _)
      have F := F.out
      rw [e1, e2, List.append_nil] at F
      rw [KK.out, e1]
      exact ⟨rfl, F⟩
set_option maxRecDepth 100000 in
set_option maxHeartbeats 4000000 in
theorem markPa_M {xs : List (List (List Int))} (h : M B w0 w (pastC v xs :: l)) (hk : 0 ≤ k) (hc : k + cntL cntR xs ≤ 1000000) :
    Calls Try.prog 26 #[v, .int .i64 k] w fun r w' => r = .returned (.int .i64 (k + cntL cntR xs)) ∧ M B w0 w' (pastC v (mkL mkR cntR xs k) :: l) := by
  obtain ⟨x, n, c, rfl, hn, hm⟩ : ∃ x n c, v = .slice x n c ∧ n = xs.length ∧ n ≤ maxLen := by obtain ⟨f, hf, _⟩ := h.first; obtain ⟨_, _, e, q1, q2⟩ := slcR_value hf; exact ⟨_, _, _, e, rfl, Nat.le_trans q1 q2⟩
  unfold maxLen at hm
  have HC := Lib.hid (And.intro hk hc)
  have HN := Lib.hid hn
  have H := Lib.hid h
  clear h hk hc hn
  go_enter Try.func26, Try.ntmps26
  go_wp2
  go_loopw [1, 5] (fun q i wr => ∃ j : Nat, j ≤ n ∧ i = .int .i64 (j : Int) ∧ q = .int .i64 (k + cntL cntR (xs.take j)) ∧ M B w0 wr (pastC (.slice x n c) (mkL mkR cntR (xs.take j) k ++ xs.drop j) :: l)) (fun _ i _ => n - (intOf i).toNat)
  case atStart => exact ⟨0, Nat.zero_le _, rfl, by rw [List.take_zero, cntL_nil, Int.add_zero], H.out⟩
  case round =>
    clear H
    obtain ⟨j, hj, rfl, rfl, h⟩ := hrel
    obtain ⟨kk, hkk⟩ : ∃ kk, kk = k + cntL cntR (xs.take j) := ⟨_, rfl⟩
    have KK := Lib.hid hkk
    rw [← hkk]
    by_cases hlt : j < n
    · obtain ⟨a, ha⟩ : ∃ a, xs[j]? = some a := ⟨_, List.getElem?_eq_getElem (by rw [← HN.out]; exact hlt)⟩
      obtain ⟨e1, e2⟩ := mkL_step (f := mkR) (c := cntR) ha k
      rw [← hkk] at e1
      obtain ⟨g, cap, ci, e, _, h1⟩ := M.open rowsR_frame h e2
      injection e with q1 q2 q3
      subst q1 q3
      obtain ⟨y, cy, rfl⟩ : ∃ y cy, ci = [.slice y a.length cy] := by
        obtain ⟨f, hf, _⟩ := h1.first
        obtain ⟨v, _, _, e, _⟩ := slcR_els hf
        subst e
        obtain ⟨y, c, q, _⟩ := slcR_value hf
        cases q
        exact ⟨_, _, rfl⟩
      have hjl : j < (mkL mkR cntR (xs.take j) k ++ xs.drop j).length := by rw [← q2]; exact hlt
      have cz := h1.p1.hcell1 hjl
      have k0 : 0 ≤ kk := by have := cntL_nn cntR_nn (xs.take j); have := HC.out.1; omega
      have k1 : kk + cntR a ≤ 1000000 := by
        have := cntL_take cntR_nn xs (j + 1)
        rw [cntL_at ha] at this
        have := HC.out.2
        omega
      have SP := Lib.hid (cntL_at (c := cntR) ha)
      have E1 := Lib.hid e1
      have HL := Lib.hid hjl
      have KC := Lib.hid (markRs_M h1 k0 k1)
      have j0 : (0 : Int) ≤ (j : Int) := by omega
      have j1 : (j : Int) < (n : Int) := by omega
      obtain ⟨m, hm2⟩ : ∃ m, m = a.length := ⟨_, rfl⟩
      rw [← hm2] at KC cz
      clear h h1 e1 e2 q2 hjl hkk ha hm2
      go_wp2_with fail
      refine KC.out.mono ?_
      rintro r w1 ⟨rfl, h2⟩
      have F := Lib.hid (show M B w0 w1 (pastC _ _ :: l) from E1.out ▸ h2.close HL.out)
      clear h2 KC cz
      go_wp2
      go_roundw
      case rel => exact ⟨j + 1, hlt, by go_num, (by rw [SP.out, ← Int.add_assoc, ← KK.out]; try rfl), F.out⟩
      case measure => simp [intOf]; omega
    · obtain rfl : j = n := by omega
      have F := Lib.hid h
      clear h
      go_wp2
      go_ret
      have e1 : xs.take j = xs := List.take_of_length_le (by rw [HN.out]; exact Nat.le_refl _)
      have e2 : xs.drop j = [] := List.drop_eq_nil_of_le (by rw [HN.out]; exact Nat.le_refl _)
      have F := F.out
      rw [e1, e2, List.append_nil] at F
      rw [KK.out, e1]
      exact ⟨rfl, F⟩
end N
end Go.Proofs.Ytnpogmhfdjmfdaa

/-
  The laws' own marks in entries.
-/
namespace Go.Proofs.Ytnpogmhfdjmfdaa
open Go.RowKit Go.Sort
namespace N
variable {B : Nat} {w0 w : World} {l : List Ch} {v : Value} {k : Int}
/-- A sum's lists, each a claim. -/
theorem _root_.Go.Proofs.Ytnpogmhfdjmfdaa.M.sumParts {V : SV} {s : Sm} (h : M B w0 w (sumR_frame.ch [.slice V.xr V.nr V.cr, .slice V.xf V.nf V.cf, .slice V.xt V.nt V.ct, .int .i64 s.lo, .int .i64 s.al, .slice V.xk V.nk V.ck, .int .i64 s.ka] s :: l)) : M B w0 w (rowsC (.slice V.xr V.nr V.cr) s.rs :: intsC (.slice V.xf V.nf V.cf) s.zs :: pairsC (.slice V.xt V.nt V.ct) s.ps :: knotsC (.slice V.xk V.nk V.ck) s.ks :: l) := by
  have e : M B w0 w ((rowsC (.slice V.xr V.nr V.cr) s.rs).sep ((intsC (.slice V.xf V.nf V.cf) s.zs).sep ((pairsC (.slice V.xt V.nt V.ct) s.ps).sep (knotsC (.slice V.xk V.nk V.ck) s.ks))) :: l) := h.to fun f hf nd => by
    obtain ⟨U, f1, f2, f3, f4, e, rfl, h1, h2, h3, h4⟩ := hf
    obtain ⟨a1, a2, a3, a4⟩ : SV.r U = SV.r V ∧ SV.f U = SV.f V ∧ SV.t U = SV.t V ∧ SV.k U = SV.k V := by
      simp only [List.cons.injEq, Value.slice.injEq, and_true, true_and] at e
      obtain ⟨⟨a1, a2, a3⟩, ⟨b1, b2, b3⟩, ⟨c1, c2, c3⟩, d1, d2, d3⟩ := e
      simp only [SV.r, SV.f, SV.t, SV.k, a1, a2, a3, b1, b2, b3, c1, c2, c3, d1, d2, d3, and_self]
    rw [a1] at h1; rw [a2] at h2; rw [a3] at h3; rw [a4] at h4
    exact ⟨_, ⟨f1, _, rfl, h1, f2, _, rfl, h2, f3, f4, rfl, h3, h4⟩, nd, fun b hb => hb⟩
  exact (e.two.p1.two.p1.two.p1).perm (List.reverse_perm [_, _, _, _] |>.append_right l)
theorem _root_.Go.Proofs.Ytnpogmhfdjmfdaa.M.sumWhole {V : SV} {s : Sm} (h : M B w0 w (rowsC (.slice V.xr V.nr V.cr) s.rs :: intsC (.slice V.xf V.nf V.cf) s.zs :: pairsC (.slice V.xt V.nt V.ct) s.ps :: knotsC (.slice V.xk V.nk V.ck) s.ks :: l)) : M B w0 w (sumR_frame.ch [.slice V.xr V.nr V.cr, .slice V.xf V.nf V.cf, .slice V.xt V.nt V.ct, .int .i64 s.lo, .int .i64 s.al, .slice V.xk V.nk V.ck, .int .i64 s.ka] s :: l) :=
  (M.sep (M.p1 (M.sep (M.p1 (M.sep (M.p1 (h.perm (List.reverse_perm [_, _, _, _] |>.symm.append_right l)))))))).to fun f hf nd => by
    obtain ⟨f1, _, rfl, h1, f2, _, rfl, h2, f3, f4, rfl, h3, h4⟩ := hf
    exact ⟨_, ⟨V, f1, f2, f3, f4, rfl, rfl, h1, h2, h3, h4⟩, nd, fun b hb => hb⟩
set_option maxRecDepth 100000 in
set_option maxHeartbeats 8000000 in
theorem markK_M {xs : List En} (h : M B w0 w (knownC v xs :: l)) (hk : 0 ≤ k) (hc : k + cntK xs ≤ 1000000) :
    Calls Try.prog 38 #[v, .int .i64 k] w fun r w' => r = .returned (.int .i64 (k + cntK xs)) ∧ M B w0 w' (knownC v (mkK xs k) :: l) := by
  obtain ⟨x, n, c, rfl, hn, hm⟩ : ∃ x n c, v = .slice x n c ∧ n = xs.length ∧ n ≤ maxLen := by obtain ⟨f, hf, _⟩ := h.first; obtain ⟨_, _, e, q1, q2⟩ := slcR_value hf; exact ⟨_, _, _, e, rfl, Nat.le_trans q1 q2⟩
  unfold maxLen at hm
  unfold cntK mkK at *
  have HC := Lib.hid (And.intro hk hc)
  have HN := Lib.hid hn
  have H := Lib.hid h
  clear h hk hc hn
  go_enter Try.func38, Try.ntmps38
  go_wp2
  go_loopw [1, 5] (fun q i wr => ∃ j : Nat, j ≤ n ∧ i = .int .i64 (j : Int) ∧ q = .int .i64 (k + cntL cntE (xs.take j)) ∧ M B w0 wr (knownC (.slice x n c) (mkL mkE cntE (xs.take j) k ++ xs.drop j) :: l)) (fun _ i _ => n - (intOf i).toNat)
  case atStart => exact ⟨0, Nat.zero_le _, rfl, by rw [List.take_zero, cntL_nil, Int.add_zero], H.out⟩
  case round =>
    clear H
    obtain ⟨j, hj, rfl, rfl, h⟩ := hrel
    obtain ⟨kk, hkk⟩ : ∃ kk, kk = k + cntL cntE (xs.take j) := ⟨_, rfl⟩
    have KK := Lib.hid hkk
    rw [← hkk]
    by_cases hlt : j < n
    · obtain ⟨a, ha⟩ : ∃ a, xs[j]? = some a := ⟨_, List.getElem?_eq_getElem (by rw [← HN.out]; exact hlt)⟩
      obtain ⟨e1, e2⟩ := mkL_step (f := mkE) (c := cntE) ha k
      rw [← hkk] at e1
      obtain ⟨g, cap, ci, e, _, h1⟩ := M.open entryR_frame h e2
      injection e with q1 q2 q3
      subst q1 q3
      obtain ⟨V, rfl⟩ : ∃ V : SV, ci = [.int .i64 a.node, .int .i64 a.born, .int .i64 a.num, .slice V.xr V.nr V.cr, .slice V.xf V.nf V.cf, .slice V.xt V.nt V.ct, .int .i64 (a.s).lo, .int .i64 (a.s).al, .slice V.xk V.nk V.ck, .int .i64 (a.s).ka] := by
        obtain ⟨f, hf, _⟩ := h1.first
        obtain ⟨cs, rfl, hs⟩ := entryR_iff.1 hf
        obtain ⟨V, _, _, _, _, rfl, _⟩ := hs
        exact ⟨V, rfl⟩
      have h2 : M B w0 wr (sumR_frame.ch [.slice V.xr V.nr V.cr, .slice V.xf V.nf V.cf, .slice V.xt V.nt V.ct, .int .i64 (a.s).lo, .int .i64 (a.s).al, .slice V.xk V.nk V.ck, .int .i64 (a.s).ka] a.s :: holeC entryR_frame 76 10 j (.slice (some ⟨g, 0, none⟩) n c) (mkL mkE cntE (xs.take j) k ++ xs.drop j) [.int .i64 a.node, .int .i64 a.born, .int .i64 a.num, .slice V.xr V.nr V.cr, .slice V.xf V.nf V.cf, .slice V.xt V.nt V.ct, .int .i64 (a.s).lo, .int .i64 (a.s).al, .slice V.xk V.nk V.ck, .int .i64 (a.s).ka] :: l) := h1.to fun f hf nd => by
        obtain ⟨cs, e, hs⟩ := entryR_iff.1 hf
        simp only [List.cons.injEq, true_and] at e
        rw [← e] at hs
        exact ⟨f, hs, nd, fun b hb => hb⟩
      have hjl : j < (mkL mkE cntE (xs.take j) k ++ xs.drop j).length := by rw [← q2]; exact hlt
      have H3 := Lib.hid (h2.sumParts.p4)
      have k0 : 0 ≤ kk := by have := cntL_nn cntE_nn (xs.take j); have := HC.out.1; omega
      have k1 : kk + cntE a ≤ 1000000 := by
        have := cntL_take cntE_nn xs (j + 1)
        rw [cntL_at ha] at this
        have := HC.out.2
        omega
      have SP := Lib.hid (cntL_at (c := cntE) ha)
      have E1 := Lib.hid e1
      have HL := Lib.hid hjl
      have j0 : (0 : Int) ≤ (j : Int) := by omega
      have j1 : (j : Int) < (n : Int) := by omega
      have ec : cntE a = 3 + cntS a.s := rfl
      have es : cntS a.s = cntR a.s.rs + a.s.zs.length + 2 * a.s.ps.length + 2 + 2 * a.s.ks.length + 1 := rfl
      have nr := cntR_nn a.s.rs
      have CB := Lib.hid (show kk + 3 + cntR a.s.rs + a.s.zs.length + 2 * a.s.ps.length + 2 + 2 * a.s.ks.length + 1 ≤ 1000000 by omega)
      have b1 : kk ≤ 1000000 := by omega
      obtain ⟨a0, a1, a2, sm⟩ := a
      obtain ⟨rs, zs, ps, lo, al, ks, ka⟩ := sm
      simp only at H3 CB E1 SP
      have z0 := H3.out.hcell (j := 0) HL.out rfl
      have z1 := H3.out.hcell (j := 1) HL.out rfl
      have z2 := H3.out.hcell (j := 2) HL.out rfl
      have z3 := H3.out.hcell (j := 3) HL.out rfl
      have fz := H3.out.hfree
      simp only [Nat.add_zero] at z0
      clear h h1 h2 e1 e2 q2 hjl hkk ha k1 ec es nr
      go_wp2_with fail
      rw [show kk + 1 + 1 + 1 = kk + 3 by omega]
      have h4 := ((H3.out.hset (j := 0) HL.out (by decide) (.int .i64 kk)).hset (j := 1) HL.out (by decide) (.int .i64 (kk + 1))).hset (j := 2) HL.out (by decide) (.int .i64 (kk + 1 + 1))
      simp only [List.set_cons_zero, List.set_cons_succ, Nat.add_zero] at h4
      rw [show kk + 1 + 1 = kk + 2 by omega] at h4 ⊢
      have nr := cntR_nn rs
      refine (markRs_M h4.p1 (k := kk + 3) (by omega) (by have := CB.out; show kk + 3 + cntR rs ≤ 1000000; omega)).mono ?_
      rintro r w1 ⟨rfl, h5⟩
      rw [show kk + 3 + cntL cntI rs = kk + 3 + cntR rs from rfl]
      obtain ⟨k4, hk4⟩ : ∃ k4, k4 = kk + 3 + cntR rs := ⟨_, rfl⟩
      rw [← hk4]
      have K4 := Lib.hid hk4
      have H5 := Lib.hid h5
      clear h4 h5 z0 z1 z2 z3 fz H3 hk4 nr
      have z4 := H5.out.p1.hcell (j := 4) HL.out rfl
      go_wp2_with fail
      have nr := cntR_nn rs
      refine (markI_M H5.out.p2 (k := k4) (by have := K4.out; omega) (by have := K4.out; have := CB.out; show k4 + zs.length ≤ 1000000; omega)).mono ?_
      rintro r w2 ⟨rfl, h6⟩
      rw [show k4 + cntI zs = k4 + zs.length from rfl]
      obtain ⟨k5, hk5⟩ : ∃ k5, k5 = k4 + zs.length := ⟨_, rfl⟩
      rw [← hk5]
      have K5 := Lib.hid hk5
      have H6 := Lib.hid h6
      clear h6 z4 H5 hk5 nr
      have z5 := H6.out.p2.hcell (j := 5) HL.out rfl
      go_wp2_with fail
      have nr := cntR_nn rs
      refine (markP_M H6.out.p3 (k := k5) (by have := K4.out; have := K5.out; omega) (by have := K4.out; have := K5.out; have := CB.out; omega)).mono ?_
      rintro r w3 ⟨rfl, h7⟩
      obtain ⟨k6, hk6⟩ : ∃ k6, k6 = k5 + 2 * (ps.length : Int) := ⟨_, rfl⟩
      rw [← hk6]
      have K6 := Lib.hid hk6
      have H7 := Lib.hid h7
      have c0 : 0 ≤ k6 := by have := K4.out; have := K5.out; omega
      have c1 : k6 ≤ 1000000 := by have := K4.out; have := K5.out; have := CB.out; omega
      clear h7 z5 H6 hk6 nr
      have z6 := H7.out.p3.hcell (j := 6) HL.out rfl
      have z7 := H7.out.p3.hcell (j := 7) HL.out rfl
      have z8 := H7.out.p3.hcell (j := 8) HL.out rfl
      have fz := H7.out.p3.hfree
      go_wp2_with fail
      have h8 := (H7.out.p3.hset (j := 6) HL.out (by decide) (.int .i64 k6)).hset (j := 7) HL.out (by decide) (.int .i64 (k6 + 1))
      simp only [List.set_cons_zero, List.set_cons_succ] at h8
      rw [show k6 + 1 + 1 = k6 + 2 by omega]
      refine (markKn_M h8.p4 (k := k6 + 2) (by omega) (by have := cntR_nn rs; have := K4.out; have := K5.out; have := K6.out; have := CB.out; omega)).mono ?_
      rintro r w4 ⟨rfl, h9⟩
      obtain ⟨k7, hk7⟩ : ∃ k7, k7 = k6 + 2 + 2 * (ks.length : Int) := ⟨_, rfl⟩
      rw [← hk7]
      have d0 : 0 ≤ k7 := by omega
      have d1 : k7 ≤ 1000000 := by have := cntR_nn rs; have := K4.out; have := K5.out; have := K6.out; have := CB.out; omega
      have K7 := Lib.hid hk7
      have H9 := Lib.hid h9
      clear h8 h9 z6 z7 z8 fz H7 hk7
      have z9 := H9.out.p1.hcell (j := 9) HL.out rfl
      have fz := H9.out.p1.hfree
      have h10 := H9.out.p1.hset (j := 9) HL.out (by decide) (.int .i64 k7)
      simp only [List.set_cons_zero, List.set_cons_succ] at h10
      have h11 := (h10.perm (List.reverse_perm [_, _, _, _, _] |>.symm.append_right l))
      have h12 := (M.entry (i := kk) (born := kk + 1) (num := kk + 2) (M.sumWhole (V := V) (s := ⟨mkR rs (kk + 3), mkI zs k4, mkP2 ps k5, k6, k6 + 1, mkP2 ks (k6 + 2), k7⟩) h11)).close HL.out
      have e : mkE ⟨a0, a1, a2, ⟨rs, zs, ps, lo, al, ks, ka⟩⟩ kk = ⟨kk, kk + 1, kk + 2, ⟨mkR rs (kk + 3), mkI zs k4, mkP2 ps k5, k6, k6 + 1, mkP2 ks (k6 + 2), k7⟩⟩ := by rw [K7.out, K6.out, K5.out, K4.out]; rfl
      rw [← e, E1.out] at h12
      have F := Lib.hid h12
      have E7 := Lib.hid (show k7 + 1 = k + cntL cntE (xs.take (j + 1)) by
        rw [SP.out, ← Int.add_assoc, ← KK.out]
        show k7 + 1 = kk + (3 + (cntR rs + zs.length + 2 * ps.length + 2 + 2 * ks.length + 1))
        have := K4.out; have := K5.out; have := K6.out; have := K7.out
        omega)
      clear h10 h11 h12 e H9
      go_wp2
      go_roundw
      case rel => exact ⟨j + 1, hlt, by go_num, by rw [E7.out], F.out⟩
      case measure => simp [intOf]; omega
    · obtain rfl : j = n := by omega
      have F := Lib.hid h
      clear h
      go_wp2
      go_ret
      have e1 : xs.take j = xs := List.take_of_length_le (by rw [HN.out]; exact Nat.le_refl _)
      have e2 : xs.drop j = [] := List.drop_eq_nil_of_le (by rw [HN.out]; exact Nat.le_refl _)
      have F := F.out
      rw [e1, e2, List.append_nil] at F
      rw [KK.out, e1]
      exact ⟨rfl, F⟩
end N
end Go.Proofs.Ytnpogmhfdjmfdaa

/-
  The laws' own marks in nets.
-/
namespace Go.Proofs.Ytnpogmhfdjmfdaa
open Go.RowKit Go.Sort
namespace N
variable {B : Nat} {w0 w : World} {l : List Ch} {v : Value} {k : Int}
set_option maxRecDepth 100000 in
set_option maxHeartbeats 8000000 in
theorem markNs_M {xs : List Nd} (h : M B w0 w (nodesC v xs :: l)) (hk : 0 ≤ k) (hc : k + cntL cntN xs ≤ 1000000) :
    Calls Try.prog 23 #[v, .int .i64 k] w fun r w' => r = .returned (.int .i64 (k + cntL cntN xs)) ∧ M B w0 w' (nodesC v (mkL mkN cntN xs k) :: l) := by
  obtain ⟨x, n, c, rfl, hn, hm⟩ : ∃ x n c, v = .slice x n c ∧ n = xs.length ∧ n ≤ maxLen := by obtain ⟨f, hf, _⟩ := h.first; obtain ⟨_, _, e, q1, q2⟩ := slcR_value hf; exact ⟨_, _, _, e, rfl, Nat.le_trans q1 q2⟩
  unfold maxLen at hm
  have HC := Lib.hid (And.intro hk hc)
  have HN := Lib.hid hn
  have H := Lib.hid h
  clear h hk hc hn
  go_enter Try.func23, Try.ntmps23
  go_wp2
  go_loopw [1, 5] (fun q i wr => ∃ j : Nat, j ≤ n ∧ i = .int .i64 (j : Int) ∧ q = .int .i64 (k + cntL cntN (xs.take j)) ∧ M B w0 wr (nodesC (.slice x n c) (mkL mkN cntN (xs.take j) k ++ xs.drop j) :: l)) (fun _ i _ => n - (intOf i).toNat)
  case atStart => exact ⟨0, Nat.zero_le _, rfl, by rw [List.take_zero, cntL_nil, Int.add_zero], H.out⟩
  case round =>
    clear H
    obtain ⟨j, hj, rfl, rfl, h⟩ := hrel
    obtain ⟨kk, hkk⟩ : ∃ kk, kk = k + cntL cntN (xs.take j) := ⟨_, rfl⟩
    have KK := Lib.hid hkk
    rw [← hkk]
    by_cases hlt : j < n
    · obtain ⟨a, ha⟩ : ∃ a, xs[j]? = some a := ⟨_, List.getElem?_eq_getElem (by rw [← HN.out]; exact hlt)⟩
      obtain ⟨e1, e2⟩ := mkL_step (f := mkN) (c := cntN) ha k
      rw [← hkk] at e1
      obtain ⟨g, cap, ci, e, _, h1⟩ := M.open (nodeR_frame (T := TY)) h e2
      injection e with q1 q2 q3
      subst q1 q3
      obtain ⟨y, m, cy, rfl⟩ : ∃ y m cy, ci = [.int .i64 a.born, .slice y m cy, .int .i64 a.beacon, .int .i64 a.level, .int .i64 a.up] := by
        obtain ⟨f, hf, _⟩ := h1.first
        obtain ⟨u, rfl, hs⟩ := nodeR_iff.1 hf
        obtain ⟨y, c, rfl, _⟩ := slcR_value hs
        exact ⟨y, _, c, rfl⟩
      have h2 : M B w0 wr (knownC (.slice y m cy) a.known :: holeC (nodeR_frame (T := TY)) 41 5 j (.slice (some ⟨g, 0, none⟩) n c) (mkL mkN cntN (xs.take j) k ++ xs.drop j) [.int .i64 a.born, .slice y m cy, .int .i64 a.beacon, .int .i64 a.level, .int .i64 a.up] :: l) := h1.to fun f hf nd => by
        obtain ⟨u, e, hs⟩ := nodeR_iff.1 hf
        simp only [List.cons.injEq, true_and, and_true] at e
        rw [← e] at hs
        exact ⟨f, hs, nd, fun b hb => hb⟩
      have hjl : j < (mkL mkN cntN (xs.take j) k ++ xs.drop j).length := by rw [← q2]; exact hlt
      have H3 := Lib.hid h2.p1
      have k0 : 0 ≤ kk := by have := cntL_nn cntN_nn (xs.take j); have := HC.out.1; omega
      have k1 : kk + cntN a ≤ 1000000 := by
        have := cntL_take cntN_nn xs (j + 1)
        rw [cntL_at ha] at this
        have := HC.out.2
        omega
      have SP := Lib.hid (cntL_at (c := cntN) ha)
      have E1 := Lib.hid e1
      have HL := Lib.hid hjl
      have j0 : (0 : Int) ≤ (j : Int) := by omega
      have j1 : (j : Int) < (n : Int) := by omega
      have cn := cntK_nn a.known
      have CB := Lib.hid (show kk + (1 + cntK a.known + 3) ≤ 1000000 from k1)
      have b1 : kk ≤ 1000000 := by have := CB.out; omega
      clear h h1 h2 e1 e2 q2 hjl hkk ha k1
      have z0 := H3.out.hcell (j := 0) HL.out rfl
      have z1 := H3.out.hcell (j := 1) HL.out rfl
      have fz := H3.out.hfree
      simp only [Nat.add_zero] at z0
      go_wp2_with fail
      have h4 := H3.out.hset (j := 0) HL.out (by decide) (.int .i64 kk)
      simp only [List.set_cons_zero, List.set_cons_succ, Nat.add_zero] at h4
      refine (markK_M h4.p1 (k := kk + 1) (by omega) (by have := CB.out; omega)).mono ?_
      rintro r w1 ⟨rfl, h5⟩
      obtain ⟨k4, hk4⟩ : ∃ k4, k4 = kk + 1 + cntK a.known := ⟨_, rfl⟩
      rw [← hk4]
      have K4 := Lib.hid hk4
      have H5 := Lib.hid h5.p1
      have c0 : 0 ≤ k4 := by omega
      have c1 : k4 ≤ 1000000 := by have := CB.out; omega
      clear h4 h5 z0 z1 fz H3 hk4
      have z2 := H5.out.hcell (j := 2) HL.out rfl
      have z3 := H5.out.hcell (j := 3) HL.out rfl
      have z4 := H5.out.hcell (j := 4) HL.out rfl
      have fz := H5.out.hfree
      have h10 := ((H5.out.hset (j := 2) HL.out (by decide) (.int .i64 k4)).hset (j := 3) HL.out (by decide) (.int .i64 (k4 + 1))).hset (j := 4) HL.out (by decide) (.int .i64 (k4 + 1 + 1))
      simp only [List.set_cons_zero, List.set_cons_succ] at h10
      have h12 := M.close (M.node (born := kk) (beacon := k4) (level := k4 + 1) (up := k4 + 1 + 1) h10.p1) HL.out
      have e : mkN a kk = ⟨kk, mkK a.known (kk + 1), k4, k4 + 1, k4 + 1 + 1⟩ := by rw [K4.out]; unfold mkN; congr 1; omega
      rw [← e, E1.out] at h12
      have F := Lib.hid (show M B w0 _ (nodesC _ _ :: l) from h12)
      have E7 := Lib.hid (show k4 + 1 + 1 + 1 = k + cntL cntN (xs.take (j + 1)) by
        rw [SP.out, ← Int.add_assoc, ← KK.out]
        show k4 + 1 + 1 + 1 = kk + (1 + cntK a.known + 3)
        have := K4.out
        omega)
      clear h10 h12 e H5
      go_wp2
      go_roundw
      case rel => exact ⟨j + 1, hlt, by go_num, by rw [E7.out], F.out⟩
      case measure => simp [intOf]; omega
    · obtain rfl : j = n := by omega
      have F := Lib.hid h
      clear h
      go_wp2
      go_ret
      have e1 : xs.take j = xs := List.take_of_length_le (by rw [HN.out]; exact Nat.le_refl _)
      have e2 : xs.drop j = [] := List.drop_eq_nil_of_le (by rw [HN.out]; exact Nat.le_refl _)
      have F := F.out
      rw [e1, e2, List.append_nil] at F
      rw [KK.out, e1]
      exact ⟨rfl, F⟩
set_option maxRecDepth 100000 in
set_option maxHeartbeats 8000000 in
theorem markWs_M {xs : List Wd} (h : M B w0 w (wordsC v xs :: l)) (hk : 0 ≤ k) (hc : k + cntL cntW xs ≤ 1000000) :
    Calls Try.prog 25 #[v, .int .i64 k] w fun r w' => r = .returned (.int .i64 (k + cntL cntW xs)) ∧ M B w0 w' (wordsC v (mkL mkW cntW xs k) :: l) := by
  obtain ⟨x, n, c, rfl, hn, hm⟩ : ∃ x n c, v = .slice x n c ∧ n = xs.length ∧ n ≤ maxLen := by obtain ⟨f, hf, _⟩ := h.first; obtain ⟨_, _, e, q1, q2⟩ := slcR_value hf; exact ⟨_, _, _, e, rfl, Nat.le_trans q1 q2⟩
  unfold maxLen at hm
  have HC := Lib.hid (And.intro hk hc)
  have HN := Lib.hid hn
  have H := Lib.hid h
  clear h hk hc hn
  go_enter Try.func25, Try.ntmps25
  go_wp2
  go_loopw [1, 5] (fun q i wr => ∃ j : Nat, j ≤ n ∧ i = .int .i64 (j : Int) ∧ q = .int .i64 (k + cntL cntW (xs.take j)) ∧ M B w0 wr (wordsC (.slice x n c) (mkL mkW cntW (xs.take j) k ++ xs.drop j) :: l)) (fun _ i _ => n - (intOf i).toNat)
  case atStart => exact ⟨0, Nat.zero_le _, rfl, by rw [List.take_zero, cntL_nil, Int.add_zero], H.out⟩
  case round =>
    clear H
    obtain ⟨j, hj, rfl, rfl, h⟩ := hrel
    obtain ⟨kk, hkk⟩ : ∃ kk, kk = k + cntL cntW (xs.take j) := ⟨_, rfl⟩
    have KK := Lib.hid hkk
    rw [← hkk]
    by_cases hlt : j < n
    · obtain ⟨a, ha⟩ : ∃ a, xs[j]? = some a := ⟨_, List.getElem?_eq_getElem (by rw [← HN.out]; exact hlt)⟩
      obtain ⟨e1, e2⟩ := mkL_step (f := mkW) (c := cntW) ha k
      rw [← hkk] at e1
      obtain ⟨g, cap, ci, e, _, h1⟩ := M.open (wordR_frame (T := TY)) h e2
      injection e with q1 q2 q3
      subst q1 q3
      obtain ⟨y, m, cy, rfl⟩ : ∃ y m cy, ci = [.int .i64 a.kind, .int .i64 a.src, .int .i64 a.dst, .int .i64 a.beacon, .int .i64 a.level, .slice y m cy] := by
        obtain ⟨f, hf, _⟩ := h1.first
        obtain ⟨u, rfl, hs⟩ := wordR_iff.1 hf
        obtain ⟨y, c, rfl, _⟩ := slcR_value hs
        exact ⟨y, _, c, rfl⟩
      have h2 : M B w0 wr (knownC (.slice y m cy) a.known :: holeC (wordR_frame (T := TY)) 84 6 j (.slice (some ⟨g, 0, none⟩) n c) (mkL mkW cntW (xs.take j) k ++ xs.drop j) [.int .i64 a.kind, .int .i64 a.src, .int .i64 a.dst, .int .i64 a.beacon, .int .i64 a.level, .slice y m cy] :: l) := h1.to fun f hf nd => by
        obtain ⟨u, e, hs⟩ := wordR_iff.1 hf
        simp only [List.cons.injEq, true_and, and_true] at e
        rw [← e] at hs
        exact ⟨f, hs, nd, fun b hb => hb⟩
      have hjl : j < (mkL mkW cntW (xs.take j) k ++ xs.drop j).length := by rw [← q2]; exact hlt
      have H3 := Lib.hid h2.p1
      have k0 : 0 ≤ kk := by have := cntL_nn cntW_nn (xs.take j); have := HC.out.1; omega
      have k1 : kk + cntW a ≤ 1000000 := by
        have := cntL_take cntW_nn xs (j + 1)
        rw [cntL_at ha] at this
        have := HC.out.2
        omega
      have SP := Lib.hid (cntL_at (c := cntW) ha)
      have E1 := Lib.hid e1
      have HL := Lib.hid hjl
      have j0 : (0 : Int) ≤ (j : Int) := by omega
      have j1 : (j : Int) < (n : Int) := by omega
      have cn := cntK_nn a.known
      have CB := Lib.hid (show kk + (5 + cntK a.known) ≤ 1000000 from k1)
      have b1 : kk ≤ 1000000 := by have := CB.out; omega
      clear h h1 h2 e1 e2 q2 hjl hkk ha k1
      have z0 := H3.out.hcell (j := 0) HL.out rfl
      have z1 := H3.out.hcell (j := 1) HL.out rfl
      have z2 := H3.out.hcell (j := 2) HL.out rfl
      have z3 := H3.out.hcell (j := 3) HL.out rfl
      have z4 := H3.out.hcell (j := 4) HL.out rfl
      have z5 := H3.out.hcell (j := 5) HL.out rfl
      have fz := H3.out.hfree
      simp only [Nat.add_zero] at z0
      go_wp2_with fail
      have h4 := ((((H3.out.hset (j := 0) HL.out (by decide) (.int .i64 kk)).hset (j := 1) HL.out (by decide) (.int .i64 (kk + 1))).hset (j := 2) HL.out (by decide) (.int .i64 (kk + 1 + 1))).hset (j := 3) HL.out (by decide) (.int .i64 (kk + 1 + 1 + 1))).hset (j := 4) HL.out (by decide) (.int .i64 (kk + 1 + 1 + 1 + 1))
      simp only [List.set_cons_zero, List.set_cons_succ, Nat.add_zero] at h4
      refine (markK_M h4.p1 (k := kk + 1 + 1 + 1 + 1 + 1) (by omega) (by have := CB.out; omega)).mono ?_
      rintro r w1 ⟨rfl, h5⟩
      have e5 : kk + 1 + 1 + 1 + 1 + 1 = kk + 5 := by omega
      have h12 := M.close (M.word (kind := kk) (src := kk + 1) (dst := kk + 1 + 1) (beacon := kk + 1 + 1 + 1) (level := kk + 1 + 1 + 1 + 1) h5) HL.out
      have e : mkW a kk = ⟨kk, kk + 1, kk + 1 + 1, kk + 1 + 1 + 1, kk + 1 + 1 + 1 + 1, mkK a.known (kk + 1 + 1 + 1 + 1 + 1)⟩ := by rw [e5]; unfold mkW; congr 1 <;> omega
      rw [← e, E1.out] at h12
      have F := Lib.hid (show M B w0 _ (wordsC _ _ :: l) from h12)
      have E7 := Lib.hid (show kk + 1 + 1 + 1 + 1 + 1 + cntK a.known = k + cntL cntW (xs.take (j + 1)) by
        rw [SP.out, ← Int.add_assoc, ← KK.out]
        show kk + 1 + 1 + 1 + 1 + 1 + cntK a.known = kk + (5 + cntK a.known)
        omega)
      clear h4 h5 h12 e e5 H3 z0 z1 z2 z3 z4 z5 fz
      go_wp2
      go_roundw
      case rel => exact ⟨j + 1, hlt, by go_num, by rw [E7.out], F.out⟩
      case measure => simp [intOf]; omega
    · obtain rfl : j = n := by omega
      have F := Lib.hid h
      clear h
      go_wp2
      go_ret
      have e1 : xs.take j = xs := List.take_of_length_le (by rw [HN.out]; exact Nat.le_refl _)
      have e2 : xs.drop j = [] := List.drop_eq_nil_of_le (by rw [HN.out]; exact Nat.le_refl _)
      have F := F.out
      rw [e1, e2, List.append_nil] at F
      rw [KK.out, e1]
      exact ⟨rfl, F⟩
theorem mkB_step {xs : List Bool} {j : Nat} (h : j < xs.length) (k : Int) : (mkB (xs.take j) k ++ xs.drop j).set j (decide ((k + (j : Int)).tmod 3 = 0)) = mkB (xs.take (j + 1)) k ++ xs.drop (j + 1) := by
  have ln : (mkB (xs.take j) k).length = j := by unfold mkB; simp; omega
  rw [List.drop_eq_getElem_cons h, List.set_append_right _ _ (by omega), ln, Nat.sub_self, List.set_cons_zero]
  unfold mkB
  rw [List.length_take, List.length_take, show min (j + 1) xs.length = min j xs.length + 1 by omega, List.range_succ, List.map_append, List.append_assoc, show min j xs.length = j by omega]
  rfl
theorem mkB_len (xs : List Bool) (k : Int) : (mkB xs k).length = xs.length := by unfold mkB; simp
set_option maxRecDepth 100000 in
set_option maxHeartbeats 4000000 in
theorem markBs_M {xs : List Bool} (h : M B w0 w (linksC v xs :: l)) (hk : 0 ≤ k) (hc : k + (xs.length : Int) ≤ 1000000) :
    Calls Try.prog 24 #[v, .int .i64 k] w fun r w' => r = .returned (.int .i64 (k + (xs.length : Int))) ∧ M B w0 w' (linksC v (mkB xs k) :: l) := by
  obtain ⟨x, n, c, rfl, hn, hm⟩ : ∃ x n c, v = .slice x n c ∧ n = xs.length ∧ n ≤ maxLen := by obtain ⟨f, hf, _⟩ := h.first; obtain ⟨_, _, e, q1, q2⟩ := slcR_value hf; exact ⟨_, _, _, e, rfl, Nat.le_trans q1 q2⟩
  unfold maxLen at hm
  rw [← hn] at hc ⊢
  have HC := Lib.hid (And.intro hk hc)
  have HN := Lib.hid hn
  have H := Lib.hid h
  clear h hk hc hn
  go_enter Try.func24, Try.ntmps24
  go_wp2
  go_loopw [1, 5] (fun q i wr => ∃ j : Nat, j ≤ n ∧ i = .int .i64 (j : Int) ∧ q = .int .i64 (k + (j : Int)) ∧ M B w0 wr (linksC (.slice x n c) (mkB (xs.take j) k ++ xs.drop j) :: l)) (fun _ i _ => n - (intOf i).toNat)
  case atStart => exact ⟨0, Nat.zero_le _, rfl, by simp, H.out⟩
  case round =>
    clear H
    obtain ⟨j, hj, rfl, rfl, h⟩ := hrel
    by_cases hlt : j < n
    · obtain ⟨kk, hkk⟩ : ∃ kk, kk = k + (j : Int) := ⟨_, rfl⟩
      have KK := Lib.hid hkk
      rw [← hkk]
      have hjx : j < xs.length := by rw [← HN.out]; exact hlt
      have hjl : j < (mkB (xs.take j) k ++ xs.drop j).length := by rw [List.length_append, mkB_len, List.length_take, List.length_drop]; omega
      obtain ⟨g, rfl⟩ : ∃ g, x = some ⟨g, 0, none⟩ := by
        obtain ⟨f, hf, _⟩ := h.first
        obtain ⟨g, hx, _⟩ := link_at (T := TY) hf (List.getElem?_eq_getElem hjl)
        exact ⟨g, hx⟩
      obtain ⟨⟨z, cz⟩, fz, h1⟩ := M.setEl h hjl (decide (kk.tmod 3 = 0)) (u := .bool (decide (kk.tmod 3 = 0))) rfl
      have e := mkB_step hjx k
      rw [← hkk] at e
      rw [e] at h1
      have F := Lib.hid (show M B w0 _ (linksC _ _ :: l) from h1)
      have j0 : (0 : Int) ≤ (j : Int) := by omega
      have j1 : (j : Int) < (n : Int) := by omega
      have k0 : 0 ≤ kk := by have := HC.out.1; omega
      have k1 : kk ≤ 1000000 := by have := HC.out.2; omega
      have q3 : kk.tmod 3 = kk % 3 := Int.tmod_eq_emod_of_nonneg k0
      rw [q3] at F
      clear h h1 e hjx hjl hkk q3
      go_wp2
      go_roundw
      case rel => exact ⟨j + 1, hlt, by go_num, by rw [KK.out]; go_num, F.out⟩
      case measure => simp [intOf]; omega
    · obtain rfl : j = n := by omega
      have F := Lib.hid h
      clear h
      go_wp2
      go_ret
      have e1 : xs.take j = xs := List.take_of_length_le (by rw [HN.out]; exact Nat.le_refl _)
      have e2 : xs.drop j = [] := List.drop_eq_nil_of_le (by rw [HN.out]; exact Nat.le_refl _)
      have F := F.out
      rw [e1, e2, List.append_nil] at F
      exact ⟨rfl, F⟩
end N
end Go.Proofs.Ytnpogmhfdjmfdaa

/-
  The laws' own marks in a whole net; whether they are held.
-/
namespace Go.Proofs.Ytnpogmhfdjmfdaa
open Go.RowKit Go.Sort
namespace N
variable {B : Nat} {w0 w : World} {l : List Ch} {v : Value} {k : Int}
def netC (v1 v2 v3 v4 : Value) (a : Nt) : Ch := (netR_frame (T := TY)).ch [v1, v2, v3, v4] a
theorem _root_.Go.Proofs.Ytnpogmhfdjmfdaa.M.netParts {v1 v2 v3 v4 : Value} {a : Nt} (h : M B w0 w (netC v1 v2 v3 v4 a :: l)) : M B w0 w (nodesC v1 a.nodes :: linksC v2 a.links :: wordsC v3 a.words :: pastC v4 a.past :: l) := by
  have e : M B w0 w ((nodesC v1 a.nodes).sep ((linksC v2 a.links).sep ((wordsC v3 a.words).sep (pastC v4 a.past))) :: l) := h.to fun f hf nd => by
    obtain ⟨_, _, _, _, f1, f2, f3, f4, e, rfl, h1, h2, h3, h4⟩ := netR_iff.1 hf
    cases e
    exact ⟨_, ⟨f1, _, rfl, h1, f2, _, rfl, h2, f3, f4, rfl, h3, h4⟩, nd, fun b hb => hb⟩
  exact (e.two.p1.two.p1.two.p1).perm (List.reverse_perm [_, _, _, _] |>.append_right l)
theorem _root_.Go.Proofs.Ytnpogmhfdjmfdaa.M.netWhole {v1 v2 v3 v4 : Value} {a : Nt} (h : M B w0 w (nodesC v1 a.nodes :: linksC v2 a.links :: wordsC v3 a.words :: pastC v4 a.past :: l)) : M B w0 w (netC v1 v2 v3 v4 a :: l) :=
  (M.sep (M.p1 (M.sep (M.p1 (M.sep (M.p1 (h.perm (List.reverse_perm [_, _, _, _] |>.symm.append_right l)))))))).to fun f hf nd => by
    obtain ⟨f1, _, rfl, h1, f2, _, rfl, h2, f3, f4, rfl, h3, h4⟩ := hf
    exact ⟨_, netR_iff.2 ⟨_, _, _, _, f1, f2, f3, f4, rfl, rfl, h1, h2, h3, h4⟩, nd, fun b hb => hb⟩
theorem cntNt_iff (a : Nt) : cntNt a = cntL cntN a.nodes + a.links.length + cntL cntW a.words + cntL cntR a.past := rfl
theorem parts_nn (a : Nt) : 0 ≤ cntL cntN a.nodes ∧ 0 ≤ cntL cntW a.words ∧ 0 ≤ cntL cntR a.past := ⟨cntL_nn cntN_nn _, cntL_nn cntW_nn _, cntL_nn cntR_nn _⟩
set_option maxRecDepth 100000 in
set_option maxHeartbeats 4000000 in
theorem markNet_M {a : Nt} {xa xb xc xd : Option Addr} {na nb nc nd ca cb cc cd : Nat} (h : M B w0 w (netC (.slice xa na ca) (.slice xb nb cb) (.slice xc nc cc) (.slice xd nd cd) a :: l)) (hk : 0 ≤ k) (hc : k + cntNt a ≤ 1000000) :
    Calls Try.prog 10 #[.agg #[.slice xa na ca, .slice xb nb cb, .slice xc nc cc, .slice xd nd cd], .int .i64 k] w fun r w' => r = .returned (.int .i64 (k + cntNt a)) ∧ M B w0 w' (netC (.slice xa na ca) (.slice xb nb cb) (.slice xc nc cc) (.slice xd nd cd) (mkNt a k) :: l) := by
  obtain ⟨p1, p2, p3⟩ := parts_nn a
  have ei := cntNt_iff a
  have B1 := Lib.hid (show 0 ≤ k ∧ k + cntL cntN a.nodes ≤ 1000000 by omega)
  have B2 := Lib.hid (show 0 ≤ k + cntL cntN a.nodes ∧ k + cntL cntN a.nodes + (a.links.length : Int) ≤ 1000000 by omega)
  have B3 := Lib.hid (show 0 ≤ k + cntL cntN a.nodes + (a.links.length : Int) ∧ k + cntL cntN a.nodes + (a.links.length : Int) + cntL cntW a.words ≤ 1000000 by omega)
  have B4 := Lib.hid (show 0 ≤ k + cntL cntN a.nodes + (a.links.length : Int) + cntL cntW a.words ∧ k + cntL cntN a.nodes + (a.links.length : Int) + cntL cntW a.words + cntL cntR a.past ≤ 1000000 by omega)
  have EI := Lib.hid (show k + cntL cntN a.nodes + (a.links.length : Int) + cntL cntW a.words + cntL cntR a.past = k + cntNt a by omega)
  have H := Lib.hid (h.netParts.alloc #[.slice xa na ca, .slice xb nb cb, .slice xc nc cc, .slice xd nd cd] 28)
  obtain ⟨c0, c1, c2, c3⟩ := H.out.cells4
  clear h hk hc p1 p2 p3 ei
  go_enter Try.func10, Try.ntmps10
  go_wp2_with fail
  refine (markNs_M H.out.p1 B1.out.1 B1.out.2).mono ?_
  rintro r w1 ⟨rfl, h1⟩
  have H1 := Lib.hid h1
  clear h1 c0 c1 c2 c3 H
  obtain ⟨k1, hk1⟩ : ∃ k1, k1 = k + cntL cntN a.nodes := ⟨_, rfl⟩
  rw [← hk1]
  have K1 := Lib.hid hk1
  rw [← hk1] at B2
  clear hk1
  obtain ⟨c0, c1, c2, c3⟩ := H1.out.p1.cells4
  go_wp2_with fail
  refine (markBs_M H1.out.p2 B2.out.1 B2.out.2).mono ?_
  rintro r w2 ⟨rfl, h2⟩
  have H2 := Lib.hid h2
  clear h2 c0 c1 c2 c3 H1
  obtain ⟨k2, hk2⟩ : ∃ k2, k2 = k1 + (a.links.length : Int) := ⟨_, rfl⟩
  rw [← hk2]
  have K2 := Lib.hid hk2
  rw [← K1.out, ← hk2] at B3
  clear hk2
  obtain ⟨c0, c1, c2, c3⟩ := H2.out.p2.cells4
  go_wp2_with fail
  refine (markWs_M H2.out.p3 B3.out.1 B3.out.2).mono ?_
  rintro r w3 ⟨rfl, h3⟩
  have H3 := Lib.hid h3
  clear h3 c0 c1 c2 c3 H2
  obtain ⟨k3, hk3⟩ : ∃ k3, k3 = k2 + cntL cntW a.words := ⟨_, rfl⟩
  rw [← hk3]
  have K3 := Lib.hid hk3
  rw [← K1.out, ← K2.out, ← hk3] at B4
  clear hk3
  obtain ⟨c0, c1, c2, c3⟩ := H3.out.p3.cells4
  go_wp2_with fail
  refine (markPa_M H3.out.p4 B4.out.1 B4.out.2).mono ?_
  rintro r w4 ⟨rfl, h4⟩
  have F := Lib.hid (h4.perm (List.reverse_perm [_, _, _, _, _] |>.symm.append_right l))
  clear h4 c0 c1 c2 c3 H3
  go_wp2
  go_ret
  have e : mkNt a k = ⟨mkL mkN cntN a.nodes k, mkB a.links k1, mkL mkW cntW a.words k2, mkPast a.past k3⟩ := by rw [K3.out, K2.out, K1.out]; rfl
  refine ⟨by rw [← EI.out, K3.out, K2.out, K1.out]; rfl, ?_⟩
  rw [e]
  exact M.netWhole (a := ⟨mkL mkN cntN a.nodes k, mkB a.links k1, mkL mkW cntW a.words k2, mkPast a.past k3⟩) F.out.drop
end N
end Go.Proofs.Ytnpogmhfdjmfdaa
