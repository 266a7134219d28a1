/-
  Deeds read word by word: what that comes to.
-/
import Derived.Test.YtbnggcgojbkoaaaDoorNText
import Derived.Lib.AtoiAll
set_option linter.unusedVariables false
set_option linter.unusedSectionVars false
set_option linter.unusedSimpArgs false
namespace Go.Proofs.YtbnggcgojbkoaaaDoor.N
open Go.RowKit Go.Sort

/-- The words, with the byte between them. -/
def joinB (c : UInt8) : List Bs → Bs
  | [] => []
  | [x] => x
  | x :: y :: l => x ++ c :: joinB c (y :: l)
theorem join_split (c : UInt8) : ∀ s : Bs, joinB c (splitB c s) = s
  | [] => rfl
  | x :: xs => by
    have ih := join_split c xs
    unfold splitB
    by_cases h : x = c
    · rw [if_pos h]
      cases hq : splitB c xs with
      | nil => exact absurd hq (split_ne c xs)
      | cons y ys =>
        rw [hq] at ih
        show [] ++ c :: joinB c (y :: ys) = _
        rw [ih, h]; rfl
    · rw [if_neg h]
      cases hq : splitB c xs with
      | nil => exact absurd hq (split_ne c xs)
      | cons y ys =>
        rw [hq] at ih
        show joinB c ((x :: y) :: ys) = _
        cases ys with
        | nil => show x :: y = x :: xs; rw [show y = xs from ih]
        | cons z zs =>
          rw [← ih]; rfl
/-- The number that is written so; none, if it is none from 0 to 99. -/
def numR (s : Bs) : Option Nat := (List.range 100).find? fun n => decide (decB n = s)
theorem numR_some {s : Bs} {n : Nat} (h : numR s = some n) : n ≤ 99 ∧ decB n = s := by
  have h1 := List.mem_of_find?_eq_some h
  have h2 := List.find?_some h
  simp at h1 h2
  exact ⟨by omega, h2⟩
theorem dec_inj : ∀ n m : Fin 100, decB n.val = decB m.val → n = m := by decide +kernel
theorem numR_dec {n : Nat} (h : n ≤ 99) : numR (decB n) = some n := by
  cases hq : numR (decB n) with
  | none =>
    unfold numR at hq
    rw [List.find?_eq_none] at hq
    have := hq n (List.mem_range.2 (by omega))
    simp at this
  | some m =>
    obtain ⟨m1, m2⟩ := numR_some hq
    have := dec_inj ⟨m, by omega⟩ ⟨n, by omega⟩ m2
    simp only [Fin.mk.injEq] at this
    rw [this]
theorem dec_atoi : ∀ n : Fin 100, Lib.atoiAll (decB n.val) = .ok (n.val : Int) := by decide +kernel
/-- What reading a deed word by word gives. -/
def readW (ws : List Bs) : Option De :=
  let k := kindB (ws.getD 0 [])
  if k < 1 then none
  else if ws.length ≠ 1 + sizeK k then none
  else if sizeK k = 0 then some ⟨k, 0, 0⟩
  else match numR (ws.getD 1 []) with
    | none => none
    | some a => if sizeK k = 1 then some ⟨k, a, 0⟩ else match numR (ws.getD 2 []) with
      | none => none
      | some b => some ⟨k, a, b⟩
def mustR (s : Bs) : Option De := if 30 < s.length then none else readW (splitB 32 s)
theorem kind_range (s : Bs) : 0 ≤ kindB s ∧ kindB s ≤ 10 := by
  unfold kindB
  suffices h : ∀ (l : List Nat) (k : Int), (∀ i ∈ l, i < 10) → 0 ≤ k ∧ k ≤ 10 → 0 ≤ l.foldl (fun k i => if nameB (i + 1) = s then ((i + 1 : Nat) : Int) else k) k ∧ l.foldl (fun k i => if nameB (i + 1) = s then ((i + 1 : Nat) : Int) else k) k ≤ 10 from
    h _ 0 (fun i hi => List.mem_range.1 hi) ⟨by omega, by omega⟩
  intro l
  induction l with
  | nil => intro k _ h; exact h
  | cons i l ih =>
    intro k hl h
    rw [List.foldl_cons]
    refine ih _ (fun j hj => hl j (List.mem_cons_of_mem _ hj)) ?_
    have := hl i (List.mem_cons_self ..)
    split <;> omega
theorem kind_is {s : Bs} (h : 1 ≤ kindB s) : nameB (kindB s).toNat = s := by
  unfold kindB at h ⊢
  suffices H : ∀ (l : List Nat) (k : Int), (1 ≤ k → nameB k.toNat = s) → 1 ≤ l.foldl (fun k i => if nameB (i + 1) = s then ((i + 1 : Nat) : Int) else k) k → nameB (l.foldl (fun k i => if nameB (i + 1) = s then ((i + 1 : Nat) : Int) else k) k).toNat = s from H _ 0 (fun q => by omega) h
  intro l
  induction l with
  | nil => intro k hk h; exact hk h
  | cons i l ih =>
    intro k hk h
    rw [List.foldl_cons] at h ⊢
    refine ih _ (fun q => ?_) h
    split at q
    · rename_i e; rw [if_pos e]; simpa using e
    · rename_i e; rw [if_neg e]; exact hk q
theorem kind_no {s : Bs} (h : ∀ j, 1 ≤ j → j ≤ 10 → nameB j ≠ s) : kindB s = 0 := by
  have r := kind_range s
  by_cases q : 1 ≤ kindB s
  · exact absurd (kind_is q) (h _ (by omega) (by omega))
  · omega
theorem kind_first {s : Bs} {j : Nat} (h1 : 1 ≤ j) (h2 : j ≤ 10) (h : nameB j = s) : kindB s = j := by
  have := kind_name ⟨j, by omega⟩ h1
  rw [← h]; exact this
theorem text_val {k a b : Int} (hk : 1 ≤ k ∧ k ≤ 10) (ha : 0 ≤ a ∧ a ≤ 99) (hb : 0 ≤ b ∧ b ≤ 99) (h2 : 2 ≤ sizeK k ∨ b = 0) (h1 : 1 ≤ sizeK k ∨ a = 0) : textD ⟨k, a, b⟩ = nameB k.toNat ++ ((if 1 ≤ sizeK k then 32 :: decB a.toNat else []) ++ (if 2 ≤ sizeK k then 32 :: decB b.toNat else [])) := by
  unfold textD
  rw [if_pos]
  unfold textOk
  simp [hk, ha, hb, h1, h2]
/-- The words of a deed's text are read so. -/
theorem read_words {d : De} (h : textOk d = true) : readW (splitB 32 (textD d)) = some d := by
  obtain ⟨hk, ha, hb, s2, s1⟩ := text_parts h
  obtain ⟨_, ma, _, _⟩ := num_dec' ha
  obtain ⟨_, mb, _, _⟩ := num_dec' hb
  have N := name_all ⟨d.kind.toNat, by omega⟩
  simp only at N
  have K := kind_name ⟨d.kind.toNat, by omega⟩ (by show 1 ≤ d.kind.toNat; omega)
  simp only at K
  have K' : kindB (nameB d.kind.toNat) = d.kind := by rw [K]; omega
  have na := numR_dec (n := d.a.toNat) (by omega)
  have nb := numR_dec (n := d.b.toNat) (by omega)
  have k1 : ¬ d.kind < 1 := by omega
  unfold textD
  rw [if_pos h]
  rcases (by have := size_le d.kind; omega : sizeK d.kind = 0 ∨ sizeK d.kind = 1 ∨ sizeK d.kind = 2) with q | q | q
  · rw [q, if_neg (by decide), if_neg (by decide), List.append_nil, List.append_nil, split_none N.1]
    unfold readW
    simp only [List.getD_cons_zero, K', if_neg k1, q, List.length_singleton]
    rw [q] at s1 s2
    have e1 : d.a = 0 := by omega
    have e2 : d.b = 0 := by omega
    cases d
    simp only at e1 e2
    simp [e1, e2]
  · rw [q, if_pos (by decide), if_neg (by decide), List.append_nil, split_app _ N.1, split_none ma]
    unfold readW
    simp only [List.getD_cons_zero, List.getD_cons_succ, K', if_neg k1, q, na]
    rw [q] at s2
    have e2 : d.b = 0 := by omega
    have e1 : ((d.a.toNat : Nat) : Int) = d.a := by omega
    cases d
    simp only at e1 e2
    simp [e1, e2]
  · rw [q, if_pos (by decide), if_pos (by decide), List.cons_append, split_app _ N.1, split_app _ ma, split_none mb]
    unfold readW
    simp only [List.getD_cons_zero, List.getD_cons_succ, K', if_neg k1, q, na, nb]
    have e1 : ((d.a.toNat : Nat) : Int) = d.a := by omega
    have e2 : ((d.b.toNat : Nat) : Int) = d.b := by omega
    cases d
    simp only at e1 e2
    simp [e1, e2]
/-- Read word by word, or all at once: the same. -/
theorem must_read (s : Bs) : mustR s = readD s := by
  have J := join_split 32 s
  unfold mustR
  by_cases h30 : 30 < s.length
  · rw [if_pos h30]
    unfold readD
    rw [if_pos (.inr (.inl h30))]
  rw [if_neg h30]
  -- what is read is a deed with that text
  have one : ∀ d, readW (splitB 32 s) = some d → textD d = s := fun d hd => by
    obtain ⟨w, ws, hw⟩ : ∃ w ws, splitB 32 s = w :: ws := by
      cases q : splitB 32 s with
      | nil => exact absurd q (split_ne _ _)
      | cons w ws => exact ⟨w, ws, rfl⟩
    rw [hw] at hd J
    unfold readW at hd
    simp only [List.getD_cons_zero] at hd
    split at hd
    · cases hd
    rename_i k1
    split at hd
    · cases hd
    rename_i hl
    have kk := kind_range w
    have kn := kind_is (s := w) (by omega)
    obtain ⟨k, hk⟩ : ∃ k, k = kindB w := ⟨_, rfl⟩
    rw [← hk] at hd hl k1 kk kn
    have hl' : (w :: ws).length = 1 + sizeK k := Decidable.not_not.1 hl
    split at hd
    · rename_i z
      cases hd
      have : ws = [] := List.eq_nil_of_length_eq_zero (by simp at hl'; omega)
      subst this
      rw [text_val ⟨by omega, by omega⟩ (by omega) (by omega) (.inr rfl) (.inr rfl), if_neg (by omega), if_neg (by omega)]
      simp only [List.append_nil]
      rw [kn]; exact J
    · rename_i z
      split at hd
      · cases hd
      rename_i a ha
      obtain ⟨a1, a2⟩ := numR_some ha
      split at hd
      · rename_i o
        cases hd
        obtain ⟨x, rfl⟩ : ∃ x, ws = [x] := by
          match ws, hl' with
          | [x], _ => exact ⟨x, rfl⟩
          | [], h => simp at h; omega
          | _ :: _ :: _, h => simp at h; omega
        rw [text_val ⟨by omega, by omega⟩ (by omega) (by omega) (.inr rfl) (.inl (by omega)), if_pos (by omega), if_neg (by omega)]
        simp only [List.append_nil]
        have e : decB (a : Int).toNat = x := a2
        rw [e, kn]; exact J
      · rename_i o
        split at hd
        · cases hd
        rename_i b hb
        obtain ⟨b1, b2⟩ := numR_some hb
        cases hd
        have s2 := size_le k
        obtain ⟨x, y, rfl⟩ : ∃ x y, ws = [x, y] := by
          match ws, hl' with
          | [x, y], _ => exact ⟨x, y, rfl⟩
          | [], h => simp at h; omega
          | [_], h => simp at h; omega
          | _ :: _ :: _ :: _, h => simp at h; omega
        rw [text_val ⟨by omega, by omega⟩ (by omega) (by omega) (.inl (by omega)) (.inl (by omega)), if_pos (by omega), if_pos (by omega)]
        have e1 : decB (a : Int).toNat = x := a2
        have e2 : decB (b : Int).toNat = y := b2
        rw [e1, e2, kn]
        rw [← J]; simp [joinB]
  cases hq : readW (splitB 32 s) with
  | some d =>
    have ht := one d hq
    have hn : textD d ≠ [] := by
      rw [ht]
      rintro rfl
      rw [show splitB 32 [] = [[]] from rfl] at hq
      have : kindB [] = 0 := by decide +kernel
      unfold readW at hq
      simp only [List.getD_cons_zero, this] at hq
      simp at hq
    rw [← ht]; exact (read_text hn).symm
  | none =>
    cases hr : readD s with
    | none => rfl
    | some d =>
      obtain ⟨t1, t2, _⟩ := read_strict hr
      have ok : textOk d = true := by
        cases q : textOk d with
        | true => rfl
        | false => exact absurd (t1 ▸ text_none.2 q) t2
      rw [← t1, read_words ok] at hq
      cases hq
end Go.Proofs.YtbnggcgojbkoaaaDoor.N
