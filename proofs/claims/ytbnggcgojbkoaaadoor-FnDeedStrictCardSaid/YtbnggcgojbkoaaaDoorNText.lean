/-
  A deed's text, and what is read of it (stage 7).
-/
import Derived.Test.YtbnggcgojbkoaaaDoorNo
set_option linter.unusedVariables false
set_option linter.unusedSectionVars false
set_option linter.unusedSimpArgs false
namespace Go.Proofs.YtbnggcgojbkoaaaDoor.N
open Go.RowKit Go.Sort

abbrev Bs := List UInt8
instance : DecidableEq De := fun a b => by
  cases a; cases b
  rw [De.mk.injEq]
  infer_instance
/-- A number in decimals. -/
def decB (n : Nat) : Bs := if n < 10 then [UInt8.ofNat (48 + n)] else decB (n / 10) ++ [UInt8.ofNat (48 + n % 10)]
termination_by n
decreasing_by omega
def nameB : Nat → Bs
  | 1 => [99, 111, 117, 110, 116]
  | 2 => [104, 101, 108, 108, 111]
  | 3 => [116, 101, 108, 108]
  | 4 => [116, 97, 107, 101]
  | 5 => [116, 119, 105, 99, 101]
  | 6 => [108, 111, 115, 101]
  | 7 => [99, 114, 97, 115, 104]
  | 8 => [98, 101, 97, 99, 111, 110]
  | 9 => [99, 117, 116]
  | 10 => [109, 101, 110, 100]
  | _ => []
/-- How many numbers belong to a deed. -/
def sizeK (k : Int) : Nat := if k = 1 ∨ k = 9 ∨ k = 10 then 2 else if k = 8 then 0 else 1
def textOk (d : De) : Bool := decide (1 ≤ d.kind ∧ d.kind ≤ 10) && (decide (0 ≤ d.a ∧ d.a ≤ 99) && (decide (0 ≤ d.b ∧ d.b ≤ 99) && (decide (2 ≤ sizeK d.kind ∨ d.b = 0) && decide (1 ≤ sizeK d.kind ∨ d.a = 0))))
def textD (d : De) : Bs :=
  if textOk d = true then nameB d.kind.toNat ++ ((if 1 ≤ sizeK d.kind then 32 :: decB d.a.toNat else []) ++ (if 2 ≤ sizeK d.kind then 32 :: decB d.b.toNat else [])) else []
/-- A text cut at each byte of a kind. -/
def splitB (c : UInt8) : Bs → List Bs
  | [] => [[]]
  | x :: xs => if x = c then [] :: splitB c xs else match splitB c xs with
    | [] => [[x]]
    | y :: ys => (x :: y) :: ys
theorem split_none {c : UInt8} : ∀ {s : Bs}, c ∉ s → splitB c s = [s]
  | [], _ => rfl
  | x :: xs, h => by
    have h1 : x ≠ c := fun e => h (by rw [e]; exact List.mem_cons_self ..)
    unfold splitB
    rw [if_neg h1, split_none fun m => h (List.mem_cons_of_mem _ m)]
theorem split_app {c : UInt8} : ∀ {s : Bs} (t : Bs), c ∉ s → splitB c (s ++ c :: t) = s :: splitB c t
  | [], t, _ => by
    show splitB c (c :: t) = _
    rw [splitB, if_pos rfl]
  | x :: xs, t, h => by
    have h1 : x ≠ c := fun e => h (by rw [e]; exact List.mem_cons_self ..)
    show splitB c (x :: (xs ++ c :: t)) = _
    rw [splitB, if_neg h1, split_app t fun m => h (List.mem_cons_of_mem _ m)]
theorem split_ne (c : UInt8) (s : Bs) : splitB c s ≠ [] := by
  cases s with
  | nil => simp [splitB]
  | cons x xs =>
    unfold splitB
    split
    · simp
    · split <;> simp
/-- The number that digits tell, as it is read. -/
def numF (n : Int) (x : UInt8) : Int := if 48 ≤ x.toNat ∧ x.toNat ≤ 57 then n * 10 + ((x.toNat : Int) - 48) else n
def numB (s : Bs) : Int := s.foldl (fun n x => if n < 1000 then numF n x else n) 0
theorem num_dec : ∀ n : Fin 100, numB (decB n.val) = n.val ∧ (32 : UInt8) ∉ decB n.val ∧ (10 : UInt8) ∉ decB n.val ∧ (decB n.val).length ≤ 2 := by decide +kernel
theorem num_dec' {a : Int} (h : 0 ≤ a ∧ a ≤ 99) : numB (decB a.toNat) = a ∧ (32 : UInt8) ∉ decB a.toNat ∧ (10 : UInt8) ∉ decB a.toNat ∧ (decB a.toNat).length ≤ 2 := by
  have r := num_dec ⟨a.toNat, by omega⟩
  simp only at r
  exact ⟨by rw [r.1]; omega, r.2⟩
theorem name_all : ∀ k : Fin 11, (32 : UInt8) ∉ nameB k.val ∧ (10 : UInt8) ∉ nameB k.val ∧ (nameB k.val).length ≤ 6 ∧ (1 ≤ k.val → nameB k.val ≠ []) ∧ ∀ j : Fin 11, 1 ≤ j.val → nameB j.val = nameB k.val → j = k := by decide +kernel
/-- The kind whose word it is; 0, if there is none. -/
def kindB (s : Bs) : Int := (List.range 10).foldl (fun k i => if nameB (i + 1) = s then ((i + 1 : Nat) : Int) else k) 0
theorem kind_name : ∀ k : Fin 11, 1 ≤ k.val → kindB (nameB k.val) = k.val := by decide +kernel
def rawD (s : Bs) : De := ⟨kindB ((splitB 32 s).getD 0 []), if 1 < (splitB 32 s).length then numB ((splitB 32 s).getD 1 []) else 0, if 2 < (splitB 32 s).length then numB ((splitB 32 s).getD 2 []) else 0⟩
def readD (s : Bs) : Option De := if s = [] ∨ 30 < s.length ∨ textD (rawD s) ≠ s then none else some (rawD s)
theorem text_parts {d : De} (h : textOk d = true) : (1 ≤ d.kind ∧ d.kind ≤ 10) ∧ (0 ≤ d.a ∧ d.a ≤ 99) ∧ (0 ≤ d.b ∧ d.b ≤ 99) ∧ (2 ≤ sizeK d.kind ∨ d.b = 0) ∧ (1 ≤ sizeK d.kind ∨ d.a = 0) := by
  unfold textOk at h
  simpa only [Bool.and_eq_true, decide_eq_true_eq] using h
theorem size_le (k : Int) : sizeK k ≤ 2 := by unfold sizeK; split <;> (try split) <;> omega
/-- The text of a deed is read as the deed. -/
theorem raw_text {d : De} (h : textOk d = true) : rawD (textD d) = d := by
  obtain ⟨hk, ha, hb, s2, s1⟩ := text_parts h
  obtain ⟨na, ma, _, _⟩ := num_dec' ha
  obtain ⟨nb, mb, _, _⟩ := num_dec' hb
  have N := name_all ⟨d.kind.toNat, by omega⟩
  simp only at N
  have K := kind_name ⟨d.kind.toNat, by omega⟩ (by show 1 ≤ d.kind.toNat; omega)
  simp only at K
  have K' : kindB (nameB d.kind.toNat) = d.kind := by rw [K]; omega
  unfold textD
  rw [if_pos h]
  rcases (by have := size_le d.kind; omega : sizeK d.kind = 0 ∨ sizeK d.kind = 1 ∨ sizeK d.kind = 2) with q | q | q
  · rw [q, if_neg (by decide), if_neg (by decide), List.append_nil, List.append_nil]
    unfold rawD
    rw [split_none N.1]
    rw [q] at s1 s2
    show (⟨kindB (nameB d.kind.toNat), 0, 0⟩ : De) = d
    have e1 : d.a = 0 := by omega
    have e2 : d.b = 0 := by omega
    rw [K']
    cases d
    simp only at e1 e2
    rw [e1, e2]
  · rw [q, if_pos (by decide), if_neg (by decide), List.append_nil]
    unfold rawD
    rw [split_app _ N.1, split_none ma]
    rw [q] at s2
    show (⟨kindB (nameB d.kind.toNat), numB (decB d.a.toNat), 0⟩ : De) = d
    have e2 : d.b = 0 := by omega
    rw [K', na]
    cases d
    simp only at e2
    rw [e2]
  · rw [q, if_pos (by decide), if_pos (by decide), List.cons_append]
    unfold rawD
    rw [split_app _ N.1, split_app _ ma, split_none mb]
    show (⟨kindB (nameB d.kind.toNat), numB (decB d.a.toNat), numB (decB d.b.toNat)⟩ : De) = d
    rw [K', na, nb]
theorem text_len {d : De} : (textD d).length ≤ 12 := by
  unfold textD
  split
  · rename_i h
    obtain ⟨hk, ha, hb, _, _⟩ := text_parts h
    have N := (name_all ⟨d.kind.toNat, by omega⟩).2.2.1
    have A := (num_dec' ha).2.2.2
    have B := (num_dec' hb).2.2.2
    simp only at N
    rw [List.length_append, List.length_append]
    split <;> split <;> simp only [List.length_cons, List.length_nil] <;> omega
  · simp
theorem text_some {d : De} (h : textOk d = true) : textD d ≠ [] := by
  obtain ⟨hk, _⟩ := text_parts h
  have N := (name_all ⟨d.kind.toNat, by omega⟩).2.2.2.1 (by show 1 ≤ d.kind.toNat; omega)
  unfold textD
  rw [if_pos h]
  intro c
  exact N (List.append_eq_nil_iff.1 c).1
theorem text_none {d : De} : textD d = [] ↔ textOk d = false := by
  constructor
  · intro e
    rw [Bool.eq_false_iff]
    exact fun h => text_some h e
  · intro h
    unfold textD
    rw [if_neg (by rw [h]; decide)]
/-- Read back. -/
theorem read_text {d : De} (h : textD d ≠ []) : readD (textD d) = some d := by
  have ok : textOk d = true := by
    cases q : textOk d with
    | true => rfl
    | false => exact absurd (text_none.2 q) h
  have r := raw_text ok
  have l := text_len (d := d)
  unfold readD
  rw [r, if_neg]
  rintro (c | c | c)
  · exact h c
  · omega
  · exact c rfl
/-- A deed has just one text. -/
theorem read_strict {s : Bs} {d : De} (h : readD s = some d) : textD d = s ∧ s ≠ [] ∧ s.length ≤ 30 := by
  unfold readD at h
  split at h
  · cases h
  · rename_i q
    obtain rfl := Option.some.inj h
    refine ⟨Classical.byContradiction fun c => q (.inr (.inr c)), fun c => q (.inl c), ?_⟩
    exact Classical.byContradiction fun c => q (.inr (.inl (by omega)))
theorem text_one {d e : De} (hd : textD d ≠ []) (he : textD e ≠ []) : textD d = textD e ↔ d = e := by
  constructor
  · intro h
    have a := read_text hd
    rw [h, read_text he] at a
    exact (Option.some.inj a).symm
  · intro h
    rw [h]
theorem text_bytes {d : De} : (10 : UInt8) ∉ textD d := by
  unfold textD
  split
  · rename_i h
    obtain ⟨hk, ha, hb, _, _⟩ := text_parts h
    have N := (name_all ⟨d.kind.toNat, by omega⟩).2.1
    have A := (num_dec' ha).2.2.1
    have B := (num_dec' hb).2.2.1
    simp only at N
    intro c
    rcases List.mem_append.1 c with c | c
    · exact N c
    · rcases List.mem_append.1 c with c | c
      · split at c
        · rcases List.mem_cons.1 c with c | c
          · cases c
          · exact A c
        · cases c
      · split at c
        · rcases List.mem_cons.1 c with c | c
          · cases c
          · exact B c
        · cases c
  · exact List.not_mem_nil
end Go.Proofs.YtbnggcgojbkoaaaDoor.N
