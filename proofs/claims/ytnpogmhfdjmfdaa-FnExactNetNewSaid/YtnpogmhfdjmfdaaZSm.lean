/-
  Sums of all four as plain values: when one is ok, one thing more, both joined, a list of things.
-/
import Derived.Test.YtnpogmhfdjmfdaaRc
import Derived.Test.YtnpogmhfdjmfdaaRe
import Derived.Test.YtnpogmhfdjmfdaaFd
import Derived.Test.YtnpogmhfdjmfdaaTd
import Derived.Test.YtnpogmhfdjmfdaaKe
set_option linter.unusedVariables false
namespace Go.Proofs.Ytnpogmhfdjmfdaa
open Go.RowKit Go.Sort

structure Sm where
  rs : List (List Int)
  zs : List Int
  ps : List T.Pr
  lo : Int
  al : Int
  ks : List K.Pr
  ka : Int

def noSm : Sm := ⟨[], [], [], 0, 0, [], 0⟩
def newSm : Sm := ⟨zero3, [], [], 0, 0, [], 0⟩
def okS (s : Sm) : Bool := okB s.rs && (fewB s.zs && (T.topB s.ps s.lo s.al && (K.rankB s.ks s.ka && (decide (allV s.rs = s.al) && (decide (s.al = s.ka) && decide (0 < s.zs.length ↔ 0 < s.al))))))
structure Ok (s : Sm) : Prop where
  r : okB s.rs = true
  f : fewB s.zs = true
  t : T.topB s.ps s.lo s.al = true
  k : K.rankB s.ks s.ka = true
  ra : allV s.rs = s.al
  ta : s.al = s.ka
  fa : 0 < s.zs.length ↔ 0 < s.al
theorem okS_iff (s : Sm) : okS s = true ↔ Ok s := by
  unfold okS
  simp only [Bool.and_eq_true, decide_eq_true_eq]
  exact ⟨fun ⟨a, b, c, d, e, f, g⟩ => ⟨a, b, c, d, e, f, g⟩, fun ⟨a, b, c, d, e, f, g⟩ => ⟨a, b, c, d, e, f, g⟩⟩
theorem okS_no : okS noSm = false := rfl
theorem okS_new : okS newSm = true := by decide +kernel
theorem Ok.al0 {s : Sm} (h : Ok s) : 0 ≤ s.al ∧ s.al ≤ 2000 := by
  have := ((T.topB_iff _ _ _).1 h.t).1
  exact this.2.2

def addOkS (s : Sm) (t : Int) : Bool := okS s && (decide (0 ≤ t ∧ t ≤ 63) && decide (s.al < 2000))
def addS0 (s : Sm) (t : Int) : Sm := ⟨addV s.rs t 1, addF s.zs t, (T.addT s.ps s.lo s.al t).1, (T.addT s.ps s.lo s.al t).2.1, (T.addT s.ps s.lo s.al t).2.2, (K.addK s.ks s.ka t).1, (K.addK s.ks s.ka t).2⟩
def addS (s : Sm) (t : Int) : Sm := if addOkS s t = true then addS0 s t else noSm
theorem addS_no {s : Sm} {t : Int} (h : addOkS s t = false) : addS s t = noSm := if_neg (by rw [h]; simp)
theorem addS_yes {s : Sm} {t : Int} (h : addOkS s t = true) : addS s t = addS0 s t := if_pos h
theorem addOkS_iff (s : Sm) (t : Int) : addOkS s t = true ↔ Ok s ∧ (0 ≤ t ∧ t ≤ 63) ∧ s.al < 2000 := by
  unfold addOkS
  simp only [Bool.and_eq_true, decide_eq_true_eq, okS_iff]

/-- All four can count it. -/
structure AddAll (s : Sm) (u : Int) : Prop where
  ok : Ok s
  thing : 0 ≤ u ∧ u ≤ 63
  room : s.al < 2000
  r : addB s.rs u 1 = true
  f : addOkF s.zs u = true
  t : T.addOk s.ps s.lo s.al u = true
  k : K.addOkK s.ks s.ka u = true
theorem addAll {s : Sm} {t : Int} (h : addOkS s t = true) : AddAll s t := by
  obtain ⟨ok, ht, hr⟩ := (addOkS_iff s t).1 h
  have ra := ok.ra
  have ta := ok.ta
  refine ⟨ok, ht, hr, (addB_iff _ _ _).2 ⟨ok.r, ht.1, by omega, by omega, by omega⟩, ?_, ?_, ?_⟩
  · unfold addOkF inThings
    rw [ok.f, decide_eq_true (by omega)]; rfl
  · unfold T.addOk T.isT
    rw [ok.t, decide_eq_true (by omega), decide_eq_true (by omega)]; rfl
  · unfold K.addOkK
    rw [ok.k, decide_eq_true (by omega), decide_eq_true (by omega)]; rfl
theorem addS_ok {s : Sm} {t : Int} (h : addOkS s t = true) : Ok (addS s t) ∧ (addS s t).al = s.al + 1 := by
  have A := addAll h
  have R := okB_add A.r
  have F := add_again A.f
  have M := T.addMore A.t
  have S := K.addK_say A.k
  have f0 : 0 < (addF s.zs t).length := by
    apply Classical.byContradiction
    intro q
    have e : addF s.zs t = [] := List.eq_nil_of_length_eq_zero (by omega)
    rw [addF_yes A.f, put_join (few_asc A.ok.f)] at e
    have : markV t ∈ unionL s.zs [markV t] := (union_mem _ _ _).2 (.inr (by simp))
    unfold joinV6 at e
    have e' : unionL s.zs [markV t] = [] := by
      cases hq : unionL s.zs [markV t] with
      | nil => rfl
      | cons x l => rw [hq] at e; simp at e
    rw [e'] at this
    simp at this
  rw [addS_yes h]
  have a0 := A.ok.al0
  refine ⟨⟨R.1, F.1, M.top, (K.rankB_iff _ _).2 S.2.2.2.1, ?_, ?_, ?_⟩, M.na'⟩
  · show allV (addV s.rs t 1) = (T.addT s.ps s.lo s.al t).2.2
    rw [R.2, M.na', A.ok.ra]
  · show (T.addT s.ps s.lo s.al t).2.2 = (K.addK s.ks s.ka t).2
    rw [M.na', S.2.2.1, A.ok.ta]
  · show 0 < (addF s.zs t).length ↔ 0 < (T.addT s.ps s.lo s.al t).2.2
    rw [M.na']
    exact ⟨fun _ => by omega, fun _ => f0⟩

def joinOkS (a b : Sm) : Bool := okS a && (okS b && decide (a.al + b.al ≤ 2000))
def joinS0 (a b : Sm) : Sm := ⟨joinV a.rs b.rs, joinF a.zs b.zs, (T.joinT a.ps a.lo a.al b.ps b.lo b.al).1, (T.joinT a.ps a.lo a.al b.ps b.lo b.al).2.1, (T.joinT a.ps a.lo a.al b.ps b.lo b.al).2.2, (K.joinK a.ks a.ka b.ks b.ka).1, (K.joinK a.ks a.ka b.ks b.ka).2⟩
def joinS (a b : Sm) : Sm := if joinOkS a b = true then joinS0 a b else noSm
theorem joinS_no {a b : Sm} (h : joinOkS a b = false) : joinS a b = noSm := if_neg (by rw [h]; simp)
theorem joinS_yes {a b : Sm} (h : joinOkS a b = true) : joinS a b = joinS0 a b := if_pos h
theorem joinOkS_iff (a b : Sm) : joinOkS a b = true ↔ Ok a ∧ Ok b ∧ a.al + b.al ≤ 2000 := by
  unfold joinOkS
  simp only [Bool.and_eq_true, decide_eq_true_eq, okS_iff]
structure JoinAll (a b : Sm) : Prop where
  oka : Ok a
  okb : Ok b
  room : a.al + b.al ≤ 2000
  r : joinB a.rs b.rs = true
  f : joinOkF a.zs b.zs = true
  t : T.joinOk a.ps a.lo a.al b.ps b.lo b.al = true
  k : K.joinOkK a.ks a.ka b.ks b.ka = true
theorem joinAll {a b : Sm} (h : joinOkS a b = true) : JoinAll a b := by
  obtain ⟨oa, ob, hr⟩ := (joinOkS_iff a b).1 h
  have := oa.ra
  have := oa.ta
  have := ob.ra
  have := ob.ta
  refine ⟨oa, ob, hr, (joinB_iff _ _).2 ⟨oa.r, ob.r, by omega⟩, ?_, ?_, ?_⟩
  · unfold joinOkF
    rw [oa.f, ob.f]; rfl
  · unfold T.joinOk
    rw [oa.t, ob.t, decide_eq_true (by omega)]; rfl
  · unfold K.joinOkK
    rw [oa.k, ob.k, decide_eq_true (by omega)]; rfl
theorem union_nil {zs ys : List Int} : (0 < (joinV6 zs ys).length) ↔ (0 < zs.length ∨ 0 < ys.length) := by
  have key : joinV6 zs ys = [] ↔ zs = [] ∧ ys = [] := by
    unfold joinV6
    constructor
    · intro e
      have e' : unionL zs ys = [] := by
        cases hq : unionL zs ys with
        | nil => rfl
        | cons x l => rw [hq] at e; simp at e
      have none : ∀ z, z ∉ unionL zs ys := by rw [e']; simp
      constructor
      · cases zs with
        | nil => rfl
        | cons z l => exact absurd ((union_mem ys (z :: l) z).2 (.inl (by simp))) (none z)
      · cases ys with
        | nil => rfl
        | cons z l => exact absurd ((union_mem (z :: l) zs z).2 (.inr (by simp))) (none z)
    · rintro ⟨rfl, rfl⟩; rfl
  rw [List.length_pos_iff, List.length_pos_iff, List.length_pos_iff]
  constructor
  · intro h
    apply Classical.byContradiction
    intro q
    exact h (key.2 ⟨Classical.byContradiction fun e => q (.inl e), Classical.byContradiction fun e => q (.inr e)⟩)
  · intro h e
    obtain ⟨e1, e2⟩ := key.1 e
    rcases h with h | h
    · exact h e1
    · exact h e2
theorem joinS_ok {a b : Sm} (h : joinOkS a b = true) : Ok (joinS a b) ∧ (joinS a b).al = a.al + b.al := by
  have A := joinAll h
  have R := okB_join A.r
  have M := T.joinMore A.t
  have S := K.joinK_say A.k
  have a0 := A.oka.al0
  have b0 := A.okb.al0
  rw [joinS_yes h]
  refine ⟨⟨R.1, joinF_few _ _, M.top, (K.rankB_iff _ _).2 S.2.2.2.2.2.1, ?_, ?_, ?_⟩, M.na'⟩
  · show allV (joinV a.rs b.rs) = (T.joinT a.ps a.lo a.al b.ps b.lo b.al).2.2
    rw [R.2, M.na', A.oka.ra, A.okb.ra]
  · show (T.joinT a.ps a.lo a.al b.ps b.lo b.al).2.2 = (K.joinK a.ks a.ka b.ks b.ka).2
    rw [M.na', S.2.2.2.2.1, A.oka.ta, A.okb.ta]
  · show 0 < (joinF a.zs b.zs).length ↔ 0 < (T.joinT a.ps a.lo a.al b.ps b.lo b.al).2.2
    rw [M.na', joinF_yes A.f, union_nil, A.oka.fa, A.okb.fa]
    omega
theorem joinOkS_comm (a b : Sm) : joinOkS b a = joinOkS a b := by
  unfold joinOkS
  rw [Int.add_comm]
  cases okS a <;> cases okS b <;> rfl
theorem joinS_comm (a b : Sm) : joinS b a = joinS a b := by
  by_cases h : joinOkS a b = true
  · have A := joinAll h
    rw [joinS_yes h, joinS_yes (by rw [joinOkS_comm]; exact h)]
    unfold joinS0
    rw [joinV_comm b.rs a.rs, (join_laws A.f).2.1.2, T.joinT_comm, (K.joinK_say A.k).2.2.2.1]
  · rw [Bool.not_eq_true] at h
    rw [joinS_no h, joinS_no (by rw [joinOkS_comm]; exact h)]

/-- One thing alone; of what is no thing nothing. -/
def oneS (t : Int) : Sm := addS newSm t
theorem new_ok : Ok newSm := (okS_iff _).1 okS_new
theorem one_addOk (t : Int) : addOkS newSm t = decide (0 ≤ t ∧ t ≤ 63) := by
  unfold addOkS
  rw [okS_new]
  show (true && (_ && decide ((0 : Int) < 2000))) = _
  simp
theorem one_rank : ∀ t : Fin 64, K.addK [] 0 (t.val : Int) = ([(64 + (t.val : Int), 1)], 1) := by decide +kernel
theorem one_top : ∀ t : Fin 64, T.addT [] 0 0 (t.val : Int) = ([((t.val : Int), 1)], 0, 1) := by decide +kernel
theorem one_few : ∀ t : Fin 64, addF [] (t.val : Int) = [markV (t.val : Int)] := by decide +kernel
theorem one_rows : ∀ t : Fin 64, addV zero3 (t.val : Int) 1 = oneV (t.val : Int) 1 := by decide +kernel
theorem one_is {t : Int} (h0 : 0 ≤ t) (h1 : t ≤ 63) : oneS t = ⟨oneV t 1, [markV t], [(t, 1)], 0, 1, [(64 + t, 1)], 1⟩ := by
  obtain ⟨n, rfl⟩ := Int.eq_ofNat_of_zero_le h0
  have hn : n < 64 := by omega
  have a := one_rank ⟨n, hn⟩
  have b := one_top ⟨n, hn⟩
  have c := one_few ⟨n, hn⟩
  have d := one_rows ⟨n, hn⟩
  simp only at a b c d
  unfold oneS
  rw [addS_yes (by rw [one_addOk]; simp; omega)]
  unfold addS0 newSm
  simp only [a, b, c, d]
theorem one_no {t : Int} (h : ¬ (0 ≤ t ∧ t ≤ 63)) : oneS t = noSm := addS_no (by rw [one_addOk]; exact decide_eq_false h)
theorem join_oneOk (s : Sm) (t : Int) : joinOkS s (oneS t) = addOkS s t := by
  by_cases h : 0 ≤ t ∧ t ≤ 63
  · have o := (addS_ok (s := newSm) (t := t) (by rw [one_addOk]; exact decide_eq_true h))
    have e : (oneS t).al = 1 := o.2
    unfold joinOkS addOkS
    rw [(okS_iff (oneS t)).2 o.1, e, decide_eq_true h, show decide (s.al + 1 ≤ 2000) = decide (s.al < 2000) from decide_eq_decide.2 ⟨fun q => by omega, fun q => by omega⟩]
  · rw [one_no h]
    unfold joinOkS addOkS
    rw [okS_no, decide_eq_false h]
    cases okS s <;> rfl
theorem joinS_one (s : Sm) (t : Int) : joinS s (oneS t) = addS s t := by
  by_cases h : addOkS s t = true
  · have A := addAll h
    rw [addS_yes h, joinS_yes (by rw [join_oneOk]; exact h), one_is A.thing.1 A.thing.2]
    unfold joinS0 addS0
    simp only
    rw [T.joinT_one, joinF_add, ← addV_join A.r, (K.add_join s.ks s.ka t A.thing).2]
  · rw [Bool.not_eq_true] at h
    rw [addS_no h, joinS_no (by rw [join_oneOk]; exact h)]

/-- Things, one behind the other; once one cannot be counted nothing. -/
def upS (l : List Int) : Sm := l.foldl addS newSm
theorem upS_snoc (l : List Int) (t : Int) : upS (l ++ [t]) = addS (upS l) t := by simp [upS]
theorem add_noSm (t : Int) : addS noSm t = noSm := addS_no rfl
theorem up_noSm (l : List Int) : l.foldl addS noSm = noSm := by
  induction l with
  | nil => rfl
  | cons t l ih => simp only [List.foldl_cons, add_noSm, ih]
theorem up_stop {l : List Int} {k : Nat} (hk : k < l.length) (h : addOkS (upS (l.take k)) (l.getD k 0) = false) : upS l = noSm := by
  have e : l = l.take k ++ (l.getD k 0 :: l.drop (k + 1)) := by
    conv => lhs; rw [← List.take_append_drop k l]
    rw [List.drop_eq_getElem_cons hk]
    simp [hk]
  rw [e]
  unfold upS
  rw [List.foldl_append]
  show List.foldl addS (addS (upS (l.take k)) (l.getD k 0)) _ = _
  rw [addS_no h, up_noSm]
theorem up_take {l : List Int} {k : Nat} (hk : k < l.length) : upS (l.take (k + 1)) = addS (upS (l.take k)) (l.getD k 0) := by
  rw [List.take_succ_eq_append_getElem hk, upS_snoc]
  simp [hk]
/-- What holds of nothing, and of one more, holds of a list. -/
theorem up_ind {P : List Int → Sm → Prop} (h0 : P [] newSm) (h1 : ∀ l s t, P l s → AddAll s t → P (l ++ [t]) (addS0 s t)) : ∀ l : List Int, okS (upS l) = true → P l (upS l) := by
  have key : ∀ n (l : List Int), l.length = n → okS (upS l) = true → P l (upS l) := by
    intro n
    induction n with
    | zero => intro l hl _; obtain rfl := List.eq_nil_of_length_eq_zero hl; exact h0
    | succ n ih =>
      intro l hl ok
      have e : l = l.take n ++ [l.getD n 0] := by
        conv => lhs; rw [← List.take_of_length_le (Nat.le_of_eq hl)]
        rw [List.take_succ_eq_append_getElem (by omega)]
        simp [show n < l.length by omega]
      rw [e] at ok ⊢
      rw [upS_snoc] at ok ⊢
      by_cases ha : addOkS (upS (l.take n)) (l.getD n 0) = true
      · have A := addAll ha
        rw [addS_yes ha]
        exact h1 _ _ _ (ih (l.take n) (by simp; omega) ((okS_iff _).2 A.ok)) A
      · rw [Bool.not_eq_true] at ha
        rw [addS_no ha] at ok
        exact absurd ok (by rw [okS_no]; simp)
  exact fun l => key l.length l rfl
theorem okS_up {l : List Int} (h : okS (upS l) = true) : (upS l).al = l.length ∧ ∀ t ∈ l, 0 ≤ t ∧ t ≤ 63 := by
  refine up_ind (P := fun l s => s.al = l.length ∧ ∀ t ∈ l, 0 ≤ t ∧ t ≤ 63) ⟨rfl, by simp⟩ (fun l s t hp A => ⟨?_, fun u hu => ?_⟩) l h
  · have := (addS_ok (s := s) (t := t) ((addOkS_iff _ _).2 ⟨A.ok, A.thing, A.room⟩))
    rw [addS_yes ((addOkS_iff _ _).2 ⟨A.ok, A.thing, A.room⟩)] at this
    rw [this.2, hp.1]
    simp
  · rcases List.mem_append.1 hu with q | q
    · exact hp.2 u q
    · rw [List.mem_singleton.1 q]; exact A.thing
theorem up_fine {l : List Int} (h : ∀ t ∈ l, 0 ≤ t ∧ t ≤ 63) (hl : l.length ≤ 2000) : okS (upS l) = true := by
  have key : ∀ n, n ≤ l.length → okS (upS (l.take n)) = true := by
    intro n
    induction n with
    | zero => intro _; rw [List.take_zero]; exact okS_new
    | succ n ih =>
      intro hn
      have ok := ih (by omega)
      rw [up_take (by omega)]
      have g := h (l.getD n 0) (getD_mem l n 0 (by omega))
      have e := (okS_up ok).1
      rw [List.length_take] at e
      have ha : addOkS (upS (l.take n)) (l.getD n 0) = true := (addOkS_iff _ _).2 ⟨(okS_iff _).1 ok, g, by omega⟩
      exact (okS_iff _).2 (addS_ok ha).1
  have := key l.length (Nat.le_refl _)
  rwa [List.take_length] at this
theorem up_no {l : List Int} (h : okS (upS l) = false) : upS l = noSm := by
  have key : ∀ n, n ≤ l.length → okS (upS (l.take n)) = true ∨ upS (l.take n) = noSm := by
    intro n
    induction n with
    | zero => intro _; left; rw [List.take_zero]; exact okS_new
    | succ n ih =>
      intro hn
      rw [up_take (by omega)]
      by_cases ha : addOkS (upS (l.take n)) (l.getD n 0) = true
      · left; exact (okS_iff _).2 (addS_ok ha).1
      · rw [Bool.not_eq_true] at ha
        right; exact addS_no ha
  have := key l.length (Nat.le_refl _)
  rw [List.take_length, h] at this
  rcases this with q | q
  · cases q
  · exact q

end Go.Proofs.Ytnpogmhfdjmfdaa
