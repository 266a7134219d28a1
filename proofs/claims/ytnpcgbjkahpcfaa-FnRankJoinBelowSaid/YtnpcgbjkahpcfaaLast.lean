/-
  A statement that draws its order, reads, calls what makes memory of its own, and stores once, at its end: one walk in the order of the text serves every order.
-/
import Derived.Lib.QuietBelow
import Derived.StillTail
import Derived.WalkKit
namespace Go.Proofs.Ytnpcgbjkahpcfaa
open Go.RowKit Go.Sort

/-- A fact that no unfolding looks into. -/
structure Boxed (p : Prop) : Prop where
  out : p

/-- One operation of the walk, what follows behind a variable, and boxed. -/
theorem boxed_step {P : Program} {ops : Array Oper} {C : World → Prop} {Q : Act → Prop} {a : Act} {o : Oper} {rest : List Oper}
    (h : ∀ K : Act → Prop, (∀ a, Boxed (wpQuiet P ops C Q rest a) → K a) → if Region.wanted o (yielded ops a.tmps) then o.quiet P a C K else K (a.put o.dst undef)) : Boxed (wpQuiet P ops C Q (o :: rest) a) :=
  ⟨wpQuiet_step fun K hK => h K fun a ha => hK a ha.out⟩
theorem boxed_nil {P : Program} {ops : Array Oper} {C : World → Prop} {Q : Act → Prop} {a : Act} (h : Q a) : Boxed (wpQuiet P ops C Q [] a) := ⟨h⟩
theorem boxed_region {P : Program} {id : Nat} {Q : Exit → Act → World → Prop} {a : Act} {w : World} {l : List Oper} (hm : P.follows .mixedOrders = true) (hB : Region.lexB .any l.toArray = true)
    (h : Boxed (wpQuiet P l.toArray (fun w' => ∃ p : Regrown, w' = grow (redrawn w p.d) p.os) (fun a' => ∀ w', (∃ p : Regrown, w' = grow (redrawn w p.d) p.os) → Q .normal a' w') l a)) : (Code.region id l.toArray true).wp P Q a w :=
  wp_region_quiet_below hm hB h.out

/-- The operation o, but that it does nothing. -/
def hush (o : Oper) : Oper := { o with op := .move (.const (.bool false)) }

section
variable {P : Program} {md : Region.Mode} {C : World → Prop}

theorem ready_hush {A B : Array Oper} (hs : A.size = B.size) (h : ∀ j : Nat, (A[j]?).map Oper.after = (B[j]?).map Oper.after) (listed : Array Bool) : Region.ready md A listed = Region.ready md B listed := by
  have e : ∀ j, j ∈ Region.ready md A listed ↔ j ∈ Region.ready md B listed := fun j => by
    rw [mem_ready, mem_ready]
    have hj := h j
    constructor
    · rintro ⟨h1, o, ho, h2⟩
      rw [ho] at hj
      cases hB : B[j]? with
      | none => rw [hB] at hj; cases hj
      | some o' =>
        rw [hB] at hj
        have e : o.after = o'.after := by simpa using hj
        exact ⟨h1, o', rfl, fun e' he' => h2 e' (by rw [e]; exact he')⟩
    · rintro ⟨h1, o, ho, h2⟩
      rw [ho] at hj
      cases hA : A[j]? with
      | none => rw [hA] at hj; cases hj
      | some o' =>
        rw [hA] at hj
        have e : o'.after = o.after := by simpa using hj
        exact ⟨h1, o', rfl, fun e' he' => h2 e' (by rw [← e]; exact he')⟩
  unfold Region.ready at e ⊢
  rw [hs] at e ⊢
  apply List.filter_congr
  intro j hj
  have := e j
  simp only [List.mem_filter, hj, true_and] at this
  exact Bool.eq_iff_iff.2 this

theorem yielded_hush {A B : Array Oper} (h : ∀ j : Nat, (A[j]?).bind Oper.dst = (B[j]?).bind Oper.dst) (tmps : Array Value) : yielded A tmps = yielded B tmps := by
  funext j
  have h' : ((A[j]?).bind fun x => x.dst) = (B[j]?).bind fun x => x.dst := h j
  unfold yielded
  rw [h']

theorem wpQuiet_ops {A B : Array Oper} (h : ∀ tmps, yielded A tmps = yielded B tmps) {Q : Act → Prop} : ∀ (l : List Oper) (a : Act), wpQuiet P A C Q l a → wpQuiet P B C Q l a
  | [], _, hh => hh
  | o :: l, a, hh => by
    unfold wpQuiet at hh ⊢
    rw [← h]
    split
    · rename_i hw
      rw [if_pos hw] at hh
      exact Oper.quiet_mono (fun a' => wpQuiet_ops h l a') hh
    · rename_i hw
      rw [if_neg hw] at hh
      exact wpQuiet_ops h l _ hh

theorem wpQuiet_mono {A : Array Oper} {R R' : Act → Prop} (ho : ∀ a, R a → R' a) : ∀ (l : List Oper) (a : Act), wpQuiet P A C R l a → wpQuiet P A C R' l a
  | [], a, hh => ho a hh
  | p :: l, a, hh => by
    unfold wpQuiet at hh ⊢
    split
    · rename_i hw
      rw [if_pos hw] at hh
      exact Oper.quiet_mono (fun a' => wpQuiet_mono ho l a') hh
    · rename_i hw
      rw [if_neg hw] at hh
      exact wpQuiet_mono ho l _ hh

theorem wpQuiet_snoc {A : Array Oper} {R R' : Act → Prop} {o : Oper} (ho : ∀ a, R a → wpQuiet P A C R' [o] a) : ∀ (l : List Oper) (a : Act), wpQuiet P A C R l a → wpQuiet P A C R' (l ++ [o]) a
  | [], a, hh => ho a hh
  | p :: l, a, hh => by
    rw [List.cons_append]
    unfold wpQuiet at hh ⊢
    split
    · rename_i hw
      rw [if_pos hw] at hh
      exact Oper.quiet_mono (fun a' => wpQuiet_snoc ho l a') hh
    · rename_i hw
      rw [if_neg hw] at hh
      exact wpQuiet_snoc ho l _ hh

/-- The last operation, and what stands behind the region. -/
def OutLast (P : Program) (o : Oper) (Q : Exit → Act → World → Prop) (a : Act) (w : World) : Prop := o.wp P a w (fun a w => Q .normal a w) Q ∨ (o.asks P a w ∧ LetsOut Q)

/-- Every operation waits only for such as stand ahead of it. -/
def backB (A : Array Oper) : Bool := (List.range A.size).all fun i => match A[i]? with | some o => o.after.all fun e => decide (e.on < i) | none => true

/-- While one has not come up, one may. -/
theorem some_ready {A : Array Oper} {listed : Array Bool} (hb : backB A = true) (hsz : listed.size = A.size) : ∀ (i : Nat), i < A.size → listed.getD i true = false → ∃ j, j ∈ Region.ready md A listed := by
  intro i
  induction i using Nat.strongRecOn with
  | _ i ih =>
    intro hi hun
    by_cases hr : i ∈ Region.ready md A listed
    · exact ⟨i, hr⟩
    · have ho : A[i]? = some A[i] := Array.getElem?_eq_getElem hi
      have h1 := List.all_eq_true.1 hb i (List.mem_range.2 hi)
      rw [ho] at h1
      simp only at h1
      have : ∃ e ∈ A[i].after, listed.getD e.on false ≠ true := by
        apply Classical.byContradiction
        intro hno
        apply hr
        rw [mem_ready]
        refine ⟨hun, _, ho, fun e he _ => ?_⟩
        apply Classical.byContradiction
        exact fun hne => hno ⟨e, he, hne⟩
      obtain ⟨e, he, hne⟩ := this
      have hlt : e.on < i := by
        obtain ⟨k, hk, rfl⟩ := Array.getElem_of_mem he
        have := Array.all_eq_true.1 h1 k hk
        simpa using this
      refine ih e.on hlt (by omega) ?_
      exact getD_in (by omega) (by simpa using hne)

/-- What is shown of the hushed region serves the region itself, the last operation coming last. -/
theorem wpAny_of_hush {A B : Array Oper} {n : Nat} {o : Oper} {Q' : Exit → Act → World → Prop} (hn : n + 1 = A.size) (hsz : B.size = A.size) (hrd : ∀ listed, Region.ready md B listed = Region.ready md A listed)
    (hhead : ∀ j, j < n → B[j]? = A[j]?) (hlast : A[n]? = some o) (hquiet : B[n]? = some (hush o)) (hdst : o.dst = none) (hguard : o.guard = none) (hy : ∀ tmps, yielded B tmps = yielded A tmps)
    (hs : Region.sinkB md A n = true) (hc : Region.chainB md A n = true) (hback : backB A = true) :
    ∀ (fuel : Nat) (listed : Array Bool) (a : Act) (w : World), HeadInv md A n listed → (∃ j, j ∈ Region.ready md A listed) → C w →
      wpAnyQ P md B C (fun a' => ∀ w', C w' → OutLast P o Q' a' w') fuel listed a → wpAny P md A Q' fuel listed a w
  | 0, listed, a, w, _, hj, _, h => by
    obtain ⟨j, hj⟩ := hj
    have h0 : Region.ready md B listed = [] := h.1
    rw [hrd] at h0
    rw [h0] at hj
    cases hj
  | fuel + 1, listed, a, w, inv, hj, hw, h => by
    obtain ⟨j, hj⟩ := hj
    refine ⟨fun h0 => (by rw [h0] at hj; cases hj), fun i hi => ?_⟩
    have h2 := h.2 i (by rw [hrd]; exact hi)
    have hiA : i < A.size := by
      obtain ⟨_, oi, hoi, _⟩ := mem_ready.1 hi
      exact (Array.getElem?_eq_some_iff.1 hoi).1
    by_cases hin : i < n
    · -- an operation ahead of the last: the same in both
      have inv' := inv.set hi hin
      have hB : B[i]? = A[i]? := hhead i hin
      have hq : qOp P A C i (wpAnyQ P md B C (fun a' => ∀ w', C w' → OutLast P o Q' a' w') fuel (listed.setIfInBounds i true)) a := by
        unfold qOp at h2 ⊢
        rw [hB] at h2
        cases hA : A[i]? with
        | none => rw [hA] at h2; exact h2
        | some oi =>
          rw [hA] at h2
          simp only at h2 ⊢
          rw [hy] at h2
          exact h2
      refine wpOp_of_qOp hw (fun a' w' hw' h3 => ?_) hq
      -- the last is not yet carried out: something may come up
      have hlt : listed.getD n true = false := inv.tail n (Nat.le_refl _) (by omega)
      have hun : (listed.setIfInBounds i true).getD n true = false := by rw [getD_set_ne true (by omega)]; exact hlt
      have hsome := some_ready (md := md) hback inv'.size n (by omega) hun
      exact wpAny_of_hush hn hsz hrd hhead hlast hquiet hdst hguard hy hs hc hback fuel _ a' w' inv' hsome hw' h3
    · obtain rfl : i = n := by omega
      -- the last: all others are carried out
      have hall : ∀ k, k < i → listed.getD k true = true := fun k hk => by
        cases hl : listed.getD k true with
        | true => rfl
        | false => exact absurd hi (tail_waits hs hc (by omega) inv _ k rfl hk hl i (Nat.le_refl _))
      have hend : Region.ready md A (listed.setIfInBounds i true) = [] := by
        cases hr : Region.ready md A (listed.setIfInBounds i true) with
        | nil => rfl
        | cons x xs =>
          have hx : x ∈ Region.ready md A (listed.setIfInBounds i true) := by rw [hr]; simp
          obtain ⟨hu, ox, hox, _⟩ := mem_ready.1 hx
          have hxA := (Array.getElem?_eq_some_iff.1 hox).1
          have hxs : x < listed.size := by rw [inv.size]; exact hxA
          by_cases e : i = x
          · subst e
            simp [hxs] at hu
          · rw [getD_set_ne true e] at hu
            rw [hall x (by omega)] at hu
            cases hu
      have hq : wpAnyQ P md B C (fun a' => ∀ w', C w' → OutLast P o Q' a' w') fuel (listed.setIfInBounds i true) a := by
        unfold qOp at h2
        rw [hquiet] at h2
        simp only at h2
        have hp : ∀ v, a.put (hush o).dst v = a := fun v => by show a.put o.dst v = a; rw [hdst]; rfl
        split at h2
        · obtain ⟨v, _, h3⟩ := h2
          rw [hp] at h3
          exact h3
        · rw [hp] at h2
          exact h2
      have hR : ∀ w', C w' → OutLast P o Q' a w' := by
        cases fuel with
        | zero => exact hq.2
        | succ f => exact hq.1 (by rw [hrd]; exact hend)
      unfold wpOp
      rw [hlast]
      simp only
      have hwd : Region.wanted o (yielded A a.tmps) = true := by simp [Region.wanted, hguard]
      rw [if_pos hwd]
      rcases hR w hw with h3 | h3
      · refine .inl (Oper.wp_mono (fun a' w' hq' => ?_) h3)
        cases fuel with
        | zero => exact ⟨hend, hq'⟩
        | succ f => exact ⟨fun _ => hq', fun k hk => by rw [hend] at hk; cases hk⟩
      · exact .inr h3

theorem wp_region_last {id : Nat} {Q : Exit → Act → World → Prop} {a : Act} {w : World} {l : List Oper} (n : Nat) (o : Oper) (hl : l.drop n = [o]) (hdst : o.dst = none) (hguard : o.guard = none)
    (hm : P.follows .mixedOrders = true) (hB : Region.lexB .any (l.take n ++ [hush o]).toArray = true) (hs : Region.sinkB .any l.toArray n = true) (hc : Region.chainB .any l.toArray n = true) (hback : backB l.toArray = true)
    (hC : C { w with drawn := w.drawn + 1 }) (h : Boxed (wpQuiet P l.toArray C (fun a' => ∀ w', C w' → wpList P l.toArray Q [o] a' w') (l.take n) a)) : (Code.region id l.toArray true).wp P Q a w := by
  replace h := h.out
  have hn : n < l.length := by
    apply Classical.byContradiction
    intro hno
    rw [List.drop_of_length_le (by omega)] at hl
    cases hl
  have hlen : n + 1 = l.length := by
    have := congrArg List.length hl
    simp at this
    omega
  have htake : (l.take n).length = n := by simp; omega
  have hsplit : l = l.take n ++ [o] := by rw [← hl, List.take_append_drop]
  have gA : ∀ j : Nat, l.toArray[j]? = if j < n then (l.take n)[j]? else if j = n then some o else none := fun j => by
    rw [List.getElem?_toArray]
    conv => lhs; rw [hsplit]
    rw [List.getElem?_append]
    simp only [htake]
    split
    · rfl
    · split
      · rename_i h1 h2; subst h2; simp
      · rename_i h1 h2; rw [List.getElem?_eq_none (by simp; omega)]
  have gB : ∀ j : Nat, (l.take n ++ [hush o]).toArray[j]? = if j < n then (l.take n)[j]? else if j = n then some (hush o) else none := fun j => by
    rw [List.getElem?_toArray, List.getElem?_append]
    simp only [htake]
    split
    · rfl
    · split
      · rename_i h1 h2; subst h2; simp
      · rename_i h1 h2; rw [List.getElem?_eq_none (by simp; omega)]
  have hsz : (l.take n ++ [hush o]).toArray.size = l.toArray.size := by simp; omega
  have haft : ∀ j : Nat, ((l.take n ++ [hush o]).toArray[j]?).map Oper.after = (l.toArray[j]?).map Oper.after := fun j => by
    rw [gA, gB]; split
    · rfl
    · split <;> rfl
  have hdd : ∀ j : Nat, ((l.take n ++ [hush o]).toArray[j]?).bind Oper.dst = (l.toArray[j]?).bind Oper.dst := fun j => by
    rw [gA, gB]; split
    · rfl
    · split <;> rfl
  have hy := yielded_hush hdd
  have hwd : ∀ t, Region.wanted o t = true := fun t => by simp [Region.wanted, hguard]
  have h1 : wpQuiet P (l.take n ++ [hush o]).toArray C (fun a' => ∀ w', C w' → OutLast P o Q a' w') (l.take n ++ [hush o]) a := by
    refine wpQuiet_snoc (R := fun a' => ∀ w', C w' → OutLast P o Q a' w') (fun a' hR => ?_) _ _ (wpQuiet_ops (fun t => (hy t).symm) _ _ ?_)
    · unfold wpQuiet
      have hw' : Region.wanted (hush o) (yielded (l.take n ++ [hush o]).toArray a'.tmps) = true := by simp [Region.wanted, hush, hguard]
      rw [if_pos hw']
      refine ⟨.bool false, fun w' _ => ?_, ?_⟩
      · unfold Oper.quietAt
        show Oper.quietUpon P C w' (.bool false) ((execOp a'.eval (hush o)).run P w')
        simp [hush, execOp, Oper.quietUpon, Act.eval]
      · unfold wpQuiet
        have : a'.put (hush o).dst (.bool false) = a' := by show a'.put o.dst _ = a'; rw [hdst]; rfl
        rw [this]
        exact hR
    · refine wpQuiet_mono (fun a' h2 w' hw' => ?_) _ _ h
      have h3 := h2 w' hw'
      unfold wpList at h3
      rw [if_pos (hwd _)] at h3
      exact h3
  refine wp_region_any hm ?_
  have hlex := hB
  simp only [Region.lexB, Bool.and_eq_true] at hlex
  have h2 := wpAnyQ_lex (C := C) (md := .any) hlex.1 (l.take n ++ [hush o]) 0 (Array.replicate l.toArray.size false) a (by simp) (by rw [← hsz]; simpa using hlex.2) h1
  have h3 : (l.take n ++ [hush o]).length = l.toArray.size := by simp; omega
  rw [h3] at h2
  have inv0 : HeadInv .any l.toArray n (Array.replicate l.toArray.size false) :=
    ⟨by simp, fun j oj _ hl => (by rw [getD_replicate_false] at hl; cases hl), fun t _ ht => getD_in (by simpa using ht) (getD_replicate_false _ _)⟩
  have hrd := fun listed => ready_hush (md := .any) hsz haft listed
  refine wpAny_of_hush (n := n) (o := o) (by simpa using hlen) hsz hrd (fun j hj => by rw [gA, gB, if_pos hj, if_pos hj]) (by rw [gA, if_neg (by omega), if_pos rfl]) (by rw [gB, if_neg (by omega), if_pos rfl]) hdst hguard hy hs hc hback _ _ _ _ inv0 ?_ hC h2
  exact some_ready hback (by simp) n (by simpa using hn) (getD_in (by simpa using hn) (getD_replicate_false _ _))

end
end Go.Proofs.Ytnpcgbjkahpcfaa
