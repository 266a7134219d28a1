/-
  The exact laws' marks in a slice of numbers that is a struct's one field.
-/
import Derived.Test.YteopnbjiffncbabExArg
import Derived.Test.YteopnbjiffncbabMark
import Derived.Test.YteopnbjiffncbabBoth4
namespace Go.Proofs.Yteopnbjiffncbab
open Go.RowKit Go.Sort

theorem OwnI.keep {w w' : World} {B : Nat} {v : Value} {zs : List Int} {row : Option Nat} (h : OwnI w B v zs) (hg : w.grownBy w' row) (hr : v.ownBlock ≠ row) : OwnI w' B v zs := World.ownsRow.kept h hg (.inr hr)
theorem OwnI.below {w w' : World} {B : Nat} {v : Value} {zs : List Int} (h : OwnI w B v zs) (hb : Below w.heap.size w w') : OwnI w' B v zs := h.kept (row := none) (grownBy_below hb) (fun _ e => by cases e)

theorem markIntS_nil (w : World) (k : Int) : Calls Try.prog 66 #[.slice none 0 0, .int .i64 k] w fun e w' => e = .returned (.int .i64 k) ∧ w = w' := by
  go_enter Try.func66, Try.ntmps66
  go_wp2
  refine wp_loop_rounds 1 ?_
  rw [rounds_succ]
  go_wp2
  go_ret
  exact ⟨rfl, rfl⟩

theorem markIntS_own (w : World) (B : Nat) (v : Value) (zs : List Int) (k : Int) (h : OwnI w B v zs) (hn : zs.length ≤ 1048576) (hk : 0 ≤ k) (hk' : k ≤ 1000000000000) :
    Calls Try.prog 66 #[v, .int .i64 k] w fun e w' => e = .returned (.int .i64 (k + zs.length)) ∧ OwnI w' B v (mkRow k zs.length) ∧ w.grownBy w' v.ownBlock := by
  by_cases h0 : v = .slice none 0 0
  · subst h0
    have hz : zs = [] := by
      rcases h.2 with ⟨_, e⟩ | ⟨g, cap, cur, e, _⟩
      · exact List.eq_nil_of_length_eq_zero e
      · cases e
    subst hz
    exact (markIntS_nil w k).mono fun e w' ⟨he, hw⟩ => ⟨by rw [he]; simp, by subst hw; exact OwnI.nil _ _, by subst hw; exact grownBy_refl _ _⟩
  · rcases h.2 with ⟨e, _⟩ | ⟨g, cap, cur, e, hb, hh, hc, hm, hs, ht⟩
    · exact absurd e h0
    · subst e
      refine (markIntS_at w B g cap zs.length zs k rfl hn hk hk' h).mono fun e w' ⟨he, ho, hg⟩ => ⟨he, ?_, hg⟩
      unfold OwnI
      rw [mkRow_len]
      exact ho

theorem markFew_at (w : World) (B : Nat) (u : Value) (zs : List Int) (k : Int) (h : OwnI w B u zs) (hn : zs.length ≤ 1048576) (hk : 0 ≤ k) (hk' : k ≤ 1000000000000) :
    Calls Try.prog 38 #[.agg #[u], .int .i64 k] w fun e w' => e = .returned (.int .i64 (k + zs.length)) ∧ OwnI w' B u (mkRow k zs.length) ∧ w.grownBy w' u.ownBlock := by
  have K := Lib.hid (markIntS_own (w.alloc (.cells #[u] 46)) B u zs k (h.alloc _) hn hk hk')
  obtain ⟨x, c, hx⟩ := h.form
  obtain ⟨n, hn'⟩ : ∃ n, n = zs.length := ⟨_, rfl⟩
  rw [← hn'] at hx K ⊢
  subst hx
  clear h hn hn'
  go_enter Try.func38, Try.ntmps38
  go_wp2_with fail
  refine K.out.mono ?_
  rintro e w1 ⟨rfl, ho, hg⟩
  go_wp2
  go_ret
  exact ⟨rfl, ho, grownBy_trans (World.grownBy_alloc w _ _) hg⟩

theorem heldFew_at (w : World) (u : Value) (n : Nat) (k : Int) (h : Ints w u (mkRow k n)) (hn : n ≤ 1048576) (hk : 0 ≤ k) (hk' : k ≤ 1000000000000) :
    Calls Try.prog 39 #[.agg #[u], .int .i64 k] w fun e w' => e = .returned (.int .i64 (k + n)) ∧ Below w.heap.size w w' := by
  have hA := (Below.refl w.heap.size w).alloc (Nat.le_refl _) (.cells #[u] 46)
  have K := Lib.hid (heldIntS_at _ u n k hn hk hk' (h.below hA (Nat.le_refl _)))
  have HA := Lib.hid hA
  obtain ⟨⟨x, c, hx⟩, _⟩ := h.cases
  rw [mkRow_len] at hx
  subst hx
  have b : ¬ k + (n : Int) < 0 := by omega
  clear h hA
  go_enter Try.func39, Try.ntmps39
  go_wp2_with fail
  refine K.out.mono ?_
  rintro e w1 ⟨rfl, rfl⟩
  go_wp2
  go_ret
  exact ⟨rfl, HA.out⟩

/-- What was made earlier stays when what was made later is written into. -/
theorem OwnI.keepL {w w' : World} {B B' : Nat} {p q : Value} {zs ys : List Int} (hp : OwnI w B p zs) (hlt : ∀ k, p.ownBlock = some k → k < B') (hq : OwnI w B' q ys) (hg : w.grownBy w' q.ownBlock) : OwnI w' B p zs := by
  refine World.ownsRow.kept hp hg ?_
  cases hv : p.ownBlock with
  | none => exact .inl rfl
  | some k => exact .inr (fun e => by have := hlt k hv; have := (World.ownsRow.lt hq k e.symm).1; omega)
/-- And the other way round. -/
theorem OwnI.keepR {w w' : World} {B' : Nat} {p q : Value} {ys : List Int} (hq : OwnI w B' q ys) (hlt : ∀ k, p.ownBlock = some k → k < B') (hg : w.grownBy w' p.ownBlock) : OwnI w' B' q ys := hq.kept hg hlt
theorem OwnI.lt {w : World} {B : Nat} {p : Value} {zs : List Int} (hp : OwnI w B p zs) : ∀ k, p.ownBlock = some k → k < w.heap.size := fun k e => (World.ownsRow.lt hp k e).2
theorem below_mark {w W w' : World} {B : Nat} {p : Value} {zs : List Int} (h : Below w.heap.size w W) (hp : OwnI W B p zs) (hB : w.heap.size ≤ B) (hg : W.grownBy w' p.ownBlock) : Below w.heap.size w w' :=
  h.grown hg h.size (fun k e => by have := (World.ownsRow.lt hp k e).1; omega)
theorem boxed_below {W w' : World} {b : Nat} {t : TypeId} {v : Value} (h : Go.Boxed W b t v) (hb : Below W.heap.size W w') : Go.Boxed w' b t v := (hb.block _ h.lt).trans h
theorem boxed_mark {W w' : World} {b B : Nat} {t : TypeId} {v p : Value} {zs : List Int} (h : Go.Boxed W b t v) (ht : t ≠ 3) (hp : OwnI W B p zs) (hg : W.grownBy w' p.ownBlock) : Go.Boxed w' b t v := h.kept hg (h.not_row ht hp)

end Go.Proofs.Yteopnbjiffncbab
