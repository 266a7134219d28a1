/-
  The program's DeedRead.
-/
import Derived.Test.YtbnggcgojbkoaaaDoorNReB
import Derived.Test.YtbnggcgojbkoaaaDoorNRec
set_option linter.unusedVariables false
set_option linter.unusedSectionVars false
set_option linter.unusedSimpArgs false
namespace Go.Proofs.YtbnggcgojbkoaaaDoor
open Go.RowKit Go.Sort
namespace N
section
variable {B p : Nat} {w0 w : World} {l : List Ch}
set_option maxRecDepth 100000 in
set_option maxHeartbeats 8000000 in
theorem catch_panicking {d o : Nat} {x y z : Int} {ok : Bool} (h : M B w0 w (boxC d 24 #[.int .i64 x, .int .i64 y, .int .i64 z] :: boxC o 4 #[.bool ok] :: l)) :
    CallsD Tryd.prog 26 #[.pointer (some ⟨d, 0, Option.none⟩), .pointer (some ⟨o, 0, Option.none⟩)] (.panicking unread) w fun e u' w' =>
      e = .returned (.tuple #[]) ∧ u' = .panicking [{ v := .iface 55 (.agg #[]), recovered := true }] ∧ M B w0 w' (boxC d 24 #[.int .i64 0, .int .i64 0, .int .i64 0] :: boxC o 4 #[.bool false] :: l) := by
  have H := Lib.hid h
  clear h
  unfold unread
  refine callsD_of_wpS Tryd.func26 rfl fun c₀ cs hu => ?_
  simp only [Tryd.ntmps26, List.size_toArray, List.length_cons, List.length_nil, Nat.reduceAdd, Nat.reduceSub, Array.replicate_succ,
     Array.replicate_zero, List.push_toArray, List.append_toArray, List.nil_append, List.cons_append]
  apply wpS_seq
  refine wpS_region_recover (v := .iface 55 (.agg #[])) (cs' := { c₀ with mode := .panicking [{ v := .iface 55 (.agg #[]), recovered := true }] } :: cs) rfl rfl (.inl (by simp [recoverD, hu])) ?_
  have hta : ∀ w, (Instr.typeAssert (.iface 55 (.agg #[])) 20 55 true).run Tryd.prog w = .ok (.tuple #[.agg #[], .bool true]) w := fun w => by simp [go_sem, Instr.typeAssert]
  have H1 := Lib.hid (H.out.alloc #[] 55)
  clear H
  go_wp2
  unfold Exit.thenS
  apply wpS_seq
  refine wpS_of_wp ?_
  go_wp2
  unfold Exit.thenS
  refine wpS_cond (t := true) rfl ?_
  rw [if_pos rfl]
  refine wpS_of_wp ?_
  obtain ⟨r0, r1, r2⟩ := H1.out.p1.cells3
  have rf := H1.out.p1.free
  have FF := Lib.hid ((H1.out.p1.set3 (.int .i64 0) (.int .i64 0) (.int .i64 0)).p2)
  have q0 := FF.out.cells1
  have qf := FF.out.free
  go_wp2
  exact ⟨rfl, _, rfl, .tuple #[], by simp [results, Tryd.results26 ], rfl, rfl, (FF.out.set (i := 0) (.bool false)).p2.drop.p1⟩
set_option maxRecDepth 100000 in
set_option maxHeartbeats 8000000 in
theorem catch_idle {d o : Nat} (h : M B w0 w l) :
    CallsD Tryd.prog 26 #[.pointer (some ⟨d, 0, Option.none⟩), .pointer (some ⟨o, 0, Option.none⟩)] .returning w fun e u' w' =>
      e = .returned (.tuple #[]) ∧ u' = .returning ∧ M B w0 w' l := by
  have H := Lib.hid h
  clear h
  refine callsD_of_wpS Tryd.func26 rfl fun c₀ cs hu => ?_
  simp only [Tryd.ntmps26, List.size_toArray, List.length_cons, List.length_nil, Nat.reduceAdd, Nat.reduceSub, Array.replicate_succ,
     Array.replicate_zero, List.push_toArray, List.append_toArray, List.nil_append, List.cons_append]
  apply wpS_seq
  refine wpS_region_recover (v := .nilIface) (cs' := c₀ :: cs) rfl rfl (.inr ⟨by simp [recoverD, hu], rfl, rfl⟩) ?_
  have hta : ∀ w, (Instr.typeAssert .nilIface 20 55 true).run Tryd.prog w = .ok (.tuple #[.agg #[], .bool false]) w := fun w => by simp [go_sem, Instr.typeAssert]
  have H1 := Lib.hid (H.out.alloc #[] 55)
  clear H
  go_wp2
  unfold Exit.thenS
  apply wpS_seq
  refine wpS_of_wp ?_
  go_wp2
  unfold Exit.thenS
  refine wpS_cond (t := false) rfl ?_
  rw [if_neg (by decide)]
  refine wpS_of_wp (wp_skip ?_)
  obtain ⟨a0, a1, a2, a3, a4, a5, a6⟩ := c₀
  simp only at hu
  subst hu
  exact ⟨rfl, _, rfl, .tuple #[], by simp [results, Tryd.results26 ], rfl, rfl, H1.out.drop⟩
end
section
variable {B : Nat} {w0 w : World} {l : List Ch}
/-- What DeedRead answers. -/
def readV (o : Option De) : Value := .tuple #[deedV (o.getD ⟨0, 0, 0⟩), .bool o.isSome]
set_option maxRecDepth 100000 in
set_option maxHeartbeats 8000000 in
theorem imDeedRead_at (h : M B w0 w l) (hE : LibOk B w0) (s : Bs) (hs : s.length ≤ 4000000) : Calls Tryd.prog 11 #[.string ⟨s.toArray⟩] w fun e w' => e = .returned (readV (readD s)) ∧ M B w0 w' l := by
  have hmf : ∀ (fn : Fn) (first cap : Array Value) (w : World), (Instr.makeFunc fn first cap).run Tryd.prog w = .ok (.func fn first cap) w := fun _ _ _ _ => rfl
  have h1 := (h.alloc #[.int .i64 0, .int .i64 0, .int .i64 0] 24).alloc #[.bool false] 4
  rw [show (w.alloc (Obj.cells #[.int .i64 0, .int .i64 0, .int .i64 0] 24)).heap.size = w.heap.size + 1 from Array.size_push ..] at h1
  have H1 := Lib.hid h1
  clear h h1
  have MR := Lib.hid (must_read s)
  go_enter_defers Tryd.func11, Tryd.ntmps11
  go_wp2_with fail
  refine (mustRead_at H1.out hE s hs).mono ?_
  rintro e w1 ⟨h1, he⟩
  have H2 := Lib.hid h1.p1
  clear h1 H1
  unfold Ans at he
  rw [MR.out] at he
  cases q : readD s with
  | none =>
    rw [q] at he
    subst he
    have HQ := Lib.hid q
    clear MR q hs
    go_wp2
    refine leaves_cons (f := 26) (args := #[.pointer (some ⟨w.heap.size, 0, Option.none⟩), .pointer (some ⟨w.heap.size + 1, 0, Option.none⟩)]) (by simp) rfl ?_
    refine (catch_panicking H2.out).mono ?_
    rintro e u' w3 ⟨rfl, rfl, h3⟩
    obtain ⟨c0, c1, c2⟩ := h3.cells3
    have d0 := h3.p1.cells1
    refine ⟨readV Option.none, ?_, by rw [HQ.out], h3.drop.drop⟩
    simp [results, Tryd.results11, go_sem, c0, c1, c2, d0, readV, deedV]
  | some d =>
    rw [q] at he
    subst he
    have HQ := Lib.hid q
    clear MR q hs
    obtain ⟨r0, r1, r2⟩ := H2.out.cells3
    have rf := H2.out.free
    have FF := Lib.hid ((H2.out.set3 (.int .i64 d.kind) (.int .i64 d.a) (.int .i64 d.b)).p1)
    have q0 := FF.out.cells1
    have qf := FF.out.free
    unfold deedV
    go_wp2
    have H3 := Lib.hid ((FF.out.set (i := 0) (.bool true)).p1)
    refine leaves_cons (f := 26) (args := #[.pointer (some ⟨w.heap.size, 0, Option.none⟩), .pointer (some ⟨w.heap.size + 1, 0, Option.none⟩)]) (by simp) rfl ?_
    refine (catch_idle H3.out).mono ?_
    rintro e u' w3 ⟨rfl, rfl, h3⟩
    obtain ⟨c0, c1, c2⟩ := h3.cells3
    have d0 := h3.p1.cell (i := 0) (u := .bool true) rfl
    refine ⟨readV (some d), ?_, by rw [HQ.out], h3.drop.drop⟩
    simp [results, Tryd.results11, go_sem, c0, c1, c2, d0, readV, deedV]
end
end N
end Go.Proofs.YtbnggcgojbkoaaaDoor
