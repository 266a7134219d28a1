/-
  Several texts in one: NLive, NImA, NImB, NImC, NImD.
-/
import Derived.Test.YtnpogmhfdjmfdaaNb
import Derived.Test.YtnpogmhfdjmfdaaZImNew
import Derived.Maps.Own
import Derived.Test.YtnpogmhfdjmfdaaNc
import Derived.Carry
set_option linter.unusedVariables false
set_option linter.unusedSectionVars false
set_option linter.unusedSimpArgs false
/-
  The program's net while things happen, as claims: a box, nodes behind pointers, links in a map.
-/
namespace Go.Proofs.Ytnpogmhfdjmfdaa
open Go.RowKit Go.Sort

/-- Whatever stands as c says stands as d says, in the same blocks. -/
structure Eqv (c d : Ch) : Prop where
  go : ∀ {w : World} {f : List Nat}, c.at_ w f → ∃ f', d.at_ w f' ∧ f.Perm f'
theorem M.eqv {B : Nat} {w0 w : World} {l : List Ch} {c d : Ch} (h : M B w0 w (c :: l)) (q : Eqv c d) : M B w0 w (d :: l) :=
  h.to fun _ hf nd => let ⟨f', h1, p⟩ := q.go hf; ⟨f', h1, p.nodup_iff.1 nd, fun _ hb => p.mem_iff.2 hb⟩
theorem Eqv.refl (c : Ch) : Eqv c c := ⟨fun h => ⟨_, h, .refl _⟩⟩
theorem Eqv.trans {a b c : Ch} (h : Eqv a b) (k : Eqv b c) : Eqv a c := ⟨fun x => let ⟨_, y, p⟩ := h.go x; let ⟨_, z, q⟩ := k.go y; ⟨_, z, p.trans q⟩⟩
theorem Eqv.right {a b c : Ch} (h : Eqv a b) : Eqv (c.sep a) (c.sep b) := ⟨fun ⟨f1, _, e, x, y⟩ => let ⟨f', z, p⟩ := h.go y; ⟨_, ⟨f1, f', rfl, x, z⟩, by rw [e]; exact p.append_left _⟩⟩
theorem Eqv.swap (a b c : Ch) : Eqv (a.sep (b.sep c)) (b.sep (a.sep c)) := ⟨fun ⟨f1, _, e, x, ⟨f2, f3, e2, y, z⟩⟩ => ⟨f2 ++ (f1 ++ f3), ⟨f2, _, rfl, y, f1, f3, rfl, x, z⟩, by
  rw [e, e2, ← List.append_assoc, ← List.append_assoc]; exact List.perm_append_comm.append_right _⟩⟩
theorem Eqv.emp1 (c : Ch) : Eqv c (emp.sep c) := ⟨fun h => ⟨_, ⟨[], _, rfl, rfl, h⟩, .refl _⟩⟩
theorem Eqv.emp2 (c : Ch) : Eqv (emp.sep c) c := ⟨fun ⟨f1, f2, e, h1, h2⟩ => ⟨f2, h2, by rw [e, h1]; exact .refl _⟩⟩
namespace N
def nodeBox (p : Nat) (v : Value) (x : Nd) : Ch := (boxC p 41 #[.int .i64 x.born, v, .int .i64 x.beacon, .int .i64 x.level, .int .i64 x.up]).sep (knownC v x.known)
def optC : Option Nat → Option Nd → Ch
  | some p, some x => Ch.ex fun v => nodeBox p v x
  | _, _ => emp
def optsC : List (Option Nat) → List (Option Nd) → Ch
  | p :: ps, x :: ns => (optC p x).sep (optsC ps ns)
  | _, _ => emp
def ptr (p : Option Nat) : Value := .pointer (p.map fun b => ⟨b, 0, none⟩)
def liveBox (L : Nat) (ps : List (Option Nat)) (m : Nat) (vw vp : Value) : Ch := boxC L 49 (ps.map ptr ++ [.map (some m), vw, vp]).toArray
theorem opts_open : ∀ {ps : List (Option Nat)} {ns : List (Option Nd)} {i : Nat} {p : Option Nat} {x : Option Nd}, ps[i]? = some p → ns[i]? = some x → Eqv (optsC ps ns) ((optC p x).sep (optsC (ps.set i none) (ns.set i none)))
  | _ :: ps, _ :: ns, 0, p, x, hp, hx => by
    simp only [List.getElem?_cons_zero, Option.some.injEq] at hp hx
    subst hp hx
    exact Eqv.right (Eqv.emp1 _)
  | q :: ps, y :: ns, i + 1, p, x, hp, hx => by
    simp only [List.getElem?_cons_succ] at hp hx
    exact (Eqv.right (opts_open hp hx)).trans (Eqv.swap _ _ _)
  | [], _, _, _, _, hp, _ => by simp at hp
  | _ :: _, [], _, _, _, _, hx => by simp at hx
theorem opts_close : ∀ {ps : List (Option Nat)} {ns : List (Option Nd)} {i : Nat} (p : Option Nat) (x : Option Nd), i < ps.length → i < ns.length → Eqv ((optC p x).sep (optsC (ps.set i none) (ns.set i none))) (optsC (ps.set i p) (ns.set i x))
  | _ :: ps, _ :: ns, 0, p, x, _, _ => Eqv.right (Eqv.emp2 _)
  | q :: ps, y :: ns, i + 1, p, x, hp, hx => (Eqv.swap _ _ _).trans (Eqv.right (opts_close p x (by simpa using hp) (by simpa using hx)))
  | [], _, _, _, _, hp, _ => by simp at hp
  | _ :: _, [], _, _, _, _, hx => by simp at hx
section
variable {B L m : Nat} {w0 w : World} {l : List Ch} {ps : List (Option Nat)} {ns : List (Option Nd)} {vw vp : Value}
theorem live_set {i : Nat} {p : Option Nat} (h : i < ps.length) : (ps.map ptr ++ [.map (some m), vw, vp]).toArray.setIfInBounds i (ptr p) = ((ps.set i p).map ptr ++ [.map (some m), vw, vp]).toArray := by
  rw [List.setIfInBounds_toArray, List.set_append_left _ _ (by simpa using h), List.map_set]
theorem _root_.Go.Proofs.Ytnpogmhfdjmfdaa.M.ptrAt {i : Nat} {p : Option Nat} (h : M B w0 w (liveBox L ps m vw vp :: l)) (hi : ps[i]? = some p) : w.cell? ⟨L, i, none⟩ = some (ptr p) :=
  M.cell h (by rw [List.getElem?_toArray, List.getElem?_append_left (by rw [List.length_map]; exact (List.getElem?_eq_some_iff.1 hi).1), List.getElem?_map, hi]; rfl)
theorem _root_.Go.Proofs.Ytnpogmhfdjmfdaa.M.restAt (h : M B w0 w (liveBox L ps m vw vp :: l)) (h5 : ps.length = 5) : w.cell? ⟨L, 5, none⟩ = some (.map (some m)) ∧ w.cell? ⟨L, 6, none⟩ = some vw ∧ w.cell? ⟨L, 7, none⟩ = some vp :=
  have k : ∀ {i : Nat} {u : Value}, 5 ≤ i → ([.map (some m), vw, vp] : List Value)[i - 5]? = some u → w.cell? ⟨L, i, none⟩ = some u := fun h1 h2 =>
    M.cell h (by rw [List.getElem?_toArray, List.getElem?_append_right (by rw [List.length_map, h5]; exact h1), List.length_map, h5]; exact h2)
  ⟨k (by omega) rfl, k (by omega) rfl, k (by omega) rfl⟩
theorem _root_.Go.Proofs.Ytnpogmhfdjmfdaa.M.setPtr {i : Nat} (h : M B w0 w (liveBox L ps m vw vp :: l)) (hi : i < ps.length) (p : Option Nat) : M B w0 (w.setCell ⟨L, i, none⟩ (ptr p)) (liveBox L (ps.set i p) m vw vp :: l) := by
  have := M.set (i := i) h (ptr p)
  rw [live_set hi] at this
  exact this
theorem _root_.Go.Proofs.Ytnpogmhfdjmfdaa.M.setWords (h : M B w0 w (liveBox L ps m vw vp :: l)) (h5 : ps.length = 5) (u : Value) : M B w0 (w.setCell ⟨L, 6, none⟩ u) (liveBox L ps m u vp :: l) := by
  have := M.set (i := 6) h u
  rw [List.setIfInBounds_toArray, List.set_append_right _ _ (by rw [List.length_map, h5]; omega), List.length_map, h5] at this
  exact this
theorem _root_.Go.Proofs.Ytnpogmhfdjmfdaa.M.setPast (h : M B w0 w (liveBox L ps m vw vp :: l)) (h5 : ps.length = 5) (u : Value) : M B w0 (w.setCell ⟨L, 7, none⟩ u) (liveBox L ps m vw u :: l) := by
  have := M.set (i := 7) h u
  rw [List.setIfInBounds_toArray, List.set_append_right _ _ (by rw [List.length_map, h5]; omega), List.length_map, h5] at this
  exact this
theorem _root_.Go.Proofs.Ytnpogmhfdjmfdaa.M.nodeAt {i p : Nat} {x : Nd} (h : M B w0 w (optsC ps ns :: l)) (hp : ps[i]? = some (some p)) (hx : ns[i]? = some (some x)) : ∃ v, M B w0 w (boxC p 41 #[.int .i64 x.born, v, .int .i64 x.beacon, .int .i64 x.level, .int .i64 x.up] :: knownC v x.known :: optsC (ps.set i none) (ns.set i none) :: l) := by
  obtain ⟨v, h'⟩ := (h.eqv (opts_open hp hx)).two.ex
  exact ⟨v, h'.two⟩
theorem _root_.Go.Proofs.Ytnpogmhfdjmfdaa.M.nodeBack {i p : Nat} {v : Value} {x : Nd} (h : M B w0 w (boxC p 41 #[.int .i64 x.born, v, .int .i64 x.beacon, .int .i64 x.level, .int .i64 x.up] :: knownC v x.known :: optsC (ps.set i none) (ns.set i none) :: l)) (hp : i < ps.length) (hx : i < ns.length) : M B w0 w (optsC (ps.set i (some p)) (ns.set i (some x)) :: l) :=
  M.eqv (M.sep (M.in (c := fun v => nodeBox p v x) v h.sep)) (opts_close (some p) (some x) hp hx)
/-- A node is forgotten. -/
theorem _root_.Go.Proofs.Ytnpogmhfdjmfdaa.M.forget {i : Nat} {p : Option Nat} {x : Option Nd} (h : M B w0 w (optsC ps ns :: l)) (hp : ps[i]? = some p) (hx : ns[i]? = some x) : M B w0 w (optsC (ps.set i none) (ns.set i none) :: l) :=
  ((h.eqv (opts_open hp hx)).two).drop
end
/-- Links as keys of a map: pairs of numbers. -/
def endV (k : Int × Int) : Value := .agg #[.int .i64 k.1, .int .i64 k.2]
def EndOk (k : Int × Int) : Prop := (-9223372036854775808 ≤ k.1 ∧ k.1 < 9223372036854775808) ∧ (-9223372036854775808 ≤ k.2 ∧ k.2 < 9223372036854775808)
theorem endT : KeyT Try.prog 79 EndOk endV := by
  refine ⟨Go.Maps.Keyed.of_law (deep_law_gate (by kernel_rfl) (by decide +kernel) (by decide +kernel) (by kernel_rfl) (by kernel_rfl)), fun k hk => ?_, fun x y h => ?_⟩
  · obtain ⟨⟨a0, a1⟩, b0, b1⟩ := hk
    have c2 : Try.prog.cellsOf 79 = 2 := by kernel_rfl
    have c1 : Try.prog.cellsOf 3 = 1 := by kernel_rfl
    have ht : Try.prog.keyType 79 = true := by kernel_rfl
    have hn : 1 ≤ Try.prog.types.size := by decide +kernel
    obtain ⟨d, hd⟩ : ∃ d, Try.prog.types.size + 1 = d + 2 := ⟨Try.prog.types.size - 1, by omega⟩
    have w1 : (Lit.int .i64 k.1).wf = true := by simp [Lit.wf, IntKind.min, IntKind.max, IntKind.bits, IntKind.signed]; omega
    have w2 : (Lit.int .i64 k.2).wf = true := by simp [Lit.wf, IntKind.min, IntKind.max, IntKind.bits, IntKind.signed]; omega
    refine ⟨.string (keyBytes [.int .i64 k.1, .int .i64 k.2]), ?_⟩
    have hl : Try.prog.keyLits (d + 2) 79 [.int .i64 k.1, .int .i64 k.2] = some [.int .i64 k.1, .int .i64 k.2] := by
      simp only [Program.keyLits, Try.underlying79, c2]
      simp [Program.keyLits, c1, Try.underlying3, w1, w2]
    have hf : (endV k).formed Try.prog 79 = true := by unfold endV Value.formed; simp only [Try.underlying79, c2]; rfl
    have hc : (endV k).cells.toList = [.int .i64 k.1, .int .i64 k.2] := rfl
    simp only [keyOf, Try.underlying79, ht, hf, hd, hc, hl, Bool.and_self, if_true, Option.map_some]
  · unfold endV at h
    injection h with h
    have h' := congrArg Array.toList h
    simp at h'
    exact Prod.ext h'.1 h'.2
/-- The map g says of links what lk says. -/
def LinksAre (g : Int × Int → Option Value) (lk : Int → Int → Bool) : Prop := ∀ k, (g k).getD (.bool false) = .bool (lk k.1 k.2)
theorem boolZ (w : World) : (zeroValue 4).run Try.prog w = .ok (.bool false) w := by
  obtain ⟨i, hi, hz, _⟩ := info_parts linkS.info
  simp [zeroValue, typeInfo, hi, hz]
theorem look_link {B m : Nat} {w0 w : World} {l : List Ch} {g : Int × Int → Option Value} {lk : Int → Int → Bool} (h : M B w0 w (mapC EndOk endV m g :: l)) (hlk : LinksAre g lk) (a b : Int) (hk : EndOk (a, b)) :
    (Instr.lookup 45 (.map (some m)) (.agg #[.int .i64 a, .int .i64 b]) false).run Try.prog w = .ok (.bool (lk a b)) w := by
  have := h.look endT Try.underlying45 (boolZ w) hk false
  rw [hlk (a, b)] at this
  exact this
theorem flatB_one : (flatR encB).One 1 := ⟨fun h => by rw [h.1]; rfl, fun h u hu => by rw [h.1] at hu; rw [List.mem_singleton.1 hu]; rfl⟩
theorem flatI_one : (flatR encI).One 1 := ⟨fun h => by rw [h.1]; rfl, fun h u hu => by rw [h.1] at hu; rw [List.mem_singleton.1 hu]; rfl⟩
end N
end Go.Proofs.Ytnpogmhfdjmfdaa

/-
  The program's nets: small functions; a link set; a node born.
-/
namespace Go.Proofs.Ytnpogmhfdjmfdaa
open Go.RowKit Go.Sort
namespace N

theorem isNode_yes (w : World) (a : Int) (h : in6 a 0 4 = true) : Calls Try.prog 33 #[.int .i64 a] w fun e w' => e = .returned (.bool true) ∧ w = w' := by
  obtain ⟨h0, h1⟩ : 0 ≤ a ∧ a ≤ 4 := by simpa [in6] using h
  have h2 : a < 5 := by omega
  clear h h1
  go_enter Try.func33, Try.ntmps33
  go_wp2
  go_ret
  exact ⟨rfl, rfl⟩
theorem isNode_no (w : World) (a : Int) (h : in6 a 0 4 = false) : Calls Try.prog 33 #[.int .i64 a] w fun e w' => e = .returned (.bool false) ∧ w = w' := by
  have h' : ¬ (0 ≤ a ∧ a ≤ 4) := by simpa [in6] using h
  clear h
  by_cases h0 : 0 ≤ a
  · have h1 : decide (a < 5) = false := by simp; omega
    clear h'
    go_enter Try.func33, Try.ntmps33
    go_wp2
    go_ret
    exact ⟨rfl, rfl⟩
  · have h1 : decide (0 ≤ a) = false := by simp; omega
    clear h' h0
    go_enter Try.func33, Try.ntmps33
    go_wp2
    go_ret
    exact ⟨rfl, rfl⟩
def two (a b : Int) : Bool := (in6 a 0 4 && in6 b 0 4) && decide (a ≠ b)
theorem areTwo_at (w : World) (a b : Int) : Calls Try.prog 16 #[.int .i64 a, .int .i64 b] w fun e w' => e = .returned (.bool (two a b)) ∧ w = w' := by
  cases ga : in6 a 0 4 with
  | false =>
    have e1 : two a b = false := by unfold two; rw [ga]; rfl
    rw [e1]
    have G := Lib.hid ga
    clear ga e1
    go_enter Try.func16, Try.ntmps16
    go_wp2_with (go_at_call 33; (with_reducible refine (isNode_no _ a G.out).mono ?_); rintro e w' ⟨rfl, rfl⟩)
    go_ret
    exact ⟨rfl, rfl⟩
  | true =>
    have GA := Lib.hid ga
    cases gb : in6 b 0 4 with
    | false =>
      have e1 : two a b = false := by unfold two; rw [ga, gb]; rfl
      rw [e1]
      have GB := Lib.hid gb
      clear ga gb e1
      go_enter Try.func16, Try.ntmps16
      go_wp2_with (first | (go_at_call 33; (with_reducible refine (isNode_yes _ a GA.out).mono ?_); rintro e w' ⟨rfl, rfl⟩) | (go_at_call 33; (with_reducible refine (isNode_no _ b GB.out).mono ?_); rintro e w' ⟨rfl, rfl⟩))
      go_ret
      exact ⟨rfl, rfl⟩
    | true =>
      have GB := Lib.hid gb
      have e1 : two a b = decide (a ≠ b) := by unfold two; rw [ga, gb]; rfl
      rw [e1]
      clear ga gb e1
      go_enter Try.func16, Try.ntmps16
      go_wp2_with (first | (go_at_call 33; (with_reducible refine (isNode_yes _ a GA.out).mono ?_); rintro e w' ⟨rfl, rfl⟩) | (go_at_call 33; (with_reducible refine (isNode_yes _ b GB.out).mono ?_); rintro e w' ⟨rfl, rfl⟩))
      go_ret
      exact ⟨ret_bool (by by_cases q : a = b <;> simp [q]), rfl⟩
theorem endsAt_at (w : World) (p : Nat) (h : p < 25) : Calls Try.prog 34 #[.int .i64 p] w fun e w' => e = .returned (.agg #[.int .i64 ((p / 5 : Nat) : Int), .int .i64 ((p % 5 : Nat) : Int)]) ∧ Below w.heap.size w w' := by
  have h0 : (0 : Int) ≤ (p : Int) := by omega
  have h1 : (p : Int) < 25 := by omega
  have H := Lib.hid ((M.start w).alloc #[.int .i64 ((p : Int) / 5), .int .i64 ((p : Int) % 5)] 79)
  clear h
  go_enter Try.func34, Try.ntmps34
  go_wp2
  obtain ⟨c0, c1⟩ := H.out.cells2
  exact bodyPost_ret (v := .agg #[.int .i64 ((p : Int) / 5), .int .i64 ((p : Int) % 5)]) (by simp [results, Try.results34, go_sem, c0, c1]) rfl ⟨by simp, H.out.below⟩
theorem setLink_at {B L m : Nat} {w0 w : World} {l : List Ch} {ps : List (Option Nat)} {vw vp : Value} {g : Int × Int → Option Value} (h : M B w0 w (liveBox L ps m vw vp :: mapC EndOk endV m g :: l)) (h5 : ps.length = 5) (a b : Int) (u : Bool) (hk : EndOk (a, b)) :
    Calls Try.prog 17 #[.pointer (some ⟨L, 0, none⟩), .int .i64 a, .int .i64 b, .bool u] w fun e w' => e = .returned (.tuple #[]) ∧ M B w0 w' (liveBox L ps m vw vp :: mapC EndOk endV m (fun y => if y = (b, a) then some (.bool u) else if y = (a, b) then some (.bool u) else g y) :: l) := by
  have hk' : EndOk (b, a) := ⟨hk.2, hk.1⟩
  have K1 := Lib.hid hk
  have K2 := Lib.hid hk'
  have H := Lib.hid h.p1
  have H5 := Lib.hid h5
  have c5 := (h.restAt h5).1
  clear h hk hk' h5
  go_enter Try.func17, Try.ntmps17
  go_wp2_with (at_mapUpdate; go_loud (refine wpList_mset endT Try.underlying45 H.out K1.out rfl rfl rfl rfl rfl ?_))
  intro w1 h1 hs1
  have H1 := Lib.hid h1
  have c5' := (h1.p1.restAt H5.out).1
  clear h1 hs1 H c5
  go_wp2_with (at_mapUpdate; go_loud (refine wpList_mset endT Try.underlying45 H1.out K2.out rfl rfl rfl rfl rfl ?_))
  intro w2 h2 hs2
  have H2 := Lib.hid h2
  clear h2 hs2 c5'
  go_wp2
  go_end0
  exact ⟨rfl, H2.out.p1⟩
end N
end Go.Proofs.Ytnpogmhfdjmfdaa

/-
  The program's nets: a node born.
-/
namespace Go.Proofs.Ytnpogmhfdjmfdaa
open Go.RowKit Go.Sort
namespace N

def newNd (i born : Nat) : Nd := ⟨(born : Int), [⟨(i : Int), (born : Int), 0, newSm⟩], 0, if (i : Int) = 0 then 0 else 5, -1⟩
set_option maxRecDepth 100000 in
set_option maxHeartbeats 4000000 in
theorem bear_at {B L m : Nat} {w0 w : World} {l : List Ch} {ps : List (Option Nat)} {ns : List (Option Nd)} {vw vp : Value} {pst : List (List (List Int))} {rs : List (List Int)} {i : Nat}
    (h : M B w0 w (pastC vp pst :: liveBox L ps m vw vp :: optsC ps ns :: l)) (h5 : ps.length = 5) (n5 : ns.length = 5) (hi : i < 5) (hr : pst[i]? = some rs) (hl : rs.length ≤ 100) :
    Calls Try.prog 15 #[.pointer (some ⟨L, 0, none⟩), .int .i64 (i : Int)] w fun e w' => e = .returned (.tuple #[]) ∧ ∃ p, M B w0 w' (pastC vp (pst.set i (rs ++ [[]])) :: liveBox L (ps.set i (some p)) m vw vp :: optsC (ps.set i (some p)) (ns.set i (some (newNd i rs.length))) :: l) := by
  have hil : i < pst.length := (List.getElem?_eq_some_iff.1 hr).1
  obtain ⟨g, cap, ci, rfl, hc, h1⟩ := M.open rowsR_frame h hr
  obtain ⟨xr, cr, rfl⟩ : ∃ xr cr, ci = [.slice xr rs.length cr] := by
    obtain ⟨f, hf, _⟩ := h1.first
    obtain ⟨v, _, _, e, _⟩ := slcR_els hf
    subst e
    obtain ⟨y, c, q, _⟩ := slcR_value hf
    cases q
    exact ⟨_, _, rfl⟩
  have n0 : (0 : Int) ≤ (i : Int) := by omega
  have n1 : (i : Int) < 5 := by omega
  have n2 : (i : Int) < (pst.length : Int) := by omega
  obtain ⟨np, hnp⟩ : ∃ n, n = pst.length := ⟨_, rfl⟩
  obtain ⟨nr, hnr⟩ : ∃ n, n = rs.length := ⟨_, rfl⟩
  rw [← hnp] at n2
  have NR := Lib.hid hnr
  have HI := Lib.hid hil
  have H5 := Lib.hid h5
  have N5 := Lib.hid n5
  have HL := Lib.hid hl
  rw [← hnp, ← hnr] at h1
  have H := Lib.hid h1
  have c7 := (h1.p2.restAt h5).2.2
  have cr0 := h1.p1.hcell1 hil
  have C7 := Lib.hid c7
  have CR := Lib.hid cr0
  clear h h1 hr hc hil h5 n5 hl hnr
  rw [← hnp, ← NR.out]
  clear hnp
  go_enter Try.func15, Try.ntmps15
  go_wp2
  clear c7 cr0
  refine wp_region_plan 15 (.take 0 (.take 1 (.take 2 (.take 3 (.take 4 (.take 5 (.take 6 (.take 7 (.take 8 (.take 9 (.take 10 (.take 11 (.alt 12 (.alt 13 (.take 14 (.alt 15 .done .nomore)) .nomore) .nomore))))))))))))) (fun w' => w'.cell? ⟨L, 7, none⟩ = some (.slice (some ⟨g, 0, none⟩) np cap) ∧ w'.cell? ⟨g, i, none⟩ = some (.slice xr nr cr)) (by kernel_rfl) (by kernel_rfl) (fun _ _ _ _ _ h => h) ⟨C7.out, CR.out⟩ ?_
  clear C7 CR
  repeat (first | (refine plan_take (by rfl) (by rfl) ?_; apply Exists.intro; refine ⟨fun w' hw' => ?_, ?_⟩; (· ((try dsimp only at hw'); go_simp; (try with_reducible rfl))); simp only [Act.put, List.getElem_toArray, List.getElem_cons_succ, List.getElem_cons_zero, List.setIfInBounds_toArray, List.set_cons_zero, List.set_cons_succ]) | (refine plan_skip (by rfl) (by rfl) ?_; simp only [Act.put, List.getElem_toArray, List.getElem_cons_succ, List.getElem_cons_zero, List.setIfInBounds_toArray, List.set_cons_zero, List.set_cons_succ]))
  have h2 := ((H.out.drew.nil (flatR_frame encI) 3 1).p1).alloc #[.slice none 0 0] 22
  refine plan_last (by rfl) (fun K hK => ?_)
  go_simp
  refine hK _ _ (.inr ⟨(h2.p4.restAt H5.out).2.2, h2.p3.hcell1 HI.out⟩) ?_
  clear hK K
  try simp only [Act.put, List.getElem_toArray, List.getElem_cons_succ, List.getElem_cons_zero, List.setIfInBounds_toArray, List.set_cons_zero, List.set_cons_succ]
  refine plan_last (by rfl) (fun K hK => step_app rowS (slcR_one _ _ _) h2 (by rfl) (by rfl) (by rfl) (by rfl) (by have := HL.out; simp [maxLen]; omega) (by have := HL.out; omega) (N := nr + 1) (by rw [NR.out]) (fun y cy w2 h3 => ?_))
  refine hK _ _ (.inr ⟨(h3.p2.restAt H5.out).2.2, h3.p1.hcell1 HI.out⟩) ?_
  clear hK K
  try simp only [Act.put, List.getElem_toArray, List.getElem_cons_succ, List.getElem_cons_zero, List.setIfInBounds_toArray, List.set_cons_zero, List.set_cons_succ]
  repeat (first | (refine plan_take (by rfl) (by rfl) ?_; apply Exists.intro; refine ⟨fun w' hw' => ?_, ?_⟩; (· ((try dsimp only at hw'); go_simp; (try with_reducible rfl))); simp only [Act.put, List.getElem_toArray, List.getElem_cons_succ, List.getElem_cons_zero, List.setIfInBounds_toArray, List.set_cons_zero, List.set_cons_succ]) | (refine plan_skip (by rfl) (by rfl) ?_; simp only [Act.put, List.getElem_toArray, List.getElem_cons_succ, List.getElem_cons_zero, List.setIfInBounds_toArray, List.set_cons_zero, List.set_cons_succ]))
  have cz := h3.p1.hcell1 HI.out
  have fz := h3.p1.hfree i
  have H4 := Lib.hid ((h3.p1.hset1 HI.out (.slice y (nr + 1) cy)).p1.close HI.out)
  clear h2 h3 H
  refine plan_last (by rfl) (fun K hK => ?_)
  go_simp
  refine hK _ _ (.inl rfl) ?_
  clear hK K
  try simp only [Act.put, List.getElem_toArray, List.getElem_cons_succ, List.getElem_cons_zero, List.setIfInBounds_toArray, List.set_cons_zero, List.set_cons_succ]
  refine plan_done ?_
  clear cz fz
  obtain ⟨w3, hw3⟩ : ∃ w3, w3 = w2.setCell ⟨g, i, none⟩ (.slice y (nr + 1) cy) := ⟨_, rfl⟩
  rw [← hw3] at H4 ⊢
  clear hw3
  obtain ⟨po, hpo⟩ : ∃ po, ps[i]? = some po := ⟨_, List.getElem?_eq_getElem (by rw [H5.out]; omega)⟩
  obtain ⟨no, hno⟩ : ∃ no, ns[i]? = some no := ⟨_, List.getElem?_eq_getElem (by rw [N5.out]; omega)⟩
  have H5b := Lib.hid ((H4.out.p2.forget hpo hno).p2)
  clear H4 hpo hno
  rcases Nat.eq_zero_or_pos i with rfl | hz
  · skip
    go_wp2_with fail
    refine (imSumNew_at _).mono ?_
    rintro e w4 ⟨V, rfl, ho, hb'⟩
    have h6 := (H5b.out.sum hb' ho).alloc #[.int .i64 0, .int .i64 (nr : Int), .int .i64 0, .slice V.xr V.nr V.cr, .slice V.xf V.nf V.cf, .slice V.xt V.nt V.ct, .int .i64 newSm.lo, .int .i64 newSm.al, .slice V.xk V.nk V.ck, .int .i64 newSm.ka] 76
    have H6 := Lib.hid h6
    clear ho hb' h6 H5b
    go_wp2
    obtain ⟨w5, hw5⟩ : ∃ w5, w5 = w4.alloc (.cells #[.int .i64 0, .int .i64 (nr : Int), .int .i64 0, .slice V.xr V.nr V.cr, .slice V.xf V.nf V.cf, .slice V.xt V.nt V.ct, .int .i64 newSm.lo, .int .i64 newSm.al, .slice V.xk V.nk V.ck, .int .i64 newSm.ka] 76) := ⟨_, rfl⟩
    rw [← hw5] at H6 ⊢
    clear hw5
    generalize w4.heap.size = E at H6 ⊢
    refine wp_region_plan 99 (.take 0 (.take 1 (.take 2 (.take 3 (.take 5 (.take 8 (.take 9 (.alt 4 (.take 6 (.alt 7 (.take 10 (.alt 11 .done .nomore)) .nomore)) .nomore)))))))) (fun w' => w'.cell? ⟨E, 0, none⟩ = some (.int .i64 0) ∧ w'.cell? ⟨E, 1, none⟩ = some (.int .i64 (nr : Int)) ∧ w'.cell? ⟨E, 2, none⟩ = some (.int .i64 0) ∧ w'.cell? ⟨E, 3, none⟩ = some (.slice V.xr V.nr V.cr) ∧ w'.cell? ⟨E, 4, none⟩ = some (.slice V.xf V.nf V.cf) ∧ w'.cell? ⟨E, 5, none⟩ = some (.slice V.xt V.nt V.ct) ∧ w'.cell? ⟨E, 6, none⟩ = some (.int .i64 newSm.lo) ∧ w'.cell? ⟨E, 7, none⟩ = some (.int .i64 newSm.al) ∧ w'.cell? ⟨E, 8, none⟩ = some (.slice V.xk V.nk V.ck) ∧ w'.cell? ⟨E, 9, none⟩ = some (.int .i64 newSm.ka)) (by kernel_rfl) (by kernel_rfl) (fun _ _ _ _ _ h => h) H6.out.drew.cells10 ?_
    have H7 := Lib.hid H6.out.drew
    clear H6
    generalize w5.drew = w6 at H7 ⊢
    repeat (first | (refine plan_take (by rfl) (by rfl) ?_; apply Exists.intro; refine ⟨fun w' hw' => ?_, ?_⟩; (· ((try dsimp only at hw'); go_simp; (try with_reducible rfl))); simp only [Act.put, List.getElem_toArray, List.getElem_cons_succ, List.getElem_cons_zero, List.setIfInBounds_toArray, List.set_cons_zero, List.set_cons_succ]) | (refine plan_skip (by rfl) (by rfl) ?_; simp only [Act.put, List.getElem_toArray, List.getElem_cons_succ, List.getElem_cons_zero, List.setIfInBounds_toArray, List.set_cons_zero, List.set_cons_succ]))
    have h7 := ((H7.out.p1.entry 0 (nr : Int) 0).p1).alloc #[.int .i64 0, .int .i64 (nr : Int), .int .i64 0, .slice V.xr V.nr V.cr, .slice V.xf V.nf V.cf, .slice V.xt V.nt V.ct, .int .i64 newSm.lo, .int .i64 newSm.al, .slice V.xk V.nk V.ck, .int .i64 newSm.ka] 76
    clear H7
    refine plan_last (by rfl) (fun K hK => ?_)
    go_simp
    refine hK _ _ (.inr h7.p1.cells10) ?_
    clear hK K
    try simp only [Act.put, List.getElem_toArray, List.getElem_cons_succ, List.getElem_cons_zero, List.setIfInBounds_toArray, List.set_cons_zero, List.set_cons_succ]
    repeat (first | (refine plan_take (by rfl) (by rfl) ?_; apply Exists.intro; refine ⟨fun w' hw' => ?_, ?_⟩; (· ((try dsimp only at hw'); go_simp; (try with_reducible rfl))); simp only [Act.put, List.getElem_toArray, List.getElem_cons_succ, List.getElem_cons_zero, List.setIfInBounds_toArray, List.set_cons_zero, List.set_cons_succ]) | (refine plan_skip (by rfl) (by rfl) ?_; simp only [Act.put, List.getElem_toArray, List.getElem_cons_succ, List.getElem_cons_zero, List.setIfInBounds_toArray, List.set_cons_zero, List.set_cons_succ]))
    have h8 := (h7.p2.p1.one entryR_frame rfl).alloc #[.int .i64 (nr : Int), .slice (some ⟨w6.heap.size, 0, none⟩) 1 1, .int .i64 0, .int .i64 0, .int .i64 (-1)] 41
    simp only [World.size_alloc] at h8
    clear h7
    refine plan_last (by rfl) (fun K hK => ?_)
    go_simp
    refine hK _ _ (.inr h8.p2.cells10) ?_
    clear hK K
    try simp only [Act.put, List.getElem_toArray, List.getElem_cons_succ, List.getElem_cons_zero, List.setIfInBounds_toArray, List.set_cons_zero, List.set_cons_succ]
    repeat (first | (refine plan_take (by rfl) (by rfl) ?_; apply Exists.intro; refine ⟨fun w' hw' => ?_, ?_⟩; (· ((try dsimp only at hw'); go_simp; (try with_reducible rfl))); simp only [Act.put, List.getElem_toArray, List.getElem_cons_succ, List.getElem_cons_zero, List.setIfInBounds_toArray, List.set_cons_zero, List.set_cons_succ]) | (refine plan_skip (by rfl) (by rfl) ?_; simp only [Act.put, List.getElem_toArray, List.getElem_cons_succ, List.getElem_cons_zero, List.setIfInBounds_toArray, List.set_cons_zero, List.set_cons_succ]))
    obtain ⟨po, hpo⟩ : ∃ po, ps[0]? = some po := ⟨_, List.getElem?_eq_getElem (by rw [H5.out]; omega)⟩
    have cz := h8.p3.ptrAt hpo
    have fz := h8.p3.free 0
    have h9 := h8.p3.setPtr (i := 0) (by rw [H5.out]; omega) (some (w6.heap.size + 1))
    have S9 := Lib.hid h9.p3.cells10
    have E9 := Lib.hid (show newNd 0 nr = ⟨(nr : Int), [⟨0, (nr : Int), 0, newSm⟩], 0, 0, -1⟩ by rfl)
    have F := Lib.hid ((M.nodeBack (x := ⟨(nr : Int), [⟨0, (nr : Int), 0, newSm⟩], 0, 0, -1⟩) h9.p4.p3.p3 (by rw [H5.out]; omega) (by rw [N5.out]; omega)).p2.drop.p2.p2.p1)
    clear h8 h9 hpo
    refine plan_last (by rfl) (fun K hK => ?_)
    go_simp
    refine hK _ _ (.inr S9.out) ?_
    clear hK K
    try simp only [Act.put, List.getElem_toArray, List.getElem_cons_succ, List.getElem_cons_zero, List.setIfInBounds_toArray, List.set_cons_zero, List.set_cons_succ]
    refine plan_done ?_
    clear cz fz
    go_wp2
    go_end0
    refine ⟨rfl, w6.heap.size + 1, ?_⟩
    rw [E9.out]
    exact F.out
  · have hb : ((i : Int) == 0) = false := by simp; omega
    go_wp2_with fail
    refine (imSumNew_at _).mono ?_
    rintro e w4 ⟨V, rfl, ho, hb'⟩
    have h6 := (H5b.out.sum hb' ho).alloc #[.int .i64 (i : Int), .int .i64 (nr : Int), .int .i64 0, .slice V.xr V.nr V.cr, .slice V.xf V.nf V.cf, .slice V.xt V.nt V.ct, .int .i64 newSm.lo, .int .i64 newSm.al, .slice V.xk V.nk V.ck, .int .i64 newSm.ka] 76
    have H6 := Lib.hid h6
    clear ho hb' h6 H5b
    go_wp2
    obtain ⟨w5, hw5⟩ : ∃ w5, w5 = w4.alloc (.cells #[.int .i64 (i : Int), .int .i64 (nr : Int), .int .i64 0, .slice V.xr V.nr V.cr, .slice V.xf V.nf V.cf, .slice V.xt V.nt V.ct, .int .i64 newSm.lo, .int .i64 newSm.al, .slice V.xk V.nk V.ck, .int .i64 newSm.ka] 76) := ⟨_, rfl⟩
    rw [← hw5] at H6 ⊢
    clear hw5
    generalize w4.heap.size = E at H6 ⊢
    refine wp_region_plan 99 (.take 0 (.take 1 (.take 2 (.take 3 (.take 5 (.take 8 (.take 9 (.alt 4 (.take 6 (.alt 7 (.take 10 (.alt 11 .done .nomore)) .nomore)) .nomore)))))))) (fun w' => w'.cell? ⟨E, 0, none⟩ = some (.int .i64 (i : Int)) ∧ w'.cell? ⟨E, 1, none⟩ = some (.int .i64 (nr : Int)) ∧ w'.cell? ⟨E, 2, none⟩ = some (.int .i64 0) ∧ w'.cell? ⟨E, 3, none⟩ = some (.slice V.xr V.nr V.cr) ∧ w'.cell? ⟨E, 4, none⟩ = some (.slice V.xf V.nf V.cf) ∧ w'.cell? ⟨E, 5, none⟩ = some (.slice V.xt V.nt V.ct) ∧ w'.cell? ⟨E, 6, none⟩ = some (.int .i64 newSm.lo) ∧ w'.cell? ⟨E, 7, none⟩ = some (.int .i64 newSm.al) ∧ w'.cell? ⟨E, 8, none⟩ = some (.slice V.xk V.nk V.ck) ∧ w'.cell? ⟨E, 9, none⟩ = some (.int .i64 newSm.ka)) (by kernel_rfl) (by kernel_rfl) (fun _ _ _ _ _ h => h) H6.out.drew.cells10 ?_
    have H7 := Lib.hid H6.out.drew
    clear H6
    generalize w5.drew = w6 at H7 ⊢
    repeat (first | (refine plan_take (by rfl) (by rfl) ?_; apply Exists.intro; refine ⟨fun w' hw' => ?_, ?_⟩; (· ((try dsimp only at hw'); go_simp; (try with_reducible rfl))); simp only [Act.put, List.getElem_toArray, List.getElem_cons_succ, List.getElem_cons_zero, List.setIfInBounds_toArray, List.set_cons_zero, List.set_cons_succ]) | (refine plan_skip (by rfl) (by rfl) ?_; simp only [Act.put, List.getElem_toArray, List.getElem_cons_succ, List.getElem_cons_zero, List.setIfInBounds_toArray, List.set_cons_zero, List.set_cons_succ]))
    have h7 := ((H7.out.p1.entry (i : Int) (nr : Int) 0).p1).alloc #[.int .i64 (i : Int), .int .i64 (nr : Int), .int .i64 0, .slice V.xr V.nr V.cr, .slice V.xf V.nf V.cf, .slice V.xt V.nt V.ct, .int .i64 newSm.lo, .int .i64 newSm.al, .slice V.xk V.nk V.ck, .int .i64 newSm.ka] 76
    clear H7
    refine plan_last (by rfl) (fun K hK => ?_)
    go_simp
    refine hK _ _ (.inr h7.p1.cells10) ?_
    clear hK K
    try simp only [Act.put, List.getElem_toArray, List.getElem_cons_succ, List.getElem_cons_zero, List.setIfInBounds_toArray, List.set_cons_zero, List.set_cons_succ]
    repeat (first | (refine plan_take (by rfl) (by rfl) ?_; apply Exists.intro; refine ⟨fun w' hw' => ?_, ?_⟩; (· ((try dsimp only at hw'); go_simp; (try with_reducible rfl))); simp only [Act.put, List.getElem_toArray, List.getElem_cons_succ, List.getElem_cons_zero, List.setIfInBounds_toArray, List.set_cons_zero, List.set_cons_succ]) | (refine plan_skip (by rfl) (by rfl) ?_; simp only [Act.put, List.getElem_toArray, List.getElem_cons_succ, List.getElem_cons_zero, List.setIfInBounds_toArray, List.set_cons_zero, List.set_cons_succ]))
    have h8 := (h7.p2.p1.one entryR_frame rfl).alloc #[.int .i64 (nr : Int), .slice (some ⟨w6.heap.size, 0, none⟩) 1 1, .int .i64 0, .int .i64 5, .int .i64 (-1)] 41
    simp only [World.size_alloc] at h8
    clear h7
    refine plan_last (by rfl) (fun K hK => ?_)
    go_simp
    refine hK _ _ (.inr h8.p2.cells10) ?_
    clear hK K
    try simp only [Act.put, List.getElem_toArray, List.getElem_cons_succ, List.getElem_cons_zero, List.setIfInBounds_toArray, List.set_cons_zero, List.set_cons_succ]
    repeat (first | (refine plan_take (by rfl) (by rfl) ?_; apply Exists.intro; refine ⟨fun w' hw' => ?_, ?_⟩; (· ((try dsimp only at hw'); go_simp; (try with_reducible rfl))); simp only [Act.put, List.getElem_toArray, List.getElem_cons_succ, List.getElem_cons_zero, List.setIfInBounds_toArray, List.set_cons_zero, List.set_cons_succ]) | (refine plan_skip (by rfl) (by rfl) ?_; simp only [Act.put, List.getElem_toArray, List.getElem_cons_succ, List.getElem_cons_zero, List.setIfInBounds_toArray, List.set_cons_zero, List.set_cons_succ]))
    obtain ⟨po, hpo⟩ : ∃ po, ps[i]? = some po := ⟨_, List.getElem?_eq_getElem (by rw [H5.out]; omega)⟩
    have cz := h8.p3.ptrAt hpo
    have fz := h8.p3.free i
    have h9 := h8.p3.setPtr (i := i) (by rw [H5.out]; omega) (some (w6.heap.size + 1))
    have S9 := Lib.hid h9.p3.cells10
    have E9 := Lib.hid (show newNd i nr = ⟨(nr : Int), [⟨(i : Int), (nr : Int), 0, newSm⟩], 0, 5, -1⟩ by unfold newNd; rw [if_neg (by omega)])
    have F := Lib.hid ((M.nodeBack (x := ⟨(nr : Int), [⟨(i : Int), (nr : Int), 0, newSm⟩], 0, 5, -1⟩) h9.p4.p3.p3 (by rw [H5.out]; omega) (by rw [N5.out]; omega)).p2.drop.p2.p2.p1)
    clear h8 h9 hpo
    refine plan_last (by rfl) (fun K hK => ?_)
    go_simp
    refine hK _ _ (.inr S9.out) ?_
    clear hK K
    try simp only [Act.put, List.getElem_toArray, List.getElem_cons_succ, List.getElem_cons_zero, List.setIfInBounds_toArray, List.set_cons_zero, List.set_cons_succ]
    refine plan_done ?_
    clear cz fz
    go_wp2
    go_end0
    refine ⟨rfl, w6.heap.size + 1, ?_⟩
    rw [E9.out]
    exact F.out
end N
end Go.Proofs.Ytnpogmhfdjmfdaa

/-
  The program's nets: the net as it is then.
-/
namespace Go.Proofs.Ytnpogmhfdjmfdaa
open Go.RowKit Go.Sort
namespace N

theorem five {α : Type} {l : List α} (h : l.length = 5) : ∃ a b c d e, l = [a, b, c, d, e] := by
  match l, h with
  | [a, b, c, d, e], _ => exact ⟨a, b, c, d, e, rfl⟩
def linkL (lk : Int → Int → Bool) (k : Nat) : List Bool := (List.range k).map fun p : Nat => lk ((p / 5 : Nat) : Int) ((p % 5 : Nat) : Int)
set_option maxRecDepth 100000 in
set_option maxHeartbeats 8000000 in
theorem imNet_at {B L m : Nat} {w0 w : World} {l : List Ch} {qs : List Nat} {nds : List Nd} {vw vp : Value} {ws : List Wd} {pst : List (List (List Int))} {g : Int × Int → Option Value} {lk : Int → Int → Bool}
    (h : M B w0 w (liveBox L (qs.map some) m vw vp :: mapC EndOk endV m g :: optsC (qs.map some) (nds.map some) :: wordsC vw ws :: pastC vp pst :: l)) (q5 : qs.length = 5) (n5 : nds.length = 5) (hlk : LinksAre g lk) :
    Calls Try.prog 18 #[.pointer (some ⟨L, 0, none⟩)] w fun e w' => ∃ v1 v2, e = .returned (.agg #[v1, v2, vw, vp]) ∧ M B w0 w' (nodesC v1 nds :: linksC v2 (linkL lk 25) :: wordsC vw ws :: pastC vp pst :: l) := by
  obtain ⟨xw, cw, rfl⟩ : ∃ x c, vw = .slice x ws.length c := by obtain ⟨f, hf, _⟩ := h.p3.first; obtain ⟨_, _, e, _⟩ := slcR_value hf; exact ⟨_, _, e⟩
  obtain ⟨xp, cp, rfl⟩ : ∃ x c, vp = .slice x pst.length c := by obtain ⟨f, hf, _⟩ := h.p4.first; obtain ⟨_, _, e, _⟩ := slcR_value hf; exact ⟨_, _, e⟩
  obtain ⟨p0, p1, p2, p3, p4, rfl⟩ := five q5
  obtain ⟨n0, n1, n2, n3, n4, rfl⟩ := five n5
  generalize ws.length = nw at h ⊢
  generalize pst.length = np at h ⊢
  simp only [List.map_cons, List.map_nil] at h
  have HK := Lib.hid hlk
  clear q5 n5 hlk
  have h0 := (h.alloc #[.slice none 0 0, .slice none 0 0, .slice none 0 0, .slice none 0 0] 28).drew
  have H := Lib.hid h0.p1
  clear h h0
  go_enter Try.func18, Try.ntmps18
  go_wp2
  generalize w.heap.size = R at H ⊢
  refine wp_region_plan 10 (.take 0 (.take 1 (.take 2 (.take 3 (.take 4 (.take 5 (.take 6 (.take 7 (.take 8 (.alt 9 (.alt 10 .done .nomore) .nomore)))))))))) (fun w' => w'.cell? ⟨L, 6, none⟩ = some (.slice xw nw cw) ∧ w'.cell? ⟨L, 7, none⟩ = some (.slice xp np cp)) (by kernel_rfl) (by kernel_rfl) (fun _ _ _ _ _ h => h) (H.out.restAt rfl).2 ?_
  obtain ⟨w1, hw1⟩ : ∃ w1, w1 = (w.alloc (.cells #[.slice none 0 0, .slice none 0 0, .slice none 0 0, .slice none 0 0] 28)).drew := ⟨_, rfl⟩
  rw [← hw1] at H ⊢
  clear hw1
  repeat (first | (refine plan_take (by rfl) (by rfl) ?_; apply Exists.intro; refine ⟨fun w' hw' => ?_, ?_⟩; (· ((try dsimp only at hw'); go_simp; (try with_reducible rfl))); simp only [Act.put, List.getElem_toArray, List.getElem_cons_succ, List.getElem_cons_zero, List.setIfInBounds_toArray, List.set_cons_zero, List.set_cons_succ]) | (refine plan_skip (by rfl) (by rfl) ?_; simp only [Act.put, List.getElem_toArray, List.getElem_cons_succ, List.getElem_cons_zero, List.setIfInBounds_toArray, List.set_cons_zero, List.set_cons_succ]))
  have h1 := H.out.alloc #[.slice none 0 0, .slice none 0 0, .slice none 0 0, .slice none 0 0] 28
  refine plan_last (by rfl) (fun K hK => ?_)
  go_simp
  refine hK _ _ (.inr (h1.p1.restAt rfl).2) ?_
  clear hK K
  try simp only [Act.put, List.getElem_toArray, List.getElem_cons_succ, List.getElem_cons_zero, List.setIfInBounds_toArray, List.set_cons_zero, List.set_cons_succ]
  have H2 := Lib.hid (H.out.alloc #[.slice none 0 0, .slice none 0 0, .slice xw nw cw, .slice xp np cp] 28)
  obtain ⟨c0, c1, c2, c3⟩ := h1.cells4
  have cf := h1.free
  clear h1 H
  refine plan_last (by rfl) (fun K hK => ?_)
  go_simp
  refine hK _ _ (.inl rfl) ?_
  clear hK K
  try simp only [Act.put, List.getElem_toArray, List.getElem_cons_succ, List.getElem_cons_zero, List.setIfInBounds_toArray, List.set_cons_zero, List.set_cons_succ]
  refine plan_done ?_
  clear c0 c1 c2 c3 cf
  obtain ⟨w2, hw2⟩ : ∃ w2, w2 = w1.alloc (.cells #[.slice none 0 0, .slice none 0 0, .slice xw nw cw, .slice xp np cp] 28) := ⟨_, rfl⟩
  rw [← hw2] at H2 ⊢
  clear hw2
  generalize w1.heap.size = N1 at H2 ⊢
  have z0 := H2.out.p1.ptrAt (i := 0) rfl
  have z1 := H2.out.p1.ptrAt (i := 1) rfl
  have z2 := H2.out.p1.ptrAt (i := 2) rfl
  have z3 := H2.out.p1.ptrAt (i := 3) rfl
  have z4 := H2.out.p1.ptrAt (i := 4) rfl
  simp only [ptr, Option.map_some] at z0 z1 z2 z3 z4
  go_wp2
  clear z0 z1 z2 z3 z4
  go_loopw [20] (fun i wr => ∃ (k : Nat) (xn : Option Addr) (cn : Nat), i = .int .i64 (k : Int) ∧ k ≤ 5 ∧ M B w0 wr (nodesC (.slice xn k cn) ([n0, n1, n2, n3, n4].take k) :: optsC (List.replicate k none ++ [some p0, some p1, some p2, some p3, some p4].drop k) (List.replicate k none ++ [some n0, some n1, some n2, some n3, some n4].drop k) :: boxC N1 28 #[.slice xn k cn, .slice none 0 0, .slice xw nw cw, .slice xp np cp] :: liveBox L [some p0, some p1, some p2, some p3, some p4] m (.slice xw nw cw) (.slice xp np cp) :: boxC R 28 #[.slice none 0 0, .slice none 0 0, .slice none 0 0, .slice none 0 0] :: mapC EndOk endV m g :: wordsC (.slice xw nw cw) ws :: pastC (.slice xp np cp) pst :: l)) (fun i _ => 5 - (intOf i).toNat)
  case atStart => exact ⟨0, none, 0, rfl, Nat.zero_le _, M.nil (nodeR_frame (T := TY)) 41 5 H2.out.p4⟩
  case round =>
    clear H2
    obtain ⟨k, xn, cn, rfl, hk, h⟩ := hrel
    have H := Lib.hid h
    clear h
    by_cases hk5 : k < 5
    · obtain ⟨pk, nk, hpk, hnk, hpk', hnk', hp2, hn2, hn3⟩ : ∃ (pk : Nat) (nk : Nd), [p0, p1, p2, p3, p4][k]? = some pk ∧ [n0, n1, n2, n3, n4][k]? = some nk ∧ (List.replicate k none ++ [some p0, some p1, some p2, some p3, some p4].drop k)[k]? = some (some pk) ∧ (List.replicate k none ++ [some n0, some n1, some n2, some n3, some n4].drop k)[k]? = some (some nk) ∧ (List.replicate k none ++ [some p0, some p1, some p2, some p3, some p4].drop k).set k none = List.replicate (k + 1) none ++ [some p0, some p1, some p2, some p3, some p4].drop (k + 1) ∧ (List.replicate k none ++ [some n0, some n1, some n2, some n3, some n4].drop k).set k none = List.replicate (k + 1) none ++ [some n0, some n1, some n2, some n3, some n4].drop (k + 1) ∧ [n0, n1, n2, n3, n4].take (k + 1) = [n0, n1, n2, n3, n4].take k ++ [nk] := by
        match k, hk5 with
        | 0, _ => exact ⟨p0, n0, rfl, rfl, rfl, rfl, rfl, rfl, rfl⟩
        | 1, _ => exact ⟨p1, n1, rfl, rfl, rfl, rfl, rfl, rfl, rfl⟩
        | 2, _ => exact ⟨p2, n2, rfl, rfl, rfl, rfl, rfl, rfl, rfl⟩
        | 3, _ => exact ⟨p3, n3, rfl, rfl, rfl, rfl, rfl, rfl, rfl⟩
        | 4, _ => exact ⟨p4, n4, rfl, rfl, rfl, rfl, rfl, rfl, rfl⟩
      obtain ⟨v, hv⟩ := H.out.p1.nodeAt hpk' hnk'
      rw [hp2, hn2] at hv
      have HV := Lib.hid hv
      have HN3 := Lib.hid hn3
      have IX : Hid ((Instr.index 47 (.agg #[.pointer (some ⟨p0, 0, none⟩), .pointer (some ⟨p1, 0, none⟩), .pointer (some ⟨p2, 0, none⟩), .pointer (some ⟨p3, 0, none⟩), .pointer (some ⟨p4, 0, none⟩)]) (.int .i64 (k : Int))).run Try.prog wr = .ok (.pointer (some ⟨pk, 0, none⟩)) wr) := by
        unfold Hid Instr.index
        match k, hk5, hpk with
        | 0, _, h => cases h; simp [asIntOf, Try.underlying47, go_sem]
        | 1, _, h => cases h; simp [asIntOf, Try.underlying47, go_sem]
        | 2, _, h => cases h; simp [asIntOf, Try.underlying47, go_sem]
        | 3, _, h => cases h; simp [asIntOf, Try.underlying47, go_sem]
        | 4, _, h => cases h; simp [asIntOf, Try.underlying47, go_sem]
      clear hv hn3 hp2 hn2 hpk' hnk' hnk hpk
      have ix := IX.out
      go_wp2
      clear ix IX
      obtain ⟨xv, nv, cv, rfl⟩ : ∃ x n c, v = .slice x n c := by obtain ⟨f, hf, _⟩ := HV.out.p1.first; obtain ⟨_, _, e, _⟩ := slcR_value hf; exact ⟨_, _, _, e⟩
      have HW := Lib.hid HV.out.drew
      clear HV H
      refine wp_region_plan 8 (.take 0 (.take 1 (.take 2 (.take 3 (.take 4 (.alt 5 (.alt 6 (.take 7 (.alt 8 .done .nomore)) .nomore) .nomore)))))) (fun w' => w'.cell? ⟨N1, 0, none⟩ = some (.slice xn k cn) ∧ w'.cell? ⟨pk, 0, none⟩ = some (.int .i64 nk.born) ∧ w'.cell? ⟨pk, 1, none⟩ = some (.slice xv nv cv) ∧ w'.cell? ⟨pk, 2, none⟩ = some (.int .i64 nk.beacon) ∧ w'.cell? ⟨pk, 3, none⟩ = some (.int .i64 nk.level) ∧ w'.cell? ⟨pk, 4, none⟩ = some (.int .i64 nk.up)) (by kernel_rfl) (by kernel_rfl) (fun _ _ _ _ _ h => h) ⟨HW.out.p4.cell rfl, HW.out.cells5⟩ ?_
      generalize wr.drew = w3 at HW ⊢
      repeat (first | (refine plan_take (by rfl) (by rfl) ?_; apply Exists.intro; refine ⟨fun w' hw' => ?_, ?_⟩; (· ((try dsimp only at hw'); go_simp; (try with_reducible rfl))); simp only [Act.put, List.getElem_toArray, List.getElem_cons_succ, List.getElem_cons_zero, List.setIfInBounds_toArray, List.set_cons_zero, List.set_cons_succ]) | (refine plan_skip (by rfl) (by rfl) ?_; simp only [Act.put, List.getElem_toArray, List.getElem_cons_succ, List.getElem_cons_zero, List.setIfInBounds_toArray, List.set_cons_zero, List.set_cons_succ]))
      have h1 := ((HW.out.p1.node nk.born nk.beacon nk.level nk.up).p3).alloc #[.int .i64 nk.born, .slice xv nv cv, .int .i64 nk.beacon, .int .i64 nk.level, .int .i64 nk.up] 41
      clear HW
      refine plan_last (by rfl) (fun K hK => ?_)
      go_simp
      refine hK _ _ (.inr ⟨h1.p5.cell rfl, h1.p3.cells5⟩) ?_
      clear hK K
      try simp only [Act.put, List.getElem_toArray, List.getElem_cons_succ, List.getElem_cons_zero, List.setIfInBounds_toArray, List.set_cons_zero, List.set_cons_succ]
      refine plan_last (by rfl) (fun K hK => step_app nodeS (nodeR_one (T := TY)) h1 (by rfl) (by rfl) (by rfl) (by rfl) (by simp [maxLen]; omega) (by simp; omega) (N := k + 1) (by simp; omega) (fun y cy w4 h2 => ?_))
      refine hK _ _ (.inr ⟨h2.p3.cell rfl, h2.p1.cells5⟩) ?_
      clear hK K
      try simp only [Act.put, List.getElem_toArray, List.getElem_cons_succ, List.getElem_cons_zero, List.setIfInBounds_toArray, List.set_cons_zero, List.set_cons_succ]
      repeat (first | (refine plan_take (by rfl) (by rfl) ?_; apply Exists.intro; refine ⟨fun w' hw' => ?_, ?_⟩; (· ((try dsimp only at hw'); go_simp; (try with_reducible rfl))); simp only [Act.put, List.getElem_toArray, List.getElem_cons_succ, List.getElem_cons_zero, List.setIfInBounds_toArray, List.set_cons_zero, List.set_cons_succ]) | (refine plan_skip (by rfl) (by rfl) ?_; simp only [Act.put, List.getElem_toArray, List.getElem_cons_succ, List.getElem_cons_zero, List.setIfInBounds_toArray, List.set_cons_zero, List.set_cons_succ]))
      obtain ⟨c0, c1, c2, c3⟩ := h2.p3.cells4
      have cf := h2.p3.free
      have h3 := h2.p3.set (i := 0) (.slice y (k + 1) cy)
      simp only [List.setIfInBounds_toArray, List.set_cons_zero, List.set_cons_succ] at h3
      have F := Lib.hid h3.p2.drop.p2.p2
      clear h1 h2 h3
      refine plan_last (by rfl) (fun K hK => ?_)
      go_simp
      refine hK _ _ (.inl rfl) ?_
      clear hK K
      try simp only [Act.put, List.getElem_toArray, List.getElem_cons_succ, List.getElem_cons_zero, List.setIfInBounds_toArray, List.set_cons_zero, List.set_cons_succ]
      refine plan_done ?_
      clear c0 c1 c2 c3 cf
      go_wp2
      go_roundw
      case rel =>
        refine ⟨k + 1, y, cy, by go_num, hk5, ?_⟩
        rw [HN3.out]
        exact F.out
      case measure => simp [intOf]; omega
    · obtain rfl : k = 5 := by omega
      clear hk hk5
      simp only [Int.cast_ofNat_Int]
      go_wp2
      go_loopw [32] (fun i wr => ∃ (k : Nat) (xl : Option Addr) (cl : Nat), i = .int .i64 (k : Int) ∧ k ≤ 25 ∧ M B w0 wr (linksC (.slice xl k cl) (linkL lk k) :: boxC N1 28 #[.slice xn 5 cn, .slice xl k cl, .slice xw nw cw, .slice xp np cp] :: liveBox L [some p0, some p1, some p2, some p3, some p4] m (.slice xw nw cw) (.slice xp np cp) :: boxC R 28 #[.slice none 0 0, .slice none 0 0, .slice none 0 0, .slice none 0 0] :: mapC EndOk endV m g :: nodesC (.slice xn 5 cn) [n0, n1, n2, n3, n4] :: wordsC (.slice xw nw cw) ws :: pastC (.slice xp np cp) pst :: l)) (fun i _ => 25 - (intOf i).toNat)
      case atStart => exact ⟨0, none, 0, rfl, Nat.zero_le _, M.nil (flatR_frame encB) 4 1 (H.out.p1.drop.p4.p4.p4.p4)⟩
      case round =>
        clear H
        obtain ⟨k, xl, cl, rfl, hk, h⟩ := hrel
        have H := Lib.hid h
        clear h
        by_cases hk5 : k < 25
        · have KE := Lib.hid (fun W => endsAt_at W k hk5)
          have n0' : (0 : Int) ≤ (k : Int) := by omega
          have EO := Lib.hid (show EndOk ((k : Int) / 5, (k : Int) % 5) from ⟨⟨by simp; omega, by simp; omega⟩, ⟨by simp; omega, by simp; omega⟩⟩)
          have HW := Lib.hid H.out.drew
          obtain ⟨bk, hbk⟩ : ∃ bk, bk = lk ((k : Int) / 5) ((k : Int) % 5) := ⟨_, rfl⟩
          have LL := Lib.hid (fun (W : World) (l' : List Ch) (h : M B w0 W (mapC EndOk endV m g :: l')) => show (Instr.lookup 45 (.map (some m)) (.agg #[.int .i64 ((k : Int) / 5), .int .i64 ((k : Int) % 5)]) false).run Try.prog W = .ok (.bool bk) W by rw [hbk]; exact look_link h HK.out _ _ EO.out)
          have HB := Lib.hid (show bk = lk ((k / 5 : Nat) : Int) ((k % 5 : Nat) : Int) from hbk)
          clear hbk EO H
          go_wp2
          refine wp_region_plan 12 (.take 0 (.take 1 (.take 2 (.take 3 (.take 4 (.take 5 (.take 6 (.alt 7 (.take 8 (.alt 9 (.alt 10 (.take 11 (.alt 12 .done .nomore)) .nomore) .nomore)) .nomore)))))))) (fun w' => w'.cell? ⟨N1, 1, none⟩ = some (.slice xl k cl) ∧ w'.cell? ⟨L, 5, none⟩ = some (.map (some m)) ∧ (Instr.lookup 45 (.map (some m)) (.agg #[.int .i64 ((k : Int) / 5), .int .i64 ((k : Int) % 5)]) false).run Try.prog w' = .ok (.bool bk) w') (by kernel_rfl) (by kernel_rfl) (fun _ _ _ _ _ h => h) ⟨HW.out.p1.cell rfl, (HW.out.p2.restAt rfl).1, LL.out _ _ HW.out.p4⟩ ?_
          generalize wr.drew = w3 at HW ⊢
          repeat (first | (refine plan_take (by rfl) (by rfl) ?_; apply Exists.intro; refine ⟨fun w' hw' => ?_, ?_⟩; (· ((try dsimp only at hw'); go_simp; (try with_reducible rfl))); simp only [Act.put, List.getElem_toArray, List.getElem_cons_succ, List.getElem_cons_zero, List.setIfInBounds_toArray, List.set_cons_zero, List.set_cons_succ]) | (refine plan_skip (by rfl) (by rfl) ?_; simp only [Act.put, List.getElem_toArray, List.getElem_cons_succ, List.getElem_cons_zero, List.setIfInBounds_toArray, List.set_cons_zero, List.set_cons_succ]))
          refine plan_last (by rfl) (fun K hK => ?_)
          go_simp
          refine (KE.out _).mono ?_
          rintro e w4 ⟨rfl, hb⟩
          have h1 := HW.out.later hb
          clear HW hb
          refine hK _ _ (.inr ⟨h1.p1.cell rfl, (h1.p2.restAt rfl).1, LL.out _ _ h1.p4⟩) ?_
          clear hK K
          try simp only [Act.put, List.getElem_toArray, List.getElem_cons_succ, List.getElem_cons_zero, List.setIfInBounds_toArray, List.set_cons_zero, List.set_cons_succ]
          repeat (first | (refine plan_take (by rfl) (by rfl) ?_; apply Exists.intro; refine ⟨fun w' hw' => ?_, ?_⟩; (· ((try dsimp only at hw'); go_simp; (try with_reducible rfl))); simp only [Act.put, List.getElem_toArray, List.getElem_cons_succ, List.getElem_cons_zero, List.setIfInBounds_toArray, List.set_cons_zero, List.set_cons_succ]) | (refine plan_skip (by rfl) (by rfl) ?_; simp only [Act.put, List.getElem_toArray, List.getElem_cons_succ, List.getElem_cons_zero, List.setIfInBounds_toArray, List.set_cons_zero, List.set_cons_succ]))
          have h2 := ((M.flat encB bk h1).p1).alloc #[.bool bk] 4
          clear h1
          refine plan_last (by rfl) (fun K hK => ?_)
          go_simp
          refine hK _ _ (.inr ⟨h2.p3.cell rfl, (h2.p4.restAt rfl).1, LL.out _ _ h2.p6⟩) ?_
          clear hK K
          try simp only [Act.put, List.getElem_toArray, List.getElem_cons_succ, List.getElem_cons_zero, List.setIfInBounds_toArray, List.set_cons_zero, List.set_cons_succ]
          refine plan_last (by rfl) (fun K hK => step_app linkS flatB_one h2 (by rfl) (by rfl) (by rfl) (by rfl) (by simp [maxLen, linkL]; omega) (by simp [linkL]; omega) (N := k + 1) (by simp [linkL]) (fun y cy w5 h3 => ?_))
          refine hK _ _ (.inr ⟨h3.p1.cell rfl, (h3.p2.restAt rfl).1, LL.out _ _ h3.p4⟩) ?_
          clear hK K
          try simp only [Act.put, List.getElem_toArray, List.getElem_cons_succ, List.getElem_cons_zero, List.setIfInBounds_toArray, List.set_cons_zero, List.set_cons_succ]
          repeat (first | (refine plan_take (by rfl) (by rfl) ?_; apply Exists.intro; refine ⟨fun w' hw' => ?_, ?_⟩; (· ((try dsimp only at hw'); go_simp; (try with_reducible rfl))); simp only [Act.put, List.getElem_toArray, List.getElem_cons_succ, List.getElem_cons_zero, List.setIfInBounds_toArray, List.set_cons_zero, List.set_cons_succ]) | (refine plan_skip (by rfl) (by rfl) ?_; simp only [Act.put, List.getElem_toArray, List.getElem_cons_succ, List.getElem_cons_zero, List.setIfInBounds_toArray, List.set_cons_zero, List.set_cons_succ]))
          obtain ⟨c0, c1, c2, c3⟩ := h3.p1.cells4
          have cf := h3.p1.free
          have h4 := h3.p1.set (i := 1) (.slice y (k + 1) cy)
          simp only [List.setIfInBounds_toArray, List.set_cons_zero, List.set_cons_succ] at h4
          have F := Lib.hid h4.p1
          clear h2 h3 h4
          refine plan_last (by rfl) (fun K hK => ?_)
          go_simp
          refine hK _ _ (.inl rfl) ?_
          clear hK K
          try simp only [Act.put, List.getElem_toArray, List.getElem_cons_succ, List.getElem_cons_zero, List.setIfInBounds_toArray, List.set_cons_zero, List.set_cons_succ]
          refine plan_done ?_
          clear c0 c1 c2 c3 cf
          go_wp2
          go_roundw
          case rel =>
            refine ⟨k + 1, y, cy, by go_num, hk5, ?_⟩
            unfold linkL
            rw [List.range_succ, List.map_append]
            have e := F.out
            rw [HB.out] at e
            exact e
          case measure => simp [intOf]; omega
        · obtain rfl : k = 25 := by omega
          obtain ⟨c0, c1, c2, c3⟩ := H.out.p1.cells4
          obtain ⟨d0, d1, d2, d3⟩ := H.out.p3.cells4
          have df := H.out.p3.free
          have F := Lib.hid (H.out.p3.set4 (.slice xn 5 cn) (.slice xl 25 cl) (.slice xw nw cw) (.slice xp np cp))
          clear H
          go_wp2
          obtain ⟨e0, e1, e2, e3⟩ := F.out.cells4
          (try simp only [Exit.inBlock, Exit.then])
          refine bodyPost_ret (v := .agg #[.slice xn 5 cn, .slice xl 25 cl, .slice xw nw cw, .slice xp np cp]) (by simp [results, Try.results18, go_sem, e0, e1, e2, e3]) rfl ?_
          exact ⟨_, _, rfl, F.out.drop.p1.drop.p1.drop.p1.drop.p1⟩
end N
end Go.Proofs.Ytnpogmhfdjmfdaa

/-
  The program's NetNew.
-/
namespace Go.Proofs.Ytnpogmhfdjmfdaa
open Go.RowKit Go.Sort
namespace N
def lenV : Value → Nat
  | .slice _ n _ => n
  | _ => 0
/-- Behind the first two of what is read. -/
theorem ints_drop2 {w : World} {b o n c : Nat} {ka kb : Int} {ks : List Int} (h : Ints w (.slice (some ⟨b, o, none⟩) n c) (ka :: kb :: ks)) : Ints w (.slice (if c = 2 then some ⟨b, o, none⟩ else some ⟨b, o + 2, none⟩) (n - 2) (c - 2)) ks := by
  rcases h with ⟨e, h⟩ | ⟨b', o', cap, e, h1, h2, hb, hc⟩
  · cases h
  · simp only [List.length_cons] at e h1 hc
    injection e with e1 e2 e3
    injection e1 with e1
    injection e1 with e4 e5
    subst e4 e5 e2 e3
    by_cases h : c = 2
    · rw [if_pos h]
      exact .inr ⟨b, o, c - 2, by rw [show ks.length + 1 + 1 - 2 = ks.length by omega], by omega, by omega, hb, fun i hi => by omega⟩
    · rw [if_neg h]
      refine .inr ⟨b, o + 2, c - 2, by rw [show ks.length + 1 + 1 - 2 = ks.length by omega], by omega, by omega, hb, fun i hi => ?_⟩
      have := hc (i + 2) (by omega)
      rw [show o + 2 + i = o + (i + 2) by omega]
      simpa only [List.getD_cons_succ] using this
theorem two_in {a b : Int} (h : two a b = true) : (0 ≤ a ∧ a ≤ 4) ∧ (0 ≤ b ∧ b ≤ 4) := by
  unfold two in6 at h
  simp at h
  omega
def linkF (lk : Int → Int → Bool) (a b : Int) : Int → Int → Bool := fun p q => if (p, q) = (b, a) then true else if (p, q) = (a, b) then true else lk p q
theorem linkL_set (lk : Int → Int → Bool) {a b : Int} (h : two a b = true) : linkL (linkF lk a b) 25 = ((linkL lk 25).set (a * 5 + b).toNat true).set (b * 5 + a).toNat true := by
  obtain ⟨⟨a0, a1⟩, b0, b1⟩ := two_in h
  clear h
  obtain rfl | rfl | rfl | rfl | rfl : a = 0 ∨ a = 1 ∨ a = 2 ∨ a = 3 ∨ a = 4 := by omega
  all_goals obtain rfl | rfl | rfl | rfl | rfl : b = 0 ∨ b = 1 ∨ b = 2 ∨ b = 3 ∨ b = 4 := by omega
  all_goals rfl
theorem link_are {g : Int × Int → Option Value} {lk : Int → Int → Bool} (h : LinksAre g lk) (a b : Int) : LinksAre (fun y => if y = (b, a) then some (.bool true) else if y = (a, b) then some (.bool true) else g y) (linkF lk a b) := by
  intro k
  show (if k = (b, a) then some (Value.bool true) else if k = (a, b) then some (Value.bool true) else g k).getD (.bool false) = .bool (if k = (b, a) then true else if k = (a, b) then true else lk k.1 k.2)
  by_cases h1 : k = (b, a)
  · rw [if_pos h1, if_pos h1]; rfl
  · by_cases h2 : k = (a, b)
    · rw [if_neg h1, if_neg h1, if_pos h2, if_pos h2]; rfl
    · rw [if_neg h1, if_neg h1, if_neg h2, if_neg h2]; exact h k
theorem pairs_two (a b : Int) (l : List Int) : pairsB (a :: b :: l) = (two a b && pairsB l) := by
  conv => lhs; unfold pairsB
  unfold two
  cases in6 a 0 4 <;> cases in6 b 0 4 <;> simp
theorem _root_.Go.Proofs.Ytnpogmhfdjmfdaa.M.void {B : Nat} {w0 w : World} {l : List Ch} (h : M B w0 w l) : M B w0 w (emp :: l) := h.add (Below.refl _ _) (f := []) rfl List.nodup_nil (fun b hb => by cases hb)
theorem _root_.Go.Proofs.Ytnpogmhfdjmfdaa.M.noOpts {B : Nat} {w0 w : World} {l : List Ch} (h : M B w0 w l) : M B w0 w (optsC (List.replicate 5 none) (List.replicate 5 none) :: l) :=
  M.sep (M.void (M.sep (M.void (M.sep (M.void (M.sep (M.void (M.sep (M.void (M.void h))))))))))
def upto {α : Type} (xs : List α) : List (Option α) := xs.map some ++ List.replicate (5 - xs.length) none
theorem upto_len {α : Type} {xs : List α} {k : Nat} (h : xs.length = k) (hk : k ≤ 5) : (upto xs).length = 5 := by unfold upto; simp [h]; omega
theorem upto_set {α : Type} {xs : List α} {k : Nat} (h : xs.length = k) (hk : k < 5) (p : α) : (upto xs).set k (some p) = upto (xs ++ [p]) := by
  unfold upto
  obtain ⟨d, hd⟩ : ∃ d, 5 - xs.length = d + 1 := ⟨5 - xs.length - 1, by omega⟩
  rw [hd, List.set_append_right _ _ (by simp [h]), List.length_map, h, Nat.sub_self, List.replicate_succ, List.set_cons_zero, List.map_append, List.append_assoc, List.length_append, List.length_singleton, show 5 - (xs.length + 1) = d by omega]
  rfl
theorem upto_all {α : Type} {xs : List α} (h : xs.length = 5) : upto xs = xs.map some := by unfold upto; rw [h]; simp
def newNds (k : Nat) : List Nd := (List.range k).map fun i => newNd i 1
theorem newNds_len (k : Nat) : (newNds k).length = k := by unfold newNds; simp
theorem newNds_snoc (k : Nat) : newNds (k + 1) = newNds k ++ [newNd k 1] := by unfold newNds; rw [List.range_succ, List.map_append]; rfl
theorem newNds_base : newNds 5 = baseN.nodes := rfl
theorem past_snoc (k : Nat) : (List.replicate k ([[], []] : List (List Int)) ++ [[[]]]).set k ([[]] ++ [[]]) = List.replicate (k + 1) [[], []] := by
  rw [List.set_append_right _ _ (by simp), List.length_replicate, Nat.sub_self, List.set_cons_zero, List.replicate_succ']
  rfl
set_option maxRecDepth 100000 in
set_option maxHeartbeats 8000000 in
theorem imNetNew_at (w : World) (x : Option Addr) (n c : Nat) (ks : List Int) (h : Ints w (.slice x n c) ks) : Calls Try.prog 6 #[.slice x n c] w (AnsN w (newN ks)) := by
  have hnl : n = ks.length := by
    rcases h with ⟨e, rfl⟩ | ⟨b, o, cap, e, h1, h2, _⟩
    · simp at e; simp [e]
    · simp at e; omega
  have HN := Lib.hid hnl
  have hm : n ≤ maxLen := by
    rcases h with ⟨e, rfl⟩ | ⟨b, o, cap, e, h1, h2, _⟩
    · rw [hnl]; simp
    · simp at e; omega
  unfold maxLen at hm
  have HX := Lib.hid h
  clear h hnl
  have h0 := (M.start w).alloc #[.slice none 0 0, .slice none 0 0, .slice none 0 0, .slice none 0 0] 28
  have H0 := Lib.hid h0
  clear h0
  by_cases hs : n ≤ 40
  · by_cases hp : n % 2 = 0
    · have n0 : (0 : Int) ≤ (n : Int) := by omega
      have n1 : (n : Int) ≤ 40 := by omega
      have e2 : (n : Int) % 2 = 0 := by omega
      have hmm := @run_makeMap Try.prog
      go_enter Try.func6, Try.ntmps6
      go_wp2
      clear hmm e2 n1
      have h1 := ((H0.out.map EndOk endV).alloc #[.pointer none, .pointer none, .pointer none, .pointer none, .pointer none, .map (some (w.heap.size + 1)), .slice none 0 0, .slice none 0 0] 49)
      simp only [World.size_alloc] at h1
      have h2 : M w.heap.size w _ (pastC (.slice none 0 0) (List.replicate 0 [[], []]) :: liveBox (w.heap.size + 1 + 1) (upto ([] : List Nat)) (w.heap.size + 1) (.slice none 0 0) (.slice none 0 0) :: optsC (upto ([] : List Nat)) (upto (newNds 0)) :: mapC EndOk endV (w.heap.size + 1) (fun _ => none) :: wordsC (.slice none 0 0) [] :: [boxC w.heap.size 28 #[.slice none 0 0, .slice none 0 0, .slice none 0 0, .slice none 0 0]]) := M.nil rowsR_frame 43 1 (M.p1 (M.noOpts (M.p2 (M.p2 (M.nil (wordR_frame (T := TY)) 84 6 h1)))))
      have H1 := Lib.hid h2
      clear h1 h2 H0
      obtain ⟨w1, hw1⟩ : ∃ w1, w1 = (((w.alloc (.cells #[.slice none 0 0, .slice none 0 0, .slice none 0 0, .slice none 0 0] 28)).alloc (.map #[] 0)).alloc (.cells #[.pointer none, .pointer none, .pointer none, .pointer none, .pointer none, .map (some (w.heap.size + 1)), .slice none 0 0, .slice none 0 0] 49)) := ⟨_, rfl⟩
      rw [← hw1] at H1 ⊢
      clear hw1
      obtain ⟨m, hm1⟩ : ∃ m, m = w.heap.size + 1 := ⟨_, rfl⟩
      rw [← hm1] at H1 ⊢
      obtain ⟨L, hL⟩ : ∃ L, L = m + 1 := ⟨_, rfl⟩
      rw [← hL] at H1 ⊢
      obtain ⟨R, hR⟩ : ∃ R, R = w.heap.size := ⟨_, rfl⟩
      have HR := Lib.hid hR
      rw [← hR] at H1
      rw [show (Value.pointer (some ⟨w.heap.size, 0, none⟩)) = .pointer (some ⟨R, 0, none⟩) by rw [hR]]
      clear hm1 hL hR
      go_loopw [19] (fun i wr => ∃ (k : Nat) (xp : Option Addr) (cp : Nat) (qs : List Nat), i = .int .i64 (k : Int) ∧ k ≤ 5 ∧ qs.length = k ∧ M R w wr (pastC (.slice xp k cp) (List.replicate k [[], []]) :: liveBox L (upto qs) m (.slice none 0 0) (.slice xp k cp) :: optsC (upto qs) (upto (newNds k)) :: mapC EndOk endV m (fun _ => none) :: wordsC (.slice none 0 0) [] :: [boxC R 28 #[.slice none 0 0, .slice none 0 0, .slice none 0 0, .slice none 0 0]])) (fun i _ => 5 - (intOf i).toNat)
      case atStart => exact ⟨0, none, 0, [], rfl, Nat.zero_le _, rfl, H1.out⟩
      case round =>
        clear H1
        obtain ⟨k, xp, cp, qs, rfl, hk, hq, h⟩ := hrel
        have HQ := Lib.hid hq
        have H := Lib.hid h
        clear h hq
        by_cases hk5 : k < 5
        · have P5 := Lib.hid (upto_len HQ.out hk)
          have N5 := Lib.hid (upto_len (newNds_len k) hk)
          have c7 := (H.out.p1.restAt P5.out).2.2
          have h1 := ((H.out.nil (flatR_frame encI) 3 1).alloc #[.slice none 0 0] 22).one intsR_frame rfl
          have h2 := ((h1.alloc #[.slice (some ⟨wr.heap.size, 0, none⟩) 1 1] 43).p2.p1)
          simp only [World.size_alloc] at h2
          have H2 := Lib.hid h2
          clear h1 h2 H
          go_wp2_with (at_builtin; refine wpList_app rowsS (slcR_one _ _ _) H2.out rfl rfl rfl rfl (by simp [maxLen]; omega) (by simp; omega) (N := k + 1) (by simp) (fun y cy w3 h3 => ?_); have c8 := (h3.p1.restAt P5.out).2.2; have f8 := h3.p1.free 7; have H4 := Lib.hid (h3.p1.setPast P5.out (.slice y (k + 1) cy)); clear h3)
          refine (bear_at H4.out.p1 P5.out N5.out hk5 (rs := [[]]) (by simp) (by simp)).mono ?_
          rintro e w5 ⟨rfl, p, h5⟩
          rw [past_snoc, upto_set HQ.out hk5, List.length_singleton, upto_set (newNds_len k) hk5, ← newNds_snoc] at h5
          have H5 := Lib.hid h5
          clear h5 H4 H2 c7 c8 f8
          go_wp2
          go_roundw
          case rel => exact ⟨k + 1, y, cy, qs ++ [p], by go_num, hk5, by rw [List.length_append, HQ.out]; rfl, H5.out⟩
          case measure => simp [intOf]; omega
        · obtain rfl : k = 5 := by omega
          obtain ⟨lk, hlk⟩ : ∃ lk : Int → Int → Bool, lk = fun _ _ => false := ⟨_, rfl⟩
          have h1 := H.out
          rw [upto_all HQ.out, upto_all (newNds_len 5)] at h1
          have H1 := Lib.hid h1
          clear h1 H hk hk5
          simp only [Int.cast_ofNat_Int]
          go_wp2
          have LK0 := Lib.hid (show LinksAre (fun _ => none) (fun _ _ => false) from fun _ => rfl)
          clear hlk n0
          have SOME := Lib.hid (fun (q : true = pairsB ks) (ls : List Bool) (e : ls = setLinks (List.replicate 25 false) ks) => show newN ks = some ⟨newNds 5, ls, [], List.replicate 5 [[], []]⟩ by
            unfold newN
            rw [if_pos ⟨⟨by rw [← HN.out]; exact hp, by rw [← HN.out]; exact hs⟩, q.symm⟩, e]
            rfl)
          have AS := Lib.hid (fun (W : World) (v1 v2 v3 v4 : Value) (ns : List Nd) (ls : List Bool) (ps : List (List (List Int))) (h : M R w W [nodesC v1 ns, linksC v2 ls, wordsC v3 [], pastC v4 ps]) => ans_some (w := w) (ws := []) (by rw [HR.out] at h; exact h))
          have AN := Lib.hid (fun (W : World) (l' : List Ch) (h : M R w W l') => ans_none (w := w) (by rw [HR.out] at h; exact h))
          go_loopw [0] (fun i wz => ∃ (y : Option Addr) (j cc : Nat) (zs : List Int) (g : Int × Int → Option Value) (lk : Int → Int → Bool), i = .slice y j cc ∧ j = zs.length ∧ j % 2 = 0 ∧ j ≤ 40 ∧ Ints w (.slice y j cc) zs ∧ LinksAre g lk ∧ pairsB zs = pairsB ks ∧ setLinks (linkL lk 25) zs = setLinks (List.replicate 25 false) ks ∧
            M R w wz (pastC (.slice xp 5 cp) (List.replicate 5 [[], []]) :: liveBox L (qs.map some) m (.slice none 0 0) (.slice xp 5 cp) :: optsC (qs.map some) ((newNds 5).map some) :: mapC EndOk endV m g :: wordsC (.slice none 0 0) [] :: [boxC R 28 #[.slice none 0 0, .slice none 0 0, .slice none 0 0, .slice none 0 0]])) (fun i _ => lenV i)
          case atStart => exact ⟨x, n, c, ks, fun _ => none, fun _ _ => false, rfl, HN.out, hp, hs, HX.out, LK0.out, rfl, rfl, H1.out⟩
          case round =>
            clear H1 LK0 hs hp HX HN hm lk
            obtain ⟨y, j, cc, zs, g, lk, rfl, hj, hj2, hj4, hz, hlk, hpz, hsz, h⟩ := hrel
            have H := Lib.hid h
            have HZ := Lib.hid hz
            have LK := Lib.hid hlk
            have PZ := Lib.hid hpz
            have SZ := Lib.hid hsz
            clear h hz hlk hpz hsz
            have Q5 : Hid ((qs.map some).length = 5) := by rw [List.length_map]; exact HQ
            by_cases hj0 : j = 0
            · subst hj0
              obtain rfl : zs = [] := List.eq_nil_of_length_eq_zero hj.symm
              clear hj hj2 hj4
              go_wp2_with fail
              refine (imNet_at H.out.p4.p3.p4.p4 HQ.out (newNds_len 5) LK.out).mono ?_
              rintro e w4 ⟨v1, v2, rfl, h4⟩
              obtain ⟨x1, n1, c1, rfl⟩ : ∃ x n c, v1 = .slice x n c := by obtain ⟨f, hf, _⟩ := h4.first; obtain ⟨_, _, e, _⟩ := slcR_value hf; exact ⟨_, _, _, e⟩
              obtain ⟨x2, n2, c2, rfl⟩ : ∃ x n c, v2 = .slice x n c := by obtain ⟨f, hf, _⟩ := h4.p1.first; obtain ⟨_, _, e, _⟩ := slcR_value hf; exact ⟨_, _, _, e⟩
              obtain ⟨d0, d1, d2, d3⟩ := h4.p4.cells4
              have df := h4.p4.free
              have F := Lib.hid (h4.p4.set4 (.slice x1 n1 c1) (.slice x2 n2 c2) (.slice none 0 0) (.slice xp 5 cp))
              clear h4 H
              go_wp2
              obtain ⟨e0, e1, e2', e3⟩ := F.out.cells4
              (try simp only [Exit.inBlock, Exit.then])
              refine bodyPost_ret (v := .tuple #[.agg #[.slice x1 n1 c1, .slice x2 n2 c2, .slice none 0 0, .slice xp 5 cp], .bool true]) (by simp [results, Try.results6, go_sem, e0, e1, e2', e3]) rfl ?_
              rw [SOME.out PZ.out _ SZ.out]
              exact AS.out _ _ _ _ _ _ _ _ F.out.drop
            · obtain ⟨ka, kb, zs, rfl⟩ : ∃ ka kb zs', zs = ka :: kb :: zs' := by
                match zs, hj with
                | [], h => exact absurd h hj0
                | [a], h => simp at h; omega
                | a :: b :: l, _ => exact ⟨a, b, l, rfl⟩
              obtain ⟨b, o, cap, e, h1, h2, hb, hc⟩ := HZ.out.resolve_left (fun h => by cases h.2)
              injection e with e1 e2 e3
              subst e1 e3
              simp only [List.length_cons] at h1 hj
              have j0 : (0 : Int) < (j : Int) := by omega
              have j1 : (1 : Int) < (j : Int) := by omega
              have JJ := Lib.hid (And.intro hj (And.intro hj2 hj4))
              have C2 := Lib.hid (show 2 ≤ cc ∧ j ≤ cc ∧ cc ≤ maxLen from ⟨by omega, by omega, h2⟩)
              have CA := Lib.hid (fun (W : World) (l' : List Ch) (h : M R w W l') => show W.cell? ⟨b, o, none⟩ = some (.int .i64 ka) from cell_later (HR.out ▸ h.below) (hc 0 (by simp)))
              have CB := Lib.hid (fun (W : World) (l' : List Ch) (h : M R w W l') => show W.cell? ⟨b, o + 1, none⟩ = some (.int .i64 kb) from cell_later (HR.out ▸ h.below) (hc 1 (by simp)))
              clear e2 hj hj2 hj4 hj0 h1 h2 hb hc
              go_wp2
              refine wp_region_plan 99 (.take 0 (.take 1 (.take 2 (.take 3 (.take 4 (.take 5 (.alt 6 (.take 7 .done) .nomore))))))) (fun w' => w'.cell? ⟨b, o, none⟩ = some (.int .i64 ka) ∧ w'.cell? ⟨b, o + 1, none⟩ = some (.int .i64 kb)) (by kernel_rfl) (by kernel_rfl) (fun _ _ _ _ _ h => h) ⟨CA.out _ _ H.out.drew, CB.out _ _ H.out.drew⟩ ?_
              have HD := Lib.hid H.out.drew
              clear H
              generalize wr.drew = w3 at HD ⊢
              repeat (first | (refine plan_take (by rfl) (by rfl) ?_; apply Exists.intro; refine ⟨fun w' hw' => ?_, ?_⟩; (· ((try dsimp only at hw'); go_simp; (try with_reducible rfl))); simp only [Act.put, List.getElem_toArray, List.getElem_cons_succ, List.getElem_cons_zero, List.setIfInBounds_toArray, List.set_cons_zero, List.set_cons_succ]) | (refine plan_skip (by rfl) (by rfl) ?_; simp only [Act.put, List.getElem_toArray, List.getElem_cons_succ, List.getElem_cons_zero, List.setIfInBounds_toArray, List.set_cons_zero, List.set_cons_succ]))
              refine plan_last (by rfl) (fun K hK => ?_)
              go_simp
              refine (areTwo_at _ _ _).mono ?_
              rintro e w' ⟨rfl, rfl⟩
              refine hK _ _ (.inr ⟨CA.out _ _ HD.out, CB.out _ _ HD.out⟩) ?_
              clear hK K
              try simp only [Act.put, List.getElem_toArray, List.getElem_cons_succ, List.getElem_cons_zero, List.setIfInBounds_toArray, List.set_cons_zero, List.set_cons_succ]
              repeat (first | (refine plan_take (by rfl) (by rfl) ?_; apply Exists.intro; refine ⟨fun w' hw' => ?_, ?_⟩; (· ((try dsimp only at hw'); go_simp; (try with_reducible rfl))); simp only [Act.put, List.getElem_toArray, List.getElem_cons_succ, List.getElem_cons_zero, List.setIfInBounds_toArray, List.set_cons_zero, List.set_cons_succ]) | (refine plan_skip (by rfl) (by rfl) ?_; simp only [Act.put, List.getElem_toArray, List.getElem_cons_succ, List.getElem_cons_zero, List.setIfInBounds_toArray, List.set_cons_zero, List.set_cons_succ]))
              refine plan_done ?_
              cases ga : two ka kb with
              | false =>
                have E := Lib.hid (show newN ks = none by
                  unfold newN
                  rw [if_neg (fun z => by have z2 := z.2; rw [← PZ.out, pairs_two, ga] at z2; cases z2)])
                obtain ⟨d0, d1, d2, d3⟩ := HD.out.p5.cells4
                have df := HD.out.p5.free
                have F := Lib.hid (HD.out.p5.set4 (.slice none 0 0) (.slice none 0 0) (.slice none 0 0) (.slice none 0 0))
                clear ga
                go_wp2
                obtain ⟨e0, e1, e2', e3⟩ := F.out.cells4
                (try simp only [Exit.inBlock, Exit.then])
                refine bodyPost_ret (v := .tuple #[.agg #[.slice none 0 0, .slice none 0 0, .slice none 0 0, .slice none 0 0], .bool false]) (by simp [results, Try.results6, go_sem, e0, e1, e2', e3]) rfl ?_
                rw [E.out]
                exact AN.out _ _ F.out
              | true =>
                have GA := Lib.hid ga
                obtain ⟨⟨a0, a1⟩, b0, b1⟩ := two_in ga
                have EO := Lib.hid (show EndOk (ka, kb) from ⟨⟨by simp; omega, by simp; omega⟩, ⟨by simp; omega, by simp; omega⟩⟩)
                clear ga a0 a1 b0 b1
                go_wp2
                refine wp_region_plan 99 (.take 0 (.take 1 (.take 2 (.take 3 (.take 4 (.take 5 (.take 6 (.alt 7 .done .nomore)))))))) (fun w' => w'.cell? ⟨b, o, none⟩ = some (.int .i64 ka) ∧ w'.cell? ⟨b, o + 1, none⟩ = some (.int .i64 kb)) (by kernel_rfl) (by kernel_rfl) (fun _ _ _ _ _ h => h) ⟨CA.out _ _ HD.out.drew, CB.out _ _ HD.out.drew⟩ ?_
                repeat (first | (refine plan_take (by rfl) (by rfl) ?_; apply Exists.intro; refine ⟨fun w' hw' => ?_, ?_⟩; (· ((try dsimp only at hw'); go_simp; (try with_reducible rfl))); simp only [Act.put, List.getElem_toArray, List.getElem_cons_succ, List.getElem_cons_zero, List.setIfInBounds_toArray, List.set_cons_zero, List.set_cons_succ]) | (refine plan_skip (by rfl) (by rfl) ?_; simp only [Act.put, List.getElem_toArray, List.getElem_cons_succ, List.getElem_cons_zero, List.setIfInBounds_toArray, List.set_cons_zero, List.set_cons_succ]))
                refine plan_last (by rfl) (fun K hK => ?_)
                go_simp
                refine (setLink_at (HD.out.drew.p1.p3.p1) Q5.out ka kb true EO.out).mono ?_
                rintro e w4 ⟨rfl, h4⟩
                refine hK _ _ (.inr ⟨CA.out _ _ h4, CB.out _ _ h4⟩) ?_
                clear hK K
                try simp only [Act.put, List.getElem_toArray, List.getElem_cons_succ, List.getElem_cons_zero, List.setIfInBounds_toArray, List.set_cons_zero, List.set_cons_succ]
                refine plan_done ?_
                have F := Lib.hid h4
                have LK' := Lib.hid (link_are LK.out ka kb)
                have PZ' := Lib.hid (show pairsB zs = pairsB ks by rw [← PZ.out, pairs_two, GA.out]; rfl)
                have SZ' := Lib.hid (show setLinks (linkL (linkF lk ka kb) 25) zs = setLinks (List.replicate 25 false) ks by rw [linkL_set lk GA.out, ← SZ.out]; rfl)
                have HZ' := Lib.hid (ints_drop2 HZ.out)
                obtain ⟨c2, cj, cm⟩ := C2.out
                clear h4 HD
                by_cases hc2 : cc = 2
                · subst hc2
                  obtain rfl : j = 2 := by have := JJ.out; omega
                  have z := HZ'.out
                  rw [if_pos rfl] at z
                  have HZ2 := Lib.hid z
                  clear z HZ'
                  go_wp2
                  go_roundw
                  case rel => exact ⟨_, _, _, zs, _, _, rfl, by have := JJ.out; omega, by have := JJ.out; omega, by have := JJ.out; omega, HZ2.out, LK'.out, PZ'.out, SZ'.out, F.out.p1.p3.p2.p3⟩
                  case measure => show 0 < 2; omega
                · have z := HZ'.out
                  rw [if_neg hc2] at z
                  have HZ2 := Lib.hid z
                  clear z HZ'
                  go_wp2
                  go_roundw
                  case rel => exact ⟨_, _, _, zs, _, _, rfl, by have := JJ.out; omega, by have := JJ.out; omega, by have := JJ.out; omega, HZ2.out, LK'.out, PZ'.out, SZ'.out, F.out.p1.p3.p2.p3⟩
                  case measure => show j - 2 < j; have := JJ.out; omega
    · have e2 : (n : Int) % 2 = 1 := by omega
      have n0 : (0 : Int) ≤ (n : Int) := by omega
      have n1 : (n : Int) ≤ 40 := by omega
      have E := Lib.hid (show newN ks = none by unfold newN; rw [if_neg (fun z => hp (by rw [HN.out]; exact z.1.1))])
      obtain ⟨d0, d1, d2, d3⟩ := H0.out.cells4
      have df := H0.out.free
      go_enter Try.func6, Try.ntmps6
      go_wp2
      (try simp only [Exit.inBlock, Exit.then])
      refine bodyPost_ret (v := .tuple #[.agg #[.slice none 0 0, .slice none 0 0, .slice none 0 0, .slice none 0 0], .bool false]) (by simp [results, Try.results6, go_sem, d0, d1, d2, d3]) rfl ?_
      rw [E.out]
      exact ans_none H0.out
  · have n1 : ((n : Int) ≤ 40) = False := by simp; omega
    have E := Lib.hid (show newN ks = none by unfold newN; rw [if_neg (fun z => hs (by rw [HN.out]; exact z.1.2))])
    obtain ⟨d0, d1, d2, d3⟩ := H0.out.cells4
    have df := H0.out.free
    go_enter Try.func6, Try.ntmps6
    go_wp2
    (try simp only [Exit.inBlock, Exit.then])
    refine bodyPost_ret (v := .tuple #[.agg #[.slice none 0 0, .slice none 0 0, .slice none 0 0, .slice none 0 0], .bool false]) (by simp [results, Try.results6, go_sem, d0, d1, d2, d3]) rfl ?_
    rw [E.out]
    exact ans_none H0.out
end N
end Go.Proofs.Ytnpogmhfdjmfdaa
