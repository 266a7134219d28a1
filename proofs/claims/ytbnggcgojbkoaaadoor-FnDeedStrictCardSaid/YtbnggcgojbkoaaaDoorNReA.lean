/-
  The program's reading of numbers and of kinds.
-/
import Derived.Test.YtbnggcgojbkoaaaDoorNDeB
import Derived.Test.YtbnggcgojbkoaaaDoorNSplit
import Derived.Test.YtbnggcgojbkoaaaDoorShelfR
import Derived.Deep.DeepCutAuto
set_option linter.unusedVariables false
set_option linter.unusedSectionVars false
set_option linter.unusedSimpArgs false
namespace Go.Proofs.YtbnggcgojbkoaaaDoor
open Go.RowKit Go.Sort
namespace N
/-- The panic of what is no deed's text. -/
def unread : List PanicEntry := [{ v := .iface 55 (.agg #[]), recovered := false }]
def kindO (s : Bs) : Option Int := if kindB s < 1 then Option.none else some (kindB s)
/-- How a reading ends that gives a value, or panics. -/
def Ans {α : Type} (o : Option α) (v : α → Value) (e : Ending) : Prop := e = match o with
  | some a => .returned (v a)
  | Option.none => .panicked unread
theorem ans_some {α : Type} {o : Option α} {v : α → Value} {a : α} (h : o = some a) : Ans o v (.returned (v a)) := by unfold Ans; rw [h]
theorem ans_none {α : Type} {o : Option α} {v : α → Value} (h : o = Option.none) : Ans o v (.panicked unread) := by unfold Ans; rw [h]
/-- What the reading of numbers asks of the library's own variables. -/
structure ErrVars (w : World) : Prop where
  a : ∃ tp p, w.var? Tryd.prog "strconv.ErrSyntax" = some #[.iface tp p]
  b : ∃ tp p, w.var? Tryd.prog "strconv.ErrRange" = some #[.iface tp p]
section
variable {B p : Nat} {w0 w : World} {l : List Ch}
theorem atoi_bad (s : ByteArray) (hl : s.size ≤ 281474976710656) (h : ∀ v, Lib.atoiAll s.data.toList ≠ .ok v) (hE : ErrVars w) :
    Calls Tryd.prog 42 #[.string s] w fun e w' => ∃ n T v, e = .returned (.tuple #[.int .i64 n, .iface T v]) ∧ Below w.heap.size w w' := by
  obtain ⟨⟨tp, p, ha⟩, tp2, p2, hb⟩ := hE
  cases q : Lib.atoiAll s.data.toList with
  | ok v => exact absurd q (h v)
  | _ =>
    first
      | exact (Any.strconv_Atoi_syntax_var Tryd.laysC172 s hl q tp p w ha).mono fun e w' ⟨N, he, _, _, hb⟩ => ⟨_, _, _, he, hb⟩
      | exact (Any.strconv_Atoi_range_var Tryd.laysC172 s hl q tp2 p2 w hb).mono fun e w' ⟨N, he, _, _, hb⟩ => ⟨_, _, _, he, hb⟩
theorem atoi_ok (s : ByteArray) (hl : s.size ≤ 9223372036854775806) {v : Int} (h : Lib.atoiAll s.data.toList = .ok v) :
    Calls Tryd.prog 42 #[.string s] w fun e w' => e = .returned (.tuple #[.int .i64 v, .nilIface]) ∧ Below w.heap.size w w' :=
  (Any.strconv_Atoi_ok Tryd.laysC172 s hl v h w).mono fun e w' ⟨he, hw⟩ => ⟨he, by
    rcases hw with rfl | ⟨t, rfl⟩
    · exact Below.refl _ _
    · exact Lib.bytesWorld_below _ _ _⟩
set_option maxRecDepth 100000 in
set_option maxHeartbeats 4000000 in
theorem numberRead_at (h : M B w0 w l) (s : Bs) (hs : s.length ≤ 1000) (hE : ErrVars w) : Calls Tryd.prog 37 #[.string ⟨s.toArray⟩] w fun e w' => M B w0 w' l ∧ Ans (numR s) (fun n => .int .i64 (n : Int)) e := by
  have H := Lib.hid h
  clear h
  have HL := Lib.hid hs
  by_cases hok : ∃ v, Lib.atoiAll s = .ok v
  · obtain ⟨v, hv⟩ := hok
    have KA := Lib.hid (atoi_ok (w := w) ⟨s.toArray⟩ (by show s.toArray.size ≤ _; simp; omega) (v := v) hv)
    have KW := Lib.hid (written_at v)
    go_enter Tryd.func37, Tryd.ntmps37
    go_wp2_with fail
    refine KA.out.mono ?_
    rintro e w1 ⟨rfl, hb⟩
    have H1 := Lib.hid (H.out.later hb)
    clear KA hb H
    by_cases hr : 0 ≤ v ∧ v ≤ 99
    · have KI := Lib.hid (itoa_at v hr)
      rw [decide_eq_true hr] at KW
      go_wp2_with fail
      refine (KW.out _).mono ?_
      rintro e w2 ⟨rfl, rfl⟩
      go_wp2_with fail
      refine (KI.out _).mono ?_
      rintro e w3 ⟨rfl, rfl⟩
      by_cases eq : decB v.toNat = s
      · have NR := Lib.hid (show numR s = some v.toNat by rw [← eq]; exact numR_dec (by omega))
        have bq : (decB v.toNat == s) = true := by simpa using eq
        have vv : ((v.toNat : Nat) : Int) = v := by omega
        have F : Hid (Ans (numR s) (fun n => .int .i64 (n : Int)) (.returned (.int .i64 v))) := Lib.hid (by have := ans_some (v := fun n : Nat => Value.int .i64 (n : Int)) NR.out; simp only [vv] at this; exact this)
        clear KW KI eq hr hv HL hs vv NR
        go_wp2
        go_ret
        exact ⟨H1.out, F.out⟩
      · have NR := Lib.hid (show numR s = Option.none by
          cases q : numR s with
          | none => rfl
          | some n =>
            obtain ⟨n1, n2⟩ := numR_some q
            have := dec_atoi ⟨n, by omega⟩
            simp only at this
            rw [n2, hv] at this
            injection this with this
            exact absurd (by rw [this]; simpa using n2) eq)
        have bq : (decB v.toNat == s) = false := by simpa using eq
        have F := Lib.hid (ans_none (v := fun n : Nat => Value.int .i64 (n : Int)) NR.out)
        clear KW KI eq hr hv HL hs NR
        go_wp2
        exact ⟨rfl, H1.out, F.out⟩
    · have NR := Lib.hid (show numR s = Option.none by
        cases q : numR s with
        | none => rfl
        | some n =>
          obtain ⟨n1, n2⟩ := numR_some q
          have := dec_atoi ⟨n, by omega⟩
          simp only at this
          rw [n2, hv] at this
          injection this with this
          exact absurd (by omega) hr)
      have F := Lib.hid (ans_none (v := fun n : Nat => Value.int .i64 (n : Int)) NR.out)
      rw [decide_eq_false hr] at KW
      go_wp2_with fail
      refine (KW.out _).mono ?_
      rintro e w2 ⟨rfl, rfl⟩
      go_wp2
      exact ⟨rfl, H1.out, F.out⟩
  · have KA := Lib.hid (atoi_bad (w := w) ⟨s.toArray⟩ (by show s.toArray.size ≤ _; simp; omega) (fun v q => hok ⟨v, q⟩) hE)
    have NR := Lib.hid (show numR s = Option.none by
      cases q : numR s with
      | none => rfl
      | some n =>
        obtain ⟨n1, n2⟩ := numR_some q
        have := dec_atoi ⟨n, by omega⟩
        simp only at this
        rw [n2] at this
        exact absurd ⟨_, this⟩ hok)
    have F := Lib.hid (ans_none (v := fun n : Nat => Value.int .i64 (n : Int)) NR.out)
    go_enter Tryd.func37, Tryd.ntmps37
    go_wp2_with fail
    refine KA.out.mono ?_
    rintro e w1 ⟨n, T, v, rfl, hb⟩
    have H1 := Lib.hid (H.out.later hb)
    clear KA hb H
    go_wp2
    exact ⟨rfl, H1.out, F.out⟩
theorem forms_get {k p : Nat} (h : k < 11) : ∃ u, (formsC p)[k * 2]? = some (.string ⟨(nameB k).toArray⟩) ∧ (formsC p)[k * 2 + 1]? = some u := by
  obtain rfl | rfl | rfl | rfl | rfl | rfl | rfl | rfl | rfl | rfl | rfl : k = 0 ∨ k = 1 ∨ k = 2 ∨ k = 3 ∨ k = 4 ∨ k = 5 ∨ k = 6 ∨ k = 7 ∨ k = 8 ∨ k = 9 ∨ k = 10 := by omega
  all_goals exact ⟨_, rfl, rfl⟩
theorem eqForm_at {bx : Nat} {s n : Bs} {u : Value} (h : M B w0 w (boxC bx 9 #[.string ⟨s.toArray⟩] :: l)) : Calls Tryd.prog 41 #[.agg #[.string ⟨n.toArray⟩, u], .pointer (some ⟨bx, 0, Option.none⟩)] w fun e w' => e = .returned (.bool (n == s)) ∧ M B w0 w' (boxC bx 9 #[.string ⟨s.toArray⟩] :: l) := by
  have H1 := Lib.hid (h.alloc #[.string ⟨n.toArray⟩, u] 44)
  clear h
  obtain ⟨c0, c1⟩ := H1.out.cells2
  have d0 := H1.out.p1.cell (i := 0) rfl
  go_enter Tryd.func41, Tryd.ntmps41
  go_wp2
  go_ret
  exact ⟨rfl, H1.out.drop⟩
set_option maxRecDepth 100000 in
set_option maxHeartbeats 4000000 in
theorem indexForm_at {b3 bx q : Nat} {s : Bs} (h : M B w0 w (boxC b3 45 (formsC q) :: boxC bx 9 #[.string ⟨s.toArray⟩] :: l)) :
    Calls Tryd.prog 40 #[.slice (some ⟨b3, 0, Option.none⟩) 11 11, .func (.func 41) #[] #[.pointer (some ⟨bx, 0, Option.none⟩)]] w fun e w' => ∃ z : Int, e = .returned (.int .i64 z) ∧ M B w0 w' (boxC b3 45 (formsC q) :: boxC bx 9 #[.string ⟨s.toArray⟩] :: l) ∧ ((1 ≤ z ∧ z = kindB s) ∨ (z < 1 ∧ kindB s = 0)) := by
  have H := Lib.hid h
  clear h
  have LS := Lib.hid (show (⟨s.toArray⟩ : ByteArray).toList = s by rw [Go.ByteArray.toList_eq])
  go_enter Tryd.func40, Tryd.ntmps40
  go_wp2
  go_loopw [8] (fun i wr => ∃ k : Nat, k ≤ 11 ∧ i = .int .i64 k ∧ (∀ j, j < k → nameB j ≠ s) ∧ M B w0 wr (boxC b3 45 (formsC q) :: boxC bx 9 #[.string ⟨s.toArray⟩] :: l)) (fun i _ => 11 - (intOf i).toNat)
  case atStart => exact ⟨0, by omega, rfl, fun j hj => absurd hj (Nat.not_lt_zero _), H.out⟩
  case round =>
    clear H
    obtain ⟨k, hk, rfl, hno, h⟩ := hrel
    have H := Lib.hid h
    have NO := Lib.hid hno
    clear h hno
    by_cases hlt : k < 11
    · obtain ⟨u, f0, f1⟩ := forms_get (p := q) hlt
      have c0 := H.out.cell f0
      have c1 := H.out.cell f1
      have d0 := H.out.p1.cell (i := 0) rfl
      clear f0 f1
      go_wp2_with fail
      refine (eqForm_at H.out.p1).mono ?_
      rintro e w2 ⟨rfl, h2⟩
      have H2 := Lib.hid h2.p1
      clear h2 c0 c1 d0 H
      by_cases eq : nameB k = s
      · have bq : (nameB k == s) = true := by simpa using eq
        have F : Hid ((1 ≤ (k : Int) ∧ (k : Int) = kindB s) ∨ ((k : Int) < 1 ∧ kindB s = 0)) := Lib.hid (by
          by_cases k0 : k = 0
          · subst k0
            refine .inr ⟨by omega, ?_⟩
            rw [← eq]; decide +kernel
          · exact .inl ⟨by omega, (kind_first (by omega) (by omega) eq).symm⟩)
        clear eq NO
        go_wp2
        go_ret
        exact ⟨_, rfl, H2.out, F.out⟩
      · have bq : (nameB k == s) = false := by simpa using eq
        have NO2 : Hid (∀ j, j < k + 1 → nameB j ≠ s) := Lib.hid fun j hj => by
          by_cases e : j = k
          · rw [e]; exact eq
          · exact NO.out j (by omega)
        clear eq NO
        go_wp2
        go_roundw
        case rel => exact ⟨k + 1, by omega, by go_num, NO2.out, H2.out⟩
        case measure => simp [intOf]; omega
    · obtain rfl : k = 11 := by omega
      have F : Hid ((1 ≤ (-1 : Int) ∧ (-1 : Int) = kindB s) ∨ ((-1 : Int) < 1 ∧ kindB s = 0)) := Lib.hid (.inr ⟨by omega, kind_no fun j _ h2 => NO.out j (by omega)⟩)
      go_wp2
      go_ret
      exact ⟨_, rfl, H.out, F.out⟩
set_option maxRecDepth 100000 in
set_option maxHeartbeats 4000000 in
theorem kindRead_at (h : M B w0 w l) (s : Bs) : Calls Tryd.prog 36 #[.string ⟨s.toArray⟩] w fun e w' => M B w0 w' l ∧ Ans (kindO s) (fun k => .int .i64 k) e := by
  have H1 := Lib.hid ((h.alloc #[.string ⟨s.toArray⟩] 9).alloc #[.int .i64 0, .int .i64 0, .int .i64 0] 24)
  clear h
  have hmf : ∀ (fn : Fn) (first cap : Array Value) (w : World), (Instr.makeFunc fn first cap).run Tryd.prog w = .ok (.func fn first cap) w := fun _ _ _ _ => rfl
  go_enter Tryd.func36, Tryd.ntmps36
  go_wp2_with fail
  refine (forms_at (p := w.heap.size + 1) H1.out).mono ?_
  rintro e w2 ⟨rfl, h2⟩
  rw [World.size_alloc] at h2
  have H2 := Lib.hid (h2.alloc #[.string ⟨#[]⟩, .nilFunc, .string ⟨#[]⟩, .nilFunc, .string ⟨#[]⟩, .nilFunc, .string ⟨#[]⟩, .nilFunc, .string ⟨#[]⟩, .nilFunc, .string ⟨#[]⟩, .nilFunc, .string ⟨#[]⟩, .nilFunc, .string ⟨#[]⟩, .nilFunc, .string ⟨#[]⟩, .nilFunc, .string ⟨#[]⟩, .nilFunc, .string ⟨#[]⟩, .nilFunc] 45)
  have hi : (Tryd.prog.info? 45).map (·.size) = some (formsC (w.heap.size + 1)).size := by kernel_rfl
  have h1 : (formsC (w.heap.size + 1)).all (·.oneCell') = true := by simp [formsC, fnV, pt, Value.oneCell']
  clear h2 H1
  go_wp2_with (refine wpList_storeWhole (vs := formsC (w.heap.size + 1)) hi H2.out rfl h1 rfl rfl rfl rfl (fun _ => ?_))
  have H3 := Lib.hid (H2.out.setWhole (formsC (w.heap.size + 1))).p2.p1
  clear H2
  refine (indexForm_at H3.out).mono ?_
  rintro e w4 ⟨z, rfl, h4, hz⟩
  have H4 := Lib.hid h4.drop.drop.drop
  clear h4 H3
  rcases hz with ⟨z1, hz⟩ | ⟨z1, hz⟩
  · have F : Hid (Ans (kindO s) (fun k => .int .i64 k) (.returned (.int .i64 z))) := Lib.hid (by refine ans_some (v := fun k => .int .i64 k) ?_; unfold kindO; rw [← hz, if_neg (by omega)])
    clear hz
    go_wp2
    go_ret
    exact ⟨H4.out, F.out⟩
  · have F : Hid (Ans (kindO s) (fun k => .int .i64 k) (.panicked unread)) := Lib.hid (by refine ans_none ?_; unfold kindO; rw [hz, if_pos (by omega)])
    clear hz
    go_wp2
    exact ⟨rfl, H4.out, F.out⟩
end
end N
end Go.Proofs.YtbnggcgojbkoaaaDoor
