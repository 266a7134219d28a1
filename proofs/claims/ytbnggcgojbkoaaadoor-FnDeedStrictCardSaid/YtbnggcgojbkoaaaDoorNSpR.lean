/-
  The model's l31Split and l31Num.
-/
import Derived.Test.YtbnggcgojbkoaaaDoorNDeD
import Derived.Test.YtbnggcgojbkoaaaDoorNReadD
import Derived.Test.YtbnggcgojbkoaaaDoorNo
set_option linter.unusedVariables false
set_option linter.unusedSectionVars false
set_option linter.unusedSimpArgs false
namespace Go.Proofs.YtbnggcgojbkoaaaDoor
open Go.RowKit Go.Sort
namespace N
def encT (x : Bs) : List Value := [.string ⟨x.toArray⟩]
theorem flatT_one : (flatR encT).One 1 := ⟨fun h => by rw [h.1]; rfl, fun h u hu => by rw [h.1] at hu; rw [List.mem_singleton.1 hu]; rfl⟩
theorem _root_.Go.Proofs.YtbnggcgojbkoaaaDoor.M.flatT {α : Type} (enc : α → List Value) (a : α) {B : Nat} {w0 w : World} {l : List Ch} (h : M B w0 w l) : M B w0 w ((flatR_frame enc).ch (enc a) a :: l) :=
  h.add (Below.refl _ _) (f := []) ⟨rfl, rfl⟩ List.nodup_nil fun b hb => by cases hb
theorem textS : SlT Tryd.prog 52 9 (.string ⟨#[]⟩) 1 16 := ⟨Tryd.underlying52, by kernel_rfl, rfl, by decide⟩
abbrev textsC := slcC (flatR_frame encT) 9 1
theorem split_cut {c : UInt8} {s : Bs} {f k : Nat} (hf : f ≤ k) (hk : s[k]? = some c) (hn : c ∉ (s.take k).drop f) : splitB c (s.drop f) = (s.take k).drop f :: splitB c (s.drop (k + 1)) := by
  obtain ⟨hl, hg⟩ := List.getElem?_eq_some_iff.1 hk
  have e : s.drop f = (s.take k).drop f ++ c :: s.drop (k + 1) := by
    have e1 : s = s.take k ++ c :: s.drop (k + 1) := by
      rw [← hg, ← List.drop_eq_getElem_cons hl, List.take_append_drop]
    have e2 : s.drop f = (s.take k ++ c :: s.drop (k + 1)).drop f := by rw [← e1]
    rw [e2, List.drop_append_of_le_length (by simp; omega)]
  rw [e, split_app _ hn]
theorem ext_bytes (s : Bs) (f k : Nat) : (⟨s.toArray⟩ : ByteArray).extract f k = ⟨((s.take k).drop f).toArray⟩ := by
  apply ByteArray.ext
  rw [ByteArray.data_extract, List.extract_toArray, List.extract_eq_take_drop, List.drop_take]
theorem encT_ext (s : Bs) (f k : Nat) : encT ((s.take k).drop f) = [.string ((⟨s.toArray⟩ : ByteArray).extract f k)] := by rw [ext_bytes]; rfl
theorem byte_at {s : Bs} {k : Nat} (h : k < (⟨s.toArray⟩ : ByteArray).size) {c : UInt8} (hc : s[k]? = some c) : (⟨s.toArray⟩ : ByteArray)[k]'h = c := by
  obtain ⟨_, e⟩ := List.getElem?_eq_some_iff.1 hc
  rw [← e]; rfl
section
variable {B p : Nat} {w0 w : World} {l : List Ch}
set_option maxRecDepth 100000 in
set_option maxHeartbeats 4000000 in
theorem spSplit_at (h : M B w0 w l) (s : Bs) (hs : s.length ≤ 4000000) (c : UInt8) : Calls Tryd.prog 29 #[.string ⟨s.toArray⟩, .int .u8 (c.toNat : Int)] w fun e w' => ∃ y m, e = .returned (.slice y (splitB c s).length m) ∧ M B w0 w' (textsC (.slice y (splitB c s).length m) (splitB c s) :: l) := by
  have h1 := M.empty (flatR_frame encT) 1 (h.alloc #[] 9)
  have H1 := Lib.hid h1
  have HS := Lib.hid hs
  clear h h1 hs
  go_enter Tryd.func29, Tryd.ntmps29
  go_wp2
  go_loopw [5, 6, 7] (fun out fr i wr => ∃ (k f : Nat) (ws : List Bs) (y : Option Addr) (m : Nat), i = .int .i64 k ∧ fr = .int .i64 f ∧ out = .slice y ws.length m ∧ f ≤ k ∧ k ≤ s.length ∧ ws.length ≤ f ∧ splitB c s = ws ++ splitB c (s.drop f) ∧ c ∉ (s.take k).drop f ∧ M B w0 wr (textsC (.slice y ws.length m) ws :: l)) (fun _ _ i _ => s.length - (intOf i).toNat)
  case atStart => exact ⟨0, 0, [], _, _, rfl, rfl, rfl, by omega, by omega, by simp, by simp, by simp, H1.out⟩
  case round =>
    clear H1
    obtain ⟨k, f, ws, y, m, rfl, rfl, rfl, hfk, hk, hwf, hsp, hno, h⟩ := hrel
    have H := Lib.hid h
    have hb := HS.out
    have NO := Lib.hid hno
    have SP := Lib.hid hsp
    clear h hno hsp
    by_cases hlt : k < s.length
    · have g : decide ((k : Int) < (s.length : Int)) = true := by simp; omega
      have hz : k < (⟨s.toArray⟩ : ByteArray).size := hlt
      obtain ⟨x, hx⟩ : ∃ x, s[k]? = some x := ⟨_, List.getElem?_eq_getElem hlt⟩
      have IX := byte_at hz hx
      by_cases eq : x = c
      · have bq : (((x.toNat : Nat) : Int) == (c.toNat : Int)) = true := by rw [eq]; simp
        have h2 := M.flatT encT ((s.take k).drop f) H.out
        rw [encT_ext] at h2
        have H2 := Lib.hid ((h2.p1).alloc #[.string ((⟨s.toArray⟩ : ByteArray).extract f k)] 9)
        have F1 : Hid (splitB c s = (ws ++ [(s.take k).drop f]) ++ splitB c (s.drop (k + 1))) := Lib.hid (by rw [SP.out, split_cut hfk (by rw [hx, eq]) NO.out]; simp)
        have F2 : Hid (c ∉ (s.take (k + 1)).drop (k + 1)) := Lib.hid (by simp)
        have LT := Lib.hid hlt
        have W63 := Lib.hid (show ws.length + 1 ≤ maxLen by simp [maxLen]; omega)
        have WBY := Lib.hid (show (ws.length + 1) * 16 ≤ 140737488355328 by omega)
        clear h2 H SP NO hx eq hlt
        go_wp2_with (at_builtin; refine wpList_app textS flatT_one H2.out rfl rfl rfl rfl W63.out WBY.out (N := ws.length + 1) rfl ?_; intro y1 m1 w1 h3; have H3 := Lib.hid h3; clear h3 H2)
        go_roundw
        case rel => exact ⟨k + 1, k + 1, ws ++ [(s.take k).drop f], y1, m1, by go_num, by go_num, by simp, by omega, LT.out, by simp; omega, F1.out, F2.out, by simpa using H3.out⟩
        case measure => simp [intOf]; have := LT.out; omega
      · have bq : (((x.toNat : Nat) : Int) == (c.toNat : Int)) = false := by
          have : x.toNat ≠ c.toNat := fun e => eq (UInt8.toNat_inj.1 e)
          simp; omega
        have F2 : Hid (c ∉ (s.take (k + 1)).drop f) := Lib.hid (by
          rw [List.take_add_one, hx, List.drop_append_of_le_length (by simp; omega)]
          intro hm
          rcases List.mem_append.1 hm with q | q
          · exact NO.out q
          · simp at q; exact eq q.symm)
        have LT := Lib.hid hlt
        clear NO hx eq hlt
        go_wp2
        go_roundw
        case rel => exact ⟨k + 1, f, ws, y, m, by go_num, rfl, rfl, by omega, LT.out, hwf, SP.out, F2.out, H.out⟩
        case measure => simp [intOf]; have := LT.out; omega
    · obtain rfl : k = s.length := by omega
      have h2 := M.flatT encT ((s.take s.length).drop f) H.out
      rw [encT_ext] at h2
      have H2 := Lib.hid ((h2.p1).alloc #[.string ((⟨s.toArray⟩ : ByteArray).extract f s.length)] 9)
      have F1 : Hid (splitB c s = ws ++ [(s.take s.length).drop f]) := Lib.hid (by
        have n := NO.out
        rw [List.take_length] at n ⊢
        rw [SP.out, split_none n])
      have W63 := Lib.hid (show ws.length + 1 ≤ maxLen by simp [maxLen]; omega)
      have WBY := Lib.hid (show (ws.length + 1) * 16 ≤ 140737488355328 by omega)
      clear h2 H SP NO
      go_wp2_with (at_builtin; refine wpList_app textS flatT_one H2.out rfl rfl rfl rfl W63.out WBY.out (N := ws.length + 1) rfl ?_; intro y1 m1 w1 h3; have H3 := Lib.hid h3; clear h3 H2)
      go_ret
      rw [F1.out]
      exact ⟨y1, m1, by simp, by simpa using H3.out⟩
theorem num_stop : ∀ (l : Bs) (n : Int), ¬ n < 1000 → l.foldl (fun n x => if n < 1000 then numF n x else n) n = n
  | [], _, _ => rfl
  | x :: l, n, h => by rw [List.foldl_cons, if_neg h]; exact num_stop l n h
theorem num_range : ∀ (l : Bs) (n : Int), 0 ≤ n → n ≤ 9999 → 0 ≤ l.foldl (fun n x => if n < 1000 then numF n x else n) n ∧ l.foldl (fun n x => if n < 1000 then numF n x else n) n ≤ 9999
  | [], n, h1, h2 => ⟨h1, h2⟩
  | x :: l, n, h1, h2 => by
    rw [List.foldl_cons]
    refine num_range l _ ?_ ?_ <;> (split <;> (try unfold numF) <;> (try split) <;> omega)
set_option maxRecDepth 100000 in
set_option maxHeartbeats 4000000 in
theorem spNum_at (s : Bs) (hs : s.length ≤ 4000000) (w : World) : Calls Tryd.prog 30 #[.string ⟨s.toArray⟩] w fun e w' => e = .returned (.int .i64 (numB s)) ∧ w' = w := by
  have HS := Lib.hid hs
  clear hs
  go_enter Tryd.func30, Tryd.ntmps30
  go_wp2
  go_loopw [3, 4] (fun n i wr => ∃ (k : Nat) (m : Int), i = .int .i64 k ∧ n = .int .i64 m ∧ k ≤ s.length ∧ 0 ≤ m ∧ m ≤ 9999 ∧ numB s = (s.drop k).foldl (fun n x => if n < 1000 then numF n x else n) m ∧ wr = w) (fun _ i _ => s.length - (intOf i).toNat)
  case atStart => exact ⟨0, 0, rfl, rfl, by omega, by omega, by omega, rfl, rfl⟩
  case round =>
    obtain ⟨k, m, rfl, rfl, hk, m0, m9, hsp, rfl⟩ := hrel
    have SP := Lib.hid hsp
    have hb := HS.out
    clear hsp
    by_cases hlt : k < s.length
    · have g : decide ((k : Int) < (s.length : Int)) = true := by simp; omega
      have hz : k < (⟨s.toArray⟩ : ByteArray).size := hlt
      obtain ⟨x, hx⟩ : ∃ x, s[k]? = some x := ⟨_, List.getElem?_eq_getElem hlt⟩
      have IX := byte_at hz hx
      have F : Hid (numB s = (s.drop (k + 1)).foldl (fun n x => if n < 1000 then numF n x else n) (if m < 1000 then numF m x else m)) := Lib.hid (by
        obtain ⟨_, e⟩ := List.getElem?_eq_some_iff.1 hx
        rw [SP.out, List.drop_eq_getElem_cons hlt, List.foldl_cons, e])
      have LT := Lib.hid hlt
      by_cases hm : m < 1000
      · have gm : decide (m < 1000) = true := by simp; omega
        rw [if_pos hm] at F
        unfold numF at F
        have RX := Lib.hid (num_range [x] m m0 m9)
        by_cases d1 : 48 ≤ x.toNat
        · have g1 : decide ((48 : Int) ≤ (x.toNat : Int)) = true := by simp; omega
          by_cases d2 : x.toNat ≤ 57
          · have g2 : decide ((x.toNat : Int) ≤ 57) = true := by simp; omega
            rw [if_pos ⟨d1, d2⟩] at F
            have sw : IntKind.u8.wrap ((x.toNat : Int) - 48) = (x.toNat : Int) - 48 := by simp [IntKind.wrap, IntKind.bits, IntKind.signed]; omega
            have si : IntKind.i64.wrap ((x.toNat : Int) - 48) = (x.toNat : Int) - 48 := IntWalk.i64_in _ (by omega)
            have sm : IntKind.i64.wrap (m * 10) = m * 10 := IntWalk.i64_in _ (by omega)
            have sa : IntKind.i64.wrap (m * 10 + ((x.toNat : Int) - 48)) = m * 10 + ((x.toNat : Int) - 48) := IntWalk.i64_in _ (by omega)
            clear hx hlt SP
            go_wp2
            go_roundw
            case rel => exact ⟨k + 1, m * 10 + ((x.toNat : Int) - 48), by go_num, by go_num, LT.out, by omega, by omega, F.out, trivial⟩
            case measure => simp [intOf]; have := LT.out; omega
          · have g2 : decide ((x.toNat : Int) ≤ 57) = false := by simp; omega
            rw [if_neg (by omega)] at F
            clear hx hlt SP
            go_wp2
            go_roundw
            case rel => exact ⟨k + 1, m, by go_num, by go_num, LT.out, by omega, by omega, F.out, trivial⟩
            case measure => simp [intOf]; have := LT.out; omega
        · have g1 : decide ((48 : Int) ≤ (x.toNat : Int)) = false := by simp; omega
          rw [if_neg (by omega)] at F
          clear hx hlt SP
          go_wp2
          go_roundw
          case rel => exact ⟨k + 1, m, by go_num, by go_num, LT.out, by omega, by omega, F.out, trivial⟩
          case measure => simp [intOf]; have := LT.out; omega
      · have gm : decide (m < 1000) = false := by simp; omega
        have E := Lib.hid (SP.out.trans (num_stop _ m hm))
        clear SP F hx hlt
        go_wp2
        go_ret
        exact ⟨by rw [E.out]; rfl, rfl⟩
    · obtain rfl : k = s.length := by omega
      have E := Lib.hid (show numB s = m by rw [SP.out, List.drop_length]; rfl)
      clear SP
      go_wp2
      go_ret
      exact ⟨by rw [E.out]; rfl, rfl⟩
end
end N
end Go.Proofs.YtbnggcgojbkoaaaDoor
