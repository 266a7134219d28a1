/-
  The program's texts of deeds: how deeds are written.
-/
import Derived.Test.YtbnggcgojbkoaaaDoorNo
import Derived.Test.YtbnggcgojbkoaaaDoorNText
set_option linter.unusedVariables false
set_option linter.unusedSectionVars false
set_option linter.unusedSimpArgs false
namespace Go.Proofs.YtbnggcgojbkoaaaDoor
open Go.RowKit Go.Sort
namespace N
abbrev pt (p : Nat) : Value := .pointer (some ⟨p, 0, none⟩)
abbrev bsV (s : Bs) : Value := .string ⟨s.toArray⟩
abbrev fnV (f p : Nat) : Value := .func (.func f) #[pt p] #[]
def formsC (p : Nat) : Array Value := #[.string ⟨#[]⟩, .nilFunc, .string ⟨#[99, 111, 117, 110, 116]⟩, fnV 31 p, .string ⟨#[104, 101, 108, 108, 111]⟩, fnV 32 p, .string ⟨#[116, 101, 108, 108]⟩, fnV 32 p, .string ⟨#[116, 97, 107, 101]⟩, fnV 32 p, .string ⟨#[116, 119, 105, 99, 101]⟩, fnV 32 p, .string ⟨#[108, 111, 115, 101]⟩, fnV 32 p, .string ⟨#[99, 114, 97, 115, 104]⟩, fnV 32 p, .string ⟨#[98, 101, 97, 99, 111, 110]⟩, fnV 33 p, .string ⟨#[99, 117, 116]⟩, fnV 31 p, .string ⟨#[109, 101, 110, 100]⟩, fnV 31 p]
theorem bs_app (s t : Bs) : (⟨s.toArray⟩ : ByteArray) ++ (⟨t.toArray⟩ : ByteArray) = ⟨(s ++ t).toArray⟩ := by
  apply ByteArray.ext
  simp [ByteArray.data_append]
theorem forms_zero (w : World) : (zeroValue 45).run Tryd.prog w = .ok (.agg #[.string ⟨#[]⟩, .nilFunc, .string ⟨#[]⟩, .nilFunc, .string ⟨#[]⟩, .nilFunc, .string ⟨#[]⟩, .nilFunc, .string ⟨#[]⟩, .nilFunc, .string ⟨#[]⟩, .nilFunc, .string ⟨#[]⟩, .nilFunc, .string ⟨#[]⟩, .nilFunc, .string ⟨#[]⟩, .nilFunc, .string ⟨#[]⟩, .nilFunc, .string ⟨#[]⟩, .nilFunc]) w := by
  have h : (Tryd.prog.info? 45).map (fun i => (i.zero, i.size)) = some (some (.agg #[.string ⟨#[]⟩, .nilFunc, .string ⟨#[]⟩, .nilFunc, .string ⟨#[]⟩, .nilFunc, .string ⟨#[]⟩, .nilFunc, .string ⟨#[]⟩, .nilFunc, .string ⟨#[]⟩, .nilFunc, .string ⟨#[]⟩, .nilFunc, .string ⟨#[]⟩, .nilFunc, .string ⟨#[]⟩, .nilFunc, .string ⟨#[]⟩, .nilFunc, .string ⟨#[]⟩, .nilFunc]), 22) := by kernel_rfl
  exact (zero_of_info h).1 w
set_option maxRecDepth 100000 in
theorem forms_at {B p : Nat} {w0 w : World} {l : List Ch} (h : M B w0 w l) : Calls Tryd.prog 19 #[pt p] w fun e w' => e = .returned (.agg (formsC p)) ∧ M B w0 w' l := by
  unfold pt
  have hmf : ∀ (fn : Fn) (first cap : Array Value) (w : World), (Instr.makeFunc fn first cap).run Tryd.prog w = .ok (.func fn first cap) w := fun _ _ _ _ => rfl
  have H := Lib.hid (h.alloc #[.string ⟨#[]⟩, .nilFunc, .string ⟨#[]⟩, .nilFunc, .string ⟨#[]⟩, .nilFunc, .string ⟨#[]⟩, .nilFunc, .string ⟨#[]⟩, .nilFunc, .string ⟨#[]⟩, .nilFunc, .string ⟨#[]⟩, .nilFunc, .string ⟨#[]⟩, .nilFunc, .string ⟨#[]⟩, .nilFunc, .string ⟨#[]⟩, .nilFunc, .string ⟨#[]⟩, .nilFunc] 45)
  have hi : (Tryd.prog.info? 45).map (·.size) = some (formsC p).size := by kernel_rfl
  have hld := Lib.hid ((H.out.setWhole (formsC p)).loadWhole Tryd.underlying45 rfl hi)
  have F := Lib.hid (H.out.setWhole (formsC p)).drop
  have h1 : (formsC p).all (·.oneCell') = true := by simp [formsC, fnV, pt, Value.oneCell']
  clear h
  go_enter Tryd.func19, Tryd.ntmps19
  go_wp2_with (refine wpList_storeWhole (vs := formsC p) hi H.out rfl h1 rfl rfl rfl rfl (fun _ => ?_))
  have hl := hld.out
  generalize (w.alloc _).setRow _ _ = w2 at hl F ⊢
  clear hld H
  refine bodyPost_ret (v := .agg (formsC p)) (by simp [results, Tryd.results19, asAddr, hl, Act.put]) rfl ⟨rfl, F.out⟩
theorem index_form {p : Nat} {k : Int} (hk : 1 ≤ k ∧ k ≤ 10) (w : World) : (Instr.index 45 (.agg (formsC p)) (.int .i64 k)).run Tryd.prog w = .ok (.agg #[bsV (nameB k.toNat), fnV (if sizeK k = 2 then 31 else if sizeK k = 0 then 33 else 32) p]) w := by
  have hz : (sizeOf 44).run Tryd.prog w = .ok 2 w := by
    have hi : (Tryd.prog.info? 44).map (·.size) = some 2 := by kernel_rfl
    cases hq : Tryd.prog.info? 44 with
    | none => simp [hq] at hi
    | some i => simp [hq] at hi; simp [sizeOf, typeInfo, hq, hi]
  obtain ⟨h1, h2⟩ := hk
  obtain rfl | rfl | rfl | rfl | rfl | rfl | rfl | rfl | rfl | rfl : k = 1 ∨ k = 2 ∨ k = 3 ∨ k = 4 ∨ k = 5 ∨ k = 6 ∨ k = 7 ∨ k = 8 ∨ k = 9 ∨ k = 10 := by omega
  all_goals
    unfold Instr.index
    simp only [asIntOf, Sem.run_bind, Sem.run_pure, Result.andThen_ok, run_underlying Tryd.underlying45 ]
    simp [part, hz, formsC, sizeK, nameB, bsV]
end N
end Go.Proofs.YtbnggcgojbkoaaaDoor
