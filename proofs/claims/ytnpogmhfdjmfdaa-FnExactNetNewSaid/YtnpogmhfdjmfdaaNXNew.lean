/-
  What the exact law of NetNew asks of nets.
-/
import Derived.Test.YtnpogmhfdjmfdaaNf
import Derived.Test.YtnpogmhfdjmfdaaNEq
import Derived.Test.YtnpogmhfdjmfdaaNd
import Derived.Test.YtnpogmhfdjmfdaaXa
set_option linter.unusedVariables false
set_option linter.unusedSectionVars false
set_option linter.unusedSimpArgs false
namespace Go.Proofs.Ytnpogmhfdjmfdaa
open Go.RowKit Go.Sort
namespace N
theorem setLinks_len : ∀ (l : List Int) (ls : List Bool), (setLinks ls l).length = ls.length
  | [], _ => rfl
  | [_], _ => rfl
  | a :: b :: l, ls => by
    show (setLinks _ l).length = _
    rw [setLinks_len l, List.length_set, List.length_set]
theorem new_cnt (ks : List Int) : 0 ≤ cntNt ((newN ks).getD noNt) ∧ cntNt ((newN ks).getD noNt) ≤ 999999 := by
  unfold newN
  split
  · show 0 ≤ cntL cntN baseN.nodes + ((setLinks baseN.links ks).length : Int) + cntL cntW [] + cntP baseN.past ∧ cntL cntN baseN.nodes + ((setLinks baseN.links ks).length : Int) + cntL cntW [] + cntP baseN.past ≤ 999999
    rw [setLinks_len, show cntL cntN baseN.nodes = 170 by decide +kernel, show (baseN.links).length = 25 by decide +kernel, show cntL cntW [] = 0 from rfl, show cntP baseN.past = 0 by decide +kernel]
    omega
  · exact ⟨by decide +kernel, by decide +kernel⟩
theorem new_len (ks : List Int) : LenN ((newN ks).getD noNt) := by
  unfold newN
  split
  · refine ⟨fun x hx => ?_, fun x hx => by cases hx⟩
    have hx' : x ∈ (List.range 5).map (fun i : Nat => l21Born i 1) := hx
    obtain ⟨i, _, rfl⟩ := List.mem_map.1 hx'
    intro e he
    obtain rfl := List.mem_singleton.1 he
    exact new_ok.small.lens
  · exact ⟨fun x hx => (by cases hx), fun x hx => (by cases hx)⟩
variable {B : Nat} {w0 w w' : World} {l : List Ch}
theorem ans_got {o : Option Nt} {e : Ending} (h : M B w0 w l) (ha : AnsN w o e w') : ∃ xa na ca xb nb cb xc nc cc xd nd cd, e = .returned (.tuple #[.agg #[.slice xa na ca, .slice xb nb cb, .slice xc nc cc, .slice xd nd cd], .bool o.isSome]) ∧ M B w0 w' (netC (.slice xa na ca) (.slice xb nb cb) (.slice xc nc cc) (.slice xd nd cd) (o.getD noNt) :: l) := by
  obtain ⟨v1, v2, v3, v4, fp, rfl, hs, hb⟩ := ha
  have hm : M B w0 w' (netC v1 v2 v3 v4 (o.getD noNt) :: l) := M.got (netR_frame (T := TY)) h hb hs
  obtain ⟨_, _, _, _, _, _, _, _, e, _, r1, r2, r3, r4⟩ := netR_iff.1 hs.1
  cases e
  obtain ⟨xa, ca, rfl, _⟩ := slcR_value r1
  obtain ⟨xb, cb, rfl, _⟩ := slcR_value r2
  obtain ⟨xc, cc, rfl, _⟩ := slcR_value r3
  obtain ⟨xd, cd, rfl, _⟩ := slcR_value r4
  exact ⟨_, _, _, _, _, _, _, _, _, _, _, _, rfl, hm⟩
theorem _root_.Go.Proofs.Ytnpogmhfdjmfdaa.M.gotInts {v : Value} {zs : List Int} (h : M B w0 w l) (hb : Below w.heap.size w w') (ho : OwnI w' w.heap.size v zs) : M B w0 w' (intsC v zs :: l) :=
  h.add hb (intsR_of ho) (block_nodup v) fun b hm => (World.ownsRow.lt ho b (block_mem hm)).1
theorem _root_.Go.Proofs.Ytnpogmhfdjmfdaa.M.ints {v : Value} {zs : List Int} (h : M B w0 w (intsC v zs :: l)) : Ints w v zs := by
  obtain ⟨f, hf, _⟩ := h.first
  obtain ⟨_, e, o, _⟩ := intsR_to hf
  cases e
  exact o.rd
theorem markI1_M {v : Value} {zs : List Int} (h : M B w0 w (intsC v zs :: l)) (hn : zs.length ≤ 1048576) :
    Calls Try.prog 9 #[v, .int .i64 1] w fun r w' => r = .returned (.int .i64 (1 + (zs.length : Int))) ∧ M B w0 w' (intsC v (mkI zs 1) :: l) := by
  obtain ⟨f, hf, _⟩ := h.first
  obtain ⟨v', e, o, _⟩ := intsR_to hf
  cases e
  refine (markIntS_own w 0 v zs 1 o hn (by omega) (by omega)).mono ?_
  rintro r w' ⟨rfl, o', hg⟩
  refine ⟨rfl, h.turn fun f hf nd lo => ?_⟩
  obtain ⟨_, e, _, rfl⟩ := intsR_to hf
  cases e
  exact ⟨kept_row hg, _, intsR_of o', nd, fun b hb => .inl hb⟩
theorem _root_.Go.Proofs.Ytnpogmhfdjmfdaa.M.netRd {v1 v2 v3 v4 : Value} {a : Nt} (h : M B w0 w (netC v1 v2 v3 v4 a :: l)) : ∃ f, netR TY w [v1, v2, v3, v4] a f := let ⟨f, hf, _⟩ := h.first; ⟨f, hf⟩
end N
end Go.Proofs.Ytnpogmhfdjmfdaa
