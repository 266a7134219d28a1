/-
  The statement of the law FnSumOfCut: at every input the call returns true and leaves what it was given as it was. The frame is the kit's shell; the walk is ours.
-/
import Derived.Test.YtnoilafoeaknjaaGreatZImOf
import Derived.Test.YtnoilafoeaknjaaGreatZSpOf
import Derived.Test.YtnoilafoeaknjaaGreatZDraw
import Derived.Test.YtnoilafoeaknjaaGreatZLk
import Derived.Test.YtnoilafoeaknjaaGreatZImGet
import Derived.Test.YtnoilafoeaknjaaGreatZCut
import Derived.Deep.RegionWith
import Derived.Test.YtnoilafoeaknjaaGreatRows
import Derived.Test.YtnoilafoeaknjaaGreatMk
import Derived.WalkKit
import Derived.ProofKit
import Derived.OpenShut
import Derived.ShutString
import Derived.ChangeOld
import Derived.Below
namespace Go.Proofs.YtnoilafoeaknjaaGreat.fnSumOfCut
open Go.ChangeShapes Go.WideShapes Go.ChangeAt Go.RowKit
open Go.ChangeMaps (open_string shut_string)
set_option linter.unusedVariables false

theorem own : ownKnob Tryz.prog.godebug = none := by kernel_rfl
theorem laidOut : laidOutB Tryz.prog = true := by kernel_rfl

/-- WHAT THE WALK IS TOLD OF A SLICE OF INTEGERS THAT CAME IN: it is nil; or it leads to a row of 'cap' cells, the numbers 'zs' (the first 'len' are its elements, the rest its spare room), each fitting its kind. -/
def IsRow (k : IntKind) (w : World) (a : Option Addr) (len cap : Nat) (zs : List Int) : Prop :=
  (a = none ∧ len = 0 ∧ cap = 0 ∧ zs = []) ∨
  ∃ x, a = some x ∧ len ≤ cap ∧ cap ≤ maxLen ∧ zs.length = cap ∧ (∀ i, i < zs.length → w.cell? (x.add i) = some (.int k (zs.getD i 0))) ∧ ∀ n ∈ zs, (Lit.int k n).wf = true

/-! ### STEP 1: THE WALK: the Go text returns true, AND WRITES NOTHING THAT WAS THERE: 'Below w.heap.size w w'' (Derived/Below.lean: '.refl', '.alloc', '.drew', '.setCell' at a new block, '.trans'). Open each 'IsRow' by 'rcases' AHEAD of 'go_enter'; part every test ahead of the walk. -/
set_option maxRecDepth 100000 in
set_option maxHeartbeats 16000000 in
theorem walk (a0 : Option Addr) (len0 cap0 : Nat) (z0 : List Int) (a1 : Option Addr) (len1 cap1 : Nat) (z1 : List Int) (w : World) (w0 : IsRow .u8 w a0 len0 cap0 z0) (w1 : IsRow .u8 w a1 len1 cap1 z1) :
    Calls Tryz.prog 16 #[.slice a0 len0 cap0, .slice a1 len1 cap1] w fun e w' => e = .returned (.bool true) ∧ Below w.heap.size w w' := by
  obtain ⟨hb, hl⟩ := bts_of w a0 len0 cap0 z0 w0
  obtain ⟨hb', hl'⟩ := bts_of w a1 len1 cap1 z1 w1
  rcases hl with hl | hl
  · go_enter Tryz.func16, Tryz.ntmps16
    go_wp2
    go_ret
    exact ⟨rfl, Below.refl _ _⟩
  rcases hl' with hl' | hl'
  · go_enter Tryz.func16, Tryz.ntmps16
    go_wp2
    go_ret
    exact ⟨rfl, Below.refl _ _⟩
  have HB := Lib.hid hb
  have HB' := Lib.hid hb'
  clear hb w0 hb' w1
  have B := Lib.hid (Below.refl w.heap.size w)
  go_enter Tryz.func16, Tryz.ntmps16
  go_wp2_with fail
  refine (drawSumOf_at w _ len0 ⟨_, _, rfl⟩ (bts_below HB.out B.out)).mono ?_
  rintro e w1 ⟨x0, c0, l, rfl, ho, hlen, hb⟩
  obtain ⟨n0, hn⟩ : ∃ n, n = l.length := ⟨_, rfl⟩
  rw [← hn] at ho hlen ⊢
  have Hn0 := Lib.hid hn
  have Mn0 := Lib.hid hlen
  clear hn
  replace B := Lib.hid (B.out.trans (hb.mono B.out.size))
  have Ll := Lib.hid (ho.rd)
  clear hb
  clear ho hlen
  obtain ⟨s, hs⟩ : ∃ s, s = upS l := ⟨_, rfl⟩
  have Hs := Lib.hid hs
  have SMs := Lib.hid (show Small s by rw [hs]; exact up_small l)
  have Kiml := Lib.hid (fun (W : World) (h : Ints W (.slice x0 n0 c0) l) => show Calls Tryz.prog 30 #[.slice x0 n0 c0] W fun e w' => ∃ U, e = .returned (.tuple #[.agg #[.slice U.xr U.nr U.cr, .slice U.xf U.nf U.cf, .slice U.xt U.nt U.ct, .int .i64 s.lo, .int .i64 s.al, .slice U.xk U.nk U.ck, .int .i64 s.ka], .bool (okS s)]) ∧ OwnS w' W.heap.size w'.heap.size U s ∧ Below W.heap.size W w' by rw [hs]; exact imSumOf_at W x0 n0 c0 l h)
  have Kspl := Lib.hid (fun (W : World) (h : Ints W (.slice x0 n0 c0) l) => show Calls Tryz.prog 31 #[.slice x0 n0 c0] W fun e w' => ∃ U, e = .returned (.tuple #[.agg #[.slice U.xr U.nr U.cr, .slice U.xf U.nf U.cf, .slice U.xt U.nt U.ct, .int .i64 s.lo, .int .i64 s.al, .slice U.xk U.nk U.ck, .int .i64 s.ka], .bool (okS s)]) ∧ OwnS w' W.heap.size w'.heap.size U s ∧ Below W.heap.size W w' by rw [hs]; exact spSumOf_at W x0 n0 c0 l h)
  have Ook := Lib.hid (fun (q : okS s = true) => show okS (upS l) = true by rw [← hs]; exact q)
  clear hs
  generalize okS s = ok at Kiml Kspl Ook
  have K1 := Kspl.out w1 Ll.out
  go_wp2_with fail
  refine (K1).mono ?_
  rintro e w2 ⟨V2, rfl, ho, hb⟩
  clear K1
  replace ho := ho.base (B' := w.heap.size) B.out.size (Nat.le_refl _) (Nat.le_refl _)
  replace B := Lib.hid (B.out.trans (hb.mono B.out.size))
  replace Ll := Lib.hid (Ll.out.below hb (Nat.le_refl _))
  have Q := Lib.hid (ho)
  clear hb
  obtain ⟨W2, hW⟩ : ∃ W, W = (w2.alloc (.cells #[.slice V2.xr V2.nr V2.cr, .slice V2.xf V2.nf V2.cf, .slice V2.xt V2.nt V2.ct, .int .i64 s.lo, .int .i64 s.al, .slice V2.xk V2.nk V2.ck, .int .i64 s.ka] 39)) := ⟨_, rfl⟩
  replace B := Lib.hid ((B.out).alloc (Nat.le_trans B.out.size (by simp)) (.cells #[.slice V2.xr V2.nr V2.cr, .slice V2.xf V2.nf V2.cf, .slice V2.xt V2.nt V2.ct, .int .i64 s.lo, .int .i64 s.al, .slice V2.xk V2.nk V2.ck, .int .i64 s.ka] 39))
  rw [← hW] at B
  replace Ll := Lib.hid (Ll.out.below ((Below.refl _ _).alloc (Nat.le_refl _) (.cells #[.slice V2.xr V2.nr V2.cr, .slice V2.xf V2.nf V2.cf, .slice V2.xt V2.nt V2.ct, .int .i64 s.lo, .int .i64 s.al, .slice V2.xk V2.nk V2.ck, .int .i64 s.ka] 39)) (Nat.le_refl _))
  rw [← hW] at Ll
  replace Q := Lib.hid (Q.out.alloc (.cells #[.slice V2.xr V2.nr V2.cr, .slice V2.xf V2.nf V2.cf, .slice V2.xt V2.nt V2.ct, .int .i64 s.lo, .int .i64 s.al, .slice V2.xk V2.nk V2.ck, .int .i64 s.ka] 39))
  rw [← hW] at Q
  have Y := Box7.new w2 39 (.slice V2.xr V2.nr V2.cr) (.slice V2.xf V2.nf V2.cf) (.slice V2.xt V2.nt V2.ct) (.int .i64 s.lo) (.int .i64 s.al) (.slice V2.xk V2.nk V2.ck) (.int .i64 s.ka)
  rw [← hW] at Y
  go_wp2_with fail
  rw [← hW]
  clear hW
  clear ho
  have K1 := Kiml.out W2 Ll.out
  go_wp2_with fail
  refine (K1).mono ?_
  rintro e w3 ⟨V1, rfl, ho, hb⟩
  clear K1
  replace ho := ho.base (B' := w.heap.size) B.out.size (Nat.le_refl _) (Nat.le_refl _)
  replace B := Lib.hid (B.out.trans (hb.mono B.out.size))
  replace Ll := Lib.hid (Ll.out.below hb (Nat.le_refl _))
  replace Q := Lib.hid (Q.out.below hb)
  replace Y := Y.later hb
  have P := Lib.hid (ho)
  clear hb
  obtain ⟨W3, hW⟩ : ∃ W, W = (w3.alloc (.cells #[.slice V1.xr V1.nr V1.cr, .slice V1.xf V1.nf V1.cf, .slice V1.xt V1.nt V1.ct, .int .i64 s.lo, .int .i64 s.al, .slice V1.xk V1.nk V1.ck, .int .i64 s.ka] 39)) := ⟨_, rfl⟩
  obtain ⟨ay0, ay1, ay2, ay3, ay4, ay5, ay6⟩ := ((Y.alloc (.cells #[.slice V1.xr V1.nr V1.cr, .slice V1.xf V1.nf V1.cf, .slice V1.xt V1.nt V1.ct, .int .i64 s.lo, .int .i64 s.al, .slice V1.xk V1.nk V1.ck, .int .i64 s.ka] 39))).cells
  replace B := Lib.hid ((B.out).alloc (Nat.le_trans B.out.size (by simp)) (.cells #[.slice V1.xr V1.nr V1.cr, .slice V1.xf V1.nf V1.cf, .slice V1.xt V1.nt V1.ct, .int .i64 s.lo, .int .i64 s.al, .slice V1.xk V1.nk V1.ck, .int .i64 s.ka] 39))
  rw [← hW] at B
  replace Ll := Lib.hid (Ll.out.below ((Below.refl _ _).alloc (Nat.le_refl _) (.cells #[.slice V1.xr V1.nr V1.cr, .slice V1.xf V1.nf V1.cf, .slice V1.xt V1.nt V1.ct, .int .i64 s.lo, .int .i64 s.al, .slice V1.xk V1.nk V1.ck, .int .i64 s.ka] 39)) (Nat.le_refl _))
  rw [← hW] at Ll
  replace Q := Lib.hid (Q.out.alloc (.cells #[.slice V1.xr V1.nr V1.cr, .slice V1.xf V1.nf V1.cf, .slice V1.xt V1.nt V1.ct, .int .i64 s.lo, .int .i64 s.al, .slice V1.xk V1.nk V1.ck, .int .i64 s.ka] 39))
  rw [← hW] at Q
  replace Y := Y.alloc (.cells #[.slice V1.xr V1.nr V1.cr, .slice V1.xf V1.nf V1.cf, .slice V1.xt V1.nt V1.ct, .int .i64 s.lo, .int .i64 s.al, .slice V1.xk V1.nk V1.ck, .int .i64 s.ka] 39)
  rw [← hW] at Y
  replace P := Lib.hid (P.out.alloc (.cells #[.slice V1.xr V1.nr V1.cr, .slice V1.xf V1.nf V1.cf, .slice V1.xt V1.nt V1.ct, .int .i64 s.lo, .int .i64 s.al, .slice V1.xk V1.nk V1.ck, .int .i64 s.ka] 39))
  rw [← hW] at P
  have X := Box7.new w3 39 (.slice V1.xr V1.nr V1.cr) (.slice V1.xf V1.nf V1.cf) (.slice V1.xt V1.nt V1.ct) (.int .i64 s.lo) (.int .i64 s.al) (.slice V1.xk V1.nk V1.ck) (.int .i64 s.ka)
  rw [← hW] at X
  go_wp2_with fail
  rw [← hW]
  clear hW ay0 ay1 ay2 ay3 ay4 ay5 ay6
  clear ho
  cases ok with
  | false =>
    refine (lkSum_same W3 V1 V2 s P.out.rd Q.out.rd SMs.out).mono ?_
    rintro e w4 ⟨rfl, hb⟩
    replace B := Lib.hid (B.out.trans (hb.mono B.out.size))
    replace Ll := Lib.hid (Ll.out.below hb (Nat.le_refl _))
    replace Q := Lib.hid (Q.out.below hb)
    replace Y := Y.later hb
    replace P := Lib.hid (P.out.below hb)
    replace X := X.later hb
    clear hb
    obtain ⟨cx0, cx1, cx2, cx3, cx4, cx5, cx6⟩ := (X).cells
    obtain ⟨cy0, cy1, cy2, cy3, cy4, cy5, cy6⟩ := (Y).cells
    go_wp2_with fail
    refine (lkSum_same w4 V1 V2 s P.out.rd Q.out.rd SMs.out).mono ?_
    rintro e w5 ⟨rfl, hb⟩
    clear cx0 cx1 cx2 cx3 cx4 cx5 cx6 cy0 cy1 cy2 cy3 cy4 cy5 cy6
    replace B := Lib.hid (B.out.trans (hb.mono B.out.size))
    replace Ll := Lib.hid (Ll.out.below hb (Nat.le_refl _))
    replace Q := Lib.hid (Q.out.below hb)
    replace Y := Y.later hb
    replace P := Lib.hid (P.out.below hb)
    replace X := X.later hb
    clear hb
    go_wp2
    go_ret
    exact ⟨rfl, B.out⟩
  | true =>
    have OK := Lib.hid (Ook.out rfl)
    clear Ook
    refine (lkSum_same W3 V1 V2 s P.out.rd Q.out.rd SMs.out).mono ?_
    rintro e w4 ⟨rfl, hb⟩
    replace B := Lib.hid (B.out.trans (hb.mono B.out.size))
    replace Ll := Lib.hid (Ll.out.below hb (Nat.le_refl _))
    replace Q := Lib.hid (Q.out.below hb)
    replace Y := Y.later hb
    replace P := Lib.hid (P.out.below hb)
    replace X := X.later hb
    clear hb
    clear Y
    clear Q
    have hm := Mn0.out
    have hm2 := Hn0.out
    obtain ⟨k0, hk0⟩ : ∃ k : Nat, (k : Int) = (len1 : Int) % ((n0 : Int) + 1) := ⟨((len1 : Int) % ((n0 : Int) + 1)).toNat, Int.toNat_of_nonneg (Int.emod_nonneg _ (by omega))⟩
    have kl := Int.emod_lt_of_pos (len1 : Int) (show (0 : Int) < (n0 : Int) + 1 by omega)
    have tm : (len1 : Int).tmod ((n0 : Int) + 1) = (k0 : Int) := by rw [Int.tmod_eq_emod_of_nonneg (by omega)]; exact hk0.symm
    have wn1 : IntKind.i64.wrap ((n0 : Int) + 1) = (n0 : Int) + 1 := IntWalk.i64_in _ (by omega)
    have n1p : (0 : Int) < (n0 : Int) + 1 := by omega
    have kle : k0 ≤ n0 := by omega
    have hmx : n0 ≤ 100 := by omega
    clear hk0 kl hm hm2
    have LT := Lib.hid (okS_up OK.out).2
    have OKP := Lib.hid (fun (j : Nat) => up_fine (l := l.take j) (fun t ht => LT.out t (List.mem_of_mem_take ht)) (by rw [List.length_take]; have := Mn0.out; have := Hn0.out; omega))
    have YES := Lib.hid (fun (j : Nat) (hj : j < n0) => show addOkS (upS (l.take j)) (l.getD j 0) = true by
        have q := OKP.out (j + 1)
        rw [up_take (by rw [← Hn0.out]; exact hj)] at q
        cases h : addOkS (upS (l.take j)) (l.getD j 0) with
        | true => rfl
        | false => rw [addS_no h] at q; cases q)
    have cp := Ll.out.cap
    have LC := Lib.hid (Ll.out.cut kle)
    have D := Lib.hid (Below.refl w4.heap.size w4)
    have HZ : Hid (∀ k, k < n0 → ∃ b o, x0 = some ⟨b, o, none⟩ ∧ b < w4.heap.size ∧ w4.cell? ⟨b, o + k, none⟩ = some (.int .i64 (l.getD k 0))) := fun i hi => by
      rcases Ll.out with ⟨e, _⟩ | ⟨b, o, c', e, _, _, hbb, hc⟩
      · simp at e; omega
      · exact ⟨b, o, (Value.slice.inj e).1, hbb, hc i (by rw [← Hn0.out]; exact hi)⟩
    rcases (show (x0 = none ∧ k0 = 0) ∨ ∃ b o, x0 = some ⟨b, o, none⟩ by rcases Ll.out with ⟨e, _⟩ | ⟨b, o, c', e, _⟩; (simp at e; left; exact ⟨e.1, by omega⟩); (right; exact ⟨b, o, (Value.slice.inj e).1⟩)) with ⟨rfl, rfl⟩ | ⟨bl, ol, rfl⟩
    · skip
      have K1 := imSumOf_at w4 none 0 c0 (l.take 0) LC.out
      rw [OKP.out 0] at K1
      obtain ⟨s5, hs5⟩ : ∃ s5, s5 = upS (l.take 0) := ⟨_, rfl⟩
      rw [← hs5] at K1
      have H5 := Lib.hid hs5
      clear hs5
      go_wp2_with fail
      refine (K1).mono ?_
      rintro e w5 ⟨V3, rfl, ho, hb⟩
      clear K1
      have sW := hb.size
      replace ho := ho.base (B' := w4.heap.size) D.out.size (Nat.le_refl _) (Nat.le_refl _)
      replace D := Lib.hid (D.out.trans (hb.mono D.out.size))
      have O := Lib.hid (ho)
      clear hb
      obtain ⟨W5, hW⟩ : ∃ W, W = (w5.alloc (.cells #[.slice V3.xr V3.nr V3.cr, .slice V3.xf V3.nf V3.cf, .slice V3.xt V3.nt V3.ct, .int .i64 s5.lo, .int .i64 s5.al, .slice V3.xk V3.nk V3.ck, .int .i64 s5.ka] 39)) := ⟨_, rfl⟩
      replace D := Lib.hid ((D.out).alloc (Nat.le_trans D.out.size (by simp)) (.cells #[.slice V3.xr V3.nr V3.cr, .slice V3.xf V3.nf V3.cf, .slice V3.xt V3.nt V3.ct, .int .i64 s5.lo, .int .i64 s5.al, .slice V3.xk V3.nk V3.ck, .int .i64 s5.ka] 39))
      rw [← hW] at D
      replace O := Lib.hid (O.out.alloc (.cells #[.slice V3.xr V3.nr V3.cr, .slice V3.xf V3.nf V3.cf, .slice V3.xt V3.nt V3.ct, .int .i64 s5.lo, .int .i64 s5.al, .slice V3.xk V3.nk V3.ck, .int .i64 s5.ka] 39))
      rw [← hW] at O
      have X3 := Box7.new w5 39 (.slice V3.xr V3.nr V3.cr) (.slice V3.xf V3.nf V3.cf) (.slice V3.xt V3.nt V3.ct) (.int .i64 s5.lo) (.int .i64 s5.al) (.slice V3.xk V3.nk V3.ck) (.int .i64 s5.ka)
      rw [← hW] at X3
      clear ho
      obtain ⟨b3, hb3⟩ : ∃ b3, b3 = w5.heap.size := ⟨_, rfl⟩
      rw [← hb3] at X3 sW
      have HO := Lib.hid (show OwnS W5 w4.heap.size b3 V3 s5 by rw [hb3]; exact O.out)
      clear O
      go_wp2
      rw [← hW, ← hb3]
      clear hW hb3 tm wn1 n1p
      go_loopw [12, 13] (fun f i wr => ∃ (j : Nat) (V : SV) (T : Nat), f = .bool true ∧ i = .int .i64 j ∧ j ≤ n0 ∧ OwnS wr w4.heap.size T V (upS (l.take j)) ∧ BoxS wr b3 V (upS (l.take j)) ∧ Below w4.heap.size w4 wr) (fun _ i _ => n0 - (intOf i).toNat)
      case atStart => exact ⟨0, V3, b3, rfl, rfl, by omega, by rw [← H5.out]; exact HO.out, by rw [← H5.out]; exact X3, D.out⟩
      case round =>
        clear HO X3 D H5
        obtain ⟨j, V, T, rfl, rfl, hj, ho, hX, hD⟩ := hrel
        obtain ⟨sj, hs⟩ : ∃ s, s = upS (l.take j) := ⟨_, rfl⟩
        rw [← hs] at ho hX
        have HS := Lib.hid hs
        have O := Lib.hid ho
        have X3 := hX.box
        have D := Lib.hid hD
        clear hs ho hX hD
        by_cases hlt : j < n0
        · obtain ⟨t, ht⟩ : ∃ t, t = l.getD j 0 := ⟨_, rfl⟩
          obtain ⟨bq, oq, hx, hbw, hce⟩ := HZ.out j hlt
          cases hx
        · obtain rfl : j = n0 := by omega
          have ES := Lib.hid (show sj = s by rw [HS.out, Hs.out, Hn0.out, List.take_length])
          have PP := Lib.hid (P.out.below D.out)
          have X1 := X.later D.out
          have BB := Lib.hid (B.out.trans (D.out.mono B.out.size))
          clear HS
          obtain ⟨d0, d1, d2, d3, d4, d5, d6⟩ := X1.cells
          obtain ⟨e0, e1, e2, e3, e4, e5, e6⟩ := X3.cells
          have K1 := lkSum_same wr V V1 s (by rw [← ES.out]; exact O.out.rd) PP.out.rd SMs.out
          rw [← ES.out] at d3 d4 d6 K1
          go_wp2_with fail
          refine K1.mono ?_
          rintro e w9 ⟨rfl, hb⟩
          go_wp2
          go_ret
          exact ⟨rfl, BB.out.trans (hb.mono BB.out.size)⟩
    · skip
      have K1 := imSumOf_at w4 (some ⟨bl, ol, none⟩) k0 c0 (l.take k0) LC.out
      rw [OKP.out k0] at K1
      obtain ⟨s5, hs5⟩ : ∃ s5, s5 = upS (l.take k0) := ⟨_, rfl⟩
      rw [← hs5] at K1
      have H5 := Lib.hid hs5
      clear hs5
      go_wp2_with fail
      refine (K1).mono ?_
      rintro e w5 ⟨V3, rfl, ho, hb⟩
      clear K1
      have sW := hb.size
      replace ho := ho.base (B' := w4.heap.size) D.out.size (Nat.le_refl _) (Nat.le_refl _)
      replace D := Lib.hid (D.out.trans (hb.mono D.out.size))
      have O := Lib.hid (ho)
      clear hb
      obtain ⟨W5, hW⟩ : ∃ W, W = (w5.alloc (.cells #[.slice V3.xr V3.nr V3.cr, .slice V3.xf V3.nf V3.cf, .slice V3.xt V3.nt V3.ct, .int .i64 s5.lo, .int .i64 s5.al, .slice V3.xk V3.nk V3.ck, .int .i64 s5.ka] 39)) := ⟨_, rfl⟩
      replace D := Lib.hid ((D.out).alloc (Nat.le_trans D.out.size (by simp)) (.cells #[.slice V3.xr V3.nr V3.cr, .slice V3.xf V3.nf V3.cf, .slice V3.xt V3.nt V3.ct, .int .i64 s5.lo, .int .i64 s5.al, .slice V3.xk V3.nk V3.ck, .int .i64 s5.ka] 39))
      rw [← hW] at D
      replace O := Lib.hid (O.out.alloc (.cells #[.slice V3.xr V3.nr V3.cr, .slice V3.xf V3.nf V3.cf, .slice V3.xt V3.nt V3.ct, .int .i64 s5.lo, .int .i64 s5.al, .slice V3.xk V3.nk V3.ck, .int .i64 s5.ka] 39))
      rw [← hW] at O
      have X3 := Box7.new w5 39 (.slice V3.xr V3.nr V3.cr) (.slice V3.xf V3.nf V3.cf) (.slice V3.xt V3.nt V3.ct) (.int .i64 s5.lo) (.int .i64 s5.al) (.slice V3.xk V3.nk V3.ck) (.int .i64 s5.ka)
      rw [← hW] at X3
      clear ho
      obtain ⟨b3, hb3⟩ : ∃ b3, b3 = w5.heap.size := ⟨_, rfl⟩
      rw [← hb3] at X3 sW
      have HO := Lib.hid (show OwnS W5 w4.heap.size b3 V3 s5 by rw [hb3]; exact O.out)
      clear O
      go_wp2
      rw [← hW, ← hb3]
      clear hW hb3 tm wn1 n1p
      go_loopw [12, 13] (fun f i wr => ∃ (j : Nat) (V : SV) (T : Nat), f = .bool true ∧ i = .int .i64 j ∧ j ≤ n0 ∧ OwnS wr w4.heap.size T V (upS (l.take j)) ∧ BoxS wr b3 V (upS (l.take j)) ∧ Below w4.heap.size w4 wr) (fun _ i _ => n0 - (intOf i).toNat)
      case atStart => exact ⟨k0, V3, b3, rfl, rfl, by omega, by rw [← H5.out]; exact HO.out, by rw [← H5.out]; exact X3, D.out⟩
      case round =>
        clear HO X3 D H5
        obtain ⟨j, V, T, rfl, rfl, hj, ho, hX, hD⟩ := hrel
        obtain ⟨sj, hs⟩ : ∃ s, s = upS (l.take j) := ⟨_, rfl⟩
        rw [← hs] at ho hX
        have HS := Lib.hid hs
        have O := Lib.hid ho
        have X3 := hX.box
        have D := Lib.hid hD
        clear hs ho hX hD
        by_cases hlt : j < n0
        · obtain ⟨t, ht⟩ : ∃ t, t = l.getD j 0 := ⟨_, rfl⟩
          obtain ⟨bq, oq, hx, hbw, hce⟩ := HZ.out j hlt
          obtain ⟨rfl, rfl⟩ : bl = bq ∧ ol = oq := by simpa using hx
          have ce : wr.drew.cell? ⟨bl, ol + j, none⟩ = some (.int .i64 t) := by show wr.cell? _ = _; rw [ht]; exact (D.out.cell (p := ⟨bl, ol + j, none⟩) hbw).trans hce
          have UP := Lib.hid (show upS (l.take (j + 1)) = addS sj t by rw [HS.out, ht]; exact up_take (by rw [← Hn0.out]; exact hlt))
          have K1 := imSumAdd_at wr.drew V sj t (O.out.rd.below (Below.drew (Below.refl _ _)) (Nat.le_refl _))
          rw [show addOkS sj t = true by rw [HS.out, ht]; exact YES.out j hlt, ← UP.out] at K1
          obtain ⟨s6, hs6⟩ : ∃ s6, s6 = upS (l.take (j + 1)) := ⟨_, rfl⟩
          rw [← hs6] at K1
          have H6 := Lib.hid hs6
          have KK := Lib.hid K1
          clear ht hce hs6 K1 UP
          have hA := X3.drew
          have lb := X3.lt
          have j0 : (0 : Int) ≤ (j : Int) := by omega
          have jn : (j : Int) < (n0 : Int) := by omega
          obtain ⟨c0', c1', c2', c3', c4', c5', c6'⟩ := hA.cells
          have fx := hA.free
          go_wp2
          go_region_with (first | (go_at_call 52; refine KK.out.mono ?_; rintro e v1 ⟨U, rfl, ho6, hb6⟩; have Y3 := (X3.drew).later hb6; obtain ⟨z0, z1, z2, z3, z4, z5, z6⟩ := Y3.cells; have fz := Y3.free; have D6 := D.out.trans (Below.trans (Below.drew (Below.refl _ _)) hb6 |>.mono D.out.size); have O6 := Lib.hid (ho6.base (B' := w4.heap.size) D.out.size (Nat.le_refl _) (Nat.le_refl _)); have DD := Lib.hid D6; have YY := Lib.hid Y3; clear ho6 hb6 D6 Y3))
          all_goals
            have OF := OwnS.box7 O6.out YY.out (.slice U.xr U.nr U.cr) (.slice U.xf U.nf U.cf) (.slice U.xt U.nt U.ct) (.int .i64 s6.lo) (.int .i64 s6.al) (.slice U.xk U.nk U.ck) (.int .i64 s6.ka)
            have BF := below_set7 DD.out (show w4.heap.size ≤ b3 by omega) (.slice U.xr U.nr U.cr) (.slice U.xf U.nf U.cf) (.slice U.xt U.nt U.ct) (.int .i64 s6.lo) (.int .i64 s6.al) (.slice U.xk U.nk U.ck) (.int .i64 s6.ka)
            have XF := YY.out.set (.slice U.xr U.nr U.cr) (.slice U.xf U.nf U.cf) (.slice U.xt U.nt U.ct) (.int .i64 s6.lo) (.int .i64 s6.al) (.slice U.xk U.nk U.ck) (.int .i64 s6.ka)
            unfold set7 at OF BF XF
            have OH := Lib.hid OF
            have BH := Lib.hid BF
            have XH := Lib.hid XF
            clear OF BF XF
            go_wp2
            go_roundw
            case rel => exact ⟨j + 1, U, v1.heap.size, rfl, by go_num, by omega, by rw [← H6.out]; exact OH.out, by rw [← H6.out]; exact XH.out, BH.out⟩
            case measure => simp [intOf]; omega
        · obtain rfl : j = n0 := by omega
          have ES := Lib.hid (show sj = s by rw [HS.out, Hs.out, Hn0.out, List.take_length])
          have PP := Lib.hid (P.out.below D.out)
          have X1 := X.later D.out
          have BB := Lib.hid (B.out.trans (D.out.mono B.out.size))
          clear HS
          obtain ⟨d0, d1, d2, d3, d4, d5, d6⟩ := X1.cells
          obtain ⟨e0, e1, e2, e3, e4, e5, e6⟩ := X3.cells
          have K1 := lkSum_same wr V V1 s (by rw [← ES.out]; exact O.out.rd) PP.out.rd SMs.out
          rw [← ES.out] at d3 d4 d6 K1
          go_wp2_with fail
          refine K1.mono ?_
          rintro e w9 ⟨rfl, hb⟩
          go_wp2
          go_ret
          exact ⟨rfl, BB.out.trans (hb.mono BB.out.size)⟩

/-! ### THE ROW's STEP: WRITTEN OUT: LEAVE IT -/
set_option maxRecDepth 100000 in
theorem lifted (os : Os) (started : os.Started) (H : Type) (enc : TypeId × Value → H) :
    ReturnsInHanded {} Tryz.checked os 16 .any (Rows.fnSumOfCutSpec.pre6 enc Tryz.prog Tryz.f16 Rows.fnSumOfCutRow.domain false) (Rows.fnSumOfCutSpec.post enc Tryz.prog Tryz.f16 false true false false) := by
  refine returnsInHanded_of_change (C := Tryz.checked) own started (by kernel_rfl) Tryz.func16
    (ChangeSpec.witness6 (enc := enc) (C := Tryz.checked) false ⟨#[], #[.slice none 0 0, .slice none 0 0], []⟩ 8 (by kernel_rfl) (by kernel_rfl) (by kernel_rfl) (by kernel_rfl)) ?_
  intro W base args ds gs before hval0 hW hcnd _
  have hval : ∀ (j : Nat) t v, Tryz.f16.params[j]? = some t → args[j]? = some v → Value.okWide Tryz.prog W .any base t v := hval0
  have hW' := hW
  obtain ⟨p, q, hA0, hV, rfl, hfz, hnd⟩ := hW
  have hA : DataW.TrodAll enc Tryz.prog W 0 (fun _ => true) true Tryz.f16.params.toList args.toList ds p := hA0
  rw [Tryz.params16] at hA hval
  obtain ⟨v0, vs0, d0, ds0, p0, q0, hargs, rfl, rfl, h0, r0⟩ := trodAll_cons hA
  obtain ⟨v1, vs1, d1, ds1, p1, q1, rfl, rfl, rfl, h1, r1⟩ := trodAll_cons r0
  obtain ⟨rfl, rfl, rfl⟩ := trodAll_nil r1
  obtain rfl : args = #[v0, v1] := by cases args; simp_all
  obtain ⟨rfl, rfl⟩ := trodVars_none hV
  obtain ⟨a0, len0, cap0, rfl⟩ := okWide_slice Tryz.underlying22 (hval 0 22 v0 rfl rfl)
  have k0 := h0
  have lt0 : ∀ x ∈ p0, x.block < W.heap.size := by obtain ⟨m, hm⟩ := k0; exact DataW.trod_lt m _ _ _ hm
  obtain ⟨z0, w0⟩ : ∃ zs, IsRow .u8 W a0 len0 cap0 zs := by
    obtain ⟨fuel, hf⟩ := h0
    rcases open_ints Tryz.underlying22 Tryz.underlying5 (by kernel_rfl) hf with ⟨hcs, _⟩ | ⟨x, l, c, zs, hcs, _, hl, hm, hz, _, hcell, hwz⟩
    · simp [Value.cells] at hcs
      obtain ⟨rfl, rfl, rfl⟩ := hcs
      exact ⟨[], .inl ⟨rfl, rfl, rfl, rfl⟩⟩
    · simp [Value.cells] at hcs
      obtain ⟨rfl, rfl, rfl⟩ := hcs
      exact ⟨zs, .inr ⟨_, rfl, hl, hm, by simpa using hz, hcell, hwz⟩⟩
  obtain ⟨a1, len1, cap1, rfl⟩ := okWide_slice Tryz.underlying22 (hval 1 22 v1 rfl rfl)
  have k1 := h1
  have lt1 : ∀ x ∈ p1, x.block < W.heap.size := by obtain ⟨m, hm⟩ := k1; exact DataW.trod_lt m _ _ _ hm
  obtain ⟨z1, w1⟩ : ∃ zs, IsRow .u8 W a1 len1 cap1 zs := by
    obtain ⟨fuel, hf⟩ := h1
    rcases open_ints Tryz.underlying22 Tryz.underlying5 (by kernel_rfl) hf with ⟨hcs, _⟩ | ⟨x, l, c, zs, hcs, _, hl, hm, hz, _, hcell, hwz⟩
    · simp [Value.cells] at hcs
      obtain ⟨rfl, rfl, rfl⟩ := hcs
      exact ⟨[], .inl ⟨rfl, rfl, rfl, rfl⟩⟩
    · simp [Value.cells] at hcs
      obtain ⟨rfl, rfl, rfl⟩ := hcs
      exact ⟨zs, .inr ⟨_, rfl, hl, hm, by simpa using hz, hcell, hwz⟩⟩
  clear hA0 hval0
  refine (walk a0 len0 cap0 z0 a1 len1 cap1 z1 W w0 w1).mono fun e W' ⟨he, bel⟩ => ?_
  subst he
  exact ⟨_, rfl, _, _, _, [], _, [], hW', trodAll_mk1 (shut_bool Tryz.underlying4 _), (trodAll_cons_mk (Below.trod laidOut (by kernel_rfl) (of_decide_eq_true (by kernel_rfl)) k0 bel lt0) (trodAll_cons_mk (Below.trod laidOut (by kernel_rfl) (of_decide_eq_true (by kernel_rfl)) k1 bel lt1) trodAll_mk0)), rfl, bel.frame _, fun h => by cases h⟩

theorem over : Rows.fnSumOfCutRow.holds Tryz.pinned (OpenSpec.ofChange Rows.fnSumOfCutSpec) :=
  OpenClaim.holds_of_wide 16 Tryz.f16 rfl rfl rfl rfl rfl rfl rfl ⟨rfl, rfl, rfl, rfl, rfl⟩ rfl rfl rfl rfl rfl (by kernel_rfl) Tryz.func16 (by show joinedFacts Tryz.prog _ _ _ _ = true; unfold joinedFacts; rw [mayE, liftF, makeC]; kernel_rfl)
    (of_decide_eq_true (by kernel_rfl)) (by unfold Func.isWrapper; first | (rw [if_pos (by decide +kernel)]; kernel_rfl) | (rw [if_neg (by decide +kernel)]; exact ⟨rfl, rfl⟩))
    (fun os started H enc _ => lifted os started H enc)

theorem proved : Rows.FnSumOfCutSaid := over
#print axioms proved
end Go.Proofs.YtnoilafoeaknjaaGreat.fnSumOfCut
