/-
  A sum of a list, of the model.
-/
import Derived.Test.YtnoilafoeaknjaaZSpAdd
import Derived.Test.YtnoilafoeaknjaaZImNew
import Derived.Deep.RegionWith
import Derived.Deep.DeepCutAuto
set_option linter.unusedVariables false
namespace Go.Proofs.Ytnoilafoeaknjaa
open Go.RowKit Go.Sort

set_option maxRecDepth 100000 in
set_option maxHeartbeats 8000000 in
theorem spSumOf_at (w : World) (x : Option Addr) (n c : Nat) (l : List Int) (h : Ints w (.slice x n c) l) :
    Calls Try.prog 78 #[.slice x n c] w fun e w' => ∃ U, e = .returned (.tuple #[.agg #[.slice U.xr U.nr U.cr, .slice U.xf U.nf U.cf, .slice U.xt U.nt U.ct, .int .i64 (upS l).lo, .int .i64 (upS l).al, .slice U.xk U.nk U.ck, .int .i64 (upS l).ka], .bool (okS (upS l))]) ∧ OwnS w' w.heap.size w'.heap.size U (upS l) ∧ Below w.heap.size w w' := by
  obtain ⟨b, o, hx⟩ : ∃ b o, n = 0 ∨ (x = some ⟨b, o, none⟩ ∧ b < w.heap.size ∧ ∀ i, i < n → w.cell? ⟨b, o + i, none⟩ = some (.int .i64 (l.getD i 0))) := by
    rcases h with ⟨e, rfl⟩ | ⟨b, o, cap, e, h1, h2, hb, hc⟩
    · simp at e; exact ⟨0, 0, .inl e.2.1⟩
    · simp at e; obtain ⟨rfl, rfl, rfl⟩ := e; exact ⟨b, o, .inr ⟨rfl, hb, hc⟩⟩
  have HX := Lib.hid hx
  have hnl : n = l.length := Ints.len h
  have HN := Lib.hid hnl
  have hmx : n < 2 ^ 63 := by
    rcases h with ⟨e, rfl⟩ | ⟨b, o, cap, e, h1, h2, _⟩
    · rw [hnl]; simp
    · unfold maxLen at h2; omega
  clear hx h hnl
  have hA := (Below.refl w.heap.size w).alloc (Nat.le_refl _) (.cells #[.slice none 0 0, .slice none 0 0, .slice none 0 0, .int .i64 0, .int .i64 0, .slice none 0 0, .int .i64 0] 36)
  have R := Box7.new w 36 (.slice none 0 0) (.slice none 0 0) (.slice none 0 0) (.int .i64 0) (.int .i64 0) (.slice none 0 0) (.int .i64 0)
  obtain ⟨W0, hW⟩ : ∃ W, W = w.alloc (.cells #[.slice none 0 0, .slice none 0 0, .slice none 0 0, .int .i64 0, .int .i64 0, .slice none 0 0, .int .i64 0] 36) := ⟨_, rfl⟩
  rw [← hW] at hA R
  have B := Lib.hid hA
  have SZ : Hid (W0.heap.size = w.heap.size + 1) := by show _ = _; rw [hW]; simp
  clear hA
  go_enter Try.func78, Try.ntmps78
  go_wp2_with fail
  rw [← hW]
  clear hW
  refine (spSumNew_at W0).mono ?_
  rintro e w1 ⟨V0, rfl, ho, hb⟩
  have L4 := Lib.hid (Nat.le_trans (Nat.le_of_eq SZ.out.symm) hb.size)
  replace ho := ho.base (B' := w.heap.size) B.out.size (Nat.le_refl _) (Nat.le_refl _)
  replace R := R.later hb
  replace B := Lib.hid (B.out.trans (hb.mono B.out.size))
  have O := Lib.hid (ho)
  clear hb
  obtain ⟨W1, hW⟩ : ∃ W, W = (w1.alloc (.cells #[.slice V0.xr V0.nr V0.cr, .slice V0.xf V0.nf V0.cf, .slice V0.xt V0.nt V0.ct, .int .i64 newSm.lo, .int .i64 newSm.al, .slice V0.xk V0.nk V0.ck, .int .i64 newSm.ka] 36)) := ⟨_, rfl⟩
  replace R := R.alloc (.cells #[.slice V0.xr V0.nr V0.cr, .slice V0.xf V0.nf V0.cf, .slice V0.xt V0.nt V0.ct, .int .i64 newSm.lo, .int .i64 newSm.al, .slice V0.xk V0.nk V0.ck, .int .i64 newSm.ka] 36)
  rw [← hW] at R
  replace B := Lib.hid ((B.out).alloc (Nat.le_trans B.out.size (by simp)) (.cells #[.slice V0.xr V0.nr V0.cr, .slice V0.xf V0.nf V0.cf, .slice V0.xt V0.nt V0.ct, .int .i64 newSm.lo, .int .i64 newSm.al, .slice V0.xk V0.nk V0.ck, .int .i64 newSm.ka] 36))
  rw [← hW] at B
  replace O := Lib.hid (O.out.alloc (.cells #[.slice V0.xr V0.nr V0.cr, .slice V0.xf V0.nf V0.cf, .slice V0.xt V0.nt V0.ct, .int .i64 newSm.lo, .int .i64 newSm.al, .slice V0.xk V0.nk V0.ck, .int .i64 newSm.ka] 36))
  rw [← hW] at O
  have X4 := Box7.new w1 36 (.slice V0.xr V0.nr V0.cr) (.slice V0.xf V0.nf V0.cf) (.slice V0.xt V0.nt V0.ct) (.int .i64 newSm.lo) (.int .i64 newSm.al) (.slice V0.xk V0.nk V0.ck) (.int .i64 newSm.ka)
  rw [← hW] at X4
  clear ho
  obtain ⟨b4, hb4⟩ : ∃ b4, b4 = w1.heap.size := ⟨_, rfl⟩
  rw [← hb4] at X4 L4
  have HO := Lib.hid (show OwnS W1 w.heap.size b4 V0 newSm by rw [hb4]; exact O.out)
  clear O
  go_wp2
  rw [← hW, ← hb4]
  clear hW hb4
  go_loopw [5] (fun i wr => ∃ (j : Nat) (V : SV) (T : Nat), i = .int .i64 j ∧ j ≤ n ∧ okS (upS (l.take j)) = true ∧ OwnS wr w.heap.size T V (upS (l.take j)) ∧ BoxS wr b4 V (upS (l.take j)) ∧ Box7 wr w.heap.size 36 (.slice none 0 0) (.slice none 0 0) (.slice none 0 0) (.int .i64 0) (.int .i64 0) (.slice none 0 0) (.int .i64 0) ∧ Below w.heap.size w wr) (fun i _ => n - (intOf i).toNat)
  case atStart => exact ⟨0, V0, b4, rfl, Nat.zero_le _, okS_new, HO.out, X4, R, B.out⟩
  case round =>
    clear HO X4 R B SZ
    obtain ⟨j, V, T, rfl, hj, hok, ho, hX, hR, hB⟩ := hrel
    obtain ⟨s, hs⟩ : ∃ s, s = upS (l.take j) := ⟨_, rfl⟩
    rw [← hs] at hok ho hX
    have HS := Lib.hid hs
    have HOK := Lib.hid hok
    have O := Lib.hid ho
    have X4 := hX.box
    have R := hR
    have B := Lib.hid hB
    clear hs hok ho hX hR hB
    by_cases hlt : j < n
    · obtain ⟨t, ht⟩ : ∃ t, t = l.getD j 0 := ⟨_, rfl⟩
      obtain ⟨rfl, hbw, hce⟩ := HX.out.resolve_left (by omega)
      have ce : wr.cell? ⟨b, o + j, none⟩ = some (.int .i64 t) := by rw [ht]; exact cell_later B.out (hce j hlt)
      have HT := Lib.hid ht
      clear ht hce hbw HX
      have UP := Lib.hid (show upS (l.take (j + 1)) = addS s t by rw [HS.out, HT.out]; exact up_take (by rw [← HN.out]; exact hlt))
      have NO := Lib.hid (show addOkS s t = false → okS (upS l) = false ∧ upS l = noSm from fun q => by have e := up_stop (l := l) (k := j) (by rw [← HN.out]; exact hlt) (by rw [← HS.out, ← HT.out]; exact q); exact ⟨by rw [e]; rfl, e⟩)
      have YES := Lib.hid (show addOkS s t = true → okS (addS s t) = true from fun q => (okS_iff _).2 (addS_ok q).1)
      clear HS HT
      have KS := Lib.hid (fun (W : World) (h : RdS W V s) => spSumAdd_at W V s t h)
      generalize addOkS s t = ok at KS NO YES
      generalize addS s t = r at KS UP YES
      obtain ⟨c0, c1, c2, c3, c4, c5, c6⟩ := X4.drew.cells
      obtain ⟨e0, e1, e2, e3, e4, e5, e6⟩ := (X4.alloc (.cells #[.slice none 0 0, .slice none 0 0, .slice none 0 0, .int .i64 0, .int .i64 0, .slice none 0 0, .int .i64 0] 36)).drew.cells
      have cb := cell_later (Below.drew (Below.refl wr.heap.size wr)) ce
      have cb' := cell_later (((Below.refl wr.heap.size wr).alloc (Nat.le_refl _) (.cells #[.slice none 0 0, .slice none 0 0, .slice none 0 0, .int .i64 0, .int .i64 0, .slice none 0 0, .int .i64 0] 36)).drew) ce
      have k0 : (0 : Int) ≤ (j : Int) := by omega
      have k1 : (j : Int) < (n : Int) := by omega
      go_wp2
      go_region_with (first
        | (go_at_call 110; refine (KS.out wr.drew O.out.rd.drew).mono ?_; rintro e w2 ⟨U, rfl, ho, hb⟩; have HO := Lib.hid ho; have HB := Lib.hid (Below.trans (Below.drew (Below.refl wr.heap.size wr)) hb); clear ho hb)
        | (go_at_call 110; refine (KS.out (wr.alloc (.cells #[.slice none 0 0, .slice none 0 0, .slice none 0 0, .int .i64 0, .int .i64 0, .slice none 0 0, .int .i64 0] 36)).drew (O.out.rd.alloc _).drew).mono ?_; rintro e w2 ⟨U, rfl, ho, hb⟩; have HO := Lib.hid ho; have HB := Lib.hid (Below.trans (((Below.refl wr.heap.size wr).alloc (Nat.le_refl _) (.cells #[.slice none 0 0, .slice none 0 0, .slice none 0 0, .int .i64 0, .int .i64 0, .slice none 0 0, .int .i64 0] 36)).drew) (hb.mono (by simp))); have XN := (Box7.new wr 36 (.slice none 0 0) (.slice none 0 0) (.slice none 0 0) (.int .i64 0) (.int .i64 0) (.slice none 0 0) (.int .i64 0)).drew.later hb; obtain ⟨f0, f1, f2, f3, f4, f5, f6⟩ := XN.cells; have ff := XN.free; clear ho hb))
      all_goals
        first
          | (have G := Got.last HB.out HO.out (Nat.le_refl _); generalize w2.alloc (.cells #[.slice U.xr U.nr U.cr, .slice U.xf U.nf U.cf, .slice U.xt U.nt U.ct, .int .i64 r.lo, .int .i64 r.al, .slice U.xk U.nk U.ck, .int .i64 r.ka] 36) = WN at G ⊢; generalize w2.heap.size = PN at G ⊢)
          | (have G := Got.stored HB.out HO.out (show wr.heap.size ≤ (wr.alloc (.cells #[.slice none 0 0, .slice none 0 0, .slice none 0 0, .int .i64 0, .int .i64 0, .slice none 0 0, .int .i64 0] 36)).drew.heap.size by simp) XN (Nat.le_refl _); show Exit.then _ _ _ _ (set7 w2 wr.heap.size (.slice U.xr U.nr U.cr) (.slice U.xf U.nf U.cf) (.slice U.xt U.nt U.ct) (.int .i64 r.lo) (.int .i64 r.al) (.slice U.xk U.nk U.ck) (.int .i64 r.ka)); generalize set7 w2 wr.heap.size (.slice U.xr U.nr U.cr) (.slice U.xf U.nf U.cf) (.slice U.xt U.nt U.ct) (.int .i64 r.lo) (.int .i64 r.al) (.slice U.xk U.nk U.ck) (.int .i64 r.ka) = WN at G ⊢; obtain ⟨PN, hPN⟩ : ∃ P, P = wr.heap.size := ⟨_, rfl⟩; clear f0 f1 f2 f3 f4 f5 f6 ff XN; rw [← hPN] at G ⊢; clear hPN)
        have X4' := X4.later G.below
        have R' := R.later G.below
        have B' := Lib.hid (B.out.trans (G.below.mono B.out.size))
        have XP := G.box.box
        have lo4 := X4.lt
        have O' := Lib.hid (G.own.base (B' := w.heap.size) B.out.size (Nat.le_refl _) (Nat.le_refl _))
        have GLO := Lib.hid G.lo
        have sep := Lib.hid (show b4 ≠ PN from fun e => by have := G.lo; omega)
        clear G HB HO c0 c1 c2 c3 c4 c5 c6 e0 e1 e2 e3 e4 e5 e6 cb cb' lo4 X4 R B O ce k0 k1
        have X4 := X4'
        have R := R'
        have B := B'
        have O := O'
        clear X4' R' B' O'
        cases ok with
        | false =>
          have NO1 := Lib.hid (NO.out rfl).1
          have NO2 := Lib.hid (NO.out rfl).2
          clear NO YES UP
          obtain ⟨cr0, cr1, cr2, cr3, cr4, cr5, cr6⟩ := (R).cells
          have frr := R.free
          have fin := R.set (.slice none 0 0) (.slice none 0 0) (.slice none 0 0) (.int .i64 0) (.int .i64 0) (.slice none 0 0) (.int .i64 0)
          have OF := OwnS.box7 (OwnS.none _ _ _ B.out.size (Nat.le_refl _)) R (.slice none 0 0) (.slice none 0 0) (.slice none 0 0) (.int .i64 0) (.int .i64 0) (.slice none 0 0) (.int .i64 0)
          have BF := below_set7 B.out (Nat.le_refl _) (.slice none 0 0) (.slice none 0 0) (.slice none 0 0) (.int .i64 0) (.int .i64 0) (.slice none 0 0) (.int .i64 0)
          have SF := set7_size WN w.heap.size (.slice none 0 0) (.slice none 0 0) (.slice none 0 0) (.int .i64 0) (.int .i64 0) (.slice none 0 0) (.int .i64 0)
          have HF := Lib.hid (And.intro (OwnS.base OF (Nat.le_refl _) (Nat.le_of_eq SF.symm) (Nat.le_refl _)) BF)
          have HY := Lib.hid fin
          clear fin OF BF SF
          go_wp2
          show bodyPost _ _ _ _ _ (set7 WN w.heap.size (.slice none 0 0) (.slice none 0 0) (.slice none 0 0) (.int .i64 0) (.int .i64 0) (.slice none 0 0) (.int .i64 0))
          obtain ⟨d0, d1, d2, d3, d4, d5, d6⟩ := HY.out.cells
          generalize set7 WN w.heap.size (.slice none 0 0) (.slice none 0 0) (.slice none 0 0) (.int .i64 0) (.int .i64 0) (.slice none 0 0) (.int .i64 0) = WF at HF d0 d1 d2 d3 d4 d5 d6 ⊢
          refine bodyPost_ret (v := .tuple #[.agg #[.slice none 0 0, .slice none 0 0, .slice none 0 0, .int .i64 0, .int .i64 0, .slice none 0 0, .int .i64 0], .bool false]) (by simp [results, Try.results78, go_sem, d0, d1, d2, d3, d4, d5, d6]) rfl ?_
          rw [NO1.out, NO2.out]
          exact ⟨SV.none, rfl, HF.out⟩
        | true =>
          have YS := Lib.hid (YES.out rfl)
          clear NO YES
          obtain ⟨cxp0, cxp1, cxp2, cxp3, cxp4, cxp5, cxp6⟩ := (XP).cells
          obtain ⟨cx40, cx41, cx42, cx43, cx44, cx45, cx46⟩ := (X4).cells
          have fr4 := X4.free
          have OX := Lib.hid (O.out.box7 X4 (.slice U.xr U.nr U.cr) (.slice U.xf U.nf U.cf) (.slice U.xt U.nt U.ct) (.int .i64 r.lo) (.int .i64 r.al) (.slice U.xk U.nk U.ck) (.int .i64 r.ka))
          have Ytnoilafoeaknjaa4 := X4.set (.slice U.xr U.nr U.cr) (.slice U.xf U.nf U.cf) (.slice U.xt U.nt U.ct) (.int .i64 r.lo) (.int .i64 r.al) (.slice U.xk U.nk U.ck) (.int .i64 r.ka)
          have RX := R.kept (set7_grown _ b4 (.slice U.xr U.nr U.cr) (.slice U.xf U.nf U.cf) (.slice U.xt U.nt U.ct) (.int .i64 r.lo) (.int .i64 r.al) (.slice U.xk U.nk U.ck) (.int .i64 r.ka)) (by have := L4.out; simp; omega)
          have BX := Lib.hid (below_set7 B.out (Nat.le_trans (Nat.le_add_right _ 1) L4.out) (.slice U.xr U.nr U.cr) (.slice U.xf U.nf U.cf) (.slice U.xt U.nt U.ct) (.int .i64 r.lo) (.int .i64 r.al) (.slice U.xk U.nk U.ck) (.int .i64 r.ka))
          have SX := set7_size WN b4 (.slice U.xr U.nr U.cr) (.slice U.xf U.nf U.cf) (.slice U.xt U.nt U.ct) (.int .i64 r.lo) (.int .i64 r.al) (.slice U.xk U.nk U.ck) (.int .i64 r.ka)
          go_wp2
          go_roundw
          case rel => exact ⟨j + 1, U, WN.heap.size, by go_num, hlt, by rw [UP.out]; exact YS.out, by rw [UP.out]; exact OX.out, by rw [UP.out]; exact Ytnoilafoeaknjaa4, RX, BX.out⟩
          case measure => simp [intOf]; omega
    · obtain rfl : j = n := by omega
      have ES := Lib.hid (show upS l = s by rw [HS.out, HN.out, List.take_length])
      clear HX HS hlt hj
      obtain ⟨cx40, cx41, cx42, cx43, cx44, cx45, cx46⟩ := (X4).cells
      obtain ⟨cr0, cr1, cr2, cr3, cr4, cr5, cr6⟩ := (R).cells
      have frr := R.free
      have fin := R.set (.slice V.xr V.nr V.cr) (.slice V.xf V.nf V.cf) (.slice V.xt V.nt V.ct) (.int .i64 s.lo) (.int .i64 s.al) (.slice V.xk V.nk V.ck) (.int .i64 s.ka)
      have OF := OwnS.box7 (O.out.base (Nat.le_refl _) O.out.top (Nat.le_refl _)) R (.slice V.xr V.nr V.cr) (.slice V.xf V.nf V.cf) (.slice V.xt V.nt V.ct) (.int .i64 s.lo) (.int .i64 s.al) (.slice V.xk V.nk V.ck) (.int .i64 s.ka)
      have BF := below_set7 B.out (Nat.le_refl _) (.slice V.xr V.nr V.cr) (.slice V.xf V.nf V.cf) (.slice V.xt V.nt V.ct) (.int .i64 s.lo) (.int .i64 s.al) (.slice V.xk V.nk V.ck) (.int .i64 s.ka)
      have SF := set7_size wr w.heap.size (.slice V.xr V.nr V.cr) (.slice V.xf V.nf V.cf) (.slice V.xt V.nt V.ct) (.int .i64 s.lo) (.int .i64 s.al) (.slice V.xk V.nk V.ck) (.int .i64 s.ka)
      have HF := Lib.hid (And.intro (OwnS.base OF (Nat.le_refl _) (Nat.le_of_eq SF.symm) (Nat.le_refl _)) BF)
      have HY := Lib.hid fin
      clear fin OF BF SF
      go_wp2
      show bodyPost _ _ _ _ _ (set7 wr w.heap.size (.slice V.xr V.nr V.cr) (.slice V.xf V.nf V.cf) (.slice V.xt V.nt V.ct) (.int .i64 s.lo) (.int .i64 s.al) (.slice V.xk V.nk V.ck) (.int .i64 s.ka))
      obtain ⟨d0, d1, d2, d3, d4, d5, d6⟩ := HY.out.cells
      generalize set7 wr w.heap.size (.slice V.xr V.nr V.cr) (.slice V.xf V.nf V.cf) (.slice V.xt V.nt V.ct) (.int .i64 s.lo) (.int .i64 s.al) (.slice V.xk V.nk V.ck) (.int .i64 s.ka) = WF at HF d0 d1 d2 d3 d4 d5 d6 ⊢
      refine bodyPost_ret (v := .tuple #[.agg #[.slice V.xr V.nr V.cr, .slice V.xf V.nf V.cf, .slice V.xt V.nt V.ct, .int .i64 s.lo, .int .i64 s.al, .slice V.xk V.nk V.ck, .int .i64 s.ka], .bool true]) (by simp [results, Try.results78, go_sem, d0, d1, d2, d3, d4, d5, d6]) rfl ?_
      rw [ES.out, HOK.out]
      exact ⟨V, rfl, HF.out⟩

end Go.Proofs.Ytnoilafoeaknjaa
