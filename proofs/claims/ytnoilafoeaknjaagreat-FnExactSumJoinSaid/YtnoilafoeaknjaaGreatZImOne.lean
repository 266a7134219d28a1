/-
  A sum of one thing, of the program.
-/
import Derived.Test.YtnoilafoeaknjaaGreatZImNew
import Derived.Test.YtnoilafoeaknjaaGreatZImOk
set_option linter.unusedVariables false
namespace Go.Proofs.YtnoilafoeaknjaaGreat
open Go.RowKit Go.Sort

theorem oneS_eq (t : Int) : oneS t = ⟨addA zero3 t 1, addF [] t, (T.addT [] 0 0 t).1, (T.addT [] 0 0 t).2.1, (T.addT [] 0 0 t).2.2, (K.addK [] 0 t).1, (K.addK [] 0 t).2⟩ := by
  by_cases h : 0 ≤ t ∧ t ≤ 63
  · have A := addAll (s := newSm) (t := t) (by rw [one_addOk]; exact decide_eq_true h)
    unfold oneS
    rw [addS_yes (by rw [one_addOk]; exact decide_eq_true h)]
    unfold addS0 addA
    rw [show addB zero3 t 1 = true from A.r]
    rfl
  · rw [one_no h]
    have a : addB zero3 t 1 = false := by
      cases q : addB zero3 t 1 with
      | false => rfl
      | true => have := (addB_iff _ _ _).1 q; omega
    have b : addOkF [] t = false := by
      unfold addOkF inThings
      rw [decide_eq_false (by omega)]
      cases fewB [] <;> rfl
    have c : T.addOk [] 0 0 t = false := by
      unfold T.addOk T.isT
      rw [decide_eq_false (by omega)]
      cases T.topB [] 0 0 <;> rfl
    have d : K.addOkK [] 0 t = false := by
      unfold K.addOkK
      rw [decide_eq_false (by omega)]
      cases K.rankB [] 0 <;> rfl
    unfold addA
    rw [a, addF_no b, T.addT_no c, K.addK_no d]
    rfl

set_option maxRecDepth 100000 in
set_option maxHeartbeats 4000000 in
theorem imOne_at (w : World) (t : Int) :
    Calls Tryz.prog 107 #[.int .i64 t] w fun e w' => ∃ V, e = .returned (.agg #[.slice V.xr V.nr V.cr, .slice V.xf V.nf V.cf, .slice V.xt V.nt V.ct, .int .i64 (oneS t).lo, .int .i64 (oneS t).al, .slice V.xk V.nk V.ck, .int .i64 (oneS t).ka]) ∧ OwnS w' w.heap.size w'.heap.size V (oneS t) ∧ Below w.heap.size w w' := by
  obtain ⟨A, hAA⟩ : ∃ A, A = addA zero3 t 1 := ⟨_, rfl⟩
  have HAA := Lib.hid hAA
  clear hAA
  have hA := (Below.refl w.heap.size w).alloc (Nat.le_refl _) (.cells #[.slice none 0 0, .slice none 0 0, .slice none 0 0, .int .i64 0, .int .i64 0, .slice none 0 0, .int .i64 0] 39)
  have B := Lib.hid (hA)
  clear hA
  have R := Box7.new w 39 (.slice none 0 0) (.slice none 0 0) (.slice none 0 0) (.int .i64 0) (.int .i64 0) (.slice none 0 0) (.int .i64 0)
  have S0 : Hid ((w.alloc (.cells #[.slice none 0 0, .slice none 0 0, .slice none 0 0, .int .i64 0, .int .i64 0, .slice none 0 0, .int .i64 0] 39)).heap.size = w.heap.size + 1) := by show _ = _; simp
  go_enter Tryz.func107, Tryz.ntmps107
  go_wp2_with fail
  refine (imNew_at _).mono ?_
  rintro e w1 ⟨u, G, C, rfl, ho, hb⟩
  obtain ⟨x1, c1, rfl⟩ := ho.form
  replace B := Lib.hid (B.out.trans (hb.mono B.out.size))
  replace R := R.later hb
  have P1 := Lib.hid (ho.rws)
  clear hb
  clear ho
  have KA := imAddRR w1 _ zero3 t 1 P1.out
  rw [← HAA.out] at KA
  generalize addB zero3 t 1 = o1 at KA
  go_wp2_with fail
  refine (KA).mono ?_
  rintro e w2 ⟨x2, c2, rfl, ho, hb⟩
  obtain ⟨n2, hn2⟩ : ∃ n, n = A.length := ⟨_, rfl⟩
  rw [← hn2] at ho ⊢
  have L2 := Lib.hid B.out.size
  have S2 := Lib.hid hb.size
  clear hn2 KA
  clear P1
  replace B := Lib.hid (B.out.trans (hb.mono B.out.size))
  replace R := R.later hb
  have O2 := Lib.hid (ho)
  clear hb
  obtain ⟨W2, hW⟩ : ∃ W, W = (w2.alloc (.cells #[.slice x2 n2 c2] 27)) := ⟨_, rfl⟩
  replace B := Lib.hid ((B.out).alloc (Nat.le_trans B.out.size (by simp)) (.cells #[.slice x2 n2 c2] 27))
  rw [← hW] at B
  replace R := R.alloc (.cells #[.slice x2 n2 c2] 27)
  rw [← hW] at R
  replace O2 := Lib.hid (O2.out.alloc (.cells #[.slice x2 n2 c2] 27))
  rw [← hW] at O2
  have X2 := Go.Boxed.new w2 27 (.slice x2 n2 c2)
  rw [← hW] at X2
  go_wp2_with fail
  rw [← hW]
  clear hW
  clear ho
  have KA := imFewAdd_at W2 (.slice none 0 0) [] t (.inl ⟨rfl, rfl⟩)
  obtain ⟨F, hF⟩ : ∃ F, F = addF [] t := ⟨_, rfl⟩
  rw [← hF] at KA
  have HF := Lib.hid hF
  generalize addOkF [] t = o2 at KA
  clear hF
  go_wp2_with fail
  refine (KA).mono ?_
  rintro e w3 ⟨v, rfl, ho, hb⟩
  obtain ⟨x3, c3, rfl⟩ := ho.form'
  obtain ⟨n3, hn3⟩ : ∃ n, n = F.length := ⟨_, rfl⟩
  rw [← hn3] at ho ⊢
  have T2 := Lib.hid O2.out.top
  have L3' := Lib.hid (Nat.le_trans L2.out (show w1.heap.size ≤ w2.heap.size from S2.out))
  clear hn3 KA
  replace B := Lib.hid (B.out.trans (hb.mono B.out.size))
  replace R := R.later hb
  replace O2 := Lib.hid (O2.out.below hb)
  replace X2 := boxed_below X2 hb
  have O3 := Lib.hid (ho)
  clear hb
  obtain ⟨W3, hW⟩ : ∃ W, W = (w3.alloc (.cells #[.slice x3 n3 c3] 31)) := ⟨_, rfl⟩
  replace B := Lib.hid ((B.out).alloc (Nat.le_trans B.out.size (by simp)) (.cells #[.slice x3 n3 c3] 31))
  rw [← hW] at B
  replace R := R.alloc (.cells #[.slice x3 n3 c3] 31)
  rw [← hW] at R
  replace O2 := Lib.hid (O2.out.alloc (.cells #[.slice x3 n3 c3] 31))
  rw [← hW] at O2
  replace X2 := X2.alloc (.cells #[.slice x3 n3 c3] 31)
  rw [← hW] at X2
  replace O3 := Lib.hid (O3.out.alloc (.cells #[.slice x3 n3 c3] 31))
  rw [← hW] at O3
  have X3 := Go.Boxed.new w3 31 (.slice x3 n3 c3)
  rw [← hW] at X3
  go_wp2_with fail
  rw [← hW]
  clear hW
  clear ho
  have KA := T.imTopAdd_at W3 (.slice none 0 0) [] 0 0 t (.inl ⟨rfl, rfl⟩)
  obtain ⟨TT, hF⟩ : ∃ F, F = T.addT [] 0 0 t := ⟨_, rfl⟩
  rw [← hF] at KA
  have HT := Lib.hid hF
  generalize T.addOk [] 0 0 t = o3 at KA
  obtain ⟨tp, tl, ta⟩ := TT
  simp only at KA
  clear hF
  go_wp2_with fail
  refine (KA).mono ?_
  rintro e w4 ⟨v, rfl, ho, hb⟩
  obtain ⟨x4, c4, rfl⟩ := ho.form'
  obtain ⟨n4, hn4⟩ : ∃ n, n = tp.length := ⟨_, rfl⟩
  rw [← hn4] at ho ⊢
  have T3 := Lib.hid O3.out.lt
  have L4 := Lib.hid B.out.size
  clear hn4 KA
  replace B := Lib.hid (B.out.trans (hb.mono B.out.size))
  replace R := R.later hb
  replace O2 := Lib.hid (O2.out.below hb)
  replace X2 := boxed_below X2 hb
  replace O3 := Lib.hid (O3.out.below hb)
  replace X3 := boxed_below X3 hb
  have O4 := Lib.hid (ho)
  clear hb
  obtain ⟨W4, hW⟩ : ∃ W, W = (w4.alloc (.cells #[.slice x4 n4 c4, .int .i64 tl, .int .i64 ta] 34)) := ⟨_, rfl⟩
  replace B := Lib.hid ((B.out).alloc (Nat.le_trans B.out.size (by simp)) (.cells #[.slice x4 n4 c4, .int .i64 tl, .int .i64 ta] 34))
  rw [← hW] at B
  replace R := R.alloc (.cells #[.slice x4 n4 c4, .int .i64 tl, .int .i64 ta] 34)
  rw [← hW] at R
  replace O2 := Lib.hid (O2.out.alloc (.cells #[.slice x4 n4 c4, .int .i64 tl, .int .i64 ta] 34))
  rw [← hW] at O2
  replace X2 := X2.alloc (.cells #[.slice x4 n4 c4, .int .i64 tl, .int .i64 ta] 34)
  rw [← hW] at X2
  replace O3 := Lib.hid (O3.out.alloc (.cells #[.slice x4 n4 c4, .int .i64 tl, .int .i64 ta] 34))
  rw [← hW] at O3
  replace X3 := X3.alloc (.cells #[.slice x4 n4 c4, .int .i64 tl, .int .i64 ta] 34)
  rw [← hW] at X3
  replace O4 := Lib.hid (O4.out.alloc (.cells #[.slice x4 n4 c4, .int .i64 tl, .int .i64 ta] 34))
  rw [← hW] at O4
  have X4 := T.Box3.new w4 34 (.slice x4 n4 c4) (.int .i64 tl) (.int .i64 ta)
  rw [← hW] at X4
  go_wp2_with fail
  rw [← hW]
  clear hW
  clear ho
  have KA := K.imRankAdd_at W4 (.slice none 0 0) [] 0 t (.inl ⟨rfl, rfl⟩)
  obtain ⟨TT, hF⟩ : ∃ F, F = K.addK [] 0 t := ⟨_, rfl⟩
  rw [← hF] at KA
  have HK := Lib.hid hF
  generalize K.addOkK [] 0 t = o4 at KA
  obtain ⟨kp, ka⟩ := TT
  simp only at KA
  clear hF
  go_wp2_with fail
  refine (KA).mono ?_
  rintro e w5 ⟨v, rfl, ho, hb⟩
  obtain ⟨x5, c5, rfl⟩ := ho.form'
  obtain ⟨n5, hn5⟩ : ∃ n, n = kp.length := ⟨_, rfl⟩
  rw [← hn5] at ho ⊢
  have T4 := Lib.hid (fun k e => (World.ownsRow.lt O4.out k e).2)
  have L5 := Lib.hid B.out.size
  clear hn5 KA
  replace B := Lib.hid (B.out.trans (hb.mono B.out.size))
  replace R := R.later hb
  replace O2 := Lib.hid (O2.out.below hb)
  replace X2 := boxed_below X2 hb
  replace O3 := Lib.hid (O3.out.below hb)
  replace X3 := boxed_below X3 hb
  replace O4 := Lib.hid (O4.out.below hb)
  replace X4 := X4.later hb
  have O5 := Lib.hid (ho)
  clear hb
  obtain ⟨W5, hW⟩ : ∃ W, W = (w5.alloc (.cells #[.slice x5 n5 c5, .int .i64 ka] 37)) := ⟨_, rfl⟩
  have ax20 := ((X2.alloc (.cells #[.slice x5 n5 c5, .int .i64 ka] 37))).cell
  have ax30 := ((X3.alloc (.cells #[.slice x5 n5 c5, .int .i64 ka] 37))).cell
  have ax40 := ((X4.alloc (.cells #[.slice x5 n5 c5, .int .i64 ka] 37))).cell0
  have ax41 := ((X4.alloc (.cells #[.slice x5 n5 c5, .int .i64 ka] 37))).cell1
  have ax42 := ((X4.alloc (.cells #[.slice x5 n5 c5, .int .i64 ka] 37))).cell2
  obtain ⟨ar0, ar1, ar2, ar3, ar4, ar5, ar6⟩ := ((R.alloc (.cells #[.slice x5 n5 c5, .int .i64 ka] 37))).cells
  have frr := (R.alloc (.cells #[.slice x5 n5 c5, .int .i64 ka] 37)).free
  replace B := Lib.hid ((B.out).alloc (Nat.le_trans B.out.size (by simp)) (.cells #[.slice x5 n5 c5, .int .i64 ka] 37))
  rw [← hW] at B
  replace R := R.alloc (.cells #[.slice x5 n5 c5, .int .i64 ka] 37)
  rw [← hW] at R
  replace O2 := Lib.hid (O2.out.alloc (.cells #[.slice x5 n5 c5, .int .i64 ka] 37))
  rw [← hW] at O2
  replace X2 := X2.alloc (.cells #[.slice x5 n5 c5, .int .i64 ka] 37)
  rw [← hW] at X2
  replace O3 := Lib.hid (O3.out.alloc (.cells #[.slice x5 n5 c5, .int .i64 ka] 37))
  rw [← hW] at O3
  replace X3 := X3.alloc (.cells #[.slice x5 n5 c5, .int .i64 ka] 37)
  rw [← hW] at X3
  replace O4 := Lib.hid (O4.out.alloc (.cells #[.slice x5 n5 c5, .int .i64 ka] 37))
  rw [← hW] at O4
  replace X4 := X4.alloc (.cells #[.slice x5 n5 c5, .int .i64 ka] 37)
  rw [← hW] at X4
  replace O5 := Lib.hid (O5.out.alloc (.cells #[.slice x5 n5 c5, .int .i64 ka] 37))
  rw [← hW] at O5
  have X5 := K.Box2.new w5 37 (.slice x5 n5 c5) (.int .i64 ka)
  rw [← hW] at X5
  clear ho
  have e1 := oneS_eq t
  rw [← HAA.out, ← HF.out, ← HT.out, ← HK.out] at e1
  have E1 := Lib.hid e1
  clear e1
  have F1 := HF
  clear HF
  have fin := R.set (.slice x2 n2 c2) (.slice x3 n3 c3) (.slice x4 n4 c4) (.int .i64 tl) (.int .i64 ta) (.slice x5 n5 c5) (.int .i64 ka)
  have OF := OwnS.box7 (OwnS.make (V := ⟨x2, n2, c2, x3, n3, c3, x4, n4, c4, x5, n5, c5⟩) (s := ⟨A, F, tp, tl, ta, kp, ka⟩) O2.out O3.out O4.out O5.out L2.out L3'.out T2.out L4.out L5.out) R (.slice x2 n2 c2) (.slice x3 n3 c3) (.slice x4 n4 c4) (.int .i64 tl) (.int .i64 ta) (.slice x5 n5 c5) (.int .i64 ka)
  have BF := below_set7 B.out (Nat.le_refl _) (.slice x2 n2 c2) (.slice x3 n3 c3) (.slice x4 n4 c4) (.int .i64 tl) (.int .i64 ta) (.slice x5 n5 c5) (.int .i64 ka)
  have SF := set7_size W5 w.heap.size (.slice x2 n2 c2) (.slice x3 n3 c3) (.slice x4 n4 c4) (.int .i64 tl) (.int .i64 ta) (.slice x5 n5 c5) (.int .i64 ka)
  have HF := Lib.hid (And.intro (OwnS.base OF (Nat.le_refl _) (Nat.le_of_eq SF.symm) (Nat.le_refl _)) BF)
  have HY := Lib.hid fin
  clear fin OF BF SF
  go_wp2
  rw [← hW]
  clear hW ax20 ax30 ax40 ax41 ax42 ar0 ar1 ar2 ar3 ar4 ar5 ar6 frr
  show bodyPost _ _ _ _ _ (set7 W5 w.heap.size (.slice x2 n2 c2) (.slice x3 n3 c3) (.slice x4 n4 c4) (.int .i64 tl) (.int .i64 ta) (.slice x5 n5 c5) (.int .i64 ka))
  obtain ⟨d0, d1, d2, d3, d4, d5, d6⟩ := HY.out.cells
  generalize set7 W5 w.heap.size (.slice x2 n2 c2) (.slice x3 n3 c3) (.slice x4 n4 c4) (.int .i64 tl) (.int .i64 ta) (.slice x5 n5 c5) (.int .i64 ka) = WF at HF d0 d1 d2 d3 d4 d5 d6 ⊢
  refine bodyPost_ret (v := .agg #[.slice x2 n2 c2, .slice x3 n3 c3, .slice x4 n4 c4, .int .i64 tl, .int .i64 ta, .slice x5 n5 c5, .int .i64 ka]) (by simp [results, Tryz.results107, go_sem, d0, d1, d2, d3, d4, d5, d6]) rfl ?_
  rw [E1.out]
  exact ⟨⟨x2, n2, c2, x3, n3, c3, x4, n4, c4, x5, n5, c5⟩, rfl, HF.out⟩

end Go.Proofs.YtnoilafoeaknjaaGreat
