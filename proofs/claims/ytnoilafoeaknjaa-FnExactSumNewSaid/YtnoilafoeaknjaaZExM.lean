/-
  The exact laws' marks in sums.
-/
import Derived.Test.YtnoilafoeaknjaaZExA
import Derived.Test.YtnoilafoeaknjaaTf
import Derived.Test.YtnoilafoeaknjaaKg
import Derived.Test.YtnoilafoeaknjaaXb
set_option linter.unusedVariables false
namespace Go.Proofs.Ytnoilafoeaknjaa
open Go.RowKit Go.Sort

/-- What marks in blocks between two bounds leave as it was. -/
structure MarkKeepsS (W W' : World) (B T : Nat) : Prop where
  box : ∀ b t x0 x1 x2 x3 x4 x5 x6, t ≠ 3 → t ≠ 83 → t ≠ 85 → Box7 W b t x0 x1 x2 x3 x4 x5 x6 → Box7 W' b t x0 x1 x2 x3 x4 x5 x6
  keep : KeptB (fun k => B ≤ k ∧ k < T) W W'
theorem MarkKeepsS.trans {W W1 W2 : World} {B T : Nat} (h : MarkKeepsS W W1 B T) (k : MarkKeepsS W1 W2 B T) : MarkKeepsS W W2 B T :=
  ⟨fun b t x0 x1 x2 x3 x4 x5 x6 h1 h2 h3 X => k.box b t x0 x1 x2 x3 x4 x5 x6 h1 h2 h3 (h.box b t x0 x1 x2 x3 x4 x5 x6 h1 h2 h3 X), h.keep.trans k.keep⟩
theorem MarkKeepsS.alloc (W : World) (B T : Nat) (o : Obj) : MarkKeepsS W (W.alloc o) B T :=
  ⟨fun _ _ _ _ _ _ _ _ _ _ _ _ X => X.alloc o, KeptB.of_below _ ((Below.refl _ _).alloc (Nat.le_refl _) o)⟩
theorem MarkKeepsS.row {W W' : World} {B B' T : Nat} {e : TypeId} {size n : Nat} {v : Value} {xs : List Value} (ho : W.ownsRow B' e size v n xs) (he : e = 3 ∨ e = 83 ∨ e = 85) (hB : B ≤ B') (hT : ∀ k, v.ownBlock = some k → k < T) (hg : W.grownBy W' v.ownBlock) : MarkKeepsS W W' B T := by
  refine ⟨fun b t x0 x1 x2 x3 x4 x5 x6 h1 h2 h3 X => X.kept hg (X.not_row ?_ ho), ⟨hg.os, hg.tape, hg.output, hg.size, fun k hk hn => hg.block k hk (fun e => hn ⟨Nat.le_trans hB (ho.lt k e.symm).1, hT k e.symm⟩)⟩⟩
  rcases he with rfl | rfl | rfl <;> assumption
theorem MarkKeepsS.rough {W W' : World} {B T : Nat} {u : Value} {rs : List (List Int)} {G C : Nat → Nat} (h : OwnR W B u rs G C) (hT : ∀ i, i < rs.length → G i < T) (hk : KeptB (fun b => ∃ i, i < rs.length ∧ G i = b) W W') : MarkKeepsS W W' B T :=
  ⟨fun b t x0 x1 x2 x3 x4 x5 x6 h1 _ _ X => (hk.block b X.lt (by rintro ⟨i, hi, rfl⟩; exact X.not_row h1 (h.row i hi) rfl)).trans X, hk.mono (by rintro k ⟨i, hi, rfl⟩; exact ⟨((h.row i hi).lt (G i) rfl).1, hT i hi⟩)⟩
theorem MarkKeepsS.below {w W W' : World} {B T : Nat} (h : MarkKeepsS W W' B T) (hb : Below w.heap.size w W) (hB : w.heap.size ≤ B) : Below w.heap.size w W' := hb.trans (h.keep.below hb.size (fun _ q => Nat.le_trans hB q.1))
theorem MarkKeepsS.own {W W' : World} {B T B2 T2 : Nat} {V : SV} {s : Sm} (h : MarkKeepsS W W' B T) (hd : T2 ≤ B ∨ T ≤ B2) (o : OwnS W B2 T2 V s) : OwnS W' B2 T2 V s := by
  obtain ⟨M, m1, m2, hr, hf⟩ := o.mid
  have ns : ∀ k, B2 ≤ k → k < T2 → ¬ (B ≤ k ∧ k < T) := fun k a b c => by omega
  exact ⟨⟨M, m1, m2, hr.keptB h.keep (fun k a b => ns k a (by omega)), ownsRow_keptB hf h.keep (fun k e => ns k (Nat.le_trans m1 (World.ownsRow.lt hf k e).1) (o.ft k e))⟩, ownsRow_keptB o.t h.keep (fun k e => ns k (World.ownsRow.lt o.t k e).1 (o.tt k e)), ownsRow_keptB o.k h.keep (fun k e => ns k (World.ownsRow.lt o.k k e).1 (o.kt k e)), o.ft, o.tt, o.kt, Nat.le_trans o.top h.keep.size⟩
theorem MarkKeepsS.ints {W W' : World} {B T B2 T2 : Nat} {v : Value} {zs : List Int} (h : MarkKeepsS W W' B T) (hd : T2 ≤ B ∨ T ≤ B2) (o : OwnI W B2 v zs) (ht : ∀ k, v.ownBlock = some k → k < T2) : OwnI W' B2 v zs :=
  ownsRow_keptB o h.keep (fun k e c => by have := (World.ownsRow.lt o k e).1; have := ht k e; omega)
theorem OwnRR.other {W W' : World} {B M B' : Nat} {u v : Value} {rs : List (List Int)} {e : TypeId} {size n : Nat} {xs : List Value} (h : OwnRR W B M u rs) (hp : W.ownsRow B' e size v n xs) (h1 : 3 ≠ e) (h2 : 26 ≠ e) (hg : W.grownBy W' v.ownBlock) : OwnRR W' B M u rs := by
  obtain ⟨G, C, o, q1, q2, q3⟩ := h
  exact ⟨G, C, ⟨World.ownsRow.kept o.hdr hg (own_ne o.hdr hp h2), fun i hi => World.ownsRow.kept (o.row i hi) hg (own_ne (o.row i hi) hp h1), o.off, o.apart⟩, q1, q2, Nat.le_trans q3 hg.size⟩
theorem OwnRR.marked {W W' : World} {B M : Nat} {u v : Value} {rs : List (List Int)} {zs : List Int} (h : OwnRR W B M u rs) (hp : OwnI W M v zs) (hg : W.grownBy W' v.ownBlock) : OwnRR W' B M u rs := by
  have hk : KeptB (fun k => v.ownBlock = some k) W W' := ⟨hg.os, hg.tape, hg.output, hg.size, fun k hk hn => hg.block k hk (fun e => hn e.symm)⟩
  exact h.keptB hk (fun k _ q2 e => by have := (World.ownsRow.lt hp k e).1; omega)

def totS (s : Sm) : Nat := ahead s.rs s.rs.length + s.zs.length + 2 * s.ps.length + 2 * s.ks.length
theorem LenS.tot {s : Sm} (h : LenS s) : totS s ≤ 200000000 := by
  have := h.r.all
  have := h.f
  have := h.t
  have := h.k
  unfold totS
  omega
def MarkedS (k : Int) (s s' : Sm) : Prop := ∃ rs', Marked k s.rs rs' ∧ s' = ⟨rs', mkRow (k + (ahead s.rs s.rs.length : Nat)) s.zs.length, T.mkP (k + (ahead s.rs s.rs.length : Nat) + (s.zs.length : Nat)) s.ps.length, s.lo, s.al, K.mkP (k + (ahead s.rs s.rs.length : Nat) + (s.zs.length : Nat) + 2 * (s.ps.length : Int)) s.ks.length, s.ka⟩

set_option maxRecDepth 100000 in
set_option maxHeartbeats 8000000 in
theorem markSum_at (W : World) (B U : Nat) (V : SV) (s : Sm) (k : Int) (h : OwnS W B U V s) (hl : LenS s) (hk : 0 ≤ k) (hk' : k ≤ 1000000000) :
    Calls Try.prog 29 #[.agg #[.slice V.xr V.nr V.cr, .slice V.xf V.nf V.cf, .slice V.xt V.nt V.ct, .int .i64 s.lo, .int .i64 s.al, .slice V.xk V.nk V.ck, .int .i64 s.ka], .int .i64 k] W fun e W' => ∃ s', e = .returned (.int .i64 (k + (totS s : Nat))) ∧ MarkedS k s s' ∧ OwnS W' B U V s' ∧ MarkKeepsS W W' B U := by
  obtain ⟨n1, e1⟩ : ∃ n, n = ahead s.rs s.rs.length := ⟨_, rfl⟩
  obtain ⟨n2, e2⟩ : ∃ n, n = s.zs.length := ⟨_, rfl⟩
  obtain ⟨n3, e3⟩ : ∃ n, n = s.ps.length := ⟨_, rfl⟩
  obtain ⟨n4, e4⟩ : ∃ n, n = s.ks.length := ⟨_, rfl⟩
  have L : totS s = n1 + n2 + 2 * n3 + 2 * n4 := by rw [e1, e2, e3, e4]; rfl
  rw [L]
  clear L
  have l1 := hl.r.all
  have l2 := hl.f
  have l3 := hl.t
  have l4 := hl.k
  rw [← e1] at l1
  rw [← e2] at l2
  rw [← e3] at l3
  rw [← e4] at l4
  have MK : Hid (∀ s', (∃ rs', Marked k s.rs rs' ∧ s' = ⟨rs', mkRow (k + (n1 : Int)) n2, T.mkP (k + (n1 : Int) + (n2 : Int)) n3, s.lo, s.al, K.mkP (k + (n1 : Int) + (n2 : Int) + 2 * (n3 : Int)) n4, s.ka⟩) → MarkedS k s s') := fun s' q => by unfold MarkedS; rw [← e1, ← e2, ← e3, ← e4]; exact q
  have E1 := Lib.hid e1
  have E2 := Lib.hid e2
  have E3 := Lib.hid e3
  have E4 := Lib.hid e4
  have LN := Lib.hid hl
  have TP := Lib.hid h.top
  have h0 := h.alloc (.cells #[.slice V.xr V.nr V.cr, .slice V.xf V.nf V.cf, .slice V.xt V.nt V.ct, .int .i64 s.lo, .int .i64 s.al, .slice V.xk V.nk V.ck, .int .i64 s.ka] 36)
  have X := Box7.new W 36 (.slice V.xr V.nr V.cr) (.slice V.xf V.nf V.cf) (.slice V.xt V.nt V.ct) (.int .i64 s.lo) (.int .i64 s.al) (.slice V.xk V.nk V.ck) (.int .i64 s.ka)
  have K0 := MarkKeepsS.alloc W B U (.cells #[.slice V.xr V.nr V.cr, .slice V.xf V.nf V.cf, .slice V.xt V.nt V.ct, .int .i64 s.lo, .int .i64 s.al, .slice V.xk V.nk V.ck, .int .i64 s.ka] 36)
  obtain ⟨W0, hW⟩ : ∃ W', W' = W.alloc (.cells #[.slice V.xr V.nr V.cr, .slice V.xf V.nf V.cf, .slice V.xt V.nt V.ct, .int .i64 s.lo, .int .i64 s.al, .slice V.xk V.nk V.ck, .int .i64 s.ka] 36) := ⟨_, rfl⟩
  obtain ⟨a0, a1, a2, a3, a4, a5, a6⟩ := X.cells
  rw [← hW] at h0 X K0
  clear h hl e1 e2 e3 e4
  obtain ⟨M, m1, m2, ⟨G, C, o, q1, q2, q3⟩, hf⟩ := h0.mid
  have KM := Lib.hid K0
  have HO := Lib.hid o
  have HF := Lib.hid hf
  have HT := Lib.hid h0.t
  have HK := Lib.hid h0.k
  have FT := Lib.hid h0.ft
  have TT := Lib.hid h0.tt
  have KT := Lib.hid h0.kt
  have Q1 := Lib.hid q1
  have Q2 := Lib.hid q2
  have Q3 := Lib.hid q3
  clear K0 o hf h0 q1 q2 q3
  go_enter Try.func29, Try.ntmps29
  go_wp2_with fail
  rw [← hW]
  clear hW a0 a1 a2 a3 a4 a5 a6
  have K1 := markRough_at W0 B (.slice V.xr V.nr V.cr) s.rs G C k LN.out.r.len LN.out.r.row LN.out.r.all (by omega) (by omega) HO.out
  rw [← E1.out] at K1
  refine K1.mono ?_
  rintro e w1 ⟨rs', rfl, hm, ho, hk1⟩
  clear K1
  have k1 := MarkKeepsS.rough (T := U) HO.out (fun i hi => Nat.lt_of_lt_of_le (Q2.out i hi) m2) hk1
  replace X := k1.box _ _ _ _ _ _ _ _ _ (by decide) (by decide) (by decide) X
  replace KM := Lib.hid (KM.out.trans k1)
  have HR := Lib.hid (show OwnRR w1 B M (.slice V.xr V.nr V.cr) rs' from ⟨G, C, ho, Q1.out, fun i hi => Q2.out i (by rw [← hm.1]; exact hi), Nat.le_trans Q3.out hk1.size⟩)
  have HM := Lib.hid hm
  have off : ∀ {e size n v xs B'}, W0.ownsRow B' e size v n xs → e ≠ 3 → ∀ k, v.ownBlock = some k → ¬ ∃ i, i < s.rs.length ∧ G i = k := fun p pe k e => by
    rintro ⟨i, hi, rfl⟩
    rcases own_ne p (HO.out.row i hi) pe with n | n
    · rw [n] at e; cases e
    · exact n e
  replace HF := Lib.hid (ownsRow_keptB HF.out hk1 (fun k e => by rintro ⟨i, hi, rfl⟩; have := (World.ownsRow.lt HF.out _ e).1; have := Q2.out i hi; omega))
  replace HT := Lib.hid (ownsRow_keptB HT.out hk1 (off HT.out (by decide)))
  replace HK := Lib.hid (ownsRow_keptB HK.out hk1 (off HK.out (by decide)))
  clear off k1 hk1 hm ho HO
  obtain ⟨a0, a1, a2, a3, a4, a5, a6⟩ := X.cells
  go_wp2_with fail
  have K1 := markFew_at w1 M (.slice V.xf V.nf V.cf) s.zs (k + (n1 : Int)) HF.out LN.out.f (by omega) (by omega)
  rw [← E2.out] at K1
  refine K1.mono ?_
  rintro e w2 ⟨rfl, ho, hg⟩
  clear K1 a0 a1 a2 a3 a4 a5 a6
  have k1 := MarkKeepsS.row (B := B) (T := U) HF.out (.inl rfl) m1 FT.out hg
  replace X := k1.box _ _ _ _ _ _ _ _ _ (by decide) (by decide) (by decide) X
  replace KM := Lib.hid (KM.out.trans k1)
  replace HR := Lib.hid (HR.out.marked HF.out hg)
  replace HT := Lib.hid (World.ownsRow.kept HT.out hg (own_ne HT.out HF.out (by decide)))
  replace HK := Lib.hid (World.ownsRow.kept HK.out hg (own_ne HK.out HF.out (by decide)))
  replace HF := Lib.hid ho
  clear k1 hg ho
  obtain ⟨a0, a1, a2, a3, a4, a5, a6⟩ := X.cells
  go_wp2_with fail
  have K1 := T.markTop_at w2 B (.slice V.xt V.nt V.ct) s.ps s.lo s.al (k + (n1 : Int) + (n2 : Int)) HT.out LN.out.t (by omega) (by omega)
  rw [← E3.out] at K1
  refine K1.mono ?_
  rintro e w3 ⟨rfl, ho, hg⟩
  clear K1 a0 a1 a2 a3 a4 a5 a6
  have k1 := MarkKeepsS.row (B := B) (T := U) HT.out (.inr (.inl rfl)) (Nat.le_refl _) TT.out hg
  replace X := k1.box _ _ _ _ _ _ _ _ _ (by decide) (by decide) (by decide) X
  replace KM := Lib.hid (KM.out.trans k1)
  replace HR := Lib.hid (HR.out.other HT.out (by decide) (by decide) hg)
  replace HF := Lib.hid (World.ownsRow.kept HF.out hg (own_ne HF.out HT.out (by decide)))
  replace HK := Lib.hid (World.ownsRow.kept HK.out hg (own_ne HK.out HT.out (by decide)))
  replace HT := Lib.hid ho
  clear k1 hg ho
  obtain ⟨a0, a1, a2, a3, a4, a5, a6⟩ := X.cells
  go_wp2_with fail
  have K1 := K.markRank_at w3 B (.slice V.xk V.nk V.ck) s.ks s.ka (k + (n1 : Int) + (n2 : Int) + 2 * (n3 : Int)) HK.out LN.out.k (by omega) (by omega)
  rw [← E4.out] at K1
  refine K1.mono ?_
  rintro e w4 ⟨rfl, ho, hg⟩
  clear K1 a0 a1 a2 a3 a4 a5 a6
  have k1 := MarkKeepsS.row (B := B) (T := U) HK.out (.inr (.inr rfl)) (Nat.le_refl _) KT.out hg
  replace KM := Lib.hid (KM.out.trans k1)
  replace HR := Lib.hid (HR.out.other HK.out (by decide) (by decide) hg)
  replace HF := Lib.hid (World.ownsRow.kept HF.out hg (own_ne HF.out HK.out (by decide)))
  replace HT := Lib.hid (World.ownsRow.kept HT.out hg (own_ne HT.out HK.out (by decide)))
  replace HK := Lib.hid ho
  clear k1 hg ho X
  go_wp2
  go_ret
  refine ⟨_, congrArg (fun z => Ending.returned (Value.int .i64 z)) (by omega), MK.out _ ⟨rs', HM.out, rfl⟩, ⟨⟨M, m1, m2, HR.out, HF.out⟩, HT.out, HK.out, FT.out, TT.out, KT.out, Nat.le_trans TP.out KM.out.keep.size⟩, KM.out⟩

set_option maxRecDepth 100000 in
set_option maxHeartbeats 8000000 in
theorem heldSum_at (w : World) (V : SV) (s s' : Sm) (k : Int) (hm : MarkedS k s s') (h1 : RdS w V s') (hl : LenS s) (hk : 0 ≤ k) (hk' : k ≤ 1000000000) :
    Calls Try.prog 30 #[.agg #[.slice V.xr V.nr V.cr, .slice V.xf V.nf V.cf, .slice V.xt V.nt V.ct, .int .i64 s.lo, .int .i64 s.al, .slice V.xk V.nk V.ck, .int .i64 s.ka], .int .i64 k] w fun e w' => e = .returned (.int .i64 (k + (totS s : Nat))) ∧ Below w.heap.size w w' := by
  obtain ⟨rs', hmr, rfl⟩ := hm
  obtain ⟨n1, e1⟩ : ∃ n, n = ahead s.rs s.rs.length := ⟨_, rfl⟩
  obtain ⟨n2, e2⟩ : ∃ n, n = s.zs.length := ⟨_, rfl⟩
  obtain ⟨n3, e3⟩ : ∃ n, n = s.ps.length := ⟨_, rfl⟩
  obtain ⟨n4, e4⟩ : ∃ n, n = s.ks.length := ⟨_, rfl⟩
  have L : totS s = n1 + n2 + 2 * n3 + 2 * n4 := by rw [e1, e2, e3, e4]; rfl
  rw [L]
  clear L
  have l1 := hl.r.all
  have l2 := hl.f
  have l3 := hl.t
  have l4 := hl.k
  rw [← e1] at l1
  rw [← e2] at l2
  rw [← e3] at l3
  rw [← e4] at l4
  rw [← e1, ← e2, ← e3, ← e4] at h1
  have HM := Lib.hid hmr
  have LN := Lib.hid hl
  have E1 := Lib.hid e1
  clear hmr hl e1 e2 e3 e4
  have hA := (Below.refl w.heap.size w).alloc (Nat.le_refl _) (.cells #[.slice V.xr V.nr V.cr, .slice V.xf V.nf V.cf, .slice V.xt V.nt V.ct, .int .i64 s.lo, .int .i64 s.al, .slice V.xk V.nk V.ck, .int .i64 s.ka] 36)
  have X := Box7.new w 36 (.slice V.xr V.nr V.cr) (.slice V.xf V.nf V.cf) (.slice V.xt V.nt V.ct) (.int .i64 s.lo) (.int .i64 s.al) (.slice V.xk V.nk V.ck) (.int .i64 s.ka)
  obtain ⟨ax0, ax1, ax2, ax3, ax4, ax5, ax6⟩ := (X).cells
  obtain ⟨W0, hW⟩ : ∃ W, W = w.alloc (.cells #[.slice V.xr V.nr V.cr, .slice V.xf V.nf V.cf, .slice V.xt V.nt V.ct, .int .i64 s.lo, .int .i64 s.al, .slice V.xk V.nk V.ck, .int .i64 s.ka] 36) := ⟨_, rfl⟩
  rw [← hW] at hA X
  have B := Lib.hid hA
  have H1 := Lib.hid h1
  clear hA h1
  have b1 : ¬ k + (n1 : Int) < 0 := by omega
  have b2 : ¬ k + (n1 : Int) + (n2 : Int) < 0 := by omega
  have b3 : ¬ k + (n1 : Int) + (n2 : Int) + 2 * (n3 : Int) < 0 := by omega
  have b4 : ¬ k + (n1 : Int) + (n2 : Int) + 2 * (n3 : Int) + 2 * (n4 : Int) < 0 := by omega
  go_enter Try.func30, Try.ntmps30
  go_wp2_with fail
  rw [← hW]
  clear hW ax0 ax1 ax2 ax3 ax4 ax5 ax6
  have Q := (H1.out.below B.out (Nat.le_refl _))
  have K1 := heldRough_at W0 (.slice V.xr V.nr V.cr) s.rs rs' k HM.out LN.out.r.len LN.out.r.row LN.out.r.all (by omega) (by omega) Q.r
  rw [← E1.out] at K1
  clear Q
  refine (K1).mono ?_
  rintro e w1 ⟨rfl, hb⟩
  clear K1
  replace X := X.later hb
  replace B := Lib.hid (B.out.trans (hb.mono B.out.size))
  clear hb
  obtain ⟨cx0, cx1, cx2, cx3, cx4, cx5, cx6⟩ := (X).cells
  have Q := (H1.out.below B.out (Nat.le_refl _))
  have K1 := heldFew_at w1 (.slice V.xf V.nf V.cf) n2 (k + (n1 : Int)) Q.f l2 (by omega) (by omega)
  clear Q
  go_wp2_with fail
  refine (K1).mono ?_
  rintro e w2 ⟨rfl, hb⟩
  clear K1
  clear cx0 cx1 cx2 cx3 cx4 cx5 cx6
  replace X := X.later hb
  replace B := Lib.hid (B.out.trans (hb.mono B.out.size))
  clear hb
  obtain ⟨cx0, cx1, cx2, cx3, cx4, cx5, cx6⟩ := (X).cells
  have Q := (H1.out.below B.out (Nat.le_refl _))
  have K1 := T.heldTop_at w2 (.slice V.xt V.nt V.ct) n3 s.lo s.al (k + (n1 : Int) + (n2 : Int)) Q.t l3 (by omega) (by omega)
  clear Q
  go_wp2_with fail
  refine (K1).mono ?_
  rintro e w3 ⟨rfl, hb⟩
  clear K1
  clear cx0 cx1 cx2 cx3 cx4 cx5 cx6
  replace X := X.later hb
  replace B := Lib.hid (B.out.trans (hb.mono B.out.size))
  clear hb
  obtain ⟨cx0, cx1, cx2, cx3, cx4, cx5, cx6⟩ := (X).cells
  have Q := (H1.out.below B.out (Nat.le_refl _))
  have K1 := K.heldRank_at w3 (.slice V.xk V.nk V.ck) n4 s.ka (k + (n1 : Int) + (n2 : Int) + 2 * (n3 : Int)) Q.k l4 (by omega) (by omega)
  clear Q
  go_wp2_with fail
  refine (K1).mono ?_
  rintro e w4 ⟨rfl, hb⟩
  clear K1
  clear cx0 cx1 cx2 cx3 cx4 cx5 cx6
  replace X := X.later hb
  replace B := Lib.hid (B.out.trans (hb.mono B.out.size))
  clear hb
  go_wp2
  go_ret
  exact ⟨congrArg (fun z => Ending.returned (Value.int .i64 z)) (by omega), B.out⟩

end Go.Proofs.Ytnoilafoeaknjaa
