/-
  Sums, drawn.
-/
import Derived.Test.YtnoilafoeaknjaaZSpOf
import Derived.Test.YtnoilafoeaknjaaZSpJoin
import Derived.Test.YtnoilafoeaknjaaKThings
import Derived.Test.YtnoilafoeaknjaaZLk
set_option linter.unusedVariables false
namespace Go.Proofs.Ytnoilafoeaknjaa
open Go.RowKit Go.Sort

/-- The lists at V read as the sum s, in blocks of the call's own from B on. -/
structure DrS (w : World) (B : Nat) (V : SV) (s : Sm) : Prop where
  r : ∃ G C, OwnR w B V.r s.rs G C
  f : OwnI w B V.f s.zs
  t : T.OwnP w B V.t s.ps
  k : K.OwnP w B V.k s.ks
theorem DrS.of {w : World} {B B' U : Nat} {V : SV} {s : Sm} (h : OwnS w B U V s) (hB : B' ≤ B) : DrS w B' V s := by
  obtain ⟨M, h1, _, hr, hf⟩ := h.mid
  obtain ⟨G, C, o, _⟩ := hr.base hB
  exact ⟨⟨G, C, o⟩, ownsRow_base hf (Nat.le_trans hB h1), ownsRow_base h.t hB, ownsRow_base h.k hB⟩
theorem DrS.rd {w : World} {B : Nat} {V : SV} {s : Sm} (h : DrS w B V s) : RdS w V s := by
  obtain ⟨G, C, o⟩ := h.r
  exact ⟨o.rws, h.f.rd, h.t.rd, h.k.rd⟩
theorem DrS.kept {w w' : World} {B : Nat} {V : SV} {s : Sm} {row : Option Nat} (h : DrS w B V s) (hg : w.grownBy w' row) (hr : ∀ k, row = some k → k < B) : DrS w' B V s := by
  obtain ⟨G, C, o⟩ := h.r
  exact ⟨⟨G, C, o.grown hg hr⟩, h.f.kept hg hr, h.t.kept hg hr, h.k.kept hg hr⟩
theorem DrS.below {w w' : World} {B : Nat} {V : SV} {s : Sm} (h : DrS w B V s) (hb : Below w.heap.size w w') : DrS w' B V s := h.kept (row := none) (grownBy_below hb) (fun _ e => by cases e)
theorem DrS.alloc {w : World} {B : Nat} {V : SV} {s : Sm} (h : DrS w B V s) (o : Obj) : DrS (w.alloc o) B V s := h.below ((Below.refl _ _).alloc (Nat.le_refl _) o)
theorem OwnR.far {w w' : World} {B b : Nat} {u : Value} {rs : List (List Int)} {G C : Nat → Nat} (h : OwnR w B u rs G C) (hg : w.grownBy w' (some b)) (h1 : u.ownBlock ≠ some b) (h2 : ∀ i, i < rs.length → G i ≠ b) : OwnR w' B u rs G C :=
  ⟨World.ownsRow.kept h.hdr hg (.inr h1), fun i hi => World.ownsRow.kept (h.row i hi) hg (.inr (fun e => h2 i hi (by simpa [rowV, Value.ownBlock] using e))), h.off, h.apart⟩
section
variable {w : World} {B b : Nat} {V : SV} {s : Sm} {x0 x1 x2 x3 x4 x5 x6 : Value}
theorem DrS.by7 {w' : World} (h : DrS w B V s) (X : Box7 w b 36 x0 x1 x2 x3 x4 x5 x6) (hg : w.grownBy w' (some b)) : DrS w' B V s := by
  obtain ⟨G, C, o⟩ := h.r
  exact ⟨⟨G, C, o.far hg (X.not_row (by decide) o.hdr) (fun i hi e => X.not_row (by decide) (o.row i hi) (by rw [← e]; rfl))⟩, h.f.keep hg (X.not_row (by decide) h.f), h.t.keep hg (X.not_row (by decide) h.t), h.k.keep hg (X.not_row (by decide) h.k)⟩
theorem DrS.box7 (h : DrS w B V s) (X : Box7 w b 36 x0 x1 x2 x3 x4 x5 x6) (y0 y1 y2 y3 y4 y5 y6 : Value) : DrS (set7 w b y0 y1 y2 y3 y4 y5 y6) B V s := h.by7 X (set7_grown w b y0 y1 y2 y3 y4 y5 y6)
theorem DrS.cell7 (h : DrS w B V s) (X : Box7 w b 36 x0 x1 x2 x3 x4 x5 x6) (i : Nat) (y : Value) : DrS (w.setCell ⟨b, i, none⟩ y) B V s := h.by7 X (grownBy_setCell w ⟨b, i, none⟩ y)
end
theorem OwnS.kept {w w' : World} {B U : Nat} {V : SV} {s : Sm} {row : Option Nat} (h : OwnS w B U V s) (hg : w.grownBy w' row) (hr : ∀ k, row = some k → k < B) : OwnS w' B U V s := by
  obtain ⟨M, h1, h2, ⟨G, C, o, q1, q2, q3⟩, hf⟩ := h.mid
  exact ⟨⟨M, h1, h2, ⟨G, C, o.grown hg hr, q1, q2, Nat.le_trans q3 hg.size⟩, hf.kept hg (fun k e => Nat.lt_of_lt_of_le (hr k e) h1)⟩, h.t.kept hg hr, h.k.kept hg hr, h.ft, h.tt, h.kt, Nat.le_trans h.top hg.size⟩
theorem OwnS.cell7 {w : World} {B U b : Nat} {V : SV} {s : Sm} {x0 x1 x2 x3 x4 x5 x6 : Value} (h : OwnS w B U V s) (X : Box7 w b 36 x0 x1 x2 x3 x4 x5 x6) (i : Nat) (y : Value) : OwnS (w.setCell ⟨b, i, Option.none⟩ y) B U V s := by
  obtain ⟨M, h1, h2, hr, hf⟩ := h.mid
  exact ⟨⟨M, h1, h2, hr.cell7 X i y, hf.cell7 X i y⟩, h.t.cell7 X i y, h.k.cell7 X i y, h.ft, h.tt, h.kt, by simpa using h.top⟩
theorem own_ne {w : World} {B B' : Nat} {e e' : TypeId} {z z' n n' : Nat} {u v : Value} {xs ys : List Value} (h : w.ownsRow B e z u n xs) (h' : w.ownsRow B' e' z' v n' ys) (he : e ≠ e') : u.ownBlock = none ∨ u.ownBlock ≠ v.ownBlock := by
  rcases h.2 with ⟨rfl, _⟩ | ⟨g, cap, cur, rfl, _, hg, _⟩
  · exact .inl rfl
  · refine .inr fun q => ?_
    rcases h'.2 with ⟨rfl, _⟩ | ⟨g', cap', cur', rfl, _, hg', _⟩
    · cases q
    · have q' : g = g' := by simpa [Value.ownBlock] using q
      subst q'
      rw [hg] at hg'
      simp at hg'
      exact he hg'.2
/-- One mark more, whatever it is, behind those of a sum. -/
theorem OwnS.mark {w w' : World} {B U : Nat} {V : SV} {s : Sm} {o : Obj} {g c : Nat} {z : Int} (h : OwnS w B U V s) (hg : (w.alloc o).grownBy w' (SV.f V).ownBlock) (ho : OwnI w' B (.slice (some ⟨g, 0, Option.none⟩) (V.nf + 1) c) (s.zs ++ [z])) :
    DrS w' B ⟨V.xr, V.nr, V.cr, some ⟨g, 0, Option.none⟩, V.nf + 1, c, V.xt, V.nt, V.ct, V.xk, V.nk, V.ck⟩ ⟨s.rs, s.zs ++ [z], s.ps, s.lo, s.al, s.ks, s.ka⟩ := by
  have h := h.alloc o
  obtain ⟨M, h1, h2, hr, hf⟩ := h.mid
  have hk : KeptB (fun k => (SV.f V).ownBlock = some k) (w.alloc o) w' := ⟨hg.os, hg.tape, hg.output, hg.size, fun k hk hn => hg.block k hk (fun e => hn e.symm)⟩
  obtain ⟨G, C, ro, _⟩ := hr.keptB hk (fun k _ q2 e => by have := (World.ownsRow.lt hf k e).1; omega)
  exact ⟨⟨G, C, ro⟩, ho, World.ownsRow.kept h.t hg (own_ne h.t hf (by decide)), World.ownsRow.kept h.k hg (own_ne h.k hf (by decide))⟩
theorem up_al (l : List Int) : 0 ≤ (upS l).al ∧ (upS l).al ≤ 2000 := by
  cases h : okS (upS l) with
  | true => exact ((okS_iff _).1 h).al0
  | false => rw [up_no h]; exact ⟨Int.le_refl _, by decide⟩
theorem join_al (a b : Sm) : 0 ≤ (joinS a b).al ∧ (joinS a b).al ≤ 2000 := by
  cases h : joinOkS a b with
  | true => exact (joinS_ok h).1.al0
  | false => rw [joinS_no h]; exact ⟨Int.le_refl _, by decide⟩
theorem else_set {a b : Nat} {w W : World} (h : Else a w W) {i : Nat} (hb : w.heap.size ≤ b) (y : Value) : Else a w (W.setCell ⟨b, i, none⟩ y) := h.set hb y
theorem else_set7 {a b : Nat} {w W : World} (h : Else a w W) (hb : w.heap.size ≤ b) (y0 y1 y2 y3 y4 y5 y6 : Value) : Else a w (set7 W b y0 y1 y2 y3 y4 y5 y6) :=
  else_set (else_set (else_set (else_set (else_set (else_set (else_set h hb y0) hb y1) hb y2) hb y3) hb y4) hb y5) hb y6

set_option maxRecDepth 100000 in
set_option maxHeartbeats 16000000 in
theorem sum_at (w : World) (a : Nat) (p : Int) (h : Rd w a p) (hp : 0 ≤ p) (hp' : p ≤ 40000) :
    Calls Try.prog 34 #[.pointer (some ⟨a, 0, none⟩)] w fun e w' => ∃ V s q, e = .returned (.agg #[.slice V.xr V.nr V.cr, .slice V.xf V.nf V.cf, .slice V.xt V.nt V.ct, .int .i64 s.lo, .int .i64 s.al, .slice V.xk V.nk V.ck, .int .i64 s.ka]) ∧ DrS w' w.heap.size V s ∧ p ≤ q ∧ q ≤ p + 90 ∧ Rd w' a q ∧ Else a w w' := by
  have la := h.lt
  obtain ⟨W0, hW⟩ : ∃ W, W = w.alloc (.cells #[.slice none 0 0, .slice none 0 0, .slice none 0 0, .int .i64 0, .int .i64 0, .slice none 0 0, .int .i64 0] 36) := ⟨_, rfl⟩
  have R := Box7.new w 36 (.slice none 0 0) (.slice none 0 0) (.slice none 0 0) (.int .i64 0) (.int .i64 0) (.slice none 0 0) (.int .i64 0)
  have E := Lib.hid (show Else a w (w.alloc (.cells #[.slice none 0 0, .slice none 0 0, .slice none 0 0, .int .i64 0, .int .i64 0, .slice none 0 0, .int .i64 0] 36)) from World.grownBy_alloc w _ _)
  have RR := Lib.hid (h.alloc (.cells #[.slice none 0 0, .slice none 0 0, .slice none 0 0, .int .i64 0, .int .i64 0, .slice none 0 0, .int .i64 0] 36))
  rw [← hW] at R E RR
  have s0 : W0.heap.size = w.heap.size + 1 := by rw [hW]; simp
  clear h
  go_enter Try.func34, Try.ntmps34
  go_wp2_with fail
  rw [← hW]
  clear hW
  go_wp2_with fail
  refine (K.things_at W0 a p 20 RR.out (by omega) (by omega) (by omega) (by omega)).mono ?_
  rintro e w1 ⟨v9, rfl, zs1, q, ho, hzl1, q01, q11, hr, he⟩
  have hb := he
  obtain ⟨y1, cy1, rfl⟩ := ho.form
  obtain ⟨nz1, hnz⟩ : ∃ nz, nz = zs1.length := ⟨_, rfl⟩
  have L9 := ho.rd
  rw [← hnz] at L9 ⊢
  have sz1 := hb.size
  clear ho hnz
  replace RR := Lib.hid hr
  clear hr
  replace R := R.kept hb (by simp; omega)
  replace E := Lib.hid (grownBy_trans E.out hb)
  have L1 := Lib.hid (L9)
  clear hb
  clear L9 he
  obtain ⟨s1, hs⟩ : ∃ s, s = upS zs1 := ⟨_, rfl⟩
  have K1 := spSumOf_at w1 y1 nz1 cy1 zs1 L1.out
  rw [← hs] at K1
  generalize okS s1 = ok1 at K1
  have SM1 := Lib.hid (show Small s1 by rw [hs]; exact up_small _)
  have AL1 := Lib.hid (show 0 ≤ s1.al ∧ s1.al ≤ 2000 by rw [hs]; exact up_al _)
  clear hs
  clear L1
  go_wp2_with fail
  refine (K1).mono ?_
  rintro e w2 ⟨V1, rfl, ho, hb⟩
  clear K1
  have sb1 := hb.size
  replace R := R.later hb
  replace E := Lib.hid (grownBy_trans E.out (grownBy_below hb))
  replace RR := Lib.hid (RR.out.below hb (Nat.le_refl _))
  have P := Lib.hid (ho.base (B' := w.heap.size) (by omega) (Nat.le_refl _) (Nat.le_refl _))
  clear hb
  obtain ⟨W2, hW⟩ : ∃ W, W = (w2.alloc (.cells #[.slice V1.xr V1.nr V1.cr, .slice V1.xf V1.nf V1.cf, .slice V1.xt V1.nt V1.ct, .int .i64 s1.lo, .int .i64 s1.al, .slice V1.xk V1.nk V1.ck, .int .i64 s1.ka] 36)) := ⟨_, rfl⟩
  replace R := R.alloc (.cells #[.slice V1.xr V1.nr V1.cr, .slice V1.xf V1.nf V1.cf, .slice V1.xt V1.nt V1.ct, .int .i64 s1.lo, .int .i64 s1.al, .slice V1.xk V1.nk V1.ck, .int .i64 s1.ka] 36)
  rw [← hW] at R
  replace E := Lib.hid (grownBy_trans E.out (World.grownBy_alloc _ (.cells #[.slice V1.xr V1.nr V1.cr, .slice V1.xf V1.nf V1.cf, .slice V1.xt V1.nt V1.ct, .int .i64 s1.lo, .int .i64 s1.al, .slice V1.xk V1.nk V1.ck, .int .i64 s1.ka] 36) _))
  rw [← hW] at E
  replace RR := Lib.hid (RR.out.alloc (.cells #[.slice V1.xr V1.nr V1.cr, .slice V1.xf V1.nf V1.cf, .slice V1.xt V1.nt V1.ct, .int .i64 s1.lo, .int .i64 s1.al, .slice V1.xk V1.nk V1.ck, .int .i64 s1.ka] 36))
  rw [← hW] at RR
  replace P := Lib.hid (P.out.alloc (.cells #[.slice V1.xr V1.nr V1.cr, .slice V1.xf V1.nf V1.cf, .slice V1.xt V1.nt V1.ct, .int .i64 s1.lo, .int .i64 s1.al, .slice V1.xk V1.nk V1.ck, .int .i64 s1.ka] 36))
  rw [← hW] at P
  have X := Box7.new w2 36 (.slice V1.xr V1.nr V1.cr) (.slice V1.xf V1.nf V1.cf) (.slice V1.xt V1.nt V1.ct) (.int .i64 s1.lo) (.int .i64 s1.al) (.slice V1.xk V1.nk V1.ck) (.int .i64 s1.ka)
  rw [← hW] at X
  go_wp2_with fail
  rw [← hW]
  clear hW
  clear ho
  obtain ⟨b3, hb3⟩ : ∃ b, b = w2.heap.size := ⟨_, rfl⟩
  rw [← hb3] at X ⊢
  have l3 : w.heap.size + 1 ≤ b3 := by omega
  have l3' : w.heap.size ≤ b3 := by omega
  have lx := X.lt
  clear hb3
  go_wp2_with fail
  refine (pick_at W2 a q 4 RR.out (by omega) (by omega) (by omega) (by omega)).mono ?_
  rintro e w3 ⟨k, rfl, k0, k1, hr, hg⟩
  have hb := hg
  replace RR := Lib.hid hr
  have sk := hb.size
  clear hr
  replace R := R.kept hb (by simp; omega)
  replace E := Lib.hid (grownBy_trans E.out hb)
  replace P := Lib.hid (P.out.kept hb (fun k e => by cases e; omega))
  replace X := X.kept hb (by simp; omega)
  clear hb
  clear hg
  by_cases hk : k = 0
  · obtain rfl := hk
    go_wp2_with fail
    refine (K.things_at w3 a (q + 1) 20 RR.out (by omega) (by omega) (by omega) (by omega)).mono ?_
    rintro e w4 ⟨v9, rfl, zs2, qb, ho, hzl2, q02, q12, hr, he⟩
    have hb := he
    obtain ⟨y2, cy2, rfl⟩ := ho.form
    obtain ⟨nz2, hnz⟩ : ∃ nz, nz = zs2.length := ⟨_, rfl⟩
    have L9 := ho.rd
    rw [← hnz] at L9 ⊢
    have sz2 := hb.size
    clear ho hnz
    replace RR := Lib.hid hr
    clear hr
    replace R := R.kept hb (by simp; omega)
    replace E := Lib.hid (grownBy_trans E.out hb)
    replace P := Lib.hid (P.out.kept hb (fun k e => by cases e; omega))
    replace X := X.kept hb (by simp; omega)
    have L2 := Lib.hid (L9)
    clear hb
    clear L9 he
    obtain ⟨s2, hs⟩ : ∃ s, s = upS zs2 := ⟨_, rfl⟩
    have K1 := spSumOf_at w4 y2 nz2 cy2 zs2 L2.out
    rw [← hs] at K1
    generalize okS s2 = ok2 at K1
    have SM2 := Lib.hid (show Small s2 by rw [hs]; exact up_small _)
    have AL2 := Lib.hid (show 0 ≤ s2.al ∧ s2.al ≤ 2000 by rw [hs]; exact up_al _)
    clear hs
    clear L2
    go_wp2_with fail
    refine (K1).mono ?_
    rintro e w5 ⟨V2, rfl, ho, hb⟩
    clear K1
    have sb2 := hb.size
    replace R := R.later hb
    replace E := Lib.hid (grownBy_trans E.out (grownBy_below hb))
    replace RR := Lib.hid (RR.out.below hb (Nat.le_refl _))
    replace P := Lib.hid (P.out.below hb)
    replace X := X.later hb
    have P2 := Lib.hid (ho.base (B' := w.heap.size) (by omega) (Nat.le_refl _) (Nat.le_refl _))
    clear hb
    obtain ⟨W5, hW⟩ : ∃ W, W = (w5.alloc (.cells #[.slice V2.xr V2.nr V2.cr, .slice V2.xf V2.nf V2.cf, .slice V2.xt V2.nt V2.ct, .int .i64 s2.lo, .int .i64 s2.al, .slice V2.xk V2.nk V2.ck, .int .i64 s2.ka] 36)) := ⟨_, rfl⟩
    obtain ⟨ax0, ax1, ax2, ax3, ax4, ax5, ax6⟩ := ((X.alloc (.cells #[.slice V2.xr V2.nr V2.cr, .slice V2.xf V2.nf V2.cf, .slice V2.xt V2.nt V2.ct, .int .i64 s2.lo, .int .i64 s2.al, .slice V2.xk V2.nk V2.ck, .int .i64 s2.ka] 36))).cells
    replace R := R.alloc (.cells #[.slice V2.xr V2.nr V2.cr, .slice V2.xf V2.nf V2.cf, .slice V2.xt V2.nt V2.ct, .int .i64 s2.lo, .int .i64 s2.al, .slice V2.xk V2.nk V2.ck, .int .i64 s2.ka] 36)
    rw [← hW] at R
    replace E := Lib.hid (grownBy_trans E.out (World.grownBy_alloc _ (.cells #[.slice V2.xr V2.nr V2.cr, .slice V2.xf V2.nf V2.cf, .slice V2.xt V2.nt V2.ct, .int .i64 s2.lo, .int .i64 s2.al, .slice V2.xk V2.nk V2.ck, .int .i64 s2.ka] 36) _))
    rw [← hW] at E
    replace RR := Lib.hid (RR.out.alloc (.cells #[.slice V2.xr V2.nr V2.cr, .slice V2.xf V2.nf V2.cf, .slice V2.xt V2.nt V2.ct, .int .i64 s2.lo, .int .i64 s2.al, .slice V2.xk V2.nk V2.ck, .int .i64 s2.ka] 36))
    rw [← hW] at RR
    replace P := Lib.hid (P.out.alloc (.cells #[.slice V2.xr V2.nr V2.cr, .slice V2.xf V2.nf V2.cf, .slice V2.xt V2.nt V2.ct, .int .i64 s2.lo, .int .i64 s2.al, .slice V2.xk V2.nk V2.ck, .int .i64 s2.ka] 36))
    rw [← hW] at P
    replace X := X.alloc (.cells #[.slice V2.xr V2.nr V2.cr, .slice V2.xf V2.nf V2.cf, .slice V2.xt V2.nt V2.ct, .int .i64 s2.lo, .int .i64 s2.al, .slice V2.xk V2.nk V2.ck, .int .i64 s2.ka] 36)
    rw [← hW] at X
    replace P2 := Lib.hid (P2.out.alloc (.cells #[.slice V2.xr V2.nr V2.cr, .slice V2.xf V2.nf V2.cf, .slice V2.xt V2.nt V2.ct, .int .i64 s2.lo, .int .i64 s2.al, .slice V2.xk V2.nk V2.ck, .int .i64 s2.ka] 36))
    rw [← hW] at P2
    have X2 := Box7.new w5 36 (.slice V2.xr V2.nr V2.cr) (.slice V2.xf V2.nf V2.cf) (.slice V2.xt V2.nt V2.ct) (.int .i64 s2.lo) (.int .i64 s2.al) (.slice V2.xk V2.nk V2.ck) (.int .i64 s2.ka)
    rw [← hW] at X2
    go_wp2_with fail
    rw [← hW]
    clear hW ax0 ax1 ax2 ax3 ax4 ax5 ax6
    clear ho
    have K1 := spSumJoin_at W5 V1 V2 s1 s2 P.out.rd P2.out.rd
    obtain ⟨z, hz⟩ : ∃ z, z = joinS s1 s2 := ⟨_, rfl⟩
    rw [← hz] at K1
    generalize joinOkS s1 s2 = okj at K1
    have SM := Lib.hid (show Small z by rw [hz]; exact join_small _ _)
    have AL := Lib.hid (show 0 ≤ z.al ∧ z.al ≤ 2000 by rw [hz]; exact join_al _ _)
    clear hz
    go_wp2_with fail
    refine (K1).mono ?_
    rintro e w6 ⟨U, rfl, ho, hb⟩
    clear K1
    have sE := E.out.size
    clear X2
    clear P2
    clear P
    replace R := R.later hb
    replace E := Lib.hid (grownBy_trans E.out (grownBy_below hb))
    replace RR := Lib.hid (RR.out.below hb (Nat.le_refl _))
    replace X := X.later hb
    have PJ := Lib.hid (ho.base (B' := w.heap.size) (by omega) (Nat.le_refl _) (Nat.le_refl _))
    clear hb
    obtain ⟨gx0, gx1, gx2, gx3, gx4, gx5, gx6⟩ := (X).cells
    have fx := X.free
    obtain ⟨WS, hW⟩ : ∃ W, W = set7 w6 b3 (.slice U.xr U.nr U.cr) (.slice U.xf U.nf U.cf) (.slice U.xt U.nt U.ct) (.int .i64 z.lo) (.int .i64 z.al) (.slice U.xk U.nk U.ck) (.int .i64 z.ka) := ⟨_, rfl⟩
    replace R := R.kept (set7_grown _ b3 (.slice U.xr U.nr U.cr) (.slice U.xf U.nf U.cf) (.slice U.xt U.nt U.ct) (.int .i64 z.lo) (.int .i64 z.al) (.slice U.xk U.nk U.ck) (.int .i64 z.ka)) (by simp; omega)
    replace E := Lib.hid (else_set7 E.out l3' (.slice U.xr U.nr U.cr) (.slice U.xf U.nf U.cf) (.slice U.xt U.nt U.ct) (.int .i64 z.lo) (.int .i64 z.al) (.slice U.xk U.nk U.ck) (.int .i64 z.ka))
    replace RR := Lib.hid (RR.out.grown (set7_grown _ b3 (.slice U.xr U.nr U.cr) (.slice U.xf U.nf U.cf) (.slice U.xt U.nt U.ct) (.int .i64 z.lo) (.int .i64 z.al) (.slice U.xk U.nk U.ck) (.int .i64 z.ka)) (fun k e => by cases e; omega))
    replace PJ := Lib.hid (PJ.out.box7 X (.slice U.xr U.nr U.cr) (.slice U.xf U.nf U.cf) (.slice U.xt U.nt U.ct) (.int .i64 z.lo) (.int .i64 z.al) (.slice U.xk U.nk U.ck) (.int .i64 z.ka))
    replace X := X.set (.slice U.xr U.nr U.cr) (.slice U.xf U.nf U.cf) (.slice U.xt U.nt U.ct) (.int .i64 z.lo) (.int .i64 z.al) (.slice U.xk U.nk U.ck) (.int .i64 z.ka)
    rw [← hW] at X R E RR PJ
    unfold set7 at hW
    go_wp2_with fail
    rw [← hW]
    clear hW fx gx0 gx1 gx2 gx3 gx4 gx5 gx6 ho
    go_wp2_with fail
    refine (pick_at WS a qb 24 RR.out (by omega) (by omega) (by omega) (by omega)).mono ?_
    rintro e w7 ⟨kk, rfl, kk0, kk1, hr, hg⟩
    have hb := hg
    replace RR := Lib.hid hr
    clear hr
    replace R := R.kept hb (by simp; omega)
    replace E := Lib.hid (grownBy_trans E.out hb)
    replace X := X.kept hb (by simp; omega)
    replace PJ := Lib.hid (PJ.out.kept hb (fun k e => by cases e; omega))
    clear hb
    clear hg
    have fx := X.free
    have fr := R.free
    rcases (by omega : kk = 0 ∨ kk = 1 ∨ kk = 2 ∨ 3 ≤ kk) with rfl | rfl | rfl | hkk
    · skip
      have wa : IntKind.i64.wrap (z.al + 1) = z.al + 1 := IntWalk.i64_in _ (by have := AL.out; omega)
      obtain ⟨gx0, gx1, gx2, gx3, gx4, gx5, gx6⟩ := (X).cells
      obtain ⟨gr0, gr1, gr2, gr3, gr4, gr5, gr6⟩ := (R).cells
      obtain ⟨WS, hW⟩ : ∃ W, W = w7.setCell ⟨b3, 4, none⟩ (.int .i64 (z.al + 1)) := ⟨_, rfl⟩
      replace R := R.kept (grownBy_setCell _ ⟨b3, 4, none⟩ (.int .i64 (z.al + 1))) (by simp; omega)
      replace E := Lib.hid (else_set E.out (i := 4) l3' (.int .i64 (z.al + 1)))
      replace RR := Lib.hid (RR.out.grown (grownBy_setCell _ ⟨b3, 4, none⟩ (.int .i64 (z.al + 1))) (fun k e => by simp at e; omega))
      replace PJ := Lib.hid (PJ.out.cell7 X 4 (.int .i64 (z.al + 1)))
      replace X := X.set4 (.int .i64 (z.al + 1))
      obtain ⟨cx0, cx1, cx2, cx3, cx4, cx5, cx6⟩ := (X).cells
      obtain ⟨cr0, cr1, cr2, cr3, cr4, cr5, cr6⟩ := (R).cells
      have fx' := X.free
      have fr' := R.free
      rw [← hW] at X R E RR PJ
      have RX := R.set (.slice U.xr U.nr U.cr) (.slice U.xf U.nf U.cf) (.slice U.xt U.nt U.ct) (.int .i64 z.lo) (.int .i64 (z.al + 1)) (.slice U.xk U.nk U.ck) (.int .i64 z.ka)
      have EX := Lib.hid (else_set7 E.out (Nat.le_refl _) (.slice U.xr U.nr U.cr) (.slice U.xf U.nf U.cf) (.slice U.xt U.nt U.ct) (.int .i64 z.lo) (.int .i64 (z.al + 1)) (.slice U.xk U.nk U.ck) (.int .i64 z.ka))
      have DX := Lib.hid ((DrS.of PJ.out (Nat.le_refl _)).box7 R (.slice U.xr U.nr U.cr) (.slice U.xf U.nf U.cf) (.slice U.xt U.nt U.ct) (.int .i64 z.lo) (.int .i64 (z.al + 1)) (.slice U.xk U.nk U.ck) (.int .i64 z.ka))
      have RRX := Lib.hid (RR.out.grown (set7_grown _ w.heap.size (.slice U.xr U.nr U.cr) (.slice U.xf U.nf U.cf) (.slice U.xt U.nt U.ct) (.int .i64 z.lo) (.int .i64 (z.al + 1)) (.slice U.xk U.nk U.ck) (.int .i64 z.ka)) (fun k e => by cases e; omega))
      have HY := Lib.hid RX
      clear RX
      have HHW := Lib.hid hW
      clear hW
      go_wp2
      rw [← HHW.out]
      show bodyPost _ _ _ _ _ (set7 WS w.heap.size (.slice U.xr U.nr U.cr) (.slice U.xf U.nf U.cf) (.slice U.xt U.nt U.ct) (.int .i64 z.lo) (.int .i64 (z.al + 1)) (.slice U.xk U.nk U.ck) (.int .i64 z.ka))
      obtain ⟨d0, d1, d2, d3, d4, d5, d6⟩ := HY.out.cells
      generalize set7 WS w.heap.size (.slice U.xr U.nr U.cr) (.slice U.xf U.nf U.cf) (.slice U.xt U.nt U.ct) (.int .i64 z.lo) (.int .i64 (z.al + 1)) (.slice U.xk U.nk U.ck) (.int .i64 z.ka) = WF at EX DX RRX d0 d1 d2 d3 d4 d5 d6 ⊢
      refine bodyPost_ret (v := .agg #[.slice U.xr U.nr U.cr, .slice U.xf U.nf U.cf, .slice U.xt U.nt U.ct, .int .i64 z.lo, .int .i64 (z.al + 1), .slice U.xk U.nk U.ck, .int .i64 z.ka]) (by simp [results, Try.results34, go_sem, d0, d1, d2, d3, d4, d5, d6]) rfl ?_
      exact ⟨⟨U.xr, U.nr, U.cr, U.xf, U.nf, U.cf, U.xt, U.nt, U.ct, U.xk, U.nk, U.ck⟩, ⟨z.rs, z.zs, z.ps, z.lo, z.al + 1, z.ks, z.ka⟩, qb + 1, rfl, ⟨DX.out.r, DX.out.f, DX.out.t, DX.out.k⟩, by omega, by omega, RRX.out, EX.out⟩
    · skip
      have nf := PJ.out.rd.lens.2.1
      have OF := Lib.hid (show w7.ownsRow w.heap.size 3 1 (.slice U.xf U.nf U.cf) U.nf (ints z.zs) by have h := PJ.out.mid; obtain ⟨M, m1, _, _, hf⟩ := h; have h := ownsRow_base hf m1; unfold SV.f at h; rw [← nf] at h; exact h)
      have nfs : U.nf ≤ 6 := by rw [nf]; exact SM.out.f
      have NF := Lib.hid nf
      clear nf
      obtain ⟨gx0, gx1, gx2, gx3, gx4, gx5, gx6⟩ := (X).cells
      obtain ⟨hx0, hx1, hx2, hx3, hx4, hx5, hx6⟩ := (X.alloc (.cells #[.int .i64 0] 3)).cells
      have XA := Lib.hid (X.alloc (.cells #[.int .i64 0] 3))
      have RA := Lib.hid (R.alloc (.cells #[.int .i64 0] 3))
      have PA := Lib.hid PJ.out
      have sW := E.out.size
      obtain ⟨i0, hi, hz0, hz1, hz2⟩ := info_parts K.int_info
      go_wp2_with (first | (at_builtin; go_loud (refine wpList_append_own _ rfl _ _ 26 rfl w.heap.size 3 i0 (.int .i64 0) 1 8 Try.underlying26 hi hz0 hz1 hz2 rfl (by decide) _ _ _ rfl (OF.out.alloc _) ⟨w7.heap.size, 0, none⟩ 1 1 [.int .i64 0] rfl rfl (cell_one_new _ _ _) (by simp [Value.oneCell']) (by unfold maxLen; omega) (by omega) (by simp; omega) ?_; intro v1 w9 ho1 hg1 _; obtain ⟨gv, cv, rfl, _, _⟩ := World.ownsRow.form ho1 (Nat.succ_pos _); have X9 := Box7.kept XA.out hg1 (XA.out.not_row (by decide) (OF.out.alloc _)); have R9 := Box7.kept RA.out hg1 (RA.out.not_row (by decide) (OF.out.alloc _)); obtain ⟨n0, n1, n2, n3, n4, n5, n6⟩ := X9.cells; obtain ⟨m0, m1, m2, m3, m4, m5, m6⟩ := R9.cells; have fx9 := X9.free; have fr9 := R9.free; have D9 := Lib.hid (PA.out.mark hg1 (by unfold OwnI; rw [K.ints_snoc', List.length_append, ← NF.out]; exact ho1)); have E9 := Lib.hid (K.else_appT E.out OF.out hg1 (Nat.le_refl _)); have Q9 := Lib.hid (K.Rd.app RR.out OF.out hg1 la); have z9 : Hid (b3 ≠ w.heap.size) := Lib.hid (by omega); clear ho1 hg1)))
      have XS := X9.set1 (.slice (some ⟨gv, 0, none⟩) (U.nf + 1) cv)
      have RS := R9.kept (grownBy_setCell _ ⟨b3, 1, none⟩ (.slice (some ⟨gv, 0, none⟩) (U.nf + 1) cv)) (by have := z9.out; simp; omega)
      show bodyPost _ _ _ _ _ (set7 (w9.setCell ⟨b3, 1, none⟩ (.slice (some ⟨gv, 0, none⟩) (U.nf + 1) cv)) w.heap.size (.slice U.xr U.nr U.cr) (.slice (some ⟨gv, 0, none⟩) (U.nf + 1) cv) (.slice U.xt U.nt U.ct) (.int .i64 z.lo) (.int .i64 z.al) (.slice U.xk U.nk U.ck) (.int .i64 z.ka))
      have ES := else_set E9.out (i := 1) l3' (.slice (some ⟨gv, 0, none⟩) (U.nf + 1) cv)
      have DS := D9.out.cell7 X9 1 (.slice (some ⟨gv, 0, none⟩) (U.nf + 1) cv)
      have QS := Q9.out.grown (grownBy_setCell _ ⟨b3, 1, none⟩ (.slice (some ⟨gv, 0, none⟩) (U.nf + 1) cv)) (fun k e => by simp at e; omega)
      have EX := else_set7 ES (Nat.le_refl _) (.slice U.xr U.nr U.cr) (.slice (some ⟨gv, 0, none⟩) (U.nf + 1) cv) (.slice U.xt U.nt U.ct) (.int .i64 z.lo) (.int .i64 z.al) (.slice U.xk U.nk U.ck) (.int .i64 z.ka)
      have DX := DS.box7 RS (.slice U.xr U.nr U.cr) (.slice (some ⟨gv, 0, none⟩) (U.nf + 1) cv) (.slice U.xt U.nt U.ct) (.int .i64 z.lo) (.int .i64 z.al) (.slice U.xk U.nk U.ck) (.int .i64 z.ka)
      have QX := QS.grown (set7_grown _ w.heap.size (.slice U.xr U.nr U.cr) (.slice (some ⟨gv, 0, none⟩) (U.nf + 1) cv) (.slice U.xt U.nt U.ct) (.int .i64 z.lo) (.int .i64 z.al) (.slice U.xk U.nk U.ck) (.int .i64 z.ka)) (fun k e => by cases e; omega)
      obtain ⟨d0, d1, d2, d3, d4, d5, d6⟩ := (RS.set (.slice U.xr U.nr U.cr) (.slice (some ⟨gv, 0, none⟩) (U.nf + 1) cv) (.slice U.xt U.nt U.ct) (.int .i64 z.lo) (.int .i64 z.al) (.slice U.xk U.nk U.ck) (.int .i64 z.ka)).cells
      generalize set7 (w9.setCell ⟨b3, 1, none⟩ (.slice (some ⟨gv, 0, none⟩) (U.nf + 1) cv)) w.heap.size (.slice U.xr U.nr U.cr) (.slice (some ⟨gv, 0, none⟩) (U.nf + 1) cv) (.slice U.xt U.nt U.ct) (.int .i64 z.lo) (.int .i64 z.al) (.slice U.xk U.nk U.ck) (.int .i64 z.ka) = WF at EX DX QX d0 d1 d2 d3 d4 d5 d6 ⊢
      refine bodyPost_ret (v := .agg #[.slice U.xr U.nr U.cr, .slice (some ⟨gv, 0, none⟩) (U.nf + 1) cv, .slice U.xt U.nt U.ct, .int .i64 z.lo, .int .i64 z.al, .slice U.xk U.nk U.ck, .int .i64 z.ka]) (by simp [results, Try.results34, go_sem, d0, d1, d2, d3, d4, d5, d6]) rfl ?_
      exact ⟨⟨U.xr, U.nr, U.cr, some ⟨gv, 0, none⟩, U.nf + 1, cv, U.xt, U.nt, U.ct, U.xk, U.nk, U.ck⟩, ⟨z.rs, z.zs ++ [0], z.ps, z.lo, z.al, z.ks, z.ka⟩, qb + 1, rfl, DX, by omega, by omega, QX, EX⟩
    · skip
      obtain ⟨gx0, gx1, gx2, gx3, gx4, gx5, gx6⟩ := (X).cells
      clear fx fr
      go_wp2_with fail
      refine (spNew_at w7).mono ?_
      rintro e w8 ⟨u9, G9, C9, rfl, ho, hb⟩
      obtain ⟨xn, cn, rfl⟩ := ho.form
      have HO := Lib.hid ho
      have sW := E.out.size
      have lx9 := X.lt
      clear ho
      replace R := R.later hb
      replace E := Lib.hid (grownBy_trans E.out (grownBy_below hb))
      replace RR := Lib.hid (RR.out.below hb (Nat.le_refl _))
      replace X := X.later hb
      replace PJ := Lib.hid (PJ.out.below hb)
      clear hb
      obtain ⟨cx0, cx1, cx2, cx3, cx4, cx5, cx6⟩ := (X).cells
      obtain ⟨cr0, cr1, cr2, cr3, cr4, cr5, cr6⟩ := (R).cells
      have fx := X.free
      have fr := R.free
      have O9 := HO.out.grown (grownBy_setCell _ ⟨b3, 0, none⟩ (.slice xn 3 cn)) (fun k e => by simp at e; omega)
      have XS := X.set0 (.slice xn 3 cn)
      have RS := R.kept (grownBy_setCell _ ⟨b3, 0, none⟩ (.slice xn 3 cn)) (by simp; omega)
      have ES := else_set E.out (i := 0) l3' (.slice xn 3 cn)
      have PS := (DrS.of PJ.out (Nat.le_refl _)).cell7 X 0 (.slice xn 3 cn)
      have QS := RR.out.grown (grownBy_setCell _ ⟨b3, 0, none⟩ (.slice xn 3 cn)) (fun k e => by simp at e; omega)
      have DS : DrS _ w.heap.size ⟨xn, 3, cn, U.xf, U.nf, U.cf, U.xt, U.nt, U.ct, U.xk, U.nk, U.ck⟩ ⟨zero3, z.zs, z.ps, z.lo, z.al, z.ks, z.ka⟩ := ⟨⟨G9, C9, ⟨ownsRow_base O9.hdr sW, fun i hi => ownsRow_base (O9.row i hi) sW, O9.off, O9.apart⟩⟩, PS.f, PS.t, PS.k⟩
      have EX := Lib.hid (else_set7 ES (Nat.le_refl _) (.slice xn 3 cn) (.slice U.xf U.nf U.cf) (.slice U.xt U.nt U.ct) (.int .i64 z.lo) (.int .i64 z.al) (.slice U.xk U.nk U.ck) (.int .i64 z.ka))
      have DX := Lib.hid (DS.box7 RS (.slice xn 3 cn) (.slice U.xf U.nf U.cf) (.slice U.xt U.nt U.ct) (.int .i64 z.lo) (.int .i64 z.al) (.slice U.xk U.nk U.ck) (.int .i64 z.ka))
      have QX := Lib.hid (QS.grown (set7_grown _ w.heap.size (.slice xn 3 cn) (.slice U.xf U.nf U.cf) (.slice U.xt U.nt U.ct) (.int .i64 z.lo) (.int .i64 z.al) (.slice U.xk U.nk U.ck) (.int .i64 z.ka)) (fun k e => by cases e; omega))
      have YX := Lib.hid (RS.set (.slice xn 3 cn) (.slice U.xf U.nf U.cf) (.slice U.xt U.nt U.ct) (.int .i64 z.lo) (.int .i64 z.al) (.slice U.xk U.nk U.ck) (.int .i64 z.ka))
      clear O9 ES PS QS DS HO
      obtain ⟨ys0, ys1, ys2, ys3, ys4, ys5, ys6⟩ := XS.cells
      obtain ⟨rs0, rs1, rs2, rs3, rs4, rs5, rs6⟩ := RS.cells
      clear XS RS
      go_wp2
      show bodyPost _ _ _ _ _ (set7 (w8.setCell ⟨b3, 0, none⟩ (.slice xn 3 cn)) w.heap.size (.slice xn 3 cn) (.slice U.xf U.nf U.cf) (.slice U.xt U.nt U.ct) (.int .i64 z.lo) (.int .i64 z.al) (.slice U.xk U.nk U.ck) (.int .i64 z.ka))
      obtain ⟨d0, d1, d2, d3, d4, d5, d6⟩ := YX.out.cells
      generalize set7 (w8.setCell ⟨b3, 0, none⟩ (.slice xn 3 cn)) w.heap.size (.slice xn 3 cn) (.slice U.xf U.nf U.cf) (.slice U.xt U.nt U.ct) (.int .i64 z.lo) (.int .i64 z.al) (.slice U.xk U.nk U.ck) (.int .i64 z.ka) = WF at EX DX QX d0 d1 d2 d3 d4 d5 d6 ⊢
      refine bodyPost_ret (v := .agg #[.slice xn 3 cn, .slice U.xf U.nf U.cf, .slice U.xt U.nt U.ct, .int .i64 z.lo, .int .i64 z.al, .slice U.xk U.nk U.ck, .int .i64 z.ka]) (by simp [results, Try.results34, go_sem, d0, d1, d2, d3, d4, d5, d6]) rfl ?_
      exact ⟨⟨xn, 3, cn, U.xf, U.nf, U.cf, U.xt, U.nt, U.ct, U.xk, U.nk, U.ck⟩, ⟨zero3, z.zs, z.ps, z.lo, z.al, z.ks, z.ka⟩, qb + 1, rfl, DX.out, by omega, by omega, QX.out, EX.out⟩
    · have q0 : (kk == 0) = false := by simp; omega
      have q1' : (kk == 1) = false := by simp; omega
      have q2 : (kk == 2) = false := by simp; omega
      obtain ⟨gx0, gx1, gx2, gx3, gx4, gx5, gx6⟩ := (X).cells
      obtain ⟨gr0, gr1, gr2, gr3, gr4, gr5, gr6⟩ := (R).cells
      have RX := R.set (.slice U.xr U.nr U.cr) (.slice U.xf U.nf U.cf) (.slice U.xt U.nt U.ct) (.int .i64 z.lo) (.int .i64 z.al) (.slice U.xk U.nk U.ck) (.int .i64 z.ka)
      have EX := Lib.hid (else_set7 E.out (Nat.le_refl _) (.slice U.xr U.nr U.cr) (.slice U.xf U.nf U.cf) (.slice U.xt U.nt U.ct) (.int .i64 z.lo) (.int .i64 z.al) (.slice U.xk U.nk U.ck) (.int .i64 z.ka))
      have DX := Lib.hid ((DrS.of PJ.out (Nat.le_refl _)).box7 R (.slice U.xr U.nr U.cr) (.slice U.xf U.nf U.cf) (.slice U.xt U.nt U.ct) (.int .i64 z.lo) (.int .i64 z.al) (.slice U.xk U.nk U.ck) (.int .i64 z.ka))
      have RRX := Lib.hid (RR.out.grown (set7_grown _ w.heap.size (.slice U.xr U.nr U.cr) (.slice U.xf U.nf U.cf) (.slice U.xt U.nt U.ct) (.int .i64 z.lo) (.int .i64 z.al) (.slice U.xk U.nk U.ck) (.int .i64 z.ka)) (fun k e => by cases e; omega))
      have HY := Lib.hid RX
      clear RX
      skip
      go_wp2
      show bodyPost _ _ _ _ _ (set7 w7 w.heap.size (.slice U.xr U.nr U.cr) (.slice U.xf U.nf U.cf) (.slice U.xt U.nt U.ct) (.int .i64 z.lo) (.int .i64 z.al) (.slice U.xk U.nk U.ck) (.int .i64 z.ka))
      obtain ⟨d0, d1, d2, d3, d4, d5, d6⟩ := HY.out.cells
      generalize set7 w7 w.heap.size (.slice U.xr U.nr U.cr) (.slice U.xf U.nf U.cf) (.slice U.xt U.nt U.ct) (.int .i64 z.lo) (.int .i64 z.al) (.slice U.xk U.nk U.ck) (.int .i64 z.ka) = WF at EX DX RRX d0 d1 d2 d3 d4 d5 d6 ⊢
      refine bodyPost_ret (v := .agg #[.slice U.xr U.nr U.cr, .slice U.xf U.nf U.cf, .slice U.xt U.nt U.ct, .int .i64 z.lo, .int .i64 z.al, .slice U.xk U.nk U.ck, .int .i64 z.ka]) (by simp [results, Try.results34, go_sem, d0, d1, d2, d3, d4, d5, d6]) rfl ?_
      exact ⟨U, z, qb + 1, rfl, ⟨DX.out.r, DX.out.f, DX.out.t, DX.out.k⟩, by omega, by omega, RRX.out, EX.out⟩
  · have hk' : (k == 0) = false := by simpa using hk
    have AL := AL1
    have SM := SM1
    go_wp2_with fail
    refine (pick_at w3 a (q + 1) 24 RR.out (by omega) (by omega) (by omega) (by omega)).mono ?_
    rintro e w4 ⟨kk, rfl, kk0, kk1, hr, hg⟩
    have hb := hg
    replace RR := Lib.hid hr
    clear hr
    replace R := R.kept hb (by simp; omega)
    replace E := Lib.hid (grownBy_trans E.out hb)
    replace P := Lib.hid (P.out.kept hb (fun k e => by cases e; omega))
    replace X := X.kept hb (by simp; omega)
    clear hb
    clear hg
    have fx := X.free
    have fr := R.free
    rcases (by omega : kk = 0 ∨ kk = 1 ∨ kk = 2 ∨ 3 ≤ kk) with rfl | rfl | rfl | hkk
    · skip
      have wa : IntKind.i64.wrap (s1.al + 1) = s1.al + 1 := IntWalk.i64_in _ (by have := AL.out; omega)
      obtain ⟨gx0, gx1, gx2, gx3, gx4, gx5, gx6⟩ := (X).cells
      obtain ⟨gr0, gr1, gr2, gr3, gr4, gr5, gr6⟩ := (R).cells
      obtain ⟨WS, hW⟩ : ∃ W, W = w4.setCell ⟨b3, 4, none⟩ (.int .i64 (s1.al + 1)) := ⟨_, rfl⟩
      replace R := R.kept (grownBy_setCell _ ⟨b3, 4, none⟩ (.int .i64 (s1.al + 1))) (by simp; omega)
      replace E := Lib.hid (else_set E.out (i := 4) l3' (.int .i64 (s1.al + 1)))
      replace RR := Lib.hid (RR.out.grown (grownBy_setCell _ ⟨b3, 4, none⟩ (.int .i64 (s1.al + 1))) (fun k e => by simp at e; omega))
      replace P := Lib.hid (P.out.cell7 X 4 (.int .i64 (s1.al + 1)))
      replace X := X.set4 (.int .i64 (s1.al + 1))
      obtain ⟨cx0, cx1, cx2, cx3, cx4, cx5, cx6⟩ := (X).cells
      obtain ⟨cr0, cr1, cr2, cr3, cr4, cr5, cr6⟩ := (R).cells
      have fx' := X.free
      have fr' := R.free
      rw [← hW] at X R E RR P
      have RX := R.set (.slice V1.xr V1.nr V1.cr) (.slice V1.xf V1.nf V1.cf) (.slice V1.xt V1.nt V1.ct) (.int .i64 s1.lo) (.int .i64 (s1.al + 1)) (.slice V1.xk V1.nk V1.ck) (.int .i64 s1.ka)
      have EX := Lib.hid (else_set7 E.out (Nat.le_refl _) (.slice V1.xr V1.nr V1.cr) (.slice V1.xf V1.nf V1.cf) (.slice V1.xt V1.nt V1.ct) (.int .i64 s1.lo) (.int .i64 (s1.al + 1)) (.slice V1.xk V1.nk V1.ck) (.int .i64 s1.ka))
      have DX := Lib.hid ((DrS.of P.out (Nat.le_refl _)).box7 R (.slice V1.xr V1.nr V1.cr) (.slice V1.xf V1.nf V1.cf) (.slice V1.xt V1.nt V1.ct) (.int .i64 s1.lo) (.int .i64 (s1.al + 1)) (.slice V1.xk V1.nk V1.ck) (.int .i64 s1.ka))
      have RRX := Lib.hid (RR.out.grown (set7_grown _ w.heap.size (.slice V1.xr V1.nr V1.cr) (.slice V1.xf V1.nf V1.cf) (.slice V1.xt V1.nt V1.ct) (.int .i64 s1.lo) (.int .i64 (s1.al + 1)) (.slice V1.xk V1.nk V1.ck) (.int .i64 s1.ka)) (fun k e => by cases e; omega))
      have HY := Lib.hid RX
      clear RX
      have HHW := Lib.hid hW
      clear hW
      go_wp2
      rw [← HHW.out]
      show bodyPost _ _ _ _ _ (set7 WS w.heap.size (.slice V1.xr V1.nr V1.cr) (.slice V1.xf V1.nf V1.cf) (.slice V1.xt V1.nt V1.ct) (.int .i64 s1.lo) (.int .i64 (s1.al + 1)) (.slice V1.xk V1.nk V1.ck) (.int .i64 s1.ka))
      obtain ⟨d0, d1, d2, d3, d4, d5, d6⟩ := HY.out.cells
      generalize set7 WS w.heap.size (.slice V1.xr V1.nr V1.cr) (.slice V1.xf V1.nf V1.cf) (.slice V1.xt V1.nt V1.ct) (.int .i64 s1.lo) (.int .i64 (s1.al + 1)) (.slice V1.xk V1.nk V1.ck) (.int .i64 s1.ka) = WF at EX DX RRX d0 d1 d2 d3 d4 d5 d6 ⊢
      refine bodyPost_ret (v := .agg #[.slice V1.xr V1.nr V1.cr, .slice V1.xf V1.nf V1.cf, .slice V1.xt V1.nt V1.ct, .int .i64 s1.lo, .int .i64 (s1.al + 1), .slice V1.xk V1.nk V1.ck, .int .i64 s1.ka]) (by simp [results, Try.results34, go_sem, d0, d1, d2, d3, d4, d5, d6]) rfl ?_
      exact ⟨⟨V1.xr, V1.nr, V1.cr, V1.xf, V1.nf, V1.cf, V1.xt, V1.nt, V1.ct, V1.xk, V1.nk, V1.ck⟩, ⟨s1.rs, s1.zs, s1.ps, s1.lo, s1.al + 1, s1.ks, s1.ka⟩, (q + 1) + 1, rfl, ⟨DX.out.r, DX.out.f, DX.out.t, DX.out.k⟩, by omega, by omega, RRX.out, EX.out⟩
    · skip
      have nf := P.out.rd.lens.2.1
      have OF := Lib.hid (show w4.ownsRow w.heap.size 3 1 (.slice V1.xf V1.nf V1.cf) V1.nf (ints s1.zs) by have h := P.out.mid; obtain ⟨M, m1, _, _, hf⟩ := h; have h := ownsRow_base hf m1; unfold SV.f at h; rw [← nf] at h; exact h)
      have nfs : V1.nf ≤ 6 := by rw [nf]; exact SM.out.f
      have NF := Lib.hid nf
      clear nf
      obtain ⟨gx0, gx1, gx2, gx3, gx4, gx5, gx6⟩ := (X).cells
      obtain ⟨hx0, hx1, hx2, hx3, hx4, hx5, hx6⟩ := (X.alloc (.cells #[.int .i64 0] 3)).cells
      have XA := Lib.hid (X.alloc (.cells #[.int .i64 0] 3))
      have RA := Lib.hid (R.alloc (.cells #[.int .i64 0] 3))
      have PA := Lib.hid P.out
      have sW := E.out.size
      obtain ⟨i0, hi, hz0, hz1, hz2⟩ := info_parts K.int_info
      go_wp2_with (first | (at_builtin; go_loud (refine wpList_append_own _ rfl _ _ 26 rfl w.heap.size 3 i0 (.int .i64 0) 1 8 Try.underlying26 hi hz0 hz1 hz2 rfl (by decide) _ _ _ rfl (OF.out.alloc _) ⟨w4.heap.size, 0, none⟩ 1 1 [.int .i64 0] rfl rfl (cell_one_new _ _ _) (by simp [Value.oneCell']) (by unfold maxLen; omega) (by omega) (by simp; omega) ?_; intro v1 w9 ho1 hg1 _; obtain ⟨gv, cv, rfl, _, _⟩ := World.ownsRow.form ho1 (Nat.succ_pos _); have X9 := Box7.kept XA.out hg1 (XA.out.not_row (by decide) (OF.out.alloc _)); have R9 := Box7.kept RA.out hg1 (RA.out.not_row (by decide) (OF.out.alloc _)); obtain ⟨n0, n1, n2, n3, n4, n5, n6⟩ := X9.cells; obtain ⟨m0, m1, m2, m3, m4, m5, m6⟩ := R9.cells; have fx9 := X9.free; have fr9 := R9.free; have D9 := Lib.hid (PA.out.mark hg1 (by unfold OwnI; rw [K.ints_snoc', List.length_append, ← NF.out]; exact ho1)); have E9 := Lib.hid (K.else_appT E.out OF.out hg1 (Nat.le_refl _)); have Q9 := Lib.hid (K.Rd.app RR.out OF.out hg1 la); have z9 : Hid (b3 ≠ w.heap.size) := Lib.hid (by omega); clear ho1 hg1)))
      have XS := X9.set1 (.slice (some ⟨gv, 0, none⟩) (V1.nf + 1) cv)
      have RS := R9.kept (grownBy_setCell _ ⟨b3, 1, none⟩ (.slice (some ⟨gv, 0, none⟩) (V1.nf + 1) cv)) (by have := z9.out; simp; omega)
      show bodyPost _ _ _ _ _ (set7 (w9.setCell ⟨b3, 1, none⟩ (.slice (some ⟨gv, 0, none⟩) (V1.nf + 1) cv)) w.heap.size (.slice V1.xr V1.nr V1.cr) (.slice (some ⟨gv, 0, none⟩) (V1.nf + 1) cv) (.slice V1.xt V1.nt V1.ct) (.int .i64 s1.lo) (.int .i64 s1.al) (.slice V1.xk V1.nk V1.ck) (.int .i64 s1.ka))
      have ES := else_set E9.out (i := 1) l3' (.slice (some ⟨gv, 0, none⟩) (V1.nf + 1) cv)
      have DS := D9.out.cell7 X9 1 (.slice (some ⟨gv, 0, none⟩) (V1.nf + 1) cv)
      have QS := Q9.out.grown (grownBy_setCell _ ⟨b3, 1, none⟩ (.slice (some ⟨gv, 0, none⟩) (V1.nf + 1) cv)) (fun k e => by simp at e; omega)
      have EX := else_set7 ES (Nat.le_refl _) (.slice V1.xr V1.nr V1.cr) (.slice (some ⟨gv, 0, none⟩) (V1.nf + 1) cv) (.slice V1.xt V1.nt V1.ct) (.int .i64 s1.lo) (.int .i64 s1.al) (.slice V1.xk V1.nk V1.ck) (.int .i64 s1.ka)
      have DX := DS.box7 RS (.slice V1.xr V1.nr V1.cr) (.slice (some ⟨gv, 0, none⟩) (V1.nf + 1) cv) (.slice V1.xt V1.nt V1.ct) (.int .i64 s1.lo) (.int .i64 s1.al) (.slice V1.xk V1.nk V1.ck) (.int .i64 s1.ka)
      have QX := QS.grown (set7_grown _ w.heap.size (.slice V1.xr V1.nr V1.cr) (.slice (some ⟨gv, 0, none⟩) (V1.nf + 1) cv) (.slice V1.xt V1.nt V1.ct) (.int .i64 s1.lo) (.int .i64 s1.al) (.slice V1.xk V1.nk V1.ck) (.int .i64 s1.ka)) (fun k e => by cases e; omega)
      obtain ⟨d0, d1, d2, d3, d4, d5, d6⟩ := (RS.set (.slice V1.xr V1.nr V1.cr) (.slice (some ⟨gv, 0, none⟩) (V1.nf + 1) cv) (.slice V1.xt V1.nt V1.ct) (.int .i64 s1.lo) (.int .i64 s1.al) (.slice V1.xk V1.nk V1.ck) (.int .i64 s1.ka)).cells
      generalize set7 (w9.setCell ⟨b3, 1, none⟩ (.slice (some ⟨gv, 0, none⟩) (V1.nf + 1) cv)) w.heap.size (.slice V1.xr V1.nr V1.cr) (.slice (some ⟨gv, 0, none⟩) (V1.nf + 1) cv) (.slice V1.xt V1.nt V1.ct) (.int .i64 s1.lo) (.int .i64 s1.al) (.slice V1.xk V1.nk V1.ck) (.int .i64 s1.ka) = WF at EX DX QX d0 d1 d2 d3 d4 d5 d6 ⊢
      refine bodyPost_ret (v := .agg #[.slice V1.xr V1.nr V1.cr, .slice (some ⟨gv, 0, none⟩) (V1.nf + 1) cv, .slice V1.xt V1.nt V1.ct, .int .i64 s1.lo, .int .i64 s1.al, .slice V1.xk V1.nk V1.ck, .int .i64 s1.ka]) (by simp [results, Try.results34, go_sem, d0, d1, d2, d3, d4, d5, d6]) rfl ?_
      exact ⟨⟨V1.xr, V1.nr, V1.cr, some ⟨gv, 0, none⟩, V1.nf + 1, cv, V1.xt, V1.nt, V1.ct, V1.xk, V1.nk, V1.ck⟩, ⟨s1.rs, s1.zs ++ [0], s1.ps, s1.lo, s1.al, s1.ks, s1.ka⟩, (q + 1) + 1, rfl, DX, by omega, by omega, QX, EX⟩
    · skip
      obtain ⟨gx0, gx1, gx2, gx3, gx4, gx5, gx6⟩ := (X).cells
      clear fx fr
      go_wp2_with fail
      refine (spNew_at w4).mono ?_
      rintro e w5 ⟨u9, G9, C9, rfl, ho, hb⟩
      obtain ⟨xn, cn, rfl⟩ := ho.form
      have HO := Lib.hid ho
      have sW := E.out.size
      have lx9 := X.lt
      clear ho
      replace R := R.later hb
      replace E := Lib.hid (grownBy_trans E.out (grownBy_below hb))
      replace RR := Lib.hid (RR.out.below hb (Nat.le_refl _))
      replace P := Lib.hid (P.out.below hb)
      replace X := X.later hb
      clear hb
      obtain ⟨cx0, cx1, cx2, cx3, cx4, cx5, cx6⟩ := (X).cells
      obtain ⟨cr0, cr1, cr2, cr3, cr4, cr5, cr6⟩ := (R).cells
      have fx := X.free
      have fr := R.free
      have O9 := HO.out.grown (grownBy_setCell _ ⟨b3, 0, none⟩ (.slice xn 3 cn)) (fun k e => by simp at e; omega)
      have XS := X.set0 (.slice xn 3 cn)
      have RS := R.kept (grownBy_setCell _ ⟨b3, 0, none⟩ (.slice xn 3 cn)) (by simp; omega)
      have ES := else_set E.out (i := 0) l3' (.slice xn 3 cn)
      have PS := (DrS.of P.out (Nat.le_refl _)).cell7 X 0 (.slice xn 3 cn)
      have QS := RR.out.grown (grownBy_setCell _ ⟨b3, 0, none⟩ (.slice xn 3 cn)) (fun k e => by simp at e; omega)
      have DS : DrS _ w.heap.size ⟨xn, 3, cn, V1.xf, V1.nf, V1.cf, V1.xt, V1.nt, V1.ct, V1.xk, V1.nk, V1.ck⟩ ⟨zero3, s1.zs, s1.ps, s1.lo, s1.al, s1.ks, s1.ka⟩ := ⟨⟨G9, C9, ⟨ownsRow_base O9.hdr sW, fun i hi => ownsRow_base (O9.row i hi) sW, O9.off, O9.apart⟩⟩, PS.f, PS.t, PS.k⟩
      have EX := Lib.hid (else_set7 ES (Nat.le_refl _) (.slice xn 3 cn) (.slice V1.xf V1.nf V1.cf) (.slice V1.xt V1.nt V1.ct) (.int .i64 s1.lo) (.int .i64 s1.al) (.slice V1.xk V1.nk V1.ck) (.int .i64 s1.ka))
      have DX := Lib.hid (DS.box7 RS (.slice xn 3 cn) (.slice V1.xf V1.nf V1.cf) (.slice V1.xt V1.nt V1.ct) (.int .i64 s1.lo) (.int .i64 s1.al) (.slice V1.xk V1.nk V1.ck) (.int .i64 s1.ka))
      have QX := Lib.hid (QS.grown (set7_grown _ w.heap.size (.slice xn 3 cn) (.slice V1.xf V1.nf V1.cf) (.slice V1.xt V1.nt V1.ct) (.int .i64 s1.lo) (.int .i64 s1.al) (.slice V1.xk V1.nk V1.ck) (.int .i64 s1.ka)) (fun k e => by cases e; omega))
      have YX := Lib.hid (RS.set (.slice xn 3 cn) (.slice V1.xf V1.nf V1.cf) (.slice V1.xt V1.nt V1.ct) (.int .i64 s1.lo) (.int .i64 s1.al) (.slice V1.xk V1.nk V1.ck) (.int .i64 s1.ka))
      clear O9 ES PS QS DS HO
      obtain ⟨ys0, ys1, ys2, ys3, ys4, ys5, ys6⟩ := XS.cells
      obtain ⟨rs0, rs1, rs2, rs3, rs4, rs5, rs6⟩ := RS.cells
      clear XS RS
      go_wp2
      show bodyPost _ _ _ _ _ (set7 (w5.setCell ⟨b3, 0, none⟩ (.slice xn 3 cn)) w.heap.size (.slice xn 3 cn) (.slice V1.xf V1.nf V1.cf) (.slice V1.xt V1.nt V1.ct) (.int .i64 s1.lo) (.int .i64 s1.al) (.slice V1.xk V1.nk V1.ck) (.int .i64 s1.ka))
      obtain ⟨d0, d1, d2, d3, d4, d5, d6⟩ := YX.out.cells
      generalize set7 (w5.setCell ⟨b3, 0, none⟩ (.slice xn 3 cn)) w.heap.size (.slice xn 3 cn) (.slice V1.xf V1.nf V1.cf) (.slice V1.xt V1.nt V1.ct) (.int .i64 s1.lo) (.int .i64 s1.al) (.slice V1.xk V1.nk V1.ck) (.int .i64 s1.ka) = WF at EX DX QX d0 d1 d2 d3 d4 d5 d6 ⊢
      refine bodyPost_ret (v := .agg #[.slice xn 3 cn, .slice V1.xf V1.nf V1.cf, .slice V1.xt V1.nt V1.ct, .int .i64 s1.lo, .int .i64 s1.al, .slice V1.xk V1.nk V1.ck, .int .i64 s1.ka]) (by simp [results, Try.results34, go_sem, d0, d1, d2, d3, d4, d5, d6]) rfl ?_
      exact ⟨⟨xn, 3, cn, V1.xf, V1.nf, V1.cf, V1.xt, V1.nt, V1.ct, V1.xk, V1.nk, V1.ck⟩, ⟨zero3, s1.zs, s1.ps, s1.lo, s1.al, s1.ks, s1.ka⟩, (q + 1) + 1, rfl, DX.out, by omega, by omega, QX.out, EX.out⟩
    · have q0 : (kk == 0) = false := by simp; omega
      have q1' : (kk == 1) = false := by simp; omega
      have q2 : (kk == 2) = false := by simp; omega
      obtain ⟨gx0, gx1, gx2, gx3, gx4, gx5, gx6⟩ := (X).cells
      obtain ⟨gr0, gr1, gr2, gr3, gr4, gr5, gr6⟩ := (R).cells
      have RX := R.set (.slice V1.xr V1.nr V1.cr) (.slice V1.xf V1.nf V1.cf) (.slice V1.xt V1.nt V1.ct) (.int .i64 s1.lo) (.int .i64 s1.al) (.slice V1.xk V1.nk V1.ck) (.int .i64 s1.ka)
      have EX := Lib.hid (else_set7 E.out (Nat.le_refl _) (.slice V1.xr V1.nr V1.cr) (.slice V1.xf V1.nf V1.cf) (.slice V1.xt V1.nt V1.ct) (.int .i64 s1.lo) (.int .i64 s1.al) (.slice V1.xk V1.nk V1.ck) (.int .i64 s1.ka))
      have DX := Lib.hid ((DrS.of P.out (Nat.le_refl _)).box7 R (.slice V1.xr V1.nr V1.cr) (.slice V1.xf V1.nf V1.cf) (.slice V1.xt V1.nt V1.ct) (.int .i64 s1.lo) (.int .i64 s1.al) (.slice V1.xk V1.nk V1.ck) (.int .i64 s1.ka))
      have RRX := Lib.hid (RR.out.grown (set7_grown _ w.heap.size (.slice V1.xr V1.nr V1.cr) (.slice V1.xf V1.nf V1.cf) (.slice V1.xt V1.nt V1.ct) (.int .i64 s1.lo) (.int .i64 s1.al) (.slice V1.xk V1.nk V1.ck) (.int .i64 s1.ka)) (fun k e => by cases e; omega))
      have HY := Lib.hid RX
      clear RX
      skip
      go_wp2
      show bodyPost _ _ _ _ _ (set7 w4 w.heap.size (.slice V1.xr V1.nr V1.cr) (.slice V1.xf V1.nf V1.cf) (.slice V1.xt V1.nt V1.ct) (.int .i64 s1.lo) (.int .i64 s1.al) (.slice V1.xk V1.nk V1.ck) (.int .i64 s1.ka))
      obtain ⟨d0, d1, d2, d3, d4, d5, d6⟩ := HY.out.cells
      generalize set7 w4 w.heap.size (.slice V1.xr V1.nr V1.cr) (.slice V1.xf V1.nf V1.cf) (.slice V1.xt V1.nt V1.ct) (.int .i64 s1.lo) (.int .i64 s1.al) (.slice V1.xk V1.nk V1.ck) (.int .i64 s1.ka) = WF at EX DX RRX d0 d1 d2 d3 d4 d5 d6 ⊢
      refine bodyPost_ret (v := .agg #[.slice V1.xr V1.nr V1.cr, .slice V1.xf V1.nf V1.cf, .slice V1.xt V1.nt V1.ct, .int .i64 s1.lo, .int .i64 s1.al, .slice V1.xk V1.nk V1.ck, .int .i64 s1.ka]) (by simp [results, Try.results34, go_sem, d0, d1, d2, d3, d4, d5, d6]) rfl ?_
      exact ⟨V1, s1, (q + 1) + 1, rfl, ⟨DX.out.r, DX.out.f, DX.out.t, DX.out.k⟩, by omega, by omega, RRX.out, EX.out⟩

end Go.Proofs.Ytnoilafoeaknjaa
