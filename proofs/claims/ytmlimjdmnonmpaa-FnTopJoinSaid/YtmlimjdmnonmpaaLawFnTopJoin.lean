/-
  The statement of the law FnTopJoin: at every input the call returns true and leaves what it was given as it was. The frame is the kit's shell; the walk is ours.
-/
import Derived.Test.YtmlimjdmnonmpaaTDraw3
import Derived.Test.YtmlimjdmnonmpaaTLk
import Derived.Test.YtmlimjdmnonmpaaTMath3
import Derived.Test.YtmlimjdmnonmpaaRows
import Derived.WalkKit
import Derived.ProofKit
import Derived.OpenShut
import Derived.ShutString
import Derived.ChangeOld
import Derived.Below
namespace Go.Proofs.Ytmlimjdmnonmpaa.fnTopJoin
open Go.ChangeShapes Go.WideShapes Go.ChangeAt Go.RowKit
open Go.ChangeMaps (open_string shut_string)
set_option linter.unusedVariables false

theorem own : ownKnob Try.prog.godebug = none := by kernel_rfl
theorem laidOut : laidOutB Try.prog = true := by kernel_rfl

/-- WHAT THE WALK IS TOLD OF A SLICE OF INTEGERS THAT CAME IN: it is nil; or it leads to a row of 'cap' cells, the numbers 'zs' (the first 'len' are its elements, the rest its spare room), each fitting its kind. -/
def IsRow (k : IntKind) (w : World) (a : Option Addr) (len cap : Nat) (zs : List Int) : Prop :=
  (a = none ∧ len = 0 ∧ cap = 0 ∧ zs = []) ∨
  ∃ x, a = some x ∧ len ≤ cap ∧ cap ≤ maxLen ∧ zs.length = cap ∧ (∀ i, i < zs.length → w.cell? (x.add i) = some (.int k (zs.getD i 0))) ∧ ∀ n ∈ zs, (Lit.int k n).wf = true

/-! ### STEP 1: THE WALK: the Go text returns true, AND WRITES NOTHING THAT WAS THERE: 'Below w.heap.size w w'' (Derived/Below.lean: '.refl', '.alloc', '.drew', '.setCell' at a new block, '.trans'). Open each 'IsRow' by 'rcases' AHEAD of 'go_enter'; part every test ahead of the walk. -/
theorem walk (a0 : Option Addr) (len0 cap0 : Nat) (z0 : List Int) (w : World) (w0 : IsRow .u8 w a0 len0 cap0 z0) :
    Calls Try.prog 6 #[.slice a0 len0 cap0] w fun e w' => e = .returned (.bool true) ∧ Below w.heap.size w w' := by
  obtain ⟨hb, hl⟩ := bts_of w a0 len0 cap0 z0 w0
  rcases hl with hl | hl
  · go_enter Try.func6, Try.ntmps6
    go_wp2
    go_ret
    exact ⟨rfl, Below.refl _ _⟩
  have HB := Lib.hid hb
  clear hb w0
  go_enter Try.func6, Try.ntmps6
  go_wp2_with fail
  refine (drawTJoin_at w _ len0 ⟨_, _, rfl⟩ HB.out).mono ?_
  rintro e w1 ⟨u, la, aa, u', lb, ab, rfl, ps, qs, ⟨own, len, lo, al⟩, ⟨own', len', lo', al'⟩, hb1⟩
  obtain ⟨x, c, rfl, _, _⟩ := own.form
  obtain ⟨y, d, rfl, _, _⟩ := own'.form
  obtain ⟨m, hm⟩ : ∃ m, m = ps.length := ⟨_, rfl⟩
  obtain ⟨k, hk⟩ : ∃ k, k = qs.length := ⟨_, rfl⟩
  have OR := own.rd
  have OQ := own'.rd
  rw [← hm] at OR len ⊢
  rw [← hk] at OQ len' ⊢
  have HM := Lib.hid hm
  have HK := Lib.hid hk
  clear hm hk own own'
  obtain ⟨W1, hW⟩ : ∃ W, W = (w1.alloc (.cells #[.slice x m c, .int .i64 la, .int .i64 aa] 25)).alloc (.cells #[.slice y k d, .int .i64 lb, .int .i64 ab] 25) := ⟨_, rfl⟩
  have hA : Below w1.heap.size w1 W1 := by rw [hW]; exact ((Below.refl _ _).alloc (Nat.le_refl _) _).alloc (by simp) _
  have bxX1 : Box3 W1 w1.heap.size 25 (.slice x m c) (.int .i64 la) (.int .i64 aa) := by rw [hW]; exact (Box3.new w1 _ _ _ _).alloc _
  have bxY1 : Box3 W1 (w1.heap.size + 1) 25 (.slice y k d) (.int .i64 lb) (.int .i64 ab) := by rw [hW]; have := Box3.new (w1.alloc (.cells #[.slice x m c, .int .i64 la, .int .i64 aa] 25)) 25 (.slice y k d) (.int .i64 lb) (.int .i64 ab); rwa [World.size_alloc] at this
  have PX1 : Hid (Prs W1 (.slice x m c) ps) := OR.below hA (Nat.le_refl _)
  have PY1 : Hid (Prs W1 (.slice y k d) qs) := OQ.below hA (Nat.le_refl _)
  have BW1 : Hid (Below w.heap.size w W1) := hb1.trans (hA.mono hb1.size)
  clear OR OQ hA hb1
  go_wp2_with fail
  rw [← hW]
  clear hW
  have S2 := spTopJoin_at W1 _ _ ps qs la aa lb ab PX1.out PY1.out
  have I2 : ∀ w u v, Prs w u ps → Prs w v qs → _ := fun w u v h h' => imTopJoin_at w u v ps qs la aa lb ab h h'
  have C2 : ∀ w u v, Prs w v qs → Prs w u ps → _ := fun w u v h h' => imTopJoin_at w v u qs ps lb ab la aa h h'
  simp only [joinOk_comm ps la aa qs lb ab, joinT_comm ps la aa qs lb ab] at C2
  have N2 : ∀ w u, Prs w u ps → _ := fun w u h => imTopJoin_at w u (.slice none 0 0) ps [] la aa 0 0 h (.inl ⟨rfl, rfl⟩)
  have AM := @joinMore ps qs la aa lb ab
  have LN := joinT_len ps la aa qs lb ab
  generalize joinT ps la aa qs lb ab = A at S2 I2 C2 AM LN
  generalize joinOk ps la aa qs lb ab = ok at S2 I2 C2 AM
  obtain ⟨ns, nl, na⟩ := A
  simp only at S2 I2 C2 AM LN
  have HS2 := Lib.hid S2
  have HI2 := Lib.hid I2
  have HC2 := Lib.hid C2
  have HN2 := Lib.hid N2
  have HAM := Lib.hid AM
  have HLN := Lib.hid LN
  clear S2 I2 C2 N2 AM LN
  refine HS2.out.mono ?_
  rintro e w2 ⟨v, rfl, ow, hb⟩
  obtain ⟨s, g, rfl, _, _⟩ := ow.form
  obtain ⟨n, hn⟩ : ∃ n, n = ns.length := ⟨_, rfl⟩
  have OR := ow.rd
  rw [← hn] at OR ⊢
  have HNN := Lib.hid hn
  clear hn ow
  obtain ⟨W2, hW⟩ : ∃ W, W = w2.alloc (.cells #[.slice s n g, .int .i64 nl, .int .i64 na] 25) := ⟨_, rfl⟩
  have hA := (Below.refl w2.heap.size w2).alloc (Nat.le_refl _) (.cells #[.slice s n g, .int .i64 nl, .int .i64 na] 25)
  have bxS2 : Box3 W2 w2.heap.size 25 (.slice s n g) (.int .i64 nl) (.int .i64 na) := by rw [hW]; exact Box3.new _ _ _ _ _
  have bxX2 : Box3 W2 w1.heap.size 25 (.slice x m c) (.int .i64 la) (.int .i64 aa) := by rw [hW]; exact (bxX1.later hb).alloc _
  have PX2 : Hid (Prs W2 (.slice x m c) ps) := by show Prs _ _ _; rw [hW]; exact (PX1.out.below hb (Nat.le_refl _)).below hA (Nat.le_refl _)
  have bxY2 : Box3 W2 (w1.heap.size + 1) 25 (.slice y k d) (.int .i64 lb) (.int .i64 ab) := by rw [hW]; exact (bxY1.later hb).alloc _
  have PY2 : Hid (Prs W2 (.slice y k d) qs) := by show Prs _ _ _; rw [hW]; exact (PY1.out.below hb (Nat.le_refl _)).below hA (Nat.le_refl _)
  have PS2 : Hid (Prs W2 (.slice s n g) ns) := by show Prs _ _ _; rw [hW]; exact OR.below hA (Nat.le_refl _)
  have BW2 : Hid (Below w.heap.size w W2) := by show Below _ _ _; rw [hW]; exact (BW1.out.trans (hb.mono BW1.out.size)).trans (hA.mono (BW1.out.trans (hb.mono BW1.out.size)).size)
  have xaX := (bxX1.later hb).alloc (.cells #[.slice s n g, .int .i64 nl, .int .i64 na] 25)
  have ax0 := xaX.cell0
  have ax1 := xaX.cell1
  have ax2 := xaX.cell2
  have xaY := (bxY1.later hb).alloc (.cells #[.slice s n g, .int .i64 nl, .int .i64 na] 25)
  have ay0 := xaY.cell0
  have ay1 := xaY.cell1
  have ay2 := xaY.cell2
  clear OR hA hb xaX xaY
  go_wp2_with fail
  rw [← hW]
  clear hW ax0 ax1 ax2 ay0 ay1 ay2
  clear bxX1 PX1 bxY1 PY1 BW1
  refine (HI2.out W2 _ _ PX2.out PY2.out).mono ?_
  rintro e w3 ⟨v, rfl, ow, hb⟩
  obtain ⟨i, h, rfl, _, _⟩ := ow.form
  have OR := ow.rd
  rw [← HNN.out] at OR ⊢
  clear ow
  obtain ⟨W3, hW⟩ : ∃ W, W = w3.alloc (.cells #[.slice i n h, .int .i64 nl, .int .i64 na] 25) := ⟨_, rfl⟩
  have hA := (Below.refl w3.heap.size w3).alloc (Nat.le_refl _) (.cells #[.slice i n h, .int .i64 nl, .int .i64 na] 25)
  have bxI3 : Box3 W3 w3.heap.size 25 (.slice i n h) (.int .i64 nl) (.int .i64 na) := by rw [hW]; exact Box3.new _ _ _ _ _
  have bxX3 : Box3 W3 w1.heap.size 25 (.slice x m c) (.int .i64 la) (.int .i64 aa) := by rw [hW]; exact (bxX2.later hb).alloc _
  have PX3 : Hid (Prs W3 (.slice x m c) ps) := by show Prs _ _ _; rw [hW]; exact (PX2.out.below hb (Nat.le_refl _)).below hA (Nat.le_refl _)
  have bxY3 : Box3 W3 (w1.heap.size + 1) 25 (.slice y k d) (.int .i64 lb) (.int .i64 ab) := by rw [hW]; exact (bxY2.later hb).alloc _
  have PY3 : Hid (Prs W3 (.slice y k d) qs) := by show Prs _ _ _; rw [hW]; exact (PY2.out.below hb (Nat.le_refl _)).below hA (Nat.le_refl _)
  have bxS3 : Box3 W3 w2.heap.size 25 (.slice s n g) (.int .i64 nl) (.int .i64 na) := by rw [hW]; exact (bxS2.later hb).alloc _
  have PS3 : Hid (Prs W3 (.slice s n g) ns) := by show Prs _ _ _; rw [hW]; exact (PS2.out.below hb (Nat.le_refl _)).below hA (Nat.le_refl _)
  have PI3 : Hid (Prs W3 (.slice i n h) ns) := by show Prs _ _ _; rw [hW]; exact OR.below hA (Nat.le_refl _)
  have BW3 : Hid (Below w.heap.size w W3) := by show Below _ _ _; rw [hW]; exact (BW2.out.trans (hb.mono BW2.out.size)).trans (hA.mono (BW2.out.trans (hb.mono BW2.out.size)).size)
  have xaS := (bxS2.later hb).alloc (.cells #[.slice i n h, .int .i64 nl, .int .i64 na] 25)
  have as0 := xaS.cell0
  have as1 := xaS.cell1
  have as2 := xaS.cell2
  clear OR hA hb xaS
  go_wp2_with fail
  rw [← hW]
  clear hW as0 as1 as2
  clear bxX2 PX2 bxY2 PY2 bxS2 PS2 BW2
  have KL := Lib.hid (fun (w : World) (u v : Value) (p : Prs w u ns) (q : Prs w v ns) => lkTop_same w u v ns nl na p q (by have := HLN.out; omega))
  have KN := Lib.hid (fun (w : World) (u v : Value) (p : Prs w u ps) (q : Prs w v ps) => lkTop_same w u v ps la aa p q (by have := HM.out; omega))
  have KO := Lib.hid (fun (w : World) (u : Value) (p : Prs w u ns) => imTopOk_at w u ns nl na p)
  cases ok with
  | false =>
    have cs0 := bxS3.cell0
    have cs1 := bxS3.cell1
    have cs2 := bxS3.cell2
    have ci0 := bxI3.cell0
    have ci1 := bxI3.cell1
    have ci2 := bxI3.cell2
    go_wp2_with fail
    refine (KL.out W3 _ _ PI3.out PS3.out).mono ?_
    rintro e w4 ⟨rfl, hb⟩
    have bxS4 := bxS3.later hb
    have PS4 := Lib.hid (PS3.out.below hb (Nat.le_refl _))
    have bxI4 := bxI3.later hb
    have PI4 := Lib.hid (PI3.out.below hb (Nat.le_refl _))
    have BW4 := Lib.hid (BW3.out.trans (hb.mono BW3.out.size))
    clear hb cs0 cs1 cs2 ci0 ci1 ci2
    clear bxX3 PX3 bxY3 PY3 bxS3 PS3 bxI3 PI3 BW3
    have cs0 := bxS4.cell0
    have cs1 := bxS4.cell1
    have cs2 := bxS4.cell2
    have ci0 := bxI4.cell0
    have ci1 := bxI4.cell1
    have ci2 := bxI4.cell2
    go_wp2_with fail
    refine (KL.out w4 _ _ PI4.out PS4.out).mono ?_
    rintro e w5 ⟨rfl, hb⟩
    go_wp2
    go_ret
    exact ⟨by first | rfl | simp, BW4.out.trans (hb.mono BW4.out.size)⟩
  | true =>
    obtain ⟨was, top, nae, nl0, la0, lb0, al0⟩ := HAM.out rfl
    obtain ⟨g1, g2⟩ := join_nothing was
    rw [g1, g2] at HN2
    simp only at HN2
    rw [top] at KO
    have HNA := Lib.hid nae
    have CC := Lib.hid (And.intro nl0 (And.intro la0 (And.intro lb0 al0)))
    clear g1 g2 was top nae nl0 la0 lb0 al0
    have cs0 := bxS3.cell0
    have cs1 := bxS3.cell1
    have cs2 := bxS3.cell2
    have ci0 := bxI3.cell0
    have ci1 := bxI3.cell1
    have ci2 := bxI3.cell2
    go_wp2_with fail
    refine (KL.out W3 _ _ PI3.out PS3.out).mono ?_
    rintro e w4 ⟨rfl, hb⟩
    have bxX4 := bxX3.later hb
    have PX4 := Lib.hid (PX3.out.below hb (Nat.le_refl _))
    have bxY4 := bxY3.later hb
    have PY4 := Lib.hid (PY3.out.below hb (Nat.le_refl _))
    have bxI4 := bxI3.later hb
    have PI4 := Lib.hid (PI3.out.below hb (Nat.le_refl _))
    have BW4 := Lib.hid (BW3.out.trans (hb.mono BW3.out.size))
    clear hb cs0 cs1 cs2 ci0 ci1 ci2
    clear bxX3 PX3 bxY3 PY3 bxS3 PS3 bxI3 PI3 BW3
    have cx0 := bxX4.cell0
    have cx1 := bxX4.cell1
    have cx2 := bxX4.cell2
    have cy0 := bxY4.cell0
    have cy1 := bxY4.cell1
    have cy2 := bxY4.cell2
    go_wp2_with fail
    refine (HC2.out w4 _ _ PY4.out PX4.out).mono ?_
    rintro e w5 ⟨v, rfl, ow, hb⟩
    obtain ⟨p, q, rfl, _, _⟩ := ow.form
    have OR := ow.rd
    rw [← HNN.out] at OR ⊢
    clear ow cx0 cx1 cx2 cy0 cy1 cy2
    obtain ⟨W5, hW⟩ : ∃ W, W = w5.alloc (.cells #[.slice p n q, .int .i64 nl, .int .i64 na] 25) := ⟨_, rfl⟩
    have hA := (Below.refl w5.heap.size w5).alloc (Nat.le_refl _) (.cells #[.slice p n q, .int .i64 nl, .int .i64 na] 25)
    have bxC5 : Box3 W5 w5.heap.size 25 (.slice p n q) (.int .i64 nl) (.int .i64 na) := by rw [hW]; exact Box3.new _ _ _ _ _
    have bxX5 : Box3 W5 w1.heap.size 25 (.slice x m c) (.int .i64 la) (.int .i64 aa) := by rw [hW]; exact (bxX4.later hb).alloc _
    have PX5 : Hid (Prs W5 (.slice x m c) ps) := by show Prs _ _ _; rw [hW]; exact (PX4.out.below hb (Nat.le_refl _)).below hA (Nat.le_refl _)
    have bxY5 : Box3 W5 (w1.heap.size + 1) 25 (.slice y k d) (.int .i64 lb) (.int .i64 ab) := by rw [hW]; exact (bxY4.later hb).alloc _
    have PY5 : Hid (Prs W5 (.slice y k d) qs) := by show Prs _ _ _; rw [hW]; exact (PY4.out.below hb (Nat.le_refl _)).below hA (Nat.le_refl _)
    have bxI5 : Box3 W5 w3.heap.size 25 (.slice i n h) (.int .i64 nl) (.int .i64 na) := by rw [hW]; exact (bxI4.later hb).alloc _
    have PI5 : Hid (Prs W5 (.slice i n h) ns) := by show Prs _ _ _; rw [hW]; exact (PI4.out.below hb (Nat.le_refl _)).below hA (Nat.le_refl _)
    have PC5 : Hid (Prs W5 (.slice p n q) ns) := by show Prs _ _ _; rw [hW]; exact OR.below hA (Nat.le_refl _)
    have BW5 : Hid (Below w.heap.size w W5) := by show Below _ _ _; rw [hW]; exact (BW4.out.trans (hb.mono BW4.out.size)).trans (hA.mono (BW4.out.trans (hb.mono BW4.out.size)).size)
    have xaX := (bxX4.later hb).alloc (.cells #[.slice p n q, .int .i64 nl, .int .i64 na] 25)
    have ax0 := xaX.cell0
    have ax1 := xaX.cell1
    have ax2 := xaX.cell2
    clear OR hA hb xaX
    go_wp2_with fail
    rw [← hW]
    clear hW ax0 ax1 ax2
    clear bxX4 PX4 bxY4 PY4 bxI4 PI4 BW4
    refine (HN2.out W5 _ PX5.out).mono ?_
    rintro e w6 ⟨v, rfl, ow, hb⟩
    obtain ⟨r, t, rfl, _, _⟩ := ow.form
    have OR := ow.rd
    rw [← HM.out] at OR ⊢
    clear ow
    obtain ⟨W6, hW⟩ : ∃ W, W = w6.alloc (.cells #[.slice r m t, .int .i64 la, .int .i64 aa] 25) := ⟨_, rfl⟩
    have hA := (Below.refl w6.heap.size w6).alloc (Nat.le_refl _) (.cells #[.slice r m t, .int .i64 la, .int .i64 aa] 25)
    have bxN6 : Box3 W6 w6.heap.size 25 (.slice r m t) (.int .i64 la) (.int .i64 aa) := by rw [hW]; exact Box3.new _ _ _ _ _
    have bxX6 : Box3 W6 w1.heap.size 25 (.slice x m c) (.int .i64 la) (.int .i64 aa) := by rw [hW]; exact (bxX5.later hb).alloc _
    have PX6 : Hid (Prs W6 (.slice x m c) ps) := by show Prs _ _ _; rw [hW]; exact (PX5.out.below hb (Nat.le_refl _)).below hA (Nat.le_refl _)
    have bxY6 : Box3 W6 (w1.heap.size + 1) 25 (.slice y k d) (.int .i64 lb) (.int .i64 ab) := by rw [hW]; exact (bxY5.later hb).alloc _
    have PY6 : Hid (Prs W6 (.slice y k d) qs) := by show Prs _ _ _; rw [hW]; exact (PY5.out.below hb (Nat.le_refl _)).below hA (Nat.le_refl _)
    have bxI6 : Box3 W6 w3.heap.size 25 (.slice i n h) (.int .i64 nl) (.int .i64 na) := by rw [hW]; exact (bxI5.later hb).alloc _
    have PI6 : Hid (Prs W6 (.slice i n h) ns) := by show Prs _ _ _; rw [hW]; exact (PI5.out.below hb (Nat.le_refl _)).below hA (Nat.le_refl _)
    have bxC6 : Box3 W6 w5.heap.size 25 (.slice p n q) (.int .i64 nl) (.int .i64 na) := by rw [hW]; exact (bxC5.later hb).alloc _
    have PC6 : Hid (Prs W6 (.slice p n q) ns) := by show Prs _ _ _; rw [hW]; exact (PC5.out.below hb (Nat.le_refl _)).below hA (Nat.le_refl _)
    have PN6 : Hid (Prs W6 (.slice r m t) ps) := by show Prs _ _ _; rw [hW]; exact OR.below hA (Nat.le_refl _)
    have BW6 : Hid (Below w.heap.size w W6) := by show Below _ _ _; rw [hW]; exact (BW5.out.trans (hb.mono BW5.out.size)).trans (hA.mono (BW5.out.trans (hb.mono BW5.out.size)).size)
    have xaI := (bxI5.later hb).alloc (.cells #[.slice r m t, .int .i64 la, .int .i64 aa] 25)
    have ai0 := xaI.cell0
    have ai1 := xaI.cell1
    have ai2 := xaI.cell2
    clear OR hA hb xaI
    go_wp2_with fail
    rw [← hW]
    clear hW ai0 ai1 ai2
    clear bxX5 PX5 bxY5 PY5 bxI5 PI5 bxC5 PC5 BW5
    refine (KO.out W6 _ PI6.out).mono ?_
    rintro e w7 ⟨rfl, hb⟩
    have bxX7 := bxX6.later hb
    have PX7 := Lib.hid (PX6.out.below hb (Nat.le_refl _))
    have bxY7 := bxY6.later hb
    have PY7 := Lib.hid (PY6.out.below hb (Nat.le_refl _))
    have bxI7 := bxI6.later hb
    have PI7 := Lib.hid (PI6.out.below hb (Nat.le_refl _))
    have bxC7 := bxC6.later hb
    have PC7 := Lib.hid (PC6.out.below hb (Nat.le_refl _))
    have bxN7 := bxN6.later hb
    have PN7 := Lib.hid (PN6.out.below hb (Nat.le_refl _))
    have BW7 := Lib.hid (BW6.out.trans (hb.mono BW6.out.size))
    clear hb
    clear bxX6 PX6 bxY6 PY6 bxI6 PI6 bxC6 PC6 bxN6 PN6 BW6
    have cx0 := bxX7.cell0
    have cx1 := bxX7.cell1
    have cx2 := bxX7.cell2
    have cy0 := bxY7.cell0
    have cy1 := bxY7.cell1
    have cy2 := bxY7.cell2
    have ci0 := bxI7.cell0
    have ci1 := bxI7.cell1
    have ci2 := bxI7.cell2
    have cc0 := bxC7.cell0
    have cc1 := bxC7.cell1
    have cc2 := bxC7.cell2
    obtain ⟨nl0, ⟨l0, l1⟩, ⟨b0, b1⟩, a0', a1', a2'⟩ := CC.out
    obtain rfl := HNA.out
    go_wp2_with fail
    refine (KL.out w7 _ _ PC7.out PI7.out).mono ?_
    rintro e w8 ⟨rfl, hb⟩
    have bxX8 := bxX7.later hb
    have PX8 := Lib.hid (PX7.out.below hb (Nat.le_refl _))
    have bxN8 := bxN7.later hb
    have PN8 := Lib.hid (PN7.out.below hb (Nat.le_refl _))
    have BW8 := Lib.hid (BW7.out.trans (hb.mono BW7.out.size))
    clear hb cx0 cx1 cx2 cy0 cy1 cy2 ci0 ci1 ci2 cc0 cc1 cc2
    clear bxX7 PX7 bxY7 PY7 bxI7 PI7 bxC7 PC7 bxN7 PN7 BW7
    have cx0 := bxX8.cell0
    have cx1 := bxX8.cell1
    have cx2 := bxX8.cell2
    have cn0 := bxN8.cell0
    have cn1 := bxN8.cell1
    have cn2 := bxN8.cell2
    go_wp2_with fail
    refine (KN.out w8 _ _ PN8.out PX8.out).mono ?_
    rintro e w9 ⟨rfl, hb⟩
    have BW9 := Lib.hid (BW8.out.trans (hb.mono BW8.out.size))
    go_wp2
    go_ret
    exact ⟨by first | rfl | (simp; omega), BW9.out⟩

/-! ### THE ROW's STEP: WRITTEN OUT: LEAVE IT -/
set_option maxRecDepth 100000 in
theorem lifted (os : Os) (started : os.Started) (H : Type) (enc : TypeId × Value → H) :
    ReturnsInHanded {} Try.checked os 6 .any (Rows.fnTopJoinSpec.pre6 enc Try.prog Try.f6 Rows.fnTopJoinRow.domain false) (Rows.fnTopJoinSpec.post enc Try.prog Try.f6 false true false false) := by
  refine returnsInHanded_of_change (C := Try.checked) own started (by kernel_rfl) Try.func6
    (ChangeSpec.witness6 (enc := enc) (C := Try.checked) false ⟨#[], #[.slice none 0 0], []⟩ 8 (by kernel_rfl) (by kernel_rfl) (by kernel_rfl) (by kernel_rfl)) ?_
  intro W base args ds gs before hval0 hW hcnd _
  have hval : ∀ (j : Nat) t v, Try.f6.params[j]? = some t → args[j]? = some v → Value.okWide Try.prog W .any base t v := hval0
  have hW' := hW
  obtain ⟨p, q, hA0, hV, rfl, hfz, hnd⟩ := hW
  have hA : DataW.TrodAll enc Try.prog W 0 (fun _ => true) true Try.f6.params.toList args.toList ds p := hA0
  rw [Try.params6] at hA hval
  obtain ⟨v0, vs0, d0, ds0, p0, q0, hargs, rfl, rfl, h0, r0⟩ := trodAll_cons hA
  obtain ⟨rfl, rfl, rfl⟩ := trodAll_nil r0
  obtain rfl : args = #[v0] := by cases args; simp_all
  obtain ⟨rfl, rfl⟩ := trodVars_none hV
  obtain ⟨a0, len0, cap0, rfl⟩ := okWide_slice Try.underlying22 (hval 0 22 v0 rfl rfl)
  have k0 := h0
  have lt0 : ∀ x ∈ p0, x.block < W.heap.size := by obtain ⟨m, hm⟩ := k0; exact DataW.trod_lt m _ _ _ hm
  obtain ⟨z0, w0⟩ : ∃ zs, IsRow .u8 W a0 len0 cap0 zs := by
    obtain ⟨fuel, hf⟩ := h0
    rcases open_ints Try.underlying22 Try.underlying5 (by kernel_rfl) hf with ⟨hcs, _⟩ | ⟨x, l, c, zs, hcs, _, hl, hm, hz, _, hcell, hwz⟩
    · simp [Value.cells] at hcs
      obtain ⟨rfl, rfl, rfl⟩ := hcs
      exact ⟨[], .inl ⟨rfl, rfl, rfl, rfl⟩⟩
    · simp [Value.cells] at hcs
      obtain ⟨rfl, rfl, rfl⟩ := hcs
      exact ⟨zs, .inr ⟨_, rfl, hl, hm, by simpa using hz, hcell, hwz⟩⟩
  clear hA0 hval0
  refine (walk a0 len0 cap0 z0 W w0).mono fun e W' ⟨he, bel⟩ => ?_
  subst he
  exact ⟨_, rfl, _, _, _, [], _, [], hW', trodAll_mk1 (shut_bool Try.underlying4 _), (trodAll_cons_mk (Below.trod laidOut (by kernel_rfl) (of_decide_eq_true (by kernel_rfl)) k0 bel lt0) trodAll_mk0), rfl, bel.frame _, fun h => by cases h⟩

theorem over : Rows.fnTopJoinRow.holds Try.pinned (OpenSpec.ofChange Rows.fnTopJoinSpec) :=
  OpenClaim.holds_of_wide 6 Try.f6 rfl rfl rfl rfl rfl rfl rfl ⟨rfl, rfl, rfl, rfl, rfl⟩ rfl rfl rfl rfl rfl (by kernel_rfl) Try.func6 (by kernel_rfl)
    (of_decide_eq_true (by kernel_rfl)) (by unfold Func.isWrapper; first | (rw [if_pos (by decide +kernel)]; kernel_rfl) | (rw [if_neg (by decide +kernel)]; exact ⟨rfl, rfl⟩))
    (fun os started H enc _ => lifted os started H enc)

theorem proved : Rows.FnTopJoinSaid := over
#print axioms proved
end Go.Proofs.Ytmlimjdmnonmpaa.fnTopJoin
