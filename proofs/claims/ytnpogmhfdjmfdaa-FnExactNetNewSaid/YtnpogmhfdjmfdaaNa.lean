/-
  Several texts in one: NVal, NNewD, NRep, NSum, NEls, NNet, NSep, NPut, NRead.
-/
import Derived.Test.YtnpogmhfdjmfdaaZSm
import Derived.Test.YtnpogmhfdjmfdaaZOwn
import Derived.Test.YtnpogmhfdjmfdaaZSmall
set_option linter.unusedVariables false
set_option linter.unusedSectionVars false
set_option linter.unusedSimpArgs false
/-
  Nets as plain values: what is known, nodes, words, deeds; when a net is ok; what happens.
-/
namespace Go.Proofs.Ytnpogmhfdjmfdaa.N
open Go.RowKit Go.Sort

structure En where
  node : Int
  born : Int
  num : Int
  s : Sm
structure Nd where
  born : Int
  known : List En
  beacon : Int
  level : Int
  up : Int
structure Wd where
  kind : Int
  src : Int
  dst : Int
  beacon : Int
  level : Int
  known : List En
structure Nt where
  nodes : List Nd
  links : List Bool
  words : List Wd
  past : List (List (List Int))
structure De where
  kind : Int
  a : Int
  b : Int

def in6 (x a b : Int) : Bool := decide (a ≤ x ∧ x ≤ b)
def noNd : Nd := ⟨0, [], 0, 0, 0⟩
def noNt : Nt := ⟨[], [], [], []⟩
def nodeAt (n : Nt) (i : Int) : Nd := n.nodes.getD i.toNat noNd
def rowsAt (n : Nt) (i : Int) : List (List Int) := n.past.getD i.toNat []
def pastAt (n : Nt) (i b : Int) : List Int := (rowsAt n i).getD b.toNat []
def whole (n : Nt) (a b : Int) : Bool := n.links.getD (a * 5 + b).toNat false
def isNode (i : Int) : Prop := 0 ≤ i ∧ i ≤ 4
/-- What is known of a node was counted by it. -/
structure TrueE (n : Nt) (e : En) : Prop where
  node : isNode e.node
  born : 1 ≤ e.born ∧ e.born ≤ (nodeAt n e.node).born
  num : 0 ≤ e.num ∧ e.num ≤ (pastAt n e.node e.born).length
  ok : okS (upS ((pastAt n e.node e.born).take e.num.toNat)) = true
  s : e.s = upS ((pastAt n e.node e.born).take e.num.toNat)
def Before (x y : En) : Prop := x.node < y.node
structure KnownOk (n : Nt) (es : List En) : Prop where
  all : ∀ e ∈ es, TrueE n e
  asc : es.Pairwise Before
def findE (es : List En) (i : Int) : Option En := es.find? fun e => e.node == i
structure PastOk (n : Nt) (i : Int) : Prop where
  len : ((rowsAt n i).length : Int) = (nodeAt n i).born + 1
  none : pastAt n i 0 = []
  few : ∀ l ∈ rowsAt n i, l.length ≤ 100
  things : ∀ l ∈ rowsAt n i, ∀ t ∈ l, 0 ≤ t ∧ t ≤ 63
/-- A node knows itself as it is. -/
def OwnOk (n : Nt) (i : Int) : Prop := ∃ e, findE (nodeAt n i).known i = some e ∧ e.born = (nodeAt n i).born ∧ e.num = (pastAt n i (nodeAt n i).born).length
structure WayOk (n : Nt) (i : Int) : Prop where
  beacon : 0 ≤ (nodeAt n i).beacon ∧ (nodeAt n i).beacon ≤ (nodeAt n 0).beacon
  root : i = 0 → (nodeAt n i).level = 0 ∧ (nodeAt n i).up = -1
  level : i ≠ 0 → 1 ≤ (nodeAt n i).level ∧ (nodeAt n i).level ≤ 5
  none : i ≠ 0 → ((nodeAt n i).up = -1 ↔ (nodeAt n i).level = 5)
  up : i ≠ 0 → (-1 ≤ (nodeAt n i).up ∧ (nodeAt n i).up ≤ 4) ∧ (nodeAt n i).up ≠ i
structure WordOk (n : Nt) (w : Wd) : Prop where
  src : isNode w.src
  dst : isNode w.dst
  other : w.src ≠ w.dst
  kind : w.kind = 1 ∧ (0 ≤ w.beacon ∧ w.beacon ≤ (nodeAt n 0).beacon) ∧ (0 ≤ w.level ∧ w.level ≤ 4) ∧ w.known = [] ∨ w.kind = 2 ∧ w.beacon = 0 ∧ w.level = 0 ∧ KnownOk n w.known
structure NetOk (n : Nt) : Prop where
  nodes : n.nodes.length = 5
  past : n.past.length = 5
  links : n.links.length = 25
  words : n.words.length ≤ 24
  born : ∀ i, isNode i → 1 ≤ (nodeAt n i).born ∧ (nodeAt n i).born ≤ 20
  pasts : ∀ i, isNode i → PastOk n i
  self : ∀ i, isNode i → whole n i i = false
  either : ∀ i j, isNode i → isNode j → whole n i j = whole n j i
  own : ∀ i, isNode i → OwnOk n i
  known : ∀ i, isNode i → KnownOk n (nodeAt n i).known
  way : ∀ i, isNode i → WayOk n i
  word : ∀ w ∈ n.words, WordOk n w
  beacon : (nodeAt n 0).beacon ≤ 1000

-- what is put among others
def newer (a b : En) : Bool := decide (b.born < a.born) || (decide (a.born = b.born) && decide (b.num < a.num))
def putE : List En → En → List En
  | [], e => [e]
  | x :: xs, e => if x.node < e.node then x :: putE xs e else if x.node = e.node then (if newer e x = true then e else x) :: xs else e :: x :: xs
theorem put_mem : ∀ {es : List En} {e x : En}, x ∈ putE es e → x = e ∨ x ∈ es
  | [], e, x, h => .inl (List.mem_singleton.1 h)
  | y :: ys, e, x, h => by
    unfold putE at h
    split at h
    · rcases List.mem_cons.1 h with h | h
      · exact .inr (by simp [h])
      · rcases put_mem h with h | h
        · exact .inl h
        · exact .inr (by simp [h])
    · split at h
      · rcases List.mem_cons.1 h with h | h
        · split at h
          · exact .inl h
          · exact .inr (by simp [h])
        · exact .inr (by simp [h])
      · rcases List.mem_cons.1 h with h | h
        · exact .inl h
        · exact .inr h
theorem put_asc : ∀ {es : List En} {e : En}, es.Pairwise Before → (putE es e).Pairwise Before
  | [], e, _ => List.pairwise_singleton _ _
  | y :: ys, e, h => by
    have hy := List.pairwise_cons.1 h
    unfold putE
    split
    · rename_i h1
      refine List.pairwise_cons.2 ⟨fun z hz => ?_, put_asc hy.2⟩
      rcases put_mem hz with rfl | hz
      · exact h1
      · exact hy.1 z hz
    · rename_i h1
      split
      · rename_i h2
        refine List.pairwise_cons.2 ⟨fun z hz => ?_, hy.2⟩
        have := hy.1 z hz
        unfold Before at this ⊢
        split <;> omega
      · rename_i h2
        refine List.pairwise_cons.2 ⟨fun z hz => ?_, h⟩
        unfold Before
        rcases List.mem_cons.1 hz with rfl | hz
        · omega
        · have := hy.1 z hz
          unfold Before at this
          omega
theorem find_cons (x : En) (xs : List En) (i : Int) : findE (x :: xs) i = if x.node = i then some x else findE xs i := by
  unfold findE
  rw [List.find?_cons]
  by_cases h : x.node = i
  · simp [h]
  · have : (x.node == i) = false := by simpa using h
    simp [this, h]
theorem find_some {es : List En} {i : Int} {e : En} (h : findE es i = some e) : e ∈ es ∧ e.node = i := by
  have := List.find?_some h
  exact ⟨List.mem_of_find?_eq_some h, by simpa using this⟩
theorem find_none {es : List En} {i : Int} (h : ∀ e ∈ es, e.node ≠ i) : findE es i = none := by
  unfold findE
  rw [List.find?_eq_none]
  intro e he
  simpa using h e he
/-- Of each node the newest that there is. -/
theorem put_find : ∀ {es : List En} {e : En}, es.Pairwise Before → ∀ i, findE (putE es e) i = if i = e.node then some (match findE es i with | some x => if newer e x = true then e else x | none => e) else findE es i
  | [], e, _, i => by
    unfold putE
    rw [find_cons]
    by_cases h : i = e.node
    · simp [h, findE]
    · have h' : ¬ e.node = i := fun q => h q.symm
      simp [h, h', findE]
  | y :: ys, e, h, i => by
    have hy := List.pairwise_cons.1 h
    unfold putE
    split
    · rename_i h1
      rw [find_cons, find_cons, put_find hy.2 i]
      by_cases q : y.node = i
      · subst q
        have : ¬ y.node = e.node := by omega
        simp [this]
      · simp [q]
    · rename_i h1
      split
      · rename_i h2
        rw [find_cons, find_cons]
        by_cases q : i = e.node
        · subst q
          rw [if_pos rfl]
          by_cases nw : newer e y = true
          · simp [nw, h2]
          · simp [nw, h2]
        · have q2 : ¬ y.node = i := by omega
          have q3 : ¬ (if newer e y = true then e else y).node = i := by split <;> omega
          rw [if_neg q3, if_neg q, if_neg q2]
      · rename_i h2
        rw [find_cons]
        by_cases q : i = e.node
        · subst q
          have hn : findE (y :: ys) e.node = none := find_none fun z hz => by
            rcases List.mem_cons.1 hz with rfl | hz
            · exact h2
            · have := hy.1 z hz
              unfold Before at this
              omega
          rw [if_pos rfl, if_pos rfl, hn]
        · have q2 : ¬ e.node = i := fun x => q x.symm
          rw [if_neg q2, if_neg q]
theorem find_mem {es : List En} (h : es.Pairwise Before) {e : En} (he : e ∈ es) : findE es e.node = some e := by
  induction es with
  | nil => cases he
  | cons y ys ih =>
    have hy := List.pairwise_cons.1 h
    rw [find_cons]
    rcases List.mem_cons.1 he with rfl | he
    · rw [if_pos rfl]
    · have := hy.1 e he
      unfold Before at this
      rw [if_neg (by omega)]
      exact ih hy.2 he

-- what happens
def l21Born (i born : Int) : Nd := ⟨born, [⟨i, born, 0, newSm⟩], 0, if i = 0 then 0 else 5, -1⟩
def setNode (n : Nt) (i : Int) (x : Nd) : Nt := { n with nodes := n.nodes.set i.toNat x }
def sendN (n : Nt) (w : Wd) : Nt × Bool := if whole n w.src w.dst = true ∧ n.words.length < 24 then ({ n with words := n.words ++ [w] }, true) else (n, false)
def countN (n : Nt) (i t : Int) : Option Nt :=
  let x := nodeAt n i
  if (0 ≤ t ∧ t ≤ 63) ∧ (pastAt n i x.born).length < 100 then
    let own := (findE x.known i).getD ⟨0, 0, 0, noSm⟩
    some { n with past := n.past.set i.toNat ((rowsAt n i).set x.born.toNat (pastAt n i x.born ++ [t])), nodes := n.nodes.set i.toNat { x with known := putE x.known ⟨i, x.born, own.num + 1, addS own.s t⟩ } }
  else none
def helloN (n : Nt) (i : Int) : Nt × Bool :=
  let x := nodeAt n i
  if x.level < 5 then (List.range 5).foldl (fun (m : Nt × Bool) (k : Nat) => if (k : Int) = i then m else ((sendN m.1 ⟨1, i, k, x.beacon, x.level, []⟩).1, m.2 || (sendN m.1 ⟨1, i, k, x.beacon, x.level, []⟩).2)) (n, false) else (n, false)
def tellN (n : Nt) (i : Int) : Nt × Bool :=
  let x := nodeAt n i
  if x.up < 0 then (n, false) else sendN n ⟨2, i, x.up, 0, 0, x.known⟩
def putAll (es : List En) (i : Int) (news : List En) : List En := news.foldl (fun ks e => if e.node = i then ks else putE ks e) es
def hearN (n : Nt) (w : Wd) : Nt :=
  let x := nodeAt n w.dst
  if w.kind = 2 then setNode n w.dst { x with known := putAll x.known w.dst w.known }
  else if w.dst = 0 ∨ (5 ≤ w.level + 1 ∧ w.beacon ≤ x.beacon) then n
  else if x.beacon < w.beacon ∨ (w.beacon = x.beacon ∧ w.level + 1 < x.level) then setNode n w.dst { x with beacon := w.beacon, level := w.level + 1, up := if 5 ≤ w.level + 1 then -1 else w.src }
  else n
def isWord (n : Nt) (at_ : Int) : Prop := 0 ≤ at_ ∧ at_ < n.words.length
instance (n : Nt) (at_ : Int) : Decidable (isWord n at_) := by unfold isWord; infer_instance
instance (i : Int) : Decidable (isNode i) := by unfold isNode; infer_instance
def wordAt (n : Nt) (at_ : Int) : Wd := n.words.getD at_.toNat ⟨0, 0, 0, 0, 0, []⟩
def dropW (n : Nt) (at_ : Int) : Nt := { n with words := n.words.eraseIdx at_.toNat }
def takeN (n : Nt) (at_ : Int) (heard kept : Bool) : Option Nt :=
  if isWord n at_ then
    let m := if heard = true then hearN n (wordAt n at_) else n
    some (if kept = true then m else dropW m at_)
  else none
def crashN (n : Nt) (i : Int) : Option Nt :=
  let x := nodeAt n i
  if x.born + 1 ≤ 20 then
    some { n with nodes := n.nodes.set i.toNat { l21Born i (x.born + 1) with beacon := if i = 0 then x.beacon else 0 }, past := n.past.set i.toNat (rowsAt n i ++ [[]]) }
  else none
def linkN (n : Nt) (a b : Int) (w : Bool) : Option Nt :=
  if a = b ∨ whole n a b = w then none else some { n with links := (n.links.set (a * 5 + b).toNat w).set (b * 5 + a).toNat w }
def someIf (m : Nt × Bool) : Option Nt := if m.2 = true then some m.1 else none
def doN (n : Nt) (d : De) : Option Nt :=
  if d.kind = 4 then takeN n d.a true false
  else if d.kind = 5 then takeN n d.a true true
  else if d.kind = 6 then takeN n d.a false false
  else if d.kind = 8 then (if (nodeAt n 0).beacon + 1 ≤ 1000 then some (setNode n 0 { nodeAt n 0 with beacon := (nodeAt n 0).beacon + 1 }) else none)
  else if isNode d.a then
    (if d.kind = 1 then countN n d.a d.b
     else if d.kind = 2 then someIf (helloN n d.a)
     else if d.kind = 3 then someIf (tellN n d.a)
     else if d.kind = 7 then crashN n d.a
     else if d.kind = 9 ∨ d.kind = 10 then (if isNode d.b then linkN n d.a d.b (decide (d.kind = 10)) else none)
     else none)
  else none
def runN (n : Nt) (ds : List De) : Nt := ds.foldl (fun m d => (doN m d).getD m) n
def allN (n : Nt) : Nt := { n.words.foldl hearN n with words := [] }
def roundN (f : Nt → Int → Nt) (n : Nt) : Nt := (List.range 5).foldl (fun (m : Nt) (k : Nat) => allN (f m (k : Int))) n
def restN (n : Nt) : Nt :=
  let n0 := allN n
  let n1 := setNode n0 0 { nodeAt n0 0 with beacon := (nodeAt n0 0).beacon + 1 }
  let n2 := (List.range 5).foldl (fun m _ => roundN (fun m i => (helloN m i).1) m) n1
  (List.range 5).foldl (fun m _ => roundN (fun m i => (tellN m i).1) m) n2
end Go.Proofs.Ytnpogmhfdjmfdaa.N

/-
  What a new net is, as data.
-/
namespace Go.Proofs.Ytnpogmhfdjmfdaa.N
open Go.RowKit Go.Sort

def pairsB : List Int → Bool
  | a :: b :: l => (in6 a 0 4 && (in6 b 0 4 && decide (a ≠ b))) && pairsB l
  | _ => true
def setLinks (ls : List Bool) : List Int → List Bool
  | a :: b :: l => setLinks ((ls.set (a * 5 + b).toNat true).set (b * 5 + a).toNat true) l
  | _ => ls
def baseN : Nt := ⟨(List.range 5).map (fun i : Nat => l21Born i 1), List.replicate 25 false, [], List.replicate 5 [[], []]⟩
def newN (l : List Int) : Option Nt := if (l.length % 2 = 0 ∧ l.length ≤ 40) ∧ pairsB l = true then some { baseN with links := setLinks baseN.links l } else none
end Go.Proofs.Ytnpogmhfdjmfdaa.N

/-
  Nested data in memory of a call's own: how cells stand for a datum, and in which blocks what they lead to lies.
-/
namespace Go.Proofs.Ytnpogmhfdjmfdaa
open Go.RowKit Go.Sort

/-- R w cs a fp: in the world w the cells cs stand for the datum a, and what they lead to lies in the blocks fp. -/
abbrev Rep (α : Type) := World → List Value → α → List Nat → Prop
/-- What stands in memory so was there, and stays as long as its blocks stay. -/
structure Rep.Frame {α : Type} (R : Rep α) : Prop where
  lt : ∀ {w cs a fp}, R w cs a fp → ∀ b ∈ fp, b < w.heap.size
  keep : ∀ {w w' cs a fp}, R w cs a fp → (∀ b ∈ fp, w'.heap[b]? = w.heap[b]?) → R w' cs a fp
theorem Rep.Frame.below {α : Type} {R : Rep α} (F : R.Frame) {w w' : World} {cs : List Value} {a : α} {fp : List Nat} (h : R w cs a fp) {B : Nat} (hb : Below B w w') (hB : w.heap.size ≤ B) : R w' cs a fp :=
  F.keep h fun b hm => hb.block b (Nat.lt_of_lt_of_le (F.lt h b hm) hB)
theorem Rep.Frame.grown {α : Type} {R : Rep α} (F : R.Frame) {w w' : World} {cs : List Value} {a : α} {fp : List Nat} (h : R w cs a fp) {row : Option Nat} (hg : w.grownBy w' row) (hr : ∀ b ∈ fp, some b ≠ row) : R w' cs a fp :=
  F.keep h fun b hm => hg.block b (F.lt h b hm) (hr b hm)
theorem Rep.Frame.keptB {α : Type} {R : Rep α} (F : R.Frame) {w w' : World} {cs : List Value} {a : α} {fp : List Nat} (h : R w cs a fp) {S : Nat → Prop} (hk : KeptB S w w') (hS : ∀ b ∈ fp, ¬ S b) : R w' cs a fp :=
  F.keep h fun b hm => hk.block b (F.lt h b hm) (hS b hm)
theorem Rep.Frame.alloc {α : Type} {R : Rep α} (F : R.Frame) {w : World} {cs : List Value} {a : α} {fp : List Nat} (h : R w cs a fp) (o : Obj) : R (w.alloc o) cs a fp := F.below h ((Below.refl _ _).alloc (Nat.le_refl _) o) (Nat.le_refl _)

def intR : Rep Int := fun _ cs z fp => cs = [.int .i64 z] ∧ fp = []
def boolR : Rep Bool := fun _ cs b fp => cs = [.bool b] ∧ fp = []
/-- One part behind the other. -/
def andR {α β : Type} (A : Rep α) (B : Rep β) : Rep (α × β) := fun w cs p fp => ∃ c1 c2 f1 f2, cs = c1 ++ c2 ∧ fp = f1 ++ f2 ∧ A w c1 p.1 f1 ∧ B w c2 p.2 f2
/-- The same parts, seen as another datum. -/
def viaR {α β : Type} (A : Rep α) (f : β → α) : Rep β := fun w cs b fp => A w cs (f b) fp
/-- A slice of the call's own, each of its elements as A says. -/
def slcR {α : Type} (e : TypeId) (size : Nat) (A : Rep α) : Rep (List α) := fun w cs xs fp =>
  ∃ (v : Value) (c : Nat → List Value) (f : Nat → List Nat), cs = [v] ∧ w.ownsRow 0 e size v xs.length ((List.range xs.length).map c).flatten ∧ (∀ i, i < xs.length → (c i).length = size) ∧ (∀ i a, xs[i]? = some a → A w (c i) a (f i)) ∧
    fp = v.ownBlock.toList ++ ((List.range xs.length).map f).flatten

theorem intR_frame : intR.Frame := ⟨fun h b hm => absurd hm (by rw [h.2]; exact List.not_mem_nil), fun h _ => h⟩
theorem boolR_frame : boolR.Frame := ⟨fun h b hm => absurd hm (by rw [h.2]; exact List.not_mem_nil), fun h _ => h⟩
theorem andR_frame {α β : Type} {A : Rep α} {B : Rep β} (FA : A.Frame) (FB : B.Frame) : (andR A B).Frame := by
  refine ⟨?_, ?_⟩
  · rintro w cs a fp ⟨c1, c2, f1, f2, rfl, rfl, h1, h2⟩ b hm
    rcases List.mem_append.1 hm with hm | hm
    · exact FA.lt h1 b hm
    · exact FB.lt h2 b hm
  · rintro w w' cs a fp ⟨c1, c2, f1, f2, rfl, rfl, h1, h2⟩ hk
    exact ⟨c1, c2, f1, f2, rfl, rfl, FA.keep h1 fun b hm => hk b (List.mem_append_left _ hm), FB.keep h2 fun b hm => hk b (List.mem_append_right _ hm)⟩
theorem viaR_frame {α β : Type} {A : Rep α} (FA : A.Frame) (f : β → α) : (viaR A f).Frame := ⟨fun h => FA.lt h, fun h hk => FA.keep h hk⟩
theorem ownsRow_same {w w' : World} {B : Nat} {e : TypeId} {size n : Nat} {v : Value} {xs : List Value} (h : w.ownsRow B e size v n xs) (hk : ∀ g, v.ownBlock = some g → w'.heap[g]? = w.heap[g]?) : w'.ownsRow B e size v n xs := by
  refine ⟨h.1, ?_⟩
  rcases h.2 with hn | ⟨g, cap, cur, rfl, hb, hg, r⟩
  · exact .inl hn
  · exact .inr ⟨g, cap, cur, rfl, hb, (hk g rfl).trans hg, r⟩
theorem mem_fps {n : Nat} {f : Nat → List Nat} {b : Nat} (h : b ∈ ((List.range n).map f).flatten) : ∃ i, i < n ∧ b ∈ f i := by
  obtain ⟨l, hl, hb⟩ := List.mem_flatten.1 h
  obtain ⟨i, hi, rfl⟩ := List.mem_map.1 hl
  exact ⟨i, List.mem_range.1 hi, hb⟩
theorem mem_fps_of {n : Nat} {f : Nat → List Nat} {b i : Nat} (hi : i < n) (h : b ∈ f i) : b ∈ ((List.range n).map f).flatten :=
  List.mem_flatten.2 ⟨f i, List.mem_map.2 ⟨i, List.mem_range.2 hi, rfl⟩, h⟩
theorem slcR_frame {α : Type} {A : Rep α} (FA : A.Frame) (e : TypeId) (size : Nat) : (slcR e size A).Frame := by
  refine ⟨?_, ?_⟩
  · rintro w cs xs fp ⟨v, c, f, rfl, ho, hl, ha, rfl⟩ b hm
    rcases List.mem_append.1 hm with hm | hm
    · exact (ho.lt b (by cases hv : v.ownBlock <;> simp [hv] at hm ⊢; exact hm.symm)).2
    · obtain ⟨i, hi, hb⟩ := mem_fps hm
      exact FA.lt (ha i _ (List.getElem?_eq_getElem hi)) b hb
  · rintro w w' cs xs fp ⟨v, c, f, rfl, ho, hl, ha, rfl⟩ hk
    refine ⟨v, c, f, rfl, ownsRow_same ho (fun g hg => hk g (List.mem_append_left _ (by simp [hg]))), hl, fun i a hi => FA.keep (ha i a hi) fun b hm => hk b (List.mem_append_right _ (mem_fps_of ?_ hm)), rfl⟩
    exact (List.getElem?_eq_some_iff.1 hi).1

/-- Cell k of element i. -/
theorem flat_at {c : Nat → List Value} {size n i k : Nat} (hl : ∀ i, i < n → (c i).length = size) (hi : i < n) (hk : k < size) : ((List.range n).map c).flatten[i * size + k]? = (c i)[k]? := by
  induction n with
  | zero => omega
  | succ n ih =>
    have hn : ((List.range n).map c).flatten.length = n * size := by
      clear ih hi
      induction n with
      | zero => simp
      | succ m im =>
        rw [List.range_succ, List.map_append, List.flatten_append, List.length_append, im (fun i hi => hl i (by omega))]
        simp [hl m (by omega), Nat.succ_mul]
    rw [List.range_succ, List.map_append, List.flatten_append]
    by_cases h : i < n
    · rw [List.getElem?_append_left (by rw [hn]; have : i * size + size ≤ n * size := by rw [← Nat.succ_mul]; exact Nat.mul_le_mul_right _ h
                                        omega)]
      exact ih (fun i hi => hl i (by omega)) h
    · obtain rfl : i = n := by omega
      rw [List.getElem?_append_right (by rw [hn]; omega), hn, Nat.add_sub_cancel_left]
      simp
theorem flat_len {c : Nat → List Value} {size n : Nat} (hl : ∀ i, i < n → (c i).length = size) : ((List.range n).map c).flatten.length = n * size := by
  induction n with
  | zero => simp
  | succ m im =>
    rw [List.range_succ, List.map_append, List.flatten_append, List.length_append, im (fun i hi => hl i (by omega))]
    simp [hl m (by omega), Nat.succ_mul]

end Go.Proofs.Ytnpogmhfdjmfdaa

/-
  A sum in memory as nested data: from what calls leave, and to what calls ask for.
-/
namespace Go.Proofs.Ytnpogmhfdjmfdaa
open Go.RowKit Go.Sort

def flatR {α : Type} (enc : α → List Value) : Rep α := fun _ cs a fp => cs = enc a ∧ fp = []
theorem flatR_frame {α : Type} (enc : α → List Value) : (flatR enc).Frame := ⟨fun h b hm => absurd hm (by rw [h.2]; exact List.not_mem_nil), fun h _ => h⟩
theorem range_flat {α : Type} (xs : List α) (enc : α → List Value) (c : Nat → List Value) (hc : ∀ i a, xs[i]? = some a → c i = enc a) : ((List.range xs.length).map c).flatten = xs.flatMap enc := by
  have e : (List.range xs.length).map c = xs.map enc := by
    apply List.ext_getElem?
    intro i
    by_cases h : i < xs.length
    · have hi := List.getElem?_eq_getElem h
      simp [h, hc i _ hi]
    · have h' : xs.length ≤ i := by omega
      simp [h']
  rw [e, List.flatMap_def]
theorem nil_flat {n : Nat} : ((List.range n).map fun _ => ([] : List Nat)).flatten = [] := by
  induction n with
  | zero => rfl
  | succ n ih => rw [List.range_succ, List.map_append, List.flatten_append, ih]; rfl
theorem one_flat {β : Type} (l : List Nat) (g : Nat → β) : (l.map fun i => [g i]).flatten = l.map g := by
  induction l with
  | nil => rfl
  | cons a l ih => simp [ih]
section
variable {α : Type} {enc : α → List Value} {w : World} {B size : Nat} {e : TypeId} {v : Value} {xs : List α}
theorem slc_flat_of (h : w.ownsRow B e size v xs.length (xs.flatMap enc)) (hl : ∀ a, (enc a).length = size) : slcR e size (flatR enc) w [v] xs v.ownBlock.toList := by
  refine ⟨v, fun i => (xs[i]?.map enc).getD [], fun _ => [], rfl, ?_, fun i hi => ?_, fun i a hi => ?_, ?_⟩
  · rw [range_flat xs enc _ (fun i a hi => by simp [hi])]
    exact ownsRow_base h (Nat.zero_le _)
  · simp [List.getElem?_eq_getElem hi, hl]
  · exact ⟨by simp [hi], rfl⟩
  · rw [nil_flat, List.append_nil]
theorem slc_flat_to {cs : List Value} {fp : List Nat} (h : slcR e size (flatR enc) w cs xs fp) : ∃ v, cs = [v] ∧ w.ownsRow 0 e size v xs.length (xs.flatMap enc) ∧ fp = v.ownBlock.toList := by
  obtain ⟨v, c, f, rfl, ho, hl, ha, rfl⟩ := h
  refine ⟨v, rfl, ?_, ?_⟩
  · rw [range_flat xs enc c (fun i a hi => (ha i a hi).1)] at ho
    exact ho
  · have e : (List.range xs.length).map f = (List.range xs.length).map fun _ => [] := List.map_congr_left fun i hi => (ha i _ (List.getElem?_eq_getElem (List.mem_range.1 hi))).2
    rw [e, nil_flat, List.append_nil]
end
def encI (z : Int) : List Value := [.int .i64 z]
def encP2 (p : Int × Int) : List Value := [.int .i64 p.1, .int .i64 p.2]
def intsR : Rep (List Int) := slcR 3 1 (flatR encI)
def rowsR : Rep (List (List Int)) := slcR 22 1 intsR
def pairsR : Rep (List (Int × Int)) := slcR 94 2 (flatR encP2)
def knotsR : Rep (List (Int × Int)) := slcR 96 2 (flatR encP2)
theorem intsR_frame : intsR.Frame := slcR_frame (flatR_frame _) _ _
theorem rowsR_frame : rowsR.Frame := slcR_frame intsR_frame _ _
theorem pairsR_frame : pairsR.Frame := slcR_frame (flatR_frame _) _ _
theorem knotsR_frame : knotsR.Frame := slcR_frame (flatR_frame _) _ _
theorem ints_flat (zs : List Int) : zs.flatMap encI = ints zs := by
  induction zs with
  | nil => rfl
  | cons z zs ih => rw [List.flatMap_cons, ih]; rfl
theorem intsR_of {w : World} {B : Nat} {v : Value} {zs : List Int} (h : OwnI w B v zs) : intsR w [v] zs v.ownBlock.toList :=
  slc_flat_of (by rw [ints_flat]; exact h) (fun _ => rfl)
theorem intsR_to {w : World} {cs : List Value} {zs : List Int} {fp : List Nat} (h : intsR w cs zs fp) : ∃ v, cs = [v] ∧ OwnI w 0 v zs ∧ fp = v.ownBlock.toList := by
  obtain ⟨v, e, ho, hf⟩ := slc_flat_to h
  rw [ints_flat] at ho
  exact ⟨v, e, ho, hf⟩
theorem pairsR_of {w : World} {B : Nat} {v : Value} {ps : List T.Pr} (h : T.OwnP w B v ps) : pairsR w [v] ps v.ownBlock.toList := slc_flat_of h (fun _ => rfl)
theorem pairsR_to {w : World} {cs : List Value} {ps : List T.Pr} {fp : List Nat} (h : pairsR w cs ps fp) : ∃ v, cs = [v] ∧ T.OwnP w 0 v ps ∧ fp = v.ownBlock.toList := slc_flat_to h
theorem knotsR_of {w : World} {B : Nat} {v : Value} {ps : List K.Pr} (h : K.OwnP w B v ps) : knotsR w [v] ps v.ownBlock.toList := slc_flat_of h (fun _ => rfl)
theorem knotsR_to {w : World} {cs : List Value} {ps : List K.Pr} {fp : List Nat} (h : knotsR w cs ps fp) : ∃ v, cs = [v] ∧ K.OwnP w 0 v ps ∧ fp = v.ownBlock.toList := slc_flat_to h
theorem rowsR_of {w : World} {B : Nat} {v : Value} {rs : List (List Int)} {G C : Nat → Nat} (h : OwnR w B v rs G C) : rowsR w [v] rs (v.ownBlock.toList ++ (List.range rs.length).map G) := by
  refine ⟨v, fun i => [rowV rs G C i], fun i => [G i], rfl, ?_, fun i hi => rfl, fun i a hi => ?_, ?_⟩
  · rw [one_flat]
    exact ownsRow_base h.hdr (Nat.zero_le _)
  · have hlt := (List.getElem?_eq_some_iff.1 hi).1
    have e : rs.getD i [] = a := by rw [List.getD_eq_getElem?_getD, hi]; rfl
    have r := h.row i hlt
    rw [e] at r
    exact intsR_of r
  · rw [one_flat]
theorem rowsR_rd {w : World} {cs : List Value} {rs : List (List Int)} {fp : List Nat} (h : rowsR w cs rs fp) : ∃ v, cs = [v] ∧ Rws w v rs := by
  obtain ⟨v, c, f, rfl, ho, hl, ha, rfl⟩ := h
  refine ⟨v, rfl, ?_⟩
  rcases ho.2 with ⟨rfl, h0⟩ | ⟨g, cap, cur, rfl, hb, hg, hn, hc, hs, ht⟩
  · exact .inl ⟨rfl, List.eq_nil_of_length_eq_zero h0⟩
  · refine .inr ⟨g, 0, cap, rfl, hn, hc, (Array.getElem?_eq_some_iff.1 hg).1, fun i hi => ?_⟩
    obtain ⟨x, hx, hox, _⟩ := intsR_to (ha i _ (List.getElem?_eq_getElem hi))
    have q := World.ownsRow.cellAt ho i (by omega)
    have z := flat_at (k := 0) hl hi (by omega)
    rw [Nat.mul_one, Nat.add_zero] at z
    refine ⟨x, by rw [Nat.zero_add, q, z, hx]; rfl, ?_⟩
    rw [List.getD_eq_getElem?_getD, List.getElem?_eq_getElem hi]
    exact hox.rd

/-- A sum. -/
def sumR : Rep Sm := fun w cs s fp => ∃ V f1 f2 f3 f4, cs = [.slice V.xr V.nr V.cr, .slice V.xf V.nf V.cf, .slice V.xt V.nt V.ct, .int .i64 s.lo, .int .i64 s.al, .slice V.xk V.nk V.ck, .int .i64 s.ka] ∧ fp = f1 ++ (f2 ++ (f3 ++ f4)) ∧ rowsR w [SV.r V] s.rs f1 ∧ intsR w [SV.f V] s.zs f2 ∧ pairsR w [SV.t V] s.ps f3 ∧ knotsR w [SV.k V] s.ks f4
theorem sumR_frame : sumR.Frame := by
  refine ⟨?_, ?_⟩
  · rintro w cs s fp ⟨V, f1, f2, f3, f4, rfl, rfl, h1, h2, h3, h4⟩ b hm
    simp only [List.mem_append] at hm
    rcases hm with hm | hm | hm | hm
    · exact rowsR_frame.lt h1 b hm
    · exact intsR_frame.lt h2 b hm
    · exact pairsR_frame.lt h3 b hm
    · exact knotsR_frame.lt h4 b hm
  · rintro w w' cs s fp ⟨V, f1, f2, f3, f4, rfl, rfl, h1, h2, h3, h4⟩ hk
    exact ⟨V, f1, f2, f3, f4, rfl, rfl, rowsR_frame.keep h1 fun b hm => hk b (by simp [hm]), intsR_frame.keep h2 fun b hm => hk b (by simp [hm]), pairsR_frame.keep h3 fun b hm => hk b (by simp [hm]), knotsR_frame.keep h4 fun b hm => hk b (by simp [hm])⟩
theorem sumR_rd {w : World} {cs : List Value} {s : Sm} {fp : List Nat} (h : sumR w cs s fp) : ∃ V, cs = [.slice V.xr V.nr V.cr, .slice V.xf V.nf V.cf, .slice V.xt V.nt V.ct, .int .i64 s.lo, .int .i64 s.al, .slice V.xk V.nk V.ck, .int .i64 s.ka] ∧ RdS w V s := by
  obtain ⟨V, f1, f2, f3, f4, rfl, rfl, h1, h2, h3, h4⟩ := h
  obtain ⟨v1, e1, r1⟩ := rowsR_rd h1
  obtain ⟨v2, e2, r2, _⟩ := intsR_to h2
  obtain ⟨v3, e3, r3, _⟩ := pairsR_to h3
  obtain ⟨v4, e4, r4, _⟩ := knotsR_to h4
  cases e1; cases e2; cases e3; cases e4
  exact ⟨V, rfl, r1, r2.rd, r3.rd, r4.rd⟩
theorem block_mem {v : Value} {b : Nat} (h : b ∈ v.ownBlock.toList) : v.ownBlock = some b := by
  cases hv : v.ownBlock <;> simp [hv] at h ⊢
  exact h.symm
theorem block_nodup (v : Value) : v.ownBlock.toList.Nodup := by cases v.ownBlock <;> simp
/-- What a call leaves of its own, as nested data: each block once, between its bounds. -/
theorem OwnS.rep {w : World} {B U : Nat} {V : SV} {s : Sm} (h : OwnS w B U V s) : ∃ fp, sumR w [.slice V.xr V.nr V.cr, .slice V.xf V.nf V.cf, .slice V.xt V.nt V.ct, .int .i64 s.lo, .int .i64 s.al, .slice V.xk V.nk V.ck, .int .i64 s.ka] s fp ∧ fp.Nodup ∧ ∀ b ∈ fp, B ≤ b ∧ b < U := by
  obtain ⟨M, m1, m2, ⟨G, C, o, q1, q2, q3⟩, hf⟩ := h.mid
  refine ⟨_, ⟨V, _, _, _, _, rfl, rfl, rowsR_of o, intsR_of hf, pairsR_of h.t, knotsR_of h.k⟩, ?_, ?_⟩
  · have gG : ∀ i, i < s.rs.length → B ≤ G i ∧ G i < M := fun i hi => ⟨((o.row i hi).lt (G i) rfl).1, q2 i hi⟩
    have gr : ∀ b, V.r.ownBlock = some b → B ≤ b ∧ b < M := fun b e => ⟨(World.ownsRow.lt o.hdr b e).1, q1 b e⟩
    have gf : ∀ b, V.f.ownBlock = some b → M ≤ b := fun b e => (World.ownsRow.lt hf b e).1
    have tr : ∀ b, V.t.ownBlock = some b → V.r.ownBlock ≠ some b := fun b e e' => by
      rcases own_ne h.t o.hdr (by decide) with n | n
      · rw [n] at e; cases e
      · exact n (e.trans e'.symm)
    have tg : ∀ b, V.t.ownBlock = some b → ∀ i, i < s.rs.length → G i ≠ b := fun b e i hi e' => by
      rcases own_ne h.t (o.row i hi) (by decide) with n | n
      · rw [n] at e; cases e
      · exact n (e.trans (by rw [← e']; rfl))
    have tf : ∀ b, V.t.ownBlock = some b → V.f.ownBlock ≠ some b := fun b e e' => by
      rcases own_ne h.t hf (by decide) with n | n
      · rw [n] at e; cases e
      · exact n (e.trans e'.symm)
    have kr : ∀ b, V.k.ownBlock = some b → V.r.ownBlock ≠ some b := fun b e e' => by
      rcases own_ne h.k o.hdr (by decide) with n | n
      · rw [n] at e; cases e
      · exact n (e.trans e'.symm)
    have kg : ∀ b, V.k.ownBlock = some b → ∀ i, i < s.rs.length → G i ≠ b := fun b e i hi e' => by
      rcases own_ne h.k (o.row i hi) (by decide) with n | n
      · rw [n] at e; cases e
      · exact n (e.trans (by rw [← e']; rfl))
    have kf : ∀ b, V.k.ownBlock = some b → V.f.ownBlock ≠ some b := fun b e e' => by
      rcases own_ne h.k hf (by decide) with n | n
      · rw [n] at e; cases e
      · exact n (e.trans e'.symm)
    have kt : ∀ b, V.k.ownBlock = some b → V.t.ownBlock ≠ some b := fun b e e' => by
      rcases own_ne h.k h.t (by decide) with n | n
      · rw [n] at e; cases e
      · exact n (e.trans e'.symm)
    refine List.nodup_append.2 ⟨List.nodup_append.2 ⟨block_nodup _, ?_, ?_⟩, List.nodup_append.2 ⟨block_nodup _, List.nodup_append.2 ⟨block_nodup _, block_nodup _, ?_⟩, ?_⟩, ?_⟩
    · exact List.pairwise_map.2 (List.Pairwise.imp_of_mem (fun {i j} hi hj q e => o.apart i j (List.mem_range.1 hi) (List.mem_range.1 hj) q e) List.nodup_range)
    · intro a ha b hb e
      obtain ⟨i, hi, rfl⟩ := List.mem_map.1 hb
      exact o.off i (List.mem_range.1 hi) (by rw [block_mem ha, e])
    · intro a ha b hb e
      exact kt b (block_mem hb) (by rw [block_mem ha, e])
    · intro a ha b hb e
      rcases List.mem_append.1 hb with hb | hb
      · exact tf b (block_mem hb) (by rw [block_mem ha, e])
      · exact kf b (block_mem hb) (by rw [block_mem ha, e])
    · intro a ha b hb e
      subst e
      rcases List.mem_append.1 ha with ha | ha
      · have e1 := block_mem ha
        rcases List.mem_append.1 hb with hb | hb
        · have := gf a (block_mem hb); have := (gr a e1).2; omega
        · rcases List.mem_append.1 hb with hb | hb
          · exact tr a (block_mem hb) e1
          · exact kr a (block_mem hb) e1
      · obtain ⟨i, hi, rfl⟩ := List.mem_map.1 ha
        have hi := List.mem_range.1 hi
        rcases List.mem_append.1 hb with hb | hb
        · have := gf _ (block_mem hb); have := (gG i hi).2; omega
        · rcases List.mem_append.1 hb with hb | hb
          · exact tg _ (block_mem hb) i hi rfl
          · exact kg _ (block_mem hb) i hi rfl
  · intro b hb
    simp only [List.mem_append] at hb
    rcases hb with (hb | hb) | hb | hb | hb
    · have e := block_mem hb
      have := (World.ownsRow.lt o.hdr b e).1; have := q1 b e; omega
    · obtain ⟨i, hi, rfl⟩ := List.mem_map.1 hb
      have hi := List.mem_range.1 hi
      have := ((o.row i hi).lt (G i) rfl).1; have := q2 i hi; omega
    · have e := block_mem hb
      have := (World.ownsRow.lt hf b e).1; have := h.ft b e; omega
    · have e := block_mem hb
      exact ⟨(World.ownsRow.lt h.t b e).1, h.tt b e⟩
    · have e := block_mem hb
      exact ⟨(World.ownsRow.lt h.k b e).1, h.kt b e⟩

end Go.Proofs.Ytnpogmhfdjmfdaa

/-
  A slice of the call's own, element by element: put at its end, one cell of one element written, kept.
-/
namespace Go.Proofs.Ytnpogmhfdjmfdaa
open Go.RowKit Go.Sort

def upd {β : Type} (f : Nat → β) (n : Nat) (x : β) : Nat → β := fun i => if i = n then x else f i
theorem upd_same {β : Type} (f : Nat → β) (n : Nat) (x : β) : upd f n x n = x := if_pos rfl
theorem upd_other {β : Type} (f : Nat → β) {n i : Nat} (x : β) (h : i ≠ n) : upd f n x i = f i := if_neg h
structure Els {α : Type} (A : Rep α) (e : TypeId) (size : Nat) (w : World) (B : Nat) (v : Value) (xs : List α) (c : Nat → List Value) (f : Nat → List Nat) : Prop where
  own : w.ownsRow B e size v xs.length ((List.range xs.length).map c).flatten
  len : ∀ i, i < xs.length → (c i).length = size
  one : ∀ i a, xs[i]? = some a → A w (c i) a (f i)
def fps (v : Value) (n : Nat) (f : Nat → List Nat) : List Nat := v.ownBlock.toList ++ ((List.range n).map f).flatten
theorem mem_own {v : Value} {b n : Nat} {f : Nat → List Nat} (h : v.ownBlock = some b) : b ∈ fps v n f := List.mem_append_left _ (by simp [h])
theorem mem_el {v : Value} {b n i : Nat} {f : Nat → List Nat} (hi : i < n) (h : b ∈ f i) : b ∈ fps v n f := List.mem_append_right _ (mem_fps_of hi h)
theorem mem_split {v : Value} {b n : Nat} {f : Nat → List Nat} (h : b ∈ fps v n f) : v.ownBlock = some b ∨ ∃ i, i < n ∧ b ∈ f i := by
  rcases List.mem_append.1 h with h | h
  · exact .inl (block_mem h)
  · exact .inr (mem_fps h)
section
variable {α : Type} {A : Rep α} {e : TypeId} {size : Nat} {w : World} {B : Nat} {v : Value} {xs : List α} {c : Nat → List Value} {f : Nat → List Nat}
theorem Els.rep (h : Els A e size w B v xs c f) : slcR e size A w [v] xs (fps v xs.length f) := ⟨v, c, f, rfl, ownsRow_base h.own (Nat.zero_le _), h.len, h.one, rfl⟩
theorem slcR_els {cs : List Value} {fp : List Nat} (h : slcR e size A w cs xs fp) : ∃ v c f, cs = [v] ∧ Els A e size w 0 v xs c f ∧ fp = fps v xs.length f := by
  obtain ⟨v, c, f, rfl, ho, hl, ha, rfl⟩ := h
  exact ⟨v, c, f, rfl, ⟨ho, hl, ha⟩, rfl⟩
theorem Els.nil (w : World) (B : Nat) (c : Nat → List Value) (f : Nat → List Nat) : Els A e size w B (.slice none 0 0) [] c f := ⟨World.ownsRow_nil w B e size, fun i hi => absurd hi (Nat.not_lt_zero i), fun i a hi => by simp at hi⟩
theorem Els.empty (w : World) (hB : B ≤ w.heap.size) (c : Nat → List Value) (f : Nat → List Nat) : Els A e size (w.alloc (.cells #[] e)) B (.slice (some ⟨w.heap.size, 0, none⟩) 0 0) [] c f :=
  ⟨World.ownsRow_lit w #[] 0 hB (by simp [maxLen]) (by simp), fun i hi => absurd hi (Nat.not_lt_zero i), fun i a hi => by simp at hi⟩
theorem Els.base (h : Els A e size w B v xs c f) {B' : Nat} (hB : B' ≤ B) : Els A e size w B' v xs c f := ⟨ownsRow_base h.own hB, h.len, h.one⟩
theorem Els.keep (h : Els A e size w B v xs c f) (FA : A.Frame) {w' : World} (hk : ∀ b ∈ fps v xs.length f, w'.heap[b]? = w.heap[b]?) : Els A e size w' B v xs c f :=
  ⟨ownsRow_same h.own fun g hg => hk g (mem_own hg), h.len, fun i a hi => FA.keep (h.one i a hi) fun b hb => hk b (mem_el (List.getElem?_eq_some_iff.1 hi).1 hb)⟩
theorem Els.lt (h : Els A e size w B v xs c f) (FA : A.Frame) : ∀ b ∈ fps v xs.length f, b < w.heap.size := (slcR_frame FA e size).lt h.rep
theorem Els.grown (h : Els A e size w B v xs c f) (FA : A.Frame) {w' : World} {row : Option Nat} (hg : w.grownBy w' row) (hr : ∀ b ∈ fps v xs.length f, some b ≠ row) : Els A e size w' B v xs c f :=
  h.keep FA fun b hb => hg.block b (h.lt FA b hb) (hr b hb)
theorem Els.alloc (h : Els A e size w B v xs c f) (FA : A.Frame) (o : Obj) : Els A e size (w.alloc o) B v xs c f := h.grown FA (World.grownBy_alloc w o none) (fun b _ q => by cases q)
theorem flat_upd (n : Nat) (c : Nat → List Value) (cs : List Value) : ((List.range (n + 1)).map (upd c n cs)).flatten = ((List.range n).map c).flatten ++ cs := by
  rw [List.range_succ, List.map_append, List.flatten_append]
  have e : (List.range n).map (upd c n cs) = (List.range n).map c := List.map_congr_left fun i hi => upd_other c cs (by have := List.mem_range.1 hi; omega)
  rw [e]
  simp [upd_same]
theorem fps_upd (n : Nat) (f : Nat → List Nat) (v : Value) (x : List Nat) : fps v (n + 1) (upd f n x) = v.ownBlock.toList ++ (((List.range n).map f).flatten ++ x) := by
  unfold fps
  rw [List.range_succ, List.map_append, List.flatten_append]
  have e : (List.range n).map (upd f n x) = (List.range n).map f := List.map_congr_left fun i hi => upd_other f x (by have := List.mem_range.1 hi; omega)
  rw [e]
  simp [upd_same]
/-- One more at its end. -/
theorem Els.snoc (h : Els A e size w B v xs c f) (FA : A.Frame) {w' : World} {v' : Value} {cs : List Value} {a : α} {fa : List Nat} (ho : w'.ownsRow B e size v' (xs.length + 1) (((List.range xs.length).map c).flatten ++ cs)) (hc : cs.length = size)
    (hk : ∀ i, i < xs.length → ∀ b ∈ f i, w'.heap[b]? = w.heap[b]?) (ha : A w' cs a fa) : Els A e size w' B v' (xs ++ [a]) (upd c xs.length cs) (upd f xs.length fa) := by
  have ln : (xs ++ [a]).length = xs.length + 1 := by simp
  refine ⟨by rw [ln, flat_upd]; exact ho, fun i hi => ?_, fun i x hx => ?_⟩
  · rw [ln] at hi
    by_cases q : i = xs.length
    · rw [q, upd_same]; exact hc
    · rw [upd_other _ _ q]; exact h.len i (by omega)
  · by_cases q : i = xs.length
    · subst q
      rw [upd_same, upd_same]
      have : x = a := by simp at hx; exact hx.symm
      rw [this]; exact ha
    · have hi : i < xs.length := by have := (List.getElem?_eq_some_iff.1 hx).1; simp at this; omega
      rw [upd_other _ _ q, upd_other _ _ q]
      rw [List.getElem?_append_left hi] at hx
      exact FA.keep (h.one i x hx) (hk i hi)
/-- Cell k of element i, where it lies. -/
theorem Els.cell (h : Els A e size w B v xs c f) {i k : Nat} (hi : i < xs.length) {z : Value} (hz : (c i)[k]? = some z) : ∃ g cap, v = .slice (some ⟨g, 0, none⟩) xs.length cap ∧ B ≤ g ∧ g < w.heap.size ∧ xs.length ≤ cap ∧ cap ≤ maxLen ∧ w.cell? ⟨g, i * size + k, none⟩ = some z := by
  have hk : k < size := by have := (List.getElem?_eq_some_iff.1 hz).1; rw [h.len i hi] at this; exact this
  rcases h.own.2 with ⟨rfl, h0⟩ | ⟨g, cap, cur, rfl, hb, hg, hn, hc, hs, ht⟩
  · omega
  · refine ⟨g, cap, rfl, hb, (Array.getElem?_eq_some_iff.1 hg).1, hn, hc, ?_⟩
    have lt : i * size + k < xs.length * size := by
      have : i * size + size ≤ xs.length * size := by rw [← Nat.succ_mul]; exact Nat.mul_le_mul_right _ hi
      omega
    rw [World.ownsRow.cellAt h.own _ lt, flat_at h.len hi hk, hz]
theorem flat_set {n i k : Nat} {u : Value} (hl : ∀ i, i < n → (c i).length = size) (hi : i < n) (hk : k < size) : ((List.range n).map c).flatten.set (i * size + k) u = ((List.range n).map (upd c i ((c i).set k u))).flatten := by
  have hl' : ∀ j, j < n → (upd c i ((c i).set k u) j).length = size := fun j hj => by
    by_cases q : j = i
    · rw [q, upd_same, List.length_set]; exact hl i hi
    · rw [upd_other _ _ q]; exact hl j hj
  apply List.ext_getElem?
  intro j
  by_cases hj : j < n * size
  · have s0 : 0 < size := by omega
    obtain ⟨q, r, rfl, hr, hq⟩ : ∃ q r, j = q * size + r ∧ r < size ∧ q < n := ⟨j / size, j % size, by rw [Nat.mul_comm]; exact (Nat.div_add_mod j size).symm, Nat.mod_lt _ s0, (Nat.div_lt_iff_lt_mul s0).2 hj⟩
    rw [List.getElem?_set, flat_at hl' hq hr, flat_len hl]
    by_cases d : q = i
    · subst d
      rw [upd_same, List.getElem?_set]
      by_cases d2 : k = r
      · rw [if_pos (by rw [d2]), if_pos (by rw [d2]; exact hj), if_pos d2, if_pos (by rw [hl q hq]; exact hk)]
      · rw [if_neg (fun x => d2 (by omega)), if_neg d2, flat_at hl hq hr]
    · rw [upd_other _ _ d, if_neg ?_, flat_at hl hq hr]
      intro x
      apply d
      have x1 : (i * size + k) / size = i := by rw [Nat.mul_comm, Nat.mul_add_div s0, Nat.div_eq_of_lt hk, Nat.add_zero]
      have x2 : (q * size + r) / size = q := by rw [Nat.mul_comm, Nat.mul_add_div s0, Nat.div_eq_of_lt hr, Nat.add_zero]
      rw [← x1, x, x2]
  · rw [List.getElem?_eq_none (by rw [List.length_set, flat_len hl]; omega), List.getElem?_eq_none (by rw [flat_len hl']; omega)]
/-- One cell of one element is written. -/
theorem Els.set {g cap : Nat} (h : Els A e size w B (.slice (some ⟨g, 0, none⟩) xs.length cap) xs c f) (FA : A.Frame) {i k : Nat} (hi : i < xs.length) (hk : k < size) {u : Value} {a : α} {fa : List Nat}
    (off : ∀ j, j < xs.length → j ≠ i → g ∉ f j) (ha : A (w.setCell ⟨g, i * size + k, none⟩ u) ((c i).set k u) a fa) :
    Els A e size (w.setCell ⟨g, i * size + k, none⟩ u) B (.slice (some ⟨g, 0, none⟩) xs.length cap) (xs.set i a) (upd c i ((c i).set k u)) (upd f i fa) := by
  obtain ⟨s1, s2⟩ := World.ownsRow.stored h.own (i * size + k) u
  have ln : (xs.set i a).length = xs.length := List.length_set
  refine ⟨?_, fun j hj => ?_, fun j x hx => ?_⟩
  · rw [ln, ← flat_set h.len hi hk]; exact s1
  · rw [ln] at hj
    by_cases q : j = i
    · rw [q, upd_same, List.length_set]; exact h.len i hi
    · rw [upd_other _ _ q]; exact h.len j hj
  · by_cases q : j = i
    · subst q
      rw [upd_same, upd_same]
      rw [List.getElem?_set_self hi] at hx
      rw [← Option.some.inj hx]; exact ha
    · rw [upd_other _ _ q, upd_other _ _ q]
      rw [List.getElem?_set_ne (fun z => q z.symm)] at hx
      have hj := (List.getElem?_eq_some_iff.1 hx).1
      exact FA.keep (h.one j x hx) fun b hb => s2.block b (FA.lt (h.one j x hx) b hb) (fun z => off j hj q (by rw [← Option.some.inj z]; exact hb))
end
end Go.Proofs.Ytnpogmhfdjmfdaa

/-
  Entries, nodes, words and nets in memory, as nested data.
-/
namespace Go.Proofs.Ytnpogmhfdjmfdaa
open Go.RowKit Go.Sort

/-- All cells are of one cell each. -/
structure Rep.One {α : Type} (R : Rep α) (size : Nat) : Prop where
  len : ∀ {w cs a fp}, R w cs a fp → cs.length = size
  one : ∀ {w cs a fp}, R w cs a fp → ∀ u ∈ cs, u.oneCell' = true
theorem intR_one : intR.One 1 := ⟨fun h => by rw [h.1]; rfl, fun h u hu => by rw [h.1] at hu; rw [List.mem_singleton.1 hu]; rfl⟩
theorem andR_one {α β : Type} {A : Rep α} {B : Rep β} {n m : Nat} (OA : A.One n) (OB : B.One m) : (andR A B).One (n + m) := by
  refine ⟨?_, ?_⟩
  · rintro w cs a fp ⟨c1, c2, f1, f2, rfl, rfl, h1, h2⟩
    rw [List.length_append, OA.len h1, OB.len h2]
  · rintro w cs a fp ⟨c1, c2, f1, f2, rfl, rfl, h1, h2⟩ u hu
    rcases List.mem_append.1 hu with hu | hu
    · exact OA.one h1 u hu
    · exact OB.one h2 u hu
theorem viaR_one {α β : Type} {A : Rep α} {n : Nat} (OA : A.One n) (f : β → α) : (viaR A f).One n := ⟨fun h => OA.len h, fun h => OA.one h⟩
theorem own_oneCell {w : World} {B : Nat} {e : TypeId} {size n : Nat} {v : Value} {xs : List Value} (h : w.ownsRow B e size v n xs) : v.oneCell' = true := by
  rcases h.2 with ⟨rfl, _⟩ | ⟨g, cap, cur, rfl, _⟩ <;> rfl
theorem slcR_one {α : Type} (A : Rep α) (e : TypeId) (size : Nat) : (slcR e size A).One 1 := by
  refine ⟨?_, ?_⟩
  · rintro w cs xs fp ⟨v, c, f, rfl, _⟩; rfl
  · rintro w cs xs fp ⟨v, c, f, rfl, ho, _⟩ u hu
    rw [List.mem_singleton.1 hu]
    exact own_oneCell ho
theorem slcR_value {α : Type} {A : Rep α} {e : TypeId} {size : Nat} {w : World} {v : Value} {xs : List α} {fp : List Nat} (h : slcR e size A w [v] xs fp) : ∃ x c, v = .slice x xs.length c ∧ xs.length ≤ c ∧ c ≤ maxLen := by
  obtain ⟨v', c, f, ev, ho, _⟩ := h
  cases ev
  rcases ho.2 with ⟨rfl, h0⟩ | ⟨g, cap, cur, rfl, hb, hg, hn, hc, _⟩
  · exact ⟨none, 0, by rw [h0], by omega, Nat.zero_le _⟩
  · exact ⟨_, _, rfl, hn, hc⟩
theorem sumR_one : sumR.One 7 := by
  refine ⟨?_, ?_⟩
  · rintro w cs s fp ⟨V, f1, f2, f3, f4, rfl, _⟩; rfl
  · rintro w cs s fp ⟨V, f1, f2, f3, f4, rfl, _, h1, h2, h3, h4⟩ u hu
    have o1 := (slcR_one intsR 22 1).one h1
    have o2 := (slcR_one (flatR encI) 3 1).one h2
    have o3 := (slcR_one (flatR encP2) 94 2).one h3
    have o4 := (slcR_one (flatR encP2) 96 2).one h4
    simp only [List.mem_singleton, forall_eq] at o1 o2 o3 o4
    simp only [List.mem_cons, List.not_mem_nil, or_false] at hu
    rcases hu with rfl | rfl | rfl | rfl | rfl | rfl | rfl <;> first | assumption | rfl
namespace N
/-- The types of a net's parts. -/
structure Ty where
  entry : TypeId
  node : TypeId
  word : TypeId
  bool : TypeId
  rows : TypeId
variable {T : Ty}
def encB (b : Bool) : List Value := [.bool b]
def entryR : Rep En := viaR (andR intR (andR intR (andR intR sumR))) fun e => (e.node, e.born, e.num, e.s)
def knownR (T : Ty) : Rep (List En) := slcR T.entry 10 entryR
def nodeR (T : Ty) : Rep Nd := viaR (andR intR (andR (knownR T) (andR intR (andR intR intR)))) fun x => (x.born, x.known, x.beacon, x.level, x.up)
def wordR (T : Ty) : Rep Wd := viaR (andR intR (andR intR (andR intR (andR intR (andR intR (knownR T)))))) fun x => (x.kind, x.src, x.dst, x.beacon, x.level, x.known)
def nodesR (T : Ty) : Rep (List Nd) := slcR T.node 5 (nodeR T)
def wordsR (T : Ty) : Rep (List Wd) := slcR T.word 6 (wordR T)
def linksR (T : Ty) : Rep (List Bool) := slcR T.bool 1 (flatR encB)
def pastR (T : Ty) : Rep (List (List (List Int))) := slcR T.rows 1 rowsR
def netR (T : Ty) : Rep Nt := viaR (andR (nodesR T) (andR (linksR T) (andR (wordsR T) (pastR T)))) fun n => (n.nodes, n.links, n.words, n.past)
theorem entryR_frame : entryR.Frame := viaR_frame (andR_frame intR_frame (andR_frame intR_frame (andR_frame intR_frame sumR_frame))) _
theorem knownR_frame : (knownR T).Frame := slcR_frame entryR_frame _ _
theorem nodeR_frame : (nodeR T).Frame := viaR_frame (andR_frame intR_frame (andR_frame knownR_frame (andR_frame intR_frame (andR_frame intR_frame intR_frame)))) _
theorem wordR_frame : (wordR T).Frame := viaR_frame (andR_frame intR_frame (andR_frame intR_frame (andR_frame intR_frame (andR_frame intR_frame (andR_frame intR_frame knownR_frame))))) _
theorem nodesR_frame : (nodesR T).Frame := slcR_frame nodeR_frame _ _
theorem wordsR_frame : (wordsR T).Frame := slcR_frame wordR_frame _ _
theorem linksR_frame : (linksR T).Frame := slcR_frame (flatR_frame _) _ _
theorem pastR_frame : (pastR T).Frame := slcR_frame rowsR_frame _ _
theorem netR_frame : (netR T).Frame := viaR_frame (andR_frame nodesR_frame (andR_frame linksR_frame (andR_frame wordsR_frame pastR_frame))) _
theorem entryR_one : entryR.One 10 := viaR_one (andR_one intR_one (andR_one intR_one (andR_one intR_one sumR_one))) _
theorem nodeR_one : (nodeR T).One 5 := viaR_one (andR_one intR_one (andR_one (slcR_one _ _ _) (andR_one intR_one (andR_one intR_one intR_one)))) _
theorem wordR_one : (wordR T).One 6 := viaR_one (andR_one intR_one (andR_one intR_one (andR_one intR_one (andR_one intR_one (andR_one intR_one (slcR_one _ _ _)))))) _
theorem netR_one : (netR T).One 4 := viaR_one (andR_one (slcR_one _ _ _) (andR_one (slcR_one _ _ _) (andR_one (slcR_one _ _ _) (slcR_one _ _ _)))) _
section
variable {w : World} {cs : List Value} {fp : List Nat}
theorem entryR_iff {e : En} : entryR w cs e fp ↔ ∃ c, cs = .int .i64 e.node :: .int .i64 e.born :: .int .i64 e.num :: c ∧ sumR w c e.s fp := by
  constructor
  · rintro ⟨_, _, _, _, rfl, rfl, ⟨rfl, rfl⟩, ⟨_, _, _, _, rfl, rfl, ⟨rfl, rfl⟩, ⟨_, _, _, _, rfl, rfl, ⟨rfl, rfl⟩, h⟩⟩⟩
    exact ⟨_, rfl, h⟩
  · rintro ⟨c, rfl, h⟩
    exact ⟨[_], _, [], fp, rfl, rfl, ⟨rfl, rfl⟩, ⟨[_], _, [], fp, rfl, rfl, ⟨rfl, rfl⟩, ⟨[_], _, [], fp, rfl, rfl, ⟨rfl, rfl⟩, h⟩⟩⟩
theorem nodeR_iff {x : Nd} : nodeR T w cs x fp ↔ ∃ v, cs = [.int .i64 x.born, v, .int .i64 x.beacon, .int .i64 x.level, .int .i64 x.up] ∧ knownR T w [v] x.known fp := by
  constructor
  · rintro ⟨_, _, _, _, rfl, rfl, ⟨rfl, rfl⟩, ⟨_, _, _, _, rfl, rfl, h, ⟨_, _, _, _, rfl, rfl, ⟨rfl, rfl⟩, ⟨_, _, _, _, rfl, rfl, ⟨rfl, rfl⟩, ⟨rfl, rfl⟩⟩⟩⟩⟩
    obtain ⟨v, c, f, rfl, h'⟩ := h
    refine ⟨v, rfl, ?_⟩
    simp only [List.nil_append, List.append_nil]
    exact ⟨v, c, f, rfl, h'⟩
  · rintro ⟨v, rfl, h⟩
    refine ⟨[_], [v, _, _, _], [], fp, rfl, rfl, ⟨rfl, rfl⟩, ⟨[v], [_, _, _], fp, [], rfl, (List.append_nil _).symm, h, ⟨[_], [_, _], [], [], rfl, rfl, ⟨rfl, rfl⟩, ⟨[_], [_], [], [], rfl, rfl, ⟨rfl, rfl⟩, ⟨rfl, rfl⟩⟩⟩⟩⟩
theorem wordR_iff {x : Wd} : wordR T w cs x fp ↔ ∃ v, cs = [.int .i64 x.kind, .int .i64 x.src, .int .i64 x.dst, .int .i64 x.beacon, .int .i64 x.level, v] ∧ knownR T w [v] x.known fp := by
  constructor
  · rintro ⟨_, _, _, _, rfl, rfl, ⟨rfl, rfl⟩, ⟨_, _, _, _, rfl, rfl, ⟨rfl, rfl⟩, ⟨_, _, _, _, rfl, rfl, ⟨rfl, rfl⟩, ⟨_, _, _, _, rfl, rfl, ⟨rfl, rfl⟩, ⟨_, _, _, _, rfl, rfl, ⟨rfl, rfl⟩, h⟩⟩⟩⟩⟩
    obtain ⟨v, c, f, rfl, h'⟩ := h
    exact ⟨v, rfl, ⟨v, c, f, rfl, h'⟩⟩
  · rintro ⟨v, rfl, h⟩
    exact ⟨[_], _, [], fp, rfl, rfl, ⟨rfl, rfl⟩, ⟨[_], _, [], fp, rfl, rfl, ⟨rfl, rfl⟩, ⟨[_], _, [], fp, rfl, rfl, ⟨rfl, rfl⟩, ⟨[_], _, [], fp, rfl, rfl, ⟨rfl, rfl⟩, ⟨[_], _, [], fp, rfl, rfl, ⟨rfl, rfl⟩, h⟩⟩⟩⟩⟩
theorem netR_iff {n : Nt} : netR T w cs n fp ↔ ∃ v1 v2 v3 v4 f1 f2 f3 f4, cs = [v1, v2, v3, v4] ∧ fp = f1 ++ (f2 ++ (f3 ++ f4)) ∧ nodesR T w [v1] n.nodes f1 ∧ linksR T w [v2] n.links f2 ∧ wordsR T w [v3] n.words f3 ∧ pastR T w [v4] n.past f4 := by
  constructor
  · rintro ⟨_, _, f1, _, rfl, rfl, ⟨v1, a1, b1, rfl, h1⟩, ⟨_, _, f2, _, rfl, rfl, ⟨v2, a2, b2, rfl, h2⟩, ⟨_, _, f3, f4, rfl, rfl, ⟨v3, a3, b3, rfl, h3⟩, ⟨v4, a4, b4, rfl, h4⟩⟩⟩⟩
    exact ⟨v1, v2, v3, v4, f1, f2, f3, f4, rfl, rfl, ⟨v1, a1, b1, rfl, h1⟩, ⟨v2, a2, b2, rfl, h2⟩, ⟨v3, a3, b3, rfl, h3⟩, ⟨v4, a4, b4, rfl, h4⟩⟩
  · rintro ⟨v1, v2, v3, v4, f1, f2, f3, f4, rfl, rfl, h1, h2, h3, h4⟩
    exact ⟨[v1], [v2, v3, v4], f1, _, rfl, rfl, h1, ⟨[v2], [v3, v4], f2, _, rfl, rfl, h2, ⟨[v3], [v4], f3, f4, rfl, rfl, h3, h4⟩⟩⟩
end
end N
end Go.Proofs.Ytnpogmhfdjmfdaa

/-
  Nested data whose blocks are all different: elements changed, put at the end, and what that leaves different.
-/
namespace Go.Proofs.Ytnpogmhfdjmfdaa
open Go.RowKit Go.Sort

section
variable {v : Value} {n : Nat} {f : Nat → List Nat}
theorem flat_nodup : ((List.range n).map f).flatten.Nodup ↔ (∀ i, i < n → (f i).Nodup) ∧ ∀ i j, i < n → j < n → i ≠ j → ∀ b ∈ f i, b ∉ f j := by
  induction n with
  | zero => exact ⟨fun _ => ⟨fun i hi => absurd hi (Nat.not_lt_zero i), fun i j hi => absurd hi (Nat.not_lt_zero i)⟩, fun _ => by simp⟩
  | succ n ih =>
    rw [List.range_succ, List.map_append, List.flatten_append, List.nodup_append, ih]
    simp only [List.map_cons, List.map_nil, List.flatten_cons, List.flatten_nil, List.append_nil]
    constructor
    · rintro ⟨⟨h1, h2⟩, h3, h4⟩
      refine ⟨fun i hi => ?_, fun i j hi hj ne b hb hb' => ?_⟩
      · by_cases q : i = n
        · rw [q]; exact h3
        · exact h1 i (by omega)
      · by_cases qi : i = n
        · subst qi
          exact h4 b (mem_fps_of (show j < i by omega) hb') b hb rfl
        · by_cases qj : j = n
          · subst qj
            exact h4 b (mem_fps_of (show i < j by omega) hb) b hb' rfl
          · exact h2 i j (by omega) (by omega) ne b hb hb'
    · rintro ⟨h1, h2⟩
      refine ⟨⟨fun i hi => h1 i (by omega), fun i j hi hj => h2 i j (by omega) (by omega)⟩, h1 n (by omega), fun a ha b hb e => ?_⟩
      subst e
      obtain ⟨i, hi, hm⟩ := mem_fps ha
      exact h2 i n (by omega) (by omega) (by omega) a hm hb
theorem fps_nodup : (fps v n f).Nodup ↔ ((∀ i, i < n → (f i).Nodup) ∧ ∀ i j, i < n → j < n → i ≠ j → ∀ b ∈ f i, b ∉ f j) ∧ ∀ g, v.ownBlock = some g → ∀ i, i < n → g ∉ f i := by
  unfold fps
  rw [List.nodup_append, flat_nodup]
  constructor
  · rintro ⟨_, h, k⟩
    exact ⟨h, fun g hg i hi hm => k g (by simp [hg]) g (mem_fps_of hi hm) rfl⟩
  · rintro ⟨h, k⟩
    refine ⟨block_nodup v, h, fun a ha b hb e => ?_⟩
    subst e
    obtain ⟨i, hi, hm⟩ := mem_fps hb
    exact k a (block_mem ha) i hi hm
/-- Element i has other blocks now. -/
theorem fps_changed (h : (fps v n f).Nodup) {i : Nat} (hi : i < n) {x : List Nat} (hx : x.Nodup) (hd : ∀ b ∈ x, b ∈ f i ∨ b ∉ fps v n f) : (fps v n (upd f i x)).Nodup := by
  obtain ⟨⟨h1, h2⟩, h3⟩ := fps_nodup.1 h
  have far : ∀ b ∈ x, ∀ j, j < n → j ≠ i → b ∉ f j := fun b hb j hj ne hm => by
    rcases hd b hb with q | q
    · exact h2 i j hi hj (fun e => ne e.symm) b q hm
    · exact q (mem_el hj hm)
  refine fps_nodup.2 ⟨⟨fun j hj => ?_, fun j k hj hk ne b hb hb' => ?_⟩, fun g hg j hj hm => ?_⟩
  · by_cases q : j = i
    · rw [q, upd_same]; exact hx
    · rw [upd_other _ _ q]; exact h1 j hj
  · by_cases qj : j = i
    · subst qj
      rw [upd_same] at hb
      rw [upd_other _ _ (fun e => ne e.symm)] at hb'
      exact far b hb k hk (fun e => ne e.symm) hb'
    · rw [upd_other _ _ qj] at hb
      by_cases qk : k = i
      · subst qk
        rw [upd_same] at hb'
        exact far b hb' j hj qj hb
      · rw [upd_other _ _ qk] at hb'
        exact h2 j k hj hk ne b hb hb'
  · by_cases q : j = i
    · rw [q, upd_same] at hm
      rcases hd g hm with d | d
      · exact h3 g hg i hi d
      · exact d (mem_own hg)
    · rw [upd_other _ _ q] at hm
      exact h3 g hg j hj hm
theorem fps_mem_changed {i b : Nat} {x : List Nat} (h : b ∈ fps v n (upd f i x)) : b ∈ fps v n f ∨ b ∈ x := by
  rcases mem_split h with h | ⟨j, hj, h⟩
  · exact .inl (mem_own h)
  · by_cases q : j = i
    · rw [q, upd_same] at h; exact .inr h
    · rw [upd_other _ _ q] at h; exact .inl (mem_el hj h)
/-- One more at the end. -/
theorem fps_more (h : (fps v n f).Nodup) {v' : Value} {x : List Nat} (hx : x.Nodup) (hd : ∀ b ∈ x, ∀ i, i < n → b ∉ f i) (hv : ∀ g, v'.ownBlock = some g → (∀ i, i < n → g ∉ f i) ∧ g ∉ x) : (fps v' (n + 1) (upd f n x)).Nodup := by
  obtain ⟨⟨h1, h2⟩, _⟩ := fps_nodup.1 h
  refine fps_nodup.2 ⟨⟨fun j hj => ?_, fun j k hj hk ne b hb hb' => ?_⟩, fun g hg j hj hm => ?_⟩
  · by_cases q : j = n
    · rw [q, upd_same]; exact hx
    · rw [upd_other _ _ q]; exact h1 j (by omega)
  · by_cases qj : j = n
    · subst qj
      rw [upd_same] at hb
      rw [upd_other _ _ (fun e => ne e.symm)] at hb'
      exact hd b hb k (by omega) hb'
    · rw [upd_other _ _ qj] at hb
      by_cases qk : k = n
      · subst qk
        rw [upd_same] at hb'
        exact hd b hb' j (by omega) hb
      · rw [upd_other _ _ qk] at hb'
        exact h2 j k (by omega) (by omega) ne b hb hb'
  · by_cases q : j = n
    · rw [q, upd_same] at hm; exact (hv g hg).2 hm
    · rw [upd_other _ _ q] at hm; exact (hv g hg).1 j (by omega) hm
theorem fps_mem_more {b : Nat} {v' : Value} {x : List Nat} (h : b ∈ fps v' (n + 1) (upd f n x)) : v'.ownBlock = some b ∨ b ∈ fps v n f ∨ b ∈ x := by
  rcases mem_split h with h | ⟨j, hj, h⟩
  · exact .inl h
  · by_cases q : j = n
    · rw [q, upd_same] at h; exact .inr (.inr h)
    · rw [upd_other _ _ q] at h; exact .inr (.inl (mem_el (by omega) h))
end
/-- Data of a call's own: all blocks different, and none older than B. -/
def Sole {α : Type} (R : Rep α) (B : Nat) (w : World) (cs : List Value) (a : α) (fp : List Nat) : Prop := R w cs a fp ∧ fp.Nodup ∧ ∀ b ∈ fp, B ≤ b
section
variable {α : Type} {A : Rep α} {e : TypeId} {size : Nat} {w : World} {B : Nat} {xs : List α} {fp : List Nat}
theorem Sole.base {R : Rep α} {cs : List Value} {a : α} {B' : Nat} (h : Sole R B w cs a fp) (hB : B' ≤ B) : Sole R B' w cs a fp := ⟨h.1, h.2.1, fun b hb => Nat.le_trans hB (h.2.2 b hb)⟩
theorem Sole.keep {R : Rep α} (F : R.Frame) {cs : List Value} {a : α} {w' : World} (h : Sole R B w cs a fp) (hk : ∀ b ∈ fp, w'.heap[b]? = w.heap[b]?) : Sole R B w' cs a fp := ⟨F.keep h.1 hk, h.2⟩
theorem Sole.grown {R : Rep α} (F : R.Frame) {cs : List Value} {a : α} {w' : World} {row : Option Nat} (h : Sole R B w cs a fp) (hg : w.grownBy w' row) (hr : ∀ b ∈ fp, some b ≠ row) : Sole R B w' cs a fp := ⟨F.grown h.1 hg hr, h.2⟩
/-- One cell of one element is written: what is left. -/
theorem Sole.set (FA : A.Frame) {g n cap : Nat} (h : Sole (slcR e size A) B w [.slice (some ⟨g, 0, none⟩) n cap] xs fp) {i k : Nat} {x : α} (hi : xs[i]? = some x) (hk : k < size) :
    n = xs.length ∧ g ∈ fp ∧ ∃ ci fi, A w ci x fi ∧ (∀ b ∈ fi, b ∈ fp) ∧ fi.Nodup ∧ g ∉ fi ∧ ci.length = size ∧ (∀ j z, ci[j]? = some z → w.cell? ⟨g, i * size + j, none⟩ = some z) ∧ (∀ u, w.grownBy (w.setCell ⟨g, i * size + k, none⟩ u) (some g)) ∧
      ∀ u x' fi', A (w.setCell ⟨g, i * size + k, none⟩ u) (ci.set k u) x' fi' → fi'.Nodup → (∀ b ∈ fi', (b ∈ fi ∨ b ∉ fp) ∧ B ≤ b) →
        ∃ fp', Sole (slcR e size A) B (w.setCell ⟨g, i * size + k, none⟩ u) [.slice (some ⟨g, 0, none⟩) n cap] (xs.set i x') fp' ∧ (∀ b ∈ fp', b ∈ fp ∨ b ∈ fi') := by
  obtain ⟨hR, nd, low⟩ := h
  obtain ⟨v, c, f, ev, E, rfl⟩ := slcR_els hR
  have hlt : i < xs.length := (List.getElem?_eq_some_iff.1 hi).1
  cases ev
  obtain ⟨z, hz⟩ : ∃ z, (c i)[k]? = some z := ⟨(c i)[k]'(by rw [E.len i hlt]; exact hk), List.getElem?_eq_getElem _⟩
  obtain ⟨g', cap', ev, _, _, _, _, _⟩ := E.cell hlt hz
  injection ev with e1 e2 e3
  have en : n = xs.length := e2
  subst en
  refine ⟨rfl, mem_own rfl, c i, f i, E.one i x hi, fun b hb => mem_el hlt hb, ?_, ?_, E.len i hlt, fun j z hz => ?_, fun u => (World.ownsRow.stored E.own _ u).2, fun u x' fi' ha nf hd => ?_⟩
  · exact (fps_nodup.1 nd).1.1 i hlt
  · exact (fps_nodup.1 nd).2 g rfl i hlt
  · obtain ⟨g2, cap2, ev2, _, _, _, _, hc⟩ := E.cell hlt hz
    injection ev2 with q1 q2 q3
    injection q1 with q1
    injection q1 with q1
    rw [q1]; exact hc
  · have S := E.set FA hlt hk (u := u) (a := x') (fa := fi') (fun j hj _ => (fps_nodup.1 nd).2 g rfl j hj) ha
    have R := S.rep
    rw [List.length_set] at R
    refine ⟨_, ⟨R, fps_changed nd hlt nf (fun b hb => (hd b hb).1), fun b hb => ?_⟩, fun b hb => fps_mem_changed hb⟩
    rcases fps_mem_changed hb with q | q
    · exact low b q
    · exact (hd b q).2
/-- One more at the end: what is left. -/
theorem Sole.more (FA : A.Frame) {v : Value} (h : Sole (slcR e size A) B w [v] xs fp) : ∃ cells, w.ownsRow B e size v xs.length cells ∧ cells.length = xs.length * size ∧
    ∀ w' v' cs x fx, w'.ownsRow B e size v' (xs.length + 1) (cells ++ cs) → w.grownBy w' v.ownBlock → (v'.ownBlock = v.ownBlock ∨ ∀ g, v'.ownBlock = some g → w.heap.size ≤ g) → cs.length = size → Sole A B w' cs x fx → (∀ b ∈ fx, b ∉ fp) → (∀ g, v'.ownBlock = some g → g ∉ fx) →
      ∃ fp', Sole (slcR e size A) B w' [v'] (xs ++ [x]) fp' ∧ ∀ b ∈ fp', b ∈ fp ∨ b ∈ fx ∨ v'.ownBlock = some b := by
  obtain ⟨hR, nd, low⟩ := h
  obtain ⟨v0, c, f, ev, E, rfl⟩ := slcR_els hR
  cases ev
  have nd' := fps_nodup.1 nd
  have oB : w.ownsRow B e size v xs.length ((List.range xs.length).map c).flatten := by
    refine ⟨E.own.1, ?_⟩
    rcases E.own.2 with q | ⟨g, cap, cur, rfl, hb, r⟩
    · exact .inl q
    · exact .inr ⟨g, cap, cur, rfl, low g (mem_own rfl), r⟩
  refine ⟨_, oB, flat_len E.len, fun w' v' cs x fx ho hg hv hc hx hd hgx => ?_⟩
  have EB : Els A e size w B v xs c f := ⟨oB, E.len, E.one⟩
  have fl : ∀ i, i < xs.length → ∀ b ∈ f i, b < w.heap.size ∧ some b ≠ v.ownBlock := fun i hi b hb => ⟨FA.lt (E.one i _ (List.getElem?_eq_getElem hi)) b hb, fun q => nd'.2 b q.symm i hi hb⟩
  have S := EB.snoc FA ho hc (fun i hi b hb => hg.block b (fl i hi b hb).1 (fl i hi b hb).2) hx.1
  have R := S.rep
  rw [show (xs ++ [x]).length = xs.length + 1 by simp] at R
  refine ⟨_, ⟨R, fps_more nd hx.2.1 (fun b hb i hi hm => hd b hb (mem_el hi hm)) (fun g q => ⟨fun i hi hm => ?_, hgx g q⟩), fun b hb => ?_⟩, fun b hb => ?_⟩
  · rcases hv with hv | hv
    · exact (fl i hi g hm).2 (by rw [← hv, q])
    · have := hv g q
      have := (fl i hi g hm).1
      omega
  · rcases fps_mem_more (v := v) hb with q | q | q
    · exact (World.ownsRow.lt ho b q).1
    · exact low b q
    · exact hx.2.2 b q
  · rcases fps_mem_more (v := v) hb with q | q | q
    · exact .inr (.inr q)
    · exact .inl q
    · exact .inr (.inl q)
end
end Go.Proofs.Ytnpogmhfdjmfdaa

/-
  A net of the call's own: one cell of a node, a link, a word more, what was counted.
-/
namespace Go.Proofs.Ytnpogmhfdjmfdaa
open Go.RowKit Go.Sort

def Dj (a b : List Nat) : Prop := ∀ x ∈ a, x ∉ b
theorem Dj.symm {a b : List Nat} (h : Dj a b) : Dj b a := fun x hx hy => h x hy hx
theorem nodup_app {a b : List Nat} : (a ++ b).Nodup ↔ a.Nodup ∧ b.Nodup ∧ Dj a b := by
  rw [List.nodup_append]
  exact ⟨fun ⟨h1, h2, h3⟩ => ⟨h1, h2, fun x hx hy => h3 x hx x hy rfl⟩, fun ⟨h1, h2, h3⟩ => ⟨h1, h2, fun x hx y hy e => h3 x hx (by rw [e]; exact hy)⟩⟩
theorem Dj.app {a b c : List Nat} : Dj a (b ++ c) ↔ Dj a b ∧ Dj a c := by
  unfold Dj
  exact ⟨fun h => ⟨fun x hx hy => h x hx (List.mem_append_left _ hy), fun x hx hy => h x hx (List.mem_append_right _ hy)⟩, fun ⟨h, k⟩ x hx hy => by
    rcases List.mem_append.1 hy with q | q
    · exact h x hx q
    · exact k x hx q⟩
theorem Dj.of_mem {a a' b x : List Nat} (h : Dj a b) (hx : Dj x b) (m : ∀ y ∈ a', y ∈ a ∨ y ∈ x) : Dj a' b := fun y hy hz => by
  rcases m y hy with q | q
  · exact h y q hz
  · exact hx y q hz
theorem Dj.not_row {a b : List Nat} (h : Dj a b) {g : Nat} (hg : g ∈ a) : ∀ y ∈ b, some y ≠ some g := fun y hy q => h g hg (by rw [← Option.some.inj q]; exact hy)
section
variable {α : Type} {A : Rep α} {e : TypeId} {size : Nat} {w : World} {B : Nat} {xs : List α} {fp : List Nat}
/-- What an element leads to is changed, not the element's own cells. -/
theorem Sole.inner (FA : A.Frame) {v : Value} (h : Sole (slcR e size A) B w [v] xs fp) {i : Nat} {x : α} (hi : xs[i]? = some x) :
    ∃ ci fi, A w ci x fi ∧ (∀ b ∈ fi, b ∈ fp) ∧ fi.Nodup ∧ (∃ g cap, v = .slice (some ⟨g, 0, none⟩) xs.length cap ∧ g ∈ fp ∧ g ∉ fi ∧ ∀ j z, ci[j]? = some z → w.cell? ⟨g, i * size + j, none⟩ = some z) ∧
      ∀ w' row x' fi', w.grownBy w' (some row) → row ∈ fi → A w' ci x' fi' → fi'.Nodup → (∀ b ∈ fi', (b ∈ fi ∨ b ∉ fp) ∧ B ≤ b) →
        ∃ fp', Sole (slcR e size A) B w' [v] (xs.set i x') fp' ∧ (∀ b ∈ fp', b ∈ fp ∨ b ∈ fi') := by
  obtain ⟨hR, nd, low⟩ := h
  obtain ⟨v0, c, f, ev, E, rfl⟩ := slcR_els hR
  cases ev
  have hlt : i < xs.length := (List.getElem?_eq_some_iff.1 hi).1
  have nd' := fps_nodup.1 nd
  have C : ∃ g cap, v = .slice (some ⟨g, 0, none⟩) xs.length cap ∧ g ∈ fps v xs.length f ∧ g ∉ f i ∧ ∀ j z, (c i)[j]? = some z → w.cell? ⟨g, i * size + j, none⟩ = some z := by
    rcases E.own.2 with ⟨rfl, h0⟩ | ⟨g, cap, cur, rfl, _⟩
    · omega
    · refine ⟨g, cap, rfl, mem_own rfl, nd'.2 g rfl i hlt, fun j z hz => ?_⟩
      obtain ⟨g', cap', ev, _, _, _, _, q⟩ := E.cell hlt hz
      injection ev with q1 q2 q3
      injection q1 with q1
      injection q1 with q1
      rw [q1]; exact q
  refine ⟨c i, f i, E.one i x hi, fun b hb => mem_el hlt hb, nd'.1.1 i hlt, C, fun w' row x' fi' hg hr ha nf hd => ?_⟩
  have S : Els A e size w' 0 v (xs.set i x') (upd c i (c i)) (upd f i fi') := by
    have ln : (xs.set i x').length = xs.length := List.length_set
    have uc : upd c i (c i) = c := by
      funext j
      by_cases q : j = i
      · rw [q, upd_same]
      · rw [upd_other _ _ q]
    rw [uc]
    refine ⟨?_, fun j hj => E.len j (by rw [ln] at hj; exact hj), fun j y hy => ?_⟩
    · rw [ln]
      exact ownsRow_same E.own fun g q => hg.block g (World.ownsRow.lt E.own g q).2 (fun z => nd'.2 g q i hlt (by rw [Option.some.inj z]; exact hr))
    · by_cases q : j = i
      · subst q
        rw [upd_same]
        rw [List.getElem?_set_self hlt] at hy
        rw [← Option.some.inj hy]; exact ha
      · rw [upd_other _ _ q]
        rw [List.getElem?_set_ne (fun z => q z.symm)] at hy
        have hj := (List.getElem?_eq_some_iff.1 hy).1
        exact FA.keep (E.one j y hy) fun b hb => hg.block b (FA.lt (E.one j y hy) b hb) (fun z => nd'.1.2 j i hj hlt q b hb (by rw [Option.some.inj z]; exact hr))
  have R := S.rep
  rw [List.length_set] at R
  refine ⟨_, ⟨R, fps_changed nd hlt nf (fun b hb => (hd b hb).1), fun b hb => ?_⟩, fun b hb => fps_mem_changed hb⟩
  rcases fps_mem_changed hb with q | q
  · exact low b q
  · exact (hd b q).2
end
namespace N
variable {T : Ty} {w : World} {B : Nat} {n : Nt} {fp : List Nat} {v1 v2 v3 v4 : Value}
structure Parts (T : Ty) (B : Nat) (w : World) (v1 v2 v3 v4 : Value) (n : Nt) (f1 f2 f3 f4 : List Nat) : Prop where
  nodes : Sole (nodesR T) B w [v1] n.nodes f1
  links : Sole (linksR T) B w [v2] n.links f2
  words : Sole (wordsR T) B w [v3] n.words f3
  past : Sole (pastR T) B w [v4] n.past f4
  d12 : Dj f1 f2
  d13 : Dj f1 f3
  d14 : Dj f1 f4
  d23 : Dj f2 f3
  d24 : Dj f2 f4
  d34 : Dj f3 f4
theorem sole_net : Sole (netR T) B w [v1, v2, v3, v4] n fp ↔ ∃ f1 f2 f3 f4, fp = f1 ++ (f2 ++ (f3 ++ f4)) ∧ Parts T B w v1 v2 v3 v4 n f1 f2 f3 f4 := by
  constructor
  · rintro ⟨h, nd, low⟩
    obtain ⟨_, _, _, _, f1, f2, f3, f4, e, rfl, h1, h2, h3, h4⟩ := netR_iff.1 h
    cases e
    rw [nodup_app, nodup_app, nodup_app, Dj.app, Dj.app, Dj.app] at nd
    obtain ⟨n1, ⟨n2, ⟨n3, n4, d34⟩, d23, d24⟩, d12, d13, d14⟩ := nd
    exact ⟨f1, f2, f3, f4, rfl, ⟨h1, n1, fun b hb => low b (by simp [hb])⟩, ⟨h2, n2, fun b hb => low b (by simp [hb])⟩, ⟨h3, n3, fun b hb => low b (by simp [hb])⟩, ⟨h4, n4, fun b hb => low b (by simp [hb])⟩, d12, d13, d14, d23, d24, d34⟩
  · rintro ⟨f1, f2, f3, f4, rfl, P⟩
    refine ⟨netR_iff.2 ⟨v1, v2, v3, v4, f1, f2, f3, f4, rfl, rfl, P.nodes.1, P.links.1, P.words.1, P.past.1⟩, ?_, fun b hb => ?_⟩
    · rw [nodup_app, nodup_app, nodup_app, Dj.app, Dj.app, Dj.app]
      exact ⟨P.nodes.2.1, ⟨P.links.2.1, ⟨P.words.2.1, P.past.2.1, P.d34⟩, P.d23, P.d24⟩, P.d12, P.d13, P.d14⟩
    · simp only [List.mem_append] at hb
      rcases hb with hb | hb | hb | hb
      · exact P.nodes.2.2 b hb
      · exact P.links.2.2 b hb
      · exact P.words.2.2 b hb
      · exact P.past.2.2 b hb
section
variable {f1 f2 f3 f4 : List Nat}
theorem Parts.sole (P : Parts T B w v1 v2 v3 v4 n f1 f2 f3 f4) : Sole (netR T) B w [v1, v2, v3, v4] n (f1 ++ (f2 ++ (f3 ++ f4))) := sole_net.2 ⟨f1, f2, f3, f4, rfl, P⟩
/-- A world that is grown by a block of the nodes only. -/
theorem Parts.by1 (P : Parts T B w v1 v2 v3 v4 n f1 f2 f3 f4) {w' : World} {g : Nat} (hg : w.grownBy w' (some g)) (m : g ∈ f1) {v1' : Value} {ns : List Nd} {f1' x : List Nat} (S : Sole (nodesR T) B w' [v1'] ns f1') (hm : ∀ b ∈ f1', b ∈ f1 ∨ b ∈ x) (x2 : Dj x f2) (x3 : Dj x f3) (x4 : Dj x f4) :
    Parts T B w' v1' v2 v3 v4 { n with nodes := ns } f1' f2 f3 f4 :=
  ⟨S, P.links.grown linksR_frame hg (P.d12.not_row m), P.words.grown wordsR_frame hg (P.d13.not_row m), P.past.grown pastR_frame hg (P.d14.not_row m), P.d12.of_mem x2 hm, P.d13.of_mem x3 hm, P.d14.of_mem x4 hm, P.d23, P.d24, P.d34⟩
theorem Parts.by2 (P : Parts T B w v1 v2 v3 v4 n f1 f2 f3 f4) {w' : World} {g : Nat} (hg : w.grownBy w' (some g)) (m : g ∈ f2) {v2' : Value} {ls : List Bool} {f2' : List Nat} (S : Sole (linksR T) B w' [v2'] ls f2') (hm : ∀ b ∈ f2', b ∈ f2) :
    Parts T B w' v1 v2' v3 v4 { n with links := ls } f1 f2' f3 f4 :=
  ⟨P.nodes.grown nodesR_frame hg (P.d12.symm.not_row m), S, P.words.grown wordsR_frame hg (P.d23.not_row m), P.past.grown pastR_frame hg (P.d24.not_row m), (P.d12.symm.of_mem (x := []) (fun _ h => by cases h) (fun b hb => .inl (hm b hb))).symm, P.d13, P.d14, P.d23.of_mem (x := []) (fun _ h => by cases h) (fun b hb => .inl (hm b hb)), P.d24.of_mem (x := []) (fun _ h => by cases h) (fun b hb => .inl (hm b hb)), P.d34⟩
theorem Parts.by3 (P : Parts T B w v1 v2 v3 v4 n f1 f2 f3 f4) {w' : World} {row : Option Nat} (hg : w.grownBy w' row) (m : ∀ g, row = some g → g ∈ f3) {v3' : Value} {ws : List Wd} {f3' x : List Nat} (S : Sole (wordsR T) B w' [v3'] ws f3') (hm : ∀ b ∈ f3', b ∈ f3 ∨ b ∈ x) (x1 : Dj x f1) (x2 : Dj x f2) (x4 : Dj x f4) :
    Parts T B w' v1 v2 v3' v4 { n with words := ws } f1 f2 f3' f4 := by
  have off : ∀ {f : List Nat}, Dj f3 f → ∀ y ∈ f, some y ≠ row := fun d y hy q => d y (m y q.symm) hy
  exact ⟨P.nodes.grown nodesR_frame hg (off P.d13.symm), P.links.grown linksR_frame hg (off P.d23.symm), S, P.past.grown pastR_frame hg (off P.d34), P.d12, (P.d13.symm.of_mem x1 hm).symm, P.d14, (P.d23.symm.of_mem x2 hm).symm, P.d24, P.d34.of_mem x4 hm⟩
theorem Parts.by4 (P : Parts T B w v1 v2 v3 v4 n f1 f2 f3 f4) {w' : World} {g : Nat} (hg : w.grownBy w' (some g)) (m : g ∈ f4) {v4' : Value} {ps : List (List (List Int))} {f4' x : List Nat} (S : Sole (pastR T) B w' [v4'] ps f4') (hm : ∀ b ∈ f4', b ∈ f4 ∨ b ∈ x) (x1 : Dj x f1) (x2 : Dj x f2) (x3 : Dj x f3) :
    Parts T B w' v1 v2 v3 v4' { n with past := ps } f1 f2 f3 f4' :=
  ⟨P.nodes.grown nodesR_frame hg (P.d14.symm.not_row m), P.links.grown linksR_frame hg (P.d24.symm.not_row m), P.words.grown wordsR_frame hg (P.d34.symm.not_row m), S, P.d12, P.d13, (P.d14.symm.of_mem x1 hm).symm, P.d23, (P.d24.symm.of_mem x2 hm).symm, (P.d34.symm.of_mem x3 hm).symm⟩
/-- A world that only grew. -/
theorem Parts.grown (P : Parts T B w v1 v2 v3 v4 n f1 f2 f3 f4) {w' : World} {row : Option Nat} (hg : w.grownBy w' row) (r : ∀ g, row = some g → g ∉ f1 ∧ g ∉ f2 ∧ g ∉ f3 ∧ g ∉ f4) : Parts T B w' v1 v2 v3 v4 n f1 f2 f3 f4 :=
  ⟨P.nodes.grown nodesR_frame hg (fun b hb q => (r b q.symm).1 hb), P.links.grown linksR_frame hg (fun b hb q => (r b q.symm).2.1 hb), P.words.grown wordsR_frame hg (fun b hb q => (r b q.symm).2.2.1 hb), P.past.grown pastR_frame hg (fun b hb q => (r b q.symm).2.2.2 hb), P.d12, P.d13, P.d14, P.d23, P.d24, P.d34⟩
end
end N
end Go.Proofs.Ytnpogmhfdjmfdaa

/-
  What stands where in a net: element i of each of its parts, cell by cell.
-/
namespace Go.Proofs.Ytnpogmhfdjmfdaa
open Go.RowKit Go.Sort

section
variable {α : Type} {A : Rep α} {e : TypeId} {size : Nat} {w : World} {xs : List α} {fp : List Nat} {v : Value}
theorem slcR_at (h : slcR e size A w [v] xs fp) {i : Nat} {x : α} (hi : xs[i]? = some x) : ∃ g cap ci fi, v = .slice (some ⟨g, 0, none⟩) xs.length cap ∧ g < w.heap.size ∧ xs.length ≤ cap ∧ cap ≤ maxLen ∧ A w ci x fi ∧ (∀ b ∈ fi, b ∈ fp) ∧ ci.length = size ∧ ∀ j z, ci[j]? = some z → w.cell? ⟨g, i * size + j, none⟩ = some z := by
  obtain ⟨v0, c, f, ev, E, rfl⟩ := slcR_els h
  cases ev
  have hlt : i < xs.length := (List.getElem?_eq_some_iff.1 hi).1
  rcases E.own.2 with ⟨rfl, h0⟩ | ⟨g, cap, cur, rfl, hb, hg, hn, hc, hs, ht⟩
  · omega
  · refine ⟨g, cap, c i, f i, rfl, (Array.getElem?_eq_some_iff.1 hg).1, hn, hc, E.one i x hi, fun b hb => mem_el hlt hb, E.len i hlt, fun j z hz => ?_⟩
    obtain ⟨g', cap', ev, _, _, _, _, q⟩ := E.cell hlt hz
    injection ev with q1 q2 q3
    injection q1 with q1
    injection q1 with q1
    rw [q1]; exact q
/-- So it is in a slice's form. -/
theorem slcR_row {x : Option Addr} {k c : Nat} (h : slcR e size A w [.slice x k c] xs fp) : k = xs.length ∧ ∀ {i : Nat} {a : α}, xs[i]? = some a → ∃ g ci fi, x = some ⟨g, 0, none⟩ ∧ g < w.heap.size ∧ A w ci a fi ∧ (∀ b ∈ fi, b ∈ fp) ∧ ci.length = size ∧ ∀ j z, ci[j]? = some z → w.cell? ⟨g, i * size + j, none⟩ = some z := by
  refine ⟨?_, fun {i a} hi => ?_⟩
  · obtain ⟨x', c', q, _⟩ := slcR_value h
    injection q
  · obtain ⟨g, cap, ci, fi, q, h1, _, _, h2, h3, h4, h5⟩ := slcR_at h hi
    injection q with q1 q2 q3
    exact ⟨g, ci, fi, q1, h1, h2, h3, h4, h5⟩
end
namespace N
variable {T : Ty} {w : World} {fp : List Nat} {x : Option Addr} {k c : Nat}
theorem known_at {es : List En} (h : knownR T w [.slice x k c] es fp) {i : Nat} {e : En} (hi : es[i]? = some e) : ∃ (g : Nat) (V : SV) (fe : List Nat), x = some ⟨g, 0, none⟩ ∧ g < w.heap.size ∧ (∀ b ∈ fe, b ∈ fp) ∧ sumR w [.slice V.xr V.nr V.cr, .slice V.xf V.nf V.cf, .slice V.xt V.nt V.ct, .int .i64 (e.s).lo, .int .i64 (e.s).al, .slice V.xk V.nk V.ck, .int .i64 (e.s).ka] e.s fe ∧
    w.cell? ⟨g, i * 10, none⟩ = some (.int .i64 e.node) ∧ w.cell? ⟨g, i * 10 + 1, none⟩ = some (.int .i64 e.born) ∧ w.cell? ⟨g, i * 10 + 2, none⟩ = some (.int .i64 e.num) ∧
    ∀ j z, ([.slice V.xr V.nr V.cr, .slice V.xf V.nf V.cf, .slice V.xt V.nt V.ct, .int .i64 (e.s).lo, .int .i64 (e.s).al, .slice V.xk V.nk V.ck, .int .i64 (e.s).ka] : List Value)[j]? = some z → w.cell? ⟨g, i * 10 + (3 + j), none⟩ = some z := by
  obtain ⟨_, at_⟩ := slcR_row h
  obtain ⟨g, ci, fi, q, h1, h2, h3, h4, h5⟩ := at_ hi
  obtain ⟨cs, rfl, hs⟩ := entryR_iff.1 h2
  obtain ⟨V, f1, f2, f3, f4, rfl, r⟩ := hs
  refine ⟨g, V, fi, q, h1, h3, ⟨V, f1, f2, f3, f4, rfl, r⟩, h5 0 _ rfl, h5 1 _ rfl, h5 2 _ rfl, fun j z hz => h5 (3 + j) z ?_⟩
  rw [Nat.add_comm]
  exact hz
theorem node_at {ns : List Nd} (h : nodesR T w [.slice x k c] ns fp) {i : Nat} {a : Nd} (hi : ns[i]? = some a) : ∃ g xk ck fk, x = some ⟨g, 0, none⟩ ∧ g < w.heap.size ∧ (∀ b ∈ fk, b ∈ fp) ∧ knownR T w [.slice xk a.known.length ck] a.known fk ∧ a.known.length ≤ ck ∧ ck ≤ maxLen ∧
    w.cell? ⟨g, i * 5, none⟩ = some (.int .i64 a.born) ∧ w.cell? ⟨g, i * 5 + 1, none⟩ = some (.slice xk a.known.length ck) ∧ w.cell? ⟨g, i * 5 + 2, none⟩ = some (.int .i64 a.beacon) ∧ w.cell? ⟨g, i * 5 + 3, none⟩ = some (.int .i64 a.level) ∧ w.cell? ⟨g, i * 5 + 4, none⟩ = some (.int .i64 a.up) := by
  obtain ⟨_, at_⟩ := slcR_row h
  obtain ⟨g, ci, fi, q, h1, h2, h3, h4, h5⟩ := at_ hi
  obtain ⟨kn, rfl, hk⟩ := nodeR_iff.1 h2
  obtain ⟨xk, ck, rfl, l1, l2⟩ := slcR_value hk
  exact ⟨g, xk, ck, fi, q, h1, h3, hk, l1, l2, h5 0 _ rfl, h5 1 _ rfl, h5 2 _ rfl, h5 3 _ rfl, h5 4 _ rfl⟩
theorem wordR_at {ws : List Wd} (h : wordsR T w [.slice x k c] ws fp) {i : Nat} {a : Wd} (hi : ws[i]? = some a) : ∃ g xk ck fk, x = some ⟨g, 0, none⟩ ∧ g < w.heap.size ∧ (∀ b ∈ fk, b ∈ fp) ∧ knownR T w [.slice xk a.known.length ck] a.known fk ∧ a.known.length ≤ ck ∧ ck ≤ maxLen ∧
    w.cell? ⟨g, i * 6, none⟩ = some (.int .i64 a.kind) ∧ w.cell? ⟨g, i * 6 + 1, none⟩ = some (.int .i64 a.src) ∧ w.cell? ⟨g, i * 6 + 2, none⟩ = some (.int .i64 a.dst) ∧ w.cell? ⟨g, i * 6 + 3, none⟩ = some (.int .i64 a.beacon) ∧ w.cell? ⟨g, i * 6 + 4, none⟩ = some (.int .i64 a.level) ∧ w.cell? ⟨g, i * 6 + 5, none⟩ = some (.slice xk a.known.length ck) := by
  obtain ⟨_, at_⟩ := slcR_row h
  obtain ⟨g, ci, fi, q, h1, h2, h3, h4, h5⟩ := at_ hi
  obtain ⟨kn, rfl, hk⟩ := wordR_iff.1 h2
  obtain ⟨xk, ck, rfl, l1, l2⟩ := slcR_value hk
  exact ⟨g, xk, ck, fi, q, h1, h3, hk, l1, l2, h5 0 _ rfl, h5 1 _ rfl, h5 2 _ rfl, h5 3 _ rfl, h5 4 _ rfl, h5 5 _ rfl⟩
theorem link_at {ls : List Bool} (h : linksR T w [.slice x k c] ls fp) {i : Nat} {b : Bool} (hi : ls[i]? = some b) : ∃ g, x = some ⟨g, 0, none⟩ ∧ g < w.heap.size ∧ w.cell? ⟨g, i, none⟩ = some (.bool b) := by
  obtain ⟨_, at_⟩ := slcR_row h
  obtain ⟨g, ci, fi, q, h1, h2, h3, h4, h5⟩ := at_ hi
  refine ⟨g, q, h1, ?_⟩
  have r := h5 0 (.bool b) (by rw [h2.1]; rfl)
  rwa [Nat.mul_one, Nat.add_zero] at r
theorem past_at {ps : List (List (List Int))} (h : pastR T w [.slice x k c] ps fp) {i : Nat} {rs : List (List Int)} (hi : ps[i]? = some rs) : ∃ g xr cr fr, x = some ⟨g, 0, none⟩ ∧ g < w.heap.size ∧ (∀ b ∈ fr, b ∈ fp) ∧ rowsR w [.slice xr rs.length cr] rs fr ∧ rs.length ≤ cr ∧ cr ≤ maxLen ∧ w.cell? ⟨g, i, none⟩ = some (.slice xr rs.length cr) := by
  obtain ⟨_, at_⟩ := slcR_row h
  obtain ⟨g, ci, fi, q, h1, h2, h3, h4, h5⟩ := at_ hi
  obtain ⟨vr, rfl⟩ : ∃ vr, ci = [vr] := by
    obtain ⟨vr, a, b, e, _⟩ := h2
    exact ⟨vr, e⟩
  obtain ⟨xr, cr, rfl, l1, l2⟩ := slcR_value h2
  have r := h5 0 _ rfl
  rw [Nat.mul_one, Nat.add_zero] at r
  exact ⟨g, xr, cr, fi, q, h1, h3, h2, l1, l2, r⟩
theorem row_at {rs : List (List Int)} (h : rowsR w [.slice x k c] rs fp) {i : Nat} {l : List Int} (hi : rs[i]? = some l) : ∃ g xr cr fr, x = some ⟨g, 0, none⟩ ∧ g < w.heap.size ∧ (∀ b ∈ fr, b ∈ fp) ∧ intsR w [.slice xr l.length cr] l fr ∧ l.length ≤ cr ∧ cr ≤ maxLen ∧ w.cell? ⟨g, i, none⟩ = some (.slice xr l.length cr) := by
  obtain ⟨_, at_⟩ := slcR_row h
  obtain ⟨g, ci, fi, q, h1, h2, h3, h4, h5⟩ := at_ hi
  obtain ⟨vr, rfl⟩ : ∃ vr, ci = [vr] := by
    obtain ⟨vr, a, b, e, _⟩ := h2
    exact ⟨vr, e⟩
  obtain ⟨xr, cr, rfl, l1, l2⟩ := slcR_value h2
  have r := h5 0 _ rfl
  rw [Nat.mul_one, Nat.add_zero] at r
  exact ⟨g, xr, cr, fi, q, h1, h3, h2, l1, l2, r⟩
end N
end Go.Proofs.Ytnpogmhfdjmfdaa
