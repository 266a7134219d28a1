/-
  What the laws of XS need of the texts before it, part 8.
-/
import Derived.ArgAppend
import Derived.Below
import Derived.BigQuiet
import Derived.Carry
import Derived.ChangeAt
import Derived.ChangeOld
import Derived.ChangeSame
import Derived.Deep.AppendLies
import Derived.Deep.Cut
import Derived.Deep.DeepCutAuto
import Derived.Deep.DrawnRows
import Derived.Deep.Fields
import Derived.Deep.Matrix
import Derived.Deep.MidRow
import Derived.Deep.OwnRows
import Derived.Deep.QuietTactic
import Derived.Deep.RegionHeld3
import Derived.Deep.RegionLaw
import Derived.Deep.RegionLawGrows
import Derived.Deep.RegionWith
import Derived.Deep.Slices
import Derived.Deep.WholeRow
import Derived.DeepKeys5
import Derived.IntWalk
import Derived.KernelRfl
import Derived.Laws.AppendOwnNone
import Derived.Laws.EntriesVeiled
import Derived.Laws.ResultCell
import Derived.Lib.AppendZerosOnto
import Derived.Lib.Hide
import Derived.Lib.QuietBelow
import Derived.Lib.SliceRun
import Derived.Lib.SmallJoins
import Derived.Lib.Walk
import Derived.LoopIn
import Derived.LoopNIn
import Derived.Maps.AppendAt
import Derived.Maps.Keyed
import Derived.OneCell
import Derived.OpenShut
import Derived.OrdersHeld
import Derived.OwnWalkIn
import Derived.RangeFuncBound
import Derived.RangeFuncBox
import Derived.RangeFuncCalls
import Derived.RangeFuncLeaves
import Derived.RangeFuncNested
import Derived.RegionTactic
import Derived.Shelf.Abstract
import Derived.Shelf.RegionOpen
import Derived.Shelf.SlSortCmp.InsertionK
import Derived.StillTail
import Derived.TacticsInMore
import Derived.Test.YtcblbdpdbggkbaaGreatRows
import Derived.WalkKit
import Derived.WalkLawsBesides
import Derived.WalkSpells
import Derived.Test.YtcblbdpdbggkbaaGreatSXS6
import Derived.Test.YtcblbdpdbggkbaaGreatSXS7
set_option maxRecDepth 100000
set_option maxHeartbeats 16000000
set_option linter.unusedVariables false
set_option linter.unusedSectionVars false
set_option linter.unusedSimpArgs false
namespace Go.Proofs.YtcblbdpdbggkbaaGreat
open _root_.Go.Proofs.Tryz
theorem zz {P:Prop} (h:P:=by
 replace X:=X.later hb;replace B:=hd_ (B.out.trans (hb.mono B.out.size));clear hb;go_wp2;go_ret;exact⟨by first|rfl|exact congrArg (fun z=>Ending.returned (Value.int .i64 z)) (if_pos (show left<((n1+n2+n3+n4:Nat):Int) by omega)).symm,B.out⟩):P:=h
theorem zAW {P:Prop} (h:P:=by
 exact⟨_,rfl,.inr ⟨b,o,0,rfl,Nat.le_refl _,Nat.zero_le _,hb,fun i hi=>absurd hi (Nat.not_lt_zero i)⟩,fun q=>absurd rfl q⟩):P:=h
theorem zA2 {P:Prop} (h:P:=by
 rcases h with ⟨e,rfl⟩|⟨b,o,cap,e,_⟩
 ·simp at e;simp[e]
 ·simp at e;omega):P:=h
theorem zBv {P:Prop} (h:P:=by
 clear h;go_enter func136,ntmps136
 go_wp2_with fail
 refine K.out.mono ?_;rintro e w1 ⟨rfl,q,rfl⟩;go_wp2;go_ret;exact⟨rfl,below_drewN HA.out _⟩):P:=h
theorem zB8 {P:Prop} (h:P:=by
 obtain⟨i,hi,rfl⟩:=List.mem_map.1 hb;exact o.off i (List.mem_range.1 hi) (by rw[bR ha,e])):P:=h
theorem zB9 {P:Prop} (h:P:=by
 have r:=h5 0 _ rfl;rw[Nat.mul_one,Nat.add_zero]at r;exact⟨g,xr,cr,fi,q,h1,h3,h2,l1,l2,r⟩):P:=h
end Go.Proofs.YtcblbdpdbggkbaaGreat
namespace Go.Proofs.YtcblbdpdbggkbaaGreat
open _root_.Go.Proofs.Tryz
open Go.RowKit Go.Sort
def aI (W:World) (b:Nat) (t:TypeId) (x0 x1 x2 x3 x4 x5 x6:Value):Prop:=W.heap[b]? =some (.cells #[x0,x1,x2,x3,x4,x5,x6] t (0,0))
section
variable {W W':World} {b:Nat} {t:TypeId} {x0 x1 x2 x3 x4 x5 x6:Value}
theorem aI.lt (h:aI W b t x0 x1 x2 x3 x4 x5 x6):b<W.heap.size:=(Array.getElem?_eq_some_iff.1 h).1
theorem aI.new (W:World) (t:TypeId) (x0 x1 x2 x3 x4 x5 x6:Value):aI (W.alloc (.cells #[x0,x1,x2,x3,x4,x5,x6] t)) W.heap.size t x0 x1 x2 x3 x4 x5 x6:=heap_alloc_new W _
theorem aI.below (h:aI W b t x0 x1 x2 x3 x4 x5 x6) {B:Nat} (hb:Below B W W') (hB:b<B):aI W' b t x0 x1 x2 x3 x4 x5 x6:=(hb.block b hB).trans h
theorem aI.later (h:aI W b t x0 x1 x2 x3 x4 x5 x6) (hb:Below W.heap.size W W'):aI W' b t x0 x1 x2 x3 x4 x5 x6:=h.below hb h.lt
theorem aI.drew (h:aI W b t x0 x1 x2 x3 x4 x5 x6):aI W.drew b t x0 x1 x2 x3 x4 x5 x6:=h
theorem aI.alloc (h:aI W b t x0 x1 x2 x3 x4 x5 x6) (o:Obj):aI (W.alloc o) b t x0 x1 x2 x3 x4 x5 x6:=h.later ((Below.refl _ _).alloc lr_ o)
theorem aI.kept {row:Option Nat} (h:aI W b t x0 x1 x2 x3 x4 x5 x6) (hg:W.grownBy W' row) (hr:row≠some b):aI W' b t x0 x1 x2 x3 x4 x5 x6:=(hg.block b h.lt (fun e=>hr e.symm)).trans h
theorem aI.cell0 (h:aI W b t x0 x1 x2 x3 x4 x5 x6):W.cell? ⟨b,0,none⟩=some x0:=by unfold aI at h;simp[World.cell?,h]
theorem aI.cell1 (h:aI W b t x0 x1 x2 x3 x4 x5 x6):W.cell? ⟨b,1,none⟩=some x1:=by unfold aI at h;simp[World.cell?,h]
theorem aI.cell2 (h:aI W b t x0 x1 x2 x3 x4 x5 x6):W.cell? ⟨b,2,none⟩=some x2:=by unfold aI at h;simp[World.cell?,h]
theorem aI.cell3 (h:aI W b t x0 x1 x2 x3 x4 x5 x6):W.cell? ⟨b,3,none⟩=some x3:=by unfold aI at h;simp[World.cell?,h]
theorem aI.cell4 (h:aI W b t x0 x1 x2 x3 x4 x5 x6):W.cell? ⟨b,4,none⟩=some x4:=by unfold aI at h;simp[World.cell?,h]
theorem aI.cell5 (h:aI W b t x0 x1 x2 x3 x4 x5 x6):W.cell? ⟨b,5,none⟩=some x5:=by unfold aI at h;simp[World.cell?,h]
theorem aI.cell6 (h:aI W b t x0 x1 x2 x3 x4 x5 x6):W.cell? ⟨b,6,none⟩=some x6:=by unfold aI at h;simp[World.cell?,h]
theorem aI.cells (h:aI W b t x0 x1 x2 x3 x4 x5 x6):W.cell? ⟨b,0,none⟩=some x0/\W.cell? ⟨b,1,none⟩=some x1/\W.cell? ⟨b,2,none⟩=some x2/\W.cell? ⟨b,3,none⟩=some x3/\W.cell? ⟨b,4,none⟩=some x4/\W.cell? ⟨b,5,none⟩=some x5/\W.cell? ⟨b,6,none⟩=some x6:=
 ⟨h.cell0,h.cell1,h.cell2,h.cell3,h.cell4,h.cell5,h.cell6⟩
theorem aI.free (h:aI W b t x0 x1 x2 x3 x4 x5 x6) (i:Nat):W.frozen? ⟨b,i,none⟩=false:=by unfold aI at h;simp[World.frozen?,h]
theorem aI.set0 (h:aI W b t x0 x1 x2 x3 x4 x5 x6) (u:Value):aI (W.setCell ⟨b,0,none⟩ u) b t u x1 x2 x3 x4 x5 x6:=by unfold aI at h ⊢;rw[heap_setCell_same W b 0 _ _ _ h];rfl
theorem aI.set1 (h:aI W b t x0 x1 x2 x3 x4 x5 x6) (u:Value):aI (W.setCell ⟨b,1,none⟩ u) b t x0 u x2 x3 x4 x5 x6:=by unfold aI at h ⊢;rw[heap_setCell_same W b 1 _ _ _ h];rfl
theorem aI.set2 (h:aI W b t x0 x1 x2 x3 x4 x5 x6) (u:Value):aI (W.setCell ⟨b,2,none⟩ u) b t x0 x1 u x3 x4 x5 x6:=by unfold aI at h ⊢;rw[heap_setCell_same W b 2 _ _ _ h];rfl
theorem aI.set3 (h:aI W b t x0 x1 x2 x3 x4 x5 x6) (u:Value):aI (W.setCell ⟨b,3,none⟩ u) b t x0 x1 x2 u x4 x5 x6:=by unfold aI at h ⊢;rw[heap_setCell_same W b 3 _ _ _ h];rfl
theorem aI.set4 (h:aI W b t x0 x1 x2 x3 x4 x5 x6) (u:Value):aI (W.setCell ⟨b,4,none⟩ u) b t x0 x1 x2 x3 u x5 x6:=by unfold aI at h ⊢;rw[heap_setCell_same W b 4 _ _ _ h];rfl
theorem aI.set5 (h:aI W b t x0 x1 x2 x3 x4 x5 x6) (u:Value):aI (W.setCell ⟨b,5,none⟩ u) b t x0 x1 x2 x3 x4 u x6:=by unfold aI at h ⊢;rw[heap_setCell_same W b 5 _ _ _ h];rfl
theorem aI.set6 (h:aI W b t x0 x1 x2 x3 x4 x5 x6) (u:Value):aI (W.setCell ⟨b,6,none⟩ u) b t x0 x1 x2 x3 x4 x5 u:=by unfold aI at h ⊢;rw[heap_setCell_same W b 6 _ _ _ h];rfl
theorem aI.not_row {B:Nat} {e:TypeId} {size n:Nat} {v:Value} {xs:List Value} (h:aI W b t x0 x1 x2 x3 x4 x5 x6) (ht:t≠e) (ho:W.ownsRow B e size v n xs):v.ownBlock≠some b:=fun hb=>by
 rcases ho.2 with ⟨rfl,_⟩|⟨g,cap,cur,rfl,_,hg,_⟩
 ·cases hb
 ·obtain rfl:g=b:=by simpa[Value.ownBlock]using hb
  unfold aI at h;rw[hg]at h;cases h;exact ht rfl
end
def set7 (W:World) (b:Nat) (x0 x1 x2 x3 x4 x5 x6:Value):World:=
 ((((((W.setCell ⟨b,0,none⟩ x0).setCell ⟨b,1,none⟩ x1).setCell ⟨b,2,none⟩ x2).setCell ⟨b,3,none⟩ x3).setCell ⟨b,4,none⟩ x4).setCell ⟨b,5,none⟩ x5).setCell ⟨b,6,none⟩ x6
theorem dU (W:World) (b:Nat) (x0 x1 x2 x3 x4 x5 x6:Value):W.grownBy (set7 W b x0 x1 x2 x3 x4 x5 x6) (some b):=
 aL (aL (aL (aL (aL (aL (aA W ⟨b,0,none⟩ x0) (aA _ ⟨b,1,none⟩ x1)) (aA _ ⟨b,2,none⟩ x2)) (aA _ ⟨b,3,none⟩ x3)) (aA _ ⟨b,4,none⟩ x4)) (aA _ ⟨b,5,none⟩ x5)) (aA _ ⟨b,6,none⟩ x6)
theorem aI.set {W:World} {b:Nat} {t:TypeId} {x0 x1 x2 x3 x4 x5 x6:Value} (h:aI W b t x0 x1 x2 x3 x4 x5 x6) (y0 y1 y2 y3 y4 y5 y6:Value):aI (set7 W b y0 y1 y2 y3 y4 y5 y6) b t y0 y1 y2 y3 y4 y5 y6:=
 ((((((h.set0 y0).set1 y1).set2 y2).set3 y3).set4 y4).set5 y5).set6 y6
theorem aR {B b:Nat} {w W:World} (h:Below B w W) (hb:B<=b) (x0 x1 x2 x3 x4 x5 x6:Value):Below B w (set7 W b x0 x1 x2 x3 x4 x5 x6):=((((((h.setCell hb _).setCell hb _).setCell hb _).setCell hb _).setCell hb _).setCell hb _).setCell hb _
theorem bS (W:World) (b:Nat) (x0 x1 x2 x3 x4 x5 x6:Value):(set7 W b x0 x1 x2 x3 x4 x5 x6).heap.size=W.heap.size:=by unfold set7;simp
structure SV where
 xr:Option Addr
 nr:Nat
 cr:Nat
 xf:Option Addr
 nf:Nat
 cf:Nat
 xt:Option Addr
 nt:Nat
 ct:Nat
 xk:Option Addr
 nk:Nat
 ck:Nat
inductive S7_ where
 |mk (V:SV) (s:Sm)
inductive C7_ where
 |mk (V:SV) (s:Sm)
def vS (V:SV) (s:Sm):S7_:=.mk V s
def cS (V:SV) (s:Sm):C7_:=.mk V s
instance (V:SV) (s:Sm):CoeDep S7_ (vS V s) Value:=⟨.agg #[.slice V.xr V.nr V.cr,.slice V.xf V.nf V.cf,.slice V.xt V.nt V.ct,iv s.lo,iv s.al,.slice V.xk V.nk V.ck,iv s.ka]⟩
instance (V:SV) (s:Sm):CoeDep C7_ (cS V s) (Array Value):=⟨#[.slice V.xr V.nr V.cr,.slice V.xf V.nf V.cf,.slice V.xt V.nt V.ct,iv s.lo,iv s.al,.slice V.xk V.nk V.ck,iv s.ka]⟩
instance (V:SV) (s:Sm):CoeDep C7_ (cS V s) (List Value):=⟨[.slice V.xr V.nr V.cr,.slice V.xf V.nf V.cf,.slice V.xt V.nt V.ct,iv s.lo,iv s.al,.slice V.xk V.nk V.ck,iv s.ka]⟩
def SV.none:SV:=⟨.none,0,0,.none,0,0,.none,0,0,.none,0,0⟩
def SV.r (V:SV):Value:=.slice V.xr V.nr V.cr
def SV.f (V:SV):Value:=.slice V.xf V.nf V.cf
def SV.t (V:SV):Value:=.slice V.xt V.nt V.ct
def SV.k (V:SV):Value:=.slice V.xk V.nk V.ck
def aLY (W:World) (b:Nat) (V:SV) (s:Sm):Prop:=aI W b 46 V.r V.f V.t (iv s.lo) (iv s.al) V.k (iv s.ka)
theorem aLY.box {W:World} {b:Nat} {V:SV} {s:Sm} (h:aLY W b V s):aI W b 46 (.slice V.xr V.nr V.cr) (.slice V.xf V.nf V.cf) (.slice V.xt V.nt V.ct) (iv s.lo) (iv s.al) (.slice V.xk V.nk V.ck) (iv s.ka):=h
theorem cW.len {w:World} {x:Option Addr} {n c:Nat} {zs:List Int} (h:cW w (.slice x n c) zs):n=zs.length:=by
 exact zA2
theorem Rws.len {w:World} {x:Option Addr} {n c:Nat} {zs:List (List Int)} (h:Rws w (.slice x n c) zs):n=zs.length:=by
 exact zA2
theorem T.Prs.len {w:World} {x:Option Addr} {n c:Nat} {zs:List T.Pr} (h:T.Prs w (.slice x n c) zs):n=zs.length:=by
 exact zA2
theorem K.Prs.len {w:World} {x:Option Addr} {n c:Nat} {zs:List K.Pr} (h:K.Prs w (.slice x n c) zs):n=zs.length:=by
 exact zA2
structure RdS (w:World) (V:SV) (s:Sm):Prop where
 r:Rws w V.r s.rs
 f:cW w V.f s.zs
 t:T.Prs w V.t s.ps
 k:K.Prs w V.k s.ks
theorem RdS.below {w w':World} {V:SV} {s:Sm} (h:RdS w V s) {B:Nat} (hb:Below B w w') (hB:w.heap.size<=B):RdS w' V s:=⟨h.r.below hb hB,h.f.below hb hB,h.t.below hb hB,h.k.below hb hB⟩
theorem RdS.lens {w:World} {V:SV} {s:Sm} (h:RdS w V s):V.nr=s.rs.length/\V.nf=s.zs.length/\V.nt=s.ps.length/\V.nk=s.ks.length:=⟨Rws.len h.r,cW.len h.f,T.Prs.len h.t,K.Prs.len h.k⟩
theorem RdS.later {w w':World} {V:SV} {s:Sm} (h:RdS w V s) (hb:Below w.heap.size w w'):RdS w' V s:=h.below hb lr_
theorem RdS.alloc {w:World} {V:SV} {s:Sm} (h:RdS w V s) (o:Obj):RdS (w.alloc o) V s:=h.later ((Below.refl _ _).alloc lr_ o)
theorem RdS.drew {w:World} {V:SV} {s:Sm} (h:RdS w V s):RdS w.drew V s:=h.later (Below.drew (Below.refl _ _))
structure aV (w:World) (B U:Nat) (V:SV) (s:Sm):Prop where
 mid:∃M,B<=M/\M<=U/\dX w B M V.r s.rs/\aZ w M V.f s.zs
 t:T.aF w B V.t s.ps
 k:K.aF w B V.k s.ks
 ft:∀g,V.f.ownBlock=some g->g<U
 tt:∀g,V.t.ownBlock=some g->g<U
 kt:∀g,V.k.ownBlock=some g->g<U
 top:U<=w.heap.size
theorem aV.rd {w:World} {B U:Nat} {V:SV} {s:Sm} (h:aV w B U V s):RdS w V s:=by
 obtain⟨M,_,_,hr,hf⟩:=h.mid;exact⟨hr.rd,hf.rd,h.t.rd,h.k.rd⟩
theorem aV.below {w w':World} {B U:Nat} {V:SV} {s:Sm} (h:aV w B U V s) (hb:Below w.heap.size w w'):aV w' B U V s:=by
 obtain⟨M,h1,h2,hr,hf⟩:=h.mid;exact⟨⟨M,h1,h2,hr.below hb,hf.below hb⟩,h.t.below hb,h.k.below hb,h.ft,h.tt,h.kt,Nat.le_trans h.top hb.size⟩
theorem aV.alloc {w:World} {B U:Nat} {V:SV} {s:Sm} (h:aV w B U V s) (o:Obj):aV (w.alloc o) B U V s:=h.below ((Below.refl _ _).alloc lr_ o)
theorem dX.base {w:World} {B B' U:Nat} {v:Value} {rs:List (List Int)} (h:dX w B U v rs) (hB:B'<=B):dX w B' U v rs:=by
 obtain⟨G,C,h,h1,h2,h3⟩:=h;exact⟨G,C,⟨aM h.hdr hB,fun i hi=>aM (h.row i hi) hB,h.off,h.apart⟩,h1,h2,h3⟩
theorem dX.upto {w:World} {B U U':Nat} {v:Value} {rs:List (List Int)} (h:dX w B U v rs) (hU:U<=U') (hU':U'<=w.heap.size):dX w B U' v rs:=by
 obtain⟨G,C,h,h1,h2,h3⟩:=h;exact⟨G,C,h,fun k e=>Nat.lt_of_lt_of_le (h1 k e) hU,fun i hi=>Nat.lt_of_lt_of_le (h2 i hi) hU,hU'⟩
theorem aV.base {w:World} {B B' U U':Nat} {V:SV} {s:Sm} (h:aV w B U V s) (hB:B'<=B) (hT:U<=U') (hU':U'<=w.heap.size):aV w B' U' V s:=by
 obtain⟨M,h1,h2,hr,hf⟩:=h.mid;exact⟨⟨M,o_,o_,hr.base hB,hf⟩,aM h.t hB,aM h.k hB,fun g e=>by have:=h.ft g e;omega,fun g e=>by have:=h.tt g e;omega,fun g e=>by have:=h.kt g e;omega,hU'⟩
theorem aV.none (w:World) (B U:Nat) (hB:B<=U) (hT:U<=w.heap.size):aV w B U SV.none eC:=
 ⟨⟨U,hB,Nat.le_refl _,dX.nil _ _ _ hT,World.ownsRow_nil _ _ _ _⟩,World.ownsRow_nil _ _ _ _,World.ownsRow_nil _ _ _ _,fun _ e=>(by cases e),fun _ e=>(by cases e),fun _ e=>(by cases e),hT⟩
structure xZ (s:Sm):Prop where
 r:s.rs.length<=3/\∀i,i<s.rs.length->(s.rs.getD i []).length<=8
 f:s.zs.length<=6
 t:s.ps.length<=4
 k:s.ks.length<=127
theorem K.rank_len {ps:List K.Pr} {all:Int} (h:K.cL ps all=true):ps.length<=127:=by
 have P:=(K.dN _ _).1 h
 by_cases h0:ps.length=0
 ·omega
 ·have a:=K.aJv P.2.1 (ps.length - 1) o_
  have b:=(P.2.1 (ps.length - 1) o_).1.1.2;omega
theorem Ok.small {s:Sm} (h:Ok s):xZ s:=by
 obtain⟨l3,g⟩:=(dT _).1 h.r;exact⟨⟨Nat.le_of_eq l3,fun i hi=>Nat.le_of_eq (g i o_).1⟩,((vJ _).1 h.f).1,((T.cG _ _ _).1 h.t).1.1,K.rank_len h.k⟩
theorem aKP:xZ eC:=⟨⟨by decide,fun i hi=>absurd hi (Nat.not_lt_zero i)⟩,by decide,by decide,by decide⟩
theorem vM {s:Sm} (h:okS s=true\/s=eC):xZ s:=by
 rcases h with h|rfl
 ·exact ((bM _).1 h).small
 ·exact aKP
theorem aJV (l:List Int):xZ (upS l):=by
 cases h:okS (upS l)with
 |true=>exact vM (.inl h)
 |false=>exact vM (.inr (aNg h))
theorem tT {w:World} {B B':Nat} {e e':TypeId} {z z' n n':Nat} {u v:Value} {xs ys:List Value} (h:w.ownsRow B e z u n xs) (h':w.ownsRow B' e' z' v n' ys) (he:e≠e'):u.ownBlock=none\/u.ownBlock≠v.ownBlock:=by
 rcases h.2 with ⟨rfl,_⟩|⟨g,cap,cur,rfl,_,hg,_⟩
 ·exact .inl rfl
 ·refine .inr fun q=>?_
  rcases h'.2 with ⟨rfl,_⟩|⟨g',cap',cur',rfl,_,hg',_⟩
  ·cases q
  ·have q':g=g':=by simpa[Value.ownBlock]using q
   subst q';rw[hg]at hg';simp at hg';exact he hg'.2
end Go.Proofs.YtcblbdpdbggkbaaGreat
namespace Go.Proofs.YtcblbdpdbggkbaaGreat.N
open _root_.Go.Proofs.Tryz
open Go.RowKit Go.Sort
structure En where
 node:Int
 born:Int
 num:Int
 s:Sm
structure Nd where
 born:Int
 known:List En
 beacon:Int
 level:Int
 up:Int
structure Wd where
 kind:Int
 src:Int
 dst:Int
 beacon:Int
 level:Int
 known:List En
structure Nt where
 nodes:List Nd
 links:List Bool
 words:List Wd
 past:List (List (List Int))
def in6 (x a b:Int):Bool:=decide (a<=x/\x<=b)
def aG3:Nd:=⟨0,[],0,0,0⟩
def aD (n:Nt) (i:Int):Nd:=n.nodes.getD i.toNat aG3
def dF (n:Nt) (i:Int):List (List Int):=n.past.getD i.toNat []
def bZ (n:Nt) (i b:Int):List Int:=(dF n i).getD b.toNat []
def fD (n:Nt) (a b:Int):Bool:=n.links.getD (a * 5+b).toNat false
def bA (i:Int):Prop:=0<=i/\i<=4
structure aBS (n:Nt) (e:En):Prop where
 node:bA e.node
 born:1<=e.born/\e.born<=(aD n e.node).born
 num:0<=e.num/\e.num<=(bZ n e.node e.born).length
 ok:okS (upS ((bZ n e.node e.born).take e.num.toNat))=true
 s:e.s=upS ((bZ n e.node e.born).take e.num.toNat)
def wH (x y:En):Prop:=x.node<y.node
structure qK (n:Nt) (es:List En):Prop where
 all:∀e ∈ es,aBS n e
 asc:es.Pairwise wH
def mA (es:List En) (i:Int):Option En:=es.find? fun e=>e.node==i
structure aFQ (n:Nt) (i:Int):Prop where
 len:((dF n i).length:Int)=(aD n i).born+1
 none:bZ n i 0=[]
 few:∀l ∈ dF n i,l.length<=100
 things:∀l ∈ dF n i,∀t ∈ l,0<=t/\t<=63
def aJ7 (n:Nt) (i:Int):Prop:=∃e,mA (aD n i).known i=some e/\e.born=(aD n i).born/\e.num=(bZ n i (aD n i).born).length
structure aMk (n:Nt) (i:Int):Prop where
 beacon:0<=(aD n i).beacon/\(aD n i).beacon<=(aD n 0).beacon
 root:i=0->(aD n i).level=0/\(aD n i).up= -1
 level:i≠0->1<=(aD n i).level/\(aD n i).level<=5
 none:i≠0->((aD n i).up= -1↔(aD n i).level=5)
 up:i≠0->(-1<=(aD n i).up/\(aD n i).up<=4)/\(aD n i).up≠i
structure aKL (n:Nt) (w:Wd):Prop where
 src:bA w.src
 dst:bA w.dst
 other:w.src≠w.dst
 kind:w.kind=1/\(0<=w.beacon/\w.beacon<=(aD n 0).beacon)/\(0<=w.level/\w.level<=4)/\w.known=[]\/w.kind=2/\w.beacon=0/\w.level=0/\qK n w.known
structure aHm (n:Nt):Prop where
 nodes:n.nodes.length=5
 past:n.past.length=5
 links:n.links.length=25
 words:n.words.length<=24
 born:∀i,bA i->1<=(aD n i).born/\(aD n i).born<=20
 pasts:∀i,bA i->aFQ n i
 self:∀i,bA i->fD n i i=false
 either:∀i j,bA i->bA j->fD n i j=fD n j i
 own:∀i,bA i->aJ7 n i
 known:∀i,bA i->qK n (aD n i).known
 way:∀i,bA i->aMk n i
 word:∀w ∈ n.words,aKL n w
 beacon:(aD n 0).beacon<=1000
theorem aHW {es:List En} {i:Int} (h:∀e ∈ es,e.node≠i):mA es i=none:=by
 unfold mA;rw[List.find?_eq_none];intro e he;simpa using h e he
instance (i:Int):Decidable (bA i):=by unfold bA;infer_instance
end Go.Proofs.YtcblbdpdbggkbaaGreat.N
namespace Go.Proofs.YtcblbdpdbggkbaaGreat
open _root_.Go.Proofs.Tryz
open Go.RowKit Go.Sort
def pN (p:Int × Int):List Value:=[.int .i64 p.1,.int .i64 p.2]
def uI:Rep (List (Int × Int)):=flR 213 2 pN
def uK:Rep (List (Int × Int)):=flR 152 2 pN
theorem kN:uI.Frame:=tF
theorem kM:uK.Frame:=tF
theorem aB8 (zs:List Int):zs.flatMap aEv=bG zs:=by
 induction zs with
 |nil=>rfl
 |cons z zs ih=>rw[List.flatMap_cons,ih];rfl
theorem zU {w:World} {B:Nat} {v:Value} {zs:List Int} (h:aZ w B v zs):sP w [v] zs v.ownBlock.toList:=
 .inl (lV (by rw[aB8];exact h) (fun _=>rfl))
theorem iT {w:World} {cs:List Value} {zs:List Int} {fp:List Nat} (h:sP w cs zs fp):∃v,cs=[v]/\cW w v zs/\(zs≠[]->aZ w 0 v zs/\fp=v.ownBlock.toList):=by
 rcases h with h|⟨rfl,rfl,b,o,rfl,hb⟩
 ·obtain⟨v,e,ho,hf⟩:=kG h
  rw[aB8]at ho;exact⟨v,e,aZ.rd ho,fun _=>⟨ho,hf⟩⟩
 ·exact zAW
theorem aB4 {w:World} {B:Nat} {v:Value} {ps:List T.Pr} (h:T.aF w B v ps):uI w [v] ps v.ownBlock.toList:=.inl (lV h (fun _=>rfl))
theorem tD {w:World} {cs:List Value} {ps:List T.Pr} {fp:List Nat} (h:uI w cs ps fp):∃v,cs=[v]/\T.Prs w v ps/\(ps≠[]->T.aF w 0 v ps/\fp=v.ownBlock.toList):=by
 rcases h with h|⟨rfl,rfl,b,o,rfl,hb⟩
 ·obtain⟨v,e,ho,hf⟩:=kG h
  exact⟨v,e,T.aF.rd ho,fun _=>⟨ho,hf⟩⟩
 ·exact zAW
theorem aCg {w:World} {B:Nat} {v:Value} {ps:List K.Pr} (h:K.aF w B v ps):uK w [v] ps v.ownBlock.toList:=.inl (lV h (fun _=>rfl))
theorem sX {w:World} {cs:List Value} {ps:List K.Pr} {fp:List Nat} (h:uK w cs ps fp):∃v,cs=[v]/\K.Prs w v ps/\(ps≠[]->K.aF w 0 v ps/\fp=v.ownBlock.toList):=by
 rcases h with h|⟨rfl,rfl,b,o,rfl,hb⟩
 ·obtain⟨v,e,ho,hf⟩:=kG h
  exact⟨v,e,K.aF.rd ho,fun _=>⟨ho,hf⟩⟩
 ·exact zAW
theorem aDZ {w:World} {B:Nat} {v:Value} {rs:List (List Int)} {G C:Nat->Nat} (h:dJ w B v rs G C):oD w [v] rs (v.ownBlock.toList++(List.range rs.length).map G):=by
 refine⟨v,fun i=>[nV rs G C i],fun i=>[G i],rfl,?_,fun i hi=>rfl,fun i a hi=>?_,?_⟩
 ·rw[aEl]
  exact aM h.hdr (Nat.zero_le _)
 ·have hlt:=(List.getElem?_eq_some_iff.1 hi).1
  have e:rs.getD i []=a:=by rw[List.getD_eq_getElem?_getD,hi];rfl
  have r:=h.row i hlt;rw[e]at r;exact zU r
 ·rw[aEl]
theorem aAn {w:World} {cs:List Value} {rs:List (List Int)} {fp:List Nat} (h:oD w cs rs fp):∃v,cs=[v]/\Rws w v rs:=by
 obtain⟨v,c,f,rfl,ho,hl,ha,rfl⟩:=h;refine⟨v,rfl,?_⟩;rcases ho.2 with ⟨rfl,h0⟩|⟨g,cap,cur,rfl,hb,hg,hn,hc,hs,ht⟩
 ·exact zB2
 ·refine .inr ⟨g,0,cap,rfl,hn,hc,(Array.getElem?_eq_some_iff.1 hg).1,fun i hi=>?_⟩
  obtain⟨x,hx,hox,_⟩:=iT (ha i _ (List.getElem?_eq_getElem hi));have q:=World.ownsRow.cellAt ho i o_;have z:=qT (k:=0) hl hi o_;rw[Nat.mul_one,Nat.add_zero]at z;refine⟨x,by rw[Nat.zero_add,q,z,hx];rfl,?_⟩;rw[List.getD_eq_getElem?_getD,List.getElem?_eq_getElem hi];exact hox
def qC:Rep Sm:=fun w cs s fp=>∃V f1 f2 f3 f4,cs=[.slice V.xr V.nr V.cr,.slice V.xf V.nf V.cf,.slice V.xt V.nt V.ct,.int .i64 s.lo,.int .i64 s.al,.slice V.xk V.nk V.ck,.int .i64 s.ka]/\fp=f1++(f2++(f3++f4))/\oD w [SV.r V] s.rs f1/\sP w [SV.f V] s.zs f2/\uI w [SV.t V] s.ps f3/\uK w [SV.k V] s.ks f4
theorem aQ:qC.Frame:=by
 refine⟨?_,?_⟩
 ·rintro w cs s fp ⟨V,f1,f2,f3,f4,rfl,rfl,h1,h2,h3,h4⟩ b hm
  simp only[List.mem_append]at hm;rcases hm with hm|hm|hm|hm
  ·exact cA.lt h1 b hm
  ·exact fG.lt h2 b hm
  ·exact kN.lt h3 b hm
  ·exact kM.lt h4 b hm
 ·rintro w w' cs s fp ⟨V,f1,f2,f3,f4,rfl,rfl,h1,h2,h3,h4⟩ hk hs
  exact⟨V,f1,f2,f3,f4,rfl,rfl,cA.keep h1 (fun b hm=>hk b (by simp[hm])) hs,fG.keep h2 (fun b hm=>hk b (by simp[hm])) hs,kN.keep h3 (fun b hm=>hk b (by simp[hm])) hs,kM.keep h4 (fun b hm=>hk b (by simp[hm])) hs⟩
theorem vB {w:World} {cs:List Value} {s:Sm} {fp:List Nat} (h:qC w cs s fp):∃V,cs=[.slice V.xr V.nr V.cr,.slice V.xf V.nf V.cf,.slice V.xt V.nt V.ct,.int .i64 s.lo,.int .i64 s.al,.slice V.xk V.nk V.ck,.int .i64 s.ka]/\RdS w V s:=by
 obtain⟨V,f1,f2,f3,f4,rfl,rfl,h1,h2,h3,h4⟩:=h;obtain⟨v1,e1,r1⟩:=aAn h1;obtain⟨v2,e2,r2,_⟩:=iT h2;obtain⟨v3,e3,r3,_⟩:=tD h3;obtain⟨v4,e4,r4,_⟩:=sX h4;cases e1;cases e2;cases e3;cases e4;exact⟨V,rfl,r1,r2,r3,r4⟩
theorem aV.rep {w:World} {B U:Nat} {V:SV} {s:Sm} (h:aV w B U V s):∃fp,qC w (cS V s) s fp/\fp.Nodup/\∀b ∈ fp,B<=b/\b<U:=by
 obtain⟨M,m1,m2,⟨G,C,o,q1,q2,q3⟩,hf⟩:=h.mid;refine⟨_,⟨V,_,_,_,_,rfl,rfl,aDZ o,zU hf,aB4 h.t,aCg h.k⟩,?_,?_⟩
 ·have gG:∀i,i<s.rs.length->B<=G i/\G i<M:=fun i hi=>⟨((o.row i hi).lt (G i) rfl).1,q2 i hi⟩
  have gr:∀b,V.r.ownBlock=some b->B<=b/\b<M:=fun b e=>⟨(World.ownsRow.lt o.hdr b e).1,q1 b e⟩
  have gf:∀b,V.f.ownBlock=some b->M<=b:=fun b e=>(World.ownsRow.lt hf b e).1
  have tr:∀b,V.t.ownBlock=some b->V.r.ownBlock≠some b:=fun b e e'=>by
   rcases tT h.t o.hdr dc_ with n|n
   ·rw[n]at e;cases e
   ·exact n (e.trans e'.symm)
  have tg:∀b,V.t.ownBlock=some b->∀i,i<s.rs.length->G i≠b:=fun b e i hi e'=>by
   rcases tT h.t (o.row i hi) dc_ with n|n
   ·rw[n]at e;cases e
   ·exact n (e.trans (by rw[<-e'];rfl))
  have tf:∀b,V.t.ownBlock=some b->V.f.ownBlock≠some b:=fun b e e'=>by
   rcases tT h.t hf dc_ with n|n
   ·rw[n]at e;cases e
   ·exact n (e.trans e'.symm)
  have kr:∀b,V.k.ownBlock=some b->V.r.ownBlock≠some b:=fun b e e'=>by
   rcases tT h.k o.hdr dc_ with n|n
   ·rw[n]at e;cases e
   ·exact n (e.trans e'.symm)
  have kg:∀b,V.k.ownBlock=some b->∀i,i<s.rs.length->G i≠b:=fun b e i hi e'=>by
   rcases tT h.k (o.row i hi) dc_ with n|n
   ·rw[n]at e;cases e
   ·exact n (e.trans (by rw[<-e'];rfl))
  have kf:∀b,V.k.ownBlock=some b->V.f.ownBlock≠some b:=fun b e e'=>by
   rcases tT h.k hf dc_ with n|n
   ·rw[n]at e;cases e
   ·exact n (e.trans e'.symm)
  have kt:∀b,V.k.ownBlock=some b->V.t.ownBlock≠some b:=fun b e e'=>by
   rcases tT h.k h.t dc_ with n|n
   ·rw[n]at e;cases e
   ·exact n (e.trans e'.symm)
  refine List.nodup_append.2 ⟨List.nodup_append.2 ⟨gV _,?_,?_⟩,List.nodup_append.2 ⟨gV _,List.nodup_append.2 ⟨gV _,gV _,?_⟩,?_⟩,?_⟩
  ·exact List.pairwise_map.2 (List.Pairwise.imp_of_mem (fun {i j} hi hj q e=>o.apart i j (List.mem_range.1 hi) (List.mem_range.1 hj) q e) List.nodup_range)
  ·intro a ha b hb e
   exact zB8
  ·intro a ha b hb e
   exact kt b (bR hb) (by rw[bR ha,e])
  ·intro a ha b hb e
   rcases List.mem_append.1 hb with hb|hb
   ·exact tf b (bR hb) (by rw[bR ha,e])
   ·exact kf b (bR hb) (by rw[bR ha,e])
  ·intro a ha b hb e
   subst e;rcases List.mem_append.1 ha with ha|ha
   ·have e1:=bR ha
    rcases List.mem_append.1 hb with hb|hb
    ·have:=gf a (bR hb);have:=(gr a e1).2;omega
    ·rcases List.mem_append.1 hb with hb|hb
     ·exact tr a (bR hb) e1
     ·exact kr a (bR hb) e1
   ·obtain⟨i,hi,rfl⟩:=List.mem_map.1 ha
    have hi:=List.mem_range.1 hi;rcases List.mem_append.1 hb with hb|hb
    ·have:=gf _ (bR hb);have:=(gG i hi).2;omega
    ·rcases List.mem_append.1 hb with hb|hb
     ·exact tg _ (bR hb) i hi rfl
     ·exact kg _ (bR hb) i hi rfl
 ·intro b hb
  simp only[List.mem_append]at hb;rcases hb with (hb|hb)|hb|hb|hb
  ·have e:=bR hb
   have:=(World.ownsRow.lt o.hdr b e).1;have:=q1 b e;omega
  ·obtain⟨i,hi,rfl⟩:=List.mem_map.1 hb
   have hi:=List.mem_range.1 hi;have:=((o.row i hi).lt (G i) rfl).1;have:=q2 i hi;omega
  ·have e:=bR hb
   have:=(World.ownsRow.lt hf b e).1;have:=h.ft b e;omega
  ·have e:=bR hb
   exact⟨(World.ownsRow.lt h.t b e).1,h.tt b e⟩
  ·have e:=bR hb
   exact⟨(World.ownsRow.lt h.k b e).1,h.kt b e⟩
theorem aKw:qC.One 7:=by
 refine⟨?_,?_⟩
 ·rintro w cs s fp ⟨V,f1,f2,f3,f4,rfl,_⟩;rfl
 ·rintro w cs s fp ⟨V,f1,f2,f3,f4,rfl,_,h1,h2,h3,h4⟩ u hu
  have o1:=(zV sP 23 1).one h1;have o2:=yV.one h2;have o3:=yV.one h3;have o4:=yV.one h4;simp only[List.mem_singleton,forall_eq]at o1 o2 o3 o4;simp only[List.mem_cons,List.not_mem_nil,or_false]at hu;rcases hu with rfl|rfl|rfl|rfl|rfl|rfl|rfl<;>first|assumption|rfl
namespace N
structure Ty where
 entry:TypeId
 node:TypeId
 word:TypeId
 bool:TypeId
 rows:TypeId
variable {T:Ty}
def aMy (b:Bool):List Value:=[.bool b]
def aAg:Rep En:=aIO (sS wC (sS wC (sS wC qC))) fun e=>(e.node,e.born,e.num,e.s)
def fU (T:Ty):Rep (List En):=nQ T.entry 10 aAg
def aHB (T:Ty):Rep Nd:=aIO (sS wC (sS (fU T) (sS wC (sS wC wC)))) fun x=>(x.born,x.known,x.beacon,x.level,x.up)
def aHb (T:Ty):Rep Wd:=aIO (sS wC (sS wC (sS wC (sS wC (sS wC (fU T)))))) fun x=>(x.kind,x.src,x.dst,x.beacon,x.level,x.known)
def qL (T:Ty):Rep (List Nd):=nQ T.node 5 (aHB T)
def uC (T:Ty):Rep (List Wd):=nQ T.word 6 (aHb T)
def qM (T:Ty):Rep (List Bool):=nQ T.bool 1 (zG aMy)
def aAq (T:Ty):Rep (List (List (List Int))):=nQ T.rows 1 oD
def aIo (T:Ty):Rep Nt:=aIO (sS (qL T) (sS (qM T) (sS (uC T) (aAq T)))) fun n=>(n.nodes,n.links,n.words,n.past)
theorem aX:aAg.Frame:=qS (dM fA (dM fA (dM fA aQ))) _
theorem eQ:(fU T).Frame:=aN aX _ _
theorem cP:(aHB T).Frame:=qS (dM fA (dM eQ (dM fA (dM fA fA)))) _
theorem gD:(aHb T).Frame:=qS (dM fA (dM fA (dM fA (dM fA (dM fA eQ))))) _
theorem pY:(qL T).Frame:=aN cP _ _
theorem qN:(uC T).Frame:=aN gD _ _
theorem pT:(qM T).Frame:=aN (aO _) _ _
theorem rZ:(aAq T).Frame:=aN cA _ _
theorem tX:(aIo T).Frame:=qS (dM pY (dM pT (dM qN rZ))) _
theorem aG6:aAg.One 10:=aJC (zP aAv (zP aAv (zP aAv aKw))) _
section
variable {w:World} {cs:List Value} {fp:List Nat}
theorem kZ {e:En}:aAg w cs e fp↔∃c,cs=.int .i64 e.node::.int .i64 e.born::.int .i64 e.num::c/\qC w c e.s fp:=by
 constructor
 ·rintro⟨_,_,_,_,rfl,rfl,⟨rfl,rfl⟩,⟨_,_,_,_,rfl,rfl,⟨rfl,rfl⟩,⟨_,_,_,_,rfl,rfl,⟨rfl,rfl⟩,h⟩⟩⟩
  exact⟨_,rfl,h⟩
 ·rintro⟨c,rfl,h⟩
  exact⟨[_],_,[],fp,rfl,rfl,⟨rfl,rfl⟩,⟨[_],_,[],fp,rfl,rfl,⟨rfl,rfl⟩,⟨[_],_,[],fp,rfl,rfl,⟨rfl,rfl⟩,h⟩⟩⟩
theorem nA {x:Nd}:aHB T w cs x fp↔∃v,cs=[.int .i64 x.born,v,.int .i64 x.beacon,.int .i64 x.level,.int .i64 x.up]/\fU T w [v] x.known fp:=by
 constructor
 ·rintro⟨_,_,_,_,rfl,rfl,⟨rfl,rfl⟩,⟨_,_,_,_,rfl,rfl,h,⟨_,_,_,_,rfl,rfl,⟨rfl,rfl⟩,⟨_,_,_,_,rfl,rfl,⟨rfl,rfl⟩,⟨rfl,rfl⟩⟩⟩⟩⟩
  obtain⟨v,c,f,rfl,h'⟩:=h;refine⟨v,rfl,?_⟩;simp only[List.nil_append,List.append_nil];exact⟨v,c,f,rfl,h'⟩
 ·rintro⟨v,rfl,h⟩
  refine⟨[_],[v,_,_,_],[],fp,rfl,rfl,⟨rfl,rfl⟩,⟨[v],[_,_,_],fp,[],rfl,(List.append_nil _).symm,h,⟨[_],[_,_],[],[],rfl,rfl,⟨rfl,rfl⟩,⟨[_],[_],[],[],rfl,rfl,⟨rfl,rfl⟩,⟨rfl,rfl⟩⟩⟩⟩⟩
theorem mZ {x:Wd}:aHb T w cs x fp↔∃v,cs=[.int .i64 x.kind,.int .i64 x.src,.int .i64 x.dst,.int .i64 x.beacon,.int .i64 x.level,v]/\fU T w [v] x.known fp:=by
 constructor
 ·rintro⟨_,_,_,_,rfl,rfl,⟨rfl,rfl⟩,⟨_,_,_,_,rfl,rfl,⟨rfl,rfl⟩,⟨_,_,_,_,rfl,rfl,⟨rfl,rfl⟩,⟨_,_,_,_,rfl,rfl,⟨rfl,rfl⟩,⟨_,_,_,_,rfl,rfl,⟨rfl,rfl⟩,h⟩⟩⟩⟩⟩
  obtain⟨v,c,f,rfl,h'⟩:=h;exact⟨v,rfl,⟨v,c,f,rfl,h'⟩⟩
 ·rintro⟨v,rfl,h⟩
  exact⟨[_],_,[],fp,rfl,rfl,⟨rfl,rfl⟩,⟨[_],_,[],fp,rfl,rfl,⟨rfl,rfl⟩,⟨[_],_,[],fp,rfl,rfl,⟨rfl,rfl⟩,⟨[_],_,[],fp,rfl,rfl,⟨rfl,rfl⟩,⟨[_],_,[],fp,rfl,rfl,⟨rfl,rfl⟩,h⟩⟩⟩⟩⟩
theorem pO {n:Nt}:aIo T w cs n fp↔∃v1 v2 v3 v4 f1 f2 f3 f4,cs=[v1,v2,v3,v4]/\fp=f1++(f2++(f3++f4))/\qL T w [v1] n.nodes f1/\qM T w [v2] n.links f2/\uC T w [v3] n.words f3/\aAq T w [v4] n.past f4:=by
 constructor
 ·rintro⟨_,_,f1,_,rfl,rfl,⟨v1,a1,b1,rfl,h1⟩,⟨_,_,f2,_,rfl,rfl,⟨v2,a2,b2,rfl,h2⟩,⟨_,_,f3,f4,rfl,rfl,⟨v3,a3,b3,rfl,h3⟩,⟨v4,a4,b4,rfl,h4⟩⟩⟩⟩
  exact⟨v1,v2,v3,v4,f1,f2,f3,f4,rfl,rfl,⟨v1,a1,b1,rfl,h1⟩,⟨v2,a2,b2,rfl,h2⟩,⟨v3,a3,b3,rfl,h3⟩,⟨v4,a4,b4,rfl,h4⟩⟩
 ·rintro⟨v1,v2,v3,v4,f1,f2,f3,f4,rfl,rfl,h1,h2,h3,h4⟩
  exact⟨[v1],[v2,v3,v4],f1,_,rfl,rfl,h1,⟨[v2],[v3,v4],f2,_,rfl,rfl,h2,⟨[v3],[v4],f3,f4,rfl,rfl,h3,h4⟩⟩⟩
end
end N
end Go.Proofs.YtcblbdpdbggkbaaGreat
namespace Go.Proofs.YtcblbdpdbggkbaaGreat
open _root_.Go.Proofs.Tryz
open Go.RowKit Go.Sort
namespace N
variable {T:Ty} {w:World} {B:Nat} {n:Nt} {fp:List Nat} {v1 v2 v3 v4:Value}
variable {T:Ty} {w:World} {fp:List Nat} {x:Option Addr} {k c:Nat}
theorem jP {es:List En} (h:fU T w [.slice x k c] es fp) {i:Nat} {e:En} (hi:es[i]? =some e):∃(g:Nat) (V:SV) (fe:List Nat),x=some ⟨g,0,none⟩/\g<w.heap.size/\(∀b ∈ fe,b ∈ fp)/\qC w (cS V (e.s)) e.s fe/\
  w.cell? ⟨g,i * 10,none⟩=some (.int .i64 e.node)/\w.cell? ⟨g,i * 10+1,none⟩=some (.int .i64 e.born)/\w.cell? ⟨g,i * 10+2,none⟩=some (.int .i64 e.num)/\
  ∀j z,((cS V (e.s)):List Value)[j]? =some z->w.cell? ⟨g,i * 10+(3+j),none⟩=some z:=by
 obtain⟨_,at_⟩:=aK h;obtain⟨g,ci,fi,q,h1,h2,h3,h4,h5⟩:=at_ hi;obtain⟨cs,rfl,hs⟩:=kZ.1 h2;obtain⟨V,f1,f2,f3,f4,rfl,r⟩:=hs;refine⟨g,V,fi,q,h1,h3,⟨V,f1,f2,f3,f4,rfl,r⟩,h5 0 _ rfl,h5 1 _ rfl,h5 2 _ rfl,fun j z hz=>h5 (3+j) z ?_⟩;rw[Nat.add_comm];exact hz
theorem gM {ns:List Nd} (h:qL T w [.slice x k c] ns fp) {i:Nat} {a:Nd} (hi:ns[i]? =some a):∃g xk ck fk,x=some ⟨g,0,none⟩/\g<w.heap.size/\(∀b ∈ fk,b ∈ fp)/\fU T w [.slice xk a.known.length ck] a.known fk/\a.known.length<=ck/\ck<=maxLen/\
  w.cell? ⟨g,i * 5,none⟩=some (.int .i64 a.born)/\w.cell? ⟨g,i * 5+1,none⟩=some (.slice xk a.known.length ck)/\w.cell? ⟨g,i * 5+2,none⟩=some (.int .i64 a.beacon)/\w.cell? ⟨g,i * 5+3,none⟩=some (.int .i64 a.level)/\w.cell? ⟨g,i * 5+4,none⟩=some (.int .i64 a.up):=by
 obtain⟨_,at_⟩:=aK h;obtain⟨g,ci,fi,q,h1,h2,h3,h4,h5⟩:=at_ hi;obtain⟨kn,rfl,hk⟩:=nA.1 h2;obtain⟨xk,ck,rfl,l1,l2⟩:=aP hk;exact⟨g,xk,ck,fi,q,h1,h3,hk,l1,l2,h5 0 _ rfl,h5 1 _ rfl,h5 2 _ rfl,h5 3 _ rfl,h5 4 _ rfl⟩
theorem uP {ws:List Wd} (h:uC T w [.slice x k c] ws fp) {i:Nat} {a:Wd} (hi:ws[i]? =some a):∃g xk ck fk,x=some ⟨g,0,none⟩/\g<w.heap.size/\(∀b ∈ fk,b ∈ fp)/\fU T w [.slice xk a.known.length ck] a.known fk/\a.known.length<=ck/\ck<=maxLen/\
  w.cell? ⟨g,i * 6,none⟩=some (.int .i64 a.kind)/\w.cell? ⟨g,i * 6+1,none⟩=some (.int .i64 a.src)/\w.cell? ⟨g,i * 6+2,none⟩=some (.int .i64 a.dst)/\w.cell? ⟨g,i * 6+3,none⟩=some (.int .i64 a.beacon)/\w.cell? ⟨g,i * 6+4,none⟩=some (.int .i64 a.level)/\w.cell? ⟨g,i * 6+5,none⟩=some (.slice xk a.known.length ck):=by
 obtain⟨_,at_⟩:=aK h;obtain⟨g,ci,fi,q,h1,h2,h3,h4,h5⟩:=at_ hi;obtain⟨kn,rfl,hk⟩:=mZ.1 h2;obtain⟨xk,ck,rfl,l1,l2⟩:=aP hk;exact⟨g,xk,ck,fi,q,h1,h3,hk,l1,l2,h5 0 _ rfl,h5 1 _ rfl,h5 2 _ rfl,h5 3 _ rfl,h5 4 _ rfl,h5 5 _ rfl⟩
theorem oK {ls:List Bool} (h:qM T w [.slice x k c] ls fp) {i:Nat} {b:Bool} (hi:ls[i]? =some b):∃g,x=some ⟨g,0,none⟩/\g<w.heap.size/\w.cell? ⟨g,i,none⟩=some (.bool b):=by
 obtain⟨_,at_⟩:=aK h;obtain⟨g,ci,fi,q,h1,h2,h3,h4,h5⟩:=at_ hi;refine⟨g,q,h1,?_⟩;have r:=h5 0 (.bool b) (by rw[h2.1];rfl);rwa[Nat.mul_one,Nat.add_zero]at r
theorem mS {ps:List (List (List Int))} (h:aAq T w [.slice x k c] ps fp) {i:Nat} {rs:List (List Int)} (hi:ps[i]? =some rs):∃g xr cr fr,x=some ⟨g,0,none⟩/\g<w.heap.size/\(∀b ∈ fr,b ∈ fp)/\oD w [.slice xr rs.length cr] rs fr/\rs.length<=cr/\cr<=maxLen/\w.cell? ⟨g,i,none⟩=some (.slice xr rs.length cr):=by
 obtain⟨_,at_⟩:=aK h;obtain⟨g,ci,fi,q,h1,h2,h3,h4,h5⟩:=at_ hi;obtain⟨vr,rfl⟩:∃vr,ci=[vr]:=by
  obtain⟨vr,a,b,e,_⟩:=h2;exact⟨vr,e⟩
 obtain⟨xr,cr,rfl,l1,l2⟩:=aP h2;exact zB9
theorem mL {rs:List (List Int)} (h:oD w [.slice x k c] rs fp) {i:Nat} {l:List Int} (hi:rs[i]? =some l):∃g xr cr fr,x=some ⟨g,0,none⟩/\g<w.heap.size/\(∀b ∈ fr,b ∈ fp)/\sP w [.slice xr l.length cr] l fr/\l.length<=cr/\cr<=maxLen/\w.cell? ⟨g,i,none⟩=some (.slice xr l.length cr):=by
 obtain⟨_,at_⟩:=aK h;obtain⟨g,ci,fi,q,h1,h2,h3,h4,h5⟩:=at_ hi;obtain⟨vr,rfl⟩:∃vr,ci=[vr]:=by
  obtain⟨vr,e,_⟩:=iT h2;exact⟨vr,e⟩
 obtain⟨xr,cr,rfl,l1,l2⟩:=lC h2;exact zB9
end N
end Go.Proofs.YtcblbdpdbggkbaaGreat
namespace Go.Proofs.YtcblbdpdbggkbaaGreat
open _root_.Go.Proofs.Tryz
open Go.RowKit Go.ChangeShapes Go.WideShapes Go.ChangeAt Go.Deep
abbrev RdA (α:Type):=World->List Value->α->Prop
def uL:RdA Int:=fun _ cs z=>cs=[.int .i64 z]
def aKu:RdA Bool:=fun _ cs b=>cs=[.bool b]
def kU {α β:Type} (A:RdA α) (B:RdA β):RdA (α × β):=fun w cs p=>∃c1 c2,cs=c1++c2/\A w c1 p.1/\B w c2 p.2
def aGJ {α β:Type} (A:RdA α) (f:β->α):RdA β:=fun w cs b=>A w cs (f b)
def rR {α:Type} (size:Nat) (A:RdA α):RdA (List α):=fun w cs xs=>
 (xs=[]/\∃x c,cs=[.slice x 0 c])\/
 ∃b o c,cs=[.slice (some ⟨b,o,none⟩) xs.length c]/\0<xs.length/\xs.length<=maxLen/\b<w.heap.size/\∀i a,xs[i]? =some a->∃ci,ci.length=size/\w.rangeAt b (o+i * size) ci/\A w ci a
structure RdA.Stay {α:Type} (A:RdA α):Prop where
 keep:∀{w w':World} {cs:List Value} {a:α} {B:Nat},A w cs a->Below B w w'->w.heap.size<=B->A w' cs a
theorem fN:RdA.Stay uL:=⟨fun h _ _=>h⟩
theorem aG5:RdA.Stay aKu:=⟨fun h _ _=>h⟩
theorem eK {α β:Type} {A:RdA α} {B:RdA β} (SA:RdA.Stay A) (SB:RdA.Stay B):RdA.Stay (kU A B):=by
 refine⟨?_⟩;rintro w w' cs a X ⟨c1,c2,rfl,h1,h2⟩ hb hB;exact⟨c1,c2,rfl,SA.keep h1 hb hB,SB.keep h2 hb hB⟩
theorem sY {α β:Type} {A:RdA α} (SA:RdA.Stay A) (f:β->α):RdA.Stay (aGJ A f):=⟨fun h hb hB=>SA.keep h hb hB⟩
theorem eJ {α:Type} {A:RdA α} (SA:RdA.Stay A) (size:Nat):RdA.Stay (rR size A):=by
 refine⟨?_⟩;rintro w w' cs xs X (h|⟨b,o,c,e,h0,h1,h2,h3⟩) hb hB
 ·exact .inl h
 ·refine .inr ⟨b,o,c,e,h0,h1,Nat.lt_of_lt_of_le h2 hb.size,fun i a hi=>?_⟩
  obtain⟨ci,l,r,ha⟩:=h3 i a hi;exact⟨ci,l,fun j z hz=>(hb.cell (p:=⟨b,o+i * size+j,none⟩) (by show b<X;omega)).trans (r j z hz),SA.keep ha hb hB⟩
theorem bB {α:Type} {A:RdA α} {size:Nat} {w:World} {cs:List Value} {xs:List α} (h:rR size A w cs xs):∃x c,cs=[.slice x xs.length c]/\xs.length<=maxLen:=by
 rcases h with ⟨rfl,x,c,e⟩|⟨b,o,c,e,h0,h1,_⟩
 ·exact⟨x,c,e,Nat.zero_le _⟩
 ·exact⟨_,c,e,h1⟩
theorem mT {α:Type} {A:RdA α} {size:Nat} {w:World} {x:Option Addr} {n c:Nat} {xs:List α} (h:rR size A w [.slice x n c] xs) {i:Nat} {a:α} (hi:xs[i]? =some a):∃b o ci,x=some ⟨b,o,none⟩/\b<w.heap.size/\ci.length=size/\w.rangeAt b (o+i * size) ci/\A w ci a:=by
 rcases h with ⟨rfl,_⟩|⟨b,o,c',e,h0,h1,h2,h3⟩
 ·simp at hi
 ·obtain⟨ci,l,r,ha⟩:=h3 i a hi
  injection e with e _
  injection e with e1 e2 e3
  exact⟨b,o,ci,e1,h2,l,r,ha⟩
section
variable {H:Type} {enc:TypeId × Value->H} {P:Program} {w:World} {t:TypeId}
def fQ {α:Type} (enc:TypeId × Value->H) (P:Program) (w:World) (t:TypeId) (A:RdA α):Prop:=∀fuel cs y,DataW.trod enc P w 0 (fun _=>true) true fuel t cs=some y->∃a,A w cs a
theorem fL (ht:P.underlying t=some (.int .i64)):fQ enc P w t uL:=fun fuel cs y h=>by
 obtain⟨n,e,_⟩:=DataW.trod_int ht h;exact⟨n,e⟩
theorem aFI (ht:P.underlying t=some .bool):fQ enc P w t aKu:=fun fuel cs y h=>by
 obtain⟨b,e,_⟩:=DataW.trod_bool ht h;exact⟨b,e⟩
theorem sV {α β:Type} {A:RdA α} (O:fQ enc P w t A) (f:β->α) (g:α->β) (fg:∀a,f (g a)=a):fQ enc P w t (aGJ A f):=fun fuel cs y h=>by
 obtain⟨a,ha⟩:=O fuel cs y h;exact⟨g a,by unfold aGJ;rw[fg];exact ha⟩
theorem iR {α:Type} {A:RdA α} {e:TypeId} {size:Nat} (ht:P.underlying t=some (.slice e)) (hs:P.cellsOf e=size) (s0:0<size) (O:fQ enc P w e A):fQ enc P w t (rR size A):=fun fuel cs y h=>by
 rcases open_slice ht h with ⟨e,_⟩|⟨a,len,cap,m,n,D,Pl,e,_,hl,hm,hmm,_,hi⟩
 ·exact⟨[],.inl ⟨rfl,_,_,e⟩⟩
 ·simp only[if_true]at hmm
  subst e;rw[hs]at hi
  by_cases h0:len=0
  ·exact zBK
  have key:∀i,i<len->∃x ci,ci.length=size/\(∀j z,ci[j]? =some z->w.cell? (a.add (i * size+j))=some z)/\A w ci x:=fun i hlt=>by
   obtain⟨cs',hc,ht'⟩:=hi i o_;obtain⟨x,hx⟩:=O _ _ _ ht';obtain⟨_,hcl,hat⟩:=World.cells?_some hc;refine⟨x,cs',hcl,fun j z hz=>?_,hx⟩;have hj:j<size:=by rw[<-hcl];exact (List.getElem?_eq_some_iff.1 hz).1
   have:=hat j hj;rw[Go.Deep.add_add]at this;rw[this,hz]
  obtain⟨b,o,sp⟩:=a;obtain⟨x0,c0,l0,r0,_⟩:=key 0 o_;have z0:c0[0]? =some (c0[0]'o_):=List.getElem?_eq_getElem _;have q0:=r0 0 _ z0;have hsp:sp=none:=by simpa[Addr.add]using World.cell?_spot q0
  subst hsp;have hb:b<w.heap.size:=by simpa[Addr.add]using World.block_lt_of_cell? _ _ q0
  have F:∀i,∃x,i<len->∃ci,ci.length=size/\(∀j z,ci[j]? =some z->w.cell? ((⟨b,o,none⟩:Addr).add (i * size+j))=some z)/\A w ci x:=fun i=>by
   by_cases hlt:i<len
   ·obtain⟨x,r⟩:=key i hlt
    exact⟨x,fun _=>r⟩
   ·exact⟨x0,fun c=>absurd c hlt⟩
  have el:((List.range len).map fun i=>Classical.choose (F i)).length=len:=by simp
  refine⟨(List.range len).map fun i=>Classical.choose (F i),.inr ⟨b,o,cap,by rw[el],o_,o_,hb,fun i x hx=>?_⟩⟩;have hlt:i<len:=by have:=(List.getElem?_eq_some_iff.1 hx).1;omega
  have ex:Classical.choose (F i)=x:=by simpa[hlt]using hx
  obtain⟨ci,l,r,ha⟩:=Classical.choose_spec (F i) hlt;rw[ex]at ha;refine⟨ci,l,fun j z hz=>?_,ha⟩;have:=r j z hz;rw[Addr.add_mid, <-Nat.add_assoc]at this;exact this
theorem jQ (cs:List Value) (o s:Nat):cs.drop o=(cs.drop o).take s++cs.drop (o+s):=by
 rw[<-List.drop_drop,List.take_append_drop]
theorem aAK {α0 α1 α2 α3:Type} {A0:RdA α0} {A1:RdA α1} {A2:RdA α2} {A3:RdA α3} {f0 f1 f2 f3:Field} {s0 s1 s2 s3:Nat} (ht:P.underlying t=some (.struct #[f0,f1,f2,f3]))
  (o0:f0.offset=0) (o1:f1.offset=s0) (o2:f2.offset=s0+s1) (o3:f3.offset=s0+s1+s2) (hs:P.cellsOf t=s0+s1+s2+s3)
  (c0:P.cellsOf f0.type=s0) (c1:P.cellsOf f1.type=s1) (c2:P.cellsOf f2.type=s2) (c3:P.cellsOf f3.type=s3)
  (O0:fQ enc P w f0.type A0) (O1:fQ enc P w f1.type A1) (O2:fQ enc P w f2.type A2) (O3:fQ enc P w f3.type A3):fQ enc P w t (kU A0 (kU A1 (kU A2 (A3)))):=fun fuel cs y h=>by
 obtain⟨xs,n,_,_,hl,hx,hf⟩:=DataW.trod_struct ht h;rw[hs]at hl;have h0:=hf 0 f0 rfl;rw[o0,c0,List.getElem?_eq_getElem (by rw[hx];show 0<4;omega)]at h0;obtain⟨a0,r0⟩:=O0 _ _ _ h0;have h1:=hf 1 f1 rfl;rw[o1,c1,List.getElem?_eq_getElem (by rw[hx];show 1<4;omega)]at h1;obtain⟨a1,r1⟩:=O1 _ _ _ h1;have h2:=hf 2 f2 rfl;rw[o2,c2,List.getElem?_eq_getElem (by rw[hx];show 2<4;omega)]at h2
 obtain⟨a2,r2⟩:=O2 _ _ _ h2;have h3:=hf 3 f3 rfl;rw[o3,c3,List.getElem?_eq_getElem (by rw[hx];show 3<4;omega)]at h3;obtain⟨a3,r3⟩:=O3 _ _ _ h3;have e3:(cs.drop (s0+s1+s2)).take s3=cs.drop (s0+s1+s2):=List.take_of_length_le (by rw[List.length_drop];omega);rw[e3]at r3
 exact⟨(a0,a1,a2,a3),⟨_,_,(by have e:=jQ cs 0 s0;rw[List.drop_zero,Nat.zero_add]at e;rw[List.drop_zero];exact e),r0,⟨_,_,jQ cs (s0) s1,r1,⟨_,_,jQ cs (s0+s1) s2,r2,r3⟩⟩⟩⟩
theorem aGE {α0 α1 α2 α3 α4:Type} {A0:RdA α0} {A1:RdA α1} {A2:RdA α2} {A3:RdA α3} {A4:RdA α4} {f0 f1 f2 f3 f4:Field} {s0 s1 s2 s3 s4:Nat} (ht:P.underlying t=some (.struct #[f0,f1,f2,f3,f4]))
  (o0:f0.offset=0) (o1:f1.offset=s0) (o2:f2.offset=s0+s1) (o3:f3.offset=s0+s1+s2) (o4:f4.offset=s0+s1+s2+s3) (hs:P.cellsOf t=s0+s1+s2+s3+s4)
  (c0:P.cellsOf f0.type=s0) (c1:P.cellsOf f1.type=s1) (c2:P.cellsOf f2.type=s2) (c3:P.cellsOf f3.type=s3) (c4:P.cellsOf f4.type=s4)
  (O0:fQ enc P w f0.type A0) (O1:fQ enc P w f1.type A1) (O2:fQ enc P w f2.type A2) (O3:fQ enc P w f3.type A3) (O4:fQ enc P w f4.type A4):fQ enc P w t (kU A0 (kU A1 (kU A2 (kU A3 (A4))))):=fun fuel cs y h=>by
 obtain⟨xs,n,_,_,hl,hx,hf⟩:=DataW.trod_struct ht h;rw[hs]at hl;have h0:=hf 0 f0 rfl;rw[o0,c0,List.getElem?_eq_getElem (by rw[hx];show 0<5;omega)]at h0;obtain⟨a0,r0⟩:=O0 _ _ _ h0;have h1:=hf 1 f1 rfl;rw[o1,c1,List.getElem?_eq_getElem (by rw[hx];show 1<5;omega)]at h1;obtain⟨a1,r1⟩:=O1 _ _ _ h1;have h2:=hf 2 f2 rfl;rw[o2,c2,List.getElem?_eq_getElem (by rw[hx];show 2<5;omega)]at h2
 obtain⟨a2,r2⟩:=O2 _ _ _ h2;have h3:=hf 3 f3 rfl;rw[o3,c3,List.getElem?_eq_getElem (by rw[hx];show 3<5;omega)]at h3;obtain⟨a3,r3⟩:=O3 _ _ _ h3;have h4:=hf 4 f4 rfl;rw[o4,c4,List.getElem?_eq_getElem (by rw[hx];show 4<5;omega)]at h4;obtain⟨a4,r4⟩:=O4 _ _ _ h4;have e4:(cs.drop (s0+s1+s2+s3)).take s4=cs.drop (s0+s1+s2+s3):=List.take_of_length_le (by rw[List.length_drop];omega);rw[e4]at r4
 exact⟨(a0,a1,a2,a3,a4),⟨_,_,(by have e:=jQ cs 0 s0;rw[List.drop_zero,Nat.zero_add]at e;rw[List.drop_zero];exact e),r0,⟨_,_,jQ cs (s0) s1,r1,⟨_,_,jQ cs (s0+s1) s2,r2,⟨_,_,jQ cs (s0+s1+s2) s3,r3,r4⟩⟩⟩⟩⟩
theorem aIj {α0 α1 α2 α3 α4 α5:Type} {A0:RdA α0} {A1:RdA α1} {A2:RdA α2} {A3:RdA α3} {A4:RdA α4} {A5:RdA α5} {f0 f1 f2 f3 f4 f5:Field} {s0 s1 s2 s3 s4 s5:Nat} (ht:P.underlying t=some (.struct #[f0,f1,f2,f3,f4,f5]))
  (o0:f0.offset=0) (o1:f1.offset=s0) (o2:f2.offset=s0+s1) (o3:f3.offset=s0+s1+s2) (o4:f4.offset=s0+s1+s2+s3) (o5:f5.offset=s0+s1+s2+s3+s4) (hs:P.cellsOf t=s0+s1+s2+s3+s4+s5)
  (c0:P.cellsOf f0.type=s0) (c1:P.cellsOf f1.type=s1) (c2:P.cellsOf f2.type=s2) (c3:P.cellsOf f3.type=s3) (c4:P.cellsOf f4.type=s4) (c5:P.cellsOf f5.type=s5)
  (O0:fQ enc P w f0.type A0) (O1:fQ enc P w f1.type A1) (O2:fQ enc P w f2.type A2) (O3:fQ enc P w f3.type A3) (O4:fQ enc P w f4.type A4) (O5:fQ enc P w f5.type A5):fQ enc P w t (kU A0 (kU A1 (kU A2 (kU A3 (kU A4 (A5)))))):=fun fuel cs y h=>by
 obtain⟨xs,n,_,_,hl,hx,hf⟩:=DataW.trod_struct ht h;rw[hs]at hl;have h0:=hf 0 f0 rfl;rw[o0,c0,List.getElem?_eq_getElem (by rw[hx];show 0<6;omega)]at h0;obtain⟨a0,r0⟩:=O0 _ _ _ h0;have h1:=hf 1 f1 rfl;rw[o1,c1,List.getElem?_eq_getElem (by rw[hx];show 1<6;omega)]at h1;obtain⟨a1,r1⟩:=O1 _ _ _ h1;have h2:=hf 2 f2 rfl;rw[o2,c2,List.getElem?_eq_getElem (by rw[hx];show 2<6;omega)]at h2
 obtain⟨a2,r2⟩:=O2 _ _ _ h2;have h3:=hf 3 f3 rfl;rw[o3,c3,List.getElem?_eq_getElem (by rw[hx];show 3<6;omega)]at h3;obtain⟨a3,r3⟩:=O3 _ _ _ h3;have h4:=hf 4 f4 rfl;rw[o4,c4,List.getElem?_eq_getElem (by rw[hx];show 4<6;omega)]at h4;obtain⟨a4,r4⟩:=O4 _ _ _ h4;have h5:=hf 5 f5 rfl;rw[o5,c5,List.getElem?_eq_getElem (by rw[hx];show 5<6;omega)]at h5;obtain⟨a5,r5⟩:=O5 _ _ _ h5
 have e5:(cs.drop (s0+s1+s2+s3+s4)).take s5=cs.drop (s0+s1+s2+s3+s4):=List.take_of_length_le (by rw[List.length_drop];omega);rw[e5]at r5;exact⟨(a0,a1,a2,a3,a4,a5),⟨_,_,(by have e:=jQ cs 0 s0;rw[List.drop_zero,Nat.zero_add]at e;rw[List.drop_zero];exact e),r0,⟨_,_,jQ cs (s0) s1,r1,⟨_,_,jQ cs (s0+s1) s2,r2,⟨_,_,jQ cs (s0+s1+s2) s3,r3,⟨_,_,jQ cs (s0+s1+s2+s3) s4,r4,r5⟩⟩⟩⟩⟩⟩
end
end Go.Proofs.YtcblbdpdbggkbaaGreat
namespace Go.Proofs.YtcblbdpdbggkbaaGreat
open _root_.Go.Proofs.Tryz
open Go.RowKit Go.Sort
theorem dJ.form {w:World} {B:Nat} {u:Value} {rs:List (List Int)} {G C:Nat->Nat} (h:dJ w B u rs G C):∃x c,u=.slice x rs.length c:=by
 rcases h.hdr.2 with ⟨rfl,h0⟩|⟨g,cap,cur,rfl,_⟩
 ·exact⟨none,0,by rw[h0]⟩
 ·exact⟨_,_,rfl⟩
theorem aZ.form' {w:World} {B:Nat} {u:Value} {zs:List Int} (h:aZ w B u zs):∃x c,u=.slice x zs.length c:=by
 exact zAy
theorem T.aF.form' {w:World} {B:Nat} {u:Value} {zs:List T.Pr} (h:T.aF w B u zs):∃x c,u=.slice x zs.length c:=by
 exact zAy
theorem K.aF.form' {w:World} {B:Nat} {u:Value} {zs:List K.Pr} (h:K.aF w B u zs):∃x c,u=.slice x zs.length c:=by
 exact zAy
theorem aV.rows {w:World} {B:Nat} {x:Option Addr} {n c:Nat} {rs:List (List Int)} {G C:Nat->Nat} (h:dJ w B (.slice x n c) rs G C) (hB:B<=w.heap.size):aV w B w.heap.size ⟨x,n,c,Option.none,0,0,Option.none,0,0,Option.none,0,0⟩ ⟨rs,[],[],0,0,[],0⟩:=
 ⟨⟨w.heap.size,hB,Nat.le_refl _,h.bounds,World.ownsRow_nil _ _ _ _⟩,World.ownsRow_nil _ _ _ _,World.ownsRow_nil _ _ _ _,fun _ e=>(by cases e),fun _ e=>(by cases e),fun _ e=>(by cases e),Nat.le_refl _⟩
section
variable {w:World} {B U b:Nat} {x0 x1 x2 x3 x4 x5 x6:Value}
theorem dX.box7 {v:Value} {rs:List (List Int)} (h:dX w B U v rs) (X:aI w b 46 x0 x1 x2 x3 x4 x5 x6) (y0 y1 y2 y3 y4 y5 y6:Value):dX (set7 w b y0 y1 y2 y3 y4 y5 y6) B U v rs:=by
 obtain⟨G,C,ho,q1,q2,q3⟩:=h;have hk:dZ (fun k=>k=b) w (set7 w b y0 y1 y2 y3 y4 y5 y6):=dZ.of_grown (dU w b y0 y1 y2 y3 y4 y5 y6) rfl;exact⟨G,C,⟨dH ho.hdr hk fun k e1 e2=>X.not_row dc_ ho.hdr (by rw[e1,e2]),fun i hi=>dH (ho.row i hi) hk fun k e1 e2=>X.not_row dc_ (ho.row i hi) (by rw[e1,e2]),ho.off,ho.apart⟩,q1,q2,by rw[bS];exact q3⟩
theorem aZ.box7 {v:Value} {zs:List Int} (h:aZ w B v zs) (X:aI w b 46 x0 x1 x2 x3 x4 x5 x6) (y0 y1 y2 y3 y4 y5 y6:Value):aZ (set7 w b y0 y1 y2 y3 y4 y5 y6) B v zs:=h.keep (dU w b y0 y1 y2 y3 y4 y5 y6) (X.not_row dc_ h)
theorem T.aF.box7 {v:Value} {zs:List T.Pr} (h:T.aF w B v zs) (X:aI w b 46 x0 x1 x2 x3 x4 x5 x6) (y0 y1 y2 y3 y4 y5 y6:Value):T.aF (set7 w b y0 y1 y2 y3 y4 y5 y6) B v zs:=h.keep (dU w b y0 y1 y2 y3 y4 y5 y6) (X.not_row dc_ h)
theorem K.aF.box7 {v:Value} {zs:List K.Pr} (h:K.aF w B v zs) (X:aI w b 46 x0 x1 x2 x3 x4 x5 x6) (y0 y1 y2 y3 y4 y5 y6:Value):K.aF (set7 w b y0 y1 y2 y3 y4 y5 y6) B v zs:=h.keep (dU w b y0 y1 y2 y3 y4 y5 y6) (X.not_row dc_ h)
theorem dX.cell7 {v:Value} {rs:List (List Int)} (h:dX w B U v rs) (X:aI w b 46 x0 x1 x2 x3 x4 x5 x6) (i:Nat) (y:Value):dX (w.setCell ⟨b,i,none⟩ y) B U v rs:=by
 obtain⟨G,C,ho,q1,q2,q3⟩:=h;have hk:dZ (fun k=>k=b) w (w.setCell ⟨b,i,none⟩ y):=dZ.of_grown (aA w ⟨b,i,none⟩ y) rfl;exact⟨G,C,⟨dH ho.hdr hk fun k e1 e2=>X.not_row dc_ ho.hdr (by rw[e1,e2]),fun i hi=>dH (ho.row i hi) hk fun k e1 e2=>X.not_row dc_ (ho.row i hi) (by rw[e1,e2]),ho.off,ho.apart⟩,q1,q2,by simpa using q3⟩
theorem aZ.cell7 {v:Value} {zs:List Int} (h:aZ w B v zs) (X:aI w b 46 x0 x1 x2 x3 x4 x5 x6) (i:Nat) (y:Value):aZ (w.setCell ⟨b,i,none⟩ y) B v zs:=h.keep (aA w ⟨b,i,none⟩ y) (X.not_row dc_ h)
theorem T.aF.cell7 {v:Value} {zs:List T.Pr} (h:T.aF w B v zs) (X:aI w b 46 x0 x1 x2 x3 x4 x5 x6) (i:Nat) (y:Value):T.aF (w.setCell ⟨b,i,none⟩ y) B v zs:=h.keep (aA w ⟨b,i,none⟩ y) (X.not_row dc_ h)
theorem K.aF.cell7 {v:Value} {zs:List K.Pr} (h:K.aF w B v zs) (X:aI w b 46 x0 x1 x2 x3 x4 x5 x6) (i:Nat) (y:Value):K.aF (w.setCell ⟨b,i,none⟩ y) B v zs:=h.keep (aA w ⟨b,i,none⟩ y) (X.not_row dc_ h)
end
theorem aV.box7 {w:World} {B U b:Nat} {V:SV} {s:Sm} {x0 x1 x2 x3 x4 x5 x6:Value} (h:aV w B U V s) (X:aI w b 46 x0 x1 x2 x3 x4 x5 x6) (y0 y1 y2 y3 y4 y5 y6:Value):aV (set7 w b y0 y1 y2 y3 y4 y5 y6) B U V s:=by
 obtain⟨M,h1,h2,hr,hf⟩:=h.mid;have hg:=dU w b y0 y1 y2 y3 y4 y5 y6;have hk:dZ (fun k=>k=b) w (set7 w b y0 y1 y2 y3 y4 y5 y6):=dZ.of_grown hg rfl;have e:=bS w b y0 y1 y2 y3 y4 y5 y6;refine⟨⟨M,h1,h2,?_,?_⟩,?_,?_,h.ft,h.tt,h.kt,by rw[e];exact h.top⟩
 ·obtain⟨G,C,ho,q1,q2,q3⟩:=hr
  exact⟨G,C,⟨dH ho.hdr hk fun k e1 e2=>X.not_row dc_ ho.hdr (by rw[e1,e2]),fun i hi=>dH (ho.row i hi) hk fun k e1 e2=>X.not_row dc_ (ho.row i hi) (by rw[e1,e2]),ho.off,ho.apart⟩,q1,q2,by rw[e];exact q3⟩
 ·exact hf.keep hg (X.not_row dc_ hf)
 ·exact h.t.keep hg (X.not_row dc_ h.t)
 ·exact h.k.keep hg (X.not_row dc_ h.k)
theorem aV.make {W:World} {B B1 M B2 B3 B4:Nat} {V:SV} {s:Sm} (hr:dX W B1 M V.r s.rs) (hf:aZ W B2 V.f s.zs) (ht:T.aF W B3 V.t s.ps) (hk:K.aF W B4 V.k s.ks) (h1:B<=B1) (hM:B<=M) (h2:M<=B2) (h3:B<=B3) (h4:B<=B4):aV W B W.heap.size V s:=
 ⟨⟨M,hM,hr.top,hr.base h1,aM hf h2⟩,aM ht h3,aM hk h4,fun _ e=>(World.ownsRow.lt hf _ e).2,fun _ e=>(World.ownsRow.lt ht _ e).2,fun _ e=>(World.ownsRow.lt hk _ e).2,Nat.le_refl _⟩
theorem aCj {ra rb:List (List Int)} (h:hO ra rb=true):mQ ra rb=dP ra rb:=by unfold mQ;rw[h];rfl
structure Got (w wx:World) (P:Nat) (V:SV) (s:Sm):Prop where
 below:Below w.heap.size w wx
 own:aV wx w.heap.size wx.heap.size V s
 box:aLY wx P V s
 lo:w.heap.size<=P
theorem Got.last {w wx:World} {B:Nat} {V:SV} {s:Sm} (hb:Below w.heap.size w wx) (ho:aV wx B wx.heap.size V s) (hB:w.heap.size<=B):Got w (wx.alloc (.cells (cS V s) 46)) wx.heap.size V s:=
 ⟨hb.alloc hb.size _,(ho.alloc _).base hB (by simp) lr_,aI.new _ _ _ _ _ _ _ _ _,hb.size⟩
theorem Got.stored {w wx:World} {B P:Nat} {V:SV} {s:Sm} {x0 x1 x2 x3 x4 x5 x6:Value} (hb:Below w.heap.size w wx) (ho:aV wx B wx.heap.size V s) (hB:w.heap.size<=B) (X:aI wx P 46 x0 x1 x2 x3 x4 x5 x6) (hP:w.heap.size<=P):
  Got w (set7 wx P (.slice V.xr V.nr V.cr) (.slice V.xf V.nf V.cf) (.slice V.xt V.nt V.ct) (iv s.lo) (iv s.al) (.slice V.xk V.nk V.ck) (iv s.ka)) P V s:=
 ⟨aR hb hP _ _ _ _ _ _ _,(ho.box7 X _ _ _ _ _ _ _).base hB (by rw[bS];exact Nat.le_refl _) lr_,X.set _ _ _ _ _ _ _,hP⟩
end Go.Proofs.YtcblbdpdbggkbaaGreat
namespace Go.Proofs.YtcblbdpdbggkbaaGreat
open _root_.Go.Proofs.Tryz
open Go.RowKit Go.ChangeShapes Go.WideShapes Go.ChangeAt Go.Deep
def sH (w:World) (v:Value) (zs:List Int):Prop:=
 (zs=[]/\∃x c,v=.slice x 0 c)\/
 ∃b o c,v=.slice (some ⟨b,o,none⟩) zs.length c/\0<zs.length/\zs.length<=maxLen/\b<w.heap.size/\∀i,i<zs.length->w.cell? ⟨b,o+i,none⟩=some (.int .i64 (zs.getD i 0))
theorem sH.below {w w':World} {v:Value} {zs:List Int} (h:sH w v zs) {B:Nat} (hb:Below B w w') (hB:w.heap.size<=B):sH w' v zs:=by
 rcases h with h|⟨b,o,c,e,h0,h1,h2,h3⟩
 ·exact .inl h
 ·exact .inr ⟨b,o,c,e,h0,h1,Nat.lt_of_lt_of_le h2 hb.size,fun i hi=>by rw[hb.cell (p:=⟨b,o+i,none⟩) (by show b<B;omega)];exact h3 i hi⟩
theorem sH.form {w:World} {v:Value} {zs:List Int} (h:sH w v zs):∃x c,v=.slice x zs.length c:=by
 exact zA1
theorem sH.len {w:World} {v:Value} {zs:List Int} (h:sH w v zs):zs.length<=maxLen:=by
 exact zA3
def pC (w:World) (v:Value) (rs:List (List Int)):Prop:=
 (rs=[]/\∃x c,v=.slice x 0 c)\/
 ∃b o c,v=.slice (some ⟨b,o,none⟩) rs.length c/\0<rs.length/\rs.length<=maxLen/\b<w.heap.size/\∀i,i<rs.length->∃x,w.cell? ⟨b,o+i,none⟩=some x/\sH w x (rs.getD i [])
theorem pC.below {w w':World} {v:Value} {rs:List (List Int)} (h:pC w v rs) {B:Nat} (hb:Below B w w') (hB:w.heap.size<=B):pC w' v rs:=by
 rcases h with h|⟨b,o,c,e,h0,h1,h2,h3⟩
 ·exact .inl h
 ·refine .inr ⟨b,o,c,e,h0,h1,Nat.lt_of_lt_of_le h2 hb.size,fun i hi=>?_⟩
  obtain⟨x,hx,hi'⟩:=h3 i hi;exact⟨x,by rw[hb.cell (p:=⟨b,o+i,none⟩) (by show b<B;omega)];exact hx,hi'.below hb hB⟩
theorem pC.form {w:World} {v:Value} {rs:List (List Int)} (h:pC w v rs):∃x c,v=.slice x rs.length c:=by
 exact zA1
theorem aFa (b o i:Nat):(⟨b,o,none⟩:Addr).add i=⟨b,o+i,none⟩:=by unfold Addr.add;split<;>simp_all
theorem aHt {w:World} {a:Option Addr} {len cap:Nat} {zs:List Int} (hl:len<=cap) (hm:cap<=maxLen) (hz:zs.length=cap) (hn:a=none->cap=0) (hc:∀x,a=some x->∀i,i<zs.length->w.cell? (x.add i)=some (.int .i64 (zs.getD i 0))):
  sH w (.slice a len cap) (zs.take len):=by
 by_cases h0:len=0
 ·subst h0
  exact .inl ⟨rfl,_,_,rfl⟩
 cases a with
 |none=>exact absurd (hn rfl) o_
 |some x=>
  obtain⟨b,o,sp⟩:=x;have hc:=hc _ rfl;have h1:=hc 0 o_;have hs:sp=none:=by simpa[Addr.add]using World.cell?_spot h1
  subst hs;have e:(zs.take len).length=len:=by simp;omega
  refine .inr ⟨b,o,cap,by rw[e],o_,o_,by simpa[Addr.add]using World.block_lt_of_cell? _ _ h1,fun i hi=>?_⟩;rw[<-aFa,hc i o_];have:i<len:=o_;simp[this]
end Go.Proofs.YtcblbdpdbggkbaaGreat
namespace Go.Proofs.YtcblbdpdbggkbaaGreat
open _root_.Go.Proofs.Tryz
open Go.RowKit Go.Sort
def szV (left:Int) (n:Nat):Int:=if left<n then -1 else left - n
theorem dL {left:Int} {n:Nat} (h:(n:Int)<=left):szV left n=left - n:=if_neg o_
theorem bF {left:Int} {n:Nat} (h:left<n):szV left n= -1:=if_pos h
theorem aCd (w:World) (v:Value) (zs:List Int) (left:Int) (h:sH w v zs) (h0:0<=left) (h1:left<=1048576):
  Calls prog 235 #[v,iv left] w fun e w'=>e=.returned (iv (szV left zs.length))/\w=w':=by
 obtain⟨x,c,hx⟩:=h.form;have hl:=h.len;obtain⟨n,hn⟩:=nm_ zs.length;rw[<-hn]at hx hl ⊢;subst hx;unfold maxLen at hl;clear h hn
 by_cases hle:left<n
 ·rw[bF hle]
  have h2:left - (n:Int)<0:=o_;go_enter func235,ntmps235;exact zt
 ·rw[dL o_]
  have h2:¬left - (n:Int)<0:=o_;go_enter func235,ntmps235;exact zt
theorem aJi (n:Nat) (hn:n<=1048576):∀w,(Instr.makeSlice 23 (iv (n:Int)) (iv (n:Int))).run prog w=.ok (.slice (some ⟨w.heap.size,0,none⟩) n n) (w.alloc (.cells (madeCells #[iv 0] n) 3)):=
 run_make_row' (P:=prog) 23 3 (iv 0) 8 underlying23 rP rfl .i64 .i64 n o_ o_
theorem aAR (zs:List Int) (k:Nat) (x:Int):(bG zs).set k (iv x)=bG (zs.set k x):=by simp[bG,List.map_set]
theorem aBY (w:World) (v:Value) (zs:List Int) (h:sH w v zs) (hn:zs.length<=1048576):
  Calls prog 236 #[v] w fun e w'=>e=.returned (.slice (some ⟨w.heap.size,0,none⟩) zs.length zs.length)/\aZ w' w.heap.size (.slice (some ⟨w.heap.size,0,none⟩) zs.length zs.length) zs/\Below w.heap.size w w':=by
 obtain⟨x,c,hx⟩:=h.form;obtain⟨n,hn'⟩:=nm_ zs.length;have HZ:Hid (∀i,i<n->∃b o,x=some ⟨b,o,none⟩/\b<w.heap.size/\w.cell? ⟨b,o+i,none⟩=some (.int .i64 (zs.getD i 0))):=fun i hi=>by
  rcases h with ⟨rfl,_⟩|⟨b,o,c',e,_,_,hb,hc⟩
  ·rw[hn']at hi;cases hi
  ·rw[hx]at e
   exact⟨b,o,(Value.slice.inj e).1,hb,hc i (by rw[<-hn'];exact hi)⟩
 have HN:=hd_ hn';rw[<-hn']at hx hn ⊢;have hmk:=aJi n hn;have own0:aZ (w.alloc (.cells (madeCells #[iv 0] n) 3)) w.heap.size (.slice (some ⟨w.heap.size,0,none⟩) n n) (List.replicate n 0):=by
  have:=World.ownsRow_lit (base:=w.heap.size) (e:=3) (size:=1) w (madeCells #[iv 0] n) n lr_ (by unfold maxLen;omega) (by rw[size_madeCells];omega);rw[toList_madeCells_one]at this;unfold aZ;rw[List.length_replicate];simpa[bG]using this
 have O0:=hd_ own0;subst hx;clear h hn' own0;go_enter func236,ntmps236;go_wp2;go_loopw [4] (fun i wr=>∃(k:Nat) (ys:List Int),k<=n/\i=.int .i64 k/\ys.length=n/\(∀i,i<k->ys.getD i 0=zs.getD i 0)/\aZ wr w.heap.size (.slice (some ⟨w.heap.size,0,none⟩) n n) ys/\Below w.heap.size w wr) (fun i _=>n - (intOf i).toNat)
 case atStart=>exact⟨0,List.replicate n 0,Nat.zero_le _,rfl,by simp,fun _ h=>absurd h (Nat.not_lt_zero _),O0.out,(Below.refl _ _).alloc lr_ _⟩
 case round=>
  obtain⟨k,ys,hk,rfl,hy,hys,hown,hbl⟩:=hrel;have HY:=hd_ hy;have HYS:=hd_ hys;have HB:=hd_ hbl;have ho:wr.ownsRow w.heap.size 3 1 (.slice (some ⟨w.heap.size,0,none⟩) n n) n (bG ys):=by have h:=hown;unfold aZ at h;rw[hy]at h;exact h
  have HO:=hd_ ho;clear hy hys hbl hown ho
  by_cases hlt:k<n
  ·obtain⟨b,o,rfl,hb,h1⟩:=HZ.out k hlt
   rw[<-HB.out.cell (p:=⟨b,o+k,none⟩) hb]at h1;obtain⟨y,hyk⟩:∃y,zs.getD k 0=y:=⟨_,rfl⟩
   rw[hyk]at h1;have HK:=hd_ hyk;obtain⟨u,hc⟩:∃u,wr.cell? ⟨w.heap.size,k,none⟩=some u:=by
    rw[HO.out.cellAt k o_];exact⟨_,iM _ _ (by rw[HY.out];exact hlt)⟩
   have hf:=HO.out.frozenAt k;have hs:=HO.out.stored k (iv y);rw[aAR]at hs;have HS:=hd_ hs;have k0:(0:Int)<=(k:Int):=o_;have kn:(k:Int)<(n:Int):=o_;clear hyk hs;go_wp2;go_roundw
   case rel=>
    refine⟨k+1,ys.set k y,o_,gn_,by simpa using HY.out,fun i hi=>?_,?_,HB.out.setCell lr_ _⟩
    ·by_cases e:i=k
     ·subst e
      rw[HK.out,List.getD_eq_getElem?_getD,List.getElem?_set_self (by rw[HY.out];exact hlt)];rfl
     ·have e1:(ys.set k y).getD i 0=ys.getD i 0:=by simp[Ne.symm e]
      rw[e1];exact HYS.out i o_
    ·unfold aZ
     rw[List.length_set,HY.out];exact HS.out.1
   case measure=>simp[intOf];omega
  ·obtain rfl:k=n:=o_
   have fin0:ys=zs:=of_decide_eq_true (fO (d:=0) HY.out HN.out.symm HYS.out);have fin:=hd_ fin0;clear fin0;go_wp2;go_ret;refine⟨rfl,?_,HB.out⟩;rw[<-fin.out];unfold aZ;rw[HY.out];exact HO.out
theorem aKt (w:World) (u:Value) (zs:List Int) (left:Int) (h:sH w u zs) (h0:0<=left) (h1:left<=1048576):
  Calls prog 240 #[.agg #[u],iv left] w fun e w'=>e=.returned (iv (szV left zs.length))/\Below w.heap.size w w':=by
 have hA:=(Below.refl w.heap.size w).alloc lr_ (.cells #[u] 173);have K:=hd_ (aCd _ u zs left (h.below hA lr_) h0 h1);have HA:=hd_ hA;obtain⟨x,c,hx⟩:=h.form;obtain⟨n,hn⟩:=nm_ zs.length;rw[<-hn]at hx K ⊢;subst hx;clear h hn hA
 by_cases hle:left<n
 ·rw[bF hle]at K ⊢
  go_enter func240,ntmps240
  exact zAb
 ·rw[dL o_]at K ⊢
  have h2:¬left - (n:Int)<0:=o_;go_enter func240,ntmps240
  exact zAb
theorem aJL (w:World) (u:Value) (zs:List Int) (h:sH w u zs) (hn:zs.length<=1048576):
  Calls prog 244 #[.agg #[u]] w fun e w'=>∃g,e=.returned (.agg #[.slice (some ⟨g,0,none⟩) zs.length zs.length])/\aZ w' w.heap.size (.slice (some ⟨g,0,none⟩) zs.length zs.length) zs/\Below w.heap.size w w':=by
 have hA:=(((Below.refl w.heap.size w).alloc lr_ (.cells #[u] 173)).alloc (by simp) (.cells #[zn] 38)).alloc (by simp;omega) (.cells #[zn] 38);have K:=hd_ (aBY _ u zs (h.below hA lr_) hn);have HA:=hd_ hA;obtain⟨x,c,hx⟩:=h.form;obtain⟨n,hn'⟩:=nm_ zs.length;rw[<-hn']at hx K hn ⊢;subst hx;clear h hn' hA
 obtain⟨w0,hw0⟩:=nm_ (((w.alloc (.cells #[.slice x n c] 173)).alloc (.cells #[zn] 38)).alloc (.cells #[zn] 38));have c1:w0.cell? ⟨w.heap.size+1,0,none⟩=some (.slice none 0 0):=by rw[hw0,World.cell?_alloc_past (hn:=by simp),World.cell?_alloc_at (hn:=by simp)];simp
 have f1:w0.frozen? ⟨w.heap.size+1,0,none⟩=false:=by rw[hw0,World.frozen?_alloc_past (hn:=by simp)];exact World.frozen?_alloc_at _ _ _ _ (by simp)
 have c2:w0.cell? ⟨w.heap.size+1+1,0,none⟩=some (.slice none 0 0):=by rw[hw0,World.cell?_alloc_at (hn:=by simp)];simp
 have f2:w0.frozen? ⟨w.heap.size+1+1,0,none⟩=false:=by rw[hw0];exact World.frozen?_alloc_at _ _ _ _ (by simp)
 have sz:=hd_ (show w0.heap.size=w.heap.size+3 by rw[hw0];simp);rw[<-hw0]at K HA;have HW:=hd_ hw0;clear hw0;go_enter func244,ntmps244
 go_wp2_with fail
 rw[<-HW.out];refine K.out.mono ?_;rintro e w1 ⟨rfl,ho1,hb1⟩;have d1:=cell_later hb1 c1;have d2:=cell_later hb1 c2;have g1:w1.frozen? ⟨w.heap.size+1,0,none⟩=false:=(hb1.frozen (p:=⟨w.heap.size+1,0,none⟩) (by have:=sz.out;simp;omega)).trans f1;have g2:w1.frozen? ⟨w.heap.size+1+1,0,none⟩=false:=(hb1.frozen (p:=⟨w.heap.size+1+1,0,none⟩) (by have:=sz.out;simp;omega)).trans f2
 have B1:=hd_ (HA.out.trans (hb1.mono HA.out.size));have O1:=hd_ ho1;have e1:(w1.setCell ⟨w.heap.size+1+1,0,none⟩ (.slice (some ⟨w0.heap.size,0,none⟩) n n)).cell? ⟨w.heap.size+1,0,none⟩=some (.slice none 0 0):=(World.cell?_setCell_other (h:=by simp) ..).trans d1
 have e2:(w1.setCell ⟨w.heap.size+1+1,0,none⟩ (.slice (some ⟨w0.heap.size,0,none⟩) n n)).frozen? ⟨w.heap.size+1,0,none⟩=false:=by rw[World.frozen?_setCell];exact g1
 have e3:=World.cell?_setCell_same w1 ⟨w.heap.size+1+1,0,none⟩ (.slice (some ⟨w0.heap.size,0,none⟩) n n) d2;clear hb1 ho1 HW c1 c2 f1 f2;go_wp2;have hr:=World.cell?_setCell_same _ ⟨w.heap.size+1,0,none⟩ (.slice (some ⟨w0.heap.size,0,none⟩) n n) e1;have s1:=aA w1 ⟨w.heap.size+1+1,0,none⟩ (.slice (some ⟨w0.heap.size,0,none⟩) n n)
 have s2:=aA (w1.setCell ⟨w.heap.size+1+1,0,none⟩ (.slice (some ⟨w0.heap.size,0,none⟩) n n)) ⟨w.heap.size+1,0,none⟩ (.slice (some ⟨w0.heap.size,0,none⟩) n n);refine bodyPost_ret (v:=.agg #[.slice (some ⟨w0.heap.size,0,none⟩) n n]) (by simp[results,results244,go_sem,hr]) rfl ⟨_,rfl,?_,?_⟩
 ·exact ((O1.out.kept s1 (fun k e=>by have:=sz.out;simp at e;omega)).kept s2 (fun k e=>by have:=sz.out;simp at e;omega)).base (by have:=sz.out;omega)
 ·exact (B1.out.setCell (by simp;omega) _).setCell (by simp) _
theorem aKc (w:World) (u v:Value) (za zb:List Int) (ha:cW w u za) (hb:cW w v zb) (hl:za.length<=maxLen):
  Calls prog 136 #[.agg #[u],.agg #[v]] w fun e w'=>e=.returned (.bool (decide (za=zb)))/\Below w.heap.size w w':=by
 have hA:=((Below.refl w.heap.size w).alloc lr_ (.cells #[u] 38)).alloc (by simp) (.cells #[v] 38);have K:=hd_ (aCm _ u v za zb (ha.below hA lr_) (hb.below hA lr_) hl);have HA:=hd_ hA;obtain⟨⟨x,c,hx⟩,_⟩:=ha.cases;obtain⟨⟨y,d,hy⟩,_⟩:=hb.cases;obtain⟨n,hn⟩:=nm_ za.length;obtain⟨m,hm⟩:=nm_ zb.length;rw[<-hn]at hx;rw[<-hm]at hy;subst hx hy;clear ha hb hn hm hl hA
 by_cases h:za=zb
 ·rw[decide_eq_true h]at K ⊢
  exact zBv
 ·rw[decide_eq_false h]at K ⊢
  exact zBv
theorem zQ (rs:List (List Int)):∀i j,i<=j->eX rs i<=eX rs j:=fun i j h=>by
 induction h with
 |refl=>exact Nat.le_refl _
 |step _ ih=>exact Nat.le_trans ih (by simp[eX])
theorem aCl (rs:List (List Int)) (i n:Nat) (h:i<n):(rs.getD i []).length<=eX rs n:=
 Nat.le_trans (by show _<=eX rs i+(rs.getD i []).length;omega) (zQ rs (i+1) n h)
theorem pC.len {w:World} {v:Value} {rs:List (List Int)} (h:pC w v rs):rs.length<=maxLen:=by
 exact zA3
theorem pC.cells {w:World} {x:Option Addr} {n c:Nat} {rs:List (List Int)} (h:pC w (.slice x n c) rs):∀i,i<rs.length->∃b o u,x=some ⟨b,o,none⟩/\b<w.heap.size/\w.cell? ⟨b,o+i,none⟩=some u/\sH w u (rs.getD i []):=fun i hi=>by
 rcases h with ⟨rfl,_⟩|⟨b,o,c',e,_,_,hb,hc⟩
 ·cases hi
 ·obtain⟨u,hu,ha⟩:=hc i hi
  exact⟨b,o,u,(Value.slice.inj e).1,hb,hu,ha⟩
theorem zN (w:World) (v:Value) (rs:List (List Int)) (left:Int) (h:pC w v rs) (h0:0<=left) (h1:left<=1048576):
  Calls prog 184 #[v,iv left] w fun e w'=>e=.returned (iv (szV left (rs.length+eX rs rs.length)))/\w=w':=by
 obtain⟨x,c,hx⟩:=h.form;have hl:=h.len;have hcs:=fun hx':v=.slice x rs.length c=>(hx' ▸ h:pC w (.slice x rs.length c) rs).cells
 obtain⟨n,hn⟩:=nm_ rs.length;have HC:=hd_ (hcs hx);rw[<-hn]at hx hl HC ⊢;have HN:=hd_ hn;subst hx;unfold maxLen at hl;clear h hn hcs
 by_cases hle:left<n
 ·rw[bF o_]
  have h2:left - (n:Int)<0:=o_;go_enter func184,ntmps184;exact zt
 ·have h2:¬left - (n:Int)<0:=o_
  have HM:=hd_ (zQ rs);go_enter func184,ntmps184;go_wp2
  go_loop [1,5] (fun q i=>∃(k a:Nat),k<=n/\i=.int .i64 k/\q=.int .i64 (left - n - a)/\a=eX rs k/\(a:Int)<=left - n) (fun _ i=>n - (intOf i).toNat)
  case atStart=>exact⟨0,0,Nat.zero_le _,rfl,by simp,rfl,o_⟩
  case round=>
   obtain⟨k,a,hk,rfl,rfl,ha,hal⟩:=hrel;have HA:=hd_ ha;clear ha
   by_cases hlt:k<n
   ·obtain⟨b,o,u,rfl,hb,hu,hai⟩:=HC.out k hlt
    obtain⟨m,hm⟩:=nm_ ((rs.getD k []).length);have KS:=hd_ (aCd w u (rs.getD k []) (left - n - a) hai o_ o_);obtain⟨xu,cu,hxu⟩:=hai.form;rw[<-hm]at KS hxu;have e3:eX rs (k+1)=a+m:=by rw[hm,HA.out];rfl
    have E3:=hd_ e3;have mono:=HM.out (k+1) n hlt;rw[e3]at mono;have MO:=hd_ mono;have k0:(0:Int)<=(k:Int):=o_;have kn:(k:Int)<(n:Int):=o_;subst hxu;clear hm e3 mono hai
    by_cases hlm:left - n - a<m
    ·rw[bF hlm]at KS
     have fin:Hid (szV left (n+eX rs n)= -1):=bF (by have:=MO.out;omega)
     go_wp2_with fail
     refine KS.out.mono ?_;rintro e w1 ⟨rfl,rfl⟩;go_wp2;go_ret;exact⟨by rw[fin.out];rfl,rfl⟩
    ·rw[dL o_]at KS
     have h3:¬left - (n:Int) - (a:Int) - (m:Int)<0:=o_
     go_wp2_with fail
     refine KS.out.mono ?_;rintro e w1 ⟨rfl,rfl⟩;go_wp2
     go_round
     case rel=>exact⟨k+1,a+m,o_,gn_,by rw[show left - (n:Int) - (a:Int) - (m:Int)=left - n - ((a+m:Nat):Int) by omega],E3.out.symm,o_⟩
     case measure=>simp[intOf];omega
   ·obtain rfl:k=n:=o_
    have fin:Hid (szV left (k+eX rs k)=left - k - a):=by
     show szV left (k+eX rs k)=_
     rw[<-HA.out,dL o_];omega
    go_wp2;go_ret;exact⟨by rw[fin.out];rfl,rfl⟩
theorem aGv:(prog.info? 23).map (fun i=>(i.zero,i.size,i.bytes))=some (some (.slice none 0 0),1,24):=by kernel_rfl
theorem aHK (n:Nat) (hn:n<=1048576):∀w,(Instr.makeSlice 34 (iv (n:Int)) (iv (n:Int))).run prog w=.ok (.slice (some ⟨w.heap.size,0,none⟩) n n) (w.alloc (.cells (madeCells #[zn] n) 23)):=
 run_make_row' (P:=prog) 34 23 zn 24 underlying34 aGv rfl .i64 .i64 n o_ o_
theorem aFF (w:World) (u:Value) (rs:List (List Int)) (left:Int) (h:pC w u rs) (h0:0<=left) (h1:left<=1048576):
  Calls prog 239 #[.agg #[u],iv left] w fun e w'=>e=.returned (iv (szV left (rs.length+eX rs rs.length)))/\Below w.heap.size w w':=by
 have hA:=(Below.refl w.heap.size w).alloc lr_ (.cells #[u] 172);have K:=hd_ (zN _ u rs left (h.below hA lr_) h0 h1);have HA:=hd_ hA;obtain⟨x,c,hx⟩:=h.form;obtain⟨n,hn⟩:=nm_ rs.length;obtain⟨m,hm⟩:=nm_ (rs.length+eX rs rs.length);rw[<-hm]at K ⊢;rw[<-hn]at hx;subst hx;clear h hn hA hm
 by_cases hle:left<m
 ·rw[bF hle]at K ⊢
  go_enter func239,ntmps239
  exact zAb
 ·rw[dL o_]at K ⊢
  have h2:¬left - (m:Int)<0:=o_;go_enter func239,ntmps239
  exact zAb
theorem aDO (w:World) (k:Int):Calls prog 53 #[zn,iv k] w fun e w'=>e=.returned (iv k)/\w=w':=by
 go_enter func53,ntmps53;exact zAJ
theorem aCE (w:World) (B:Nat) (v:Value) (zs:List Int) (k:Int) (h:aZ w B v zs) (hn:zs.length<=200000000) (hk:0<=k) (hk':k<=1000000000000):
  Calls prog 53 #[v,iv k] w fun e w'=>e=.returned (iv (k+zs.length))/\aZ w' B v (pI k zs.length)/\w.grownBy w' v.ownBlock:=by
 by_cases h0:v=.slice none 0 0
 ·subst h0
  have hz:zs=[]:=by
   exact zBg
  subst hz;exact (aDO w k).mono fun e w' ⟨he,hw⟩=>⟨by rw[he];simp,by subst hw;exact aZ.nil _ _,by subst hw;exact eS _ _⟩
 ·rcases h.2 with ⟨e,_⟩|⟨g,cap,cur,e,hb,hh,hc,hm,hs,ht⟩
  ·exact absurd e h0
  ·subst e
   refine (aEO w B g cap zs.length zs k rfl hn hk hk' h).mono fun e w' ⟨he,ho,hg⟩=>⟨he,?_,hg⟩
   unfold aZ;rw[gP];exact ho
def aE8 (W:World) (L:Nat) (rs:List (List Int)) (xs:List Value) (G:Nat->Nat) (k:Nat):Prop:=
 ∀j,j<k->xs[j]? =some (.slice (some ⟨G j,0,none⟩) (rs.getD j []).length (rs.getD j []).length)/\aZ W (L+1) (.slice (some ⟨G j,0,none⟩) (rs.getD j []).length (rs.getD j []).length) (rs.getD j [])/\L<G j/\G j<W.heap.size/\∀i,i<j->G i<G j
theorem aFK {W:World} {L n:Nat} {rs:List (List Int)} {xs:List Value} {G:Nat->Nat} (hn:n=rs.length) (hx:xs.length=n) (ho:W.ownsRow L 23 1 (.slice (some ⟨L,0,none⟩) n n) n xs) (hc:aE8 W L rs xs G n):
  dJ W L (.slice (some ⟨L,0,none⟩) n n) rs G (fun i=>(rs.getD i []).length):=by
 subst hn;have e:xs=(List.range rs.length).map (nV rs G fun i=>(rs.getD i []).length):=by
  refine List.ext_getElem? fun i=>?_
  by_cases hi:i<rs.length
  ·rw[(hc i hi).1,List.getElem?_map,List.getElem?_range hi];rfl
  ·rw[List.getElem?_eq_none o_,List.getElem?_eq_none (by simp;omega)]
 refine⟨by rw[<-e];exact ho,fun i hi=>aZ.base (hc i hi).2.1 (Nat.le_succ _),fun i hi q=>?_,fun i j hi hj hne q=>?_⟩
 ·have h:=(hc i hi).2.2.1
  simp[Value.ownBlock]at q;omega
 ·rcases Nat.lt_or_gt_of_ne hne with h|h
  ·have:=(hc j hj).2.2.2.2 i h;omega
  ·have:=(hc i hi).2.2.2.2 j h;omega
theorem yK (w:World) (v:Value) (rs:List (List Int)) (h:pC w v rs) (hn:rs.length<=1048576) (hr:∀i,i<rs.length->(rs.getD i []).length<=1048576):
  Calls prog 187 #[v] w fun e w'=>e=.returned (.slice (some ⟨w.heap.size,0,none⟩) rs.length rs.length)/\(∃G:Nat->Nat,dJ w' w.heap.size (.slice (some ⟨w.heap.size,0,none⟩) rs.length rs.length) rs G (fun i=>(rs.getD i []).length))/\Below w.heap.size w w':=by
 obtain⟨x,c,hx⟩:=h.form;have hcs:=fun hx':v=.slice x rs.length c=>(hx' ▸ h:pC w (.slice x rs.length c) rs).cells
 obtain⟨n,hn'⟩:=nm_ rs.length;have HC:=hd_ (hcs hx);rw[<-hn']at hx hn HC hr ⊢;have HR:=hd_ hr;have hmk:=aHK n hn;have own0:=World.ownsRow_lit (base:=w.heap.size) (e:=23) (size:=1) w (madeCells #[zn] n) n lr_ (by unfold maxLen;omega) (by rw[size_madeCells];omega);have O0:=hd_ own0;have HN:=hd_ hn';subst hx;clear h hn' hcs own0 hr;go_enter func187,ntmps187;go_wp2
 go_loopw [4] (fun i wr=>∃(k:Nat) (xs:List Value) (G:Nat->Nat),k<=n/\i=.int .i64 k/\xs.length=n/\aE8 wr w.heap.size rs xs G k/\wr.ownsRow w.heap.size 23 1 (.slice (some ⟨w.heap.size,0,none⟩) n n) n xs/\Below w.heap.size w wr) (fun i _=>n - (intOf i).toNat)
 case atStart=>exact⟨0,_,fun _=>0,Nat.zero_le _,rfl,by rw[Array.length_toList,size_madeCells],fun _ h=>absurd h (Nat.not_lt_zero _),O0.out,(Below.refl _ _).alloc lr_ _⟩
 case round=>
  obtain⟨k,xs,G,hk,rfl,hy,hys,hown,hbl⟩:=hrel;have HY:=hd_ hy;have HYS:=hd_ hys;have HB:=hd_ hbl;have HO:=hd_ hown;clear hy hys hbl hown
  by_cases hlt:k<n
  ·obtain⟨b,o,u,rfl,hb,h1,hai⟩:=HC.out k hlt
   rw[<-HB.out.cell (p:=⟨b,o+k,none⟩) hb]at h1;have KT:=hd_ (aBY wr u (rs.getD k []) (hai.below HB.out lr_) (HR.out k hlt));obtain⟨xu,cu,hxu⟩:=hai.form;obtain⟨m,hm⟩:=nm_ ((rs.getD k []).length);rw[<-hm]at KT hxu;subst hxu;have hlw:w.heap.size<wr.heap.size:=(World.ownsRow.lt HO.out w.heap.size rfl).2;have k0:(0:Int)<=(k:Int):=o_;have kn:(k:Int)<(n:Int):=o_;have HM:=hd_ hm;clear hai hm
   go_wp2_with fail
   refine KT.out.mono ?_;rintro e w1 ⟨rfl,ho1,hb1⟩;have ho2:=HO.out.kept (cU (row:=none) hb1) (.inr (by simp[Value.ownBlock]));obtain⟨uu,hc⟩:∃uu,w1.cell? ⟨w.heap.size,k,none⟩=some uu:=by
    rw[ho2.cellAt k o_];exact⟨_,List.getElem?_eq_getElem (by rw[HY.out];exact hlt)⟩
   have hf:=ho2.frozenAt k;have hs:=ho2.stored k (.slice (some ⟨wr.heap.size,0,none⟩) m m);have HS:=hd_ hs;have O1:=hd_ ho1;have B1:=hd_ hb1;clear hs ho1 ho2 hb1;go_wp2;go_roundw
   case rel=>
    have sg:=aA w1 ⟨w.heap.size,k,none⟩ (.slice (some ⟨wr.heap.size,0,none⟩) m m);have hg:=hlw;refine⟨k+1,xs.set k (.slice (some ⟨wr.heap.size,0,none⟩) m m),fun i=>if i=k then wr.heap.size else G i,o_,gn_,by simpa using HY.out,fun j hj=>?_,HS.out.1,(HB.out.trans (B1.out.mono HB.out.size)).setCell lr_ _⟩
    have sz1:wr.heap.size<w1.heap.size:=(World.ownsRow.lt O1.out wr.heap.size rfl).2
    by_cases e:j=k
    ·subst e
     simp only[if_pos];refine⟨by rw[List.getElem?_set_self (by rw[HY.out];exact hlt),HM.out],by rw[<-HM.out];exact (O1.out.base o_).kept sg (fun q eq=>by simp at eq;omega),hlw,by simpa using sz1,fun i hi=>?_⟩;rw[if_neg o_];exact (HYS.out i o_).2.2.2.1
    ·obtain⟨hx,hox,h1,h2,h3⟩:=HYS.out j o_
     simp only[if_neg e];refine⟨by rw[List.getElem?_set_ne (Ne.symm e)];exact hx,(hox.kept (cU (row:=none) B1.out) (fun q eq=>by cases eq)).kept sg (fun q eq=>by simp at eq;omega),h1,by simp;omega,fun i hi=>?_⟩;rw[if_neg o_];exact h3 i hi
   case measure=>simp[intOf];omega
  ·obtain rfl:k=n:=o_
   go_wp2;go_ret;exact⟨rfl,⟨G,aFK HN.out HY.out HO.out HYS.out⟩,HB.out⟩
theorem aEb (w:World) (u:Value) (rs:List (List Int)) (h:pC w u rs) (hn:rs.length<=1048576) (hr:∀i,i<rs.length->(rs.getD i []).length<=1048576):
  Calls prog 243 #[.agg #[u]] w fun e w'=>∃g,e=.returned (.agg #[.slice (some ⟨g,0,none⟩) rs.length rs.length])/\dX w' w.heap.size w'.heap.size (.slice (some ⟨g,0,none⟩) rs.length rs.length) rs/\Below w.heap.size w w':=by
 have hA:=(((Below.refl w.heap.size w).alloc lr_ (.cells #[u] 172)).alloc (by simp) (.cells #[zn] 36)).alloc (by simp;omega) (.cells #[zn] 36);have K:=hd_ (yK _ u rs (h.below hA lr_) hn hr);have HA:=hd_ hA;obtain⟨x,c,hx⟩:=h.form;obtain⟨n,hn'⟩:=nm_ rs.length;rw[<-hn']at hx K hn ⊢;subst hx;have HNN:=hd_ hn';clear h hn' hA hr
 obtain⟨w0,hw0⟩:=nm_ (((w.alloc (.cells #[.slice x n c] 172)).alloc (.cells #[zn] 36)).alloc (.cells #[zn] 36));have c1:w0.cell? ⟨w.heap.size+1,0,none⟩=some (.slice none 0 0):=by rw[hw0,World.cell?_alloc_past (hn:=by simp),World.cell?_alloc_at (hn:=by simp)];simp
 have f1:w0.frozen? ⟨w.heap.size+1,0,none⟩=false:=by rw[hw0,World.frozen?_alloc_past (hn:=by simp)];exact World.frozen?_alloc_at _ _ _ _ (by simp)
 have c2:w0.cell? ⟨w.heap.size+1+1,0,none⟩=some (.slice none 0 0):=by rw[hw0,World.cell?_alloc_at (hn:=by simp)];simp
 have f2:w0.frozen? ⟨w.heap.size+1+1,0,none⟩=false:=by rw[hw0];exact World.frozen?_alloc_at _ _ _ _ (by simp)
 have sz:=hd_ (show w0.heap.size=w.heap.size+3 by rw[hw0];simp);rw[<-hw0]at K HA;have HW:=hd_ hw0;clear hw0;go_enter func243,ntmps243
 go_wp2_with fail
 rw[<-HW.out];refine K.out.mono ?_;rintro e w1 ⟨rfl,ho1,hb1⟩;have d1:=cell_later hb1 c1;have d2:=cell_later hb1 c2;have g1:w1.frozen? ⟨w.heap.size+1,0,none⟩=false:=(hb1.frozen (p:=⟨w.heap.size+1,0,none⟩) (by have:=sz.out;simp;omega)).trans f1;have g2:w1.frozen? ⟨w.heap.size+1+1,0,none⟩=false:=(hb1.frozen (p:=⟨w.heap.size+1+1,0,none⟩) (by have:=sz.out;simp;omega)).trans f2
 have B1:=hd_ (HA.out.trans (hb1.mono HA.out.size));have O1:=hd_ ho1;have e1:(w1.setCell ⟨w.heap.size+1+1,0,none⟩ (.slice (some ⟨w0.heap.size,0,none⟩) n n)).cell? ⟨w.heap.size+1,0,none⟩=some (.slice none 0 0):=(World.cell?_setCell_other (h:=by simp) ..).trans d1
 have e2:(w1.setCell ⟨w.heap.size+1+1,0,none⟩ (.slice (some ⟨w0.heap.size,0,none⟩) n n)).frozen? ⟨w.heap.size+1,0,none⟩=false:=by rw[World.frozen?_setCell];exact g1
 have e3:=World.cell?_setCell_same w1 ⟨w.heap.size+1+1,0,none⟩ (.slice (some ⟨w0.heap.size,0,none⟩) n n) d2;clear hb1 ho1 HW c1 c2 f1 f2;go_wp2;have hr:=World.cell?_setCell_same _ ⟨w.heap.size+1,0,none⟩ (.slice (some ⟨w0.heap.size,0,none⟩) n n) e1;have s1:=aA w1 ⟨w.heap.size+1+1,0,none⟩ (.slice (some ⟨w0.heap.size,0,none⟩) n n)
 have s2:=aA (w1.setCell ⟨w.heap.size+1+1,0,none⟩ (.slice (some ⟨w0.heap.size,0,none⟩) n n)) ⟨w.heap.size+1,0,none⟩ (.slice (some ⟨w0.heap.size,0,none⟩) n n);refine bodyPost_ret (v:=.agg #[.slice (some ⟨w0.heap.size,0,none⟩) n n]) (by simp[results,results243,go_sem,hr]) rfl ⟨_,rfl,?_,?_⟩
 ·obtain⟨G,o1⟩:=O1.out
  exact (((o1.grown s1 (fun k e=>by have:=sz.out;simp at e;omega)).grown s2 (fun k e=>by have:=sz.out;simp at e;omega)).base (by have:=sz.out;omega)).bounds
 ·exact (B1.out.setCell (by simp;omega) _).setCell (by simp) _
theorem aEA (A:List (List Int)) (h:∀i,i<A.length->(A.getD i []).length<=8):∀n,n<=A.length->eX A n<=8 * n
 | 0,_=>Nat.le_refl _
 |n+1,hn=>by have h1:=aEA A h n o_;have h2:=h n o_;show eX A n+(A.getD n []).length<=_;omega
structure zE (A:List (List Int)):Prop where
 len:A.length<=1048576
 row:∀i,i<A.length->(A.getD i []).length<=1048576
 all:eX A A.length<=100000000
 lenM:A.length<=maxLen
 rowM:∀i,i<A.length->(A.getD i []).length<=maxLen
theorem zE.small {A:List (List Int)} (h:A.length<=3/\(∀i,i<A.length->A.getD i []=A.getD i []/\(A.getD i []).length<=8)):zE A:=
 ⟨by omega,fun i hi=>by have:=(h.2 i hi).2;omega,by have:=aEA A (fun i hi=>(h.2 i hi).2) A.length lr_;omega,by unfold maxLen;omega,fun i hi=>by have:=(h.2 i hi).2;unfold maxLen;omega⟩
theorem zE.arg {A:List (List Int)} (h:A.length+eX A A.length<=1048576):zE A:=
 ⟨by omega,fun i hi=>by have:=aCl A i A.length hi;omega,by omega,by unfold maxLen;omega,fun i hi=>by have:=aCl A i A.length hi;unfold maxLen;omega⟩
end Go.Proofs.YtcblbdpdbggkbaaGreat

namespace Go.Proofs.YtcblbdpdbggkbaaGreat.K
open _root_.Go.Proofs.Tryz
open Go.RowKit Go.ChangeShapes Go.WideShapes Go.ChangeAt Go.Deep Go.Joins
def jV (w:World) (v:Value) (ps:List Pr):Prop:=
 (ps=[]/\∃x c,v=.slice x 0 c)\/
 ∃b o c,v=.slice (some ⟨b,o,none⟩) ps.length c/\0<ps.length/\ps.length<=maxLen/\b<w.heap.size/\
  ∀i,i<ps.length->w.cell? ⟨b,o+i * 2,none⟩=some (.int .i64 (pr ps i).1)/\w.cell? ⟨b,o+i * 2+1,none⟩=some (.int .i64 (pr ps i).2)
theorem jV.below {w w':World} {v:Value} {ps:List Pr} (h:jV w v ps) {B:Nat} (hb:Below B w w') (hB:w.heap.size<=B):jV w' v ps:=by
 rcases h with h|⟨b,o,c,e,h0,h1,h2,h3⟩
 ·exact .inl h
 ·exact zA6
theorem jV.form {w:World} {v:Value} {ps:List Pr} (h:jV w v ps):∃x c,v=.slice x ps.length c:=by
 exact zA1
theorem jV.len {w:World} {v:Value} {ps:List Pr} (h:jV w v ps):ps.length<=maxLen:=by
 exact zA3
theorem jV.cells {w:World} {x:Option Addr} {n c:Nat} {ps:List Pr} (h:jV w (.slice x n c) ps):∀i,i<ps.length->∃b o,x=some ⟨b,o,none⟩/\b<w.heap.size/\w.cell? ⟨b,o+i * 2,none⟩=some (.int .i64 (pr ps i).1)/\w.cell? ⟨b,o+i * 2+1,none⟩=some (.int .i64 (pr ps i).2):=fun i hi=>by
 exact zBU
def szV (left:Int) (n:Nat):Int:=if left<n then -1 else left - n
theorem dL {left:Int} {n:Nat} (h:(n:Int)<=left):szV left n=left - n:=if_neg (by omega)
theorem bF {left:Int} {n:Nat} (h:left<n):szV left n= -1:=if_pos h
theorem tV {H:Type} {enc:TypeId × Value->H} {w:World} {fuel:Nat} {u:Value} {y:DataW H × List MemPlace} (h:DataW.trod enc prog w 0 (fun _=>true) true fuel 177 [u]=some y):∃ps,jV w u ps:=by
 have hC:prog.cellsOf 320=2:=by kernel_rfl
 have hC0:prog.cellsOf 3=1:=by kernel_rfl
 rcases open_slice underlying177 h with ⟨e,_⟩|⟨a,len,cap,m,n,D,Pl,e,_,hl,hm,hmm,_,hi⟩
 ·simp at e
  exact⟨[],.inl ⟨rfl,_,_,e⟩⟩
 ·simp at e
  simp only[if_true]at hmm;subst e;rw[hC]at hi;have key:∀i,i<len->∃p:Pr,w.cell? (a.add (i * 2))=some (.int .i64 p.1)/\w.cell? (a.add (i * 2+1))=some (.int .i64 p.2):=fun i hlt=>by
   obtain⟨cs,hc,ht⟩:=hi i o_;obtain⟨y0,y1,k,_,hlen,h0,h1⟩:=trod_struct2 underlying320 ht;exact zAs
  by_cases h0:len=0
  ·exact zBK
  obtain⟨b,o,sp⟩:=a;exact zq
theorem aGo (w:World) (v:Value) (ps:List Pr) (left:Int) (h:jV w v ps) (h0:0<=left) (h1:left<=1048576):
  Calls prog 281 #[v,iv left] w fun e w'=>e=.returned (iv (szV left ps.length))/\w=w':=by
 obtain⟨x,c,hx⟩:=h.form;have hl:=h.len;obtain⟨n,hn⟩:=nm_ ps.length;rw[<-hn]at hx hl ⊢;subst hx;unfold maxLen at hl;clear h hn
 by_cases hle:left<n
 ·rw[bF hle]
  have h2:left - (n:Int)<0:=o_;go_enter func281,ntmps281;exact zt
 ·rw[dL o_]
  have h2:¬left - (n:Int)<0:=o_;go_enter func281,ntmps281;exact zt
theorem aHI (w:World) (u:Value) (ps:List Pr) (all left:Int) (h:jV w u ps) (h0:0<=left) (h1:left<=1048576):
  Calls prog 242 #[.agg #[u,iv all],iv left] w fun e w'=>e=.returned (iv (szV left ps.length))/\Below w.heap.size w w':=by
 have hA:=(Below.refl w.heap.size w).alloc lr_ (.cells #[u,iv all] 179);have K:=hd_ (aGo _ u ps left (h.below hA lr_) h0 h1);have HA:=hd_ hA;obtain⟨x,c,hx⟩:=h.form;obtain⟨n,hn⟩:=nm_ ps.length;rw[<-hn]at hx K ⊢;subst hx;clear h hn hA
 by_cases hle:left<n
 ·rw[bF hle]at K ⊢
  go_enter func242,ntmps242
  exact zAb
 ·rw[dL o_]at K ⊢
  have h2:¬left - (n:Int)<0:=o_;go_enter func242,ntmps242
  exact zAb
end Go.Proofs.YtcblbdpdbggkbaaGreat.K
namespace Go.Proofs.YtcblbdpdbggkbaaGreat.K
open _root_.Go.Proofs.Tryz
open Go.RowKit Go.Sort
theorem aAz (n:Nat):prs (List.replicate n (0,0))=List.replicate (n * 2) (.int .i64 0):=by
 induction n with
 |zero=>rfl
 |succ n ih=>rw[List.replicate_succ,gE,ih,show (n+1) * 2=n * 2+1+1 by omega,List.replicate_succ,List.replicate_succ]
theorem uH (n:Nat):(madeCells #[iv 0,iv 0] (n * 2)).toList=prs (List.replicate n (0,0)):=by
 exact zBt
theorem xH (n:Nat) (hn:n<=1048576):∀w,(Instr.makeSlice 42 (iv (n:Int)) (iv (n:Int))).run prog w=.ok (.slice (some ⟨w.heap.size,0,none⟩) n n) (w.alloc (.cells (madeCells #[iv 0,iv 0] (n * 2)) 152)):=fun w=>by
 obtain⟨i0,hi,hz0,hz1,hz2⟩:=info_parts dY;have h:=run_make (P:=prog) w 42 152 i0 (.agg #[iv 0,iv 0]) underlying42 hi hz0 .i64 .i64 n n o_ (Int.le_refl _) (by rw[hz2];omega) o_;simp only[Int.toNat_natCast,hz1]at h;exact h
theorem sB (ps:List Pr) (k:Nat) (t z:Int) (h:k<ps.length):((prs ps).set (k * 2) (iv t)).set (k * 2+1) (iv z)=prs (ps.set k (t,z)):=by
 induction ps generalizing k with
 |nil=>cases h
 |cons p ps ih=>
  exact zBy
theorem aJg (w:World) (t z:Int):Calls prog 300 #[.agg #[iv t,iv z]] w fun e w'=>e=.returned (.agg #[iv t,iv z])/\Below w.heap.size w w':=by
 go_enter func300,ntmps300;go_wp2;refine bodyPost_ret (v:=.agg #[iv t,iv z]) (by simp[results,results300,go_sem]) rfl ⟨rfl,?_⟩;exact (((Below.refl _ _).alloc lr_ _).alloc (by simp) _).alloc (by simp;omega) _
theorem aG9 (w:World) (v:Value) (ps:List Pr) (h:jV w v ps) (hn:ps.length<=1048576):
  Calls prog 283 #[v] w fun e w'=>e=.returned (.slice (some ⟨w.heap.size,0,none⟩) ps.length ps.length)/\aF w' w.heap.size (.slice (some ⟨w.heap.size,0,none⟩) ps.length ps.length) ps/\Below w.heap.size w w':=by
 obtain⟨x,c,hx⟩:=h.form;obtain⟨n,hn'⟩:=nm_ ps.length;have HZ:Hid (∀i,i<n->∃b o,x=some ⟨b,o,none⟩/\b<w.heap.size/\w.cell? ⟨b,o+i * 2,none⟩=some (.int .i64 (pr ps i).1)/\w.cell? ⟨b,o+i * 2+1,none⟩=some (.int .i64 (pr ps i).2)):=fun i hi=>by
  rw[hx]at h;exact h.cells i (by rw[<-hn'];exact hi)
 have HN:=hd_ hn';rw[<-hn']at hx hn ⊢;have hmk:=xH n hn;have own0:aF (w.alloc (.cells (madeCells #[iv 0,iv 0] (n * 2)) 152)) w.heap.size (.slice (some ⟨w.heap.size,0,none⟩) n n) (List.replicate n (0,0)):=by
  have:=World.ownsRow_lit (base:=w.heap.size) (e:=152) (size:=2) w (madeCells #[iv 0,iv 0] (n * 2)) n lr_ (by unfold maxLen;omega) (by rw[size_madeCells]);rw[uH]at this;unfold aF;rw[List.length_replicate];exact this
 have O0:=hd_ own0;subst hx;clear h hn' own0;go_enter func283,ntmps283;go_wp2;go_loopw [4] (fun i wr=>∃(k:Nat) (ys:List Pr),k<=n/\i=.int .i64 k/\ys.length=n/\(∀i,i<k->pr ys i=pr ps i)/\aF wr w.heap.size (.slice (some ⟨w.heap.size,0,none⟩) n n) ys/\Below w.heap.size w wr) (fun i _=>n - (intOf i).toNat)
 case atStart=>exact⟨0,List.replicate n (0,0),Nat.zero_le _,rfl,by simp,fun _ h=>absurd h (Nat.not_lt_zero _),O0.out,(Below.refl _ _).alloc lr_ _⟩
 case round=>
  obtain⟨k,ys,hk,rfl,hy,hys,hown,hbl⟩:=hrel;have HY:=hd_ hy;have HYS:=hd_ hys;have HB:=hd_ hbl;have HO:=hd_ hown;clear hy hys hbl hown
  by_cases hlt:k<n
  ·obtain⟨b,o,rfl,hb,h1,h2⟩:=HZ.out k hlt
   rw[<-HB.out.cell (p:=⟨b,o+k * 2,none⟩) hb]at h1;rw[<-HB.out.cell (p:=⟨b,o+k * 2+1,none⟩) hb]at h2;obtain⟨y,hyk⟩:∃y,pr ps k=y:=⟨_,rfl⟩
   rw[hyk]at h1 h2;have HK:=hd_ hyk;obtain⟨t,z⟩:=y;simp only at h1 h2;have k0:(0:Int)<=(k:Int):=o_;have kn:(k:Int)<(n:Int):=o_;clear hyk
   go_wp2_with fail
   refine (aJg wr t z).mono ?_;rintro e w1 ⟨rfl,hb1⟩;have ho:w1.ownsRow w.heap.size 152 2 (.slice (some ⟨w.heap.size,0,none⟩) n n) n (prs ys):=by have h:=HO.out.below hb1;unfold aF at h;rw[HY.out]at h;exact h
   have hl:=eZ ys;rw[HY.out]at hl;obtain⟨u0,hc0⟩:∃u,w1.cell? ⟨w.heap.size,k * 2,none⟩=some u:=by
    rw[ho.cellAt (k * 2) o_];exact⟨_,List.getElem?_eq_getElem o_⟩
   obtain⟨u1,hc1⟩:∃u,w1.cell? ⟨w.heap.size,k * 2+1,none⟩=some u:=by
    rw[ho.cellAt (k * 2+1) o_];exact⟨_,List.getElem?_eq_getElem o_⟩
   have hf0:=ho.frozenAt (k * 2);have hf1:=ho.frozenAt (k * 2+1);have hs:=((ho.stored (k * 2) (iv t)).1.stored (k * 2+1) (iv z)).1;rw[sB ys k t z (by rw[HY.out];exact hlt)]at hs;have HS:=hd_ hs;have B1:=hd_ (HB.out.trans (hb1.mono HB.out.size));clear hs ho hl hb1 h1 h2;go_wp2;go_roundw
   case rel=>
    refine⟨k+1,ys.set k (t,z),o_,gn_,by simpa using HY.out,fun i hi=>?_,?_,(B1.out.setCell lr_ _).setCell lr_ _⟩
    ·by_cases e:i=k
     ·subst e
      rw[HK.out];simp[pr,HY.out,hlt]
     ·have e1:pr (ys.set k (t,z)) i=pr ys i:=by simp[pr,Ne.symm e]
      rw[e1];exact HYS.out i o_
    ·unfold aF
     rw[List.length_set,HY.out];exact HS.out
   case measure=>simp[intOf];omega
  ·exact zAU
theorem aJa (w:World) (u:Value) (ps:List Pr) (all:Int) (h:jV w u ps) (hn:ps.length<=1048576):
  Calls prog 246 #[.agg #[u,iv all]] w fun e w'=>∃g,e=.returned (.agg #[.slice (some ⟨g,0,none⟩) ps.length ps.length,iv all])/\aF w' w.heap.size (.slice (some ⟨g,0,none⟩) ps.length ps.length) ps/\Below w.heap.size w w':=by
 obtain⟨W,hW⟩:=nm_ (((w.alloc (.cells #[u,iv all] 179)).alloc (.cells #[zn,iv 0] 44)).alloc (.cells #[zn,iv 0] 44));have hA:Below w.heap.size w W:=by rw[hW];exact (((Below.refl _ _).alloc lr_ _).alloc (by simp) _).alloc (by simp;omega) _
 have sW:W.heap.size=w.heap.size+3:=by rw[hW];simp
 have A:aS W w.heap.size 179 u (iv all):=by rw[hW];exact ((aS.new w _ _ _).alloc _).alloc _
 have X:aS W (w.heap.size+1) 44 zn (iv 0):=by
  rw[hW];have:=aS.new (w.alloc (.cells #[u,iv all] 179)) 44 zn (iv 0);rw[World.size_alloc]at this;exact this.alloc _
 have Y:aS W (w.heap.size+1+1) 44 zn (iv 0):=by
  rw[hW];have:=aS.new ((w.alloc (.cells #[u,iv all] 179)).alloc (.cells #[zn,iv 0] 44)) 44 zn (iv 0);rw[World.size_alloc,World.size_alloc]at this;exact this
 have K:=hd_ (aG9 W u ps (h.below hA lr_) hn);obtain⟨x,c,hx⟩:=h.form;obtain⟨n,hn'⟩:=nm_ ps.length;rw[<-hn']at hx K hn ⊢;subst hx;have HA:=hd_ hA;have HS:=hd_ sW;clear h hn' hA sW;go_enter func246,ntmps246
 go_wp2_with fail
 rw[<-hW];clear hW;refine K.out.mono ?_;rintro e w1 ⟨rfl,ho,hb1⟩;have A1:=A.later hb1;have X1:=X.later hb1;have Y1:=Y.later hb1;have L1:=hd_ (HA.out.trans (hb1.mono HA.out.size));rw[HS.out]at ho ⊢;clear hb1 A X Y
 -- the copy,filled field by field
 have gy:=(aA w1 ⟨w.heap.size+1+1,0,none⟩ (.slice (some ⟨w.heap.size+3,0,none⟩) n n)).trans (aA _ ⟨w.heap.size+1+1,1,none⟩ (iv all));have Yb:=Y1.set (.slice (some ⟨w.heap.size+3,0,none⟩) n n) (iv all);have Xb:=X1.kept gy (by simp);have o1:=ho.set2 (b:=w.heap.size+1+1) (Y1.not_row dc_ ho) (.slice (some ⟨w.heap.size+3,0,none⟩) n n) (iv all)
 have o2:=hd_ ((o1.set2 (b:=w.heap.size+1) (Xb.not_row dc_ o1) (.slice (some ⟨w.heap.size+3,0,none⟩) n n) (iv all)).base (B':=w.heap.size) o_);have L2:=hd_ (gF (b:=w.heap.size+1) (gF (b:=w.heap.size+1+1) L1.out o_ (.slice (some ⟨w.heap.size+3,0,none⟩) n n) (iv all)) o_ (.slice (some ⟨w.heap.size+3,0,none⟩) n n) (iv all))
 have Xc:=Xb.set (.slice (some ⟨w.heap.size+3,0,none⟩) n n) (iv all);have a0:=A1.cell0;have a1:=A1.cell1;have y0:=Y1.cell0;have y1:=Y1.cell1;have yf:=Y1.free;have yb0:=Yb.cell0;have yb1:=Yb.cell1;have xb0:=Xb.cell0;have xb1:=Xb.cell1;have xbf:=Xb.free;have xc0:=Xc.cell0;have xc1:=Xc.cell1;clear A1 X1 Y1 gy Yb Xb Xc o1 ho K;go_wp2
 exact bodyPost_ret (v:=.agg #[.slice (some ⟨w.heap.size+3,0,none⟩) n n,iv all]) (by simp[results,results246,go_sem,xc0,xc1]) rfl ⟨_,rfl,o2.out,L2.out⟩
theorem aDW (w:World) (t z:Int):Calls prog 238 #[.agg #[iv t,iv z],.agg #[iv t,iv z]] w fun e w'=>e=.returned (.bool true)/\Below w.heap.size w w':=by
 have e1:(t != t)=false:=by simp
 have e2:(z != z)=false:=by simp
 have e3:decide (t=t)=true:=by simp
 have e4:decide (z=z)=true:=by simp
 go_enter func238,ntmps238;go_wp2;go_ret;exact⟨rfl,((Below.refl _ _).alloc lr_ _).alloc (by simp) _⟩
theorem aGi (w:World) (x:Option Addr) (c:Nat) (y:Option Addr) (d n:Nat) (ps:List Pr) (hl:ps.length=n) (hp:Prs w (.slice x n c) ps) (hq:Prs w (.slice y n d) ps) (hn:n<=1048576):
  Calls prog 192 #[.slice x n c,.slice y n d] w fun e w'=>e=.returned (.bool true)/\Below w.heap.size w w':=by
 have PC:=hd_ hp.cells;have QC:=hd_ hq.cells;have HL:=hd_ hl;have e3:((n:Int) != (n:Int))=false:=by simp
 have e6:decide ((n:Int)=(n:Int))=true:=by simp
 clear hp hq hl;go_enter func192,ntmps192;go_wp2;go_loopw [5] (fun i wr=>∃k:Nat,k<=n/\i=.int .i64 k/\Below w.heap.size w wr) (fun i _=>n - (intOf i).toNat)
 case atStart=>exact⟨0,Nat.zero_le _,rfl,Below.refl _ _⟩
 case round=>
  obtain⟨k,hk,rfl,hb0⟩:=hrel;have BB:=hd_ hb0;clear hb0
  by_cases hlt:k<n
  ·obtain⟨b,o,rfl,hb,h1,h2⟩:=PC.out k (by rw[HL.out];exact hlt)
   obtain⟨b',o',rfl,hb',h3,h4⟩:=QC.out k (by rw[HL.out];exact hlt);rw[<-BB.out.cell (p:=⟨b,o+k * 2,none⟩) hb]at h1;rw[<-BB.out.cell (p:=⟨b,o+k * 2+1,none⟩) hb]at h2;rw[<-BB.out.cell (p:=⟨b',o'+k * 2,none⟩) hb']at h3;rw[<-BB.out.cell (p:=⟨b',o'+k * 2+1,none⟩) hb']at h4;generalize pr ps k=q at h1 h2 h3 h4;obtain⟨t,z⟩:=q;have k0:(0:Int)<=(k:Int):=o_;have k1:(k:Int)<(n:Int):=o_
   have KE:=hd_ (fun W=>aDW W t z);go_wp2
   go_region_with (first
        |(go_at_call 238;refine (KE.out _).mono ?_;rintro e w1 ⟨rfl,hb1⟩))
   all_goals
    have B1:=hd_ ((BB.out.trans (Below.drew (Below.refl _ _))).trans (hb1.mono BB.out.size));clear hb1;go_wp2;go_roundw
    case rel=>exact⟨k+1,o_,gn_,B1.out⟩
    case measure=>simp[intOf];omega
  ·obtain rfl:k=n:=o_
   go_wp2;go_ret;exact⟨by first|rfl|simp,BB.out⟩
theorem aDN (w:World) (u v:Value) (ps:List Pr) (hp:Prs w u ps) (hq:Prs w v ps) (hn:ps.length<=1048576):
  Calls prog 192 #[u,v] w fun e w'=>e=.returned (.bool true)/\Below w.heap.size w w':=by
 obtain⟨x,c,rfl,_,_⟩:=hp.form;obtain⟨y,d,rfl,_,_⟩:=hq.form;exact aGi w x c y d _ ps rfl hp hq hn
theorem aFc (w:World) (u v:Value) (ps:List Pr) (all:Int) (hp:Prs w u ps) (hq:Prs w v ps) (hn:ps.length<=1048576):
  Calls prog 138 #[.agg #[u,iv all],.agg #[v,iv all]] w fun e w'=>e=.returned (.bool true)/\Below w.heap.size w w':=by
 obtain⟨W,hW⟩:=nm_ ((w.alloc (.cells #[u,iv all] 44)).alloc (.cells #[v,iv all] 44));have B0:Below w.heap.size w W:=by rw[hW];exact ((Below.refl _ _).alloc lr_ _).alloc (by simp) _
 have X:aS W w.heap.size 44 u (iv all):=by rw[hW];exact (aS.new w _ _ _).alloc _
 have Y:aS W (w.heap.size+1) 44 v (iv all):=by rw[hW];have:=aS.new (w.alloc (.cells #[u,iv all] 44)) 44 v (iv all);rwa[World.size_alloc]at this
 have K:=hd_ (aDN W u v ps (hp.below B0 lr_) (hq.below B0 lr_) hn);obtain⟨x,c,rfl,_,_⟩:=hp.form;obtain⟨y,d,rfl,_,_⟩:=hq.form;obtain⟨n,hn'⟩:=nm_ ps.length;rw[<-hn']at K X Y hW ⊢;have BB:=hd_ B0;have e2:(all != all)=false:=by simp
 have e5:decide (all=all)=true:=by simp
 clear hp hq hn' B0;go_enter func138,ntmps138
 go_wp2_with fail
 rw[<-hW];clear hW;refine K.out.mono ?_;rintro e w1 ⟨rfl,hb1⟩;have X1:=X.later hb1;have Y1:=Y.later hb1;have x1:=X1.cell1;have y1:=Y1.cell1;go_wp2;go_ret;exact⟨by first|rfl|simp,BB.out.trans (hb1.mono BB.out.size)⟩
def mkP (k:Int) (n:Nat):List Pr:=(List.range n).map fun (i:Nat)=>(k+2 * (i:Int),k+2 * (i:Int)+1)
theorem dK (k:Int) (n:Nat):(mkP k n).length=n:=by simp[mkP]
theorem aCX (k:Int) (n i:Nat) (h:i<n):pr (mkP k n) i=(k+2 * (i:Int),k+2 * (i:Int)+1):=by simp[pr,mkP,h]
theorem wU (k:Int) (ps:List Pr) (j:Nat) (hj:j<ps.length):
  (mkP k j++ps.drop j).set j (k+2 * (j:Int),k+2 * (j:Int)+1)=mkP k (j+1)++ps.drop (j+1):=by
 apply List.ext_getElem?;intro i;simp only[List.getElem?_set,List.length_append,dK,List.length_drop];rcases Nat.lt_trichotomy i j with h|h|h
 ·exact zBz
 ·subst h
  rw[if_pos rfl,if_pos o_,List.getElem?_append_left (by rw[dK];omega)];simp[mkP]
 ·exact zA9
theorem aBg (w:World) (k:Int):Calls prog 131 #[zn,iv k] w fun e w'=>e=.returned (iv k)/\w=w':=by
 go_enter func131,ntmps131;exact zAJ
theorem aDl (w:World) (B g c n:Nat) (ps:List Pr) (k:Int) (hl:ps.length=n) (hn:n<=100000000) (hk:0<=k) (hk':k<=1000000000000)
  (h:w.ownsRow B 152 2 (.slice (some ⟨g,0,none⟩) n c) n (prs ps)):
  Calls prog 131 #[.slice (some ⟨g,0,none⟩) n c,iv k] w fun e w'=>
   e=.returned (iv (k+2 * (n:Int)))/\w'.ownsRow B 152 2 (.slice (some ⟨g,0,none⟩) n c) n (prs (mkP k n))/\w.grownBy w' (some g):=by
 have HL:=hd_ hl;have H:=hd_ h;clear hl h;go_enter func131,ntmps131;go_wp2;go_loopw [1,5] (fun q i wr=>∃j:Nat,j<=n/\i=.int .i64 j/\q=.int .i64 (k+2 * (j:Int))/\wr.ownsRow B 152 2 (.slice (some ⟨g,0,none⟩) n c) n (prs (mkP k j++ps.drop j))/\w.grownBy wr (some g)) (fun _ i _=>n - (intOf i).toNat)
 case atStart=>exact⟨0,Nat.zero_le _,rfl,gn_,by simpa[mkP]using H.out,eS _ _⟩
 case round=>
  exact zl
theorem aBl (w:World) (B:Nat) (v:Value) (ps:List Pr) (k:Int) (h:aF w B v ps) (hn:ps.length<=100000000) (hk:0<=k) (hk':k<=1000000000000):
  Calls prog 131 #[v,iv k] w fun e w'=>e=.returned (iv (k+2 * (ps.length:Int)))/\aF w' B v (mkP k ps.length)/\w.grownBy w' v.ownBlock:=by
 by_cases h0:v=.slice none 0 0
 ·subst h0
  have hz:ps=[]:=by
   exact zBg
  subst hz;exact (aBg w k).mono fun e w' ⟨he,hw⟩=>⟨by rw[he];simp,by subst hw;exact aF.nil _ _,by subst hw;exact eS _ _⟩
 ·rcases h.2 with ⟨e,_⟩|⟨g,cap,cur,e,hb,hh,hc,hm,hs,ht⟩
  ·exact absurd e h0
  ·subst e
   refine (aDl w B g cap ps.length ps k rfl hn hk hk' h).mono fun e w' ⟨he,ho,hg⟩=>⟨he,?_,hg⟩
   unfold aF;rw[dK];exact ho
theorem aCN (w:World) (x:Option Addr) (c n:Nat) (k:Int) (hn:n<=100000000) (hk:0<=k) (hk':k<=1000000000000) (hp:Prs w (.slice x n c) (mkP k n)):
  Calls prog 134 #[.slice x n c,iv k] w fun e w'=>e=.returned (iv (k+2 * (n:Int)))/\w=w':=by
 have PC:=hd_ hp.cells;clear hp;go_enter func134,ntmps134;go_wp2;go_loopw [1,5] (fun q i wr=>∃j:Nat,j<=n/\i=.int .i64 j/\q=.int .i64 (k+2 * (j:Int))/\wr=w) (fun _ i _=>n - (intOf i).toNat)
 case atStart=>exact⟨0,Nat.zero_le _,rfl,gn_,rfl⟩
 case round=>
  obtain⟨j,hj,rfl,rfl,rfl⟩:=hrel
  by_cases hlt:j<n
  ·exact zAo
  ·obtain rfl:j=n:=o_
   exact zt
end Go.Proofs.YtcblbdpdbggkbaaGreat.K

namespace Go.Proofs.YtcblbdpdbggkbaaGreat
open _root_.Go.Proofs.Tryz
open Go.RowKit Go.Sort
structure aDi (w:World) (V:SV) (s:Sm):Prop where
 r:pC w V.r s.rs
 f:sH w V.f s.zs
 t:T.jV w V.t s.ps
 k:K.jV w V.k s.ks
theorem aDi.below {w w':World} {V:SV} {s:Sm} (h:aDi w V s) {B:Nat} (hb:Below B w w') (hB:w.heap.size<=B):aDi w' V s:=⟨h.r.below hb hB,h.f.below hb hB,h.t.below hb hB,h.k.below hb hB⟩
def sR (s:Sm):Nat:=(s.rs.length+eX s.rs s.rs.length)+s.zs.length+s.ps.length+s.ks.length
structure rF (s:Sm):Prop where
 r:zE s.rs
 f:s.zs.length<=1048576
 t:s.ps.length<=1048576
 k:s.ks.length<=1048576
theorem rF.arg {s:Sm} (h:sR s<=1048576):rF s:=by
 unfold sR at h;exact⟨zE.arg o_,o_,o_,o_⟩
theorem xZ.lens {s:Sm} (h:xZ s):rF s:=⟨zE.small ⟨h.r.1,fun i hi=>⟨rfl,h.r.2 i hi⟩⟩,by have:=h.f;omega,by have:=h.t;omega,by have:=h.k;omega⟩
theorem aJU (w:World) (V:SV) (s:Sm) (left:Int) (h1:aDi w V s) (l0:0<=left) (l1:left<=1048576):
  Calls prog 193 #[.agg #[.slice V.xr V.nr V.cr,.slice V.xf V.nf V.cf,.slice V.xt V.nt V.ct,iv s.lo,iv s.al,.slice V.xk V.nk V.ck,iv s.ka],iv left] w fun e w'=>e=.returned (iv (if left<(sR s:Int)then -1 else left - (sR s:Int)))/\Below w.heap.size w w':=by
 obtain⟨n1,e1⟩:=nm_ (s.rs.length+eX s.rs s.rs.length);obtain⟨n2,e2⟩:=nm_ s.zs.length;obtain⟨n3,e3⟩:=nm_ s.ps.length;obtain⟨n4,e4⟩:=nm_ s.ks.length;have L:sR s=n1+n2+n3+n4:=by rw[e1,e2,e3,e4];rfl
 rw[L];clear L;have E1:=hd_ e1;have E2:=hd_ e2;have E3:=hd_ e3;have E4:=hd_ e4;clear e1 e2 e3 e4;have hA:=(Below.refl w.heap.size w).alloc lr_ (.cells (cS V s) 181);have X:=aI.new w 181 (.slice V.xr V.nr V.cr) (.slice V.xf V.nf V.cf) (.slice V.xt V.nt V.ct) (iv s.lo) (iv s.al) (.slice V.xk V.nk V.ck) (iv s.ka);obtain⟨ax0,ax1,ax2,ax3,ax4,ax5,ax6⟩:=(X).cells
 obtain⟨W0,hW⟩:=nm_ (w.alloc (.cells (cS V s) 181));rw[<-hW]at hA X;have B:=hd_ hA;have H1:=hd_ h1;clear hA h1;go_enter func193,ntmps193
 go_wp2_with fail
 rw[<-hW];clear hW ax0 ax1 ax2 ax3 ax4 ax5 ax6;have K1:=aFF W0 (.slice V.xr V.nr V.cr) s.rs (left) (H1.out.below B.out lr_).r o_ o_;rw[<-E1.out]at K1
 by_cases c1:(left:Int)<(n1:Int)
 ·rw[bF c1]at K1
  refine (K1).mono ?_;rintro e w1 ⟨rfl,hb⟩;exact zz
 rw[dL o_]at K1;have nz1:¬(left:Int) - (n1:Int)<0:=o_;refine (K1).mono ?_;rintro e w1 ⟨rfl,hb⟩;clear K1 c1;replace X:=X.later hb;replace B:=hd_ (B.out.trans (hb.mono B.out.size));clear hb;obtain⟨cx0,cx1,cx2,cx3,cx4,cx5,cx6⟩:=(X).cells;have K1:=aKt w1 (.slice V.xf V.nf V.cf) s.zs (left - (n1:Int)) (H1.out.below B.out lr_).f o_ o_;rw[<-E2.out]at K1
 by_cases c2:(left - (n1:Int):Int)<(n2:Int)
 ·rw[bF c2]at K1
  go_wp2_with fail
  refine (K1).mono ?_;rintro e w2 ⟨rfl,hb⟩;clear cx0 cx1 cx2 cx3 cx4 cx5 cx6;exact zz
 rw[dL o_]at K1;have nz2:¬(left - (n1:Int):Int) - (n2:Int)<0:=o_
 go_wp2_with fail
 refine (K1).mono ?_;rintro e w2 ⟨rfl,hb⟩;clear K1 c2;clear cx0 cx1 cx2 cx3 cx4 cx5 cx6;replace X:=X.later hb;replace B:=hd_ (B.out.trans (hb.mono B.out.size));clear hb;obtain⟨cx0,cx1,cx2,cx3,cx4,cx5,cx6⟩:=(X).cells;have K1:=T.aJN w2 (.slice V.xt V.nt V.ct) s.ps s.lo s.al (left - (n1:Int) - (n2:Int)) (H1.out.below B.out lr_).t o_ o_;rw[<-E3.out]at K1
 by_cases c3:(left - (n1:Int) - (n2:Int):Int)<(n3:Int)
 ·rw[T.bF c3]at K1
  go_wp2_with fail
  refine (K1).mono ?_;rintro e w3 ⟨rfl,hb⟩;clear cx0 cx1 cx2 cx3 cx4 cx5 cx6;exact zz
 rw[T.dL o_]at K1;have nz3:¬(left - (n1:Int) - (n2:Int):Int) - (n3:Int)<0:=o_
 go_wp2_with fail
 refine (K1).mono ?_;rintro e w3 ⟨rfl,hb⟩;clear K1 c3;clear cx0 cx1 cx2 cx3 cx4 cx5 cx6;replace X:=X.later hb;replace B:=hd_ (B.out.trans (hb.mono B.out.size));clear hb;obtain⟨cx0,cx1,cx2,cx3,cx4,cx5,cx6⟩:=(X).cells;have K1:=K.aHI w3 (.slice V.xk V.nk V.ck) s.ks s.ka (left - (n1:Int) - (n2:Int) - (n3:Int)) (H1.out.below B.out lr_).k o_ o_;rw[<-E4.out]at K1
 by_cases c4:(left - (n1:Int) - (n2:Int) - (n3:Int):Int)<(n4:Int)
 ·rw[K.bF c4]at K1
  go_wp2_with fail
  refine (K1).mono ?_;rintro e w4 ⟨rfl,hb⟩;clear cx0 cx1 cx2 cx3 cx4 cx5 cx6;exact zz
 rw[K.dL o_]at K1;have nz4:¬(left - (n1:Int) - (n2:Int) - (n3:Int):Int) - (n4:Int)<0:=o_
 go_wp2_with fail
 refine (K1).mono ?_;rintro e w4 ⟨rfl,hb⟩;clear K1 c4;clear cx0 cx1 cx2 cx3 cx4 cx5 cx6;replace X:=X.later hb;replace B:=hd_ (B.out.trans (hb.mono B.out.size));clear hb;go_wp2;go_ret
 exact⟨by first|rfl|exact congrArg (fun z=>Ending.returned (Value.int .i64 z)) o_|exact congrArg (fun z=>Ending.returned (Value.int .i64 z)) (show left - (n1:Int) - (n2:Int) - (n3:Int) - (n4:Int)=if left<((n1+n2+n3+n4:Nat):Int)then -1 else left - ((n1+n2+n3+n4:Nat):Int) by rw[if_neg o_];omega),B.out⟩
theorem aKo (w:World) (V:SV) (s:Sm) (h1:aDi w V s) (hn:rF s):
  Calls prog 194 #[.agg #[.slice V.xr V.nr V.cr,.slice V.xf V.nf V.cf,.slice V.xt V.nt V.ct,iv s.lo,iv s.al,.slice V.xk V.nk V.ck,iv s.ka]] w fun e w'=>∃U,e=.returned (vS U s)/\aV w' w.heap.size w'.heap.size U s/\Below w.heap.size w w':=by
 have hA:=(((Below.refl w.heap.size w).alloc lr_ (.cells (cS V s) 181)).alloc (by simp) (.cells #[zn,zn,zn,iv 0,iv 0,zn,iv 0] 46)).alloc (by simp;omega) (.cells #[zn,zn,zn,iv 0,iv 0,zn,iv 0] 46)
 have XA:=((aI.new w 181 (.slice V.xr V.nr V.cr) (.slice V.xf V.nf V.cf) (.slice V.xt V.nt V.ct) (iv s.lo) (iv s.al) (.slice V.xk V.nk V.ck) (iv s.ka)).alloc (.cells #[zn,zn,zn,iv 0,iv 0,zn,iv 0] 46)).alloc (.cells #[zn,zn,zn,iv 0,iv 0,zn,iv 0] 46);have R:=(aI.new (w.alloc (.cells (cS V s) 181)) 46 zn zn zn (iv 0) (iv 0) zn (iv 0)).alloc (.cells #[zn,zn,zn,iv 0,iv 0,zn,iv 0] 46)
 rw[World.size_alloc]at R;have X6:=aI.new ((w.alloc (.cells (cS V s) 181)).alloc (.cells #[zn,zn,zn,iv 0,iv 0,zn,iv 0] 46)) 46 zn zn zn (iv 0) (iv 0) zn (iv 0);rw[World.size_alloc,World.size_alloc]at X6;obtain⟨axa0,axa1,axa2,axa3,axa4,axa5,axa6⟩:=(XA).cells;obtain⟨b6,hb6⟩:=nm_ (w.heap.size+1+1);rw[<-hb6]at X6;have L6:w.heap.size+1<b6:=o_
 obtain⟨W0,hW⟩:=nm_ (((w.alloc (.cells (cS V s) 181)).alloc (.cells #[zn,zn,zn,iv 0,iv 0,zn,iv 0] 46)).alloc (.cells #[zn,zn,zn,iv 0,iv 0,zn,iv 0] 46));rw[<-hW]at hA XA R X6;have B:=hd_ hA;have H1:=hd_ h1;have LN:=hd_ hn;clear hA h1 hn;go_enter func194,ntmps194
 go_wp2_with fail
 rw[<-hW, <-hb6];clear hW hb6 axa0 axa1 axa2 axa3 axa4 axa5 axa6;have Q:=(H1.out.below B.out lr_)
 have K1:=aEb W0 (.slice V.xr V.nr V.cr) s.rs Q.r LN.out.r.len LN.out.r.row;clear Q;refine (K1).mono ?_;rintro e w1 ⟨g0,rfl,ho,hb⟩;obtain⟨m0,hm⟩:=nm_ ((s.rs).length);rw[<-hm]at ho ⊢;clear hm K1;have M0:=hd_ B.out.size;have N0:=hd_ hb.size;replace XA:=XA.later hb;replace R:=R.later hb;replace X6:=X6.later hb;replace B:=hd_ (B.out.trans (hb.mono B.out.size));have O0:=hd_ (ho);clear hb
 obtain⟨W1,hW⟩:=nm_ (w1.setCell ⟨b6,0,none⟩ (.slice (some ⟨g0,0,none⟩) m0 m0));obtain⟨ax60,ax61,ax62,ax63,ax64,ax65,ax66⟩:=(X6).cells;have frx6:=X6.free;replace B:=hd_ (B.out);replace XA:=XA.kept (aA _ ⟨b6,0,none⟩ (.slice (some ⟨g0,0,none⟩) m0 m0)) (by simp;omega);replace R:=R.kept (aA _ ⟨b6,0,none⟩ (.slice (some ⟨g0,0,none⟩) m0 m0)) (by simp;omega)
 replace B:=hd_ (B.out.setCell (p:=⟨b6,0,none⟩) (show w.heap.size<=b6 by omega) (.slice (some ⟨g0,0,none⟩) m0 m0));replace O0:=hd_ (O0.out.cell7 X6 0 (.slice (some ⟨g0,0,none⟩) m0 m0));replace X6:=X6.set0 (.slice (some ⟨g0,0,none⟩) m0 m0);obtain⟨bxa0,bxa1,bxa2,bxa3,bxa4,bxa5,bxa6⟩:=(XA).cells;rw[<-hW]at XA;rw[<-hW]at R;rw[<-hW]at X6;rw[<-hW]at B;rw[<-hW]at O0
 go_wp2_with fail
 rw[<-hW];clear hW ax60 ax61 ax62 ax63 ax64 ax65 ax66 frx6 bxa0 bxa1 bxa2 bxa3 bxa4 bxa5 bxa6;clear ho;have Q:=(H1.out.below B.out lr_)
 have K1:=aJL W1 (.slice V.xf V.nf V.cf) s.zs Q.f LN.out.f;clear Q
 go_wp2_with fail
 refine (K1).mono ?_;rintro e w2 ⟨g1,rfl,ho,hb⟩;obtain⟨m1,hm⟩:=nm_ ((s.zs).length);rw[<-hm]at ho ⊢;clear hm K1;have M1:=hd_ B.out.size;have T1:=hd_ O0.out.top;replace XA:=XA.later hb;replace R:=R.later hb;replace X6:=X6.later hb;replace B:=hd_ (B.out.trans (hb.mono B.out.size));replace O0:=hd_ (O0.out.below hb);have O1:=hd_ (ho);clear hb
 obtain⟨W2,hW⟩:=nm_ (w2.setCell ⟨b6,1,none⟩ (.slice (some ⟨g1,0,none⟩) m1 m1));obtain⟨ax60,ax61,ax62,ax63,ax64,ax65,ax66⟩:=(X6).cells;have frx6:=X6.free;replace B:=hd_ (B.out);replace XA:=XA.kept (aA _ ⟨b6,1,none⟩ (.slice (some ⟨g1,0,none⟩) m1 m1)) (by simp;omega);replace R:=R.kept (aA _ ⟨b6,1,none⟩ (.slice (some ⟨g1,0,none⟩) m1 m1)) (by simp;omega)
 replace B:=hd_ (B.out.setCell (p:=⟨b6,1,none⟩) (show w.heap.size<=b6 by omega) (.slice (some ⟨g1,0,none⟩) m1 m1));replace O0:=hd_ (O0.out.cell7 X6 1 (.slice (some ⟨g1,0,none⟩) m1 m1));replace O1:=hd_ (O1.out.cell7 X6 1 (.slice (some ⟨g1,0,none⟩) m1 m1));replace X6:=X6.set1 (.slice (some ⟨g1,0,none⟩) m1 m1);obtain⟨bxa0,bxa1,bxa2,bxa3,bxa4,bxa5,bxa6⟩:=(XA).cells;rw[<-hW]at XA;rw[<-hW]at R
 rw[<-hW]at X6;rw[<-hW]at B;rw[<-hW]at O0;rw[<-hW]at O1
 go_wp2_with fail
 rw[<-hW];clear hW ax60 ax61 ax62 ax63 ax64 ax65 ax66 frx6 bxa0 bxa1 bxa2 bxa3 bxa4 bxa5 bxa6;clear ho;have Q:=(H1.out.below B.out lr_)
 have K1:=T.aJ4 W2 (.slice V.xt V.nt V.ct) s.ps s.lo s.al Q.t LN.out.t;clear Q
 go_wp2_with fail
 refine (K1).mono ?_;rintro e w3 ⟨g2,rfl,ho,hb⟩;obtain⟨m2,hm⟩:=nm_ ((s.ps).length);rw[<-hm]at ho ⊢;clear hm K1;have M2:=hd_ B.out.size;replace XA:=XA.later hb;replace R:=R.later hb;replace X6:=X6.later hb;replace B:=hd_ (B.out.trans (hb.mono B.out.size));replace O0:=hd_ (O0.out.below hb);replace O1:=hd_ (O1.out.below hb);have O2:=hd_ (ho);clear hb
 obtain⟨W3,hW⟩:=nm_ ((((w3.setCell ⟨b6,2,none⟩ (.slice (some ⟨g2,0,none⟩) m2 m2)).setCell ⟨b6,3,none⟩ (iv s.lo)).setCell ⟨b6,4,none⟩ (iv s.al)));obtain⟨ax60,ax61,ax62,ax63,ax64,ax65,ax66⟩:=(X6).cells;have frx6:=X6.free;replace B:=hd_ (B.out);replace XA:=XA.kept (aA _ ⟨b6,2,none⟩ (.slice (some ⟨g2,0,none⟩) m2 m2)) (by simp;omega)
 replace R:=R.kept (aA _ ⟨b6,2,none⟩ (.slice (some ⟨g2,0,none⟩) m2 m2)) (by simp;omega);replace B:=hd_ (B.out.setCell (p:=⟨b6,2,none⟩) (show w.heap.size<=b6 by omega) (.slice (some ⟨g2,0,none⟩) m2 m2));replace O0:=hd_ (O0.out.cell7 X6 2 (.slice (some ⟨g2,0,none⟩) m2 m2));replace O1:=hd_ (O1.out.cell7 X6 2 (.slice (some ⟨g2,0,none⟩) m2 m2))
 replace O2:=hd_ (O2.out.cell7 X6 2 (.slice (some ⟨g2,0,none⟩) m2 m2));replace X6:=X6.set2 (.slice (some ⟨g2,0,none⟩) m2 m2);replace XA:=XA.kept (aA _ ⟨b6,3,none⟩ (iv s.lo)) (by simp;omega);replace R:=R.kept (aA _ ⟨b6,3,none⟩ (iv s.lo)) (by simp;omega);replace B:=hd_ (B.out.setCell (p:=⟨b6,3,none⟩) (show w.heap.size<=b6 by omega) (iv s.lo))
 replace O0:=hd_ (O0.out.cell7 X6 3 (iv s.lo));replace O1:=hd_ (O1.out.cell7 X6 3 (iv s.lo));replace O2:=hd_ (O2.out.cell7 X6 3 (iv s.lo));replace X6:=X6.set3 (iv s.lo);replace XA:=XA.kept (aA _ ⟨b6,4,none⟩ (iv s.al)) (by simp;omega);replace R:=R.kept (aA _ ⟨b6,4,none⟩ (iv s.al)) (by simp;omega)
 replace B:=hd_ (B.out.setCell (p:=⟨b6,4,none⟩) (show w.heap.size<=b6 by omega) (iv s.al));replace O0:=hd_ (O0.out.cell7 X6 4 (iv s.al));replace O1:=hd_ (O1.out.cell7 X6 4 (iv s.al));replace O2:=hd_ (O2.out.cell7 X6 4 (iv s.al));replace X6:=X6.set4 (iv s.al);obtain⟨bxa0,bxa1,bxa2,bxa3,bxa4,bxa5,bxa6⟩:=(XA).cells;rw[<-hW]at XA;rw[<-hW]at R;rw[<-hW]at X6;rw[<-hW]at B;rw[<-hW]at O0;rw[<-hW]at O1
 rw[<-hW]at O2
 go_wp2_with fail
 rw[<-hW];clear hW ax60 ax61 ax62 ax63 ax64 ax65 ax66 frx6 bxa0 bxa1 bxa2 bxa3 bxa4 bxa5 bxa6;clear ho;have Q:=(H1.out.below B.out lr_)
 have K1:=K.aJa W3 (.slice V.xk V.nk V.ck) s.ks s.ka Q.k LN.out.k;clear Q
 go_wp2_with fail
 refine (K1).mono ?_;rintro e w4 ⟨g3,rfl,ho,hb⟩;obtain⟨m3,hm⟩:=nm_ ((s.ks).length);rw[<-hm]at ho ⊢;clear hm K1;have M3:=hd_ B.out.size;replace XA:=XA.later hb;replace R:=R.later hb;replace X6:=X6.later hb;replace B:=hd_ (B.out.trans (hb.mono B.out.size));replace O0:=hd_ (O0.out.below hb);replace O1:=hd_ (O1.out.below hb);replace O2:=hd_ (O2.out.below hb);have O3:=hd_ (ho);clear hb
 obtain⟨W4,hW⟩:=nm_ ((w4.setCell ⟨b6,5,none⟩ (.slice (some ⟨g3,0,none⟩) m3 m3)).setCell ⟨b6,6,none⟩ (iv s.ka));obtain⟨ax60,ax61,ax62,ax63,ax64,ax65,ax66⟩:=(X6).cells;have frx6:=X6.free;replace B:=hd_ (B.out);replace XA:=XA.kept (aA _ ⟨b6,5,none⟩ (.slice (some ⟨g3,0,none⟩) m3 m3)) (by simp;omega)
 replace R:=R.kept (aA _ ⟨b6,5,none⟩ (.slice (some ⟨g3,0,none⟩) m3 m3)) (by simp;omega);replace B:=hd_ (B.out.setCell (p:=⟨b6,5,none⟩) (show w.heap.size<=b6 by omega) (.slice (some ⟨g3,0,none⟩) m3 m3));replace O0:=hd_ (O0.out.cell7 X6 5 (.slice (some ⟨g3,0,none⟩) m3 m3));replace O1:=hd_ (O1.out.cell7 X6 5 (.slice (some ⟨g3,0,none⟩) m3 m3))
 replace O2:=hd_ (O2.out.cell7 X6 5 (.slice (some ⟨g3,0,none⟩) m3 m3));replace O3:=hd_ (O3.out.cell7 X6 5 (.slice (some ⟨g3,0,none⟩) m3 m3));replace X6:=X6.set5 (.slice (some ⟨g3,0,none⟩) m3 m3);replace XA:=XA.kept (aA _ ⟨b6,6,none⟩ (iv s.ka)) (by simp;omega);replace R:=R.kept (aA _ ⟨b6,6,none⟩ (iv s.ka)) (by simp;omega)
 replace B:=hd_ (B.out.setCell (p:=⟨b6,6,none⟩) (show w.heap.size<=b6 by omega) (iv s.ka));replace O0:=hd_ (O0.out.cell7 X6 6 (iv s.ka));replace O1:=hd_ (O1.out.cell7 X6 6 (iv s.ka));replace O2:=hd_ (O2.out.cell7 X6 6 (iv s.ka));replace O3:=hd_ (O3.out.cell7 X6 6 (iv s.ka));replace X6:=X6.set6 (iv s.ka);obtain⟨bx60,bx61,bx62,bx63,bx64,bx65,bx66⟩:=(X6).cells
 obtain⟨br0,br1,br2,br3,br4,br5,br6⟩:=(R).cells;have fbr:=R.free;rw[<-hW]at XA;rw[<-hW]at R;rw[<-hW]at X6;rw[<-hW]at B;rw[<-hW]at O0;rw[<-hW]at O1;rw[<-hW]at O2;rw[<-hW]at O3;clear ho;have fin:=R.set (.slice (some ⟨g0,0,none⟩) m0 m0) (.slice (some ⟨g1,0,none⟩) m1 m1) (.slice (some ⟨g2,0,none⟩) m2 m2) (iv s.lo) (iv s.al) (.slice (some ⟨g3,0,none⟩) m3 m3) (iv s.ka)
 have OF:=aV.box7 (aV.make (V:=⟨some ⟨g0,0,none⟩,m0,m0,some ⟨g1,0,none⟩,m1,m1,some ⟨g2,0,none⟩,m2,m2,some ⟨g3,0,none⟩,m3,m3⟩) (s:=s) O0.out O1.out O2.out O3.out M0.out (Nat.le_trans M0.out N0.out) T1.out M2.out M3.out) R (.slice (some ⟨g0,0,none⟩) m0 m0) (.slice (some ⟨g1,0,none⟩) m1 m1) (.slice (some ⟨g2,0,none⟩) m2 m2) (iv s.lo) (iv s.al) (.slice (some ⟨g3,0,none⟩) m3 m3) (iv s.ka)
 have BF:=aR B.out (Nat.le_add_right w.heap.size 1) (.slice (some ⟨g0,0,none⟩) m0 m0) (.slice (some ⟨g1,0,none⟩) m1 m1) (.slice (some ⟨g2,0,none⟩) m2 m2) (iv s.lo) (iv s.al) (.slice (some ⟨g3,0,none⟩) m3 m3) (iv s.ka)
 have SF:=bS W4 (w.heap.size+1) (.slice (some ⟨g0,0,none⟩) m0 m0) (.slice (some ⟨g1,0,none⟩) m1 m1) (.slice (some ⟨g2,0,none⟩) m2 m2) (iv s.lo) (iv s.al) (.slice (some ⟨g3,0,none⟩) m3 m3) (iv s.ka);have HF:=hd_ (And.intro (aV.base OF lr_ (Nat.le_of_eq SF.symm) lr_) BF);have HY:=hd_ fin;clear fin OF BF SF;go_wp2;rw[<-hW]
 clear hW ax60 ax61 ax62 ax63 ax64 ax65 ax66 frx6 bx60 bx61 bx62 bx63 bx64 bx65 bx66 br0 br1 br2 br3 br4 br5 br6 fbr;show bodyPost _ _ _ _ _ (set7 W4 (w.heap.size+1) (.slice (some ⟨g0,0,none⟩) m0 m0) (.slice (some ⟨g1,0,none⟩) m1 m1) (.slice (some ⟨g2,0,none⟩) m2 m2) (iv s.lo) (iv s.al) (.slice (some ⟨g3,0,none⟩) m3 m3) (iv s.ka))
 obtain⟨d0,d1,d2,d3,d4,d5,d6⟩:=HY.out.cells;generalize set7 W4 (w.heap.size+1) (.slice (some ⟨g0,0,none⟩) m0 m0) (.slice (some ⟨g1,0,none⟩) m1 m1) (.slice (some ⟨g2,0,none⟩) m2 m2) (iv s.lo) (iv s.al) (.slice (some ⟨g3,0,none⟩) m3 m3) (iv s.ka)=WF at HF d0 d1 d2 d3 d4 d5 d6 ⊢
 refine bodyPost_ret (v:=.agg #[.slice (some ⟨g0,0,none⟩) m0 m0,.slice (some ⟨g1,0,none⟩) m1 m1,.slice (some ⟨g2,0,none⟩) m2 m2,iv s.lo,iv s.al,.slice (some ⟨g3,0,none⟩) m3 m3,iv s.ka]) (by simp[results,results194,go_sem,d0,d1,d2,d3,d4,d5,d6]) rfl ?_;exact⟨⟨some ⟨g0,0,none⟩,m0,m0,some ⟨g1,0,none⟩,m1,m1,some ⟨g2,0,none⟩,m2,m2,some ⟨g3,0,none⟩,m3,m3⟩,rfl,HF.out⟩
theorem uZ (w:World) (V1 V2:SV) (s:Sm) (h1:RdS w V1 s) (h2:RdS w V2 s) (hn:rF s):
  Calls prog 58 #[.agg #[.slice V1.xr V1.nr V1.cr,.slice V1.xf V1.nf V1.cf,.slice V1.xt V1.nt V1.ct,iv s.lo,iv s.al,.slice V1.xk V1.nk V1.ck,iv s.ka],.agg #[.slice V2.xr V2.nr V2.cr,.slice V2.xf V2.nf V2.cf,.slice V2.xt V2.nt V2.ct,iv s.lo,iv s.al,.slice V2.xk V2.nk V2.ck,iv s.ka]] w fun e w'=>e=.returned (.bool true)/\Below w.heap.size w w':=by
 have hA:=((Below.refl w.heap.size w).alloc lr_ (.cells (cS V1 s) 46)).alloc (by simp) (.cells (cS V2 s) 46);have XA:=(aI.new w 46 (.slice V1.xr V1.nr V1.cr) (.slice V1.xf V1.nf V1.cf) (.slice V1.xt V1.nt V1.ct) (iv s.lo) (iv s.al) (.slice V1.xk V1.nk V1.ck) (iv s.ka)).alloc (.cells (cS V2 s) 46)
 have XB:=aI.new (w.alloc (.cells (cS V1 s) 46)) 46 (.slice V2.xr V2.nr V2.cr) (.slice V2.xf V2.nf V2.cf) (.slice V2.xt V2.nt V2.ct) (iv s.lo) (iv s.al) (.slice V2.xk V2.nk V2.ck) (iv s.ka);rw[World.size_alloc]at XB;obtain⟨axa0,axa1,axa2,axa3,axa4,axa5,axa6⟩:=(XA).cells;obtain⟨axb0,axb1,axb2,axb3,axb4,axb5,axb6⟩:=(XB).cells
 obtain⟨W0,hW⟩:=nm_ ((w.alloc (.cells (cS V1 s) 46)).alloc (.cells (cS V2 s) 46));rw[<-hW]at hA XA XB;have B:=hd_ hA;have H1:=hd_ h1;have H2:=hd_ h2;have LN:=hd_ hn;clear hA h1 h2 hn;go_enter func58,ntmps58
 go_wp2_with fail
 rw[<-hW];clear hW axa0 axa1 axa2 axa3 axa4 axa5 axa6 axb0 axb1 axb2 axb3 axb4 axb5 axb6;have Q:=(H1.out.below B.out lr_)
 have Q2:=(H2.out.below B.out lr_)
 have K1:=aGW W0 (.slice V1.xr V1.nr V1.cr) (.slice V2.xr V2.nr V2.cr) s.rs s.rs Q.r Q2.r LN.out.r.lenM LN.out.r.rowM;rw[show decide (s.rs=s.rs)=true from decide_eq_true rfl]at K1;clear Q Q2;refine (K1).mono ?_;rintro e w1 ⟨rfl,hb⟩;clear K1;replace XA:=XA.later hb;replace XB:=XB.later hb;replace B:=hd_ (B.out.trans (hb.mono B.out.size));clear hb
 obtain⟨cxa0,cxa1,cxa2,cxa3,cxa4,cxa5,cxa6⟩:=(XA).cells;obtain⟨cxb0,cxb1,cxb2,cxb3,cxb4,cxb5,cxb6⟩:=(XB).cells;have Q:=(H1.out.below B.out lr_)
 have Q2:=(H2.out.below B.out lr_)
 have K1:=aKc w1 (.slice V1.xf V1.nf V1.cf) (.slice V2.xf V2.nf V2.cf) s.zs s.zs Q.f Q2.f (by have:=LN.out.f;unfold maxLen;omega);rw[show decide (s.zs=s.zs)=true from decide_eq_true rfl]at K1;clear Q Q2
 go_wp2_with fail
 refine (K1).mono ?_;rintro e w2 ⟨rfl,hb⟩;clear K1;clear cxa0 cxa1 cxa2 cxa3 cxa4 cxa5 cxa6 cxb0 cxb1 cxb2 cxb3 cxb4 cxb5 cxb6;replace XA:=XA.later hb;replace XB:=XB.later hb;replace B:=hd_ (B.out.trans (hb.mono B.out.size));clear hb;obtain⟨cxa0,cxa1,cxa2,cxa3,cxa4,cxa5,cxa6⟩:=(XA).cells;obtain⟨cxb0,cxb1,cxb2,cxb3,cxb4,cxb5,cxb6⟩:=(XB).cells;have Q:=(H1.out.below B.out lr_)
 have Q2:=(H2.out.below B.out lr_)
 have K1:=T.aGg w2 (.slice V1.xt V1.nt V1.ct) (.slice V2.xt V2.nt V2.ct) s.ps s.lo s.al Q.t Q2.t LN.out.t
 skip
 clear Q Q2
 go_wp2_with fail
 refine (K1).mono ?_;rintro e w3 ⟨rfl,hb⟩;clear K1;clear cxa0 cxa1 cxa2 cxa3 cxa4 cxa5 cxa6 cxb0 cxb1 cxb2 cxb3 cxb4 cxb5 cxb6;replace XA:=XA.later hb;replace XB:=XB.later hb;replace B:=hd_ (B.out.trans (hb.mono B.out.size));clear hb;obtain⟨cxa0,cxa1,cxa2,cxa3,cxa4,cxa5,cxa6⟩:=(XA).cells;obtain⟨cxb0,cxb1,cxb2,cxb3,cxb4,cxb5,cxb6⟩:=(XB).cells;have Q:=(H1.out.below B.out lr_)
 have Q2:=(H2.out.below B.out lr_)
 have K1:=K.aFc w3 (.slice V1.xk V1.nk V1.ck) (.slice V2.xk V2.nk V2.ck) s.ks s.ka Q.k Q2.k LN.out.k
 skip
 clear Q Q2
 go_wp2_with fail
 refine (K1).mono ?_;rintro e w4 ⟨rfl,hb⟩;clear K1;clear cxa0 cxa1 cxa2 cxa3 cxa4 cxa5 cxa6 cxb0 cxb1 cxb2 cxb3 cxb4 cxb5 cxb6;replace XA:=XA.later hb;replace XB:=XB.later hb;replace B:=hd_ (B.out.trans (hb.mono B.out.size));clear hb;go_wp2;go_ret;exact⟨rfl,B.out⟩
end Go.Proofs.YtcblbdpdbggkbaaGreat
namespace Go.Proofs.YtcblbdpdbggkbaaGreat
open _root_.Go.Proofs.Tryz
open Go.RowKit Go.ChangeShapes Go.WideShapes Go.ChangeAt Go.Deep Go.Joins
theorem aGe {H:Type} {enc:TypeId × Value->H} {w:World} {n:Nat} {v0:Value} {y:DataW H × List MemPlace} (hf:DataW.trod enc prog w 0 (fun _=>true) true n 23 [v0]=some y):∃zs,sH w v0 zs:=by
 rcases open_ints underlying23 underlying3 kr_ hf with ⟨hcs,_⟩|⟨x,l,c,zs,hcs,_,hl,hm,hz,_,hcell,hwz⟩
 ·simp at hcs
  exact⟨[],.inl ⟨rfl,_,_,hcs⟩⟩
 ·simp at hcs
  subst hcs;exact⟨zs.take l,aHt hl hm (by simpa using hz) (fun h=>by cases h) (fun x' e=>by cases e;exact hcell)⟩
theorem aGa {H:Type} {enc:TypeId × Value->H} {w:World} {n:Nat} {v0:Value} {y:DataW H × List MemPlace} (hf:DataW.trod enc prog w 0 (fun _=>true) true n 34 [v0]=some y):∃rs,pC w v0 rs:=by
 rcases open_int_rows underlying34 underlying23 underlying3 kr_ kr_ hf with ⟨hcs,_⟩|⟨a,len,cap,A,L,C,Z,hcs,_,hl,hm,_,hx⟩
 ·simp at hcs
  exact⟨[],.inl ⟨rfl,_,_,hcs⟩⟩
 ·simp at hcs
  subst hcs
  by_cases h0:len=0
  ·exact zBK
  obtain⟨b,o,sp⟩:=a;have h1:=(hx 0 o_).1;have hs:sp=none:=by simpa[Addr.add]using World.cell?_spot h1
  subst hs;have e:((List.range len).map fun r=>(Z r).take (L r)).length=len:=by simp
  refine⟨(List.range len).map fun r=>(Z r).take (L r),.inr ⟨b,o,cap,by rw[e],o_,o_,by simpa[Addr.add]using World.block_lt_of_cell? _ _ h1,fun i hi=>?_⟩⟩;rw[e]at hi;obtain⟨e1,r1,r2,r3,r4,r5,r6⟩:=hx i o_;rw[aFa]at e1;have eg:((List.range len).map fun r=>(Z r).take (L r)).getD i []=(Z i).take (L i):=by simp[hi]
  rw[eg];exact⟨_,e1,aHt r1 r2 r3 r5 (fun x ex j hj=>(r6 x ex).2 j o_)⟩
theorem wA {H:Type} {enc:TypeId × Value->H} {P:Program} {w:World} {base:Nat} {spare:Nat->Bool} {held:Bool} {t:TypeId} {f0:Field} {fuel:Nat} {cs:List Value} {x:DataW H × List MemPlace} (ht:P.underlying t=some (.struct #[f0])) (h:DataW.trod enc P w base spare held fuel t cs=some x):
  ∃y0 n,DataW.trod enc P w base spare held n f0.type ((cs.drop f0.offset).take (P.cellsOf f0.type))=some y0:=by
 obtain⟨xs,n,_,_,_,hlen,hf⟩:=DataW.trod_struct ht h
 match xs,hlen with
 | [y0],_=>exact⟨y0,n,by simpa using hf 0 f0 rfl⟩
def aLr:RdA Sm:=fun w cs s=>∃V,cs=[.slice V.xr V.nr V.cr,.slice V.xf V.nf V.cf,.slice V.xt V.nt V.ct,.int .i64 s.lo,.int .i64 s.al,.slice V.xk V.nk V.ck,.int .i64 s.ka]/\aDi w V s
theorem aId:RdA.Stay aLr:=by
 refine⟨?_⟩;rintro w w' cs s B ⟨V,rfl,h⟩ hb hB;exact⟨V,rfl,h.below hb hB⟩
theorem aHL {H:Type} {enc:TypeId × Value->H} {w:World}:fQ enc prog w 181 aLr:=fun fuel cs y hf=>by
 have hC:prog.cellsOf 181=7:=by kernel_rfl
 obtain⟨_,_,_,_,hsz,_,_⟩:=DataW.trod_struct underlying181 hf;rw[hC]at hsz;obtain⟨c0,c1,c2,c3,c4,c5,c6,rfl⟩:∃c0 c1 c2 c3 c4 c5 c6,cs=[c0,c1,c2,c3,c4,c5,c6]:=by
  match cs,hsz with
  | [c0,c1,c2,c3,c4,c5,c6],_=>exact⟨c0,c1,c2,c3,c4,c5,c6,rfl⟩
 obtain⟨y0,y1,y2,y3,n,_,_,h0,h1,h2,h3⟩:=trod_struct4 underlying181 hf;have k0:prog.cellsOf 172=1:=by kernel_rfl
 have k1:prog.cellsOf 173=1:=by kernel_rfl
 have k2:prog.cellsOf 176=3:=by kernel_rfl
 have k3:prog.cellsOf 179=2:=by kernel_rfl
 have j0:prog.cellsOf 34=1:=by kernel_rfl
 have j1:prog.cellsOf 23=1:=by kernel_rfl
 have j2:prog.cellsOf 174=1:=by kernel_rfl
 have j3:prog.cellsOf 177=1:=by kernel_rfl
 have j4:prog.cellsOf 3=1:=by kernel_rfl
 simp[k0]at h0;simp[k1]at h1;simp[k2]at h2;simp[k3]at h3;obtain⟨z0,n0,g0⟩:=wA underlying172 h0;obtain⟨z1,n1,g1⟩:=wA underlying173 h1;obtain⟨z2,z3,z4,n2,_,_,g2,g3,g4⟩:=trod_struct3 underlying176 h2;obtain⟨z5,z6,n3,_,_,g5,g6⟩:=trod_struct2 underlying179 h3;simp[j0]at g0;simp[j1]at g1;simp[j2]at g2;simp[j4]at g3 g4 g6;simp[j3]at g5;obtain⟨rs,a0⟩:=aGa g0
 obtain⟨zs,a1⟩:=aGe g1;obtain⟨ps,a2⟩:=T.tV g2;obtain⟨lo,e3,_⟩:=DataW.trod_int underlying3 g3;obtain⟨al,e4,_⟩:=DataW.trod_int underlying3 g4;obtain⟨ks,a5⟩:=K.tV g5;obtain⟨ka,e6,_⟩:=DataW.trod_int underlying3 g6;simp at e3 e4 e6;obtain⟨xr,cr,hr⟩:=a0.form;obtain⟨xf,cf,hf⟩:=a1.form;obtain⟨xt,ct,ht⟩:=a2.form;obtain⟨xk,ck,hk⟩:=a5.form
 refine⟨⟨rs,zs,ps,lo,al,ks,ka⟩,⟨xr,rs.length,cr,xf,zs.length,cf,xt,ps.length,ct,xk,ks.length,ck⟩,by rw[hr,hf,ht,hk,e3,e4,e6],?_,?_,?_,?_⟩
 ·rw[hr]at a0;exact a0
 ·rw[hf]at a1;exact a1
 ·rw[ht]at a2;exact a2
 ·rw[hk]at a5;exact a5
namespace N
def aDm:RdA En:=aGJ (kU uL (kU uL (kU uL aLr))) fun e=>(e.node,e.born,e.num,e.s)
def mM:RdA (List En):=rR 10 aDm
def aAO:RdA Nd:=aGJ (kU uL (kU mM (kU uL (kU uL uL)))) fun x=>(x.born,x.known,x.beacon,x.level,x.up)
def aAh:RdA Wd:=aGJ (kU uL (kU uL (kU uL (kU uL (kU uL mM))))) fun x=>(x.kind,x.src,x.dst,x.beacon,x.level,x.known)
def aAI:RdA (List Bool):=rR 1 aKu
def aMt:RdA (List Int):=rR 1 uL
def aMj:RdA (List (List Int)):=rR 1 aMt
def aCk:RdA (List (List (List Int))):=rR 1 aMj
def aFV:RdA Nt:=aGJ (kU (rR 5 aAO) (kU aAI (kU (rR 6 aAh) aCk))) fun n=>(n.nodes,n.links,n.words,n.past)
theorem aEP:RdA.Stay aDm:=sY (eK fN (eK fN (eK fN aId))) _
theorem gU:RdA.Stay mM:=eJ aEP _
theorem nH:RdA.Stay aAO:=sY (eK fN (eK gU (eK fN (eK fN fN)))) _
theorem nK:RdA.Stay aAh:=sY (eK fN (eK fN (eK fN (eK fN (eK fN gU))))) _
theorem oO:RdA.Stay aAI:=eJ aG5 _
theorem nR:RdA.Stay aCk:=eJ (eJ (eJ fN _) _) _
theorem aIP:RdA.Stay aFV:=sY (eK (eJ nH _) (eK oO (eK (eJ nK _) nR))) _
section
variable {w:World} {cs:List Value}
theorem zX {e:En}:aDm w cs e↔∃c,cs=.int .i64 e.node::.int .i64 e.born::.int .i64 e.num::c/\aLr w c e.s:=by
 constructor
 ·rintro⟨_,_,rfl,rfl,⟨_,_,rfl,rfl,⟨_,_,rfl,rfl,h⟩⟩⟩
  exact⟨_,rfl,h⟩
 ·rintro⟨c,rfl,h⟩
  exact⟨[_],_,rfl,rfl,⟨[_],_,rfl,rfl,⟨[_],_,rfl,rfl,h⟩⟩⟩
theorem aCc {x:Nd}:aAO w cs x↔∃v,cs=[.int .i64 x.born,v,.int .i64 x.beacon,.int .i64 x.level,.int .i64 x.up]/\mM w [v] x.known:=by
 constructor
 ·rintro⟨_,_,rfl,rfl,⟨_,_,rfl,h,⟨_,_,rfl,rfl,⟨_,_,rfl,rfl,rfl⟩⟩⟩⟩
  obtain⟨x',c',rfl,_⟩:=bB h;exact⟨_,rfl,h⟩
 ·rintro⟨v,rfl,h⟩
  exact⟨[_],[v,_,_,_],rfl,rfl,⟨[v],[_,_,_],rfl,h,⟨[_],[_,_],rfl,rfl,⟨[_],[_],rfl,rfl,rfl⟩⟩⟩⟩
theorem aBU {x:Wd}:aAh w cs x↔∃v,cs=[.int .i64 x.kind,.int .i64 x.src,.int .i64 x.dst,.int .i64 x.beacon,.int .i64 x.level,v]/\mM w [v] x.known:=by
 constructor
 ·rintro⟨_,_,rfl,rfl,⟨_,_,rfl,rfl,⟨_,_,rfl,rfl,⟨_,_,rfl,rfl,⟨_,_,rfl,rfl,h⟩⟩⟩⟩⟩
  obtain⟨x',c',rfl,_⟩:=bB h;exact⟨_,rfl,h⟩
 ·rintro⟨v,rfl,h⟩
  exact⟨[_],_,rfl,rfl,⟨[_],_,rfl,rfl,⟨[_],_,rfl,rfl,⟨[_],_,rfl,rfl,⟨[_],_,rfl,rfl,h⟩⟩⟩⟩⟩
theorem zT {n:Nt}:aFV w cs n↔∃v1 v2 v3 v4,cs=[v1,v2,v3,v4]/\rR 5 aAO w [v1] n.nodes/\aAI w [v2] n.links/\rR 6 aAh w [v3] n.words/\aCk w [v4] n.past:=by
 constructor
 ·rintro⟨_,_,rfl,h1,⟨_,_,rfl,h2,⟨_,_,rfl,h3,h4⟩⟩⟩
  obtain⟨_,_,rfl,_⟩:=bB h1;obtain⟨_,_,rfl,_⟩:=bB h2;obtain⟨_,_,rfl,_⟩:=bB h3;obtain⟨_,_,rfl,_⟩:=bB h4;exact⟨_,_,_,_,rfl,h1,h2,h3,h4⟩
 ·rintro⟨v1,v2,v3,v4,rfl,h1,h2,h3,h4⟩
  exact⟨[v1],[v2,v3,v4],rfl,h1,⟨[v2],[v3,v4],rfl,h2,⟨[v3],[v4],rfl,h3,h4⟩⟩⟩
end
theorem aHV {w:World} {v:Value} {zs:List Int} (h:aMt w [v] zs):sH w v zs:=by
 rcases h with ⟨rfl,x,c,e⟩|⟨b,o,c,e,h0,h1,h2,h3⟩
 ·injection e with e _
  exact .inl ⟨rfl,x,c,e⟩
 ·injection e with e _
  refine .inr ⟨b,o,c,e,h0,h1,h2,fun i hi=>?_⟩;obtain⟨ci,l,r,ha⟩:=h3 i _ (List.getElem?_eq_getElem hi);have q:=r 0 (.int .i64 zs[i]) (by rw[ha];rfl);rw[Nat.mul_one,Nat.add_zero]at q;rw[q,List.getD_eq_getElem?_getD,List.getElem?_eq_getElem hi];rfl
theorem aCx {w:World} {v:Value} {rs:List (List Int)} (h:aMj w [v] rs):pC w v rs:=by
 rcases h with ⟨rfl,x,c,e⟩|⟨b,o,c,e,h0,h1,h2,h3⟩
 ·injection e with e _
  exact .inl ⟨rfl,x,c,e⟩
 ·injection e with e _
  refine .inr ⟨b,o,c,e,h0,h1,h2,fun i hi=>?_⟩;obtain⟨ci,l,r,ha⟩:=h3 i _ (List.getElem?_eq_getElem hi);obtain⟨x,c',rfl,_⟩:=bB ha;have q:=r 0 _ rfl;rw[Nat.mul_one,Nat.add_zero]at q;refine⟨_,q,?_⟩;rw[List.getD_eq_getElem?_getD,List.getElem?_eq_getElem hi];exact aHV ha
end N
end Go.Proofs.YtcblbdpdbggkbaaGreat
namespace Go.Proofs.YtcblbdpdbggkbaaGreat.N
open _root_.Go.Proofs.Tryz
open Go.RowKit Go.Sort
theorem cO {x a b:Int}:in6 x a b=true↔a<=x/\x<=b:=decide_eq_true_iff
def mE (a b:Sm):Bool:=decide (a.rs=b.rs)&&(decide (a.zs=b.zs)&&(decide (a.ps=b.ps)&&(decide (a.lo=b.lo)&&(decide (a.al=b.al)&&(decide (a.ks=b.ks)&&decide (a.ka=b.ka))))))
theorem pF {a b:Sm}:mE a b=true↔a=b:=by
 unfold mE;simp only[Bool.and_eq_true,decide_eq_true_eq]
 constructor
 ·rintro⟨h1,h2,h3,h4,h5,h6,h7⟩
  cases a;cases b;simp only at h1 h2 h3 h4 h5 h6 h7;rw[h1,h2,h3,h4,h5,h6,h7]
 ·rintro rfl
  exact⟨rfl,rfl,rfl,rfl,rfl,rfl,rfl⟩
def fC (n:Nt) (e:En):Bool:=in6 e.node 0 4&&(in6 e.born 1 (aD n e.node).born&&(in6 e.num 0 (bZ n e.node e.born).length&&(okS (upS ((bZ n e.node e.born).take e.num.toNat))&&mE (upS ((bZ n e.node e.born).take e.num.toNat)) e.s)))
theorem qH {n:Nt} {e:En}:fC n e=true↔aBS n e:=by
 unfold fC;simp only[Bool.and_eq_true,cO,pF];exact⟨fun⟨a,b,c,d,f⟩=>⟨a,b,c,d,f.symm⟩,fun⟨a,b,c,d,f⟩=>⟨a,b,c,d,f.symm⟩⟩
def aLI:List En->Bool
 |x::y::l=>decide (x.node<y.node)&&aLI (y::l)
 |_=>true
theorem aE0:∀{es:List En},aLI es=true↔es.Pairwise wH
 | []=>⟨fun _=>List.Pairwise.nil,fun _=>rfl⟩
 | [x]=>⟨fun _=>List.pairwise_singleton _ _,fun _=>rfl⟩
 |x::y::l=>by
  unfold aLI;rw[Bool.and_eq_true,decide_eq_true_eq,aE0 (es:=y::l),List.pairwise_cons (a:=x)]
  constructor
  ·rintro⟨h,k⟩
   refine⟨fun z hz=>?_,k⟩;rcases List.mem_cons.1 hz with rfl|hz
   ·exact h
   ·have:=(List.pairwise_cons.1 k).1 z hz
    unfold wH at this ⊢;omega
  ·rintro⟨h,k⟩
   exact⟨h y (List.mem_cons_self ..),k⟩
def eG (n:Nt) (es:List En):Bool:=es.all (fC n)&&aLI es
theorem lI {n:Nt} {es:List En}:eG n es=true↔qK n es:=by
 unfold eG;rw[Bool.and_eq_true,List.all_eq_true,aE0];exact⟨fun⟨a,b⟩=>⟨fun e he=>qH.1 (a e he),b⟩,fun⟨a,b⟩=>⟨fun e he=>qH.2 (a e he),b⟩⟩
def lA (l:List Int):Bool:=l.all (fun t=>in6 t 0 63)&&decide (l.length<=100)
def kY (n:Nt) (i:Int):Bool:=decide (((dF n i).length:Int)=(aD n i).born+1)&&(decide ((bZ n i 0).length=0)&&(dF n i).all lA)
theorem xM {n:Nt} {i:Int}:kY n i=true↔aFQ n i:=by
 unfold kY lA;simp only[Bool.and_eq_true,decide_eq_true_eq,List.all_eq_true,cO];exact⟨fun⟨a,b,c⟩=>⟨a,List.eq_nil_of_length_eq_zero b,fun l hl=>(c l hl).2,fun l hl=>(c l hl).1⟩,fun⟨a,b,c,d⟩=>⟨a,by rw[b];rfl,fun l hl=>⟨d l hl,c l hl⟩⟩⟩
def vZ (n:Nt) (i:Int):Bool:=match mA (aD n i).known i with
 |some e=>decide (e.born=(aD n i).born)&&decide (e.num=(bZ n i (aD n i).born).length)
 |none=>false
theorem aAY {n:Nt} {i:Int}:vZ n i=true↔aJ7 n i:=by
 unfold vZ aJ7;cases h:mA (aD n i).known i with
 |none=>simp
 |some e=>simp
def aEz (n:Nt) (i:Int):Bool:=
 if i=0 then decide ((aD n i).level=0)&&(decide ((aD n i).up= -1)&&decide (0<=(aD n i).beacon))
 else in6 (aD n i).beacon 0 (aD n 0).beacon&&(in6 (aD n i).level 1 5&&(decide ((aD n i).up= -1↔(aD n i).level=5)&&(in6 (aD n i).up (-1) 4&&decide ((aD n i).up≠i))))
theorem rK {n:Nt} {i:Int}:aEz n i=true↔aMk n i:=by
 unfold aEz
 by_cases h:i=0
 ·subst h
  rw[if_pos rfl];simp only[Bool.and_eq_true,decide_eq_true_eq];exact⟨fun⟨a,b,c⟩=>⟨⟨c,Int.le_refl _⟩,fun _=>⟨a,b⟩,fun q=>absurd rfl q,fun q=>absurd rfl q,fun q=>absurd rfl q⟩,fun W=>⟨(W.root rfl).1,(W.root rfl).2,W.beacon.1⟩⟩
 ·rw[if_neg h]
  simp only[Bool.and_eq_true,decide_eq_true_eq,cO];exact⟨fun⟨a,b,c,d,e⟩=>⟨a,fun q=>absurd q h,fun _=>b,fun _=>c,fun _=>⟨d,e⟩⟩,fun W=>⟨W.beacon,W.level h,W.none h,(W.up h).1,(W.up h).2⟩⟩
def nN (n:Nt) (i:Int):Bool:=vZ n i&&(eG n (aD n i).known&&aEz n i)
def aCv (w:Wd):Bool:=in6 w.src 0 4&&(in6 w.dst 0 4&&decide (w.src≠w.dst))
def iO (n:Nt) (w:Wd):Bool:=
 if w.kind=1 then aCv w&&(in6 w.beacon 0 (aD n 0).beacon&&(in6 w.level 0 4&&decide (w.known.length=0)))
 else if w.kind=2 then aCv w&&(decide (w.beacon=0)&&(decide (w.level=0)&&eG n w.known))
 else false
theorem xF {n:Nt} {w:Wd}:iO n w=true↔aKL n w:=by
 unfold iO aCv
 by_cases h:w.kind=1
 ·rw[if_pos h]
  simp only[Bool.and_eq_true,decide_eq_true_eq,cO];refine⟨fun⟨⟨a,b,c⟩,d,e,f⟩=>⟨a,b,c,.inl ⟨h,d,e,List.eq_nil_of_length_eq_zero f⟩⟩,fun W=>⟨⟨W.src,W.dst,W.other⟩,?_⟩⟩;rcases W.kind with ⟨_,d,e,f⟩|⟨k,_⟩
  ·exact⟨d,e,by rw[f];rfl⟩
  ·omega
 ·rw[if_neg h]
  by_cases k:w.kind=2
  ·rw[if_pos k]
   simp only[Bool.and_eq_true,decide_eq_true_eq,cO,lI];refine⟨fun⟨⟨a,b,c⟩,d,e,f⟩=>⟨a,b,c,.inr ⟨k,d,e,f⟩⟩,fun W=>⟨⟨W.src,W.dst,W.other⟩,?_⟩⟩;rcases W.kind with ⟨q,_⟩|⟨_,d,e,f⟩
   ·exact absurd q h
   ·exact⟨d,e,f⟩
  ·rw[if_neg k]
   refine⟨fun c=>(by cases c),fun W=>?_⟩;rcases W.kind with ⟨q,_⟩|⟨q,_⟩
   ·exact absurd q h
   ·exact absurd q k
def aCb (n:Nt):Bool:=decide (n.nodes.length=5)&&(decide (n.past.length=5)&&(decide (n.links.length=25)&&decide (n.words.length<=24)))
def oI (n:Nt) (a:Int):Bool:=in6 (aD n a).born 1 20&&(kY n a&&((fD n a a==false)&&(List.range a.toNat).all fun b=>fD n a (b:Int)==fD n (b:Int) a))
def jW (n:Nt):Bool:=aCb n&&((List.range 5).all (fun a:Nat=>oI n a)&&((List.range 5).all (fun i:Nat=>nN n i)&&(n.words.all (iO n)&&in6 (aD n 0).beacon 0 1000)))
theorem aMO {P:Int->Prop}:(∀a ∈ List.range 5,P (a:Nat))↔∀i,bA i->P i:=by
 constructor
 ·intro h i hi
  unfold bA at hi;have:=h i.toNat (List.mem_range.2 (by omega));rwa[show ((i.toNat:Nat):Int)=i by omega]at this
 ·intro h a ha
  have:=List.mem_range.1 ha;exact h a ⟨by omega,by omega⟩
theorem vL {n:Nt}:jW n=true↔aHm n:=by
 unfold jW;simp only[Bool.and_eq_true,List.all_eq_true];rw[aMO (P:=fun i=>oI n i=true),aMO (P:=fun i=>nN n i=true)];unfold aCb oI nN;simp only[Bool.and_eq_true,decide_eq_true_eq,cO,xM,List.all_eq_true,beq_iff_eq,List.mem_range,aAY,lI,rK,xF]
 constructor
 ·rintro⟨⟨h1,h2,h3,h4⟩,h5,h6,h7,h8⟩
  have either:∀i j,bA i->bA j->j<i->fD n i j=fD n j i:=fun i j hi hj l=>by
   have:=(h5 i hi).2.2.2 j.toNat (by unfold bA at hi hj;omega);rwa[show ((j.toNat:Nat):Int)=j by unfold bA at hj;omega]at this
  refine⟨h1,h2,h3,h4,fun i hi=>(h5 i hi).1,fun i hi=>(h5 i hi).2.1,fun i hi=>(h5 i hi).2.2.1,fun i j hi hj=>?_,fun i hi=>(h6 i hi).1,fun i hi=>(h6 i hi).2.1,fun i hi=>(h6 i hi).2.2,h7,h8.2⟩;rcases (by omega:j<i\/i=j\/i<j)with l|l|l
  ·exact either i j hi hj l
  ·rw[l]
  ·exact (either j i hj hi l).symm
 ·intro h
  refine⟨⟨h.nodes,h.past,h.links,h.words⟩,fun i hi=>⟨h.born i hi,h.pasts i hi,h.self i hi,fun b hb=>h.either i b hi ?_⟩,fun i hi=>⟨h.own i hi,h.known i hi,h.way i hi⟩,h.word,(h.way 0 ⟨by omega,by omega⟩).beacon.1,h.beacon⟩;unfold bA at hi ⊢;omega
def put (n:Nt) (i:Int) (x:Nd) (rows:List (List Int)):Nt:={ n with nodes:=n.nodes.set i.toNat x,past:=n.past.set i.toNat rows }
end Go.Proofs.YtcblbdpdbggkbaaGreat.N
