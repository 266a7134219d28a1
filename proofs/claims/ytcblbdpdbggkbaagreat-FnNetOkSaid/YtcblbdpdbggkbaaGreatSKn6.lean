/-
  What the laws of Kn need of the texts before it, part 6.
-/
import Derived.ArgAppend
import Derived.BigQuiet
import Derived.Deep.AppendLies
import Derived.Deep.Cut
import Derived.Deep.MidRow
import Derived.Deep.OwnRows
import Derived.Deep.QuietTactic
import Derived.Deep.RegionHeld3
import Derived.Deep.RegionLaw
import Derived.Deep.RegionWith
import Derived.Deep.WholeRow
import Derived.IntWalk
import Derived.Laws.AppendOwnNone
import Derived.Laws.ResultCell
import Derived.Laws.StructEq
import Derived.Lib.AppendZerosOnto
import Derived.Lib.Hide
import Derived.Lib.QuietBelow
import Derived.Lib.SliceRun
import Derived.Lib.Walk
import Derived.Maps.AppendAt
import Derived.OneCell
import Derived.StillTail
import Derived.Test.YtcblbdpdbggkbaaGreatRows
import Derived.WalkKit
import Derived.WalkLawsBesides
import Derived.WalkSpells
import Derived.Test.YtcblbdpdbggkbaaGreatSKn2
set_option maxRecDepth 100000
set_option maxHeartbeats 16000000
set_option linter.unusedVariables false
set_option linter.unusedSectionVars false
set_option linter.unusedSimpArgs false
namespace Go.Proofs.YtcblbdpdbggkbaaGreat
theorem zj {P:Prop} (h:P:=by
 clear hF
 go_wp2_with fail
 go_quiet (fail)
 go_wp2_with fail
 go_quiet (fail)
 go_wp2_with fail
 go_quiet (with_reducible exact zP KM.out)
 go_upto_region 13 with fail
 rw[GOF.out]
 by_cases hc2:c=2
 ·subst hc2
  obtain rfl:n=2:=o_;have QD:=hd_ (fun q=>(FQ.out q).drop2);rw[if_pos rfl]at QD;simp only[Nat.sub_self]at QD
  go_wp2_with (first|(at_builtin;refine iM rfl _ _ rfl W.heap.size 0 0 _ _ rfl (Que.alloc (QD.out _) _) (by rw[pN];have:=HN.out;have:=HM.out;omega) (J:Int) ⟨(F _).heap.size,0,none⟩ rfl (cell_one_new _ _ _) (by have:=FS.out;simp[FS.out];omega) (by have:=HN.out;omega) ?_;intro y' c' w' row hq' hgr hrow))
  rw[LST.out]at hq';go_roundw
  case rel=>exact⟨J - 1,1,y',c',o_,by have:=HN.out;omega,rfl,hq',by rw[hs.out,e.out];exact ((FA.out _).alloc _).keep hgr hrow HB2.out.1,((FX.out _).alloc _).keep hgr hrow HB2.out.2,rB ((FB.out _).alloc (FB.out _).size _) hgr hrow (by have:=HB2.out.1;omega) (by have:=(FB.out 0).size;simp[FS.out]at this ⊢;omega),by have:=hgr.size;simp[FS.out]at this;omega⟩
  case measure=>simp[aJM]
 ·have QD:=hd_ (fun q=>(FQ.out q).drop2)
  rw[if_neg hc2]at QD
  go_wp2_with (first|(at_builtin;refine iM rfl _ _ rfl W.heap.size (n - 2) (c - 2) _ _ rfl (Que.alloc (QD.out _) _) (by rw[pN];have:=HN.out;have:=HM.out;omega) (J:Int) ⟨(F _).heap.size,0,none⟩ rfl (cell_one_new _ _ _) (by have:=FS.out;simp[FS.out];omega) (by have:=HN.out;omega) ?_;intro y' c' w' row hq' hgr hrow))
  rw[LST.out]at hq';go_roundw
  case rel=>exact⟨J - 1,n - 2+1,y',c',o_,by have:=HN.out;omega,rfl,hq',by rw[hs.out,e.out];exact ((FA.out _).alloc _).keep hgr hrow HB2.out.1,((FX.out _).alloc _).keep hgr hrow HB2.out.2,rB ((FB.out _).alloc (FB.out _).size _) hgr hrow (by have:=HB2.out.1;omega) (by have:=(FB.out 0).size;simp[FS.out]at this ⊢;omega),by have:=hgr.size;simp[FS.out]at this;omega⟩
  case measure=>simp[aJM];omega):P:=h
theorem zAa {P:Prop} (h:P:=by
 obtain rfl:k=n:=o_
 have e1:ps.take k=ps:=List.take_of_length_le (by rw[HL.out];exact Nat.le_refl _);rw[e1]at hsb ⊢;have HF:Hid (bW ps=all->cX ps all=true):=fun h=>(fS _ _).2 ⟨⟨ha0,ha1⟩,fun i hi=>G.out i (by rw[HL.out]at hi;exact hi),h⟩
 have HN:Hid (¬bW ps=all->cX ps all=false):=fun h=>oD (fun q=>h q.2.2)
 generalize bW ps=S at *;clear hg hbl hX1 e1
 by_cases he:S=all
 ·have fv:=hd_ (HF.out he)
  have e2:(S==all)=true:=by simpa using he
  go_wp2;go_ret;exact⟨aK (by first|(rw[fv.out];done)|(rw[fv.out];simp[he])),FIN.out⟩
 ·have fv:=hd_ (HN.out he)
  have e2:(S==all)=false:=by simpa using he
  go_wp2;go_ret;exact⟨aK (by first|(rw[fv.out];done)|(rw[fv.out];simp[he])),FIN.out⟩):P:=h
theorem zAr {P:Prop} (h:P:=by
 go_wp2;go_ret;exact⟨aK bd.out.symm,below_drewN FIN2.out _⟩):P:=h
theorem zAS {P:Prop} (h:P:=by
 have eD:decide (D<m)=true:=decide_eq_true hD8
 have bd:=hd_ (bad.out (fun q=>by have:=(HQ.out.1 q).2.2 h64;(try simp at this);omega));clear HQ bad
 go_quiet (first|(with_reducible exact aI (aS _ _ _ _ ht0 ht1))|(with_reducible exact aI (aS _ _ _ _ hm0 hm1)))
 exact zAr):P:=h
theorem zAT {P:Prop} (h:P:=by
 go_wp2;exact bodyPost_ret (v:=.tuple #[.agg #[zn,iv 0],.bool false]) (by simp[results,results313,go_sem,hr0,hr1]) rfl ⟨rfl,BZ.out⟩):P:=h
theorem zA5 {P:Prop} (h:P:=by
 go_wp2
 go_quiet (fail)
 go_wp2;go_roundw
 case rel=>exact⟨j - 1,I - 2,o_,by have:=HI.out;omega,by congr 1;omega,by rw[hs.out,e.out];exact HR.out.drewN _,lY HG.out _⟩
 case measure=>simp[intOf];omega):P:=h
theorem zBi {P:Prop} (h:P:=by
 refine World.ownsRow.kept h hg ?_;cases hv:v.ownBlock with
 |none=>exact .inl rfl
 |some k=>exact .inr (fun e=>by have:=(World.ownsRow.lt h k hv).1;have:=hr k e.symm;omega)):P:=h
theorem zBB {P:Prop} (h:P:=by
 go_wp2_with fail
 rw[<-hwk];clear hwk
 go_quiet (fail)
 exact zAr):P:=h
theorem zBH {P:Prop} (h:P:=by
 rw[HB.out.cell (p:=⟨b,j,none⟩) (by show b<_;omega),HA.out.cell (p:=⟨b,j,none⟩) hb];exact h):P:=h
end Go.Proofs.YtcblbdpdbggkbaaGreat
namespace Go.Proofs.YtcblbdpdbggkbaaGreat.K
open _root_.Go.Proofs.Tryz
open Go.RowKit Go.Sort
abbrev Pr:=Int × Int
def pr (ps:List Pr) (i:Nat):Pr:=ps.getD i (0,0)
def prs (ps:List Pr):List Value:=ps.flatMap fun p=>[.int .i64 p.1,.int .i64 p.2]
theorem mH (p:Pr) (ps:List Pr):prs (p::ps)=.int .i64 p.1::.int .i64 p.2::prs ps:=rfl
theorem uW (ps qs:List Pr):prs (ps++qs)=prs ps++prs qs:=by simp[prs]
theorem sB (ps:List Pr) (p:Pr):prs (ps++[p])=prs ps++[.int .i64 p.1,.int .i64 p.2]:=by simp[prs]
theorem iN (ps:List Pr):(prs ps).length=ps.length * 2:=by
 induction ps with
 |nil=>rfl
 |cons p ps ih=>rw[mH];simp[ih];omega
theorem oV (ps:List Pr) (i:Nat) (h:i<ps.length):(prs ps)[i * 2]? =some (.int .i64 (pr ps i).1)/\(prs ps)[i * 2+1]? =some (.int .i64 (pr ps i).2):=by
 induction ps generalizing i with
 |nil=>cases h
 |cons p ps ih=>
  rw[mH];cases i with
  |zero=>exact⟨rfl,rfl⟩
  |succ i=>
   have:=ih i (by simpa using h);rw[show (i+1) * 2=i * 2+1+1 by omega];simp only[List.getElem?_cons_succ];exact this
theorem jH {ps:List Pr} {i:Nat} (h:i<ps.length):pr ps i ∈ ps:=kQ ps i (0,0) h
theorem lA {ps:List Pr} {p:Pr} (h:p ∈ ps):∃i,i<ps.length/\pr ps i=p:=by
 obtain⟨i,hi,rfl⟩:=List.getElem_of_mem h;exact⟨i,hi,by simp[pr,hi]⟩
def Prs (w:World) (v:Value) (ps:List Pr):Prop:=
 (v=.slice none 0 0/\ps=[])\/
 ∃b o cap,v=.slice (some ⟨b,o,none⟩) ps.length cap/\ps.length<=cap/\cap<=maxLen/\b<w.heap.size/\
  ∀i,i<ps.length->w.cell? ⟨b,o+i * 2,none⟩=some (.int .i64 (pr ps i).1)/\w.cell? ⟨b,o+i * 2+1,none⟩=some (.int .i64 (pr ps i).2)
theorem Prs.below {w w':World} {v:Value} {ps:List Pr} (h:Prs w v ps) {B:Nat} (hb:Below B w w') (hB:w.heap.size<=B):Prs w' v ps:=by
 rcases h with h|⟨b,o,cap,rfl,h1,h2,h3,h4⟩
 ·exact .inl h
 ·exact .inr ⟨b,o,cap,rfl,h1,h2,Nat.lt_of_lt_of_le h3 hb.size,fun i hi=>by
      rw[hb.cell (by show b<B;omega),hb.cell (by show b<B;omega)];exact h4 i hi⟩
theorem Prs.form {w:World} {v:Value} {ps:List Pr} (h:Prs w v ps):∃x c,v=.slice x ps.length c/\ps.length<=c/\c<=maxLen:=by
 rcases h with ⟨rfl,rfl⟩|⟨b,o,cap,rfl,h1,h2,_⟩
 ·exact⟨none,0,rfl,Nat.le_refl _,Nat.zero_le _⟩
 ·exact⟨_,_,rfl,h1,h2⟩
theorem Prs.cells {w:World} {x:Option Addr} {n c:Nat} {ps:List Pr} (h:Prs w (.slice x n c) ps):∀i,i<ps.length->∃b o,x=some ⟨b,o,none⟩/\b<w.heap.size/\w.cell? ⟨b,o+i * 2,none⟩=some (.int .i64 (pr ps i).1)/\w.cell? ⟨b,o+i * 2+1,none⟩=some (.int .i64 (pr ps i).2):=fun i hi=>by
 rcases h with ⟨_,rfl⟩|⟨b,o,cap,e,h1,h2,h3,h4⟩
 ·cases hi
 ·exact⟨b,o,(Value.slice.inj e).1,h3,h4 i hi⟩
def aJ (w:World) (B:Nat) (v:Value) (ps:List Pr):Prop:=w.ownsRow B 152 2 v ps.length (prs ps)
theorem lN (b o i:Nat):(⟨b,o,none⟩:Addr).add i=⟨b,o+i,none⟩:=by unfold Addr.add;split<;>simp_all
theorem aJ.rd {w:World} {B:Nat} {v:Value} {ps:List Pr} (h:aJ w B v ps):Prs w v ps:=by
 rcases h.2 with ⟨rfl,h0⟩|⟨g,cap,cur,rfl,hb,hg,hn,hc,hs,ht⟩
 ·exact zA7
 ·refine .inr ⟨g,0,cap,rfl,hn,hc,(Array.getElem?_eq_some_iff.1 hg).1,fun i hi=>?_⟩
  have e:=oV ps i hi;have a:=World.ownsRow.cells h (g:=g) rfl _ _ e.1;have b:=World.ownsRow.cells h (g:=g) rfl _ _ e.2;rw[lN]at a b;exact⟨a,by rw[Nat.add_assoc];exact b⟩
theorem aJ.base {w:World} {B B':Nat} {v:Value} {ps:List Pr} (h:aJ w B v ps) (hB:B'<=B):aJ w B' v ps:=aU h hB
theorem aJ.kept {w w':World} {B:Nat} {v:Value} {ps:List Pr} {row:Option Nat} (h:aJ w B v ps) (hg:w.grownBy w' row) (hr:∀k,row=some k->k<B):aJ w' B v ps:=by
 exact zBi
theorem aJ.keep {w w':World} {B:Nat} {v:Value} {ps:List Pr} {row:Option Nat} (h:aJ w B v ps) (hg:w.grownBy w' row) (hr:v.ownBlock≠row):aJ w' B v ps:=World.ownsRow.kept h hg (.inr hr)
theorem aJ.alloc {w:World} {B:Nat} {v:Value} {ps:List Pr} (h:aJ w B v ps) (o:Obj):aJ (w.alloc o) B v ps:=World.ownsRow.alloc h o
theorem aJ.below {w w':World} {B:Nat} {v:Value} {ps:List Pr} (h:aJ w B v ps) (hb:Below w.heap.size w w'):aJ w' B v ps:=h.kept (row:=none) (dH hb) (fun _ e=>by cases e)
theorem aJ.nil (w:World) (B:Nat):aJ w B zn []:=World.ownsRow_nil w B _ 2
theorem aJ.form {w:World} {B:Nat} {v:Value} {ps:List Pr} (h:aJ w B v ps):∃x c,v=.slice x ps.length c/\ps.length<=c/\c<=maxLen:=h.rd.form
theorem fQ:(prog.info? 152).map (fun i=>(i.zero,i.size,i.bytes))=some (some (.agg #[iv 0,iv 0]),2,16):=by kernel_rfl
theorem qS (w:World) (B:Nat) (hB:B<=w.heap.size):aJ (w.alloc (.cells #[] 152)) B (.slice (some ⟨w.heap.size,0,none⟩) 0 0) []:=
 World.ownsRow_lit (base:=B) (e:=152) (size:=2) w #[] 0 hB (by simp[maxLen]) (by simp)
def bD (W:World) (b:Nat) (t:TypeId) (x y:Value):Prop:=W.heap[b]? =some (.cells #[x,y] t (0,0))
section
variable {W W':World} {b:Nat} {t:TypeId} {x y:Value}
theorem bD.lt (h:bD W b t x y):b<W.heap.size:=(Array.getElem?_eq_some_iff.1 h).1
theorem bD.new (W:World) (t:TypeId) (x y:Value):bD (W.alloc (.cells #[x,y] t)) W.heap.size t x y:=heap_alloc_new W _
theorem bD.below (h:bD W b t x y) {B:Nat} (hb:Below B W W') (hB:b<B):bD W' b t x y:=(hb.block b hB).trans h
theorem bD.later (h:bD W b t x y) (hb:Below W.heap.size W W'):bD W' b t x y:=h.below hb h.lt
theorem bD.drew (h:bD W b t x y):bD W.drew b t x y:=h
theorem bD.alloc (h:bD W b t x y) (o:Obj):bD (W.alloc o) b t x y:=h.later ((Below.refl _ _).alloc lr_ o)
theorem bD.kept {row:Option Nat} (h:bD W b t x y) (hg:W.grownBy W' row) (hr:row≠some b):bD W' b t x y:=(hg.block b h.lt (fun e=>hr e.symm)).trans h
theorem bD.cell0 (h:bD W b t x y):W.cell? ⟨b,0,none⟩=some x:=by unfold bD at h;simp[World.cell?,h]
theorem bD.cell1 (h:bD W b t x y):W.cell? ⟨b,1,none⟩=some y:=by unfold bD at h;simp[World.cell?,h]
theorem bD.free (h:bD W b t x y) (i:Nat):W.frozen? ⟨b,i,none⟩=false:=by unfold bD at h;simp[World.frozen?,h]
theorem bD.set0 (h:bD W b t x y) (u:Value):bD (W.setCell ⟨b,0,none⟩ u) b t u y:=by unfold bD at h ⊢;rw[heap_setCell_same W b 0 _ _ _ h];rfl
theorem bD.set1 (h:bD W b t x y) (u:Value):bD (W.setCell ⟨b,1,none⟩ u) b t x u:=by unfold bD at h ⊢;rw[heap_setCell_same W b 1 _ _ _ h];rfl
theorem bD.set (h:bD W b t x y) (x' y':Value):bD ((W.setCell ⟨b,0,none⟩ x').setCell ⟨b,1,none⟩ y') b t x' y':=(h.set0 x').set1 y'
theorem bD.not_row {B:Nat} {e:TypeId} {size n:Nat} {v:Value} {xs:List Value} (h:bD W b t x y) (ht:t≠e) (ho:W.ownsRow B e size v n xs):v.ownBlock≠some b:=fun hb=>by
 rcases ho.2 with ⟨rfl,_⟩|⟨g,cap,cur,rfl,_,hg,_⟩
 ·cases hb
 ·obtain rfl:g=b:=by simpa[Value.ownBlock]using hb
  unfold bD at h;rw[hg]at h;cases h;exact ht rfl
end
theorem lJ {B b:Nat} {w W:World} (h:Below B w W) (hb:B<=b) (x y:Value):Below B w ((W.setCell ⟨b,0,none⟩ x).setCell ⟨b,1,none⟩ y):=(h.setCell hb _).setCell hb _
theorem aJ.set2 {W:World} {B b:Nat} {v:Value} {ps:List Pr} (h:aJ W B v ps) (hv:v.ownBlock≠some b) (x y:Value):aJ ((W.setCell ⟨b,0,none⟩ x).setCell ⟨b,1,none⟩ y) B v ps:=
 (h.keep (aF W ⟨b,0,none⟩ x) hv).keep (aF _ ⟨b,1,none⟩ y) hv
theorem sO:(prog.info? 3).map (fun i=>(i.zero,i.size,i.bytes))=some (some (.int .i64 0),1,8):=by kernel_rfl
def cE (w:World) (B:Nat) (v:Value) (zs:List Int):Prop:=w.ownsRow B 3 1 v zs.length (cC zs)
theorem cE.kept {w w':World} {B:Nat} {v:Value} {zs:List Int} {row:Option Nat} (h:cE w B v zs) (hg:w.grownBy w' row) (hr:∀k,row=some k->k<B):cE w' B v zs:=by
 exact zBi
theorem cE.below {w w':World} {B:Nat} {v:Value} {zs:List Int} (h:cE w B v zs) (hb:Below w.heap.size w w'):cE w' B v zs:=h.kept (row:=Option.none) (dH hb) (fun _ e=>by cases e)
theorem aIK (zs:List Int) (k:Nat) (x:Int):(cC zs).set k (iv x)=cC (zs.set k x):=by simp[cC,List.map_set]
def kR (w:World) (B g n c:Nat) (zs:List Int):Prop:=zs.length=n/\w.ownsRow B 3 1 (.slice (some ⟨g,0,none⟩) n c) n (cC zs)
section
variable {w w':World} {B g n c:Nat} {zs:List Int}
theorem kR.own (h:kR w B g n c zs):cE w B (.slice (some ⟨g,0,none⟩) n c) zs:=by unfold cE;rw[h.1];exact h.2
theorem kR.cell (h:kR w B g n c zs) {i:Nat} (hi:i<n):w.cell? ⟨g,i,none⟩=some (.int .i64 (zs.getD i 0)):=by
 rw[h.2.cellAt i o_];exact kU _ _ (by rw[h.1];exact hi)
theorem kR.free (h:kR w B g n c zs) (i:Nat):w.frozen? ⟨g,i,none⟩=false:=h.2.frozenAt i
theorem kR.set (h:kR w B g n c zs) (i:Nat) (x:Int):kR (w.setCell ⟨g,i,none⟩ (iv x)) B g n c (zs.set i x):=by
 have hs:=(h.2.stored i (iv x)).1;rw[aIK]at hs;exact⟨by simpa using h.1,hs⟩
theorem kR.grown (h:kR w B g n c zs) (i:Nat) (x:Int):w.grownBy (w.setCell ⟨g,i,none⟩ (iv x)) (some g):=(h.2.stored i (iv x)).2
theorem kR.below (h:kR w B g n c zs) (hb:Below w.heap.size w w'):kR w' B g n c zs:=by
 have h2:=h.own.below hb;unfold cE at h2;rw[h.1]at h2;exact⟨h.1,h2⟩
theorem kR.drewN (h:kR w B g n c zs) (k:Nat):kR (w.drewN k) B g n c zs:=h
theorem kR.lt (h:kR w B g n c zs):B<=g/\g<w.heap.size:=World.ownsRow.lt h.2 g rfl
end
theorem aHo (w:World) (n:Nat) (hn:n<=1048576):kR (w.alloc (.cells (madeCells #[iv 0] n) 3)) w.heap.size w.heap.size n n (List.replicate n 0):=by
 have:=World.ownsRow_lit (base:=w.heap.size) (e:=3) (size:=1) w (madeCells #[iv 0] n) n lr_ (by unfold maxLen;omega) (by rw[size_madeCells];omega);rw[toList_madeCells_one]at this;exact⟨by simp,by simpa[cC]using this⟩
def aMh:Nat->Int->Int
 | 0,x=>x
 |f+1,x=>if x<64 then aMh f (2 * x)else x
def aMo:Nat->Int->Int->Int
 | 0,_,h=>h
 |f+1,x,h=>if x<64 then aMo f (2 * x) (2 * h+1)else h
def sV (a:Int):Int:=aMh 7 a - 64
def kI (a:Int):Int:=aMo 7 a a - 64
theorem vT:∀n:Nat,n<127->(0<=sV ((n:Int)+1)/\sV ((n:Int)+1)<=kI ((n:Int)+1)/\kI ((n:Int)+1)<=63)/\(63<=n->sV ((n:Int)+1)=(n:Int)+1 - 64/\kI ((n:Int)+1)=(n:Int)+1 - 64)/\
  (n<63->sV (2 * ((n:Int)+1))=sV ((n:Int)+1)/\kI (2 * ((n:Int)+1))+1=sV (2 * ((n:Int)+1)+1)/\kI (2 * ((n:Int)+1)+1)=kI ((n:Int)+1)/\kI (2 * ((n:Int)+1)) - sV (2 * ((n:Int)+1))=kI ((n:Int)+1) - kI (2 * ((n:Int)+1)) - 1):=by decide+kernel
def bW (ps:List Pr):Int:=(ps.map (·.2)).sum
theorem sS (ps qs:List Pr):bW (ps++qs)=bW ps+bW qs:=by simp[bW]
theorem eA (ps:List Pr) (k:Nat) (h:k<ps.length):ps.take (k+1)=ps.take k++[pr ps k]:=by
 rw[List.take_succ_eq_append_getElem h];simp[pr,h]
theorem jX (ps:List Pr) (k:Nat) (h:k<ps.length):bW (ps.take (k+1))=bW (ps.take k)+(pr ps k).2:=by
 rw[eA ps k h,sS];simp[bW]
def KnG (ps:List Pr) (all:Int) (i:Nat):Prop:=((1<=(pr ps i).1/\(pr ps i).1<=127)/\1<=(pr ps i).2/\(pr ps i).2<=2000)/\(0<i->(pr ps (i - 1)).1<(pr ps i).1)/\((pr ps i).1<64->(pr ps i).2<=all / 8)
instance (ps:List Pr) (all:Int) (i:Nat):Decidable (KnG ps all i):=by unfold KnG;infer_instance
def dM (ps:List Pr) (all:Int):Prop:=(0<=all/\all<=2000)/\(∀i,i<ps.length->KnG ps all i)/\bW ps=all
instance (ps:List Pr) (all:Int):Decidable (dM ps all):=by unfold dM;infer_instance
def cX (ps:List Pr) (all:Int):Bool:=decide (dM ps all)
theorem fS (ps:List Pr) (all:Int):cX ps all=true↔dM ps all:=by simp[cX]
theorem oD {ps:List Pr} {all:Int} (h:¬dM ps all):cX ps all=false:=by simpa[cX]using h
theorem aIN {ps:List Pr} {all:Int} {k:Nat} (h:∀i,i<k->KnG ps all i):∀i,i<k->(i:Int)+1<=(pr ps i).1:=fun i hi=>by
 induction i with
 |zero=>have:=(h 0 hi).1.1.1;omega
 |succ i ih=>
  have:=ih o_;have:=(h (i+1) hi).2.1 o_;simp only[Nat.add_sub_cancel]at this;omega
theorem aAf {ps:List Pr} {all:Int} {k:Nat} (h:∀i,i<k->KnG ps all i):k<=127:=by
 cases k with
 |zero=>omega
 |succ k=>
  have:=aIN h k o_;have:=(h k o_).1.1.2;omega
theorem aC7 {ps:List Pr} {all:Int} {k:Nat} (hk:k<=ps.length) (h:∀i,i<k->KnG ps all i):0<=bW (ps.take k)/\bW (ps.take k)<=2000 * k:=by
 induction k with
 |zero=>simp[bW]
 |succ k ih=>
  have:=ih o_ (fun i hi=>h i o_);have g:=(h k o_).1.2;rw[jX ps k o_];omega
theorem aEk (w:World) (x:Option Addr) (n c:Nat) (ps:List Pr) (all:Int) (hl:ps.length=n) (hp:Prs w (.slice x n c) ps) (hn:n<=maxLen):
  Calls prog 222 #[.agg #[.slice x n c,iv all]] w fun e w'=>e=.returned (.bool (cX ps all))/\Below w.heap.size w w':=by
 unfold maxLen at hn;have HPR:=hd_ hp;have HP:=hd_ hp.cells;have HL:=hd_ hl;obtain⟨W,hW⟩:=nm_ (w.alloc (.cells #[.slice x n c,iv all] 44));have hA:Below w.heap.size w W:=by rw[hW];exact (Below.refl w.heap.size w).alloc lr_ _
 have sW:W.heap.size=w.heap.size+1:=by rw[hW];simp
 have X:bD W w.heap.size 44 (.slice x n c) (iv all):=by rw[hW];exact bD.new _ _ _ _
 have HA:=hd_ hA;have HS:=hd_ sW;have HX:=hd_ X;have x0:=X.cell0;have x1:=X.cell1;clear hl hp hA sW X
 by_cases ha:all<0\/2000<all
 ·have bd:Hid (cX ps all=false):=oD (fun q=>by have:=q.1;omega)
  go_enter func222,ntmps222
  go_wp2_with fail
  rw[<-hW];clear hW;refine (fZ _ _ _ _ ha).mono ?_;rintro e w' ⟨rfl,rfl⟩;go_wp2;go_ret;exact⟨aK bd.out.symm,HA.out⟩
 have ha0:0<=all:=o_;have ha1:all<=2000:=o_;have hD:all.tdiv 8=all / 8:=Int.tdiv_eq_ediv_of_nonneg ha0;obtain⟨D,hDD⟩:=nm_ (all / 8);rw[<-hDD]at hD;have HDD:=hd_ hDD;have d0:0<=D:=o_;have d1:D<=250:=o_;clear hDD;go_enter func222,ntmps222
 go_wp2_with fail
 rw[<-hW];clear hW;refine (aS _ _ _ _ ha0 ha1).mono ?_;rintro e w' ⟨rfl,rfl⟩;go_wp2;go_loopw [3,4] (fun q i wr=>∃k:Nat,k<=n/\i=.int .i64 k/\q=.int .i64 (bW (ps.take k))/\(∀i,i<k->KnG ps all i)/\Below (w.heap.size+1) W wr) (fun _ i _=>n - (intOf i).toNat)
 case atStart=>exact⟨0,Nat.zero_le _,rfl,rfl,fun _ h=>absurd h (Nat.not_lt_zero _),Below.refl _ _⟩
 case round=>
  obtain⟨k,hk,rfl,rfl,hg,hbl⟩:=hrel;have G:=hd_ hg;have HB:=hd_ hbl;have kf:=aAf hg;have hsb:=aC7 (by rw[HL.out];exact hk) hg;have hX1:=HX.out.below HB.out (Nat.lt_succ_self _);have cw0:=hX1.cell0;have cw1:=hX1.cell1;have FIN:=hd_ (HA.out.trans (HB.out.mono (Nat.le_succ _)));have sw:w.heap.size+1<=wr.heap.size:=by have:=HB.out.size;have:=HS.out;omega
  by_cases hlt:k<n
  ·obtain⟨b,o,rfl,hb,h1,h2⟩:=HP.out k (by rw[HL.out];exact hlt)
   have tr:∀j v,w.cell? ⟨b,j,none⟩=some v->wr.cell? ⟨b,j,none⟩=some v:=fun j v h=>by
    exact zBH
   have TR:=hd_ tr;replace h1:=tr _ _ h1;replace h2:=tr _ _ h2;have lb:b<wr.heap.size:=o_;have HQ:Hid (KnG ps all k↔(((1<=(pr ps k).1/\(pr ps k).1<=127)/\1<=(pr ps k).2/\(pr ps k).2<=2000)/\(0<k->(pr ps (k - 1)).1<(pr ps k).1)/\((pr ps k).1<64->(pr ps k).2<=all / 8))):=Iff.rfl;rw[<-HDD.out]at HQ;have bad:Hid (¬KnG ps all k->cX ps all=false):=fun h=>oD (fun q=>h (q.2.1 k (by rw[HL.out];exact hlt)))
   have hs:=hd_ (jX ps k (by rw[HL.out];exact hlt));generalize pr ps k=q at h1 h2 HQ hs;obtain⟨t,m⟩:=q;have k0:(0:Int)<=(k:Int):=o_;have kn:(k:Int)<(n:Int):=o_
   -- the world with this round's box
   obtain⟨wk,hwk⟩:=nm_ (wr.alloc (.cells #[iv t,iv m] 152));have hK:Below wr.heap.size wr wk:=by rw[hwk];exact (Below.refl _ _).alloc lr_ _
   have bK:bD wk wr.heap.size 152 (iv t) (iv m):=by rw[hwk];exact bD.new _ _ _ _
   have y0:=bK.cell0;have y1:=bK.cell1;have yX:=hX1.later hK;have xk0:=yX.cell0;have xk1:=yX.cell1;have HB2:=hd_ (HB.out.trans (hK.mono sw));have FIN2:=hd_ (FIN.out.trans (hK.mono FIN.out.size));have HK:=hd_ hK;generalize hSS:bW (ps.take k)=S at *;clear hg hbl tr hX1 bK yX hSS hK
   go_wp2_with fail
   rw[<-hwk];clear hwk
   by_cases ht:t<1\/127<t
   ·skip
    have bd:=hd_ (bad.out (fun q=>by have:=(HQ.out.1 q).1.1;(try simp at this);omega));clear HQ bad
    go_quiet (first|(with_reducible exact aI (fZ _ _ _ _ ht)))
    exact zAr
   have ht0:1<=t:=o_;have ht1:t<=127:=o_
   by_cases hm:m<1\/2000<m
   ·skip
    have bd:=hd_ (bad.out (fun q=>by have:=(HQ.out.1 q).1.2;(try simp at this);omega));clear HQ bad
    go_quiet (first|(with_reducible exact aI (aS _ _ _ _ ht0 ht1))|(with_reducible exact aI (fZ _ _ _ _ hm)))
    exact zAr
   have hm0:1<=m:=o_;have hm1:m<=2000:=o_;rcases Nat.eq_zero_or_pos k with h0|h0
   ·subst h0
    by_cases h64:t<64
    ·have e64:decide (t<64)=true:=decide_eq_true h64
     by_cases hD8:D<m
     ·exact zAS
     ·have eD:decide (D<m)=false:=decide_eq_false hD8
      have good:=hd_ (HQ.out.2 ⟨⟨⟨ht0,ht1⟩,hm0,hm1⟩,fun h=>absurd h (Nat.lt_irrefl _),fun _=>by (try simp);omega⟩);clear HQ bad
      go_quiet (first|(with_reducible exact aI (aS _ _ _ _ ht0 ht1))|(with_reducible exact aI (aS _ _ _ _ hm0 hm1)))
      go_wp2;go_roundw
      case rel=>exact⟨0+1,o_,gn_,by rw[hs.out],fun i hi=>by
              by_cases h:i<0
              · exact G.out i h
              · obtain rfl:i=0:=o_
                exact good.out,below_drewN HB2.out _⟩
      case measure=>simp[intOf];omega
    ·have e64:decide (t<64)=false:=decide_eq_false h64
     have good:=hd_ (HQ.out.2 ⟨⟨⟨ht0,ht1⟩,hm0,hm1⟩,fun h=>absurd h (Nat.lt_irrefl _),fun h=>absurd h h64⟩);clear HQ bad
     go_quiet (first|(with_reducible exact aI (aS _ _ _ _ ht0 ht1))|(with_reducible exact aI (aS _ _ _ _ hm0 hm1)))
     go_wp2;go_roundw
     case rel=>exact⟨0+1,o_,gn_,by rw[hs.out],fun i hi=>by
            by_cases h:i<0
            · exact G.out i h
            · obtain rfl:i=0:=o_
              exact good.out,below_drewN HB2.out _⟩
     case measure=>simp[intOf];omega
   ·obtain⟨j,rfl⟩:∃j,k=j+1:=⟨k - 1,o_⟩
    obtain⟨b',o',e',hb',h3,_⟩:=HP.out j (by rw[HL.out];omega);cases e';replace h3:=(HK.out.cell (p:=⟨b,o+j * 2,none⟩) lb).trans (TR.out _ _ h3);rw[Nat.add_sub_cancel]at HQ;generalize pr ps j=q' at h3 HQ;obtain⟨t',m'⟩:=q';have p0:(0:Int)<((j+1:Nat):Int):=o_;have e1:((j+1:Nat):Int) - 1=(j:Int):=o_;have j0:(0:Int)<=(j:Int):=o_;have jn:(j:Int)<(n:Int):=o_
    by_cases hyx:t<=t'
    ·have hd:decide (t<=t')=true:=decide_eq_true hyx
     have bd:=hd_ (bad.out (fun q=>by have:=(HQ.out.1 q).2.1 h0;(try simp at this);omega));clear HQ bad
     go_quiet (first|(with_reducible exact aI (aS _ _ _ _ ht0 ht1))|(with_reducible exact aI (aS _ _ _ _ hm0 hm1)))
     exact zAr
    have hd:decide (t<=t')=false:=decide_eq_false hyx
    by_cases h64:t<64
    ·have e64:decide (t<64)=true:=decide_eq_true h64
     by_cases hD8:D<m
     ·exact zAS
     ·have eD:decide (D<m)=false:=decide_eq_false hD8
      have good:=hd_ (HQ.out.2 ⟨⟨⟨ht0,ht1⟩,hm0,hm1⟩,fun _=>by (try simp);omega,fun _=>by (try simp);omega⟩);clear HQ bad
      go_quiet (first|(with_reducible exact aI (aS _ _ _ _ ht0 ht1))|(with_reducible exact aI (aS _ _ _ _ hm0 hm1)))
      go_wp2;go_roundw
      case rel=>exact⟨(j+1)+1,o_,gn_,by rw[hs.out],fun i hi=>by
              by_cases h:i<(j+1)
              · exact G.out i h
              · obtain rfl:i=(j+1):=o_
                exact good.out,below_drewN HB2.out _⟩
      case measure=>simp[intOf];omega
    ·have e64:decide (t<64)=false:=decide_eq_false h64
     have good:=hd_ (HQ.out.2 ⟨⟨⟨ht0,ht1⟩,hm0,hm1⟩,fun _=>by (try simp);omega,fun h=>absurd h h64⟩);clear HQ bad
     go_quiet (first|(with_reducible exact aI (aS _ _ _ _ ht0 ht1))|(with_reducible exact aI (aS _ _ _ _ hm0 hm1)))
     go_wp2;go_roundw
     case rel=>exact⟨(j+1)+1,o_,gn_,by rw[hs.out],fun i hi=>by
            by_cases h:i<(j+1)
            · exact G.out i h
            · obtain rfl:i=(j+1):=o_
              exact good.out,below_drewN HB2.out _⟩
     case measure=>simp[intOf];omega
  ·exact zAa
theorem rZ (w:World) (u:Value) (ps:List Pr) (all:Int) (hp:Prs w u ps):
  Calls prog 222 #[.agg #[u,iv all]] w fun e w'=>e=.returned (.bool (cX ps all))/\Below w.heap.size w w':=by
 obtain⟨x,c,rfl,hc0,hc⟩:=hp.form;exact aEk w x _ c ps all rfl hp o_
def mZ (a:List Int) (p:Pr):List Int:=a.set p.1.toNat (a.getD p.1.toNat 0+p.2)
def cY (ps:List Pr):List Int:=ps.foldl mZ (List.replicate 128 0)
theorem lP (ps:List Pr):(cY ps).length=128:=by
 unfold cY;have:∀(ps:List Pr) (a:List Int),a.length=128->(ps.foldl mZ a).length=128:=by
  intro ps
  induction ps with
  |nil=>intro a h;exact h
  |cons p ps ih=>intro a h;exact ih _ (by simpa[mZ]using h)
 exact this ps _ (by simp)
theorem uT (ps:List Pr) (k:Nat) (h:k<ps.length):cY (ps.take (k+1))=mZ (cY (ps.take k)) (pr ps k):=by
 rw[eA ps k h];simp[cY]
def KnB (ps:List Pr):Prop:=∀i,i<ps.length->(0<=(pr ps i).1/\(pr ps i).1<=127)/\0<=(pr ps i).2/\(pr ps i).2<=2000
theorem aA1 {ps:List Pr} (h:KnB ps):∀k,k<=ps.length->∀i,0<=(cY (ps.take k)).getD i 0/\(cY (ps.take k)).getD i 0<=2000 * (k:Int):=by
 intro k
 induction k with
 |zero=>
  intro _ i;have e0:∀n,(List.replicate n (0:Int)).getD i 0=0:=fun n=>by
   by_cases hi:i<n<;>simp[hi]
  have e:=e0 128;show 0<=(List.replicate 128 (0:Int)).getD i 0/\(List.replicate 128 (0:Int)).getD i 0<=_
  rw[e];omega
 |succ k ih=>
  intro hk i;have h1:=ih o_ i;have h2:=ih o_ (pr ps k).1.toNat;have h3:=(h k o_).2;rw[uT ps k o_];unfold mZ
  by_cases e:(pr ps k).1.toNat=i
  ·subst e
   by_cases hl:(pr ps k).1.toNat<(cY (ps.take k)).length
   ·rw[List.getD_eq_getElem?_getD,List.getElem?_set_self hl]
    simp only[Option.getD_some];omega
   ·rw[List.set_eq_of_length_le o_];omega
  ·have e1:((cY (ps.take k)).set (pr ps k).1.toNat ((cY (ps.take k)).getD (pr ps k).1.toNat 0+(pr ps k).2)).getD i 0=(cY (ps.take k)).getD i 0:=by simp[e]
   rw[e1];omega
theorem aHj (w:World) (x:Option Addr) (n c:Nat) (ps:List Pr) (hl:ps.length=n) (hp:Prs w (.slice x n c) ps) (hn:n<=300) (hk:KnB ps):
  Calls prog 228 #[.slice x n c] w fun e w'=>e=.returned (.slice (some ⟨w.heap.size,0,none⟩) 128 128)/\kR w' w.heap.size w.heap.size 128 128 (cY ps)/\Below w.heap.size w w':=by
 have hmk:∀w,(Instr.makeSlice 23 (iv 128) (iv 128)).run prog w=.ok (.slice (some ⟨w.heap.size,0,none⟩) 128 128) (w.alloc (.cells (madeCells #[iv 0] 128) 3)):=fun w=>
  run_make_row' (P:=prog) 23 3 (iv 0) 8 underlying23 sO rfl .i64 .i64 128 o_ o_ w
 have R0:=hd_ (aHo w 128 o_);have HP:=hd_ hp.cells;have HL:=hd_ hl;have KB:=hd_ hk;clear hl hp hk;go_enter func228,ntmps228;go_wp2;go_loopw [4] (fun i wr=>∃k:Nat,k<=n/\i=.int .i64 k/\kR wr w.heap.size w.heap.size 128 128 (cY (ps.take k))/\Below w.heap.size w wr) (fun i _=>n - (intOf i).toNat)
 case atStart=>exact⟨0,Nat.zero_le _,rfl,R0.out,(Below.refl _ _).alloc lr_ _⟩
 case round=>
  obtain⟨k,hk,rfl,hrow,hbl⟩:=hrel;have HR:=hd_ hrow;have HB:=hd_ hbl
  by_cases hlt:k<n
  ·obtain⟨b,o,rfl,hb,h1,h2⟩:=HP.out k (by rw[HL.out];exact hlt)
   rw[<-HB.out.cell (p:=⟨b,o+k * 2,none⟩) hb]at h1;rw[<-HB.out.cell (p:=⟨b,o+k * 2+1,none⟩) hb]at h2;have g:=KB.out k (by rw[HL.out];exact hlt);have bd:=aA1 KB.out k (by rw[HL.out];omega);have hs:=hd_ (uT ps k (by rw[HL.out];exact hlt));generalize pr ps k=q at h1 h2 hs g;obtain⟨t,m⟩:=q;simp only at h1 h2 g;obtain⟨⟨t0,t1⟩,m0,m1⟩:=g;obtain⟨T,rfl⟩:∃T:Nat,t=(T:Int):=⟨t.toNat,o_⟩
   have T1:(T:Int)<128:=o_;have bT:=bd T;have c0:=hrow.cell (i:=T) o_;have f0:=hrow.free T;unfold mZ at hs;simp only[Int.toNat_natCast]at hs;generalize cY (ps.take k)=N at *;obtain⟨V,hV⟩:=nm_ (N.getD T 0);rw[<-hV]at c0 bT hs;have k0:(0:Int)<=(k:Int):=o_;have kn:(k:Int)<(n:Int):=o_;have ws:IntKind.i64.wrap (V+m)=V+m:=IntWalk.i64_in _ o_;have r0:=cell_regrown c0;have r1:=cell_regrown h1
   have r2:=cell_regrown h2;have gl:=hrow.lt.2;clear hrow hbl bd hV;go_wp2;refine kE (C:=fun w'=>∃p:Regrown,w'=grow (redrawn wr p.d) p.os) 21 _ rfl rfl rfl kr_ kr_ kr_ kr_ kr_ ⟨⟨wr.drawn+1,#[]⟩,by rw[grow_empty];rfl⟩ ?_;simp only[List.take_succ_cons,List.take_zero]
   repeat (refine dX (fun K hK=>?_);go_simp;first|(refine hK _ ?_;clear hK K)|(apply Exists.intro;refine⟨fun _=>?_,hK _ ?_⟩;(fail);clear hK K))
   refine fF ?_;intro _ hw';obtain⟨⟨dq,oq⟩,hw''⟩:=hw';subst hw'';have hb_w4:=below_regrown wr dq oq;obtain⟨w4,hq_w4⟩:=nm_ (grow (redrawn wr dq) oq);rw[<-hq_w4]at hb_w4 ⊢;clear hq_w4;have R4:=HR.out.below hb_w4;have d0:=R4.cell (i:=T) o_;have d1:=R4.free T;have RS:=hd_ (R4.set T (V+m));have B4:=hd_ (HB.out.trans (hb_w4.mono HB.out.size));clear R4 hb_w4 r0 r1 r2 c0 f0 h1 h2 ws;go_wp2
   go_roundw
   case rel=>exact⟨k+1,o_,gn_,by rw[hs.out];exact RS.out,B4.out.setCell lr_ _⟩
   case measure=>simp[intOf];omega
  ·obtain rfl:k=n:=o_
   have e1:ps.take k=ps:=List.take_of_length_le (by rw[HL.out];exact Nat.le_refl _);rw[e1]at HR;clear hrow hbl;go_wp2;go_ret;exact⟨rfl,HR.out,HB.out⟩
def sq1 (N:List Int) (D:Int) (j:Nat):List Int:=
 if 0<N.getD (2 * j) 0+N.getD (2 * j+1) 0/\N.getD (2 * j) 0+N.getD (2 * j+1) 0+N.getD j 0<=D then ((N.set j (N.getD j 0+(N.getD (2 * j) 0+N.getD (2 * j+1) 0))).set (2 * j) 0).set (2 * j+1) 0 else N
def sqz (N:List Int) (D:Int):Nat->List Int
 | 0=>N
 |s+1=>sq1 (sqz N D s) D (63 - s)
theorem aGz (N:List Int) (D:Int) (j:Nat):(sq1 N D j).length=N.length:=by unfold sq1;split<;>simp
theorem aDg (N:List Int) (D:Int) (s:Nat):(sqz N D s).length=N.length:=by
 induction s with
 |zero=>rfl
 |succ s ih=>rw[sqz,aGz,ih]
def BdN (N:List Int) (M:Int):Prop:=∀i,0<=N.getD i 0/\N.getD i 0<=M
theorem BdN.set {N:List Int} {M:Int} (h:BdN N M) (i:Nat) {x:Int} (h0:0<=x) (h1:x<=M):BdN (N.set i x) M:=fun j=>by
 have:=h j
 by_cases e:i=j
 ·subst e
  by_cases hl:i<N.length
  ·rw[List.getD_eq_getElem?_getD,List.getElem?_set_self hl];exact⟨h0,h1⟩
  ·rw[List.set_eq_of_length_le o_];exact this
 ·have e1:(N.set i x).getD j 0=N.getD j 0:=by simp[e]
  rw[e1];exact this
theorem aL5 {N:List Int} {M D:Int} (h:BdN N M) (hD:D<=M) (hM:0<=M) (j:Nat):BdN (sq1 N D j) M:=by
 unfold sq1
 split
 ·rename_i hc
  have a:=h j;have b:=h (2 * j);have c:=h (2 * j+1);exact ((h.set j o_ o_).set _ (Int.le_refl _) hM).set _ (Int.le_refl _) hM
 ·exact h
theorem aKm {N:List Int} {M D:Int} (h:BdN N M) (hD:D<=M) (hM:0<=M) (s:Nat):BdN (sqz N D s) M:=by
 induction s with
 |zero=>exact h
 |succ s ih=>exact aL5 ih hD hM _
theorem aDE (w:World) (B g c:Nat) (N:List Int) (all M:Int) (h:kR w B g 128 c N) (hb:BdN N M) (a0:0<=all) (hD:all / 8<=M) (hM:M<=10000000):
  Calls prog 230 #[.slice (some ⟨g,0,none⟩) 128 c,iv all] w fun e w'=>e=.returned (.slice (some ⟨g,0,none⟩) 128 c)/\kR w' B g 128 c (sqz N (all / 8) 63)/\w.grownBy w' (some g):=by
 have ht:all.tdiv 8=all / 8:=Int.tdiv_eq_ediv_of_nonneg a0;obtain⟨D,hDD⟩:=nm_ (all / 8);rw[<-hDD]at ht hD ⊢;have d0:0<=D:=o_;have HR0:=hd_ h;have HB0:=hd_ hb;clear h hb hDD;go_enter func230,ntmps230;go_wp2;go_loopw [5] (fun i wr=>∃(j I:Nat),j<=63/\I=2 * j/\i=.int .i64 I/\kR wr B g 128 c (sqz N D (63 - j))/\w.grownBy wr (some g)) (fun i _=>(intOf i).toNat)
 case atStart=>exact⟨63,126,Nat.le_refl _,rfl,by first|rfl|go_num,HR0.out,qM _ _⟩
 case round=>
  obtain⟨j,I,hj,hI,rfl,hrow,hgr⟩:=hrel;have HG:=hd_ hgr;clear hgr
  by_cases h1:1<=j
  ·have bd:=aKm HB0.out hD o_ (63 - j)
   have hs:=hd_ (show sqz N D (63 - (j - 1))=sq1 (sqz N D (63 - j)) D j by rw[show 63 - (j - 1)=(63 - j)+1 by omega,sqz,show 63 - (63 - j)=j by omega]);generalize sqz N D (63 - j)=Z at *;obtain⟨I1,hI1⟩:∃I1:Nat,(I:Int)+1=(I1:Int):=⟨I+1,o_⟩
   have hI2:I1=2 * j+1:=o_;have cI:=hrow.cell (i:=I) o_;have cI1:=hrow.cell (i:=I1) o_;have cJ:=hrow.cell (i:=j) o_;have fI:=hrow.free I;have fI1:=hrow.free I1;have fJ:=hrow.free j;have bI:=bd I;have bI1:=bd I1;have bJ:=bd j
   have HSQ:Hid (∀V0 V1 VJ:Int,V0=Z.getD I 0->V1=Z.getD I1 0->VJ=Z.getD j 0->sq1 Z D j=if 0<V0+V1/\V0+V1+VJ<=D then ((Z.set j (VJ+(V0+V1))).set I 0).set I1 0 else Z):=fun V0 V1 VJ e0 e1 e2=>by
    subst e0 e1 e2 hI2 hI;rfl
   obtain⟨V0,hV0⟩:=nm_ (Z.getD I 0);obtain⟨V1,hV1⟩:=nm_ (Z.getD I1 0);obtain⟨VJ,hVJ⟩:=nm_ (Z.getD j 0);have SQ:=hd_ (HSQ.out V0 V1 VJ hV0 hV1 hVJ);rw[<-hV0]at cI bI;rw[<-hV1]at cI1 bI1;rw[<-hVJ]at cJ bJ;have HR:=hd_ hrow;have q2:(I:Int).tdiv 2=(j:Int):=by rw[Int.tdiv_eq_ediv_of_nonneg o_];omega
   have i0:(0:Int)<=(I:Int):=o_;have i1:(I:Int)<128:=o_;have i2:(2:Int)<=(I:Int):=o_;have i3:(I1:Int)<128:=o_;have j0:(j:Int)<128:=o_;have w1:IntKind.i64.wrap (V0+V1)=V0+V1:=IntWalk.i64_in _ o_;have w2:IntKind.i64.wrap (V0+V1+VJ)=V0+V1+VJ:=IntWalk.i64_in _ o_;have w3:IntKind.i64.wrap (VJ+(V0+V1))=VJ+(V0+V1):=IntWalk.i64_in _ o_;have HI:=hd_ hI;have HI2:=hd_ hI2
   clear hV0 hV1 hVJ HSQ bd hrow hI hI2
   by_cases c1:0<V0+V1
   ·by_cases c2:V0+V1+VJ<=D
    ·have e:=hd_ (SQ.out.trans (if_pos ⟨c1,c2⟩))
     have ne1:I≠j:=by have:=HI.out;omega
     have ne2:I1≠j:=by have:=HI2.out;omega
     have ne3:I1≠I:=by have:=HI2.out;have:=HI.out;omega
     have RA:=fun q=>(HR.out.drewN q).set j (VJ+(V0+V1))
     have RB:=fun q=>(RA q).set I 0
     have RC:=hd_ (fun q=>(RB q).set I1 0);have GC:=hd_ (fun q=>bC (lY HG.out q) (bC ((HR.out.drewN q).grown j (VJ+(V0+V1))) (bC ((RA q).grown I 0) ((RB q).grown I1 0))));clear RA RB;go_wp2
     go_quiet (fail)
     go_wp2;go_roundw
     case rel=>exact⟨j - 1,I - 2,o_,by have:=HI.out;omega,by congr 1;omega,by rw[hs.out,e.out];exact RC.out _,GC.out _⟩
     case measure=>simp[intOf];omega
    ·have e:=hd_ (SQ.out.trans (if_neg (fun h=>c2 h.2)))
     exact zA5
   ·have e:=hd_ (SQ.out.trans (if_neg (fun h=>c1 h.1)))
    exact zA5
  ·obtain rfl:j=0:=o_
   obtain rfl:I=0:=o_;have HR:=hd_ hrow;clear hrow hI h1 hj;go_wp2;go_ret;exact⟨rfl,HR.out,HG.out⟩
theorem cW (w:World) (x y:Value) (t:TypeId):∀j u,[x,y][j]? =some u->(w.alloc (.cells #[x,y] t)).cell? ((⟨w.heap.size,0,none⟩:Addr).add j)=some u:=by
 intro j u hj
 match j,hj with
 | 0,hj=>simp at hj;subst hj;simp[Addr.add]
 | 1,hj=>simp at hj;subst hj;simp[Addr.add]
theorem fG {w:World} {B no:Nat} {v:Value} {os:List Pr} {t m:Int} (h:w.ownsRow B 152 2 v (no+1) (prs os++[.int .i64 t,.int .i64 m])) (hn:no=os.length):aJ w B v (os++[(t,m)]):=by
 unfold aJ;rw[sB,List.length_append, <-hn];exact h
theorem bQ {B:Nat} {w wr w':World} {o:Obj} {e:TypeId} {size:Nat} {v:Value} {n:Nat} {xs:List Value} (hb:Below B w wr) (hB:B<=wr.heap.size) (ho:wr.ownsRow B e size v n xs) (hg:(wr.alloc o).grownBy w' v.ownBlock):Below B w w':=
 (hb.alloc hB o).grown hg (Nat.le_trans hB (by simp)) (fun k e=>(ho.lt k e).1)
def iO (N:List Int):Nat->List Pr
 | 0=>[]
 |k+1=>iO N k++if 0<N.getD (k+1) 0 then [(((k+1:Nat):Int),N.getD (k+1) 0)]else []
def tA (N:List Int):List Pr:=iO N 127
theorem aB0 (N:List Int) (k:Nat):(iO N k).length<=k:=by
 induction k with
 |zero=>exact Nat.le_refl _
 |succ k ih=>unfold iO;split<;>simp<;>omega
theorem aIg (w:World) (B g c:Nat) (N:List Int) (h:kR w B g 128 c N):
  Calls prog 229 #[.slice (some ⟨g,0,none⟩) 128 c] w fun e w'=>∃v,e=.returned v/\aJ w' w.heap.size v (tA N)/\Below w.heap.size w w':=by
 obtain⟨i0,hi,hz0,hz1,hz2⟩:=info_parts fQ;have HR:=hd_ h;have HG:=hd_ h.lt.2;have HE:=hd_ (qS w w.heap.size lr_);clear h;go_enter func229,ntmps229;go_wp2
 go_loopw [3,4] (fun o i wr=>∃(k no:Nat) (x:Option Addr) (co:Nat),k<=127/\i=.int .i64 ((k+1:Nat):Int)/\o=.slice x no co/\no=(iO N k).length/\aJ wr w.heap.size (.slice x no co) (iO N k)/\Below w.heap.size w wr) (fun _ i _=>128 - (intOf i).toNat)
 case atStart=>exact⟨0,0,_,_,Nat.zero_le _,by first|rfl|go_num,rfl,rfl,HE.out,(Below.refl _ _).alloc lr_ _⟩
 case round=>
  obtain⟨k,no,x,co,hk,rfl,rfl,hno,hown,hbl⟩:=hrel;have HB:=hd_ hbl;have szr:=hbl.size;have ho:wr.ownsRow w.heap.size 152 2 (.slice x no co) no (prs (iO N k)):=by have h:=hown;unfold aJ at h;rw[<-hno]at h;exact h
  have HO:=hd_ ho;have HN:=hd_ hno;have ln:=aB0 N k;have nb:no<=127:=o_;have hs:=hd_ (show iO N (k+1)=iO N k++if 0<N.getD (k+1) 0 then [(((k+1:Nat):Int),N.getD (k+1) 0)]else []from rfl);have hfin:Hid (k=127->iO N k=tA N):=fun e=>by rw[e];rfl
  generalize iO N k=os at *;obtain⟨K,hK⟩:=nm_ (k+1);rw[<-hK]at hs ⊢;have HKK:=hd_ hK;clear hbl ho hno hown ln
  by_cases hlt:k<127
  ·have cN:=(HR.out.below (by have:=HB.out;exact this.mono lr_)).cell (i:=K) o_
   obtain⟨V,hV⟩:=nm_ (N.getD K 0);rw[<-hV]at hs cN;have k0:(0:Int)<=(K:Int):=o_;have kn:(K:Int)<128:=o_;clear hV hK
   by_cases hp:0<V
   ·have e:=hd_ (hs.out.trans (by rw[if_pos hp]))
    go_wp2_with (first|(at_builtin;refine wpList_append_own _ rfl _ _ 42 rfl w.heap.size 152 i0 (.agg #[iv 0,iv 0]) 2 16 underlying42 hi hz0 hz1 hz2 rfl dc_ _ _ _ rfl (HO.out.alloc _) ⟨wr.heap.size,0,none⟩ 1 1 [iv K,iv V] rfl rfl (cW _ _ _ _) (by simp[Value.oneCell']) (by unfold maxLen;omega) o_ (by simp;omega) ?_;intro v1 w3 ho1 hg1 _;obtain⟨g_v1,c_v1,rfl,_,_⟩:=World.ownsRow.form ho1 (Nat.succ_pos _)))
    go_roundw
    case rel=>exact⟨K,no+1,_,_,o_,gn_,rfl,by rw[HKK.out, <-HKK.out,e.out];simp[HN.out],by rw[e.out];exact fG ho1 HN.out,bQ HB.out szr HO.out hg1⟩
    case measure=>simp[intOf];omega
   ·have e:=hd_ (hs.out.trans (by rw[if_neg hp,List.append_nil]))
    have OW:Hid (aJ wr w.heap.size (.slice x no co) os):=by show aJ _ _ _ _;unfold aJ;rw[<-HN.out];exact HO.out
    go_wp2;go_roundw
    case rel=>exact⟨K,no,_,_,o_,gn_,rfl,by rw[e.out];exact HN.out,by rw[e.out];exact OW.out,HB.out⟩
    case measure=>simp[intOf];omega
  ·have ef:=hd_ (hfin.out o_)
   clear hfin;obtain rfl:k=127:=o_;obtain rfl:K=128:=o_;have OW:Hid (aJ wr w.heap.size (.slice x no co) os):=by show aJ _ _ _ _;unfold aJ;rw[<-HN.out];exact HO.out
   clear hK hlt hk;go_wp2;go_ret;exact⟨_,rfl,ef.out ▸ OW.out,HB.out⟩
def kF:List Pr->Int->Int
 | [],_=>0
 |p::ps,t=>(if kI p.1<=t then p.2 else 0)+kF ps t
def oS:List Pr->Int->Int
 | [],_=>0
 |p::ps,t=>(if sV p.1<=t then p.2 else 0)+oS ps t
theorem dM.knB {ps:List Pr} {all:Int} (h:dM ps all):KnB ps:=fun i hi=>by
 have:=(h.2.1 i hi).1;omega
theorem aCd {ps:List Pr} (h:KnB ps) (hl:ps.length<=300):BdN (cY ps) 600000:=fun i=>by
 have:=aA1 h ps.length lr_ i;rw[List.take_of_length_le lr_]at this;omega
def nR (N:List Int) (all:Int):List Pr:=tA (sqz N (all / 8) 63)
def fN (ps:List Pr) (all t:Int):Bool:=cX ps all&&(decide (0<=t/\t<=63)&&decide (all<2000))
def nN (ps:List Pr) (all t:Int):List Pr × Int:=if fN ps all t then (nR (mZ (cY ps) (64+t,1)) (all+1),all+1)else ([],0)
theorem aDs {ps:List Pr} {all t:Int} (h:fN ps all t=false):nN ps all t=([],0):=by simp[nN,h]
theorem aIF {ps:List Pr} {all t:Int} (h:fN ps all t=true):nN ps all t=(nR (mZ (cY ps) (64+t,1)) (all+1),all+1):=by simp[nN,h]
theorem aAD {ps:List Pr} {all t:Int} (h:fN ps all t=true):cX ps all=true/\(0<=t/\t<=63)/\all<2000:=by
 unfold fN at h;simpa using h
theorem aBU (w:World) (u:Value) (ps:List Pr) (all t:Int) (hp:Prs w u ps) (hok:cX ps all=true) (ht:0<=t/\t<=63) (ha:all<2000):
  Calls prog 313 #[.agg #[u,iv all],iv t] w fun e w'=>∃v,e=.returned (.tuple #[.agg #[v,iv (all+1)],.bool true])/\aJ w' w.heap.size v (nR (mZ (cY ps) (64+t,1)) (all+1))/\Below w.heap.size w w':=by
 have RK:=(fS _ _).1 hok;have kf:=aAf (k:=ps.length) RK.2.1;have kb:=RK.knB;have nb:=aCd kb o_;have ha0:=RK.1.1;obtain⟨W0,hW0⟩:=nm_ ((w.alloc (.cells #[u,iv all] 44)).alloc (.cells #[zn,iv 0] 44));have hA:Below w.heap.size w W0:=by rw[hW0];exact ((Below.refl w.heap.size w).alloc lr_ _).alloc (by simp) _
 have X0:bD W0 w.heap.size 44 u (iv all):=by rw[hW0];exact (bD.new _ _ _ _).alloc _
 have R0:bD W0 (w.heap.size+1) 44 zn (iv 0):=by
  have h:=bD.new (w.alloc (.cells #[u,iv all] 44)) 44 zn (iv 0);rw[hW0];simpa using h
 have sW:W0.heap.size=w.heap.size+2:=by rw[hW0];simp
 have I0:=hd_ (hp.below hA lr_);have K:=hd_ (rZ W0 u ps all I0.out);rw[hok]at K;obtain⟨x,c,hu,_,_⟩:=hp.form;obtain⟨n,hn⟩:=nm_ ps.length;rw[<-hn]at hu kf
 have KN:Hid (∀W,Prs W (.slice x n c) ps->Calls prog 228 #[.slice x n c] W fun e w'=>e=.returned (.slice (some ⟨W.heap.size,0,none⟩) 128 128)/\kR w' W.heap.size W.heap.size 128 128 (cY ps)/\Below W.heap.size W w'):=fun W h=>aHj W x n c ps hn.symm h o_ kb
 subst hu;obtain⟨T,hT⟩:∃T:Nat,(64:Int)+t=(T:Int):=⟨(64+t).toNat,o_⟩
 have T1:(T:Int)<128:=o_;have T2:(64:Int)<=(T:Int):=o_;obtain⟨N,hN⟩:=nm_ (cY ps);rw[<-hN]at KN nb;obtain⟨V,hV⟩:=nm_ (N.getD T 0);have bV:=nb T;rw[<-hV]at bV;have eN:mZ (cY ps) (64+t,1)=N.set T (V+1):=by
  unfold mZ;simp only[hT,Int.toNat_natCast, <-hN, <-hV]
 rw[eN];have KQ:Hid (∀W B g c,kR W B g 128 c (N.set T (V+1))->Calls prog 230 #[.slice (some ⟨g,0,none⟩) 128 c,iv (all+1)] W fun e w'=>e=.returned (.slice (some ⟨g,0,none⟩) 128 c)/\kR w' B g 128 c (sqz (N.set T (V+1)) ((all+1) / 8) 63)/\W.grownBy w' (some g)):=fun W B g c h=>
  aDE W B g c _ (all+1) 600001 h (BdN.set (fun i=>by have:=nb i;omega) T o_ o_) o_ o_ o_
 have HVV:=hd_ hV;have EL:Hid (tA (sqz (N.set T (V+1)) ((all+1) / 8) 63)=nR (N.set T (V+1)) (all+1)):=by show _=_;unfold nR;rfl
 obtain⟨Q,hQ⟩:=nm_ (sqz (N.set T (V+1)) ((all+1) / 8) 63);rw[<-hQ]at KQ EL;generalize nR (N.set T (V+1)) (all+1)=ds at *;have HW0:=hd_ hW0;have HA:=hd_ hA;have HS:=hd_ sW;have x0:=X0.cell0;have x1:=X0.cell1;have KT:Hid (∀W,Calls prog 66 #[iv t,iv 0,iv 63] W fun e w'=>e=.returned (.bool true)/\W=w'):=fun W=>aS t 0 63 W ht.1 ht.2
 clear hA hW0 hn hp hok RK kb nb eN hN hV hQ sW kf;go_enter func313,ntmps313
 go_wp2_with fail
 rw[<-HW0.out]
 go_wp2_with fail
 refine K.out.mono ?_;rintro e w1 ⟨rfl,hb1⟩;have X1:=X0.later hb1;have R1:=R0.later hb1;have B1:=hd_ (HA.out.trans (hb1.mono HA.out.size));have I1:=hd_ (I0.out.below hb1 lr_);have S1:w.heap.size+2<=w1.heap.size:=by have:=hb1.size;have:=HS.out;omega
 clear hb1 X0 R0 x0 x1 K HA I0;have x0:=X1.cell0;have x1:=X1.cell1
 go_wp2_with fail
 refine (KT.out _).mono ?_;rintro e w' ⟨rfl,rfl⟩;have hge:decide ((2000:Int)<=all)=false:=decide_eq_false o_;have HT:=hd_ (And.intro hT (And.intro T1 (And.intro T2 (And.intro bV (And.intro S1 (And.intro ha0 ht))))));clear hT T1 T2 bV S1 ha0 ht
 go_wp2_with fail
 obtain⟨hT,T1,T2,bV,S1,ha0,ht⟩:=HT.out;refine (KN.out w1 I1.out).mono ?_;rintro e w2 ⟨rfl,hr,hb2⟩;have X2:=X1.later hb2;have R2:=R1.later hb2;have B2:=hd_ (B1.out.trans (hb2.mono B1.out.size));have c0:=hr.cell (i:=T) o_;rw[<-HVV.out]at c0;have f0:=hr.free T;have RS:=hd_ (hr.set T (V+1));have gS:=aF w2 ⟨w1.heap.size,T,none⟩ (iv (V+1));have X3:=X2.kept gS (by simp;omega)
 have R3:=R2.kept gS (by simp;omega);have B3:Hid (Below w.heap.size w (w2.setCell ⟨w1.heap.size,T,none⟩ (iv (V+1)))):=hd_ (B2.out.setCell (by show w.heap.size<=w1.heap.size;omega) _);have ws0:IntKind.i64.wrap (V+1)=V+1:=IntWalk.i64_in _ o_;obtain⟨w3,hw3⟩:=nm_ (w2.setCell ⟨w1.heap.size,T,none⟩ (iv (V+1)));have l2:w1.heap.size<w2.heap.size:=hr.lt.2;have z3:w3.heap.size=w2.heap.size:=by rw[hw3];simp
 rw[<-hw3]at RS X3 R3 B3;clear hb2 hr x0 x1 X1 R1 X2 R2 gS
 go_wp2_with fail
 rw[<-hw3];clear hw3 c0 f0;have x0:=X3.cell0;have x1:=X3.cell1;have ws:IntKind.i64.wrap (all+1)=all+1:=IntWalk.i64_in _ o_;have KD:=hd_ (KQ.out w3.drew w1.heap.size w1.heap.size 128 (RS.out.drewN 1))
 go_region_with (first|(go_at_call 230;refine KD.out.mono ?_;rintro e w4 ⟨rfl,hr4,hg4⟩;have X4:=X3.drew.kept hg4 (by simp;omega);have y0:=X4.cell0;have y1:=X4.cell1;have R4:=R3.drew.kept hg4 (by simp;omega);have KE:=hd_ (aIg w4 w1.heap.size w1.heap.size 128 Q hr4))|(go_at_call 229;refine KE.out.mono ?_;rintro e w5 ⟨v,rfl,ho5,hb5⟩;rw[EL.out]at ho5;obtain⟨xz,cz,rfl,_,_⟩:=ho5.form;have R5:=R4.later hb5;have f2:=R5.free;have z0:=R5.cell0;have z1:=R5.cell1;have X5:=X4.later hb5;have q0:=X5.cell0;have q1:=X5.cell1))
 all_goals
  have RZ:=R5.set (.slice xz ds.length cz) (iv (all+1));have hr0:=RZ.cell0;have hr1:=RZ.cell1;have s4:w3.heap.size<=w4.heap.size:=hg4.size;have B4:=hd_ ((B3.out.trans (Below.drew (Below.refl _ _))).trans (sH hg4 (by show w.heap.size<=w1.heap.size;omega) (by show w.heap.size<=w3.heap.size;omega)))
  have OZ:=hd_ ((ho5.set2 (R5.not_row dc_ ho5) (.slice xz ds.length cz) (iv (all+1))).base (B':=w.heap.size) o_);have BZ:=hd_ (lJ (b:=w.heap.size+1) (B4.out.trans (hb5.mono o_)) (Nat.le_succ _) (.slice xz ds.length cz) (iv (all+1)));clear ho5 hb5 hr4 hg4 X4 R4 X5 R5 RZ y0 y1 f2 z0 z1 q0 q1 s4 B4;go_wp2
  exact bodyPost_ret (v:=.tuple #[.agg #[.slice xz ds.length cz,iv (all+1)],.bool true]) (by simp[results,results313,go_sem,hr0,hr1]) rfl ⟨_,rfl,OZ.out,BZ.out⟩
theorem aCM (w:World) (u:Value) (ps:List Pr) (all t:Int) (hp:Prs w u ps) (hno:fN ps all t=false):
  Calls prog 313 #[.agg #[u,iv all],iv t] w fun e w'=>e=.returned (.tuple #[.agg #[zn,iv 0],.bool false])/\Below w.heap.size w w':=by
 obtain⟨W0,hW0⟩:=nm_ ((w.alloc (.cells #[u,iv all] 44)).alloc (.cells #[zn,iv 0] 44));have hA:Below w.heap.size w W0:=by rw[hW0];exact ((Below.refl w.heap.size w).alloc lr_ _).alloc (by simp) _
 have X0:bD W0 w.heap.size 44 u (iv all):=by rw[hW0];exact (bD.new _ _ _ _).alloc _
 have R0:bD W0 (w.heap.size+1) 44 zn (iv 0):=by
  have h:=bD.new (w.alloc (.cells #[u,iv all] 44)) 44 zn (iv 0);rw[hW0];simpa using h
 have K:=hd_ (rZ W0 u ps all (hp.below hA lr_));obtain⟨x,c,hu,_,_⟩:=hp.form;obtain⟨n,hn⟩:=nm_ ps.length;rw[<-hn]at hu;subst hu;have HW0:=hd_ hW0;have HA:=hd_ hA;have x0:=X0.cell0;have x1:=X0.cell1;have HY:Hid (cX ps all=true->(t<0\/63<t)\/((0<=t/\t<=63)/\2000<=all)):=fun h=>by
  unfold fN at hno;rw[h]at hno;simp at hno;omega
 have END:Hid (∀w1,Below W0.heap.size W0 w1->bD w1 (w.heap.size+1) 44 zn (iv 0)/\Below w.heap.size w ((w1.setCell ⟨w.heap.size+1,0,none⟩ zn).setCell ⟨w.heap.size+1,1,none⟩ (iv 0))):=fun w1 h=>
  ⟨R0.later h,lJ (b:=w.heap.size+1) (hA.trans (h.mono hA.size)) (Nat.le_succ _) zn (iv 0)⟩
 generalize cX ps all=ok at K HY;clear hA hW0 hn hp hno;cases ok with
 |false=>
  clear HY;go_enter func313,ntmps313
  go_wp2_with fail
  rw[<-HW0.out]
  go_wp2_with fail
  refine K.out.mono ?_;rintro e w1 ⟨rfl,hb1⟩;obtain⟨R1,hl⟩:=END.out w1 hb1;have BZ:=hd_ hl;have z0:=R1.cell0;have z1:=R1.cell1;have f2:=R1.free;have RZ:=R1.set zn (iv 0);have hr0:=RZ.cell0;have hr1:=RZ.cell1;clear R1 RZ x0 x1 X0 R0 hb1 hl;exact zAT
 |true=>
  rcases HY.out rfl with ht|⟨ht,ha⟩
  ·clear HY
   go_enter func313,ntmps313
   go_wp2_with fail
   rw[<-HW0.out]
   go_wp2_with fail
   refine K.out.mono ?_;rintro e w1 ⟨rfl,hb1⟩;obtain⟨R1,hl⟩:=END.out w1 hb1;have BZ:=hd_ hl;have z0:=R1.cell0;have z1:=R1.cell1;have f2:=R1.free;have RZ:=R1.set zn (iv 0);have hr0:=RZ.cell0;have hr1:=RZ.cell1;clear R1 RZ x0 x1 X0 R0 hb1 hl
   go_wp2_with fail
   refine (fZ t 0 63 _ ht).mono ?_;rintro e w' ⟨rfl,rfl⟩;exact zAT
  ·have hge:decide ((2000:Int)<=all)=true:=decide_eq_true ha
   clear HY;go_enter func313,ntmps313
   go_wp2_with fail
   rw[<-HW0.out]
   go_wp2_with fail
   refine K.out.mono ?_;rintro e w1 ⟨rfl,hb1⟩;obtain⟨R1,hl⟩:=END.out w1 hb1;have BZ:=hd_ hl;have X1:=X0.later hb1;have z0:=R1.cell0;have z1:=R1.cell1;have f2:=R1.free;have RZ:=R1.set zn (iv 0);have hr0:=RZ.cell0;have hr1:=RZ.cell1;clear R1 RZ x0 x1 X0 R0 hb1 hl;have x0:=X1.cell0;have x1:=X1.cell1
   go_wp2_with fail
   refine (aS t 0 63 _ ht.1 ht.2).mono ?_;rintro e w' ⟨rfl,rfl⟩;clear ha ht;exact zAT
theorem aDF (w:World) (u:Value) (ps:List Pr) (all t:Int) (hp:Prs w u ps):
  Calls prog 313 #[.agg #[u,iv all],iv t] w fun e w'=>∃v,e=.returned (.tuple #[.agg #[v,.int .i64 (nN ps all t).2],.bool (fN ps all t)])/\aJ w' w.heap.size v (nN ps all t).1/\Below w.heap.size w w':=by
 cases h:fN ps all t with
 |false=>
  rw[aDs h];exact (aCM w u ps all t hp h).mono fun e w' ⟨he,hb⟩=>⟨_,he,aJ.nil _ _,hb⟩
 |true=>
  rw[aIF h];obtain⟨a,b,c⟩:=aAD h;exact aBU w u ps all t hp a b c
end Go.Proofs.YtcblbdpdbggkbaaGreat.K
namespace Go.Proofs.YtcblbdpdbggkbaaGreat.K
open _root_.Go.Proofs.Tryz
def wN (g:Int->Bool) (N:List Int):Nat->Int
 | 0=>0
 |k+1=>wN g N k+if g ((k+1:Nat):Int)then N.getD (k+1) 0 else 0
def wP (g:Int->Bool):List Pr->Int
 | []=>0
 |p::ps=>(if g p.1 then p.2 else 0)+wP g ps
theorem lV (g:Int->Bool) (ps qs:List Pr):wP g (ps++qs)=wP g ps+wP g qs:=by
 induction ps with
 |nil=>simp[wP]
 |cons p ps ih=>simp only[List.cons_append,wP,ih];omega
theorem yT (ps:List Pr) (t:Int):kF ps t=wP (fun a=>decide (kI a<=t)) ps:=by
 induction ps with
 |nil=>rfl
 |cons p ps ih=>simp[kF,wP,ih]
theorem aAI (ps:List Pr) (t:Int):oS ps t=wP (fun a=>decide (sV a<=t)) ps:=by
 induction ps with
 |nil=>rfl
 |cons p ps ih=>simp[oS,wP,ih]
theorem aDn (ps:List Pr):bW ps=wP (fun _=>true) ps:=by
 induction ps with
 |nil=>rfl
 |cons p ps ih=>rw[wP, <-ih];simp[bW]
theorem iI (N:List Int) (i:Nat) (x:Int) (h:i<N.length):(N.set i x).getD i 0=x:=by
 rw[List.getD_eq_getElem?_getD,List.getElem?_set_self h];rfl
theorem bO (N:List Int) (i j:Nat) (x:Int) (h:i≠j):(N.set i x).getD j 0=N.getD j 0:=by simp[h]
theorem aEX (n i:Nat):(List.replicate n (0:Int)).getD i 0=0:=by
 by_cases hi:i<n<;>simp[hi]
theorem aC9 (g:Int->Bool) (N:List Int) (i:Nat) (x:Int) (h0:1<=i) (h1:i<N.length):∀k,wN g (N.set i x) k=wN g N k+if i<=k then (if g (i:Int)then x - N.getD i 0 else 0)else 0:=by
 intro k
 induction k with
 |zero=>simp[wN,show ¬i<=0 by omega]
 |succ k ih=>
  simp only[wN,ih]
  by_cases e:i=k+1
  ·subst e
   rw[iI N _ x h1];simp only[show ¬k+1<=k by omega,if_false,Nat.le_refl,if_true];cases hg:g ((k+1:Nat):Int)
   ·simp only[Bool.false_eq_true,if_false]
   ·simp only[if_true];omega
  ·rw[bO N i (k+1) x e]
   by_cases hk:i<=k
   ·rw[if_pos hk,if_pos (show i<=k+1 by omega)];ac_rfl
   ·rw[if_neg hk,if_neg (show ¬i<=k+1 by omega)];ac_rfl
theorem aIe (g:Int->Bool) {N:List Int} (h:∀i,0<=N.getD i 0):∀k,0<=wN g N k:=by
 intro k
 induction k with
 |zero=>exact Int.le_refl _
 |succ k ih=>simp only[wN];have:=h (k+1);split<;>omega
theorem aL2 {N:List Int} (h:∀i,0<=N.getD i 0):∀k i,1<=i->i<=k->N.getD i 0<=wN (fun _=>true) N k:=by
 intro k
 induction k with
 |zero=>intro i h1 h2;omega
 |succ k ih=>
  intro i h1 h2;simp only[wN,if_true];have:=h (k+1)
  by_cases e:i=k+1
  ·subst e;have:=aIe (fun _=>true) h k;omega
  ·have:=ih i h1 (by omega);omega
theorem aLl (N:List Int) (i:Nat) (h0:1<=i):∀k,wN (fun a=>decide (a=(i:Int))) N k=if i<=k then N.getD i 0 else 0:=by
 intro k
 induction k with
 |zero=>simp[wN,show ¬i<=0 by omega]
 |succ k ih=>
  simp only[wN,ih,decide_eq_true_eq]
  by_cases e:i=k+1
  ·subst e;simp[show ¬k+1<=k by omega]
  ·rw[if_neg (show ¬(((k+1:Nat):Int)=(i:Int)) by omega)]
   by_cases hk:i<=k
   ·rw[if_pos hk,if_pos (by omega)];omega
   ·rw[if_neg hk,if_neg (by omega)];omega
theorem aCV (g:Int->Bool) {N:List Int} (h:∀i,0<=N.getD i 0):∀k,wP g (iO N k)=wN g N k:=by
 intro k
 induction k with
 |zero=>rfl
 |succ k ih=>
  rw[iO,lV,ih,wN];have:=h (k+1)
  by_cases hp:0<N.getD (k+1) 0
  ·rw[if_pos hp];simp[wP]
  ·rw[if_neg hp,show N.getD (k+1) 0=0 by omega];simp[wP]
theorem aIW (a:List Int) (p:Pr):(mZ a p).length=a.length:=by simp[mZ]
theorem aGa (ps:List Pr) (p:Pr):cY (ps++[p])=mZ (cY ps) p:=by simp[cY]
def AtK (ps:List Pr):Prop:=∀p ∈ ps,1<=p.1/\p.1<=127
theorem AtK.append {ps qs:List Pr} (h:AtK ps) (h':AtK qs):AtK (ps++qs):=fun p hp=>by
 rcases List.mem_append.1 hp with a|a
 ·exact h p a
 ·exact h' p a
theorem aKy (g:Int->Bool) (a:List Int) (p:Pr) (ha:a.length=128) (h:1<=p.1/\p.1<=127):wN g (mZ a p) 127=wN g a 127+if g p.1 then p.2 else 0:=by
 unfold mZ;have e:((p.1.toNat:Nat):Int)=p.1:=by omega
 rw[aC9 g a p.1.toNat _ (by omega) (by omega),if_pos (by omega),e]
 by_cases hg:g p.1=true
 ·rw[if_pos hg,if_pos hg];omega
 ·rw[if_neg hg,if_neg hg]
theorem aAe (g:Int->Bool) (ps:List Pr) (h:AtK ps):wN g (cY ps) 127=wP g ps:=by
 have e0:∀k,wN g (List.replicate 128 0) k=0:=by
  intro k
  induction k with
  |zero=>rfl
  |succ k ih=>
   have:=aEX 128 (k+1);rw[wN,ih,this];simp
 have:∀(ps:List Pr) (a:List Int),a.length=128->AtK ps->wN g (ps.foldl mZ a) 127=wN g a 127+wP g ps:=by
  intro ps
  induction ps with
  |nil=>intro a _ _;simp[wP]
  |cons p ps ih=>
   intro a ha hk;rw[List.foldl_cons,ih _ (by rw[aIW];exact ha) (fun q hq=>hk q (List.mem_cons_of_mem _ hq)),aKy g a p ha (hk p (List.mem_cons_self ..)),wP];omega
 unfold cY;rw[this ps _ (by simp) h,e0];omega
theorem aFf (a:List Int) (p:Pr) (h:1<=p.1):(mZ a p).getD 0 0=a.getD 0 0:=by
 unfold mZ;exact bO _ _ _ _ (by omega)
theorem aDy (ps:List Pr) (h:AtK ps):(cY ps).getD 0 0=0:=by
 have:∀(ps:List Pr) (a:List Int),AtK ps->(ps.foldl mZ a).getD 0 0=a.getD 0 0:=by
  intro ps
  induction ps with
  |nil=>intro a _;rfl
  |cons p ps ih=>
   intro a hk;rw[List.foldl_cons,ih _ (fun q hq=>hk q (List.mem_cons_of_mem _ hq)),aFf a p (hk p (List.mem_cons_self ..)).1]
 unfold cY;rw[this ps _ h];rfl
theorem aIO (ps:List Pr) (h:∀p ∈ ps,0<=p.2):∀i,0<=(cY ps).getD i 0:=by
 have:∀(ps:List Pr) (a:List Int),(∀p ∈ ps,0<=p.2)->(∀i,0<=a.getD i 0)->∀i,0<=(ps.foldl mZ a).getD i 0:=by
  intro ps
  induction ps with
  |nil=>intro a _ ha;exact ha
  |cons p ps ih=>
   intro a hk ha;rw[List.foldl_cons];refine ih _ (fun q hq=>hk q (List.mem_cons_of_mem _ hq)) (fun i=>?_);unfold mZ
   by_cases e:p.1.toNat=i
   ·subst e
    by_cases hl:p.1.toNat<a.length
    ·rw[iI _ _ _ hl];have:=ha p.1.toNat;have:=hk p (List.mem_cons_self ..);omega
    ·rw[List.set_eq_of_length_le (by omega)];exact ha _
   ·rw[bO _ _ _ _ e];exact ha i
 exact this ps _ h (fun i=>by rw[aEX];exact Int.le_refl _)
theorem aFw (g:Int->Bool) (N:List Int) (D:Int) (j:Nat) (hl:N.length=128) (h1:1<=j) (h2:j<=63):
  wN g (sq1 N D j) 127=wN g N 127+if 0<N.getD (2 * j) 0+N.getD (2 * j+1) 0/\N.getD (2 * j) 0+N.getD (2 * j+1) 0+N.getD j 0<=D then (if g (j:Int)then N.getD (2 * j) 0+N.getD (2 * j+1) 0 else 0) - (if g ((2 * j:Nat):Int)then N.getD (2 * j) 0 else 0) - (if g ((2 * j+1:Nat):Int)then N.getD (2 * j+1) 0 else 0)else 0:=by
 unfold sq1
 split
 ·rw[aC9 g _ (2 * j+1) 0 (by omega) (by simp;omega),aC9 g _ (2 * j) 0 (by omega) (by simp;omega),aC9 g N j _ h1 (by omega)]
  rw[bO _ _ _ _ (show 2 * j≠2 * j+1 by omega),bO _ _ _ _ (show j≠2 * j+1 by omega),bO _ _ _ _ (show j≠2 * j by omega)];rw[if_pos (show 2 * j+1<=127 by omega),if_pos (show 2 * j<=127 by omega),if_pos (show j<=127 by omega)]
  split<;>split<;>split<;>omega
 ·omega
theorem aL4 {N:List Int} {D:Int} (h:∀i,0<=N.getD i 0) (j:Nat):∀i,0<=(sq1 N D j).getD i 0:=fun i=>by
 unfold sq1
 split
 ·have s:∀(M:List Int) (k:Nat) (x:Int),(∀i,0<=M.getD i 0)->0<=x->∀i,0<=(M.set k x).getD i 0:=fun M k x hM hx i=>by
   by_cases e:k=i
   ·subst e
    by_cases hl:k<M.length
    ·rw[iI _ _ _ hl];exact hx
    ·rw[List.set_eq_of_length_le (by omega)];exact hM _
   ·rw[bO _ _ _ _ e];exact hM i
  exact s _ _ _ (s _ _ _ (s _ _ _ h (by have:=h j;have:=h (2 * j);have:=h (2 * j+1);omega)) (Int.le_refl _)) (Int.le_refl _) i
 ·exact h i
def aEa (N:List Int) (D:Int):Prop:=∀i,1<=i->i<64->N.getD i 0<=D
theorem aLj {N:List Int} {D:Int} (h:aEa N D) (d0:0<=D) (hl:N.length=128) (j:Nat) (hj:j<=63):aEa (sq1 N D j) D:=fun i h1 h2=>by
 unfold sq1
 split
 ·rename_i hc
  by_cases e3:2 * j+1=i
  ·subst e3;rw[iI _ _ _ (by simp;omega)];exact d0
  rw[bO _ _ _ _ e3]
  by_cases e2:2 * j=i
  ·subst e2;rw[iI _ _ _ (by simp;omega)];exact d0
  rw[bO _ _ _ _ e2]
  by_cases e1:j=i
  ·subst e1;rw[iI _ _ _ (by omega)];omega
  rw[bO _ _ _ _ e1];exact h i h1 h2
 ·exact h i h1 h2
theorem aLL {N:List Int} {D:Int} (j:Nat) (hj:1<=j):(sq1 N D j).getD 0 0=N.getD 0 0:=by
 unfold sq1
 split
 ·rw[bO _ _ _ _ (by omega),bO _ _ _ _ (by omega),bO _ _ _ _ (by omega)]
 ·rfl
structure SqK (N:List Int) (D:Int) (Z:List Int):Prop where
 nn:∀i,0<=Z.getD i 0
 len:Z.length=128
 cap:aEa Z D
 zero:Z.getD 0 0=N.getD 0 0
 sum:wN (fun _=>true) Z 127=wN (fun _=>true) N 127
 least:∀t,wN (fun a=>decide (kI a<=t)) Z 127<=wN (fun a=>decide (kI a<=t)) N 127
 most:∀t,wN (fun a=>decide (sV a<=t)) N 127<=wN (fun a=>decide (sV a<=t)) Z 127
theorem aHy (j:Nat) (h1:1<=j) (h2:j<=63):sV ((2 * j:Nat):Int)=sV (j:Int)/\sV (j:Int)<=sV ((2 * j+1:Nat):Int)/\kI ((2 * j+1:Nat):Int)=kI (j:Int)/\kI ((2 * j:Nat):Int)<=kI (j:Int):=by
 have a:=(vT (j - 1) (by omega)).2.2 (by omega);have b:=(vT (2 * j - 1) (by omega)).1;have c:=(vT (2 * j) (by omega)).1;rw[show ((j - 1:Nat):Int)+1=(j:Int) by omega]at a;rw[show ((2 * j - 1:Nat):Int)+1=2 * (j:Int) by omega]at b;rw[show ((2 * j:Nat):Int)+1=2 * (j:Int)+1 by omega]at c;rw[show ((2 * j:Nat):Int)=2 * (j:Int) by omega,show ((2 * j+1:Nat):Int)=2 * (j:Int)+1 by omega]
 omega
theorem aJX {N:List Int} {D:Int} (nn:∀i,0<=N.getD i 0) (hl:N.length=128) (hc:aEa N D) (d0:0<=D):∀s,s<=63->SqK N D (sqz N D s):=by
 intro s
 induction s with
 |zero=>intro _;exact⟨nn,hl,hc,rfl,rfl,fun _=>Int.le_refl _,fun _=>Int.le_refl _⟩
 |succ s ih=>
  intro hs;have Z:=ih (by omega);rw[sqz];obtain⟨j,hj⟩:∃j,j=63 - s:=⟨_,rfl⟩
  rw[<-hj];generalize sqz N D s=M at *;have n1:=Z.nn (2 * j);have n2:=Z.nn (2 * j+1);obtain⟨k1,k2,k3,k4⟩:=aHy j (by omega) (by omega);refine⟨aL4 Z.nn j,by rw[aGz];exact Z.len,aLj Z.cap d0 Z.len j (by omega),(aLL j (by omega)).trans Z.zero,?_,fun t=>?_,fun t=>?_⟩
  ·rw[aFw _ M D j Z.len (by omega) (by omega), <-Z.sum]
   simp only[if_true]
   split<;>omega
  ·rw[aFw _ M D j Z.len (by omega) (by omega)]
   have:=Z.least t;simp only[decide_eq_true_eq]
   split
   ·split<;>split<;>split<;>omega
   ·omega
  ·rw[aFw _ M D j Z.len (by omega) (by omega)]
   have:=Z.most t;simp only[decide_eq_true_eq]
   split
   ·split<;>split<;>split<;>omega
   ·omega
theorem xY {N:List Int}:∀k p,p ∈ iO N k->∃a:Nat,1<=a/\a<=k/\p=((a:Int),N.getD a 0)/\0<N.getD a 0:=by
 intro k
 induction k with
 |zero=>intro p hp;cases hp
 |succ k ih=>
  intro p hp;rw[iO]at hp;rcases List.mem_append.1 hp with h|h
  ·obtain⟨a,h1,h2,h3⟩:=ih p h
   exact⟨a,h1,by omega,h3⟩
  ·by_cases hq:0<N.getD (k+1) 0
   ·rw[if_pos hq]at h
    exact⟨k+1,by omega,Nat.le_refl _,by simpa using h,hq⟩
   ·rw[if_neg hq]at h;cases h
theorem aHm {N:List Int}:∀k,(iO N k).Pairwise (fun p q=>p.1<q.1):=by
 intro k
 induction k with
 |zero=>exact .nil
 |succ k ih=>
  rw[iO];refine List.pairwise_append.2 ⟨ih,?_,fun p hp q hq=>?_⟩
  ·split
   ·exact List.pairwise_singleton _ _
   ·exact .nil
  ·obtain⟨a,_,h2,rfl,_⟩:=xY k p hp
   split at hq
   ·obtain rfl:q=_:=by simpa using hq
    show (a:Int)<((k+1:Nat):Int)
    omega
   ·cases hq
theorem aLQ {ps:List Pr} (h:ps.Pairwise (fun p q=>p.1<q.1)) {i j:Nat} (hi:i<j) (hj:j<ps.length):(pr ps i).1<(pr ps j).1:=by
 have:=List.pairwise_iff_getElem.1 h i j (by omega) hj hi;simp only[pr,List.getD_eq_getElem?_getD,List.getElem?_eq_getElem hj,List.getElem?_eq_getElem (show i<ps.length by omega),Option.getD_some];exact this
theorem aLR {ps:List Pr} (h:∀i,i+1<ps.length->(pr ps i).1<(pr ps (i+1)).1):ps.Pairwise (fun p q=>p.1<q.1):=by
 have s:∀d i,i+d+1<ps.length->(pr ps i).1<(pr ps (i+d+1)).1:=by
  intro d
  induction d with
  |zero=>intro i hi;exact h i hi
  |succ d ih=>intro i hi;have a:=ih i (by omega);have b:=h (i+d+1) (by omega);rw[show i+(d+1)+1=i+d+1+1 by omega];omega
 refine List.pairwise_iff_getElem.2 (fun i j hi hj hij=>?_);have:=s (j - i - 1) i (by omega);rw[show i+(j - i - 1)+1=j by omega]at this;simpa[pr,hi,hj]using this
theorem dM.asc {ps:List Pr} {all:Int} (h:dM ps all):ps.Pairwise (fun p q=>p.1<q.1):=aLR (fun i hi=>by
  have:=(h.2.1 (i+1) hi).2.1 (by omega)
  simpa using this)
theorem dM.atK {ps:List Pr} {all:Int} (h:dM ps all):AtK ps:=fun p hp=>by
 obtain⟨i,hi,rfl⟩:=lA hp;exact (h.2.1 i hi).1.1
theorem dM.num {ps:List Pr} {all:Int} (h:dM ps all):∀p ∈ ps,1<=p.2/\p.2<=2000/\(p.1<64->p.2<=all / 8):=fun p hp=>by
 obtain⟨i,hi,rfl⟩:=lA hp;exact⟨(h.2.1 i hi).1.2.1,(h.2.1 i hi).1.2.2,(h.2.1 i hi).2.2⟩
theorem aEF {ps:List Pr} {all:Int} (h0:0<=all/\all<=2000) (ha:ps.Pairwise (fun p q=>p.1<q.1)) (hk:AtK ps) (hn:∀p ∈ ps,1<=p.2/\p.2<=2000/\(p.1<64->p.2<=all / 8)) (hs:bW ps=all):dM ps all:=
 ⟨h0,fun i hi=>⟨⟨hk _ (jH hi),(hn _ (jH hi)).1,(hn _ (jH hi)).2.1⟩,fun h=>aLQ ha (by omega) hi,(hn _ (jH hi)).2.2⟩,hs⟩
theorem aJG {N:List Int} {all:Int} (nn:∀i,0<=N.getD i 0) (hl:N.length=128) (hc:aEa N (all / 8)) (h0:0<=all/\all<=2000) (hs:wN (fun _=>true) N 127=all):dM (nR N all) all:=by
 have Z:=aJX nn hl hc (by omega) 63 lr_;unfold nR tA;generalize sqz N (all / 8) 63=Y at Z ⊢;refine aEF h0 (aHm 127) (fun p hp=>?_) (fun p hp=>?_) (by rw[aDn,aCV _ Z.nn,Z.sum];exact hs)
 ·obtain⟨a,h1,h2,rfl,_⟩:=xY 127 p hp
  show 1<=(a:Int)/\(a:Int)<=127
  omega
 ·obtain⟨a,h1,h2,rfl,h3⟩:=xY 127 p hp
  have:=aL2 Z.nn 127 a h1 h2;rw[Z.sum,hs]at this;refine⟨?_,?_,fun h=>?_⟩
  ·show 1<=Y.getD a 0;omega
  ·show Y.getD a 0<=(2000:Int);omega
  ·exact Z.cap a h1 (by have:(a:Int)<64:=h;omega)
theorem aD4 {N:List Int} {all:Int} (nn:∀i,0<=N.getD i 0) (hl:N.length=128) (hc:aEa N (all / 8)) (h0:0<=all) (t:Int):kF (nR N all) t<=wN (fun a=>decide (kI a<=t)) N 127:=by
 have Z:=aJX nn hl hc (by omega) 63 lr_;rw[yT,nR,tA,aCV _ Z.nn];exact Z.least t
theorem aFD {N:List Int} {all:Int} (nn:∀i,0<=N.getD i 0) (hl:N.length=128) (hc:aEa N (all / 8)) (h0:0<=all) (t:Int):wN (fun a=>decide (sV a<=t)) N 127<=oS (nR N all) t:=by
 have Z:=aJX nn hl hc (by omega) 63 lr_;rw[aAI,nR,tA,aCV _ Z.nn];exact Z.most t
def cnt (g:Int->Bool):Nat->Nat
 | 0=>0
 |k+1=>cnt g k+if g ((k+1:Nat):Int)then 1 else 0
theorem aIz (g:Int->Bool) {k m:Nat} (h:k<=m):cnt g k<=cnt g m:=by
 induction m with
 |zero=>simp[show k=0 by omega]
 |succ m ih=>
  by_cases e:k=m+1
  ·subst e;exact Nat.le_refl _
  ·have:=ih (by omega);simp only[cnt];omega
theorem aLM (g:Int->Bool) (D:Int) (d0:0<=D):∀(ps:List Pr),ps.Pairwise (fun p q=>p.1<q.1)->AtK ps->(∀p ∈ ps,g p.1=true->p.2<=D)->∀k:Nat,k<=127->(∀p ∈ ps,(k:Int)<p.1)->wP g ps+D * (cnt g k:Int)<=D * (cnt g 127:Int):=by
 have ml:∀a b:Nat,a<=b->D * (cnt g a:Int)<=D * (cnt g b:Int):=fun a b h=>Int.mul_le_mul_of_nonneg_left (by have:=aIz g h;omega) d0
 intro ps
 induction ps with
 |nil=>intro _ _ _ k hk _;have:=ml k 127 hk;simp only[wP];omega
 |cons p ps ih=>
  intro ha hk hD k hk1 hlt;obtain⟨h1,h2⟩:=List.pairwise_cons.1 ha;obtain⟨b1,b2⟩:=hk p (List.mem_cons_self ..);have hkp:=hlt p (List.mem_cons_self ..);obtain⟨a,hpa⟩:∃a:Nat,p.1=((a+1:Nat):Int):=⟨p.1.toNat - 1,by omega⟩
  have I:=ih h2 (fun q hq=>hk q (List.mem_cons_of_mem _ hq)) (fun q hq=>hD q (List.mem_cons_of_mem _ hq)) (a+1) (by omega) (fun q hq=>by have:=h1 q hq;omega);have M:=ml k a (by omega);have hp:=hD p (List.mem_cons_self ..);simp only[wP,cnt]at I ⊢;rw[hpa]at hp ⊢
  split
  ·rename_i hg
   rw[if_pos hg,Int.natCast_add,Int.mul_add]at I;have:=hp hg;simp only[Int.natCast_one,Int.mul_one]at I;omega
  ·rename_i hg
   rw[if_neg hg]at I;simp only[Nat.add_zero]at I;omega
theorem aKN (g:Int->Bool) (D:Int) (d0:0<=D) (ps:List Pr) (ha:ps.Pairwise (fun p q=>p.1<q.1)) (hk:AtK ps) (hD:∀p ∈ ps,g p.1=true->p.2<=D):wP g ps<=D * (cnt g 127:Int):=by
 have:=aLM g D d0 ps ha hk hD 0 (by omega) (fun p hp=>by have:=(hk p hp).1;omega);simpa[cnt]using this
theorem aKa:∀i:Nat,i<128->cnt (fun a=>decide (a=(i:Int))) 127<=1:=by decide+kernel
theorem aDe (ps:List Pr) (h:AtK ps) (i:Nat) (h1:1<=i) (h2:i<=127):(cY ps).getD i 0=wP (fun a=>decide (a=(i:Int))) ps:=by
 have:=aAe (fun a=>decide (a=(i:Int))) ps h;rw[aLl _ i h1,if_pos h2]at this;exact this
theorem aDP {ps:List Pr} {a:Int} (h:dM ps a) (i:Nat) (h1:1<=i) (h2:i<64):wP (fun x=>decide (x=(i:Int))) ps<=a / 8:=by
 have d0:0<=a / 8:=by have:=h.1.1;omega
 have:=aKN (fun x=>decide (x=(i:Int))) (a / 8) d0 ps h.asc h.atK (fun p hp hg=>by
    have e:p.1=(i:Int):=by simpa using hg
    exact (h.num p hp).2.2 (by omega))
 have c:=aKa i (by omega);have:(a / 8) * (cnt (fun x=>decide (x=(i:Int))) 127:Int)<=(a / 8) * 1:=Int.mul_le_mul_of_nonneg_left (by omega) d0;omega
theorem aAl {ps qs:List Pr} {a b:Int} (h:dM ps a) (h':dM qs b):aEa (cY (ps++qs)) ((a+b) / 8):=fun i h1 h2=>by
 rw[aDe _ (h.atK.append h'.atK) i h1 (by omega),lV];have:=aDP h i h1 h2;have:=aDP h' i h1 h2;omega
theorem aC8 {ps qs:List Pr} {a b:Int} (h:dM ps a) (h':dM qs b):∀i,0<=(cY (ps++qs)).getD i 0:=aIO _ (fun p hp=>by
  rcases List.mem_append.1 hp with e|e
  · have:=(h.num p e).1;omega
  · have:=(h'.num p e).1;omega)
def pV (ps:List Pr) (a:Int) (qs:List Pr) (b:Int):List Pr:=nR (cY (ps++qs)) (a+b)
section
variable {ps qs:List Pr} {a b:Int}
theorem aKG (h:dM ps a) (h':dM qs b) (hs:a+b<=2000):dM (pV ps a qs b) (a+b):=
 aJG (aC8 h h') (lP _) (aAl h h') ⟨by have:=h.1.1;have:=h'.1.1;omega,hs⟩ (by
    rw[aAe _ _ (h.atK.append h'.atK),lV, <-aDn, <-aDn,h.2.2,h'.2.2])
theorem aGc (h:dM ps a) (h':dM qs b) (t:Int):kF (pV ps a qs b) t<=kF ps t+kF qs t:=by
 have:=aD4 (aC8 h h') (lP _) (aAl h h') (by have:=h.1.1;have:=h'.1.1;omega) t;rw[aAe _ _ (h.atK.append h'.atK),lV, <-yT, <-yT]at this;exact this
theorem aHK (h:dM ps a) (h':dM qs b) (t:Int):oS ps t+oS qs t<=oS (pV ps a qs b) t:=by
 have:=aFD (aC8 h h') (lP _) (aAl h h') (by have:=h.1.1;have:=h'.1.1;omega) t;rw[aAe _ _ (h.atK.append h'.atK),lV, <-aAI, <-aAI]at this;exact this
theorem aG2 (h:dM ps a) (h':dM qs b):pV ps a qs b=pV qs b ps a:=by
 have e:cY (ps++qs)=cY (qs++ps):=by
  refine List.ext_getElem (by rw[lP,lP]) (fun i h1 h2=>?_);have g1:(cY (ps++qs)).getD i 0=(cY (qs++ps)).getD i 0:=by
   rw[lP]at h1
   by_cases h0:i=0
   ·subst h0;rw[aDy _ (h.atK.append h'.atK),aDy _ (h'.atK.append h.atK)]
   ·rw[aDe _ (h.atK.append h'.atK) i (by omega) (by omega),aDe _ (h'.atK.append h.atK) i (by omega) (by omega),lV,lV];omega
  simpa[List.getD_eq_getElem?_getD,h1,h2]using g1
 unfold pV;rw[e,Int.add_comm]
end
theorem aLZ (t:Int) (h:0<=t/\t<=63):dM [(64+t,1)] 1:=
 aEF (by omega) (List.pairwise_singleton _ _) (fun p hp=>by (obtain rfl:p=_:=by simpa using hp);show 1<=64+t/\64+t<=127;omega)
  (fun p hp=>by (obtain rfl:p=_:=by simpa using hp);exact⟨Int.le_refl _,by show (1:Int)<=2000;omega,fun h'=>by have:64+t<64:=h';omega⟩) rfl
theorem aEJ (t:Int) (h:0<=t/\t<=63):sV (64+t)=t/\kI (64+t)=t:=by
 obtain⟨T,rfl⟩:∃T:Nat,t=(T:Int):=⟨t.toNat,by omega⟩
 have:=(vT (63+T) (by omega)).2.1 (by omega);rw[show ((63+T:Nat):Int)+1=64+(T:Int) by omega]at this;omega
theorem aIi (t i:Int) (h:0<=t/\t<=63):kF [(64+t,1)] i=if t<=i then 1 else 0:=by
 simp[kF,(aEJ t h).2]
theorem aJj (t i:Int) (h:0<=t/\t<=63):oS [(64+t,1)] i=if t<=i then 1 else 0:=by
 simp[oS,(aEJ t h).1]
theorem aIG (ps:List Pr) (a t:Int):nR (mZ (cY ps) (64+t,1)) (a+1)=pV ps a [(64+t,1)] 1:=by
 unfold pV;rw[aGa]
theorem aKX {N:List Int} {D:Int} (nn:∀i,0<=N.getD i 0) (hl:N.length=128) (j:Nat) (h1:1<=j) (h2:j<=63):
  (if N.getD j 0+(N.getD (2 * j) 0+N.getD (2 * j+1) 0)<=D then ((N.set j (N.getD j 0+(N.getD (2 * j) 0+N.getD (2 * j+1) 0))).set (2 * j) 0).set (2 * j+1) 0 else N)=sq1 N D j:=by
 unfold sq1;have a:=nn (2 * j);have b:=nn (2 * j+1)
 by_cases c:N.getD j 0+(N.getD (2 * j) 0+N.getD (2 * j+1) 0)<=D
 ·rw[if_pos c]
  by_cases p:0<N.getD (2 * j) 0+N.getD (2 * j+1) 0
  ·rw[if_pos ⟨p,by omega⟩]
  ·rw[if_neg (fun h=>p h.1)]
   have z1:N.getD (2 * j) 0=0:=by omega
   have z2:N.getD (2 * j+1) 0=0:=by omega
   have st:∀i,i<128->N.set i (N.getD i 0)=N:=fun i hi=>by
    rw[List.getD_eq_getElem?_getD,List.getElem?_eq_getElem (by omega)];exact List.set_getElem_self _
   have s1:=st j (by omega);have s2:=st (2 * j) (by omega);have s3:=st (2 * j+1) (by omega);rw[z1]at s2;rw[z2]at s3;rw[z1,z2,show N.getD j 0+(0+0)=N.getD j 0 by omega,s1,s2,s3]
 ·rw[if_neg c,if_neg (fun h=>c (by omega))]
end Go.Proofs.YtcblbdpdbggkbaaGreat.K
namespace Go.Proofs.YtcblbdpdbggkbaaGreat.K
open _root_.Go.Proofs.Tryz
open Go.RowKit Go.Sort
theorem mJ (a:Int) (w:World) (h0:0<=a) (h1:a<=2000):
  Calls prog 180 #[iv a] w fun e w'=>e=.returned (.bool true)/\w=w':=by
 go_enter func180,ntmps180;go_wp2;go_ret;exact⟨rfl,rfl⟩
theorem qK (a:Int) (w:World) (h:a<0\/2000<a):
  Calls prog 180 #[iv a] w fun e w'=>e=.returned (.bool false)/\w=w':=by
 rcases h with h|h
 ·have h':¬ 0<=a:=o_
  go_enter func180,ntmps180;exact zAb
 ·have h':¬a<=2000:=o_
  have h'':0<=a:=o_;go_enter func180,ntmps180;exact zAb
def aCo (a all:Int):Int:=if a<64 then all / 8 else all
theorem zE (a all:Int) (w:World) (h0:0<=all) (h1:all<=2000):
  Calls prog 181 #[iv a,iv all] w fun e w'=>e=.returned (iv (aCo a all))/\w=w':=by
 have hD:all.tdiv 8=all / 8:=Int.tdiv_eq_ediv_of_nonneg h0;have hw:IntKind.i64.wrap (all / 8)=all / 8:=IntWalk.i64_in _ o_;unfold aCo
 by_cases h:a<64
 ·rw[if_pos h]
  go_enter func181,ntmps181;exact zAb
 ·rw[if_neg h]
  clear hD hw;go_enter func181,ntmps181;exact zAb
def kB (ps:List Pr) (k:Nat):Int:=if k=0 then 0 else (pr ps (k - 1)).1
theorem dM.le_all {ps:List Pr} {all:Int} (h:dM ps all) (k:Nat) (hk:k<ps.length):(pr ps k).2<=all:=by
 have g:∀(m:Nat),m<=ps.length->k<m->(pr ps k).2<=bW (ps.take m)/\0<=bW (ps.take m):=by
  intro m
  induction m with
  |zero=>intro _ h;omega
  |succ m ih=>
   intro hm hkm;have b:=aC7 (k:=m) o_ (fun i hi=>h.2.1 i o_);have g:=(h.2.1 m o_).1.2;rw[jX ps m o_]
   by_cases e:k=m
   ·subst e;omega
   ·have:=ih o_ o_;omega
 have:=(g ps.length lr_ hk).1;rw[List.take_of_length_le lr_,h.2.2]at this;exact this
theorem aEY (w:World) (x:Option Addr) (n c:Nat) (ps:List Pr) (all:Int) (hl:ps.length=n) (hp:Prs w (.slice x n c) ps) (hn:n<=maxLen):
  Calls prog 110 #[.agg #[.slice x n c,iv all]] w fun e w'=>e=.returned (.bool (cX ps all))/\Below w.heap.size w w':=by
 unfold maxLen at hn;have HPR:=hd_ hp;have HP:=hd_ hp.cells;have HL:=hd_ hl;obtain⟨W,hW⟩:=nm_ (w.alloc (.cells #[.slice x n c,iv all] 44));have hA:Below w.heap.size w W:=by rw[hW];exact (Below.refl w.heap.size w).alloc lr_ _
 have sW:W.heap.size=w.heap.size+1:=by rw[hW];simp
 have X:bD W w.heap.size 44 (.slice x n c) (iv all):=by rw[hW];exact bD.new _ _ _ _
 have HA:=hd_ hA;have HS:=hd_ sW;have HX:=hd_ X;have x0:=X.cell0;have x1:=X.cell1;clear hl hp hA sW X
 by_cases ha:all<0\/2000<all
 ·have bd:Hid (cX ps all=false):=oD (fun q=>by have:=q.1;omega)
  go_enter func110,ntmps110
  go_wp2_with fail
  rw[<-hW];clear hW
  go_wp2_with fail
  refine (qK _ _ ha).mono ?_;rintro e w' ⟨rfl,rfl⟩;go_wp2;go_ret;exact⟨aK bd.out.symm,HA.out⟩
 have ha0:0<=all:=o_;have ha1:all<=2000:=o_;go_enter func110,ntmps110
 go_wp2_with fail
 rw[<-hW];clear hW
 go_wp2_with fail
 refine (mJ _ _ ha0 ha1).mono ?_;rintro e w' ⟨rfl,rfl⟩;go_wp2;go_loopw [3,4,14] (fun q l i wr=>∃k:Nat,k<=n/\i=.int .i64 k/\q=.int .i64 (bW (ps.take k))/\l=.int .i64 (kB ps k)/\(∀i,i<k->KnG ps all i)/\Below (w.heap.size+1) W wr) (fun _ _ i _=>n - (intOf i).toNat)
 case atStart=>exact⟨0,Nat.zero_le _,rfl,rfl,rfl,fun _ h=>absurd h (Nat.not_lt_zero _),Below.refl _ _⟩
 case round=>
  obtain⟨k,hk,rfl,rfl,rfl,hg,hbl⟩:=hrel;have G:=hd_ hg;have HB:=hd_ hbl;have kf:=aAf hg;have hsb:=aC7 (by rw[HL.out];exact hk) hg;have hX1:=HX.out.below HB.out (Nat.lt_succ_self _);have cw0:=hX1.cell0;have cw1:=hX1.cell1;have FIN:=hd_ (HA.out.trans (HB.out.mono (Nat.le_succ _)));have sw:w.heap.size+1<=wr.heap.size:=by have:=HB.out.size;have:=HS.out;omega
  by_cases hlt:k<n
  ·obtain⟨b,o,rfl,hb,h1,h2⟩:=HP.out k (by rw[HL.out];exact hlt)
   have tr:∀j v,w.cell? ⟨b,j,none⟩=some v->wr.cell? ⟨b,j,none⟩=some v:=fun j v h=>by
    exact zBH
   replace h1:=tr _ _ h1;replace h2:=tr _ _ h2;have HQ:Hid (KnG ps all k↔(((1<=(pr ps k).1/\(pr ps k).1<=127)/\1<=(pr ps k).2/\(pr ps k).2<=2000)/\(0<k->(pr ps (k - 1)).1<(pr ps k).1)/\((pr ps k).1<64->(pr ps k).2<=all / 8))):=Iff.rfl;have bad:Hid (¬KnG ps all k->cX ps all=false):=fun h=>oD (fun q=>h (q.2.1 k (by rw[HL.out];exact hlt)))
   have badM:Hid (all<(pr ps k).2->cX ps all=false):=fun h=>oD (fun q=>by have:=q.le_all k (by rw[HL.out];exact hlt);omega)
   have hs:=hd_ (jX ps k (by rw[HL.out];exact hlt));have hlv:Hid (kB ps (k+1)=(pr ps k).1):=by show kB ps (k+1)=_;simp[kB]
   -- the knot aCt
   have hL0:Hid (k=0->kB ps k=0):=fun h=>by simp[kB,h]
   have hL1:Hid (0<k->kB ps k=(pr ps (k - 1)).1):=fun h=>by simp[kB,show k≠0 by omega]
   have hLG:Hid (0<=kB ps k/\kB ps k<=127):=by
    show _/\_
    by_cases h:k=0
    ·rw[hL0.out h];omega
    ·rw[hL1.out o_];have:=(G.out (k - 1) o_).1.1;omega
   generalize pr ps k=q at h1 h2 HQ hs badM hlv;generalize pr ps (k - 1)=q' at HQ hL1;obtain⟨t,m⟩:=q;generalize kB ps k=L at *;have k0:(0:Int)<=(k:Int):=o_;have kn:(k:Int)<(n:Int):=o_
   -- the world with this round's box
   obtain⟨wk,hwk⟩:=nm_ (wr.alloc (.cells #[iv t,iv m] 152));have hK:Below wr.heap.size wr wk:=by rw[hwk];exact (Below.refl _ _).alloc lr_ _
   have bK:bD wk wr.heap.size 152 (iv t) (iv m):=by rw[hwk];exact bD.new _ _ _ _
   have y0:=bK.cell0;have y1:=bK.cell1;have yX:=hX1.later hK;have xk1:=yX.cell1;have HB2:=hd_ (HB.out.trans (hK.mono sw));have FIN2:=hd_ (FIN.out.trans (hK.mono FIN.out.size));generalize hSS:bW (ps.take k)=S at *;obtain⟨M,hM⟩:=nm_ (aCo t all);have HM:=hd_ hM
   have KM:Hid (∀W,Calls prog 181 #[iv t,iv all] W fun e w'=>e=.returned (iv M)/\W=w'):=fun W=>by rw[hM];exact zE t all W ha0 ha1
   clear hg hbl tr hX1 bK yX hSS hK hM
   by_cases hlo:t<=L
   ·have eL:decide (t<=L)=true:=decide_eq_true hlo
    have bd:=hd_ (bad.out (fun q=>by
          have g:=HQ.out.1 q
          by_cases h:k=0
          · have:=hL0.out h;have:=g.1.1.1;(try simp at this);omega
          · have:=hL1.out o_;have:=g.2.1 o_;(try simp at this);omega))
    clear HQ bad badM hs hlv hL0 hL1 hLG HM KM
    exact zBB
   have eL:decide (t<=L)=false:=decide_eq_false hlo
   by_cases hhi:128<=t
   ·have eH:decide (128<=t)=true:=decide_eq_true hhi
    have bd:=hd_ (bad.out (fun q=>by have:=(HQ.out.1 q).1.1.2;(try simp at this);omega));clear HQ bad badM hs hlv hL0 hL1 hLG HM KM
    exact zBB
   have eH:decide (128<=t)=false:=decide_eq_false hhi
   by_cases hm:m<1
   ·have eM:decide (m<1)=true:=decide_eq_true hm
    have bd:=hd_ (bad.out (fun q=>by have:=(HQ.out.1 q).1.2.1;(try simp at this);omega));clear HQ bad badM hs hlv hL0 hL1 hLG HM KM
    exact zBB
   have eM:decide (m<1)=false:=decide_eq_false hm
   by_cases hmm:M<m
   ·have eMM:decide (M<m)=true:=decide_eq_true hmm
    have bd:Hid (cX ps all=false):=by
     show _=_
     have e:=HM.out;unfold aCo at e
     by_cases h64:t<64
     ·rw[if_pos h64]at e
      exact bad.out (fun q=>by have:=(HQ.out.1 q).2.2 h64;(try simp at this);omega)
     ·rw[if_neg h64]at e
      exact badM.out (by show all<m;omega)
    clear HQ bad badM hs hlv hL0 hL1 hLG HM
    go_wp2_with fail
    rw[<-hwk];clear hwk
    go_quiet (with_reducible exact aI (KM.out _))
    exact zAr
   have eMM:decide (M<m)=false:=decide_eq_false hmm;have good:Hid (KnG ps all k):=by
    refine HQ.out.2 ?_;have hLG':=hLG.out;have e:=HM.out;unfold aCo at e;refine⟨⟨⟨?_,?_⟩,?_,?_⟩,fun h=>?_,fun h=>?_⟩
    ·show 1<=t;omega
    ·show t<=127;omega
    ·show 1<=m;omega
    ·show m<=2000
     split at e<;>omega
    ·show q'.1<t
     have:=hL1.out h;omega
    ·have h':t<64:=h
     rw[if_pos h']at e;show m<=all / 8;omega
   have mle:m<=2000:=by have:=HQ.out.1 good.out;exact this.1.2.2
   have LV:=hlv.out;simp only at LV;have HLV:=hd_ LV;clear HQ bad badM hlv hL0 hL1 hLG HM LV
   go_wp2_with fail
   rw[<-hwk];clear hwk
   go_quiet (with_reducible exact aI (KM.out _))
   go_wp2;go_roundw
   case rel=>exact⟨k+1,o_,gn_,by rw[hs.out],by rw[HLV.out],fun i hi=>by
        by_cases h:i<k
        · exact G.out i h
        · obtain rfl:i=k:=o_
          exact good.out,below_drewN HB2.out _⟩
   case measure=>simp[intOf];omega
  ·exact zAa
theorem mE (w:World) (u:Value) (ps:List Pr) (all:Int) (hp:Prs w u ps):
  Calls prog 110 #[.agg #[u,iv all]] w fun e w'=>e=.returned (.bool (cX ps all))/\Below w.heap.size w w':=by
 obtain⟨x,c,rfl,hc0,hc⟩:=hp.form;exact aEY w x _ c ps all rfl hp o_
end Go.Proofs.YtcblbdpdbggkbaaGreat.K

namespace Go.Proofs.YtcblbdpdbggkbaaGreat.K
open _root_.Go.Proofs.Tryz
open Go.RowKit Go.Sort
def iQ (N:List Int):Array Value:=(cC N).toArray
theorem pP (N:List Int):(iQ N).size=N.length:=by simp[iQ,cC]
theorem aFh:(prog.info? 281).map (fun i=>(i.zero,i.size))=some (some (.agg (iQ (List.replicate 128 0))),128):=by kernel_rfl
theorem aAu:(prog.info? 281).map (·.size)=some 128:=(zero_of_info aFh).2
theorem aJJ (w:World):(zeroValue 281).run prog w=.ok (.agg (iQ (List.replicate 128 0))) w:=(zero_of_info aFh).1 w
def dS (W:World) (b:Nat) (N:List Int):Prop:=N.length=128/\W.heap[b]? =some (.cells (iQ N) 281 (0,0))
section
variable {W W':World} {b:Nat} {N:List Int}
theorem dS.lt (h:dS W b N):b<W.heap.size:=(Array.getElem?_eq_some_iff.1 h.2).1
theorem dS.new (W:World) (N:List Int) (hl:N.length=128):dS (W.alloc (.cells (iQ N) 281)) W.heap.size N:=⟨hl,heap_alloc_new W _⟩
theorem dS.below (h:dS W b N) {B:Nat} (hb:Below B W W') (hB:b<B):dS W' b N:=⟨h.1,(hb.block b hB).trans h.2⟩
theorem dS.later (h:dS W b N) (hb:Below W.heap.size W W'):dS W' b N:=h.below hb h.lt
theorem dS.drewN (h:dS W b N) (n:Nat):dS (W.drewN n) b N:=h
theorem dS.alloc (h:dS W b N) (o:Obj):dS (W.alloc o) b N:=h.later ((Below.refl _ _).alloc lr_ o)
theorem dS.kept {row:Option Nat} (h:dS W b N) (hg:W.grownBy W' row) (hr:row≠some b):dS W' b N:=⟨h.1,(hg.block b h.lt (fun e=>hr e.symm)).trans h.2⟩
theorem dS.cell (h:dS W b N) {i:Nat} (hi:i<128):W.cell? ⟨b,i,none⟩=some (.int .i64 (N.getD i 0)):=by
 rw[cell_of_row W b i _ _ _ h.2];unfold iQ;rw[List.getElem?_toArray];exact kU N i (by rw[h.1];exact hi)
theorem dS.free (h:dS W b N) (i:Nat):W.frozen? ⟨b,i,none⟩=false:=by simp[World.frozen?,h.2]
theorem dS.set (h:dS W b N) (i:Nat) (x:Int):dS (W.setCell ⟨b,i,none⟩ (iv x)) b (N.set i x):=by
 refine⟨by simpa using h.1,?_⟩;rw[heap_setCell_same W b i _ _ _ h.2];unfold iQ;simp[cC,List.map_set]
theorem dS.grown (W:World) (b i:Nat) (x:Value):W.grownBy (W.setCell ⟨b,i,none⟩ x) (some b):=aF W ⟨b,i,none⟩ x
theorem dS.loadVar (h:dS W b N):(loadVar 281 ⟨b,0,none⟩).run prog W=.ok (.agg (iQ N)) W:=
 run_loadVar_row W b _ _ _ _ _ h.2 underlying281 rfl (by rw[pP,h.1];exact aAu)
theorem dS.load (h:dS W b N):(Instr.loadAt 281 (.pointer (some ⟨b,0,none⟩))).run prog W=.ok (.agg (iQ N)) W:=by
 simp only[Instr.loadAt,Instr.sureAddr,Sem.run_bind,Sem.run_pure,Result.andThen];exact run_loadVar_row W b _ _ _ _ _ h.2 underlying281 rfl (by rw[pP,h.1];exact aAu)
end
theorem aJt (N:List Int):(iQ N).all (·.oneCell')=true:=by
 unfold iQ;exact all_oneCell_toArray (fun v hv=>by
    unfold cC at hv
    obtain⟨z,_,rfl⟩:=List.mem_map.1 hv
    rfl)
section
variable {ops:Array Oper} {rest:List Oper} {o:Oper} {a:Act} {w:World} {Q:Exit->Act->World->Prop}
theorem tG (hgd:o.guard=none) (x:Operand) (ho:o.op=.box 281 x) (N:List Int) (hx:a.eval x=.agg (iQ N))
  (h:wpList prog ops Q rest (a.put o.dst (.pointer (some ⟨w.heap.size,0,none⟩))) (w.alloc (.cells (iQ N) 281))):wpList prog ops Q (o::rest) a w:=by
 refine wpList_plain hgd fun K hK=>?_
 unfold Oper.wp execOp;simp only[ho,hx,Instr.box,newVar,Value.cells,Sem.run_bind,Sem.run_pure];exact hK _ _ h
theorem qF (hgd:o.guard=none) (ho:o.op=.alloc 281)
  (h:wpList prog ops Q rest (a.put o.dst (.pointer (some ⟨w.heap.size,0,none⟩))) (w.alloc (.cells (iQ (List.replicate 128 0)) 281))):wpList prog ops Q (o::rest) a w:=by
 refine wpList_plain hgd fun K hK=>?_
 unfold Oper.wp execOp;simp only[ho,Instr.alloc,newVar,Value.cells,Sem.run_bind,Sem.run_pure,Result.andThen_ok,aJJ];exact hK _ _ h
theorem mU (hgd:o.guard=none) (x:Operand) (ho:o.op=.load 281 x) (b:Nat) (N:List Int) (hx:a.eval x=.pointer (some ⟨b,0,none⟩)) (hA:dS w b N)
  (h:wpList prog ops Q rest (a.put o.dst (.agg (iQ N))) w):wpList prog ops Q (o::rest) a w:=by
 refine wpList_plain hgd fun K hK=>?_
 have hl:=hA.load;unfold Oper.wp execOp;simp only[ho,hx,Sem.run_bind,Sem.run_pure,hl,Result.andThen_ok];exact hK _ _ h
theorem yG (hgd:o.guard=none) (x y:Operand) (ho:o.op=.index 281 x y) (N:List Int) (k:Nat) (hx:a.eval x=.agg (iQ N)) (hy:a.eval y=.int .i64 (k:Int)) (hl:N.length=128) (hk:k<128)
  (h:wpList prog ops Q rest (a.put o.dst (iv (N.getD k 0))) w):wpList prog ops Q (o::rest) a w:=by
 refine wpList_plain hgd fun K hK=>?_
 have hg:(iQ N)[k]? =some (.int .i64 (N.getD k 0)):=by unfold iQ;rw[List.getElem?_toArray];exact kU N k (by omega)
 have hr:(Instr.index 281 (.agg (iQ N)) (iv (k:Int))).run prog w=.ok (iv (N.getD k 0)) w:=by
  have h1:(0:Int)<=(k:Int)/\(k:Int)<(128:Nat):=by omega
  unfold Instr.index;simp only[asIntOf,Sem.run_bind,Sem.run_pure,Result.andThen_ok,run_underlying underlying281,if_pos h1];have hz:(sizeOf 3).run prog w=.ok 1 w:=by
   cases hq:prog.info? 3 with
   |none=>have:=sO;simp[hq]at this
   |some i=>have:=sO;simp[hq]at this;simp[sizeOf,typeInfo,hq,this]
  simp[part,hz,hg]
 unfold Oper.wp execOp;simp only[ho,hx,hy,Sem.run_bind,Sem.run_pure,hr,Result.andThen_ok];exact hK _ _ h
theorem yE (hgd:o.guard=none) (x y:Operand) (ho:o.op=.store 281 x y) (b:Nat) (M N:List Int) (hx:a.eval x=.pointer (some ⟨b,0,none⟩)) (hy:a.eval y=.agg (iQ N)) (hA:dS w b M) (hl:N.length=128)
  (h:wpList prog ops Q rest (a.put o.dst undef) (w.setRow b (iQ N))):wpList prog ops Q (o::rest) a w:=by
 refine wpList_plain hgd fun K hK=>?_
 have hs:=run_storeVar_row (P:=prog) w b 281 281 (iQ M) (iQ N) hA.2 (by rw[pP,hl];exact aAu) (by rw[pP,pP,hA.1,hl]) (aJt N);unfold Oper.wp execOp;simp only[ho,hx,hy,Instr.storeAt,Instr.sureAddr,Sem.run_bind,Sem.run_pure,Result.andThen_ok,hs];exact hK _ _ h
end
theorem dS.setRow {W:World} {b:Nat} {M N:List Int} (h:dS W b M) (hl:N.length=128):dS (W.setRow b (iQ N)) b N:=⟨hl,setRow_heap W b _ _ _ _ h.2⟩
theorem aAw (W:World) (b:Nat) (c:Array Value):W.grownBy (W.setRow b c) (some b):=⟨rfl,rfl,rfl,by simp,fun k _ hk=>setRow_other W b k c (fun e=>hk (by rw[e]))⟩
theorem aFA (w:World) (N:List Int) (hl:N.length=128) (h0:N.getD 0 0=0):
  Calls prog 253 #[.agg (iQ N)] w fun e w'=>∃v,e=.returned v/\aJ w' w.heap.size v (tA N)/\Below w.heap.size w w':=by
 obtain⟨i0,hi,hz0,hz1,hz2⟩:=info_parts fQ;have HA:=hd_ (dS.new w N hl);obtain⟨W,hW⟩:=nm_ (w.alloc (.cells (iQ N) 281));have hB:Below w.heap.size w W:=by rw[hW];exact (Below.refl _ _).alloc lr_ _
 have HB0:=hd_ hB;rw[<-hW]at HA;clear hB;go_enter func253,ntmps253;go_upto_region 0 with fail
 go_step
 refine tG rfl _ rfl N rfl ?_;rw[<-hW];clear hW
 go_wp2_with (refine mU rfl _ rfl _ N rfl HA.out ?_)
 go_loopw [3,7] (fun o i wr=>∃(k no:Nat) (x:Option Addr) (co:Nat),k<=128/\i=.int .i64 ((k:Nat):Int)/\o=.slice x no co/\no=(iO N (k - 1)).length/\aJ wr W.heap.size (.slice x no co) (iO N (k - 1))/\Below W.heap.size W wr) (fun _ i _=>128 - (intOf i).toNat)
 case atStart=>exact⟨0,0,none,0,Nat.zero_le _,rfl,rfl,rfl,aJ.nil _ _,Below.refl _ _⟩
 case round=>
  obtain⟨k,no,x,co,hk,rfl,rfl,hno,hown,hbl⟩:=hrel
  by_cases hlt:k<128
  ·have k0:(0:Int)<=(k:Int):=o_
   have kn:(k:Int)<128:=o_;have ho:wr.ownsRow W.heap.size 152 2 (.slice x no co) no (prs (iO N (k - 1))):=by have h:=hown;unfold aJ at h;rw[<-hno]at h;exact h
   have HO:=hd_ ho;have HN:=hd_ hno;have HB:=hd_ hbl;have HL:=hd_ hl;have szr:=hbl.size;have nb:no<=127:=by have:=aB0 N (k - 1);omega
   have hs:Hid (iO N (k+1 - 1)=iO N (k - 1)++if 0<N.getD k 0 then [((k:Int),N.getD k 0)]else []):=by
    show _=_
    by_cases hk0:k=0
    ·subst hk0;rw[h0];simp[iO]
    ·obtain⟨j,rfl⟩:∃j,k=j+1:=⟨k - 1,o_⟩
     rfl
   have step:∀V,V=N.getD k 0->Hid (V=N.getD k 0):=fun V h=>h
   clear h0 hown hno hbl hl ho;go_upto_region 4 with fail
   go_step
   go_step
   go_step
   go_step
   refine yG rfl _ _ rfl N k rfl rfl HL.out hlt ?_;generalize iO N (k - 1)=os at *;generalize N.getD k 0=V at *
   by_cases hp:0<V
   ·have e:=hd_ (hs.out.trans (by rw[if_pos hp]))
    go_wp2_with (first|(at_builtin;refine wpList_append_own _ rfl _ _ 42 rfl W.heap.size 152 i0 (.agg #[iv 0,iv 0]) 2 16 underlying42 hi hz0 hz1 hz2 rfl dc_ _ _ _ rfl (HO.out.alloc _) ⟨wr.heap.size,0,none⟩ 1 1 [iv k,iv V] rfl rfl (cW _ _ _ _) (by simp[Value.oneCell']) (by unfold maxLen;omega) o_ (by simp;omega) ?_;intro v1 w3 ho1 hg1 _;obtain⟨g_v1,c_v1,rfl,_,_⟩:=World.ownsRow.form ho1 (Nat.succ_pos _)))
    go_roundw
    case rel=>exact⟨k+1,no+1,_,_,o_,gn_,rfl,by rw[e.out];simp[HN.out],by rw[e.out];exact fG ho1 HN.out,bQ HB.out szr HO.out hg1⟩
    case measure=>simp[intOf];omega
   ·have e:=hd_ (hs.out.trans (by rw[if_neg hp,List.append_nil]))
    have OW:Hid (aJ wr W.heap.size (.slice x no co) os):=by show aJ _ _ _ _;unfold aJ;rw[<-HN.out];exact HO.out
    go_wp2;go_roundw
    case rel=>exact⟨k+1,no,_,_,o_,gn_,rfl,by rw[e.out];exact HN.out,by rw[e.out];exact OW.out,HB.out⟩
    case measure=>simp[intOf];omega
  ·obtain rfl:k=128:=o_
   have HO:=hd_ hown;have HB:=hd_ (HB0.out.trans (hbl.mono HB0.out.size));have HS:=hd_ HB0.out.size;clear h0 hno hbl hl HA hlt hk hown;go_wp2;go_ret;exact⟨_,rfl,HO.out.base HS.out,HB.out⟩
def Que (w:World) (B:Nat) (x:Option Addr) (c:Nat) (zs:List Int):Prop:=
 ∃g o,x=some ⟨g,o,none⟩/\B<=g/\g<w.heap.size/\zs.length<=c/\c<=maxLen/\
  (∀i,i<zs.length->w.cell? ⟨g,o+i,none⟩=some (.int .i64 (zs.getD i 0)))/\
  ∀i,i<c->(w.cell? ⟨g,o+i,none⟩).isSome=true/\w.frozen? ⟨g,o+i,none⟩=false
section
variable {w w':World} {B c:Nat} {x:Option Addr} {zs:List Int}
theorem Que.of_own {n:Nat} (h:w.ownsRow B 3 1 (.slice x n c) n (cC zs)) (hn:n=zs.length) (h0:0<n):Que w B x c zs:=by
 rcases h.2 with ⟨_,h00⟩|⟨g,cap,cur,e,hb,hg,hnc,hcm,hcs,ht⟩
 ·omega
 ·obtain⟨rfl,_,rfl⟩:=Value.slice.inj e
  refine⟨g,0,rfl,hb,(Array.getElem?_eq_some_iff.1 hg).1,o_,hcm,fun i hi=>?_,fun i hi=>⟨?_,by simp[World.frozen?,hg]⟩⟩
  ·rw[Nat.zero_add]
   exact (World.ownsRow.cellAt h i o_).trans (kU _ _ hi)
  ·rw[cell_of_row w g (0+i) cur _ _ hg,Array.getElem?_eq_getElem o_]
   rfl
theorem Que.keep (h:Que w B x c zs) (hb:∀g,B<=g->g<w.heap.size->w'.heap[g]? =w.heap[g]?) (hs:w.heap.size<=w'.heap.size):Que w' B x c zs:=by
 obtain⟨g,o,rfl,h1,h2,h3,h4,h5,h6⟩:=h;have e:=hb g h1 h2;refine⟨g,o,rfl,h1,Nat.lt_of_lt_of_le h2 hs,h3,h4,fun i hi=>?_,fun i hi=>?_⟩
 ·rw[World.cell?_of_block (a:=⟨g,o+i,none⟩) e];exact h5 i hi
 ·rw[World.cell?_of_block (a:=⟨g,o+i,none⟩) e,World.frozen?_of_block (a:=⟨g,o+i,none⟩) e];exact h6 i hi
theorem Que.alloc (h:Que w B x c zs) (o:Obj):Que (w.alloc o) B x c zs:=h.keep (fun g _ hg=>heap_alloc_old w o hg) (by simp)
theorem Que.drewN (h:Que w B x c zs) (n:Nat):Que (w.drewN n) B x c zs:=h
theorem Que.set (h:Que w B x c zs) (b i:Nat) (v:Value) (hb:b<B):Que (w.setCell ⟨b,i,none⟩ v) B x c zs:=h.keep (fun g hg _=>heap_setCell_other w ⟨b,i,none⟩ g v (by show g≠b;omega)) (by simp)
theorem Que.at (h:Que w B x c zs):∃g o,x=some ⟨g,o,none⟩/\B<=g/\g<w.heap.size/\zs.length<=c/\c<=maxLen/\∀i,i<zs.length->w.cell? ⟨g,o+i,none⟩=some (.int .i64 (zs.getD i 0)):=by
 obtain⟨g,o,rfl,h1,h2,h3,h4,h5,h6⟩:=h;exact⟨g,o,rfl,h1,h2,h3,h4,h5⟩
theorem Que.drop2 {g o:Nat} {a b:Int} (h:Que w B (some ⟨g,o,none⟩) c (a::b::zs)):Que w B (some (if c=2 then⟨g,o,none⟩else⟨g,o+2,none⟩)) (c - 2) zs:=by
 obtain⟨g',o',e,h1,h2,h3,h4,h5,h6⟩:=h;cases e;simp only[List.length_cons]at h3 h5
 by_cases hc:c=2
 ·rw[if_pos hc]
  have hz:zs.length=0:=o_;exact⟨g,o,rfl,h1,h2,o_,o_,fun i hi=>by omega,fun i hi=>by omega⟩
 ·rw[if_neg hc]
  refine⟨g,o+2,rfl,h1,h2,o_,o_,fun i hi=>?_,fun i hi=>?_⟩
  ·have:=h5 (i+2) o_
   rw[show o+2+i=o+(i+2) by omega]
   first|(simp;done)|simpa using this
  ·rw[show o+2+i=o+(i+2) by omega]
   exact h6 (i+2) o_
end
section
variable {ops:Array Oper} {rest:List Oper} {o:Oper} {a:Act} {w:World} {Q:Exit->Act->World->Prop}
theorem iM (hgd:o.guard=none) (s x:Operand) (ho:o.op=.call { callee:=.builtin .append,args:=#[s,x],argTypes:=#[ 23,23 ] })
  (B n c:Nat) (y:Option Addr) (zs:List Int) (hs:a.eval s=.slice y n c) (hq:Que w B y c zs) (hn:n=zs.length) (z:Int) (ad:Addr) (hx:a.eval x=.slice (some ad) 1 1) (hc:∀j u,[Value.int .i64 z][j]? =some u->w.cell? (ad.add j)=some u)
  (hB:B<=w.heap.size) (hsm:n<=1000)
  (h:∀y' c' w' row,Que w' B y' c' (zs++[z])->w.grownBy w' row->(∀k,row=some k->B<=k)->wpList prog ops Q rest (a.put o.dst (.slice y' (n+1) c')) w'):
  wpList prog ops Q (o::rest) a w:=by
 obtain⟨i0,hi,hz0,hz1,hz2⟩:=info_parts sO;have hq':=hq;obtain⟨g,off,rfl,h1,h2,h3,h4,h5,h6⟩:=hq;have getl:∀i,i<zs.length+1->(zs++[z]).getD i 0=if i<zs.length then zs.getD i 0 else z:=fun i hi=>by
  by_cases e:i<zs.length
  ·rw[if_pos e];simp[List.getD_eq_getElem?_getD,List.getElem?_append_left e]
  ·rw[if_neg e]
   obtain rfl:i=zs.length:=o_;simp
 refine wpList_append_arg w hgd s x 23 ho 3 i0 (iv 0) 1 8 underlying23 hi hz0 hz1 hz2 rfl dc_ g off n c (cC zs) hs (by rw[wY,hn];omega) (fun j u hj=>?_) ad 1 1 [iv z] hx rfl hc (by simp[Value.oneCell']) (fun hr j hj=>?_) (by unfold maxLen;omega) o_ (fun hr=>?_) (fun hg v' w' ho' hgr=>?_)
 ·have hj':j<zs.length:=by have:=(List.getElem?_eq_some_iff.1 hj).1;rwa[wY]at this
  rw[h5 j hj', <-kU zs j hj',hj]
 ·obtain rfl:j=0:=by simpa using hj
  exact h6 (n * 1) o_
 ·have e1:off+n * 1=off+n:=o_
  have hcell:=h6 n o_;have eq:w.setCells g (off+n * 1) [iv z]=w.setCell ⟨g,off+n,none⟩ (iv z):=by rw[e1];rfl
  rw[eq];refine h _ _ _ (some g) ⟨g,off,rfl,h1,by simpa using h2,by simp;omega,h4,fun i hi=>?_,fun i hi=>?_⟩ (aF w ⟨g,off+n,none⟩ _) (fun k e=>by cases e;exact h1)
  ·simp only[List.length_append,List.length_cons,List.length_nil]at hi
   rw[getl i o_]
   by_cases e:i<zs.length
   ·rw[if_pos e,World.cell?_setCell_other _ _ _ _ (fun q=>by have:=congrArg Addr.off q;simp at this;omega)];exact h5 i e
   ·rw[if_neg e,show i=n by omega]
    exact World.cell?_setCell_same' _ _ _ hcell.1
  ·rw[World.frozen?_setCell]
   refine⟨?_,(h6 i hi).2⟩
   by_cases e:i=n
   ·subst e;rw[World.cell?_setCell_same' _ _ _ hcell.1];rfl
   ·rw[World.cell?_setCell_other _ _ _ _ (fun q=>by have:=congrArg Addr.off q;simp at this;omega)];exact (h6 i hi).1
 ·have f:=ho'
  rw[show cC zs++[Value.int .i64 z]=cC (zs++[z]) by simp[cC]]at f;rcases f.2 with ⟨_,h00⟩|⟨g',cap,cur,rfl,hb,hg',_⟩
  ·omega
  ·have q:=Que.of_own (aU f hB) (by simp[hn]) (Nat.succ_pos _)
   exact h _ _ _ none q hgr (fun k e=>by cases e)
end
theorem dS.keep {w w':World} {b B:Nat} {N:List Int} {row:Option Nat} (h:dS w b N) (hg:w.grownBy w' row) (hr:∀k,row=some k->B<=k) (hb:b<B):dS w' b N:=h.kept hg (fun e=>by have:=hr b e;omega)
theorem rB {w0 w w':World} {B C:Nat} {row:Option Nat} (h:Below C w0 w) (hg:w.grownBy w' row) (hr:∀k,row=some k->B<=k) (hC:C<=B) (hw:C<=w.heap.size):Below C w0 w':=
 h.trans ⟨hg.os,hg.tape,hg.output,hg.size,fun k hk=>hg.block k o_ (fun e=>by have:=hr k e.symm;omega)⟩
def sM (p:Int):Nat->List Int
 | 0=>[]
 |n+1=>p::sM (p - 1) n
theorem pN (p:Int) (n:Nat):(sM p n).length=n:=by
 induction n generalizing p with
 |zero=>rfl
 |succ n ih=>simp[sM,ih]
theorem aCh (p:Int) (n:Nat):sM p n++[p - n]=sM p (n+1):=by
 induction n generalizing p with
 |zero=>simp[sM]
 |succ n ih=>
  have:=ih (p - 1);rw[show p - 1 - (n:Int)=p - ((n+1:Nat):Int) by omega]at this;rw[sM,List.cons_append,this]
  rfl
def aJM:Value->Nat
 | .slice _ n _=>n
 |_=>0
theorem aJw (p:Int) (n:Nat):sM p (n+2)=p::(p - 1)::sM (p - 1 - 1) n:=rfl
theorem zP {P:Program} {f:FuncId} {args:Array Value} {w:World} {m n:Nat} {v:Value}
  (h:∀W,Calls P f args W fun e w'=>e=.returned v/\W=w'):Calls P f args (w.drewN (m+n)) fun e w''=>e=.returned v/\∃k,w''=w.drewN (m+k):=
 (h _).mono fun _ _ ⟨he,hm⟩=>⟨he,n,hm.symm⟩
theorem aEj (w:World) (N:List Int) (all:Int) (hl:N.length=128) (hb:BdN N 600000) (a0:0<=all) (a1:all<=2000):
  Calls prog 254 #[.agg (iQ N),iv all] w fun e w'=>e=.returned (.agg (iQ (sqz N (all / 8) 63)))/\Below w.heap.size w w':=by
 obtain⟨i0,hi,hz0,hz1,hz2⟩:=info_parts sO;obtain⟨D,hDD⟩:=nm_ (all / 8);have hD0:0<=D:=o_;have hD1:D<=250:=o_;rw[<-hDD];have HDD:=hd_ hDD;obtain⟨Z0,hZ0⟩:=nm_ (List.replicate 128 (0:Int));have hz128:Z0.length=128:=by rw[hZ0];simp
 obtain⟨W,hW⟩:=nm_ ((w.alloc (.cells (iQ N) 281)).alloc (.cells (iQ Z0) 281));have hA:Below w.heap.size w W:=by rw[hW];exact ((Below.refl _ _).alloc lr_ _).alloc (by simp) _
 have sW:W.heap.size=w.heap.size+2:=by rw[hW];simp
 have R0:dS W w.heap.size N:=by rw[hW];exact (dS.new w N hl).alloc _
 have R1:dS W (w.heap.size+1) Z0:=by rw[hW];have:=dS.new (w.alloc (.cells (iQ N) 281)) Z0 hz128;rwa[World.size_alloc]at this
 have HA:=hd_ hA;have HS:=hd_ sW;have HR0:=hd_ R0;have HR1:=hd_ R1;have HB:=hd_ hb;have HL:=hd_ hl;have HZ:=hd_ hZ0;clear hA sW R0 R1 hb hl hDD hz128 hZ0;go_enter func254,ntmps254;go_upto_region 0 with fail
 go_step
 refine tG rfl _ rfl N rfl ?_;refine qF rfl rfl ?_;rw[<-HZ.out];rw[<-hW];clear hW;rw[World.size_alloc]
 go_wp2_with fail
 go_loopw [5,6] (fun q i wr=>∃(j:Nat) (I:Int) (x:Option Addr) (c:Nat),j<=64/\I=127 - (j:Int)/\i=.int .i64 I/\q=.slice x j c/\wr.ownsRow W.heap.size 3 1 (.slice x j c) j (cC (sM 127 j))/\Below W.heap.size W wr) (fun _ i _=>(intOf i).toNat)
 case atStart=>exact⟨0,127,none,0,o_,rfl,rfl,rfl,World.ownsRow_nil _ _ _ 1,Below.refl _ _⟩
 case round=>
  obtain⟨j,I,x,c,hj,hI,rfl,rfl,ho,hbl⟩:=hrel;have HO:=hd_ ho;have HBL:=hd_ hbl;have szr:=hbl.size;have hdn:=hd_ (aCh 127 j)
  by_cases hlt:j<64
  ·have I0:64<=I:=o_
   have I1:I<=127:=o_;have e:Hid (cC (sM 127 j)++[Value.int .i64 I]=cC (sM 127 (j+1))):=by
    show _=_
    rw[<-hdn.out,hI];simp[cC]
   have HI:=hd_ hI;clear ho hbl hI
   go_wp2_with (first|(at_builtin;refine wpList_append_own _ rfl _ _ 23 rfl W.heap.size 3 i0 (iv 0) 1 8 underlying23 hi hz0 hz1 hz2 rfl dc_ _ _ _ rfl (HO.out.alloc _) ⟨wr.heap.size,0,none⟩ 1 1 [iv I] rfl rfl (cell_one_new _ _ _) (by simp[Value.oneCell']) (by unfold maxLen;omega) o_ (by simp;omega) ?_;intro v1 w3 ho1 hg1 _;obtain⟨g_v1,c_v1,rfl,_,_⟩:=World.ownsRow.form ho1 (Nat.succ_pos _)))
   go_roundw
   case rel=>exact⟨j+1,I - 1,_,_,o_,by have:=HI.out;omega,rfl,rfl,by rw[<-e.out];exact ho1,bQ HBL.out szr HO.out hg1⟩
   case measure=>simp[intOf];omega
  ·obtain rfl:j=64:=o_
   obtain rfl:I=63:=o_;have HQ0:=hd_ (Que.of_own ho (by rw[pN]) o_);have HX0:=hd_ (HR0.out.below hbl HR0.out.lt);have HX1:=hd_ (HR1.out.below hbl HR1.out.lt);have HB0:=hd_ (HA.out.trans (hbl.mono HA.out.size));clear ho hbl hI HO HBL hlt hj hdn
   go_wp2_with fail
   go_loopw [5] (fun q wx=>∃(J n:Nat) (y:Option Addr) (c:Nat),J<=63/\n=J+1/\q=.slice y n c/\Que wx W.heap.size y c (sM (2 * (J:Int)+1) (J+1))/\dS wx w.heap.size (sqz N D (63 - J))/\dS wx (w.heap.size+1) Z0/\Below w.heap.size w wx/\W.heap.size<=wx.heap.size) (fun q _=>aJM q)
   case atStart=>exact⟨63,64,_,_,Nat.le_refl _,rfl,rfl,HQ0.out,HX0.out,HX1.out,HB0.out,szr⟩
   case round=>
    clear HQ0 HX0 HX1 HB0 HA HR0 HR1 szr;obtain⟨J,n,y,c,hJ,hn,rfl,hq,hx0,hx1,hbl,szr⟩:=hrel;have HQ:=hd_ hq;have HX1:=hd_ hx1;have HBL:=hd_ hbl
    by_cases h1:1<=J
    ·obtain⟨m,hm⟩:=nm_ (J - 1)
     obtain⟨g,o,rfl,hg0,hg1,hc0,hc1,hcells⟩:=hq.at;rw[pN]at hc0 hcells;have q0:=hcells 0 o_;have q1:=hcells 1 o_;rw[show J+1=m+2 by omega,aJw]at q0 q1 HQ;simp only[Nat.add_zero,List.getD_cons_zero,List.getD_cons_succ]at q0 q1;obtain⟨I,hI⟩:∃I:Nat,I=2 * J:=⟨_,rfl⟩
     obtain⟨I1,hI1⟩:∃I1:Nat,I1=2 * J+1:=⟨_,rfl⟩
     have eI1:2 * (J:Int)+1=(I1:Int):=o_;have eI:(I1:Int) - 1=(I:Int):=o_;rw[eI1,eI]at q1 HQ;rw[eI1]at q0;have bd:=aKm HB.out (show D<=600000 by omega) o_ (63 - J);have hs:=hd_ (show sqz N D (63 - (J - 1))=sq1 (sqz N D (63 - J)) D J by rw[show 63 - (J - 1)=(63 - J)+1 by omega,sqz,show 63 - (63 - J)=J by omega]);have lZ:(sqz N D (63 - J)).length=128:=by rw[aDg];exact HL.out
     have hany:=aKX (D:=D) (fun i=>(bd i).1) lZ J h1 hJ;generalize sqz N D (63 - J)=Z at *;have cI:=hx0.cell (i:=I) o_;have cI1:=hx0.cell (i:=I1) o_;have cJ:=hx0.cell (i:=J) o_;have fI:=hx0.free I;have fI1:=hx0.free I1;have fJ:=hx0.free J;have bI:=bd I;have bI1:=bd I1;have bJ:=bd J;rw[<-hI1, <-hI]at hany;obtain⟨V0,hV0⟩:=nm_ (Z.getD I 0);obtain⟨V1,hV1⟩:=nm_ (Z.getD I1 0)
     obtain⟨VJ,hVJ⟩:=nm_ (Z.getD J 0);rw[<-hV0, <-hV1, <-hVJ]at hany;rw[<-hV0]at cI bI;rw[<-hV1]at cI1 bI1;rw[<-hVJ]at cJ bJ;have HANY:=hd_ hany;have HR:=hd_ hx0;have w1:IntKind.i64.wrap (V0+V1)=V0+V1:=IntWalk.i64_in _ o_;have w2:IntKind.i64.wrap (VJ+(V0+V1))=VJ+(V0+V1):=IntWalk.i64_in _ o_;have j0:(J:Int)<64:=o_;have j128:(J:Int)<128:=o_;have jj:(0:Int)<=(J:Int):=o_;have i0':(I:Int)<128:=o_
     have i1':(I1:Int)<128:=o_;have n2:(1:Int)<(n:Int):=o_;have hsh:(I1:Int) / 2=(J:Int):=o_;have KM:Hid (∀W,Calls prog 181 #[iv J,iv all] W fun e w'=>e=.returned (iv D)/\W=w'):=fun W=>by
      have h:=zE J all W a0 a1;unfold aCo at h;rw[if_pos o_, <-HDD.out]at h;exact h
     have HI:=hd_ hI;have HI1:=hd_ hI1;have HM:=hd_ hm;have HN:=hd_ hn;clear hn hm hcells hV0 hV1 hVJ hany hx0 hx1 hbl hq eI eI1 hI hI1 bd lZ;have hge:(1:Int)<=(J:Int):=o_;have HB2:Hid (w.heap.size<W.heap.size/\w.heap.size+1<W.heap.size):=by show _/\_;have:=HS.out;omega
     have nc:n<=c:=by have:=HN.out;omega
     have n22:(2:Int)<=(n:Int):=o_;have LST:Hid (sM ((I:Int) - 1) m++[(J:Int)]=sM (2 * ((J - 1:Nat):Int)+1) (J - 1+1)):=by
      show _=_
      have h:=aCh ((I:Int) - 1) m;have e1:=HI.out;have e2:=HM.out;rw[show (I:Int) - 1 - (m:Int)=(J:Int) by omega]at h;rw[h,show 2 * ((J - 1:Nat):Int)+1=(I:Int) - 1 by omega,show J - 1+1=m+1 by omega]
     by_cases c2:VJ+(V0+V1)<=D
     ·have e:=hd_ (HANY.out.symm.trans (if_pos c2))
      have dc:decide (VJ+(V0+V1)<=D)=true:=decide_eq_true c2;have ne1:I≠J:=by have:=HI.out;omega
      have ne2:I1≠J:=by have:=HI1.out;omega
      have ne3:I1≠I:=by have:=HI1.out;have:=HI.out;omega
      obtain⟨F,hF⟩:∃F:Nat->World,F=fun q=>(((wr.drewN q).setCell ⟨w.heap.size,J,none⟩ (iv (VJ+(V0+V1)))).setCell ⟨w.heap.size,I,none⟩ (iv 0)).setCell ⟨w.heap.size,I1,none⟩ (iv 0):=⟨_,rfl⟩
      have FA:Hid (∀q,dS (F q) w.heap.size (((Z.set J (VJ+(V0+V1))).set I 0).set I1 0)):=fun q=>by rw[hF];exact (((HR.out.drewN q).set J _).set I 0).set I1 0
      have FX:Hid (∀q,dS (F q) (w.heap.size+1) Z0):=fun q=>by rw[hF];exact (((HX1.out.drewN q).kept (dS.grown _ _ _ _) (by simp)).kept (dS.grown _ _ _ _) (by simp)).kept (dS.grown _ _ _ _) (by simp)
      have FB:Hid (∀q,Below w.heap.size w (F q)):=fun q=>by rw[hF];exact (((below_drewN HBL.out q).setCell lr_ _).setCell lr_ _).setCell lr_ _
      have FS:Hid (∀q,(F q).heap.size=wr.heap.size):=fun q=>by rw[hF];simp
      have FQ:Hid (∀q,Que (F q) W.heap.size (some ⟨g,o,none⟩) c (↑I1:: ↑I::sM (↑I - 1) m)):=fun q=>by rw[hF];exact (((HQ.out.drewN q).set _ _ _ HB2.out.1).set _ _ _ HB2.out.1).set _ _ _ HB2.out.1
      have GOF:Hid (∀q,(((wr.drewN q).setCell ⟨w.heap.size,J,none⟩ (iv (VJ+(V0+V1)))).setCell ⟨w.heap.size,I,none⟩ (iv 0)).setCell ⟨w.heap.size,I1,none⟩ (iv 0)=F q):=fun q=>by rw[hF]
      exact zj
     ·have e:=hd_ (HANY.out.symm.trans (if_neg c2))
      have dc:decide (VJ+(V0+V1)<=D)=false:=decide_eq_false c2;obtain⟨F,hF⟩:∃F:Nat->World,F=fun q=>wr.drewN q:=⟨_,rfl⟩
      have FA:Hid (∀q,dS (F q) w.heap.size Z):=fun q=>by rw[hF];exact HR.out.drewN q
      have FX:Hid (∀q,dS (F q) (w.heap.size+1) Z0):=fun q=>by rw[hF];exact HX1.out.drewN q
      have FB:Hid (∀q,Below w.heap.size w (F q)):=fun q=>by rw[hF];exact below_drewN HBL.out q
      have FS:Hid (∀q,(F q).heap.size=wr.heap.size):=fun q=>by rw[hF];simp
      have FQ:Hid (∀q,Que (F q) W.heap.size (some ⟨g,o,none⟩) c (↑I1:: ↑I::sM (↑I - 1) m)):=fun q=>by rw[hF];exact HQ.out.drewN q
      have GOF:Hid (∀a b c,((wr.drewN a).drewN b).drewN c=F (a+b+c)):=fun a b c=>by rw[hF,World.drewN_drewN,World.drewN_drewN];show wr.drewN _=wr.drewN _;rw[Nat.add_assoc]
      exact zj
    ·obtain rfl:J=0:=o_
     obtain rfl:n=1:=o_;obtain⟨y',c',hy⟩:∃y' c',y=y'/\c=c':=⟨_,_,rfl,rfl⟩
     have HA0:=hd_ hx0;have z63:Hid (sqz N D (63 - 0)=sqz N D 63):=hd_ rfl;have lQ:Hid ((sqz N D 63).length=128):=by show _=_;rw[aDg];exact HL.out
     rw[z63.out]at HA0;obtain⟨S,hS⟩:=nm_ (sqz N D 63);rw[<-hS]at HA0 lQ;have HSS:=hd_ hS;have HA1:=hd_ (HX1.out.setRow lQ.out);have hld:=HA1.out.loadVar;have FIN:=hd_ (HBL.out.trans (sH (aAw wr (w.heap.size+1) (iQ S)) (show w.heap.size<=w.heap.size+1 by omega) HBL.out.size));clear hq hx0 hx1 hbl hy hJ h1 hn hS
     go_wp2_with (first|(refine mU rfl _ rfl _ S rfl HA0.out ?_)|(refine yE rfl _ _ rfl _ Z0 S rfl rfl HX1.out lQ.out ?_))
     exact bodyPost_ret (v:=.agg (iQ S)) (by simp[results,results254,asAddr,hld]) rfl ⟨by rw[HSS.out],FIN.out⟩
theorem kO {w:World} {B:Nat} {e:TypeId} {size n:Nat} {v:Value} {xs:List Value} (h:w.ownsRow B e size v n xs):∃x c,v=.slice x n c:=by
 rcases h.2 with ⟨rfl,h0⟩|⟨g,cap,cur,rfl,_⟩
 ·exact⟨none,0,by rw[h0]⟩
 ·exact⟨_,_,rfl⟩
theorem nB (ps:List Pr):∀u ∈ prs ps,u.oneCell'=true:=by
 induction ps with
 |nil=>intro u hu;cases hu
 |cons p ps ih=>
  intro u hu;rw[mH]at hu;simp only[List.mem_cons]at hu;rcases hu with rfl|rfl|hu
  ·rfl
  ·rfl
  ·exact ih u hu
theorem Prs.news {w:World} {b o n c:Nat} {ps:List Pr} (h:Prs w (.slice (some ⟨b,o,none⟩) n c) ps):∀j u,(prs ps)[j]? =some u->w.cell? ((⟨b,o,none⟩:Addr).add j)=some u:=fun j u hu=>by
 have hj:j<(prs ps).length:=(List.getElem?_eq_some_iff.1 hu).1;rw[iN]at hj;obtain⟨b',o',e,_,h1,h2⟩:=h.cells (j / 2) o_;cases e;have hg:=oV ps (j / 2) o_;rw[lN];rcases (by omega:j % 2=0\/j % 2=1)with h0|h0
 ·have e:j=j / 2 * 2:=o_
  rw[e]at hu ⊢;rw[hg.1]at hu;rw[h1, <-hu]
 ·have e:j=j / 2 * 2+1:=o_
  rw[e]at hu ⊢;rw[hg.2]at hu;rw[<-Nat.add_assoc,h2, <-hu]
theorem vG (n:Nat) (w:World) (hn:n<=300):Calls prog 291 #[zn,iv n] w fun e w'=>∃v,e=.returned v/\aJ w' w.heap.size v []/\Below w.heap.size w w':=by
 obtain⟨i0,hi,hz0,hz1,hz2⟩:=info_parts fQ
 by_cases h0:n=0
 ·subst h0
  go_enter func291,ntmps291;go_wp2;go_ret;exact⟨_,rfl,aJ.nil _ _,Below.refl _ _⟩
 ·have h1:¬((n:Int)<0):=o_
  have h4:(0:Int)<(n:Int):=o_;have hrz:∀ty,(Builtin.append_ #[42,3 ] ty #[zn,iv (n:Int)]).run prog w=
    .ok (.slice (some ⟨w.heap.size,0,none⟩) n (grownCap w n 0 152)) (w.drew.alloc (.cells ((([]:List Value).toArray++Builtin.zeroCells (Value.agg #[iv 0,iv 0]).cells n)++Builtin.zeroCells (Value.agg #[iv 0,iv 0]).cells (grownCap w n 0 152 - n)) 152)):=fun ty=>by
   have h:=Lib.run_append_grow_zeros w 42 3 ty 152 i0 _ .i64 .i64 underlying42 underlying3 hi hz0 none 0 0 [] (run_firstCells_none w.drew i0.size 0 0 0) n o_ (by rw[hz1];omega) o_ o_ (by rw[hz2];omega)
    (by rw[Nat.zero_add];exact growslice_fits o_ (by rw[hz2];omega))
   rw[Nat.zero_add]at h;exact h
  have hGn:n<=grownCap w n 0 152:=grownCap_ge w _ _ _;have hG63:=grownCap_le_maxLen w n 0 152 (by unfold maxLen;omega);have hsz:∀G,n<=G->((([]:List Value).toArray++Builtin.zeroCells (Value.agg #[iv 0,iv 0]).cells n)++Builtin.zeroCells (Value.agg #[iv 0,iv 0]).cells (G - n)).size=G * 2:=fun G hG=>by
   simp only[Array.size_append,size_zeroCells,Value.cells];simp;omega
  obtain⟨G,hG⟩:=nm_ (grownCap w n 0 152);rw[<-hG]at hrz hGn hG63;obtain⟨CS,hCS⟩:=nm_ ((([]:List Value).toArray++Builtin.zeroCells (Value.agg #[iv 0,iv 0]).cells n)++Builtin.zeroCells (Value.agg #[iv 0,iv 0]).cells (G - n));have hs:=hsz G hGn;rw[<-hCS]at hrz hs
  have FIN:Hid (aJ (w.drew.alloc (.cells CS 152)) w.heap.size (.slice (some ⟨w.heap.size,0,none⟩) 0 G) []/\Below w.heap.size w (w.drew.alloc (.cells CS 152))):=
   ⟨World.ownsRow_made w.drew CS G lr_ hG63 hs,(Below.drew (Below.refl _ _)).alloc lr_ _⟩
  have hGi:(n:Int)<=(G:Int):=o_;have hG0:(0:Int)<=(G:Int):=o_;have hG64:(G:Int)<=9223372036854775807:=by unfold maxLen at hG63;omega
  clear hG hCS hsz hs;go_enter func291,ntmps291
  go_wp2_with (at_builtin;refine Lib.wpList_append_run _ rfl _ _ _ _ rfl _ _ rfl rfl _ _ (hrz _) ?_)
  go_ret;exact⟨_,rfl,FIN.out.1,FIN.out.2⟩
theorem yV (w:World) (g na nb ca cb:Nat) (x y:Option Addr) (ps qs:List Pr) (ha:ps.length=na) (hb:qs.length=nb) (la:na<=127) (lb:nb<=127) (hp:Prs w (.slice x na ca) ps) (hq:Prs w (.slice y nb cb) qs)
  (c0:w.cell? ⟨g,0,none⟩=some (.slice x na ca)) (c1:w.cell? ⟨g,1,none⟩=some (.slice y nb cb)):
  Calls prog 252 #[.slice (some ⟨g,0,none⟩) 2 2] w fun e w'=>∃v,e=.returned v/\aJ w' w.heap.size v (ps++qs)/\Below w.heap.size w w':=by
 obtain⟨i0,hi,hz0,hz1,hz2⟩:=info_parts fQ;have HA:=hd_ ha;have HB:=hd_ hb;have HP:=hd_ hp;have HQ:=hd_ hq;have C0:=hd_ c0;have C1:=hd_ c1;have n0:¬(na:Int)<0:=o_;have n1:¬(na:Int)+(nb:Int)<0:=o_;have KG:Hid (Calls prog 291 #[zn,iv ((na:Int)+(nb:Int))] w fun e w'=>∃v,e=.returned v/\aJ w' w.heap.size v []/\Below w.heap.size w w'):=by
  have h:=vG (na+nb) w o_;rw[Int.natCast_add]at h;exact h
 have NP:Hid (x=none->ps=[]/\na=0/\ca=0):=fun e=>by
  subst e;rcases HP.out with ⟨e,h0⟩|⟨b,o,c,e,_⟩
  ·injection e with e1 e2 e3;exact⟨h0,e2,e3⟩
  ·cases e
 have NQ:Hid (y=none->qs=[]/\nb=0/\cb=0):=fun e=>by
  subst e;rcases HQ.out with ⟨e,h0⟩|⟨b,o,c,e,_⟩
  ·injection e with e1 e2 e3;exact⟨h0,e2,e3⟩
  ·cases e
 have SX:Hid (∀a,x=some a->∃b o,a=⟨b,o,none⟩):=fun a e=>by
  rcases HP.out with ⟨e',_⟩|⟨b,o,c,e',_⟩
  ·rw[e]at e';cases e'
  ·rw[e]at e';injection e' with e1;exact⟨b,o,Option.some.inj e1⟩
 have SY:Hid (∀a,y=some a->∃b o,a=⟨b,o,none⟩):=fun a e=>by
  rcases HQ.out with ⟨e',_⟩|⟨b,o,c,e',_⟩
  ·rw[e]at e';cases e'
  ·rw[e]at e';injection e' with e1;exact⟨b,o,Option.some.inj e1⟩
 clear ha hb hp hq;go_enter func252,ntmps252;go_wp2;refine wp_loop_rounds 3 ?_;rw[rounds_succ];go_wp2;rw[rounds_succ];go_wp2;rw[rounds_succ]
 go_wp2_with fail
 refine KG.out.mono ?_;rintro e w1 ⟨v,rfl,ho1,hb1⟩;obtain⟨z,cz,rfl,_,_⟩:=ho1.form;have d0:=cell_later hb1 C0.out;have d1:=cell_later hb1 C1.out;have P1:=hd_ (HP.out.below hb1 lr_);have Q1:=hd_ (HQ.out.below hb1 lr_);have O1:Hid (w1.ownsRow w.heap.size 152 2 (.slice z 0 cz) 0 []):=ho1;have B1:=hd_ hb1;have s1:=hb1.size;have D1:=hd_ d1;have gl:g<w.heap.size:=World.block_lt_of_cell? _ _ C1.out
 clear ho1 hb1 c0 c1 KG;simp only[List.length_nil];go_wp2;refine wp_loop_rounds 3 ?_;rw[rounds_succ]
 -- the first
 rcases hx:x with _|⟨bx,ox,sx⟩
 ·subst hx
  obtain⟨rfl,rfl,rfl⟩:=NP.out rfl;rcases hy:y with _|⟨by',oy,sy⟩
  ·subst hy
   obtain⟨rfl,rfl,rfl⟩:=NQ.out rfl
   go_wp2_with (first|(at_builtin;refine wpList_append_own_none rfl _ _ 42 rfl w.heap.size 152 i0 2 underlying42 hi (.slice z 0 cz) 0 [] rfl O1.out rfl ?_;have tok1:True:=trivial))
   rw[rounds_succ]
   go_wp2_with (first|(at_builtin;refine wpList_append_own_none rfl _ _ 42 rfl w.heap.size 152 i0 2 underlying42 hi (.slice z 0 cz) 0 [] rfl O1.out rfl ?_;have tok2:True:=trivial))
   rw[rounds_succ];go_wp2;go_ret;exact⟨_,rfl,O1.out,B1.out⟩
  ·obtain⟨by2,oy2,ey⟩:=SY.out _ hy
   obtain⟨rfl,rfl,rfl⟩:by'=by2/\oy=oy2/\sy=none:=by injection ey with e1 e2 e3;exact⟨e1,e2,e3⟩
   subst hy;clear ey
   go_wp2_with (first|(at_builtin;refine wpList_append_own_none rfl _ _ 42 rfl w.heap.size 152 i0 2 underlying42 hi (.slice z 0 cz) 0 [] rfl O1.out rfl ?_;have tok1:True:=trivial))
   rw[rounds_succ]
   go_wp2_with (first|(at_builtin;refine wpList_append_own _ rfl _ _ 42 rfl w.heap.size 152 i0 (.agg #[iv 0,iv 0]) 2 16 underlying42 hi hz0 hz1 hz2 rfl dc_ (.slice z 0 cz) 0 [] rfl O1.out ⟨by',oy,none⟩ nb cb (prs qs) rfl (by rw[iN,HB.out]) (Q1.out.news) (nB _) (by unfold maxLen;omega) o_ o_ ?_;intro v3 w3 ho3 hg3 _;have O3:=hd_ ho3;obtain⟨z3,cz3,rfl⟩:=kO ho3;have B3:=hd_ (B1.out.grown hg3 B1.out.size (fun k e=>(O1.out.lt k e).1))))
   rw[rounds_succ];go_wp2;go_ret;refine⟨_,rfl,?_,B3.out⟩;unfold aJ;have h:=O3.out;rw[<-HB.out]at h ⊢;simpa using h
 ·obtain⟨bx',ox',ex⟩:=SX.out _ hx
  obtain⟨rfl,rfl,rfl⟩:bx=bx'/\ox=ox'/\sx=none:=by injection ex with e1 e2 e3;exact⟨e1,e2,e3⟩
  subst hx;clear ex;rcases hy:y with _|⟨by',oy,sy⟩
  ·subst hy
   obtain⟨rfl,rfl,rfl⟩:=NQ.out rfl
   go_wp2_with (first|(at_builtin;refine wpList_append_own _ rfl _ _ 42 rfl w.heap.size 152 i0 (.agg #[iv 0,iv 0]) 2 16 underlying42 hi hz0 hz1 hz2 rfl dc_ (.slice z 0 cz) 0 [] rfl O1.out ⟨bx,ox,none⟩ na ca (prs ps) rfl (by rw[iN,HA.out]) (P1.out.news) (nB _) (by unfold maxLen;omega) o_ o_ ?_;intro v2 w2 ho2 hg2 _;simp only[Nat.zero_add,List.nil_append]at ho2;obtain⟨z2,cz2,rfl⟩:=kO ho2;have O2:=hd_ ho2;have B2:=hd_ (B1.out.grown hg2 B1.out.size (fun k e=>(O1.out.lt k e).1));have d2:=hg2.cell D1.out (fun e=>by have:=(O1.out.lt _ e.symm).1;simp only at this;omega);have s2:=hg2.size;have Q2:=hd_ (HQ.out.below B2.out lr_)))
   rw[rounds_succ]
   go_wp2_with (first|(at_builtin;refine wpList_append_own_none rfl _ _ 42 rfl w.heap.size 152 i0 2 underlying42 hi (.slice z2 na cz2) na (prs ps) rfl O2.out rfl ?_;have tok2:True:=trivial))
   rw[rounds_succ];go_wp2;go_ret;exact⟨_,rfl,by rw[List.append_nil];have h:=O2.out;rw[<-HA.out]at h ⊢;exact h,B2.out⟩
  ·obtain⟨by2,oy2,ey⟩:=SY.out _ hy
   obtain⟨rfl,rfl,rfl⟩:by'=by2/\oy=oy2/\sy=none:=by injection ey with e1 e2 e3;exact⟨e1,e2,e3⟩
   subst hy;clear ey
   go_wp2_with (first|(at_builtin;refine wpList_append_own _ rfl _ _ 42 rfl w.heap.size 152 i0 (.agg #[iv 0,iv 0]) 2 16 underlying42 hi hz0 hz1 hz2 rfl dc_ (.slice z 0 cz) 0 [] rfl O1.out ⟨bx,ox,none⟩ na ca (prs ps) rfl (by rw[iN,HA.out]) (P1.out.news) (nB _) (by unfold maxLen;omega) o_ o_ ?_;intro v2 w2 ho2 hg2 _;simp only[Nat.zero_add,List.nil_append]at ho2;obtain⟨z2,cz2,rfl⟩:=kO ho2;have O2:=hd_ ho2;have B2:=hd_ (B1.out.grown hg2 B1.out.size (fun k e=>(O1.out.lt k e).1));have d2:=hg2.cell D1.out (fun e=>by have:=(O1.out.lt _ e.symm).1;simp only at this;omega);have s2:=hg2.size;have Q2:=hd_ (HQ.out.below B2.out lr_)))
   rw[rounds_succ]
   go_wp2_with (first|(at_builtin;refine wpList_append_own _ rfl _ _ 42 rfl w.heap.size 152 i0 (.agg #[iv 0,iv 0]) 2 16 underlying42 hi hz0 hz1 hz2 rfl dc_ (.slice z2 na cz2) na (prs ps) rfl O2.out ⟨by',oy,none⟩ nb cb (prs qs) rfl (by rw[iN,HB.out]) (Q2.out.news) (nB _) (by unfold maxLen;omega) o_ o_ ?_;intro v3 w3 ho3 hg3 _;have O3:=hd_ ho3;obtain⟨z3,cz3,rfl⟩:=kO ho3;have B3:=hd_ (B2.out.grown hg3 B2.out.size (fun k e=>(O2.out.lt k e).1))))
   rw[rounds_succ];go_wp2;go_ret;refine⟨_,rfl,?_,B3.out⟩;unfold aJ;have h:=O3.out;rw[<-HA.out, <-HB.out]at h ⊢;rw[uW,List.length_append];exact h
theorem aHu (w:World) (x:Option Addr) (c:Nat) (y:Option Addr) (d n:Nat) (ps:List Pr) (all:Int) (hl:ps.length=n) (hp:Prs w (.slice x n c) ps) (hq:Prs w (.slice y n d) ps) (hn:n<=200):
  Calls prog 102 #[.agg #[.slice x n c,iv all],.agg #[.slice y n d,iv all]] w fun e w'=>e=.returned (.bool true)/\Below w.heap.size w w':=by
 have PC:=hd_ hp.cells;have QC:=hd_ hq.cells;have HL:=hd_ hl;obtain⟨W,hW⟩:=nm_ ((w.alloc (.cells #[.slice x n c,iv all] 44)).alloc (.cells #[.slice y n d,iv all] 44));have B0:Below w.heap.size w W:=by rw[hW];exact ((Below.refl _ _).alloc lr_ _).alloc (by simp) _
 have X:bD W w.heap.size 44 (.slice x n c) (iv all):=by rw[hW];exact (bD.new w _ _ _).alloc _
 have Y:bD W (w.heap.size+1) 44 (.slice y n d) (iv all):=by rw[hW];have:=bD.new (w.alloc (.cells #[.slice x n c,iv all] 44)) 44 (.slice y n d) (iv all);rwa[World.size_alloc]at this
 have x0:=X.cell0;have x1:=X.cell1;have y0:=Y.cell0;have y1:=Y.cell1;have BB:=hd_ B0;have e2:(all != all)=false:=by simp
 have e3:((n:Int) != (n:Int))=false:=by simp
 have e5:decide (all=all)=true:=by simp
 have e6:decide ((n:Int)=(n:Int))=true:=by simp
 clear hp hq hl B0 X Y;go_enter func102,ntmps102
 go_wp2_with fail
 rw[<-hW];clear hW;go_wp2;go_loopw [5] (fun i wr=>∃k:Nat,k<=n/\i=.int .i64 k/\∃m,wr=W.drewN m) (fun i _=>n - (intOf i).toNat)
 case atStart=>exact⟨0,Nat.zero_le _,rfl,0,rfl⟩
 case round=>
  obtain⟨k,hk,rfl,m,rfl⟩:=hrel
  by_cases hlt:k<n
  ·obtain⟨b,o,rfl,hb,h1,h2⟩:=PC.out k (by rw[HL.out];exact hlt)
   obtain⟨b',o',rfl,hb',h3,h4⟩:=QC.out k (by rw[HL.out];exact hlt);rw[<-BB.out.cell (p:=⟨b,o+k * 2,none⟩) hb]at h1;rw[<-BB.out.cell (p:=⟨b,o+k * 2+1,none⟩) hb]at h2;rw[<-BB.out.cell (p:=⟨b',o'+k * 2,none⟩) hb']at h3;rw[<-BB.out.cell (p:=⟨b',o'+k * 2+1,none⟩) hb']at h4;generalize pr ps k=q at h1 h2 h3 h4;obtain⟨t,z⟩:=q;have k0:(0:Int)<=(k:Int):=o_;have k1:(k:Int)<(n:Int):=o_;go_wp2
   go_quiet (fail)
   go_wp2;go_roundw
   case rel=>exact⟨k+1,o_,gn_,_,rfl⟩
   case measure=>simp[intOf];omega
  ·obtain rfl:k=n:=o_
   go_wp2;go_ret;exact⟨by first|rfl|simp,below_drewN BB.out _⟩
theorem aER (w:World) (u v:Value) (ps:List Pr) (all:Int) (hp:Prs w u ps) (hq:Prs w v ps) (hn:ps.length<=200):
  Calls prog 102 #[.agg #[u,iv all],.agg #[v,iv all]] w fun e w'=>e=.returned (.bool true)/\Below w.heap.size w w':=by
 obtain⟨x,c,rfl,_,_⟩:=hp.form;obtain⟨y,d,rfl,_,_⟩:=hq.form;exact aHu w x c y d _ ps all rfl hp hq hn
end Go.Proofs.YtcblbdpdbggkbaaGreat.K
