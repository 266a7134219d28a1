/-
  What the laws of Kn need of the texts before it, part 8.
-/
import Derived.ArgAppend
import Derived.BigQuiet
import Derived.Carry
import Derived.Deep.AppendLies
import Derived.Deep.Cut
import Derived.Deep.DeepCutAuto
import Derived.Deep.DrawnRows
import Derived.Deep.MidRow
import Derived.Deep.OwnRows
import Derived.Deep.QuietTactic
import Derived.Deep.RegionHeld3
import Derived.Deep.RegionLaw
import Derived.Deep.RegionLawGrows
import Derived.Deep.RegionWith
import Derived.Deep.WholeRow
import Derived.DeepKeys5
import Derived.IntWalk
import Derived.KernelRfl
import Derived.Laws.AppendOwnNone
import Derived.Laws.EntriesVeiled
import Derived.Laws.ResultCell
import Derived.Lib.AppendZerosOnto
import Derived.Lib.Hide
import Derived.Lib.QuietBelow
import Derived.Lib.SliceRun
import Derived.Lib.Walk
import Derived.LoopIn
import Derived.LoopNIn
import Derived.Maps.AppendAt
import Derived.Maps.Keyed
import Derived.Maps.Own
import Derived.OneCell
import Derived.OpenShut
import Derived.OrdersHeld
import Derived.OwnWalkIn
import Derived.RangeFuncBound
import Derived.RangeFuncBox
import Derived.RangeFuncCalls
import Derived.RangeFuncLeaves
import Derived.RangeFuncNested
import Derived.RegionTactic
import Derived.Shelf.Abstract
import Derived.Shelf.RegionOpen
import Derived.Shelf.SlSortCmp.InsertionK
import Derived.StillTail
import Derived.TacticsInMore
import Derived.Test.YtcblbdpdbggkbaaGreatRows
import Derived.WalkKit
import Derived.WalkLawsBesides
import Derived.WalkSmall
import Derived.WalkSpells
import Derived.Test.YtcblbdpdbggkbaaGreatSKn7
set_option maxRecDepth 100000
set_option maxHeartbeats 16000000
set_option linter.unusedVariables false
set_option linter.unusedSectionVars false
set_option linter.unusedSimpArgs false
namespace Go.Proofs.YtcblbdpdbggkbaaGreat
theorem zd {P:Prop} (h:P:=by
 go_enter func169,ntmps169;go_wp2;rw[<-hW];clear hW;refine fA kr_ kr_ ?_
 repeat (refine dX (fun K hK=>?_);go_simp;first|(refine hK _ ?_;clear hK K)|(apply Exists.intro;refine⟨fun _=>?_,hK _ ?_⟩;(first|(with_reducible exact HR.out _ _)|(with_reducible exact HF.out _ _)|(with_reducible exact HT.out _ _)|(with_reducible exact HK.out _ _)|(with_reducible exact HA.out _ _));clear hK K))
 refine fF ?_;intro _ hw';obtain⟨⟨dq,oq⟩,hw''⟩:=hw';subst hw'';have hb_w1:=below_regrown W0 dq oq;obtain⟨w1,hq_w1⟩:=nm_ (grow (redrawn W0 dq) oq);rw[<-hq_w1]at hb_w1 ⊢;clear hq_w1;go_wp2;go_ret;exact⟨by first|rfl|simp,B.out.trans (hb_w1.mono B.out.size)⟩):P:=h
theorem zAe {P:Prop} (h:P:=by
 go_wp2;go_ret;exact⟨by rw[F.out];rfl,by have:=H.out.below;rwa[HP.out]at this⟩):P:=h
theorem zAf {P:Prop} (h:P:=by
 have F:=hd_ (jN (a:=s1) (b:=s2) fun e=>eq (EQ.out.1 (by rw[e])))
 by_cases ex:x1=x2
 ·have ey:(y1==y2)=false:=by
   have:¬y1=y2:=fun e=>eq ⟨ex,e⟩
   simpa using this
  have ey':(y1 != y2)=true:=by simpa using ey
  subst ex;clear eq EQ
  repeat (first|refine tA_ ?_|refine tB_ ?_)
  refine aD ?_;go_wp2;go_ret;exact⟨by rw[F.out];rfl,by have:=H2.out.below;rwa[HP.out]at this⟩
 ·have ex':(x1==x2)=false:=by simpa using ex
  clear eq EQ ex
  repeat (first|refine tA_ ?_|refine tB_ ?_)
  refine aD ?_;go_wp2;go_ret;exact⟨by rw[F.out];rfl,by have:=H2.out.below;rwa[HP.out]at this⟩):P:=h
theorem zAz {P:Prop} (h:P:=by
 go_wp2;go_ret;exact⟨by rw[F.out];rfl,by have:=H1.out.below;rwa[HP.out]at this⟩):P:=h
theorem zA4 {P:Prop} (h:P:=by
 by_cases h:j<k
 ·exact HE.out j h
 ·obtain rfl:j=k:=o_
  exact EQ.out.2 eq):P:=h
theorem zBg {P:Prop} (h:P:=by
 clear EQ
 repeat (first|refine tA_ ?_|refine tB_ ?_)
 refine aD ?_;go_wp2;go_roundw
 case rel=>exact⟨k+1,o_,gn_,HE2.out,H2.out⟩
 case measure=>simp[intOf];omega):P:=h
theorem zBA {P:Prop} (h:P:=by
 rw[mL]
 by_cases h:j=i
 ·subst h
  rw[if_pos ⟨rfl,by omega⟩,if_pos rfl]
 ·rw[if_neg (fun q=>h (by omega)),if_neg h]):P:=h
theorem zBF {P:Prop} (h:P:=by
 rcases List.mem_append.1 hu with hu|hu
 ·exact P.things _ lm u hu
 ·rw[List.mem_singleton.1 hu];exact ht):P:=h
end Go.Proofs.YtcblbdpdbggkbaaGreat
namespace Go.Proofs.YtcblbdpdbggkbaaGreat.N
open _root_.Go.Proofs.Tryz
open Go.RowKit Go.Sort
theorem bH {x a b:Int}:in6 x a b=true↔a<=x/\x<=b:=decide_eq_true_iff
def mO (a b:Sm):Bool:=decide (a.rs=b.rs)&&(decide (a.zs=b.zs)&&(decide (a.ps=b.ps)&&(decide (a.lo=b.lo)&&(decide (a.al=b.al)&&(decide (a.ks=b.ks)&&decide (a.ka=b.ka))))))
theorem qD {a b:Sm}:mO a b=true↔a=b:=by
 unfold mO;simp only[Bool.and_eq_true,decide_eq_true_eq]
 constructor
 ·rintro⟨h1,h2,h3,h4,h5,h6,h7⟩
  cases a;cases b;simp only at h1 h2 h3 h4 h5 h6 h7;rw[h1,h2,h3,h4,h5,h6,h7]
 ·rintro rfl
  exact⟨rfl,rfl,rfl,rfl,rfl,rfl,rfl⟩
def eS (n:Nt) (e:En):Bool:=in6 e.node 0 4&&(in6 e.born 1 (aA n e.node).born&&(in6 e.num 0 (aN n e.node e.born).length&&(okS (upS ((aN n e.node e.born).take e.num.toNat))&&mO (upS ((aN n e.node e.born).take e.num.toNat)) e.s)))
theorem qN {n:Nt} {e:En}:eS n e=true↔tF n e:=by
 unfold eS;simp only[Bool.and_eq_true,bH,qD];exact⟨fun⟨a,b,c,d,f⟩=>⟨a,b,c,d,f.symm⟩,fun⟨a,b,c,d,f⟩=>⟨a,b,c,d,f.symm⟩⟩
def aLk:List En->Bool
 |x::y::l=>decide (x.node<y.node)&&aLk (y::l)
 |_=>true
theorem aEE:∀{es:List En},aLk es=true↔es.Pairwise gV
 | []=>⟨fun _=>List.Pairwise.nil,fun _=>rfl⟩
 | [x]=>⟨fun _=>List.pairwise_singleton _ _,fun _=>rfl⟩
 |x::y::l=>by
  unfold aLk;rw[Bool.and_eq_true,decide_eq_true_eq,aEE (es:=y::l),List.pairwise_cons (a:=x)]
  constructor
  ·rintro⟨h,k⟩
   refine⟨fun z hz=>?_,k⟩;rcases List.mem_cons.1 hz with rfl|hz
   ·exact h
   ·have:=(List.pairwise_cons.1 k).1 z hz
    unfold gV at this ⊢;omega
  ·rintro⟨h,k⟩
   exact⟨h y (List.mem_cons_self ..),k⟩
def dY (n:Nt) (es:List En):Bool:=es.all (eS n)&&aLk es
theorem lE {n:Nt} {es:List En}:dY n es=true↔jP n es:=by
 unfold dY;rw[Bool.and_eq_true,List.all_eq_true,aEE];exact⟨fun⟨a,b⟩=>⟨fun e he=>qN.1 (a e he),b⟩,fun⟨a,b⟩=>⟨fun e he=>qN.2 (a e he),b⟩⟩
def lO (l:List Int):Bool:=l.all (fun t=>in6 t 0 63)&&decide (l.length<=100)
def lD (n:Nt) (i:Int):Bool:=decide (((aO n i).length:Int)=(aA n i).born+1)&&(decide ((aN n i 0).length=0)&&(aO n i).all lO)
theorem xT {n:Nt} {i:Int}:lD n i=true↔aJd n i:=by
 unfold lD lO;simp only[Bool.and_eq_true,decide_eq_true_eq,List.all_eq_true,bH];exact⟨fun⟨a,b,c⟩=>⟨a,List.eq_nil_of_length_eq_zero b,fun l hl=>(c l hl).2,fun l hl=>(c l hl).1⟩,fun⟨a,b,c,d⟩=>⟨a,by rw[b];rfl,fun l hl=>⟨d l hl,c l hl⟩⟩⟩
def wL (n:Nt) (i:Int):Bool:=match bM (aA n i).known i with
 |some e=>decide (e.born=(aA n i).born)&&decide (e.num=(aN n i (aA n i).born).length)
 |none=>false
theorem aBe {n:Nt} {i:Int}:wL n i=true↔aGP n i:=by
 unfold wL aGP;cases h:bM (aA n i).known i with
 |none=>simp
 |some e=>simp
def aDM (n:Nt) (i:Int):Bool:=
 if i=0 then decide ((aA n i).level=0)&&(decide ((aA n i).up= -1)&&decide (0<=(aA n i).beacon))
 else in6 (aA n i).beacon 0 (aA n 0).beacon&&(in6 (aA n i).level 1 5&&(decide ((aA n i).up= -1↔(aA n i).level=5)&&(in6 (aA n i).up (-1) 4&&decide ((aA n i).up≠i))))
theorem tB {n:Nt} {i:Int}:aDM n i=true↔aLD n i:=by
 unfold aDM
 by_cases h:i=0
 ·subst h
  rw[if_pos rfl];simp only[Bool.and_eq_true,decide_eq_true_eq];exact⟨fun⟨a,b,c⟩=>⟨⟨c,Int.le_refl _⟩,fun _=>⟨a,b⟩,fun q=>absurd rfl q,fun q=>absurd rfl q,fun q=>absurd rfl q⟩,fun W=>⟨(W.root rfl).1,(W.root rfl).2,W.beacon.1⟩⟩
 ·rw[if_neg h]
  simp only[Bool.and_eq_true,decide_eq_true_eq,bH];exact⟨fun⟨a,b,c,d,e⟩=>⟨a,fun q=>absurd q h,fun _=>b,fun _=>c,fun _=>⟨d,e⟩⟩,fun W=>⟨W.beacon,W.level h,W.none h,(W.up h).1,(W.up h).2⟩⟩
def nQ (n:Nt) (i:Int):Bool:=wL n i&&(dY n (aA n i).known&&aDM n i)
def aCF (w:Wd):Bool:=in6 w.src 0 4&&(in6 w.dst 0 4&&decide (w.src≠w.dst))
def iT (n:Nt) (w:Wd):Bool:=
 if w.kind=1 then aCF w&&(in6 w.beacon 0 (aA n 0).beacon&&(in6 w.level 0 4&&decide (w.known.length=0)))
 else if w.kind=2 then aCF w&&(decide (w.beacon=0)&&(decide (w.level=0)&&dY n w.known))
 else false
theorem xJ {n:Nt} {w:Wd}:iT n w=true↔gH n w:=by
 unfold iT aCF
 by_cases h:w.kind=1
 ·rw[if_pos h]
  simp only[Bool.and_eq_true,decide_eq_true_eq,bH];refine⟨fun⟨⟨a,b,c⟩,d,e,f⟩=>⟨a,b,c,.inl ⟨h,d,e,List.eq_nil_of_length_eq_zero f⟩⟩,fun W=>⟨⟨W.src,W.dst,W.other⟩,?_⟩⟩;rcases W.kind with ⟨_,d,e,f⟩|⟨k,_⟩
  ·exact⟨d,e,by rw[f];rfl⟩
  ·omega
 ·rw[if_neg h]
  by_cases k:w.kind=2
  ·rw[if_pos k]
   simp only[Bool.and_eq_true,decide_eq_true_eq,bH,lE];refine⟨fun⟨⟨a,b,c⟩,d,e,f⟩=>⟨a,b,c,.inr ⟨k,d,e,f⟩⟩,fun W=>⟨⟨W.src,W.dst,W.other⟩,?_⟩⟩;rcases W.kind with ⟨q,_⟩|⟨_,d,e,f⟩
   ·exact absurd q h
   ·exact⟨d,e,f⟩
  ·rw[if_neg k]
   refine⟨fun c=>(by cases c),fun W=>?_⟩;rcases W.kind with ⟨q,_⟩|⟨q,_⟩
   ·exact absurd q h
   ·exact absurd q k
def aB8 (n:Nt):Bool:=decide (n.nodes.length=5)&&(decide (n.past.length=5)&&(decide (n.links.length=25)&&decide (n.words.length<=24)))
def oT (n:Nt) (a:Int):Bool:=in6 (aA n a).born 1 20&&(lD n a&&((whole n a a==false)&&(List.range a.toNat).all fun b=>whole n a (b:Int)==whole n (b:Int) a))
def jF (n:Nt):Bool:=aB8 n&&((List.range 5).all (fun a:Nat=>oT n a)&&((List.range 5).all (fun i:Nat=>nQ n i)&&(n.words.all (iT n)&&in6 (aA n 0).beacon 0 1000)))
theorem aL7 {P:Int->Prop}:(∀a ∈ List.range 5,P (a:Nat))↔∀i,aE i->P i:=by
 constructor
 ·intro h i hi
  unfold aE at hi;have:=h i.toNat (List.mem_range.2 (by omega));rwa[show ((i.toNat:Nat):Int)=i by omega]at this
 ·intro h a ha
  have:=List.mem_range.1 ha;exact h a ⟨by omega,by omega⟩
theorem hZ {n:Nt}:jF n=true↔aM n:=by
 unfold jF;simp only[Bool.and_eq_true,List.all_eq_true];rw[aL7 (P:=fun i=>oT n i=true),aL7 (P:=fun i=>nQ n i=true)];unfold aB8 oT nQ;simp only[Bool.and_eq_true,decide_eq_true_eq,bH,xT,List.all_eq_true,beq_iff_eq,List.mem_range,aBe,lE,tB,xJ]
 constructor
 ·rintro⟨⟨h1,h2,h3,h4⟩,h5,h6,h7,h8⟩
  have either:∀i j,aE i->aE j->j<i->whole n i j=whole n j i:=fun i j hi hj l=>by
   have:=(h5 i hi).2.2.2 j.toNat (by unfold aE at hi hj;omega);rwa[show ((j.toNat:Nat):Int)=j by unfold aE at hj;omega]at this
  refine⟨h1,h2,h3,h4,fun i hi=>(h5 i hi).1,fun i hi=>(h5 i hi).2.1,fun i hi=>(h5 i hi).2.2.1,fun i j hi hj=>?_,fun i hi=>(h6 i hi).1,fun i hi=>(h6 i hi).2.1,fun i hi=>(h6 i hi).2.2,h7,h8.2⟩;rcases (by omega:j<i\/i=j\/i<j)with l|l|l
  ·exact either i j hi hj l
  ·rw[l]
  ·exact (either j i hj hi l).symm
 ·intro h
  refine⟨⟨h.nodes,h.past,h.links,h.words⟩,fun i hi=>⟨h.born i hi,h.pasts i hi,h.self i hi,fun b hb=>h.either i b hi ?_⟩,fun i hi=>⟨h.own i hi,h.known i hi,h.way i hi⟩,h.word,(h.way 0 ⟨by omega,by omega⟩).beacon.1,h.beacon⟩;unfold aE at hi ⊢;omega
theorem aAa {α:Type} {l:List α} {k:Nat} {a:α} (h:l[k]? =some a):l.drop k=a::l.drop (k+1):=by
 obtain⟨hk,rfl⟩:=List.getElem?_eq_some_iff.1 h;exact List.drop_eq_getElem_cons hk
theorem lX {α:Type} {l:List α} {k:Nat} {a:α} (h:l[k]? =some a):l.take (k+1)=l.take k++[a]:=by
 rw[List.take_add_one,h];rfl
theorem aC3 {es:List En} {i:Int} {k:Nat} {e:En} (no:∀(j:Nat) (x:En),j<k->es[j]? =some x->x.node≠i) (h:es[k]? =some e) (q:e.node=i):bM es i=some e:=by
 rw[<-List.take_append_drop k es,aAa h];unfold bM;rw[List.find?_append];have n:(es.take k).find? (fun x=>x.node==i)=none:=by
  rw[List.find?_eq_none];intro x hx;obtain⟨j,hj,rfl⟩:=List.getElem_of_mem hx;rw[List.length_take]at hj;rw[List.getElem_take];have:=no j _ (by omega) (List.getElem?_eq_getElem (by omega));simpa using this
 rw[n,List.find?_cons];simp[q]
theorem aDC {es:List En} {i:Int} (no:∀(j:Nat) (x:En),es[j]? =some x->x.node≠i):bM es i=none:=aCz fun x hx=>by
 obtain⟨j,hj,rfl⟩:=List.getElem_of_mem hx;exact no j _ (List.getElem?_eq_getElem hj)
theorem yP {n:Nt} {es:List En}:dY n es=true↔∀(i:Nat) (e:En),es[i]? =some e->eS n e=true/\(0<i->∀d:En,es[i - 1]? =some d->d.node<e.node):=by
 rw[lE]
 constructor
 ·intro h i e hi
  refine⟨qN.2 (h.all e (List.mem_of_getElem? hi)),fun i0 d hd=>?_⟩;obtain⟨a,rfl⟩:=List.getElem?_eq_some_iff.1 hi;obtain⟨b,rfl⟩:=List.getElem?_eq_some_iff.1 hd;exact List.pairwise_iff_getElem.1 h.asc (i - 1) i b a (by omega)
 ·intro h
  refine⟨fun e he=>?_,?_⟩
  ·obtain⟨i,hi⟩:=List.getElem?_of_mem he
   exact qN.1 (h i e hi).1
  ·refine List.pairwise_iff_getElem.2 fun i j hi hj ij=>?_
   have key:∀k,i<k->(hk:k<es.length)->es[i].node<es[k].node:=by
    intro k
    induction k with
    |zero=>intro c;omega
    |succ k ih=>
     intro c hk;have s:=(h (k+1) _ (List.getElem?_eq_getElem hk)).2 (by omega) es[k] (List.getElem?_eq_getElem (by omega))
     by_cases q:i=k
     ·subst q;exact s
     ·have:=ih (by omega) (by omega);omega
   exact key j ij hj
theorem nI {n:Nt} {es:List En} {i:Nat} {e:En} (hi:es[i]? =some e) (h:eS n e=false\/(0<i/\∃d:En,es[i - 1]? =some d/\e.node<=d.node)):dY n es=false:=by
 rw[Bool.eq_false_iff];intro c;obtain⟨c1,c2⟩:=yP.1 c i e hi;rcases h with h|⟨i0,d,hd,l⟩
 ·rw[h]at c1;cases c1
 ·have:=c2 i0 d hd;omega
theorem wQ {α:Type} {p:α->Bool} {l:List α}:l.all p=true↔∀(i:Nat) (a:α),l[i]? =some a->p a=true:=by
 rw[List.all_eq_true];exact⟨fun h i a hi=>h a (List.mem_of_getElem? hi),fun h a ha=>by
    obtain⟨i,hi⟩:=List.getElem?_of_mem ha
    exact h i a hi⟩
theorem mA {α:Type} {p:α->Bool} {l:List α} {i:Nat} {a:α} (hi:l[i]? =some a) (h:p a=false):l.all p=false:=by
 rw[Bool.eq_false_iff];intro c;rw[wQ.1 c i a hi]at h;cases h
end Go.Proofs.YtcblbdpdbggkbaaGreat.N
namespace Go.Proofs.YtcblbdpdbggkbaaGreat
open _root_.Go.Proofs.Tryz
open Go.RowKit Go.Sort
namespace N
theorem aDc:∀{pre rest:List En} {e:En},(∀x ∈ pre,x.node<e.node)->fP (pre++rest) e=pre++fP rest e
 | [],_,_,_=>rfl
 |x::pre,rest,e,h=>by
  rw[List.cons_append]
  conv=>lhs;unfold fP
  rw[if_pos (h x List.mem_cons_self),aDc (fun y hy=>h y (List.mem_cons_of_mem _ hy))]
  rfl
theorem aGu:∀(es:List En) (e:En),(fP es e).length<=es.length+1
 | [],e=>by unfold fP;simp
 |x::xs,e=>by
  have:=aGu xs e;unfold fP
  split
  ·simp;omega
  ·split<;>simp
theorem aEL {B:Nat} {w0 w:World} {l:List Ch} {x:Option Addr} {k cx:Nat} {es:List En} {V:SV} {e:En} (h:M B w0 w (eQ (.slice x k cx) es::aHi V e::l)) (hl:es.length<=1048576):
  Calls prog 319 #[.slice x k cx,.agg #[iv e.node,iv e.born,iv e.num,.slice V.xr V.nr V.cr,.slice V.xf V.nf V.cf,.slice V.xt V.nt V.ct,.int .i64 (e.s).lo,.int .i64 (e.s).al,.slice V.xk V.nk V.ck,.int .i64 (e.s).ka]] w fun r w'=>∃y c,r=.returned (.slice y (fP es e).length c)/\M B w0 w' (eQ (.slice y (fP es e).length c) (fP es e)::l):=by
 obtain⟨x',c',ev,_,cm⟩:=h.form;cases ev;obtain⟨c,h1⟩:=M.loose aP h;have h2:=((h1.alloc #[iv e.node,iv e.born,iv e.num,.slice V.xr V.nr V.cr,.slice V.xf V.nf V.cf,.slice V.xt V.nt V.ct,.int .i64 (e.s).lo,.int .i64 (e.s).al,.slice V.xk V.nk V.ck,.int .i64 (e.s).ka] 64).alloc #[] 64).empty aP 10;simp only[World.size_alloc]at h2;obtain⟨p1,hp1⟩:=nm_ w.heap.size
 obtain⟨p2,hp2⟩:=nm_ (w.heap.size+1);obtain⟨W0,hW0⟩:=nm_ ((w.alloc (.cells #[iv e.node,iv e.born,iv e.num,.slice V.xr V.nr V.cr,.slice V.xf V.nf V.cf,.slice V.xt V.nt V.ct,.int .i64 (e.s).lo,.int .i64 (e.s).al,.slice V.xk V.nk V.ck,.int .i64 (e.s).ka] 64)).alloc (.cells #[] 64));rw[<-hW0, <-hp2, <-hp1]at h2
 have H0:=hd_ (show M B w0 W0 (eQ (.slice (some ⟨p2,0,none⟩) 0 0) []::aHi V e::nY 0 (.slice x es.length cx) es c::aL p1 64 #[iv e.node,iv e.born,iv e.num,.slice V.xr V.nr V.cr,.slice V.xf V.nf V.cf,.slice V.xt V.nt V.ct,.int .i64 (e.s).lo,.int .i64 (e.s).al,.slice V.xk V.nk V.ck,.int .i64 (e.s).ka]::l)from h2.p2.p3.p2);clear h h1 h2;obtain⟨n,hn⟩:=nm_ es.length;rw[<-hn]at H0 hl ⊢
 have HN:=hd_ hn;clear hn;unfold maxLen at cm;go_enter func319,ntmps319;go_upto_region 2 with fail
 rw[<-hW0, <-hp2, <-hp1];clear hW0 hp2 hp1;go_wp2
 go_loopw [5,6,7] (fun y d z wr=>∃(j m cy:Nat) (xy:Option Addr) (os:List En),j<=n/\z=.int .i64 (j:Int)/\y=.slice xy m cy/\m=os.length/\m<=j+1/\((d=.bool false/\os=es.take j/\(∀q ∈ es.take j,q.node<e.node)/\M B w0 wr (eQ (.slice xy m cy) os::aHi V e::nY j (.slice x n cx) es c::aL p1 64 #[iv e.node,iv e.born,iv e.num,.slice V.xr V.nr V.cr,.slice V.xf V.nf V.cf,.slice V.xt V.nt V.ct,.int .i64 (e.s).lo,.int .i64 (e.s).al,.slice V.xk V.nk V.ck,.int .i64 (e.s).ka]::l))\/(d=.bool true/\fP es e=os++es.drop j/\M B w0 wr (eQ (.slice xy m cy) os::nY j (.slice x n cx) es c::aL p1 64 #[iv e.node,iv e.born,iv e.num,.slice V.xr V.nr V.cr,.slice V.xf V.nf V.cf,.slice V.xt V.nt V.ct,.int .i64 (e.s).lo,.int .i64 (e.s).al,.slice V.xk V.nk V.ck,.int .i64 (e.s).ka]::l)))) (fun _ _ z _=>n - (intOf z).toNat)
 case atStart=>exact⟨0,0,0,_,[],Nat.zero_le _,rfl,rfl,rfl,o_,.inl ⟨rfl,rfl,fun q hq=>by simp at hq,H0.out⟩⟩
 case round=>
  clear H0;obtain⟨j,m,cy,xy,os,hj,rfl,rfl,hm,mj,hcase⟩:=hrel;have HM:=hd_ hm;clear hm;rcases hcase with ⟨rfl,ho,hpre,hM⟩|⟨rfl,hput,hM⟩
  case inr=>
   have H:=hd_ hM;have HP:=hd_ hput;clear hM hput
   by_cases hlt:j<n
   case neg=>
    obtain rfl:j=n:=o_;have EQ:Hid (fP es e=os):=hd_ (by rw[HP.out,HN.out,List.drop_length,List.append_nil]);have EL:Hid (m=(fP es e).length):=hd_ (by rw[EQ.out];exact HM.out);go_wp2;go_ret;exact⟨xy,cy,by rw[<-EL.out];rfl,by rw[<-EL.out,EQ.out];exact H.out.p1.drop.p1.drop⟩
   obtain⟨a,ha⟩:∃a,es[j]? =some a:=⟨_,List.getElem?_eq_getElem (by have:=HN.out;omega)⟩
   have DR:=hd_ (aAa ha);have j0:(0:Int)<=(j:Int):=o_;have j1:(j:Int)<(n:Int):=o_;go_wp2;refine aC 99 (.tk 0 12 .done) (fun _=>True) kr_ kr_ (fun _ _ _ _ _ h=>h) trivial ?_
   repeat (first|refine tC_ ?_|refine tB_ ?_)
   refine aD ?_;have h0:=H.out.drew;obtain⟨W,hW⟩:=nm_ wr.drew;rw[<-hW]at h0 ⊢;clear hW H;obtain⟨g,cap,U,ev,hp,a0,a1,a2,a3,a4,a5,a6,a7,a8,a9⟩:=M.pullE h0.p1 ha;obtain⟨e1,_,e2⟩:=Value.slice.inj ev;cases e1;cases e2
   have H2:=hd_ (hp.p2.alloc #[iv a.node,iv a.born,iv a.num,.slice U.xr U.nr U.cr,.slice U.xf U.nf U.cf,.slice U.xt U.nt U.ct,.int .i64 (a.s).lo,.int .i64 (a.s).al,.slice U.xk U.nk U.ck,.int .i64 (a.s).ka] 64);clear hp h0 ha
   go_wp2_with (at_builtin;go_loud (refine dA aC2 gT H2.out rfl rfl rfl rfl (by rw[<-HM.out];unfold maxLen;omega) (by rw[<-HM.out];omega) (N:=m+1) (by rw[<-HM.out]) ?_);intro y3 c3 w4 h6;have H6:=hd_ h6;clear h6 H2 a0 a1 a2 a3 a4 a5 a6 a7 a8 a9)
   go_roundw
   case rel=>exact⟨j+1,m+1,c3,y3,os++[a],o_,gn_,rfl,by rw[List.length_append, <-HM.out];rfl,o_,.inr ⟨rfl,by rw[List.append_assoc,List.singleton_append, <-DR.out];exact HP.out,H6.out⟩⟩
   case measure=>simp[intOf];omega
  case inl=>
   have H:=hd_ hM;have HO:=hd_ ho;have PRE:=hd_ hpre;clear hM ho hpre;replace mj:m<=j:=by rw[HM.out,HO.out,List.length_take];omega
   by_cases hlt:j<n
   case neg=>
    obtain rfl:j=n:=o_;have EO:Hid (os=es):=hd_ (by rw[HO.out,HN.out,List.take_length]);have EQ:Hid (fP es e=os++[e]):=hd_ (by
          have h1:=aDc (pre:=es.take j) (rest:=es.drop j) (e:=e) PRE.out
          rw[List.take_append_drop,HN.out,List.drop_length,List.take_length]at h1
          rw[h1,EO.out];rfl)
    have EL:Hid (m+1=(fP es e).length):=hd_ (by rw[EQ.out,List.length_append, <-HM.out];rfl);obtain⟨d0,d1,d2,d3,d4,d5,d6,d7,d8,d9⟩:=H.out.p3.cells10;have H2:=hd_ (H.out.alloc #[iv e.node,iv e.born,iv e.num,.slice V.xr V.nr V.cr,.slice V.xf V.nf V.cf,.slice V.xt V.nt V.ct,.int .i64 (e.s).lo,.int .i64 (e.s).al,.slice V.xk V.nk V.ck,.int .i64 (e.s).ka] 64);clear H
    go_wp2_with (at_builtin;go_loud (refine dA aC2 gT H2.out rfl rfl rfl rfl (by rw[<-HM.out];unfold maxLen;omega) (by rw[<-HM.out];omega) (N:=m+1) (by rw[<-HM.out]) ?_);intro y3 c3 w4 h6;have H6:=hd_ h6.p1.drop.p1.drop;clear h6 H2 d0 d1 d2 d3 d4 d5 d6 d7 d8 d9)
    go_ret;exact⟨y3,c3,by rw[<-EL.out];rfl,by rw[<-EL.out,EQ.out];exact H6.out⟩
   obtain⟨a,ha⟩:∃a,es[j]? =some a:=⟨_,List.getElem?_eq_getElem (by have:=HN.out;omega)⟩
   have DR:=hd_ (aAa ha);have TK:=hd_ (lX ha);have PP:Hid (fP es e=os++fP (a::es.drop (j+1)) e):=hd_ (by
        have h1:=aDc (pre:=es.take j) (rest:=es.drop j) (e:=e) PRE.out
        rw[List.take_append_drop,DR.out, <-HO.out]at h1
        exact h1)
   have j0:(0:Int)<=(j:Int):=o_;have j1:(j:Int)<(n:Int):=o_;obtain⟨g,cap,ev,b0,b1,b2⟩:=M.peekE H.out.p2 lr_ ha;obtain⟨e1,_,e2⟩:=Value.slice.inj ev;cases e1;cases e2;obtain⟨d0,d1,d2,d3,d4,d5,d6,d7,d8,d9⟩:=H.out.p3.cells10;have HA:=hd_ ha;have S0:Hid (aH wr (jJ p1 e.node e.born e.num V e.s++[(⟨g,j * 10,none⟩,.int .i64 a.node)])):=hd_ ⟨d0,d1,d2,d3,d4,d5,d6,d7,d8,d9,b0,trivial⟩
   have S1:=hd_ (S0.out.below (Below.drew (Below.refl _ _)));clear ha d0 d1 d2 d3 d4 d5 d6 d7 d8 d9 b0 b1 b2
   by_cases hge:e.node<=a.node
   case neg=>
    have PL:Hid (∀q ∈ es.take (j+1),q.node<e.node):=hd_ (by
          rw[TK.out]
          intro q hq
          rcases List.mem_append.1 hq with hq|hq
          · exact PRE.out q hq
          · rw[List.mem_singleton.1 hq];omega)
    go_wp2;refine aC 99 (.tk 0 12 .done) (fun w'=>aH w' (jJ p1 e.node e.born e.num V e.s++[(⟨g,j * 10,none⟩,.int .i64 a.node)])) kr_ kr_ (fun _ _ _ _ _ h=>h) (S0.out.below (Below.drew (Below.refl _ _))) ?_
    repeat (first|refine tC_ ?_|refine tB_ ?_)
    refine aD ?_;obtain⟨W,hW⟩:=nm_ wr.drew;have h0:=H.out.drew;rw[<-hW]at h0 ⊢;clear hW H S0 S1;obtain⟨g',cap',U,ev,hp,a0,a1,a2,a3,a4,a5,a6,a7,a8,a9⟩:=M.pullE h0.p2 HA.out;obtain⟨e1,_,e2⟩:=Value.slice.inj ev;cases e1;cases e2
    have H2:=hd_ (hp.p2.alloc #[iv a.node,iv a.born,iv a.num,.slice U.xr U.nr U.cr,.slice U.xf U.nf U.cf,.slice U.xt U.nt U.ct,.int .i64 (a.s).lo,.int .i64 (a.s).al,.slice U.xk U.nk U.ck,.int .i64 (a.s).ka] 64);clear hp h0
    go_wp2_with (at_builtin;go_loud (refine dA aC2 gT H2.out rfl rfl rfl rfl (by rw[<-HM.out];unfold maxLen;omega) (by rw[<-HM.out];omega) (N:=m+1) (by rw[<-HM.out]) ?_);intro y3 c3 w4 h6;have H6:=hd_ h6.p2.p1;clear h6 H2 a0 a1 a2 a3 a4 a5 a6 a7 a8 a9)
    go_roundw
    case rel=>exact⟨j+1,m+1,c3,y3,os++[a],o_,gn_,rfl,by rw[List.length_append, <-HM.out];rfl,o_,.inl ⟨rfl,by rw[TK.out,HO.out],PL.out,H6.out⟩⟩
    case measure=>simp[intOf];omega
   by_cases heq:a.node=e.node
   case neg=>
    have g1:(a.node==e.node)=false:=by simpa using heq
    have PQ:Hid (fP es e=(os++[e])++es.drop j):=hd_ (by
          rw[PP.out,DR.out]
          conv=>lhs;unfold fP
          rw[if_neg o_,if_neg heq]
          simp)
    clear heq;go_wp2;refine aC 99 (.tk 0 12 .done) (fun w'=>aH w' (jJ p1 e.node e.born e.num V e.s++[(⟨g,j * 10,none⟩,.int .i64 a.node)])) kr_ kr_ (fun _ _ _ _ _ h=>h) (S0.out.below (Below.drew (Below.refl _ _))) ?_
    repeat (first|refine tC_ ?_|refine tB_ ?_)
    refine aD ?_;go_wp2;refine aC 99 (.tk 0 8 .done) (fun w'=>aH w' (jJ p1 e.node e.born e.num V e.s++[(⟨g,j * 10,none⟩,.int .i64 a.node)])) kr_ kr_ (fun _ _ _ _ _ h=>h) (S1.out.below (Below.drew (Below.refl _ _))) ?_
    repeat (first|refine tC_ ?_|refine tB_ ?_)
    refine aD ?_;obtain⟨W,hW⟩:=nm_ wr.drew.drew;have h0:=H.out.drew.drew;rw[<-hW]at h0 ⊢;clear hW H S0 S1;obtain⟨d0,d1,d2,d3,d4,d5,d6,d7,d8,d9⟩:=h0.p3.cells10;have H2:=hd_ (h0.alloc #[iv e.node,iv e.born,iv e.num,.slice V.xr V.nr V.cr,.slice V.xf V.nf V.cf,.slice V.xt V.nt V.ct,.int .i64 (e.s).lo,.int .i64 (e.s).al,.slice V.xk V.nk V.ck,.int .i64 (e.s).ka] 64);clear h0
    obtain⟨m1,hm1⟩:=nm_ (m+1);have M1:=hd_ hm1;clear hm1;go_upto_region 13 with (at_builtin;go_loud (refine dA aC2 gT H2.out rfl rfl rfl rfl (by rw[<-HM.out];unfold maxLen;omega) (by rw[<-HM.out];omega) (N:=m1) (by rw[<-HM.out,M1.out]) ?_);intro y3 c3 w4 h6;have H6:=hd_ h6;clear h6 H2 d0 d1 d2 d3 d4 d5 d6 d7 d8 d9)
    have HM1:Hid (m1=(os++[e]).length):=hd_ (by rw[List.length_append,M1.out, <-HM.out];rfl);have mj1:m1<=j+1:=by have:=M1.out;omega
    generalize hos:os++[e]=ot at H6 HM1 PQ;clear hos M1 HM mj;obtain⟨g',cap',U,ev,hp,a0,a1,a2,a3,a4,a5,a6,a7,a8,a9⟩:=M.pullE H6.out.p1 HA.out;obtain⟨e1,_,e2⟩:=Value.slice.inj ev;cases e1;cases e2
    have H2:=hd_ (hp.p2.alloc #[iv a.node,iv a.born,iv a.num,.slice U.xr U.nr U.cr,.slice U.xf U.nf U.cf,.slice U.xt U.nt U.ct,.int .i64 (a.s).lo,.int .i64 (a.s).al,.slice U.xk U.nk U.ck,.int .i64 (a.s).ka] 64);clear hp H6
    go_wp2_with (at_builtin;go_loud (refine dA aC2 gT H2.out rfl rfl rfl rfl (by rw[<-HM1.out];unfold maxLen;omega) (by rw[<-HM1.out];omega) (N:=m1+1) (by rw[<-HM1.out]) ?_);intro y3 c3 w4 h6;have H6:=hd_ h6;clear h6 H2 a0 a1 a2 a3 a4 a5 a6 a7 a8 a9)
    go_roundw
    case rel=>exact⟨j+1,m1+1,c3,y3,ot++[a],o_,gn_,rfl,by rw[List.length_append, <-HM1.out];rfl,o_,.inr ⟨rfl,by rw[List.append_assoc,List.singleton_append, <-DR.out];exact PQ.out,H6.out⟩⟩
    case measure=>simp[intOf];omega
   have g1:(a.node==e.node)=true:=by simpa using heq
   have PQ:Hid (fP es e=os++(if jM e a=true then e else a)::es.drop (j+1)):=hd_ (by
        rw[PP.out]
        conv=>lhs;unfold fP
        rw[if_neg o_,if_pos heq])
   clear heq;go_wp2;refine aC 99 (.tk 0 12 .done) (fun w'=>aH w' (jJ p1 e.node e.born e.num V e.s++[(⟨g,j * 10,none⟩,.int .i64 a.node)])) kr_ kr_ (fun _ _ _ _ _ h=>h) (S0.out.below (Below.drew (Below.refl _ _))) ?_
   repeat (first|refine tC_ ?_|refine tB_ ?_)
   refine aD ?_;go_wp2;refine aC 99 (.tk 0 8 .done) (fun w'=>aH w' (jJ p1 e.node e.born e.num V e.s++[(⟨g,j * 10,none⟩,.int .i64 a.node)])) kr_ kr_ (fun _ _ _ _ _ h=>h) (S1.out.below (Below.drew (Below.refl _ _))) ?_
   repeat (first|refine tC_ ?_|refine tB_ ?_)
   refine aD ?_;go_wp2;obtain⟨W,hW⟩:=nm_ wr.drew.drew;have h0:=H.out.drew.drew;rw[<-hW]at h0 ⊢;clear hW H S0 S1;obtain⟨g',cap',U,ev,hp,a0,a1,a2,a3,a4,a5,a6,a7,a8,a9⟩:=M.pullE h0.p2 HA.out;obtain⟨e1,_,e2⟩:=Value.slice.inj ev;cases e1;cases e2;have SW:Hid (aH W (jJ p1 e.node e.born e.num V e.s++uB g j U a)):=hd_ (by
        obtain⟨d0,d1,d2,d3,d4,d5,d6,d7,d8,d9⟩:=h0.p3.cells10
        exact⟨d0,d1,d2,d3,d4,d5,d6,d7,d8,d9,a0,a1,a2,a3,a4,a5,a6,a7,a8,a9,trivial⟩)
   have HP:=hd_ hp;obtain⟨nb,hnb⟩:=nm_ (jM e a);have KN:=hd_ (fun W=>aFk W V U e a);rw[<-hnb]at KN PQ;clear h0 hp a0 a1 a2 a3 a4 a5 a6 a7 a8 a9 hnb;refine aC 5 (.tk 0 5 (.alt 5 .done .nomore)) (fun w'=>aH w' (jJ p1 e.node e.born e.num V e.s++uB g j U a)) kr_ kr_ (fun _ _ _ _ _ h=>h) (SW.out.below (Below.drew (Below.refl _ _))) ?_
   obtain⟨W',hW'⟩:=nm_ W.drew;have hb0:Below W.heap.size W W':=by rw[hW'];exact Below.drew (Below.refl _ _)
   rw[<-hW'];clear hW'
   repeat (first|refine tC_ ?_|refine tB_ ?_)
   refine aB r_ (fun K' hK=>?_);go_simp;refine (KN.out W').mono ?_;rintro r w5 ⟨rfl,hb⟩;have hb5:=hb0.trans (hb.mono hb0.size);have H5:=hd_ (HP.out.later hb5);have S5:=hd_ (SW.out.below hb5);refine hK _ _ (.inl rfl) ?_;clear hK K'
   try refine tP_ ?_
   clear hb hb0 hb5 KN HP SW;refine aD ?_;have hs5:=S5.out;simp only[aH,tJ,jJ,uB,and_true]at hs5;obtain⟨⟨d0,d1,d2,d3,d4,d5,d6,d7,d8,d9⟩,a0,a1,a2,a3,a4,a5,a6,a7,a8,a9⟩:=hs5;clear S5;cases nb
   case true=>
    have H2:=hd_ (H5.out.p3.p3.alloc #[iv e.node,iv e.born,iv e.num,.slice V.xr V.nr V.cr,.slice V.xf V.nf V.cf,.slice V.xt V.nt V.ct,.int .i64 (e.s).lo,.int .i64 (e.s).al,.slice V.xk V.nk V.ck,.int .i64 (e.s).ka] 64);clear H5
    go_wp2_with (at_builtin;go_loud (refine dA aC2 gT H2.out rfl rfl rfl rfl (by rw[<-HM.out];unfold maxLen;omega) (by rw[<-HM.out];omega) (N:=m+1) (by rw[<-HM.out]) ?_);intro y3 c3 w4 h6;have H6:=hd_ h6.p1.drop;clear h6 H2 a0 a1 a2 a3 a4 a5 a6 a7 a8 a9 d0 d1 d2 d3 d4 d5 d6 d7 d8 d9)
    go_roundw
    case rel=>exact⟨j+1,m+1,c3,y3,os++[e],o_,gn_,rfl,by rw[List.length_append, <-HM.out];rfl,o_,.inr ⟨rfl,by rw[List.append_assoc,List.singleton_append];exact PQ.out,H6.out⟩⟩
    case measure=>simp[intOf];omega
   case false=>
    have H2:=hd_ (H5.out.p2.alloc #[iv a.node,iv a.born,iv a.num,.slice U.xr U.nr U.cr,.slice U.xf U.nf U.cf,.slice U.xt U.nt U.ct,.int .i64 (a.s).lo,.int .i64 (a.s).al,.slice U.xk U.nk U.ck,.int .i64 (a.s).ka] 64);clear H5
    go_wp2_with (at_builtin;go_loud (refine dA aC2 gT H2.out rfl rfl rfl rfl (by rw[<-HM.out];unfold maxLen;omega) (by rw[<-HM.out];omega) (N:=m+1) (by rw[<-HM.out]) ?_);intro y3 c3 w4 h6;have H6:=hd_ h6.p2.drop;clear h6 H2 a0 a1 a2 a3 a4 a5 a6 a7 a8 a9 d0 d1 d2 d3 d4 d5 d6 d7 d8 d9)
    go_roundw
    case rel=>exact⟨j+1,m+1,c3,y3,os++[a],o_,gn_,rfl,by rw[List.length_append, <-HM.out];rfl,o_,.inr ⟨rfl,by rw[List.append_assoc,List.singleton_append];exact PQ.out,H6.out⟩⟩
    case measure=>simp[intOf];omega
def jG (p:Nat):Value:=.pointer (some ⟨p,0,none⟩)
structure oP (n:Nt):Prop where
 nodes:n.nodes.length=5
 links:n.links.length=25
 past:n.past.length=5
 words:n.words.length<=24
theorem wJ {n:Nt} (h:n.links.length=25) {a b:Int} (ha:aE a) (hb:aE b) {q:Nat} (hq:a * 5+b=q):n.links[q]? =some (whole n a b):=by
 unfold aE at ha hb;unfold whole;rw[List.getD_eq_getElem?_getD,hq,Int.toNat_natCast,List.getElem?_eq_getElem o_]
 rfl
section
variable {B:Nat} {w0 w:World} {l:List Ch} {cs:List Value}
theorem _root_.Go.Proofs.YtcblbdpdbggkbaaGreat.M.unnode {x:Nd} (h:M B w0 w (aLG cs x::l)):∃v c,cs=[.int .i64 x.born,.slice v x.known.length c,.int .i64 x.beacon,.int .i64 x.level,.int .i64 x.up]/\M B w0 w (eQ (.slice v x.known.length c) x.known::l):=by
 obtain⟨f,hf,_⟩:=h.first;obtain⟨v,e,hk⟩:=tU.1 hf;subst e;obtain⟨y,c,e,_⟩:=cM hk;subst e;exact⟨y,c,rfl,h.to fun f hf nd=>⟨f,by obtain⟨v',e',hk'⟩:=tU.1 hf;cases e';exact hk',nd,fun _ q=>q⟩⟩
end
theorem aBV {B:Nat} {w0 w:World} {l:List Ch} {p:Nat} {n:Nt} {x:Wd} {v:Value} (h:M B w0 w (cU p n::aLB [iv x.kind,iv x.src,iv x.dst,iv x.beacon,iv x.level,v] x::l)) (hl:n.links.length=25) (hw:n.words.length<=1048576) (hs:aE x.src) (hd:aE x.dst):
  Calls prog 294 #[jG p,.agg #[iv x.kind,iv x.src,iv x.dst,iv x.beacon,iv x.level,v]] w fun r w'=>r=.returned (.bool (dF n x).2)/\M B w0 w' (cU p (dF n x).1::l):=by
 obtain⟨q,hq⟩:∃q:Nat,x.src * 5+x.dst=q:=⟨(x.src * 5+x.dst).toNat,by unfold aE at hs hd;omega⟩
 have q0:(0:Int)<=(q:Int):=o_;have q1:(q:Int)<25:=by unfold aE at hs hd;omega
 have WH:=hd_ (wJ hl hs hd hq);have LK:=hd_ (fun W=>jQ W (a:=x.src) (b:=x.dst) ⟨hs.1,hs.2,hd.1,hd.2⟩ hq);obtain⟨ns,ls,ws,ps⟩:=n;obtain⟨x1,c1,x2,c2,x3,c3,x4,c4,h1⟩:=h.live;simp only at h1 hl hw WH;obtain⟨g2,e2⟩:∃g,x2=some ⟨g,0,none⟩:=by
  obtain⟨g,_,_,ev,_⟩:=M.open (aG zV) (h1.p2) (i:=0) (x:=ls[0]) (List.getElem?_eq_getElem o_);cases ev;exact⟨g,rfl⟩
 subst e2;rw[hl]at h1;have lk:=h1.p2.elem WH.out rfl;obtain⟨b,hb⟩:=nm_ (whole ⟨ns,ls,ws,ps⟩ x.src x.dst);rw[<-hb]at lk;have h2:=h1.p5.alloc #[iv x.kind,iv x.src,iv x.dst,iv x.beacon,iv x.level,v] 123;obtain⟨pw,hpw⟩:=nm_ w.heap.size;obtain⟨W0,hW0⟩:=nm_ (w.alloc (.cells #[iv x.kind,iv x.src,iv x.dst,iv x.beacon,iv x.level,v] 123));rw[<-hW0, <-hpw]at h2
 have S0:Hid (aH W0 (b4L p (.slice x1 ns.length c1) (.slice (some ⟨g2,0,none⟩) 25 c2) (.slice x3 ws.length c3) (.slice x4 ps.length c4)++(b6L pw (iv x.kind) (iv x.src) (iv x.dst) (iv x.beacon) (iv x.level) v++[(⟨g2,q,none⟩,.bool b)]))):=hd_ (by
    obtain⟨d0,d1,d2,d3,d4,d5⟩:=h2.cells6
    obtain⟨a0,a1,a2,a3⟩:=h2.p2.cells4
    exact⟨a0,a1,a2,a3,d0,d1,d2,d3,d4,d5,h2.p4.elem WH.out (by rw[hb];rfl),trivial⟩)
 have H2:=hd_ h2;have SE:=hd_ (show dF ⟨ns,ls,ws,ps⟩ x=if b=true/\ws.length<24 then (⟨ns,ls,ws++[x],ps⟩,true)else (⟨ns,ls,ws,ps⟩,false) by unfold dF;rw[hb]);clear h h1 h2 lk hb WH hs hd hq;obtain⟨nw,hnw⟩:=nm_ ws.length;rw[<-hnw]at hw S0 SE H2;have NW:=hd_ hnw;clear hnw;go_enter func294,ntmps294;go_upto_region 1 with fail
 rw[<-hW0, <-hpw];clear hW0 hpw;unfold jG;have S1:=hd_ (S0.out.below (Below.drew (Below.refl _ _)));have H3:=hd_ H2.out.drew;obtain⟨W,hW⟩:=nm_ W0.drew;rw[<-hW]at S1 H3;have EW:=hd_ hW;clear hW H2;cases b
 case false=>
  refine aC 99 (.tk 0 9 (.alt 9 (.tk 10 12 .done) .nomore)) (fun w'=>aH w' (b4L p (.slice x1 ns.length c1) (.slice (some ⟨g2,0,none⟩) 25 c2) (.slice x3 nw c3) (.slice x4 ps.length c4)++(b6L pw (iv x.kind) (iv x.src) (iv x.dst) (iv x.beacon) (iv x.level) v++[(⟨g2,q,none⟩,.bool false)]))) kr_ kr_ (fun _ _ _ _ _ h=>h) (S0.out.below (Below.drew (Below.refl _ _))) ?_
  rw[<-EW.out]
  repeat (first|refine tC_ ?_|refine tB_ ?_)
  refine aB r_ (fun K' hK=>?_);go_simp;refine (LK.out W).mono ?_;rintro r w5 ⟨rfl,rfl⟩;refine hK _ _ (.inr S1.out) ?_;clear hK K'
  try refine tP_ ?_
  repeat (first|refine tC_ ?_|refine tB_ ?_)
  refine aD ?_;go_wp2;go_ret;rw[SE.out,if_neg (by simp)];exact⟨rfl,H3.out.drop.drop.unlive⟩
 case true=>
  by_cases hlt:nw<24
  case neg=>
   have g24:(24:Int)<=(nw:Int):=o_
   refine aC 99 (.tk 0 9 (.alt 9 (.tk 10 12 .done) .nomore)) (fun w'=>aH w' (b4L p (.slice x1 ns.length c1) (.slice (some ⟨g2,0,none⟩) 25 c2) (.slice x3 nw c3) (.slice x4 ps.length c4)++(b6L pw (iv x.kind) (iv x.src) (iv x.dst) (iv x.beacon) (iv x.level) v++[(⟨g2,q,none⟩,.bool true)]))) kr_ kr_ (fun _ _ _ _ _ h=>h) (S0.out.below (Below.drew (Below.refl _ _))) ?_
   rw[<-EW.out]
   repeat (first|refine tC_ ?_|refine tB_ ?_)
   refine aB r_ (fun K' hK=>?_);go_simp;refine (LK.out W).mono ?_;rintro r w5 ⟨rfl,rfl⟩;refine hK _ _ (.inr S1.out) ?_;clear hK K'
   try refine tP_ ?_
   repeat (first|refine tC_ ?_|refine tB_ ?_)
   refine aD ?_;go_wp2;go_ret;rw[SE.out,if_neg (fun h=>hlt h.2)];exact⟨rfl,H3.out.drop.drop.unlive⟩
  have g24:¬(24:Int)<=(nw:Int):=o_
  refine aC 99 (.tk 0 9 (.alt 9 (.tk 10 12 .done) .nomore)) (fun w'=>aH w' (b4L p (.slice x1 ns.length c1) (.slice (some ⟨g2,0,none⟩) 25 c2) (.slice x3 nw c3) (.slice x4 ps.length c4)++(b6L pw (iv x.kind) (iv x.src) (iv x.dst) (iv x.beacon) (iv x.level) v++[(⟨g2,q,none⟩,.bool true)]))) kr_ kr_ (fun _ _ _ _ _ h=>h) (S0.out.below (Below.drew (Below.refl _ _))) ?_
  rw[<-EW.out]
  repeat (first|refine tC_ ?_|refine tB_ ?_)
  refine aB r_ (fun K' hK=>?_);go_simp;refine (LK.out W).mono ?_;rintro r w5 ⟨rfl,rfl⟩;refine hK _ _ (.inr S1.out) ?_;clear hK K'
  try refine tP_ ?_
  repeat (first|refine tC_ ?_|refine tB_ ?_)
  refine aD ?_;have S2:=hd_ (S1.out.below (Below.drew (Below.refl _ _)));have H4:=hd_ H3.out.drew;obtain⟨W2,hW2⟩:=nm_ W.drew;rw[<-hW2]at S2 H4;clear EW S0;have EW2:=hd_ hW2;clear hW2;go_wp2
  refine aC 12 (.tk 0 7 (.alt 7 (.alt 8 (.tk 9 3 (.alt 12 .done .nomore)) .nomore) .nomore)) (fun w'=>aH w' (b4L p (.slice x1 ns.length c1) (.slice (some ⟨g2,0,none⟩) 25 c2) (.slice x3 nw c3) (.slice x4 ps.length c4)++b6L pw (iv x.kind) (iv x.src) (iv x.dst) (iv x.beacon) (iv x.level) v)) kr_ kr_ (fun _ _ _ _ _ h=>h) (by have:=S1.out.below (Below.drew (Below.refl _ _));simp only[tJ]at this ⊢;exact⟨this.1,this.2.1⟩) ?_
  rw[<-EW2.out]
  repeat (first|refine tC_ ?_|refine tB_ ?_)
  have h5:=H4.out.p1.p5.alloc #[iv x.kind,iv x.src,iv x.dst,iv x.beacon,iv x.level,v] 123
  have CC:∀{w':World} {l':List Ch},M B w0 w' (aL p 289 #[.slice x1 ns.length c1,.slice (some ⟨g2,0,none⟩) 25 c2,.slice x3 nw c3,.slice x4 ps.length c4]::aL pw 123 #[iv x.kind,iv x.src,iv x.dst,iv x.beacon,iv x.level,v]::l')->aH w' (b4L p (.slice x1 ns.length c1) (.slice (some ⟨g2,0,none⟩) 25 c2) (.slice x3 nw c3) (.slice x4 ps.length c4)++b6L pw (iv x.kind) (iv x.src) (iv x.dst) (iv x.beacon) (iv x.level) v):=fun h=>by
   obtain⟨d0,d1,d2,d3,d4,d5⟩:=h.p1.cells6;obtain⟨a0,a1,a2,a3⟩:=h.cells4;exact⟨a0,a1,a2,a3,d0,d1,d2,d3,d4,d5,trivial⟩
  refine aB r_ (fun K hK=>?_);go_simp;refine hK _ _ (.inr (CC h5.p3.p4)) ?_;clear hK K
  try refine tP_ ?_
  refine aB r_ (fun K hK=>aAP sC (pO (T:=TY)) h5 r_ r_ r_ r_ (by rw[<-NW.out];unfold maxLen;omega) (by rw[<-NW.out];omega) (N:=nw+1) (by rw[<-NW.out]) (fun y cap w4 h6=>?_));refine hK _ _ (.inr (CC h6.p1.p2)) ?_;clear hK K
  try refine tP_ ?_
  repeat (first|refine tC_ ?_|refine tB_ ?_)
  obtain⟨a0,a1,a2,a3⟩:=h6.p2.cells4;have af:=h6.p2.free;have h7:=h6.p2.set (i:=2) (.slice y (nw+1) cap);simp only[List.setIfInBounds_toArray,List.set_cons_zero,List.set_cons_succ]at h7;have H7:=hd_ h7;clear h5 h6 h7 CC;refine aB r_ (fun K hK=>?_);go_simp;refine hK _ _ (.inl rfl) ?_;clear hK K
  try refine tP_ ?_
  refine aD ?_;obtain⟨w5,hw5⟩:=nm_ (w4.setCell ⟨p,2,none⟩ (.slice y (nw+1) cap));rw[<-hw5]at H7 ⊢;clear hw5 a0 a1 a2 a3 af;go_wp2;go_ret;rw[SE.out,if_pos (by simpa using hlt)];exact⟨rfl,(H7.out.p2.drop.p3.p3.p2).unlive⟩
section
variable {B g g2 i b k m c c2:Nat} {w0 w:World} {l:List Ch} {v:Value} {ps:List (List (List Int))} {rs:List (List Int)} {lp z:List Int} {ns:List Nd} {x:Nd} {es:List En}
theorem _root_.Go.Proofs.YtcblbdpdbggkbaaGreat.M.nodesRd (h:M B w0 w (bE v ns::l)):∃f,uM TY w [v] ns f:=let ⟨f,hf,_⟩:=h.first;⟨f,hf⟩
theorem _root_.Go.Proofs.YtcblbdpdbggkbaaGreat.M.pastRd (h:M B w0 w (dN v ps::l)):∃f,aD8 TY w [v] ps f:=let ⟨f,hf,_⟩:=h.first;⟨f,hf⟩
theorem _root_.Go.Proofs.YtcblbdpdbggkbaaGreat.M.wordsRd {ws:List Wd} (h:M B w0 w (bG v ws::l)):∃f,aBk TY w [v] ws f:=let ⟨f,hf,_⟩:=h.first;⟨f,hf⟩
theorem _root_.Go.Proofs.YtcblbdpdbggkbaaGreat.M.linksRd {ls:List Bool} (h:M B w0 w (bY v ls::l)):∃f,sK TY w [v] ls f:=let ⟨f,hf,_⟩:=h.first;⟨f,hf⟩
theorem sL {cs:List Value} (h:cs.length=1):∃u,cs=[u]:=by
 match cs,h with
 | [u],_=>exact⟨u,rfl⟩
theorem _root_.Go.Proofs.YtcblbdpdbggkbaaGreat.M.setRow (h:M B w0 w (uJ v z::dN (.slice (some ⟨g,0,none⟩) k c) ps::l)) (hi:ps[i]? =some rs) (hb:rs[b]? =some lp) (y0:w.cell? ⟨g,i,none⟩=some (.slice (some ⟨g2,0,none⟩) m c2)):
  (∃u,w.cell? ⟨g2,b,none⟩=some u)/\w.frozen? ⟨g2,b,none⟩=false/\M B w0 (w.setCell ⟨g2,b,none⟩ v) (dN (.slice (some ⟨g,0,none⟩) k c) (ps.set i (rs.set b z))::l):=by
 have li:=(List.getElem?_eq_some_iff.1 hi).1;have lb:=(List.getElem?_eq_some_iff.1 hb).1;obtain⟨g',cap,ci,ev,hc,h1⟩:=M.open bS h.p1 hi;cases ev;obtain⟨u,rfl⟩:=sL hc;have e1:=h1.p1.hcell1 li;rw[y0]at e1;cases e1;obtain⟨g'',cap2,ci2,ev2,hc2,h2⟩:=M.open (A:=uD) cK (e:=23) (size:=1) (v:=.slice (some ⟨g2,0,none⟩) m c2) (xs:=rs) h1 hb;cases ev2;obtain⟨u2,rfl⟩:=sL hc2
 have h3:=h2.p1.hset1 lb v;have h4:=(M.close (FA:=cK) (ci:=[v]) (x:=z) (h3.p3.p1.p2.drop.p1) lb)
 have e2:=h2.p1.hcell1 lb;refine⟨⟨_,e2⟩,h2.p1.hfree b,?_⟩;exact M.close (FA:=bS) (ci:=[.slice (some ⟨g2,0,none⟩) rs.length c2]) (x:=rs.set b z) h4 li
theorem _root_.Go.Proofs.YtcblbdpdbggkbaaGreat.M.p8 {a1 a2 a3 a4 a5 a6 a7 a8 a9:Ch} (h:M B w0 w (a1::a2::a3::a4::a5::a6::a7::a8::a9::l)):M B w0 w (a9::a1::a2::a3::a4::a5::a6::a7::a8::l):=h.perm (jS a9 [a1,a2,a3,a4,a5,a6,a7,a8] l)
def aDU (g k c i:Nat) (ns:List Nd) (x:Nd) (v:Value):Ch:=lB (aY (T:=TY)) 55 5 i (.slice (some ⟨g,0,none⟩) k c) ns [iv x.born,v,iv x.beacon,iv x.level,iv x.up]
theorem _root_.Go.Proofs.YtcblbdpdbggkbaaGreat.M.openKnown (h:M B w0 w (bE (.slice (some ⟨g,0,none⟩) k c) ns::l)) (hi:ns[i]? =some x):∃y cy,M B w0 w (eQ (.slice y x.known.length cy) x.known::aDU g k c i ns x (.slice y x.known.length cy)::l):=by
 obtain⟨g',cap,ci,ev,hc,h1⟩:=M.open (aY (T:=TY)) h hi;cases ev;obtain⟨y,cy,rfl,h2⟩:=M.unnode h1;exact⟨y,cy,h2⟩
theorem _root_.Go.Proofs.YtcblbdpdbggkbaaGreat.M.shutKnown {v0:Value} (h:M B w0 w (eQ v es::aDU g k c i ns x v0::l)) (hi:ns[i]? =some x):
  w.cell? ⟨g,i * 5+1,none⟩=some v0/\w.frozen? ⟨g,i * 5+1,none⟩=false/\M B w0 (w.setCell ⟨g,i * 5+1,none⟩ v) (bE (.slice (some ⟨g,0,none⟩) k c) (ns.set i { x with known:=es })::l):=by
 have li:=(List.getElem?_eq_some_iff.1 hi).1;have h3:=h.p1.hset li (j:=1) (by omega) v;exact⟨h.p1.hcell li (j:=1) rfl,h.p1.hfree _,M.close (FA:=aY (T:=TY)) (x:={ x with known:=es }) ((M.node x.born x.beacon x.level x.up (h3.p1))) li⟩
theorem _root_.Go.Proofs.YtcblbdpdbggkbaaGreat.M.setNum (h:M B w0 w (bE (.slice (some ⟨g,0,none⟩) k c) ns::l)) (hi:ns[i]? =some x) (z:Int):
  ((∃u,w.cell? ⟨g,i * 5,none⟩=some u)/\w.frozen? ⟨g,i * 5,none⟩=false/\M B w0 (w.setCell ⟨g,i * 5,none⟩ (iv z)) (bE (.slice (some ⟨g,0,none⟩) k c) (ns.set i { x with born:=z })::l))/\
  ((∃u,w.cell? ⟨g,i * 5+2,none⟩=some u)/\w.frozen? ⟨g,i * 5+2,none⟩=false/\M B w0 (w.setCell ⟨g,i * 5+2,none⟩ (iv z)) (bE (.slice (some ⟨g,0,none⟩) k c) (ns.set i { x with beacon:=z })::l))/\
  ((∃u,w.cell? ⟨g,i * 5+3,none⟩=some u)/\w.frozen? ⟨g,i * 5+3,none⟩=false/\M B w0 (w.setCell ⟨g,i * 5+3,none⟩ (iv z)) (bE (.slice (some ⟨g,0,none⟩) k c) (ns.set i { x with level:=z })::l))/\
  ((∃u,w.cell? ⟨g,i * 5+4,none⟩=some u)/\w.frozen? ⟨g,i * 5+4,none⟩=false/\M B w0 (w.setCell ⟨g,i * 5+4,none⟩ (iv z)) (bE (.slice (some ⟨g,0,none⟩) k c) (ns.set i { x with up:=z })::l)):=by
 have li:=(List.getElem?_eq_some_iff.1 hi).1;obtain⟨g',cap,ci,ev,hc,h1⟩:=M.open (aY (T:=TY)) h hi;cases ev;obtain⟨y,cy,rfl,h2⟩:=M.unnode h1;refine⟨⟨⟨_,h2.p1.hcell li (j:=0) rfl⟩,h2.p1.hfree _,?_⟩,⟨⟨_,h2.p1.hcell li (j:=2) rfl⟩,h2.p1.hfree _,?_⟩,⟨⟨_,h2.p1.hcell li (j:=3) rfl⟩,h2.p1.hfree _,?_⟩,⟨_,h2.p1.hcell li (j:=4) rfl⟩,h2.p1.hfree _,?_⟩
 ·have h3:=h2.p1.hset li (j:=0) (by omega) (iv z)
  exact M.close (FA:=aY (T:=TY)) (x:={ x with born:=z }) (M.node z x.beacon x.level x.up h3.p1) li
 ·have h3:=h2.p1.hset li (j:=2) (by omega) (iv z)
  exact M.close (FA:=aY (T:=TY)) (x:={ x with beacon:=z }) (M.node x.born z x.level x.up h3.p1) li
 ·have h3:=h2.p1.hset li (j:=3) (by omega) (iv z)
  exact M.close (FA:=aY (T:=TY)) (x:={ x with level:=z }) (M.node x.born x.beacon z x.up h3.p1) li
 ·have h3:=h2.p1.hset li (j:=4) (by omega) (iv z)
  exact M.close (FA:=aY (T:=TY)) (x:={ x with up:=z }) (M.node x.born x.beacon x.level z h3.p1) li
end
end N
end Go.Proofs.YtcblbdpdbggkbaaGreat
namespace Go.Proofs.YtcblbdpdbggkbaaGreat.N
open _root_.Go.Proofs.Tryz
open Go.RowKit Go.Sort
theorem mL {α:Type} (l:List α) (i j:Nat) (x d:α):(l.set i x).getD j d=if i=j/\i<l.length then x else l.getD j d:=by
 simp only[List.getD_eq_getElem?_getD,List.getElem?_set]
 by_cases h:i=j
 ·subst h
  by_cases q:i<l.length
  ·simp[q]
  ·simp[q,List.getElem?_eq_none (by omega:l.length<=i)]
 ·simp[h]
theorem aIQ {n:Nt} (h5:n.nodes.length=5) {i j:Int} (hi:aE i) (hj:aE j) (x:Nd) (ps:List (List (List Int))):aA { n with nodes:=n.nodes.set i.toNat x,past:=ps } j=if j=i then x else aA n j:=by
 unfold aA aE at *;show (n.nodes.set i.toNat x).getD j.toNat aMf=_
 exact zBA
theorem aIY {n:Nt} (h5:n.past.length=5) {i j:Int} (hi:aE i) (hj:aE j) (ns:List Nd) (rows:List (List Int)):aO { n with nodes:=ns,past:=n.past.set i.toNat rows } j=if j=i then rows else aO n j:=by
 unfold aO aE at *;show (n.past.set i.toNat rows).getD j.toNat []=_
 exact zBA
structure kM (n m:Nt):Prop where
 born:∀i,aE i->(aA n i).born<=(aA m i).born
 past:∀i,aE i->∀b,1<=b->b<=(aA n i).born->∃tl,aN m i b=aN n i b++tl
theorem kM.refl (n:Nt):kM n n:=⟨fun _ _=>Int.le_refl _,fun _ _ _ _ _=>⟨[],(List.append_nil _).symm⟩⟩
theorem kM.trans {a b c:Nt} (h:kM a b) (k:kM b c):kM a c:=
 ⟨fun i hi=>Int.le_trans (h.born i hi) (k.born i hi),fun i hi x h1 h2=>by
    obtain⟨t1,e1⟩:=h.past i hi x h1 h2
    obtain⟨t2,e2⟩:=k.past i hi x h1 (Int.le_trans h2 (h.born i hi))
    exact⟨t1++t2,by rw[e2,e1,List.append_assoc]⟩⟩
theorem tF.later {n m:Nt} {e:En} (h:tF n e) (L:kM n m):tF m e:=by
 obtain⟨tl,ht⟩:=L.past e.node h.node e.born h.born.1 h.born.2;have hn:=h.num;have e1:(aN m e.node e.born).take e.num.toNat=(aN n e.node e.born).take e.num.toNat:=by
  rw[ht,List.take_append_of_le_length (by omega)]
 refine⟨h.node,⟨h.born.1,Int.le_trans h.born.2 (L.born _ h.node)⟩,⟨hn.1,?_⟩,by rw[e1];exact h.ok,by rw[e1];exact h.s⟩;rw[ht,List.length_append];omega
theorem jP.later {n m:Nt} {es:List En} (h:jP n es) (L:kM n m):jP m es:=⟨fun e he=>(h.all e he).later L,h.asc⟩
theorem gH.later {n m:Nt} {w:Wd} (h:gH n w) (L:kM n m) (hb:(aA n 0).beacon<=(aA m 0).beacon):gH m w:=
 ⟨h.src,h.dst,h.other,h.kind.imp (fun⟨a,b,c⟩=>⟨a,⟨b.1,Int.le_trans b.2 hb⟩,c⟩) (fun⟨a,b,c,d⟩=>⟨a,b,c,d.later L⟩)⟩
theorem bA:aE 0:=⟨Int.le_refl _,by decide⟩
structure aJr (n:Nt) (i:Int) (x:Nd) (rows:List (List Int)):Prop where
 born:(aA n i).born<=x.born/\x.born<=20
 len:(rows.length:Int)=x.born+1
 first:rows.getD 0 []=[]
 few:∀l ∈ rows,l.length<=100
 things:∀l ∈ rows,∀t ∈ l,0<=t/\t<=63
 more:∀b:Int,1<=b->b<=(aA n i).born->∃tl,rows.getD b.toNat []=aN n i b++tl
 own:∃e,bM x.known i=some e/\e.born=x.born/\e.num=(rows.getD x.born.toNat []).length
 known:∀m,kM n m->(aA m i).born=x.born->aO m i=rows->jP m x.known
 root:i=0->(aA n 0).beacon<=x.beacon/\x.beacon<=1000/\x.level=0/\x.up= -1
 way:i≠0->(0<=x.beacon/\x.beacon<=(aA n 0).beacon)/\(1<=x.level/\x.level<=5)/\(x.up= -1↔x.level=5)/\(-1<=x.up/\x.up<=4)/\x.up≠i
def put (n:Nt) (i:Int) (x:Nd) (rows:List (List Int)):Nt:={ n with nodes:=n.nodes.set i.toNat x,past:=n.past.set i.toNat rows }
section
variable {n:Nt} {i:Int} {x:Nd} {rows:List (List Int)}
theorem dL (h:aM n) (hi:aE i) {j:Int} (hj:aE j):aA (put n i x rows) j=if j=i then x else aA n j:=aIQ h.nodes hi hj x _
theorem mK (h:aM n) (hi:aE i) {j:Int} (hj:aE j):aO (put n i x rows) j=if j=i then rows else aO n j:=aIY h.past hi hj _ rows
theorem sG (h:aM n) (hi:aE i) {j:Int} (hj:aE j) (b:Int):aN (put n i x rows) j b=if j=i then rows.getD b.toNat []else aN n j b:=by
 unfold aN;rw[mK h hi hj]
 split<;>rfl
theorem aB7 (h:aM n) (hi:aE i) (S:aJr n i x rows):kM n (put n i x rows):=by
 refine⟨fun j hj=>?_,fun j hj b h1 h2=>?_⟩
 ·rw[dL h hi hj]
  split
  ·rename_i q;subst q;exact S.born.1
  ·exact Int.le_refl _
 ·rw[sG h hi hj]
  split
  ·rename_i q;subst q;exact S.more b h1 h2
  ·exact⟨[],(List.append_nil _).symm⟩
theorem aAT (h:aM n) (hi:aE i) (S:aJr n i x rows):(aA n 0).beacon<=(aA (put n i x rows) 0).beacon:=by
 rw[dL h hi bA]
 split
 ·rename_i q;exact (S.root q.symm).1
 ·exact Int.le_refl _
theorem aDz (h:aM n) (hi:aE i) (S:aJr n i x rows):aM (put n i x rows):=by
 have L:=aB7 h hi S;have hb:=aAT h hi S;refine⟨by show (n.nodes.set _ _).length=5;rw[List.length_set];exact h.nodes,by show (n.past.set _ _).length=5;rw[List.length_set];exact h.past,h.links,h.words,?_,?_,fun j hj=>h.self j hj,fun j k hj hk=>h.either j k hj hk,?_,?_,?_,fun w hw=>(h.word w hw).later L hb,?_⟩
 ·intro j hj
  have:=h.born j hj;have b:=S.born;rw[dL h hi hj]
  split
  ·rename_i q;subst q;exact⟨by omega,b.2⟩
  ·exact this
 ·intro j hj
  have P:=h.pasts j hj
  by_cases q:j=i
  ·subst q
   refine⟨?_,?_,?_,?_⟩
   ·rw[mK h hi hj,dL h hi hj,if_pos rfl,if_pos rfl];exact S.len
   ·rw[sG h hi hj,if_pos rfl];exact S.first
   ·rw[mK h hi hj,if_pos rfl];exact S.few
   ·rw[mK h hi hj,if_pos rfl];exact S.things
  ·refine⟨?_,?_,?_,?_⟩
   ·rw[mK h hi hj,dL h hi hj,if_neg q,if_neg q];exact P.len
   ·rw[sG h hi hj,if_neg q];exact P.none
   ·rw[mK h hi hj,if_neg q];exact P.few
   ·rw[mK h hi hj,if_neg q];exact P.things
 ·intro j hj
  unfold aGP
  by_cases q:j=i
  ·subst q
   rw[dL h hi hj,if_pos rfl,sG h hi hj,if_pos rfl];exact S.own
  ·rw[dL h hi hj,if_neg q,sG h hi hj,if_neg q]
   exact h.own j hj
 ·intro j hj
  by_cases q:j=i
  ·subst q
   have e:=dL (x:=x) (rows:=rows) h hi hj;rw[if_pos rfl]at e;have e2:=mK (x:=x) (rows:=rows) h hi hj;rw[if_pos rfl]at e2;rw[e];exact S.known _ L (by rw[e]) e2
  ·rw[dL h hi hj,if_neg q]
   exact (h.known j hj).later L
 ·intro j hj
  have W:=h.way j hj
  by_cases q:j=i
  ·subst q
   have e:=dL (x:=x) (rows:=rows) h hi hj;rw[if_pos rfl]at e
   by_cases z:j=0
   ·subst z
    have R:=S.root rfl;have b0:=W.beacon;refine⟨?_,fun _=>?_,fun c=>absurd rfl c,fun c=>absurd rfl c,fun c=>absurd rfl c⟩
    ·rw[e];exact⟨by omega,Int.le_refl _⟩
    ·rw[e];exact⟨R.2.2.1,R.2.2.2⟩
   ·obtain⟨a1,a2,a3,a4,a5⟩:=S.way z
    refine⟨?_,fun c=>absurd c z,fun _=>?_,fun _=>?_,fun _=>?_⟩
    ·rw[e];exact⟨a1.1,Int.le_trans a1.2 hb⟩
    ·rw[e];exact a2
    ·rw[e];exact a3
    ·rw[e];exact⟨a4,a5⟩
  ·have e:=dL (x:=x) (rows:=rows) h hi hj
   rw[if_neg q]at e;refine⟨?_,?_,?_,?_,?_⟩
   ·rw[e];exact⟨W.beacon.1,Int.le_trans W.beacon.2 hb⟩
   ·rw[e];exact W.root
   ·rw[e];exact W.level
   ·rw[e];exact W.none
   ·rw[e];exact W.up
 ·rw[dL h hi bA]
  split
  ·rename_i q;exact (S.root q.symm).2.1
  ·exact h.beacon
end
theorem vW {n:Nt} (h:aM n) {ws:List Wd} (hl:ws.length<=24) (hw:∀w ∈ ws,gH n w):aM { n with words:=ws }:=by
 have L:kM n { n with words:=ws }:=⟨fun _ _=>Int.le_refl _,fun _ _ _ _ _=>⟨[],(List.append_nil _).symm⟩⟩
 exact⟨h.nodes,h.past,h.links,hl,h.born,fun i hi=>⟨(h.pasts i hi).len,(h.pasts i hi).none,(h.pasts i hi).few,(h.pasts i hi).things⟩,h.self,h.either,h.own,fun i hi=>(h.known i hi).later L,fun i hi=>⟨(h.way i hi).beacon,(h.way i hi).root,(h.way i hi).level,(h.way i hi).none,(h.way i hi).up⟩,fun w hws=>(hw w hws).later L (Int.le_refl _),h.beacon⟩
theorem aJW {n:Nt} (h:aM n) {ls:List Bool} (hl:ls.length=25) (hs:∀i,aE i->whole { n with links:=ls } i i=false) (he:∀i j,aE i->aE j->whole { n with links:=ls } i j=whole { n with links:=ls } j i):aM { n with links:=ls }:=by
 have L:kM n { n with links:=ls }:=⟨fun _ _=>Int.le_refl _,fun _ _ _ _ _=>⟨[],(List.append_nil _).symm⟩⟩
 exact⟨h.nodes,h.past,hl,h.words,h.born,fun i hi=>⟨(h.pasts i hi).len,(h.pasts i hi).none,(h.pasts i hi).few,(h.pasts i hi).things⟩,hs,he,h.own,fun i hi=>(h.known i hi).later L,fun i hi=>⟨(h.way i hi).beacon,(h.way i hi).root,(h.way i hi).level,(h.way i hi).none,(h.way i hi).up⟩,fun w hws=>(h.word w hws).later L (Int.le_refl _),h.beacon⟩
theorem aA6 {α:Type} (l:List α) (i:Nat) (d:α) (h:i<l.length):l.set i (l.getD i d)=l:=by
 apply List.ext_getElem?;intro j;rw[List.getElem?_set]
 by_cases q:i=j
 ·subst q
  simp[h]
 ·simp[q]
theorem oQ {n:Nt} (h:aM n) {i:Int} (hi:aE i) (x:Nd):fB n i x=put n i x (aO n i):=by
 unfold fB put aO;rw[aA6 _ _ _ (by rw[h.past];unfold aE at hi;omega)]
theorem yB {n:Nt} (h:aM n) {i:Int} (hi:aE i) {x:Nd} (hb:x.born=(aA n i).born) (own:bM x.known i=bM (aA n i).known i) (known:∀m,kM n m->jP m x.known)
  (root:i=0->(aA n 0).beacon<=x.beacon/\x.beacon<=1000/\x.level=0/\x.up= -1)
  (way:i≠0->(0<=x.beacon/\x.beacon<=(aA n 0).beacon)/\(1<=x.level/\x.level<=5)/\(x.up= -1↔x.level=5)/\(-1<=x.up/\x.up<=4)/\x.up≠i):aJr n i x (aO n i):=by
 have P:=h.pasts i hi;have b:=h.born i hi;refine⟨⟨by omega,by omega⟩,by rw[hb];exact P.len,P.none,P.few,P.things,fun c _ _=>⟨[],(List.append_nil _).symm⟩,?_,fun m L _ _=>known m L,root,way⟩;obtain⟨e,e1,e2,e3⟩:=h.own i hi;exact⟨e,by rw[own];exact e1,by rw[hb];exact e2,by rw[hb];exact e3⟩
theorem aBh:∀{news es:List En} {i:Int} {x:En},x ∈ dJ es i news->x ∈ es\/x ∈ news
 | [],es,i,x,h=>.inl h
 |e::news,es,i,x,h=>by
  have h':x ∈ dJ (if e.node=i then es else fP es e) i news:=h;rcases aBh h' with q|q
  ·split at q
   ·exact .inl q
   ·rcases qQ q with rfl|q
    ·exact .inr (by simp)
    ·exact .inl q
  ·exact .inr (by simp[q])
theorem aBp:∀{news es:List En} {i:Int},es.Pairwise gV->(dJ es i news).Pairwise gV
 | [],_,_,h=>h
 |e::news,es,i,h=>by
  show (dJ (if e.node=i then es else fP es e) i news).Pairwise gV
  refine aBp ?_
  split
  ·exact h
  ·exact rL h
theorem sT:∀{news es:List En} {i:Int},es.Pairwise gV->bM (dJ es i news) i=bM es i
 | [],_,_,_=>rfl
 |e::news,es,i,h=>by
  show bM (dJ (if e.node=i then es else fP es e) i news) i=_
  by_cases q:e.node=i
  ·rw[if_pos q];exact sT h
  ·rw[if_neg q,sT (rL h),sP h,if_neg (fun c=>q c.symm)]
theorem aE0 {n:Nt} (h:aM n) {w:Wd} (hw:gH n w):aQ n w=n\/∃x,aQ n w=put n w.dst x (aO n w.dst)/\aJr n w.dst x (aO n w.dst)/\x.born=(aA n w.dst).born:=by
 have W:=h.way w.dst hw.dst;have Kn:=h.known w.dst hw.dst;unfold aQ;simp only
 by_cases k2:w.kind=2
 ·rw[if_pos k2]
  refine .inr ⟨_,oQ h hw.dst _,yB h hw.dst rfl (sT Kn.asc) (fun m L=>⟨fun e he=>?_,aBp Kn.asc⟩) (fun z=>?_) (fun z=>?_),rfl⟩
  ·rcases aBh he with q|q
   ·exact (Kn.all e q).later L
   ·rcases hw.kind with ⟨k1,_⟩|⟨_,_,_,kk⟩
    ·omega
    ·exact (kk.all e q).later L
  ·have R:=W.root z
   rw[z]at R ⊢;exact⟨Int.le_refl _,h.beacon,R.1,R.2⟩
  ·exact⟨W.beacon,W.level z,W.none z,(W.up z).1,(W.up z).2⟩
 ·rw[if_neg k2]
  obtain⟨k1,kb,kl,_⟩:w.kind=1/\(0<=w.beacon/\w.beacon<=(aA n 0).beacon)/\(0<=w.level/\w.level<=4)/\w.known=[]:=by
   rcases hw.kind with k|⟨k,_⟩
   ·exact k
   ·exact absurd k k2
  split
  ·exact .inl rfl
  ·rename_i hd
   have hd0:w.dst≠0:=fun c=>hd (.inl c)
   split
   ·rename_i hb
    refine .inr ⟨_,oQ h hw.dst _,yB h hw.dst rfl rfl (fun m L=>Kn.later L) (fun z=>absurd z hd0) (fun _=>?_),rfl⟩;have s1:=hw.src;have s2:=hw.other;unfold aE at s1;refine⟨kb,⟨by show 1<=w.level+1;omega,by show w.level+1<=5;omega⟩,?_,?_,?_⟩
    ·show (if 5<=w.level+1 then (-1:Int)else w.src)= -1↔w.level+1=5
     split<;>omega
    ·show -1<=(if 5<=w.level+1 then (-1:Int)else w.src)/\(if 5<=w.level+1 then (-1:Int)else w.src)<=4
     split<;>omega
    ·show (if 5<=w.level+1 then (-1:Int)else w.src)≠w.dst
     have s3:=hw.dst;unfold aE at s3
     split
     ·omega
     ·exact s2
   ·exact .inl rfl
theorem zX {n:Nt} (h:aM n) {w:Wd} (hw:gH n w):aM (aQ n w):=by
 rcases aE0 h hw with e|⟨x,e,S,_⟩
 ·rw[e];exact h
 ·rw[e];exact aDz h hw.dst S
theorem vF {n:Nt} (h:aM n) {w:Wd} (hw:gH n w):kM n (aQ n w)/\(aA n 0).beacon<=(aA (aQ n w) 0).beacon:=by
 rcases aE0 h hw with e|⟨x,e,S,_⟩
 ·rw[e];exact⟨kM.refl _,Int.le_refl _⟩
 ·rw[e];exact⟨aB7 h hw.dst S,aAT h hw.dst S⟩
theorem kA (n:Nt) (w:Wd):(aQ n w).words=n.words/\(aQ n w).links=n.links/\(aQ n w).past=n.past:=by
 unfold aQ;simp only
 split
 ·exact⟨rfl,rfl,rfl⟩
 ·split
  ·exact⟨rfl,rfl,rfl⟩
  ·split<;>exact⟨rfl,rfl,rfl⟩
theorem aGD {n:Nt} {k:Int} (h:rK n k):kW n k ∈ n.words:=by
 unfold rK at h;unfold kW;rw[List.getD_eq_getElem?_getD,List.getElem?_eq_getElem (by omega:k.toNat<n.words.length)];exact List.getElem_mem _
theorem aKF {n:Nt} (h:aM n) (k:Int):aM (zM n k):=
 vW h (Nat.le_trans (List.length_eraseIdx_le _ _) h.words) (fun w hw=>h.word w (List.mem_of_mem_eraseIdx hw))
theorem zY {n x:Nt} (h:aM n) {k:Int} {heard kept:Bool} (e:lC n k heard kept=some x):aM x:=by
 unfold lC at e
 split at e
 ·rename_i hk
  have hm:aM (if heard=true then aQ n (kW n k)else n):=by
   split
   ·exact zX h (h.word _ (aGD hk))
   ·exact h
  obtain rfl:=Option.some.inj e
  split
  ·exact hm
  ·exact aKF hm k
 ·cases e
theorem aJq {n x:Nt} (h:aM n) {i t:Int} (hi:aE i) (e:lI n i t=some x):aM x:=by
 unfold lI at e;simp only at e
 split at e
 ·rename_i hc
  obtain⟨ht,hl⟩:=hc;obtain⟨o,o1,o2,o3⟩:=h.own i hi;obtain rfl:=Option.some.inj e;have b:=h.born i hi;have P:=h.pasts i hi;have Kn:=h.known i hi;have len:=P.len;have To:=Kn.all o (iG o1).1;have on:=(iG o1).2;have hin:(aA n i).born.toNat<(aO n i).length:=by omega
  have lm:aN n i (aA n i).born ∈ aO n i:=by
   unfold aN;rw[List.getD_eq_getElem?_getD,List.getElem?_eq_getElem hin];exact List.getElem_mem _
  rw[o1];show aM (put n i _ _)
  refine aDz h hi ⟨⟨Int.le_refl _,b.2⟩,?_,?_,?_,?_,?_,?_,?_,fun z=>?_,fun z=>?_⟩
  ·rw[List.length_set];exact len
  ·rw[mL,if_neg (by omega)];exact P.none
  ·intro l hm
   rcases List.mem_or_eq_of_mem_set hm with q|q
   ·exact P.few l q
   ·rw[q,List.length_append];simp;omega
  ·intro l hm u hu
   rcases List.mem_or_eq_of_mem_set hm with q|q
   ·exact P.things l q u hu
   ·rw[q]at hu
    exact zBF
  ·intro c c1 c2
   rw[mL]
   by_cases q:(aA n i).born.toNat=c.toNat
   ·rw[if_pos ⟨q,hin⟩]
    have:c=(aA n i).born:=by omega
    rw[this];exact⟨[t],rfl⟩
   ·rw[if_neg (fun z=>q z.1)]
    exact⟨[],(List.append_nil _).symm⟩
  ·refine⟨⟨i,(aA n i).born,o.num+1,dC o.s t⟩,?_,rfl,?_⟩
   ·show bM (fP _ _) i=_
    rw[sP Kn.asc,if_pos rfl];show some (match bM (aA n i).known i with|some x=>_|none=>_)=_
    rw[o1];have nw:jM ⟨i,(aA n i).born,o.num+1,dC o.s t⟩ o=true:=by unfold jM;simp[o2];omega
    simp[nw]
   ·rw[mL,if_pos ⟨rfl,hin⟩,List.length_append]
    show o.num+1=_
    rw[o3];simp
  ·intro m L mb mr
   refine⟨fun e he=>?_,rL Kn.asc⟩;rcases qQ he with rfl|he
   ·have pm:aN m i (aA n i).born=aN n i (aA n i).born++[t]:=by
     unfold aN;rw[mr,mL,if_pos ⟨rfl,hin⟩]
     rfl
    have tk:(aN m i (aA n i).born).take (o.num+1).toNat=aN n i (aA n i).born++[t]:=by
     rw[pm,List.take_of_length_le];rw[List.length_append];simp;omega
    have ts:(aN n o.node o.born).take o.num.toNat=aN n i (aA n i).born:=by
     rw[on,o2,List.take_of_length_le (by omega)]
    refine⟨hi,⟨b.1,?_⟩,⟨?_,?_⟩,?_,?_⟩
    ·show _<=(aA m i).born
     rw[mb];exact Int.le_refl _
    ·show 0<=o.num+1;omega
    ·show o.num+1<=((aN m i (aA n i).born).length:Int)
     rw[pm,List.length_append];simp;omega
    ·show okS (upS ((aN m i (aA n i).born).take (o.num+1).toNat))=true
     rw[tk];refine aGT (fun u hu=>?_) (by rw[List.length_append];simp;omega);exact zBF
    ·show dC o.s t=upS ((aN m i (aA n i).born).take (o.num+1).toNat)
     rw[tk,aAQ,To.s,ts]
   ·exact (Kn.all e he).later L
  ·have W:=h.way i hi
   have R:=W.root z;rw[z]at R ⊢;exact⟨Int.le_refl _,h.beacon,R.1,R.2⟩
  ·have W:=h.way i hi
   exact⟨W.beacon,W.level z,W.none z,(W.up z).1,(W.up z).2⟩
 ·cases e
theorem aI7 {n x:Nt} (h:aM n) {i:Int} (hi:aE i) (e:lK n i=some x):aM x:=by
 unfold lK at e;simp only at e
 split at e
 ·rename_i hc
  obtain rfl:=Option.some.inj e;have b:=h.born i hi;have P:=h.pasts i hi;have len:=P.len;have ge:∀k,k<(aO n i).length->(aO n i++[[]]).getD k []=(aO n i).getD k []:=fun k hk=>by
   rw[List.getD_eq_getElem?_getD,List.getD_eq_getElem?_getD,List.getElem?_append_left hk]
  have last:(aO n i++[[]]).getD ((aA n i).born+1).toNat []=[]:=by
   rw[List.getD_eq_getElem?_getD,List.getElem?_append_right (by omega)];have:((aA n i).born+1).toNat - (aO n i).length=0:=by omega
   rw[this];rfl
  show aM (put n i _ _)
  refine aDz h hi ⟨⟨?_,?_⟩,?_,?_,?_,?_,?_,?_,?_,fun z=>?_,fun z=>?_⟩
  ·show _<=(aA n i).born+1;omega
  ·show (aA n i).born+1<=20;omega
  ·rw[List.length_append]
   show (((aO n i).length+1:Nat):Int)=(aA n i).born+1+1
   omega
  ·rw[ge 0 (by omega)];exact P.none
  ·intro l hm
   rcases List.mem_append.1 hm with q|q
   ·exact P.few l q
   ·rw[List.mem_singleton.1 q];exact Nat.zero_le _
  ·intro l hm u hu
   rcases List.mem_append.1 hm with q|q
   ·exact P.things l q u hu
   ·rw[List.mem_singleton.1 q]at hu;cases hu
  ·intro c c1 c2
   rw[ge _ (by omega)];exact⟨[],(List.append_nil _).symm⟩
  ·refine⟨⟨i,(aA n i).born+1,0,dK⟩,?_,rfl,?_⟩
   ·show bM [_] i=_
    rw[lR,if_pos rfl]
   ·show (0:Int)=(((aO n i++[[]]).getD ((aA n i).born+1).toNat []).length:Int)
    rw[last];rfl
  ·intro m L mb mr
   refine⟨fun e he=>?_,List.pairwise_singleton _ _⟩;obtain rfl:=List.mem_singleton.1 he;refine⟨hi,⟨?_,?_⟩,⟨Int.le_refl _,?_⟩,wH,rfl⟩
   ·show 1<=(aA n i).born+1;omega
   ·show (aA n i).born+1<=(aA m i).born
    rw[mb];exact Int.le_refl _
   ·show (0:Int)<=_;omega
  ·rw[z]
   have R:=(h.way 0 bA).beacon;exact⟨Int.le_refl _,h.beacon,rfl,rfl⟩
  ·have B0:=(h.way 0 bA).beacon
   have e1:(if i=0 then (0:Int)else 5)=5:=if_neg z;have e2:(if i=0 then (aA n i).beacon else (0:Int))=0:=if_neg z;unfold aE at hi;refine⟨?_,?_,?_,?_,?_⟩
   ·show 0<=(if i=0 then (aA n i).beacon else (0:Int))/\(if i=0 then (aA n i).beacon else (0:Int))<=_
    rw[e2];exact⟨Int.le_refl _,B0.1⟩
   ·show 1<=(if i=0 then (0:Int)else 5)/\(if i=0 then (0:Int)else 5)<=5
    rw[e1];decide
   ·show (-1:Int)= -1↔(if i=0 then (0:Int)else 5)=5
    rw[e1];simp
   ·show (-1:Int)<= -1/\(-1:Int)<=4
    decide
   ·show (-1:Int)≠i
    omega
 ·cases e
theorem aEn {n:Nt} {a b c d:Int} (ha:aE a) (hb:aE b) (hc:aE c) (hd:aE d):(a * 5+b).toNat=(c * 5+d).toNat↔a=c/\b=d:=by
 unfold aE at *;omega
theorem qC {n:Nt} (h:aM n) {a b c d:Int} (ha:aE a) (hb:aE b) (hc:aE c) (hd:aE d) (w:Bool):whole { n with links:=(n.links.set (a * 5+b).toNat w).set (b * 5+a).toNat w } c d=if (a=c/\b=d)\/(b=c/\a=d)then w else whole n c d:=by
 unfold whole;show ((n.links.set _ w).set _ w).getD _ false=_
 have la:(a * 5+b).toNat<n.links.length:=by rw[h.links];unfold aE at ha hb;omega
 have lb:(b * 5+a).toNat<n.links.length:=by rw[h.links];unfold aE at ha hb;omega
 rw[mL,mL,List.length_set];simp only[aEn (n:=n) ha hb hc hd,aEn (n:=n) hb ha hc hd,la,lb,and_true]
 by_cases q:b=c/\a=d
 ·simp[q]
 ·by_cases p:a=c/\b=d
  ·simp[p]
  ·simp[q,p]
theorem aGH {n x:Nt} (h:aM n) {a b:Int} {w:Bool} (ha:aE a) (hb:aE b) (e:pX n a b w=some x):aM x:=by
 unfold pX at e
 split at e
 ·cases e
 ·rename_i q
  have hab:a≠b:=fun c=>q (.inl c)
  obtain rfl:=Option.some.inj e;refine aJW h (by rw[List.length_set,List.length_set];exact h.links) (fun i hi=>?_) (fun i j hi hj=>?_)
  ·rw[qC h ha hb hi hi,if_neg (by omega)]
   exact h.self i hi
  ·rw[qC h ha hb hi hj,qC h ha hb hj hi,h.either i j hi hj]
   by_cases p:(a=i/\b=j)\/(b=i/\a=j)
   ·rw[if_pos p,if_pos (by omega)]
   ·rw[if_neg p,if_neg (by omega)]
theorem aGO {n:Nt} (h:aM n) {w:Wd} (hw:gH n w):aM (dF n w).1:=by
 unfold dF
 split
 ·rename_i q
  refine vW h (by rw[List.length_append];simp;omega) (fun v hv=>?_);rcases List.mem_append.1 hv with hv|hv
  ·exact h.word v hv
  ·rw[List.mem_singleton.1 hv];exact hw
 ·exact h
theorem tP (n:Nt) (w:Wd):(dF n w).1.nodes=n.nodes/\(dF n w).1.links=n.links/\(dF n w).1.past=n.past:=by
 unfold dF
 split<;>exact⟨rfl,rfl,rfl⟩
theorem pU {n m:Nt} (h:m.nodes=n.nodes) (i:Int):aA m i=aA n i:=by unfold aA;rw[h]
theorem pA {n:Nt} (h:aM n) {i:Int} (hi:aE i):aM (cA n i).1/\(cA n i).1.nodes=n.nodes/\(cA n i).1.links=n.links/\(cA n i).1.past=n.past:=by
 unfold cA;simp only
 split
 ·rename_i hl
  have key:∀(ks:List Nat) (m:Nt × Bool),(∀k ∈ ks,k<5)->aM m.1->m.1.nodes=n.nodes/\m.1.links=n.links/\m.1.past=n.past->
    aM (ks.foldl (fun (m:Nt × Bool) (k:Nat)=>if (k:Int)=i then m else ((dF m.1 ⟨1,i,k,(aA n i).beacon,(aA n i).level,[]⟩).1,m.2 || (dF m.1 ⟨1,i,k,(aA n i).beacon,(aA n i).level,[]⟩).2)) m).1/\
    (ks.foldl (fun (m:Nt × Bool) (k:Nat)=>if (k:Int)=i then m else ((dF m.1 ⟨1,i,k,(aA n i).beacon,(aA n i).level,[]⟩).1,m.2 || (dF m.1 ⟨1,i,k,(aA n i).beacon,(aA n i).level,[]⟩).2)) m).1.nodes=n.nodes/\
    (ks.foldl (fun (m:Nt × Bool) (k:Nat)=>if (k:Int)=i then m else ((dF m.1 ⟨1,i,k,(aA n i).beacon,(aA n i).level,[]⟩).1,m.2 || (dF m.1 ⟨1,i,k,(aA n i).beacon,(aA n i).level,[]⟩).2)) m).1.links=n.links/\
    (ks.foldl (fun (m:Nt × Bool) (k:Nat)=>if (k:Int)=i then m else ((dF m.1 ⟨1,i,k,(aA n i).beacon,(aA n i).level,[]⟩).1,m.2 || (dF m.1 ⟨1,i,k,(aA n i).beacon,(aA n i).level,[]⟩).2)) m).1.past=n.past:=by
   intro ks
   induction ks with
   |nil=>intro m _ ok e;exact⟨ok,e⟩
   |cons k ks ih=>
    intro m hk ok e;rw[List.foldl_cons];refine ih _ (fun k' h'=>hk k' (List.mem_cons_of_mem _ h')) ?_ ?_
    ·split
     ·exact ok
     ·rename_i q
      have k5:=hk k (List.mem_cons_self ..);have W:=h.way i hi;refine aGO ok ⟨hi,(show aE (k:Int)from⟨by omega,by omega⟩),fun c=>q c.symm,.inl ⟨rfl,?_,?_,rfl⟩⟩
      ·rw[pU e.1];exact W.beacon
      ·show 0<=(aA n i).level/\(aA n i).level<=4
       by_cases z:i=0
       ·have:=(W.root z).1;omega
       ·have:=W.level z;omega
    ·split
     ·exact e
     ·have s:=tP m.1 ⟨1,i,k,(aA n i).beacon,(aA n i).level,[]⟩
      exact⟨s.1.trans e.1,s.2.1.trans e.2.1,s.2.2.trans e.2.2⟩
  exact key (List.range 5) (n,false) (fun k hk=>List.mem_range.1 hk) h ⟨rfl,rfl,rfl⟩
 ·exact⟨h,rfl,rfl,rfl⟩
theorem aAH {n:Nt} (h:aM n) {i:Int} (hi:aE i):aM (fX n i).1/\(fX n i).1.nodes=n.nodes/\(fX n i).1.links=n.links/\(fX n i).1.past=n.past:=by
 unfold fX;simp only
 split
 ·exact⟨h,rfl,rfl,rfl⟩
 ·rename_i hu
  refine⟨aGO h ?_,tP _ _⟩;have W:=h.way i hi;have i0:i≠0:=fun c=>by have:=(W.root c).2;omega
  have U:=W.up i0;exact⟨hi,⟨by show 0<=(aA n i).up;omega,U.1.2⟩,fun c=>U.2 c.symm,.inr ⟨rfl,rfl,rfl,h.known i hi⟩⟩
theorem yR {n:Nt} (h:aM n) (hb:(aA n 0).beacon+1<=1000):aM (fB n 0 { aA n 0 with beacon:=(aA n 0).beacon+1 }):=by
 rw[oQ h bA];have R:=(h.way 0 bA).root rfl;refine aDz h bA (yB h bA rfl rfl (fun m L=>(h.known 0 bA).later L) (fun _=>⟨?_,hb,R.1,R.2⟩) (fun c=>absurd rfl c));show (aA n 0).beacon<=(aA n 0).beacon+1
 omega
theorem aB9 {m:Nt × Bool} {x:Nt} (e:nV m=some x):m.1=x:=by
 unfold nV at e
 split at e
 ·exact Option.some.inj e
 ·cases e
theorem aI4 {n x:Nt} {d:De} (h:aM n) (e:doN n d=some x):aM x:=by
 unfold doN at e
 split at e
 ·exact zY h e
 split at e
 ·exact zY h e
 split at e
 ·exact zY h e
 split at e
 ·split at e
  ·rename_i hb
   obtain rfl:=Option.some.inj e;exact yR h hb
  ·cases e
 split at e
 ·rename_i ha
  split at e
  ·exact aJq h ha e
  split at e
  ·rw[<-aB9 e];exact (pA h ha).1
  split at e
  ·rw[<-aB9 e];exact (aAH h ha).1
  split at e
  ·exact aI7 h ha e
  split at e
  ·split at e
   ·rename_i hb
    exact aGH h ha hb e
   ·cases e
  ·cases e
 ·cases e
theorem aBq {n:Nt} (h:aM n) (ds:List De):aM (cO n ds):=by
 unfold cO
 induction ds generalizing n with
 |nil=>exact h
 |cons d ds ih=>
  rw[List.foldl_cons];cases q:doN n d with
  |none=>exact ih h
  |some x=>exact ih (aI4 h q)
theorem hears {ws:List Wd}:∀{n:Nt},aM n->(∀w ∈ ws,gH n w)->aM (ws.foldl aQ n)/\kM n (ws.foldl aQ n)/\(aA n 0).beacon<=(aA (ws.foldl aQ n) 0).beacon:=by
 induction ws with
 |nil=>intro n h _;exact⟨h,kM.refl _,Int.le_refl _⟩
 |cons w ws ih=>
  intro n h hw;rw[List.foldl_cons];have L:=vF h (hw w (List.mem_cons_self ..));have r:=ih (zX h (hw w (List.mem_cons_self ..))) (fun v hv=>(hw v (List.mem_cons_of_mem _ hv)).later L.1 L.2);exact⟨r.1,L.1.trans r.2.1,Int.le_trans L.2 r.2.2⟩
theorem xH {n:Nt} (h:aM n):aM (gI n):=vW (hears h h.word).1 (Nat.zero_le _) (fun w hw=>by cases hw)
end Go.Proofs.YtcblbdpdbggkbaaGreat.N
namespace Go.Proofs.YtcblbdpdbggkbaaGreat
open _root_.Go.Proofs.Tryz
open Go.RowKit Go.Sort
namespace N
def pZ (n:Nt) (i:Int) (m:Nt × Bool) (k:Nat):Nt × Bool:=if (k:Int)=i then m else ((dF m.1 ⟨1,i,k,(aA n i).beacon,(aA n i).level,[]⟩).1,m.2 || (dF m.1 ⟨1,i,k,(aA n i).beacon,(aA n i).level,[]⟩).2)
def kX (n:Nt) (i:Int) (j:Nat):Nt × Bool:=(List.range j).foldl (pZ n i) (n,false)
theorem aI1 {n:Nt} {i:Int} (h:(aA n i).level<5):cA n i=kX n i 5:=by unfold cA;simp only[if_pos h];rfl
theorem aHW {n:Nt} {i:Int} (h:¬(aA n i).level<5):cA n i=(n,false):=by unfold cA;simp only[if_neg h]
theorem aAt (n:Nt) (i:Int) (j:Nat):kX n i (j+1)=pZ n i (kX n i j) j:=by unfold kX;rw[List.range_succ,List.foldl_append];rfl
theorem aGi {n:Nt} (h:oP n) (w:Wd):oP (dF n w).1:=by
 obtain⟨h1,h2,h3⟩:=tP n w;refine⟨by rw[h1];exact h.nodes,by rw[h2];exact h.links,by rw[h3];exact h.past,?_⟩;unfold dF
 split
 ·rename_i q;simp only[List.length_append,List.length_cons,List.length_nil];omega
 ·exact h.words
theorem sE {n:Nt} (h:oP n) (i:Int):∀j,oP (kX n i j).1
 | 0=>h
 |j+1=>by
  rw[aAt];unfold pZ
  split
  ·exact sE h i j
  ·exact aGi (sE h i j) _
theorem iW {n:Nt} (h:aM n):oP n:=⟨h.nodes,h.links,h.past,h.words⟩
theorem eY {n:Nt} (h:n.nodes.length=5) {i:Nat} (hi:i<5):n.nodes[i]? =some (aA n (i:Int)):=by
 unfold aA;rw[List.getD_eq_getElem?_getD,Int.toNat_natCast,List.getElem?_eq_getElem o_]
 rfl
theorem pJ {n:Nt} (h:n.past.length=5) {i:Nat} (hi:i<5):n.past[i]? =some (aO n (i:Int)):=by
 unfold aO;rw[List.getD_eq_getElem?_getD,Int.toNat_natCast,List.getElem?_eq_getElem o_]
 rfl
section
variable {B:Nat} {w0 w:World} {l:List Ch} {p:Nat} {n:Nt}
theorem aBc (h:M B w0 w (cU p n::l)) (hs:oP n) {i k:Int} (hi:aE i) (hk:aE k) (b lv:Int):
  Calls prog 294 #[jG p,.agg #[iv 1,iv i,iv k,iv b,iv lv,zn]] w fun r w'=>r=.returned (.bool (dF n ⟨1,i,k,b,lv,[]⟩).2)/\M B w0 w' (cU p (dF n ⟨1,i,k,b,lv,[]⟩).1::l):=
 aBV (x:=⟨1,i,k,b,lv,[]⟩) ((h.nil aP 64 10).word 1 i k b lv).p1 hs.links (by have:=hs.words;omega) hi hk
theorem _root_.Go.Proofs.YtcblbdpdbggkbaaGreat.M.liveNode (h:M B w0 w (cU p n::l)) (hs:oP n) {i:Nat} (hi:i<5):∃g c1 v2 v3 v4 xk ck f,w.cell? ⟨p,0,none⟩=some (.slice (some ⟨g,0,none⟩) 5 c1)/\w.cell? ⟨p,1,none⟩=some v2/\w.cell? ⟨p,2,none⟩=some v3/\w.cell? ⟨p,3,none⟩=some v4/\
  gD TY w [.slice xk (aA n (i:Int)).known.length ck] (aA n (i:Int)).known f/\
  w.cell? ⟨g,i * 5,none⟩=some (.int .i64 (aA n (i:Int)).born)/\w.cell? ⟨g,i * 5+1,none⟩=some (.slice xk (aA n (i:Int)).known.length ck)/\w.cell? ⟨g,i * 5+2,none⟩=some (.int .i64 (aA n (i:Int)).beacon)/\w.cell? ⟨g,i * 5+3,none⟩=some (.int .i64 (aA n (i:Int)).level)/\w.cell? ⟨g,i * 5+4,none⟩=some (.int .i64 (aA n (i:Int)).up):=by
 obtain⟨x1,c1,x2,c2,x3,c3,x4,c4,h1⟩:=h.live;rw[hs.nodes]at h1;obtain⟨a0,a1,a2,a3⟩:=h1.cells4;obtain⟨f,hf⟩:=h1.p1.nodesRd;obtain⟨g,xk,ck,fk,rfl,_,_,kr,_,_,d0,d1,d2,d3,d4⟩:=cB hf (eY hs.nodes hi);exact⟨g,c1,_,_,_,xk,ck,fk,a0,a1,a2,a3,kr,d0,d1,d2,d3,d4⟩
theorem aAm (h:M B w0 w (cU p n::l)) (hs:oP n) {i:Nat} (hi:i<5):
  Calls prog 263 #[jG p,iv (i:Int)] w fun r w'=>r=.returned (.bool (cA n (i:Int)).2)/\M B w0 w' (cU p (cA n (i:Int)).1::l):=by
 obtain⟨g,c1,v2,v3,v4,xk,ck,fk,a0,a1,a2,a3,kr,d0,d1,d2,d3,d4⟩:=h.liveNode hs hi;obtain⟨x,hx⟩:∃x,x=aA n (i:Int):=⟨_,rfl⟩
 have SS:=hd_ (fun j=>sE hs (i:Int) j);have NX:=hd_ (fun j=>aAt n (i:Int) j);have LE:=hd_ (fun q:x.level<5=>aI1 (n:=n) (i:=(i:Int)) (by rw[<-hx];exact q));have LF:=hd_ (fun q:¬x.level<5=>aHW (n:=n) (i:=(i:Int)) (by rw[<-hx];exact q));have HX:=hd_ hx;rw[<-hx]at d0 d1 d2 d3 d4;have i0:(0:Int)<=(i:Int):=by omega
 have i1:(i:Int)<5:=by omega
 have IN:Hid (aE (i:Int)):=hd_ (by unfold aE;omega);have h1:=h.alloc #[iv x.born,.slice xk x.known.length ck,iv x.beacon,iv x.level,iv x.up] 55;obtain⟨kl,hkl⟩:∃k,k=x.known.length:=⟨_,rfl⟩
 rw[<-hkl]at h1 d1;obtain⟨px,hpx⟩:∃p,p=w.heap.size:=⟨_,rfl⟩
 obtain⟨W0,hW0⟩:∃W,W=w.alloc (.cells #[iv x.born,.slice xk kl ck,iv x.beacon,iv x.level,iv x.up] 55):=⟨_,rfl⟩
 rw[<-hW0, <-hpx]at h1;have H0:=hd_ h1.p1;clear h h1 hx kr hkl hs hi;unfold jG;go_enter func263,ntmps263;go_upto_region 2 with fail
 rw[<-hW0, <-hpx];clear hW0 hpx a0 a1 a2 a3 d0 d1 d2 d3 d4
 by_cases hlv:x.level<5
 case neg=>
  have LFF:=hd_ (LF.out hlv);go_wp2;go_loopw [6,7] (fun y z wr=>z=.int .i64 0/\y=.bool false/\M B w0 wr (cU p n::aL px 55 #[iv x.born,.slice xk kl ck,iv x.beacon,iv x.level,iv x.up]::l)) (fun _ z _=>0)
  case atStart=>exact⟨rfl,rfl,H0.out⟩
  case round=>
   clear H0;obtain⟨rfl,rfl,hM⟩:=hrel;have H:=hd_ hM;clear hM;obtain⟨d0,d1,d2,d3,d4⟩:=H.out.p1.cells5;go_wp2;go_ret;rw[LFF.out];exact⟨rfl,H.out.p1.drop⟩
 have LEE:=hd_ (LE.out hlv);go_wp2;go_loopw [6,7] (fun y z wr=>∃(j:Nat) (b:Bool),j<=5/\z=.int .i64 (j:Int)/\y=.bool b/\b=(kX n (i:Int) j).2/\M B w0 wr (cU p (kX n (i:Int) j).1::aL px 55 #[iv x.born,.slice xk kl ck,iv x.beacon,iv x.level,iv x.up]::l)) (fun _ z _=>5 - (intOf z).toNat)
 case atStart=>exact⟨0,false,by omega,rfl,rfl,rfl,H0.out⟩
 case round=>
  clear H0;obtain⟨j,b,hj,rfl,rfl,hb,hM⟩:=hrel;have H:=hd_ hM;have HB:=hd_ hb;clear hM hb;obtain⟨d0,d1,d2,d3,d4⟩:=H.out.p1.cells5
  by_cases hlt:j<5
  case neg=>
   obtain rfl:j=5:=by omega
   go_wp2;go_ret;rw[LEE.out];exact⟨by rw[HB.out];rfl,H.out.p1.drop⟩
  have j1:(j:Int)<5:=by omega
  by_cases hne:(j:Int)=(i:Int)
  case pos=>
   have gne:((j:Int) != (i:Int))=false:=by simpa using hne
   have E:=hd_ (show kX n (i:Int) (j+1)=kX n (i:Int) j by rw[NX.out];unfold pZ;rw[if_pos hne]);clear hne;go_wp2;go_roundw
   case rel=>exact⟨j+1,b,by omega,gn_,rfl,by rw[E.out];exact HB.out,by rw[E.out];exact H.out⟩
   case measure=>simp[intOf];omega
  have gne:((j:Int) != (i:Int))=true:=by simpa using hne
  obtain⟨y,hy⟩:∃y,y=dF (kX n (i:Int) j).1 ⟨1,(i:Int),(j:Int),x.beacon,x.level,[]⟩:=⟨_,rfl⟩
  have E:=hd_ (show kX n (i:Int) (j+1)=(y.1,b || y.2) by rw[NX.out];unfold pZ;rw[if_neg hne,hy,HB.out, <-HX.out]);have KS:=hd_ (aBc H.out (SS.out j) IN.out (k:=(j:Int)) (by unfold aE;omega) x.beacon x.level);rw[<-hy]at KS;clear hne hy
  go_wp2_with fail
  refine KS.out.mono ?_;rintro r w2 ⟨rfl,hm⟩;have H2:=hd_ hm;clear hm KS H d0 d1 d2 d3 d4;obtain⟨y1,y2⟩:=y;simp only at H2 E ⊢;cases b
  all_goals
   go_wp2;go_roundw
   case rel=>exact⟨j+1,_,by omega,gn_,rfl,by rw[E.out];rfl,by rw[E.out];exact H2.out⟩
   case measure=>simp[intOf];omega
end
end N
end Go.Proofs.YtcblbdpdbggkbaaGreat
namespace Go.Proofs.YtcblbdpdbggkbaaGreat
open _root_.Go.Proofs.Tryz
open Go.RowKit
theorem aCH (x y:Option Addr) (n m c d:Nat) (w:World) (h:n≠m\/(n=0/\m=0)):
  Calls prog 296 #[.slice x n c,.slice y m d] w fun e w'=>e=.returned (.bool (decide (n=m)))/\w=w':=by
 rcases h with h|⟨rfl,rfl⟩
 ·have hn:((n:Int) != (m:Int))=true:=by simp;omega
  go_enter func296,ntmps296;go_wp2;go_ret;exact⟨by simpa using h,rfl⟩
 ·go_enter func296,ntmps296
  go_wp2;refine wp_loop_rounds 1 ?_;rw[rounds_succ];go_wp2;go_ret;exact⟨by simp,rfl⟩
theorem aET (b o c b' o' c' n:Nat) (za zb:List Int) (w:World) (hn:n<=maxLen) (ha:za.length=n) (hb:zb.length=n)
  (hca:∀i,i<n->w.cell? ⟨b,o+i,none⟩=some (.int .i64 (za.getD i 0))) (hcb:∀i,i<n->w.cell? ⟨b',o'+i,none⟩=some (.int .i64 (zb.getD i 0))):
  Calls prog 296 #[.slice (some ⟨b,o,none⟩) n c,.slice (some ⟨b',o',none⟩) n c'] w fun e w'=>e=.returned (.bool (decide (za=zb)))/\∃m,w'=w.drewN m:=by
 unfold maxLen at hn;have Ha:=hd_ ha;have Hb:=hd_ hb;have Hca:=hd_ hca;have Hcb:=hd_ hcb;clear ha hb hca hcb;go_enter func296,ntmps296;go_wp2;go_loopw [5] (fun i wr=>∃k:Nat,k<=n/\i=.int .i64 k/\(∀j,j<k->za.getD j 0=zb.getD j 0)/\∃m,wr=w.drewN m) (fun i _=>n - (intOf i).toNat)
 case atStart=>exact⟨0,Nat.zero_le _,rfl,fun _ h=>absurd h (Nat.not_lt_zero _),0,rfl⟩
 case round=>
  exact zw
theorem aCj (w:World) (u v:Value) (za zb:List Int) (ha:dE w u za) (hb:dE w v zb) (hl:za.length<=maxLen):
  Calls prog 296 #[u,v] w fun e w'=>e=.returned (.bool (decide (za=zb)))/\∃m,w'=w.drewN m:=by
 obtain⟨⟨x,c,hx⟩,qa⟩:=ha.cases;obtain⟨⟨y,d,hy⟩,qb⟩:=hb.cases
 by_cases h:za.length≠zb.length\/(za.length=0/\zb.length=0)
 ·rw[hx,hy]
  refine (aCH x y _ _ c d w h).mono fun e w' ⟨he,hw⟩=>⟨?_,0,hw.symm⟩
  exact zAK
 ·have e:za.length=zb.length:=o_
  rcases qa with qa|⟨b,o,c,rfl,hca⟩
  ·omega
  rcases qb with qb|⟨b',o',c',rfl,hcb⟩
  ·omega
  rw[<-e]at hcb ⊢;exact aET b o c b' o' c' _ za zb w hl rfl e.symm hca hcb
end Go.Proofs.YtcblbdpdbggkbaaGreat
namespace Go.Proofs.YtcblbdpdbggkbaaGreat
open _root_.Go.Proofs.Tryz
open Go.RowKit Go.Sort
namespace N
theorem jN {a b:Sm} (h:a≠b):mO a b=false:=by
 rw[Bool.eq_false_iff];exact fun e=>h (qD.1 e)
theorem aAX {w:World} {v:Value} {l:List Int} (h:dE w v l):l.length<=maxLen:=by
 rcases h with ⟨_,rfl⟩|⟨_,_,c,_,h1,h2,_⟩
 ·exact Nat.zero_le _
 ·omega
theorem aCR {w:World} {x:Option Addr} {n c:Nat} {rs:List (List Int)} (h:Rws w (.slice x n c) rs) {k:Nat} (hk:k<rs.length):∃b o v,x=some ⟨b,o,Option.none⟩/\w.cell? ⟨b,o+k,Option.none⟩=some v/\dE w v (rs.getD k []):=by
 obtain⟨_,q⟩:=h.cases;rcases q with q|⟨b,o,c',e,hc⟩
 ·omega
 ·obtain⟨v,h1,h2⟩:=hc k hk
  exact⟨b,o,v,(Value.slice.inj e).1,h1,h2⟩
theorem tW {a b:List (Int × Int)} (h:a.length=b.length) (h2:∀i,i<a.length->a.getD i (0,0)=b.getD i (0,0)):a=b:=of_decide_eq_true (iH (d:=((0,0):Int × Int)) rfl h.symm h2)
theorem aGF {w:World} {v:Value} {rs:List (List Int)} (h:Rws w v rs):rs.length<=maxLen:=by
 rcases h with ⟨_,rfl⟩|⟨_,_,c,_,h1,h2,_⟩
 ·exact Nat.zero_le _
 ·omega
theorem aCf (w:World) {V1 V2:SV} {s1 s2:Sm} (h1:RdS w V1 s1) (h2:RdS w V2 s2):
  Calls prog 266 #[.agg #[.slice V1.xr V1.nr V1.cr,.slice V1.xf V1.nf V1.cf,.slice V1.xt V1.nt V1.ct,iv s1.lo,iv s1.al,.slice V1.xk V1.nk V1.ck,iv s1.ka],.agg #[.slice V2.xr V2.nr V2.cr,.slice V2.xf V2.nf V2.cf,.slice V2.xt V2.nt V2.ct,iv s2.lo,iv s2.al,.slice V2.xk V2.nk V2.ck,iv s2.ka]] w fun e w'=>e=.returned (.bool (mO s1 s2))/\Below w.heap.size w w':=by
 obtain⟨a1,a2,a3,a4⟩:=h1.lens;obtain⟨b1,b2,b3,b4⟩:=h2.lens;obtain⟨xr,nr,cr,xf,nf,cf,xt,nt,ct,xk,nk,ck⟩:=V1;obtain⟨yr,mr,dr,yf,mf,df,yt,mt,dt,yk,mk,dk⟩:=V2;simp only at a1 a2 a3 a4 b1 b2 b3 b4;subst a1 a2 a3 a4 b1 b2 b3 b4;have M1:=aGF h1.r;have M2:=aAX h1.f;have M3:s1.ps.length<=maxLen:=by obtain⟨x,c,e,l1,l2⟩:=h1.t.form;omega
 have M4:s1.ks.length<=maxLen:=by obtain⟨x,c,e,l1,l2⟩:=h1.k.form;omega
 unfold maxLen at M1 M2 M3 M4;have H0:=((M.start w).alloc #[.slice xr s1.rs.length cr,.slice xf s1.zs.length cf,.slice xt s1.ps.length ct,iv s1.lo,iv s1.al,.slice xk s1.ks.length ck,iv s1.ka] 46).alloc #[.slice yr s2.rs.length dr,.slice yf s2.zs.length df,.slice yt s2.ps.length dt,iv s2.lo,iv s2.al,.slice yk s2.ks.length dk,iv s2.ka] 46;simp only[World.size_alloc]at H0
 go_enter func266,ntmps266;go_upto_region 1 with fail
 obtain⟨p1,hp1⟩:=nm_ w.heap.size;obtain⟨p2,hp2⟩:=nm_ (w.heap.size+1);have HP:=hd_ hp1;rw[<-hp2, <-hp1]at H0;rw[<-hp2, <-hp1];clear hp1 hp2
 generalize ((w.alloc (.cells #[.slice xr s1.rs.length cr,.slice xf s1.zs.length cf,.slice xt s1.ps.length ct,iv s1.lo,iv s1.al,.slice xk s1.ks.length ck,iv s1.ka] 46)).alloc (.cells #[.slice yr s2.rs.length dr,.slice yf s2.zs.length df,.slice yt s2.ps.length dt,iv s2.lo,iv s2.al,.slice yk s2.ks.length dk,iv s2.ka] 46))=w1 at H0 ⊢;have H:=hd_ H0;have R1:=hd_ h1;have R2:=hd_ h2;clear h1 h2 H0
 simp only[List.append_eq,List.cons_append,List.nil_append];obtain⟨c0,c1,c2,c3,c4,c5,c6⟩:=H.out.p1.cells7;obtain⟨d0,d1,d2,d3,d4,d5,d6⟩:=H.out.cells7
 by_cases q1:s1.rs.length=s2.rs.length
 case neg=>
  have g:((s1.rs.length:Int) != (s2.rs.length:Int))=true:=by simp;omega
  have F:=hd_ (jN (a:=s1) (b:=s2) fun e=>q1 (by rw[e]));clear q1;exact zAe
 have g1:((s1.rs.length:Int) != (s2.rs.length:Int))=false:=by simp;omega
 have KZ:=hd_ (aCj _ _ _ _ _ (R1.out.f.below H.out.below (Nat.le_of_eq HP.out.symm)) (R2.out.f.below H.out.below (Nat.le_of_eq HP.out.symm)) (by unfold maxLen;exact M2));unfold SV.f at KZ;simp only at KZ;have Q1:=hd_ q1;clear q1
 go_wp2_with fail
 refine KZ.out.mono ?_;rintro e w2 ⟨rfl,m,rfl⟩;clear KZ c0 c1 c2 c3 c4 c5 c6 d0 d1 d2 d3 d4 d5 d6;have H1:=hd_ (H.out.later (below_drewN (Below.refl _ _) m));clear H;generalize World.drewN _ m=w2 at H1 ⊢;obtain⟨c0,c1,c2,c3,c4,c5,c6⟩:=H1.out.p1.cells7;obtain⟨d0,d1,d2,d3,d4,d5,d6⟩:=H1.out.cells7
 by_cases q2:s1.zs=s2.zs
 case neg=>
  have g:decide (s1.zs=s2.zs)=false:=decide_eq_false q2;have F:=hd_ (jN (a:=s1) (b:=s2) fun e=>q2 (by rw[e]));clear q2;exact zAz
 have g2:decide (s1.zs=s2.zs)=true:=decide_eq_true q2;have Q2:=hd_ q2;clear q2
 by_cases q3:s1.lo=s2.lo
 case neg=>
  have g:(s1.lo != s2.lo)=true:=by simpa using q3
  have F:=hd_ (jN (a:=s1) (b:=s2) fun e=>q3 (by rw[e]));clear q3;exact zAz
 have g3:(s1.lo != s2.lo)=false:=by simpa using q3
 have Q3:=hd_ q3;clear q3
 by_cases q4:s1.al=s2.al
 case neg=>
  have g:(s1.al != s2.al)=true:=by simpa using q4
  have F:=hd_ (jN (a:=s1) (b:=s2) fun e=>q4 (by rw[e]));clear q4;exact zAz
 have g4:(s1.al != s2.al)=false:=by simpa using q4
 have Q4:=hd_ q4;clear q4
 by_cases q5:s1.ka=s2.ka
 case neg=>
  have g:(s1.ka != s2.ka)=true:=by simpa using q5
  have F:=hd_ (jN (a:=s1) (b:=s2) fun e=>q5 (by rw[e]));clear q5;exact zAz
 have g5:(s1.ka != s2.ka)=false:=by simpa using q5
 have Q5:=hd_ q5;clear q5
 by_cases q6:s1.ps.length=s2.ps.length
 case neg=>
  have g:((s1.ps.length:Int) != (s2.ps.length:Int))=true:=by simp;omega
  have F:=hd_ (jN (a:=s1) (b:=s2) fun e=>q6 (by rw[e]));clear q6;exact zAz
 have g6:((s1.ps.length:Int) != (s2.ps.length:Int))=false:=by simp;omega
 have Q6:=hd_ q6;clear q6
 by_cases q7:s1.ks.length=s2.ks.length
 case neg=>
  have g:((s1.ks.length:Int) != (s2.ks.length:Int))=true:=by simp;omega
  have F:=hd_ (jN (a:=s1) (b:=s2) fun e=>q7 (by rw[e]));clear q7;exact zAz
 have g7:((s1.ks.length:Int) != (s2.ks.length:Int))=false:=by simp;omega
 have Q7:=hd_ q7;clear q7;go_wp2;clear c0 c1 c2 c3 c4 c5 c6 d0 d1 d2 d3 d4 d5 d6 g1 g2 g3 g4 g5 g6 g7
 go_loopw [5] (fun i wr=>∃k:Nat,k<=s1.rs.length/\i=.int .i64 k/\(∀j,j<k->s1.rs.getD j []=s2.rs.getD j [])/\M p1 w wr [aL p2 46 #[.slice yr s2.rs.length dr,.slice yf s2.zs.length df,.slice yt s2.ps.length dt,iv s2.lo,iv s2.al,.slice yk s2.ks.length dk,iv s2.ka],aL p1 46 #[.slice xr s1.rs.length cr,.slice xf s1.zs.length cf,.slice xt s1.ps.length ct,iv s1.lo,iv s1.al,.slice xk s1.ks.length ck,iv s1.ka]]) (fun i _=>s1.rs.length - (intOf i).toNat)
 case atStart=>exact⟨0,Nat.zero_le _,rfl,fun _ h=>absurd h (Nat.not_lt_zero _),H1.out⟩
 case round=>
  clear H1;obtain⟨k,hk,rfl,heq,h⟩:=hrel;have HE:=hd_ heq;have H:=hd_ h;clear heq h
  by_cases hlt:k<s1.rs.length
  ·obtain⟨b1,o1,v1,rfl,rc1,ri1⟩:=aCR (R1.out.r.below H.out.below (Nat.le_of_eq HP.out.symm)) hlt
   obtain⟨b2,o2,v2,rfl,rc2,ri2⟩:=aCR (R2.out.r.below H.out.below (Nat.le_of_eq HP.out.symm)) (k:=k) (by rw[<-Q1.out];exact hlt);have k0:(0:Int)<=(k:Int):=o_;have k1:(k:Int)<(s1.rs.length:Int):=o_;have k2:(k:Int)<(s2.rs.length:Int):=by have:=Q1.out;omega
   obtain⟨c0,c1,c2,c3,c4,c5,c6⟩:=H.out.p1.cells7;obtain⟨d0,d1,d2,d3,d4,d5,d6⟩:=H.out.cells7;obtain⟨l1,hl1⟩:=nm_ (s1.rs.getD k []);obtain⟨l2,hl2⟩:=nm_ (s2.rs.getD k []);rw[<-hl1]at ri1;rw[<-hl2]at ri2;have HL1:=hd_ hl1;have HL2:=hd_ hl2;clear hl1 hl2;have KZ:=hd_ (aCj wr.drew v1 v2 l1 l2 ri1 ri2 (aAX ri1));clear c1 c2 c3 c4 c5 c6 d1 d2 d3 d4 d5 d6 ri1 ri2;go_upto_region 6 with fail
   refine aC 99 (.tk 0 12 (.alt 12 (.take 13 .done) .nomore)) (fun w'=>w'.cell? ⟨p1,0,Option.none⟩=some (.slice (some ⟨b1,o1,Option.none⟩) s1.rs.length cr)/\w'.cell? ⟨p2,0,Option.none⟩=some (.slice (some ⟨b2,o2,Option.none⟩) s2.rs.length dr)/\w'.cell? ⟨b1,o1+k,Option.none⟩=some v1/\w'.cell? ⟨b2,o2+k,Option.none⟩=some v2) kr_ kr_ (fun _ _ _ _ _ h=>h) ⟨c0,d0,rc1,rc2⟩ ?_
   repeat (first|refine tA_ ?_|refine tB_ ?_)
   have S0:Hid (_/\_/\_/\_):=hd_ ⟨c0,d0,rc1,rc2⟩;clear c0 d0 rc1 rc2;refine aB r_ (fun K' hK=>?_);go_simp;refine KZ.out.mono ?_;rintro e w3 ⟨rfl,m,rfl⟩;clear KZ;have H3:=hd_ (H.out.drew.later (below_drewN (Below.refl _ _) m));clear H;refine hK _ _ (.inr S0.out) ?_;clear hK K'
   try refine tP_ ?_
   clear S0;generalize World.drewN _ m=w3 at H3 ⊢
   by_cases eq:l1=l2
   case neg=>
    have g:decide (l1=l2)=false:=decide_eq_false eq;have F:=hd_ (jN (a:=s1) (b:=s2) fun e=>eq (by rw[HL1.out,HL2.out,e]));clear eq
    repeat (first|refine tA_ ?_|refine tB_ ?_)
    refine aD ?_;go_wp2;go_ret;exact⟨by rw[F.out];rfl,by have:=H3.out.below;rwa[HP.out]at this⟩
   have g:decide (l1=l2)=true:=decide_eq_true eq;have HE2:Hid (∀j,j<k+1->s1.rs.getD j []=s2.rs.getD j []):=hd_ fun j hj=>by
    by_cases h:j<k
    ·exact HE.out j h
    ·obtain rfl:j=k:=o_
     rw[<-HL1.out, <-HL2.out,eq]
   clear eq
   repeat (first|refine tA_ ?_|refine tB_ ?_)
   refine aD ?_;go_wp2;go_roundw
   case rel=>exact⟨k+1,o_,gn_,HE2.out,H3.out⟩
   case measure=>simp[intOf];omega
  ·have ER:Hid (s1.rs=s2.rs):=hd_ (of_decide_eq_true (iH (d:=[]) rfl Q1.out.symm (fun i hi=>HE.out i o_)))
   have g:decide (k<s1.rs.length)=false:=by simpa using hlt
   obtain⟨c0,c1,c2,c3,c4,c5,c6⟩:=H.out.p1.cells7;obtain⟨d0,d1,d2,d3,d4,d5,d6⟩:=H.out.cells7;clear HE;go_wp2;clear c0 c1 c2 c3 c4 c5 c6 d0 d1 d2 d3 d4 d5 d6 g hlt
   go_loopw [6] (fun i wr=>∃k:Nat,k<=s1.ps.length/\i=.int .i64 k/\(∀j,j<k->T.pr s1.ps j=T.pr s2.ps j)/\M p1 w wr [aL p2 46 #[.slice yr s2.rs.length dr,.slice yf s2.zs.length df,.slice yt s2.ps.length dt,iv s2.lo,iv s2.al,.slice yk s2.ks.length dk,iv s2.ka],aL p1 46 #[.slice xr s1.rs.length cr,.slice xf s1.zs.length cf,.slice xt s1.ps.length ct,iv s1.lo,iv s1.al,.slice xk s1.ks.length ck,iv s1.ka]]) (fun i _=>s1.ps.length - (intOf i).toNat)
   case atStart=>exact⟨0,Nat.zero_le _,rfl,fun _ h=>absurd h (Nat.not_lt_zero _),H.out⟩
   case round=>
    clear H;obtain⟨k,hk,rfl,heq,h⟩:=hrel;have HE:=hd_ heq;have H:=hd_ h;clear heq h
    by_cases hlt:k<s1.ps.length
    ·obtain⟨b1,o1,rfl,_,ra1,rb1⟩:=(R1.out.t.below H.out.below (Nat.le_of_eq HP.out.symm)).cells k hlt
     obtain⟨b2,o2,rfl,_,ra2,rb2⟩:=(R2.out.t.below H.out.below (Nat.le_of_eq HP.out.symm)).cells k (by rw[<-Q6.out];exact hlt);obtain⟨x1,hx1⟩:=nm_ ((T.pr s1.ps k).1);obtain⟨y1,hy1⟩:=nm_ ((T.pr s1.ps k).2);obtain⟨x2,hx2⟩:=nm_ ((T.pr s2.ps k).1);obtain⟨y2,hy2⟩:=nm_ ((T.pr s2.ps k).2);rw[<-hx1]at ra1;rw[<-hy1]at rb1;rw[<-hx2]at ra2;rw[<-hy2]at rb2
     have EQ:Hid (T.pr s1.ps k=T.pr s2.ps k↔x1=x2/\y1=y2):=hd_ (by rw[hx1,hx2,hy1,hy2];exact Prod.ext_iff);clear hx1 hx2 hy1 hy2;have k0:(0:Int)<=(k:Int):=o_;have k1:(k:Int)<(s1.ps.length:Int):=o_;have k2:(k:Int)<(s2.ps.length:Int):=by have:=Q6.out;omega
     obtain⟨c0,c1,c2,c3,c4,c5,c6⟩:=H.out.p1.cells7;obtain⟨d0,d1,d2,d3,d4,d5,d6⟩:=H.out.cells7;have H2:=hd_ H.out.drew;go_upto_region 11 with fail
     refine aC 99 (.tk 0 13 .done) (fun w'=>w'.cell? ⟨p1,2,Option.none⟩=some (.slice (some ⟨b1,o1,Option.none⟩) s1.ps.length ct)/\w'.cell? ⟨p2,2,Option.none⟩=some (.slice (some ⟨b2,o2,Option.none⟩) s2.ps.length dt)/\w'.cell? ⟨b1,o1+k * 2,Option.none⟩=some (.int .i64 x1)/\w'.cell? ⟨b1,o1+k * 2+1,Option.none⟩=some (.int .i64 y1)/\w'.cell? ⟨b2,o2+k * 2,Option.none⟩=some (.int .i64 x2)/\w'.cell? ⟨b2,o2+k * 2+1,Option.none⟩=some (.int .i64 y2)) kr_ kr_ (fun _ _ _ _ _ h=>h) ⟨c2,d2,ra1,rb1,ra2,rb2⟩ ?_
     clear c0 c1 c2 c3 c4 c5 c6 d0 d1 d2 d3 d4 d5 d6 ra1 rb1 ra2 rb2 H;generalize wr.drew=w3 at H2 ⊢
     by_cases eq:x1=x2/\y1=y2
     case neg=>
      exact zAf
     have HE2:Hid (∀j,j<k+1->T.pr s1.ps j=T.pr s2.ps j):=hd_ fun j hj=>by
      exact zA4
     obtain⟨rfl,rfl⟩:=eq;exact zBg
    ·have Eps:Hid (s1.ps=s2.ps):=hd_ (tW Q6.out (fun i hi=>HE.out i o_))
     have g:decide (k<s1.ps.length)=false:=by simpa using hlt
     obtain⟨c0,c1,c2,c3,c4,c5,c6⟩:=H.out.p1.cells7;obtain⟨d0,d1,d2,d3,d4,d5,d6⟩:=H.out.cells7;clear HE;go_wp2;clear c0 c1 c2 c3 c4 c5 c6 d0 d1 d2 d3 d4 d5 d6 g
     go_loopw [7] (fun i wr=>∃k:Nat,k<=s1.ks.length/\i=.int .i64 k/\(∀j,j<k->K.pr s1.ks j=K.pr s2.ks j)/\M p1 w wr [aL p2 46 #[.slice yr s2.rs.length dr,.slice yf s2.zs.length df,.slice yt s2.ps.length dt,iv s2.lo,iv s2.al,.slice yk s2.ks.length dk,iv s2.ka],aL p1 46 #[.slice xr s1.rs.length cr,.slice xf s1.zs.length cf,.slice xt s1.ps.length ct,iv s1.lo,iv s1.al,.slice xk s1.ks.length ck,iv s1.ka]]) (fun i _=>s1.ks.length - (intOf i).toNat)
     case atStart=>exact⟨0,Nat.zero_le _,rfl,fun _ h=>absurd h (Nat.not_lt_zero _),H.out⟩
     case round=>
      clear H;obtain⟨k,hk,rfl,heq,h⟩:=hrel;have HE:=hd_ heq;have H:=hd_ h;clear heq h
      by_cases hlt:k<s1.ks.length
      ·obtain⟨b1,o1,rfl,_,ra1,rb1⟩:=(R1.out.k.below H.out.below (Nat.le_of_eq HP.out.symm)).cells k hlt
       obtain⟨b2,o2,rfl,_,ra2,rb2⟩:=(R2.out.k.below H.out.below (Nat.le_of_eq HP.out.symm)).cells k (by rw[<-Q7.out];exact hlt);obtain⟨x1,hx1⟩:=nm_ ((K.pr s1.ks k).1);obtain⟨y1,hy1⟩:=nm_ ((K.pr s1.ks k).2);obtain⟨x2,hx2⟩:=nm_ ((K.pr s2.ks k).1);obtain⟨y2,hy2⟩:=nm_ ((K.pr s2.ks k).2);rw[<-hx1]at ra1;rw[<-hy1]at rb1;rw[<-hx2]at ra2;rw[<-hy2]at rb2
       have EQ:Hid (K.pr s1.ks k=K.pr s2.ks k↔x1=x2/\y1=y2):=hd_ (by rw[hx1,hx2,hy1,hy2];exact Prod.ext_iff);clear hx1 hx2 hy1 hy2;have k0:(0:Int)<=(k:Int):=o_;have k1:(k:Int)<(s1.ks.length:Int):=o_;have k2:(k:Int)<(s2.ks.length:Int):=by have:=Q7.out;omega
       obtain⟨c0,c1,c2,c3,c4,c5,c6⟩:=H.out.p1.cells7;obtain⟨d0,d1,d2,d3,d4,d5,d6⟩:=H.out.cells7;have H2:=hd_ H.out.drew;go_upto_region 16 with fail
       refine aC 99 (.tk 0 13 .done) (fun w'=>w'.cell? ⟨p1,5,Option.none⟩=some (.slice (some ⟨b1,o1,Option.none⟩) s1.ks.length ck)/\w'.cell? ⟨p2,5,Option.none⟩=some (.slice (some ⟨b2,o2,Option.none⟩) s2.ks.length dk)/\w'.cell? ⟨b1,o1+k * 2,Option.none⟩=some (.int .i64 x1)/\w'.cell? ⟨b1,o1+k * 2+1,Option.none⟩=some (.int .i64 y1)/\w'.cell? ⟨b2,o2+k * 2,Option.none⟩=some (.int .i64 x2)/\w'.cell? ⟨b2,o2+k * 2+1,Option.none⟩=some (.int .i64 y2)) kr_ kr_ (fun _ _ _ _ _ h=>h) ⟨c5,d5,ra1,rb1,ra2,rb2⟩ ?_
       clear c0 c1 c2 c3 c4 c5 c6 d0 d1 d2 d3 d4 d5 d6 ra1 rb1 ra2 rb2 H;generalize wr.drew=w3 at H2 ⊢
       by_cases eq:x1=x2/\y1=y2
       case neg=>
        exact zAf
       have HE2:Hid (∀j,j<k+1->K.pr s1.ks j=K.pr s2.ks j):=hd_ fun j hj=>by
        exact zA4
       obtain⟨rfl,rfl⟩:=eq;exact zBg
      ·have Eks:Hid (s1.ks=s2.ks):=hd_ (tW Q7.out (fun i hi=>HE.out i o_))
       have g:decide (k<s1.ks.length)=false:=by simpa using hlt
       obtain⟨c0,c1,c2,c3,c4,c5,c6⟩:=H.out.p1.cells7;obtain⟨d0,d1,d2,d3,d4,d5,d6⟩:=H.out.cells7;clear HE;go_wp2;go_ret;have F:mO s1 s2=true:=qD.2 (by
                have a1:=ER.out;have a2:=Q2.out;have a3:=Eps.out;have a4:=Q3.out;have a5:=Q4.out;have a6:=Eks.out;have a7:=Q5.out
                cases s1;cases s2
                simp only at a1 a2 a3 a4 a5 a6 a7
                rw[a1,a2,a3,a4,a5,a6,a7])
       exact⟨by rw[F];rfl,by have:=H.out.below;rwa[HP.out]at this⟩
end N
end Go.Proofs.YtcblbdpdbggkbaaGreat
namespace Go.Proofs.YtcblbdpdbggkbaaGreat
open _root_.Go.Proofs.Tryz
open Go.RowKit Go.Sort
theorem qZ (w:World) (V:SV) (s:Sm) (h1:RdS w V s):
  Calls prog 169 #[.agg #[.slice V.xr V.nr V.cr,.slice V.xf V.nf V.cf,.slice V.xt V.nt V.ct,iv s.lo,iv s.al,.slice V.xk V.nk V.ck,iv s.ka]] w fun e w'=>e=.returned (.bool (okS s))/\Below w.heap.size w w':=by
 have hA:=(Below.refl w.heap.size w).alloc lr_ (.cells (cS V s) 46);have X:=aR.new w 46 (.slice V.xr V.nr V.cr) (.slice V.xf V.nf V.cf) (.slice V.xt V.nt V.ct) (iv s.lo) (iv s.al) (.slice V.xk V.nk V.ck) (iv s.ka);obtain⟨W0,hW⟩:=nm_ (w.alloc (.cells (cS V s) 46));rw[<-hW]at hA X;have B:=hd_ hA;have RD:=h1.below hA lr_;have fl:=h1.lens.2.1
 have KR:=fun d os=>Calls.regrown_of (xC _ s.rs (grow (redrawn W0 d) os) (RD.r.below (below_regrown W0 d os) lr_))
 have KF:=fun d os=>Calls.regrown_of (uX (grow (redrawn W0 d) os) _ s.zs (RD.f.below (below_regrown W0 d os) lr_))
 have KT:=fun d os=>Calls.regrown_of (T.vB (grow (redrawn W0 d) os) _ s.ps s.lo s.al (RD.t.below (below_regrown W0 d os) lr_))
 have KK:=fun d os=>Calls.regrown_of (K.rZ (grow (redrawn W0 d) os) _ s.ks s.ka (RD.k.below (below_regrown W0 d os) lr_))
 have KA:=fun d os=>Calls.regrown_of (sQ (grow (redrawn W0 d) os) _ s.rs (RD.r.below (below_regrown W0 d os) lr_))
 unfold SV.r at KR KA;unfold SV.f at KF;unfold SV.t at KT;unfold SV.k at KK;unfold okS;rw[<-fl];clear RD h1 hA fl;obtain⟨xr,nr,cr,xf,nf,cf,xt,nt,ct,xk,nk,ck⟩:=V;obtain⟨rs,zs,ps,lo,al,ks,ka⟩:=s;simp only at KR KF KT KK KA X hW ⊢;generalize okB rs=o1 at KR ⊢;generalize fD zs=o2 at KF ⊢;generalize T.dB ps lo al=o3 at KT ⊢;generalize K.cX ks ka=o4 at KK ⊢;generalize dD rs=rv at KA ⊢
 have HR:=hd_ KR;have HF:=hd_ KF;have HT:=hd_ KT;have HK:=hd_ KK;have HA:=hd_ KA;clear KR KF KT KK KA;obtain⟨x0,x1,x2,x3,x4,x5,x6⟩:=X.cells;have c0:=cell_regrown x0;have c1:=cell_regrown x1;have c2:=cell_regrown x2;have c3:=cell_regrown x3;have c4:=cell_regrown x4;have c5:=cell_regrown x5;have c6:=cell_regrown x6;clear X x0 x1 x2 x3 x4 x5 x6;cases o1 with
 |false=>
  exact zd
 |true=>
  cases o2 with
  |false=>
   exact zd
  |true=>
   cases o3 with
   |false=>
    exact zd
   |true=>
    cases o4 with
    |false=>
     exact zd
    |true=>
     by_cases ha:rv=al
     ·have d1:decide (rv=al)=true:=decide_eq_true ha
      have q1:(rv==al)=true:=by simpa using ha
      by_cases hk:al=ka
      ·have d2:decide (al=ka)=true:=decide_eq_true hk
       have q2:(al==ka)=true:=by simpa using hk
       rw[d1,d2];clear d1 d2 ha hk;go_enter func169,ntmps169;go_wp2;rw[<-hW];clear hW;refine fA kr_ kr_ ?_
       repeat (refine dX (fun K hK=>?_);go_simp;first|(refine hK _ ?_;clear hK K)|(apply Exists.intro;refine⟨fun _=>?_,hK _ ?_⟩;(first|(with_reducible exact HR.out _ _)|(with_reducible exact HF.out _ _)|(with_reducible exact HT.out _ _)|(with_reducible exact HK.out _ _)|(with_reducible exact HA.out _ _));clear hK K))
       refine fF ?_;intro _ hw';obtain⟨⟨dq,oq⟩,hw''⟩:=hw';subst hw'';have hb_w1:=below_regrown W0 dq oq;obtain⟨w1,hq_w1⟩:=nm_ (grow (redrawn W0 dq) oq);rw[<-hq_w1]at hb_w1 ⊢;clear hq_w1;go_wp2;go_ret;exact⟨by first|rfl|(simp;done)|(refine congrArg (fun b=>Ending.returned (Value.bool b)) ?_;rw[Bool.eq_iff_iff];simp),B.out.trans (hb_w1.mono B.out.size)⟩
      ·have d2:decide (al=ka)=false:=decide_eq_false hk
       have q2:(al==ka)=false:=by simpa using hk
       rw[d1,d2];clear d1 d2 ha hk;exact zd
     ·have d1:decide (rv=al)=false:=decide_eq_false ha
      have q1:(rv==al)=false:=by simpa using ha
      rw[d1];clear d1 ha;exact zd
theorem aCW (w:World) (V1:SV) (a:Sm) (t:Int) (h1:RdS w V1 a) (okA:okS a=false):
  Calls prog 295 #[.agg #[.slice V1.xr V1.nr V1.cr,.slice V1.xf V1.nf V1.cf,.slice V1.xt V1.nt V1.ct,iv a.lo,iv a.al,.slice V1.xk V1.nk V1.ck,iv a.ka],iv t] w fun e w'=>∃U,e=.returned (.tuple #[.agg #[.slice U.xr U.nr U.cr,.slice U.xf U.nf U.cf,.slice U.xt U.nt U.ct,.int .i64 (dC a t).lo,.int .i64 (dC a t).al,.slice U.xk U.nk U.ck,.int .i64 (dC a t).ka],.bool (cF a t)])/\bN w' w.heap.size w'.heap.size U (dC a t)/\Below w.heap.size w w':=by
 have hno:cF a t=false:=by unfold cF;rw[okA];rfl
 have hA:=((Below.refl w.heap.size w).alloc lr_ (.cells (cS V1 a) 46)).alloc (by simp) (.cells #[zn,zn,zn,iv 0,iv 0,zn,iv 0] 46);have XA:=(aR.new w 46 (.slice V1.xr V1.nr V1.cr) (.slice V1.xf V1.nf V1.cf) (.slice V1.xt V1.nt V1.ct) (iv a.lo) (iv a.al) (.slice V1.xk V1.nk V1.ck) (iv a.ka)).alloc (.cells #[zn,zn,zn,iv 0,iv 0,zn,iv 0] 46)
 have R:=aR.new (w.alloc (.cells (cS V1 a) 46)) 46 zn zn zn (iv 0) (iv 0) zn (iv 0);rw[World.size_alloc]at R;obtain⟨axa0,axa1,axa2,axa3,axa4,axa5,axa6⟩:=(XA).cells;obtain⟨W0,hW⟩:=nm_ ((w.alloc (.cells (cS V1 a) 46)).alloc (.cells #[zn,zn,zn,iv 0,iv 0,zn,iv 0] 46));rw[<-hW]at hA XA R;have B:=hd_ hA;have H1:=hd_ h1;have SZ:Hid (W0.heap.size=w.heap.size+2):=by show _=_;rw[hW];simp
 clear hA h1;have K1:=qZ W0 V1 a (H1.out.below B.out lr_);rw[okA]at K1;go_enter func295,ntmps295
 go_wp2_with fail
 rw[<-hW];clear hW axa0 axa1 axa2 axa3 axa4 axa5 axa6;refine (K1).mono ?_;rintro e w1 ⟨rfl,hb⟩;clear K1;have SZ1:=hd_ hb.size;replace XA:=XA.later hb;replace R:=R.later hb;replace B:=hd_ (B.out.trans (hb.mono B.out.size));clear hb;obtain⟨cr0,cr1,cr2,cr3,cr4,cr5,cr6⟩:=(R).cells;have frr:=R.free;have fin:=R.set zn zn zn (iv 0) (iv 0) zn (iv 0)
 have OF:=bN.box7 (bN.none _ _ _ B.out.size lr_) R zn zn zn (iv 0) (iv 0) zn (iv 0);have BF:=bB B.out (Nat.le_add_right w.heap.size 1) zn zn zn (iv 0) (iv 0) zn (iv 0);have SF:=cT w1 (w.heap.size+1) zn zn zn (iv 0) (iv 0) zn (iv 0);have HF:=hd_ (And.intro (bN.base OF lr_ (Nat.le_of_eq SF.symm) lr_) BF);have HY:=hd_ fin;clear fin OF BF SF;go_wp2
 show bodyPost _ _ _ _ _ (set7 w1 (w.heap.size+1) zn zn zn (iv 0) (iv 0) zn (iv 0))
 obtain⟨d0,d1,d2,d3,d4,d5,d6⟩:=HY.out.cells;generalize set7 w1 (w.heap.size+1) zn zn zn (iv 0) (iv 0) zn (iv 0)=WF at HF d0 d1 d2 d3 d4 d5 d6 ⊢;refine bodyPost_ret (v:=.tuple #[.agg #[zn,zn,zn,iv 0,iv 0,zn,iv 0],.bool false]) (by simp[results,results295,go_sem,d0,d1,d2,d3,d4,d5,d6]) rfl ?_;rw[nA hno,hno];exact⟨SV.none,rfl,HF.out⟩
theorem aDb (w:World) (V1:SV) (a:Sm) (t:Int) (h1:RdS w V1 a) (okA:okS a=true) (ht:t<0\/63<t):
  Calls prog 295 #[.agg #[.slice V1.xr V1.nr V1.cr,.slice V1.xf V1.nf V1.cf,.slice V1.xt V1.nt V1.ct,iv a.lo,iv a.al,.slice V1.xk V1.nk V1.ck,iv a.ka],iv t] w fun e w'=>∃U,e=.returned (.tuple #[.agg #[.slice U.xr U.nr U.cr,.slice U.xf U.nf U.cf,.slice U.xt U.nt U.ct,.int .i64 (dC a t).lo,.int .i64 (dC a t).al,.slice U.xk U.nk U.ck,.int .i64 (dC a t).ka],.bool (cF a t)])/\bN w' w.heap.size w'.heap.size U (dC a t)/\Below w.heap.size w w':=by
 have hno:cF a t=false:=by unfold cF;rw[okA,decide_eq_false o_];rfl
 have hA:=((Below.refl w.heap.size w).alloc lr_ (.cells (cS V1 a) 46)).alloc (by simp) (.cells #[zn,zn,zn,iv 0,iv 0,zn,iv 0] 46);have XA:=(aR.new w 46 (.slice V1.xr V1.nr V1.cr) (.slice V1.xf V1.nf V1.cf) (.slice V1.xt V1.nt V1.ct) (iv a.lo) (iv a.al) (.slice V1.xk V1.nk V1.ck) (iv a.ka)).alloc (.cells #[zn,zn,zn,iv 0,iv 0,zn,iv 0] 46)
 have R:=aR.new (w.alloc (.cells (cS V1 a) 46)) 46 zn zn zn (iv 0) (iv 0) zn (iv 0);rw[World.size_alloc]at R;obtain⟨axa0,axa1,axa2,axa3,axa4,axa5,axa6⟩:=(XA).cells;obtain⟨W0,hW⟩:=nm_ ((w.alloc (.cells (cS V1 a) 46)).alloc (.cells #[zn,zn,zn,iv 0,iv 0,zn,iv 0] 46));rw[<-hW]at hA XA R;have B:=hd_ hA;have H1:=hd_ h1;have SZ:Hid (W0.heap.size=w.heap.size+2):=by show _=_;rw[hW];simp
 clear hA h1;have K1:=qZ W0 V1 a (H1.out.below B.out lr_);rw[okA]at K1;go_enter func295,ntmps295
 go_wp2_with fail
 rw[<-hW];clear hW axa0 axa1 axa2 axa3 axa4 axa5 axa6;refine (K1).mono ?_;rintro e w1 ⟨rfl,hb⟩;clear K1;have SZ1:=hd_ hb.size;replace XA:=XA.later hb;replace R:=R.later hb;replace B:=hd_ (B.out.trans (hb.mono B.out.size));clear hb;obtain⟨cr0,cr1,cr2,cr3,cr4,cr5,cr6⟩:=(R).cells;have frr:=R.free;have fin:=R.set zn zn zn (iv 0) (iv 0) zn (iv 0)
 have OF:=bN.box7 (bN.none _ _ _ B.out.size lr_) R zn zn zn (iv 0) (iv 0) zn (iv 0);have BF:=bB B.out (Nat.le_add_right w.heap.size 1) zn zn zn (iv 0) (iv 0) zn (iv 0);have SF:=cT w1 (w.heap.size+1) zn zn zn (iv 0) (iv 0) zn (iv 0);have HF:=hd_ (And.intro (bN.base OF lr_ (Nat.le_of_eq SF.symm) lr_) BF);have HY:=hd_ fin;clear fin OF BF SF
 go_wp2_with (go_at_call 66;refine (fZ _ _ _ _ ht).mono ?_;rintro e w' ⟨rfl,rfl⟩)
 show bodyPost _ _ _ _ _ (set7 w1 (w.heap.size+1) zn zn zn (iv 0) (iv 0) zn (iv 0))
 obtain⟨d0,d1,d2,d3,d4,d5,d6⟩:=HY.out.cells;generalize set7 w1 (w.heap.size+1) zn zn zn (iv 0) (iv 0) zn (iv 0)=WF at HF d0 d1 d2 d3 d4 d5 d6 ⊢;refine bodyPost_ret (v:=.tuple #[.agg #[zn,zn,zn,iv 0,iv 0,zn,iv 0],.bool false]) (by simp[results,results295,go_sem,d0,d1,d2,d3,d4,d5,d6]) rfl ?_;rw[nA hno,hno];exact⟨SV.none,rfl,HF.out⟩
theorem aBL (w:World) (V1:SV) (a:Sm) (t:Int) (h1:RdS w V1 a) (okA:okS a=true) (ht:0<=t/\t<=63) (hs:2000<=a.al):
  Calls prog 295 #[.agg #[.slice V1.xr V1.nr V1.cr,.slice V1.xf V1.nf V1.cf,.slice V1.xt V1.nt V1.ct,iv a.lo,iv a.al,.slice V1.xk V1.nk V1.ck,iv a.ka],iv t] w fun e w'=>∃U,e=.returned (.tuple #[.agg #[.slice U.xr U.nr U.cr,.slice U.xf U.nf U.cf,.slice U.xt U.nt U.ct,.int .i64 (dC a t).lo,.int .i64 (dC a t).al,.slice U.xk U.nk U.ck,.int .i64 (dC a t).ka],.bool (cF a t)])/\bN w' w.heap.size w'.heap.size U (dC a t)/\Below w.heap.size w w':=by
 have hno:cF a t=false:=by unfold cF;rw[okA,decide_eq_false (show ¬a.al<2000 by omega),decide_eq_true ht];rfl
 obtain⟨t0,t1⟩:=ht;have hA:=((Below.refl w.heap.size w).alloc lr_ (.cells (cS V1 a) 46)).alloc (by simp) (.cells #[zn,zn,zn,iv 0,iv 0,zn,iv 0] 46);have XA:=(aR.new w 46 (.slice V1.xr V1.nr V1.cr) (.slice V1.xf V1.nf V1.cf) (.slice V1.xt V1.nt V1.ct) (iv a.lo) (iv a.al) (.slice V1.xk V1.nk V1.ck) (iv a.ka)).alloc (.cells #[zn,zn,zn,iv 0,iv 0,zn,iv 0] 46)
 have R:=aR.new (w.alloc (.cells (cS V1 a) 46)) 46 zn zn zn (iv 0) (iv 0) zn (iv 0);rw[World.size_alloc]at R;obtain⟨axa0,axa1,axa2,axa3,axa4,axa5,axa6⟩:=(XA).cells;obtain⟨W0,hW⟩:=nm_ ((w.alloc (.cells (cS V1 a) 46)).alloc (.cells #[zn,zn,zn,iv 0,iv 0,zn,iv 0] 46));rw[<-hW]at hA XA R;have B:=hd_ hA;have H1:=hd_ h1;have SZ:Hid (W0.heap.size=w.heap.size+2):=by show _=_;rw[hW];simp
 clear hA h1;have K1:=qZ W0 V1 a (H1.out.below B.out lr_);rw[okA]at K1;go_enter func295,ntmps295
 go_wp2_with fail
 rw[<-hW];clear hW axa0 axa1 axa2 axa3 axa4 axa5 axa6;refine (K1).mono ?_;rintro e w1 ⟨rfl,hb⟩;clear K1;have SZ1:=hd_ hb.size;replace XA:=XA.later hb;replace R:=R.later hb;replace B:=hd_ (B.out.trans (hb.mono B.out.size));clear hb;obtain⟨cxa0,cxa1,cxa2,cxa3,cxa4,cxa5,cxa6⟩:=(XA).cells;obtain⟨cr0,cr1,cr2,cr3,cr4,cr5,cr6⟩:=(R).cells;have frr:=R.free;have fin:=R.set zn zn zn (iv 0) (iv 0) zn (iv 0)
 have OF:=bN.box7 (bN.none _ _ _ B.out.size lr_) R zn zn zn (iv 0) (iv 0) zn (iv 0);have BF:=bB B.out (Nat.le_add_right w.heap.size 1) zn zn zn (iv 0) (iv 0) zn (iv 0);have SF:=cT w1 (w.heap.size+1) zn zn zn (iv 0) (iv 0) zn (iv 0);have HF:=hd_ (And.intro (bN.base OF lr_ (Nat.le_of_eq SF.symm) lr_) BF);have HY:=hd_ fin;clear fin OF BF SF
 go_wp2_with (go_at_call 66;refine (aS _ _ _ _ t0 t1).mono ?_;rintro e w' ⟨rfl,rfl⟩)
 show bodyPost _ _ _ _ _ (set7 w1 (w.heap.size+1) zn zn zn (iv 0) (iv 0) zn (iv 0))
 obtain⟨d0,d1,d2,d3,d4,d5,d6⟩:=HY.out.cells;generalize set7 w1 (w.heap.size+1) zn zn zn (iv 0) (iv 0) zn (iv 0)=WF at HF d0 d1 d2 d3 d4 d5 d6 ⊢;refine bodyPost_ret (v:=.tuple #[.agg #[zn,zn,zn,iv 0,iv 0,zn,iv 0],.bool false]) (by simp[results,results295,go_sem,d0,d1,d2,d3,d4,d5,d6]) rfl ?_;rw[nA hno,hno];exact⟨SV.none,rfl,HF.out⟩
theorem aDD (w:World) (V1:SV) (a:Sm) (t:Int) (h1:RdS w V1 a) (hok:cF a t=true):
  Calls prog 295 #[.agg #[.slice V1.xr V1.nr V1.cr,.slice V1.xf V1.nf V1.cf,.slice V1.xt V1.nt V1.ct,iv a.lo,iv a.al,.slice V1.xk V1.nk V1.ck,iv a.ka],iv t] w fun e w'=>∃U,e=.returned (.tuple #[.agg #[.slice U.xr U.nr U.cr,.slice U.xf U.nf U.cf,.slice U.xt U.nt U.ct,.int .i64 (dC a t).lo,.int .i64 (dC a t).al,.slice U.xk U.nk U.ck,.int .i64 (dC a t).ka],.bool (cF a t)])/\bN w' w.heap.size w'.heap.size U (dC a t)/\Below w.heap.size w w':=by
 have AA:=aAY hok;have okA:=(eZ _).2 AA.ok;obtain⟨t0,t1⟩:=AA.thing;have rm:¬ 2000<=a.al:=by have:=AA.room;omega
 have JA:=hd_ (show yC a.rs t 1=wM a.rs t 1 by unfold yC;rw[AA.r];rfl);clear AA;have hA:=((Below.refl w.heap.size w).alloc lr_ (.cells (cS V1 a) 46)).alloc (by simp) (.cells #[zn,zn,zn,iv 0,iv 0,zn,iv 0] 46)
 have XA:=(aR.new w 46 (.slice V1.xr V1.nr V1.cr) (.slice V1.xf V1.nf V1.cf) (.slice V1.xt V1.nt V1.ct) (iv a.lo) (iv a.al) (.slice V1.xk V1.nk V1.ck) (iv a.ka)).alloc (.cells #[zn,zn,zn,iv 0,iv 0,zn,iv 0] 46);have R:=aR.new (w.alloc (.cells (cS V1 a) 46)) 46 zn zn zn (iv 0) (iv 0) zn (iv 0);rw[World.size_alloc]at R;obtain⟨axa0,axa1,axa2,axa3,axa4,axa5,axa6⟩:=(XA).cells
 obtain⟨W0,hW⟩:=nm_ ((w.alloc (.cells (cS V1 a) 46)).alloc (.cells #[zn,zn,zn,iv 0,iv 0,zn,iv 0] 46));rw[<-hW]at hA XA R;have B:=hd_ hA;have H1:=hd_ h1;have SZ:Hid (W0.heap.size=w.heap.size+2):=by show _=_;rw[hW];simp
 clear hA h1;have K1:=qZ W0 V1 a (H1.out.below B.out lr_);rw[okA]at K1;go_enter func295,ntmps295
 go_wp2_with fail
 rw[<-hW];clear hW axa0 axa1 axa2 axa3 axa4 axa5 axa6;refine (K1).mono ?_;rintro e w1 ⟨rfl,hb⟩;clear K1;have SZ1:=hd_ hb.size;replace XA:=XA.later hb;replace R:=R.later hb;replace B:=hd_ (B.out.trans (hb.mono B.out.size));clear hb;obtain⟨cxa0,cxa1,cxa2,cxa3,cxa4,cxa5,cxa6⟩:=(XA).cells;have frr:=R.free;have HOK:=hd_ hok;clear hok
 have hA:=B.out.alloc B.out.size (.cells #[zn,zn,zn,iv 0,iv 0,zn,iv 0] 46);have X6:=aR.new w1 46 zn zn zn (iv 0) (iv 0) zn (iv 0);have SZ2:=hd_ (Nat.le_trans (Nat.le_of_eq SZ.out.symm) SZ1.out);have LL:=hd_ B.out.size;obtain⟨W1,hW⟩:=nm_ (w1.alloc (.cells #[zn,zn,zn,iv 0,iv 0,zn,iv 0] 46));replace XA:=XA.alloc (.cells #[zn,zn,zn,iv 0,iv 0,zn,iv 0] 46)
 replace R:=R.alloc (.cells #[zn,zn,zn,iv 0,iv 0,zn,iv 0] 46);obtain⟨bxa0,bxa1,bxa2,bxa3,bxa4,bxa5,bxa6⟩:=(XA).cells;rw[<-hW]at hA X6 XA R;replace B:=hd_ hA;clear hA
 go_wp2_with (go_at_call 66;refine (aS _ _ _ _ t0 t1).mono ?_;rintro e w' ⟨rfl,rfl⟩)
 rw[<-hW];clear hW bxa0 bxa1 bxa2 bxa3 bxa4 bxa5 bxa6;clear cxa0 cxa1 cxa2 cxa3 cxa4 cxa5 cxa6 frr;have Q:=H1.out.below B.out lr_;have K1:=aK9 W1 (.slice V1.xr V1.nr V1.cr) a.rs t 1 Q.r;generalize hA:yC a.rs t 1=A0 at K1;have HA0:=hd_ hA;generalize oL a.rs t 1=ok0 at K1;clear hA Q
 go_wp2_with fail
 refine (K1).mono ?_;rintro e w2 ⟨y0,c0',rfl,ho,hb⟩;obtain⟨m0,hm⟩:=nm_ ((A0).length);rw[<-hm]at ho ⊢;clear hm K1;have M0:=hd_ B.out.size;have q6:=SZ2.out;have N0:=hd_ hb.size;replace XA:=XA.later hb;replace R:=R.later hb;replace B:=hd_ (B.out.trans (hb.mono B.out.size));replace X6:=X6.later hb;have O0:=hd_ (ho);clear hb;obtain⟨W2,hW⟩:=nm_ (w2.setCell ⟨w1.heap.size,0,none⟩ (.slice y0 m0 c0'))
 obtain⟨ax60,ax61,ax62,ax63,ax64,ax65,ax66⟩:=(X6).cells;have frx6:=X6.free;replace B:=hd_ (B.out);replace XA:=XA.kept (aF _ ⟨w1.heap.size,0,none⟩ (.slice y0 m0 c0')) (by simp;omega);replace R:=R.kept (aF _ ⟨w1.heap.size,0,none⟩ (.slice y0 m0 c0')) (by simp;omega);replace B:=hd_ (B.out.setCell (p:=⟨w1.heap.size,0,none⟩) LL.out (.slice y0 m0 c0'))
 replace O0:=hd_ (O0.out.cell7 X6 0 (.slice y0 m0 c0'));replace X6:=X6.set0 (.slice y0 m0 c0');obtain⟨bxa0,bxa1,bxa2,bxa3,bxa4,bxa5,bxa6⟩:=(XA).cells;rw[<-hW]at XA;rw[<-hW]at R;rw[<-hW]at B;rw[<-hW]at X6;rw[<-hW]at O0
 go_wp2_with fail
 rw[<-hW];clear hW ax60 ax61 ax62 ax63 ax64 ax65 ax66 frx6 bxa0 bxa1 bxa2 bxa3 bxa4 bxa5 bxa6;clear ho q6;have Q:=H1.out.below B.out lr_;have K1:=aEK W2 (.slice V1.xf V1.nf V1.cf) a.zs t Q.f;generalize hA:lU a.zs t=A1 at K1;have HA1:=hd_ hA;generalize fC a.zs t=ok1 at K1;clear hA Q
 go_wp2_with fail
 refine (K1).mono ?_;rintro e w3 ⟨v,rfl,ho,hb⟩;obtain⟨y1,c1',rfl⟩:=ho.form';obtain⟨m1,hm⟩:=nm_ ((A1).length);rw[<-hm]at ho ⊢;clear hm K1;have M1:=hd_ B.out.size;have q6:=SZ2.out;have T1:=hd_ O0.out.top;replace XA:=XA.later hb;replace R:=R.later hb;replace B:=hd_ (B.out.trans (hb.mono B.out.size));replace X6:=X6.later hb;replace O0:=hd_ (O0.out.below hb);have O1:=hd_ (ho);clear hb
 obtain⟨W3,hW⟩:=nm_ (w3.setCell ⟨w1.heap.size,1,none⟩ (.slice y1 m1 c1'));obtain⟨ax60,ax61,ax62,ax63,ax64,ax65,ax66⟩:=(X6).cells;have frx6:=X6.free;replace B:=hd_ (B.out);replace XA:=XA.kept (aF _ ⟨w1.heap.size,1,none⟩ (.slice y1 m1 c1')) (by simp;omega);replace R:=R.kept (aF _ ⟨w1.heap.size,1,none⟩ (.slice y1 m1 c1')) (by simp;omega)
 replace B:=hd_ (B.out.setCell (p:=⟨w1.heap.size,1,none⟩) LL.out (.slice y1 m1 c1'));replace O0:=hd_ (O0.out.cell7 X6 1 (.slice y1 m1 c1'));replace O1:=hd_ (O1.out.cell7 X6 1 (.slice y1 m1 c1'));replace X6:=X6.set1 (.slice y1 m1 c1');obtain⟨bxa0,bxa1,bxa2,bxa3,bxa4,bxa5,bxa6⟩:=(XA).cells;rw[<-hW]at XA;rw[<-hW]at R;rw[<-hW]at B;rw[<-hW]at X6;rw[<-hW]at O0;rw[<-hW]at O1
 go_wp2_with fail
 rw[<-hW];clear hW ax60 ax61 ax62 ax63 ax64 ax65 ax66 frx6 bxa0 bxa1 bxa2 bxa3 bxa4 bxa5 bxa6;clear ho q6;have Q:=H1.out.below B.out lr_;have K1:=T.aEH W3 (.slice V1.xt V1.nt V1.ct) a.ps a.lo a.al t Q.t;generalize hA:T.iL a.ps a.lo a.al t=A2 at K1;have HA2:=hd_ hA;generalize T.iR a.ps a.lo a.al t=ok2 at K1;clear hA Q
 go_wp2_with fail
 refine (K1).mono ?_;rintro e w4 ⟨v,rfl,ho,hb⟩;obtain⟨y2,c2',rfl⟩:=ho.form';obtain⟨m2,hm⟩:=nm_ ((A2.1).length);rw[<-hm]at ho ⊢;clear hm K1;have M2:=hd_ B.out.size;have q6:=SZ2.out;replace XA:=XA.later hb;replace R:=R.later hb;replace B:=hd_ (B.out.trans (hb.mono B.out.size));replace X6:=X6.later hb;replace O0:=hd_ (O0.out.below hb);replace O1:=hd_ (O1.out.below hb);have O2:=hd_ (ho);clear hb
 obtain⟨W4,hW⟩:=nm_ (((w4.setCell ⟨w1.heap.size,2,none⟩ (.slice y2 m2 c2')).setCell ⟨w1.heap.size,3,none⟩ (iv A2.2.1)).setCell ⟨w1.heap.size,4,none⟩ (iv A2.2.2));obtain⟨ax60,ax61,ax62,ax63,ax64,ax65,ax66⟩:=(X6).cells;have frx6:=X6.free;replace B:=hd_ (B.out);replace XA:=XA.kept (aF _ ⟨w1.heap.size,2,none⟩ (.slice y2 m2 c2')) (by simp;omega)
 replace R:=R.kept (aF _ ⟨w1.heap.size,2,none⟩ (.slice y2 m2 c2')) (by simp;omega);replace B:=hd_ (B.out.setCell (p:=⟨w1.heap.size,2,none⟩) LL.out (.slice y2 m2 c2'));replace O0:=hd_ (O0.out.cell7 X6 2 (.slice y2 m2 c2'));replace O1:=hd_ (O1.out.cell7 X6 2 (.slice y2 m2 c2'));replace O2:=hd_ (O2.out.cell7 X6 2 (.slice y2 m2 c2'));replace X6:=X6.set2 (.slice y2 m2 c2')
 replace XA:=XA.kept (aF _ ⟨w1.heap.size,3,none⟩ (iv A2.2.1)) (by simp;omega);replace R:=R.kept (aF _ ⟨w1.heap.size,3,none⟩ (iv A2.2.1)) (by simp;omega);replace B:=hd_ (B.out.setCell (p:=⟨w1.heap.size,3,none⟩) LL.out (iv A2.2.1));replace O0:=hd_ (O0.out.cell7 X6 3 (iv A2.2.1));replace O1:=hd_ (O1.out.cell7 X6 3 (iv A2.2.1));replace O2:=hd_ (O2.out.cell7 X6 3 (iv A2.2.1))
 replace X6:=X6.set3 (iv A2.2.1);replace XA:=XA.kept (aF _ ⟨w1.heap.size,4,none⟩ (iv A2.2.2)) (by simp;omega);replace R:=R.kept (aF _ ⟨w1.heap.size,4,none⟩ (iv A2.2.2)) (by simp;omega);replace B:=hd_ (B.out.setCell (p:=⟨w1.heap.size,4,none⟩) LL.out (iv A2.2.2));replace O0:=hd_ (O0.out.cell7 X6 4 (iv A2.2.2));replace O1:=hd_ (O1.out.cell7 X6 4 (iv A2.2.2))
 replace O2:=hd_ (O2.out.cell7 X6 4 (iv A2.2.2));replace X6:=X6.set4 (iv A2.2.2);obtain⟨bxa0,bxa1,bxa2,bxa3,bxa4,bxa5,bxa6⟩:=(XA).cells;rw[<-hW]at XA;rw[<-hW]at R;rw[<-hW]at B;rw[<-hW]at X6;rw[<-hW]at O0;rw[<-hW]at O1;rw[<-hW]at O2
 go_wp2_with fail
 rw[<-hW];clear hW ax60 ax61 ax62 ax63 ax64 ax65 ax66 frx6 bxa0 bxa1 bxa2 bxa3 bxa4 bxa5 bxa6;clear ho q6;have Q:=H1.out.below B.out lr_;have K1:=K.aDF W4 (.slice V1.xk V1.nk V1.ck) a.ks a.ka t Q.k;generalize hA:K.nN a.ks a.ka t=A3 at K1;have HA3:=hd_ hA;generalize K.fN a.ks a.ka t=ok3 at K1;clear hA Q
 go_wp2_with fail
 refine (K1).mono ?_;rintro e w5 ⟨v,rfl,ho,hb⟩;obtain⟨y3,c3',rfl⟩:=ho.form';obtain⟨m3,hm⟩:=nm_ ((A3.1).length);rw[<-hm]at ho ⊢;clear hm K1;have M3:=hd_ B.out.size;have q6:=SZ2.out;replace XA:=XA.later hb;replace R:=R.later hb;replace B:=hd_ (B.out.trans (hb.mono B.out.size));replace X6:=X6.later hb;replace O0:=hd_ (O0.out.below hb);replace O1:=hd_ (O1.out.below hb)
 replace O2:=hd_ (O2.out.below hb);have O3:=hd_ (ho);clear hb;obtain⟨W5,hW⟩:=nm_ ((w5.setCell ⟨w1.heap.size,5,none⟩ (.slice y3 m3 c3')).setCell ⟨w1.heap.size,6,none⟩ (iv A3.2));obtain⟨ax60,ax61,ax62,ax63,ax64,ax65,ax66⟩:=(X6).cells;have frx6:=X6.free;replace B:=hd_ (B.out);replace XA:=XA.kept (aF _ ⟨w1.heap.size,5,none⟩ (.slice y3 m3 c3')) (by simp;omega)
 replace R:=R.kept (aF _ ⟨w1.heap.size,5,none⟩ (.slice y3 m3 c3')) (by simp;omega);replace B:=hd_ (B.out.setCell (p:=⟨w1.heap.size,5,none⟩) LL.out (.slice y3 m3 c3'));replace O0:=hd_ (O0.out.cell7 X6 5 (.slice y3 m3 c3'));replace O1:=hd_ (O1.out.cell7 X6 5 (.slice y3 m3 c3'));replace O2:=hd_ (O2.out.cell7 X6 5 (.slice y3 m3 c3'));replace O3:=hd_ (O3.out.cell7 X6 5 (.slice y3 m3 c3'))
 replace X6:=X6.set5 (.slice y3 m3 c3');replace XA:=XA.kept (aF _ ⟨w1.heap.size,6,none⟩ (iv A3.2)) (by simp;omega);replace R:=R.kept (aF _ ⟨w1.heap.size,6,none⟩ (iv A3.2)) (by simp;omega);replace B:=hd_ (B.out.setCell (p:=⟨w1.heap.size,6,none⟩) LL.out (iv A3.2));replace O0:=hd_ (O0.out.cell7 X6 6 (iv A3.2));replace O1:=hd_ (O1.out.cell7 X6 6 (iv A3.2))
 replace O2:=hd_ (O2.out.cell7 X6 6 (iv A3.2));replace O3:=hd_ (O3.out.cell7 X6 6 (iv A3.2));replace X6:=X6.set6 (iv A3.2);obtain⟨bx60,bx61,bx62,bx63,bx64,bx65,bx66⟩:=(X6).cells;obtain⟨br0,br1,br2,br3,br4,br5,br6⟩:=(R).cells;have fbr:=R.free;rw[<-hW]at XA;rw[<-hW]at R;rw[<-hW]at B;rw[<-hW]at X6;rw[<-hW]at O0;rw[<-hW]at O1;rw[<-hW]at O2;rw[<-hW]at O3;clear ho q6
 have EJ:=hd_ (show (dC a t)=⟨A0,A1,A2.1,A2.2.1,A2.2.2,A3.1,A3.2⟩ by rw[nX HOK.out];unfold aBr;rw[<-JA.out,HA0.out,HA1.out,HA2.out,HA3.out]);have fin:=R.set (.slice y0 m0 c0') (.slice y1 m1 c1') (.slice y2 m2 c2') (iv A2.2.1) (iv A2.2.2) (.slice y3 m3 c3') (iv A3.2)
 have OF:=bN.box7 (bN.make (V:=⟨y0,m0,c0',y1,m1,c1',y2,m2,c2',y3,m3,c3'⟩) (s:=⟨A0,A1,A2.1,A2.2.1,A2.2.2,A3.1,A3.2⟩) O0.out O1.out O2.out O3.out M0.out (Nat.le_trans M0.out N0.out) T1.out M2.out M3.out) R (.slice y0 m0 c0') (.slice y1 m1 c1') (.slice y2 m2 c2') (iv A2.2.1) (iv A2.2.2) (.slice y3 m3 c3') (iv A3.2)
 have BF:=bB B.out (Nat.le_add_right w.heap.size 1) (.slice y0 m0 c0') (.slice y1 m1 c1') (.slice y2 m2 c2') (iv A2.2.1) (iv A2.2.2) (.slice y3 m3 c3') (iv A3.2);have SF:=cT W5 (w.heap.size+1) (.slice y0 m0 c0') (.slice y1 m1 c1') (.slice y2 m2 c2') (iv A2.2.1) (iv A2.2.2) (.slice y3 m3 c3') (iv A3.2);have HF:=hd_ (And.intro (bN.base OF lr_ (Nat.le_of_eq SF.symm) lr_) BF)
 have HY:=hd_ fin;clear fin OF BF SF;go_wp2;rw[<-hW];clear hW ax60 ax61 ax62 ax63 ax64 ax65 ax66 frx6 bx60 bx61 bx62 bx63 bx64 bx65 bx66 br0 br1 br2 br3 br4 br5 br6 fbr;show bodyPost _ _ _ _ _ (set7 W5 (w.heap.size+1) (.slice y0 m0 c0') (.slice y1 m1 c1') (.slice y2 m2 c2') (iv A2.2.1) (iv A2.2.2) (.slice y3 m3 c3') (iv A3.2))
 obtain⟨d0,d1,d2,d3,d4,d5,d6⟩:=HY.out.cells;generalize set7 W5 (w.heap.size+1) (.slice y0 m0 c0') (.slice y1 m1 c1') (.slice y2 m2 c2') (iv A2.2.1) (iv A2.2.2) (.slice y3 m3 c3') (iv A3.2)=WF at HF d0 d1 d2 d3 d4 d5 d6 ⊢
 refine bodyPost_ret (v:=.tuple #[.agg #[.slice y0 m0 c0',.slice y1 m1 c1',.slice y2 m2 c2',iv A2.2.1,iv A2.2.2,.slice y3 m3 c3',iv A3.2],.bool true]) (by simp[results,results295,go_sem,d0,d1,d2,d3,d4,d5,d6]) rfl ?_;rw[EJ.out,HOK.out];exact⟨⟨y0,m0,c0',y1,m1,c1',y2,m2,c2',y3,m3,c3'⟩,rfl,HF.out⟩
theorem zF (w:World) (V:SV) (s:Sm) (t:Int) (h1:RdS w V s):
  Calls prog 295 #[.agg #[.slice V.xr V.nr V.cr,.slice V.xf V.nf V.cf,.slice V.xt V.nt V.ct,iv s.lo,iv s.al,.slice V.xk V.nk V.ck,iv s.ka],iv t] w fun e w'=>∃U,e=.returned (.tuple #[.agg #[.slice U.xr U.nr U.cr,.slice U.xf U.nf U.cf,.slice U.xt U.nt U.ct,.int .i64 (dC s t).lo,.int .i64 (dC s t).al,.slice U.xk U.nk U.ck,.int .i64 (dC s t).ka],.bool (cF s t)])/\bN w' w.heap.size w'.heap.size U (dC s t)/\Below w.heap.size w w':=by
 cases okA:okS s with
 |false=>exact aCW w V s t h1 okA
 |true=>
  by_cases ht:0<=t/\t<=63
  ·by_cases hs:s.al<2000
   ·exact aDD w V s t h1 ((oC s t).2 ⟨(eZ _).1 okA,ht,hs⟩)
   ·exact aBL w V s t h1 okA ht o_
  ·exact aDb w V s t h1 okA o_
theorem aGg (w:World) (x:Option Addr) (n c:Nat) (l:List Int) (h:dE w (.slice x n c) l):
  Calls prog 265 #[.slice x n c] w fun e w'=>∃U,e=.returned (.tuple #[.agg #[.slice U.xr U.nr U.cr,.slice U.xf U.nf U.cf,.slice U.xt U.nt U.ct,.int .i64 (upS l).lo,.int .i64 (upS l).al,.slice U.xk U.nk U.ck,.int .i64 (upS l).ka],.bool (okS (upS l))])/\bN w' w.heap.size w'.heap.size U (upS l)/\Below w.heap.size w w':=by
 obtain⟨b,o,hx⟩:∃b o,n=0\/(x=some ⟨b,o,none⟩/\b<w.heap.size/\∀i,i<n->w.cell? ⟨b,o+i,none⟩=some (.int .i64 (l.getD i 0))):=by
  exact zBc
 have HX:=hd_ hx;have hnl:n=l.length:=dE.len h;have HN:=hd_ hnl;have hmx:n<2 ^ 63:=by
  rcases h with ⟨e,rfl⟩|⟨b,o,cap,e,h1,h2,_⟩
  ·rw[hnl];simp
  ·unfold maxLen at h2;omega
 clear hx h hnl;have hA:=(Below.refl w.heap.size w).alloc lr_ (.cells #[zn,zn,zn,iv 0,iv 0,zn,iv 0] 46);have R:=aR.new w 46 zn zn zn (iv 0) (iv 0) zn (iv 0);obtain⟨W0,hW⟩:=nm_ (w.alloc (.cells #[zn,zn,zn,iv 0,iv 0,zn,iv 0] 46));rw[<-hW]at hA R;have B:=hd_ hA;have SZ:Hid (W0.heap.size=w.heap.size+1):=by show _=_;rw[hW];simp
 clear hA;go_enter func265,ntmps265
 go_wp2_with fail
 rw[<-hW];clear hW;refine (zH W0).mono ?_;rintro e w1 ⟨V0,rfl,ho,hb⟩;have L4:=hd_ (Nat.le_trans (Nat.le_of_eq SZ.out.symm) hb.size);replace ho:=ho.base (B':=w.heap.size) B.out.size lr_ lr_;replace R:=R.later hb;replace B:=hd_ (B.out.trans (hb.mono B.out.size));have O:=hd_ (ho);clear hb;obtain⟨W1,hW⟩:=nm_ (w1.alloc (.cells (cS V0 dK) 46));replace R:=R.alloc (.cells (cS V0 dK) 46)
 rw[<-hW]at R;replace B:=hd_ ((B.out).alloc (Nat.le_trans B.out.size (by simp)) (.cells (cS V0 dK) 46));rw[<-hW]at B;replace O:=hd_ (O.out.alloc (.cells (cS V0 dK) 46));rw[<-hW]at O;have X4:=aR.new w1 46 (.slice V0.xr V0.nr V0.cr) (.slice V0.xf V0.nf V0.cf) (.slice V0.xt V0.nt V0.ct) (iv dK.lo) (iv dK.al) (.slice V0.xk V0.nk V0.ck) (iv dK.ka);rw[<-hW]at X4;clear ho
 obtain⟨b4,hb4⟩:=nm_ w1.heap.size;rw[<-hb4]at X4 L4;have HO:=hd_ (show bN W1 w.heap.size b4 V0 dK by rw[hb4];exact O.out);clear O;go_wp2;rw[<-hW, <-hb4];clear hW hb4
 go_loopw [5] (fun i wr=>∃(j:Nat) (V:SV) (T:Nat),i=.int .i64 j/\j<=n/\okS (upS (l.take j))=true/\bN wr w.heap.size T V (upS (l.take j))/\aLa wr b4 V (upS (l.take j))/\aR wr w.heap.size 46 zn zn zn (iv 0) (iv 0) zn (iv 0)/\Below w.heap.size w wr) (fun i _=>n - (intOf i).toNat)
 case atStart=>exact⟨0,V0,b4,rfl,Nat.zero_le _,wH,HO.out,X4,R,B.out⟩
 case round=>
  clear HO X4 R B SZ;obtain⟨j,V,T,rfl,hj,hok,ho,hX,hR,hB⟩:=hrel;obtain⟨s,hs⟩:=nm_ (upS (l.take j));rw[<-hs]at hok ho hX;have HS:=hd_ hs;have HOK:=hd_ hok;have O:=hd_ ho;have X4:=hX.box;have R:=hR;have B:=hd_ hB;clear hs hok ho hX hR hB
  by_cases hlt:j<n
  ·obtain⟨t,ht⟩:=nm_ (l.getD j 0)
   obtain⟨rfl,hbw,hce⟩:=HX.out.resolve_left o_;have ce:wr.cell? ⟨b,o+j,none⟩=some (.int .i64 t):=by rw[ht];exact cell_later B.out (hce j hlt)
   have HT:=hd_ ht;clear ht hce hbw HX;have UP:=hd_ (show upS (l.take (j+1))=dC s t by rw[HS.out,HT.out];exact aAb (by rw[<-HN.out];exact hlt));have NO:=hd_ (show cF s t=false->okS (upS l)=false/\upS l=oN from fun q=>by have e:=aKE (l:=l) (k:=j) (by rw[<-HN.out];exact hlt) (by rw[<-HS.out, <-HT.out];exact q);exact⟨by rw[e];rfl,e⟩)
   have YES:=hd_ (show cF s t=true->okS (dC s t)=true from fun q=>(eZ _).2 (wZ q).1);clear HS HT;have KS:=hd_ (fun (W:World) (h:RdS W V s)=>zF W V s t h);generalize cF s t=ok at KS NO YES;generalize dC s t=r at KS UP YES;obtain⟨c0,c1,c2,c3,c4,c5,c6⟩:=X4.drew.cells;obtain⟨e0,e1,e2,e3,e4,e5,e6⟩:=(X4.alloc (.cells #[zn,zn,zn,iv 0,iv 0,zn,iv 0] 46)).drew.cells
   have cb:=cell_later (Below.drew (Below.refl wr.heap.size wr)) ce;have cb':=cell_later (((Below.refl wr.heap.size wr).alloc lr_ (.cells #[zn,zn,zn,iv 0,iv 0,zn,iv 0] 46)).drew) ce;have k0:(0:Int)<=(j:Int):=o_;have k1:(j:Int)<(n:Int):=o_;go_wp2
   go_region_with (first
        |(go_at_call 295;refine (KS.out wr.drew O.out.rd.drew).mono ?_;rintro e w2 ⟨U,rfl,ho,hb⟩;have HO:=hd_ ho;have HB:=hd_ (Below.trans (Below.drew (Below.refl wr.heap.size wr)) hb);clear ho hb)
        |(go_at_call 295;refine (KS.out (wr.alloc (.cells #[zn,zn,zn,iv 0,iv 0,zn,iv 0] 46)).drew (O.out.rd.alloc _).drew).mono ?_;rintro e w2 ⟨U,rfl,ho,hb⟩;have HO:=hd_ ho;have HB:=hd_ (Below.trans (((Below.refl wr.heap.size wr).alloc lr_ (.cells #[zn,zn,zn,iv 0,iv 0,zn,iv 0] 46)).drew) (hb.mono (by simp)));have XN:=(aR.new wr 46 zn zn zn (iv 0) (iv 0) zn (iv 0)).drew.later hb;obtain⟨f0,f1,f2,f3,f4,f5,f6⟩:=XN.cells;have ff:=XN.free;clear ho hb))
   all_goals
    first
     |(have G:=Got.last HB.out HO.out lr_;generalize w2.alloc (.cells (cS U r) 46)=WN at G ⊢;generalize w2.heap.size=PN at G ⊢)
     |(have G:=Got.stored HB.out HO.out (show wr.heap.size<=(wr.alloc (.cells #[zn,zn,zn,iv 0,iv 0,zn,iv 0] 46)).drew.heap.size by simp) XN lr_;show Exit.then _ _ _ _ (set7 w2 wr.heap.size (.slice U.xr U.nr U.cr) (.slice U.xf U.nf U.cf) (.slice U.xt U.nt U.ct) (iv r.lo) (iv r.al) (.slice U.xk U.nk U.ck) (iv r.ka));generalize set7 w2 wr.heap.size (.slice U.xr U.nr U.cr) (.slice U.xf U.nf U.cf) (.slice U.xt U.nt U.ct) (iv r.lo) (iv r.al) (.slice U.xk U.nk U.ck) (iv r.ka)=WN at G ⊢;obtain⟨PN,hPN⟩:=nm_ wr.heap.size;clear f0 f1 f2 f3 f4 f5 f6 ff XN;rw[<-hPN]at G ⊢;clear hPN)
    have X4':=X4.later G.below;have R':=R.later G.below;have B':=hd_ (B.out.trans (G.below.mono B.out.size));have XP:=G.box.box;have lo4:=X4.lt;have O':=hd_ (G.own.base (B':=w.heap.size) B.out.size lr_ lr_);have GLO:=hd_ G.lo;have sep:=hd_ (show b4≠PN from fun e=>by have:=G.lo;omega);clear G HB HO c0 c1 c2 c3 c4 c5 c6 e0 e1 e2 e3 e4 e5 e6 cb cb' lo4 X4 R B O ce k0 k1;have X4:=X4';have R:=R'
    have B:=B';have O:=O';clear X4' R' B' O';cases ok with
    |false=>
     have NO1:=hd_ (NO.out rfl).1;have NO2:=hd_ (NO.out rfl).2;clear NO YES UP;obtain⟨cr0,cr1,cr2,cr3,cr4,cr5,cr6⟩:=(R).cells;have frr:=R.free;have fin:=R.set zn zn zn (iv 0) (iv 0) zn (iv 0);have OF:=bN.box7 (bN.none _ _ _ B.out.size lr_) R zn zn zn (iv 0) (iv 0) zn (iv 0);have BF:=bB B.out lr_ zn zn zn (iv 0) (iv 0) zn (iv 0)
     have SF:=cT WN w.heap.size zn zn zn (iv 0) (iv 0) zn (iv 0);have HF:=hd_ (And.intro (bN.base OF lr_ (Nat.le_of_eq SF.symm) lr_) BF);have HY:=hd_ fin;clear fin OF BF SF;go_wp2;show bodyPost _ _ _ _ _ (set7 WN w.heap.size zn zn zn (iv 0) (iv 0) zn (iv 0))
     obtain⟨d0,d1,d2,d3,d4,d5,d6⟩:=HY.out.cells;generalize set7 WN w.heap.size zn zn zn (iv 0) (iv 0) zn (iv 0)=WF at HF d0 d1 d2 d3 d4 d5 d6 ⊢;refine bodyPost_ret (v:=.tuple #[.agg #[zn,zn,zn,iv 0,iv 0,zn,iv 0],.bool false]) (by simp[results,results265,go_sem,d0,d1,d2,d3,d4,d5,d6]) rfl ?_;rw[NO1.out,NO2.out];exact⟨SV.none,rfl,HF.out⟩
    |true=>
     have YS:=hd_ (YES.out rfl);clear NO YES;obtain⟨cxp0,cxp1,cxp2,cxp3,cxp4,cxp5,cxp6⟩:=(XP).cells;obtain⟨cx40,cx41,cx42,cx43,cx44,cx45,cx46⟩:=(X4).cells;have fr4:=X4.free;have OX:=hd_ (O.out.box7 X4 (.slice U.xr U.nr U.cr) (.slice U.xf U.nf U.cf) (.slice U.xt U.nt U.ct) (iv r.lo) (iv r.al) (.slice U.xk U.nk U.ck) (iv r.ka))
     have YtcblbdpdbggkbaaGreat4:=X4.set (.slice U.xr U.nr U.cr) (.slice U.xf U.nf U.cf) (.slice U.xt U.nt U.ct) (iv r.lo) (iv r.al) (.slice U.xk U.nk U.ck) (iv r.ka);have RX:=R.kept (dI _ b4 (.slice U.xr U.nr U.cr) (.slice U.xf U.nf U.cf) (.slice U.xt U.nt U.ct) (iv r.lo) (iv r.al) (.slice U.xk U.nk U.ck) (iv r.ka)) (by have:=L4.out;simp;omega)
     have BX:=hd_ (bB B.out (Nat.le_trans (Nat.le_add_right _ 1) L4.out) (.slice U.xr U.nr U.cr) (.slice U.xf U.nf U.cf) (.slice U.xt U.nt U.ct) (iv r.lo) (iv r.al) (.slice U.xk U.nk U.ck) (iv r.ka));have SX:=cT WN b4 (.slice U.xr U.nr U.cr) (.slice U.xf U.nf U.cf) (.slice U.xt U.nt U.ct) (iv r.lo) (iv r.al) (.slice U.xk U.nk U.ck) (iv r.ka);go_wp2;go_roundw
     case rel=>exact⟨j+1,U,WN.heap.size,gn_,hlt,by rw[UP.out];exact YS.out,by rw[UP.out];exact OX.out,by rw[UP.out];exact YtcblbdpdbggkbaaGreat4,RX,BX.out⟩
     case measure=>simp[intOf];omega
  ·obtain rfl:j=n:=o_
   have ES:=hd_ (show upS l=s by rw[HS.out,HN.out,List.take_length]);clear HX HS hlt hj;obtain⟨cx40,cx41,cx42,cx43,cx44,cx45,cx46⟩:=(X4).cells;obtain⟨cr0,cr1,cr2,cr3,cr4,cr5,cr6⟩:=(R).cells;have frr:=R.free;have fin:=R.set (.slice V.xr V.nr V.cr) (.slice V.xf V.nf V.cf) (.slice V.xt V.nt V.ct) (iv s.lo) (iv s.al) (.slice V.xk V.nk V.ck) (iv s.ka)
   have OF:=bN.box7 (O.out.base lr_ O.out.top lr_) R (.slice V.xr V.nr V.cr) (.slice V.xf V.nf V.cf) (.slice V.xt V.nt V.ct) (iv s.lo) (iv s.al) (.slice V.xk V.nk V.ck) (iv s.ka);have BF:=bB B.out lr_ (.slice V.xr V.nr V.cr) (.slice V.xf V.nf V.cf) (.slice V.xt V.nt V.ct) (iv s.lo) (iv s.al) (.slice V.xk V.nk V.ck) (iv s.ka)
   have SF:=cT wr w.heap.size (.slice V.xr V.nr V.cr) (.slice V.xf V.nf V.cf) (.slice V.xt V.nt V.ct) (iv s.lo) (iv s.al) (.slice V.xk V.nk V.ck) (iv s.ka);have HF:=hd_ (And.intro (bN.base OF lr_ (Nat.le_of_eq SF.symm) lr_) BF);have HY:=hd_ fin;clear fin OF BF SF;go_wp2
   show bodyPost _ _ _ _ _ (set7 wr w.heap.size (.slice V.xr V.nr V.cr) (.slice V.xf V.nf V.cf) (.slice V.xt V.nt V.ct) (iv s.lo) (iv s.al) (.slice V.xk V.nk V.ck) (iv s.ka))
   obtain⟨d0,d1,d2,d3,d4,d5,d6⟩:=HY.out.cells;generalize set7 wr w.heap.size (.slice V.xr V.nr V.cr) (.slice V.xf V.nf V.cf) (.slice V.xt V.nt V.ct) (iv s.lo) (iv s.al) (.slice V.xk V.nk V.ck) (iv s.ka)=WF at HF d0 d1 d2 d3 d4 d5 d6 ⊢
   refine bodyPost_ret (v:=.tuple #[.agg #[.slice V.xr V.nr V.cr,.slice V.xf V.nf V.cf,.slice V.xt V.nt V.ct,iv s.lo,iv s.al,.slice V.xk V.nk V.ck,iv s.ka],.bool true]) (by simp[results,results265,go_sem,d0,d1,d2,d3,d4,d5,d6]) rfl ?_;rw[ES.out,HOK.out];exact⟨V,rfl,HF.out⟩
end Go.Proofs.YtcblbdpdbggkbaaGreat
namespace Go.Proofs.YtcblbdpdbggkbaaGreat
open _root_.Go.Proofs.Tryz
open Go.RowKit Go.Sort
namespace N
def lkP (ls:List Bool) (k:Nat) (a b:Int):Bool:=decide ((0<=a/\a<=4)/\(0<=b/\b<=4)/\a * 5+b<k)&&ls.getD (a * 5+b).toNat false
theorem aKn (ls:List Bool) (a b:Int):lkP ls 0 a b=false:=by
 unfold lkP;rw[decide_eq_false o_];rfl
theorem aIP {ls:List Bool} {k:Nat} (hk:k<25) {u:Bool} (hu:ls.getD k false=u) (a b:Int):lkP ls (k+1) a b=if (a,b)=(((k:Int) / 5),((k:Int) % 5))then u else lkP ls k a b:=by
 by_cases h:(a,b)=(((k:Int) / 5),((k:Int) % 5))
 ·rw[if_pos h]
  simp only[Prod.mk.injEq]at h;obtain⟨rfl,rfl⟩:=h;unfold lkP;rw[decide_eq_true o_,Bool.true_and, <-hu]
  congr 1
  omega
 ·rw[if_neg h]
  simp only[Prod.mk.injEq]at h;unfold lkP
  congr 1
  exact decide_eq_decide.2 o_
theorem aGd {g:Int × Int->Option Value} {ls:List Bool} {k:Nat} (hk:k<25) {u:Bool} (hu:ls.getD k false=u) (h:tD g (lkP ls k)):tD (fun y=>if y=(((k:Int) / 5),((k:Int) % 5))then some (.bool u)else g y) (lkP ls (k+1)):=fun y=>by
 rw[aIP hk hu];simp only
 by_cases q:y=(((k:Int) / 5),((k:Int) % 5))
 ·rw[if_pos q,if_pos (by rw[<-q])];rfl
 ·rw[if_neg q,if_neg (show ¬(y.1,y.2)=_ from q)]
  exact h y
theorem aCK (w:World) {x:Option Addr} {c:Nat} {ls:List Bool} {f:List Nat} (h:sK TY w [.slice x 25 c] ls f):
  Calls prog 89 #[.slice x 25 c] w fun r w'=>∃m g,r=.returned (.map (some m))/\M w.heap.size w w' [zW vQ aBO m g]/\tD g (lkP ls 25):=by
 have hl:25=ls.length:=(aT h).1;have H1:=hd_ h;have HL:=hd_ hl;clear h hl;have h0:=(M.start w).map vQ aBO;have H0:=hd_ h0;clear h0;have hmm:=@run_makeMap prog;go_enter func89,ntmps89;go_wp2;clear hmm;obtain⟨m,hm⟩:=nm_ w.heap.size;have HM:=hd_ hm;rw[<-hm]at H0 ⊢;clear hm;generalize w.alloc (.map #[] 0)=w1 at H0 ⊢;have l0:(0:Int)<=25:=by decide
 go_loopw [9] (fun z wr=>∃(k:Nat) (g:Int × Int->Option Value),k<=25/\z=.int .i64 (k:Int)/\M m w wr [zW vQ aBO m g]/\tD g (lkP ls k)) (fun z _=>25 - (intOf z).toNat)
 case atStart=>exact⟨0,fun _=>none,Nat.zero_le _,rfl,H0.out,fun y=>by rw[aKn];rfl⟩
 case round=>
  clear H0;obtain⟨k,g,hk,rfl,hm,hg⟩:=hrel;have H:=hd_ hm;have HG:=hd_ hg;clear hm hg
  by_cases hlt:k<25
  ·obtain⟨u,hu⟩:∃u,ls[k]? =some u:=⟨_,List.getElem?_eq_getElem (by rw[<-HL.out];exact hlt)⟩
   obtain⟨g1,rfl,_,c0⟩:=mX H1.out hu;have HU:Hid (ls.getD k false=u):=hd_ (by rw[List.getD_eq_getElem?_getD,hu];rfl);replace c0:=cell_later (by have:=H.out.below;rwa[HM.out]at this) c0;have KE:=hd_ (fun W=>aB1 W k hlt);have EO:=hd_ (show vQ ((k:Int) / 5,(k:Int) % 5)from⟨⟨by simp;omega,by simp;omega⟩,⟨by simp;omega,by simp;omega⟩⟩);have k0:(0:Int)<=(k:Int):=o_;have k1:(k:Int)<25:=o_
   clear hu
   go_wp2_with fail
   refine (KE.out _).mono ?_;rintro e w4 ⟨rfl,hb⟩;have H2:=hd_ (H.out.later hb);clear hb H KE c0
   go_wp2_with (at_mapUpdate;go_loud (refine aEv aMs underlying100 H2.out EO.out rfl rfl rfl rfl rfl ?_))
   intro w5 h5 hs5;have H5:=hd_ h5;have G5:=hd_ (aGd hlt HU.out HG.out);clear h5 hs5 H2;go_wp2;go_roundw
   case rel=>exact⟨k+1,_,o_,gn_,H5.out,G5.out⟩
   case measure=>simp[intOf];omega
  ·obtain rfl:k=25:=o_
   go_wp2;go_ret;exact⟨m,g,rfl,by rw[HM.out]at *;exact H.out,HG.out⟩
end N
end Go.Proofs.YtcblbdpdbggkbaaGreat
