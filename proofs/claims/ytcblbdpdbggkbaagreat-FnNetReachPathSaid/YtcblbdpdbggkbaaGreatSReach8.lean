/-
  What the laws of Reach need of the texts before it, part 8.
-/
import Derived.ArgAppend
import Derived.BigQuiet
import Derived.Carry
import Derived.ChangeSame
import Derived.Deep.AppendLies
import Derived.Deep.Cut
import Derived.Deep.DeepCutAuto
import Derived.Deep.DrawnRows
import Derived.Deep.Fields
import Derived.Deep.Matrix
import Derived.Deep.MidRow
import Derived.Deep.OwnRows
import Derived.Deep.QuietTactic
import Derived.Deep.RegionHeld3
import Derived.Deep.RegionLaw
import Derived.Deep.RegionLawGrows
import Derived.Deep.RegionWith
import Derived.Deep.Slices
import Derived.Deep.WholeRow
import Derived.DeepKeys5
import Derived.Handy
import Derived.IntWalk
import Derived.KernelRfl
import Derived.Laws.AppendOwnNone
import Derived.Laws.EntriesVeiled
import Derived.Laws.ResultCell
import Derived.Lib.AppendZerosOnto
import Derived.Lib.Hide
import Derived.Lib.QuietBelow
import Derived.Lib.SliceRun
import Derived.Lib.SmallJoins
import Derived.Lib.Walk
import Derived.LoopIn
import Derived.LoopN
import Derived.LoopNIn
import Derived.Maps.AppendAt
import Derived.Maps.Keyed
import Derived.Maps.Own
import Derived.OneCell
import Derived.OpenShut
import Derived.OrdersHeld
import Derived.OwnWalkIn
import Derived.RangeFuncBound
import Derived.RangeFuncBox
import Derived.RangeFuncCalls
import Derived.RangeFuncLeaves
import Derived.RangeFuncNested
import Derived.RegionTactic
import Derived.Shelf.Abstract
import Derived.Shelf.RegionOpen
import Derived.Shelf.SlSortCmp.InsertionK
import Derived.StillTail
import Derived.TacticsInMore
import Derived.Test.YtcblbdpdbggkbaaGreatRows
import Derived.WalkKit
import Derived.WalkLawsBesides
import Derived.WalkSmall
import Derived.WalkSpells
import Derived.Test.YtcblbdpdbggkbaaGreatSReach7
set_option maxRecDepth 100000
set_option maxHeartbeats 16000000
set_option linter.unusedVariables false
set_option linter.unusedSectionVars false
set_option linter.unusedSimpArgs false
namespace Go.Proofs.YtcblbdpdbggkbaaGreat.N
open Go.RowKit Go.Sort
def atLeast (a b:En):Prop:=b.born<a.born\/(b.born=a.born/\b.num<=a.num)
theorem atLeast.refl (a:En):atLeast a a:=.inr ⟨rfl,Int.le_refl _⟩
theorem atLeast.trans {a b c:En} (h:atLeast a b) (k:atLeast b c):atLeast a c:=by unfold atLeast at *;omega
theorem newer_yes {a b:En} (h:newer a b=true):atLeast a b:=by unfold newer at h;unfold atLeast;simp at h;omega
theorem newer_no {a b:En} (h:¬newer a b=true):atLeast b a:=by unfold newer at h;unfold atLeast;simp at h;omega
def Knows (m:Nt) (j:Int) (e:En):Prop:=∃x,findE (nodeAt m j).known e.node=some x/\atLeast x e
theorem put_knows {es:List En} (h:es.Pairwise Before) {e x:En} {u:Int} (hx:findE es u=some x):∃y,findE (putE es e) u=some y/\atLeast y x:=by
 rw[put_find h,hx]
 split
 ·refine⟨_,rfl,?_⟩
  show atLeast (if newer e x=true then e else x) x
  split
  ·rename_i q;exact newer_yes q
  ·exact atLeast.refl _
 ·exact⟨x,rfl,atLeast.refl _⟩
theorem put_new {es:List En} (h:es.Pairwise Before) (e:En):∃y,findE (putE es e) e.node=some y/\atLeast y e:=by
 rw[put_find h,if_pos rfl];cases findE es e.node with
 |none=>exact⟨e,rfl,atLeast.refl _⟩
 |some x=>
  refine⟨_,rfl,?_⟩;show atLeast (if newer e x=true then e else x) e
  split
  ·exact atLeast.refl _
  ·rename_i q;exact newer_no q
theorem putAll_knows:∀{news es:List En} {i:Int},es.Pairwise Before->∀{u:Int} {x:En},findE es u=some x->∃y,findE (putAll es i news) u=some y/\atLeast y x
 | [],_,_,_,_,x,hx=>⟨x,hx,atLeast.refl _⟩
 |e::news,es,i,h,u,x,hx=>by
  show ∃y,findE (putAll (if e.node=i then es else putE es e) i news) u=some y/\_
  split
  ·exact putAll_knows h hx
  ·obtain⟨y,hy,a⟩:=put_knows (e:=e) h hx
   obtain⟨z,hz,b⟩:=putAll_knows (news:=news) (i:=i) (put_asc h) hy;exact⟨z,hz,b.trans a⟩
theorem putAll_new:∀{news es:List En} {i:Int},es.Pairwise Before->∀{e:En},e ∈ news->e.node≠i->∃y,findE (putAll es i news) e.node=some y/\atLeast y e
 | [],_,_,_,e,h,_=>by cases h
 |x::news,es,i,h,e,he,hi=>by
  show ∃y,findE (putAll (if x.node=i then es else putE es x) i news) e.node=some y/\_
  rcases List.mem_cons.1 he with rfl|he
  ·rw[if_neg hi]
   obtain⟨y,hy,a⟩:=put_new h e;obtain⟨z,hz,b⟩:=putAll_knows (news:=news) (i:=i) (put_asc h) hy;exact⟨z,hz,b.trans a⟩
  ·split
   ·exact putAll_new h he hi
   ·exact putAll_new (put_asc h) he hi
theorem told_node {n:Nt} (h:NetOk n) {w:Wd} (hw:WordOk n w) (k2:w.kind=2) {j:Int} (hj:isNode j):nodeAt (hearN n w) j=if j=w.dst then { nodeAt n j with known:=putAll (nodeAt n j).known w.dst w.known }else nodeAt n j:=by
 unfold hearN;simp only;rw[if_pos k2,set_put h hw.dst,put_node h hw.dst hj]
 by_cases q:j=w.dst
 ·rw[if_pos q,if_pos q,q]
 ·rw[if_neg q,if_neg q]
structure Calm (n m:Nt):Prop where
 ok:NetOk m
 words:m.words=[]
 links:m.links=n.links
 past:m.past=n.past
 same:∀j,isNode j->(nodeAt m j).born=(nodeAt n j).born/\(nodeAt m j).beacon=(nodeAt n j).beacon/\(nodeAt m j).level=(nodeAt n j).level/\(nodeAt m j).up=(nodeAt n j).up
 known:∀j e,isNode j->Knows n j e->Knows m j e
theorem Calm.refl {n:Nt} (h:NetOk n) (hw:n.words=[]):Calm n n:=⟨h,hw,rfl,rfl,fun _ _=>⟨rfl,rfl,rfl,rfl⟩,fun _ _ _ k=>k⟩
theorem Calm.trans {a b c:Nt} (h:Calm a b) (k:Calm b c):Calm a c:=
 ⟨k.ok,k.words,k.links.trans h.links,k.past.trans h.past,fun j hj=>by
    have x:=h.same j hj
    have y:=k.same j hj
    exact⟨y.1.trans x.1,y.2.1.trans x.2.1,y.2.2.1.trans x.2.2.1,y.2.2.2.trans x.2.2.2⟩,fun j e hj q=>k.known j e hj (h.known j e hj q)⟩
theorem Calm.later {n m:Nt} (h:Calm n m):Later n m:=
 ⟨fun i hi=>Int.le_of_eq (h.same i hi).1.symm,fun i _ b _ _=>⟨[],by unfold pastAt rowsAt;rw[h.past,List.append_nil]⟩⟩
theorem Calm.whole {n m:Nt} (h:Calm n m) (a b:Int):whole m a b=whole n a b:=by unfold N.whole;rw[h.links]
theorem own_knows {n:Nt} (h:NetOk n) {e:En} (T:TrueE n e):Knows n e.node e:=by
 obtain⟨o,o1,o2,o3⟩:=h.own e.node T.node;refine⟨o,o1,?_⟩;have b:=T.born;have m:=T.num;unfold atLeast
 by_cases q:e.born=(nodeAt n e.node).born
 ·rw[q]at m
  omega
 ·omega
theorem step_tell {n:Nt} (h:NetOk n) (hw:n.words=[]) {i:Int} (hi:isNode i):Calm n (allN (tellN n i).1)/\
  (0<=(nodeAt n i).up->whole n i (nodeAt n i).up=true->∀e,Knows n i e->TrueE n e->Knows (allN (tellN n i).1) (nodeAt n i).up e):=by
 unfold tellN;simp only
 by_cases u0:(nodeAt n i).up<0
 ·rw[if_pos u0]
  have e:allN n=n:=by
   unfold allN;rw[hw];show ({ n with words:=[] }:Nt)=n
   rw[<-hw]
  show Calm n (allN n)/\_
  rw[e];exact⟨Calm.refl h hw,fun c=>by omega⟩
 ·rw[if_neg u0]
  have W:=h.way i hi;have i0:i≠0:=fun c=>by have:=(W.root c).2;omega
  have U:=W.up i0;have hu:isNode (nodeAt n i).up:=⟨by omega,U.1.2⟩
  unfold sendN
  by_cases g:whole n i (nodeAt n i).up=true
  ·rw[if_pos ⟨g,by rw[hw];decide⟩]
   have hm:NetOk { n with words:=n.words++[⟨2,i,(nodeAt n i).up,0,0,(nodeAt n i).known⟩] }:=by
    refine ok_words h (by rw[hw];simp) (fun w hm=>?_);rw[hw]at hm;rw[List.mem_singleton.1 hm];exact⟨hi,hu,fun c=>U.2 c.symm,.inr ⟨rfl,rfl,rfl,h.known i hi⟩⟩
   have ea:allN { n with words:=n.words++[⟨2,i,(nodeAt n i).up,0,0,(nodeAt n i).known⟩] }={ hearN { n with words:=n.words++[⟨2,i,(nodeAt n i).up,0,0,(nodeAt n i).known⟩] } ⟨2,i,(nodeAt n i).up,0,0,(nodeAt n i).known⟩with words:=[] }:=by
    unfold allN;rw[hw]
    rfl
   have O:=ok_all hm;have tn:=fun j (hj:isNode j)=>told_node hm (hm.word _ (List.mem_append_right _ (List.mem_singleton.2 rfl))) rfl hj
   have hr:=hear_rest { n with words:=n.words++[⟨2,i,(nodeAt n i).up,0,0,(nodeAt n i).known⟩] } ⟨2,i,(nodeAt n i).up,0,0,(nodeAt n i).known⟩;rw[ea]at O ⊢
   have nn:∀j,isNode j->nodeAt { hearN { n with words:=n.words++[⟨2,i,(nodeAt n i).up,0,0,(nodeAt n i).known⟩] } ⟨2,i,(nodeAt n i).up,0,0,(nodeAt n i).known⟩with words:=[] } j=if j=(nodeAt n i).up then { nodeAt n j with known:=putAll (nodeAt n j).known (nodeAt n i).up (nodeAt n i).known }else nodeAt n j:=fun j hj=>tn j hj
   refine⟨⟨O,rfl,hr.2.1,hr.2.2,fun j hj=>?_,fun j e hj k=>?_⟩,fun _ _ e k T=>?_⟩
   ·rw[nn j hj]
    split<;>exact⟨rfl,rfl,rfl,rfl⟩
   ·unfold Knows at k ⊢
    rw[nn j hj]
    split
    ·obtain⟨x,hx,a⟩:=k
     obtain⟨y,hy,b⟩:=putAll_knows (news:=(nodeAt n i).known) (i:=(nodeAt n i).up) (h.known j hj).asc hx;exact⟨y,hy,b.trans a⟩
    ·exact k
   ·obtain⟨x,hx,a⟩:=k
    have xm:=find_some hx
    by_cases q:e.node=(nodeAt n i).up
    ·have k:=own_knows h T
     rw[q]at k;unfold Knows at k ⊢;rw[nn _ hu,if_pos rfl];obtain⟨x,hx,a⟩:=k;obtain⟨y,hy,b⟩:=putAll_knows (news:=(nodeAt n i).known) (i:=(nodeAt n i).up) (h.known _ hu).asc hx;exact⟨y,hy,b.trans a⟩
    ·unfold Knows
     rw[nn _ hu,if_pos rfl];obtain⟨y,hy,b⟩:=putAll_new (i:=(nodeAt n i).up) (h.known _ hu).asc xm.1 (by rw[xm.2];exact q);rw[xm.2]at hy;exact⟨y,hy,b.trans a⟩
  ·rw[if_neg (fun z=>g z.1)]
   have e:allN n=n:=by
    unfold allN;rw[hw];show ({ n with words:=[] }:Nt)=n
    rw[<-hw]
   show Calm n (allN n)/\_
   rw[e];exact⟨Calm.refl h hw,fun _ c=>absurd c g⟩
theorem round_tell {n:Nt} (h:NetOk n) (hw:n.words=[]):Calm n (roundN (fun m i=>(tellN m i).1) n)/\
  (∀i,isNode i->0<=(nodeAt n i).up->whole n i (nodeAt n i).up=true->∀e,Knows n i e->TrueE n e->Knows (roundN (fun m i=>(tellN m i).1) n) (nodeAt n i).up e):=by
 unfold roundN;have key:∀c:Nat,c<=5->∀F,F=(List.range c).foldl (fun (m:Nt) (k:Nat)=>allN (tellN m (k:Int)).1) n->
   Calm n F/\(∀i:Int,isNode i->i<c->0<=(nodeAt n i).up->whole n i (nodeAt n i).up=true->∀e,Knows n i e->TrueE n e->Knows F (nodeAt n i).up e):=by
  intro c
  induction c with
  |zero=>
   intro _ F hF;rw[show F=n from hF];exact⟨Calm.refl h hw,fun i hi h0=>by unfold isNode at hi;omega⟩
  |succ c ih=>
   rintro hc F rfl;obtain⟨a1,a2⟩:=ih (by omega) _ rfl;rw[List.range_succ,List.foldl_append];simp only[List.foldl_cons,List.foldl_nil];generalize (List.range c).foldl (fun (m:Nt) (k:Nat)=>allN (tellN m (k:Int)).1) n=F at a1 a2 ⊢;have hcn:isNode (c:Int):=⟨by omega,by omega⟩
   obtain⟨s1,s2⟩:=step_tell a1.ok a1.words hcn;refine⟨a1.trans s1,fun i hi ic u0 uw e k T=>?_⟩;have hu:isNode (nodeAt n i).up:=by
    have W:=h.way i hi;have i0:i≠0:=fun c=>by have:=(W.root c).2;omega
    exact⟨u0,(W.up i0).1.2⟩
   by_cases q:i=(c:Int)
   ·subst q
    have su:=(a1.same _ hi).2.2.2;rw[<-su];refine s2 (by rw[su];exact u0) (by rw[a1.whole,su];exact uw) e (a1.known _ e hi k) (T.later a1.later)
   ·exact s1.known _ e hu (a2 i hi (by omega) u0 uw e k T)
 obtain⟨k1,k2⟩:=key 5 lr_ _ rfl;exact⟨k1,fun i hi=>k2 i hi (by unfold isNode at hi;omega)⟩
theorem foldl_once {α:Type} (f:α->α) (k:Nat):∀x:α,(List.range (k+1)).foldl (fun m _=>f m) x=(List.range k).foldl (fun m _=>f m) (f x):=by
 induction k with
 |zero=>intro x;rfl
 |succ k ih=>intro x;rw[List.range_succ,List.foldl_append,ih,List.range_succ,List.foldl_append];rfl
theorem rounds_calm {n:Nt} (h:NetOk n) (hw:n.words=[]) (k:Nat):Calm n ((List.range k).foldl (fun m _=>roundN (fun m i=>(tellN m i).1) m) n):=by
 induction k with
 |zero=>exact Calm.refl h hw
 |succ k ih=>
  rw[List.range_succ,List.foldl_append];simp only[List.foldl_cons,List.foldl_nil];generalize (List.range k).foldl (fun m _=>roundN (fun m i=>(tellN m i).1) m) n=F at ih ⊢;exact ih.trans (round_tell ih.ok ih.words).1
def Way (β:Int) (n:Nt):Prop:=∀j,isNode j->(nodeAt n j).beacon=β->j≠0->(nodeAt n j).up≠ -1->whole n j (nodeAt n j).up=true/\(nodeAt n (nodeAt n j).up).beacon=β/\(nodeAt n (nodeAt n j).up).level<(nodeAt n j).level
theorem up_node {n:Nt} (h:NetOk n) {j:Int} (hj:isNode j) (j0:j≠0) (u:(nodeAt n j).up≠ -1):isNode (nodeAt n j).up:=by
 have W:=(h.way j hj).up j0;exact⟨by omega,W.1.2⟩
theorem Way.calm {β:Int} {n m:Nt} (h:NetOk n) (W:Way β n) (C:Calm n m):Way β m:=fun j hj fj j0 u=>by
 have s:=C.same j hj;rw[s.2.1]at fj;rw[s.2.2.2]at u ⊢;rw[s.2.2.1];obtain⟨a,b,c⟩:=W j hj fj j0 u;have t:=C.same _ (up_node h hj j0 u);exact⟨by rw[C.whole];exact a,by rw[t.2.1];exact b,by rw[t.2.2.1];exact c⟩
theorem comes {β:Int} (L:Nat):∀{n:Nt},NetOk n->n.words=[]->Way β n->∀b,isNode b->(nodeAt n b).beacon=β->(nodeAt n b).level<=L->(nodeAt n b).level<=4->∀e,Knows n b e->TrueE n e->
  Knows ((List.range L).foldl (fun m _=>roundN (fun m i=>(tellN m i).1) m) n) 0 e:=by
 induction L with
 |zero=>
  intro n h hw W b hb fb lb l4 e k T
  by_cases b0:b=0
  ·subst b0;exact k
  ·have lv:=(h.way b hb).level b0
   omega
 |succ L ih=>
  intro n h hw W b hb fb lb l4 e k T
  by_cases b0:b=0
  ·subst b0
   exact (rounds_calm h hw (L+1)).known 0 e zero_node k
  ·have Wb:=h.way b hb
   have lv:=Wb.level b0;have u:(nodeAt n b).up≠ -1:=fun c=>by have:=(Wb.none b0).1 c;omega
   have hu:=up_node h hb b0 u;obtain⟨w1,w2,w3⟩:=W b hb fb b0 u;obtain⟨C,up⟩:=round_tell h hw;have s:=C.same _ hu;rw[foldl_once];exact ih C.ok C.words (W.calm h C) _ hu (by rw[s.2.1];exact w2) (by rw[s.2.2.1];omega) (by rw[s.2.2.1];omega) e (up b hb hu.1 w1 e k T) (T.later C.later)
theorem hear_root {n:Nt} (h:NetOk n) {w:Wd} (hw:WordOk n w):(nodeAt (hearN n w) 0).beacon=(nodeAt n 0).beacon:=by
 rcases hw.kind with ⟨k,_⟩|⟨k,_⟩
 ·rcases hello_node h hw k zero_node with e|⟨e0,e1,_⟩
  ·rw[e]
  ·exact absurd e0.symm e1
 ·rw[told_node h hw k zero_node]
  split<;>rfl
theorem hears_same:∀(ws:List Wd) {n:Nt},NetOk n->(∀w ∈ ws,WordOk n w)->(nodeAt (ws.foldl hearN n) 0).beacon=(nodeAt n 0).beacon/\(ws.foldl hearN n).links=n.links/\(ws.foldl hearN n).past=n.past
 | [],_,_,_=>⟨rfl,rfl,rfl⟩
 |w::ws,n,h,hw=>by
  have w0:=hw w (List.mem_cons_self ..);have L:=hear_later h w0;have r:=hears_same ws (ok_hear h w0) (fun v hv=>(hw v (List.mem_cons_of_mem _ hv)).later L.1 L.2);have q:=hear_rest n w;rw[List.foldl_cons];exact⟨r.1.trans (hear_root h w0),r.2.1.trans q.2.1,r.2.2.trans q.2.2⟩
theorem born_same {n m:Nt} (h:NetOk n) (k:NetOk m) (e:m.past=n.past) {j:Int} (hj:isNode j):(nodeAt m j).born=(nodeAt n j).born:=by
 have a:=(h.pasts j hj).len;have b:=(k.pasts j hj).len;have r:rowsAt m j=rowsAt n j:=by unfold rowsAt;rw[e]
 rw[r]at b;omega
theorem newest {n:Nt} (h:NetOk n) {b:Int} (hb:isNode b) {o y:En} (ho:findE (nodeAt n b).known b=some o) (T:TrueE n y) (yb:y.node=b) (a:atLeast y o):y=o:=by
 obtain⟨o',o1,o2,o3⟩:=h.own b hb;rw[ho]at o1;obtain rfl:=Option.some.inj o1;have To:=(h.known b hb).all o (find_some ho).1;have on:=(find_some ho).2;have tb:=T.born;have tn:=T.num;rw[yb]at tb tn;unfold atLeast at a;have e1:y.born=o.born:=by omega
 rw[e1,o2]at tn;have e2:y.num=o.num:=by rw[e1]at a;omega
 have e3:y.s=o.s:=by rw[T.s,To.s,yb,on,e1,e2]
 cases y;cases o;simp only at yb on e1 e2 e3;rw[yb,on,e1,e2,e3]
structure Rested (n x:Nt):Prop where
 ok:NetOk x
 words:x.words=[]
 links:x.links=n.links
 past:x.past=n.past
 born:∀j,isNode j->(nodeAt x j).born=(nodeAt n j).born
 beacon:(nodeAt x 0).beacon=(nodeAt n 0).beacon+1
 near:∀q:Nat,q<=5->∀b,isNode b->Rk n.links q b->Near ((nodeAt n 0).beacon+1) x b q
 far:∀j,isNode j->(nodeAt x j).beacon=(nodeAt n 0).beacon+1->Rk n.links (nodeAt x j).level.toNat j
 way:Way ((nodeAt n 0).beacon+1) x
 knows:∀b,isNode b->Rk n.links 4 b->findE (nodeAt x 0).known b=findE (nodeAt x b).known b
theorem rested {n:Nt} (h:NetOk n) (hb:(nodeAt n 0).beacon<1000):Rested n (restN n):=by
 have o0:=ok_all h;obtain⟨b0,l0,p0⟩:=hears_same n.words h h.word;have b0:(nodeAt (allN n) 0).beacon=(nodeAt n 0).beacon:=b0;have l0:(allN n).links=n.links:=l0;have p0:(allN n).past=n.past:=p0;have w0:(allN n).words=[]:=rfl;unfold restN;generalize allN n=n0 at o0 b0 l0 p0 w0 ⊢;simp only;have o1:=ok_beacon o0 (by omega)
 have N1:∀j,isNode j->nodeAt (setNode n0 0 { nodeAt n0 0 with beacon:=(nodeAt n0 0).beacon+1 }) j=if j=0 then { nodeAt n0 0 with beacon:=(nodeAt n0 0).beacon+1 }else nodeAt n0 j:=fun j hj=>by
  rw[set_put o0 zero_node];exact put_node o0 zero_node hj
 have l1:(setNode n0 0 { nodeAt n0 0 with beacon:=(nodeAt n0 0).beacon+1 }).links=n0.links:=rfl;have p1:(setNode n0 0 { nodeAt n0 0 with beacon:=(nodeAt n0 0).beacon+1 }).past=n0.past:=rfl;have w1:(setNode n0 0 { nodeAt n0 0 with beacon:=(nodeAt n0 0).beacon+1 }).words=n0.words:=rfl;generalize setNode n0 0 { nodeAt n0 0 with beacon:=(nodeAt n0 0).beacon+1 }=n1 at o1 N1 l1 p1 w1 ⊢
 have r1:(nodeAt n1 0).beacon=(nodeAt n 0).beacon+1:=by
  rw[N1 0 zero_node,if_pos rfl];show (nodeAt n0 0).beacon+1=_
  rw[b0]
 have H1:Hi ((nodeAt n 0).beacon+1) n1:=by
  refine⟨o1,r1,fun w hw=>?_,fun j hj fj=>?_⟩
  ·rw[w1,w0]at hw;cases hw
  ·by_cases z:j=0
   ·subst z
    have e:=((o1.way 0 zero_node).root rfl).1;exact⟨by rw[e];rfl,fun c=>absurd rfl c⟩
   ·rw[N1 j hj,if_neg z]at fj
    have:=(o0.way j hj).beacon;omega
 obtain⟨⟨H2,w2,l2,p2⟩,near⟩:=rounds_hi H1 (by rw[w1,w0]) 5 lr_ _ rfl;generalize (List.range 5).foldl (fun m _=>roundN (fun m i=>(helloN m i).1) m) n1=n2 at H2 w2 l2 p2 near ⊢;have C:=rounds_calm H2.ok w2 5;have W2:Way ((nodeAt n 0).beacon+1) n2:=fun j hj fj j0 u=>(H2.way j hj fj).2 j0 u
 have co:=fun b hb fb lb l4 e k T=>comes (β:=(nodeAt n 0).beacon+1) 5 H2.ok w2 W2 b hb fb lb l4 e k T
 generalize (List.range 5).foldl (fun m _=>roundN (fun m i=>(tellN m i).1) m) n2=x at C co ⊢;have lx:x.links=n.links:=C.links.trans (l2.trans (l1.trans l0));have px:x.past=n.past:=C.past.trans (p2.trans (p1.trans p0));have ll:n1.links=n.links:=l1.trans l0;refine⟨C.ok,C.words,lx,px,fun j hj=>born_same h C.ok px hj,?_,fun q hq b hb r=>?_,fun j hj fj=>?_,W2.calm H2.ok C,fun b hb r=>?_⟩
 ·rw[(C.same 0 zero_node).2.1];exact H2.root
 ·have N:=near q hq b hb (by rw[ll];exact r)
  have s:=C.same b hb;exact⟨by rw[s.2.1];exact N.1,by rw[s.2.2.1];exact N.2⟩
 ·have s:=C.same j hj
  rw[s.2.1]at fj;rw[s.2.2.1];have:=(H2.way j hj fj).1;rwa[l2,ll]at this
 ·have N:=near 4 (by decide) b hb (by rw[ll];exact r)
  obtain⟨o,o1',o2,o3⟩:=H2.ok.own b hb;have To:=(H2.ok.known b hb).all o (find_some o1').1;have on:=(find_some o1').2;have k:=co b hb N.1 (by have:=N.2;omega) N.2 o ⟨o,by rw[on];exact o1',atLeast.refl _⟩ To;obtain⟨y,y1,ya⟩:=k;rw[on]at y1;have yn:=(find_some y1).2;have Ty:=(C.ok.known 0 zero_node).all y (find_some y1).1;obtain⟨ox,x1,x2,x3⟩:=C.ok.own b hb;have bs:=(C.same b hb).1
  have ax:atLeast y ox:=by
   refine ya.trans (.inr ⟨by rw[x2,o2,bs],?_⟩);have e:pastAt x b (nodeAt x b).born=pastAt n2 b (nodeAt n2 b).born:=by unfold pastAt rowsAt;rw[C.past,bs]
   rw[x3,o3,e];exact Int.le_refl _
  rw[y1,x1,newest C.ok hb x1 Ty yn ax]
theorem five_nodes:∀a b c d e:Fin 5,(a.val==0 || b.val==0 || c.val==0 || d.val==0 || e.val==0 || a==b || a==c || a==d || a==e || b==c || b==d || b==e || c==d || c==e || d==e)=true:=by decide+kernel
theorem Rk_four {ls:List Bool} {b:Int} (hb:isNode b) (h:Rk ls 5 b):Rk ls 4 b:=by
 rcases h with h|⟨a,ha,ra,la⟩
 ·exact h
 by_cases q3:Rk ls 3 a
 ·exact .inr ⟨a,ha,q3,la⟩
 rcases ra with ra|⟨c,hc,rc,lc⟩
 ·exact absurd ra q3
 by_cases q2:Rk ls 2 c
 ·exact absurd (.inr ⟨c,hc,q2,lc⟩) q3
 rcases rc with rc|⟨d,hd,rd,ld⟩
 ·exact absurd rc q2
 by_cases q1:Rk ls 1 d
 ·exact absurd (.inr ⟨d,hd,q1,ld⟩) q2
 rcases rd with rd|⟨e,he,re,le⟩
 ·exact absurd rd q1
 by_cases q0:Rk ls 0 e
 ·exact absurd (.inr ⟨e,he,q0,le⟩) q1
 apply Classical.byContradiction;intro nb;have re1:Rk ls 1 e:=re;have rd2:Rk ls 2 d:=.inr ⟨e,he,re,le⟩;have rc3:Rk ls 3 c:=.inr ⟨d,hd,rd2,ld⟩;have ra4:Rk ls 4 a:=.inr ⟨c,hc,rc3,lc⟩;have z:∀{k x},¬Rk ls k x->x≠0:=fun q e=>q (Rk_mono (Nat.zero_le _) (show Rk ls 0 _ from e))
 unfold isNode at ha hb hc hd he;have f:∀{x y:Int},0<=x->0<=y->x≠y->x.toNat≠y.toNat:=fun p q r s=>r (by omega)
 have five:=five_nodes ⟨b.toNat,by omega⟩ ⟨a.toNat,by omega⟩ ⟨c.toNat,by omega⟩ ⟨d.toNat,by omega⟩ ⟨e.toNat,by omega⟩;simp only[Bool.or_eq_true,beq_iff_eq,Fin.mk.injEq]at five;have zb:=z nb;have za:=z q3;have zc:=z q2;have zd:=z q1;have ze:=z q0;have ba:=f hb.1 ha.1 (fun q=>nb (q ▸ ra4));have bc:=f hb.1 hc.1 (fun q=>nb (q ▸ Rk_mono (by decide) rc3))
 have bd:=f hb.1 hd.1 (fun q=>nb (q ▸ Rk_mono (by decide) rd2));have be:=f hb.1 he.1 (fun q=>nb (q ▸ Rk_mono (by decide) re1));have ac:=f ha.1 hc.1 (fun q=>q3 (q ▸ rc3));have ad:=f ha.1 hd.1 (fun q=>q3 (q ▸ Rk_mono (by decide) rd2));have ae:=f ha.1 he.1 (fun q=>q3 (q ▸ Rk_mono (by decide) re1));have cd:=f hc.1 hd.1 (fun q=>q2 (q ▸ rd2))
 have ce:=f hc.1 he.1 (fun q=>q2 (q ▸ Rk_mono (by decide) re1));have de:=f hd.1 he.1 (fun q=>q1 (q ▸ re1));rcases five with (((((((((((((q|q)|q)|q)|q)|q)|q)|q)|q)|q)|q)|q)|q)|q)|q
 ·omega
 ·omega
 ·omega
 ·omega
 ·omega
 ·exact ba q
 ·exact bc q
 ·exact bd q
 ·exact be q
 ·exact ac q
 ·exact ad q
 ·exact ae q
 ·exact cd q
 ·exact ce q
 ·exact de q
theorem Rk_all {ls:List Bool}:∀(k:Nat) {b:Int},isNode b->Rk ls k b->Rk ls 4 b
 | 0,_,_,h=>Rk_mono (Nat.zero_le _) h
 |k+1,b,hb,h=>by
  rcases h with h|⟨a,ha,ra,la⟩
  ·exact Rk_all k hb h
  ·exact Rk_four hb (.inr ⟨a,ha,Rk_all k ha ra,la⟩)
def seeB (ls:List Bool) (a:Nat) (s:List Bool) (b:Nat):List Bool:=s.set b (s.getD b false || (s.getD a false&&wl ls a b))
def seeA (ls:List Bool) (s:List Bool) (a:Nat):List Bool:=(List.range 5).foldl (seeB ls a) s
def seeR (ls:List Bool) (s:List Bool):List Bool:=(List.range 5).foldl (seeA ls) s
def seen0:List Bool:=[true,false,false,false,false]
def seenN (ls:List Bool):List Bool:=(List.range 5).foldl (fun s _=>seeR ls s) seen0
def reachN (n:Nt):List Int:=if n.links.length=25 then ((List.range 5).filter fun i=>(seenN n.links).getD i false).map fun i:Nat=>(i:Int)else []
structure Seen (ls:List Bool) (s:List Bool):Prop where
 len:s.length=5
 all:∀b,b<5->s.getD b false=true->∃k,Rk ls k (b:Int)
section
variable {ls s:List Bool} {a b:Nat}
theorem seeB_at (h:s.length=5) (hb:b<5) (j:Nat):(seeB ls a s b).getD j false=if b=j then (s.getD b false || (s.getD a false&&wl ls a b))else s.getD j false:=by
 unfold seeB;rw[getD_set,h]
 by_cases q:b=j
 ·rw[if_pos ⟨q,hb⟩,if_pos q]
 ·rw[if_neg (fun c=>q c.1),if_neg q]
theorem seeB_seen (h:Seen ls s) (ha:a<5) (hb:b<5):Seen ls (seeB ls a s b):=by
 refine⟨by unfold seeB;rw[List.length_set];exact h.len,fun j hj q=>?_⟩;rw[seeB_at h.len hb]at q
 split at q
 ·rename_i e
  subst e;rcases Bool.or_eq_true _ _ ▸ q with q|q
  ·exact h.all b hj q
  ·have q:=Bool.and_eq_true _ _ ▸ q
   obtain⟨k,r⟩:=h.all a ha q.1;exact⟨k+1,.inr ⟨a,⟨by omega,by omega⟩,r,q.2⟩⟩
 ·exact h.all j hj q
theorem seeB_mono (h:s.length=5) (hb:b<5) {j:Nat} (q:s.getD j false=true):(seeB ls a s b).getD j false=true:=by
 rw[seeB_at h hb]
 split
 ·rename_i e
  rw[e,q];rfl
 ·exact q
theorem seeA_all (h:Seen ls s) (ha:a<5):Seen ls (seeA ls s a)/\(∀j,s.getD j false=true->(seeA ls s a).getD j false=true)/\(s.getD a false=true->∀b:Nat,b<5->wl ls a b=true->(seeA ls s a).getD b false=true):=by
 unfold seeA;have key:∀c:Nat,c<=5->∀F,F=(List.range c).foldl (seeB ls a) s->Seen ls F/\(∀j,s.getD j false=true->F.getD j false=true)/\(s.getD a false=true->∀b:Nat,b<c->wl ls a b=true->F.getD b false=true):=by
  intro c
  induction c with
  |zero=>intro _ F hF;rw[show F=s from hF];exact⟨h,fun _ q=>q,fun _ b hb=>absurd hb (Nat.not_lt_zero b)⟩
  |succ c ih=>
   rintro hc F rfl;obtain⟨i1,i2,i3⟩:=ih (by omega) _ rfl;rw[List.range_succ,List.foldl_append];simp only[List.foldl_cons,List.foldl_nil];generalize (List.range c).foldl (seeB ls a) s=F at i1 i2 i3 ⊢;refine⟨seeB_seen i1 ha (by omega),fun j q=>seeB_mono i1.len (by omega) (i2 j q),fun qa b hb w=>?_⟩
   by_cases e:b=c
   ·subst e
    rw[seeB_at i1.len (by omega),if_pos rfl,i2 a qa,w];simp
   ·exact seeB_mono i1.len (by omega) (i3 qa b (by omega) w)
 exact key 5 lr_ _ rfl
theorem seeR_all (h:Seen ls s):Seen ls (seeR ls s)/\(∀j,s.getD j false=true->(seeR ls s).getD j false=true)/\(∀a:Nat,a<5->s.getD a false=true->∀b:Nat,b<5->wl ls a b=true->(seeR ls s).getD b false=true):=by
 unfold seeR;have key:∀c:Nat,c<=5->∀F,F=(List.range c).foldl (seeA ls) s->Seen ls F/\(∀j,s.getD j false=true->F.getD j false=true)/\(∀a:Nat,a<c->s.getD a false=true->∀b:Nat,b<5->wl ls a b=true->F.getD b false=true):=by
  intro c
  induction c with
  |zero=>intro _ F hF;rw[show F=s from hF];exact⟨h,fun _ q=>q,fun a ha=>absurd ha (Nat.not_lt_zero a)⟩
  |succ c ih=>
   rintro hc F rfl;obtain⟨i1,i2,i3⟩:=ih (by omega) _ rfl;rw[List.range_succ,List.foldl_append];simp only[List.foldl_cons,List.foldl_nil];generalize (List.range c).foldl (seeA ls) s=F at i1 i2 i3 ⊢;obtain⟨s1,s2,s3⟩:=seeA_all (a:=c) i1 (by omega);refine⟨s1,fun j q=>s2 j (i2 j q),fun a ha qa b hb w=>?_⟩
   by_cases e:a=c
   ·subst e;exact s3 (i2 a qa) b hb w
   ·exact s2 b (i3 a (by omega) qa b hb w)
 exact key 5 lr_ _ rfl
end
theorem seen_all (ls:List Bool):Seen ls (seenN ls)/\∀q:Nat,q<=5->∀b:Nat,b<5->Rk ls q b->(seenN ls).getD b false=true:=by
 have s0:Seen ls seen0:=⟨rfl,fun b hb q=>by
    match b,hb with
    | 0,_=>exact⟨0,rfl⟩
    | 1,_=>cases q
    | 2,_=>cases q
    | 3,_=>cases q
    | 4,_=>cases q⟩
 generalize hF:seenN ls=G;have key:∀k:Nat,k<=5->∀F,F=(List.range k).foldl (fun s _=>seeR ls s) seen0->Seen ls F/\∀q:Nat,q<=k->∀b:Nat,b<5->Rk ls q b->F.getD b false=true:=by
  intro k
  induction k with
  |zero=>
   intro _ F hF;rw[show F=seen0 from hF];refine⟨s0,fun q hq b _ r=>?_⟩;obtain rfl:q=0:=by omega
   have r:(b:Int)=0:=r;obtain rfl:b=0:=by omega
   rfl
  |succ k ih=>
   rintro hk F rfl;obtain⟨i1,i2⟩:=ih (by omega) _ rfl;rw[List.range_succ,List.foldl_append];simp only[List.foldl_cons,List.foldl_nil];generalize (List.range k).foldl (fun s _=>seeR ls s) seen0=F at i1 i2 ⊢;obtain⟨s1,s2,s3⟩:=seeR_all i1;refine⟨s1,fun q=>?_⟩
   induction q with
   |zero=>intro _ b hb r;exact s2 b (i2 0 (by omega) b hb r)
   |succ q iq=>
    intro hq b hb r;rcases r with r|⟨a,ha,ra,la⟩
    ·exact iq (by omega) b hb r
    ·unfold isNode at ha
     have ea:((a.toNat:Nat):Int)=a:=by omega
     exact s3 a.toNat (by omega) (i2 q (by omega) a.toNat (by omega) (by rw[ea];exact ra)) b hb (by rw[ea];exact la)
 exact key 5 lr_ G hF.symm
theorem reach_iff {n:Nt} (h:n.links.length=25) (i:Int):i ∈ reachN n↔isNode i/\Rk n.links 4 i:=by
 unfold reachN;rw[if_pos h,List.mem_map];obtain⟨s1,s2⟩:=seen_all n.links
 constructor
 ·rintro⟨k,hk,rfl⟩
  obtain⟨k1,k2⟩:=List.mem_filter.1 hk;have k5:=List.mem_range.1 k1;have hn:isNode (k:Int):=⟨by omega,by omega⟩
  obtain⟨q,r⟩:=s1.all k k5 k2;exact⟨hn,Rk_all q hn r⟩
 ·rintro⟨hi,r⟩
  unfold isNode at hi;have e:((i.toNat:Nat):Int)=i:=by omega
  exact⟨i.toNat,List.mem_filter.2 ⟨List.mem_range.2 (by omega),s2 4 (by decide) _ (by omega) (by rw[e];exact r)⟩,e⟩
theorem reach_asc (n:Nt):(reachN n).Pairwise (· <·):=by
 unfold reachN
 split
 ·refine List.pairwise_map.2 (List.Pairwise.imp (fun {a b} q=>by omega) (List.Pairwise.filter _ List.pairwise_lt_range))
 ·exact List.Pairwise.nil
theorem reach_link {n:Nt} (h:n.links.length=25) {a b:Int} (ha:a ∈ reachN n) (hb:isNode b) (w:wl n.links a b=true):b ∈ reachN n:=by
 rw[reach_iff h]at ha ⊢;exact⟨hb,Rk_four hb (.inr ⟨a,ha.1,ha.2,w⟩)⟩
theorem Rk_from {ls:List Bool}:∀(k:Nat) {b:Int},Rk ls k b->b≠0->∃a,isNode a/\Rk ls k a/\wl ls a b=true
 | 0,b,h,h0=>absurd h h0
 |k+1,b,h,h0=>by
  rcases h with h|⟨a,ha,ra,la⟩
  ·obtain⟨a,ha,ra,la⟩:=Rk_from k h h0
   exact⟨a,ha,.inl ra,la⟩
  ·exact⟨a,ha,.inl ra,la⟩
theorem reach_path {n:Nt} (h:n.links.length=25) {b:Int} (hb:b ∈ reachN n) (h0:b≠0):∃a ∈ reachN n,wl n.links a b=true:=by
 obtain⟨a,ha,ra,la⟩:=Rk_from 4 ((reach_iff h b).1 hb).2 h0;exact⟨a,(reach_iff h a).2 ⟨ha,ra⟩,la⟩
theorem reach_root {n:Nt} (h:n.links.length=25):(0:Int) ∈ reachN n:=(reach_iff h 0).2 ⟨zero_node,Rk_mono (Nat.zero_le _) rfl⟩
theorem lkP_wl {ls:List Bool} {a b:Int} (ha:isNode a) (hb:isNode b):lkP ls 25 a b=wl ls a b:=by
 unfold lkP wl isNode at *;rw[decide_eq_true (by omega),Bool.true_and]
theorem asc_same:∀{a b:List Int},a.Pairwise (· <·)->b.Pairwise (· <·)->(∀x,x ∈ a↔x ∈ b)->a=b
 | [],[],_,_,_=>rfl
 | [],y::b,_,_,h=>absurd ((h y).2 List.mem_cons_self) (by simp)
 |x::a,[],_,_,h=>absurd ((h x).1 List.mem_cons_self) (by simp)
 |x::a,y::b,ha,hb,h=>by
  have hx:=List.pairwise_cons.1 ha;have hy:=List.pairwise_cons.1 hb;have e:x=y:=by
   rcases List.mem_cons.1 ((h x).1 List.mem_cons_self)with q|q
   ·exact q
   ·rcases List.mem_cons.1 ((h y).2 List.mem_cons_self)with p|p
    ·exact p.symm
    ·have:=hx.1 y p;have:=hy.1 x q;omega
  subst e
  congr 1
  refine asc_same hx.2 hy.2 fun z=>⟨fun hz=>?_,fun hz=>?_⟩
  ·rcases List.mem_cons.1 ((h z).1 (List.mem_cons_of_mem _ hz))with q|q
   ·have:=hx.1 z hz;omega
   ·exact q
  ·rcases List.mem_cons.1 ((h z).2 (List.mem_cons_of_mem _ hz))with q|q
   ·have:=hy.1 z hz;omega
   ·exact q
theorem asc_len:∀{a:List Int} {lo:Int},a.Pairwise (· <·)->(∀x ∈ a,lo<=x/\x<=4)->lo<=5->(a.length:Int)<=5 - lo
 | [],lo,_,_,h=>by simp;omega
 |x::a,lo,ha,h,_=>by
  have hx:=List.pairwise_cons.1 ha;have h1:=h x List.mem_cons_self;have:=asc_len (a:=a) (lo:=x+1) hx.2 (fun y hy=>⟨by have:=hx.1 y hy;omega,(h y (List.mem_cons_of_mem _ hy)).2⟩) (by omega);simp only[List.length_cons];omega
def srt (R:List Int):List Int:=R.mergeSort fun x y=>decide (x<=y)
theorem srt_asc {R:List Int} (h:R.Nodup):(srt R).Pairwise (· <·):=by
 have h1:(srt R).Pairwise (fun a b=>decide (a<=b)=true):=List.pairwise_mergeSort (fun a b c p q=>by simp at *;omega) (fun a b=>by simp;omega) R;have h2:(srt R).Pairwise (· ≠·):=(List.mergeSort_perm R _).nodup_iff.2 h;exact (h1.and h2).imp fun⟨p,q⟩=>by simp at p;omega
theorem srt_mem {R:List Int} {x:Int}:x ∈ srt R↔x ∈ R:=(List.mergeSort_perm R _).mem_iff
structure Fnd (ls:List Bool) (R:List Int):Prop where
 once:R.Nodup
 root:(0:Int) ∈ R
 all:∀x ∈ R,isNode x/\Rk ls 4 x
def nextB (ls:List Bool) (R:List Int) (b:Int):Bool:= !(R.contains b)&&R.any (fun o=>lkP ls 25 o b)
theorem Fnd.first (ls:List Bool):Fnd ls [0]:=⟨by simp,by simp,fun x hx=>by
  obtain rfl:=List.mem_singleton.1 hx
  exact⟨zero_node,Rk_mono (Nat.zero_le _) rfl⟩⟩
section
variable {ls:List Bool} {R:List Int} {b:Int}
theorem Fnd.more (h:Fnd ls R) (hb:isNode b) (q:nextB ls R b=true):Fnd ls (R++[b]):=by
 unfold nextB at q;rw[Bool.and_eq_true]at q;obtain⟨q1,q2⟩:=q;obtain⟨o,ho,hl⟩:=List.any_eq_true.1 q2;have nb:b ∉ R:=by simpa using q1
 refine⟨List.nodup_append.2 ⟨h.once,by simp,fun x hx y hy e=>?_⟩,List.mem_append.2 (.inl h.root),fun x hx=>?_⟩
 ·obtain rfl:=List.mem_singleton.1 hy
  exact nb (e ▸ hx)
 ·rcases List.mem_append.1 hx with hx|hx
  ·exact h.all x hx
  ·obtain rfl:=List.mem_singleton.1 hx
   refine⟨hb,Rk_four hb (.inr ⟨o,(h.all o ho).1,(h.all o ho).2,?_⟩)⟩;rw[<-lkP_wl (h.all o ho).1 hb];exact hl
theorem Fnd.len (h:Fnd ls R):R.length<=5:=by
 have h1:=asc_len (lo:=0) (srt_asc h.once) (fun x hx=>(h.all x (srt_mem.1 hx)).1) (by omega);have h2:=(List.mergeSort_perm R (fun x y:Int=>decide (x<=y))).length_eq;unfold srt at h1;omega
theorem Fnd.shut (h:Fnd ls R) (q:∀b:Nat,b<5->nextB ls R b=false):∀(k:Nat) {c:Int},isNode c->Rk ls k c->c ∈ R
 | 0,c,_,hc=>by have hc:c=0:=hc;rw[hc];exact h.root
 |k+1,c,hn,hc=>by
  rcases hc with hc|⟨a,ha,ra,la⟩
  ·exact Fnd.shut h q k hn hc
  ·have ma:=Fnd.shut h q k ha ra
   have hq:=q c.toNat (by unfold isNode at hn;omega);rw[show ((c.toNat:Nat):Int)=c by unfold isNode at hn;omega]at hq;unfold nextB at hq;rw[List.any_eq_true.2 ⟨a,ma,by rw[lkP_wl ha hn];exact la⟩,Bool.and_true]at hq;exact List.contains_iff_mem.1 (by simpa using hq)
theorem Fnd.done {n:Nt} (h:Fnd n.links R) (hl:n.links.length=25) (q:∀b:Nat,b<5->nextB n.links R b=false):srt R=reachN n:=
 asc_same (srt_asc h.once) (reach_asc n) fun x=>by
  rw[srt_mem,reach_iff hl];exact⟨fun hx=>h.all x hx,fun hx=>h.shut q 4 hx.1 hx.2⟩
end
end Go.Proofs.YtcblbdpdbggkbaaGreat.N
namespace Go.Proofs.YtcblbdpdbggkbaaGreat
open Go.RowKit Go.Sort
namespace N
theorem known_len {n:Nt} {es:List En} (h:KnownOk n es):es.length<=5:=by
 have h1:(es.map fun e=>e.node).Pairwise (· <·):=List.pairwise_map.2 h.asc;have h2:=asc_len (lo:=0) h1 (fun x hx=>by
    obtain⟨e,he,rfl⟩:=List.mem_map.1 hx
    exact (h.all e he).node) o_
 rw[List.length_map]at h2;omega
theorem _root_.Go.Proofs.YtcblbdpdbggkbaaGreat.M.ownR {B:Nat} {w0 w w':World} {l:List Ch} {v:Value} {rs:List (List Int)} {G C:Nat->Nat} (h:M B w0 w l) (hb:Below w.heap.size w w') (ho:OwnR w' w.heap.size v rs G C):M B w0 w' (rowsC v rs::l):=
 h.add hb (rowsR_of ho) (List.nodup_append.2 ⟨block_nodup _,List.pairwise_map.2 (List.Pairwise.imp_of_mem (fun {i j} hi hj q e=>ho.apart i j (List.mem_range.1 hi) (List.mem_range.1 hj) q e) List.nodup_range),fun a ha b hb e=>by
    obtain⟨i,hi,rfl⟩:=List.mem_map.1 hb
    exact ho.off i (List.mem_range.1 hi) (by rw[block_mem ha,e])⟩) fun b hb=>by
   rcases List.mem_append.1 hb with hb|hb
   ·exact (World.ownsRow.lt ho.hdr b (block_mem hb)).1
   ·obtain⟨i,hi,rfl⟩:=List.mem_map.1 hb
    exact ((ho.row i (List.mem_range.1 hi)).lt (G i) rfl).1
theorem spSumCopy_at (w:World) {V:SV} {s:Sm} {f:List Nat} (h:sumR w (cS V s) s f) (hs:okS s=true):
  Calls Tryz.prog 167 #[.agg #[.slice V.xr V.nr V.cr,.slice V.xf V.nf V.cf,.slice V.xt V.nt V.ct,iv s.lo,iv s.al,.slice V.xk V.nk V.ck,iv s.ka]] w fun r w'=>∃U:SV,r=.returned (vS U s)/\M w.heap.size w w' [sumR_frame.ch (cS U s) s]:=by
 obtain⟨fr,ff,ft,fk,hr,hf,ht,hk⟩:=sum_reads h;obtain⟨v',ev,rr⟩:=rowsR_rd hr;cases ev;have hl:=((okS_iff _).1 hs).small.lens;have HO:=hd_ ((okS_iff _).1 hs).r;have LF:=hd_ hl.f;have LT:=hd_ hl.t;have LK:=hd_ hl.k;have HR:=hd_ rr;have HF:=hd_ (RdL.fl hf);have HT:=hd_ (RdL.fl ht);have HK:=hd_ (RdL.fl hk);clear h hl hr hf ht hk hs rr
 have X:=((M.start w).alloc (cS V s) 46).alloc #[zn,zn,zn,iv 0,iv 0,zn,iv 0] 46;simp only[World.size_alloc]at X;obtain⟨p1,hp1⟩:=nm_ w.heap.size;obtain⟨p2,hp2⟩:=nm_ (w.heap.size+1);obtain⟨W0,hW0⟩:=nm_ ((w.alloc (.cells (cS V s) 46)).alloc (.cells #[zn,zn,zn,iv 0,iv 0,zn,iv 0] 46));rw[<-hW0, <-hp2]at X
 have H0:=hd_ (show M w.heap.size w W0 [boxC p1 46 (cS V s),boxC p2 46 #[zn,zn,zn,iv 0,iv 0,zn,iv 0]] by rw[hp1];exact X.p1);clear X;go_enter Tryz.func167,Tryz.ntmps167;go_upto_region 1 with fail
 rw[<-hW0, <-hp2, <-hp1];clear hW0 hp2 hp1;obtain⟨c0,c1,c2,c3,c4,c5,c6⟩:=H0.out.cells7;have K1:=hd_ (copy_at W0 _ s.rs (HR.out.below H0.out.below lr_) HO.out)
 go_wp2_with fail
 refine K1.out.mono ?_;rintro r v1 ⟨yr,dr,G,C,rfl,ho,hb⟩;have X:=(H0.out.ownR hb ho).p1;clear ho hb K1 H0 c0 c1 c2 c3 c4 c5 c6;obtain⟨c0,c1,c2,c3,c4,c5,c6⟩:=X.cells7;have cf:=X.free;have Y:=X.set (i:=0) (.slice yr 3 dr);simp only[List.setIfInBounds_toArray,List.set_cons_zero,List.set_cons_succ]at Y;obtain⟨W1,hW⟩:=nm_ (v1.setCell ⟨p1,0,none⟩ (.slice yr 3 dr));rw[<-hW]at Y;have H1:=hd_ Y;clear X Y
 go_upto_region 2 with fail
 rw[<-hW];clear hW c0 c1 c2 c3 c4 c5 c6 cf;have e1:=(H1.out.alloc #[] 3).empty (flatR_frame encI) 1;obtain⟨c0,c1,c2,c3,c4,c5,c6⟩:=e1.p1.cells7;have E1:=hd_ e1;have R1:=hd_ (HF.out.later e1.below);clear e1 H1
 go_upto_region 3 with (at_builtin;go_loud (refine wpList_add intS (fun _=>rfl) encI_one1 E1.out R1.out rfl rfl rfl rfl (by rw[List.length_nil];have:=LF.out;unfold maxLen;omega) (by rw[List.length_nil];have:=LF.out;omega) (N:=s.zs.length) (by rw[List.length_nil,Nat.zero_add]) ?_);intro yf df u1 h;clear c0 c1 c2 c3 c4 c5 c6;obtain⟨c0,c1,c2,c3,c4,c5,c6⟩:=h.p1.cells7;have cf:=h.p1.free;have Y:=h.soft.p1.set (i:=1) (.slice yf s.zs.length df);simp only[List.setIfInBounds_toArray,List.set_cons_zero,List.set_cons_succ]at Y;clear h E1 R1)
 obtain⟨W2,hW⟩:=nm_ (u1.setCell ⟨p1,1,none⟩ (.slice yf s.zs.length df));rw[<-hW]at Y ⊢;have H2:=hd_ Y;clear Y hW c0 c1 c2 c3 c4 c5 c6 cf;have e2:=(H2.out.alloc #[] 213).empty (flatR_frame encP2) 2;obtain⟨c0,c1,c2,c3,c4,c5,c6⟩:=e2.p1.cells7;have E2:=hd_ e2;have R2:=hd_ (HT.out.later e2.below);clear e2 H2
 go_upto_region 4 with (at_builtin;go_loud (refine wpList_add pairS (fun _=>rfl) encP2_one1 E2.out R2.out rfl rfl rfl rfl (by rw[List.length_nil];have:=LT.out;unfold maxLen;omega) (by rw[List.length_nil];have:=LT.out;omega) (N:=s.ps.length) (by rw[List.length_nil,Nat.zero_add]) ?_);intro yt dt u2 h;clear c0 c1 c2 c3 c4 c5 c6;obtain⟨c0,c1,c2,c3,c4,c5,c6⟩:=h.p1.cells7;have cf:=h.p1.free;have Y:=h.soft.p1.set (i:=2) (.slice yt s.ps.length dt);simp only[List.setIfInBounds_toArray,List.set_cons_zero,List.set_cons_succ]at Y;clear h E2 R2)
 obtain⟨W3,hW⟩:=nm_ (u2.setCell ⟨p1,2,none⟩ (.slice yt s.ps.length dt));rw[<-hW]at Y ⊢;have H3:=hd_ Y;clear Y hW c0 c1 c2 c3 c4 c5 c6 cf;have e3:=(H3.out.alloc #[] 152).empty (flatR_frame encP2) 2;obtain⟨c0,c1,c2,c3,c4,c5,c6⟩:=e3.p1.cells7;have E3:=hd_ e3;have R3:=hd_ (HK.out.later e3.below);clear e3 H3
 go_upto_region 5 with (at_builtin;go_loud (refine wpList_add knotS (fun _=>rfl) encP2_one1 E3.out R3.out rfl rfl rfl rfl (by rw[List.length_nil];have:=LK.out;unfold maxLen;omega) (by rw[List.length_nil];have:=LK.out;omega) (N:=s.ks.length) (by rw[List.length_nil,Nat.zero_add]) ?_);intro yk dk u3 h;clear c0 c1 c2 c3 c4 c5 c6;obtain⟨c0,c1,c2,c3,c4,c5,c6⟩:=h.p1.cells7;have cf:=h.p1.free;have Y:=h.soft.p1.set (i:=5) (.slice yk s.ks.length dk);simp only[List.setIfInBounds_toArray,List.set_cons_zero,List.set_cons_succ]at Y;clear h E3 R3)
 obtain⟨W4,hW⟩:=nm_ (u3.setCell ⟨p1,5,none⟩ (.slice yk s.ks.length dk));rw[<-hW]at Y ⊢;have H4:=hd_ Y;clear Y hW c0 c1 c2 c3 c4 c5 c6 cf;obtain⟨U,hU⟩:∃U:SV,U=⟨yr,3,dr,yf,s.zs.length,df,yt,s.ps.length,dt,yk,s.ks.length,dk⟩:=⟨_,rfl⟩
 have H5:=hd_ (show M w.heap.size w W4 (boxC p1 46 (cS U s)::knotsC (.slice U.xk U.nk U.ck) s.ks::pairsC (.slice U.xt U.nt U.ct) s.ps::intsC (.slice U.xf U.nf U.cf) s.zs::rowsC (.slice U.xr U.nr U.cr) s.rs::[boxC p2 46 #[zn,zn,zn,iv 0,iv 0,zn,iv 0]]) by rw[hU];exact H4.out);clear hU H4;obtain⟨c0,c1,c2,c3,c4,c5,c6⟩:=H5.out.cells7
 go_wp2_with (go_loud (refine wpList_mstore H5.out.p5 (vs:=[.slice U.xr U.nr U.cr,.slice U.xf U.nf U.cf,.slice U.xt U.nt U.ct,iv s.lo,iv s.al,.slice U.xk U.nk U.ck,iv s.ka]) (ys:=#[.slice U.xr U.nr U.cr,.slice U.xf U.nf U.cf,.slice U.xt U.nt U.ct,iv s.lo,iv s.al,.slice U.xk U.nk U.ck,iv s.ka]) rfl rfl rfl (by first|rfl|simp) sumI rfl (by simp) (by simp[putA]) ?_);intro w9 h9;have H9:=hd_ h9;clear h9 H5)
 obtain⟨e0,e1,e2,e3,e4,e5,e6⟩:=H9.out.cells7;exact bodyPost_ret (v:=.agg #[.slice U.xr U.nr U.cr,.slice U.xf U.nf U.cf,.slice U.xt U.nt U.ct,iv s.lo,iv s.al,.slice U.xk U.nk U.ck,iv s.ka]) (by simp[results,Tryz.results167,go_sem,e0,e1,e2,e3,e4,e5,e6]) rfl ⟨U,rfl,M.sumWhole ((H9.out.drop.drop).perm (List.reverse_perm [_,_,_,_] |>.symm))⟩
theorem spEntries_at (w:World) {x:Option Addr} {c:Nat} {es:List En} {f:List Nat} (h:knownR TY w [.slice x es.length c] es f) (hk:es.length<=1048576) (hr:∀e ∈ es,okS e.s=true):
  Calls Tryz.prog 98 #[.slice x es.length c] w fun r w'=>∃y cy,r=.returned (.slice y es.length cy)/\M w.heap.size w w' [knownC (.slice y es.length cy) es]:=by
 have H1:=hd_ h;have HR:=hd_ hr;have H0:=hd_ (((M.start w).alloc #[] 64).empty entryR_frame 10);clear h hr;go_enter Tryz.func98,Tryz.ntmps98;go_wp2;go_loopw [3,4] (fun y z wr=>∃(j cy:Nat) (xy:Option Addr),j<=es.length/\z=.int .i64 (j:Int)/\y=.slice xy j cy/\M w.heap.size w wr [knownC (.slice xy j cy) (es.take j)]) (fun _ z _=>es.length - (intOf z).toNat)
 case atStart=>exact⟨0,0,_,Nat.zero_le _,rfl,rfl,H0.out⟩
 case round=>
  clear H0;obtain⟨j,cy,xy,hj,rfl,rfl,hM⟩:=hrel;have H:=hd_ hM;clear hM
  by_cases hlt:j<es.length
  ·obtain⟨e,he⟩:∃e,es[j]? =some e:=⟨_,List.getElem?_eq_getElem hlt⟩
   obtain⟨g,V,fe,rfl,_,_,sr,ca0,ca1,ca2,cas⟩:=known_at H1.out he;have hWB:=H.out.below;have LL:okS e.s=true:=HR.out e (List.mem_of_getElem? he);have ST:=hd_ (take_at he);have LT:Hid ((es.take j).length=j):=hd_ (by rw[List.length_take];omega);replace ca0:=cell_later hWB ca0;replace ca1:=cell_later hWB ca1;replace ca2:=cell_later hWB ca2;have ca3:=cell_later hWB (cas 0 _ rfl)
   have ca4:=cell_later hWB (cas 1 _ rfl);have ca5:=cell_later hWB (cas 2 _ rfl);have ca6:=cell_later hWB (cas 3 _ rfl);have ca7:=cell_later hWB (cas 4 _ rfl);have ca8:=cell_later hWB (cas 5 _ rfl);have ca9:=cell_later hWB (cas 6 _ rfl);have j0:(0:Int)<=(j:Int):=o_;have j1:(j:Int)<(es.length:Int):=o_
   have h2:=H.out.alloc #[iv e.node,iv e.born,iv e.num,.slice V.xr V.nr V.cr,.slice V.xf V.nf V.cf,.slice V.xt V.nt V.ct,.int .i64 (e.s).lo,.int .i64 (e.s).al,.slice V.xk V.nk V.ck,.int .i64 (e.s).ka] 64;obtain⟨p7,hp7⟩:=nm_ wr.heap.size
   obtain⟨W,hW⟩:=nm_ (wr.alloc (.cells #[iv e.node,iv e.born,iv e.num,.slice V.xr V.nr V.cr,.slice V.xf V.nf V.cf,.slice V.xt V.nt V.ct,.int .i64 (e.s).lo,.int .i64 (e.s).al,.slice V.xk V.nk V.ck,.int .i64 (e.s).ka] 64));rw[<-hW, <-hp7]at h2;have H2:=hd_ h2;have KE:=hd_ (spSumCopy_at W (V:=V) (s:=e.s) (sumR_frame.below sr h2.below lr_) LL);clear h2 cas hWB sr he LL H;go_upto_region 6 with fail
   rw[<-hW, <-hp7];clear hW hp7 ca0 ca1 ca2 ca3 ca4 ca5 ca6 ca7 ca8 ca9;obtain⟨d0,d1,d2,d3,d4,d5,d6,d7,d8,d9⟩:=H2.out.cells10
   go_wp2_with fail
   refine KE.out.mono ?_;rintro r2 w2 ⟨U,rfl,hm⟩;have H3:=hd_ (H2.out.plus hm).p1;clear hm KE H2 d0 d1 d2 d3 d4 d5 d6 d7 d8 d9
   go_upto_region 7 with (refine wpList_mstore H3.out (vs:=[.slice U.xr U.nr U.cr,.slice U.xf U.nf U.cf,.slice U.xt U.nt U.ct,.int .i64 (e.s).lo,.int .i64 (e.s).al,.slice U.xk U.nk U.ck,.int .i64 (e.s).ka]) (ys:=#[iv e.node,iv e.born,iv e.num,.slice U.xr U.nr U.cr,.slice U.xf U.nf U.cf,.slice U.xt U.nt U.ct,.int .i64 (e.s).lo,.int .i64 (e.s).al,.slice U.xk U.nk U.ck,.int .i64 (e.s).ka]) rfl rfl rfl rfl sumI rfl (by simp) (by simp[putA]) ?_;intro w3 h3;obtain⟨d0,d1,d2,d3,d4,d5,d6,d7,d8,d9⟩:=h3.cells10;have H4:=hd_ (((h3.p1.entry e.node e.born e.num).p2).alloc #[iv e.node,iv e.born,iv e.num,.slice U.xr U.nr U.cr,.slice U.xf U.nf U.cf,.slice U.xt U.nt U.ct,.int .i64 (e.s).lo,.int .i64 (e.s).al,.slice U.xk U.nk U.ck,.int .i64 (e.s).ka] 64);clear h3 H3)
   have H5:=H4;clear H4
   go_wp2_with (at_builtin;go_loud (refine wpList_app entS entryR_one H5.out rfl rfl rfl rfl (by rw[LT.out];unfold maxLen;omega) (by rw[LT.out];omega) (N:=j+1) (by rw[LT.out]) ?_);intro y3 c3 w4 h6;have H6:=hd_ h6;clear h6 H5 d0 d1 d2 d3 d4 d5 d6 d7 d8 d9)
   go_roundw
   case rel=>exact⟨j+1,c3,y3,o_,by go_num,rfl,by rw[ST.out];exact H6.out.p1.drop⟩
   case measure=>simp[intOf];omega
  ·obtain rfl:j=es.length:=o_
   have ST:Hid (es.take es.length=es):=hd_ List.take_length;rw[ST.out]at H;go_wp2;go_ret;exact⟨_,_,rfl,H.out⟩
section
variable {B:Nat} {w0 w:World} {l:List Ch} {p:Nat} {n:Nt}
theorem tell_none {n:Nt} {i:Int} (h:(nodeAt n i).up<0):tellN n i=(n,false):=by unfold tellN;simp only[if_pos h]
theorem tell_some {n:Nt} {i:Int} (h:¬(nodeAt n i).up<0):tellN n i=sendN n ⟨2,i,(nodeAt n i).up,0,0,(nodeAt n i).known⟩:=by unfold tellN;simp only[if_neg h]
theorem spTell_at (h:M B w0 w (liveC p n::l)) (hs:Sized n) {i:Nat} (hi:i<5) (hu:(nodeAt n (i:Int)).up<=4) (hk:(nodeAt n (i:Int)).known.length<=1048576) (ho:∀e ∈ (nodeAt n (i:Int)).known,okS e.s=true):
  Calls Tryz.prog 264 #[ptrV p,iv (i:Int)] w fun r w'=>r=.returned (.bool (tellN n (i:Int)).2)/\M B w0 w' (liveC p (tellN n (i:Int)).1::l):=by
 obtain⟨g,c1,v2,v3,v4,xk,ck,fk,a0,a1,a2,a3,kr,d0,d1,d2,d3,d4⟩:=h.liveNode hs hi;obtain⟨x,hx⟩:=nm_ (nodeAt n (i:Int));have TN:=hd_ (fun q:x.up<0=>tell_none (n:=n) (i:=(i:Int)) (by rw[<-hx];exact q));have TS:=hd_ (fun q:¬x.up<0=>tell_some (n:=n) (i:=(i:Int)) (by rw[<-hx];exact q));rw[<-hx]at d0 d1 d2 d3 d4 kr hu hk ho TS;obtain⟨kl,hkl⟩:=nm_ x.known.length;have HKL:=hd_ hkl;rw[<-hkl]at d1 kr hk
 have i0:(0:Int)<=(i:Int):=o_;have i1:(i:Int)<5:=o_;have IN:Hid (isNode (i:Int)):=hd_ (by unfold isNode;omega);have h1:=h.alloc #[iv x.born,.slice xk kl ck,iv x.beacon,iv x.level,iv x.up] 55;obtain⟨px,hpx⟩:=nm_ w.heap.size;obtain⟨W0,hW0⟩:=nm_ (w.alloc (.cells #[iv x.born,.slice xk kl ck,iv x.beacon,iv x.level,iv x.up] 55))
 have hb0:Below w.heap.size w W0:=by rw[hW0];exact (Below.refl _ _).alloc lr_ _
 rw[<-hW0, <-hpx]at h1;have KR:=hd_ (knownR_frame.below kr hb0 lr_);have HO:=hd_ ho;have HS:=hd_ hs;have H0:=hd_ h1.p1;clear h h1 hx kr hkl hs hi ho hb0;unfold ptrV;go_enter Tryz.func264,Tryz.ntmps264;go_upto_region 2 with fail
 rw[<-hW0, <-hpx];clear hW0 hpx a0 a1 a2 a3 d0 d1 d2 d3 d4;obtain⟨d0,d1,d2,d3,d4⟩:=H0.out.p1.cells5
 by_cases hup:x.up<0
 case pos=>
  have TT:=hd_ (TN.out hup);go_wp2;go_ret;rw[TT.out];exact⟨rfl,H0.out.p1.drop⟩
 have TT:=hd_ (TS.out hup);have UP:Hid (isNode x.up):=hd_ (by unfold isNode;omega);have S0:Hid (Cells W0 (b5L px (iv x.born) (.slice xk kl ck) (iv x.beacon) (iv x.level) (iv x.up))):=hd_ ⟨d0,d1,d2,d3,d4,trivial⟩;go_wp2;have H1:=hd_ H0.out.drew;obtain⟨W1,hW1⟩:=nm_ W0.drew;have hb1:Below W0.heap.size W0 W1:=by rw[hW1];exact Below.drew (Below.refl _ _)
 rw[<-hW1]at H1;have EW:=hd_ hW1;have S1:=hd_ (S0.out.below hb1);have KE:=hd_ (spEntries_at W1 (x:=xk) (c:=ck) (es:=x.known) (by rw[<-HKL.out];exact knownR_frame.below KR.out hb1 lr_) (by rw[<-HKL.out];exact hk) HO.out);rw[<-HKL.out]at KE;clear hW1 hb1 H0 KR d0 d1 d2 d3 d4
 refine wp_region_plan 9 (.tk 0 6 (.alt 6 (.take 7 (.alt 8 (.alt 9 .done .nomore) .nomore)) .nomore)) (fun w'=>Cells w' (b5L px (iv x.born) (.slice xk kl ck) (iv x.beacon) (iv x.level) (iv x.up))) (by kernel_rfl) (by kernel_rfl) (fun _ _ _ _ _ h=>h) (by rw[<-EW.out];exact S1.out) ?_;rw[<-EW.out]
 repeat (first|refine tC_ ?_|refine tB_ ?_)
 refine plan_last (by rfl) (fun K' hK=>?_);go_simp;refine KE.out.mono ?_;rintro r w2 ⟨y,cy,rfl,hm⟩;have h3:=H1.out.plus hm;have S2:=hd_ (S1.out.below hm.below);refine hK _ _ (.inr S2.out) ?_;clear hK K'
 try refine tP_ ?_
 repeat (first|refine tC_ ?_|refine tB_ ?_)
 have KS:=hd_ (spSend_at (x:=⟨2,(i:Int),x.up,0,0,x.known⟩) ((M.word 2 (i:Int) x.up 0 0 h3).p1) HS.out.links (by have:=HS.out.words;omega) IN.out UP.out);clear h3 hm KE H1 S1;refine plan_last (by rfl) (fun K' hK=>?_);go_simp;refine KS.out.mono ?_;rintro r w3 ⟨rfl,h4⟩;obtain⟨d0,d1,d2,d3,d4⟩:=h4.p1.cells5;refine hK _ _ (.inr ⟨d0,d1,d2,d3,d4,trivial⟩) ?_;clear hK K'
 try refine tP_ ?_
 have H4:=hd_ h4;clear h4 KS S2 d0 d1 d2 d3 d4;refine plan_last (by rfl) (fun K' hK=>?_);go_simp;refine hK _ _ (.inl rfl) ?_;clear hK K'
 try refine tP_ ?_
 refine plan_done ?_;go_wp2;go_ret;rw[TT.out];exact⟨rfl,H4.out.p1.drop⟩
end
section
variable {B:Nat} {w0 w:World} {l:List Ch} {p:Nat}
theorem setget {ns:List Nd} {d:Nat} {x:Nd} (h:ns[d]? =some x) (y:Nd):(ns.set d y)[d]? =some y:=by rw[List.getElem?_set_self (List.getElem?_eq_some_iff.1 h).1]
theorem spHearHello_at {n:Nt} {x:Wd} {v:Value} {d:Nat} (h:M B w0 w (liveC p n::l)) (hs:Sized n) (hd:x.dst=(d:Int)) (d5:d<5) (hk:x.kind≠2) (hlv:0<=x.level/\x.level<=1000000):
  Calls Tryz.prog 306 #[ptrV p,.agg #[iv x.kind,iv x.src,iv (d:Int),iv x.beacon,iv x.level,v]] w fun r w'=>r=.returned (.tuple #[])/\M B w0 w' (liveC p (hearN n x)::l):=by
 obtain⟨lv0,lv1⟩:=hlv;obtain⟨nd,hnd⟩:=nm_ (nodeAt n (d:Int));have gx:=node_get hs.nodes d5;rw[<-hnd]at gx;have HE:Hid (hearN n x=if (d:Int)=0\/(5<=x.level+1/\x.beacon<=nd.beacon)then n else if nd.beacon<x.beacon\/(x.beacon=nd.beacon/\x.level+1<nd.level)then { n with nodes:=n.nodes.set d { nd with beacon:=x.beacon,level:=x.level+1,up:=if 5<=x.level+1 then -1 else x.src } }else n):=hd_ (by
    unfold hearN setNode
    simp only[hd,if_neg hk, <-hnd]
    rfl)
 have h0:=h.alloc #[iv x.kind,iv x.src,iv (d:Int),iv x.beacon,iv x.level,v] 123;obtain⟨pw,hpw⟩:=nm_ w.heap.size;obtain⟨W0,hW0⟩:=nm_ (w.alloc (.cells #[iv x.kind,iv x.src,iv (d:Int),iv x.beacon,iv x.level,v] 123));rw[<-hW0, <-hpw]at h0;have HL0:=hd_ h0.drop;obtain⟨ns,ls,ws,ps⟩:=n;obtain⟨hs1,hs2,hs3,hs4⟩:=hs;simp only at hs1 hs2 hs3 hs4 gx;obtain⟨x1,c1,x2,c2,x3,c3,x4,c4,h1⟩:=h0.p1.live
 simp only at h1;rw[hs1]at h1;obtain⟨f1,hf1⟩:=h1.p1.nodesRd;obtain⟨g1,xk,ck,fk,rfl,_,_,kr,_,_,d0,d1,d2,d3,d4⟩:=node_at hf1 gx;obtain⟨kl,hkl⟩:=nm_ nd.known.length;rw[<-hkl]at d1
 have H1:=hd_ (show M B w0 W0 (nodesC (.slice (some ⟨g1,0,none⟩) 5 c1) ns::boxC p 289 #[.slice (some ⟨g1,0,none⟩) 5 c1,.slice x2 ls.length c2,.slice x3 ws.length c3,.slice x4 ps.length c4]::boxC pw 123 #[iv x.kind,iv x.src,iv (d:Int),iv x.beacon,iv x.level,v]::linksC (.slice x2 ls.length c2) ls::wordsC (.slice x3 ws.length c3) ws::pastC (.slice x4 ps.length c4) ps::l)from h1.p1.p5.p2.p2)
 have GX:=hd_ gx;have D0:Hid (Cells W0 [(⟨g1,d * 5,none⟩,.int .i64 nd.born),(⟨g1,d * 5+1,none⟩,.slice xk kl ck),(⟨g1,d * 5+2,none⟩,.int .i64 nd.beacon),(⟨g1,d * 5+3,none⟩,.int .i64 nd.level),(⟨g1,d * 5+4,none⟩,.int .i64 nd.up)]):=hd_ ⟨d0,d1,d2,d3,d4,trivial⟩
 have CC:∀(w':World) (c':Ch) (l':List Ch),M B w0 w' (boxC pw 123 #[iv x.kind,iv x.src,iv (d:Int),iv x.beacon,iv x.level,v]::c'::boxC p 289 #[.slice (some ⟨g1,0,none⟩) 5 c1,.slice x2 ls.length c2,.slice x3 ws.length c3,.slice x4 ps.length c4]::l')->Cells w' (b4L p (.slice (some ⟨g1,0,none⟩) 5 c1) (.slice x2 ls.length c2) (.slice x3 ws.length c3) (.slice x4 ps.length c4)++b6L pw (iv x.kind) (iv x.src) (iv (d:Int)) (iv x.beacon) (iv x.level) v):=fun w' c' l' h=>by
  obtain⟨b0,b1,b2,b3,b4,b5⟩:=h.cells6;obtain⟨a0,a1,a2,a3⟩:=h.p2.cells4;exact⟨a0,a1,a2,a3,b0,b1,b2,b3,b4,b5,trivial⟩
 have i0:(0:Int)<=(d:Int):=o_;have i1:(d:Int)<5:=o_;have gk:(x.kind==2)=false:=by simpa using hk
 clear h h0 h1 hnd gx hk hd hf1 kr hkl d0 d1 d2 d3 d4 hs1 hs2 hs3 hs4;unfold ptrV;go_enter Tryz.func306,Tryz.ntmps306;go_upto_region 1 with fail
 rw[<-hW0, <-hpw];clear hW0 hpw;obtain⟨b0,b1,b2,b3,b4,b5⟩:=H1.out.p2.cells6;go_wp2;clear b0 b1 b2 b3 b4 b5
 have S0:Hid (Cells W0 ((b4L p (.slice (some ⟨g1,0,none⟩) 5 c1) (.slice x2 ls.length c2) (.slice x3 ws.length c3) (.slice x4 ps.length c4)++b6L pw (iv x.kind) (iv x.src) (iv (d:Int)) (iv x.beacon) (iv x.level) v)++[(⟨g1,d * 5,none⟩,.int .i64 nd.born),(⟨g1,d * 5+1,none⟩,.slice xk kl ck),(⟨g1,d * 5+2,none⟩,.int .i64 nd.beacon),(⟨g1,d * 5+3,none⟩,.int .i64 nd.level),(⟨g1,d * 5+4,none⟩,.int .i64 nd.up)])):=hd_ (Cells_app.2 ⟨CC _ _ _ H1.out.p2,D0.out⟩)
 refine wp_region_plan 10 (.tk 0 9 (.alt 9 (.alt 10 .done .nomore) .nomore)) (fun w'=>Cells w' ((b4L p (.slice (some ⟨g1,0,none⟩) 5 c1) (.slice x2 ls.length c2) (.slice x3 ws.length c3) (.slice x4 ps.length c4)++b6L pw (iv x.kind) (iv x.src) (iv (d:Int)) (iv x.beacon) (iv x.level) v)++[(⟨g1,d * 5,none⟩,.int .i64 nd.born),(⟨g1,d * 5+1,none⟩,.slice xk kl ck),(⟨g1,d * 5+2,none⟩,.int .i64 nd.beacon),(⟨g1,d * 5+3,none⟩,.int .i64 nd.level),(⟨g1,d * 5+4,none⟩,.int .i64 nd.up)])) (by kernel_rfl) (by kernel_rfl) (fun _ _ _ _ _ h=>h) (S0.out.below (Below.drew (Below.refl _ _))) ?_
 have H2:=hd_ H1.out.drew;have S1:=hd_ (S0.out.below (Below.drew (Below.refl _ _)));obtain⟨W1,hW⟩:=nm_ W0.drew;rw[<-hW]at H2 S1 ⊢;clear hW S0 H1 D0
 repeat (first|refine tC_ ?_|refine tB_ ?_)
 refine plan_last (by rfl) (fun K hK=>?_);go_simp;refine hK _ _ (.inr (S1.out.below ((Below.refl _ _).alloc lr_ _))) ?_;clear hK K
 try refine tP_ ?_
 have h3:=H2.out.alloc #[iv nd.born,.slice xk kl ck,iv nd.beacon,iv nd.level,iv nd.up] 55;refine plan_last (by rfl) (fun K hK=>?_);go_simp;refine hK _ _ (.inl rfl) ?_;clear hK K
 try refine tP_ ?_
 refine plan_done ?_;obtain⟨px,hpx⟩:=nm_ W1.heap.size;obtain⟨W2,hW⟩:=nm_ (W1.alloc (.cells #[iv nd.born,.slice xk kl ck,iv nd.beacon,iv nd.level,iv nd.up] 55));rw[<-hW, <-hpx]at h3;rw[<-hW, <-hpx]
 have H3:=hd_ (show M B w0 W2 (nodesC (.slice (some ⟨g1,0,none⟩) 5 c1) ns::boxC p 289 #[.slice (some ⟨g1,0,none⟩) 5 c1,.slice x2 ls.length c2,.slice x3 ws.length c3,.slice x4 ps.length c4]::boxC pw 123 #[iv x.kind,iv x.src,iv (d:Int),iv x.beacon,iv x.level,v]::boxC px 55 #[iv nd.born,.slice xk kl ck,iv nd.beacon,iv nd.level,iv nd.up]::linksC (.slice x2 ls.length c2) ls::wordsC (.slice x3 ws.length c3) ws::pastC (.slice x4 ps.length c4) ps::l)from h3.p3.p3.p3)
 clear hW hpx h3 H2 S1;obtain⟨b0,b1,b2,b3,b4,b5⟩:=H3.out.p2.cells6;obtain⟨e0,e1,e2,e3,e4⟩:=H3.out.p3.cells5
 by_cases hz:(d:Int)=0
 case pos=>
  have E:=hd_ (HE.out.trans (if_pos (.inl hz)));have gz:((d:Int)==0)=true:=by simpa using hz
  clear hz;go_wp2
  first
   |go_end0
   |((try simp only[Exit.inBlock,Exit.then]);refine bodyPost_ret (v:=.tuple #[]) (by simp[results,Tryz.results306,go_sem]) rfl ?_)
  rw[E.out];exact⟨rfl,(H3.out.p2.drop.p2.drop.p1).unlive⟩
 have gz:((d:Int)==0)=false:=by simpa using hz
 by_cases h5:5<=x.level+1
 case pos=>
  by_cases hb:x.beacon<=nd.beacon
  case pos=>
   have E:=hd_ (HE.out.trans (if_pos (.inr ⟨h5,hb⟩)));clear hz;go_wp2
   first
    |go_end0
    |((try simp only[Exit.inBlock,Exit.then]);refine bodyPost_ret (v:=.tuple #[]) (by simp[results,Tryz.results306,go_sem]) rfl ?_)
   rw[E.out];exact⟨rfl,(H3.out.p2.drop.p2.drop.p1).unlive⟩
  have hb':nd.beacon<x.beacon:=o_;have E:=hd_ (HE.out.trans ((if_neg (fun q=>q.elim hz (fun q=>hb q.2))).trans ((if_pos (.inl hb')).trans (by rw[if_pos h5]))));clear hz HE;go_wp2;clear b0 b1 b2 b3 b4 b5 e0 e1 e2 e3 e4
  refine wp_region_plan 11 (.tk 0 11 (.alt 11 .done .nomore)) (fun w'=>Cells w' (b4L p (.slice (some ⟨g1,0,none⟩) 5 c1) (.slice x2 ls.length c2) (.slice x3 ws.length c3) (.slice x4 ps.length c4)++b6L pw (iv x.kind) (iv x.src) (iv (d:Int)) (iv x.beacon) (iv x.level) v)) (by kernel_rfl) (by kernel_rfl) (fun _ _ _ _ _ h=>h) (CC _ _ _ H3.out.drew.p2) ?_;have h0:=H3.out.drew
  obtain⟨V2,hW⟩:=nm_ W2.drew;rw[<-hW]at h0 ⊢;clear hW
  repeat (first|refine tC_ ?_|refine tB_ ?_)
  obtain⟨⟨u,cu⟩,fu,h1⟩:=(M.setNum h0 GX.out x.beacon).2.1;refine plan_last (by rfl) (fun K hK=>?_);go_simp;refine hK _ _ (.inl rfl) ?_;clear hK K
  try refine tP_ ?_
  refine plan_done ?_;have H4:=hd_ h1;obtain⟨V2',hW⟩:=nm_ (V2.setCell ⟨g1,d * 5+2,none⟩ (iv x.beacon));rw[<-hW]at H4 ⊢;clear hW h0 h1 cu fu H3;have G1:=hd_ (setget (ns:=ns) (d:=d) GX.out { nd with beacon:=x.beacon });go_wp2
  refine wp_region_plan 12 (.tk 0 12 (.alt 12 .done .nomore)) (fun w'=>Cells w' (b4L p (.slice (some ⟨g1,0,none⟩) 5 c1) (.slice x2 ls.length c2) (.slice x3 ws.length c3) (.slice x4 ps.length c4)++b6L pw (iv x.kind) (iv x.src) (iv (d:Int)) (iv x.beacon) (iv x.level) v)) (by kernel_rfl) (by kernel_rfl) (fun _ _ _ _ _ h=>h) (CC _ _ _ H4.out.drew.p2) ?_;have h0:=H4.out.drew
  obtain⟨V3,hW⟩:=nm_ V2'.drew;rw[<-hW]at h0 ⊢;clear hW;have wr1:IntKind.i64.wrap (x.level+1)=x.level+1:=IntWalk.i64_in _ o_
  repeat (first|refine tC_ ?_|refine tB_ ?_)
  obtain⟨⟨u,cu⟩,fu,h1⟩:=(M.setNum h0 G1.out (x.level+1)).2.2.1;refine plan_last (by rfl) (fun K hK=>?_);go_simp;refine hK _ _ (.inl rfl) ?_;clear hK K
  try refine tP_ ?_
  refine plan_done ?_;have H5:=hd_ h1;obtain⟨V3',hW⟩:=nm_ (V3.setCell ⟨g1,d * 5+3,none⟩ (iv (x.level+1)));rw[<-hW]at H5 ⊢;clear hW h0 h1 cu fu H4;rw[List.set_set]at H5;have G2:=hd_ (setget (ns:=ns) (d:=d) GX.out { nd with beacon:=x.beacon,level:=x.level+1 });go_wp2
  refine wp_region_plan 11 (.tk 0 11 (.alt 11 .done .nomore)) (fun w'=>Cells w' (b4L p (.slice (some ⟨g1,0,none⟩) 5 c1) (.slice x2 ls.length c2) (.slice x3 ws.length c3) (.slice x4 ps.length c4)++b6L pw (iv x.kind) (iv x.src) (iv (d:Int)) (iv x.beacon) (iv x.level) v)) (by kernel_rfl) (by kernel_rfl) (fun _ _ _ _ _ h=>h) (CC _ _ _ H5.out.drew.p2) ?_;have h0:=H5.out.drew
  obtain⟨V4,hW⟩:=nm_ V3'.drew;rw[<-hW]at h0 ⊢;clear hW
  repeat (first|refine tC_ ?_|refine tB_ ?_)
  obtain⟨⟨u,cu⟩,fu,h1⟩:=(M.setNum h0 G2.out x.src).2.2.2;refine plan_last (by rfl) (fun K hK=>?_);go_simp;refine hK _ _ (.inl rfl) ?_;clear hK K
  try refine tP_ ?_
  refine plan_done ?_;have H6:=hd_ h1;obtain⟨V4',hW⟩:=nm_ (V4.setCell ⟨g1,d * 5+4,none⟩ (iv x.src));rw[<-hW]at H6 ⊢;clear hW h0 h1 cu fu H5;rw[List.set_set]at H6;have G3:=hd_ (setget (ns:=ns) (d:=d) GX.out { nd with beacon:=x.beacon,level:=x.level+1,up:=x.src });obtain⟨c0,c1',c2',c3',c4',c5⟩:=H6.out.p2.cells6;go_wp2
  refine wp_region_plan 9 (.tk 0 9 (.alt 9 .done .nomore)) (fun w'=>Cells w' (b4L p (.slice (some ⟨g1,0,none⟩) 5 c1) (.slice x2 ls.length c2) (.slice x3 ws.length c3) (.slice x4 ps.length c4)++b6L pw (iv x.kind) (iv x.src) (iv (d:Int)) (iv x.beacon) (iv x.level) v)) (by kernel_rfl) (by kernel_rfl) (fun _ _ _ _ _ h=>h) (CC _ _ _ H6.out.drew.p2) ?_;have h0:=H6.out.drew;obtain⟨V5,hW⟩:=nm_ V4'.drew
  rw[<-hW]at h0 ⊢;clear hW;clear c0 c1' c2' c3' c4' c5
  repeat (first|refine tC_ ?_|refine tB_ ?_)
  obtain⟨⟨u,cu⟩,fu,h1⟩:=(M.setNum h0 G3.out (-1)).2.2.2;refine plan_last (by rfl) (fun K hK=>?_);go_simp;refine hK _ _ (.inl rfl) ?_;clear hK K
  try refine tP_ ?_
  refine plan_done ?_;have H7:=hd_ h1;obtain⟨V5',hW⟩:=nm_ (V5.setCell ⟨g1,d * 5+4,none⟩ (iv (-1)));rw[<-hW]at H7 ⊢;clear hW h0 h1 cu fu H6;rw[List.set_set]at H7;go_wp2
  first
   |go_end0
   |((try simp only[Exit.inBlock,Exit.then]);refine bodyPost_ret (v:=.tuple #[]) (by simp[results,Tryz.results306,go_sem]) rfl ?_)
  rw[E.out];exact⟨rfl,(H7.out.p2.drop.p2.drop.p1).unlive⟩
 by_cases h4:nd.beacon<x.beacon
 case pos=>
  have E:=hd_ (HE.out.trans ((if_neg (fun q=>q.elim hz (fun q=>h5 q.1))).trans ((if_pos (.inl h4)).trans (by rw[if_neg h5]))));clear hz HE;go_wp2;clear b0 b1 b2 b3 b4 b5 e0 e1 e2 e3 e4
  refine wp_region_plan 11 (.tk 0 11 (.alt 11 .done .nomore)) (fun w'=>Cells w' (b4L p (.slice (some ⟨g1,0,none⟩) 5 c1) (.slice x2 ls.length c2) (.slice x3 ws.length c3) (.slice x4 ps.length c4)++b6L pw (iv x.kind) (iv x.src) (iv (d:Int)) (iv x.beacon) (iv x.level) v)) (by kernel_rfl) (by kernel_rfl) (fun _ _ _ _ _ h=>h) (CC _ _ _ H3.out.drew.p2) ?_;have h0:=H3.out.drew
  obtain⟨V2,hW⟩:=nm_ W2.drew;rw[<-hW]at h0 ⊢;clear hW
  repeat (first|refine tC_ ?_|refine tB_ ?_)
  obtain⟨⟨u,cu⟩,fu,h1⟩:=(M.setNum h0 GX.out x.beacon).2.1;refine plan_last (by rfl) (fun K hK=>?_);go_simp;refine hK _ _ (.inl rfl) ?_;clear hK K
  try refine tP_ ?_
  refine plan_done ?_;have H4:=hd_ h1;obtain⟨V2',hW⟩:=nm_ (V2.setCell ⟨g1,d * 5+2,none⟩ (iv x.beacon));rw[<-hW]at H4 ⊢;clear hW h0 h1 cu fu H3;have G1:=hd_ (setget (ns:=ns) (d:=d) GX.out { nd with beacon:=x.beacon });go_wp2
  refine wp_region_plan 12 (.tk 0 12 (.alt 12 .done .nomore)) (fun w'=>Cells w' (b4L p (.slice (some ⟨g1,0,none⟩) 5 c1) (.slice x2 ls.length c2) (.slice x3 ws.length c3) (.slice x4 ps.length c4)++b6L pw (iv x.kind) (iv x.src) (iv (d:Int)) (iv x.beacon) (iv x.level) v)) (by kernel_rfl) (by kernel_rfl) (fun _ _ _ _ _ h=>h) (CC _ _ _ H4.out.drew.p2) ?_;have h0:=H4.out.drew
  obtain⟨V3,hW⟩:=nm_ V2'.drew;rw[<-hW]at h0 ⊢;clear hW;have wr1:IntKind.i64.wrap (x.level+1)=x.level+1:=IntWalk.i64_in _ o_
  repeat (first|refine tC_ ?_|refine tB_ ?_)
  obtain⟨⟨u,cu⟩,fu,h1⟩:=(M.setNum h0 G1.out (x.level+1)).2.2.1;refine plan_last (by rfl) (fun K hK=>?_);go_simp;refine hK _ _ (.inl rfl) ?_;clear hK K
  try refine tP_ ?_
  refine plan_done ?_;have H5:=hd_ h1;obtain⟨V3',hW⟩:=nm_ (V3.setCell ⟨g1,d * 5+3,none⟩ (iv (x.level+1)));rw[<-hW]at H5 ⊢;clear hW h0 h1 cu fu H4;rw[List.set_set]at H5;have G2:=hd_ (setget (ns:=ns) (d:=d) GX.out { nd with beacon:=x.beacon,level:=x.level+1 });go_wp2
  refine wp_region_plan 11 (.tk 0 11 (.alt 11 .done .nomore)) (fun w'=>Cells w' (b4L p (.slice (some ⟨g1,0,none⟩) 5 c1) (.slice x2 ls.length c2) (.slice x3 ws.length c3) (.slice x4 ps.length c4)++b6L pw (iv x.kind) (iv x.src) (iv (d:Int)) (iv x.beacon) (iv x.level) v)) (by kernel_rfl) (by kernel_rfl) (fun _ _ _ _ _ h=>h) (CC _ _ _ H5.out.drew.p2) ?_;have h0:=H5.out.drew
  obtain⟨V4,hW⟩:=nm_ V3'.drew;rw[<-hW]at h0 ⊢;clear hW
  repeat (first|refine tC_ ?_|refine tB_ ?_)
  obtain⟨⟨u,cu⟩,fu,h1⟩:=(M.setNum h0 G2.out x.src).2.2.2;refine plan_last (by rfl) (fun K hK=>?_);go_simp;refine hK _ _ (.inl rfl) ?_;clear hK K
  try refine tP_ ?_
  refine plan_done ?_;have H6:=hd_ h1;obtain⟨V4',hW⟩:=nm_ (V4.setCell ⟨g1,d * 5+4,none⟩ (iv x.src));rw[<-hW]at H6 ⊢;clear hW h0 h1 cu fu H5;rw[List.set_set]at H6;have G3:=hd_ (setget (ns:=ns) (d:=d) GX.out { nd with beacon:=x.beacon,level:=x.level+1,up:=x.src });obtain⟨c0,c1',c2',c3',c4',c5⟩:=H6.out.p2.cells6;go_wp2
  first
   |go_end0
   |((try simp only[Exit.inBlock,Exit.then]);refine bodyPost_ret (v:=.tuple #[]) (by simp[results,Tryz.results306,go_sem]) rfl ?_)
  rw[E.out];exact⟨rfl,(H6.out.p2.drop.p2.drop.p1).unlive⟩
 by_cases hq:x.beacon=nd.beacon
 case neg=>
  have E:=hd_ (HE.out.trans ((if_neg (fun q=>q.elim hz (fun q=>h5 q.1))).trans (if_neg (fun q=>q.elim h4 (fun q=>hq q.1)))));have gq:(x.beacon==nd.beacon)=false:=by simpa using hq
  clear hz HE hq;go_wp2
  first
   |go_end0
   |((try simp only[Exit.inBlock,Exit.then]);refine bodyPost_ret (v:=.tuple #[]) (by simp[results,Tryz.results306,go_sem]) rfl ?_)
  rw[E.out];exact⟨rfl,(H3.out.p2.drop.p2.drop.p1).unlive⟩
 have gq:(x.beacon==nd.beacon)=true:=by simpa using hq
 by_cases hl:x.level+1<nd.level
 case neg=>
  have E:=hd_ (HE.out.trans ((if_neg (fun q=>q.elim hz (fun q=>h5 q.1))).trans (if_neg (fun q=>q.elim h4 (fun q=>hl q.2)))));clear hz HE hq;go_wp2
  first
   |go_end0
   |((try simp only[Exit.inBlock,Exit.then]);refine bodyPost_ret (v:=.tuple #[]) (by simp[results,Tryz.results306,go_sem]) rfl ?_)
  rw[E.out];exact⟨rfl,(H3.out.p2.drop.p2.drop.p1).unlive⟩
 have E:=hd_ (HE.out.trans ((if_neg (fun q=>q.elim hz (fun q=>h5 q.1))).trans ((if_pos (.inr ⟨hq,hl⟩)).trans (by rw[if_neg h5]))));clear hz HE hq;go_wp2;clear b0 b1 b2 b3 b4 b5 e0 e1 e2 e3 e4
 refine wp_region_plan 11 (.tk 0 11 (.alt 11 .done .nomore)) (fun w'=>Cells w' (b4L p (.slice (some ⟨g1,0,none⟩) 5 c1) (.slice x2 ls.length c2) (.slice x3 ws.length c3) (.slice x4 ps.length c4)++b6L pw (iv x.kind) (iv x.src) (iv (d:Int)) (iv x.beacon) (iv x.level) v)) (by kernel_rfl) (by kernel_rfl) (fun _ _ _ _ _ h=>h) (CC _ _ _ H3.out.drew.p2) ?_;have h0:=H3.out.drew;obtain⟨V2,hW⟩:=nm_ W2.drew
 rw[<-hW]at h0 ⊢;clear hW
 repeat (first|refine tC_ ?_|refine tB_ ?_)
 obtain⟨⟨u,cu⟩,fu,h1⟩:=(M.setNum h0 GX.out x.beacon).2.1;refine plan_last (by rfl) (fun K hK=>?_);go_simp;refine hK _ _ (.inl rfl) ?_;clear hK K
 try refine tP_ ?_
 refine plan_done ?_;have H4:=hd_ h1;obtain⟨V2',hW⟩:=nm_ (V2.setCell ⟨g1,d * 5+2,none⟩ (iv x.beacon));rw[<-hW]at H4 ⊢;clear hW h0 h1 cu fu H3;have G1:=hd_ (setget (ns:=ns) (d:=d) GX.out { nd with beacon:=x.beacon });go_wp2
 refine wp_region_plan 12 (.tk 0 12 (.alt 12 .done .nomore)) (fun w'=>Cells w' (b4L p (.slice (some ⟨g1,0,none⟩) 5 c1) (.slice x2 ls.length c2) (.slice x3 ws.length c3) (.slice x4 ps.length c4)++b6L pw (iv x.kind) (iv x.src) (iv (d:Int)) (iv x.beacon) (iv x.level) v)) (by kernel_rfl) (by kernel_rfl) (fun _ _ _ _ _ h=>h) (CC _ _ _ H4.out.drew.p2) ?_;have h0:=H4.out.drew;obtain⟨V3,hW⟩:=nm_ V2'.drew
 rw[<-hW]at h0 ⊢;clear hW;have wr1:IntKind.i64.wrap (x.level+1)=x.level+1:=IntWalk.i64_in _ o_
 repeat (first|refine tC_ ?_|refine tB_ ?_)
 obtain⟨⟨u,cu⟩,fu,h1⟩:=(M.setNum h0 G1.out (x.level+1)).2.2.1;refine plan_last (by rfl) (fun K hK=>?_);go_simp;refine hK _ _ (.inl rfl) ?_;clear hK K
 try refine tP_ ?_
 refine plan_done ?_;have H5:=hd_ h1;obtain⟨V3',hW⟩:=nm_ (V3.setCell ⟨g1,d * 5+3,none⟩ (iv (x.level+1)));rw[<-hW]at H5 ⊢;clear hW h0 h1 cu fu H4;rw[List.set_set]at H5;have G2:=hd_ (setget (ns:=ns) (d:=d) GX.out { nd with beacon:=x.beacon,level:=x.level+1 });go_wp2
 refine wp_region_plan 11 (.tk 0 11 (.alt 11 .done .nomore)) (fun w'=>Cells w' (b4L p (.slice (some ⟨g1,0,none⟩) 5 c1) (.slice x2 ls.length c2) (.slice x3 ws.length c3) (.slice x4 ps.length c4)++b6L pw (iv x.kind) (iv x.src) (iv (d:Int)) (iv x.beacon) (iv x.level) v)) (by kernel_rfl) (by kernel_rfl) (fun _ _ _ _ _ h=>h) (CC _ _ _ H5.out.drew.p2) ?_;have h0:=H5.out.drew;obtain⟨V4,hW⟩:=nm_ V3'.drew
 rw[<-hW]at h0 ⊢;clear hW
 repeat (first|refine tC_ ?_|refine tB_ ?_)
 obtain⟨⟨u,cu⟩,fu,h1⟩:=(M.setNum h0 G2.out x.src).2.2.2;refine plan_last (by rfl) (fun K hK=>?_);go_simp;refine hK _ _ (.inl rfl) ?_;clear hK K
 try refine tP_ ?_
 refine plan_done ?_;have H6:=hd_ h1;obtain⟨V4',hW⟩:=nm_ (V4.setCell ⟨g1,d * 5+4,none⟩ (iv x.src));rw[<-hW]at H6 ⊢;clear hW h0 h1 cu fu H5;rw[List.set_set]at H6;have G3:=hd_ (setget (ns:=ns) (d:=d) GX.out { nd with beacon:=x.beacon,level:=x.level+1,up:=x.src });obtain⟨c0,c1',c2',c3',c4',c5⟩:=H6.out.p2.cells6;go_wp2
 first
  |go_end0
  |((try simp only[Exit.inBlock,Exit.then]);refine bodyPost_ret (v:=.tuple #[]) (by simp[results,Tryz.results306,go_sem]) rfl ?_)
 rw[E.out];exact⟨rfl,(H6.out.p2.drop.p2.drop.p1).unlive⟩
end
section
variable {B:Nat} {w0 w:World} {l:List Ch} {p:Nat}
theorem putAll_next {ks:List En} {j:Nat} {e:En} (h:ks[j]? =some e) (es:List En) (i:Int):putAll es i (ks.take (j+1))=if e.node=i then putAll es i (ks.take j)else putE (putAll es i (ks.take j)) e:=by
 rw[take_at h];unfold putAll;rw[List.foldl_append]
 rfl
theorem putAll_len (es:List En) (i:Int):∀(ks:List En),(putAll es i ks).length<=es.length+ks.length:=by
 intro ks
 induction ks generalizing es with
 |nil=>exact Nat.le_refl _
 |cons e ks ih=>
  have h1:putAll es i (e::ks)=putAll (if e.node=i then es else putE es e) i ks:=rfl;rw[h1,List.length_cons];have h3:=put_len es e
  by_cases hh:e.node=i
  ·rw[if_pos hh];have h2:=ih es;omega
  ·rw[if_neg hh];have h2:=ih (putE es e);omega
theorem _root_.Go.Proofs.YtcblbdpdbggkbaaGreat.M.pullC {k:Nat} {v:Value} {es:List En} {x:En} {c:Nat->List Value} (h:M B w0 w (looseE k v es c::l)) (hk:es[k]? =some x):∃V,M B w0 w (entC V x::looseE (k+1) v es c::l)/\c k=[.int .i64 x.node,.int .i64 x.born,.int .i64 x.num,.slice V.xr V.nr V.cr,.slice V.xf V.nf V.cf,.slice V.xt V.nt V.ct,.int .i64 (x.s).lo,.int .i64 (x.s).al,.slice V.xk V.nk V.ck,.int .i64 (x.s).ka]:=by
 have h1:=M.pull h hk;obtain⟨f,hf,_⟩:=h1.first;obtain⟨cs,ec,hs⟩:=entryR_iff.1 hf;obtain⟨V,_,_,_,_,rfl,_⟩:=hs;rw[ec]at h1;exact⟨V,h1,ec⟩
theorem _root_.Go.Proofs.YtcblbdpdbggkbaaGreat.M.cellsE {k j g n cap:Nat} {es:List En} {x:En} {V:SV} {c:Nat->List Value} (h:M B w0 w (looseE k (.slice (some ⟨g,0,none⟩) n cap) es c::l)) (hj:es[j]? =some x) (hc:c j=[.int .i64 x.node,.int .i64 x.born,.int .i64 x.num,.slice V.xr V.nr V.cr,.slice V.xf V.nf V.cf,.slice V.xt V.nt V.ct,.int .i64 (x.s).lo,.int .i64 (x.s).al,.slice V.xk V.nk V.ck,.int .i64 (x.s).ka]):Cells w (entL g j V x):=by
 obtain⟨g',cap',ev,_,_,_,hl⟩:=M.lrow h (List.getElem?_eq_some_iff.1 hj).1;obtain⟨e1,_,e2⟩:=Value.slice.inj ev;cases e1;rw[hc]at hl;exact⟨hl 0 _ rfl,hl 1 _ rfl,hl 2 _ rfl,hl 3 _ rfl,hl 4 _ rfl,hl 5 _ rfl,hl 6 _ rfl,hl 7 _ rfl,hl 8 _ rfl,hl 9 _ rfl,trivial⟩
theorem spHearTell_at {n:Nt} {x:Wd} {y:Option Addr} {k cy:Nat} {d:Nat} (h:M B w0 w (liveC p n::knownC (.slice y k cy) x.known::l)) (hs:Sized n) (hd:x.dst=(d:Int)) (d5:d<5) (hk:x.kind=2) (hl:(nodeAt n (d:Int)).known.length<=1000) (hm:x.known.length<=1000):
  Calls Tryz.prog 306 #[ptrV p,.agg #[.int .i64 2,.int .i64 x.src,.int .i64 (d:Int),.int .i64 x.beacon,.int .i64 x.level,.slice y k cy]] w fun r w'=>r=.returned (.tuple #[])/\M B w0 w' (liveC p (hearN n x)::l):=by
 obtain⟨kind,src,dst,beacon,level,ks⟩:=x;simp only at h hd hk hm ⊢;subst hk hd;obtain⟨y',cy',ev,_,cm⟩:=h.p1.form;cases ev;obtain⟨nd,hnd⟩:∃nd,nd=nodeAt n (d:Int):=⟨_,rfl⟩
 have gx:=node_get hs.nodes d5;rw[<-hnd]at gx hl;have HE:Hid (hearN n ⟨2,src,(d:Int),beacon,level,ks⟩={ n with nodes:=n.nodes.set d { nd with known:=putAll nd.known (d:Int) ks } }):=hd_ (by
    unfold hearN setNode
    simp only[if_true, <-hnd]
    rfl)
 obtain⟨c,hL⟩:=M.loose entryR_frame h.p1;have h0:=hL.p1.alloc #[.int .i64 2,.int .i64 src,.int .i64 (d:Int),.int .i64 beacon,.int .i64 level,.slice y ks.length cy] 123;obtain⟨pw,hpw⟩:∃q,q=w.heap.size:=⟨_,rfl⟩
 obtain⟨W0,hW0⟩:∃W,W=w.alloc (.cells #[.int .i64 2,.int .i64 src,.int .i64 (d:Int),.int .i64 beacon,.int .i64 level,.slice y ks.length cy] 123):=⟨_,rfl⟩
 rw[<-hW0, <-hpw]at h0;obtain⟨ns,ls,ws,ps⟩:=n;obtain⟨hs1,hs2,hs3,hs4⟩:=hs;simp only at hs1 hs2 hs3 hs4 gx;obtain⟨x1,c1,x2,c2,x3,c3,x4,c4,h1⟩:=h0.p1.live;simp only at h1;rw[hs1]at h1;obtain⟨f1,hf1⟩:=h1.p1.nodesRd;obtain⟨g1,xk,ck,fk,rfl,_,_,kr,_,_,d0,d1,d2,d3,d4⟩:=node_at hf1 gx;have e0:ns.set d { nd with known:=putAll nd.known (d:Int) (ks.take 0) }=ns:=by
  obtain⟨hd,e⟩:=List.getElem?_eq_some_iff.1 gx;exact (by rw[<-e];exact List.set_getElem_self hd)
 obtain⟨n',hn⟩:∃n',n'=ks.length:=⟨_,rfl⟩
 rw[<-hn]at h1 hm ⊢
 have H1:=hd_ (show M B w0 W0 (nodesC (.slice (some ⟨g1,0,none⟩) 5 c1) (ns.set d { nd with known:=putAll nd.known (d:Int) (ks.take 0) })::looseE 0 (.slice y n' cy) ks c::boxC p 289 #[.slice (some ⟨g1,0,none⟩) 5 c1,.slice x2 ls.length c2,.slice x3 ws.length c3,.slice x4 ps.length c4]::boxC pw 123 #[.int .i64 2,.int .i64 src,.int .i64 (d:Int),.int .i64 beacon,.int .i64 level,.slice y n' cy]::linksC (.slice x2 ls.length c2) ls::wordsC (.slice x3 ws.length c3) ws::pastC (.slice x4 ps.length c4) ps::l)from by rw[e0];exact h1.p5.p6.p1.p2.p2.p3)
 have GX:=hd_ gx;have HN:=hd_ hn;have HK:=hd_ hl;have i0:(0:Int)<=(d:Int):=by omega
 have i1:(d:Int)<5:=by omega
 clear h h0 h1 hnd gx hf1 kr d0 d1 d2 d3 d4 hs1 hs2 hs3 hs4 e0 hn hl hL;rw[<-HN.out]at hW0;unfold ptrV;go_enter Tryz.func306,Tryz.ntmps306;go_upto_region 1 with fail
 rw[<-hW0, <-hpw];clear hW0 hpw;obtain⟨b0,b1,b2,b3,b4,b5⟩:=H1.out.p3.cells6;go_wp2;clear b0 b1 b2 b3 b4 b5
 go_loopw [4] (fun z wr=>∃(j:Nat),j<=n'/\z=.int .i64 (j:Int)/\M B w0 wr (nodesC (.slice (some ⟨g1,0,none⟩) 5 c1) (ns.set d { nd with known:=putAll nd.known (d:Int) (ks.take j) })::looseE j (.slice y n' cy) ks c::boxC p 289 #[.slice (some ⟨g1,0,none⟩) 5 c1,.slice x2 ls.length c2,.slice x3 ws.length c3,.slice x4 ps.length c4]::boxC pw 123 #[.int .i64 2,.int .i64 src,.int .i64 (d:Int),.int .i64 beacon,.int .i64 level,.slice y n' cy]::linksC (.slice x2 ls.length c2) ls::wordsC (.slice x3 ws.length c3) ws::pastC (.slice x4 ps.length c4) ps::l)) (fun z _=>n' - (intOf z).toNat)
 case atStart=>exact⟨0,Nat.zero_le _,rfl,H1.out⟩
 case round=>
  clear H1;obtain⟨j,hj,rfl,hM⟩:=hrel;have H:=hd_ hM;clear hM;obtain⟨b0,b1,b2,b3,b4,b5⟩:=H.out.p3.cells6
  by_cases hlt:j<n'
  case neg=>
   obtain rfl:j=n':=by omega
   have TT:Hid (ks.take j=ks):=hd_ (by rw[HN.out];exact List.take_length);rw[TT.out]at H;go_wp2
   (try simp only[Exit.inBlock,Exit.then])
   refine bodyPost_ret (v:=.tuple #[]) (by simp[results,Tryz.results306,go_sem]) rfl ?_;rw[HE.out];exact⟨rfl,(H.out.p1.drop.p2.drop.p1).unlive⟩
  clear b0 b1 b2 b3 b4 b5;obtain⟨e,he⟩:∃e,ks[j]? =some e:=⟨_,List.getElem?_eq_getElem (by have:=HN.out;omega)⟩
  obtain⟨gy,cap,ev,z0,z1,z2⟩:=M.peekE H.out.p1 lr_ he;obtain⟨e1,e3,e2⟩:=Value.slice.inj ev;cases e1;cases e2;clear ev z1 z2 e3;have PN:=hd_ (putAll_next he nd.known (d:Int));have PL:Hid ((putAll nd.known (d:Int) (ks.take j)).length<=1048576):=hd_ (by have h1:=putAll_len nd.known (d:Int) (ks.take j);have h2:=List.length_take_le j ks;have h3:=HK.out;omega);have HEE:=hd_ he
  have j0:(0:Int)<=(j:Int):=by omega
  have j1:(j:Int)<(n':Int):=by omega
  obtain⟨b0,b1,b2,b3,b4,b5⟩:=H.out.p3.cells6;have S0:Hid (Cells wr (b6L pw (.int .i64 2) (.int .i64 src) (.int .i64 (d:Int)) (.int .i64 beacon) (.int .i64 level) (.slice (some ⟨gy,0,none⟩) n' cy)++[(⟨gy,j * 10,none⟩,.int .i64 e.node)])):=hd_ ⟨b0,b1,b2,b3,b4,b5,z0,trivial⟩;go_wp2;clear b0 b1 b2 b3 b4 b5 z0 he
  refine wp_region_plan 99 (.tk 0 9 .done) (fun w'=>Cells w' (b6L pw (.int .i64 2) (.int .i64 src) (.int .i64 (d:Int)) (.int .i64 beacon) (.int .i64 level) (.slice (some ⟨gy,0,none⟩) n' cy)++[(⟨gy,j * 10,none⟩,.int .i64 e.node)])) (by kernel_rfl) (by kernel_rfl) (fun _ _ _ _ _ h=>h) (S0.out.below (Below.drew (Below.refl _ _))) ?_
  repeat ((first|(refine plan_take (by rfl) (by rfl) ?_;apply Exists.intro;refine⟨fun w' hw'=>?_,?_⟩;(· ((try simp only[Cells,Cells_app,b4L,b5L,b6L,b7L,b10L,N.entL,and_true]at hw');go_simp;(try with_reducible rfl))))|(refine plan_skip (by rfl) (by rfl) ?_));simp only[Act.put,List.getElem_toArray,List.getElem_cons_succ,pg3,pg4,pg5,pg6])
  refine plan_done ?_;have h0:=H.out.drew;obtain⟨W,hW⟩:∃W,W=wr.drew:=⟨_,rfl⟩
  rw[<-hW]at h0 ⊢;clear hW H S0;obtain⟨U,hp,hcj⟩:=M.pullC h0.p1 HEE.out;have CJ:=hd_ hcj;clear hcj
  by_cases hne:e.node=(d:Int)
  case pos=>
   have gne:(e.node != (d:Int))=false:=by simpa using hne
   have PE:=hd_ (PN.out.trans (if_pos hne));have H2:=hd_ (hp.drop.p1);clear hp h0 hne CJ;go_wp2;go_roundw
   case rel=>exact⟨j+1,by omega,by go_num,by rw[PE.out];exact H2.out⟩
   case measure=>simp[intOf];omega
  have gne:(e.node != (d:Int))=true:=by simpa using hne
  have PE:=hd_ (PN.out.trans (if_neg hne));clear hne PN;obtain⟨yk,cyk,h6⟩:=M.openKnown hp.p2 (setget GX.out _);simp only at h6;have gk:=h6.p1.hcell (i:=d) (j:=1) (by rw[List.length_set];exact (List.getElem?_eq_some_iff.1 GX.out).1) rfl;obtain⟨c0,c1',c2',c3'⟩:=h6.p4.cells4;obtain⟨b0,b1,b2,b3,b4,b5⟩:=h6.p5.cells6
  have S1:Hid (Cells W (b4L p (.slice (some ⟨g1,0,none⟩) 5 c1) (.slice x2 ls.length c2) (.slice x3 ws.length c3) (.slice x4 ps.length c4)++(b6L pw (.int .i64 2) (.int .i64 src) (.int .i64 (d:Int)) (.int .i64 beacon) (.int .i64 level) (.slice (some ⟨gy,0,none⟩) n' cy)++([(⟨g1,d * 5+1,none⟩,.slice yk (putAll nd.known (d:Int) (ks.take j)).length cyk)]++entL gy j U e)))):=hd_ ⟨c0,c1',c2',c3',b0,b1,b2,b3,b4,b5,gk,M.cellsE h6.p3 HEE.out CJ.out⟩
  have h7:=(h6.p2.p1).drew;have S2:=hd_ (S1.out.below (Below.drew (Below.refl _ _)));clear b0 b1 b2 b3 b4 b5 c0 c1' c2' c3' gk hp h0;obtain⟨W5,hW5⟩:∃W5,W5=W.drew:=⟨_,rfl⟩
  rw[<-hW5]at h7 S2;have EW:=hd_ hW5;have KP:=hd_ (spPut_at (V:=U) (e:=e) h7 PL.out);clear h7 h6 hW5;go_wp2
  refine wp_region_plan 25 (.tk 0 22 (.alt 22 (.tk 23 2 (.alt 25 .done .nomore)) .nomore)) (fun w'=>Cells w' (b4L p (.slice (some ⟨g1,0,none⟩) 5 c1) (.slice x2 ls.length c2) (.slice x3 ws.length c3) (.slice x4 ps.length c4)++(b6L pw (.int .i64 2) (.int .i64 src) (.int .i64 (d:Int)) (.int .i64 beacon) (.int .i64 level) (.slice (some ⟨gy,0,none⟩) n' cy)++([(⟨g1,d * 5+1,none⟩,.slice yk (putAll nd.known (d:Int) (ks.take j)).length cyk)]++entL gy j U e)))) (by kernel_rfl) (by kernel_rfl) (fun _ _ _ _ _ h=>h) (S1.out.below (Below.drew (Below.refl _ _))) ?_
  rw[<-EW.out]
  repeat ((first|(refine plan_take (by rfl) (by rfl) ?_;apply Exists.intro;refine⟨fun w' hw'=>?_,?_⟩;(· ((try simp only[Cells,Cells_app,b4L,b5L,b6L,b7L,b10L,N.entL,and_true]at hw');go_simp;(try with_reducible rfl))))|(refine plan_skip (by rfl) (by rfl) ?_));simp only[Act.put,List.getElem_toArray,List.getElem_cons_succ,pg3,pg4,pg5,pg6])
  refine plan_last (by rfl) (fun K' hK=>?_);go_simp;refine KP.out.mono ?_;rintro r w6 ⟨y6,c6,rfl,h8⟩;obtain⟨gk,gf,h9⟩:=M.shutKnown h8 (setget GX.out _)
  have S8:Hid (Cells w6 (b4L p (.slice (some ⟨g1,0,none⟩) 5 c1) (.slice x2 ls.length c2) (.slice x3 ws.length c3) (.slice x4 ps.length c4)++(b6L pw (.int .i64 2) (.int .i64 src) (.int .i64 (d:Int)) (.int .i64 beacon) (.int .i64 level) (.slice (some ⟨gy,0,none⟩) n' cy)++([(⟨g1,d * 5+1,none⟩,.slice yk (putAll nd.known (d:Int) (ks.take j)).length cyk)]++entL gy j U e)))):=hd_ (by
      obtain⟨c0,c1',c2',c3'⟩:=h8.p3.cells4
      obtain⟨b0,b1,b2,b3,b4,b5⟩:=h8.p4.cells6
      exact⟨c0,c1',c2',c3',b0,b1,b2,b3,b4,b5,gk,M.cellsE h8.p2 HEE.out CJ.out⟩)
  refine hK _ _ (.inr S8.out) ?_;clear hK K'
  try simp only[Act.put,List.getElem_toArray,List.getElem_cons_succ,pg3,pg4,pg5,pg6]
  repeat ((first|(refine plan_take (by rfl) (by rfl) ?_;apply Exists.intro;refine⟨fun w' hw'=>?_,?_⟩;(· ((try simp only[Cells,Cells_app,b4L,b5L,b6L,b7L,b10L,N.entL,and_true]at hw');go_simp;(try with_reducible rfl))))|(refine plan_skip (by rfl) (by rfl) ?_));simp only[Act.put,List.getElem_toArray,List.getElem_cons_succ,pg3,pg4,pg5,pg6])
  have H9:=hd_ h9;clear h9 h8 S8 S1 S2 KP EW;refine plan_last (by rfl) (fun K hK=>?_);go_simp;refine hK _ _ (.inl rfl) ?_;clear hK K
  try simp only[Act.put,List.getElem_toArray,List.getElem_cons_succ,pg3,pg4,pg5,pg6]
  refine plan_done ?_;obtain⟨w7,hw7⟩:∃w7,w7=w6.setCell ⟨g1,d * 5+1,none⟩ (.slice y6 (putE (putAll nd.known (d:Int) (ks.take j)) e).length c6):=⟨_,rfl⟩
  rw[<-hw7]at H9 ⊢;rw[List.set_set]at H9;clear hw7 gk gf;go_wp2;go_roundw
  case rel=>exact⟨j+1,by omega,by go_num,by rw[PE.out];exact H9.out⟩
  case measure=>simp[intOf];omega
end
def RawW:Type:={ x:List Value // x.length=6/\∀u ∈ x,u.oneCell'=true }
def encW (a:RawW):List Value:=a.1
theorem encW_len (a:RawW):(encW a).length=6:=a.2.1
theorem encW_one (a:RawW):∀u ∈ encW a,u.oneCell'=true:=a.2.2
theorem flat_take' {α:Type} {enc:α->List Value} {size:Nat} (hl:∀a,(enc a).length=size):∀(xs:List α) (k:Nat),(xs.take k).flatMap enc=(xs.flatMap enc).take (k * size)
 | [],k=>by simp
 |x::xs,0=>by simp
 |x::xs,k+1=>by
  rw[List.take_succ_cons,List.flatMap_cons,List.flatMap_cons,flat_take' hl xs k,Nat.succ_mul,Nat.add_comm (k * size), <-hl x,List.take_length_add_append]
theorem flat_drop' {α:Type} {enc:α->List Value} {size:Nat} (hl:∀a,(enc a).length=size):∀(xs:List α) (k:Nat),(xs.drop k).flatMap enc=(xs.flatMap enc).drop (k * size)
 | [],k=>by simp
 |x::xs,0=>by simp
 |x::xs,k+1=>by
  rw[List.drop_succ_cons,List.flatMap_cons,flat_drop' hl xs k,Nat.succ_mul,Nat.add_comm (k * size), <-hl x,List.drop_length_add_append]
section
variable {B:Nat} {w0 w:World} {l:List Ch} {ws:List Wd}
theorem ownsRow_up {w:World} {B B' size n:Nat} {e:TypeId} {v:Value} {xs:List Value} (h:w.ownsRow B e size v n xs) (hb:∀g,v.ownBlock=some g->B'<=g):w.ownsRow B' e size v n xs:=by
 refine⟨h.1,?_⟩;rcases h.2 with hn|⟨g,cap,cur,rfl,_,r⟩
 ·exact .inl hn
 ·exact .inr ⟨g,cap,cur,rfl,hb g rfl,r⟩
theorem _root_.Go.Proofs.YtcblbdpdbggkbaaGreat.M.cutW {x:Option Addr} {n cap k:Nat} (h:M B w0 w (wordsC (.slice x n cap) ws::l)) (hk:k<ws.length):∃(rows:List RawW) (g:Nat),x=some ⟨g,0,none⟩/\n=ws.length/\rows.length=ws.length/\n<=cap/\cap<=maxLen/\
  (∀W,Below w.heap.size w W->∀c,RdL encW W (.slice (some ⟨g,0,none⟩) k c) (rows.take k))/\(∀W,Below w.heap.size w W->∀c ad,(ws.length - (k+1)=0\/ad=⟨g,(k+1) * 6,none⟩)->RdL encW W (.slice (some ad) (ws.length - (k+1)) c) (rows.drop (k+1)))/\
  ∀(w':World) (v':Value) (l':List Ch),M w.heap.size w w' (slcC (flatR_frame encW) 123 6 v' (rows.take k++rows.drop (k+1))::l')->M B w0 w' (wordsC v' (ws.eraseIdx k)::l):=by
 obtain⟨f,hf,nd,lo⟩:=h.first;obtain⟨v0,c,fe,ev,E,ef⟩:=slcR_els hf;cases ev;have one:∀i,i<ws.length->(c i).length=6/\∀u ∈ c i,u.oneCell'=true:=fun i hi=>by
  have:=E.one i _ (List.getElem?_eq_getElem hi);exact⟨(wordR_one (T:=TY)).len this,(wordR_one (T:=TY)).one this⟩
 obtain⟨rows,hrl,hrf⟩:∃rows:List RawW,rows.length=ws.length/\rows.flatMap encW=((List.range ws.length).map c).flatten:=by
  have key:∀m,m<=ws.length->∃rows:List RawW,rows.length=m/\rows.flatMap encW=((List.range m).map c).flatten:=fun m=>by
   induction m with
   |zero=>exact fun _=>⟨[],rfl,rfl⟩
   |succ m ih=>
    intro hm;obtain⟨rows,h1,h2⟩:=ih o_;refine⟨rows++[⟨c m,one m o_⟩],by rw[List.length_append,h1];rfl,?_⟩;rw[List.flatMap_append,h2,List.range_succ,List.map_append,List.flatten_append];have e:List.flatMap encW [(⟨c m,one m o_⟩:RawW)]=c m:=List.append_nil _;rw[e];simp
  exact key _ lr_
 obtain⟨cells,g,cap',ev,cl,cc,cn,cm,gl,cut⟩:=Sole.cut (wordR_frame (T:=TY)) (v:=.slice x n cap) (xs:=ws) ⟨hf,nd,lo⟩ hk;cases ev;have ec:cells=rows.flatMap encW:=by
  rw[hrf];apply List.ext_getElem?;intro j
  by_cases hj:j<ws.length * 6
  ·have q:=World.ownsRow.cellAt E.own j hj
   have z:=cc j _ (List.getElem?_eq_getElem (by rw[cl];exact hj));rw[q]at z;rw[z,List.getElem?_eq_getElem]
  ·rw[List.getElem?_eq_none (by rw[cl];omega),List.getElem?_eq_none (by rw[flat_len E.len];omega)]
 refine⟨rows,g,rfl,rfl,hrl,cn,cm,fun W hW c'=>.inr ⟨_,c',by rw[List.length_take,hrl,Nat.min_eq_left o_],fun j z hz=>?_⟩,fun W hW c' ad had=>.inr ⟨ad,c',by rw[List.length_drop,hrl],fun j z hz=>?_⟩,fun w' v' l' kN=>?_⟩
 ·rw[flat_take' encW_len, <-ec,List.getElem?_take]at hz
  split at hz
  ·rw[Addr.add_mid,Nat.zero_add]
   exact cell_later hW (cc j z hz)
  ·cases hz
 ·rw[flat_drop' encW_len, <-ec,List.getElem?_drop]at hz
  rcases had with h0|rfl
  ·exfalso
   have:=(List.getElem?_eq_some_iff.1 hz).1;rw[cl]at this;have:ws.length<=k+1:=o_;have:ws.length * 6<=(k+1) * 6:=Nat.mul_le_mul_right _ this;omega
  ·rw[Addr.add_mid]
   exact cell_later hW (cc _ z hz)
 ·obtain⟨f2,hf2,_,lo2⟩:=kN.first
  obtain⟨_,ev,ho,rfl⟩:=slc_flat_to hf2;cases ev;have kk:∀F:List Nat,(∀b ∈ F,b<w.heap.size)->KeptB (fun b=>b ∈ F) w w':=fun F _=>⟨kN.below.os,kN.below.tape,kN.below.output,kN.below.size,fun b hb _=>kN.below.block b hb⟩
  refine h.turn fun F hF nF lF=>⟨kk F fun b hb=>(wordsC (.slice (some ⟨g,0,none⟩) ws.length cap) ws).lt hF b hb,?_⟩
  obtain⟨cells2,g2,cap2,ev2,cl2,cc2,_,_,_,cut2⟩:=Sole.cut (wordR_frame (T:=TY)) (v:=.slice (some ⟨g,0,none⟩) ws.length cap) (xs:=ws) ⟨hF,nF,lF⟩ hk;cases ev2;have e2:cells2=cells:=by
   apply List.ext_getElem?;intro j
   by_cases hj:j<ws.length * 6
   ·have z2:=cc2 j _ (List.getElem?_eq_getElem (by rw[cl2];exact hj))
    have z1:=cc j _ (List.getElem?_eq_getElem (by rw[cl];exact hj));rw[z1]at z2;rw[List.getElem?_eq_getElem (by rw[cl2];exact hj),List.getElem?_eq_getElem (by rw[cl];exact hj)];exact z2.symm
   ·rw[List.getElem?_eq_none (by rw[cl2];omega),List.getElem?_eq_none (by rw[cl];omega)]
  have hv:∀b,v'.ownBlock=some b->w.heap.size<=b:=fun b q=>lo2 b (by simp[q])
  have ho':=ownsRow_up ho fun b q=>Nat.le_trans h.low (hv b q)
  rw[List.flatMap_append,flat_take' encW_len,flat_drop' encW_len, <-ec, <-e2,show (rows.take k++rows.drop (k+1)).length=ws.length - 1 by rw[List.length_append,List.length_take,List.length_drop,hrl];omega]at ho';obtain⟨f',s,m⟩:=cut2 w' v' ho' (fun b hb=>kN.below.block b ((wordsC (.slice (some ⟨g,0,none⟩) ws.length cap) ws).lt hF b hb)) kN.below.size (fun b q hb=>by
      have:=(wordsC (.slice (some ⟨g,0,none⟩) ws.length cap) ws).lt hF b hb
      have:=hv b q
      omega)
  exact⟨f',s.1,s.2.1,fun b hb=>(m b hb).imp id fun q=>hv b q⟩
end
section
variable {B:Nat} {w0 w:World} {l:List Ch} {p:Nat}
theorem hear_keeps4 (n:Nt) (x:Wd):(hearN n x).words=n.words/\(hearN n x).links=n.links/\(hearN n x).past=n.past/\(hearN n x).nodes.length=n.nodes.length:=by
 unfold hearN setNode;simp only
 split
 ·exact⟨rfl,rfl,rfl,List.length_set⟩
 ·split
  ·exact⟨rfl,rfl,rfl,rfl⟩
  ·split
   ·exact⟨rfl,rfl,rfl,List.length_set⟩
   ·exact⟨rfl,rfl,rfl,rfl⟩
theorem known_okS {n:Nt} {es:List En} (h:KnownOk n es):∀e ∈ es,okS e.s=true:=fun e he=>by
 have:=h.all e he;rw[this.s];exact this.ok
theorem spHear_at {n:Nt} {x:Wd} {y:Option Addr} {k cy:Nat} (h:M B w0 w (liveC p n::knownC (.slice y k cy) x.known::l)) (ok:NetOk n) (hx:WordOk n x):
  Calls Tryz.prog 306 #[ptrV p,.agg #[iv x.kind,iv x.src,iv x.dst,iv x.beacon,iv x.level,.slice y k cy]] w fun r w'=>r=.returned (.tuple #[])/\M B w0 w' (liveC p (hearN n x)::l):=by
 have hd:=hx.dst;unfold isNode at hd;obtain⟨d,hd'⟩:∃d:Nat,x.dst=d:=⟨x.dst.toNat,o_⟩
 rw[hd'];rcases hx.kind with ⟨k1,_,lv,_⟩|⟨k2,_,_,kn⟩
 ·exact spHearHello_at h.p1.drop (ok_sized ok) hd' o_ o_ o_
 ·rw[k2]
  refine spHearTell_at h (ok_sized ok) hd' o_ k2 ?_ ?_
  ·have:=known_len (ok.known (d:Int) (by unfold isNode;omega));omega
  ·have:=known_len kn;omega
theorem spTake_at {n:Nt} (h:M B w0 w (liveC p n::l)) (ok:NetOk n) (a:Int) (heard kept:Bool):
  Calls Tryz.prog 292 #[ptrV p,iv a,.bool heard,.bool kept] w fun r w'=>r=.returned (.bool (takeN n a heard kept).isSome)/\M B w0 w' (liveC p ((takeN n a heard kept).getD n)::l):=by
 have HL:=hd_ h;have hs:=ok_sized ok;obtain⟨nw,hnw⟩:=nm_ n.words.length;obtain⟨b,hb⟩:=nm_ (in6 a 0 ((nw:Int) - 1));have KI:=hd_ (fun W=>in6_is hb W);obtain⟨x1,c1,x2,c2,x3,c3,x4,c4,h1⟩:=h.live;rw[<-hnw]at h1;obtain⟨a0,a1,a2,a3⟩:=h1.cells4;have nw0:nw<=24:=by have:=hs.words;omega
 have wr0:IntKind.i64.wrap ((nw:Int) - 1)=(nw:Int) - 1:=IntWalk.i64_in _ o_;unfold ptrV;go_enter Tryz.func292,Tryz.ntmps292;cases b
 case false=>
  have NO:=hd_ (show takeN n a heard kept=none by
      unfold takeN
      rw[if_neg]
      intro q
      unfold isWord at q
      rw[<-hnw]at q
      have:=in6_iff.2 (show 0<=a/\a<=(nw:Int) - 1 by omega)
      rw[<-hb]at this;cases this)
  clear hb hnw h1 h hs
  go_wp2_with (refine (KI.out _).mono ?_;rintro r w5 ⟨rfl,e5⟩;rw[e5];clear e5 w5)
  go_ret;rw[NO.out];exact⟨rfl,HL.out⟩
 obtain⟨k,hk⟩:∃k:Nat,a=k:=⟨a.toNat,by have:=in6_iff.1 hb.symm;omega⟩
 subst hk;have klt:k<nw:=by have:=in6_iff.1 hb.symm;omega
 obtain⟨x,hx⟩:∃x,n.words[k]? =some x:=⟨_,List.getElem?_eq_getElem o_⟩
 have hxo:WordOk n x:=ok.word x (List.mem_of_getElem? hx);have xk:x.known.length<=5/\∀e ∈ x.known,okS e.s=true:=by
  rcases hxo.kind with ⟨_,_,_,kn⟩|⟨_,_,_,kn⟩
  ·rw[kn];exact⟨Nat.zero_le _,fun e he=>by cases he⟩
  ·exact⟨known_len kn,known_okS kn⟩
 obtain⟨m,hm⟩:∃m,m=if heard=true then hearN n x else n:=⟨_,rfl⟩
 have YES:=hd_ (show takeN n (k:Int) heard kept=some (if kept=true then m else { m with words:=m.words.eraseIdx k }) by
    unfold takeN
    rw[if_pos (show isWord n (k:Int) by unfold isWord;rw[<-hnw];omega)]
    have e:wordAt n (k:Int)=x:=by unfold wordAt;rw[List.getD_eq_getElem?_getD,Int.toNat_natCast,hx];rfl
    rw[hm,e]
    rfl)
 obtain⟨f3,hf3⟩:=h1.p3.wordsRd;obtain⟨g,xw,cw,fw,rfl,_,_,kr,_,_,d0,d1,d2,d3,d4,d5⟩:=wordR_at hf3 hx;obtain⟨kl,hkl⟩:=nm_ x.known.length;have KL:=hd_ hkl;rw[<-hkl]at d5 kr;have k0:(0:Int)<=(k:Int):=o_;have k1:(k:Int)<(nw:Int):=o_;have h2:=h.alloc #[iv x.kind,iv x.src,iv x.dst,iv x.beacon,iv x.level,.slice xw kl cw] 123;obtain⟨px,hpx⟩:=nm_ w.heap.size
 obtain⟨W0,hW0⟩:=nm_ (w.alloc (.cells #[iv x.kind,iv x.src,iv x.dst,iv x.beacon,iv x.level,.slice xw kl cw] 123));have hb0:Below w.heap.size w W0:=by rw[hW0];exact (Below.refl _ _).alloc lr_ _
 rw[<-hW0, <-hpx]at h2;have KR:=hd_ (knownR_frame.below kr hb0 lr_);have H2:=hd_ h2.p1;have OK:=hd_ ok;have XO:=hd_ hxo;have XK:=hd_ xk;have HM:=hd_ hm;have NW:=hd_ hnw;have SZ:=hd_ hs;clear h h1 h2 hb0 hb kr hkl hf3 ok hxo xk hm hnw hs hx HL;go_upto_region 4 with (refine (KI.out _).mono ?_;rintro r w5 ⟨rfl,e5⟩;rw[e5];clear e5 w5)
 rw[<-hW0, <-hpx];clear hW0 hpx a0 a1 a2 a3 d0 d1 d2 d3 d4 d5;cases heard
 case true=>
  have HM1:Hid (m=hearN n x):=hd_ (HM.out.trans (if_pos rfl));have MW:Hid (m.words.length=nw):=hd_ (by rw[HM1.out,(hear_keeps4 n x).1,NW.out]);have KE:=hd_ (spEntries_at W0 (x:=xw) (c:=cw) (es:=x.known) (by rw[<-KL.out];exact KR.out) (by have:=XK.out.1;omega) XK.out.2);rw[<-KL.out]at KE;obtain⟨d0,d1,d2,d3,d4,d5⟩:=H2.out.p1.cells6
  go_wp2_with fail
  refine KE.out.mono ?_;rintro r w1 ⟨y,cy,rfl,hm1⟩;have h3:=(H2.out.plus hm1).p2;clear d0 d1 d2 d3 d4 d5 hm1 KE KR H2;obtain⟨d0,d1,d2,d3,d4,d5⟩:=h3.cells6;have df:=h3.free;have h4:=h3.set (i:=5) (.slice y kl cy);simp only[List.setIfInBounds_toArray,List.set_cons_zero,List.set_cons_succ]at h4;obtain⟨W1,hW1⟩:=nm_ (w1.setCell ⟨px,5,none⟩ (.slice y kl cy));rw[<-hW1]at h4;have H4:=hd_ h4;clear h3 h4
  go_upto_region 6 with fail
  rw[<-hW1];clear hW1 d0 d1 d2 d3 d4 d5 df;obtain⟨d0,d1,d2,d3,d4,d5⟩:=H4.out.cells6;have KH:=hd_ (spHear_at (x:=x) H4.out.p1.p2 OK.out XO.out)
  go_wp2_with fail
  refine KH.out.mono ?_;rintro r w2 ⟨rfl,h5⟩;rw[<-HM1.out]at h5;have H5:=hd_ h5;clear h5 KH H4 d0 d1 d2 d3 d4 d5 KL XK OK XO HM HM1;cases kept
  case true=>
   have Y1:=hd_ (YES.out.trans (by rw[if_pos rfl]));go_wp2;go_ret;rw[Y1.out];exact⟨rfl,H5.out.p1.drop⟩
  have Y1:=hd_ (YES.out.trans (by rw[if_neg (by decide)]));obtain⟨x1,c1,x2,c2,x3,c3,x4,c4,h1⟩:=H5.out.live;rw[MW.out]at h1;have h6:=h1.drew;obtain⟨rows,g,e1,e9,rl,nc,cm,rd1,rd2,fin⟩:=M.cutW h6.p3 (k:=k) (by rw[MW.out];omega);cases e1;clear e9;rw[MW.out]at rl rd2;unfold maxLen at cm
  have S0:Hid (Cells w2 (b4L p (.slice x1 m.nodes.length c1) (.slice x2 m.links.length c2) (.slice (some ⟨g,0,none⟩) nw c3) (.slice x4 m.past.length c4))):=hd_ (by obtain⟨a0,a1,a2,a3⟩:=h1.cells4;exact⟨a0,a1,a2,a3,trivial⟩);have S1:=hd_ (S0.out.below (Below.drew (Below.refl _ _)));have RL:=hd_ rl;have R1:=hd_ rd1;have R2:=hd_ rd2;have FI:=hd_ fin;have H6:=hd_ h6;obtain⟨V,hV⟩:=nm_ w2.drew
  rw[<-hV]at S1 R1 R2 FI H6;have EV:=hd_ hV;clear h1 h6 rl rd1 rd2 fin hV H5;have wr1:IntKind.i64.wrap ((k:Int)+1)=(k:Int)+1:=IntWalk.i64_in _ o_;have k2:(k:Int)+1<=(nw:Int):=o_;have k3:(k:Int)<=(c3:Int):=o_;have k4:(0:Int)<=(k:Int)+1:=o_;have k5:(nw:Int)<=(c3:Int):=o_;go_wp2
  by_cases hc:c3=k+1
  case pos=>
   subst hc;have k3':(k:Int)<=(k:Int)+1:=o_;have k5':(nw:Int)<=(k:Int)+1:=o_;clear k3 k5
   refine wp_region_plan 22 (.take 0 (.tk 2 7 (.tk 10 8 (.alt 1 (.alt 9 (.alt 18 (.tk 19 3 (.alt 22 .done .nomore)) .nomore) .nomore) .nomore)))) (fun w'=>Cells w' (b4L p (.slice x1 m.nodes.length c1) (.slice x2 m.links.length c2) (.slice (some ⟨g,0,none⟩) nw (k+1)) (.slice x4 m.past.length c4))) (by kernel_rfl) (by kernel_rfl) (fun _ _ _ _ _ h=>h) (S0.out.below (Below.drew (Below.refl _ _))) ?_
   rw[<-EV.out]
   repeat (first|refine tC_ ?_|refine tB_ ?_)
   have n1:=((M.start V).alloc #[] 123).empty (flatR_frame encW) 6;refine plan_last (by rfl) (fun K hK=>?_);go_simp;refine hK _ _ (.inr (S1.out.below n1.below)) ?_;clear hK K
   try refine tP_ ?_
   refine plan_last (by rfl) (fun K hK=>step_add wordS encW_len encW_one n1 (R1.out _ n1.below _) (by rfl) (by rfl) (by rfl) (by rfl) (by rw[List.length_nil,List.length_take,RL.out];unfold maxLen;omega) (by rw[List.length_nil,List.length_take,RL.out];omega) (N:=k) (by rw[List.length_nil,List.length_take,RL.out];omega) (fun y1 cap1 v1 n2=>?_));rw[List.nil_append]at n2
   refine hK _ _ (.inr (S1.out.below n2.below)) ?_;clear hK K
   try refine tP_ ?_
   refine plan_last (by rfl) (fun K hK=>step_add wordS encW_len encW_one n2 (by have z:=R2.out _ n2.below 0 ⟨g,0,none⟩ (.inl o_);rwa[show nw - (k+1)=0 by omega]at z) (by rfl) (by rfl) (by rfl) (by rfl) (by rw[List.length_take,List.length_drop,RL.out];unfold maxLen;omega) (by rw[List.length_take,List.length_drop,RL.out];omega) (N:=nw - 1) (by rw[List.length_take,List.length_drop,RL.out];omega) (fun y2 cap2 v2 n3=>?_))
   refine hK _ _ (.inr (S1.out.below n3.below)) ?_;clear hK K
   try refine tP_ ?_
   repeat (first|refine tC_ ?_|refine tB_ ?_)
   have h7:=(FI.out _ _ _ n3).p1;obtain⟨a0,a1,a2,a3⟩:=h7.cells4;have af:=h7.free;have h8:=h7.set (i:=2) (.slice y2 (nw - 1) cap2);simp only[List.setIfInBounds_toArray,List.set_cons_zero,List.set_cons_succ]at h8;have H8:=hd_ h8;clear n1 n2 h7 h8;refine plan_last (by rfl) (fun K hK=>?_);go_simp;refine hK _ _ (.inl rfl) ?_;clear hK K
   try refine tP_ ?_
   refine plan_done ?_;obtain⟨w5,hw5⟩:=nm_ (v2.setCell ⟨p,2,none⟩ (.slice y2 (nw - 1) cap2));rw[<-hw5]at H8 ⊢;clear hw5 a0 a1 a2 a3 af n3;go_wp2;go_ret;rw[Y1.out];exact⟨rfl,(H8.out.p5.drop.p3.p3.p2).unlive⟩
  refine wp_region_plan 22 (.take 0 (.tk 2 7 (.tk 10 8 (.alt 1 (.alt 9 (.alt 18 (.tk 19 3 (.alt 22 .done .nomore)) .nomore) .nomore) .nomore)))) (fun w'=>Cells w' (b4L p (.slice x1 m.nodes.length c1) (.slice x2 m.links.length c2) (.slice (some ⟨g,0,none⟩) nw c3) (.slice x4 m.past.length c4))) (by kernel_rfl) (by kernel_rfl) (fun _ _ _ _ _ h=>h) (S0.out.below (Below.drew (Below.refl _ _))) ?_
  rw[<-EV.out]
  repeat (first|refine tC_ ?_|refine tB_ ?_)
  have n1:=((M.start V).alloc #[] 123).empty (flatR_frame encW) 6;refine plan_last (by rfl) (fun K hK=>?_);go_simp;refine hK _ _ (.inr (S1.out.below n1.below)) ?_;clear hK K
  try refine tP_ ?_
  refine plan_last (by rfl) (fun K hK=>step_add wordS encW_len encW_one n1 (R1.out _ n1.below _) (by rfl) (by rfl) (by rfl) (by rfl) (by rw[List.length_nil,List.length_take,RL.out];unfold maxLen;omega) (by rw[List.length_nil,List.length_take,RL.out];omega) (N:=k) (by rw[List.length_nil,List.length_take,RL.out];omega) (fun y1 cap1 v1 n2=>?_));rw[List.nil_append]at n2
  refine hK _ _ (.inr (S1.out.below n2.below)) ?_;clear hK K
  try refine tP_ ?_
  refine plan_last (by rfl) (fun K hK=>step_add wordS encW_len encW_one n2 (R2.out _ n2.below _ ⟨g,(k+1) * 6,none⟩ (.inr rfl)) (by rfl) (by rfl) (by rfl) (by rfl) (by rw[List.length_take,List.length_drop,RL.out];unfold maxLen;omega) (by rw[List.length_take,List.length_drop,RL.out];omega) (N:=nw - 1) (by rw[List.length_take,List.length_drop,RL.out];omega) (fun y2 cap2 v2 n3=>?_))
  refine hK _ _ (.inr (S1.out.below n3.below)) ?_;clear hK K
  try refine tP_ ?_
  repeat (first|refine tC_ ?_|refine tB_ ?_)
  have h7:=(FI.out _ _ _ n3).p1;obtain⟨a0,a1,a2,a3⟩:=h7.cells4;have af:=h7.free;have h8:=h7.set (i:=2) (.slice y2 (nw - 1) cap2);simp only[List.setIfInBounds_toArray,List.set_cons_zero,List.set_cons_succ]at h8;have H8:=hd_ h8;clear n1 n2 h7 h8;refine plan_last (by rfl) (fun K hK=>?_);go_simp;refine hK _ _ (.inl rfl) ?_;clear hK K
  try refine tP_ ?_
  refine plan_done ?_;obtain⟨w5,hw5⟩:=nm_ (v2.setCell ⟨p,2,none⟩ (.slice y2 (nw - 1) cap2));rw[<-hw5]at H8 ⊢;clear hw5 a0 a1 a2 a3 af n3;go_wp2;go_ret;rw[Y1.out];exact⟨rfl,(H8.out.p5.drop.p3.p3.p2).unlive⟩
 have HM1:Hid (m=n):=hd_ (HM.out.trans (if_neg (by decide)));have MW:Hid (m.words.length=nw):=hd_ (by rw[HM1.out,NW.out]);have H5:Hid (M B w0 W0 (liveC p m::boxC px 123 #[iv x.kind,iv x.src,iv x.dst,iv x.beacon,iv x.level,.slice xw kl cw]::l)):=hd_ (by rw[HM1.out];exact H2.out);clear KL XK OK XO HM HM1 KR H2;cases kept
 case true=>
  have Y1:=hd_ (YES.out.trans (by rw[if_pos rfl]));go_wp2;go_ret;rw[Y1.out];exact⟨rfl,H5.out.p1.drop⟩
 have Y1:=hd_ (YES.out.trans (by rw[if_neg (by decide)]));obtain⟨x1,c1,x2,c2,x3,c3,x4,c4,h1⟩:=H5.out.live;rw[MW.out]at h1;have h6:=h1.drew;obtain⟨rows,g,e1,e9,rl,nc,cm,rd1,rd2,fin⟩:=M.cutW h6.p3 (k:=k) (by rw[MW.out];omega);cases e1;clear e9;rw[MW.out]at rl rd2;unfold maxLen at cm
 have S0:Hid (Cells W0 (b4L p (.slice x1 m.nodes.length c1) (.slice x2 m.links.length c2) (.slice (some ⟨g,0,none⟩) nw c3) (.slice x4 m.past.length c4))):=hd_ (by obtain⟨a0,a1,a2,a3⟩:=h1.cells4;exact⟨a0,a1,a2,a3,trivial⟩);have S1:=hd_ (S0.out.below (Below.drew (Below.refl _ _)));have RL:=hd_ rl;have R1:=hd_ rd1;have R2:=hd_ rd2;have FI:=hd_ fin;have H6:=hd_ h6;obtain⟨V,hV⟩:=nm_ W0.drew
 rw[<-hV]at S1 R1 R2 FI H6;have EV:=hd_ hV;clear h1 h6 rl rd1 rd2 fin hV H5;have wr1:IntKind.i64.wrap ((k:Int)+1)=(k:Int)+1:=IntWalk.i64_in _ o_;have k2:(k:Int)+1<=(nw:Int):=o_;have k3:(k:Int)<=(c3:Int):=o_;have k4:(0:Int)<=(k:Int)+1:=o_;have k5:(nw:Int)<=(c3:Int):=o_;go_wp2
 by_cases hc:c3=k+1
 case pos=>
  subst hc;have k3':(k:Int)<=(k:Int)+1:=o_;have k5':(nw:Int)<=(k:Int)+1:=o_;clear k3 k5
  refine wp_region_plan 22 (.take 0 (.tk 2 7 (.tk 10 8 (.alt 1 (.alt 9 (.alt 18 (.tk 19 3 (.alt 22 .done .nomore)) .nomore) .nomore) .nomore)))) (fun w'=>Cells w' (b4L p (.slice x1 m.nodes.length c1) (.slice x2 m.links.length c2) (.slice (some ⟨g,0,none⟩) nw (k+1)) (.slice x4 m.past.length c4))) (by kernel_rfl) (by kernel_rfl) (fun _ _ _ _ _ h=>h) (S0.out.below (Below.drew (Below.refl _ _))) ?_
  rw[<-EV.out]
  repeat (first|refine tC_ ?_|refine tB_ ?_)
  have n1:=((M.start V).alloc #[] 123).empty (flatR_frame encW) 6;refine plan_last (by rfl) (fun K hK=>?_);go_simp;refine hK _ _ (.inr (S1.out.below n1.below)) ?_;clear hK K
  try refine tP_ ?_
  refine plan_last (by rfl) (fun K hK=>step_add wordS encW_len encW_one n1 (R1.out _ n1.below _) (by rfl) (by rfl) (by rfl) (by rfl) (by rw[List.length_nil,List.length_take,RL.out];unfold maxLen;omega) (by rw[List.length_nil,List.length_take,RL.out];omega) (N:=k) (by rw[List.length_nil,List.length_take,RL.out];omega) (fun y1 cap1 v1 n2=>?_));rw[List.nil_append]at n2
  refine hK _ _ (.inr (S1.out.below n2.below)) ?_;clear hK K
  try refine tP_ ?_
  refine plan_last (by rfl) (fun K hK=>step_add wordS encW_len encW_one n2 (by have z:=R2.out _ n2.below 0 ⟨g,0,none⟩ (.inl o_);rwa[show nw - (k+1)=0 by omega]at z) (by rfl) (by rfl) (by rfl) (by rfl) (by rw[List.length_take,List.length_drop,RL.out];unfold maxLen;omega) (by rw[List.length_take,List.length_drop,RL.out];omega) (N:=nw - 1) (by rw[List.length_take,List.length_drop,RL.out];omega) (fun y2 cap2 v2 n3=>?_))
  refine hK _ _ (.inr (S1.out.below n3.below)) ?_;clear hK K
  try refine tP_ ?_
  repeat (first|refine tC_ ?_|refine tB_ ?_)
  have h7:=(FI.out _ _ _ n3).p1;obtain⟨a0,a1,a2,a3⟩:=h7.cells4;have af:=h7.free;have h8:=h7.set (i:=2) (.slice y2 (nw - 1) cap2);simp only[List.setIfInBounds_toArray,List.set_cons_zero,List.set_cons_succ]at h8;have H8:=hd_ h8;clear n1 n2 h7 h8;refine plan_last (by rfl) (fun K hK=>?_);go_simp;refine hK _ _ (.inl rfl) ?_;clear hK K
  try refine tP_ ?_
  refine plan_done ?_;obtain⟨w5,hw5⟩:=nm_ (v2.setCell ⟨p,2,none⟩ (.slice y2 (nw - 1) cap2));rw[<-hw5]at H8 ⊢;clear hw5 a0 a1 a2 a3 af n3;go_wp2;go_ret;rw[Y1.out];exact⟨rfl,(H8.out.p5.drop.p3.p3.p2).unlive⟩
 refine wp_region_plan 22 (.take 0 (.tk 2 7 (.tk 10 8 (.alt 1 (.alt 9 (.alt 18 (.tk 19 3 (.alt 22 .done .nomore)) .nomore) .nomore) .nomore)))) (fun w'=>Cells w' (b4L p (.slice x1 m.nodes.length c1) (.slice x2 m.links.length c2) (.slice (some ⟨g,0,none⟩) nw c3) (.slice x4 m.past.length c4))) (by kernel_rfl) (by kernel_rfl) (fun _ _ _ _ _ h=>h) (S0.out.below (Below.drew (Below.refl _ _))) ?_
 rw[<-EV.out]
 repeat (first|refine tC_ ?_|refine tB_ ?_)
 have n1:=((M.start V).alloc #[] 123).empty (flatR_frame encW) 6;refine plan_last (by rfl) (fun K hK=>?_);go_simp;refine hK _ _ (.inr (S1.out.below n1.below)) ?_;clear hK K
 try refine tP_ ?_
 refine plan_last (by rfl) (fun K hK=>step_add wordS encW_len encW_one n1 (R1.out _ n1.below _) (by rfl) (by rfl) (by rfl) (by rfl) (by rw[List.length_nil,List.length_take,RL.out];unfold maxLen;omega) (by rw[List.length_nil,List.length_take,RL.out];omega) (N:=k) (by rw[List.length_nil,List.length_take,RL.out];omega) (fun y1 cap1 v1 n2=>?_));rw[List.nil_append]at n2
 refine hK _ _ (.inr (S1.out.below n2.below)) ?_;clear hK K
 try refine tP_ ?_
 refine plan_last (by rfl) (fun K hK=>step_add wordS encW_len encW_one n2 (R2.out _ n2.below _ ⟨g,(k+1) * 6,none⟩ (.inr rfl)) (by rfl) (by rfl) (by rfl) (by rfl) (by rw[List.length_take,List.length_drop,RL.out];unfold maxLen;omega) (by rw[List.length_take,List.length_drop,RL.out];omega) (N:=nw - 1) (by rw[List.length_take,List.length_drop,RL.out];omega) (fun y2 cap2 v2 n3=>?_))
 refine hK _ _ (.inr (S1.out.below n3.below)) ?_;clear hK K
 try refine tP_ ?_
 repeat (first|refine tC_ ?_|refine tB_ ?_)
 have h7:=(FI.out _ _ _ n3).p1;obtain⟨a0,a1,a2,a3⟩:=h7.cells4;have af:=h7.free;have h8:=h7.set (i:=2) (.slice y2 (nw - 1) cap2);simp only[List.setIfInBounds_toArray,List.set_cons_zero,List.set_cons_succ]at h8;have H8:=hd_ h8;clear n1 n2 h7 h8;refine plan_last (by rfl) (fun K hK=>?_);go_simp;refine hK _ _ (.inl rfl) ?_;clear hK K
 try refine tP_ ?_
 refine plan_done ?_;obtain⟨w5,hw5⟩:=nm_ (v2.setCell ⟨p,2,none⟩ (.slice y2 (nw - 1) cap2));rw[<-hw5]at H8 ⊢;clear hw5 a0 a1 a2 a3 af n3;go_wp2;go_ret;rw[Y1.out];exact⟨rfl,(H8.out.p5.drop.p3.p3.p2).unlive⟩
end
def RawV:Type:={ u:Value // u.oneCell'=true }
def encV (a:RawV):List Value:=[a.1]
theorem encV_len (a:RawV):(encV a).length=1:=rfl
theorem encV_one (a:RawV):∀u ∈ encV a,u.oneCell'=true:=fun u hu=>by rw[List.mem_singleton.1 hu];exact a.2
section
variable {B:Nat} {w0 w:World} {l:List Ch} {p:Nat}
theorem _root_.Go.Proofs.YtcblbdpdbggkbaaGreat.M.growRows {v:Value} {rs:List (List Int)} (h:M B w0 w (rowsC v rs::l)):∃raws:List RawV,raws.length=rs.length/\(∀W,Below w.heap.size w W->RdL encV W v raws)/\
  ∀(w':World) (v':Value) (u:RawV) (l':List Ch),M w.heap.size w w' (slcC (flatR_frame encV) 23 1 v' (raws++[u])::intsC u.1 []::l')->M B w0 w' (rowsC v' (rs++[[]])::l):=by
 obtain⟨f,hf,nd,lo⟩:=h.first;obtain⟨v0,c,fe,ev,E,ef⟩:=slcR_els hf;cases ev;have one:∀i,i<rs.length->∃u:RawV,c i=[u.1]:=fun i hi=>by
  have q:=E.one i _ (List.getElem?_eq_getElem hi);obtain⟨u,e,_⟩:=intsR_to q;exact⟨⟨u,flR_one.one q u (by rw[e];exact List.mem_singleton_self _)⟩,e⟩
 obtain⟨raws,hrl,hrf⟩:∃raws:List RawV,raws.length=rs.length/\raws.flatMap encV=((List.range rs.length).map c).flatten:=by
  have key:∀m,m<=rs.length->∃raws:List RawV,raws.length=m/\raws.flatMap encV=((List.range m).map c).flatten:=fun m=>by
   induction m with
   |zero=>exact fun _=>⟨[],rfl,rfl⟩
   |succ m ih=>
    intro hm;obtain⟨raws,h1,h2⟩:=ih o_;obtain⟨u,hu⟩:=one m o_;refine⟨raws++[u],by rw[List.length_append,h1];rfl,?_⟩;rw[List.flatMap_append,h2,List.range_succ,List.map_append,List.flatten_append];have e:List.flatMap encV [u]=c m:=by rw[hu];rfl
    rw[e];simp
  exact key _ lr_
 have own:=E.own;rw[<-hrf]at own;refine⟨raws,hrl,fun W hW=>?_,fun w' v' u l' kN=>?_⟩
 ·have o2:W.ownsRow 0 23 1 v rs.length (raws.flatMap encV):=ownsRow_same own fun g hg=>hW.block g ((own.lt g hg).2)
  exact RdL.row o2 hrl.symm
 ·have low:∀F:List Nat,(rowsC v rs).at_ w F->∀b ∈ F,b<w.heap.size:=fun F hF=>(rowsC v rs).lt hF
  refine h.turn fun F hF nF lF=>⟨⟨kN.below.os,kN.below.tape,kN.below.output,kN.below.size,fun b hb _=>kN.below.block b hb⟩,?_⟩
  obtain⟨_,c2,fe2,ev2,E2,rfl⟩:=slcR_els hF;cases ev2;have o2:=E2.own;obtain⟨_,⟨g1,g2,rfl,hg1,g3,g4,rfl,hg3,_⟩,nk,lk⟩:=kN.own;obtain⟨_,ev3,ho,rfl⟩:=slc_flat_to hg1;cases ev3;have ec:((List.range rs.length).map c2).flatten=raws.flatMap encV:=by
   apply List.ext_getElem?;intro j
   by_cases hj:j<rs.length * 1
   ·rcases own.2 with ⟨_,h0⟩|⟨g,cap,cur,ev,_⟩
    ·omega
    ·rw[ev]at own o2
     have z1:=World.ownsRow.cellAt own j hj;have z2:=World.ownsRow.cellAt o2 j hj;rw[z1]at z2;exact z2.symm
   ·rw[List.getElem?_eq_none (by rw[flat_len E2.len];omega),List.getElem?_eq_none (by rw[own.1];omega)]
  have n1:=List.nodup_append.1 nk;have n2:=List.nodup_append.1 n1.2.1;have vlo:∀b,v'.ownBlock=some b->w.heap.size<=b:=fun b q=>lk b (List.mem_append_left _ (by simp[q]))
  have flo:∀b ∈ g3,w.heap.size<=b:=fun b q=>lk b (List.mem_append_right _ (List.mem_append_left _ q))
  have S:=Els.snoc (w':=w') (v':=v') (cs:=[u.1]) (a:=[]) (fa:=g3) E2 intsR_frame (by
      rw[ec]
      have:(raws++[u]).length=rs.length+1:=by rw[List.length_append,hrl];rfl
      rw[this,List.flatMap_append]at ho
      exact ho) rfl (fun i hi b hb=>kN.below.block b (low _ hF b (mem_el hi hb))) kN.below.size hg3
  have R:=S.rep;have ln:(rs++[[]]).length=rs.length+1:=by simp
  rw[ln]at R;have old:∀i,i<rs.length->∀b ∈ fe2 i,b<w.heap.size:=fun i hi b hb=>low _ hF b (mem_el hi hb)
  refine⟨_,R,fps_more nF n2.1 (fun b hb i hi q=>?_) (fun g hg=>⟨fun i hi q=>?_,fun q=>?_⟩),fun b hb=>?_⟩
  ·have:=flo b hb;have:=old i hi b q;omega
  ·have:=vlo g hg;have:=old i hi g q;omega
  ·exact n1.2.2 g (by simp[hg]) g (List.mem_append_left _ q) rfl
  ·rcases fps_mem_more hb with q|q|q
   ·exact .inr (vlo b q)
   ·exact .inl q
   ·exact .inr (flo b q)
end
theorem crash_no {n:Nt} {i:Int} (h:¬(nodeAt n i).born+1<=20):crashN n i=none:=by unfold crashN;simp only[if_neg h]
theorem crash_yes {n:Nt} {i:Nat} (h:(nodeAt n (i:Int)).born+1<=20):crashN n (i:Int)=some { n with nodes:=n.nodes.set i ⟨(nodeAt n (i:Int)).born+1,[⟨(i:Int),(nodeAt n (i:Int)).born+1,0,newSm⟩],if (i:Int)=0 then (nodeAt n (i:Int)).beacon else 0,if (i:Int)=0 then 0 else 5, -1⟩,past:=n.past.set i (rowsAt n (i:Int)++[[]]) }:=by
 unfold crashN;simp only[if_pos h]
 rfl
section
variable {B:Nat} {w0 w:World} {l:List Ch} {p:Nat}
theorem rdV_one {b:Nat} {e:TypeId} {v:Value} (h:M B w0 w (boxC b e #[v]::l)) (hv:v.oneCell'=true):RdL encV w (.slice (some ⟨b,0,none⟩) 1 1) [⟨v,hv⟩]:=
 .inr ⟨_,1,rfl,fun j z hz=>by
    match j,hz with
    | 0,hz=>have e:v=z:=Option.some.inj hz;rw[<-e];exact h.cell rfl
    |j+1,hz=>(have h1:=(List.getElem?_eq_some_iff.1 hz).1;have h2:(List.flatMap encV [(⟨v,hv⟩:RawV)]).length=1:=rfl;omega)⟩
theorem spCrash_at {n:Nt} {i:Nat} (h:M B w0 w (liveC p n::l)) (hs:Sized n) (hi:i<5) (hb:0<=(nodeAt n (i:Int)).born/\(nodeAt n (i:Int)).born<=1000) (hr:(rowsAt n (i:Int)).length<=1000):
  Calls Tryz.prog 308 #[ptrV p,iv (i:Int)] w fun r w'=>r=.returned (.bool (crashN n (i:Int)).isSome)/\M B w0 w' (liveC p ((crashN n (i:Int)).getD n)::l):=by
 obtain⟨hb0,hb1⟩:=hb;obtain⟨rs,hrs⟩:=nm_ (rowsAt n (i:Int));obtain⟨nd,hnd⟩:=nm_ (nodeAt n (i:Int));have gx:=node_get hs.nodes hi;have gr:=rows_get hs.past hi;have CY:=hd_ (fun q:nd.born+1<=20=>crash_yes (n:=n) (i:=i) (by rw[<-hnd];exact q));have CN:=hd_ (fun q:¬nd.born+1<=20=>crash_no (n:=n) (i:=(i:Int)) (by rw[<-hnd];exact q));rw[<-hnd]at gx hb0 hb1;rw[<-hrs]at gr hr;rw[<-hnd, <-hrs]at CY;have HL:=hd_ h
 obtain⟨ns,ls,ws,ps⟩:=n;obtain⟨hs1,hs2,hs3,hs4⟩:=hs;simp only at hs1 hs2 hs3 hs4 gx gr CY;obtain⟨x1,c1,x2,c2,x3,c3,x4,c4,h1⟩:=h.live;simp only at h1;rw[hs1,hs3]at h1;obtain⟨f1,hf1⟩:=h1.p1.nodesRd;obtain⟨f4,hf4⟩:=h1.p4.pastRd;obtain⟨g1,xk,ck,fk,rfl,_,_,kr,_,_,d0,d1,d2,d3,d4⟩:=node_at hf1 gx;obtain⟨g4,xr0,cr0,fr,rfl,_,_,rr,_,_,y0⟩:=past_at hf4 gr;obtain⟨a0,a1,a2,a3⟩:=h1.cells4
 have i0:(0:Int)<=(i:Int):=o_;have i1:(i:Int)<5:=o_;have wr1:IntKind.i64.wrap (nd.born+1)=nd.born+1:=IntWalk.i64_in _ o_;have GX:=hd_ gx;have GR:=hd_ gr;have GI:Hid (i<ps.length):=hd_ o_;have H1:=hd_ h1;have RS:=hd_ hr;clear h h1 hf1 hf4 kr rr gx gr hrs hnd hs1 hs2 hs3 hs4 d1 d2 d3 d4 y0;unfold ptrV;go_enter Tryz.func308,Tryz.ntmps308
 by_cases hle:nd.born+1<=20
 case neg=>
  have CF:=hd_ (CN.out hle);have gg:(20:Int)<nd.born+1:=o_;clear hle;go_wp2;go_ret;rw[CF.out];exact⟨rfl,HL.out⟩
 have CF:=hd_ (CY.out hle);have gg:¬(20:Int)<nd.born+1:=o_;clear CY CN HL hle;have KN:=hd_ (spNode_at H1.out (i:Int) (nd.born+1));obtain⟨lv,hlv⟩:∃lv:Int,lv=if (i:Int)=0 then 0 else 5:=⟨_,rfl⟩
 rw[<-hlv]at KN CF;clear hlv
 go_wp2_with fail
 refine KN.out.mono ?_;rintro r w1 ⟨v,rfl,h2⟩;obtain⟨y,cy,ev,_⟩:=M.form h2;subst ev;have h3:=h2.alloc #[iv (nd.born+1),.slice y 1 cy,iv 0,iv lv,iv (-1)] 55;obtain⟨px,hpx⟩:=nm_ w1.heap.size;obtain⟨W1,hW1⟩:=nm_ (w1.alloc (.cells #[iv (nd.born+1),.slice y 1 cy,iv 0,iv lv,iv (-1)] 55));have e1:[(⟨(i:Int),nd.born+1,0,newSm⟩:En)].length=1:=rfl;rw[e1]at h3;clear e1;rw[<-hW1, <-hpx]at h3;have H3:=hd_ h3
 clear h2 h3 KN H1 d0 a0 a1 a2 a3
 go_upto_if 23 with fail
 rw[<-hW1, <-hpx];clear hW1 hpx;obtain⟨bc,hbc⟩:∃z:Int,z=if (i:Int)=0 then nd.beacon else 0:=⟨_,rfl⟩
 rw[<-hbc]at CF;have E:=hd_ CF.out;have BC:=hd_ hbc;clear hbc CF
 go_cut [] (fun wx=>M B w0 wx (knownC (.slice y 1 cy) [⟨(i:Int),nd.born+1,0,newSm⟩]::boxC px 55 #[iv (nd.born+1),.slice y 1 cy,iv bc,iv lv,iv (-1)]::boxC p 289 #[.slice (some ⟨g1,0,none⟩) 5 c1,.slice x2 ls.length c2,.slice x3 ws.length c3,.slice (some ⟨g4,0,none⟩) 5 c4]::nodesC (.slice (some ⟨g1,0,none⟩) 5 c1) ns::linksC (.slice x2 ls.length c2) ls::wordsC (.slice x3 ws.length c3) ws::pastC (.slice (some ⟨g4,0,none⟩) 5 c4) ps::l))
 case first=>
  by_cases hz:(i:Int)=0
  case pos=>
   have gz:((i:Int)==0)=true:=by simpa using hz
   have EB:Hid (bc=nd.beacon):=hd_ (by rw[BC.out,if_pos hz]);have h3:=H3.out;obtain⟨f1,hf1⟩:=h3.p3.nodesRd;obtain⟨g1',xk',ck',fk',ev',_,_,kr,_,_,d0,d1,d2,d3,d4⟩:=node_at hf1 GX.out;cases ev';have z0:i=0:=o_;rw[z0,Nat.zero_mul,Nat.zero_add]at d2;obtain⟨a0,a1,a2,a3⟩:=h3.p2.cells4;obtain⟨e0,e1,e2,e3,e4⟩:=h3.cells5;have ef:=h3.free;have h4:=h3.set (i:=2) (iv nd.beacon)
   simp only[List.setIfInBounds_toArray,List.set_cons_zero,List.set_cons_succ]at h4;rw[<-EB.out]at h4;have H4:=hd_ h4;clear hz hf1 kr d0 d1 d3 d4 z0 h3 h4 H3
   go_wp2_with fail
   go_meet
   rw[<-EB.out];exact H4.out.p1
  case neg=>
   have gz:((i:Int)==0)=false:=by simpa using hz
   have EB:Hid (bc=0):=hd_ (by rw[BC.out,if_neg hz]);clear hz
   go_wp2_with fail
   go_meet
   rw[EB.out];exact H3.out.p1
 case rest=>
  have H4:=hd_ hcut;clear hcut H3;obtain⟨yo,cyo,h5⟩:=M.openKnown (H4.out.drew.p3) GX.out;have h6:=h5.drop;have S0:Hid (Cells wc.drew (b4L p (.slice (some ⟨g1,0,none⟩) 5 c1) (.slice x2 ls.length c2) (.slice x3 ws.length c3) (.slice (some ⟨g4,0,none⟩) 5 c4)++b5L px (iv (nd.born+1)) (.slice y 1 cy) (iv bc) (iv lv) (iv (-1)))):=hd_ (by
      obtain⟨a0,a1,a2,a3⟩:=h6.p3.cells4
      obtain⟨e0,e1,e2,e3,e4⟩:=h6.p2.cells5
      exact⟨a0,a1,a2,a3,e0,e1,e2,e3,e4,trivial⟩)
  obtain⟨V7,hV7⟩:=nm_ wc.drew;rw[<-hV7]at h6 S0;have EV7:=hd_ hV7;have H6:=hd_ h6;have GL:Hid (i<ns.length):=hd_ (List.getElem?_eq_some_iff.1 GX.out).1;clear h5 h6 hV7 H4;go_wp2
  refine wp_region_plan 8 (.tk 0 8 (.alt 8 .done .nomore)) (fun w'=>Cells w' (b4L p (.slice (some ⟨g1,0,none⟩) 5 c1) (.slice x2 ls.length c2) (.slice x3 ws.length c3) (.slice (some ⟨g4,0,none⟩) 5 c4)++b5L px (iv (nd.born+1)) (.slice y 1 cy) (iv bc) (iv lv) (iv (-1)))) (by kernel_rfl) (by kernel_rfl) (fun _ _ _ _ _ h=>h) (by rw[<-EV7.out];exact S0.out) ?_;rw[<-EV7.out]
  repeat (first|refine tC_ ?_|refine tB_ ?_)
  refine plan_last (by rfl) (fun K hK=>step_hstore (vs:=[iv (nd.born+1),.slice y 1 cy,iv bc,iv lv,iv (-1)]) H6.out GL.out (by rfl) (by rfl) (by rfl) (by rfl) (j:=0) (by rfl) (by rfl) nodeI (by rfl) (by simp) (ci':=[iv (nd.born+1),.slice y 1 cy,iv bc,iv lv,iv (-1)]) (by rfl) (fun wv h7=>?_));refine hK _ _ (.inl rfl) ?_;clear hK K
  try refine tP_ ?_
  refine plan_done ?_
  have H7:=hd_ (show M B w0 wv (pastC (.slice (some ⟨g4,0,none⟩) 5 c4) ps::nodesC (.slice (some ⟨g1,0,none⟩) 5 c1) (ns.set i ⟨nd.born+1,[⟨(i:Int),nd.born+1,0,newSm⟩],bc,lv, -1⟩)::boxC px 55 #[iv (nd.born+1),.slice y 1 cy,iv bc,iv lv,iv (-1)]::boxC p 289 #[.slice (some ⟨g1,0,none⟩) 5 c1,.slice x2 ls.length c2,.slice x3 ws.length c3,.slice (some ⟨g4,0,none⟩) 5 c4]::linksC (.slice x2 ls.length c2) ls::wordsC (.slice x3 ws.length c3) ws::l)from (M.close (FA:=nodeR_frame (T:=TY)) (x:=⟨nd.born+1,[⟨(i:Int),nd.born+1,0,newSm⟩],bc,lv, -1⟩) (M.node (nd.born+1) bc lv (-1) h7.p1) GL.out).p5)
  clear h7 H6 S0 EV7;go_upto_region 8 with fail
  go_cut [] (fun wx=>M B w0 wx (pastC (.slice (some ⟨g4,0,none⟩) 5 c4) (ps.set i (rs++[[]]))::nodesC (.slice (some ⟨g1,0,none⟩) 5 c1) (ns.set i ⟨nd.born+1,[⟨(i:Int),nd.born+1,0,newSm⟩],bc,lv, -1⟩)::boxC px 55 #[iv (nd.born+1),.slice y 1 cy,iv bc,iv lv,iv (-1)]::boxC p 289 #[.slice (some ⟨g1,0,none⟩) 5 c1,.slice x2 ls.length c2,.slice x3 ws.length c3,.slice (some ⟨g4,0,none⟩) 5 c4]::linksC (.slice x2 ls.length c2) ls::wordsC (.slice x3 ws.length c3) ws::l))
  case first=>
   have h0:=H7.out.drew;obtain⟨gq,capq,ci,evq,hcq,ho⟩:=M.open rowsR_frame h0 GR.out;obtain⟨eq1,eq2,eq3⟩:=Value.slice.inj evq;cases eq1;cases eq3;clear eq2 evq;obtain⟨vr,rfl⟩:=one_cell hcq;obtain⟨raws,rl,r4,fin⟩:=M.growRows (v:=vr) (rs:=rs) ho;have gp:=ho.p1.hcell1 GI.out;obtain⟨xr,cr,ev5⟩:∃xr cr,vr=.slice xr rs.length cr:=by
    obtain⟨x',c',e',_⟩:=M.form (FA:=intsR_frame) (e:=23) (size:=1) (v:=vr) (xs:=rs) ho;exact⟨x',c',e'⟩
   subst ev5;have C0:Hid (Cells wv.drew (b4L p (.slice (some ⟨g1,0,none⟩) 5 c1) (.slice x2 ls.length c2) (.slice x3 ws.length c3) (.slice (some ⟨g4,0,none⟩) 5 c4)++[(⟨g4,i,none⟩,.slice xr rs.length cr)])):=hd_ (by
        obtain⟨a0,a1,a2,a3⟩:=h0.p3.cells4
        exact⟨a0,a1,a2,a3,gp,trivial⟩)
   obtain⟨V,hV⟩:=nm_ wv.drew;rw[<-hV]at C0 r4 fin ho;have EV:=hd_ hV;have C4:=C0;have R4:=hd_ r4;have RL:=hd_ rl
   have FIN:Hid (∀(w':World) (v':Value) (u:RawV) (l':List Ch),M V.heap.size V w' (slcC (flatR_frame encV) 23 1 v' (raws++[u])::intsC u.1 []::l')->(∃u,w'.cell? ⟨g4,i,none⟩=some u)/\w'.frozen? ⟨g4,i,none⟩=false/\M B w0 (w'.setCell ⟨g4,i,none⟩ v') (pastC (.slice (some ⟨g4,0,none⟩) 5 c4) (ps.set i (rs++[[]]))::nodesC (.slice (some ⟨g1,0,none⟩) 5 c1) (ns.set i ⟨nd.born+1,[⟨(i:Int),nd.born+1,0,newSm⟩],bc,lv, -1⟩)::boxC px 55 #[iv (nd.born+1),.slice y 1 cy,iv bc,iv lv,iv (-1)]::boxC p 289 #[.slice (some ⟨g1,0,none⟩) 5 c1,.slice x2 ls.length c2,.slice x3 ws.length c3,.slice (some ⟨g4,0,none⟩) 5 c4]::linksC (.slice x2 ls.length c2) ls::wordsC (.slice x3 ws.length c3) ws::l)):=hd_ (by
        intro w' v' u l' k
        have q:=fin w' v' u l' k
        have q1:=q.p1.hset1 GI.out v'
        exact⟨⟨_,q.p1.hcell1 GI.out⟩,q.p1.hfree i,M.close (FA:=rowsR_frame) (ci:=[v']) (x:=rs++[[]]) q1.p1 GI.out⟩)
   clear hV h0 ho rl r4 fin gp hcq
   refine wp_region_plan 20 (.tk 0 6 (.tk 7 8 (.alt 6 (.alt 15 (.alt 16 (.alt 17 (.alt 18 (.take 19 (.alt 20 .done .nomore)) .nomore) .nomore) .nomore) (.alt 16 (.alt 15 (.alt 17 (.alt 18 (.take 19 (.alt 20 .done .nomore)) .nomore) .nomore) (.alt 17 (.alt 15 (.alt 18 (.take 19 (.alt 20 .done .nomore)) .nomore) .nomore) .nomore)) .nomore)) (.alt 16 (.alt 6 (.alt 15 (.alt 17 (.alt 18 (.take 19 (.alt 20 .done .nomore)) .nomore) .nomore) (.alt 17 (.alt 15 (.alt 18 (.take 19 (.alt 20 .done .nomore)) .nomore) .nomore) .nomore)) (.alt 17 (.alt 6 (.alt 15 (.alt 18 (.take 19 (.alt 20 .done .nomore)) .nomore) .nomore) .nomore) .nomore)) .nomore)))) (fun w'=>Cells w' (b4L p (.slice (some ⟨g1,0,none⟩) 5 c1) (.slice x2 ls.length c2) (.slice x3 ws.length c3) (.slice (some ⟨g4,0,none⟩) 5 c4)++[(⟨g4,i,none⟩,.slice xr rs.length cr)])) (by kernel_rfl) (by kernel_rfl) (fun _ _ _ _ _ h=>h) (by rw[<-EV.out];exact C0.out) ?_
   rw[<-EV.out]
   repeat (first|refine tC_ ?_|refine tB_ ?_)
   refine plan_alt (by rfl) (fun K hK=>?_) ?_
   ·have k1:=((M.start V).alloc #[] 23).empty (flatR_frame encV) 1
    try simp only[World.size_alloc]at k1
    go_simp;refine hK _ _ (.inr (C4.out.below k1.below)) ?_;clear hK K
    try refine tP_ ?_
    refine plan_alt (by rfl) (fun K hK=>step_add rowS encV_len encV_one k1 (R4.out _ k1.below) (by rfl) (by rfl) (by rfl) (by rfl) (by rw[List.length_nil,RL.out];unfold maxLen;omega) (by rw[List.length_nil,RL.out];omega) (N:=rs.length) (by rw[List.length_nil,RL.out];omega) (fun y2 cap2 v2 k2=>?_)) ?_
    ·rw[List.nil_append]at k2
     refine hK _ _ (.inr (C4.out.below k2.below)) ?_;clear hK K
     try refine tP_ ?_
     refine plan_last (by rfl) (fun K hK=>?_);have k3:=(((k2).alloc #[] 3).empty (flatR_frame encI) 1).soft
     try simp only[World.size_alloc]at k3
     go_simp;refine hK _ _ (.inr (C4.out.below k3.below)) ?_;clear hK K
     try refine tP_ ?_
     refine plan_last (by rfl) (fun K hK=>?_);have k4:=(k3).alloc #[.slice (some ⟨v2.heap.size,0,none⟩) 0 0] 23
     try simp only[World.size_alloc]at k4
     go_simp;refine hK _ _ (.inr (C4.out.below k4.below)) ?_;clear hK K
     try refine tP_ ?_
     refine plan_last (by rfl) (fun K hK=>step_add rowS encV_len encV_one k4.p2 (rdV_one k4 rfl) (by rfl) (by rfl) (by rfl) (by rfl) (show raws.length+1<=maxLen by rw[RL.out];unfold maxLen;omega) (show (raws.length+1) * 24<=140737488355328 by rw[RL.out];omega) (N:=rs.length+1) (show rs.length+1=raws.length+1 by rw[RL.out]) (fun y5 cap5 v5 k5=>?_));refine hK _ _ (.inr (C4.out.below k5.below)) ?_
     clear hK K
     try refine tP_ ?_
     repeat (first|refine tC_ ?_|refine tB_ ?_)
     obtain⟨⟨u,cu⟩,fu,hN⟩:=FIN.out _ _ _ _ ((k5.p2).p1);refine plan_last (by rfl) (fun K hK=>?_);go_simp;refine hK _ _ (.inl rfl) ?_;clear hK K
     try refine tP_ ?_
     refine plan_done ?_
     go_wp2_with fail
     go_meet
     exact hN
    refine plan_last (by rfl) (fun K hK=>?_);have k6:=(((k1).alloc #[] 3).empty (flatR_frame encI) 1).soft
    try simp only[World.size_alloc]at k6
    go_simp;refine hK _ _ (.inr (C4.out.below k6.below)) ?_;clear hK K
    try refine tP_ ?_
    refine plan_alt (by rfl) (fun K hK=>step_add rowS encV_len encV_one k6.p1 (R4.out _ k6.below) (by rfl) (by rfl) (by rfl) (by rfl) (by rw[List.length_nil,RL.out];unfold maxLen;omega) (by rw[List.length_nil,RL.out];omega) (N:=rs.length) (by rw[List.length_nil,RL.out];omega) (fun y7 cap7 v7 k7=>?_)) ?_
    ·rw[List.nil_append]at k7
     refine hK _ _ (.inr (C4.out.below k7.below)) ?_;clear hK K
     try refine tP_ ?_
     refine plan_last (by rfl) (fun K hK=>?_);have k8:=(k7).alloc #[.slice (some ⟨V.heap.size+1,0,none⟩) 0 0] 23
     try simp only[World.size_alloc]at k8
     go_simp;refine hK _ _ (.inr (C4.out.below k8.below)) ?_;clear hK K
     try refine tP_ ?_
     refine plan_last (by rfl) (fun K hK=>step_add rowS encV_len encV_one k8.p1 (rdV_one k8 rfl) (by rfl) (by rfl) (by rfl) (by rfl) (show raws.length+1<=maxLen by rw[RL.out];unfold maxLen;omega) (show (raws.length+1) * 24<=140737488355328 by rw[RL.out];omega) (N:=rs.length+1) (show rs.length+1=raws.length+1 by rw[RL.out]) (fun y9 cap9 v9 k9=>?_));refine hK _ _ (.inr (C4.out.below k9.below)) ?_
     clear hK K
     try refine tP_ ?_
     repeat (first|refine tC_ ?_|refine tB_ ?_)
     obtain⟨⟨u,cu⟩,fu,hN⟩:=FIN.out _ _ _ _ ((k9.p2).p1);refine plan_last (by rfl) (fun K hK=>?_);go_simp;refine hK _ _ (.inl rfl) ?_;clear hK K
     try refine tP_ ?_
     refine plan_done ?_
     go_wp2_with fail
     go_meet
     exact hN
    refine plan_last (by rfl) (fun K hK=>?_);have k10:=(k6).alloc #[.slice (some ⟨V.heap.size+1,0,none⟩) 0 0] 23
    try simp only[World.size_alloc]at k10
    go_simp;refine hK _ _ (.inr (C4.out.below k10.below)) ?_;clear hK K
    try refine tP_ ?_
    refine plan_last (by rfl) (fun K hK=>step_add rowS encV_len encV_one k10.p2 (R4.out _ k10.below) (by rfl) (by rfl) (by rfl) (by rfl) (by rw[List.length_nil,RL.out];unfold maxLen;omega) (by rw[List.length_nil,RL.out];omega) (N:=rs.length) (by rw[List.length_nil,RL.out];omega) (fun y11 cap11 v11 k11=>?_));rw[List.nil_append]at k11;refine hK _ _ (.inr (C4.out.below k11.below)) ?_;clear hK K
    try refine tP_ ?_
    refine plan_last (by rfl) (fun K hK=>step_add rowS encV_len encV_one k11 (rdV_one k11.p1 rfl) (by rfl) (by rfl) (by rfl) (by rfl) (show raws.length+1<=maxLen by rw[RL.out];unfold maxLen;omega) (show (raws.length+1) * 24<=140737488355328 by rw[RL.out];omega) (N:=rs.length+1) (show rs.length+1=raws.length+1 by rw[RL.out]) (fun y12 cap12 v12 k12=>?_))
    refine hK _ _ (.inr (C4.out.below k12.below)) ?_;clear hK K
    try refine tP_ ?_
    repeat (first|refine tC_ ?_|refine tB_ ?_)
    obtain⟨⟨u,cu⟩,fu,hN⟩:=FIN.out _ _ _ _ ((k12.p2).p1);refine plan_last (by rfl) (fun K hK=>?_);go_simp;refine hK _ _ (.inl rfl) ?_;clear hK K
    try refine tP_ ?_
    refine plan_done ?_
    go_wp2_with fail
    go_meet
    exact hN
   refine plan_last (by rfl) (fun K hK=>?_);have k13:=(((M.start V).alloc #[] 3).empty (flatR_frame encI) 1).soft
   try simp only[World.size_alloc]at k13
   go_simp;refine hK _ _ (.inr (C4.out.below k13.below)) ?_;clear hK K
   try refine tP_ ?_
   refine plan_alt (by rfl) (fun K hK=>?_) ?_
   ·have k14:=((k13).alloc #[] 23).empty (flatR_frame encV) 1
    try simp only[World.size_alloc]at k14
    go_simp;refine hK _ _ (.inr (C4.out.below k14.below)) ?_;clear hK K
    try refine tP_ ?_
    refine plan_alt (by rfl) (fun K hK=>step_add rowS encV_len encV_one k14 (R4.out _ k14.below) (by rfl) (by rfl) (by rfl) (by rfl) (by rw[List.length_nil,RL.out];unfold maxLen;omega) (by rw[List.length_nil,RL.out];omega) (N:=rs.length) (by rw[List.length_nil,RL.out];omega) (fun y15 cap15 v15 k15=>?_)) ?_
    ·rw[List.nil_append]at k15
     refine hK _ _ (.inr (C4.out.below k15.below)) ?_;clear hK K
     try refine tP_ ?_
     refine plan_last (by rfl) (fun K hK=>?_);have k16:=(k15).alloc #[.slice (some ⟨V.heap.size,0,none⟩) 0 0] 23
     try simp only[World.size_alloc]at k16
     go_simp;refine hK _ _ (.inr (C4.out.below k16.below)) ?_;clear hK K
     try refine tP_ ?_
     refine plan_last (by rfl) (fun K hK=>step_add rowS encV_len encV_one k16.p1 (rdV_one k16 rfl) (by rfl) (by rfl) (by rfl) (by rfl) (show raws.length+1<=maxLen by rw[RL.out];unfold maxLen;omega) (show (raws.length+1) * 24<=140737488355328 by rw[RL.out];omega) (N:=rs.length+1) (show rs.length+1=raws.length+1 by rw[RL.out]) (fun y17 cap17 v17 k17=>?_))
     refine hK _ _ (.inr (C4.out.below k17.below)) ?_;clear hK K
     try refine tP_ ?_
     repeat (first|refine tC_ ?_|refine tB_ ?_)
     obtain⟨⟨u,cu⟩,fu,hN⟩:=FIN.out _ _ _ _ ((k17.p2).p1);refine plan_last (by rfl) (fun K hK=>?_);go_simp;refine hK _ _ (.inl rfl) ?_;clear hK K
     try refine tP_ ?_
     refine plan_done ?_
     go_wp2_with fail
     go_meet
     exact hN
    refine plan_last (by rfl) (fun K hK=>?_);have k18:=(k14).alloc #[.slice (some ⟨V.heap.size,0,none⟩) 0 0] 23
    try simp only[World.size_alloc]at k18
    go_simp;refine hK _ _ (.inr (C4.out.below k18.below)) ?_;clear hK K
    try refine tP_ ?_
    refine plan_last (by rfl) (fun K hK=>step_add rowS encV_len encV_one k18.p1 (R4.out _ k18.below) (by rfl) (by rfl) (by rfl) (by rfl) (by rw[List.length_nil,RL.out];unfold maxLen;omega) (by rw[List.length_nil,RL.out];omega) (N:=rs.length) (by rw[List.length_nil,RL.out];omega) (fun y19 cap19 v19 k19=>?_));rw[List.nil_append]at k19;refine hK _ _ (.inr (C4.out.below k19.below)) ?_;clear hK K
    try refine tP_ ?_
    refine plan_last (by rfl) (fun K hK=>step_add rowS encV_len encV_one k19 (rdV_one k19.p1 rfl) (by rfl) (by rfl) (by rfl) (by rfl) (show raws.length+1<=maxLen by rw[RL.out];unfold maxLen;omega) (show (raws.length+1) * 24<=140737488355328 by rw[RL.out];omega) (N:=rs.length+1) (show rs.length+1=raws.length+1 by rw[RL.out]) (fun y20 cap20 v20 k20=>?_))
    refine hK _ _ (.inr (C4.out.below k20.below)) ?_;clear hK K
    try refine tP_ ?_
    repeat (first|refine tC_ ?_|refine tB_ ?_)
    obtain⟨⟨u,cu⟩,fu,hN⟩:=FIN.out _ _ _ _ ((k20.p2).p1);refine plan_last (by rfl) (fun K hK=>?_);go_simp;refine hK _ _ (.inl rfl) ?_;clear hK K
    try refine tP_ ?_
    refine plan_done ?_
    go_wp2_with fail
    go_meet
    exact hN
   refine plan_last (by rfl) (fun K hK=>?_);have k21:=(k13).alloc #[.slice (some ⟨V.heap.size,0,none⟩) 0 0] 23
   try simp only[World.size_alloc]at k21
   go_simp;refine hK _ _ (.inr (C4.out.below k21.below)) ?_;clear hK K
   try refine tP_ ?_
   refine plan_last (by rfl) (fun K hK=>?_);have k22:=((k21).alloc #[] 23).empty (flatR_frame encV) 1
   try simp only[World.size_alloc]at k22
   go_simp;refine hK _ _ (.inr (C4.out.below k22.below)) ?_;clear hK K
   try refine tP_ ?_
   refine plan_last (by rfl) (fun K hK=>step_add rowS encV_len encV_one k22 (R4.out _ k22.below) (by rfl) (by rfl) (by rfl) (by rfl) (by rw[List.length_nil,RL.out];unfold maxLen;omega) (by rw[List.length_nil,RL.out];omega) (N:=rs.length) (by rw[List.length_nil,RL.out];omega) (fun y23 cap23 v23 k23=>?_));rw[List.nil_append]at k23;refine hK _ _ (.inr (C4.out.below k23.below)) ?_;clear hK K
   try refine tP_ ?_
   refine plan_last (by rfl) (fun K hK=>step_add rowS encV_len encV_one k23 (rdV_one k23.p1 rfl) (by rfl) (by rfl) (by rfl) (by rfl) (show raws.length+1<=maxLen by rw[RL.out];unfold maxLen;omega) (show (raws.length+1) * 24<=140737488355328 by rw[RL.out];omega) (N:=rs.length+1) (show rs.length+1=raws.length+1 by rw[RL.out]) (fun y24 cap24 v24 k24=>?_))
   refine hK _ _ (.inr (C4.out.below k24.below)) ?_;clear hK K
   try refine tP_ ?_
   repeat (first|refine tC_ ?_|refine tB_ ?_)
   obtain⟨⟨u,cu⟩,fu,hN⟩:=FIN.out _ _ _ _ ((k24.p2).p1);refine plan_last (by rfl) (fun K hK=>?_);go_simp;refine hK _ _ (.inl rfl) ?_;clear hK K
   try refine tP_ ?_
   refine plan_done ?_
   go_wp2_with fail
   go_meet
   exact hN
  case rest=>
   have H8:=hd_ hcut;go_wp2;go_ret;rw[E.out];exact⟨rfl,(H8.out.p2.drop.p2.p4.p4.p4.p3).unlive⟩
end
section
variable {B:Nat} {w0 w:World} {l:List Ch} {p:Nat}
theorem linkV_at (w:World) {a b:Int} (h:isNode a/\isNode b) {q:Nat} (hq:a * 5+b=q):Calls Tryz.prog 67 #[iv a,iv b] w fun e w'=>e=.returned (iv (q:Int))/\w'=w:=
 (spLinkN_at w ⟨h.1.1,h.1.2,h.2.1,h.2.2⟩ hq).mono fun _ _ h=>⟨h.1,h.2.symm⟩
theorem spLink1_at {n:Nt} (h:M B w0 w (liveC p n::l)) (hs:Sized n) {a b:Int} (ha:isNode a) (hb:isNode b) (u:Bool):
  Calls Tryz.prog 309 #[ptrV p,iv a,iv b,.bool u] w fun r w'=>r=.returned (.bool (linkN n a b u).isSome)/\M B w0 w' (liveC p ((linkN n a b u).getD n)::l):=by
 have HL:=hd_ h;obtain⟨q,hq⟩:∃q:Nat,a * 5+b=q:=⟨(a * 5+b).toNat,by unfold isNode at ha hb;omega⟩
 obtain⟨r,hr⟩:∃r:Nat,b * 5+a=r:=⟨(b * 5+a).toNat,by unfold isNode at ha hb;omega⟩
 have q0:(0:Int)<=(q:Int):=o_;have q1:(q:Int)<25:=by unfold isNode at ha hb;omega
 have r0:(0:Int)<=(r:Int):=o_;have r1:(r:Int)<25:=by unfold isNode at ha hb;omega
 have K1:=hd_ (fun W=>linkV_at W ⟨ha,hb⟩ hq);have K2:=hd_ (fun W=>linkV_at W ⟨hb,ha⟩ hr);have WH:=hd_ (link_get hs.links ha hb hq)
 by_cases hab:a=b
 case pos=>
  have E:=hd_ (show linkN n a b u=none by unfold linkN;rw[if_pos (.inl hab)]);have gab:(a==b)=true:=by simpa using hab
  clear hab h hs ha hb hq hr K1 K2 WH q0 q1 r0 r1;unfold ptrV;go_enter Tryz.func309,Tryz.ntmps309;go_wp2;refine wp_region_plan 99 (.tk 0 11 (.take 14 (.alt 11 (.tk 12 2 (.tk 15 2 .done)) .nomore))) (fun w'=>True) (by kernel_rfl) (by kernel_rfl) (fun _ _ _ _ _ h=>h) trivial ?_
  repeat (first|refine tC_ ?_|refine tB_ ?_)
  refine plan_last (by rfl) (fun K' hK=>?_);go_simp;refine hK _ _ (.inr trivial) ?_;clear hK K'
  try refine tP_ ?_
  repeat (first|refine tC_ ?_|refine tB_ ?_)
  refine plan_done ?_;have H9:=hd_ HL.out.drew;go_wp2;go_ret;rw[E.out];exact⟨rfl,H9.out⟩
 have gab:(a==b)=false:=by simpa using hab
 obtain⟨ns,ls,ws,ps⟩:=n;obtain⟨hs1,hs2,hs3,hs4⟩:=hs;simp only at hs1 hs2 hs3 hs4 WH;obtain⟨x1,c1,x2,c2,x3,c3,x4,c4,h1⟩:=h.live;simp only at h1;rw[hs2]at h1;obtain⟨f2,hf2⟩:=h1.p2.linksRd;obtain⟨g2,rfl,_,lk⟩:=link_at hf2 WH.out;obtain⟨v,hv⟩:=nm_ (whole ⟨ns,ls,ws,ps⟩ a b);rw[<-hv]at lk;have SE:=hd_ (show linkN ⟨ns,ls,ws,ps⟩ a b u=if v=u then none else some ⟨ns,(ls.set q u).set r u,ws,ps⟩ by
    unfold linkN
    rw[<-hv,show (a * 5+b).toNat=q by omega,show (b * 5+a).toNat=r by omega]
    by_cases z:v=u
    · rw[if_pos (.inr z),if_pos z]
    · rw[if_neg (fun y=>y.elim hab z),if_neg z])
 have H1:=hd_ (show M B w0 w (linksC (.slice (some ⟨g2,0,none⟩) 25 c2) ls::boxC p 289 #[.slice x1 ns.length c1,.slice (some ⟨g2,0,none⟩) 25 c2,.slice x3 ws.length c3,.slice x4 ps.length c4]::nodesC (.slice x1 ns.length c1) ns::wordsC (.slice x3 ws.length c3) ws::pastC (.slice x4 ps.length c4) ps::l)from h1.p2)
 have S0:Hid (Cells w (b4L p (.slice x1 ns.length c1) (.slice (some ⟨g2,0,none⟩) 25 c2) (.slice x3 ws.length c3) (.slice x4 ps.length c4)++[(⟨g2,q,none⟩,.bool v)])):=hd_ (by
    obtain⟨a0,a1,a2,a3⟩:=h1.cells4
    exact⟨a0,a1,a2,a3,lk,trivial⟩)
 have CC:∀(w':World) (ls':List Bool),M B w0 w' (linksC (.slice (some ⟨g2,0,none⟩) 25 c2) ls'::boxC p 289 #[.slice x1 ns.length c1,.slice (some ⟨g2,0,none⟩) 25 c2,.slice x3 ws.length c3,.slice x4 ps.length c4]::nodesC (.slice x1 ns.length c1) ns::wordsC (.slice x3 ws.length c3) ws::pastC (.slice x4 ps.length c4) ps::l)->Cells w' (b4L p (.slice x1 ns.length c1) (.slice (some ⟨g2,0,none⟩) 25 c2) (.slice x3 ws.length c3) (.slice x4 ps.length c4)):=fun w' ls' h=>by
  obtain⟨a0,a1,a2,a3⟩:=h.p1.cells4;exact⟨a0,a1,a2,a3,trivial⟩
 have LL:=hd_ hs2;obtain⟨gu,hgu⟩:=nm_ (v==u);have GU:=hgu.symm;clear hgu;clear h h1 hf2 lk hv hs1 hs2 hs3 hs4 ha hb hq hr hab WH;have S1:=hd_ (S0.out.below (Below.drew (Below.refl _ _)));have H2:=hd_ H1.out.drew;obtain⟨W,hW⟩:=nm_ w.drew;rw[<-hW]at S1 H2;have EW:=hd_ hW;clear hW;unfold ptrV;go_enter Tryz.func309,Tryz.ntmps309;go_wp2
 refine wp_region_plan 99 (.tk 0 11 (.take 14 (.alt 11 (.tk 12 2 (.tk 15 2 .done)) .nomore))) (fun w'=>Cells w' (b4L p (.slice x1 ns.length c1) (.slice (some ⟨g2,0,none⟩) 25 c2) (.slice x3 ws.length c3) (.slice x4 ps.length c4)++[(⟨g2,q,none⟩,.bool v)])) (by kernel_rfl) (by kernel_rfl) (fun _ _ _ _ _ h=>h) (S0.out.below (Below.drew (Below.refl _ _))) ?_;rw[<-EW.out]
 repeat (first|refine tC_ ?_|refine tB_ ?_)
 refine plan_last (by rfl) (fun K' hK=>?_);go_simp;refine (K1.out W).mono ?_;rintro z w5 ⟨rfl,e5⟩;rw[e5];clear e5 w5;refine hK _ _ (.inr S1.out) ?_;clear hK K'
 try refine tP_ ?_
 repeat (first|refine tC_ ?_|refine tB_ ?_)
 refine plan_done ?_;cases gu
 case true=>
  have E:=hd_ (SE.out.trans (if_pos (by simpa using GU)));clear GU;go_wp2;go_ret;rw[E.out];exact⟨rfl,(H2.out.p2.p2).unlive⟩
 have E:=hd_ (SE.out.trans (if_neg (by simpa using GU)));clear GU S1 S0 HL;have S5:=hd_ (CC _ _ H2.out.drew);obtain⟨⟨z5,cz5⟩,fz5,h5⟩:=H2.out.drew.setEl (i:=q) (by rw[LL.out];omega) u (u:=.bool u) rfl;obtain⟨V5,hV⟩:=nm_ W.drew;rw[<-hV]at S5 cz5 fz5 h5;have EV5:=hd_ hV;have H3:=hd_ h5;clear hV h5;go_wp2
 refine wp_region_plan 10 (.tk 0 7 (.take 8 (.alt 7 (.take 9 (.alt 10 .done .nomore)) .nomore))) (fun w'=>Cells w' (b4L p (.slice x1 ns.length c1) (.slice (some ⟨g2,0,none⟩) 25 c2) (.slice x3 ws.length c3) (.slice x4 ps.length c4))) (by kernel_rfl) (by kernel_rfl) (fun _ _ _ _ _ h=>h) (by rw[<-EV5.out];exact S5.out) ?_;rw[<-EV5.out]
 repeat (first|refine tC_ ?_|refine tB_ ?_)
 refine plan_last (by rfl) (fun K' hK=>?_);go_simp;refine (K1.out V5).mono ?_;rintro z w5 ⟨rfl,e5⟩;rw[e5];clear e5 w5;refine hK _ _ (.inr S5.out) ?_;clear hK K'
 try refine tP_ ?_
 repeat (first|refine tC_ ?_|refine tB_ ?_)
 refine plan_last (by rfl) (fun K hK=>?_);go_simp;refine hK _ _ (.inl rfl) ?_;clear hK K
 try refine tP_ ?_
 refine plan_done ?_;obtain⟨U5,hU⟩:=nm_ (V5.setCell ⟨g2,q,none⟩ (.bool u));rw[<-hU]at H3 ⊢;clear hU cz5 fz5 S5 EV5;have S6:=hd_ (CC _ _ H3.out.drew);obtain⟨⟨z6,cz6⟩,fz6,h6⟩:=H3.out.drew.setEl (i:=r) (by rw[List.length_set,LL.out];omega) u (u:=.bool u) rfl;obtain⟨V6,hV⟩:=nm_ U5.drew;rw[<-hV]at S6 cz6 fz6 h6;have EV6:=hd_ hV;have H4:=hd_ h6;clear hV h6;go_wp2
 refine wp_region_plan 10 (.tk 0 7 (.take 8 (.alt 7 (.take 9 (.alt 10 .done .nomore)) .nomore))) (fun w'=>Cells w' (b4L p (.slice x1 ns.length c1) (.slice (some ⟨g2,0,none⟩) 25 c2) (.slice x3 ws.length c3) (.slice x4 ps.length c4))) (by kernel_rfl) (by kernel_rfl) (fun _ _ _ _ _ h=>h) (by rw[<-EV6.out];exact S6.out) ?_;rw[<-EV6.out]
 repeat (first|refine tC_ ?_|refine tB_ ?_)
 refine plan_last (by rfl) (fun K' hK=>?_);go_simp;refine (K2.out V6).mono ?_;rintro z w5 ⟨rfl,e5⟩;rw[e5];clear e5 w5;refine hK _ _ (.inr S6.out) ?_;clear hK K'
 try refine tP_ ?_
 repeat (first|refine tC_ ?_|refine tB_ ?_)
 refine plan_last (by rfl) (fun K hK=>?_);go_simp;refine hK _ _ (.inl rfl) ?_;clear hK K
 try refine tP_ ?_
 refine plan_done ?_;obtain⟨U6,hU⟩:=nm_ (V6.setCell ⟨g2,r,none⟩ (.bool u));rw[<-hU]at H4 ⊢;clear hU cz6 fz6 S6 EV6;go_wp2;go_ret;rw[E.out];exact⟨rfl,(H4.out.p2.p2).unlive⟩
end
section
variable {B:Nat} {w0 w:World} {l:List Ch} {p:Nat}
theorem counts_of {n:Nt} (ok:NetOk n) {i:Nat} (hi:i<5):∃b,Counts n i b:=by
 have hn:isNode (i:Int):=by unfold isNode;omega
 obtain⟨b1,b2⟩:=ok.born _ hn;have P:=ok.pasts _ hn;obtain⟨e,he,hb,hm⟩:=ok.own _ hn;have hr:=P.len;refine⟨(nodeAt n (i:Int)).born.toNat,ok_sized ok,hi,o_,o_,?_,known_len (ok.known _ hn),e,he,?_⟩
 ·have hf:(pastAt n (i:Int) ((nodeAt n (i:Int)).born.toNat:Int)) ∈ rowsAt n (i:Int):=by
   unfold pastAt;rw[Int.toNat_natCast,List.getD_eq_getElem?_getD,List.getElem?_eq_getElem o_];exact List.getElem_mem _
  exact P.few _ hf
 ·have hf:(pastAt n (i:Int) (nodeAt n (i:Int)).born).length<=100:=by
   apply P.few;unfold pastAt;rw[List.getD_eq_getElem?_getD,List.getElem?_eq_getElem o_];exact List.getElem_mem _
  omega
theorem up_max {n:Nt} (ok:NetOk n) {i:Int} (hi:isNode i):(nodeAt n i).up<=4:=by
 by_cases h:i=0
 ·have:=((ok.way i hi).root h).2;omega
 ·exact ((ok.way i hi).up h).1.2
def AnsD (B:Nat) (w0:World) (l:List Ch) (p:Nat) (o:Option Nt) (r:Ending) (w':World):Prop:=r=.returned (.bool o.isSome)/\∃n',(∀m,o=some m->n'=m)/\M B w0 w' (liveC p n'::l)
theorem ansD_opt {o:Option Nt} {n:Nt} {r:Ending} {w':World} (h:r=.returned (.bool o.isSome)/\M B w0 w' (liveC p (o.getD n)::l)):AnsD B w0 l p o r w':=⟨h.1,_,fun m hm=>by rw[hm];rfl,h.2⟩
theorem ansD_pair {y:Nt × Bool} {r:Ending} {w':World} (h:r=.returned (.bool y.2)/\M B w0 w' (liveC p y.1::l)):AnsD B w0 l p (someIf y) r w':=by
 obtain⟨m,b⟩:=y;refine⟨?_,m,fun q hq=>?_,h.2⟩
 ·rw[h.1];cases b<;>rfl
 ·cases b
  ·cases hq
  ·exact Option.some.inj hq
def nodeN (n:Nt) (d:De):Option Nt:=
 if d.kind=1 then countN n d.a d.b
 else if d.kind=2 then someIf (helloN n d.a)
 else if d.kind=3 then someIf (tellN n d.a)
 else if d.kind=7 then crashN n d.a
 else if d.kind=9\/d.kind=10 then (if isNode d.b then linkN n d.a d.b (decide (d.kind=10))else none)
 else none
theorem spDeedNode_at {n:Nt} (h:M B w0 w (liveC p n::l)) (ok:NetOk n) {i:Nat} (hi:i<5) (k b:Int):
  Calls Tryz.prog 293 #[ptrV p,.agg #[iv k,iv (i:Int),iv b]] w (AnsD B w0 l p (nodeN n ⟨k,(i:Int),b⟩)):=by
 have h1:=h.alloc #[iv k,iv (i:Int),iv b] 292;obtain⟨pd,hpd⟩:∃q,q=w.heap.size:=⟨_,rfl⟩
 obtain⟨W0,hW0⟩:∃W,W=w.alloc (.cells #[iv k,iv (i:Int),iv b] 292):=⟨_,rfl⟩
 rw[<-hW0, <-hpd]at h1;have H:=hd_ h1.p1;have OK:=hd_ ok;have hin:isNode (i:Int):=by unfold isNode;omega
 clear h h1 ok;go_enter Tryz.func293,Tryz.ntmps293;go_upto_region 1 with fail
 rw[<-hW0, <-hpd];clear hW0 hpd;obtain⟨d0,d1,d2⟩:=H.out.p1.cells3
 by_cases hk1:k=1
 case pos=>
  subst hk1;obtain⟨bq,hc⟩:=counts_of OK.out hi;have KS:=hd_ ((spNCount_at H.out hc b).mono fun _ _=>ansD_opt);have E:=hd_ (show nodeN n ⟨1,(i:Int),b⟩=countN n (i:Int) b from rfl);clear hin
  go_wp2_with fail
  refine KS.out.mono ?_;rintro r w2 ⟨rfl,n',hn',h2⟩;have H2:=hd_ h2;have HN:=hd_ hn';rw[<-E.out]at HN ⊢;clear h2 hn' KS H E;go_wp2;go_ret;exact⟨rfl,n',HN.out,H2.out.p1.drop⟩
 have g1:(k==1)=false:=by simpa using hk1
 by_cases hk2:k=2
 case pos=>
  subst hk2;have KS:=hd_ ((spHello_at H.out (ok_sized OK.out) hi).mono fun _ _=>ansD_pair);have E:=hd_ (show nodeN n ⟨2,(i:Int),b⟩=someIf (helloN n (i:Int))from rfl);clear hin
  go_wp2_with fail
  refine KS.out.mono ?_;rintro r w2 ⟨rfl,n',hn',h2⟩;have H2:=hd_ h2;have HN:=hd_ hn';rw[<-E.out]at HN ⊢;clear h2 hn' KS H E;go_wp2;go_ret;exact⟨rfl,n',HN.out,H2.out.p1.drop⟩
 have g2:(k==2)=false:=by simpa using hk2
 by_cases hk3:k=3
 case pos=>
  subst hk3;have KS:=hd_ ((spTell_at H.out (ok_sized OK.out) hi (up_max OK.out hin) (by have:=known_len (OK.out.known _ hin);omega) (known_okS (OK.out.known _ hin))).mono fun _ _=>ansD_pair);have E:=hd_ (show nodeN n ⟨3,(i:Int),b⟩=someIf (tellN n (i:Int))from rfl);clear hin
  go_wp2_with fail
  refine KS.out.mono ?_;rintro r w2 ⟨rfl,n',hn',h2⟩;have H2:=hd_ h2;have HN:=hd_ hn';rw[<-E.out]at HN ⊢;clear h2 hn' KS H E;go_wp2;go_ret;exact⟨rfl,n',HN.out,H2.out.p1.drop⟩
 have g3:(k==3)=false:=by simpa using hk3
 by_cases hk7:k=7
 case pos=>
  subst hk7;have KS:=hd_ ((spCrash_at H.out (ok_sized OK.out) hi (by have:=OK.out.born _ hin;omega) (by have:=(OK.out.pasts _ hin).len;have:=OK.out.born _ hin;omega)).mono fun _ _=>ansD_opt);have E:=hd_ (show nodeN n ⟨7,(i:Int),b⟩=crashN n (i:Int)from rfl);clear hin
  go_wp2_with fail
  refine KS.out.mono ?_;rintro r w2 ⟨rfl,n',hn',h2⟩;have H2:=hd_ h2;have HN:=hd_ hn';rw[<-E.out]at HN ⊢;clear h2 hn' KS H E;go_wp2;go_ret;exact⟨rfl,n',HN.out,H2.out.p1.drop⟩
 have g7:(k==7)=false:=by simpa using hk7
 by_cases h9:k=9\/k=10
 case neg=>
  have g9:(k==9)=false:=by simp;omega
  have g10:(k==10)=false:=by simp;omega
  have E:=hd_ (show nodeN n ⟨k,(i:Int),b⟩=none by unfold nodeN;simp only[if_neg hk1,if_neg hk2,if_neg hk3,if_neg hk7,if_neg h9]);clear hk1 hk2 hk3 hk7 h9;go_wp2;go_ret;rw[E.out];exact⟨rfl,n,(fun m hm=>by cases hm),H.out.p1.drop⟩
 obtain⟨ib,hib⟩:∃q,q=in6 b 0 4:=⟨_,rfl⟩
 have KI:=hd_ (fun W=>in6_is hib W);obtain⟨u,hu⟩:∃u,u=(k==10):=⟨_,rfl⟩
 have E0:=hd_ (show nodeN n ⟨k,(i:Int),b⟩=if isNode b then linkN n (i:Int) b u else none by
    unfold nodeN
    simp only[if_neg hk1,if_neg hk2,if_neg hk3,if_neg hk7,if_pos h9]
    rw[hu]
    rfl)
 have gk:(k==9)= !u:=by
  rw[hu];rcases h9 with rfl|rfl<;>rfl
 have gu:=hu.symm;have KL:=hd_ (fun q:isNode b=>spLink1_at H.out (ok_sized OK.out) hin q u);have IB:=hd_ (show ib=true↔isNode b by rw[hib,in6_iff];rfl);clear hk1 hk2 hk3 hk7 h9 hu hib hin;cases ib
 case false=>
  have E:=hd_ (E0.out.trans (if_neg (fun q=>by have:=IB.out.2 q;cases this)));cases u
  all_goals
   go_wp2_with (refine (KI.out _).mono ?_;rintro r w5 ⟨rfl,e5⟩;rw[e5];clear e5 w5)
   go_ret;rw[E.out];exact⟨rfl,n,(fun m hm=>by cases hm),H.out.p1.drop⟩
 have E:=hd_ (E0.out.trans (if_pos (IB.out.1 rfl)));have KK:=hd_ (KL.out (IB.out.1 rfl));clear KL;cases u
 all_goals
  go_wp2_with (first|(refine (KI.out _).mono ?_;rintro r w5 ⟨rfl,e5⟩;rw[e5];clear e5 w5)|(refine KK.out.mono ?_;rintro r w5 ⟨rfl,h5⟩;have H5:=hd_ h5;clear h5 KK d0 d1 d2))
  go_ret;rw[E.out];exact ansD_opt ⟨rfl,H5.out.p1.drop⟩
end
end N
end Go.Proofs.YtcblbdpdbggkbaaGreat
namespace Go.Proofs.YtcblbdpdbggkbaaGreat.N
open Go.RowKit Go.Sort
theorem count_put {n x:Nt} {i t:Int} (e:countN n i t=some x):((0<=t/\t<=63)/\(pastAt n i (nodeAt n i).born).length<100)/\
  x=put n i { nodeAt n i with known:=putE (nodeAt n i).known ⟨i,(nodeAt n i).born,((findE (nodeAt n i).known i).getD ⟨0,0,0,noSm⟩).num+1,addS ((findE (nodeAt n i).known i).getD ⟨0,0,0,noSm⟩).s t⟩ } ((rowsAt n i).set (nodeAt n i).born.toNat (pastAt n i (nodeAt n i).born++[t])):=by
 unfold countN at e;simp only at e
 split at e
 ·rename_i hc
  exact⟨hc,(Option.some.inj e).symm⟩
 ·cases e
theorem crash_put {n x:Nt} {i:Int} (e:crashN n i=some x):(nodeAt n i).born+1<=20/\
  x=put n i { l21Born i ((nodeAt n i).born+1)with beacon:=if i=0 then (nodeAt n i).beacon else 0 } (rowsAt n i++[[]]):=by
 unfold crashN at e;simp only at e
 split at e
 ·rename_i hc
  exact⟨hc,(Option.some.inj e).symm⟩
 ·cases e
end Go.Proofs.YtcblbdpdbggkbaaGreat.N
