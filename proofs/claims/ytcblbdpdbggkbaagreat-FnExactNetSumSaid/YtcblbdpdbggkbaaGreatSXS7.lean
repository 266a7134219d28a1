/-
  What the laws of XS need of the texts before it, part 7.
-/
import Derived.BigQuiet
import Derived.Deep.AppendLies
import Derived.Deep.MidRow
import Derived.Deep.QuietTactic
import Derived.Deep.RegionHeld3
import Derived.Deep.WholeRow
import Derived.DeepKeys5
import Derived.IntWalk
import Derived.KernelRfl
import Derived.Lib.Hide
import Derived.Lib.QuietBelow
import Derived.Maps.AppendAt
import Derived.Maps.Keyed
import Derived.OpenShut
import Derived.OrdersHeld
import Derived.RegionTactic
import Derived.StillTail
import Derived.Test.YtcblbdpdbggkbaaGreatRows
import Derived.WalkKit
import Derived.WalkLawsBesides
import Derived.WalkSpells
import Derived.Test.YtcblbdpdbggkbaaGreatSXS2
set_option maxRecDepth 100000
set_option maxHeartbeats 16000000
set_option linter.unusedVariables false
set_option linter.unusedSectionVars false
set_option linter.unusedSimpArgs false
namespace Go.Proofs.YtcblbdpdbggkbaaGreat
open _root_.Go.Proofs.Tryz
theorem zBE {P:Prop} (h:P:=by
 rw[List.range_succ,List.map_append,List.flatten_append,List.length_append,im (fun i hi=>hl i o_)];simp[hl m o_,Nat.succ_mul]):P:=h
theorem zB4 {P:Prop} (h:P:=by
 have:i * size+size<=xs.length * size:=by rw[<-Nat.succ_mul];exact Nat.mul_le_mul_right _ hi
 omega):P:=h
end Go.Proofs.YtcblbdpdbggkbaaGreat
namespace Go.Proofs.YtcblbdpdbggkbaaGreat
open _root_.Go.Proofs.Tryz
open Go.RowKit Go.Sort
abbrev Rep (α:Type):=World->List Value->α->List Nat->Prop
structure Rep.Frame {α:Type} (R:Rep α):Prop where
 lt:∀{w cs a fp},R w cs a fp->∀b ∈ fp,b<w.heap.size
 keep:∀{w w' cs a fp},R w cs a fp->(∀b ∈ fp,w'.heap[b]? =w.heap[b]?)->w.heap.size<=w'.heap.size->R w' cs a fp
theorem Rep.Frame.below {α:Type} {R:Rep α} (F:R.Frame) {w w':World} {cs:List Value} {a:α} {fp:List Nat} (h:R w cs a fp) {B:Nat} (hb:Below B w w') (hB:w.heap.size<=B):R w' cs a fp:=
 F.keep h (fun b hm=>hb.block b (Nat.lt_of_lt_of_le (F.lt h b hm) hB)) hb.size
def wC:Rep Int:=fun _ cs z fp=>cs=[.int .i64 z]/\fp=[]
def sS {α β:Type} (A:Rep α) (B:Rep β):Rep (α × β):=fun w cs p fp=>∃c1 c2 f1 f2,cs=c1++c2/\fp=f1++f2/\A w c1 p.1 f1/\B w c2 p.2 f2
def aIO {α β:Type} (A:Rep α) (f:β->α):Rep β:=fun w cs b fp=>A w cs (f b) fp
def nQ {α:Type} (e:TypeId) (size:Nat) (A:Rep α):Rep (List α):=fun w cs xs fp=>
 ∃(v:Value) (c:Nat->List Value) (f:Nat->List Nat),cs=[v]/\w.ownsRow 0 e size v xs.length ((List.range xs.length).map c).flatten/\(∀i,i<xs.length->(c i).length=size)/\(∀i a,xs[i]? =some a->A w (c i) a (f i))/\
  fp=v.ownBlock.toList++((List.range xs.length).map f).flatten
theorem fA:wC.Frame:=⟨fun h b hm=>absurd hm (by rw[h.2];exact List.not_mem_nil),fun h _ _=>h⟩
theorem dM {α β:Type} {A:Rep α} {B:Rep β} (FA:A.Frame) (FB:B.Frame):(sS A B).Frame:=by
 refine⟨?_,?_⟩
 ·rintro w cs a fp ⟨c1,c2,f1,f2,rfl,rfl,h1,h2⟩ b hm
  rcases List.mem_append.1 hm with hm|hm
  ·exact FA.lt h1 b hm
  ·exact FB.lt h2 b hm
 ·rintro w w' cs a fp ⟨c1,c2,f1,f2,rfl,rfl,h1,h2⟩ hk hs
  exact⟨c1,c2,f1,f2,rfl,rfl,FA.keep h1 (fun b hm=>hk b (List.mem_append_left _ hm)) hs,FB.keep h2 (fun b hm=>hk b (List.mem_append_right _ hm)) hs⟩
theorem qS {α β:Type} {A:Rep α} (FA:A.Frame) (f:β->α):(aIO A f).Frame:=⟨fun h=>FA.lt h,fun h hk hs=>FA.keep h hk hs⟩
theorem uY {w w':World} {B:Nat} {e:TypeId} {size n:Nat} {v:Value} {xs:List Value} (h:w.ownsRow B e size v n xs) (hk:∀g,v.ownBlock=some g->w'.heap[g]? =w.heap[g]?):w'.ownsRow B e size v n xs:=by
 refine⟨h.1,?_⟩;rcases h.2 with hn|⟨g,cap,cur,rfl,hb,hg,r⟩
 ·exact .inl hn
 ·exact .inr ⟨g,cap,cur,rfl,hb,(hk g rfl).trans hg,r⟩
theorem yS {n:Nat} {f:Nat->List Nat} {b:Nat} (h:b ∈ ((List.range n).map f).flatten):∃i,i<n/\b ∈ f i:=by
 obtain⟨l,hl,hb⟩:=List.mem_flatten.1 h;obtain⟨i,hi,rfl⟩:=List.mem_map.1 hl;exact⟨i,List.mem_range.1 hi,hb⟩
theorem nP {n:Nat} {f:Nat->List Nat} {b i:Nat} (hi:i<n) (h:b ∈ f i):b ∈ ((List.range n).map f).flatten:=
 List.mem_flatten.2 ⟨f i,List.mem_map.2 ⟨i,List.mem_range.2 hi,rfl⟩,h⟩
theorem aN {α:Type} {A:Rep α} (FA:A.Frame) (e:TypeId) (size:Nat):(nQ e size A).Frame:=by
 refine⟨?_,?_⟩
 ·rintro w cs xs fp ⟨v,c,f,rfl,ho,hl,ha,rfl⟩ b hm
  rcases List.mem_append.1 hm with hm|hm
  ·exact (ho.lt b (by cases hv:v.ownBlock<;>simp[hv]at hm ⊢;exact hm.symm)).2
  ·obtain⟨i,hi,hb⟩:=yS hm
   exact FA.lt (ha i _ (List.getElem?_eq_getElem hi)) b hb
 ·rintro w w' cs xs fp ⟨v,c,f,rfl,ho,hl,ha,rfl⟩ hk hs
  refine⟨v,c,f,rfl,uY ho (fun g hg=>hk g (List.mem_append_left _ (by simp[hg]))),hl,fun i a hi=>FA.keep (ha i a hi) (fun b hm=>hk b (List.mem_append_right _ (nP ?_ hm))) hs,rfl⟩;exact (List.getElem?_eq_some_iff.1 hi).1
theorem qT {c:Nat->List Value} {size n i k:Nat} (hl:∀i,i<n->(c i).length=size) (hi:i<n) (hk:k<size):((List.range n).map c).flatten[i * size+k]? =(c i)[k]? :=by
 induction n with
 |zero=>omega
 |succ n ih=>
  have hn:((List.range n).map c).flatten.length=n * size:=by
   clear ih hi
   induction n with
   |zero=>simp
   |succ m im=>
    exact zBE
  rw[List.range_succ,List.map_append,List.flatten_append]
  by_cases h:i<n
  ·rw[List.getElem?_append_left (by rw[hn];(have:i * size+size<=n * size:=by rw[<-Nat.succ_mul];exact Nat.mul_le_mul_right _ h);omega)]
   exact ih (fun i hi=>hl i o_) h
  ·obtain rfl:i=n:=o_
   rw[List.getElem?_append_right (by rw[hn];omega),hn,Nat.add_sub_cancel_left];simp
theorem sI {c:Nat->List Value} {size n:Nat} (hl:∀i,i<n->(c i).length=size):((List.range n).map c).flatten.length=n * size:=by
 induction n with
 |zero=>simp
 |succ m im=>
  exact zBE
def zG {α:Type} (enc:α->List Value):Rep α:=fun _ cs a fp=>cs=enc a/\fp=[]
theorem aO {α:Type} (enc:α->List Value):(zG enc).Frame:=⟨fun h b hm=>absurd hm (by rw[h.2];exact List.not_mem_nil),fun h _ _=>h⟩
theorem aAx {α:Type} (xs:List α) (enc:α->List Value) (c:Nat->List Value) (hc:∀i a,xs[i]? =some a->c i=enc a):((List.range xs.length).map c).flatten=xs.flatMap enc:=by
 have e:(List.range xs.length).map c=xs.map enc:=by
  apply List.ext_getElem?;intro i
  by_cases h:i<xs.length
  ·have hi:=List.getElem?_eq_getElem h
   simp[h,hc i _ hi]
  ·have h':xs.length<=i:=o_
   simp[h']
 rw[e,List.flatMap_def]
theorem aD2 {n:Nat}:((List.range n).map fun _=>([]:List Nat)).flatten=[]:=by
 induction n with
 |zero=>rfl
 |succ n ih=>rw[List.range_succ,List.map_append,List.flatten_append,ih];rfl
theorem aEl {β:Type} (l:List Nat) (g:Nat->β):(l.map fun i=>[g i]).flatten=l.map g:=by
 induction l with
 |nil=>rfl
 |cons a l ih=>simp[ih]
section
variable {α:Type} {enc:α->List Value} {w:World} {B size:Nat} {e:TypeId} {v:Value} {xs:List α}
theorem lV (h:w.ownsRow B e size v xs.length (xs.flatMap enc)) (hl:∀a,(enc a).length=size):nQ e size (zG enc) w [v] xs v.ownBlock.toList:=by
 refine⟨v,fun i=>(xs[i]?.map enc).getD [],fun _=>[],rfl,?_,fun i hi=>?_,fun i a hi=>?_,?_⟩
 ·rw[aAx xs enc _ (fun i a hi=>by simp[hi])]
  exact aM h (Nat.zero_le _)
 ·simp[List.getElem?_eq_getElem hi,hl]
 ·exact⟨by simp[hi],rfl⟩
 ·rw[aD2,List.append_nil]
theorem kG {cs:List Value} {fp:List Nat} (h:nQ e size (zG enc) w cs xs fp):∃v,cs=[v]/\w.ownsRow 0 e size v xs.length (xs.flatMap enc)/\fp=v.ownBlock.toList:=by
 obtain⟨v,c,f,rfl,ho,hl,ha,rfl⟩:=h;refine⟨v,rfl,?_,?_⟩
 ·rw[aAx xs enc c (fun i a hi=>(ha i a hi).1)]at ho
  exact ho
 ·have e:(List.range xs.length).map f=(List.range xs.length).map fun _=>[]:=List.map_congr_left fun i hi=>(ha i _ (List.getElem?_eq_getElem (List.mem_range.1 hi))).2
  rw[e,aD2,List.append_nil]
end
def aEv (z:Int):List Value:=[.int .i64 z]
def flR {α:Type} (e:TypeId) (size:Nat) (enc:α->List Value):Rep (List α):=fun w cs xs fp=>nQ e size (zG enc) w cs xs fp\/(xs=[]/\fp=[]/\∃b o,cs=[.slice (some ⟨b,o,none⟩) 0 0]/\b<w.heap.size)
theorem tF {α:Type} {e:TypeId} {size:Nat} {enc:α->List Value}:(flR e size enc).Frame:=
 ⟨fun h=>h.elim (fun h=>(aN (aO _) _ _).lt h) fun h b hm=>(by rw[h.2.1]at hm;cases hm),fun h hk hs=>h.elim (fun h=>.inl ((aN (aO _) _ _).keep h hk hs)) fun⟨h1,h2,b,o,h3,h4⟩=>.inr ⟨h1,h2,b,o,h3,Nat.lt_of_lt_of_le h4 hs⟩⟩
def sP:Rep (List Int):=flR 3 1 aEv
def oD:Rep (List (List Int)):=nQ 23 1 sP
theorem fG:sP.Frame:=tF
theorem cA:oD.Frame:=aN fG _ _
theorem bR {v:Value} {b:Nat} (h:b ∈ v.ownBlock.toList):v.ownBlock=some b:=by
 cases hv:v.ownBlock<;>simp[hv]at h ⊢
 exact h.symm
theorem gV (v:Value):v.ownBlock.toList.Nodup:=by cases v.ownBlock<;>simp
structure Rep.One {α:Type} (R:Rep α) (size:Nat):Prop where
 len:∀{w cs a fp},R w cs a fp->cs.length=size
 one:∀{w cs a fp},R w cs a fp->∀u ∈ cs,u.oneCell'=true
theorem aAv:wC.One 1:=⟨fun h=>by rw[h.1];rfl,fun h u hu=>by rw[h.1]at hu;rw[List.mem_singleton.1 hu];rfl⟩
theorem zP {α β:Type} {A:Rep α} {B:Rep β} {n m:Nat} (OA:A.One n) (OB:B.One m):(sS A B).One (n+m):=by
 refine⟨?_,?_⟩
 ·rintro w cs a fp ⟨c1,c2,f1,f2,rfl,rfl,h1,h2⟩
  rw[List.length_append,OA.len h1,OB.len h2]
 ·rintro w cs a fp ⟨c1,c2,f1,f2,rfl,rfl,h1,h2⟩ u hu
  rcases List.mem_append.1 hu with hu|hu
  ·exact OA.one h1 u hu
  ·exact OB.one h2 u hu
theorem aJC {α β:Type} {A:Rep α} {n:Nat} (OA:A.One n) (f:β->α):(aIO A f).One n:=⟨fun h=>OA.len h,fun h=>OA.one h⟩
theorem aEF {w:World} {B:Nat} {e:TypeId} {size n:Nat} {v:Value} {xs:List Value} (h:w.ownsRow B e size v n xs):v.oneCell'=true:=by
 rcases h.2 with ⟨rfl,_⟩|⟨g,cap,cur,rfl,_⟩<;>rfl
theorem zV {α:Type} (A:Rep α) (e:TypeId) (size:Nat):(nQ e size A).One 1:=by
 refine⟨?_,?_⟩
 ·rintro w cs xs fp ⟨v,c,f,rfl,_⟩;rfl
 ·rintro w cs xs fp ⟨v,c,f,rfl,ho,_⟩ u hu
  rw[List.mem_singleton.1 hu];exact aEF ho
theorem aP {α:Type} {A:Rep α} {e:TypeId} {size:Nat} {w:World} {v:Value} {xs:List α} {fp:List Nat} (h:nQ e size A w [v] xs fp):∃x c,v=.slice x xs.length c/\xs.length<=c/\c<=maxLen:=by
 obtain⟨v',c,f,ev,ho,_⟩:=h;cases ev;rcases ho.2 with ⟨rfl,h0⟩|⟨g,cap,cur,rfl,hb,hg,hn,hc,_⟩
 ·exact⟨none,0,by rw[h0],o_,Nat.zero_le _⟩
 ·exact⟨_,_,rfl,hn,hc⟩
theorem lC {α:Type} {enc:α->List Value} {e:TypeId} {size:Nat} {w:World} {v:Value} {xs:List α} {fp:List Nat} (h:flR e size enc w [v] xs fp):∃x c,v=.slice x xs.length c/\xs.length<=c/\c<=maxLen:=by
 rcases h with h|⟨rfl,_,b,o,e1,_⟩
 ·exact aP h
 ·exact⟨_,0,(List.cons.inj e1).1,Nat.le_refl _,Nat.zero_le _⟩
theorem yV {α:Type} {enc:α->List Value} {e:TypeId} {size:Nat}:(flR e size enc).One 1:=
 ⟨fun h=>h.elim (fun h=>(zV _ _ _).len h) fun⟨_,_,_,_,h,_⟩=>(by rw[h];rfl),fun h=>h.elim (fun h=>(zV _ _ _).one h) fun⟨_,_,_,_,h,_⟩ u hu=>(by rw[h]at hu;rw[List.mem_singleton.1 hu];rfl)⟩
def upd {β:Type} (f:Nat->β) (n:Nat) (x:β):Nat->β:=fun i=>if i=n then x else f i
theorem cM {β:Type} (f:Nat->β) (n:Nat) (x:β):upd f n x n=x:=if_pos rfl
theorem bC {β:Type} (f:Nat->β) {n i:Nat} (x:β) (h:i≠n):upd f n x i=f i:=if_neg h
structure Els {α:Type} (A:Rep α) (e:TypeId) (size:Nat) (w:World) (B:Nat) (v:Value) (xs:List α) (c:Nat->List Value) (f:Nat->List Nat):Prop where
 own:w.ownsRow B e size v xs.length ((List.range xs.length).map c).flatten
 len:∀i,i<xs.length->(c i).length=size
 one:∀i a,xs[i]? =some a->A w (c i) a (f i)
def fps (v:Value) (n:Nat) (f:Nat->List Nat):List Nat:=v.ownBlock.toList++((List.range n).map f).flatten
theorem oN {v:Value} {b n:Nat} {f:Nat->List Nat} (h:v.ownBlock=some b):b ∈ fps v n f:=List.mem_append_left _ (by simp[h])
theorem qY {v:Value} {b n i:Nat} {f:Nat->List Nat} (hi:i<n) (h:b ∈ f i):b ∈ fps v n f:=List.mem_append_right _ (nP hi h)
theorem tA {v:Value} {b n:Nat} {f:Nat->List Nat} (h:b ∈ fps v n f):v.ownBlock=some b\/∃i,i<n/\b ∈ f i:=by
 rcases List.mem_append.1 h with h|h
 ·exact .inl (bR h)
 ·exact .inr (yS h)
section
variable {α:Type} {A:Rep α} {e:TypeId} {size:Nat} {w:World} {B:Nat} {v:Value} {xs:List α} {c:Nat->List Value} {f:Nat->List Nat}
theorem Els.rep (h:Els A e size w B v xs c f):nQ e size A w [v] xs (fps v xs.length f):=⟨v,c,f,rfl,aM h.own (Nat.zero_le _),h.len,h.one,rfl⟩
theorem mB {cs:List Value} {fp:List Nat} (h:nQ e size A w cs xs fp):∃v c f,cs=[v]/\Els A e size w 0 v xs c f/\fp=fps v xs.length f:=by
 obtain⟨v,c,f,rfl,ho,hl,ha,rfl⟩:=h;exact⟨v,c,f,rfl,⟨ho,hl,ha⟩,rfl⟩
theorem Els.nil (w:World) (B:Nat) (c:Nat->List Value) (f:Nat->List Nat):Els A e size w B zn [] c f:=⟨World.ownsRow_nil w B e size,fun i hi=>absurd hi (Nat.not_lt_zero i),fun i a hi=>by simp at hi⟩
theorem aKp (n:Nat) (c:Nat->List Value) (cs:List Value):((List.range (n+1)).map (upd c n cs)).flatten=((List.range n).map c).flatten++cs:=by
 rw[List.range_succ,List.map_append,List.flatten_append];have e:(List.range n).map (upd c n cs)=(List.range n).map c:=List.map_congr_left fun i hi=>bC c cs (by have:=List.mem_range.1 hi;omega)
 rw[e];simp[cM]
theorem Els.snoc (h:Els A e size w B v xs c f) (FA:A.Frame) {w':World} {v':Value} {cs:List Value} {a:α} {fa:List Nat} (ho:w'.ownsRow B e size v' (xs.length+1) (((List.range xs.length).map c).flatten++cs)) (hc:cs.length=size)
  (hk:∀i,i<xs.length->∀b ∈ f i,w'.heap[b]? =w.heap[b]?) (hs:w.heap.size<=w'.heap.size) (ha:A w' cs a fa):Els A e size w' B v' (xs++[a]) (upd c xs.length cs) (upd f xs.length fa):=by
 have ln:(xs++[a]).length=xs.length+1:=by simp
 refine⟨by rw[ln,aKp];exact ho,fun i hi=>?_,fun i x hx=>?_⟩
 ·rw[ln]at hi
  by_cases q:i=xs.length
  ·rw[q,cM];exact hc
  ·rw[bC _ _ q];exact h.len i o_
 ·by_cases q:i=xs.length
  ·subst q
   rw[cM,cM];have:x=a:=by simp at hx;exact hx.symm
   rw[this];exact ha
  ·have hi:i<xs.length:=by have:=(List.getElem?_eq_some_iff.1 hx).1;simp at this;omega
   rw[bC _ _ q,bC _ _ q];rw[List.getElem?_append_left hi]at hx;exact FA.keep (h.one i x hx) (hk i hi) hs
theorem Els.cell (h:Els A e size w B v xs c f) {i k:Nat} (hi:i<xs.length) {z:Value} (hz:(c i)[k]? =some z):∃g cap,v=.slice (some ⟨g,0,none⟩) xs.length cap/\B<=g/\g<w.heap.size/\xs.length<=cap/\cap<=maxLen/\w.cell? ⟨g,i * size+k,none⟩=some z:=by
 have hk:k<size:=by have:=(List.getElem?_eq_some_iff.1 hz).1;rw[h.len i hi]at this;exact this
 rcases h.own.2 with ⟨rfl,h0⟩|⟨g,cap,cur,rfl,hb,hg,hn,hc,hs,ht⟩
 ·omega
 ·refine⟨g,cap,rfl,hb,(Array.getElem?_eq_some_iff.1 hg).1,hn,hc,?_⟩
  have lt:i * size+k<xs.length * size:=by
   exact zB4
  rw[World.ownsRow.cellAt h.own _ lt,qT h.len hi hk,hz]
theorem aFw {n i k:Nat} {u:Value} (hl:∀i,i<n->(c i).length=size) (hi:i<n) (hk:k<size):((List.range n).map c).flatten.set (i * size+k) u=((List.range n).map (upd c i ((c i).set k u))).flatten:=by
 have hl':∀j,j<n->(upd c i ((c i).set k u) j).length=size:=fun j hj=>by
  by_cases q:j=i
  ·rw[q,cM,List.length_set];exact hl i hi
  ·rw[bC _ _ q];exact hl j hj
 apply List.ext_getElem?;intro j
 by_cases hj:j<n * size
 ·have s0:0<size:=o_
  obtain⟨q,r,rfl,hr,hq⟩:∃q r,j=q * size+r/\r<size/\q<n:=⟨j / size,j % size,by rw[Nat.mul_comm];exact (Nat.div_add_mod j size).symm,Nat.mod_lt _ s0,(Nat.div_lt_iff_lt_mul s0).2 hj⟩
  rw[List.getElem?_set,qT hl' hq hr,sI hl]
  by_cases d:q=i
  ·subst d
   rw[cM,List.getElem?_set]
   by_cases d2:k=r
   ·rw[if_pos (by rw[d2]),if_pos (by rw[d2];exact hj),if_pos d2,if_pos (by rw[hl q hq];exact hk)]
   ·rw[if_neg (fun x=>d2 o_),if_neg d2,qT hl hq hr]
  ·rw[bC _ _ d,if_neg ?_,qT hl hq hr]
   intro x;apply d;have x1:(i * size+k) / size=i:=by rw[Nat.mul_comm,Nat.mul_add_div s0,Nat.div_eq_of_lt hk,Nat.add_zero]
   have x2:(q * size+r) / size=q:=by rw[Nat.mul_comm,Nat.mul_add_div s0,Nat.div_eq_of_lt hr,Nat.add_zero]
   rw[<-x1,x,x2]
 ·rw[List.getElem?_eq_none (by rw[List.length_set,sI hl];omega),List.getElem?_eq_none (by rw[sI hl'];omega)]
theorem Els.set {g cap:Nat} (h:Els A e size w B (.slice (some ⟨g,0,none⟩) xs.length cap) xs c f) (FA:A.Frame) {i k:Nat} (hi:i<xs.length) (hk:k<size) {u:Value} {a:α} {fa:List Nat}
  (off:∀j,j<xs.length->j≠i->g ∉ f j) (ha:A (w.setCell ⟨g,i * size+k,none⟩ u) ((c i).set k u) a fa):
  Els A e size (w.setCell ⟨g,i * size+k,none⟩ u) B (.slice (some ⟨g,0,none⟩) xs.length cap) (xs.set i a) (upd c i ((c i).set k u)) (upd f i fa):=by
 obtain⟨s1,s2⟩:=World.ownsRow.stored h.own (i * size+k) u;have ln:(xs.set i a).length=xs.length:=List.length_set;refine⟨?_,fun j hj=>?_,fun j x hx=>?_⟩
 ·rw[ln, <-aFw h.len hi hk];exact s1
 ·rw[ln]at hj
  by_cases q:j=i
  ·rw[q,cM,List.length_set];exact h.len i hi
  ·rw[bC _ _ q];exact h.len j hj
 ·by_cases q:j=i
  ·subst q
   rw[cM,cM];rw[List.getElem?_set_self hi]at hx;rw[<-Option.some.inj hx];exact ha
  ·rw[bC _ _ q,bC _ _ q]
   rw[List.getElem?_set_ne (fun z=>q z.symm)]at hx;have hj:=(List.getElem?_eq_some_iff.1 hx).1;exact FA.keep (h.one j x hx) (fun b hb=>s2.block b (FA.lt (h.one j x hx) b hb) (fun z=>off j hj q (by rw[<-Option.some.inj z];exact hb))) s2.size
end
section
variable {v:Value} {n:Nat} {f:Nat->List Nat}
theorem aG1:((List.range n).map f).flatten.Nodup↔(∀i,i<n->(f i).Nodup)/\∀i j,i<n->j<n->i≠j->∀b ∈ f i,b ∉ f j:=by
 induction n with
 |zero=>exact⟨fun _=>⟨fun i hi=>absurd hi (Nat.not_lt_zero i),fun i j hi=>absurd hi (Nat.not_lt_zero i)⟩,fun _=>by simp⟩
 |succ n ih=>
  rw[List.range_succ,List.map_append,List.flatten_append,List.nodup_append,ih];simp only[List.map_cons,List.map_nil,List.flatten_cons,List.flatten_nil,List.append_nil]
  constructor
  ·rintro⟨⟨h1,h2⟩,h3,h4⟩
   refine⟨fun i hi=>?_,fun i j hi hj ne b hb hb'=>?_⟩
   ·by_cases q:i=n
    ·rw[q];exact h3
    ·exact h1 i o_
   ·by_cases qi:i=n
    ·subst qi
     exact h4 b (nP (show j<i by omega) hb') b hb rfl
    ·by_cases qj:j=n
     ·subst qj
      exact h4 b (nP (show i<j by omega) hb) b hb' rfl
     ·exact h2 i j o_ o_ ne b hb hb'
  ·rintro⟨h1,h2⟩
   refine⟨⟨fun i hi=>h1 i o_,fun i j hi hj=>h2 i j o_ o_⟩,h1 n o_,fun a ha b hb e=>?_⟩;subst e;obtain⟨i,hi,hm⟩:=yS ha;exact h2 i n o_ o_ o_ a hm hb
theorem iD:(fps v n f).Nodup↔((∀i,i<n->(f i).Nodup)/\∀i j,i<n->j<n->i≠j->∀b ∈ f i,b ∉ f j)/\∀g,v.ownBlock=some g->∀i,i<n->g ∉ f i:=by
 unfold fps;rw[List.nodup_append,aG1]
 constructor
 ·rintro⟨_,h,k⟩
  exact⟨h,fun g hg i hi hm=>k g (by simp[hg]) g (nP hi hm) rfl⟩
 ·rintro⟨h,k⟩
  refine⟨gV v,h,fun a ha b hb e=>?_⟩;subst e;obtain⟨i,hi,hm⟩:=yS hb;exact k a (bR ha) i hi hm
theorem sC (h:(fps v n f).Nodup) {i:Nat} (hi:i<n) {x:List Nat} (hx:x.Nodup) (hd:∀b ∈ x,b ∈ f i\/b ∉ fps v n f):(fps v n (upd f i x)).Nodup:=by
 obtain⟨⟨h1,h2⟩,h3⟩:=iD.1 h;have far:∀b ∈ x,∀j,j<n->j≠i->b ∉ f j:=fun b hb j hj ne hm=>by
  rcases hd b hb with q|q
  ·exact h2 i j hi hj (fun e=>ne e.symm) b q hm
  ·exact q (qY hj hm)
 refine iD.2 ⟨⟨fun j hj=>?_,fun j k hj hk ne b hb hb'=>?_⟩,fun g hg j hj hm=>?_⟩
 ·by_cases q:j=i
  ·rw[q,cM];exact hx
  ·rw[bC _ _ q];exact h1 j hj
 ·by_cases qj:j=i
  ·subst qj
   rw[cM]at hb;rw[bC _ _ (fun e=>ne e.symm)]at hb';exact far b hb k hk (fun e=>ne e.symm) hb'
  ·rw[bC _ _ qj]at hb
   by_cases qk:k=i
   ·subst qk
    rw[cM]at hb';exact far b hb' j hj qj hb
   ·rw[bC _ _ qk]at hb'
    exact h2 j k hj hk ne b hb hb'
 ·by_cases q:j=i
  ·rw[q,cM]at hm
   rcases hd g hm with d|d
   ·exact h3 g hg i hi d
   ·exact d (oN hg)
  ·rw[bC _ _ q]at hm
   exact h3 g hg j hj hm
theorem mK {i b:Nat} {x:List Nat} (h:b ∈ fps v n (upd f i x)):b ∈ fps v n f\/b ∈ x:=by
 rcases tA h with h|⟨j,hj,h⟩
 ·exact .inl (oN h)
 ·by_cases q:j=i
  ·rw[q,cM]at h;exact .inr h
  ·rw[bC _ _ q]at h;exact .inl (qY hj h)
theorem aK0 (h:(fps v n f).Nodup) {v':Value} {x:List Nat} (hx:x.Nodup) (hd:∀b ∈ x,∀i,i<n->b ∉ f i) (hv:∀g,v'.ownBlock=some g->(∀i,i<n->g ∉ f i)/\g ∉ x):(fps v' (n+1) (upd f n x)).Nodup:=by
 obtain⟨⟨h1,h2⟩,_⟩:=iD.1 h;refine iD.2 ⟨⟨fun j hj=>?_,fun j k hj hk ne b hb hb'=>?_⟩,fun g hg j hj hm=>?_⟩
 ·by_cases q:j=n
  ·rw[q,cM];exact hx
  ·rw[bC _ _ q];exact h1 j (by omega)
 ·by_cases qj:j=n
  ·subst qj
   rw[cM]at hb;rw[bC _ _ (fun e=>ne e.symm)]at hb';exact hd b hb k (by omega) hb'
  ·rw[bC _ _ qj]at hb
   by_cases qk:k=n
   ·subst qk
    rw[cM]at hb';exact hd b hb' j (by omega) hb
   ·rw[bC _ _ qk]at hb'
    exact h2 j k (by omega) (by omega) ne b hb hb'
 ·by_cases q:j=n
  ·rw[q,cM]at hm;exact (hv g hg).2 hm
  ·rw[bC _ _ q]at hm;exact (hv g hg).1 j (by omega) hm
theorem vT {b:Nat} {v':Value} {x:List Nat} (h:b ∈ fps v' (n+1) (upd f n x)):v'.ownBlock=some b\/b ∈ fps v n f\/b ∈ x:=by
 rcases tA h with h|⟨j,hj,h⟩
 ·exact .inl h
 ·by_cases q:j=n
  ·rw[q,cM]at h;exact .inr (.inr h)
  ·rw[bC _ _ q]at h;exact .inr (.inl (qY (by omega) h))
end
def vR {α:Type} (R:Rep α) (B:Nat) (w:World) (cs:List Value) (a:α) (fp:List Nat):Prop:=R w cs a fp/\fp.Nodup/\∀b ∈ fp,B<=b
section
variable {α:Type} {A:Rep α} {e:TypeId} {size:Nat} {w:World} {B:Nat} {xs:List α} {fp:List Nat}
theorem vR.set (FA:A.Frame) {g n cap:Nat} (h:vR (nQ e size A) B w [.slice (some ⟨g,0,none⟩) n cap] xs fp) {i k:Nat} {x:α} (hi:xs[i]? =some x) (hk:k<size):
  n=xs.length/\g ∈ fp/\∃ci fi,A w ci x fi/\(∀b ∈ fi,b ∈ fp)/\fi.Nodup/\g ∉ fi/\ci.length=size/\(∀j z,ci[j]? =some z->w.cell? ⟨g,i * size+j,none⟩=some z)/\(∀u,w.grownBy (w.setCell ⟨g,i * size+k,none⟩ u) (some g))/\
   ∀u x' fi',A (w.setCell ⟨g,i * size+k,none⟩ u) (ci.set k u) x' fi'->fi'.Nodup->(∀b ∈ fi',(b ∈ fi\/b ∉ fp)/\B<=b)->
    ∃fp',vR (nQ e size A) B (w.setCell ⟨g,i * size+k,none⟩ u) [.slice (some ⟨g,0,none⟩) n cap] (xs.set i x') fp'/\(∀b ∈ fp',b ∈ fp\/b ∈ fi'):=by
 obtain⟨hR,nd,low⟩:=h;obtain⟨v,c,f,ev,E,rfl⟩:=mB hR;have hlt:i<xs.length:=(List.getElem?_eq_some_iff.1 hi).1;cases ev;obtain⟨z,hz⟩:∃z,(c i)[k]? =some z:=⟨(c i)[k]'(by rw[E.len i hlt];exact hk),List.getElem?_eq_getElem _⟩
 obtain⟨g',cap',ev,_,_,_,_,_⟩:=E.cell hlt hz;injection ev with e1 e2 e3
 have en:n=xs.length:=e2;subst en;refine⟨rfl,oN rfl,c i,f i,E.one i x hi,fun b hb=>qY hlt hb,?_,?_,E.len i hlt,fun j z hz=>?_,fun u=>(World.ownsRow.stored E.own _ u).2,fun u x' fi' ha nf hd=>?_⟩
 ·exact (iD.1 nd).1.1 i hlt
 ·exact (iD.1 nd).2 g rfl i hlt
 ·obtain⟨g2,cap2,ev2,_,_,_,_,hc⟩:=E.cell hlt hz
  injection ev2 with q1 q2 q3
  injection q1 with q1
  injection q1 with q1
  rw[q1];exact hc
 ·have S:=E.set FA hlt hk (u:=u) (a:=x') (fa:=fi') (fun j hj _=>(iD.1 nd).2 g rfl j hj) ha
  have R:=S.rep;rw[List.length_set]at R;refine⟨_,⟨R,sC nd hlt nf (fun b hb=>(hd b hb).1),fun b hb=>?_⟩,fun b hb=>mK hb⟩;rcases mK hb with q|q
  ·exact low b q
  ·exact (hd b q).2
theorem vR.more (FA:A.Frame) {v:Value} (h:vR (nQ e size A) B w [v] xs fp):∃cells,w.ownsRow B e size v xs.length cells/\cells.length=xs.length * size/\
  ∀w' v' cs x fx,w'.ownsRow B e size v' (xs.length+1) (cells++cs)->w.grownBy w' v.ownBlock->(v'.ownBlock=v.ownBlock\/∀g,v'.ownBlock=some g->w.heap.size<=g)->cs.length=size->vR A B w' cs x fx->(∀b ∈ fx,b ∉ fp)->(∀g,v'.ownBlock=some g->g ∉ fx)->
   ∃fp',vR (nQ e size A) B w' [v'] (xs++[x]) fp'/\∀b ∈ fp',b ∈ fp\/b ∈ fx\/v'.ownBlock=some b:=by
 obtain⟨hR,nd,low⟩:=h;obtain⟨v0,c,f,ev,E,rfl⟩:=mB hR;cases ev;have nd':=iD.1 nd;have oB:w.ownsRow B e size v xs.length ((List.range xs.length).map c).flatten:=by
  refine⟨E.own.1,?_⟩;rcases E.own.2 with q|⟨g,cap,cur,rfl,hb,r⟩
  ·exact .inl q
  ·exact .inr ⟨g,cap,cur,rfl,low g (oN rfl),r⟩
 refine⟨_,oB,sI E.len,fun w' v' cs x fx ho hg hv hc hx hd hgx=>?_⟩;have EB:Els A e size w B v xs c f:=⟨oB,E.len,E.one⟩
 have fl:∀i,i<xs.length->∀b ∈ f i,b<w.heap.size/\some b≠v.ownBlock:=fun i hi b hb=>⟨FA.lt (E.one i _ (List.getElem?_eq_getElem hi)) b hb,fun q=>nd'.2 b q.symm i hi hb⟩
 have S:=EB.snoc FA ho hc (fun i hi b hb=>hg.block b (fl i hi b hb).1 (fl i hi b hb).2) hg.size hx.1;have R:=S.rep;rw[show (xs++[x]).length=xs.length+1 by simp]at R;refine⟨_,⟨R,aK0 nd hx.2.1 (fun b hb i hi hm=>hd b hb (qY hi hm)) (fun g q=>⟨fun i hi hm=>?_,hgx g q⟩),fun b hb=>?_⟩,fun b hb=>?_⟩
 ·rcases hv with hv|hv
  ·exact (fl i hi g hm).2 (by rw[<-hv,q])
  ·have:=hv g q
   have:=(fl i hi g hm).1;omega
 ·rcases vT (v:=v) hb with q|q|q
  ·exact (World.ownsRow.lt ho b q).1
  ·exact low b q
  ·exact hx.2.2 b q
 ·rcases vT (v:=v) hb with q|q|q
  ·exact .inr (.inr q)
  ·exact .inl q
  ·exact .inr (.inl q)
end
section
variable {α:Type} {A:Rep α} {e:TypeId} {size:Nat} {w:World} {xs:List α} {fp:List Nat} {v:Value}
theorem aL4 (h:nQ e size A w [v] xs fp) {i:Nat} {x:α} (hi:xs[i]? =some x):∃g cap ci fi,v=.slice (some ⟨g,0,none⟩) xs.length cap/\g<w.heap.size/\xs.length<=cap/\cap<=maxLen/\A w ci x fi/\(∀b ∈ fi,b ∈ fp)/\ci.length=size/\∀j z,ci[j]? =some z->w.cell? ⟨g,i * size+j,none⟩=some z:=by
 obtain⟨v0,c,f,ev,E,rfl⟩:=mB h;cases ev;have hlt:i<xs.length:=(List.getElem?_eq_some_iff.1 hi).1;rcases E.own.2 with ⟨rfl,h0⟩|⟨g,cap,cur,rfl,hb,hg,hn,hc,hs,ht⟩
 ·omega
 ·refine⟨g,cap,c i,f i,rfl,(Array.getElem?_eq_some_iff.1 hg).1,hn,hc,E.one i x hi,fun b hb=>qY hlt hb,E.len i hlt,fun j z hz=>?_⟩
  obtain⟨g',cap',ev,_,_,_,_,q⟩:=E.cell hlt hz;injection ev with q1 q2 q3
  injection q1 with q1
  injection q1 with q1
  rw[q1];exact q
theorem aK {x:Option Addr} {k c:Nat} (h:nQ e size A w [.slice x k c] xs fp):k=xs.length/\∀{i:Nat} {a:α},xs[i]? =some a->∃g ci fi,x=some ⟨g,0,none⟩/\g<w.heap.size/\A w ci a fi/\(∀b ∈ fi,b ∈ fp)/\ci.length=size/\∀j z,ci[j]? =some z->w.cell? ⟨g,i * size+j,none⟩=some z:=by
 refine⟨?_,fun {i a} hi=>?_⟩
 ·obtain⟨x',c',q,_⟩:=aP h
  injection q
 ·obtain⟨g,cap,ci,fi,q,h1,_,_,h2,h3,h4,h5⟩:=aL4 h hi
  injection q with q1 q2 q3
  exact⟨g,ci,fi,q1,h1,h2,h3,h4,h5⟩
end
structure Ch where
 at_:World->List Nat->Prop
 lt:∀{w:World} {f:List Nat},at_ w f->∀b ∈ f,b<w.heap.size
 keep:∀{w w':World} {f:List Nat},at_ w f->(∀b ∈ f,w'.heap[b]? =w.heap[b]?)->w.heap.size<=w'.heap.size->at_ w' f
def Rep.Frame.ch {α:Type} {R:Rep α} (F:R.Frame) (cs:List Value) (a:α):Ch:=⟨fun w f=>R w cs a f,F.lt,F.keep⟩
theorem pB (b:Nat):[b].Nodup:=by simp
def emp:Ch:=⟨fun _ f=>f=[],fun h b hb=>(by rw[h]at hb;cases hb),fun h _ _=>h⟩
def bO (b:Nat) (t:TypeId) (vs:Array Value):Ch:=⟨fun w f=>w.heap[b]? =some (.cells vs t (0,0))/\f=[b],
  fun h x hx=>(by rw[h.2]at hx;rw[List.mem_singleton.1 hx];exact (Array.getElem?_eq_some_iff.1 h.1).1),
  fun h hk _=>⟨(hk b (by rw[h.2];exact List.mem_singleton_self b)).trans h.1,h.2⟩⟩
def Ch.sep (c d:Ch):Ch:=⟨fun w f=>∃f1 f2,f=f1++f2/\c.at_ w f1/\d.at_ w f2,
  fun⟨_,_,e,h1,h2⟩ b hb=>(List.mem_append.1 (by rw[e]at hb;exact hb)).elim (c.lt h1 b) (d.lt h2 b),
  fun⟨f1,f2,e,h1,h2⟩ hk hs=>⟨f1,f2,e,c.keep h1 (fun b hb=>hk b (by rw[e];exact List.mem_append_left _ hb)) hs,d.keep h2 (fun b hb=>hk b (by rw[e];exact List.mem_append_right _ hb)) hs⟩⟩
def Ch.ex {ι:Type} (c:ι->Ch):Ch:=⟨fun w f=>∃i,(c i).at_ w f,fun⟨i,h⟩=>(c i).lt h,fun⟨i,h⟩ hk hs=>⟨i,(c i).keep h hk hs⟩⟩
def yN:List Ch->Ch
 | []=>emp
 |c::l=>c.sep (yN l)
structure M (B:Nat) (w0 w:World) (l:List Ch):Prop where
 below:Below B w0 w
 low:B<=w.heap.size
 own:∃f,(yN l).at_ w f/\f.Nodup/\∀b ∈ f,B<=b
theorem M.start (w:World):M w.heap.size w w []:=⟨Below.refl _ _,Nat.le_refl _,[],rfl,List.nodup_nil,fun b hb=>by cases hb⟩
section
variable {B:Nat} {w0 w w':World} {l:List Ch} {c d:Ch}
theorem M.later (h:M B w0 w l) (hb:Below w.heap.size w w'):M B w0 w' l:=by
 obtain⟨f,ha,nd,lo⟩:=h.own;exact⟨h.below.trans (hb.mono h.low),Nat.le_trans h.low hb.size,f,(yN l).keep ha (fun b hm=>hb.block b ((yN l).lt ha b hm)) hb.size,nd,lo⟩
theorem M.drew (h:M B w0 w l):M B w0 w.drew l:=h.later (Below.drew (Below.refl _ _))
theorem M.add (h:M B w0 w l) (hb:Below w.heap.size w w') {f:List Nat} (ha:c.at_ w' f) (nd:f.Nodup) (lo:∀b ∈ f,w.heap.size<=b):M B w0 w' (c::l):=by
 obtain⟨g,hg,ng,lg⟩:=h.own;have h':=h.later hb;refine⟨h'.below,h'.low,f++g,⟨f,g,rfl,ha,(yN l).keep hg (fun b hm=>hb.block b ((yN l).lt hg b hm)) hb.size⟩,List.nodup_append.2 ⟨nd,ng,fun a h1 b h2 e=>?_⟩,fun b hm=>?_⟩
 ·have:=lo a h1;have:=(yN l).lt hg b h2;omega
 ·rcases List.mem_append.1 hm with hm|hm
  ·exact Nat.le_trans h.low (lo b hm)
  ·exact lg b hm
theorem M.got {α:Type} {R:Rep α} (F:R.Frame) {cs:List Value} {a:α} {fp:List Nat} (h:M B w0 w l) (hb:Below w.heap.size w w') (s:vR R w.heap.size w' cs a fp):M B w0 w' (F.ch cs a::l):=h.add hb s.1 s.2.1 s.2.2
theorem M.alloc (h:M B w0 w l) (vs:Array Value) (t:TypeId):M B w0 (w.alloc (.cells vs t)) (bO w.heap.size t vs::l):=
 h.add ((Below.refl _ _).alloc lr_ _) ⟨heap_alloc_new w _,rfl⟩ (pB _) fun b hb=>by rw[List.mem_singleton.1 hb];exact Nat.le_refl _
theorem M.turn (h:M B w0 w (c::l)) (k:∀f,c.at_ w f->f.Nodup->(∀b ∈ f,B<=b)->dZ (fun b=>b ∈ f) w w'/\∃f',d.at_ w' f'/\f'.Nodup/\∀b ∈ f',b ∈ f\/w.heap.size<=b):M B w0 w' (d::l):=by
 obtain⟨_,⟨f,g,rfl,hc,hg⟩,nd,lo⟩:=h.own;obtain⟨n1,n2,n3⟩:=List.nodup_append.1 nd;obtain⟨hk,f',hd,nf,hf⟩:=k f hc n1 fun b hb=>lo b (List.mem_append_left _ hb)
 refine⟨h.below.trans (hk.below h.low fun b hb=>lo b (List.mem_append_left _ hb)),Nat.le_trans h.low hk.size,f'++g,⟨f',g,rfl,hd,(yN l).keep hg (fun b hm=>hk.block b ((yN l).lt hg b hm) fun q=>n3 b q b hm rfl) hk.size⟩,List.nodup_append.2 ⟨nf,n2,fun a h1 b h2 e=>?_⟩,fun b hm=>?_⟩
 ·rcases hf a h1 with q|q
  ·exact n3 a q b h2 e
  ·have:=(yN l).lt hg b h2;omega
 ·rcases List.mem_append.1 hm with hm|hm
  ·rcases hf b hm with q|q
   ·exact lo b (List.mem_append_left _ q)
   ·exact Nat.le_trans h.low q
  ·exact lo b (List.mem_append_right _ hm)
theorem M.to (h:M B w0 w (c::l)) (k:∀f,c.at_ w f->f.Nodup->∃f',d.at_ w f'/\f'.Nodup/\∀b ∈ f',b ∈ f):M B w0 w (d::l):=
 h.turn fun f hf nd _=>let ⟨f',h1,h2,h3⟩:=k f hf nd;⟨dZ.refl _ _,f',h1,h2,fun b hb=>.inl (h3 b hb)⟩
theorem M.set {b i:Nat} {t:TypeId} {vs:Array Value} (h:M B w0 w (bO b t vs::l)) (u:Value):M B w0 (w.setCell ⟨b,i,none⟩ u) (bO b t (vs.setIfInBounds i u)::l):=
 h.turn fun f hf _ _=>⟨dZ.of_grown (aA w ⟨b,i,none⟩ u) (by rw[hf.2];exact List.mem_singleton_self b),[b],⟨by rw[heap_setCell_same w b i _ _ _ hf.1],rfl⟩,pB _,fun x hx=>.inl (by rw[hf.2];exact hx)⟩
theorem M.first (h:M B w0 w (c::l)):∃f,c.at_ w f/\f.Nodup/\∀b ∈ f,B<=b:=by
 obtain⟨_,⟨f,g,rfl,hc,hg⟩,nd,lo⟩:=h.own;exact⟨f,hc,(List.nodup_append.1 nd).1,fun b hb=>lo b (List.mem_append_left _ hb)⟩
theorem M.drop (h:M B w0 w (c::l)):M B w0 w l:=by
 obtain⟨_,⟨f,g,rfl,hc,hg⟩,nd,lo⟩:=h.own;exact⟨h.below,h.low,g,hg,(List.nodup_append.1 nd).2.1,fun b hb=>lo b (List.mem_append_right _ hb)⟩
theorem aIN {l l':List Ch} (p:l.Perm l'):∀{w f},(yN l).at_ w f->∃f',(yN l').at_ w f'/\f.Perm f':=by
 induction p with
 |nil=>exact fun h=>⟨_,h,.refl _⟩
 |cons x _ ih=>
  rintro w f ⟨f1,f2,rfl,h1,h2⟩;obtain⟨g,hg,pg⟩:=ih h2;exact⟨f1++g,⟨f1,g,rfl,h1,hg⟩,.append_left _ pg⟩
 |swap x y l=>
  rintro w f ⟨f1,_,rfl,h1,⟨f2,f3,rfl,h2,h3⟩⟩;refine⟨f2++(f1++f3),⟨f2,_,rfl,h2,⟨f1,f3,rfl,h1,h3⟩⟩,?_⟩;rw[<-List.append_assoc, <-List.append_assoc];exact List.perm_append_comm.append_right _
 |trans _ _ i1 i2=>
  intro w f h;obtain⟨g,hg,pg⟩:=i1 h;obtain⟨k,hk,pk⟩:=i2 hg;exact⟨k,hk,pg.trans pk⟩
theorem M.perm {l':List Ch} (h:M B w0 w l) (p:l.Perm l'):M B w0 w l':=by
 obtain⟨f,ha,nd,lo⟩:=h.own;obtain⟨g,hg,pg⟩:=aIN p ha;exact⟨h.below,h.low,g,hg,pg.nodup_iff.1 nd,fun b hb=>lo b (pg.mem_iff.2 hb)⟩
theorem M.p1 {a b:Ch} (h:M B w0 w (a::b::l)):M B w0 w (b::a::l):=h.perm (.swap _ _ _)
theorem M.p2 {a b c:Ch} (h:M B w0 w (a::b::c::l)):M B w0 w (c::a::b::l):=h.perm ((List.Perm.swap _ _ _).cons a |>.trans (.swap _ _ _))
theorem nT {α:Type} (a:α):∀(k l:List α),(k++a::l).Perm (a::k++l)
 | [],l=>.refl _
 |x::k,l=>((nT a k l).cons x).trans (.swap _ _ _)
theorem M.p3 {a' b' c' d':Ch} (h:M B w0 w (a'::b'::c'::d'::l)):M B w0 w (d'::a'::b'::c'::l):=h.perm (nT d' [a',b',c'] l)
theorem M.p4 {a' b' c' d' e':Ch} (h:M B w0 w (a'::b'::c'::d'::e'::l)):M B w0 w (e'::a'::b'::c'::d'::l):=h.perm (nT e' [a',b',c',d'] l)
theorem M.p5 {a' b' c' d' e' f':Ch} (h:M B w0 w (a'::b'::c'::d'::e'::f'::l)):M B w0 w (f'::a'::b'::c'::d'::e'::l):=h.perm (nT f' [a',b',c',d',e'] l)
theorem M.p6 {a' b' c' d' e' f' g':Ch} (h:M B w0 w (a'::b'::c'::d'::e'::f'::g'::l)):M B w0 w (g'::a'::b'::c'::d'::e'::f'::l):=h.perm (nT g' [a',b',c',d',e',f'] l)
theorem M.two (h:M B w0 w (c.sep d::l)):M B w0 w (c::d::l):=by
 obtain⟨_,⟨_,g,rfl,⟨f1,f2,rfl,h1,h2⟩,hg⟩,nd,lo⟩:=h.own;rw[List.append_assoc]at nd lo;exact⟨h.below,h.low,_,⟨f1,_,rfl,h1,⟨f2,g,rfl,h2,hg⟩⟩,nd,lo⟩
theorem M.sep (h:M B w0 w (c::d::l)):M B w0 w (c.sep d::l):=by
 obtain⟨_,⟨f1,_,rfl,h1,⟨f2,g,rfl,h2,hg⟩⟩,nd,lo⟩:=h.own;rw[<-List.append_assoc]at nd lo;exact⟨h.below,h.low,_,⟨_,g,rfl,⟨f1,f2,rfl,h1,h2⟩,hg⟩,nd,lo⟩
theorem M.ex {ι:Type} {c:ι->Ch} (h:M B w0 w (Ch.ex c::l)):∃i,M B w0 w (c i::l):=by
 obtain⟨_,⟨f,g,rfl,⟨i,h1⟩,hg⟩,nd,lo⟩:=h.own;exact⟨i,h.below,h.low,_,⟨f,g,rfl,h1,hg⟩,nd,lo⟩
theorem M.in {ι:Type} {c:ι->Ch} (i:ι) (h:M B w0 w (c i::l)):M B w0 w (Ch.ex c::l):=by
 obtain⟨_,⟨f,g,rfl,h1,hg⟩,nd,lo⟩:=h.own;exact⟨h.below,h.low,_,⟨f,g,rfl,⟨i,h1⟩,hg⟩,nd,lo⟩
section
variable {b i:Nat} {t:TypeId} {vs:Array Value}
theorem M.cell (h:M B w0 w (bO b t vs::l)) {u:Value} (hi:vs[i]? =some u):w.cell? ⟨b,i,none⟩=some u:=by
 obtain⟨f,hf,_⟩:=h.first;simp[World.cell?,hf.1,hi]
theorem M.free (h:M B w0 w (bO b t vs::l)) (i:Nat):w.frozen? ⟨b,i,none⟩=false:=by
 obtain⟨f,hf,_⟩:=h.first;simp[World.frozen?,hf.1]
end
end
structure SlT (P:Program) (t e:TypeId) (z:Value) (size bytes:Nat):Prop where
 und:P.underlying t=some (.slice e)
 info:(P.info? e).map (fun i=>(i.zero,i.size,i.bytes))=some (some z,size,bytes)
 zs:z.cells.size=size
 pos:0<size
section
variable {α:Type} {A:Rep α} {e:TypeId} {size:Nat} {w w' w0:World} {B b:Nat} {l:List Ch} {xs:List α} {x:α} {v:Value} {cs:List Value}
def jH (FA:A.Frame) (e:TypeId) (size:Nat) (v:Value) (xs:List α):Ch:=(aN FA e size).ch [v] xs
theorem M.nil (FA:A.Frame) (e:TypeId) (size:Nat) (h:M B w0 w l):M B w0 w (jH FA e size zn []::l):=
 h.add (Below.refl _ _) (f:=[]) (Els.nil w 0 (fun _=>[]) fun _=>[]).rep List.nodup_nil fun b hb=>by cases hb
theorem M.empty (FA:A.Frame) (size:Nat) (h:M B w0 w (bO b e #[]::l)):M B w0 w (jH FA e size (.slice (some ⟨b,0,none⟩) 0 0) []::l):=
 h.to fun f hf nd=>⟨f,by
    obtain⟨hb,rfl⟩:=hf
    exact⟨_,fun _=>[],fun _=>[],rfl,⟨by simp,.inr ⟨b,0,#[],rfl,Nat.zero_le _,hb,Nat.le_refl _,by simp[maxLen],by simp,by simp⟩⟩,fun i hi=>absurd hi (Nat.not_lt_zero i),fun i a hi=>by simp at hi,by simp[Value.ownBlock]⟩,nd,fun _ h=>h⟩
theorem M.snoc (FA:A.Frame) (h:M B w0 w (jH FA e size v xs::FA.ch cs x::l)) (hc:cs.length=size):∃cells,w.ownsRow B e size v xs.length cells/\
  ∀w' v',w'.ownsRow B e size v' (xs.length+1) (cells++cs)->w.grownBy w' v.ownBlock->(v'.ownBlock=v.ownBlock\/v'.ownBlock=some w.heap.size)->M B w0 w' (jH FA e size v' (xs++[x])::l):=by
 obtain⟨f,hf,nd,lo⟩:=h.first;obtain⟨cells,ho,_,_⟩:=vR.more FA (v:=v) (xs:=xs) ⟨hf,nd,lo⟩;refine⟨cells,ho,fun w' v' ho' hg hv=>h.sep.turn fun f hf nd lo=>?_⟩;obtain⟨f1,f2,rfl,h1,h2⟩:=hf;obtain⟨n1,n2,n3⟩:=List.nodup_append.1 nd;obtain⟨cells',ho2,_,more⟩:=vR.more FA (v:=v) (xs:=xs) ⟨h1,n1,fun b hb=>lo b (List.mem_append_left _ hb)⟩;have own:∀g,v.ownBlock=some g->g ∈ f1:=fun g hg=>by
  obtain⟨_,_,_,ev,_,e1⟩:=mB h1;cases ev;rw[e1];exact oN hg
 have ec:cells'=cells:=by
  rcases ho.2 with ⟨rfl,h0⟩|⟨g,cap,cur,rfl,_,hgg,_,_,_,ht⟩
  ·exact (List.eq_nil_of_length_eq_zero (l:=cells') (by rw[ho2.1,h0,Nat.zero_mul])).trans (List.eq_nil_of_length_eq_zero (by rw[ho.1,h0,Nat.zero_mul])).symm
  ·rcases ho2.2 with ⟨q,_⟩|⟨g2,cap2,cur2,q,_,hgg2,_,_,_,ht2⟩
   ·cases q
   ·cases q
    rw[hgg]at hgg2;cases hgg2;rw[<-ht, <-ht2]
 subst ec;have off2:∀b ∈ f2,some b≠v.ownBlock:=fun b hb q=>n3 b (own b q.symm) b hb rfl
 obtain⟨f',hS,hm⟩:=more w' v' cs x f2 ho' hg (hv.imp id fun q g hg'=>(by rw[q]at hg';cases hg';exact Nat.le_refl _)) hc
  ⟨FA.keep h2 (fun b hb=>hg.block b (FA.lt h2 b hb) (off2 b hb)) hg.size,n2,fun b hb=>lo b (List.mem_append_right _ hb)⟩ (fun b hb hb'=>n3 b hb' b hb rfl)
  (fun g hg' hm=>by
      rcases hv with q|q
      · exact off2 g hm (by rw[<-q,hg'])
      · rw[q]at hg';cases hg';exact absurd (FA.lt h2 _ hm) (Nat.lt_irrefl _))
 refine⟨⟨hg.os,hg.tape,hg.output,hg.size,fun k hk hs=>hg.block k hk fun q=>hs (List.mem_append_left _ (own k q.symm))⟩,f',hS.1,hS.2.1,fun b hb=>?_⟩;rcases hm b hb with q|q|q
 ·exact .inl (List.mem_append_left _ q)
 ·exact .inl (List.mem_append_right _ q)
 ·rcases hv with r|r
  ·exact .inl (List.mem_append_left _ (own b (by rw[<-r,q])))
  ·rw[r]at q;cases q;exact .inr lr_
theorem xP {B:Nat} {n:Nat} {ys:List Value} (h:w.ownsRow B e size v n ys):∃y c,v=.slice y n c:=by
 rcases h.2 with ⟨rfl,rfl⟩|⟨g,cap,cur,rfl,_⟩
 ·exact⟨_,_,rfl⟩
 ·exact⟨_,_,rfl⟩
theorem aLt {P:Program} {t:TypeId} {z:Value} {bytes:Nat} (T:SlT P t e z size bytes) {FA:A.Frame} (OA:A.One size) (h:M B w0 w (bO b e cs.toArray::jH FA e size v xs::FA.ch cs x::l))
  (ty:TypeId) (c:Nat) (h63:xs.length+1<=maxLen) (hby:(xs.length+1) * bytes<=140737488355328):
  ∃y cap w',(Builtin.append_ #[t,t] ty #[v,.slice (some ⟨b,0,none⟩) 1 c]).run P w=.ok (.slice y (xs.length+1) cap) w'/\M B w0 w' (jH FA e size (.slice y (xs.length+1) cap) (xs++[x])::l):=by
 obtain⟨i,hi,hz,hs,hb⟩:=info_parts T.info;obtain⟨f,hf,_⟩:=h.drop.p1.first;have hc:cs.length=size:=OA.len hf;obtain⟨cells,ho,more⟩:=h.drop.snoc FA hc;obtain⟨v',w',hr,h1,h2,_,h4⟩:=run_append_own_at (P:=P) w B t ty e i z size bytes T.und hi hz hs hb T.zs T.pos v xs.length cells ho ⟨b,0,none⟩ 1 c cs (by rw[hc,Nat.one_mul])
  (fun j u hu=>by rw[Addr.add_mid,Nat.zero_add];exact h.cell (by simpa using hu)) (OA.one hf) h63 hby h.low
 obtain⟨y,cap,rfl⟩:=xP h1;exact⟨y,cap,w',hr,more w' _ h1 h2 h4⟩
theorem aMW {P:Program} {t:TypeId} {z:Value} {bytes:Nat} (T:SlT P t e z size bytes) {FA:A.Frame} (OA:A.One size) (h:M B w0 w (bO b e cs.toArray::jH FA e size v xs::FA.ch cs x::l))
  {o:Oper} {a:Act} {K:Act->World->Prop} {Q:Exit->Act->World->Prop} {s u:Operand} (ho:o.op=.call { callee:=.builtin .append,args:=#[s,u],argTypes:=#[t,t] }) {c N:Nat} (hs:a.eval s=v) (hu:a.eval u=.slice (some ⟨b,0,none⟩) 1 c)
  (h63:xs.length+1<=maxLen) (hby:(xs.length+1) * bytes<=140737488355328) (hN:N=xs.length+1)
  (k:∀y cap w',M B w0 w' (jH FA e size (.slice y N cap) (xs++[x])::l)->K (a.put o.dst (.slice y N cap)) w'):o.wp P a w K Q:=by
 obtain⟨y,cap,w',hr,hM⟩:=aLt T OA h o.type c h63 hby;unfold Oper.wp execOp;simp only[ho,resolve,invoke,builtin,Sem.run_bind,Sem.run_pure,Result.andThen_ok,List.map_toArray,List.map_cons,List.map_nil,hs,hu,hr];rw[hN]at k;exact k y cap w' hM
theorem aAf {P:Program} {t:TypeId} {z:Value} {bytes:Nat} (T:SlT P t e z size bytes) {FA:A.Frame} (OA:A.One size) (h:M B w0 w (bO b e cs.toArray::jH FA e size v xs::FA.ch cs x::l))
  {ops:Array Oper} {rest:List Oper} {o:Oper} {a:Act} {Q:Exit->Act->World->Prop} {s u:Operand} (hgd:o.guard=none) (ho:o.op=.call { callee:=.builtin .append,args:=#[s,u],argTypes:=#[t,t] }) {c N:Nat} (hs:a.eval s=v) (hu:a.eval u=.slice (some ⟨b,0,none⟩) 1 c)
  (h63:xs.length+1<=maxLen) (hby:(xs.length+1) * bytes<=140737488355328) (hN:N=xs.length+1)
  (k:∀y cap w',M B w0 w' (jH FA e size (.slice y N cap) (xs++[x])::l)->wpList P ops Q rest (a.put o.dst (.slice y N cap)) w'):wpList P ops Q (o::rest) a w:=
 wpList_plain hgd fun _ hK=>aMW T OA h ho hs hu h63 hby hN fun y cap w' hM=>hK _ _ (k y cap w' hM)
theorem aH2 {P:Program} {t:TypeId} {z:Value} {bytes:Nat} (T:SlT P t e z 1 bytes) {enc:α->List Value} {z0:α} (hz:z.cells=#[z]) (hz0:enc z0=[z]) (hl:∀a,(enc a).length=1) (h:M B w0 w l)
  {ops:Array Oper} {rest:List Oper} {o:Oper} {a:Act} {Q:Exit->Act->World->Prop} (hgd:o.guard=none) {lo co:Operand} (hop:o.op=Op.makeSlice t lo co) {kl kc:IntKind} {L C:Int} (n:Nat) (hlo:a.eval lo=.int kl L) (hco:a.eval co=.int kc C) (hL:L=(n:Int)) (hC:C=(n:Int))
  (b2:bytes * n<=281474976710656) (b3:n<=maxLen) (k:∀w',M B w0 w' (jH (aO enc) e 1 (.slice (some ⟨w.heap.size,0,none⟩) n n) (List.replicate n z0)::l)->Below w.heap.size w w'->wpList P ops Q rest (a.put o.dst (.slice (some ⟨w.heap.size,0,none⟩) n n)) w'):wpList P ops Q (o::rest) a w:=by
 obtain⟨i,hi,hiz,hs,hb⟩:=info_parts T.info;refine wpList_make_full w hgd lo co t hop w.heap.size e i z 1 T.und hi hiz hs kl kc L C n hlo hco hL hC (by rw[hb];exact b2) b3 lr_ fun w' ho hg=>?_
 have bl:Below w.heap.size w w':=⟨hg.os,hg.tape,hg.output,hg.size,fun q hq=>hg.block q hq (by simp)⟩
 rw[hz,Nat.mul_one,toList_madeCells_one]at ho;have e1:(List.replicate n z0).flatMap enc=List.replicate n z:=by
  clear k b2 b3 hL hC ho
  induction n with
  |zero=>rfl
  |succ n ih=>rw[List.replicate_succ,List.flatMap_cons,ih,hz0];rfl
 have r:=lV (enc:=enc) (xs:=List.replicate n z0) (by rw[e1,List.length_replicate];exact ho) hl;exact k w' (h.add bl r (gV _) fun b hb=>(ho.lt b (bR hb)).1) bl
theorem M.setEl {enc:α->List Value} {g n c i:Nat} (h:M B w0 w (jH (aO enc) e 1 (.slice (some ⟨g,0,none⟩) n c) xs::l)) (hi:i<xs.length) (y:α) {u:Value} (hy:enc y=[u]):
  (∃z,w.cell? ⟨g,i,none⟩=some z)/\w.frozen? ⟨g,i,none⟩=false/\M B w0 (w.setCell ⟨g,i,none⟩ u) (jH (aO enc) e 1 (.slice (some ⟨g,0,none⟩) n c) (xs.set i y)::l):=by
 obtain⟨f,hf,nd,lo⟩:=h.first;have at_:∀f,vR (nQ e 1 (zG enc)) B w [.slice (some ⟨g,0,none⟩) n c] xs f->(∃z,w.cell? ⟨g,i,none⟩=some z)/\dZ (fun b=>b ∈ f) w (w.setCell ⟨g,i,none⟩ u)/\∃f',vR (nQ e 1 (zG enc)) B (w.setCell ⟨g,i,none⟩ u) [.slice (some ⟨g,0,none⟩) n c] (xs.set i y) f'/\∀b ∈ f',b ∈ f:=fun f S=>by
  obtain⟨_,mg,ci,fi,ha,_,_,_,hl,hc,_,k⟩:=vR.set (aO enc) S (i:=i) (k:=0) (List.getElem?_eq_getElem hi) o_;simp only[Nat.mul_one,Nat.add_zero]at hc k;obtain⟨f',s',m⟩:=k u y [] ⟨by match ci,hl with
      | [_],_=>rw[hy];rfl,rfl⟩ List.nodup_nil (fun b hb=>by cases hb)
  exact⟨⟨_,hc 0 _ (List.getElem?_eq_getElem o_)⟩,dZ.of_grown (aA _ _ _) mg,f',s',fun b hb=>(m b hb).elim id fun q=>by cases q⟩
 obtain⟨hz,_,_⟩:=at_ f ⟨hf,nd,lo⟩;refine⟨hz,?_,h.turn fun f hf nd lo=>?_⟩
 ·obtain⟨_,_,_,ev,E,_⟩:=mB hf
  cases ev;rcases E.own.2 with ⟨q,_⟩|⟨g',cap,cur,q,_,hg,_⟩
  ·cases q
  ·cases q;simp[World.frozen?,hg]
 ·obtain⟨_,hk,f',s',m⟩:=at_ f ⟨hf,nd,lo⟩
  exact⟨hk,f',s'.1,s'.2.1,fun b hb=>.inl (m b hb)⟩
end
section
variable {w w0 w':World} {B b:Nat} {l:List Ch} {t:TypeId}
theorem M.cells1 {x0:Value} (h:M B w0 w (bO b t #[x0]::l)):w.cell? ⟨b,0,none⟩=some x0:=
 h.cell rfl
theorem M.cells2 {x0 x1:Value} (h:M B w0 w (bO b t #[x0,x1]::l)):w.cell? ⟨b,0,none⟩=some x0/\w.cell? ⟨b,1,none⟩=some x1:=
 ⟨h.cell rfl,h.cell rfl⟩
theorem M.cells3 {x0 x1 x2:Value} (h:M B w0 w (bO b t #[x0,x1,x2]::l)):w.cell? ⟨b,0,none⟩=some x0/\w.cell? ⟨b,1,none⟩=some x1/\w.cell? ⟨b,2,none⟩=some x2:=
 ⟨h.cell rfl,h.cell rfl,h.cell rfl⟩
theorem M.cells4 {x0 x1 x2 x3:Value} (h:M B w0 w (bO b t #[x0,x1,x2,x3]::l)):w.cell? ⟨b,0,none⟩=some x0/\w.cell? ⟨b,1,none⟩=some x1/\w.cell? ⟨b,2,none⟩=some x2/\w.cell? ⟨b,3,none⟩=some x3:=
 ⟨h.cell rfl,h.cell rfl,h.cell rfl,h.cell rfl⟩
theorem M.set4 {x0 x1 x2 x3:Value} (h:M B w0 w (bO b t #[x0,x1,x2,x3]::l)) (y0 y1 y2 y3:Value):M B w0 ((((w.setCell ⟨b,0,none⟩ y0).setCell ⟨b,1,none⟩ y1).setCell ⟨b,2,none⟩ y2).setCell ⟨b,3,none⟩ y3) (bO b t #[y0,y1,y2,y3]::l):=by
 have h0:=h.set (i:=0) y0;simp only[List.setIfInBounds_toArray,List.set_cons_zero,List.set_cons_succ]at h0;have h1:=h0.set (i:=1) y1;simp only[List.setIfInBounds_toArray,List.set_cons_zero,List.set_cons_succ]at h1;have h2:=h1.set (i:=2) y2;simp only[List.setIfInBounds_toArray,List.set_cons_zero,List.set_cons_succ]at h2;have h3:=h2.set (i:=3) y3
 simp only[List.setIfInBounds_toArray,List.set_cons_zero,List.set_cons_succ]at h3;exact h3
theorem M.cells5 {x0 x1 x2 x3 x4:Value} (h:M B w0 w (bO b t #[x0,x1,x2,x3,x4]::l)):w.cell? ⟨b,0,none⟩=some x0/\w.cell? ⟨b,1,none⟩=some x1/\w.cell? ⟨b,2,none⟩=some x2/\w.cell? ⟨b,3,none⟩=some x3/\w.cell? ⟨b,4,none⟩=some x4:=
 ⟨h.cell rfl,h.cell rfl,h.cell rfl,h.cell rfl,h.cell rfl⟩
theorem M.cells6 {x0 x1 x2 x3 x4 x5:Value} (h:M B w0 w (bO b t #[x0,x1,x2,x3,x4,x5]::l)):w.cell? ⟨b,0,none⟩=some x0/\w.cell? ⟨b,1,none⟩=some x1/\w.cell? ⟨b,2,none⟩=some x2/\w.cell? ⟨b,3,none⟩=some x3/\w.cell? ⟨b,4,none⟩=some x4/\w.cell? ⟨b,5,none⟩=some x5:=
 ⟨h.cell rfl,h.cell rfl,h.cell rfl,h.cell rfl,h.cell rfl,h.cell rfl⟩
theorem M.cells7 {x0 x1 x2 x3 x4 x5 x6:Value} (h:M B w0 w (bO b t #[x0,x1,x2,x3,x4,x5,x6]::l)):w.cell? ⟨b,0,none⟩=some x0/\w.cell? ⟨b,1,none⟩=some x1/\w.cell? ⟨b,2,none⟩=some x2/\w.cell? ⟨b,3,none⟩=some x3/\w.cell? ⟨b,4,none⟩=some x4/\w.cell? ⟨b,5,none⟩=some x5/\w.cell? ⟨b,6,none⟩=some x6:=
 ⟨h.cell rfl,h.cell rfl,h.cell rfl,h.cell rfl,h.cell rfl,h.cell rfl,h.cell rfl⟩
theorem M.set7 {x0 x1 x2 x3 x4 x5 x6:Value} (h:M B w0 w (bO b t #[x0,x1,x2,x3,x4,x5,x6]::l)) (y0 y1 y2 y3 y4 y5 y6:Value):M B w0 (((((((w.setCell ⟨b,0,none⟩ y0).setCell ⟨b,1,none⟩ y1).setCell ⟨b,2,none⟩ y2).setCell ⟨b,3,none⟩ y3).setCell ⟨b,4,none⟩ y4).setCell ⟨b,5,none⟩ y5).setCell ⟨b,6,none⟩ y6) (bO b t #[y0,y1,y2,y3,y4,y5,y6]::l):=by
 have h0:=h.set (i:=0) y0;simp only[List.setIfInBounds_toArray,List.set_cons_zero,List.set_cons_succ]at h0;have h1:=h0.set (i:=1) y1;simp only[List.setIfInBounds_toArray,List.set_cons_zero,List.set_cons_succ]at h1;have h2:=h1.set (i:=2) y2;simp only[List.setIfInBounds_toArray,List.set_cons_zero,List.set_cons_succ]at h2;have h3:=h2.set (i:=3) y3
 simp only[List.setIfInBounds_toArray,List.set_cons_zero,List.set_cons_succ]at h3;have h4:=h3.set (i:=4) y4;simp only[List.setIfInBounds_toArray,List.set_cons_zero,List.set_cons_succ]at h4;have h5:=h4.set (i:=5) y5;simp only[List.setIfInBounds_toArray,List.set_cons_zero,List.set_cons_succ]at h5;have h6:=h5.set (i:=6) y6
 simp only[List.setIfInBounds_toArray,List.set_cons_zero,List.set_cons_succ]at h6;exact h6
theorem M.cells10 {x0 x1 x2 x3 x4 x5 x6 x7 x8 x9:Value} (h:M B w0 w (bO b t #[x0,x1,x2,x3,x4,x5,x6,x7,x8,x9]::l)):w.cell? ⟨b,0,none⟩=some x0/\w.cell? ⟨b,1,none⟩=some x1/\w.cell? ⟨b,2,none⟩=some x2/\w.cell? ⟨b,3,none⟩=some x3/\w.cell? ⟨b,4,none⟩=some x4/\w.cell? ⟨b,5,none⟩=some x5/\w.cell? ⟨b,6,none⟩=some x6/\w.cell? ⟨b,7,none⟩=some x7/\w.cell? ⟨b,8,none⟩=some x8/\w.cell? ⟨b,9,none⟩=some x9:=
 ⟨h.cell rfl,h.cell rfl,h.cell rfl,h.cell rfl,h.cell rfl,h.cell rfl,h.cell rfl,h.cell rfl,h.cell rfl,h.cell rfl⟩
theorem M.set10 {x0 x1 x2 x3 x4 x5 x6 x7 x8 x9:Value} (h:M B w0 w (bO b t #[x0,x1,x2,x3,x4,x5,x6,x7,x8,x9]::l)) (y0 y1 y2 y3 y4 y5 y6 y7 y8 y9:Value):M B w0 ((((((((((w.setCell ⟨b,0,none⟩ y0).setCell ⟨b,1,none⟩ y1).setCell ⟨b,2,none⟩ y2).setCell ⟨b,3,none⟩ y3).setCell ⟨b,4,none⟩ y4).setCell ⟨b,5,none⟩ y5).setCell ⟨b,6,none⟩ y6).setCell ⟨b,7,none⟩ y7).setCell ⟨b,8,none⟩ y8).setCell ⟨b,9,none⟩ y9) (bO b t #[y0,y1,y2,y3,y4,y5,y6,y7,y8,y9]::l):=by
 have h0:=h.set (i:=0) y0;simp only[List.setIfInBounds_toArray,List.set_cons_zero,List.set_cons_succ]at h0;have h1:=h0.set (i:=1) y1;simp only[List.setIfInBounds_toArray,List.set_cons_zero,List.set_cons_succ]at h1;have h2:=h1.set (i:=2) y2;simp only[List.setIfInBounds_toArray,List.set_cons_zero,List.set_cons_succ]at h2;have h3:=h2.set (i:=3) y3
 simp only[List.setIfInBounds_toArray,List.set_cons_zero,List.set_cons_succ]at h3;have h4:=h3.set (i:=4) y4;simp only[List.setIfInBounds_toArray,List.set_cons_zero,List.set_cons_succ]at h4;have h5:=h4.set (i:=5) y5;simp only[List.setIfInBounds_toArray,List.set_cons_zero,List.set_cons_succ]at h5;have h6:=h5.set (i:=6) y6
 simp only[List.setIfInBounds_toArray,List.set_cons_zero,List.set_cons_succ]at h6;have h7:=h6.set (i:=7) y7;simp only[List.setIfInBounds_toArray,List.set_cons_zero,List.set_cons_succ]at h7;have h8:=h7.set (i:=8) y8;simp only[List.setIfInBounds_toArray,List.set_cons_zero,List.set_cons_succ]at h8;have h9:=h8.set (i:=9) y9
 simp only[List.setIfInBounds_toArray,List.set_cons_zero,List.set_cons_succ]at h9;exact h9
end
end Go.Proofs.YtcblbdpdbggkbaaGreat
namespace Go.Proofs.YtcblbdpdbggkbaaGreat
open _root_.Go.Proofs.Tryz
open Go.RowKit Go.Sort Go.Maps
open Go.ChangeMaps (setBlock modify_eq_set)
structure aEn (P:Program) (k:TypeId) {κ:Type} (ok:κ->Prop) (kv:κ->Value):Prop where
 keyed:Keyed P k
 key:∀x,ok x->∃l,keyOf P k (kv x)=some l
 inj:∀x y,kv x=kv y->x=y
section
variable {P:Program} {k t el:TypeId} {κ:Type} [DecidableEq κ] {ok:κ->Prop} {kv:κ->Value} {w w0 w':World} {b B:Nat} {l:List Ch} {g:κ->Option Value}
def aAJ (ok:κ->Prop) (kv:κ->Value) (w:World) (b:Nat) (g:κ->Option Value):Prop:=∃es clock,w.heap[b]? =some (.map es clock)/\(∀e ∈ es.toList,∃x,ok x/\e.key=kv x/\g x=some e.val)/\(∀x v,g x=some v->∃e ∈ es.toList,e.key=kv x)/\(es.toList.map (·.key)).Nodup
def yO (ok:κ->Prop) (kv:κ->Value) (b:Nat) (g:κ->Option Value):Ch:=⟨fun w f=>aAJ ok kv w b g/\f=[b],
  fun h x hx=>by obtain⟨⟨_,_,hb,_⟩,rfl⟩:=h;rw[List.mem_singleton.1 hx];exact (Array.getElem?_eq_some_iff.1 hb).1,
  fun h hk _=>by obtain⟨⟨es,c,hb,r⟩,rfl⟩:=h;exact⟨⟨es,c,(hk b (List.mem_singleton_self b)).trans hb,r⟩,rfl⟩⟩
theorem M.map (ok:κ->Prop) (kv:κ->Value) (h:M B w0 w l):M B w0 (w.alloc (.map #[] 0)) (yO ok kv w.heap.size (fun _=>none)::l):=
 h.add ((Below.refl _ _).alloc lr_ _) ⟨⟨#[],0,heap_alloc_new w _,fun e he=>(by simp at he),fun x v hx=>(by cases hx),by simp⟩,rfl⟩ (pB _) fun b hb=>by rw[List.mem_singleton.1 hb];exact Nat.le_refl _
theorem aAJ.look (K:aEn P k ok kv) (ht:P.underlying t=some (.map k el)) {z:Value} (hz:(zeroValue el).run P w=.ok z w) (h:aAJ ok kv w b g) {x:κ} (hx:ok x) (c:Bool):
  (Instr.lookup t (.map (some b)) (kv x) c).run P w=.ok (if c then .tuple #[(g x).getD z,.bool (g x).isSome]else (g x).getD z) w:=by
 obtain⟨es,clock,hb,h1,h2,nd⟩:=h;obtain⟨lx,hl⟩:=K.key x hx;rcases K.keyed.find w hl es.toList (fun e he=>by obtain⟨y,hy,e1,_⟩:=h1 e he;rw[e1];exact K.key y hy)with ⟨f1,f2⟩|⟨j,e0,f1,f2,f3⟩
 ·have n:g x=none:=by
   cases q:g x with
   |none=>rfl
   |some v=>obtain⟨e,he,e1⟩:=h2 x v q;exact absurd e1 (f2 e he)
  simp[Instr.lookup,run_underlying ht,MapKept.run_getObj_map hb,K.keyed.check w _ hl,f1,hz,Result.andThen,n]
 ·obtain⟨y,hy,e1,e2⟩:=h1 e0 (List.mem_of_getElem? f2)
  obtain rfl:=K.inj y x (e1.symm.trans f3);simp[Instr.lookup,run_underlying ht,MapKept.run_getObj_map hb,K.keyed.check w _ hl,f1,Result.andThen,e2]
theorem aAJ.store (K:aEn P k ok kv) (ht:P.underlying t=some (.map k el)) (h:aAJ ok kv w b g) {x:κ} (hx:ok x) (v:Value):
  ∃es clock,(Instr.mapUpdate t (.map (some b)) (kv x) v).run P w=.ok () (setBlock w b (.map es clock))/\aAJ ok kv (setBlock w b (.map es clock)) b (fun y=>if y=x then some v else g y):=by
 obtain⟨es,clock,hb,h1,h2,nd⟩:=h;obtain⟨lx,hl⟩:=K.key x hx;have lt:b<w.heap.size:=(Array.getElem?_eq_some_iff.1 hb).1;have here:∀o:Obj,(setBlock w b o).heap[b]? =some o:=fun o=>by simp[setBlock,lt]
 rcases K.keyed.find w hl es.toList (fun e he=>by obtain⟨y,hy,e1,_⟩:=h1 e he;rw[e1];exact K.key y hy)with ⟨f1,f2⟩|⟨j,e0,f1,f2,f3⟩
 ·refine⟨es.push ⟨kv x,v,clock⟩,clock+1,?_,_,_,here _,fun e he=>?_,fun y u hy=>?_,?_⟩
  ·simp[Instr.mapUpdate,run_underlying ht,MapKept.run_getObj_map hb,K.keyed.check w false hl,f1,MapKept.run_setObj_map _ hb,Result.andThen,setBlock]
  ·simp only[Array.toList_push,List.mem_append,List.mem_singleton]at he
   rcases he with he|rfl
   ·obtain⟨y,hy,e1,e2⟩:=h1 e he
    exact⟨y,hy,e1,(if_neg fun q=>f2 e he (by rw[e1,q])).trans e2⟩
   ·exact⟨x,hx,rfl,if_pos rfl⟩
  ·by_cases q:y=x
   ·subst q;exact⟨⟨kv y,v,clock⟩,by simp,rfl⟩
   ·replace hy:=(if_neg q).symm.trans hy
    obtain⟨e,he,e1⟩:=h2 y u hy;exact⟨e,by simp[he],e1⟩
  ·rw[Array.toList_push,List.map_append,List.nodup_append]
   refine⟨nd,by simp,fun a ha c hc q=>?_⟩;obtain⟨e,he,rfl⟩:=List.mem_map.1 ha;simp only[List.map_cons,List.map_nil,List.mem_singleton]at hc;exact f2 e he (q.trans hc)
 ·have hj:es[j]? =some e0:=by simpa using f2
  have hlist:(es.modify j (fun e'=>{ e' with key:=kv x,val:=v })).toList=es.toList.set j { e0 with key:=kv x,val:=v }:=by rw[Array.toList_modify,modify_eq_set _ _ _ _ f2]
  have jl:j<es.toList.length:=(List.getElem?_eq_some_iff.1 f2).1;refine⟨es.modify j (fun e'=>{ e' with key:=kv x,val:=v }),clock,?_,_,_,here _,fun e he=>?_,fun y u hy=>?_,?_⟩
  ·simp[Instr.mapUpdate,run_underlying ht,MapKept.run_getObj_map hb,K.keyed.check w false hl,f1,hj,f3,K.keyed.stays w hl,MapKept.run_setObj_map _ hb,Result.andThen,setBlock]
  ·rw[hlist]at he
   obtain⟨i,hi,rfl⟩:=List.getElem_of_mem he;have hi':i<es.toList.length:=by simpa using hi
   by_cases q:j=i
   ·subst q
    rw[List.getElem_set_self];exact⟨x,hx,rfl,if_pos rfl⟩
   ·rw[List.getElem_set_ne q]
    obtain⟨y,hy,e1,e2⟩:=h1 _ (List.getElem_mem hi');refine⟨y,hy,e1,(if_neg fun r=>?_).trans e2⟩
    ·have a1:(es.toList.map (·.key))[i]'(by simpa using hi')=kv x:=by rw[List.getElem_map,e1,r]
     have a2:(es.toList.map (·.key))[j]'(by simpa using jl)=kv x:=by
      rw[List.getElem?_eq_getElem jl]at f2;rw[List.getElem_map,Option.some.inj f2,f3]
     rcases Nat.lt_or_gt_of_ne q with z|z
     ·exact (List.pairwise_iff_getElem.1 nd j i (by simpa using jl) (by simpa using hi') z) (a2.trans a1.symm)
     ·exact (List.pairwise_iff_getElem.1 nd i j (by simpa using hi') (by simpa using jl) z) (a1.trans a2.symm)
  ·rw[hlist]
   by_cases q:y=x
   ·subst q;exact⟨{ e0 with key:=kv y,val:=v },List.mem_iff_getElem.2 ⟨j,by simpa using jl,by simp⟩,rfl⟩
   ·replace hy:=(if_neg q).symm.trans hy
    obtain⟨e,he,e1⟩:=h2 y u hy;obtain⟨i,hi,rfl⟩:=List.getElem_of_mem he;refine⟨es.toList[i],List.mem_iff_getElem.2 ⟨i,by simpa using hi,?_⟩,e1⟩;rw[List.getElem_set_ne];intro e2;subst e2;rw[List.getElem?_eq_getElem hi]at f2;cases f2;exact q (K.inj y x (e1.symm.trans f3))
  ·rw[hlist,List.map_set]
   have:(es.toList.map (·.key)).set j (kv x)=es.toList.map (·.key):=by
    rw[List.getElem?_eq_getElem jl]at f2;have a2:(es.toList.map (·.key))[j]'(by simpa using jl)=kv x:=by rw[List.getElem_map,Option.some.inj f2,f3]
    rw[<-a2];exact List.set_getElem_self _
   rw[this];exact nd
theorem M.look (K:aEn P k ok kv) (ht:P.underlying t=some (.map k el)) {z:Value} (hz:(zeroValue el).run P w=.ok z w) (h:M B w0 w (yO ok kv b g::l)) {x:κ} (hx:ok x) (c:Bool):
  (Instr.lookup t (.map (some b)) (kv x) c).run P w=.ok (if c then .tuple #[(g x).getD z,.bool (g x).isSome]else (g x).getD z) w:=by
 obtain⟨f,hf,_⟩:=h.first;exact hf.1.look K ht hz hx c
theorem M.store (K:aEn P k ok kv) (ht:P.underlying t=some (.map k el)) (h:M B w0 w (yO ok kv b g::l)) {x:κ} (hx:ok x) (v:Value):
  ∃w',(Instr.mapUpdate t (.map (some b)) (kv x) v).run P w=.ok () w'/\M B w0 w' (yO ok kv b (fun y=>if y=x then some v else g y)::l)/\w'.heap.size=w.heap.size:=by
 obtain⟨f,hf,_⟩:=h.first;obtain⟨es,c,hr,hm⟩:=hf.1.store K ht hx v;refine⟨_,hr,h.turn fun f hf _ _=>⟨⟨rfl,rfl,rfl,by simp[setBlock],fun q _ hq=>?_⟩,[b],⟨hm,rfl⟩,pB _,fun y hy=>.inl (by rw[hf.2];exact hy)⟩,by simp[setBlock]⟩;rw[hf.2]at hq;have ne:¬b=q:=fun e=>hq (by simp[e])
 simp[setBlock,Array.getElem?_setIfInBounds,ne]
theorem aLv (K:aEn P k ok kv) (ht:P.underlying t=some (.map k el)) (h:M B w0 w (yO ok kv b g::l)) {x:κ} (hx:ok x) {o:Oper} {a:Act} {N:Act->World->Prop} {Q:Exit->Act->World->Prop} {mo ko vo:Operand} (hop:o.op=.mapUpdate t mo ko vo) {v:Value}
  (hm:a.eval mo=.map (some b)) (hk:a.eval ko=kv x) (hv:a.eval vo=v) (n:∀w',M B w0 w' (yO ok kv b (fun y=>if y=x then some v else g y)::l)->w'.heap.size=w.heap.size->N (a.put o.dst undef) w'):o.wp P a w N Q:=by
 obtain⟨w',hr,hM,hs⟩:=h.store K ht hx v;unfold Oper.wp;simp[execOp,hop,hm,hk,hv,hr,Result.andThen,Oper.upon];exact n w' hM hs
theorem aEy (K:aEn P k ok kv) (ht:P.underlying t=some (.map k el)) (h:M B w0 w (yO ok kv b g::l)) {x:κ} (hx:ok x) {ops:Array Oper} {rest:List Oper} {o:Oper} {a:Act} {Q:Exit->Act->World->Prop} {mo ko vo:Operand} (hgd:o.guard=none) (hop:o.op=.mapUpdate t mo ko vo) {v:Value}
  (hm:a.eval mo=.map (some b)) (hk:a.eval ko=kv x) (hv:a.eval vo=v) (n:∀w',M B w0 w' (yO ok kv b (fun y=>if y=x then some v else g y)::l)->w'.heap.size=w.heap.size->wpList P ops Q rest (a.put o.dst undef) w'):wpList P ops Q (o::rest) a w:=
 wpList_plain hgd fun _ hK=>aLv K ht h hx hop hm hk hv fun w' h1 h2=>hK _ _ (n w' h1 h2)
end
end Go.Proofs.YtcblbdpdbggkbaaGreat
namespace Go.Proofs.YtcblbdpdbggkbaaGreat
open _root_.Go.Proofs.Tryz
open Go
section
variable {P:Program} {ops:Array Oper} {Q:Exit->Act->World->Prop} {md:Region.Mode} {S:World->Prop} {n:Nat}
def wpL (P:Program) (md:Region.Mode) (ops:Array Oper) (Q:Exit->Act->World->Prop) (S:World->Prop) (n:Nat):Nat->Array Bool->Act->World->Prop
 | 0,listed,a,w=>Region.ready md ops listed=[]/\Q .normal a w
 |fuel+1,listed,a,w=>
  (Region.ready md ops listed=[]->Q .normal a w)/\
  ∀i ∈ Region.ready md ops listed,wpOp P ops Q i (fun a' w'=>(i=n\/S w')/\wpL P md ops Q S n fuel (listed.setIfInBounds i true) a' w') a w
theorem aAc:∀(fuel:Nat) (listed:Array Bool) (a:Act) (w:World),wpL P md ops Q S n fuel listed a w->wpAny P md ops Q fuel listed a w
 | 0,_,_,_,h=>h
 |fuel+1,_,_,_,h=>⟨h.1,fun i hi=>wpOp_mono (fun a' w' h'=>aAc fuel _ a' w' h'.2) (h.2 i hi)⟩
def uW (md:Region.Mode) (ops:Array Oper) (listed:Array Bool):Prop:=∀j o,ops[j]? =some o->listed.getD j false=true->∀e ∈ o.after,Region.binds md e=true->listed.getD e.on false=true
def qV (md:Region.Mode) (ops:Array Oper) (k:Nat):List Nat:=match ops[k]? with
 |some o=>(o.after.toList.filter fun e=>Region.binds md e).map fun e=>e.on
 |none=>[]
def aEj (md:Region.Mode) (ops:Array Oper):Nat->List Nat->List Nat
 | 0,s=>s
 |k+1,s=>aEj md ops k (if s.contains k then qV md ops k++s else s)
theorem uW.waits {listed:Array Bool} (h:uW md ops listed) {k:Nat} (hk:listed.getD k false=true):∀i ∈ qV md ops k,listed.getD i false=true:=fun i hi=>by
 unfold qV at hi;cases ho:ops[k]? with
 |none=>rw[ho]at hi;cases hi
 |some o=>
  rw[ho]at hi;obtain⟨e,he,rfl⟩:=List.mem_map.1 hi;obtain⟨he,hb⟩:=List.mem_filter.1 he;exact h k o ho hk e (Array.mem_toList_iff.1 he) hb
theorem uW.ups {listed:Array Bool} (h:uW md ops listed):∀(k:Nat) (s:List Nat),(∀i ∈ s,listed.getD i false=true)->∀i ∈ aEj md ops k s,listed.getD i false=true
 | 0,_,hs=>hs
 |k+1,s,hs=>by
  unfold aEj;refine h.ups k _ fun i hi=>?_
  split at hi
  ·rename_i hc
   rcases List.mem_append.1 hi with hi|hi
   ·exact h.waits (hs k (by simpa using hc)) i hi
   ·exact hs i hi
  ·exact hs i hi
theorem uW.set {listed:Array Bool} (h:uW md ops listed) {i:Nat} (hi:i ∈ Region.ready md ops listed):uW md ops (listed.setIfInBounds i true):=fun j o ho hj e he hb=>by
 by_cases ij:i=j
 ·subst ij
  obtain⟨_,o',ho',hall⟩:=mem_ready.1 hi;rw[ho]at ho';cases ho';exact getD_set_true (hall e he hb)
 ·rw[getD_set_ne false ij]at hj
  exact getD_set_true (h j o ho hj e he hb)
theorem uW.none (k:Nat):uW md ops (Array.replicate k false):=fun j o _ hj=>by
 exfalso
 rcases Nat.lt_or_ge j k with q|q
 ·simp[q]at hj
 ·simp[q]at hj
theorem aIi {i:Nat} (h:(match ops[n]? with|some o=>(o.after.any fun e=>Region.binds md e&&e.on==i) || (aEj md ops n (qV md ops n)).contains i|none=>true)=true) {listed:Array Bool} (hs:uW md ops listed) (hu:listed.getD i true=false):n ∉ Region.ready md ops listed:=fun hr=>by
 have hu':listed.getD i false=false:=by
  rcases Nat.lt_or_ge i listed.size with h'|h'
  ·simp[h']at hu ⊢;exact hu
  ·simp[Array.getElem?_eq_none h']at hu
 obtain⟨_,o,ho,hall⟩:=mem_ready.1 hr;rw[ho]at h;rcases Bool.or_eq_true _ _ ▸ h with h|h
 ·obtain⟨e,he,hb⟩:=Array.any_eq_true'.1 h
  simp only[Bool.and_eq_true,beq_iff_eq]at hb;have h1:=hall e he hb.1;rw[hb.2,hu']at h1;cases h1
 ·have h1:=hs.ups n (qV md ops n) (fun k hk=>by
      unfold qV at hk
      rw[ho]at hk
      obtain⟨e,he,rfl⟩:=List.mem_map.1 hk
      obtain⟨he,hb⟩:=List.mem_filter.1 he
      exact hall e (Array.mem_toList_iff.1 he) hb) i (by simpa using h)
  rw[hu']at h1;cases h1
theorem aI1 {i:Nat} {oi:Oper} {v:Value} (hi:ops[i]? =some oi) (hsel:∀(j:Nat) (o:Oper) cs b,ops[j]? =some o->o.op≠.select cs b)
  (hQ:∀c a w,Q (.panic c) (a.put oi.dst v) w->Q (.panic c) a w) (hn:∀listed:Array Bool,uW md ops listed->listed.getD i true=false->n ∉ Region.ready md ops listed):
  ∀(fuel:Nat) (listed:Array Bool) (a:Act) (w:World),uW md ops listed->
   (∀j oj,ops[j]? =some oj->j≠i->listed.getD j true=false->(∀e ∈ oj.after,Region.binds md e=true->e.on≠i)->oi.apart ops oj=true)->
   i ∈ Region.ready md ops listed->YieldsIf P ops S oi v a->S w->
   wpL P md ops Q S n fuel (listed.setIfInBounds i true) (a.put oi.dst v) w->wpL P md ops Q S n (fuel+1) listed a w:=by
 intro fuel
 induction fuel with
 |zero=>
  intro listed a w _ _ hr hy hS H;refine⟨fun h=>(by rw[h]at hr;cases hr),fun j hj=>?_⟩
  by_cases hji:j=i
  ·subst hji;exact hy.wpOp hi hS ⟨.inr hS,H⟩
  ·have:=ready_mono hj hji
   rw[H.1]at this;cases this
 |succ fuel ih=>
  intro listed a w hsh hfree hr hy hS H;refine⟨fun h=>(by rw[h]at hr;cases hr),fun j hj=>?_⟩
  by_cases hji:j=i
  ·subst hji;exact hy.wpOp hi hS ⟨.inr hS,H⟩
  ·by_cases hjn:j=n
   ·subst hjn;exact absurd hj (hn listed hsh (mem_ready.1 hr).1)
   have h1:=H.2 j (ready_mono hj hji);obtain⟨hjun,oj,hoj,hall⟩:=mem_ready.1 hj;have hnot:∀e ∈ oj.after,Region.binds md e=true->e.on≠i:=fun e he hb heq=>by
    have h1:=hall e he hb;have h0:=(mem_ready.1 hr).1;rw[heq]at h1;rcases Nat.lt_or_ge i listed.size with h'|h'
    ·simp[h']at h0 h1;rw[h0]at h1;cases h1
    ·simp[Array.getElem?_eq_none h']at h1
   have h2:=wpOp_putIf hoj (hfree j oj hoj hji hjun hnot) (fun cs b=>hsel i oi cs b hi) (fun cs b=>hsel j oj cs b hoj) hQ hy h1;have hfree':∀k ok,ops[k]? =some ok->k≠i->(listed.setIfInBounds j true).getD k true=false->
     (∀e ∈ ok.after,Region.binds md e=true->e.on≠i)->oi.apart ops ok=true:=fun k ok hk hki hun hno=>by
    refine hfree k ok hk hki ?_ hno
    by_cases hjk:j=k
    ·subst hjk;exact hjun
    ·rw[getD_set_ne true hjk]at hun;exact hun
   refine wpOp_mono (fun a' w' h3=>?_) h2;have s:=h3.2.1.resolve_left hjn;refine⟨.inr s,ih (listed.setIfInBounds j true) a' w' (hsh.set hj) hfree' (ready_mono hr (Ne.symm hji)) h3.1 s ?_⟩;rw[Array.setIfInBounds_comm _ _ hji];exact h3.2.2
inductive Tr where
 |done
 |take (i:Nat) (t:Tr)
 |alt (i:Nat) (t more:Tr)
 |nomore
def Tr.idx:Tr->List Nat
 | .alt i _ m=>i::m.idx
 |_=>[]
def Tr.isDone:Tr->Bool
 | .done=>true
 |_=>false
def Tr.chk (md:Region.Mode) (ops:Array Oper) (n:Nat):Bool->Array Bool->Tr->Bool
 |_,listed,.done=>(Region.ready md ops listed).isEmpty
 |_,listed,.take i t=>Region.noSelect ops&&Region.free md ops listed i&&(Region.ready md ops listed).contains i&&(match ops[n]? with|some o=>(o.after.any fun e=>Region.binds md e&&e.on==i) || (aEj md ops n (qV md ops n)).contains i|none=>true)&&t.chk md ops n true (listed.setIfInBounds i true)
 |head,listed,.alt i t m=>(Region.ready md ops listed).contains i&&(i != n || t.isDone)&&(!head || Region.ready md ops listed==i::m.idx)&&t.chk md ops n true (listed.setIfInBounds i true)&&m.chk md ops n false listed
 |head,_,.nomore=> !head
def Tr.size:Tr->Nat
 | .done=>0
 | .take _ t=>t.size+1
 | .alt _ t m=>max (t.size+1) m.size
 | .nomore=>0
def gI (P:Program) (ops:Array Oper) (Q:Exit->Act->World->Prop) (S:World->Prop) (n:Nat):Tr->Act->World->Prop
 | .done,a,w=>Q .normal a w
 | .take i t,a,w=>∃o v,ops[i]? =some o/\YieldsIf P ops S o v a/\gI P ops Q S n t (a.put o.dst v) w
 | .alt i t m,a,w=>wpOp P ops Q i (fun a' w'=>(i=n\/S w')/\gI P ops Q S n t a' w') a w/\gI P ops Q S n m a w
 | .nomore,_,_=>True
theorem Tr.isDone_iff {t:Tr}:t.isDone=true↔t=.done:=by cases t<;>simp[Tr.isDone]
theorem mR (hQ:∀c a (d:Tmp) v w,Q (.panic c) (Act.put a (some d) v) w->Q (.panic c) a w):∀(t:Tr) (head:Bool) (listed:Array Bool) (a:Act) (w:World),uW md ops listed->t.chk md ops n head listed=true->gI P ops Q S n t a w->
  (head=true->(S w\/t=.done)->∀F,t.size<=F->wpL P md ops Q S n F listed a w)/\(S w->∀j ∈ t.idx,∀F,t.size<=F+1->wpOp P ops Q j (fun a' w'=>(j=n\/S w')/\wpL P md ops Q S n F (listed.setIfInBounds j true) a' w') a w)
 | .done,head,listed,a,w,hsh,c,h=>by
  refine⟨fun _ _ F _=>?_,fun _ j hj=>by cases hj⟩;have e:Region.ready md ops listed=[]:=List.isEmpty_iff.1 c;cases F with
  |zero=>exact⟨e,h⟩
  |succ F=>exact⟨fun _=>h,fun i hi=>by rw[e]at hi;cases hi⟩
 | .take i t,head,listed,a,w,hsh,c,h=>by
  refine⟨fun hh hs F hF=>?_,fun _ j hj=>by cases hj⟩;obtain⟨o,v,ho,hy,hr⟩:=h;simp only[Tr.chk,Bool.and_eq_true]at c;obtain⟨⟨⟨⟨c1,c2⟩,c3⟩,c4⟩,c5⟩:=c;have s:S w:=hs.resolve_right (fun q=>by cases q);simp only[Tr.size]at hF;obtain⟨F',rfl⟩:∃F',F=F'+1:=⟨F - 1,o_⟩
  exact aI1 ho (Region.noSelect_spec c1) (fun c a w=>by cases hd:o.dst with
      |none=>exact id
      |some d=>exact hQ c a d v w) (fun l hl hu=>aIi c4 hl hu) F' listed a w hsh (Region.free_spec ho c2) (by simpa using c3) hy s
   ((mR hQ t true _ _ w (hsh.set (by simpa using c3)) c5 hr).1 rfl (.inl s) F' o_)
 | .alt i t m,head,listed,a,w,hsh,c,h=>by
  simp only[Tr.chk,Bool.and_eq_true]at c;obtain⟨⟨⟨⟨cr,c0⟩,c1⟩,c2⟩,c3⟩:=c;have one:∀F,t.size<=F->wpOp P ops Q i (fun a' w'=>(i=n\/S w')/\wpL P md ops Q S n F (listed.setIfInBounds i true) a' w') a w:=fun F hF=>
   wpOp_mono (fun a' w' h'=>⟨h'.1,(mR hQ t true _ a' w' (hsh.set (by simpa using cr)) c2 h'.2).1 rfl (by
        rcases h'.1 with q|q
        · refine .inr (Tr.isDone_iff.1 ?_)
          simpa[q]using c0
        · exact .inl q) F hF⟩) h.1
  have all:S w->∀j ∈ i::m.idx,∀F,max (t.size+1) m.size<=F+1->wpOp P ops Q j (fun a' w'=>(j=n\/S w')/\wpL P md ops Q S n F (listed.setIfInBounds j true) a' w') a w:=fun s j hj F hF=>by
   rcases List.mem_cons.1 hj with rfl|hj
   ·exact one F o_
   ·exact (mR hQ m false listed a w hsh c3 h.2).2 s j hj F o_
  refine⟨fun hh hs F hF=>?_,fun s j hj F hF=>all s j hj F hF⟩;have s:S w:=hs.resolve_right (fun q=>by cases q);simp only[Tr.size]at hF;obtain⟨F',rfl⟩:∃F',F=F'+1:=⟨F - 1,o_⟩
  subst hh;have e:Region.ready md ops listed=i::m.idx:=by simpa using c1
  exact⟨fun q=>(by rw[e]at q;cases q),fun j hj=>all s j (by rw[<-e];exact hj) F' hF⟩
 | .nomore,head,listed,a,w,_,c,h=>⟨fun hh=>(by subst hh;cases c),fun _ j hj=>(by cases hj)⟩
theorem aC {id:Nat} {a:Act} {w:World} (n:Nat) (t:Tr) (S:World->Prop) (hm:P.follows .mixedOrders=true) (hc:(t.chk .any ops n true (Array.replicate ops.size false)&&decide (t.size<=ops.size))=true)
  (hQ:∀c a (d:Tmp) v w,Q (.panic c) (Act.put a (some d) v) w->Q (.panic c) a w) (hS:S w.drew) (h:gI P ops Q S n t a w.drew):(Code.region id ops true).wp P Q a w:=by
 simp only[Bool.and_eq_true,decide_eq_true_eq]at hc;exact wp_region_any hm (aAc _ _ _ _ ((mR hQ t true _ a w.drew (uW.none _) hc.1 h).1 rfl (.inl hS) _ hc.2))
theorem cX {i:Nat} {t:Tr} {a:Act} {w:World} {o:Oper} (ho:ops[i]? =some o) (hw:Region.wanted o (yielded ops a.tmps)=true) (h:∃v,(∀w',S w'->(execOp a.eval o).run P w'=.ok (.value v) w')/\gI P ops Q S n t (a.put o.dst v) w):gI P ops Q S n (.take i t) a w:=
 let ⟨v,hv,h⟩:=h;⟨o,v,ho,.inl ⟨hw,hv⟩,h⟩
theorem cZ {i:Nat} {t:Tr} {a:Act} {w:World} {o:Oper} (ho:ops[i]? =some o) (hw:Region.wanted o (yielded ops a.tmps)=false) (h:gI P ops Q S n t (a.put o.dst undef) w):gI P ops Q S n (.take i t) a w:=
 ⟨o,undef,ho,.inr ⟨hw,rfl⟩,h⟩
theorem aEB {i:Nat} {t m:Tr} {a:Act} {w:World} {o:Oper} (ho:ops[i]? =some o) (h:∀K:Act->World->Prop,(∀a' w',(i=n\/S w')->gI P ops Q S n t a' w'->K a' w')->if Region.wanted o (yielded ops a.tmps)=true then Oper.wp P o a w K Q else K (a.put o.dst undef) w)
  (hm:gI P ops Q S n m a w):gI P ops Q S n (.alt i t m) a w:=
 ⟨wpOp_step ho fun K' hK=>h K' fun a' w' h1 h2=>hK a' w' ⟨h1,h2⟩,hm⟩
theorem aB {i:Nat} {t:Tr} {a:Act} {w:World} {o:Oper} (ho:ops[i]? =some o) (h:∀K:Act->World->Prop,(∀a' w',(i=n\/S w')->gI P ops Q S n t a' w'->K a' w')->if Region.wanted o (yielded ops a.tmps)=true then Oper.wp P o a w K Q else K (a.put o.dst undef) w):gI P ops Q S n (.alt i t .nomore) a w:=
 aEB ho h trivial
theorem aG {a:Act} {w:World} (h:Q .normal a w):gI P ops Q S n .done a w:=h
theorem tA_ {i:Nat} {t:Tr} {a:Act} {w:World} {o:Oper} {v:Value} {X:Prop} (h:X) (ho:ops[i]? =some o:=by rfl) (hw:Region.wanted o (yielded ops a.tmps)=true:=by rfl) (hv:∀w',S w'->(execOp a.eval o).run P w'=.ok (.value v) w':=by intro w' hw';(try dsimp only at hw');go_simp;(try with_reducible rfl))
  (e:gI P ops Q S n t (a.put o.dst v) w=X:=by simp only[Act.put,List.getElem_toArray,List.getElem_cons_succ,pg3,pg4,pg5,pg6];rfl):gI P ops Q S n (.take i t) a w:=⟨o,v,ho,.inl ⟨hw,hv⟩,e.mpr h⟩
theorem tC_ {i:Nat} {t:Tr} {a:Act} {w:World} {o:Oper} {v:Value} {X:Prop} (h:X) (ho:ops[i]? =some o:=by rfl) (hw:Region.wanted o (yielded ops a.tmps)=true:=by rfl) (hv:∀w',S w'->(execOp a.eval o).run P w'=.ok (.value v) w':=by intro w' hw';(try simp only[bD,aIp,b4L,b5L,b6L,b7L,oV,N.zY,and_true]at hw');go_simp;(try with_reducible rfl))
  (e:gI P ops Q S n t (a.put o.dst v) w=X:=by simp only[Act.put,List.getElem_toArray,List.getElem_cons_succ,pg3,pg4,pg5,pg6];rfl):gI P ops Q S n (.take i t) a w:=⟨o,v,ho,.inl ⟨hw,hv⟩,e.mpr h⟩
theorem tB_ {i:Nat} {t:Tr} {a:Act} {w:World} {o:Oper} {X:Prop} (h:X) (ho:ops[i]? =some o:=by rfl) (hw:Region.wanted o (yielded ops a.tmps)=false:=by rfl)
  (e:gI P ops Q S n t (a.put o.dst undef) w=X:=by simp only[Act.put,List.getElem_toArray,List.getElem_cons_succ,pg3,pg4,pg5,pg6];rfl):gI P ops Q S n (.take i t) a w:=⟨o,undef,ho,.inr ⟨hw,rfl⟩,e.mpr h⟩
theorem tP_ {p X:Prop} (h:X) (e:p=X:=by simp only[Act.put,List.getElem_toArray,List.getElem_cons_succ,pg3,pg4,pg5,pg6];rfl):p:=e.mpr h
end
end Go.Proofs.YtcblbdpdbggkbaaGreat
namespace Go.Proofs.YtcblbdpdbggkbaaGreat
open _root_.Go.Proofs.Tryz
open Go.RowKit Go.Sort
theorem pg3 {α:Type _} (a:α) (r:List α) (h:0<(a::r).length):(a::r)[0]=a:=rfl
theorem pg4 {α:Type _} (l:List α) (i:Nat) (a:α):l.toArray.setIfInBounds i a=(l.set i a).toArray:=List.setIfInBounds_toArray l i a
theorem pg5 {α:Type _} (a b:α) (r:List α):(a::r).set 0 b=b::r:=rfl
theorem pg6 {α:Type _} (a b:α) (r:List α) (i:Nat):(a::r).set (i+1) b=a::r.set i b:=rfl
def Tr.tk:Nat->Nat->Tr->Tr
 |_,0,t=>t
 |a,k+1,t=>.take a (Tr.tk (a+1) k t)
end Go.Proofs.YtcblbdpdbggkbaaGreat
