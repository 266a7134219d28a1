/-
  What the law FnNetNew needs of the texts before it, part 3.
-/
import Derived.Carry
import Derived.Deep.DeepCutAuto
import Derived.Deep.MidRow
import Derived.Handy
import Derived.KernelRfl
import Derived.Maps.Own
import Derived.RangeFuncBox
import Derived.WalkSmall
import Derived.Test.YtcblbdpdbggkbaaGreatSFnNetNew2
set_option maxRecDepth 100000
set_option maxHeartbeats 16000000
set_option linter.unusedVariables false
set_option linter.unusedSectionVars false
set_option linter.unusedSimpArgs false
set_option linter.unusedVariables false
namespace Go.Proofs.YtcblbdpdbggkbaaGreat
open Go.RowKit Go.Sort
structure Sm where
 rs:List (List Int)
 zs:List Int
 ps:List T.Pr
 lo:Int
 al:Int
 ks:List K.Pr
 ka:Int
def noSm:Sm:=⟨[],[],[],0,0,[],0⟩
def newSm:Sm:=⟨zero3,[],[],0,0,[],0⟩
def okS (s:Sm):Bool:=okB s.rs&&(fewB s.zs&&(T.topB s.ps s.lo s.al&&(K.rankB s.ks s.ka&&(decide (allV s.rs=s.al)&&(decide (s.al=s.ka)&&decide (0<s.zs.length↔0<s.al))))))
structure Ok (s:Sm):Prop where
 r:okB s.rs=true
 f:fewB s.zs=true
 t:T.topB s.ps s.lo s.al=true
 k:K.rankB s.ks s.ka=true
 ra:allV s.rs=s.al
 ta:s.al=s.ka
 fa:0<s.zs.length↔0<s.al
theorem okS_iff (s:Sm):okS s=true↔Ok s:=by
 unfold okS;simp only[Bool.and_eq_true,decide_eq_true_eq];exact⟨fun⟨a,b,c,d,e,f,g⟩=>⟨a,b,c,d,e,f,g⟩,fun⟨a,b,c,d,e,f,g⟩=>⟨a,b,c,d,e,f,g⟩⟩
theorem okS_no:okS noSm=false:=rfl
theorem okS_new:okS newSm=true:=by decide+kernel
theorem Ok.al0 {s:Sm} (h:Ok s):0<=s.al/\s.al<=2000:=by
 have:=((T.topB_iff _ _ _).1 h.t).1;exact this.2.2
def addOkS (s:Sm) (t:Int):Bool:=okS s&&(decide (0<=t/\t<=63)&&decide (s.al<2000))
def addS0 (s:Sm) (t:Int):Sm:=⟨addV s.rs t 1,addF s.zs t,(T.addT s.ps s.lo s.al t).1,(T.addT s.ps s.lo s.al t).2.1,(T.addT s.ps s.lo s.al t).2.2,(K.addK s.ks s.ka t).1,(K.addK s.ks s.ka t).2⟩
def addS (s:Sm) (t:Int):Sm:=if addOkS s t=true then addS0 s t else noSm
theorem addS_no {s:Sm} {t:Int} (h:addOkS s t=false):addS s t=noSm:=if_neg (by rw[h];simp)
theorem addS_yes {s:Sm} {t:Int} (h:addOkS s t=true):addS s t=addS0 s t:=if_pos h
theorem addOkS_iff (s:Sm) (t:Int):addOkS s t=true↔Ok s/\(0<=t/\t<=63)/\s.al<2000:=by
 unfold addOkS;simp only[Bool.and_eq_true,decide_eq_true_eq,okS_iff]
structure AddAll (s:Sm) (u:Int):Prop where
 ok:Ok s
 thing:0<=u/\u<=63
 room:s.al<2000
 r:addB s.rs u 1=true
 f:addOkF s.zs u=true
 t:T.addOk s.ps s.lo s.al u=true
 k:K.addOkK s.ks s.ka u=true
theorem addAll {s:Sm} {t:Int} (h:addOkS s t=true):AddAll s t:=by
 obtain⟨ok,ht,hr⟩:=(addOkS_iff s t).1 h;have ra:=ok.ra;have ta:=ok.ta;refine⟨ok,ht,hr,(addB_iff _ _ _).2 ⟨ok.r,ht.1,by omega,by omega,by omega⟩,?_,?_,?_⟩
 ·unfold addOkF inThings
  rw[ok.f,decide_eq_true (by omega)];rfl
 ·unfold T.addOk T.isT
  rw[ok.t,decide_eq_true (by omega),decide_eq_true (by omega)];rfl
 ·unfold K.addOkK
  rw[ok.k,decide_eq_true (by omega),decide_eq_true (by omega)];rfl
theorem addS_ok {s:Sm} {t:Int} (h:addOkS s t=true):Ok (addS s t)/\(addS s t).al=s.al+1:=by
 have A:=addAll h;have R:=okB_add A.r;have F:=add_again A.f;have M:=T.addMore A.t;have S:=K.addK_say A.k;have f0:0<(addF s.zs t).length:=by
  apply Classical.byContradiction;intro q;have e:addF s.zs t=[]:=List.eq_nil_of_length_eq_zero (by omega);rw[addF_yes A.f,put_join (few_asc A.ok.f)]at e;have:markV t ∈ unionL s.zs [markV t]:=(union_mem _ _ _).2 (.inr (by simp));unfold joinV6 at e;have e':unionL s.zs [markV t]=[]:=by
   cases hq:unionL s.zs [markV t]with
   |nil=>rfl
   |cons x l=>rw[hq]at e;simp at e
  rw[e']at this;simp at this
 rw[addS_yes h];have a0:=A.ok.al0;refine⟨⟨R.1,F.1,M.top,(K.rankB_iff _ _).2 S.2.2.2.1,?_,?_,?_⟩,M.na'⟩
 ·show allV (addV s.rs t 1)=(T.addT s.ps s.lo s.al t).2.2
  rw[R.2,M.na',A.ok.ra]
 ·show (T.addT s.ps s.lo s.al t).2.2=(K.addK s.ks s.ka t).2
  rw[M.na',S.2.2.1,A.ok.ta]
 ·show 0<(addF s.zs t).length↔0<(T.addT s.ps s.lo s.al t).2.2
  rw[M.na'];exact⟨fun _=>by omega,fun _=>f0⟩
def joinOkS (a b:Sm):Bool:=okS a&&(okS b&&decide (a.al+b.al<=2000))
def joinS0 (a b:Sm):Sm:=⟨joinV a.rs b.rs,joinF a.zs b.zs,(T.joinT a.ps a.lo a.al b.ps b.lo b.al).1,(T.joinT a.ps a.lo a.al b.ps b.lo b.al).2.1,(T.joinT a.ps a.lo a.al b.ps b.lo b.al).2.2,(K.joinK a.ks a.ka b.ks b.ka).1,(K.joinK a.ks a.ka b.ks b.ka).2⟩
def joinS (a b:Sm):Sm:=if joinOkS a b=true then joinS0 a b else noSm
theorem joinS_no {a b:Sm} (h:joinOkS a b=false):joinS a b=noSm:=if_neg (by rw[h];simp)
theorem joinS_yes {a b:Sm} (h:joinOkS a b=true):joinS a b=joinS0 a b:=if_pos h
theorem joinOkS_iff (a b:Sm):joinOkS a b=true↔Ok a/\Ok b/\a.al+b.al<=2000:=by
 unfold joinOkS;simp only[Bool.and_eq_true,decide_eq_true_eq,okS_iff]
structure JoinAll (a b:Sm):Prop where
 oka:Ok a
 okb:Ok b
 room:a.al+b.al<=2000
 r:joinB a.rs b.rs=true
 f:joinOkF a.zs b.zs=true
 t:T.joinOk a.ps a.lo a.al b.ps b.lo b.al=true
 k:K.joinOkK a.ks a.ka b.ks b.ka=true
theorem joinAll {a b:Sm} (h:joinOkS a b=true):JoinAll a b:=by
 obtain⟨oa,ob,hr⟩:=(joinOkS_iff a b).1 h;have:=oa.ra;have:=oa.ta;have:=ob.ra;have:=ob.ta;refine⟨oa,ob,hr,(joinB_iff _ _).2 ⟨oa.r,ob.r,by omega⟩,?_,?_,?_⟩
 ·unfold joinOkF
  rw[oa.f,ob.f];rfl
 ·unfold T.joinOk
  rw[oa.t,ob.t,decide_eq_true (by omega)];rfl
 ·unfold K.joinOkK
  rw[oa.k,ob.k,decide_eq_true (by omega)];rfl
theorem union_nil {zs ys:List Int}:(0<(joinV6 zs ys).length)↔(0<zs.length\/0<ys.length):=by
 have key:joinV6 zs ys=[]↔zs=[]/\ys=[]:=by
  unfold joinV6
  constructor
  ·intro e
   have e':unionL zs ys=[]:=by
    cases hq:unionL zs ys with
    |nil=>rfl
    |cons x l=>rw[hq]at e;simp at e
   have none:∀z,z ∉ unionL zs ys:=by rw[e'];simp
   constructor
   ·cases zs with
    |nil=>rfl
    |cons z l=>exact absurd ((union_mem ys (z::l) z).2 (.inl (by simp))) (none z)
   ·cases ys with
    |nil=>rfl
    |cons z l=>exact absurd ((union_mem (z::l) zs z).2 (.inr (by simp))) (none z)
  ·rintro⟨rfl,rfl⟩;rfl
 rw[List.length_pos_iff,List.length_pos_iff,List.length_pos_iff]
 constructor
 ·intro h
  apply Classical.byContradiction;intro q;exact h (key.2 ⟨Classical.byContradiction fun e=>q (.inl e),Classical.byContradiction fun e=>q (.inr e)⟩)
 ·intro h e
  obtain⟨e1,e2⟩:=key.1 e;rcases h with h|h
  ·exact h e1
  ·exact h e2
theorem joinS_ok {a b:Sm} (h:joinOkS a b=true):Ok (joinS a b)/\(joinS a b).al=a.al+b.al:=by
 have A:=joinAll h;have R:=okB_join A.r;have M:=T.joinMore A.t;have S:=K.joinK_say A.k;have a0:=A.oka.al0;have b0:=A.okb.al0;rw[joinS_yes h];refine⟨⟨R.1,joinF_few _ _,M.top,(K.rankB_iff _ _).2 S.2.2.2.2.2.1,?_,?_,?_⟩,M.na'⟩
 ·show allV (joinV a.rs b.rs)=(T.joinT a.ps a.lo a.al b.ps b.lo b.al).2.2
  rw[R.2,M.na',A.oka.ra,A.okb.ra]
 ·show (T.joinT a.ps a.lo a.al b.ps b.lo b.al).2.2=(K.joinK a.ks a.ka b.ks b.ka).2
  rw[M.na',S.2.2.2.2.1,A.oka.ta,A.okb.ta]
 ·show 0<(joinF a.zs b.zs).length↔0<(T.joinT a.ps a.lo a.al b.ps b.lo b.al).2.2
  rw[M.na',joinF_yes A.f,union_nil,A.oka.fa,A.okb.fa];omega
def oneS (t:Int):Sm:=addS newSm t
theorem new_ok:Ok newSm:=(okS_iff _).1 okS_new
theorem one_addOk (t:Int):addOkS newSm t=decide (0<=t/\t<=63):=by
 unfold addOkS;rw[okS_new];show (true&&(_&&decide ((0:Int)<2000)))=_
 simp
theorem one_rank:∀t:Fin 64,K.addK [] 0 (t.val:Int)=([(64+(t.val:Int),1)],1):=by decide+kernel
theorem one_top:∀t:Fin 64,T.addT [] 0 0 (t.val:Int)=([((t.val:Int),1)],0,1):=by decide+kernel
theorem one_few:∀t:Fin 64,addF [] (t.val:Int)=[markV (t.val:Int)]:=by decide+kernel
theorem one_rows:∀t:Fin 64,addV zero3 (t.val:Int) 1=oneV (t.val:Int) 1:=by decide+kernel
theorem one_is {t:Int} (h0:0<=t) (h1:t<=63):oneS t=⟨oneV t 1,[markV t],[(t,1)],0,1,[(64+t,1)],1⟩:=by
 obtain⟨n,rfl⟩:=Int.eq_ofNat_of_zero_le h0;have hn:n<64:=by omega
 have a:=one_rank ⟨n,hn⟩;have b:=one_top ⟨n,hn⟩;have c:=one_few ⟨n,hn⟩;have d:=one_rows ⟨n,hn⟩;simp only at a b c d;unfold oneS;rw[addS_yes (by rw[one_addOk];simp;omega)];unfold addS0 newSm;simp only[a,b,c,d]
theorem one_no {t:Int} (h:¬(0<=t/\t<=63)):oneS t=noSm:=addS_no (by rw[one_addOk];exact decide_eq_false h)
theorem join_oneOk (s:Sm) (t:Int):joinOkS s (oneS t)=addOkS s t:=by
 by_cases h:0<=t/\t<=63
 ·have o:=(addS_ok (s:=newSm) (t:=t) (by rw[one_addOk];exact decide_eq_true h))
  have e:(oneS t).al=1:=o.2;unfold joinOkS addOkS;rw[(okS_iff (oneS t)).2 o.1,e,decide_eq_true h,show decide (s.al+1<=2000)=decide (s.al<2000)from decide_eq_decide.2 ⟨fun q=>by omega,fun q=>by omega⟩]
 ·rw[one_no h]
  unfold joinOkS addOkS;rw[okS_no,decide_eq_false h];cases okS s<;>rfl
theorem joinS_one (s:Sm) (t:Int):joinS s (oneS t)=addS s t:=by
 by_cases h:addOkS s t=true
 ·have A:=addAll h
  rw[addS_yes h,joinS_yes (by rw[join_oneOk];exact h),one_is A.thing.1 A.thing.2];unfold joinS0 addS0;simp only;rw[T.joinT_one,joinF_add, <-addV_join A.r,(K.add_join s.ks s.ka t A.thing).2]
 ·rw[Bool.not_eq_true]at h
  rw[addS_no h,joinS_no (by rw[join_oneOk];exact h)]
def upS (l:List Int):Sm:=l.foldl addS newSm
theorem upS_snoc (l:List Int) (t:Int):upS (l++[t])=addS (upS l) t:=by simp[upS]
theorem up_take {l:List Int} {k:Nat} (hk:k<l.length):upS (l.take (k+1))=addS (upS (l.take k)) (l.getD k 0):=by
 rw[List.take_succ_eq_append_getElem hk,upS_snoc];simp[hk]
theorem up_ind {P:List Int->Sm->Prop} (h0:P [] newSm) (h1:∀l s t,P l s->AddAll s t->P (l++[t]) (addS0 s t)):∀l:List Int,okS (upS l)=true->P l (upS l):=by
 have key:∀n (l:List Int),l.length=n->okS (upS l)=true->P l (upS l):=by
  intro n
  induction n with
  |zero=>intro l hl _;obtain rfl:=List.eq_nil_of_length_eq_zero hl;exact h0
  |succ n ih=>
   intro l hl ok;have e:l=l.take n++[l.getD n 0]:=by
    conv=>lhs;rw[<-List.take_of_length_le (Nat.le_of_eq hl)]
    rw[List.take_succ_eq_append_getElem (by omega)];simp[show n<l.length by omega]
   rw[e]at ok ⊢;rw[upS_snoc]at ok ⊢
   by_cases ha:addOkS (upS (l.take n)) (l.getD n 0)=true
   ·have A:=addAll ha
    rw[addS_yes ha];exact h1 _ _ _ (ih (l.take n) (by simp;omega) ((okS_iff _).2 A.ok)) A
   ·rw[Bool.not_eq_true]at ha
    rw[addS_no ha]at ok;exact absurd ok (by rw[okS_no];simp)
 exact fun l=>key l.length l rfl
theorem okS_up {l:List Int} (h:okS (upS l)=true):(upS l).al=l.length/\∀t ∈ l,0<=t/\t<=63:=by
 refine up_ind (P:=fun l s=>s.al=l.length/\∀t ∈ l,0<=t/\t<=63) ⟨rfl,by simp⟩ (fun l s t hp A=>⟨?_,fun u hu=>?_⟩) l h
 ·have:=(addS_ok (s:=s) (t:=t) ((addOkS_iff _ _).2 ⟨A.ok,A.thing,A.room⟩))
  rw[addS_yes ((addOkS_iff _ _).2 ⟨A.ok,A.thing,A.room⟩)]at this;rw[this.2,hp.1];simp
 ·rcases List.mem_append.1 hu with q|q
  ·exact hp.2 u q
  ·rw[List.mem_singleton.1 q];exact A.thing
theorem up_fine {l:List Int} (h:∀t ∈ l,0<=t/\t<=63) (hl:l.length<=2000):okS (upS l)=true:=by
 have key:∀n,n<=l.length->okS (upS (l.take n))=true:=by
  intro n
  induction n with
  |zero=>intro _;rw[List.take_zero];exact okS_new
  |succ n ih=>
   intro hn;have ok:=ih (by omega);rw[up_take (by omega)];have g:=h (l.getD n 0) (getD_mem l n 0 (by omega));have e:=(okS_up ok).1;rw[List.length_take]at e;have ha:addOkS (upS (l.take n)) (l.getD n 0)=true:=(addOkS_iff _ _).2 ⟨(okS_iff _).1 ok,g,by omega⟩;exact (okS_iff _).2 (addS_ok ha).1
 have:=key l.length lr_;rwa[List.take_length]at this
theorem up_no {l:List Int} (h:okS (upS l)=false):upS l=noSm:=by
 have key:∀n,n<=l.length->okS (upS (l.take n))=true\/upS (l.take n)=noSm:=by
  intro n
  induction n with
  |zero=>intro _;left;rw[List.take_zero];exact okS_new
  |succ n ih=>
   intro hn;rw[up_take (by omega)]
   by_cases ha:addOkS (upS (l.take n)) (l.getD n 0)=true
   ·left;exact (okS_iff _).2 (addS_ok ha).1
   ·rw[Bool.not_eq_true]at ha
    right;exact addS_no ha
 have:=key l.length lr_;rw[List.take_length,h]at this;rcases this with q|q
 ·cases q
 ·exact q
end Go.Proofs.YtcblbdpdbggkbaaGreat
set_option linter.unusedVariables false
namespace Go.Proofs.YtcblbdpdbggkbaaGreat
open Go.RowKit Go.Sort
theorem OwnI.keep {w w':World} {B:Nat} {v:Value} {zs:List Int} {row:Option Nat} (h:OwnI w B v zs) (hg:w.grownBy w' row) (hr:v.ownBlock≠row):OwnI w' B v zs:=World.ownsRow.kept h hg (.inr hr)
theorem OwnI.below {w w':World} {B:Nat} {v:Value} {zs:List Int} (h:OwnI w B v zs) (hb:Below w.heap.size w w'):OwnI w' B v zs:=h.kept (row:=Option.none) (grownBy_below hb) (fun _ e=>by cases e)
theorem OwnI.lt {w:World} {B:Nat} {p:Value} {zs:List Int} (hp:OwnI w B p zs):∀k,p.ownBlock=some k->k<w.heap.size:=fun k e=>(World.ownsRow.lt hp k e).2
theorem boxed_below {W w':World} {b:Nat} {t:TypeId} {v:Value} (h:Go.Boxed W b t v) (hb:Below W.heap.size W w'):Go.Boxed w' b t v:=(hb.block _ h.lt).trans h
def OwnRR (W:World) (B T:Nat) (v:Value) (rs:List (List Int)):Prop:=∃G C,OwnR W B v rs G C/\(∀k,v.ownBlock=some k->k<T)/\(∀i,i<rs.length->G i<T)/\T<=W.heap.size
theorem OwnR.bounds {W:World} {B:Nat} {v:Value} {rs:List (List Int)} {G C:Nat->Nat} (h:OwnR W B v rs G C):OwnRR W B W.heap.size v rs:=
 ⟨G,C,h,fun k e=>(World.ownsRow.lt h.hdr k e).2,fun i hi=>((h.row i hi).lt (G i) rfl).2,Nat.le_refl _⟩
theorem OwnRR.top {W:World} {B T:Nat} {v:Value} {rs:List (List Int)} (h:OwnRR W B T v rs):T<=W.heap.size:=by obtain⟨_,_,_,_,_,h⟩:=h;exact h
theorem OwnRR.rd {W:World} {B T:Nat} {v:Value} {rs:List (List Int)} (h:OwnRR W B T v rs):Rws W v rs:=by obtain⟨G,C,h,_⟩:=h;exact h.rws
theorem OwnRR.below {W W':World} {B T:Nat} {v:Value} {rs:List (List Int)} (h:OwnRR W B T v rs) (hb:Below W.heap.size W W'):OwnRR W' B T v rs:=by
 obtain⟨G,C,h,h1,h2,h3⟩:=h;exact⟨G,C,h.below hb lr_,h1,h2,Nat.le_trans h3 hb.size⟩
theorem OwnRR.alloc {W:World} {B T:Nat} {v:Value} {rs:List (List Int)} (h:OwnRR W B T v rs) (o:Obj):OwnRR (W.alloc o) B T v rs:=h.below ((Below.refl _ _).alloc lr_ o)
theorem OwnRR.nil (W:World) (B T:Nat) (hT:T<=W.heap.size):OwnRR W B T (.slice none 0 0) []:=
 ⟨fun _=>0,fun _=>0,⟨World.ownsRow_nil W B _ 1,fun i hi=>absurd hi (Nat.not_lt_zero i),fun i hi=>absurd hi (Nat.not_lt_zero i),fun i j hi=>absurd hi (Nat.not_lt_zero i)⟩,(fun k e=>by cases e),(fun i hi=>absurd hi (Nat.not_lt_zero i)),hT⟩
theorem EndR.own {w w':World} {ok:Bool} {rs:List (List Int)} {e:Ending} (h3:ok=true->rs.length=3) (h:EndR w ok rs e w'):
  ∃x c,e=.returned (.tuple #[.agg #[.slice x (resV ok rs).length c],.bool ok])/\OwnRR w' w.heap.size w'.heap.size (.slice x (resV ok rs).length c) (resV ok rs)/\Below w.heap.size w w':=by
 obtain⟨x,m,c,he,hb,h0,h1⟩:=h;cases ok with
 |false=>obtain⟨rfl,rfl,rfl⟩:=h0 rfl;exact⟨none,0,he,OwnRR.nil _ _ _ lr_,hb⟩
 |true=>
  obtain⟨rfl,G,C,ho⟩:=h1 rfl;have e3:(resV true rs).length=3:=h3 rfl;rw[e3];exact⟨x,c,he,ho.bounds,hb⟩
theorem ownsRow_keptB {w w':World} {B:Nat} {e:TypeId} {size:Nat} {v:Value} {n:Nat} {xs:List Value} {S:Nat->Prop} (h:w.ownsRow B e size v n xs) (hk:KeptB S w w') (hS:∀k,v.ownBlock=some k->¬S k):w'.ownsRow B e size v n xs:=by
 obtain⟨h1,h2⟩:=h;refine⟨h1,?_⟩;rcases h2 with h2|⟨g,cap,cur,hv,hg,hh,r⟩
 ·exact .inl h2
 ·refine .inr ⟨g,cap,cur,hv,hg,?_,r⟩
  rw[hk.block g (Array.getElem?_eq_some_iff.1 hh).1 (hS g (by rw[hv];rfl))];exact hh
theorem OwnRR.keptB {w w':World} {B T:Nat} {v:Value} {rs:List (List Int)} {S:Nat->Prop} (h:OwnRR w B T v rs) (hk:KeptB S w w') (hS:∀k,B<=k->k<T->¬S k):OwnRR w' B T v rs:=by
 obtain⟨G,C,h,h1,h2,h3⟩:=h;refine⟨G,C,⟨ownsRow_keptB h.hdr hk fun k e=>hS k (World.ownsRow.lt h.hdr k e).1 (h1 k e),fun i hi=>ownsRow_keptB (h.row i hi) hk fun k e=>?_,h.off,h.apart⟩,h1,h2,Nat.le_trans h3 hk.size⟩;have l:=(World.ownsRow.lt (h.row i hi) k e).1;have e':G i=k:=by simpa[rowV,Value.ownBlock]using e
 exact hS k l (by rw[<-e'];exact h2 i hi)
def addA (rs:List (List Int)) (t n:Int):List (List Int):=resV (addB rs t n) (addV rs t n)
def joinA (ra rb:List (List Int)):List (List Int):=resV (joinB ra rb) (joinV ra rb)
theorem imAddRR (W:World) (u:Value) (rs:List (List Int)) (t n:Int) (h:Rws W u rs):Calls Tryz.prog 231 #[.agg #[u],.int .i64 t,.int .i64 n] W fun e w'=>∃x c,e=.returned (.tuple #[.agg #[.slice x (addA rs t n).length c],.bool (addB rs t n)])/\OwnRR w' W.heap.size w'.heap.size (.slice x (addA rs t n).length c) (addA rs t n)/\Below W.heap.size W w':=
 (imAdd_end W u rs t n h).mono fun _ _ he=>he.own (fun _=>rfl)
theorem imJoinRR (W:World) (u v:Value) (ra rb:List (List Int)) (ha:Rws W u ra) (hb:Rws W v rb):Calls Tryz.prog 195 #[.agg #[u],.agg #[v]] W fun e w'=>∃x c,e=.returned (.tuple #[.agg #[.slice x (joinA ra rb).length c],.bool (joinB ra rb)])/\OwnRR w' W.heap.size w'.heap.size (.slice x (joinA ra rb).length c) (joinA ra rb)/\Below W.heap.size W w':=
 (imJoin_end W u v ra rb ha hb).mono fun _ _ he=>he.own (fun _=>rfl)
end Go.Proofs.YtcblbdpdbggkbaaGreat
set_option linter.unusedVariables false
namespace Go.Proofs.YtcblbdpdbggkbaaGreat
open Go.RowKit Go.Sort
def Box7 (W:World) (b:Nat) (t:TypeId) (x0 x1 x2 x3 x4 x5 x6:Value):Prop:=W.heap[b]? =some (.cells #[x0,x1,x2,x3,x4,x5,x6] t (0,0))
section
variable {W W':World} {b:Nat} {t:TypeId} {x0 x1 x2 x3 x4 x5 x6:Value}
theorem Box7.lt (h:Box7 W b t x0 x1 x2 x3 x4 x5 x6):b<W.heap.size:=(Array.getElem?_eq_some_iff.1 h).1
theorem Box7.new (W:World) (t:TypeId) (x0 x1 x2 x3 x4 x5 x6:Value):Box7 (W.alloc (.cells #[x0,x1,x2,x3,x4,x5,x6] t)) W.heap.size t x0 x1 x2 x3 x4 x5 x6:=heap_alloc_new W _
theorem Box7.below (h:Box7 W b t x0 x1 x2 x3 x4 x5 x6) {B:Nat} (hb:Below B W W') (hB:b<B):Box7 W' b t x0 x1 x2 x3 x4 x5 x6:=(hb.block b hB).trans h
theorem Box7.later (h:Box7 W b t x0 x1 x2 x3 x4 x5 x6) (hb:Below W.heap.size W W'):Box7 W' b t x0 x1 x2 x3 x4 x5 x6:=h.below hb h.lt
theorem Box7.drew (h:Box7 W b t x0 x1 x2 x3 x4 x5 x6):Box7 W.drew b t x0 x1 x2 x3 x4 x5 x6:=h
theorem Box7.alloc (h:Box7 W b t x0 x1 x2 x3 x4 x5 x6) (o:Obj):Box7 (W.alloc o) b t x0 x1 x2 x3 x4 x5 x6:=h.later ((Below.refl _ _).alloc lr_ o)
theorem Box7.kept {row:Option Nat} (h:Box7 W b t x0 x1 x2 x3 x4 x5 x6) (hg:W.grownBy W' row) (hr:row≠some b):Box7 W' b t x0 x1 x2 x3 x4 x5 x6:=(hg.block b h.lt (fun e=>hr e.symm)).trans h
theorem Box7.cell0 (h:Box7 W b t x0 x1 x2 x3 x4 x5 x6):W.cell? ⟨b,0,none⟩=some x0:=by unfold Box7 at h;simp[World.cell?,h]
theorem Box7.cell1 (h:Box7 W b t x0 x1 x2 x3 x4 x5 x6):W.cell? ⟨b,1,none⟩=some x1:=by unfold Box7 at h;simp[World.cell?,h]
theorem Box7.cell2 (h:Box7 W b t x0 x1 x2 x3 x4 x5 x6):W.cell? ⟨b,2,none⟩=some x2:=by unfold Box7 at h;simp[World.cell?,h]
theorem Box7.cell3 (h:Box7 W b t x0 x1 x2 x3 x4 x5 x6):W.cell? ⟨b,3,none⟩=some x3:=by unfold Box7 at h;simp[World.cell?,h]
theorem Box7.cell4 (h:Box7 W b t x0 x1 x2 x3 x4 x5 x6):W.cell? ⟨b,4,none⟩=some x4:=by unfold Box7 at h;simp[World.cell?,h]
theorem Box7.cell5 (h:Box7 W b t x0 x1 x2 x3 x4 x5 x6):W.cell? ⟨b,5,none⟩=some x5:=by unfold Box7 at h;simp[World.cell?,h]
theorem Box7.cell6 (h:Box7 W b t x0 x1 x2 x3 x4 x5 x6):W.cell? ⟨b,6,none⟩=some x6:=by unfold Box7 at h;simp[World.cell?,h]
theorem Box7.cells (h:Box7 W b t x0 x1 x2 x3 x4 x5 x6):W.cell? ⟨b,0,none⟩=some x0/\W.cell? ⟨b,1,none⟩=some x1/\W.cell? ⟨b,2,none⟩=some x2/\W.cell? ⟨b,3,none⟩=some x3/\W.cell? ⟨b,4,none⟩=some x4/\W.cell? ⟨b,5,none⟩=some x5/\W.cell? ⟨b,6,none⟩=some x6:=
 ⟨h.cell0,h.cell1,h.cell2,h.cell3,h.cell4,h.cell5,h.cell6⟩
theorem Box7.free (h:Box7 W b t x0 x1 x2 x3 x4 x5 x6) (i:Nat):W.frozen? ⟨b,i,none⟩=false:=by unfold Box7 at h;simp[World.frozen?,h]
theorem Box7.set0 (h:Box7 W b t x0 x1 x2 x3 x4 x5 x6) (u:Value):Box7 (W.setCell ⟨b,0,none⟩ u) b t u x1 x2 x3 x4 x5 x6:=by unfold Box7 at h ⊢;rw[heap_setCell_same W b 0 _ _ _ h];rfl
theorem Box7.set1 (h:Box7 W b t x0 x1 x2 x3 x4 x5 x6) (u:Value):Box7 (W.setCell ⟨b,1,none⟩ u) b t x0 u x2 x3 x4 x5 x6:=by unfold Box7 at h ⊢;rw[heap_setCell_same W b 1 _ _ _ h];rfl
theorem Box7.set2 (h:Box7 W b t x0 x1 x2 x3 x4 x5 x6) (u:Value):Box7 (W.setCell ⟨b,2,none⟩ u) b t x0 x1 u x3 x4 x5 x6:=by unfold Box7 at h ⊢;rw[heap_setCell_same W b 2 _ _ _ h];rfl
theorem Box7.set3 (h:Box7 W b t x0 x1 x2 x3 x4 x5 x6) (u:Value):Box7 (W.setCell ⟨b,3,none⟩ u) b t x0 x1 x2 u x4 x5 x6:=by unfold Box7 at h ⊢;rw[heap_setCell_same W b 3 _ _ _ h];rfl
theorem Box7.set4 (h:Box7 W b t x0 x1 x2 x3 x4 x5 x6) (u:Value):Box7 (W.setCell ⟨b,4,none⟩ u) b t x0 x1 x2 x3 u x5 x6:=by unfold Box7 at h ⊢;rw[heap_setCell_same W b 4 _ _ _ h];rfl
theorem Box7.set5 (h:Box7 W b t x0 x1 x2 x3 x4 x5 x6) (u:Value):Box7 (W.setCell ⟨b,5,none⟩ u) b t x0 x1 x2 x3 x4 u x6:=by unfold Box7 at h ⊢;rw[heap_setCell_same W b 5 _ _ _ h];rfl
theorem Box7.set6 (h:Box7 W b t x0 x1 x2 x3 x4 x5 x6) (u:Value):Box7 (W.setCell ⟨b,6,none⟩ u) b t x0 x1 x2 x3 x4 x5 u:=by unfold Box7 at h ⊢;rw[heap_setCell_same W b 6 _ _ _ h];rfl
theorem Box7.not_row {B:Nat} {e:TypeId} {size n:Nat} {v:Value} {xs:List Value} (h:Box7 W b t x0 x1 x2 x3 x4 x5 x6) (ht:t≠e) (ho:W.ownsRow B e size v n xs):v.ownBlock≠some b:=fun hb=>by
 rcases ho.2 with ⟨rfl,_⟩|⟨g,cap,cur,rfl,_,hg,_⟩
 ·cases hb
 ·obtain rfl:g=b:=by simpa[Value.ownBlock]using hb
  unfold Box7 at h;rw[hg]at h;cases h;exact ht rfl
end
def set7 (W:World) (b:Nat) (x0 x1 x2 x3 x4 x5 x6:Value):World:=
 ((((((W.setCell ⟨b,0,none⟩ x0).setCell ⟨b,1,none⟩ x1).setCell ⟨b,2,none⟩ x2).setCell ⟨b,3,none⟩ x3).setCell ⟨b,4,none⟩ x4).setCell ⟨b,5,none⟩ x5).setCell ⟨b,6,none⟩ x6
theorem set7_grown (W:World) (b:Nat) (x0 x1 x2 x3 x4 x5 x6:Value):W.grownBy (set7 W b x0 x1 x2 x3 x4 x5 x6) (some b):=
 grownBy_trans (grownBy_trans (grownBy_trans (grownBy_trans (grownBy_trans (grownBy_trans (grownBy_setCell W ⟨b,0,none⟩ x0) (grownBy_setCell _ ⟨b,1,none⟩ x1)) (grownBy_setCell _ ⟨b,2,none⟩ x2)) (grownBy_setCell _ ⟨b,3,none⟩ x3)) (grownBy_setCell _ ⟨b,4,none⟩ x4)) (grownBy_setCell _ ⟨b,5,none⟩ x5)) (grownBy_setCell _ ⟨b,6,none⟩ x6)
theorem Box7.set {W:World} {b:Nat} {t:TypeId} {x0 x1 x2 x3 x4 x5 x6:Value} (h:Box7 W b t x0 x1 x2 x3 x4 x5 x6) (y0 y1 y2 y3 y4 y5 y6:Value):Box7 (set7 W b y0 y1 y2 y3 y4 y5 y6) b t y0 y1 y2 y3 y4 y5 y6:=
 ((((((h.set0 y0).set1 y1).set2 y2).set3 y3).set4 y4).set5 y5).set6 y6
theorem below_set7 {B b:Nat} {w W:World} (h:Below B w W) (hb:B<=b) (x0 x1 x2 x3 x4 x5 x6:Value):Below B w (set7 W b x0 x1 x2 x3 x4 x5 x6):=((((((h.setCell hb _).setCell hb _).setCell hb _).setCell hb _).setCell hb _).setCell hb _).setCell hb _
theorem set7_size (W:World) (b:Nat) (x0 x1 x2 x3 x4 x5 x6:Value):(set7 W b x0 x1 x2 x3 x4 x5 x6).heap.size=W.heap.size:=by unfold set7;simp
structure SV where
 xr:Option Addr
 nr:Nat
 cr:Nat
 xf:Option Addr
 nf:Nat
 cf:Nat
 xt:Option Addr
 nt:Nat
 ct:Nat
 xk:Option Addr
 nk:Nat
 ck:Nat
def SV.none:SV:=⟨.none,0,0,.none,0,0,.none,0,0,.none,0,0⟩
def SV.r (V:SV):Value:=.slice V.xr V.nr V.cr
def SV.f (V:SV):Value:=.slice V.xf V.nf V.cf
def SV.t (V:SV):Value:=.slice V.xt V.nt V.ct
def SV.k (V:SV):Value:=.slice V.xk V.nk V.ck
theorem Ints.len {w:World} {x:Option Addr} {n c:Nat} {zs:List Int} (h:Ints w (.slice x n c) zs):n=zs.length:=by
 rcases h with ⟨e,rfl⟩|⟨b,o,cap,e,_⟩
 ·simp at e;simp[e]
 ·simp at e;omega
theorem Rws.len {w:World} {x:Option Addr} {n c:Nat} {zs:List (List Int)} (h:Rws w (.slice x n c) zs):n=zs.length:=by
 rcases h with ⟨e,rfl⟩|⟨b,o,cap,e,_⟩
 ·simp at e;simp[e]
 ·simp at e;omega
theorem T.Prs.len {w:World} {x:Option Addr} {n c:Nat} {zs:List T.Pr} (h:T.Prs w (.slice x n c) zs):n=zs.length:=by
 rcases h with ⟨e,rfl⟩|⟨b,o,cap,e,_⟩
 ·simp at e;simp[e]
 ·simp at e;omega
theorem K.Prs.len {w:World} {x:Option Addr} {n c:Nat} {zs:List K.Pr} (h:K.Prs w (.slice x n c) zs):n=zs.length:=by
 rcases h with ⟨e,rfl⟩|⟨b,o,cap,e,_⟩
 ·simp at e;simp[e]
 ·simp at e;omega
structure RdS (w:World) (V:SV) (s:Sm):Prop where
 r:Rws w V.r s.rs
 f:Ints w V.f s.zs
 t:T.Prs w V.t s.ps
 k:K.Prs w V.k s.ks
theorem RdS.below {w w':World} {V:SV} {s:Sm} (h:RdS w V s) {B:Nat} (hb:Below B w w') (hB:w.heap.size<=B):RdS w' V s:=⟨h.r.below hb hB,h.f.below hb hB,h.t.below hb hB,h.k.below hb hB⟩
theorem RdS.lens {w:World} {V:SV} {s:Sm} (h:RdS w V s):V.nr=s.rs.length/\V.nf=s.zs.length/\V.nt=s.ps.length/\V.nk=s.ks.length:=⟨Rws.len h.r,Ints.len h.f,T.Prs.len h.t,K.Prs.len h.k⟩
theorem RdS.later {w w':World} {V:SV} {s:Sm} (h:RdS w V s) (hb:Below w.heap.size w w'):RdS w' V s:=h.below hb lr_
structure OwnS (w:World) (B U:Nat) (V:SV) (s:Sm):Prop where
 mid:∃M,B<=M/\M<=U/\OwnRR w B M V.r s.rs/\OwnI w M V.f s.zs
 t:T.OwnP w B V.t s.ps
 k:K.OwnP w B V.k s.ks
 ft:∀g,V.f.ownBlock=some g->g<U
 tt:∀g,V.t.ownBlock=some g->g<U
 kt:∀g,V.k.ownBlock=some g->g<U
 top:U<=w.heap.size
theorem OwnS.rd {w:World} {B U:Nat} {V:SV} {s:Sm} (h:OwnS w B U V s):RdS w V s:=by
 obtain⟨M,_,_,hr,hf⟩:=h.mid;exact⟨hr.rd,hf.rd,h.t.rd,h.k.rd⟩
theorem OwnRR.base {w:World} {B B' U:Nat} {v:Value} {rs:List (List Int)} (h:OwnRR w B U v rs) (hB:B'<=B):OwnRR w B' U v rs:=by
 obtain⟨G,C,h,h1,h2,h3⟩:=h;exact⟨G,C,⟨ownsRow_base h.hdr hB,fun i hi=>ownsRow_base (h.row i hi) hB,h.off,h.apart⟩,h1,h2,h3⟩
theorem OwnRR.upto {w:World} {B U U':Nat} {v:Value} {rs:List (List Int)} (h:OwnRR w B U v rs) (hU:U<=U') (hU':U'<=w.heap.size):OwnRR w B U' v rs:=by
 obtain⟨G,C,h,h1,h2,h3⟩:=h;exact⟨G,C,h,fun k e=>Nat.lt_of_lt_of_le (h1 k e) hU,fun i hi=>Nat.lt_of_lt_of_le (h2 i hi) hU,hU'⟩
theorem OwnS.base {w:World} {B B' U U':Nat} {V:SV} {s:Sm} (h:OwnS w B U V s) (hB:B'<=B) (hT:U<=U') (hU':U'<=w.heap.size):OwnS w B' U' V s:=by
 obtain⟨M,h1,h2,hr,hf⟩:=h.mid;exact⟨⟨M,by omega,by omega,hr.base hB,hf⟩,ownsRow_base h.t hB,ownsRow_base h.k hB,fun g e=>by have:=h.ft g e;omega,fun g e=>by have:=h.tt g e;omega,fun g e=>by have:=h.kt g e;omega,hU'⟩
theorem OwnS.none (w:World) (B U:Nat) (hB:B<=U) (hT:U<=w.heap.size):OwnS w B U SV.none noSm:=
 ⟨⟨U,hB,Nat.le_refl _,OwnRR.nil _ _ _ hT,World.ownsRow_nil _ _ _ _⟩,World.ownsRow_nil _ _ _ _,World.ownsRow_nil _ _ _ _,fun _ e=>(by cases e),fun _ e=>(by cases e),fun _ e=>(by cases e),hT⟩
end Go.Proofs.YtcblbdpdbggkbaaGreat
set_option linter.unusedVariables false
namespace Go.Proofs.YtcblbdpdbggkbaaGreat
open Go.RowKit Go.Sort
structure Small (s:Sm):Prop where
 r:s.rs.length<=3/\∀i,i<s.rs.length->(s.rs.getD i []).length<=8
 f:s.zs.length<=6
 t:s.ps.length<=4
 k:s.ks.length<=127
theorem K.rank_len {ps:List K.Pr} {all:Int} (h:K.rankB ps all=true):ps.length<=127:=by
 have P:=(K.rankB_iff _ _).1 h
 by_cases h0:ps.length=0
 ·omega
 ·have a:=K.knG_at P.2.1 (ps.length - 1) (by omega)
  have b:=(P.2.1 (ps.length - 1) (by omega)).1.1.2;omega
theorem Ok.small {s:Sm} (h:Ok s):Small s:=by
 obtain⟨l3,g⟩:=(okB_iff _).1 h.r;exact⟨⟨Nat.le_of_eq l3,fun i hi=>Nat.le_of_eq (g i (by omega)).1⟩,((fewB_iff _).1 h.f).1,((T.topB_iff _ _ _).1 h.t).1.1,K.rank_len h.k⟩
theorem small_no:Small noSm:=⟨⟨by decide,fun i hi=>absurd hi (Nat.not_lt_zero i)⟩,by decide,by decide,by decide⟩
theorem small_of {s:Sm} (h:okS s=true\/s=noSm):Small s:=by
 rcases h with h|rfl
 ·exact ((okS_iff _).1 h).small
 ·exact small_no
theorem up_small (l:List Int):Small (upS l):=by
 cases h:okS (upS l)with
 |true=>exact small_of (.inl h)
 |false=>exact small_of (.inr (up_no h))
theorem own_ne {w:World} {B B':Nat} {e e':TypeId} {z z' n n':Nat} {u v:Value} {xs ys:List Value} (h:w.ownsRow B e z u n xs) (h':w.ownsRow B' e' z' v n' ys) (he:e≠e'):u.ownBlock=none\/u.ownBlock≠v.ownBlock:=by
 rcases h.2 with ⟨rfl,_⟩|⟨g,cap,cur,rfl,_,hg,_⟩
 ·exact .inl rfl
 ·refine .inr fun q=>?_
  rcases h'.2 with ⟨rfl,_⟩|⟨g',cap',cur',rfl,_,hg',_⟩
  ·cases q
  ·have q':g=g':=by simpa[Value.ownBlock]using q
   subst q';rw[hg]at hg';simp at hg';exact he hg'.2
end Go.Proofs.YtcblbdpdbggkbaaGreat
set_option linter.unusedVariables false
set_option linter.unusedSectionVars false
set_option linter.unusedSimpArgs false
namespace Go.Proofs.YtcblbdpdbggkbaaGreat.N
open Go.RowKit Go.Sort
structure En where
 node:Int
 born:Int
 num:Int
 s:Sm
structure Nd where
 born:Int
 known:List En
 beacon:Int
 level:Int
 up:Int
structure Wd where
 kind:Int
 src:Int
 dst:Int
 beacon:Int
 level:Int
 known:List En
structure Nt where
 nodes:List Nd
 links:List Bool
 words:List Wd
 past:List (List (List Int))
def in6 (x a b:Int):Bool:=decide (a<=x/\x<=b)
def noNd:Nd:=⟨0,[],0,0,0⟩
def noNt:Nt:=⟨[],[],[],[]⟩
def nodeAt (n:Nt) (i:Int):Nd:=n.nodes.getD i.toNat noNd
def rowsAt (n:Nt) (i:Int):List (List Int):=n.past.getD i.toNat []
def pastAt (n:Nt) (i b:Int):List Int:=(rowsAt n i).getD b.toNat []
def whole (n:Nt) (a b:Int):Bool:=n.links.getD (a * 5+b).toNat false
def isNode (i:Int):Prop:=0<=i/\i<=4
structure TrueE (n:Nt) (e:En):Prop where
 node:isNode e.node
 born:1<=e.born/\e.born<=(nodeAt n e.node).born
 num:0<=e.num/\e.num<=(pastAt n e.node e.born).length
 ok:okS (upS ((pastAt n e.node e.born).take e.num.toNat))=true
 s:e.s=upS ((pastAt n e.node e.born).take e.num.toNat)
def Before (x y:En):Prop:=x.node<y.node
structure KnownOk (n:Nt) (es:List En):Prop where
 all:∀e ∈ es,TrueE n e
 asc:es.Pairwise Before
def findE (es:List En) (i:Int):Option En:=es.find? fun e=>e.node==i
structure PastOk (n:Nt) (i:Int):Prop where
 len:((rowsAt n i).length:Int)=(nodeAt n i).born+1
 none:pastAt n i 0=[]
 few:∀l ∈ rowsAt n i,l.length<=100
 things:∀l ∈ rowsAt n i,∀t ∈ l,0<=t/\t<=63
def OwnOk (n:Nt) (i:Int):Prop:=∃e,findE (nodeAt n i).known i=some e/\e.born=(nodeAt n i).born/\e.num=(pastAt n i (nodeAt n i).born).length
structure WayOk (n:Nt) (i:Int):Prop where
 beacon:0<=(nodeAt n i).beacon/\(nodeAt n i).beacon<=(nodeAt n 0).beacon
 root:i=0->(nodeAt n i).level=0/\(nodeAt n i).up= -1
 level:i≠0->1<=(nodeAt n i).level/\(nodeAt n i).level<=5
 none:i≠0->((nodeAt n i).up= -1↔(nodeAt n i).level=5)
 up:i≠0->(-1<=(nodeAt n i).up/\(nodeAt n i).up<=4)/\(nodeAt n i).up≠i
structure WordOk (n:Nt) (w:Wd):Prop where
 src:isNode w.src
 dst:isNode w.dst
 other:w.src≠w.dst
 kind:w.kind=1/\(0<=w.beacon/\w.beacon<=(nodeAt n 0).beacon)/\(0<=w.level/\w.level<=4)/\w.known=[]\/w.kind=2/\w.beacon=0/\w.level=0/\KnownOk n w.known
structure NetOk (n:Nt):Prop where
 nodes:n.nodes.length=5
 past:n.past.length=5
 links:n.links.length=25
 words:n.words.length<=24
 born:∀i,isNode i->1<=(nodeAt n i).born/\(nodeAt n i).born<=20
 pasts:∀i,isNode i->PastOk n i
 self:∀i,isNode i->whole n i i=false
 either:∀i j,isNode i->isNode j->whole n i j=whole n j i
 own:∀i,isNode i->OwnOk n i
 known:∀i,isNode i->KnownOk n (nodeAt n i).known
 way:∀i,isNode i->WayOk n i
 word:∀w ∈ n.words,WordOk n w
 beacon:(nodeAt n 0).beacon<=1000
theorem find_none {es:List En} {i:Int} (h:∀e ∈ es,e.node≠i):findE es i=none:=by
 unfold findE;rw[List.find?_eq_none];intro e he;simpa using h e he
def l21Born (i born:Int):Nd:=⟨born,[⟨i,born,0,newSm⟩],0,if i=0 then 0 else 5, -1⟩
instance (i:Int):Decidable (isNode i):=by unfold isNode;infer_instance
def linkN (n:Nt) (a b:Int) (w:Bool):Option Nt:=
 if a=b\/whole n a b=w then none else some { n with links:=(n.links.set (a * 5+b).toNat w).set (b * 5+a).toNat w }
def pairsB:List Int->Bool
 |a::b::l=>(in6 a 0 4&&(in6 b 0 4&&decide (a≠b)))&&pairsB l
 |_=>true
def setLinks (ls:List Bool):List Int->List Bool
 |a::b::l=>setLinks ((ls.set (a * 5+b).toNat true).set (b * 5+a).toNat true) l
 |_=>ls
def baseN:Nt:=⟨(List.range 5).map (fun i:Nat=>l21Born i 1),List.replicate 25 false,[],List.replicate 5 [[],[]]⟩
def newN (l:List Int):Option Nt:=if (l.length % 2=0/\l.length<=40)/\pairsB l=true then some { baseN with links:=setLinks baseN.links l }else none
end Go.Proofs.YtcblbdpdbggkbaaGreat.N
namespace Go.Proofs.YtcblbdpdbggkbaaGreat
open Go.RowKit Go.Sort
def encP2 (p:Int × Int):List Value:=[.int .i64 p.1,.int .i64 p.2]
def pairsR:Rep (List (Int × Int)):=flR 213 2 encP2
def knotsR:Rep (List (Int × Int)):=flR 152 2 encP2
theorem pairsR_frame:pairsR.Frame:=flR_frame
theorem knotsR_frame:knotsR.Frame:=flR_frame
theorem ints_flat (zs:List Int):zs.flatMap encI=ints zs:=by
 induction zs with
 |nil=>rfl
 |cons z zs ih=>rw[List.flatMap_cons,ih];rfl
theorem intsR_of {w:World} {B:Nat} {v:Value} {zs:List Int} (h:OwnI w B v zs):intsR w [v] zs v.ownBlock.toList:=
 .inl (slc_flat_of (by rw[ints_flat];exact h) (fun _=>rfl))
theorem intsR_to {w:World} {cs:List Value} {zs:List Int} {fp:List Nat} (h:intsR w cs zs fp):∃v,cs=[v]/\Ints w v zs/\(zs≠[]->OwnI w 0 v zs/\fp=v.ownBlock.toList):=by
 rcases h with h|⟨rfl,rfl,b,o,rfl,hb⟩
 ·obtain⟨v,e,ho,hf⟩:=slc_flat_to h
  rw[ints_flat]at ho;exact⟨v,e,OwnI.rd ho,fun _=>⟨ho,hf⟩⟩
 ·exact⟨_,rfl,.inr ⟨b,o,0,rfl,Nat.le_refl _,Nat.zero_le _,hb,fun i hi=>absurd hi (Nat.not_lt_zero i)⟩,fun q=>absurd rfl q⟩
theorem pairsR_of {w:World} {B:Nat} {v:Value} {ps:List T.Pr} (h:T.OwnP w B v ps):pairsR w [v] ps v.ownBlock.toList:=.inl (slc_flat_of h (fun _=>rfl))
theorem pairsR_to {w:World} {cs:List Value} {ps:List T.Pr} {fp:List Nat} (h:pairsR w cs ps fp):∃v,cs=[v]/\T.Prs w v ps/\(ps≠[]->T.OwnP w 0 v ps/\fp=v.ownBlock.toList):=by
 rcases h with h|⟨rfl,rfl,b,o,rfl,hb⟩
 ·obtain⟨v,e,ho,hf⟩:=slc_flat_to h
  exact⟨v,e,T.OwnP.rd ho,fun _=>⟨ho,hf⟩⟩
 ·exact⟨_,rfl,.inr ⟨b,o,0,rfl,Nat.le_refl _,Nat.zero_le _,hb,fun i hi=>absurd hi (Nat.not_lt_zero i)⟩,fun q=>absurd rfl q⟩
theorem knotsR_of {w:World} {B:Nat} {v:Value} {ps:List K.Pr} (h:K.OwnP w B v ps):knotsR w [v] ps v.ownBlock.toList:=.inl (slc_flat_of h (fun _=>rfl))
theorem knotsR_to {w:World} {cs:List Value} {ps:List K.Pr} {fp:List Nat} (h:knotsR w cs ps fp):∃v,cs=[v]/\K.Prs w v ps/\(ps≠[]->K.OwnP w 0 v ps/\fp=v.ownBlock.toList):=by
 rcases h with h|⟨rfl,rfl,b,o,rfl,hb⟩
 ·obtain⟨v,e,ho,hf⟩:=slc_flat_to h
  exact⟨v,e,K.OwnP.rd ho,fun _=>⟨ho,hf⟩⟩
 ·exact⟨_,rfl,.inr ⟨b,o,0,rfl,Nat.le_refl _,Nat.zero_le _,hb,fun i hi=>absurd hi (Nat.not_lt_zero i)⟩,fun q=>absurd rfl q⟩
theorem rowsR_of {w:World} {B:Nat} {v:Value} {rs:List (List Int)} {G C:Nat->Nat} (h:OwnR w B v rs G C):rowsR w [v] rs (v.ownBlock.toList++(List.range rs.length).map G):=by
 refine⟨v,fun i=>[rowV rs G C i],fun i=>[G i],rfl,?_,fun i hi=>rfl,fun i a hi=>?_,?_⟩
 ·rw[one_flat]
  exact ownsRow_base h.hdr (Nat.zero_le _)
 ·have hlt:=(List.getElem?_eq_some_iff.1 hi).1
  have e:rs.getD i []=a:=by rw[List.getD_eq_getElem?_getD,hi];rfl
  have r:=h.row i hlt;rw[e]at r;exact intsR_of r
 ·rw[one_flat]
theorem rowsR_rd {w:World} {cs:List Value} {rs:List (List Int)} {fp:List Nat} (h:rowsR w cs rs fp):∃v,cs=[v]/\Rws w v rs:=by
 obtain⟨v,c,f,rfl,ho,hl,ha,rfl⟩:=h;refine⟨v,rfl,?_⟩;rcases ho.2 with ⟨rfl,h0⟩|⟨g,cap,cur,rfl,hb,hg,hn,hc,hs,ht⟩
 ·exact .inl ⟨rfl,List.eq_nil_of_length_eq_zero h0⟩
 ·refine .inr ⟨g,0,cap,rfl,hn,hc,(Array.getElem?_eq_some_iff.1 hg).1,fun i hi=>?_⟩
  obtain⟨x,hx,hox,_⟩:=intsR_to (ha i _ (List.getElem?_eq_getElem hi));have q:=World.ownsRow.cellAt ho i (by omega);have z:=flat_at (k:=0) hl hi (by omega);rw[Nat.mul_one,Nat.add_zero]at z;refine⟨x,by rw[Nat.zero_add,q,z,hx];rfl,?_⟩;rw[List.getD_eq_getElem?_getD,List.getElem?_eq_getElem hi];exact hox
def sumR:Rep Sm:=fun w cs s fp=>∃V f1 f2 f3 f4,cs=[.slice V.xr V.nr V.cr,.slice V.xf V.nf V.cf,.slice V.xt V.nt V.ct,.int .i64 s.lo,.int .i64 s.al,.slice V.xk V.nk V.ck,.int .i64 s.ka]/\fp=f1++(f2++(f3++f4))/\rowsR w [SV.r V] s.rs f1/\intsR w [SV.f V] s.zs f2/\pairsR w [SV.t V] s.ps f3/\knotsR w [SV.k V] s.ks f4
theorem sumR_frame:sumR.Frame:=by
 refine⟨?_,?_⟩
 ·rintro w cs s fp ⟨V,f1,f2,f3,f4,rfl,rfl,h1,h2,h3,h4⟩ b hm
  simp only[List.mem_append]at hm;rcases hm with hm|hm|hm|hm
  ·exact rowsR_frame.lt h1 b hm
  ·exact intsR_frame.lt h2 b hm
  ·exact pairsR_frame.lt h3 b hm
  ·exact knotsR_frame.lt h4 b hm
 ·rintro w w' cs s fp ⟨V,f1,f2,f3,f4,rfl,rfl,h1,h2,h3,h4⟩ hk hs
  exact⟨V,f1,f2,f3,f4,rfl,rfl,rowsR_frame.keep h1 (fun b hm=>hk b (by simp[hm])) hs,intsR_frame.keep h2 (fun b hm=>hk b (by simp[hm])) hs,pairsR_frame.keep h3 (fun b hm=>hk b (by simp[hm])) hs,knotsR_frame.keep h4 (fun b hm=>hk b (by simp[hm])) hs⟩
theorem sumR_rd {w:World} {cs:List Value} {s:Sm} {fp:List Nat} (h:sumR w cs s fp):∃V,cs=[.slice V.xr V.nr V.cr,.slice V.xf V.nf V.cf,.slice V.xt V.nt V.ct,.int .i64 s.lo,.int .i64 s.al,.slice V.xk V.nk V.ck,.int .i64 s.ka]/\RdS w V s:=by
 obtain⟨V,f1,f2,f3,f4,rfl,rfl,h1,h2,h3,h4⟩:=h;obtain⟨v1,e1,r1⟩:=rowsR_rd h1;obtain⟨v2,e2,r2,_⟩:=intsR_to h2;obtain⟨v3,e3,r3,_⟩:=pairsR_to h3;obtain⟨v4,e4,r4,_⟩:=knotsR_to h4;cases e1;cases e2;cases e3;cases e4;exact⟨V,rfl,r1,r2,r3,r4⟩
theorem OwnS.rep {w:World} {B U:Nat} {V:SV} {s:Sm} (h:OwnS w B U V s):∃fp,sumR w [.slice V.xr V.nr V.cr,.slice V.xf V.nf V.cf,.slice V.xt V.nt V.ct,.int .i64 s.lo,.int .i64 s.al,.slice V.xk V.nk V.ck,.int .i64 s.ka] s fp/\fp.Nodup/\∀b ∈ fp,B<=b/\b<U:=by
 obtain⟨M,m1,m2,⟨G,C,o,q1,q2,q3⟩,hf⟩:=h.mid;refine⟨_,⟨V,_,_,_,_,rfl,rfl,rowsR_of o,intsR_of hf,pairsR_of h.t,knotsR_of h.k⟩,?_,?_⟩
 ·have gG:∀i,i<s.rs.length->B<=G i/\G i<M:=fun i hi=>⟨((o.row i hi).lt (G i) rfl).1,q2 i hi⟩
  have gr:∀b,V.r.ownBlock=some b->B<=b/\b<M:=fun b e=>⟨(World.ownsRow.lt o.hdr b e).1,q1 b e⟩
  have gf:∀b,V.f.ownBlock=some b->M<=b:=fun b e=>(World.ownsRow.lt hf b e).1
  have tr:∀b,V.t.ownBlock=some b->V.r.ownBlock≠some b:=fun b e e'=>by
   rcases own_ne h.t o.hdr (by decide)with n|n
   ·rw[n]at e;cases e
   ·exact n (e.trans e'.symm)
  have tg:∀b,V.t.ownBlock=some b->∀i,i<s.rs.length->G i≠b:=fun b e i hi e'=>by
   rcases own_ne h.t (o.row i hi) (by decide)with n|n
   ·rw[n]at e;cases e
   ·exact n (e.trans (by rw[<-e'];rfl))
  have tf:∀b,V.t.ownBlock=some b->V.f.ownBlock≠some b:=fun b e e'=>by
   rcases own_ne h.t hf (by decide)with n|n
   ·rw[n]at e;cases e
   ·exact n (e.trans e'.symm)
  have kr:∀b,V.k.ownBlock=some b->V.r.ownBlock≠some b:=fun b e e'=>by
   rcases own_ne h.k o.hdr (by decide)with n|n
   ·rw[n]at e;cases e
   ·exact n (e.trans e'.symm)
  have kg:∀b,V.k.ownBlock=some b->∀i,i<s.rs.length->G i≠b:=fun b e i hi e'=>by
   rcases own_ne h.k (o.row i hi) (by decide)with n|n
   ·rw[n]at e;cases e
   ·exact n (e.trans (by rw[<-e'];rfl))
  have kf:∀b,V.k.ownBlock=some b->V.f.ownBlock≠some b:=fun b e e'=>by
   rcases own_ne h.k hf (by decide)with n|n
   ·rw[n]at e;cases e
   ·exact n (e.trans e'.symm)
  have kt:∀b,V.k.ownBlock=some b->V.t.ownBlock≠some b:=fun b e e'=>by
   rcases own_ne h.k h.t (by decide)with n|n
   ·rw[n]at e;cases e
   ·exact n (e.trans e'.symm)
  refine List.nodup_append.2 ⟨List.nodup_append.2 ⟨block_nodup _,?_,?_⟩,List.nodup_append.2 ⟨block_nodup _,List.nodup_append.2 ⟨block_nodup _,block_nodup _,?_⟩,?_⟩,?_⟩
  ·exact List.pairwise_map.2 (List.Pairwise.imp_of_mem (fun {i j} hi hj q e=>o.apart i j (List.mem_range.1 hi) (List.mem_range.1 hj) q e) List.nodup_range)
  ·intro a ha b hb e
   obtain⟨i,hi,rfl⟩:=List.mem_map.1 hb;exact o.off i (List.mem_range.1 hi) (by rw[block_mem ha,e])
  ·intro a ha b hb e
   exact kt b (block_mem hb) (by rw[block_mem ha,e])
  ·intro a ha b hb e
   rcases List.mem_append.1 hb with hb|hb
   ·exact tf b (block_mem hb) (by rw[block_mem ha,e])
   ·exact kf b (block_mem hb) (by rw[block_mem ha,e])
  ·intro a ha b hb e
   subst e;rcases List.mem_append.1 ha with ha|ha
   ·have e1:=block_mem ha
    rcases List.mem_append.1 hb with hb|hb
    ·have:=gf a (block_mem hb);have:=(gr a e1).2;omega
    ·rcases List.mem_append.1 hb with hb|hb
     ·exact tr a (block_mem hb) e1
     ·exact kr a (block_mem hb) e1
   ·obtain⟨i,hi,rfl⟩:=List.mem_map.1 ha
    have hi:=List.mem_range.1 hi;rcases List.mem_append.1 hb with hb|hb
    ·have:=gf _ (block_mem hb);have:=(gG i hi).2;omega
    ·rcases List.mem_append.1 hb with hb|hb
     ·exact tg _ (block_mem hb) i hi rfl
     ·exact kg _ (block_mem hb) i hi rfl
 ·intro b hb
  simp only[List.mem_append]at hb;rcases hb with (hb|hb)|hb|hb|hb
  ·have e:=block_mem hb
   have:=(World.ownsRow.lt o.hdr b e).1;have:=q1 b e;omega
  ·obtain⟨i,hi,rfl⟩:=List.mem_map.1 hb
   have hi:=List.mem_range.1 hi;have:=((o.row i hi).lt (G i) rfl).1;have:=q2 i hi;omega
  ·have e:=block_mem hb
   have:=(World.ownsRow.lt hf b e).1;have:=h.ft b e;omega
  ·have e:=block_mem hb
   exact⟨(World.ownsRow.lt h.t b e).1,h.tt b e⟩
  ·have e:=block_mem hb
   exact⟨(World.ownsRow.lt h.k b e).1,h.kt b e⟩
theorem sumR_one:sumR.One 7:=by
 refine⟨?_,?_⟩
 ·rintro w cs s fp ⟨V,f1,f2,f3,f4,rfl,_⟩;rfl
 ·rintro w cs s fp ⟨V,f1,f2,f3,f4,rfl,_,h1,h2,h3,h4⟩ u hu
  have o1:=(slcR_one intsR 23 1).one h1;have o2:=flR_one.one h2;have o3:=flR_one.one h3;have o4:=flR_one.one h4;simp only[List.mem_singleton,forall_eq]at o1 o2 o3 o4;simp only[List.mem_cons,List.not_mem_nil,or_false]at hu;rcases hu with rfl|rfl|rfl|rfl|rfl|rfl|rfl<;>first|assumption|rfl
namespace N
structure Ty where
 entry:TypeId
 node:TypeId
 word:TypeId
 bool:TypeId
 rows:TypeId
variable {T:Ty}
def encB (b:Bool):List Value:=[.bool b]
def entryR:Rep En:=viaR (andR intR (andR intR (andR intR sumR))) fun e=>(e.node,e.born,e.num,e.s)
def knownR (T:Ty):Rep (List En):=slcR T.entry 10 entryR
def nodeR (T:Ty):Rep Nd:=viaR (andR intR (andR (knownR T) (andR intR (andR intR intR)))) fun x=>(x.born,x.known,x.beacon,x.level,x.up)
def wordR (T:Ty):Rep Wd:=viaR (andR intR (andR intR (andR intR (andR intR (andR intR (knownR T)))))) fun x=>(x.kind,x.src,x.dst,x.beacon,x.level,x.known)
def nodesR (T:Ty):Rep (List Nd):=slcR T.node 5 (nodeR T)
def wordsR (T:Ty):Rep (List Wd):=slcR T.word 6 (wordR T)
def linksR (T:Ty):Rep (List Bool):=slcR T.bool 1 (flatR encB)
def pastR (T:Ty):Rep (List (List (List Int))):=slcR T.rows 1 rowsR
def netR (T:Ty):Rep Nt:=viaR (andR (nodesR T) (andR (linksR T) (andR (wordsR T) (pastR T)))) fun n=>(n.nodes,n.links,n.words,n.past)
theorem entryR_frame:entryR.Frame:=viaR_frame (andR_frame intR_frame (andR_frame intR_frame (andR_frame intR_frame sumR_frame))) _
theorem knownR_frame:(knownR T).Frame:=slcR_frame entryR_frame _ _
theorem nodeR_frame:(nodeR T).Frame:=viaR_frame (andR_frame intR_frame (andR_frame knownR_frame (andR_frame intR_frame (andR_frame intR_frame intR_frame)))) _
theorem wordR_frame:(wordR T).Frame:=viaR_frame (andR_frame intR_frame (andR_frame intR_frame (andR_frame intR_frame (andR_frame intR_frame (andR_frame intR_frame knownR_frame))))) _
theorem nodesR_frame:(nodesR T).Frame:=slcR_frame nodeR_frame _ _
theorem wordsR_frame:(wordsR T).Frame:=slcR_frame wordR_frame _ _
theorem linksR_frame:(linksR T).Frame:=slcR_frame (flatR_frame _) _ _
theorem pastR_frame:(pastR T).Frame:=slcR_frame rowsR_frame _ _
theorem netR_frame:(netR T).Frame:=viaR_frame (andR_frame nodesR_frame (andR_frame linksR_frame (andR_frame wordsR_frame pastR_frame))) _
theorem entryR_one:entryR.One 10:=viaR_one (andR_one intR_one (andR_one intR_one (andR_one intR_one sumR_one))) _
theorem nodeR_one:(nodeR T).One 5:=viaR_one (andR_one intR_one (andR_one (slcR_one _ _ _) (andR_one intR_one (andR_one intR_one intR_one)))) _
section
variable {w:World} {cs:List Value} {fp:List Nat}
theorem entryR_iff {e:En}:entryR w cs e fp↔∃c,cs=.int .i64 e.node::.int .i64 e.born::.int .i64 e.num::c/\sumR w c e.s fp:=by
 constructor
 ·rintro⟨_,_,_,_,rfl,rfl,⟨rfl,rfl⟩,⟨_,_,_,_,rfl,rfl,⟨rfl,rfl⟩,⟨_,_,_,_,rfl,rfl,⟨rfl,rfl⟩,h⟩⟩⟩
  exact⟨_,rfl,h⟩
 ·rintro⟨c,rfl,h⟩
  exact⟨[_],_,[],fp,rfl,rfl,⟨rfl,rfl⟩,⟨[_],_,[],fp,rfl,rfl,⟨rfl,rfl⟩,⟨[_],_,[],fp,rfl,rfl,⟨rfl,rfl⟩,h⟩⟩⟩
theorem nodeR_iff {x:Nd}:nodeR T w cs x fp↔∃v,cs=[.int .i64 x.born,v,.int .i64 x.beacon,.int .i64 x.level,.int .i64 x.up]/\knownR T w [v] x.known fp:=by
 constructor
 ·rintro⟨_,_,_,_,rfl,rfl,⟨rfl,rfl⟩,⟨_,_,_,_,rfl,rfl,h,⟨_,_,_,_,rfl,rfl,⟨rfl,rfl⟩,⟨_,_,_,_,rfl,rfl,⟨rfl,rfl⟩,⟨rfl,rfl⟩⟩⟩⟩⟩
  obtain⟨v,c,f,rfl,h'⟩:=h;refine⟨v,rfl,?_⟩;simp only[List.nil_append,List.append_nil];exact⟨v,c,f,rfl,h'⟩
 ·rintro⟨v,rfl,h⟩
  refine⟨[_],[v,_,_,_],[],fp,rfl,rfl,⟨rfl,rfl⟩,⟨[v],[_,_,_],fp,[],rfl,(List.append_nil _).symm,h,⟨[_],[_,_],[],[],rfl,rfl,⟨rfl,rfl⟩,⟨[_],[_],[],[],rfl,rfl,⟨rfl,rfl⟩,⟨rfl,rfl⟩⟩⟩⟩⟩
theorem wordR_iff {x:Wd}:wordR T w cs x fp↔∃v,cs=[.int .i64 x.kind,.int .i64 x.src,.int .i64 x.dst,.int .i64 x.beacon,.int .i64 x.level,v]/\knownR T w [v] x.known fp:=by
 constructor
 ·rintro⟨_,_,_,_,rfl,rfl,⟨rfl,rfl⟩,⟨_,_,_,_,rfl,rfl,⟨rfl,rfl⟩,⟨_,_,_,_,rfl,rfl,⟨rfl,rfl⟩,⟨_,_,_,_,rfl,rfl,⟨rfl,rfl⟩,⟨_,_,_,_,rfl,rfl,⟨rfl,rfl⟩,h⟩⟩⟩⟩⟩
  obtain⟨v,c,f,rfl,h'⟩:=h;exact⟨v,rfl,⟨v,c,f,rfl,h'⟩⟩
 ·rintro⟨v,rfl,h⟩
  exact⟨[_],_,[],fp,rfl,rfl,⟨rfl,rfl⟩,⟨[_],_,[],fp,rfl,rfl,⟨rfl,rfl⟩,⟨[_],_,[],fp,rfl,rfl,⟨rfl,rfl⟩,⟨[_],_,[],fp,rfl,rfl,⟨rfl,rfl⟩,⟨[_],_,[],fp,rfl,rfl,⟨rfl,rfl⟩,h⟩⟩⟩⟩⟩
theorem netR_iff {n:Nt}:netR T w cs n fp↔∃v1 v2 v3 v4 f1 f2 f3 f4,cs=[v1,v2,v3,v4]/\fp=f1++(f2++(f3++f4))/\nodesR T w [v1] n.nodes f1/\linksR T w [v2] n.links f2/\wordsR T w [v3] n.words f3/\pastR T w [v4] n.past f4:=by
 constructor
 ·rintro⟨_,_,f1,_,rfl,rfl,⟨v1,a1,b1,rfl,h1⟩,⟨_,_,f2,_,rfl,rfl,⟨v2,a2,b2,rfl,h2⟩,⟨_,_,f3,f4,rfl,rfl,⟨v3,a3,b3,rfl,h3⟩,⟨v4,a4,b4,rfl,h4⟩⟩⟩⟩
  exact⟨v1,v2,v3,v4,f1,f2,f3,f4,rfl,rfl,⟨v1,a1,b1,rfl,h1⟩,⟨v2,a2,b2,rfl,h2⟩,⟨v3,a3,b3,rfl,h3⟩,⟨v4,a4,b4,rfl,h4⟩⟩
 ·rintro⟨v1,v2,v3,v4,f1,f2,f3,f4,rfl,rfl,h1,h2,h3,h4⟩
  exact⟨[v1],[v2,v3,v4],f1,_,rfl,rfl,h1,⟨[v2],[v3,v4],f2,_,rfl,rfl,h2,⟨[v3],[v4],f3,f4,rfl,rfl,h3,h4⟩⟩⟩
end
end N
section
variable {α:Type} {A:Rep α} {e:TypeId} {size:Nat} {w:World} {B:Nat} {xs:List α} {fp:List Nat}
end
namespace N
variable {T:Ty} {w:World} {B:Nat} {n:Nt} {fp:List Nat} {v1 v2 v3 v4:Value}
section
variable {f1 f2 f3 f4:List Nat}
end
end N
end Go.Proofs.YtcblbdpdbggkbaaGreat
namespace Go.Proofs.YtcblbdpdbggkbaaGreat
open Go.RowKit Go.Sort
namespace N
variable {T:Ty} {w:World} {fp:List Nat} {x:Option Addr} {k c:Nat}
theorem known_at {es:List En} (h:knownR T w [.slice x k c] es fp) {i:Nat} {e:En} (hi:es[i]? =some e):∃(g:Nat) (V:SV) (fe:List Nat),x=some ⟨g,0,none⟩/\g<w.heap.size/\(∀b ∈ fe,b ∈ fp)/\sumR w [.slice V.xr V.nr V.cr,.slice V.xf V.nf V.cf,.slice V.xt V.nt V.ct,.int .i64 (e.s).lo,.int .i64 (e.s).al,.slice V.xk V.nk V.ck,.int .i64 (e.s).ka] e.s fe/\
  w.cell? ⟨g,i * 10,none⟩=some (.int .i64 e.node)/\w.cell? ⟨g,i * 10+1,none⟩=some (.int .i64 e.born)/\w.cell? ⟨g,i * 10+2,none⟩=some (.int .i64 e.num)/\
  ∀j z,([.slice V.xr V.nr V.cr,.slice V.xf V.nf V.cf,.slice V.xt V.nt V.ct,.int .i64 (e.s).lo,.int .i64 (e.s).al,.slice V.xk V.nk V.ck,.int .i64 (e.s).ka]:List Value)[j]? =some z->w.cell? ⟨g,i * 10+(3+j),none⟩=some z:=by
 obtain⟨_,at_⟩:=slcR_row h;obtain⟨g,ci,fi,q,h1,h2,h3,h4,h5⟩:=at_ hi;obtain⟨cs,rfl,hs⟩:=entryR_iff.1 h2;obtain⟨V,f1,f2,f3,f4,rfl,r⟩:=hs;refine⟨g,V,fi,q,h1,h3,⟨V,f1,f2,f3,f4,rfl,r⟩,h5 0 _ rfl,h5 1 _ rfl,h5 2 _ rfl,fun j z hz=>h5 (3+j) z ?_⟩;rw[Nat.add_comm];exact hz
theorem node_at {ns:List Nd} (h:nodesR T w [.slice x k c] ns fp) {i:Nat} {a:Nd} (hi:ns[i]? =some a):∃g xk ck fk,x=some ⟨g,0,none⟩/\g<w.heap.size/\(∀b ∈ fk,b ∈ fp)/\knownR T w [.slice xk a.known.length ck] a.known fk/\a.known.length<=ck/\ck<=maxLen/\
  w.cell? ⟨g,i * 5,none⟩=some (.int .i64 a.born)/\w.cell? ⟨g,i * 5+1,none⟩=some (.slice xk a.known.length ck)/\w.cell? ⟨g,i * 5+2,none⟩=some (.int .i64 a.beacon)/\w.cell? ⟨g,i * 5+3,none⟩=some (.int .i64 a.level)/\w.cell? ⟨g,i * 5+4,none⟩=some (.int .i64 a.up):=by
 obtain⟨_,at_⟩:=slcR_row h;obtain⟨g,ci,fi,q,h1,h2,h3,h4,h5⟩:=at_ hi;obtain⟨kn,rfl,hk⟩:=nodeR_iff.1 h2;obtain⟨xk,ck,rfl,l1,l2⟩:=slcR_value hk;exact⟨g,xk,ck,fi,q,h1,h3,hk,l1,l2,h5 0 _ rfl,h5 1 _ rfl,h5 2 _ rfl,h5 3 _ rfl,h5 4 _ rfl⟩
theorem wordR_at {ws:List Wd} (h:wordsR T w [.slice x k c] ws fp) {i:Nat} {a:Wd} (hi:ws[i]? =some a):∃g xk ck fk,x=some ⟨g,0,none⟩/\g<w.heap.size/\(∀b ∈ fk,b ∈ fp)/\knownR T w [.slice xk a.known.length ck] a.known fk/\a.known.length<=ck/\ck<=maxLen/\
  w.cell? ⟨g,i * 6,none⟩=some (.int .i64 a.kind)/\w.cell? ⟨g,i * 6+1,none⟩=some (.int .i64 a.src)/\w.cell? ⟨g,i * 6+2,none⟩=some (.int .i64 a.dst)/\w.cell? ⟨g,i * 6+3,none⟩=some (.int .i64 a.beacon)/\w.cell? ⟨g,i * 6+4,none⟩=some (.int .i64 a.level)/\w.cell? ⟨g,i * 6+5,none⟩=some (.slice xk a.known.length ck):=by
 obtain⟨_,at_⟩:=slcR_row h;obtain⟨g,ci,fi,q,h1,h2,h3,h4,h5⟩:=at_ hi;obtain⟨kn,rfl,hk⟩:=wordR_iff.1 h2;obtain⟨xk,ck,rfl,l1,l2⟩:=slcR_value hk;exact⟨g,xk,ck,fi,q,h1,h3,hk,l1,l2,h5 0 _ rfl,h5 1 _ rfl,h5 2 _ rfl,h5 3 _ rfl,h5 4 _ rfl,h5 5 _ rfl⟩
theorem link_at {ls:List Bool} (h:linksR T w [.slice x k c] ls fp) {i:Nat} {b:Bool} (hi:ls[i]? =some b):∃g,x=some ⟨g,0,none⟩/\g<w.heap.size/\w.cell? ⟨g,i,none⟩=some (.bool b):=by
 obtain⟨_,at_⟩:=slcR_row h;obtain⟨g,ci,fi,q,h1,h2,h3,h4,h5⟩:=at_ hi;refine⟨g,q,h1,?_⟩;have r:=h5 0 (.bool b) (by rw[h2.1];rfl);rwa[Nat.mul_one,Nat.add_zero]at r
theorem past_at {ps:List (List (List Int))} (h:pastR T w [.slice x k c] ps fp) {i:Nat} {rs:List (List Int)} (hi:ps[i]? =some rs):∃g xr cr fr,x=some ⟨g,0,none⟩/\g<w.heap.size/\(∀b ∈ fr,b ∈ fp)/\rowsR w [.slice xr rs.length cr] rs fr/\rs.length<=cr/\cr<=maxLen/\w.cell? ⟨g,i,none⟩=some (.slice xr rs.length cr):=by
 obtain⟨_,at_⟩:=slcR_row h;obtain⟨g,ci,fi,q,h1,h2,h3,h4,h5⟩:=at_ hi;obtain⟨vr,rfl⟩:∃vr,ci=[vr]:=by
  obtain⟨vr,a,b,e,_⟩:=h2;exact⟨vr,e⟩
 obtain⟨xr,cr,rfl,l1,l2⟩:=slcR_value h2;have r:=h5 0 _ rfl;rw[Nat.mul_one,Nat.add_zero]at r;exact⟨g,xr,cr,fi,q,h1,h3,h2,l1,l2,r⟩
theorem row_at {rs:List (List Int)} (h:rowsR w [.slice x k c] rs fp) {i:Nat} {l:List Int} (hi:rs[i]? =some l):∃g xr cr fr,x=some ⟨g,0,none⟩/\g<w.heap.size/\(∀b ∈ fr,b ∈ fp)/\intsR w [.slice xr l.length cr] l fr/\l.length<=cr/\cr<=maxLen/\w.cell? ⟨g,i,none⟩=some (.slice xr l.length cr):=by
 obtain⟨_,at_⟩:=slcR_row h;obtain⟨g,ci,fi,q,h1,h2,h3,h4,h5⟩:=at_ hi;obtain⟨vr,rfl⟩:∃vr,ci=[vr]:=by
  obtain⟨vr,e,_⟩:=intsR_to h2;exact⟨vr,e⟩
 obtain⟨xr,cr,rfl,l1,l2⟩:=flR_value h2;have r:=h5 0 _ rfl;rw[Nat.mul_one,Nat.add_zero]at r;exact⟨g,xr,cr,fi,q,h1,h3,h2,l1,l2,r⟩
end N
end Go.Proofs.YtcblbdpdbggkbaaGreat
set_option linter.unusedVariables false
set_option linter.unusedSectionVars false
set_option linter.unusedSimpArgs false
namespace Go.Proofs.YtcblbdpdbggkbaaGreat
open Go.RowKit Go.Sort
section
variable {w w0 w':World} {B b:Nat} {l:List Ch} {t:TypeId}
theorem M.sum {V:SV} {s:Sm} (h:M B w0 w l) (hb:Below w.heap.size w w') (ho:OwnS w' w.heap.size w'.heap.size V s):M B w0 w' (sumR_frame.ch [.slice V.xr V.nr V.cr,.slice V.xf V.nf V.cf,.slice V.xt V.nt V.ct,.int .i64 s.lo,.int .i64 s.al,.slice V.xk V.nk V.ck,.int .i64 s.ka] s::l):=by
 obtain⟨fp,h1,h2,h3⟩:=ho.rep;exact h.got sumR_frame hb ⟨h1,h2,fun b hb=>(h3 b hb).1⟩
end
namespace N
def TY:Ty:=⟨64,55,123,4,34⟩
def knownC (v:Value) (es:List En):Ch:=slcC entryR_frame 64 10 v es
def nodeC (cs:List Value) (x:Nd):Ch:=(nodeR_frame (T:=TY)).ch cs x
def nodesC (v:Value) (xs:List Nd):Ch:=slcC (nodeR_frame (T:=TY)) 55 5 v xs
def wordsC (v:Value) (xs:List Wd):Ch:=slcC (wordR_frame (T:=TY)) 123 6 v xs
def linksC (v:Value) (xs:List Bool):Ch:=slcC (flatR_frame encB) 4 1 v xs
def intsC (v:Value) (xs:List Int):Ch:=intsR_frame.ch [v] xs
def rowsC (v:Value) (xs:List (List Int)):Ch:=slcC intsR_frame 23 1 v xs
def pastC (v:Value) (xs:List (List (List Int))):Ch:=slcC rowsR_frame 34 1 v xs
theorem entS:SlT Tryz.prog 53 64 (.agg #[.int .i64 0,.int .i64 0,.int .i64 0,.slice none 0 0,.slice none 0 0,.slice none 0 0,.int .i64 0,.int .i64 0,.slice none 0 0,.int .i64 0]) 10 144:=⟨Tryz.underlying53,by kernel_rfl,rfl,by decide⟩
theorem nodeS:SlT Tryz.prog 25 55 (.agg #[.int .i64 0,.slice none 0 0,.int .i64 0,.int .i64 0,.int .i64 0]) 5 56:=⟨Tryz.underlying25,by kernel_rfl,rfl,by decide⟩
theorem linkS:SlT Tryz.prog 26 4 (.bool false) 1 1:=⟨Tryz.underlying26,by kernel_rfl,rfl,by decide⟩
theorem intS:SlT Tryz.prog 23 3 (.int .i64 0) 1 8:=⟨Tryz.underlying23,by kernel_rfl,rfl,by decide⟩
theorem rowS:SlT Tryz.prog 34 23 (.slice none 0 0) 1 24:=⟨Tryz.underlying34,by kernel_rfl,rfl,by decide⟩
theorem rowsS:SlT Tryz.prog 28 34 (.slice none 0 0) 1 24:=⟨Tryz.underlying28,by kernel_rfl,rfl,by decide⟩
section
variable {w w0 w':World} {B b:Nat} {l:List Ch}
theorem _root_.Go.Proofs.YtcblbdpdbggkbaaGreat.M.soft {α:Type} {enc:α->List Value} {e:TypeId} {size:Nat} {v:Value} {xs:List α} (h:M B w0 w (slcC (flatR_frame enc) e size v xs::l)):M B w0 w ((flR_frame (e:=e) (size:=size) (enc:=enc)).ch [v] xs::l):=
 h.to fun f hf nd=>⟨f,.inl hf,nd,fun _ hb=>hb⟩
theorem _root_.Go.Proofs.YtcblbdpdbggkbaaGreat.M.flat {α:Type} (enc:α->List Value) (a:α) (h:M B w0 w l):M B w0 w ((flatR_frame enc).ch (enc a) a::l):=
 h.add (Below.refl _ _) (f:=[]) ⟨rfl,rfl⟩ List.nodup_nil fun b hb=>by cases hb
theorem _root_.Go.Proofs.YtcblbdpdbggkbaaGreat.M.entry {V:SV} {s:Sm} (i born num:Int) (h:M B w0 w (sumR_frame.ch [.slice V.xr V.nr V.cr,.slice V.xf V.nf V.cf,.slice V.xt V.nt V.ct,.int .i64 s.lo,.int .i64 s.al,.slice V.xk V.nk V.ck,.int .i64 s.ka] s::l)):M B w0 w (entryR_frame.ch [.int .i64 i,.int .i64 born,.int .i64 num,.slice V.xr V.nr V.cr,.slice V.xf V.nf V.cf,.slice V.xt V.nt V.ct,.int .i64 s.lo,.int .i64 s.al,.slice V.xk V.nk V.ck,.int .i64 s.ka] ⟨i,born,num,s⟩::l):=
 h.to fun f hf nd=>⟨f,entryR_iff.2 ⟨_,rfl,hf⟩,nd,fun _ h=>h⟩
theorem _root_.Go.Proofs.YtcblbdpdbggkbaaGreat.M.node {v:Value} {es:List En} (born beacon level up:Int) (h:M B w0 w (knownC v es::l)):M B w0 w (nodeC [.int .i64 born,v,.int .i64 beacon,.int .i64 level,.int .i64 up] ⟨born,es,beacon,level,up⟩::l):=
 h.to fun f hf nd=>⟨f,nodeR_iff.2 ⟨_,rfl,hf⟩,nd,fun _ h=>h⟩
theorem _root_.Go.Proofs.YtcblbdpdbggkbaaGreat.M.net {v1 v2 v3 v4:Value} {ns:List Nd} {ls:List Bool} {ws:List Wd} {ps:List (List (List Int))} (h:M B w0 w (nodesC v1 ns::linksC v2 ls::wordsC v3 ws::pastC v4 ps::l)):∃fp,Sole (netR TY) B w [v1,v2,v3,v4] ⟨ns,ls,ws,ps⟩ fp:=by
 obtain⟨_,⟨f1,_,rfl,h1,⟨f2,_,rfl,h2,⟨f3,_,rfl,h3,⟨f4,f5,rfl,h4,_⟩⟩⟩⟩,nd,lo⟩:=h.own;have e:f1++(f2++(f3++(f4++f5)))=(f1++(f2++(f3++f4)))++f5:=by simp
 rw[e]at nd lo;exact⟨_,netR_iff.2 ⟨_,_,_,_,_,_,_,_,rfl,rfl,h1,h2,h3,h4⟩,(List.nodup_append.1 nd).1,fun b hb=>lo b (List.mem_append_left _ hb)⟩
end
end N
section
variable {α:Type} {A:Rep α} {e:TypeId} {size:Nat} {w w' w0:World} {B i:Nat} {l:List Ch} {xs:List α} {x:α} {v:Value} {ci:List Value}
def holeC (FA:A.Frame) (e:TypeId) (size i:Nat) (v:Value) (xs:List α) (ci:List Value):Ch:=⟨fun w fp=>∃c f,w.ownsRow 0 e size v xs.length ((List.range xs.length).map c).flatten/\(∀j,j<xs.length->(c j).length=size)/\c i=ci/\f i=[]/\(∀j a,j≠i->xs[j]? =some a->A w (c j) a (f j))/\fp=fps v xs.length f,
  fun⟨c,f,ho,_,_,hf,ha,e1⟩ b hb=>(by
    rw[e1]at hb
    rcases mem_split hb with q|⟨j,hj,q⟩
    · exact (ho.lt b q).2
    · by_cases ji:j=i
      · rw[ji,hf]at q;cases q
      · exact FA.lt (ha j _ ji (List.getElem?_eq_getElem hj)) b q),
  fun⟨c,f,ho,hl,hc,hf,ha,e1⟩ hk hs=>⟨c,f,ownsRow_same ho (fun g hg=>hk g (by rw[e1];exact mem_own hg)),hl,hc,hf,fun j a ji hj=>FA.keep (ha j a ji hj) (fun b hb=>hk b (by rw[e1];exact mem_el (List.getElem?_eq_some_iff.1 hj).1 hb)) hs,e1⟩⟩
theorem M.open (FA:A.Frame) (h:M B w0 w (slcC FA e size v xs::l)) (hi:xs[i]? =some x):∃g cap ci,v=.slice (some ⟨g,0,none⟩) xs.length cap/\ci.length=size/\M B w0 w (FA.ch ci x::holeC FA e size i v xs ci::l):=by
 have hlt:i<xs.length:=(List.getElem?_eq_some_iff.1 hi).1;obtain⟨f,hf,_⟩:=h.first;obtain⟨v',c,f,ev,E,_⟩:=slcR_els hf;cases ev;obtain⟨g,cap,ev⟩:∃g cap,v=.slice (some ⟨g,0,none⟩) xs.length cap:=by
  rcases E.own.2 with ⟨_,h0⟩|⟨g,cap,cur,e1,_⟩
  ·omega
  ·exact⟨g,cap,e1⟩
 have key:∀F,(slcC FA e size v xs).at_ w F->F.Nodup->∃F',((FA.ch (c i) x).sep (holeC FA e size i v xs (c i))).at_ w F'/\F'.Nodup/\∀b ∈ F',b ∈ F:=fun F hF nd=>by
  obtain⟨v2,c2,f2,ev2,E2,rfl⟩:=slcR_els hF;cases ev2;have ec:c2 i=c i:=by
   apply List.ext_getElem?;intro k
   by_cases hk:k<size
   ·have z1:(c i)[k]? =some ((c i)[k]'(by rw[E.len i hlt];exact hk)):=List.getElem?_eq_getElem _
    have z2:(c2 i)[k]? =some ((c2 i)[k]'(by rw[E2.len i hlt];exact hk)):=List.getElem?_eq_getElem _;obtain⟨g1,_,q1,_,_,_,_,r1⟩:=E.cell hlt z1;obtain⟨g2,_,q2,_,_,_,_,r2⟩:=E2.cell hlt z2;rw[q1]at q2;cases q2;rw[r1]at r2;rw[z1,z2,r2]
   ·rw[List.getElem?_eq_none (by rw[E2.len i hlt];omega),List.getElem?_eq_none (by rw[E.len i hlt];omega)]
  obtain⟨⟨n1,n2⟩,n3⟩:=fps_nodup.1 nd;have nh:(fps v xs.length (upd f2 i [])).Nodup:=fps_changed nd hlt List.nodup_nil (fun b hb=>by cases hb);have sub:∀b ∈ fps v xs.length (upd f2 i []),b ∈ fps v xs.length f2/\b ∉ f2 i:=fun b hb=>by
   rcases mem_split hb with q|⟨j,hj,q⟩
   ·exact⟨mem_own q,n3 b q i hlt⟩
   ·by_cases ji:j=i
    ·rw[ji,upd_same]at q;cases q
    ·rw[upd_other _ _ ji]at q
     exact⟨mem_el hj q,fun q2=>n2 j i hj hlt ji b q q2⟩
  refine⟨f2 i++fps v xs.length (upd f2 i []),⟨_,_,rfl,by rw[<-ec];exact E2.one i x hi,c2,upd f2 i [],ownsRow_base E2.own (Nat.zero_le _),E2.len,ec,upd_same _ _ _,fun j a ji hj=>by rw[upd_other _ _ ji];exact E2.one j a hj,rfl⟩,List.nodup_append.2 ⟨n1 i hlt,nh,fun a h1 b h2 e1=>(sub b h2).2 (by rw[<-e1];exact h1)⟩,fun b hb=>?_⟩;rcases List.mem_append.1 hb with q|q
  ·exact mem_el hlt q
  ·exact (sub b q).1
 exact⟨g,cap,c i,ev,E.len i hlt,(h.to key).two⟩
theorem M.close {FA:A.Frame} (h:M B w0 w (FA.ch ci x::holeC FA e size i v xs ci::l)) (hi:i<xs.length):M B w0 w (slcC FA e size v (xs.set i x)::l):=
 h.sep.to fun F hF nd=>by
  obtain⟨f1,_,rfl,hx,c,f,ho,hl,hc,hf,ha,rfl⟩:=hF;obtain⟨n1,n2,n3⟩:=List.nodup_append.1 nd;have ln:(xs.set i x).length=xs.length:=List.length_set;refine⟨fps v (xs.set i x).length (upd f i f1),Els.rep (B:=0) ⟨by rw[ln];exact ho,fun j hj=>hl j (by rw[<-ln];exact hj),fun j a hj=>?_⟩,?_,fun b hb=>?_⟩
  ·by_cases ji:j=i
   ·subst ji
    rw[upd_same];rw[List.getElem?_set_self hi]at hj;cases hj;rw[hc];exact hx
   ·rw[upd_other _ _ ji]
    rw[List.getElem?_set_ne (fun q=>ji q.symm)]at hj;exact ha j a ji hj
  ·rw[ln]
   refine fps_changed n2 hi n1 fun b hb=>.inr fun q=>n3 b hb b q rfl
  ·rw[ln]at hb
   rcases fps_mem_changed hb with q|q
   ·exact List.mem_append_right _ q
   ·exact List.mem_append_left _ q
section
variable {g n cap j:Nat} {FA:A.Frame} {u:Value}
theorem M.hcell (h:M B w0 w (holeC FA e size i (.slice (some ⟨g,0,none⟩) n cap) xs ci::l)) (hi:i<xs.length) (hj:ci[j]? =some u):w.cell? ⟨g,i * size+j,none⟩=some u:=by
 obtain⟨F,⟨c,f,ho,hl,hc,hf,ha,rfl⟩,_⟩:=h.first;have hk:j<size:=by have:=(List.getElem?_eq_some_iff.1 hj).1;rw[<-hc,hl i hi]at this;exact this
 have lt:i * size+j<xs.length * size:=by
  have:i * size+size<=xs.length * size:=by rw[<-Nat.succ_mul];exact Nat.mul_le_mul_right _ hi
  omega
 have ho':w.ownsRow 0 e size (.slice (some ⟨g,0,none⟩) xs.length cap) xs.length ((List.range xs.length).map c).flatten:=by
  rcases ho.2 with ⟨q,_⟩|⟨_,_,_,q,_⟩
  ·cases q
  ·cases q;exact ho
 have:=World.ownsRow.cellAt ho' _ lt;rw[this,flat_at hl hi hk,hc,hj]
theorem M.hfree (h:M B w0 w (holeC FA e size i (.slice (some ⟨g,0,none⟩) n cap) xs ci::l)) (k:Nat):w.frozen? ⟨g,k,none⟩=false:=by
 obtain⟨F,⟨c,f,ho,_⟩,_⟩:=h.first;rcases ho.2 with ⟨q,_⟩|⟨g',cap',cur,q,_,hg,_⟩
 ·cases q
 ·cases q;simp[World.frozen?,hg]
theorem M.hset (h:M B w0 w (holeC FA e size i (.slice (some ⟨g,0,none⟩) n cap) xs ci::l)) (hi:i<xs.length) (hj:j<size) (u:Value):M B w0 (w.setCell ⟨g,i * size+j,none⟩ u) (holeC FA e size i (.slice (some ⟨g,0,none⟩) n cap) xs (ci.set j u)::l):=
 h.turn fun F hF nd lo=>by
  obtain⟨c,f,ho,hl,hc,hf,ha,rfl⟩:=hF;obtain⟨⟨n1,n2⟩,n3⟩:=fps_nodup.1 nd;have ho':w.ownsRow 0 e size (.slice (some ⟨g,0,none⟩) xs.length cap) xs.length ((List.range xs.length).map c).flatten:=by
   rcases ho.2 with ⟨q,_⟩|⟨_,_,_,q,_⟩
   ·cases q
   ·cases q;exact ho
  have en:n=xs.length:=by
   rcases ho.2 with ⟨q,_⟩|⟨_,_,_,q,_⟩
   ·cases q
   ·cases q;rfl
  obtain⟨s1,s2⟩:=World.ownsRow.stored ho' (i * size+j) u;refine⟨KeptB.of_grown s2 (mem_own rfl),fps (.slice (some ⟨g,0,none⟩) n cap) xs.length f,⟨upd c i (ci.set j u),f,?_,fun k hk=>?_,upd_same _ _ _,hf,fun k a ki hk=>?_,rfl⟩,nd,fun b hb=>.inl hb⟩
  ·rw[<-hc, <-flat_set hl hi hj,en];exact s1
  ·by_cases q:k=i
   ·rw[q,upd_same,List.length_set, <-hc];exact hl i hi
   ·rw[upd_other _ _ q];exact hl k hk
  ·rw[upd_other _ _ ki]
   have kl:=(List.getElem?_eq_some_iff.1 hk).1;exact FA.keep (ha k a ki hk) (fun b hb=>s2.block b (FA.lt (ha k a ki hk) b hb) fun q=>n3 b q.symm k kl hb) s2.size
theorem M.hcell1 {u:Value} (h:M B w0 w (holeC FA e 1 i (.slice (some ⟨g,0,none⟩) n cap) xs [u]::l)) (hi:i<xs.length):w.cell? ⟨g,i,none⟩=some u:=by
 have:=h.hcell (j:=0) (u:=u) hi rfl;rwa[Nat.mul_one,Nat.add_zero]at this
theorem M.hset1 {u:Value} (h:M B w0 w (holeC FA e 1 i (.slice (some ⟨g,0,none⟩) n cap) xs [u]::l)) (hi:i<xs.length) (y:Value):M B w0 (w.setCell ⟨g,i,none⟩ y) (holeC FA e 1 i (.slice (some ⟨g,0,none⟩) n cap) xs [y]::l):=by
 have:=h.hset hi (j:=0) (by omega) y;rwa[Nat.mul_one,Nat.add_zero]at this
end
end
end Go.Proofs.YtcblbdpdbggkbaaGreat
set_option linter.unusedVariables false
set_option linter.unusedSectionVars false
set_option linter.unusedSimpArgs false
namespace Go.Proofs.YtcblbdpdbggkbaaGreat
open Go.RowKit Go.Sort
section
variable {α:Type} {e:TypeId} {size:Nat} {w w' w0:World} {B:Nat} {l:List Ch} {xs ys:List α} {v u:Value} {enc:α->List Value}
def RdL (enc:α->List Value) (w:World) (u:Value) (ys:List α):Prop:=(u=.slice none 0 0/\ys=[])\/∃ad c,u=.slice (some ad) ys.length c/\∀(j:Nat) z,(ys.flatMap enc)[j]? =some z->w.cell? (ad.add j)=some z
theorem RdL.row {n:Nat} {base:Nat} (h:w.ownsRow base e size v n (ys.flatMap enc)) (hn:n=ys.length):RdL enc w v ys:=by
 rcases h.2 with ⟨rfl,q⟩|⟨g,cap,cur,rfl,_,hb,h1,h2,h3,h4⟩
 ·exact .inl ⟨rfl,List.eq_nil_of_length_eq_zero (by omega)⟩
 ·refine .inr ⟨_,cap,by rw[hn],fun j z hz=>?_⟩
  have hj:j<n * size:=by have:=(List.getElem?_eq_some_iff.1 hz).1;rwa[h.1]at this
  rw[Addr.add_mid,Nat.zero_add,World.ownsRow.cellAt h _ hj,hz]
theorem RdL.fl {f:List Nat} (h:flR e size enc w [v] ys f):RdL enc w v ys:=by
 rcases h with h|⟨rfl,_,b,o,e1,_⟩
 ·obtain⟨_,e1,o,_⟩:=slc_flat_to h
  cases e1;exact RdL.row o rfl
 ·cases e1
  exact .inr ⟨_,0,rfl,fun j z hz=>by simp at hz⟩
theorem run_add {P:Program} {t:TypeId} {z:Value} {bytes:Nat} (T:SlT P t e z size bytes) (hl:∀a,(enc a).length=size) (h1:∀(a:α),∀u ∈ enc a,u.oneCell'=true) (h:M B w0 w (slcC (flatR_frame enc) e size v xs::l)) (hy:RdL enc w u ys)
  (ty:TypeId) (h63:xs.length+ys.length<=maxLen) (hby:(xs.length+ys.length) * bytes<=140737488355328):
  ∃y cap w',(Builtin.append_ #[t,t] ty #[v,u]).run P w=.ok (.slice y (xs.length+ys.length) cap) w'/\M B w0 w' (slcC (flatR_frame enc) e size (.slice y (xs.length+ys.length) cap) (xs++ys)::l):=by
 obtain⟨i,hi,hz,hs,hb⟩:=info_parts T.info;obtain⟨f,hf,_⟩:=h.first;obtain⟨_,e1,ho,rfl⟩:=slc_flat_to hf;cases e1;rcases hy with ⟨rfl,rfl⟩|⟨ad,c,rfl,hc⟩
 ·obtain⟨x,c,rfl⟩:=row_slice ho
  exact⟨x,c,w,run_append_owned_none (P:=P) (w:=w) 0 t ty e i size T.und hi _ _ _ ho,by rw[List.append_nil];exact h⟩
 ·have fl:∀zs:List α,(zs.flatMap enc).length=zs.length * size:=fun zs=>by
   induction zs with
   |nil=>simp
   |cons a zs ih=>rw[List.flatMap_cons,List.length_append,ih,hl,List.length_cons,Nat.succ_mul,Nat.add_comm]
  obtain⟨v',w',hr,h2,h3,_,h4⟩:=run_append_own_at (P:=P) w 0 t ty e i z size bytes T.und hi hz hs hb T.zs T.pos v xs.length (xs.flatMap enc) ho ad ys.length c (ys.flatMap enc) (fl ys) hc
   (fun q hq=>by obtain⟨a,_,ha⟩:=List.mem_flatMap.1 hq;exact h1 a q ha) h63 hby (Nat.zero_le _)
  obtain⟨y,cap,rfl⟩:=row_slice h2;refine⟨y,cap,w',hr,h.turn fun f hf nd lo=>?_⟩;obtain⟨_,e1,_,rfl⟩:=slc_flat_to hf;cases e1;refine⟨⟨h3.os,h3.tape,h3.output,h3.size,fun k hk hs=>h3.block k hk fun q=>hs (by rw[<-q];simp)⟩,_,slc_flat_of (enc:=enc) (xs:=xs++ys) (by rw[List.flatMap_append,List.length_append];exact h2) hl,block_nodup _,fun b hb=>?_⟩;rcases h4 with q|q
  ·rw[q]at hb;exact .inl hb
  ·rw[q]at hb
   rw[show b=w.heap.size by simpa using hb];exact .inr lr_
theorem wp_add {P:Program} {t:TypeId} {z:Value} {bytes:Nat} (T:SlT P t e z size bytes) (hl:∀a,(enc a).length=size) (h1:∀(a:α),∀u ∈ enc a,u.oneCell'=true) (h:M B w0 w (slcC (flatR_frame enc) e size v xs::l)) (hy:RdL enc w u ys)
  {o:Oper} {a:Act} {K:Act->World->Prop} {Q:Exit->Act->World->Prop} {s x:Operand} (ho:o.op=.call { callee:=.builtin .append,args:=#[s,x],argTypes:=#[t,t] }) {N:Nat} (hs:a.eval s=v) (hu:a.eval x=u)
  (h63:xs.length+ys.length<=maxLen) (hby:(xs.length+ys.length) * bytes<=140737488355328) (hN:N=xs.length+ys.length)
  (k:∀y cap w',M B w0 w' (slcC (flatR_frame enc) e size (.slice y N cap) (xs++ys)::l)->K (a.put o.dst (.slice y N cap)) w'):o.wp P a w K Q:=by
 obtain⟨y,cap,w',hr,hM⟩:=run_add T hl h1 h hy o.type h63 hby;unfold Oper.wp execOp;simp only[ho,resolve,invoke,builtin,Sem.run_bind,Sem.run_pure,Result.andThen_ok,List.map_toArray,List.map_cons,List.map_nil,hs,hu,hr];rw[hN]at k;exact k y cap w' hM
theorem wpList_add {P:Program} {t:TypeId} {z:Value} {bytes:Nat} (T:SlT P t e z size bytes) (hl:∀a,(enc a).length=size) (h1:∀(a:α),∀u ∈ enc a,u.oneCell'=true) (h:M B w0 w (slcC (flatR_frame enc) e size v xs::l)) (hy:RdL enc w u ys)
  {ops:Array Oper} {rest:List Oper} {o:Oper} {a:Act} {Q:Exit->Act->World->Prop} {s x:Operand} (hgd:o.guard=none) (ho:o.op=.call { callee:=.builtin .append,args:=#[s,x],argTypes:=#[t,t] }) {N:Nat} (hs:a.eval s=v) (hu:a.eval x=u)
  (h63:xs.length+ys.length<=maxLen) (hby:(xs.length+ys.length) * bytes<=140737488355328) (hN:N=xs.length+ys.length)
  (k:∀y cap w',M B w0 w' (slcC (flatR_frame enc) e size (.slice y N cap) (xs++ys)::l)->wpList P ops Q rest (a.put o.dst (.slice y N cap)) w'):wpList P ops Q (o::rest) a w:=
 wpList_plain hgd fun _ hK=>wp_add T hl h1 h hy ho hs hu h63 hby hN fun y cap w' hM=>hK _ _ (k y cap w' hM)
end
end Go.Proofs.YtcblbdpdbggkbaaGreat
set_option linter.unusedVariables false
namespace Go.Proofs.YtcblbdpdbggkbaaGreat
open Go.RowKit Go.Sort
theorem OwnR.form {w:World} {B:Nat} {u:Value} {rs:List (List Int)} {G C:Nat->Nat} (h:OwnR w B u rs G C):∃x c,u=.slice x rs.length c:=by
 rcases h.hdr.2 with ⟨rfl,h0⟩|⟨g,cap,cur,rfl,_⟩
 ·exact⟨none,0,by rw[h0]⟩
 ·exact⟨_,_,rfl⟩
theorem OwnI.form' {w:World} {B:Nat} {u:Value} {zs:List Int} (h:OwnI w B u zs):∃x c,u=.slice x zs.length c:=by
 rcases h.2 with ⟨rfl,h0⟩|⟨g,cap,cur,rfl,_⟩
 ·exact⟨none,0,by rw[h0]⟩
 ·exact⟨_,_,rfl⟩
theorem T.OwnP.form' {w:World} {B:Nat} {u:Value} {zs:List T.Pr} (h:T.OwnP w B u zs):∃x c,u=.slice x zs.length c:=by
 rcases h.2 with ⟨rfl,h0⟩|⟨g,cap,cur,rfl,_⟩
 ·exact⟨none,0,by rw[h0]⟩
 ·exact⟨_,_,rfl⟩
theorem K.OwnP.form' {w:World} {B:Nat} {u:Value} {zs:List K.Pr} (h:K.OwnP w B u zs):∃x c,u=.slice x zs.length c:=by
 rcases h.2 with ⟨rfl,h0⟩|⟨g,cap,cur,rfl,_⟩
 ·exact⟨none,0,by rw[h0]⟩
 ·exact⟨_,_,rfl⟩
theorem OwnS.rows {w:World} {B:Nat} {x:Option Addr} {n c:Nat} {rs:List (List Int)} {G C:Nat->Nat} (h:OwnR w B (.slice x n c) rs G C) (hB:B<=w.heap.size):OwnS w B w.heap.size ⟨x,n,c,Option.none,0,0,Option.none,0,0,Option.none,0,0⟩ ⟨rs,[],[],0,0,[],0⟩:=
 ⟨⟨w.heap.size,hB,Nat.le_refl _,h.bounds,World.ownsRow_nil _ _ _ _⟩,World.ownsRow_nil _ _ _ _,World.ownsRow_nil _ _ _ _,fun _ e=>(by cases e),fun _ e=>(by cases e),fun _ e=>(by cases e),Nat.le_refl _⟩
section
variable {w:World} {B U b:Nat} {x0 x1 x2 x3 x4 x5 x6:Value}
theorem OwnRR.box7 {v:Value} {rs:List (List Int)} (h:OwnRR w B U v rs) (X:Box7 w b 46 x0 x1 x2 x3 x4 x5 x6) (y0 y1 y2 y3 y4 y5 y6:Value):OwnRR (set7 w b y0 y1 y2 y3 y4 y5 y6) B U v rs:=by
 obtain⟨G,C,ho,q1,q2,q3⟩:=h;have hk:KeptB (fun k=>k=b) w (set7 w b y0 y1 y2 y3 y4 y5 y6):=KeptB.of_grown (set7_grown w b y0 y1 y2 y3 y4 y5 y6) rfl;exact⟨G,C,⟨ownsRow_keptB ho.hdr hk fun k e1 e2=>X.not_row (by decide) ho.hdr (by rw[e1,e2]),fun i hi=>ownsRow_keptB (ho.row i hi) hk fun k e1 e2=>X.not_row (by decide) (ho.row i hi) (by rw[e1,e2]),ho.off,ho.apart⟩,q1,q2,by rw[set7_size];exact q3⟩
theorem OwnI.box7 {v:Value} {zs:List Int} (h:OwnI w B v zs) (X:Box7 w b 46 x0 x1 x2 x3 x4 x5 x6) (y0 y1 y2 y3 y4 y5 y6:Value):OwnI (set7 w b y0 y1 y2 y3 y4 y5 y6) B v zs:=h.keep (set7_grown w b y0 y1 y2 y3 y4 y5 y6) (X.not_row (by decide) h)
theorem T.OwnP.box7 {v:Value} {zs:List T.Pr} (h:T.OwnP w B v zs) (X:Box7 w b 46 x0 x1 x2 x3 x4 x5 x6) (y0 y1 y2 y3 y4 y5 y6:Value):T.OwnP (set7 w b y0 y1 y2 y3 y4 y5 y6) B v zs:=h.keep (set7_grown w b y0 y1 y2 y3 y4 y5 y6) (X.not_row (by decide) h)
theorem K.OwnP.box7 {v:Value} {zs:List K.Pr} (h:K.OwnP w B v zs) (X:Box7 w b 46 x0 x1 x2 x3 x4 x5 x6) (y0 y1 y2 y3 y4 y5 y6:Value):K.OwnP (set7 w b y0 y1 y2 y3 y4 y5 y6) B v zs:=h.keep (set7_grown w b y0 y1 y2 y3 y4 y5 y6) (X.not_row (by decide) h)
end
theorem OwnS.box7 {w:World} {B U b:Nat} {V:SV} {s:Sm} {x0 x1 x2 x3 x4 x5 x6:Value} (h:OwnS w B U V s) (X:Box7 w b 46 x0 x1 x2 x3 x4 x5 x6) (y0 y1 y2 y3 y4 y5 y6:Value):OwnS (set7 w b y0 y1 y2 y3 y4 y5 y6) B U V s:=by
 obtain⟨M,h1,h2,hr,hf⟩:=h.mid;have hg:=set7_grown w b y0 y1 y2 y3 y4 y5 y6;have hk:KeptB (fun k=>k=b) w (set7 w b y0 y1 y2 y3 y4 y5 y6):=KeptB.of_grown hg rfl;have e:=set7_size w b y0 y1 y2 y3 y4 y5 y6;refine⟨⟨M,h1,h2,?_,?_⟩,?_,?_,h.ft,h.tt,h.kt,by rw[e];exact h.top⟩
 ·obtain⟨G,C,ho,q1,q2,q3⟩:=hr
  exact⟨G,C,⟨ownsRow_keptB ho.hdr hk fun k e1 e2=>X.not_row (by decide) ho.hdr (by rw[e1,e2]),fun i hi=>ownsRow_keptB (ho.row i hi) hk fun k e1 e2=>X.not_row (by decide) (ho.row i hi) (by rw[e1,e2]),ho.off,ho.apart⟩,q1,q2,by rw[e];exact q3⟩
 ·exact hf.keep hg (X.not_row (by decide) hf)
 ·exact h.t.keep hg (X.not_row (by decide) h.t)
 ·exact h.k.keep hg (X.not_row (by decide) h.k)
theorem OwnS.make {W:World} {B B1 M B2 B3 B4:Nat} {V:SV} {s:Sm} (hr:OwnRR W B1 M V.r s.rs) (hf:OwnI W B2 V.f s.zs) (ht:T.OwnP W B3 V.t s.ps) (hk:K.OwnP W B4 V.k s.ks) (h1:B<=B1) (hM:B<=M) (h2:M<=B2) (h3:B<=B3) (h4:B<=B4):OwnS W B W.heap.size V s:=
 ⟨⟨M,hM,hr.top,hr.base h1,ownsRow_base hf h2⟩,ownsRow_base ht h3,ownsRow_base hk h4,fun _ e=>(World.ownsRow.lt hf _ e).2,fun _ e=>(World.ownsRow.lt ht _ e).2,fun _ e=>(World.ownsRow.lt hk _ e).2,Nat.le_refl _⟩
theorem joinA_yes {ra rb:List (List Int)} (h:joinB ra rb=true):joinA ra rb=joinV ra rb:=by unfold joinA;rw[h];rfl
end Go.Proofs.YtcblbdpdbggkbaaGreat
set_option linter.unusedVariables false
namespace Go.Proofs.YtcblbdpdbggkbaaGreat
open Go.RowKit Go.Sort
theorem imSumNew_at (w:World):
  Calls Tryz.prog 77 #[] w fun e w'=>∃V,e=.returned (.agg #[.slice V.xr V.nr V.cr,.slice V.xf V.nf V.cf,.slice V.xt V.nt V.ct,.int .i64 newSm.lo,.int .i64 newSm.al,.slice V.xk V.nk V.ck,.int .i64 newSm.ka])/\OwnS w' w.heap.size w'.heap.size V newSm/\Below w.heap.size w w':=by
 have hA:=(Below.refl w.heap.size w).alloc lr_ (.cells #[.slice none 0 0,.slice none 0 0,.slice none 0 0,.int .i64 0,.int .i64 0,.slice none 0 0,.int .i64 0] 46);have X0:=Box7.new w 46 (.slice none 0 0) (.slice none 0 0) (.slice none 0 0) (.int .i64 0) (.int .i64 0) (.slice none 0 0) (.int .i64 0);have HA:=hd_ hA
 have S0:Hid ((w.alloc (.cells #[.slice none 0 0,.slice none 0 0,.slice none 0 0,.int .i64 0,.int .i64 0,.slice none 0 0,.int .i64 0] 46)).heap.size=w.heap.size+1):=by show _=_;simp
 clear hA;go_enter Tryz.func77,Tryz.ntmps77
 go_wp2_with fail
 refine (imNew_at _).mono ?_;rintro e w1 ⟨u,G,C,rfl,ho,hb⟩;obtain⟨x,c,rfl⟩:=ho.form;have X1:=X0.later hb;have HB:=hd_ (HA.out.trans (hb.mono HA.out.size));have hs:=S0.out;rw[hs]at ho;have HS:=OwnS.box7 (OwnS.rows ho (by have:=hb.size;omega)) X1 (.slice x 3 c) (.slice none 0 0) (.slice none 0 0) (.int .i64 0) (.int .i64 0) (.slice none 0 0) (.int .i64 0)
 have Y:=X1.set (.slice x 3 c) (.slice none 0 0) (.slice none 0 0) (.int .i64 0) (.int .i64 0) (.slice none 0 0) (.int .i64 0);have HW:=below_set7 HB.out lr_ (.slice x 3 c) (.slice none 0 0) (.slice none 0 0) (.int .i64 0) (.int .i64 0) (.slice none 0 0) (.int .i64 0)
 have e:=set7_size w1 w.heap.size (.slice x 3 c) (.slice none 0 0) (.slice none 0 0) (.int .i64 0) (.int .i64 0) (.slice none 0 0) (.int .i64 0);obtain⟨W,hW⟩:∃W,W=set7 w1 w.heap.size (.slice x 3 c) (.slice none 0 0) (.slice none 0 0) (.int .i64 0) (.int .i64 0) (.slice none 0 0) (.int .i64 0):=⟨_,rfl⟩
 rw[<-hW]at HS Y HW e;have fin:=hd_ (And.intro (HS.base (B':=w.heap.size) (by omega) (Nat.le_of_eq e.symm) lr_) HW);have YY:=hd_ Y;have f:=X1.free;obtain⟨c0,c1,c2,c3,c4,c5,c6⟩:=X1.cells;unfold set7 at hW;have HH:=hd_ hW;clear ho hb hs S0 HS HW Y e hW;go_wp2;show bodyPost _ _ _ _ _ (((((((w1.setCell _ (.slice x 3 c)).setCell _ _).setCell _ _).setCell _ _).setCell _ _).setCell _ _).setCell _ _)
 rw[<-HH.out];obtain⟨d0,d1,d2,d3,d4,d5,d6⟩:=YY.out.cells;refine bodyPost_ret (v:=.agg #[.slice x 3 c,.slice none 0 0,.slice none 0 0,.int .i64 0,.int .i64 0,.slice none 0 0,.int .i64 0]) (by simp[results,Tryz.results77,go_sem,d0,d1,d2,d3,d4,d5,d6]) rfl ?_;exact⟨_,rfl,fin.out⟩
theorem spSumNew_at (w:World):
  Calls Tryz.prog 99 #[] w fun e w'=>∃V,e=.returned (.agg #[.slice V.xr V.nr V.cr,.slice V.xf V.nf V.cf,.slice V.xt V.nt V.ct,.int .i64 newSm.lo,.int .i64 newSm.al,.slice V.xk V.nk V.ck,.int .i64 newSm.ka])/\OwnS w' w.heap.size w'.heap.size V newSm/\Below w.heap.size w w':=by
 have hA:=(Below.refl w.heap.size w).alloc lr_ (.cells #[.slice none 0 0,.slice none 0 0,.slice none 0 0,.int .i64 0,.int .i64 0,.slice none 0 0,.int .i64 0] 46);have X0:=Box7.new w 46 (.slice none 0 0) (.slice none 0 0) (.slice none 0 0) (.int .i64 0) (.int .i64 0) (.slice none 0 0) (.int .i64 0);have HA:=hd_ hA
 have S0:Hid ((w.alloc (.cells #[.slice none 0 0,.slice none 0 0,.slice none 0 0,.int .i64 0,.int .i64 0,.slice none 0 0,.int .i64 0] 46)).heap.size=w.heap.size+1):=by show _=_;simp
 clear hA;go_enter Tryz.func99,Tryz.ntmps99
 go_wp2_with fail
 refine (spNew_at _).mono ?_;rintro e w1 ⟨u,G,C,rfl,ho,hb⟩;obtain⟨x,c,rfl⟩:=ho.form;have X1:=X0.later hb;have HB:=hd_ (HA.out.trans (hb.mono HA.out.size));have hs:=S0.out;rw[hs]at ho;have HS:=OwnS.box7 (OwnS.rows ho (by have:=hb.size;omega)) X1 (.slice x 3 c) (.slice none 0 0) (.slice none 0 0) (.int .i64 0) (.int .i64 0) (.slice none 0 0) (.int .i64 0)
 have Y:=X1.set (.slice x 3 c) (.slice none 0 0) (.slice none 0 0) (.int .i64 0) (.int .i64 0) (.slice none 0 0) (.int .i64 0);have HW:=below_set7 HB.out lr_ (.slice x 3 c) (.slice none 0 0) (.slice none 0 0) (.int .i64 0) (.int .i64 0) (.slice none 0 0) (.int .i64 0)
 have e:=set7_size w1 w.heap.size (.slice x 3 c) (.slice none 0 0) (.slice none 0 0) (.int .i64 0) (.int .i64 0) (.slice none 0 0) (.int .i64 0);obtain⟨W,hW⟩:∃W,W=set7 w1 w.heap.size (.slice x 3 c) (.slice none 0 0) (.slice none 0 0) (.int .i64 0) (.int .i64 0) (.slice none 0 0) (.int .i64 0):=⟨_,rfl⟩
 rw[<-hW]at HS Y HW e;have fin:=hd_ (And.intro (HS.base (B':=w.heap.size) (by omega) (Nat.le_of_eq e.symm) lr_) HW);have YY:=hd_ Y;have f:=X1.free;obtain⟨c0,c1,c2,c3,c4,c5,c6⟩:=X1.cells;unfold set7 at hW;have HH:=hd_ hW;clear ho hb hs S0 HS HW Y e hW;go_wp2;show bodyPost _ _ _ _ _ (((((((w1.setCell _ (.slice x 3 c)).setCell _ _).setCell _ _).setCell _ _).setCell _ _).setCell _ _).setCell _ _)
 rw[<-HH.out];obtain⟨d0,d1,d2,d3,d4,d5,d6⟩:=YY.out.cells;refine bodyPost_ret (v:=.agg #[.slice x 3 c,.slice none 0 0,.slice none 0 0,.int .i64 0,.int .i64 0,.slice none 0 0,.int .i64 0]) (by simp[results,Tryz.results99,go_sem,d0,d1,d2,d3,d4,d5,d6]) rfl ?_;exact⟨_,rfl,fin.out⟩
end Go.Proofs.YtcblbdpdbggkbaaGreat
set_option linter.unusedVariables false
set_option linter.unusedSectionVars false
set_option linter.unusedSimpArgs false
namespace Go.Proofs.YtcblbdpdbggkbaaGreat
open Go.RowKit Go.Sort
namespace N
theorem spLink_at (w:World) (a b:Int) (h:0<=a/\a<=4/\0<=b/\b<=4):Calls Tryz.prog 67 #[.int .i64 a,.int .i64 b] w fun e w'=>e=.returned (.int .i64 (a * 5+b))/\w=w':=by
 obtain⟨h0,h1,h2,h3⟩:=h;go_enter Tryz.func67,Tryz.ntmps67;go_wp2;go_ret;exact⟨rfl,rfl⟩
theorem spLinkN_at (w:World) {a b:Int} (h:0<=a/\a<=4/\0<=b/\b<=4) {q:Nat} (hq:a * 5+b=q):Calls Tryz.prog 67 #[.int .i64 a,.int .i64 b] w fun e w'=>e=.returned (.int .i64 (q:Int))/\w=w':=by
 rw[<-hq];exact spLink_at w a b h
theorem spNode_at {B:Nat} {w0 w:World} {l:List Ch} (h:M B w0 w l) (i born:Int):Calls Tryz.prog 68 #[.int .i64 i,.int .i64 born] w fun e w'=>∃v,e=.returned (.agg #[.int .i64 born,v,.int .i64 0,.int .i64 (if i=0 then 0 else 5),.int .i64 (-1)])/\M B w0 w' (knownC v [⟨i,born,0,newSm⟩]::l):=by
 have h1:=hd_ (h.alloc #[.int .i64 0,.slice none 0 0,.int .i64 0,.int .i64 0,.int .i64 0] 55);clear h;rcases Decidable.em (i=0)with rfl|hi
 all_goals
  go_enter Tryz.func68,Tryz.ntmps68
  go_wp2_with fail
  refine (spSumNew_at _).mono ?_;rintro e w1 ⟨V,rfl,ho,hb⟩;have h2:=h1.out.sum hb ho;clear ho hb h1
 ·have h3:=h2.alloc #[.int .i64 0,.int .i64 born,.int .i64 0,.slice V.xr V.nr V.cr,.slice V.xf V.nf V.cf,.slice V.xt V.nt V.ct,.int .i64 newSm.lo,.int .i64 newSm.al,.slice V.xk V.nk V.ck,.int .i64 newSm.ka] 64
  have H:=hd_ (h3.p2.set5 (.int .i64 born) (.slice (some ⟨w1.heap.size,0,none⟩) 1 1) (.int .i64 0) (.int .i64 0) (.int .i64 (-1)));obtain⟨c0,c1,c2,c3,c4⟩:=h3.p2.cells5;have cf:=h3.p2.free;clear h2 h3;go_wp2;obtain⟨d0,d1,d2,d3,d4⟩:=H.out.cells5
  refine bodyPost_ret (v:=.agg #[.int .i64 born,.slice (some ⟨w1.heap.size,0,none⟩) 1 1,.int .i64 0,.int .i64 0,.int .i64 (-1)]) (by simp[results,Tryz.results68,go_sem,d0,d1,d2,d3,d4]) rfl ⟨_,rfl,(H.out.drop.p1.entry 0 born 0).p1.one entryR_frame rfl⟩
 ·have h3:=h2.alloc #[.int .i64 i,.int .i64 born,.int .i64 0,.slice V.xr V.nr V.cr,.slice V.xf V.nf V.cf,.slice V.xt V.nt V.ct,.int .i64 newSm.lo,.int .i64 newSm.al,.slice V.xk V.nk V.ck,.int .i64 newSm.ka] 64
  have H:=hd_ (h3.p2.set5 (.int .i64 born) (.slice (some ⟨w1.heap.size,0,none⟩) 1 1) (.int .i64 0) (.int .i64 5) (.int .i64 (-1)));obtain⟨c0,c1,c2,c3,c4⟩:=h3.p2.cells5;have cf:=h3.p2.free;clear h2 h3;go_wp2;obtain⟨d0,d1,d2,d3,d4⟩:=H.out.cells5
  refine bodyPost_ret (v:=.agg #[.int .i64 born,.slice (some ⟨w1.heap.size,0,none⟩) 1 1,.int .i64 0,.int .i64 5,.int .i64 (-1)]) (by simp[results,Tryz.results68,go_sem,d0,d1,d2,d3,d4]) rfl ⟨_,rfl,(H.out.drop.p1.entry i born 0).p1.one entryR_frame rfl⟩
def AnsN (w:World) (o:Option Nt) (e:Ending) (w':World):Prop:=∃v1 v2 v3 v4 fp,e=.returned (.tuple #[.agg #[v1,v2,v3,v4],.bool o.isSome])/\Sole (netR TY) w.heap.size w' [v1,v2,v3,v4] (o.getD noNt) fp/\Below w.heap.size w w'
theorem ans_none {w w':World} {l:List Ch} (h:M w.heap.size w w' l):AnsN w none (.returned (.tuple #[.agg #[.slice none 0 0,.slice none 0 0,.slice none 0 0,.slice none 0 0],.bool false])) w':=by
 have h':M w.heap.size w w' (nodesC _ []::linksC _ []::wordsC _ []::pastC _ []::l):=(((h.nil _ _ _).nil _ _ _).nil _ _ _).nil _ _ _;obtain⟨fp,hs⟩:=h'.net;exact⟨_,_,_,_,fp,rfl,hs,h.below⟩
theorem ans_some {w w':World} {l:List Ch} {v1 v2 v3 v4:Value} {ns:List Nd} {ls:List Bool} {ws:List Wd} {ps:List (List (List Int))} (h:M w.heap.size w w' (nodesC v1 ns::linksC v2 ls::wordsC v3 ws::pastC v4 ps::l)):
  AnsN w (some ⟨ns,ls,ws,ps⟩) (.returned (.tuple #[.agg #[v1,v2,v3,v4],.bool true])) w':=by
 obtain⟨fp,hs⟩:=h.net;exact⟨_,_,_,_,fp,rfl,hs,h.below⟩
theorem l6In_yes' (w:World) (a lo hi:Int) (h:in6 a lo hi=true):Calls Tryz.prog 66 #[.int .i64 a,.int .i64 lo,.int .i64 hi] w fun e w'=>e=.returned (.bool true)/\w=w':=by
 obtain⟨h0,h1⟩:lo<=a/\a<=hi:=by simpa[in6]using h
 clear h;go_enter Tryz.func66,Tryz.ntmps66;go_wp2;go_ret;exact⟨rfl,rfl⟩
theorem l6In_no' (w:World) (a lo hi:Int) (h:in6 a lo hi=false):Calls Tryz.prog 66 #[.int .i64 a,.int .i64 lo,.int .i64 hi] w fun e w'=>e=.returned (.bool false)/\w=w':=by
 have h':¬(lo<=a/\a<=hi):=by simpa[in6]using h
 clear h
 by_cases h0:lo<=a
 ·have h1:decide (a<=hi)=false:=by simp;omega
  clear h';go_enter Tryz.func66,Tryz.ntmps66;go_wp2;go_ret;exact⟨rfl,rfl⟩
 ·have h1:decide (lo<=a)=false:=by simp;omega
  clear h' h0;go_enter Tryz.func66,Tryz.ntmps66;go_wp2;go_ret;exact⟨rfl,rfl⟩
theorem spNetNew_at (w:World) (x:Option Addr) (n c:Nat) (ks:List Int) (h:Ints w (.slice x n c) ks):Calls Tryz.prog 18 #[.slice x n c] w (AnsN w (newN ks)):=by
 obtain⟨b,o,hx⟩:∃b o,n=0\/(x=some ⟨b,o,none⟩/\b<w.heap.size/\∀i,i<n->w.cell? ⟨b,o+i,none⟩=some (.int .i64 (ks.getD i 0))):=by
  rcases h with ⟨e,rfl⟩|⟨b,o,cap,e,h1,h2,hb,hc⟩
  ·simp at e;exact⟨0,0,.inl e.2.1⟩
  ·simp at e;obtain⟨rfl,rfl,rfl⟩:=e;exact⟨b,o,.inr ⟨rfl,hb,hc⟩⟩
 have HX:=hd_ hx;have hnl:n=ks.length:=by
  rcases h with ⟨e,rfl⟩|⟨b,o,cap,e,h1,h2,_⟩
  ·simp at e;simp[e]
  ·simp at e;omega
 have HN:=hd_ hnl;have hm:n<=maxLen:=by
  rcases h with ⟨e,rfl⟩|⟨b,o,cap,e,h1,h2,_⟩
  ·rw[hnl];simp
  ·simp at e;omega
 unfold maxLen at hm;clear hx h hnl;have h0:=(M.start w).alloc #[.slice none 0 0,.slice none 0 0,.slice none 0 0,.slice none 0 0] 30;have H0:=hd_ h0;clear h0
 by_cases hs:n<=40
 ·by_cases hp:n % 2=0
  ·have n0:(0:Int)<=(n:Int):=by omega
   have n1:(n:Int)<=40:=by omega
   have e2:(n:Int) % 2=0:=by omega
   go_enter Tryz.func18,Tryz.ntmps18
   go_wp2_with (at_make;refine wpList_mk linkS (enc:=encB) (z0:=false) rfl rfl (fun _=>rfl) H0.out rfl rfl 25 rfl rfl rfl rfl (by decide) (by decide) ?_;intro w1 h1 hb1;clear H0)
   have h2:=(h1.alloc #[] 123).alloc #[.slice none 0 0,.slice (some ⟨w.heap.size+1,0,none⟩) 25 25,.slice (some ⟨w1.heap.size,0,none⟩) 0 0,.slice none 0 0] 30;simp only[World.size_alloc]at h1 h2;generalize (w1.alloc (Obj.cells #[] 123)).alloc (Obj.cells #[.slice none 0 0,.slice (some ⟨w.heap.size+1,0,none⟩) 25 25,.slice (some ⟨w1.heap.size,0,none⟩) 0 0,.slice none 0 0] 30)=w2 at h2 ⊢
   have H:=hd_ (h2.p1.empty (wordR_frame (T:=TY)) 6);clear h1 h2 hb1;generalize w1.heap.size=q1 at H ⊢;clear e2 n1;go_loopw [5] (fun i wr=>∃(j:Nat) (ls:List Bool),i=.int .i64 (j:Int)/\j % 2=0/\j<=n/\ls.length=25/\pairsB (ks.drop j)=pairsB ks/\setLinks ls (ks.drop j)=setLinks (List.replicate 25 false) ks/\
        M w.heap.size w wr [wordsC (.slice (some ⟨q1,0,none⟩) 0 0) [],boxC (q1+1) 30 #[.slice none 0 0,.slice (some ⟨w.heap.size+1,0,none⟩) 25 25,.slice (some ⟨q1,0,none⟩) 0 0,.slice none 0 0],linksC (.slice (some ⟨w.heap.size+1,0,none⟩) 25 25) ls,boxC w.heap.size 30 #[.slice none 0 0,.slice none 0 0,.slice none 0 0,.slice none 0 0]]) (fun i _=>n - (intOf i).toNat)
   case atStart=>exact⟨0,List.replicate 25 false,rfl,rfl,Nat.zero_le _,rfl,by rw[List.drop_zero],by rw[List.drop_zero],H.out⟩
   case round=>
    clear H;obtain⟨j,ls,rfl,hj2,hjn,hl,hp1,hs1,h⟩:=hrel;have HL:=hd_ hl;have HP:=hd_ hp1;have HS:=hd_ hs1;have HJ:=hd_ hj2;have H:=hd_ h;clear hl hp1 hs1 h hj2
    by_cases hlt:j<n
    ·have hj1:j+1<n:=by have:=HJ.out;omega
     obtain⟨rfl,hbw,hce⟩:=HX.out.resolve_left (by omega);obtain⟨ka,hka⟩:∃z,z=ks.getD j 0:=⟨_,rfl⟩
     obtain⟨kb,hkb⟩:∃z,z=ks.getD (j+1) 0:=⟨_,rfl⟩
     have ca:wr.cell? ⟨b,o+j,none⟩=some (.int .i64 ka):=by rw[hka];exact cell_later H.out.below (hce j hlt)
     have cb:wr.cell? ⟨b,o+(j+1),none⟩=some (.int .i64 kb):=by rw[hkb];exact cell_later H.out.below (hce (j+1) hj1)
     have DR:=hd_ (show ks.drop j=ka::kb::ks.drop (j+2) by
            rw[List.drop_eq_getElem_cons (by rw[<-HN.out];exact hlt),List.drop_eq_getElem_cons (by rw[<-HN.out];exact hj1),hka,hkb]
            simp[List.getD,show j<ks.length by rw[<-HN.out];exact hlt,show j+1<ks.length by rw[<-HN.out];exact hj1])
     clear hka hkb hce hbw HX;obtain⟨d0,d1,d2,d3⟩:=H.out.p3.cells4;have df:=H.out.p3.free;have F:=hd_ (H.out.p3.set4 (.slice none 0 0) (.slice none 0 0) (.slice none 0 0) (.slice none 0 0));have BAD:=hd_ (fun q:pairsB (ka::kb::ks.drop (j+2))=false=>show newN ks=none by
            have e:=HP.out
            rw[DR.out,q]at e
            unfold newN
            rw[if_neg (fun z=>by rw[<-e]at z;cases z.2)])
     cases ga:in6 ka 0 4 with
     |false=>
      have E:=hd_ (BAD.out (by unfold pairsB;rw[ga];rfl));have GA:=hd_ ga;clear BAD ga H DR
      go_wp2_with (go_at_call 66;refine (l6In_no' _ _ _ _ GA.out).mono ?_;rintro e w' ⟨rfl,rfl⟩)
      obtain⟨e0,e1,e2',e3⟩:=F.out.cells4
      (try simp only[Exit.inBlock,Exit.then])
      refine bodyPost_ret (v:=.tuple #[.agg #[.slice none 0 0,.slice none 0 0,.slice none 0 0,.slice none 0 0],.bool false]) (by simp[results,Tryz.results18,go_sem,e0,e1,e2',e3]) rfl ?_;rw[E.out];exact ans_none F.out
     |true=>
      have GA:=hd_ ga;cases gb:in6 kb 0 4 with
      |false=>
       have E:=hd_ (BAD.out (by unfold pairsB;rw[ga,gb];rfl));have GB:=hd_ gb;clear BAD ga gb H DR
       go_wp2_with (first|(go_at_call 66;(with_reducible refine (l6In_yes' _ ka _ _ GA.out).mono ?_);rintro e w' ⟨rfl,rfl⟩)|(go_at_call 66;(with_reducible refine (l6In_no' _ kb _ _ GB.out).mono ?_);rintro e w' ⟨rfl,rfl⟩))
       obtain⟨e0,e1,e2',e3⟩:=F.out.cells4
       (try simp only[Exit.inBlock,Exit.then])
       refine bodyPost_ret (v:=.tuple #[.agg #[.slice none 0 0,.slice none 0 0,.slice none 0 0,.slice none 0 0],.bool false]) (by simp[results,Tryz.results18,go_sem,e0,e1,e2',e3]) rfl ?_;rw[E.out];exact ans_none F.out
      |true=>
       have GB:=hd_ gb
       by_cases hne:ka=kb
       ·have E:=hd_ (BAD.out (by unfold pairsB;rw[ga,gb,hne];simp))
        subst hne;clear BAD ga gb H DR
        go_wp2_with (go_at_call 66;(with_reducible refine (l6In_yes' _ ka _ _ GA.out).mono ?_);rintro e w' ⟨rfl,rfl⟩)
        obtain⟨e0,e1,e2',e3⟩:=F.out.cells4
        (try simp only[Exit.inBlock,Exit.then])
        refine bodyPost_ret (v:=.tuple #[.agg #[.slice none 0 0,.slice none 0 0,.slice none 0 0,.slice none 0 0],.bool false]) (by simp[results,Tryz.results18,go_sem,e0,e1,e2',e3]) rfl ?_;rw[E.out];exact ans_none F.out
       ·have hn':(ka==kb)=false:=by simpa using hne
        have PB:=hd_ (show pairsB (ka::kb::ks.drop (j+2))=pairsB (ks.drop (j+2)) by
                  conv=>lhs;unfold pairsB
                  rw[ga,gb,decide_eq_true hne];rfl)
        obtain⟨a0,a1⟩:0<=ka/\ka<=4:=by simpa[in6]using ga
        obtain⟨b0,b1⟩:0<=kb/\kb<=4:=by simpa[in6]using gb
        obtain⟨qa,hqa⟩:∃q:Nat,ka * 5+kb=q:=⟨(ka * 5+kb).toNat,by omega⟩
        obtain⟨qb,hqb⟩:∃q:Nat,kb * 5+ka=q:=⟨(kb * 5+ka).toNat,by omega⟩
        have x0:(0:Int)<=(qa:Int):=by omega
        have x1:(qa:Int)<25:=by omega
        have y0:(0:Int)<=(qb:Int):=by omega
        have y1:(qb:Int)<25:=by omega
        have QA:=hd_ (show (ka * 5+kb).toNat=qa by omega);have QB:=hd_ (show (kb * 5+ka).toNat=qb by omega);have K1:=hd_ (fun W=>spLinkN_at W (a:=ka) (b:=kb) ⟨a0,a1,b0,b1⟩ hqa);have K2:=hd_ (fun W=>spLinkN_at W (a:=kb) (b:=ka) ⟨b0,b1,a0,a1⟩ hqb);clear BAD F d0 d1 d2 d3 df ga gb hne hqa hqb a0 a1 b0 b1;have HL':ls.length=25:=HL.out
        obtain⟨⟨z,cz⟩,fz,h1⟩:=H.out.p2.drew.setEl (i:=qa) (by rw[HL'];omega) true (u:=.bool true) rfl;obtain⟨⟨z2,cz2⟩,fz2,h2⟩:=h1.drew.setEl (i:=qb) (by rw[List.length_set,HL'];omega) true (u:=.bool true) rfl;have S1:=hd_ (H.out.p1.drew.cell (i:=1) rfl);have S2:=hd_ (h1.drew.p2.cell (i:=1) rfl);have CZ:=hd_ (And.intro cz fz);have CZ2:=hd_ (And.intro cz2 fz2);have H2:=hd_ h2
        clear cz fz h1 cz2 fz2 h2 HL' H
        go_wp2_with (first|(go_at_call 66;(with_reducible refine (l6In_yes' _ ka _ _ GA.out).mono ?_);rintro e w' ⟨rfl,rfl⟩)|(go_at_call 66;(with_reducible refine (l6In_yes' _ kb _ _ GB.out).mono ?_);rintro e w' ⟨rfl,rfl⟩))
        refine wp_region_plan 6 (.tk 0 4 (.alt 4 (.take 5 (.alt 6 .done .nomore)) .nomore)) (fun w'=>w'.cell? ⟨q1+1,1,none⟩=some (.slice (some ⟨w.heap.size+1,0,none⟩) 25 25)) (by kernel_rfl) (by kernel_rfl) (fun _ _ _ _ _ h=>h) S1.out ?_
        repeat ((first|(refine plan_take (by rfl) (by rfl) ?_;apply Exists.intro;refine⟨fun w' hw'=>?_,?_⟩;(· ((try dsimp only at hw');go_simp;(try with_reducible rfl))))|(refine plan_skip (by rfl) (by rfl) ?_));simp only[Act.put,List.getElem_toArray,List.getElem_cons_succ,pg3,pg4,pg5,pg6])
        refine plan_last (by rfl) (fun K hK=>?_);go_simp;refine (K1.out _).mono ?_;rintro e w' ⟨rfl,rfl⟩;refine hK _ _ (.inr S1.out) ?_;clear hK K
        try simp only[Act.put,List.getElem_toArray,List.getElem_cons_succ,pg3,pg4,pg5,pg6]
        repeat ((first|(refine plan_take (by rfl) (by rfl) ?_;apply Exists.intro;refine⟨fun w' hw'=>?_,?_⟩;(· ((try dsimp only at hw');go_simp;(try with_reducible rfl))))|(refine plan_skip (by rfl) (by rfl) ?_));simp only[Act.put,List.getElem_toArray,List.getElem_cons_succ,pg3,pg4,pg5,pg6])
        obtain⟨cz,fz⟩:=CZ.out;refine plan_last (by rfl) (fun K hK=>?_);go_simp;refine hK _ _ (.inl rfl) ?_;clear hK K
        try simp only[Act.put,List.getElem_toArray,List.getElem_cons_succ,pg3,pg4,pg5,pg6]
        refine plan_done ?_;clear cz fz CZ S1;obtain⟨w5,hw5⟩:∃w5,w5=(wr.setCell ⟨w.heap.size+1,qa,none⟩ (.bool true)).drew:=⟨_,rfl⟩
        have hd:wr.drew.setCell ⟨w.heap.size+1,qa,none⟩ (.bool true)=w5:=hw5.symm;rw[hd]at H2 S2 CZ2;rw[<-hw5];clear hw5 hd;go_wp2;refine wp_region_plan 6 (.tk 0 4 (.alt 4 (.take 5 (.alt 6 .done .nomore)) .nomore)) (fun w'=>w'.cell? ⟨q1+1,1,none⟩=some (.slice (some ⟨w.heap.size+1,0,none⟩) 25 25)) (by kernel_rfl) (by kernel_rfl) (fun _ _ _ _ _ h=>h) S2.out ?_
        repeat ((first|(refine plan_take (by rfl) (by rfl) ?_;apply Exists.intro;refine⟨fun w' hw'=>?_,?_⟩;(· ((try dsimp only at hw');go_simp;(try with_reducible rfl))))|(refine plan_skip (by rfl) (by rfl) ?_));simp only[Act.put,List.getElem_toArray,List.getElem_cons_succ,pg3,pg4,pg5,pg6])
        refine plan_last (by rfl) (fun K hK=>?_);go_simp;refine (K2.out _).mono ?_;rintro e w' ⟨rfl,rfl⟩;refine hK _ _ (.inr S2.out) ?_;clear hK K
        try simp only[Act.put,List.getElem_toArray,List.getElem_cons_succ,pg3,pg4,pg5,pg6]
        repeat ((first|(refine plan_take (by rfl) (by rfl) ?_;apply Exists.intro;refine⟨fun w' hw'=>?_,?_⟩;(· ((try dsimp only at hw');go_simp;(try with_reducible rfl))))|(refine plan_skip (by rfl) (by rfl) ?_));simp only[Act.put,List.getElem_toArray,List.getElem_cons_succ,pg3,pg4,pg5,pg6])
        obtain⟨cz,fz⟩:=CZ2.out;refine plan_last (by rfl) (fun K hK=>?_);go_simp;refine hK _ _ (.inl rfl) ?_;clear hK K
        try simp only[Act.put,List.getElem_toArray,List.getElem_cons_succ,pg3,pg4,pg5,pg6]
        refine plan_done ?_;clear cz fz;go_wp2;go_roundw
        case rel=>
         refine⟨j+2,(ls.set qa true).set qb true,by go_num,by have:=HJ.out;omega,by omega,by rw[List.length_set,List.length_set];exact HL.out,?_,?_,H2.out.p2.p2⟩
         ·rw[<-PB.out, <-DR.out];exact HP.out
         ·rw[<-HS.out,DR.out]
          conv=>rhs;unfold setLinks
          rw[QA.out,QB.out]
        case measure=>simp[intOf];omega
    ·obtain rfl:j=n:=by omega
     have EQ:=hd_ (show newN ks=some ⟨baseN.nodes,ls,[],baseN.past⟩ by
            have e:ks.drop j=[]:=List.drop_eq_nil_of_le (by rw[<-HN.out];exact Nat.le_refl _)
            have e1:=HS.out
            have e2:=HP.out
            rw[e]at e1 e2
            unfold newN
            rw[if_pos ⟨⟨by rw[<-HN.out];exact HJ.out,by rw[<-HN.out];exact hs⟩,e2.symm⟩]
            have:setLinks baseN.links ks=ls:=e1.symm
            rw[this];rfl)
     clear HS HP HL HX HN HJ hjn hp n0 hs hlt;go_wp2
     go_loopw [8] (fun i wr=>∃(k:Nat) (xn:Option Addr) (cn:Nat) (xp:Option Addr) (cp:Nat),i=.int .i64 (k:Int)/\k<=5/\M w.heap.size w wr [nodesC (.slice xn k cn) ((List.range k).map fun i:Nat=>l21Born i 1),pastC (.slice xp k cp) (List.replicate k [[],[]]),boxC (q1+1) 30 #[.slice xn k cn,.slice (some ⟨w.heap.size+1,0,none⟩) 25 25,.slice (some ⟨q1,0,none⟩) 0 0,.slice xp k cp],wordsC (.slice (some ⟨q1,0,none⟩) 0 0) [],linksC (.slice (some ⟨w.heap.size+1,0,none⟩) 25 25) ls,boxC w.heap.size 30 #[.slice none 0 0,.slice none 0 0,.slice none 0 0,.slice none 0 0]]) (fun i _=>5 - (intOf i).toNat)
     case atStart=>exact⟨0,none,0,none,0,rfl,Nat.zero_le _,((H.out.p1).nil rowsR_frame 34 1).nil (nodeR_frame (T:=TY)) 55 5⟩
     case round=>
      clear H;obtain⟨k,xn,cn,xp,cp,rfl,hk,h⟩:=hrel;have H:=hd_ h;clear h
      by_cases hk5:k<5
      ·go_wp2
       refine wp_region_plan 7 (.tk 0 3 (.alt 3 (.alt 4 (.alt 5 (.take 6 (.alt 7 .done .nomore)) .nomore) .nomore) .nomore)) (fun w'=>w'.cell? ⟨q1+1,0,none⟩=some (.slice xn k cn)) (by kernel_rfl) (by kernel_rfl) (fun _ _ _ _ _ h=>h) (H.out.p2.drew.cell rfl) ?_
       repeat ((first|(refine plan_take (by rfl) (by rfl) ?_;apply Exists.intro;refine⟨fun w' hw'=>?_,?_⟩;(· ((try dsimp only at hw');go_simp;(try with_reducible rfl))))|(refine plan_skip (by rfl) (by rfl) ?_));simp only[Act.put,List.getElem_toArray,List.getElem_cons_succ,pg3,pg4,pg5,pg6])
       obtain⟨lv,hlv⟩:∃lv:Int,lv=if (k:Int)=0 then 0 else 5:=⟨_,rfl⟩
       have KN:=hd_ (spNode_at H.out.drew (k:Int) 1);have BN:=hd_ (show l21Born (k:Int) 1=⟨1,[⟨(k:Int),1,0,newSm⟩],0,lv, -1⟩ by rw[hlv];rfl);rw[<-hlv]at KN;clear hlv H;refine plan_last (by rfl) (fun K hK=>?_);go_simp;refine KN.out.mono ?_;rintro e w3 ⟨v,rfl,h1⟩;obtain⟨xv,cv,rfl⟩:∃xv cv,v=.slice xv 1 cv:=by obtain⟨f,hf,_⟩:=h1.first;obtain⟨_,_,e,_⟩:=slcR_value hf;exact⟨_,_,e⟩
       refine hK _ _ (.inr (h1.p3.cell rfl)) ?_;clear hK K
       try simp only[Act.put,List.getElem_toArray,List.getElem_cons_succ,pg3,pg4,pg5,pg6]
       refine plan_last (by rfl) (fun K hK=>?_);go_simp;have h2:=((h1.node 1 0 lv (-1)).p1).alloc #[.int .i64 1,.slice xv 1 cv,.int .i64 0,.int .i64 lv,.int .i64 (-1)] 55;refine hK _ _ (.inr (h2.p4.cell rfl)) ?_;clear hK K
       try simp only[Act.put,List.getElem_toArray,List.getElem_cons_succ,pg3,pg4,pg5,pg6]
       refine plan_last (by rfl) (fun K hK=>step_app nodeS (nodeR_one (T:=TY)) h2 (by rfl) (by rfl) (by rfl) (by rfl) (by simp[maxLen];omega) (by simp;omega) (N:=k+1) (by simp) (fun y cap w4 h3=>?_));refine hK _ _ (.inr (h3.p2.cell rfl)) ?_;clear hK K
       try simp only[Act.put,List.getElem_toArray,List.getElem_cons_succ,pg3,pg4,pg5,pg6]
       repeat ((first|(refine plan_take (by rfl) (by rfl) ?_;apply Exists.intro;refine⟨fun w' hw'=>?_,?_⟩;(· ((try dsimp only at hw');go_simp;(try with_reducible rfl))))|(refine plan_skip (by rfl) (by rfl) ?_));simp only[Act.put,List.getElem_toArray,List.getElem_cons_succ,pg3,pg4,pg5,pg6])
       obtain⟨c0,c1,c2,c3⟩:=h3.p2.cells4;have cf:=h3.p2.free;have h4:=h3.p2.set (i:=0) (.slice y (k+1) cap);simp only[List.setIfInBounds_toArray,List.set_cons_zero,List.set_cons_succ]at h4;have H4:=hd_ h4;clear h1 h2 h3 h4 KN;refine plan_last (by rfl) (fun K hK=>?_);go_simp;refine hK _ _ (.inl rfl) ?_;clear hK K
       try simp only[Act.put,List.getElem_toArray,List.getElem_cons_succ,pg3,pg4,pg5,pg6]
       refine plan_done ?_;clear c0 c1 c2 c3 cf;obtain⟨w5,hw5⟩:∃w5,w5=w4.setCell ⟨q1+1,0,none⟩ (.slice y (k+1) cap):=⟨_,rfl⟩
       rw[<-hw5]at H4 ⊢;clear hw5;have h8:=(((H4.out.alloc #[] 3).alloc #[] 3).alloc #[.slice (some ⟨w5.heap.size,0,none⟩) 0 0,.slice (some ⟨w5.heap.size+1,0,none⟩) 0 0] 23).alloc #[.slice (some ⟨w5.heap.size+1+1,0,none⟩) 2 2] 34;simp only[World.size_alloc]at h8
       have h9:=(M.pair (cs:=[.slice (some ⟨w5.heap.size,0,none⟩) 0 0]) (ds:=[.slice (some ⟨w5.heap.size+1,0,none⟩) 0 0]) intsR_frame ((((h8.p3.empty (flatR_frame encI) 1).soft.p3.empty (flatR_frame encI) 1).soft.p1).p3) rfl rfl).p1.p4.p1;obtain⟨c0,c1,c2,c3⟩:=H4.out.cells4;clear h8;have H9:=hd_ h9;clear h9 H4
       go_wp2_with (at_builtin;go_loud (refine wpList_app rowsS (slcR_one _ _ _) H9.out rfl rfl rfl rfl (by simp[maxLen];omega) (by simp;omega) (N:=k+1) (by simp) ?_);intro y2 cap2 w6 h10;obtain⟨d0,d1,d2,d3⟩:=h10.p1.cells4;have df:=h10.p1.free;have h11:=h10.p1.set (i:=3) (.slice y2 (k+1) cap2);simp only[List.setIfInBounds_toArray,List.set_cons_zero,List.set_cons_succ]at h11;have H11:=hd_ h11;clear h10 h11 H9 c0 c1 c2 c3)
       go_roundw
       case rel=>
        refine⟨k+1,y,cap,y2,cap2,by go_num,hk5,?_⟩;rw[List.range_succ,List.map_append,List.replicate_succ'];have e:=H11.out.p1.p2;rw[<-BN.out]at e;exact e
       case measure=>simp[intOf];omega
      ·obtain rfl:k=5:=by omega
       obtain⟨c0,c1,c2,c3⟩:=H.out.p2.cells4;obtain⟨d0,d1,d2,d3⟩:=H.out.p5.cells4;have df:=H.out.p5.free;have F:=hd_ (H.out.p5.set4 (.slice xn 5 cn) (.slice (some ⟨w.heap.size+1,0,none⟩) 25 25) (.slice (some ⟨q1,0,none⟩) 0 0) (.slice xp 5 cp));clear H;go_wp2;obtain⟨e0,e1,e2,e3⟩:=F.out.cells4
       (try simp only[Exit.inBlock,Exit.then])
       refine bodyPost_ret (v:=.tuple #[.agg #[.slice xn 5 cn,.slice (some ⟨w.heap.size+1,0,none⟩) 25 25,.slice (some ⟨q1,0,none⟩) 0 0,.slice xp 5 cp],.bool true]) (by simp[results,Tryz.results18,go_sem,e0,e1,e2,e3]) rfl ?_;rw[EQ.out];exact ans_some F.out.drop.p1.p3.p4.p3
  ·have e2:(n:Int) % 2=1:=by omega
   have n0:(0:Int)<=(n:Int):=by omega
   have E:=hd_ (show newN ks=none by
        unfold newN
        rw[if_neg (fun z=>by have:=HN.out;omega)])
   clear hs hp;go_enter Tryz.func18,Tryz.ntmps18
   go_wp2_with (at_make;refine wpList_mk linkS (enc:=encB) (z0:=false) rfl rfl (fun _=>rfl) H0.out rfl rfl 25 rfl rfl rfl rfl (by decide) (by decide) ?_;intro w1 h1 hb1;have h2:=(h1.alloc #[] 123).alloc #[.slice none 0 0,.slice (some ⟨w.heap.size+1,0,none⟩) 25 25,.slice (some ⟨w1.heap.size,0,none⟩) 0 0,.slice none 0 0] 30;have F:=hd_ (h2.p3.set4 (.slice none 0 0) (.slice none 0 0) (.slice none 0 0) (.slice none 0 0));obtain⟨d0,d1,d2,d3⟩:=h2.p3.cells4;have df:=h2.p3.free;clear H0 h1 h2 hb1)
   obtain⟨e0,e1,e2',e3⟩:=F.out.cells4
   (try simp only[Exit.inBlock,Exit.then])
   refine bodyPost_ret (v:=.tuple #[.agg #[.slice none 0 0,.slice none 0 0,.slice none 0 0,.slice none 0 0],.bool false]) (by simp[results,Tryz.results18,go_sem,e0,e1,e2',e3]) rfl ?_;rw[E.out];exact ans_none F.out
 ·by_cases hp:n % 2=0
  ·have e2:(n:Int) % 2=0:=by omega
   have g4:decide ((40:Int)<(n:Int))=true:=by simp;omega
   have n0:(0:Int)<=(n:Int):=by omega
   have E:=hd_ (show newN ks=none by
        unfold newN
        rw[if_neg (fun z=>by have:=HN.out;omega)])
   clear hs hp;go_enter Tryz.func18,Tryz.ntmps18
   go_wp2_with (at_make;refine wpList_mk linkS (enc:=encB) (z0:=false) rfl rfl (fun _=>rfl) H0.out rfl rfl 25 rfl rfl rfl rfl (by decide) (by decide) ?_;intro w1 h1 hb1;have h2:=(h1.alloc #[] 123).alloc #[.slice none 0 0,.slice (some ⟨w.heap.size+1,0,none⟩) 25 25,.slice (some ⟨w1.heap.size,0,none⟩) 0 0,.slice none 0 0] 30;have F:=hd_ (h2.p3.set4 (.slice none 0 0) (.slice none 0 0) (.slice none 0 0) (.slice none 0 0));obtain⟨d0,d1,d2,d3⟩:=h2.p3.cells4;have df:=h2.p3.free;clear H0 h1 h2 hb1)
   obtain⟨e0,e1,e2',e3⟩:=F.out.cells4
   (try simp only[Exit.inBlock,Exit.then])
   refine bodyPost_ret (v:=.tuple #[.agg #[.slice none 0 0,.slice none 0 0,.slice none 0 0,.slice none 0 0],.bool false]) (by simp[results,Tryz.results18,go_sem,e0,e1,e2',e3]) rfl ?_;rw[E.out];exact ans_none F.out
  ·have e2:(n:Int) % 2=1:=by omega
   have n0:(0:Int)<=(n:Int):=by omega
   have E:=hd_ (show newN ks=none by
        unfold newN
        rw[if_neg (fun z=>by have:=HN.out;omega)])
   clear hs hp;go_enter Tryz.func18,Tryz.ntmps18
   go_wp2_with (at_make;refine wpList_mk linkS (enc:=encB) (z0:=false) rfl rfl (fun _=>rfl) H0.out rfl rfl 25 rfl rfl rfl rfl (by decide) (by decide) ?_;intro w1 h1 hb1;have h2:=(h1.alloc #[] 123).alloc #[.slice none 0 0,.slice (some ⟨w.heap.size+1,0,none⟩) 25 25,.slice (some ⟨w1.heap.size,0,none⟩) 0 0,.slice none 0 0] 30;have F:=hd_ (h2.p3.set4 (.slice none 0 0) (.slice none 0 0) (.slice none 0 0) (.slice none 0 0));obtain⟨d0,d1,d2,d3⟩:=h2.p3.cells4;have df:=h2.p3.free;clear H0 h1 h2 hb1)
   obtain⟨e0,e1,e2',e3⟩:=F.out.cells4
   (try simp only[Exit.inBlock,Exit.then])
   refine bodyPost_ret (v:=.tuple #[.agg #[.slice none 0 0,.slice none 0 0,.slice none 0 0,.slice none 0 0],.bool false]) (by simp[results,Tryz.results18,go_sem,e0,e1,e2',e3]) rfl ?_;rw[E.out];exact ans_none F.out
end N
end Go.Proofs.YtcblbdpdbggkbaaGreat
set_option linter.unusedVariables false
set_option linter.unusedSectionVars false
set_option linter.unusedSimpArgs false
namespace Go.Proofs.YtcblbdpdbggkbaaGreat
open Go.RowKit Go.Sort
structure Eqv (c d:Ch):Prop where
 go:∀{w:World} {f:List Nat},c.at_ w f->∃f',d.at_ w f'/\f.Perm f'
theorem M.eqv {B:Nat} {w0 w:World} {l:List Ch} {c d:Ch} (h:M B w0 w (c::l)) (q:Eqv c d):M B w0 w (d::l):=
 h.to fun _ hf nd=>let ⟨f',h1,p⟩:=q.go hf;⟨f',h1,p.nodup_iff.1 nd,fun _ hb=>p.mem_iff.2 hb⟩
theorem Eqv.trans {a b c:Ch} (h:Eqv a b) (k:Eqv b c):Eqv a c:=⟨fun x=>let ⟨_,y,p⟩:=h.go x;let ⟨_,z,q⟩:=k.go y;⟨_,z,p.trans q⟩⟩
theorem Eqv.right {a b c:Ch} (h:Eqv a b):Eqv (c.sep a) (c.sep b):=⟨fun⟨f1,_,e,x,y⟩=>let ⟨f',z,p⟩:=h.go y;⟨_,⟨f1,f',rfl,x,z⟩,by rw[e];exact p.append_left _⟩⟩
theorem Eqv.swap (a b c:Ch):Eqv (a.sep (b.sep c)) (b.sep (a.sep c)):=⟨fun⟨f1,_,e,x,⟨f2,f3,e2,y,z⟩⟩=>⟨f2++(f1++f3),⟨f2,_,rfl,y,f1,f3,rfl,x,z⟩,by
  rw[e,e2, <-List.append_assoc, <-List.append_assoc];exact List.perm_append_comm.append_right _⟩⟩
theorem Eqv.emp1 (c:Ch):Eqv c (emp.sep c):=⟨fun h=>⟨_,⟨[],_,rfl,rfl,h⟩,.refl _⟩⟩
theorem Eqv.emp2 (c:Ch):Eqv (emp.sep c) c:=⟨fun⟨f1,f2,e,h1,h2⟩=>⟨f2,h2,by rw[e,h1];exact .refl _⟩⟩
namespace N
def nodeBox (p:Nat) (v:Value) (x:Nd):Ch:=(boxC p 55 #[.int .i64 x.born,v,.int .i64 x.beacon,.int .i64 x.level,.int .i64 x.up]).sep (knownC v x.known)
def optC:Option Nat->Option Nd->Ch
 |some p,some x=>Ch.ex fun v=>nodeBox p v x
 |_,_=>emp
def optsC:List (Option Nat)->List (Option Nd)->Ch
 |p::ps,x::ns=>(optC p x).sep (optsC ps ns)
 |_,_=>emp
def ptr (p:Option Nat):Value:=.pointer (p.map fun b=>⟨b,0,none⟩)
def liveBox (L:Nat) (ps:List (Option Nat)) (m:Nat) (vw vp:Value):Ch:=boxC L 104 (ps.map ptr++[.map (some m),vw,vp]).toArray
theorem opts_open:∀{ps:List (Option Nat)} {ns:List (Option Nd)} {i:Nat} {p:Option Nat} {x:Option Nd},ps[i]? =some p->ns[i]? =some x->Eqv (optsC ps ns) ((optC p x).sep (optsC (ps.set i none) (ns.set i none)))
 |_::ps,_::ns,0,p,x,hp,hx=>by
  simp only[List.getElem?_cons_zero,Option.some.injEq]at hp hx;subst hp hx;exact Eqv.right (Eqv.emp1 _)
 |q::ps,y::ns,i+1,p,x,hp,hx=>by
  simp only[List.getElem?_cons_succ]at hp hx;exact (Eqv.right (opts_open hp hx)).trans (Eqv.swap _ _ _)
 | [],_,_,_,_,hp,_=>by simp at hp
 |_::_,[],_,_,_,_,hx=>by simp at hx
theorem opts_close:∀{ps:List (Option Nat)} {ns:List (Option Nd)} {i:Nat} (p:Option Nat) (x:Option Nd),i<ps.length->i<ns.length->Eqv ((optC p x).sep (optsC (ps.set i none) (ns.set i none))) (optsC (ps.set i p) (ns.set i x))
 |_::ps,_::ns,0,p,x,_,_=>Eqv.right (Eqv.emp2 _)
 |q::ps,y::ns,i+1,p,x,hp,hx=>(Eqv.swap _ _ _).trans (Eqv.right (opts_close p x (by simpa using hp) (by simpa using hx)))
 | [],_,_,_,_,hp,_=>by simp at hp
 |_::_,[],_,_,_,_,hx=>by simp at hx
section
variable {B L m:Nat} {w0 w:World} {l:List Ch} {ps:List (Option Nat)} {ns:List (Option Nd)} {vw vp:Value}
theorem live_set {i:Nat} {p:Option Nat} (h:i<ps.length):(ps.map ptr++[.map (some m),vw,vp]).toArray.setIfInBounds i (ptr p)=((ps.set i p).map ptr++[.map (some m),vw,vp]).toArray:=by
 rw[List.setIfInBounds_toArray,List.set_append_left _ _ (by simpa using h),List.map_set]
theorem _root_.Go.Proofs.YtcblbdpdbggkbaaGreat.M.ptrAt {i:Nat} {p:Option Nat} (h:M B w0 w (liveBox L ps m vw vp::l)) (hi:ps[i]? =some p):w.cell? ⟨L,i,none⟩=some (ptr p):=
 M.cell h (by rw[List.getElem?_toArray,List.getElem?_append_left (by rw[List.length_map];exact (List.getElem?_eq_some_iff.1 hi).1),List.getElem?_map,hi];rfl)
theorem _root_.Go.Proofs.YtcblbdpdbggkbaaGreat.M.restAt (h:M B w0 w (liveBox L ps m vw vp::l)) (h5:ps.length=5):w.cell? ⟨L,5,none⟩=some (.map (some m))/\w.cell? ⟨L,6,none⟩=some vw/\w.cell? ⟨L,7,none⟩=some vp:=
 have k:∀{i:Nat} {u:Value},5<=i->([.map (some m),vw,vp]:List Value)[i - 5]? =some u->w.cell? ⟨L,i,none⟩=some u:=fun h1 h2=>
  M.cell h (by rw[List.getElem?_toArray,List.getElem?_append_right (by rw[List.length_map,h5];exact h1),List.length_map,h5];exact h2)
 ⟨k (by omega) rfl,k (by omega) rfl,k (by omega) rfl⟩
theorem _root_.Go.Proofs.YtcblbdpdbggkbaaGreat.M.setPtr {i:Nat} (h:M B w0 w (liveBox L ps m vw vp::l)) (hi:i<ps.length) (p:Option Nat):M B w0 (w.setCell ⟨L,i,none⟩ (ptr p)) (liveBox L (ps.set i p) m vw vp::l):=by
 have:=M.set (i:=i) h (ptr p);rw[live_set hi]at this;exact this
theorem _root_.Go.Proofs.YtcblbdpdbggkbaaGreat.M.setPast (h:M B w0 w (liveBox L ps m vw vp::l)) (h5:ps.length=5) (u:Value):M B w0 (w.setCell ⟨L,7,none⟩ u) (liveBox L ps m vw u::l):=by
 have:=M.set (i:=7) h u;rw[List.setIfInBounds_toArray,List.set_append_right _ _ (by rw[List.length_map,h5];omega),List.length_map,h5]at this;exact this
theorem _root_.Go.Proofs.YtcblbdpdbggkbaaGreat.M.nodeAt {i p:Nat} {x:Nd} (h:M B w0 w (optsC ps ns::l)) (hp:ps[i]? =some (some p)) (hx:ns[i]? =some (some x)):∃v,M B w0 w (boxC p 55 #[.int .i64 x.born,v,.int .i64 x.beacon,.int .i64 x.level,.int .i64 x.up]::knownC v x.known::optsC (ps.set i none) (ns.set i none)::l):=by
 obtain⟨v,h'⟩:=(h.eqv (opts_open hp hx)).two.ex;exact⟨v,h'.two⟩
theorem _root_.Go.Proofs.YtcblbdpdbggkbaaGreat.M.nodeBack {i p:Nat} {v:Value} {x:Nd} (h:M B w0 w (boxC p 55 #[.int .i64 x.born,v,.int .i64 x.beacon,.int .i64 x.level,.int .i64 x.up]::knownC v x.known::optsC (ps.set i none) (ns.set i none)::l)) (hp:i<ps.length) (hx:i<ns.length):M B w0 w (optsC (ps.set i (some p)) (ns.set i (some x))::l):=
 M.eqv (M.sep (M.in (c:=fun v=>nodeBox p v x) v h.sep)) (opts_close (some p) (some x) hp hx)
theorem _root_.Go.Proofs.YtcblbdpdbggkbaaGreat.M.forget {i:Nat} {p:Option Nat} {x:Option Nd} (h:M B w0 w (optsC ps ns::l)) (hp:ps[i]? =some p) (hx:ns[i]? =some x):M B w0 w (optsC (ps.set i none) (ns.set i none)::l):=
 ((h.eqv (opts_open hp hx)).two).drop
end
def endV (k:Int × Int):Value:=.agg #[.int .i64 k.1,.int .i64 k.2]
def EndOk (k:Int × Int):Prop:=(-9223372036854775808<=k.1/\k.1<9223372036854775808)/\(-9223372036854775808<=k.2/\k.2<9223372036854775808)
theorem endT:KeyT Tryz.prog 130 EndOk endV:=by
 refine⟨Go.Maps.Keyed.of_law (deep_law_gate (by kernel_rfl) (by decide+kernel) (by decide+kernel) (by kernel_rfl) (by kernel_rfl)),fun k hk=>?_,fun x y h=>?_⟩
 ·obtain⟨⟨a0,a1⟩,b0,b1⟩:=hk
  have c2:Tryz.prog.cellsOf 130=2:=by kernel_rfl
  have c1:Tryz.prog.cellsOf 3=1:=by kernel_rfl
  have ht:Tryz.prog.keyType 130=true:=by kernel_rfl
  have hn:1<=Tryz.prog.types.size:=by decide+kernel
  obtain⟨d,hd⟩:∃d,Tryz.prog.types.size+1=d+2:=⟨Tryz.prog.types.size - 1,by omega⟩
  have w1:(Lit.int .i64 k.1).wf=true:=by simp[Lit.wf,IntKind.min,IntKind.max,IntKind.bits,IntKind.signed];omega
  have w2:(Lit.int .i64 k.2).wf=true:=by simp[Lit.wf,IntKind.min,IntKind.max,IntKind.bits,IntKind.signed];omega
  refine⟨.string (keyBytes [.int .i64 k.1,.int .i64 k.2]),?_⟩;have hl:Tryz.prog.keyLits (d+2) 130 [.int .i64 k.1,.int .i64 k.2]=some [.int .i64 k.1,.int .i64 k.2]:=by
   simp only[Program.keyLits,Tryz.underlying130,c2];simp[Program.keyLits,c1,Tryz.underlying3,w1,w2]
  have hf:(endV k).formed Tryz.prog 130=true:=by unfold endV Value.formed;simp only[Tryz.underlying130,c2];rfl
  have hc:(endV k).cells.toList=[.int .i64 k.1,.int .i64 k.2]:=rfl;simp only[keyOf,Tryz.underlying130,ht,hf,hd,hc,hl,Bool.and_self,if_true,Option.map_some]
 ·unfold endV at h
  injection h with h
  have h':=congrArg Array.toList h;simp at h';exact Prod.ext h'.1 h'.2
def LinksAre (g:Int × Int->Option Value) (lk:Int->Int->Bool):Prop:=∀k,(g k).getD (.bool false)=.bool (lk k.1 k.2)
theorem boolZ (w:World):(zeroValue 4).run Tryz.prog w=.ok (.bool false) w:=by
 obtain⟨i,hi,hz,_⟩:=info_parts linkS.info;simp[zeroValue,typeInfo,hi,hz]
theorem look_link {B m:Nat} {w0 w:World} {l:List Ch} {g:Int × Int->Option Value} {lk:Int->Int->Bool} (h:M B w0 w (mapC EndOk endV m g::l)) (hlk:LinksAre g lk) (a b:Int) (hk:EndOk (a,b)):
  (Instr.lookup 100 (.map (some m)) (.agg #[.int .i64 a,.int .i64 b]) false).run Tryz.prog w=.ok (.bool (lk a b)) w:=by
 have:=h.look endT Tryz.underlying100 (boolZ w) hk false;rw[hlk (a,b)]at this;exact this
theorem flatB_one:(flatR encB).One 1:=⟨fun h=>by rw[h.1];rfl,fun h u hu=>by rw[h.1]at hu;rw[List.mem_singleton.1 hu];rfl⟩
end N
end Go.Proofs.YtcblbdpdbggkbaaGreat
namespace Go.Proofs.YtcblbdpdbggkbaaGreat
open Go.RowKit Go.Sort
namespace N
theorem isNode_yes (w:World) (a:Int) (h:in6 a 0 4=true):Calls Tryz.prog 95 #[.int .i64 a] w fun e w'=>e=.returned (.bool true)/\w=w':=by
 obtain⟨h0,h1⟩:0<=a/\a<=4:=by simpa[in6]using h
 have h2:a<5:=by omega
 clear h h1;go_enter Tryz.func95,Tryz.ntmps95;go_wp2;go_ret;exact⟨rfl,rfl⟩
theorem isNode_no (w:World) (a:Int) (h:in6 a 0 4=false):Calls Tryz.prog 95 #[.int .i64 a] w fun e w'=>e=.returned (.bool false)/\w=w':=by
 have h':¬(0<=a/\a<=4):=by simpa[in6]using h
 clear h
 by_cases h0:0<=a
 ·have h1:decide (a<5)=false:=by simp;omega
  clear h';go_enter Tryz.func95,Tryz.ntmps95;go_wp2;go_ret;exact⟨rfl,rfl⟩
 ·have h1:decide (0<=a)=false:=by simp;omega
  clear h' h0;go_enter Tryz.func95,Tryz.ntmps95;go_wp2;go_ret;exact⟨rfl,rfl⟩
def two (a b:Int):Bool:=(in6 a 0 4&&in6 b 0 4)&&decide (a≠b)
theorem areTwo_at (w:World) (a b:Int):Calls Tryz.prog 70 #[.int .i64 a,.int .i64 b] w fun e w'=>e=.returned (.bool (two a b))/\w=w':=by
 cases ga:in6 a 0 4 with
 |false=>
  have e1:two a b=false:=by unfold two;rw[ga];rfl
  rw[e1];have G:=hd_ ga;clear ga e1;go_enter Tryz.func70,Tryz.ntmps70
  go_wp2_with (go_at_call 95;(with_reducible refine (isNode_no _ a G.out).mono ?_);rintro e w' ⟨rfl,rfl⟩)
  go_ret;exact⟨rfl,rfl⟩
 |true=>
  have GA:=hd_ ga;cases gb:in6 b 0 4 with
  |false=>
   have e1:two a b=false:=by unfold two;rw[ga,gb];rfl
   rw[e1];have GB:=hd_ gb;clear ga gb e1;go_enter Tryz.func70,Tryz.ntmps70
   go_wp2_with (first|(go_at_call 95;(with_reducible refine (isNode_yes _ a GA.out).mono ?_);rintro e w' ⟨rfl,rfl⟩)|(go_at_call 95;(with_reducible refine (isNode_no _ b GB.out).mono ?_);rintro e w' ⟨rfl,rfl⟩))
   go_ret;exact⟨rfl,rfl⟩
  |true=>
   have GB:=hd_ gb;have e1:two a b=decide (a≠b):=by unfold two;rw[ga,gb];rfl
   rw[e1];clear ga gb e1;go_enter Tryz.func70,Tryz.ntmps70
   go_wp2_with (first|(go_at_call 95;(with_reducible refine (isNode_yes _ a GA.out).mono ?_);rintro e w' ⟨rfl,rfl⟩)|(go_at_call 95;(with_reducible refine (isNode_yes _ b GB.out).mono ?_);rintro e w' ⟨rfl,rfl⟩))
   go_ret;exact⟨ret_bool (by by_cases q:a=b<;>simp[q]),rfl⟩
theorem endsAt_at (w:World) (p:Nat) (h:p<25):Calls Tryz.prog 149 #[.int .i64 p] w fun e w'=>e=.returned (.agg #[.int .i64 ((p / 5:Nat):Int),.int .i64 ((p % 5:Nat):Int)])/\Below w.heap.size w w':=by
 have h0:(0:Int)<=(p:Int):=by omega
 have h1:(p:Int)<25:=by omega
 have H:=hd_ ((M.start w).alloc #[.int .i64 ((p:Int) / 5),.int .i64 ((p:Int) % 5)] 130);clear h;go_enter Tryz.func149,Tryz.ntmps149;go_wp2;obtain⟨c0,c1⟩:=H.out.cells2;exact bodyPost_ret (v:=.agg #[.int .i64 ((p:Int) / 5),.int .i64 ((p:Int) % 5)]) (by simp[results,Tryz.results149,go_sem,c0,c1]) rfl ⟨by simp,H.out.below⟩
theorem setLink_at {B L m:Nat} {w0 w:World} {l:List Ch} {ps:List (Option Nat)} {vw vp:Value} {g:Int × Int->Option Value} (h:M B w0 w (liveBox L ps m vw vp::mapC EndOk endV m g::l)) (h5:ps.length=5) (a b:Int) (u:Bool) (hk:EndOk (a,b)):
  Calls Tryz.prog 71 #[.pointer (some ⟨L,0,none⟩),.int .i64 a,.int .i64 b,.bool u] w fun e w'=>e=.returned (.tuple #[])/\M B w0 w' (liveBox L ps m vw vp::mapC EndOk endV m (fun y=>if y=(b,a)then some (.bool u)else if y=(a,b)then some (.bool u)else g y)::l):=by
 have hk':EndOk (b,a):=⟨hk.2,hk.1⟩
 have K1:=hd_ hk;have K2:=hd_ hk';have H:=hd_ h.p1;have H5:=hd_ h5;have c5:=(h.restAt h5).1;clear h hk hk' h5;go_enter Tryz.func71,Tryz.ntmps71
 go_wp2_with (at_mapUpdate;go_loud (refine wpList_mset endT Tryz.underlying100 H.out K1.out rfl rfl rfl rfl rfl ?_))
 intro w1 h1 hs1;have H1:=hd_ h1;have c5':=(h1.p1.restAt H5.out).1;clear h1 hs1 H c5
 go_wp2_with (at_mapUpdate;go_loud (refine wpList_mset endT Tryz.underlying100 H1.out K2.out rfl rfl rfl rfl rfl ?_))
 intro w2 h2 hs2;have H2:=hd_ h2;clear h2 hs2 c5';go_wp2
 go_end0
 exact⟨rfl,H2.out.p1⟩
def newNd (i born:Nat):Nd:=⟨(born:Int),[⟨(i:Int),(born:Int),0,newSm⟩],0,if (i:Int)=0 then 0 else 5, -1⟩
theorem bear_at {B L m:Nat} {w0 w:World} {l:List Ch} {ps:List (Option Nat)} {ns:List (Option Nd)} {vw vp:Value} {pst:List (List (List Int))} {rs:List (List Int)} {i:Nat}
  (h:M B w0 w (pastC vp pst::liveBox L ps m vw vp::optsC ps ns::l)) (h5:ps.length=5) (n5:ns.length=5) (hi:i<5) (hr:pst[i]? =some rs) (hl:rs.length<=100):
  Calls Tryz.prog 69 #[.pointer (some ⟨L,0,none⟩),.int .i64 (i:Int)] w fun e w'=>e=.returned (.tuple #[])/\∃p,M B w0 w' (pastC vp (pst.set i (rs++[[]]))::liveBox L (ps.set i (some p)) m vw vp::optsC (ps.set i (some p)) (ns.set i (some (newNd i rs.length)))::l):=by
 have hil:i<pst.length:=(List.getElem?_eq_some_iff.1 hr).1;obtain⟨g,cap,ci,rfl,hc,h1⟩:=M.open rowsR_frame h hr;obtain⟨xr,cr,rfl⟩:∃xr cr,ci=[.slice xr rs.length cr]:=by
  obtain⟨f,hf,_⟩:=h1.first;obtain⟨v,_,_,e,_⟩:=slcR_els hf;subst e;obtain⟨y,c,q,_⟩:=slcR_value hf;cases q;exact⟨_,_,rfl⟩
 have n0:(0:Int)<=(i:Int):=by omega
 have n1:(i:Int)<5:=by omega
 have n2:(i:Int)<(pst.length:Int):=by omega
 obtain⟨np,hnp⟩:∃n,n=pst.length:=⟨_,rfl⟩
 obtain⟨nr,hnr⟩:∃n,n=rs.length:=⟨_,rfl⟩
 rw[<-hnp]at n2;have NR:=hd_ hnr;have HI:=hd_ hil;have H5:=hd_ h5;have N5:=hd_ n5;have HL:=hd_ hl;rw[<-hnp, <-hnr]at h1;have H:=hd_ h1;have c7:=(h1.p2.restAt h5).2.2;have cr0:=h1.p1.hcell1 hil;have C7:=hd_ c7;have CR:=hd_ cr0;clear h h1 hr hc hil h5 n5 hl hnr;rw[<-hnp, <-NR.out];clear hnp;go_enter Tryz.func69,Tryz.ntmps69;go_wp2;clear c7 cr0
 refine wp_region_plan 15 (.tk 0 12 (.alt 12 (.alt 13 (.take 14 (.alt 15 .done .nomore)) .nomore) .nomore)) (fun w'=>w'.cell? ⟨L,7,none⟩=some (.slice (some ⟨g,0,none⟩) np cap)/\w'.cell? ⟨g,i,none⟩=some (.slice xr nr cr)) (by kernel_rfl) (by kernel_rfl) (fun _ _ _ _ _ h=>h) ⟨C7.out,CR.out⟩ ?_;clear C7 CR
 repeat ((first|(refine plan_take (by rfl) (by rfl) ?_;apply Exists.intro;refine⟨fun w' hw'=>?_,?_⟩;(· ((try dsimp only at hw');go_simp;(try with_reducible rfl))))|(refine plan_skip (by rfl) (by rfl) ?_));simp only[Act.put,List.getElem_toArray,List.getElem_cons_succ,pg3,pg4,pg5,pg6])
 have h2:=((H.out.drew.nil (flatR_frame encI) 3 1).soft.p1).alloc #[.slice none 0 0] 23;refine plan_last (by rfl) (fun K hK=>?_);go_simp;refine hK _ _ (.inr ⟨(h2.p4.restAt H5.out).2.2,h2.p3.hcell1 HI.out⟩) ?_;clear hK K
 try simp only[Act.put,List.getElem_toArray,List.getElem_cons_succ,pg3,pg4,pg5,pg6]
 refine plan_last (by rfl) (fun K hK=>step_app rowS (flR_one:intsR.One 1) h2 (by rfl) (by rfl) (by rfl) (by rfl) (by have:=HL.out;simp[maxLen];omega) (by have:=HL.out;omega) (N:=nr+1) (by rw[NR.out]) (fun y cy w2 h3=>?_));refine hK _ _ (.inr ⟨(h3.p2.restAt H5.out).2.2,h3.p1.hcell1 HI.out⟩) ?_;clear hK K
 try simp only[Act.put,List.getElem_toArray,List.getElem_cons_succ,pg3,pg4,pg5,pg6]
 repeat ((first|(refine plan_take (by rfl) (by rfl) ?_;apply Exists.intro;refine⟨fun w' hw'=>?_,?_⟩;(· ((try dsimp only at hw');go_simp;(try with_reducible rfl))))|(refine plan_skip (by rfl) (by rfl) ?_));simp only[Act.put,List.getElem_toArray,List.getElem_cons_succ,pg3,pg4,pg5,pg6])
 have cz:=h3.p1.hcell1 HI.out;have fz:=h3.p1.hfree i;have H4:=hd_ ((h3.p1.hset1 HI.out (.slice y (nr+1) cy)).p1.close HI.out);clear h2 h3 H;refine plan_last (by rfl) (fun K hK=>?_);go_simp;refine hK _ _ (.inl rfl) ?_;clear hK K
 try simp only[Act.put,List.getElem_toArray,List.getElem_cons_succ,pg3,pg4,pg5,pg6]
 refine plan_done ?_;clear cz fz;obtain⟨w3,hw3⟩:∃w3,w3=w2.setCell ⟨g,i,none⟩ (.slice y (nr+1) cy):=⟨_,rfl⟩
 rw[<-hw3]at H4 ⊢;clear hw3;obtain⟨po,hpo⟩:∃po,ps[i]? =some po:=⟨_,List.getElem?_eq_getElem (by rw[H5.out];omega)⟩
 obtain⟨no,hno⟩:∃no,ns[i]? =some no:=⟨_,List.getElem?_eq_getElem (by rw[N5.out];omega)⟩
 have H5b:=hd_ ((H4.out.p2.forget hpo hno).p2);clear H4 hpo hno;rcases Nat.eq_zero_or_pos i with rfl|hz
 ·skip
  go_wp2_with fail
  refine (imSumNew_at _).mono ?_;rintro e w4 ⟨V,rfl,ho,hb'⟩;have h6:=(H5b.out.sum hb' ho).alloc #[.int .i64 0,.int .i64 (nr:Int),.int .i64 0,.slice V.xr V.nr V.cr,.slice V.xf V.nf V.cf,.slice V.xt V.nt V.ct,.int .i64 newSm.lo,.int .i64 newSm.al,.slice V.xk V.nk V.ck,.int .i64 newSm.ka] 64;have H6:=hd_ h6;clear ho hb' h6 H5b;go_wp2
  obtain⟨w5,hw5⟩:∃w5,w5=w4.alloc (.cells #[.int .i64 0,.int .i64 (nr:Int),.int .i64 0,.slice V.xr V.nr V.cr,.slice V.xf V.nf V.cf,.slice V.xt V.nt V.ct,.int .i64 newSm.lo,.int .i64 newSm.al,.slice V.xk V.nk V.ck,.int .i64 newSm.ka] 64):=⟨_,rfl⟩
  rw[<-hw5]at H6 ⊢;clear hw5;generalize w4.heap.size=E at H6 ⊢
  refine wp_region_plan 99 (.tk 0 4 (.take 5 (.tk 8 2 (.alt 4 (.take 6 (.alt 7 (.take 10 (.alt 11 .done .nomore)) .nomore)) .nomore)))) (fun w'=>w'.cell? ⟨E,0,none⟩=some (.int .i64 0)/\w'.cell? ⟨E,1,none⟩=some (.int .i64 (nr:Int))/\w'.cell? ⟨E,2,none⟩=some (.int .i64 0)/\w'.cell? ⟨E,3,none⟩=some (.slice V.xr V.nr V.cr)/\w'.cell? ⟨E,4,none⟩=some (.slice V.xf V.nf V.cf)/\w'.cell? ⟨E,5,none⟩=some (.slice V.xt V.nt V.ct)/\w'.cell? ⟨E,6,none⟩=some (.int .i64 newSm.lo)/\w'.cell? ⟨E,7,none⟩=some (.int .i64 newSm.al)/\w'.cell? ⟨E,8,none⟩=some (.slice V.xk V.nk V.ck)/\w'.cell? ⟨E,9,none⟩=some (.int .i64 newSm.ka)) (by kernel_rfl) (by kernel_rfl) (fun _ _ _ _ _ h=>h) H6.out.drew.cells10 ?_
  have H7:=hd_ H6.out.drew;clear H6;generalize w5.drew=w6 at H7 ⊢
  repeat ((first|(refine plan_take (by rfl) (by rfl) ?_;apply Exists.intro;refine⟨fun w' hw'=>?_,?_⟩;(· ((try dsimp only at hw');go_simp;(try with_reducible rfl))))|(refine plan_skip (by rfl) (by rfl) ?_));simp only[Act.put,List.getElem_toArray,List.getElem_cons_succ,pg3,pg4,pg5,pg6])
  have h7:=((H7.out.p1.entry 0 (nr:Int) 0).p1).alloc #[.int .i64 0,.int .i64 (nr:Int),.int .i64 0,.slice V.xr V.nr V.cr,.slice V.xf V.nf V.cf,.slice V.xt V.nt V.ct,.int .i64 newSm.lo,.int .i64 newSm.al,.slice V.xk V.nk V.ck,.int .i64 newSm.ka] 64;clear H7;refine plan_last (by rfl) (fun K hK=>?_);go_simp;refine hK _ _ (.inr h7.p1.cells10) ?_;clear hK K
  try simp only[Act.put,List.getElem_toArray,List.getElem_cons_succ,pg3,pg4,pg5,pg6]
  repeat ((first|(refine plan_take (by rfl) (by rfl) ?_;apply Exists.intro;refine⟨fun w' hw'=>?_,?_⟩;(· ((try dsimp only at hw');go_simp;(try with_reducible rfl))))|(refine plan_skip (by rfl) (by rfl) ?_));simp only[Act.put,List.getElem_toArray,List.getElem_cons_succ,pg3,pg4,pg5,pg6])
  have h8:=(h7.p2.p1.one entryR_frame rfl).alloc #[.int .i64 (nr:Int),.slice (some ⟨w6.heap.size,0,none⟩) 1 1,.int .i64 0,.int .i64 0,.int .i64 (-1)] 55;simp only[World.size_alloc]at h8;clear h7;refine plan_last (by rfl) (fun K hK=>?_);go_simp;refine hK _ _ (.inr h8.p2.cells10) ?_;clear hK K
  try simp only[Act.put,List.getElem_toArray,List.getElem_cons_succ,pg3,pg4,pg5,pg6]
  repeat ((first|(refine plan_take (by rfl) (by rfl) ?_;apply Exists.intro;refine⟨fun w' hw'=>?_,?_⟩;(· ((try dsimp only at hw');go_simp;(try with_reducible rfl))))|(refine plan_skip (by rfl) (by rfl) ?_));simp only[Act.put,List.getElem_toArray,List.getElem_cons_succ,pg3,pg4,pg5,pg6])
  obtain⟨po,hpo⟩:∃po,ps[0]? =some po:=⟨_,List.getElem?_eq_getElem (by rw[H5.out];omega)⟩
  have cz:=h8.p3.ptrAt hpo;have fz:=h8.p3.free 0;have h9:=h8.p3.setPtr (i:=0) (by rw[H5.out];omega) (some (w6.heap.size+1));have S9:=hd_ h9.p3.cells10;have E9:=hd_ (show newNd 0 nr=⟨(nr:Int),[⟨0,(nr:Int),0,newSm⟩],0,0, -1⟩ by rfl);have F:=hd_ ((M.nodeBack (x:=⟨(nr:Int),[⟨0,(nr:Int),0,newSm⟩],0,0, -1⟩) h9.p4.p3.p3 (by rw[H5.out];omega) (by rw[N5.out];omega)).p2.drop.p2.p2.p1);clear h8 h9 hpo
  refine plan_last (by rfl) (fun K hK=>?_);go_simp;refine hK _ _ (.inr S9.out) ?_;clear hK K
  try simp only[Act.put,List.getElem_toArray,List.getElem_cons_succ,pg3,pg4,pg5,pg6]
  refine plan_done ?_;clear cz fz;go_wp2
  go_end0
  refine⟨rfl,w6.heap.size+1,?_⟩;rw[E9.out];exact F.out
 ·have hb:((i:Int)==0)=false:=by simp;omega
  go_wp2_with fail
  refine (imSumNew_at _).mono ?_;rintro e w4 ⟨V,rfl,ho,hb'⟩;have h6:=(H5b.out.sum hb' ho).alloc #[.int .i64 (i:Int),.int .i64 (nr:Int),.int .i64 0,.slice V.xr V.nr V.cr,.slice V.xf V.nf V.cf,.slice V.xt V.nt V.ct,.int .i64 newSm.lo,.int .i64 newSm.al,.slice V.xk V.nk V.ck,.int .i64 newSm.ka] 64;have H6:=hd_ h6;clear ho hb' h6 H5b;go_wp2
  obtain⟨w5,hw5⟩:∃w5,w5=w4.alloc (.cells #[.int .i64 (i:Int),.int .i64 (nr:Int),.int .i64 0,.slice V.xr V.nr V.cr,.slice V.xf V.nf V.cf,.slice V.xt V.nt V.ct,.int .i64 newSm.lo,.int .i64 newSm.al,.slice V.xk V.nk V.ck,.int .i64 newSm.ka] 64):=⟨_,rfl⟩
  rw[<-hw5]at H6 ⊢;clear hw5;generalize w4.heap.size=E at H6 ⊢
  refine wp_region_plan 99 (.tk 0 4 (.take 5 (.tk 8 2 (.alt 4 (.take 6 (.alt 7 (.take 10 (.alt 11 .done .nomore)) .nomore)) .nomore)))) (fun w'=>w'.cell? ⟨E,0,none⟩=some (.int .i64 (i:Int))/\w'.cell? ⟨E,1,none⟩=some (.int .i64 (nr:Int))/\w'.cell? ⟨E,2,none⟩=some (.int .i64 0)/\w'.cell? ⟨E,3,none⟩=some (.slice V.xr V.nr V.cr)/\w'.cell? ⟨E,4,none⟩=some (.slice V.xf V.nf V.cf)/\w'.cell? ⟨E,5,none⟩=some (.slice V.xt V.nt V.ct)/\w'.cell? ⟨E,6,none⟩=some (.int .i64 newSm.lo)/\w'.cell? ⟨E,7,none⟩=some (.int .i64 newSm.al)/\w'.cell? ⟨E,8,none⟩=some (.slice V.xk V.nk V.ck)/\w'.cell? ⟨E,9,none⟩=some (.int .i64 newSm.ka)) (by kernel_rfl) (by kernel_rfl) (fun _ _ _ _ _ h=>h) H6.out.drew.cells10 ?_
  have H7:=hd_ H6.out.drew;clear H6;generalize w5.drew=w6 at H7 ⊢
  repeat ((first|(refine plan_take (by rfl) (by rfl) ?_;apply Exists.intro;refine⟨fun w' hw'=>?_,?_⟩;(· ((try dsimp only at hw');go_simp;(try with_reducible rfl))))|(refine plan_skip (by rfl) (by rfl) ?_));simp only[Act.put,List.getElem_toArray,List.getElem_cons_succ,pg3,pg4,pg5,pg6])
  have h7:=((H7.out.p1.entry (i:Int) (nr:Int) 0).p1).alloc #[.int .i64 (i:Int),.int .i64 (nr:Int),.int .i64 0,.slice V.xr V.nr V.cr,.slice V.xf V.nf V.cf,.slice V.xt V.nt V.ct,.int .i64 newSm.lo,.int .i64 newSm.al,.slice V.xk V.nk V.ck,.int .i64 newSm.ka] 64;clear H7;refine plan_last (by rfl) (fun K hK=>?_);go_simp;refine hK _ _ (.inr h7.p1.cells10) ?_;clear hK K
  try simp only[Act.put,List.getElem_toArray,List.getElem_cons_succ,pg3,pg4,pg5,pg6]
  repeat ((first|(refine plan_take (by rfl) (by rfl) ?_;apply Exists.intro;refine⟨fun w' hw'=>?_,?_⟩;(· ((try dsimp only at hw');go_simp;(try with_reducible rfl))))|(refine plan_skip (by rfl) (by rfl) ?_));simp only[Act.put,List.getElem_toArray,List.getElem_cons_succ,pg3,pg4,pg5,pg6])
  have h8:=(h7.p2.p1.one entryR_frame rfl).alloc #[.int .i64 (nr:Int),.slice (some ⟨w6.heap.size,0,none⟩) 1 1,.int .i64 0,.int .i64 5,.int .i64 (-1)] 55;simp only[World.size_alloc]at h8;clear h7;refine plan_last (by rfl) (fun K hK=>?_);go_simp;refine hK _ _ (.inr h8.p2.cells10) ?_;clear hK K
  try simp only[Act.put,List.getElem_toArray,List.getElem_cons_succ,pg3,pg4,pg5,pg6]
  repeat ((first|(refine plan_take (by rfl) (by rfl) ?_;apply Exists.intro;refine⟨fun w' hw'=>?_,?_⟩;(· ((try dsimp only at hw');go_simp;(try with_reducible rfl))))|(refine plan_skip (by rfl) (by rfl) ?_));simp only[Act.put,List.getElem_toArray,List.getElem_cons_succ,pg3,pg4,pg5,pg6])
  obtain⟨po,hpo⟩:∃po,ps[i]? =some po:=⟨_,List.getElem?_eq_getElem (by rw[H5.out];omega)⟩
  have cz:=h8.p3.ptrAt hpo;have fz:=h8.p3.free i;have h9:=h8.p3.setPtr (i:=i) (by rw[H5.out];omega) (some (w6.heap.size+1));have S9:=hd_ h9.p3.cells10;have E9:=hd_ (show newNd i nr=⟨(nr:Int),[⟨(i:Int),(nr:Int),0,newSm⟩],0,5, -1⟩ by unfold newNd;rw[if_neg (by omega)])
  have F:=hd_ ((M.nodeBack (x:=⟨(nr:Int),[⟨(i:Int),(nr:Int),0,newSm⟩],0,5, -1⟩) h9.p4.p3.p3 (by rw[H5.out];omega) (by rw[N5.out];omega)).p2.drop.p2.p2.p1);clear h8 h9 hpo;refine plan_last (by rfl) (fun K hK=>?_);go_simp;refine hK _ _ (.inr S9.out) ?_;clear hK K
  try simp only[Act.put,List.getElem_toArray,List.getElem_cons_succ,pg3,pg4,pg5,pg6]
  refine plan_done ?_;clear cz fz;go_wp2
  go_end0
  refine⟨rfl,w6.heap.size+1,?_⟩;rw[E9.out];exact F.out
theorem five5 {α:Type} {l:List α} (h:l.length=5):∃a b c d e,l=[a,b,c,d,e]:=by
 match l,h with
 | [a,b,c,d,e],_=>exact⟨a,b,c,d,e,rfl⟩
def linkL (lk:Int->Int->Bool) (k:Nat):List Bool:=(List.range k).map fun p:Nat=>lk ((p / 5:Nat):Int) ((p % 5:Nat):Int)
theorem imNet_at {B L m:Nat} {w0 w:World} {l:List Ch} {qs:List Nat} {nds:List Nd} {vw vp:Value} {ws:List Wd} {pst:List (List (List Int))} {g:Int × Int->Option Value} {lk:Int->Int->Bool}
  (h:M B w0 w (liveBox L (qs.map some) m vw vp::mapC EndOk endV m g::optsC (qs.map some) (nds.map some)::wordsC vw ws::pastC vp pst::l)) (q5:qs.length=5) (n5:nds.length=5) (hlk:LinksAre g lk):
  Calls Tryz.prog 72 #[.pointer (some ⟨L,0,none⟩)] w fun e w'=>∃v1 v2,e=.returned (.agg #[v1,v2,vw,vp])/\M B w0 w' (nodesC v1 nds::linksC v2 (linkL lk 25)::wordsC vw ws::pastC vp pst::l):=by
 obtain⟨xw,cw,rfl⟩:∃x c,vw=.slice x ws.length c:=by obtain⟨f,hf,_⟩:=h.p3.first;obtain⟨_,_,e,_⟩:=slcR_value hf;exact⟨_,_,e⟩
 obtain⟨xp,cp,rfl⟩:∃x c,vp=.slice x pst.length c:=by obtain⟨f,hf,_⟩:=h.p4.first;obtain⟨_,_,e,_⟩:=slcR_value hf;exact⟨_,_,e⟩
 obtain⟨p0,p1,p2,p3,p4,rfl⟩:=five5 q5;obtain⟨n0,n1,n2,n3,n4,rfl⟩:=five5 n5;generalize ws.length=nw at h ⊢;generalize pst.length=np at h ⊢;simp only[List.map_cons,List.map_nil]at h;have HK:=hd_ hlk;clear q5 n5 hlk;have h0:=(h.alloc #[.slice none 0 0,.slice none 0 0,.slice none 0 0,.slice none 0 0] 30).drew;have H:=hd_ h0.p1;clear h h0;go_enter Tryz.func72,Tryz.ntmps72;go_wp2
 generalize w.heap.size=R at H ⊢;refine wp_region_plan 10 (.tk 0 9 (.alt 9 (.alt 10 .done .nomore) .nomore)) (fun w'=>w'.cell? ⟨L,6,none⟩=some (.slice xw nw cw)/\w'.cell? ⟨L,7,none⟩=some (.slice xp np cp)) (by kernel_rfl) (by kernel_rfl) (fun _ _ _ _ _ h=>h) (H.out.restAt rfl).2 ?_
 obtain⟨w1,hw1⟩:∃w1,w1=(w.alloc (.cells #[.slice none 0 0,.slice none 0 0,.slice none 0 0,.slice none 0 0] 30)).drew:=⟨_,rfl⟩
 rw[<-hw1]at H ⊢;clear hw1
 repeat ((first|(refine plan_take (by rfl) (by rfl) ?_;apply Exists.intro;refine⟨fun w' hw'=>?_,?_⟩;(· ((try dsimp only at hw');go_simp;(try with_reducible rfl))))|(refine plan_skip (by rfl) (by rfl) ?_));simp only[Act.put,List.getElem_toArray,List.getElem_cons_succ,pg3,pg4,pg5,pg6])
 have h1:=H.out.alloc #[.slice none 0 0,.slice none 0 0,.slice none 0 0,.slice none 0 0] 30;refine plan_last (by rfl) (fun K hK=>?_);go_simp;refine hK _ _ (.inr (h1.p1.restAt rfl).2) ?_;clear hK K
 try simp only[Act.put,List.getElem_toArray,List.getElem_cons_succ,pg3,pg4,pg5,pg6]
 have H2:=hd_ (H.out.alloc #[.slice none 0 0,.slice none 0 0,.slice xw nw cw,.slice xp np cp] 30);obtain⟨c0,c1,c2,c3⟩:=h1.cells4;have cf:=h1.free;clear h1 H;refine plan_last (by rfl) (fun K hK=>?_);go_simp;refine hK _ _ (.inl rfl) ?_;clear hK K
 try simp only[Act.put,List.getElem_toArray,List.getElem_cons_succ,pg3,pg4,pg5,pg6]
 refine plan_done ?_;clear c0 c1 c2 c3 cf;obtain⟨w2,hw2⟩:∃w2,w2=w1.alloc (.cells #[.slice none 0 0,.slice none 0 0,.slice xw nw cw,.slice xp np cp] 30):=⟨_,rfl⟩
 rw[<-hw2]at H2 ⊢;clear hw2;generalize w1.heap.size=N1 at H2 ⊢;have z0:=H2.out.p1.ptrAt (i:=0) rfl;have z1:=H2.out.p1.ptrAt (i:=1) rfl;have z2:=H2.out.p1.ptrAt (i:=2) rfl;have z3:=H2.out.p1.ptrAt (i:=3) rfl;have z4:=H2.out.p1.ptrAt (i:=4) rfl;simp only[ptr,Option.map_some]at z0 z1 z2 z3 z4;go_wp2;clear z0 z1 z2 z3 z4
 go_loopw [20] (fun i wr=>∃(k:Nat) (xn:Option Addr) (cn:Nat),i=.int .i64 (k:Int)/\k<=5/\M B w0 wr (nodesC (.slice xn k cn) ([n0,n1,n2,n3,n4].take k)::optsC (List.replicate k none++[some p0,some p1,some p2,some p3,some p4].drop k) (List.replicate k none++[some n0,some n1,some n2,some n3,some n4].drop k)::boxC N1 30 #[.slice xn k cn,.slice none 0 0,.slice xw nw cw,.slice xp np cp]::liveBox L [some p0,some p1,some p2,some p3,some p4] m (.slice xw nw cw) (.slice xp np cp)::boxC R 30 #[.slice none 0 0,.slice none 0 0,.slice none 0 0,.slice none 0 0]::mapC EndOk endV m g::wordsC (.slice xw nw cw) ws::pastC (.slice xp np cp) pst::l)) (fun i _=>5 - (intOf i).toNat)
 case atStart=>exact⟨0,none,0,rfl,Nat.zero_le _,M.nil (nodeR_frame (T:=TY)) 55 5 H2.out.p4⟩
 case round=>
  clear H2;obtain⟨k,xn,cn,rfl,hk,h⟩:=hrel;have H:=hd_ h;clear h
  by_cases hk5:k<5
  ·obtain⟨pk,nk,hpk,hnk,hpk',hnk',hp2,hn2,hn3⟩:∃(pk:Nat) (nk:Nd),[p0,p1,p2,p3,p4][k]? =some pk/\[n0,n1,n2,n3,n4][k]? =some nk/\(List.replicate k none++[some p0,some p1,some p2,some p3,some p4].drop k)[k]? =some (some pk)/\(List.replicate k none++[some n0,some n1,some n2,some n3,some n4].drop k)[k]? =some (some nk)/\(List.replicate k none++[some p0,some p1,some p2,some p3,some p4].drop k).set k none=List.replicate (k+1) none++[some p0,some p1,some p2,some p3,some p4].drop (k+1)/\(List.replicate k none++[some n0,some n1,some n2,some n3,some n4].drop k).set k none=List.replicate (k+1) none++[some n0,some n1,some n2,some n3,some n4].drop (k+1)/\[n0,n1,n2,n3,n4].take (k+1)=[n0,n1,n2,n3,n4].take k++[nk]:=by
    match k,hk5 with
    | 0,_=>exact⟨p0,n0,rfl,rfl,rfl,rfl,rfl,rfl,rfl⟩
    | 1,_=>exact⟨p1,n1,rfl,rfl,rfl,rfl,rfl,rfl,rfl⟩
    | 2,_=>exact⟨p2,n2,rfl,rfl,rfl,rfl,rfl,rfl,rfl⟩
    | 3,_=>exact⟨p3,n3,rfl,rfl,rfl,rfl,rfl,rfl,rfl⟩
    | 4,_=>exact⟨p4,n4,rfl,rfl,rfl,rfl,rfl,rfl,rfl⟩
   obtain⟨v,hv⟩:=H.out.p1.nodeAt hpk' hnk';rw[hp2,hn2]at hv;have HV:=hd_ hv;have HN3:=hd_ hn3;have IX:Hid ((Instr.index 102 (.agg #[.pointer (some ⟨p0,0,none⟩),.pointer (some ⟨p1,0,none⟩),.pointer (some ⟨p2,0,none⟩),.pointer (some ⟨p3,0,none⟩),.pointer (some ⟨p4,0,none⟩)]) (.int .i64 (k:Int))).run Tryz.prog wr=.ok (.pointer (some ⟨pk,0,none⟩)) wr):=by
    unfold Hid Instr.index
    match k,hk5,hpk with
    | 0,_,h=>cases h;simp[asIntOf,Tryz.underlying102,go_sem]
    | 1,_,h=>cases h;simp[asIntOf,Tryz.underlying102,go_sem]
    | 2,_,h=>cases h;simp[asIntOf,Tryz.underlying102,go_sem]
    | 3,_,h=>cases h;simp[asIntOf,Tryz.underlying102,go_sem]
    | 4,_,h=>cases h;simp[asIntOf,Tryz.underlying102,go_sem]
   clear hv hn3 hp2 hn2 hpk' hnk' hnk hpk;have ix:=IX.out;go_wp2;clear ix IX;obtain⟨xv,nv,cv,rfl⟩:∃x n c,v=.slice x n c:=by obtain⟨f,hf,_⟩:=HV.out.p1.first;obtain⟨_,_,e,_⟩:=slcR_value hf;exact⟨_,_,_,e⟩
   have HW:=hd_ HV.out.drew;clear HV H
   refine wp_region_plan 8 (.tk 0 5 (.alt 5 (.alt 6 (.take 7 (.alt 8 .done .nomore)) .nomore) .nomore)) (fun w'=>w'.cell? ⟨N1,0,none⟩=some (.slice xn k cn)/\w'.cell? ⟨pk,0,none⟩=some (.int .i64 nk.born)/\w'.cell? ⟨pk,1,none⟩=some (.slice xv nv cv)/\w'.cell? ⟨pk,2,none⟩=some (.int .i64 nk.beacon)/\w'.cell? ⟨pk,3,none⟩=some (.int .i64 nk.level)/\w'.cell? ⟨pk,4,none⟩=some (.int .i64 nk.up)) (by kernel_rfl) (by kernel_rfl) (fun _ _ _ _ _ h=>h) ⟨HW.out.p4.cell rfl,HW.out.cells5⟩ ?_
   generalize wr.drew=w3 at HW ⊢
   repeat ((first|(refine plan_take (by rfl) (by rfl) ?_;apply Exists.intro;refine⟨fun w' hw'=>?_,?_⟩;(· ((try dsimp only at hw');go_simp;(try with_reducible rfl))))|(refine plan_skip (by rfl) (by rfl) ?_));simp only[Act.put,List.getElem_toArray,List.getElem_cons_succ,pg3,pg4,pg5,pg6])
   have h1:=((HW.out.p1.node nk.born nk.beacon nk.level nk.up).p3).alloc #[.int .i64 nk.born,.slice xv nv cv,.int .i64 nk.beacon,.int .i64 nk.level,.int .i64 nk.up] 55;clear HW;refine plan_last (by rfl) (fun K hK=>?_);go_simp;refine hK _ _ (.inr ⟨h1.p5.cell rfl,h1.p3.cells5⟩) ?_;clear hK K
   try simp only[Act.put,List.getElem_toArray,List.getElem_cons_succ,pg3,pg4,pg5,pg6]
   refine plan_last (by rfl) (fun K hK=>step_app nodeS (nodeR_one (T:=TY)) h1 (by rfl) (by rfl) (by rfl) (by rfl) (by simp[maxLen];omega) (by simp;omega) (N:=k+1) (by simp;omega) (fun y cy w4 h2=>?_));refine hK _ _ (.inr ⟨h2.p3.cell rfl,h2.p1.cells5⟩) ?_;clear hK K
   try simp only[Act.put,List.getElem_toArray,List.getElem_cons_succ,pg3,pg4,pg5,pg6]
   repeat ((first|(refine plan_take (by rfl) (by rfl) ?_;apply Exists.intro;refine⟨fun w' hw'=>?_,?_⟩;(· ((try dsimp only at hw');go_simp;(try with_reducible rfl))))|(refine plan_skip (by rfl) (by rfl) ?_));simp only[Act.put,List.getElem_toArray,List.getElem_cons_succ,pg3,pg4,pg5,pg6])
   obtain⟨c0,c1,c2,c3⟩:=h2.p3.cells4;have cf:=h2.p3.free;have h3:=h2.p3.set (i:=0) (.slice y (k+1) cy);simp only[List.setIfInBounds_toArray,List.set_cons_zero,List.set_cons_succ]at h3;have F:=hd_ h3.p2.drop.p2.p2;clear h1 h2 h3;refine plan_last (by rfl) (fun K hK=>?_);go_simp;refine hK _ _ (.inl rfl) ?_;clear hK K
   try simp only[Act.put,List.getElem_toArray,List.getElem_cons_succ,pg3,pg4,pg5,pg6]
   refine plan_done ?_;clear c0 c1 c2 c3 cf;go_wp2;go_roundw
   case rel=>
    refine⟨k+1,y,cy,by go_num,hk5,?_⟩;rw[HN3.out];exact F.out
   case measure=>simp[intOf];omega
  ·obtain rfl:k=5:=by omega
   clear hk hk5;simp only[Int.cast_ofNat_Int];go_wp2
   go_loopw [32] (fun i wr=>∃(k:Nat) (xl:Option Addr) (cl:Nat),i=.int .i64 (k:Int)/\k<=25/\M B w0 wr (linksC (.slice xl k cl) (linkL lk k)::boxC N1 30 #[.slice xn 5 cn,.slice xl k cl,.slice xw nw cw,.slice xp np cp]::liveBox L [some p0,some p1,some p2,some p3,some p4] m (.slice xw nw cw) (.slice xp np cp)::boxC R 30 #[.slice none 0 0,.slice none 0 0,.slice none 0 0,.slice none 0 0]::mapC EndOk endV m g::nodesC (.slice xn 5 cn) [n0,n1,n2,n3,n4]::wordsC (.slice xw nw cw) ws::pastC (.slice xp np cp) pst::l)) (fun i _=>25 - (intOf i).toNat)
   case atStart=>exact⟨0,none,0,rfl,Nat.zero_le _,M.nil (flatR_frame encB) 4 1 (H.out.p1.drop.p4.p4.p4.p4)⟩
   case round=>
    clear H;obtain⟨k,xl,cl,rfl,hk,h⟩:=hrel;have H:=hd_ h;clear h
    by_cases hk5:k<25
    ·have KE:=hd_ (fun W=>endsAt_at W k hk5)
     have n0':(0:Int)<=(k:Int):=by omega
     have EO:=hd_ (show EndOk ((k:Int) / 5,(k:Int) % 5)from⟨⟨by simp;omega,by simp;omega⟩,⟨by simp;omega,by simp;omega⟩⟩);have HW:=hd_ H.out.drew;obtain⟨bk,hbk⟩:∃bk,bk=lk ((k:Int) / 5) ((k:Int) % 5):=⟨_,rfl⟩
     have LL:=hd_ (fun (W:World) (l':List Ch) (h:M B w0 W (mapC EndOk endV m g::l'))=>show (Instr.lookup 100 (.map (some m)) (.agg #[.int .i64 ((k:Int) / 5),.int .i64 ((k:Int) % 5)]) false).run Tryz.prog W=.ok (.bool bk) W by rw[hbk];exact look_link h HK.out _ _ EO.out);have HB:=hd_ (show bk=lk ((k / 5:Nat):Int) ((k % 5:Nat):Int)from hbk);clear hbk EO H;go_wp2
     refine wp_region_plan 12 (.tk 0 7 (.alt 7 (.take 8 (.alt 9 (.alt 10 (.take 11 (.alt 12 .done .nomore)) .nomore) .nomore)) .nomore)) (fun w'=>w'.cell? ⟨N1,1,none⟩=some (.slice xl k cl)/\w'.cell? ⟨L,5,none⟩=some (.map (some m))/\(Instr.lookup 100 (.map (some m)) (.agg #[.int .i64 ((k:Int) / 5),.int .i64 ((k:Int) % 5)]) false).run Tryz.prog w'=.ok (.bool bk) w') (by kernel_rfl) (by kernel_rfl) (fun _ _ _ _ _ h=>h) ⟨HW.out.p1.cell rfl,(HW.out.p2.restAt rfl).1,LL.out _ _ HW.out.p4⟩ ?_
     generalize wr.drew=w3 at HW ⊢
     repeat ((first|(refine plan_take (by rfl) (by rfl) ?_;apply Exists.intro;refine⟨fun w' hw'=>?_,?_⟩;(· ((try dsimp only at hw');go_simp;(try with_reducible rfl))))|(refine plan_skip (by rfl) (by rfl) ?_));simp only[Act.put,List.getElem_toArray,List.getElem_cons_succ,pg3,pg4,pg5,pg6])
     refine plan_last (by rfl) (fun K hK=>?_);go_simp;refine (KE.out _).mono ?_;rintro e w4 ⟨rfl,hb⟩;have h1:=HW.out.later hb;clear HW hb;refine hK _ _ (.inr ⟨h1.p1.cell rfl,(h1.p2.restAt rfl).1,LL.out _ _ h1.p4⟩) ?_;clear hK K
     try simp only[Act.put,List.getElem_toArray,List.getElem_cons_succ,pg3,pg4,pg5,pg6]
     repeat ((first|(refine plan_take (by rfl) (by rfl) ?_;apply Exists.intro;refine⟨fun w' hw'=>?_,?_⟩;(· ((try dsimp only at hw');go_simp;(try with_reducible rfl))))|(refine plan_skip (by rfl) (by rfl) ?_));simp only[Act.put,List.getElem_toArray,List.getElem_cons_succ,pg3,pg4,pg5,pg6])
     have h2:=((M.flat encB bk h1).p1).alloc #[.bool bk] 4;clear h1;refine plan_last (by rfl) (fun K hK=>?_);go_simp;refine hK _ _ (.inr ⟨h2.p3.cell rfl,(h2.p4.restAt rfl).1,LL.out _ _ h2.p6⟩) ?_;clear hK K
     try simp only[Act.put,List.getElem_toArray,List.getElem_cons_succ,pg3,pg4,pg5,pg6]
     refine plan_last (by rfl) (fun K hK=>step_app linkS flatB_one h2 (by rfl) (by rfl) (by rfl) (by rfl) (by simp[maxLen,linkL];omega) (by simp[linkL];omega) (N:=k+1) (by simp[linkL]) (fun y cy w5 h3=>?_));refine hK _ _ (.inr ⟨h3.p1.cell rfl,(h3.p2.restAt rfl).1,LL.out _ _ h3.p4⟩) ?_;clear hK K
     try simp only[Act.put,List.getElem_toArray,List.getElem_cons_succ,pg3,pg4,pg5,pg6]
     repeat ((first|(refine plan_take (by rfl) (by rfl) ?_;apply Exists.intro;refine⟨fun w' hw'=>?_,?_⟩;(· ((try dsimp only at hw');go_simp;(try with_reducible rfl))))|(refine plan_skip (by rfl) (by rfl) ?_));simp only[Act.put,List.getElem_toArray,List.getElem_cons_succ,pg3,pg4,pg5,pg6])
     obtain⟨c0,c1,c2,c3⟩:=h3.p1.cells4;have cf:=h3.p1.free;have h4:=h3.p1.set (i:=1) (.slice y (k+1) cy);simp only[List.setIfInBounds_toArray,List.set_cons_zero,List.set_cons_succ]at h4;have F:=hd_ h4.p1;clear h2 h3 h4;refine plan_last (by rfl) (fun K hK=>?_);go_simp;refine hK _ _ (.inl rfl) ?_;clear hK K
     try simp only[Act.put,List.getElem_toArray,List.getElem_cons_succ,pg3,pg4,pg5,pg6]
     refine plan_done ?_;clear c0 c1 c2 c3 cf;go_wp2;go_roundw
     case rel=>
      refine⟨k+1,y,cy,by go_num,hk5,?_⟩;unfold linkL;rw[List.range_succ,List.map_append];have e:=F.out;rw[HB.out]at e;exact e
     case measure=>simp[intOf];omega
    ·obtain rfl:k=25:=by omega
     obtain⟨c0,c1,c2,c3⟩:=H.out.p1.cells4;obtain⟨d0,d1,d2,d3⟩:=H.out.p3.cells4;have df:=H.out.p3.free;have F:=hd_ (H.out.p3.set4 (.slice xn 5 cn) (.slice xl 25 cl) (.slice xw nw cw) (.slice xp np cp));clear H;go_wp2;obtain⟨e0,e1,e2,e3⟩:=F.out.cells4
     (try simp only[Exit.inBlock,Exit.then])
     refine bodyPost_ret (v:=.agg #[.slice xn 5 cn,.slice xl 25 cl,.slice xw nw cw,.slice xp np cp]) (by simp[results,Tryz.results72,go_sem,e0,e1,e2,e3]) rfl ?_;exact⟨_,_,rfl,F.out.drop.p1.drop.p1.drop.p1.drop.p1⟩
def lenV:Value->Nat
 | .slice _ n _=>n
 |_=>0
theorem ints_drop2 {w:World} {b o n c:Nat} {ka kb:Int} {ks:List Int} (h:Ints w (.slice (some ⟨b,o,none⟩) n c) (ka::kb::ks)):Ints w (.slice (if c=2 then some ⟨b,o,none⟩else some ⟨b,o+2,none⟩) (n - 2) (c - 2)) ks:=by
 rcases h with ⟨e,h⟩|⟨b',o',cap,e,h1,h2,hb,hc⟩
 ·cases h
 ·simp only[List.length_cons]at e h1 hc
  injection e with e1 e2 e3
  injection e1 with e1
  injection e1 with e4 e5
  subst e4 e5 e2 e3
  by_cases h:c=2
  ·rw[if_pos h]
   exact .inr ⟨b,o,c - 2,by rw[show ks.length+1+1 - 2=ks.length by omega],by omega,by omega,hb,fun i hi=>by omega⟩
  ·rw[if_neg h]
   refine .inr ⟨b,o+2,c - 2,by rw[show ks.length+1+1 - 2=ks.length by omega],by omega,by omega,hb,fun i hi=>?_⟩;have:=hc (i+2) (by omega);rw[show o+2+i=o+(i+2) by omega];simpa only[List.getD_cons_succ]using this
theorem two_in {a b:Int} (h:two a b=true):(0<=a/\a<=4)/\(0<=b/\b<=4):=by
 unfold two in6 at h;simp at h;omega
def linkF (lk:Int->Int->Bool) (a b:Int):Int->Int->Bool:=fun p q=>if (p,q)=(b,a)then true else if (p,q)=(a,b)then true else lk p q
theorem linkL_set (lk:Int->Int->Bool) {a b:Int} (h:two a b=true):linkL (linkF lk a b) 25=((linkL lk 25).set (a * 5+b).toNat true).set (b * 5+a).toNat true:=by
 obtain⟨⟨a0,a1⟩,b0,b1⟩:=two_in h;clear h;obtain rfl|rfl|rfl|rfl|rfl:a=0\/a=1\/a=2\/a=3\/a=4:=by omega
 all_goals obtain rfl|rfl|rfl|rfl|rfl:b=0\/b=1\/b=2\/b=3\/b=4:=by omega
 all_goals rfl
theorem link_are {g:Int × Int->Option Value} {lk:Int->Int->Bool} (h:LinksAre g lk) (a b:Int):LinksAre (fun y=>if y=(b,a)then some (.bool true)else if y=(a,b)then some (.bool true)else g y) (linkF lk a b):=by
 intro k;show (if k=(b,a)then some (Value.bool true)else if k=(a,b)then some (Value.bool true)else g k).getD (.bool false)=.bool (if k=(b,a)then true else if k=(a,b)then true else lk k.1 k.2)
 by_cases h1:k=(b,a)
 ·rw[if_pos h1,if_pos h1];rfl
 ·by_cases h2:k=(a,b)
  ·rw[if_neg h1,if_neg h1,if_pos h2,if_pos h2];rfl
  ·rw[if_neg h1,if_neg h1,if_neg h2,if_neg h2];exact h k
theorem pairs_two (a b:Int) (l:List Int):pairsB (a::b::l)=(two a b&&pairsB l):=by
 conv=>lhs;unfold pairsB
 unfold two;cases in6 a 0 4<;>cases in6 b 0 4<;>simp
theorem _root_.Go.Proofs.YtcblbdpdbggkbaaGreat.M.void {B:Nat} {w0 w:World} {l:List Ch} (h:M B w0 w l):M B w0 w (emp::l):=h.add (Below.refl _ _) (f:=[]) rfl List.nodup_nil (fun b hb=>by cases hb)
theorem _root_.Go.Proofs.YtcblbdpdbggkbaaGreat.M.noOpts {B:Nat} {w0 w:World} {l:List Ch} (h:M B w0 w l):M B w0 w (optsC (List.replicate 5 none) (List.replicate 5 none)::l):=
 M.sep (M.void (M.sep (M.void (M.sep (M.void (M.sep (M.void (M.sep (M.void (M.void h))))))))))
def upto {α:Type} (xs:List α):List (Option α):=xs.map some++List.replicate (5 - xs.length) none
theorem upto_len {α:Type} {xs:List α} {k:Nat} (h:xs.length=k) (hk:k<=5):(upto xs).length=5:=by unfold upto;simp[h];omega
theorem upto_set {α:Type} {xs:List α} {k:Nat} (h:xs.length=k) (hk:k<5) (p:α):(upto xs).set k (some p)=upto (xs++[p]):=by
 unfold upto;obtain⟨d,hd⟩:∃d,5 - xs.length=d+1:=⟨5 - xs.length - 1,by omega⟩
 rw[hd,List.set_append_right _ _ (by simp[h]),List.length_map,h,Nat.sub_self,List.replicate_succ,List.set_cons_zero,List.map_append,List.append_assoc,List.length_append,List.length_singleton,show 5 - (xs.length+1)=d by omega]
 rfl
theorem upto_all {α:Type} {xs:List α} (h:xs.length=5):upto xs=xs.map some:=by unfold upto;rw[h];simp
def newNds (k:Nat):List Nd:=(List.range k).map fun i=>newNd i 1
theorem newNds_len (k:Nat):(newNds k).length=k:=by unfold newNds;simp
theorem newNds_snoc (k:Nat):newNds (k+1)=newNds k++[newNd k 1]:=by unfold newNds;rw[List.range_succ,List.map_append];rfl
theorem past_snoc (k:Nat):(List.replicate k ([[],[]]:List (List Int))++[[[]]]).set k ([[]]++[[]])=List.replicate (k+1) [[],[]]:=by
 rw[List.set_append_right _ _ (by simp),List.length_replicate,Nat.sub_self,List.set_cons_zero,List.replicate_succ']
 rfl
theorem imNetNew_at (w:World) (x:Option Addr) (n c:Nat) (ks:List Int) (h:Ints w (.slice x n c) ks):Calls Tryz.prog 19 #[.slice x n c] w (AnsN w (newN ks)):=by
 have hnl:n=ks.length:=by
  rcases h with ⟨e,rfl⟩|⟨b,o,cap,e,h1,h2,_⟩
  ·simp at e;simp[e]
  ·simp at e;omega
 have HN:=hd_ hnl;have hm:n<=maxLen:=by
  rcases h with ⟨e,rfl⟩|⟨b,o,cap,e,h1,h2,_⟩
  ·rw[hnl];simp
  ·simp at e;omega
 unfold maxLen at hm;have HX:=hd_ h;clear h hnl;have h0:=(M.start w).alloc #[.slice none 0 0,.slice none 0 0,.slice none 0 0,.slice none 0 0] 30;have H0:=hd_ h0;clear h0
 by_cases hs:n<=40
 ·by_cases hp:n % 2=0
  ·have n0:(0:Int)<=(n:Int):=by omega
   have n1:(n:Int)<=40:=by omega
   have e2:(n:Int) % 2=0:=by omega
   have hmm:=@run_makeMap Tryz.prog;go_enter Tryz.func19,Tryz.ntmps19;go_wp2;clear hmm e2 n1;have h1:=((H0.out.map EndOk endV).alloc #[.pointer none,.pointer none,.pointer none,.pointer none,.pointer none,.map (some (w.heap.size+1)),.slice none 0 0,.slice none 0 0] 104)
   simp only[World.size_alloc]at h1
   have h2:M w.heap.size w _ (pastC (.slice none 0 0) (List.replicate 0 [[],[]])::liveBox (w.heap.size+1+1) (upto ([]:List Nat)) (w.heap.size+1) (.slice none 0 0) (.slice none 0 0)::optsC (upto ([]:List Nat)) (upto (newNds 0))::mapC EndOk endV (w.heap.size+1) (fun _=>none)::wordsC (.slice none 0 0) []::[boxC w.heap.size 30 #[.slice none 0 0,.slice none 0 0,.slice none 0 0,.slice none 0 0]]):=M.nil rowsR_frame 34 1 (M.p1 (M.noOpts (M.p2 (M.p2 (M.nil (wordR_frame (T:=TY)) 123 6 h1)))))
   have H1:=hd_ h2;clear h1 h2 H0;obtain⟨w1,hw1⟩:∃w1,w1=(((w.alloc (.cells #[.slice none 0 0,.slice none 0 0,.slice none 0 0,.slice none 0 0] 30)).alloc (.map #[] 0)).alloc (.cells #[.pointer none,.pointer none,.pointer none,.pointer none,.pointer none,.map (some (w.heap.size+1)),.slice none 0 0,.slice none 0 0] 104)):=⟨_,rfl⟩
   rw[<-hw1]at H1 ⊢;clear hw1;obtain⟨m,hm1⟩:∃m,m=w.heap.size+1:=⟨_,rfl⟩
   rw[<-hm1]at H1 ⊢;obtain⟨L,hL⟩:∃L,L=m+1:=⟨_,rfl⟩
   rw[<-hL]at H1 ⊢;obtain⟨R,hR⟩:∃R,R=w.heap.size:=⟨_,rfl⟩
   have HR:=hd_ hR;rw[<-hR]at H1;rw[show (Value.pointer (some ⟨w.heap.size,0,none⟩))=.pointer (some ⟨R,0,none⟩) by rw[hR]];clear hm1 hL hR
   go_loopw [19] (fun i wr=>∃(k:Nat) (xp:Option Addr) (cp:Nat) (qs:List Nat),i=.int .i64 (k:Int)/\k<=5/\qs.length=k/\M R w wr (pastC (.slice xp k cp) (List.replicate k [[],[]])::liveBox L (upto qs) m (.slice none 0 0) (.slice xp k cp)::optsC (upto qs) (upto (newNds k))::mapC EndOk endV m (fun _=>none)::wordsC (.slice none 0 0) []::[boxC R 30 #[.slice none 0 0,.slice none 0 0,.slice none 0 0,.slice none 0 0]])) (fun i _=>5 - (intOf i).toNat)
   case atStart=>exact⟨0,none,0,[],rfl,Nat.zero_le _,rfl,H1.out⟩
   case round=>
    clear H1;obtain⟨k,xp,cp,qs,rfl,hk,hq,h⟩:=hrel;have HQ:=hd_ hq;have H:=hd_ h;clear h hq
    by_cases hk5:k<5
    ·have P5:=hd_ (upto_len HQ.out hk)
     have N5:=hd_ (upto_len (newNds_len k) hk);have c7:=(H.out.p1.restAt P5.out).2.2;have h1:=((H.out.nil (flatR_frame encI) 3 1).soft.alloc #[.slice none 0 0] 23).one intsR_frame rfl;have h2:=((h1.alloc #[.slice (some ⟨wr.heap.size,0,none⟩) 1 1] 34).p2.p1)
     simp only[World.size_alloc]at h2;have H2:=hd_ h2;clear h1 h2 H
     go_wp2_with (at_builtin;refine wpList_app rowsS (slcR_one _ _ _) H2.out rfl rfl rfl rfl (by simp[maxLen];omega) (by simp;omega) (N:=k+1) (by simp) (fun y cy w3 h3=>?_);have c8:=(h3.p1.restAt P5.out).2.2;have f8:=h3.p1.free 7;have H4:=hd_ (h3.p1.setPast P5.out (.slice y (k+1) cy));clear h3)
     refine (bear_at H4.out.p1 P5.out N5.out hk5 (rs:=[[]]) (by simp) (by simp)).mono ?_;rintro e w5 ⟨rfl,p,h5⟩;rw[past_snoc,upto_set HQ.out hk5,List.length_singleton,upto_set (newNds_len k) hk5, <-newNds_snoc]at h5;have H5:=hd_ h5;clear h5 H4 H2 c7 c8 f8;go_wp2;go_roundw
     case rel=>exact⟨k+1,y,cy,qs++[p],by go_num,hk5,by rw[List.length_append,HQ.out];rfl,H5.out⟩
     case measure=>simp[intOf];omega
    ·obtain rfl:k=5:=by omega
     obtain⟨lk,hlk⟩:∃lk:Int->Int->Bool,lk=fun _ _=>false:=⟨_,rfl⟩
     have h1:=H.out;rw[upto_all HQ.out,upto_all (newNds_len 5)]at h1;have H1:=hd_ h1;clear h1 H hk hk5;simp only[Int.cast_ofNat_Int];go_wp2;have LK0:=hd_ (show LinksAre (fun _=>none) (fun _ _=>false)from fun _=>rfl);clear hlk n0;have SOME:=hd_ (fun (q:true=pairsB ks) (ls:List Bool) (e:ls=setLinks (List.replicate 25 false) ks)=>show newN ks=some ⟨newNds 5,ls,[],List.replicate 5 [[],[]]⟩ by
            unfold newN
            rw[if_pos ⟨⟨by rw[<-HN.out];exact hp,by rw[<-HN.out];exact hs⟩,q.symm⟩,e]
            rfl)
     have AS:=hd_ (fun (W:World) (v1 v2 v3 v4:Value) (ns:List Nd) (ls:List Bool) (ps:List (List (List Int))) (h:M R w W [nodesC v1 ns,linksC v2 ls,wordsC v3 [],pastC v4 ps])=>ans_some (w:=w) (ws:=[]) (by rw[HR.out]at h;exact h));have AN:=hd_ (fun (W:World) (l':List Ch) (h:M R w W l')=>ans_none (w:=w) (by rw[HR.out]at h;exact h))
     go_loopw [0] (fun i wz=>∃(y:Option Addr) (j cc:Nat) (zs:List Int) (g:Int × Int->Option Value) (lk:Int->Int->Bool),i=.slice y j cc/\j=zs.length/\j % 2=0/\j<=40/\Ints w (.slice y j cc) zs/\LinksAre g lk/\pairsB zs=pairsB ks/\setLinks (linkL lk 25) zs=setLinks (List.replicate 25 false) ks/\
            M R w wz (pastC (.slice xp 5 cp) (List.replicate 5 [[],[]])::liveBox L (qs.map some) m (.slice none 0 0) (.slice xp 5 cp)::optsC (qs.map some) ((newNds 5).map some)::mapC EndOk endV m g::wordsC (.slice none 0 0) []::[boxC R 30 #[.slice none 0 0,.slice none 0 0,.slice none 0 0,.slice none 0 0]])) (fun i _=>lenV i)
     case atStart=>exact⟨x,n,c,ks,fun _=>none,fun _ _=>false,rfl,HN.out,hp,hs,HX.out,LK0.out,rfl,rfl,H1.out⟩
     case round=>
      clear H1 LK0 hs hp HX HN hm lk;obtain⟨y,j,cc,zs,g,lk,rfl,hj,hj2,hj4,hz,hlk,hpz,hsz,h⟩:=hrel;have H:=hd_ h;have HZ:=hd_ hz;have LK:=hd_ hlk;have PZ:=hd_ hpz;have SZ:=hd_ hsz;clear h hz hlk hpz hsz;have Q5:Hid ((qs.map some).length=5):=by rw[List.length_map];exact HQ
      by_cases hj0:j=0
      ·subst hj0
       obtain rfl:zs=[]:=List.eq_nil_of_length_eq_zero hj.symm;clear hj hj2 hj4
       go_wp2_with fail
       refine (imNet_at H.out.p4.p3.p4.p4 HQ.out (newNds_len 5) LK.out).mono ?_;rintro e w4 ⟨v1,v2,rfl,h4⟩;obtain⟨x1,n1,c1,rfl⟩:∃x n c,v1=.slice x n c:=by obtain⟨f,hf,_⟩:=h4.first;obtain⟨_,_,e,_⟩:=slcR_value hf;exact⟨_,_,_,e⟩
       obtain⟨x2,n2,c2,rfl⟩:∃x n c,v2=.slice x n c:=by obtain⟨f,hf,_⟩:=h4.p1.first;obtain⟨_,_,e,_⟩:=slcR_value hf;exact⟨_,_,_,e⟩
       obtain⟨d0,d1,d2,d3⟩:=h4.p4.cells4;have df:=h4.p4.free;have F:=hd_ (h4.p4.set4 (.slice x1 n1 c1) (.slice x2 n2 c2) (.slice none 0 0) (.slice xp 5 cp));clear h4 H;go_wp2;obtain⟨e0,e1,e2',e3⟩:=F.out.cells4
       (try simp only[Exit.inBlock,Exit.then])
       refine bodyPost_ret (v:=.tuple #[.agg #[.slice x1 n1 c1,.slice x2 n2 c2,.slice none 0 0,.slice xp 5 cp],.bool true]) (by simp[results,Tryz.results19,go_sem,e0,e1,e2',e3]) rfl ?_;rw[SOME.out PZ.out _ SZ.out];exact AS.out _ _ _ _ _ _ _ _ F.out.drop
      ·obtain⟨ka,kb,zs,rfl⟩:∃ka kb zs',zs=ka::kb::zs':=by
        match zs,hj with
        | [],h=>exact absurd h hj0
        | [a],h=>simp at h;omega
        |a::b::l,_=>exact⟨a,b,l,rfl⟩
       obtain⟨b,o,cap,e,h1,h2,hb,hc⟩:=HZ.out.resolve_left (fun h=>by cases h.2);injection e with e1 e2 e3
       subst e1 e3;simp only[List.length_cons]at h1 hj;have j0:(0:Int)<(j:Int):=by omega
       have j1:(1:Int)<(j:Int):=by omega
       have JJ:=hd_ (And.intro hj (And.intro hj2 hj4));have C2:=hd_ (show 2<=cc/\j<=cc/\cc<=maxLen from⟨by omega,by omega,h2⟩);have CA:=hd_ (fun (W:World) (l':List Ch) (h:M R w W l')=>show W.cell? ⟨b,o,none⟩=some (.int .i64 ka)from cell_later (HR.out ▸ h.below) (hc 0 (by simp)))
       have CB:=hd_ (fun (W:World) (l':List Ch) (h:M R w W l')=>show W.cell? ⟨b,o+1,none⟩=some (.int .i64 kb)from cell_later (HR.out ▸ h.below) (hc 1 (by simp)));clear e2 hj hj2 hj4 hj0 h1 h2 hb hc;go_wp2
       refine wp_region_plan 99 (.tk 0 6 (.alt 6 (.take 7 .done) .nomore)) (fun w'=>w'.cell? ⟨b,o,none⟩=some (.int .i64 ka)/\w'.cell? ⟨b,o+1,none⟩=some (.int .i64 kb)) (by kernel_rfl) (by kernel_rfl) (fun _ _ _ _ _ h=>h) ⟨CA.out _ _ H.out.drew,CB.out _ _ H.out.drew⟩ ?_;have HD:=hd_ H.out.drew;clear H;generalize wr.drew=w3 at HD ⊢
       repeat ((first|(refine plan_take (by rfl) (by rfl) ?_;apply Exists.intro;refine⟨fun w' hw'=>?_,?_⟩;(· ((try dsimp only at hw');go_simp;(try with_reducible rfl))))|(refine plan_skip (by rfl) (by rfl) ?_));simp only[Act.put,List.getElem_toArray,List.getElem_cons_succ,pg3,pg4,pg5,pg6])
       refine plan_last (by rfl) (fun K hK=>?_);go_simp;refine (areTwo_at _ _ _).mono ?_;rintro e w' ⟨rfl,rfl⟩;refine hK _ _ (.inr ⟨CA.out _ _ HD.out,CB.out _ _ HD.out⟩) ?_;clear hK K
       try simp only[Act.put,List.getElem_toArray,List.getElem_cons_succ,pg3,pg4,pg5,pg6]
       repeat ((first|(refine plan_take (by rfl) (by rfl) ?_;apply Exists.intro;refine⟨fun w' hw'=>?_,?_⟩;(· ((try dsimp only at hw');go_simp;(try with_reducible rfl))))|(refine plan_skip (by rfl) (by rfl) ?_));simp only[Act.put,List.getElem_toArray,List.getElem_cons_succ,pg3,pg4,pg5,pg6])
       refine plan_done ?_;cases ga:two ka kb with
       |false=>
        have E:=hd_ (show newN ks=none by
                  unfold newN
                  rw[if_neg (fun z=>by have z2:=z.2;rw[<-PZ.out,pairs_two,ga]at z2;cases z2)])
        obtain⟨d0,d1,d2,d3⟩:=HD.out.p5.cells4;have df:=HD.out.p5.free;have F:=hd_ (HD.out.p5.set4 (.slice none 0 0) (.slice none 0 0) (.slice none 0 0) (.slice none 0 0));clear ga;go_wp2;obtain⟨e0,e1,e2',e3⟩:=F.out.cells4
        (try simp only[Exit.inBlock,Exit.then])
        refine bodyPost_ret (v:=.tuple #[.agg #[.slice none 0 0,.slice none 0 0,.slice none 0 0,.slice none 0 0],.bool false]) (by simp[results,Tryz.results19,go_sem,e0,e1,e2',e3]) rfl ?_;rw[E.out];exact AN.out _ _ F.out
       |true=>
        have GA:=hd_ ga;obtain⟨⟨a0,a1⟩,b0,b1⟩:=two_in ga;have EO:=hd_ (show EndOk (ka,kb)from⟨⟨by simp;omega,by simp;omega⟩,⟨by simp;omega,by simp;omega⟩⟩);clear ga a0 a1 b0 b1;go_wp2
        refine wp_region_plan 99 (.tk 0 7 (.alt 7 .done .nomore)) (fun w'=>w'.cell? ⟨b,o,none⟩=some (.int .i64 ka)/\w'.cell? ⟨b,o+1,none⟩=some (.int .i64 kb)) (by kernel_rfl) (by kernel_rfl) (fun _ _ _ _ _ h=>h) ⟨CA.out _ _ HD.out.drew,CB.out _ _ HD.out.drew⟩ ?_
        repeat ((first|(refine plan_take (by rfl) (by rfl) ?_;apply Exists.intro;refine⟨fun w' hw'=>?_,?_⟩;(· ((try dsimp only at hw');go_simp;(try with_reducible rfl))))|(refine plan_skip (by rfl) (by rfl) ?_));simp only[Act.put,List.getElem_toArray,List.getElem_cons_succ,pg3,pg4,pg5,pg6])
        refine plan_last (by rfl) (fun K hK=>?_);go_simp;refine (setLink_at (HD.out.drew.p1.p3.p1) Q5.out ka kb true EO.out).mono ?_;rintro e w4 ⟨rfl,h4⟩;refine hK _ _ (.inr ⟨CA.out _ _ h4,CB.out _ _ h4⟩) ?_;clear hK K
        try simp only[Act.put,List.getElem_toArray,List.getElem_cons_succ,pg3,pg4,pg5,pg6]
        refine plan_done ?_;have F:=hd_ h4;have LK':=hd_ (link_are LK.out ka kb);have PZ':=hd_ (show pairsB zs=pairsB ks by rw[<-PZ.out,pairs_two,GA.out];rfl);have SZ':=hd_ (show setLinks (linkL (linkF lk ka kb) 25) zs=setLinks (List.replicate 25 false) ks by rw[linkL_set lk GA.out, <-SZ.out];rfl);have HZ':=hd_ (ints_drop2 HZ.out);obtain⟨c2,cj,cm⟩:=C2.out;clear h4 HD
        by_cases hc2:cc=2
        ·subst hc2
         obtain rfl:j=2:=by have:=JJ.out;omega
         have z:=HZ'.out;rw[if_pos rfl]at z;have HZ2:=hd_ z;clear z HZ';go_wp2;go_roundw
         case rel=>exact⟨_,_,_,zs,_,_,rfl,by have:=JJ.out;omega,by have:=JJ.out;omega,by have:=JJ.out;omega,HZ2.out,LK'.out,PZ'.out,SZ'.out,F.out.p1.p3.p2.p3⟩
         case measure=>show 0<2;omega
        ·have z:=HZ'.out
         rw[if_neg hc2]at z;have HZ2:=hd_ z;clear z HZ';go_wp2;go_roundw
         case rel=>exact⟨_,_,_,zs,_,_,rfl,by have:=JJ.out;omega,by have:=JJ.out;omega,by have:=JJ.out;omega,HZ2.out,LK'.out,PZ'.out,SZ'.out,F.out.p1.p3.p2.p3⟩
         case measure=>show j - 2<j;have:=JJ.out;omega
  ·have e2:(n:Int) % 2=1:=by omega
   have n0:(0:Int)<=(n:Int):=by omega
   have n1:(n:Int)<=40:=by omega
   have E:=hd_ (show newN ks=none by unfold newN;rw[if_neg (fun z=>hp (by rw[HN.out];exact z.1.1))]);obtain⟨d0,d1,d2,d3⟩:=H0.out.cells4;have df:=H0.out.free;go_enter Tryz.func19,Tryz.ntmps19;go_wp2
   (try simp only[Exit.inBlock,Exit.then])
   refine bodyPost_ret (v:=.tuple #[.agg #[.slice none 0 0,.slice none 0 0,.slice none 0 0,.slice none 0 0],.bool false]) (by simp[results,Tryz.results19,go_sem,d0,d1,d2,d3]) rfl ?_;rw[E.out];exact ans_none H0.out
 ·have n1:((n:Int)<=40)=False:=by simp;omega
  have E:=hd_ (show newN ks=none by unfold newN;rw[if_neg (fun z=>hs (by rw[HN.out];exact z.1.2))]);obtain⟨d0,d1,d2,d3⟩:=H0.out.cells4;have df:=H0.out.free;go_enter Tryz.func19,Tryz.ntmps19;go_wp2
  (try simp only[Exit.inBlock,Exit.then])
  refine bodyPost_ret (v:=.tuple #[.agg #[.slice none 0 0,.slice none 0 0,.slice none 0 0,.slice none 0 0],.bool false]) (by simp[results,Tryz.results19,go_sem,d0,d1,d2,d3]) rfl ?_;rw[E.out];exact ans_none H0.out
end N
end Go.Proofs.YtcblbdpdbggkbaaGreat
set_option linter.unusedVariables false
set_option linter.unusedSectionVars false
set_option linter.unusedSimpArgs false
namespace Go.Proofs.YtcblbdpdbggkbaaGreat.N
open Go.RowKit Go.Sort
theorem in6_iff {x a b:Int}:in6 x a b=true↔a<=x/\x<=b:=decide_eq_true_iff
def sameS (a b:Sm):Bool:=decide (a.rs=b.rs)&&(decide (a.zs=b.zs)&&(decide (a.ps=b.ps)&&(decide (a.lo=b.lo)&&(decide (a.al=b.al)&&(decide (a.ks=b.ks)&&decide (a.ka=b.ka))))))
theorem sameS_iff {a b:Sm}:sameS a b=true↔a=b:=by
 unfold sameS;simp only[Bool.and_eq_true,decide_eq_true_eq]
 constructor
 ·rintro⟨h1,h2,h3,h4,h5,h6,h7⟩
  cases a;cases b;simp only at h1 h2 h3 h4 h5 h6 h7;rw[h1,h2,h3,h4,h5,h6,h7]
 ·rintro rfl
  exact⟨rfl,rfl,rfl,rfl,rfl,rfl,rfl⟩
def entryB (n:Nt) (e:En):Bool:=in6 e.node 0 4&&(in6 e.born 1 (nodeAt n e.node).born&&(in6 e.num 0 (pastAt n e.node e.born).length&&(okS (upS ((pastAt n e.node e.born).take e.num.toNat))&&sameS (upS ((pastAt n e.node e.born).take e.num.toNat)) e.s)))
theorem entryB_iff {n:Nt} {e:En}:entryB n e=true↔TrueE n e:=by
 unfold entryB;simp only[Bool.and_eq_true,in6_iff,sameS_iff];exact⟨fun⟨a,b,c,d,f⟩=>⟨a,b,c,d,f.symm⟩,fun⟨a,b,c,d,f⟩=>⟨a,b,c,d,f.symm⟩⟩
def ascB:List En->Bool
 |x::y::l=>decide (x.node<y.node)&&ascB (y::l)
 |_=>true
theorem ascB_iff:∀{es:List En},ascB es=true↔es.Pairwise Before
 | []=>⟨fun _=>List.Pairwise.nil,fun _=>rfl⟩
 | [x]=>⟨fun _=>List.pairwise_singleton _ _,fun _=>rfl⟩
 |x::y::l=>by
  unfold ascB;rw[Bool.and_eq_true,decide_eq_true_eq,ascB_iff (es:=y::l),List.pairwise_cons (a:=x)]
  constructor
  ·rintro⟨h,k⟩
   refine⟨fun z hz=>?_,k⟩;rcases List.mem_cons.1 hz with rfl|hz
   ·exact h
   ·have:=(List.pairwise_cons.1 k).1 z hz
    unfold Before at this ⊢;omega
  ·rintro⟨h,k⟩
   exact⟨h y (List.mem_cons_self ..),k⟩
def knownB (n:Nt) (es:List En):Bool:=es.all (entryB n)&&ascB es
theorem knownB_iff {n:Nt} {es:List En}:knownB n es=true↔KnownOk n es:=by
 unfold knownB;rw[Bool.and_eq_true,List.all_eq_true,ascB_iff];exact⟨fun⟨a,b⟩=>⟨fun e he=>entryB_iff.1 (a e he),b⟩,fun⟨a,b⟩=>⟨fun e he=>entryB_iff.2 (a e he),b⟩⟩
def rowB (l:List Int):Bool:=l.all (fun t=>in6 t 0 63)&&decide (l.length<=100)
def pastB (n:Nt) (i:Int):Bool:=decide (((rowsAt n i).length:Int)=(nodeAt n i).born+1)&&(decide ((pastAt n i 0).length=0)&&(rowsAt n i).all rowB)
theorem pastB_iff {n:Nt} {i:Int}:pastB n i=true↔PastOk n i:=by
 unfold pastB rowB;simp only[Bool.and_eq_true,decide_eq_true_eq,List.all_eq_true,in6_iff];exact⟨fun⟨a,b,c⟩=>⟨a,List.eq_nil_of_length_eq_zero b,fun l hl=>(c l hl).2,fun l hl=>(c l hl).1⟩,fun⟨a,b,c,d⟩=>⟨a,by rw[b];rfl,fun l hl=>⟨d l hl,c l hl⟩⟩⟩
def ownB (n:Nt) (i:Int):Bool:=match findE (nodeAt n i).known i with
 |some e=>decide (e.born=(nodeAt n i).born)&&decide (e.num=(pastAt n i (nodeAt n i).born).length)
 |none=>false
theorem ownB_iff {n:Nt} {i:Int}:ownB n i=true↔OwnOk n i:=by
 unfold ownB OwnOk;cases h:findE (nodeAt n i).known i with
 |none=>simp
 |some e=>simp
def wayB (n:Nt) (i:Int):Bool:=
 if i=0 then decide ((nodeAt n i).level=0)&&(decide ((nodeAt n i).up= -1)&&decide (0<=(nodeAt n i).beacon))
 else in6 (nodeAt n i).beacon 0 (nodeAt n 0).beacon&&(in6 (nodeAt n i).level 1 5&&(decide ((nodeAt n i).up= -1↔(nodeAt n i).level=5)&&(in6 (nodeAt n i).up (-1) 4&&decide ((nodeAt n i).up≠i))))
theorem wayB_iff {n:Nt} {i:Int}:wayB n i=true↔WayOk n i:=by
 unfold wayB
 by_cases h:i=0
 ·subst h
  rw[if_pos rfl];simp only[Bool.and_eq_true,decide_eq_true_eq];exact⟨fun⟨a,b,c⟩=>⟨⟨c,Int.le_refl _⟩,fun _=>⟨a,b⟩,fun q=>absurd rfl q,fun q=>absurd rfl q,fun q=>absurd rfl q⟩,fun W=>⟨(W.root rfl).1,(W.root rfl).2,W.beacon.1⟩⟩
 ·rw[if_neg h]
  simp only[Bool.and_eq_true,decide_eq_true_eq,in6_iff];exact⟨fun⟨a,b,c,d,e⟩=>⟨a,fun q=>absurd q h,fun _=>b,fun _=>c,fun _=>⟨d,e⟩⟩,fun W=>⟨W.beacon,W.level h,W.none h,(W.up h).1,(W.up h).2⟩⟩
def nodeB (n:Nt) (i:Int):Bool:=ownB n i&&(knownB n (nodeAt n i).known&&wayB n i)
def endsB (w:Wd):Bool:=in6 w.src 0 4&&(in6 w.dst 0 4&&decide (w.src≠w.dst))
def wordB (n:Nt) (w:Wd):Bool:=
 if w.kind=1 then endsB w&&(in6 w.beacon 0 (nodeAt n 0).beacon&&(in6 w.level 0 4&&decide (w.known.length=0)))
 else if w.kind=2 then endsB w&&(decide (w.beacon=0)&&(decide (w.level=0)&&knownB n w.known))
 else false
theorem wordB_iff {n:Nt} {w:Wd}:wordB n w=true↔WordOk n w:=by
 unfold wordB endsB
 by_cases h:w.kind=1
 ·rw[if_pos h]
  simp only[Bool.and_eq_true,decide_eq_true_eq,in6_iff];refine⟨fun⟨⟨a,b,c⟩,d,e,f⟩=>⟨a,b,c,.inl ⟨h,d,e,List.eq_nil_of_length_eq_zero f⟩⟩,fun W=>⟨⟨W.src,W.dst,W.other⟩,?_⟩⟩;rcases W.kind with ⟨_,d,e,f⟩|⟨k,_⟩
  ·exact⟨d,e,by rw[f];rfl⟩
  ·omega
 ·rw[if_neg h]
  by_cases k:w.kind=2
  ·rw[if_pos k]
   simp only[Bool.and_eq_true,decide_eq_true_eq,in6_iff,knownB_iff];refine⟨fun⟨⟨a,b,c⟩,d,e,f⟩=>⟨a,b,c,.inr ⟨k,d,e,f⟩⟩,fun W=>⟨⟨W.src,W.dst,W.other⟩,?_⟩⟩;rcases W.kind with ⟨q,_⟩|⟨_,d,e,f⟩
   ·exact absurd q h
   ·exact⟨d,e,f⟩
  ·rw[if_neg k]
   refine⟨fun c=>(by cases c),fun W=>?_⟩;rcases W.kind with ⟨q,_⟩|⟨q,_⟩
   ·exact absurd q h
   ·exact absurd q k
def sizeB (n:Nt):Bool:=decide (n.nodes.length=5)&&(decide (n.past.length=5)&&(decide (n.links.length=25)&&decide (n.words.length<=24)))
def seatB (n:Nt) (a:Int):Bool:=in6 (nodeAt n a).born 1 20&&(pastB n a&&((whole n a a==false)&&(List.range a.toNat).all fun b=>whole n a (b:Int)==whole n (b:Int) a))
def okNB (n:Nt):Bool:=sizeB n&&((List.range 5).all (fun a:Nat=>seatB n a)&&((List.range 5).all (fun i:Nat=>nodeB n i)&&(n.words.all (wordB n)&&in6 (nodeAt n 0).beacon 0 1000)))
theorem five {P:Int->Prop}:(∀a ∈ List.range 5,P (a:Nat))↔∀i,isNode i->P i:=by
 constructor
 ·intro h i hi
  unfold isNode at hi;have:=h i.toNat (List.mem_range.2 (by omega));rwa[show ((i.toNat:Nat):Int)=i by omega]at this
 ·intro h a ha
  have:=List.mem_range.1 ha;exact h a ⟨by omega,by omega⟩
theorem okNB_iff {n:Nt}:okNB n=true↔NetOk n:=by
 unfold okNB;simp only[Bool.and_eq_true,List.all_eq_true];rw[five (P:=fun i=>seatB n i=true),five (P:=fun i=>nodeB n i=true)];unfold sizeB seatB nodeB;simp only[Bool.and_eq_true,decide_eq_true_eq,in6_iff,pastB_iff,List.all_eq_true,beq_iff_eq,List.mem_range,ownB_iff,knownB_iff,wayB_iff,wordB_iff]
 constructor
 ·rintro⟨⟨h1,h2,h3,h4⟩,h5,h6,h7,h8⟩
  have either:∀i j,isNode i->isNode j->j<i->whole n i j=whole n j i:=fun i j hi hj l=>by
   have:=(h5 i hi).2.2.2 j.toNat (by unfold isNode at hi hj;omega);rwa[show ((j.toNat:Nat):Int)=j by unfold isNode at hj;omega]at this
  refine⟨h1,h2,h3,h4,fun i hi=>(h5 i hi).1,fun i hi=>(h5 i hi).2.1,fun i hi=>(h5 i hi).2.2.1,fun i j hi hj=>?_,fun i hi=>(h6 i hi).1,fun i hi=>(h6 i hi).2.1,fun i hi=>(h6 i hi).2.2,h7,h8.2⟩;rcases (by omega:j<i\/i=j\/i<j)with l|l|l
  ·exact either i j hi hj l
  ·rw[l]
  ·exact (either j i hj hi l).symm
 ·intro h
  refine⟨⟨h.nodes,h.past,h.links,h.words⟩,fun i hi=>⟨h.born i hi,h.pasts i hi,h.self i hi,fun b hb=>h.either i b hi ?_⟩,fun i hi=>⟨h.own i hi,h.known i hi,h.way i hi⟩,h.word,(h.way 0 ⟨by omega,by omega⟩).beacon.1,h.beacon⟩;unfold isNode at hi ⊢;omega
end Go.Proofs.YtcblbdpdbggkbaaGreat.N
set_option linter.unusedVariables false
set_option linter.unusedSectionVars false
set_option linter.unusedSimpArgs false
namespace Go.Proofs.YtcblbdpdbggkbaaGreat.N
open Go.RowKit Go.Sort
theorem drop_at {α:Type} {l:List α} {k:Nat} {a:α} (h:l[k]? =some a):l.drop k=a::l.drop (k+1):=by
 obtain⟨hk,rfl⟩:=List.getElem?_eq_some_iff.1 h;exact List.drop_eq_getElem_cons hk
theorem take_at {α:Type} {l:List α} {k:Nat} {a:α} (h:l[k]? =some a):l.take (k+1)=l.take k++[a]:=by
 rw[List.take_add_one,h];rfl
theorem fold_at {α β:Type} (f:β->α->β) (b:β) {l:List α} {k:Nat} {a:α} (h:l[k]? =some a):(l.take (k+1)).foldl f b=f ((l.take k).foldl f b) a:=by
 rw[take_at h,List.foldl_append];rfl
theorem find_at {es:List En} {i:Int} {k:Nat} {e:En} (no:∀(j:Nat) (x:En),j<k->es[j]? =some x->x.node≠i) (h:es[k]? =some e) (q:e.node=i):findE es i=some e:=by
 rw[<-List.take_append_drop k es,drop_at h];unfold findE;rw[List.find?_append];have n:(es.take k).find? (fun x=>x.node==i)=none:=by
  rw[List.find?_eq_none];intro x hx;obtain⟨j,hj,rfl⟩:=List.getElem_of_mem hx;rw[List.length_take]at hj;rw[List.getElem_take];have:=no j _ (by omega) (List.getElem?_eq_getElem (by omega));simpa using this
 rw[n,List.find?_cons];simp[q]
theorem find_no {es:List En} {i:Int} (no:∀(j:Nat) (x:En),es[j]? =some x->x.node≠i):findE es i=none:=find_none fun x hx=>by
 obtain⟨j,hj,rfl⟩:=List.getElem_of_mem hx;exact no j _ (List.getElem?_eq_getElem hj)
theorem known_idx {n:Nt} {es:List En}:knownB n es=true↔∀(i:Nat) (e:En),es[i]? =some e->entryB n e=true/\(0<i->∀d:En,es[i - 1]? =some d->d.node<e.node):=by
 rw[knownB_iff]
 constructor
 ·intro h i e hi
  refine⟨entryB_iff.2 (h.all e (List.mem_of_getElem? hi)),fun i0 d hd=>?_⟩;obtain⟨a,rfl⟩:=List.getElem?_eq_some_iff.1 hi;obtain⟨b,rfl⟩:=List.getElem?_eq_some_iff.1 hd;exact List.pairwise_iff_getElem.1 h.asc (i - 1) i b a (by omega)
 ·intro h
  refine⟨fun e he=>?_,?_⟩
  ·obtain⟨i,hi⟩:=List.getElem?_of_mem he
   exact entryB_iff.1 (h i e hi).1
  ·refine List.pairwise_iff_getElem.2 fun i j hi hj ij=>?_
   have key:∀k,i<k->(hk:k<es.length)->es[i].node<es[k].node:=by
    intro k
    induction k with
    |zero=>intro c;omega
    |succ k ih=>
     intro c hk;have s:=(h (k+1) _ (List.getElem?_eq_getElem hk)).2 (by omega) es[k] (List.getElem?_eq_getElem (by omega))
     by_cases q:i=k
     ·subst q;exact s
     ·have:=ih (by omega) (by omega);omega
   exact key j ij hj
theorem known_bad {n:Nt} {es:List En} {i:Nat} {e:En} (hi:es[i]? =some e) (h:entryB n e=false\/(0<i/\∃d:En,es[i - 1]? =some d/\e.node<=d.node)):knownB n es=false:=by
 rw[Bool.eq_false_iff];intro c;obtain⟨c1,c2⟩:=known_idx.1 c i e hi;rcases h with h|⟨i0,d,hd,l⟩
 ·rw[h]at c1;cases c1
 ·have:=c2 i0 d hd;omega
theorem all_idx {α:Type} {p:α->Bool} {l:List α}:l.all p=true↔∀(i:Nat) (a:α),l[i]? =some a->p a=true:=by
 rw[List.all_eq_true];exact⟨fun h i a hi=>h a (List.mem_of_getElem? hi),fun h a ha=>by
    obtain⟨i,hi⟩:=List.getElem?_of_mem ha
    exact h i a hi⟩
theorem all_bad {α:Type} {p:α->Bool} {l:List α} {i:Nat} {a:α} (hi:l[i]? =some a) (h:p a=false):l.all p=false:=by
 rw[Bool.eq_false_iff];intro c;rw[all_idx.1 c i a hi]at h;cases h
end Go.Proofs.YtcblbdpdbggkbaaGreat.N
set_option linter.unusedVariables false
set_option linter.unusedSectionVars false
set_option linter.unusedSimpArgs false
namespace Go.Proofs.YtcblbdpdbggkbaaGreat
open Go.RowKit Go.Sort
section
variable {α:Type} {A:Rep α} {e:TypeId} {size:Nat} {w w' w0:World} {B k:Nat} {l:List Ch} {xs:List α} {x:α} {v:Value} {c:Nat->List Value}
theorem M.plus {d:Ch} {l':List Ch} (h:M B w0 w l) (k:M w.heap.size w w' (d::l')):M B w0 w' (d::l):=by
 obtain⟨f,hf,nd,lo⟩:=k.first;exact h.add k.below hf nd lo
end
namespace N
variable {w w' w0:World} {B k:Nat} {l:List Ch} {v:Value} {es:List En} {x:En} {c:Nat->List Value}
def entC (V:SV) (e:En):Ch:=entryR_frame.ch [.int .i64 e.node,.int .i64 e.born,.int .i64 e.num,.slice V.xr V.nr V.cr,.slice V.xf V.nf V.cf,.slice V.xt V.nt V.ct,.int .i64 (e.s).lo,.int .i64 (e.s).al,.slice V.xk V.nk V.ck,.int .i64 (e.s).ka] e
end N
end Go.Proofs.YtcblbdpdbggkbaaGreat
set_option linter.unusedVariables false
set_option linter.unusedSectionVars false
set_option linter.unusedSimpArgs false
namespace Go.Proofs.YtcblbdpdbggkbaaGreat
open Go.RowKit Go.Sort
theorem steps2 {a b:Bool} {P:Prop} (h0:a=false->P) (h1:a=true->b=false->P) (h2:a=true->b=true->P):P:=by
 cases a
 case false=>exact h0 rfl
 cases b
 case false=>exact h1 rfl rfl
 exact h2 rfl rfl
theorem steps3 {a b c:Bool} {P:Prop} (h0:a=false->P) (h1:a=true->b=false->P) (h2:a=true->b=true->c=false->P) (h3:a=true->b=true->c=true->P):P:=by
 cases a
 case false=>exact h0 rfl
 cases b
 case false=>exact h1 rfl rfl
 cases c
 case false=>exact h2 rfl rfl rfl
 exact h3 rfl rfl rfl
theorem steps4 {a b c d:Bool} {P:Prop} (h0:a=false->P) (h1:a=true->b=false->P) (h2:a=true->b=true->c=false->P) (h3:a=true->b=true->c=true->d=false->P) (h4:a=true->b=true->c=true->d=true->P):P:=by
 cases a
 case false=>exact h0 rfl
 cases b
 case false=>exact h1 rfl rfl
 cases c
 case false=>exact h2 rfl rfl rfl
 cases d
 case false=>exact h3 rfl rfl rfl rfl
 exact h4 rfl rfl rfl rfl
def Cells (w:World):List (Addr × Value)->Prop
 | []=>True
 |x::l=>w.cell? x.1=some x.2/\Cells w l
theorem Cells.below {W w':World}:∀{l:List (Addr × Value)},Cells W l->Below W.heap.size W w'->Cells w' l
 | [],_,_=>trivial
 |_::_,h,hb=>⟨(hb.cell (World.block_lt_of_cell? _ _ h.1)).trans h.1,Cells.below h.2 hb⟩
theorem Cells_app {w:World} {a b:List (Addr × Value)}:Cells w (a++b)↔Cells w a/\Cells w b:=by
 induction a with
 |nil=>simp[Cells]
 |cons x l ih=>simp[Cells,ih,and_assoc]
def b4L (p:Nat) (v0 v1 v2 v3:Value):List (Addr × Value):=[(⟨p,0,none⟩,v0),(⟨p,1,none⟩,v1),(⟨p,2,none⟩,v2),(⟨p,3,none⟩,v3)]
def b5L (p:Nat) (v0 v1 v2 v3 v4:Value):List (Addr × Value):=[(⟨p,0,none⟩,v0),(⟨p,1,none⟩,v1),(⟨p,2,none⟩,v2),(⟨p,3,none⟩,v3),(⟨p,4,none⟩,v4)]
def b6L (p:Nat) (v0 v1 v2 v3 v4 v5:Value):List (Addr × Value):=[(⟨p,0,none⟩,v0),(⟨p,1,none⟩,v1),(⟨p,2,none⟩,v2),(⟨p,3,none⟩,v3),(⟨p,4,none⟩,v4),(⟨p,5,none⟩,v5)]
def b7L (p:Nat) (V:SV) (s:Sm):List (Addr × Value):=[(⟨p,0,none⟩,.slice V.xr V.nr V.cr),(⟨p,1,none⟩,.slice V.xf V.nf V.cf),(⟨p,2,none⟩,.slice V.xt V.nt V.ct),(⟨p,3,none⟩,.int .i64 s.lo),(⟨p,4,none⟩,.int .i64 s.al),(⟨p,5,none⟩,.slice V.xk V.nk V.ck),(⟨p,6,none⟩,.int .i64 s.ka)]
def b10L (p:Nat) (i b n:Int) (V:SV) (s:Sm):List (Addr × Value):=[(⟨p,0,none⟩,.int .i64 i),(⟨p,1,none⟩,.int .i64 b),(⟨p,2,none⟩,.int .i64 n),(⟨p,3,none⟩,.slice V.xr V.nr V.cr),(⟨p,4,none⟩,.slice V.xf V.nf V.cf),(⟨p,5,none⟩,.slice V.xt V.nt V.ct),(⟨p,6,none⟩,.int .i64 s.lo),(⟨p,7,none⟩,.int .i64 s.al),(⟨p,8,none⟩,.slice V.xk V.nk V.ck),(⟨p,9,none⟩,.int .i64 s.ka)]
namespace N
def entL (g j:Nat) (V:SV) (e:En):List (Addr × Value):=[(⟨g,j * 10,none⟩,.int .i64 e.node),(⟨g,j * 10+1,none⟩,.int .i64 e.born),(⟨g,j * 10+2,none⟩,.int .i64 e.num),(⟨g,j * 10+3,none⟩,.slice V.xr V.nr V.cr),(⟨g,j * 10+4,none⟩,.slice V.xf V.nf V.cf),(⟨g,j * 10+5,none⟩,.slice V.xt V.nt V.ct),(⟨g,j * 10+6,none⟩,.int .i64 e.s.lo),(⟨g,j * 10+7,none⟩,.int .i64 e.s.al),(⟨g,j * 10+8,none⟩,.slice V.xk V.nk V.ck),(⟨g,j * 10+9,none⟩,.int .i64 e.s.ka)]
section
variable {w w0:World} {B p:Nat} {l:List Ch} {n:Nt} {v1 v2 v3 v4:Value}
end
end N
end Go.Proofs.YtcblbdpdbggkbaaGreat
set_option linter.unusedVariables false
set_option linter.unusedSectionVars false
set_option linter.unusedSimpArgs false
namespace Go.Proofs.YtcblbdpdbggkbaaGreat
open Go.RowKit Go.Sort
namespace N
def lkP (ls:List Bool) (k:Nat) (a b:Int):Bool:=decide ((0<=a/\a<=4)/\(0<=b/\b<=4)/\a * 5+b<k)&&ls.getD (a * 5+b).toNat false
theorem lkP_zero (ls:List Bool) (a b:Int):lkP ls 0 a b=false:=by
 unfold lkP;rw[decide_eq_false (by omega)];rfl
theorem lkP_step {ls:List Bool} {k:Nat} (hk:k<25) {u:Bool} (hu:ls.getD k false=u) (a b:Int):lkP ls (k+1) a b=if (a,b)=(((k:Int) / 5),((k:Int) % 5))then u else lkP ls k a b:=by
 by_cases h:(a,b)=(((k:Int) / 5),((k:Int) % 5))
 ·rw[if_pos h]
  simp only[Prod.mk.injEq]at h;obtain⟨rfl,rfl⟩:=h;unfold lkP;rw[decide_eq_true (by omega),Bool.true_and, <-hu]
  congr 1
  omega
 ·rw[if_neg h]
  simp only[Prod.mk.injEq]at h;unfold lkP
  congr 1
  exact decide_eq_decide.2 (by omega)
theorem links_step {g:Int × Int->Option Value} {ls:List Bool} {k:Nat} (hk:k<25) {u:Bool} (hu:ls.getD k false=u) (h:LinksAre g (lkP ls k)):LinksAre (fun y=>if y=(((k:Int) / 5),((k:Int) % 5))then some (.bool u)else g y) (lkP ls (k+1)):=fun y=>by
 rw[lkP_step hk hu];simp only
 by_cases q:y=(((k:Int) / 5),((k:Int) % 5))
 ·rw[if_pos q,if_pos (by rw[<-q])];rfl
 ·rw[if_neg q,if_neg (show ¬(y.1,y.2)=_ from q)]
  exact h y
theorem imLinksOf_at (w:World) {x:Option Addr} {c:Nat} {ls:List Bool} {f:List Nat} (h:linksR TY w [.slice x 25 c] ls f):
  Calls Tryz.prog 89 #[.slice x 25 c] w fun r w'=>∃m g,r=.returned (.map (some m))/\M w.heap.size w w' [mapC EndOk endV m g]/\LinksAre g (lkP ls 25):=by
 have hl:25=ls.length:=(slcR_row h).1;have H1:=hd_ h;have HL:=hd_ hl;clear h hl;have h0:=(M.start w).map EndOk endV;have H0:=hd_ h0;clear h0;have hmm:=@run_makeMap Tryz.prog;go_enter Tryz.func89,Tryz.ntmps89;go_wp2;clear hmm;obtain⟨m,hm⟩:∃m,m=w.heap.size:=⟨_,rfl⟩
 have HM:=hd_ hm;rw[<-hm]at H0 ⊢;clear hm;generalize w.alloc (.map #[] 0)=w1 at H0 ⊢;have l0:(0:Int)<=25:=by decide
 go_loopw [9] (fun z wr=>∃(k:Nat) (g:Int × Int->Option Value),k<=25/\z=.int .i64 (k:Int)/\M m w wr [mapC EndOk endV m g]/\LinksAre g (lkP ls k)) (fun z _=>25 - (intOf z).toNat)
 case atStart=>exact⟨0,fun _=>none,Nat.zero_le _,rfl,H0.out,fun y=>by rw[lkP_zero];rfl⟩
 case round=>
  clear H0;obtain⟨k,g,hk,rfl,hm,hg⟩:=hrel;have H:=hd_ hm;have HG:=hd_ hg;clear hm hg
  by_cases hlt:k<25
  ·obtain⟨u,hu⟩:∃u,ls[k]? =some u:=⟨_,List.getElem?_eq_getElem (by rw[<-HL.out];exact hlt)⟩
   obtain⟨g1,rfl,_,c0⟩:=link_at H1.out hu;have HU:Hid (ls.getD k false=u):=hd_ (by rw[List.getD_eq_getElem?_getD,hu];rfl);replace c0:=cell_later (by have:=H.out.below;rwa[HM.out]at this) c0;have KE:=hd_ (fun W=>endsAt_at W k hlt);have EO:=hd_ (show EndOk ((k:Int) / 5,(k:Int) % 5)from⟨⟨by simp;omega,by simp;omega⟩,⟨by simp;omega,by simp;omega⟩⟩);have k0:(0:Int)<=(k:Int):=by omega
   have k1:(k:Int)<25:=by omega
   clear hu
   go_wp2_with fail
   refine (KE.out _).mono ?_;rintro e w4 ⟨rfl,hb⟩;have H2:=hd_ (H.out.later hb);clear hb H KE c0
   go_wp2_with (at_mapUpdate;go_loud (refine wpList_mset endT Tryz.underlying100 H2.out EO.out rfl rfl rfl rfl rfl ?_))
   intro w5 h5 hs5;have H5:=hd_ h5;have G5:=hd_ (links_step hlt HU.out HG.out);clear h5 hs5 H2;go_wp2;go_roundw
   case rel=>exact⟨k+1,_,by omega,by go_num,H5.out,G5.out⟩
   case measure=>simp[intOf];omega
  ·obtain rfl:k=25:=by omega
   go_wp2;go_ret;exact⟨m,g,rfl,by rw[HM.out]at *;exact H.out,HG.out⟩
end N
end Go.Proofs.YtcblbdpdbggkbaaGreat
set_option linter.unusedVariables false
set_option linter.unusedSectionVars false
set_option linter.unusedSimpArgs false
namespace Go.Proofs.YtcblbdpdbggkbaaGreat
open Go.RowKit Go.Sort
namespace N
theorem ints_max {w:World} {v:Value} {l:List Int} (h:Ints w v l):l.length<=maxLen:=by
 rcases h with ⟨_,rfl⟩|⟨_,_,c,_,h1,h2,_⟩
 ·exact Nat.zero_le _
 ·omega
theorem rws_at {w:World} {x:Option Addr} {n c:Nat} {rs:List (List Int)} (h:Rws w (.slice x n c) rs) {k:Nat} (hk:k<rs.length):∃b o v,x=some ⟨b,o,Option.none⟩/\w.cell? ⟨b,o+k,Option.none⟩=some v/\Ints w v (rs.getD k []):=by
 obtain⟨_,q⟩:=h.cases;rcases q with q|⟨b,o,c',e,hc⟩
 ·omega
 ·obtain⟨v,h1,h2⟩:=hc k hk
  exact⟨b,o,v,(Value.slice.inj e).1,h1,h2⟩
theorem pairs_ext {a b:List (Int × Int)} (h:a.length=b.length) (h2:∀i,i<a.length->a.getD i (0,0)=b.getD i (0,0)):a=b:=of_decide_eq_true (eq_of_get (d:=((0,0):Int × Int)) rfl h.symm h2)
theorem rws_max {w:World} {v:Value} {rs:List (List Int)} (h:Rws w v rs):rs.length<=maxLen:=by
 rcases h with ⟨_,rfl⟩|⟨_,_,c,_,h1,h2,_⟩
 ·exact Nat.zero_le _
 ·omega
end N
end Go.Proofs.YtcblbdpdbggkbaaGreat
set_option linter.unusedVariables false
set_option linter.unusedSectionVars false
set_option linter.unusedSimpArgs false
namespace Go.Proofs.YtcblbdpdbggkbaaGreat
open Go.RowKit Go.Sort
namespace N
theorem sv_inj {V1 V2:SV} {s:Sm} (h:([.slice V1.xr V1.nr V1.cr,.slice V1.xf V1.nf V1.cf,.slice V1.xt V1.nt V1.ct,.int .i64 s.lo,.int .i64 s.al,.slice V1.xk V1.nk V1.ck,.int .i64 s.ka]:List Value)=[.slice V2.xr V2.nr V2.cr,.slice V2.xf V2.nf V2.cf,.slice V2.xt V2.nt V2.ct,.int .i64 s.lo,.int .i64 s.al,.slice V2.xk V2.nk V2.ck,.int .i64 s.ka]):V1=V2:=by
 cases V1;cases V2;simp only[List.cons.injEq,Value.slice.injEq,true_and,and_true]at h;obtain⟨⟨a1,a2,a3⟩,⟨a4,a5,a6⟩,⟨a7,a8,a9⟩,a10,a11,a12⟩:=h;subst a1 a2 a3 a4 a5 a6 a7 a8 a9 a10 a11 a12
 rfl
structure NetRd (w:World) (v1 v2 v3 v4:Value) (n:Nt):Prop where
 nodes:∃f,nodesR TY w [v1] n.nodes f
 links:∃f,linksR TY w [v2] n.links f
 words:∃f,wordsR TY w [v3] n.words f
 past:∃f,pastR TY w [v4] n.past f
theorem NetRd.below {w w':World} {v1 v2 v3 v4:Value} {n:Nt} (h:NetRd w v1 v2 v3 v4 n) {B:Nat} (hb:Below B w w') (hB:w.heap.size<=B):NetRd w' v1 v2 v3 v4 n:=by
 obtain⟨⟨f1,h1⟩,⟨f2,h2⟩,⟨f3,h3⟩,f4,h4⟩:=h;exact⟨⟨f1,(slcR_frame nodeR_frame _ _).below h1 hb hB⟩,⟨f2,(slcR_frame (flatR_frame _) _ _).below h2 hb hB⟩,⟨f3,(slcR_frame wordR_frame _ _).below h3 hb hB⟩,f4,(slcR_frame rowsR_frame _ _).below h4 hb hB⟩
structure Shape (n:Nt):Prop where
 nodes:n.nodes.length=5
 past:n.past.length=5
 rows:∀i:Nat,i<5->((rowsAt n i).length:Int)=(nodeAt n i).born+1
end N
end Go.Proofs.YtcblbdpdbggkbaaGreat
set_option linter.unusedVariables false
set_option linter.unusedSectionVars false
set_option linter.unusedSimpArgs false
namespace Go.Proofs.YtcblbdpdbggkbaaGreat
open Go.RowKit Go.Sort
namespace N
theorem rds_of {w:World} {V:SV} {s:Sm} {f:List Nat} (h:sumR w [.slice V.xr V.nr V.cr,.slice V.xf V.nf V.cf,.slice V.xt V.nt V.ct,.int .i64 s.lo,.int .i64 s.al,.slice V.xk V.nk V.ck,.int .i64 s.ka] s f):RdS w V s:=by
 obtain⟨V',e,r⟩:=sumR_rd h;cases sv_inj e;exact r
abbrev entV (V:SV) (e:En):Value:=.agg #[.int .i64 e.node,.int .i64 e.born,.int .i64 e.num,.slice V.xr V.nr V.cr,.slice V.xf V.nf V.cf,.slice V.xt V.nt V.ct,.int .i64 (e.s).lo,.int .i64 (e.s).al,.slice V.xk V.nk V.ck,.int .i64 (e.s).ka]
abbrev noEntV:Value:=.agg #[.int .i64 0,.int .i64 0,.int .i64 0,.slice none 0 0,.slice none 0 0,.slice none 0 0,.int .i64 0,.int .i64 0,.slice none 0 0,.int .i64 0]
end N
end Go.Proofs.YtcblbdpdbggkbaaGreat
set_option linter.unusedVariables false
set_option linter.unusedSectionVars false
set_option linter.unusedSimpArgs false
namespace Go.Proofs.YtcblbdpdbggkbaaGreat
open Go.RowKit Go.Sort
namespace N
theorem ints_el {w:World} {x:Option Addr} {k c:Nat} {l:List Int} (h:Ints w (.slice x k c) l) {j:Nat} (hj:j<l.length):∃b o,x=some ⟨b,o,Option.none⟩/\w.cell? ⟨b,o+j,Option.none⟩=some (.int .i64 (l.getD j 0)):=by
 rcases h with ⟨_,rfl⟩|⟨b,o,cap,e,_,_,_,hc⟩
 ·cases hj
 ·exact⟨b,o,(Value.slice.inj e).1,hc j hj⟩
theorem row_bad {l:List Int} {j:Nat} (hj:j<l.length) (h:in6 (l.getD j 0) 0 63=false):rowB l=false:=by
 unfold rowB;rw[all_bad (i:=j) (a:=l.getD j 0) (by rw[List.getD_eq_getElem?_getD,List.getElem?_eq_getElem hj];rfl) h,Bool.false_and]
theorem row_long {l:List Int} (h:100<l.length):rowB l=false:=by
 unfold rowB;rw[decide_eq_false (by omega),Bool.and_false]
theorem row_ok {l:List Int} (h:∀a,a<l.length->in6 (l.getD a 0) 0 63=true) (h2:¬ 100<l.length):rowB l=true:=by
 unfold rowB;rw[decide_eq_true (by omega),Bool.and_true];exact all_idx.2 fun a t ht=>by
  have q:=h a (List.getElem?_eq_some_iff.1 ht).1;rwa[List.getD_eq_getElem?_getD,ht]at q
end N
end Go.Proofs.YtcblbdpdbggkbaaGreat
set_option linter.unusedVariables false
set_option linter.unusedSectionVars false
set_option linter.unusedSimpArgs false
namespace Go.Proofs.YtcblbdpdbggkbaaGreat
open Go.RowKit Go.Sort
namespace N
theorem eqI_short (x y:Option Addr) (n m c d:Nat) (w:World) (h:n≠m\/(n=0/\m=0)):
  Calls Tryz.prog 256 #[.slice x n c,.slice y m d] w fun e w'=>e=.returned (.bool (decide (n=m)))/\Below w.heap.size w w':=by
 rcases h with h|⟨rfl,rfl⟩
 ·have hn:((n:Int) != (m:Int))=true:=by simp;omega
  go_enter Tryz.func256,Tryz.ntmps256;go_wp2;go_ret;exact⟨by simpa using h,Below.refl _ _⟩
 ·go_enter Tryz.func256,Tryz.ntmps256
  go_wp2;refine wp_loop_rounds 1 ?_;rw[rounds_succ];go_wp2;go_ret;exact⟨by simp,Below.refl _ _⟩
theorem eqI_at (w:World) {x y:Option Addr} {n m c d:Nat} {ps qs:List Int} (h1:Ints w (.slice x n c) ps) (h2:Ints w (.slice y m d) qs):
  Calls Tryz.prog 256 #[.slice x n c,.slice y m d] w fun e w'=>e=.returned (.bool (decide (ps=qs)))/\Below w.heap.size w w':=by
 obtain rfl:n=ps.length:=h1.len;obtain rfl:m=qs.length:=h2.len;have hm:=ints_max h1;unfold maxLen at hm
 by_cases hs:ps.length≠qs.length\/(ps.length=0/\qs.length=0)
 ·refine (eqI_short x y _ _ c d w hs).mono fun e w' ⟨he,hw⟩=>⟨?_,hw⟩
  rw[he];refine ret_bool ?_;rcases hs with q|⟨q1,q2⟩
  ·rw[decide_eq_false q,decide_eq_false (fun e=>q (by rw[e]))]
  ·rw[List.eq_nil_of_length_eq_zero q1,List.eq_nil_of_length_eq_zero q2];simp
 have el:ps.length=qs.length:=by omega
 have g0:((ps.length:Int) != (qs.length:Int))=false:=by simp;omega
 have HL:=hd_ el;have R1:=hd_ h1;have R2:=hd_ h2;clear h1 h2 hs el;go_enter Tryz.func256,Tryz.ntmps256;go_wp2;clear g0;go_loopw [13] (fun i wr=>∃k:Nat,k<=ps.length/\i=.int .i64 k/\(∀j,j<k->ps.getD j 0=qs.getD j 0)/\Below w.heap.size w wr) (fun i _=>ps.length - (intOf i).toNat)
 case atStart=>exact⟨0,Nat.zero_le _,rfl,fun _ h=>absurd h (Nat.not_lt_zero _),Below.refl _ _⟩
 case round=>
  obtain⟨k,hk,rfl,heq,hb⟩:=hrel;have HE:=hd_ heq;have HB:=hd_ hb;clear heq hb
  by_cases hlt:k<ps.length
  ·obtain⟨b1,o1,rfl,ra1⟩:=ints_el (R1.out.below HB.out lr_) hlt
   obtain⟨b2,o2,rfl,ra2⟩:=ints_el (R2.out.below HB.out lr_) (j:=k) (by rw[<-HL.out];exact hlt);obtain⟨x1,hx1⟩:∃x,x=ps.getD k 0:=⟨_,rfl⟩
   obtain⟨x2,hx2⟩:∃x,x=qs.getD k 0:=⟨_,rfl⟩
   rw[<-hx1]at ra1;rw[<-hx2]at ra2;have X1:=hd_ hx1;have X2:=hd_ hx2;clear hx1 hx2;have k0:(0:Int)<=(k:Int):=by omega
   have k1:(k:Int)<(ps.length:Int):=by omega
   have k2:(k:Int)<(qs.length:Int):=by have:=HL.out;omega
   have B2:=hd_ (Below.drew HB.out);go_wp2;refine wp_region_plan 99 (.tk 0 9 .done) (fun w'=>w'.cell? ⟨b1,o1+k,Option.none⟩=some (.int .i64 x1)/\w'.cell? ⟨b2,o2+k,Option.none⟩=some (.int .i64 x2)) (by kernel_rfl) (by kernel_rfl) (fun _ _ _ _ _ h=>h) ⟨ra1,ra2⟩ ?_;clear ra1 ra2
   by_cases eq:x1=x2
   case neg=>
    have F:=hd_ (show decide (ps=qs)=false from decide_eq_false fun e=>eq (by rw[X1.out,X2.out,e]));have ex:(x1 != x2)=true:=by simpa using eq
    clear eq
    repeat ((first|(refine plan_take (by rfl) (by rfl) ?_;apply Exists.intro;refine⟨fun w' hw'=>?_,?_⟩;(· ((try dsimp only at hw');go_simp;(try with_reducible rfl))))|(refine plan_skip (by rfl) (by rfl) ?_));simp only[Act.put,List.getElem_toArray,List.getElem_cons_succ,pg3,pg4,pg5,pg6])
    refine plan_done ?_;go_wp2;go_ret;exact⟨by rw[F.out];rfl,B2.out⟩
   have HE2:Hid (∀j,j<k+1->ps.getD j 0=qs.getD j 0):=hd_ fun j hj=>by
    by_cases h:j<k
    ·exact HE.out j h
    ·obtain rfl:j=k:=by omega
     rw[<-X1.out, <-X2.out,eq]
   subst eq
   repeat ((first|(refine plan_take (by rfl) (by rfl) ?_;apply Exists.intro;refine⟨fun w' hw'=>?_,?_⟩;(· ((try dsimp only at hw');go_simp;(try with_reducible rfl))))|(refine plan_skip (by rfl) (by rfl) ?_));simp only[Act.put,List.getElem_toArray,List.getElem_cons_succ,pg3,pg4,pg5,pg6])
   refine plan_done ?_;go_wp2;go_roundw
   case rel=>exact⟨k+1,by omega,by go_num,HE2.out,B2.out⟩
   case measure=>simp[intOf];omega
  ·have F:Hid (decide (ps=qs)=true):=hd_ (eq_of_get (d:=0) rfl HL.out.symm (fun i hi=>HE.out i (by omega)))
   have g:decide (k<ps.length)=false:=by simpa using hlt
   clear HE;go_wp2;go_ret;exact⟨by rw[F.out];rfl,HB.out⟩
theorem eqPr_at_short (x y:Option Addr) (n m c d:Nat) (w:World) (h:n≠m\/(n=0/\m=0)):
  Calls Tryz.prog 257 #[.slice x n c,.slice y m d] w fun e w'=>e=.returned (.bool (decide (n=m)))/\Below w.heap.size w w':=by
 rcases h with h|⟨rfl,rfl⟩
 ·have hn:((n:Int) != (m:Int))=true:=by simp;omega
  go_enter Tryz.func257,Tryz.ntmps257;go_wp2;go_ret;exact⟨by simpa using h,Below.refl _ _⟩
 ·go_enter Tryz.func257,Tryz.ntmps257
  go_wp2;refine wp_loop_rounds 1 ?_;rw[rounds_succ];go_wp2;go_ret;exact⟨by simp,Below.refl _ _⟩
theorem eqPr_at (w:World) {x y:Option Addr} {n m c d:Nat} {ps qs:List (Int × Int)} (h1:T.Prs w (.slice x n c) ps) (h2:T.Prs w (.slice y m d) qs):
  Calls Tryz.prog 257 #[.slice x n c,.slice y m d] w fun e w'=>e=.returned (.bool (decide (ps=qs)))/\Below w.heap.size w w':=by
 obtain⟨_,_,e1,l1,l2⟩:=h1.form;obtain⟨_,_,e2,_,_⟩:=h2.form;obtain rfl:n=ps.length:=(Value.slice.inj e1).2.1;obtain rfl:m=qs.length:=(Value.slice.inj e2).2.1;have hm:ps.length<=maxLen:=by omega
 unfold maxLen at hm;clear e1 e2 l1 l2
 by_cases hs:ps.length≠qs.length\/(ps.length=0/\qs.length=0)
 ·refine (eqPr_at_short x y _ _ c d w hs).mono fun e w' ⟨he,hw⟩=>⟨?_,hw⟩
  rw[he];refine ret_bool ?_;rcases hs with q|⟨q1,q2⟩
  ·rw[decide_eq_false q,decide_eq_false (fun e=>q (by rw[e]))]
  ·rw[List.eq_nil_of_length_eq_zero q1,List.eq_nil_of_length_eq_zero q2];simp
 have el:ps.length=qs.length:=by omega
 have g0:((ps.length:Int) != (qs.length:Int))=false:=by simp;omega
 have HL:=hd_ el;have R1:=hd_ h1;have R2:=hd_ h2;clear h1 h2 hs el;go_enter Tryz.func257,Tryz.ntmps257;go_wp2;clear g0;go_loopw [13] (fun i wr=>∃k:Nat,k<=ps.length/\i=.int .i64 k/\(∀j,j<k->T.pr ps j=T.pr qs j)/\Below w.heap.size w wr) (fun i _=>ps.length - (intOf i).toNat)
 case atStart=>exact⟨0,Nat.zero_le _,rfl,fun _ h=>absurd h (Nat.not_lt_zero _),Below.refl _ _⟩
 case round=>
  obtain⟨k,hk,rfl,heq,hb⟩:=hrel;have HE:=hd_ heq;have HB:=hd_ hb;clear heq hb
  by_cases hlt:k<ps.length
  ·obtain⟨b1,o1,rfl,_,ra1,rb1⟩:=(R1.out.below HB.out lr_).cells k hlt
   obtain⟨b2,o2,rfl,_,ra2,rb2⟩:=(R2.out.below HB.out lr_).cells k (by rw[<-HL.out];exact hlt);obtain⟨x1,hx1⟩:∃x,x=(T.pr ps k).1:=⟨_,rfl⟩
   obtain⟨y1,hy1⟩:∃x,x=(T.pr ps k).2:=⟨_,rfl⟩
   obtain⟨x2,hx2⟩:∃x,x=(T.pr qs k).1:=⟨_,rfl⟩
   obtain⟨y2,hy2⟩:∃x,x=(T.pr qs k).2:=⟨_,rfl⟩
   rw[<-hx1]at ra1;rw[<-hy1]at rb1;rw[<-hx2]at ra2;rw[<-hy2]at rb2;have EQ:Hid (T.pr ps k=T.pr qs k↔x1=x2/\y1=y2):=hd_ (by rw[hx1,hx2,hy1,hy2];exact Prod.ext_iff);clear hx1 hx2 hy1 hy2;have k0:(0:Int)<=(k:Int):=by omega
   have k1:(k:Int)<(ps.length:Int):=by omega
   have k2:(k:Int)<(qs.length:Int):=by have:=HL.out;omega
   have B2:=hd_ (Below.drew HB.out);go_wp2;refine wp_region_plan 99 (.tk 0 9 .done) (fun w'=>w'.cell? ⟨b1,o1+k * 2,Option.none⟩=some (.int .i64 x1)/\w'.cell? ⟨b1,o1+k * 2+1,Option.none⟩=some (.int .i64 y1)/\w'.cell? ⟨b2,o2+k * 2,Option.none⟩=some (.int .i64 x2)/\w'.cell? ⟨b2,o2+k * 2+1,Option.none⟩=some (.int .i64 y2)) (by kernel_rfl) (by kernel_rfl) (fun _ _ _ _ _ h=>h) ⟨ra1,rb1,ra2,rb2⟩ ?_
   clear ra1 rb1 ra2 rb2
   by_cases eq:x1=x2/\y1=y2
   case neg=>
    have F:=hd_ (show decide (ps=qs)=false from decide_eq_false fun e=>eq (EQ.out.1 (by rw[e])))
    by_cases ex:x1=x2
    ·have ey:(y1==y2)=false:=by
      have:¬y1=y2:=fun e=>eq ⟨ex,e⟩
      simpa using this
     have ey':(y1 != y2)=true:=by simpa using ey
     subst ex;clear eq EQ
     repeat ((first|(refine plan_take (by rfl) (by rfl) ?_;apply Exists.intro;refine⟨fun w' hw'=>?_,?_⟩;(· ((try dsimp only at hw');go_simp;(try with_reducible rfl))))|(refine plan_skip (by rfl) (by rfl) ?_));simp only[Act.put,List.getElem_toArray,List.getElem_cons_succ,pg3,pg4,pg5,pg6])
     refine plan_done ?_;go_wp2;go_ret;exact⟨by rw[F.out];rfl,B2.out⟩
    ·have ex':(x1==x2)=false:=by simpa using ex
     clear eq EQ ex
     repeat ((first|(refine plan_take (by rfl) (by rfl) ?_;apply Exists.intro;refine⟨fun w' hw'=>?_,?_⟩;(· ((try dsimp only at hw');go_simp;(try with_reducible rfl))))|(refine plan_skip (by rfl) (by rfl) ?_));simp only[Act.put,List.getElem_toArray,List.getElem_cons_succ,pg3,pg4,pg5,pg6])
     refine plan_done ?_;go_wp2;go_ret;exact⟨by rw[F.out];rfl,B2.out⟩
   have HE2:Hid (∀j,j<k+1->T.pr ps j=T.pr qs j):=hd_ fun j hj=>by
    by_cases h:j<k
    ·exact HE.out j h
    ·obtain rfl:j=k:=by omega
     exact EQ.out.2 eq
   obtain⟨rfl,rfl⟩:=eq;clear EQ
   repeat ((first|(refine plan_take (by rfl) (by rfl) ?_;apply Exists.intro;refine⟨fun w' hw'=>?_,?_⟩;(· ((try dsimp only at hw');go_simp;(try with_reducible rfl))))|(refine plan_skip (by rfl) (by rfl) ?_));simp only[Act.put,List.getElem_toArray,List.getElem_cons_succ,pg3,pg4,pg5,pg6])
   refine plan_done ?_;go_wp2;go_roundw
   case rel=>exact⟨k+1,by omega,by go_num,HE2.out,B2.out⟩
   case measure=>simp[intOf];omega
  ·have F:Hid (decide (ps=qs)=true):=hd_ (decide_eq_true (pairs_ext HL.out (fun i hi=>HE.out i (by omega))))
   have g:decide (k<ps.length)=false:=by simpa using hlt
   clear HE;go_wp2;go_ret;exact⟨by rw[F.out];rfl,HB.out⟩
theorem eqKn_at_short (x y:Option Addr) (n m c d:Nat) (w:World) (h:n≠m\/(n=0/\m=0)):
  Calls Tryz.prog 258 #[.slice x n c,.slice y m d] w fun e w'=>e=.returned (.bool (decide (n=m)))/\Below w.heap.size w w':=by
 rcases h with h|⟨rfl,rfl⟩
 ·have hn:((n:Int) != (m:Int))=true:=by simp;omega
  go_enter Tryz.func258,Tryz.ntmps258;go_wp2;go_ret;exact⟨by simpa using h,Below.refl _ _⟩
 ·go_enter Tryz.func258,Tryz.ntmps258
  go_wp2;refine wp_loop_rounds 1 ?_;rw[rounds_succ];go_wp2;go_ret;exact⟨by simp,Below.refl _ _⟩
theorem eqKn_at (w:World) {x y:Option Addr} {n m c d:Nat} {ps qs:List (Int × Int)} (h1:K.Prs w (.slice x n c) ps) (h2:K.Prs w (.slice y m d) qs):
  Calls Tryz.prog 258 #[.slice x n c,.slice y m d] w fun e w'=>e=.returned (.bool (decide (ps=qs)))/\Below w.heap.size w w':=by
 obtain⟨_,_,e1,l1,l2⟩:=h1.form;obtain⟨_,_,e2,_,_⟩:=h2.form;obtain rfl:n=ps.length:=(Value.slice.inj e1).2.1;obtain rfl:m=qs.length:=(Value.slice.inj e2).2.1;have hm:ps.length<=maxLen:=by omega
 unfold maxLen at hm;clear e1 e2 l1 l2
 by_cases hs:ps.length≠qs.length\/(ps.length=0/\qs.length=0)
 ·refine (eqKn_at_short x y _ _ c d w hs).mono fun e w' ⟨he,hw⟩=>⟨?_,hw⟩
  rw[he];refine ret_bool ?_;rcases hs with q|⟨q1,q2⟩
  ·rw[decide_eq_false q,decide_eq_false (fun e=>q (by rw[e]))]
  ·rw[List.eq_nil_of_length_eq_zero q1,List.eq_nil_of_length_eq_zero q2];simp
 have el:ps.length=qs.length:=by omega
 have g0:((ps.length:Int) != (qs.length:Int))=false:=by simp;omega
 have HL:=hd_ el;have R1:=hd_ h1;have R2:=hd_ h2;clear h1 h2 hs el;go_enter Tryz.func258,Tryz.ntmps258;go_wp2;clear g0;go_loopw [13] (fun i wr=>∃k:Nat,k<=ps.length/\i=.int .i64 k/\(∀j,j<k->K.pr ps j=K.pr qs j)/\Below w.heap.size w wr) (fun i _=>ps.length - (intOf i).toNat)
 case atStart=>exact⟨0,Nat.zero_le _,rfl,fun _ h=>absurd h (Nat.not_lt_zero _),Below.refl _ _⟩
 case round=>
  obtain⟨k,hk,rfl,heq,hb⟩:=hrel;have HE:=hd_ heq;have HB:=hd_ hb;clear heq hb
  by_cases hlt:k<ps.length
  ·obtain⟨b1,o1,rfl,_,ra1,rb1⟩:=(R1.out.below HB.out lr_).cells k hlt
   obtain⟨b2,o2,rfl,_,ra2,rb2⟩:=(R2.out.below HB.out lr_).cells k (by rw[<-HL.out];exact hlt);obtain⟨x1,hx1⟩:∃x,x=(K.pr ps k).1:=⟨_,rfl⟩
   obtain⟨y1,hy1⟩:∃x,x=(K.pr ps k).2:=⟨_,rfl⟩
   obtain⟨x2,hx2⟩:∃x,x=(K.pr qs k).1:=⟨_,rfl⟩
   obtain⟨y2,hy2⟩:∃x,x=(K.pr qs k).2:=⟨_,rfl⟩
   rw[<-hx1]at ra1;rw[<-hy1]at rb1;rw[<-hx2]at ra2;rw[<-hy2]at rb2;have EQ:Hid (K.pr ps k=K.pr qs k↔x1=x2/\y1=y2):=hd_ (by rw[hx1,hx2,hy1,hy2];exact Prod.ext_iff);clear hx1 hx2 hy1 hy2;have k0:(0:Int)<=(k:Int):=by omega
   have k1:(k:Int)<(ps.length:Int):=by omega
   have k2:(k:Int)<(qs.length:Int):=by have:=HL.out;omega
   have B2:=hd_ (Below.drew HB.out);go_wp2;refine wp_region_plan 99 (.tk 0 9 .done) (fun w'=>w'.cell? ⟨b1,o1+k * 2,Option.none⟩=some (.int .i64 x1)/\w'.cell? ⟨b1,o1+k * 2+1,Option.none⟩=some (.int .i64 y1)/\w'.cell? ⟨b2,o2+k * 2,Option.none⟩=some (.int .i64 x2)/\w'.cell? ⟨b2,o2+k * 2+1,Option.none⟩=some (.int .i64 y2)) (by kernel_rfl) (by kernel_rfl) (fun _ _ _ _ _ h=>h) ⟨ra1,rb1,ra2,rb2⟩ ?_
   clear ra1 rb1 ra2 rb2
   by_cases eq:x1=x2/\y1=y2
   case neg=>
    have F:=hd_ (show decide (ps=qs)=false from decide_eq_false fun e=>eq (EQ.out.1 (by rw[e])))
    by_cases ex:x1=x2
    ·have ey:(y1==y2)=false:=by
      have:¬y1=y2:=fun e=>eq ⟨ex,e⟩
      simpa using this
     have ey':(y1 != y2)=true:=by simpa using ey
     subst ex;clear eq EQ
     repeat ((first|(refine plan_take (by rfl) (by rfl) ?_;apply Exists.intro;refine⟨fun w' hw'=>?_,?_⟩;(· ((try dsimp only at hw');go_simp;(try with_reducible rfl))))|(refine plan_skip (by rfl) (by rfl) ?_));simp only[Act.put,List.getElem_toArray,List.getElem_cons_succ,pg3,pg4,pg5,pg6])
     refine plan_done ?_;go_wp2;go_ret;exact⟨by rw[F.out];rfl,B2.out⟩
    ·have ex':(x1==x2)=false:=by simpa using ex
     clear eq EQ ex
     repeat ((first|(refine plan_take (by rfl) (by rfl) ?_;apply Exists.intro;refine⟨fun w' hw'=>?_,?_⟩;(· ((try dsimp only at hw');go_simp;(try with_reducible rfl))))|(refine plan_skip (by rfl) (by rfl) ?_));simp only[Act.put,List.getElem_toArray,List.getElem_cons_succ,pg3,pg4,pg5,pg6])
     refine plan_done ?_;go_wp2;go_ret;exact⟨by rw[F.out];rfl,B2.out⟩
   have HE2:Hid (∀j,j<k+1->K.pr ps j=K.pr qs j):=hd_ fun j hj=>by
    by_cases h:j<k
    ·exact HE.out j h
    ·obtain rfl:j=k:=by omega
     exact EQ.out.2 eq
   obtain⟨rfl,rfl⟩:=eq;clear EQ
   repeat ((first|(refine plan_take (by rfl) (by rfl) ?_;apply Exists.intro;refine⟨fun w' hw'=>?_,?_⟩;(· ((try dsimp only at hw');go_simp;(try with_reducible rfl))))|(refine plan_skip (by rfl) (by rfl) ?_));simp only[Act.put,List.getElem_toArray,List.getElem_cons_succ,pg3,pg4,pg5,pg6])
   refine plan_done ?_;go_wp2;go_roundw
   case rel=>exact⟨k+1,by omega,by go_num,HE2.out,B2.out⟩
   case measure=>simp[intOf];omega
  ·have F:Hid (decide (ps=qs)=true):=hd_ (decide_eq_true (pairs_ext HL.out (fun i hi=>HE.out i (by omega))))
   have g:decide (k<ps.length)=false:=by simpa using hlt
   clear HE;go_wp2;go_ret;exact⟨by rw[F.out];rfl,HB.out⟩
theorem eqR_short (x y:Option Addr) (n m c d:Nat) (w:World) (h:n≠m\/(n=0/\m=0)):
  Calls Tryz.prog 255 #[.slice x n c,.slice y m d,.func (.func 256) #[] #[]] w fun e w'=>e=.returned (.bool (decide (n=m)))/\Below w.heap.size w w':=by
 rcases h with h|⟨rfl,rfl⟩
 ·have hn:((n:Int) != (m:Int))=true:=by simp;omega
  go_enter Tryz.func255,Tryz.ntmps255;go_wp2;go_ret;exact⟨by simpa using h,Below.refl _ _⟩
 ·go_enter Tryz.func255,Tryz.ntmps255
  go_wp2;refine wp_loop_rounds 1 ?_;rw[rounds_succ];go_wp2;go_ret;exact⟨by simp,Below.refl _ _⟩
theorem eqR_at (w:World) {x y:Option Addr} {n m c d:Nat} {ps qs:List (List Int)} (h1:Rws w (.slice x n c) ps) (h2:Rws w (.slice y m d) qs):
  Calls Tryz.prog 255 #[.slice x n c,.slice y m d,.func (.func 256) #[] #[]] w fun e w'=>e=.returned (.bool (decide (ps=qs)))/\Below w.heap.size w w':=by
 obtain rfl:n=ps.length:=h1.len;obtain rfl:m=qs.length:=h2.len;have hm:=rws_max h1;unfold maxLen at hm
 by_cases hs:ps.length≠qs.length\/(ps.length=0/\qs.length=0)
 ·refine (eqR_short x y _ _ c d w hs).mono fun e w' ⟨he,hw⟩=>⟨?_,hw⟩
  rw[he];refine ret_bool ?_;rcases hs with q|⟨q1,q2⟩
  ·rw[decide_eq_false q,decide_eq_false (fun e=>q (by rw[e]))]
  ·rw[List.eq_nil_of_length_eq_zero q1,List.eq_nil_of_length_eq_zero q2];simp
 have el:ps.length=qs.length:=by omega
 have g0:((ps.length:Int) != (qs.length:Int))=false:=by simp;omega
 have HL:=hd_ el;have R1:=hd_ h1;have R2:=hd_ h2;clear h1 h2 hs el;go_enter Tryz.func255,Tryz.ntmps255;go_wp2;clear g0;go_loopw [17] (fun i wr=>∃k:Nat,k<=ps.length/\i=.int .i64 k/\(∀j,j<k->ps.getD j []=qs.getD j [])/\Below w.heap.size w wr) (fun i _=>ps.length - (intOf i).toNat)
 case atStart=>exact⟨0,Nat.zero_le _,rfl,fun _ h=>absurd h (Nat.not_lt_zero _),Below.refl _ _⟩
 case round=>
  obtain⟨k,hk,rfl,heq,hb⟩:=hrel;have HE:=hd_ heq;have HB:=hd_ hb;clear heq hb
  by_cases hlt:k<ps.length
  ·obtain⟨b1,o1,u1,rfl,ra1,i1⟩:=rws_at (R1.out.below HB.out lr_) hlt
   obtain⟨b2,o2,u2,rfl,ra2,i2⟩:=rws_at (R2.out.below HB.out lr_) (k:=k) (by rw[<-HL.out];exact hlt);obtain⟨⟨z1,c1,rfl⟩,_⟩:=i1.cases;obtain⟨⟨z2,c2,rfl⟩,_⟩:=i2.cases;have KE:=hd_ (eqI_at wr i1 i2);obtain⟨x1,hx1⟩:∃x,x=ps.getD k []:=⟨_,rfl⟩
   obtain⟨x2,hx2⟩:∃x,x=qs.getD k []:=⟨_,rfl⟩
   rw[<-hx1]at ra1 KE;rw[<-hx2]at ra2 KE;have X1:=hd_ hx1;have X2:=hd_ hx2;clear hx1 hx2 i1 i2;generalize x1.length=n1 at ra1 KE;generalize x2.length=n2 at ra2 KE;have k0:(0:Int)<=(k:Int):=by omega
   have k1:(k:Int)<(ps.length:Int):=by omega
   have k2:(k:Int)<(qs.length:Int):=by have:=HL.out;omega
   by_cases eq:x1=x2
   case neg=>
    have F:=hd_ (show decide (ps=qs)=false from decide_eq_false fun e=>eq (by rw[X1.out,X2.out,e]));rw[decide_eq_false eq]at KE;clear eq
    go_wp2_with fail
    refine KE.out.mono ?_;rintro e w3 ⟨rfl,hb⟩;have B2:=hd_ (HB.out.trans (hb.mono HB.out.size));clear KE hb HB ra1 ra2;go_wp2;go_ret;exact⟨by rw[F.out];rfl,B2.out⟩
   rw[decide_eq_true eq]at KE;have HE2:Hid (∀j,j<k+1->ps.getD j []=qs.getD j []):=hd_ fun j hj=>by
    by_cases h:j<k
    ·exact HE.out j h
    ·obtain rfl:j=k:=by omega
     rw[<-X1.out, <-X2.out,eq]
   clear eq
   go_wp2_with fail
   refine KE.out.mono ?_;rintro e w3 ⟨rfl,hb⟩;have B2:=hd_ (HB.out.trans (hb.mono HB.out.size));clear KE hb HB ra1 ra2;go_wp2;go_roundw
   case rel=>exact⟨k+1,by omega,by go_num,HE2.out,B2.out⟩
   case measure=>simp[intOf];omega
  ·have F:Hid (decide (ps=qs)=true):=hd_ (eq_of_get (d:=[]) rfl HL.out.symm (fun i hi=>HE.out i (by omega)))
   have g:decide (k<ps.length)=false:=by simpa using hlt
   clear HE;go_wp2;go_ret;exact⟨by rw[F.out];rfl,HB.out⟩
theorem imSameSum_at (w:World) {V1 V2:SV} {s1 s2:Sm} (h1:RdS w V1 s1) (h2:RdS w V2 s2):
  Calls Tryz.prog 199 #[.agg #[.slice V1.xr V1.nr V1.cr,.slice V1.xf V1.nf V1.cf,.slice V1.xt V1.nt V1.ct,.int .i64 s1.lo,.int .i64 s1.al,.slice V1.xk V1.nk V1.ck,.int .i64 s1.ka],.agg #[.slice V2.xr V2.nr V2.cr,.slice V2.xf V2.nf V2.cf,.slice V2.xt V2.nt V2.ct,.int .i64 s2.lo,.int .i64 s2.al,.slice V2.xk V2.nk V2.ck,.int .i64 s2.ka]] w fun e w'=>e=.returned (.bool (sameS s1 s2))/\Below w.heap.size w w':=by
 have H0:=((M.start w).alloc #[.slice V1.xr V1.nr V1.cr,.slice V1.xf V1.nf V1.cf,.slice V1.xt V1.nt V1.ct,.int .i64 s1.lo,.int .i64 s1.al,.slice V1.xk V1.nk V1.ck,.int .i64 s1.ka] 46).alloc #[.slice V2.xr V2.nr V2.cr,.slice V2.xf V2.nf V2.cf,.slice V2.xt V2.nt V2.ct,.int .i64 s2.lo,.int .i64 s2.al,.slice V2.xk V2.nk V2.ck,.int .i64 s2.ka] 46;simp only[World.size_alloc]at H0
 obtain⟨p1,hp1⟩:∃p,p=w.heap.size:=⟨_,rfl⟩
 obtain⟨p2,hp2⟩:∃p,p=w.heap.size+1:=⟨_,rfl⟩
 have HP:=hd_ hp1;have HP2:=hd_ hp2
 obtain⟨w1,hw1⟩:∃W,W=(w.alloc (.cells #[.slice V1.xr V1.nr V1.cr,.slice V1.xf V1.nf V1.cf,.slice V1.xt V1.nt V1.ct,.int .i64 s1.lo,.int .i64 s1.al,.slice V1.xk V1.nk V1.ck,.int .i64 s1.ka] 46)).alloc (.cells #[.slice V2.xr V2.nr V2.cr,.slice V2.xf V2.nf V2.cf,.slice V2.xt V2.nt V2.ct,.int .i64 s2.lo,.int .i64 s2.al,.slice V2.xk V2.nk V2.ck,.int .i64 s2.ka] 46):=⟨_,rfl⟩
 rw[<-hp2, <-hp1, <-hw1]at H0;have R1:=hd_ h1;have R2:=hd_ h2;have H:=hd_ H0;obtain⟨b0,hb0⟩:∃b,b=decide (s1.rs=s2.rs):=⟨_,rfl⟩
 obtain⟨b1,hb1⟩:∃b,b=decide (s1.zs=s2.zs):=⟨_,rfl⟩
 obtain⟨b2,hb2⟩:∃b,b=decide (s1.ps=s2.ps):=⟨_,rfl⟩
 obtain⟨b3,hb3⟩:∃b,b=(s1.lo==s2.lo):=⟨_,rfl⟩
 obtain⟨b4,hb4⟩:∃b,b=(s1.al==s2.al):=⟨_,rfl⟩
 obtain⟨b5,hb5⟩:∃b,b=decide (s1.ks=s2.ks):=⟨_,rfl⟩
 obtain⟨b6,hb6⟩:∃b,b=(s1.ka==s2.ka):=⟨_,rfl⟩
 have SS:Hid (sameS s1 s2=(b0&&(b1&&(b2&&(b3&&(b4&&(b5&&b6))))))):=hd_ (by
    unfold sameS
    rw[hb0,hb1,hb2,hb3,hb4,hb5,hb6]
    rfl)
 have K0:=hd_ (fun W (hb:Below w.heap.size w W)=>eqR_at W (R1.out.r.below hb lr_) (R2.out.r.below hb lr_));have K1:=hd_ (fun W (hb:Below w.heap.size w W)=>eqI_at W (R1.out.f.below hb lr_) (R2.out.f.below hb lr_));have K2:=hd_ (fun W (hb:Below w.heap.size w W)=>eqPr_at W (R1.out.t.below hb lr_) (R2.out.t.below hb lr_))
 have K5:=hd_ (fun W (hb:Below w.heap.size w W)=>eqKn_at W (R1.out.k.below hb lr_) (R2.out.k.below hb lr_));rw[<-hb0]at K0;rw[<-hb1]at K1;rw[<-hb2]at K2;rw[<-hb5]at K5;have g3:=hb3.symm;have g4:=hb4.symm;have g6:=hb6.symm;obtain⟨c0,c1,c2,c3,c4,c5,c6⟩:=H0.p1.cells7;obtain⟨d0,d1,d2,d3,d4,d5,d6⟩:=H0.cells7;rw[hw1,hp1]at c0 c1 c2 c3 c4 c5 c6;rw[hw1,hp2]at d0 d1 d2 d3 d4 d5 d6
 clear h1 h2 H0 hb0 hb1 hb2 hb3 hb4 hb5 hb6;go_enter Tryz.func199,Tryz.ntmps199
 go_wp2_with fail
 rw[<-hw1, <-hp2, <-hp1];clear hw1 hp1 hp2 c0 c1 c2 c3 c4 c5 c6 d0 d1 d2 d3 d4 d5 d6;refine (K0.out _ (by have:=H.out.below;rwa[HP.out]at this)).mono ?_;rintro e w2 ⟨rfl,hb⟩;replace H:=hd_ (H.out.later hb);clear hb K0;rcases b0 with _|_
 case false=>
  obtain⟨c0,c1,c2,c3,c4,c5,c6⟩:=H.out.p1.cells7;obtain⟨d0,d1,d2,d3,d4,d5,d6⟩:=H.out.cells7;go_wp2;go_ret;exact⟨by rw[SS.out];rfl,by have:=H.out.below;rwa[HP.out]at this⟩
 obtain⟨c0,c1,c2,c3,c4,c5,c6⟩:=H.out.p1.cells7;obtain⟨d0,d1,d2,d3,d4,d5,d6⟩:=H.out.cells7
 go_wp2_with fail
 clear c0 c1 c2 c3 c4 c5 c6 d0 d1 d2 d3 d4 d5 d6;refine (K1.out _ (by have:=H.out.below;rwa[HP.out]at this)).mono ?_;rintro e w2 ⟨rfl,hb⟩;replace H:=hd_ (H.out.later hb);clear hb K1;rcases b1 with _|_
 case false=>
  obtain⟨c0,c1,c2,c3,c4,c5,c6⟩:=H.out.p1.cells7;obtain⟨d0,d1,d2,d3,d4,d5,d6⟩:=H.out.cells7;go_wp2;go_ret;exact⟨by rw[SS.out];rfl,by have:=H.out.below;rwa[HP.out]at this⟩
 obtain⟨c0,c1,c2,c3,c4,c5,c6⟩:=H.out.p1.cells7;obtain⟨d0,d1,d2,d3,d4,d5,d6⟩:=H.out.cells7
 go_wp2_with fail
 clear c0 c1 c2 c3 c4 c5 c6 d0 d1 d2 d3 d4 d5 d6;refine (K2.out _ (by have:=H.out.below;rwa[HP.out]at this)).mono ?_;rintro e w2 ⟨rfl,hb⟩;replace H:=hd_ (H.out.later hb);clear hb K2;rcases b2 with _|_
 case false=>
  obtain⟨c0,c1,c2,c3,c4,c5,c6⟩:=H.out.p1.cells7;obtain⟨d0,d1,d2,d3,d4,d5,d6⟩:=H.out.cells7;go_wp2;go_ret;exact⟨by rw[SS.out];rfl,by have:=H.out.below;rwa[HP.out]at this⟩
 obtain⟨c0,c1,c2,c3,c4,c5,c6⟩:=H.out.p1.cells7;obtain⟨d0,d1,d2,d3,d4,d5,d6⟩:=H.out.cells7;rcases b3 with _|_
 case false=>
  go_wp2;go_ret;exact⟨by rw[SS.out];rfl,by have:=H.out.below;rwa[HP.out]at this⟩
 rcases b4 with _|_
 case false=>
  go_wp2;go_ret;exact⟨by rw[SS.out];rfl,by have:=H.out.below;rwa[HP.out]at this⟩
 go_wp2_with fail
 clear c0 c1 c2 c3 c4 c5 c6 d0 d1 d2 d3 d4 d5 d6;refine (K5.out _ (by have:=H.out.below;rwa[HP.out]at this)).mono ?_;rintro e w2 ⟨rfl,hb⟩;replace H:=hd_ (H.out.later hb);clear hb K5;rcases b5 with _|_
 case false=>
  obtain⟨c0,c1,c2,c3,c4,c5,c6⟩:=H.out.p1.cells7;obtain⟨d0,d1,d2,d3,d4,d5,d6⟩:=H.out.cells7;go_wp2;go_ret;exact⟨by rw[SS.out];rfl,by have:=H.out.below;rwa[HP.out]at this⟩
 obtain⟨c0,c1,c2,c3,c4,c5,c6⟩:=H.out.p1.cells7;obtain⟨d0,d1,d2,d3,d4,d5,d6⟩:=H.out.cells7;rcases b6 with _|_
 case false=>
  go_wp2;go_ret;exact⟨by rw[SS.out];rfl,by have:=H.out.below;rwa[HP.out]at this⟩
 go_wp2;go_ret;exact⟨by rw[SS.out];rfl,by have:=H.out.below;rwa[HP.out]at this⟩
end N
end Go.Proofs.YtcblbdpdbggkbaaGreat
set_option linter.unusedVariables false
set_option linter.unusedSectionVars false
set_option linter.unusedSimpArgs false
namespace Go.Proofs.YtcblbdpdbggkbaaGreat
open Go.RowKit Go.Sort
namespace N
theorem imEntryOf_at (w:World) {xk:Option Addr} {k ck:Nat} {es:List En} {f:List Nat} (h:knownR TY w [.slice xk k ck] es f) (i:Int):
  Calls Tryz.prog 155 #[.slice xk k ck,.int .i64 i] w fun r w'=>(∃u,r=.returned u/\((∃e V,findE es i=some e/\RdS w V e.s/\u=entV V e)\/(findE es i=none/\u=noEntV)))/\Below w.heap.size w w':=by
 obtain rfl:k=es.length:=(slcR_row h).1;obtain⟨_,_,e1,q1,q2⟩:=slcR_value h;have hm:es.length<=maxLen:=Nat.le_trans q1 q2;unfold maxLen at hm;clear e1 q1 q2;have H1:=hd_ h;clear h;have H0:=hd_ ((M.start w).alloc #[.int .i64 0,.int .i64 0,.int .i64 0,.slice none 0 0,.slice none 0 0,.slice none 0 0,.int .i64 0,.int .i64 0,.slice none 0 0,.int .i64 0] 64);go_enter Tryz.func155,Tryz.ntmps155;go_wp2
 obtain⟨p1,hp1⟩:∃p,p=w.heap.size:=⟨_,rfl⟩
 have HP:=hd_ hp1;rw[<-hp1]at H0;rw[<-hp1];clear hp1;generalize (w.alloc (.cells #[.int .i64 0,.int .i64 0,.int .i64 0,.slice none 0 0,.slice none 0 0,.slice none 0 0,.int .i64 0,.int .i64 0,.slice none 0 0,.int .i64 0] 64))=w1 at H0 ⊢
 go_loopw [9] (fun z wr=>∃j:Nat,j<=es.length/\z=.int .i64 j/\(∀(a:Nat) (x:En),a<j->es[a]? =some x->x.node≠i)/\M p1 w wr [boxC p1 64 #[.int .i64 0,.int .i64 0,.int .i64 0,.slice none 0 0,.slice none 0 0,.slice none 0 0,.int .i64 0,.int .i64 0,.slice none 0 0,.int .i64 0]]) (fun z _=>es.length - (intOf z).toNat)
 case atStart=>exact⟨0,Nat.zero_le _,rfl,fun a x h=>absurd h (Nat.not_lt_zero _),H0.out⟩
 case round=>
  clear H0;obtain⟨j,hj,rfl,hno,hm'⟩:=hrel;have NO:=hd_ hno;have H:=hd_ hm';clear hno hm';have hWB:=H.out.below;rw[HP.out]at hWB;obtain⟨d0,d1,d2,d3,d4,d5,d6,d7,d8,d9⟩:=H.out.cells10
  by_cases hlt:j<es.length
  ·obtain⟨x,hx⟩:∃x,es[j]? =some x:=⟨_,List.getElem?_eq_getElem hlt⟩
   obtain⟨g,V,fe,rfl,_,_,sr,ca0,ca1,ca2,cas⟩:=known_at H1.out hx;have RV:=hd_ (rds_of sr);replace ca0:=cell_later hWB ca0;replace ca1:=cell_later hWB ca1;replace ca2:=cell_later hWB ca2;have ca3:=cell_later hWB (cas 0 _ rfl);have ca4:=cell_later hWB (cas 1 _ rfl);have ca5:=cell_later hWB (cas 2 _ rfl);have ca6:=cell_later hWB (cas 3 _ rfl);have ca7:=cell_later hWB (cas 4 _ rfl)
   have ca8:=cell_later hWB (cas 5 _ rfl);have ca9:=cell_later hWB (cas 6 _ rfl);clear cas hWB sr;have k0:(0:Int)<=(j:Int):=by omega
   have k1:(j:Int)<(es.length:Int):=by omega
   have h2:=H.out.alloc #[.int .i64 x.node,.int .i64 x.born,.int .i64 x.num,.slice V.xr V.nr V.cr,.slice V.xf V.nf V.cf,.slice V.xt V.nt V.ct,.int .i64 (x.s).lo,.int .i64 (x.s).al,.slice V.xk V.nk V.ck,.int .i64 (x.s).ka] 64
   by_cases eq:x.node=i
   ·have g0:(x.node==i)=true:=by simpa using eq
    have F:=hd_ (find_at NO.out hx eq);have ef:=h2.p1.free;have N:=hd_ (h2.p1.set10 (.int .i64 x.node) (.int .i64 x.born) (.int .i64 x.num) (.slice V.xr V.nr V.cr) (.slice V.xf V.nf V.cf) (.slice V.xt V.nt V.ct) (.int .i64 x.s.lo) (.int .i64 x.s.al) (.slice V.xk V.nk V.ck) (.int .i64 x.s.ka));obtain⟨y0,y1,y2,y3,y4,y5,y6,y7,y8,y9⟩:=h2.cells10;obtain⟨z0,z1,z2,z3,z4,z5,z6,z7,z8,z9⟩:=h2.p1.cells10
    clear eq NO hx h2;go_wp2;obtain⟨e0,e1,e2,e3,e4,e5,e6,e7,e8,e9⟩:=N.out.cells10;exact bodyPost_ret (v:=entV V x) (by simp[results,Tryz.results155,go_sem,e0,e1,e2,e3,e4,e5,e6,e7,e8,e9]) rfl ⟨⟨_,rfl,.inl ⟨x,V,F.out,RV.out,rfl⟩⟩,by rw[<-HP.out];exact N.out.below⟩
   ·have g0:(x.node==i)=false:=by simpa using eq
    have NO2:Hid (∀(a:Nat) (y:En),a<j+1->es[a]? =some y->y.node≠i):=hd_ fun a y ha hy=>by
     by_cases q:a<j
     ·exact NO.out a y q hy
     ·obtain rfl:a=j:=by omega
      rw[hx]at hy;cases hy;exact eq
    have H2:=hd_ h2.p1;obtain⟨y0,y1,y2,y3,y4,y5,y6,y7,y8,y9⟩:=h2.cells10;clear eq NO hx h2;go_wp2;go_roundw
    case rel=>exact⟨j+1,by omega,by go_num,NO2.out,H2.out.p1.drop⟩
    case measure=>simp[intOf];omega
  ·have F:=hd_ (find_no (es:=es) (i:=i) fun a x hx=>NO.out a x (by have:=(List.getElem?_eq_some_iff.1 hx).1;omega) hx)
   have ef:=H.out.free;have N:=hd_ (H.out.set10 (.int .i64 0) (.int .i64 0) (.int .i64 0) (.slice Option.none 0 0) (.slice Option.none 0 0) (.slice Option.none 0 0) (.int .i64 0) (.int .i64 0) (.slice Option.none 0 0) (.int .i64 0));have g:decide (j<es.length)=false:=by simpa using hlt
   clear NO hWB;go_wp2;obtain⟨e0,e1,e2,e3,e4,e5,e6,e7,e8,e9⟩:=N.out.cells10;exact bodyPost_ret (v:=noEntV) (by simp[results,Tryz.results155,go_sem,e0,e1,e2,e3,e4,e5,e6,e7,e8,e9]) rfl ⟨⟨_,rfl,.inr ⟨F.out,rfl⟩⟩,by rw[<-HP.out];exact N.out.below⟩
end N
end Go.Proofs.YtcblbdpdbggkbaaGreat
set_option linter.unusedVariables false
set_option linter.unusedSectionVars false
set_option linter.unusedSimpArgs false
namespace Go.Proofs.YtcblbdpdbggkbaaGreat
open Go.RowKit Go.Sort
namespace N
theorem isNode_is {a:Int} {b:Bool} (h:b=in6 a 0 4) (w:World):Calls Tryz.prog 95 #[.int .i64 a] w fun e w'=>e=.returned (.bool b)/\w'=w:=by
 cases b with
 |true=>exact (isNode_yes w a h.symm).mono fun e w' ⟨h1,h2⟩=>⟨h1,h2.symm⟩
 |false=>exact (isNode_no w a h.symm).mono fun e w' ⟨h1,h2⟩=>⟨h1,h2.symm⟩
def wasB (n:Nt) (e:En):Bool:=in6 e.node 0 4&&(in6 e.born 1 (nodeAt n e.node).born&&in6 e.num 0 (pastAt n e.node e.born).length)
theorem imWas_at (w:World) {x1 x4:Option Addr} {k1 c1 k4 c4:Nat} {v2 v3:Value} {n:Nt} (V:SV) (e:En) (hn:NetRd w (.slice x1 k1 c1) v2 v3 (.slice x4 k4 c4) n) (hs:Shape n):
  Calls Tryz.prog 103 #[.agg #[.slice x1 k1 c1,v2,v3,.slice x4 k4 c4],entV V e] w fun r w'=>r=.returned (.bool (wasB n e))/\Below w.heap.size w w':=by
 obtain⟨f1,n1⟩:=hn.nodes;obtain⟨f4,n4⟩:=hn.past;obtain rfl:k1=5:=(slcR_row n1).1.trans hs.nodes;obtain rfl:k4=5:=(slcR_row n4).1.trans hs.past;obtain⟨node,born,num,s⟩:=e;have WB:Hid (wasB n ⟨node,born,num,s⟩=(in6 node 0 4&&(in6 born 1 (nodeAt n node).born&&in6 num 0 (pastAt n node born).length))):=hd_ rfl
 have H0:=((M.start w).alloc #[.slice x1 5 c1,v2,v3,.slice x4 5 c4] 30).alloc #[.int .i64 node,.int .i64 born,.int .i64 num,.slice V.xr V.nr V.cr,.slice V.xf V.nf V.cf,.slice V.xt V.nt V.ct,.int .i64 s.lo,.int .i64 s.al,.slice V.xk V.nk V.ck,.int .i64 s.ka] 64;simp only[World.size_alloc]at H0
 obtain⟨w1,hw1⟩:∃W,W=((w.alloc (.cells #[.slice x1 5 c1,v2,v3,.slice x4 5 c4] 30)).alloc (.cells #[.int .i64 node,.int .i64 born,.int .i64 num,.slice V.xr V.nr V.cr,.slice V.xf V.nf V.cf,.slice V.xt V.nt V.ct,.int .i64 s.lo,.int .i64 s.al,.slice V.xk V.nk V.ck,.int .i64 s.ka] 64)):=⟨_,rfl⟩
 obtain⟨p1,hp1⟩:∃p,p=w.heap.size:=⟨_,rfl⟩
 obtain⟨p2,hp2⟩:∃p,p=w.heap.size+1:=⟨_,rfl⟩
 rw[<-hw1, <-hp2, <-hp1]at H0;have HP:=hd_ hp1;have HS:=hd_ hs;have H1:=H0.drew;obtain⟨W,hW⟩:∃W,W=w1.drew:=⟨_,rfl⟩
 rw[<-hW]at H1;have EW:=hd_ hW;have H:=hd_ H1;have hWB:Below w.heap.size w W:=by have:=H1.below;rwa[hp1]at this
 obtain⟨d0,d1,d2,d3,d4,d5,d6,d7,d8,d9⟩:=H1.cells10;obtain⟨a0,a1,a2,a3⟩:=H1.p1.cells4;clear H0 H1 hW hs hn;go_enter Tryz.func103,Tryz.ntmps103;go_wp2;rw[<-hw1, <-hp2, <-hp1];clear hw1 hp1 hp2;obtain⟨b1,hb1⟩:∃b,b=in6 node 0 4:=⟨_,rfl⟩
 rw[<-hb1]at WB;have K1:=hd_ (isNode_is hb1);cases b1 with
 |false=>
  clear hb1;refine wp_region_plan 99 (.tk 0 2 (.alt 2 (.tk 3 18 .done) .nomore)) (fun w'=>Cells w' (b4L p1 (.slice x1 5 c1) v2 v3 (.slice x4 5 c4)++b10L p2 node born num V s)) (by kernel_rfl) (by kernel_rfl) (fun _ _ _ _ _ h=>h) (by rw[<-EW.out];exact⟨a0,a1,a2,a3,d0,d1,d2,d3,d4,d5,d6,d7,d8,d9,trivial⟩) ?_;rw[<-EW.out]
  repeat ((first|(refine plan_take (by rfl) (by rfl) ?_;apply Exists.intro;refine⟨fun w' hw'=>?_,?_⟩;(· ((try simp only[Cells,Cells_app,b4L,b5L,b6L,b7L,b10L,N.entL,and_true]at hw');go_simp;(try with_reducible rfl))))|(refine plan_skip (by rfl) (by rfl) ?_));simp only[Act.put,List.getElem_toArray,List.getElem_cons_succ,pg3,pg4,pg5,pg6])
  refine plan_last (by rfl) (fun K' hK=>?_);go_simp;refine (K1.out W).mono ?_;rintro e' w' ⟨rfl,hw'⟩;rw[hw'];clear hw' w';refine hK _ _ (.inr ⟨a0,a1,a2,a3,d0,d1,d2,d3,d4,d5,d6,d7,d8,d9,trivial⟩) ?_;clear hK K'
  try simp only[Act.put,List.getElem_toArray,List.getElem_cons_succ,pg3,pg4,pg5,pg6]
  repeat ((first|(refine plan_take (by rfl) (by rfl) ?_;apply Exists.intro;refine⟨fun w' hw'=>?_,?_⟩;(· ((try simp only[Cells,Cells_app,b4L,b5L,b6L,b7L,b10L,N.entL,and_true]at hw');go_simp;(try with_reducible rfl))))|(refine plan_skip (by rfl) (by rfl) ?_));simp only[Act.put,List.getElem_toArray,List.getElem_cons_succ,pg3,pg4,pg5,pg6])
  refine plan_done ?_;go_wp2;go_ret;exact⟨by rw[WB.out];rfl,by have:=H.out.below;rwa[HP.out]at this⟩
 |true=>
  obtain⟨iA,iB⟩:=in6_iff.1 hb1.symm;obtain⟨i,rfl⟩:∃i:Nat,node=i:=⟨node.toNat,by omega⟩
  have i5:i<5:=by omega
  obtain⟨nd,hnd⟩:∃nd,n.nodes[i]? =some nd:=⟨_,List.getElem?_eq_getElem (by rw[HS.out.nodes];exact i5)⟩
  obtain⟨rs,hrs⟩:∃rs,n.past[i]? =some rs:=⟨_,List.getElem?_eq_getElem (by rw[HS.out.past];exact i5)⟩
  have eN:nodeAt n (i:Int)=nd:=by unfold nodeAt;rw[List.getD_eq_getElem?_getD,Int.toNat_natCast,hnd];rfl
  have eR:rowsAt n (i:Int)=rs:=by unfold rowsAt;rw[List.getD_eq_getElem?_getD,Int.toNat_natCast,hrs];rfl
  have eL:=HS.out.rows i i5;rw[eN,eR]at eL;rw[eN]at WB;obtain⟨g1,xk,ck,fk,rfl,_,_,_,_,_,b0,_⟩:=node_at n1 hnd;obtain⟨g4,xr,cr,fr,rfl,_,_,rr,_,_,y0⟩:=past_at n4 hrs;replace b0:=cell_later hWB b0;replace y0:=cell_later hWB y0;have ER:=hd_ eR;have EL:=hd_ eL;clear hb1 iA iB hnd hrs eN eR eL n1 n4;have i0:(0:Int)<=(i:Int):=by omega
  have i5':(i:Int)<5:=by omega
  have bad:∀(hf:in6 born 1 nd.born=false),wasB n ⟨(i:Int),born,num,s⟩=false:=fun hf=>by rw[WB.out,hf];rfl
  have BAD:=hd_ bad;clear bad;have C0:Hid (Cells W (b4L p1 (.slice (some ⟨g1,0,none⟩) 5 c1) v2 v3 (.slice (some ⟨g4,0,none⟩) 5 c4)++(b10L p2 (i:Int) born num V s++[(⟨g1,i * 5,none⟩,.int .i64 nd.born),(⟨g4,i,none⟩,.slice xr rs.length cr)]))):=hd_ ⟨a0,a1,a2,a3,d0,d1,d2,d3,d4,d5,d6,d7,d8,d9,b0,y0,trivial⟩;clear a0 a1 a2 a3 d0 d1 d2 d3 d4 d5 d6 d7 d8 d9 b0 y0
  obtain⟨q1,hq1⟩:∃b,b=decide (born<1):=⟨_,rfl⟩
  obtain⟨q2,hq2⟩:∃b,b=decide (nd.born<born):=⟨_,rfl⟩
  have g1':=hq1.symm;have g2':=hq2.symm;have Q1:=hd_ hq1;have Q2:=hd_ hq2;clear hq1 hq2;rcases q1 with _|_
  case true=>
   have F:=hd_ (BAD.out (decide_eq_false (by have:=of_decide_eq_true Q1.out.symm;omega)))
   refine wp_region_plan 99 (.tk 0 2 (.alt 2 (.tk 3 18 .done) .nomore)) (fun w'=>Cells w' (b4L p1 (.slice (some ⟨g1,0,none⟩) 5 c1) v2 v3 (.slice (some ⟨g4,0,none⟩) 5 c4)++(b10L p2 (i:Int) born num V s++[(⟨g1,i * 5,none⟩,.int .i64 nd.born),(⟨g4,i,none⟩,.slice xr rs.length cr)]))) (by kernel_rfl) (by kernel_rfl) (fun _ _ _ _ _ h=>h) (by rw[<-EW.out];exact C0.out) ?_;rw[<-EW.out]
   repeat ((first|(refine plan_take (by rfl) (by rfl) ?_;apply Exists.intro;refine⟨fun w' hw'=>?_,?_⟩;(· ((try simp only[Cells,Cells_app,b4L,b5L,b6L,b7L,b10L,N.entL,and_true]at hw');go_simp;(try with_reducible rfl))))|(refine plan_skip (by rfl) (by rfl) ?_));simp only[Act.put,List.getElem_toArray,List.getElem_cons_succ,pg3,pg4,pg5,pg6])
   refine plan_last (by rfl) (fun K' hK=>?_);go_simp;refine (K1.out W).mono ?_;rintro e' w' ⟨rfl,hw'⟩;rw[hw'];clear hw' w';refine hK _ _ (.inr C0.out) ?_;clear hK K'
   try simp only[Act.put,List.getElem_toArray,List.getElem_cons_succ,pg3,pg4,pg5,pg6]
   repeat ((first|(refine plan_take (by rfl) (by rfl) ?_;apply Exists.intro;refine⟨fun w' hw'=>?_,?_⟩;(· ((try simp only[Cells,Cells_app,b4L,b5L,b6L,b7L,b10L,N.entL,and_true]at hw');go_simp;(try with_reducible rfl))))|(refine plan_skip (by rfl) (by rfl) ?_));simp only[Act.put,List.getElem_toArray,List.getElem_cons_succ,pg3,pg4,pg5,pg6])
   refine plan_done ?_;go_wp2;go_ret;exact⟨by rw[F.out];rfl,by have:=H.out.below;rwa[HP.out]at this⟩
  have R1:=hd_ (fun (F:Prop) (h1:(born<1)->F)=>h1)
  refine wp_region_plan 99 (.tk 0 2 (.alt 2 (.tk 3 18 .done) .nomore)) (fun w'=>Cells w' (b4L p1 (.slice (some ⟨g1,0,none⟩) 5 c1) v2 v3 (.slice (some ⟨g4,0,none⟩) 5 c4)++(b10L p2 (i:Int) born num V s++[(⟨g1,i * 5,none⟩,.int .i64 nd.born),(⟨g4,i,none⟩,.slice xr rs.length cr)]))) (by kernel_rfl) (by kernel_rfl) (fun _ _ _ _ _ h=>h) (by rw[<-EW.out];exact C0.out) ?_;rw[<-EW.out]
  repeat ((first|(refine plan_take (by rfl) (by rfl) ?_;apply Exists.intro;refine⟨fun w' hw'=>?_,?_⟩;(· ((try simp only[Cells,Cells_app,b4L,b5L,b6L,b7L,b10L,N.entL,and_true]at hw');go_simp;(try with_reducible rfl))))|(refine plan_skip (by rfl) (by rfl) ?_));simp only[Act.put,List.getElem_toArray,List.getElem_cons_succ,pg3,pg4,pg5,pg6])
  refine plan_last (by rfl) (fun K' hK=>?_);go_simp;refine (K1.out W).mono ?_;rintro e' w' ⟨rfl,hw'⟩;rw[hw'];clear hw' w';refine hK _ _ (.inr C0.out) ?_;clear hK K'
  try simp only[Act.put,List.getElem_toArray,List.getElem_cons_succ,pg3,pg4,pg5,pg6]
  repeat ((first|(refine plan_take (by rfl) (by rfl) ?_;apply Exists.intro;refine⟨fun w' hw'=>?_,?_⟩;(· ((try simp only[Cells,Cells_app,b4L,b5L,b6L,b7L,b10L,N.entL,and_true]at hw');go_simp;(try with_reducible rfl))))|(refine plan_skip (by rfl) (by rfl) ?_));simp only[Act.put,List.getElem_toArray,List.getElem_cons_succ,pg3,pg4,pg5,pg6])
  refine plan_done ?_;rcases q2 with _|_
  case true=>
   have F:=hd_ (BAD.out (decide_eq_false (by have:=of_decide_eq_true Q2.out.symm;omega)));go_wp2;go_ret;exact⟨by rw[F.out];rfl,by have:=H.out.below;rwa[HP.out]at this⟩
  have o1:=of_decide_eq_false Q1.out.symm;have o2:=of_decide_eq_false Q2.out.symm;obtain⟨j,rfl⟩:∃j:Nat,born=j:=⟨born.toNat,by omega⟩
  have jr:j<rs.length:=by have:=EL.out;omega
  obtain⟨lp,hlp⟩:∃lp,rs[j]? =some lp:=⟨_,List.getElem?_eq_getElem jr⟩
  have EP:Hid (pastAt n (i:Int) (j:Int)=lp):=hd_ (by unfold pastAt;rw[ER.out,List.getD_eq_getElem?_getD,Int.toNat_natCast,hlp];rfl);obtain⟨g5,xl,cl,fl,rfl,_,_,_,lc,lm,y1⟩:=row_at rr hlp;replace y1:=cell_later hWB y1;have WB2:Hid (wasB n ⟨(i:Int),(j:Int),num,s⟩=in6 num 0 (lp.length:Int)):=hd_ (by rw[WB.out,EP.out,show in6 (j:Int) 1 nd.born=true from decide_eq_true (by omega)];rfl)
  have j0:(0:Int)<=(j:Int):=by omega
  have j1:(j:Int)<(rs.length:Int):=by omega
  have C1:=hd_ (show Cells W.drew (b4L p1 (.slice (some ⟨g1,0,none⟩) 5 c1) v2 v3 (.slice (some ⟨g4,0,none⟩) 5 c4)++(b10L p2 (i:Int) (j:Int) num V s++[(⟨g4,i,none⟩,.slice (some ⟨g5,0,none⟩) rs.length cr),(⟨g5,j,none⟩,.slice xl lp.length cl)])) by
      refine Cells.below (W:=W) ?_ (Below.drew (Below.refl _ _))
      obtain⟨c0,c1,c2,c3,e0,e1,e2,e3,e4,e5,e6,e7,e8,e9,_,t0,_⟩:=C0.out
      exact⟨c0,c1,c2,c3,e0,e1,e2,e3,e4,e5,e6,e7,e8,e9,t0,y1,trivial⟩)
  clear o1 o2 hlp rr lc lm y1 jr C0 BAD WB Q1 Q2 K1;obtain⟨q3,hq3⟩:∃b,b=decide (0<=num):=⟨_,rfl⟩
  obtain⟨q4,hq4⟩:∃b,b=decide (num<=(lp.length:Int)):=⟨_,rfl⟩
  have WB3:Hid (wasB n ⟨(i:Int),(j:Int),num,s⟩=(q3&&q4)):=hd_ (by
      rw[WB2.out,hq3,hq4]
      unfold in6
      by_cases x:0<=num<;>by_cases y:num<=(lp.length:Int)<;>simp[x,y])
  have g3':=hq3.symm;have g4':=hq4.symm;clear hq3 hq4 WB2;have H2:=hd_ H.out.drew;rcases q3 with _|_
  all_goals
   go_wp2;refine wp_region_plan 99 (.tk 0 19 (.alt 19 .done .nomore)) (fun w'=>Cells w' (b4L p1 (.slice (some ⟨g1,0,none⟩) 5 c1) v2 v3 (.slice (some ⟨g4,0,none⟩) 5 c4)++(b10L p2 (i:Int) (j:Int) num V s++[(⟨g4,i,none⟩,.slice (some ⟨g5,0,none⟩) rs.length cr),(⟨g5,j,none⟩,.slice xl lp.length cl)]))) (by kernel_rfl) (by kernel_rfl) (fun _ _ _ _ _ h=>h) C1.out ?_
   repeat ((first|(refine plan_take (by rfl) (by rfl) ?_;apply Exists.intro;refine⟨fun w' hw'=>?_,?_⟩;(· ((try simp only[Cells,Cells_app,b4L,b5L,b6L,b7L,b10L,N.entL,and_true]at hw');go_simp;(try with_reducible rfl))))|(refine plan_skip (by rfl) (by rfl) ?_));simp only[Act.put,List.getElem_toArray,List.getElem_cons_succ,pg3,pg4,pg5,pg6])
   refine plan_last (by rfl) (fun K' hK=>?_);go_simp;refine hK _ _ (.inr C1.out) ?_;clear hK K';refine plan_done ?_;go_wp2;go_ret;exact⟨by rw[WB3.out];rfl,by have:=H2.out.below;rwa[HP.out]at this⟩
end N
end Go.Proofs.YtcblbdpdbggkbaaGreat
set_option linter.unusedVariables false
set_option linter.unusedSectionVars false
set_option linter.unusedSimpArgs false
namespace Go.Proofs.YtcblbdpdbggkbaaGreat
open Go.RowKit Go.Sort Go.Deep
def putA:Array Value->Nat->List Value->Array Value
 |xs,_,[]=>xs
 |xs,o,v::r=>putA (xs.setIfInBounds o v) (o+1) r
section
variable {w w0:World} {B b:Nat} {l:List Ch} {t:TypeId} {xs:Array Value}
theorem M.setCells:∀(vs:List Value) {xs:Array Value} {o:Nat} {w:World},M B w0 w (boxC b t xs::l)->M B w0 (w.setCells b o vs) (boxC b t (putA xs o vs)::l)
 | [],_,_,_,h=>h
 |v::r,_,_,_,h=>M.setCells r (h.set v)
theorem M.there (h:M B w0 w (boxC b t xs::l)) {o n:Nat} (hl:o+n<=xs.size):w.there b o n:=fun j hj=>
 ⟨by rw[h.cell (i:=o+j) (Array.getElem?_eq_getElem (by omega))];rfl,h.free _⟩
section
variable {P:Program} {op:Oper} {a:Act} {K:Act->World->Prop} {Q:Exit->Act->World->Prop} {ty:TypeId} {x y:Operand} {o:Nat} {vs:List Value} {ys:Array Value}
theorem wp_mstore (h:M B w0 w (boxC b t xs::l)) (ho:op.op=.store ty x y) (hx:a.eval x=.pointer (some ⟨b,o,none⟩)) (hy:a.eval y=.agg vs.toArray) (hi:(P.info? ty).map (·.size)=some vs.length) (h1:(vs.all (·.oneCell'))=true) (hl:o+vs.length<=xs.size) (he:putA xs o vs=ys)
  (k:∀w',M B w0 w' (boxC b t ys::l)->K (a.put op.dst undef) w'):op.wp P a w K Q:=
 wp_store_mid ty x y ho b o vs.toArray hx hy (by rw[List.size_toArray];exact h.there hl) (by rw[List.size_toArray];exact hi) (by rw[List.all_toArray];exact h1) (k _ (by rw[<-he];exact h.setCells vs))
theorem wpList_mstore {ops:Array Oper} {rest:List Oper} (h:M B w0 w (boxC b t xs::l)) (hgd:op.guard=none) (ho:op.op=.store ty x y) (hx:a.eval x=.pointer (some ⟨b,o,none⟩)) (hy:a.eval y=.agg vs.toArray) (hi:(P.info? ty).map (·.size)=some vs.length) (h1:(vs.all (·.oneCell'))=true) (hl:o+vs.length<=xs.size) (he:putA xs o vs=ys)
  (k:∀w',M B w0 w' (boxC b t ys::l)->wpList P ops Q rest (a.put op.dst undef) w'):wpList P ops Q (op::rest) a w:=
 wpList_plain hgd fun _ hK=>wp_mstore h ho hx hy hi h1 hl he fun w' h'=>hK _ _ (k w' h')
theorem step_mstore {ops:Array Oper} {E:Prop} (h:M B w0 w (boxC b t xs::l)) (hgd:op.guard=none) (ho:op.op=.store ty x y) (hx:a.eval x=.pointer (some ⟨b,o,none⟩)) (hy:a.eval y=.agg vs.toArray) (hi:(P.info? ty).map (·.size)=some vs.length) (h1:(vs.all (·.oneCell'))=true) (hl:o+vs.length<=xs.size) (he:putA xs o vs=ys)
  (k:∀w',M B w0 w' (boxC b t ys::l)->K (a.put op.dst undef) w'):if Region.wanted op (yielded ops a.tmps)=true then Oper.wp P op a w K Q else E:=by
 rw[if_pos (by simp[Region.wanted,hgd])];exact wp_mstore h ho hx hy hi h1 hl he k
end
section
variable {α:Type} {A:Rep α} {FA:A.Frame} {e:TypeId} {size i g n cap:Nat} {zs:List α}
variable {P:Program} {op:Oper} {a:Act} {K:Act->World->Prop} {Q:Exit->Act->World->Prop} {ty:TypeId} {x y:Operand} {o j:Nat} {vs ci ci':List Value}
end
end
namespace N
theorem sumI:(Tryz.prog.info? 46).map (·.size)=some 7:=by kernel_rfl
theorem entI:(Tryz.prog.info? 64).map (·.size)=some 10:=by kernel_rfl
end N
end Go.Proofs.YtcblbdpdbggkbaaGreat
set_option linter.unusedVariables false
set_option linter.unusedSectionVars false
set_option linter.unusedSimpArgs false
namespace Go.Proofs.YtcblbdpdbggkbaaGreat
open Go.RowKit Go.Sort Go.ChangeMaps
namespace N
def moV (k:Int × Int × Int):Value:=.agg #[.int .i64 k.1,.int .i64 k.2.1,.int .i64 k.2.2]
def In63 (x:Int):Prop:= -9223372036854775808<=x/\x<9223372036854775808
def MoOk (k:Int × Int × Int):Prop:=In63 k.1/\In63 k.2.1/\In63 k.2.2
theorem moT:KeyT Tryz.prog 234 MoOk moV:=by
 refine⟨Go.Maps.Keyed.of_law (deep_law_gate (by kernel_rfl) (by decide+kernel) (by decide+kernel) (by kernel_rfl) (by kernel_rfl)),fun k hk=>?_,fun x y h=>?_⟩
 ·obtain⟨⟨a0,a1⟩,⟨b0,b1⟩,c0,c1'⟩:=hk
  have c3:Tryz.prog.cellsOf 234=3:=by kernel_rfl
  have c1:Tryz.prog.cellsOf 3=1:=by kernel_rfl
  have ht:Tryz.prog.keyType 234=true:=by kernel_rfl
  have hn:1<=Tryz.prog.types.size:=by decide+kernel
  obtain⟨d,hd⟩:∃d,Tryz.prog.types.size+1=d+2:=⟨Tryz.prog.types.size - 1,by omega⟩
  have w1:(Lit.int .i64 k.1).wf=true:=by simp[Lit.wf,IntKind.min,IntKind.max,IntKind.bits,IntKind.signed];omega
  have w2:(Lit.int .i64 k.2.1).wf=true:=by simp[Lit.wf,IntKind.min,IntKind.max,IntKind.bits,IntKind.signed];omega
  have w3:(Lit.int .i64 k.2.2).wf=true:=by simp[Lit.wf,IntKind.min,IntKind.max,IntKind.bits,IntKind.signed];omega
  refine⟨.string (keyBytes [.int .i64 k.1,.int .i64 k.2.1,.int .i64 k.2.2]),?_⟩;have hl:Tryz.prog.keyLits (d+2) 234 [.int .i64 k.1,.int .i64 k.2.1,.int .i64 k.2.2]=some [.int .i64 k.1,.int .i64 k.2.1,.int .i64 k.2.2]:=by
   simp only[Program.keyLits,Tryz.underlying234,c3];simp[Program.keyLits,c1,Tryz.underlying3,w1,w2,w3]
  have hf:(moV k).formed Tryz.prog 234=true:=by unfold moV Value.formed;simp only[Tryz.underlying234,c3];rfl
  have hc:(moV k).cells.toList=[.int .i64 k.1,.int .i64 k.2.1,.int .i64 k.2.2]:=rfl;simp only[keyOf,Tryz.underlying234,ht,hf,hd,hc,hl,Bool.and_self,if_true,Option.map_some]
 ·unfold moV at h
  injection h with h
  have h':=congrArg Array.toList h;simp at h';exact Prod.ext h'.1 (Prod.ext h'.2.1 h'.2.2)
theorem sum_info:(Tryz.prog.info? 46).map (fun i=>(i.zero,i.size,i.bytes))=some (some (.agg #[.slice none 0 0,.slice none 0 0,.slice none 0 0,.int .i64 0,.int .i64 0,.slice none 0 0,.int .i64 0]),7,120):=by kernel_rfl
theorem sumZ (w:World):(zeroValue 46).run Tryz.prog w=.ok (.agg #[.slice none 0 0,.slice none 0 0,.slice none 0 0,.int .i64 0,.int .i64 0,.slice none 0 0,.int .i64 0]) w:=by
 obtain⟨i,hi,hz,_⟩:=info_parts sum_info;simp[zeroValue,typeInfo,hi,hz]
abbrev sumC (V:SV) (s:Sm):Ch:=sumR_frame.ch [.slice V.xr V.nr V.cr,.slice V.xf V.nf V.cf,.slice V.xt V.nt V.ct,.int .i64 s.lo,.int .i64 s.al,.slice V.xk V.nk V.ck,.int .i64 s.ka] s
def MemoIs (m:Nat) (S:Int × Int × Int->Sm) (g:Int × Int × Int->Option Value) (w:World) (f:List Nat):Prop:=(∀b ∈ f,b<w.heap.size)/\m ∈ f/\MapIs MoOk moV w m g/\∀k v,g k=some v->∃V:SV,∃fp:List Nat,v=.agg #[.slice V.xr V.nr V.cr,.slice V.xf V.nf V.cf,.slice V.xt V.nt V.ct,.int .i64 (S k).lo,.int .i64 (S k).al,.slice V.xk V.nk V.ck,.int .i64 (S k).ka]/\sumR w [.slice V.xr V.nr V.cr,.slice V.xf V.nf V.cf,.slice V.xt V.nt V.ct,.int .i64 (S k).lo,.int .i64 (S k).al,.slice V.xk V.nk V.ck,.int .i64 (S k).ka] (S k) fp/\∀b ∈ fp,b ∈ f/\b≠m
theorem MemoIs.keep {m:Nat} {S:Int × Int × Int->Sm} {g:Int × Int × Int->Option Value} {w w':World} {f:List Nat} (h:MemoIs m S g w f) (hk:∀b ∈ f,w'.heap[b]? =w.heap[b]?) (hs:w.heap.size<=w'.heap.size):MemoIs m S g w' f:=by
 obtain⟨lt,hm,⟨es,c,hb,r⟩,hg⟩:=h;refine⟨fun b hb=>Nat.lt_of_lt_of_le (lt b hb) hs,hm,⟨es,c,(hk m hm).trans hb,r⟩,fun k v hv=>?_⟩;obtain⟨V,fp,e,hr,hf⟩:=hg k v hv;exact⟨V,fp,e,sumR_frame.keep hr (fun b hb=>hk b (hf b hb).1) hs,hf⟩
def memoG (m:Nat) (S:Int × Int × Int->Sm) (g:Int × Int × Int->Option Value):Ch:=⟨fun w f=>MemoIs m S g w f,fun h=>h.1,fun h=>h.keep⟩
def memoC (m:Nat) (S:Int × Int × Int->Sm):Ch:=Ch.ex (memoG m S)
def BesideIs (m:Nat) (V:SV) (s:Sm) (w:World) (f:List Nat):Prop:=∃fp:List Nat,sumR w [.slice V.xr V.nr V.cr,.slice V.xf V.nf V.cf,.slice V.xt V.nt V.ct,.int .i64 s.lo,.int .i64 s.al,.slice V.xk V.nk V.ck,.int .i64 s.ka] s fp/\∀b ∈ fp,b ∈ f/\b≠m
theorem BesideIs.keep {m:Nat} {V:SV} {s:Sm} {w w':World} {f:List Nat} (h:BesideIs m V s w f) (hk:∀b ∈ f,w'.heap[b]? =w.heap[b]?) (hs:w.heap.size<=w'.heap.size):BesideIs m V s w' f:=by
 obtain⟨fp,hr,hf⟩:=h;exact⟨fp,sumR_frame.keep hr (fun b hb=>hk b (hf b hb).1) hs,hf⟩
def memoE (m:Nat) (S:Int × Int × Int->Sm) (V:SV) (s:Sm) (g:Int × Int × Int->Option Value):Ch:=⟨fun w f=>MemoIs m S g w f/\BesideIs m V s w f,fun h=>h.1.1,fun h hk hs=>⟨h.1.keep hk hs,h.2.keep hk hs⟩⟩
def memoV (m:Nat) (S:Int × Int × Int->Sm) (V:SV) (s:Sm):Ch:=Ch.ex (memoE m S V s)
section
variable {B m:Nat} {w w0:World} {l:List Ch} {S:Int × Int × Int->Sm} {k:Int × Int × Int} {V:SV} {s:Sm}
theorem memo_new (h:M B w0 w l) (S:Int × Int × Int->Sm):M B w0 (w.alloc (.map #[] 0)) (memoC w.heap.size S::l):=
 M.in (c:=memoG w.heap.size S) (fun _=>none) ((h.map MoOk moV).to fun f hf nd=>by
    obtain⟨hm,rfl⟩:=hf
    exact⟨_,⟨fun b hb=>by rw[List.mem_singleton.1 hb];simp,List.mem_singleton_self _,hm,fun k v hv=>by cases hv⟩,nd,fun b hb=>hb⟩)
theorem memo_forget (h:M B w0 w (memoV m S V s::l)):M B w0 w (memoC m S::l):=by
 obtain⟨g,h⟩:=M.ex h;exact M.in (c:=memoG m S) g (h.to fun f hf nd=>⟨f,hf.1,nd,fun b hb=>hb⟩)
theorem memo_rd (h:M B w0 w (memoV m S V s::l)):RdS w V s:=by
 obtain⟨g,h⟩:=M.ex h;obtain⟨f,⟨_,fp,hr,_⟩,_⟩:=h.first;exact rds_of hr
theorem memo_put (h:M B w0 w (sumC V s::memoC m S::l)):M B w0 w (memoV m S V s::l):=by
 obtain⟨g,h⟩:=M.ex (M.p1 h);exact M.in (c:=memoE m S V s) g ((M.sep h).to fun f hf nd=>by
    obtain⟨f2,f1,rfl,h2,h1⟩:=hf
    obtain⟨n1,n2,n3⟩:=List.nodup_append.1 nd
    have l1:=sumR_frame.lt h1
    obtain⟨lt,hm,hmap,hg⟩:=h2
    refine⟨f2++f1,⟨⟨fun b hb=>?_,List.mem_append_left _ hm,hmap,fun k v hv=>?_⟩,f1,h1,fun b hb=>⟨List.mem_append_right _ hb,fun e=>n3 m hm b hb e.symm⟩⟩,nd,fun b hb=>hb⟩
    · rcases List.mem_append.1 hb with q|q
      · exact lt b q
      · exact l1 b q
    · obtain⟨V',fp,e,hr,hf⟩:=hg k v hv
      exact⟨V',fp,e,hr,fun b hb=>⟨List.mem_append_left _ (hf b hb).1,(hf b hb).2⟩⟩)
theorem memo_look (h:M B w0 w (memoC m S::l)) (hk:MoOk k):∃(b:Bool) (V:SV) (s:Sm),(Instr.lookup 118 (.map (some m)) (moV k) true).run Tryz.prog w=.ok (.tuple #[.agg #[.slice V.xr V.nr V.cr,.slice V.xf V.nf V.cf,.slice V.xt V.nt V.ct,.int .i64 s.lo,.int .i64 s.al,.slice V.xk V.nk V.ck,.int .i64 s.ka],.bool b]) w/\(b=true->s=S k/\M B w0 w (memoV m S V s::l)):=by
 obtain⟨g,h⟩:=M.ex h;obtain⟨f,hf,_⟩:=h.first;have hr:=hf.2.2.1.look moT Tryz.underlying118 (sumZ w) hk true;cases hgk:g k with
 |none=>
  rw[hgk]at hr;exact⟨false,SV.none,noSm,hr,fun e=>by cases e⟩
 |some v=>
  obtain⟨V,fp,rfl,hs,hfp⟩:=hf.2.2.2 k v hgk;rw[hgk]at hr;refine⟨true,V,S k,hr,fun _=>⟨rfl,M.in (c:=memoE m S V (S k)) g (h.to fun f' hf' nd=>?_)⟩⟩;obtain⟨V',fp',e',hs',hfp'⟩:=hf'.2.2.2 k _ hgk;obtain rfl:V=V':=sv_inj (s:=S k) (by simpa using e');exact⟨f',⟨hf',fp',hs',hfp'⟩,nd,fun b hb=>hb⟩
theorem memo_set (h:M B w0 w (memoV m S V (S k)::l)) (hk:MoOk k):∃w',(Instr.mapUpdate 118 (.map (some m)) (moV k) (.agg #[.slice V.xr V.nr V.cr,.slice V.xf V.nf V.cf,.slice V.xt V.nt V.ct,.int .i64 (S k).lo,.int .i64 (S k).al,.slice V.xk V.nk V.ck,.int .i64 (S k).ka])).run Tryz.prog w=.ok () w'/\M B w0 w' (memoV m S V (S k)::l)/\w'.heap.size=w.heap.size:=by
 obtain⟨g,h⟩:=M.ex h;obtain⟨f0,hf0,_⟩:=h.first;obtain⟨es,c,hr,hm⟩:=hf0.1.2.2.1.store moT Tryz.underlying118 hk (.agg #[.slice V.xr V.nr V.cr,.slice V.xf V.nf V.cf,.slice V.xt V.nt V.ct,.int .i64 (S k).lo,.int .i64 (S k).al,.slice V.xk V.nk V.ck,.int .i64 (S k).ka])
 refine⟨_,hr,M.in (c:=memoE m S V (S k)) (fun y=>if y=k then some (.agg #[.slice V.xr V.nr V.cr,.slice V.xf V.nf V.cf,.slice V.xt V.nt V.ct,.int .i64 (S k).lo,.int .i64 (S k).al,.slice V.xk V.nk V.ck,.int .i64 (S k).ka])else g y) (h.turn fun f hf nd lo=>?_),by simp[setBlock]⟩;obtain⟨⟨lt,hm0,_,hg⟩,fp,hs,hfp⟩:=hf;have sz:(setBlock w m (.map es c)).heap.size=w.heap.size:=by simp[setBlock]
 have other:∀q,q≠m->(setBlock w m (.map es c)).heap[q]? =w.heap[q]? :=fun q hq=>by
  have ne:¬m=q:=fun e=>hq e.symm
  simp[setBlock,Array.getElem?_setIfInBounds,ne]
 have keep:∀{V2:SV} {s2:Sm} {fp':List Nat},sumR w [.slice V2.xr V2.nr V2.cr,.slice V2.xf V2.nf V2.cf,.slice V2.xt V2.nt V2.ct,.int .i64 s2.lo,.int .i64 s2.al,.slice V2.xk V2.nk V2.ck,.int .i64 s2.ka] s2 fp'->(∀b ∈ fp',b ∈ f/\b≠m)->sumR (setBlock w m (.map es c)) [.slice V2.xr V2.nr V2.cr,.slice V2.xf V2.nf V2.cf,.slice V2.xt V2.nt V2.ct,.int .i64 s2.lo,.int .i64 s2.al,.slice V2.xk V2.nk V2.ck,.int .i64 s2.ka] s2 fp':=fun hr' hf'=>sumR_frame.keep hr' (fun b hb=>other b (hf' b hb).2) (Nat.le_of_eq sz.symm)
 refine⟨⟨rfl,rfl,rfl,Nat.le_of_eq sz.symm,fun q _ hq=>other q fun e=>hq (by rw[e];exact hm0)⟩,f,⟨⟨fun b hb=>by rw[sz];exact lt b hb,hm0,hm,fun y v hv=>?_⟩,fp,keep hs hfp,hfp⟩,nd,fun b hb=>.inl hb⟩
 by_cases e:y=k
 ·subst e
  obtain rfl:(.agg #[.slice V.xr V.nr V.cr,.slice V.xf V.nf V.cf,.slice V.xt V.nt V.ct,.int .i64 (S y).lo,.int .i64 (S y).al,.slice V.xk V.nk V.ck,.int .i64 (S y).ka])=v:=by simpa using hv
  exact⟨V,fp,rfl,keep hs hfp,hfp⟩
 ·replace hv:=(if_neg e).symm.trans hv
  obtain⟨V',fp',e1,hr',hf'⟩:=hg y v hv;exact⟨V',fp',e1,keep hr' hf',hf'⟩
theorem wp_memo {K:Act->World->Prop} {o:Oper} {a:Act} {Q:Exit->Act->World->Prop} {mo ko vo:Operand} (h:M B w0 w (memoV m S V s::l)) (hk:MoOk k) (es:s=S k) (hop:o.op=.mapUpdate 118 mo ko vo) {x y:Value}
  (hm:a.eval mo=.map (some m)) (hx:a.eval ko=x) (hy:a.eval vo=y) (ex:x=moV k) (ey:y=.agg #[.slice V.xr V.nr V.cr,.slice V.xf V.nf V.cf,.slice V.xt V.nt V.ct,.int .i64 s.lo,.int .i64 s.al,.slice V.xk V.nk V.ck,.int .i64 s.ka]) (n:∀w',M B w0 w' (memoV m S V s::l)->K (a.put o.dst undef) w'):o.wp Tryz.prog a w K Q:=by
 subst es;obtain⟨w',hr,hM,hs⟩:=memo_set h hk;rw[<-ex, <-ey]at hr;clear ex ey;unfold Oper.wp;simp[execOp,hop,hm,hx,hy,hr,Result.andThen,Oper.upon];exact n w' hM
theorem wpList_memo {ops:Array Oper} {rest:List Oper} {o:Oper} {a:Act} {Q:Exit->Act->World->Prop} {mo ko vo:Operand} (h:M B w0 w (memoV m S V s::l)) (hk:MoOk k) (es:s=S k) (hgd:o.guard=none) (hop:o.op=.mapUpdate 118 mo ko vo) {x y:Value}
  (hm:a.eval mo=.map (some m)) (hx:a.eval ko=x) (hy:a.eval vo=y) (ex:x=moV k) (ey:y=.agg #[.slice V.xr V.nr V.cr,.slice V.xf V.nf V.cf,.slice V.xt V.nt V.ct,.int .i64 s.lo,.int .i64 s.al,.slice V.xk V.nk V.ck,.int .i64 s.ka]) (n:∀w',M B w0 w' (memoV m S V s::l)->wpList Tryz.prog ops Q rest (a.put o.dst undef) w'):wpList Tryz.prog ops Q (o::rest) a w:=
 wpList_plain hgd fun _ hK=>wp_memo h hk es hop hm hx hy ex ey fun w' h1=>hK _ _ (n w' h1)
end
end N
end Go.Proofs.YtcblbdpdbggkbaaGreat
set_option linter.unusedVariables false
namespace Go.Proofs.YtcblbdpdbggkbaaGreat
open Go.RowKit Go.Sort
def wayR (V:SV):Value:=.iface 36 (.agg #[.slice V.xr V.nr V.cr])
def wayF (V:SV):Value:=.iface 38 (.agg #[.slice V.xf V.nf V.cf])
def wayT (V:SV) (s:Sm):Value:=.iface 41 (.agg #[.slice V.xt V.nt V.ct,.int .i64 s.lo,.int .i64 s.al])
def wayK (V:SV) (s:Sm):Value:=.iface 44 (.agg #[.slice V.xk V.nk V.ck,.int .i64 s.ka])
theorem isOkR_at (w:World) (x:Option Addr) (n c:Nat) (rs:List (List Int)) (h:Rws w (.slice x n c) rs):
  Calls Tryz.prog 352 #[.agg #[.slice x n c]] w fun e w'=>e=.returned (.bool (okB rs))/\Below w.heap.size w w':=by
 have hA:=(Below.refl w.heap.size w).alloc lr_ (.cells #[.slice x n c] 36);have K:=hd_ (imOk_at _ _ rs (h.below hA lr_));have HA:=hd_ hA;clear h hA;go_enter Tryz.func352,Tryz.ntmps352
 go_wp2_with fail
 refine K.out.mono ?_;rintro e w1 ⟨rfl,hb⟩;go_wp2;go_ret;exact⟨rfl,HA.out.trans (hb.mono HA.out.size)⟩
theorem isOkF_at (w:World) (x:Option Addr) (n c:Nat) (zs:List Int) (h:Ints w (.slice x n c) zs):
  Calls Tryz.prog 353 #[.agg #[.slice x n c]] w fun e w'=>e=.returned (.bool (fewB zs))/\Below w.heap.size w w':=by
 have hA:=(Below.refl w.heap.size w).alloc lr_ (.cells #[.slice x n c] 38);have K:=hd_ (imFewOk_at _ _ zs (h.below hA lr_));have HA:=hd_ hA;clear h hA;go_enter Tryz.func353,Tryz.ntmps353
 go_wp2_with fail
 refine K.out.mono ?_;rintro e w1 ⟨rfl,hb⟩;go_wp2;go_ret;exact⟨rfl,HA.out.trans (hb.mono HA.out.size)⟩
theorem isOkT_at (w:World) (x:Option Addr) (n c:Nat) (ps:List T.Pr) (lo al:Int) (h:T.Prs w (.slice x n c) ps):
  Calls Tryz.prog 354 #[.agg #[.slice x n c,.int .i64 lo,.int .i64 al]] w fun e w'=>e=.returned (.bool (T.topB ps lo al))/\Below w.heap.size w w':=by
 have hA:=(Below.refl w.heap.size w).alloc lr_ (.cells #[.slice x n c,.int .i64 lo,.int .i64 al] 41);have K:=hd_ (T.imTopOk_at _ _ ps lo al (h.below hA lr_));have HA:=hd_ hA;clear h hA;go_enter Tryz.func354,Tryz.ntmps354
 go_wp2_with fail
 refine K.out.mono ?_;rintro e w1 ⟨rfl,hb⟩;go_wp2;go_ret;exact⟨rfl,HA.out.trans (hb.mono HA.out.size)⟩
theorem isOkK_at (w:World) (x:Option Addr) (n c:Nat) (ps:List K.Pr) (al:Int) (h:K.Prs w (.slice x n c) ps):
  Calls Tryz.prog 355 #[.agg #[.slice x n c,.int .i64 al]] w fun e w'=>e=.returned (.bool (K.rankB ps al))/\Below w.heap.size w w':=by
 have hA:=(Below.refl w.heap.size w).alloc lr_ (.cells #[.slice x n c,.int .i64 al] 44);have K:=hd_ (K.imRankOk_at _ _ ps al (h.below hA lr_));have HA:=hd_ hA;clear h hA;go_enter Tryz.func355,Tryz.ntmps355
 go_wp2_with fail
 refine K.out.mono ?_;rintro e w1 ⟨rfl,hb⟩;go_wp2;go_ret;exact⟨rfl,HA.out.trans (hb.mono HA.out.size)⟩
theorem waysOf_at (w:World) (V:SV) (s:Sm):
  Calls Tryz.prog 105 #[.agg #[.slice V.xr V.nr V.cr,.slice V.xf V.nf V.cf,.slice V.xt V.nt V.ct,.int .i64 s.lo,.int .i64 s.al,.slice V.xk V.nk V.ck,.int .i64 s.ka]] w fun e w'=>e=.returned (.agg #[wayR V,wayF V,wayT V s,wayK V s])/\Below w.heap.size w w':=by
 obtain⟨xr,nr,cr,xf,nf,cf,xt,nt,ct,xk,nk,ck⟩:=V;obtain⟨rs,zs,ps,lo,al,ks,ka⟩:=s;unfold wayR wayF wayT wayK;simp only;go_enter Tryz.func105,Tryz.ntmps105;go_wp2
 go_returns
 exact⟨rfl,((Below.refl _ _).alloc lr_ _).alloc (by simp) _⟩
theorem index_way (a b c d:Value) (w:World):(Instr.index 143 (.agg #[a,b,c,d]) (.int .i64 0)).run Tryz.prog w=.ok a w/\(Instr.index 143 (.agg #[a,b,c,d]) (.int .i64 1)).run Tryz.prog w=.ok b w/\
  (Instr.index 143 (.agg #[a,b,c,d]) (.int .i64 2)).run Tryz.prog w=.ok c w/\(Instr.index 143 (.agg #[a,b,c,d]) (.int .i64 3)).run Tryz.prog w=.ok d w:=
 ⟨by kernel_rfl,by kernel_rfl,by kernel_rfl,by kernel_rfl⟩
end Go.Proofs.YtcblbdpdbggkbaaGreat
set_option linter.unusedVariables false
namespace Go.Proofs.YtcblbdpdbggkbaaGreat
open Go.RowKit Go.Sort
def okUpto (s:Sm) (j:Nat):Prop:=(0<j->okB s.rs=true)/\(1<j->fewB s.zs=true)/\(2<j->T.topB s.ps s.lo s.al=true)/\(3<j->K.rankB s.ks s.ka=true)
theorem imSumOk_at (w:World) (V:SV) (s:Sm) (h:RdS w V s):
  Calls Tryz.prog 41 #[.agg #[.slice V.xr V.nr V.cr,.slice V.xf V.nf V.cf,.slice V.xt V.nt V.ct,.int .i64 s.lo,.int .i64 s.al,.slice V.xk V.nk V.ck,.int .i64 s.ka]] w fun e w'=>e=.returned (.bool (okS s))/\Below w.heap.size w w':=by
 have hA:=(Below.refl w.heap.size w).alloc lr_ (.cells #[.slice V.xr V.nr V.cr,.slice V.xf V.nf V.cf,.slice V.xt V.nt V.ct,.int .i64 s.lo,.int .i64 s.al,.slice V.xk V.nk V.ck,.int .i64 s.ka] 46);have X0:=Box7.new w 46 (.slice V.xr V.nr V.cr) (.slice V.xf V.nf V.cf) (.slice V.xt V.nt V.ct) (.int .i64 s.lo) (.int .i64 s.al) (.slice V.xk V.nk V.ck) (.int .i64 s.ka);have HA:=hd_ hA
 have R0:=hd_ (h.below hA lr_);have KW:=hd_ (waysOf_at (w.alloc (.cells #[.slice V.xr V.nr V.cr,.slice V.xf V.nf V.cf,.slice V.xt V.nt V.ct,.int .i64 s.lo,.int .i64 s.al,.slice V.xk V.nk V.ck,.int .i64 s.ka] 46)) V s);have fl:=hd_ h.lens.2.1;clear h hA;go_enter Tryz.func41,Tryz.ntmps41
 go_wp2_with fail
 refine KW.out.mono ?_;rintro e w1 ⟨rfl,hb1⟩;have X1:=X0.later hb1;have R1:=hd_ (R0.out.later hb1);have B1:=hd_ (HA.out.trans (hb1.mono HA.out.size));clear hb1 X0 R0 HA KW;go_wp2;go_loopw [8] (fun i wr=>∃j:Nat,i=.int .i64 j/\j<=4/\okUpto s j/\Below w1.heap.size w1 wr) (fun i _=>4 - (intOf i).toNat)
 case atStart=>exact⟨0,rfl,by omega,by simp[okUpto],Below.refl _ _⟩
 case round=>
  obtain⟨j,rfl,hj,hu,hbl⟩:=hrel;have HU:=hd_ hu;have HB:=hd_ hbl;have R2:=hd_ (R1.out.below hbl lr_);have X2:=X1.later hbl;clear hu hbl;have IW:=fun w=>index_way (wayR V) (wayF V) (wayT V s) (wayK V s) w
  unfold wayR wayF wayT wayK at IW ⊢;rcases (by omega:j=4\/j=0\/j=1\/j=2\/j=3)with rfl|rfl|rfl|rfl|rfl
  ·clear IW
   have u:=HU.out;have r1:=u.1 (by omega);have f1:=u.2.1 (by omega);have t1:=u.2.2.1 (by omega);have k1:=u.2.2.2 (by omega);have hok:okS s=(decide (allV s.rs=s.al)&&(decide (s.al=s.ka)&&decide (0<s.zs.length↔0<s.al))):=by
    unfold okS;rw[r1,f1,t1,k1]
    rfl
   have HOK:=hd_ hok;have KA:=hd_ (roughAll_at wr _ s.rs R2.out.r);obtain⟨A,hA⟩:∃A,A=allV s.rs:=⟨_,rfl⟩
   rw[<-hA]at KA;have HAA:=hd_ hA;clear u r1 f1 t1 k1 hok hA HU;obtain⟨c0,c1,c2,c3,c4,c5,c6⟩:=X2.cells
   go_wp2_with fail
   refine KA.out.mono ?_;rintro e w2 ⟨rfl,hb2⟩;have X3:=X2.later hb2;have HB2:=hd_ (HB.out.trans (hb2.mono HB.out.size));clear hb2 c0 c1 c2 c3 c4 c5 c6 X2 R2 KA;obtain⟨c0,c1,c2,c3,c4,c5,c6⟩:=X3.cells;rw[<-HAA.out]at HOK;have hn:=fl.out;go_wp2
   all_goals
    go_ret;refine⟨?_,B1.out.trans (HB2.out.mono B1.out.size)⟩;rw[HOK.out];refine congrArg (fun b=>Ending.returned (Value.bool b)) ?_;rw[Bool.eq_iff_iff];simp;omega
  ·have I1:=fun w=>(IW w).1
   clear IW;have KI:=hd_ (isOkR_at wr _ _ _ s.rs R2.out.r);obtain⟨ok,hok⟩:∃ok,ok=okB s.rs:=⟨_,rfl⟩
   rw[<-hok]at KI;have HOK:=hd_ hok;clear hok
   go_wp2_with fail
   refine KI.out.mono ?_;rintro e w2 ⟨rfl,hb2⟩;have HB2:=hd_ (HB.out.trans (hb2.mono HB.out.size));clear hb2 KI;cases ok with
   |false=>
    go_wp2;go_ret;refine⟨?_,B1.out.trans (HB2.out.mono B1.out.size)⟩;have u:=HU.out;have q:=HOK.out;unfold okS;rw[<-q];simp
   |true=>
    go_wp2;go_roundw
    case rel=>exact⟨1,rfl,by omega,⟨fun _=>HOK.out.symm,fun q=>by omega,fun q=>by omega,fun q=>by omega⟩,HB2.out⟩
    case measure=>simp[intOf]
  ·have I1:=fun w=>(IW w).2.1
   clear IW;have KI:=hd_ (isOkF_at wr _ _ _ s.zs R2.out.f);obtain⟨ok,hok⟩:∃ok,ok=fewB s.zs:=⟨_,rfl⟩
   rw[<-hok]at KI;have HOK:=hd_ hok;clear hok
   go_wp2_with fail
   refine KI.out.mono ?_;rintro e w2 ⟨rfl,hb2⟩;have HB2:=hd_ (HB.out.trans (hb2.mono HB.out.size));clear hb2 KI;cases ok with
   |false=>
    go_wp2;go_ret;refine⟨?_,B1.out.trans (HB2.out.mono B1.out.size)⟩;have u:=HU.out;have q:=HOK.out;unfold okS;rw[<-q];simp
   |true=>
    go_wp2;go_roundw
    case rel=>exact⟨2,rfl,by omega,⟨fun _=>HU.out.1 (by omega),fun _=>HOK.out.symm,fun q=>by omega,fun q=>by omega⟩,HB2.out⟩
    case measure=>simp[intOf]
  ·have I1:=fun w=>(IW w).2.2.1
   clear IW;have KI:=hd_ (isOkT_at wr _ _ _ s.ps s.lo s.al R2.out.t);obtain⟨ok,hok⟩:∃ok,ok=T.topB s.ps s.lo s.al:=⟨_,rfl⟩
   rw[<-hok]at KI;have HOK:=hd_ hok;clear hok
   go_wp2_with fail
   refine KI.out.mono ?_;rintro e w2 ⟨rfl,hb2⟩;have HB2:=hd_ (HB.out.trans (hb2.mono HB.out.size));clear hb2 KI;cases ok with
   |false=>
    go_wp2;go_ret;refine⟨?_,B1.out.trans (HB2.out.mono B1.out.size)⟩;have u:=HU.out;have q:=HOK.out;unfold okS;rw[<-q];simp
   |true=>
    go_wp2;go_roundw
    case rel=>exact⟨3,rfl,by omega,⟨fun _=>HU.out.1 (by omega),fun _=>HU.out.2.1 (by omega),fun _=>HOK.out.symm,fun q=>by omega⟩,HB2.out⟩
    case measure=>simp[intOf]
  ·have I1:=fun w=>(IW w).2.2.2
   clear IW;have KI:=hd_ (isOkK_at wr _ _ _ s.ks s.ka R2.out.k);obtain⟨ok,hok⟩:∃ok,ok=K.rankB s.ks s.ka:=⟨_,rfl⟩
   rw[<-hok]at KI;have HOK:=hd_ hok;clear hok
   go_wp2_with fail
   refine KI.out.mono ?_;rintro e w2 ⟨rfl,hb2⟩;have HB2:=hd_ (HB.out.trans (hb2.mono HB.out.size));clear hb2 KI;cases ok with
   |false=>
    go_wp2;go_ret;refine⟨?_,B1.out.trans (HB2.out.mono B1.out.size)⟩;have u:=HU.out;have q:=HOK.out;unfold okS;rw[<-q];simp
   |true=>
    go_wp2;go_roundw
    case rel=>exact⟨4,rfl,by omega,⟨fun _=>HU.out.1 (by omega),fun _=>HU.out.2.1 (by omega),fun _=>HU.out.2.2.1 (by omega),fun _=>HOK.out.symm⟩,HB2.out⟩
    case measure=>simp[intOf]
end Go.Proofs.YtcblbdpdbggkbaaGreat
set_option linter.unusedVariables false
namespace Go.Proofs.YtcblbdpdbggkbaaGreat
open Go.RowKit Go.Sort
theorem oneS_eq (t:Int):oneS t=⟨addA zero3 t 1,addF [] t,(T.addT [] 0 0 t).1,(T.addT [] 0 0 t).2.1,(T.addT [] 0 0 t).2.2,(K.addK [] 0 t).1,(K.addK [] 0 t).2⟩:=by
 by_cases h:0<=t/\t<=63
 ·have A:=addAll (s:=newSm) (t:=t) (by rw[one_addOk];exact decide_eq_true h)
  unfold oneS;rw[addS_yes (by rw[one_addOk];exact decide_eq_true h)];unfold addS0 addA;rw[show addB zero3 t 1=true from A.r]
  rfl
 ·rw[one_no h]
  have a:addB zero3 t 1=false:=by
   cases q:addB zero3 t 1 with
   |false=>rfl
   |true=>have:=(addB_iff _ _ _).1 q;omega
  have b:addOkF [] t=false:=by
   unfold addOkF inThings;rw[decide_eq_false (by omega)];cases fewB []<;>rfl
  have c:T.addOk [] 0 0 t=false:=by
   unfold T.addOk T.isT;rw[decide_eq_false (by omega)];cases T.topB [] 0 0<;>rfl
  have d:K.addOkK [] 0 t=false:=by
   unfold K.addOkK;rw[decide_eq_false (by omega)];cases K.rankB [] 0<;>rfl
  unfold addA;rw[a,addF_no b,T.addT_no c,K.addK_no d]
  rfl
theorem imOne_at (w:World) (t:Int):
  Calls Tryz.prog 174 #[.int .i64 t] w fun e w'=>∃V,e=.returned (.agg #[.slice V.xr V.nr V.cr,.slice V.xf V.nf V.cf,.slice V.xt V.nt V.ct,.int .i64 (oneS t).lo,.int .i64 (oneS t).al,.slice V.xk V.nk V.ck,.int .i64 (oneS t).ka])/\OwnS w' w.heap.size w'.heap.size V (oneS t)/\Below w.heap.size w w':=by
 obtain⟨A,hAA⟩:∃A,A=addA zero3 t 1:=⟨_,rfl⟩
 have HAA:=hd_ hAA;clear hAA;have hA:=(Below.refl w.heap.size w).alloc lr_ (.cells #[.slice none 0 0,.slice none 0 0,.slice none 0 0,.int .i64 0,.int .i64 0,.slice none 0 0,.int .i64 0] 46);have B:=hd_ (hA);clear hA;have R:=Box7.new w 46 (.slice none 0 0) (.slice none 0 0) (.slice none 0 0) (.int .i64 0) (.int .i64 0) (.slice none 0 0) (.int .i64 0)
 have S0:Hid ((w.alloc (.cells #[.slice none 0 0,.slice none 0 0,.slice none 0 0,.int .i64 0,.int .i64 0,.slice none 0 0,.int .i64 0] 46)).heap.size=w.heap.size+1):=by show _=_;simp
 go_enter Tryz.func174,Tryz.ntmps174
 go_wp2_with fail
 refine (imNew_at _).mono ?_;rintro e w1 ⟨u,G,C,rfl,ho,hb⟩;obtain⟨x1,c1,rfl⟩:=ho.form;replace B:=hd_ (B.out.trans (hb.mono B.out.size));replace R:=R.later hb;have P1:=hd_ (ho.rws);clear hb;clear ho;have KA:=imAddRR w1 _ zero3 t 1 P1.out;rw[<-HAA.out]at KA;generalize addB zero3 t 1=o1 at KA
 go_wp2_with fail
 refine (KA).mono ?_;rintro e w2 ⟨x2,c2,rfl,ho,hb⟩;obtain⟨n2,hn2⟩:∃n,n=A.length:=⟨_,rfl⟩
 rw[<-hn2]at ho ⊢;have L2:=hd_ B.out.size;have S2:=hd_ hb.size;clear hn2 KA;clear P1;replace B:=hd_ (B.out.trans (hb.mono B.out.size));replace R:=R.later hb;have O2:=hd_ (ho);clear hb;obtain⟨W2,hW⟩:∃W,W=(w2.alloc (.cells #[.slice x2 n2 c2] 36)):=⟨_,rfl⟩
 replace B:=hd_ ((B.out).alloc (Nat.le_trans B.out.size (by simp)) (.cells #[.slice x2 n2 c2] 36));rw[<-hW]at B;replace R:=R.alloc (.cells #[.slice x2 n2 c2] 36);rw[<-hW]at R;replace O2:=hd_ (O2.out.alloc (.cells #[.slice x2 n2 c2] 36));rw[<-hW]at O2;have X2:=Go.Boxed.new w2 36 (.slice x2 n2 c2);rw[<-hW]at X2
 go_wp2_with fail
 rw[<-hW];clear hW;clear ho;have KA:=imFewAdd_at W2 (.slice none 0 0) [] t (.inl ⟨rfl,rfl⟩);obtain⟨F,hF⟩:∃F,F=addF [] t:=⟨_,rfl⟩
 rw[<-hF]at KA;have HF:=hd_ hF;generalize addOkF [] t=o2 at KA;clear hF
 go_wp2_with fail
 refine (KA).mono ?_;rintro e w3 ⟨v,rfl,ho,hb⟩;obtain⟨x3,c3,rfl⟩:=ho.form';obtain⟨n3,hn3⟩:∃n,n=F.length:=⟨_,rfl⟩
 rw[<-hn3]at ho ⊢;have T2:=hd_ O2.out.top;have L3':=hd_ (Nat.le_trans L2.out (show w1.heap.size<=w2.heap.size from S2.out));clear hn3 KA;replace B:=hd_ (B.out.trans (hb.mono B.out.size));replace R:=R.later hb;replace O2:=hd_ (O2.out.below hb);replace X2:=boxed_below X2 hb;have O3:=hd_ (ho);clear hb;obtain⟨W3,hW⟩:∃W,W=(w3.alloc (.cells #[.slice x3 n3 c3] 38)):=⟨_,rfl⟩
 replace B:=hd_ ((B.out).alloc (Nat.le_trans B.out.size (by simp)) (.cells #[.slice x3 n3 c3] 38));rw[<-hW]at B;replace R:=R.alloc (.cells #[.slice x3 n3 c3] 38);rw[<-hW]at R;replace O2:=hd_ (O2.out.alloc (.cells #[.slice x3 n3 c3] 38));rw[<-hW]at O2;replace X2:=X2.alloc (.cells #[.slice x3 n3 c3] 38);rw[<-hW]at X2;replace O3:=hd_ (O3.out.alloc (.cells #[.slice x3 n3 c3] 38));rw[<-hW]at O3
 have X3:=Go.Boxed.new w3 38 (.slice x3 n3 c3);rw[<-hW]at X3
 go_wp2_with fail
 rw[<-hW];clear hW;clear ho;have KA:=T.imTopAdd_at W3 (.slice none 0 0) [] 0 0 t (.inl ⟨rfl,rfl⟩);obtain⟨TT,hF⟩:∃F,F=T.addT [] 0 0 t:=⟨_,rfl⟩
 rw[<-hF]at KA;have HT:=hd_ hF;generalize T.addOk [] 0 0 t=o3 at KA;obtain⟨tp,tl,ta⟩:=TT;simp only at KA;clear hF
 go_wp2_with fail
 refine (KA).mono ?_;rintro e w4 ⟨v,rfl,ho,hb⟩;obtain⟨x4,c4,rfl⟩:=ho.form';obtain⟨n4,hn4⟩:∃n,n=tp.length:=⟨_,rfl⟩
 rw[<-hn4]at ho ⊢;have T3:=hd_ O3.out.lt;have L4:=hd_ B.out.size;clear hn4 KA;replace B:=hd_ (B.out.trans (hb.mono B.out.size));replace R:=R.later hb;replace O2:=hd_ (O2.out.below hb);replace X2:=boxed_below X2 hb;replace O3:=hd_ (O3.out.below hb);replace X3:=boxed_below X3 hb;have O4:=hd_ (ho);clear hb;obtain⟨W4,hW⟩:∃W,W=(w4.alloc (.cells #[.slice x4 n4 c4,.int .i64 tl,.int .i64 ta] 41)):=⟨_,rfl⟩
 replace B:=hd_ ((B.out).alloc (Nat.le_trans B.out.size (by simp)) (.cells #[.slice x4 n4 c4,.int .i64 tl,.int .i64 ta] 41));rw[<-hW]at B;replace R:=R.alloc (.cells #[.slice x4 n4 c4,.int .i64 tl,.int .i64 ta] 41);rw[<-hW]at R;replace O2:=hd_ (O2.out.alloc (.cells #[.slice x4 n4 c4,.int .i64 tl,.int .i64 ta] 41));rw[<-hW]at O2
 replace X2:=X2.alloc (.cells #[.slice x4 n4 c4,.int .i64 tl,.int .i64 ta] 41);rw[<-hW]at X2;replace O3:=hd_ (O3.out.alloc (.cells #[.slice x4 n4 c4,.int .i64 tl,.int .i64 ta] 41));rw[<-hW]at O3;replace X3:=X3.alloc (.cells #[.slice x4 n4 c4,.int .i64 tl,.int .i64 ta] 41);rw[<-hW]at X3;replace O4:=hd_ (O4.out.alloc (.cells #[.slice x4 n4 c4,.int .i64 tl,.int .i64 ta] 41));rw[<-hW]at O4
 have X4:=T.Box3.new w4 41 (.slice x4 n4 c4) (.int .i64 tl) (.int .i64 ta);rw[<-hW]at X4
 go_wp2_with fail
 rw[<-hW];clear hW;clear ho;have KA:=K.imRankAdd_at W4 (.slice none 0 0) [] 0 t (.inl ⟨rfl,rfl⟩);obtain⟨TT,hF⟩:∃F,F=K.addK [] 0 t:=⟨_,rfl⟩
 rw[<-hF]at KA;have HK:=hd_ hF;generalize K.addOkK [] 0 t=o4 at KA;obtain⟨kp,ka⟩:=TT;simp only at KA;clear hF
 go_wp2_with fail
 refine (KA).mono ?_;rintro e w5 ⟨v,rfl,ho,hb⟩;obtain⟨x5,c5,rfl⟩:=ho.form';obtain⟨n5,hn5⟩:∃n,n=kp.length:=⟨_,rfl⟩
 rw[<-hn5]at ho ⊢;have T4:=hd_ (fun k e=>(World.ownsRow.lt O4.out k e).2);have L5:=hd_ B.out.size;clear hn5 KA;replace B:=hd_ (B.out.trans (hb.mono B.out.size));replace R:=R.later hb;replace O2:=hd_ (O2.out.below hb);replace X2:=boxed_below X2 hb;replace O3:=hd_ (O3.out.below hb);replace X3:=boxed_below X3 hb;replace O4:=hd_ (O4.out.below hb);replace X4:=X4.later hb;have O5:=hd_ (ho);clear hb
 obtain⟨W5,hW⟩:∃W,W=(w5.alloc (.cells #[.slice x5 n5 c5,.int .i64 ka] 44)):=⟨_,rfl⟩
 have ax20:=((X2.alloc (.cells #[.slice x5 n5 c5,.int .i64 ka] 44))).cell;have ax30:=((X3.alloc (.cells #[.slice x5 n5 c5,.int .i64 ka] 44))).cell;have ax40:=((X4.alloc (.cells #[.slice x5 n5 c5,.int .i64 ka] 44))).cell0;have ax41:=((X4.alloc (.cells #[.slice x5 n5 c5,.int .i64 ka] 44))).cell1;have ax42:=((X4.alloc (.cells #[.slice x5 n5 c5,.int .i64 ka] 44))).cell2
 obtain⟨ar0,ar1,ar2,ar3,ar4,ar5,ar6⟩:=((R.alloc (.cells #[.slice x5 n5 c5,.int .i64 ka] 44))).cells;have frr:=(R.alloc (.cells #[.slice x5 n5 c5,.int .i64 ka] 44)).free;replace B:=hd_ ((B.out).alloc (Nat.le_trans B.out.size (by simp)) (.cells #[.slice x5 n5 c5,.int .i64 ka] 44));rw[<-hW]at B;replace R:=R.alloc (.cells #[.slice x5 n5 c5,.int .i64 ka] 44);rw[<-hW]at R
 replace O2:=hd_ (O2.out.alloc (.cells #[.slice x5 n5 c5,.int .i64 ka] 44));rw[<-hW]at O2;replace X2:=X2.alloc (.cells #[.slice x5 n5 c5,.int .i64 ka] 44);rw[<-hW]at X2;replace O3:=hd_ (O3.out.alloc (.cells #[.slice x5 n5 c5,.int .i64 ka] 44));rw[<-hW]at O3;replace X3:=X3.alloc (.cells #[.slice x5 n5 c5,.int .i64 ka] 44);rw[<-hW]at X3
 replace O4:=hd_ (O4.out.alloc (.cells #[.slice x5 n5 c5,.int .i64 ka] 44));rw[<-hW]at O4;replace X4:=X4.alloc (.cells #[.slice x5 n5 c5,.int .i64 ka] 44);rw[<-hW]at X4;replace O5:=hd_ (O5.out.alloc (.cells #[.slice x5 n5 c5,.int .i64 ka] 44));rw[<-hW]at O5;have X5:=K.Box2.new w5 44 (.slice x5 n5 c5) (.int .i64 ka);rw[<-hW]at X5;clear ho;have e1:=oneS_eq t;rw[<-HAA.out, <-HF.out, <-HT.out, <-HK.out]at e1
 have E1:=hd_ e1;clear e1;have F1:=HF;clear HF;have fin:=R.set (.slice x2 n2 c2) (.slice x3 n3 c3) (.slice x4 n4 c4) (.int .i64 tl) (.int .i64 ta) (.slice x5 n5 c5) (.int .i64 ka)
 have OF:=OwnS.box7 (OwnS.make (V:=⟨x2,n2,c2,x3,n3,c3,x4,n4,c4,x5,n5,c5⟩) (s:=⟨A,F,tp,tl,ta,kp,ka⟩) O2.out O3.out O4.out O5.out L2.out L3'.out T2.out L4.out L5.out) R (.slice x2 n2 c2) (.slice x3 n3 c3) (.slice x4 n4 c4) (.int .i64 tl) (.int .i64 ta) (.slice x5 n5 c5) (.int .i64 ka)
 have BF:=below_set7 B.out lr_ (.slice x2 n2 c2) (.slice x3 n3 c3) (.slice x4 n4 c4) (.int .i64 tl) (.int .i64 ta) (.slice x5 n5 c5) (.int .i64 ka);have SF:=set7_size W5 w.heap.size (.slice x2 n2 c2) (.slice x3 n3 c3) (.slice x4 n4 c4) (.int .i64 tl) (.int .i64 ta) (.slice x5 n5 c5) (.int .i64 ka);have HF:=hd_ (And.intro (OwnS.base OF lr_ (Nat.le_of_eq SF.symm) lr_) BF);have HY:=hd_ fin
 clear fin OF BF SF;go_wp2;rw[<-hW];clear hW ax20 ax30 ax40 ax41 ax42 ar0 ar1 ar2 ar3 ar4 ar5 ar6 frr;show bodyPost _ _ _ _ _ (set7 W5 w.heap.size (.slice x2 n2 c2) (.slice x3 n3 c3) (.slice x4 n4 c4) (.int .i64 tl) (.int .i64 ta) (.slice x5 n5 c5) (.int .i64 ka))
 obtain⟨d0,d1,d2,d3,d4,d5,d6⟩:=HY.out.cells;generalize set7 W5 w.heap.size (.slice x2 n2 c2) (.slice x3 n3 c3) (.slice x4 n4 c4) (.int .i64 tl) (.int .i64 ta) (.slice x5 n5 c5) (.int .i64 ka)=WF at HF d0 d1 d2 d3 d4 d5 d6 ⊢
 refine bodyPost_ret (v:=.agg #[.slice x2 n2 c2,.slice x3 n3 c3,.slice x4 n4 c4,.int .i64 tl,.int .i64 ta,.slice x5 n5 c5,.int .i64 ka]) (by simp[results,Tryz.results174,go_sem,d0,d1,d2,d3,d4,d5,d6]) rfl ?_;rw[E1.out];exact⟨⟨x2,n2,c2,x3,n3,c3,x4,n4,c4,x5,n5,c5⟩,rfl,HF.out⟩
end Go.Proofs.YtcblbdpdbggkbaaGreat
set_option linter.unusedVariables false
namespace Go.Proofs.YtcblbdpdbggkbaaGreat
open Go.RowKit Go.Sort
theorem ask_R (v:Value) (w:World):(Instr.typeAssert (.iface 36 v) 142 36 true).run Tryz.prog w=.ok (.tuple #[v,.bool true]) w:=by kernel_rfl
theorem ask_F (v:Value) (w:World):(Instr.typeAssert (.iface 38 v) 142 36 true).run Tryz.prog w=.ok (.tuple #[.agg #[.slice none 0 0],.bool false]) w/\
  (Instr.typeAssert (.iface 38 v) 142 38 true).run Tryz.prog w=.ok (.tuple #[v,.bool true]) w:=⟨by kernel_rfl,by kernel_rfl⟩
theorem ask_T (v:Value) (w:World):(Instr.typeAssert (.iface 41 v) 142 36 true).run Tryz.prog w=.ok (.tuple #[.agg #[.slice none 0 0],.bool false]) w/\
  (Instr.typeAssert (.iface 41 v) 142 38 true).run Tryz.prog w=.ok (.tuple #[.agg #[.slice none 0 0],.bool false]) w/\
  (Instr.typeAssert (.iface 41 v) 142 41 true).run Tryz.prog w=.ok (.tuple #[v,.bool true]) w:=⟨by kernel_rfl,by kernel_rfl,by kernel_rfl⟩
theorem ask_K (v:Value) (w:World):(Instr.typeAssert (.iface 44 v) 142 36 true).run Tryz.prog w=.ok (.tuple #[.agg #[.slice none 0 0],.bool false]) w/\
  (Instr.typeAssert (.iface 44 v) 142 38 true).run Tryz.prog w=.ok (.tuple #[.agg #[.slice none 0 0],.bool false]) w/\
  (Instr.typeAssert (.iface 44 v) 142 41 true).run Tryz.prog w=.ok (.tuple #[.agg #[.slice none 0 0,.int .i64 0,.int .i64 0],.bool false]) w/\
  (Instr.typeAssert (.iface 44 v) 142 44 true).run Tryz.prog w=.ok (.tuple #[v,.bool true]) w:=⟨by kernel_rfl,by kernel_rfl,by kernel_rfl,by kernel_rfl⟩
end Go.Proofs.YtcblbdpdbggkbaaGreat
