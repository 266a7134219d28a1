/-
  What the laws of Kn need of the texts before it, part 4.
-/
import Derived.BigQuiet
import Derived.Deep.AppendLies
import Derived.Deep.DrawnRows
import Derived.Deep.QuietTactic
import Derived.Deep.RegionHeld3
import Derived.Deep.RegionLaw
import Derived.Deep.RegionLawGrows
import Derived.Deep.RegionWith
import Derived.IntWalk
import Derived.Laws.StructEq
import Derived.Lib.Hide
import Derived.Lib.QuietBelow
import Derived.LoopIn
import Derived.LoopNIn
import Derived.Maps.AppendAt
import Derived.OneCell
import Derived.OpenShut
import Derived.OwnWalkIn
import Derived.RangeFuncBound
import Derived.RangeFuncBox
import Derived.RangeFuncCalls
import Derived.RangeFuncLeaves
import Derived.RangeFuncNested
import Derived.Shelf.Abstract
import Derived.Shelf.RegionOpen
import Derived.StillTail
import Derived.TacticsInMore
import Derived.Test.YtcblbdpdbggkbaaGreatRows
import Derived.WalkKit
import Derived.WalkLawsBesides
import Derived.WalkSpells
import Derived.Test.YtcblbdpdbggkbaaGreatSKn3
set_option maxRecDepth 100000
set_option maxHeartbeats 16000000
set_option linter.unusedVariables false
set_option linter.unusedSectionVars false
set_option linter.unusedSimpArgs false
namespace Go.Proofs.YtcblbdpdbggkbaaGreat
theorem zi {P:Prop} (h:P:=by
 have RA3:=hd_ (RA.out W3 hk3)
 have RB3:=hd_ (RB.out W3 hk3);have J3:=hd_ hJ3;clear RA RB hk3 hJ3 hR hy
 gi_wp2_with (first
         |(refine⟨trivial,?_⟩;gi_at_call 288;(with_reducible refine (callsIn_wide.2 RA3.out).mono ?_);rintro e w1 ⟨qa,ea,rfl,oa,rfl⟩;clear RA3)
         |(refine⟨trivial,?_⟩;gi_at_call 288;(with_reducible refine (callsIn_wide.2 RB3.out).mono ?_);rintro e w1 ⟨qb,eb,rfl,ob,rfl⟩;clear RB3))
 go_roundw
 case rel=>exact⟨pre++[M],aZ xs M,aZ ys' M,k',oa,ob,MA.out,MB.out,HB.out,by have h1:=LE.out;have h2:=HK.out;omega,by have h1:=LE.out;have h2:=HPR.out;simp;omega,rfl,rfl,J3.out⟩
 case measure=>have h1:=LE.out;have h2:=NX.out;have h3:=NY.out;simp[rX];omega):P:=h
theorem zl {P:Prop} (h:P:=by
 gi_wp2_with (first
        |(refine⟨trivial,?_⟩;gi_at_call 287;(with_reducible refine (callsIn_wide.2 KA.out).mono ?_);rintro e w1 ⟨rfl,rfl⟩;clear KA)
        |(refine⟨trivial,?_⟩;gi_at_call 287;(with_reducible refine (callsIn_wide.2 KB.out).mono ?_);rintro e w1 ⟨rfl,rfl⟩;clear KB))
 refine hR.mono ?_;rintro e W3 (⟨rfl,hJ3,hk3⟩|⟨rfl,hJx3⟩)
 ·exact zi
 ·have JX:=hd_ hJx3
  have PF:Hid (pre++[M]<+:kV zs ys):=⟨_,HB.out⟩
  clear hJx3
  gi_wp2
  refine bodyPost_ret (results_none rfl _ _ _) rfl ?_;exact⟨⟨_,rfl⟩,.inr ⟨pre++[M],PF.out,JX.out⟩⟩):P:=h
theorem zAo {P:Prop} (h:P:=by
 have R1:=R0.later hb1;have z0:=R1.cell0;have z1:=R1.cell1;have z2:=R1.cell2;have f2:=R1.free;have RZ:=R1.set zn (iv 0) (iv 0);have hr0:=RZ.cell0;have hr1:=RZ.cell1;have hr2:=RZ.cell2;have BZ:=hd_ (gE (b:=w.heap.size+1) (HA.out.trans (hb1.mono HA.out.size)) (Nat.le_succ _) zn (iv 0) (iv 0));clear R1 RZ x0 x1 x2 X0 R0 hb1;go_wp2
 exact bodyPost_ret (v:=.tuple #[.agg #[zn,iv 0,iv 0],.bool false]) (by simp[results,results312,go_sem,hr0,hr1,hr2]) rfl ⟨rfl,BZ.out⟩):P:=h
theorem zAx {P:Prop} (h:P:=by
 go_wp2_with fail
 refine (KT.out _).mono ?_;rintro e w1 ⟨rfl,rfl⟩;go_wp2;go_ret;exact⟨aK bad.out.symm,(HA.out.trans (HB.out.mono (by simp))).alloc (by have:=HB.out.size;simp at this;omega) _⟩):P:=h
theorem zAH {P:Prop} (h:P:=by
 have h:=cD.new (w.alloc (.cells #[.slice x n c,iv lost,iv all] 41)) 41 zn (iv 0) (iv 0);rw[hW0];simpa using h):P:=h
theorem zAL {P:Prop} (h:P:=by
 go_wp2
 go_quiet (first|(with_reducible exact aI (aS _ _ _ _ ha0 ha1))|(with_reducible exact aI (aS _ _ _ _ hl0 hl1))|(with_reducible exact aI (KA.out _)))
 go_wp2;go_ret;exact⟨aK (by first|(rw[fv.out];done)|(rw[fv.out];simp;omega)|(rw[fv.out];simpa using hle)),below_drewN FIN.out _⟩):P:=h
theorem zAO {P:Prop} (h:P:=by
 go_wp2;go_ret;exact⟨aK bd.out.symm,below_drewN FIN.out _⟩):P:=h
theorem zA6 {P:Prop} (h:P:=by
 rw[HB.out.cell (p:=⟨b,j,none⟩) (by show b<_;omega),HA.out.cell (p:=⟨b,j,none⟩) hb];exact h):P:=h
theorem zBd {P:Prop} (h:P:=by
 rcases h with ⟨rfl,rfl⟩|⟨b,o,c,rfl,_⟩
 ·exact⟨_,_,rfl⟩
 ·exact⟨_,_,rfl⟩):P:=h
theorem zBu {P:Prop} (h:P:=by
 rw[h]at h';cases h'):P:=h
end Go.Proofs.YtcblbdpdbggkbaaGreat
namespace Go.Proofs.YtcblbdpdbggkbaaGreat
open _root_.Go.Proofs.Tryz
open Go.RowKit Go.Shelf
attribute [local go_sem] Oper.semAt_some
def InB (n₀:Nat) (w:World) (v:Value) (zs:List Int):Prop:=
 (v=.slice none 0 0/\zs=[])\/
 ∃b o c,v=.slice (some ⟨b,o,none⟩) zs.length c/\zs.length<=c/\c<=maxLen/\b<n₀/\∀i,i<zs.length->w.cell? ⟨b,o+i,none⟩=some (.int .i64 (zs.getD i 0))
theorem InB.below {n₀:Nat} {w w':World} {v:Value} {zs:List Int} (h:InB n₀ w v zs) (hb:Below n₀ w w'):InB n₀ w' v zs:=by
 rcases h with h|⟨b,o,c,e,h1,h2,h3,h4⟩
 ·exact .inl h
 ·exact .inr ⟨b,o,c,e,h1,h2,h3,fun i hi=>(hb.cell (p:=⟨b,o+i,none⟩) h3).trans (h4 i hi)⟩
theorem dE.inB {w:World} {v:Value} {zs:List Int} (h:dE w v zs):InB w.heap.size w v zs:=h
def aW (zs:List Int):Int:=match zs with| []=>64|x::_=>x
def aZ (zs:List Int) (m:Int):List Int:=if aW zs=m then zs.tail else zs
theorem qO (n₀:Nat) (w:World) (v:Value) (zs:List Int) (h:InB n₀ w v zs):
  Calls prog 287 #[v] w fun e w'=>e=.returned (iv (aW zs))/\w=w':=by
 rcases h with ⟨rfl,rfl⟩|⟨b,o,c,rfl,h1,h2,_,h4⟩
 ·go_enter func287,ntmps287
  exact zAb
 ·cases zs with
  |nil=>
   go_enter func287,ntmps287;exact zAb
  |cons x zs=>
   have h5:w.cell? ⟨b,o,none⟩=some (.int .i64 x):=h4 0 (by simp);obtain⟨n,hn⟩:=nm_ ((x::zs).length);have hp:0<n:=by rw[hn];simp
   rw[<-hn];have n0:((n:Int)==0)=false:=by simp;omega
   have n1:(0:Int)<(n:Int):=o_;clear h1 h2 h4 hn;go_enter func287,ntmps287;exact zAb
theorem uC (n₀:Nat) (w:World) (v:Value) (zs:List Int) (m:Int) (h:InB n₀ w v zs) (hm:zs=[]->m≠64):
  Calls prog 288 #[v,iv m] w fun e w'=>∃x c,e=.returned (.slice x (aZ zs m).length c)/\InB n₀ w (.slice x (aZ zs m).length c) (aZ zs m)/\w=w':=by
 have KF:Hid (Calls prog 287 #[v] w fun e w'=>e=.returned (iv (aW zs))/\w=w'):=qO n₀ w v zs h
 by_cases hf:aW zs=m
 ·have hne:zs≠[]:=fun e=>hm e (by rw[<-hf,e];rfl)
  rcases h with ⟨_,e⟩|⟨b,o,c,rfl,h1,h2,h3,h4⟩
  ·exact absurd e hne
  have hlen:0<zs.length:=List.length_pos_iff.2 hne;have tl:∀i,i<zs.tail.length->zs.tail.getD i 0=zs.getD (i+1) 0:=fun i hi=>by simp
  have lt:zs.tail.length=zs.length - 1:=by simp
  have IN:Hid (∀o' c',zs.tail.length<=c'->c'<=maxLen->(o'=o+1\/zs.tail.length=0)->InB n₀ w (.slice (some ⟨b,o',none⟩) zs.tail.length c') zs.tail):=fun o' c' q1 q2 q3=>.inr ⟨b,o',c',rfl,q1,q2,h3,fun i hi=>by
      rcases q3 with q3|q3
      · rw[tl i hi, <-h4 (i+1) o_,q3,show o+1+i=o+(i+1) by omega]
      · omega⟩
  have eb:aZ zs m=zs.tail:=if_pos hf;rw[eb];rw[hf]at KF;obtain⟨n,hn⟩:=nm_ zs.length;obtain⟨k,hk⟩:=nm_ zs.tail.length;rw[<-hn]at KF hlen lt h1;rw[<-hn, <-hk];rw[<-hk]at IN lt;have n1:(1:Int)<=(n:Int):=o_;have c1:(n:Int)<=(c:Int):=o_;have ek:k=n - 1:=lt;subst ek;clear hn hk h4 tl lt hf hne hm eb
  by_cases hc:c=1
  ·subst hc
   obtain rfl:n=1:=o_;go_enter func288,ntmps288
   go_wp2_with fail
   refine KF.out.mono ?_;rintro e w1 ⟨rfl,rfl⟩;go_wp2;go_ret;exact⟨_,_,rfl,IN.out _ _ o_ o_ (.inr (by simp)),rfl⟩
  ·go_enter func288,ntmps288
   go_wp2_with fail
   refine KF.out.mono ?_;rintro e w1 ⟨rfl,rfl⟩;go_wp2;go_ret;exact⟨_,_,rfl,IN.out _ _ o_ o_ (.inl rfl),rfl⟩
 ·have eb:aZ zs m=zs:=if_neg hf
  have hf':(aW zs==m)=false:=by simpa using hf
  have hd:decide (aW zs=m)=false:=by simpa using hf
  rw[eb];have I:=hd_ h;obtain⟨x,c,hx⟩:∃x c,v=.slice x zs.length c:=by
   exact zBd
  obtain⟨n,hn⟩:=nm_ zs.length;rw[<-hn]at hx ⊢;subst hx;generalize aW zs=F at *;clear h hn eb hf hm;go_enter func288,ntmps288
  go_wp2_with fail
  refine KF.out.mono ?_;rintro e w1 ⟨rfl,rfl⟩;go_wp2;go_ret;exact⟨_,_,rfl,I.out,rfl⟩
def pT:Nat->List Int->List Int->List Int
 | 0,_,_=>[]
 |k+1,zs,ys=>if zs=[]/\ys=[]then []else min (aW zs) (aW ys)::pT k (aZ zs (min (aW zs) (aW ys))) (aZ ys (min (aW zs) (aW ys)))
def kV (zs ys:List Int):List Int:=pT (zs.length+ys.length) zs ys
theorem zA (zs:List Int) (m:Int):(aZ zs m).length<=zs.length:=by unfold aZ;split<;>simp
theorem aCD {zs:List Int} (h:∀z ∈ zs,z<64) (hn:zs≠[]):aW zs<64:=by
 cases zs with
 |nil=>exact absurd rfl hn
 |cons x xs=>exact h x (by simp)
theorem yD {zs ys:List Int} (hz:∀z ∈ zs,z<64) (hy:∀z ∈ ys,z<64) (h:¬(zs=[]/\ys=[])):
  min (aW zs) (aW ys)<64/\(aZ zs (min (aW zs) (aW ys))).length+(aZ ys (min (aW zs) (aW ys))).length<zs.length+ys.length:=by
 have l1:=zA zs (min (aW zs) (aW ys));have l2:=zA ys (min (aW zs) (aW ys));have less:∀us:List Int,us≠[]->aW us=min (aW zs) (aW ys)->(aZ us (min (aW zs) (aW ys))).length<us.length:=fun us hu e=>by
  unfold aZ;rw[if_pos e];cases us with
  |nil=>exact absurd rfl hu
  |cons x xs=>simp
 by_cases h1:zs=[]
 ·have h2:ys≠[]:=fun e=>h ⟨h1,e⟩
  have f2:=aCD hy h2;have f1:aW zs=64:=by rw[h1];rfl
  have:=less ys h2 o_;exact⟨o_,o_⟩
 ·have f1:=aCD hz h1
  by_cases h3:aW zs<=aW ys
  ·have:=less zs h1 o_
   exact⟨o_,o_⟩
  ·have h2:ys≠[]:=fun e=>h3 (by rw[e];show aW zs<=64;omega)
   have:=less ys h2 o_;exact⟨o_,o_⟩
theorem eC {zs:List Int} {m z:Int} (h:z ∈ aZ zs m):z ∈ zs:=by
 unfold aZ at h
 split at h
 ·exact List.mem_of_mem_tail h
 ·exact h
def rX:Value->Nat
 | .slice _ n _=>n
 |_=>0
theorem aII (n:Nat) (hn:1<=n) (l Ba Bb n₀:Nat) (u v:Value) (zs ys:List Int) (hz:∀z ∈ zs,z<64) (hy:∀z ∈ ys,z<64) (J Jx:List Int->World->Prop)
  (hY:∀pre x W,J pre W->pre.length<zs.length+ys.length->YieldAt Fence.wide (n - 1) prog l #[iv x] W fun e W'=>
      (e=.returned (.bool true)/\J (pre++[x]) W'/\Below n₀ W W')\/(e=.returned (.bool false)/\Jx (pre++[x]) W'))
  (hJd:∀s W1,J s W1->J s W1.drew) (W:World) (hA:W.cell? ⟨Ba,0,none⟩=some u) (hB:W.cell? ⟨Bb,0,none⟩=some v) (iA:InB n₀ W u zs) (iB:InB n₀ W v ys) (h0:J [] W):
  CallsIn Fence.wide n prog 286 #[.func (.yield l) #[] #[],.pointer (some ⟨Ba,0,none⟩),.pointer (some ⟨Bb,0,none⟩)] W fun e W'=>(∃v,e=.returned v)/\
   ((∃xs,xs=kV zs ys/\J xs W')\/(∃pre,pre<+:kV zs ys/\Jx pre W')):=by
 have form:∀{v zs},InB n₀ W v zs->∃x c,v=.slice x zs.length c:=fun h=>by
  exact zBd
 obtain⟨xa,ca,rfl⟩:=form iA;obtain⟨xb,cb,rfl⟩:=form iB;obtain⟨na,hna⟩:=nm_ zs.length;obtain⟨nb,hnb⟩:=nm_ ys.length;rw[<-hna]at hA iA;rw[<-hnb]at hB iB;have NA:=hd_ hna;have NB:=hd_ hnb;have IA:=hd_ iA;have IB:=hd_ iB;have HY:=hd_ hY;have HZ:=hd_ hz;have HYS:=hd_ hy;have H0:=hd_ h0;clear form hna hnb iA iB hY hz hy h0;refine callsIn_of_wp func286 rfl trivial ?_ rfl
 simp only[ntmps286,List.size_toArray,List.length_cons,List.length_nil,Nat.reduceAdd,Nat.reduceSub,Array.replicate_succ,Array.replicate_zero,List.push_toArray,List.append_toArray,List.nil_append,List.cons_append]
 gi_wp2
 gi_region
 gi_wp2
 gi_loopw [4,5] (fun p q wr=>∃(pre xs ys':List Int) (k:Nat),InB n₀ wr p xs/\InB n₀ wr q ys'/\(∀z ∈ xs,z<64)/\(∀z ∈ ys',z<64)/\pre++pT k xs ys'=kV zs ys/\xs.length+ys'.length<=k/\pre.length+(xs.length+ys'.length)<=zs.length+ys.length/\rX p=xs.length/\rX q=ys'.length/\J pre wr)
  (fun p q _=>rX p+rX q)
 case atStart=>exact⟨[],zs,ys,zs.length+ys.length,IA.out,IB.out,HZ.out,HYS.out,rfl,Nat.le_refl _,by simp,NA.out,NB.out,hJd _ _ H0.out⟩
 case round=>
  obtain⟨pre,xs,ys',k,ia,ib,hx,hy',hb,hk,hpre,sa,sb,hJs⟩:=hrel;have form:∀{v zs},InB n₀ wr v zs->∃x c,v=.slice x zs.length c:=fun h=>by
   exact zBd
  obtain⟨ya,da,rfl⟩:=form ia;obtain⟨yb,db,rfl⟩:=form ib;clear form sa sb
  by_cases hE:xs=[]/\ys'=[]
  ·obtain⟨rfl,rfl⟩:=hE
   have fin:Hid (pre=kV zs ys):=by
    have e:pT k [] []=[]:=by
     cases k with
     |zero=>rfl
     |succ k=>simp[pT]
    show pre=_
    rw[<-hb,e,List.append_nil]
   have HJ:=hd_ hJs;clear ia ib hx hy' hb hk hpre hJs
   gi_wp2
   go_end0
   exact⟨⟨_,rfl⟩,.inl ⟨pre,fin.out,HJ.out⟩⟩
  ·have hl:=yD hx hy' hE
   obtain⟨k',rfl⟩:∃k',k=k'+1:=by
    cases k with
    |zero=>exact absurd ⟨List.eq_nil_of_length_eq_zero o_,List.eq_nil_of_length_eq_zero o_⟩ hE
    |succ k=>exact⟨k,rfl⟩
   have hb':pre++[min (aW xs) (aW ys')]++pT k' (aZ xs (min (aW xs) (aW ys'))) (aZ ys' (min (aW xs) (aW ys')))=kV zs ys:=by
    rw[<-hb]
    conv=>rhs;unfold pT
    rw[if_neg hE];simp
   have KA:=hd_ (qO n₀ wr _ xs ia);have KB:=hd_ (qO n₀ wr _ ys' ib);obtain⟨M,hM⟩:=nm_ (min (aW xs) (aW ys'));rw[<-hM]at hl hb';have HB:=hd_ hb';have LE:=hd_ hl;have LT:Hid (pre.length<zs.length+ys.length):=by
    have:0<xs.length+ys'.length:=o_;show pre.length<_
    omega
   have JS:=hd_ hJs;have RA:Hid (∀W3,Below n₀ wr W3->Calls prog 288 #[.slice ya xs.length da,iv M] W3 fun e w'=>∃x c,e=.returned (.slice x (aZ xs M).length c)/\InB n₀ W3 (.slice x (aZ xs M).length c) (aZ xs M)/\W3=w'):=fun W3 h3=>
    uC n₀ W3 _ xs M (ia.below h3) (fun _=>by omega)
   have RB:Hid (∀W3,Below n₀ wr W3->Calls prog 288 #[.slice yb ys'.length db,iv M] W3 fun e w'=>∃x c,e=.returned (.slice x (aZ ys' M).length c)/\InB n₀ W3 (.slice x (aZ ys' M).length c) (aZ ys' M)/\W3=w'):=fun W3 h3=>
    uC n₀ W3 _ ys' M (ib.below h3) (fun _=>by omega)
   have MA:Hid (∀z ∈ aZ xs M,z<64):=fun z h=>hx z (eC h)
   have MB:Hid (∀z ∈ aZ ys' M,z<64):=fun z h=>hy' z (eC h)
   have HPR:=hd_ hpre;have HK:=hd_ hk;have pos:0<xs.length\/(xs.length=0/\0<ys'.length):=o_;obtain⟨fn,tmps,assign,body,hy,hR⟩:=HY.out pre M wr hJs LT.out;obtain⟨nx,hnx⟩:=nm_ xs.length;obtain⟨ny,hny⟩:=nm_ ys'.length;rw[<-hnx]at KA RA pos ⊢;rw[<-hny]at KB RB pos ⊢;have NX:=hd_ hnx;have NY:=hd_ hny;generalize aW xs=f1 at *;generalize aW ys'=f2 at *
   clear ia ib hx hy' hb hb' hk hpre hJs hl hE hnx hny;have hmin:(f1<=f2/\M=f1)\/(¬f1<=f2/\M=f2):=o_;clear hM;rcases pos with px|⟨rfl,py⟩
   ·have px':(0:Int)<(nx:Int):=o_
    rcases hmin with ⟨hle,rfl⟩|⟨hle,rfl⟩
    ·exact zl
    ·exact zl
   ·have py':(0:Int)<(ny:Int):=o_
    rcases hmin with ⟨hle,rfl⟩|⟨hle,rfl⟩
    ·exact zl
    ·exact zl
attribute [local go_sem] Oper.semAt_some
theorem aAO (w:World) (u v:Value) (x y:Option Addr) (n m c d:Nat) (hu:u=.slice x n c) (hv:v=.slice y m d):
  Calls prog 249 #[u,v] w fun e w'=>e=.returned (.func (.func 286) #[] #[.pointer (some ⟨w.heap.size,0,none⟩),.pointer (some ⟨w.heap.size+1,0,none⟩)])/\w'=(w.alloc (.cells #[u] 23)).alloc (.cells #[v] 23):=by
 subst hu hv;refine (callsIn_wide (n:=3)).1 ?_;refine callsIn_of_wp func249 rfl trivial ?_ rfl;simp only[ntmps249,List.size_toArray,List.length_cons,List.length_nil,Nat.reduceAdd,Nat.reduceSub,Array.replicate_succ,Array.replicate_zero,List.push_toArray,List.append_toArray,List.nil_append,List.cons_append]
 gi_wp2
 go_ret;exact⟨rfl,rfl⟩
theorem aEy {zs:List Int} {x:Int}:x ∈ zs↔∃i,i<zs.length/\zs.getD i 0=x:=by
 exact zBo
theorem aFt (n:Nat) (hn:1<=n) (Ba Bb n₀:Nat) (u v:Value) (zs ys:List Int) (hz:∀z ∈ zs,z<64) (hy:∀z ∈ ys,z<64) (w:World) (hBa:Ba<w.heap.size) (hBb:Bb<w.heap.size) (hn₀:n₀<=w.heap.size)
  (hA:w.cell? ⟨Ba,0,none⟩=some u) (hB:w.cell? ⟨Bb,0,none⟩=some v) (iA:InB n₀ w u zs) (iB:InB n₀ w v ys):
  SeqStopsK Fence.wide n prog 286 #[.pointer (some ⟨Ba,0,none⟩),.pointer (some ⟨Bb,0,none⟩)] (fun x:Int=>#[Value.int .i64 x]) (Below n₀) (fun xs=>xs=kV zs ys) (fun pre=>pre<+:kV zs ys) (zs.length+ys.length) w:=fun l J Jx W hW hJ _ hY h0=>
 aII n hn l Ba Bb n₀ u v zs ys hz hy J Jx hY (fun s W1 h=>hJ s W1 W1.drew none h ⟨rfl,rfl,rfl,Nat.le_refl _,fun _ _ _=>rfl⟩ (fun _ e=>by cases e)) W ((hW.cell (p:=⟨Ba,0,none⟩) hBa).trans hA) ((hW.cell (p:=⟨Bb,0,none⟩) hBb).trans hB) (iA.below (hW.mono hn₀)) (iB.below (hW.mono hn₀)) h0
theorem aBJ (w:World) (u v:Value) (zs ys:List Int) (ha:dE w u zs) (hb:dE w v ys) (oka:fD zs=true) (okb:fD ys=true):
  Calls prog 196 #[.agg #[u],.agg #[v]] w fun e w'=>∃v',e=.returned (.tuple #[.agg #[v'],.bool true])/\cE w' w.heap.size v' ((kV zs ys).take 6)/\Below w.heap.size w w':=by
 obtain⟨i0,hi,hz0,hz1,hz2⟩:=info_parts aAF;have hA:=(((Below.refl w.heap.size w).alloc lr_ (.cells #[u] 38)).alloc (by simp) (.cells #[v] 38)).alloc (by simp;omega) (.cells #[zn] 38);have z64:∀z ∈ zs,z<64:=fun z hz=>by
  obtain⟨i,hi,rfl⟩:=aEy.1 hz;have:=((iS oka).2.1 i hi).2;omega
 have y64:∀z ∈ ys,z<64:=fun z hz=>by
  obtain⟨i,hi,rfl⟩:=aEy.1 hz;have:=((iS okb).2.1 i hi).2;omega
 have la:=(iS oka).1;have lb:=(iS okb).1;have IA:=hd_ ha.inB;have IB:=hd_ hb.inB;have KA:=hd_ (oH _ u zs (ha.below hA lr_));have JB:=hd_ (hb.below hA lr_);rw[oka]at KA;have HA:=hd_ hA;obtain⟨⟨x,c,hx⟩,_⟩:=ha.cases;obtain⟨⟨y,d,hy⟩,_⟩:=hb.cases;obtain⟨na,hna⟩:=nm_ zs.length;obtain⟨nb,hnb⟩:=nm_ ys.length;rw[<-hna]at hx;rw[<-hnb]at hy;have NA:=hd_ hna;have NB:=hd_ hnb;subst hx hy
 obtain⟨w0,hw0⟩:=nm_ (((w.alloc (.cells #[.slice x na c] 38)).alloc (.cells #[.slice y nb d] 38)).alloc (.cells #[zn] 38));have c0:w0.cell? ⟨w.heap.size,0,none⟩=some (.slice x na c):=by rw[hw0,World.cell?_alloc_past (hn:=by simp;omega),World.cell?_alloc_past (hn:=by simp)];simp
 have c1:w0.cell? ⟨w.heap.size+1,0,none⟩=some (.slice y nb d):=by rw[hw0,World.cell?_alloc_past (hn:=by simp),World.cell?_alloc_at (hn:=by simp)];simp
 have b2:Go.Boxed w0 (w.heap.size+1+1) 38 zn:=by
  rw[hw0];have:=Go.Boxed.new ((w.alloc (.cells #[.slice x na c] 38)).alloc (.cells #[.slice y nb d] 38)) 38 zn;simpa using this
 have S0:Hid (w0.heap.size=w.heap.size+3):=by show w0.heap.size=_;rw[hw0];simp
 rw[<-hw0]at KA JB HA;have B2:=hd_ b2;have HW:=hd_ hw0;clear ha hb hA hna hnb hw0 b2 oka la lb;refine (callsIn_wide (n:=9)).1 ?_;refine callsIn_of_wp_marks func196 rfl trivial ?_ rfl
 simp only[ntmps196,List.size_toArray,List.length_cons,List.length_nil,Nat.reduceAdd,Nat.reduceSub,Array.replicate_succ,Array.replicate_zero,List.push_toArray,List.append_toArray,List.nil_append,List.cons_append]
 gi_wp2_with fail
 rw[<-HW.out];refine⟨trivial,(callsIn_wide.2 KA.out).mono ?_⟩;rintro e w1 ⟨rfl,hb1⟩;have c01:=cell_later hb1 c0;have c11:=cell_later hb1 c1;have KB:=hd_ (oH w1 _ ys (JB.out.below hb1 lr_));rw[okb]at KB;have BX1:Hid (Go.Boxed w1 (w.heap.size+1+1) 38 zn):=(hb1.block _ B2.out.lt).trans B2.out;have L1:=hd_ (HA.out.trans (hb1.mono HA.out.size))
 have S1:Hid (w.heap.size+3<=w1.heap.size):=by have h1:=S0.out;have h2:=hb1.size;show _<=_;omega
 clear hb1 c0 c1 okb
 gi_wp2_with fail
 refine⟨trivial,(callsIn_wide.2 KB.out).mono ?_⟩;rintro e w2 ⟨rfl,hb2⟩;have c02:=cell_later hb2 c01;have c12:=cell_later hb2 c11;have BX2:Hid (Go.Boxed w2 (w.heap.size+1+1) 38 zn):=(hb2.block _ BX1.out.lt).trans BX1.out;have L2:=hd_ (L1.out.trans (hb2.mono L1.out.size));have S2:Hid (w.heap.size+3<=w2.heap.size):=by have h1:=S1.out;have h2:=hb2.size;show _<=_;omega
 have l0:w.heap.size<w2.heap.size:=World.block_lt_of_cell? _ _ c02;have l1:w.heap.size+1<w2.heap.size:=World.block_lt_of_cell? _ _ c12;have c03:(w2.alloc (.cells #[zn] 23)).cell? ⟨w.heap.size,0,none⟩=some (.slice x na c):=by rw[World.cell?_alloc_past (hn:=l0)];exact c02
 have c13:(w2.alloc (.cells #[zn] 23)).cell? ⟨w.heap.size+1,0,none⟩=some (.slice y nb d):=by rw[World.cell?_alloc_past (hn:=l1)];exact c12
 have e1:¬w.heap.size=w2.heap.size:=o_;have e2:¬w.heap.size+1=w2.heap.size:=o_;clear hb2 c01 c11
 gi_wp2_with fail
 refine⟨trivial,(callsIn_wide.2 (aAO _ _ _ x y na nb c d rfl rfl)).mono ?_⟩;rintro e w3 ⟨rfl,hw3⟩;have s3:w3.heap.size=w2.heap.size+3:=by rw[hw3];simp
 have kb:Go.Boxed w3 w2.heap.size 23 zn:=by rw[hw3];exact ((Go.Boxed.new w2 23 zn).alloc _).alloc _
 have rb:Go.Boxed w3 (w.heap.size+1+1) 38 zn:=by rw[hw3];exact ((BX2.out.alloc _).alloc _).alloc _
 have ca:w3.cell? ⟨w2.heap.size+1,0,none⟩=some (.slice x na c):=by rw[hw3,World.cell?_alloc_past (hn:=by simp),World.cell?_alloc_at (hn:=by simp)];simp
 have cb:w3.cell? ⟨w2.heap.size+2,0,none⟩=some (.slice y nb d):=by rw[hw3,World.cell?_alloc_at (hn:=by simp)];simp
 have hB3:Below w.heap.size w w3:=by
  have h2:=S2.out;have:=((L2.out.alloc (o:=.cells #[zn] 23) L2.out.size).alloc (o:=.cells #[.slice x na c] 23) (by have:=L2.out.size;simp;omega)).alloc (o:=.cells #[.slice y nb d] 23) (by have:=L2.out.size;simp;omega);rw[hw3];exact this
 have B3:=hd_ hB3;have HW3:=hd_ hw3;have lw:Hid (w.heap.size+3<=w2.heap.size):=S2.out;clear hw3 c02 c12 c03 c13 hB3 l0 l1 e1 e2;simp only[World.size_alloc]
 gi_wp2
 refine wpIn_rangeFunc_ownG rfl o_ (gf:=286) (lb:=#[.pointer (some ⟨w2.heap.size+1,0,none⟩),.pointer (some ⟨w2.heap.size+1+1,0,none⟩)]) rfl trivial (enters_of func286 kr_ rfl)
  (aFt 8 o_ (w2.heap.size+1) (w2.heap.size+2) w.heap.size _ _ zs ys z64 y64 w3 o_ o_ B3.out.size ca cb (IA.out.below B3.out) (IB.out.below B3.out)) belowK_t (belowK_b (by have:=lw.out;omega)) (Below.refl _ _) (fun _=>rfl)
  (fun (pre:List Int) W=>(∃v,Go.Boxed W w2.heap.size 23 v/\W.ownsRow w.heap.size 3 1 v pre.length (cC pre)/\True)/\Go.Boxed W (w.heap.size+1+1) 38 zn/\Below w.heap.size w W/\pre.length<=6)
  (fun c (pre:List Int) W=>(c=.exit 0/\pre.length=7)/\(∃v,Go.Boxed W w2.heap.size 23 v/\W.ownsRow w.heap.size 3 1 v 6 (cC (pre.take 6))/\True)/\Go.Boxed W (w.heap.size+1+1) 38 zn/\Below w.heap.size w W)
  (OwnFrom.and (Own.from (holdsRow_own w.heap.size w2.heap.size 23 3 1 (fun pre:List Int=>pre.length) (fun pre=>cC pre) (fun _ _=>True)) _) (OwnFrom.and (Own.from (boxed_own (w.heap.size+1+1) 38 (fun _=>.slice none 0 0)) _) (OwnFrom.and (ownFrom_below lr_ B3.out.size) (ownFrom_pure _ (fun pre:List Int=>pre.length<=6)))))
  (fun c=>OwnFrom.and (ownFrom_pure _ (fun pre:List Int=>c=.exit 0/\pre.length=7)) (OwnFrom.and (Own.from (holdsRow_own w.heap.size w2.heap.size 23 3 1 (fun _=>6) (fun pre:List Int=>cC (pre.take 6)) (fun _ _=>True)) _) (OwnFrom.and (Own.from (boxed_own (w.heap.size+1+1) 38 (fun _=>.slice none 0 0)) _) (ownFrom_below lr_ B3.out.size))))
  ⟨⟨_,kb,World.ownsRow_nil _ _ _ _,trivial⟩,rb,B3.out,by simp⟩
  (fun m=>{ tmps:=#[.agg #[.slice x na c],.agg #[.slice y nb d],.pointer (some ⟨w.heap.size,0,none⟩),.pointer (some ⟨w.heap.size+1,0,none⟩),.pointer (some ⟨w.heap.size+1+1,0,none⟩),.bool false,.pointer (some ⟨w2.heap.size,0,none⟩),iv m,.agg #[.slice x na c],.bool true,.bool false,.bool false,.agg #[.slice y nb d],.bool true,.bool false,.bool false,undef,.pointer (some ⟨w.heap.size,0,none⟩),.slice x na c,.pointer (some ⟨w.heap.size+1,0,none⟩),.slice y nb d,.func (.func 286) #[] #[.pointer (some ⟨w2.heap.size+1,0,none⟩),.pointer (some ⟨w2.heap.size+1+1,0,none⟩)],iv m,undef,undef,undef,undef,undef,undef,undef,undef,undef],defers:=[] }) ?assign ?body ?done ?stop
 case assign=>
  intro l x W K hK
  gi_wp2
  exact hK
 case body=>
  rintro l pre m W ⟨⟨v,hv,hrow,_⟩,hR,hB,hp6⟩ hlt;have hf:=(show cE W w.heap.size v pre from hrow).form;obtain⟨xv,cv,rfl⟩:=hf;obtain⟨np,hnp⟩:=nm_ pre.length;rw[<-hnp]at hv hrow hp6;have hc:=hv.cell;have NP:=hd_ hnp;have HR:=hd_ hR;have HBW:=hd_ hB;have lS:=hB.size;have lw3:=lw.out;have dR:=hR.not_row dc_ hrow;clear hR hB hnp hlt
  by_cases h6:np=6
  ·subst h6
   gi_wp2
   refine⟨KeepsFrom.refl _ _,⟨rfl,by simp;rw[<-NP.out]⟩,⟨_,hv,?_,trivial⟩,HR.out,HBW.out⟩;have e:(pre++[m]).take 6=pre:=by rw[List.take_append_of_le_length (by rw[<-NP.out];exact Nat.le_refl _),List.take_of_length_le (by rw[<-NP.out];exact Nat.le_refl _)]
   rw[e];exact hrow
  ·have n6:¬(np:Int)=6:=o_
   have n6':((np:Int)==6)=false:=by simp;omega
   gi_wp2_with (gi_at_builtin;refine wpListIn_append_own _ rfl _ _ 23 rfl w.heap.size 3 i0 (iv 0) 1 8 underlying23 hi hz0 hz1 hz2 rfl dc_ _ _ _ rfl (hrow.alloc _) ⟨W.heap.size,0,none⟩ 1 1 [iv m] rfl rfl (cell_one_new _ _ _) (by simp[Value.oneCell']) (by unfold maxLen;omega) o_ (by simp;omega) ?_;intro v' w1 hown' hgrow _;obtain⟨g',cap',rfl,_,_⟩:=World.ownsRow.form hown' (Nat.succ_pos _);obtain⟨hv1,hv2,hr2,hk2,hb2⟩:=hv.appended dc_ hrow lS o_ hown' hgrow;have hR1:=(HR.out.alloc _).kept hgrow dR;have hc1:=hv1.cell;have hf1:=hv1.frozen)
   refine⟨hk2.from _,hb2,⟨_,hv2,?_,trivial⟩,hR1.other o_ _,HBW.out.trans hb2,by simp;rw[<-NP.out];omega⟩;rw[List.length_append, <-NP.out,yO];exact hr2
 case done=>
  rintro D xs W hD rfl ⟨⟨v,hv,hrow,_⟩,hR,hB,hp6⟩ hK;have hf:=(show cE W w.heap.size v (kV zs ys)from hrow).form;obtain⟨xv,cv,rfl⟩:=hf;obtain⟨np,hnp⟩:=nm_ ((kV zs ys).length);rw[<-hnp]at hv hrow hp6;have hc:=hv.cell;have hRc:=hR.cell;have hRf:=hR.frozen;have NP:=hd_ hnp;have HB:=hd_ hB;have lw3:=lw.out;clear hB hnp
  gi_wp2
  have hK2:=(KeepsOthers.setCell W ⟨w.heap.size+1+1,0,none⟩ (.slice xv np cv)).same D _ hK rfl;refine⟨by simp,.inl ⟨_,_,rfl,run_takeDeferred hK2,?_⟩⟩;have b4:=((hR.set (.slice xv np cv)).kept (grownBy_putObj' _ D (.deferred none)) (by simp;omega))
  have hr:=b4.cell;have o2:=(hrow.kept (grownBy_setCell' W (w.heap.size+1+1) (.slice xv np cv)) (.inr (hR.not_row dc_ hrow).symm))
  have o3:=ownsRow_putObj o2 (.deferred none) hK2 rfl;have hb4:Below w.heap.size W (W.setCell ⟨w.heap.size+1+1,0,none⟩ (.slice xv np cv)):=(Below.refl _ _).setCell (by simp;omega) _;refine⟨.tuple #[.agg #[.slice xv np cv],.bool true],by simp[results,results196,go_sem,hr],_,rfl,?_,(HB.out.trans hb4).trans (belowK_b (w:=w) lr_ _ D _ _ o_ hK2 rfl rfl)⟩;unfold cE
  have e:(kV zs ys).take 6=kV zs ys:=List.take_of_length_le (by rw[<-NP.out];exact hp6);rw[e, <-NP.out];exact o3
 case stop=>
  rintro D cj pre W hD hpf ⟨⟨rfl,h7⟩,⟨v,hv,hrow,_⟩,hR,hB⟩ hK;have l6:(pre.take 6).length=6:=by simp;omega
  have hf:=(show cE W w.heap.size v (pre.take 6)from by unfold cE;rw[l6];exact hrow).form;rw[l6]at hf;obtain⟨xv,cv,rfl⟩:=hf;obtain⟨np,hnp⟩:∃np,np=6:=⟨_,rfl⟩
  rw[<-hnp]at hv hrow;have hc:=hv.cell;have hRc:=hR.cell;have hRf:=hR.frozen;have NP:=hd_ hnp;have HB:=hd_ hB;have lw3:=lw.out;have PF:=hd_ hpf;clear hB hnp hpf
  gi_wp2
  have hK2:=(KeepsOthers.setCell W ⟨w.heap.size+1+1,0,none⟩ (.slice xv np cv)).same D _ hK rfl;refine⟨by simp,.inl ⟨_,_,rfl,run_takeDeferred hK2,?_⟩⟩;have b4:=((hR.set (.slice xv np cv)).kept (grownBy_putObj' _ D (.deferred none)) (by simp;omega))
  have hr:=b4.cell;have o2:=(hrow.kept (grownBy_setCell' W (w.heap.size+1+1) (.slice xv np cv)) (.inr (hR.not_row dc_ hrow).symm))
  have o3:=ownsRow_putObj o2 (.deferred none) hK2 rfl;have hb4:Below w.heap.size W (W.setCell ⟨w.heap.size+1+1,0,none⟩ (.slice xv np cv)):=(Below.refl _ _).setCell (by simp;omega) _;refine⟨.tuple #[.agg #[.slice xv np cv],.bool true],by simp[results,results196,go_sem,hr],_,rfl,?_,(HB.out.trans hb4).trans (belowK_b (w:=w) lr_ _ D _ _ o_ hK2 rfl rfl)⟩
  have e:(kV zs ys).take 6=pre.take 6:=by
   obtain⟨r,hr'⟩:=PF.out;rw[<-hr',List.take_append_of_le_length o_]
  unfold cE;rw[e,l6, <-NP.out];exact o3
end Go.Proofs.YtcblbdpdbggkbaaGreat
namespace Go.Proofs.YtcblbdpdbggkbaaGreat
open _root_.Go.Proofs.Tryz
open Go.RowKit
abbrev Asc (zs:List Int):Prop:=zs.Pairwise (· <·)
theorem vL:∀{X Y:List Int},Asc X->Asc Y->(∀z,z ∈ X↔z ∈ Y)->X=Y
 | [],[],_,_,_=>rfl
 | [],y::Y,_,_,h=>by have:=(h y).2 (by simp);simp at this
 |x::X,[],_,_,h=>by have:=(h x).1 (by simp);simp at this
 |x::X,y::Y,hx,hy,h=>by
  obtain⟨x1,x2⟩:=List.pairwise_cons.1 hx;obtain⟨y1,y2⟩:=List.pairwise_cons.1 hy;have e:x=y:=by
   have h1:=(h x).1 (by simp);have h2:=(h y).2 (by simp);simp only[List.mem_cons]at h1 h2;rcases h1 with h1|h1
   ·exact h1
   ·rcases h2 with h2|h2
    ·exact h2.symm
    ·have:=y1 x h1;have:=x1 y h2;omega
  subst e
  congr 1
  refine vL x2 y2 fun z=>?_
  have hz:=h z;simp only[List.mem_cons]at hz
  constructor
  ·intro q
   have:=x1 z q;rcases hz.1 (.inr q)with e|e
   ·omega
   ·exact e
  ·intro q
   have:=y1 z q;rcases hz.2 (.inr q)with e|e
   ·omega
   ·exact e
def ins (m:Int):List Int->List Int
 | []=>[m]
 |x::xs=>if m<x then m::x::xs else if m=x then x::xs else x::ins m xs
theorem aDH (m:Int):∀(zs:List Int) (z:Int),z ∈ ins m zs↔z=m\/z ∈ zs
 | [],z=>by simp[ins]
 |x::xs,z=>by
  unfold ins
  by_cases h1:m<x
  ·rw[if_pos h1];simp
  ·rw[if_neg h1]
   by_cases h2:m=x
   ·rw[if_pos h2];subst h2;simp
   ·rw[if_neg h2]
    simp only[List.mem_cons,aDH m xs z]
    constructor
    ·rintro (h|h|h)
     ·exact .inr (.inl h)
     ·exact .inl h
     ·exact .inr (.inr h)
    ·rintro (h|h|h)
     ·exact .inr (.inl h)
     ·exact .inl h
     ·exact .inr (.inr h)
theorem aGt (m:Int):∀{zs:List Int},Asc zs->Asc (ins m zs)
 | [],_=>by simp[ins]
 |x::xs,h=>by
  obtain⟨h1,h2⟩:=List.pairwise_cons.1 h;unfold ins
  by_cases q1:m<x
  ·rw[if_pos q1]
   refine List.pairwise_cons.2 ⟨fun z hz=>?_,h⟩;simp only[List.mem_cons]at hz;rcases hz with rfl|hz
   ·exact q1
   ·have:=h1 z hz;omega
  ·rw[if_neg q1]
   by_cases q2:m=x
   ·rw[if_pos q2];exact h
   ·rw[if_neg q2]
    refine List.pairwise_cons.2 ⟨fun z hz=>?_,aGt m h2⟩;rcases (aDH m xs z).1 hz with rfl|hz
    ·omega
    ·exact h1 z hz
theorem aDW (m:Int):∀(zs:List Int) (k:Nat),(ins m (zs.take k)).take k=(ins m zs).take k
 |_,0=>by simp
 | [],k+1=>by simp
 |x::xs,k+1=>by
  rw[List.take_succ_cons];unfold ins
  by_cases q1:m<x
  ·rw[if_pos q1,if_pos q1,List.take_succ_cons,List.take_succ_cons]
   congr 1
   cases k with
   |zero=>simp
   |succ k=>rw[List.take_succ_cons,List.take_succ_cons,List.take_take];congr 2;omega
  ·rw[if_neg q1,if_neg q1]
   by_cases q2:m=x
   ·rw[if_pos q2,if_pos q2,List.take_succ_cons,List.take_succ_cons,List.take_take];congr 2;omega
   ·rw[if_neg q2,if_neg q2,List.take_succ_cons,List.take_succ_cons,aDW m xs k]
theorem xX (m:Int):∀{zs:List Int},(∀z ∈ zs,m<z)->pG m zs true=zs
 | [],_=>rfl
 |x::xs,h=>by
  have h1:=h x (by simp);rw[aLf _ (.inl rfl) (by omega),xX m (fun z hz=>h z (by simp[hz]))]
  rfl
theorem aDT (m:Int):∀{zs:List Int},Asc zs->pG m zs false=ins m zs
 | [],_=>rfl
 |x::xs,h=>by
  obtain⟨h1,h2⟩:=List.pairwise_cons.1 h;unfold ins
  by_cases q1:m<x
  ·rw[if_pos q1,aMu _ (by omega) (by omega),xX m (fun z hz=>by have:=h1 z hz;omega)];rfl
  ·rw[if_neg q1]
   by_cases q2:m=x
   ·subst q2
    rw[if_pos rfl,aMg,xX m h1];rfl
   ·rw[if_neg q2,aLf _ (.inr (by omega)) (by omega),aDT m h2];rfl
def eJ (zs ys:List Int):List Int:=ys.foldl (fun acc m=>ins m acc) zs
theorem gM:∀(ys zs:List Int) (z:Int),z ∈ eJ zs ys↔z ∈ zs\/z ∈ ys
 | [],zs,z=>by simp[eJ]
 |y::ys,zs,z=>by
  show z ∈ eJ (ins y zs) ys↔_
  rw[gM ys,aDH];simp only[List.mem_cons]
  constructor
  ·rintro ((h|h)|h)
   ·exact .inr (.inl h)
   ·exact .inl h
   ·exact .inr (.inr h)
  ·rintro (h|h|h)
   ·exact .inl (.inr h)
   ·exact .inl (.inl h)
   ·exact .inr h
theorem iJ:∀(ys:List Int) {zs:List Int},Asc zs->Asc (eJ zs ys)
 | [],_,h=>h
 |y::ys,_,h=>iJ ys (aGt y h)
theorem nK (k:Nat):∀(ys zs:List Int),(eJ (zs.take k) ys).take k=(eJ zs ys).take k
 | [],zs=>by show (zs.take k).take k=zs.take k;rw[List.take_take];congr 1;omega
 |y::ys,zs=>by
  show (eJ (ins y (zs.take k)) ys).take k=(eJ (ins y zs) ys).take k
  rw[<-nK k ys (ins y (zs.take k)), <-nK k ys (ins y zs),aDW]
def eK (zs ys:List Int):List Int:=(eJ zs ys).take 6
theorem qR {zs ys:List Int} (hz:Asc zs) (hy:Asc ys):eJ zs ys=eJ ys zs:=
 vL (iJ _ hz) (iJ _ hy) fun z=>by rw[gM,gM];exact Or.comm
theorem aF6 {zs ys:List Int} (hz:Asc zs) (hy:Asc ys):eK zs ys=eK ys zs:=by unfold eK;rw[qR hz hy]
theorem aB2 {zs ys:List Int} (hz:Asc zs):Asc (eK zs ys):=(iJ ys hz).take
theorem aE9 {zs ys xs:List Int} (hz:Asc zs) (hy:Asc ys):eJ (eJ zs ys) xs=eJ zs (eJ ys xs):=
 vL (iJ _ (iJ _ hz)) (iJ _ hz) fun z=>by rw[gM,gM,gM,gM];exact or_assoc
theorem aEd {zs ys xs:List Int} (hz:Asc zs) (hy:Asc ys) (hx:Asc xs):eK (eK zs ys) xs=eK zs (eK ys xs):=by
 have e1:eK (eK zs ys) xs=(eJ (eJ zs ys) xs).take 6:=nK 6 xs (eJ zs ys);have e2:eK zs (eK ys xs)=(eJ (eJ ys xs) zs).take 6:=by
  rw[aF6 hz (aB2 hy)];exact nK 6 zs (eJ ys xs)
 rw[e1,e2,aE9 hz hy,qR hz (iJ _ hy)]
theorem aFI {zs ys:List Int} (hz:Asc zs) (hy:Asc ys):eK (eK zs ys) ys=eK zs ys:=by
 rw[aEd hz hy hy];unfold eK;have e:eJ ys ys=ys:=vL (iJ _ hy) hy fun z=>by rw[gM];exact or_self_iff
 rw[e];rw[qR hz (List.Pairwise.take hy),nK,qR hz hy]
theorem zJ {u m:Int} (us:List Int) (h:u=m):aZ (u::us) m=us:=by
 unfold aZ;rw[if_pos (show aW (u::us)=m from h)]
 rfl
theorem aAU {u m:Int} (us:List Int) (h:¬u=m):aZ (u::us) m=u::us:=if_neg h
theorem xV:∀(k:Nat) (zs ys:List Int),(∀z ∈ zs,z<64)->(∀z ∈ ys,z<64)->zs.length+ys.length<=k->∀z,z ∈ pT k zs ys↔z ∈ zs\/z ∈ ys
 | 0,zs,ys,_,_,hk,z=>by
  have h1:zs=[]:=List.eq_nil_of_length_eq_zero (by omega);have h2:ys=[]:=List.eq_nil_of_length_eq_zero (by omega);subst h1 h2;simp[pT]
 |k+1,zs,ys,hz,hy,hk,z=>by
  unfold pT
  by_cases hE:zs=[]/\ys=[]
  ·rw[if_pos hE,hE.1,hE.2];simp
  ·rw[if_neg hE]
   obtain⟨m64,hlt⟩:=yD hz hy hE;obtain⟨M,hM⟩:∃M,M=min (aW zs) (aW ys):=⟨_,rfl⟩
   rw[<-hM]at m64 hlt ⊢;rw[List.mem_cons,xV k _ _ (fun z h=>hz z (eC h)) (fun z h=>hy z (eC h)) (by omega)];have bm:∀us:List Int,(z ∈ us/\z≠M->z ∈ aZ us M)/\(aW us=M->us≠[]->M ∈ us):=fun us=>by
    cases us with
    |nil=>exact⟨fun h=>by simp at h,fun _ h=>absurd rfl h⟩
    |cons u us=>
     refine⟨fun h=>?_,fun h _=>by rw[<-show u=M from h];simp⟩
     by_cases e:u=M
     ·rw[zJ us e]
      subst e;simp only[List.mem_cons]at h;rcases h.1 with h1|h1
      ·exact absurd h1 h.2
      ·exact h1
     ·rw[aAU us e]
      exact h.1
   constructor
   ·rintro (rfl|h|h)
    ·by_cases h3:aW zs<=aW ys
     ·have e:aW zs=z:=by omega
      refine .inl ((bm zs).2 e fun q=>?_);rw[q]at e;rw[<-e]at m64;exact absurd m64 dc_
     ·have e:aW ys=z:=by omega
      refine .inr ((bm ys).2 e fun q=>?_);rw[q]at e;rw[<-e]at m64;exact absurd m64 dc_
    ·exact .inl (eC h)
    ·exact .inr (eC h)
   ·intro h
    by_cases e:z=M
    ·exact .inl e
    ·exact .inr (h.imp (fun q=>(bm zs).1 ⟨q,e⟩) (fun q=>(bm ys).1 ⟨q,e⟩))
theorem zK {zs:List Int} (h:Asc zs) (m:Int):Asc (aZ zs m):=by unfold aZ;split;exact h.tail;exact h
theorem aAA {zs:List Int} (h:Asc zs) {m:Int} (hm:m<=aW zs):∀z ∈ aZ zs m,m<z:=fun z hz=>by
 cases zs with
 |nil=>have:=eC hz;cases this
 |cons x xs=>
  have h1:=(List.pairwise_cons.1 h).1;have hm':m<=x:=hm
  by_cases e:x=m
  ·rw[zJ xs e]at hz
   have:=h1 z hz;omega
  ·rw[aAU xs e]at hz
   simp only[List.mem_cons]at hz;rcases hz with rfl|hz
   ·omega
   ·have:=h1 z hz;omega
theorem aCv:∀(k:Nat) (zs ys:List Int),Asc zs->Asc ys->(∀z ∈ zs,z<64)->(∀z ∈ ys,z<64)->zs.length+ys.length<=k->Asc (pT k zs ys)
 | 0,_,_,_,_,_,_,_=>by simp[pT]
 |k+1,zs,ys,az,ay,hz,hy,hk=>by
  unfold pT
  by_cases hE:zs=[]/\ys=[]
  ·rw[if_pos hE];exact List.Pairwise.nil
  ·rw[if_neg hE]
   obtain⟨m64,hlt⟩:=yD hz hy hE;obtain⟨M,hM⟩:∃M,M=min (aW zs) (aW ys):=⟨_,rfl⟩
   rw[<-hM]at m64 hlt ⊢;refine List.pairwise_cons.2 ⟨fun z hz'=>?_,aCv k _ _ (zK az M) (zK ay M) (fun z h=>hz z (eC h)) (fun z h=>hy z (eC h)) (by omega)⟩;rcases (xV k _ _ (fun z h=>hz z (eC h)) (fun z h=>hy z (eC h)) (by omega) z).1 hz' with h|h
   ·exact aAA az (by omega) z h
   ·exact aAA ay (by omega) z h
theorem aHQ {zs ys:List Int} (az:Asc zs) (ay:Asc ys) (hz:∀z ∈ zs,z<64) (hy:∀z ∈ ys,z<64):(kV zs ys).take 6=eK zs ys:=by
 have:kV zs ys=eJ zs ys:=vL (aCv _ _ _ az ay hz hy lr_) (iJ _ az) fun z=>by
  rw[gM];exact xV _ _ _ hz hy lr_ z
 rw[this];rfl
theorem aLt {zs:List Int} (h:fD zs=true):∀j i,i<j->j<zs.length->zs.getD i 0<zs.getD j 0:=by
 have hp:=(iS h).2.2;intro j
 induction j with
 |zero=>intro i hi;omega
 |succ j ih=>
  intro i hi hj;have h1:=hp j hj
  by_cases e:i=j
  ·subst e;exact h1
  ·have:=ih i (by omega) (by omega);omega
theorem rF {zs:List Int} (h:fD zs=true):Asc zs:=by
 rw[Asc,List.pairwise_iff_getElem];intro i j hi hj hij;have:=aLt h j i hij hj;simpa[hi,hj]using this
theorem aDd {zs:List Int} (h:fD zs=true):∀z ∈ zs,0<=z/\z<64:=fun z hz=>by
 obtain⟨i,hi,rfl⟩:=aKC.1 hz;have:=(iS h).2.1 i hi;omega
theorem aIL {zs:List Int} (ha:Asc zs) (hb:∀z ∈ zs,0<=z/\z<64) (hl:zs.length<=6):fD zs=true:=by
 refine xL hl fun i hi=>⟨?_,fun h0=>?_⟩
 ·have:=hb _ (kQ zs i 0 hi);omega
 ·have:=(List.pairwise_iff_getElem.1 ha) (i - 1) i (by omega) hi (by omega)
  simpa[hi,show i - 1<zs.length by omega]using this
theorem aHb {zs ys:List Int} (hz:fD zs=true) (hy:fD ys=true):fD (eK zs ys)=true:=by
 refine aIL (aB2 (rF hz)) (fun z h=>?_) (by simp[eK];omega);rcases (gM ys zs z).1 (List.mem_of_mem_take h)with h|h
 ·exact aDd hz z h
 ·exact aDd hy z h
theorem vU {zs:List Int} (hz:Asc zs) (m:Int):pE zs m=eK zs [m]:=by
 unfold pE eK;rw[aDT m hz];rfl
end Go.Proofs.YtcblbdpdbggkbaaGreat
namespace Go.Proofs.YtcblbdpdbggkbaaGreat
open _root_.Go.Proofs.Tryz
open Go.RowKit Go.Sort
def fY (zs ys:List Int):Bool:=fD zs&&fD ys
def mV (zs ys:List Int):List Int:=if fY zs ys=true then eK zs ys else []
theorem xS {zs ys:List Int} (h:fY zs ys=true):mV zs ys=eK zs ys:=if_pos h
theorem aAM {zs ys:List Int} (h:fY zs ys=false):mV zs ys=[]:=if_neg (by rw[h];simp)
theorem aIb (zs ys:List Int):fD (mV zs ys)=true:=by
 cases h:fY zs ys with
 |true=>
  rw[xS h];unfold fY at h;simp only[Bool.and_eq_true]at h;exact aHb h.1 h.2
 |false=>rw[aAM h];decide
theorem mM {w w':World} {a:Addr} (hb:Below w.heap.size w w') (h:w.frozen? a=false) (hl:a.block<w.heap.size):w'.frozen? a=false:=by rw[hb.frozen hl];exact h
theorem aDB (w:World) (u v:Value) (zs ys:List Int) (ha:dE w u zs) (hb:dE w v ys) (hno:fY zs ys=false):
  Calls prog 196 #[.agg #[u],.agg #[v]] w fun e w'=>e=.returned (.tuple #[.agg #[zn],.bool false])/\Below w.heap.size w w':=by
 have hA:=(((Below.refl w.heap.size w).alloc lr_ (.cells #[u] 38)).alloc (by simp) (.cells #[v] 38)).alloc (by simp;omega) (.cells #[zn] 38);have KA:=hd_ (oH _ u zs (ha.below hA lr_));have JB:=hd_ (hb.below hA lr_);have HA:=hd_ hA;obtain⟨⟨x,c,hx⟩,_⟩:=ha.cases;obtain⟨⟨y,d,hy⟩,_⟩:=hb.cases;obtain⟨na,hna⟩:=nm_ zs.length;obtain⟨nb,hnb⟩:=nm_ ys.length;rw[<-hna]at hx;rw[<-hnb]at hy;subst hx hy
 obtain⟨w0,hw0⟩:=nm_ (((w.alloc (.cells #[.slice x na c] 38)).alloc (.cells #[.slice y nb d] 38)).alloc (.cells #[zn] 38));have c1:w0.cell? ⟨w.heap.size+1,0,none⟩=some (.slice y nb d):=by rw[hw0,World.cell?_alloc_past (hn:=by simp),World.cell?_alloc_at (hn:=by simp)];simp
 have c2:w0.cell? ⟨w.heap.size+1+1,0,none⟩=some (.slice none 0 0):=by rw[hw0,World.cell?_alloc_at (hn:=by simp)];simp
 have f2:w0.frozen? ⟨w.heap.size+1+1,0,none⟩=false:=by rw[hw0];exact World.frozen?_alloc_at _ _ _ _ (by simp)
 rw[<-hw0]at KA JB HA;have HW:=hd_ hw0;clear ha hb hA hna hnb hw0;cases hok:fD zs with
 |false=>
  rw[hok]at KA;clear hok hno;go_enter func196,ntmps196
  go_wp2_with fail
  rw[<-HW.out];refine KA.out.mono ?_;rintro e w1 ⟨rfl,hb1⟩;have c21:=cell_later hb1 c2;have f21:w1.frozen? ⟨w.heap.size+1+1,0,none⟩=false:=mM hb1 f2 (World.block_lt_of_cell? _ _ c2);have L1:=hd_ (HA.out.trans (hb1.mono HA.out.size));clear hb1;go_wp2;have hr:=World.cell?_setCell_same w1 ⟨w.heap.size+1+1,0,none⟩ zn c21
  exact bodyPost_ret (v:=.tuple #[.agg #[zn],.bool false]) (by simp[results,results196,go_sem,hr]) rfl ⟨rfl,L1.out.setCell (by simp;omega) _⟩
 |true=>
  rw[hok]at KA;have okb:fD ys=false:=by unfold fY at hno;rw[hok]at hno;simpa using hno
  clear hok hno;go_enter func196,ntmps196
  go_wp2_with fail
  rw[<-HW.out];refine KA.out.mono ?_;rintro e w1 ⟨rfl,hb1⟩;have c11:=cell_later hb1 c1;have c21:=cell_later hb1 c2;have f21:w1.frozen? ⟨w.heap.size+1+1,0,none⟩=false:=mM hb1 f2 (World.block_lt_of_cell? _ _ c2);have KB:=hd_ (oH w1 _ ys (JB.out.below hb1 lr_));rw[okb]at KB;have L1:=hd_ (HA.out.trans (hb1.mono HA.out.size));clear hb1
  go_wp2_with fail
  refine KB.out.mono ?_;rintro e w2 ⟨rfl,hb2⟩;have c22:=cell_later hb2 c21;have f22:w2.frozen? ⟨w.heap.size+1+1,0,none⟩=false:=mM hb2 f21 (World.block_lt_of_cell? _ _ c21);have L2:=hd_ (L1.out.trans (hb2.mono L1.out.size));clear hb2;go_wp2;have hr:=World.cell?_setCell_same w2 ⟨w.heap.size+1+1,0,none⟩ zn c22
  exact bodyPost_ret (v:=.tuple #[.agg #[zn],.bool false]) (by simp[results,results196,go_sem,hr]) rfl ⟨rfl,L2.out.setCell (by simp;omega) _⟩
theorem wU (w:World) (u v:Value) (zs ys:List Int) (ha:dE w u zs) (hb:dE w v ys):
  Calls prog 196 #[.agg #[u],.agg #[v]] w fun e w'=>∃v',e=.returned (.tuple #[.agg #[v'],.bool (fY zs ys)])/\cE w' w.heap.size v' (mV zs ys)/\Below w.heap.size w w':=by
 cases hok:fY zs ys with
 |false=>
  rw[aAM hok];exact (aDB w u v zs ys ha hb hok).mono fun e w' ⟨he,hb⟩=>⟨_,he,cE.nil _ _,hb⟩
 |true=>
  rw[xS hok];have h':=hok;unfold fY at h';simp only[Bool.and_eq_true]at h';rw[<-aHQ (rF h'.1) (rF h'.2) (fun z h=>(aDd h'.1 z h).2) (fun z h=>(aDd h'.2 z h).2)];exact aBJ w u v zs ys ha hb h'.1 h'.2
theorem aKY (t:Int):fD [gL t]=jL t:=by
 cases h:jL t with
 |true=>
  have ht:=(wF t).1 h;have:=aKl ht.1 ht.2;exact aIL (by simp) (fun z hz=>by simp at hz;subst hz;exact this) (by simp)
 |false=>
  have ht:=(zQ t).1 h;rw[aA5 ht]
  decide
theorem aAN (zs:List Int) (t:Int):fY zs [gL t]=fC zs t:=by unfold fY fC;rw[aKY]
theorem xI (zs:List Int) (t:Int):mV zs [gL t]=lU zs t:=by
 cases h:fC zs t with
 |true=>
  rw[sX h,xS (by rw[aAN];exact h)];unfold fC at h;simp only[Bool.and_eq_true]at h;exact (vU (rF h.1) _).symm
 |false=>rw[aCJ h,aAM (by rw[aAN];exact h)]
theorem aEf (w:World) (u:Value) (zs:List Int) (t:Int) (h:dE w u zs):
  Calls prog 232 #[.agg #[u],iv t] w fun e w'=>∃v,e=.returned (.tuple #[.agg #[v],.bool (fC zs t)])/\cE w' w.heap.size v (lU zs t)/\Below w.heap.size w w':=by
 rw[<-aAN, <-xI];have hA:=((Below.refl w.heap.size w).alloc lr_ (.cells #[u] 38)).alloc (by simp) (.cells #[zn] 38);have I:=h.below hA lr_;have KM:Hid (∀W,Calls prog 176 #[iv t] W fun e w'=>e=.returned (iv (gL t))/\W=w'):=fun W=>aHg t W
 obtain⟨⟨x,c,hx⟩,_⟩:=h.cases;obtain⟨n,hn⟩:=nm_ zs.length;rw[<-hn]at hx;subst hx;generalize gL t=M at *;obtain⟨w0,hw0⟩:=nm_ ((w.alloc (.cells #[.slice x n c] 38)).alloc (.cells #[zn] 38));have cb:w0.cell? ⟨w.heap.size,0,none⟩=some (.slice x n c):=by rw[hw0,World.cell?_alloc_past (hn:=by simp)];simp
 have cr:w0.cell? ⟨w.heap.size+1,0,none⟩=some (.slice none 0 0):=by rw[hw0,World.cell?_alloc_at (hn:=by simp)];simp
 have fr:w0.frozen? ⟨w.heap.size+1,0,none⟩=false:=by rw[hw0];exact World.frozen?_alloc_at _ _ _ _ (by simp)
 have S0:Hid (w0.heap.size=w.heap.size+2):=by show w0.heap.size=_;rw[hw0];simp
 rw[<-hw0]at hA I;have hA1:=(Below.refl w0.heap.size w0).drew.alloc lr_ (.cells #[iv M] 3);have i1:=I.below hA1 lr_;have i2:dE (w0.drew.alloc (.cells #[iv M] 3)) (.slice (some ⟨w0.heap.size,0,none⟩) 1 1) [M]:=by
  refine .inr ⟨w0.heap.size,0,1,rfl,Nat.le_refl _,by unfold maxLen;omega,by simp,fun i hi=>?_⟩;obtain rfl:i=0:=by simpa using hi
  rw[World.cell?_alloc_at (hn:=by simp)];simp
 have KJ:=hd_ (wU (w0.drew.alloc (.cells #[iv M] 3)) _ _ zs [M] i1 i2);have cr1:=cell_later hA1 cr;have fr1:(w0.drew.alloc (.cells #[iv M] 3)).frozen? ⟨w.heap.size+1,0,none⟩=false:=mM hA1 fr (World.block_lt_of_cell? _ _ cr);have cb1:=cell_later hA1 cb;have HA:=hd_ hA;have HA1:=hd_ hA1;have HW:=hd_ hw0;have l1:w.heap.size+1<w0.heap.size:=World.block_lt_of_cell? _ _ cr
 have l0:w.heap.size<w0.heap.size:=o_;clear h hn hA I hA1 i1 i2 hw0;go_enter func232,ntmps232
 go_wp2_with fail
 rw[<-HW.out];clear HW
 go_region_with (first
    |(go_at_call 176;refine (KM.out _).mono ?_;rintro e w' ⟨rfl,rfl⟩)
    |(go_at_call 196;refine KJ.out.mono ?_;rintro e w3 ⟨v3,rfl,ho3,hb3⟩;obtain⟨x3,c3,rfl⟩:=ho3.form;have cr3:=cell_later hb3 cr1;have fr3:w3.frozen? ⟨w.heap.size+1,0,none⟩=false:=mM hb3 fr1 (World.block_lt_of_cell? _ _ cr1)))
 all_goals
  have hs:=aF w3 ⟨w.heap.size+1,0,none⟩ (.slice x3 (mV zs [M]).length c3);have o3:=(ho3.kept hs (fun k e=>by simp at e;have:=S0.out;simp;omega)).base (B':=w.heap.size) (by have:=S0.out;simp;omega)
  have hb4:Below w.heap.size w (w3.setCell ⟨w.heap.size+1,0,none⟩ (.slice x3 (mV zs [M]).length c3)):=((HA.out.trans (HA1.out.mono HA.out.size)).trans (hb3.mono (by have:=S0.out;simp;omega))).setCell (by simp) _;have hr:=World.cell?_setCell_same w3 ⟨w.heap.size+1,0,none⟩ (.slice x3 (mV zs [M]).length c3) cr3;have O3:=hd_ o3;have HB4:=hd_ hb4;have HR:=hd_ hr;clear ho3 hb3 hs o3 hb4 hr
  generalize (mV zs [M]).length=n3 at *;go_wp2;have hr:=HR.out;exact bodyPost_ret (v:=.tuple #[.agg #[.slice x3 n3 c3],.bool (fY zs [M])]) (by simp[results,results232,go_sem,hr]) rfl ⟨_,rfl,O3.out,HB4.out⟩
theorem aKD (m:Int) (zs:List Int):zs.length<=(ins m zs).length/\(ins m zs).length<=zs.length+1:=by
 induction zs with
 |nil=>simp[ins]
 |cons x xs ih=>
  unfold ins
  split
  ·simp
  ·split
   ·simp
   ·simp only[List.length_cons];omega
theorem aG0 {zs:List Int} {t:Int} (h:fC zs t=true):
  fD (lU zs t)=true/\fC (lU zs t) t=true/\lU (lU zs t) t=lU zs t/\zs.length<=(lU zs t).length/\(lU zs t).length<=zs.length+1:=by
 have h':=h;unfold fC at h';simp only[Bool.and_eq_true]at h';have az:=rF h'.1;have f1:fD (lU zs t)=true:=by rw[<-xI];exact aIb _ _
 have ok1:fC (lU zs t) t=true:=by unfold fC;rw[f1,h'.2];rfl
 have e0:lU zs t=eK zs [gL t]:=by rw[sX h,vU az]
 have e1:lU (lU zs t) t=lU zs t:=by
  rw[sX ok1,vU (rF f1),e0];exact aFI az (by simp)
 have l6:=(iS h'.1).1;have hl:=aKD (gL t) zs;have el:lU zs t=(ins (gL t) zs).take 6:=by rw[e0];rfl
 refine⟨f1,ok1,e1,?_,?_⟩<;>(rw[el,List.length_take];omega)
end Go.Proofs.YtcblbdpdbggkbaaGreat

namespace Go.Proofs.YtcblbdpdbggkbaaGreat.T
open _root_.Go.Proofs.Tryz
open Go.RowKit Go.Sort
abbrev Pr:=Int × Int
def pr (ps:List Pr) (i:Nat):Pr:=ps.getD i (0,0)
def prs (ps:List Pr):List Value:=ps.flatMap fun p=>[.int .i64 p.1,.int .i64 p.2]
theorem mH (p:Pr) (ps:List Pr):prs (p::ps)=.int .i64 p.1::.int .i64 p.2::prs ps:=rfl
theorem uW (ps qs:List Pr):prs (ps++qs)=prs ps++prs qs:=by simp[prs]
theorem sB (ps:List Pr) (p:Pr):prs (ps++[p])=prs ps++[.int .i64 p.1,.int .i64 p.2]:=by simp[prs]
theorem iN (ps:List Pr):(prs ps).length=ps.length * 2:=by
 induction ps with
 |nil=>rfl
 |cons p ps ih=>rw[mH];simp[ih];omega
theorem oV (ps:List Pr) (i:Nat) (h:i<ps.length):(prs ps)[i * 2]? =some (.int .i64 (pr ps i).1)/\(prs ps)[i * 2+1]? =some (.int .i64 (pr ps i).2):=by
 induction ps generalizing i with
 |nil=>cases h
 |cons p ps ih=>
  rw[mH];cases i with
  |zero=>exact⟨rfl,rfl⟩
  |succ i=>
   have:=ih i (by simpa using h);rw[show (i+1) * 2=i * 2+1+1 by omega];simp only[List.getElem?_cons_succ];exact this
theorem jH {ps:List Pr} {i:Nat} (h:i<ps.length):pr ps i ∈ ps:=kQ ps i (0,0) h
theorem lA {ps:List Pr} {p:Pr} (h:p ∈ ps):∃i,i<ps.length/\pr ps i=p:=by
 obtain⟨i,hi,rfl⟩:=List.getElem_of_mem h;exact⟨i,hi,by simp[pr,hi]⟩
def Prs (w:World) (v:Value) (ps:List Pr):Prop:=
 (v=.slice none 0 0/\ps=[])\/
 ∃b o cap,v=.slice (some ⟨b,o,none⟩) ps.length cap/\ps.length<=cap/\cap<=maxLen/\b<w.heap.size/\
  ∀i,i<ps.length->w.cell? ⟨b,o+i * 2,none⟩=some (.int .i64 (pr ps i).1)/\w.cell? ⟨b,o+i * 2+1,none⟩=some (.int .i64 (pr ps i).2)
theorem Prs.below {w w':World} {v:Value} {ps:List Pr} (h:Prs w v ps) {B:Nat} (hb:Below B w w') (hB:w.heap.size<=B):Prs w' v ps:=by
 rcases h with h|⟨b,o,cap,rfl,h1,h2,h3,h4⟩
 ·exact .inl h
 ·exact .inr ⟨b,o,cap,rfl,h1,h2,Nat.lt_of_lt_of_le h3 hb.size,fun i hi=>by
      rw[hb.cell (by show b<B;omega),hb.cell (by show b<B;omega)];exact h4 i hi⟩
theorem Prs.form {w:World} {v:Value} {ps:List Pr} (h:Prs w v ps):∃x c,v=.slice x ps.length c/\ps.length<=c/\c<=maxLen:=by
 rcases h with ⟨rfl,rfl⟩|⟨b,o,cap,rfl,h1,h2,_⟩
 ·exact⟨none,0,rfl,Nat.le_refl _,Nat.zero_le _⟩
 ·exact⟨_,_,rfl,h1,h2⟩
theorem Prs.cells {w:World} {x:Option Addr} {n c:Nat} {ps:List Pr} (h:Prs w (.slice x n c) ps):∀i,i<ps.length->∃b o,x=some ⟨b,o,none⟩/\b<w.heap.size/\w.cell? ⟨b,o+i * 2,none⟩=some (.int .i64 (pr ps i).1)/\w.cell? ⟨b,o+i * 2+1,none⟩=some (.int .i64 (pr ps i).2):=fun i hi=>by
 rcases h with ⟨_,rfl⟩|⟨b,o,cap,e,h1,h2,h3,h4⟩
 ·cases hi
 ·exact⟨b,o,(Value.slice.inj e).1,h3,h4 i hi⟩
def aJ (w:World) (B:Nat) (v:Value) (ps:List Pr):Prop:=w.ownsRow B 213 2 v ps.length (prs ps)
theorem lN (b o i:Nat):(⟨b,o,none⟩:Addr).add i=⟨b,o+i,none⟩:=by unfold Addr.add;split<;>simp_all
theorem aJ.rd {w:World} {B:Nat} {v:Value} {ps:List Pr} (h:aJ w B v ps):Prs w v ps:=by
 rcases h.2 with ⟨rfl,h0⟩|⟨g,cap,cur,rfl,hb,hg,hn,hc,hs,ht⟩
 ·exact zA7
 ·refine .inr ⟨g,0,cap,rfl,hn,hc,(Array.getElem?_eq_some_iff.1 hg).1,fun i hi=>?_⟩
  have e:=oV ps i hi;have a:=World.ownsRow.cells h (g:=g) rfl _ _ e.1;have b:=World.ownsRow.cells h (g:=g) rfl _ _ e.2;rw[lN]at a b;exact⟨a,by rw[Nat.add_assoc];exact b⟩
theorem aJ.base {w:World} {B B':Nat} {v:Value} {ps:List Pr} (h:aJ w B v ps) (hB:B'<=B):aJ w B' v ps:=aU h hB
theorem aJ.kept {w w':World} {B:Nat} {v:Value} {ps:List Pr} {row:Option Nat} (h:aJ w B v ps) (hg:w.grownBy w' row) (hr:∀k,row=some k->k<B):aJ w' B v ps:=by
 exact zBa
theorem aJ.keep {w w':World} {B:Nat} {v:Value} {ps:List Pr} {row:Option Nat} (h:aJ w B v ps) (hg:w.grownBy w' row) (hr:v.ownBlock≠row):aJ w' B v ps:=World.ownsRow.kept h hg (.inr hr)
theorem aJ.alloc {w:World} {B:Nat} {v:Value} {ps:List Pr} (h:aJ w B v ps) (o:Obj):aJ (w.alloc o) B v ps:=World.ownsRow.alloc h o
theorem aJ.below {w w':World} {B:Nat} {v:Value} {ps:List Pr} (h:aJ w B v ps) (hb:Below w.heap.size w w'):aJ w' B v ps:=h.kept (row:=none) (dH hb) (fun _ e=>by cases e)
theorem aJ.nil (w:World) (B:Nat):aJ w B zn []:=World.ownsRow_nil w B _ 2
theorem aJ.form {w:World} {B:Nat} {v:Value} {ps:List Pr} (h:aJ w B v ps):∃x c,v=.slice x ps.length c/\ps.length<=c/\c<=maxLen:=h.rd.form
theorem fQ:(prog.info? 213).map (fun i=>(i.zero,i.size,i.bytes))=some (some (.agg #[iv 0,iv 0]),2,16):=by kernel_rfl
theorem qS (w:World) (B:Nat) (hB:B<=w.heap.size):aJ (w.alloc (.cells #[] 213)) B (.slice (some ⟨w.heap.size,0,none⟩) 0 0) []:=
 World.ownsRow_lit (base:=B) (e:=213) (size:=2) w #[] 0 hB (by simp[maxLen]) (by simp)
def bW (ps:List Pr):Int:=(ps.map (·.2)).sum
theorem sS (ps qs:List Pr):bW (ps++qs)=bW ps+bW qs:=by simp[bW]
theorem eA (ps:List Pr) (k:Nat) (h:k<ps.length):ps.take (k+1)=ps.take k++[pr ps k]:=by
 rw[List.take_succ_eq_append_getElem h];simp[pr,h]
theorem jX (ps:List Pr) (k:Nat) (h:k<ps.length):bW (ps.take (k+1))=bW (ps.take k)+(pr ps k).2:=by
 rw[eA ps k h,sS];simp[bW]
def wR (ps:List Pr) (i:Nat):Prop:=((0<=(pr ps i).1/\(pr ps i).1<=63)/\1<=(pr ps i).2/\(pr ps i).2<=2000)/\(0<i->(pr ps (i - 1)).1<(pr ps i).1)
instance (ps:List Pr) (i:Nat):Decidable (wR ps i):=by unfold wR;infer_instance
def uP (ps:List Pr) (lost all:Int):Prop:=(ps.length<=4/\(0<=lost/\lost<=2000)/\0<=all/\all<=2000)/\(∀i,i<ps.length->wR ps i)/\bW ps+5 * lost<=all
instance (ps:List Pr) (lost all:Int):Decidable (uP ps lost all):=by unfold uP;infer_instance
def dB (ps:List Pr) (lost all:Int):Bool:=decide (uP ps lost all)
theorem eX (ps:List Pr) (lost all:Int):dB ps lost all=true↔uP ps lost all:=by simp[dB]
theorem iY {ps:List Pr} {lost all:Int} (h:¬uP ps lost all):dB ps lost all=false:=by simpa[dB]using h
def vY (ps:List Pr) (k:Nat):Int:=if k=0 then -1 else (pr ps (k - 1)).1
theorem aDm {ps:List Pr} {k:Nat} (hk:k<=ps.length) (h:∀i,i<k->wR ps i):0<=bW (ps.take k)/\bW (ps.take k)<=2000 * k:=by
 induction k with
 |zero=>simp[bW]
 |succ k ih=>
  have:=ih o_ (fun i hi=>h i o_);have g:=(h k o_).1.2;rw[jX ps k o_];omega
theorem aEO {ps:List Pr} {k:Nat} (h:∀i,i<k->wR ps i): -1<=vY ps k/\vY ps k<=63:=by
 unfold vY
 split
 ·omega
 ·have:=(h (k - 1) o_).1.1;omega
theorem aJT {ps:List Pr} {k:Nat} (h:∀i,i<k->wR ps i):wR ps k↔(vY ps k<(pr ps k).1/\(pr ps k).1<64)/\1<=(pr ps k).2/\(pr ps k).2<=2000:=by
 have hb:=aEO h;unfold wR;unfold vY at hb ⊢
 split
 ·subst_vars;simp;omega
 ·have:0<k:=o_
  simp only[this,true_implies];rw[if_neg o_]at hb;omega
theorem aGb (ps:List Pr) (k:Nat):vY ps (k+1)=(pr ps k).1:=by unfold vY;rw[if_neg o_];rfl
theorem mJ (a:Int) (w:World) (h:0<=a/\a<=2000):
  Calls prog 180 #[iv a] w fun e w'=>e=.returned (.bool true)/\w=w':=by
 obtain⟨h0,h1⟩:=h;go_enter func180,ntmps180;go_wp2;go_ret;exact⟨rfl,rfl⟩
theorem qK (a:Int) (w:World) (h:¬(0<=a/\a<=2000)):
  Calls prog 180 #[iv a] w fun e w'=>e=.returned (.bool false)/\w=w':=by
 by_cases h0:0<=a
 ·have h1:¬a<=2000:=o_
  clear h;go_enter func180,ntmps180;exact zAb
 ·clear h
  go_enter func180,ntmps180;exact zAb
theorem aFr (w:World) (x:Option Addr) (n c:Nat) (ps:List Pr) (lost all:Int) (hl:ps.length=n) (hp:Prs w (.slice x n c) ps) (hn:n<=4) (hlo:0<=lost/\lost<=2000) (hal:0<=all/\all<=2000):
  Calls prog 177 #[.agg #[.slice x n c,iv lost,iv all]] w fun e w'=>e=.returned (.bool (dB ps lost all))/\Below w.heap.size w w':=by
 have hA:=(Below.refl w.heap.size w).alloc lr_ (.cells #[.slice x n c,iv lost,iv all] 41);have HP:=hd_ (hp.cells);have HL:=hd_ hl;have HA:=hd_ hA;have KL:Hid (∀W,Calls prog 180 #[iv lost] W fun e w'=>e=.returned (.bool true)/\W=w'):=fun W=>mJ lost W hlo
 have KA:Hid (∀W,Calls prog 180 #[iv all] W fun e w'=>e=.returned (.bool true)/\W=w'):=fun W=>mJ all W hal
 have hn':¬(4:Int)<(n:Int):=o_;have c2:(w.alloc (.cells #[.slice x n c,iv lost,iv all] 41)).cell? ⟨w.heap.size,2,none⟩=some (.int .i64 all):=by simp
 have C2:=hd_ c2;obtain⟨lo0,lo1⟩:=hlo;have HAL:=hd_ hal;clear hl hp hA c2 hal;go_enter func177,ntmps177
 go_wp2_with fail
 refine (KL.out _).mono ?_;rintro e w1 ⟨rfl,rfl⟩
 go_wp2_with fail
 refine (KA.out _).mono ?_;rintro e w1 ⟨rfl,rfl⟩;go_wp2;go_loopw [3,4,29] (fun tg la i wr=>∃k:Nat,k<=n/\i=.int .i64 k/\la=.int .i64 (vY ps k)/\tg=.int .i64 (lost * 5+bW (ps.take k))/\(∀i,i<k->wR ps i)/\Below (w.heap.size+1) (w.alloc (.cells #[.slice x n c,iv lost,iv all] 41)) wr) (fun _ _ i _=>n - (intOf i).toNat)
 case atStart=>exact⟨0,Nat.zero_le _,rfl,rfl,by simp[bW],fun _ h=>absurd h (Nat.not_lt_zero _),Below.refl _ _⟩
 case round=>
  obtain⟨k,hk,rfl,rfl,rfl,hg,hbl⟩:=hrel;have G:=hd_ hg;have I:=hd_ (aJT hg);have HB:=hd_ hbl;have hsb:=aDm (by rw[HL.out];exact hk) hg;have cw:wr.cell? ⟨w.heap.size,2,none⟩=some (.int .i64 all):=(HB.out.cell (p:=⟨w.heap.size,2,none⟩) (by simp)).trans C2.out
  by_cases hlt:k<n
  ·obtain⟨b,o,rfl,hb,h1,h2⟩:=HP.out k (by rw[HL.out];exact hlt)
   have tr:∀j v,w.cell? ⟨b,j,none⟩=some v->wr.cell? ⟨b,j,none⟩=some v:=fun j v h=>by
    exact zA6
   replace h1:=tr _ _ h1;replace h2:=tr _ _ h2;have hs:=hd_ (jX ps k (by rw[HL.out];exact hlt));have hla:=hd_ (aGb ps k);have hPr:Hid (∃q,q=pr ps k):=⟨_,rfl⟩
   generalize pr ps k=q at h1 h2 I hs hla;obtain⟨t,m⟩:=q;have hLb:=aEO hg;generalize vY ps k=L at I hLb ⊢;generalize bW (ps.take k)=S at *;clear hg hbl tr hPr
   by_cases hx:t<=L
   ·have bad:Hid (dB ps lost all=false):=iY (fun q=>by have:=(I.out.1 (q.2.1 k (by rw[HL.out];exact hlt))).1.1;simp at this;omega)
    go_wp2;go_ret;exact⟨aK bad.out.symm,(HA.out.trans (HB.out.mono (by simp))).alloc (by have:=HB.out.size;simp at this;omega) _⟩
   have hx':L<t:=o_
   by_cases hy:64<=t
   ·have bad:Hid (dB ps lost all=false):=iY (fun q=>by have:=(I.out.1 (q.2.1 k (by rw[HL.out];exact hlt))).1.2;simp at this;omega)
    have KT:Hid (∀W,Calls prog 106 #[iv t] W fun e w'=>e=.returned (.bool false)/\W=w'):=fun W=>nS t W (.inr hy)
    exact zAx
   have KT:Hid (∀W,Calls prog 106 #[iv t] W fun e w'=>e=.returned (.bool true)/\W=w'):=fun W=>kC t W o_ o_
   by_cases hm:m<1
   ·have bad:Hid (dB ps lost all=false):=iY (fun q=>by have:=(I.out.1 (q.2.1 k (by rw[HL.out];exact hlt))).2.1;simp at this;omega)
    exact zAx
   by_cases hm2:2000<m
   ·have bad:Hid (dB ps lost all=false):=iY (fun q=>by have:=(I.out.1 (q.2.1 k (by rw[HL.out];exact hlt))).2.2;simp at this;omega)
    exact zAx
   go_wp2_with fail
   refine (KT.out _).mono ?_;rintro e w1 ⟨rfl,rfl⟩;go_wp2;go_roundw
   case rel=>exact⟨k+1,o_,gn_,by rw[hla.out],by rw[hs.out];go_num,fun i hi=>by
        by_cases h:i<k
        · exact G.out i h
        · obtain rfl:i=k:=o_
          exact I.out.2 ⟨⟨hx',o_⟩,o_,o_⟩,HB.out.alloc (by have:=HB.out.size;simp at this;omega) _⟩
   case measure=>simp[intOf];omega
  ·obtain rfl:k=n:=o_
   have e1:ps.take k=ps:=List.take_of_length_le (by rw[HL.out];exact Nat.le_refl _);rw[e1]at hsb ⊢;generalize hS:bW ps=S at *;have HS:=hd_ hS;clear hg hbl e1 hS
   by_cases hle:lost * 5+S<=all
   ·have good:Hid (dB ps lost all=true):=(eX _ _ _).2 ⟨⟨by rw[HL.out];exact hn,⟨lo0,lo1⟩,HAL.out⟩,fun i hi=>G.out i (by rw[HL.out]at hi;exact hi),by rw[HS.out];omega⟩
    go_wp2;go_ret;exact⟨aK (by first|(rw[good.out];done)|(rw[good.out];simpa using hle)),HA.out.trans (HB.out.mono (by simp))⟩
   ·have bad:Hid (dB ps lost all=false):=iY (fun q=>by have:=q.2.2;rw[HS.out]at this;omega)
    go_wp2;go_ret;exact⟨aK (by first|(rw[bad.out];done)|(rw[bad.out];simpa using hle)),HA.out.trans (HB.out.mono (by simp))⟩
theorem nL (w:World) (u:Value) (ps:List Pr) (lost all:Int) (hp:Prs w u ps):
  Calls prog 177 #[.agg #[u,iv lost,iv all]] w fun e w'=>e=.returned (.bool (dB ps lost all))/\Below w.heap.size w w':=by
 obtain⟨x,c,rfl,hc0,hc⟩:=hp.form;obtain⟨n,hn⟩:=nm_ ps.length
 by_cases h4:ps.length<=4
 ·by_cases hlo:0<=lost/\lost<=2000
  ·by_cases hal:0<=all/\all<=2000
   ·exact aFr w x _ c ps lost all rfl hp h4 hlo hal
   ·have bad:dB ps lost all=false:=iY (fun q=>hal q.1.2.2)
    rw[bad];have KL:Hid (∀W,Calls prog 180 #[iv lost] W fun e w'=>e=.returned (.bool true)/\W=w'):=fun W=>mJ lost W hlo
    have KA:Hid (∀W,Calls prog 180 #[iv all] W fun e w'=>e=.returned (.bool false)/\W=w'):=fun W=>qK all W hal
    rw[<-hn]at h4 ⊢;have hn':¬(4:Int)<(n:Int):=o_;clear hp hn bad hal hlo hc hc0;go_enter func177,ntmps177
    go_wp2_with fail
    refine (KL.out _).mono ?_;rintro e w1 ⟨rfl,rfl⟩
    go_wp2_with fail
    refine (KA.out _).mono ?_;rintro e w1 ⟨rfl,rfl⟩;exact zAC
  ·have bad:dB ps lost all=false:=iY (fun q=>hlo q.1.2.1)
   rw[bad];have KL:Hid (∀W,Calls prog 180 #[iv lost] W fun e w'=>e=.returned (.bool false)/\W=w'):=fun W=>qK lost W hlo
   rw[<-hn]at h4 ⊢;have hn':¬(4:Int)<(n:Int):=o_;clear hp hn bad hlo hc hc0;go_enter func177,ntmps177
   go_wp2_with fail
   refine (KL.out _).mono ?_;rintro e w1 ⟨rfl,rfl⟩;exact zAC
 ·have bad:dB ps lost all=false:=iY (fun q=>h4 q.1.1)
  rw[bad];rw[<-hn]at h4 ⊢;have hn':(4:Int)<(n:Int):=o_;clear hp hn bad hc hc0 h4;go_enter func177,ntmps177;exact zAC
theorem aIp (w:World) (x:Option Addr) (n c:Nat) (ps:List Pr) (hl:ps.length=n) (hp:Prs w (.slice x n c) ps) (hn:n<=4) (hg:∀i,i<n->wR ps i):
  Calls prog 277 #[.slice x n c] w fun e w'=>e=.returned (iv (bW ps))/\w=w':=by
 have HP:=hd_ hp.cells;have HL:=hd_ hl;have G:=hd_ hg;clear hl hp hg;go_enter func277,ntmps277;go_wp2
 go_loop [3,4] (fun q i=>∃k:Nat,k<=n/\i=.int .i64 k/\q=.int .i64 (bW (ps.take k))) (fun _ i=>n - (intOf i).toNat)
 case atStart=>exact⟨0,Nat.zero_le _,rfl,rfl⟩
 case round=>
  obtain⟨k,hk,rfl,rfl⟩:=hrel;have hsb:=aDm (by rw[HL.out];exact hk) (fun i hi=>G.out i o_)
  by_cases hlt:k<n
  ·obtain⟨b,o,rfl,hb,h1,h2⟩:=HP.out k (by rw[HL.out];exact hlt)
   have g:=(G.out k hlt).1.2;have hs:=hd_ (jX ps k (by rw[HL.out];exact hlt));generalize pr ps k=q at h1 h2 hs g;obtain⟨t,m⟩:=q;generalize bW (ps.take k)=S at *;obtain⟨g1,g2⟩:=g;go_wp2
   go_round
   case rel=>exact⟨k+1,o_,gn_,by rw[hs.out]⟩
   case measure=>simp[intOf];omega
  ·obtain rfl:k=n:=o_
   have e1:ps.take k=ps:=List.take_of_length_le (by rw[HL.out];exact Nat.le_refl _);rw[e1];exact zAb
theorem aFx (w:World) (x:Option Addr) (n c:Nat) (ps:List Pr) (lost all:Int) (hl:ps.length=n) (hp:Prs w (.slice x n c) ps) (hn:n<=maxLen):
  Calls prog 221 #[.agg #[.slice x n c,iv lost,iv all]] w fun e w'=>e=.returned (.bool (dB ps lost all))/\Below w.heap.size w w':=by
 unfold maxLen at hn;have hA:=(Below.refl w.heap.size w).alloc lr_ (.cells #[.slice x n c,iv lost,iv all] 41);have c0:(w.alloc (.cells #[.slice x n c,iv lost,iv all] 41)).cell? ⟨w.heap.size,0,none⟩=some (.slice x n c):=by simp
 have c1:(w.alloc (.cells #[.slice x n c,iv lost,iv all] 41)).cell? ⟨w.heap.size,1,none⟩=some (.int .i64 lost):=by simp
 have c2:(w.alloc (.cells #[.slice x n c,iv lost,iv all] 41)).cell? ⟨w.heap.size,2,none⟩=some (.int .i64 all):=by simp
 have HC:=hd_ (And.intro c0 (And.intro c1 c2));have HPR:=hd_ hp;have HP:=hd_ hp.cells;have HL:=hd_ hl;have HA:=hd_ hA;clear hl hp hA c0 c1 c2;go_enter func221,ntmps221;go_wp2;go_loopw [3] (fun i wr=>∃k:Nat,k<=n/\i=.int .i64 k/\(∀i,i<k->wR ps i)/\Below (w.heap.size+1) (w.alloc (.cells #[.slice x n c,iv lost,iv all] 41)) wr) (fun i _=>n - (intOf i).toNat)
 case atStart=>exact⟨0,Nat.zero_le _,rfl,fun _ h=>absurd h (Nat.not_lt_zero _),Below.refl _ _⟩
 case round=>
  obtain⟨k,hk,rfl,hg,hbl⟩:=hrel;have G:=hd_ hg;have HB:=hd_ hbl;have cw0:wr.cell? ⟨w.heap.size,0,none⟩=some (.slice x n c):=(HB.out.cell (p:=⟨w.heap.size,0,none⟩) (by simp)).trans HC.out.1;have cw1:wr.cell? ⟨w.heap.size,1,none⟩=some (.int .i64 lost):=(HB.out.cell (p:=⟨w.heap.size,1,none⟩) (by simp)).trans HC.out.2.1
  have cw2:wr.cell? ⟨w.heap.size,2,none⟩=some (.int .i64 all):=(HB.out.cell (p:=⟨w.heap.size,2,none⟩) (by simp)).trans HC.out.2.2;have FIN:=hd_ (HA.out.trans (HB.out.mono (Nat.le_succ _)))
  by_cases hlt:k<n
  ·obtain⟨b,o,rfl,hb,h1,h2⟩:=HP.out k (by rw[HL.out];exact hlt)
   have tr:∀j v,w.cell? ⟨b,j,none⟩=some v->wr.cell? ⟨b,j,none⟩=some v:=fun j v h=>by
    exact zA6
   have TR:=hd_ tr;replace h1:=tr _ _ h1;replace h2:=tr _ _ h2;have HQ:Hid (wR ps k↔(((0<=(pr ps k).1/\(pr ps k).1<=63)/\1<=(pr ps k).2/\(pr ps k).2<=2000)/\(0<k->(pr ps (k - 1)).1<(pr ps k).1))):=Iff.rfl;have bad:Hid (¬wR ps k->dB ps lost all=false):=fun h=>iY (fun q=>h (q.2.1 k (by rw[HL.out];exact hlt)))
   generalize pr ps k=q at h1 h2 HQ;obtain⟨t,m⟩:=q;have k0:(0:Int)<=(k:Int):=o_;have kn:(k:Int)<(n:Int):=o_;clear hg hbl tr
   by_cases ht:t<0\/63<t
   ·have bd:=hd_ (bad.out (fun q=>by have:=(HQ.out.1 q).1.1;simp at this;omega))
    clear HQ bad;go_wp2
    go_quiet (with_reducible exact aI (fZ _ _ _ _ ht))
    exact zAO
   have ht0:0<=t:=o_;have ht1:t<=63:=o_
   by_cases hm:m<1\/2000<m
   ·have bd:=hd_ (bad.out (fun q=>by have:=(HQ.out.1 q).1.2;simp at this;omega))
    clear HQ bad;go_wp2
    go_quiet (first|(with_reducible exact aI (aS _ _ _ _ ht0 ht1))|(with_reducible exact aI (fZ _ _ _ _ hm)))
    exact zAO
   have hm0:1<=m:=o_;have hm1:m<=2000:=o_;rcases Nat.eq_zero_or_pos k with h0|h0
   ·subst h0
    have good:=hd_ (HQ.out.2 ⟨⟨⟨ht0,ht1⟩,hm0,hm1⟩,fun h=>absurd h (Nat.lt_irrefl _)⟩);clear HQ bad;have e0:o+0 * 2=o:=o_;rw[e0]at h1 h2;go_wp2
    go_quiet (first|(with_reducible exact aI (aS _ _ _ _ ht0 ht1))|(with_reducible exact aI (aS _ _ _ _ hm0 hm1)))
    go_wp2;go_roundw
    case rel=>exact⟨1,o_,gn_,fun i hi=>by
          obtain rfl:i=0:=o_
          exact good.out,below_drewN HB.out _⟩
    case measure=>simp[intOf];omega
   ·obtain⟨j,rfl⟩:∃j,k=j+1:=⟨k - 1,o_⟩
    obtain⟨b',o',e',hb',h3,_⟩:=HP.out j (by rw[HL.out];omega);cases e';replace h3:=TR.out _ _ h3;rw[Nat.add_sub_cancel]at HQ;generalize pr ps j=q' at h3 HQ;obtain⟨t',m'⟩:=q';have p0:(0:Int)<((j+1:Nat):Int):=o_;have e1:((j+1:Nat):Int) - 1=(j:Int):=o_;have j0:(0:Int)<=(j:Int):=o_;have jn:(j:Int)<(n:Int):=o_
    by_cases hyx:t<=t'
    ·have bd:=hd_ (bad.out (fun q=>by have:=(HQ.out.1 q).2 h0;simp at this;omega))
     have hd:decide (t<=t')=true:=decide_eq_true hyx;clear HQ bad;go_wp2
     go_quiet (first|(with_reducible exact aI (aS _ _ _ _ ht0 ht1))|(with_reducible exact aI (aS _ _ _ _ hm0 hm1)))
     exact zAO
    ·have good:=hd_ (HQ.out.2 ⟨⟨⟨ht0,ht1⟩,hm0,hm1⟩,fun _=>by simp;omega⟩)
     have hd:decide (t<=t')=false:=decide_eq_false hyx;clear HQ bad;go_wp2
     go_quiet (first|(with_reducible exact aI (aS _ _ _ _ ht0 ht1))|(with_reducible exact aI (aS _ _ _ _ hm0 hm1)))
     go_wp2;go_roundw
     case rel=>exact⟨j+1+1,o_,gn_,fun i hi=>by
            by_cases h:i<j+1
            · exact G.out i h
            · obtain rfl:i=j+1:=o_
              exact good.out,below_drewN HB.out _⟩
     case measure=>simp[intOf];omega
  ·obtain rfl:k=n:=o_
   clear hg hbl
   by_cases h4:4<k
   ·have bd:Hid (dB ps lost all=false):=iY (fun q=>by have:=q.1.1;rw[HL.out]at this;omega)
    have h4':decide ((k:Int)<=4)=false:=decide_eq_false o_;go_wp2
    go_quiet (fail)
    exact zAO
   have h4':(k:Int)<=4:=o_
   by_cases ha:all<0\/2000<all
   ·have bd:Hid (dB ps lost all=false):=iY (fun q=>by have:=q.1.2.2;omega)
    go_wp2
    go_quiet (first|(with_reducible exact aI (fZ _ _ _ _ ha)))
    exact zAO
   have ha0:0<=all:=o_;have ha1:all<=2000:=o_
   by_cases hl:lost<0\/2000<lost
   ·have bd:Hid (dB ps lost all=false):=iY (fun q=>by have:=q.1.2.1;omega)
    go_wp2
    go_quiet (first|(with_reducible exact aI (aS _ _ _ _ ha0 ha1))|(with_reducible exact aI (fZ _ _ _ _ hl)))
    exact zAO
   have hl0:0<=lost:=o_;have hl1:lost<=2000:=o_;have KA:Hid (∀q,Calls prog 277 #[.slice x k c] (wr.drewN q) fun e w'=>e=.returned (iv (bW ps))/\wr.drewN q=w'):=fun q=>
    aIp _ x k c ps HL.out (Prs.below HPR.out (below_drewN FIN.out q) lr_) o_ G.out
   have hsb:=aDm (k:=k) (by rw[HL.out];exact Nat.le_refl _) G.out;rw[List.take_of_length_le (by rw[HL.out];exact Nat.le_refl _)]at hsb;have HI:=hd_ (eX ps lost all);have HF:Hid (bW ps+5 * lost<=all->dB ps lost all=true):=fun h=>(eX _ _ _).2 ⟨⟨by rw[HL.out];omega,⟨hl0,hl1⟩,ha0,ha1⟩,fun i hi=>G.out i (by rw[HL.out]at hi;exact hi),h⟩
   have HN:Hid (¬bW ps+5 * lost<=all->dB ps lost all=false):=fun h=>iY (fun q=>h q.2.2)
   generalize bW ps=S at *;have ws:IntKind.i64.wrap (5 * lost)=5 * lost:=IntWalk.i64_in _ o_;have ws2:IntKind.i64.wrap (S+5 * lost)=S+5 * lost:=IntWalk.i64_in _ o_
   by_cases hle:S+5 * lost<=all
   ·have fv:=hd_ (HF.out hle)
    exact zAL
   ·have fv:=hd_ (HN.out hle)
    exact zAL
theorem vB (w:World) (u:Value) (ps:List Pr) (lost all:Int) (hp:Prs w u ps):
  Calls prog 221 #[.agg #[u,iv lost,iv all]] w fun e w'=>e=.returned (.bool (dB ps lost all))/\Below w.heap.size w w':=by
 obtain⟨x,c,rfl,hc0,hc⟩:=hp.form;exact aFx w x _ c ps lost all rfl hp o_
def tot:List Pr->Int->Int
 | [],_=>0
 |p::ps,t=>(if p.1=t then p.2 else 0)+tot ps t
theorem lL (ps qs:List Pr) (t:Int):tot (ps++qs) t=tot ps t+tot qs t:=by
 induction ps with
 |nil=>simp[tot]
 |cons p ps ih=>simp only[List.cons_append,tot,ih];omega
theorem aLe (p:Pr) (t:Int):tot [p] t=if p.1=t then p.2 else 0:=by simp[tot]
theorem iE {ps:List Pr} {t:Int} (h:∀p ∈ ps,p.1≠t):tot ps t=0:=by
 induction ps with
 |nil=>rfl
 |cons p ps ih=>
  have h1:=h p (by simp);simp only[tot,if_neg h1,ih (fun q hq=>h q (by simp[hq]))];rfl
def Asc (ps:List Pr):Prop:=∀i,0<i->i<ps.length->(pr ps (i - 1)).1<(pr ps i).1
theorem Asc.lt {ps:List Pr} (h:Asc ps) {i:Nat}:∀{j:Nat},i<j->j<ps.length->(pr ps i).1<(pr ps j).1:=by
 intro j
 induction j with
 |zero=>intro h0;omega
 |succ j ih=>
  intro hij hj;have h1:=h (j+1) o_ hj;rw[Nat.add_sub_cancel]at h1
  by_cases e:i=j
  ·rw[e];exact h1
  ·have:=ih o_ o_;omega
theorem aGG {ps:List Pr} {k i:Nat} (h:i<k):pr (ps.take k) i=pr ps i:=by simp[pr,h]
theorem aFd (ps:List Pr) (k:Nat) (t:Int) (h:k<ps.length):tot (ps.take (k+1)) t=tot (ps.take k) t+if (pr ps k).1=t then (pr ps k).2 else 0:=by
 rw[eA ps k h,lL,aLe]
theorem Asc.before {ps:List Pr} (h:Asc ps) {k:Nat} {t:Int} (hk:k<ps.length) (ht:(pr ps k).1<=t):tot (ps.take k) t=0:=iE fun p hp=>by
 obtain⟨i,hi,rfl⟩:=lA hp;have hi':i<k:=by simp at hi;omega
 rw[aGG hi'];have:=h.lt hi' hk;omega
theorem Asc.at {ps:List Pr} (h:Asc ps) {k:Nat} (hk:k<ps.length):tot ps (pr ps k).1=(pr ps k).2:=by
 have e1:tot (ps.drop (k+1)) (pr ps k).1=0:=iE fun p hp=>by
  obtain⟨i,hi,rfl⟩:=lA hp;have e2:pr (ps.drop (k+1)) i=pr ps (k+1+i):=by simp[pr]
  rw[e2];simp at hi;have:=h.lt (i:=k) (j:=k+1+i) o_ o_;omega
 have e2:tot ps (pr ps k).1=tot (ps.take (k+1)) (pr ps k).1+tot (ps.drop (k+1)) (pr ps k).1:=by rw[<-lL,List.take_append_drop]
 rw[e2,e1,aFd ps k _ hk,h.before hk (Int.le_refl _)];simp
theorem uP.asc {ps:List Pr} {lost all:Int} (h:uP ps lost all):Asc ps:=fun i h0 hi=>(h.2.1 i hi).2 h0
def isT (t:Int):Bool:=decide (0<=t/\t<64)
theorem aKR {t:Int} (h:isT t=true):0<=t/\t<64:=by simpa[isT]using h
theorem aLT {t:Int} (h:isT t=false):t<0\/64<=t:=by simp[isT]at h;omega
theorem aKv {ps:List Pr} {t:Int} (h:∀i,i<ps.length->wR ps i) (ha:Asc ps):0<=tot ps t/\tot ps t<=2000:=by
 by_cases hx:∃i,i<ps.length/\(pr ps i).1=t
 ·obtain⟨i,hi,rfl⟩:=hx
  rw[ha.at hi];have:=(h i hi).1.2;omega
 ·rw[iE fun p hp e=>by obtain⟨i,hi,rfl⟩:=lA hp;exact hx ⟨i,hi,e⟩]
  omega
theorem cW (w:World) (x y:Value) (t:TypeId):∀j u,[x,y][j]? =some u->(w.alloc (.cells #[x,y] t)).cell? ((⟨w.heap.size,0,none⟩:Addr).add j)=some u:=by
 intro j u hj
 match j,hj with
 | 0,hj=>simp at hj;subst hj;simp[Addr.add]
 | 1,hj=>simp at hj;subst hj;simp[Addr.add]
theorem pQ {w w':World} {row:Option Nat} (h:w.drew.grownBy w' row):w.grownBy w' row:=⟨h.os,h.tape,h.output,h.size,h.block⟩
def cZ:List Pr->Pr->List Pr
 | [],x=>[x]
 |p::ps,x=>if p.1<x.1 then p::cZ ps x else if p.1=x.1 then (x.1,x.2+p.2)::ps else x::p::ps
def qW (ps:List Pr) (x:Pr) (d:Bool):List Pr:=if d then ps else cZ ps x
theorem aEG (ps:List Pr) (x:Pr):(cZ ps x).length<=ps.length+1:=by
 induction ps with
 |nil=>simp[cZ]
 |cons p ps ih=>
  unfold cZ
  split
  ·simp;omega
  ·split<;>simp
theorem aK8 {ps:List Pr} {k:Nat} (h:k<ps.length):ps.drop k=pr ps k::ps.drop (k+1):=by
 rw[List.drop_eq_getElem_cons h];simp[pr,h]
theorem fG {w:World} {B no:Nat} {v:Value} {os:List Pr} {t m:Int} (h:w.ownsRow B 213 2 v (no+1) (prs os++[.int .i64 t,.int .i64 m])) (hn:no=os.length):aJ w B v (os++[(t,m)]):=by
 unfold aJ;rw[sB,List.length_append, <-hn];exact h
theorem bQ {B:Nat} {w wr w':World} {o:Obj} {e:TypeId} {size:Nat} {v:Value} {n:Nat} {xs:List Value} (hb:Below B w wr) (hB:B<=wr.heap.size) (ho:wr.ownsRow B e size v n xs) (hg:(wr.alloc o).grownBy w' v.ownBlock):Below B w w':=
 (hb.alloc hB o).grown hg (Nat.le_trans hB (by simp)) (fun k e=>(ho.lt k e).1)
theorem vR {B:Nat} {wr w':World} {o:Obj} {e:TypeId} {size:Nat} {v u:Value} {n:Nat} {xs:List Value} {a:Addr} (hc:wr.cell? a=some u) (ha:a.block<B) (ho:wr.ownsRow B e size v n xs) (hg:(wr.alloc o).grownBy w' v.ownBlock):w'.cell? a=some u:=
 hg.cell ((World.cell?_alloc_lt (h:=World.block_lt_of_cell? _ _ hc) ..).trans hc) (fun h=>by have:=(ho.lt _ h.symm).1;omega)
theorem aI2 (w:World) (x:Option Addr) (n c:Nat) (ps:List Pr) (t m:Int) (hl:ps.length=n) (hp:Prs w (.slice x n c) ps) (hn:n<=100) (hm:∀i,i<n->0<=(pr ps i).2/\(pr ps i).2<=100000) (m0:0<=m) (m1:m<=100000):
  Calls prog 226 #[.slice x n c,.agg #[iv t,iv m]] w fun e w'=>∃v,e=.returned v/\aJ w' w.heap.size v (cZ ps (t,m))/\Below w.heap.size w w':=by
 obtain⟨i0,hi,hz0,hz1,hz2⟩:=info_parts fQ;have HP:=hd_ hp.cells;have HL:=hd_ hl;have HM:=hd_ hm;have hA:=(Below.refl w.heap.size w).alloc lr_ (.cells #[iv t,iv m] 213);have HA:=hd_ hA;have C0:Hid ((w.alloc (.cells #[iv t,iv m] 213)).cell? ⟨w.heap.size,0,none⟩=some (.int .i64 t)):=by show _=_;simp
 have C1:Hid ((w.alloc (.cells #[iv t,iv m] 213)).cell? ⟨w.heap.size,1,none⟩=some (.int .i64 m)):=by show _=_;simp
 have E0:Hid (aJ ((w.alloc (.cells #[iv t,iv m] 213)).alloc (.cells #[] 213)) (w.heap.size+1) (.slice (some ⟨w.heap.size+1,0,none⟩) 0 0) []):=by
  have h:=qS (w.alloc (.cells #[iv t,iv m] 213)) (w.heap.size+1) (by simp);have e:(w.alloc (.cells #[iv t,iv m] 213)).heap.size=w.heap.size+1:=by simp
  rw[e]at h;exact h
 clear hl hp hm hA;go_enter func226,ntmps226;go_wp2;go_loopw [5,6,7] (fun u d i wr=>∃(k:Nat) (dn:Bool) (os:List Pr),k<=n/\i=.int .i64 k/\d=.bool dn/\os.length<=k+dn.toNat/\aJ wr (w.heap.size+1) u os/\os++qW (ps.drop k) (t,m) dn=cZ ps (t,m)/\Below (w.heap.size+1) (w.alloc (.cells #[iv t,iv m] 213)) wr) (fun _ _ i _=>n - (intOf i).toNat)
 case atStart=>exact⟨0,false,[],Nat.zero_le _,rfl,rfl,Nat.zero_le _,E0.out,rfl,(Below.refl _ _).alloc (by simp) _⟩
 case round=>
  obtain⟨k,dn,os,hk,rfl,rfl,hos,hown,hput,hbl⟩:=hrel;obtain⟨y,cp,hu,_,_⟩:=hown.form;obtain⟨no,hno⟩:=nm_ os.length;have hdn:dn.toNat<=1:=by cases dn<;>simp
  have hno2:no<=200:=o_;clear hdn;rw[<-hno]at hu;subst hu;have HN:=hd_ hno;have HPT:=hd_ hput;have HB:=hd_ hbl;have hsz:=hbl.size;simp only[World.size_alloc]at hsz;have ho:wr.ownsRow (w.heap.size+1) 213 2 (.slice y no cp) no (prs os):=by have h:=hown;unfold aJ at h;rw[<-hno]at h;exact h
  have HO:=hd_ ho;have b0:wr.cell? ⟨w.heap.size,0,none⟩=some (.int .i64 t):=(hbl.cell (p:=⟨w.heap.size,0,none⟩) (by simp)).trans C0.out;have b1:wr.cell? ⟨w.heap.size,1,none⟩=some (.int .i64 m):=(hbl.cell (p:=⟨w.heap.size,1,none⟩) (by simp)).trans C1.out;have hlt1:w.heap.size<w.heap.size+1:=Nat.lt_succ_self _;clear hput hbl hown hno ho
  by_cases hlt:k<n
  ·obtain⟨b,o,rfl,hb,h1,h2⟩:=HP.out k (by rw[HL.out];exact hlt)
   have tr:∀j v,w.cell? ⟨b,j,none⟩=some v->wr.cell? ⟨b,j,none⟩=some v:=fun j v h=>by
    exact zA6
   replace h1:=tr _ _ h1;replace h2:=tr _ _ h2;have hb1:b<w.heap.size+1:=o_;have hd:=aK8 (ps:=ps) (k:=k) (by rw[HL.out];exact hlt);have hmm:=HM.out k hlt;have H200:no<=200:=hno2;generalize pr ps k=q at h1 h2 hd hmm;obtain⟨t',m'⟩:=q;simp only at h1 h2 hmm;rw[hd]at HPT;obtain⟨mm0,mm1⟩:=hmm;clear hd tr;have k0:(0:Int)<=(k:Int):=o_;have kn:(k:Int)<(n:Int):=o_;cases dn with
   |true=>
    have hos1:os.length<=k+1:=hos;clear hos;go_wp2
    go_quiet (fail)
    obtain⟨wq,hwq⟩:=nm_ (wr.drewN nq);have HOq:Hid (wq.ownsRow (w.heap.size+1) 213 2 (.slice y no cp) no (prs os)):=by rw[hwq];exact HO.out
    have HBq:Hid (Below (w.heap.size+1) (w.alloc (.cells #[iv t,iv m] 213)) wq):=by rw[hwq];exact below_drewN HB.out _
    have hszq:w.heap.size+1<=wq.heap.size:=by rw[hwq];exact hsz
    have h1q:wq.cell? ⟨b,o+k * 2,none⟩=some (.int .i64 t'):=by rw[hwq];exact h1
    have h2q:wq.cell? ⟨b,o+k * 2+1,none⟩=some (.int .i64 m'):=by rw[hwq];exact h2
    have b0q:wq.cell? ⟨w.heap.size,0,none⟩=some (.int .i64 t):=by rw[hwq];exact b0
    have b1q:wq.cell? ⟨w.heap.size,1,none⟩=some (.int .i64 m):=by rw[hwq];exact b1
    rw[<-hwq];clear hwq h1 h2 b0 b1 HO HB hsz
    go_wp2_with (first|(at_builtin;refine wpList_append_own _ rfl _ _ 39 rfl (w.heap.size+1) 213 i0 (.agg #[iv 0,iv 0]) 2 16 underlying39 hi hz0 hz1 hz2 rfl dc_ _ _ _ rfl (HOq.out.alloc _) ⟨wq.heap.size,0,none⟩ 1 1 [iv t',iv m'] rfl rfl (cW _ _ _ _) (by simp[Value.oneCell']) (by unfold maxLen;omega) o_ (by simp;omega) ?_;intro v1 w1 ho1 hg1 _;obtain⟨g_v1,c_v1,rfl,_,_⟩:=World.ownsRow.form ho1 (Nat.succ_pos _)))
    go_roundw
    case rel=>exact⟨k+1,true,os++[(t',m')],o_,gn_,rfl,by simp;omega,fG ho1 HN.out,by rw[<-HPT.out];simp[qW],bQ HBq.out hszq HOq.out hg1⟩
    case measure=>simp[intOf];omega
   |false=>
    have hos1:os.length<=k:=hos;clear hos
    by_cases hlt2:t'<t
    ·have hD:decide (t<=t')=false:=decide_eq_false o_
     go_wp2
     go_quiet (fail)
     obtain⟨wq,hwq⟩:=nm_ (wr.drewN nq);have HOq:Hid (wq.ownsRow (w.heap.size+1) 213 2 (.slice y no cp) no (prs os)):=by rw[hwq];exact HO.out
     have HBq:Hid (Below (w.heap.size+1) (w.alloc (.cells #[iv t,iv m] 213)) wq):=by rw[hwq];exact below_drewN HB.out _
     have hszq:w.heap.size+1<=wq.heap.size:=by rw[hwq];exact hsz
     have h1q:wq.cell? ⟨b,o+k * 2,none⟩=some (.int .i64 t'):=by rw[hwq];exact h1
     have h2q:wq.cell? ⟨b,o+k * 2+1,none⟩=some (.int .i64 m'):=by rw[hwq];exact h2
     have b0q:wq.cell? ⟨w.heap.size,0,none⟩=some (.int .i64 t):=by rw[hwq];exact b0
     have b1q:wq.cell? ⟨w.heap.size,1,none⟩=some (.int .i64 m):=by rw[hwq];exact b1
     rw[<-hwq];clear hwq h1 h2 b0 b1 HO HB hsz
     go_wp2_with (first|(at_builtin;refine wpList_append_own _ rfl _ _ 39 rfl (w.heap.size+1) 213 i0 (.agg #[iv 0,iv 0]) 2 16 underlying39 hi hz0 hz1 hz2 rfl dc_ _ _ _ rfl (HOq.out.alloc _) ⟨wq.heap.size,0,none⟩ 1 1 [iv t',iv m'] rfl rfl (cW _ _ _ _) (by simp[Value.oneCell']) (by unfold maxLen;omega) o_ (by simp;omega) ?_;intro v1 w1 ho1 hg1 _;obtain⟨g_v1,c_v1,rfl,_,_⟩:=World.ownsRow.form ho1 (Nat.succ_pos _)))
     go_roundw
     case rel=>exact⟨k+1,false,os++[(t',m')],o_,gn_,rfl,by simp;omega,fG ho1 HN.out,by rw[<-HPT.out];simp[qW,cZ,hlt2],bQ HBq.out hszq HOq.out hg1⟩
     case measure=>simp[intOf];omega
    ·have hD:decide (t<=t')=true:=decide_eq_true o_
     by_cases he:t'=t
     ·have he':=he.symm
      subst he';go_wp2
      go_quiet (fail)
      obtain⟨wq,hwq⟩:=nm_ (wr.drewN nq);have HOq:Hid (wq.ownsRow (w.heap.size+1) 213 2 (.slice y no cp) no (prs os)):=by rw[hwq];exact HO.out
      have HBq:Hid (Below (w.heap.size+1) (w.alloc (.cells #[iv t,iv m] 213)) wq):=by rw[hwq];exact below_drewN HB.out _
      have hszq:w.heap.size+1<=wq.heap.size:=by rw[hwq];exact hsz
      have h1q:wq.cell? ⟨b,o+k * 2,none⟩=some (.int .i64 t):=by rw[hwq];exact h1
      have h2q:wq.cell? ⟨b,o+k * 2+1,none⟩=some (.int .i64 m'):=by rw[hwq];exact h2
      have b0q:wq.cell? ⟨w.heap.size,0,none⟩=some (.int .i64 t):=by rw[hwq];exact b0
      have b1q:wq.cell? ⟨w.heap.size,1,none⟩=some (.int .i64 m):=by rw[hwq];exact b1
      rw[<-hwq];clear hwq h1 h2 b0 b1 HO HB hsz;have ws:IntKind.i64.wrap (m+m')=m+m':=IntWalk.i64_in _ o_;go_wp2
      go_quiet (fail)
      obtain⟨w3,hw3⟩:=nm_ (wq.drewN nq);have HO3:Hid (w3.ownsRow (w.heap.size+1) 213 2 (.slice y no cp) no (prs os)):=by rw[hw3];exact HOq.out
      have HB3:Hid (Below (w.heap.size+1) (w.alloc (.cells #[iv t,iv m] 213)) w3):=by rw[hw3];exact below_drewN HBq.out _
      have hsz3:w.heap.size+1<=w3.heap.size:=by rw[hw3];exact hszq
      have h2r:w3.cell? ⟨b,o+k * 2+1,none⟩=some (.int .i64 m'):=by rw[hw3];exact h2q
      have b0r:w3.cell? ⟨w.heap.size,0,none⟩=some (.int .i64 t):=by rw[hw3];exact b0q
      have b1r:w3.cell? ⟨w.heap.size,1,none⟩=some (.int .i64 m):=by rw[hw3];exact b1q
      rw[<-hw3];clear hw3 h1q h2q b0q b1q HOq HBq hszq
      go_wp2_with fail
      go_region_law ((refine step_append_lies _ r_ _ _ _ r_ (w.heap.size+1) 213 i0 _ 2 16 underlying39 hi hz0 hz1 hz2 rfl dc_ (.slice y no cp) no (prs os) r_ ((HO3.out.alloc _).drew) ⟨w3.heap.size,0,none⟩ 1 1 [iv t,iv (m+m')] r_ r_ (World.news_of_block (cs:=#[.int .i64 t,.int .i64 (m+m')]) (t:=213) (fr:=(0,0)) (heap_alloc_new w3 _)) (by simp[Value.oneCell']) o_ (by unfold maxLen;omega) o_ (by simp;omega) (w3.heap.size+1) (by simp) ?_;intro g1 cap1 w4 hown4 hgrow4 hat4 hlt4))
      all_goals
       have hg5:(w3.alloc (.cells #[iv t,iv (m+m')] 213)).grownBy w4 (Value.slice y no cp).ownBlock:=pQ hgrow4;go_wp2;go_roundw
       case rel=>exact⟨k+1,true,os++[(t,m+m')],o_,gn_,rfl,by simp;omega,fG hown4 HN.out,by rw[<-HPT.out];simp[qW,cZ],bQ HB3.out hsz3 HO3.out hg5⟩
       case measure=>simp[intOf];omega
     ·have he1:(t'==t)=false:=by simpa using he
      have he2:decide (t'=t)=false:=by simpa using he
      go_wp2
      go_quiet (fail)
      obtain⟨wq,hwq⟩:=nm_ (wr.drewN nq);have HOq:Hid (wq.ownsRow (w.heap.size+1) 213 2 (.slice y no cp) no (prs os)):=by rw[hwq];exact HO.out
      have HBq:Hid (Below (w.heap.size+1) (w.alloc (.cells #[iv t,iv m] 213)) wq):=by rw[hwq];exact below_drewN HB.out _
      have hszq:w.heap.size+1<=wq.heap.size:=by rw[hwq];exact hsz
      have h1q:wq.cell? ⟨b,o+k * 2,none⟩=some (.int .i64 t'):=by rw[hwq];exact h1
      have h2q:wq.cell? ⟨b,o+k * 2+1,none⟩=some (.int .i64 m'):=by rw[hwq];exact h2
      have b0q:wq.cell? ⟨w.heap.size,0,none⟩=some (.int .i64 t):=by rw[hwq];exact b0
      have b1q:wq.cell? ⟨w.heap.size,1,none⟩=some (.int .i64 m):=by rw[hwq];exact b1
      rw[<-hwq];clear hwq h1 h2 b0 b1 HO HB hsz;go_wp2
      go_quiet (fail)
      obtain⟨w3,hw3⟩:=nm_ (wq.drewN nq);have HO3:Hid (w3.ownsRow (w.heap.size+1) 213 2 (.slice y no cp) no (prs os)):=by rw[hw3];exact HOq.out
      have HB3:Hid (Below (w.heap.size+1) (w.alloc (.cells #[iv t,iv m] 213)) w3):=by rw[hw3];exact below_drewN HBq.out _
      have hsz3:w.heap.size+1<=w3.heap.size:=by rw[hw3];exact hszq
      have h1r:w3.cell? ⟨b,o+k * 2,none⟩=some (.int .i64 t'):=by rw[hw3];exact h1q
      have h2r:w3.cell? ⟨b,o+k * 2+1,none⟩=some (.int .i64 m'):=by rw[hw3];exact h2q
      have b0r:w3.cell? ⟨w.heap.size,0,none⟩=some (.int .i64 t):=by rw[hw3];exact b0q
      have b1r:w3.cell? ⟨w.heap.size,1,none⟩=some (.int .i64 m):=by rw[hw3];exact b1q
      rw[<-hw3];clear hw3 h1q h2q b0q b1q HOq HBq hszq
      go_wp2_with (first|(at_builtin;refine wpList_append_own _ rfl _ _ 39 rfl (w.heap.size+1) 213 i0 (.agg #[iv 0,iv 0]) 2 16 underlying39 hi hz0 hz1 hz2 rfl dc_ _ _ _ rfl (HO3.out.alloc _) ⟨w3.heap.size,0,none⟩ 1 1 [iv t,iv m] rfl rfl (cW _ _ _ _) (by simp[Value.oneCell']) (by unfold maxLen;omega) o_ (by simp;omega) ?_;intro v1 w1 ho1 hg1 _;obtain⟨g_v1,c_v1,rfl,_,_⟩:=World.ownsRow.form ho1 (Nat.succ_pos _);have c_1:=vR h1r hb1 HO3.out hg1;have c_2:=vR h2r hb1 HO3.out hg1;have sz1:=hg1.size;simp only[World.size_alloc]at sz1;clear h1r h2r)|(at_builtin;refine wpList_append_own _ rfl _ _ 39 rfl (w.heap.size+1) 213 i0 (.agg #[iv 0,iv 0]) 2 16 underlying39 hi hz0 hz1 hz2 rfl dc_ _ _ _ rfl (ho1.alloc _) ⟨w1.heap.size,0,none⟩ 1 1 [iv t',iv m'] rfl rfl (cW _ _ _ _) (by simp[Value.oneCell']) (by unfold maxLen;omega) o_ (by simp;omega) ?_;intro v2 w2 ho2 hg2 _;obtain⟨g_v2,c_v2,rfl,_,_⟩:=World.ownsRow.form ho2 (Nat.succ_pos _)))
      have o1:=fG ho1 HN.out;have o2:=fG (os:=os++[(t,m)]) (by have h:=ho2;rw[show prs os++[Value.int .i64 t,Value.int .i64 m]=prs (os++[(t,m)])from (sB os (t,m)).symm]at h;exact h) (by simp;exact HN.out);have e2:qW ((t',m')::ps.drop (k+1)) (t,m) false=[(t,m)]++[(t',m')]++ps.drop (k+1):=by simp[qW,cZ,he,hlt2]
      rw[e2]at HPT;have B1:=bQ HB3.out hsz3 HO3.out hg1;have B2:=bQ B1 o_ ho1 hg2;clear e2 B1;go_roundw
      case rel=>exact⟨k+1,true,os++[(t,m)]++[(t',m')],o_,gn_,rfl,by simp;omega,o2,by rw[<-HPT.out];simp[qW],B2⟩
      case measure=>simp[intOf];omega
  ·have hd0:ps.drop k=[]:=List.drop_of_length_le (by rw[HL.out];omega)
   rw[hd0]at HPT;clear hd0;cases dn with
   |true=>
    go_wp2;go_ret;refine⟨_,rfl,?_,HA.out.trans (HB.out.mono (Nat.le_succ _))⟩;have e:cZ ps (t,m)=os:=by rw[<-HPT.out];simp[qW]
    rw[e];have ho:=HO.out;rw[HN.out]at ho ⊢;exact aU ho (Nat.le_succ _)
   |false=>
    go_wp2_with (first|(at_builtin;refine wpList_append_own _ rfl _ _ 39 rfl (w.heap.size+1) 213 i0 (.agg #[iv 0,iv 0]) 2 16 underlying39 hi hz0 hz1 hz2 rfl dc_ _ _ _ rfl (HO.out.alloc _) ⟨wr.heap.size,0,none⟩ 1 1 [iv t,iv m] rfl rfl (cW _ _ _ _) (by simp[Value.oneCell']) (by unfold maxLen;omega) o_ (by simp;omega) ?_;intro v1 w1 ho1 hg1 _;obtain⟨g_v1,c_v1,rfl,_,_⟩:=World.ownsRow.form ho1 (Nat.succ_pos _)))
    go_ret;refine⟨_,rfl,?_,HA.out.trans ((bQ HB.out hsz HO.out hg1).mono (Nat.le_succ _))⟩;have e:cZ ps (t,m)=os++[(t,m)]:=by rw[<-HPT.out];simp[qW,cZ]
    rw[e];exact (fG ho1 HN.out).base (Nat.le_succ _)
theorem aJO (w:World) (v:Value) (ps:List Pr) (t m:Int) (hp:Prs w v ps) (hn:ps.length<=100) (hm:∀i,i<ps.length->0<=(pr ps i).2/\(pr ps i).2<=100000) (m0:0<=m) (m1:m<=100000):
  Calls prog 226 #[v,.agg #[iv t,iv m]] w fun e w'=>∃v,e=.returned v/\aJ w' w.heap.size v (cZ ps (t,m))/\Below w.heap.size w w':=by
 obtain⟨x,c,rfl,_,_⟩:=hp.form;exact aI2 w x _ c ps t m rfl hp hn hm m0 m1
def cD (W:World) (b:Nat) (t:TypeId) (x y z:Value):Prop:=W.heap[b]? =some (.cells #[x,y,z] t (0,0))
section
variable {W W':World} {b:Nat} {t:TypeId} {x y z:Value}
theorem cD.lt (h:cD W b t x y z):b<W.heap.size:=(Array.getElem?_eq_some_iff.1 h).1
theorem cD.new (W:World) (t:TypeId) (x y z:Value):cD (W.alloc (.cells #[x,y,z] t)) W.heap.size t x y z:=heap_alloc_new W _
theorem cD.below (h:cD W b t x y z) {B:Nat} (hb:Below B W W') (hB:b<B):cD W' b t x y z:=(hb.block b hB).trans h
theorem cD.later (h:cD W b t x y z) (hb:Below W.heap.size W W'):cD W' b t x y z:=h.below hb h.lt
theorem cD.drew (h:cD W b t x y z):cD W.drew b t x y z:=h
theorem cD.alloc (h:cD W b t x y z) (o:Obj):cD (W.alloc o) b t x y z:=h.later ((Below.refl _ _).alloc lr_ o)
theorem cD.cell0 (h:cD W b t x y z):W.cell? ⟨b,0,none⟩=some x:=by unfold cD at h;simp[World.cell?,h]
theorem cD.cell1 (h:cD W b t x y z):W.cell? ⟨b,1,none⟩=some y:=by unfold cD at h;simp[World.cell?,h]
theorem cD.cell2 (h:cD W b t x y z):W.cell? ⟨b,2,none⟩=some z:=by unfold cD at h;simp[World.cell?,h]
theorem cD.free (h:cD W b t x y z) (i:Nat):W.frozen? ⟨b,i,none⟩=false:=by unfold cD at h;simp[World.frozen?,h]
theorem cD.set0 (h:cD W b t x y z) (u:Value):cD (W.setCell ⟨b,0,none⟩ u) b t u y z:=by unfold cD at h ⊢;rw[heap_setCell_same W b 0 _ _ _ h];rfl
theorem cD.set1 (h:cD W b t x y z) (u:Value):cD (W.setCell ⟨b,1,none⟩ u) b t x u z:=by unfold cD at h ⊢;rw[heap_setCell_same W b 1 _ _ _ h];rfl
theorem cD.set2 (h:cD W b t x y z) (u:Value):cD (W.setCell ⟨b,2,none⟩ u) b t x y u:=by unfold cD at h ⊢;rw[heap_setCell_same W b 2 _ _ _ h];rfl
theorem cD.set (h:cD W b t x y z) (x' y' z':Value):cD (((W.setCell ⟨b,0,none⟩ x').setCell ⟨b,1,none⟩ y').setCell ⟨b,2,none⟩ z') b t x' y' z':=((h.set0 x').set1 y').set2 z'
theorem cD.not_row {B:Nat} {e:TypeId} {size n:Nat} {v:Value} {xs:List Value} (h:cD W b t x y z) (ht:t≠e) (ho:W.ownsRow B e size v n xs):v.ownBlock≠some b:=fun hb=>by
 rcases ho.2 with ⟨rfl,_⟩|⟨g,cap,cur,rfl,_,hg,_⟩
 ·cases hb
 ·obtain rfl:g=b:=by simpa[Value.ownBlock]using hb
  unfold cD at h;rw[hg]at h;cases h;exact ht rfl
end
theorem gE {B b:Nat} {w W:World} (h:Below B w W) (hb:B<=b) (x y z:Value):Below B w (((W.setCell ⟨b,0,none⟩ x).setCell ⟨b,1,none⟩ y).setCell ⟨b,2,none⟩ z):=((h.setCell hb _).setCell hb _).setCell hb _
theorem aJ.set3 {W:World} {B b:Nat} {v:Value} {ps:List Pr} (h:aJ W B v ps) (hv:v.ownBlock≠some b) (x y z:Value):aJ (((W.setCell ⟨b,0,none⟩ x).setCell ⟨b,1,none⟩ y).setCell ⟨b,2,none⟩ z) B v ps:=
 ((h.keep (aF W ⟨b,0,none⟩ x) hv).keep (aF _ ⟨b,1,none⟩ y) hv).keep (aF _ ⟨b,2,none⟩ z) hv
def bZ (ps:List Pr) (v:Int):Nat:=(ps.filter fun p=>decide (v<=p.2)).length
def jZ (ps:List Pr):Nat->Int
 | 0=>0
 |k+1=>if 4<bZ ps (pr ps k).2 then max (jZ ps k) (pr ps k).2 else jZ ps k
def cL (ps:List Pr):Int:=jZ ps ps.length
theorem wE (ps:List Pr) (v:Int):bZ ps v<=ps.length:=List.length_filter_le _ _
theorem aFP (ps:List Pr) (k:Nat) (v:Int) (h:k<ps.length):bZ (ps.take (k+1)) v=bZ (ps.take k) v+if v<=(pr ps k).2 then 1 else 0:=by
 rw[eA ps k h];unfold bZ;rw[List.filter_append,List.length_append]
 by_cases h:v<=(pr ps k).2<;>simp[h]
theorem aDQ {ps:List Pr} {M:Int} {k:Nat} (hM:0<=M) (hk:k<=ps.length) (h:∀i,i<ps.length->0<=(pr ps i).2/\(pr ps i).2<=M):0<=jZ ps k/\jZ ps k<=M:=by
 induction k with
 |zero=>exact⟨Int.le_refl _,hM⟩
 |succ k ih=>
  have:=ih o_;have:=h k o_;unfold jZ
  split<;>omega
theorem aA9 {ps:List Pr} {M:Int} (hM:0<=M) (h:∀i,i<ps.length->0<=(pr ps i).2/\(pr ps i).2<=M):0<=cL ps/\cL ps<=M:=aDQ hM lr_ h
theorem aHf (w:World) (x:Option Addr) (n c:Nat) (ps:List Pr) (hl:ps.length=n) (hp:Prs w (.slice x n c) ps) (hn:n<=100) (hm:∀i,i<n->0<=(pr ps i).2/\(pr ps i).2<=100000):
  Calls prog 278 #[.slice x n c] w fun e w'=>e=.returned (iv (cL ps))/\Below w.heap.size w w':=by
 have HP:=hd_ hp.cells;have HL:=hd_ hl;have HM:=hd_ hm;clear hl hp hm;go_enter func278,ntmps278;go_wp2;go_loopw [3,4] (fun q i wr=>∃k:Nat,k<=n/\i=.int .i64 k/\q=.int .i64 (jZ ps k)/\Below w.heap.size w wr) (fun _ i _=>n - (intOf i).toNat)
 case atStart=>exact⟨0,Nat.zero_le _,rfl,rfl,Below.refl _ _⟩
 case round=>
  obtain⟨k,hk,rfl,rfl,hbl⟩:=hrel;have HB:=hd_ hbl;have ob:=aDQ (ps:=ps) (M:=100000) (k:=k) o_ (by rw[HL.out];exact hk) (fun i hi=>HM.out i (by rw[HL.out]at hi;exact hi));clear hbl
  by_cases hlt:k<n
  ·obtain⟨b,o,rfl,hb,g1,g2⟩:=HP.out k (by rw[HL.out];exact hlt)
   have G2:=hd_ g2;have hmk:=HM.out k hlt;have hov:Hid (jZ ps (k+1)=if 4<bZ ps (pr ps k).2 then max (jZ ps k) (pr ps k).2 else jZ ps k):=by show jZ _ _=_;rfl
   have k0:(0:Int)<=(k:Int):=o_;have kn:(k:Int)<(n:Int):=o_;obtain⟨wo,rfl⟩:∃wo:World,wo=wr:=⟨_,rfl⟩
   generalize (pr ps k).2=v at G2 hmk hov;clear g1 g2;go_wp2;go_loopw [5,6] (fun q i wr=>∃j:Nat,j<=n/\i=.int .i64 j/\q=.int .i64 (bZ (ps.take j) v)/\Below wo.heap.size wo wr) (fun _ i _=>n - (intOf i).toNat)
   case atStart=>exact⟨0,Nat.zero_le _,rfl,rfl,Below.refl _ _⟩
   case round=>
    obtain⟨j,hj,rfl,rfl,hbj⟩:=hrel;have HJ:=hd_ hbj;have FB:=hd_ (HB.out.trans (hbj.mono HB.out.size));have cb:=wE (ps.take j) v;have cl:(ps.take j).length<=100:=by have:=HL.out;simp;omega
    have g2w:wr.cell? ⟨b,o+k * 2+1,none⟩=some (.int .i64 v):=(FB.out.cell (p:=⟨b,o+k * 2+1,none⟩) hb).trans G2.out;clear hbj
    by_cases hjl:j<n
    ·obtain⟨b',o',e',hb',h1,h2⟩:=HP.out j (by rw[HL.out];exact hjl)
     cases e';have h2w:=(FB.out.cell (p:=⟨b,o+j * 2+1,none⟩) hb).trans h2;have hc:=hd_ (aFP ps j v (by rw[HL.out];exact hjl));have hmj:=HM.out j hjl;generalize (pr ps j).2=u at h2w hc hmj;generalize bZ (ps.take j) v=C at *;have j0:(0:Int)<=(j:Int):=o_;have jn:(j:Int)<(n:Int):=o_;clear h1 h2
     by_cases hvu:v<=u
     ·rw[if_pos hvu]at hc
      go_wp2
      go_quiet (fail)
      go_wp2;go_roundw
      case rel=>exact⟨j+1,o_,gn_,by rw[hc.out];go_num,below_drewN HJ.out _⟩
      case measure=>simp[intOf];omega
     ·rw[if_neg hvu]at hc
      go_wp2
      go_quiet (fail)
      go_wp2;go_roundw
      case rel=>exact⟨j+1,o_,gn_,by rw[hc.out];rfl,below_drewN HJ.out _⟩
      case measure=>simp[intOf];omega
    ·obtain rfl:j=n:=o_
     have e1:ps.take j=ps:=List.take_of_length_le (by rw[HL.out];exact Nat.le_refl _);rw[e1]at cb ⊢;generalize bZ ps v=C at *;clear e1 cl
     by_cases h4:4<C
     ·rw[if_pos h4]at hov
      go_wp2;go_roundw
      case rel=>exact⟨k+1,o_,gn_,by rw[hov.out]<;>first|rfl|(congr 1;omega)|(congr 1;simp[Int.max_def];omega),FB.out⟩
      case measure=>simp[intOf];omega
     ·rw[if_neg h4]at hov
      go_wp2;go_roundw
      case rel=>exact⟨k+1,o_,gn_,by rw[hov.out],FB.out⟩
      case measure=>simp[intOf];omega
  ·obtain rfl:k=n:=o_
   go_wp2;go_ret;exact⟨jC (by unfold cL;rw[HL.out]),HB.out⟩
theorem aHC (w:World) (v:Value) (ps:List Pr) (hp:Prs w v ps) (hn:ps.length<=100) (hm:∀i,i<ps.length->0<=(pr ps i).2/\(pr ps i).2<=100000):
  Calls prog 278 #[v] w fun e w'=>e=.returned (iv (cL ps))/\Below w.heap.size w w':=by
 obtain⟨x,c,rfl,_,_⟩:=hp.form;exact aHf w x _ c ps rfl hp hn hm
def cG:List Pr->Int->List Pr
 | [],_=>[]
 |p::ps,n=>if n<p.2 then (p.1,p.2 - n)::cG ps n else cG ps n
theorem aDi (ps qs:List Pr) (n:Int):cG (ps++qs) n=cG ps n++cG qs n:=by
 induction ps with
 |nil=>rfl
 |cons p ps ih=>
  simp only[List.cons_append,cG]
  split<;>simp[ih]
theorem aCn (ps:List Pr) (n:Int):(cG ps n).length<=ps.length:=by
 induction ps with
 |nil=>simp[cG]
 |cons p ps ih=>unfold cG;split<;>simp<;>omega
theorem aBi (ps:List Pr) (k:Nat) (n:Int) (h:k<ps.length):cG (ps.take (k+1)) n=cG (ps.take k) n++if n<(pr ps k).2 then [((pr ps k).1,(pr ps k).2 - n)]else []:=by
 rw[eA ps k h,aDi];simp only[cG]
theorem aHB (w:World) (x:Option Addr) (n c:Nat) (ps:List Pr) (m:Int) (hl:ps.length=n) (hp:Prs w (.slice x n c) ps) (hn:n<=100) (hm:∀i,i<n->0<=(pr ps i).2/\(pr ps i).2<=100000) (m0:0<=m) (m1:m<=100000):
  Calls prog 279 #[.slice x n c,iv m] w fun e w'=>∃v,e=.returned v/\aJ w' w.heap.size v (cG ps m)/\Below w.heap.size w w':=by
 obtain⟨i0,hi,hz0,hz1,hz2⟩:=info_parts fQ;have HP:=hd_ hp.cells;have HL:=hd_ hl;have HM:=hd_ hm;have E0:=hd_ (qS w w.heap.size lr_);clear hl hp hm;go_enter func279,ntmps279;go_wp2;go_loopw [5,6] (fun u i wr=>∃(k:Nat) (os:List Pr),k<=n/\i=.int .i64 k/\os=cG (ps.take k) m/\aJ wr w.heap.size u os/\Below w.heap.size w wr) (fun _ i _=>n - (intOf i).toNat)
 case atStart=>exact⟨0,[],Nat.zero_le _,rfl,by simp[cG],E0.out,(Below.refl _ _).alloc lr_ _⟩
 case round=>
  obtain⟨k,os,hk,rfl,hos,hown,hbl⟩:=hrel;obtain⟨y,cp,hu,_,_⟩:=hown.form;obtain⟨no,hno⟩:=nm_ os.length;have hno2:no<=200:=by have:=aCn (ps.take k) m;rw[hno,hos];have:=HL.out;simp at *;omega
  rw[<-hno]at hu;subst hu;have HOS:=hd_ hos;have HN:=hd_ hno;have HB:=hd_ hbl;have hsz:=hbl.size;have ho:wr.ownsRow w.heap.size 213 2 (.slice y no cp) no (prs os):=by have h:=hown;unfold aJ at h;rw[<-hno]at h;exact h
  have HO:=hd_ ho;clear hbl hown hno ho hos
  by_cases hlt:k<n
  ·obtain⟨b,o,rfl,hb,h1,h2⟩:=HP.out k (by rw[HL.out];exact hlt)
   replace h1:=(HB.out.cell (p:=⟨b,o+k * 2,none⟩) hb).trans h1;replace h2:=(HB.out.cell (p:=⟨b,o+k * 2+1,none⟩) hb).trans h2;have hs:=hd_ (aBi ps k m (by rw[HL.out];exact hlt));have hmm:=HM.out k hlt;generalize pr ps k=q at h1 h2 hs hmm;obtain⟨t',m'⟩:=q;simp only at h1 h2 hmm;have k0:(0:Int)<=(k:Int):=o_;have kn:(k:Int)<(n:Int):=o_
   by_cases hlm:m<m'
   ·rw[if_pos (by exact hlm)]at hs
    have ws:IntKind.i64.wrap (m' - m)=m' - m:=IntWalk.i64_in _ o_
    go_wp2_with fail
    go_region_law ((refine step_append_lies _ r_ _ _ _ r_ w.heap.size 213 i0 _ 2 16 underlying39 hi hz0 hz1 hz2 rfl dc_ (.slice y no cp) no (prs os) r_ ((HO.out.alloc _).drew) ⟨wr.heap.size,0,none⟩ 1 1 [iv t',iv (m' - m)] r_ r_ (World.news_of_block (cs:=#[.int .i64 t',.int .i64 (m' - m)]) (t:=213) (fr:=(0,0)) (heap_alloc_new wr _)) (by simp[Value.oneCell']) o_ (by unfold maxLen;omega) o_ (by simp;omega) (wr.heap.size+1) (by simp) ?_;intro g1 cap1 w4 hown4 hgrow4 hat4 hlt4))
    all_goals
     have hg5:(wr.alloc (.cells #[iv t',iv (m' - m)] 213)).grownBy w4 (Value.slice y no cp).ownBlock:=pQ hgrow4;go_wp2;go_roundw
     case rel=>exact⟨k+1,os++[(t',m' - m)],o_,gn_,by rw[hs.out,HOS.out],fG hown4 HN.out,bQ HB.out hsz HO.out hg5⟩
     case measure=>simp[intOf];omega
   ·rw[if_neg (by exact hlm)]at hs
    go_wp2;go_roundw
    case rel=>exact⟨k+1,os,o_,gn_,by rw[hs.out,HOS.out,List.append_nil],by have h:=HO.out;rw[HN.out]at h ⊢;exact h,HB.out⟩
    case measure=>simp[intOf];omega
  ·obtain rfl:k=n:=o_
   have e1:cG ps m=os:=by rw[HOS.out,List.take_of_length_le (by rw[HL.out];exact Nat.le_refl _)]
   have E1:=hd_ e1;clear e1;go_wp2;go_ret;exact⟨_,rfl,by rw[E1.out];have h:=HO.out;rw[HN.out]at h ⊢;exact h,HB.out⟩
theorem aG6 (w:World) (v:Value) (ps:List Pr) (m:Int) (hp:Prs w v ps) (hn:ps.length<=100) (hm:∀i,i<ps.length->0<=(pr ps i).2/\(pr ps i).2<=100000) (m0:0<=m) (m1:m<=100000):
  Calls prog 279 #[v,iv m] w fun e w'=>∃v,e=.returned v/\aJ w' w.heap.size v (cG ps m)/\Below w.heap.size w w':=by
 obtain⟨x,c,rfl,_,_⟩:=hp.form;exact aHB w x _ c ps m rfl hp hn hm m0 m1
theorem aI8 (w:World) (u:Value) (ps:List Pr) (lost all:Int) (hp:Prs w u ps) (hn:ps.length<=100) (hm:∀i,i<ps.length->0<=(pr ps i).2/\(pr ps i).2<=100000) (m0:0<=lost) (m1:lost<=100000):
  Calls prog 227 #[.agg #[u,iv lost,iv all]] w fun e w'=>∃v,e=.returned (.agg #[v,iv (lost+cL ps),iv all])/\aJ w' w.heap.size v (cG ps (cL ps))/\Below w.heap.size w w':=by
 have hA:=((Below.refl w.heap.size w).alloc lr_ (.cells #[u,iv lost,iv all] 41)).alloc (by simp) (.cells #[zn,iv 0,iv 0] 41);have HA:=hd_ hA;have I0:=hd_ (hp.below hA lr_);have K:=hd_ (aHC _ u ps I0.out hn hm);have ob:=aA9 (M:=100000) o_ hm;obtain⟨ov,hov⟩:=nm_ (cL ps);rw[<-hov]at K ob ⊢
 have KL:Hid (∀W,Prs W u ps->Calls prog 279 #[u,iv ov] W fun e w'=>∃v,e=.returned v/\aJ w' W.heap.size v (cG ps ov)/\Below W.heap.size W w'):=fun W hW=>aG6 W u ps ov hW hn hm ob.1 ob.2
 obtain⟨x,c,hu,_,_⟩:=hp.form;obtain⟨n,hn'⟩:=nm_ ps.length;rw[<-hn']at hu;subst hu;have K0:=hd_ (K.out);obtain⟨W0,hW0⟩:=nm_ ((w.alloc (.cells #[.slice x n c,iv lost,iv all] 41)).alloc (.cells #[zn,iv 0,iv 0] 41));have X0:cD W0 w.heap.size 41 (.slice x n c) (iv lost) (iv all):=by rw[hW0];exact (cD.new _ _ _ _ _).alloc _
 have R0:cD W0 (w.heap.size+1) 41 zn (iv 0) (iv 0):=by
  exact zAH
 rw[<-hW0]at K HA I0;have HW0:=hd_ hW0;have x0:=X0.cell0;have x1:=X0.cell1;have x2:=X0.cell2;clear hA hW0 hov hn' hp hm K0;go_enter func227,ntmps227
 go_wp2_with fail
 rw[<-HW0.out]
 go_wp2_with fail
 refine K.out.mono ?_;rintro e w1 ⟨rfl,hb1⟩;have X1:=X0.later hb1;have R1:=R0.later hb1;have B1:=hd_ (HA.out.trans (hb1.mono HA.out.size));have I1:=hd_ (I0.out.below hb1 lr_);clear hb1 X0 R0 x0 x1 x2 K HA I0;have x0:=X1.cell0;have x1:=X1.cell1;have x2:=X1.cell2;have ws:IntKind.i64.wrap (lost+ov)=lost+ov:=IntWalk.i64_in _ o_
 have KD:Hid (Calls prog 279 #[.slice x n c,iv ov] w1.drew fun e w'=>∃v,e=.returned v/\aJ w' w1.drew.heap.size v (cG ps ov)/\Below w1.drew.heap.size w1.drew w'):=KL.out w1.drew I1.out
 go_wp2_with fail
 go_region_with (first|(go_at_call 279;refine KD.out.mono ?_;rintro e w2 ⟨v,rfl,ho2,hb2⟩;obtain⟨xv,cv,rfl,_,_⟩:=ho2.form;have X2:=X1.drew.later hb2;have y0:=X2.cell0;have y1:=X2.cell1;have y2:=X2.cell2;have R2:=R1.drew.later hb2;have f2:=R2.free;have z0:=R2.cell0;have z1:=R2.cell1;have z2:=R2.cell2))
 all_goals
  have RZ:=R2.set (.slice xv (cG ps ov).length cv) (iv (lost+ov)) (iv all);have hr0:=RZ.cell0;have hr1:=RZ.cell1;have hr2:=RZ.cell2;have OZ:=hd_ (((ho2.set3 (R2.not_row dc_ ho2) (.slice xv (cG ps ov).length cv) (iv (lost+ov)) (iv all))).base (B':=w.heap.size) (by have:=B1.out.size;simpa using this))
  have BZ:=hd_ (gE (b:=w.heap.size+1) ((B1.out.trans (Below.drew (Below.refl _ _))).trans (hb2.mono (by have:=B1.out.size;simpa using this))) (Nat.le_succ _) (.slice xv (cG ps ov).length cv) (iv (lost+ov)) (iv all));clear ho2 hb2 X2 R2 RZ y0 y1 y2 f2 z0 z1 z2;go_wp2
  exact bodyPost_ret (v:=.agg #[.slice xv (cG ps ov).length cv,iv (lost+ov),iv all]) (by simp[results,results227,go_sem,hr0,hr1,hr2]) rfl ⟨_,rfl,OZ.out,BZ.out⟩
def BdP (M:Int) (ps:List Pr):Prop:=∀p ∈ ps,0<=p.2/\p.2<=M
theorem BdP.at {M:Int} {ps:List Pr} (h:BdP M ps):∀i,i<ps.length->0<=(pr ps i).2/\(pr ps i).2<=M:=fun _ hi=>h _ (jH hi)
theorem BdP.mono {M N:Int} {ps:List Pr} (h:BdP M ps) (hM:M<=N):BdP N ps:=fun p hp=>by have:=h p hp;omega
theorem BdP.put {M:Int} {ps:List Pr} {x:Pr} (h:BdP M ps) (hM:0<=M) (hx:0<=x.2):BdP (M+x.2) (cZ ps x):=by
 induction ps with
 |nil=>intro p hp;simp[cZ]at hp;subst hp;omega
 |cons q ps ih=>
  have hq:=h q (by simp);have ht:BdP M ps:=fun p hp=>h p (by simp[hp])
  intro p hp;unfold cZ at hp
  split at hp
  ·rcases List.mem_cons.1 hp with rfl|hp
   ·omega
   ·exact ih ht p hp
  ·split at hp
   ·rcases List.mem_cons.1 hp with rfl|hp
    ·exact⟨by simp;omega,by simp;omega⟩
    ·have:=ht p hp;omega
   ·rcases List.mem_cons.1 hp with rfl|hp
    ·omega
    ·rcases List.mem_cons.1 hp with rfl|hp
     ·omega
     ·have:=ht p hp;omega
theorem uP.bd {ps:List Pr} {lost all:Int} (h:uP ps lost all):BdP 2000 ps:=fun p hp=>by
 obtain⟨i,hi,rfl⟩:=lA hp;have:=(h.2.1 i hi).1.2;omega
def oJ (ps:List Pr):List Pr:=cG ps (cL ps)
abbrev Tp:=List Pr × Int × Int
def aGU:Tp:=([],0,0)
def iR (ps:List Pr) (lost all t:Int):Bool:=dB ps lost all&&(isT t&&decide (all<2000))
def iL (ps:List Pr) (lost all t:Int):Tp:=if iR ps lost all t then (oJ (cZ ps (t,1)),lost+cL (cZ ps (t,1)),all+1)else aGU
theorem aGJ {ps:List Pr} {lost all t:Int} (h:iR ps lost all t=false):iL ps lost all t=aGU:=by simp[iL,h]
theorem aDN {ps:List Pr} {lost all t:Int} (h:iR ps lost all t=true):iL ps lost all t=(oJ (cZ ps (t,1)),lost+cL (cZ ps (t,1)),all+1):=by simp[iL,h]
theorem oO (ps:List Pr) (lost all t:Int):(dB ps lost all=false/\iR ps lost all t=false)\/(dB ps lost all=true/\(t<0\/63<t)/\iR ps lost all t=false)\/(dB ps lost all=true/\(0<=t/\t<=63)/\2000<=all/\iR ps lost all t=false)\/(dB ps lost all=true/\(0<=t/\t<=63)/\all<2000/\iR ps lost all t=true):=by
 unfold iR;cases h:dB ps lost all
 ·exact .inl ⟨rfl,rfl⟩
 ·cases h':isT t
  ·exact .inr (.inl ⟨rfl,by have:=aLT h';omega,rfl⟩)
  ·have:=aKR h'
   by_cases ha:all<2000
   ·exact .inr (.inr (.inr ⟨rfl,o_,ha,by simp[ha]⟩))
   ·exact .inr (.inr (.inl ⟨rfl,o_,o_,by simp[ha]⟩))
theorem aEz (w:World) (u:Value) (ps:List Pr) (lost all t:Int) (hp:Prs w u ps) (hno:iR ps lost all t=false):
  Calls prog 312 #[.agg #[u,iv lost,iv all],iv t] w fun e w'=>e=.returned (.tuple #[.agg #[zn,iv 0,iv 0],.bool false])/\Below w.heap.size w w':=by
 have hA:=((Below.refl w.heap.size w).alloc lr_ (.cells #[u,iv lost,iv all] 41)).alloc (by simp) (.cells #[zn,iv 0,iv 0] 41);have K:=hd_ (vB _ u ps lost all (hp.below hA lr_));have HA:=hd_ hA;obtain⟨x,c,hu,_,_⟩:=hp.form;obtain⟨n,hn'⟩:=nm_ ps.length;rw[<-hn']at hu;subst hu;obtain⟨W0,hW0⟩:=nm_ ((w.alloc (.cells #[.slice x n c,iv lost,iv all] 41)).alloc (.cells #[zn,iv 0,iv 0] 41))
 have X0:cD W0 w.heap.size 41 (.slice x n c) (iv lost) (iv all):=by rw[hW0];exact (cD.new _ _ _ _ _).alloc _
 have R0:cD W0 (w.heap.size+1) 41 zn (iv 0) (iv 0):=by
  exact zAH
 rw[<-hW0]at K HA;have HW0:=hd_ hW0;have x0:=X0.cell0;have x1:=X0.cell1;have x2:=X0.cell2;have HNO:=hd_ (oO ps lost all t);have HN:=hd_ hno;have EB:=hd_ (rfl:dB ps lost all=dB ps lost all)
 have main:∀ok,dB ps lost all=ok->(ok=true->(t<0\/63<t)\/((0<=t/\t<=63)/\2000<=all))->Calls prog 312 #[.agg #[.slice x n c,iv lost,iv all],iv t] w fun e w'=>e=.returned (.tuple #[.agg #[zn,iv 0,iv 0],.bool false])/\Below w.heap.size w w':=by
  intro ok hok hwhy;rw[hok]at K;have HY:=hd_ hwhy;clear hok hwhy hA hW0 hn' hp hno;cases ok with
  |false=>
   go_enter func312,ntmps312
   go_wp2_with fail
   rw[<-HW0.out]
   go_wp2_with fail
   refine K.out.mono ?_;rintro e w1 ⟨rfl,hb1⟩;exact zAo
  |true=>
   rcases HY.out rfl with ht|⟨ht,ha⟩
   ·have KT:Hid (∀W,Calls prog 66 #[iv t,iv 0,iv 63] W fun e w'=>e=.returned (.bool false)/\W=w'):=fun W=>fZ t 0 63 W ht
    clear ht;go_enter func312,ntmps312
    go_wp2_with fail
    rw[<-HW0.out]
    go_wp2_with fail
    refine K.out.mono ?_;rintro e w1 ⟨rfl,hb1⟩
    go_wp2_with fail
    refine (KT.out _).mono ?_;rintro e w' ⟨rfl,rfl⟩;exact zAo
   ·have KT:Hid (∀W,Calls prog 66 #[iv t,iv 0,iv 63] W fun e w'=>e=.returned (.bool true)/\W=w'):=fun W=>aS t 0 63 W ht.1 ht.2
    clear ht;go_enter func312,ntmps312
    go_wp2_with fail
    rw[<-HW0.out]
    go_wp2_with fail
    refine K.out.mono ?_;rintro e w1 ⟨rfl,hb1⟩
    go_wp2_with fail
    refine (KT.out _).mono ?_;rintro e w' ⟨rfl,rfl⟩;have X1:=X0.later hb1;have y2:=X1.cell2;have R1:=R0.later hb1;have z0:=R1.cell0;have z1:=R1.cell1;have z2:=R1.cell2;have f2:=R1.free;have RZ:=R1.set zn (iv 0) (iv 0);have hr0:=RZ.cell0;have hr1:=RZ.cell1;have hr2:=RZ.cell2;have BZ:=hd_ (gE (b:=w.heap.size+1) (HA.out.trans (hb1.mono HA.out.size)) (Nat.le_succ _) zn (iv 0) (iv 0))
    clear R1 RZ x0 x1 x2 X0 R0 hb1;go_wp2;exact bodyPost_ret (v:=.tuple #[.agg #[zn,iv 0,iv 0],.bool false]) (by simp[results,results312,go_sem,hr0,hr1,hr2]) rfl ⟨rfl,BZ.out⟩
 refine main _ rfl fun hok=>?_
 rcases HNO.out with ⟨h,_⟩|⟨_,h,_⟩|⟨_,h,h',_⟩|⟨_,_,_,h⟩
 ·rw[h]at hok;cases hok
 ·exact .inl h
 ·exact .inr ⟨h,h'⟩
 ·rw[hno]at h;cases h
theorem aC4 (w:World) (u:Value) (ps:List Pr) (lost all t:Int) (hp:Prs w u ps) (hok:dB ps lost all=true) (ht:0<=t/\t<=63) (ha:all<2000):
  Calls prog 312 #[.agg #[u,iv lost,iv all],iv t] w fun e w'=>∃v,e=.returned (.tuple #[.agg #[v,iv (lost+cL (cZ ps (t,1))),iv (all+1)],.bool true])/\aJ w' w.heap.size v (oJ (cZ ps (t,1)))/\Below w.heap.size w w':=by
 have hA:=((Below.refl w.heap.size w).alloc lr_ (.cells #[u,iv lost,iv all] 41)).alloc (by simp) (.cells #[zn,iv 0,iv 0] 41);have I0:=hd_ (hp.below hA lr_);have K:=hd_ (vB _ u ps lost all I0.out);have HA:=hd_ hA;have hP:=(eX _ _ _).1 hok;have hbd:=hP.bd;have hl4:=hP.1.1;have hlo:=hP.1.2.1;have hal:=hP.1.2.2
 have KP:Hid (∀W,Prs W u ps->Calls prog 226 #[u,.agg #[iv t,iv 1]] W fun e w'=>∃v,e=.returned v/\aJ w' W.heap.size v (cZ ps (t,1))/\Below W.heap.size W w'):=fun W hW=>
  aJO W u ps t 1 hW o_ (hbd.mono o_).at o_ o_
 have hbq:=(hbd.put (x:=(t,1)) o_ (by simp)).mono (N:=100000) (by simp);have hlq:=aEG ps (t,1);rw[hok]at K;obtain⟨qs,hqs⟩:=nm_ (cZ ps (t,1));rw[<-hqs]at KP hbq hlq ⊢;have KC:Hid (∀W v,Prs W v qs->Calls prog 227 #[.agg #[v,iv lost,iv (all+1)]] W fun e w'=>∃v,e=.returned (.agg #[v,iv (lost+cL qs),iv (all+1)])/\aJ w' W.heap.size v (oJ qs)/\Below W.heap.size W w'):=fun W v hv=>
  aI8 W v qs lost (all+1) hv o_ hbq.at o_ o_
 obtain⟨x,c,hu,_,_⟩:=hp.form;obtain⟨n,hn'⟩:=nm_ ps.length;rw[<-hn']at hu;subst hu;obtain⟨W0,hW0⟩:=nm_ ((w.alloc (.cells #[.slice x n c,iv lost,iv all] 41)).alloc (.cells #[zn,iv 0,iv 0] 41));have X0:cD W0 w.heap.size 41 (.slice x n c) (iv lost) (iv all):=by rw[hW0];exact (cD.new _ _ _ _ _).alloc _
 have R0:cD W0 (w.heap.size+1) 41 zn (iv 0) (iv 0):=by
  exact zAH
 rw[<-hW0]at K HA I0;have HW0:=hd_ hW0;have x0:=X0.cell0;have x1:=X0.cell1;have x2:=X0.cell2;have KT:Hid (∀W,Calls prog 66 #[iv t,iv 0,iv 63] W fun e w'=>e=.returned (.bool true)/\W=w'):=fun W=>aS t 0 63 W ht.1 ht.2
 obtain⟨ov,hov⟩:=nm_ (cL qs);obtain⟨cs,hcs⟩:=nm_ (oJ qs);rw[<-hov, <-hcs]at KC ⊢;clear hA hW0 hn' hp hP hbd hok hqs hbq hlq hov hcs;go_enter func312,ntmps312
 go_wp2_with fail
 rw[<-HW0.out]
 go_wp2_with fail
 refine K.out.mono ?_;rintro e w1 ⟨rfl,hb1⟩
 go_wp2_with fail
 refine (KT.out _).mono ?_;rintro e w' ⟨rfl,rfl⟩;have X1:=X0.later hb1;have R1:=R0.later hb1;have B1:=hd_ (HA.out.trans (hb1.mono HA.out.size));have I1:=hd_ (I0.out.below hb1 lr_);clear hb1 X0 R0 x0 x1 x2 K HA I0 KT;have x0:=X1.cell0;have x1:=X1.cell1;have x2:=X1.cell2
 have KD:Hid (Calls prog 226 #[.slice x n c,.agg #[iv t,iv 1]] w1.drew fun e w'=>∃v,e=.returned v/\aJ w' w1.drew.heap.size v qs/\Below w1.drew.heap.size w1.drew w'):=KP.out w1.drew I1.out;have ws:IntKind.i64.wrap (all+1)=all+1:=IntWalk.i64_in _ o_
 go_wp2_with fail
 go_region_with (first|(go_at_call 226;refine KD.out.mono ?_;rintro e w2 ⟨v,rfl,ho2,hb2⟩;obtain⟨xv,cv,rfl,_,_⟩:=ho2.form;have X2:=X1.drew.later hb2;have y0:=X2.cell0;have y1:=X2.cell1;have y2:=X2.cell2;have R2:=R1.drew.later hb2;have KE:=hd_ (KC.out w2 _ ho2.rd))|(go_at_call 227;refine KE.out.mono ?_;rintro e w3 ⟨v,rfl,ho3,hb3⟩;obtain⟨xz,cz,rfl,_,_⟩:=ho3.form;have R3:=R2.later hb3;have f2:=R3.free;have z0:=R3.cell0;have z1:=R3.cell1;have z2:=R3.cell2))
 all_goals
  have RZ:=R3.set (.slice xz cs.length cz) (iv (lost+ov)) (iv (all+1));have hr0:=RZ.cell0;have hr1:=RZ.cell1;have hr2:=RZ.cell2;have s1:w.heap.size<=w1.heap.size:=B1.out.size;have s2:w1.heap.size<=w2.heap.size:=by have:=hb2.size;simpa using this
  have OZ:=hd_ (((ho3.set3 (R3.not_row dc_ ho3) (.slice xz cs.length cz) (iv (lost+ov)) (iv (all+1)))).base (B':=w.heap.size) o_);have BZ:=hd_ (gE (b:=w.heap.size+1) ((B1.out.trans (Below.drew (Below.refl _ _))).trans ((hb2.trans (hb3.mono (by simpa using s2))).mono (by simpa using s1))) (Nat.le_succ _) (.slice xz cs.length cz) (iv (lost+ov)) (iv (all+1)))
  clear ho2 hb2 X2 R2 ho3 hb3 R3 RZ y0 y1 y2 f2 z0 z1 z2 s1 s2;go_wp2;exact bodyPost_ret (v:=.tuple #[.agg #[.slice xz cs.length cz,iv (lost+ov),iv (all+1)],.bool true]) (by simp[results,results312,go_sem,hr0,hr1,hr2]) rfl ⟨_,rfl,OZ.out,BZ.out⟩
theorem aEH (w:World) (u:Value) (ps:List Pr) (lost all t:Int) (hp:Prs w u ps):
  Calls prog 312 #[.agg #[u,iv lost,iv all],iv t] w fun e w'=>∃v,e=.returned (.tuple #[.agg #[v,.int .i64 (iL ps lost all t).2.1,.int .i64 (iL ps lost all t).2.2],.bool (iR ps lost all t)])/\aJ w' w.heap.size v (iL ps lost all t).1/\Below w.heap.size w w':=by
 cases h:iR ps lost all t with
 |false=>
  rw[aGJ h];exact (aEz w u ps lost all t hp h).mono fun e w' ⟨he,hb⟩=>⟨_,he,aJ.nil _ _,hb⟩
 |true=>
  rw[aDN h];rcases oO ps lost all t with ⟨_,h'⟩|⟨_,_,h'⟩|⟨_,_,_,h'⟩|⟨hk,ht,ha,_⟩
  ·exact zBu
  ·exact zBu
  ·exact zBu
  ·exact aC4 w u ps lost all t hp hk ht ha
theorem aID (w:World) (x:Option Addr) (c:Nat) (y:Option Addr) (d n:Nat) (ps:List Pr) (lost all:Int) (hl:ps.length=n) (hp:Prs w (.slice x n c) ps) (hq:Prs w (.slice y n d) ps) (hn:n<=100):
  Calls prog 101 #[.agg #[.slice x n c,iv lost,iv all],.agg #[.slice y n d,iv lost,iv all]] w fun e w'=>e=.returned (.bool true)/\Below w.heap.size w w':=by
 have PC:=hd_ hp.cells;have QC:=hd_ hq.cells;have HL:=hd_ hl;obtain⟨W,hW⟩:=nm_ ((w.alloc (.cells #[.slice x n c,iv lost,iv all] 41)).alloc (.cells #[.slice y n d,iv lost,iv all] 41));have B0:Below w.heap.size w W:=by rw[hW];exact ((Below.refl _ _).alloc lr_ _).alloc (by simp) _
 have X:cD W w.heap.size 41 (.slice x n c) (iv lost) (iv all):=by rw[hW];exact (cD.new w _ _ _ _).alloc _
 have Y:cD W (w.heap.size+1) 41 (.slice y n d) (iv lost) (iv all):=by rw[hW];have:=cD.new (w.alloc (.cells #[.slice x n c,iv lost,iv all] 41)) 41 (.slice y n d) (iv lost) (iv all);rwa[World.size_alloc]at this
 have x0:=X.cell0;have x1:=X.cell1;have x2:=X.cell2;have y0:=Y.cell0;have y1:=Y.cell1;have y2:=Y.cell2;have BB:=hd_ B0;have e1:(lost != lost)=false:=by simp
 have e2:(all != all)=false:=by simp
 have e3:((n:Int) != (n:Int))=false:=by simp
 have e4:decide (lost=lost)=true:=by simp
 have e5:decide (all=all)=true:=by simp
 have e6:decide ((n:Int)=(n:Int))=true:=by simp
 clear hp hq hl B0 X Y;go_enter func101,ntmps101
 go_wp2_with fail
 rw[<-hW];clear hW;go_wp2;go_loopw [5] (fun i wr=>∃k:Nat,k<=n/\i=.int .i64 k/\∃m,wr=W.drewN m) (fun i _=>n - (intOf i).toNat)
 case atStart=>exact⟨0,Nat.zero_le _,rfl,0,rfl⟩
 case round=>
  obtain⟨k,hk,rfl,m,rfl⟩:=hrel
  by_cases hlt:k<n
  ·obtain⟨b,o,rfl,hb,h1,h2⟩:=PC.out k (by rw[HL.out];exact hlt)
   obtain⟨b',o',rfl,hb',h3,h4⟩:=QC.out k (by rw[HL.out];exact hlt);rw[<-BB.out.cell (p:=⟨b,o+k * 2,none⟩) hb]at h1;rw[<-BB.out.cell (p:=⟨b,o+k * 2+1,none⟩) hb]at h2;rw[<-BB.out.cell (p:=⟨b',o'+k * 2,none⟩) hb']at h3;rw[<-BB.out.cell (p:=⟨b',o'+k * 2+1,none⟩) hb']at h4;generalize pr ps k=q at h1 h2 h3 h4;obtain⟨t,z⟩:=q;have k0:(0:Int)<=(k:Int):=o_;have k1:(k:Int)<(n:Int):=o_;go_wp2
   go_quiet (fail)
   go_wp2;go_roundw
   case rel=>exact⟨k+1,o_,gn_,_,rfl⟩
   case measure=>simp[intOf];omega
  ·obtain rfl:k=n:=o_
   go_wp2;go_ret;exact⟨by first|rfl|simp,below_drewN BB.out _⟩
theorem aFo (w:World) (u v:Value) (ps:List Pr) (lost all:Int) (hp:Prs w u ps) (hq:Prs w v ps) (hn:ps.length<=100):
  Calls prog 101 #[.agg #[u,iv lost,iv all],.agg #[v,iv lost,iv all]] w fun e w'=>e=.returned (.bool true)/\Below w.heap.size w w':=by
 obtain⟨x,c,rfl,_,_⟩:=hp.form;obtain⟨y,d,rfl,_,_⟩:=hq.form;exact aID w x c y d _ ps lost all rfl hp hq hn
end Go.Proofs.YtcblbdpdbggkbaaGreat.T
