/-
  What the laws of XS need of the texts before it, part 3.
-/
import Derived.BigQuiet
import Derived.Deep.AppendLies
import Derived.Deep.DrawnRows
import Derived.Deep.QuietTactic
import Derived.Deep.RegionHeld3
import Derived.Deep.RegionLaw
import Derived.Deep.RegionLawGrows
import Derived.Deep.RegionWith
import Derived.IntWalk
import Derived.Lib.Hide
import Derived.Lib.QuietBelow
import Derived.LoopIn
import Derived.LoopNIn
import Derived.Maps.AppendAt
import Derived.OneCell
import Derived.OpenShut
import Derived.OwnWalkIn
import Derived.RangeFuncBound
import Derived.RangeFuncBox
import Derived.RangeFuncCalls
import Derived.RangeFuncLeaves
import Derived.RangeFuncNested
import Derived.Shelf.Abstract
import Derived.Shelf.RegionOpen
import Derived.StillTail
import Derived.TacticsInMore
import Derived.Test.YtcblbdpdbggkbaaGreatRows
import Derived.WalkKit
import Derived.WalkLawsBesides
import Derived.WalkSpells
import Derived.Test.YtcblbdpdbggkbaaGreatSXS2
set_option maxRecDepth 100000
set_option maxHeartbeats 16000000
set_option linter.unusedVariables false
set_option linter.unusedSectionVars false
set_option linter.unusedSimpArgs false
namespace Go.Proofs.YtcblbdpdbggkbaaGreat
open _root_.Go.Proofs.Tryz
theorem zg {P:Prop} (h:P:=by
 obtain⟨k,os,hk,rfl,hos,hown,hbl⟩:=hrel;have hol:os.length<=6:=by rw[hos];exact aA3 zs (by rw[<-NA.out];exact la) _
 have bx:=cell_later hbl e3.2.1;have rx:=cell_later hbl e3.2.2.1;have fx:wr.frozen? ⟨w.heap.size+1+1,0,none⟩=false:=dO hbl e3.2.2.2 (World.block_lt_of_cell? _ _ e3.2.2.1);have OS:=hd_ hos;have OW:=hd_ hown;have HB:=hd_ hbl;obtain⟨xp,cp,rfl⟩:=hown.form;have IB:=hd_ (IB3.out.below hbl lr_);have KP:=hd_ (fun m=>aAy wr _ os m hown.rd o_);obtain⟨np,hnp⟩:=nm_ os.length
 rw[<-hnp]at KP OW hol ⊢;have NP:=hd_ hnp;have szr:=hd_ hbl.size;clear hos hown hbl hnp e3
 by_cases hlt:k<nb
 ·have hcy:∃b o,y=some ⟨b,o,none⟩/\wr.cell? ⟨b,o+k,none⟩=some (.int .i64 (ys.getD k 0)):=by
   rcases IB.out with ⟨e,_⟩|⟨b,o,cc,e,_,_,_,hc⟩
   ·have:=(Value.slice.inj e).2.1;omega
   ·exact⟨b,o,(Value.slice.inj e).1,hc k (by rw[<-NB.out];exact hlt)⟩
  obtain⟨b,o,rfl,hcy⟩:=hcy;have ft:=hd_ (aCh zs ys k (by rw[<-NB.out];exact hlt));obtain⟨q,hq⟩:=nm_ (ys.getD k 0);rw[<-hq]at hcy ft;have KQ:=hd_ (KP.out q);have k0:(0:Int)<=(k:Int):=o_;have kn:(k:Int)<(nb:Int):=o_;clear hq
  go_wp2_with fail
  refine KQ.out.mono ?_;rintro e w5 ⟨v5,rfl,ho5,hb5⟩;go_wp2;go_roundw
  case rel=>exact⟨k+1,gT os q,o_,gn_,by rw[ft.out, <-OS.out],ho5.base (by have h1:=szr.out;have h2:=L3.out.2;omega),HB.out.trans (hb5.mono szr.out)⟩
  case measure=>simp[intOf];omega
 ·obtain rfl:k=nb:=o_
  have fin:Hid (os=ys.foldl gT zs):=by show os=_;rw[OS.out,List.take_of_length_le (by rw[<-NB.out];exact Nat.le_refl _)]
  have hs:=aA wr ⟨w.heap.size+1+1,0,none⟩ (.slice xp np cp);have o4:=((show aZ wr w2.heap.size (.slice xp np cp) os from OW.out).kept hs (fun k e=>by simp at e;omega)).base (B':=w.heap.size) o_;have hb4:Below w.heap.size w (wr.setCell ⟨w.heap.size+1+1,0,none⟩ (.slice xp np cp)):=(L3.out.1.trans (HB.out.mono L3.out.1.size)).setCell (by simp;omega) _;have O4:=hd_ o4
  have HB4:=hd_ hb4;clear hs o4 hb4;go_wp2;have hr:=World.cell?_setCell_same wr ⟨w.heap.size+1+1,0,none⟩ (.slice xp np cp) rx;exact bodyPost_ret (v:=.tuple #[.agg #[.slice xp np cp],.bool true]) (by simp[results,results171,go_sem,hr]) rfl ⟨_,rfl,by rw[<-fin.out];exact O4.out,HB4.out⟩):P:=h
theorem zh {P:Prop} (h:P:=by
 have RA3:=hd_ (RA.out W3 hk3)
 have RB3:=hd_ (RB.out W3 hk3);have J3:=hd_ hJ3;clear RA RB hk3 hJ3 hR hy
 gi_wp2_with (first
         |(refine⟨trivial,?_⟩;gi_at_call 288;(with_reducible refine (callsIn_wide.2 RA3.out).mono ?_);rintro e w1 ⟨qa,ea,rfl,oa,rfl⟩;clear RA3)
         |(refine⟨trivial,?_⟩;gi_at_call 288;(with_reducible refine (callsIn_wide.2 RB3.out).mono ?_);rintro e w1 ⟨qb,eb,rfl,ob,rfl⟩;clear RB3))
 go_roundw
 case rel=>exact⟨pre++[M],aW xs M,aW ys' M,k',oa,ob,MA.out,MB.out,HB.out,by have h1:=LE.out;have h2:=HK.out;omega,by have h1:=LE.out;have h2:=HPR.out;simp;omega,rfl,rfl,J3.out⟩
 case measure=>have h1:=LE.out;have h2:=NX.out;have h3:=NY.out;simp[sQ];omega):P:=h
theorem zj {P:Prop} (h:P:=by
 gi_wp2_with (first
        |(refine⟨trivial,?_⟩;gi_at_call 287;(with_reducible refine (callsIn_wide.2 KA.out).mono ?_);rintro e w1 ⟨rfl,rfl⟩;clear KA)
        |(refine⟨trivial,?_⟩;gi_at_call 287;(with_reducible refine (callsIn_wide.2 KB.out).mono ?_);rintro e w1 ⟨rfl,rfl⟩;clear KB))
 refine hR.mono ?_;rintro e W3 (⟨rfl,hJ3,hk3⟩|⟨rfl,hJx3⟩)
 ·exact zh
 ·have JX:=hd_ hJx3
  have PF:Hid (pre++[M]<+:kI zs ys):=⟨_,HB.out⟩
  clear hJx3
  gi_wp2
  refine bodyPost_ret (results_none rfl _ _ _) rfl ?_;exact⟨⟨_,rfl⟩,.inr ⟨pre++[M],PF.out,JX.out⟩⟩):P:=h
theorem zAm {P:Prop} (h:P:=by
 go_wp2;have hr:=World.cell?_setCell_same w1 ⟨w.heap.size+2,0,none⟩ zn cr1;exact bodyPost_ret (v:=.tuple #[.agg #[zn],.bool false]) (by simp[results,results170,go_sem,hr]) rfl ⟨rfl,L1.out.setCell (by simp;omega) _⟩):P:=h
theorem zBk {P:Prop} (h:P:=by
 rcases h with ⟨rfl,rfl⟩|⟨b,o,c,rfl,_⟩
 ·exact⟨_,_,rfl⟩
 ·exact⟨_,_,rfl⟩):P:=h
end Go.Proofs.YtcblbdpdbggkbaaGreat
namespace Go.Proofs.YtcblbdpdbggkbaaGreat
open _root_.Go.Proofs.Tryz
open Go.RowKit Go.Sort
def bH (x y:List Int):List Int:=(List.range 8).map fun k=>x.getD k 0+y.getD k 0
def dP (ra rb:List (List Int)):List (List Int):=[bH (ra.getD 0 []) (rb.getD 0 []),bH (ra.getD 1 []) (rb.getD 1 []),bH (ra.getD 2 []) (rb.getD 2 [])]
def hO (ra rb:List (List Int)):Bool:=okB ra&&okB rb&&decide (dA ra+dA rb<=2000)
theorem jC (ra rb:List (List Int)):hO ra rb=true↔okB ra=true/\okB rb=true/\dA ra+dA rb<=2000:=by simp[hO,and_assoc]
theorem iV (ra rb:List (List Int)) (i:Nat) (hi:i<3):(dP ra rb).getD i []=bH (ra.getD i []) (rb.getD i []):=by
 exact zB1
theorem iN (x y:List Int):(bH x y).length=8:=by simp[bH]
theorem dQ (x y:List Int) (k:Nat) (h:k<8):(bH x y).getD k 0=x.getD k 0+y.getD k 0:=by
 simp only[bH,List.getD_eq_getElem?_getD,List.getElem?_map,List.getElem?_range h,Option.map_some,Option.getD_some]
def rN (ra rb qs:List (List Int)) (k m:Nat):Prop:=qs.length=3/\∀i,i<3->(qs.getD i []).length=8/\∀p,p<8->(qs.getD i []).getD p 0=if i<k\/(i=k/\p<m)then (ra.getD i []).getD p 0+(rb.getD i []).getD p 0 else (ra.getD i []).getD p 0
theorem rN.done {ra rb qs:List (List Int)} (h:rN ra rb qs 3 0):qs=dP ra rb:=
 sL h.1 rfl fun i hi=>by
  have:=fO (d:=0) (a:=qs.getD i []) (b:=(dP ra rb).getD i []) (h.2 i hi).1 (by rw[iV _ _ _ hi];exact iN _ _) (fun p hp=>by
      rw[(h.2 i hi).2 p hp,if_pos (.inl hi),iV _ _ _ hi,dQ _ _ _ hp])
  simpa using this
theorem rN.next {ra rb qs:List (List Int)} {k:Nat} (h:rN ra rb qs k 8):rN ra rb qs (k+1) 0:=
 ⟨h.1,fun i hi=>⟨(h.2 i hi).1,fun p hp=>by
    rw[(h.2 i hi).2 p hp]
    by_cases e:i<k\/(i=k/\p<8)
    · rw[if_pos e,if_pos o_]
    · rw[if_neg e,if_neg o_]⟩⟩
theorem rN.step {ra rb qs:List (List Int)} {k m:Nat} (h:rN ra rb qs k m) (hk:k<3) (hm:m<8):
  rN ra rb (qs.set k ((qs.getD k []).set m ((ra.getD k []).getD m 0+(rb.getD k []).getD m 0))) k (m+1):=by
 refine⟨by simpa using h.1,fun i hi=>?_⟩
 by_cases e:i=k
 ·subst e
  have e1:(qs.set i ((qs.getD i []).set m ((ra.getD i []).getD m 0+(rb.getD i []).getD m 0))).getD i []=(qs.getD i []).set m ((ra.getD i []).getD m 0+(rb.getD i []).getD m 0):=by
   simp[h.1,hi]
  rw[e1];refine⟨by simpa using (h.2 i hi).1,fun p hp=>?_⟩
  by_cases e2:p=m
  ·subst e2
   rw[if_pos (.inr ⟨rfl,o_⟩)];have:=(h.2 i hi).1;rw[List.getD_eq_getElem?_getD,List.getElem?_set_self (by rw[this];exact hp)]
   rfl
  ·have e3:((qs.getD i []).set m ((ra.getD i []).getD m 0+(rb.getD i []).getD m 0)).getD p 0=(qs.getD i []).getD p 0:=by
    simp[Ne.symm e2]
   rw[e3,(h.2 i hi).2 p hp]
   by_cases e4:i<i\/(i=i/\p<m)
   ·rw[if_pos e4,if_pos o_]
   ·rw[if_neg e4,if_neg o_]
 ·have e1:(qs.set k ((qs.getD k []).set m ((ra.getD k []).getD m 0+(rb.getD k []).getD m 0))).getD i []=qs.getD i []:=by simp[Ne.symm e]
  rw[e1];refine⟨(h.2 i hi).1,fun p hp=>?_⟩;rw[(h.2 i hi).2 p hp]
  by_cases e4:i<k\/(i=k/\p<m)
  ·rw[if_pos e4,if_pos o_]
  ·rw[if_neg e4,if_neg o_]
theorem mU (w:World) (u:Value) (rs:List (List Int)) (h:Rws w u rs) (d:Nat) (os:Array Obj):
  Calls prog 219 #[.agg #[u]] (grow (redrawn w d) os) fun e w''=>e=.returned (.bool (okB rs))/\∃p:Regrown,w''=grow (redrawn w p.d) p.os:=
 Calls.regrown_of (rM u rs _ (h.below (below_regrown w d os) lr_))
theorem lN (w:World) (b o cap:Nat) (zs:List Int) (S:Int) (hS:zs.sum=S) (hn:zs.length=8) (hz:∀k,k<8->0<=zs.getD k 0/\zs.getD k 0<=2000)
  (hc:∀i,i<8->w.cell? ⟨b,o+i,none⟩=some (.int .i64 (zs.getD i 0))) (d:Nat) (os:Array Obj):
  Calls prog 224 #[.slice (some ⟨b,o,none⟩) 8 cap] (grow (redrawn w d) os) fun e w''=>e=.returned (iv S)/\∃p:Regrown,w''=grow (redrawn w p.d) p.os:=by
 rw[<-hS];exact Calls.regrown_of ((pK b o cap 8 zs _ hn o_ hz (fun i hi=>cell_regrown (hc i hi) d os)).mono fun _ _ ⟨he,hw⟩=>⟨he,by subst hw;exact Below.refl _ _⟩)
theorem nG {rs:List (List Int)} (h:okB rs=true):(rs.getD 0 []).sum=dA rs:=(if_pos h).symm
theorem aID (w:World) (u v:Value) (ra rb:List (List Int)) (ha:Rws w u ra) (hb:Rws w v rb) (hno:hO ra rb=false):
  Calls prog 170 #[.agg #[u],.agg #[v]] w fun e w'=>e=.returned (.tuple #[.agg #[zn],.bool false])/\Below w.heap.size w w':=by
 obtain⟨w0,hw0⟩:=nm_ (((w.alloc (.cells #[u] 36)).alloc (.cells #[v] 36)).alloc (.cells #[zn] 36));have hA:Below w.heap.size w w0:=by rw[hw0];exact (((Below.refl w.heap.size w).alloc lr_ _).alloc (by simp) _).alloc (by simp;omega) _
 have tb:=gZ w (.cells #[u] 36) (.cells #[v] 36) (.cells #[zn] 36);rw[<-hw0]at tb;obtain⟨ca,_,la⟩:=cQ tb.1;obtain⟨cb,_,lb⟩:=cQ tb.2.1;obtain⟨cr,fr,lr⟩:=cQ tb.2.2;have Ka:=mU w0 u ra (ha.below hA lr_);have Kb:=mU w0 v rb (hb.below hA lr_);have HA:=hd_ hA;clear hA tb;cases hoka:okB ra with
 |false=>
  rw[hoka]at Ka;have KA:=hd_ Ka;obtain⟨⟨x,c,hx⟩,_⟩:=ha.cases;obtain⟨⟨y,d,hy⟩,_⟩:=hb.cases;obtain⟨n,hn⟩:=nm_ ra.length;obtain⟨m,hm⟩:=nm_ rb.length;rw[<-hn]at hx;rw[<-hm]at hy;subst hx hy;have ra':=cell_regrown ca;clear ha hb hn hm hoka hno Ka Kb;go_enter func170,ntmps170;go_wp2;rw[<-hw0];clear hw0;refine cY kr_ kr_ ?_
  repeat (refine cK (fun K hK=>?_);go_simp;first|(refine hK _ ?_;clear hK K)|(apply Exists.intro;refine⟨fun _=>?_,hK _ ?_⟩;(with_reducible exact KA.out _ _);clear hK K))
  refine dE ?_;intro _ hw';obtain⟨⟨dq,oq⟩,hw''⟩:=hw';subst hw'';have hb_w1:=below_regrown w0 dq oq;obtain⟨w1,hq_w1⟩:=nm_ (grow (redrawn w0 dq) oq);rw[<-hq_w1]at hb_w1 ⊢;clear hq_w1;have cr1:=cell_later hb_w1 cr;have fr1:w1.frozen? ⟨w.heap.size+2,0,none⟩=false:=by rw[hb_w1.frozen (p:=⟨w.heap.size+2,0,none⟩) lr];exact fr
  have L1:=hd_ (HA.out.trans (hb_w1.mono HA.out.size));clear hb_w1 ra';exact zAm
 |true=>
  rw[hoka]at Ka;have KA:=hd_ Ka;obtain⟨ba,oa,ka,rfl,_,hba,hrowa⟩:=lO ha hoka;cases hokb:okB rb with
  |false=>
   rw[hokb]at Kb;have KB:=hd_ Kb;obtain⟨⟨y,d,hy⟩,_⟩:=hb.cases;obtain⟨m,hm⟩:=nm_ rb.length;rw[<-hm]at hy;subst hy;have ra':=cell_regrown ca;have rb':=cell_regrown cb;clear ha hb hm hoka hokb hno Ka Kb hrowa;go_enter func170,ntmps170;go_wp2;rw[<-hw0];clear hw0;refine cY kr_ kr_ ?_
   repeat (refine cK (fun K hK=>?_);go_simp;first|(refine hK _ ?_;clear hK K)|(apply Exists.intro;refine⟨fun _=>?_,hK _ ?_⟩;(first|(with_reducible exact KA.out _ _)|(with_reducible exact KB.out _ _));clear hK K))
   refine dE ?_;intro _ hw';obtain⟨⟨dq,oq⟩,hw''⟩:=hw';subst hw'';have hb_w1:=below_regrown w0 dq oq;obtain⟨w1,hq_w1⟩:=nm_ (grow (redrawn w0 dq) oq);rw[<-hq_w1]at hb_w1 ⊢;clear hq_w1;have cr1:=cell_later hb_w1 cr;have fr1:w1.frozen? ⟨w.heap.size+2,0,none⟩=false:=by rw[hb_w1.frozen (p:=⟨w.heap.size+2,0,none⟩) lr];exact fr
   have L1:=hd_ (HA.out.trans (hb_w1.mono HA.out.size));clear hb_w1 ra' rb';exact zAm
  |true=>
   rw[hokb]at Kb;have KB:=hd_ Kb;obtain⟨bb,ob,kb,rfl,_,hbb,hrowb⟩:=lO hb hokb;obtain⟨b0,o0,c0,e0,l0,r0⟩:=hrowa 0 o_;obtain⟨b1,o1,c1,e1,l1,r1⟩:=hrowb 0 o_;obtain⟨_,hga⟩:=(dT ra).1 hoka;obtain⟨_,hgb⟩:=(dT rb).1 hokb;obtain⟨ga8,gar,_,_⟩:=hga 0 o_;obtain⟨gb8,gbr,_,_⟩:=hgb 0 o_;have ava:=iX hoka;have avb:=iX hokb
   have SA:=lN w0 b0 o0 c0 _ _ (nG hoka) ga8 gar (fun i hi=>by rw[HA.out.cell (p:=⟨b0,o0+i,none⟩) l0];exact r0 i hi);have SB:=lN w0 b1 o1 c1 _ _ (nG hokb) gb8 gbr (fun i hi=>by rw[HA.out.cell (p:=⟨b1,o1+i,none⟩) l1];exact r1 i hi);have hsum:¬dA ra+dA rb<=2000:=fun hh=>by
    have:=(jC ra rb).2 ⟨hoka,hokb,hh⟩;rw[this]at hno;cases hno
   have q0:w0.cell? ⟨ba,oa,none⟩=some (.slice (some ⟨b0,o0,none⟩) 8 c0):=by rw[HA.out.cell (p:=⟨ba,oa,none⟩) hba];exact e0
   have q1:w0.cell? ⟨bb,ob,none⟩=some (.slice (some ⟨b1,o1,none⟩) 8 c1):=by rw[HA.out.cell (p:=⟨bb,ob,none⟩) hbb];exact e1
   generalize dA ra=Sa at *;generalize dA rb=Sb at *;have hgt:2000<Sa+Sb:=o_;have KSA:=hd_ SA;have KSB:=hd_ SB;have ra':=cell_regrown ca;have rb':=cell_regrown cb;have rq0:=cell_regrown q0;have rq1:=cell_regrown q1;have wr1:IntKind.i64.wrap (Sa+Sb)=Sa+Sb:=IntWalk.i64_in _ o_;clear ha hb hoka hokb hno Ka Kb hrowa hrowb e0 e1 r0 r1 hga hgb ga8 gar gb8 gbr SA SB q0 q1 hsum
   go_enter func170,ntmps170;go_wp2;rw[<-hw0];clear hw0;refine cY kr_ kr_ ?_
   repeat (refine cK (fun K hK=>?_);go_simp;first|(refine hK _ ?_;clear hK K)|(apply Exists.intro;refine⟨fun _=>?_,hK _ ?_⟩;(first|(with_reducible exact KA.out _ _)|(with_reducible exact KB.out _ _)|(with_reducible exact KSA.out _ _)|(with_reducible exact KSB.out _ _));clear hK K))
   refine dE ?_;intro _ hw';obtain⟨⟨dq,oq⟩,hw''⟩:=hw';subst hw'';have hb_w1:=below_regrown w0 dq oq;obtain⟨w1,hq_w1⟩:=nm_ (grow (redrawn w0 dq) oq);rw[<-hq_w1]at hb_w1 ⊢;clear hq_w1;have cr1:=cell_later hb_w1 cr;have fr1:w1.frozen? ⟨w.heap.size+2,0,none⟩=false:=by rw[hb_w1.frozen (p:=⟨w.heap.size+2,0,none⟩) lr];exact fr
   have L1:=hd_ (HA.out.trans (hb_w1.mono HA.out.size));clear hb_w1 ra' rb' rq0 rq1 wr1;exact zAm
theorem aGD (w:World) (u v:Value) (ra rb:List (List Int)) (ha:Rws w u ra) (hb:Rws w v rb) (hyes:hO ra rb=true):
  Calls prog 170 #[.agg #[u],.agg #[v]] w fun e w'=>∃x c G C,e=.returned (.tuple #[.agg #[.slice x 3 c],.bool true])/\dJ w' w.heap.size (.slice x 3 c) (dP ra rb) G C/\Below w.heap.size w w':=by
 obtain⟨hoka,hokb,hle⟩:=(jC ra rb).1 hyes;obtain⟨w0,hw0⟩:=nm_ (((w.alloc (.cells #[u] 36)).alloc (.cells #[v] 36)).alloc (.cells #[zn] 36));have hA:Below w.heap.size w w0:=by rw[hw0];exact (((Below.refl w.heap.size w).alloc lr_ _).alloc (by simp) _).alloc (by simp;omega) _
 have tb:=gZ w (.cells #[u] 36) (.cells #[v] 36) (.cells #[zn] 36);rw[<-hw0]at tb;obtain⟨ca,_,la⟩:=cQ tb.1;obtain⟨cb,_,lb⟩:=cQ tb.2.1;obtain⟨cr,fr,lr⟩:=cQ tb.2.2;have Ka:=mU w0 u ra (ha.below hA lr_);have Kb:=mU w0 v rb (hb.below hA lr_);have HA:=hd_ hA;clear hA tb;rw[hoka]at Ka;rw[hokb]at Kb;have KA:=hd_ Ka;have KB:=hd_ Kb;have HRA:=hd_ ha
 obtain⟨ba,oa,ka,rfl,_,hba,hrowa⟩:=lO ha hoka;obtain⟨bb,ob,kb,rfl,_,hbb,hrowb⟩:=lO hb hokb;obtain⟨b0,o0,c0,e0,l0,r0⟩:=hrowa 0 o_;obtain⟨b1,o1,c1,e1,l1,r1⟩:=hrowb 0 o_;obtain⟨ha3,hga⟩:=(dT ra).1 hoka;obtain⟨_,hgb⟩:=(dT rb).1 hokb;obtain⟨ga8,gar,_,_⟩:=hga 0 o_;obtain⟨gb8,gbr,_,_⟩:=hgb 0 o_;have ava:=iX hoka;have avb:=iX hokb
 have SA:=lN w0 b0 o0 c0 _ _ (nG hoka) ga8 gar (fun i hi=>by rw[HA.out.cell (p:=⟨b0,o0+i,none⟩) l0];exact r0 i hi);have SB:=lN w0 b1 o1 c1 _ _ (nG hokb) gb8 gbr (fun i hi=>by rw[HA.out.cell (p:=⟨b1,o1+i,none⟩) l1];exact r1 i hi);have q0:w0.cell? ⟨ba,oa,none⟩=some (.slice (some ⟨b0,o0,none⟩) 8 c0):=by rw[HA.out.cell (p:=⟨ba,oa,none⟩) hba];exact e0
 have q1:w0.cell? ⟨bb,ob,none⟩=some (.slice (some ⟨b1,o1,none⟩) 8 c1):=by rw[HA.out.cell (p:=⟨bb,ob,none⟩) hbb];exact e1
 have HGA:=hd_ hga;have HGB:=hd_ hgb;have HA3:=hd_ ha3;have HOKA:=hd_ hoka;have HROWB:=hd_ hrowb;generalize dA ra=Sa at *;generalize dA rb=Sb at *;have hgt:¬ 2000<Sa+Sb:=o_;have KSA:=hd_ SA;have KSB:=hd_ SB;have ra':=cell_regrown ca;have rb':=cell_regrown cb;have rq0:=cell_regrown q0;have rq1:=cell_regrown q1;have wr1:IntKind.i64.wrap (Sa+Sb)=Sa+Sb:=IntWalk.i64_in _ o_
 clear ha hb hoka hokb Ka Kb hrowa hrowb e0 e1 r0 r1 hga hgb ga8 gar gb8 gbr SA SB q0 q1 hyes ha3 hle ava avb;go_enter func170,ntmps170;go_wp2;rw[<-hw0];clear hw0;refine cY kr_ kr_ ?_
 repeat (refine cK (fun K hK=>?_);go_simp;first|(refine hK _ ?_;clear hK K)|(apply Exists.intro;refine⟨fun _=>?_,hK _ ?_⟩;(first|(with_reducible exact KA.out _ _)|(with_reducible exact KB.out _ _)|(with_reducible exact KSA.out _ _)|(with_reducible exact KSB.out _ _));clear hK K))
 refine dE ?_;intro _ hw';obtain⟨⟨dq,oq⟩,hw''⟩:=hw';subst hw'';have hb_w1:=below_regrown w0 dq oq;obtain⟨w1,hq_w1⟩:=nm_ (grow (redrawn w0 dq) oq);rw[<-hq_w1]at hb_w1 ⊢;clear hq_w1;have ca1:=cell_later hb_w1 ca;have cb1:=cell_later hb_w1 cb;have cr1:=cell_later hb_w1 cr;have fr1:w1.frozen? ⟨w.heap.size+2,0,none⟩=false:=by rw[hb_w1.frozen (p:=⟨w.heap.size+2,0,none⟩) lr];exact fr
 have L1:=hd_ (HA.out.trans (hb_w1.mono HA.out.size));have KCopy:=hd_ (aHg w1 _ ra (HRA.out.below L1.out lr_) HOKA.out);have sz1:=hb_w1.size;clear hb_w1 ra' rb' rq0 rq1 wr1 ca cb cr fr
 go_wp2_with fail
 refine KCopy.out.mono ?_;rintro e w2 ⟨x,c,G,C,rfl,ho,hb2⟩;obtain⟨g,c',hu,hg1,hg2⟩:=World.ownsRow.form ho.hdr (by rw[HA3.out];omega);rw[HA3.out]at hu;obtain⟨rfl,rfl⟩:x=some ⟨g,0,none⟩/\c=c':=by simpa using hu
 clear hu;have cb2:=cell_later hb2 cb1;have cr2:=cell_later hb2 cr1;have fr2:w2.frozen? ⟨w.heap.size+2,0,none⟩=false:=by rw[hb2.frozen (p:=⟨w.heap.size+2,0,none⟩) (by simp;omega)];exact fr1
 have sz2:=hb2.size;have L2:=hd_ (L1.out.trans (hb2.mono L1.out.size));have HO2:=hd_ ho;clear ho hb2 ca1 cb1 cr1 fr1 hgt;go_wp2
 -- the rows
 go_loopw [7] (fun i wr=>∃(k:Nat) (qs:List (List Int)),k<=3/\i=.int .i64 k/\rN ra rb qs k 0/\
      dJ wr w1.heap.size (.slice (some ⟨g,0,none⟩) 3 c) qs G C/\wr.cell? ⟨w2.heap.size,0,none⟩=some (.slice (some ⟨g,0,none⟩) 3 c)/\
      wr.cell? ⟨w.heap.size+1,0,none⟩=some (.slice (some ⟨bb,ob,none⟩) 3 kb)/\
      wr.cell? ⟨w.heap.size+2,0,none⟩=some (.slice none 0 0)/\wr.frozen? ⟨w.heap.size+2,0,none⟩=false/\Below w.heap.size w wr/\w2.heap.size<wr.heap.size) (fun i _=>3 - (intOf i).toNat)
 case atStart=>
  have l1':w.heap.size+2<w2.heap.size:=o_;have l2':w.heap.size+1<w2.heap.size:=o_;exact⟨0,ra,Nat.zero_le _,rfl,⟨HA3.out,fun i hi=>⟨(HGA.out i hi).1,fun p hp=>by rw[if_neg o_]⟩⟩,HO2.out.below ((Below.refl _ _).alloc lr_ _) lr_,by simp,
      by rw[World.cell?_alloc_past _ _ _ l2'];exact cb2,by rw[World.cell?_alloc_past _ _ _ l1'];exact cr2,
      by rw[World.frozen?_alloc_past _ _ _ l1'];exact fr2,L2.out.alloc L2.out.size _,by simp⟩
 case round=>
  obtain⟨k,qs,hk,rfl,hmix,hown,hbox,cB,cr,fr,hbl,hlt2⟩:=hrel;have HM:=hd_ hmix;have HO:=hd_ hown;have HB:=hd_ hbl;clear hmix hown hbl
  by_cases hlt:k<3
  ·have hltB:decide ((k:Int)<3)=true:=by simp;omega
   obtain⟨b2,o2,c2,e2,l2,r2⟩:=HROWB.out k hlt;have R2:=hd_ r2;have E2:=hd_ e2;clear r2 e2;go_wp2
   -- the places of row k
   go_loopw [8] (fun j wi=>∃(m:Nat) (qs:List (List Int)),m<=8/\j=.int .i64 m/\rN ra rb qs k m/\
          dJ wi w1.heap.size (.slice (some ⟨g,0,none⟩) 3 c) qs G C/\wi.cell? ⟨w2.heap.size,0,none⟩=some (.slice (some ⟨g,0,none⟩) 3 c)/\
          wi.cell? ⟨w.heap.size+1,0,none⟩=some (.slice (some ⟨bb,ob,none⟩) 3 kb)/\
          wi.cell? ⟨w.heap.size+2,0,none⟩=some (.slice none 0 0)/\wi.frozen? ⟨w.heap.size+2,0,none⟩=false/\Below w.heap.size w wi/\w2.heap.size<wi.heap.size) (fun j _=>8 - (intOf j).toNat)
   case atStart=>exact⟨0,qs,Nat.zero_le _,rfl,HM.out,HO.out,hbox,cB,cr,fr,HB.out,hlt2⟩
   case round=>
    clear hbox cB cr fr hlt2;obtain⟨m,ps,hm,rfl,hmix,hown,hbox,cB,cr,fr,hbl,hlt2⟩:=hrel;have HM':=hd_ hmix;have HO':=hd_ hown;have HB':=hd_ hbl;clear hmix hown hbl
    by_cases hmt:m<8
    ·have hc1:=HO'.out.hdrCell HM'.out.1 k hlt
     rw[(HM'.out.2 k hlt).1]at hc1;have hc2:=HO'.out.rowCell k m (by rw[HM'.out.1];exact hlt) (by rw[(HM'.out.2 k hlt).1];exact hmt);rw[(HM'.out.2 k hlt).2 m hmt,if_neg o_]at hc2;have he2:=E2.out;rw[<-HB'.out.cell (p:=⟨bb,ob+k,none⟩) hbb]at he2;have hy:=R2.out m hmt;rw[<-HB'.out.cell (p:=⟨b2,o2+m,none⟩) l2]at hy;obtain⟨a0,a1⟩:=(HGA.out k hlt).2.1 m hmt;obtain⟨y0,y1⟩:=(HGB.out k hlt).2.1 m hmt
     have hst:∀w4:World,Below wr.heap.size wr w4->∃qs',rN ra rb qs' k (m+1)/\
       dJ (w4.setCell ⟨G k,m,none⟩ (iv ((ra.getD k []).getD m 0+(rb.getD k []).getD m 0))) w1.heap.size (.slice (some ⟨g,0,none⟩) 3 c) qs' G C:=fun w4 hw4=>
      ⟨_,HM'.out.step hlt hmt,((HO'.out.below hw4 lr_).store k m _ (by rw[HM'.out.1];exact hlt) (by rw[(HM'.out.2 k hlt).1];exact hmt)).1⟩
     have HST:=hd_ hst;have HGk:Hid (w1.heap.size<=G k/\G k<w2.heap.size):=⟨((HO'.out.row k (by rw[HM'.out.1];exact hlt)).lt (G k) rfl).1,((HO2.out.row k (by rw[HA3.out];exact hlt)).lt (G k) rfl).2⟩
     obtain⟨a,hA⟩:=nm_ ((ra.getD k []).getD m 0);obtain⟨y,hY⟩:=nm_ ((rb.getD k []).getD m 0);rw[<-hA]at hc2 HST a0 a1;rw[<-hY]at hy HST y0 y1;obtain⟨hc2,hf2⟩:=hc2;have lgk:G k<wr.heap.size:=World.block_lt_of_cell? _ _ hc2;have rb1:=cell_regrown hbox;have rb2:=cell_regrown hc1;have rb3:=cell_regrown hc2;have rb4:=cell_regrown cB;have rb5:=cell_regrown he2;have rb6:=cell_regrown hy
     have k0:(0:Int)<=(k:Int):=o_;have k3:(k:Int)<3:=o_;have m0:(0:Int)<=(m:Int):=o_;have m8:(m:Int)<8:=o_;have wr1:IntKind.i64.wrap (a+y)=a+y:=IntWalk.i64_in _ o_;clear hst hA hY;go_wp2
     refine iP (C:=fun w'=>∃p:Regrown,w'=grow (redrawn wr p.d) p.os) 24 _ rfl rfl rfl kr_ kr_ kr_ kr_ kr_ ⟨⟨wr.drawn+1,#[]⟩,by rw[grow_empty];rfl⟩ ?_;simp only[List.take_succ_cons,List.take_zero]
     repeat (refine cK (fun K hK=>?_);go_simp;first|(refine hK _ ?_;clear hK K)|(apply Exists.intro;refine⟨fun _=>?_,hK _ ?_⟩;(fail);clear hK K))
     refine dE ?_;intro _ hw';obtain⟨⟨dq,oq⟩,hw''⟩:=hw';subst hw'';have hb_w4:=below_regrown wr dq oq;obtain⟨w4,hq_w4⟩:=nm_ (grow (redrawn wr dq) oq);rw[<-hq_w4]at hb_w4 ⊢;clear hq_w4;have d1:=cell_later hb_w4 hc2;have d2:w4.frozen? ⟨G k,m,none⟩=false:=by rw[hb_w4.frozen (p:=⟨G k,m,none⟩) lgk];exact hf2
     have HB4:=hd_ hb_w4;clear hb_w4 rb1 rb2 rb3 rb4 rb5 rb6 wr1 hc1 hc2 he2 hy;go_wp2;go_roundw
     case rel=>
      obtain⟨qs',q1,q2⟩:=HST.out w4 HB4.out;have lw2:w2.heap.size<w4.heap.size:=by have:=HB4.out.size;omega
      have e2:G k≠w2.heap.size:=by have:=HGk.out.2;omega
      have e1:G k≠w.heap.size+2:=by have:=HGk.out.1;omega
      have e3:G k≠w.heap.size+1:=by have:=HGk.out.1;omega
      refine⟨m+1,qs',o_,gn_,q1,q2,?_,?_,?_,?_,?_,by simpa using lw2⟩
      ·exact zBN
      ·exact (World.cell?_setCell_other (h:=fun h=>by injection h with h;exact e3 h) ..).trans (cell_later HB4.out cB)
      ·exact zBQ
      ·rw[World.frozen?_setCell,HB4.out.frozen (p:=⟨w.heap.size+2,0,none⟩) (by simp;omega)];exact fr
      ·exact (HB'.out.trans (HB4.out.mono HB'.out.size)).setCell (by have:=HGk.out.1;simp;omega) _
     case measure=>simp[intOf];omega
    ·obtain rfl:m=8:=o_
     go_wp2;go_roundw
     case rel=>exact⟨k+1,ps,o_,gn_,HM'.out.next,HO'.out,hbox,cB,cr,fr,HB'.out,hlt2⟩
     case measure=>simp[intOf];omega
  ·obtain rfl:k=3:=o_
   have HE:=hd_ HM.out.done;go_wp2;have hr:=World.cell?_setCell_same wr ⟨w.heap.size+2,0,none⟩ (.slice (some ⟨g,0,none⟩) 3 c) cr;have hw:=HO.out.grown (aA wr ⟨w.heap.size+2,0,none⟩ (.slice (some ⟨g,0,none⟩) 3 c)) (fun k e=>by simp at e;omega);rw[HE.out]at hw
   exact bodyPost_ret (v:=.tuple #[.agg #[.slice (some ⟨g,0,none⟩) 3 c],.bool true]) (by simp[results,results170,go_sem,hr]) rfl
    ⟨_,_,G,C,rfl,hw.base o_,HB.out.setCell (by simp;omega) _⟩
theorem aLE (a b:Int) (w:World) (h: -1000000<=a/\a<=1000000) (h': -1000000<=b/\b<=1000000):
  Calls prog 285 #[iv a,iv b] w fun e w'=>e=.returned (iv (a+b))/\w=w':=by
 obtain⟨h1,h2⟩:=h;obtain⟨h3,h4⟩:=h';go_enter func285,ntmps285;go_wp2;go_ret;exact⟨rfl,rfl⟩
theorem aCP (w:World) (F:Value) (b o c b' o' c':Nat) (x y:List Int) (hF:F=.func (.func 285) #[] #[]) (hb:b<w.heap.size) (hb':b'<w.heap.size)
  (hx:∀k,k<8->(0<=x.getD k 0/\x.getD k 0<=2000)/\w.cell? ⟨b,o+k,none⟩=some (.int .i64 (x.getD k 0)))
  (hy:∀k,k<8->(0<=y.getD k 0/\y.getD k 0<=2000)/\w.cell? ⟨b',o'+k,none⟩=some (.int .i64 (y.getD k 0))):
  Calls prog 284 #[.slice (some ⟨b,o,none⟩) 8 c,.slice (some ⟨b',o',none⟩) 8 c',F] w fun e w'=>
   e=.returned (.slice (some ⟨w.heap.size,0,none⟩) 8 8)/\w'.ownsRow w.heap.size 3 1 (.slice (some ⟨w.heap.size,0,none⟩) 8 8) 8 (bG (bH x y))/\Below w.heap.size w w':=by
 have m8:=aJE;have HX:=hd_ hx;have HY:=hd_ hy;subst hF;clear hx hy;go_enter func284,ntmps284;go_wp2;go_loopw [14] (fun i wr=>∃(m:Nat) (zs:List Int),m<=8/\i=.int .i64 m/\zs.length=8/\(∀p,p<8->zs.getD p 0=if p<m then x.getD p 0+y.getD p 0 else 0)/\
      wr.ownsRow w.heap.size 3 1 (.slice (some ⟨w.heap.size,0,none⟩) 8 8) 8 (bG zs)/\Below w.heap.size w wr/\w.heap.size<wr.heap.size) (fun i _=>8 - (intOf i).toNat)
 case atStart=>
  have h0:=rJ w w.heap.size gR lr_ (by simp[gR,maxLen]);refine⟨0,gR,Nat.zero_le _,rfl,rfl,fun p hp=>?_,h0,(Below.refl _ _).alloc lr_ _,by simp⟩;rcases (by omega:p=0\/p=1\/p=2\/p=3\/p=4\/p=5\/p=6\/p=7)with rfl|rfl|rfl|rfl|rfl|rfl|rfl|rfl<;>rfl
 case round=>
  obtain⟨m,zs,hm,rfl,hl,hz,hown,hbl,hlt⟩:=hrel;have HL:=hd_ hl;have HZ:=hd_ hz;have HO:=hd_ hown;have HB:=hd_ hbl;clear hl hz hown hbl
  by_cases hmt:m<8
  ·obtain⟨⟨x0,x1⟩,xc⟩:=HX.out m hmt
   obtain⟨⟨y0,y1⟩,yc⟩:=HY.out m hmt;rw[<-HB.out.cell (p:=⟨b,o+m,none⟩) hb]at xc;rw[<-HB.out.cell (p:=⟨b',o'+m,none⟩) hb']at yc;obtain⟨v,hc⟩:∃v,wr.cell? ⟨w.heap.size,m,none⟩=some v:=by
    rw[HO.out.cellAt m o_];exact⟨_,iM _ _ (by rw[HL.out];exact hmt)⟩
   have hf:=HO.out.frozenAt m;obtain⟨a,hA⟩:=nm_ (x.getD m 0);obtain⟨d,hD⟩:=nm_ (y.getD m 0);rw[<-hA]at xc x0 x1;rw[<-hD]at yc y0 y1;have KP:Hid (∀W,Calls prog 285 #[iv a,iv d] W fun e w'=>e=.returned (iv (a+d))/\Below W.heap.size W w'):=fun W=>
    (aLE a d W o_ o_).mono fun _ _ ⟨he,hw⟩=>⟨he,by subst hw;exact Below.refl _ _⟩
   have hst:∀w4:World,Below wr.heap.size wr w4->∃zs',zs'.length=8/\(∀p,p<8->zs'.getD p 0=if p<m+1 then x.getD p 0+y.getD p 0 else 0)/\
     (w4.setCell ⟨w.heap.size,m,none⟩ (iv (a+d))).ownsRow w.heap.size 3 1 (.slice (some ⟨w.heap.size,0,none⟩) 8 8) 8 (bG zs'):=fun w4 hw4=>by
    have h1:=HO.out.kept (cU (row:=none) hw4) (.inr (by simp[Value.ownBlock]));have h2:=(h1.stored m (iv (a+d))).1;refine⟨zs.set m (a+d),by simpa using HL.out,fun p hp=>?_,by simpa[bG,List.map_set]using h2⟩
    by_cases e:p=m
    ·subst e
     rw[if_pos o_,hA,hD,List.getD_eq_getElem?_getD,List.getElem?_set_self (by rw[HL.out];exact hp)]
     rfl
    ·have e1:(zs.set m (a+d)).getD p 0=zs.getD p 0:=by simp[Ne.symm e]
     rw[e1,HZ.out p hp]
     by_cases e2:p<m
     ·rw[if_pos e2,if_pos o_]
     ·rw[if_neg e2,if_neg o_]
   have HST:=hd_ hst;have rb1:=cell_regrown xc;have rb2:=cell_regrown yc;have m0:(0:Int)<=(m:Int):=o_;have m8':(m:Int)<8:=o_;clear hst hA hD;go_wp2;refine iP (C:=fun w'=>∃p:Regrown,w'=grow (redrawn wr p.d) p.os) 13 _ rfl rfl rfl kr_ kr_ kr_ kr_ kr_ ⟨⟨wr.drawn+1,#[]⟩,by rw[grow_empty];rfl⟩ ?_
   simp only[List.take_succ_cons,List.take_zero]
   repeat (refine cK (fun K hK=>?_);go_simp;first|(refine hK _ ?_;clear hK K)|(apply Exists.intro;refine⟨fun _=>?_,hK _ ?_⟩;(with_reducible exact Calls.regrown_of (KP.out _));clear hK K))
   refine dE ?_;intro _ hw';obtain⟨⟨dq,oq⟩,hw''⟩:=hw';subst hw'';have hb_w4:=below_regrown wr dq oq;obtain⟨w4,hq_w4⟩:=nm_ (grow (redrawn wr dq) oq);rw[<-hq_w4]at hb_w4 ⊢;clear hq_w4;have d1:=cell_later hb_w4 hc;have d2:w4.frozen? ⟨w.heap.size,m,none⟩=false:=by rw[hb_w4.frozen (p:=⟨w.heap.size,m,none⟩) hlt];exact hf
   have HB4:=hd_ hb_w4;clear hb_w4 rb1 rb2 hc xc yc;go_wp2;go_roundw
   case rel=>
    obtain⟨zs',q1,q2,q3⟩:=HST.out w4 HB4.out;exact⟨m+1,zs',o_,gn_,q1,q2,q3,(HB.out.trans (HB4.out.mono HB.out.size)).setCell lr_ _,by have:=HB4.out.size;simp;omega⟩
   case measure=>simp[intOf];omega
  ·obtain rfl:m=8:=o_
   have fin:Hid (zs=bH x y):=by
    have:=fO (d:=0) HL.out (iN x y) (fun p hp=>by rw[HZ.out p hp,if_pos hp,dQ _ _ _ hp]);exact (of_decide_eq_true this:zs=bH x y)
   go_wp2;go_ret;have ho:=HO.out;rw[fin.out]at ho;exact⟨rfl,ho,HB.out⟩
theorem aBC (w:World) (b o c b' o' c':Nat) (x y:List Int) (hb:b<w.heap.size) (hb':b'<w.heap.size)
  (hx:∀k,k<8->(0<=x.getD k 0/\x.getD k 0<=2000)/\w.cell? ⟨b,o+k,none⟩=some (.int .i64 (x.getD k 0)))
  (hy:∀k,k<8->(0<=y.getD k 0/\y.getD k 0<=2000)/\w.cell? ⟨b',o'+k,none⟩=some (.int .i64 (y.getD k 0))):
  Calls prog 248 #[.slice (some ⟨b,o,none⟩) 8 c,.slice (some ⟨b',o',none⟩) 8 c'] w fun e w'=>
   e=.returned (.slice (some ⟨w.heap.size,0,none⟩) 8 8)/\w'.ownsRow w.heap.size 3 1 (.slice (some ⟨w.heap.size,0,none⟩) 8 8) 8 (bG (bH x y))/\Below w.heap.size w w':=by
 have K:=hd_ (aCP w _ b o c b' o' c' x y rfl hb hb' hx hy);clear hx hy;go_enter func248,ntmps248
 go_wp2_with fail
 refine K.out.mono ?_;rintro e w1 ⟨rfl,ho,hb1⟩;go_wp2;go_ret;exact⟨rfl,ho,hb1⟩
structure aCs (w:World) (L:Nat) (ra rb:List (List Int)) (m:Nat) (G:Nat->Nat):Prop where
 hdr:∃cur,w.heap[L]? =some (.cells cur 23 (0,0))/\cur.size=3/\∀j,j<m->cur[j]? =some (.slice (some ⟨G j,0,none⟩) 8 8)
 row:∀j,j<m->w.ownsRow (L+1) 3 1 (.slice (some ⟨G j,0,none⟩) 8 8) 8 (bG (bH (ra.getD j []) (rb.getD j [])))
 apart:∀i j,i<m->j<m->i≠j->G i≠G j
theorem aCs.own {w:World} {L:Nat} {ra rb:List (List Int)} {G:Nat->Nat} (h:aCs w L ra rb 3 G):dJ w L (.slice (some ⟨L,0,none⟩) 3 3) (dP ra rb) G (fun _=>8):=by
 obtain⟨cur,h1,h2,h3⟩:=h.hdr;have l8:∀i,i<3->((dP ra rb).getD i []).length=8:=fun i hi=>by rw[iV _ _ _ hi,iN]
 refine⟨⟨by simp[dP],.inr ⟨L,3,cur,rfl,Nat.le_refl _,h1,by simp[dP],by simp[maxLen],by simpa using h2,?_⟩⟩,fun i hi=>?_,fun i hi=>?_,fun i j hi hj=>h.apart i j hi hj⟩
 ·apply List.ext_getElem?
  intro i
  by_cases hi:i<3
  ·have e:nV (dP ra rb) G (fun _=>8) i=.slice (some ⟨G i,0,none⟩) 8 8:=by unfold nV;rw[l8 i hi]
   rw[List.getElem?_map,List.getElem?_range (by simpa[dP]using hi),List.getElem?_take,if_pos (by simp[dP];omega)];simp only[Array.getElem?_toList,Option.map_some,e];exact h3 i hi
  ·rw[List.getElem?_eq_none (by simp[dP];omega),List.getElem?_eq_none (by simp[dP];omega)]
 ·have hi':i<3:=by simpa[dP]using hi
  have e:nV (dP ra rb) G (fun _=>8) i=.slice (some ⟨G i,0,none⟩) 8 8:=by unfold nV;rw[l8 i hi']
  rw[e,l8 i hi',iV _ _ _ hi'];exact aM (h.row i hi') o_
 ·have hi':i<3:=by simpa[dP]using hi
  have:=((h.row i hi').lt (G i) rfl).1;simp[Value.ownBlock];omega
theorem aCs.step {w w1:World} {L m g:Nat} {ra rb:List (List Int)} {G:Nat->Nat} (h:aCs w L ra rb m G) (hm:m<3) (hb:Below w.heap.size w w1) (hg:w.heap.size<=g) (hL:L<w.heap.size)
  (ho:w1.ownsRow (L+1) 3 1 (.slice (some ⟨g,0,none⟩) 8 8) 8 (bG (bH (ra.getD m []) (rb.getD m [])))):
  aCs (w1.setCell ⟨L,m,none⟩ (.slice (some ⟨g,0,none⟩) 8 8)) L ra rb (m+1) (fun j=>if j<m then G j else g):=by
 obtain⟨cur,h1,h2,h3⟩:=h.hdr;have h1':w1.heap[L]? =some (.cells cur 23 (0,0)):=by rw[hb.block L hL];exact h1
 have lt:∀j,j<m->G j<w.heap.size/\L+1<=G j:=fun j hj=>by have:=(h.row j hj).lt (G j) rfl;exact⟨this.2,this.1⟩
 have hgs:=aA w1 ⟨L,m,none⟩ (.slice (some ⟨g,0,none⟩) 8 8);refine⟨⟨_,heap_setCell_same w1 L m cur _ _ h1',by simpa using h2,fun j hj=>?_⟩,fun j hj=>?_,fun i j hi hj hij=>?_⟩
 ·rw[Array.getElem?_setIfInBounds]
  by_cases e:j<m
  ·rw[if_neg o_,if_pos e];exact h3 j e
  ·obtain rfl:j=m:=o_
   rw[if_pos rfl,if_pos o_,if_neg o_]
 ·by_cases e:j<m
  ·simp only[if_pos e]
   have:=(h.row j e).kept (cU (row:=none) hb) (.inr (by simp[Value.ownBlock]));exact this.kept hgs (.inr (by have:=(lt j e).2;simp[Value.ownBlock];omega))
  ·obtain rfl:j=m:=o_
   simp only[if_neg e];exact ho.kept hgs (.inr (by simp[Value.ownBlock];omega))
 ·show (if i<m then G i else g)≠(if j<m then G j else g)
  by_cases e1:i<m<;>by_cases e2:j<m
  ·rw[if_pos e1,if_pos e2];exact h.apart i j e1 e2 hij
  ·rw[if_pos e1,if_neg e2];have:=(lt i e1).1;omega
  ·rw[if_neg e1,if_pos e2];have:=(lt j e2).1;omega
  ·omega
theorem aFZ {w w':World} {b i:Nat} (hb:Below w.heap.size w.drew w') (h:w.frozen? ⟨b,i,none⟩=false) (hl:b<w.heap.size):w'.frozen? ⟨b,i,none⟩=false:=by
 rw[hb.frozen (p:=⟨b,i,none⟩) hl];exact h
theorem oT {w w':World} {B:Nat} (hb:Below B w.drew w'):Below B w w':=⟨hb.os,hb.tape,hb.output,hb.size,hb.block⟩
theorem aBy (w:World) (F:Value) (b o c b' o' c':Nat) (ra rb:List (List Int)) (hF:F=.func (.func 248) #[] #[]) (hb:b<w.heap.size) (hb':b'<w.heap.size)
  (ha:∀i,i<3->∃bi oi ci,w.cell? ⟨b,o+i,none⟩=some (.slice (some ⟨bi,oi,none⟩) 8 ci)/\bi<w.heap.size/\∀k,k<8->w.cell? ⟨bi,oi+k,none⟩=some (.int .i64 ((ra.getD i []).getD k 0)))
  (hr:∀i,i<3->∃bi oi ci,w.cell? ⟨b',o'+i,none⟩=some (.slice (some ⟨bi,oi,none⟩) 8 ci)/\bi<w.heap.size/\∀k,k<8->w.cell? ⟨bi,oi+k,none⟩=some (.int .i64 ((rb.getD i []).getD k 0)))
  (ga:∀i,i<3->∀k,k<8->0<=(ra.getD i []).getD k 0/\(ra.getD i []).getD k 0<=2000) (gb:∀i,i<3->∀k,k<8->0<=(rb.getD i []).getD k 0/\(rb.getD i []).getD k 0<=2000):
  Calls prog 247 #[.slice (some ⟨b,o,none⟩) 3 c,.slice (some ⟨b',o',none⟩) 3 c',F] w fun e w'=>
   ∃G,e=.returned (.slice (some ⟨w.heap.size,0,none⟩) 3 3)/\dJ w' w.heap.size (.slice (some ⟨w.heap.size,0,none⟩) 3 3) (dP ra rb) G (fun _=>8)/\Below w.heap.size w w':=by
 have m3:=aMo;have HA:=hd_ ha;have HR:=hd_ hr;have GA:=hd_ ga;have GB:=hd_ gb;subst hF;clear ha hr ga gb;go_enter func247,ntmps247;go_wp2;go_loopw [14] (fun i wr=>∃(m:Nat) (G:Nat->Nat),m<=3/\i=.int .i64 m/\aCs wr w.heap.size ra rb m G/\Below w.heap.size w wr/\w.heap.size<wr.heap.size) (fun i _=>3 - (intOf i).toNat)
 case atStart=>
  exact⟨0,fun _=>0,Nat.zero_le _,rfl,⟨⟨_,heap_alloc_new w _,rfl,fun j h=>absurd h (Nat.not_lt_zero j)⟩,fun j h=>absurd h (Nat.not_lt_zero j),fun i j h=>absurd h (Nat.not_lt_zero i)⟩,(Below.refl _ _).alloc lr_ _,by simp⟩
 case round=>
  obtain⟨m,G,hm,rfl,hrow,hbl,hlt⟩:=hrel;have HW:=hd_ hrow;have HB:=hd_ hbl;clear hrow hbl
  by_cases hmt:m<3
  ·obtain⟨b1,o1,c1,e1,l1,r1⟩:=HA.out m hmt
   obtain⟨b2,o2,c2,e2,l2,r2⟩:=HR.out m hmt;rw[<-HB.out.cell (p:=⟨b,o+m,none⟩) hb]at e1;rw[<-HB.out.cell (p:=⟨b',o'+m,none⟩) hb']at e2;have KC:Hid (Calls prog 248 #[.slice (some ⟨b1,o1,none⟩) 8 c1,.slice (some ⟨b2,o2,none⟩) 8 c2] wr.drew fun e w'=>
          e=.returned (.slice (some ⟨wr.heap.size,0,none⟩) 8 8)/\w'.ownsRow wr.heap.size 3 1 (.slice (some ⟨wr.heap.size,0,none⟩) 8 8) 8 (bG (bH (ra.getD m []) (rb.getD m [])))/\Below wr.heap.size wr.drew w'):=
    aBC wr.drew b1 o1 c1 b2 o2 c2 _ _ (by have:=HB.out.size;simp;omega) (by have:=HB.out.size;simp;omega)
     (fun k hk=>⟨GA.out m hmt k hk,by rw[World.cell?_drew,HB.out.cell (p:=⟨b1,o1+k,none⟩) l1];exact r1 k hk⟩)
     (fun k hk=>⟨GB.out m hmt k hk,by rw[World.cell?_drew,HB.out.cell (p:=⟨b2,o2+k,none⟩) l2];exact r2 k hk⟩)
   obtain⟨v,hc,hf⟩:∃v,wr.cell? ⟨w.heap.size,m,none⟩=some v/\wr.frozen? ⟨w.heap.size,m,none⟩=false:=by
    obtain⟨cur,h1,h2,_⟩:=HW.out.hdr;refine⟨cur[m]'o_,?_,by simp[World.frozen?,h1]⟩;simp[World.cell?,h1,show m<cur.size by omega]
   have m0:(0:Int)<=(m:Int):=o_;have m3':(m:Int)<3:=o_;clear r1 r2;go_wp2
   go_region_with (go_at_call 248;refine KC.out.mono ?_;rintro e w4 ⟨rfl,ho,hb4⟩;have d1:=cell_later (oT hb4) hc;have d2:=aFZ hb4 hf hlt;have HO4:=hd_ ho;have HB4:=hd_ hb4;clear ho hb4)
   all_goals
    have hs:=HW.out.step hmt (oT HB4.out) lr_ hlt (aM HO4.out o_);have HS:=hd_ hs;clear hs;go_wp2;go_roundw
    case rel=>exact⟨m+1,_,o_,gn_,HS.out,(HB.out.trans ((oT HB4.out).mono HB.out.size)).setCell lr_ _,by have:=HB4.out.size;simp at this ⊢;omega⟩
    case measure=>simp[intOf];omega
  ·obtain rfl:m=3:=o_
   go_wp2;go_ret;exact⟨G,rfl,HW.out.own,HB.out⟩
theorem iU (w:World) (u:Value) (rs:List (List Int)) (h:Rws w u rs) (d:Nat) (os:Array Obj):
  Calls prog 84 #[.agg #[u]] (grow (redrawn w d) os) fun e w''=>e=.returned (iv (dA rs))/\∃p:Regrown,w''=grow (redrawn w p.d) p.os:=
 Calls.regrown_of (sK _ u rs (h.below (below_regrown w d os) lr_))
theorem aCr (ra rb:List (List Int)):hO ra rb=true↔0<=dA ra/\0<=dA rb/\dA ra+dA rb<=2000:=by
 rw[jC]
 constructor
 ·rintro⟨h1,h2,h3⟩
  exact⟨(iX h1).1,(iX h2).1,h3⟩
 ·rintro⟨h1,h2,h3⟩
  refine⟨?_,?_,h3⟩
  ·cases h:okB ra with
   |true=>rfl
   |false=>rw[sN h]at h1;omega
  ·cases h:okB rb with
   |true=>rfl
   |false=>rw[sN h]at h2;omega
theorem aHu (rs:List (List Int)): -1<=dA rs/\dA rs<=2000:=by
 cases h:okB rs with
 |true=>have:=iX h;omega
 |false=>rw[sN h];omega
theorem aI8 (w:World) (u v:Value) (ra rb:List (List Int)) (ha:Rws w u ra) (hb:Rws w v rb) (hno:hO ra rb=false):
  Calls prog 195 #[.agg #[u],.agg #[v]] w fun e w'=>e=.returned (.tuple #[.agg #[zn],.bool false])/\Below w.heap.size w w':=by
 obtain⟨w0,hw0⟩:=nm_ (((w.alloc (.cells #[u] 36)).alloc (.cells #[v] 36)).alloc (.cells #[zn] 36));have hA:Below w.heap.size w w0:=by rw[hw0];exact (((Below.refl w.heap.size w).alloc lr_ _).alloc (by simp) _).alloc (by simp;omega) _
 have tb:=gZ w (.cells #[u] 36) (.cells #[v] 36) (.cells #[zn] 36);rw[<-hw0]at tb;obtain⟨ca,_,la⟩:=cQ tb.1;obtain⟨cb,_,lb⟩:=cQ tb.2.1;obtain⟨cr,fr,lr⟩:=cQ tb.2.2;have KA:=hd_ (iU w0 u ra (ha.below hA lr_));have KB:=hd_ (iU w0 v rb (hb.below hA lr_));have HA:=hd_ hA
 have hcase:dA ra<0\/(¬dA ra<0/\dA rb<0)\/(¬dA ra<0/\¬dA rb<0/\2000<dA ra+dA rb):=by
  apply Classical.byContradiction;intro hh;have:=(aCr ra rb).2 o_;rw[this]at hno;cases hno
 have b1:=aHu ra;have b2:=aHu rb;obtain⟨⟨x,c,hx⟩,_⟩:=ha.cases;obtain⟨⟨y,d,hy⟩,_⟩:=hb.cases;obtain⟨n,hn⟩:=nm_ ra.length;obtain⟨m,hm⟩:=nm_ rb.length;rw[<-hn]at hx;rw[<-hm]at hy;subst hx hy;generalize dA ra=Sa at *;generalize dA rb=Sb at *;clear ha hb hn hm hno hA tb;have ra':=cell_regrown ca;have rb':=cell_regrown cb;go_enter func195,ntmps195;go_wp2;rw[<-hw0];clear hw0
 refine cY kr_ kr_ ?_
 repeat (refine cK (fun K hK=>?_);go_simp;first|(refine hK _ ?_;clear hK K)|(apply Exists.intro;refine⟨fun _=>?_,hK _ ?_⟩;(first|(with_reducible exact KA.out _ _)|(with_reducible exact KB.out _ _));clear hK K))
 refine dE ?_;intro _ hw';obtain⟨⟨dq,oq⟩,hw''⟩:=hw';subst hw'';have hb_w1:=below_regrown w0 dq oq;obtain⟨w1,hq_w1⟩:=nm_ (grow (redrawn w0 dq) oq);rw[<-hq_w1]at hb_w1 ⊢;clear hq_w1;have cr1:=cell_later hb_w1 cr;have fr1:w1.frozen? ⟨w.heap.size+2,0,none⟩=false:=by rw[hb_w1.frozen (p:=⟨w.heap.size+2,0,none⟩) lr];exact fr
 have L1:=hd_ (HA.out.trans (hb_w1.mono HA.out.size));clear hb_w1 ra' rb';have hr:=hd_ (World.cell?_setCell_same w1 ⟨w.heap.size+2,0,none⟩ zn cr1);rcases hcase with h|⟨h,h2⟩|⟨h,h2,h3⟩
 all_goals
  go_wp2;have hr:=hr.out;exact bodyPost_ret (v:=.tuple #[.agg #[zn],.bool false]) (by simp[results,results195,go_sem,hr]) rfl ⟨rfl,L1.out.setCell (by simp;omega) _⟩
theorem aFH (w:World) (u v:Value) (ra rb:List (List Int)) (ha:Rws w u ra) (hb:Rws w v rb) (hyes:hO ra rb=true):
  Calls prog 195 #[.agg #[u],.agg #[v]] w fun e w'=>∃x c G C,e=.returned (.tuple #[.agg #[.slice x 3 c],.bool true])/\dJ w' w.heap.size (.slice x 3 c) (dP ra rb) G C/\Below w.heap.size w w':=by
 obtain⟨hoka,hokb,_⟩:=(jC ra rb).1 hyes;obtain⟨h1,h2,h3⟩:=(aCr ra rb).1 hyes;obtain⟨w0,hw0⟩:=nm_ (((w.alloc (.cells #[u] 36)).alloc (.cells #[v] 36)).alloc (.cells #[zn] 36));have hA:Below w.heap.size w w0:=by rw[hw0];exact (((Below.refl w.heap.size w).alloc lr_ _).alloc (by simp) _).alloc (by simp;omega) _
 have tb:=gZ w (.cells #[u] 36) (.cells #[v] 36) (.cells #[zn] 36);rw[<-hw0]at tb;obtain⟨ca,_,la⟩:=cQ tb.1;obtain⟨cb,_,lb⟩:=cQ tb.2.1;obtain⟨cr,fr,lr⟩:=cQ tb.2.2;have KA:=hd_ (iU w0 u ra (ha.below hA lr_));have KB:=hd_ (iU w0 v rb (hb.below hA lr_));have HA:=hd_ hA;obtain⟨_,hga⟩:=(dT ra).1 hoka;obtain⟨_,hgb⟩:=(dT rb).1 hokb
 obtain⟨ba,oa,ka,rfl,_,hba,hrowa⟩:=lO ha hoka;obtain⟨bb,ob,kb,rfl,_,hbb,hrowb⟩:=lO hb hokb;have GA:=hd_ (fun (i:Nat) (hi:i<3)=>(hga i hi).2.1);have GB:=hd_ (fun (i:Nat) (hi:i<3)=>(hgb i hi).2.1);have RA:=hd_ hrowa;have RB:=hd_ hrowb;have n1:¬dA ra<0:=o_;have n2:¬dA rb<0:=o_;have n3:¬ 2000<dA ra+dA rb:=o_;generalize dA ra=Sa at *;generalize dA rb=Sb at *
 clear ha hb hyes hA tb hrowa hrowb hga hgb hoka hokb h1 h2 h3;have ra':=cell_regrown ca;have rb':=cell_regrown cb;go_enter func195,ntmps195;go_wp2;rw[<-hw0];clear hw0;refine cY kr_ kr_ ?_
 repeat (refine cK (fun K hK=>?_);go_simp;first|(refine hK _ ?_;clear hK K)|(apply Exists.intro;refine⟨fun _=>?_,hK _ ?_⟩;(first|(with_reducible exact KA.out _ _)|(with_reducible exact KB.out _ _));clear hK K))
 refine dE ?_;intro _ hw';obtain⟨⟨dq,oq⟩,hw''⟩:=hw';subst hw'';have hb_w1:=below_regrown w0 dq oq;obtain⟨w1,hq_w1⟩:=nm_ (grow (redrawn w0 dq) oq);rw[<-hq_w1]at hb_w1 ⊢;clear hq_w1;have ca1:=cell_later hb_w1 ca;have cb1:=cell_later hb_w1 cb;have cr1:=cell_later hb_w1 cr;have fr1:w1.frozen? ⟨w.heap.size+2,0,none⟩=false:=by rw[hb_w1.frozen (p:=⟨w.heap.size+2,0,none⟩) lr];exact fr
 have hL:=HA.out.trans (hb_w1.mono HA.out.size);have sz:=hb_w1.size;have KJ:=hd_ (aBy w1 _ ba oa ka bb ob kb ra rb rfl (by have:=hL.size;omega) (by have:=hL.size;omega)
    (fun i hi=>by
      obtain⟨bi,oi,ci,e,l,r⟩:=RA.out i hi
      exact⟨bi,oi,ci,by rw[hL.cell (p:=⟨ba,oa+i,none⟩) hba];exact e,Nat.lt_of_lt_of_le l hL.size,fun k hk=>by rw[hL.cell (p:=⟨bi,oi+k,none⟩) l];exact r k hk⟩)
    (fun i hi=>by
      obtain⟨bi,oi,ci,e,l,r⟩:=RB.out i hi
      exact⟨bi,oi,ci,by rw[hL.cell (p:=⟨bb,ob+i,none⟩) hbb];exact e,Nat.lt_of_lt_of_le l hL.size,fun k hk=>by rw[hL.cell (p:=⟨bi,oi+k,none⟩) l];exact r k hk⟩) GA.out GB.out)
 have L1:=hd_ hL;clear hb_w1 ra' rb' hL ca cb cr fr
 go_wp2_with fail
 refine KJ.out.mono ?_;rintro e w2 ⟨G,rfl,ho,hb2⟩;have cr2:=cell_later hb2 cr1;have fr2:w2.frozen? ⟨w.heap.size+2,0,none⟩=false:=by rw[hb2.frozen (p:=⟨w.heap.size+2,0,none⟩) (by simp;omega)];exact fr1
 have hw:=ho.grown (aA w2 ⟨w.heap.size+2,0,none⟩ (.slice (some ⟨w1.heap.size,0,none⟩) 3 3)) (fun k e=>by simp at e;omega);have H1:=hd_ hw;have L2:=hd_ (L1.out.trans (hb2.mono L1.out.size));clear ho hb2 hw;go_wp2;have hr:=World.cell?_setCell_same w2 ⟨w.heap.size+2,0,none⟩ (.slice (some ⟨w1.heap.size,0,none⟩) 3 3) cr2
 exact bodyPost_ret (v:=.tuple #[.agg #[.slice (some ⟨w1.heap.size,0,none⟩) 3 3],.bool true]) (by simp[results,results195,go_sem,hr]) rfl
  ⟨_,_,G,_,rfl,H1.out.base L1.out.size,L2.out.setCell (by simp;omega) _⟩
def lF (t n:Int) (i:Nat):List Int:=gR.set (oE i t).toNat n
def wB (t n:Int):List (List Int):=[lF t n 0,lF t n 1,lF t n 2]
theorem pH (t n:Int) (i:Nat) (hi:i<3):(wB t n).getD i []=lF t n i:=by
 exact zB1
theorem aGI (t n:Int) (i:Nat):(lF t n i).length=8:=by simp[lF,gR]
theorem wE (k:Nat):gR.getD k 0=0:=by
 by_cases h:k<8
 ·rcases (by omega:k=0\/k=1\/k=2\/k=3\/k=4\/k=5\/k=6\/k=7)with rfl|rfl|rfl|rfl|rfl|rfl|rfl|rfl<;>rfl
 ·rw[List.getD_eq_getElem?_getD,List.getElem?_eq_none (by simp[gR];omega)];rfl
theorem aHw (zs:List Int) (p k:Nat) (n:Int) (hp:p<zs.length):(zs.set p n).getD k 0=if k=p then n else zs.getD k 0:=by
 by_cases h:k=p
 ·subst h
  rw[if_pos rfl,List.getD_eq_getElem?_getD,List.getElem?_set_self hp];rfl
 ·rw[if_neg h]
  simp[Ne.symm h]
theorem aLW (p:Nat) (hp:p<8) (n:Int):(gR.set p n).sum=n:=by
 rcases (by omega:p=0\/p=1\/p=2\/p=3\/p=4\/p=5\/p=6\/p=7)with rfl|rfl|rfl|rfl|rfl|rfl|rfl|rfl<;>simp[gR]
theorem qI (t n:Int) (i:Nat):(lF t n i).sum=n:=by
 obtain⟨P,_,hP,e⟩:=lH i t;unfold lF;rw[e];exact aLW P hP n
theorem uA (t n:Int) (i k:Nat):(lF t n i).getD k 0=if k=(oE i t).toNat then n else 0:=by
 obtain⟨P,_,hP,e⟩:=lH i t;unfold lF;rw[e,aHw _ _ _ _ (by simpa[gR]using hP),wE]
theorem aDk (t n:Int) (h:0<=n/\n<=2000):okB (wB t n)=true:=by
 rw[dT];refine⟨rfl,fun i hi=>?_⟩;unfold aDb;rw[pH _ _ _ hi,pH _ _ 0 o_,qI,qI];refine⟨aGI _ _ _,fun k _=>?_,rfl,h.2⟩;rw[uA]
 split<;>omega
theorem zS (t n:Int) (h:0<=n/\n<=2000):dA (wB t n)=n:=by
 rw[<-nG (aDk t n h),pH _ _ 0 o_,qI]
theorem aLf (t n:Int) (h:n<0\/2000<n):okB (wB t n)=false:=by
 refine xA (.inr ⟨0,o_,fun g=>?_⟩);have h1:=g.2.1;have h2:=g.2.2.2;rw[pH _ _ 0 o_]at h1 h2;rw[qI]at h2;obtain⟨P,_,hP,e⟩:=lH (0:Nat) t;have h3:=h1 P hP;rw[uA,if_pos e.symm]at h3;omega
theorem aEo (rs:List (List Int)) (t n:Int) (h0:0<=t) (h1:t<64):hO rs (wB t n)=nZ rs t n:=by
 rw[Bool.eq_iff_iff,jC,kQ]
 by_cases h:0<=n/\n<=2000
 ·rw[zS t n h,aDk t n h]
  constructor
  ·rintro⟨a,_,b⟩;exact⟨a,h0,h1,h.1,o_⟩
  ·rintro⟨a,_,_,_,b⟩;exact⟨a,rfl,o_⟩
 ·rw[aLf t n o_]
  constructor
  ·rintro⟨_,b,_⟩;cases b
  ·rintro⟨a,_,_,b,c⟩;have:=iX a;omega
theorem xC (rs:List (List Int)) (t n:Int) (hok:okB rs=true):dP rs (wB t n)=tH rs t n:=by
 obtain⟨_,hg⟩:=(dT rs).1 hok;refine sL rfl rfl fun i hi=>?_
 rw[iV _ _ _ hi,aE7 _ _ _ _ hi,pH _ _ _ hi];obtain⟨P,_,hP,e⟩:=lH i t;have h8:=(hg i hi).1;refine of_decide_eq_true (fO (d:=0) (n:=8) (iN _ _) (by simp only[qW,List.length_set];exact h8) fun k hk=>?_);rw[dQ _ _ _ hk,uA];unfold qW atV;rw[e,aHw _ _ _ _ (by rw[h8];exact hP)]
 split
 ·rename_i h;subst h;rfl
 ·omega
theorem aHZ (w:World) (u:Value) (x:Option Addr) (m c:Nat) (t n:Int) (hu:u=.slice x m c) (ht:t<0\/64<=t):
  Calls prog 231 #[.agg #[u],iv t,iv n] w fun e w'=>e=.returned (.tuple #[.agg #[zn],.bool false])/\Below w.heap.size w w':=by
 subst hu;go_enter func231,ntmps231
 go_wp2_with (go_at_call 106;refine (nI _ _ ht).mono ?_;rintro e w' ⟨rfl,rfl⟩)
 exact bodyPost_ret (v:=.tuple #[.agg #[zn],.bool false]) (by simp[results,results231,go_sem]) rfl ⟨rfl,by
    first
    |exact (((Below.refl _ _).alloc lr_ _).alloc (by simp) _).setCell (by simp) _
    |exact ((Below.refl _ _).alloc lr_ _).alloc (by simp) _⟩
def aHy (w:World) (ra rb:List (List Int)) (e:Ending) (w':World):Prop:=
 ∃x m c ok,e=.returned (.tuple #[.agg #[.slice x m c],.bool ok])/\ok=hO ra rb/\Below w.heap.size w w'/\(ok=false->x=none/\m=0/\c=0)/\(ok=true->m=3/\∃G C,dJ w' w.heap.size (.slice x m c) (dP ra rb) G C)
theorem aCz (w:World) (u v:Value) (ra rb:List (List Int)) (ha:Rws w u ra) (hb:Rws w v rb):Calls prog 195 #[.agg #[u],.agg #[v]] w (aHy w ra rb):=by
 cases h:hO ra rb with
 |false=>exact (aI8 w u v ra rb ha hb h).mono fun e w' ⟨he,hb⟩=>⟨none,0,0,false,he,h.symm,hb,fun _=>⟨rfl,rfl,rfl⟩,fun q=>by cases q⟩
 |true=>exact (aFH w u v ra rb ha hb h).mono fun e w' ⟨x,c,G,C,he,ho,hb⟩=>⟨x,3,c,true,he,h.symm,hb,fun q=>(by cases q),fun _=>⟨rfl,G,C,ho⟩⟩
theorem aF6 (w:World) (u:Value) (rs:List (List Int)) (t n:Int) (h:Rws w u rs) (t0:0<=t) (t1:t<64):
  Calls prog 231 #[.agg #[u],iv t,iv n] w fun e w'=>aHy w rs (wB t n) e w':=by
 have HR:=hd_ h;obtain⟨⟨x,c,hx⟩,_⟩:=h.cases;obtain⟨m,hm⟩:=nm_ rs.length;rw[<-hm]at hx;subst hx;clear hm h;go_enter func231,ntmps231
 go_wp2_with (go_at_call 106;refine (jZ _ _ t0 t1).mono ?_;rintro e w' ⟨rfl,rfl⟩)
 refine (aAs _).mono ?_;rintro e w1 ⟨v,G,C,rfl,ho,hb1⟩;obtain⟨g,c',hu,hg1,hg2⟩:=World.ownsRow.form ho.hdr (show 0<gW.length from by simp[gW]);have h3:gW.length=3:=rfl;rw[h3]at hu;subst hu;have sz:=hb1.size;simp only[World.size_alloc]at sz hg1
 have ca:=(cell_later hb1 (show ((w.alloc (.cells #[.slice x m c] 36)).alloc (.cells #[zn] 36)).cell? ⟨w.heap.size,0,none⟩=some (.slice x m c) by simp[go_sem]))
 have cr:=(cell_later hb1 (show ((w.alloc (.cells #[.slice x m c] 36)).alloc (.cells #[zn] 36)).cell? ⟨w.heap.size+1,0,none⟩=some (.slice none 0 0) by simp[go_sem]))
 have fr:w1.frozen? ⟨w.heap.size+1,0,none⟩=false:=by rw[hb1.frozen (p:=⟨w.heap.size+1,0,none⟩) (by simp)];simp[go_sem]
 have hL:=(((Below.refl w.heap.size w).alloc lr_ (.cells #[.slice x m c] 36)).alloc (by simp) (.cells #[zn] 36)).trans (hb1.mono (by simp;omega));have L:=hd_ hL;have HO1:=hd_ ho;clear ho hb1 hL h3;go_wp2;go_loopw [19] (fun i wr=>∃(k:Nat) (qs:List (List Int)),k<=3/\i=.int .i64 k/\qs.length=3/\(∀j,j<3->qs.getD j []=if j<k then lF t n j else gR)/\
      dJ wr (w.heap.size+2) (.slice (some ⟨g,0,none⟩) 3 c') qs G C/\wr.cell? ⟨w1.heap.size,0,none⟩=some (.slice (some ⟨g,0,none⟩) 3 c')/\
      wr.cell? ⟨w.heap.size,0,none⟩=some (.slice x m c)/\
      wr.cell? ⟨w.heap.size+1,0,none⟩=some (.slice none 0 0)/\wr.frozen? ⟨w.heap.size+1,0,none⟩=false/\Below w.heap.size w wr/\w1.heap.size<wr.heap.size) (fun i _=>3 - (intOf i).toNat)
 case atStart=>
  have l1:w.heap.size+1<w1.heap.size:=o_;have l0:w.heap.size<w1.heap.size:=o_;refine⟨0,gW,Nat.zero_le _,rfl,rfl,fun j hj=>?_,by simpa using HO1.out.below ((Below.refl _ _).alloc lr_ _) lr_,by simp,by rw[World.cell?_alloc_past _ _ _ l0];exact ca,by rw[World.cell?_alloc_past _ _ _ l1];exact cr,
      by rw[World.frozen?_alloc_past _ _ _ l1];exact fr,L.out.alloc L.out.size _,by simp⟩
  rcases (by omega:j=0\/j=1\/j=2)with rfl|rfl|rfl<;>rfl
 case round=>
  obtain⟨k,qs,hk,rfl,hq3,hqs,hown,hbox,hA,cR,fR,hbl,hlt2⟩:=hrel;have HQ3:=hd_ hq3;have HQ:=hd_ hqs;have HO:=hd_ hown;have HB:=hd_ hbl;clear hq3 hqs hown hbl ca cr fr
  by_cases hlt:k<3
  ·obtain⟨P,hP,hP8,hPn⟩:=lH (k:Int) t
   have hqk:qs.getD k []=gR:=by rw[HQ.out k hlt,if_neg o_]
   have hz8:gR.length=8:=rfl;have hc1:=HO.out.hdrCell HQ3.out k hlt;rw[hqk,hz8]at hc1;obtain⟨hc2,hf2⟩:=HO.out.rowCell k P (by rw[HQ3.out];exact hlt) (by rw[hqk];exact hP8);rw[hqk,wE]at hc2;have K1:Hid (∀W,Calls prog 179 #[iv k,iv t] W fun e w'=>e=.returned (iv P)/\W=w'):=fun W=>by
    rw[<-hP];exact aAA k t W o_ o_ t0 t1
   have q:=HO.out.store k P n (by rw[HQ3.out];exact hlt) (by rw[hqk];exact hP8);have hst:∃qs',qs'.length=3/\(∀j,j<3->qs'.getD j []=if j<k+1 then lF t n j else gR)/\dJ (wr.setCell ⟨G k,P,none⟩ (iv n)) (w.heap.size+2) (.slice (some ⟨g,0,none⟩) 3 c') qs' G C:=by
    refine⟨_,by simpa using HQ3.out,fun j hj=>?_,q.1⟩
    by_cases e:j=k
    ·subst e
     rw[if_pos o_];unfold lF;rw[hPn,hqk];simp[HQ3.out,hlt]
    ·have e1:(qs.set k ((qs.getD k []).set P n)).getD j []=qs.getD j []:=by simp[Ne.symm e]
     rw[e1,HQ.out j hj]
     by_cases e2:j<k
     ·rw[if_pos e2,if_pos o_]
     ·rw[if_neg e2,if_neg o_]
   have HST:=hd_ hst;have HGk:Hid (w.heap.size+2<=G k/\G k<w1.heap.size):=⟨((HO.out.row k (by rw[HQ3.out];exact hlt)).lt (G k) rfl).1,((HO1.out.row k (show k<gW.length from hlt)).lt (G k) rfl).2⟩
   have k0:(0:Int)<=(k:Int):=o_;have k3:(k:Int)<3:=o_;have P8:(P:Int)<8:=o_;clear hP hPn hst hqk hP8 q hz8
   go_wp2_with (go_at_call 179;refine (K1.out _).mono ?_;rintro e w' ⟨rfl,rfl⟩)
   go_roundw
   case rel=>
    obtain⟨qs',q1,q2,q3⟩:=HST.out;have e2:G k≠w1.heap.size:=by have:=HGk.out.2;omega
    have e1:G k≠w.heap.size+1:=by have:=HGk.out.1;omega
    have e0:G k≠w.heap.size:=by have:=HGk.out.1;omega
    refine⟨k+1,qs',o_,gn_,q1,q2,q3,?_,?_,?_,?_,?_,by simpa using hlt2⟩
    ·exact (World.cell?_setCell_other (h:=fun h=>by injection h with h;exact e2 h) ..).trans hbox
    ·exact (World.cell?_setCell_other (h:=fun h=>by injection h with h;exact e0 h) ..).trans hA
    ·exact (World.cell?_setCell_other (h:=fun h=>by injection h with h;exact e1 h) ..).trans cR
    ·rw[World.frozen?_setCell];exact fR
    ·exact HB.out.setCell (by have:=HGk.out.1;simp;omega) _
   case measure=>simp[intOf];omega
  ·have hq:qs=wB t n:=sL HQ3.out rfl (fun i hi=>by rw[HQ.out i hi,if_pos o_,pH _ _ _ hi])
   have ho:=HO.out;rw[hq]at ho;have KJ:=hd_ (aCz wr _ _ rs (wB t n) (HR.out.below HB.out lr_) ho.rws);clear hq ho
   go_wp2_with fail
   refine KJ.out.mono ?_;rintro e w3 ⟨z,p,d,ok,rfl,hok,hb3,hno,hyes⟩;have cR3:=cell_later hb3 cR;have fR3:w3.frozen? ⟨w.heap.size+1,0,none⟩=false:=by rw[hb3.frozen (p:=⟨w.heap.size+1,0,none⟩) (by simp;omega)];exact fR
   have hr:=hd_ (World.cell?_setCell_same w3 ⟨w.heap.size+1,0,none⟩ (.slice z p d) cR3);have hgs:=aA w3 ⟨w.heap.size+1,0,none⟩ (.slice z p d);have FIN:Hid (Below w.heap.size w (w3.setCell ⟨w.heap.size+1,0,none⟩ (.slice z p d))/\(ok=true->p=3/\∃G C,dJ (w3.setCell ⟨w.heap.size+1,0,none⟩ (.slice z p d)) w.heap.size (.slice z p d) (dP rs (wB t n)) G C)):=
    ⟨(HB.out.trans (hb3.mono HB.out.size)).setCell (by simp) _,fun q=>by
          obtain⟨q1,G',C',q2⟩:=hyes q
          exact⟨q1,G',C',(q2.grown hgs (fun k e=>by simp at e;omega)).base HB.out.size⟩⟩
   have HOK:=hd_ hok;have HNO:=hd_ hno;clear hok hno hyes hb3 hgs;go_wp2;have hr:=hr.out;exact bodyPost_ret (v:=.tuple #[.agg #[.slice z p d],.bool ok]) (by simp[results,results231,go_sem,hr]) rfl ⟨z,p,d,ok,rfl,HOK.out,FIN.out.1,HNO.out,FIN.out.2⟩
end Go.Proofs.YtcblbdpdbggkbaaGreat
namespace Go.Proofs.YtcblbdpdbggkbaaGreat
open _root_.Go.Proofs.Tryz
open Go.RowKit
theorem aMP {zs:List Int} (h:zs.length=8):zs.sum=zs.getD 0 0+zs.getD 1 0+zs.getD 2 0+zs.getD 3 0+zs.getD 4 0+zs.getD 5 0+zs.getD 6 0+zs.getD 7 0:=by
 match zs,h with
 | [a,b,c,d,e,f,g,i],_=>simp;omega
theorem aE3 (x y:List Int) (hx:x.length=8) (hy:y.length=8):(bH x y).sum=x.sum+y.sum:=by
 rw[aMP hx,aMP hy,aMP (iN x y)];rw[dQ _ _ 0 (by omega),dQ _ _ 1 (by omega),dQ _ _ 2 (by omega),dQ _ _ 3 (by omega),dQ _ _ 4 (by omega),dQ _ _ 5 (by omega),dQ _ _ 6 (by omega),dQ _ _ 7 (by omega)];omega
theorem aJQ {rs:List (List Int)} (h3:rs.length=3) (h:∀i,i<3->nY (rs.getD i [])/\(rs.getD i []).sum=(rs.getD 0 []).sum):okB rs=true:=
 (dT rs).2 ⟨h3,fun i hi=>⟨(h i hi).1.1,(h i hi).1.bd.2.2,(h i hi).2,(h i hi).1.2.2⟩⟩
theorem pD {rs:List (List Int)} (h:okB rs=true) (i:Nat) (hi:i<3):nY (rs.getD i [])/\(rs.getD i []).sum=dA rs:=by
 obtain⟨_,hg⟩:=(dT rs).1 h;have g:=hg i hi;exact⟨⟨g.1,fun k hk=>(g.2.1 k hk).1,g.2.2.2⟩,g.2.2.1.trans (nG h)⟩
theorem aEk {ra rb:List (List Int)} (h:hO ra rb=true):okB (dP ra rb)=true/\dA (dP ra rb)=dA ra+dA rb:=by
 obtain⟨ha,hb,hs⟩:=(jC ra rb).1 h;have aIs:∀i,i<3->((dP ra rb).getD i []).sum=dA ra+dA rb:=fun i hi=>by
  rw[iV _ _ _ hi,aE3 _ _ (pD ha i hi).1.1 (pD hb i hi).1.1,(pD ha i hi).2,(pD hb i hi).2]
 have ok:okB (dP ra rb)=true:=aJQ rfl fun i hi=>by
  refine⟨⟨by rw[iV _ _ _ hi];exact iN _ _,fun k hk=>?_,by rw[aIs i hi];exact hs⟩,by rw[aIs i hi,aIs 0 (by omega)]⟩;rw[iV _ _ _ hi,dQ _ _ _ hk];have:=(pD ha i hi).1.2.1 k hk;have:=(pD hb i hi).1.2.1 k hk;omega
 exact⟨ok,by rw[<-nG ok,aIs 0 (by omega)]⟩
theorem aLw {rs:List (List Int)} {t n:Int} (h:nZ rs t n=true):okB (tH rs t n)=true/\dA (tH rs t n)=dA rs+n:=by
 obtain⟨ok,t0,t1,n0,n1⟩:=(kQ rs t n).1 h;have hj:=aEo rs t n t0 t1;rw[h]at hj;have:=aEk hj;have av:=iX ok;rw[xC rs t n ok,zS t n (by omega)]at this;exact this
def aIt (w:World) (ok:Bool) (rs:List (List Int)) (e:Ending) (w':World):Prop:=
 ∃x m c,e=.returned (.tuple #[.agg #[.slice x m c],.bool ok])/\Below w.heap.size w w'/\(ok=false->x=none/\m=0/\c=0)/\(ok=true->m=3/\∃G C,dJ w' w.heap.size (.slice x m c) rs G C)
theorem aGF (w:World) (u v:Value) (ra rb:List (List Int)) (ha:Rws w u ra) (hb:Rws w v rb):Calls prog 195 #[.agg #[u],.agg #[v]] w (aIt w (hO ra rb) (dP ra rb)):=
 (aCz w u v ra rb ha hb).mono fun e w' ⟨x,m,c,ok,he,hok,hb,h0,h1⟩=>by subst hok;exact⟨x,m,c,he,hb,h0,h1⟩
theorem aGm (w:World) (u v:Value) (ra rb:List (List Int)) (ha:Rws w u ra) (hb:Rws w v rb):Calls prog 170 #[.agg #[u],.agg #[v]] w (aIt w (hO ra rb) (dP ra rb)):=by
 cases h:hO ra rb with
 |false=>exact (aID w u v ra rb ha hb h).mono fun e w' ⟨he,hb⟩=>⟨none,0,0,he,hb,fun _=>⟨rfl,rfl,rfl⟩,fun q=>by cases q⟩
 |true=>exact (aGD w u v ra rb ha hb h).mono fun e w' ⟨x,c,G,C,he,ho,hb⟩=>⟨x,3,c,he,hb,fun q=>(by cases q),fun _=>⟨rfl,G,C,ho⟩⟩
theorem aHO (w:World) (u:Value) (rs:List (List Int)) (t n:Int) (h:Rws w u rs):Calls prog 310 #[.agg #[u],iv t,iv n] w (aIt w (nZ rs t n) (tH rs t n)):=by
 cases q:nZ rs t n with
 |false=>exact (aKi w u rs t n h q).mono fun e w' ⟨he,hb⟩=>⟨none,0,0,he,hb,fun _=>⟨rfl,rfl,rfl⟩,fun q=>by cases q⟩
 |true=>exact (aHU w u rs t n h q).mono fun e w' ⟨x,c,G,C,he,ho,hb⟩=>⟨x,3,c,he,hb,fun q=>(by cases q),fun _=>⟨rfl,G,C,ho⟩⟩
theorem aIF (w:World) (u:Value) (rs:List (List Int)) (t n:Int) (h:Rws w u rs):Calls prog 231 #[.agg #[u],iv t,iv n] w (aIt w (nZ rs t n) (tH rs t n)):=by
 by_cases ht:t<0\/64<=t
 ·have hno:nZ rs t n=false:=by
   cases q:nZ rs t n with
   |false=>rfl
   |true=>have:=(kQ rs t n).1 q;omega
  obtain⟨⟨x,c,hx⟩,_⟩:=h.cases;rw[hno];exact (aHZ w u x _ c t n hx ht).mono fun e w' ⟨he,hb⟩=>⟨none,0,0,he,hb,fun _=>⟨rfl,rfl,rfl⟩,fun q=>by cases q⟩
 ·have t0:0<=t:=o_
  have t1:t<64:=o_;refine (aF6 w u rs t n h t0 t1).mono fun e w' ⟨x,m,c,ok,he,hok,hb,h0,h1⟩=>?_
  rw[aEo rs t n t0 t1]at hok;subst hok;refine⟨x,m,c,he,hb,h0,fun q=>?_⟩;obtain⟨hm,G,C,ho⟩:=h1 q;rw[xC rs t n ((kQ rs t n).1 q).1]at ho;exact⟨hm,G,C,ho⟩
def aH0 (ok:Bool) (rs:List (List Int)):List (List Int):=if ok=true then rs else []
end Go.Proofs.YtcblbdpdbggkbaaGreat
namespace Go.Proofs.YtcblbdpdbggkbaaGreat
open _root_.Go.Proofs.Tryz
open Go.RowKit Go.Sort
theorem aJo:okB gW=true/\dA gW=0:=by
 have e:wB 0 0=gW:=by decide+kernel
 rw[<-e];exact⟨aDk 0 0 (by omega),zS 0 0 (by omega)⟩
theorem oU (x y z:List Int):bH x (bH y z)=bH (bH x y) z:=by
 have g:∀(p q:List Int) k,k<8->(bH p q).getD k 0=p.getD k 0+q.getD k 0:=fun p q k hk=>by
  unfold bH;simp[hk]
 show (List.range 8).map _=(List.range 8).map _
 refine List.map_congr_left fun k hk=>?_
 have hk:=List.mem_range.1 hk;rw[g y z k hk,g x y k hk];omega
theorem aED (ra rb rc:List (List Int)):dP ra (dP rb rc)=dP (dP ra rb) rc:=by
 show [bH _ (bH _ _),bH _ (bH _ _),bH _ (bH _ _)]=[bH (bH _ _) _,bH (bH _ _) _,bH (bH _ _) _]
 rw[oU,oU,oU]
theorem aJe {ra:List (List Int)} (h:okB ra=true):hO ra gW=true/\dP ra gW=ra:=by
 have hz:=aJo;have ha:=iX h;obtain⟨h3,hg⟩:=(dT ra).1 h;refine⟨(jC _ _).2 ⟨h,hz.1,by rw[hz.2];omega⟩,?_⟩;have row:∀i,i<3->bH (ra.getD i []) (gW.getD i [])=ra.getD i []:=fun i hi=>by
  have e:gW.getD i []=gR:=by rcases (by omega:i=0\/i=1\/i=2)with rfl|rfl|rfl<;>rfl
  rw[e];refine of_decide_eq_true (fO (d:=0) (iN _ _) (hg i hi).1 fun k hk=>?_);rw[dQ _ _ _ hk,wE];omega
 refine sL rfl h3 fun i hi=>?_
 rw[iV _ _ i hi];exact row i hi
end Go.Proofs.YtcblbdpdbggkbaaGreat
namespace Go.Proofs.YtcblbdpdbggkbaaGreat
open _root_.Go.Proofs.Tryz
open Go.RowKit
theorem wO {rs:List (List Int)} {t n:Int} (h:nZ rs t n=true):tH rs t n=dP rs (wB t n):=(xC rs t n ((kQ rs t n).1 h).1).symm
end Go.Proofs.YtcblbdpdbggkbaaGreat
namespace Go.Proofs.YtcblbdpdbggkbaaGreat
open _root_.Go.Proofs.Tryz
open Go.RowKit Go.Shelf
attribute [local go_sem] Oper.semAt_some
def InB (n₀:Nat) (w:World) (v:Value) (zs:List Int):Prop:=
 (v=.slice none 0 0/\zs=[])\/
 ∃b o c,v=.slice (some ⟨b,o,none⟩) zs.length c/\zs.length<=c/\c<=maxLen/\b<n₀/\∀i,i<zs.length->w.cell? ⟨b,o+i,none⟩=some (.int .i64 (zs.getD i 0))
theorem InB.below {n₀:Nat} {w w':World} {v:Value} {zs:List Int} (h:InB n₀ w v zs) (hb:Below n₀ w w'):InB n₀ w' v zs:=by
 rcases h with h|⟨b,o,c,e,h1,h2,h3,h4⟩
 ·exact .inl h
 ·exact .inr ⟨b,o,c,e,h1,h2,h3,fun i hi=>(hb.cell (p:=⟨b,o+i,none⟩) h3).trans (h4 i hi)⟩
theorem cW.inB {w:World} {v:Value} {zs:List Int} (h:cW w v zs):InB w.heap.size w v zs:=h
def aT (zs:List Int):Int:=match zs with| []=>64|x::_=>x
def aW (zs:List Int) (m:Int):List Int:=if aT zs=m then zs.tail else zs
theorem qO (n₀:Nat) (w:World) (v:Value) (zs:List Int) (h:InB n₀ w v zs):
  Calls prog 287 #[v] w fun e w'=>e=.returned (iv (aT zs))/\w=w':=by
 rcases h with ⟨rfl,rfl⟩|⟨b,o,c,rfl,h1,h2,_,h4⟩
 ·go_enter func287,ntmps287
  exact zt
 ·cases zs with
  |nil=>
   go_enter func287,ntmps287;exact zt
  |cons x zs=>
   have h5:w.cell? ⟨b,o,none⟩=some (.int .i64 x):=h4 0 (by simp);obtain⟨n,hn⟩:=nm_ ((x::zs).length);have hp:0<n:=by rw[hn];simp
   rw[<-hn];have n0:((n:Int)==0)=false:=by simp;omega
   have n1:(0:Int)<(n:Int):=o_;clear h1 h2 h4 hn;go_enter func287,ntmps287;exact zt
theorem tP (n₀:Nat) (w:World) (v:Value) (zs:List Int) (m:Int) (h:InB n₀ w v zs) (hm:zs=[]->m≠64):
  Calls prog 288 #[v,iv m] w fun e w'=>∃x c,e=.returned (.slice x (aW zs m).length c)/\InB n₀ w (.slice x (aW zs m).length c) (aW zs m)/\w=w':=by
 have KF:Hid (Calls prog 287 #[v] w fun e w'=>e=.returned (iv (aT zs))/\w=w'):=qO n₀ w v zs h
 by_cases hf:aT zs=m
 ·have hne:zs≠[]:=fun e=>hm e (by rw[<-hf,e];rfl)
  rcases h with ⟨_,e⟩|⟨b,o,c,rfl,h1,h2,h3,h4⟩
  ·exact absurd e hne
  have hlen:0<zs.length:=List.length_pos_iff.2 hne;have tl:∀i,i<zs.tail.length->zs.tail.getD i 0=zs.getD (i+1) 0:=fun i hi=>by simp
  have lt:zs.tail.length=zs.length - 1:=by simp
  have IN:Hid (∀o' c',zs.tail.length<=c'->c'<=maxLen->(o'=o+1\/zs.tail.length=0)->InB n₀ w (.slice (some ⟨b,o',none⟩) zs.tail.length c') zs.tail):=fun o' c' q1 q2 q3=>.inr ⟨b,o',c',rfl,q1,q2,h3,fun i hi=>by
      rcases q3 with q3|q3
      · rw[tl i hi, <-h4 (i+1) o_,q3,show o+1+i=o+(i+1) by omega]
      · omega⟩
  have eb:aW zs m=zs.tail:=if_pos hf;rw[eb];rw[hf]at KF;obtain⟨n,hn⟩:=nm_ zs.length;obtain⟨k,hk⟩:=nm_ zs.tail.length;rw[<-hn]at KF hlen lt h1;rw[<-hn, <-hk];rw[<-hk]at IN lt;have n1:(1:Int)<=(n:Int):=o_;have c1:(n:Int)<=(c:Int):=o_;have ek:k=n - 1:=lt;subst ek;clear hn hk h4 tl lt hf hne hm eb
  by_cases hc:c=1
  ·subst hc
   obtain rfl:n=1:=o_;go_enter func288,ntmps288
   go_wp2_with fail
   refine KF.out.mono ?_;rintro e w1 ⟨rfl,rfl⟩;go_wp2;go_ret;exact⟨_,_,rfl,IN.out _ _ o_ o_ (.inr (by simp)),rfl⟩
  ·go_enter func288,ntmps288
   go_wp2_with fail
   refine KF.out.mono ?_;rintro e w1 ⟨rfl,rfl⟩;go_wp2;go_ret;exact⟨_,_,rfl,IN.out _ _ o_ o_ (.inl rfl),rfl⟩
 ·have eb:aW zs m=zs:=if_neg hf
  have hf':(aT zs==m)=false:=by simpa using hf
  have hd:decide (aT zs=m)=false:=by simpa using hf
  rw[eb];have I:=hd_ h;obtain⟨x,c,hx⟩:∃x c,v=.slice x zs.length c:=by
   exact zBk
  obtain⟨n,hn⟩:=nm_ zs.length;rw[<-hn]at hx ⊢;subst hx;generalize aT zs=F at *;clear h hn eb hf hm;go_enter func288,ntmps288
  go_wp2_with fail
  refine KF.out.mono ?_;rintro e w1 ⟨rfl,rfl⟩;go_wp2;go_ret;exact⟨_,_,rfl,I.out,rfl⟩
def oX:Nat->List Int->List Int->List Int
 | 0,_,_=>[]
 |k+1,zs,ys=>if zs=[]/\ys=[]then []else min (aT zs) (aT ys)::oX k (aW zs (min (aT zs) (aT ys))) (aW ys (min (aT zs) (aT ys)))
def kI (zs ys:List Int):List Int:=oX (zs.length+ys.length) zs ys
theorem yI (zs:List Int) (m:Int):(aW zs m).length<=zs.length:=by unfold aW;split<;>simp
theorem aB5 {zs:List Int} (h:∀z ∈ zs,z<64) (hn:zs≠[]):aT zs<64:=by
 cases zs with
 |nil=>exact absurd rfl hn
 |cons x xs=>exact h x (by simp)
theorem wK {zs ys:List Int} (hz:∀z ∈ zs,z<64) (hy:∀z ∈ ys,z<64) (h:¬(zs=[]/\ys=[])):
  min (aT zs) (aT ys)<64/\(aW zs (min (aT zs) (aT ys))).length+(aW ys (min (aT zs) (aT ys))).length<zs.length+ys.length:=by
 have l1:=yI zs (min (aT zs) (aT ys));have l2:=yI ys (min (aT zs) (aT ys));have less:∀us:List Int,us≠[]->aT us=min (aT zs) (aT ys)->(aW us (min (aT zs) (aT ys))).length<us.length:=fun us hu e=>by
  unfold aW;rw[if_pos e];cases us with
  |nil=>exact absurd rfl hu
  |cons x xs=>simp
 by_cases h1:zs=[]
 ·have h2:ys≠[]:=fun e=>h ⟨h1,e⟩
  have f2:=aB5 hy h2;have f1:aT zs=64:=by rw[h1];rfl
  have:=less ys h2 o_;exact⟨o_,o_⟩
 ·have f1:=aB5 hz h1
  by_cases h3:aT zs<=aT ys
  ·have:=less zs h1 o_
   exact⟨o_,o_⟩
  ·have h2:ys≠[]:=fun e=>h3 (by rw[e];show aT zs<=64;omega)
   have:=less ys h2 o_;exact⟨o_,o_⟩
theorem eY {zs:List Int} {m z:Int} (h:z ∈ aW zs m):z ∈ zs:=by
 unfold aW at h
 split at h
 ·exact List.mem_of_mem_tail h
 ·exact h
def sQ:Value->Nat
 | .slice _ n _=>n
 |_=>0
theorem aJ1 (n:Nat) (hn:1<=n) (l Ba Bb n₀:Nat) (u v:Value) (zs ys:List Int) (hz:∀z ∈ zs,z<64) (hy:∀z ∈ ys,z<64) (J Jx:List Int->World->Prop)
  (hY:∀pre x W,J pre W->pre.length<zs.length+ys.length->YieldAt Fence.wide (n - 1) prog l #[iv x] W fun e W'=>
      (e=.returned (.bool true)/\J (pre++[x]) W'/\Below n₀ W W')\/(e=.returned (.bool false)/\Jx (pre++[x]) W'))
  (hJd:∀s W1,J s W1->J s W1.drew) (W:World) (hA:W.cell? ⟨Ba,0,none⟩=some u) (hB:W.cell? ⟨Bb,0,none⟩=some v) (iA:InB n₀ W u zs) (iB:InB n₀ W v ys) (h0:J [] W):
  CallsIn Fence.wide n prog 286 #[.func (.yield l) #[] #[],.pointer (some ⟨Ba,0,none⟩),.pointer (some ⟨Bb,0,none⟩)] W fun e W'=>(∃v,e=.returned v)/\
   ((∃xs,xs=kI zs ys/\J xs W')\/(∃pre,pre<+:kI zs ys/\Jx pre W')):=by
 have form:∀{v zs},InB n₀ W v zs->∃x c,v=.slice x zs.length c:=fun h=>by
  exact zBk
 obtain⟨xa,ca,rfl⟩:=form iA;obtain⟨xb,cb,rfl⟩:=form iB;obtain⟨na,hna⟩:=nm_ zs.length;obtain⟨nb,hnb⟩:=nm_ ys.length;rw[<-hna]at hA iA;rw[<-hnb]at hB iB;have NA:=hd_ hna;have NB:=hd_ hnb;have IA:=hd_ iA;have IB:=hd_ iB;have HY:=hd_ hY;have HZ:=hd_ hz;have HYS:=hd_ hy;have H0:=hd_ h0;clear form hna hnb iA iB hY hz hy h0;refine callsIn_of_wp func286 rfl trivial ?_ rfl
 simp only[ntmps286,List.size_toArray,List.length_cons,List.length_nil,Nat.reduceAdd,Nat.reduceSub,Array.replicate_succ,Array.replicate_zero,List.push_toArray,List.append_toArray,List.nil_append,List.cons_append]
 gi_wp2
 gi_region
 gi_wp2
 gi_loopw [4,5] (fun p q wr=>∃(pre xs ys':List Int) (k:Nat),InB n₀ wr p xs/\InB n₀ wr q ys'/\(∀z ∈ xs,z<64)/\(∀z ∈ ys',z<64)/\pre++oX k xs ys'=kI zs ys/\xs.length+ys'.length<=k/\pre.length+(xs.length+ys'.length)<=zs.length+ys.length/\sQ p=xs.length/\sQ q=ys'.length/\J pre wr)
  (fun p q _=>sQ p+sQ q)
 case atStart=>exact⟨[],zs,ys,zs.length+ys.length,IA.out,IB.out,HZ.out,HYS.out,rfl,Nat.le_refl _,by simp,NA.out,NB.out,hJd _ _ H0.out⟩
 case round=>
  obtain⟨pre,xs,ys',k,ia,ib,hx,hy',hb,hk,hpre,sa,sb,hJs⟩:=hrel;have form:∀{v zs},InB n₀ wr v zs->∃x c,v=.slice x zs.length c:=fun h=>by
   exact zBk
  obtain⟨ya,da,rfl⟩:=form ia;obtain⟨yb,db,rfl⟩:=form ib;clear form sa sb
  by_cases hE:xs=[]/\ys'=[]
  ·obtain⟨rfl,rfl⟩:=hE
   have fin:Hid (pre=kI zs ys):=by
    have e:oX k [] []=[]:=by
     cases k with
     |zero=>rfl
     |succ k=>simp[oX]
    show pre=_
    rw[<-hb,e,List.append_nil]
   have HJ:=hd_ hJs;clear ia ib hx hy' hb hk hpre hJs
   gi_wp2
   go_end0
   exact⟨⟨_,rfl⟩,.inl ⟨pre,fin.out,HJ.out⟩⟩
  ·have hl:=wK hx hy' hE
   obtain⟨k',rfl⟩:∃k',k=k'+1:=by
    cases k with
    |zero=>exact absurd ⟨List.eq_nil_of_length_eq_zero o_,List.eq_nil_of_length_eq_zero o_⟩ hE
    |succ k=>exact⟨k,rfl⟩
   have hb':pre++[min (aT xs) (aT ys')]++oX k' (aW xs (min (aT xs) (aT ys'))) (aW ys' (min (aT xs) (aT ys')))=kI zs ys:=by
    rw[<-hb]
    conv=>rhs;unfold oX
    rw[if_neg hE];simp
   have KA:=hd_ (qO n₀ wr _ xs ia);have KB:=hd_ (qO n₀ wr _ ys' ib);obtain⟨M,hM⟩:=nm_ (min (aT xs) (aT ys'));rw[<-hM]at hl hb';have HB:=hd_ hb';have LE:=hd_ hl;have LT:Hid (pre.length<zs.length+ys.length):=by
    have:0<xs.length+ys'.length:=o_;show pre.length<_
    omega
   have JS:=hd_ hJs;have RA:Hid (∀W3,Below n₀ wr W3->Calls prog 288 #[.slice ya xs.length da,iv M] W3 fun e w'=>∃x c,e=.returned (.slice x (aW xs M).length c)/\InB n₀ W3 (.slice x (aW xs M).length c) (aW xs M)/\W3=w'):=fun W3 h3=>
    tP n₀ W3 _ xs M (ia.below h3) (fun _=>by omega)
   have RB:Hid (∀W3,Below n₀ wr W3->Calls prog 288 #[.slice yb ys'.length db,iv M] W3 fun e w'=>∃x c,e=.returned (.slice x (aW ys' M).length c)/\InB n₀ W3 (.slice x (aW ys' M).length c) (aW ys' M)/\W3=w'):=fun W3 h3=>
    tP n₀ W3 _ ys' M (ib.below h3) (fun _=>by omega)
   have MA:Hid (∀z ∈ aW xs M,z<64):=fun z h=>hx z (eY h)
   have MB:Hid (∀z ∈ aW ys' M,z<64):=fun z h=>hy' z (eY h)
   have HPR:=hd_ hpre;have HK:=hd_ hk;have pos:0<xs.length\/(xs.length=0/\0<ys'.length):=o_;obtain⟨fn,tmps,assign,body,hy,hR⟩:=HY.out pre M wr hJs LT.out;obtain⟨nx,hnx⟩:=nm_ xs.length;obtain⟨ny,hny⟩:=nm_ ys'.length;rw[<-hnx]at KA RA pos ⊢;rw[<-hny]at KB RB pos ⊢;have NX:=hd_ hnx;have NY:=hd_ hny;generalize aT xs=f1 at *;generalize aT ys'=f2 at *
   clear ia ib hx hy' hb hb' hk hpre hJs hl hE hnx hny;have hmin:(f1<=f2/\M=f1)\/(¬f1<=f2/\M=f2):=o_;clear hM;rcases pos with px|⟨rfl,py⟩
   ·have px':(0:Int)<(nx:Int):=o_
    rcases hmin with ⟨hle,rfl⟩|⟨hle,rfl⟩
    ·exact zj
    ·exact zj
   ·have py':(0:Int)<(ny:Int):=o_
    rcases hmin with ⟨hle,rfl⟩|⟨hle,rfl⟩
    ·exact zj
    ·exact zj
attribute [local go_sem] Oper.semAt_some
theorem zL (w:World) (u v:Value) (x y:Option Addr) (n m c d:Nat) (hu:u=.slice x n c) (hv:v=.slice y m d):
  Calls prog 249 #[u,v] w fun e w'=>e=.returned (.func (.func 286) #[] #[.pointer (some ⟨w.heap.size,0,none⟩),.pointer (some ⟨w.heap.size+1,0,none⟩)])/\w'=(w.alloc (.cells #[u] 23)).alloc (.cells #[v] 23):=by
 subst hu hv;refine (callsIn_wide (n:=3)).1 ?_;refine callsIn_of_wp func249 rfl trivial ?_ rfl;simp only[ntmps249,List.size_toArray,List.length_cons,List.length_nil,Nat.reduceAdd,Nat.reduceSub,Array.replicate_succ,Array.replicate_zero,List.push_toArray,List.append_toArray,List.nil_append,List.cons_append]
 gi_wp2
 go_ret;exact⟨rfl,rfl⟩
theorem aES {zs:List Int} {x:Int}:x ∈ zs↔∃i,i<zs.length/\zs.getD i 0=x:=by
 exact zBB
theorem aF4 (n:Nat) (hn:1<=n) (Ba Bb n₀:Nat) (u v:Value) (zs ys:List Int) (hz:∀z ∈ zs,z<64) (hy:∀z ∈ ys,z<64) (w:World) (hBa:Ba<w.heap.size) (hBb:Bb<w.heap.size) (hn₀:n₀<=w.heap.size)
  (hA:w.cell? ⟨Ba,0,none⟩=some u) (hB:w.cell? ⟨Bb,0,none⟩=some v) (iA:InB n₀ w u zs) (iB:InB n₀ w v ys):
  SeqStopsK Fence.wide n prog 286 #[.pointer (some ⟨Ba,0,none⟩),.pointer (some ⟨Bb,0,none⟩)] (fun x:Int=>#[Value.int .i64 x]) (Below n₀) (fun xs=>xs=kI zs ys) (fun pre=>pre<+:kI zs ys) (zs.length+ys.length) w:=fun l J Jx W hW hJ _ hY h0=>
 aJ1 n hn l Ba Bb n₀ u v zs ys hz hy J Jx hY (fun s W1 h=>hJ s W1 W1.drew none h ⟨rfl,rfl,rfl,Nat.le_refl _,fun _ _ _=>rfl⟩ (fun _ e=>by cases e)) W ((hW.cell (p:=⟨Ba,0,none⟩) hBa).trans hA) ((hW.cell (p:=⟨Bb,0,none⟩) hBb).trans hB) (iA.below (hW.mono hn₀)) (iB.below (hW.mono hn₀)) h0
theorem aBI (w:World) (u v:Value) (zs ys:List Int) (ha:cW w u zs) (hb:cW w v ys) (oka:eE zs=true) (okb:eE ys=true):
  Calls prog 196 #[.agg #[u],.agg #[v]] w fun e w'=>∃v',e=.returned (.tuple #[.agg #[v'],.bool true])/\aZ w' w.heap.size v' ((kI zs ys).take 6)/\Below w.heap.size w w':=by
 obtain⟨i0,hi,hz0,hz1,hz2⟩:=info_parts rP;have hA:=(((Below.refl w.heap.size w).alloc lr_ (.cells #[u] 38)).alloc (by simp) (.cells #[v] 38)).alloc (by simp;omega) (.cells #[zn] 38);have z64:∀z ∈ zs,z<64:=fun z hz=>by
  obtain⟨i,hi,rfl⟩:=aES.1 hz;have:=((fS oka).2.1 i hi).2;omega
 have y64:∀z ∈ ys,z<64:=fun z hz=>by
  obtain⟨i,hi,rfl⟩:=aES.1 hz;have:=((fS okb).2.1 i hi).2;omega
 have la:=(fS oka).1;have lb:=(fS okb).1;have IA:=hd_ ha.inB;have IB:=hd_ hb.inB;have KA:=hd_ (nL _ u zs (ha.below hA lr_));have JB:=hd_ (hb.below hA lr_);rw[oka]at KA;have HA:=hd_ hA;obtain⟨⟨x,c,hx⟩,_⟩:=ha.cases;obtain⟨⟨y,d,hy⟩,_⟩:=hb.cases;obtain⟨na,hna⟩:=nm_ zs.length;obtain⟨nb,hnb⟩:=nm_ ys.length;rw[<-hna]at hx;rw[<-hnb]at hy;have NA:=hd_ hna;have NB:=hd_ hnb;subst hx hy
 obtain⟨w0,hw0⟩:=nm_ (((w.alloc (.cells #[.slice x na c] 38)).alloc (.cells #[.slice y nb d] 38)).alloc (.cells #[zn] 38));have c0:w0.cell? ⟨w.heap.size,0,none⟩=some (.slice x na c):=by rw[hw0,World.cell?_alloc_past (hn:=by simp;omega),World.cell?_alloc_past (hn:=by simp)];simp
 have c1:w0.cell? ⟨w.heap.size+1,0,none⟩=some (.slice y nb d):=by rw[hw0,World.cell?_alloc_past (hn:=by simp),World.cell?_alloc_at (hn:=by simp)];simp
 have b2:Go.Boxed w0 (w.heap.size+1+1) 38 zn:=by
  rw[hw0];have:=Go.Boxed.new ((w.alloc (.cells #[.slice x na c] 38)).alloc (.cells #[.slice y nb d] 38)) 38 zn;simpa using this
 have S0:Hid (w0.heap.size=w.heap.size+3):=by show w0.heap.size=_;rw[hw0];simp
 rw[<-hw0]at KA JB HA;have B2:=hd_ b2;have HW:=hd_ hw0;clear ha hb hA hna hnb hw0 b2 oka la lb;refine (callsIn_wide (n:=9)).1 ?_;refine callsIn_of_wp_marks func196 rfl trivial ?_ rfl
 simp only[ntmps196,List.size_toArray,List.length_cons,List.length_nil,Nat.reduceAdd,Nat.reduceSub,Array.replicate_succ,Array.replicate_zero,List.push_toArray,List.append_toArray,List.nil_append,List.cons_append]
 gi_wp2_with fail
 rw[<-HW.out];refine⟨trivial,(callsIn_wide.2 KA.out).mono ?_⟩;rintro e w1 ⟨rfl,hb1⟩;have c01:=cell_later hb1 c0;have c11:=cell_later hb1 c1;have KB:=hd_ (nL w1 _ ys (JB.out.below hb1 lr_));rw[okb]at KB;have BX1:Hid (Go.Boxed w1 (w.heap.size+1+1) 38 zn):=(hb1.block _ B2.out.lt).trans B2.out;have L1:=hd_ (HA.out.trans (hb1.mono HA.out.size))
 have S1:Hid (w.heap.size+3<=w1.heap.size):=by have h1:=S0.out;have h2:=hb1.size;show _<=_;omega
 clear hb1 c0 c1 okb
 gi_wp2_with fail
 refine⟨trivial,(callsIn_wide.2 KB.out).mono ?_⟩;rintro e w2 ⟨rfl,hb2⟩;have c02:=cell_later hb2 c01;have c12:=cell_later hb2 c11;have BX2:Hid (Go.Boxed w2 (w.heap.size+1+1) 38 zn):=(hb2.block _ BX1.out.lt).trans BX1.out;have L2:=hd_ (L1.out.trans (hb2.mono L1.out.size));have S2:Hid (w.heap.size+3<=w2.heap.size):=by have h1:=S1.out;have h2:=hb2.size;show _<=_;omega
 have l0:w.heap.size<w2.heap.size:=World.block_lt_of_cell? _ _ c02;have l1:w.heap.size+1<w2.heap.size:=World.block_lt_of_cell? _ _ c12;have c03:(w2.alloc (.cells #[zn] 23)).cell? ⟨w.heap.size,0,none⟩=some (.slice x na c):=by rw[World.cell?_alloc_past (hn:=l0)];exact c02
 have c13:(w2.alloc (.cells #[zn] 23)).cell? ⟨w.heap.size+1,0,none⟩=some (.slice y nb d):=by rw[World.cell?_alloc_past (hn:=l1)];exact c12
 have e1:¬w.heap.size=w2.heap.size:=o_;have e2:¬w.heap.size+1=w2.heap.size:=o_;clear hb2 c01 c11
 gi_wp2_with fail
 refine⟨trivial,(callsIn_wide.2 (zL _ _ _ x y na nb c d rfl rfl)).mono ?_⟩;rintro e w3 ⟨rfl,hw3⟩;have s3:w3.heap.size=w2.heap.size+3:=by rw[hw3];simp
 have kb:Go.Boxed w3 w2.heap.size 23 zn:=by rw[hw3];exact ((Go.Boxed.new w2 23 zn).alloc _).alloc _
 have rb:Go.Boxed w3 (w.heap.size+1+1) 38 zn:=by rw[hw3];exact ((BX2.out.alloc _).alloc _).alloc _
 have ca:w3.cell? ⟨w2.heap.size+1,0,none⟩=some (.slice x na c):=by rw[hw3,World.cell?_alloc_past (hn:=by simp),World.cell?_alloc_at (hn:=by simp)];simp
 have cb:w3.cell? ⟨w2.heap.size+2,0,none⟩=some (.slice y nb d):=by rw[hw3,World.cell?_alloc_at (hn:=by simp)];simp
 have hB3:Below w.heap.size w w3:=by
  have h2:=S2.out;have:=((L2.out.alloc (o:=.cells #[zn] 23) L2.out.size).alloc (o:=.cells #[.slice x na c] 23) (by have:=L2.out.size;simp;omega)).alloc (o:=.cells #[.slice y nb d] 23) (by have:=L2.out.size;simp;omega);rw[hw3];exact this
 have B3:=hd_ hB3;have HW3:=hd_ hw3;have lw:Hid (w.heap.size+3<=w2.heap.size):=S2.out;clear hw3 c02 c12 c03 c13 hB3 l0 l1 e1 e2;simp only[World.size_alloc]
 gi_wp2
 refine wpIn_rangeFunc_ownG rfl o_ (gf:=286) (lb:=#[.pointer (some ⟨w2.heap.size+1,0,none⟩),.pointer (some ⟨w2.heap.size+1+1,0,none⟩)]) rfl trivial (enters_of func286 kr_ rfl)
  (aF4 8 o_ (w2.heap.size+1) (w2.heap.size+2) w.heap.size _ _ zs ys z64 y64 w3 o_ o_ B3.out.size ca cb (IA.out.below B3.out) (IB.out.below B3.out)) belowK_t (belowK_b (by have:=lw.out;omega)) (Below.refl _ _) (fun _=>rfl)
  (fun (pre:List Int) W=>(∃v,Go.Boxed W w2.heap.size 23 v/\W.ownsRow w.heap.size 3 1 v pre.length (bG pre)/\True)/\Go.Boxed W (w.heap.size+1+1) 38 zn/\Below w.heap.size w W/\pre.length<=6)
  (fun c (pre:List Int) W=>(c=.exit 0/\pre.length=7)/\(∃v,Go.Boxed W w2.heap.size 23 v/\W.ownsRow w.heap.size 3 1 v 6 (bG (pre.take 6))/\True)/\Go.Boxed W (w.heap.size+1+1) 38 zn/\Below w.heap.size w W)
  (OwnFrom.and (Own.from (holdsRow_own w.heap.size w2.heap.size 23 3 1 (fun pre:List Int=>pre.length) (fun pre=>bG pre) (fun _ _=>True)) _) (OwnFrom.and (Own.from (boxed_own (w.heap.size+1+1) 38 (fun _=>.slice none 0 0)) _) (OwnFrom.and (ownFrom_below lr_ B3.out.size) (ownFrom_pure _ (fun pre:List Int=>pre.length<=6)))))
  (fun c=>OwnFrom.and (ownFrom_pure _ (fun pre:List Int=>c=.exit 0/\pre.length=7)) (OwnFrom.and (Own.from (holdsRow_own w.heap.size w2.heap.size 23 3 1 (fun _=>6) (fun pre:List Int=>bG (pre.take 6)) (fun _ _=>True)) _) (OwnFrom.and (Own.from (boxed_own (w.heap.size+1+1) 38 (fun _=>.slice none 0 0)) _) (ownFrom_below lr_ B3.out.size))))
  ⟨⟨_,kb,World.ownsRow_nil _ _ _ _,trivial⟩,rb,B3.out,by simp⟩
  (fun m=>{ tmps:=#[.agg #[.slice x na c],.agg #[.slice y nb d],.pointer (some ⟨w.heap.size,0,none⟩),.pointer (some ⟨w.heap.size+1,0,none⟩),.pointer (some ⟨w.heap.size+1+1,0,none⟩),.bool false,.pointer (some ⟨w2.heap.size,0,none⟩),iv m,.agg #[.slice x na c],.bool true,.bool false,.bool false,.agg #[.slice y nb d],.bool true,.bool false,.bool false,undef,.pointer (some ⟨w.heap.size,0,none⟩),.slice x na c,.pointer (some ⟨w.heap.size+1,0,none⟩),.slice y nb d,.func (.func 286) #[] #[.pointer (some ⟨w2.heap.size+1,0,none⟩),.pointer (some ⟨w2.heap.size+1+1,0,none⟩)],iv m,undef,undef,undef,undef,undef,undef,undef,undef,undef],defers:=[] }) ?assign ?body ?done ?stop
 case assign=>
  intro l x W K hK
  gi_wp2
  exact hK
 case body=>
  rintro l pre m W ⟨⟨v,hv,hrow,_⟩,hR,hB,hp6⟩ hlt;have hf:=(show aZ W w.heap.size v pre from hrow).form;obtain⟨xv,cv,rfl⟩:=hf;obtain⟨np,hnp⟩:=nm_ pre.length;rw[<-hnp]at hv hrow hp6;have hc:=hv.cell;have NP:=hd_ hnp;have HR:=hd_ hR;have HBW:=hd_ hB;have lS:=hB.size;have lw3:=lw.out;have dR:=hR.not_row dc_ hrow;clear hR hB hnp hlt
  by_cases h6:np=6
  ·subst h6
   gi_wp2
   refine⟨KeepsFrom.refl _ _,⟨rfl,by simp;rw[<-NP.out]⟩,⟨_,hv,?_,trivial⟩,HR.out,HBW.out⟩;have e:(pre++[m]).take 6=pre:=by rw[List.take_append_of_le_length (by rw[<-NP.out];exact Nat.le_refl _),List.take_of_length_le (by rw[<-NP.out];exact Nat.le_refl _)]
   rw[e];exact hrow
  ·have n6:¬(np:Int)=6:=o_
   have n6':((np:Int)==6)=false:=by simp;omega
   gi_wp2_with (gi_at_builtin;refine wpListIn_append_own _ rfl _ _ 23 rfl w.heap.size 3 i0 (iv 0) 1 8 underlying23 hi hz0 hz1 hz2 rfl dc_ _ _ _ rfl (hrow.alloc _) ⟨W.heap.size,0,none⟩ 1 1 [iv m] rfl rfl (cell_one_new _ _ _) (by simp[Value.oneCell']) (by unfold maxLen;omega) o_ (by simp;omega) ?_;intro v' w1 hown' hgrow _;obtain⟨g',cap',rfl,_,_⟩:=World.ownsRow.form hown' (Nat.succ_pos _);obtain⟨hv1,hv2,hr2,hk2,hb2⟩:=hv.appended dc_ hrow lS o_ hown' hgrow;have hR1:=(HR.out.alloc _).kept hgrow dR;have hc1:=hv1.cell;have hf1:=hv1.frozen)
   refine⟨hk2.from _,hb2,⟨_,hv2,?_,trivial⟩,hR1.other o_ _,HBW.out.trans hb2,by simp;rw[<-NP.out];omega⟩;rw[List.length_append, <-NP.out,xD];exact hr2
 case done=>
  rintro D xs W hD rfl ⟨⟨v,hv,hrow,_⟩,hR,hB,hp6⟩ hK;have hf:=(show aZ W w.heap.size v (kI zs ys)from hrow).form;obtain⟨xv,cv,rfl⟩:=hf;obtain⟨np,hnp⟩:=nm_ ((kI zs ys).length);rw[<-hnp]at hv hrow hp6;have hc:=hv.cell;have hRc:=hR.cell;have hRf:=hR.frozen;have NP:=hd_ hnp;have HB:=hd_ hB;have lw3:=lw.out;clear hB hnp
  gi_wp2
  have hK2:=(KeepsOthers.setCell W ⟨w.heap.size+1+1,0,none⟩ (.slice xv np cv)).same D _ hK rfl;refine⟨by simp,.inl ⟨_,_,rfl,run_takeDeferred hK2,?_⟩⟩;have b4:=((hR.set (.slice xv np cv)).kept (grownBy_putObj' _ D (.deferred none)) (by simp;omega))
  have hr:=b4.cell;have o2:=(hrow.kept (grownBy_setCell' W (w.heap.size+1+1) (.slice xv np cv)) (.inr (hR.not_row dc_ hrow).symm))
  have o3:=ownsRow_putObj o2 (.deferred none) hK2 rfl;have hb4:Below w.heap.size W (W.setCell ⟨w.heap.size+1+1,0,none⟩ (.slice xv np cv)):=(Below.refl _ _).setCell (by simp;omega) _;refine⟨.tuple #[.agg #[.slice xv np cv],.bool true],by simp[results,results196,go_sem,hr],_,rfl,?_,(HB.out.trans hb4).trans (belowK_b (w:=w) lr_ _ D _ _ o_ hK2 rfl rfl)⟩;unfold aZ
  have e:(kI zs ys).take 6=kI zs ys:=List.take_of_length_le (by rw[<-NP.out];exact hp6);rw[e, <-NP.out];exact o3
 case stop=>
  rintro D cj pre W hD hpf ⟨⟨rfl,h7⟩,⟨v,hv,hrow,_⟩,hR,hB⟩ hK;have l6:(pre.take 6).length=6:=by simp;omega
  have hf:=(show aZ W w.heap.size v (pre.take 6)from by unfold aZ;rw[l6];exact hrow).form;rw[l6]at hf;obtain⟨xv,cv,rfl⟩:=hf;obtain⟨np,hnp⟩:∃np,np=6:=⟨_,rfl⟩
  rw[<-hnp]at hv hrow;have hc:=hv.cell;have hRc:=hR.cell;have hRf:=hR.frozen;have NP:=hd_ hnp;have HB:=hd_ hB;have lw3:=lw.out;have PF:=hd_ hpf;clear hB hnp hpf
  gi_wp2
  have hK2:=(KeepsOthers.setCell W ⟨w.heap.size+1+1,0,none⟩ (.slice xv np cv)).same D _ hK rfl;refine⟨by simp,.inl ⟨_,_,rfl,run_takeDeferred hK2,?_⟩⟩;have b4:=((hR.set (.slice xv np cv)).kept (grownBy_putObj' _ D (.deferred none)) (by simp;omega))
  have hr:=b4.cell;have o2:=(hrow.kept (grownBy_setCell' W (w.heap.size+1+1) (.slice xv np cv)) (.inr (hR.not_row dc_ hrow).symm))
  have o3:=ownsRow_putObj o2 (.deferred none) hK2 rfl;have hb4:Below w.heap.size W (W.setCell ⟨w.heap.size+1+1,0,none⟩ (.slice xv np cv)):=(Below.refl _ _).setCell (by simp;omega) _;refine⟨.tuple #[.agg #[.slice xv np cv],.bool true],by simp[results,results196,go_sem,hr],_,rfl,?_,(HB.out.trans hb4).trans (belowK_b (w:=w) lr_ _ D _ _ o_ hK2 rfl rfl)⟩
  have e:(kI zs ys).take 6=pre.take 6:=by
   obtain⟨r,hr'⟩:=PF.out;rw[<-hr',List.take_append_of_le_length o_]
  unfold aZ;rw[e,l6, <-NP.out];exact o3
end Go.Proofs.YtcblbdpdbggkbaaGreat
namespace Go.Proofs.YtcblbdpdbggkbaaGreat
open _root_.Go.Proofs.Tryz
open Go.RowKit
abbrev Asc (zs:List Int):Prop:=zs.Pairwise (· <·)
theorem vN:∀{X Y:List Int},Asc X->Asc Y->(∀z,z ∈ X↔z ∈ Y)->X=Y
 | [],[],_,_,_=>rfl
 | [],y::Y,_,_,h=>by have:=(h y).2 (by simp);simp at this
 |x::X,[],_,_,h=>by have:=(h x).1 (by simp);simp at this
 |x::X,y::Y,hx,hy,h=>by
  obtain⟨x1,x2⟩:=List.pairwise_cons.1 hx;obtain⟨y1,y2⟩:=List.pairwise_cons.1 hy;have e:x=y:=by
   have h1:=(h x).1 (by simp);have h2:=(h y).2 (by simp);simp only[List.mem_cons]at h1 h2;rcases h1 with h1|h1
   ·exact h1
   ·rcases h2 with h2|h2
    ·exact h2.symm
    ·have:=y1 x h1;have:=x1 y h2;omega
  subst e
  congr 1
  refine vN x2 y2 fun z=>?_
  have hz:=h z;simp only[List.mem_cons]at hz
  constructor
  ·intro q
   have:=x1 z q;rcases hz.1 (.inr q)with e|e
   ·omega
   ·exact e
  ·intro q
   have:=y1 z q;rcases hz.2 (.inr q)with e|e
   ·omega
   ·exact e
def ins (m:Int):List Int->List Int
 | []=>[m]
 |x::xs=>if m<x then m::x::xs else if m=x then x::xs else x::ins m xs
theorem aDz (m:Int):∀(zs:List Int) (z:Int),z ∈ ins m zs↔z=m\/z ∈ zs
 | [],z=>by simp[ins]
 |x::xs,z=>by
  unfold ins
  by_cases h1:m<x
  ·rw[if_pos h1];simp
  ·rw[if_neg h1]
   by_cases h2:m=x
   ·rw[if_pos h2];subst h2;simp
   ·rw[if_neg h2]
    simp only[List.mem_cons,aDz m xs z]
    constructor
    ·rintro (h|h|h)
     ·exact .inr (.inl h)
     ·exact .inl h
     ·exact .inr (.inr h)
    ·rintro (h|h|h)
     ·exact .inr (.inl h)
     ·exact .inl h
     ·exact .inr (.inr h)
theorem aDn (m:Int):∀{zs:List Int},Asc zs->Asc (ins m zs)
 | [],_=>by simp[ins]
 |x::xs,h=>by
  obtain⟨h1,h2⟩:=List.pairwise_cons.1 h;unfold ins
  by_cases q1:m<x
  ·rw[if_pos q1]
   refine List.pairwise_cons.2 ⟨fun z hz=>?_,h⟩;simp only[List.mem_cons]at hz;rcases hz with rfl|hz
   ·exact q1
   ·have:=h1 z hz;omega
  ·rw[if_neg q1]
   by_cases q2:m=x
   ·rw[if_pos q2];exact h
   ·rw[if_neg q2]
    refine List.pairwise_cons.2 ⟨fun z hz=>?_,aDn m h2⟩;rcases (aDz m xs z).1 hz with rfl|hz
    ·omega
    ·exact h1 z hz
theorem aET (m:Int):∀(zs:List Int) (k:Nat),(ins m (zs.take k)).take k=(ins m zs).take k
 |_,0=>by simp
 | [],k+1=>by simp
 |x::xs,k+1=>by
  rw[List.take_succ_cons];unfold ins
  by_cases q1:m<x
  ·rw[if_pos q1,if_pos q1,List.take_succ_cons,List.take_succ_cons]
   congr 1
   cases k with
   |zero=>simp
   |succ k=>rw[List.take_succ_cons,List.take_succ_cons,List.take_take];congr 2;omega
  ·rw[if_neg q1,if_neg q1]
   by_cases q2:m=x
   ·rw[if_pos q2,if_pos q2,List.take_succ_cons,List.take_succ_cons,List.take_take];congr 2;omega
   ·rw[if_neg q2,if_neg q2,List.take_succ_cons,List.take_succ_cons,aET m xs k]
theorem xG (m:Int):∀{zs:List Int},(∀z ∈ zs,m<z)->oP m zs true=zs
 | [],_=>rfl
 |x::xs,h=>by
  have h1:=h x (by simp);rw[aMh _ (.inl rfl) (by omega),xG m (fun z hz=>h z (by simp[hz]))]
  rfl
theorem aAa (m:Int):∀{zs:List Int},Asc zs->oP m zs false=ins m zs
 | [],_=>rfl
 |x::xs,h=>by
  obtain⟨h1,h2⟩:=List.pairwise_cons.1 h;unfold ins
  by_cases q1:m<x
  ·rw[if_pos q1,aM1 _ (by omega) (by omega),xG m (fun z hz=>by have:=h1 z hz;omega)];rfl
  ·rw[if_neg q1]
   by_cases q2:m=x
   ·subst q2
    rw[if_pos rfl,aNm,xG m h1];rfl
   ·rw[if_neg q2,aMh _ (.inr (by omega)) (by omega),aAa m h2];rfl
def dG (zs ys:List Int):List Int:=ys.foldl (fun acc m=>ins m acc) zs
theorem fK:∀(ys zs:List Int) (z:Int),z ∈ dG zs ys↔z ∈ zs\/z ∈ ys
 | [],zs,z=>by simp[dG]
 |y::ys,zs,z=>by
  show z ∈ dG (ins y zs) ys↔_
  rw[fK ys,aDz];simp only[List.mem_cons]
  constructor
  ·rintro ((h|h)|h)
   ·exact .inr (.inl h)
   ·exact .inl h
   ·exact .inr (.inr h)
  ·rintro (h|h|h)
   ·exact .inl (.inr h)
   ·exact .inl (.inl h)
   ·exact .inr h
theorem iC:∀(ys:List Int) {zs:List Int},Asc zs->Asc (dG zs ys)
 | [],_,h=>h
 |y::ys,_,h=>iC ys (aDn y h)
theorem lK (k:Nat):∀(ys zs:List Int),(dG (zs.take k) ys).take k=(dG zs ys).take k
 | [],zs=>by show (zs.take k).take k=zs.take k;rw[List.take_take];congr 1;omega
 |y::ys,zs=>by
  show (dG (ins y (zs.take k)) ys).take k=(dG (ins y zs) ys).take k
  rw[<-lK k ys (ins y (zs.take k)), <-lK k ys (ins y zs),aET]
def dW (zs ys:List Int):List Int:=(dG zs ys).take 6
theorem qQ {zs ys:List Int} (hz:Asc zs) (hy:Asc ys):dG zs ys=dG ys zs:=
 vN (iC _ hz) (iC _ hy) fun z=>by rw[fK,fK];exact Or.comm
theorem aGA {zs ys:List Int} (hz:Asc zs) (hy:Asc ys):dW zs ys=dW ys zs:=by unfold dW;rw[qQ hz hy]
theorem aBT {zs ys:List Int} (hz:Asc zs):Asc (dW zs ys):=(iC ys hz).take
theorem aEV {zs ys xs:List Int} (hz:Asc zs) (hy:Asc ys):dG (dG zs ys) xs=dG zs (dG ys xs):=
 vN (iC _ (iC _ hz)) (iC _ hz) fun z=>by rw[fK,fK,fK,fK];exact or_assoc
theorem yJ {zs ys xs:List Int} (hz:Asc zs) (hy:Asc ys) (hx:Asc xs):dW (dW zs ys) xs=dW zs (dW ys xs):=by
 have e1:dW (dW zs ys) xs=(dG (dG zs ys) xs).take 6:=lK 6 xs (dG zs ys);have e2:dW zs (dW ys xs)=(dG (dG ys xs) zs).take 6:=by
  rw[aGA hz (aBT hy)];exact lK 6 zs (dG ys xs)
 rw[e1,e2,aEV hz hy,qQ hz (iC _ hy)]
theorem aFX {zs ys:List Int} (hz:Asc zs) (hy:Asc ys):dW (dW zs ys) ys=dW zs ys:=by
 rw[yJ hz hy hy];unfold dW;have e:dG ys ys=ys:=vN (iC _ hy) hy fun z=>by rw[fK];exact or_self_iff
 rw[e];rw[qQ hz (List.Pairwise.take hy),lK,qQ hz hy]
theorem xY {u m:Int} (us:List Int) (h:u=m):aW (u::us) m=us:=by
 unfold aW;rw[if_pos (show aT (u::us)=m from h)]
 rfl
theorem aBa {u m:Int} (us:List Int) (h:¬u=m):aW (u::us) m=u::us:=if_neg h
theorem xN:∀(k:Nat) (zs ys:List Int),(∀z ∈ zs,z<64)->(∀z ∈ ys,z<64)->zs.length+ys.length<=k->∀z,z ∈ oX k zs ys↔z ∈ zs\/z ∈ ys
 | 0,zs,ys,_,_,hk,z=>by
  have h1:zs=[]:=List.eq_nil_of_length_eq_zero (by omega);have h2:ys=[]:=List.eq_nil_of_length_eq_zero (by omega);subst h1 h2;simp[oX]
 |k+1,zs,ys,hz,hy,hk,z=>by
  unfold oX
  by_cases hE:zs=[]/\ys=[]
  ·rw[if_pos hE,hE.1,hE.2];simp
  ·rw[if_neg hE]
   obtain⟨m64,hlt⟩:=wK hz hy hE;obtain⟨M,hM⟩:∃M,M=min (aT zs) (aT ys):=⟨_,rfl⟩
   rw[<-hM]at m64 hlt ⊢;rw[List.mem_cons,xN k _ _ (fun z h=>hz z (eY h)) (fun z h=>hy z (eY h)) (by omega)];have bm:∀us:List Int,(z ∈ us/\z≠M->z ∈ aW us M)/\(aT us=M->us≠[]->M ∈ us):=fun us=>by
    cases us with
    |nil=>exact⟨fun h=>by simp at h,fun _ h=>absurd rfl h⟩
    |cons u us=>
     refine⟨fun h=>?_,fun h _=>by rw[<-show u=M from h];simp⟩
     by_cases e:u=M
     ·rw[xY us e]
      subst e;simp only[List.mem_cons]at h;rcases h.1 with h1|h1
      ·exact absurd h1 h.2
      ·exact h1
     ·rw[aBa us e]
      exact h.1
   constructor
   ·rintro (rfl|h|h)
    ·by_cases h3:aT zs<=aT ys
     ·have e:aT zs=z:=by omega
      refine .inl ((bm zs).2 e fun q=>?_);rw[q]at e;rw[<-e]at m64;exact absurd m64 dc_
     ·have e:aT ys=z:=by omega
      refine .inr ((bm ys).2 e fun q=>?_);rw[q]at e;rw[<-e]at m64;exact absurd m64 dc_
    ·exact .inl (eY h)
    ·exact .inr (eY h)
   ·intro h
    by_cases e:z=M
    ·exact .inl e
    ·exact .inr (h.imp (fun q=>(bm zs).1 ⟨q,e⟩) (fun q=>(bm ys).1 ⟨q,e⟩))
theorem yE {zs:List Int} (h:Asc zs) (m:Int):Asc (aW zs m):=by unfold aW;split;exact h.tail;exact h
theorem aAi {zs:List Int} (h:Asc zs) {m:Int} (hm:m<=aT zs):∀z ∈ aW zs m,m<z:=fun z hz=>by
 cases zs with
 |nil=>have:=eY hz;cases this
 |cons x xs=>
  have h1:=(List.pairwise_cons.1 h).1;have hm':m<=x:=hm
  by_cases e:x=m
  ·rw[xY xs e]at hz
   have:=h1 z hz;omega
  ·rw[aBa xs e]at hz
   simp only[List.mem_cons]at hz;rcases hz with rfl|hz
   ·omega
   ·have:=h1 z hz;omega
theorem aBV:∀(k:Nat) (zs ys:List Int),Asc zs->Asc ys->(∀z ∈ zs,z<64)->(∀z ∈ ys,z<64)->zs.length+ys.length<=k->Asc (oX k zs ys)
 | 0,_,_,_,_,_,_,_=>by simp[oX]
 |k+1,zs,ys,az,ay,hz,hy,hk=>by
  unfold oX
  by_cases hE:zs=[]/\ys=[]
  ·rw[if_pos hE];exact List.Pairwise.nil
  ·rw[if_neg hE]
   obtain⟨m64,hlt⟩:=wK hz hy hE;obtain⟨M,hM⟩:∃M,M=min (aT zs) (aT ys):=⟨_,rfl⟩
   rw[<-hM]at m64 hlt ⊢;refine List.pairwise_cons.2 ⟨fun z hz'=>?_,aBV k _ _ (yE az M) (yE ay M) (fun z h=>hz z (eY h)) (fun z h=>hy z (eY h)) (by omega)⟩;rcases (xN k _ _ (fun z h=>hz z (eY h)) (fun z h=>hy z (eY h)) (by omega) z).1 hz' with h|h
   ·exact aAi az (by omega) z h
   ·exact aAi ay (by omega) z h
theorem aIE {zs ys:List Int} (az:Asc zs) (ay:Asc ys) (hz:∀z ∈ zs,z<64) (hy:∀z ∈ ys,z<64):(kI zs ys).take 6=dW zs ys:=by
 have:kI zs ys=dG zs ys:=vN (aBV _ _ _ az ay hz hy lr_) (iC _ az) fun z=>by
  rw[fK];exact xN _ _ _ hz hy lr_ z
 rw[this];rfl
theorem aMg {zs:List Int} (h:eE zs=true):∀j i,i<j->j<zs.length->zs.getD i 0<zs.getD j 0:=by
 have hp:=(fS h).2.2;intro j
 induction j with
 |zero=>intro i hi;omega
 |succ j ih=>
  intro i hi hj;have h1:=hp j hj
  by_cases e:i=j
  ·subst e;exact h1
  ·have:=ih i (by omega) (by omega);omega
theorem kS {zs:List Int} (h:eE zs=true):Asc zs:=by
 rw[Asc,List.pairwise_iff_getElem];intro i j hi hj hij;have:=aMg h j i hij hj;simpa[hi,hj]using this
theorem aCO {zs:List Int} (h:eE zs=true):∀z ∈ zs,0<=z/\z<64:=fun z hz=>by
 obtain⟨i,hi,rfl⟩:=aLT.1 hz;have:=(fS h).2.1 i hi;omega
theorem aJl {zs:List Int} (ha:Asc zs) (hb:∀z ∈ zs,0<=z/\z<64) (hl:zs.length<=6):eE zs=true:=by
 refine wQ hl fun i hi=>⟨?_,fun h0=>?_⟩
 ·have:=hb _ (lW zs i 0 hi);omega
 ·have:=(List.pairwise_iff_getElem.1 ha) (i - 1) i (by omega) hi (by omega)
  simpa[hi,show i - 1<zs.length by omega]using this
theorem aI0 {zs ys:List Int} (hz:eE zs=true) (hy:eE ys=true):eE (dW zs ys)=true:=by
 refine aJl (aBT (kS hz)) (fun z h=>?_) (by simp[dW];omega);rcases (fK ys zs z).1 (List.mem_of_mem_take h)with h|h
 ·exact aCO hz z h
 ·exact aCO hy z h
theorem uN {zs:List Int} (hz:Asc zs) (m:Int):gT zs m=dW zs [m]:=by
 unfold gT dW;rw[aAa m hz];rfl
end Go.Proofs.YtcblbdpdbggkbaaGreat
namespace Go.Proofs.YtcblbdpdbggkbaaGreat
open _root_.Go.Proofs.Tryz
open Go.RowKit Go.Sort
def aU (zs ys:List Int):Bool:=eE zs&&eE ys
def fH (zs ys:List Int):List Int:=if aU zs ys=true then dW zs ys else []
theorem iE {zs ys:List Int} (h:aU zs ys=true):fH zs ys=dW zs ys:=if_pos h
theorem vP {zs ys:List Int} (h:aU zs ys=false):fH zs ys=[]:=if_neg (by rw[h];simp)
theorem oZ (zs ys:List Int):eE (fH zs ys)=true:=by
 cases h:aU zs ys with
 |true=>
  rw[iE h];unfold aU at h;simp only[Bool.and_eq_true]at h;exact aI0 h.1 h.2
 |false=>rw[vP h];decide
theorem dO {w w':World} {a:Addr} (hb:Below w.heap.size w w') (h:w.frozen? a=false) (hl:a.block<w.heap.size):w'.frozen? a=false:=by rw[hb.frozen hl];exact h
theorem aC7 (w:World) (u v:Value) (zs ys:List Int) (ha:cW w u zs) (hb:cW w v ys) (hno:aU zs ys=false):
  Calls prog 196 #[.agg #[u],.agg #[v]] w fun e w'=>e=.returned (.tuple #[.agg #[zn],.bool false])/\Below w.heap.size w w':=by
 have hA:=(((Below.refl w.heap.size w).alloc lr_ (.cells #[u] 38)).alloc (by simp) (.cells #[v] 38)).alloc (by simp;omega) (.cells #[zn] 38);have KA:=hd_ (nL _ u zs (ha.below hA lr_));have JB:=hd_ (hb.below hA lr_);have HA:=hd_ hA;obtain⟨⟨x,c,hx⟩,_⟩:=ha.cases;obtain⟨⟨y,d,hy⟩,_⟩:=hb.cases;obtain⟨na,hna⟩:=nm_ zs.length;obtain⟨nb,hnb⟩:=nm_ ys.length;rw[<-hna]at hx;rw[<-hnb]at hy;subst hx hy
 obtain⟨w0,hw0⟩:=nm_ (((w.alloc (.cells #[.slice x na c] 38)).alloc (.cells #[.slice y nb d] 38)).alloc (.cells #[zn] 38));have c1:w0.cell? ⟨w.heap.size+1,0,none⟩=some (.slice y nb d):=by rw[hw0,World.cell?_alloc_past (hn:=by simp),World.cell?_alloc_at (hn:=by simp)];simp
 have c2:w0.cell? ⟨w.heap.size+1+1,0,none⟩=some (.slice none 0 0):=by rw[hw0,World.cell?_alloc_at (hn:=by simp)];simp
 have f2:w0.frozen? ⟨w.heap.size+1+1,0,none⟩=false:=by rw[hw0];exact World.frozen?_alloc_at _ _ _ _ (by simp)
 rw[<-hw0]at KA JB HA;have HW:=hd_ hw0;clear ha hb hA hna hnb hw0;cases hok:eE zs with
 |false=>
  rw[hok]at KA;clear hok hno;go_enter func196,ntmps196
  go_wp2_with fail
  rw[<-HW.out];refine KA.out.mono ?_;rintro e w1 ⟨rfl,hb1⟩;have c21:=cell_later hb1 c2;have f21:w1.frozen? ⟨w.heap.size+1+1,0,none⟩=false:=dO hb1 f2 (World.block_lt_of_cell? _ _ c2);have L1:=hd_ (HA.out.trans (hb1.mono HA.out.size));clear hb1;go_wp2;have hr:=World.cell?_setCell_same w1 ⟨w.heap.size+1+1,0,none⟩ zn c21
  exact bodyPost_ret (v:=.tuple #[.agg #[zn],.bool false]) (by simp[results,results196,go_sem,hr]) rfl ⟨rfl,L1.out.setCell (by simp;omega) _⟩
 |true=>
  rw[hok]at KA;have okb:eE ys=false:=by unfold aU at hno;rw[hok]at hno;simpa using hno
  clear hok hno;go_enter func196,ntmps196
  go_wp2_with fail
  rw[<-HW.out];refine KA.out.mono ?_;rintro e w1 ⟨rfl,hb1⟩;have c11:=cell_later hb1 c1;have c21:=cell_later hb1 c2;have f21:w1.frozen? ⟨w.heap.size+1+1,0,none⟩=false:=dO hb1 f2 (World.block_lt_of_cell? _ _ c2);have KB:=hd_ (nL w1 _ ys (JB.out.below hb1 lr_));rw[okb]at KB;have L1:=hd_ (HA.out.trans (hb1.mono HA.out.size));clear hb1
  go_wp2_with fail
  refine KB.out.mono ?_;rintro e w2 ⟨rfl,hb2⟩;have c22:=cell_later hb2 c21;have f22:w2.frozen? ⟨w.heap.size+1+1,0,none⟩=false:=dO hb2 f21 (World.block_lt_of_cell? _ _ c21);have L2:=hd_ (L1.out.trans (hb2.mono L1.out.size));clear hb2;go_wp2;have hr:=World.cell?_setCell_same w2 ⟨w.heap.size+1+1,0,none⟩ zn c22
  exact bodyPost_ret (v:=.tuple #[.agg #[zn],.bool false]) (by simp[results,results196,go_sem,hr]) rfl ⟨rfl,L2.out.setCell (by simp;omega) _⟩
theorem uT (w:World) (u v:Value) (zs ys:List Int) (ha:cW w u zs) (hb:cW w v ys):
  Calls prog 196 #[.agg #[u],.agg #[v]] w fun e w'=>∃v',e=.returned (.tuple #[.agg #[v'],.bool (aU zs ys)])/\aZ w' w.heap.size v' (fH zs ys)/\Below w.heap.size w w':=by
 cases hok:aU zs ys with
 |false=>
  rw[vP hok];exact (aC7 w u v zs ys ha hb hok).mono fun e w' ⟨he,hb⟩=>⟨_,he,aZ.nil _ _,hb⟩
 |true=>
  rw[iE hok];have h':=hok;unfold aU at h';simp only[Bool.and_eq_true]at h';rw[<-aIE (kS h'.1) (kS h'.2) (fun z h=>(aCO h'.1 z h).2) (fun z h=>(aCO h'.2 z h).2)];exact aBI w u v zs ys ha hb h'.1 h'.2
theorem aLS (t:Int):eE [fW t]=jL t:=by
 cases h:jL t with
 |true=>
  have ht:=(uS t).1 h;have:=aK9 ht.1 ht.2;exact aJl (by simp) (fun z hz=>by simp at hz;subst hz;exact this) (by simp)
 |false=>
  have ht:=(yL t).1 h;rw[aA0 ht]
  decide
theorem uV (zs:List Int) (t:Int):aU zs [fW t]=fF zs t:=by unfold aU fF;rw[aLS]
theorem pP (zs:List Int) (t:Int):fH zs [fW t]=kP zs t:=by
 cases h:fF zs t with
 |true=>
  rw[sF h,iE (by rw[uV];exact h)];unfold fF at h;simp only[Bool.and_eq_true]at h;exact (uN (kS h.1) _).symm
 |false=>rw[aDa h,vP (by rw[uV];exact h)]
theorem aE4 (w:World) (u:Value) (zs:List Int) (t:Int) (h:cW w u zs):
  Calls prog 232 #[.agg #[u],iv t] w fun e w'=>∃v,e=.returned (.tuple #[.agg #[v],.bool (fF zs t)])/\aZ w' w.heap.size v (kP zs t)/\Below w.heap.size w w':=by
 rw[<-uV, <-pP];have hA:=((Below.refl w.heap.size w).alloc lr_ (.cells #[u] 38)).alloc (by simp) (.cells #[zn] 38);have I:=h.below hA lr_;have KM:Hid (∀W,Calls prog 176 #[iv t] W fun e w'=>e=.returned (iv (fW t))/\W=w'):=fun W=>aIR t W
 obtain⟨⟨x,c,hx⟩,_⟩:=h.cases;obtain⟨n,hn⟩:=nm_ zs.length;rw[<-hn]at hx;subst hx;generalize fW t=M at *;obtain⟨w0,hw0⟩:=nm_ ((w.alloc (.cells #[.slice x n c] 38)).alloc (.cells #[zn] 38));have cb:w0.cell? ⟨w.heap.size,0,none⟩=some (.slice x n c):=by rw[hw0,World.cell?_alloc_past (hn:=by simp)];simp
 have cr:w0.cell? ⟨w.heap.size+1,0,none⟩=some (.slice none 0 0):=by rw[hw0,World.cell?_alloc_at (hn:=by simp)];simp
 have fr:w0.frozen? ⟨w.heap.size+1,0,none⟩=false:=by rw[hw0];exact World.frozen?_alloc_at _ _ _ _ (by simp)
 have S0:Hid (w0.heap.size=w.heap.size+2):=by show w0.heap.size=_;rw[hw0];simp
 rw[<-hw0]at hA I;have hA1:=(Below.refl w0.heap.size w0).drew.alloc lr_ (.cells #[iv M] 3);have i1:=I.below hA1 lr_;have i2:cW (w0.drew.alloc (.cells #[iv M] 3)) (.slice (some ⟨w0.heap.size,0,none⟩) 1 1) [M]:=by
  refine .inr ⟨w0.heap.size,0,1,rfl,Nat.le_refl _,by unfold maxLen;omega,by simp,fun i hi=>?_⟩;obtain rfl:i=0:=by simpa using hi
  rw[World.cell?_alloc_at (hn:=by simp)];simp
 have KJ:=hd_ (uT (w0.drew.alloc (.cells #[iv M] 3)) _ _ zs [M] i1 i2);have cr1:=cell_later hA1 cr;have fr1:(w0.drew.alloc (.cells #[iv M] 3)).frozen? ⟨w.heap.size+1,0,none⟩=false:=dO hA1 fr (World.block_lt_of_cell? _ _ cr);have cb1:=cell_later hA1 cb;have HA:=hd_ hA;have HA1:=hd_ hA1;have HW:=hd_ hw0;have l1:w.heap.size+1<w0.heap.size:=World.block_lt_of_cell? _ _ cr
 have l0:w.heap.size<w0.heap.size:=o_;clear h hn hA I hA1 i1 i2 hw0;go_enter func232,ntmps232
 go_wp2_with fail
 rw[<-HW.out];clear HW
 go_region_with (first
    |(go_at_call 176;refine (KM.out _).mono ?_;rintro e w' ⟨rfl,rfl⟩)
    |(go_at_call 196;refine KJ.out.mono ?_;rintro e w3 ⟨v3,rfl,ho3,hb3⟩;obtain⟨x3,c3,rfl⟩:=ho3.form;have cr3:=cell_later hb3 cr1;have fr3:w3.frozen? ⟨w.heap.size+1,0,none⟩=false:=dO hb3 fr1 (World.block_lt_of_cell? _ _ cr1)))
 all_goals
  have hs:=aA w3 ⟨w.heap.size+1,0,none⟩ (.slice x3 (fH zs [M]).length c3);have o3:=(ho3.kept hs (fun k e=>by simp at e;have:=S0.out;simp;omega)).base (B':=w.heap.size) (by have:=S0.out;simp;omega)
  have hb4:Below w.heap.size w (w3.setCell ⟨w.heap.size+1,0,none⟩ (.slice x3 (fH zs [M]).length c3)):=((HA.out.trans (HA1.out.mono HA.out.size)).trans (hb3.mono (by have:=S0.out;simp;omega))).setCell (by simp) _;have hr:=World.cell?_setCell_same w3 ⟨w.heap.size+1,0,none⟩ (.slice x3 (fH zs [M]).length c3) cr3;have O3:=hd_ o3;have HB4:=hd_ hb4;have HR:=hd_ hr;clear ho3 hb3 hs o3 hb4 hr
  generalize (fH zs [M]).length=n3 at *;go_wp2;have hr:=HR.out;exact bodyPost_ret (v:=.tuple #[.agg #[.slice x3 n3 c3],.bool (aU zs [M])]) (by simp[results,results232,go_sem,hr]) rfl ⟨_,rfl,O3.out,HB4.out⟩
theorem aFi:∀(ys zs:List Int),Asc zs->zs.length<=6->ys.foldl gT zs=dW zs ys
 | [],zs,_,hl=>by show zs=(dG zs []).take 6;rw[show dG zs []=zs from rfl,List.take_of_length_le hl]
 |y::ys,zs,h,hl=>by
  show ys.foldl gT (gT zs y)=(dG (ins y zs) ys).take 6
  have e:gT zs y=(ins y zs).take 6:=by unfold gT;rw[aAa y h]
  rw[e,aFi ys _ ((aDn y h).take) (by simp;omega)];exact lK 6 ys (ins y zs)
theorem aCh (zs ys:List Int) (k:Nat) (hk:k<ys.length):(ys.take (k+1)).foldl gT zs=gT ((ys.take k).foldl gT zs) (ys.getD k 0):=by
 rw[List.take_succ_eq_append_getElem hk,List.foldl_append];simp[hk]
theorem aA3 (zs:List Int) (hl:zs.length<=6):∀ys:List Int,(ys.foldl gT zs).length<=6
 | []=>hl
 |y::ys=>aA3 (gT zs y) (aKC _ _) ys
theorem aC2 (w:World) (u v:Value) (zs ys:List Int) (ha:cW w u zs) (hb:cW w v ys) (hno:aU zs ys=false):
  Calls prog 171 #[.agg #[u],.agg #[v]] w fun e w'=>e=.returned (.tuple #[.agg #[zn],.bool false])/\Below w.heap.size w w':=by
 have hA:=(((Below.refl w.heap.size w).alloc lr_ (.cells #[u] 38)).alloc (by simp) (.cells #[v] 38)).alloc (by simp;omega) (.cells #[zn] 38);have KA:=hd_ (jX _ u zs (ha.below hA lr_));have JB:=hd_ (hb.below hA lr_);have HA:=hd_ hA;obtain⟨⟨x,c,hx⟩,_⟩:=ha.cases;obtain⟨⟨y,d,hy⟩,_⟩:=hb.cases;obtain⟨na,hna⟩:=nm_ zs.length;obtain⟨nb,hnb⟩:=nm_ ys.length;rw[<-hna]at hx;rw[<-hnb]at hy;subst hx hy
 obtain⟨w0,hw0⟩:=nm_ (((w.alloc (.cells #[.slice x na c] 38)).alloc (.cells #[.slice y nb d] 38)).alloc (.cells #[zn] 38));have c1:w0.cell? ⟨w.heap.size+1,0,none⟩=some (.slice y nb d):=by rw[hw0,World.cell?_alloc_past (hn:=by simp),World.cell?_alloc_at (hn:=by simp)];simp
 have c2:w0.cell? ⟨w.heap.size+1+1,0,none⟩=some (.slice none 0 0):=by rw[hw0,World.cell?_alloc_at (hn:=by simp)];simp
 have f2:w0.frozen? ⟨w.heap.size+1+1,0,none⟩=false:=by rw[hw0];exact World.frozen?_alloc_at _ _ _ _ (by simp)
 rw[<-hw0]at KA JB HA;have HW:=hd_ hw0;clear ha hb hA hna hnb hw0;cases hok:eE zs with
 |false=>
  rw[hok]at KA;clear hok hno;go_enter func171,ntmps171
  go_wp2_with fail
  rw[<-HW.out];refine KA.out.mono ?_;rintro e w1 ⟨rfl,hb1⟩;have c21:=cell_later hb1 c2;have f21:w1.frozen? ⟨w.heap.size+1+1,0,none⟩=false:=dO hb1 f2 (World.block_lt_of_cell? _ _ c2);have L1:=hd_ (HA.out.trans (hb1.mono HA.out.size));clear hb1;go_wp2;have hr:=World.cell?_setCell_same w1 ⟨w.heap.size+1+1,0,none⟩ zn c21
  exact bodyPost_ret (v:=.tuple #[.agg #[zn],.bool false]) (by simp[results,results171,go_sem,hr]) rfl ⟨rfl,L1.out.setCell (by simp;omega) _⟩
 |true=>
  rw[hok]at KA;have okb:eE ys=false:=by unfold aU at hno;rw[hok]at hno;simpa using hno
  clear hok hno;go_enter func171,ntmps171
  go_wp2_with fail
  rw[<-HW.out];refine KA.out.mono ?_;rintro e w1 ⟨rfl,hb1⟩;have c11:=cell_later hb1 c1;have c21:=cell_later hb1 c2;have f21:w1.frozen? ⟨w.heap.size+1+1,0,none⟩=false:=dO hb1 f2 (World.block_lt_of_cell? _ _ c2);have KB:=hd_ (jX w1 _ ys (JB.out.below hb1 lr_));rw[okb]at KB;have L1:=hd_ (HA.out.trans (hb1.mono HA.out.size));clear hb1
  go_wp2_with fail
  refine KB.out.mono ?_;rintro e w2 ⟨rfl,hb2⟩;have c22:=cell_later hb2 c21;have f22:w2.frozen? ⟨w.heap.size+1+1,0,none⟩=false:=dO hb2 f21 (World.block_lt_of_cell? _ _ c21);have L2:=hd_ (L1.out.trans (hb2.mono L1.out.size));clear hb2;go_wp2;have hr:=World.cell?_setCell_same w2 ⟨w.heap.size+1+1,0,none⟩ zn c22
  exact bodyPost_ret (v:=.tuple #[.agg #[zn],.bool false]) (by simp[results,results171,go_sem,hr]) rfl ⟨rfl,L2.out.setCell (by simp;omega) _⟩
theorem aBk (w:World) (u v:Value) (zs ys:List Int) (ha:cW w u zs) (hb:cW w v ys) (oka:eE zs=true) (okb:eE ys=true):
  Calls prog 171 #[.agg #[u],.agg #[v]] w fun e w'=>∃v',e=.returned (.tuple #[.agg #[v'],.bool true])/\aZ w' w.heap.size v' (ys.foldl gT zs)/\Below w.heap.size w w':=by
 obtain⟨i0,hi,hz0,hz1,hz2⟩:=info_parts rP;have hA:=(((Below.refl w.heap.size w).alloc lr_ (.cells #[u] 38)).alloc (by simp) (.cells #[v] 38)).alloc (by simp;omega) (.cells #[zn] 38);have IA:=hd_ (ha.below hA lr_);have KA:=hd_ (jX _ u zs IA.out);have JB:=hd_ (hb.below hA lr_);rw[oka]at KA;have la:=(fS oka).1;have lb:=(fS okb).1;have HA:=hd_ hA
 obtain⟨⟨x,c,hx⟩,_⟩:=ha.cases;obtain⟨⟨y,d,hy⟩,_⟩:=hb.cases;obtain⟨na,hna⟩:=nm_ zs.length;obtain⟨nb,hnb⟩:=nm_ ys.length;rw[<-hna]at hx la;rw[<-hnb]at hy lb;have NA:=hd_ hna;have NB:=hd_ hnb;subst hx hy;obtain⟨w0,hw0⟩:=nm_ (((w.alloc (.cells #[.slice x na c] 38)).alloc (.cells #[.slice y nb d] 38)).alloc (.cells #[zn] 38))
 have c0:w0.cell? ⟨w.heap.size,0,none⟩=some (.slice x na c):=by rw[hw0,World.cell?_alloc_past (hn:=by simp;omega),World.cell?_alloc_past (hn:=by simp)];simp
 have c1:w0.cell? ⟨w.heap.size+1,0,none⟩=some (.slice y nb d):=by rw[hw0,World.cell?_alloc_past (hn:=by simp),World.cell?_alloc_at (hn:=by simp)];simp
 have c2:w0.cell? ⟨w.heap.size+1+1,0,none⟩=some (.slice none 0 0):=by rw[hw0,World.cell?_alloc_at (hn:=by simp)];simp
 have f2:w0.frozen? ⟨w.heap.size+1+1,0,none⟩=false:=by rw[hw0];exact World.frozen?_alloc_at _ _ _ _ (by simp)
 rw[<-hw0]at KA JB HA IA;have HW:=hd_ hw0;clear ha hb hA hna hnb hw0 oka;go_enter func171,ntmps171
 go_wp2_with fail
 rw[<-HW.out];refine KA.out.mono ?_;rintro e w1 ⟨rfl,hb1⟩;have c01:=cell_later hb1 c0;have c11:=cell_later hb1 c1;have c21:=cell_later hb1 c2;have f21:w1.frozen? ⟨w.heap.size+1+1,0,none⟩=false:=dO hb1 f2 (World.block_lt_of_cell? _ _ c2);have IA1:=hd_ (IA.out.below hb1 lr_);have IB1:=hd_ (JB.out.below hb1 lr_);have KB:=hd_ (jX w1 _ ys IB1.out);rw[okb]at KB
 have L1:=hd_ (HA.out.trans (hb1.mono HA.out.size));clear hb1 c0 c1 c2 f2 okb HW
 go_wp2_with fail
 refine KB.out.mono ?_;rintro e w2 ⟨rfl,hb2⟩;have c02:=cell_later hb2 c01;have c12:=cell_later hb2 c11;have c22:=cell_later hb2 c21;have f22:w2.frozen? ⟨w.heap.size+1+1,0,none⟩=false:=dO hb2 f21 (World.block_lt_of_cell? _ _ c21);have L2:=hd_ (L1.out.trans (hb2.mono L1.out.size));have hAE:=(Below.refl w2.heap.size w2).alloc lr_ (.cells #[] 3)
 have IA2:=hd_ ((IA1.out.below hb2 lr_).below hAE lr_);have IB2:=hd_ (IB1.out.below hb2 lr_);have OE:=hd_ (xL w2 w2.heap.size lr_);have HAE:=hd_ hAE;have l22:w.heap.size+1+1<w2.heap.size:=World.block_lt_of_cell? _ _ c22;have l0:w.heap.size<w2.heap.size:=o_;have d02:=cell_later hAE c02;have d12:=cell_later hAE c12;have d22:=cell_later hAE c22
 have g22:(w2.alloc (.cells #[] 3)).frozen? ⟨w.heap.size+1+1,0,none⟩=false:=dO hAE f22 l22;clear hb2 c01 c11 c21 f21 hAE;rcases IA2.out with ⟨e,ez⟩|⟨b,o,cc,e,_,_,hbb,hcc⟩
 ·obtain⟨rfl,rfl,rfl⟩:=Value.slice.inj e
  have hL3:Below w.heap.size w (w2.alloc (.cells #[] 3))/\w2.heap.size<=(w2.alloc (.cells #[] 3)).heap.size:=⟨L2.out.trans (HAE.out.mono L2.out.size),by simp⟩
  have hib3:=IB2.out.below HAE.out lr_;have ho3':aZ (w2.alloc (.cells #[] 3)) w2.heap.size (.slice (some ⟨w2.heap.size,0,none⟩) 0 0) zs:=by rw[ez];exact OE.out
  have e3:=And.intro trivial (And.intro d12 (And.intro d22 g22));have hl3:True:=trivial;go_wp2
  ·skip
   have L3:=hd_ hL3;have IB3:=hd_ hib3;have O3:=hd_ ho3';have HE3:=hd_ e3;have lz:=hl3;clear hL3 hib3 ho3' hl3;go_loopw [6,7] (fun p i wr=>∃(k:Nat) (os:List Int),k<=nb/\i=.int .i64 k/\os=(ys.take k).foldl gT zs/\aZ wr w2.heap.size p os/\Below (w2.alloc (.cells #[] 3)).heap.size (w2.alloc (.cells #[] 3)) wr) (fun _ i _=>nb - (intOf i).toNat)
   case atStart=>exact⟨0,zs,Nat.zero_le _,rfl,rfl,O3.out,Below.refl _ _⟩
   case round=>
    exact zg
 ·have ex:=(Value.slice.inj e).1
  have ec:=(Value.slice.inj e).2.2;rw[<-NA.out]at hcc;clear e;subst ex ec;have news:∀j u,(bG zs)[j]? =some u->(w2.alloc (.cells #[] 3)).cell? ((⟨b,o,none⟩:Addr).add j)=some u:=fun j u hj=>by
   have hlt:j<zs.length:=by
    have:=(List.getElem?_eq_some_iff.1 hj).1;rw[nS]at this;exact this
   have e:(⟨b,o,none⟩:Addr).add j=⟨b,o+j,none⟩:=by unfold Addr.add;split<;>simp_all
   rw[e,hcc j (by rw[NA.out];exact hlt), <-hj,iM _ _ hlt]
  have ones:∀u ∈ bG zs,u.oneCell'=true:=fun u hu=>by simp[bG]at hu;obtain⟨z,_,rfl⟩:=hu;rfl
  have NEWS:=hd_ news;have ONES:=hd_ ones;clear news ones hcc
  go_wp2_with (first|(at_builtin;refine wpList_append_own _ rfl _ _ 23 rfl w2.heap.size 3 i0 (iv 0) 1 8 underlying23 hi hz0 hz1 hz2 rfl dc_ (.slice (some ⟨w2.heap.size,0,none⟩) 0 0) 0 [] rfl OE.out ⟨b,o,none⟩ na c (bG zs) rfl (by rw[nS, <-NA.out];omega) NEWS.out ONES.out (by unfold maxLen;omega) o_ (by simp) ?_;intro v3 w3 ho3 hg3 _;have hf3:=(show aZ w3 w2.heap.size v3 zs from by have h:=ho3;rw[Nat.zero_add,List.nil_append,NA.out]at h;exact h);obtain⟨x3,c3,rfl⟩:=hf3.form))
  ·have hL3:Below w.heap.size w w3/\w2.heap.size<=w3.heap.size:=by
    have:=hg3.size;simp at this;exact⟨(L2.out.trans (HAE.out.mono L2.out.size)).grown hg3 (by have:=L2.out.size;simp;omega) (fun k e=>by simp[Value.ownBlock]at e;have:=L2.out.size;omega),o_⟩
   have hib3:cW w3 (.slice y nb d) ys:=(IB2.out.below HAE.out lr_) |> fun h=>by
    rcases IB2.out with ⟨e1,e2⟩|⟨b',o',c',e1,q1,q2,q3,q4⟩
    ·exact .inl ⟨e1,e2⟩
    ·exact .inr ⟨b',o',c',e1,q1,q2,o_,fun i hi=>hg3.cell (((HAE.out.cell (p:=⟨b',o'+i,none⟩) q3)).trans (q4 i hi)) (by simp[Value.ownBlock];omega)⟩
   have ho3':aZ w3 w2.heap.size (.slice x3 zs.length c3) zs:=hf3;have e3:True/\w3.cell? ⟨w.heap.size+1,0,none⟩=some (.slice y nb d)/\w3.cell? ⟨w.heap.size+1+1,0,none⟩=some (.slice none 0 0)/\w3.frozen? ⟨w.heap.size+1+1,0,none⟩=false:=
    ⟨trivial,hg3.cell d12 (by simp[Value.ownBlock];omega),hg3.cell d22 (by simp[Value.ownBlock];omega),(hg3.frozen_far ⟨w.heap.size+1+1,0,none⟩ (World.block_lt_of_cell? _ _ d22) (by simp[Value.ownBlock];omega)).trans g22⟩
   have hl3:True:=trivial;clear ho3 hg3 hf3;have L3:=hd_ hL3;have IB3:=hd_ hib3;have O3:=hd_ ho3';have HE3:=hd_ e3;have lz:=hl3;clear hL3 hib3 ho3' hl3;go_loopw [6,7] (fun p i wr=>∃(k:Nat) (os:List Int),k<=nb/\i=.int .i64 k/\os=(ys.take k).foldl gT zs/\aZ wr w2.heap.size p os/\Below w3.heap.size w3 wr) (fun _ i _=>nb - (intOf i).toNat)
   case atStart=>exact⟨0,zs,Nat.zero_le _,rfl,rfl,O3.out,Below.refl _ _⟩
   case round=>
    exact zg
theorem aDL (w:World) (u v:Value) (zs ys:List Int) (ha:cW w u zs) (hb:cW w v ys):
  Calls prog 171 #[.agg #[u],.agg #[v]] w fun e w'=>∃v',e=.returned (.tuple #[.agg #[v'],.bool (aU zs ys)])/\aZ w' w.heap.size v' (fH zs ys)/\Below w.heap.size w w':=by
 cases hok:aU zs ys with
 |false=>
  rw[vP hok];exact (aC2 w u v zs ys ha hb hok).mono fun e w' ⟨he,hb⟩=>⟨_,he,aZ.nil _ _,hb⟩
 |true=>
  rw[iE hok];have h':=hok;unfold aU at h';simp only[Bool.and_eq_true]at h';rw[<-aFi ys zs (kS h'.1) (fS h'.1).1];exact aBk w u v zs ys ha hb h'.1 h'.2
theorem aLP (m:Int) (zs:List Int):zs.length<=(ins m zs).length/\(ins m zs).length<=zs.length+1:=by
 induction zs with
 |nil=>simp[ins]
 |cons x xs ih=>
  unfold ins
  split
  ·simp
  ·split
   ·simp
   ·simp only[List.length_cons];omega
theorem aI5 {zs:List Int} {t:Int} (h:fF zs t=true):
  eE (kP zs t)=true/\fF (kP zs t) t=true/\kP (kP zs t) t=kP zs t/\zs.length<=(kP zs t).length/\(kP zs t).length<=zs.length+1:=by
 have h':=h;unfold fF at h';simp only[Bool.and_eq_true]at h';have az:=kS h'.1;have f1:eE (kP zs t)=true:=by rw[<-pP];exact oZ _ _
 have ok1:fF (kP zs t) t=true:=by unfold fF;rw[f1,h'.2];rfl
 have e0:kP zs t=dW zs [fW t]:=by rw[sF h,uN az]
 have e1:kP (kP zs t) t=kP zs t:=by
  rw[sF ok1,uN (kS f1),e0];exact aFX az (by simp)
 have l6:=(fS h'.1).1;have hl:=aLP (fW t) zs;have el:kP zs t=(ins (fW t) zs).take 6:=by rw[e0];rfl
 refine⟨f1,ok1,e1,?_,?_⟩<;>(rw[el,List.length_take];omega)
theorem aFW {zs ys xs:List Int} (h:aU zs ys=true):
  aU (fH zs ys) xs=(aU ys xs&&aU zs (fH ys xs))/\(aU (fH zs ys) xs=true->fH zs (fH ys xs)=fH (fH zs ys) xs):=by
 have h':=h;unfold aU at h';simp only[Bool.and_eq_true]at h';have f1:=oZ zs ys;have f2:=oZ ys xs;have e1:aU (fH zs ys) xs=eE xs:=by unfold aU;rw[f1];rfl
 have e2:aU ys xs=eE xs:=by unfold aU;rw[h'.2];rfl
 have e3:aU zs (fH ys xs)=true:=by unfold aU;rw[h'.1,f2];rfl
 refine⟨by rw[e1,e2,e3,Bool.and_true],fun hk=>?_⟩;have hx:eE xs=true:=by rw[<-e1];exact hk
 have h2:aU ys xs=true:=by rw[e2];exact hx
 rw[iE e3,iE hk,iE h,iE h2,yJ (kS h'.1) (kS h'.2) (kS hx)]
end Go.Proofs.YtcblbdpdbggkbaaGreat

namespace Go.Proofs.YtcblbdpdbggkbaaGreat
open _root_.Go.Proofs.Tryz
open Go.RowKit Go.Sort
theorem aZ.keep {w w':World} {B:Nat} {v:Value} {zs:List Int} {row:Option Nat} (h:aZ w B v zs) (hg:w.grownBy w' row) (hr:v.ownBlock≠row):aZ w' B v zs:=World.ownsRow.kept h hg (.inr hr)
theorem aZ.below {w w':World} {B:Nat} {v:Value} {zs:List Int} (h:aZ w B v zs) (hb:Below w.heap.size w w'):aZ w' B v zs:=h.kept (row:=Option.none) (cU hb) (fun _ e=>by cases e)
theorem aZ.lt {w:World} {B:Nat} {p:Value} {zs:List Int} (hp:aZ w B p zs):∀k,p.ownBlock=some k->k<w.heap.size:=fun k e=>(World.ownsRow.lt hp k e).2
theorem lY {W w':World} {b:Nat} {t:TypeId} {v:Value} (h:Go.Boxed W b t v) (hb:Below W.heap.size W w'):Go.Boxed w' b t v:=(hb.block _ h.lt).trans h
def dX (W:World) (B T:Nat) (v:Value) (rs:List (List Int)):Prop:=∃G C,dJ W B v rs G C/\(∀k,v.ownBlock=some k->k<T)/\(∀i,i<rs.length->G i<T)/\T<=W.heap.size
theorem dJ.bounds {W:World} {B:Nat} {v:Value} {rs:List (List Int)} {G C:Nat->Nat} (h:dJ W B v rs G C):dX W B W.heap.size v rs:=
 ⟨G,C,h,fun k e=>(World.ownsRow.lt h.hdr k e).2,fun i hi=>((h.row i hi).lt (G i) rfl).2,Nat.le_refl _⟩
theorem dX.top {W:World} {B T:Nat} {v:Value} {rs:List (List Int)} (h:dX W B T v rs):T<=W.heap.size:=by obtain⟨_,_,_,_,_,h⟩:=h;exact h
theorem dX.rd {W:World} {B T:Nat} {v:Value} {rs:List (List Int)} (h:dX W B T v rs):Rws W v rs:=by obtain⟨G,C,h,_⟩:=h;exact h.rws
theorem dX.below {W W':World} {B T:Nat} {v:Value} {rs:List (List Int)} (h:dX W B T v rs) (hb:Below W.heap.size W W'):dX W' B T v rs:=by
 obtain⟨G,C,h,h1,h2,h3⟩:=h;exact⟨G,C,h.below hb lr_,h1,h2,Nat.le_trans h3 hb.size⟩
theorem dX.alloc {W:World} {B T:Nat} {v:Value} {rs:List (List Int)} (h:dX W B T v rs) (o:Obj):dX (W.alloc o) B T v rs:=h.below ((Below.refl _ _).alloc lr_ o)
theorem dX.nil (W:World) (B T:Nat) (hT:T<=W.heap.size):dX W B T zn []:=
 ⟨fun _=>0,fun _=>0,⟨World.ownsRow_nil W B _ 1,fun i hi=>absurd hi (Nat.not_lt_zero i),fun i hi=>absurd hi (Nat.not_lt_zero i),fun i j hi=>absurd hi (Nat.not_lt_zero i)⟩,(fun k e=>by cases e),(fun i hi=>absurd hi (Nat.not_lt_zero i)),hT⟩
theorem aIt.own {w w':World} {ok:Bool} {rs:List (List Int)} {e:Ending} (h3:ok=true->rs.length=3) (h:aIt w ok rs e w'):
  ∃x c,e=.returned (.tuple #[.agg #[.slice x (aH0 ok rs).length c],.bool ok])/\dX w' w.heap.size w'.heap.size (.slice x (aH0 ok rs).length c) (aH0 ok rs)/\Below w.heap.size w w':=by
 obtain⟨x,m,c,he,hb,h0,h1⟩:=h;cases ok with
 |false=>obtain⟨rfl,rfl,rfl⟩:=h0 rfl;exact⟨none,0,he,dX.nil _ _ _ lr_,hb⟩
 |true=>
  obtain⟨rfl,G,C,ho⟩:=h1 rfl;have e3:(aH0 true rs).length=3:=h3 rfl;rw[e3];exact⟨x,c,he,ho.bounds,hb⟩
theorem dH {w w':World} {B:Nat} {e:TypeId} {size:Nat} {v:Value} {n:Nat} {xs:List Value} {S:Nat->Prop} (h:w.ownsRow B e size v n xs) (hk:dZ S w w') (hS:∀k,v.ownBlock=some k->¬S k):w'.ownsRow B e size v n xs:=by
 obtain⟨h1,h2⟩:=h;refine⟨h1,?_⟩;rcases h2 with h2|⟨g,cap,cur,hv,hg,hh,r⟩
 ·exact .inl h2
 ·refine .inr ⟨g,cap,cur,hv,hg,?_,r⟩
  rw[hk.block g (Array.getElem?_eq_some_iff.1 hh).1 (hS g (by rw[hv];rfl))];exact hh
theorem dX.keptB {w w':World} {B T:Nat} {v:Value} {rs:List (List Int)} {S:Nat->Prop} (h:dX w B T v rs) (hk:dZ S w w') (hS:∀k,B<=k->k<T->¬S k):dX w' B T v rs:=by
 obtain⟨G,C,h,h1,h2,h3⟩:=h;refine⟨G,C,⟨dH h.hdr hk fun k e=>hS k (World.ownsRow.lt h.hdr k e).1 (h1 k e),fun i hi=>dH (h.row i hi) hk fun k e=>?_,h.off,h.apart⟩,h1,h2,Nat.le_trans h3 hk.size⟩;have l:=(World.ownsRow.lt (h.row i hi) k e).1;have e':G i=k:=by simpa[nV,Value.ownBlock]using e
 exact hS k l (by rw[<-e'];exact h2 i hi)
def wD (rs:List (List Int)) (t n:Int):List (List Int):=aH0 (nZ rs t n) (tH rs t n)
def mQ (ra rb:List (List Int)):List (List Int):=aH0 (hO ra rb) (dP ra rb)
theorem aL7 (W:World) (u:Value) (rs:List (List Int)) (t n:Int) (h:Rws W u rs):Calls prog 310 #[.agg #[u],iv t,iv n] W fun e w'=>∃x c,e=.returned (.tuple #[.agg #[.slice x (wD rs t n).length c],.bool (nZ rs t n)])/\dX w' W.heap.size w'.heap.size (.slice x (wD rs t n).length c) (wD rs t n)/\Below W.heap.size W w':=
 (aHO W u rs t n h).mono fun _ _ he=>he.own (fun _=>rfl)
theorem aLJ (W:World) (u:Value) (rs:List (List Int)) (t n:Int) (h:Rws W u rs):Calls prog 231 #[.agg #[u],iv t,iv n] W fun e w'=>∃x c,e=.returned (.tuple #[.agg #[.slice x (wD rs t n).length c],.bool (nZ rs t n)])/\dX w' W.heap.size w'.heap.size (.slice x (wD rs t n).length c) (wD rs t n)/\Below W.heap.size W w':=
 (aIF W u rs t n h).mono fun _ _ he=>he.own (fun _=>rfl)
theorem aJ8 (W:World) (u v:Value) (ra rb:List (List Int)) (ha:Rws W u ra) (hb:Rws W v rb):Calls prog 170 #[.agg #[u],.agg #[v]] W fun e w'=>∃x c,e=.returned (.tuple #[.agg #[.slice x (mQ ra rb).length c],.bool (hO ra rb)])/\dX w' W.heap.size w'.heap.size (.slice x (mQ ra rb).length c) (mQ ra rb)/\Below W.heap.size W w':=
 (aGm W u v ra rb ha hb).mono fun _ _ he=>he.own (fun _=>rfl)
theorem aJI (W:World) (u v:Value) (ra rb:List (List Int)) (ha:Rws W u ra) (hb:Rws W v rb):Calls prog 195 #[.agg #[u],.agg #[v]] W fun e w'=>∃x c,e=.returned (.tuple #[.agg #[.slice x (mQ ra rb).length c],.bool (hO ra rb)])/\dX w' W.heap.size w'.heap.size (.slice x (mQ ra rb).length c) (mQ ra rb)/\Below W.heap.size W w':=
 (aGF W u v ra rb ha hb).mono fun _ _ he=>he.own (fun _=>rfl)
end Go.Proofs.YtcblbdpdbggkbaaGreat
