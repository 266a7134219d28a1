/-
  What the laws of Kn need of the texts before it, part 9.
-/
import Derived.ArgAppend
import Derived.BigQuiet
import Derived.Carry
import Derived.Deep.AppendLies
import Derived.Deep.Cut
import Derived.Deep.DeepCutAuto
import Derived.Deep.DrawnRows
import Derived.Deep.MidRow
import Derived.Deep.OwnRows
import Derived.Deep.QuietTactic
import Derived.Deep.RegionHeld3
import Derived.Deep.RegionLaw
import Derived.Deep.RegionLawGrows
import Derived.Deep.RegionWith
import Derived.Deep.WholeRow
import Derived.DeepKeys5
import Derived.Handy
import Derived.IntWalk
import Derived.KernelRfl
import Derived.Laws.AppendOwnNone
import Derived.Laws.EntriesVeiled
import Derived.Laws.ResultCell
import Derived.Lib.AppendZerosOnto
import Derived.Lib.Hide
import Derived.Lib.QuietBelow
import Derived.Lib.SliceRun
import Derived.Lib.Walk
import Derived.LoopIn
import Derived.LoopNIn
import Derived.Maps.AppendAt
import Derived.Maps.Keyed
import Derived.Maps.Own
import Derived.OneCell
import Derived.OpenShut
import Derived.OrdersHeld
import Derived.OwnWalkIn
import Derived.RangeFuncBound
import Derived.RangeFuncBox
import Derived.RangeFuncCalls
import Derived.RangeFuncLeaves
import Derived.RangeFuncNested
import Derived.RegionTactic
import Derived.Shelf.Abstract
import Derived.Shelf.RegionOpen
import Derived.Shelf.SlSortCmp.InsertionK
import Derived.StillTail
import Derived.TacticsInMore
import Derived.Test.YtcblbdpdbggkbaaGreatRows
import Derived.WalkKit
import Derived.WalkLawsBesides
import Derived.WalkSmall
import Derived.WalkSpells
import Derived.Test.YtcblbdpdbggkbaaGreatSKn8
set_option maxRecDepth 100000
set_option maxHeartbeats 16000000
set_option linter.unusedVariables false
set_option linter.unusedSectionVars false
set_option linter.unusedSimpArgs false
namespace Go.Proofs.YtcblbdpdbggkbaaGreat
theorem zu {P:Prop} (h:P:=by
 refine hK _ _ (.inr rfl) ?_;clear hK K'
 try simp only[Act.put,List.getElem_toArray,List.getElem_cons_succ,pg3,pg4,pg5,pg6]
 repeat ((first|(refine cQ r_ r_ ?_;apply Exists.intro;refine⟨fun w' hw'=>?_,?_⟩;(· ((try dsimp only at hw');go_simp;(try with_reducible rfl))))|(refine cP r_ r_ ?_));simp only[Act.put,List.getElem_toArray,List.getElem_cons_succ,pg3,pg4,pg5,pg6])
 refine aD ?_;go_wp2;go_ret;exact⟨by rw[F.out];rfl,by have:=H.out.below;rwa[HP.out]at this⟩):P:=h
theorem zv {P:Prop} (h:P:=by
 refine aB r_ (fun K hK=>?_);go_simp;refine hK _ _ (.inl rfl) ?_;clear hK K
 try simp only[Act.put,List.getElem_toArray,List.getElem_cons_succ,pg3,pg4,pg5,pg6]
 refine aD ?_;cases ok with
 |false=>
  have F:=hd_ (show eS n ⟨(i:Int),(j:Int),(q:Int),s⟩=false by rw[FB.out];rfl);go_wp2;go_ret;exact⟨by rw[F.out];rfl,by have:=H6.out.below;rwa[HP.out]at this⟩
 |true=>
  have F:=hd_ (show eS n ⟨(i:Int),(j:Int),(q:Int),s⟩=mO sm s by rw[FB.out];rfl);obtain⟨e0,e1,e2,e3,e4,e5,e6⟩:=N6.out.cells7;obtain⟨d0,d1,d2,d3,d4,d5,d6,d7,d8,d9⟩:=H6.out.cells10;have KS:=hd_ (aCf _ (V1:=U) (V2:=V) (s1:=sm) (s2:=s) R6.out (HE.out.below (by have:=H6.out.below;rwa[HP.out]at this) lr_));clear R6
  go_wp2_with fail
  refine KS.out.mono ?_;rintro r w7 ⟨rfl,hb⟩;have H7:=hd_ (H6.out.later hb);clear KS hb e0 e1 e2 e3 e4 e5 e6 d0 d1 d2 d3 d4 d5 d6 d7 d8 d9 N6 H6;go_wp2;go_ret;exact⟨by rw[F.out];rfl,by have:=H7.out.below;rwa[HP.out]at this⟩):P:=h
theorem zAg {P:Prop} (h:P:=by
 rw[he];refine aK ?_;rcases hs with q|⟨q1,q2⟩
 ·rw[decide_eq_false q,decide_eq_false (fun e=>q (by rw[e]))]
 ·rw[List.eq_nil_of_length_eq_zero q1,List.eq_nil_of_length_eq_zero q2];simp):P:=h
theorem zAj {P:Prop} (h:P:=by
 obtain⟨c0,c1,c2,c3,c4,c5,c6⟩:=H.out.p1.cells7;obtain⟨d0,d1,d2,d3,d4,d5,d6⟩:=H.out.cells7;go_wp2;go_ret;exact⟨by rw[SS.out];rfl,by have:=H.out.below;rwa[HP.out]at this⟩):P:=h
theorem zAs {P:Prop} (h:P:=by
 refine hK _ _ (.inr rfl) ?_;clear hK K'
 try simp only[Act.put,List.getElem_toArray,List.getElem_cons_succ,pg3,pg4,pg5,pg6]
 repeat ((first|(refine cQ r_ r_ ?_;apply Exists.intro;refine⟨fun w' hw'=>?_,?_⟩;(· ((try dsimp only at hw');go_simp;(try with_reducible rfl))))|(refine cP r_ r_ ?_));simp only[Act.put,List.getElem_toArray,List.getElem_cons_succ,pg3,pg4,pg5,pg6])
 refine aB r_ (fun K' hK=>?_);go_simp;exact zu):P:=h
theorem zAv {P:Prop} (h:P:=by
 rw[<-EW.out]
 repeat (first|refine tC_ ?_|refine tB_ ?_)
 refine aB r_ (fun K' hK=>?_);go_simp;refine KE.out.mono ?_;rintro r w3 ⟨rfl,hb⟩;have H3:=hd_ (H2.later hb);refine hK _ _ (.inr (C0.out.below hb)) ?_;clear hK K'
 try refine tP_ ?_
 clear hb KE C0
 repeat (first|refine tC_ ?_|refine tB_ ?_)
 refine aD ?_;go_wp2;go_roundw
 case rel=>exact⟨j+1,o_,gn_,NO2.out,H3.out⟩
 case measure=>simp[intOf];omega):P:=h
theorem zAw {P:Prop} (h:P:=by
 repeat (first|refine tA_ ?_|refine tB_ ?_)
 refine aD ?_;go_wp2;go_ret;exact⟨by rw[F.out];rfl,B2.out⟩):P:=h
theorem zAy {P:Prop} (h:P:=by
 rw[<-EW.out]
 repeat (first|refine tC_ ?_|refine tB_ ?_)
 refine aB r_ (fun K' hK=>?_);go_simp;refine KE.out.mono ?_;rintro r w3 ⟨rfl,hb⟩;have H3:=hd_ (H2.later hb);refine hK _ _ (.inr (C0.out.below hb)) ?_;clear hK K'
 try refine tP_ ?_
 clear hb KE C0
 repeat (first|refine tC_ ?_|refine tB_ ?_)
 refine aD ?_;go_wp2;go_ret;exact⟨by rw[F.out];rfl,by have:=H3.out.below;rwa[HP.out]at this⟩):P:=h
theorem zAB {P:Prop} (h:P:=by
 go_wp2;go_ret;refine⟨?_,B1.out.trans (HB2.out.mono B1.out.size)⟩;have u:=HU.out;have q:=HOK.out;unfold okS;rw[<-q];simp):P:=h
theorem zAD {P:Prop} (h:P:=by
 have g0:(x.node==i)=false:=by simpa using eq
 have NO2:Hid (∀(a:Nat) (y:En),a<j+1->es[a]? =some y->y.node≠i):=hd_ fun a y ha hy=>by
  by_cases q:a<j
  ·exact NO.out a y q hy
  ·obtain rfl:a=j:=o_
   rw[hx]at hy;cases hy;exact eq
 clear eq NO hx;go_wp2;go_roundw
 case rel=>exact⟨j+1,o_,gn_,NO2.out,by first|rfl|trivial⟩
 case measure=>simp[intOf];omega):P:=h
theorem zAF {P:Prop} (h:P:=by
 have F:=hd_ (show decide (ps=qs)=false from decide_eq_false fun e=>eq (EQ.out.1 (by rw[e])))
 by_cases ex:x1=x2
 ·have ey:(y1==y2)=false:=by
   have:¬y1=y2:=fun e=>eq ⟨ex,e⟩
   simpa using this
  have ey':(y1 != y2)=true:=by simpa using ey
  subst ex;clear eq EQ
  exact zAw
 ·have ex':(x1==x2)=false:=by simpa using ex
  clear eq EQ ex
  exact zAw):P:=h
theorem zAG {P:Prop} (h:P:=by
 have g:decide (k<ps.length)=false:=by simpa using hlt
 clear HE;go_wp2;go_ret;exact⟨by rw[F.out];rfl,HB.out⟩):P:=h
theorem zAJ {P:Prop} (h:P:=by
 repeat (first|refine tA_ ?_|refine tB_ ?_)
 refine aD ?_;go_wp2;go_roundw
 case rel=>exact⟨k+1,o_,gn_,HE2.out,B2.out⟩
 case measure=>simp[intOf];omega):P:=h
theorem zAN {P:Prop} (h:P:=by
 go_wp2;refine wp_loop_rounds 1 ?_;rw[rounds_succ];go_wp2;go_ret;exact⟨by simp,Below.refl _ _⟩):P:=h
theorem zBb {P:Prop} (h:P:=by
 refine aC 99 (.tk 0 25 .done) (fun w'=>w'=W) kr_ kr_ (fun _ _ _ _ _ h=>h) EW.out.symm ?_;rw[<-EW.out]
 repeat (first|refine tA_ ?_|refine tB_ ?_)
 refine aD ?_;exact zAe):P:=h
theorem zBe {P:Prop} (h:P:=by
 go_wp2;go_ret;exact⟨by rw[SS.out];rfl,by have:=H.out.below;rwa[HP.out]at this⟩):P:=h
theorem zBh {P:Prop} (h:P:=by
 go_wp2;go_ret;exact⟨by simpa using h,Below.refl _ _⟩):P:=h
theorem zBj {P:Prop} (h:P:=by
 have IN3:=hd_ (IN2.out rfl);clear HV IN2;go_wp2;go_roundw
 case rel=>exact⟨q+1,o_,gn_,IN3.out,by first|rfl|trivial⟩
 case measure=>simp[intOf];omega):P:=h
theorem zBI {P:Prop} (h:P:=by
 have F:Hid (decide (ps=qs)=true):=hd_ (decide_eq_true (tW HL.out (fun i hi=>HE.out i o_)))
 exact zAG):P:=h
theorem zBJ {P:Prop} (h:P:=by
 go_roundw
 case rel=>exact⟨j+1,o_,gn_,NO2.out,by first|rfl|trivial⟩
 case measure=>simp[intOf];omega):P:=h
theorem zBO {P:Prop} (h:P:=by
 by_cases e:a<j
 ·exact NO.out a x e hx
 ·obtain rfl:a=j:=o_
  rw[HLB.out]at hx;cases hx;exact RO.out):P:=h
end Go.Proofs.YtcblbdpdbggkbaaGreat
namespace Go.Proofs.YtcblbdpdbggkbaaGreat
open _root_.Go.Proofs.Tryz
open Go.RowKit Go.Sort
namespace N
theorem aJi {w:World} {x:Option Addr} {n c:Nat} {zs:List Int} (h:dE w (.slice x n c) zs) {k:Nat} (hk:k<=n):dE w (.slice x k c) (zs.take k):=by
 have hn:=h.len;rcases h with ⟨e,rfl⟩|⟨b,o,cap,e,h1,h2,h3,h4⟩
 ·simp at e
  obtain rfl:k=0:=by omega
  exact .inl ⟨by simp[e],by simp⟩
 ·simp at e
  obtain⟨rfl, -,rfl⟩:=e;have hl:(zs.take k).length=k:=by rw[List.length_take];omega
  exact .inr ⟨b,o,c,by rw[hl],by omega,h2,h3,fun i hi=>by
      have hi':i<k:=by omega
      rw[h4 i (by omega),List.getD_eq_getElem?_getD,List.getD_eq_getElem?_getD,List.getElem?_take_of_lt hi']⟩
theorem aCU {V1 V2:SV} {s:Sm} (h:([.slice V1.xr V1.nr V1.cr,.slice V1.xf V1.nf V1.cf,.slice V1.xt V1.nt V1.ct,.int .i64 s.lo,.int .i64 s.al,.slice V1.xk V1.nk V1.ck,.int .i64 s.ka]:List Value)=[.slice V2.xr V2.nr V2.cr,.slice V2.xf V2.nf V2.cf,.slice V2.xt V2.nt V2.ct,.int .i64 s.lo,.int .i64 s.al,.slice V2.xk V2.nk V2.ck,.int .i64 s.ka]):V1=V2:=by
 cases V1;cases V2;simp only[List.cons.injEq,Value.slice.injEq,true_and,and_true]at h;obtain⟨⟨a1,a2,a3⟩,⟨a4,a5,a6⟩,⟨a7,a8,a9⟩,a10,a11,a12⟩:=h;subst a1 a2 a3 a4 a5 a6 a7 a8 a9 a10 a11 a12
 rfl
theorem mT (z lo hi:Int) (w:World):Calls prog 66 #[.int .i64 z,.int .i64 lo,.int .i64 hi] w fun e w'=>e=.returned (.bool (in6 z lo hi))/\w'=w:=by
 unfold in6
 by_cases h:lo<=z/\z<=hi
 ·exact (aS z lo hi w h.1 h.2).mono fun e w' ⟨h1,h2⟩=>⟨by rw[h1,decide_eq_true h],h2.symm⟩
 ·exact (fZ z lo hi w (by omega)).mono fun e w' ⟨h1,h2⟩=>⟨by rw[h1,decide_eq_false h],h2.symm⟩
structure iP (w:World) (v1 v2 v3 v4:Value) (n:Nt):Prop where
 nodes:∃f,uM TY w [v1] n.nodes f
 links:∃f,sK TY w [v2] n.links f
 words:∃f,aBk TY w [v3] n.words f
 past:∃f,aD8 TY w [v4] n.past f
theorem iP.below {w w':World} {v1 v2 v3 v4:Value} {n:Nt} (h:iP w v1 v2 v3 v4 n) {B:Nat} (hb:Below B w w') (hB:w.heap.size<=B):iP w' v1 v2 v3 v4 n:=by
 obtain⟨⟨f1,h1⟩,⟨f2,h2⟩,⟨f3,h3⟩,f4,h4⟩:=h;exact⟨⟨f1,(aV aY _ _).below h1 hb hB⟩,⟨f2,(aV (aG _) _ _).below h2 hb hB⟩,⟨f3,(aV gQ _ _).below h3 hb hB⟩,f4,(aV bS _ _).below h4 hb hB⟩
structure oX (n:Nt):Prop where
 nodes:n.nodes.length=5
 past:n.past.length=5
 rows:∀i:Nat,i<5->((aO n i).length:Int)=(aA n i).born+1
theorem aFE (w:World) {x1 x4:Option Addr} {k1 c1 k4 c4:Nat} {v2 v3:Value} {n:Nt} {V:SV} {e:En} (hn:iP w (.slice x1 k1 c1) v2 v3 (.slice x4 k4 c4) n) (hs:oX n) (he:RdS w V e.s):
  Calls prog 205 #[.agg #[.slice x1 k1 c1,v2,v3,.slice x4 k4 c4],.agg #[.int .i64 e.node,.int .i64 e.born,.int .i64 e.num,.slice V.xr V.nr V.cr,.slice V.xf V.nf V.cf,.slice V.xt V.nt V.ct,.int .i64 (e.s).lo,.int .i64 (e.s).al,.slice V.xk V.nk V.ck,.int .i64 (e.s).ka]] w fun r w'=>r=.returned (.bool (eS n e))/\Below w.heap.size w w':=by
 obtain⟨f1,n1⟩:=hn.nodes;obtain⟨f4,n4⟩:=hn.past;obtain rfl:k1=5:=(aT n1).1.trans hs.nodes;obtain rfl:k4=5:=(aT n4).1.trans hs.past;obtain⟨node,born,num,s⟩:=e;simp only at he ⊢
 have H0:=((M.start w).alloc #[.slice x1 5 c1,v2,v3,.slice x4 5 c4] 30).alloc #[.int .i64 node,.int .i64 born,.int .i64 num,.slice V.xr V.nr V.cr,.slice V.xf V.nf V.cf,.slice V.xt V.nt V.ct,.int .i64 s.lo,.int .i64 s.al,.slice V.xk V.nk V.ck,.int .i64 s.ka] 64;simp only[World.size_alloc]at H0
 have EB:Hid (eS n ⟨node,born,num,s⟩=(in6 node 0 4&&(in6 born 1 (aA n node).born&&(in6 num 0 (aN n node born).length&&(okS (upS ((aN n node born).take num.toNat))&&mO (upS ((aN n node born).take num.toNat)) s))))):=hd_ rfl;have HS:=hd_ hs;have HE:=hd_ he;have N1:=hd_ n1;have N4:=hd_ n4;clear hn hs he n1 n4;go_enter func205,ntmps205;go_upto_region 1 with fail
 obtain⟨p1,hp1⟩:∃p,p=w.heap.size:=⟨_,rfl⟩
 obtain⟨p2,hp2⟩:∃p,p=w.heap.size+1:=⟨_,rfl⟩
 have HP:=hd_ hp1;rw[<-hp2, <-hp1]at H0;rw[<-hp2, <-hp1];clear hp1 hp2;generalize ((w.alloc (.cells #[.slice x1 5 c1,v2,v3,.slice x4 5 c4] 30)).alloc (.cells #[.int .i64 node,.int .i64 born,.int .i64 num,.slice V.xr V.nr V.cr,.slice V.xf V.nf V.cf,.slice V.xt V.nt V.ct,.int .i64 s.lo,.int .i64 s.al,.slice V.xk V.nk V.ck,.int .i64 s.ka] 64))=w1 at H0 ⊢;obtain⟨W,hW⟩:∃W,W=w1.drew:=⟨_,rfl⟩
 have H1:=H0.drew;rw[<-hW]at H1;have EW:=hd_ hW;have H:=hd_ H1;clear H0 H1 hW;obtain⟨d0,d1,d2,d3,d4,d5,d6,d7,d8,d9⟩:=H.out.cells10;obtain⟨a0,a1,a2,a3⟩:=H.out.p1.cells4
 by_cases hA:in6 node 0 4=true
 case neg=>
  have gA:in6 node 0 4=false:=by simpa using hA
  have F:=hd_ (show eS n ⟨node,born,num,s⟩=false by rw[EB.out,gA];rfl);clear hA;go_upto_region 1 with fail
  refine aC 99 (.tk 0 6 (.alt 6 (.tk 7 11 (.alt 18 (.tk 19 16 (.alt 35 (.tk 36 2 .done) .nomore)) .nomore)) .nomore)) (fun w'=>w'=W) kr_ kr_ (fun _ _ _ _ _ h=>h) EW.out.symm ?_;rw[<-EW.out]
  repeat ((first|(refine cQ r_ r_ ?_;apply Exists.intro;refine⟨fun w' hw'=>?_,?_⟩;(· ((try dsimp only at hw');go_simp;(try with_reducible rfl))))|(refine cP r_ r_ ?_));simp only[Act.put,List.getElem_toArray,List.getElem_cons_succ,pg3,pg4,pg5,pg6])
  refine aB r_ (fun K' hK=>?_);go_simp;refine (mT node 0 4 W).mono ?_;rintro e w' ⟨rfl,hw'⟩;rw[hw'];clear hw' w';refine hK _ _ (.inr rfl) ?_;clear hK K'
  try simp only[Act.put,List.getElem_toArray,List.getElem_cons_succ,pg3,pg4,pg5,pg6]
  repeat ((first|(refine cQ r_ r_ ?_;apply Exists.intro;refine⟨fun w' hw'=>?_,?_⟩;(· ((try dsimp only at hw');go_simp;(try with_reducible rfl))))|(refine cP r_ r_ ?_));simp only[Act.put,List.getElem_toArray,List.getElem_cons_succ,pg3,pg4,pg5,pg6])
  refine aB r_ (fun K' hK=>?_);go_simp;exact zAs
 have gA:=hd_ hA;obtain⟨iA,iB⟩:=bH.1 hA;clear hA;obtain⟨i,rfl⟩:∃i:Nat,node=i:=⟨node.toNat,by omega⟩
 have i5:i<5:=by omega
 clear iA iB;obtain⟨nd,hnd⟩:∃nd,n.nodes[i]? =some nd:=⟨_,List.getElem?_eq_getElem (by rw[HS.out.nodes];exact i5)⟩
 obtain⟨rs,hrs⟩:∃rs,n.past[i]? =some rs:=⟨_,List.getElem?_eq_getElem (by rw[HS.out.past];exact i5)⟩
 have eN:aA n (i:Int)=nd:=by unfold aA;rw[List.getD_eq_getElem?_getD,Int.toNat_natCast,hnd];rfl
 have eR:aO n (i:Int)=rs:=by unfold aO;rw[List.getD_eq_getElem?_getD,Int.toNat_natCast,hrs];rfl
 have eL:=HS.out.rows i i5;rw[eN,eR]at eL;have EN:=hd_ eN;have hWB:=H.out.below;rw[HP.out]at hWB;obtain⟨g1,xk,ck,fk,rfl,_,_,_,_,_,b0,_⟩:=cB ((aV aY _ _).below N1.out hWB lr_) hnd;obtain⟨g4,xr,cr,fr,rfl,_,_,rr,_,_,b1⟩:=jO ((aV bS _ _).below N4.out hWB lr_) hrs;have ER:=hd_ eR;have HL:=hd_ eL;clear hnd hrs eN eR eL hWB;have i0:(0:Int)<=(i:Int):=by omega
 have i5':(i:Int)<5:=by omega
 by_cases hB:in6 born 1 nd.born=true
 case neg=>
  have gB:in6 born 1 nd.born=false:=by simpa using hB
  have F:=hd_ (show eS n ⟨(i:Int),born,num,s⟩=false by rw[EB.out,EN.out,gA.out,gB];rfl);have gA:=gA.out;clear hB;go_upto_region 1 with fail
  refine aC 99 (.tk 0 6 (.alt 6 (.tk 7 11 (.alt 18 (.tk 19 16 (.alt 35 (.tk 36 2 .done) .nomore)) .nomore)) .nomore)) (fun w'=>w'=W) kr_ kr_ (fun _ _ _ _ _ h=>h) EW.out.symm ?_;rw[<-EW.out]
  repeat ((first|(refine cQ r_ r_ ?_;apply Exists.intro;refine⟨fun w' hw'=>?_,?_⟩;(· ((try dsimp only at hw');go_simp;(try with_reducible rfl))))|(refine cP r_ r_ ?_));simp only[Act.put,List.getElem_toArray,List.getElem_cons_succ,pg3,pg4,pg5,pg6])
  refine aB r_ (fun K' hK=>?_);go_simp;refine (mT (i:Int) 0 4 W).mono ?_;rintro e w' ⟨rfl,hw'⟩;rw[hw'];clear hw' w';refine hK _ _ (.inr rfl) ?_;clear hK K'
  try simp only[Act.put,List.getElem_toArray,List.getElem_cons_succ,pg3,pg4,pg5,pg6]
  repeat ((first|(refine cQ r_ r_ ?_;apply Exists.intro;refine⟨fun w' hw'=>?_,?_⟩;(· ((try dsimp only at hw');go_simp;(try with_reducible rfl))))|(refine cP r_ r_ ?_));simp only[Act.put,List.getElem_toArray,List.getElem_cons_succ,pg3,pg4,pg5,pg6])
  refine aB r_ (fun K' hK=>?_);go_simp;refine (mT born 1 nd.born W).mono ?_;rintro e w' ⟨rfl,hw'⟩;rw[hw'];clear hw' w';exact zAs
 have gB:=hd_ hB;obtain⟨jA,jB⟩:=bH.1 hB;clear hB;obtain⟨j,rfl⟩:∃j:Nat,born=j:=⟨born.toNat,by omega⟩
 have jr:j<rs.length:=by have:=HL.out;omega
 have j0:(0:Int)<=(j:Int):=by omega
 have j1:(j:Int)<(rs.length:Int):=by omega
 clear jA jB;obtain⟨lp,hlp⟩:∃lp,rs[j]? =some lp:=⟨_,List.getElem?_eq_getElem jr⟩
 have EP:Hid (aN n (i:Int) (j:Int)=lp):=hd_ (by unfold aN;rw[ER.out,List.getD_eq_getElem?_getD,Int.toNat_natCast,hlp];rfl);obtain⟨g5,xl,cl,fl,rfl,_,_,rl,lc,lm,b2⟩:=lH rr hlp;have RL:=hd_ rl;clear hlp rr rl jr
 by_cases hC:in6 num 0 (lp.length:Int)=true
 case neg=>
  have gC:in6 num 0 (lp.length:Int)=false:=by simpa using hC
  have F:=hd_ (show eS n ⟨(i:Int),(j:Int),num,s⟩=false by rw[EB.out,EN.out,EP.out,gA.out,gB.out,gC];rfl);have gA:=gA.out;have gB:=gB.out;clear hC;go_upto_region 1 with fail
  refine aC 99 (.tk 0 6 (.alt 6 (.tk 7 11 (.alt 18 (.tk 19 16 (.alt 35 (.tk 36 2 .done) .nomore)) .nomore)) .nomore)) (fun w'=>w'=W) kr_ kr_ (fun _ _ _ _ _ h=>h) EW.out.symm ?_;rw[<-EW.out]
  repeat ((first|(refine cQ r_ r_ ?_;apply Exists.intro;refine⟨fun w' hw'=>?_,?_⟩;(· ((try dsimp only at hw');go_simp;(try with_reducible rfl))))|(refine cP r_ r_ ?_));simp only[Act.put,List.getElem_toArray,List.getElem_cons_succ,pg3,pg4,pg5,pg6])
  refine aB r_ (fun K' hK=>?_);go_simp;refine (mT (i:Int) 0 4 W).mono ?_;rintro e w' ⟨rfl,hw'⟩;rw[hw'];clear hw' w';refine hK _ _ (.inr rfl) ?_;clear hK K'
  try simp only[Act.put,List.getElem_toArray,List.getElem_cons_succ,pg3,pg4,pg5,pg6]
  repeat ((first|(refine cQ r_ r_ ?_;apply Exists.intro;refine⟨fun w' hw'=>?_,?_⟩;(· ((try dsimp only at hw');go_simp;(try with_reducible rfl))))|(refine cP r_ r_ ?_));simp only[Act.put,List.getElem_toArray,List.getElem_cons_succ,pg3,pg4,pg5,pg6])
  refine aB r_ (fun K' hK=>?_);go_simp;refine (mT (j:Int) 1 nd.born W).mono ?_;rintro e w' ⟨rfl,hw'⟩;rw[hw'];clear hw' w';refine hK _ _ (.inr rfl) ?_;clear hK K'
  try simp only[Act.put,List.getElem_toArray,List.getElem_cons_succ,pg3,pg4,pg5,pg6]
  repeat ((first|(refine cQ r_ r_ ?_;apply Exists.intro;refine⟨fun w' hw'=>?_,?_⟩;(· ((try dsimp only at hw');go_simp;(try with_reducible rfl))))|(refine cP r_ r_ ?_));simp only[Act.put,List.getElem_toArray,List.getElem_cons_succ,pg3,pg4,pg5,pg6])
  refine aB r_ (fun K' hK=>?_);go_simp;refine (mT num 0 (lp.length:Int) W).mono ?_;rintro e w' ⟨rfl,hw'⟩;rw[hw'];clear hw' w';exact zu
 have gC:=hd_ hC;obtain⟨qA,qB⟩:=bH.1 hC;obtain⟨q,rfl⟩:∃q:Nat,num=q:=⟨num.toNat,by omega⟩
 have FB:Hid (eS n ⟨(i:Int),(j:Int),(q:Int),s⟩=(okS (upS (lp.take q))&&mO (upS (lp.take q)) s)):=hd_ (by rw[EB.out,EN.out,EP.out,gA.out,gB.out,gC.out,Int.toNat_natCast];rfl);have hA:=gA.out;have hB:=gB.out;clear qA;go_upto_region 1 with fail
 refine aC 99 (.tk 0 6 (.alt 6 (.tk 7 11 (.alt 18 (.tk 19 16 (.alt 35 (.tk 36 2 .done) .nomore)) .nomore)) .nomore)) (fun w'=>w'=W) kr_ kr_ (fun _ _ _ _ _ h=>h) EW.out.symm ?_;rw[<-EW.out]
 repeat ((first|(refine cQ r_ r_ ?_;apply Exists.intro;refine⟨fun w' hw'=>?_,?_⟩;(· ((try dsimp only at hw');go_simp;(try with_reducible rfl))))|(refine cP r_ r_ ?_));simp only[Act.put,List.getElem_toArray,List.getElem_cons_succ,pg3,pg4,pg5,pg6])
 refine aB r_ (fun K' hK=>?_);go_simp;refine (mT (i:Int) 0 4 W).mono ?_;rintro e w' ⟨rfl,hw'⟩;rw[hw'];clear hw' w';refine hK _ _ (.inr rfl) ?_;clear hK K'
 try simp only[Act.put,List.getElem_toArray,List.getElem_cons_succ,pg3,pg4,pg5,pg6]
 repeat ((first|(refine cQ r_ r_ ?_;apply Exists.intro;refine⟨fun w' hw'=>?_,?_⟩;(· ((try dsimp only at hw');go_simp;(try with_reducible rfl))))|(refine cP r_ r_ ?_));simp only[Act.put,List.getElem_toArray,List.getElem_cons_succ,pg3,pg4,pg5,pg6])
 refine aB r_ (fun K' hK=>?_);go_simp;refine (mT (j:Int) 1 nd.born W).mono ?_;rintro e w' ⟨rfl,hw'⟩;rw[hw'];clear hw' w';refine hK _ _ (.inr rfl) ?_;clear hK K'
 try simp only[Act.put,List.getElem_toArray,List.getElem_cons_succ,pg3,pg4,pg5,pg6]
 repeat ((first|(refine cQ r_ r_ ?_;apply Exists.intro;refine⟨fun w' hw'=>?_,?_⟩;(· ((try dsimp only at hw');go_simp;(try with_reducible rfl))))|(refine cP r_ r_ ?_));simp only[Act.put,List.getElem_toArray,List.getElem_cons_succ,pg3,pg4,pg5,pg6])
 refine aB r_ (fun K' hK=>?_);go_simp;refine (mT (q:Int) 0 (lp.length:Int) W).mono ?_;rintro e w' ⟨rfl,hw'⟩;rw[hw'];clear hw' w';refine hK _ _ (.inr rfl) ?_;clear hK K'
 try simp only[Act.put,List.getElem_toArray,List.getElem_cons_succ,pg3,pg4,pg5,pg6]
 repeat ((first|(refine cQ r_ r_ ?_;apply Exists.intro;refine⟨fun w' hw'=>?_,?_⟩;(· ((try dsimp only at hw');go_simp;(try with_reducible rfl))))|(refine cP r_ r_ ?_));simp only[Act.put,List.getElem_toArray,List.getElem_cons_succ,pg3,pg4,pg5,pg6])
 refine aD ?_;clear hA hB hC b0;have hb2:(q:Int)<=(cl:Int):=by omega
 have q0:(0:Int)<=(q:Int):=by omega
 have IL:Hid (dE W (.slice xl q cl) (lp.take q)):=hd_ (by
    obtain⟨v,ev,ho,_⟩:=mI RL.out
    cases ev
    exact aJi ho (by omega))
 have qn:(q:Int).toNat=q:=Int.toNat_natCast q;go_upto_region 3 with fail
 have S0:Hid (∀w',Below W.heap.size W w'->w'.cell? ⟨p1,3,Option.none⟩=some (.slice (some ⟨g4,0,Option.none⟩) 5 c4)/\w'.cell? ⟨p2,0,Option.none⟩=some (.int .i64 (i:Int))/\w'.cell? ⟨p2,1,Option.none⟩=some (.int .i64 (j:Int))/\w'.cell? ⟨p2,2,Option.none⟩=some (.int .i64 (q:Int))/\w'.cell? ⟨g4,i,Option.none⟩=some (.slice (some ⟨g5,0,Option.none⟩) rs.length cr)/\w'.cell? ⟨g5,j,Option.none⟩=some (.slice xl lp.length cl)):=hd_ fun w' hb=>by
  have k:∀(g o:Nat) (v:Value),W.cell? ⟨g,o,Option.none⟩=some v->w'.cell? ⟨g,o,Option.none⟩=some v:=fun g o v hc=>(hb.cell (p:=⟨g,o,Option.none⟩) (World.block_lt_of_cell? _ _ hc)).trans hc
  exact⟨k _ _ _ a3,k _ _ _ d0,k _ _ _ d1,k _ _ _ d2,k _ _ _ b1,k _ _ _ b2⟩
 clear a0 a1 a2 a3 b1 b2 d0 d1 d2 d3 d4 d5 d6 d7 d8 d9
 refine aC 19 (.tk 0 13 (.alt 13 (.tk 14 3 (.alt 17 (.alt 18 (.alt 19 .done .nomore) .nomore) .nomore)) (.alt 17 (.alt 13 (.tk 14 3 (.alt 18 (.alt 19 .done .nomore) .nomore)) .nomore) .nomore))) (fun w'=>w'.cell? ⟨p1,3,Option.none⟩=some (.slice (some ⟨g4,0,Option.none⟩) 5 c4)/\w'.cell? ⟨p2,0,Option.none⟩=some (.int .i64 (i:Int))/\w'.cell? ⟨p2,1,Option.none⟩=some (.int .i64 (j:Int))/\w'.cell? ⟨p2,2,Option.none⟩=some (.int .i64 (q:Int))/\w'.cell? ⟨g4,i,Option.none⟩=some (.slice (some ⟨g5,0,Option.none⟩) rs.length cr)/\w'.cell? ⟨g5,j,Option.none⟩=some (.slice xl lp.length cl)) kr_ kr_ (fun _ _ _ _ _ h=>h) (S0.out _ (Below.drew (Below.refl _ _))) ?_
 repeat ((first|(refine cQ r_ r_ ?_;apply Exists.intro;refine⟨fun w' hw'=>?_,?_⟩;(· ((try dsimp only at hw');go_simp;(try with_reducible rfl))))|(refine cP r_ r_ ?_));simp only[Act.put,List.getElem_toArray,List.getElem_cons_succ,pg3,pg4,pg5,pg6])
 have H3:=hd_ H.out.drew;have BW:Hid (Below W.heap.size W W.drew):=hd_ (Below.drew (Below.refl _ _));have I3:Hid (dE W.drew (.slice xl q cl) (lp.take q)):=hd_ (IL.out.below BW.out lr_);clear H IL;have hsz:W.heap.size=W.drew.heap.size:=rfl;have HSZ:=hd_ hsz;clear hsz;generalize W.drew=W3 at H3 I3 BW HSZ ⊢
 have KO:=hd_ (fun w' (hb:Below W3.heap.size W3 w')=>aGg w' xl q cl (lp.take q) (I3.out.below hb lr_));generalize upS (lp.take q)=sm at KO FB;obtain⟨ok,hok⟩:∃ok,ok=okS sm:=⟨_,rfl⟩
 rw[<-hok]at KO FB;clear hok;clear I3;refine bP r_ (fun K' hK=>?_) ?_
 ·go_simp
  refine (KO.out _ (Below.refl _ _)).mono ?_;rintro e w4 ⟨U,rfl,ho,hb⟩;have N4:=(M.start W3).later hb;refine hK _ _ (.inr (S0.out _ (BW.out.trans (by rw[HSZ.out];exact N4.below)))) ?_;clear hK K'
  try simp only[Act.put,List.getElem_toArray,List.getElem_cons_succ,pg3,pg4,pg5,pg6]
  repeat ((first|(refine cQ r_ r_ ?_;apply Exists.intro;refine⟨fun w' hw'=>?_,?_⟩;(· ((try dsimp only at hw');go_simp;(try with_reducible rfl))))|(refine cP r_ r_ ?_));simp only[Act.put,List.getElem_toArray,List.getElem_cons_succ,pg3,pg4,pg5,pg6])
  have N5:=N4.alloc #[.slice none 0 0,.slice none 0 0,.slice none 0 0,.int .i64 0,.int .i64 0,.slice none 0 0,.int .i64 0] 46;refine aB r_ (fun K' hK=>?_);go_simp;refine hK _ _ (.inr (S0.out _ (BW.out.trans (by rw[HSZ.out];exact N5.below)))) ?_;clear hK K'
  try simp only[Act.put,List.getElem_toArray,List.getElem_cons_succ,pg3,pg4,pg5,pg6]
  have N6:=hd_ (N4.alloc #[.slice U.xr U.nr U.cr,.slice U.xf U.nf U.cf,.slice U.xt U.nt U.ct,.int .i64 sm.lo,.int .i64 sm.al,.slice U.xk U.nk U.ck,.int .i64 sm.ka] 46);have R6:=hd_ (ho.rd.below ((M.start w4).alloc #[.slice U.xr U.nr U.cr,.slice U.xf U.nf U.cf,.slice U.xt U.nt U.ct,.int .i64 sm.lo,.int .i64 sm.al,.slice U.xk U.nk U.ck,.int .i64 sm.ka] 46).below lr_)
  have H6:=hd_ (H3.out.later N6.out.below);clear N4 ho hb;refine aB r_ (fun K' hK=>?_);go_simp;refine hK _ _ (.inr (S0.out _ (BW.out.trans (by rw[HSZ.out];exact N6.out.below)))) ?_;clear hK K'
  try simp only[Act.put,List.getElem_toArray,List.getElem_cons_succ,pg3,pg4,pg5,pg6]
  clear N5 S0 BW KO;exact zv
 ·refine aB r_ (fun K' hK=>?_)
  go_simp;have N4:=(M.start W3).alloc #[.slice none 0 0,.slice none 0 0,.slice none 0 0,.int .i64 0,.int .i64 0,.slice none 0 0,.int .i64 0] 46;refine hK _ _ (.inr (S0.out _ (BW.out.trans (by rw[HSZ.out];exact N4.below)))) ?_;clear hK K'
  try simp only[Act.put,List.getElem_toArray,List.getElem_cons_succ,pg3,pg4,pg5,pg6]
  refine aB r_ (fun K' hK=>?_);go_simp;refine (KO.out _ N4.below).mono ?_;rintro e w5 ⟨U,rfl,ho,hb⟩;have N5s:=N4.sum hb ho;have N5:=N5s.p1;refine hK _ _ (.inr (S0.out _ (BW.out.trans (by rw[HSZ.out];exact N5.below)))) ?_;clear hK K'
  try simp only[Act.put,List.getElem_toArray,List.getElem_cons_succ,pg3,pg4,pg5,pg6]
  repeat ((first|(refine cQ r_ r_ ?_;apply Exists.intro;refine⟨fun w' hw'=>?_,?_⟩;(· ((try dsimp only at hw');go_simp;(try with_reducible rfl))))|(refine cP r_ r_ ?_));simp only[Act.put,List.getElem_toArray,List.getElem_cons_succ,pg3,pg4,pg5,pg6])
  obtain⟨e0,e1,e2,e3,e4,e5,e6⟩:=N5.cells7;have ef:=N5.free;have N6:=hd_ (N5.set7 (.slice U.xr U.nr U.cr) (.slice U.xf U.nf U.cf) (.slice U.xt U.nt U.ct) (.int .i64 sm.lo) (.int .i64 sm.al) (.slice U.xk U.nk U.ck) (.int .i64 sm.ka));have H6:=hd_ (H3.out.later N6.out.below);have R6:Hid (RdS _ U sm):=hd_ (by
      obtain⟨f6,h6,_⟩:=N6.out.p1.first
      obtain⟨U',eU,rU⟩:=wO h6
      cases aCU eU
      exact rU)
  clear ho hb N4 N5s;refine aB r_ (fun K' hK=>?_);go_simp;refine hK _ _ (.inr (S0.out _ (BW.out.trans (by rw[HSZ.out];exact N6.out.below)))) ?_;clear hK K'
  try simp only[Act.put,List.getElem_toArray,List.getElem_cons_succ,pg3,pg4,pg5,pg6]
  clear e0 e1 e2 e3 e4 e5 e6 ef N5 S0 BW KO;exact zv
theorem aBf {w:World} {V:SV} {s:Sm} {f:List Nat} (h:rS w (cS V s) s f):RdS w V s:=by
 obtain⟨V',e,r⟩:=wO h;cases aCU e;exact r
abbrev aAn (V:SV) (e:En):Value:=.agg #[iv e.node,iv e.born,iv e.num,.slice V.xr V.nr V.cr,.slice V.xf V.nf V.cf,.slice V.xt V.nt V.ct,.int .i64 (e.s).lo,.int .i64 (e.s).al,.slice V.xk V.nk V.ck,.int .i64 (e.s).ka]
abbrev xW:Value:=.agg #[iv 0,iv 0,iv 0,zn,zn,zn,iv 0,iv 0,zn,iv 0]
theorem aEm (w:World) {xk:Option Addr} {k ck:Nat} {es:List En} {f:List Nat} (h:gD TY w [.slice xk k ck] es f) (i b0 b1 b2 b3:Int):
  Calls prog 159 #[.agg #[iv b0,.slice xk k ck,iv b1,iv b2,iv b3],iv i] w fun r w'=>(∃u,r=.returned u/\((∃e V,bM es i=some e/\RdS w V e.s/\u=.tuple #[aAn V e,.bool true])\/(bM es i=none/\u=.tuple #[xW,.bool false])))/\Below w.heap.size w w':=by
 obtain rfl:k=es.length:=(aT h).1;obtain⟨_,_,e1,q1,q2⟩:=cM h;have hm:es.length<=maxLen:=Nat.le_trans q1 q2;unfold maxLen at hm;clear e1 q1 q2;have H1:=hd_ h;clear h;have H0:=((M.start w).alloc #[iv b0,.slice xk es.length ck,iv b1,iv b2,iv b3] 55).alloc #[iv 0,iv 0,iv 0,zn,zn,zn,iv 0,iv 0,zn,iv 0] 64;simp only[World.size_alloc]at H0;go_enter func159,ntmps159;go_wp2
 obtain⟨p1,hp1⟩:=nm_ w.heap.size;obtain⟨p2,hp2⟩:=nm_ (w.heap.size+1);have HP:=hd_ hp1;rw[<-hp2, <-hp1]at H0;rw[<-hp2, <-hp1];clear hp1 hp2;generalize ((w.alloc (.cells #[iv b0,.slice xk es.length ck,iv b1,iv b2,iv b3] 55)).alloc (.cells #[iv 0,iv 0,iv 0,zn,zn,zn,iv 0,iv 0,zn,iv 0] 64))=w1 at H0 ⊢;have H:=hd_ H0;clear H0
 go_loopw [6] (fun z wr=>∃j:Nat,j<=es.length/\z=.int .i64 j/\(∀(a:Nat) (x:En),a<j->es[a]? =some x->x.node≠i)/\wr=w1) (fun z _=>es.length - (intOf z).toNat)
 case atStart=>exact⟨0,Nat.zero_le _,rfl,fun a x h=>absurd h (Nat.not_lt_zero _),rfl⟩
 case round=>
  obtain⟨j,hj,rfl,hno,rfl⟩:=hrel;have NO:=hd_ hno;clear hno;have hWB:=H.out.below;rw[HP.out]at hWB;obtain⟨d0,d1,d2,d3,d4,d5,d6,d7,d8,d9⟩:=H.out.cells10;obtain⟨a0,a1,a2,a3,a4⟩:=H.out.p1.cells5
  by_cases hlt:j<es.length
  ·obtain⟨x,hx⟩:∃x,es[j]? =some x:=⟨_,List.getElem?_eq_getElem hlt⟩
   obtain⟨g,V,fe,rfl,_,_,sr,ca0,ca1,ca2,cas⟩:=gY H1.out hx;have RV:=hd_ (aBf sr);replace ca0:=cell_later hWB ca0;replace ca1:=cell_later hWB ca1;replace ca2:=cell_later hWB ca2;have ca3:=cell_later hWB (cas 0 _ rfl);have ca4:=cell_later hWB (cas 1 _ rfl);have ca5:=cell_later hWB (cas 2 _ rfl);have ca6:=cell_later hWB (cas 3 _ rfl);have ca7:=cell_later hWB (cas 4 _ rfl)
   have ca8:=cell_later hWB (cas 5 _ rfl);have ca9:=cell_later hWB (cas 6 _ rfl);clear sr;clear cas hWB;have k0:(0:Int)<=(j:Int):=o_;have k1:(j:Int)<(es.length:Int):=o_
   by_cases eq:x.node=i
   ·have g0:(x.node==i)=true:=by simpa using eq
    have F:=hd_ (aC3 NO.out hx eq);have ef:=H.out.free;have N:=hd_ (H.out.set10 (iv x.node) (iv x.born) (iv x.num) (.slice V.xr V.nr V.cr) (.slice V.xf V.nf V.cf) (.slice V.xt V.nt V.ct) (iv x.s.lo) (iv x.s.al) (.slice V.xk V.nk V.ck) (iv x.s.ka));clear eq NO hx;go_wp2;obtain⟨e0,e1,e2,e3,e4,e5,e6,e7,e8,e9⟩:=N.out.cells10
    exact bodyPost_ret (v:=.tuple #[aAn V x,.bool true]) (by simp[results,results159,go_sem,e0,e1,e2,e3,e4,e5,e6,e7,e8,e9]) rfl ⟨⟨_,rfl,.inl ⟨x,V,F.out,RV.out,rfl⟩⟩,by have:=N.out.below;rwa[HP.out]at this⟩
   ·exact zAD
  ·have F:=hd_ (aDC (es:=es) (i:=i) fun a x hx=>NO.out a x (by have:=(List.getElem?_eq_some_iff.1 hx).1;omega) hx)
   have ef:=H.out.free;have N:=hd_ (H.out.set10 (iv 0) (iv 0) (iv 0) zn zn zn (iv 0) (iv 0) zn (iv 0));have g:decide (j<es.length)=false:=by simpa using hlt
   clear NO hWB;go_wp2;obtain⟨e0,e1,e2,e3,e4,e5,e6,e7,e8,e9⟩:=N.out.cells10;exact bodyPost_ret (v:=.tuple #[xW,.bool false]) (by simp[results,results159,go_sem,e0,e1,e2,e3,e4,e5,e6,e7,e8,e9]) rfl ⟨⟨_,rfl,.inr ⟨F.out,rfl⟩⟩,by have:=N.out.below;rwa[HP.out]at this⟩
theorem aAR (w:World) {x1 x4 xk:Option Addr} {k1 c1 k4 c4 k ck:Nat} {v2 v3:Value} {n:Nt} {es:List En} {f:List Nat} (hn:iP w (.slice x1 k1 c1) v2 v3 (.slice x4 k4 c4) n) (hs:oX n) (h:gD TY w [.slice xk k ck] es f):
  Calls prog 160 #[.agg #[.slice x1 k1 c1,v2,v3,.slice x4 k4 c4],.slice xk k ck] w fun r w'=>r=.returned (.bool (dY n es))/\Below w.heap.size w w':=by
 obtain rfl:k=es.length:=(aT h).1;obtain⟨_,_,e1,q1,q2⟩:=cM h;have hm:es.length<=maxLen:=Nat.le_trans q1 q2;unfold maxLen at hm;clear e1 q1 q2;have H1:=hd_ h;have HN:=hd_ hn;have HS:=hd_ hs;clear h hn hs;have H:=hd_ ((M.start w).alloc #[.slice x1 k1 c1,v2,v3,.slice x4 k4 c4] 30);go_enter func160,ntmps160;go_wp2;obtain⟨p1,hp1⟩:=nm_ w.heap.size;have HP:=hd_ hp1;rw[<-hp1]at H
 rw[<-hp1];clear hp1;generalize (w.alloc (.cells #[.slice x1 k1 c1,v2,v3,.slice x4 k4 c4] 30))=w1 at H ⊢;go_loopw [5] (fun z wr=>∃j:Nat,j<=es.length/\z=.int .i64 j/\(∀(a:Nat) (x:En),a<j->es[a]? =some x->eS n x=true/\(0<a->∀d:En,es[a - 1]? =some d->d.node<x.node))/\M p1 w wr [aL p1 30 #[.slice x1 k1 c1,v2,v3,.slice x4 k4 c4]]) (fun z _=>es.length - (intOf z).toNat)
 case atStart=>exact⟨0,Nat.zero_le _,rfl,fun a x h=>absurd h (Nat.not_lt_zero _),H.out⟩
 case round=>
  clear H;obtain⟨j,hj,rfl,hno,h⟩:=hrel;have NO:=hd_ hno;have H:=hd_ h;clear hno h;have hWB:=H.out.below;rw[HP.out]at hWB
  by_cases hlt:j<es.length
  ·obtain⟨W,hW⟩:=nm_ wr.drew
   have H2:=H.out.drew;rw[<-hW]at H2;have EW:=hd_ hW;have WB:=Below.drew hWB;rw[<-hW]at WB;clear hW hWB;obtain⟨x,hx⟩:∃x,es[j]? =some x:=⟨_,List.getElem?_eq_getElem hlt⟩
   obtain⟨g,V,fe,rfl,_,_,sr,ca0,ca1,ca2,cas⟩:=gY ((aV aP _ _).below H1.out WB lr_) hx;obtain⟨V',eV,rV⟩:=wO sr;cases aCU eV;have ca3:=cas 0 _ rfl;have ca4:=cas 1 _ rfl;have ca5:=cas 2 _ rfl;have ca6:=cas 3 _ rfl;have ca7:=cas 4 _ rfl;have ca8:=cas 5 _ rfl;have ca9:=cas 6 _ rfl;obtain⟨a0,a1,a2,a3⟩:=H2.cells4
   have KE:=hd_ (aFE W (e:=x) (HN.out.below WB lr_) HS.out rV);have k0:(0:Int)<=(j:Int):=o_;have k1':(j:Int)<(es.length:Int):=o_;have HX:=hd_ hx;clear cas sr eV rV hx WB
   by_cases eb:eS n x=true
   case neg=>
    have gb:eS n x=false:=by simpa using eb
    have F:=hd_ (nI HX.out (.inl gb));rw[gb]at KE;clear eb gb;have C0:=hd_ (show aH W (b4L p1 (.slice x1 k1 c1) v2 v3 (.slice x4 k4 c4)++uB g j V x)from⟨a0,a1,a2,a3,ca0,ca1,ca2,ca3,ca4,ca5,ca6,ca7,ca8,ca9,trivial⟩);clear a0 a1 a2 a3 ca0 ca1 ca2 ca3 ca4 ca5 ca6 ca7 ca8 ca9;go_upto_region 4 with fail
    refine aC 99 (.tk 0 5 (.alt 5 (.tk 6 19 .done) .nomore)) (fun w'=>aH w' (b4L p1 (.slice x1 k1 c1) v2 v3 (.slice x4 k4 c4)++uB g j V x)) kr_ kr_ (fun _ _ _ _ _ h=>h) (by rw[<-EW.out];exact C0.out) ?_;exact zAy
   have EB:=hd_ eb;rw[eb]at KE;clear eb
   by_cases j0:j=0
   ·have jn:decide (0<j)=false:=by simp;omega
    have jp:decide ((0:Int)<(j:Int))=false:=by simp;omega
    have J0:=hd_ j0;clear j0;have NO2:Hid (∀(a:Nat) (y:En),a<j+1->es[a]? =some y->eS n y=true/\(0<a->∀d:En,es[a - 1]? =some d->d.node<y.node)):=hd_ fun a y ha hy=>by
     have:=J0.out;obtain rfl:a=j:=o_;rw[HX.out]at hy;cases hy;exact⟨EB.out,fun q=>absurd q o_⟩
    have C0:=hd_ (show aH W (b4L p1 (.slice x1 k1 c1) v2 v3 (.slice x4 k4 c4)++uB g j V x)from⟨a0,a1,a2,a3,ca0,ca1,ca2,ca3,ca4,ca5,ca6,ca7,ca8,ca9,trivial⟩);clear a0 a1 a2 a3 ca0 ca1 ca2 ca3 ca4 ca5 ca6 ca7 ca8 ca9;go_upto_region 4 with fail
    refine aC 99 (.tk 0 5 (.alt 5 (.tk 6 19 .done) .nomore)) (fun w'=>aH w' (b4L p1 (.slice x1 k1 c1) v2 v3 (.slice x4 k4 c4)++uB g j V x)) kr_ kr_ (fun _ _ _ _ _ h=>h) (by rw[<-EW.out];exact C0.out) ?_;exact zAv
   ·obtain⟨d,hd⟩:∃d,es[j - 1]? =some d:=⟨_,List.getElem?_eq_getElem o_⟩
    obtain⟨g',V',fe',eg,_,_,_,cb0,_⟩:=gY ((aV aP _ _).below H1.out (by have:=H2.below;rwa[HP.out]at this) lr_) hd;cases eg;have jp:decide ((0:Int)<(j:Int))=true:=by simp;omega
    have jn:decide (0<j)=true:=by simp;omega
    have js:IntKind.i64.wrap ((j:Int) - 1)=(j:Int) - 1:=IntWalk.i64_in _ o_;have jt:((j:Int) - 1).toNat=j - 1:=o_;have j1:(1:Int)<=(j:Int):=o_;have j2:(j:Int) - 1<(es.length:Int):=o_;have HD:=hd_ hd;clear hd
    by_cases ed:d.node<x.node
    case neg=>
     have gd:decide (x.node<=d.node)=true:=by simp;omega
     have F:Hid (dY n es=false):=hd_ (nI HX.out (.inr ⟨o_,d,HD.out,o_⟩));clear ed;have C0:=hd_ (show aH W (b4L p1 (.slice x1 k1 c1) v2 v3 (.slice x4 k4 c4)++(uB g j V x++[(⟨g,(j - 1) * 10,none⟩,.int .i64 d.node)]))from⟨a0,a1,a2,a3,ca0,ca1,ca2,ca3,ca4,ca5,ca6,ca7,ca8,ca9,cb0,trivial⟩);clear a0 a1 a2 a3 ca0 ca1 ca2 ca3 ca4 ca5 ca6 ca7 ca8 ca9 cb0;go_upto_region 4 with fail
     refine aC 99 (.tk 0 5 (.alt 5 (.tk 6 19 .done) .nomore)) (fun w'=>aH w' (b4L p1 (.slice x1 k1 c1) v2 v3 (.slice x4 k4 c4)++(uB g j V x++[(⟨g,(j - 1) * 10,none⟩,.int .i64 d.node)]))) kr_ kr_ (fun _ _ _ _ _ h=>h) (by rw[<-EW.out];exact C0.out) ?_;exact zAy
    have gd:decide (x.node<=d.node)=false:=by simp;omega
    have NO2:Hid (∀(a:Nat) (y:En),a<j+1->es[a]? =some y->eS n y=true/\(0<a->∀d:En,es[a - 1]? =some d->d.node<y.node)):=hd_ fun a y ha hy=>by
     by_cases q:a<j
     ·exact NO.out a y q hy
     ·obtain rfl:a=j:=o_
      rw[HX.out]at hy;cases hy;refine⟨EB.out,fun _ d' hd'=>?_⟩;rw[HD.out]at hd';cases hd';exact ed
    clear ed;have C0:=hd_ (show aH W (b4L p1 (.slice x1 k1 c1) v2 v3 (.slice x4 k4 c4)++(uB g j V x++[(⟨g,(j - 1) * 10,none⟩,.int .i64 d.node)]))from⟨a0,a1,a2,a3,ca0,ca1,ca2,ca3,ca4,ca5,ca6,ca7,ca8,ca9,cb0,trivial⟩);clear a0 a1 a2 a3 ca0 ca1 ca2 ca3 ca4 ca5 ca6 ca7 ca8 ca9 cb0;go_upto_region 4 with fail
    refine aC 99 (.tk 0 5 (.alt 5 (.tk 6 19 .done) .nomore)) (fun w'=>aH w' (b4L p1 (.slice x1 k1 c1) v2 v3 (.slice x4 k4 c4)++(uB g j V x++[(⟨g,(j - 1) * 10,none⟩,.int .i64 d.node)]))) kr_ kr_ (fun _ _ _ _ _ h=>h) (by rw[<-EW.out];exact C0.out) ?_;exact zAv
  ·have F:Hid (dY n es=true):=hd_ (yP.2 fun i e hi=>NO.out i e (by have:=(List.getElem?_eq_some_iff.1 hi).1;omega) hi)
   have g:decide (j<es.length)=false:=by simpa using hlt
   clear NO hWB;exact zAe
theorem xD {w:World} {x:Option Addr} {k c:Nat} {l:List Int} (h:dE w (.slice x k c) l) {j:Nat} (hj:j<l.length):∃b o,x=some ⟨b,o,Option.none⟩/\w.cell? ⟨b,o+j,Option.none⟩=some (.int .i64 (l.getD j 0)):=by
 rcases h with ⟨_,rfl⟩|⟨b,o,cap,e,_,_,_,hc⟩
 ·cases hj
 ·exact⟨b,o,(Value.slice.inj e).1,hc j hj⟩
theorem aGI {l:List Int} {j:Nat} (hj:j<l.length) (h:in6 (l.getD j 0) 0 63=false):lO l=false:=by
 unfold lO;rw[mA (i:=j) (a:=l.getD j 0) (by rw[List.getD_eq_getElem?_getD,List.getElem?_eq_getElem hj];rfl) h,Bool.false_and]
theorem aFc {l:List Int} (h:100<l.length):lO l=false:=by
 unfold lO;rw[decide_eq_false o_,Bool.and_false]
theorem aKk {l:List Int} (h:∀a,a<l.length->in6 (l.getD a 0) 0 63=true) (h2:¬ 100<l.length):lO l=true:=by
 unfold lO;rw[decide_eq_true o_,Bool.and_true];exact wQ.2 fun a t ht=>by
  have q:=h a (List.getElem?_eq_some_iff.1 ht).1;rwa[List.getD_eq_getElem?_getD,ht]at q
theorem aEr (w:World) {x1 x4:Option Addr} {k1 c1 k4 c4:Nat} {v2 v3:Value} {n:Nt} (hn:iP w (.slice x1 k1 c1) v2 v3 (.slice x4 k4 c4) n) (h5:n.nodes.length=5) (p5:n.past.length=5) {i:Nat} (i5:i<5) (hbn:1<=(aA n i).born/\(aA n i).born<=20):
  Calls prog 86 #[.agg #[.slice x1 k1 c1,v2,v3,.slice x4 k4 c4],iv (i:Int)] w fun r w'=>r=.returned (.bool (lD n i))/\Below w.heap.size w w':=by
 obtain⟨f1,n1⟩:=hn.nodes;obtain⟨f4,n4⟩:=hn.past;obtain rfl:k1=5:=(aT n1).1.trans h5;obtain rfl:k4=5:=(aT n4).1.trans p5;obtain⟨nd,hnd⟩:∃nd,n.nodes[i]? =some nd:=⟨_,List.getElem?_eq_getElem (by rw[h5];exact i5)⟩
 obtain⟨rs,hrs⟩:∃rs,n.past[i]? =some rs:=⟨_,List.getElem?_eq_getElem (by rw[p5];exact i5)⟩
 have eN:aA n (i:Int)=nd:=by unfold aA;rw[List.getD_eq_getElem?_getD,Int.toNat_natCast,hnd];rfl
 have eR:aO n (i:Int)=rs:=by unfold aO;rw[List.getD_eq_getElem?_getD,Int.toNat_natCast,hrs];rfl
 have PB:Hid (lD n (i:Int)=(decide ((rs.length:Int)=nd.born+1)&&(decide ((rs.getD 0 []).length=0)&&rs.all lO))):=hd_ (by unfold lD aN;rw[eN,eR];rfl);rw[eN]at hbn;have H0:=(M.start w).alloc #[.slice x1 5 c1,v2,v3,.slice x4 5 c4] 30;have N1:=hd_ n1;have N4:=hd_ n4;clear hn n1 n4 h5 p5 eN eR;go_enter func86,ntmps86;go_upto_region 1 with fail
 obtain⟨p1,hp1⟩:=nm_ w.heap.size;have HP:=hd_ hp1;rw[<-hp1]at H0;rw[<-hp1];clear hp1;generalize (w.alloc (.cells #[.slice x1 5 c1,v2,v3,.slice x4 5 c4] 30))=w1 at H0 ⊢;obtain⟨W,hW⟩:=nm_ w1.drew;have H1:=H0.drew;rw[<-hW]at H1;have EW:=hd_ hW;have H:=hd_ H1;clear H0 H1 hW;obtain⟨a0,a1,a2,a3⟩:=H.out.cells4;have hWB:=H.out.below;rw[HP.out]at hWB
 obtain⟨g1,xk,ck,fk,rfl,_,_,_,_,_,b0,_⟩:=cB ((aV aY _ _).below N1.out hWB lr_) hnd;obtain⟨g4,xr,cr,fr,rfl,_,_,rr,rcr,rcm,b1⟩:=jO ((aV bS _ _).below N4.out hWB lr_) hrs;clear hnd hrs hWB;unfold maxLen at rcm;have i0:(0:Int)<=(i:Int):=o_;have i5':(i:Int)<5:=o_;have bw:IntKind.i64.wrap (nd.born+1)=nd.born+1:=IntWalk.i64_in _ o_;have PLN:True:=trivial
 by_cases hA:(rs.length:Int)=nd.born+1
 case neg=>
  have F:Hid (lD n (i:Int)=false):=hd_ (by rw[PB.out,decide_eq_false hA];rfl);have gA:((rs.length:Int) != nd.born+1)=true:=by simpa using hA
  clear hA;exact zBb
 have gA:((rs.length:Int) != nd.born+1)=false:=by simpa using hA
 have HA:=hd_ hA;have r0:0<rs.length:=o_;clear hA;obtain⟨l0,hl0⟩:∃l,rs[0]? =some l:=⟨_,List.getElem?_eq_getElem r0⟩
 obtain⟨g5,xl,cl,fl,rfl,_,_,_,_,_,b2⟩:=lH rr hl0;have EL0:Hid (rs.getD 0 []=l0):=hd_ (by rw[List.getD_eq_getElem?_getD,hl0];rfl);clear hl0
 by_cases hB:l0.length=0
 case neg=>
  have F:Hid (lD n (i:Int)=false):=hd_ (by rw[PB.out,EL0.out,decide_eq_false hB,Bool.false_and,Bool.and_false]);have gB:((l0.length:Int) != 0)=true:=by simp only[bne_iff_ne,ne_eq];omega
  clear hB;exact zBb
 have gB:((l0.length:Int) != 0)=false:=by simp only[bne_eq_false_iff_eq];omega
 have FB:Hid (lD n (i:Int)=rs.all lO):=hd_ (by rw[PB.out,EL0.out,decide_eq_true HA.out,decide_eq_true hB];rfl);clear hB;refine aC 99 (.tk 0 25 .done) (fun w'=>w'=W) kr_ kr_ (fun _ _ _ _ _ h=>h) EW.out.symm ?_;rw[<-EW.out]
 repeat (first|refine tA_ ?_|refine tB_ ?_)
 refine aD ?_;clear b2 b0;go_wp2;have RR:=hd_ rr;clear rr gA gB bw;go_loopw [5] (fun z wr=>∃j:Nat,j<=rs.length/\z=.int .i64 j/\(∀(a:Nat) (x:List Int),a<j->rs[a]? =some x->lO x=true)/\wr=W) (fun z _=>rs.length - (intOf z).toNat)
 case atStart=>exact⟨0,Nat.zero_le _,rfl,fun a x h=>absurd h (Nat.not_lt_zero _),rfl⟩
 case round=>
  obtain⟨j,hj,rfl,hno,hwr⟩:=hrel;subst wr;have NO:=hd_ hno;clear hno
  by_cases hlt:j<rs.length
  ·obtain⟨lb,hlb⟩:∃l,rs[j]? =some l:=⟨_,List.getElem?_eq_getElem hlt⟩
   obtain⟨g6,xb,cb,fb,eg,_,_,rb,rbc,rbm,b3⟩:=lH RR.out hlb;cases eg;have IB:Hid (dE W (.slice xb lb.length cb) lb):=hd_ (by
        obtain⟨v,ev,ho,_⟩:=mI rb
        cases ev
        exact ho)
   have HLB:=hd_ hlb;unfold maxLen at rbm;have j0:(0:Int)<=(j:Int):=o_;have j1:(j:Int)<(rs.length:Int):=o_;clear rb hlb;go_wp2;go_loopw [6] (fun z wr=>∃q:Nat,q<=lb.length/\z=.int .i64 q/\(∀a:Nat,a<q->in6 (lb.getD a 0) 0 63=true)/\wr=W) (fun z _=>lb.length - (intOf z).toNat)
   case atStart=>exact⟨0,Nat.zero_le _,rfl,fun a h=>absurd h (Nat.not_lt_zero _),rfl⟩
   case round=>
    obtain⟨q,hq,rfl,hin,hwr⟩:=hrel;subst wr;have IN:=hd_ hin;clear hin
    by_cases hql:q<lb.length
    ·obtain⟨b6,o6,rfl,c6⟩:=xD IB.out hql
     have KI:=hd_ (mT (lb.getD q 0) 0 63 W);have HV:=hd_ (fun (h:in6 (lb.getD q 0) 0 63=false)=>aGI hql h);have IN2:Hid (in6 (lb.getD q 0) 0 63=true->∀a:Nat,a<q+1->in6 (lb.getD a 0) 0 63=true):=hd_ fun h a ha=>by
      by_cases e:a<q
      ·exact IN.out a e
      ·obtain rfl:a=q:=o_
       exact h
     obtain⟨v,hv⟩:=nm_ (lb.getD q 0);rw[<-hv]at c6 KI HV IN2;clear hv;have q0:(0:Int)<=(q:Int):=o_;have q1:(q:Int)<(lb.length:Int):=o_;generalize in6 v 0 63=t at KI HV IN2
     go_wp2_with fail
     refine KI.out.mono ?_;rintro r w' ⟨rfl,hw'⟩;rw[hw'];clear hw' w' KI;cases t with
     |false=>
      have F:Hid (lD n (i:Int)=false):=hd_ (by rw[FB.out];exact mA HLB.out (HV.out rfl));clear HV IN2;exact zAe
     |true=>
      exact zBj
    ·obtain rfl:q=lb.length:=o_
     by_cases hg:100<lb.length
     ·have F:Hid (lD n (i:Int)=false):=hd_ (by rw[FB.out];exact mA HLB.out (aFc hg))
      have gg:decide ((100:Int)<(lb.length:Int))=true:=by simp;omega
      clear hg;exact zAe
     ·have RO:=hd_ (aKk IN.out hg)
      have gg:decide ((100:Int)<(lb.length:Int))=false:=by simp;omega
      have NO2:Hid (∀(a:Nat) (x:List Int),a<j+1->rs[a]? =some x->lO x=true):=hd_ fun a x ha hx=>by
       exact zBO
      clear hg;go_wp2;exact zBJ
  ·have F:Hid (lD n (i:Int)=true):=hd_ (by rw[FB.out];exact wQ.2 fun a x hx=>NO.out a x (by have:=(List.getElem?_eq_some_iff.1 hx).1;omega) hx)
   obtain rfl:j=rs.length:=o_;exact zAe
theorem lT {z lo hi:Int} {b:Bool} (h:b=in6 z lo hi) (w:World):Calls prog 66 #[iv z,iv lo,iv hi] w fun e w'=>e=.returned (.bool b)/\w'=w:=by
 rw[h];exact mT z lo hi w
theorem aEA (w:World) {x1 x4:Option Addr} {k1 c1 k4 c4:Nat} {v2 v3:Value} {n:Nt} (hn:iP w (.slice x1 k1 c1) v2 v3 (.slice x4 k4 c4) n) (hs:oX n) {i:Nat} (i5:i<5) (hbn:1<=(aA n i).born):
  Calls prog 87 #[.agg #[.slice x1 k1 c1,v2,v3,.slice x4 k4 c4],iv (i:Int)] w fun r w'=>r=.returned (.bool (nQ n i))/\Below w.heap.size w w':=by
 obtain⟨f1,n1⟩:=hn.nodes;obtain⟨f4,n4⟩:=hn.past;obtain rfl:k1=5:=(aT n1).1.trans hs.nodes;obtain rfl:k4=5:=(aT n4).1.trans hs.past;obtain⟨nd,hnd⟩:∃nd,n.nodes[i]? =some nd:=⟨_,List.getElem?_eq_getElem (by rw[hs.nodes];exact i5)⟩
 obtain⟨r0,hr0⟩:∃nd,n.nodes[0]? =some nd:=⟨_,List.getElem?_eq_getElem (by rw[hs.nodes];decide)⟩
 obtain⟨rs,hrs⟩:∃rs,n.past[i]? =some rs:=⟨_,List.getElem?_eq_getElem (by rw[hs.past];exact i5)⟩
 have eN:aA n (i:Int)=nd:=by unfold aA;rw[List.getD_eq_getElem?_getD,Int.toNat_natCast,hnd];rfl
 have e0:aA n 0=r0:=by unfold aA;rw[List.getD_eq_getElem?_getD,show (0:Int).toNat=0 from rfl,hr0];rfl
 have eR:aO n (i:Int)=rs:=by unfold aO;rw[List.getD_eq_getElem?_getD,Int.toNat_natCast,hrs];rfl
 have eL:=hs.rows i i5;rw[eN,eR]at eL;rw[eN]at hbn;obtain⟨j,hj⟩:∃j:Nat,nd.born=j:=⟨nd.born.toNat,o_⟩
 obtain⟨lp,hlp⟩:∃lp,rs[j]? =some lp:=⟨_,List.getElem?_eq_getElem o_⟩
 have eP:aN n (i:Int) nd.born=lp:=by unfold aN;rw[eR,List.getD_eq_getElem?_getD,hj,Int.toNat_natCast,hlp];rfl
 have jr:j<rs.length:=o_
 have NB:Hid (nQ n (i:Int)=((match bM nd.known (i:Int)with|some e=>decide (e.born=nd.born)&&decide (e.num=(lp.length:Int))|none=>false)&&(dY n nd.known&&(if (i:Int)=0 then decide (nd.level=0)&&(decide (nd.up= -1)&&decide (0<=nd.beacon))else in6 nd.beacon 0 r0.beacon&&(in6 nd.level 1 5&&(decide (nd.up= -1↔nd.level=5)&&(in6 nd.up (-1) 4&&decide (nd.up≠(i:Int))))))))):=hd_ (by unfold nQ wL aDM;rw[eN,e0,eP];cases bM nd.known (i:Int)<;>rfl)
 have H0:=(M.start w).alloc #[.slice x1 5 c1,v2,v3,.slice x4 5 c4] 30;have HN:=hd_ hn;have HS:=hd_ hs;have hWB:=H0.below;obtain⟨g1,xk,ck,fk,rfl,_,_,rk,_,_,b0,b1,b2,b3,b4⟩:=cB n1 hnd;obtain⟨_,xk0,ck0,fk0,eg,_,_,_,_,_,z0,z1,z2,z3,z4⟩:=cB n1 hr0;cases eg;obtain⟨g4,xr,cr,fr,rfl,_,_,rr,_,_,y0⟩:=jO n4 hrs;obtain⟨g5,xl,cl,fl,rfl,_,_,_,lc,lm,y1⟩:=lH rr hlp;replace b0:=cell_later hWB b0
 replace b1:=cell_later hWB b1;replace b2:=cell_later hWB b2;replace b3:=cell_later hWB b3;replace b4:=cell_later hWB b4;replace z2:=cell_later hWB z2;replace y0:=cell_later hWB y0;replace y1:=cell_later hWB y1;rw[hj]at b0;have EJ:=hd_ hj;have RK:=hd_ rk;clear hn hs hnd hr0 hrs eN e0 eR eL hbn hlp eP hWB rr n1 n4 rk lc lm z0 z1 z3 z4;simp only[Nat.zero_mul,Nat.zero_add]at z2
 have i0:(0:Int)<=(i:Int):=o_;have i5':(i:Int)<5:=o_;have j0:(0:Int)<=(j:Int):=o_;have j1:(j:Int)<(rs.length:Int):=o_;clear jr hj;go_enter func87,ntmps87;obtain⟨p1,hp1⟩:=nm_ w.heap.size;have HP:=hd_ hp1;obtain⟨w1,hw1⟩:=nm_ (w.alloc (.cells #[.slice (some ⟨g1,0,none⟩) 5 c1,v2,v3,.slice (some ⟨g4,0,none⟩) 5 c4] 30));rw[<-hw1]at H0 b0 b1 b2 b3 b4 z2 y0 y1
 have hw01:Below w.heap.size w w1:=H0.below;have H1:=(H0.alloc #[iv (j:Int),.slice xk nd.known.length ck,iv nd.beacon,iv nd.level,iv nd.up] 55)
 have KO:=hd_ (aEm (w1.alloc (.cells #[iv (j:Int),.slice xk nd.known.length ck,iv nd.beacon,iv nd.level,iv nd.up] 55)) ((aV aP _ _).below RK.out (hw01.trans (((M.start w1).alloc #[iv (j:Int),.slice xk nd.known.length ck,iv nd.beacon,iv nd.level,iv nd.up] 55).below.mono hw01.size)) lr_) (i:Int) (j:Int) nd.beacon nd.level nd.up)
 have C1:Hid (aH w1 [(⟨g1,2,none⟩,.int .i64 r0.beacon),(⟨g4,i,none⟩,.slice (some ⟨g5,0,none⟩) rs.length cr),(⟨g5,j,none⟩,.slice xl lp.length cl)]):=hd_ ⟨z2,y0,y1,trivial⟩;have H:=hd_ H1;rw[hw1]at b0 b1 b2 b3 b4;clear H1 z2 y0 y1 hw01
 go_wp2_with fail
 rw[<-hw1];have hs1:w1.heap.size=w.heap.size+1:=by rw[hw1];simp
 obtain⟨p2,hp2⟩:=nm_ (w.heap.size+1);rw[hs1, <-hp2, <-hp1]at H;rw[<-hp2, <-hp1];clear hw1 hp1 hp2 b0 b1 b2 b3 b4 hs1;refine KO.out.mono ?_;rintro r w3 ⟨⟨u,rfl,hu⟩,hb⟩;have H2:=hd_ (H.out.later hb);have hb1:=((M.start w1).alloc #[iv (j:Int),.slice xk nd.known.length ck,iv nd.beacon,iv nd.level,iv nd.up] 55).below;have C2:=hd_ (C1.out.below (hb1.trans (hb.mono hb1.size)));clear hb KO H hb1
 rcases hu with ⟨e,V,he,_,rfl⟩|⟨he,rfl⟩
 case inr=>
  rw[he]at NB;have h3:=H2.out.alloc #[iv 0,iv 0,iv 0,zn,zn,zn,iv 0,iv 0,zn,iv 0] 64;have H9:=hd_ h3.drew;clear H2 h3 he;go_wp2;refine aC 99 (.tk 0 6 (.alt 6 (.tk 7 24 .done) .nomore)) (fun w'=>True) kr_ kr_ (fun _ _ _ _ _ h=>h) trivial ?_
  repeat (first|refine tC_ ?_|refine tB_ ?_)
  refine aB r_ (fun K' hK=>?_);go_simp;refine hK _ _ (.inr trivial) ?_;clear hK K'
  try refine tP_ ?_
  repeat (first|refine tC_ ?_|refine tB_ ?_)
  refine aD ?_;go_wp2;go_ret;exact⟨by rw[NB.out];rfl,by have:=H9.out.below;rwa[HP.out]at this⟩
 rw[he]at NB;have h3:=H2.out.alloc #[iv e.node,iv e.born,iv e.num,.slice V.xr V.nr V.cr,.slice V.xf V.nf V.cf,.slice V.xt V.nt V.ct,.int .i64 (e.s).lo,.int .i64 (e.s).al,.slice V.xk V.nk V.ck,.int .i64 (e.s).ka] 64;obtain⟨p3,hp3⟩:=nm_ w3.heap.size;rw[<-hp3]at h3
 obtain⟨w4,hw4⟩:=nm_ (w3.alloc (.cells #[iv e.node,iv e.born,iv e.num,.slice V.xr V.nr V.cr,.slice V.xf V.nf V.cf,.slice V.xt V.nt V.ct,.int .i64 (e.s).lo,.int .i64 (e.s).al,.slice V.xk V.nk V.ck,.int .i64 (e.s).ka] 64));rw[<-hw4]at h3;have hb4:Below w3.heap.size w3 w4:=by rw[hw4];exact (Below.refl _ _).alloc lr_ _
 have S0:Hid (aH w4 (b4L p1 (.slice (some ⟨g1,0,none⟩) 5 c1) v2 v3 (.slice (some ⟨g4,0,none⟩) 5 c4)++(b5L p2 (iv (j:Int)) (.slice xk nd.known.length ck) (iv nd.beacon) (iv nd.level) (iv nd.up)++(jJ p3 e.node e.born e.num V e.s++[(⟨g1,2,none⟩,.int .i64 r0.beacon),(⟨g4,i,none⟩,.slice (some ⟨g5,0,none⟩) rs.length cr),(⟨g5,j,none⟩,.slice xl lp.length cl)])))):=hd_ (by
    obtain⟨y0,y1,y2,y3,y4,y5,y6,y7,y8,y9⟩:=h3.cells10
    obtain⟨z0,z1,z2,z3,z4⟩:=h3.p1.cells5
    obtain⟨x0,x1,x2,x3⟩:=h3.p2.cells4
    obtain⟨t1,t2,t3,_⟩:=C2.out.below hb4
    exact⟨x0,x1,x2,x3,z0,z1,z2,z3,z4,y0,y1,y2,y3,y4,y5,y6,y7,y8,y9,t1,t2,t3,trivial⟩)
 obtain⟨W,hW⟩:=nm_ w4.drew;have h4:=h3.drew;rw[<-hW]at h4;have S1:=hd_ (S0.out.below (Below.drew (Below.refl _ _)));rw[<-hW]at S1;have EW:=hd_ hW;have H4:=hd_ h4;have hWB:=h4.below;rw[HP.out]at hWB;have KN:=hd_ (aAR W (HN.out.below hWB lr_) HS.out ((aV aP _ _).below RK.out hWB lr_));clear h3 h4 H2 hW hWB hb4 C2 he;obtain⟨s1,hs1⟩:=nm_ (dY n nd.known);rw[<-hs1]at KN NB
 clear hs1;go_wp2;rw[<-hp3, <-hw4];clear hp3 hw4;rcases s1 with _|_
 case false=>
  refine aC 99 (.tk 0 6 (.alt 6 (.tk 7 24 .done) .nomore)) (fun w'=>aH w' (b4L p1 (.slice (some ⟨g1,0,none⟩) 5 c1) v2 v3 (.slice (some ⟨g4,0,none⟩) 5 c4)++(b5L p2 (iv (j:Int)) (.slice xk nd.known.length ck) (iv nd.beacon) (iv nd.level) (iv nd.up)++(jJ p3 e.node e.born e.num V e.s++[(⟨g1,2,none⟩,.int .i64 r0.beacon),(⟨g4,i,none⟩,.slice (some ⟨g5,0,none⟩) rs.length cr),(⟨g5,j,none⟩,.slice xl lp.length cl)])))) kr_ kr_ (fun _ _ _ _ _ h=>h) (S0.out.below (Below.drew (Below.refl _ _))) ?_
  rw[<-EW.out]
  repeat (first|refine tC_ ?_|refine tB_ ?_)
  refine aB r_ (fun K' hK=>?_);go_simp;refine KN.out.mono ?_;rintro r w5 ⟨rfl,hb⟩;have H9:=hd_ (H4.out.later hb);have S9:=hd_ (S1.out.below hb);refine hK _ _ (.inr S9.out) ?_;clear hK K'
  try refine tP_ ?_
  clear hb KN
  repeat (first|refine tC_ ?_|refine tB_ ?_)
  refine aD ?_;go_wp2;go_ret;exact⟨by rw[NB.out];simp,by have:=H9.out.below;rwa[HP.out]at this⟩
 by_cases eb:e.born=(j:Int)
 case neg=>
  have g1':(e.born != (j:Int))=true:=by simpa using eb
  have F:=hd_ (show decide (e.born=nd.born)=false from decide_eq_false (by rw[EJ.out];exact eb));clear eb
  refine aC 99 (.tk 0 6 (.alt 6 (.tk 7 24 .done) .nomore)) (fun w'=>aH w' (b4L p1 (.slice (some ⟨g1,0,none⟩) 5 c1) v2 v3 (.slice (some ⟨g4,0,none⟩) 5 c4)++(b5L p2 (iv (j:Int)) (.slice xk nd.known.length ck) (iv nd.beacon) (iv nd.level) (iv nd.up)++(jJ p3 e.node e.born e.num V e.s++[(⟨g1,2,none⟩,.int .i64 r0.beacon),(⟨g4,i,none⟩,.slice (some ⟨g5,0,none⟩) rs.length cr),(⟨g5,j,none⟩,.slice xl lp.length cl)])))) kr_ kr_ (fun _ _ _ _ _ h=>h) (S0.out.below (Below.drew (Below.refl _ _))) ?_
  rw[<-EW.out]
  repeat (first|refine tC_ ?_|refine tB_ ?_)
  refine aB r_ (fun K' hK=>?_);go_simp;refine KN.out.mono ?_;rintro r w5 ⟨rfl,hb⟩;have H9:=hd_ (H4.out.later hb);have S9:=hd_ (S1.out.below hb);refine hK _ _ (.inr S9.out) ?_;clear hK K'
  try refine tP_ ?_
  clear hb KN
  repeat (first|refine tC_ ?_|refine tB_ ?_)
  refine aD ?_;go_wp2;go_ret;exact⟨by rw[NB.out];rw[F.out];rfl,by have:=H9.out.below;rwa[HP.out]at this⟩
 have g1':(e.born != (j:Int))=false:=by simpa using eb
 have F1:=hd_ (show decide (e.born=nd.born)=true from decide_eq_true (by rw[EJ.out];exact eb));clear eb
 by_cases en:e.num=(lp.length:Int)
 case neg=>
  have g2':(e.num != (lp.length:Int))=true:=by simpa using en
  have F:=hd_ (show decide (e.num=(lp.length:Int))=false from decide_eq_false en);clear en
  refine aC 99 (.tk 0 6 (.alt 6 (.tk 7 24 .done) .nomore)) (fun w'=>aH w' (b4L p1 (.slice (some ⟨g1,0,none⟩) 5 c1) v2 v3 (.slice (some ⟨g4,0,none⟩) 5 c4)++(b5L p2 (iv (j:Int)) (.slice xk nd.known.length ck) (iv nd.beacon) (iv nd.level) (iv nd.up)++(jJ p3 e.node e.born e.num V e.s++[(⟨g1,2,none⟩,.int .i64 r0.beacon),(⟨g4,i,none⟩,.slice (some ⟨g5,0,none⟩) rs.length cr),(⟨g5,j,none⟩,.slice xl lp.length cl)])))) kr_ kr_ (fun _ _ _ _ _ h=>h) (S0.out.below (Below.drew (Below.refl _ _))) ?_
  rw[<-EW.out]
  repeat (first|refine tC_ ?_|refine tB_ ?_)
  refine aB r_ (fun K' hK=>?_);go_simp;refine KN.out.mono ?_;rintro r w5 ⟨rfl,hb⟩;have H9:=hd_ (H4.out.later hb);have S9:=hd_ (S1.out.below hb);refine hK _ _ (.inr S9.out) ?_;clear hK K'
  try refine tP_ ?_
  clear hb KN
  repeat (first|refine tC_ ?_|refine tB_ ?_)
  refine aD ?_;go_wp2;go_ret;exact⟨by rw[NB.out];rw[F.out];simp,by have:=H9.out.below;rwa[HP.out]at this⟩
 have g2':(e.num != (lp.length:Int))=false:=by simpa using en
 have F2:=hd_ (show decide (e.num=(lp.length:Int))=true from decide_eq_true en);clear en
 refine aC 99 (.tk 0 6 (.alt 6 (.tk 7 24 .done) .nomore)) (fun w'=>aH w' (b4L p1 (.slice (some ⟨g1,0,none⟩) 5 c1) v2 v3 (.slice (some ⟨g4,0,none⟩) 5 c4)++(b5L p2 (iv (j:Int)) (.slice xk nd.known.length ck) (iv nd.beacon) (iv nd.level) (iv nd.up)++(jJ p3 e.node e.born e.num V e.s++[(⟨g1,2,none⟩,.int .i64 r0.beacon),(⟨g4,i,none⟩,.slice (some ⟨g5,0,none⟩) rs.length cr),(⟨g5,j,none⟩,.slice xl lp.length cl)])))) kr_ kr_ (fun _ _ _ _ _ h=>h) (S0.out.below (Below.drew (Below.refl _ _))) ?_
 rw[<-EW.out]
 repeat (first|refine tC_ ?_|refine tB_ ?_)
 refine aB r_ (fun K' hK=>?_);go_simp;refine KN.out.mono ?_;rintro r w5 ⟨rfl,hb⟩;have H9:=hd_ (H4.out.later hb);have S9:=hd_ (S1.out.below hb);refine hK _ _ (.inr S9.out) ?_;clear hK K'
 try refine tP_ ?_
 clear hb KN
 repeat (first|refine tC_ ?_|refine tB_ ?_)
 refine aD ?_;clear S0 S1 H4 EW;rw[F1.out,F2.out]at NB;obtain⟨y0,y1,y2,y3⟩:=H9.out.p2.cells4;obtain⟨z0,z1,z2,z3,z4⟩:=H9.out.p1.cells5
 by_cases hi:i=0
 ·subst hi
  obtain⟨l0,hl0⟩:=nm_ (nd.level==0);obtain⟨u0,hu0⟩:=nm_ (nd.up== -1);obtain⟨b0,hb0⟩:=nm_ (decide (0<=nd.beacon));have NB2:Hid (nQ n ((0:Nat):Int)=(l0&&(u0&&b0))):=hd_ (by rw[NB.out,if_pos r_,hl0,hu0,hb0];rfl);have ga:=hl0.symm;have gb:=hu0.symm;have gc:=hb0.symm;clear hl0 hu0 hb0 NB S9;refine aDq (a:=l0) (b:=u0) ?_ ?_ ?_
  all_goals
   first
    |(intro e1 e2;subst e1 e2)
    |(intro e1;subst e1)
   go_wp2;go_ret;exact⟨by rw[NB2.out];rfl,by have:=H9.out.below;rwa[HP.out]at this⟩
 have hi':((i:Int)==0)=false:=by simpa using hi
 obtain⟨s2,hs2⟩:=nm_ (in6 nd.beacon 0 r0.beacon);obtain⟨s3,hs3⟩:=nm_ (in6 nd.level 1 5);obtain⟨t1,ht1⟩:=nm_ (nd.up== -1);obtain⟨t2,ht2⟩:=nm_ (nd.level==5);obtain⟨s5,hs5⟩:=nm_ (in6 nd.up (-1) 4);obtain⟨t3,ht3⟩:=nm_ (nd.up != (i:Int));have NB2:Hid (nQ n (i:Int)=(s2&&(s3&&((t1==t2)&&(s5&&t3))))):=hd_ (by
    rw[NB.out,if_neg (by simpa using hi),hs2,hs3,hs5]
    have e1:decide (nd.up= -1↔nd.level=5)=(t1==t2):=by
      rw[ht1,ht2]
      exact aLm _ _
    have e2:decide (nd.up≠(i:Int))=t3:=by
      rw[ht3]
      simp only[ne_eq,decide_not];rfl
    rw[e1,e2];simp)
 have K2:=hd_ (lT hs2);have K3:=hd_ (lT hs3);have K5:=hd_ (lT hs5);have ga:=ht1.symm;have gb:=ht2.symm;have gc:=ht3.symm;clear hs2 hs3 ht1 ht2 hs5 ht3 NB;have S8:=hd_ (S9.out.below (Below.drew (Below.refl _ _)));obtain⟨W8,hW8⟩:=nm_ w5.drew;have H8:=H9.out.drew;rw[<-hW8]at H8 S8;have EW8:=hd_ hW8;replace H9:=hd_ H8;clear H8 S9 hW8;obtain⟨tt,htt⟩:=nm_ (t1==t2);rw[<-htt]at NB2
 have gd:=htt.symm;clear htt;refine aFX (a:=s2) (b:=s3) (c:=tt) (d:=s5) (e:=t3) ?_ ?_ ?_ ?_ ?_ ?_
 all_goals
  first
   |(intro e1 e2 e3 e4 e5;subst e1 e2 e3 e4 e5)
   |(intro e1 e2 e3 e4;subst e1 e2 e3 e4)
   |(intro e1 e2 e3;subst e1 e2 e3)
   |(intro e1 e2;subst e1 e2)
   |(intro e1;subst e1)
  go_wp2
  refine aC 99 (.tk 0 7 (.alt 7 (.tk 8 3 (.alt 11 (.tk 12 17 (.alt 29 (.tk 30 7 (.alt 37 .done .nomore)) .nomore)) .nomore)) .nomore)) (fun w'=>aH w' (b4L p1 (.slice (some ⟨g1,0,none⟩) 5 c1) v2 v3 (.slice (some ⟨g4,0,none⟩) 5 c4)++(b5L p2 (iv (j:Int)) (.slice xk nd.known.length ck) (iv nd.beacon) (iv nd.level) (iv nd.up)++(jJ p3 e.node e.born e.num V e.s++[(⟨g1,2,none⟩,.int .i64 r0.beacon),(⟨g4,i,none⟩,.slice (some ⟨g5,0,none⟩) rs.length cr),(⟨g5,j,none⟩,.slice xl lp.length cl)])))) kr_ kr_ (fun _ _ _ _ _ h=>h) (by rw[<-EW8.out];exact S8.out) ?_
  rw[<-EW8.out]
  repeat (first|refine tC_ ?_|refine tB_ ?_)
  refine aB r_ (fun K' hK=>?_);go_simp;refine (K2.out W8).mono ?_;rintro e' w' ⟨rfl,hw'⟩;rw[hw'];clear hw' w';refine hK _ _ (.inr S8.out) ?_;clear hK K'
  try refine tP_ ?_
  repeat (first|refine tC_ ?_|refine tB_ ?_)
  refine aB r_ (fun K' hK=>?_);go_simp
  first
   |(refine (K3.out W8).mono ?_;rintro e' w' ⟨rfl,hw'⟩;rw[hw'];clear hw' w';refine hK _ _ (.inr S8.out) ?_)
   |refine hK _ _ (.inr S8.out) ?_
  clear hK K'
  repeat (first|refine tC_ ?_|refine tB_ ?_)
  refine aB r_ (fun K' hK=>?_);go_simp
  first
   |(refine (K5.out W8).mono ?_;rintro e' w' ⟨rfl,hw'⟩;rw[hw'];clear hw' w';refine hK _ _ (.inr S8.out) ?_)
   |refine hK _ _ (.inr S8.out) ?_
  clear hK K'
  repeat (first|refine tC_ ?_|refine tB_ ?_)
  refine aB r_ (fun K' hK=>?_);go_simp;refine hK _ _ (.inr S8.out) ?_;clear hK K'
  repeat (first|refine tC_ ?_|refine tB_ ?_)
  refine aD ?_;go_wp2;go_ret;exact⟨by rw[NB2.out];rfl,by have:=H9.out.below;rwa[HP.out]at this⟩
end N
end Go.Proofs.YtcblbdpdbggkbaaGreat
namespace Go.Proofs.YtcblbdpdbggkbaaGreat
open _root_.Go.Proofs.Tryz
open Go.RowKit Go.Sort
section
variable {α:Type} {e:TypeId} {size:Nat} {w w' w0:World} {B:Nat} {l:List Ch} {xs ys:List α} {v u:Value} {enc:α->List Value}
def RdL (enc:α->List Value) (w:World) (u:Value) (ys:List α):Prop:=(u=.slice none 0 0/\ys=[])\/∃ad c,u=.slice (some ad) ys.length c/\∀(j:Nat) z,(ys.flatMap enc)[j]? =some z->w.cell? (ad.add j)=some z
theorem RdL.row {n:Nat} {base:Nat} (h:w.ownsRow base e size v n (ys.flatMap enc)) (hn:n=ys.length):RdL enc w v ys:=by
 rcases h.2 with ⟨rfl,q⟩|⟨g,cap,cur,rfl,_,hb,h1,h2,h3,h4⟩
 ·exact .inl ⟨rfl,List.eq_nil_of_length_eq_zero o_⟩
 ·refine .inr ⟨_,cap,by rw[hn],fun j z hz=>?_⟩
  have hj:j<n * size:=by have:=(List.getElem?_eq_some_iff.1 hz).1;rwa[h.1]at this
  rw[Addr.add_mid,Nat.zero_add,World.ownsRow.cellAt h _ hj,hz]
theorem RdL.fl {f:List Nat} (h:flR e size enc w [v] ys f):RdL enc w v ys:=by
 rcases h with h|⟨rfl,_,b,o,e1,_⟩
 ·obtain⟨_,e1,o,_⟩:=eE h
  cases e1;exact RdL.row o rfl
 ·cases e1
  exact .inr ⟨_,0,rfl,fun j z hz=>by simp at hz⟩
theorem aGV {P:Program} {t:TypeId} {z:Value} {bytes:Nat} (T:SlT P t e z size bytes) (hl:∀a,(enc a).length=size) (h1:∀(a:α),∀u ∈ enc a,u.oneCell'=true) (h:M B w0 w (fL (aG enc) e size v xs::l)) (hy:RdL enc w u ys)
  (ty:TypeId) (h63:xs.length+ys.length<=maxLen) (hby:(xs.length+ys.length) * bytes<=140737488355328):
  ∃y cap w',(Builtin.append_ #[t,t] ty #[v,u]).run P w=.ok (.slice y (xs.length+ys.length) cap) w'/\M B w0 w' (fL (aG enc) e size (.slice y (xs.length+ys.length) cap) (xs++ys)::l):=by
 obtain⟨i,hi,hz,hs,hb⟩:=info_parts T.info;obtain⟨f,hf,_⟩:=h.first;obtain⟨_,e1,ho,rfl⟩:=eE hf;cases e1;rcases hy with ⟨rfl,rfl⟩|⟨ad,c,rfl,hc⟩
 ·obtain⟨x,c,rfl⟩:=tH ho
  exact⟨x,c,w,run_append_owned_none (P:=P) (w:=w) 0 t ty e i size T.und hi _ _ _ ho,by rw[List.append_nil];exact h⟩
 ·have fl:∀zs:List α,(zs.flatMap enc).length=zs.length * size:=fun zs=>by
   induction zs with
   |nil=>simp
   |cons a zs ih=>rw[List.flatMap_cons,List.length_append,ih,hl,List.length_cons,Nat.succ_mul,Nat.add_comm]
  obtain⟨v',w',hr,h2,h3,_,h4⟩:=run_append_own_at (P:=P) w 0 t ty e i z size bytes T.und hi hz hs hb T.zs T.pos v xs.length (xs.flatMap enc) ho ad ys.length c (ys.flatMap enc) (fl ys) hc
   (fun q hq=>by obtain⟨a,_,ha⟩:=List.mem_flatMap.1 hq;exact h1 a q ha) h63 hby (Nat.zero_le _)
  obtain⟨y,cap,rfl⟩:=tH h2;refine⟨y,cap,w',hr,h.turn fun f hf nd lo=>?_⟩;obtain⟨_,e1,_,rfl⟩:=eE hf;cases e1;refine⟨⟨h3.os,h3.tape,h3.output,h3.size,fun k hk hs=>h3.block k hk fun q=>hs (by rw[<-q];simp)⟩,_,kD (enc:=enc) (xs:=xs++ys) (by rw[List.flatMap_append,List.length_append];exact h2) hl,fW _,fun b hb=>?_⟩;rcases h4 with q|q
  ·rw[q]at hb;exact .inl hb
  ·rw[q]at hb
   rw[show b=w.heap.size by simpa using hb];exact .inr lr_
theorem aJx {P:Program} {t:TypeId} {z:Value} {bytes:Nat} (T:SlT P t e z size bytes) (hl:∀a,(enc a).length=size) (h1:∀(a:α),∀u ∈ enc a,u.oneCell'=true) (h:M B w0 w (fL (aG enc) e size v xs::l)) (hy:RdL enc w u ys)
  {o:Oper} {a:Act} {K:Act->World->Prop} {Q:Exit->Act->World->Prop} {s x:Operand} (ho:o.op=.call { callee:=.builtin .append,args:=#[s,x],argTypes:=#[t,t] }) {N:Nat} (hs:a.eval s=v) (hu:a.eval x=u)
  (h63:xs.length+ys.length<=maxLen) (hby:(xs.length+ys.length) * bytes<=140737488355328) (hN:N=xs.length+ys.length)
  (k:∀y cap w',M B w0 w' (fL (aG enc) e size (.slice y N cap) (xs++ys)::l)->K (a.put o.dst (.slice y N cap)) w'):o.wp P a w K Q:=by
 obtain⟨y,cap,w',hr,hM⟩:=aGV T hl h1 h hy o.type h63 hby;unfold Oper.wp execOp;simp only[ho,resolve,invoke,builtin,Sem.run_bind,Sem.run_pure,Result.andThen_ok,List.map_toArray,List.map_cons,List.map_nil,hs,hu,hr];rw[hN]at k;exact k y cap w' hM
theorem dW {P:Program} {t:TypeId} {z:Value} {bytes:Nat} (T:SlT P t e z size bytes) (hl:∀a,(enc a).length=size) (h1:∀(a:α),∀u ∈ enc a,u.oneCell'=true) (h:M B w0 w (fL (aG enc) e size v xs::l)) (hy:RdL enc w u ys)
  {ops:Array Oper} {rest:List Oper} {o:Oper} {a:Act} {Q:Exit->Act->World->Prop} {s x:Operand} (hgd:o.guard=none) (ho:o.op=.call { callee:=.builtin .append,args:=#[s,x],argTypes:=#[t,t] }) {N:Nat} (hs:a.eval s=v) (hu:a.eval x=u)
  (h63:xs.length+ys.length<=maxLen) (hby:(xs.length+ys.length) * bytes<=140737488355328) (hN:N=xs.length+ys.length)
  (k:∀y cap w',M B w0 w' (fL (aG enc) e size (.slice y N cap) (xs++ys)::l)->wpList P ops Q rest (a.put o.dst (.slice y N cap)) w'):wpList P ops Q (o::rest) a w:=
 wpList_plain hgd fun _ hK=>aJx T hl h1 h hy ho hs hu h63 hby hN fun y cap w' hM=>hK _ _ (k y cap w' hM)
theorem bR {P:Program} {t:TypeId} {z:Value} {bytes:Nat} (T:SlT P t e z size bytes) (hl:∀a,(enc a).length=size) (h1:∀(a:α),∀u ∈ enc a,u.oneCell'=true) (h:M B w0 w (fL (aG enc) e size v xs::l)) (hy:RdL enc w u ys)
  {ops:Array Oper} {o:Oper} {a:Act} {K:Act->World->Prop} {Q:Exit->Act->World->Prop} {E:Prop} {s x:Operand} (hgd:o.guard=none) (ho:o.op=.call { callee:=.builtin .append,args:=#[s,x],argTypes:=#[t,t] }) {N:Nat} (hs:a.eval s=v) (hu:a.eval x=u)
  (h63:xs.length+ys.length<=maxLen) (hby:(xs.length+ys.length) * bytes<=140737488355328) (hN:N=xs.length+ys.length)
  (k:∀y cap w',M B w0 w' (fL (aG enc) e size (.slice y N cap) (xs++ys)::l)->K (a.put o.dst (.slice y N cap)) w'):if Region.wanted o (yielded ops a.tmps)=true then Oper.wp P o a w K Q else E:=by
 rw[if_pos (by simp[Region.wanted,hgd])];exact aJx T hl h1 h hy ho hs hu h63 hby hN k
end
end Go.Proofs.YtcblbdpdbggkbaaGreat
namespace Go.Proofs.YtcblbdpdbggkbaaGreat
open _root_.Go.Proofs.Tryz
open Go.RowKit Go.Sort
namespace N
theorem aHH (x y:Option Addr) (n m c d:Nat) (w:World) (h:n≠m\/(n=0/\m=0)):
  Calls prog 256 #[.slice x n c,.slice y m d] w fun e w'=>e=.returned (.bool (decide (n=m)))/\Below w.heap.size w w':=by
 rcases h with h|⟨rfl,rfl⟩
 ·have hn:((n:Int) != (m:Int))=true:=by simp;omega
  go_enter func256,ntmps256;exact zBh
 ·go_enter func256,ntmps256
  exact zAN
theorem aJD (w:World) {x y:Option Addr} {n m c d:Nat} {ps qs:List Int} (h1:dE w (.slice x n c) ps) (h2:dE w (.slice y m d) qs):
  Calls prog 256 #[.slice x n c,.slice y m d] w fun e w'=>e=.returned (.bool (decide (ps=qs)))/\Below w.heap.size w w':=by
 obtain rfl:n=ps.length:=h1.len;obtain rfl:m=qs.length:=h2.len;have hm:=aAX h1;unfold maxLen at hm
 by_cases hs:ps.length≠qs.length\/(ps.length=0/\qs.length=0)
 ·refine (aHH x y _ _ c d w hs).mono fun e w' ⟨he,hw⟩=>⟨?_,hw⟩
  exact zAg
 have el:ps.length=qs.length:=o_;have g0:((ps.length:Int) != (qs.length:Int))=false:=by simp;omega
 have HL:=hd_ el;have R1:=hd_ h1;have R2:=hd_ h2;clear h1 h2 hs el;go_enter func256,ntmps256;go_wp2;clear g0;go_loopw [13] (fun i wr=>∃k:Nat,k<=ps.length/\i=.int .i64 k/\(∀j,j<k->ps.getD j 0=qs.getD j 0)/\Below w.heap.size w wr) (fun i _=>ps.length - (intOf i).toNat)
 case atStart=>exact⟨0,Nat.zero_le _,rfl,fun _ h=>absurd h (Nat.not_lt_zero _),Below.refl _ _⟩
 case round=>
  obtain⟨k,hk,rfl,heq,hb⟩:=hrel;have HE:=hd_ heq;have HB:=hd_ hb;clear heq hb
  by_cases hlt:k<ps.length
  ·obtain⟨b1,o1,rfl,ra1⟩:=xD (R1.out.below HB.out lr_) hlt
   obtain⟨b2,o2,rfl,ra2⟩:=xD (R2.out.below HB.out lr_) (j:=k) (by rw[<-HL.out];exact hlt);obtain⟨x1,hx1⟩:=nm_ (ps.getD k 0);obtain⟨x2,hx2⟩:=nm_ (qs.getD k 0);rw[<-hx1]at ra1;rw[<-hx2]at ra2;have X1:=hd_ hx1;have X2:=hd_ hx2;clear hx1 hx2;have k0:(0:Int)<=(k:Int):=o_;have k1:(k:Int)<(ps.length:Int):=o_;have k2:(k:Int)<(qs.length:Int):=by have:=HL.out;omega
   have B2:=hd_ (Below.drew HB.out);go_wp2;refine aC 99 (.tk 0 9 .done) (fun w'=>w'.cell? ⟨b1,o1+k,Option.none⟩=some (.int .i64 x1)/\w'.cell? ⟨b2,o2+k,Option.none⟩=some (.int .i64 x2)) kr_ kr_ (fun _ _ _ _ _ h=>h) ⟨ra1,ra2⟩ ?_;clear ra1 ra2
   by_cases eq:x1=x2
   case neg=>
    have F:=hd_ (show decide (ps=qs)=false from decide_eq_false fun e=>eq (by rw[X1.out,X2.out,e]));have ex:(x1 != x2)=true:=by simpa using eq
    clear eq
    exact zAw
   have HE2:Hid (∀j,j<k+1->ps.getD j 0=qs.getD j 0):=hd_ fun j hj=>by
    by_cases h:j<k
    ·exact HE.out j h
    ·obtain rfl:j=k:=o_
     rw[<-X1.out, <-X2.out,eq]
   subst eq
   exact zAJ
  ·have F:Hid (decide (ps=qs)=true):=hd_ (iH (d:=0) rfl HL.out.symm (fun i hi=>HE.out i o_))
   exact zAG
theorem aBu (x y:Option Addr) (n m c d:Nat) (w:World) (h:n≠m\/(n=0/\m=0)):
  Calls prog 257 #[.slice x n c,.slice y m d] w fun e w'=>e=.returned (.bool (decide (n=m)))/\Below w.heap.size w w':=by
 rcases h with h|⟨rfl,rfl⟩
 ·have hn:((n:Int) != (m:Int))=true:=by simp;omega
  go_enter func257,ntmps257;exact zBh
 ·go_enter func257,ntmps257
  exact zAN
theorem aLs (w:World) {x y:Option Addr} {n m c d:Nat} {ps qs:List (Int × Int)} (h1:T.Prs w (.slice x n c) ps) (h2:T.Prs w (.slice y m d) qs):
  Calls prog 257 #[.slice x n c,.slice y m d] w fun e w'=>e=.returned (.bool (decide (ps=qs)))/\Below w.heap.size w w':=by
 obtain⟨_,_,e1,l1,l2⟩:=h1.form;obtain⟨_,_,e2,_,_⟩:=h2.form;obtain rfl:n=ps.length:=(Value.slice.inj e1).2.1;obtain rfl:m=qs.length:=(Value.slice.inj e2).2.1;have hm:ps.length<=maxLen:=o_;unfold maxLen at hm;clear e1 e2 l1 l2
 by_cases hs:ps.length≠qs.length\/(ps.length=0/\qs.length=0)
 ·refine (aBu x y _ _ c d w hs).mono fun e w' ⟨he,hw⟩=>⟨?_,hw⟩
  exact zAg
 have el:ps.length=qs.length:=o_;have g0:((ps.length:Int) != (qs.length:Int))=false:=by simp;omega
 have HL:=hd_ el;have R1:=hd_ h1;have R2:=hd_ h2;clear h1 h2 hs el;go_enter func257,ntmps257;go_wp2;clear g0;go_loopw [13] (fun i wr=>∃k:Nat,k<=ps.length/\i=.int .i64 k/\(∀j,j<k->T.pr ps j=T.pr qs j)/\Below w.heap.size w wr) (fun i _=>ps.length - (intOf i).toNat)
 case atStart=>exact⟨0,Nat.zero_le _,rfl,fun _ h=>absurd h (Nat.not_lt_zero _),Below.refl _ _⟩
 case round=>
  obtain⟨k,hk,rfl,heq,hb⟩:=hrel;have HE:=hd_ heq;have HB:=hd_ hb;clear heq hb
  by_cases hlt:k<ps.length
  ·obtain⟨b1,o1,rfl,_,ra1,rb1⟩:=(R1.out.below HB.out lr_).cells k hlt
   obtain⟨b2,o2,rfl,_,ra2,rb2⟩:=(R2.out.below HB.out lr_).cells k (by rw[<-HL.out];exact hlt);obtain⟨x1,hx1⟩:=nm_ ((T.pr ps k).1);obtain⟨y1,hy1⟩:=nm_ ((T.pr ps k).2);obtain⟨x2,hx2⟩:=nm_ ((T.pr qs k).1);obtain⟨y2,hy2⟩:=nm_ ((T.pr qs k).2);rw[<-hx1]at ra1;rw[<-hy1]at rb1;rw[<-hx2]at ra2;rw[<-hy2]at rb2;have EQ:Hid (T.pr ps k=T.pr qs k↔x1=x2/\y1=y2):=hd_ (by rw[hx1,hx2,hy1,hy2];exact Prod.ext_iff)
   clear hx1 hx2 hy1 hy2;have k0:(0:Int)<=(k:Int):=o_;have k1:(k:Int)<(ps.length:Int):=o_;have k2:(k:Int)<(qs.length:Int):=by have:=HL.out;omega
   have B2:=hd_ (Below.drew HB.out);go_wp2;refine aC 99 (.tk 0 9 .done) (fun w'=>w'.cell? ⟨b1,o1+k * 2,Option.none⟩=some (.int .i64 x1)/\w'.cell? ⟨b1,o1+k * 2+1,Option.none⟩=some (.int .i64 y1)/\w'.cell? ⟨b2,o2+k * 2,Option.none⟩=some (.int .i64 x2)/\w'.cell? ⟨b2,o2+k * 2+1,Option.none⟩=some (.int .i64 y2)) kr_ kr_ (fun _ _ _ _ _ h=>h) ⟨ra1,rb1,ra2,rb2⟩ ?_
   clear ra1 rb1 ra2 rb2
   by_cases eq:x1=x2/\y1=y2
   case neg=>
    exact zAF
   have HE2:Hid (∀j,j<k+1->T.pr ps j=T.pr qs j):=hd_ fun j hj=>by
    exact zA4
   obtain⟨rfl,rfl⟩:=eq;clear EQ
   exact zAJ
  ·exact zBI
theorem aBx (x y:Option Addr) (n m c d:Nat) (w:World) (h:n≠m\/(n=0/\m=0)):
  Calls prog 258 #[.slice x n c,.slice y m d] w fun e w'=>e=.returned (.bool (decide (n=m)))/\Below w.heap.size w w':=by
 rcases h with h|⟨rfl,rfl⟩
 ·have hn:((n:Int) != (m:Int))=true:=by simp;omega
  go_enter func258,ntmps258;exact zBh
 ·go_enter func258,ntmps258
  exact zAN
theorem aKL (w:World) {x y:Option Addr} {n m c d:Nat} {ps qs:List (Int × Int)} (h1:K.Prs w (.slice x n c) ps) (h2:K.Prs w (.slice y m d) qs):
  Calls prog 258 #[.slice x n c,.slice y m d] w fun e w'=>e=.returned (.bool (decide (ps=qs)))/\Below w.heap.size w w':=by
 obtain⟨_,_,e1,l1,l2⟩:=h1.form;obtain⟨_,_,e2,_,_⟩:=h2.form;obtain rfl:n=ps.length:=(Value.slice.inj e1).2.1;obtain rfl:m=qs.length:=(Value.slice.inj e2).2.1;have hm:ps.length<=maxLen:=o_;unfold maxLen at hm;clear e1 e2 l1 l2
 by_cases hs:ps.length≠qs.length\/(ps.length=0/\qs.length=0)
 ·refine (aBx x y _ _ c d w hs).mono fun e w' ⟨he,hw⟩=>⟨?_,hw⟩
  exact zAg
 have el:ps.length=qs.length:=o_;have g0:((ps.length:Int) != (qs.length:Int))=false:=by simp;omega
 have HL:=hd_ el;have R1:=hd_ h1;have R2:=hd_ h2;clear h1 h2 hs el;go_enter func258,ntmps258;go_wp2;clear g0;go_loopw [13] (fun i wr=>∃k:Nat,k<=ps.length/\i=.int .i64 k/\(∀j,j<k->K.pr ps j=K.pr qs j)/\Below w.heap.size w wr) (fun i _=>ps.length - (intOf i).toNat)
 case atStart=>exact⟨0,Nat.zero_le _,rfl,fun _ h=>absurd h (Nat.not_lt_zero _),Below.refl _ _⟩
 case round=>
  obtain⟨k,hk,rfl,heq,hb⟩:=hrel;have HE:=hd_ heq;have HB:=hd_ hb;clear heq hb
  by_cases hlt:k<ps.length
  ·obtain⟨b1,o1,rfl,_,ra1,rb1⟩:=(R1.out.below HB.out lr_).cells k hlt
   obtain⟨b2,o2,rfl,_,ra2,rb2⟩:=(R2.out.below HB.out lr_).cells k (by rw[<-HL.out];exact hlt);obtain⟨x1,hx1⟩:=nm_ ((K.pr ps k).1);obtain⟨y1,hy1⟩:=nm_ ((K.pr ps k).2);obtain⟨x2,hx2⟩:=nm_ ((K.pr qs k).1);obtain⟨y2,hy2⟩:=nm_ ((K.pr qs k).2);rw[<-hx1]at ra1;rw[<-hy1]at rb1;rw[<-hx2]at ra2;rw[<-hy2]at rb2;have EQ:Hid (K.pr ps k=K.pr qs k↔x1=x2/\y1=y2):=hd_ (by rw[hx1,hx2,hy1,hy2];exact Prod.ext_iff)
   clear hx1 hx2 hy1 hy2;have k0:(0:Int)<=(k:Int):=o_;have k1:(k:Int)<(ps.length:Int):=o_;have k2:(k:Int)<(qs.length:Int):=by have:=HL.out;omega
   have B2:=hd_ (Below.drew HB.out);go_wp2;refine aC 99 (.tk 0 9 .done) (fun w'=>w'.cell? ⟨b1,o1+k * 2,Option.none⟩=some (.int .i64 x1)/\w'.cell? ⟨b1,o1+k * 2+1,Option.none⟩=some (.int .i64 y1)/\w'.cell? ⟨b2,o2+k * 2,Option.none⟩=some (.int .i64 x2)/\w'.cell? ⟨b2,o2+k * 2+1,Option.none⟩=some (.int .i64 y2)) kr_ kr_ (fun _ _ _ _ _ h=>h) ⟨ra1,rb1,ra2,rb2⟩ ?_
   clear ra1 rb1 ra2 rb2
   by_cases eq:x1=x2/\y1=y2
   case neg=>
    exact zAF
   have HE2:Hid (∀j,j<k+1->K.pr ps j=K.pr qs j):=hd_ fun j hj=>by
    exact zA4
   obtain⟨rfl,rfl⟩:=eq;clear EQ
   exact zAJ
  ·exact zBI
theorem aHG (x y:Option Addr) (n m c d:Nat) (w:World) (h:n≠m\/(n=0/\m=0)):
  Calls prog 255 #[.slice x n c,.slice y m d,.func (.func 256) #[] #[]] w fun e w'=>e=.returned (.bool (decide (n=m)))/\Below w.heap.size w w':=by
 rcases h with h|⟨rfl,rfl⟩
 ·have hn:((n:Int) != (m:Int))=true:=by simp;omega
  go_enter func255,ntmps255;exact zBh
 ·go_enter func255,ntmps255
  exact zAN
theorem aL0 (w:World) {x y:Option Addr} {n m c d:Nat} {ps qs:List (List Int)} (h1:Rws w (.slice x n c) ps) (h2:Rws w (.slice y m d) qs):
  Calls prog 255 #[.slice x n c,.slice y m d,.func (.func 256) #[] #[]] w fun e w'=>e=.returned (.bool (decide (ps=qs)))/\Below w.heap.size w w':=by
 obtain rfl:n=ps.length:=h1.len;obtain rfl:m=qs.length:=h2.len;have hm:=aGF h1;unfold maxLen at hm
 by_cases hs:ps.length≠qs.length\/(ps.length=0/\qs.length=0)
 ·refine (aHG x y _ _ c d w hs).mono fun e w' ⟨he,hw⟩=>⟨?_,hw⟩
  exact zAg
 have el:ps.length=qs.length:=o_;have g0:((ps.length:Int) != (qs.length:Int))=false:=by simp;omega
 have HL:=hd_ el;have R1:=hd_ h1;have R2:=hd_ h2;clear h1 h2 hs el;go_enter func255,ntmps255;go_wp2;clear g0;go_loopw [17] (fun i wr=>∃k:Nat,k<=ps.length/\i=.int .i64 k/\(∀j,j<k->ps.getD j []=qs.getD j [])/\Below w.heap.size w wr) (fun i _=>ps.length - (intOf i).toNat)
 case atStart=>exact⟨0,Nat.zero_le _,rfl,fun _ h=>absurd h (Nat.not_lt_zero _),Below.refl _ _⟩
 case round=>
  obtain⟨k,hk,rfl,heq,hb⟩:=hrel;have HE:=hd_ heq;have HB:=hd_ hb;clear heq hb
  by_cases hlt:k<ps.length
  ·obtain⟨b1,o1,u1,rfl,ra1,i1⟩:=aCR (R1.out.below HB.out lr_) hlt
   obtain⟨b2,o2,u2,rfl,ra2,i2⟩:=aCR (R2.out.below HB.out lr_) (k:=k) (by rw[<-HL.out];exact hlt);obtain⟨⟨z1,c1,rfl⟩,_⟩:=i1.cases;obtain⟨⟨z2,c2,rfl⟩,_⟩:=i2.cases;have KE:=hd_ (aJD wr i1 i2);obtain⟨x1,hx1⟩:=nm_ (ps.getD k []);obtain⟨x2,hx2⟩:=nm_ (qs.getD k []);rw[<-hx1]at ra1 KE;rw[<-hx2]at ra2 KE;have X1:=hd_ hx1;have X2:=hd_ hx2;clear hx1 hx2 i1 i2;generalize x1.length=n1 at ra1 KE
   generalize x2.length=n2 at ra2 KE;have k0:(0:Int)<=(k:Int):=o_;have k1:(k:Int)<(ps.length:Int):=o_;have k2:(k:Int)<(qs.length:Int):=by have:=HL.out;omega
   by_cases eq:x1=x2
   case neg=>
    have F:=hd_ (show decide (ps=qs)=false from decide_eq_false fun e=>eq (by rw[X1.out,X2.out,e]));rw[decide_eq_false eq]at KE;clear eq
    go_wp2_with fail
    refine KE.out.mono ?_;rintro e w3 ⟨rfl,hb⟩;have B2:=hd_ (HB.out.trans (hb.mono HB.out.size));clear KE hb HB ra1 ra2;go_wp2;go_ret;exact⟨by rw[F.out];rfl,B2.out⟩
   rw[decide_eq_true eq]at KE;have HE2:Hid (∀j,j<k+1->ps.getD j []=qs.getD j []):=hd_ fun j hj=>by
    by_cases h:j<k
    ·exact HE.out j h
    ·obtain rfl:j=k:=o_
     rw[<-X1.out, <-X2.out,eq]
   clear eq
   go_wp2_with fail
   refine KE.out.mono ?_;rintro e w3 ⟨rfl,hb⟩;have B2:=hd_ (HB.out.trans (hb.mono HB.out.size));clear KE hb HB ra1 ra2;go_wp2;go_roundw
   case rel=>exact⟨k+1,o_,gn_,HE2.out,B2.out⟩
   case measure=>simp[intOf];omega
  ·have F:Hid (decide (ps=qs)=true):=hd_ (iH (d:=[]) rfl HL.out.symm (fun i hi=>HE.out i o_))
   exact zAG
theorem vP (w:World) {V1 V2:SV} {s1 s2:Sm} (h1:RdS w V1 s1) (h2:RdS w V2 s2):
  Calls prog 199 #[.agg #[.slice V1.xr V1.nr V1.cr,.slice V1.xf V1.nf V1.cf,.slice V1.xt V1.nt V1.ct,iv s1.lo,iv s1.al,.slice V1.xk V1.nk V1.ck,iv s1.ka],.agg #[.slice V2.xr V2.nr V2.cr,.slice V2.xf V2.nf V2.cf,.slice V2.xt V2.nt V2.ct,iv s2.lo,iv s2.al,.slice V2.xk V2.nk V2.ck,iv s2.ka]] w fun e w'=>e=.returned (.bool (mO s1 s2))/\Below w.heap.size w w':=by
 have H0:=((M.start w).alloc (cS V1 s1) 46).alloc (cS V2 s2) 46;simp only[World.size_alloc]at H0;obtain⟨p1,hp1⟩:=nm_ w.heap.size;obtain⟨p2,hp2⟩:=nm_ (w.heap.size+1);have HP:=hd_ hp1;have HP2:=hd_ hp2;obtain⟨w1,hw1⟩:=nm_ ((w.alloc (.cells (cS V1 s1) 46)).alloc (.cells (cS V2 s2) 46));rw[<-hp2, <-hp1, <-hw1]at H0;have R1:=hd_ h1;have R2:=hd_ h2;have H:=hd_ H0;obtain⟨b0,hb0⟩:=nm_ (decide (s1.rs=s2.rs))
 obtain⟨b1,hb1⟩:=nm_ (decide (s1.zs=s2.zs));obtain⟨b2,hb2⟩:=nm_ (decide (s1.ps=s2.ps));obtain⟨b3,hb3⟩:=nm_ (s1.lo==s2.lo);obtain⟨b4,hb4⟩:=nm_ (s1.al==s2.al);obtain⟨b5,hb5⟩:=nm_ (decide (s1.ks=s2.ks));obtain⟨b6,hb6⟩:=nm_ (s1.ka==s2.ka);have SS:Hid (mO s1 s2=(b0&&(b1&&(b2&&(b3&&(b4&&(b5&&b6))))))):=hd_ (by
    unfold mO
    rw[hb0,hb1,hb2,hb3,hb4,hb5,hb6]
    rfl)
 have K0:=hd_ (fun W (hb:Below w.heap.size w W)=>aL0 W (R1.out.r.below hb lr_) (R2.out.r.below hb lr_));have K1:=hd_ (fun W (hb:Below w.heap.size w W)=>aJD W (R1.out.f.below hb lr_) (R2.out.f.below hb lr_));have K2:=hd_ (fun W (hb:Below w.heap.size w W)=>aLs W (R1.out.t.below hb lr_) (R2.out.t.below hb lr_))
 have K5:=hd_ (fun W (hb:Below w.heap.size w W)=>aKL W (R1.out.k.below hb lr_) (R2.out.k.below hb lr_));rw[<-hb0]at K0;rw[<-hb1]at K1;rw[<-hb2]at K2;rw[<-hb5]at K5;have g3:=hb3.symm;have g4:=hb4.symm;have g6:=hb6.symm;obtain⟨c0,c1,c2,c3,c4,c5,c6⟩:=H0.p1.cells7;obtain⟨d0,d1,d2,d3,d4,d5,d6⟩:=H0.cells7;rw[hw1,hp1]at c0 c1 c2 c3 c4 c5 c6;rw[hw1,hp2]at d0 d1 d2 d3 d4 d5 d6
 clear h1 h2 H0 hb0 hb1 hb2 hb3 hb4 hb5 hb6;go_enter func199,ntmps199
 go_wp2_with fail
 rw[<-hw1, <-hp2, <-hp1];clear hw1 hp1 hp2 c0 c1 c2 c3 c4 c5 c6 d0 d1 d2 d3 d4 d5 d6;refine (K0.out _ (by have:=H.out.below;rwa[HP.out]at this)).mono ?_;rintro e w2 ⟨rfl,hb⟩;replace H:=hd_ (H.out.later hb);clear hb K0;rcases b0 with _|_
 case false=>
  exact zAj
 obtain⟨c0,c1,c2,c3,c4,c5,c6⟩:=H.out.p1.cells7;obtain⟨d0,d1,d2,d3,d4,d5,d6⟩:=H.out.cells7
 go_wp2_with fail
 clear c0 c1 c2 c3 c4 c5 c6 d0 d1 d2 d3 d4 d5 d6;refine (K1.out _ (by have:=H.out.below;rwa[HP.out]at this)).mono ?_;rintro e w2 ⟨rfl,hb⟩;replace H:=hd_ (H.out.later hb);clear hb K1;rcases b1 with _|_
 case false=>
  exact zAj
 obtain⟨c0,c1,c2,c3,c4,c5,c6⟩:=H.out.p1.cells7;obtain⟨d0,d1,d2,d3,d4,d5,d6⟩:=H.out.cells7
 go_wp2_with fail
 clear c0 c1 c2 c3 c4 c5 c6 d0 d1 d2 d3 d4 d5 d6;refine (K2.out _ (by have:=H.out.below;rwa[HP.out]at this)).mono ?_;rintro e w2 ⟨rfl,hb⟩;replace H:=hd_ (H.out.later hb);clear hb K2;rcases b2 with _|_
 case false=>
  exact zAj
 obtain⟨c0,c1,c2,c3,c4,c5,c6⟩:=H.out.p1.cells7;obtain⟨d0,d1,d2,d3,d4,d5,d6⟩:=H.out.cells7;rcases b3 with _|_
 case false=>
  exact zBe
 rcases b4 with _|_
 case false=>
  exact zBe
 go_wp2_with fail
 clear c0 c1 c2 c3 c4 c5 c6 d0 d1 d2 d3 d4 d5 d6;refine (K5.out _ (by have:=H.out.below;rwa[HP.out]at this)).mono ?_;rintro e w2 ⟨rfl,hb⟩;replace H:=hd_ (H.out.later hb);clear hb K5;rcases b5 with _|_
 case false=>
  exact zAj
 obtain⟨c0,c1,c2,c3,c4,c5,c6⟩:=H.out.p1.cells7;obtain⟨d0,d1,d2,d3,d4,d5,d6⟩:=H.out.cells7;rcases b6 with _|_
 case false=>
  exact zBe
 go_wp2;go_ret;exact⟨by rw[SS.out];rfl,by have:=H.out.below;rwa[HP.out]at this⟩
theorem aDv (w:World) {xk:Option Addr} {k ck:Nat} {es:List En} {f:List Nat} (h:gD TY w [.slice xk k ck] es f) (i:Int):
  Calls prog 155 #[.slice xk k ck,iv i] w fun r w'=>(∃u,r=.returned u/\((∃e V,bM es i=some e/\RdS w V e.s/\u=aAn V e)\/(bM es i=none/\u=xW)))/\Below w.heap.size w w':=by
 obtain rfl:k=es.length:=(aT h).1;obtain⟨_,_,e1,q1,q2⟩:=cM h;have hm:es.length<=maxLen:=Nat.le_trans q1 q2;unfold maxLen at hm;clear e1 q1 q2;have H1:=hd_ h;clear h;have H0:=hd_ ((M.start w).alloc #[iv 0,iv 0,iv 0,zn,zn,zn,iv 0,iv 0,zn,iv 0] 64);go_enter func155,ntmps155;go_wp2;obtain⟨p1,hp1⟩:=nm_ w.heap.size;have HP:=hd_ hp1;rw[<-hp1]at H0;rw[<-hp1];clear hp1
 generalize (w.alloc (.cells #[iv 0,iv 0,iv 0,zn,zn,zn,iv 0,iv 0,zn,iv 0] 64))=w1 at H0 ⊢;go_loopw [9] (fun z wr=>∃j:Nat,j<=es.length/\z=.int .i64 j/\(∀(a:Nat) (x:En),a<j->es[a]? =some x->x.node≠i)/\M p1 w wr [aL p1 64 #[iv 0,iv 0,iv 0,zn,zn,zn,iv 0,iv 0,zn,iv 0]]) (fun z _=>es.length - (intOf z).toNat)
 case atStart=>exact⟨0,Nat.zero_le _,rfl,fun a x h=>absurd h (Nat.not_lt_zero _),H0.out⟩
 case round=>
  clear H0;obtain⟨j,hj,rfl,hno,hm'⟩:=hrel;have NO:=hd_ hno;have H:=hd_ hm';clear hno hm';have hWB:=H.out.below;rw[HP.out]at hWB;obtain⟨d0,d1,d2,d3,d4,d5,d6,d7,d8,d9⟩:=H.out.cells10
  by_cases hlt:j<es.length
  ·obtain⟨x,hx⟩:∃x,es[j]? =some x:=⟨_,List.getElem?_eq_getElem hlt⟩
   obtain⟨g,V,fe,rfl,_,_,sr,ca0,ca1,ca2,cas⟩:=gY H1.out hx;have RV:=hd_ (aBf sr);replace ca0:=cell_later hWB ca0;replace ca1:=cell_later hWB ca1;replace ca2:=cell_later hWB ca2;have ca3:=cell_later hWB (cas 0 _ rfl);have ca4:=cell_later hWB (cas 1 _ rfl);have ca5:=cell_later hWB (cas 2 _ rfl);have ca6:=cell_later hWB (cas 3 _ rfl);have ca7:=cell_later hWB (cas 4 _ rfl)
   have ca8:=cell_later hWB (cas 5 _ rfl);have ca9:=cell_later hWB (cas 6 _ rfl);clear cas hWB sr;have k0:(0:Int)<=(j:Int):=o_;have k1:(j:Int)<(es.length:Int):=o_;have h2:=H.out.alloc #[iv x.node,iv x.born,iv x.num,.slice V.xr V.nr V.cr,.slice V.xf V.nf V.cf,.slice V.xt V.nt V.ct,.int .i64 (x.s).lo,.int .i64 (x.s).al,.slice V.xk V.nk V.ck,.int .i64 (x.s).ka] 64
   by_cases eq:x.node=i
   ·have g0:(x.node==i)=true:=by simpa using eq
    have F:=hd_ (aC3 NO.out hx eq);have ef:=h2.p1.free;have N:=hd_ (h2.p1.set10 (iv x.node) (iv x.born) (iv x.num) (.slice V.xr V.nr V.cr) (.slice V.xf V.nf V.cf) (.slice V.xt V.nt V.ct) (iv x.s.lo) (iv x.s.al) (.slice V.xk V.nk V.ck) (iv x.s.ka));obtain⟨y0,y1,y2,y3,y4,y5,y6,y7,y8,y9⟩:=h2.cells10;obtain⟨z0,z1,z2,z3,z4,z5,z6,z7,z8,z9⟩:=h2.p1.cells10;clear eq NO hx h2;go_wp2
    obtain⟨e0,e1,e2,e3,e4,e5,e6,e7,e8,e9⟩:=N.out.cells10;exact bodyPost_ret (v:=aAn V x) (by simp[results,results155,go_sem,e0,e1,e2,e3,e4,e5,e6,e7,e8,e9]) rfl ⟨⟨_,rfl,.inl ⟨x,V,F.out,RV.out,rfl⟩⟩,by rw[<-HP.out];exact N.out.below⟩
   ·have g0:(x.node==i)=false:=by simpa using eq
    have NO2:Hid (∀(a:Nat) (y:En),a<j+1->es[a]? =some y->y.node≠i):=hd_ fun a y ha hy=>by
     by_cases q:a<j
     ·exact NO.out a y q hy
     ·obtain rfl:a=j:=o_
      rw[hx]at hy;cases hy;exact eq
    have H2:=hd_ h2.p1;obtain⟨y0,y1,y2,y3,y4,y5,y6,y7,y8,y9⟩:=h2.cells10;clear eq NO hx h2;go_wp2;go_roundw
    case rel=>exact⟨j+1,o_,gn_,NO2.out,H2.out.p1.drop⟩
    case measure=>simp[intOf];omega
  ·have F:=hd_ (aDC (es:=es) (i:=i) fun a x hx=>NO.out a x (by have:=(List.getElem?_eq_some_iff.1 hx).1;omega) hx)
   have ef:=H.out.free;have N:=hd_ (H.out.set10 (iv 0) (iv 0) (iv 0) zn zn zn (iv 0) (iv 0) zn (iv 0));have g:decide (j<es.length)=false:=by simpa using hlt
   clear NO hWB;go_wp2;obtain⟨e0,e1,e2,e3,e4,e5,e6,e7,e8,e9⟩:=N.out.cells10;exact bodyPost_ret (v:=xW) (by simp[results,results155,go_sem,e0,e1,e2,e3,e4,e5,e6,e7,e8,e9]) rfl ⟨⟨_,rfl,.inr ⟨F.out,rfl⟩⟩,by rw[<-HP.out];exact N.out.below⟩
theorem aIc {a:Int} {b:Bool} (h:b=in6 a 0 4) (w:World):Calls prog 95 #[iv a] w fun e w'=>e=.returned (.bool b)/\w'=w:=by
 cases b with
 |true=>exact (oG w a h.symm).mono fun e w' ⟨h1,h2⟩=>⟨h1,h2.symm⟩
 |false=>exact (tY w a h.symm).mono fun e w' ⟨h1,h2⟩=>⟨h1,h2.symm⟩
def aBj (n:Nt) (e:En):Bool:=in6 e.node 0 4&&(in6 e.born 1 (aA n e.node).born&&in6 e.num 0 (aN n e.node e.born).length)
theorem aKc (w:World) {x1 x4:Option Addr} {k1 c1 k4 c4:Nat} {v2 v3:Value} {n:Nt} (V:SV) (e:En) (hn:iP w (.slice x1 k1 c1) v2 v3 (.slice x4 k4 c4) n) (hs:oX n):
  Calls prog 103 #[.agg #[.slice x1 k1 c1,v2,v3,.slice x4 k4 c4],aAn V e] w fun r w'=>r=.returned (.bool (aBj n e))/\Below w.heap.size w w':=by
 obtain⟨f1,n1⟩:=hn.nodes;obtain⟨f4,n4⟩:=hn.past;obtain rfl:k1=5:=(aT n1).1.trans hs.nodes;obtain rfl:k4=5:=(aT n4).1.trans hs.past;obtain⟨node,born,num,s⟩:=e;have WB:Hid (aBj n ⟨node,born,num,s⟩=(in6 node 0 4&&(in6 born 1 (aA n node).born&&in6 num 0 (aN n node born).length))):=hd_ rfl
 have H0:=((M.start w).alloc #[.slice x1 5 c1,v2,v3,.slice x4 5 c4] 30).alloc #[iv node,iv born,iv num,.slice V.xr V.nr V.cr,.slice V.xf V.nf V.cf,.slice V.xt V.nt V.ct,iv s.lo,iv s.al,.slice V.xk V.nk V.ck,iv s.ka] 64;simp only[World.size_alloc]at H0
 obtain⟨w1,hw1⟩:=nm_ ((w.alloc (.cells #[.slice x1 5 c1,v2,v3,.slice x4 5 c4] 30)).alloc (.cells #[iv node,iv born,iv num,.slice V.xr V.nr V.cr,.slice V.xf V.nf V.cf,.slice V.xt V.nt V.ct,iv s.lo,iv s.al,.slice V.xk V.nk V.ck,iv s.ka] 64));obtain⟨p1,hp1⟩:=nm_ w.heap.size;obtain⟨p2,hp2⟩:=nm_ (w.heap.size+1);rw[<-hw1, <-hp2, <-hp1]at H0;have HP:=hd_ hp1;have HS:=hd_ hs;have H1:=H0.drew
 obtain⟨W,hW⟩:=nm_ w1.drew;rw[<-hW]at H1;have EW:=hd_ hW;have H:=hd_ H1;have hWB:Below w.heap.size w W:=by have:=H1.below;rwa[hp1]at this
 obtain⟨d0,d1,d2,d3,d4,d5,d6,d7,d8,d9⟩:=H1.cells10;obtain⟨a0,a1,a2,a3⟩:=H1.p1.cells4;clear H0 H1 hW hs hn;go_enter func103,ntmps103;go_wp2;rw[<-hw1, <-hp2, <-hp1];clear hw1 hp1 hp2;obtain⟨b1,hb1⟩:=nm_ (in6 node 0 4);rw[<-hb1]at WB;have K1:=hd_ (aIc hb1);cases b1 with
 |false=>
  clear hb1;refine aC 99 (.tk 0 2 (.alt 2 (.tk 3 18 .done) .nomore)) (fun w'=>aH w' (b4L p1 (.slice x1 5 c1) v2 v3 (.slice x4 5 c4)++jJ p2 node born num V s)) kr_ kr_ (fun _ _ _ _ _ h=>h) (by rw[<-EW.out];exact⟨a0,a1,a2,a3,d0,d1,d2,d3,d4,d5,d6,d7,d8,d9,trivial⟩) ?_;rw[<-EW.out]
  repeat (first|refine tC_ ?_|refine tB_ ?_)
  refine aB r_ (fun K' hK=>?_);go_simp;refine (K1.out W).mono ?_;rintro e' w' ⟨rfl,hw'⟩;rw[hw'];clear hw' w';refine hK _ _ (.inr ⟨a0,a1,a2,a3,d0,d1,d2,d3,d4,d5,d6,d7,d8,d9,trivial⟩) ?_;clear hK K'
  try refine tP_ ?_
  repeat (first|refine tC_ ?_|refine tB_ ?_)
  refine aD ?_;go_wp2;go_ret;exact⟨by rw[WB.out];rfl,by have:=H.out.below;rwa[HP.out]at this⟩
 |true=>
  obtain⟨iA,iB⟩:=bH.1 hb1.symm;obtain⟨i,rfl⟩:∃i:Nat,node=i:=⟨node.toNat,o_⟩
  have i5:i<5:=o_;obtain⟨nd,hnd⟩:∃nd,n.nodes[i]? =some nd:=⟨_,List.getElem?_eq_getElem (by rw[HS.out.nodes];exact i5)⟩
  obtain⟨rs,hrs⟩:∃rs,n.past[i]? =some rs:=⟨_,List.getElem?_eq_getElem (by rw[HS.out.past];exact i5)⟩
  have eN:aA n (i:Int)=nd:=by unfold aA;rw[List.getD_eq_getElem?_getD,Int.toNat_natCast,hnd];rfl
  have eR:aO n (i:Int)=rs:=by unfold aO;rw[List.getD_eq_getElem?_getD,Int.toNat_natCast,hrs];rfl
  have eL:=HS.out.rows i i5;rw[eN,eR]at eL;rw[eN]at WB;obtain⟨g1,xk,ck,fk,rfl,_,_,_,_,_,b0,_⟩:=cB n1 hnd;obtain⟨g4,xr,cr,fr,rfl,_,_,rr,_,_,y0⟩:=jO n4 hrs;replace b0:=cell_later hWB b0;replace y0:=cell_later hWB y0;have ER:=hd_ eR;have EL:=hd_ eL;clear hb1 iA iB hnd hrs eN eR eL n1 n4;have i0:(0:Int)<=(i:Int):=o_;have i5':(i:Int)<5:=o_
  have bad:∀(hf:in6 born 1 nd.born=false),aBj n ⟨(i:Int),born,num,s⟩=false:=fun hf=>by rw[WB.out,hf];rfl
  have BAD:=hd_ bad;clear bad;have C0:Hid (aH W (b4L p1 (.slice (some ⟨g1,0,none⟩) 5 c1) v2 v3 (.slice (some ⟨g4,0,none⟩) 5 c4)++(jJ p2 (i:Int) born num V s++[(⟨g1,i * 5,none⟩,.int .i64 nd.born),(⟨g4,i,none⟩,.slice xr rs.length cr)]))):=hd_ ⟨a0,a1,a2,a3,d0,d1,d2,d3,d4,d5,d6,d7,d8,d9,b0,y0,trivial⟩;clear a0 a1 a2 a3 d0 d1 d2 d3 d4 d5 d6 d7 d8 d9 b0 y0;obtain⟨q1,hq1⟩:=nm_ (decide (born<1))
  obtain⟨q2,hq2⟩:=nm_ (decide (nd.born<born));have g1':=hq1.symm;have g2':=hq2.symm;have Q1:=hd_ hq1;have Q2:=hd_ hq2;clear hq1 hq2;rcases q1 with _|_
  case true=>
   have F:=hd_ (BAD.out (decide_eq_false (by have:=of_decide_eq_true Q1.out.symm;omega)))
   refine aC 99 (.tk 0 2 (.alt 2 (.tk 3 18 .done) .nomore)) (fun w'=>aH w' (b4L p1 (.slice (some ⟨g1,0,none⟩) 5 c1) v2 v3 (.slice (some ⟨g4,0,none⟩) 5 c4)++(jJ p2 (i:Int) born num V s++[(⟨g1,i * 5,none⟩,.int .i64 nd.born),(⟨g4,i,none⟩,.slice xr rs.length cr)]))) kr_ kr_ (fun _ _ _ _ _ h=>h) (by rw[<-EW.out];exact C0.out) ?_;rw[<-EW.out]
   repeat (first|refine tC_ ?_|refine tB_ ?_)
   refine aB r_ (fun K' hK=>?_);go_simp;refine (K1.out W).mono ?_;rintro e' w' ⟨rfl,hw'⟩;rw[hw'];clear hw' w';refine hK _ _ (.inr C0.out) ?_;clear hK K'
   try refine tP_ ?_
   repeat (first|refine tC_ ?_|refine tB_ ?_)
   refine aD ?_;exact zAe
  have R1:=hd_ (fun (F:Prop) (h1:(born<1)->F)=>h1)
  refine aC 99 (.tk 0 2 (.alt 2 (.tk 3 18 .done) .nomore)) (fun w'=>aH w' (b4L p1 (.slice (some ⟨g1,0,none⟩) 5 c1) v2 v3 (.slice (some ⟨g4,0,none⟩) 5 c4)++(jJ p2 (i:Int) born num V s++[(⟨g1,i * 5,none⟩,.int .i64 nd.born),(⟨g4,i,none⟩,.slice xr rs.length cr)]))) kr_ kr_ (fun _ _ _ _ _ h=>h) (by rw[<-EW.out];exact C0.out) ?_;rw[<-EW.out]
  repeat (first|refine tC_ ?_|refine tB_ ?_)
  refine aB r_ (fun K' hK=>?_);go_simp;refine (K1.out W).mono ?_;rintro e' w' ⟨rfl,hw'⟩;rw[hw'];clear hw' w';refine hK _ _ (.inr C0.out) ?_;clear hK K'
  try refine tP_ ?_
  repeat (first|refine tC_ ?_|refine tB_ ?_)
  refine aD ?_;rcases q2 with _|_
  case true=>
   have F:=hd_ (BAD.out (decide_eq_false (by have:=of_decide_eq_true Q2.out.symm;omega)));exact zAe
  have o1:=of_decide_eq_false Q1.out.symm;have o2:=of_decide_eq_false Q2.out.symm;obtain⟨j,rfl⟩:∃j:Nat,born=j:=⟨born.toNat,o_⟩
  have jr:j<rs.length:=by have:=EL.out;omega
  obtain⟨lp,hlp⟩:∃lp,rs[j]? =some lp:=⟨_,List.getElem?_eq_getElem jr⟩
  have EP:Hid (aN n (i:Int) (j:Int)=lp):=hd_ (by unfold aN;rw[ER.out,List.getD_eq_getElem?_getD,Int.toNat_natCast,hlp];rfl);obtain⟨g5,xl,cl,fl,rfl,_,_,_,lc,lm,y1⟩:=lH rr hlp;replace y1:=cell_later hWB y1;have WB2:Hid (aBj n ⟨(i:Int),(j:Int),num,s⟩=in6 num 0 (lp.length:Int)):=hd_ (by rw[WB.out,EP.out,show in6 (j:Int) 1 nd.born=true from decide_eq_true o_];rfl)
  have j0:(0:Int)<=(j:Int):=o_;have j1:(j:Int)<(rs.length:Int):=o_;have C1:=hd_ (show aH W.drew (b4L p1 (.slice (some ⟨g1,0,none⟩) 5 c1) v2 v3 (.slice (some ⟨g4,0,none⟩) 5 c4)++(jJ p2 (i:Int) (j:Int) num V s++[(⟨g4,i,none⟩,.slice (some ⟨g5,0,none⟩) rs.length cr),(⟨g5,j,none⟩,.slice xl lp.length cl)])) by
      refine aH.below (W:=W) ?_ (Below.drew (Below.refl _ _))
      obtain⟨c0,c1,c2,c3,e0,e1,e2,e3,e4,e5,e6,e7,e8,e9,_,t0,_⟩:=C0.out
      exact⟨c0,c1,c2,c3,e0,e1,e2,e3,e4,e5,e6,e7,e8,e9,t0,y1,trivial⟩)
  clear o1 o2 hlp rr lc lm y1 jr C0 BAD WB Q1 Q2 K1;obtain⟨q3,hq3⟩:=nm_ (decide (0<=num));obtain⟨q4,hq4⟩:=nm_ (decide (num<=(lp.length:Int)));have WB3:Hid (aBj n ⟨(i:Int),(j:Int),num,s⟩=(q3&&q4)):=hd_ (by
      rw[WB2.out,hq3,hq4]
      unfold in6
      by_cases x:0<=num<;>by_cases y:num<=(lp.length:Int)<;>simp[x,y])
  have g3':=hq3.symm;have g4':=hq4.symm;clear hq3 hq4 WB2;have H2:=hd_ H.out.drew;rcases q3 with _|_
  all_goals
   go_wp2;refine aC 99 (.tk 0 19 (.alt 19 .done .nomore)) (fun w'=>aH w' (b4L p1 (.slice (some ⟨g1,0,none⟩) 5 c1) v2 v3 (.slice (some ⟨g4,0,none⟩) 5 c4)++(jJ p2 (i:Int) (j:Int) num V s++[(⟨g4,i,none⟩,.slice (some ⟨g5,0,none⟩) rs.length cr),(⟨g5,j,none⟩,.slice xl lp.length cl)]))) kr_ kr_ (fun _ _ _ _ _ h=>h) C1.out ?_
   repeat (first|refine tC_ ?_|refine tB_ ?_)
   refine aB r_ (fun K' hK=>?_);go_simp;refine hK _ _ (.inr C1.out) ?_;clear hK K';refine aD ?_;go_wp2;go_ret;exact⟨by rw[WB3.out];rfl,by have:=H2.out.below;rwa[HP.out]at this⟩
end N
end Go.Proofs.YtcblbdpdbggkbaaGreat
namespace Go.Proofs.YtcblbdpdbggkbaaGreat
open _root_.Go.Proofs.Tryz
open Go.RowKit Go.Sort Go.Deep
def pK:Array Value->Nat->List Value->Array Value
 |xs,_,[]=>xs
 |xs,o,v::r=>pK (xs.setIfInBounds o v) (o+1) r
def aLo:List Value->Nat->List Value->List Value
 |xs,_,[]=>xs
 |xs,o,v::r=>aLo (xs.set o v) (o+1) r
section
variable {w w0:World} {B b:Nat} {l:List Ch} {t:TypeId} {xs:Array Value}
theorem M.setCells:∀(vs:List Value) {xs:Array Value} {o:Nat} {w:World},M B w0 w (aL b t xs::l)->M B w0 (w.setCells b o vs) (aL b t (pK xs o vs)::l)
 | [],_,_,_,h=>h
 |v::r,_,_,_,h=>M.setCells r (h.set v)
theorem M.there (h:M B w0 w (aL b t xs::l)) {o n:Nat} (hl:o+n<=xs.size):w.there b o n:=fun j hj=>
 ⟨by rw[h.cell (i:=o+j) (Array.getElem?_eq_getElem o_)];rfl,h.free _⟩
section
variable {P:Program} {op:Oper} {a:Act} {K:Act->World->Prop} {Q:Exit->Act->World->Prop} {ty:TypeId} {x y:Operand} {o:Nat} {vs:List Value} {ys:Array Value}
theorem aCk (h:M B w0 w (aL b t xs::l)) (ho:op.op=.store ty x y) (hx:a.eval x=.pointer (some ⟨b,o,none⟩)) (hy:a.eval y=.agg vs.toArray) (hi:(P.info? ty).map (·.size)=some vs.length) (h1:(vs.all (·.oneCell'))=true) (hl:o+vs.length<=xs.size) (he:pK xs o vs=ys)
  (k:∀w',M B w0 w' (aL b t ys::l)->K (a.put op.dst undef) w'):op.wp P a w K Q:=
 wp_store_mid ty x y ho b o vs.toArray hx hy (by rw[List.size_toArray];exact h.there hl) (by rw[List.size_toArray];exact hi) (by rw[List.all_toArray];exact h1) (k _ (by rw[<-he];exact h.setCells vs))
theorem dG {ops:Array Oper} {rest:List Oper} (h:M B w0 w (aL b t xs::l)) (hgd:op.guard=none) (ho:op.op=.store ty x y) (hx:a.eval x=.pointer (some ⟨b,o,none⟩)) (hy:a.eval y=.agg vs.toArray) (hi:(P.info? ty).map (·.size)=some vs.length) (h1:(vs.all (·.oneCell'))=true) (hl:o+vs.length<=xs.size) (he:pK xs o vs=ys)
  (k:∀w',M B w0 w' (aL b t ys::l)->wpList P ops Q rest (a.put op.dst undef) w'):wpList P ops Q (op::rest) a w:=
 wpList_plain hgd fun _ hK=>aCk h ho hx hy hi h1 hl he fun w' h'=>hK _ _ (k w' h')
theorem mN {ops:Array Oper} {E:Prop} (h:M B w0 w (aL b t xs::l)) (hgd:op.guard=none) (ho:op.op=.store ty x y) (hx:a.eval x=.pointer (some ⟨b,o,none⟩)) (hy:a.eval y=.agg vs.toArray) (hi:(P.info? ty).map (·.size)=some vs.length) (h1:(vs.all (·.oneCell'))=true) (hl:o+vs.length<=xs.size) (he:pK xs o vs=ys)
  (k:∀w',M B w0 w' (aL b t ys::l)->K (a.put op.dst undef) w'):if Region.wanted op (yielded ops a.tmps)=true then Oper.wp P op a w K Q else E:=by
 rw[if_pos (by simp[Region.wanted,hgd])];exact aCk h ho hx hy hi h1 hl he k
end
section
variable {α:Type} {A:Rep α} {FA:A.Frame} {e:TypeId} {size i g n cap:Nat} {zs:List α}
theorem M.hsetCells (hi:i<zs.length):∀(vs:List Value) {ci:List Value} {j:Nat} {w:World},j+vs.length<=size->M B w0 w (lB FA e size i (.slice (some ⟨g,0,none⟩) n cap) zs ci::l)->M B w0 (w.setCells g (i * size+j) vs) (lB FA e size i (.slice (some ⟨g,0,none⟩) n cap) zs (aLo ci j vs)::l)
 | [],_,_,_,_,h=>h
 |v::r,ci,j,w,hl,h=>by
  rw[List.length_cons]at hl;have:=M.hsetCells hi r (j:=j+1) o_ (h.hset hi (j:=j) o_ v);rw[World.setCells];exact this
theorem M.hthere {ci:List Value} (h:M B w0 w (lB FA e size i (.slice (some ⟨g,0,none⟩) n cap) zs ci::l)) (hi:i<zs.length) (hc:ci.length=size) {j m:Nat} (hl:j+m<=size):w.there g (i * size+j) m:=fun k hk=>
 ⟨by rw[Nat.add_assoc,h.hcell hi (j:=j+k) (List.getElem?_eq_getElem o_)];rfl,h.hfree _⟩
variable {P:Program} {op:Oper} {a:Act} {K:Act->World->Prop} {Q:Exit->Act->World->Prop} {ty:TypeId} {x y:Operand} {o j:Nat} {vs ci ci':List Value}
theorem aHX (h:M B w0 w (lB FA e size i (.slice (some ⟨g,0,none⟩) n cap) zs ci::l)) (hi0:i<zs.length) (hc:ci.length=size) (ho:op.op=.store ty x y) (hx:a.eval x=.pointer (some ⟨g,o,none⟩)) (hj:o=i * size+j) (hy:a.eval y=.agg vs.toArray) (hi:(P.info? ty).map (·.size)=some vs.length) (h1:(vs.all (·.oneCell'))=true) (hl:j+vs.length<=size) (he:aLo ci j vs=ci')
  (k:∀w',M B w0 w' (lB FA e size i (.slice (some ⟨g,0,none⟩) n cap) zs ci'::l)->K (a.put op.dst undef) w'):op.wp P a w K Q:=by
 subst hj;exact wp_store_mid ty x y ho g (i * size+j) vs.toArray hx hy (by rw[List.size_toArray];exact h.hthere hi0 hc hl) (by rw[List.size_toArray];exact hi) (by rw[List.all_toArray];exact h1) (k _ (by rw[<-he];exact h.hsetCells hi0 vs hl))
theorem aD9 {ops:Array Oper} {E:Prop} (h:M B w0 w (lB FA e size i (.slice (some ⟨g,0,none⟩) n cap) zs ci::l)) (hi0:i<zs.length) (hc:ci.length=size) (hgd:op.guard=none) (ho:op.op=.store ty x y) (hx:a.eval x=.pointer (some ⟨g,o,none⟩)) (hj:o=i * size+j) (hy:a.eval y=.agg vs.toArray) (hi:(P.info? ty).map (·.size)=some vs.length) (h1:(vs.all (·.oneCell'))=true) (hl:j+vs.length<=size) (he:aLo ci j vs=ci')
  (k:∀w',M B w0 w' (lB FA e size i (.slice (some ⟨g,0,none⟩) n cap) zs ci'::l)->K (a.put op.dst undef) w'):if Region.wanted op (yielded ops a.tmps)=true then Oper.wp P op a w K Q else E:=by
 rw[if_pos (by simp[Region.wanted,hgd])];exact aHX h hi0 hc ho hx hj hy hi h1 hl he k
end
end
namespace N
theorem aDJ:(prog.info? 46).map (·.size)=some 7:=by kernel_rfl
theorem aMD:(prog.info? 64).map (·.size)=some 10:=by kernel_rfl
theorem aMt:(prog.info? 55).map (·.size)=some 5:=by kernel_rfl
theorem aHp:(prog.info? 30).map (·.size)=some 4:=by kernel_rfl
end N
end Go.Proofs.YtcblbdpdbggkbaaGreat
namespace Go.Proofs.YtcblbdpdbggkbaaGreat
open _root_.Go.Proofs.Tryz
open Go.RowKit Go.Sort Go.ChangeMaps
namespace N
def moV (k:Int × Int × Int):Value:=.agg #[iv k.1,iv k.2.1,iv k.2.2]
def aIr (x:Int):Prop:= -9223372036854775808<=x/\x<9223372036854775808
def aDX (k:Int × Int × Int):Prop:=aIr k.1/\aIr k.2.1/\aIr k.2.2
theorem moT:aEi prog 234 aDX moV:=by
 refine⟨Go.Maps.Keyed.of_law (deep_law_gate kr_ (by decide+kernel) (by decide+kernel) kr_ kr_),fun k hk=>?_,fun x y h=>?_⟩
 ·obtain⟨⟨a0,a1⟩,⟨b0,b1⟩,c0,c1'⟩:=hk
  have c3:prog.cellsOf 234=3:=by kernel_rfl
  have c1:prog.cellsOf 3=1:=by kernel_rfl
  have ht:prog.keyType 234=true:=by kernel_rfl
  have hn:1<=prog.types.size:=by decide+kernel
  obtain⟨d,hd⟩:∃d,prog.types.size+1=d+2:=⟨prog.types.size - 1,o_⟩
  have w1:(Lit.int .i64 k.1).wf=true:=by simp[Lit.wf,IntKind.min,IntKind.max,IntKind.bits,IntKind.signed];omega
  have w2:(Lit.int .i64 k.2.1).wf=true:=by simp[Lit.wf,IntKind.min,IntKind.max,IntKind.bits,IntKind.signed];omega
  have w3:(Lit.int .i64 k.2.2).wf=true:=by simp[Lit.wf,IntKind.min,IntKind.max,IntKind.bits,IntKind.signed];omega
  refine⟨.string (keyBytes [.int .i64 k.1,.int .i64 k.2.1,.int .i64 k.2.2]),?_⟩;have hl:prog.keyLits (d+2) 234 [.int .i64 k.1,.int .i64 k.2.1,.int .i64 k.2.2]=some [.int .i64 k.1,.int .i64 k.2.1,.int .i64 k.2.2]:=by
   simp only[Program.keyLits,underlying234,c3];simp[Program.keyLits,c1,underlying3,w1,w2,w3]
  have hf:(moV k).formed prog 234=true:=by unfold moV Value.formed;simp only[underlying234,c3];rfl
  have hc:(moV k).cells.toList=[.int .i64 k.1,.int .i64 k.2.1,.int .i64 k.2.2]:=rfl;simp only[keyOf,underlying234,ht,hf,hd,hc,hl,Bool.and_self,if_true,Option.map_some]
 ·unfold moV at h
  injection h with h
  have h':=congrArg Array.toList h;simp at h';exact Prod.ext h'.1 (Prod.ext h'.2.1 h'.2.2)
theorem aIR:(prog.info? 46).map (fun i=>(i.zero,i.size,i.bytes))=some (some (.agg #[zn,zn,zn,iv 0,iv 0,zn,iv 0]),7,120):=by kernel_rfl
theorem aMB (w:World):(zeroValue 46).run prog w=.ok (.agg #[zn,zn,zn,iv 0,iv 0,zn,iv 0]) w:=by
 obtain⟨i,hi,hz,_⟩:=info_parts aIR;simp[zeroValue,typeInfo,hi,hz]
abbrev aMz (V:SV) (s:Sm):Ch:=bF.ch (cS V s) s
def aAG (m:Nat) (S:Int × Int × Int->Sm) (g:Int × Int × Int->Option Value) (w:World) (f:List Nat):Prop:=(∀b ∈ f,b<w.heap.size)/\m ∈ f/\aA7 aDX moV w m g/\∀k v,g k=some v->∃V:SV,∃fp:List Nat,v=.agg #[.slice V.xr V.nr V.cr,.slice V.xf V.nf V.cf,.slice V.xt V.nt V.ct,.int .i64 (S k).lo,.int .i64 (S k).al,.slice V.xk V.nk V.ck,.int .i64 (S k).ka]/\rS w (cS V (S k)) (S k) fp/\∀b ∈ fp,b ∈ f/\b≠m
theorem aAG.keep {m:Nat} {S:Int × Int × Int->Sm} {g:Int × Int × Int->Option Value} {w w':World} {f:List Nat} (h:aAG m S g w f) (hk:∀b ∈ f,w'.heap[b]? =w.heap[b]?) (hs:w.heap.size<=w'.heap.size):aAG m S g w' f:=by
 obtain⟨lt,hm,⟨es,c,hb,r⟩,hg⟩:=h;refine⟨fun b hb=>Nat.lt_of_lt_of_le (lt b hb) hs,hm,⟨es,c,(hk m hm).trans hb,r⟩,fun k v hv=>?_⟩;obtain⟨V,fp,e,hr,hf⟩:=hg k v hv;exact⟨V,fp,e,bF.keep hr (fun b hb=>hk b (hf b hb).1) hs,hf⟩
def aJp (m:Nat) (S:Int × Int × Int->Sm) (g:Int × Int × Int->Option Value):Ch:=⟨fun w f=>aAG m S g w f,fun h=>h.1,fun h=>h.keep⟩
def kT (m:Nat) (S:Int × Int × Int->Sm):Ch:=Ch.ex (aJp m S)
def xF (m:Nat) (V:SV) (s:Sm) (w:World) (f:List Nat):Prop:=∃fp:List Nat,rS w (cS V s) s fp/\∀b ∈ fp,b ∈ f/\b≠m
theorem xF.keep {m:Nat} {V:SV} {s:Sm} {w w':World} {f:List Nat} (h:xF m V s w f) (hk:∀b ∈ f,w'.heap[b]? =w.heap[b]?) (hs:w.heap.size<=w'.heap.size):xF m V s w' f:=by
 obtain⟨fp,hr,hf⟩:=h;exact⟨fp,bF.keep hr (fun b hb=>hk b (hf b hb).1) hs,hf⟩
def aGQ (m:Nat) (S:Int × Int × Int->Sm) (V:SV) (s:Sm) (g:Int × Int × Int->Option Value):Ch:=⟨fun w f=>aAG m S g w f/\xF m V s w f,fun h=>h.1.1,fun h hk hs=>⟨h.1.keep hk hs,h.2.keep hk hs⟩⟩
def rM (m:Nat) (S:Int × Int × Int->Sm) (V:SV) (s:Sm):Ch:=Ch.ex (aGQ m S V s)
section
variable {B m:Nat} {w w0:World} {l:List Ch} {S:Int × Int × Int->Sm} {k:Int × Int × Int} {V:SV} {s:Sm}
theorem aJ3 (h:M B w0 w l) (S:Int × Int × Int->Sm):M B w0 (w.alloc (.map #[] 0)) (kT w.heap.size S::l):=
 M.in (c:=aJp w.heap.size S) (fun _=>none) ((h.map aDX moV).to fun f hf nd=>by
    obtain⟨hm,rfl⟩:=hf
    exact⟨_,⟨fun b hb=>by rw[List.mem_singleton.1 hb];simp,List.mem_singleton_self _,hm,fun k v hv=>by cases hv⟩,nd,fun b hb=>hb⟩)
theorem sD (h:M B w0 w (rM m S V s::l)):M B w0 w (kT m S::l):=by
 obtain⟨g,h⟩:=M.ex h;exact M.in (c:=aJp m S) g (h.to fun f hf nd=>⟨f,hf.1,nd,fun b hb=>hb⟩)
theorem aCO (h:M B w0 w (rM m S V s::l)):RdS w V s:=by
 obtain⟨g,h⟩:=M.ex h;obtain⟨f,⟨_,fp,hr,_⟩,_⟩:=h.first;exact aBf hr
theorem aE6 (h:M B w0 w (aMz V s::kT m S::l)):M B w0 w (rM m S V s::l):=by
 obtain⟨g,h⟩:=M.ex (M.p1 h);exact M.in (c:=aGQ m S V s) g ((M.sep h).to fun f hf nd=>by
    obtain⟨f2,f1,rfl,h2,h1⟩:=hf
    obtain⟨n1,n2,n3⟩:=List.nodup_append.1 nd
    have l1:=bF.lt h1
    obtain⟨lt,hm,hmap,hg⟩:=h2
    refine⟨f2++f1,⟨⟨fun b hb=>?_,List.mem_append_left _ hm,hmap,fun k v hv=>?_⟩,f1,h1,fun b hb=>⟨List.mem_append_right _ hb,fun e=>n3 m hm b hb e.symm⟩⟩,nd,fun b hb=>hb⟩
    · rcases List.mem_append.1 hb with q|q
      · exact lt b q
      · exact l1 b q
    · obtain⟨V',fp,e,hr,hf⟩:=hg k v hv
      exact⟨V',fp,e,hr,fun b hb=>⟨List.mem_append_left _ (hf b hb).1,(hf b hb).2⟩⟩)
theorem aHN (h:M B w0 w (kT m S::l)) (hk:aDX k):∃(b:Bool) (V:SV) (s:Sm),(Instr.lookup 118 (.map (some m)) (moV k) true).run prog w=.ok (.tuple #[.agg #[.slice V.xr V.nr V.cr,.slice V.xf V.nf V.cf,.slice V.xt V.nt V.ct,iv s.lo,iv s.al,.slice V.xk V.nk V.ck,iv s.ka],.bool b]) w/\(b=true->s=S k/\M B w0 w (rM m S V s::l)):=by
 obtain⟨g,h⟩:=M.ex h;obtain⟨f,hf,_⟩:=h.first;have hr:=hf.2.2.1.look moT underlying118 (aMB w) hk true;cases hgk:g k with
 |none=>
  rw[hgk]at hr;exact⟨false,SV.none,oN,hr,fun e=>by cases e⟩
 |some v=>
  obtain⟨V,fp,rfl,hs,hfp⟩:=hf.2.2.2 k v hgk;rw[hgk]at hr;refine⟨true,V,S k,hr,fun _=>⟨rfl,M.in (c:=aGQ m S V (S k)) g (h.to fun f' hf' nd=>?_)⟩⟩;obtain⟨V',fp',e',hs',hfp'⟩:=hf'.2.2.2 k _ hgk;obtain rfl:V=V':=aCU (s:=S k) (by simpa using e');exact⟨f',⟨hf',fp',hs',hfp'⟩,nd,fun b hb=>hb⟩
theorem aJu (h:M B w0 w (rM m S V (S k)::l)) (hk:aDX k):∃w',(Instr.mapUpdate 118 (.map (some m)) (moV k) (vS V (S k))).run prog w=.ok () w'/\M B w0 w' (rM m S V (S k)::l)/\w'.heap.size=w.heap.size:=by
 obtain⟨g,h⟩:=M.ex h;obtain⟨f0,hf0,_⟩:=h.first;obtain⟨es,c,hr,hm⟩:=hf0.1.2.2.1.store moT underlying118 hk (vS V (S k));refine⟨_,hr,M.in (c:=aGQ m S V (S k)) (fun y=>if y=k then some (vS V (S k))else g y) (h.turn fun f hf nd lo=>?_),by simp[setBlock]⟩;obtain⟨⟨lt,hm0,_,hg⟩,fp,hs,hfp⟩:=hf;have sz:(setBlock w m (.map es c)).heap.size=w.heap.size:=by simp[setBlock]
 have other:∀q,q≠m->(setBlock w m (.map es c)).heap[q]? =w.heap[q]? :=fun q hq=>by
  have ne:¬m=q:=fun e=>hq e.symm
  simp[setBlock,Array.getElem?_setIfInBounds,ne]
 have keep:∀{V2:SV} {s2:Sm} {fp':List Nat},rS w (cS V2 s2) s2 fp'->(∀b ∈ fp',b ∈ f/\b≠m)->rS (setBlock w m (.map es c)) (cS V2 s2) s2 fp':=fun hr' hf'=>bF.keep hr' (fun b hb=>other b (hf' b hb).2) (Nat.le_of_eq sz.symm)
 refine⟨⟨rfl,rfl,rfl,Nat.le_of_eq sz.symm,fun q _ hq=>other q fun e=>hq (by rw[e];exact hm0)⟩,f,⟨⟨fun b hb=>by rw[sz];exact lt b hb,hm0,hm,fun y v hv=>?_⟩,fp,keep hs hfp,hfp⟩,nd,fun b hb=>.inl hb⟩
 by_cases e:y=k
 ·subst e
  obtain rfl:Value.agg (cS V (S y))=v:=by simpa using hv
  exact⟨V,fp,rfl,keep hs hfp,hfp⟩
 ·replace hv:=(if_neg e).symm.trans hv
  obtain⟨V',fp',e1,hr',hf'⟩:=hg y v hv;exact⟨V',fp',e1,keep hr' hf',hf'⟩
theorem aKK {K:Act->World->Prop} {o:Oper} {a:Act} {Q:Exit->Act->World->Prop} {mo ko vo:Operand} (h:M B w0 w (rM m S V s::l)) (hk:aDX k) (es:s=S k) (hop:o.op=.mapUpdate 118 mo ko vo) {x y:Value}
  (hm:a.eval mo=.map (some m)) (hx:a.eval ko=x) (hy:a.eval vo=y) (ex:x=moV k) (ey:y=.agg #[.slice V.xr V.nr V.cr,.slice V.xf V.nf V.cf,.slice V.xt V.nt V.ct,iv s.lo,iv s.al,.slice V.xk V.nk V.ck,iv s.ka]) (n:∀w',M B w0 w' (rM m S V s::l)->K (a.put o.dst undef) w'):o.wp prog a w K Q:=by
 subst es;obtain⟨w',hr,hM,hs⟩:=aJu h hk;rw[<-ex, <-ey]at hr;clear ex ey;unfold Oper.wp;simp[execOp,hop,hm,hx,hy,hr,Result.andThen,Oper.upon];exact n w' hM
theorem aE4 {ops:Array Oper} {rest:List Oper} {o:Oper} {a:Act} {Q:Exit->Act->World->Prop} {mo ko vo:Operand} (h:M B w0 w (rM m S V s::l)) (hk:aDX k) (es:s=S k) (hgd:o.guard=none) (hop:o.op=.mapUpdate 118 mo ko vo) {x y:Value}
  (hm:a.eval mo=.map (some m)) (hx:a.eval ko=x) (hy:a.eval vo=y) (ex:x=moV k) (ey:y=.agg #[.slice V.xr V.nr V.cr,.slice V.xf V.nf V.cf,.slice V.xt V.nt V.ct,iv s.lo,iv s.al,.slice V.xk V.nk V.ck,iv s.ka]) (n:∀w',M B w0 w' (rM m S V s::l)->wpList prog ops Q rest (a.put o.dst undef) w'):wpList prog ops Q (o::rest) a w:=
 wpList_plain hgd fun _ hK=>aKK h hk es hop hm hx hy ex ey fun w' h1=>hK _ _ (n w' h1)
end
end N
end Go.Proofs.YtcblbdpdbggkbaaGreat
namespace Go.Proofs.YtcblbdpdbggkbaaGreat
open _root_.Go.Proofs.Tryz
open Go.RowKit Go.Sort
def aBH (V:SV):Value:=.iface 36 (.agg #[.slice V.xr V.nr V.cr])
def aBN (V:SV):Value:=.iface 38 (.agg #[.slice V.xf V.nf V.cf])
def aBF (V:SV) (s:Sm):Value:=.iface 41 (.agg #[.slice V.xt V.nt V.ct,iv s.lo,iv s.al])
def aBA (V:SV) (s:Sm):Value:=.iface 44 (.agg #[.slice V.xk V.nk V.ck,iv s.ka])
theorem aIT (w:World) (x:Option Addr) (n c:Nat) (rs:List (List Int)) (h:Rws w (.slice x n c) rs):
  Calls prog 352 #[.agg #[.slice x n c]] w fun e w'=>e=.returned (.bool (okB rs))/\Below w.heap.size w w':=by
 have hA:=(Below.refl w.heap.size w).alloc lr_ (.cells #[.slice x n c] 36);have K:=hd_ (aK1 _ _ rs (h.below hA lr_));have HA:=hd_ hA;clear h hA;go_enter func352,ntmps352
 go_wp2_with fail
 refine K.out.mono ?_;rintro e w1 ⟨rfl,hb⟩;go_wp2;go_ret;exact⟨rfl,HA.out.trans (hb.mono HA.out.size)⟩
theorem aJS (w:World) (x:Option Addr) (n c:Nat) (zs:List Int) (h:dE w (.slice x n c) zs):
  Calls prog 353 #[.agg #[.slice x n c]] w fun e w'=>e=.returned (.bool (fD zs))/\Below w.heap.size w w':=by
 have hA:=(Below.refl w.heap.size w).alloc lr_ (.cells #[.slice x n c] 38);have K:=hd_ (oH _ _ zs (h.below hA lr_));have HA:=hd_ hA;clear h hA;go_enter func353,ntmps353
 go_wp2_with fail
 refine K.out.mono ?_;rintro e w1 ⟨rfl,hb⟩;go_wp2;go_ret;exact⟨rfl,HA.out.trans (hb.mono HA.out.size)⟩
theorem aIS (w:World) (x:Option Addr) (n c:Nat) (ps:List T.Pr) (lo al:Int) (h:T.Prs w (.slice x n c) ps):
  Calls prog 354 #[.agg #[.slice x n c,iv lo,iv al]] w fun e w'=>e=.returned (.bool (T.dB ps lo al))/\Below w.heap.size w w':=by
 have hA:=(Below.refl w.heap.size w).alloc lr_ (.cells #[.slice x n c,iv lo,iv al] 41);have K:=hd_ (T.nL _ _ ps lo al (h.below hA lr_));have HA:=hd_ hA;clear h hA;go_enter func354,ntmps354
 go_wp2_with fail
 refine K.out.mono ?_;rintro e w1 ⟨rfl,hb⟩;go_wp2;go_ret;exact⟨rfl,HA.out.trans (hb.mono HA.out.size)⟩
theorem aIx (w:World) (x:Option Addr) (n c:Nat) (ps:List K.Pr) (al:Int) (h:K.Prs w (.slice x n c) ps):
  Calls prog 355 #[.agg #[.slice x n c,iv al]] w fun e w'=>e=.returned (.bool (K.cX ps al))/\Below w.heap.size w w':=by
 have hA:=(Below.refl w.heap.size w).alloc lr_ (.cells #[.slice x n c,iv al] 44);have K:=hd_ (K.mE _ _ ps al (h.below hA lr_));have HA:=hd_ hA;clear h hA;go_enter func355,ntmps355
 go_wp2_with fail
 refine K.out.mono ?_;rintro e w1 ⟨rfl,hb⟩;go_wp2;go_ret;exact⟨rfl,HA.out.trans (hb.mono HA.out.size)⟩
theorem xO (w:World) (V:SV) (s:Sm):
  Calls prog 105 #[.agg #[.slice V.xr V.nr V.cr,.slice V.xf V.nf V.cf,.slice V.xt V.nt V.ct,iv s.lo,iv s.al,.slice V.xk V.nk V.ck,iv s.ka]] w fun e w'=>e=.returned (.agg #[aBH V,aBN V,aBF V s,aBA V s])/\Below w.heap.size w w':=by
 obtain⟨xr,nr,cr,xf,nf,cf,xt,nt,ct,xk,nk,ck⟩:=V;obtain⟨rs,zs,ps,lo,al,ks,ka⟩:=s;unfold aBH aBN aBF aBA;simp only;go_enter func105,ntmps105;go_wp2
 go_returns
 exact⟨rfl,((Below.refl _ _).alloc lr_ _).alloc (by simp) _⟩
theorem yN (a b c d:Value) (w:World):(Instr.index 143 (.agg #[a,b,c,d]) (iv 0)).run prog w=.ok a w/\(Instr.index 143 (.agg #[a,b,c,d]) (iv 1)).run prog w=.ok b w/\
  (Instr.index 143 (.agg #[a,b,c,d]) (iv 2)).run prog w=.ok c w/\(Instr.index 143 (.agg #[a,b,c,d]) (iv 3)).run prog w=.ok d w:=
 ⟨by kernel_rfl,by kernel_rfl,by kernel_rfl,by kernel_rfl⟩
def aJg (s:Sm) (j:Nat):Prop:=(0<j->okB s.rs=true)/\(1<j->fD s.zs=true)/\(2<j->T.dB s.ps s.lo s.al=true)/\(3<j->K.cX s.ks s.ka=true)
theorem jR (w:World) (V:SV) (s:Sm) (h:RdS w V s):
  Calls prog 41 #[.agg #[.slice V.xr V.nr V.cr,.slice V.xf V.nf V.cf,.slice V.xt V.nt V.ct,iv s.lo,iv s.al,.slice V.xk V.nk V.ck,iv s.ka]] w fun e w'=>e=.returned (.bool (okS s))/\Below w.heap.size w w':=by
 have hA:=(Below.refl w.heap.size w).alloc lr_ (.cells (cS V s) 46);have X0:=aR.new w 46 (.slice V.xr V.nr V.cr) (.slice V.xf V.nf V.cf) (.slice V.xt V.nt V.ct) (iv s.lo) (iv s.al) (.slice V.xk V.nk V.ck) (iv s.ka);have HA:=hd_ hA;have R0:=hd_ (h.below hA lr_);have KW:=hd_ (xO (w.alloc (.cells (cS V s) 46)) V s);have fl:=hd_ h.lens.2.1;clear h hA;go_enter func41,ntmps41
 go_wp2_with fail
 refine KW.out.mono ?_;rintro e w1 ⟨rfl,hb1⟩;have X1:=X0.later hb1;have R1:=hd_ (R0.out.later hb1);have B1:=hd_ (HA.out.trans (hb1.mono HA.out.size));clear hb1 X0 R0 HA KW;go_wp2;go_loopw [8] (fun i wr=>∃j:Nat,i=.int .i64 j/\j<=4/\aJg s j/\Below w1.heap.size w1 wr) (fun i _=>4 - (intOf i).toNat)
 case atStart=>exact⟨0,rfl,o_,by simp[aJg],Below.refl _ _⟩
 case round=>
  obtain⟨j,rfl,hj,hu,hbl⟩:=hrel;have HU:=hd_ hu;have HB:=hd_ hbl;have R2:=hd_ (R1.out.below hbl lr_);have X2:=X1.later hbl;clear hu hbl;have IW:=fun w=>yN (aBH V) (aBN V) (aBF V s) (aBA V s) w
  unfold aBH aBN aBF aBA at IW ⊢;rcases (by omega:j=4\/j=0\/j=1\/j=2\/j=3)with rfl|rfl|rfl|rfl|rfl
  ·clear IW
   have u:=HU.out;have r1:=u.1 o_;have f1:=u.2.1 o_;have t1:=u.2.2.1 o_;have k1:=u.2.2.2 o_;have hok:okS s=(decide (dD s.rs=s.al)&&(decide (s.al=s.ka)&&decide (0<s.zs.length↔0<s.al))):=by
    unfold okS;rw[r1,f1,t1,k1]
    rfl
   have HOK:=hd_ hok;have KA:=hd_ (rY wr _ s.rs R2.out.r);obtain⟨A,hA⟩:=nm_ (dD s.rs);rw[<-hA]at KA;have HAA:=hd_ hA;clear u r1 f1 t1 k1 hok hA HU;obtain⟨c0,c1,c2,c3,c4,c5,c6⟩:=X2.cells
   go_wp2_with fail
   refine KA.out.mono ?_;rintro e w2 ⟨rfl,hb2⟩;have X3:=X2.later hb2;have HB2:=hd_ (HB.out.trans (hb2.mono HB.out.size));clear hb2 c0 c1 c2 c3 c4 c5 c6 X2 R2 KA;obtain⟨c0,c1,c2,c3,c4,c5,c6⟩:=X3.cells;rw[<-HAA.out]at HOK;have hn:=fl.out;go_wp2
   all_goals
    go_ret;refine⟨?_,B1.out.trans (HB2.out.mono B1.out.size)⟩;rw[HOK.out];refine congrArg (fun b=>Ending.returned (Value.bool b)) ?_;rw[Bool.eq_iff_iff];simp;omega
  ·have I1:=fun w=>(IW w).1
   clear IW;have KI:=hd_ (aIT wr _ _ _ s.rs R2.out.r);obtain⟨ok,hok⟩:=nm_ (okB s.rs);rw[<-hok]at KI;have HOK:=hd_ hok;clear hok
   go_wp2_with fail
   refine KI.out.mono ?_;rintro e w2 ⟨rfl,hb2⟩;have HB2:=hd_ (HB.out.trans (hb2.mono HB.out.size));clear hb2 KI;cases ok with
   |false=>
    exact zAB
   |true=>
    go_wp2;go_roundw
    case rel=>exact⟨1,rfl,o_,⟨fun _=>HOK.out.symm,fun q=>by omega,fun q=>by omega,fun q=>by omega⟩,HB2.out⟩
    case measure=>simp[intOf]
  ·have I1:=fun w=>(IW w).2.1
   clear IW;have KI:=hd_ (aJS wr _ _ _ s.zs R2.out.f);obtain⟨ok,hok⟩:=nm_ (fD s.zs);rw[<-hok]at KI;have HOK:=hd_ hok;clear hok
   go_wp2_with fail
   refine KI.out.mono ?_;rintro e w2 ⟨rfl,hb2⟩;have HB2:=hd_ (HB.out.trans (hb2.mono HB.out.size));clear hb2 KI;cases ok with
   |false=>
    exact zAB
   |true=>
    go_wp2;go_roundw
    case rel=>exact⟨2,rfl,o_,⟨fun _=>HU.out.1 o_,fun _=>HOK.out.symm,fun q=>by omega,fun q=>by omega⟩,HB2.out⟩
    case measure=>simp[intOf]
  ·have I1:=fun w=>(IW w).2.2.1
   clear IW;have KI:=hd_ (aIS wr _ _ _ s.ps s.lo s.al R2.out.t);obtain⟨ok,hok⟩:=nm_ (T.dB s.ps s.lo s.al);rw[<-hok]at KI;have HOK:=hd_ hok;clear hok
   go_wp2_with fail
   refine KI.out.mono ?_;rintro e w2 ⟨rfl,hb2⟩;have HB2:=hd_ (HB.out.trans (hb2.mono HB.out.size));clear hb2 KI;cases ok with
   |false=>
    exact zAB
   |true=>
    go_wp2;go_roundw
    case rel=>exact⟨3,rfl,o_,⟨fun _=>HU.out.1 o_,fun _=>HU.out.2.1 o_,fun _=>HOK.out.symm,fun q=>by omega⟩,HB2.out⟩
    case measure=>simp[intOf]
  ·have I1:=fun w=>(IW w).2.2.2
   clear IW;have KI:=hd_ (aIx wr _ _ _ s.ks s.ka R2.out.k);obtain⟨ok,hok⟩:=nm_ (K.cX s.ks s.ka);rw[<-hok]at KI;have HOK:=hd_ hok;clear hok
   go_wp2_with fail
   refine KI.out.mono ?_;rintro e w2 ⟨rfl,hb2⟩;have HB2:=hd_ (HB.out.trans (hb2.mono HB.out.size));clear hb2 KI;cases ok with
   |false=>
    exact zAB
   |true=>
    go_wp2;go_roundw
    case rel=>exact⟨4,rfl,o_,⟨fun _=>HU.out.1 o_,fun _=>HU.out.2.1 o_,fun _=>HU.out.2.2.1 o_,fun _=>HOK.out.symm⟩,HB2.out⟩
    case measure=>simp[intOf]
theorem aKA (t:Int):xB t=⟨yC kH t 1,lU [] t,(T.iL [] 0 0 t).1,(T.iL [] 0 0 t).2.1,(T.iL [] 0 0 t).2.2,(K.nN [] 0 t).1,(K.nN [] 0 t).2⟩:=by
 by_cases h:0<=t/\t<=63
 ·have A:=aAY (s:=dK) (t:=t) (by rw[pY];exact decide_eq_true h)
  unfold xB;rw[nX (by rw[pY];exact decide_eq_true h)];unfold aBr yC;rw[show oL kH t 1=true from A.r]
  rfl
 ·rw[aJ6 h]
  have a:oL kH t 1=false:=by
   cases q:oL kH t 1 with
   |false=>rfl
   |true=>have:=(kS _ _ _).1 q;omega
  have b:fC [] t=false:=by
   unfold fC jL;rw[decide_eq_false o_];cases fD []<;>rfl
  have c:T.iR [] 0 0 t=false:=by
   unfold T.iR T.isT;rw[decide_eq_false o_];cases T.dB [] 0 0<;>rfl
  have d:K.fN [] 0 t=false:=by
   unfold K.fN;rw[decide_eq_false o_];cases K.cX [] 0<;>rfl
  unfold yC;rw[a,aCJ b,T.aGJ c,K.aDs d]
  rfl
theorem aJ7 (w:World) (t:Int):
  Calls prog 174 #[iv t] w fun e w'=>∃V,e=.returned (vS V (xB t))/\bN w' w.heap.size w'.heap.size V (xB t)/\Below w.heap.size w w':=by
 obtain⟨A,hAA⟩:=nm_ (yC kH t 1);have HAA:=hd_ hAA;clear hAA;have hA:=(Below.refl w.heap.size w).alloc lr_ (.cells #[zn,zn,zn,iv 0,iv 0,zn,iv 0] 46);have B:=hd_ (hA);clear hA;have R:=aR.new w 46 zn zn zn (iv 0) (iv 0) zn (iv 0);have S0:Hid ((w.alloc (.cells #[zn,zn,zn,iv 0,iv 0,zn,iv 0] 46)).heap.size=w.heap.size+1):=by show _=_;simp
 go_enter func174,ntmps174
 go_wp2_with fail
 refine (aAv _).mono ?_;rintro e w1 ⟨u,G,C,rfl,ho,hb⟩;obtain⟨x1,c1,rfl⟩:=ho.form;replace B:=hd_ (B.out.trans (hb.mono B.out.size));replace R:=R.later hb;have P1:=hd_ (ho.rws);clear hb;clear ho;have KA:=aKW w1 _ kH t 1 P1.out;rw[<-HAA.out]at KA;generalize oL kH t 1=o1 at KA
 go_wp2_with fail
 refine (KA).mono ?_;rintro e w2 ⟨x2,c2,rfl,ho,hb⟩;obtain⟨n2,hn2⟩:=nm_ A.length;rw[<-hn2]at ho ⊢;have L2:=hd_ B.out.size;have S2:=hd_ hb.size;clear hn2 KA;clear P1;replace B:=hd_ (B.out.trans (hb.mono B.out.size));replace R:=R.later hb;have O2:=hd_ (ho);clear hb;obtain⟨W2,hW⟩:=nm_ (w2.alloc (.cells #[.slice x2 n2 c2] 36))
 replace B:=hd_ ((B.out).alloc (Nat.le_trans B.out.size (by simp)) (.cells #[.slice x2 n2 c2] 36));rw[<-hW]at B;replace R:=R.alloc (.cells #[.slice x2 n2 c2] 36);rw[<-hW]at R;replace O2:=hd_ (O2.out.alloc (.cells #[.slice x2 n2 c2] 36));rw[<-hW]at O2;have X2:=Go.Boxed.new w2 36 (.slice x2 n2 c2);rw[<-hW]at X2
 go_wp2_with fail
 rw[<-hW];clear hW;clear ho;have KA:=aEf W2 zn [] t (.inl ⟨rfl,rfl⟩);obtain⟨F,hF⟩:=nm_ (lU [] t);rw[<-hF]at KA;have HF:=hd_ hF;generalize fC [] t=o2 at KA;clear hF
 go_wp2_with fail
 refine (KA).mono ?_;rintro e w3 ⟨v,rfl,ho,hb⟩;obtain⟨x3,c3,rfl⟩:=ho.form';obtain⟨n3,hn3⟩:=nm_ F.length;rw[<-hn3]at ho ⊢;have T2:=hd_ O2.out.top;have L3':=hd_ (Nat.le_trans L2.out (show w1.heap.size<=w2.heap.size from S2.out));clear hn3 KA;replace B:=hd_ (B.out.trans (hb.mono B.out.size));replace R:=R.later hb;replace O2:=hd_ (O2.out.below hb);replace X2:=mP X2 hb;have O3:=hd_ (ho)
 clear hb;obtain⟨W3,hW⟩:=nm_ (w3.alloc (.cells #[.slice x3 n3 c3] 38));replace B:=hd_ ((B.out).alloc (Nat.le_trans B.out.size (by simp)) (.cells #[.slice x3 n3 c3] 38));rw[<-hW]at B;replace R:=R.alloc (.cells #[.slice x3 n3 c3] 38);rw[<-hW]at R;replace O2:=hd_ (O2.out.alloc (.cells #[.slice x3 n3 c3] 38));rw[<-hW]at O2;replace X2:=X2.alloc (.cells #[.slice x3 n3 c3] 38);rw[<-hW]at X2
 replace O3:=hd_ (O3.out.alloc (.cells #[.slice x3 n3 c3] 38));rw[<-hW]at O3;have X3:=Go.Boxed.new w3 38 (.slice x3 n3 c3);rw[<-hW]at X3
 go_wp2_with fail
 rw[<-hW];clear hW;clear ho;have KA:=T.aD5 W3 zn [] 0 0 t (.inl ⟨rfl,rfl⟩);obtain⟨TT,hF⟩:=nm_ (T.iL [] 0 0 t);rw[<-hF]at KA;have HT:=hd_ hF;generalize T.iR [] 0 0 t=o3 at KA;obtain⟨tp,tl,ta⟩:=TT;simp only at KA;clear hF
 go_wp2_with fail
 refine (KA).mono ?_;rintro e w4 ⟨v,rfl,ho,hb⟩;obtain⟨x4,c4,rfl⟩:=ho.form';obtain⟨n4,hn4⟩:=nm_ tp.length;rw[<-hn4]at ho ⊢;have T3:=hd_ O3.out.lt;have L4:=hd_ B.out.size;clear hn4 KA;replace B:=hd_ (B.out.trans (hb.mono B.out.size));replace R:=R.later hb;replace O2:=hd_ (O2.out.below hb);replace X2:=mP X2 hb;replace O3:=hd_ (O3.out.below hb);replace X3:=mP X3 hb;have O4:=hd_ (ho)
 clear hb;obtain⟨W4,hW⟩:=nm_ (w4.alloc (.cells #[.slice x4 n4 c4,iv tl,iv ta] 41));replace B:=hd_ ((B.out).alloc (Nat.le_trans B.out.size (by simp)) (.cells #[.slice x4 n4 c4,iv tl,iv ta] 41));rw[<-hW]at B;replace R:=R.alloc (.cells #[.slice x4 n4 c4,iv tl,iv ta] 41);rw[<-hW]at R;replace O2:=hd_ (O2.out.alloc (.cells #[.slice x4 n4 c4,iv tl,iv ta] 41));rw[<-hW]at O2
 replace X2:=X2.alloc (.cells #[.slice x4 n4 c4,iv tl,iv ta] 41);rw[<-hW]at X2;replace O3:=hd_ (O3.out.alloc (.cells #[.slice x4 n4 c4,iv tl,iv ta] 41));rw[<-hW]at O3;replace X3:=X3.alloc (.cells #[.slice x4 n4 c4,iv tl,iv ta] 41);rw[<-hW]at X3;replace O4:=hd_ (O4.out.alloc (.cells #[.slice x4 n4 c4,iv tl,iv ta] 41));rw[<-hW]at O4;have X4:=T.cD.new w4 41 (.slice x4 n4 c4) (iv tl) (iv ta)
 rw[<-hW]at X4
 go_wp2_with fail
 rw[<-hW];clear hW;clear ho;have KA:=K.aDG W4 zn [] 0 t (.inl ⟨rfl,rfl⟩);obtain⟨TT,hF⟩:=nm_ (K.nN [] 0 t);rw[<-hF]at KA;have HK:=hd_ hF;generalize K.fN [] 0 t=o4 at KA;obtain⟨kp,ka⟩:=TT;simp only at KA;clear hF
 go_wp2_with fail
 refine (KA).mono ?_;rintro e w5 ⟨v,rfl,ho,hb⟩;obtain⟨x5,c5,rfl⟩:=ho.form';obtain⟨n5,hn5⟩:=nm_ kp.length;rw[<-hn5]at ho ⊢;have T4:=hd_ (fun k e=>(World.ownsRow.lt O4.out k e).2);have L5:=hd_ B.out.size;clear hn5 KA;replace B:=hd_ (B.out.trans (hb.mono B.out.size));replace R:=R.later hb;replace O2:=hd_ (O2.out.below hb);replace X2:=mP X2 hb;replace O3:=hd_ (O3.out.below hb)
 replace X3:=mP X3 hb;replace O4:=hd_ (O4.out.below hb);replace X4:=X4.later hb;have O5:=hd_ (ho);clear hb;obtain⟨W5,hW⟩:=nm_ (w5.alloc (.cells #[.slice x5 n5 c5,iv ka] 44));have ax20:=((X2.alloc (.cells #[.slice x5 n5 c5,iv ka] 44))).cell;have ax30:=((X3.alloc (.cells #[.slice x5 n5 c5,iv ka] 44))).cell;have ax40:=((X4.alloc (.cells #[.slice x5 n5 c5,iv ka] 44))).cell0
 have ax41:=((X4.alloc (.cells #[.slice x5 n5 c5,iv ka] 44))).cell1;have ax42:=((X4.alloc (.cells #[.slice x5 n5 c5,iv ka] 44))).cell2;obtain⟨ar0,ar1,ar2,ar3,ar4,ar5,ar6⟩:=((R.alloc (.cells #[.slice x5 n5 c5,iv ka] 44))).cells;have frr:=(R.alloc (.cells #[.slice x5 n5 c5,iv ka] 44)).free;replace B:=hd_ ((B.out).alloc (Nat.le_trans B.out.size (by simp)) (.cells #[.slice x5 n5 c5,iv ka] 44))
 rw[<-hW]at B;replace R:=R.alloc (.cells #[.slice x5 n5 c5,iv ka] 44);rw[<-hW]at R;replace O2:=hd_ (O2.out.alloc (.cells #[.slice x5 n5 c5,iv ka] 44));rw[<-hW]at O2;replace X2:=X2.alloc (.cells #[.slice x5 n5 c5,iv ka] 44);rw[<-hW]at X2;replace O3:=hd_ (O3.out.alloc (.cells #[.slice x5 n5 c5,iv ka] 44));rw[<-hW]at O3;replace X3:=X3.alloc (.cells #[.slice x5 n5 c5,iv ka] 44);rw[<-hW]at X3
 replace O4:=hd_ (O4.out.alloc (.cells #[.slice x5 n5 c5,iv ka] 44));rw[<-hW]at O4;replace X4:=X4.alloc (.cells #[.slice x5 n5 c5,iv ka] 44);rw[<-hW]at X4;replace O5:=hd_ (O5.out.alloc (.cells #[.slice x5 n5 c5,iv ka] 44));rw[<-hW]at O5;have X5:=K.bD.new w5 44 (.slice x5 n5 c5) (iv ka);rw[<-hW]at X5;clear ho;have e1:=aKA t;rw[<-HAA.out, <-HF.out, <-HT.out, <-HK.out]at e1;have E1:=hd_ e1;clear e1
 have F1:=HF;clear HF;have fin:=R.set (.slice x2 n2 c2) (.slice x3 n3 c3) (.slice x4 n4 c4) (iv tl) (iv ta) (.slice x5 n5 c5) (iv ka);have OF:=bN.box7 (bN.make (V:=⟨x2,n2,c2,x3,n3,c3,x4,n4,c4,x5,n5,c5⟩) (s:=⟨A,F,tp,tl,ta,kp,ka⟩) O2.out O3.out O4.out O5.out L2.out L3'.out T2.out L4.out L5.out) R (.slice x2 n2 c2) (.slice x3 n3 c3) (.slice x4 n4 c4) (iv tl) (iv ta) (.slice x5 n5 c5) (iv ka)
 have BF:=bB B.out lr_ (.slice x2 n2 c2) (.slice x3 n3 c3) (.slice x4 n4 c4) (iv tl) (iv ta) (.slice x5 n5 c5) (iv ka);have SF:=cT W5 w.heap.size (.slice x2 n2 c2) (.slice x3 n3 c3) (.slice x4 n4 c4) (iv tl) (iv ta) (.slice x5 n5 c5) (iv ka);have HF:=hd_ (And.intro (bN.base OF lr_ (Nat.le_of_eq SF.symm) lr_) BF);have HY:=hd_ fin;clear fin OF BF SF;go_wp2;rw[<-hW]
 clear hW ax20 ax30 ax40 ax41 ax42 ar0 ar1 ar2 ar3 ar4 ar5 ar6 frr;show bodyPost _ _ _ _ _ (set7 W5 w.heap.size (.slice x2 n2 c2) (.slice x3 n3 c3) (.slice x4 n4 c4) (iv tl) (iv ta) (.slice x5 n5 c5) (iv ka))
 obtain⟨d0,d1,d2,d3,d4,d5,d6⟩:=HY.out.cells;generalize set7 W5 w.heap.size (.slice x2 n2 c2) (.slice x3 n3 c3) (.slice x4 n4 c4) (iv tl) (iv ta) (.slice x5 n5 c5) (iv ka)=WF at HF d0 d1 d2 d3 d4 d5 d6 ⊢;refine bodyPost_ret (v:=.agg #[.slice x2 n2 c2,.slice x3 n3 c3,.slice x4 n4 c4,iv tl,iv ta,.slice x5 n5 c5,iv ka]) (by simp[results,results174,go_sem,d0,d1,d2,d3,d4,d5,d6]) rfl ?_;rw[E1.out]
 exact⟨⟨x2,n2,c2,x3,n3,c3,x4,n4,c4,x5,n5,c5⟩,rfl,HF.out⟩
theorem aMr (v:Value) (w:World):(Instr.typeAssert (.iface 36 v) 142 36 true).run prog w=.ok (.tuple #[v,.bool true]) w:=by kernel_rfl
theorem aLI (v:Value) (w:World):(Instr.typeAssert (.iface 38 v) 142 36 true).run prog w=.ok (.tuple #[.agg #[zn],.bool false]) w/\
  (Instr.typeAssert (.iface 38 v) 142 38 true).run prog w=.ok (.tuple #[v,.bool true]) w:=⟨by kernel_rfl,by kernel_rfl⟩
theorem aKr (v:Value) (w:World):(Instr.typeAssert (.iface 41 v) 142 36 true).run prog w=.ok (.tuple #[.agg #[zn],.bool false]) w/\
  (Instr.typeAssert (.iface 41 v) 142 38 true).run prog w=.ok (.tuple #[.agg #[zn],.bool false]) w/\
  (Instr.typeAssert (.iface 41 v) 142 41 true).run prog w=.ok (.tuple #[v,.bool true]) w:=⟨by kernel_rfl,by kernel_rfl,by kernel_rfl⟩
theorem aGp (v:Value) (w:World):(Instr.typeAssert (.iface 44 v) 142 36 true).run prog w=.ok (.tuple #[.agg #[zn],.bool false]) w/\
  (Instr.typeAssert (.iface 44 v) 142 38 true).run prog w=.ok (.tuple #[.agg #[zn],.bool false]) w/\
  (Instr.typeAssert (.iface 44 v) 142 41 true).run prog w=.ok (.tuple #[.agg #[zn,iv 0,iv 0],.bool false]) w/\
  (Instr.typeAssert (.iface 44 v) 142 44 true).run prog w=.ok (.tuple #[v,.bool true]) w:=⟨by kernel_rfl,by kernel_rfl,by kernel_rfl,by kernel_rfl⟩
end Go.Proofs.YtcblbdpdbggkbaaGreat
namespace Go.Proofs.YtcblbdpdbggkbaaGreat
open _root_.Go.Proofs.Tryz
open Go.RowKit Go.Sort
namespace N
theorem uH (w:World) {x1:Option Addr} {c1:Nat} {v2 v3 v4:Value} {n:Nt} {f:List Nat} (h1:uM TY w [.slice x1 5 c1] n.nodes f) {beacon:Int} {b:Bool} (hb:b=in6 beacon 0 (aA n 0).beacon):
  Calls prog 154 #[.agg #[.slice x1 5 c1,v2,v3,v4],iv beacon] w fun r w'=>r=.returned (.bool b)/\Below w.heap.size w w':=by
 have h5:n.nodes.length=5:=(aT h1).1.symm;obtain⟨r0,hr0⟩:∃nd,n.nodes[0]? =some nd:=⟨_,List.getElem?_eq_getElem (by rw[h5];decide)⟩
 have e0:aA n 0=r0:=by unfold aA;rw[List.getD_eq_getElem?_getD,show (0:Int).toNat=0 from rfl,hr0];rfl
 rw[e0]at hb;have H0:=(M.start w).alloc #[.slice x1 5 c1,v2,v3,v4] 30;have HB:=hd_ H0.below;obtain⟨a0,a1,a2,a3⟩:=H0.cells4;obtain⟨g1,xk,ck,fk,rfl,_,_,_,_,_,z0,z1,z2,z3,z4⟩:=cB h1 hr0;replace z2:=cell_later H0.below z2;simp only[Nat.zero_mul,Nat.zero_add]at z2;obtain⟨q1,hq1⟩:=nm_ (decide (0<=beacon));obtain⟨q2,hq2⟩:=nm_ (decide (beacon<=r0.beacon));have E:Hid (b=(q1&&q2)):=hd_ (by
    rw[hb,hq1,hq2]
    unfold in6
    by_cases x:0<=beacon<;>by_cases y:beacon<=r0.beacon<;>simp[x,y])
 have g1':=hq1.symm;have g2':=hq2.symm;clear hb hq1 hq2 H0 e0 hr0 h5 h1 z0 z1 z3 z4;go_enter func154,ntmps154;rcases q1 with _|_
 all_goals
  go_wp2;go_ret;exact⟨by rw[E.out];rfl,HB.out⟩
theorem aG7 {a b:Int} {t:Bool} (h:t=two a b) (w:World):Calls prog 70 #[iv a,iv b] w fun e w'=>e=.returned (.bool t)/\w=w':=by
 rw[h];exact aCr w a b
def kL (n:Nt) (i:Int):Bool:=in6 (aA n i).beacon 0 (aA n 0).beacon&&(if i=0 then ((aA n i).level==0)&&(((aA n i).up== -1)&&decide ((aA n i).beacon<=1000))else if (aA n i).level=5 then (aA n i).up== -1 else decide (1<=(aA n i).level)&&(decide ((aA n i).level<5)&&two i (aA n i).up))
theorem aCG (w:World) {x1:Option Addr} {c1:Nat} {v2 v3 v4:Value} {n:Nt} {f:List Nat} (h1:uM TY w [.slice x1 5 c1] n.nodes f) {i:Nat} (i5:i<5):
  Calls prog 81 #[.agg #[.slice x1 5 c1,v2,v3,v4],iv (i:Int)] w fun r w'=>r=.returned (.bool (kL n i))/\Below w.heap.size w w':=by
 have h5:n.nodes.length=5:=(aT h1).1.symm;obtain⟨nd,hnd⟩:∃nd,n.nodes[i]? =some nd:=⟨_,List.getElem?_eq_getElem (by rw[h5];exact i5)⟩
 have eN:aA n (i:Int)=nd:=by unfold aA;rw[List.getD_eq_getElem?_getD,Int.toNat_natCast,hnd];rfl
 have HB0:Hid (kL n (i:Int)=(in6 nd.beacon 0 (aA n 0).beacon&&(if (i:Int)=0 then (nd.level==0)&&((nd.up== -1)&&decide (nd.beacon<=1000))else if nd.level=5 then nd.up== -1 else decide (1<=nd.level)&&(decide (nd.level<5)&&two i nd.up)))):=hd_ (by unfold kL;rw[eN]);have H0:=((M.start w).alloc #[.slice x1 5 c1,v2,v3,v4] 30)
 obtain⟨w1,hw1⟩:=nm_ (w.alloc (.cells #[.slice x1 5 c1,v2,v3,v4] 30));obtain⟨p1,hp1⟩:=nm_ w.heap.size;have HP:=hd_ hp1;rw[<-hw1, <-hp1]at H0;have hWB:Below w.heap.size w w1:=by have:=H0.below;rwa[hp1]at this
 obtain⟨g1,xk,ck,fk,rfl,_,_,_,_,_,b0,b1,b2,b3,b4⟩:=cB h1 hnd;replace b0:=cell_later hWB b0;replace b1:=cell_later hWB b1;replace b2:=cell_later hWB b2;replace b3:=cell_later hWB b3;replace b4:=cell_later hWB b4;obtain⟨a0,a1,a2,a3⟩:=H0.cells4;have H1:=H0.alloc #[iv nd.born,.slice xk nd.known.length ck,iv nd.beacon,iv nd.level,iv nd.up] 55;obtain⟨p2,hp2⟩:=nm_ w1.heap.size;rw[<-hp2]at H1
 obtain⟨w2,hw2⟩:=nm_ (w1.alloc (.cells #[iv nd.born,.slice xk nd.known.length ck,iv nd.beacon,iv nd.level,iv nd.up] 55));rw[<-hw2]at H1;have H:=hd_ H1;have hWB2:Below w.heap.size w w2:=by have:=H1.below;rwa[hp1]at this
 obtain⟨c0,c1',c2,c3⟩:=H1.p1.cells4;obtain⟨d0,d1,d2,d3,d4⟩:=H1.cells5;obtain⟨t1,ht1⟩:=nm_ (in6 nd.beacon 0 (aA n 0).beacon);have KB:=hd_ (uH w2 (v2:=v2) (v3:=v3) (v4:=v4) ((aV aY _ _).below h1 hWB2 lr_) ht1);rw[<-ht1]at HB0;have i0:(0:Int)<=(i:Int):=o_;have i5':(i:Int)<5:=o_;have HSZ:=hd_ (show w1.heap.size=w.heap.size+1 by rw[hw1];simp)
 clear ht1 H0 H1 hWB hWB2 h1 h5 hnd eN c0 c1' c2 c3 d0 d1 d2 d3 d4 a0 a1 a2 a3;rw[hw1]at b0 b1 b2 b3 b4;go_enter func81,ntmps81
 go_wp2_with fail
 rw[<-hw1, <-HSZ.out, <-hp1, <-hp2, <-hw2];clear hw1 hp1 hp2 hw2 b0 b1 b2 b3 b4;refine KB.out.mono ?_;rintro e w3 ⟨rfl,hb⟩;have H3:=hd_ (H.out.later hb);clear hb KB H;obtain⟨d0,d1,d2,d3,d4⟩:=H3.out.cells5;rcases t1 with _|_
 case false=>
  go_wp2;go_ret;exact⟨by rw[HB0.out];rfl,by rw[<-HP.out];exact H3.out.below⟩
 by_cases hi:i=0
 ·subst hi
  obtain⟨l0,hl0⟩:=nm_ (nd.level==0);obtain⟨u0,hu0⟩:=nm_ (nd.up== -1);obtain⟨b0,hb0⟩:=nm_ (decide (nd.beacon<=1000));have NB2:Hid (kL n ((0:Nat):Int)=(l0&&(u0&&b0))):=hd_ (by rw[HB0.out,if_pos r_,hl0,hu0,hb0];rfl);have ga:=hl0.symm;have gb:=hu0.symm;have gc:=hb0.symm;clear hl0 hu0 hb0 HB0;refine aDq (a:=l0) (b:=u0) ?_ ?_ ?_
  all_goals
   first
    |(intro e1 e2;subst e1 e2)
    |(intro e1;subst e1)
   go_wp2;go_ret;exact⟨by rw[NB2.out];rfl,by rw[<-HP.out];exact H3.out.below⟩
 have hi':((i:Int)==0)=false:=by simpa using hi
 by_cases hl:nd.level=5
 ·have gl:(nd.level==5)=true:=by simpa using hl
  have NB2:Hid (kL n (i:Int)=(nd.up== -1)):=hd_ (by rw[HB0.out,if_neg (by simpa using hi),if_pos hl];rfl);clear hl;go_wp2;go_ret;exact⟨by rw[NB2.out];rfl,by rw[<-HP.out];exact H3.out.below⟩
 have gl:(nd.level==5)=false:=by simpa using hl
 obtain⟨q1,hq1⟩:=nm_ (decide (1<=nd.level));obtain⟨q2,hq2⟩:=nm_ (decide (nd.level<5));obtain⟨q3,hq3⟩:=nm_ (two (i:Int) nd.up);have NB2:Hid (kL n (i:Int)=(q1&&(q2&&q3))):=hd_ (by rw[HB0.out,if_neg (by simpa using hi),if_neg hl,hq1,hq2,hq3];rfl);have ga:=hq1.symm;have gb:=hq2.symm;have K3:=hd_ (aG7 hq3);clear hq1 hq2 hq3 hl hi HB0;refine aDq (a:=q1) (b:=q2) ?_ ?_ ?last
 case last=>
  intro e1 e2;subst e1 e2
  go_wp2_with fail
  refine (K3.out _).mono ?_;rintro e' w' ⟨rfl,hw'⟩;rw[<-hw'];clear hw' w' K3;go_wp2;go_ret;exact⟨by rw[NB2.out];simp,by rw[<-HP.out];exact H3.out.below⟩
 all_goals
  first
   |(intro e1 e2;subst e1 e2)
   |(intro e1;subst e1)
  go_wp2;go_ret;exact⟨by rw[NB2.out];rfl,by rw[<-HP.out];exact H3.out.below⟩
theorem aFl {a:Int} {b:Bool} (h:b=in6 a 0 63) (w:World):Calls prog 106 #[iv a] w fun e w'=>e=.returned (.bool b)/\w=w':=by
 cases b with
 |true=>exact kC a w (bH.1 h.symm).1 (by have:=(bH.1 h.symm).2;omega)
 |false=>exact nS a w (by have:=of_decide_eq_false h.symm;omega)
end N
end Go.Proofs.YtcblbdpdbggkbaaGreat
