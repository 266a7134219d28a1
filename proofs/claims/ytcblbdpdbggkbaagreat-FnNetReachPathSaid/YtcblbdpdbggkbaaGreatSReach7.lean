/-
  What the laws of Reach need of the texts before it, part 7.
-/
import Derived.ArgAppend
import Derived.BigQuiet
import Derived.Carry
import Derived.ChangeSame
import Derived.Deep.AppendLies
import Derived.Deep.Cut
import Derived.Deep.DeepCutAuto
import Derived.Deep.DrawnRows
import Derived.Deep.Fields
import Derived.Deep.Matrix
import Derived.Deep.MidRow
import Derived.Deep.OwnRows
import Derived.Deep.QuietTactic
import Derived.Deep.RegionHeld3
import Derived.Deep.RegionLaw
import Derived.Deep.RegionLawGrows
import Derived.Deep.RegionWith
import Derived.Deep.Slices
import Derived.Deep.WholeRow
import Derived.DeepKeys5
import Derived.Handy
import Derived.IntWalk
import Derived.KernelRfl
import Derived.Laws.AppendOwnNone
import Derived.Laws.EntriesVeiled
import Derived.Laws.ResultCell
import Derived.Lib.AppendZerosOnto
import Derived.Lib.Hide
import Derived.Lib.QuietBelow
import Derived.Lib.SliceRun
import Derived.Lib.SmallJoins
import Derived.Lib.Walk
import Derived.LoopIn
import Derived.LoopN
import Derived.LoopNIn
import Derived.Maps.AppendAt
import Derived.Maps.Keyed
import Derived.Maps.Own
import Derived.OneCell
import Derived.OpenShut
import Derived.OrdersHeld
import Derived.OwnWalkIn
import Derived.RangeFuncBound
import Derived.RangeFuncBox
import Derived.RangeFuncCalls
import Derived.RangeFuncLeaves
import Derived.RangeFuncNested
import Derived.RegionTactic
import Derived.Shelf.Abstract
import Derived.Shelf.RegionOpen
import Derived.Shelf.SlSortCmp.InsertionK
import Derived.StillTail
import Derived.TacticsInMore
import Derived.Test.YtcblbdpdbggkbaaGreatRows
import Derived.WalkKit
import Derived.WalkLawsBesides
import Derived.WalkSmall
import Derived.WalkSpells
import Derived.Test.YtcblbdpdbggkbaaGreatSReach6
set_option maxRecDepth 100000
set_option maxHeartbeats 16000000
set_option linter.unusedVariables false
set_option linter.unusedSectionVars false
set_option linter.unusedSimpArgs false
namespace Go.Proofs.YtcblbdpdbggkbaaGreat
open Go.RowKit Go.Sort
namespace N
theorem ints_cut {w:World} {x:Option Addr} {n c:Nat} {zs:List Int} (h:Ints w (.slice x n c) zs) {k:Nat} (hk:k<=n):Ints w (.slice x k c) (zs.take k):=by
 have hn:=h.len;rcases h with ⟨e,rfl⟩|⟨b,o,cap,e,h1,h2,h3,h4⟩
 ·simp at e
  obtain rfl:k=0:=by omega
  exact .inl ⟨by simp[e],by simp⟩
 ·simp at e
  obtain⟨rfl, -,rfl⟩:=e;have hl:(zs.take k).length=k:=by rw[List.length_take];omega
  exact .inr ⟨b,o,c,by rw[hl],by omega,h2,h3,fun i hi=>by
      have hi':i<k:=by omega
      rw[h4 i (by omega),List.getD_eq_getElem?_getD,List.getD_eq_getElem?_getD,List.getElem?_take_of_lt hi']⟩
theorem sv_inj {V1 V2:SV} {s:Sm} (h:([.slice V1.xr V1.nr V1.cr,.slice V1.xf V1.nf V1.cf,.slice V1.xt V1.nt V1.ct,.int .i64 s.lo,.int .i64 s.al,.slice V1.xk V1.nk V1.ck,.int .i64 s.ka]:List Value)=[.slice V2.xr V2.nr V2.cr,.slice V2.xf V2.nf V2.cf,.slice V2.xt V2.nt V2.ct,.int .i64 s.lo,.int .i64 s.al,.slice V2.xk V2.nk V2.ck,.int .i64 s.ka]):V1=V2:=by
 cases V1;cases V2;simp only[List.cons.injEq,Value.slice.injEq,true_and,and_true]at h;obtain⟨⟨a1,a2,a3⟩,⟨a4,a5,a6⟩,⟨a7,a8,a9⟩,a10,a11,a12⟩:=h;subst a1 a2 a3 a4 a5 a6 a7 a8 a9 a10 a11 a12
 rfl
theorem in6_at (z lo hi:Int) (w:World):Calls Tryz.prog 66 #[.int .i64 z,.int .i64 lo,.int .i64 hi] w fun e w'=>e=.returned (.bool (in6 z lo hi))/\w'=w:=by
 unfold in6
 by_cases h:lo<=z/\z<=hi
 ·exact (l6In_yes z lo hi w h.1 h.2).mono fun e w' ⟨h1,h2⟩=>⟨by rw[h1,decide_eq_true h],h2.symm⟩
 ·exact (l6In_no z lo hi w (by omega)).mono fun e w' ⟨h1,h2⟩=>⟨by rw[h1,decide_eq_false h],h2.symm⟩
structure NetRd (w:World) (v1 v2 v3 v4:Value) (n:Nt):Prop where
 nodes:∃f,nodesR TY w [v1] n.nodes f
 links:∃f,linksR TY w [v2] n.links f
 words:∃f,wordsR TY w [v3] n.words f
 past:∃f,pastR TY w [v4] n.past f
theorem NetRd.below {w w':World} {v1 v2 v3 v4:Value} {n:Nt} (h:NetRd w v1 v2 v3 v4 n) {B:Nat} (hb:Below B w w') (hB:w.heap.size<=B):NetRd w' v1 v2 v3 v4 n:=by
 obtain⟨⟨f1,h1⟩,⟨f2,h2⟩,⟨f3,h3⟩,f4,h4⟩:=h;exact⟨⟨f1,(slcR_frame nodeR_frame _ _).below h1 hb hB⟩,⟨f2,(slcR_frame (flatR_frame _) _ _).below h2 hb hB⟩,⟨f3,(slcR_frame wordR_frame _ _).below h3 hb hB⟩,f4,(slcR_frame rowsR_frame _ _).below h4 hb hB⟩
structure Shape (n:Nt):Prop where
 nodes:n.nodes.length=5
 past:n.past.length=5
 rows:∀i:Nat,i<5->((rowsAt n i).length:Int)=(nodeAt n i).born+1
theorem spEntry_at (w:World) {x1 x4:Option Addr} {k1 c1 k4 c4:Nat} {v2 v3:Value} {n:Nt} {V:SV} {e:En} (hn:NetRd w (.slice x1 k1 c1) v2 v3 (.slice x4 k4 c4) n) (hs:Shape n) (he:RdS w V e.s):
  Calls Tryz.prog 205 #[.agg #[.slice x1 k1 c1,v2,v3,.slice x4 k4 c4],.agg #[.int .i64 e.node,.int .i64 e.born,.int .i64 e.num,.slice V.xr V.nr V.cr,.slice V.xf V.nf V.cf,.slice V.xt V.nt V.ct,.int .i64 (e.s).lo,.int .i64 (e.s).al,.slice V.xk V.nk V.ck,.int .i64 (e.s).ka]] w fun r w'=>r=.returned (.bool (entryB n e))/\Below w.heap.size w w':=by
 obtain⟨f1,n1⟩:=hn.nodes;obtain⟨f4,n4⟩:=hn.past;obtain rfl:k1=5:=(slcR_row n1).1.trans hs.nodes;obtain rfl:k4=5:=(slcR_row n4).1.trans hs.past;obtain⟨node,born,num,s⟩:=e;simp only at he ⊢
 have H0:=((M.start w).alloc #[.slice x1 5 c1,v2,v3,.slice x4 5 c4] 30).alloc #[.int .i64 node,.int .i64 born,.int .i64 num,.slice V.xr V.nr V.cr,.slice V.xf V.nf V.cf,.slice V.xt V.nt V.ct,.int .i64 s.lo,.int .i64 s.al,.slice V.xk V.nk V.ck,.int .i64 s.ka] 64;simp only[World.size_alloc]at H0
 have EB:Hid (entryB n ⟨node,born,num,s⟩=(in6 node 0 4&&(in6 born 1 (nodeAt n node).born&&(in6 num 0 (pastAt n node born).length&&(okS (upS ((pastAt n node born).take num.toNat))&&sameS (upS ((pastAt n node born).take num.toNat)) s))))):=hd_ rfl;have HS:=hd_ hs;have HE:=hd_ he;have N1:=hd_ n1;have N4:=hd_ n4;clear hn hs he n1 n4;go_enter Tryz.func205,Tryz.ntmps205;go_upto_region 1 with fail
 obtain⟨p1,hp1⟩:∃p,p=w.heap.size:=⟨_,rfl⟩
 obtain⟨p2,hp2⟩:∃p,p=w.heap.size+1:=⟨_,rfl⟩
 have HP:=hd_ hp1;rw[<-hp2, <-hp1]at H0;rw[<-hp2, <-hp1];clear hp1 hp2;generalize ((w.alloc (.cells #[.slice x1 5 c1,v2,v3,.slice x4 5 c4] 30)).alloc (.cells #[.int .i64 node,.int .i64 born,.int .i64 num,.slice V.xr V.nr V.cr,.slice V.xf V.nf V.cf,.slice V.xt V.nt V.ct,.int .i64 s.lo,.int .i64 s.al,.slice V.xk V.nk V.ck,.int .i64 s.ka] 64))=w1 at H0 ⊢;obtain⟨W,hW⟩:∃W,W=w1.drew:=⟨_,rfl⟩
 have H1:=H0.drew;rw[<-hW]at H1;have EW:=hd_ hW;have H:=hd_ H1;clear H0 H1 hW;obtain⟨d0,d1,d2,d3,d4,d5,d6,d7,d8,d9⟩:=H.out.cells10;obtain⟨a0,a1,a2,a3⟩:=H.out.p1.cells4
 by_cases hA:in6 node 0 4=true
 case neg=>
  have gA:in6 node 0 4=false:=by simpa using hA
  have F:=hd_ (show entryB n ⟨node,born,num,s⟩=false by rw[EB.out,gA];rfl);clear hA;go_upto_region 1 with fail
  refine wp_region_plan 99 (.tk 0 6 (.alt 6 (.tk 7 11 (.alt 18 (.tk 19 16 (.alt 35 (.tk 36 2 .done) .nomore)) .nomore)) .nomore)) (fun w'=>w'=W) (by kernel_rfl) (by kernel_rfl) (fun _ _ _ _ _ h=>h) EW.out.symm ?_;rw[<-EW.out]
  repeat ((first|(refine plan_take (by rfl) (by rfl) ?_;apply Exists.intro;refine⟨fun w' hw'=>?_,?_⟩;(· ((try dsimp only at hw');go_simp;(try with_reducible rfl))))|(refine plan_skip (by rfl) (by rfl) ?_));simp only[Act.put,List.getElem_toArray,List.getElem_cons_succ,pg3,pg4,pg5,pg6])
  refine plan_last (by rfl) (fun K' hK=>?_);go_simp;refine (in6_at node 0 4 W).mono ?_;rintro e w' ⟨rfl,hw'⟩;rw[hw'];clear hw' w';refine hK _ _ (.inr rfl) ?_;clear hK K'
  try simp only[Act.put,List.getElem_toArray,List.getElem_cons_succ,pg3,pg4,pg5,pg6]
  repeat ((first|(refine plan_take (by rfl) (by rfl) ?_;apply Exists.intro;refine⟨fun w' hw'=>?_,?_⟩;(· ((try dsimp only at hw');go_simp;(try with_reducible rfl))))|(refine plan_skip (by rfl) (by rfl) ?_));simp only[Act.put,List.getElem_toArray,List.getElem_cons_succ,pg3,pg4,pg5,pg6])
  refine plan_last (by rfl) (fun K' hK=>?_);go_simp;refine hK _ _ (.inr rfl) ?_;clear hK K'
  try simp only[Act.put,List.getElem_toArray,List.getElem_cons_succ,pg3,pg4,pg5,pg6]
  repeat ((first|(refine plan_take (by rfl) (by rfl) ?_;apply Exists.intro;refine⟨fun w' hw'=>?_,?_⟩;(· ((try dsimp only at hw');go_simp;(try with_reducible rfl))))|(refine plan_skip (by rfl) (by rfl) ?_));simp only[Act.put,List.getElem_toArray,List.getElem_cons_succ,pg3,pg4,pg5,pg6])
  refine plan_last (by rfl) (fun K' hK=>?_);go_simp;refine hK _ _ (.inr rfl) ?_;clear hK K'
  try simp only[Act.put,List.getElem_toArray,List.getElem_cons_succ,pg3,pg4,pg5,pg6]
  repeat ((first|(refine plan_take (by rfl) (by rfl) ?_;apply Exists.intro;refine⟨fun w' hw'=>?_,?_⟩;(· ((try dsimp only at hw');go_simp;(try with_reducible rfl))))|(refine plan_skip (by rfl) (by rfl) ?_));simp only[Act.put,List.getElem_toArray,List.getElem_cons_succ,pg3,pg4,pg5,pg6])
  refine plan_done ?_;go_wp2;go_ret;exact⟨by rw[F.out];rfl,by have:=H.out.below;rwa[HP.out]at this⟩
 have gA:=hd_ hA;obtain⟨iA,iB⟩:=in6_iff.1 hA;clear hA;obtain⟨i,rfl⟩:∃i:Nat,node=i:=⟨node.toNat,by omega⟩
 have i5:i<5:=by omega
 clear iA iB;obtain⟨nd,hnd⟩:∃nd,n.nodes[i]? =some nd:=⟨_,List.getElem?_eq_getElem (by rw[HS.out.nodes];exact i5)⟩
 obtain⟨rs,hrs⟩:∃rs,n.past[i]? =some rs:=⟨_,List.getElem?_eq_getElem (by rw[HS.out.past];exact i5)⟩
 have eN:nodeAt n (i:Int)=nd:=by unfold nodeAt;rw[List.getD_eq_getElem?_getD,Int.toNat_natCast,hnd];rfl
 have eR:rowsAt n (i:Int)=rs:=by unfold rowsAt;rw[List.getD_eq_getElem?_getD,Int.toNat_natCast,hrs];rfl
 have eL:=HS.out.rows i i5;rw[eN,eR]at eL;have EN:=hd_ eN;have hWB:=H.out.below;rw[HP.out]at hWB;obtain⟨g1,xk,ck,fk,rfl,_,_,_,_,_,b0,_⟩:=node_at ((slcR_frame nodeR_frame _ _).below N1.out hWB lr_) hnd;obtain⟨g4,xr,cr,fr,rfl,_,_,rr,_,_,b1⟩:=past_at ((slcR_frame rowsR_frame _ _).below N4.out hWB lr_) hrs;have ER:=hd_ eR;have HL:=hd_ eL;clear hnd hrs eN eR eL hWB;have i0:(0:Int)<=(i:Int):=by omega
 have i5':(i:Int)<5:=by omega
 by_cases hB:in6 born 1 nd.born=true
 case neg=>
  have gB:in6 born 1 nd.born=false:=by simpa using hB
  have F:=hd_ (show entryB n ⟨(i:Int),born,num,s⟩=false by rw[EB.out,EN.out,gA.out,gB];rfl);have gA:=gA.out;clear hB;go_upto_region 1 with fail
  refine wp_region_plan 99 (.tk 0 6 (.alt 6 (.tk 7 11 (.alt 18 (.tk 19 16 (.alt 35 (.tk 36 2 .done) .nomore)) .nomore)) .nomore)) (fun w'=>w'=W) (by kernel_rfl) (by kernel_rfl) (fun _ _ _ _ _ h=>h) EW.out.symm ?_;rw[<-EW.out]
  repeat ((first|(refine plan_take (by rfl) (by rfl) ?_;apply Exists.intro;refine⟨fun w' hw'=>?_,?_⟩;(· ((try dsimp only at hw');go_simp;(try with_reducible rfl))))|(refine plan_skip (by rfl) (by rfl) ?_));simp only[Act.put,List.getElem_toArray,List.getElem_cons_succ,pg3,pg4,pg5,pg6])
  refine plan_last (by rfl) (fun K' hK=>?_);go_simp;refine (in6_at (i:Int) 0 4 W).mono ?_;rintro e w' ⟨rfl,hw'⟩;rw[hw'];clear hw' w';refine hK _ _ (.inr rfl) ?_;clear hK K'
  try simp only[Act.put,List.getElem_toArray,List.getElem_cons_succ,pg3,pg4,pg5,pg6]
  repeat ((first|(refine plan_take (by rfl) (by rfl) ?_;apply Exists.intro;refine⟨fun w' hw'=>?_,?_⟩;(· ((try dsimp only at hw');go_simp;(try with_reducible rfl))))|(refine plan_skip (by rfl) (by rfl) ?_));simp only[Act.put,List.getElem_toArray,List.getElem_cons_succ,pg3,pg4,pg5,pg6])
  refine plan_last (by rfl) (fun K' hK=>?_);go_simp;refine (in6_at born 1 nd.born W).mono ?_;rintro e w' ⟨rfl,hw'⟩;rw[hw'];clear hw' w';refine hK _ _ (.inr rfl) ?_;clear hK K'
  try simp only[Act.put,List.getElem_toArray,List.getElem_cons_succ,pg3,pg4,pg5,pg6]
  repeat ((first|(refine plan_take (by rfl) (by rfl) ?_;apply Exists.intro;refine⟨fun w' hw'=>?_,?_⟩;(· ((try dsimp only at hw');go_simp;(try with_reducible rfl))))|(refine plan_skip (by rfl) (by rfl) ?_));simp only[Act.put,List.getElem_toArray,List.getElem_cons_succ,pg3,pg4,pg5,pg6])
  refine plan_last (by rfl) (fun K' hK=>?_);go_simp;refine hK _ _ (.inr rfl) ?_;clear hK K'
  try simp only[Act.put,List.getElem_toArray,List.getElem_cons_succ,pg3,pg4,pg5,pg6]
  repeat ((first|(refine plan_take (by rfl) (by rfl) ?_;apply Exists.intro;refine⟨fun w' hw'=>?_,?_⟩;(· ((try dsimp only at hw');go_simp;(try with_reducible rfl))))|(refine plan_skip (by rfl) (by rfl) ?_));simp only[Act.put,List.getElem_toArray,List.getElem_cons_succ,pg3,pg4,pg5,pg6])
  refine plan_done ?_;go_wp2;go_ret;exact⟨by rw[F.out];rfl,by have:=H.out.below;rwa[HP.out]at this⟩
 have gB:=hd_ hB;obtain⟨jA,jB⟩:=in6_iff.1 hB;clear hB;obtain⟨j,rfl⟩:∃j:Nat,born=j:=⟨born.toNat,by omega⟩
 have jr:j<rs.length:=by have:=HL.out;omega
 have j0:(0:Int)<=(j:Int):=by omega
 have j1:(j:Int)<(rs.length:Int):=by omega
 clear jA jB;obtain⟨lp,hlp⟩:∃lp,rs[j]? =some lp:=⟨_,List.getElem?_eq_getElem jr⟩
 have EP:Hid (pastAt n (i:Int) (j:Int)=lp):=hd_ (by unfold pastAt;rw[ER.out,List.getD_eq_getElem?_getD,Int.toNat_natCast,hlp];rfl);obtain⟨g5,xl,cl,fl,rfl,_,_,rl,lc,lm,b2⟩:=row_at rr hlp;have RL:=hd_ rl;clear hlp rr rl jr
 by_cases hC:in6 num 0 (lp.length:Int)=true
 case neg=>
  have gC:in6 num 0 (lp.length:Int)=false:=by simpa using hC
  have F:=hd_ (show entryB n ⟨(i:Int),(j:Int),num,s⟩=false by rw[EB.out,EN.out,EP.out,gA.out,gB.out,gC];rfl);have gA:=gA.out;have gB:=gB.out;clear hC;go_upto_region 1 with fail
  refine wp_region_plan 99 (.tk 0 6 (.alt 6 (.tk 7 11 (.alt 18 (.tk 19 16 (.alt 35 (.tk 36 2 .done) .nomore)) .nomore)) .nomore)) (fun w'=>w'=W) (by kernel_rfl) (by kernel_rfl) (fun _ _ _ _ _ h=>h) EW.out.symm ?_;rw[<-EW.out]
  repeat ((first|(refine plan_take (by rfl) (by rfl) ?_;apply Exists.intro;refine⟨fun w' hw'=>?_,?_⟩;(· ((try dsimp only at hw');go_simp;(try with_reducible rfl))))|(refine plan_skip (by rfl) (by rfl) ?_));simp only[Act.put,List.getElem_toArray,List.getElem_cons_succ,pg3,pg4,pg5,pg6])
  refine plan_last (by rfl) (fun K' hK=>?_);go_simp;refine (in6_at (i:Int) 0 4 W).mono ?_;rintro e w' ⟨rfl,hw'⟩;rw[hw'];clear hw' w';refine hK _ _ (.inr rfl) ?_;clear hK K'
  try simp only[Act.put,List.getElem_toArray,List.getElem_cons_succ,pg3,pg4,pg5,pg6]
  repeat ((first|(refine plan_take (by rfl) (by rfl) ?_;apply Exists.intro;refine⟨fun w' hw'=>?_,?_⟩;(· ((try dsimp only at hw');go_simp;(try with_reducible rfl))))|(refine plan_skip (by rfl) (by rfl) ?_));simp only[Act.put,List.getElem_toArray,List.getElem_cons_succ,pg3,pg4,pg5,pg6])
  refine plan_last (by rfl) (fun K' hK=>?_);go_simp;refine (in6_at (j:Int) 1 nd.born W).mono ?_;rintro e w' ⟨rfl,hw'⟩;rw[hw'];clear hw' w';refine hK _ _ (.inr rfl) ?_;clear hK K'
  try simp only[Act.put,List.getElem_toArray,List.getElem_cons_succ,pg3,pg4,pg5,pg6]
  repeat ((first|(refine plan_take (by rfl) (by rfl) ?_;apply Exists.intro;refine⟨fun w' hw'=>?_,?_⟩;(· ((try dsimp only at hw');go_simp;(try with_reducible rfl))))|(refine plan_skip (by rfl) (by rfl) ?_));simp only[Act.put,List.getElem_toArray,List.getElem_cons_succ,pg3,pg4,pg5,pg6])
  refine plan_last (by rfl) (fun K' hK=>?_);go_simp;refine (in6_at num 0 (lp.length:Int) W).mono ?_;rintro e w' ⟨rfl,hw'⟩;rw[hw'];clear hw' w';refine hK _ _ (.inr rfl) ?_;clear hK K'
  try simp only[Act.put,List.getElem_toArray,List.getElem_cons_succ,pg3,pg4,pg5,pg6]
  repeat ((first|(refine plan_take (by rfl) (by rfl) ?_;apply Exists.intro;refine⟨fun w' hw'=>?_,?_⟩;(· ((try dsimp only at hw');go_simp;(try with_reducible rfl))))|(refine plan_skip (by rfl) (by rfl) ?_));simp only[Act.put,List.getElem_toArray,List.getElem_cons_succ,pg3,pg4,pg5,pg6])
  refine plan_done ?_;go_wp2;go_ret;exact⟨by rw[F.out];rfl,by have:=H.out.below;rwa[HP.out]at this⟩
 have gC:=hd_ hC;obtain⟨qA,qB⟩:=in6_iff.1 hC;obtain⟨q,rfl⟩:∃q:Nat,num=q:=⟨num.toNat,by omega⟩
 have FB:Hid (entryB n ⟨(i:Int),(j:Int),(q:Int),s⟩=(okS (upS (lp.take q))&&sameS (upS (lp.take q)) s)):=hd_ (by rw[EB.out,EN.out,EP.out,gA.out,gB.out,gC.out,Int.toNat_natCast];rfl);have hA:=gA.out;have hB:=gB.out;clear qA;go_upto_region 1 with fail
 refine wp_region_plan 99 (.tk 0 6 (.alt 6 (.tk 7 11 (.alt 18 (.tk 19 16 (.alt 35 (.tk 36 2 .done) .nomore)) .nomore)) .nomore)) (fun w'=>w'=W) (by kernel_rfl) (by kernel_rfl) (fun _ _ _ _ _ h=>h) EW.out.symm ?_;rw[<-EW.out]
 repeat ((first|(refine plan_take (by rfl) (by rfl) ?_;apply Exists.intro;refine⟨fun w' hw'=>?_,?_⟩;(· ((try dsimp only at hw');go_simp;(try with_reducible rfl))))|(refine plan_skip (by rfl) (by rfl) ?_));simp only[Act.put,List.getElem_toArray,List.getElem_cons_succ,pg3,pg4,pg5,pg6])
 refine plan_last (by rfl) (fun K' hK=>?_);go_simp;refine (in6_at (i:Int) 0 4 W).mono ?_;rintro e w' ⟨rfl,hw'⟩;rw[hw'];clear hw' w';refine hK _ _ (.inr rfl) ?_;clear hK K'
 try simp only[Act.put,List.getElem_toArray,List.getElem_cons_succ,pg3,pg4,pg5,pg6]
 repeat ((first|(refine plan_take (by rfl) (by rfl) ?_;apply Exists.intro;refine⟨fun w' hw'=>?_,?_⟩;(· ((try dsimp only at hw');go_simp;(try with_reducible rfl))))|(refine plan_skip (by rfl) (by rfl) ?_));simp only[Act.put,List.getElem_toArray,List.getElem_cons_succ,pg3,pg4,pg5,pg6])
 refine plan_last (by rfl) (fun K' hK=>?_);go_simp;refine (in6_at (j:Int) 1 nd.born W).mono ?_;rintro e w' ⟨rfl,hw'⟩;rw[hw'];clear hw' w';refine hK _ _ (.inr rfl) ?_;clear hK K'
 try simp only[Act.put,List.getElem_toArray,List.getElem_cons_succ,pg3,pg4,pg5,pg6]
 repeat ((first|(refine plan_take (by rfl) (by rfl) ?_;apply Exists.intro;refine⟨fun w' hw'=>?_,?_⟩;(· ((try dsimp only at hw');go_simp;(try with_reducible rfl))))|(refine plan_skip (by rfl) (by rfl) ?_));simp only[Act.put,List.getElem_toArray,List.getElem_cons_succ,pg3,pg4,pg5,pg6])
 refine plan_last (by rfl) (fun K' hK=>?_);go_simp;refine (in6_at (q:Int) 0 (lp.length:Int) W).mono ?_;rintro e w' ⟨rfl,hw'⟩;rw[hw'];clear hw' w';refine hK _ _ (.inr rfl) ?_;clear hK K'
 try simp only[Act.put,List.getElem_toArray,List.getElem_cons_succ,pg3,pg4,pg5,pg6]
 repeat ((first|(refine plan_take (by rfl) (by rfl) ?_;apply Exists.intro;refine⟨fun w' hw'=>?_,?_⟩;(· ((try dsimp only at hw');go_simp;(try with_reducible rfl))))|(refine plan_skip (by rfl) (by rfl) ?_));simp only[Act.put,List.getElem_toArray,List.getElem_cons_succ,pg3,pg4,pg5,pg6])
 refine plan_done ?_;clear hA hB hC b0;have hb2:(q:Int)<=(cl:Int):=by omega
 have q0:(0:Int)<=(q:Int):=by omega
 have IL:Hid (Ints W (.slice xl q cl) (lp.take q)):=hd_ (by
    obtain⟨v,ev,ho,_⟩:=intsR_to RL.out
    cases ev
    exact ints_cut ho (by omega))
 have qn:(q:Int).toNat=q:=Int.toNat_natCast q;go_upto_region 3 with fail
 have S0:Hid (∀w',Below W.heap.size W w'->w'.cell? ⟨p1,3,Option.none⟩=some (.slice (some ⟨g4,0,Option.none⟩) 5 c4)/\w'.cell? ⟨p2,0,Option.none⟩=some (.int .i64 (i:Int))/\w'.cell? ⟨p2,1,Option.none⟩=some (.int .i64 (j:Int))/\w'.cell? ⟨p2,2,Option.none⟩=some (.int .i64 (q:Int))/\w'.cell? ⟨g4,i,Option.none⟩=some (.slice (some ⟨g5,0,Option.none⟩) rs.length cr)/\w'.cell? ⟨g5,j,Option.none⟩=some (.slice xl lp.length cl)):=hd_ fun w' hb=>by
  have k:∀(g o:Nat) (v:Value),W.cell? ⟨g,o,Option.none⟩=some v->w'.cell? ⟨g,o,Option.none⟩=some v:=fun g o v hc=>(hb.cell (p:=⟨g,o,Option.none⟩) (World.block_lt_of_cell? _ _ hc)).trans hc
  exact⟨k _ _ _ a3,k _ _ _ d0,k _ _ _ d1,k _ _ _ d2,k _ _ _ b1,k _ _ _ b2⟩
 clear a0 a1 a2 a3 b1 b2 d0 d1 d2 d3 d4 d5 d6 d7 d8 d9
 refine wp_region_plan 19 (.tk 0 13 (.alt 13 (.tk 14 3 (.alt 17 (.alt 18 (.alt 19 .done .nomore) .nomore) .nomore)) (.alt 17 (.alt 13 (.tk 14 3 (.alt 18 (.alt 19 .done .nomore) .nomore)) .nomore) .nomore))) (fun w'=>w'.cell? ⟨p1,3,Option.none⟩=some (.slice (some ⟨g4,0,Option.none⟩) 5 c4)/\w'.cell? ⟨p2,0,Option.none⟩=some (.int .i64 (i:Int))/\w'.cell? ⟨p2,1,Option.none⟩=some (.int .i64 (j:Int))/\w'.cell? ⟨p2,2,Option.none⟩=some (.int .i64 (q:Int))/\w'.cell? ⟨g4,i,Option.none⟩=some (.slice (some ⟨g5,0,Option.none⟩) rs.length cr)/\w'.cell? ⟨g5,j,Option.none⟩=some (.slice xl lp.length cl)) (by kernel_rfl) (by kernel_rfl) (fun _ _ _ _ _ h=>h) (S0.out _ (Below.drew (Below.refl _ _))) ?_
 repeat ((first|(refine plan_take (by rfl) (by rfl) ?_;apply Exists.intro;refine⟨fun w' hw'=>?_,?_⟩;(· ((try dsimp only at hw');go_simp;(try with_reducible rfl))))|(refine plan_skip (by rfl) (by rfl) ?_));simp only[Act.put,List.getElem_toArray,List.getElem_cons_succ,pg3,pg4,pg5,pg6])
 have H3:=hd_ H.out.drew;have BW:Hid (Below W.heap.size W W.drew):=hd_ (Below.drew (Below.refl _ _));have I3:Hid (Ints W.drew (.slice xl q cl) (lp.take q)):=hd_ (IL.out.below BW.out lr_);clear H IL;have hsz:W.heap.size=W.drew.heap.size:=rfl;have HSZ:=hd_ hsz;clear hsz;generalize W.drew=W3 at H3 I3 BW HSZ ⊢
 have KO:=hd_ (fun w' (hb:Below W3.heap.size W3 w')=>spSumOf_at w' xl q cl (lp.take q) (I3.out.below hb lr_));generalize upS (lp.take q)=sm at KO FB;obtain⟨ok,hok⟩:∃ok,ok=okS sm:=⟨_,rfl⟩
 rw[<-hok]at KO FB;clear hok;clear I3;refine plan_alt (by rfl) (fun K' hK=>?_) ?_
 ·go_simp
  refine (KO.out _ (Below.refl _ _)).mono ?_;rintro e w4 ⟨U,rfl,ho,hb⟩;have N4:=(M.start W3).later hb;refine hK _ _ (.inr (S0.out _ (BW.out.trans (by rw[HSZ.out];exact N4.below)))) ?_;clear hK K'
  try simp only[Act.put,List.getElem_toArray,List.getElem_cons_succ,pg3,pg4,pg5,pg6]
  repeat ((first|(refine plan_take (by rfl) (by rfl) ?_;apply Exists.intro;refine⟨fun w' hw'=>?_,?_⟩;(· ((try dsimp only at hw');go_simp;(try with_reducible rfl))))|(refine plan_skip (by rfl) (by rfl) ?_));simp only[Act.put,List.getElem_toArray,List.getElem_cons_succ,pg3,pg4,pg5,pg6])
  have N5:=N4.alloc #[.slice none 0 0,.slice none 0 0,.slice none 0 0,.int .i64 0,.int .i64 0,.slice none 0 0,.int .i64 0] 46;refine plan_last (by rfl) (fun K' hK=>?_);go_simp;refine hK _ _ (.inr (S0.out _ (BW.out.trans (by rw[HSZ.out];exact N5.below)))) ?_;clear hK K'
  try simp only[Act.put,List.getElem_toArray,List.getElem_cons_succ,pg3,pg4,pg5,pg6]
  have N6:=hd_ (N4.alloc #[.slice U.xr U.nr U.cr,.slice U.xf U.nf U.cf,.slice U.xt U.nt U.ct,.int .i64 sm.lo,.int .i64 sm.al,.slice U.xk U.nk U.ck,.int .i64 sm.ka] 46);have R6:=hd_ (ho.rd.below ((M.start w4).alloc #[.slice U.xr U.nr U.cr,.slice U.xf U.nf U.cf,.slice U.xt U.nt U.ct,.int .i64 sm.lo,.int .i64 sm.al,.slice U.xk U.nk U.ck,.int .i64 sm.ka] 46).below lr_)
  have H6:=hd_ (H3.out.later N6.out.below);clear N4 ho hb;refine plan_last (by rfl) (fun K' hK=>?_);go_simp;refine hK _ _ (.inr (S0.out _ (BW.out.trans (by rw[HSZ.out];exact N6.out.below)))) ?_;clear hK K'
  try simp only[Act.put,List.getElem_toArray,List.getElem_cons_succ,pg3,pg4,pg5,pg6]
  clear N5 S0 BW KO;refine plan_last (by rfl) (fun K hK=>?_);go_simp;refine hK _ _ (.inl rfl) ?_;clear hK K
  try simp only[Act.put,List.getElem_toArray,List.getElem_cons_succ,pg3,pg4,pg5,pg6]
  refine plan_done ?_;cases ok with
  |false=>
   have F:=hd_ (show entryB n ⟨(i:Int),(j:Int),(q:Int),s⟩=false by rw[FB.out];rfl);go_wp2;go_ret;exact⟨by rw[F.out];rfl,by have:=H6.out.below;rwa[HP.out]at this⟩
  |true=>
   have F:=hd_ (show entryB n ⟨(i:Int),(j:Int),(q:Int),s⟩=sameS sm s by rw[FB.out];rfl);obtain⟨e0,e1,e2,e3,e4,e5,e6⟩:=N6.out.cells7;obtain⟨d0,d1,d2,d3,d4,d5,d6,d7,d8,d9⟩:=H6.out.cells10;have KS:=hd_ (spSums_at _ (V1:=U) (V2:=V) (s1:=sm) (s2:=s) R6.out (HE.out.below (by have:=H6.out.below;rwa[HP.out]at this) lr_));clear R6
   go_wp2_with fail
   refine KS.out.mono ?_;rintro r w7 ⟨rfl,hb⟩;have H7:=hd_ (H6.out.later hb);clear KS hb e0 e1 e2 e3 e4 e5 e6 d0 d1 d2 d3 d4 d5 d6 d7 d8 d9 N6 H6;go_wp2;go_ret;exact⟨by rw[F.out];rfl,by have:=H7.out.below;rwa[HP.out]at this⟩
 ·refine plan_last (by rfl) (fun K' hK=>?_)
  go_simp;have N4:=(M.start W3).alloc #[.slice none 0 0,.slice none 0 0,.slice none 0 0,.int .i64 0,.int .i64 0,.slice none 0 0,.int .i64 0] 46;refine hK _ _ (.inr (S0.out _ (BW.out.trans (by rw[HSZ.out];exact N4.below)))) ?_;clear hK K'
  try simp only[Act.put,List.getElem_toArray,List.getElem_cons_succ,pg3,pg4,pg5,pg6]
  refine plan_last (by rfl) (fun K' hK=>?_);go_simp;refine (KO.out _ N4.below).mono ?_;rintro e w5 ⟨U,rfl,ho,hb⟩;have N5s:=N4.sum hb ho;have N5:=N5s.p1;refine hK _ _ (.inr (S0.out _ (BW.out.trans (by rw[HSZ.out];exact N5.below)))) ?_;clear hK K'
  try simp only[Act.put,List.getElem_toArray,List.getElem_cons_succ,pg3,pg4,pg5,pg6]
  repeat ((first|(refine plan_take (by rfl) (by rfl) ?_;apply Exists.intro;refine⟨fun w' hw'=>?_,?_⟩;(· ((try dsimp only at hw');go_simp;(try with_reducible rfl))))|(refine plan_skip (by rfl) (by rfl) ?_));simp only[Act.put,List.getElem_toArray,List.getElem_cons_succ,pg3,pg4,pg5,pg6])
  obtain⟨e0,e1,e2,e3,e4,e5,e6⟩:=N5.cells7;have ef:=N5.free;have N6:=hd_ (N5.set7 (.slice U.xr U.nr U.cr) (.slice U.xf U.nf U.cf) (.slice U.xt U.nt U.ct) (.int .i64 sm.lo) (.int .i64 sm.al) (.slice U.xk U.nk U.ck) (.int .i64 sm.ka));have H6:=hd_ (H3.out.later N6.out.below);have R6:Hid (RdS _ U sm):=hd_ (by
      obtain⟨f6,h6,_⟩:=N6.out.p1.first
      obtain⟨U',eU,rU⟩:=sumR_rd h6
      cases sv_inj eU
      exact rU)
  clear ho hb N4 N5s;refine plan_last (by rfl) (fun K' hK=>?_);go_simp;refine hK _ _ (.inr (S0.out _ (BW.out.trans (by rw[HSZ.out];exact N6.out.below)))) ?_;clear hK K'
  try simp only[Act.put,List.getElem_toArray,List.getElem_cons_succ,pg3,pg4,pg5,pg6]
  clear e0 e1 e2 e3 e4 e5 e6 ef N5 S0 BW KO;refine plan_last (by rfl) (fun K hK=>?_);go_simp;refine hK _ _ (.inl rfl) ?_;clear hK K
  try simp only[Act.put,List.getElem_toArray,List.getElem_cons_succ,pg3,pg4,pg5,pg6]
  refine plan_done ?_;cases ok with
  |false=>
   have F:=hd_ (show entryB n ⟨(i:Int),(j:Int),(q:Int),s⟩=false by rw[FB.out];rfl);go_wp2;go_ret;exact⟨by rw[F.out];rfl,by have:=H6.out.below;rwa[HP.out]at this⟩
  |true=>
   have F:=hd_ (show entryB n ⟨(i:Int),(j:Int),(q:Int),s⟩=sameS sm s by rw[FB.out];rfl);obtain⟨e0,e1,e2,e3,e4,e5,e6⟩:=N6.out.cells7;obtain⟨d0,d1,d2,d3,d4,d5,d6,d7,d8,d9⟩:=H6.out.cells10;have KS:=hd_ (spSums_at _ (V1:=U) (V2:=V) (s1:=sm) (s2:=s) R6.out (HE.out.below (by have:=H6.out.below;rwa[HP.out]at this) lr_));clear R6
   go_wp2_with fail
   refine KS.out.mono ?_;rintro r w7 ⟨rfl,hb⟩;have H7:=hd_ (H6.out.later hb);clear KS hb e0 e1 e2 e3 e4 e5 e6 d0 d1 d2 d3 d4 d5 d6 d7 d8 d9 N6 H6;go_wp2;go_ret;exact⟨by rw[F.out];rfl,by have:=H7.out.below;rwa[HP.out]at this⟩
theorem rds_of {w:World} {V:SV} {s:Sm} {f:List Nat} (h:sumR w (cS V s) s f):RdS w V s:=by
 obtain⟨V',e,r⟩:=sumR_rd h;cases sv_inj e;exact r
abbrev entV (V:SV) (e:En):Value:=.agg #[iv e.node,iv e.born,iv e.num,.slice V.xr V.nr V.cr,.slice V.xf V.nf V.cf,.slice V.xt V.nt V.ct,.int .i64 (e.s).lo,.int .i64 (e.s).al,.slice V.xk V.nk V.ck,.int .i64 (e.s).ka]
abbrev noEntV:Value:=.agg #[iv 0,iv 0,iv 0,zn,zn,zn,iv 0,iv 0,zn,iv 0]
theorem spOwn_at (w:World) {xk:Option Addr} {k ck:Nat} {es:List En} {f:List Nat} (h:knownR TY w [.slice xk k ck] es f) (i b0 b1 b2 b3:Int):
  Calls Tryz.prog 159 #[.agg #[iv b0,.slice xk k ck,iv b1,iv b2,iv b3],iv i] w fun r w'=>(∃u,r=.returned u/\((∃e V,findE es i=some e/\RdS w V e.s/\u=.tuple #[entV V e,.bool true])\/(findE es i=none/\u=.tuple #[noEntV,.bool false])))/\Below w.heap.size w w':=by
 obtain rfl:k=es.length:=(slcR_row h).1;obtain⟨_,_,e1,q1,q2⟩:=slcR_value h;have hm:es.length<=maxLen:=Nat.le_trans q1 q2;unfold maxLen at hm;clear e1 q1 q2;have H1:=hd_ h;clear h;have H0:=((M.start w).alloc #[iv b0,.slice xk es.length ck,iv b1,iv b2,iv b3] 55).alloc #[iv 0,iv 0,iv 0,zn,zn,zn,iv 0,iv 0,zn,iv 0] 64;simp only[World.size_alloc]at H0;go_enter Tryz.func159,Tryz.ntmps159;go_wp2
 obtain⟨p1,hp1⟩:=nm_ w.heap.size;obtain⟨p2,hp2⟩:=nm_ (w.heap.size+1);have HP:=hd_ hp1;rw[<-hp2, <-hp1]at H0;rw[<-hp2, <-hp1];clear hp1 hp2;generalize ((w.alloc (.cells #[iv b0,.slice xk es.length ck,iv b1,iv b2,iv b3] 55)).alloc (.cells #[iv 0,iv 0,iv 0,zn,zn,zn,iv 0,iv 0,zn,iv 0] 64))=w1 at H0 ⊢;have H:=hd_ H0;clear H0
 go_loopw [6] (fun z wr=>∃j:Nat,j<=es.length/\z=.int .i64 j/\(∀(a:Nat) (x:En),a<j->es[a]? =some x->x.node≠i)/\wr=w1) (fun z _=>es.length - (intOf z).toNat)
 case atStart=>exact⟨0,Nat.zero_le _,rfl,fun a x h=>absurd h (Nat.not_lt_zero _),rfl⟩
 case round=>
  obtain⟨j,hj,rfl,hno,rfl⟩:=hrel;have NO:=hd_ hno;clear hno;have hWB:=H.out.below;rw[HP.out]at hWB;obtain⟨d0,d1,d2,d3,d4,d5,d6,d7,d8,d9⟩:=H.out.cells10;obtain⟨a0,a1,a2,a3,a4⟩:=H.out.p1.cells5
  by_cases hlt:j<es.length
  ·obtain⟨x,hx⟩:∃x,es[j]? =some x:=⟨_,List.getElem?_eq_getElem hlt⟩
   obtain⟨g,V,fe,rfl,_,_,sr,ca0,ca1,ca2,cas⟩:=known_at H1.out hx;have RV:=hd_ (rds_of sr);replace ca0:=cell_later hWB ca0;replace ca1:=cell_later hWB ca1;replace ca2:=cell_later hWB ca2;have ca3:=cell_later hWB (cas 0 _ rfl);have ca4:=cell_later hWB (cas 1 _ rfl);have ca5:=cell_later hWB (cas 2 _ rfl);have ca6:=cell_later hWB (cas 3 _ rfl);have ca7:=cell_later hWB (cas 4 _ rfl)
   have ca8:=cell_later hWB (cas 5 _ rfl);have ca9:=cell_later hWB (cas 6 _ rfl);clear sr;clear cas hWB;have k0:(0:Int)<=(j:Int):=o_;have k1:(j:Int)<(es.length:Int):=o_
   by_cases eq:x.node=i
   ·have g0:(x.node==i)=true:=by simpa using eq
    have F:=hd_ (find_at NO.out hx eq);have ef:=H.out.free;have N:=hd_ (H.out.set10 (iv x.node) (iv x.born) (iv x.num) (.slice V.xr V.nr V.cr) (.slice V.xf V.nf V.cf) (.slice V.xt V.nt V.ct) (iv x.s.lo) (iv x.s.al) (.slice V.xk V.nk V.ck) (iv x.s.ka));clear eq NO hx;go_wp2;obtain⟨e0,e1,e2,e3,e4,e5,e6,e7,e8,e9⟩:=N.out.cells10
    exact bodyPost_ret (v:=.tuple #[entV V x,.bool true]) (by simp[results,Tryz.results159,go_sem,e0,e1,e2,e3,e4,e5,e6,e7,e8,e9]) rfl ⟨⟨_,rfl,.inl ⟨x,V,F.out,RV.out,rfl⟩⟩,by have:=N.out.below;rwa[HP.out]at this⟩
   ·have g0:(x.node==i)=false:=by simpa using eq
    have NO2:Hid (∀(a:Nat) (y:En),a<j+1->es[a]? =some y->y.node≠i):=hd_ fun a y ha hy=>by
     by_cases q:a<j
     ·exact NO.out a y q hy
     ·obtain rfl:a=j:=o_
      rw[hx]at hy;cases hy;exact eq
    clear eq NO hx;go_wp2;go_roundw
    case rel=>exact⟨j+1,o_,by go_num,NO2.out,by first|rfl|trivial⟩
    case measure=>simp[intOf];omega
  ·have F:=hd_ (find_no (es:=es) (i:=i) fun a x hx=>NO.out a x (by have:=(List.getElem?_eq_some_iff.1 hx).1;omega) hx)
   have ef:=H.out.free;have N:=hd_ (H.out.set10 (iv 0) (iv 0) (iv 0) zn zn zn (iv 0) (iv 0) zn (iv 0));have g:decide (j<es.length)=false:=by simpa using hlt
   clear NO hWB;go_wp2;obtain⟨e0,e1,e2,e3,e4,e5,e6,e7,e8,e9⟩:=N.out.cells10;exact bodyPost_ret (v:=.tuple #[noEntV,.bool false]) (by simp[results,Tryz.results159,go_sem,e0,e1,e2,e3,e4,e5,e6,e7,e8,e9]) rfl ⟨⟨_,rfl,.inr ⟨F.out,rfl⟩⟩,by have:=N.out.below;rwa[HP.out]at this⟩
theorem spKnown_at (w:World) {x1 x4 xk:Option Addr} {k1 c1 k4 c4 k ck:Nat} {v2 v3:Value} {n:Nt} {es:List En} {f:List Nat} (hn:NetRd w (.slice x1 k1 c1) v2 v3 (.slice x4 k4 c4) n) (hs:Shape n) (h:knownR TY w [.slice xk k ck] es f):
  Calls Tryz.prog 160 #[.agg #[.slice x1 k1 c1,v2,v3,.slice x4 k4 c4],.slice xk k ck] w fun r w'=>r=.returned (.bool (knownB n es))/\Below w.heap.size w w':=by
 obtain rfl:k=es.length:=(slcR_row h).1;obtain⟨_,_,e1,q1,q2⟩:=slcR_value h;have hm:es.length<=maxLen:=Nat.le_trans q1 q2;unfold maxLen at hm;clear e1 q1 q2;have H1:=hd_ h;have HN:=hd_ hn;have HS:=hd_ hs;clear h hn hs;have H:=hd_ ((M.start w).alloc #[.slice x1 k1 c1,v2,v3,.slice x4 k4 c4] 30);go_enter Tryz.func160,Tryz.ntmps160;go_wp2;obtain⟨p1,hp1⟩:=nm_ w.heap.size;have HP:=hd_ hp1;rw[<-hp1]at H
 rw[<-hp1];clear hp1;generalize (w.alloc (.cells #[.slice x1 k1 c1,v2,v3,.slice x4 k4 c4] 30))=w1 at H ⊢;go_loopw [5] (fun z wr=>∃j:Nat,j<=es.length/\z=.int .i64 j/\(∀(a:Nat) (x:En),a<j->es[a]? =some x->entryB n x=true/\(0<a->∀d:En,es[a - 1]? =some d->d.node<x.node))/\M p1 w wr [boxC p1 30 #[.slice x1 k1 c1,v2,v3,.slice x4 k4 c4]]) (fun z _=>es.length - (intOf z).toNat)
 case atStart=>exact⟨0,Nat.zero_le _,rfl,fun a x h=>absurd h (Nat.not_lt_zero _),H.out⟩
 case round=>
  clear H;obtain⟨j,hj,rfl,hno,h⟩:=hrel;have NO:=hd_ hno;have H:=hd_ h;clear hno h;have hWB:=H.out.below;rw[HP.out]at hWB
  by_cases hlt:j<es.length
  ·obtain⟨W,hW⟩:=nm_ wr.drew
   have H2:=H.out.drew;rw[<-hW]at H2;have EW:=hd_ hW;have WB:=Below.drew hWB;rw[<-hW]at WB;clear hW hWB;obtain⟨x,hx⟩:∃x,es[j]? =some x:=⟨_,List.getElem?_eq_getElem hlt⟩
   obtain⟨g,V,fe,rfl,_,_,sr,ca0,ca1,ca2,cas⟩:=known_at ((slcR_frame entryR_frame _ _).below H1.out WB lr_) hx;obtain⟨V',eV,rV⟩:=sumR_rd sr;cases sv_inj eV;have ca3:=cas 0 _ rfl;have ca4:=cas 1 _ rfl;have ca5:=cas 2 _ rfl;have ca6:=cas 3 _ rfl;have ca7:=cas 4 _ rfl;have ca8:=cas 5 _ rfl;have ca9:=cas 6 _ rfl;obtain⟨a0,a1,a2,a3⟩:=H2.cells4
   have KE:=hd_ (spEntry_at W (e:=x) (HN.out.below WB lr_) HS.out rV);have k0:(0:Int)<=(j:Int):=o_;have k1':(j:Int)<(es.length:Int):=o_;have HX:=hd_ hx;clear cas sr eV rV hx WB
   by_cases eb:entryB n x=true
   case neg=>
    have gb:entryB n x=false:=by simpa using eb
    have F:=hd_ (known_bad HX.out (.inl gb));rw[gb]at KE;clear eb gb;have C0:=hd_ (show Cells W (b4L p1 (.slice x1 k1 c1) v2 v3 (.slice x4 k4 c4)++entL g j V x)from⟨a0,a1,a2,a3,ca0,ca1,ca2,ca3,ca4,ca5,ca6,ca7,ca8,ca9,trivial⟩);clear a0 a1 a2 a3 ca0 ca1 ca2 ca3 ca4 ca5 ca6 ca7 ca8 ca9;go_upto_region 4 with fail
    refine wp_region_plan 99 (.tk 0 5 (.alt 5 (.tk 6 19 .done) .nomore)) (fun w'=>Cells w' (b4L p1 (.slice x1 k1 c1) v2 v3 (.slice x4 k4 c4)++entL g j V x)) (by kernel_rfl) (by kernel_rfl) (fun _ _ _ _ _ h=>h) (by rw[<-EW.out];exact C0.out) ?_;rw[<-EW.out]
    repeat (first|refine tC_ ?_|refine tB_ ?_)
    refine plan_last (by rfl) (fun K' hK=>?_);go_simp;refine KE.out.mono ?_;rintro r w3 ⟨rfl,hb⟩;have H3:=hd_ (H2.later hb);refine hK _ _ (.inr (C0.out.below hb)) ?_;clear hK K'
    try refine tP_ ?_
    clear hb KE C0
    repeat (first|refine tC_ ?_|refine tB_ ?_)
    refine plan_done ?_;go_wp2;go_ret;exact⟨by rw[F.out];rfl,by have:=H3.out.below;rwa[HP.out]at this⟩
   have EB:=hd_ eb;rw[eb]at KE;clear eb
   by_cases j0:j=0
   ·have jn:decide (0<j)=false:=by simp;omega
    have jp:decide ((0:Int)<(j:Int))=false:=by simp;omega
    have J0:=hd_ j0;clear j0;have NO2:Hid (∀(a:Nat) (y:En),a<j+1->es[a]? =some y->entryB n y=true/\(0<a->∀d:En,es[a - 1]? =some d->d.node<y.node)):=hd_ fun a y ha hy=>by
     have:=J0.out;obtain rfl:a=j:=o_;rw[HX.out]at hy;cases hy;exact⟨EB.out,fun q=>absurd q o_⟩
    have C0:=hd_ (show Cells W (b4L p1 (.slice x1 k1 c1) v2 v3 (.slice x4 k4 c4)++entL g j V x)from⟨a0,a1,a2,a3,ca0,ca1,ca2,ca3,ca4,ca5,ca6,ca7,ca8,ca9,trivial⟩);clear a0 a1 a2 a3 ca0 ca1 ca2 ca3 ca4 ca5 ca6 ca7 ca8 ca9;go_upto_region 4 with fail
    refine wp_region_plan 99 (.tk 0 5 (.alt 5 (.tk 6 19 .done) .nomore)) (fun w'=>Cells w' (b4L p1 (.slice x1 k1 c1) v2 v3 (.slice x4 k4 c4)++entL g j V x)) (by kernel_rfl) (by kernel_rfl) (fun _ _ _ _ _ h=>h) (by rw[<-EW.out];exact C0.out) ?_;rw[<-EW.out]
    repeat (first|refine tC_ ?_|refine tB_ ?_)
    refine plan_last (by rfl) (fun K' hK=>?_);go_simp;refine KE.out.mono ?_;rintro r w3 ⟨rfl,hb⟩;have H3:=hd_ (H2.later hb);refine hK _ _ (.inr (C0.out.below hb)) ?_;clear hK K'
    try refine tP_ ?_
    clear hb KE C0
    repeat (first|refine tC_ ?_|refine tB_ ?_)
    refine plan_done ?_;go_wp2;go_roundw
    case rel=>exact⟨j+1,o_,by go_num,NO2.out,H3.out⟩
    case measure=>simp[intOf];omega
   ·obtain⟨d,hd⟩:∃d,es[j - 1]? =some d:=⟨_,List.getElem?_eq_getElem o_⟩
    obtain⟨g',V',fe',eg,_,_,_,cb0,_⟩:=known_at ((slcR_frame entryR_frame _ _).below H1.out (by have:=H2.below;rwa[HP.out]at this) lr_) hd;cases eg;have jp:decide ((0:Int)<(j:Int))=true:=by simp;omega
    have jn:decide (0<j)=true:=by simp;omega
    have js:IntKind.i64.wrap ((j:Int) - 1)=(j:Int) - 1:=IntWalk.i64_in _ o_;have jt:((j:Int) - 1).toNat=j - 1:=o_;have j1:(1:Int)<=(j:Int):=o_;have j2:(j:Int) - 1<(es.length:Int):=o_;have HD:=hd_ hd;clear hd
    by_cases ed:d.node<x.node
    case neg=>
     have gd:decide (x.node<=d.node)=true:=by simp;omega
     have F:Hid (knownB n es=false):=hd_ (known_bad HX.out (.inr ⟨o_,d,HD.out,o_⟩));clear ed;have C0:=hd_ (show Cells W (b4L p1 (.slice x1 k1 c1) v2 v3 (.slice x4 k4 c4)++(entL g j V x++[(⟨g,(j - 1) * 10,none⟩,.int .i64 d.node)]))from⟨a0,a1,a2,a3,ca0,ca1,ca2,ca3,ca4,ca5,ca6,ca7,ca8,ca9,cb0,trivial⟩);clear a0 a1 a2 a3 ca0 ca1 ca2 ca3 ca4 ca5 ca6 ca7 ca8 ca9 cb0;go_upto_region 4 with fail
     refine wp_region_plan 99 (.tk 0 5 (.alt 5 (.tk 6 19 .done) .nomore)) (fun w'=>Cells w' (b4L p1 (.slice x1 k1 c1) v2 v3 (.slice x4 k4 c4)++(entL g j V x++[(⟨g,(j - 1) * 10,none⟩,.int .i64 d.node)]))) (by kernel_rfl) (by kernel_rfl) (fun _ _ _ _ _ h=>h) (by rw[<-EW.out];exact C0.out) ?_;rw[<-EW.out]
     repeat (first|refine tC_ ?_|refine tB_ ?_)
     refine plan_last (by rfl) (fun K' hK=>?_);go_simp;refine KE.out.mono ?_;rintro r w3 ⟨rfl,hb⟩;have H3:=hd_ (H2.later hb);refine hK _ _ (.inr (C0.out.below hb)) ?_;clear hK K'
     try refine tP_ ?_
     clear hb KE C0
     repeat (first|refine tC_ ?_|refine tB_ ?_)
     refine plan_done ?_;go_wp2;go_ret;exact⟨by rw[F.out];rfl,by have:=H3.out.below;rwa[HP.out]at this⟩
    have gd:decide (x.node<=d.node)=false:=by simp;omega
    have NO2:Hid (∀(a:Nat) (y:En),a<j+1->es[a]? =some y->entryB n y=true/\(0<a->∀d:En,es[a - 1]? =some d->d.node<y.node)):=hd_ fun a y ha hy=>by
     by_cases q:a<j
     ·exact NO.out a y q hy
     ·obtain rfl:a=j:=o_
      rw[HX.out]at hy;cases hy;refine⟨EB.out,fun _ d' hd'=>?_⟩;rw[HD.out]at hd';cases hd';exact ed
    clear ed;have C0:=hd_ (show Cells W (b4L p1 (.slice x1 k1 c1) v2 v3 (.slice x4 k4 c4)++(entL g j V x++[(⟨g,(j - 1) * 10,none⟩,.int .i64 d.node)]))from⟨a0,a1,a2,a3,ca0,ca1,ca2,ca3,ca4,ca5,ca6,ca7,ca8,ca9,cb0,trivial⟩);clear a0 a1 a2 a3 ca0 ca1 ca2 ca3 ca4 ca5 ca6 ca7 ca8 ca9 cb0;go_upto_region 4 with fail
    refine wp_region_plan 99 (.tk 0 5 (.alt 5 (.tk 6 19 .done) .nomore)) (fun w'=>Cells w' (b4L p1 (.slice x1 k1 c1) v2 v3 (.slice x4 k4 c4)++(entL g j V x++[(⟨g,(j - 1) * 10,none⟩,.int .i64 d.node)]))) (by kernel_rfl) (by kernel_rfl) (fun _ _ _ _ _ h=>h) (by rw[<-EW.out];exact C0.out) ?_;rw[<-EW.out]
    repeat (first|refine tC_ ?_|refine tB_ ?_)
    refine plan_last (by rfl) (fun K' hK=>?_);go_simp;refine KE.out.mono ?_;rintro r w3 ⟨rfl,hb⟩;have H3:=hd_ (H2.later hb);refine hK _ _ (.inr (C0.out.below hb)) ?_;clear hK K'
    try refine tP_ ?_
    clear hb KE C0
    repeat (first|refine tC_ ?_|refine tB_ ?_)
    refine plan_done ?_;go_wp2;go_roundw
    case rel=>exact⟨j+1,o_,by go_num,NO2.out,H3.out⟩
    case measure=>simp[intOf];omega
  ·have F:Hid (knownB n es=true):=hd_ (known_idx.2 fun i e hi=>NO.out i e (by have:=(List.getElem?_eq_some_iff.1 hi).1;omega) hi)
   have g:decide (j<es.length)=false:=by simpa using hlt
   clear NO hWB;go_wp2;go_ret;exact⟨by rw[F.out];rfl,by have:=H.out.below;rwa[HP.out]at this⟩
theorem ints_el {w:World} {x:Option Addr} {k c:Nat} {l:List Int} (h:Ints w (.slice x k c) l) {j:Nat} (hj:j<l.length):∃b o,x=some ⟨b,o,Option.none⟩/\w.cell? ⟨b,o+j,Option.none⟩=some (.int .i64 (l.getD j 0)):=by
 rcases h with ⟨_,rfl⟩|⟨b,o,cap,e,_,_,_,hc⟩
 ·cases hj
 ·exact⟨b,o,(Value.slice.inj e).1,hc j hj⟩
theorem row_bad {l:List Int} {j:Nat} (hj:j<l.length) (h:in6 (l.getD j 0) 0 63=false):rowB l=false:=by
 unfold rowB;rw[all_bad (i:=j) (a:=l.getD j 0) (by rw[List.getD_eq_getElem?_getD,List.getElem?_eq_getElem hj];rfl) h,Bool.false_and]
theorem row_long {l:List Int} (h:100<l.length):rowB l=false:=by
 unfold rowB;rw[decide_eq_false o_,Bool.and_false]
theorem row_ok {l:List Int} (h:∀a,a<l.length->in6 (l.getD a 0) 0 63=true) (h2:¬ 100<l.length):rowB l=true:=by
 unfold rowB;rw[decide_eq_true o_,Bool.and_true];exact all_idx.2 fun a t ht=>by
  have q:=h a (List.getElem?_eq_some_iff.1 ht).1;rwa[List.getD_eq_getElem?_getD,ht]at q
theorem spPastOk_at (w:World) {x1 x4:Option Addr} {k1 c1 k4 c4:Nat} {v2 v3:Value} {n:Nt} (hn:NetRd w (.slice x1 k1 c1) v2 v3 (.slice x4 k4 c4) n) (h5:n.nodes.length=5) (p5:n.past.length=5) {i:Nat} (i5:i<5) (hbn:1<=(nodeAt n i).born/\(nodeAt n i).born<=20):
  Calls Tryz.prog 86 #[.agg #[.slice x1 k1 c1,v2,v3,.slice x4 k4 c4],iv (i:Int)] w fun r w'=>r=.returned (.bool (pastB n i))/\Below w.heap.size w w':=by
 obtain⟨f1,n1⟩:=hn.nodes;obtain⟨f4,n4⟩:=hn.past;obtain rfl:k1=5:=(slcR_row n1).1.trans h5;obtain rfl:k4=5:=(slcR_row n4).1.trans p5;obtain⟨nd,hnd⟩:∃nd,n.nodes[i]? =some nd:=⟨_,List.getElem?_eq_getElem (by rw[h5];exact i5)⟩
 obtain⟨rs,hrs⟩:∃rs,n.past[i]? =some rs:=⟨_,List.getElem?_eq_getElem (by rw[p5];exact i5)⟩
 have eN:nodeAt n (i:Int)=nd:=by unfold nodeAt;rw[List.getD_eq_getElem?_getD,Int.toNat_natCast,hnd];rfl
 have eR:rowsAt n (i:Int)=rs:=by unfold rowsAt;rw[List.getD_eq_getElem?_getD,Int.toNat_natCast,hrs];rfl
 have PB:Hid (pastB n (i:Int)=(decide ((rs.length:Int)=nd.born+1)&&(decide ((rs.getD 0 []).length=0)&&rs.all rowB))):=hd_ (by unfold pastB pastAt;rw[eN,eR];rfl);rw[eN]at hbn;have H0:=(M.start w).alloc #[.slice x1 5 c1,v2,v3,.slice x4 5 c4] 30;have N1:=hd_ n1;have N4:=hd_ n4;clear hn n1 n4 h5 p5 eN eR;go_enter Tryz.func86,Tryz.ntmps86;go_upto_region 1 with fail
 obtain⟨p1,hp1⟩:=nm_ w.heap.size;have HP:=hd_ hp1;rw[<-hp1]at H0;rw[<-hp1];clear hp1;generalize (w.alloc (.cells #[.slice x1 5 c1,v2,v3,.slice x4 5 c4] 30))=w1 at H0 ⊢;obtain⟨W,hW⟩:=nm_ w1.drew;have H1:=H0.drew;rw[<-hW]at H1;have EW:=hd_ hW;have H:=hd_ H1;clear H0 H1 hW;obtain⟨a0,a1,a2,a3⟩:=H.out.cells4;have hWB:=H.out.below;rw[HP.out]at hWB
 obtain⟨g1,xk,ck,fk,rfl,_,_,_,_,_,b0,_⟩:=node_at ((slcR_frame nodeR_frame _ _).below N1.out hWB lr_) hnd;obtain⟨g4,xr,cr,fr,rfl,_,_,rr,rcr,rcm,b1⟩:=past_at ((slcR_frame rowsR_frame _ _).below N4.out hWB lr_) hrs;clear hnd hrs hWB;unfold maxLen at rcm;have i0:(0:Int)<=(i:Int):=o_;have i5':(i:Int)<5:=o_;have bw:IntKind.i64.wrap (nd.born+1)=nd.born+1:=IntWalk.i64_in _ o_;have PLN:True:=trivial
 by_cases hA:(rs.length:Int)=nd.born+1
 case neg=>
  have F:Hid (pastB n (i:Int)=false):=hd_ (by rw[PB.out,decide_eq_false hA];rfl);have gA:((rs.length:Int) != nd.born+1)=true:=by simpa using hA
  clear hA;refine wp_region_plan 99 (.tk 0 25 .done) (fun w'=>w'=W) (by kernel_rfl) (by kernel_rfl) (fun _ _ _ _ _ h=>h) EW.out.symm ?_;rw[<-EW.out]
  repeat (first|refine tA_ ?_|refine tB_ ?_)
  refine plan_done ?_;go_wp2;go_ret;exact⟨by rw[F.out];rfl,by have:=H.out.below;rwa[HP.out]at this⟩
 have gA:((rs.length:Int) != nd.born+1)=false:=by simpa using hA
 have HA:=hd_ hA;have r0:0<rs.length:=o_;clear hA;obtain⟨l0,hl0⟩:∃l,rs[0]? =some l:=⟨_,List.getElem?_eq_getElem r0⟩
 obtain⟨g5,xl,cl,fl,rfl,_,_,_,_,_,b2⟩:=row_at rr hl0;have EL0:Hid (rs.getD 0 []=l0):=hd_ (by rw[List.getD_eq_getElem?_getD,hl0];rfl);clear hl0
 by_cases hB:l0.length=0
 case neg=>
  have F:Hid (pastB n (i:Int)=false):=hd_ (by rw[PB.out,EL0.out,decide_eq_false hB,Bool.false_and,Bool.and_false]);have gB:((l0.length:Int) != 0)=true:=by simp only[bne_iff_ne,ne_eq];omega
  clear hB;refine wp_region_plan 99 (.tk 0 25 .done) (fun w'=>w'=W) (by kernel_rfl) (by kernel_rfl) (fun _ _ _ _ _ h=>h) EW.out.symm ?_;rw[<-EW.out]
  repeat (first|refine tA_ ?_|refine tB_ ?_)
  refine plan_done ?_;go_wp2;go_ret;exact⟨by rw[F.out];rfl,by have:=H.out.below;rwa[HP.out]at this⟩
 have gB:((l0.length:Int) != 0)=false:=by simp only[bne_eq_false_iff_eq];omega
 have FB:Hid (pastB n (i:Int)=rs.all rowB):=hd_ (by rw[PB.out,EL0.out,decide_eq_true HA.out,decide_eq_true hB];rfl);clear hB;refine wp_region_plan 99 (.tk 0 25 .done) (fun w'=>w'=W) (by kernel_rfl) (by kernel_rfl) (fun _ _ _ _ _ h=>h) EW.out.symm ?_;rw[<-EW.out]
 repeat (first|refine tA_ ?_|refine tB_ ?_)
 refine plan_done ?_;clear b2 b0;go_wp2;have RR:=hd_ rr;clear rr gA gB bw;go_loopw [5] (fun z wr=>∃j:Nat,j<=rs.length/\z=.int .i64 j/\(∀(a:Nat) (x:List Int),a<j->rs[a]? =some x->rowB x=true)/\wr=W) (fun z _=>rs.length - (intOf z).toNat)
 case atStart=>exact⟨0,Nat.zero_le _,rfl,fun a x h=>absurd h (Nat.not_lt_zero _),rfl⟩
 case round=>
  obtain⟨j,hj,rfl,hno,hwr⟩:=hrel;subst wr;have NO:=hd_ hno;clear hno
  by_cases hlt:j<rs.length
  ·obtain⟨lb,hlb⟩:∃l,rs[j]? =some l:=⟨_,List.getElem?_eq_getElem hlt⟩
   obtain⟨g6,xb,cb,fb,eg,_,_,rb,rbc,rbm,b3⟩:=row_at RR.out hlb;cases eg;have IB:Hid (Ints W (.slice xb lb.length cb) lb):=hd_ (by
        obtain⟨v,ev,ho,_⟩:=intsR_to rb
        cases ev
        exact ho)
   have HLB:=hd_ hlb;unfold maxLen at rbm;have j0:(0:Int)<=(j:Int):=o_;have j1:(j:Int)<(rs.length:Int):=o_;clear rb hlb;go_wp2;go_loopw [6] (fun z wr=>∃q:Nat,q<=lb.length/\z=.int .i64 q/\(∀a:Nat,a<q->in6 (lb.getD a 0) 0 63=true)/\wr=W) (fun z _=>lb.length - (intOf z).toNat)
   case atStart=>exact⟨0,Nat.zero_le _,rfl,fun a h=>absurd h (Nat.not_lt_zero _),rfl⟩
   case round=>
    obtain⟨q,hq,rfl,hin,hwr⟩:=hrel;subst wr;have IN:=hd_ hin;clear hin
    by_cases hql:q<lb.length
    ·obtain⟨b6,o6,rfl,c6⟩:=ints_el IB.out hql
     have KI:=hd_ (in6_at (lb.getD q 0) 0 63 W);have HV:=hd_ (fun (h:in6 (lb.getD q 0) 0 63=false)=>row_bad hql h);have IN2:Hid (in6 (lb.getD q 0) 0 63=true->∀a:Nat,a<q+1->in6 (lb.getD a 0) 0 63=true):=hd_ fun h a ha=>by
      by_cases e:a<q
      ·exact IN.out a e
      ·obtain rfl:a=q:=o_
       exact h
     obtain⟨v,hv⟩:=nm_ (lb.getD q 0);rw[<-hv]at c6 KI HV IN2;clear hv;have q0:(0:Int)<=(q:Int):=o_;have q1:(q:Int)<(lb.length:Int):=o_;generalize in6 v 0 63=t at KI HV IN2
     go_wp2_with fail
     refine KI.out.mono ?_;rintro r w' ⟨rfl,hw'⟩;rw[hw'];clear hw' w' KI;cases t with
     |false=>
      have F:Hid (pastB n (i:Int)=false):=hd_ (by rw[FB.out];exact all_bad HLB.out (HV.out rfl));clear HV IN2;go_wp2;go_ret;exact⟨by rw[F.out];rfl,by have:=H.out.below;rwa[HP.out]at this⟩
     |true=>
      have IN3:=hd_ (IN2.out rfl);clear HV IN2;go_wp2;go_roundw
      case rel=>exact⟨q+1,o_,by go_num,IN3.out,by first|rfl|trivial⟩
      case measure=>simp[intOf];omega
    ·obtain rfl:q=lb.length:=o_
     by_cases hg:100<lb.length
     ·have F:Hid (pastB n (i:Int)=false):=hd_ (by rw[FB.out];exact all_bad HLB.out (row_long hg))
      have gg:decide ((100:Int)<(lb.length:Int))=true:=by simp;omega
      clear hg;go_wp2;go_ret;exact⟨by rw[F.out];rfl,by have:=H.out.below;rwa[HP.out]at this⟩
     ·have RO:=hd_ (row_ok IN.out hg)
      have gg:decide ((100:Int)<(lb.length:Int))=false:=by simp;omega
      have NO2:Hid (∀(a:Nat) (x:List Int),a<j+1->rs[a]? =some x->rowB x=true):=hd_ fun a x ha hx=>by
       by_cases e:a<j
       ·exact NO.out a x e hx
       ·obtain rfl:a=j:=o_
        rw[HLB.out]at hx;cases hx;exact RO.out
      clear hg;go_wp2;go_roundw
      case rel=>exact⟨j+1,o_,by go_num,NO2.out,by first|rfl|trivial⟩
      case measure=>simp[intOf];omega
  ·have F:Hid (pastB n (i:Int)=true):=hd_ (by rw[FB.out];exact all_idx.2 fun a x hx=>NO.out a x (by have:=(List.getElem?_eq_some_iff.1 hx).1;omega) hx)
   obtain rfl:j=rs.length:=o_;go_wp2;go_ret;exact⟨by rw[F.out];rfl,by have:=H.out.below;rwa[HP.out]at this⟩
theorem in6_is {z lo hi:Int} {b:Bool} (h:b=in6 z lo hi) (w:World):Calls Tryz.prog 66 #[iv z,iv lo,iv hi] w fun e w'=>e=.returned (.bool b)/\w'=w:=by
 rw[h];exact in6_at z lo hi w
theorem spNodeOk_at (w:World) {x1 x4:Option Addr} {k1 c1 k4 c4:Nat} {v2 v3:Value} {n:Nt} (hn:NetRd w (.slice x1 k1 c1) v2 v3 (.slice x4 k4 c4) n) (hs:Shape n) {i:Nat} (i5:i<5) (hbn:1<=(nodeAt n i).born):
  Calls Tryz.prog 87 #[.agg #[.slice x1 k1 c1,v2,v3,.slice x4 k4 c4],iv (i:Int)] w fun r w'=>r=.returned (.bool (nodeB n i))/\Below w.heap.size w w':=by
 obtain⟨f1,n1⟩:=hn.nodes;obtain⟨f4,n4⟩:=hn.past;obtain rfl:k1=5:=(slcR_row n1).1.trans hs.nodes;obtain rfl:k4=5:=(slcR_row n4).1.trans hs.past;obtain⟨nd,hnd⟩:∃nd,n.nodes[i]? =some nd:=⟨_,List.getElem?_eq_getElem (by rw[hs.nodes];exact i5)⟩
 obtain⟨r0,hr0⟩:∃nd,n.nodes[0]? =some nd:=⟨_,List.getElem?_eq_getElem (by rw[hs.nodes];decide)⟩
 obtain⟨rs,hrs⟩:∃rs,n.past[i]? =some rs:=⟨_,List.getElem?_eq_getElem (by rw[hs.past];exact i5)⟩
 have eN:nodeAt n (i:Int)=nd:=by unfold nodeAt;rw[List.getD_eq_getElem?_getD,Int.toNat_natCast,hnd];rfl
 have e0:nodeAt n 0=r0:=by unfold nodeAt;rw[List.getD_eq_getElem?_getD,show (0:Int).toNat=0 from rfl,hr0];rfl
 have eR:rowsAt n (i:Int)=rs:=by unfold rowsAt;rw[List.getD_eq_getElem?_getD,Int.toNat_natCast,hrs];rfl
 have eL:=hs.rows i i5;rw[eN,eR]at eL;rw[eN]at hbn;obtain⟨j,hj⟩:∃j:Nat,nd.born=j:=⟨nd.born.toNat,o_⟩
 obtain⟨lp,hlp⟩:∃lp,rs[j]? =some lp:=⟨_,List.getElem?_eq_getElem o_⟩
 have eP:pastAt n (i:Int) nd.born=lp:=by unfold pastAt;rw[eR,List.getD_eq_getElem?_getD,hj,Int.toNat_natCast,hlp];rfl
 have jr:j<rs.length:=o_
 have NB:Hid (nodeB n (i:Int)=((match findE nd.known (i:Int)with|some e=>decide (e.born=nd.born)&&decide (e.num=(lp.length:Int))|none=>false)&&(knownB n nd.known&&(if (i:Int)=0 then decide (nd.level=0)&&(decide (nd.up= -1)&&decide (0<=nd.beacon))else in6 nd.beacon 0 r0.beacon&&(in6 nd.level 1 5&&(decide (nd.up= -1↔nd.level=5)&&(in6 nd.up (-1) 4&&decide (nd.up≠(i:Int))))))))):=hd_ (by unfold nodeB ownB wayB;rw[eN,e0,eP];cases findE nd.known (i:Int)<;>rfl)
 have H0:=(M.start w).alloc #[.slice x1 5 c1,v2,v3,.slice x4 5 c4] 30;have HN:=hd_ hn;have HS:=hd_ hs;have hWB:=H0.below;obtain⟨g1,xk,ck,fk,rfl,_,_,rk,_,_,b0,b1,b2,b3,b4⟩:=node_at n1 hnd;obtain⟨_,xk0,ck0,fk0,eg,_,_,_,_,_,z0,z1,z2,z3,z4⟩:=node_at n1 hr0;cases eg;obtain⟨g4,xr,cr,fr,rfl,_,_,rr,_,_,y0⟩:=past_at n4 hrs;obtain⟨g5,xl,cl,fl,rfl,_,_,_,lc,lm,y1⟩:=row_at rr hlp;replace b0:=cell_later hWB b0
 replace b1:=cell_later hWB b1;replace b2:=cell_later hWB b2;replace b3:=cell_later hWB b3;replace b4:=cell_later hWB b4;replace z2:=cell_later hWB z2;replace y0:=cell_later hWB y0;replace y1:=cell_later hWB y1;rw[hj]at b0;have EJ:=hd_ hj;have RK:=hd_ rk;clear hn hs hnd hr0 hrs eN e0 eR eL hbn hlp eP hWB rr n1 n4 rk lc lm z0 z1 z3 z4;simp only[Nat.zero_mul,Nat.zero_add]at z2
 have i0:(0:Int)<=(i:Int):=o_;have i5':(i:Int)<5:=o_;have j0:(0:Int)<=(j:Int):=o_;have j1:(j:Int)<(rs.length:Int):=o_;clear jr hj;go_enter Tryz.func87,Tryz.ntmps87;obtain⟨p1,hp1⟩:=nm_ w.heap.size;have HP:=hd_ hp1;obtain⟨w1,hw1⟩:=nm_ (w.alloc (.cells #[.slice (some ⟨g1,0,none⟩) 5 c1,v2,v3,.slice (some ⟨g4,0,none⟩) 5 c4] 30));rw[<-hw1]at H0 b0 b1 b2 b3 b4 z2 y0 y1
 have hw01:Below w.heap.size w w1:=H0.below;have H1:=(H0.alloc #[iv (j:Int),.slice xk nd.known.length ck,iv nd.beacon,iv nd.level,iv nd.up] 55)
 have KO:=hd_ (spOwn_at (w1.alloc (.cells #[iv (j:Int),.slice xk nd.known.length ck,iv nd.beacon,iv nd.level,iv nd.up] 55)) ((slcR_frame entryR_frame _ _).below RK.out (hw01.trans (((M.start w1).alloc #[iv (j:Int),.slice xk nd.known.length ck,iv nd.beacon,iv nd.level,iv nd.up] 55).below.mono hw01.size)) lr_) (i:Int) (j:Int) nd.beacon nd.level nd.up)
 have C1:Hid (Cells w1 [(⟨g1,2,none⟩,.int .i64 r0.beacon),(⟨g4,i,none⟩,.slice (some ⟨g5,0,none⟩) rs.length cr),(⟨g5,j,none⟩,.slice xl lp.length cl)]):=hd_ ⟨z2,y0,y1,trivial⟩;have H:=hd_ H1;rw[hw1]at b0 b1 b2 b3 b4;clear H1 z2 y0 y1 hw01
 go_wp2_with fail
 rw[<-hw1];have hs1:w1.heap.size=w.heap.size+1:=by rw[hw1];simp
 obtain⟨p2,hp2⟩:=nm_ (w.heap.size+1);rw[hs1, <-hp2, <-hp1]at H;rw[<-hp2, <-hp1];clear hw1 hp1 hp2 b0 b1 b2 b3 b4 hs1;refine KO.out.mono ?_;rintro r w3 ⟨⟨u,rfl,hu⟩,hb⟩;have H2:=hd_ (H.out.later hb);have hb1:=((M.start w1).alloc #[iv (j:Int),.slice xk nd.known.length ck,iv nd.beacon,iv nd.level,iv nd.up] 55).below;have C2:=hd_ (C1.out.below (hb1.trans (hb.mono hb1.size)));clear hb KO H hb1
 rcases hu with ⟨e,V,he,_,rfl⟩|⟨he,rfl⟩
 case inr=>
  rw[he]at NB;have h3:=H2.out.alloc #[iv 0,iv 0,iv 0,zn,zn,zn,iv 0,iv 0,zn,iv 0] 64;have H9:=hd_ h3.drew;clear H2 h3 he;go_wp2;refine wp_region_plan 99 (.tk 0 6 (.alt 6 (.tk 7 24 .done) .nomore)) (fun w'=>True) (by kernel_rfl) (by kernel_rfl) (fun _ _ _ _ _ h=>h) trivial ?_
  repeat (first|refine tC_ ?_|refine tB_ ?_)
  refine plan_last (by rfl) (fun K' hK=>?_);go_simp;refine hK _ _ (.inr trivial) ?_;clear hK K'
  try refine tP_ ?_
  repeat (first|refine tC_ ?_|refine tB_ ?_)
  refine plan_done ?_;go_wp2;go_ret;exact⟨by rw[NB.out];rfl,by have:=H9.out.below;rwa[HP.out]at this⟩
 rw[he]at NB;have h3:=H2.out.alloc #[iv e.node,iv e.born,iv e.num,.slice V.xr V.nr V.cr,.slice V.xf V.nf V.cf,.slice V.xt V.nt V.ct,.int .i64 (e.s).lo,.int .i64 (e.s).al,.slice V.xk V.nk V.ck,.int .i64 (e.s).ka] 64;obtain⟨p3,hp3⟩:=nm_ w3.heap.size;rw[<-hp3]at h3
 obtain⟨w4,hw4⟩:=nm_ (w3.alloc (.cells #[iv e.node,iv e.born,iv e.num,.slice V.xr V.nr V.cr,.slice V.xf V.nf V.cf,.slice V.xt V.nt V.ct,.int .i64 (e.s).lo,.int .i64 (e.s).al,.slice V.xk V.nk V.ck,.int .i64 (e.s).ka] 64));rw[<-hw4]at h3;have hb4:Below w3.heap.size w3 w4:=by rw[hw4];exact (Below.refl _ _).alloc lr_ _
 have S0:Hid (Cells w4 (b4L p1 (.slice (some ⟨g1,0,none⟩) 5 c1) v2 v3 (.slice (some ⟨g4,0,none⟩) 5 c4)++(b5L p2 (iv (j:Int)) (.slice xk nd.known.length ck) (iv nd.beacon) (iv nd.level) (iv nd.up)++(b10L p3 e.node e.born e.num V e.s++[(⟨g1,2,none⟩,.int .i64 r0.beacon),(⟨g4,i,none⟩,.slice (some ⟨g5,0,none⟩) rs.length cr),(⟨g5,j,none⟩,.slice xl lp.length cl)])))):=hd_ (by
    obtain⟨y0,y1,y2,y3,y4,y5,y6,y7,y8,y9⟩:=h3.cells10
    obtain⟨z0,z1,z2,z3,z4⟩:=h3.p1.cells5
    obtain⟨x0,x1,x2,x3⟩:=h3.p2.cells4
    obtain⟨t1,t2,t3,_⟩:=C2.out.below hb4
    exact⟨x0,x1,x2,x3,z0,z1,z2,z3,z4,y0,y1,y2,y3,y4,y5,y6,y7,y8,y9,t1,t2,t3,trivial⟩)
 obtain⟨W,hW⟩:=nm_ w4.drew;have h4:=h3.drew;rw[<-hW]at h4;have S1:=hd_ (S0.out.below (Below.drew (Below.refl _ _)));rw[<-hW]at S1;have EW:=hd_ hW;have H4:=hd_ h4;have hWB:=h4.below;rw[HP.out]at hWB;have KN:=hd_ (spKnown_at W (HN.out.below hWB lr_) HS.out ((slcR_frame entryR_frame _ _).below RK.out hWB lr_));clear h3 h4 H2 hW hWB hb4 C2 he;obtain⟨s1,hs1⟩:=nm_ (knownB n nd.known);rw[<-hs1]at KN NB
 clear hs1;go_wp2;rw[<-hp3, <-hw4];clear hp3 hw4;rcases s1 with _|_
 case false=>
  refine wp_region_plan 99 (.tk 0 6 (.alt 6 (.tk 7 24 .done) .nomore)) (fun w'=>Cells w' (b4L p1 (.slice (some ⟨g1,0,none⟩) 5 c1) v2 v3 (.slice (some ⟨g4,0,none⟩) 5 c4)++(b5L p2 (iv (j:Int)) (.slice xk nd.known.length ck) (iv nd.beacon) (iv nd.level) (iv nd.up)++(b10L p3 e.node e.born e.num V e.s++[(⟨g1,2,none⟩,.int .i64 r0.beacon),(⟨g4,i,none⟩,.slice (some ⟨g5,0,none⟩) rs.length cr),(⟨g5,j,none⟩,.slice xl lp.length cl)])))) (by kernel_rfl) (by kernel_rfl) (fun _ _ _ _ _ h=>h) (S0.out.below (Below.drew (Below.refl _ _))) ?_
  rw[<-EW.out]
  repeat (first|refine tC_ ?_|refine tB_ ?_)
  refine plan_last (by rfl) (fun K' hK=>?_);go_simp;refine KN.out.mono ?_;rintro r w5 ⟨rfl,hb⟩;have H9:=hd_ (H4.out.later hb);have S9:=hd_ (S1.out.below hb);refine hK _ _ (.inr S9.out) ?_;clear hK K'
  try refine tP_ ?_
  clear hb KN
  repeat (first|refine tC_ ?_|refine tB_ ?_)
  refine plan_done ?_;go_wp2;go_ret;exact⟨by rw[NB.out];simp,by have:=H9.out.below;rwa[HP.out]at this⟩
 by_cases eb:e.born=(j:Int)
 case neg=>
  have g1':(e.born != (j:Int))=true:=by simpa using eb
  have F:=hd_ (show decide (e.born=nd.born)=false from decide_eq_false (by rw[EJ.out];exact eb));clear eb
  refine wp_region_plan 99 (.tk 0 6 (.alt 6 (.tk 7 24 .done) .nomore)) (fun w'=>Cells w' (b4L p1 (.slice (some ⟨g1,0,none⟩) 5 c1) v2 v3 (.slice (some ⟨g4,0,none⟩) 5 c4)++(b5L p2 (iv (j:Int)) (.slice xk nd.known.length ck) (iv nd.beacon) (iv nd.level) (iv nd.up)++(b10L p3 e.node e.born e.num V e.s++[(⟨g1,2,none⟩,.int .i64 r0.beacon),(⟨g4,i,none⟩,.slice (some ⟨g5,0,none⟩) rs.length cr),(⟨g5,j,none⟩,.slice xl lp.length cl)])))) (by kernel_rfl) (by kernel_rfl) (fun _ _ _ _ _ h=>h) (S0.out.below (Below.drew (Below.refl _ _))) ?_
  rw[<-EW.out]
  repeat (first|refine tC_ ?_|refine tB_ ?_)
  refine plan_last (by rfl) (fun K' hK=>?_);go_simp;refine KN.out.mono ?_;rintro r w5 ⟨rfl,hb⟩;have H9:=hd_ (H4.out.later hb);have S9:=hd_ (S1.out.below hb);refine hK _ _ (.inr S9.out) ?_;clear hK K'
  try refine tP_ ?_
  clear hb KN
  repeat (first|refine tC_ ?_|refine tB_ ?_)
  refine plan_done ?_;go_wp2;go_ret;exact⟨by rw[NB.out];rw[F.out];rfl,by have:=H9.out.below;rwa[HP.out]at this⟩
 have g1':(e.born != (j:Int))=false:=by simpa using eb
 have F1:=hd_ (show decide (e.born=nd.born)=true from decide_eq_true (by rw[EJ.out];exact eb));clear eb
 by_cases en:e.num=(lp.length:Int)
 case neg=>
  have g2':(e.num != (lp.length:Int))=true:=by simpa using en
  have F:=hd_ (show decide (e.num=(lp.length:Int))=false from decide_eq_false en);clear en
  refine wp_region_plan 99 (.tk 0 6 (.alt 6 (.tk 7 24 .done) .nomore)) (fun w'=>Cells w' (b4L p1 (.slice (some ⟨g1,0,none⟩) 5 c1) v2 v3 (.slice (some ⟨g4,0,none⟩) 5 c4)++(b5L p2 (iv (j:Int)) (.slice xk nd.known.length ck) (iv nd.beacon) (iv nd.level) (iv nd.up)++(b10L p3 e.node e.born e.num V e.s++[(⟨g1,2,none⟩,.int .i64 r0.beacon),(⟨g4,i,none⟩,.slice (some ⟨g5,0,none⟩) rs.length cr),(⟨g5,j,none⟩,.slice xl lp.length cl)])))) (by kernel_rfl) (by kernel_rfl) (fun _ _ _ _ _ h=>h) (S0.out.below (Below.drew (Below.refl _ _))) ?_
  rw[<-EW.out]
  repeat (first|refine tC_ ?_|refine tB_ ?_)
  refine plan_last (by rfl) (fun K' hK=>?_);go_simp;refine KN.out.mono ?_;rintro r w5 ⟨rfl,hb⟩;have H9:=hd_ (H4.out.later hb);have S9:=hd_ (S1.out.below hb);refine hK _ _ (.inr S9.out) ?_;clear hK K'
  try refine tP_ ?_
  clear hb KN
  repeat (first|refine tC_ ?_|refine tB_ ?_)
  refine plan_done ?_;go_wp2;go_ret;exact⟨by rw[NB.out];rw[F.out];simp,by have:=H9.out.below;rwa[HP.out]at this⟩
 have g2':(e.num != (lp.length:Int))=false:=by simpa using en
 have F2:=hd_ (show decide (e.num=(lp.length:Int))=true from decide_eq_true en);clear en
 refine wp_region_plan 99 (.tk 0 6 (.alt 6 (.tk 7 24 .done) .nomore)) (fun w'=>Cells w' (b4L p1 (.slice (some ⟨g1,0,none⟩) 5 c1) v2 v3 (.slice (some ⟨g4,0,none⟩) 5 c4)++(b5L p2 (iv (j:Int)) (.slice xk nd.known.length ck) (iv nd.beacon) (iv nd.level) (iv nd.up)++(b10L p3 e.node e.born e.num V e.s++[(⟨g1,2,none⟩,.int .i64 r0.beacon),(⟨g4,i,none⟩,.slice (some ⟨g5,0,none⟩) rs.length cr),(⟨g5,j,none⟩,.slice xl lp.length cl)])))) (by kernel_rfl) (by kernel_rfl) (fun _ _ _ _ _ h=>h) (S0.out.below (Below.drew (Below.refl _ _))) ?_
 rw[<-EW.out]
 repeat (first|refine tC_ ?_|refine tB_ ?_)
 refine plan_last (by rfl) (fun K' hK=>?_);go_simp;refine KN.out.mono ?_;rintro r w5 ⟨rfl,hb⟩;have H9:=hd_ (H4.out.later hb);have S9:=hd_ (S1.out.below hb);refine hK _ _ (.inr S9.out) ?_;clear hK K'
 try refine tP_ ?_
 clear hb KN
 repeat (first|refine tC_ ?_|refine tB_ ?_)
 refine plan_done ?_;clear S0 S1 H4 EW;rw[F1.out,F2.out]at NB;obtain⟨y0,y1,y2,y3⟩:=H9.out.p2.cells4;obtain⟨z0,z1,z2,z3,z4⟩:=H9.out.p1.cells5
 by_cases hi:i=0
 ·subst hi
  obtain⟨l0,hl0⟩:=nm_ (nd.level==0);obtain⟨u0,hu0⟩:=nm_ (nd.up== -1);obtain⟨b0,hb0⟩:=nm_ (decide (0<=nd.beacon));have NB2:Hid (nodeB n ((0:Nat):Int)=(l0&&(u0&&b0))):=hd_ (by rw[NB.out,if_pos (by rfl),hl0,hu0,hb0];rfl);have ga:=hl0.symm;have gb:=hu0.symm;have gc:=hb0.symm;clear hl0 hu0 hb0 NB S9;refine steps2 (a:=l0) (b:=u0) ?_ ?_ ?_
  all_goals
   first
    |(intro e1 e2;subst e1 e2)
    |(intro e1;subst e1)
   go_wp2;go_ret;exact⟨by rw[NB2.out];rfl,by have:=H9.out.below;rwa[HP.out]at this⟩
 have hi':((i:Int)==0)=false:=by simpa using hi
 obtain⟨s2,hs2⟩:=nm_ (in6 nd.beacon 0 r0.beacon);obtain⟨s3,hs3⟩:=nm_ (in6 nd.level 1 5);obtain⟨t1,ht1⟩:=nm_ (nd.up== -1);obtain⟨t2,ht2⟩:=nm_ (nd.level==5);obtain⟨s5,hs5⟩:=nm_ (in6 nd.up (-1) 4);obtain⟨t3,ht3⟩:=nm_ (nd.up != (i:Int));have NB2:Hid (nodeB n (i:Int)=(s2&&(s3&&((t1==t2)&&(s5&&t3))))):=hd_ (by
    rw[NB.out,if_neg (by simpa using hi),hs2,hs3,hs5]
    have e1:decide (nd.up= -1↔nd.level=5)=(t1==t2):=by
      rw[ht1,ht2]
      exact dec_iff _ _
    have e2:decide (nd.up≠(i:Int))=t3:=by
      rw[ht3]
      simp only[ne_eq,decide_not];rfl
    rw[e1,e2];simp)
 have K2:=hd_ (in6_is hs2);have K3:=hd_ (in6_is hs3);have K5:=hd_ (in6_is hs5);have ga:=ht1.symm;have gb:=ht2.symm;have gc:=ht3.symm;clear hs2 hs3 ht1 ht2 hs5 ht3 NB;have S8:=hd_ (S9.out.below (Below.drew (Below.refl _ _)));obtain⟨W8,hW8⟩:=nm_ w5.drew;have H8:=H9.out.drew;rw[<-hW8]at H8 S8;have EW8:=hd_ hW8;replace H9:=hd_ H8;clear H8 S9 hW8;obtain⟨tt,htt⟩:=nm_ (t1==t2);rw[<-htt]at NB2
 have gd:=htt.symm;clear htt;refine steps5 (a:=s2) (b:=s3) (c:=tt) (d:=s5) (e:=t3) ?_ ?_ ?_ ?_ ?_ ?_
 all_goals
  first
   |(intro e1 e2 e3 e4 e5;subst e1 e2 e3 e4 e5)
   |(intro e1 e2 e3 e4;subst e1 e2 e3 e4)
   |(intro e1 e2 e3;subst e1 e2 e3)
   |(intro e1 e2;subst e1 e2)
   |(intro e1;subst e1)
  go_wp2
  refine wp_region_plan 99 (.tk 0 7 (.alt 7 (.tk 8 3 (.alt 11 (.tk 12 17 (.alt 29 (.tk 30 7 (.alt 37 .done .nomore)) .nomore)) .nomore)) .nomore)) (fun w'=>Cells w' (b4L p1 (.slice (some ⟨g1,0,none⟩) 5 c1) v2 v3 (.slice (some ⟨g4,0,none⟩) 5 c4)++(b5L p2 (iv (j:Int)) (.slice xk nd.known.length ck) (iv nd.beacon) (iv nd.level) (iv nd.up)++(b10L p3 e.node e.born e.num V e.s++[(⟨g1,2,none⟩,.int .i64 r0.beacon),(⟨g4,i,none⟩,.slice (some ⟨g5,0,none⟩) rs.length cr),(⟨g5,j,none⟩,.slice xl lp.length cl)])))) (by kernel_rfl) (by kernel_rfl) (fun _ _ _ _ _ h=>h) (by rw[<-EW8.out];exact S8.out) ?_
  rw[<-EW8.out]
  repeat (first|refine tC_ ?_|refine tB_ ?_)
  refine plan_last (by rfl) (fun K' hK=>?_);go_simp;refine (K2.out W8).mono ?_;rintro e' w' ⟨rfl,hw'⟩;rw[hw'];clear hw' w';refine hK _ _ (.inr S8.out) ?_;clear hK K'
  try refine tP_ ?_
  repeat (first|refine tC_ ?_|refine tB_ ?_)
  refine plan_last (by rfl) (fun K' hK=>?_);go_simp
  first
   |(refine (K3.out W8).mono ?_;rintro e' w' ⟨rfl,hw'⟩;rw[hw'];clear hw' w';refine hK _ _ (.inr S8.out) ?_)
   |refine hK _ _ (.inr S8.out) ?_
  clear hK K'
  repeat (first|refine tC_ ?_|refine tB_ ?_)
  refine plan_last (by rfl) (fun K' hK=>?_);go_simp
  first
   |(refine (K5.out W8).mono ?_;rintro e' w' ⟨rfl,hw'⟩;rw[hw'];clear hw' w';refine hK _ _ (.inr S8.out) ?_)
   |refine hK _ _ (.inr S8.out) ?_
  clear hK K'
  repeat (first|refine tC_ ?_|refine tB_ ?_)
  refine plan_last (by rfl) (fun K' hK=>?_);go_simp;refine hK _ _ (.inr S8.out) ?_;clear hK K'
  repeat (first|refine tC_ ?_|refine tB_ ?_)
  refine plan_done ?_;go_wp2;go_ret;exact⟨by rw[NB2.out];rfl,by have:=H9.out.below;rwa[HP.out]at this⟩
end N
end Go.Proofs.YtcblbdpdbggkbaaGreat
namespace Go.Proofs.YtcblbdpdbggkbaaGreat
open Go.RowKit Go.Sort
section
variable {α:Type} {e:TypeId} {size:Nat} {w w' w0:World} {B:Nat} {l:List Ch} {xs ys:List α} {v u:Value} {enc:α->List Value}
def RdL (enc:α->List Value) (w:World) (u:Value) (ys:List α):Prop:=(u=.slice none 0 0/\ys=[])\/∃ad c,u=.slice (some ad) ys.length c/\∀(j:Nat) z,(ys.flatMap enc)[j]? =some z->w.cell? (ad.add j)=some z
theorem RdL.row {n:Nat} {base:Nat} (h:w.ownsRow base e size v n (ys.flatMap enc)) (hn:n=ys.length):RdL enc w v ys:=by
 rcases h.2 with ⟨rfl,q⟩|⟨g,cap,cur,rfl,_,hb,h1,h2,h3,h4⟩
 ·exact .inl ⟨rfl,List.eq_nil_of_length_eq_zero o_⟩
 ·refine .inr ⟨_,cap,by rw[hn],fun j z hz=>?_⟩
  have hj:j<n * size:=by have:=(List.getElem?_eq_some_iff.1 hz).1;rwa[h.1]at this
  rw[Addr.add_mid,Nat.zero_add,World.ownsRow.cellAt h _ hj,hz]
theorem RdL.fl {f:List Nat} (h:flR e size enc w [v] ys f):RdL enc w v ys:=by
 rcases h with h|⟨rfl,_,b,o,e1,_⟩
 ·obtain⟨_,e1,o,_⟩:=slc_flat_to h
  cases e1;exact RdL.row o rfl
 ·cases e1
  exact .inr ⟨_,0,rfl,fun j z hz=>by simp at hz⟩
theorem run_add {P:Program} {t:TypeId} {z:Value} {bytes:Nat} (T:SlT P t e z size bytes) (hl:∀a,(enc a).length=size) (h1:∀(a:α),∀u ∈ enc a,u.oneCell'=true) (h:M B w0 w (slcC (flatR_frame enc) e size v xs::l)) (hy:RdL enc w u ys)
  (ty:TypeId) (h63:xs.length+ys.length<=maxLen) (hby:(xs.length+ys.length) * bytes<=140737488355328):
  ∃y cap w',(Builtin.append_ #[t,t] ty #[v,u]).run P w=.ok (.slice y (xs.length+ys.length) cap) w'/\M B w0 w' (slcC (flatR_frame enc) e size (.slice y (xs.length+ys.length) cap) (xs++ys)::l):=by
 obtain⟨i,hi,hz,hs,hb⟩:=info_parts T.info;obtain⟨f,hf,_⟩:=h.first;obtain⟨_,e1,ho,rfl⟩:=slc_flat_to hf;cases e1;rcases hy with ⟨rfl,rfl⟩|⟨ad,c,rfl,hc⟩
 ·obtain⟨x,c,rfl⟩:=row_slice ho
  exact⟨x,c,w,run_append_owned_none (P:=P) (w:=w) 0 t ty e i size T.und hi _ _ _ ho,by rw[List.append_nil];exact h⟩
 ·have fl:∀zs:List α,(zs.flatMap enc).length=zs.length * size:=fun zs=>by
   induction zs with
   |nil=>simp
   |cons a zs ih=>rw[List.flatMap_cons,List.length_append,ih,hl,List.length_cons,Nat.succ_mul,Nat.add_comm]
  obtain⟨v',w',hr,h2,h3,_,h4⟩:=run_append_own_at (P:=P) w 0 t ty e i z size bytes T.und hi hz hs hb T.zs T.pos v xs.length (xs.flatMap enc) ho ad ys.length c (ys.flatMap enc) (fl ys) hc
   (fun q hq=>by obtain⟨a,_,ha⟩:=List.mem_flatMap.1 hq;exact h1 a q ha) h63 hby (Nat.zero_le _)
  obtain⟨y,cap,rfl⟩:=row_slice h2;refine⟨y,cap,w',hr,h.turn fun f hf nd lo=>?_⟩;obtain⟨_,e1,_,rfl⟩:=slc_flat_to hf;cases e1;refine⟨⟨h3.os,h3.tape,h3.output,h3.size,fun k hk hs=>h3.block k hk fun q=>hs (by rw[<-q];simp)⟩,_,slc_flat_of (enc:=enc) (xs:=xs++ys) (by rw[List.flatMap_append,List.length_append];exact h2) hl,block_nodup _,fun b hb=>?_⟩;rcases h4 with q|q
  ·rw[q]at hb;exact .inl hb
  ·rw[q]at hb
   rw[show b=w.heap.size by simpa using hb];exact .inr lr_
theorem wp_add {P:Program} {t:TypeId} {z:Value} {bytes:Nat} (T:SlT P t e z size bytes) (hl:∀a,(enc a).length=size) (h1:∀(a:α),∀u ∈ enc a,u.oneCell'=true) (h:M B w0 w (slcC (flatR_frame enc) e size v xs::l)) (hy:RdL enc w u ys)
  {o:Oper} {a:Act} {K:Act->World->Prop} {Q:Exit->Act->World->Prop} {s x:Operand} (ho:o.op=.call { callee:=.builtin .append,args:=#[s,x],argTypes:=#[t,t] }) {N:Nat} (hs:a.eval s=v) (hu:a.eval x=u)
  (h63:xs.length+ys.length<=maxLen) (hby:(xs.length+ys.length) * bytes<=140737488355328) (hN:N=xs.length+ys.length)
  (k:∀y cap w',M B w0 w' (slcC (flatR_frame enc) e size (.slice y N cap) (xs++ys)::l)->K (a.put o.dst (.slice y N cap)) w'):o.wp P a w K Q:=by
 obtain⟨y,cap,w',hr,hM⟩:=run_add T hl h1 h hy o.type h63 hby;unfold Oper.wp execOp;simp only[ho,resolve,invoke,builtin,Sem.run_bind,Sem.run_pure,Result.andThen_ok,List.map_toArray,List.map_cons,List.map_nil,hs,hu,hr];rw[hN]at k;exact k y cap w' hM
theorem wpList_add {P:Program} {t:TypeId} {z:Value} {bytes:Nat} (T:SlT P t e z size bytes) (hl:∀a,(enc a).length=size) (h1:∀(a:α),∀u ∈ enc a,u.oneCell'=true) (h:M B w0 w (slcC (flatR_frame enc) e size v xs::l)) (hy:RdL enc w u ys)
  {ops:Array Oper} {rest:List Oper} {o:Oper} {a:Act} {Q:Exit->Act->World->Prop} {s x:Operand} (hgd:o.guard=none) (ho:o.op=.call { callee:=.builtin .append,args:=#[s,x],argTypes:=#[t,t] }) {N:Nat} (hs:a.eval s=v) (hu:a.eval x=u)
  (h63:xs.length+ys.length<=maxLen) (hby:(xs.length+ys.length) * bytes<=140737488355328) (hN:N=xs.length+ys.length)
  (k:∀y cap w',M B w0 w' (slcC (flatR_frame enc) e size (.slice y N cap) (xs++ys)::l)->wpList P ops Q rest (a.put o.dst (.slice y N cap)) w'):wpList P ops Q (o::rest) a w:=
 wpList_plain hgd fun _ hK=>wp_add T hl h1 h hy ho hs hu h63 hby hN fun y cap w' hM=>hK _ _ (k y cap w' hM)
theorem step_add {P:Program} {t:TypeId} {z:Value} {bytes:Nat} (T:SlT P t e z size bytes) (hl:∀a,(enc a).length=size) (h1:∀(a:α),∀u ∈ enc a,u.oneCell'=true) (h:M B w0 w (slcC (flatR_frame enc) e size v xs::l)) (hy:RdL enc w u ys)
  {ops:Array Oper} {o:Oper} {a:Act} {K:Act->World->Prop} {Q:Exit->Act->World->Prop} {E:Prop} {s x:Operand} (hgd:o.guard=none) (ho:o.op=.call { callee:=.builtin .append,args:=#[s,x],argTypes:=#[t,t] }) {N:Nat} (hs:a.eval s=v) (hu:a.eval x=u)
  (h63:xs.length+ys.length<=maxLen) (hby:(xs.length+ys.length) * bytes<=140737488355328) (hN:N=xs.length+ys.length)
  (k:∀y cap w',M B w0 w' (slcC (flatR_frame enc) e size (.slice y N cap) (xs++ys)::l)->K (a.put o.dst (.slice y N cap)) w'):if Region.wanted o (yielded ops a.tmps)=true then Oper.wp P o a w K Q else E:=by
 rw[if_pos (by simp[Region.wanted,hgd])];exact wp_add T hl h1 h hy ho hs hu h63 hby hN k
end
end Go.Proofs.YtcblbdpdbggkbaaGreat
namespace Go.Proofs.YtcblbdpdbggkbaaGreat
open Go.RowKit Go.Sort
namespace N
def endV (k:Int × Int):Value:=.agg #[.int .i64 k.1,.int .i64 k.2]
def EndOk (k:Int × Int):Prop:=(-9223372036854775808<=k.1/\k.1<9223372036854775808)/\(-9223372036854775808<=k.2/\k.2<9223372036854775808)
theorem endT:KeyT Tryz.prog 130 EndOk endV:=by
 refine⟨Go.Maps.Keyed.of_law (deep_law_gate (by kernel_rfl) (by decide+kernel) (by decide+kernel) (by kernel_rfl) (by kernel_rfl)),fun k hk=>?_,fun x y h=>?_⟩
 ·obtain⟨⟨a0,a1⟩,b0,b1⟩:=hk
  have c2:Tryz.prog.cellsOf 130=2:=by kernel_rfl
  have c1:Tryz.prog.cellsOf 3=1:=by kernel_rfl
  have ht:Tryz.prog.keyType 130=true:=by kernel_rfl
  have hn:1<=Tryz.prog.types.size:=by decide+kernel
  obtain⟨d,hd⟩:∃d,Tryz.prog.types.size+1=d+2:=⟨Tryz.prog.types.size - 1,by omega⟩
  have w1:(Lit.int .i64 k.1).wf=true:=by simp[Lit.wf,IntKind.min,IntKind.max,IntKind.bits,IntKind.signed];omega
  have w2:(Lit.int .i64 k.2).wf=true:=by simp[Lit.wf,IntKind.min,IntKind.max,IntKind.bits,IntKind.signed];omega
  refine⟨.string (keyBytes [.int .i64 k.1,.int .i64 k.2]),?_⟩;have hl:Tryz.prog.keyLits (d+2) 130 [.int .i64 k.1,.int .i64 k.2]=some [.int .i64 k.1,.int .i64 k.2]:=by
   simp only[Program.keyLits,Tryz.underlying130,c2];simp[Program.keyLits,c1,Tryz.underlying3,w1,w2]
  have hf:(endV k).formed Tryz.prog 130=true:=by unfold endV Value.formed;simp only[Tryz.underlying130,c2];rfl
  have hc:(endV k).cells.toList=[.int .i64 k.1,.int .i64 k.2]:=rfl;simp only[keyOf,Tryz.underlying130,ht,hf,hd,hc,hl,Bool.and_self,if_true,Option.map_some]
 ·unfold endV at h
  injection h with h
  have h':=congrArg Array.toList h;simp at h';exact Prod.ext h'.1 h'.2
def LinksAre (g:Int × Int->Option Value) (lk:Int->Int->Bool):Prop:=∀k,(g k).getD (.bool false)=.bool (lk k.1 k.2)
theorem boolZ (w:World):(zeroValue 4).run Tryz.prog w=.ok (.bool false) w:=by
 obtain⟨i,hi,hz,_⟩:=info_parts linkS.info;simp[zeroValue,typeInfo,hi,hz]
theorem look_link {B m:Nat} {w0 w:World} {l:List Ch} {g:Int × Int->Option Value} {lk:Int->Int->Bool} (h:M B w0 w (mapC EndOk endV m g::l)) (hlk:LinksAre g lk) (a b:Int) (hk:EndOk (a,b)):
  (Instr.lookup 100 (.map (some m)) (.agg #[.int .i64 a,.int .i64 b]) false).run Tryz.prog w=.ok (.bool (lk a b)) w:=by
 have:=h.look endT Tryz.underlying100 (boolZ w) hk false;rw[hlk (a,b)]at this;exact this
theorem flatI_one:(flatR encI).One 1:=⟨fun h=>by rw[h.1];rfl,fun h u hu=>by rw[h.1]at hu;rw[List.mem_singleton.1 hu];rfl⟩
def two (a b:Int):Bool:=(in6 a 0 4&&in6 b 0 4)&&decide (a≠b)
theorem endsAt_at (w:World) (p:Nat) (h:p<25):Calls Tryz.prog 149 #[.int .i64 p] w fun e w'=>e=.returned (.agg #[.int .i64 ((p / 5:Nat):Int),.int .i64 ((p % 5:Nat):Int)])/\Below w.heap.size w w':=by
 have h0:(0:Int)<=(p:Int):=by omega
 have h1:(p:Int)<25:=by omega
 have H:=hd_ ((M.start w).alloc #[.int .i64 ((p:Int) / 5),.int .i64 ((p:Int) % 5)] 130);clear h;go_enter Tryz.func149,Tryz.ntmps149;go_wp2;obtain⟨c0,c1⟩:=H.out.cells2;exact bodyPost_ret (v:=.agg #[.int .i64 ((p:Int) / 5),.int .i64 ((p:Int) % 5)]) (by simp[results,Tryz.results149,go_sem,c0,c1]) rfl ⟨by simp,H.out.below⟩
end N
end Go.Proofs.YtcblbdpdbggkbaaGreat

namespace Go.Proofs.YtcblbdpdbggkbaaGreat
open Go.RowKit Go.Sort
namespace N
def lkP (ls:List Bool) (k:Nat) (a b:Int):Bool:=decide ((0<=a/\a<=4)/\(0<=b/\b<=4)/\a * 5+b<k)&&ls.getD (a * 5+b).toNat false
theorem lkP_zero (ls:List Bool) (a b:Int):lkP ls 0 a b=false:=by
 unfold lkP;rw[decide_eq_false o_];rfl
theorem lkP_step {ls:List Bool} {k:Nat} (hk:k<25) {u:Bool} (hu:ls.getD k false=u) (a b:Int):lkP ls (k+1) a b=if (a,b)=(((k:Int) / 5),((k:Int) % 5))then u else lkP ls k a b:=by
 by_cases h:(a,b)=(((k:Int) / 5),((k:Int) % 5))
 ·rw[if_pos h]
  simp only[Prod.mk.injEq]at h;obtain⟨rfl,rfl⟩:=h;unfold lkP;rw[decide_eq_true o_,Bool.true_and, <-hu]
  congr 1
  omega
 ·rw[if_neg h]
  simp only[Prod.mk.injEq]at h;unfold lkP
  congr 1
  exact decide_eq_decide.2 o_
theorem links_step {g:Int × Int->Option Value} {ls:List Bool} {k:Nat} (hk:k<25) {u:Bool} (hu:ls.getD k false=u) (h:LinksAre g (lkP ls k)):LinksAre (fun y=>if y=(((k:Int) / 5),((k:Int) % 5))then some (.bool u)else g y) (lkP ls (k+1)):=fun y=>by
 rw[lkP_step hk hu];simp only
 by_cases q:y=(((k:Int) / 5),((k:Int) % 5))
 ·rw[if_pos q,if_pos (by rw[<-q])];rfl
 ·rw[if_neg q,if_neg (show ¬(y.1,y.2)=_ from q)]
  exact h y
theorem imLinksOf_at (w:World) {x:Option Addr} {c:Nat} {ls:List Bool} {f:List Nat} (h:linksR TY w [.slice x 25 c] ls f):
  Calls Tryz.prog 89 #[.slice x 25 c] w fun r w'=>∃m g,r=.returned (.map (some m))/\M w.heap.size w w' [mapC EndOk endV m g]/\LinksAre g (lkP ls 25):=by
 have hl:25=ls.length:=(slcR_row h).1;have H1:=hd_ h;have HL:=hd_ hl;clear h hl;have h0:=(M.start w).map EndOk endV;have H0:=hd_ h0;clear h0;have hmm:=@run_makeMap Tryz.prog;go_enter Tryz.func89,Tryz.ntmps89;go_wp2;clear hmm;obtain⟨m,hm⟩:=nm_ w.heap.size;have HM:=hd_ hm;rw[<-hm]at H0 ⊢;clear hm;generalize w.alloc (.map #[] 0)=w1 at H0 ⊢;have l0:(0:Int)<=25:=by decide
 go_loopw [9] (fun z wr=>∃(k:Nat) (g:Int × Int->Option Value),k<=25/\z=.int .i64 (k:Int)/\M m w wr [mapC EndOk endV m g]/\LinksAre g (lkP ls k)) (fun z _=>25 - (intOf z).toNat)
 case atStart=>exact⟨0,fun _=>none,Nat.zero_le _,rfl,H0.out,fun y=>by rw[lkP_zero];rfl⟩
 case round=>
  clear H0;obtain⟨k,g,hk,rfl,hm,hg⟩:=hrel;have H:=hd_ hm;have HG:=hd_ hg;clear hm hg
  by_cases hlt:k<25
  ·obtain⟨u,hu⟩:∃u,ls[k]? =some u:=⟨_,List.getElem?_eq_getElem (by rw[<-HL.out];exact hlt)⟩
   obtain⟨g1,rfl,_,c0⟩:=link_at H1.out hu;have HU:Hid (ls.getD k false=u):=hd_ (by rw[List.getD_eq_getElem?_getD,hu];rfl);replace c0:=cell_later (by have:=H.out.below;rwa[HM.out]at this) c0;have KE:=hd_ (fun W=>endsAt_at W k hlt);have EO:=hd_ (show EndOk ((k:Int) / 5,(k:Int) % 5)from⟨⟨by simp;omega,by simp;omega⟩,⟨by simp;omega,by simp;omega⟩⟩);have k0:(0:Int)<=(k:Int):=o_;have k1:(k:Int)<25:=o_
   clear hu
   go_wp2_with fail
   refine (KE.out _).mono ?_;rintro e w4 ⟨rfl,hb⟩;have H2:=hd_ (H.out.later hb);clear hb H KE c0
   go_wp2_with (at_mapUpdate;go_loud (refine wpList_mset endT Tryz.underlying100 H2.out EO.out rfl rfl rfl rfl rfl ?_))
   intro w5 h5 hs5;have H5:=hd_ h5;have G5:=hd_ (links_step hlt HU.out HG.out);clear h5 hs5 H2;go_wp2;go_roundw
   case rel=>exact⟨k+1,_,o_,by go_num,H5.out,G5.out⟩
   case measure=>simp[intOf];omega
  ·obtain rfl:k=25:=o_
   go_wp2;go_ret;exact⟨m,g,rfl,by rw[HM.out]at *;exact H.out,HG.out⟩
end N
end Go.Proofs.YtcblbdpdbggkbaaGreat
namespace Go.Proofs.YtcblbdpdbggkbaaGreat
open Go.RowKit Go.Sort Go.Deep
def putA:Array Value->Nat->List Value->Array Value
 |xs,_,[]=>xs
 |xs,o,v::r=>putA (xs.setIfInBounds o v) (o+1) r
def putC:List Value->Nat->List Value->List Value
 |xs,_,[]=>xs
 |xs,o,v::r=>putC (xs.set o v) (o+1) r
section
variable {w w0:World} {B b:Nat} {l:List Ch} {t:TypeId} {xs:Array Value}
theorem M.setCells:∀(vs:List Value) {xs:Array Value} {o:Nat} {w:World},M B w0 w (boxC b t xs::l)->M B w0 (w.setCells b o vs) (boxC b t (putA xs o vs)::l)
 | [],_,_,_,h=>h
 |v::r,_,_,_,h=>M.setCells r (h.set v)
theorem M.there (h:M B w0 w (boxC b t xs::l)) {o n:Nat} (hl:o+n<=xs.size):w.there b o n:=fun j hj=>
 ⟨by rw[h.cell (i:=o+j) (Array.getElem?_eq_getElem o_)];rfl,h.free _⟩
section
variable {P:Program} {op:Oper} {a:Act} {K:Act->World->Prop} {Q:Exit->Act->World->Prop} {ty:TypeId} {x y:Operand} {o:Nat} {vs:List Value} {ys:Array Value}
theorem wp_mstore (h:M B w0 w (boxC b t xs::l)) (ho:op.op=.store ty x y) (hx:a.eval x=.pointer (some ⟨b,o,none⟩)) (hy:a.eval y=.agg vs.toArray) (hi:(P.info? ty).map (·.size)=some vs.length) (h1:(vs.all (·.oneCell'))=true) (hl:o+vs.length<=xs.size) (he:putA xs o vs=ys)
  (k:∀w',M B w0 w' (boxC b t ys::l)->K (a.put op.dst undef) w'):op.wp P a w K Q:=
 wp_store_mid ty x y ho b o vs.toArray hx hy (by rw[List.size_toArray];exact h.there hl) (by rw[List.size_toArray];exact hi) (by rw[List.all_toArray];exact h1) (k _ (by rw[<-he];exact h.setCells vs))
theorem wpList_mstore {ops:Array Oper} {rest:List Oper} (h:M B w0 w (boxC b t xs::l)) (hgd:op.guard=none) (ho:op.op=.store ty x y) (hx:a.eval x=.pointer (some ⟨b,o,none⟩)) (hy:a.eval y=.agg vs.toArray) (hi:(P.info? ty).map (·.size)=some vs.length) (h1:(vs.all (·.oneCell'))=true) (hl:o+vs.length<=xs.size) (he:putA xs o vs=ys)
  (k:∀w',M B w0 w' (boxC b t ys::l)->wpList P ops Q rest (a.put op.dst undef) w'):wpList P ops Q (op::rest) a w:=
 wpList_plain hgd fun _ hK=>wp_mstore h ho hx hy hi h1 hl he fun w' h'=>hK _ _ (k w' h')
theorem step_mstore {ops:Array Oper} {E:Prop} (h:M B w0 w (boxC b t xs::l)) (hgd:op.guard=none) (ho:op.op=.store ty x y) (hx:a.eval x=.pointer (some ⟨b,o,none⟩)) (hy:a.eval y=.agg vs.toArray) (hi:(P.info? ty).map (·.size)=some vs.length) (h1:(vs.all (·.oneCell'))=true) (hl:o+vs.length<=xs.size) (he:putA xs o vs=ys)
  (k:∀w',M B w0 w' (boxC b t ys::l)->K (a.put op.dst undef) w'):if Region.wanted op (yielded ops a.tmps)=true then Oper.wp P op a w K Q else E:=by
 rw[if_pos (by simp[Region.wanted,hgd])];exact wp_mstore h ho hx hy hi h1 hl he k
end
section
variable {α:Type} {A:Rep α} {FA:A.Frame} {e:TypeId} {size i g n cap:Nat} {zs:List α}
theorem M.hsetCells (hi:i<zs.length):∀(vs:List Value) {ci:List Value} {j:Nat} {w:World},j+vs.length<=size->M B w0 w (holeC FA e size i (.slice (some ⟨g,0,none⟩) n cap) zs ci::l)->M B w0 (w.setCells g (i * size+j) vs) (holeC FA e size i (.slice (some ⟨g,0,none⟩) n cap) zs (putC ci j vs)::l)
 | [],_,_,_,_,h=>h
 |v::r,ci,j,w,hl,h=>by
  rw[List.length_cons]at hl;have:=M.hsetCells hi r (j:=j+1) o_ (h.hset hi (j:=j) o_ v);rw[World.setCells];exact this
theorem M.hthere {ci:List Value} (h:M B w0 w (holeC FA e size i (.slice (some ⟨g,0,none⟩) n cap) zs ci::l)) (hi:i<zs.length) (hc:ci.length=size) {j m:Nat} (hl:j+m<=size):w.there g (i * size+j) m:=fun k hk=>
 ⟨by rw[Nat.add_assoc,h.hcell hi (j:=j+k) (List.getElem?_eq_getElem o_)];rfl,h.hfree _⟩
variable {P:Program} {op:Oper} {a:Act} {K:Act->World->Prop} {Q:Exit->Act->World->Prop} {ty:TypeId} {x y:Operand} {o j:Nat} {vs ci ci':List Value}
theorem wp_hstore (h:M B w0 w (holeC FA e size i (.slice (some ⟨g,0,none⟩) n cap) zs ci::l)) (hi0:i<zs.length) (hc:ci.length=size) (ho:op.op=.store ty x y) (hx:a.eval x=.pointer (some ⟨g,o,none⟩)) (hj:o=i * size+j) (hy:a.eval y=.agg vs.toArray) (hi:(P.info? ty).map (·.size)=some vs.length) (h1:(vs.all (·.oneCell'))=true) (hl:j+vs.length<=size) (he:putC ci j vs=ci')
  (k:∀w',M B w0 w' (holeC FA e size i (.slice (some ⟨g,0,none⟩) n cap) zs ci'::l)->K (a.put op.dst undef) w'):op.wp P a w K Q:=by
 subst hj;exact wp_store_mid ty x y ho g (i * size+j) vs.toArray hx hy (by rw[List.size_toArray];exact h.hthere hi0 hc hl) (by rw[List.size_toArray];exact hi) (by rw[List.all_toArray];exact h1) (k _ (by rw[<-he];exact h.hsetCells hi0 vs hl))
theorem step_hstore {ops:Array Oper} {E:Prop} (h:M B w0 w (holeC FA e size i (.slice (some ⟨g,0,none⟩) n cap) zs ci::l)) (hi0:i<zs.length) (hc:ci.length=size) (hgd:op.guard=none) (ho:op.op=.store ty x y) (hx:a.eval x=.pointer (some ⟨g,o,none⟩)) (hj:o=i * size+j) (hy:a.eval y=.agg vs.toArray) (hi:(P.info? ty).map (·.size)=some vs.length) (h1:(vs.all (·.oneCell'))=true) (hl:j+vs.length<=size) (he:putC ci j vs=ci')
  (k:∀w',M B w0 w' (holeC FA e size i (.slice (some ⟨g,0,none⟩) n cap) zs ci'::l)->K (a.put op.dst undef) w'):if Region.wanted op (yielded ops a.tmps)=true then Oper.wp P op a w K Q else E:=by
 rw[if_pos (by simp[Region.wanted,hgd])];exact wp_hstore h hi0 hc ho hx hj hy hi h1 hl he k
end
end
namespace N
theorem sumI:(Tryz.prog.info? 46).map (·.size)=some 7:=by kernel_rfl
theorem nodeI:(Tryz.prog.info? 55).map (·.size)=some 5:=by kernel_rfl
theorem netI:(Tryz.prog.info? 30).map (·.size)=some 4:=by kernel_rfl
end N
end Go.Proofs.YtcblbdpdbggkbaaGreat
namespace Go.Proofs.YtcblbdpdbggkbaaGreat
open Go.RowKit Go.Sort
structure LenS (s:Sm):Prop where
 r:Lens s.rs
 f:s.zs.length<=1048576
 t:s.ps.length<=1048576
 k:s.ks.length<=1048576
theorem Small.lens {s:Sm} (h:Small s):LenS s:=⟨Lens.small ⟨h.r.1,fun i hi=>⟨rfl,h.r.2 i hi⟩⟩,by have:=h.f;omega,by have:=h.t;omega,by have:=h.k;omega⟩
end Go.Proofs.YtcblbdpdbggkbaaGreat
namespace Go.Proofs.YtcblbdpdbggkbaaGreat
open Go.RowKit Go.Sort
namespace N
variable {B:Nat} {w0 w:World} {l:List Ch} {v:Value} {k:Int}
def pairsC (v:Value) (ps:List (Int × Int)):Ch:=pairsR_frame.ch [v] ps
def knotsC (v:Value) (ps:List (Int × Int)):Ch:=knotsR_frame.ch [v] ps
variable {B:Nat} {w0 w:World} {l:List Ch} {v:Value} {k:Int}
theorem _root_.Go.Proofs.YtcblbdpdbggkbaaGreat.M.sumWhole {V:SV} {s:Sm} (h:M B w0 w (rowsC (.slice V.xr V.nr V.cr) s.rs::intsC (.slice V.xf V.nf V.cf) s.zs::pairsC (.slice V.xt V.nt V.ct) s.ps::knotsC (.slice V.xk V.nk V.ck) s.ks::l)):M B w0 w (sumR_frame.ch [.slice V.xr V.nr V.cr,.slice V.xf V.nf V.cf,.slice V.xt V.nt V.ct,.int .i64 s.lo,.int .i64 s.al,.slice V.xk V.nk V.ck,.int .i64 s.ka] s::l):=
 (M.sep (M.p1 (M.sep (M.p1 (M.sep (M.p1 (h.perm (List.reverse_perm [_,_,_,_] |>.symm.append_right l)))))))).to fun f hf nd=>by
  obtain⟨f1,_,rfl,h1,f2,_,rfl,h2,f3,f4,rfl,h3,h4⟩:=hf;exact⟨_,⟨V,f1,f2,f3,f4,rfl,rfl,h1,h2,h3,h4⟩,nd,fun b hb=>hb⟩
variable {B:Nat} {w0 w:World} {l:List Ch} {v:Value} {k:Int}
variable {B:Nat} {w0 w:World} {l:List Ch} {v:Value} {k:Int}
end N
end Go.Proofs.YtcblbdpdbggkbaaGreat
namespace Go.Proofs.YtcblbdpdbggkbaaGreat
open Go.RowKit Go.Sort
theorem RdL.later {α:Type} {enc:α->List Value} {w w':World} {u:Value} {ys:List α} (h:RdL enc w u ys) (hb:Below w.heap.size w w'):RdL enc w' u ys:=by
 rcases h with ⟨rfl,rfl⟩|⟨ad,c,rfl,hc⟩
 ·exact .inl ⟨rfl,rfl⟩
 ·exact .inr ⟨ad,c,rfl,fun j z hz=>(hb.cell (World.block_lt_of_cell? _ _ (hc j z hz))).trans (hc j z hz)⟩
namespace N
theorem pairS:SlT Tryz.prog 39 213 (.agg #[iv 0,iv 0]) 2 16:=⟨Tryz.underlying39,by kernel_rfl,rfl,by decide⟩
theorem knotS:SlT Tryz.prog 42 152 (.agg #[iv 0,iv 0]) 2 16:=⟨Tryz.underlying42,by kernel_rfl,rfl,by decide⟩
theorem encI_one1 (a:Int):∀u ∈ encI a,u.oneCell'=true:=fun u hu=>by rw[List.mem_singleton.1 hu];rfl
theorem encP2_one1 (a:Int × Int):∀u ∈ encP2 a,u.oneCell'=true:=fun u hu=>by
 rcases List.mem_cons.1 hu with rfl|hu
 ·rfl
 ·rw[List.mem_singleton.1 hu];rfl
end N
end Go.Proofs.YtcblbdpdbggkbaaGreat
namespace Go.Proofs.YtcblbdpdbggkbaaGreat
open Go.RowKit Go.Sort
namespace N
theorem rd_more {B a k k':Nat} {w0 w:World} {l:List Ch} (h:M B w0 w (rdC w0 B a k::l)) (hk:k<=k'):M B w0 w (rdC w0 B a k'::l):=
 h.to fun f hf nd=>by
  obtain⟨⟨v,n,p,hb,ht,hn,p0,p1⟩,rfl⟩:=hf;exact⟨[a],⟨⟨v,n,p,hb,ht,hn,p0,o_⟩,rfl⟩,nd,fun _ q=>q⟩
section
variable {B a b k:Nat} {e:TypeId} {w0 w:World} {l:List Ch}
theorem rd_one {x:Int} (h:M B w0 w (boxC b e #[iv x]::l)):RdL encI w (.slice (some ⟨b,0,none⟩) 1 1) [x]:=
 .inr ⟨_,1,rfl,fun j z hz=>by
    match j,hz with
    | 0,hz=>have e:Value.int .i64 x=z:=Option.some.inj hz;rw[<-e];exact h.cell rfl
    |j+1,hz=>simp[encI]at hz⟩
theorem rd_two {x y:Int} (h:M B w0 w (boxC b e #[iv x,iv y]::l)):RdL encI w (.slice (some ⟨b,0,none⟩) 2 2) [x,y]:=
 .inr ⟨_,2,rfl,fun j z hz=>by
    match j,hz with
    | 0,hz=>have e:Value.int .i64 x=z:=Option.some.inj hz;rw[<-e];exact h.cell rfl
    | 1,hz=>have e:Value.int .i64 y=z:=Option.some.inj hz;rw[<-e];exact h.cell rfl
    |j+2,hz=>simp[encI]at hz⟩
end
section
variable {B a k:Nat} {w0 w:World} {l:List Ch}
abbrev listC (v:Value) (zs:List Int):Ch:=slcC (flatR_frame encI) 3 1 v zs
end
structure Counts (n:Nt) (i b:Nat):Prop where
 sized:Sized n
 node:i<5
 born:(nodeAt n (i:Int)).born=b
 rows:(rowsAt n (i:Int)).length=b+1
 few:(pastAt n (i:Int) b).length<=100
 known:(nodeAt n (i:Int)).known.length<=5
 own:∃e,findE (nodeAt n (i:Int)).known (i:Int)=some e/\ -1000000<=e.num/\e.num<=1000000
theorem count_yes {n:Nt} {i b:Nat} {t:Int} {e:En} (hb:(nodeAt n (i:Int)).born=b) (he:findE (nodeAt n (i:Int)).known (i:Int)=some e) (ht:in6 t 0 63=true) (hl:(pastAt n (i:Int) b).length<100):
  countN n i t=some { n with past:=n.past.set i ((rowsAt n i).set b (pastAt n i b++[t])),nodes:=n.nodes.set i { nodeAt n i with known:=putE (nodeAt n i).known ⟨i,b,e.num+1,addS e.s t⟩ } }:=by
 unfold countN;simp only[hb,he];rw[if_pos ⟨in6_iff.1 ht,hl⟩];simp
theorem count_no {n:Nt} {i b:Nat} {t:Int} (hb:(nodeAt n (i:Int)).born=b) (h:in6 t 0 63=false\/¬(pastAt n (i:Int) b).length<100):countN n i t=none:=by
 unfold countN;simp only[hb];rw[if_neg];rintro⟨q1,q2⟩;rcases h with h|h
 ·rw[in6_iff.2 q1]at h;cases h
 ·exact h q2
section
variable {B:Nat} {w0 w:World} {l:List Ch} {p:Nat} {n:Nt}
theorem spNCount_at (h:M B w0 w (liveC p n::l)) {i b:Nat} (hc:Counts n i b) (t:Int):
  Calls Tryz.prog 307 #[ptrV p,iv (i:Int),iv t] w fun r w'=>r=.returned (.bool (countN n (i:Int) t).isSome)/\M B w0 w' (liveC p ((countN n (i:Int) t).getD n)::l):=by
 obtain⟨hs,hi,hb,hr,hf,hk,⟨e,he,en0,en1⟩⟩:=hc;obtain⟨rs,hrs⟩:=nm_ (rowsAt n (i:Int));obtain⟨x,hx⟩:=nm_ (nodeAt n (i:Int));have gx:=node_get hs.nodes hi;have gr:=rows_get hs.past hi;rw[<-hx]at gx hb hk he;rw[<-hrs]at gr hr;obtain⟨lp,hlp⟩:∃lp,rs[b]? =some lp:=⟨_,List.getElem?_eq_getElem o_⟩
 have eP:pastAt n (i:Int) (b:Int)=lp:=by unfold pastAt;rw[<-hrs,List.getD_eq_getElem?_getD,Int.toNat_natCast,hlp];rfl
 rw[eP]at hf;have CY:=hd_ (fun (q1:in6 t 0 63=true) (q2:lp.length<100)=>count_yes (n:=n) (i:=i) (b:=b) (t:=t) (e:=e) (by rw[<-hx];exact hb) (by rw[<-hx];exact he) q1 (by rw[eP];exact q2));have CN:=hd_ (fun (q:in6 t 0 63=false\/¬lp.length<100)=>count_no (n:=n) (i:=i) (b:=b) (t:=t) (by rw[<-hx];exact hb) (by rw[eP];exact q));rw[eP, <-hx, <-hrs]at CY;have HL:=hd_ h;obtain⟨ns,ls,ws,ps⟩:=n
 simp only at gx gr CY;obtain⟨hs1,hs2,hs3,hs4⟩:=hs;simp only at hs1 hs2 hs3 hs4;obtain⟨x1,c1,x2,c2,x3,c3,x4,c4,h1⟩:=h.live;simp only at h1;rw[hs1,hs3]at h1;obtain⟨f1,hf1⟩:=h1.p1.nodesRd;obtain⟨f4,hf4⟩:=h1.p4.pastRd;obtain⟨g1,xk,ck,fk,rfl,_,_,kr,_,_,d0,d1,d2,d3,d4⟩:=node_at hf1 gx;obtain⟨g4,xr,cr,fr,rfl,_,_,rr,_,_,y0⟩:=past_at hf4 gr;obtain⟨g5,xl,cl,fl,rfl,_,_,ir,_,_,y1⟩:=row_at rr hlp
 obtain⟨a0,a1,a2,a3⟩:=h1.cells4;rw[hb]at d0;obtain⟨m,hm⟩:=nm_ rs.length;rw[<-hm]at y0;have i0:(0:Int)<=(i:Int):=o_;have i1:(i:Int)<5:=o_;have b0:(0:Int)<=(b:Int):=o_;have b1:(b:Int)<(m:Int):=o_;have RI:=hd_ (RdL.fl ir);have KR:=hd_ kr;have HE:=hd_ he;have GX:=hd_ gx;have GR:=hd_ gr;have LP:=hd_ hlp;have H1:=hd_ h1;have KB:=hd_ hk;have EN:=hd_ (And.intro en0 en1);have HB:=hd_ hb;have HR:=hd_ hm
 obtain⟨tb,htb⟩:=nm_ (in6 t 0 63);have KT:=hd_ (fun W=>in6_is htb W);rw[<-htb]at CY CN;clear h h1 hf1 hf4 kr rr ir he gx gr hlp hk en0 en1 hb hr hrs hm hx eP htb hs1 hs2 hs3 hs4;unfold ptrV;go_enter Tryz.func307,Tryz.ntmps307;cases tb
 case false=>
  have CF:=hd_ (CN.out (.inl rfl))
  go_wp2_with (refine (KT.out _).mono ?_;rintro r w5 ⟨rfl,e5⟩;rw[e5];clear e5 w5)
  go_ret;rw[CF.out];exact⟨rfl,HL.out⟩
 by_cases hlt:lp.length<100
 case neg=>
  have CF:=hd_ (CN.out (.inr hlt));have g1:(100:Int)<=(lp.length:Int):=o_;clear hlt
  go_wp2_with (refine (KT.out _).mono ?_;rintro r w5 ⟨rfl,e5⟩;rw[e5];clear e5 w5)
  go_ret;rw[CF.out];exact⟨rfl,HL.out⟩
 have CF:=hd_ (CY.out rfl hlt);have g1':¬(100:Int)<=(lp.length:Int):=o_;clear CY CN HL;have C0:Hid (Cells w [(⟨p,0,none⟩,.slice (some ⟨g1,0,none⟩) 5 c1),(⟨p,3,none⟩,.slice (some ⟨g4,0,none⟩) 5 c4),(⟨g1,i * 5+1,none⟩,.slice xk x.known.length ck),(⟨g4,i,none⟩,.slice (some ⟨g5,0,none⟩) m cr),(⟨g5,b,none⟩,.slice xl lp.length cl)]):=hd_ ⟨a0,a3,d1,y0,y1,trivial⟩
 have KO:=hd_ (spOwn_at w KR.out (i:Int) (b:Int) x.beacon x.level x.up);go_upto_region 4 with (refine (KT.out _).mono ?_;rintro r w5 ⟨rfl,e5⟩;rw[e5];clear e5 w5)
 go_wp2_with fail
 refine KO.out.mono ?_;rintro r w1 ⟨⟨u,rfl,hu⟩,hb1⟩;rcases hu with ⟨e',V,he',rv,rfl⟩|⟨he',rfl⟩
 case inr=>have:=HE.out.symm.trans he';cases this
 obtain rfl:e=e':=Option.some.inj (HE.out.symm.trans he');have BW1:=hd_ hb1;have h2:=(H1.out.later hb1).alloc #[iv e.node,iv e.born,iv e.num,.slice V.xr V.nr V.cr,.slice V.xf V.nf V.cf,.slice V.xt V.nt V.ct,.int .i64 (e.s).lo,.int .i64 (e.s).al,.slice V.xk V.nk V.ck,.int .i64 (e.s).ka] 64;obtain⟨q1,hq1⟩:=nm_ w1.heap.size
 obtain⟨W1,hW1⟩:=nm_ (w1.alloc (.cells #[iv e.node,iv e.born,iv e.num,.slice V.xr V.nr V.cr,.slice V.xf V.nf V.cf,.slice V.xt V.nt V.ct,.int .i64 (e.s).lo,.int .i64 (e.s).al,.slice V.xk V.nk V.ck,.int .i64 (e.s).ka] 64));have hb2:Below w1.heap.size w1 W1:=by rw[hW1];exact (Below.refl _ _).alloc lr_ _
 rw[<-hW1, <-hq1]at h2;have BW2:=hd_ (BW1.out.trans (hb2.mono BW1.out.size));have KA:=hd_ (spSumAdd_at W1 V e.s t (rv.later BW2.out));have H2:=hd_ h2;clear h2 hb1 hb2 rv he' KO H1 a0 a1 a2 a3 d0 d1 d2 d3 d4 y0 y1;go_upto_region 5 with fail
 rw[<-hW1, <-hq1];clear hW1 hq1;obtain⟨e0,e1,e2,e3,e4,e5,e6,e7,e8,e9⟩:=H2.out.cells10
 go_wp2_with fail
 refine KA.out.mono ?_;rintro r w2 ⟨U,rfl,ho,hb3⟩;obtain⟨s2,hs2⟩:=nm_ (addS e.s t);rw[<-hs2]at ho CF ⊢;have h3:=(H2.out.sum hb3 ho).alloc (cS U s2) 46;obtain⟨q2,hq2⟩:=nm_ w2.heap.size;obtain⟨W2,hW2⟩:=nm_ (w2.alloc (.cells (cS U s2) 46));have hb4:Below w2.heap.size w2 W2:=by rw[hW2];exact (Below.refl _ _).alloc lr_ _
 rw[<-hW2, <-hq2]at h3;have BW3:=hd_ ((BW2.out.trans (hb3.mono BW2.out.size)).trans (hb4.mono (BW2.out.trans (hb3.mono BW2.out.size)).size));have H3:=hd_ h3;clear h3 hb3 hb4 ho KA H2 BW1 BW2 hs2 e0 e1 e2 e3 e4 e5 e6 e7 e8 e9;go_upto_region 6 with fail
 rw[<-hW2, <-hq2];clear hW2 hq2;have BW4:=hd_ (BW3.out.trans ((Below.drew (Below.refl W2.heap.size W2)).mono BW3.out.size))
 go_cut [] (fun wx=>M B w0 wx (pastC (.slice (some ⟨g4,0,none⟩) 5 c4) (ps.set i (rs.set b (lp++[t])))::boxC q2 46 (cS U s2)::sumR_frame.ch (cS U s2) s2::boxC q1 64 #[iv e.node,iv e.born,iv e.num,.slice V.xr V.nr V.cr,.slice V.xf V.nf V.cf,.slice V.xt V.nt V.ct,.int .i64 (e.s).lo,.int .i64 (e.s).al,.slice V.xk V.nk V.ck,.int .i64 (e.s).ka]::boxC p 289 #[.slice (some ⟨g1,0,none⟩) 5 c1,.slice x2 ls.length c2,.slice x3 ws.length c3,.slice (some ⟨g4,0,none⟩) 5 c4]::nodesC (.slice (some ⟨g1,0,none⟩) 5 c1) ns::linksC (.slice x2 ls.length c2) ls::wordsC (.slice x3 ws.length c3) ws::l))
 case first=>
  refine wp_region_plan 26 (.tk 0 9 (.tk 10 11 (.take 22 (.alt 9 (.alt 21 (.alt 23 (.alt 24 (.take 25 (.alt 26 .done .nomore)) .nomore) .nomore) (.alt 23 (.alt 21 (.alt 24 (.take 25 (.alt 26 .done .nomore)) .nomore) .nomore) .nomore)) (.alt 23 (.alt 9 (.alt 21 (.alt 24 (.take 25 (.alt 26 .done .nomore)) .nomore) .nomore) .nomore) .nomore))))) (fun w'=>Cells w' [(⟨p,0,none⟩,.slice (some ⟨g1,0,none⟩) 5 c1),(⟨p,3,none⟩,.slice (some ⟨g4,0,none⟩) 5 c4),(⟨g1,i * 5+1,none⟩,.slice xk x.known.length ck),(⟨g4,i,none⟩,.slice (some ⟨g5,0,none⟩) m cr),(⟨g5,b,none⟩,.slice xl lp.length cl)]) (by kernel_rfl) (by kernel_rfl) (fun _ _ _ _ _ h=>h) (C0.out.below BW4.out) ?_
  have H4:=hd_ H3.out.drew;have C4:=hd_ (C0.out.below BW4.out);have R4:=hd_ (RI.out.later BW4.out);obtain⟨W4,hW4⟩:=nm_ W2.drew;rw[<-hW4]at H4 C4 R4 BW4 ⊢;clear hW4 H3 C0 RI BW3
  repeat (first|refine tC_ ?_|refine tB_ ?_)
  have FIN:Hid (∀(w':World) (v:Value) (l':List Ch),M W4.heap.size W4 w' (listC v (lp++[t])::l')->((∃u,w'.cell? ⟨g5,b,none⟩=some u)/\w'.frozen? ⟨g5,b,none⟩=false/\M B w0 (w'.setCell ⟨g5,b,none⟩ v) (pastC (.slice (some ⟨g4,0,none⟩) 5 c4) (ps.set i (rs.set b (lp++[t])))::boxC q2 46 (cS U s2)::sumR_frame.ch (cS U s2) s2::boxC q1 64 #[iv e.node,iv e.born,iv e.num,.slice V.xr V.nr V.cr,.slice V.xf V.nf V.cf,.slice V.xt V.nt V.ct,.int .i64 (e.s).lo,.int .i64 (e.s).al,.slice V.xk V.nk V.ck,.int .i64 (e.s).ka]::boxC p 289 #[.slice (some ⟨g1,0,none⟩) 5 c1,.slice x2 ls.length c2,.slice x3 ws.length c3,.slice (some ⟨g4,0,none⟩) 5 c4]::nodesC (.slice (some ⟨g1,0,none⟩) 5 c1) ns::linksC (.slice x2 ls.length c2) ls::wordsC (.slice x3 ws.length c3) ws::l))):=hd_ (by
      intro w' v l' k
      have h5:=H4.out.plus k.soft
      have y0:=(C4.out.below k.below).2.2.2.1
      exact M.setRow (h5.p8.p1) GR.out LP.out y0)
  refine plan_alt (by rfl) (fun K hK=>?_) ?_
  ·go_simp
   have k1:=((M.start W4).alloc #[] 3).empty (flatR_frame encI) 1;refine hK _ _ (.inr (C4.out.below k1.below)) ?_;clear hK K
   try refine tP_ ?_
   refine plan_alt (by rfl) (fun K hK=>step_add intS (fun _=>rfl) encI_one1 k1 (R4.out.later k1.below) (by rfl) (by rfl) (by rfl) (by rfl) (by rw[List.length_nil];unfold maxLen;omega) (by rw[List.length_nil];omega) (N:=lp.length) (by rw[List.length_nil,Nat.zero_add]) (fun y cap w6 k4=>?_)) ?_
   ·rw[List.nil_append]at k4
    refine hK _ _ (.inr (C4.out.below k4.below)) ?_;clear hK K
    try refine tP_ ?_
    refine plan_last (by rfl) (fun K hK=>?_);go_simp;have k5:=k4.alloc #[iv t] 3;refine hK _ _ (.inr (C4.out.below k5.below)) ?_;clear hK K
    try refine tP_ ?_
    refine plan_last (by rfl) (fun K hK=>step_add intS (fun _=>rfl) encI_one1 k5.p1 (rd_one k5) (by rfl) (by rfl) (by rfl) (by rfl) (by simp only[List.length_cons,List.length_nil];unfold maxLen;omega) (by simp only[List.length_cons,List.length_nil];omega) (N:=lp.length+1) (by rfl) (fun y9 cap9 w9 k9=>?_));refine hK _ _ (.inr (C4.out.below k9.below)) ?_;clear hK K
    try refine tP_ ?_
    repeat (first|refine tC_ ?_|refine tB_ ?_)
    obtain⟨⟨u,cu⟩,fu,hN⟩:=FIN.out _ _ _ k9;refine plan_last (by rfl) (fun K hK=>?_);go_simp;refine hK _ _ (.inl rfl) ?_;clear hK K
    try refine tP_ ?_
    refine plan_done ?_
    go_wp2_with fail
    go_meet
    exact hN
   ·refine plan_last (by rfl) (fun K hK=>?_)
    go_simp;have k2:=k1.alloc #[iv t] 3;simp only[World.size_alloc]at k2;refine hK _ _ (.inr (C4.out.below k2.below)) ?_;clear hK K
    try refine tP_ ?_
    refine plan_last (by rfl) (fun K hK=>step_add intS (fun _=>rfl) encI_one1 k2.p1 (R4.out.later k2.below) (by rfl) (by rfl) (by rfl) (by rfl) (by rw[List.length_nil];unfold maxLen;omega) (by rw[List.length_nil];omega) (N:=lp.length) (by rw[List.length_nil,Nat.zero_add]) (fun y cap w6 k4=>?_));rw[List.nil_append]at k4;refine hK _ _ (.inr (C4.out.below k4.below)) ?_;clear hK K
    try refine tP_ ?_
    refine plan_last (by rfl) (fun K hK=>step_add intS (fun _=>rfl) encI_one1 k4 (rd_one k4.p1) (by rfl) (by rfl) (by rfl) (by rfl) (by simp only[List.length_cons,List.length_nil];unfold maxLen;omega) (by simp only[List.length_cons,List.length_nil];omega) (N:=lp.length+1) (by rfl) (fun y9 cap9 w9 k9=>?_));refine hK _ _ (.inr (C4.out.below k9.below)) ?_;clear hK K
    try refine tP_ ?_
    repeat (first|refine tC_ ?_|refine tB_ ?_)
    obtain⟨⟨u,cu⟩,fu,hN⟩:=FIN.out _ _ _ k9;refine plan_last (by rfl) (fun K hK=>?_);go_simp;refine hK _ _ (.inl rfl) ?_;clear hK K
    try refine tP_ ?_
    refine plan_done ?_
    go_wp2_with fail
    go_meet
    exact hN
  ·refine plan_last (by rfl) (fun K hK=>?_)
   go_simp;have k1:=(M.start W4).alloc #[iv t] 3;refine hK _ _ (.inr (C4.out.below k1.below)) ?_;clear hK K
   try refine tP_ ?_
   refine plan_last (by rfl) (fun K hK=>?_);go_simp;have k2:=(k1.alloc #[] 3).empty (flatR_frame encI) 1;simp only[World.size_alloc]at k2;refine hK _ _ (.inr (C4.out.below k2.below)) ?_;clear hK K
   try refine tP_ ?_
   refine plan_last (by rfl) (fun K hK=>step_add intS (fun _=>rfl) encI_one1 k2 (R4.out.later k2.below) (by rfl) (by rfl) (by rfl) (by rfl) (by rw[List.length_nil];unfold maxLen;omega) (by rw[List.length_nil];omega) (N:=lp.length) (by rw[List.length_nil,Nat.zero_add]) (fun y cap w6 k4=>?_));rw[List.nil_append]at k4;refine hK _ _ (.inr (C4.out.below k4.below)) ?_;clear hK K
   try refine tP_ ?_
   refine plan_last (by rfl) (fun K hK=>step_add intS (fun _=>rfl) encI_one1 k4 (rd_one k4.p1) (by rfl) (by rfl) (by rfl) (by rfl) (by simp only[List.length_cons,List.length_nil];unfold maxLen;omega) (by simp only[List.length_cons,List.length_nil];omega) (N:=lp.length+1) (by rfl) (fun y9 cap9 w9 k9=>?_));refine hK _ _ (.inr (C4.out.below k9.below)) ?_;clear hK K
   try refine tP_ ?_
   repeat (first|refine tC_ ?_|refine tB_ ?_)
   obtain⟨⟨u,cu⟩,fu,hN⟩:=FIN.out _ _ _ k9;refine plan_last (by rfl) (fun K hK=>?_);go_simp;refine hK _ _ (.inl rfl) ?_;clear hK K
   try refine tP_ ?_
   refine plan_done ?_
   go_wp2_with fail
   go_meet
   exact hN
 case rest=>
  have hM:=hcut.p5;obtain⟨y,cy,h6⟩:=M.openKnown hM GX.out;have gk:=h6.p1.hcell (i:=i) (j:=1) (by have:=(List.getElem?_eq_some_iff.1 GX.out).1;exact this) rfl;obtain⟨a0,a1,a2,a3⟩:=h6.p6.cells4;obtain⟨e0,e1,e2,e3,e4,e5,e6,e7,e8,e9⟩:=h6.p5.cells10;obtain⟨f0,f1,f2,f3,f4,f5,f6⟩:=h6.p3.cells7
  have S0:Hid (Cells wc ([(⟨p,0,none⟩,.slice (some ⟨g1,0,none⟩) 5 c1),(⟨g1,i * 5+1,none⟩,.slice y x.known.length cy)]++(b10L q1 e.node e.born e.num V e.s++b7L q2 U s2))):=hd_ ⟨a0,gk,e0,e1,e2,e3,e4,e5,e6,e7,e8,e9,f0,f1,f2,f3,f4,f5,f6,trivial⟩;clear a0 a1 a2 a3 e0 e1 e2 e3 e4 e5 e6 e7 e8 e9 f0 f1 f2 f3 f4 f5 f6 gk hM;have h7:=((h6.p4.entry (i:Int) (b:Int) (e.num+1)).p1).drew
  have S1:=hd_ (S0.out.below (Below.drew (Below.refl _ _)));have wr1:IntKind.i64.wrap (e.num+1)=e.num+1:=IntWalk.i64_in _ (by have:=EN.out;omega);obtain⟨W5,hW5⟩:=nm_ wc.drew;rw[<-hW5]at h7 S1;have EW:=hd_ hW5;have KP:=hd_ (spPut_at (V:=U) (e:=⟨(i:Int),(b:Int),e.num+1,s2⟩) h7 (by have:=KB.out;omega));clear h7 h6 hW5 hcut;go_wp2
  refine wp_region_plan 25 (.tk 0 22 (.alt 22 (.tk 23 2 (.alt 25 .done .nomore)) .nomore)) (fun w'=>Cells w' ([(⟨p,0,none⟩,.slice (some ⟨g1,0,none⟩) 5 c1),(⟨g1,i * 5+1,none⟩,.slice y x.known.length cy)]++(b10L q1 e.node e.born e.num V e.s++b7L q2 U s2))) (by kernel_rfl) (by kernel_rfl) (fun _ _ _ _ _ h=>h) (S0.out.below (Below.drew (Below.refl _ _))) ?_;rw[<-EW.out]
  repeat (first|refine tC_ ?_|refine tB_ ?_)
  refine plan_last (by rfl) (fun K' hK=>?_);go_simp;refine KP.out.mono ?_;rintro r w6 ⟨y6,c6,rfl,h8⟩;obtain⟨gk,gf,h9⟩:=M.shutKnown h8 GX.out;have S8:Hid (Cells w6 ([(⟨p,0,none⟩,.slice (some ⟨g1,0,none⟩) 5 c1),(⟨g1,i * 5+1,none⟩,.slice y x.known.length cy)]++(b10L q1 e.node e.born e.num V e.s++b7L q2 U s2))):=hd_ (by
      obtain⟨a0,a1,a2,a3⟩:=h8.p5.cells4
      obtain⟨e0,e1,e2,e3,e4,e5,e6,e7,e8,e9⟩:=h8.p4.cells10
      obtain⟨f0,f1,f2,f3,f4,f5,f6⟩:=h8.p3.cells7
      exact⟨a0,gk,e0,e1,e2,e3,e4,e5,e6,e7,e8,e9,f0,f1,f2,f3,f4,f5,f6,trivial⟩)
  refine hK _ _ (.inr S8.out) ?_;clear hK K'
  try refine tP_ ?_
  repeat (first|refine tC_ ?_|refine tB_ ?_)
  have H9:=hd_ h9;clear h9 h8 S8 S1 S0 KP EW;refine plan_last (by rfl) (fun K hK=>?_);go_simp;refine hK _ _ (.inl rfl) ?_;clear hK K
  try refine tP_ ?_
  refine plan_done ?_;obtain⟨w7,hw7⟩:=nm_ (w6.setCell ⟨g1,i * 5+1,none⟩ (.slice y6 (putE x.known ⟨(i:Int),(b:Int),e.num+1,s2⟩).length c6));rw[<-hw7]at H9 ⊢;clear hw7 gk gf;go_wp2;go_ret;rw[CF.out];exact⟨rfl,(H9.out.p2.drop.p2.drop.p2.p4.p4.p3.p3).unlive⟩
end
variable {w:World} {v:Value} {k:Int} {fp:List Nat}
theorem sum_reads {V:SV} {s:Sm} {f:List Nat} (h:sumR w (cS V s) s f):∃f1 f2 f3 f4,rowsR w [.slice V.xr V.nr V.cr] s.rs f1/\intsR w [.slice V.xf V.nf V.cf] s.zs f2/\pairsR w [.slice V.xt V.nt V.ct] s.ps f3/\knotsR w [.slice V.xk V.nk V.ck] s.ks f4:=by
 obtain⟨U,f1,f2,f3,f4,e,rfl,h1,h2,h3,h4⟩:=h;obtain⟨a1,a2,a3,a4⟩:SV.r U=SV.r V/\SV.f U=SV.f V/\SV.t U=SV.t V/\SV.k U=SV.k V:=by
  simp only[List.cons.injEq,Value.slice.injEq,and_true,true_and]at e;obtain⟨⟨a1,a2,a3⟩,⟨b1,b2,b3⟩,⟨c1,c2,c3⟩,d1,d2,d3⟩:=e;simp only[SV.r,SV.f,SV.t,SV.k,a1,a2,a3,b1,b2,b3,c1,c2,c3,d1,d2,d3,and_self]
 rw[a1]at h1;rw[a2]at h2;rw[a3]at h3;rw[a4]at h4;exact⟨f1,f2,f3,f4,h1,h2,h3,h4⟩
variable {w:World} {v:Value} {k:Int} {fp:List Nat}
theorem spWordOk_at (w:World) {x1 x4 xk:Option Addr} {k1 c1 k4 c4 k ck:Nat} {v2 v3:Value} {n:Nt} {x:Wd} {f:List Nat} (hn:NetRd w (.slice x1 k1 c1) v2 v3 (.slice x4 k4 c4) n) (hs:Shape n) (hk:knownR TY w [.slice xk k ck] x.known f):
  Calls Tryz.prog 88 #[.agg #[.slice x1 k1 c1,v2,v3,.slice x4 k4 c4],.agg #[iv x.kind,iv x.src,iv x.dst,iv x.beacon,iv x.level,.slice xk k ck]] w fun r w'=>r=.returned (.bool (wordB n x))/\Below w.heap.size w w':=by
 obtain⟨kind,src,dst,beacon,level,es⟩:=x;simp only at hk ⊢;obtain rfl:k=es.length:=(slcR_row hk).1;obtain⟨_,_,e1,q1,q2⟩:=slcR_value hk;have hm:es.length<=maxLen:=Nat.le_trans q1 q2;unfold maxLen at hm;clear e1 q1 q2;obtain⟨f1,n1⟩:=hn.nodes;obtain rfl:k1=5:=(slcR_row n1).1.trans hs.nodes;obtain⟨r0,hr0⟩:∃nd,n.nodes[0]? =some nd:=⟨_,List.getElem?_eq_getElem (by rw[hs.nodes];decide)⟩
 have e0:nodeAt n 0=r0:=by unfold nodeAt;rw[List.getD_eq_getElem?_getD,show (0:Int).toNat=0 from rfl,hr0];rfl
 have WB:Hid (wordB n ⟨kind,src,dst,beacon,level,es⟩=if kind=1 then (in6 src 0 4&&(in6 dst 0 4&&decide (src≠dst)))&&(in6 beacon 0 r0.beacon&&(in6 level 0 4&&decide (es.length=0)))else if kind=2 then (in6 src 0 4&&(in6 dst 0 4&&decide (src≠dst)))&&(decide (beacon=0)&&(decide (level=0)&&knownB n es))else false):=hd_ (by unfold wordB endsB;rw[e0])
 have H0:=((M.start w).alloc #[.slice x1 5 c1,v2,v3,.slice x4 k4 c4] 30).alloc #[iv kind,iv src,iv dst,iv beacon,iv level,.slice xk es.length ck] 123;simp only[World.size_alloc]at H0;have hWB:=H0.below;obtain⟨g1,xk0,ck0,fk0,rfl,_,_,_,_,_,z0,z1,z2,z3,z4⟩:=node_at ((slcR_frame nodeR_frame _ _).below n1 hWB lr_) hr0;simp only[Nat.zero_mul,Nat.zero_add]at z2;clear z0 z1 z3 z4 hr0 e0 n1
 obtain⟨W,hW⟩:=nm_ ((w.alloc (.cells #[.slice (some ⟨g1,0,none⟩) 5 c1,v2,v3,.slice x4 k4 c4] 30)).alloc (.cells #[iv kind,iv src,iv dst,iv beacon,iv level,.slice xk es.length ck] 123));rw[<-hW]at H0 hWB z2;obtain⟨p1,hp1⟩:=nm_ w.heap.size;obtain⟨p2,hp2⟩:=nm_ (w.heap.size+1);rw[<-hp2, <-hp1]at H0;have HP:=hd_ hp1;have H:=hd_ H0
 have KN:=hd_ (spKnown_at W (hn.below hWB lr_) hs ((slcR_frame entryR_frame _ _).below hk hWB lr_));obtain⟨a0,a1,a2,a3,a4,a5⟩:=H0.cells6;obtain⟨d0,d1,d2,d3⟩:=H0.p1.cells4;have C0:Hid (Cells W.drew (b4L p1 (.slice (some ⟨g1,0,none⟩) 5 c1) v2 v3 (.slice x4 k4 c4)++(b6L p2 (iv kind) (iv src) (iv dst) (iv beacon) (iv level) (.slice xk es.length ck)++[(⟨g1,2,none⟩,.int .i64 r0.beacon)]))):=hd_ (by
    refine Cells.below (W:=W) ?_ (Below.drew (Below.refl _ _))
    exact⟨d0,d1,d2,d3,a0,a1,a2,a3,a4,a5,z2,trivial⟩)
 clear hn hs hk H0 hWB z2;obtain⟨s1,hs1⟩:=nm_ (in6 src 0 4);obtain⟨s2,hs2⟩:=nm_ (in6 dst 0 4);obtain⟨s3,hs3⟩:=nm_ (decide (src≠dst));obtain⟨s4,hs4⟩:=nm_ (in6 beacon 0 r0.beacon);obtain⟨s5,hs5⟩:=nm_ (in6 level 0 4);obtain⟨s6,hs6⟩:=nm_ (knownB n es);rw[<-hs1, <-hs2, <-hs3, <-hs4, <-hs5, <-hs6]at WB;rw[<-hs6]at KN;have K1:=hd_ (in6_is hs1);have K2:=hd_ (in6_is hs2);have K4:=hd_ (in6_is hs4)
 have K5:=hd_ (in6_is hs5);have g3:(src != dst)=s3:=by rw[hs3];by_cases q:src=dst<;>simp[q]
 clear hs1 hs2 hs3 hs4 hs5 hs6;have HB0:=hd_ (show Below w.heap.size w W.drew from by have:=H.out.drew.below;rwa[HP.out]at this);have HB1:=hd_ (show Below w.heap.size w W from by have:=H.out.below;rwa[HP.out]at this);obtain⟨e,he⟩:∃e:Bool,e=(s1&&(s2&&s3)):=⟨_,rfl⟩
 have WB2:Hid (wordB n ⟨kind,src,dst,beacon,level,es⟩=if kind=1 then e&&(s4&&(s5&&decide (es.length=0)))else if kind=2 then e&&(decide (beacon=0)&&(decide (level=0)&&s6))else false):=hd_ (by rw[WB.out,he]);have HE:=hd_ he;clear he WB;obtain⟨z1,hz1⟩:=nm_ (decide (es.length=0));obtain⟨z2,hz2⟩:=nm_ (beacon==0);obtain⟨z3,hz3⟩:=nm_ (level==0)
 have gz1:((es.length:Int)==0)=z1:=by rw[hz1];by_cases q:es.length=0<;>simp[q]
 have gz2:=hz2.symm;have gz3:=hz3.symm;rw[<-hz1,show decide (beacon=0)=z2 from hz2.symm,show decide (level=0)=z3 from hz3.symm]at WB2;clear hz1 hz2 hz3;rcases Decidable.em (kind=1)with rfl|k1
 ·rw[if_pos rfl]at WB2
  go_enter Tryz.func88,Tryz.ntmps88;have R:∀(P:Prop),(s1=false->e=false->P)->(s1=true->s2=false->e=false->P)->(s1=true->s2=true->s3=false->e=false->P)->(s1=true->s2=true->s3=true->e=true->s4=false->P)->(s1=true->s2=true->s3=true->e=true->s4=true->s5=false->P)->(s1=true->s2=true->s3=true->e=true->s4=true->s5=true->P)->P:=fun P h1 h2 h3 h4 h5 h6=>by
   have he:=HE.out;refine steps5 (a:=s1) (b:=s2) (c:=s3) (d:=s4) (e:=s5) (fun a=>h1 a (by rw[he,a];rfl)) (fun a b=>h2 a b (by rw[he,a,b];rfl)) (fun a b c=>h3 a b c (by rw[he,a,b,c];rfl)) (fun a b c d=>h4 a b c (by rw[he,a,b,c];rfl) d) (fun a b c d f=>h5 a b c (by rw[he,a,b,c];rfl) d f) (fun a b c d f=>h6 a b c (by rw[he,a,b,c];rfl) d f)
  clear HE;refine R _ ?_ ?_ ?_ ?_ ?_ ?_<;>clear R
  all_goals
   first
    |(intro e1 e2 e3 e4 e5 e6;subst e1 e2 e3 e4 e5 e6)
    |(intro e1 e2 e3 e4 e5;subst e1 e2 e3 e4 e5)
    |(intro e1 e2 e3 e4;subst e1 e2 e3 e4)
    |(intro e1 e2 e3;subst e1 e2 e3)
    |(intro e1 e2;subst e1 e2)
   go_wp2_with (first|((with_reducible refine (K1.out _).mono ?_);rintro e' w' ⟨rfl,hw'⟩;rw[hw'];clear hw' w')|((with_reducible refine (K2.out _).mono ?_);rintro e' w' ⟨rfl,hw'⟩;rw[hw'];clear hw' w'))
   rw[<-hp2, <-hp1, <-hW];clear hp2 hp1 hW
   refine wp_region_plan 99 (.tk 0 9 (.alt 9 (.tk 10 4 (.alt 14 (.tk 15 7 (.alt 22 .done .nomore)) .nomore)) .nomore)) (fun w'=>Cells w' (b4L p1 (.slice (some ⟨g1,0,none⟩) 5 c1) v2 v3 (.slice x4 k4 c4)++(b6L p2 (iv 1) (iv src) (iv dst) (iv beacon) (iv level) (.slice xk es.length ck)++[(⟨g1,2,none⟩,.int .i64 r0.beacon)]))) (by kernel_rfl) (by kernel_rfl) (fun _ _ _ _ _ h=>h) C0.out ?_
   repeat (first|refine tC_ ?_|refine tB_ ?_)
   refine plan_last (by rfl) (fun K' hK=>?_);go_simp
   first
    |(refine (K4.out _).mono ?_;rintro e' w' ⟨rfl,hw'⟩;rw[hw'];clear hw' w';refine hK _ _ (.inr C0.out) ?_)
    |refine hK _ _ (.inr C0.out) ?_
   clear hK K'
   repeat (first|refine tC_ ?_|refine tB_ ?_)
   refine plan_last (by rfl) (fun K' hK=>?_);go_simp
   first
    |(refine (K5.out _).mono ?_;rintro e' w' ⟨rfl,hw'⟩;rw[hw'];clear hw' w';refine hK _ _ (.inr C0.out) ?_)
    |refine hK _ _ (.inr C0.out) ?_
   clear hK K'
   repeat (first|refine tC_ ?_|refine tB_ ?_)
   refine plan_last (by rfl) (fun K' hK=>?_);go_simp;refine hK _ _ (.inr C0.out) ?_;clear hK K';refine plan_done ?_;go_wp2;go_ret;exact⟨by rw[WB2.out];rfl,HB0.out⟩
 rcases Decidable.em (kind=2)with rfl|k2
 ·rw[if_neg (by decide),if_pos rfl]at WB2
  go_enter Tryz.func88,Tryz.ntmps88;have R:∀(P:Prop),(s1=false->e=false->P)->(s1=true->s2=false->e=false->P)->(s1=true->s2=true->s3=false->e=false->P)->(s1=true->s2=true->s3=true->e=true->z2=false->P)->(s1=true->s2=true->s3=true->e=true->z2=true->z3=false->P)->(s1=true->s2=true->s3=true->e=true->z2=true->z3=true->P)->P:=fun P h1 h2 h3 h4 h5 h6=>by
   have he:=HE.out;refine steps5 (a:=s1) (b:=s2) (c:=s3) (d:=z2) (e:=z3) (fun a=>h1 a (by rw[he,a];rfl)) (fun a b=>h2 a b (by rw[he,a,b];rfl)) (fun a b c=>h3 a b c (by rw[he,a,b,c];rfl)) (fun a b c d=>h4 a b c (by rw[he,a,b,c];rfl) d) (fun a b c d f=>h5 a b c (by rw[he,a,b,c];rfl) d f) (fun a b c d f=>h6 a b c (by rw[he,a,b,c];rfl) d f)
  clear HE;refine R _ ?_ ?_ ?_ ?_ ?_ ?last<;>clear R
  case last=>
   intro e1 e2 e3 e4 e5 e6;subst e1 e2 e3 e4 e5 e6
   go_wp2_with (first|((with_reducible refine (K1.out _).mono ?_);rintro e' w' ⟨rfl,hw'⟩;rw[hw'];clear hw' w')|((with_reducible refine (K2.out _).mono ?_);rintro e' w' ⟨rfl,hw'⟩;rw[hw'];clear hw' w'))
   rw[<-hp2, <-hp1, <-hW];clear hp2 hp1 hW;refine KN.out.mono ?_;rintro e' w' ⟨rfl,hb⟩;have F:=hd_ (HB1.out.trans (hb.mono HB1.out.size));clear hb KN;go_wp2;go_ret;exact⟨by rw[WB2.out];simp,F.out⟩
  all_goals
   first
    |(intro e1 e2 e3 e4 e5 e6;subst e1 e2 e3 e4 e5 e6)
    |(intro e1 e2 e3 e4 e5;subst e1 e2 e3 e4 e5)
    |(intro e1 e2 e3 e4;subst e1 e2 e3 e4)
    |(intro e1 e2 e3;subst e1 e2 e3)
    |(intro e1 e2;subst e1 e2)
   go_wp2_with (first|((with_reducible refine (K1.out _).mono ?_);rintro e' w' ⟨rfl,hw'⟩;rw[hw'];clear hw' w')|((with_reducible refine (K2.out _).mono ?_);rintro e' w' ⟨rfl,hw'⟩;rw[hw'];clear hw' w'))
   go_ret;rw[<-hW];exact⟨by rw[WB2.out];rfl,HB1.out⟩
 ·rw[if_neg k1,if_neg k2]at WB2
  have g1':(kind==1)=false:=by simpa using k1
  have g2':(kind==2)=false:=by simpa using k2
  clear HE k1 k2;go_enter Tryz.func88,Tryz.ntmps88;refine steps2 (a:=s1) (b:=s2) ?_ ?_ ?_
  all_goals
   first
    |(intro e1 e2;subst e1 e2)
    |(intro e1;subst e1)
   go_wp2_with (first|((with_reducible refine (K1.out _).mono ?_);rintro e' w' ⟨rfl,hw'⟩;rw[hw'];clear hw' w')|((with_reducible refine (K2.out _).mono ?_);rintro e' w' ⟨rfl,hw'⟩;rw[hw'];clear hw' w'))
   go_ret;rw[<-hW];exact⟨by rw[WB2.out];rfl,HB1.out⟩
theorem seat_bad {n:Nt} {a:Nat} (h5:a<5) (h:seatB n a=false):okNB n=false:=by
 unfold okNB;rw[all_bad (i:=a) (a:=a) (p:=fun a:Nat=>seatB n a) (by rw[List.getElem?_range h5]) h];simp
theorem node_bad {n:Nt} {a:Nat} (h5:a<5) (h:nodeB n a=false):okNB n=false:=by
 unfold okNB;rw[all_bad (i:=a) (a:=a) (p:=fun a:Nat=>nodeB n a) (by rw[List.getElem?_range h5]) h];simp
theorem word_bad {n:Nt} {i:Nat} {x:Wd} (hi:n.words[i]? =some x) (h:wordB n x=false):okNB n=false:=by
 unfold okNB;rw[all_bad hi h];simp
theorem size_bad {n:Nt} (h:sizeB n=false):okNB n=false:=by unfold okNB;rw[h];rfl
theorem ok_all' {n:Nt} (h1:sizeB n=true) (h2:∀a:Nat,a<5->seatB n a=true) (h3:∀a:Nat,a<5->nodeB n a=true) (h4:∀(i:Nat) (x:Wd),n.words[i]? =some x->wordB n x=true):okNB n=in6 (nodeAt n 0).beacon 0 1000:=by
 unfold okNB;rw[h1,List.all_eq_true.2 (fun a ha=>h2 a (List.mem_range.1 ha)),List.all_eq_true.2 (fun a ha=>h3 a (List.mem_range.1 ha)),all_idx.2 h4]
 rfl
theorem shape_of {n:Nt} (h1:n.nodes.length=5) (h2:n.past.length=5) (h:∀a:Nat,a<5->seatB n a=true):Shape n:=by
 refine⟨h1,h2,fun i hi=>?_⟩;have:=h i hi;unfold seatB pastB at this;simp only[Bool.and_eq_true,decide_eq_true_eq]at this;exact this.2.1.1
theorem whole_at' {n:Nt} {a b:Nat} {u:Bool} (h:n.links[a * 5+b]? =some u):whole n (a:Int) (b:Int)=u:=by
 unfold whole;rw[List.getD_eq_getElem?_getD,show ((a:Int) * 5+(b:Int)).toNat=a * 5+b by omega,h];rfl
theorem spNetOk_at (w:World) {x1 x2 x3 x4:Option Addr} {k1 c1 k2 c2 k3 c3 k4 c4:Nat} {n:Nt} (hn:NetRd w (.slice x1 k1 c1) (.slice x2 k2 c2) (.slice x3 k3 c3) (.slice x4 k4 c4) n):
  Calls Tryz.prog 25 #[.agg #[.slice x1 k1 c1,.slice x2 k2 c2,.slice x3 k3 c3,.slice x4 k4 c4]] w fun r w'=>r=.returned (.bool (okNB n))/\Below w.heap.size w w':=by
 obtain⟨f1,n1⟩:=hn.nodes;obtain⟨f2,n2⟩:=hn.links;obtain⟨f3,n3⟩:=hn.words;obtain⟨f4,n4⟩:=hn.past;have e1:k1=n.nodes.length:=(slcR_row n1).1;have e2:k2=n.links.length:=(slcR_row n2).1;have e3:k3=n.words.length:=(slcR_row n3).1;have e4:k4=n.past.length:=(slcR_row n4).1;have m3:k3<=maxLen:=by obtain⟨_,_,q,q1,q2⟩:=slcR_value n3;rw[e3];exact Nat.le_trans q1 q2
 unfold maxLen at m3;have h0:=(M.start w).alloc #[.slice x1 k1 c1,.slice x2 k2 c2,.slice x3 k3 c3,.slice x4 k4 c4] 30;obtain⟨w1,hw1⟩:=nm_ (w.alloc (.cells #[.slice x1 k1 c1,.slice x2 k2 c2,.slice x3 k3 c3,.slice x4 k4 c4] 30));obtain⟨p1,hp1⟩:=nm_ w.heap.size;have HP:=hd_ hp1;rw[<-hw1, <-hp1]at h0;have H:=hd_ h0;obtain⟨a0,a1,a2,a3⟩:=h0.cells4;have HN:=hd_ hn;have N1:=hd_ n1;have N2:=hd_ n2
 have N3:=hd_ n3;have N4:=hd_ n4;have SB:Hid (sizeB n=(decide (k1=5)&&(decide (k4=5)&&(decide (k2=25)&&decide (k3<=24))))):=hd_ (by rw[e1,e2,e3,e4];rfl);have E1:=hd_ e1;have E2:=hd_ e2;have E3:=hd_ e3;have E4:=hd_ e4;clear hn n1 n2 n3 n4 e1 e2 e3 e4 h0;obtain⟨q1,hq1⟩:=nm_ (decide (k1=5));obtain⟨q4,hq4⟩:=nm_ (decide (k4=5));obtain⟨q2,hq2⟩:=nm_ (decide (k2=25));obtain⟨q3,hq3⟩:=nm_ (decide (k3<=24))
 rw[<-hq1, <-hq4, <-hq2, <-hq3]at SB;have z1:((k1:Int) != 5)= !q1:=by rw[hq1];by_cases q:k1=5<;>simp[q];omega
 have z4:((k4:Int) != 5)= !q4:=by rw[hq4];by_cases q:k4=5<;>simp[q];omega
 have z2:((k2:Int) != 25)= !q2:=by rw[hq2];by_cases q:k2=25<;>simp[q];omega
 have z3:decide ((24:Int)<(k3:Int))= !q3:=by rw[hq3];by_cases q:k3<=24<;>simp[q]<;>omega
 go_enter Tryz.func25,Tryz.ntmps25;have QS:=hd_ (And.intro (And.intro hq1 hq4) (And.intro hq2 hq3));clear hq1 hq2 hq3 hq4;refine steps4 (a:=q1) (b:=q4) (c:=q2) (d:=q3) ?_ ?_ ?_ ?_ ?last
 case last=>
  intro e1 e2 e3 e4;subst e1 e2 e3 e4;obtain⟨⟨y1,y4⟩,y2,y3⟩:=QS.out;obtain rfl:=of_decide_eq_true y1.symm;obtain rfl:=of_decide_eq_true y4.symm;obtain rfl:=of_decide_eq_true y2.symm;have k24:=of_decide_eq_true y3.symm;clear y1 y2 y3 y4 QS z1 z2 z4 z3;have z3:decide ((24:Int)<(k3:Int))=false:=by simp;omega
  go_wp2;rw[<-hp1, <-hw1];clear hp1 hw1 a0 a1 a2 a3 z3;go_loopw [3] (fun z wr=>∃a:Nat,a<=5/\z=.int .i64 (a:Int)/\(∀b:Nat,b<a->seatB n b=true)/\M p1 w wr [boxC p1 30 #[.slice x1 5 c1,.slice x2 25 c2,.slice x3 k3 c3,.slice x4 5 c4]]) (fun z _=>5 - (intOf z).toNat)
  case atStart=>exact⟨0,Nat.zero_le _,rfl,fun b h=>absurd h (Nat.not_lt_zero _),H.out⟩
  case round=>
   clear H;obtain⟨a,ha5,rfl,hall,hm⟩:=hrel;have ALL:=hd_ hall;have H:=hd_ hm;clear hall hm;have hWB:Below w.heap.size w wr:=by have:=H.out.below;rwa[HP.out]at this
   by_cases hlt:a<5
   ·obtain⟨nd,hnd⟩:∃nd,n.nodes[a]? =some nd:=⟨_,List.getElem?_eq_getElem (by rw[<-E1.out];exact hlt)⟩
    obtain⟨u,hu⟩:∃u,n.links[a * 5+a]? =some u:=⟨_,List.getElem?_eq_getElem (by rw[<-E2.out];omega)⟩
    have eN:nodeAt n (a:Int)=nd:=by unfold nodeAt;rw[List.getD_eq_getElem?_getD,Int.toNat_natCast,hnd];rfl
    have eW:=whole_at' hu;obtain⟨g1,xk,ck,fk,rfl,_,_,_,_,_,b0,_⟩:=node_at N1.out hnd;obtain⟨g2,rfl,_,l0⟩:=link_at N2.out hu;replace b0:=cell_later hWB b0;replace l0:=cell_later hWB l0;obtain⟨q,hq⟩:=nm_ (a * 5+a);rw[<-hq]at l0;obtain⟨W,hW⟩:=nm_ wr.drew;have h2:=H.out.drew;rw[<-hW]at h2;have EW:=hd_ hW;have H2:=hd_ h2;have hWB2:Below w.heap.size w W:=by have:=h2.below;rwa[HP.out]at this
    have C0:Hid (Cells W (b4L p1 (.slice (some ⟨g1,0,none⟩) 5 c1) (.slice (some ⟨g2,0,none⟩) 25 c2) (.slice x3 k3 c3) (.slice x4 5 c4)++[(⟨g1,a * 5,none⟩,.int .i64 nd.born),(⟨g2,q,none⟩,.bool u)])):=hd_ (by
          obtain⟨a0,a1,a2,a3⟩:=h2.cells4
          rw[hW]
          exact⟨by rw[<-hW];exact a0,by rw[<-hW];exact a1,by rw[<-hW];exact a2,by rw[<-hW];exact a3,b0,l0,trivial⟩)
    obtain⟨s1,hs1⟩:=nm_ (in6 nd.born 1 20);obtain⟨s2,hs2⟩:=nm_ (pastB n (a:Int));have SE:Hid (seatB n (a:Int)=(s1&&(s2&&((u==false)&&(List.range a).all fun b=>whole n (a:Int) (b:Int)==whole n (b:Int) (a:Int))))):=hd_ (by unfold seatB;rw[eN,eW,hs1,hs2,Int.toNat_natCast]);have K1:=hd_ (in6_is hs1)
    have K2:=hd_ (fun (q:s1=true)=>show Calls Tryz.prog 86 #[.agg #[.slice (some ⟨g1,0,none⟩) 5 c1,.slice (some ⟨g2,0,none⟩) 25 c2,.slice x3 k3 c3,.slice x4 5 c4],iv (a:Int)] W fun r w'=>r=.returned (.bool s2)/\Below W.heap.size W w' by
          have:=in6_iff.1 (hs1.symm.trans q)
          rw[hs2]
          exact spPastOk_at W (HN.out.below hWB2 lr_) E1.out.symm E4.out.symm hlt (by rw[eN];exact this))
    have K3:=hd_ (fun W=>spLinkN_at W (a:=(a:Int)) (b:=(a:Int)) o_ (q:=q) o_);have k0:(0:Int)<=(a:Int):=o_;have k1':(a:Int)<5:=o_;have kl0:(0:Int)<=(q:Int):=o_;have kl1:(q:Int)<25:=o_;clear hnd hu eN eW hWB b0 l0 hW hWB2 hs1 hs2 h2 hq;refine steps3 (a:=s1) (b:=s2) (c:= !u) ?l1 ?l2 ?l3 ?ok
    case ok=>
     intro e1 e2 e3;subst e1 e2;obtain rfl:u=false:=by simpa using e3
     have K2a:=hd_ (K2.out rfl);clear e3 K2;go_wp2
     refine wp_region_plan 99 (.tk 0 6 (.alt 6 (.tk 7 4 (.alt 11 (.tk 12 7 (.alt 19 (.tk 20 3 .done) .nomore)) .nomore)) .nomore)) (fun w'=>Cells w' (b4L p1 (.slice (some ⟨g1,0,none⟩) 5 c1) (.slice (some ⟨g2,0,none⟩) 25 c2) (.slice x3 k3 c3) (.slice x4 5 c4)++[(⟨g1,a * 5,none⟩,.int .i64 nd.born),(⟨g2,q,none⟩,.bool false)])) (by kernel_rfl) (by kernel_rfl) (fun _ _ _ _ _ h=>h) (by rw[<-EW.out];exact C0.out) ?_
     rw[<-EW.out]
     repeat (first|refine tC_ ?_|refine tB_ ?_)
     refine plan_last (by rfl) (fun K' hK=>?_);go_simp;refine (K1.out W).mono ?_;rintro e' w' ⟨rfl,hw'⟩;rw[hw'];clear hw' w';refine hK _ _ (.inr C0.out) ?_;clear hK K'
     try refine tP_ ?_
     repeat (first|refine tC_ ?_|refine tB_ ?_)
     refine plan_last (by rfl) (fun K' hK=>?_);go_simp;refine K2a.out.mono ?_;rintro e' w3 ⟨rfl,hb⟩;have C1:=hd_ (C0.out.below hb);have H3:=hd_ (H2.out.later hb);clear hb K2a;refine hK _ _ (.inr C1.out) ?_;clear hK K'
     try refine tP_ ?_
     repeat (first|refine tC_ ?_|refine tB_ ?_)
     refine plan_last (by rfl) (fun K' hK=>?_);go_simp;refine (K3.out w3).mono ?_;rintro e' w' ⟨rfl,hw'⟩;rw[<-hw'];clear hw' w';refine hK _ _ (.inr C1.out) ?_;clear hK K'
     try refine tP_ ?_
     repeat (first|refine tC_ ?_|refine tB_ ?_)
     refine plan_done ?_;go_wp2;clear C0 C1 H H2 EW K1 K3;go_loopw [4] (fun z wr=>∃b:Nat,b<=a/\z=.int .i64 (b:Int)/\(∀c:Nat,c<b->whole n (a:Int) (c:Int)=whole n (c:Int) (a:Int))/\M p1 w wr [boxC p1 30 #[.slice (some ⟨g1,0,none⟩) 5 c1,.slice (some ⟨g2,0,none⟩) 25 c2,.slice x3 k3 c3,.slice x4 5 c4]]) (fun z _=>a - (intOf z).toNat)
     case atStart=>exact⟨0,Nat.zero_le _,rfl,fun b h=>absurd h (Nat.not_lt_zero _),H3.out⟩
     case round=>
      clear H3;obtain⟨b,hba,rfl,hsym,hm⟩:=hrel;have SY:=hd_ hsym;have H:=hd_ hm;clear hsym hm;have hWB:Below w.heap.size w wr:=by have:=H.out.below;rwa[HP.out]at this
      by_cases hblt:b<a
      ·obtain⟨ua,hua⟩:∃u,n.links[a * 5+b]? =some u:=⟨_,List.getElem?_eq_getElem (by rw[<-E2.out];omega)⟩
       obtain⟨ub,hub⟩:∃u,n.links[b * 5+a]? =some u:=⟨_,List.getElem?_eq_getElem (by rw[<-E2.out];omega)⟩
       have eW1:=hd_ (whole_at' hua);have eW2:=hd_ (whole_at' hub);obtain⟨_,eg,_,l1⟩:=link_at N2.out hua;cases eg;obtain⟨_,eg,_,l2⟩:=link_at N2.out hub;cases eg;replace l1:=cell_later hWB l1;replace l2:=cell_later hWB l2;obtain⟨r1,hr1⟩:=nm_ (a * 5+b);obtain⟨r2,hr2⟩:=nm_ (b * 5+a);rw[<-hr1]at l1;rw[<-hr2]at l2;obtain⟨W,hW⟩:=nm_ wr.drew;have h2:=H.out.drew;rw[<-hW]at h2;have EW:=hd_ hW
       have H2:=hd_ h2;have C0:Hid (Cells W (b4L p1 (.slice (some ⟨g1,0,none⟩) 5 c1) (.slice (some ⟨g2,0,none⟩) 25 c2) (.slice x3 k3 c3) (.slice x4 5 c4)++[(⟨g2,r1,none⟩,.bool ua),(⟨g2,r2,none⟩,.bool ub)])):=hd_ (by
                obtain⟨a0,a1,a2,a3⟩:=h2.cells4
                rw[hW]
                exact⟨by rw[<-hW];exact a0,by rw[<-hW];exact a1,by rw[<-hW];exact a2,by rw[<-hW];exact a3,l1,l2,trivial⟩)
       have K3:=hd_ (fun W=>spLinkN_at W (a:=(a:Int)) (b:=(b:Int)) o_ (q:=r1) o_);have K4:=hd_ (fun W=>spLinkN_at W (a:=(b:Int)) (b:=(a:Int)) o_ (q:=r2) o_);have kb0:(0:Int)<=(r1:Int):=o_;have kb1:(r1:Int)<25:=o_;have kc0:(0:Int)<=(r2:Int):=o_;have kc1:(r2:Int)<25:=o_;have ib:(b:Int)<(a:Int):=o_;clear hua hub hWB l1 l2 hW h2 hr1 hr2;go_wp2
       refine wp_region_plan 99 (.tk 0 4 (.tk 7 4 (.alt 4 (.tk 5 2 (.alt 11 (.tk 12 3 .done) .nomore)) .nomore))) (fun w'=>Cells w' (b4L p1 (.slice (some ⟨g1,0,none⟩) 5 c1) (.slice (some ⟨g2,0,none⟩) 25 c2) (.slice x3 k3 c3) (.slice x4 5 c4)++[(⟨g2,r1,none⟩,.bool ua),(⟨g2,r2,none⟩,.bool ub)])) (by kernel_rfl) (by kernel_rfl) (fun _ _ _ _ _ h=>h) (by rw[<-EW.out];exact C0.out) ?_;rw[<-EW.out]
       repeat (first|refine tC_ ?_|refine tB_ ?_)
       refine plan_last (by rfl) (fun K' hK=>?_);go_simp;refine (K3.out W).mono ?_;rintro e' w' ⟨rfl,hw'⟩;rw[<-hw'];clear hw' w';refine hK _ _ (.inr C0.out) ?_;clear hK K'
       try refine tP_ ?_
       repeat (first|refine tC_ ?_|refine tB_ ?_)
       refine plan_last (by rfl) (fun K' hK=>?_);go_simp;refine (K4.out W).mono ?_;rintro e' w' ⟨rfl,hw'⟩;rw[<-hw'];clear hw' w';refine hK _ _ (.inr C0.out) ?_;clear hK K'
       try refine tP_ ?_
       repeat (first|refine tC_ ?_|refine tB_ ?_)
       refine plan_done ?_;clear K3 K4 EW H;have SY2:Hid (ua=ub->∀c:Nat,c<b+1->whole n (a:Int) (c:Int)=whole n (c:Int) (a:Int)):=hd_ fun hq c hc=>by
        by_cases q:c<b
        ·exact SY.out c q
        ·obtain rfl:c=b:=o_
         rw[eW1.out,eW2.out,hq]
       have F:Hid (ua≠ub->okNB n=false):=hd_ fun hq=>seat_bad hlt (by
                rw[SE.out]
                simp only[Bool.true_and,beq_self_eq_true]
                rw[all_bad (i:=b) (a:=b) (p:=fun b:Nat=>whole n (a:Int) (b:Int)==whole n (b:Int) (a:Int)) (by rw[List.getElem?_range hblt]) (by rw[eW1.out,eW2.out];simpa using hq)])
       clear C0 eW1 eW2 SY;rcases ua with _|_<;>rcases ub with _|_
       case false.false=>
        have SY3:=hd_ (SY2.out rfl);clear F SY2;go_wp2;go_roundw
        case rel=>exact⟨b+1,o_,by go_num,SY3.out,H2.out⟩
        case measure=>simp[intOf];omega
       case true.true=>
        have SY3:=hd_ (SY2.out rfl);clear F SY2;go_wp2;go_roundw
        case rel=>exact⟨b+1,o_,by go_num,SY3.out,H2.out⟩
        case measure=>simp[intOf];omega
       all_goals
        have F:=hd_ (F.out (by simp));clear SY2;go_wp2;go_ret;exact⟨by rw[F.out];rfl,by rw[<-HP.out];exact H2.out.below⟩
      ·obtain rfl:a=b:=o_
       have ALL2:Hid (∀c:Nat,c<a+1->seatB n c=true):=hd_ fun c hc=>by
        by_cases q:c<a
        ·exact ALL.out c q
        ·obtain rfl:c=a:=o_
         rw[SE.out,List.all_eq_true.2 fun d hd=>by rw[SY.out d (List.mem_range.1 hd)];simp]
         rfl
       go_wp2;go_roundw
       case rel=>exact⟨a+1,o_,by go_num,ALL2.out,H.out⟩
       case measure=>simp[intOf];omega
    case l1=>
     intro e1;subst e1;clear K2;have F:=hd_ (seat_bad hlt (by rw[SE.out];rfl));go_wp2
     refine wp_region_plan 99 (.tk 0 6 (.alt 6 (.tk 7 4 (.alt 11 (.tk 12 7 (.alt 19 (.tk 20 3 .done) .nomore)) .nomore)) .nomore)) (fun w'=>Cells w' (b4L p1 (.slice (some ⟨g1,0,none⟩) 5 c1) (.slice (some ⟨g2,0,none⟩) 25 c2) (.slice x3 k3 c3) (.slice x4 5 c4)++[(⟨g1,a * 5,none⟩,.int .i64 nd.born),(⟨g2,q,none⟩,.bool u)])) (by kernel_rfl) (by kernel_rfl) (fun _ _ _ _ _ h=>h) (by rw[<-EW.out];exact C0.out) ?_
     rw[<-EW.out]
     repeat (first|refine tC_ ?_|refine tB_ ?_)
     refine plan_last (by rfl) (fun K' hK=>?_);go_simp;refine (K1.out W).mono ?_;rintro e' w' ⟨rfl,hw'⟩;rw[hw'];clear hw' w';refine hK _ _ (.inr C0.out) ?_;clear hK K'
     try refine tP_ ?_
     repeat (first|refine tC_ ?_|refine tB_ ?_)
     refine plan_last (by rfl) (fun K' hK=>?_);go_simp;refine hK _ _ (.inr C0.out) ?_;clear hK K'
     try refine tP_ ?_
     repeat (first|refine tC_ ?_|refine tB_ ?_)
     refine plan_last (by rfl) (fun K' hK=>?_);go_simp;refine hK _ _ (.inr C0.out) ?_;clear hK K'
     try refine tP_ ?_
     repeat (first|refine tC_ ?_|refine tB_ ?_)
     refine plan_done ?_;go_wp2;go_ret;exact⟨by rw[F.out];rfl,by rw[<-HP.out];exact H2.out.below⟩
    case l2=>
     intro e1 e2;subst e1 e2;have K2a:=hd_ (K2.out rfl);clear K2;have F:=hd_ (seat_bad hlt (by rw[SE.out];rfl));go_wp2
     refine wp_region_plan 99 (.tk 0 6 (.alt 6 (.tk 7 4 (.alt 11 (.tk 12 7 (.alt 19 (.tk 20 3 .done) .nomore)) .nomore)) .nomore)) (fun w'=>Cells w' (b4L p1 (.slice (some ⟨g1,0,none⟩) 5 c1) (.slice (some ⟨g2,0,none⟩) 25 c2) (.slice x3 k3 c3) (.slice x4 5 c4)++[(⟨g1,a * 5,none⟩,.int .i64 nd.born),(⟨g2,q,none⟩,.bool u)])) (by kernel_rfl) (by kernel_rfl) (fun _ _ _ _ _ h=>h) (by rw[<-EW.out];exact C0.out) ?_
     rw[<-EW.out]
     repeat (first|refine tC_ ?_|refine tB_ ?_)
     refine plan_last (by rfl) (fun K' hK=>?_);go_simp;refine (K1.out W).mono ?_;rintro e' w' ⟨rfl,hw'⟩;rw[hw'];clear hw' w';refine hK _ _ (.inr C0.out) ?_;clear hK K'
     try refine tP_ ?_
     repeat (first|refine tC_ ?_|refine tB_ ?_)
     refine plan_last (by rfl) (fun K' hK=>?_);go_simp;refine K2a.out.mono ?_;rintro e' w3 ⟨rfl,hb⟩;have C1:=hd_ (C0.out.below hb);have H3:=hd_ (H2.out.later hb);clear hb K2a;refine hK _ _ (.inr C1.out) ?_;clear hK K'
     try refine tP_ ?_
     repeat (first|refine tC_ ?_|refine tB_ ?_)
     refine plan_last (by rfl) (fun K' hK=>?_);go_simp;refine hK _ _ (.inr C1.out) ?_;clear hK K'
     try refine tP_ ?_
     repeat (first|refine tC_ ?_|refine tB_ ?_)
     refine plan_done ?_;go_wp2;go_ret;exact⟨by rw[F.out];rfl,by rw[<-HP.out];exact H3.out.below⟩
    case l3=>
     intro e1 e2 e3;subst e1 e2;obtain rfl:u=true:=by simpa using e3
     clear e3;have K2a:=hd_ (K2.out rfl);clear K2;have F:=hd_ (seat_bad hlt (by rw[SE.out];rfl));go_wp2
     refine wp_region_plan 99 (.tk 0 6 (.alt 6 (.tk 7 4 (.alt 11 (.tk 12 7 (.alt 19 (.tk 20 3 .done) .nomore)) .nomore)) .nomore)) (fun w'=>Cells w' (b4L p1 (.slice (some ⟨g1,0,none⟩) 5 c1) (.slice (some ⟨g2,0,none⟩) 25 c2) (.slice x3 k3 c3) (.slice x4 5 c4)++[(⟨g1,a * 5,none⟩,.int .i64 nd.born),(⟨g2,q,none⟩,.bool true)])) (by kernel_rfl) (by kernel_rfl) (fun _ _ _ _ _ h=>h) (by rw[<-EW.out];exact C0.out) ?_
     rw[<-EW.out]
     repeat (first|refine tC_ ?_|refine tB_ ?_)
     refine plan_last (by rfl) (fun K' hK=>?_);go_simp;refine (K1.out W).mono ?_;rintro e' w' ⟨rfl,hw'⟩;rw[hw'];clear hw' w';refine hK _ _ (.inr C0.out) ?_;clear hK K'
     try refine tP_ ?_
     repeat (first|refine tC_ ?_|refine tB_ ?_)
     refine plan_last (by rfl) (fun K' hK=>?_);go_simp;refine K2a.out.mono ?_;rintro e' w3 ⟨rfl,hb⟩;have C1:=hd_ (C0.out.below hb);have H3:=hd_ (H2.out.later hb);clear hb K2a;refine hK _ _ (.inr C1.out) ?_;clear hK K'
     try refine tP_ ?_
     repeat (first|refine tC_ ?_|refine tB_ ?_)
     refine plan_last (by rfl) (fun K' hK=>?_);go_simp;refine (K3.out w3).mono ?_;rintro e' w' ⟨rfl,hw'⟩;rw[<-hw'];clear hw' w';refine hK _ _ (.inr C1.out) ?_;clear hK K'
     try refine tP_ ?_
     repeat (first|refine tC_ ?_|refine tB_ ?_)
     refine plan_done ?_;go_wp2;go_ret;exact⟨by rw[F.out];rfl,by rw[<-HP.out];exact H3.out.below⟩
   ·obtain rfl:a=5:=o_
    simp only[Int.cast_ofNat_Int];have SHP:=hd_ (shape_of E1.out.symm E4.out.symm ALL.out);clear hWB;go_wp2;go_loopw [5] (fun z wr=>∃a:Nat,a<=5/\z=.int .i64 (a:Int)/\(∀b:Nat,b<a->nodeB n b=true)/\M p1 w wr [boxC p1 30 #[.slice x1 5 c1,.slice x2 25 c2,.slice x3 k3 c3,.slice x4 5 c4]]) (fun z _=>5 - (intOf z).toNat)
    case atStart=>exact⟨0,Nat.zero_le _,rfl,fun b h=>absurd h (Nat.not_lt_zero _),H.out⟩
    case round=>
     clear H;obtain⟨a,ha5,rfl,hnod,hm⟩:=hrel;have NOD:=hd_ hnod;have H:=hd_ hm;clear hnod hm;have hWB:Below w.heap.size w wr:=by have:=H.out.below;rwa[HP.out]at this
     by_cases hlt:a<5
     ·obtain⟨s1,hs1⟩:=nm_ (nodeB n (a:Int))
      have hborn:1<=(nodeAt n (a:Int)).born:=by
       have:=ALL.out a hlt;unfold seatB at this;simp only[Bool.and_eq_true,in6_iff]at this;exact this.1.1
      have K1:=spNodeOk_at wr (HN.out.below hWB lr_) SHP.out hlt hborn;rw[<-hs1]at K1;have KN:=hd_ K1;have k0:(0:Int)<=(a:Int):=o_;have k1':(a:Int)<5:=o_;obtain⟨a0,a1,a2,a3⟩:=H.out.cells4;have S1:=hd_ hs1;clear hs1 hborn K1 hWB
      go_wp2_with fail
      refine KN.out.mono ?_;rintro e' w3 ⟨rfl,hb⟩;have H3:=hd_ (H.out.later hb);clear hb KN a0 a1 a2 a3 H;cases s1 with
      |false=>
       have F:=hd_ (node_bad hlt S1.out.symm);go_wp2;go_ret;exact⟨by rw[F.out];rfl,by rw[<-HP.out];exact H3.out.below⟩
      |true=>
       have NOD2:Hid (∀c:Nat,c<a+1->nodeB n c=true):=hd_ fun c hc=>by
        by_cases q:c<a
        ·exact NOD.out c q
        ·obtain rfl:c=a:=o_
         exact S1.out.symm
       go_wp2;go_roundw
       case rel=>exact⟨a+1,o_,by go_num,NOD2.out,H3.out⟩
       case measure=>simp[intOf];omega
     ·obtain rfl:a=5:=o_
      simp only[Int.cast_ofNat_Int];clear hWB;go_wp2;go_loopw [6] (fun z wr=>∃i:Nat,i<=k3/\z=.int .i64 (i:Int)/\(∀(b:Nat) (x:Wd),b<i->n.words[b]? =some x->wordB n x=true)/\M p1 w wr [boxC p1 30 #[.slice x1 5 c1,.slice x2 25 c2,.slice x3 k3 c3,.slice x4 5 c4]]) (fun z _=>k3 - (intOf z).toNat)
      case atStart=>exact⟨0,Nat.zero_le _,rfl,fun b x h=>absurd h (Nat.not_lt_zero _),H.out⟩
      case round=>
       clear H;obtain⟨i,hi3,rfl,hwd,hm⟩:=hrel;have WDS:=hd_ hwd;have H:=hd_ hm;clear hwd hm;have hWB:Below w.heap.size w wr:=by have:=H.out.below;rwa[HP.out]at this
       obtain⟨a0,a1,a2,a3⟩:=H.out.cells4
       by_cases hlt:i<k3
       ·obtain⟨x,hx⟩:∃x,n.words[i]? =some x:=⟨_,List.getElem?_eq_getElem (by rw[<-E3.out];exact hlt)⟩
        obtain⟨g3,xk,ck,fk,rfl,_,_,rk,_,_,y0,y1,y2,y3,y4,y5⟩:=wordR_at N3.out hx;replace y0:=cell_later hWB y0;replace y1:=cell_later hWB y1;replace y2:=cell_later hWB y2;replace y3:=cell_later hWB y3;replace y4:=cell_later hWB y4;replace y5:=cell_later hWB y5;obtain⟨W,hW⟩:=nm_ wr.drew;have h2:=H.out.drew;rw[<-hW]at h2;have EW:=hd_ hW;have H2:=hd_ h2
        have hWB2:Below w.heap.size w W:=by have:=h2.below;rwa[HP.out]at this
        have C0:Hid (Cells W (b4L p1 (.slice x1 5 c1) (.slice x2 25 c2) (.slice (some ⟨g3,0,none⟩) k3 c3) (.slice x4 5 c4)++[(⟨g3,i * 6,none⟩,.int .i64 x.kind),(⟨g3,i * 6+1,none⟩,.int .i64 x.src),(⟨g3,i * 6+2,none⟩,.int .i64 x.dst),(⟨g3,i * 6+3,none⟩,.int .i64 x.beacon),(⟨g3,i * 6+4,none⟩,.int .i64 x.level),(⟨g3,i * 6+5,none⟩,.slice xk x.known.length ck)])):=hd_ (by
                  rw[hW]
                  exact⟨a0,a1,a2,a3,y0,y1,y2,y3,y4,y5,trivial⟩)
        obtain⟨s1,hs1⟩:=nm_ (wordB n x);have K1:=spWordOk_at W (x:=x) (HN.out.below hWB2 lr_) SHP.out ((slcR_frame entryR_frame _ _).below rk hWB2 lr_);rw[<-hs1]at K1;have KN:=hd_ K1;have k0:(0:Int)<=(i:Int):=o_;have k1':(i:Int)<(k3:Int):=o_;have S1:=hd_ hs1;have HX:=hd_ hx;clear hs1 K1 hWB hWB2 hx y0 y1 y2 y3 y4 y5 h2 hW rk;go_wp2;clear a0 a1 a2 a3
        refine wp_region_plan 99 (.tk 0 6 (.alt 6 (.take 7 .done) .nomore)) (fun w'=>Cells w' (b4L p1 (.slice x1 5 c1) (.slice x2 25 c2) (.slice (some ⟨g3,0,none⟩) k3 c3) (.slice x4 5 c4)++[(⟨g3,i * 6,none⟩,.int .i64 x.kind),(⟨g3,i * 6+1,none⟩,.int .i64 x.src),(⟨g3,i * 6+2,none⟩,.int .i64 x.dst),(⟨g3,i * 6+3,none⟩,.int .i64 x.beacon),(⟨g3,i * 6+4,none⟩,.int .i64 x.level),(⟨g3,i * 6+5,none⟩,.slice xk x.known.length ck)])) (by kernel_rfl) (by kernel_rfl) (fun _ _ _ _ _ h=>h) (by rw[<-EW.out];exact C0.out) ?_
        rw[<-EW.out]
        repeat (first|refine tC_ ?_|refine tB_ ?_)
        refine plan_last (by rfl) (fun K' hK=>?_);go_simp;refine KN.out.mono ?_;rintro e' w3 ⟨rfl,hb⟩;have C1:=hd_ (C0.out.below hb);have H3:=hd_ (H2.out.later hb);clear hb KN;refine hK _ _ (.inr C1.out) ?_;clear hK K'
        try refine tP_ ?_
        repeat (first|refine tC_ ?_|refine tB_ ?_)
        refine plan_done ?_;clear C0 C1 EW H H2;cases s1 with
        |false=>
         have F:=hd_ (word_bad HX.out S1.out.symm);go_wp2;go_ret;exact⟨by rw[F.out];rfl,by rw[<-HP.out];exact H3.out.below⟩
        |true=>
         have WDS2:Hid (∀(b:Nat) (y:Wd),b<i+1->n.words[b]? =some y->wordB n y=true):=hd_ fun c y hc hy=>by
          by_cases q:c<i
          ·exact WDS.out c y q hy
          ·obtain rfl:c=i:=o_
           rw[HX.out]at hy;cases hy;exact S1.out.symm
         go_wp2;go_roundw
         case rel=>exact⟨i+1,o_,by go_num,WDS2.out,H3.out⟩
         case measure=>simp[intOf];omega
       ·obtain rfl:i=k3:=o_
        have EQ:=hd_ (ok_all' (n:=n) (by rw[SB.out];rfl) ALL.out NOD.out (fun b x hx=>WDS.out b x (by rw[E3.out];exact (List.getElem?_eq_some_iff.1 hx).1) hx));obtain⟨r0,hr0⟩:∃nd,n.nodes[0]? =some nd:=⟨_,List.getElem?_eq_getElem (by rw[<-E1.out];decide)⟩
        have e0:nodeAt n 0=r0:=by unfold nodeAt;rw[List.getD_eq_getElem?_getD,show (0:Int).toNat=0 from rfl,hr0];rfl
        rw[e0]at EQ;obtain⟨g1,xk,ck,fk,rfl,_,_,_,_,_,z0,z1,z2,z3,z4⟩:=node_at N1.out hr0;replace z2:=cell_later hWB z2;simp only[Nat.zero_mul,Nat.zero_add]at z2;obtain⟨s1,hs1⟩:=nm_ (in6 r0.beacon 0 1000);rw[<-hs1]at EQ;have K1:=hd_ (in6_is hs1);clear hs1 hr0 e0 z0 z1 z3 z4 hWB
        go_wp2_with fail
        refine (K1.out wr).mono ?_;rintro e' w' ⟨rfl,hw'⟩;rw[hw'];clear hw' w';go_wp2;go_ret;exact⟨by rw[EQ.out];rfl,by rw[<-HP.out];exact H.out.below⟩
 all_goals
  first
   |(intro e1 e2 e3 e4;subst e1 e2 e3 e4)
   |(intro e1 e2 e3;subst e1 e2 e3)
   |(intro e1 e2;subst e1 e2)
   |(intro e1;subst e1)
  have F:=hd_ (size_bad (n:=n) (by rw[SB.out];simp));go_wp2;go_ret;rw[<-hw1];exact⟨by rw[F.out];rfl,by rw[<-HP.out];exact H.out.below⟩
end N
end Go.Proofs.YtcblbdpdbggkbaaGreat
namespace Go.Proofs.YtcblbdpdbggkbaaGreat.N
open Go.RowKit Go.Sort
theorem hello_words {n:Nt} (h:NetOk n) (hw:n.words=[]) {i:Int} (hi:isNode i):
  (∀w ∈ (helloN n i).1.words,w.kind=1/\w.src=i/\isNode w.dst/\w.dst≠i/\w.beacon=(nodeAt n i).beacon/\w.level=(nodeAt n i).level/\whole n i w.dst=true)/\
  ((nodeAt n i).level<5->∀b,isNode b->b≠i->whole n i b=true->∃w ∈ (helloN n i).1.words,w.dst=b/\w.beacon=(nodeAt n i).beacon/\w.level=(nodeAt n i).level):=by
 unfold helloN;simp only
 split
 ·have key:∀c:Nat,c<=5->∀F,F=(List.range c).foldl (fun (m:Nt × Bool) (k:Nat)=>if (k:Int)=i then m else ((sendN m.1 ⟨1,i,k,(nodeAt n i).beacon,(nodeAt n i).level,[]⟩).1,m.2 || (sendN m.1 ⟨1,i,k,(nodeAt n i).beacon,(nodeAt n i).level,[]⟩).2)) (n,false)->
    F.1.links=n.links/\F.1.words.length<=c/\(∀w ∈ F.1.words,∃k:Nat,k<c/\(k:Int)≠i/\whole n i k=true/\w=⟨1,i,k,(nodeAt n i).beacon,(nodeAt n i).level,[]⟩)/\
    (∀k:Nat,k<c->(k:Int)≠i->whole n i k=true->(⟨1,i,k,(nodeAt n i).beacon,(nodeAt n i).level,[]⟩:Wd) ∈ F.1.words):=by
   intro c
   induction c with
   |zero=>
    rintro _ F rfl;refine⟨rfl,by show n.words.length<=0;rw[hw];exact Nat.le_refl _,fun w hm=>?_,fun k hk=>by omega⟩;have hm:w ∈ n.words:=hm;rw[hw]at hm;cases hm
   |succ c ih=>
    rintro hc F rfl;obtain⟨a1,a2,a3,a4⟩:=ih (by omega) _ rfl;rw[List.range_succ,List.foldl_append];simp only[List.foldl_cons,List.foldl_nil];generalize (List.range c).foldl (fun (m:Nt × Bool) (k:Nat)=>if (k:Int)=i then m else ((sendN m.1 ⟨1,i,k,(nodeAt n i).beacon,(nodeAt n i).level,[]⟩).1,m.2 || (sendN m.1 ⟨1,i,k,(nodeAt n i).beacon,(nodeAt n i).level,[]⟩).2)) (n,false)=F at a1 a2 a3 a4 ⊢
    by_cases q:(c:Int)=i
    ·rw[if_pos q]
     refine⟨a1,by omega,fun w hm=>?_,fun k hk ki kw=>?_⟩
     ·obtain⟨k,k1,k2⟩:=a3 w hm
      exact⟨k,by omega,k2⟩
     ·exact a4 k (by (have:k≠c:=fun e=>ki (by rw[e];exact q));omega) ki kw
    ·rw[if_neg q]
     show (sendN F.1 _).1.links=n.links/\(sendN F.1 _).1.words.length<=c+1/\(∀w ∈ (sendN F.1 _).1.words,_)/\(∀k:Nat,k<c+1->(k:Int)≠i->whole n i k=true->_ ∈ (sendN F.1 _).1.words)
     have ew:whole F.1 i c=whole n i c:=by unfold whole;rw[a1]
     unfold sendN
     by_cases g:whole n i c=true
     ·rw[if_pos ⟨by rw[ew];exact g,by omega⟩]
      refine⟨a1,by rw[List.length_append];simp;omega,fun w hm=>?_,fun k hk ki kw=>?_⟩
      ·rcases List.mem_append.1 hm with hm|hm
       ·obtain⟨k,k1,k2⟩:=a3 w hm
        exact⟨k,by omega,k2⟩
       ·exact⟨c,by omega,q,g,List.mem_singleton.1 hm⟩
      ·by_cases e:k=c
       ·subst e;exact List.mem_append_right _ (List.mem_singleton.2 rfl)
       ·exact List.mem_append_left _ (a4 k (by omega) ki kw)
     ·rw[if_neg (fun z=>g (by rw[<-ew];exact z.1))]
      refine⟨a1,Nat.le_succ_of_le a2,fun w hm=>?_,fun k hk ki kw=>?_⟩
      ·obtain⟨k,k1,k2⟩:=a3 w hm
       exact⟨k,by omega,k2⟩
      ·by_cases e:k=c
       ·subst e;exact absurd kw g
       ·exact a4 k (by omega) ki kw
  obtain⟨_,_,b1,b2⟩:=key 5 lr_ _ rfl;refine⟨fun w hm=>?_,fun _ b hb bi bw=>?_⟩
  ·obtain⟨k,k1,k2,k3,rfl⟩:=b1 w hm
   exact⟨rfl,rfl,⟨by show (0:Int)<=k;omega,by show (k:Int)<=4;omega⟩,k2,rfl,rfl,k3⟩
  ·have hb':=hb
   unfold isNode at hb';have e:((b.toNat:Nat):Int)=b:=by omega
   exact⟨_,b2 b.toNat (by omega) (by rw[e];exact bi) (by rw[e];exact bw),e,rfl,rfl⟩
 ·rename_i q
  refine⟨fun w hm=>?_,fun z=>absurd z q⟩;have hm:w ∈ n.words:=hm;rw[hw]at hm;cases hm
theorem step_hi {β:Int} {n:Nt} (H:Hi β n) (hw:n.words=[]) {i:Int} (hi:isNode i):
  (Hi β (allN (helloN n i).1)/\(allN (helloN n i).1).words=[]/\(allN (helloN n i).1).links=n.links/\(allN (helloN n i).1).past=n.past)/\
  (∀b l,isNode b->Near β n b l->Near β (allN (helloN n i).1) b l)/\
  (∀l,Near β n i l->l<=4->∀b,isNode b->b≠i->whole n i b=true->Near β (allN (helloN n i).1) b (l+1)):=by
 have Kp:=hello_keeps H.ok hi;obtain⟨W1,W2⟩:=hello_words H.ok hw hi;generalize (helloN n i).1=m at Kp W1 W2 ⊢;obtain⟨mo,mn,ml,mp⟩:=Kp;have en:∀j,nodeAt m j=nodeAt n j:=same_node mn
 have ew:∀a b,whole m a b=whole n a b:=fun a b=>by unfold whole;rw[ml]
 have R:=hears_hi (β:=β) m.words mo (by rw[en];exact H.root) (fun j hj fj=>by
      rw[en]at fj ⊢
      rw[ml]
      obtain⟨a,b⟩:=H.way j hj fj
      exact⟨a,fun j0 un=>by rw[ew,en];exact b j0 un⟩) (fun w hm=>by
      obtain⟨a1,a2,a3,a4,a5,a6,a7⟩:=W1 w hm
      refine⟨mo.word w hm,a1,by rw[ew,a2];exact a7,fun wb=>?_⟩
      rw[a2,en,ml]
      have fj:(nodeAt n i).beacon=β:=by rw[<-a5];exact wb
      exact⟨fj,by rw[a6];exact Int.le_refl _,by rw[a6];exact (H.way i hi fj).1⟩)
 have O:=ok_all mo;obtain⟨⟨r1,r2,r3,r4⟩,r5,r6,r7⟩:=R;refine⟨⟨⟨O,r2,(fun w hm=>by cases hm),r5⟩,rfl,r3.trans ml,r4.trans mp⟩,fun b l hb N=>r6 b l hb (by unfold Near at *;rw[en];exact N),fun l N l4 b hb bi bw=>?_⟩;obtain⟨w,wm,w1,w2,w3⟩:=W2 (by have:=N.2;omega) b hb bi bw;have:=r7 w wm (by rw[w2];exact N.1);rw[w1,w3]at this
 exact⟨this.1,by have a:=this.2;have c:=N.2;show (nodeAt (m.words.foldl hearN m) b).level<=l+1;omega⟩
theorem round_hi {β:Int} {n:Nt} (H:Hi β n) (hw:n.words=[]):
  (Hi β (roundN (fun m i=>(helloN m i).1) n)/\(roundN (fun m i=>(helloN m i).1) n).words=[]/\(roundN (fun m i=>(helloN m i).1) n).links=n.links/\(roundN (fun m i=>(helloN m i).1) n).past=n.past)/\
  (∀b l,isNode b->Near β n b l->Near β (roundN (fun m i=>(helloN m i).1) n) b l)/\
  (∀a l,isNode a->Near β n a l->l<=4->∀b,isNode b->b≠a->whole n a b=true->Near β (roundN (fun m i=>(helloN m i).1) n) b (l+1)):=by
 unfold roundN;have key:∀c:Nat,c<=5->∀F,F=(List.range c).foldl (fun (m:Nt) (k:Nat)=>allN (helloN m (k:Int)).1) n->
   (Hi β F/\F.words=[]/\F.links=n.links/\F.past=n.past)/\(∀b l,isNode b->Near β n b l->Near β F b l)/\(∀a l,isNode a->a<c->Near β n a l->l<=4->∀b,isNode b->b≠a->whole n a b=true->Near β F b (l+1)):=by
  intro c
  induction c with
  |zero=>rintro _ F rfl;exact⟨⟨H,hw,rfl,rfl⟩,fun _ _ _ N=>N,fun a l ha h0=>by unfold isNode at ha;omega⟩
  |succ c ih=>
   rintro hc F rfl;obtain⟨⟨a1,a2,a3,a4⟩,a5,a6⟩:=ih (by omega) _ rfl;rw[List.range_succ,List.foldl_append];simp only[List.foldl_cons,List.foldl_nil];generalize (List.range c).foldl (fun (m:Nt) (k:Nat)=>allN (helloN m (k:Int)).1) n=F at a1 a2 a3 a4 a5 a6 ⊢;have hcn:isNode (c:Int):=⟨by omega,by omega⟩
   obtain⟨⟨s1,s2,s3,s4⟩,s5,s6⟩:=step_hi a1 a2 hcn;refine⟨⟨s1,s2,s3.trans a3,s4.trans a4⟩,fun b l hb N=>s5 b l hb (a5 b l hb N),fun a l ha ac N l4 b hb ba bw=>?_⟩
   by_cases q:a=(c:Int)
   ·subst q
    exact s6 l (a5 _ l ha N) l4 b hb ba (by unfold whole;rw[a3];exact bw)
   ·exact s5 b (l+1) hb (a6 a l ha (by omega) N l4 b hb ba bw)
 obtain⟨k1,k2,k3⟩:=key 5 lr_ _ rfl;exact⟨k1,k2,fun a l ha N l4 b hb ba bw=>k3 a l ha (by unfold isNode at ha;omega) N l4 b hb ba bw⟩
theorem rounds_hi {β:Int} {n:Nt} (H:Hi β n) (hw:n.words=[]):∀k:Nat,k<=5->∀F,F=(List.range k).foldl (fun m _=>roundN (fun m i=>(helloN m i).1) m) n->
  (Hi β F/\F.words=[]/\F.links=n.links/\F.past=n.past)/\∀q:Nat,q<=k->∀b,isNode b->Rk n.links q b->Near β F b q:=by
 intro k
 induction k with
 |zero=>
  rintro _ F rfl;refine⟨⟨H,hw,rfl,rfl⟩,fun q hq b hb r=>?_⟩;obtain rfl:q=0:=by omega
  have r:b=0:=r;subst r;exact⟨H.root,Int.le_of_eq ((H.ok.way 0 zero_node).root rfl).1⟩
 |succ k ih=>
  rintro hk F rfl;obtain⟨⟨a1,a2,a3,a4⟩,a5⟩:=ih (by omega) _ rfl;rw[List.range_succ,List.foldl_append];simp only[List.foldl_cons,List.foldl_nil];generalize (List.range k).foldl (fun m _=>roundN (fun m i=>(helloN m i).1) m) n=F at a1 a2 a3 a4 a5 ⊢;obtain⟨⟨s1,s2,s3,s4⟩,s5,s6⟩:=round_hi a1 a2;refine⟨⟨s1,s2,s3.trans a3,s4.trans a4⟩,fun q hq b hb r=>?_⟩
  have main:∀q:Nat,q<=k+1->Rk n.links q b->Near β (roundN (fun m i=>(helloN m i).1) F) b q:=by
   intro q
   induction q with
   |zero=>intro _ r;exact s5 b _ hb (a5 0 (by omega) b hb r)
   |succ q iq=>
    intro hq r;rcases r with r|⟨a,ha,ra,w⟩
    ·have N:=iq (by omega) r
     exact⟨N.1,by have:=N.2;omega⟩
    ·have N:=s6 a q ha (a5 q (by omega) a ha ra) (by omega) b hb (fun e=>by
            subst e
            have z:=a1.ok.self b hb
            unfold whole at z
            rw[a3]at z
            unfold wl at w
            rw[z]at w;cases w) (by unfold whole;rw[a3];exact w)
     exact⟨N.1,by have:=N.2;omega⟩
  exact main q hq r
end Go.Proofs.YtcblbdpdbggkbaaGreat.N
namespace Go.Proofs.YtcblbdpdbggkbaaGreat
open Go.RowKit Go.Sort
namespace N
variable {B:Nat} {w0 w w':World} {l:List Ch}
theorem _root_.Go.Proofs.YtcblbdpdbggkbaaGreat.M.ints {v:Value} {zs:List Int} (h:M B w0 w (intsC v zs::l)):Ints w v zs:=by
 obtain⟨f,hf,_⟩:=h.first;obtain⟨_,e,o,_⟩:=intsR_to hf;cases e;exact o
end N
end Go.Proofs.YtcblbdpdbggkbaaGreat
