/-
  What the laws of Reach need of the texts before it, part 9.
-/
import Derived.ArgAppend
import Derived.BigQuiet
import Derived.Carry
import Derived.ChangeSame
import Derived.Deep.AppendLies
import Derived.Deep.Cut
import Derived.Deep.DeepCutAuto
import Derived.Deep.DrawnRows
import Derived.Deep.Fields
import Derived.Deep.Matrix
import Derived.Deep.MidRow
import Derived.Deep.OwnRows
import Derived.Deep.QuietTactic
import Derived.Deep.RegionHeld3
import Derived.Deep.RegionLaw
import Derived.Deep.RegionLawGrows
import Derived.Deep.RegionWith
import Derived.Deep.Slices
import Derived.Deep.WholeRow
import Derived.DeepKeys5
import Derived.Handy
import Derived.IntWalk
import Derived.KernelRfl
import Derived.Laws.AppendOwnNone
import Derived.Laws.EntriesVeiled
import Derived.Laws.ResultCell
import Derived.Lib.AppendZerosOnto
import Derived.Lib.Hide
import Derived.Lib.QuietBelow
import Derived.Lib.SliceRun
import Derived.Lib.SmallJoins
import Derived.Lib.Walk
import Derived.LoopIn
import Derived.LoopN
import Derived.LoopNIn
import Derived.Maps.AppendAt
import Derived.Maps.Keyed
import Derived.Maps.Own
import Derived.OneCell
import Derived.OpenShut
import Derived.OrdersHeld
import Derived.OwnWalkIn
import Derived.RangeFuncBound
import Derived.RangeFuncBox
import Derived.RangeFuncCalls
import Derived.RangeFuncLeaves
import Derived.RangeFuncNested
import Derived.RegionTactic
import Derived.Shelf.Abstract
import Derived.Shelf.RegionOpen
import Derived.Shelf.SlSortCmp.InsertionK
import Derived.StillTail
import Derived.TacticsInMore
import Derived.Test.YtcblbdpdbggkbaaGreatRows
import Derived.WalkKit
import Derived.WalkLawsBesides
import Derived.WalkSmall
import Derived.WalkSpells
import Derived.Test.YtcblbdpdbggkbaaGreatSReach8
set_option maxRecDepth 100000
set_option maxHeartbeats 16000000
set_option linter.unusedVariables false
set_option linter.unusedSectionVars false
set_option linter.unusedSimpArgs false
namespace Go.Proofs.YtcblbdpdbggkbaaGreat
open Go.RowKit Go.Sort
namespace N
section
variable {B:Nat} {w0 w:World} {l:List Ch} {p:Nat}
theorem do_take {n:Nt} {d:De}:(d.kind=4->doN n d=takeN n d.a true false)/\(d.kind=5->doN n d=takeN n d.a true true)/\(d.kind=6->doN n d=takeN n d.a false false):=by
 refine⟨fun h=>?_,fun h=>?_,fun h=>?_⟩<;>(unfold doN;simp[h])
theorem do_kind8 {n:Nt} {d:De} (h:d.kind=8):doN n d=if (nodeAt n 0).beacon+1<=1000 then some (setNode n 0 { nodeAt n 0 with beacon:=(nodeAt n 0).beacon+1 })else none:=by unfold doN;simp[h]
theorem do_node {n:Nt} {d:De} (h4:d.kind≠4) (h5:d.kind≠5) (h6:d.kind≠6) (h8:d.kind≠8):doN n d=if isNode d.a then nodeN n d else none:=by
 unfold doN nodeN;simp only[if_neg h4,if_neg h5,if_neg h6,if_neg h8]
theorem spDo_at {n:Nt} (h:M B w0 w (liveC p n::l)) (ok:NetOk n) (k a b:Int):
  Calls Tryz.prog 260 #[ptrV p,.agg #[iv k,iv a,iv b]] w (AnsD B w0 l p (doN n ⟨k,a,b⟩)):=by
 have h1:=h.alloc #[iv k,iv a,iv b] 292;obtain⟨pd,hpd⟩:=nm_ w.heap.size;obtain⟨W0,hW0⟩:=nm_ (w.alloc (.cells #[iv k,iv a,iv b] 292));rw[<-hW0, <-hpd]at h1;have H:=hd_ h1.p1;have OK:=hd_ ok;have DT:=hd_ (do_take (n:=n) (d:=⟨k,a,b⟩));clear h h1 ok;go_enter Tryz.func260,Tryz.ntmps260;go_upto_region 1 with fail
 rw[<-hW0, <-hpd];clear hW0 hpd;obtain⟨d0,d1,d2⟩:=H.out.p1.cells3
 by_cases hk4:k=4
 case pos=>
  subst hk4;have E:=hd_ (DT.out.1 rfl);have KS:=hd_ (spTake_at H.out OK.out a true false)
  go_wp2_with fail
  refine KS.out.mono ?_;rintro r w2 ⟨rfl,h2⟩;have H2:=hd_ h2;clear h2 KS H;go_wp2;go_ret;rw[E.out];exact ansD_opt ⟨rfl,H2.out.p1.drop⟩
 have g4:(k==4)=false:=by simpa using hk4
 by_cases hk5:k=5
 case pos=>
  subst hk5;have E:=hd_ (DT.out.2.1 rfl);have KS:=hd_ (spTake_at H.out OK.out a true true)
  go_wp2_with fail
  refine KS.out.mono ?_;rintro r w2 ⟨rfl,h2⟩;have H2:=hd_ h2;clear h2 KS H;go_wp2;go_ret;rw[E.out];exact ansD_opt ⟨rfl,H2.out.p1.drop⟩
 have g5:(k==5)=false:=by simpa using hk5
 by_cases hk6:k=6
 case pos=>
  subst hk6;have E:=hd_ (DT.out.2.2 rfl);have KS:=hd_ (spTake_at H.out OK.out a false false)
  go_wp2_with fail
  refine KS.out.mono ?_;rintro r w2 ⟨rfl,h2⟩;have H2:=hd_ h2;clear h2 KS H;go_wp2;go_ret;rw[E.out];exact ansD_opt ⟨rfl,H2.out.p1.drop⟩
 have g6:(k==6)=false:=by simpa using hk6
 by_cases hk8:k=8
 case pos=>
  subst hk8;obtain⟨nd,hnd⟩:=nm_ (nodeAt n 0);have bz:0<=nd.beacon/\nd.beacon<=1000:=by
   rw[hnd];exact⟨((OK.out.way 0 (by unfold isNode;omega)).beacon).1,OK.out.beacon⟩
  have hs:=ok_sized OK.out;have gx:n.nodes[0]? =some nd:=by rw[hnd];exact node_get (i:=0) hs.nodes o_
  have E:=hd_ (show doN n ⟨8,a,b⟩=if nd.beacon+1<=1000 then some { n with nodes:=n.nodes.set 0 { nd with beacon:=nd.beacon+1 } }else none by rw[do_kind8 rfl,hnd];rfl);obtain⟨ns,ls,ws,ps⟩:=n;obtain⟨hs1,hs2,hs3,hs4⟩:=hs;simp only at hs1 hs2 hs3 hs4 gx;obtain⟨x1,c1,x2,c2,x3,c3,x4,c4,h1⟩:=H.out.live;simp only at h1;rw[hs1]at h1;have h2:=h1.drew;obtain⟨f1,hf1⟩:=h2.p1.nodesRd
  obtain⟨g1,xk,ck,fk,rfl,_,_,kr,_,_,z0,z1,z2,z3,z4⟩:=node_at hf1 gx;rw[Nat.zero_mul,Nat.zero_add]at z2;obtain⟨a0,a1,a2,a3⟩:=h2.cells4;have S0:Hid (Cells W0.drew (b4L p (.slice (some ⟨g1,0,none⟩) 5 c1) (.slice x2 ls.length c2) (.slice x3 ws.length c3) (.slice x4 ps.length c4)++[(⟨g1,2,none⟩,.int .i64 nd.beacon)])):=hd_ ⟨a0,a1,a2,a3,z2,trivial⟩
  obtain⟨⟨u,cu⟩,fu,h3⟩:=(M.setNum h2.p1 gx (nd.beacon+1)).2.1;rw[Nat.zero_mul,Nat.zero_add]at cu fu h3;have wr1:IntKind.i64.wrap (nd.beacon+1)=nd.beacon+1:=IntWalk.i64_in _ o_;obtain⟨V,hV⟩:=nm_ W0.drew;rw[<-hV]at S0 cu fu h3;have EV:=hd_ hV;have GX:=hd_ gx;have H3:=hd_ h3;clear hV h1 h2 h3 hf1 kr z0 z1 z2 z3 z4 a0 a1 a2 a3 hnd H OK DT gx hs1 hs2 hs3 hs4;unfold ptrV;go_wp2
  refine wp_region_plan 16 (.tk 0 16 (.alt 16 .done .nomore)) (fun w'=>Cells w' (b4L p (.slice (some ⟨g1,0,none⟩) 5 c1) (.slice x2 ls.length c2) (.slice x3 ws.length c3) (.slice x4 ps.length c4)++[(⟨g1,2,none⟩,.int .i64 nd.beacon)])) (by kernel_rfl) (by kernel_rfl) (fun _ _ _ _ _ h=>h) (by rw[<-EV.out];exact S0.out) ?_;rw[<-EV.out]
  repeat (first|refine tC_ ?_|refine tB_ ?_)
  refine plan_last (by rfl) (fun K hK=>?_);go_simp;refine hK _ _ (.inl rfl) ?_;clear hK K
  try refine tP_ ?_
  refine plan_done ?_;obtain⟨V2,hV2⟩:=nm_ (V.setCell ⟨g1,2,none⟩ (iv (nd.beacon+1)));rw[<-hV2]at H3 ⊢;clear hV2 cu fu S0 EV d0 d1 d2;obtain⟨f1,hf1⟩:=H3.out.nodesRd;obtain⟨g1',xk',ck',fk',ev,_,_,kr,_,_,z0,z1,z2,z3,z4⟩:=node_at hf1 (List.getElem?_set_self (List.getElem?_eq_some_iff.1 GX.out).1);cases ev;rw[Nat.zero_mul,Nat.zero_add]at z2;obtain⟨a0,a1,a2,a3⟩:=H3.out.p1.cells4
  clear hf1 kr z0 z1 z3 z4
  by_cases hle:nd.beacon+1<=1000
  case pos=>
   have E2:=hd_ (E.out.trans (if_pos hle));go_wp2;go_ret;rw[E2.out];exact⟨rfl,_,fun m hm=>Option.some.inj hm,(H3.out.p1.p5.drop).unlive⟩
  have E2:=hd_ (E.out.trans (if_neg hle));go_wp2;go_ret;rw[E2.out];exact⟨rfl,_,(fun m hm=>by cases hm),(H3.out.p1.p5.drop).unlive⟩
 have g8:(k==8)=false:=by simpa using hk8
 have E0:=hd_ (do_node (n:=n) (d:=⟨k,a,b⟩) hk4 hk5 hk6 hk8);clear hk4 hk5 hk6 hk8 DT;obtain⟨ib,hib⟩:=nm_ (in6 a 0 4);have KI:=hd_ (fun W=>in6_is hib W);have IB:=hd_ (show ib=true↔isNode a by rw[hib,in6_iff];rfl);clear hib;cases ib
 case false=>
  have E:=hd_ (E0.out.trans (if_neg (fun q=>by have:=IB.out.2 q;cases this)))
  go_wp2_with (refine (KI.out _).mono ?_;rintro r w5 ⟨rfl,e5⟩;rw[e5];clear e5 w5)
  go_ret;rw[E.out];exact⟨rfl,n,(fun m hm=>by cases hm),H.out.p1.drop⟩
 have E:=hd_ (E0.out.trans (if_pos (IB.out.1 rfl)));have hia:=IB.out.1 rfl;unfold isNode at hia;obtain⟨i,hi⟩:∃i:Nat,a=i:=⟨a.toNat,o_⟩
 subst hi;have KK:=hd_ (spDeedNode_at H.out OK.out (i:=i) o_ k b);clear hia IB E0
 go_wp2_with (first|(refine (KI.out _).mono ?_;rintro r w5 ⟨rfl,e5⟩;rw[e5];clear e5 w5)|(refine KK.out.mono ?_;rintro r w5 ⟨rfl,n',hn',h5⟩;have H5:=hd_ h5;have HN:=hd_ hn';clear h5 hn' KK d0 d1 d2))
 go_ret;rw[E.out];exact⟨rfl,n',HN.out,H5.out.p1.drop⟩
end
end N
end Go.Proofs.YtcblbdpdbggkbaaGreat
namespace Go.Proofs.YtcblbdpdbggkbaaGreat
open Go.RowKit Go.Sort
abbrev cnt (l:List Int) (p:Int->Bool):Int:=((l.countP p:Nat):Int)
theorem cnt_snoc (l:List Int) (t:Int) (p:Int->Bool):cnt (l++[t]) p=cnt l p+if p t=true then 1 else 0:=by
 show (((l++[t]).countP p:Nat):Int)=_
 rw[List.countP_append,List.countP_cons,List.countP_nil]
 by_cases h:p t=true<;>simp[h]
theorem cnt_append (l m:List Int) (p:Int->Bool):cnt (l++m) p=cnt l p+cnt m p:=by
 show (((l++m).countP p:Nat):Int)=_
 rw[List.countP_append];exact Int.natCast_add _ _
abbrev cntT (l:List Int) (t:Int):Int:=cnt l fun z=>decide (z=t)
theorem cntT_snoc (l:List Int) (u t:Int):cntT (l++[u]) t=cntT l t+if u=t then 1 else 0:=by
 refine (cnt_snoc l u _).trans ?_;simp only[decide_eq_true_eq]
end Go.Proofs.YtcblbdpdbggkbaaGreat
namespace Go.Proofs.YtcblbdpdbggkbaaGreat.N
open Go.RowKit Go.Sort
theorem hear_words (n:Nt) (ws:List Wd) (w:Wd):hearN { n with words:=ws } w={ hearN n w with words:=ws }:=by
 unfold hearN setNode;simp only;show (if w.kind=2 then _ else if w.dst=0\/(5<=w.level+1/\w.beacon<=(nodeAt n w.dst).beacon)then _ else if (nodeAt n w.dst).beacon<w.beacon\/(w.beacon=(nodeAt n w.dst).beacon/\w.level+1<(nodeAt n w.dst).level)then _ else _)=_
 split
 ·rfl
 ·split
  ·rfl
  ·split<;>rfl
theorem hears_words:∀(us ws:List Wd) (n:Nt),us.foldl hearN { n with words:=ws }={ us.foldl hearN n with words:=ws }
 | [],_,_=>rfl
 |u::us,ws,n=>by
  rw[List.foldl_cons,List.foldl_cons,hear_words,hears_words us ws]
theorem all_step {n:Nt} (h:0<n.words.length):takeN n 0 true false=some (dropW (hearN n (wordAt n 0)) 0)/\allN (dropW (hearN n (wordAt n 0)) 0)=allN n/\(dropW (hearN n (wordAt n 0)) 0).words.length+1=n.words.length:=by
 obtain⟨w,ws,e⟩:∃w ws,n.words=w::ws:=by
  cases q:n.words with
  |nil=>rw[q]at h;simp at h
  |cons w ws=>exact⟨w,ws,rfl⟩
 have wa:wordAt n 0=w:=by unfold wordAt;rw[e];rfl
 have hw:(hearN n w).words=w::ws:=(hear_rest n w).1.trans e;refine⟨?_,?_,?_⟩
 ·unfold takeN
  rw[if_pos (by unfold isWord;omega)]
  rfl
 ·rw[wa]
  unfold allN dropW;simp only;rw[hw,e];show ({ ws.foldl hearN { hearN n w with words:=ws }with words:=[] }:Nt)={ (w::ws).foldl hearN n with words:=[] }
  rw[hears_words,List.foldl_cons]
 ·rw[wa]
  unfold dropW;rw[hw,e]
  rfl
end Go.Proofs.YtcblbdpdbggkbaaGreat.N
namespace Go.Proofs.YtcblbdpdbggkbaaGreat
open Go.RowKit Go.Sort
namespace N
structure CopyOk (n:Nt):Prop where
 nl:n.nodes.length<=1048576
 ll:n.links.length<=1048576
 wl:n.words.length<=1048576
 pl:n.past.length<=1048576
 nk:∀x ∈ n.nodes,x.known.length<=1048576/\∀e ∈ x.known,okS e.s=true
 wk:∀x ∈ n.words,x.known.length<=1048576/\∀e ∈ x.known,okS e.s=true
 pk:∀rs ∈ n.past,rs.length<=1048576/\∀r ∈ rs,r.length<=1048576
theorem links_rd {w:World} {v:Value} {xs:List Bool} {f:List Nat} (h:linksR TY w [v] xs f):RdL encB w v xs:=by
 obtain⟨_,e,o,_⟩:=slc_flat_to h;cases e;exact RdL.row o rfl
theorem encB_one1 (a:Bool):∀u ∈ encB a,u.oneCell'=true:=fun u hu=>by rw[List.mem_singleton.1 hu];rfl
theorem spCopy_at (w:World) {x1 x2 x3 x4:Option Addr} {k1 c1 k2 c2 k3 c3 k4 c4:Nat} {n:Nt} (hn:NetRd w (.slice x1 k1 c1) (.slice x2 k2 c2) (.slice x3 k3 c3) (.slice x4 k4 c4) n) (hc:CopyOk n):
  Calls Tryz.prog 259 #[.agg #[.slice x1 k1 c1,.slice x2 k2 c2,.slice x3 k3 c3,.slice x4 k4 c4]] w fun r w'=>∃v1 v2 v3 v4,r=.returned (.agg #[v1,v2,v3,v4])/\M w.heap.size w w' [nodesC v1 n.nodes,linksC v2 n.links,wordsC v3 n.words,pastC v4 n.past]:=by
 obtain⟨f1,n1⟩:=hn.nodes;obtain⟨f2,n2⟩:=hn.links;obtain⟨f3,n3⟩:=hn.words;obtain⟨f4,n4⟩:=hn.past;obtain rfl:k1=n.nodes.length:=(slcR_row n1).1;obtain rfl:k2=n.links.length:=(slcR_row n2).1;obtain rfl:k3=n.words.length:=(slcR_row n3).1;obtain rfl:k4=n.past.length:=(slcR_row n4).1;have N1:=hd_ n1;have N2:=hd_ n2;have N3:=hd_ n3;have N4:=hd_ n4;obtain⟨nl,ll,wl,pl,nk,wk,pk⟩:=hc;have NK:=hd_ nk
 have WK:=hd_ wk;have PK:=hd_ pk;obtain⟨nodes,links,words,past⟩:=n;simp only at *;obtain⟨ln,hln⟩:=nm_ nodes.length;obtain⟨lb,hlb⟩:=nm_ links.length;obtain⟨lw,hlw⟩:=nm_ words.length;obtain⟨lp,hlp⟩:=nm_ past.length;rw[<-hln]at N1 nl ⊢;rw[<-hlb]at N2 ll ⊢;rw[<-hlw]at N3 wl ⊢;rw[<-hlp]at N4 pl ⊢;have LN:=hd_ hln;have LB:=hd_ hlb;have LW:=hd_ hlw;have LP:=hd_ hlp
 have X:=((M.start w).alloc #[.slice x1 ln c1,.slice x2 lb c2,.slice x3 lw c3,.slice x4 lp c4] 30).alloc #[zn,zn,zn,zn] 30;simp only[World.size_alloc]at X;obtain⟨p1,hp1⟩:=nm_ w.heap.size;obtain⟨p2,hp2⟩:=nm_ (w.heap.size+1);obtain⟨W0,hW0⟩:=nm_ ((w.alloc (.cells #[.slice x1 ln c1,.slice x2 lb c2,.slice x3 lw c3,.slice x4 lp c4] 30)).alloc (.cells #[zn,zn,zn,zn] 30));rw[<-hW0, <-hp2]at X
 have H0:=hd_ (show M w.heap.size w W0 [boxC p1 30 #[.slice x1 ln c1,.slice x2 lb c2,.slice x3 lw c3,.slice x4 lp c4],boxC p2 30 #[zn,zn,zn,zn]] by rw[hp1];exact X.p1);clear X hn n1 n2 n3 n4 nk wk pk hln hlb hlw hlp;go_enter Tryz.func259,Tryz.ntmps259;go_upto_region 1 with fail
 rw[<-hW0, <-hp2, <-hp1];clear hW0 hp2 hp1;have E1:=hd_ ((H0.out.alloc #[] 4).empty (flatR_frame encB) 1);have R1:=hd_ (links_rd ((slcR_frame (flatR_frame encB) _ _).below N2.out E1.out.below lr_));obtain⟨a0,a1,a2,a3⟩:=E1.out.p1.cells4
 go_upto_region 2 with (at_builtin;go_loud (refine wpList_add linkS (fun _=>rfl) encB_one1 E1.out R1.out rfl rfl rfl rfl (by rw[List.length_nil, <-LB.out];unfold maxLen;omega) (by rw[List.length_nil, <-LB.out];omega) (N:=lb) (by rw[List.length_nil,Nat.zero_add,LB.out]) ?_);intro yl dl u1 h;have E2:=hd_ ((((h.alloc #[] 123).empty (wordR_frame (T:=TY)) 6)).alloc #[zn,.slice yl lb dl,.slice (some ⟨u1.heap.size,0,none⟩) 0 0,zn] 30))
 obtain⟨pw,hpw⟩:=nm_ u1.heap.size;rw[List.nil_append]at E2;obtain⟨p3,hp3⟩:=nm_ ((u1.alloc (.cells #[] 123)).heap.size);obtain⟨W2,hW2⟩:=nm_ ((u1.alloc (.cells #[] 123)).alloc (.cells #[zn,.slice yl lb dl,.slice (some ⟨u1.heap.size,0,none⟩) 0 0,zn] 30));have ep:u1.heap.size+1=p3:=by rw[hp3,World.size_alloc]
 rw[<-hW2, <-hp3, <-hpw]at E2;rw[<-hW2,ep, <-hpw];have HA:=hd_ (M.nil (nodeR_frame (T:=TY)) 55 5 E2.out).p1.p3.p2.p2;clear hW2 hp3 hpw ep E2 E1 R1 a0 a1 a2 a3;go_wp2
 go_loopw [4] (fun z wr=>∃(j c:Nat) (y:Option Addr),j<=ln/\z=.int .i64 (j:Int)/\M w.heap.size w wr [boxC p3 30 #[.slice y j c,.slice yl lb dl,.slice (some ⟨pw,0,none⟩) 0 0,zn],nodesC (.slice y j c) (nodes.take j),linksC (.slice yl lb dl) links,wordsC (.slice (some ⟨pw,0,none⟩) 0 0) [],boxC p1 30 #[.slice x1 ln c1,.slice x2 lb c2,.slice x3 lw c3,.slice x4 lp c4],boxC p2 30 #[zn,zn,zn,zn]]) (fun z _=>ln - (intOf z).toNat)
 case atStart=>exact⟨0,0,_,Nat.zero_le _,rfl,HA.out⟩
 case round=>
  clear HA;obtain⟨j,dn,yn,hj,rfl,hM⟩:=hrel;have H:=hd_ hM;clear hM;obtain⟨a0,a1,a2,a3⟩:=H.out.p4.cells4
  by_cases hlt:j<ln
  case pos=>
   obtain⟨x,hx⟩:∃x,nodes[j]? =some x:=⟨_,List.getElem?_eq_getElem (by have:=LN.out;omega)⟩
   obtain⟨g,xk,ck,fk,rfl,_,_,kr,_,_,d0,d1,d2,d3,d4⟩:=node_at N1.out hx;have hWB:=H.out.below;replace d0:=cell_later hWB d0;replace d1:=cell_later hWB d1;replace d2:=cell_later hWB d2;replace d3:=cell_later hWB d3;replace d4:=cell_later hWB d4;obtain⟨hk,ho⟩:=NK.out x (List.mem_of_getElem? hx);have ST:=hd_ (take_at hx)
   have LT:Hid ((nodes.take j).length=j):=hd_ (by rw[List.length_take];have:=LN.out;omega);have j0:(0:Int)<=(j:Int):=o_;have j1:(j:Int)<(ln:Int):=o_;have h2:=H.out.alloc #[iv x.born,.slice xk x.known.length ck,iv x.beacon,iv x.level,iv x.up] 55;obtain⟨p5,hp5⟩:=nm_ wr.heap.size;obtain⟨W,hW⟩:=nm_ (wr.alloc (.cells #[iv x.born,.slice xk x.known.length ck,iv x.beacon,iv x.level,iv x.up] 55))
   rw[<-hW, <-hp5]at h2;have H2:=hd_ h2;have KE:=hd_ (spEntries_at W (knownR_frame.below kr h2.below lr_) hk ho);clear h2 hWB kr hx hk ho H;go_upto_region 6 with fail
   rw[<-hW, <-hp5];clear hW hp5 d0 d1 d2 d3 d4 a0 a1 a2 a3;obtain⟨d0,d1,d2,d3,d4⟩:=H2.out.cells5
   go_wp2_with fail
   refine KE.out.mono ?_;rintro r2 w2 ⟨yk,cy,rfl,hm⟩;have h3:=(H2.out.plus hm).p1;clear hm KE H2 d0 d1 d2 d3 d4;obtain⟨d0,d1,d2,d3,d4⟩:=h3.cells5;have df:=h3.free;have h4:=h3.set (i:=1) (.slice yk x.known.length cy);simp only[List.setIfInBounds_toArray,List.set_cons_zero,List.set_cons_succ]at h4;obtain⟨W3,hW3⟩:=nm_ (w2.setCell ⟨p5,1,none⟩ (.slice yk x.known.length cy));rw[<-hW3]at h4
   have H4:=hd_ h4;clear h3 h4;go_upto_region 7 with fail
   rw[<-hW3];clear hW3 d0 d1 d2 d3 d4 df;obtain⟨d0,d1,d2,d3,d4⟩:=H4.out.cells5;obtain⟨b0,b1,b2,b3⟩:=H4.out.p2.cells4;have h5:=H4.out.alloc #[iv x.born,.slice yk x.known.length cy,iv x.beacon,iv x.level,iv x.up] 55;have E:=hd_ (M.node x.born x.beacon x.level x.up h5.p2).p4.p2;clear h5
   go_wp2_with (at_builtin;go_loud (refine wpList_app nodeS (nodeR_one (T:=TY)) E.out rfl rfl rfl rfl (by rw[LT.out];unfold maxLen;omega) (by rw[LT.out];omega) (N:=j+1) (by rw[LT.out]) ?_);intro y9 d9 w9 h9;have H6:=hd_ h9.p1.drop.p1;clear h9 b0 b1 b2 b3;obtain⟨b0,b1,b2,b3⟩:=H6.out.cells4;have bf:=H6.out.free)
   have h7:=H6.out.set (i:=0) (.slice y9 (j+1) d9);simp only[List.setIfInBounds_toArray,List.set_cons_zero,List.set_cons_succ]at h7;have H7:=hd_ h7;clear h7;go_roundw
   case rel=>exact⟨j+1,d9,y9,o_,by go_num,by rw[ST.out];exact H7.out⟩
   case measure=>simp[intOf];omega
  obtain rfl:ln=j:=o_;have TT:Hid (nodes.take ln=nodes):=hd_ (by rw[LN.out];exact List.take_length);rw[TT.out]at H;have HB:=hd_ H.out.p3.p1;go_wp2;clear H a0 a1 a2 a3
  go_loopw [6] (fun z wr=>∃(j c:Nat) (y:Option Addr),j<=lw/\z=.int .i64 (j:Int)/\M w.heap.size w wr [boxC p3 30 #[.slice yn ln dn,.slice yl lb dl,.slice y j c,zn],wordsC (.slice y j c) (words.take j),nodesC (.slice yn ln dn) nodes,linksC (.slice yl lb dl) links,boxC p1 30 #[.slice x1 ln c1,.slice x2 lb c2,.slice x3 lw c3,.slice x4 lp c4],boxC p2 30 #[zn,zn,zn,zn]]) (fun z _=>lw - (intOf z).toNat)
  case atStart=>exact⟨0,0,_,Nat.zero_le _,rfl,HB.out⟩
  case round=>
   clear HB;obtain⟨j,dw,yw,hj,rfl,hM⟩:=hrel;have H:=hd_ hM;clear hM;obtain⟨a0,a1,a2,a3⟩:=H.out.p4.cells4
   by_cases hlt:j<lw
   case pos=>
    obtain⟨x,hx⟩:∃x,words[j]? =some x:=⟨_,List.getElem?_eq_getElem (by have:=LW.out;omega)⟩
    obtain⟨g,xk,ck,fk,rfl,_,_,kr,_,_,d0,d1,d2,d3,d4,d5⟩:=wordR_at N3.out hx;have hWB:=H.out.below;replace d0:=cell_later hWB d0;replace d1:=cell_later hWB d1;replace d2:=cell_later hWB d2;replace d3:=cell_later hWB d3;replace d4:=cell_later hWB d4;replace d5:=cell_later hWB d5;obtain⟨hk,ho⟩:=WK.out x (List.mem_of_getElem? hx);have ST:=hd_ (take_at hx)
    have LT:Hid ((words.take j).length=j):=hd_ (by rw[List.length_take];have:=LW.out;omega);have j0:(0:Int)<=(j:Int):=o_;have j1:(j:Int)<(lw:Int):=o_;have h2:=H.out.alloc #[iv x.kind,iv x.src,iv x.dst,iv x.beacon,iv x.level,.slice xk x.known.length ck] 123;obtain⟨p5,hp5⟩:=nm_ wr.heap.size
    obtain⟨W,hW⟩:=nm_ (wr.alloc (.cells #[iv x.kind,iv x.src,iv x.dst,iv x.beacon,iv x.level,.slice xk x.known.length ck] 123));rw[<-hW, <-hp5]at h2;have H2:=hd_ h2;have KE:=hd_ (spEntries_at W (knownR_frame.below kr h2.below lr_) hk ho);clear h2 hWB kr hx hk ho H;go_upto_region 12 with fail
    rw[<-hW, <-hp5];clear hW hp5 d0 d1 d2 d3 d4 d5 a0 a1 a2 a3;obtain⟨d0,d1,d2,d3,d4,d5⟩:=H2.out.cells6
    go_wp2_with fail
    refine KE.out.mono ?_;rintro r2 w2 ⟨yk,cy,rfl,hm⟩;have h3:=(H2.out.plus hm).p1;clear hm KE H2 d0 d1 d2 d3 d4 d5;obtain⟨d0,d1,d2,d3,d4,d5⟩:=h3.cells6;have df:=h3.free;have h4:=h3.set (i:=5) (.slice yk x.known.length cy);simp only[List.setIfInBounds_toArray,List.set_cons_zero,List.set_cons_succ]at h4;obtain⟨W3,hW3⟩:=nm_ (w2.setCell ⟨p5,5,none⟩ (.slice yk x.known.length cy));rw[<-hW3]at h4
    have H4:=hd_ h4;clear h3 h4;go_upto_region 13 with fail
    rw[<-hW3];clear hW3 d0 d1 d2 d3 d4 d5 df;obtain⟨d0,d1,d2,d3,d4,d5⟩:=H4.out.cells6;obtain⟨b0,b1,b2,b3⟩:=H4.out.p2.cells4;have h5:=H4.out.alloc #[iv x.kind,iv x.src,iv x.dst,iv x.beacon,iv x.level,.slice yk x.known.length cy] 123;have E:=hd_ (M.word x.kind x.src x.dst x.beacon x.level h5.p2).p4.p2;clear h5
    go_wp2_with (at_builtin;go_loud (refine wpList_app wordS (wordR_one (T:=TY)) E.out rfl rfl rfl rfl (by rw[LT.out];unfold maxLen;omega) (by rw[LT.out];omega) (N:=j+1) (by rw[LT.out]) ?_);intro y9 d9 w9 h9;have H6:=hd_ h9.p1.drop.p1;clear h9 b0 b1 b2 b3;obtain⟨b0,b1,b2,b3⟩:=H6.out.cells4;have bf:=H6.out.free)
    have h7:=H6.out.set (i:=2) (.slice y9 (j+1) d9);simp only[List.setIfInBounds_toArray,List.set_cons_zero,List.set_cons_succ]at h7;have H7:=hd_ h7;clear h7;go_roundw
    case rel=>exact⟨j+1,d9,y9,o_,by go_num,by rw[ST.out];exact H7.out⟩
    case measure=>simp[intOf];omega
   obtain rfl:lw=j:=o_;have TT:Hid (words.take lw=words):=hd_ (by rw[LW.out];exact List.take_length);rw[TT.out]at H;have HC:=hd_ (M.nil rowsR_frame 34 1 H.out).p1;go_wp2;clear H a0 a1 a2 a3
   go_loopw [8] (fun z wr=>∃(j c:Nat) (y:Option Addr),j<=lp/\z=.int .i64 (j:Int)/\M w.heap.size w wr [boxC p3 30 #[.slice yn ln dn,.slice yl lb dl,.slice yw lw dw,.slice y j c],pastC (.slice y j c) (past.take j),wordsC (.slice yw lw dw) words,nodesC (.slice yn ln dn) nodes,linksC (.slice yl lb dl) links,boxC p1 30 #[.slice x1 ln c1,.slice x2 lb c2,.slice x3 lw c3,.slice x4 lp c4],boxC p2 30 #[zn,zn,zn,zn]]) (fun z _=>lp - (intOf z).toNat)
   case atStart=>exact⟨0,0,_,Nat.zero_le _,rfl,HC.out⟩
   case round=>
    clear HC;obtain⟨j,c,y,hj,rfl,hM⟩:=hrel;have H:=hd_ hM;clear hM;obtain⟨a0,a1,a2,a3⟩:=H.out.p5.cells4
    by_cases hlt:j<lp
    case pos=>
     obtain⟨rs,hx⟩:∃rs,past[j]? =some rs:=⟨_,List.getElem?_eq_getElem (by have:=LP.out;omega)⟩
     obtain⟨g,xr,cr,fr,rfl,_,_,rr,_,_,d0⟩:=past_at N4.out hx;obtain⟨hk,ho⟩:=PK.out rs (List.mem_of_getElem? hx);have ST:=hd_ (take_at hx);have LT:Hid ((past.take j).length=j):=hd_ (by rw[List.length_take];have:=LP.out;omega);have j0:(0:Int)<=(j:Int):=o_;have j1:(j:Int)<(lp:Int):=o_;have RR:=hd_ rr;have HO:=hd_ ho;have D0:=hd_ (fun W (h:Below w.heap.size w W)=>cell_later h d0)
     have H2:=hd_ ((H.out.alloc #[] 23).empty intsR_frame 1);clear hx rr ho d0 H;go_wp2
     go_loopw [9,10] (fun q z wr=>∃(i c9:Nat) (x9:Option Addr),i<=rs.length/\z=.int .i64 (i:Int)/\q=.slice x9 i c9/\M w.heap.size w wr [rowsC (.slice x9 i c9) (rs.take i),boxC p3 30 #[.slice yn ln dn,.slice yl lb dl,.slice yw lw dw,.slice y j c],pastC (.slice y j c) (past.take j),wordsC (.slice yw lw dw) words,nodesC (.slice yn ln dn) nodes,linksC (.slice yl lb dl) links,boxC p1 30 #[.slice x1 ln c1,.slice x2 lb c2,.slice x3 lw c3,.slice (some ⟨g,0,none⟩) lp c4],boxC p2 30 #[zn,zn,zn,zn]]) (fun _ z _=>rs.length - (intOf z).toNat)
     case atStart=>exact⟨0,0,_,Nat.zero_le _,rfl,rfl,H2.out⟩
     case round=>
      clear H2 a0 a1 a2 a3;obtain⟨i,c9,x9,hi,rfl,rfl,hM⟩:=hrel;have HI:=hd_ hM;clear hM;obtain⟨a0,a1,a2,a3⟩:=HI.out.p6.cells4;have d0:=D0.out _ HI.out.below
      by_cases hit:i<rs.length
      case pos=>
       obtain⟨r,hr⟩:∃r,rs[i]? =some r:=⟨_,List.getElem?_eq_getElem hit⟩
       obtain⟨g2,xi,ci,fi,rfl,_,_,ir,_,_,e0⟩:=row_at RR.out hr;have lr:=HO.out r (List.mem_of_getElem? hr);have ST2:=hd_ (take_at hr);have LT2:Hid ((rs.take i).length=i):=hd_ (by rw[List.length_take];omega);have i0:(0:Int)<=(i:Int):=o_;have i1:(i:Int)<(rs.length:Int):=o_;have E1:=hd_ ((HI.out.alloc #[] 3).empty (flatR_frame encI) 1)
       have R1:=hd_ (RdL.fl (intsR_frame.below ir E1.out.below lr_));obtain⟨b0,b1,b2,b3⟩:=E1.out.drop.p6.cells4;have d0':=D0.out _ E1.out.below;have e0':=cell_later E1.out.below e0;clear ir hr HI e0
       go_wp2_with (at_builtin;first|(go_loud (refine wpList_app rowS flR_one E2.out rfl rfl rfl rfl (by rw[LT2.out];unfold maxLen;omega) (by rw[LT2.out];omega) (N:=i+1) (by rw[LT2.out]) ?_);intro y9 d9 w9 h9;have H6:=hd_ h9;clear h9 E2)|(go_loud (refine wpList_add intS (fun _=>rfl) encI_one1 E1.out R1.out rfl rfl rfl rfl (by rw[List.length_nil];unfold maxLen;omega) (by rw[List.length_nil];omega) (N:=r.length) (by rw[List.length_nil,Nat.zero_add]) ?_);intro yi di u1 h;rw[List.nil_append]at h;have E2:=hd_ (h.soft.alloc #[.slice yi r.length di] 23).p2.p1;clear h E1 R1 a0 a1 a2 a3 b0 b1 b2 b3 d0 d0' e0'))
       go_roundw
       case rel=>exact⟨i+1,d9,y9,o_,by go_num,rfl,by rw[ST2.out];exact H6.out⟩
       case measure=>simp[intOf];omega
      obtain rfl:i=rs.length:=o_;have TT:Hid (rs.take rs.length=rs):=hd_ List.take_length;rw[TT.out]at HI;obtain⟨b0,b1,b2,b3⟩:=HI.out.p1.cells4;have h5:=HI.out.alloc #[.slice x9 rs.length c9] 34;obtain⟨e0,e1,e2,e3⟩:=h5.p2.cells4;have E:=hd_ (h5.p3.p1);clear h5 HI
      go_wp2_with (at_builtin;go_loud (refine wpList_app rowsS (slcR_one _ _ _) E.out rfl rfl rfl rfl (by rw[LT.out];unfold maxLen;omega) (by rw[LT.out];omega) (N:=j+1) (by rw[LT.out]) ?_);intro y8 d8 w9 h9;have H6:=hd_ h9.p1;clear h9 b0 b1 b2 b3 e0 e1 e2 e3;obtain⟨b0,b1,b2,b3⟩:=H6.out.cells4;have bf:=H6.out.free)
      have h7:=H6.out.set (i:=3) (.slice y8 (j+1) d8);simp only[List.setIfInBounds_toArray,List.set_cons_zero,List.set_cons_succ]at h7;have H7:=hd_ h7;clear h7;go_roundw
      case rel=>exact⟨j+1,d8,y8,o_,by go_num,by rw[ST.out];exact H7.out⟩
      case measure=>simp[intOf];omega
    obtain rfl:lp=j:=o_;have TT:Hid (past.take lp=past):=hd_ (by rw[LP.out];exact List.take_length);rw[TT.out]at H;obtain⟨b0,b1,b2,b3⟩:=H.out.cells4;have H8:=hd_ H.out.p6
    go_wp2_with (refine wpList_mstore H8.out (vs:=[.slice yn ln dn,.slice yl lb dl,.slice yw lw dw,.slice y lp c]) (ys:=#[.slice yn ln dn,.slice yl lb dl,.slice yw lw dw,.slice y lp c]) rfl rfl rfl rfl netI rfl (by simp) (by simp[putA]) ?_;intro w3 h3;have H9:=hd_ h3;clear h3)
    obtain⟨e0,e1,e2,e3⟩:=H9.out.cells4;exact bodyPost_ret (v:=.agg #[.slice yn ln dn,.slice yl lb dl,.slice yw lw dw,.slice y lp c]) (by simp[results,Tryz.results259,go_sem,e0,e1,e2,e3]) rfl ⟨_,_,_,_,rfl,H9.out.drop.drop.p4.drop.p1.p3.p3⟩
def wordsLen (p:Nat) (w:World):Nat:=match w.cell? ⟨p,2,none⟩with
 |some (.slice _ n _)=>n
 |_=>0
section
variable {B:Nat} {w0 w:World} {l:List Ch} {p:Nat}
theorem _root_.Go.Proofs.YtcblbdpdbggkbaaGreat.M.wordsLen {n:Nt} (h:M B w0 w (liveC p n::l)):wordsLen p w=n.words.length:=by
 obtain⟨x1,c1,x2,c2,x3,c3,x4,c4,h1⟩:=h.live;obtain⟨a0,a1,a2,a3⟩:=h1.cells4;unfold N.wordsLen;rw[a2]
theorem all_nil {n:Nt} (h:n.words.length=0):allN n=n:=by
 obtain⟨ns,ls,ws,ps⟩:=n;obtain rfl:ws=[]:=List.eq_nil_of_length_eq_zero h
 rfl
theorem spAll_at {n:Nt} (h:M B w0 w (liveC p n::l)) (ok:NetOk n):
  Calls Tryz.prog 262 #[ptrV p] w fun r w'=>r=.returned (.tuple #[])/\M B w0 w' (liveC p (allN n)::l):=by
 have H0:=hd_ h;have OK:=hd_ ok;clear h ok;go_enter Tryz.func262,Tryz.ntmps262;go_wp2;go_loopw [] (fun wr=>∃m,NetOk m/\allN m=allN n/\M B w0 wr (liveC p m::l)) (fun wr=>wordsLen p wr)
 case atStart=>exact⟨n,OK.out,rfl,H0.out⟩
 case round=>
  clear H0 OK;obtain⟨m,okm,am,hM⟩:=hrel;have H:=hd_ hM;have OK:=hd_ okm;have AM:=hd_ am;have WL:=hd_ hM.wordsLen;obtain⟨x1,c1,x2,c2,x3,c3,x4,c4,h1⟩:=hM.live;obtain⟨a0,a1,a2,a3⟩:=h1.cells4;obtain⟨nw,hnw⟩:=nm_ m.words.length;rw[<-hnw]at a2 WL;have NW:=hd_ hnw;clear hM okm am h1 hnw
  by_cases hz:0<nw
  case neg=>
   have E:=hd_ (all_nil (n:=m) (by rw[<-NW.out];omega));have z1:¬(0:Int)<(nw:Int):=o_;clear hz;unfold ptrV;go_wp2
   (try simp only[Exit.inBlock,Exit.then])
   first
    |go_end0
    |(refine bodyPost_ret (v:=.tuple #[]) (by simp[results,Tryz.results262,go_sem]) rfl ?_)
   rw[<-AM.out,E.out];exact⟨rfl,H.out⟩
  obtain⟨s1,s2,s3⟩:=all_step (n:=m) (by rw[<-NW.out];exact hz);have KT:=hd_ (spTake_at H.out OK.out 0 true false);have O2:=hd_ (ok_take OK.out s1);rw[s1]at KT;have S2:=hd_ s2;have S3:=hd_ s3;have z1:(0:Int)<(nw:Int):=o_;clear s1 s2 s3 hz;unfold ptrV at *
  go_wp2_with fail
  refine KT.out.mono ?_;rintro r w2 ⟨rfl,h2⟩;have H2:=hd_ h2;clear h2 KT H a0 a1 a2 a3;go_wp2;go_roundw
  case rel=>exact⟨_,O2.out,by rw[S2.out];exact AM.out,H2.out⟩
  case measure=>
   have h3:=H2.out.wordsLen;have h4:=S3.out;have h5:=WL.out;have h6:=NW.out;simp only[Option.getD_some]at h3;omega
end
def AnsM (w:World) (o:Option Nt) (e:Ending) (w':World):Prop:=∃v1 v2 v3 v4,e=.returned (.tuple #[.agg #[v1,v2,v3,v4],.bool o.isSome])/\M w.heap.size w w' [nodesC v1 (o.getD noNt).nodes,linksC v2 (o.getD noNt).links,wordsC v3 (o.getD noNt).words,pastC v4 (o.getD noNt).past]
theorem ansM_none {w w':World} {l:List Ch} (h:M w.heap.size w w' l):AnsM w none (.returned (.tuple #[.agg #[zn,zn,zn,zn],.bool false])) w':=by
 have h':M w.heap.size w w' []:=⟨h.below,h.low,[],rfl,List.nodup_nil,fun b hb=>by cases hb⟩
 exact⟨_,_,_,_,rfl,(((h'.nil rowsR_frame 34 1).nil (wordR_frame (T:=TY)) 123 6).nil (flatR_frame encB) 4 1).nil (nodeR_frame (T:=TY)) 55 5⟩
theorem keep4 {B:Nat} {w0 w:World} {c1 c2 c3 c4:Ch}:∀{l:List Ch},M B w0 w (c1::c2::c3::c4::l)->M B w0 w [c1,c2,c3,c4]
 | [],h=>h
 |_::_,h=>keep4 h.p4.drop
theorem copyOk_of {n:Nt} (ok:NetOk n):CopyOk n:=by
 refine⟨by rw[ok.nodes];decide,by rw[ok.links];decide,by have:=ok.words;omega,by rw[ok.past];decide,fun x hx=>?_,fun x hx=>?_,fun rs hr=>?_⟩
 ·obtain⟨i,hi,e⟩:=List.getElem_of_mem hx
  have h5:i<5:=by rw[<-ok.nodes];exact hi
  have hn:isNode (i:Int):=by unfold isNode;omega
  have ex:nodeAt n (i:Int)=x:=by
   have:=node_get ok.nodes h5;rw[List.getElem?_eq_getElem hi,e]at this;exact (Option.some.inj this).symm
  have K:=ok.known _ hn;rw[ex]at K;exact⟨by have:=known_len K;omega,known_okS K⟩
 ·rcases (ok.word x hx).kind with ⟨_,_,_,kn⟩|⟨_,_,_,kn⟩
  ·rw[kn];exact⟨Nat.zero_le _,fun e he=>by cases he⟩
  ·exact⟨by have:=known_len kn;omega,known_okS kn⟩
 ·obtain⟨i,hi,e⟩:=List.getElem_of_mem hr
  have h5:i<5:=by rw[<-ok.past];exact hi
  have hn:isNode (i:Int):=by unfold isNode;omega
  have ex:rowsAt n (i:Int)=rs:=by
   have:=rows_get ok.past h5;rw[List.getElem?_eq_getElem hi,e]at this;exact (Option.some.inj this).symm
  have P:=ok.pasts _ hn;have L:=P.len;have B:=ok.born _ hn;have F:=P.few;rw[ex]at L F;exact⟨o_,fun r hr=>by have:=F r hr;omega⟩
def DsRd (w:World) (v:Value) (ds:List De):Prop:=(∃x c,v=.slice x ds.length c/\c<=maxLen/\ds.length<=c)/\∀j d,ds[j]? =some d->∃g o c,v=.slice (some ⟨g,o,none⟩) ds.length c/\w.cell? ⟨g,o+j * 3,none⟩=some (.int .i64 d.kind)/\w.cell? ⟨g,o+j * 3+1,none⟩=some (.int .i64 d.a)/\w.cell? ⟨g,o+j * 3+2,none⟩=some (.int .i64 d.b)
def runOf (n:Nt) (ds:List De):Option Nt:=if okNB n=true/\ds.length<=200 then some (runN n ds)else none
theorem run_next {n:Nt} {ds:List De} {j:Nat} {d:De} (h:ds[j]? =some d):runN n (ds.take (j+1))=(doN (runN n (ds.take j)) d).getD (runN n (ds.take j)):=by
 unfold runN;rw[take_at h,List.foldl_append]
 rfl
theorem take_all {α:Type} {l:List α} {j:Nat} (h:j=l.length):l.take j=l:=by rw[h];exact List.take_length
section
variable {B:Nat} {w0 w:World} {l:List Ch} {p:Nat}
theorem _root_.Go.Proofs.YtcblbdpdbggkbaaGreat.M.rdNet {b v1 v2 v3 v4:Value} {n:Nt} {c:Ch} (h:M B w0 w (c::nodesC v1 n.nodes::linksC v2 n.links::wordsC v3 n.words::pastC v4 n.past::l)):NetRd w v1 v2 v3 v4 n:=⟨h.p1.nodesRd,h.p2.linksRd,h.p3.wordsRd,h.p4.pastRd⟩
theorem spNetRun_at (w:World) {x1 x2 x3 x4:Option Addr} {k1 c1 k2 c2 k3 c3 k4 c4:Nat} {n:Nt} {v:Value} {ds:List De} (hn:NetRd w (.slice x1 k1 c1) (.slice x2 k2 c2) (.slice x3 k3 c3) (.slice x4 k4 c4) n) (hd:DsRd w v ds):
  Calls Tryz.prog 202 #[.agg #[.slice x1 k1 c1,.slice x2 k2 c2,.slice x3 k3 c3,.slice x4 k4 c4],v] w (AnsM w (runOf n ds)):=by
 obtain⟨⟨xd,cd,rfl,cm,dl⟩,hd⟩:=hd;unfold maxLen at cm;obtain⟨m,hm⟩:=nm_ ds.length;have HD:=hd_ hd;rw[<-hm]at HD dl ⊢;have HM:=hd_ hm;have HN:=hd_ hn;have X:=((M.start w).alloc #[.slice x1 k1 c1,.slice x2 k2 c2,.slice x3 k3 c3,.slice x4 k4 c4] 30).alloc #[zn,zn,zn,zn] 30;simp only[World.size_alloc]at X;obtain⟨q1,hq1⟩:=nm_ w.heap.size;obtain⟨q2,hq2⟩:=nm_ (w.heap.size+1)
 obtain⟨W0,hW0⟩:=nm_ ((w.alloc (.cells #[.slice x1 k1 c1,.slice x2 k2 c2,.slice x3 k3 c3,.slice x4 k4 c4] 30)).alloc (.cells #[zn,zn,zn,zn] 30));rw[<-hW0, <-hq2]at X;have H0:=hd_ (show M w.heap.size w W0 [boxC q2 30 #[zn,zn,zn,zn],boxC q1 30 #[.slice x1 k1 c1,.slice x2 k2 c2,.slice x3 k3 c3,.slice x4 k4 c4]] by rw[hq1];exact X);clear X hd hm hn;obtain⟨b,hb⟩:=nm_ (okNB n)
 have KO:=hd_ (spNetOk_at W0 (HN.out.below H0.out.below lr_));rw[<-hb]at KO;have OB:=hd_ hb;clear hb;go_enter Tryz.func202,Tryz.ntmps202;go_upto_region 1 with fail
 rw[<-hW0, <-hq2, <-hq1];clear hW0 hq2 hq1;obtain⟨b0,b1,b2,b3⟩:=H0.out.p1.cells4;cases b
 case false=>
  have E:=hd_ (show runOf n ds=none by unfold runOf;rw[if_neg (fun q=>by rw[<-OB.out]at q;cases q.1)])
  go_wp2_with fail
  refine KO.out.mono ?_;rintro r w1 ⟨rfl,hb1⟩;have H:=hd_ (H0.out.later hb1);clear hb1 KO H0 b0 b1 b2 b3;obtain⟨a0,a1,a2,a3⟩:=H.out.cells4;have af:=H.out.free;have F:=hd_ (H.out.set4 zn zn zn zn);clear H;go_wp2;obtain⟨e0,e1,e2,e3⟩:=F.out.cells4
  (try simp only[Exit.inBlock,Exit.then])
  refine bodyPost_ret (v:=.tuple #[.agg #[zn,zn,zn,zn],.bool false]) (by simp[results,Tryz.results202,go_sem,e0,e1,e2,e3]) rfl ?_;rw[E.out];exact ansM_none F.out
 by_cases hle:m<=200
 case neg=>
  have E:=hd_ (show runOf n ds=none by unfold runOf;rw[if_neg (fun q=>hle (by rw[HM.out];exact q.2))]);have g2:(200:Int)<(m:Int):=o_
  go_wp2_with fail
  refine KO.out.mono ?_;rintro r w1 ⟨rfl,hb1⟩;have H:=hd_ (H0.out.later hb1);clear hb1 KO H0 b0 b1 b2 b3;obtain⟨a0,a1,a2,a3⟩:=H.out.cells4;have af:=H.out.free;have F:=hd_ (H.out.set4 zn zn zn zn);clear H;go_wp2;obtain⟨e0,e1,e2,e3⟩:=F.out.cells4
  (try simp only[Exit.inBlock,Exit.then])
  refine bodyPost_ret (v:=.tuple #[.agg #[zn,zn,zn,zn],.bool false]) (by simp[results,Tryz.results202,go_sem,e0,e1,e2,e3]) rfl ?_;rw[E.out];exact ansM_none F.out
 have E:=hd_ (show runOf n ds=some (runN n ds) by unfold runOf;rw[if_pos ⟨OB.out.symm,by rw[<-HM.out];exact hle⟩]);have OK:=hd_ (okNB_iff.1 OB.out.symm);have g2:¬(200:Int)<(m:Int):=o_
 go_wp2_with fail
 refine KO.out.mono ?_;rintro r w1 ⟨rfl,hb1⟩;have H:=hd_ (H0.out.later hb1);clear hb1 KO H0 b0 b1 b2 b3;go_upto_region 3 with fail
 obtain⟨b0,b1,b2,b3⟩:=H.out.p1.cells4;have KC:=hd_ (spCopy_at w1 (HN.out.below H.out.below lr_) (copyOk_of OK.out))
 go_wp2_with fail
 refine KC.out.mono ?_;rintro r w2 ⟨v1,v2,v3,v4,rfl,h2⟩;have h3:=H.out.plus ((h2.alloc #[v1,v2,v3,v4] 289).unlive);obtain⟨y1,d1,rfl,_⟩:=M.form h2;obtain⟨y2,d2,rfl,_⟩:=M.form h2.p1;obtain⟨y3,d3,rfl,_⟩:=M.form h2.p2;obtain⟨y4,d4,rfl,_⟩:=M.form h2.p3;have H3:=hd_ h3;clear h2 h3 KC H b0 b1 b2 b3;go_wp2;generalize w2.alloc _=w3 at H3 ⊢;generalize w2.heap.size=p0 at H3 ⊢
 go_loopw [6,7] (fun y z wr=>∃(j p:Nat),j<=m/\z=.int .i64 (j:Int)/\y=.pointer (some ⟨p,0,none⟩)/\NetOk (runN n (ds.take j))/\M w.heap.size w wr [liveC p (runN n (ds.take j)),boxC q2 30 #[zn,zn,zn,zn],boxC q1 30 #[.slice x1 k1 c1,.slice x2 k2 c2,.slice x3 k3 c3,.slice x4 k4 c4]]) (fun _ z _=>m - (intOf z).toNat)
 case atStart=>exact⟨0,p0,Nat.zero_le _,rfl,rfl,OK.out,H3.out⟩
 case round=>
  clear H3 OK;obtain⟨j,p,hj,rfl,rfl,hok,hM⟩:=hrel;have H:=hd_ hM;have OK:=hd_ hok;clear hM hok
  by_cases hlt:j<m
  case neg=>
   obtain rfl:j=m:=o_;have TT:Hid (ds.take j=ds):=hd_ (take_all HM.out);rw[TT.out]at H;obtain⟨z1,e1,z2,e2,z3,e3,z4,e4,h1⟩:=H.out.live;obtain⟨a0,a1,a2,a3⟩:=h1.cells4;obtain⟨b0,b1,b2,b3⟩:=h1.p5.cells4;have bf:=h1.p5.free
   have F:=hd_ (h1.p5.set4 (.slice z1 (runN n ds).nodes.length e1) (.slice z2 (runN n ds).links.length e2) (.slice z3 (runN n ds).words.length e3) (.slice z4 (runN n ds).past.length e4));clear h1 H;go_wp2;obtain⟨i0,i1,i2,i3⟩:=F.out.cells4
   (try simp only[Exit.inBlock,Exit.then])
   refine bodyPost_ret (v:=.tuple #[.agg #[.slice z1 (runN n ds).nodes.length e1,.slice z2 (runN n ds).links.length e2,.slice z3 (runN n ds).words.length e3,.slice z4 (runN n ds).past.length e4],.bool true]) (by simp[results,Tryz.results202,go_sem,i0,i1,i2,i3]) rfl ?_;rw[E.out];exact⟨_,_,_,_,rfl,keep4 F.out.drop.drop⟩
  obtain⟨d,hd⟩:∃d,ds[j]? =some d:=⟨_,List.getElem?_eq_getElem (by have:=HM.out;omega)⟩
  obtain⟨gd,od,cd',ev,t0,t1,t2⟩:=HD.out j d hd;obtain⟨ev1,_,ev2⟩:=Value.slice.inj ev;cases ev1;cases ev2;clear ev;have hWB:=H.out.below;have RN:=hd_ (run_next (n:=n) hd);have T0:=hd_ (fun W (h:Below w.heap.size w W)=>And.intro (cell_later h t0) (And.intro (cell_later h t1) (cell_later h t2)));obtain⟨z1,e1,z2,e2,z3,e3,z4,e4,h1⟩:=H.out.live;obtain⟨a0,a1,a2,a3⟩:=h1.cells4
  have j0:(0:Int)<=(j:Int):=o_;have j1:(j:Int)<(m:Int):=o_;have KC:=hd_ (spCopy_at wr (M.rdNet (b:=.bool true) h1) (copyOk_of OK.out));clear h1 hd t0 t1 t2 hWB
  go_wp2_with fail
  refine KC.out.mono ?_;rintro r w2 ⟨v1,v2,v3,v4,rfl,h2⟩;have h3:=H.out.plus ((h2.alloc #[v1,v2,v3,v4] 289).unlive);obtain⟨y1,d1,rfl,_⟩:=M.form h2;obtain⟨y2,d2,rfl,_⟩:=M.form h2.p1;obtain⟨y3,d3,rfl,_⟩:=M.form h2.p2;obtain⟨y4,d4,rfl,_⟩:=M.form h2.p3;have H3:=hd_ h3;clear h2 h3 KC H a0 a1 a2 a3;go_upto_region 8 with fail
  generalize w2.alloc _=w3 at H3 ⊢;generalize w2.heap.size=p3 at H3 ⊢;obtain⟨t0,t1,t2⟩:=T0.out w3 H3.out.below;have KD:=hd_ (spDo_at (n:=runN n (ds.take j)) H3.out OK.out d.kind d.a d.b);unfold ptrV at KD
  go_wp2_with fail
  refine KD.out.mono ?_;rintro r w4 ⟨rfl,n',hn',h4⟩;have H4:=hd_ h4;have N4:=hd_ hn';have RN2:Hid (runN n (ds.take (j+1))=(doN (runN n (ds.take j)) ⟨d.kind,d.a,d.b⟩).getD (runN n (ds.take j))):=hd_ RN.out;clear h4 hn' KD H3 t0 t1 t2 RN;obtain⟨o,ho⟩:=nm_ (doN (runN n (ds.take j)) ⟨d.kind,d.a,d.b⟩);have OO:=hd_ ho;rw[<-ho]at N4 RN2 ⊢;clear ho;cases o
  case none=>
   have H5:=hd_ H4.out.drop;go_wp2;go_roundw
   case rel=>exact⟨j+1,p,o_,by go_num,rfl,by rw[RN2.out];exact OK.out,by rw[RN2.out];exact H5.out⟩
   case measure=>simp[intOf];omega
  case some nx=>
   have e5:=N4.out nx rfl;subst e5;have O5:=hd_ (ok_do OK.out OO.out.symm);have H5:=hd_ H4.out.p1.drop;go_wp2;go_roundw
   case rel=>exact⟨j+1,p3,o_,by go_num,rfl,by rw[RN2.out];exact O5.out,by rw[RN2.out];exact H5.out⟩
   case measure=>simp[intOf];omega
end
def helloF (m:Nt) (i:Int):Nt:=(helloN m i).1
def tellF (m:Nt) (i:Int):Nt:=(tellN m i).1
def rndN (f:Nt->Int->Nt) (r:Nat) (n:Nt):Nt:=(List.range r).foldl (fun m _=>roundN f m) n
def prtN (f:Nt->Int->Nt) (r k:Nat) (n:Nt):Nt:=(List.range k).foldl (fun (m:Nt) (j:Nat)=>allN (f m (j:Int))) (rndN f r n)
theorem prt_next (f:Nt->Int->Nt) (r k:Nat) (n:Nt):prtN f r (k+1) n=allN (f (prtN f r k n) (k:Int)):=by unfold prtN;rw[List.range_succ,List.foldl_append];rfl
theorem prt_zero (f:Nt->Int->Nt) (r:Nat) (n:Nt):prtN f r 0 n=rndN f r n:=rfl
theorem rnd_zero (f:Nt->Int->Nt) (n:Nt):rndN f 0 n=n:=rfl
theorem prt_end (f:Nt->Int->Nt) (r:Nat) (n:Nt):prtN f r 5 n=rndN f (r+1) n:=by unfold prtN rndN;rw[show List.range (r+1)=List.range r++[r]from List.range_succ,List.foldl_append];rfl
def restOf (n:Nt):Option Nt:=if okNB n=true/\(nodeAt n 0).beacon<1000 then some (restN n)else none
theorem rest_is (n:Nt):restN n=rndN tellF 5 (rndN helloF 5 (setNode (allN n) 0 { nodeAt (allN n) 0 with beacon:=(nodeAt (allN n) 0).beacon+1 })):=rfl
theorem spNetRest_at (w:World) {x1 x2 x3 x4:Option Addr} {k1 c1 k2 c2 k3 c3 k4 c4:Nat} {n:Nt} (hn:NetRd w (.slice x1 k1 c1) (.slice x2 k2 c2) (.slice x3 k3 c3) (.slice x4 k4 c4) n):
  Calls Tryz.prog 204 #[.agg #[.slice x1 k1 c1,.slice x2 k2 c2,.slice x3 k3 c3,.slice x4 k4 c4]] w (AnsM w (restOf n)):=by
 have HN:=hd_ hn;have X:=((M.start w).alloc #[.slice x1 k1 c1,.slice x2 k2 c2,.slice x3 k3 c3,.slice x4 k4 c4] 30).alloc #[zn,zn,zn,zn] 30;simp only[World.size_alloc]at X;obtain⟨q1,hq1⟩:=nm_ w.heap.size;obtain⟨q2,hq2⟩:=nm_ (w.heap.size+1);obtain⟨W0,hW0⟩:=nm_ ((w.alloc (.cells #[.slice x1 k1 c1,.slice x2 k2 c2,.slice x3 k3 c3,.slice x4 k4 c4] 30)).alloc (.cells #[zn,zn,zn,zn] 30))
 rw[<-hW0, <-hq2]at X;have H0:=hd_ (show M w.heap.size w W0 [boxC q2 30 #[zn,zn,zn,zn],boxC q1 30 #[.slice x1 k1 c1,.slice x2 k2 c2,.slice x3 k3 c3,.slice x4 k4 c4]] by rw[hq1];exact X);clear X;obtain⟨b,hb⟩:=nm_ (okNB n);have KO:=hd_ (spNetOk_at W0 (HN.out.below H0.out.below lr_));rw[<-hb]at KO;have OB:=hd_ hb;clear hb;obtain⟨fn,n1⟩:=hn.nodes;go_enter Tryz.func204,Tryz.ntmps204
 go_upto_region 1 with fail
 rw[<-hW0, <-hq2, <-hq1];clear hW0 hq2 hq1 hn;obtain⟨b0,b1,b2,b3⟩:=H0.out.p1.cells4;cases b
 case false=>
  have E:=hd_ (show restOf n=none by unfold restOf;rw[if_neg (fun q=>by rw[<-OB.out]at q;cases q.1)]);clear n1
  go_wp2_with fail
  refine KO.out.mono ?_;rintro r w1 ⟨rfl,hb1⟩;have H:=hd_ (H0.out.later hb1);clear hb1 KO H0 b0 b1 b2 b3;obtain⟨a0,a1,a2,a3⟩:=H.out.cells4;have af:=H.out.free;have F:=hd_ (H.out.set4 zn zn zn zn);clear H;go_wp2;obtain⟨e0,e1,e2,e3⟩:=F.out.cells4
  (try simp only[Exit.inBlock,Exit.then])
  refine bodyPost_ret (v:=.tuple #[.agg #[zn,zn,zn,zn],.bool false]) (by simp[results,Tryz.results204,go_sem,e0,e1,e2,e3]) rfl ?_;rw[E.out];exact ansM_none F.out
 have OK:=hd_ (okNB_iff.1 OB.out.symm);obtain rfl:k1=5:=(slcR_row n1).1.trans OK.out.nodes;obtain⟨nd,hnd⟩:=nm_ (nodeAt n 0);have gx:n.nodes[0]? =some nd:=by rw[hnd];exact node_get (i:=0) OK.out.nodes o_
 obtain⟨g0,xk,ck,fk,rfl,_,_,kr,_,_,y0,y1,bz,y3,y4⟩:=node_at n1 gx;rw[Nat.zero_mul,Nat.zero_add]at bz;replace bz:=cell_later H0.out.below bz;have ND:=hd_ hnd;clear n1 kr y0 y1 y3 y4 gx hnd
 by_cases hle:nd.beacon<1000
 case neg=>
  have E:=hd_ (show restOf n=none by unfold restOf;rw[if_neg (fun q=>hle (by rw[ND.out];exact q.2))]);have g2:(1000:Int)<=nd.beacon:=o_;clear hle
  go_wp2_with fail
  refine KO.out.mono ?_;rintro r w1 ⟨rfl,hb1⟩;have H:=hd_ (H0.out.later hb1);have bz':=cell_later hb1 bz;clear hb1 KO H0 b0 b1 b2 b3 bz;obtain⟨b0,b1,b2,b3⟩:=H.out.p1.cells4;obtain⟨a0,a1,a2,a3⟩:=H.out.cells4;have af:=H.out.free;have F:=hd_ (H.out.set4 zn zn zn zn);clear H;go_wp2;obtain⟨e0,e1,e2,e3⟩:=F.out.cells4
  (try simp only[Exit.inBlock,Exit.then])
  refine bodyPost_ret (v:=.tuple #[.agg #[zn,zn,zn,zn],.bool false]) (by simp[results,Tryz.results204,go_sem,e0,e1,e2,e3]) rfl ?_;rw[E.out];exact ansM_none F.out
 have E:=hd_ (show restOf n=some (restN n) by unfold restOf;rw[if_pos ⟨OB.out.symm,by rw[<-ND.out];exact hle⟩]);have BB:Hid ((nodeAt (allN n) 0).beacon+1<=1000):=hd_ (by
    have b0:(nodeAt (allN n) 0).beacon=(nodeAt n 0).beacon:=(hears_same n.words OK.out OK.out.word).1
    rw[b0, <-ND.out];omega)
 have g2:¬(1000:Int)<=nd.beacon:=o_;clear hle
 go_wp2_with fail
 refine KO.out.mono ?_;rintro r w1 ⟨rfl,hb1⟩;have H:=hd_ (H0.out.later hb1);have bz':=cell_later hb1 bz;clear hb1 KO H0 b0 b1 b2 b3 bz;obtain⟨b0,b1,b2,b3⟩:=H.out.p1.cells4;have KC:=hd_ (spCopy_at w1 (HN.out.below H.out.below lr_) (copyOk_of OK.out))
 go_wp2_with fail
 refine KC.out.mono ?_;rintro r w2 ⟨v1,v2,v3,v4,rfl,h2⟩;have h3:=H.out.plus ((h2.alloc #[v1,v2,v3,v4] 289).unlive);obtain⟨y1,d1,rfl,_⟩:=M.form h2;obtain⟨y2,d2,rfl,_⟩:=M.form h2.p1;obtain⟨y3,d3,rfl,_⟩:=M.form h2.p2;obtain⟨y4,d4,rfl,_⟩:=M.form h2.p3;have H3:=hd_ h3;clear h2 h3 KC H b0 b1 b2 b3 bz';go_upto_region 4 with fail
 generalize w2.alloc _=w3 at H3 ⊢;generalize w2.heap.size=p0 at H3 ⊢;have KA:=hd_ (spAll_at (n:=n) H3.out OK.out);unfold ptrV at KA
 go_wp2_with fail
 refine KA.out.mono ?_;rintro r w4 ⟨rfl,h4⟩;have H4:=hd_ h4;have O4:=hd_ (ok_all OK.out);clear h4 KA H3 OK;obtain⟨m0,hm0⟩:=nm_ (allN n);obtain⟨n1,hn1⟩:=nm_ (setNode m0 0 { nodeAt m0 0 with beacon:=(nodeAt m0 0).beacon+1 });have E1:Hid (restOf n=some (rndN tellF 5 (rndN helloF 5 n1))):=hd_ (by rw[E.out,rest_is, <-hm0, <-hn1]);rw[<-hm0]at H4 O4 BB
 have O5:Hid (NetOk n1):=hd_ (by rw[hn1];exact ok_beacon O4.out BB.out);clear E;have E:=E1;clear E1 hm0;obtain⟨md,hmd⟩:=nm_ (nodeAt m0 0);have gx:m0.nodes[0]? =some md:=by rw[hmd];exact node_get (i:=0) O4.out.nodes o_
 have bm:0<=md.beacon/\md.beacon+1<=1000:=by
  rw[hmd];exact⟨((O4.out.way 0 zero_node).beacon).1,BB.out⟩
 obtain⟨bm0,bm1⟩:=bm;have l5:=O4.out.nodes;rw[<-hmd]at hn1;have en1:n1={ m0 with nodes:=m0.nodes.set 0 { md with beacon:=md.beacon+1 } }:=hn1;obtain⟨ns,ls,ws,ps⟩:=m0;simp only at gx l5 en1;obtain⟨z1,e1,z2,e2,z3,e3,z4,e4,h1⟩:=H4.out.live;simp only at h1;rw[l5]at h1;have h2:=h1.drew;obtain⟨f1,hf1⟩:=h2.p1.nodesRd;obtain⟨g1,xk1,ck1,fk1,rfl,_,_,kr,_,_,y0,yy1,bz,yy3,yy4⟩:=node_at hf1 gx
 rw[Nat.zero_mul,Nat.zero_add]at bz;obtain⟨a0,a1,a2,a3⟩:=h2.cells4;have S0:Hid (Cells w4.drew (b4L p0 (.slice (some ⟨g1,0,none⟩) 5 e1) (.slice z2 ls.length e2) (.slice z3 ws.length e3) (.slice z4 ps.length e4)++[(⟨g1,2,none⟩,.int .i64 md.beacon)])):=hd_ ⟨a0,a1,a2,a3,bz,trivial⟩;obtain⟨⟨u,cu⟩,fu,h3⟩:=(M.setNum h2.p1 gx (md.beacon+1)).2.1;rw[Nat.zero_mul,Nat.zero_add]at cu fu h3
 have wr1:IntKind.i64.wrap (md.beacon+1)=md.beacon+1:=IntWalk.i64_in _ o_;obtain⟨V,hV⟩:=nm_ w4.drew;rw[<-hV]at S0 cu fu h3;have EV:=hd_ hV;have H5':=hd_ (show M w.heap.size w _ [liveC p0 n1,boxC q2 30 #[zn,zn,zn,zn],boxC q1 30 #[.slice (some ⟨g0,0,none⟩) 5 c1,.slice x2 k2 c2,.slice x3 k3 c3,.slice x4 k4 c4]] by rw[en1];exact (h3.p1).unlive)
 clear hV h1 h2 h3 hf1 kr y0 yy1 bz yy3 yy4 a0 a1 a2 a3 hmd H4 O4 gx l5 en1 hn1 BB OB ND HN;go_wp2
 refine wp_region_plan 16 (.tk 0 16 (.alt 16 .done .nomore)) (fun w'=>Cells w' (b4L p0 (.slice (some ⟨g1,0,none⟩) 5 e1) (.slice z2 ls.length e2) (.slice z3 ws.length e3) (.slice z4 ps.length e4)++[(⟨g1,2,none⟩,.int .i64 md.beacon)])) (by kernel_rfl) (by kernel_rfl) (fun _ _ _ _ _ h=>h) (by rw[<-EV.out];exact S0.out) ?_;rw[<-EV.out]
 repeat (first|refine tC_ ?_|refine tB_ ?_)
 refine plan_last (by rfl) (fun K hK=>?_);go_simp;refine hK _ _ (.inl rfl) ?_;clear hK K
 try refine tP_ ?_
 refine plan_done ?_;obtain⟨V2,hV2⟩:=nm_ (V.setCell ⟨g1,2,none⟩ (iv (md.beacon+1)));rw[<-hV2]at H5' ⊢;have H5:=H5';clear hV2 cu fu S0 EV H5';go_wp2
 go_loopw [5] (fun z wr=>∃r:Nat,r<=5/\z=.int .i64 (r:Int)/\NetOk (rndN helloF r n1)/\M w.heap.size w wr [liveC p0 (rndN helloF r n1),boxC q2 30 #[zn,zn,zn,zn],boxC q1 30 #[.slice (some ⟨g0,0,none⟩) 5 c1,.slice x2 k2 c2,.slice x3 k3 c3,.slice x4 k4 c4]]) (fun z _=>5 - (intOf z).toNat)
 case atStart=>exact⟨0,o_,rfl,by rw[rnd_zero];exact O5.out,by rw[rnd_zero];exact H5.out⟩
 case round=>
  clear H5 O5;obtain⟨r,hr,rfl,hok,hM⟩:=hrel;have H:=hd_ hM;have OK:=hd_ hok;clear hM hok
  by_cases hr5:r<5
  case pos=>
   have r1:(r:Int)<5:=o_;go_wp2;go_loopw [6] (fun z wr=>∃k:Nat,k<=5/\z=.int .i64 (k:Int)/\NetOk (prtN helloF r k n1)/\M w.heap.size w wr [liveC p0 (prtN helloF r k n1),boxC q2 30 #[zn,zn,zn,zn],boxC q1 30 #[.slice (some ⟨g0,0,none⟩) 5 c1,.slice x2 k2 c2,.slice x3 k3 c3,.slice x4 k4 c4]]) (fun z _=>5 - (intOf z).toNat)
   case atStart=>exact⟨0,o_,rfl,by rw[prt_zero];exact OK.out,by rw[prt_zero];exact H.out⟩
   case round=>
    clear H OK;obtain⟨k,hk,rfl,hok,hM⟩:=hrel;have H:=hd_ hM;have OK:=hd_ hok;clear hM hok
    by_cases hk5:k<5
    case pos=>
     have k1:(k:Int)<5:=o_;have hin:isNode (k:Int):=by unfold isNode;omega
     obtain⟨o1,nn,_,_⟩:=hello_keeps OK.out hin;have O1:=hd_ o1;have KH:=hd_ (spHello_at (n:=prtN helloF r k n1) (i:=k) H.out (ok_sized OK.out) hk5);have PX:=hd_ (prt_next helloF r k n1);clear hin o1 nn;unfold ptrV at KH
     go_wp2_with fail
     refine KH.out.mono ?_;rintro r0 w2 ⟨rfl,h2⟩;have KA:=hd_ (spAll_at h2 O1.out);unfold ptrV at KA;clear h2 KH H
     go_wp2_with fail
     refine KA.out.mono ?_;rintro r1 w3 ⟨rfl,h3⟩;have H3:=hd_ h3;have O3:=hd_ (ok_all O1.out);clear h3 KA;go_wp2;go_roundw
     case rel=>exact⟨k+1,o_,by go_num,by rw[PX.out];exact O3.out,by rw[PX.out];exact H3.out⟩
     case measure=>simp[intOf];omega
    obtain rfl:k=5:=o_;have PX:=hd_ (prt_end helloF r n1);go_wp2;go_roundw
    case rel=>exact⟨r+1,o_,by go_num,by rw[<-PX.out];exact OK.out,by rw[<-PX.out];exact H.out⟩
    case measure=>simp[intOf];omega
  obtain rfl:r=5:=o_
  try simp only[Int.cast_ofNat_Int]
  obtain⟨n2,hn2⟩:=nm_ (rndN helloF 5 n1);rw[<-hn2]at H OK;have HN2:=hd_ hn2;clear hn2;have H7:=H;have O7:=OK;clear H OK;go_wp2
  go_loopw [7] (fun z wr=>∃r:Nat,r<=5/\z=.int .i64 (r:Int)/\NetOk (rndN tellF r n2)/\M w.heap.size w wr [liveC p0 (rndN tellF r n2),boxC q2 30 #[zn,zn,zn,zn],boxC q1 30 #[.slice (some ⟨g0,0,none⟩) 5 c1,.slice x2 k2 c2,.slice x3 k3 c3,.slice x4 k4 c4]]) (fun z _=>5 - (intOf z).toNat)
  case atStart=>exact⟨0,o_,rfl,by rw[rnd_zero];exact O7.out,by rw[rnd_zero];exact H7.out⟩
  case round=>
   clear H7 O7;obtain⟨r,hr,rfl,hok,hM⟩:=hrel;have H:=hd_ hM;have OK:=hd_ hok;clear hM hok
   by_cases hr5:r<5
   case pos=>
    have r1:(r:Int)<5:=o_;go_wp2;go_loopw [8] (fun z wr=>∃k:Nat,k<=5/\z=.int .i64 (k:Int)/\NetOk (prtN tellF r k n2)/\M w.heap.size w wr [liveC p0 (prtN tellF r k n2),boxC q2 30 #[zn,zn,zn,zn],boxC q1 30 #[.slice (some ⟨g0,0,none⟩) 5 c1,.slice x2 k2 c2,.slice x3 k3 c3,.slice x4 k4 c4]]) (fun z _=>5 - (intOf z).toNat)
    case atStart=>exact⟨0,o_,rfl,by rw[prt_zero];exact OK.out,by rw[prt_zero];exact H.out⟩
    case round=>
     clear H OK;obtain⟨k,hk,rfl,hok,hM⟩:=hrel;have H:=hd_ hM;have OK:=hd_ hok;clear hM hok
     by_cases hk5:k<5
     case pos=>
      have k1:(k:Int)<5:=o_;have hin:isNode (k:Int):=by unfold isNode;omega
      obtain⟨o1,nn,_,_⟩:=tell_keeps OK.out hin;have O1:=hd_ o1;have KH:=hd_ (spTell_at (n:=prtN tellF r k n2) (i:=k) H.out (ok_sized OK.out) hk5 (up_max OK.out hin) (by have:=known_len (OK.out.known _ hin);omega) (known_okS (OK.out.known _ hin)));have PX:=hd_ (prt_next tellF r k n2);clear hin o1 nn;unfold ptrV at KH
      go_wp2_with fail
      refine KH.out.mono ?_;rintro r0 w2 ⟨rfl,h2⟩;have KA:=hd_ (spAll_at h2 O1.out);unfold ptrV at KA;clear h2 KH H
      go_wp2_with fail
      refine KA.out.mono ?_;rintro r1 w3 ⟨rfl,h3⟩;have H3:=hd_ h3;have O3:=hd_ (ok_all O1.out);clear h3 KA;go_wp2;go_roundw
      case rel=>exact⟨k+1,o_,by go_num,by rw[PX.out];exact O3.out,by rw[PX.out];exact H3.out⟩
      case measure=>simp[intOf];omega
     obtain rfl:k=5:=o_;have PX:=hd_ (prt_end tellF r n2);go_wp2;go_roundw
     case rel=>exact⟨r+1,o_,by go_num,by rw[<-PX.out];exact OK.out,by rw[<-PX.out];exact H.out⟩
     case measure=>simp[intOf];omega
   obtain rfl:r=5:=o_
   try simp only[Int.cast_ofNat_Int]
   have E2:Hid (restOf n=some (rndN tellF 5 n2)):=hd_ (by rw[E.out,HN2.out]);obtain⟨mm,hmm⟩:=nm_ (rndN tellF 5 n2);rw[<-hmm]at H E2;clear hmm;obtain⟨z1,e1,z2,e2,z3,e3,z4,e4,h1⟩:=H.out.live;obtain⟨a0,a1,a2,a3⟩:=h1.cells4;obtain⟨b0,b1,b2,b3⟩:=h1.p5.cells4;have bf:=h1.p5.free
   have F:=hd_ (h1.p5.set4 (.slice z1 mm.nodes.length e1) (.slice z2 mm.links.length e2) (.slice z3 mm.words.length e3) (.slice z4 mm.past.length e4));clear h1 H;go_wp2;obtain⟨i0,i1,i2,i3⟩:=F.out.cells4
   (try simp only[Exit.inBlock,Exit.then])
   refine bodyPost_ret (v:=.tuple #[.agg #[.slice z1 mm.nodes.length e1,.slice z2 mm.links.length e2,.slice z3 mm.words.length e3,.slice z4 mm.past.length e4],.bool true]) (by simp[results,Tryz.results204,go_sem,i0,i1,i2,i3]) rfl ?_;rw[E2.out];exact⟨_,_,_,_,rfl,keep4 F.out.drop.drop⟩
end N
end Go.Proofs.YtcblbdpdbggkbaaGreat
namespace Go.Proofs.YtcblbdpdbggkbaaGreat
open Go.RowKit Go.Sort
theorem M.more {B a k k':Nat} {w0 w:World} {l:List Ch} (h:M B w0 w (rdC w0 B a k::l)) (hk:k<=k'):M B w0 w (rdC w0 B a k'::l):=
 h.to fun f hf nd=>by
  obtain⟨⟨v,n,p,hb,ht,hn,p0,p1⟩,rfl⟩:=hf;exact⟨[a],⟨⟨v,n,p,hb,ht,hn,p0,o_⟩,rfl⟩,nd,fun _ q=>q⟩
namespace N
section
variable {B a k:Nat} {w0 w:World} {l:List Ch}
theorem drew_size (w:World):w.drew.heap.size=w.heap.size:=rfl
theorem lit5 (t:Int) {n:Nat} (h:n<5):∃u:Int,(#[iv 3,iv 5,iv 9,iv 17,iv t]:Array Value)[n]? =some (.int .i64 u):=by
 obtain rfl|rfl|rfl|rfl|rfl:n=0\/n=1\/n=2\/n=3\/n=4:=o_
 all_goals exact⟨_,rfl⟩
theorem lit3 (x y z:Int) {n:Nat} (h:n<3):∃u:Int,(#[iv x,iv y,iv z]:Array Value)[n]? =some (.int .i64 u):=by
 obtain rfl|rfl|rfl:n=0\/n=1\/n=2:=o_
 all_goals exact⟨_,rfl⟩
theorem drawDeed_at (h:M B w0 w (rdC w0 B a k::l)) (hk:k<=99900):Calls Tryz.prog 261 #[.pointer (some ⟨a,0,Option.none⟩)] w fun e w'=>∃x y z:Int,e=.returned (.agg #[iv x,iv y,iv z])/\M B w0 w' (rdC w0 B a (k+4)::l):=by
 have H:=hd_ (h.alloc #[iv 0,iv 0,iv 0] 292).p1;clear h;go_enter Tryz.func261,Tryz.ntmps261
 go_wp2_with fail
 refine (H.out.pick o_ 20 o_ o_).mono ?_;rintro e w1 ⟨p1,rfl,p10,p11,h1⟩;have H1:=hd_ h1;clear h1;obtain q|q|q|q|q|q|q|q|q|q|q|q|q|q|q|q|q|q|q|q:p1=0\/p1=1\/p1=2\/p1=3\/p1=4\/p1=5\/p1=6\/p1=7\/p1=8\/p1=9\/p1=10\/p1=11\/p1=12\/p1=13\/p1=14\/p1=15\/p1=16\/p1=17\/p1=18\/p1=19:=o_
 ·subst q
  clear p10 p11
  go_wp2_with fail
  refine (H1.out.pick o_ 5 o_ o_).mono ?_;rintro e w2 ⟨p2,rfl,p20,p21,h2⟩;have H2:=hd_ h2;clear h2
  go_wp2_with fail
  refine (H2.out.pick o_ 64 o_ o_).mono ?_;rintro e w3 ⟨p3,rfl,p30,p31,h3⟩;have H3:=hd_ h3;clear h3;obtain⟨u,hu⟩:=nm_ w3.heap.size;have H4:=hd_ (((H3.out.alloc #[iv 3,iv 5,iv 9,iv 17,iv p3] 3).p1))
  go_wp2_with fail
  refine (H4.out.pick o_ 5 o_ o_).mono ?_;rintro e w5 ⟨p5,rfl,p50,p51,h5⟩;obtain⟨n,hn⟩:∃n:Nat,p5=n:=⟨p5.toNat,o_⟩
  subst hn;obtain⟨u5,hu5⟩:=lit5 p3 (n:=n) o_;have g5:=h5.p1.cell hu5;have nn:n<5:=o_;have H5:=hd_ h5.p1.drop;clear h5 hu hu5;have hr5:=H5.out.p1.cells3;obtain⟨r0,r1,r2⟩:=hr5;have rf:=H5.out.p1.free;have F:=hd_ (H5.out.p1.set3 (iv 1) (iv p2) (iv u5));go_wp2;obtain⟨d0,d1,d2⟩:=F.out.cells3
  refine bodyPost_ret (v:=.agg #[iv 1,iv p2,iv u5]) (by simp[results,Tryz.results261,go_sem,d0,d1,d2]) rfl ⟨_,_,_,rfl,(F.out.drop).more o_⟩
 ·subst q
  clear p10 p11
  go_wp2_with fail
  refine (H1.out.pick o_ 5 o_ o_).mono ?_;rintro e w2 ⟨p2,rfl,p20,p21,h2⟩;have H2:=hd_ h2;clear h2
  go_wp2_with fail
  refine (H2.out.pick o_ 64 o_ o_).mono ?_;rintro e w3 ⟨p3,rfl,p30,p31,h3⟩;have H3:=hd_ h3;clear h3;obtain⟨u,hu⟩:=nm_ w3.heap.size;have H4:=hd_ (((H3.out.alloc #[iv 3,iv 5,iv 9,iv 17,iv p3] 3).p1))
  go_wp2_with fail
  refine (H4.out.pick o_ 5 o_ o_).mono ?_;rintro e w5 ⟨p5,rfl,p50,p51,h5⟩;obtain⟨n,hn⟩:∃n:Nat,p5=n:=⟨p5.toNat,o_⟩
  subst hn;obtain⟨u5,hu5⟩:=lit5 p3 (n:=n) o_;have g5:=h5.p1.cell hu5;have nn:n<5:=o_;have H5:=hd_ h5.p1.drop;clear h5 hu hu5;have hr5:=H5.out.p1.cells3;obtain⟨r0,r1,r2⟩:=hr5;have rf:=H5.out.p1.free;have F:=hd_ (H5.out.p1.set3 (iv 1) (iv p2) (iv u5));go_wp2;obtain⟨d0,d1,d2⟩:=F.out.cells3
  refine bodyPost_ret (v:=.agg #[iv 1,iv p2,iv u5]) (by simp[results,Tryz.results261,go_sem,d0,d1,d2]) rfl ⟨_,_,_,rfl,(F.out.drop).more o_⟩
 ·subst q
  clear p10 p11
  go_wp2_with fail
  refine (H1.out.pick o_ 5 o_ o_).mono ?_;rintro e w2 ⟨p2,rfl,p20,p21,h2⟩;have H2:=hd_ h2;clear h2
  go_wp2_with fail
  refine (H2.out.pick o_ 64 o_ o_).mono ?_;rintro e w3 ⟨p3,rfl,p30,p31,h3⟩;have H3:=hd_ h3;clear h3;obtain⟨u,hu⟩:=nm_ w3.heap.size;have H4:=hd_ (((H3.out.alloc #[iv 3,iv 5,iv 9,iv 17,iv p3] 3).p1))
  go_wp2_with fail
  refine (H4.out.pick o_ 5 o_ o_).mono ?_;rintro e w5 ⟨p5,rfl,p50,p51,h5⟩;obtain⟨n,hn⟩:∃n:Nat,p5=n:=⟨p5.toNat,o_⟩
  subst hn;obtain⟨u5,hu5⟩:=lit5 p3 (n:=n) o_;have g5:=h5.p1.cell hu5;have nn:n<5:=o_;have H5:=hd_ h5.p1.drop;clear h5 hu hu5;have hr5:=H5.out.p1.cells3;obtain⟨r0,r1,r2⟩:=hr5;have rf:=H5.out.p1.free;have F:=hd_ (H5.out.p1.set3 (iv 1) (iv p2) (iv u5));go_wp2;obtain⟨d0,d1,d2⟩:=F.out.cells3
  refine bodyPost_ret (v:=.agg #[iv 1,iv p2,iv u5]) (by simp[results,Tryz.results261,go_sem,d0,d1,d2]) rfl ⟨_,_,_,rfl,(F.out.drop).more o_⟩
 ·subst q
  clear p10 p11
  go_wp2_with fail
  refine (H1.out.pick o_ 5 o_ o_).mono ?_;rintro e w2 ⟨p2,rfl,p20,p21,h2⟩;have H2:=hd_ h2;clear h2
  go_wp2_with fail
  refine (H2.out.pick o_ 64 o_ o_).mono ?_;rintro e w3 ⟨p3,rfl,p30,p31,h3⟩;have H3:=hd_ h3;clear h3;obtain⟨u,hu⟩:=nm_ w3.heap.size;have H4:=hd_ (((H3.out.alloc #[iv 3,iv 5,iv 9,iv 17,iv p3] 3).p1))
  go_wp2_with fail
  refine (H4.out.pick o_ 5 o_ o_).mono ?_;rintro e w5 ⟨p5,rfl,p50,p51,h5⟩;obtain⟨n,hn⟩:∃n:Nat,p5=n:=⟨p5.toNat,o_⟩
  subst hn;obtain⟨u5,hu5⟩:=lit5 p3 (n:=n) o_;have g5:=h5.p1.cell hu5;have nn:n<5:=o_;have H5:=hd_ h5.p1.drop;clear h5 hu hu5;have hr5:=H5.out.p1.cells3;obtain⟨r0,r1,r2⟩:=hr5;have rf:=H5.out.p1.free;have F:=hd_ (H5.out.p1.set3 (iv 1) (iv p2) (iv u5));go_wp2;obtain⟨d0,d1,d2⟩:=F.out.cells3
  refine bodyPost_ret (v:=.agg #[iv 1,iv p2,iv u5]) (by simp[results,Tryz.results261,go_sem,d0,d1,d2]) rfl ⟨_,_,_,rfl,(F.out.drop).more o_⟩
 ·subst q
  clear p10 p11
  go_wp2_with fail
  refine (H1.out.pick o_ 5 o_ o_).mono ?_;rintro e w2 ⟨p2,rfl,p20,p21,h2⟩;have H2:=hd_ h2;clear h2;have hr2:=H2.out.p1.cells3;obtain⟨r0,r1,r2⟩:=hr2;have rf:=H2.out.p1.free;have F:=hd_ (H2.out.p1.set3 (iv 2) (iv p2) (iv 0));go_wp2;obtain⟨d0,d1,d2⟩:=F.out.cells3;refine bodyPost_ret (v:=.agg #[iv 2,iv p2,iv 0]) (by simp[results,Tryz.results261,go_sem,d0,d1,d2]) rfl ⟨_,_,_,rfl,(F.out.drop).more o_⟩
 ·subst q
  clear p10 p11
  go_wp2_with fail
  refine (H1.out.pick o_ 5 o_ o_).mono ?_;rintro e w2 ⟨p2,rfl,p20,p21,h2⟩;have H2:=hd_ h2;clear h2;have hr2:=H2.out.p1.cells3;obtain⟨r0,r1,r2⟩:=hr2;have rf:=H2.out.p1.free;have F:=hd_ (H2.out.p1.set3 (iv 2) (iv p2) (iv 0));go_wp2;obtain⟨d0,d1,d2⟩:=F.out.cells3;refine bodyPost_ret (v:=.agg #[iv 2,iv p2,iv 0]) (by simp[results,Tryz.results261,go_sem,d0,d1,d2]) rfl ⟨_,_,_,rfl,(F.out.drop).more o_⟩
 ·subst q
  clear p10 p11
  go_wp2_with fail
  refine (H1.out.pick o_ 5 o_ o_).mono ?_;rintro e w2 ⟨p2,rfl,p20,p21,h2⟩;have H2:=hd_ h2;clear h2;have hr2:=H2.out.p1.cells3;obtain⟨r0,r1,r2⟩:=hr2;have rf:=H2.out.p1.free;have F:=hd_ (H2.out.p1.set3 (iv 2) (iv p2) (iv 0));go_wp2;obtain⟨d0,d1,d2⟩:=F.out.cells3;refine bodyPost_ret (v:=.agg #[iv 2,iv p2,iv 0]) (by simp[results,Tryz.results261,go_sem,d0,d1,d2]) rfl ⟨_,_,_,rfl,(F.out.drop).more o_⟩
 ·subst q
  clear p10 p11
  go_wp2_with fail
  refine (H1.out.pick o_ 5 o_ o_).mono ?_;rintro e w2 ⟨p2,rfl,p20,p21,h2⟩;have H2:=hd_ h2;clear h2;have hr2:=H2.out.p1.cells3;obtain⟨r0,r1,r2⟩:=hr2;have rf:=H2.out.p1.free;have F:=hd_ (H2.out.p1.set3 (iv 3) (iv p2) (iv 0));go_wp2;obtain⟨d0,d1,d2⟩:=F.out.cells3;refine bodyPost_ret (v:=.agg #[iv 3,iv p2,iv 0]) (by simp[results,Tryz.results261,go_sem,d0,d1,d2]) rfl ⟨_,_,_,rfl,(F.out.drop).more o_⟩
 ·subst q
  clear p10 p11
  go_wp2_with fail
  refine (H1.out.pick o_ 5 o_ o_).mono ?_;rintro e w2 ⟨p2,rfl,p20,p21,h2⟩;have H2:=hd_ h2;clear h2;have hr2:=H2.out.p1.cells3;obtain⟨r0,r1,r2⟩:=hr2;have rf:=H2.out.p1.free;have F:=hd_ (H2.out.p1.set3 (iv 3) (iv p2) (iv 0));go_wp2;obtain⟨d0,d1,d2⟩:=F.out.cells3;refine bodyPost_ret (v:=.agg #[iv 3,iv p2,iv 0]) (by simp[results,Tryz.results261,go_sem,d0,d1,d2]) rfl ⟨_,_,_,rfl,(F.out.drop).more o_⟩
 ·subst q
  clear p10 p11
  go_wp2_with fail
  refine (H1.out.pick o_ 5 o_ o_).mono ?_;rintro e w2 ⟨p2,rfl,p20,p21,h2⟩;have H2:=hd_ h2;clear h2;have hr2:=H2.out.p1.cells3;obtain⟨r0,r1,r2⟩:=hr2;have rf:=H2.out.p1.free;have F:=hd_ (H2.out.p1.set3 (iv 3) (iv p2) (iv 0));go_wp2;obtain⟨d0,d1,d2⟩:=F.out.cells3;refine bodyPost_ret (v:=.agg #[iv 3,iv p2,iv 0]) (by simp[results,Tryz.results261,go_sem,d0,d1,d2]) rfl ⟨_,_,_,rfl,(F.out.drop).more o_⟩
 ·subst q
  clear p10 p11
  go_wp2_with fail
  refine (H1.out.pick o_ 4 o_ o_).mono ?_;rintro e w2 ⟨p2,rfl,p20,p21,h2⟩;have H2:=hd_ h2;clear h2;have hr2:=H2.out.p1.cells3;obtain⟨r0,r1,r2⟩:=hr2;have rf:=H2.out.p1.free;have F:=hd_ (H2.out.p1.set3 (iv 4) (iv p2) (iv 0));go_wp2;obtain⟨d0,d1,d2⟩:=F.out.cells3;refine bodyPost_ret (v:=.agg #[iv 4,iv p2,iv 0]) (by simp[results,Tryz.results261,go_sem,d0,d1,d2]) rfl ⟨_,_,_,rfl,(F.out.drop).more o_⟩
 ·subst q
  clear p10 p11
  go_wp2_with fail
  refine (H1.out.pick o_ 4 o_ o_).mono ?_;rintro e w2 ⟨p2,rfl,p20,p21,h2⟩;have H2:=hd_ h2;clear h2;have hr2:=H2.out.p1.cells3;obtain⟨r0,r1,r2⟩:=hr2;have rf:=H2.out.p1.free;have F:=hd_ (H2.out.p1.set3 (iv 4) (iv p2) (iv 0));go_wp2;obtain⟨d0,d1,d2⟩:=F.out.cells3;refine bodyPost_ret (v:=.agg #[iv 4,iv p2,iv 0]) (by simp[results,Tryz.results261,go_sem,d0,d1,d2]) rfl ⟨_,_,_,rfl,(F.out.drop).more o_⟩
 ·subst q
  clear p10 p11
  go_wp2_with fail
  refine (H1.out.pick o_ 4 o_ o_).mono ?_;rintro e w2 ⟨p2,rfl,p20,p21,h2⟩;have H2:=hd_ h2;clear h2;have hr2:=H2.out.p1.cells3;obtain⟨r0,r1,r2⟩:=hr2;have rf:=H2.out.p1.free;have F:=hd_ (H2.out.p1.set3 (iv 4) (iv p2) (iv 0));go_wp2;obtain⟨d0,d1,d2⟩:=F.out.cells3;refine bodyPost_ret (v:=.agg #[iv 4,iv p2,iv 0]) (by simp[results,Tryz.results261,go_sem,d0,d1,d2]) rfl ⟨_,_,_,rfl,(F.out.drop).more o_⟩
 ·subst q
  clear p10 p11
  go_wp2_with fail
  refine (H1.out.pick o_ 4 o_ o_).mono ?_;rintro e w2 ⟨p2,rfl,p20,p21,h2⟩;have H2:=hd_ h2;clear h2;have hr2:=H2.out.p1.cells3;obtain⟨r0,r1,r2⟩:=hr2;have rf:=H2.out.p1.free;have F:=hd_ (H2.out.p1.set3 (iv 4) (iv p2) (iv 0));go_wp2;obtain⟨d0,d1,d2⟩:=F.out.cells3;refine bodyPost_ret (v:=.agg #[iv 4,iv p2,iv 0]) (by simp[results,Tryz.results261,go_sem,d0,d1,d2]) rfl ⟨_,_,_,rfl,(F.out.drop).more o_⟩
 ·subst q
  clear p10 p11
  go_wp2_with fail
  refine (H1.out.pick o_ 4 o_ o_).mono ?_;rintro e w2 ⟨p2,rfl,p20,p21,h2⟩;have H2:=hd_ h2;clear h2;have hr2:=H2.out.p1.cells3;obtain⟨r0,r1,r2⟩:=hr2;have rf:=H2.out.p1.free;have F:=hd_ (H2.out.p1.set3 (iv 4) (iv p2) (iv 0));go_wp2;obtain⟨d0,d1,d2⟩:=F.out.cells3;refine bodyPost_ret (v:=.agg #[iv 4,iv p2,iv 0]) (by simp[results,Tryz.results261,go_sem,d0,d1,d2]) rfl ⟨_,_,_,rfl,(F.out.drop).more o_⟩
 ·subst q
  clear p10 p11
  go_wp2_with fail
  refine (H1.out.pick o_ 5 o_ o_).mono ?_;rintro e w2 ⟨p2,rfl,p20,p21,h2⟩;have H2:=hd_ h2;clear h2;have hr2:=H2.out.p1.cells3;obtain⟨r0,r1,r2⟩:=hr2;have rf:=H2.out.p1.free;have F:=hd_ (H2.out.p1.set3 (iv 5) (iv p2) (iv 0));go_wp2;obtain⟨d0,d1,d2⟩:=F.out.cells3;refine bodyPost_ret (v:=.agg #[iv 5,iv p2,iv 0]) (by simp[results,Tryz.results261,go_sem,d0,d1,d2]) rfl ⟨_,_,_,rfl,(F.out.drop).more o_⟩
 ·subst q
  clear p10 p11
  go_wp2_with fail
  refine (H1.out.pick o_ 6 o_ o_).mono ?_;rintro e w2 ⟨p2,rfl,p20,p21,h2⟩;have H2:=hd_ h2;clear h2;have hr2:=H2.out.p1.cells3;obtain⟨r0,r1,r2⟩:=hr2;have rf:=H2.out.p1.free;have F:=hd_ (H2.out.p1.set3 (iv 6) (iv p2) (iv 0));go_wp2;obtain⟨d0,d1,d2⟩:=F.out.cells3;refine bodyPost_ret (v:=.agg #[iv 6,iv p2,iv 0]) (by simp[results,Tryz.results261,go_sem,d0,d1,d2]) rfl ⟨_,_,_,rfl,(F.out.drop).more o_⟩
 ·subst q
  clear p10 p11;have hr1:=H1.out.p1.cells3;obtain⟨r0,r1,r2⟩:=hr1;have rf:=H1.out.p1.free;have F:=hd_ (H1.out.p1.set3 (iv 8) (iv 0) (iv 0));go_wp2;obtain⟨d0,d1,d2⟩:=F.out.cells3;refine bodyPost_ret (v:=.agg #[iv 8,iv 0,iv 0]) (by simp[results,Tryz.results261,go_sem,d0,d1,d2]) rfl ⟨_,_,_,rfl,(F.out.drop).more o_⟩
 ·subst q
  clear p10 p11;go_upto_region 28 with fail
  have HD:=hd_ H1.out.drew
  refine wp_region_plan 10 (.take 1 (.take 5 (.take 7 (.alt 0 (.alt 2 (.take 3 (.alt 4 (.alt 6 (.alt 8 (.take 9 (.alt 10 .done .nomore)) .nomore) .nomore) (.alt 6 (.alt 4 (.alt 8 (.take 9 (.alt 10 .done .nomore)) .nomore) (.alt 8 (.alt 4 (.take 9 (.alt 10 .done .nomore)) .nomore) .nomore)) .nomore))) .nomore) (.alt 2 (.alt 0 (.take 3 (.alt 4 (.alt 6 (.alt 8 (.take 9 (.alt 10 .done .nomore)) .nomore) .nomore) (.alt 6 (.alt 4 (.alt 8 (.take 9 (.alt 10 .done .nomore)) .nomore) (.alt 8 (.alt 4 (.take 9 (.alt 10 .done .nomore)) .nomore) .nomore)) .nomore))) (.alt 6 (.alt 0 (.take 3 (.alt 4 (.alt 8 (.take 9 (.alt 10 .done .nomore)) .nomore) (.alt 8 (.alt 4 (.take 9 (.alt 10 .done .nomore)) .nomore) .nomore))) (.alt 8 (.alt 0 (.take 3 (.alt 4 (.take 9 (.alt 10 .done .nomore)) .nomore)) .nomore) .nomore)) .nomore)) .nomore))))) (fun _=>True) (by kernel_rfl) (by kernel_rfl) (fun _ _ _ _ _ h=>h) trivial ?_
  repeat (first|refine tA_ ?_|refine tB_ ?_)
  refine plan_alt (by rfl) (fun K' hK=>?_) ?_
  ·skip
   go_simp;have hh:=(HD.out.alloc #[iv 9,iv 10,iv 10] 3).p1
   (try rw[drew_size]at hh)
   have HDa:=hd_ hh;clear hh;refine hK _ _ (.inr trivial) ?_;clear hK K'
   try refine tP_ ?_
   refine plan_last (by rfl) (fun K' hK=>?_);go_simp;refine (HDa.out.pick o_ 3 o_ o_).mono ?_;rintro e w2 ⟨p2,rfl,p20,p21,hh⟩;have HDab:=hd_ hh;clear hh;obtain⟨n,hn⟩:∃n:Nat,p2=n:=⟨p2.toNat,o_⟩
   subst hn;obtain⟨u5,hu5⟩:=lit3 9 10 10 (n:=n) o_;have nn:n<3:=o_;have n0:(0:Int)<=(n:Int):=o_;have n3:(n:Int)<3:=o_;have HU:=hd_ hu5;clear hu5 p20 p21;refine hK _ _ (.inr trivial) ?_;clear hK K'
   try refine tP_ ?_
   repeat (first|refine tA_ ?_|refine tB_ ?_)
   refine plan_alt (by rfl) (fun K' hK=>?_) ?_
   ·skip
    have g5:=HDab.out.p1.cell HU.out;go_simp;refine hK _ _ (.inr trivial) ?_;clear hK K'
    try refine tP_ ?_
    refine plan_last (by rfl) (fun K' hK=>?_);go_simp;refine (HDab.out.pick o_ 5 o_ o_).mono ?_;rintro e w6 ⟨p6,rfl,p60,p61,hh⟩;have HDabb:=hd_ hh;clear hh;refine hK _ _ (.inr trivial) ?_;clear hK K'
    try refine tP_ ?_
    refine plan_last (by rfl) (fun K' hK=>?_);go_simp;refine (HDabb.out.pick o_ 5 o_ o_).mono ?_;rintro e w8 ⟨p8,rfl,p80,p81,hh⟩;have HDabbb:=hd_ hh;clear hh;refine hK _ _ (.inr trivial) ?_;clear hK K'
    try refine tP_ ?_
    repeat (first|refine tA_ ?_|refine tB_ ?_)
    refine plan_last (by rfl) (fun K' hK=>?_);obtain⟨r0,r1,r2⟩:=HDabbb.out.p2.cells3;have rf:=HDabbb.out.p2.free;have F:=hd_ (HDabbb.out.p2.set3 (iv u5) (iv p6) (iv p8));go_simp;refine hK _ _ (.inl rfl) ?_;clear hK K'
    try refine tP_ ?_
    refine plan_done ?_;clear r0 r1 r2 rf;go_wp2;obtain⟨d0,d1,d2⟩:=F.out.cells3;refine bodyPost_ret (v:=.agg #[iv u5,iv p6,iv p8]) (by simp[results,Tryz.results261,go_sem,d0,d1,d2]) rfl ⟨_,_,_,rfl,(F.out.drop.p1.drop).more o_⟩
   ·skip
    refine plan_last (by rfl) (fun K' hK=>?_)
    skip
    go_simp;refine (HDab.out.pick o_ 5 o_ o_).mono ?_;rintro e w6 ⟨p6,rfl,p60,p61,hh⟩;have HDabb:=hd_ hh;clear hh;refine hK _ _ (.inr trivial) ?_;clear hK K'
    try refine tP_ ?_
    refine plan_alt (by rfl) (fun K' hK=>?_) ?_
    ·skip
     have g5:=HDabb.out.p1.cell HU.out;go_simp;refine hK _ _ (.inr trivial) ?_;clear hK K'
     try refine tP_ ?_
     refine plan_last (by rfl) (fun K' hK=>?_);go_simp;refine (HDabb.out.pick o_ 5 o_ o_).mono ?_;rintro e w8 ⟨p8,rfl,p80,p81,hh⟩;have HDabbb:=hd_ hh;clear hh;refine hK _ _ (.inr trivial) ?_;clear hK K'
     try refine tP_ ?_
     repeat (first|refine tA_ ?_|refine tB_ ?_)
     refine plan_last (by rfl) (fun K' hK=>?_);obtain⟨r0,r1,r2⟩:=HDabbb.out.p2.cells3;have rf:=HDabbb.out.p2.free;have F:=hd_ (HDabbb.out.p2.set3 (iv u5) (iv p6) (iv p8));go_simp;refine hK _ _ (.inl rfl) ?_;clear hK K'
     try refine tP_ ?_
     refine plan_done ?_;clear r0 r1 r2 rf;go_wp2;obtain⟨d0,d1,d2⟩:=F.out.cells3;refine bodyPost_ret (v:=.agg #[iv u5,iv p6,iv p8]) (by simp[results,Tryz.results261,go_sem,d0,d1,d2]) rfl ⟨_,_,_,rfl,(F.out.drop.p1.drop).more o_⟩
    ·skip
     refine plan_last (by rfl) (fun K' hK=>?_)
     skip
     go_simp;refine (HDabb.out.pick o_ 5 o_ o_).mono ?_;rintro e w8 ⟨p8,rfl,p80,p81,hh⟩;have HDabbb:=hd_ hh;clear hh;refine hK _ _ (.inr trivial) ?_;clear hK K'
     try refine tP_ ?_
     refine plan_last (by rfl) (fun K' hK=>?_);have g5:=HDabbb.out.p1.cell HU.out;go_simp;refine hK _ _ (.inr trivial) ?_;clear hK K'
     try refine tP_ ?_
     repeat (first|refine tA_ ?_|refine tB_ ?_)
     refine plan_last (by rfl) (fun K' hK=>?_);obtain⟨r0,r1,r2⟩:=HDabbb.out.p2.cells3;have rf:=HDabbb.out.p2.free;have F:=hd_ (HDabbb.out.p2.set3 (iv u5) (iv p6) (iv p8));go_simp;refine hK _ _ (.inl rfl) ?_;clear hK K'
     try refine tP_ ?_
     refine plan_done ?_;clear r0 r1 r2 rf;go_wp2;obtain⟨d0,d1,d2⟩:=F.out.cells3;refine bodyPost_ret (v:=.agg #[iv u5,iv p6,iv p8]) (by simp[results,Tryz.results261,go_sem,d0,d1,d2]) rfl ⟨_,_,_,rfl,(F.out.drop.p1.drop).more o_⟩
  ·skip
   refine plan_last (by rfl) (fun K' hK=>?_)
   skip
   go_simp;refine (HD.out.pick o_ 3 o_ o_).mono ?_;rintro e w2 ⟨p2,rfl,p20,p21,hh⟩;have HDb:=hd_ hh;clear hh;obtain⟨n,hn⟩:∃n:Nat,p2=n:=⟨p2.toNat,o_⟩
   subst hn;obtain⟨u5,hu5⟩:=lit3 9 10 10 (n:=n) o_;have nn:n<3:=o_;have n0:(0:Int)<=(n:Int):=o_;have n3:(n:Int)<3:=o_;have HU:=hd_ hu5;clear hu5 p20 p21;refine hK _ _ (.inr trivial) ?_;clear hK K'
   try refine tP_ ?_
   refine plan_alt (by rfl) (fun K' hK=>?_) ?_
   ·skip
    go_simp;have hh:=(HDb.out.alloc #[iv 9,iv 10,iv 10] 3).p1
    (try rw[drew_size]at hh)
    have HDba:=hd_ hh;clear hh;refine hK _ _ (.inr trivial) ?_;clear hK K'
    try refine tP_ ?_
    repeat (first|refine tA_ ?_|refine tB_ ?_)
    refine plan_alt (by rfl) (fun K' hK=>?_) ?_
    ·skip
     have g5:=HDba.out.p1.cell HU.out;go_simp;refine hK _ _ (.inr trivial) ?_;clear hK K'
     try refine tP_ ?_
     refine plan_last (by rfl) (fun K' hK=>?_);go_simp;refine (HDba.out.pick o_ 5 o_ o_).mono ?_;rintro e w6 ⟨p6,rfl,p60,p61,hh⟩;have HDbab:=hd_ hh;clear hh;refine hK _ _ (.inr trivial) ?_;clear hK K'
     try refine tP_ ?_
     refine plan_last (by rfl) (fun K' hK=>?_);go_simp;refine (HDbab.out.pick o_ 5 o_ o_).mono ?_;rintro e w8 ⟨p8,rfl,p80,p81,hh⟩;have HDbabb:=hd_ hh;clear hh;refine hK _ _ (.inr trivial) ?_;clear hK K'
     try refine tP_ ?_
     repeat (first|refine tA_ ?_|refine tB_ ?_)
     refine plan_last (by rfl) (fun K' hK=>?_);obtain⟨r0,r1,r2⟩:=HDbabb.out.p2.cells3;have rf:=HDbabb.out.p2.free;have F:=hd_ (HDbabb.out.p2.set3 (iv u5) (iv p6) (iv p8));go_simp;refine hK _ _ (.inl rfl) ?_;clear hK K'
     try refine tP_ ?_
     refine plan_done ?_;clear r0 r1 r2 rf;go_wp2;obtain⟨d0,d1,d2⟩:=F.out.cells3;refine bodyPost_ret (v:=.agg #[iv u5,iv p6,iv p8]) (by simp[results,Tryz.results261,go_sem,d0,d1,d2]) rfl ⟨_,_,_,rfl,(F.out.drop.p1.drop).more o_⟩
    ·skip
     refine plan_last (by rfl) (fun K' hK=>?_)
     skip
     go_simp;refine (HDba.out.pick o_ 5 o_ o_).mono ?_;rintro e w6 ⟨p6,rfl,p60,p61,hh⟩;have HDbab:=hd_ hh;clear hh;refine hK _ _ (.inr trivial) ?_;clear hK K'
     try refine tP_ ?_
     refine plan_alt (by rfl) (fun K' hK=>?_) ?_
     ·skip
      have g5:=HDbab.out.p1.cell HU.out;go_simp;refine hK _ _ (.inr trivial) ?_;clear hK K'
      try refine tP_ ?_
      refine plan_last (by rfl) (fun K' hK=>?_);go_simp;refine (HDbab.out.pick o_ 5 o_ o_).mono ?_;rintro e w8 ⟨p8,rfl,p80,p81,hh⟩;have HDbabb:=hd_ hh;clear hh;refine hK _ _ (.inr trivial) ?_;clear hK K'
      try refine tP_ ?_
      repeat (first|refine tA_ ?_|refine tB_ ?_)
      refine plan_last (by rfl) (fun K' hK=>?_);obtain⟨r0,r1,r2⟩:=HDbabb.out.p2.cells3;have rf:=HDbabb.out.p2.free;have F:=hd_ (HDbabb.out.p2.set3 (iv u5) (iv p6) (iv p8));go_simp;refine hK _ _ (.inl rfl) ?_;clear hK K'
      try refine tP_ ?_
      refine plan_done ?_;clear r0 r1 r2 rf;go_wp2;obtain⟨d0,d1,d2⟩:=F.out.cells3;refine bodyPost_ret (v:=.agg #[iv u5,iv p6,iv p8]) (by simp[results,Tryz.results261,go_sem,d0,d1,d2]) rfl ⟨_,_,_,rfl,(F.out.drop.p1.drop).more o_⟩
     ·skip
      refine plan_last (by rfl) (fun K' hK=>?_)
      skip
      go_simp;refine (HDbab.out.pick o_ 5 o_ o_).mono ?_;rintro e w8 ⟨p8,rfl,p80,p81,hh⟩;have HDbabb:=hd_ hh;clear hh;refine hK _ _ (.inr trivial) ?_;clear hK K'
      try refine tP_ ?_
      refine plan_last (by rfl) (fun K' hK=>?_);have g5:=HDbabb.out.p1.cell HU.out;go_simp;refine hK _ _ (.inr trivial) ?_;clear hK K'
      try refine tP_ ?_
      repeat (first|refine tA_ ?_|refine tB_ ?_)
      refine plan_last (by rfl) (fun K' hK=>?_);obtain⟨r0,r1,r2⟩:=HDbabb.out.p2.cells3;have rf:=HDbabb.out.p2.free;have F:=hd_ (HDbabb.out.p2.set3 (iv u5) (iv p6) (iv p8));go_simp;refine hK _ _ (.inl rfl) ?_;clear hK K'
      try refine tP_ ?_
      refine plan_done ?_;clear r0 r1 r2 rf;go_wp2;obtain⟨d0,d1,d2⟩:=F.out.cells3;refine bodyPost_ret (v:=.agg #[iv u5,iv p6,iv p8]) (by simp[results,Tryz.results261,go_sem,d0,d1,d2]) rfl ⟨_,_,_,rfl,(F.out.drop.p1.drop).more o_⟩
   ·skip
    refine plan_last (by rfl) (fun K' hK=>?_)
    skip
    go_simp;refine (HDb.out.pick o_ 5 o_ o_).mono ?_;rintro e w6 ⟨p6,rfl,p60,p61,hh⟩;have HDbb:=hd_ hh;clear hh;refine hK _ _ (.inr trivial) ?_;clear hK K'
    try refine tP_ ?_
    refine plan_alt (by rfl) (fun K' hK=>?_) ?_
    ·skip
     go_simp;have hh:=(HDbb.out.alloc #[iv 9,iv 10,iv 10] 3).p1
     (try rw[drew_size]at hh)
     have HDbba:=hd_ hh;clear hh;refine hK _ _ (.inr trivial) ?_;clear hK K'
     try refine tP_ ?_
     repeat (first|refine tA_ ?_|refine tB_ ?_)
     refine plan_alt (by rfl) (fun K' hK=>?_) ?_
     ·skip
      have g5:=HDbba.out.p1.cell HU.out;go_simp;refine hK _ _ (.inr trivial) ?_;clear hK K'
      try refine tP_ ?_
      refine plan_last (by rfl) (fun K' hK=>?_);go_simp;refine (HDbba.out.pick o_ 5 o_ o_).mono ?_;rintro e w8 ⟨p8,rfl,p80,p81,hh⟩;have HDbbab:=hd_ hh;clear hh;refine hK _ _ (.inr trivial) ?_;clear hK K'
      try refine tP_ ?_
      repeat (first|refine tA_ ?_|refine tB_ ?_)
      refine plan_last (by rfl) (fun K' hK=>?_);obtain⟨r0,r1,r2⟩:=HDbbab.out.p2.cells3;have rf:=HDbbab.out.p2.free;have F:=hd_ (HDbbab.out.p2.set3 (iv u5) (iv p6) (iv p8));go_simp;refine hK _ _ (.inl rfl) ?_;clear hK K'
      try refine tP_ ?_
      refine plan_done ?_;clear r0 r1 r2 rf;go_wp2;obtain⟨d0,d1,d2⟩:=F.out.cells3;refine bodyPost_ret (v:=.agg #[iv u5,iv p6,iv p8]) (by simp[results,Tryz.results261,go_sem,d0,d1,d2]) rfl ⟨_,_,_,rfl,(F.out.drop.p1.drop).more o_⟩
     ·skip
      refine plan_last (by rfl) (fun K' hK=>?_)
      skip
      go_simp;refine (HDbba.out.pick o_ 5 o_ o_).mono ?_;rintro e w8 ⟨p8,rfl,p80,p81,hh⟩;have HDbbab:=hd_ hh;clear hh;refine hK _ _ (.inr trivial) ?_;clear hK K'
      try refine tP_ ?_
      refine plan_last (by rfl) (fun K' hK=>?_);have g5:=HDbbab.out.p1.cell HU.out;go_simp;refine hK _ _ (.inr trivial) ?_;clear hK K'
      try refine tP_ ?_
      repeat (first|refine tA_ ?_|refine tB_ ?_)
      refine plan_last (by rfl) (fun K' hK=>?_);obtain⟨r0,r1,r2⟩:=HDbbab.out.p2.cells3;have rf:=HDbbab.out.p2.free;have F:=hd_ (HDbbab.out.p2.set3 (iv u5) (iv p6) (iv p8));go_simp;refine hK _ _ (.inl rfl) ?_;clear hK K'
      try refine tP_ ?_
      refine plan_done ?_;clear r0 r1 r2 rf;go_wp2;obtain⟨d0,d1,d2⟩:=F.out.cells3;refine bodyPost_ret (v:=.agg #[iv u5,iv p6,iv p8]) (by simp[results,Tryz.results261,go_sem,d0,d1,d2]) rfl ⟨_,_,_,rfl,(F.out.drop.p1.drop).more o_⟩
    ·skip
     refine plan_last (by rfl) (fun K' hK=>?_)
     skip
     go_simp;refine (HDbb.out.pick o_ 5 o_ o_).mono ?_;rintro e w8 ⟨p8,rfl,p80,p81,hh⟩;have HDbbb:=hd_ hh;clear hh;refine hK _ _ (.inr trivial) ?_;clear hK K'
     try refine tP_ ?_
     refine plan_last (by rfl) (fun K' hK=>?_);go_simp;have hh:=(HDbbb.out.alloc #[iv 9,iv 10,iv 10] 3).p1
     (try rw[drew_size]at hh)
     have HDbbba:=hd_ hh;clear hh;refine hK _ _ (.inr trivial) ?_;clear hK K'
     try refine tP_ ?_
     repeat (first|refine tA_ ?_|refine tB_ ?_)
     refine plan_last (by rfl) (fun K' hK=>?_);have g5:=HDbbba.out.p1.cell HU.out;go_simp;refine hK _ _ (.inr trivial) ?_;clear hK K'
     try refine tP_ ?_
     repeat (first|refine tA_ ?_|refine tB_ ?_)
     refine plan_last (by rfl) (fun K' hK=>?_);obtain⟨r0,r1,r2⟩:=HDbbba.out.p2.cells3;have rf:=HDbbba.out.p2.free;have F:=hd_ (HDbbba.out.p2.set3 (iv u5) (iv p6) (iv p8));go_simp;refine hK _ _ (.inl rfl) ?_;clear hK K'
     try refine tP_ ?_
     refine plan_done ?_;clear r0 r1 r2 rf;go_wp2;obtain⟨d0,d1,d2⟩:=F.out.cells3;refine bodyPost_ret (v:=.agg #[iv u5,iv p6,iv p8]) (by simp[results,Tryz.results261,go_sem,d0,d1,d2]) rfl ⟨_,_,_,rfl,(F.out.drop.p1.drop).more o_⟩
 ·subst q
  clear p10 p11
  go_wp2_with fail
  refine (H1.out.pick o_ 5 o_ o_).mono ?_;rintro e w2 ⟨p2,rfl,p20,p21,h2⟩;have H2:=hd_ h2;clear h2;have hr2:=H2.out.p1.cells3;obtain⟨r0,r1,r2⟩:=hr2;have rf:=H2.out.p1.free;have F:=hd_ (H2.out.p1.set3 (iv 7) (iv p2) (iv 0));go_wp2;obtain⟨d0,d1,d2⟩:=F.out.cells3;refine bodyPost_ret (v:=.agg #[iv 7,iv p2,iv 0]) (by simp[results,Tryz.results261,go_sem,d0,d1,d2]) rfl ⟨_,_,_,rfl,(F.out.drop).more o_⟩
end
end N
end Go.Proofs.YtcblbdpdbggkbaaGreat
namespace Go.Proofs.YtcblbdpdbggkbaaGreat
open Go.RowKit Go.Sort
namespace N
def encDe (d:De):List Value:=[iv d.kind,iv d.a,iv d.b]
theorem encDe_len (d:De):(encDe d).length=3:=rfl
theorem encDe_one (d:De):∀u ∈ encDe d,u.oneCell'=true:=fun u hu=>by
 simp only[encDe,List.mem_cons,List.mem_nil_iff,or_false]at hu;rcases hu with rfl|rfl|rfl<;>rfl
def dsC (v:Value) (ds:List De):Ch:=slcC (flatR_frame encDe) 292 3 v ds
theorem dedS:SlT Tryz.prog 237 292 (.agg #[iv 0,iv 0,iv 0]) 3 24:=⟨Tryz.underlying237,by kernel_rfl,rfl,by decide⟩
theorem rd_box {α:Type} {B b:Nat} {w0 w:World} {l:List Ch} {e:TypeId} {enc:α->List Value} {xs:List α} (h:M B w0 w (boxC b e (xs.flatMap enc).toArray::l)) (c:Nat):RdL enc w (.slice (some ⟨b,0,none⟩) xs.length c) xs:=
 .inr ⟨_,c,rfl,fun j z hz=>by rw[Addr.add_mid,Nat.zero_add];exact h.cell (by simpa using hz)⟩
theorem rd_deed {B b:Nat} {w0 w:World} {l:List Ch} {e:TypeId} {x y z:Int} (h:M B w0 w (boxC b e #[iv x,iv y,iv z]::l)):RdL encDe w (.slice (some ⟨b,0,none⟩) 1 1) [(⟨x,y,z⟩:De)]:=rd_box (xs:=[(⟨x,y,z⟩:De)]) h 1
def four:List De:=[⟨2,0,0⟩,⟨4,0,0⟩,⟨2,1,0⟩,⟨4,0,0⟩]
section
variable {B a k:Nat} {w0 w:World} {l:List Ch}
theorem _root_.Go.Proofs.YtcblbdpdbggkbaaGreat.M.dsRd {v:Value} {ds:List De} (h:M B w0 w (dsC v ds::l)):DsRd w v ds:=by
 obtain⟨f,hf,_⟩:=h.first;obtain⟨_,e,o,_⟩:=slc_flat_to hf;cases e;rcases o.2 with ⟨rfl,h0⟩|⟨g,cap,cur,rfl,_,hg,hn,hc,hs,ht⟩
 ·obtain rfl:ds=[]:=List.eq_nil_of_length_eq_zero h0
  exact⟨⟨_,0,rfl,Nat.zero_le _,Nat.le_refl _⟩,fun j d hd=>by simp at hd⟩
 ·refine⟨⟨_,cap,rfl,hc,hn⟩,fun j d hd=>⟨g,0,cap,rfl,?_⟩⟩
  have hj:=(List.getElem?_eq_some_iff.1 hd).1;have fl:∀i,i<3->(ds.flatMap encDe)[j * 3+i]? =(encDe d)[i]? :=fun i hi=>by
   have e1:(ds.flatMap encDe).drop (j * 3)=(ds.drop j).flatMap encDe:=(flat_drop' encDe_len ds j).symm;rw[<-List.getElem?_drop,e1,drop_at hd,List.flatMap_cons,List.getElem?_append_left (by rw[encDe_len];exact hi)]
  have cl:∀i,i<3->w.cell? ⟨g,j * 3+i,none⟩=(encDe d)[i]? :=fun i hi=>by
   rw[World.ownsRow.cellAt o _ o_,fl i hi]
  simp only[Nat.zero_add];exact⟨by have:=cl 0 o_;rwa[Nat.add_zero]at this,cl 1 o_,cl 2 o_⟩
theorem drawDeeds_at (h:M B w0 w (rdC w0 B a k::l)) (hk:k<=90000) {most:Int} (hm:0<=most/\most<=100):Calls Tryz.prog 203 #[.pointer (some ⟨a,0,Option.none⟩),iv most] w fun e w'=>∃x m c ds,e=.returned (.slice x m c)/\m=ds.length/\m<=104/\M B w0 w' (dsC (.slice x m c) ds::rdC w0 B a (k+402)::l):=by
 obtain⟨hm0,hm1⟩:=hm;have wr1:IntKind.i64.wrap (most+1)=most+1:=IntWalk.i64_in _ o_;have H:=hd_ ((h.alloc #[] 292).empty (flatR_frame encDe) 3);clear h;obtain⟨p,hp⟩:=nm_ w.heap.size;obtain⟨W,hW⟩:=nm_ (w.alloc (.cells #[] 292));rw[<-hW, <-hp]at H;go_enter Tryz.func203,Tryz.ntmps203;go_upto_region 2 with fail
 rw[<-hW, <-hp];clear hW hp
 go_wp2_with fail
 refine (H.out.p1.pick o_ 2 o_ o_).mono ?_;rintro e wA ⟨q,rfl,q0,q1,hA⟩;have HA:=hd_ hA.p1;clear hA H
 go_upto_if 10 with fail
 go_cut [5] (fun v wx=>∃x m c ds,v=.slice x m c/\m=ds.length/\m<=4/\M B w0 wx (dsC (.slice x m c) ds::rdC w0 B a (k+1)::l))
 case first=>
  by_cases hq:q=0
  case pos=>
   subst hq;have hD:=HA.out.alloc #[iv 2,iv 0,iv 0,iv 4,iv 0,iv 0,iv 2,iv 1,iv 0,iv 4,iv 0,iv 0] 292;have RD:=hd_ (rd_box (xs:=four) (enc:=encDe) hD 4);have HD:=hd_ hD.p1;clear hD HA
   go_wp2_with (at_builtin;go_loud (refine wpList_add dedS encDe_len encDe_one HD.out RD.out rfl rfl rfl rfl (by unfold maxLen four;simp only[List.length_cons,List.length_nil];omega) (by unfold four;simp only[List.length_cons,List.length_nil];omega) (N:=4) (by rfl) ?_);intro y9 d9 w' h1;have HF:=hd_ h1.p1.drop;clear h1)
   go_meet
   exact⟨y9,4,d9,_,rfl,rfl,o_,HF.out⟩
  case neg=>
   have gq:(q==0)=false:=by simpa using hq
   clear hq
   go_wp2_with fail
   go_meet
   exact⟨_,0,0,[],rfl,rfl,o_,HA.out⟩
 case rest=>
  obtain⟨x,m,c,ds,rfl,hm,m4,hM⟩:=hcut;have H2:=hd_ hM;have HM:=hd_ hm;clear hm hM HA
  go_wp2_with fail
  refine (H2.out.p1.pick o_ (most+1) o_ o_).mono ?_;rintro e wB ⟨q2,rfl,r0,r1,hB⟩;obtain⟨j0,rfl⟩:∃j:Nat,q2=j:=⟨q2.toNat,o_⟩
  have HB:=hd_ hB.p1;clear hB H2;have j0m:j0<=100:=o_;clear r0 r1;go_wp2;go_loopw [5,6] (fun y z wr=>∃(j m c:Nat) (x:Option Addr) (ds:List De),j<=j0/\z=.int .i64 (j:Int)/\y=.slice x m c/\m=ds.length/\m+j<=4+j0/\M B w0 wr (dsC (.slice x m c) ds::rdC w0 B a (k+2+4 * (j0 - j))::l)) (fun _ z _=>(intOf z).toNat)
  case atStart=>exact⟨j0,m,c,x,ds,o_,rfl,rfl,HM.out,o_,(rd_more HB.out.p1 o_).p1⟩
  case round=>
   clear HB HM;obtain⟨j,m,c,x,ds,hj,rfl,rfl,hm,mj,hM⟩:=hrel;have H:=hd_ hM;have HM:=hd_ hm;clear hm hM
   by_cases hz:0<j
   case neg=>
    obtain rfl:j=0:=o_;go_wp2;go_ret;exact⟨x,m,c,ds,rfl,HM.out,o_,(rd_more H.out.p1 o_).p1⟩
   have z1:(0:Int)<(j:Int):=o_;have wr2:IntKind.i64.wrap ((j:Int) - 1)=(j:Int) - 1:=IntWalk.i64_in _ o_
   go_wp2_with fail
   refine (drawDeed_at H.out.p1 o_).mono ?_;rintro e wC ⟨d1,d2,d3,rfl,hC⟩;have hD:=hC.alloc #[iv d1,iv d2,iv d3] 292;have RD:=hd_ (rd_deed hD);have HD:=hd_ hD.p2;clear hC hD H
   go_wp2_with (at_builtin;go_loud (refine wpList_add dedS encDe_len encDe_one HD.out RD.out rfl rfl rfl rfl (by rw[<-HM.out];unfold maxLen;simp only[List.length_cons,List.length_nil];omega) (by rw[<-HM.out];simp only[List.length_cons,List.length_nil];omega) (N:=m+1) (by rw[<-HM.out];rfl) ?_);intro y9 d9 w' h1;have HF:=hd_ h1.p1.drop;clear h1)
   go_roundw
   case rel=>exact⟨j - 1,m+1,d9,y9,ds++[(⟨d1,d2,d3⟩:De)],o_,by go_num,rfl,by rw[List.length_append, <-HM.out];rfl,o_,(rd_more HF.out.p1 o_).p1⟩
   case measure=>simp[intOf];omega
end
structure PairOk (zs:List Int):Prop where
 even:zs.length % 2=0
 two:pairsB zs=true
theorem pairs_more:∀(zs:List Int) (a b:Int),zs.length % 2=0->pairsB zs=true->(in6 a 0 4&&(in6 b 0 4&&decide (a≠b)))=true->pairsB (zs++[a,b])=true
 | [],a,b,_,_,h=>by
  show ((in6 a 0 4&&(in6 b 0 4&&decide (a≠b)))&&true)=true
  rw[h];rfl
 | [_],_,_,h,_,_=>by simp at h
 |x::y::zs,a,b,h,hp,hab=>by
  rw[List.length_cons,List.length_cons]at h;have hp':((in6 x 0 4&&(in6 y 0 4&&decide (x≠y)))&&pairsB zs)=true:=hp;rw[Bool.and_eq_true]at hp';show ((in6 x 0 4&&(in6 y 0 4&&decide (x≠y)))&&pairsB (zs++[a,b]))=true
  rw[hp'.1,pairs_more zs a b o_ hp'.2 hab]
  rfl
theorem PairOk.more {zs:List Int} (h:PairOk zs) {a b:Int} (ha:0<=a/\a<=4) (hb:0<=b/\b<=4) (hab:a≠b):PairOk (zs++[a,b]):=
 ⟨by rw[List.length_append];have:=h.even;simp only[List.length_cons,List.length_nil];omega,pairs_more zs a b h.even h.two (by
    have h1:in6 a 0 4=true:=by unfold in6;exact decide_eq_true ha
    have h2:in6 b 0 4=true:=by unfold in6;exact decide_eq_true hb
    rw[h1,h2,decide_eq_true hab];rfl)⟩
section
variable {B a k:Nat} {w0 w:World} {l:List Ch}
theorem drawLinks2_at (h:M B w0 w (rdC w0 B a k::l)) (hk:k<=99900):Calls Tryz.prog 64 #[.pointer (some ⟨a,0,Option.none⟩)] w fun e w'=>∃x m c zs,e=.returned (.slice x m c)/\m=zs.length/\PairOk zs/\m<=16/\M B w0 w' (listC (.slice x m c) zs::rdC w0 B a (k+16)::l):=by
 have H:=hd_ ((h.alloc #[] 3).empty (flatR_frame encI) 1);clear h;obtain⟨p,hp⟩:=nm_ w.heap.size;obtain⟨W,hW⟩:=nm_ (w.alloc (.cells #[] 3));rw[<-hW, <-hp]at H;go_enter Tryz.func64,Tryz.ntmps64;go_upto_region 2 with fail
 rw[<-hW, <-hp];clear hW hp;go_wp2;go_loopw [3,4] (fun y z wr=>∃(j m c:Nat) (x:Option Addr) (zs:List Int),1<=j/\j<=5/\z=.int .i64 (j:Int)/\y=.slice x m c/\m=zs.length/\PairOk zs/\m<=4 * (j - 1)/\M B w0 wr (listC (.slice x m c) zs::rdC w0 B a (k+4 * (j - 1))::l)) (fun _ z _=>5 - (intOf z).toNat)
 case atStart=>exact⟨1,0,0,_,[],o_,o_,rfl,rfl,rfl,⟨rfl,rfl⟩,o_,H.out⟩
 case round=>
  clear H;obtain⟨j,m,c,x,zs,j1,j5,rfl,rfl,hm,hpk,mm,hM⟩:=hrel;have PK:=hd_ hpk;clear hpk;have H:=hd_ hM;have HM:=hd_ hm;clear hm hM
  by_cases hlt:j<5
  case neg=>
   obtain rfl:j=5:=o_;go_wp2;go_ret;exact⟨x,m,c,zs,rfl,HM.out,PK.out,o_,H.out⟩
  have k1':(j:Int)<5:=o_
  go_wp2_with fail
  refine (H.out.p1.pick o_ 8 o_ o_).mono ?_;rintro e wA ⟨p,rfl,p0,p1,hA⟩;have HA:=hd_ hA.p1;clear hA H
  by_cases hp:0<p
  case neg=>
   go_wp2_with fail
   refine (HA.out.p1.pick o_ 3 o_ o_).mono ?_;rintro e wB ⟨q,rfl,q0,q1,hB⟩;have HB:=hd_ hB.p1;clear hB HA
   by_cases hq:q=0
   case neg=>
    have gq:(q==0)=false:=by simpa using hq
    go_wp2;go_roundw
    case rel=>exact⟨j+1,m,c,x,zs,o_,o_,by go_num,rfl,HM.out,PK.out,o_,(rd_more HB.out.p1 o_).p1⟩
    case measure=>simp[intOf];omega
   subst hq
   go_wp2_with fail
   refine (HB.out.p1.pick o_ 5 o_ o_).mono ?_;rintro e wC ⟨s,rfl,s0,s1,hC⟩;have HC:=hd_ hC.p1;clear hC HB
   by_cases hs:s=(j:Int)
   case pos=>
    have gs:(s != (j:Int))=false:=by simpa using hs
    go_wp2;go_roundw
    case rel=>exact⟨j+1,m,c,x,zs,o_,o_,by go_num,rfl,HM.out,PK.out,o_,(rd_more HC.out.p1 o_).p1⟩
    case measure=>simp[intOf];omega
   have gs:(s != (j:Int))=true:=by simpa using hs
   have hD:=HC.out.alloc #[iv (j:Int),iv s] 3;have RD:=hd_ (rd_two hD);have HD:=hd_ hD.p1;clear hD HC
   go_wp2_with (at_builtin;go_loud (refine wpList_add intS (fun _=>rfl) encI_one1 HD.out RD.out rfl rfl rfl rfl (by rw[<-HM.out];unfold maxLen;simp only[List.length_cons,List.length_nil];omega) (by rw[<-HM.out];simp only[List.length_cons,List.length_nil];omega) (N:=m+2) (by rw[<-HM.out];rfl) ?_);intro y9 d9 w' h1;have HF:=hd_ h1.p1.drop;clear h1)
   go_roundw
   case rel=>exact⟨j+1,m+2,d9,y9,zs++[(j:Int),s],o_,o_,by go_num,rfl,by rw[List.length_append, <-HM.out];rfl,PK.out.more o_ o_ (fun q=>hs q.symm),o_,(rd_more HF.out.p1 o_).p1⟩
   case measure=>simp[intOf];omega
  go_wp2_with fail
  refine (HA.out.p1.pick o_ (j:Int) o_ o_).mono ?_;rintro e wG ⟨r,rfl,r0,r1,hG⟩;have hD:=hG.p1.alloc #[iv (j:Int),iv r] 3;have RG:=hd_ (rd_two hD);have HG:=hd_ hD.p1;clear hG hD HA;obtain⟨m',hm'⟩:=nm_ (m+2);have HP:=hd_ hm';clear hm'
  go_upto_region 7 with (at_builtin;go_loud (refine wpList_add intS (fun _=>rfl) encI_one1 HG.out RG.out rfl rfl rfl rfl (by rw[<-HM.out];unfold maxLen;simp only[List.length_cons,List.length_nil];omega) (by rw[<-HM.out];simp only[List.length_cons,List.length_nil];omega) (N:=m') (by rw[<-HM.out,HP.out];rfl) ?_);intro y8 d8 w' h1;have HJ:=hd_ h1.p1.drop;clear h1)
  have HN:=hd_ (show m'=(zs++[(j:Int),r]).length by rw[List.length_append, <-HM.out,HP.out];rfl);have mp:m'<=4 * (j - 1)+2:=by have:=HP.out;omega
  clear HG RG HM HP;have PK2:=hd_ (PK.out.more (a:=(j:Int)) (b:=r) o_ o_ o_);generalize zs++[(j:Int),r]=zt at HJ HN PK2
  go_wp2_with fail
  refine (HJ.out.p1.pick o_ 3 o_ o_).mono ?_;rintro e wB ⟨q,rfl,q0,q1,hB⟩;have HB:=hd_ hB.p1;clear hB HJ
  by_cases hq:q=0
  case neg=>
   have gq:(q==0)=false:=by simpa using hq
   go_wp2;go_roundw
   case rel=>exact⟨j+1,m',d8,y8,zt,o_,o_,by go_num,rfl,HN.out,PK2.out,o_,(rd_more HB.out.p1 o_).p1⟩
   case measure=>simp[intOf];omega
  subst hq
  go_wp2_with fail
  refine (HB.out.p1.pick o_ 5 o_ o_).mono ?_;rintro e wC ⟨s,rfl,s0,s1,hC⟩;have HC:=hd_ hC.p1;clear hC HB
  by_cases hs:s=(j:Int)
  case pos=>
   have gs:(s != (j:Int))=false:=by simpa using hs
   go_wp2;go_roundw
   case rel=>exact⟨j+1,m',d8,y8,zt,o_,o_,by go_num,rfl,HN.out,PK2.out,o_,(rd_more HC.out.p1 o_).p1⟩
   case measure=>simp[intOf];omega
  have gs:(s != (j:Int))=true:=by simpa using hs
  have hD:=HC.out.alloc #[iv (j:Int),iv s] 3;have RD:=hd_ (rd_two hD);have HD:=hd_ hD.p1;clear hD HC
  go_wp2_with (at_builtin;go_loud (refine wpList_add intS (fun _=>rfl) encI_one1 HD.out RD.out rfl rfl rfl rfl (by rw[<-HN.out];unfold maxLen;simp only[List.length_cons,List.length_nil];omega) (by rw[<-HN.out];simp only[List.length_cons,List.length_nil];omega) (N:=m'+2) (by rw[<-HN.out];rfl) ?_);intro y9 d9 w' h1;have HF:=hd_ h1.p1.drop;clear h1)
  go_roundw
  case rel=>exact⟨j+1,m'+2,d9,y9,zt++[(j:Int),s],o_,o_,by go_num,rfl,by rw[List.length_append, <-HN.out];rfl,PK2.out.more o_ o_ (fun q=>hs q.symm),o_,(rd_more HF.out.p1 o_).p1⟩
  case measure=>simp[intOf];omega
end
end N
end Go.Proofs.YtcblbdpdbggkbaaGreat
namespace Go.Proofs.YtcblbdpdbggkbaaGreat.N
open Go.RowKit Go.Sort
theorem ok_base:NetOk baseN:=okNB_iff.1 (by decide+kernel)
theorem pairs_cons {a b:Int} {l:List Int} (h:pairsB (a::b::l)=true):isNode a/\isNode b/\a≠b/\pairsB l=true:=by
 unfold pairsB at h;simp only[Bool.and_eq_true,in6_iff,decide_eq_true_eq]at h;exact⟨h.1.1,h.1.2.1,h.1.2.2,h.2⟩
theorem ok_pair {n:Nt} (h:NetOk n) {a b:Int} (ha:isNode a) (hb:isNode b) (ne:a≠b) (w:Bool):NetOk { n with links:=(n.links.set (a * 5+b).toNat w).set (b * 5+a).toNat w }:=by
 by_cases q:whole n a b=w
 ·have q3:whole n b a=w:=by rw[<-h.either a b ha hb];exact q
  have l25:=h.links;unfold isNode at ha hb;rw[<-q,show n.links.set (a * 5+b).toNat (whole n a b)=n.links from set_getD _ _ _ (by omega),q, <-q3,show n.links.set (b * 5+a).toNat (whole n b a)=n.links from set_getD _ _ _ (by omega)];exact h
 ·exact ok_link h ha hb (w:=w) (by unfold linkN;rw[if_neg (fun c=>by rcases c with c|c;exact ne c;exact q c)])
theorem ok_pairs:∀(l:List Int) {n:Nt},NetOk n->pairsB l=true->NetOk { n with links:=setLinks n.links l }
 | [],n,h,_=>h
 | [_],n,h,_=>h
 |a::b::l,n,h,p=>by
  obtain⟨ha,hb,ne,p'⟩:=pairs_cons p;exact ok_pairs l (ok_pair h ha hb ne true) p'
theorem ok_new {l:List Int} {n:Nt} (e:newN l=some n):NetOk n:=by
 unfold newN at e
 split at e
 ·rename_i q
  obtain rfl:=Option.some.inj e;exact ok_pairs l ok_base q.2
 ·cases e
theorem pairs_keep:∀(l:List Int) {n:Nt},NetOk n->pairsB l=true->∀{c d:Int},isNode c->isNode d->whole n c d=true->whole { n with links:=setLinks n.links l } c d=true
 | [],n,_,_,_,_,_,_,w=>w
 | [_],n,_,_,_,_,_,_,w=>w
 |a::b::l,n,h,p,c,d,hc,hd,w=>by
  obtain⟨ha,hb,ne,p'⟩:=pairs_cons p;refine pairs_keep l (ok_pair h ha hb ne true) p' hc hd ?_;rw[whole_set h ha hb hc hd,w]
  split<;>rfl
theorem pairs_linked:∀(l:List Int) {n:Nt},NetOk n->pairsB l=true->∀k:Nat,2 * k+1<l.length->(isNode (l.getD (2 * k) 0)/\isNode (l.getD (2 * k+1) 0))/\whole { n with links:=setLinks n.links l } (l.getD (2 * k) 0) (l.getD (2 * k+1) 0)=true
 | [],n,_,_,k,hk=>by simp at hk
 | [_],n,_,_,k,hk=>by simp at hk
 |a::b::l,n,h,p,k,hk=>by
  obtain⟨ha,hb,ne,p'⟩:=pairs_cons p;have o:=ok_pair h ha hb ne true;cases k with
  |zero=>
   refine⟨⟨ha,hb⟩,pairs_keep l o p' ha hb ?_⟩;have e:=whole_set h ha hb ha hb true;rw[if_pos (.inl ⟨rfl,rfl⟩)]at e;exact e
  |succ k=>
   have r:=pairs_linked l o p' k (by simp at hk;omega);have e1:(a::b::l).getD (2 * (k+1)) 0=l.getD (2 * k) 0:=by
    rw[show 2 * (k+1)=2 * k+1+1 by omega];rfl
   have e2:(a::b::l).getD (2 * (k+1)+1) 0=l.getD (2 * k+1) 0:=by
    rw[show 2 * (k+1)+1=2 * k+1+1+1 by omega];rfl
   rw[e1,e2];exact r
theorem new_linked {l:List Int} {n:Nt} (e:newN l=some n):(∀k:Nat,2 * k+1<l.length->(isNode (l.getD (2 * k) 0)/\isNode (l.getD (2 * k+1) 0))/\whole n (l.getD (2 * k) 0) (l.getD (2 * k+1) 0)=true)/\n.words=[]/\(nodeAt n 0).beacon=0/\(nodeAt n 0).known=[⟨0,1,0,newSm⟩]:=by
 unfold newN at e
 split at e
 ·rename_i q
  obtain rfl:=Option.some.inj e;exact⟨pairs_linked l ok_base q.2,rfl,rfl,rfl⟩
 ·cases e
theorem send_nodes (n:Nt) (w:Wd):(sendN n w).1.nodes=n.nodes:=(send_rest n w).1
theorem take_beacon {n x:Nt} (h:NetOk n) {k:Int} {heard kept:Bool} (e:takeN n k heard kept=some x):(nodeAt x 0).beacon=(nodeAt n 0).beacon:=by
 unfold takeN at e
 split at e
 ·rename_i hk
  obtain rfl:=Option.some.inj e;have m:(nodeAt (if heard=true then hearN n (wordAt n k)else n) 0).beacon=(nodeAt n 0).beacon:=by
   split
   ·exact hear_root h (h.word _ (word_at hk))
   ·rfl
  split
  ·exact m
  ·rw[same_node (show (dropW (if heard=true then hearN n (wordAt n k)else n) k).nodes=(if heard=true then hearN n (wordAt n k)else n).nodes from rfl)]
   exact m
 ·cases e
theorem do_beacon {n x:Nt} {d:De} (h:NetOk n) (e:doN n d=some x):(nodeAt x 0).beacon<=(nodeAt n 0).beacon+1:=by
 unfold doN at e
 split at e
 ·rw[take_beacon h e];omega
 split at e
 ·rw[take_beacon h e];omega
 split at e
 ·rw[take_beacon h e];omega
 split at e
 ·split at e
  ·obtain rfl:=Option.some.inj e
   rw[set_put h zero_node,put_node h zero_node zero_node,if_pos rfl];exact Int.le_refl _
  ·cases e
 split at e
 ·rename_i hd
  split at e
  ·obtain⟨_,rfl⟩:=count_put e
   rw[put_node h hd zero_node]
   split
   ·rename_i q
    rw[<-q];show (nodeAt n 0).beacon<=_
    omega
   ·omega
  split at e
  ·unfold someIf at e
   split at e
   ·obtain rfl:=Option.some.inj e
    rw[same_node (hello_keeps h hd).2.1];omega
   ·cases e
  split at e
  ·unfold someIf at e
   split at e
   ·obtain rfl:=Option.some.inj e
    have t:(tellN n d.a).1.nodes=n.nodes:=by
     unfold tellN;simp only
     split
     ·rfl
     ·exact send_nodes _ _
    rw[same_node t];omega
   ·cases e
  split at e
  ·obtain⟨_,rfl⟩:=crash_put e
   rw[put_node h hd zero_node]
   split
   ·rename_i q
    rw[if_pos q.symm, <-q];show (nodeAt n 0).beacon<=_
    omega
   ·omega
  split at e
  ·split at e
   ·unfold linkN at e
    split at e
    ·cases e
    ·obtain rfl:=Option.some.inj e
     show (nodeAt n 0).beacon<=_
     omega
   ·cases e
  ·cases e
 ·cases e
theorem run_beacon:∀(ds:List De) {n:Nt},NetOk n->(nodeAt (runN n ds) 0).beacon<=(nodeAt n 0).beacon+ds.length
 | [],n,_=>by show (nodeAt n 0).beacon<=_;simp
 |d::ds,n,h=>by
  show (nodeAt (runN ((doN n d).getD n) ds) 0).beacon<=_
  rw[List.length_cons];cases e:doN n d with
  |none=>
   have:=run_beacon ds h;simp only[Option.getD_none];omega
  |some x=>
   have a:=do_beacon h e;have:=run_beacon ds (ok_do h e);simp only[Option.getD_some];omega
end Go.Proofs.YtcblbdpdbggkbaaGreat.N
namespace Go.Proofs.YtcblbdpdbggkbaaGreat
open Go.RowKit Go.Sort
namespace N
section
variable {B a k:Nat} {w0 w w':World} {l:List Ch}
theorem _root_.Go.Proofs.YtcblbdpdbggkbaaGreat.M.netGot {v1 v2 v3 v4:Value} {n:Nt} {fp:List Nat} (h:M B w0 w l) (hb:Below w.heap.size w w') (s:Sole (netR TY) w.heap.size w' [v1,v2,v3,v4] n fp):M B w0 w' (nodesC v1 n.nodes::linksC v2 n.links::wordsC v3 n.words::pastC v4 n.past::l):=by
 obtain⟨_,_,_,_,f1,f2,f3,f4,e,ef,h1,h2,h3,h4⟩:=netR_iff.1 s.1;cases e;have q:M B w0 w' ((nodesC v1 n.nodes).sep ((linksC v2 n.links).sep ((wordsC v3 n.words).sep (pastC v4 n.past)))::l):=h.add hb (f:=fp) ⟨f1,_,ef,h1,f2,_,rfl,h2,f3,f4,rfl,h3,h4⟩ s.2.1 s.2.2;exact q.two.p1.two.p1.two.p2.p3
theorem _root_.Go.Proofs.YtcblbdpdbggkbaaGreat.M.plus4 {c1 c2 c3 c4:Ch} (h:M B w0 w l) (k:M w.heap.size w w' [c1,c2,c3,c4]):M B w0 w' (c1::c2::c3::c4::l):=
 (h.plus (k.p3.p3.sep.p2.sep.p1.sep)).two.p1.two.p1.two.p2.p3
theorem _root_.Go.Proofs.YtcblbdpdbggkbaaGreat.M.listInts {v:Value} {zs:List Int} (h:M B w0 w (listC v zs::l)):Ints w v zs:=by
 obtain⟨f,hf,_⟩:=h.first;obtain⟨_,e,o,_⟩:=slc_flat_to hf;cases e;rw[ints_flat]at o;exact OwnI.rd o
theorem drawNet_at (h:M B w0 w (rdC w0 B a k::l)) (hk:k<=80000):Calls Tryz.prog 158 #[.pointer (some ⟨a,0,Option.none⟩)] w fun e w'=>∃v1 v2 v3 v4 n,e=.returned (.agg #[v1,v2,v3,v4])/\NetOk n/\M B w0 w' (nodesC v1 n.nodes::linksC v2 n.links::wordsC v3 n.words::pastC v4 n.past::rdC w0 B a (k+900)::l):=by
 have h0:=h.alloc #[zn,zn,zn,zn] 30;obtain⟨q2,hq2⟩:=nm_ w.heap.size;obtain⟨W0,hW0⟩:=nm_ (w.alloc (.cells #[zn,zn,zn,zn] 30));rw[<-hW0, <-hq2]at h0;have H0:=hd_ h0.p1;clear h h0;go_enter Tryz.func158,Tryz.ntmps158;go_upto_region 1 with fail
 rw[<-hW0, <-hq2];clear hW0 hq2
 go_wp2_with fail
 refine (drawLinks2_at H0.out o_).mono ?_;rintro r W1 ⟨x,m,c,zs,rfl,hm,pk,m16,h1⟩;have E0:=hd_ (show newN zs=some ⟨baseN.nodes,setLinks baseN.links zs,[],baseN.past⟩ by unfold newN;rw[if_pos ⟨⟨pk.even,o_⟩,pk.two⟩];rfl);have KN:=hd_ (spNetNew_at W1 x m c zs h1.listInts);have H1:=hd_ h1;clear h1 H0 hm pk
 go_wp2_with fail
 refine KN.out.mono ?_;rintro r W2 ⟨v1,v2,v3,v4,fp,rfl,hs,hb⟩;have h2:=H1.out.netGot hb hs;obtain⟨n0,hn0⟩:∃n0,newN zs=some n0:=⟨_,E0.out⟩
 rw[hn0]at h2 ⊢;simp only[Option.getD_some]at h2;have ON:=hd_ (ok_new hn0);have BN:=hd_ ((new_linked hn0).2.2.1);obtain⟨z1,e1,rfl,_⟩:=M.form h2;obtain⟨z2,e2,rfl,_⟩:=M.form h2.p1;obtain⟨z3,e3,rfl,_⟩:=M.form h2.p2;obtain⟨z4,e4,rfl,_⟩:=M.form h2.p3;clear hs hb KN H1 E0 hn0;obtain⟨j1,hj1⟩:=nm_ n0.nodes.length;obtain⟨j2,hj2⟩:=nm_ n0.links.length;obtain⟨j3,hj3⟩:=nm_ n0.words.length
 obtain⟨j4,hj4⟩:=nm_ n0.past.length;rw[<-hj1, <-hj2, <-hj3, <-hj4]at h2 ⊢;clear hj1 hj2 hj3 hj4;have h3:=h2.alloc #[.slice z1 j1 e1,.slice z2 j2 e2,.slice z3 j3 e3,.slice z4 j4 e4] 30;obtain⟨q3,hq3⟩:=nm_ W2.heap.size;obtain⟨W3,hW3⟩:=nm_ (W2.alloc (.cells #[.slice z1 j1 e1,.slice z2 j2 e2,.slice z3 j3 e3,.slice z4 j4 e4] 30));rw[<-hW3, <-hq3]at h3;have H3:=hd_ h3;clear h2 h3;go_upto_region 2 with fail
 rw[<-hW3, <-hq3];clear hW3 hq3
 go_cut [5,6] (fun y b wx=>∃(q5:Nat) (x1:Option Addr) (f1:Nat) (x2:Option Addr) (f2:Nat) (x3:Option Addr) (f3:Nat) (x4:Option Addr) (f4:Nat) (n1:Nt),y=.pointer (some ⟨q5,0,none⟩)/\b=.bool true/\NetOk n1/\(nodeAt n1 0).beacon<=200/\M B w0 wx (boxC q5 30 #[.slice x1 n1.nodes.length f1,.slice x2 n1.links.length f2,.slice x3 n1.words.length f3,.slice x4 n1.past.length f4]::nodesC (.slice x1 n1.nodes.length f1) n1.nodes::linksC (.slice x2 n1.links.length f2) n1.links::wordsC (.slice x3 n1.words.length f3) n1.words::pastC (.slice x4 n1.past.length f4) n1.past::rdC w0 B a (k+16+402)::boxC q2 30 #[zn,zn,zn,zn]::l))
 case first=>
  have H4:=hd_ H3.out.drew;have S3:Hid (Cells W3 (b4L q3 (.slice z1 j1 e1) (.slice z2 j2 e2) (.slice z3 j3 e3) (.slice z4 j4 e4))):=hd_ (by obtain⟨a0,a1,a2,a3⟩:=H3.out.cells4;exact⟨a0,a1,a2,a3,trivial⟩);have S4:=hd_ (S3.out.below (Below.drew (Below.refl _ _)));obtain⟨W4,hW4⟩:=nm_ W3.drew;rw[<-hW4]at H4 S4;have EV:=hd_ hW4;clear hW4
  refine wp_region_plan 9 (.tk 0 2 (.alt 2 (.alt 3 (.tk 4 3 (.alt 7 (.alt 8 (.alt 9 .done .nomore) .nomore) .nomore)) (.alt 7 (.alt 3 (.tk 4 3 (.alt 8 (.alt 9 .done .nomore) .nomore)) .nomore) .nomore)) (.alt 7 (.alt 2 (.alt 3 (.tk 4 3 (.alt 8 (.alt 9 .done .nomore) .nomore)) .nomore) .nomore) .nomore))) (fun w'=>Cells w' (b4L q3 (.slice z1 j1 e1) (.slice z2 j2 e2) (.slice z3 j3 e3) (.slice z4 j4 e4))) (by kernel_rfl) (by kernel_rfl) (fun _ _ _ _ _ h=>h) (S3.out.below (Below.drew (Below.refl _ _))) ?_
  rw[<-EV.out]
  repeat (first|refine tC_ ?_|refine tB_ ?_)
  refine plan_alt (by rfl) (fun K' hK=>?_) ?_
  ·go_simp
   refine (drawDeeds_at (H4.out.p6) o_ ⟨by decide,by decide⟩).mono ?_;rintro r W5 ⟨xd,md,cd,ds,rfl,hmd,md4,h5⟩;have MD:=hd_ hmd;clear hmd;have s5:Cells W5 (b4L q3 (.slice z1 j1 e1) (.slice z2 j2 e2) (.slice z3 j3 e3) (.slice z4 j4 e4)):=by
    obtain⟨a0,a1,a2,a3⟩:=h5.p2.cells4;exact⟨a0,a1,a2,a3,trivial⟩
   refine hK _ _ (.inr s5) ?_;clear hK K'
   try refine tP_ ?_
   have R1:Hid (runOf n0 ds=some (runN n0 ds)):=hd_ (by unfold runOf;rw[if_pos ⟨okNB_iff.2 ON.out,by have:=MD.out;omega⟩]);refine plan_alt (by rfl) (fun K' hK=>?_) ?_
   ·skip
    have KR:=hd_ (spNetRun_at _ (M.rdNet (b:=.bool true) (h5.p6.p6.p6.p6.p6)) (M.dsRd (h5)));rw[R1.out]at KR;go_simp;refine KR.out.mono ?_;rintro r W6 ⟨u1,u2,u3,u4,rfl,hm6⟩;have h6:=M.plus4 (h5) hm6;clear KR hm6;simp only[Option.getD_some]at h6;obtain⟨x1,f1,rfl,_⟩:=M.form h6;obtain⟨x2,f2,rfl,_⟩:=M.form h6.p1;obtain⟨x3,f3,rfl,_⟩:=M.form h6.p2;obtain⟨x4,f4,rfl,_⟩:=M.form h6.p3
    have s6:Cells W6 (b4L q3 (.slice z1 j1 e1) (.slice z2 j2 e2) (.slice z3 j3 e3) (.slice z4 j4 e4)):=by
     obtain⟨a0,a1,a2,a3⟩:=h6.p6.cells4;exact⟨a0,a1,a2,a3,trivial⟩
    refine hK _ _ (.inr s6) ?_;clear hK K'
    try refine tP_ ?_
    repeat (first|refine tC_ ?_|refine tB_ ?_)
    refine plan_last (by rfl) (fun K' hK=>?_);go_simp;refine hK _ _ (.inr (s6.below ((Below.refl _ _).alloc lr_ _))) ?_;clear hK K'
    try refine tP_ ?_
    have h7:=h6.alloc #[.slice x1 (runN n0 ds).nodes.length f1,.slice x2 (runN n0 ds).links.length f2,.slice x3 (runN n0 ds).words.length f3,.slice x4 (runN n0 ds).past.length f4] 30;refine plan_last (by rfl) (fun K' hK=>?_);go_simp;refine hK _ _ (.inr (s6.below ((Below.refl _ _).alloc lr_ _))) ?_;clear hK K'
    try refine tP_ ?_
    refine plan_last (by rfl) (fun K' hK=>?_);go_simp;refine hK _ _ (.inl rfl) ?_;clear hK K'
    try refine tP_ ?_
    refine plan_done ?_
    go_wp2_with fail
    go_meet
    exact⟨_,x1,f1,x2,f2,x3,f3,x4,f4,runN n0 ds,rfl,rfl,ok_run ON.out ds,by have:=run_beacon ds ON.out;have:=BN.out;have:=MD.out;omega,h7.p5.drop.p6.drop.p6.drop.p6.drop.p6.drop.p6.drop.p6.drop.p6.p6.p6.p6.p6.p6.p6⟩
   ·skip
    refine plan_last (by rfl) (fun K' hK=>?_);go_simp;have h55:=h5.alloc #[zn,zn,zn,zn] 30;refine hK _ _ (.inr (s5.below ((Below.refl _ _).alloc lr_ _))) ?_;clear hK K'
    try refine tP_ ?_
    have KR:=hd_ (spNetRun_at _ (M.rdNet (b:=.bool true) (h55.p1.p7.p7.p7.p7.p7)) (M.dsRd (h55.p1)));rw[R1.out]at KR;refine plan_last (by rfl) (fun K' hK=>?_);go_simp;refine KR.out.mono ?_;rintro r W6 ⟨u1,u2,u3,u4,rfl,hm6⟩;have h6:=M.plus4 (h55) hm6;clear KR hm6;simp only[Option.getD_some]at h6;obtain⟨x1,f1,rfl,_⟩:=M.form h6;obtain⟨x2,f2,rfl,_⟩:=M.form h6.p1;obtain⟨x3,f3,rfl,_⟩:=M.form h6.p2
    obtain⟨x4,f4,rfl,_⟩:=M.form h6.p3;have s6:Cells W6 (b4L q3 (.slice z1 j1 e1) (.slice z2 j2 e2) (.slice z3 j3 e3) (.slice z4 j4 e4)):=by
     obtain⟨a0,a1,a2,a3⟩:=h6.p7.cells4;exact⟨a0,a1,a2,a3,trivial⟩
    refine hK _ _ (.inr s6) ?_;clear hK K'
    try refine tP_ ?_
    repeat (first|refine tC_ ?_|refine tB_ ?_)
    refine plan_last (by rfl) (fun K' hK=>step_mstore (h6.p4) (vs:=[.slice x1 (runN n0 ds).nodes.length f1,.slice x2 (runN n0 ds).links.length f2,.slice x3 (runN n0 ds).words.length f3,.slice x4 (runN n0 ds).past.length f4]) (ys:=#[.slice x1 (runN n0 ds).nodes.length f1,.slice x2 (runN n0 ds).links.length f2,.slice x3 (runN n0 ds).words.length f3,.slice x4 (runN n0 ds).past.length f4]) (by rfl) (by rfl) (by rfl) (by rfl) netI (by rfl) (by simp) (by simp[putA]) (fun W8 h7=>?_))
    have s8:Cells W8 (b4L q3 (.slice z1 j1 e1) (.slice z2 j2 e2) (.slice z3 j3 e3) (.slice z4 j4 e4)):=by
     obtain⟨a0,a1,a2,a3⟩:=h7.p7.cells4;exact⟨a0,a1,a2,a3,trivial⟩
    refine hK _ _ (.inr s8) ?_;clear hK K'
    try refine tP_ ?_
    refine plan_last (by rfl) (fun K' hK=>?_);go_simp;refine hK _ _ (.inl rfl) ?_;clear hK K'
    try refine tP_ ?_
    refine plan_done ?_
    go_wp2_with fail
    go_meet
    exact⟨_,x1,f1,x2,f2,x3,f3,x4,f4,runN n0 ds,rfl,rfl,ok_run ON.out ds,by have:=run_beacon ds ON.out;have:=BN.out;have:=MD.out;omega,h7.p5.drop.p6.drop.p6.drop.p6.drop.p6.drop.p6.drop.p6.drop.p6.p6.p6.p6.p6.p6.p6⟩
  ·skip
   refine plan_last (by rfl) (fun K' hK=>?_);go_simp;have h44:=H4.out.alloc #[zn,zn,zn,zn] 30;refine hK _ _ (.inr (S4.out.below ((Below.refl _ _).alloc lr_ _))) ?_;clear hK K'
   try refine tP_ ?_
   refine plan_last (by rfl) (fun K' hK=>?_);go_simp;refine (drawDeeds_at (h44.p7) o_ ⟨by decide,by decide⟩).mono ?_;rintro r W5 ⟨xd,md,cd,ds,rfl,hmd,md4,h5⟩;have MD:=hd_ hmd;clear hmd;have s5:Cells W5 (b4L q3 (.slice z1 j1 e1) (.slice z2 j2 e2) (.slice z3 j3 e3) (.slice z4 j4 e4)):=by
    obtain⟨a0,a1,a2,a3⟩:=h5.p3.cells4;exact⟨a0,a1,a2,a3,trivial⟩
   refine hK _ _ (.inr s5) ?_;clear hK K'
   try refine tP_ ?_
   have R1:Hid (runOf n0 ds=some (runN n0 ds)):=hd_ (by unfold runOf;rw[if_pos ⟨okNB_iff.2 ON.out,by have:=MD.out;omega⟩]);have KR:=hd_ (spNetRun_at _ (M.rdNet (b:=.bool true) (h5.p7.p7.p7.p7.p7)) (M.dsRd (h5)));rw[R1.out]at KR;refine plan_last (by rfl) (fun K' hK=>?_);go_simp;refine KR.out.mono ?_;rintro r W6 ⟨u1,u2,u3,u4,rfl,hm6⟩;have h6:=M.plus4 (h5) hm6;clear KR hm6
   simp only[Option.getD_some]at h6;obtain⟨x1,f1,rfl,_⟩:=M.form h6;obtain⟨x2,f2,rfl,_⟩:=M.form h6.p1;obtain⟨x3,f3,rfl,_⟩:=M.form h6.p2;obtain⟨x4,f4,rfl,_⟩:=M.form h6.p3;have s6:Cells W6 (b4L q3 (.slice z1 j1 e1) (.slice z2 j2 e2) (.slice z3 j3 e3) (.slice z4 j4 e4)):=by
    obtain⟨a0,a1,a2,a3⟩:=h6.p7.cells4;exact⟨a0,a1,a2,a3,trivial⟩
   refine hK _ _ (.inr s6) ?_;clear hK K'
   try refine tP_ ?_
   repeat (first|refine tC_ ?_|refine tB_ ?_)
   refine plan_last (by rfl) (fun K' hK=>step_mstore (h6.p6) (vs:=[.slice x1 (runN n0 ds).nodes.length f1,.slice x2 (runN n0 ds).links.length f2,.slice x3 (runN n0 ds).words.length f3,.slice x4 (runN n0 ds).past.length f4]) (ys:=#[.slice x1 (runN n0 ds).nodes.length f1,.slice x2 (runN n0 ds).links.length f2,.slice x3 (runN n0 ds).words.length f3,.slice x4 (runN n0 ds).past.length f4]) (by rfl) (by rfl) (by rfl) (by rfl) netI (by rfl) (by simp) (by simp[putA]) (fun W8 h7=>?_))
   have s8:Cells W8 (b4L q3 (.slice z1 j1 e1) (.slice z2 j2 e2) (.slice z3 j3 e3) (.slice z4 j4 e4)):=by
    obtain⟨a0,a1,a2,a3⟩:=h7.p7.cells4;exact⟨a0,a1,a2,a3,trivial⟩
   refine hK _ _ (.inr s8) ?_;clear hK K'
   try refine tP_ ?_
   refine plan_last (by rfl) (fun K' hK=>?_);go_simp;refine hK _ _ (.inl rfl) ?_;clear hK K'
   try refine tP_ ?_
   refine plan_done ?_
   go_wp2_with fail
   go_meet
   exact⟨_,x1,f1,x2,f2,x3,f3,x4,f4,runN n0 ds,rfl,rfl,ok_run ON.out ds,by have:=run_beacon ds ON.out;have:=BN.out;have:=MD.out;omega,h7.p5.drop.p6.drop.p6.drop.p6.drop.p6.drop.p6.drop.p6.drop.p6.p6.p6.p6.p6.p6.p6⟩
 case rest=>
  obtain⟨q5,x1,f1,x2,f2,x3,f3,x4,f4,n1,rfl,rfl,ok1,bc1,hM⟩:=hcut;have H5:=hd_ hM;have O1:=hd_ ok1;clear hM ok1 H3 ON BN
  go_wp2_with fail
  refine (H5.out.p5.pick o_ 4 o_ o_).mono ?_;rintro r W6 ⟨p,rfl,p0,p1,h6⟩;have H6:=hd_ h6;clear h6 H5;obtain⟨a0,a1,a2,a3⟩:=H6.out.p1.cells4
  by_cases hp:p=0
  case neg=>
   have gp:(p==0)=false:=by simpa using hp
   clear hp;obtain⟨b0,b1,b2,b3⟩:=(H6.out.p6).cells4;have bf:=(H6.out.p6).free;have F:=hd_ ((H6.out.p6).set4 (.slice x1 n1.nodes.length f1) (.slice x2 n1.links.length f2) (.slice x3 n1.words.length f3) (.slice x4 n1.past.length f4));go_wp2;obtain⟨i0,i1,i2,i3⟩:=F.out.cells4
   (try simp only[Exit.inBlock,Exit.then])
   refine bodyPost_ret (v:=.agg #[.slice x1 n1.nodes.length f1,.slice x2 n1.links.length f2,.slice x3 n1.words.length f3,.slice x4 n1.past.length f4]) (by simp[results,Tryz.results158,go_sem,i0,i1,i2,i3]) rfl ⟨_,_,_,_,n1,rfl,O1.out,(rd_more (F.out.drop.p1.drop.p4.p4.p4.p4.p4) o_).p4.p4.p4.p4⟩
  subst hp;have RE:Hid (restOf n1=some (restN n1)):=hd_ (by unfold restOf;rw[if_pos ⟨okNB_iff.2 O1.out,o_⟩]);have KR:=hd_ (spNetRest_at W6 (M.rdNet (b:=.bool true) (H6.out.p5.p5.p5.p5.p5)));rw[RE.out]at KR;obtain⟨n2,hn2⟩:=nm_ (restN n1);have RS:=rested O1.out (show (nodeAt n1 0).beacon<1000 by omega);rw[<-hn2]at KR RS;have ON:=hd_ RS.ok;clear hn2 RE RS
  go_wp2_with fail
  refine KR.out.mono ?_;rintro r W7 ⟨u1,u2,u3,u4,rfl,hm⟩;have h7:=M.plus4 (H6.out) hm;clear KR hm a0 a1 a2 a3 H6 p0 p1;simp only[Option.getD_some]at h7;obtain⟨z1,e1,rfl,_⟩:=M.form h7;obtain⟨z2,e2,rfl,_⟩:=M.form h7.p1;obtain⟨z3,e3,rfl,_⟩:=M.form h7.p2;obtain⟨z4,e4,rfl,_⟩:=M.form h7.p3;obtain⟨j1,hj1⟩:=nm_ n2.nodes.length;obtain⟨j2,hj2⟩:=nm_ n2.links.length;obtain⟨j3,hj3⟩:=nm_ n2.words.length
  obtain⟨j4,hj4⟩:=nm_ n2.past.length;rw[<-hj1, <-hj2, <-hj3, <-hj4]at h7 ⊢;clear hj1 hj2 hj3 hj4;have H7:=hd_ (h7.p6.drop.p6.drop.p6.drop.p6.drop.p6.p5.p5.p5.p5.p5.p6);clear h7
  go_upto_region 5 with (go_loud (refine wpList_mstore H7.out (vs:=[.slice z1 j1 e1,.slice z2 j2 e2,.slice z3 j3 e3,.slice z4 j4 e4]) (ys:=#[.slice z1 j1 e1,.slice z2 j2 e2,.slice z3 j3 e3,.slice z4 j4 e4]) rfl rfl rfl rfl netI rfl (by simp) (by simp[putA]) ?_);intro W8 h8;have H8:=hd_ h8;clear h8 H7)
  have H9:=hd_ H8.out.drew;obtain⟨W9,hW9⟩:=nm_ W8.drew;rw[<-hW9]at H9;have EV:=hd_ hW9;clear hW9 H8;refine wp_region_plan 99 (.take 1 (.alt 0 (.alt 2 (.alt 3 (.tk 4 3 (.alt 7 .done .nomore)) .nomore) .nomore) (.alt 2 (.alt 0 (.alt 3 (.tk 4 3 (.alt 7 .done .nomore)) .nomore) .nomore) .nomore))) (fun _=>True) (by kernel_rfl) (by kernel_rfl) (fun _ _ _ _ _ h=>h) trivial ?_;rw[<-EV.out]
  repeat (first|refine tC_ ?_|refine tB_ ?_)
  refine plan_alt (by rfl) (fun K' hK=>?_) ?_
  ·skip
   obtain⟨b0,b1,b2,b3⟩:=H9.out.cells4;go_simp;refine hK _ _ (.inr trivial) ?_;clear hK K'
   try refine tP_ ?_
   clear b0 b1 b2 b3;refine plan_last (by rfl) (fun K' hK=>?_);go_simp;refine (drawDeeds_at (H9.out.p5) o_ ⟨by decide,by decide⟩).mono ?_;rintro r W5 ⟨xd,md,cd,ds,rfl,hmd,md4,h5⟩;have MD:=hd_ hmd;clear hmd;have s5:Cells W5 (b4L q5 (.slice z1 j1 e1) (.slice z2 j2 e2) (.slice z3 j3 e3) (.slice z4 j4 e4)):=by
    obtain⟨a0,a1,a2,a3⟩:=h5.p2.cells4;exact⟨a0,a1,a2,a3,trivial⟩
   refine hK _ _ (.inr trivial) ?_;clear hK K'
   try refine tP_ ?_
   have R1:Hid (runOf n2 ds=some (runN n2 ds)):=hd_ (by unfold runOf;rw[if_pos ⟨okNB_iff.2 ON.out,by have:=MD.out;omega⟩]);have KR:=hd_ (spNetRun_at _ (M.rdNet (b:=.bool true) (h5.p6.p6.p6.p6.p6)) (M.dsRd (h5)));rw[R1.out]at KR;refine plan_last (by rfl) (fun K' hK=>?_);go_simp;refine KR.out.mono ?_;rintro r W6 ⟨u1,u2,u3,u4,rfl,hm6⟩;have h6:=M.plus4 (h5) hm6;clear KR hm6
   simp only[Option.getD_some]at h6;obtain⟨x1,f1,rfl,_⟩:=M.form h6;obtain⟨x2,f2,rfl,_⟩:=M.form h6.p1;obtain⟨x3,f3,rfl,_⟩:=M.form h6.p2;obtain⟨x4,f4,rfl,_⟩:=M.form h6.p3;have s6:Cells W6 (b4L q5 (.slice z1 j1 e1) (.slice z2 j2 e2) (.slice z3 j3 e3) (.slice z4 j4 e4)):=by
    obtain⟨a0,a1,a2,a3⟩:=h6.p6.cells4;exact⟨a0,a1,a2,a3,trivial⟩
   refine hK _ _ (.inr trivial) ?_;clear hK K'
   try refine tP_ ?_
   repeat (first|refine tC_ ?_|refine tB_ ?_)
   refine plan_last (by rfl) (fun K' hK=>step_mstore (h6.p6) (vs:=[.slice x1 (runN n2 ds).nodes.length f1,.slice x2 (runN n2 ds).links.length f2,.slice x3 (runN n2 ds).words.length f3,.slice x4 (runN n2 ds).past.length f4]) (ys:=#[.slice x1 (runN n2 ds).nodes.length f1,.slice x2 (runN n2 ds).links.length f2,.slice x3 (runN n2 ds).words.length f3,.slice x4 (runN n2 ds).past.length f4]) (by rfl) (by rfl) (by rfl) (by rfl) netI (by rfl) (by simp) (by simp[putA]) (fun W8' h7=>?_))
   refine hK _ _ (.inr trivial) ?_;clear hK K'
   try refine tP_ ?_
   refine plan_done ?_;obtain⟨n3,hn3⟩:=nm_ (runN n2 ds);have O3:Hid (NetOk n3):=hd_ (by rw[hn3];exact ok_run ON.out ds);rw[<-hn3]at h7
   try rw[<-hn3]
   have HZ:=hd_ (h7.p5.drop.p6.drop.p6.drop.p6.drop.p6.drop.p6.p6.p6.p6.p6.p6.p6);clear h7 h6 h5 hn3 s5 s6;obtain⟨a0,a1,a2,a3⟩:=HZ.out.cells4;obtain⟨b0,b1,b2,b3⟩:=(HZ.out.p6).cells4;have bf:=(HZ.out.p6).free;have F:=hd_ ((HZ.out.p6).set4 (.slice x1 n3.nodes.length f1) (.slice x2 n3.links.length f2) (.slice x3 n3.words.length f3) (.slice x4 n3.past.length f4));go_wp2
   obtain⟨i0,i1,i2,i3⟩:=F.out.cells4
   (try simp only[Exit.inBlock,Exit.then])
   refine bodyPost_ret (v:=.agg #[.slice x1 n3.nodes.length f1,.slice x2 n3.links.length f2,.slice x3 n3.words.length f3,.slice x4 n3.past.length f4]) (by simp[results,Tryz.results158,go_sem,i0,i1,i2,i3]) rfl ⟨_,_,_,_,n3,rfl,O3.out,(rd_more (F.out.drop.drop.p3.p3.p3.p3.p4) o_).p4.p4.p4.p4⟩
  ·skip
   refine plan_last (by rfl) (fun K' hK=>?_);go_simp;refine (drawDeeds_at (H9.out.p5) o_ ⟨by decide,by decide⟩).mono ?_;rintro r W5 ⟨xd,md,cd,ds,rfl,hmd,md4,h5⟩;have MD:=hd_ hmd;clear hmd;have s5:Cells W5 (b4L q5 (.slice z1 j1 e1) (.slice z2 j2 e2) (.slice z3 j3 e3) (.slice z4 j4 e4)):=by
    obtain⟨a0,a1,a2,a3⟩:=h5.p2.cells4;exact⟨a0,a1,a2,a3,trivial⟩
   refine hK _ _ (.inr trivial) ?_;clear hK K'
   try refine tP_ ?_
   have R1:Hid (runOf n2 ds=some (runN n2 ds)):=hd_ (by unfold runOf;rw[if_pos ⟨okNB_iff.2 ON.out,by have:=MD.out;omega⟩]);obtain⟨b0,b1,b2,b3⟩:=h5.p2.cells4;refine plan_last (by rfl) (fun K' hK=>?_);go_simp;refine hK _ _ (.inr trivial) ?_;clear hK K'
   try refine tP_ ?_
   clear b0 b1 b2 b3;have KR:=hd_ (spNetRun_at _ (M.rdNet (b:=.bool true) (h5.p6.p6.p6.p6.p6)) (M.dsRd (h5)));rw[R1.out]at KR;refine plan_last (by rfl) (fun K' hK=>?_);go_simp;refine KR.out.mono ?_;rintro r W6 ⟨u1,u2,u3,u4,rfl,hm6⟩;have h6:=M.plus4 (h5) hm6;clear KR hm6;simp only[Option.getD_some]at h6;obtain⟨x1,f1,rfl,_⟩:=M.form h6;obtain⟨x2,f2,rfl,_⟩:=M.form h6.p1
   obtain⟨x3,f3,rfl,_⟩:=M.form h6.p2;obtain⟨x4,f4,rfl,_⟩:=M.form h6.p3;have s6:Cells W6 (b4L q5 (.slice z1 j1 e1) (.slice z2 j2 e2) (.slice z3 j3 e3) (.slice z4 j4 e4)):=by
    obtain⟨a0,a1,a2,a3⟩:=h6.p6.cells4;exact⟨a0,a1,a2,a3,trivial⟩
   refine hK _ _ (.inr trivial) ?_;clear hK K'
   try refine tP_ ?_
   repeat (first|refine tC_ ?_|refine tB_ ?_)
   refine plan_last (by rfl) (fun K' hK=>step_mstore (h6.p6) (vs:=[.slice x1 (runN n2 ds).nodes.length f1,.slice x2 (runN n2 ds).links.length f2,.slice x3 (runN n2 ds).words.length f3,.slice x4 (runN n2 ds).past.length f4]) (ys:=#[.slice x1 (runN n2 ds).nodes.length f1,.slice x2 (runN n2 ds).links.length f2,.slice x3 (runN n2 ds).words.length f3,.slice x4 (runN n2 ds).past.length f4]) (by rfl) (by rfl) (by rfl) (by rfl) netI (by rfl) (by simp) (by simp[putA]) (fun W8' h7=>?_))
   refine hK _ _ (.inr trivial) ?_;clear hK K'
   try refine tP_ ?_
   refine plan_done ?_;obtain⟨n3,hn3⟩:=nm_ (runN n2 ds);have O3:Hid (NetOk n3):=hd_ (by rw[hn3];exact ok_run ON.out ds);rw[<-hn3]at h7
   try rw[<-hn3]
   have HZ:=hd_ (h7.p5.drop.p6.drop.p6.drop.p6.drop.p6.drop.p6.p6.p6.p6.p6.p6.p6);clear h7 h6 h5 hn3 s5 s6;obtain⟨a0,a1,a2,a3⟩:=HZ.out.cells4;obtain⟨b0,b1,b2,b3⟩:=(HZ.out.p6).cells4;have bf:=(HZ.out.p6).free;have F:=hd_ ((HZ.out.p6).set4 (.slice x1 n3.nodes.length f1) (.slice x2 n3.links.length f2) (.slice x3 n3.words.length f3) (.slice x4 n3.past.length f4));go_wp2
   obtain⟨i0,i1,i2,i3⟩:=F.out.cells4
   (try simp only[Exit.inBlock,Exit.then])
   refine bodyPost_ret (v:=.agg #[.slice x1 n3.nodes.length f1,.slice x2 n3.links.length f2,.slice x3 n3.words.length f3,.slice x4 n3.past.length f4]) (by simp[results,Tryz.results158,go_sem,i0,i1,i2,i3]) rfl ⟨_,_,_,_,n3,rfl,O3.out,(rd_more (F.out.drop.drop.p3.p3.p3.p3.p4) o_).p4.p4.p4.p4⟩
end
end N
end Go.Proofs.YtcblbdpdbggkbaaGreat
namespace Go.Proofs.YtcblbdpdbggkbaaGreat
open Go.RowKit Go.Sort
theorem cntT_takeN (l:List Int) (t:Int) (k:Nat) (hk:k<l.length):cntT (l.take (k+1)) t=cntT (l.take k) t+if l.getD k 0=t then 1 else 0:=by
 rw[List.take_succ_eq_append_getElem hk,cntT_snoc];simp[hk]
theorem lkTimesN_at (w:World) (v:Value) (l:List Int) (x:Int) (h:Ints w v l) (hl:l.length<=100):
  Calls Tryz.prog 30 #[v,iv x] w fun e w'=>e=.returned (iv (cntT l x))/\Below w.heap.size w w':=by
 obtain⟨⟨y,c,hx⟩,qq⟩:=h.cases;obtain⟨n,hn⟩:=nm_ l.length;have HZ:Hid (∀i,i<n->∃b o,y=some ⟨b,o,none⟩/\w.cell? ⟨b,o+i,none⟩=some (.int .i64 (l.getD i 0))):=fun i hi=>by
  rcases h with ⟨rfl,rfl⟩|⟨b,o,c',e,_,_,hb,hc⟩
  ·rw[hn]at hi;cases hi
  ·rw[hx]at e
   exact⟨b,o,(Value.slice.inj e).1,hc i (by rw[<-hn];exact hi)⟩
 rw[<-hn]at hx hl;have HN:=hd_ hn;subst hx;clear hn h qq;go_enter Tryz.func30,Tryz.ntmps30;go_wp2
 go_loop [5,6] (fun q i=>∃(k:Nat) (j:Int),k<=n/\i=.int .i64 k/\q=.int .i64 j/\0<=j/\j<=k/\j=cntT (l.take k) x) (fun _ i=>n - (intOf i).toNat)
 case atStart=>exact⟨0,0,Nat.zero_le _,rfl,rfl,Int.le_refl _,Int.le_refl _,rfl⟩
 case round=>
  obtain⟨k,j,hk,rfl,rfl,j0,hj,hg⟩:=hrel;have G:=hd_ hg;clear hg
  by_cases hlt:k<n
  ·obtain⟨b,o,rfl,h1⟩:=HZ.out k hlt
   have ts:=hd_ (cntT_takeN l x k (by rw[<-HN.out];exact hlt));obtain⟨z,hz⟩:∃z,l.getD k 0=z:=⟨_,rfl⟩
   rw[hz]at h1 ts;have k0:(0:Int)<=(k:Int):=o_;have kn:(k:Int)<(n:Int):=o_;clear hz
   by_cases he:z=x
   ·subst he
    go_wp2
    go_round
    case rel=>exact⟨k+1,j+1,o_,by go_num,by go_num,o_,o_,by rw[ts.out, <-G.out,if_pos rfl]⟩
    case measure=>simp[intOf];omega
   ·have he':(z==x)=false:=by simpa using he
    have he2:decide (z=x)=false:=by simpa using he
    go_wp2
    go_round
    case rel=>exact⟨k+1,j,o_,by go_num,rfl,o_,o_,by rw[ts.out, <-G.out,if_neg he];omega⟩
    case measure=>simp[intOf];omega
  ·have fin:Hid (j=cntT l x):=by show j=_;rw[G.out,List.take_of_length_le (by rw[<-HN.out];omega)]
   go_wp2;go_ret;exact⟨by rw[<-fin.out];rfl,Below.refl _ _⟩
end Go.Proofs.YtcblbdpdbggkbaaGreat
namespace Go.Proofs.YtcblbdpdbggkbaaGreat.N
open Go.RowKit Go.Sort
theorem cnt_asc:∀{l:List Int},l.Pairwise (· <·)->∀x,cntT l x=if x ∈ l then 1 else 0
 | [],_,x=>by rw[if_neg (by simp)];rfl
 |y::l,h,x=>by
  obtain⟨h1,h2⟩:=List.pairwise_cons.1 h;have ih:=cnt_asc h2 x;have e0:cntT (y::l) x=cntT [y] x+cntT l x:=cnt_append [y] l _;have e1:cntT [y] x=if y=x then 1 else 0:=(cntT_snoc [] y x).trans (by show 0+_=_;omega)
  rw[e0,e1,ih]
  by_cases e:y=x
  ·subst e
   have n1:y ∉ l:=fun q=>by have:=h1 y q;omega
   rw[if_pos rfl,if_neg n1,if_pos List.mem_cons_self];rfl
  ·rw[if_neg e]
   by_cases q:x ∈ l
   ·rw[if_pos q,if_pos (List.mem_cons_of_mem _ q)];rfl
   ·rw[if_neg q,if_neg (fun z=>(List.mem_cons.1 z).elim (fun z=>e z.symm) q)];rfl
theorem reach_same {n:Nt} (ok:NetOk n) {a b:Int} (ha:isNode a) (hb:isNode b) (w:whole n a b=true):cntT (reachN n) a=cntT (reachN n) b:=by
 rw[cnt_asc (reach_asc n),cnt_asc (reach_asc n)];have w2:whole n b a=true:=by rw[<-ok.either a b ha hb];exact w
 have i:a ∈ reachN n↔b ∈ reachN n:=⟨fun q=>reach_link ok.links q hb w,fun q=>reach_link ok.links q ha w2⟩
 by_cases q:a ∈ reachN n
 ·rw[if_pos q,if_pos (i.1 q)]
 ·rw[if_neg q,if_neg (fun z=>q (i.2 z))]
theorem reach_head {n:Nt} (h:n.links.length=25):∃l,reachN n=0::l:=by
 have z:=reach_root h;have as_:=reach_asc n;have nn:∀x ∈ reachN n,0<=x:=fun x hx=>((reach_iff h x).1 hx).1.1
 revert z as_ nn
 generalize reachN n=R;intro z as_ nn
 match R,z,as_,nn with
 |y::l,z,as_,nn=>
  have h1:=(List.pairwise_cons.1 as_).1;have y0:=nn y List.mem_cons_self;rcases List.mem_cons.1 z with q|q
  ·exact⟨l,by rw[<-q]⟩
  ·have:=h1 0 q;omega
theorem any_take {f:Int->Bool} {l:List Int} {k:Nat} (h:k<l.length):(l.take (k+1)).any f=((l.take k).any f || f (l.getD k 0)):=by
 rw[List.take_succ_eq_append_getElem h,List.any_append,List.getD_eq_getElem?_getD,List.getElem?_eq_getElem h];simp
theorem reach_node {n:Nt} (h:n.links.length=25) {i:Nat} (hi:i<(reachN n).length):isNode ((reachN n).getD i 0):=by
 rw[List.getD_eq_getElem?_getD,List.getElem?_eq_getElem hi];exact ((reach_iff h _).1 (List.getElem_mem hi)).1
theorem reach_lt {n:Nt} {i j:Nat} (hij:i<j) (hj:j<(reachN n).length):(reachN n).getD i 0<(reachN n).getD j 0:=by
 rw[List.getD_eq_getElem?_getD,List.getElem?_eq_getElem (by omega),List.getD_eq_getElem?_getD,List.getElem?_eq_getElem hj];exact List.pairwise_iff_getElem.1 (reach_asc n) i j (by omega) hj hij
theorem reach_some {n:Nt} (h:n.links.length=25) {i:Nat} (h0:0<i) (hi:i<(reachN n).length):(reachN n).any (fun a=>whole n a ((reachN n).getD i 0))=true:=by
 have lt:=reach_lt h0 hi;have n0:=(reach_node h (i:=0) (by omega)).1;have m:(reachN n).getD i 0 ∈ reachN n:=by
  rw[List.getD_eq_getElem?_getD,List.getElem?_eq_getElem hi];exact List.getElem_mem hi
 obtain⟨a,ha,w⟩:=reach_path h m (by omega);exact List.any_eq_true.2 ⟨a,ha,w⟩
end Go.Proofs.YtcblbdpdbggkbaaGreat.N
