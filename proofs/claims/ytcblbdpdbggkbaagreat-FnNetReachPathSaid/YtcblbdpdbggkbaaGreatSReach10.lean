/-
  What the laws of Reach need of the texts before it, part 10.
-/
import Derived.ArgAppend
import Derived.BigQuiet
import Derived.Carry
import Derived.ChangeSame
import Derived.Deep.AppendLies
import Derived.Deep.Cut
import Derived.Deep.DeepCutAuto
import Derived.Deep.DrawnRows
import Derived.Deep.Fields
import Derived.Deep.LoopGhost
import Derived.Deep.Matrix
import Derived.Deep.MidRow
import Derived.Deep.OwnRows
import Derived.Deep.QuietTactic
import Derived.Deep.RegionHeld3
import Derived.Deep.RegionLaw
import Derived.Deep.RegionLawGrows
import Derived.Deep.RegionWith
import Derived.Deep.Slices
import Derived.Deep.WholeRow
import Derived.DeepKeys5
import Derived.Handy
import Derived.IntWalk
import Derived.JoinedOf
import Derived.KernelRfl
import Derived.Laws.AppendOwnNone
import Derived.Laws.EntriesVeiled
import Derived.Laws.ResultCell
import Derived.Laws.StructEq
import Derived.Lib.AppendZerosOnto
import Derived.Lib.Hide
import Derived.Lib.OwnBridge
import Derived.Lib.QuietBelow
import Derived.Lib.SliceRun
import Derived.Lib.SmallJoins
import Derived.Lib.Walk
import Derived.LoopIn
import Derived.LoopN
import Derived.LoopNIn
import Derived.Maps.AppendAt
import Derived.Maps.Keyed
import Derived.Maps.Own
import Derived.OneCell
import Derived.OpenShut
import Derived.OrdersHeld
import Derived.OwnWalkIn
import Derived.RangeFuncBound
import Derived.RangeFuncBox
import Derived.RangeFuncCalls
import Derived.RangeFuncLeaves
import Derived.RangeFuncNested
import Derived.RegionTactic
import Derived.Shelf.Abstract
import Derived.Shelf.RegionOpen
import Derived.Shelf.SlSortCmp.InsertionK
import Derived.Shelf.Sort.Plain
import Derived.Sort.OwnSortedInts
import Derived.StillTail
import Derived.TacticsInMore
import Derived.Test.YtcblbdpdbggkbaaGreatChecked
import Derived.Test.YtcblbdpdbggkbaaGreatProg
import Derived.Test.YtcblbdpdbggkbaaGreatRows
import Derived.WalkKit
import Derived.WalkLawsBesides
import Derived.WalkSmall
import Derived.WalkSpells
import Derived.Test.YtcblbdpdbggkbaaGreatSReach9
set_option maxRecDepth 100000
set_option maxHeartbeats 16000000
set_option linter.unusedVariables false
set_option linter.unusedSectionVars false
set_option linter.unusedSimpArgs false
namespace Go.Proofs.YtcblbdpdbggkbaaGreat
open Go.RowKit Go.Sort
namespace N
section
variable {B a k:Nat} {w0 w:World} {l:List Ch}
theorem run_addI {v u:Value} {zs ys:List Int} (h:M B w0 w (intsC v zs::l)) (hy:RdL encI w u ys) (hne:ys≠[]) (ty:TypeId) (h63:zs.length+ys.length<=1000000):
  ∃y cap w',(Builtin.append_ #[ 23,23 ] ty #[v,u]).run Tryz.prog w=.ok (.slice y (zs.length+ys.length) cap) w'/\M B w0 w' (intsC (.slice y (zs.length+ys.length) cap) (zs++ys)::l):=by
 by_cases hs:∃ad,v=.slice (some ad) 0 0
 ·obtain⟨ad,rfl⟩:=hs
  obtain⟨f,hf,_⟩:=h.first;obtain⟨x,c,e,_⟩:=flR_value hf;have z0:zs=[]:=List.eq_nil_of_length_eq_zero (by injection e with _ e2 _;exact e2.symm);subst z0;rcases hy with ⟨_,rfl⟩|⟨a',c',rfl,hc⟩
  ·exact absurd rfl hne
  ·obtain⟨i,hi,hz,hs,hb⟩:=info_parts intS.info
   have fl:(ys.flatMap encI).length=ys.length * 1:=by
    clear hc hne h63
    induction ys with
    |nil=>rfl
    |cons y ys ih=>rw[List.flatMap_cons,List.length_append,ih,List.length_cons];show 1+_=_;omega
   simp only[List.length_nil,Nat.zero_add,List.nil_append]at h63 ⊢;obtain⟨v',w',hr,ho,hg⟩:=run_append_arg_grows (P:=Tryz.prog) w 23 ty 3 i (.int .i64 0) 1 8 intS.und hi hz hs hb intS.zs intS.pos ad 0 0 [] rfl (fun j q hq=>by simp at hq) a' ys.length c' (ys.flatMap encI) fl hc (by
        have:ys.length≠0:=fun q=>hne (List.eq_nil_of_length_eq_zero q)
        omega) (by unfold maxLen;omega) (by omega)
   rw[List.nil_append,Nat.zero_add]at ho;obtain⟨y,cap,rfl⟩:=row_slice ho;have bl:Below w.heap.size w w':=⟨hg.os,hg.tape,hg.output,hg.size,fun q hq=>hg.block q hq (by simp)⟩
   refine⟨y,cap,w',hr,M.soft (h.drop.add bl (slc_flat_of (enc:=encI) (xs:=ys) ho (fun _=>rfl)) (block_nodup _) fun b hb=>?_)⟩;exact (World.ownsRow.lt ho b (block_mem hb)).1
 ·have h':M B w0 w (slcC (flatR_frame encI) 3 1 v zs::l):=h.to fun f hf nd=>by
   rcases hf with hf|⟨_,_,b,o,e,_⟩
   ·exact⟨f,hf,nd,fun _ h=>h⟩
   ·exact absurd ⟨_,(List.cons.inj e).1⟩ hs
  obtain⟨y,cap,w',hr,hM⟩:=run_add intS (fun _=>rfl) encI_one1 h' hy ty (by unfold maxLen;omega) (by omega);exact⟨y,cap,w',hr,hM.soft⟩
theorem step_addI {v u:Value} {zs ys:List Int} (h:M B w0 w (intsC v zs::l)) (hy:RdL encI w u ys) (hne:ys≠[])
  {ops:Array Oper} {o:Oper} {a:Act} {K:Act->World->Prop} {Q:Exit->Act->World->Prop} {E:Prop} {s x:Operand} (hgd:o.guard=none) (ho:o.op=.call { callee:=.builtin .append,args:=#[s,x],argTypes:=#[ 23,23 ] }) {N:Nat} (hs:a.eval s=v) (hu:a.eval x=u)
  (h63:zs.length+ys.length<=1000000) (hN:N=zs.length+ys.length)
  (k:∀y cap w',M B w0 w' (intsC (.slice y N cap) (zs++ys)::l)->K (a.put o.dst (.slice y N cap)) w'):if Region.wanted o (yielded ops a.tmps)=true then Oper.wp Tryz.prog o a w K Q else E:=by
 rw[if_pos (by simp[Region.wanted,hgd])];obtain⟨y,cap,w',hr,hM⟩:=run_addI h hy hne o.type h63;unfold Oper.wp execOp;simp only[ho,resolve,invoke,builtin,Sem.run_bind,Sem.run_pure,Result.andThen_ok,List.map_toArray,List.map_cons,List.map_nil,hs,hu,hr];rw[hN]at k;exact k y cap w' hM
theorem _root_.Go.Proofs.YtcblbdpdbggkbaaGreat.M.unentry {ci:List Value} {e:En} (h:M B w0 w (entryR_frame.ch ci e::l)):∃V:SV,ci=[.int .i64 e.node,.int .i64 e.born,.int .i64 e.num,.slice V.xr V.nr V.cr,.slice V.xf V.nf V.cf,.slice V.xt V.nt V.ct,.int .i64 (e.s).lo,.int .i64 (e.s).al,.slice V.xk V.nk V.ck,.int .i64 (e.s).ka]/\M B w0 w (sumR_frame.ch [.slice V.xr V.nr V.cr,.slice V.xf V.nf V.cf,.slice V.xt V.nt V.ct,.int .i64 (e.s).lo,.int .i64 (e.s).al,.slice V.xk V.nk V.ck,.int .i64 (e.s).ka] e.s::l):=by
 obtain⟨f,hf,_⟩:=h.first;obtain⟨cs,ec,V,_,_,_,_,rfl,_⟩:=entryR_iff.1 hf;refine⟨V,ec,h.to fun f hf nd=>⟨f,?_,nd,fun _ q=>q⟩⟩;obtain⟨cs2,ec2,hs2⟩:=entryR_iff.1 hf;rw[ec]at ec2
 have e3:[.slice V.xr V.nr V.cr,.slice V.xf V.nf V.cf,.slice V.xt V.nt V.ct,.int .i64 (e.s).lo,.int .i64 (e.s).al,.slice V.xk V.nk V.ck,.int .i64 (e.s).ka]=cs2:=by injection ec2 with _ q;injection q with _ q;injection q with _ q
 rw[e3];exact hs2
theorem drawOff_at (h:M B w0 w (rdC w0 B a k::l)) (hk:k<=70000):Calls Tryz.prog 85 #[.pointer (some ⟨a,0,Option.none⟩)] w fun e w'=>∃v1 v2 v3 v4,∃n:Nt,e=.returned (.agg #[v1,v2,v3,v4])/\n.nodes.length=5/\M B w0 w' (nodesC v1 n.nodes::linksC v2 n.links::wordsC v3 n.words::pastC v4 n.past::rdC w0 B a (k+910)::l):=by
 have h0:=h.alloc #[.slice none 0 0,.slice none 0 0,.slice none 0 0,.slice none 0 0] 30;obtain⟨q2,hq2⟩:∃q,q=w.heap.size:=⟨_,rfl⟩
 obtain⟨W0,hW0⟩:∃W,W=w.alloc (.cells #[.slice none 0 0,.slice none 0 0,.slice none 0 0,.slice none 0 0] 30):=⟨_,rfl⟩
 rw[<-hW0, <-hq2]at h0;have H0:=hd_ h0.p1;clear h h0;go_enter Tryz.func85,Tryz.ntmps85;go_upto_region 1 with fail
 rw[<-hW0, <-hq2];clear hW0 hq2
 go_wp2_with fail
 refine (drawNet_at H0.out (by omega)).mono ?_;rintro r W1 ⟨v1,v2,v3,v4,n,rfl,ok,h1⟩;have OK:=hd_ ok;obtain⟨x1,c1,rfl,_⟩:=M.form h1;obtain⟨x2,c2,rfl,_⟩:=M.form h1.p1;obtain⟨x3,c3,rfl,_⟩:=M.form h1.p2;obtain⟨x4,c4,rfl,_⟩:=M.form h1.p3;obtain⟨f1,hf1⟩:=h1.nodesRd;obtain⟨f2,hf2⟩:=h1.p1.linksRd;obtain⟨f4,hf4⟩:=h1.p3.pastRd;obtain⟨g1,_,_,_,rfl,_⟩:=node_at hf1 (node_get (i:=0) ok.nodes (by omega))
 obtain⟨g2,rfl,_⟩:=link_at hf2 (List.getElem?_eq_getElem (show 0<n.links.length by rw[ok.links];omega));obtain⟨g4,_,_,_,rfl,_⟩:=past_at hf4 (rows_get (i:=0) ok.past (by omega));obtain⟨j3,hj3⟩:∃j,j=n.words.length:=⟨_,rfl⟩
 rw[ok.nodes,ok.links,ok.past, <-hj3]at h1 ⊢;have J3:=hd_ hj3;have N5:=hd_ ok.nodes;have h2:=h1.alloc #[.slice (some ⟨g1,0,none⟩) 5 c1,.slice (some ⟨g2,0,none⟩) 25 c2,.slice x3 j3 c3,.slice (some ⟨g4,0,none⟩) 5 c4] 30;obtain⟨q3,hq3⟩:∃q,q=W1.heap.size:=⟨_,rfl⟩
 obtain⟨W2,hW2⟩:∃W,W=W1.alloc (.cells #[.slice (some ⟨g1,0,none⟩) 5 c1,.slice (some ⟨g2,0,none⟩) 25 c2,.slice x3 j3 c3,.slice (some ⟨g4,0,none⟩) 5 c4] 30):=⟨_,rfl⟩
 rw[<-hW2, <-hq3]at h2;have H2:=hd_ h2.p5;clear h1 h2 H0 hj3;go_upto_region 2 with fail
 rw[<-hW2, <-hq3];clear hW2 hq3
 go_wp2_with fail
 refine (H2.out.pick (by omega) 14 (by omega) (by omega)).mono ?_;rintro r W3 ⟨p,rfl,p0,p1,h3⟩;have H3:=hd_ h3;clear h3 H2
 by_cases hp:0<p
 case pos=>
  obtain⟨a0,a1,a2,a3⟩:=(H3.out.p1).cells4;obtain⟨b0,b1,b2,b3⟩:=(H3.out.p6).cells4;have bf:=(H3.out.p6).free;have F:=hd_ ((H3.out.p6).set4 (.slice (some ⟨g1,0,none⟩) 5 c1) (.slice (some ⟨g2,0,none⟩) 25 c2) (.slice x3 j3 c3) (.slice (some ⟨g4,0,none⟩) 5 c4));go_wp2;obtain⟨i0,i1,i2,i3⟩:=F.out.cells4
  (try simp only[Exit.inBlock,Exit.then])
  refine bodyPost_ret (v:=.agg #[.slice (some ⟨g1,0,none⟩) 5 c1,.slice (some ⟨g2,0,none⟩) 25 c2,.slice x3 j3 c3,.slice (some ⟨g4,0,none⟩) 5 c4]) (by simp[results,Tryz.results85,go_sem,i0,i1,i2,i3]) rfl ⟨_,_,_,_,n,rfl,N5.out,(rd_more (F.out.drop.p1.drop.p4.p4.p4.p4.p4) (by omega)).p4.p4.p4.p4⟩
 obtain rfl:p=0:=by omega
 clear hp p0 p1
 go_wp2_with fail
 refine (H3.out.pick (by omega) 5 (by omega) (by omega)).mono ?_;rintro r W4 ⟨kz,rfl,k0,k1,h4⟩;obtain⟨kk,rfl⟩:∃j:Nat,kz=j:=⟨kz.toNat,by omega⟩
 have H4:=hd_ h4;clear h4 H3;obtain⟨nd,hnd⟩:∃nd,nd=nodeAt n (kk:Int):=⟨_,rfl⟩
 have GX:Hid (n.nodes[kk]? =some nd):=hd_ (by rw[hnd];exact node_get OK.out.nodes (by omega));have ND:=hd_ hnd;clear hnd
 go_wp2_with fail
 refine (H4.out.pick (by omega) 8 (by omega) (by omega)).mono ?_;rintro r wS ⟨kd,rfl,d0,d1,h5⟩;have H:=hd_ h5;clear h5 H4
 by_cases e0:kd=0
 case pos=>
  subst e0;have S0:Hid (Cells wS (b4L q3 (.slice (some ⟨g1,0,none⟩) 5 c1) (.slice (some ⟨g2,0,none⟩) 25 c2) (.slice x3 j3 c3) (.slice (some ⟨g4,0,none⟩) 5 c4))):=hd_ (by obtain⟨a0,a1,a2,a3⟩:=H.out.p1.cells4;exact⟨a0,a1,a2,a3,trivial⟩);have S1:=hd_ (S0.out.below (Below.drew (Below.refl _ _)));have H1:=hd_ H.out.drew;obtain⟨V,hV⟩:∃V,V=wS.drew:=⟨_,rfl⟩
  rw[<-hV]at H1 S1;have EV:=hd_ hV;clear hV;go_wp2
  refine wp_region_plan 10 (.tk 0 3 (.take 4 (.alt 3 (.alt 5 (.take 6 (.alt 7 (.tk 8 2 (.alt 10 .done .nomore)) .nomore)) .nomore) (.alt 5 (.alt 3 (.take 6 (.alt 7 (.tk 8 2 (.alt 10 .done .nomore)) .nomore)) .nomore) .nomore)))) (fun w'=>Cells w' (b4L q3 (.slice (some ⟨g1,0,none⟩) 5 c1) (.slice (some ⟨g2,0,none⟩) 25 c2) (.slice x3 j3 c3) (.slice (some ⟨g4,0,none⟩) 5 c4))) (by kernel_rfl) (by kernel_rfl) (fun _ _ _ _ _ h=>h) (S0.out.below (Below.drew (Below.refl _ _))) ?_
  rw[<-EV.out];clear H EV S0
  repeat ((first|(refine plan_take (by rfl) (by rfl) ?_;apply Exists.intro;refine⟨fun w' hw'=>?_,?_⟩;(· ((try simp only[Cells,Cells_app,b4L,b5L,b6L,b7L,b10L,N.entL,and_true]at hw');go_simp;(try with_reducible rfl))))|(refine plan_skip (by rfl) (by rfl) ?_));simp only[Act.put,List.getElem_toArray,List.getElem_cons_succ,pg3,pg4,pg5,pg6])
  refine plan_alt (by rfl) (fun K' hK=>?_) ?_
  ·skip
   go_simp;have h4:=H1.out.alloc #[.int .i64 0,.int .i64 21,.int .i64 2] 3;have s4:Cells (V.alloc (.cells #[.int .i64 0,.int .i64 21,.int .i64 2] 3)) (b4L q3 (.slice (some ⟨g1,0,none⟩) 5 c1) (.slice (some ⟨g2,0,none⟩) 25 c2) (.slice x3 j3 c3) (.slice (some ⟨g4,0,none⟩) 5 c4)):=by
    obtain⟨a0,a1,a2,a3⟩:=(h4.p2).cells4;exact⟨a0,a1,a2,a3,trivial⟩
   refine hK _ _ (.inr s4) ?_;clear hK K'
   try simp only[Act.put,List.getElem_toArray,List.getElem_cons_succ,pg3,pg4,pg5,pg6]
   refine plan_last (by rfl) (fun K' hK=>?_);go_simp;refine ((h4.p1).pick (by omega) 3 (by omega) (by omega)).mono ?_;rintro r W5 ⟨z,rfl,z0,z1,h5⟩;have s_h5:Cells W5 (b4L q3 (.slice (some ⟨g1,0,none⟩) 5 c1) (.slice (some ⟨g2,0,none⟩) 25 c2) (.slice x3 j3 c3) (.slice (some ⟨g4,0,none⟩) 5 c4)):=by
    obtain⟨a0,a1,a2,a3⟩:=(h5.p2).cells4;exact⟨a0,a1,a2,a3,trivial⟩
   refine hK _ _ (.inr s_h5) ?_;clear hK K'
   try simp only[Act.put,List.getElem_toArray,List.getElem_cons_succ,pg3,pg4,pg5,pg6]
   obtain⟨jz,rfl⟩:∃n:Nat,z=n:=⟨z.toNat,by omega⟩
   have jn:jz<3:=by omega
   have jn':(jz:Int)<3:=by omega
   obtain⟨u4,hu4⟩:∃u:Int,(#[.int .i64 0,.int .i64 21,.int .i64 2]:Array Value)[jz]? =some (.int .i64 u):=by
    obtain rfl|rfl|rfl:jz=0\/jz=1\/jz=2:=by omega
    all_goals exact⟨_,rfl⟩
   have g4':=(h5.p1).cell hu4;have z00:(0:Int)<=(jz:Int):=by omega
   repeat ((first|(refine plan_take (by rfl) (by rfl) ?_;apply Exists.intro;refine⟨fun w' hw'=>?_,?_⟩;(· ((try simp only[Cells,Cells_app,b4L,b5L,b6L,b7L,b10L,N.entL,and_true]at hw');go_simp;(try with_reducible rfl))))|(refine plan_skip (by rfl) (by rfl) ?_));simp only[Act.put,List.getElem_toArray,List.getElem_cons_succ,pg3,pg4,pg5,pg6])
   refine plan_last (by rfl) (fun K' hK=>?_);go_simp;refine hK _ _ (.inr s_h5) ?_;clear hK K'
   try simp only[Act.put,List.getElem_toArray,List.getElem_cons_succ,pg3,pg4,pg5,pg6]
   repeat ((first|(refine plan_take (by rfl) (by rfl) ?_;apply Exists.intro;refine⟨fun w' hw'=>?_,?_⟩;(· ((try simp only[Cells,Cells_app,b4L,b5L,b6L,b7L,b10L,N.entL,and_true]at hw');go_simp;(try with_reducible rfl))))|(refine plan_skip (by rfl) (by rfl) ?_));simp only[Act.put,List.getElem_toArray,List.getElem_cons_succ,pg3,pg4,pg5,pg6])
   obtain⟨⟨u,cu⟩,fu,hN⟩:=(M.setNum (h5.p3) GX.out u4).1;refine plan_last (by rfl) (fun K hK=>?_);go_simp;refine hK _ _ (.inl rfl) ?_;clear hK K
   try simp only[Act.put,List.getElem_toArray,List.getElem_cons_succ,pg3,pg4,pg5,pg6]
   refine plan_done ?_;obtain⟨Y,hY⟩:∃Y,Y=W5.setCell ⟨g1,kk * 5,none⟩ (.int .i64 u4):=⟨_,rfl⟩
   rw[<-hY]at hN ⊢;have HF:=hd_ hN;clear hY hN;obtain⟨a0,a1,a2,a3⟩:=(HF.out.p3).cells4;obtain⟨b0,b1,b2,b3⟩:=(HF.out.p7).cells4;have bf:=(HF.out.p7).free;have F:=hd_ ((HF.out.p7).set4 (.slice (some ⟨g1,0,none⟩) 5 c1) (.slice (some ⟨g2,0,none⟩) 25 c2) (.slice x3 j3 c3) (.slice (some ⟨g4,0,none⟩) 5 c4));go_wp2;obtain⟨i0,i1,i2,i3⟩:=F.out.cells4
   (try simp only[Exit.inBlock,Exit.then])
   refine bodyPost_ret (v:=.agg #[.slice (some ⟨g1,0,none⟩) 5 c1,.slice (some ⟨g2,0,none⟩) 25 c2,.slice x3 j3 c3,.slice (some ⟨g4,0,none⟩) 5 c4]) (by simp[results,Tryz.results85,go_sem,i0,i1,i2,i3]) rfl ⟨_,_,_,_,{ n with nodes:=n.nodes.set kk { nd with born:=u4 } },rfl,(by rw[List.length_set];exact N5.out),(rd_more (F.out.drop.p2.drop.p2.drop.p4.p4.p4.p3.p4) (by omega)).p4.p4.p4.p4⟩
  ·skip
   refine plan_last (by rfl) (fun K' hK=>?_);go_simp;refine ((H1.out).pick (by omega) 3 (by omega) (by omega)).mono ?_;rintro r W4 ⟨z,rfl,z0,z1,h4⟩;have s_h4:Cells W4 (b4L q3 (.slice (some ⟨g1,0,none⟩) 5 c1) (.slice (some ⟨g2,0,none⟩) 25 c2) (.slice x3 j3 c3) (.slice (some ⟨g4,0,none⟩) 5 c4)):=by
    obtain⟨a0,a1,a2,a3⟩:=(h4.p1).cells4;exact⟨a0,a1,a2,a3,trivial⟩
   refine hK _ _ (.inr s_h4) ?_;clear hK K'
   try simp only[Act.put,List.getElem_toArray,List.getElem_cons_succ,pg3,pg4,pg5,pg6]
   refine plan_last (by rfl) (fun K' hK=>?_);go_simp;have h5:=h4.alloc #[.int .i64 0,.int .i64 21,.int .i64 2] 3;obtain⟨W5,hW5⟩:∃W5,W5=W4.alloc (.cells #[.int .i64 0,.int .i64 21,.int .i64 2] 3):=⟨_,rfl⟩
   rw[<-hW5]at h5;have s_h5:Cells W5 (b4L q3 (.slice (some ⟨g1,0,none⟩) 5 c1) (.slice (some ⟨g2,0,none⟩) 25 c2) (.slice x3 j3 c3) (.slice (some ⟨g4,0,none⟩) 5 c4)):=by
    obtain⟨a0,a1,a2,a3⟩:=(h5.p2).cells4;exact⟨a0,a1,a2,a3,trivial⟩
   refine hK _ _ (.inr (by rw[<-hW5];exact s_h5)) ?_;clear hK K';rw[<-hW5]
   try simp only[Act.put,List.getElem_toArray,List.getElem_cons_succ,pg3,pg4,pg5,pg6]
   clear hW5;obtain⟨jz,rfl⟩:∃n:Nat,z=n:=⟨z.toNat,by omega⟩
   have jn:jz<3:=by omega
   have jn':(jz:Int)<3:=by omega
   obtain⟨u4,hu4⟩:∃u:Int,(#[.int .i64 0,.int .i64 21,.int .i64 2]:Array Value)[jz]? =some (.int .i64 u):=by
    obtain rfl|rfl|rfl:jz=0\/jz=1\/jz=2:=by omega
    all_goals exact⟨_,rfl⟩
   have g4':=(h5).cell hu4;have z00:(0:Int)<=(jz:Int):=by omega
   repeat ((first|(refine plan_take (by rfl) (by rfl) ?_;apply Exists.intro;refine⟨fun w' hw'=>?_,?_⟩;(· ((try simp only[Cells,Cells_app,b4L,b5L,b6L,b7L,b10L,N.entL,and_true]at hw');go_simp;(try with_reducible rfl))))|(refine plan_skip (by rfl) (by rfl) ?_));simp only[Act.put,List.getElem_toArray,List.getElem_cons_succ,pg3,pg4,pg5,pg6])
   refine plan_last (by rfl) (fun K' hK=>?_);go_simp;refine hK _ _ (.inr s_h5) ?_;clear hK K'
   try simp only[Act.put,List.getElem_toArray,List.getElem_cons_succ,pg3,pg4,pg5,pg6]
   repeat ((first|(refine plan_take (by rfl) (by rfl) ?_;apply Exists.intro;refine⟨fun w' hw'=>?_,?_⟩;(· ((try simp only[Cells,Cells_app,b4L,b5L,b6L,b7L,b10L,N.entL,and_true]at hw');go_simp;(try with_reducible rfl))))|(refine plan_skip (by rfl) (by rfl) ?_));simp only[Act.put,List.getElem_toArray,List.getElem_cons_succ,pg3,pg4,pg5,pg6])
   obtain⟨⟨u,cu⟩,fu,hN⟩:=(M.setNum (h5.p3) GX.out u4).1;refine plan_last (by rfl) (fun K hK=>?_);go_simp;refine hK _ _ (.inl rfl) ?_;clear hK K
   try simp only[Act.put,List.getElem_toArray,List.getElem_cons_succ,pg3,pg4,pg5,pg6]
   refine plan_done ?_;obtain⟨Y,hY⟩:∃Y,Y=W5.setCell ⟨g1,kk * 5,none⟩ (.int .i64 u4):=⟨_,rfl⟩
   rw[<-hY]at hN ⊢;have HF:=hd_ hN;clear hY hN;obtain⟨a0,a1,a2,a3⟩:=(HF.out.p3).cells4;obtain⟨b0,b1,b2,b3⟩:=(HF.out.p7).cells4;have bf:=(HF.out.p7).free;have F:=hd_ ((HF.out.p7).set4 (.slice (some ⟨g1,0,none⟩) 5 c1) (.slice (some ⟨g2,0,none⟩) 25 c2) (.slice x3 j3 c3) (.slice (some ⟨g4,0,none⟩) 5 c4));go_wp2;obtain⟨i0,i1,i2,i3⟩:=F.out.cells4
   (try simp only[Exit.inBlock,Exit.then])
   refine bodyPost_ret (v:=.agg #[.slice (some ⟨g1,0,none⟩) 5 c1,.slice (some ⟨g2,0,none⟩) 25 c2,.slice x3 j3 c3,.slice (some ⟨g4,0,none⟩) 5 c4]) (by simp[results,Tryz.results85,go_sem,i0,i1,i2,i3]) rfl ⟨_,_,_,_,{ n with nodes:=n.nodes.set kk { nd with born:=u4 } },rfl,(by rw[List.length_set];exact N5.out),(rd_more (F.out.drop.p1.drop.p2.drop.p4.p4.p4.p3.p4) (by omega)).p4.p4.p4.p4⟩
 have e0':(kd==0)=false:=by simpa using e0
 by_cases e1:kd=1
 case pos=>
  subst e1;have S0:Hid (Cells wS (b4L q3 (.slice (some ⟨g1,0,none⟩) 5 c1) (.slice (some ⟨g2,0,none⟩) 25 c2) (.slice x3 j3 c3) (.slice (some ⟨g4,0,none⟩) 5 c4))):=hd_ (by obtain⟨a0,a1,a2,a3⟩:=H.out.p1.cells4;exact⟨a0,a1,a2,a3,trivial⟩);have S1:=hd_ (S0.out.below (Below.drew (Below.refl _ _)));have H1:=hd_ H.out.drew;obtain⟨V,hV⟩:∃V,V=wS.drew:=⟨_,rfl⟩
  rw[<-hV]at H1 S1;have EV:=hd_ hV;clear hV;go_wp2;refine wp_region_plan 7 (.tk 0 4 (.alt 4 (.tk 5 2 (.alt 7 .done .nomore)) .nomore)) (fun w'=>Cells w' (b4L q3 (.slice (some ⟨g1,0,none⟩) 5 c1) (.slice (some ⟨g2,0,none⟩) 25 c2) (.slice x3 j3 c3) (.slice (some ⟨g4,0,none⟩) 5 c4))) (by kernel_rfl) (by kernel_rfl) (fun _ _ _ _ _ h=>h) (S0.out.below (Below.drew (Below.refl _ _))) ?_;rw[<-EV.out]
  clear H EV S0
  repeat ((first|(refine plan_take (by rfl) (by rfl) ?_;apply Exists.intro;refine⟨fun w' hw'=>?_,?_⟩;(· ((try simp only[Cells,Cells_app,b4L,b5L,b6L,b7L,b10L,N.entL,and_true]at hw');go_simp;(try with_reducible rfl))))|(refine plan_skip (by rfl) (by rfl) ?_));simp only[Act.put,List.getElem_toArray,List.getElem_cons_succ,pg3,pg4,pg5,pg6])
  refine plan_last (by rfl) (fun K' hK=>?_);go_simp;refine ((H1.out).pick (by omega) 7 (by omega) (by omega)).mono ?_;rintro r W5 ⟨z,rfl,z0,z1,h5⟩;have s_h5:Cells W5 (b4L q3 (.slice (some ⟨g1,0,none⟩) 5 c1) (.slice (some ⟨g2,0,none⟩) 25 c2) (.slice x3 j3 c3) (.slice (some ⟨g4,0,none⟩) 5 c4)):=by
   obtain⟨a0,a1,a2,a3⟩:=(h5.p1).cells4;exact⟨a0,a1,a2,a3,trivial⟩
  refine hK _ _ (.inr s_h5) ?_;clear hK K'
  try simp only[Act.put,List.getElem_toArray,List.getElem_cons_succ,pg3,pg4,pg5,pg6]
  repeat ((first|(refine plan_take (by rfl) (by rfl) ?_;apply Exists.intro;refine⟨fun w' hw'=>?_,?_⟩;(· ((try simp only[Cells,Cells_app,b4L,b5L,b6L,b7L,b10L,N.entL,and_true]at hw');go_simp;(try with_reducible rfl))))|(refine plan_skip (by rfl) (by rfl) ?_));simp only[Act.put,List.getElem_toArray,List.getElem_cons_succ,pg3,pg4,pg5,pg6])
  obtain⟨⟨u,cu⟩,fu,hN⟩:=(M.setNum (h5.p2) GX.out z).2.2.1;refine plan_last (by rfl) (fun K hK=>?_);go_simp;refine hK _ _ (.inl rfl) ?_;clear hK K
  try simp only[Act.put,List.getElem_toArray,List.getElem_cons_succ,pg3,pg4,pg5,pg6]
  refine plan_done ?_;obtain⟨Y,hY⟩:∃Y,Y=W5.setCell ⟨g1,kk * 5+3,none⟩ (.int .i64 z):=⟨_,rfl⟩
  rw[<-hY]at hN ⊢;have HF:=hd_ hN;clear hY hN;obtain⟨a0,a1,a2,a3⟩:=(HF.out.p2).cells4;obtain⟨b0,b1,b2,b3⟩:=(HF.out.p6).cells4;have bf:=(HF.out.p6).free;have F:=hd_ ((HF.out.p6).set4 (.slice (some ⟨g1,0,none⟩) 5 c1) (.slice (some ⟨g2,0,none⟩) 25 c2) (.slice x3 j3 c3) (.slice (some ⟨g4,0,none⟩) 5 c4));go_wp2;obtain⟨i0,i1,i2,i3⟩:=F.out.cells4
  (try simp only[Exit.inBlock,Exit.then])
  refine bodyPost_ret (v:=.agg #[.slice (some ⟨g1,0,none⟩) 5 c1,.slice (some ⟨g2,0,none⟩) 25 c2,.slice x3 j3 c3,.slice (some ⟨g4,0,none⟩) 5 c4]) (by simp[results,Tryz.results85,go_sem,i0,i1,i2,i3]) rfl ⟨_,_,_,_,{ n with nodes:=n.nodes.set kk { nd with level:=z } },rfl,(by rw[List.length_set];exact N5.out),(rd_more (F.out.drop.p2.drop.p4.p4.p4.p3.p4) (by omega)).p4.p4.p4.p4⟩
 have e1':(kd==1)=false:=by simpa using e1
 by_cases e2:kd=2
 case pos=>
  subst e2;have S0:Hid (Cells wS (b4L q3 (.slice (some ⟨g1,0,none⟩) 5 c1) (.slice (some ⟨g2,0,none⟩) 25 c2) (.slice x3 j3 c3) (.slice (some ⟨g4,0,none⟩) 5 c4))):=hd_ (by obtain⟨a0,a1,a2,a3⟩:=H.out.p1.cells4;exact⟨a0,a1,a2,a3,trivial⟩);have S1:=hd_ (S0.out.below (Below.drew (Below.refl _ _)));have H1:=hd_ H.out.drew;obtain⟨V,hV⟩:∃V,V=wS.drew:=⟨_,rfl⟩
  rw[<-hV]at H1 S1;have EV:=hd_ hV;clear hV;go_wp2;refine wp_region_plan 8 (.tk 0 4 (.alt 4 (.tk 5 3 (.alt 8 .done .nomore)) .nomore)) (fun w'=>Cells w' (b4L q3 (.slice (some ⟨g1,0,none⟩) 5 c1) (.slice (some ⟨g2,0,none⟩) 25 c2) (.slice x3 j3 c3) (.slice (some ⟨g4,0,none⟩) 5 c4))) (by kernel_rfl) (by kernel_rfl) (fun _ _ _ _ _ h=>h) (S0.out.below (Below.drew (Below.refl _ _))) ?_;rw[<-EV.out]
  clear H EV S0
  repeat ((first|(refine plan_take (by rfl) (by rfl) ?_;apply Exists.intro;refine⟨fun w' hw'=>?_,?_⟩;(· ((try simp only[Cells,Cells_app,b4L,b5L,b6L,b7L,b10L,N.entL,and_true]at hw');go_simp;(try with_reducible rfl))))|(refine plan_skip (by rfl) (by rfl) ?_));simp only[Act.put,List.getElem_toArray,List.getElem_cons_succ,pg3,pg4,pg5,pg6])
  refine plan_last (by rfl) (fun K' hK=>?_);go_simp;refine ((H1.out).pick (by omega) 7 (by omega) (by omega)).mono ?_;rintro r W5 ⟨z,rfl,z0,z1,h5⟩;have s_h5:Cells W5 (b4L q3 (.slice (some ⟨g1,0,none⟩) 5 c1) (.slice (some ⟨g2,0,none⟩) 25 c2) (.slice x3 j3 c3) (.slice (some ⟨g4,0,none⟩) 5 c4)):=by
   obtain⟨a0,a1,a2,a3⟩:=(h5.p1).cells4;exact⟨a0,a1,a2,a3,trivial⟩
  refine hK _ _ (.inr s_h5) ?_;clear hK K'
  try simp only[Act.put,List.getElem_toArray,List.getElem_cons_succ,pg3,pg4,pg5,pg6]
  have wr1:IntKind.i64.wrap (z - 1)=z - 1:=IntWalk.i64_in _ (by omega)
  repeat ((first|(refine plan_take (by rfl) (by rfl) ?_;apply Exists.intro;refine⟨fun w' hw'=>?_,?_⟩;(· ((try simp only[Cells,Cells_app,b4L,b5L,b6L,b7L,b10L,N.entL,and_true]at hw');go_simp;(try with_reducible rfl))))|(refine plan_skip (by rfl) (by rfl) ?_));simp only[Act.put,List.getElem_toArray,List.getElem_cons_succ,pg3,pg4,pg5,pg6])
  obtain⟨⟨u,cu⟩,fu,hN⟩:=(M.setNum (h5.p2) GX.out (z - 1)).2.2.2;refine plan_last (by rfl) (fun K hK=>?_);go_simp;refine hK _ _ (.inl rfl) ?_;clear hK K
  try simp only[Act.put,List.getElem_toArray,List.getElem_cons_succ,pg3,pg4,pg5,pg6]
  refine plan_done ?_;obtain⟨Y,hY⟩:∃Y,Y=W5.setCell ⟨g1,kk * 5+4,none⟩ (.int .i64 (z - 1)):=⟨_,rfl⟩
  rw[<-hY]at hN ⊢;have HF:=hd_ hN;clear hY hN;obtain⟨a0,a1,a2,a3⟩:=(HF.out.p2).cells4;obtain⟨b0,b1,b2,b3⟩:=(HF.out.p6).cells4;have bf:=(HF.out.p6).free;have F:=hd_ ((HF.out.p6).set4 (.slice (some ⟨g1,0,none⟩) 5 c1) (.slice (some ⟨g2,0,none⟩) 25 c2) (.slice x3 j3 c3) (.slice (some ⟨g4,0,none⟩) 5 c4));go_wp2;obtain⟨i0,i1,i2,i3⟩:=F.out.cells4
  (try simp only[Exit.inBlock,Exit.then])
  refine bodyPost_ret (v:=.agg #[.slice (some ⟨g1,0,none⟩) 5 c1,.slice (some ⟨g2,0,none⟩) 25 c2,.slice x3 j3 c3,.slice (some ⟨g4,0,none⟩) 5 c4]) (by simp[results,Tryz.results85,go_sem,i0,i1,i2,i3]) rfl ⟨_,_,_,_,{ n with nodes:=n.nodes.set kk { nd with up:=(z - 1) } },rfl,(by rw[List.length_set];exact N5.out),(rd_more (F.out.drop.p2.drop.p4.p4.p4.p3.p4) (by omega)).p4.p4.p4.p4⟩
 have e2':(kd==2)=false:=by simpa using e2
 by_cases e3:kd=3
 case pos=>
  subst e3;obtain⟨r0,hr0⟩:∃r0,r0=nodeAt n 0:=⟨_,rfl⟩
  have gr0:n.nodes[0]? =some r0:=by rw[hr0];exact node_get (i:=0) OK.out.nodes (by omega)
  have bz:0<=r0.beacon/\r0.beacon<=1000:=by rw[hr0];exact⟨((OK.out.way 0 zero_node).beacon).1,OK.out.beacon⟩
  obtain⟨fz,hfz⟩:=H.out.p2.nodesRd;obtain⟨gz,_,_,_,evz,_,_,_,_,_,_,_,z2,_,_⟩:=node_at hfz gr0;cases evz;rw[Nat.zero_mul,Nat.zero_add]at z2;have wr1:IntKind.i64.wrap (r0.beacon+1)=r0.beacon+1:=IntWalk.i64_in _ (by omega);clear hr0 gr0 hfz bz
  have S0:Hid (Cells wS (b4L q3 (.slice (some ⟨g1,0,none⟩) 5 c1) (.slice (some ⟨g2,0,none⟩) 25 c2) (.slice x3 j3 c3) (.slice (some ⟨g4,0,none⟩) 5 c4)++[(⟨g1,2,none⟩,.int .i64 r0.beacon)])):=hd_ (by obtain⟨a0,a1,a2,a3⟩:=H.out.p1.cells4;exact⟨a0,a1,a2,a3,z2,trivial⟩);have S1:=hd_ (S0.out.below (Below.drew (Below.refl _ _)));have H1:=hd_ (H.out.drew);obtain⟨V,hV⟩:∃V,V=wS.drew:=⟨_,rfl⟩
  rw[<-hV]at H1 S1;have EV:=hd_ hV;clear hV;go_wp2;refine wp_region_plan 11 (.tk 0 11 (.alt 11 .done .nomore)) (fun w'=>Cells w' (b4L q3 (.slice (some ⟨g1,0,none⟩) 5 c1) (.slice (some ⟨g2,0,none⟩) 25 c2) (.slice x3 j3 c3) (.slice (some ⟨g4,0,none⟩) 5 c4)++[(⟨g1,2,none⟩,.int .i64 r0.beacon)])) (by kernel_rfl) (by kernel_rfl) (fun _ _ _ _ _ h=>h) (S0.out.below (Below.drew (Below.refl _ _))) ?_
  rw[<-EV.out];clear EV S0
  repeat ((first|(refine plan_take (by rfl) (by rfl) ?_;apply Exists.intro;refine⟨fun w' hw'=>?_,?_⟩;(· ((try simp only[Cells,Cells_app,b4L,b5L,b6L,b7L,b10L,N.entL,and_true]at hw');go_simp;(try with_reducible rfl))))|(refine plan_skip (by rfl) (by rfl) ?_));simp only[Act.put,List.getElem_toArray,List.getElem_cons_succ,pg3,pg4,pg5,pg6])
  obtain⟨⟨u,cu⟩,fu,hN⟩:=(M.setNum (H1.out.p2) GX.out (r0.beacon+1)).2.1;refine plan_last (by rfl) (fun K hK=>?_);go_simp;refine hK _ _ (.inl rfl) ?_;clear hK K
  try simp only[Act.put,List.getElem_toArray,List.getElem_cons_succ,pg3,pg4,pg5,pg6]
  refine plan_done ?_;obtain⟨Y,hY⟩:∃Y,Y=V.setCell ⟨g1,kk * 5+2,none⟩ (.int .i64 (r0.beacon+1)):=⟨_,rfl⟩
  rw[<-hY]at hN ⊢;have HF:=hd_ hN;clear hY hN;obtain⟨a0,a1,a2,a3⟩:=(HF.out.p2).cells4;obtain⟨b0,b1,b2,b3⟩:=(HF.out.p6).cells4;have bf:=(HF.out.p6).free;have F:=hd_ ((HF.out.p6).set4 (.slice (some ⟨g1,0,none⟩) 5 c1) (.slice (some ⟨g2,0,none⟩) 25 c2) (.slice x3 j3 c3) (.slice (some ⟨g4,0,none⟩) 5 c4));go_wp2;obtain⟨i0,i1,i2,i3⟩:=F.out.cells4
  (try simp only[Exit.inBlock,Exit.then])
  refine bodyPost_ret (v:=.agg #[.slice (some ⟨g1,0,none⟩) 5 c1,.slice (some ⟨g2,0,none⟩) 25 c2,.slice x3 j3 c3,.slice (some ⟨g4,0,none⟩) 5 c4]) (by simp[results,Tryz.results85,go_sem,i0,i1,i2,i3]) rfl ⟨_,_,_,_,{ n with nodes:=n.nodes.set kk { nd with beacon:=r0.beacon+1 } },rfl,(by rw[List.length_set];exact N5.out),(rd_more (F.out.drop.p2.drop.p4.p4.p4.p3.p4) (by omega)).p4.p4.p4.p4⟩
 have e3':(kd==3)=false:=by simpa using e3
 by_cases e4:kd=4
 case pos=>
  subst e4;have hin:isNode (kk:Int):=by unfold isNode;omega
  obtain⟨en,hen⟩:∃en,nd.known[0]? =some en:=by
   obtain⟨e,he,_⟩:=OK.out.own _ hin;rw[<-ND.out]at he;have:=(find_some he).1;exact⟨_,List.getElem?_eq_getElem (by have:=List.length_pos_of_mem this;omega)⟩
  have bn:0<=en.num/\en.num<=100:=by
   have T:=(OK.out.known _ hin).all en (by rw[<-ND.out];exact List.mem_of_getElem? hen);have:=T.num;have hb:=OK.out.born _ T.node;have P:=OK.out.pasts _ T.node;have:(pastAt n en.node en.born).length<=100:=P.few _ (by
        unfold pastAt
        rw[List.getD_eq_getElem?_getD,List.getElem?_eq_getElem (by have:=P.len;have:=T.born;omega)]
        exact List.getElem_mem _)
   omega
  have wr1:IntKind.i64.wrap (en.num+1)=en.num+1:=IntWalk.i64_in _ (by omega);have k0':0<nd.known.length:=(List.getElem?_eq_some_iff.1 hen).1;have k0'':(0:Int)<(nd.known.length:Int):=by omega
  obtain⟨yk,cyk,hk0⟩:=M.openKnown H.out.p2 GX.out;have gnk:=hk0.p1.hcell (i:=kk) (j:=1) (List.getElem?_eq_some_iff.1 GX.out).1 rfl;obtain⟨gk,capk,ci,evk,hck,hk1⟩:=M.open entryR_frame hk0 hen;obtain⟨ek1,ek2,ek3⟩:=Value.slice.inj evk;cases ek1;cases ek3;clear ek2;obtain⟨V0,rfl,hk2⟩:=M.unentry hk1;have gz:=hk2.p1.hcell (i:=0) (j:=2) k0' rfl;rw[Nat.zero_mul,Nat.zero_add]at gz
  obtain⟨kl,hkl⟩:∃kl,kl=nd.known.length:=⟨_,rfl⟩
  rw[<-hkl]at gnk k0'';have k000:0<kl:=by omega
  have KL:=hd_ hkl;have HEN:=hd_ hen;have HK2:=hd_ hk2;clear hk0 hk1 hk2 hck bn hin evk hkl hen
  have S0:Hid (Cells wS (b4L q3 (.slice (some ⟨g1,0,none⟩) 5 c1) (.slice (some ⟨g2,0,none⟩) 25 c2) (.slice x3 j3 c3) (.slice (some ⟨g4,0,none⟩) 5 c4)++[(⟨g1,kk * 5+1,none⟩,.slice (some ⟨gk,0,none⟩) kl cyk),(⟨gk,2,none⟩,.int .i64 en.num)])):=hd_ (by obtain⟨a0,a1,a2,a3⟩:=H.out.p1.cells4;exact⟨a0,a1,a2,a3,gnk,gz,trivial⟩);have S1:=hd_ (S0.out.below (Below.drew (Below.refl _ _)))
  have H1:=hd_ (HK2.out.drew);obtain⟨V,hV⟩:∃V,V=wS.drew:=⟨_,rfl⟩
  rw[<-hV]at H1 S1;have EV:=hd_ hV;clear hV;go_wp2
  refine wp_region_plan 18 (.tk 0 18 (.alt 18 .done .nomore)) (fun w'=>Cells w' (b4L q3 (.slice (some ⟨g1,0,none⟩) 5 c1) (.slice (some ⟨g2,0,none⟩) 25 c2) (.slice x3 j3 c3) (.slice (some ⟨g4,0,none⟩) 5 c4)++[(⟨g1,kk * 5+1,none⟩,.slice (some ⟨gk,0,none⟩) kl cyk),(⟨gk,2,none⟩,.int .i64 en.num)])) (by kernel_rfl) (by kernel_rfl) (fun _ _ _ _ _ h=>h) (S0.out.below (Below.drew (Below.refl _ _))) ?_
  rw[<-EV.out];clear EV S0
  repeat ((first|(refine plan_take (by rfl) (by rfl) ?_;apply Exists.intro;refine⟨fun w' hw'=>?_,?_⟩;(· ((try simp only[Cells,Cells_app,b4L,b5L,b6L,b7L,b10L,N.entL,and_true]at hw');go_simp;(try with_reducible rfl))))|(refine plan_skip (by rfl) (by rfl) ?_));simp only[Act.put,List.getElem_toArray,List.getElem_cons_succ,pg3,pg4,pg5,pg6])
  have hN:=H1.out.p1.hset (i:=0) k0' (j:=2) (by omega) (.int .i64 (en.num+1));have cu:=H1.out.p1.hcell (i:=0) (j:=2) k0' rfl;have fu:=H1.out.p1.hfree (0 * 10+2);rw[Nat.zero_mul,Nat.zero_add]at hN cu fu;refine plan_last (by rfl) (fun K hK=>?_);go_simp;refine hK _ _ (.inl rfl) ?_;clear hK K
  try simp only[Act.put,List.getElem_toArray,List.getElem_cons_succ,pg3,pg4,pg5,pg6]
  refine plan_done ?_;obtain⟨Y,hY⟩:∃Y,Y=V.setCell ⟨gk,2,none⟩ (.int .i64 (en.num+1)):=⟨_,rfl⟩
  rw[<-hY]at hN ⊢;have hq:=M.close (FA:=entryR_frame) (x:=⟨en.node,en.born,en.num+1,en.s⟩) ((hN.p1).entry en.node en.born (en.num+1)) k0';have hq2:=M.close (FA:=nodeR_frame (T:=TY)) (x:=⟨nd.born,nd.known.set 0 ⟨en.node,en.born,en.num+1,en.s⟩,nd.beacon,nd.level,nd.up⟩) (M.node nd.born nd.beacon nd.level nd.up hq) (List.getElem?_eq_some_iff.1 GX.out).1;have HF:=hd_ hq2;clear hY hN hq hq2 cu fu
  obtain⟨a0,a1,a2,a3⟩:=(HF.out.p2).cells4;obtain⟨b0,b1,b2,b3⟩:=(HF.out.p6).cells4;have bf:=(HF.out.p6).free;have F:=hd_ ((HF.out.p6).set4 (.slice (some ⟨g1,0,none⟩) 5 c1) (.slice (some ⟨g2,0,none⟩) 25 c2) (.slice x3 j3 c3) (.slice (some ⟨g4,0,none⟩) 5 c4));go_wp2;obtain⟨i0,i1,i2,i3⟩:=F.out.cells4
  (try simp only[Exit.inBlock,Exit.then])
  refine bodyPost_ret (v:=.agg #[.slice (some ⟨g1,0,none⟩) 5 c1,.slice (some ⟨g2,0,none⟩) 25 c2,.slice x3 j3 c3,.slice (some ⟨g4,0,none⟩) 5 c4]) (by simp[results,Tryz.results85,go_sem,i0,i1,i2,i3]) rfl ⟨_,_,_,_,{ n with nodes:=n.nodes.set kk ⟨nd.born,nd.known.set 0 ⟨en.node,en.born,en.num+1,en.s⟩,nd.beacon,nd.level,nd.up⟩ },rfl,(by rw[List.length_set];exact N5.out),(rd_more (F.out.drop.p2.drop.p4.p4.p4.p3.p4) (by omega)).p4.p4.p4.p4⟩
 have e4':(kd==4)=false:=by simpa using e4
 by_cases e5:kd=5
 case pos=>
  subst e5;have S0:Hid (Cells wS (b4L q3 (.slice (some ⟨g1,0,none⟩) 5 c1) (.slice (some ⟨g2,0,none⟩) 25 c2) (.slice x3 j3 c3) (.slice (some ⟨g4,0,none⟩) 5 c4))):=hd_ (by obtain⟨a0,a1,a2,a3⟩:=H.out.p1.cells4;exact⟨a0,a1,a2,a3,trivial⟩);have S1:=hd_ (S0.out.below (Below.drew (Below.refl _ _)));have H1:=hd_ H.out.drew;obtain⟨V,hV⟩:∃V,V=wS.drew:=⟨_,rfl⟩
  rw[<-hV]at H1 S1;have EV:=hd_ hV;clear hV;go_wp2
  refine wp_region_plan 14 (.tk 0 3 (.take 4 (.take 6 (.take 8 (.alt 3 (.alt 5 (.alt 7 (.alt 9 (.take 10 (.alt 11 (.alt 12 (.take 13 (.alt 14 .done .nomore)) .nomore) .nomore)) .nomore) .nomore) .nomore) .nomore))))) (fun w'=>Cells w' (b4L q3 (.slice (some ⟨g1,0,none⟩) 5 c1) (.slice (some ⟨g2,0,none⟩) 25 c2) (.slice x3 j3 c3) (.slice (some ⟨g4,0,none⟩) 5 c4))) (by kernel_rfl) (by kernel_rfl) (fun _ _ _ _ _ h=>h) (S0.out.below (Below.drew (Below.refl _ _))) ?_
  rw[<-EV.out];clear H EV S0
  repeat ((first|(refine plan_take (by rfl) (by rfl) ?_;apply Exists.intro;refine⟨fun w' hw'=>?_,?_⟩;(· ((try simp only[Cells,Cells_app,b4L,b5L,b6L,b7L,b10L,N.entL,and_true]at hw');go_simp;(try with_reducible rfl))))|(refine plan_skip (by rfl) (by rfl) ?_));simp only[Act.put,List.getElem_toArray,List.getElem_cons_succ,pg3,pg4,pg5,pg6])
  refine plan_last (by rfl) (fun K' hK=>?_);go_simp;refine ((H1.out).pick (by omega) 4 (by omega) (by omega)).mono ?_;rintro r W5 ⟨z,rfl,z0,z1,h5⟩;have s_h5:Cells W5 (b4L q3 (.slice (some ⟨g1,0,none⟩) 5 c1) (.slice (some ⟨g2,0,none⟩) 25 c2) (.slice x3 j3 c3) (.slice (some ⟨g4,0,none⟩) 5 c4)):=by
   obtain⟨a0,a1,a2,a3⟩:=(h5.p1).cells4;exact⟨a0,a1,a2,a3,trivial⟩
  refine hK _ _ (.inr s_h5) ?_;clear hK K'
  try simp only[Act.put,List.getElem_toArray,List.getElem_cons_succ,pg3,pg4,pg5,pg6]
  refine plan_last (by rfl) (fun K' hK=>?_);go_simp;refine ((h5).pick (by omega) 6 (by omega) (by omega)).mono ?_;rintro r W6 ⟨y,rfl,y0,y1,h6⟩;have s_h6:Cells W6 (b4L q3 (.slice (some ⟨g1,0,none⟩) 5 c1) (.slice (some ⟨g2,0,none⟩) 25 c2) (.slice x3 j3 c3) (.slice (some ⟨g4,0,none⟩) 5 c4)):=by
   obtain⟨a0,a1,a2,a3⟩:=(h6.p1).cells4;exact⟨a0,a1,a2,a3,trivial⟩
  refine hK _ _ (.inr s_h6) ?_;clear hK K'
  try simp only[Act.put,List.getElem_toArray,List.getElem_cons_succ,pg3,pg4,pg5,pg6]
  refine plan_last (by rfl) (fun K' hK=>?_);go_simp;refine ((h6).pick (by omega) 6 (by omega) (by omega)).mono ?_;rintro r W7 ⟨x,rfl,x0,x1,h7⟩;have s_h7:Cells W7 (b4L q3 (.slice (some ⟨g1,0,none⟩) 5 c1) (.slice (some ⟨g2,0,none⟩) 25 c2) (.slice x3 j3 c3) (.slice (some ⟨g4,0,none⟩) 5 c4)):=by
   obtain⟨a0,a1,a2,a3⟩:=(h7.p1).cells4;exact⟨a0,a1,a2,a3,trivial⟩
  refine hK _ _ (.inr s_h7) ?_;clear hK K'
  try simp only[Act.put,List.getElem_toArray,List.getElem_cons_succ,pg3,pg4,pg5,pg6]
  refine plan_last (by rfl) (fun K' hK=>?_);go_simp;refine ((h7).pick (by omega) 6 (by omega) (by omega)).mono ?_;rintro r W8 ⟨v,rfl,v0,v1,h8⟩;have s_h8:Cells W8 (b4L q3 (.slice (some ⟨g1,0,none⟩) 5 c1) (.slice (some ⟨g2,0,none⟩) 25 c2) (.slice x3 j3 c3) (.slice (some ⟨g4,0,none⟩) 5 c4)):=by
   obtain⟨a0,a1,a2,a3⟩:=(h8.p1).cells4;exact⟨a0,a1,a2,a3,trivial⟩
  refine hK _ _ (.inr s_h8) ?_;clear hK K'
  try simp only[Act.put,List.getElem_toArray,List.getElem_cons_succ,pg3,pg4,pg5,pg6]
  repeat ((first|(refine plan_take (by rfl) (by rfl) ?_;apply Exists.intro;refine⟨fun w' hw'=>?_,?_⟩;(· ((try simp only[Cells,Cells_app,b4L,b5L,b6L,b7L,b10L,N.entL,and_true]at hw');go_simp;(try with_reducible rfl))))|(refine plan_skip (by rfl) (by rfl) ?_));simp only[Act.put,List.getElem_toArray,List.getElem_cons_succ,pg3,pg4,pg5,pg6])
  have h9:=((M.word z y x 0 v ((h8.p4).nil entryR_frame 64 10)).alloc #[.int .i64 z,.int .i64 y,.int .i64 x,.int .i64 0,.int .i64 v,.slice none 0 0] 123).p2.p1;refine plan_last (by rfl) (fun K hK=>?_);go_simp
  have s9:Cells (W8.alloc (.cells #[.int .i64 z,.int .i64 y,.int .i64 x,.int .i64 0,.int .i64 v,.slice none 0 0] 123)) (b4L q3 (.slice (some ⟨g1,0,none⟩) 5 c1) (.slice (some ⟨g2,0,none⟩) 25 c2) (.slice x3 j3 c3) (.slice (some ⟨g4,0,none⟩) 5 c4)):=s_h8.below ((Below.refl _ _).alloc lr_ _);refine hK _ _ (.inr s9) ?_;clear hK K
  try simp only[Act.put,List.getElem_toArray,List.getElem_cons_succ,pg3,pg4,pg5,pg6]
  have JW:Hid (n.words.length+1=j3+1):=hd_ (by rw[J3.out]);have w24:=OK.out.words;refine plan_last (by rfl) (fun K hK=>step_app wordS (wordR_one (T:=TY)) h9 (by rfl) (by rfl) (by rfl) (by rfl) (by unfold maxLen;omega) (by omega) (N:=j3+1) (by rw[JW.out]) (fun yw capw W9 h10=>?_))
  have s10:Cells W9 (b4L q3 (.slice (some ⟨g1,0,none⟩) 5 c1) (.slice (some ⟨g2,0,none⟩) 25 c2) (.slice x3 j3 c3) (.slice (some ⟨g4,0,none⟩) 5 c4)):=by
   obtain⟨a0,a1,a2,a3⟩:=(h10.p2).cells4;exact⟨a0,a1,a2,a3,trivial⟩
  refine hK _ _ (.inr s10) ?_;clear hK K
  try simp only[Act.put,List.getElem_toArray,List.getElem_cons_succ,pg3,pg4,pg5,pg6]
  repeat ((first|(refine plan_take (by rfl) (by rfl) ?_;apply Exists.intro;refine⟨fun w' hw'=>?_,?_⟩;(· ((try simp only[Cells,Cells_app,b4L,b5L,b6L,b7L,b10L,N.entL,and_true]at hw');go_simp;(try with_reducible rfl))))|(refine plan_skip (by rfl) (by rfl) ?_));simp only[Act.put,List.getElem_toArray,List.getElem_cons_succ,pg3,pg4,pg5,pg6])
  obtain⟨a0,a1,a2,a3⟩:=(h10.p2).cells4;have af:=(h10.p2).free;have hN:=(h10.p2).set (i:=2) (.slice yw (j3+1) capw);simp only[List.setIfInBounds_toArray,List.set_cons_zero,List.set_cons_succ]at hN;refine plan_last (by rfl) (fun K hK=>?_);go_simp;refine hK _ _ (.inl rfl) ?_;clear hK K
  try simp only[Act.put,List.getElem_toArray,List.getElem_cons_succ,pg3,pg4,pg5,pg6]
  refine plan_done ?_;obtain⟨Y,hY⟩:∃Y,Y=W9.setCell ⟨q3,2,none⟩ (.slice yw (j3+1) capw):=⟨_,rfl⟩
  rw[<-hY]at hN ⊢;have HF:=hd_ hN;clear hY hN;clear a0 a1 a2 a3;obtain⟨a0,a1,a2,a3⟩:=(HF.out).cells4;obtain⟨b0,b1,b2,b3⟩:=(HF.out.p6).cells4;have bf:=(HF.out.p6).free;have F:=hd_ ((HF.out.p6).set4 (.slice (some ⟨g1,0,none⟩) 5 c1) (.slice (some ⟨g2,0,none⟩) 25 c2) (.slice yw (j3+1) capw) (.slice (some ⟨g4,0,none⟩) 5 c4));go_wp2;obtain⟨i0,i1,i2,i3⟩:=F.out.cells4
  (try simp only[Exit.inBlock,Exit.then])
  refine bodyPost_ret (v:=.agg #[.slice (some ⟨g1,0,none⟩) 5 c1,.slice (some ⟨g2,0,none⟩) 25 c2,.slice yw (j3+1) capw,.slice (some ⟨g4,0,none⟩) 5 c4]) (by simp[results,Tryz.results85,go_sem,i0,i1,i2,i3]) rfl ⟨_,_,_,_,{ n with words:=n.words++[⟨z,y,x,0,v,[]⟩] },rfl,N5.out,(rd_more (F.out.drop.drop.p4.p1.p4.p4.p4) (by omega)).p4.p4.p4.p4⟩
 have e5':(kd==5)=false:=by simpa using e5
 by_cases e6:kd=6
 case pos=>
  subst e6;have S0:Hid (Cells wS (b4L q3 (.slice (some ⟨g1,0,none⟩) 5 c1) (.slice (some ⟨g2,0,none⟩) 25 c2) (.slice x3 j3 c3) (.slice (some ⟨g4,0,none⟩) 5 c4))):=hd_ (by obtain⟨a0,a1,a2,a3⟩:=H.out.p1.cells4;exact⟨a0,a1,a2,a3,trivial⟩);have S1:=hd_ (S0.out.below (Below.drew (Below.refl _ _)));have H1:=hd_ H.out.drew;obtain⟨V,hV⟩:∃V,V=wS.drew:=⟨_,rfl⟩
  rw[<-hV]at H1 S1;have EV:=hd_ hV;clear hV;go_wp2;refine wp_region_plan 5 (.tk 0 3 (.alt 3 (.take 4 (.alt 5 .done .nomore)) .nomore)) (fun w'=>Cells w' (b4L q3 (.slice (some ⟨g1,0,none⟩) 5 c1) (.slice (some ⟨g2,0,none⟩) 25 c2) (.slice x3 j3 c3) (.slice (some ⟨g4,0,none⟩) 5 c4))) (by kernel_rfl) (by kernel_rfl) (fun _ _ _ _ _ h=>h) (S0.out.below (Below.drew (Below.refl _ _))) ?_;rw[<-EV.out]
  clear H EV S0
  repeat ((first|(refine plan_take (by rfl) (by rfl) ?_;apply Exists.intro;refine⟨fun w' hw'=>?_,?_⟩;(· ((try simp only[Cells,Cells_app,b4L,b5L,b6L,b7L,b10L,N.entL,and_true]at hw');go_simp;(try with_reducible rfl))))|(refine plan_skip (by rfl) (by rfl) ?_));simp only[Act.put,List.getElem_toArray,List.getElem_cons_succ,pg3,pg4,pg5,pg6])
  refine plan_last (by rfl) (fun K' hK=>?_);go_simp;refine ((H1.out).pick (by omega) 25 (by omega) (by omega)).mono ?_;rintro r W5 ⟨z,rfl,z0,z1,h5⟩;have s_h5:Cells W5 (b4L q3 (.slice (some ⟨g1,0,none⟩) 5 c1) (.slice (some ⟨g2,0,none⟩) 25 c2) (.slice x3 j3 c3) (.slice (some ⟨g4,0,none⟩) 5 c4)):=by
   obtain⟨a0,a1,a2,a3⟩:=(h5.p1).cells4;exact⟨a0,a1,a2,a3,trivial⟩
  refine hK _ _ (.inr s_h5) ?_;clear hK K'
  try simp only[Act.put,List.getElem_toArray,List.getElem_cons_succ,pg3,pg4,pg5,pg6]
  obtain⟨jz,rfl⟩:∃n:Nat,z=n:=⟨z.toNat,by omega⟩
  have jn:jz<25:=by omega
  have jn':(jz:Int)<25:=by omega
  have z00:(0:Int)<=(jz:Int):=by omega
  obtain⟨⟨u,cu⟩,fu,hN⟩:=(h5.p3).setEl (i:=jz) (by rw[OK.out.links];exact jn) true (u:=.bool true) rfl
  repeat ((first|(refine plan_take (by rfl) (by rfl) ?_;apply Exists.intro;refine⟨fun w' hw'=>?_,?_⟩;(· ((try simp only[Cells,Cells_app,b4L,b5L,b6L,b7L,b10L,N.entL,and_true]at hw');go_simp;(try with_reducible rfl))))|(refine plan_skip (by rfl) (by rfl) ?_));simp only[Act.put,List.getElem_toArray,List.getElem_cons_succ,pg3,pg4,pg5,pg6])
  refine plan_last (by rfl) (fun K hK=>?_);go_simp;refine hK _ _ (.inl rfl) ?_;clear hK K
  try simp only[Act.put,List.getElem_toArray,List.getElem_cons_succ,pg3,pg4,pg5,pg6]
  refine plan_done ?_;obtain⟨Y,hY⟩:∃Y,Y=W5.setCell ⟨g2,jz,none⟩ (.bool true):=⟨_,rfl⟩
  rw[<-hY]at hN ⊢;have HF:=hd_ hN;clear hY hN;obtain⟨a0,a1,a2,a3⟩:=(HF.out.p2).cells4;obtain⟨b0,b1,b2,b3⟩:=(HF.out.p6).cells4;have bf:=(HF.out.p6).free;have F:=hd_ ((HF.out.p6).set4 (.slice (some ⟨g1,0,none⟩) 5 c1) (.slice (some ⟨g2,0,none⟩) 25 c2) (.slice x3 j3 c3) (.slice (some ⟨g4,0,none⟩) 5 c4));go_wp2;obtain⟨i0,i1,i2,i3⟩:=F.out.cells4
  (try simp only[Exit.inBlock,Exit.then])
  refine bodyPost_ret (v:=.agg #[.slice (some ⟨g1,0,none⟩) 5 c1,.slice (some ⟨g2,0,none⟩) 25 c2,.slice x3 j3 c3,.slice (some ⟨g4,0,none⟩) 5 c4]) (by simp[results,Tryz.results85,go_sem,i0,i1,i2,i3]) rfl ⟨_,_,_,_,{ n with links:=n.links.set jz true },rfl,N5.out,(rd_more (F.out.drop.p2.drop.p4.p4.p2.p4.p4) (by omega)).p4.p4.p4.p4⟩
 have e6':(kd==6)=false:=by simpa using e6
 clear e0 e1 e2 e3 e4 e5 e6;have hin:isNode (kk:Int):=by unfold isNode;omega
 have gr:=rows_get OK.out.past (show kk<5 by omega);obtain⟨rs,hrs⟩:∃rs,rs=rowsAt n (kk:Int):=⟨_,rfl⟩
 have P:=OK.out.pasts _ hin;have hb:=OK.out.born _ hin;have pl:=P.len;have pf:=P.few;rw[<-hrs]at gr pl pf;obtain⟨l1,hl1⟩:∃l1,rs[1]? =some l1:=⟨_,List.getElem?_eq_getElem (by omega)⟩
 have l100:l1.length<=100:=pf _ (List.mem_of_getElem? hl1);have r2:1<rs.length:=(List.getElem?_eq_some_iff.1 hl1).1;obtain⟨gq,capq,ci,evq,hcq,ho1⟩:=M.open rowsR_frame H.out.p5 gr;obtain⟨eq1,eq2,eq3⟩:=Value.slice.inj evq;cases eq1;cases eq3;clear evq eq2;obtain⟨vr,rfl⟩:=one_cell hcq;have gp:=ho1.p1.hcell1 (List.getElem?_eq_some_iff.1 gr).1
 obtain⟨g6,cap6,ci6,ev6,hc6,ho2⟩:=M.open (A:=intsR) intsR_frame (e:=23) (size:=1) (v:=vr) (xs:=rs) ho1 hl1;cases ev6;obtain⟨vq,rfl⟩:=one_cell hc6;have gq2:=ho2.p1.hcell1 r2;obtain⟨xq,cq,evv,_⟩:∃x c,vq=.slice x l1.length c/\True:=by
  obtain⟨f,hf,_⟩:=ho2.first;obtain⟨x,c,e,_⟩:=flR_value hf;exact⟨x,c,e,trivial⟩
 subst evv;obtain⟨ll,hll⟩:∃ll,ll=l1.length:=⟨_,rfl⟩
 obtain⟨rl,hrl⟩:∃rl,rl=rs.length:=⟨_,rfl⟩
 rw[<-hrl]at gp;rw[<-hll]at gq2;have LL:=hd_ hll;have RL2:=hd_ hrl;have rl1:(1:Int)<(rl:Int):=by omega
 have rl2:1<rl:=by omega
 have HO:=hd_ ho2;have GR:=hd_ gr;have R2:=hd_ r2;clear ho1 ho2 hcq hc6 hin gr P hb pl pf hl1 hll hrl r2 hrs
 have S0:Hid (Cells wS (b4L q3 (.slice (some ⟨g1,0,none⟩) 5 c1) (.slice (some ⟨g2,0,none⟩) 25 c2) (.slice x3 j3 c3) (.slice (some ⟨g4,0,none⟩) 5 c4)++[(⟨g4,kk,none⟩,.slice (some ⟨g6,0,none⟩) rl cap6),(⟨g6,1,none⟩,.slice xq ll cq)])):=hd_ (by obtain⟨a0,a1,a2,a3⟩:=H.out.p1.cells4;exact⟨a0,a1,a2,a3,gp,gq2,trivial⟩);have S1:=hd_ (S0.out.below (Below.drew (Below.refl _ _)));have H1:=hd_ (HO.out.drew)
 obtain⟨V,hV⟩:∃V,V=wS.drew:=⟨_,rfl⟩
 rw[<-hV]at H1 S1;have EV:=hd_ hV;clear hV;go_wp2
 refine wp_region_plan 18 (.tk 0 13 (.alt 13 (.take 14 (.alt 15 (.alt 16 (.take 17 (.alt 18 .done .nomore)) .nomore) .nomore)) .nomore)) (fun w'=>Cells w' (b4L q3 (.slice (some ⟨g1,0,none⟩) 5 c1) (.slice (some ⟨g2,0,none⟩) 25 c2) (.slice x3 j3 c3) (.slice (some ⟨g4,0,none⟩) 5 c4)++[(⟨g4,kk,none⟩,.slice (some ⟨g6,0,none⟩) rl cap6),(⟨g6,1,none⟩,.slice xq ll cq)])) (by kernel_rfl) (by kernel_rfl) (fun _ _ _ _ _ h=>h) (S0.out.below (Below.drew (Below.refl _ _))) ?_
 rw[<-EV.out];clear EV S0
 repeat ((first|(refine plan_take (by rfl) (by rfl) ?_;apply Exists.intro;refine⟨fun w' hw'=>?_,?_⟩;(· ((try simp only[Cells,Cells_app,b4L,b5L,b6L,b7L,b10L,N.entL,and_true]at hw');go_simp;(try with_reducible rfl))))|(refine plan_skip (by rfl) (by rfl) ?_));simp only[Act.put,List.getElem_toArray,List.getElem_cons_succ,pg3,pg4,pg5,pg6])
 refine plan_last (by rfl) (fun K' hK=>?_);go_simp;refine ((H1.out.p3).pick (by omega) 66 (by omega) (by omega)).mono ?_;rintro r W5 ⟨z,rfl,z0,z1,h5⟩;have s_h5:Cells W5 (b4L q3 (.slice (some ⟨g1,0,none⟩) 5 c1) (.slice (some ⟨g2,0,none⟩) 25 c2) (.slice x3 j3 c3) (.slice (some ⟨g4,0,none⟩) 5 c4)++[(⟨g4,kk,none⟩,.slice (some ⟨g6,0,none⟩) rl cap6),(⟨g6,1,none⟩,.slice xq ll cq)]):=by
  obtain⟨a0,a1,a2,a3⟩:=(h5.p4).cells4;have y1:=(h5.p3).hcell1 (List.getElem?_eq_some_iff.1 GR.out).1;have y2:=(h5.p2).hcell1 R2.out;rw[<-LL.out]at y2;rw[<-RL2.out]at y1;exact⟨a0,a1,a2,a3,y1,y2,trivial⟩
 refine hK _ _ (.inr s_h5) ?_;clear hK K'
 try simp only[Act.put,List.getElem_toArray,List.getElem_cons_succ,pg3,pg4,pg5,pg6]
 have wr1:IntKind.i64.wrap (z - 1)=z - 1:=IntWalk.i64_in _ (by omega)
 repeat ((first|(refine plan_take (by rfl) (by rfl) ?_;apply Exists.intro;refine⟨fun w' hw'=>?_,?_⟩;(· ((try simp only[Cells,Cells_app,b4L,b5L,b6L,b7L,b10L,N.entL,and_true]at hw');go_simp;(try with_reducible rfl))))|(refine plan_skip (by rfl) (by rfl) ?_));simp only[Act.put,List.getElem_toArray,List.getElem_cons_succ,pg3,pg4,pg5,pg6])
 have h6:=h5.alloc #[.int .i64 (z - 1)] 3;refine plan_last (by rfl) (fun K hK=>?_);go_simp;have s6:Cells (W5.alloc (.cells #[.int .i64 (z - 1)] 3)) (b4L q3 (.slice (some ⟨g1,0,none⟩) 5 c1) (.slice (some ⟨g2,0,none⟩) 25 c2) (.slice x3 j3 c3) (.slice (some ⟨g4,0,none⟩) 5 c4)++[(⟨g4,kk,none⟩,.slice (some ⟨g6,0,none⟩) rl cap6),(⟨g6,1,none⟩,.slice xq ll cq)]):=s_h5.below ((Below.refl _ _).alloc lr_ _)
 refine hK _ _ (.inr s6) ?_;clear hK K
 try simp only[Act.put,List.getElem_toArray,List.getElem_cons_succ,pg3,pg4,pg5,pg6]
 refine plan_last (by rfl) (fun K hK=>step_addI (v:=.slice xq ll cq) (zs:=l1) (ys:=[z - 1]) (by rw[LL.out];exact h6.p2) (rd_one h6) (by simp) (by rfl) (by rfl) (by rfl) (by rfl) (by simp only[List.length_cons,List.length_nil];omega) (N:=ll+1) (by rw[LL.out];rfl) (fun yr capr W8 h8=>?_))
 have s8:Cells W8 (b4L q3 (.slice (some ⟨g1,0,none⟩) 5 c1) (.slice (some ⟨g2,0,none⟩) 25 c2) (.slice x3 j3 c3) (.slice (some ⟨g4,0,none⟩) 5 c4)++[(⟨g4,kk,none⟩,.slice (some ⟨g6,0,none⟩) rl cap6),(⟨g6,1,none⟩,.slice xq ll cq)]):=by
  obtain⟨a0,a1,a2,a3⟩:=(h8.p5).cells4;have y1:=(h8.p4).hcell1 (List.getElem?_eq_some_iff.1 GR.out).1;have y2:=(h8.p3).hcell1 R2.out;rw[<-LL.out]at y2;rw[<-RL2.out]at y1;exact⟨a0,a1,a2,a3,y1,y2,trivial⟩
 refine hK _ _ (.inr s8) ?_;clear hK K
 try simp only[Act.put,List.getElem_toArray,List.getElem_cons_succ,pg3,pg4,pg5,pg6]
 repeat ((first|(refine plan_take (by rfl) (by rfl) ?_;apply Exists.intro;refine⟨fun w' hw'=>?_,?_⟩;(· ((try simp only[Cells,Cells_app,b4L,b5L,b6L,b7L,b10L,N.entL,and_true]at hw');go_simp;(try with_reducible rfl))))|(refine plan_skip (by rfl) (by rfl) ?_));simp only[Act.put,List.getElem_toArray,List.getElem_cons_succ,pg3,pg4,pg5,pg6])
 have h9:=(h8.p1.drop.p8.p8.p8.p8.p8.p6.p8.p7.p8)
 have cu:=h9.hcell1 R2.out;have fu:=h9.hfree 1;have hN:=h9.hset1 R2.out (.slice yr (ll+1) capr);refine plan_last (by rfl) (fun K hK=>?_);go_simp;refine hK _ _ (.inl rfl) ?_;clear hK K
 try simp only[Act.put,List.getElem_toArray,List.getElem_cons_succ,pg3,pg4,pg5,pg6]
 refine plan_done ?_;obtain⟨Y,hY⟩:∃Y,Y=W8.setCell ⟨g6,1,none⟩ (.slice yr (ll+1) capr):=⟨_,rfl⟩
 rw[<-hY]at hN ⊢;have hq:=M.close (FA:=intsR_frame) (ci:=[.slice yr (ll+1) capr]) (x:=l1++[z - 1]) hN.p1 R2.out;have hq2:=M.close (FA:=rowsR_frame) (ci:=[.slice (some ⟨g6,0,none⟩) rs.length cap6]) (x:=rs.set 1 (l1++[z - 1])) hq (List.getElem?_eq_some_iff.1 GR.out).1;have HF:=hd_ hq2;clear hY hN hq hq2 cu fu h9;obtain⟨a0,a1,a2,a3⟩:=(HF.out.p2).cells4;obtain⟨b0,b1,b2,b3⟩:=(HF.out.p6).cells4
 have bf:=(HF.out.p6).free;have F:=hd_ ((HF.out.p6).set4 (.slice (some ⟨g1,0,none⟩) 5 c1) (.slice (some ⟨g2,0,none⟩) 25 c2) (.slice x3 j3 c3) (.slice (some ⟨g4,0,none⟩) 5 c4));go_wp2;obtain⟨i0,i1,i2,i3⟩:=F.out.cells4
 (try simp only[Exit.inBlock,Exit.then])
 refine bodyPost_ret (v:=.agg #[.slice (some ⟨g1,0,none⟩) 5 c1,.slice (some ⟨g2,0,none⟩) 25 c2,.slice x3 j3 c3,.slice (some ⟨g4,0,none⟩) 5 c4]) (by simp[results,Tryz.results85,go_sem,i0,i1,i2,i3]) rfl ⟨_,_,_,_,{ n with past:=n.past.set kk (rs.set 1 (l1++[z - 1])) },rfl,N5.out,(rd_more (F.out.drop.p2.drop.p4.p4.p4.p4) (by omega)).p4.p4.p4.p4⟩
end
section
variable {B:Nat} {w0 w:World} {l:List Ch}
theorem drawNetReach_at {v:Value} {n:Nat} (h:M B w0 w l) (hv:∃x cap,v=.slice x n cap) (ht:Bts w0 B v n):Calls Tryz.prog 26 #[v] w fun e w'=>∃v1 v2 v3 v4,∃m:Nt,e=.returned (.agg #[v1,v2,v3,v4])/\m.nodes.length=5/\M B w0 w' (nodesC v1 m.nodes::linksC v2 m.links::wordsC v3 m.words::pastC v4 m.past::l):=by
 have h0:=h.alloc #[zn,zn,zn,zn] 30;obtain⟨q2,hq2⟩:=nm_ w.heap.size;obtain⟨W0,hW0⟩:=nm_ (w.alloc (.cells #[zn,zn,zn,zn] 30));rw[<-hW0, <-hq2]at h0;have H0:=hd_ h0;clear h h0;go_enter Tryz.func26,Tryz.ntmps26;go_upto_region 1 with fail
 rw[<-hW0, <-hq2];clear hW0 hq2
 go_wp2_with fail
 refine (H0.out.openRd hv ht).mono ?_;rintro e w1 ⟨rfl,h1⟩;have H1:=hd_ h1;clear h1 H0;generalize W0.heap.size=a at H1 ⊢
 go_wp2_with fail
 refine (drawOff_at H1.out o_).mono ?_;rintro e w2 ⟨v1,v2,v3,v4,m,rfl,h5,h2⟩;obtain⟨x1,c1,rfl,_⟩:=M.form h2;obtain⟨x2,c2,rfl,_⟩:=M.form h2.p1;obtain⟨x3,c3,rfl,_⟩:=M.form h2.p2;obtain⟨x4,c4,rfl,_⟩:=M.form h2.p3;obtain⟨b0,b1,b2,b3⟩:=h2.p5.cells4;have bf:=h2.p5.free
 have F:=hd_ (h2.p5.set4 (.slice x1 m.nodes.length c1) (.slice x2 m.links.length c2) (.slice x3 m.words.length c3) (.slice x4 m.past.length c4));have N5:=hd_ h5;clear h2 H1 h5;go_wp2;obtain⟨i0,i1,i2,i3⟩:=F.out.cells4
 (try simp only[Exit.inBlock,Exit.then])
 exact bodyPost_ret (v:=.agg #[.slice x1 m.nodes.length c1,.slice x2 m.links.length c2,.slice x3 m.words.length c3,.slice x4 m.past.length c4]) (by simp[results,Tryz.results26,go_sem,i0,i1,i2,i3]) rfl ⟨_,_,_,_,m,rfl,N5.out,F.out.drop.p4.drop⟩
end
section
variable {B:Nat} {w0 w:World} {l:List Ch}
theorem _root_.Go.Proofs.YtcblbdpdbggkbaaGreat.M.intsOf {v:Value} {zs:List Int} (h:M B w0 w (slcC (flatR_frame encI) 3 1 v zs::l)):Ints w v zs:=by
 obtain⟨f,hf,_⟩:=h.soft.first;obtain⟨_,e,o,_⟩:=intsR_to hf;cases e;exact o
theorem flat_map:∀(zs:List Int),zs.flatMap encI=zs.map (Value.int .i64)
 | []=>rfl
 |z::zs=>by rw[List.flatMap_cons,List.map_cons,flat_map zs];rfl
theorem _root_.Go.Proofs.YtcblbdpdbggkbaaGreat.M.held {g n c:Nat} {zs:List Int} (h:M B w0 w (slcC (flatR_frame encI) 3 1 (.slice (some ⟨g,0,none⟩) n c) zs::l)):n=zs.length/\n<=maxLen/\g<w.heap.size/\Holds (Value.int .i64) w g 0 zs.toArray:=by
 obtain⟨f,hf,_⟩:=h.first;obtain⟨_,e,o,_⟩:=slc_flat_to hf;cases e;rw[flat_map]at o;rcases o.2 with ⟨q,_⟩|⟨g',cap,cur,q,_,hb,h1,h2,h3,h4⟩
 ·cases q
 ·cases q
  exact⟨rfl,o_,(Array.getElem?_eq_some_iff.1 hb).1,holds_of_blockI hb (by rwa[Nat.mul_one]at h4)⟩
theorem _root_.Go.Proofs.YtcblbdpdbggkbaaGreat.M.sorted {g c:Nat} {zs:List Int} (h:M B w0 w (slcC (flatR_frame encI) 3 1 (.slice (some ⟨g,0,none⟩) zs.length c) zs::l)) (q:Nat) (os:Array Obj):
  M B w0 (grow (putRow (Value.int .i64) (Sort.ahead w q) g 0 (srt zs).toArray) os) (slcC (flatR_frame encI) 3 1 (.slice (some ⟨g,0,none⟩) zs.length c) (srt zs)::l):=
 h.turn fun f hf nd lo=>by
  obtain⟨_,e,o,rfl⟩:=slc_flat_to hf;cases e;have hl:(srt zs).length=zs.length:=List.length_mergeSort zs;rcases o.2 with ⟨q,_⟩|⟨g',cap,cur,q,_,hb,h1,h2,h3,h4⟩
  ·cases q
  ·cases q
   have ho:=ownsRow_sortedI (n:=q) (os:=os) (ss:=zs) hl (Nat.zero_le _) hb h1 h2 h3;refine⟨KeptB.of_grown (grownBy_sortedI _) (by simp[Value.ownBlock]),_,slc_flat_of (enc:=encI) (xs:=srt zs) (by rw[flat_map,hl];exact ho) (fun _=>rfl),block_nodup _,fun b hb=>.inl hb⟩
end
theorem any_bad {p:Int->Bool} {R:List Int} (h:∀j,j<R.length->p (R.getD j 0)=false):R.any p=false:=by
 rw[List.any_eq_false];intro x hx;obtain⟨j,hj,rfl⟩:=List.getElem_of_mem hx;have:=h j hj;rw[List.getD_eq_getElem?_getD,List.getElem?_eq_getElem hj]at this;simpa using this
theorem any_good {p:Int->Bool} {R:List Int} {j:Nat} (hj:j<R.length) (h:p (R.getD j 0)=true):R.any p=true:=by
 rw[List.getD_eq_getElem?_getD,List.getElem?_eq_getElem hj]at h;exact List.any_eq_true.2 ⟨_,List.getElem_mem hj,h⟩
theorem mem_getD {R:List Int} {j:Nat} (hj:j<R.length):R.getD j 0 ∈ R:=by
 rw[List.getD_eq_getElem?_getD,List.getElem?_eq_getElem hj];exact List.getElem_mem hj
theorem ints_mx {w:World} {x:Option Addr} {n c:Nat} {R:List Int} (h:Ints w (.slice x n c) R):R.length<=9223372036854775807:=by
 rcases h with ⟨e,rfl⟩|⟨b,o,cap,e,h1,h2,_⟩
 ·simp
 ·unfold maxLen at h2;omega
theorem imIndex_at (w:World) {x:Option Addr} {n c:Nat} {R:List Int} (h:Ints w (.slice x n c) R) (b:Int):
  Calls Tryz.prog 161 #[.slice x n c,iv b] w fun e w'=>∃i:Int,e=.returned (iv i)/\decide (0<=i)=R.any (fun z=>b==z)/\w=w':=by
 obtain rfl:n=R.length:=h.len;have mx:=ints_mx h;have IB:=hd_ h;clear h;go_enter Tryz.func161,Tryz.ntmps161;go_wp2;go_loopw [8] (fun z wr=>∃k:Nat,k<=R.length/\z=.int .i64 (k:Int)/\(∀j,j<k->(b==R.getD j 0)=false)/\wr=w) (fun z _=>R.length - (intOf z).toNat)
 case atStart=>exact⟨0,Nat.zero_le _,rfl,fun j h=>absurd h (Nat.not_lt_zero _),rfl⟩
 case round=>
  obtain⟨k,hk,rfl,hno,hwr⟩:=hrel;subst wr;have NO:=hd_ hno;clear hno
  by_cases hlt:k<R.length
  ·obtain⟨g,o,rfl,c1⟩:=ints_el IB.out hlt
   have GD:=hd_ (fun h=>any_good (p:=fun z=>b==z) hlt h);have NX:Hid ((b==R.getD k 0)=false->∀j,j<k+1->(b==R.getD j 0)=false):=hd_ fun h j hj=>by
    by_cases q:j<k
    ·exact NO.out j q
    ·obtain rfl:j=k:=o_
     exact h
   obtain⟨v,hv⟩:=nm_ (R.getD k 0);rw[<-hv]at c1 GD NX;have k0:(0:Int)<=(k:Int):=o_;have k1:(k:Int)<(R.length:Int):=o_;clear hv;cases gt:b==v with
   |true=>
    have F:=hd_ (GD.out gt);clear GD NX;go_wp2;go_ret;exact⟨_,rfl,by rw[F.out];exact decide_eq_true k0,rfl⟩
   |false=>
    have NY:=hd_ (NX.out gt);clear GD NX;go_wp2;go_roundw
    case rel=>exact⟨k+1,o_,by go_num,NY.out,by first|rfl|trivial⟩
    case measure=>simp[intOf];omega
  ·obtain rfl:k=R.length:=o_
   have F:=hd_ (any_bad (p:=fun z=>b==z) NO.out);go_wp2;go_ret;exact⟨_,rfl,by rw[F.out];rfl,rfl⟩
theorem any_contains (R:List Int) (b:Int):R.any (fun z=>b==z)=R.contains b:=by
 rw[Bool.eq_iff_iff,List.any_eq_true,List.contains_iff_mem];exact⟨fun⟨x,hx,e⟩=>by rw[eq_of_beq e];exact hx,fun h=>⟨b,h,by simp⟩⟩
theorem imContains_at (w:World) {x:Option Addr} {n c:Nat} {R:List Int} (h:Ints w (.slice x n c) R) (b:Int):
  Calls Tryz.prog 92 #[.slice x n c,iv b] w fun e w'=>e=.returned (.bool (R.contains b))/\w=w':=by
 have K:=hd_ (imIndex_at w h b);rw[any_contains]at K;clear h;go_enter Tryz.func92,Tryz.ntmps92
 go_wp2_with fail
 refine K.out.mono ?_;rintro e w' ⟨i,rfl,hi,rfl⟩;have F:=hd_ hi;clear hi K;go_wp2;go_ret;exact⟨by rw[<-F.out];rfl,rfl⟩
section
variable {w:World} {pl pb:Nat}
theorem linked_at {m:Nat} {o b:Int} {t:Bool} (cl:w.cell? ⟨pl,0,none⟩=some (.map (some m))) (cb:w.cell? ⟨pb,0,none⟩=some (.int .i64 b)) (LL:(Instr.lookup 100 (.map (some m)) (.agg #[iv o,iv b]) false).run Tryz.prog w=.ok (.bool t) w):
  Calls Tryz.prog 91 #[iv o,.pointer (some ⟨pl,0,none⟩),.pointer (some ⟨pb,0,none⟩)] w fun e w'=>e=.returned (.bool t)/\w=w':=by
 go_enter Tryz.func91,Tryz.ntmps91;go_wp2;go_ret;exact⟨rfl,rfl⟩
theorem imIndexFunc_at {x:Option Addr} {n c:Nat} {R:List Int} (h:Ints w (.slice x n c) R) (p:Int->Bool) (K:∀o ∈ R,Calls Tryz.prog 91 #[iv o,.pointer (some ⟨pl,0,none⟩),.pointer (some ⟨pb,0,none⟩)] w fun e w'=>e=.returned (.bool (p o))/\w=w'):
  Calls Tryz.prog 162 #[.slice x n c,.func (.func 91) #[] #[.pointer (some ⟨pl,0,none⟩),.pointer (some ⟨pb,0,none⟩)]] w fun e w'=>∃i:Int,e=.returned (iv i)/\decide (0<=i)=R.any p/\w=w':=by
 obtain rfl:n=R.length:=h.len;have mx:=ints_mx h;have IB:=hd_ h;have HK:=hd_ K;clear h K;go_enter Tryz.func162,Tryz.ntmps162;go_wp2;go_loopw [8] (fun z wr=>∃k:Nat,k<=R.length/\z=.int .i64 (k:Int)/\(∀j,j<k->p (R.getD j 0)=false)/\wr=w) (fun z _=>R.length - (intOf z).toNat)
 case atStart=>exact⟨0,Nat.zero_le _,rfl,fun j h=>absurd h (Nat.not_lt_zero _),rfl⟩
 case round=>
  obtain⟨k,hk,rfl,hno,hwr⟩:=hrel;subst wr;have NO:=hd_ hno;clear hno
  by_cases hlt:k<R.length
  ·obtain⟨g,o,rfl,c1⟩:=ints_el IB.out hlt
   have GD:=hd_ (fun h=>any_good (p:=p) hlt h);have NX:Hid (p (R.getD k 0)=false->∀j,j<k+1->p (R.getD j 0)=false):=hd_ fun h j hj=>by
    by_cases q:j<k
    ·exact NO.out j q
    ·obtain rfl:j=k:=o_
     exact h
   have KE:=hd_ (HK.out _ (mem_getD hlt));obtain⟨v,hv⟩:=nm_ (R.getD k 0);rw[<-hv]at c1 GD NX KE;have k0:(0:Int)<=(k:Int):=o_;have k1:(k:Int)<(R.length:Int):=o_;clear hv;generalize p v=t at GD NX KE
   go_wp2_with fail
   refine KE.out.mono ?_;rintro e w' ⟨rfl,hw'⟩;rw[<-hw'];clear hw' w' KE c1;cases t with
   |true=>
    have F:=hd_ (GD.out rfl);clear GD NX;go_wp2;go_ret;exact⟨_,rfl,by rw[F.out];exact decide_eq_true k0,rfl⟩
   |false=>
    have NY:=hd_ (NX.out rfl);clear GD NX;go_wp2;go_roundw
    case rel=>exact⟨k+1,o_,by go_num,NY.out,by first|rfl|trivial⟩
    case measure=>simp[intOf];omega
  ·obtain rfl:k=R.length:=o_
   have F:=hd_ (any_bad (p:=p) NO.out);go_wp2;go_ret;exact⟨_,rfl,by rw[F.out];rfl,rfl⟩
theorem imContainsFunc_at {x:Option Addr} {n c:Nat} {R:List Int} (h:Ints w (.slice x n c) R) (p:Int->Bool) (K:∀o ∈ R,Calls Tryz.prog 91 #[iv o,.pointer (some ⟨pl,0,none⟩),.pointer (some ⟨pb,0,none⟩)] w fun e w'=>e=.returned (.bool (p o))/\w=w'):
  Calls Tryz.prog 93 #[.slice x n c,.func (.func 91) #[] #[.pointer (some ⟨pl,0,none⟩),.pointer (some ⟨pb,0,none⟩)]] w fun e w'=>e=.returned (.bool (R.any p))/\w=w':=by
 have K:=hd_ (imIndexFunc_at h p K);clear h;go_enter Tryz.func93,Tryz.ntmps93
 go_wp2_with fail
 refine K.out.mono ?_;rintro e w' ⟨i,rfl,hi,rfl⟩;have F:=hd_ hi;clear hi K;go_wp2;go_ret;exact⟨by rw[<-F.out];rfl,rfl⟩
end
theorem isNext_at {B pl pr m k c:Nat} {x:Option Addr} {w0 w:World} {l:List Ch} {g:Int × Int->Option Value} {ls:List Bool} {R:List Int} {b:Int}
  (h:M B w0 w (boxC pr 23 #[.slice x k c]::boxC pl 100 #[.map (some m)]::mapC EndOk endV m g::slcC (flatR_frame encI) 3 1 (.slice x k c) R::l)) (hg:LinksAre g (lkP ls 25)) (hR:∀o ∈ R,isNode o) (hb:isNode b):
  Calls Tryz.prog 90 #[iv b,.pointer (some ⟨pl,0,none⟩),.pointer (some ⟨pr,0,none⟩)] w fun e w'=>e=.returned (.bool (nextB ls R b))/\Below w.heap.size w w':=by
 have h0:=h.alloc #[iv b] 3;have hbl:=(Below.refl w.heap.size w).alloc lr_ (.cells #[iv b] 3);obtain⟨pb,hpb⟩:=nm_ w.heap.size;obtain⟨w1,hw1⟩:=nm_ (w.alloc (.cells #[iv b] 3));rw[<-hw1]at h0 hbl;rw[<-hpb]at h0;have HB:=hd_ hbl;have cb:=h0.cells1;have cr:=h0.p1.cells1;have cl:=h0.p2.cells1;have KC:=hd_ (imContains_at w1 h0.p4.intsOf b)
 have KF:=hd_ (imContainsFunc_at (w:=w1) (pl:=pl) (pb:=pb) h0.p4.intsOf (fun o=>lkP ls 25 o b) (fun o ho=>by
    refine linked_at cl cb ?_
    have a1:=hR o ho
    unfold isNode at a1 hb
    exact look_link h0.p3 hg o b ⟨⟨by simp;omega,by simp;omega⟩,⟨by simp;omega,by simp;omega⟩⟩))
 have EN:Hid (nextB ls R b=(!(R.contains b)&&R.any (fun o=>lkP ls 25 o b))):=hd_ rfl;have hmf:∀(fn:Fn) (first cap:Array Value) (w:World),(Instr.makeFunc fn first cap).run Tryz.prog w=.ok (.func fn first cap) w:=fun _ _ _ _=>rfl
 clear h h0 hbl hg hR hb;go_enter Tryz.func90,Tryz.ntmps90;go_upto_region 2 with fail
 rw[<-hw1, <-hpb];clear hw1 hpb hmf;generalize R.contains b=t1 at KC EN;generalize R.any (fun o=>lkP ls 25 o b)=t2 at KF EN
 go_wp2_with fail
 refine KC.out.mono ?_;rintro e w' ⟨rfl,hw'⟩;rw[<-hw'];clear hw' w' KC;cases t1 with
 |true=>
  go_wp2;go_ret;exact⟨by rw[EN.out];rfl,HB.out⟩
 |false=>
  go_wp2_with fail
  refine KF.out.mono ?_;rintro e w' ⟨rfl,hw'⟩;rw[<-hw'];clear hw' w' KF;go_wp2;go_ret;exact⟨by rw[EN.out];rfl,HB.out⟩
theorem _root_.Go.Proofs.YtcblbdpdbggkbaaGreat.M.some {B:Nat} {w0 w:World} {l:List Ch} {x:Option Addr} {n c:Nat} {zs:List Int} (h:M B w0 w (slcC (flatR_frame encI) 3 1 (.slice x n c) zs::l)) (hz:zs≠[]):∃b,x=Option.some ⟨b,0,Option.none⟩:=by
 obtain⟨f,hf,_⟩:=h.first;obtain⟨_,e,o,_⟩:=slc_flat_to hf;cases e;rcases o.2 with ⟨_,q⟩|⟨g',cap,cur,q,_⟩
 ·exact absurd (List.eq_nil_of_length_eq_zero q) hz
 ·cases q;exact⟨_,rfl⟩
def SortOk:Prop:=∀(blk off cap:Nat) (zs:List Int) (w:World),Holds (Value.int .i64) w blk off zs.toArray->blk<w.heap.size->zs.length<4611686018427387904->
 Calls Tryz.prog 94 #[.slice (some ⟨blk,off,none⟩) zs.length cap] w fun e w'=>e=.returned (.tuple #[])/\∃n os,w'=grow (putRow (Value.int .i64) (Sort.ahead w n) blk off (zs.mergeSort fun x y=>decide (x<=y)).toArray) os
theorem imNetReach_at (hS:SortOk) (w:World) {v1 v3 v4:Value} {y0:Option Addr} {k2 c':Nat} {n:Nt} {f:List Nat} (h:linksR TY w [.slice y0 k2 c'] n.links f):
  Calls Tryz.prog 27 #[.agg #[v1,.slice y0 k2 c',v3,v4]] w fun r w'=>∃v,r=.returned v/\M w.heap.size w w' [intsC v (reachN n)]:=by
 have hl:k2=n.links.length:=(slcR_row h).1;have H1:=hd_ h;have HL:=hd_ hl;have SO:=hd_ hS;clear h hl hS;have h0:=(M.start w).alloc #[v1,.slice y0 k2 c',v3,v4] 30;obtain⟨p1,hp1⟩:=nm_ w.heap.size;obtain⟨w1,hw1⟩:=nm_ (w.alloc (.cells #[v1,.slice y0 k2 c',v3,v4] 30));rw[<-hw1, <-hp1]at h0;have HP:=hd_ hp1;rw[hp1]at h0;have H0:=hd_ h0
 have hmf:∀(fn:Fn) (first cap:Array Value) (w:World),(Instr.makeFunc fn first cap).run Tryz.prog w=.ok (.func fn first cap) w:=fun _ _ _ _=>rfl
 go_enter Tryz.func27,Tryz.ntmps27;go_wp2
 go_step3
 go_upto_region 1 with fail
 rw[<-hw1];clear h0 hp1 hw1;obtain⟨a0,a1,a2,a3⟩:=H0.out.cells4
 by_cases h5:k2=25
 case neg=>
  have F:Hid (reachN n=[]):=hd_ (by unfold reachN;rw[if_neg (by rw[<-HL.out];exact h5)]);have g:((k2:Int) != 25)=true:=by simpa using (show (k2:Int)≠25 by omega)
  clear h5;go_wp2
  try rw[Exit.noGoto_ret]
  go_ret;exact⟨_,rfl,by rw[F.out];exact (((M.nil (flatR_frame encI) 3 1 H0.out).soft).p1).drop⟩
 subst h5;have g:(((25:Nat):Int) != 25)=false:=by decide
 have KL:=hd_ (imLinksOf_at w1 ((slcR_frame (flatR_frame _) _ _).below H1.out H0.out.below lr_))
 go_wp2_with fail
 refine KL.out.mono ?_;rintro r w2 ⟨m,g0,rfl,hm,hg⟩;have HG:=hd_ hg;obtain⟨pl,hpl⟩:=nm_ w2.heap.size;have h2:=((((H0.out.plus hm).alloc #[.map (some m)] 100).flat encI 0).alloc #[iv 0] 3)
 simp only[World.size_alloc]at h2;have h3:=(M.one (flatR_frame encI) h2 rfl).p2.p2.alloc #[.slice (some ⟨w2.heap.size+1,0,none⟩) 1 1] 23;simp only[World.size_alloc]at h3;obtain⟨pr,hpr⟩:=nm_ (w2.heap.size+1+1);obtain⟨ps,hps⟩:=nm_ (w2.heap.size+1);obtain⟨w3,hw3⟩:=nm_ (((w2.alloc (.cells #[.map (some m)] 100)).alloc (.cells #[iv 0] 3)).alloc (.cells #[.slice (some ⟨w2.heap.size+1,0,none⟩) 1 1] 23))
 rw[<-hw3, <-hpr, <-hps, <-hpl]at h3;rw[<-hps]at hw3;have H3:=hd_ h3;clear hm hg h2 h3 KL H0 a0 a1 a2 a3 g;go_upto_region 5 with fail
 try simp only[World.size_alloc]
 rw[<-hpr, <-hps, <-hpl, <-hw3];clear hpr hps hpl hw3;go_wp2
 go_step3
 go_wp2
 go_loopg [16] 5 (fun gh z wr=>∃(R:List Int) (x:Option Addr) (k c:Nat),k+gh=6/\k=R.length/\Fnd n.links R/\M w.heap.size w wr [boxC pr 23 #[.slice x k c],boxC pl 100 #[.map (some m)],mapC EndOk endV m g0,slcC (flatR_frame encI) 3 1 (.slice x k c) R,boxC w.heap.size 30 #[v1,.slice y0 25 c',v3,v4]])
 case atStart=>exact⟨[0],_,1,1,rfl,rfl,Fnd.first _,H3.out⟩
 case round=>
  clear H3;obtain⟨R,x,k,c,hg,hk,hf,hm⟩:=hrel;have FN:=hd_ hf;have HK:=hd_ hk;have H:=hd_ hm;have k5:k<=5:=by rw[hk];exact hf.len
  clear hf hk hm;cases gk with
  |zero=>omega
  |succ gh=>
   go_wp2
   go_loopg [16] 5 (fun g2 z wr=>∃j:Nat,j+g2=5/\z=.int .i64 (j:Int)/\(∀i:Nat,i<j->nextB n.links R i=false)/\M w.heap.size w wr [boxC pr 23 #[.slice x k c],boxC pl 100 #[.map (some m)],mapC EndOk endV m g0,slcC (flatR_frame encI) 3 1 (.slice x k c) R,boxC w.heap.size 30 #[v1,.slice y0 25 c',v3,v4]])
   case atStart=>exact⟨0,o_,rfl,fun i h=>absurd h (Nat.not_lt_zero _),H.out⟩
   case round=>
    clear H;obtain⟨j,hj,rfl,hno,hm⟩:=hrel;have NO:=hd_ hno;have H:=hd_ hm;clear hno hm;cases gk with
    |zero=>
     obtain rfl:j=5:=o_;have DN:Hid (srt R=reachN n):=hd_ (FN.out.done HL.out.symm NO.out);obtain⟨b,rfl⟩:∃b,x=some ⟨b,0,none⟩:=H.out.p3.some (by have:=FN.out.root;intro e;rw[e]at this;cases this)
     obtain⟨-,hmx,hbl,hH⟩:=H.out.p3.held;have KS:=SO.out b 0 c R wr hH hbl (by rw[<-HK.out];omega);rw[<-HK.out]at KS;have KSS:=hd_ KS;have c1:=H.out.cells1;clear KS hmx hbl hH;simp only[Int.cast_ofNat_Int]
     go_wp2_with fail
     refine KSS.out.mono ?_;rintro e w6 ⟨rfl,q,os,rfl⟩;have h6:=M.sorted (by have:=H.out.p3;rw[HK.out]at this;exact this) q os;obtain⟨w7,hw7⟩:=nm_ (grow (putRow (Value.int .i64) (Sort.ahead wr q) b 0 (R.mergeSort fun x y=>decide (x<=y)).toArray) os);have H6:=hd_ (show M w.heap.size w w7 _ by rw[hw7];exact h6);clear h6 KSS H c1;rw[<-hw7];clear hw7;have c1:=H6.out.p1.cells1;go_wp2
     try rw[Exit.noGoto_ret]
     go_ret;exact⟨_,rfl,by rw[<-DN.out,HK.out];exact (M.soft (H6.out.p1.drop.p1.drop.p1.drop.p1.drop))⟩
    |succ g2=>
     have j0:(0:Int)<=(j:Int):=o_;have j5:(j:Int)<5:=o_;have KE:=hd_ (isNext_at (b:=(j:Int)) H.out HG.out (fun o ho=>(FN.out.all o ho).1) ⟨o_,o_⟩);have MO:=hd_ (fun h=>FN.out.more (b:=(j:Int)) ⟨o_,o_⟩ h);have NX:Hid (nextB n.links R (j:Int)=false->∀i:Nat,i<j+1->nextB n.links R i=false):=hd_ fun h i hi=>by
      by_cases q:i<j
      ·exact NO.out i q
      ·obtain rfl:i=j:=o_
       exact h
     generalize nextB n.links R (j:Int)=t at KE MO NX
     go_wp2_with fail
     refine KE.out.mono ?_;rintro e w4 ⟨rfl,hb⟩;have H4:=hd_ (H.out.later hb);clear hb KE H;cases t with
     |false=>
      have NY:=hd_ (NX.out rfl);clear NX MO;go_wp2
      go_roundg g2
      case measure=>omega
      case rel=>exact⟨j+1,o_,by go_num,NY.out,H4.out⟩
     |true=>
      have MR:=hd_ (MO.out rfl);have ML:k+1<=5:=by have:=MR.out.len;rw[List.length_append, <-HK.out]at this;exact this
      clear NX MO;have c1:=H4.out.cells1;have h5:=((H4.out.p3.flat encI (j:Int)).p1).alloc #[iv (j:Int)] 3;have H5:=hd_ h5;clear h5
      go_wp2_with (at_builtin;go_loud (refine wpList_app intS flatI_one H5.out rfl rfl rfl rfl (by rw[<-HK.out];unfold maxLen;omega) (by rw[<-HK.out];omega) (N:=k+1) (by rw[HK.out]) ?_);intro y2 cap2 w6 h10;have d1:=h10.p1.cells1;have df:=h10.p1.free;have h11:=h10.p1.set (i:=0) (.slice y2 (k+1) cap2);simp only[List.setIfInBounds_toArray,List.set_cons_zero,List.set_cons_succ]at h11;have H11:=hd_ h11;clear h10 h11 H5 H4 c1)
      go_roundg gh
      case measure=>omega
      case rel=>exact⟨R++[(j:Int)],y2,k+1,cap2,o_,by rw[List.length_append, <-HK.out];rfl,MR.out,H11.out.p1.p3.p3.p3⟩
end N
end Go.Proofs.YtcblbdpdbggkbaaGreat
namespace Go.Proofs
open Go.Shelf
def Tryz.lays189_ren:Go.Shelf.Ren:=⟨fun| 189=>94| 125=>164| 257=>163| 128=>215| 129=>216| 294=>206| 295=>207| 296=>208| 297=>209| 298=>210| 299=>211| 216=>212| 300=>213| 301=>214| 328=>267| 329=>268| 330=>269| 331=>270| 332=>271| 215=>272| 343=>297|n=>n,fun| 28=>23| 3=>3| 46=>200| 0=>0| 51=>249| 53=>251| 4=>4| 183=>242| 182=>241| 131=>246| 5=>5| 9=>9| 218=>294| 222=>298| 228=>314| 229=>72|n=>n,fun|n=>n⟩
theorem Tryz.lays189:Go.Proofs.Lays.n189 Tryz.prog Tryz.lays189_ren:={
  mixed:=by kernel_rfl
  f125:=Tryz.func164.trans (congrArg some (by kernel_rfl))
  f128:=Tryz.func215.trans (congrArg some (by kernel_rfl))
  f129:=Tryz.func216.trans (congrArg some (by kernel_rfl))
  f189:=Tryz.func94.trans (congrArg some (by kernel_rfl))
  f215:=Tryz.func272.trans (congrArg some (by kernel_rfl))
  f216:=Tryz.func212.trans (congrArg some (by kernel_rfl))
  f257:=Tryz.func163.trans (congrArg some (by kernel_rfl))
  f294:=Tryz.func206.trans (congrArg some (by kernel_rfl))
  f295:=Tryz.func207.trans (congrArg some (by kernel_rfl))
  f296:=Tryz.func208.trans (congrArg some (by kernel_rfl))
  f297:=Tryz.func209.trans (congrArg some (by kernel_rfl))
  f298:=Tryz.func210.trans (congrArg some (by kernel_rfl))
  f299:=Tryz.func211.trans (congrArg some (by kernel_rfl))
  f300:=Tryz.func213.trans (congrArg some (by kernel_rfl))
  f301:=Tryz.func214.trans (congrArg some (by kernel_rfl))
  f328:=Tryz.func267.trans (congrArg some (by kernel_rfl))
  f329:=Tryz.func268.trans (congrArg some (by kernel_rfl))
  f330:=Tryz.func269.trans (congrArg some (by kernel_rfl))
  f331:=Tryz.func270.trans (congrArg some (by kernel_rfl))
  f332:=Tryz.func271.trans (congrArg some (by kernel_rfl))
  f343:=Tryz.func297.trans (congrArg some (by kernel_rfl))
  t0:=Tryz.underlying0
  a0:=Tryz.isAgg0
  z0:=Tryz.sizeOf0
  v0:=Tryz.zeroValue0
  t3:=Tryz.underlying3
  a3:=Tryz.isAgg3
  z3:=Tryz.sizeOf3
  v3:=Tryz.zeroValue3
  t4:=Tryz.underlying4
  a4:=Tryz.isAgg4
  z4:=Tryz.sizeOf4
  v4:=Tryz.zeroValue4
  t5:=Tryz.underlying5
  a5:=Tryz.isAgg5
  z5:=Tryz.sizeOf5
  v5:=Tryz.zeroValue5
  t9:=Tryz.underlying9
  a9:=Tryz.isAgg9
  z9:=Tryz.sizeOf9
  v9:=Tryz.zeroValue9
  t28:=Tryz.underlying23
  a28:=Tryz.isAgg23
  z28:=Tryz.sizeOf23
  v28:=Tryz.zeroValue23
  t46:=Tryz.underlying200
  a46:=Tryz.isAgg200
  z46:=Tryz.sizeOf200
  v46:=Tryz.zeroValue200
  t51:=Tryz.underlying249
  a51:=Tryz.isAgg249
  z51:=Tryz.sizeOf249
  v51:=Tryz.zeroValue249
  t53:=Tryz.underlying251
  a53:=Tryz.isAgg251
  z53:=Tryz.sizeOf251
  v53:=Tryz.zeroValue251
  t131:=Tryz.underlying246
  a131:=Tryz.isAgg246
  z131:=Tryz.sizeOf246
  v131:=Tryz.zeroValue246
  t182:=Tryz.underlying241
  a182:=Tryz.isAgg241
  z182:=Tryz.sizeOf241
  v182:=Tryz.zeroValue241
  t183:=Tryz.underlying242
  a183:=Tryz.isAgg242
  z183:=Tryz.sizeOf242
  v183:=Tryz.zeroValue242
  t218:=Tryz.underlying294
  a218:=Tryz.isAgg294
  z218:=Tryz.sizeOf294
  v218:=Tryz.zeroValue294
  t222:=Tryz.underlying298
  a222:=Tryz.isAgg298
  z222:=Tryz.sizeOf298
  v222:=Tryz.zeroValue298
  t228:=Tryz.underlying314
  a228:=Tryz.isAgg314
  z228:=Tryz.sizeOf314
  v228:=Tryz.zeroValue314
  t229:=Tryz.underlying72
  a229:=Tryz.isAgg72
  z229:=Tryz.sizeOf72
  v229:=Tryz.zeroValue72 }
open Go.Sort Go.RowKit in
theorem Tryz.slices_Sort_int (blk off cap:Nat) (zs:List Int) (w:World) (hH:Holds (Value.int .i64) w blk off zs.toArray) (hblk:blk<w.heap.size) (hsz:zs.length<4611686018427387904):
  Calls Tryz.prog 94 #[.slice (some ⟨blk,off,none⟩) zs.length cap] w fun e w'=>
   e=.returned (.tuple #[])/\∃n os,w'=grow (putRow (Value.int .i64) (Sort.ahead w n) blk off (zs.mergeSort fun x y=>decide (x<=y)).toArray) os:=Any.slices_Sort_int Tryz.lays189 blk off cap zs w hH hblk hsz
end Go.Proofs
namespace Go.Proofs.YtcblbdpdbggkbaaGreat
namespace N
theorem sort_ok:SortOk:=Tryz.slices_Sort_int
end N
end Go.Proofs.YtcblbdpdbggkbaaGreat
namespace Go.Proofs.YtcblbdpdbggkbaaGreat
open Go.RowKit Go.Sort
namespace N
theorem fold_range {α:Type} (f:α->Nat->α) (s:α) (k:Nat):(List.range (k+1)).foldl f s=f ((List.range k).foldl f s) k:=by
 rw[List.range_succ,List.foldl_append];rfl
def reachL (s:List Bool) (k:Nat):List Int:=((List.range k).filter fun i=>s.getD i false).map fun i:Nat=>(i:Int)
theorem reachL_step (s:List Bool) (k:Nat):reachL s (k+1)=if s.getD k false=true then reachL s k++[(k:Int)]else reachL s k:=by
 unfold reachL;rw[List.range_succ,List.filter_append,List.map_append,List.filter_cons,List.filter_nil];cases h:s.getD k false with
 |false=>rw[if_neg (by simp),if_neg (by simp),List.map_nil,List.append_nil]
 |true=>rw[if_pos rfl,if_pos rfl];rfl
theorem reachL_len (s:List Bool) (k:Nat):(reachL s k).length<=k:=by
 unfold reachL;rw[List.length_map];exact Nat.le_trans (List.length_filter_le _ _) (by rw[List.length_range];exact Nat.le_refl _)
theorem seeB_len (ls:List Bool) (a:Nat) (s:List Bool) (b:Nat):(seeB ls a s b).length=s.length:=by unfold seeB;rw[List.length_set]
theorem foldB_len (ls:List Bool) (a:Nat) (s:List Bool):∀k,((List.range k).foldl (seeB ls a) s).length=s.length
 | 0=>rfl
 |k+1=>by rw[fold_range,seeB_len,foldB_len ls a s k]
theorem seeA_len (ls:List Bool) (s:List Bool) (a:Nat):(seeA ls s a).length=s.length:=foldB_len ls a s 5
theorem foldA_len (ls:List Bool) (s:List Bool):∀k,((List.range k).foldl (seeA ls) s).length=s.length
 | 0=>rfl
 |k+1=>by rw[fold_range,seeA_len,foldA_len ls s k]
theorem seeR_len (ls:List Bool) (s:List Bool):(seeR ls s).length=s.length:=foldA_len ls s 5
theorem foldR_len (ls:List Bool) (s:List Bool):∀k,((List.range k).foldl (fun s _=>seeR ls s) s).length=s.length
 | 0=>rfl
 |k+1=>by rw[fold_range,seeR_len,foldR_len ls s k]
theorem spNetReach_at (w:World) {v1 v3 v4:Value} {x:Option Addr} {k2 c:Nat} {n:Nt} {f:List Nat} (h:linksR TY w [.slice x k2 c] n.links f):
  Calls Tryz.prog 29 #[.agg #[v1,.slice x k2 c,v3,v4]] w fun r w'=>∃v,r=.returned v/\M w.heap.size w w' [intsC v (reachN n)]:=by
 have hl:k2=n.links.length:=(slcR_row h).1;have H1:=hd_ h;have HL:=hd_ hl;clear h hl;have h0:=((M.start w).alloc #[v1,.slice x k2 c,v3,v4] 30).alloc #[] 3;simp only[World.size_alloc]at h0;obtain⟨p1,hp1⟩:=nm_ w.heap.size;obtain⟨p2,hp2⟩:=nm_ (w.heap.size+1);obtain⟨w1,hw1⟩:=nm_ ((w.alloc (.cells #[v1,.slice x k2 c,v3,v4] 30)).alloc (.cells #[] 3));rw[<-hw1, <-hp2, <-hp1]at h0
 have H0:=hd_ ((h0.empty (flatR_frame encI) 1).p1);have HP:=hd_ hp1;rw[<-hp1];go_enter Tryz.func29,Tryz.ntmps29;go_upto_region 2 with fail
 rw[<-hw1, <-hp2, <-hp1];clear h0 hp2 hp1 hw1;obtain⟨a0,a1,a2,a3⟩:=H0.out.cells4
 by_cases h5:k2=25
 case neg=>
  have F:Hid (reachN n=[]):=hd_ (by unfold reachN;rw[if_neg (by rw[<-HL.out];exact h5)]);have g:((k2:Int) != 25)=true:=by simpa using (show (k2:Int)≠25 by omega)
  clear h5;go_wp2;go_ret;exact⟨_,rfl,by rw[F.out];have:=H0.out.p1.soft;exact (this.p1).drop⟩
 subst h5;have g:(((25:Nat):Int) != 25)=false:=by decide
 go_wp2_with (at_make;refine wpList_mk linkS (enc:=encB) (z0:=false) rfl rfl (fun _=>rfl) H0.out rfl rfl 5 rfl rfl rfl rfl (by decide) (by decide) ?_;intro w2 h2 hb2;clear hb2 H0 g a0 a1 a2 a3;obtain⟨p3,hp3⟩:=nm_ w1.heap.size;rw[<-hp3]at h2 ⊢;clear hp3;obtain⟨⟨z,cz⟩,fz,h3⟩:=h2.setEl (i:=0) (by decide) true (u:=.bool true) rfl;have H3:=hd_ h3;clear h2 h3)
 clear cz fz;obtain⟨w3,hw3⟩:=nm_ (w2.setCell ⟨p3,0,none⟩ (.bool true));rw[<-hw3]at H3 ⊢;clear hw3;have DB:Hid ((List.replicate 5 false).set 0 true=seen0):=hd_ rfl;rw[DB.out]at H3;clear DB
 go_loopw [5] (fun z wr=>∃(r:Nat) (s:List Bool),r<=5/\z=.int .i64 (r:Int)/\s=(List.range r).foldl (fun s _=>seeR n.links s) seen0/\M p1 w wr [linksC (.slice (some ⟨p3,0,none⟩) 5 5) s,boxC p1 30 #[v1,.slice x 25 c,v3,v4],slcC (flatR_frame encI) 3 1 (.slice (some ⟨p2,0,none⟩) 0 0) []]) (fun z _=>5 - (intOf z).toNat)
 case atStart=>exact⟨0,_,Nat.zero_le _,rfl,rfl,H3.out⟩
 case round=>
  clear H3;obtain⟨r,s,hr,rfl,hs,hm⟩:=hrel;have H:=hd_ hm;have HS:=hd_ hs;have SL:Hid (s.length=5):=hd_ (by rw[hs,foldR_len];rfl);clear hm hs
  by_cases hlt:r<5
  ·have r0:(0:Int)<=(r:Int):=o_
   have r5:(r:Int)<5:=o_;go_wp2;go_loopw [6] (fun z wr=>∃(a:Nat) (sa:List Bool),a<=5/\z=.int .i64 (a:Int)/\sa=(List.range a).foldl (seeA n.links) s/\M p1 w wr [linksC (.slice (some ⟨p3,0,none⟩) 5 5) sa,boxC p1 30 #[v1,.slice x 25 c,v3,v4],slcC (flatR_frame encI) 3 1 (.slice (some ⟨p2,0,none⟩) 0 0) []]) (fun z _=>5 - (intOf z).toNat)
   case atStart=>exact⟨0,_,Nat.zero_le _,rfl,rfl,H.out⟩
   case round=>
    clear H;obtain⟨a,sa,ha,rfl,hs,hm⟩:=hrel;have H:=hd_ hm;have HSA:=hd_ hs;have SLA:Hid (sa.length=5):=hd_ (by rw[hs,foldA_len];exact SL.out);clear hm hs
    by_cases halt:a<5
    ·have a0:(0:Int)<=(a:Int):=o_
     have a5:(a:Int)<5:=o_;go_wp2;go_loopw [7] (fun z wr=>∃(b:Nat) (sb:List Bool),b<=5/\z=.int .i64 (b:Int)/\sb=(List.range b).foldl (seeB n.links a) sa/\M p1 w wr [linksC (.slice (some ⟨p3,0,none⟩) 5 5) sb,boxC p1 30 #[v1,.slice x 25 c,v3,v4],slcC (flatR_frame encI) 3 1 (.slice (some ⟨p2,0,none⟩) 0 0) []]) (fun z _=>5 - (intOf z).toNat)
     case atStart=>exact⟨0,_,Nat.zero_le _,rfl,rfl,H.out⟩
     case round=>
      clear H;obtain⟨b,sb,hb,rfl,hs,hm⟩:=hrel;have SLB:Hid (sb.length=5):=hd_ (by rw[hs,foldB_len];exact SLA.out);have HSB:=hd_ hs;have H:=hd_ hm;clear hm hs
      by_cases hblt:b<5
      ·have b0:(0:Int)<=(b:Int):=o_
       have b5:(b:Int)<5:=o_;replace H:=hd_ H.out.drew;obtain⟨W,hW⟩:=nm_ wr.drew;rw[<-hW]at H;have EW:=hd_ hW;clear hW;obtain⟨u,hu⟩:∃u,sb[b]? =some u:=⟨_,List.getElem?_eq_getElem (by rw[SLB.out];exact hblt)⟩
       obtain⟨v,hv⟩:∃v,sb[a]? =some v:=⟨_,List.getElem?_eq_getElem (by rw[SLB.out];exact halt)⟩
       obtain⟨t,ht⟩:∃t,n.links[a * 5+b]? =some t:=⟨_,List.getElem?_eq_getElem (by rw[<-HL.out];omega)⟩
       obtain⟨g1,rfl,_,c0⟩:=link_at H1.out ht;replace c0:=cell_later (by have:=H.out.below;rwa[HP.out]at this) c0;have c1:=H.out.elem hu (u:=.bool u) rfl;have c2:=H.out.elem hv (u:=.bool v) rfl;obtain⟨c3,c4,c5,c6⟩:=H.out.p1.cells4;obtain⟨⟨z,cz⟩,fz,hst⟩:=H.out.setEl (i:=b) (by rw[SLB.out];exact hblt) (u || (v&&t)) (u:=.bool (u || (v&&t))) rfl
       have ES:Hid (sb.set b (u || (v&&t))=(List.range (b+1)).foldl (seeB n.links a) sa):=hd_ (by
                rw[fold_range, <-HSB.out]
                unfold seeB wl
                rw[show ((a:Int) * 5+(b:Int)).toNat=a * 5+b by omega,List.getD_eq_getElem?_getD,List.getD_eq_getElem?_getD,List.getD_eq_getElem?_getD,hu,hv,ht];rfl)
       rw[ES.out]at hst;have HST:=hd_ hst;have CZ:=hd_ (And.intro cz fz);have KL:=hd_ (spLinkN_at W (a:=(a:Int)) (b:=(b:Int)) ⟨a0,o_,b0,o_⟩ (q:=a * 5+b) o_);have q0:(0:Int)<=((a * 5+b:Nat):Int):=o_;have q1:((a * 5+b:Nat):Int)<25:=o_;obtain⟨q,hq⟩:=nm_ (a * 5+b);rw[<-hq]at KL c0 q0 q1;clear hst cz fz ht hv hu H hq;cases u with
       |true=>
        go_upto_region 15 with fail
        refine wp_region_plan 22 (.tk 0 16 (.alt 16 (.tk 17 5 (.alt 22 .done .nomore)) .nomore)) (fun w'=>w'=W) (by kernel_rfl) (by kernel_rfl) (fun _ _ _ _ _ h=>h) EW.out.symm ?_;rw[<-EW.out]
        repeat (first|refine tA_ ?_|refine tB_ ?_)
        refine plan_last (by rfl) (fun K hK=>?_);go_simp;refine hK _ _ (.inr rfl) ?_;clear hK K
        try refine tP_ ?_
        repeat (first|refine tA_ ?_|refine tB_ ?_)
        obtain⟨cz,fz⟩:=CZ.out;refine plan_last (by rfl) (fun K hK=>?_);go_simp;refine hK _ _ (.inl rfl) ?_;clear hK K
        try refine tP_ ?_
        refine plan_done ?_;clear cz fz CZ c0 c1 c2 c3 c4 c5 c6 KL;go_wp2;go_roundw
        case rel=>exact⟨b+1,_,o_,by go_num,rfl,HST.out⟩
        case measure=>simp[intOf];omega
       |false=>
        cases v with
        |false=>
         go_upto_region 15 with fail
         refine wp_region_plan 22 (.tk 0 16 (.alt 16 (.tk 17 5 (.alt 22 .done .nomore)) .nomore)) (fun w'=>w'=W) (by kernel_rfl) (by kernel_rfl) (fun _ _ _ _ _ h=>h) EW.out.symm ?_;rw[<-EW.out]
         repeat (first|refine tA_ ?_|refine tB_ ?_)
         refine plan_last (by rfl) (fun K hK=>?_);go_simp;refine hK _ _ (.inr rfl) ?_;clear hK K
         try refine tP_ ?_
         repeat (first|refine tA_ ?_|refine tB_ ?_)
         obtain⟨cz,fz⟩:=CZ.out;refine plan_last (by rfl) (fun K hK=>?_);go_simp;refine hK _ _ (.inl rfl) ?_;clear hK K
         try refine tP_ ?_
         refine plan_done ?_;clear cz fz CZ c0 c1 c2 c3 c4 c5 c6 KL;go_wp2;go_roundw
         case rel=>exact⟨b+1,_,o_,by go_num,rfl,HST.out⟩
         case measure=>simp[intOf];omega
        |true=>
         go_upto_region 15 with fail
         refine wp_region_plan 22 (.tk 0 16 (.alt 16 (.tk 17 5 (.alt 22 .done .nomore)) .nomore)) (fun w'=>w'=W) (by kernel_rfl) (by kernel_rfl) (fun _ _ _ _ _ h=>h) EW.out.symm ?_;rw[<-EW.out]
         repeat (first|refine tA_ ?_|refine tB_ ?_)
         refine plan_last (by rfl) (fun K hK=>?_);go_simp;refine KL.out.mono ?_;rintro e w' ⟨rfl,hw'⟩;rw[<-hw'];clear hw' w';refine hK _ _ (.inr rfl) ?_;clear hK K
         try refine tP_ ?_
         repeat (first|refine tA_ ?_|refine tB_ ?_)
         obtain⟨cz,fz⟩:=CZ.out;refine plan_last (by rfl) (fun K hK=>?_);go_simp;refine hK _ _ (.inl rfl) ?_;clear hK K
         try refine tP_ ?_
         refine plan_done ?_;clear cz fz CZ c0 c1 c2 c3 c4 c5 c6 KL;go_wp2;go_roundw
         case rel=>exact⟨b+1,_,o_,by go_num,rfl,HST.out⟩
         case measure=>simp[intOf];omega
      ·obtain rfl:b=5:=o_
       go_wp2;go_roundw
       case rel=>exact⟨a+1,sb,o_,by go_num,by rw[fold_range, <-HSA.out,HSB.out];rfl,H.out⟩
       case measure=>simp[intOf];omega
    ·obtain rfl:a=5:=o_
     go_wp2;go_roundw
     case rel=>exact⟨r+1,sa,o_,by go_num,by rw[fold_range, <-HS.out,HSA.out];rfl,H.out⟩
     case measure=>simp[intOf];omega
  ·obtain rfl:r=5:=o_
   have RN:Hid (reachN n=reachL s 5):=hd_ (by unfold reachN;rw[if_pos HL.out.symm,HS.out];rfl);simp only[Int.cast_ofNat_Int];go_wp2
   go_loopw [3,8] (fun y z wr=>∃(k m cy:Nat) (xy:Option Addr),k<=5/\z=.int .i64 (k:Int)/\y=.slice xy m cy/\m=(reachL s k).length/\M p1 w wr [slcC (flatR_frame encI) 3 1 (.slice xy m cy) (reachL s k),linksC (.slice (some ⟨p3,0,none⟩) 5 5) s]) (fun _ z _=>5 - (intOf z).toNat)
   case atStart=>exact⟨0,0,0,_,Nat.zero_le _,rfl,rfl,rfl,H.out.p1.drop.p1⟩
   case round=>
    clear H;obtain⟨k,m,cy,xy,hk,rfl,rfl,hm,hM⟩:=hrel;have H:=hd_ hM;have HM:=hd_ hm;have m5:m<=k:=by rw[hm];exact reachL_len s k
    clear hM hm
    by_cases hlt:k<5
    ·have k0:(0:Int)<=(k:Int):=o_
     have k5:(k:Int)<5:=o_;obtain⟨u,hu⟩:∃u,s[k]? =some u:=⟨_,List.getElem?_eq_getElem (by rw[SL.out];exact hlt)⟩
     have c1:=H.out.p1.elem hu (u:=.bool u) rfl;have ST:Hid (reachL s (k+1)=if u=true then reachL s k++[(k:Int)]else reachL s k):=hd_ (by rw[reachL_step,List.getD_eq_getElem?_getD,hu];rfl);clear hu;cases u with
     |false=>
      have ST2:Hid (reachL s (k+1)=reachL s k):=hd_ ST.out;clear ST;go_wp2;go_roundw
      case rel=>exact⟨k+1,m,cy,xy,o_,by go_num,rfl,by rw[ST2.out];exact HM.out,by rw[ST2.out];exact H.out⟩
      case measure=>simp[intOf];omega
     |true=>
      have ST2:Hid (reachL s (k+1)=reachL s k++[(k:Int)]):=hd_ ST.out;have h2:=((H.out.flat encI (k:Int)).p1).alloc #[iv (k:Int)] 3;have H2:=hd_ h2;clear ST h2
      go_wp2_with (at_builtin;go_loud (refine wpList_app intS flatI_one H2.out rfl rfl rfl rfl (by rw[<-HM.out];unfold maxLen;omega) (by rw[<-HM.out];omega) (N:=m+1) (by rw[HM.out]) ?_);intro y2 cap2 w6 h10;have H10:=hd_ h10;clear h10 H2 H c1)
      go_roundw
      case rel=>exact⟨k+1,m+1,cap2,y2,o_,by go_num,rfl,by rw[ST2.out,List.length_append, <-HM.out];rfl,by rw[ST2.out];exact H10.out⟩
      case measure=>simp[intOf];omega
    ·obtain rfl:k=5:=o_
     go_wp2;go_ret;exact⟨_,rfl,by rw[RN.out];exact H.out.p1.drop.soft⟩
theorem lkInts_eq (w:World) {v1 v2:Value} {l:List Int} {f1 f2:List Nat} (h1:intsR w [v1] l f1) (h2:intsR w [v2] l f2) (hm:l.length<=maxLen):
  Calls Tryz.prog 28 #[v1,v2] w fun r w'=>r=.returned (.bool true)/\Below w.heap.size w w':=by
 obtain⟨u1,e1,r1,_⟩:=intsR_to h1;obtain⟨u2,e2,r2,_⟩:=intsR_to h2;cases e1;cases e2;have K:=lkInts_at w v1 v2 l l r1 r2 hm;rw[show decide (l=l)=true from decide_eq_true rfl]at K;refine K.mono ?_;rintro r w' ⟨rfl,m,rfl⟩;exact⟨rfl,below_drewN (Below.refl _ _) _⟩
end N
end Go.Proofs.YtcblbdpdbggkbaaGreat
namespace Go.Proofs.YtcblbdpdbggkbaaGreat
open Go
def headN:List Nat:=[104,97,114,110,101,115,115,32,52,55,98,57,53,55,48,102,50,98,49,100,51,51,53,98,53,100,50,48,54,100,54,102,56,51,54,55,51,53,54,51,55,57,57,55,97,54,48,97,97,98,102,52,99,52,99,102,101,97,55,52,48,48,52,51,98,52,55,100,99,48,98,55,32,99,117,116,32]
def tailN:List Nat:=[97,116,32,108,111,111,112,46,101,120,97,109,112,108,101,47,105,110,107,108,105,110,103,47,108,97,119,115,46,70,110,78,101,116,78,101,119,32,108,111,111,112,46,101,120,97,109,112,108,101,47,105,110,107,108,105,110,103,47,108,97,119,115,46,70,110,78,101,116,79,107,32,108,111,111,112,46,101,120,97,109,112,108,101,47,105,110,107,108,105,110,103,47,108,97,119,115,46,70,110,78,101,116,82,101,97,99,104,32,108,111,111,112,46,101,120,97,109,112,108,101,47,105,110,107,108,105,110,103,47,108,97,119,115,46,70,110,78,101,116,82,101,97,99,104,80,97,116,104,32,108,111,111,112,46,101,120,97,109,112,108,101,47,105,110,107,108,105,110,103,47,108,97,119,115,46,70,110,78,101,116,75,110,111,119,110,32,108,111,111,112,46,101,120,97,109,112,108,101,47,105,110,107,108,105,110,103,47,108,97,119,115,46,70,110,78,101,116,83,117,109,32,108,111,111,112,46,101,120,97,109,112,108,101,47,105,110,107,108,105,110,103,47,108,97,119,115,46,70,110,78,101,116,83,117,109,71,101,116,32,108,111,111,112,46,101,120,97,109,112,108,101,47,105,110,107,108,105,110,103,47,108,97,119,115,46,70,110,78,101,116,83,117,109,70,97,114,32,108,111,111,112,46,101,120,97,109,112,108,101,47,105,110,107,108,105,110,103,47,108,97,119,115,46,70,110,78,101,116,76,105,115,116,32,108,111,111,112,46,101,120,97,109,112,108,101,47,105,110,107,108,105,110,103,47,108,97,119,115,46,70,110,69,120,97,99,116,78,101,116,79,107,32,108,111,111,112,46,101,120,97,109,112,108,101,47,105,110,107,108,105,110,103,47,108,97,119,115,46,70,110,69,120,97,99,116,78,101,116,82,101,97,99,104,32,108,111,111,112,46,101,120,97,109,112,108,101,47,105,110,107,108,105,110,103,47,108,97,119,115,46,70,110,69,120,97,99,116,78,101,116,75,110,111,119,110,32,108,111,111,112,46,101,120,97,109,112,108,101,47,105,110,107,108,105,110,103,47,108,97,119,115,46,70,110,69,120,97,99,116,78,101,116,83,117,109,32,108,111,111,112,46,101,120,97,109,112,108,101,47,105,110,107,108,105,110,103,47,108,97,119,115,46,70,110,69,120,97,99,116,78,101,116,76,105,115,116]
theorem a1:Tryz.prog.initOrder=String.ofList (headN.map Char.ofNat++tailN.map Char.ofNat):=by kernel_rfl
theorem a2:Tryz.prog.initOrder.toList=headN.map Char.ofNat++tailN.map Char.ofNat:=by rw[a1,String.toList_ofList]
theorem a3 (t:List Char):behindMainWord (wordsSigns (headN.map Char.ofNat++t))= "cut".toList::wordsSigns t:=by kernel_rfl
theorem bm:∃X,behindMainWord (wordsSigns Tryz.prog.initOrder.toList)= "cut".toList::X:=⟨_,by rw[a2,a3]⟩
theorem may_of {P:Program} {c:List Char} {rest:List (List Char)} (h:behindMainWord (wordsSigns P.initOrder.toList)=c::rest):P.mayEnter=
  (((c== "gc".toList || c== "spec".toList)&&(rest.isEmpty || rest.head? ==some "stop".toList)) ||
    (c== "carried".toList&&rest.take 2==["gc".toList, "cut".toList]&& !P.laysLater&& !P.bearsReflect) ||
    ((stripLifts liftWords (c::rest)).2.head? ==some "cut".toList&&
      ((stripLifts liftWords (c::rest)).1.contains "finals" || !P.laysLater)&&((stripLifts liftWords (c::rest)).1.contains "reflectrows" || !P.bearsReflect)&&
      ((stripLifts liftWords (c::rest)).1.contains "reflectrows" || !(stripLifts liftWords (c::rest)).1.contains "leanrows")&&
      P.doorFits (stripLifts liftWords (c::rest)).1)):=by
 unfold Program.mayEnter;rw[h]
theorem lift_of {P:Program} {c:List Char} {rest:List (List Char)} (h:behindMainWord (wordsSigns P.initOrder.toList)=c::rest):P.headLifts=if (stripLifts liftWords (c::rest)).2.head? ==some "cut".toList then (stripLifts liftWords (c::rest)).1 else []:=by
 unfold Program.headLifts;rw[h]
theorem strip (X:List (List Char)):stripLifts liftWords ("cut".toList::X)=([], "cut".toList::X):=by kernel_rfl
theorem make_of {P:Program} {rest:List (List Char)} (h:behindMainWord (wordsSigns P.initOrder.toList)= "cut".toList::rest):P.make=some .cut:=by
 unfold Program.make;rw[h];kernel_rfl
theorem may_cut {P:Program} {rest:List (List Char)} (h:behindMainWord (wordsSigns P.initOrder.toList)= "cut".toList::rest) (h1:P.laysLater=false) (h2:P.bearsReflect=false) (h3:P.doorFits []=true):P.mayEnter=true:=by
 rw[may_of h,strip,h1,h2,h3];kernel_rfl
theorem final_cut {P:Program} {rest:List (List Char)} (h:behindMainWord (wordsSigns P.initOrder.toList)= "cut".toList::rest):P.liftsFinal=false:=by
 unfold Program.liftsFinal;rw[lift_of h,h,strip];kernel_rfl
theorem lays0:Tryz.prog.laysLater=false:=by kernel_rfl
theorem refl0:Tryz.prog.bearsReflect=false:=by kernel_rfl
theorem door0:Tryz.prog.doorFits []=true:=by kernel_rfl
theorem mayE:Tryz.prog.mayEnter=true:=by
 obtain⟨X,h⟩:=bm;exact may_cut h lays0 refl0 door0
theorem liftF:Tryz.prog.liftsFinal=false:=by
 obtain⟨X,h⟩:=bm;exact final_cut h
theorem makeC:Tryz.prog.make=some .cut:=by
 obtain⟨X,h⟩:=bm;exact make_of h
end Go.Proofs.YtcblbdpdbggkbaaGreat
