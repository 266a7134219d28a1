/-
  What the law FnNetNew needs of the texts before it, part 5.
-/
import Derived.JoinedOf
import Derived.KernelRfl
import Derived.Test.YtcblbdpdbggkbaaGreatChecked
import Derived.Test.YtcblbdpdbggkbaaGreatSFnNetNew4
set_option maxRecDepth 100000
set_option maxHeartbeats 16000000
set_option linter.unusedVariables false
set_option linter.unusedSectionVars false
set_option linter.unusedSimpArgs false
set_option linter.unusedVariables false
set_option linter.unusedSectionVars false
set_option linter.unusedSimpArgs false
namespace Go.Proofs.YtcblbdpdbggkbaaGreat
open Go.RowKit Go.Sort
namespace N
def SmEs (es:List En):Prop:=∀e ∈ es,Small e.s
def SmNs (ns:List Nd):Prop:=∀x ∈ ns,SmEs x.known
def SmWs (ws:List Wd):Prop:=∀x ∈ ws,SmEs x.known
theorem lkEntry_same (w:World) (V1 V2:SV) (e:En) {f1 f2:List Nat} (h1:sumR w [.slice V1.xr V1.nr V1.cr,.slice V1.xf V1.nf V1.cf,.slice V1.xt V1.nt V1.ct,.int .i64 (e.s).lo,.int .i64 (e.s).al,.slice V1.xk V1.nk V1.ck,.int .i64 (e.s).ka] e.s f1) (h2:sumR w [.slice V2.xr V2.nr V2.cr,.slice V2.xf V2.nf V2.cf,.slice V2.xt V2.nt V2.ct,.int .i64 (e.s).lo,.int .i64 (e.s).al,.slice V2.xk V2.nk V2.ck,.int .i64 (e.s).ka] e.s f2) (hl:Small e.s):
  Calls Tryz.prog 97 #[.agg #[.int .i64 e.node,.int .i64 e.born,.int .i64 e.num,.slice V1.xr V1.nr V1.cr,.slice V1.xf V1.nf V1.cf,.slice V1.xt V1.nt V1.ct,.int .i64 (e.s).lo,.int .i64 (e.s).al,.slice V1.xk V1.nk V1.ck,.int .i64 (e.s).ka],.agg #[.int .i64 e.node,.int .i64 e.born,.int .i64 e.num,.slice V2.xr V2.nr V2.cr,.slice V2.xf V2.nf V2.cf,.slice V2.xt V2.nt V2.ct,.int .i64 (e.s).lo,.int .i64 (e.s).al,.slice V2.xk V2.nk V2.ck,.int .i64 (e.s).ka]] w fun r w'=>r=.returned (.bool true)/\Below w.heap.size w w':=by
 obtain⟨i,bo,nu,s⟩:=e;simp only at h1 h2 hl ⊢
 have H:=hd_ (((M.start w).alloc #[.int .i64 i,.int .i64 bo,.int .i64 nu,.slice V1.xr V1.nr V1.cr,.slice V1.xf V1.nf V1.cf,.slice V1.xt V1.nt V1.ct,.int .i64 s.lo,.int .i64 s.al,.slice V1.xk V1.nk V1.ck,.int .i64 s.ka] 64).alloc #[.int .i64 i,.int .i64 bo,.int .i64 nu,.slice V2.xr V2.nr V2.cr,.slice V2.xf V2.nf V2.cf,.slice V2.xt V2.nt V2.ct,.int .i64 s.lo,.int .i64 s.al,.slice V2.xk V2.nk V2.ck,.int .i64 s.ka] 64)
 obtain⟨U1,e1,r1⟩:=sumR_rd (sumR_frame.below h1 H.out.below lr_);obtain⟨U2,e2,r2⟩:=sumR_rd (sumR_frame.below h2 H.out.below lr_);have K:=hd_ (lkSum_same _ U1 U2 s r1 r2 hl);simp only[List.cons.injEq,Value.slice.injEq,true_and,and_true]at e1 e2;obtain⟨⟨a1,a2,a3⟩,⟨a4,a5,a6⟩,⟨a7,a8,a9⟩,a10,a11,a12⟩:=e1;obtain⟨⟨b1,b2,b3⟩,⟨b4,b5,b6⟩,⟨b7,b8,b9⟩,b10,b11,b12⟩:=e2
 rw[<-a1, <-a2, <-a3, <-a4, <-a5, <-a6, <-a7, <-a8, <-a9, <-a10, <-a11, <-a12, <-b1, <-b2, <-b3, <-b4, <-b5, <-b6, <-b7, <-b8, <-b9, <-b10, <-b11, <-b12]at K;clear a1 a2 a3 a4 a5 a6 a7 a8 a9 a10 a11 a12 b1 b2 b3 b4 b5 b6 b7 b8 b9 b10 b11 b12 r1 r2 h1 h2 hl;obtain⟨c0,c1,c2,c3,c4,c5,c6,c7,c8,c9⟩:=H.out.p1.cells10;obtain⟨d0,d1,d2,d3,d4,d5,d6,d7,d8,d9⟩:=H.out.cells10
 simp only[World.size_alloc]at d0 d1 d2 d3 d4 d5 d6 d7 d8 d9;go_enter Tryz.func97,Tryz.ntmps97
 go_wp2_with fail
 refine K.out.mono ?_;rintro r w1 ⟨rfl,hb⟩;have H1:=hd_ (H.out.later hb);clear K hb c0 c1 c2 c3 c4 c5 c6 c7 c8 c9 d0 d1 d2 d3 d4 d5 d6 d7 d8 d9 H;go_wp2;go_ret;exact⟨rfl,H1.out.below⟩
theorem lkKnown_same (w:World) {x1 x2:Option Addr} {n m c1 c2:Nat} {xs:List En} {f1 f2:List Nat} (h1:knownR TY w [.slice x1 n c1] xs f1) (h2:knownR TY w [.slice x2 m c2] xs f2) (hl:SmEs xs):
  Calls Tryz.prog 33 #[.slice x1 n c1,.slice x2 m c2] w fun r w'=>r=.returned (.bool true)/\Below w.heap.size w w':=by
 obtain rfl:n=xs.length:=(slcR_row h1).1;obtain rfl:m=xs.length:=(slcR_row h2).1;obtain⟨_,_,e1,q1,q2⟩:=slcR_value h1;have hm:xs.length<=maxLen:=Nat.le_trans q1 q2;unfold maxLen at hm;clear e1 q1 q2;have H1:=hd_ h1;have H2:=hd_ h2;have HL:=hd_ hl;have n0:((xs.length:Int) != (xs.length:Int))=false:=by simp
 clear h1 h2 hl;go_enter Tryz.func33,Tryz.ntmps33;go_wp2;go_loopw [5] (fun i wr=>∃k:Nat,k<=xs.length/\i=.int .i64 k/\Below w.heap.size w wr) (fun i _=>xs.length - (intOf i).toNat)
 case atStart=>exact⟨0,Nat.zero_le _,rfl,Below.refl _ _⟩
 case round=>
  obtain⟨k,hk,rfl,hb⟩:=hrel;have HB:=hd_ hb;clear hb
  by_cases hlt:k<xs.length
  ·obtain⟨a,ha⟩:∃a,xs[k]? =some a:=⟨_,List.getElem?_eq_getElem hlt⟩
   have k0:(0:Int)<=(k:Int):=by omega
   have k1:(k:Int)<(xs.length:Int):=by omega
   obtain⟨g1,V1,p1,rfl,q1,_,r1,ca0,ca1,ca2,cas⟩:=known_at H1.out ha;obtain⟨g2,V2,p2,rfl,q2,_,r2,cb0,cb1,cb2,cbs⟩:=known_at H2.out ha;have ca3:=cas 0 _ rfl;have ca4:=cas 1 _ rfl;have ca5:=cas 2 _ rfl;have ca6:=cas 3 _ rfl;have ca7:=cas 4 _ rfl;have ca8:=cas 5 _ rfl;have ca9:=cas 6 _ rfl;have cb3:=cbs 0 _ rfl;have cb4:=cbs 1 _ rfl;have cb5:=cbs 2 _ rfl;have cb6:=cbs 3 _ rfl;have cb7:=cbs 4 _ rfl
   have cb8:=cbs 5 _ rfl;have cb9:=cbs 6 _ rfl;have R1:=hd_ r1;have R2:=hd_ r2;clear cas cbs r1 r2 q1 q2;have LA:=hd_ (HL.out a (List.mem_of_getElem? ha));clear ha
   have SS:=hd_ (fun w' (hb:Below w.heap.size w w')=>show w'.cell? ⟨g1,k * 10,none⟩=some (.int .i64 a.node)/\w'.cell? ⟨g1,k * 10+1,none⟩=some (.int .i64 a.born)/\w'.cell? ⟨g1,k * 10+2,none⟩=some (.int .i64 a.num)/\w'.cell? ⟨g1,k * 10+3,none⟩=some (.slice V1.xr V1.nr V1.cr)/\w'.cell? ⟨g1,k * 10+4,none⟩=some (.slice V1.xf V1.nf V1.cf)/\w'.cell? ⟨g1,k * 10+5,none⟩=some (.slice V1.xt V1.nt V1.ct)/\w'.cell? ⟨g1,k * 10+6,none⟩=some (.int .i64 a.s.lo)/\w'.cell? ⟨g1,k * 10+7,none⟩=some (.int .i64 a.s.al)/\w'.cell? ⟨g1,k * 10+8,none⟩=some (.slice V1.xk V1.nk V1.ck)/\w'.cell? ⟨g1,k * 10+9,none⟩=some (.int .i64 a.s.ka)/\w'.cell? ⟨g2,k * 10,none⟩=some (.int .i64 a.node)/\w'.cell? ⟨g2,k * 10+1,none⟩=some (.int .i64 a.born)/\w'.cell? ⟨g2,k * 10+2,none⟩=some (.int .i64 a.num)/\w'.cell? ⟨g2,k * 10+3,none⟩=some (.slice V2.xr V2.nr V2.cr)/\w'.cell? ⟨g2,k * 10+4,none⟩=some (.slice V2.xf V2.nf V2.cf)/\w'.cell? ⟨g2,k * 10+5,none⟩=some (.slice V2.xt V2.nt V2.ct)/\w'.cell? ⟨g2,k * 10+6,none⟩=some (.int .i64 a.s.lo)/\w'.cell? ⟨g2,k * 10+7,none⟩=some (.int .i64 a.s.al)/\w'.cell? ⟨g2,k * 10+8,none⟩=some (.slice V2.xk V2.nk V2.ck)/\w'.cell? ⟨g2,k * 10+9,none⟩=some (.int .i64 a.s.ka)from⟨cell_later hb ca0,cell_later hb ca1,cell_later hb ca2,cell_later hb ca3,cell_later hb ca4,cell_later hb ca5,cell_later hb ca6,cell_later hb ca7,cell_later hb ca8,cell_later hb ca9,cell_later hb cb0,cell_later hb cb1,cell_later hb cb2,cell_later hb cb3,cell_later hb cb4,cell_later hb cb5,cell_later hb cb6,cell_later hb cb7,cell_later hb cb8,cell_later hb cb9⟩)
   clear ca0 ca1 ca2 ca3 ca4 ca5 ca6 ca7 ca8 ca9 cb0 cb1 cb2 cb3 cb4 cb5 cb6 cb7 cb8 cb9;go_wp2
   refine wp_region_plan 99 (.tk 0 8 (.alt 8 (.take 9 .done) .nomore)) (fun w'=>w'.cell? ⟨g1,k * 10,none⟩=some (.int .i64 a.node)/\w'.cell? ⟨g1,k * 10+1,none⟩=some (.int .i64 a.born)/\w'.cell? ⟨g1,k * 10+2,none⟩=some (.int .i64 a.num)/\w'.cell? ⟨g1,k * 10+3,none⟩=some (.slice V1.xr V1.nr V1.cr)/\w'.cell? ⟨g1,k * 10+4,none⟩=some (.slice V1.xf V1.nf V1.cf)/\w'.cell? ⟨g1,k * 10+5,none⟩=some (.slice V1.xt V1.nt V1.ct)/\w'.cell? ⟨g1,k * 10+6,none⟩=some (.int .i64 a.s.lo)/\w'.cell? ⟨g1,k * 10+7,none⟩=some (.int .i64 a.s.al)/\w'.cell? ⟨g1,k * 10+8,none⟩=some (.slice V1.xk V1.nk V1.ck)/\w'.cell? ⟨g1,k * 10+9,none⟩=some (.int .i64 a.s.ka)/\w'.cell? ⟨g2,k * 10,none⟩=some (.int .i64 a.node)/\w'.cell? ⟨g2,k * 10+1,none⟩=some (.int .i64 a.born)/\w'.cell? ⟨g2,k * 10+2,none⟩=some (.int .i64 a.num)/\w'.cell? ⟨g2,k * 10+3,none⟩=some (.slice V2.xr V2.nr V2.cr)/\w'.cell? ⟨g2,k * 10+4,none⟩=some (.slice V2.xf V2.nf V2.cf)/\w'.cell? ⟨g2,k * 10+5,none⟩=some (.slice V2.xt V2.nt V2.ct)/\w'.cell? ⟨g2,k * 10+6,none⟩=some (.int .i64 a.s.lo)/\w'.cell? ⟨g2,k * 10+7,none⟩=some (.int .i64 a.s.al)/\w'.cell? ⟨g2,k * 10+8,none⟩=some (.slice V2.xk V2.nk V2.ck)/\w'.cell? ⟨g2,k * 10+9,none⟩=some (.int .i64 a.s.ka)) (by kernel_rfl) (by kernel_rfl) (fun _ _ _ _ _ h=>h) (SS.out _ HB.out.drew) ?_
   have HD:=hd_ HB.out.drew;clear HB;generalize wr.drew=w3 at HD ⊢
   repeat ((first|(refine plan_take (by rfl) (by rfl) ?_;apply Exists.intro;refine⟨fun w' hw'=>?_,?_⟩;(· ((try dsimp only at hw');go_simp;(try with_reducible rfl))))|(refine plan_skip (by rfl) (by rfl) ?_));simp only[Act.put,List.getElem_toArray,List.getElem_cons_succ,pg3,pg4,pg5,pg6])
   refine plan_last (by rfl) (fun K hK=>?_);go_simp;refine (lkEntry_same _ V1 V2 a (sumR_frame.below R1.out HD.out lr_) (sumR_frame.below R2.out HD.out lr_) LA.out).mono ?_;rintro r w4 ⟨rfl,hb⟩;have HE:=hd_ (HD.out.trans (hb.mono HD.out.size));clear hb;refine hK _ _ (.inr (SS.out _ HE.out)) ?_;clear hK K
   try simp only[Act.put,List.getElem_toArray,List.getElem_cons_succ,pg3,pg4,pg5,pg6]
   repeat ((first|(refine plan_take (by rfl) (by rfl) ?_;apply Exists.intro;refine⟨fun w' hw'=>?_,?_⟩;(· ((try dsimp only at hw');go_simp;(try with_reducible rfl))))|(refine plan_skip (by rfl) (by rfl) ?_));simp only[Act.put,List.getElem_toArray,List.getElem_cons_succ,pg3,pg4,pg5,pg6])
   refine plan_done ?_;clear SS HD;go_wp2;go_roundw
   case rel=>exact⟨k+1,hlt,by go_num,HE.out⟩
   case measure=>simp[intOf];omega
  ·go_wp2
   go_ret;exact⟨rfl,HB.out⟩
theorem lkNode_same (w:World) {a:Nd} {x1 x2:Option Addr} {n1 n2 c1 c2:Nat} {f1 f2:List Nat} (h1:knownR TY w [.slice x1 n1 c1] a.known f1) (h2:knownR TY w [.slice x2 n2 c2] a.known f2) (hl:SmEs a.known):
  Calls Tryz.prog 150 #[.agg #[.int .i64 a.born,.slice x1 n1 c1,.int .i64 a.beacon,.int .i64 a.level,.int .i64 a.up],.agg #[.int .i64 a.born,.slice x2 n2 c2,.int .i64 a.beacon,.int .i64 a.level,.int .i64 a.up]] w fun r w'=>r=.returned (.bool true)/\Below w.heap.size w w':=by
 have H:=hd_ (((M.start w).alloc #[.int .i64 a.born,.slice x1 n1 c1,.int .i64 a.beacon,.int .i64 a.level,.int .i64 a.up] 55).alloc #[.int .i64 a.born,.slice x2 n2 c2,.int .i64 a.beacon,.int .i64 a.level,.int .i64 a.up] 55);have R1:=hd_ h1;have R2:=hd_ h2;have HL:=hd_ hl;clear h1 h2 hl;obtain⟨c0,c1,c2,c3,c4⟩:=H.out.p1.cells5;obtain⟨d0,d1,d2,d3,d4⟩:=H.out.cells5
 simp only[World.size_alloc]at d0 d1 d2 d3 d4;go_enter Tryz.func150,Tryz.ntmps150
 go_wp2_with fail
 refine (lkKnown_same _ (knownR_frame.below R1.out H.out.below lr_) (knownR_frame.below R2.out H.out.below lr_) HL.out).mono ?_;rintro r w1 ⟨rfl,hb⟩;have H1:=hd_ (H.out.later hb);clear hb c0 c1 c2 c3 c4 d0 d1 d2 d3 d4;obtain⟨c0,c1,c2,c3,c4⟩:=H1.out.p1.cells5;obtain⟨d0,d1,d2,d3,d4⟩:=H1.out.cells5;simp only[World.size_alloc]at d0 d1 d2 d3 d4;go_wp2;go_ret;exact⟨rfl,H1.out.below⟩
theorem lkNodes_same (w:World) {x1 x2:Option Addr} {n m c1 c2:Nat} {xs:List Nd} {f1 f2:List Nat} (h1:nodesR TY w [.slice x1 n c1] xs f1) (h2:nodesR TY w [.slice x2 m c2] xs f2) (hl:SmNs xs):
  Calls Tryz.prog 73 #[.slice x1 n c1,.slice x2 m c2] w fun r w'=>r=.returned (.bool true)/\Below w.heap.size w w':=by
 obtain rfl:n=xs.length:=(slcR_row h1).1;obtain rfl:m=xs.length:=(slcR_row h2).1;obtain⟨_,_,e1,q1,q2⟩:=slcR_value h1;have hm:xs.length<=maxLen:=Nat.le_trans q1 q2;unfold maxLen at hm;clear e1 q1 q2;have H1:=hd_ h1;have H2:=hd_ h2;have HL:=hd_ hl;have n0:((xs.length:Int) != (xs.length:Int))=false:=by simp
 clear h1 h2 hl;go_enter Tryz.func73,Tryz.ntmps73;go_wp2;go_loopw [5] (fun i wr=>∃k:Nat,k<=xs.length/\i=.int .i64 k/\Below w.heap.size w wr) (fun i _=>xs.length - (intOf i).toNat)
 case atStart=>exact⟨0,Nat.zero_le _,rfl,Below.refl _ _⟩
 case round=>
  obtain⟨k,hk,rfl,hb⟩:=hrel;have HB:=hd_ hb;clear hb
  by_cases hlt:k<xs.length
  ·obtain⟨a,ha⟩:∃a,xs[k]? =some a:=⟨_,List.getElem?_eq_getElem hlt⟩
   have k0:(0:Int)<=(k:Int):=by omega
   have k1:(k:Int)<(xs.length:Int):=by omega
   obtain⟨g1,y1,d1,p1,rfl,q1,_,r1,_,_,ca0,ca1,ca2,ca3,ca4⟩:=node_at H1.out ha;obtain⟨g2,y2,d2,p2,rfl,q2,_,r2,_,_,cb0,cb1,cb2,cb3,cb4⟩:=node_at H2.out ha;have R1:=hd_ r1;have R2:=hd_ r2;clear r1 r2 q1 q2;have LA:=hd_ (HL.out a (List.mem_of_getElem? ha));clear ha
   have SS:=hd_ (fun w' (hb:Below w.heap.size w w')=>show w'.cell? ⟨g1,k * 5,none⟩=some (.int .i64 a.born)/\w'.cell? ⟨g1,k * 5+1,none⟩=some (.slice y1 a.known.length d1)/\w'.cell? ⟨g1,k * 5+2,none⟩=some (.int .i64 a.beacon)/\w'.cell? ⟨g1,k * 5+3,none⟩=some (.int .i64 a.level)/\w'.cell? ⟨g1,k * 5+4,none⟩=some (.int .i64 a.up)/\w'.cell? ⟨g2,k * 5,none⟩=some (.int .i64 a.born)/\w'.cell? ⟨g2,k * 5+1,none⟩=some (.slice y2 a.known.length d2)/\w'.cell? ⟨g2,k * 5+2,none⟩=some (.int .i64 a.beacon)/\w'.cell? ⟨g2,k * 5+3,none⟩=some (.int .i64 a.level)/\w'.cell? ⟨g2,k * 5+4,none⟩=some (.int .i64 a.up)from⟨cell_later hb ca0,cell_later hb ca1,cell_later hb ca2,cell_later hb ca3,cell_later hb ca4,cell_later hb cb0,cell_later hb cb1,cell_later hb cb2,cell_later hb cb3,cell_later hb cb4⟩)
   clear ca0 ca1 ca2 ca3 ca4 cb0 cb1 cb2 cb3 cb4;go_wp2
   refine wp_region_plan 99 (.tk 0 8 (.alt 8 (.take 9 .done) .nomore)) (fun w'=>w'.cell? ⟨g1,k * 5,none⟩=some (.int .i64 a.born)/\w'.cell? ⟨g1,k * 5+1,none⟩=some (.slice y1 a.known.length d1)/\w'.cell? ⟨g1,k * 5+2,none⟩=some (.int .i64 a.beacon)/\w'.cell? ⟨g1,k * 5+3,none⟩=some (.int .i64 a.level)/\w'.cell? ⟨g1,k * 5+4,none⟩=some (.int .i64 a.up)/\w'.cell? ⟨g2,k * 5,none⟩=some (.int .i64 a.born)/\w'.cell? ⟨g2,k * 5+1,none⟩=some (.slice y2 a.known.length d2)/\w'.cell? ⟨g2,k * 5+2,none⟩=some (.int .i64 a.beacon)/\w'.cell? ⟨g2,k * 5+3,none⟩=some (.int .i64 a.level)/\w'.cell? ⟨g2,k * 5+4,none⟩=some (.int .i64 a.up)) (by kernel_rfl) (by kernel_rfl) (fun _ _ _ _ _ h=>h) (SS.out _ HB.out.drew) ?_
   have HD:=hd_ HB.out.drew;clear HB;generalize wr.drew=w3 at HD ⊢
   repeat ((first|(refine plan_take (by rfl) (by rfl) ?_;apply Exists.intro;refine⟨fun w' hw'=>?_,?_⟩;(· ((try dsimp only at hw');go_simp;(try with_reducible rfl))))|(refine plan_skip (by rfl) (by rfl) ?_));simp only[Act.put,List.getElem_toArray,List.getElem_cons_succ,pg3,pg4,pg5,pg6])
   refine plan_last (by rfl) (fun K hK=>?_);go_simp;refine (lkNode_same _ (knownR_frame.below R1.out HD.out lr_) (knownR_frame.below R2.out HD.out lr_) LA.out).mono ?_;rintro r w4 ⟨rfl,hb⟩;have HE:=hd_ (HD.out.trans (hb.mono HD.out.size));clear hb;refine hK _ _ (.inr (SS.out _ HE.out)) ?_;clear hK K
   try simp only[Act.put,List.getElem_toArray,List.getElem_cons_succ,pg3,pg4,pg5,pg6]
   repeat ((first|(refine plan_take (by rfl) (by rfl) ?_;apply Exists.intro;refine⟨fun w' hw'=>?_,?_⟩;(· ((try dsimp only at hw');go_simp;(try with_reducible rfl))))|(refine plan_skip (by rfl) (by rfl) ?_));simp only[Act.put,List.getElem_toArray,List.getElem_cons_succ,pg3,pg4,pg5,pg6])
   refine plan_done ?_;clear SS HD;go_wp2;go_roundw
   case rel=>exact⟨k+1,hlt,by go_num,HE.out⟩
   case measure=>simp[intOf];omega
  ·go_wp2
   go_ret;exact⟨rfl,HB.out⟩
theorem lkWord_same (w:World) {a:Wd} {x1 x2:Option Addr} {n1 n2 c1 c2:Nat} {f1 f2:List Nat} (h1:knownR TY w [.slice x1 n1 c1] a.known f1) (h2:knownR TY w [.slice x2 n2 c2] a.known f2) (hl:SmEs a.known):
  Calls Tryz.prog 151 #[.agg #[.int .i64 a.kind,.int .i64 a.src,.int .i64 a.dst,.int .i64 a.beacon,.int .i64 a.level,.slice x1 n1 c1],.agg #[.int .i64 a.kind,.int .i64 a.src,.int .i64 a.dst,.int .i64 a.beacon,.int .i64 a.level,.slice x2 n2 c2]] w fun r w'=>r=.returned (.bool true)/\Below w.heap.size w w':=by
 have H:=hd_ (((M.start w).alloc #[.int .i64 a.kind,.int .i64 a.src,.int .i64 a.dst,.int .i64 a.beacon,.int .i64 a.level,.slice x1 n1 c1] 123).alloc #[.int .i64 a.kind,.int .i64 a.src,.int .i64 a.dst,.int .i64 a.beacon,.int .i64 a.level,.slice x2 n2 c2] 123);have R1:=hd_ h1;have R2:=hd_ h2;have HL:=hd_ hl;clear h1 h2 hl;obtain⟨c0,c1,c2,c3,c4,c5⟩:=H.out.p1.cells6
 obtain⟨d0,d1,d2,d3,d4,d5⟩:=H.out.cells6;simp only[World.size_alloc]at d0 d1 d2 d3 d4 d5;go_enter Tryz.func151,Tryz.ntmps151
 go_wp2_with fail
 refine (lkKnown_same _ (knownR_frame.below R1.out H.out.below lr_) (knownR_frame.below R2.out H.out.below lr_) HL.out).mono ?_;rintro r w1 ⟨rfl,hb⟩;have H1:=hd_ (H.out.later hb);clear hb c0 c1 c2 c3 c4 c5 d0 d1 d2 d3 d4 d5;obtain⟨c0,c1,c2,c3,c4,c5⟩:=H1.out.p1.cells6;obtain⟨d0,d1,d2,d3,d4,d5⟩:=H1.out.cells6;simp only[World.size_alloc]at d0 d1 d2 d3 d4 d5;go_wp2;go_ret;exact⟨rfl,H1.out.below⟩
theorem lkWords_same (w:World) {x1 x2:Option Addr} {n m c1 c2:Nat} {xs:List Wd} {f1 f2:List Nat} (h1:wordsR TY w [.slice x1 n c1] xs f1) (h2:wordsR TY w [.slice x2 m c2] xs f2) (hl:SmWs xs):
  Calls Tryz.prog 74 #[.slice x1 n c1,.slice x2 m c2] w fun r w'=>r=.returned (.bool true)/\Below w.heap.size w w':=by
 obtain rfl:n=xs.length:=(slcR_row h1).1;obtain rfl:m=xs.length:=(slcR_row h2).1;obtain⟨_,_,e1,q1,q2⟩:=slcR_value h1;have hm:xs.length<=maxLen:=Nat.le_trans q1 q2;unfold maxLen at hm;clear e1 q1 q2;have H1:=hd_ h1;have H2:=hd_ h2;have HL:=hd_ hl;have n0:((xs.length:Int) != (xs.length:Int))=false:=by simp
 clear h1 h2 hl;go_enter Tryz.func74,Tryz.ntmps74;go_wp2;go_loopw [5] (fun i wr=>∃k:Nat,k<=xs.length/\i=.int .i64 k/\Below w.heap.size w wr) (fun i _=>xs.length - (intOf i).toNat)
 case atStart=>exact⟨0,Nat.zero_le _,rfl,Below.refl _ _⟩
 case round=>
  obtain⟨k,hk,rfl,hb⟩:=hrel;have HB:=hd_ hb;clear hb
  by_cases hlt:k<xs.length
  ·obtain⟨a,ha⟩:∃a,xs[k]? =some a:=⟨_,List.getElem?_eq_getElem hlt⟩
   have k0:(0:Int)<=(k:Int):=by omega
   have k1:(k:Int)<(xs.length:Int):=by omega
   obtain⟨g1,y1,d1,p1,rfl,q1,_,r1,_,_,ca0,ca1,ca2,ca3,ca4,ca5⟩:=wordR_at H1.out ha;obtain⟨g2,y2,d2,p2,rfl,q2,_,r2,_,_,cb0,cb1,cb2,cb3,cb4,cb5⟩:=wordR_at H2.out ha;have R1:=hd_ r1;have R2:=hd_ r2;clear r1 r2 q1 q2;have LA:=hd_ (HL.out a (List.mem_of_getElem? ha));clear ha
   have SS:=hd_ (fun w' (hb:Below w.heap.size w w')=>show w'.cell? ⟨g1,k * 6,none⟩=some (.int .i64 a.kind)/\w'.cell? ⟨g1,k * 6+1,none⟩=some (.int .i64 a.src)/\w'.cell? ⟨g1,k * 6+2,none⟩=some (.int .i64 a.dst)/\w'.cell? ⟨g1,k * 6+3,none⟩=some (.int .i64 a.beacon)/\w'.cell? ⟨g1,k * 6+4,none⟩=some (.int .i64 a.level)/\w'.cell? ⟨g1,k * 6+5,none⟩=some (.slice y1 a.known.length d1)/\w'.cell? ⟨g2,k * 6,none⟩=some (.int .i64 a.kind)/\w'.cell? ⟨g2,k * 6+1,none⟩=some (.int .i64 a.src)/\w'.cell? ⟨g2,k * 6+2,none⟩=some (.int .i64 a.dst)/\w'.cell? ⟨g2,k * 6+3,none⟩=some (.int .i64 a.beacon)/\w'.cell? ⟨g2,k * 6+4,none⟩=some (.int .i64 a.level)/\w'.cell? ⟨g2,k * 6+5,none⟩=some (.slice y2 a.known.length d2)from⟨cell_later hb ca0,cell_later hb ca1,cell_later hb ca2,cell_later hb ca3,cell_later hb ca4,cell_later hb ca5,cell_later hb cb0,cell_later hb cb1,cell_later hb cb2,cell_later hb cb3,cell_later hb cb4,cell_later hb cb5⟩)
   clear ca0 ca1 ca2 ca3 ca4 ca5 cb0 cb1 cb2 cb3 cb4 cb5;go_wp2
   refine wp_region_plan 99 (.tk 0 8 (.alt 8 (.take 9 .done) .nomore)) (fun w'=>w'.cell? ⟨g1,k * 6,none⟩=some (.int .i64 a.kind)/\w'.cell? ⟨g1,k * 6+1,none⟩=some (.int .i64 a.src)/\w'.cell? ⟨g1,k * 6+2,none⟩=some (.int .i64 a.dst)/\w'.cell? ⟨g1,k * 6+3,none⟩=some (.int .i64 a.beacon)/\w'.cell? ⟨g1,k * 6+4,none⟩=some (.int .i64 a.level)/\w'.cell? ⟨g1,k * 6+5,none⟩=some (.slice y1 a.known.length d1)/\w'.cell? ⟨g2,k * 6,none⟩=some (.int .i64 a.kind)/\w'.cell? ⟨g2,k * 6+1,none⟩=some (.int .i64 a.src)/\w'.cell? ⟨g2,k * 6+2,none⟩=some (.int .i64 a.dst)/\w'.cell? ⟨g2,k * 6+3,none⟩=some (.int .i64 a.beacon)/\w'.cell? ⟨g2,k * 6+4,none⟩=some (.int .i64 a.level)/\w'.cell? ⟨g2,k * 6+5,none⟩=some (.slice y2 a.known.length d2)) (by kernel_rfl) (by kernel_rfl) (fun _ _ _ _ _ h=>h) (SS.out _ HB.out.drew) ?_
   have HD:=hd_ HB.out.drew;clear HB;generalize wr.drew=w3 at HD ⊢
   repeat ((first|(refine plan_take (by rfl) (by rfl) ?_;apply Exists.intro;refine⟨fun w' hw'=>?_,?_⟩;(· ((try dsimp only at hw');go_simp;(try with_reducible rfl))))|(refine plan_skip (by rfl) (by rfl) ?_));simp only[Act.put,List.getElem_toArray,List.getElem_cons_succ,pg3,pg4,pg5,pg6])
   refine plan_last (by rfl) (fun K hK=>?_);go_simp;refine (lkWord_same _ (knownR_frame.below R1.out HD.out lr_) (knownR_frame.below R2.out HD.out lr_) LA.out).mono ?_;rintro r w4 ⟨rfl,hb⟩;have HE:=hd_ (HD.out.trans (hb.mono HD.out.size));clear hb;refine hK _ _ (.inr (SS.out _ HE.out)) ?_;clear hK K
   try simp only[Act.put,List.getElem_toArray,List.getElem_cons_succ,pg3,pg4,pg5,pg6]
   repeat ((first|(refine plan_take (by rfl) (by rfl) ?_;apply Exists.intro;refine⟨fun w' hw'=>?_,?_⟩;(· ((try dsimp only at hw');go_simp;(try with_reducible rfl))))|(refine plan_skip (by rfl) (by rfl) ?_));simp only[Act.put,List.getElem_toArray,List.getElem_cons_succ,pg3,pg4,pg5,pg6])
   refine plan_done ?_;clear SS HD;go_wp2;go_roundw
   case rel=>exact⟨k+1,hlt,by go_num,HE.out⟩
   case measure=>simp[intOf];omega
  ·go_wp2
   go_ret;exact⟨rfl,HB.out⟩
theorem lkBools_same (w:World) {x1 x2:Option Addr} {n m c1 c2:Nat} {xs:List Bool} {f1 f2:List Nat} (h1:linksR TY w [.slice x1 n c1] xs f1) (h2:linksR TY w [.slice x2 m c2] xs f2):
  Calls Tryz.prog 75 #[.slice x1 n c1,.slice x2 m c2] w fun r w'=>r=.returned (.bool true)/\Below w.heap.size w w':=by
 obtain rfl:n=xs.length:=(slcR_row h1).1;obtain rfl:m=xs.length:=(slcR_row h2).1;obtain⟨_,_,e1,q1,q2⟩:=slcR_value h1;have hm:xs.length<=maxLen:=Nat.le_trans q1 q2;unfold maxLen at hm;clear e1 q1 q2;have H1:=hd_ h1;have H2:=hd_ h2;have n0:((xs.length:Int) != (xs.length:Int))=false:=by simp
 clear h1 h2;go_enter Tryz.func75,Tryz.ntmps75;go_wp2;go_loopw [5] (fun i wr=>∃k:Nat,k<=xs.length/\i=.int .i64 k/\Below w.heap.size w wr) (fun i _=>xs.length - (intOf i).toNat)
 case atStart=>exact⟨0,Nat.zero_le _,rfl,Below.refl _ _⟩
 case round=>
  obtain⟨k,hk,rfl,hb⟩:=hrel;have HB:=hd_ hb;clear hb
  by_cases hlt:k<xs.length
  ·obtain⟨a,ha⟩:∃a,xs[k]? =some a:=⟨_,List.getElem?_eq_getElem hlt⟩
   have k0:(0:Int)<=(k:Int):=by omega
   have k1:(k:Int)<(xs.length:Int):=by omega
   obtain⟨g1,rfl,_,ca0⟩:=link_at H1.out ha;obtain⟨g2,rfl,_,cb0⟩:=link_at H2.out ha;clear ha;have SS:=hd_ (fun w' (hb:Below w.heap.size w w')=>show w'.cell? ⟨g1,k,none⟩=some (.bool a)/\w'.cell? ⟨g2,k,none⟩=some (.bool a)from⟨cell_later hb ca0,cell_later hb cb0⟩);clear ca0 cb0;go_wp2
   refine wp_region_plan 99 (.tk 0 9 .done) (fun w'=>w'.cell? ⟨g1,k,none⟩=some (.bool a)/\w'.cell? ⟨g2,k,none⟩=some (.bool a)) (by kernel_rfl) (by kernel_rfl) (fun _ _ _ _ _ h=>h) (SS.out _ HB.out.drew) ?_;have HD:=hd_ HB.out.drew;clear HB;generalize wr.drew=w3 at HD ⊢
   repeat ((first|(refine plan_take (by rfl) (by rfl) ?_;apply Exists.intro;refine⟨fun w' hw'=>?_,?_⟩;(· ((try dsimp only at hw');go_simp;(try with_reducible rfl))))|(refine plan_skip (by rfl) (by rfl) ?_));simp only[Act.put,List.getElem_toArray,List.getElem_cons_succ,pg3,pg4,pg5,pg6])
   have HE:=HD;refine plan_done ?_;clear SS HD;go_wp2;go_roundw
   case rel=>exact⟨k+1,hlt,by go_num,HE.out⟩
   case measure=>simp[intOf];omega
  ·go_wp2
   go_ret;exact⟨rfl,HB.out⟩
theorem lkInts_eq (w:World) {v1 v2:Value} {l:List Int} {f1 f2:List Nat} (h1:intsR w [v1] l f1) (h2:intsR w [v2] l f2) (hm:l.length<=maxLen):
  Calls Tryz.prog 28 #[v1,v2] w fun r w'=>r=.returned (.bool true)/\Below w.heap.size w w':=by
 obtain⟨u1,e1,r1,_⟩:=intsR_to h1;obtain⟨u2,e2,r2,_⟩:=intsR_to h2;cases e1;cases e2;have K:=lkInts_at w v1 v2 l l r1 r2 hm;rw[show decide (l=l)=true from decide_eq_true rfl]at K;refine K.mono ?_;rintro r w' ⟨rfl,m,rfl⟩;exact⟨rfl,below_drewN (Below.refl _ _) _⟩
theorem lkPast_same (w:World) {x1 x2:Option Addr} {n m c1 c2:Nat} {xs:List (List (List Int))} {f1 f2:List Nat} (h1:pastR TY w [.slice x1 n c1] xs f1) (h2:pastR TY w [.slice x2 m c2] xs f2):
  Calls Tryz.prog 76 #[.slice x1 n c1,.slice x2 m c2] w fun r w'=>r=.returned (.bool true)/\Below w.heap.size w w':=by
 obtain rfl:n=xs.length:=(slcR_row h1).1;obtain rfl:m=xs.length:=(slcR_row h2).1;obtain⟨_,_,e1,q1,q2⟩:=slcR_value h1;have hm:xs.length<=maxLen:=Nat.le_trans q1 q2;unfold maxLen at hm;clear e1 q1 q2;have H1:=hd_ h1;have H2:=hd_ h2;have n0:((xs.length:Int) != (xs.length:Int))=false:=by simp
 clear h1 h2;go_enter Tryz.func76,Tryz.ntmps76;go_wp2;go_loopw [5] (fun i wr=>∃k:Nat,k<=xs.length/\i=.int .i64 k/\Below w.heap.size w wr) (fun i _=>xs.length - (intOf i).toNat)
 case atStart=>exact⟨0,Nat.zero_le _,rfl,Below.refl _ _⟩
 case round=>
  obtain⟨k,hk,rfl,hb⟩:=hrel;have HB:=hd_ hb;clear hb
  by_cases hlt:k<xs.length
  ·obtain⟨a,ha⟩:∃a,xs[k]? =some a:=⟨_,List.getElem?_eq_getElem hlt⟩
   have k0:(0:Int)<=(k:Int):=by omega
   have k1:(k:Int)<(xs.length:Int):=by omega
   obtain⟨g1,y1,d1,p1,rfl,_,_,r1,l1,m1,ca0⟩:=past_at H1.out ha;obtain⟨g2,y2,d2,p2,rfl,_,_,r2,_,_,cb0⟩:=past_at H2.out ha;have hma:a.length<=maxLen:=Nat.le_trans l1 m1;unfold maxLen at hma;have R1:=hd_ r1;have R2:=hd_ r2;clear r1 r2 l1 m1;clear ha;have n1:((a.length:Int) != (a.length:Int))=false:=by simp
   have SS:=hd_ (fun w' (hb:Below w.heap.size w w')=>show w'.cell? ⟨g1,k,none⟩=some (.slice y1 a.length d1)/\w'.cell? ⟨g2,k,none⟩=some (.slice y2 a.length d2)from⟨cell_later hb ca0,cell_later hb cb0⟩);clear ca0 cb0;go_wp2
   refine wp_region_plan 99 (.tk 0 11 .done) (fun w'=>w'.cell? ⟨g1,k,none⟩=some (.slice y1 a.length d1)/\w'.cell? ⟨g2,k,none⟩=some (.slice y2 a.length d2)) (by kernel_rfl) (by kernel_rfl) (fun _ _ _ _ _ h=>h) (SS.out _ HB.out.drew) ?_;have HD:=hd_ HB.out.drew;clear HB;generalize wr.drew=w3 at HD ⊢
   repeat ((first|(refine plan_take (by rfl) (by rfl) ?_;apply Exists.intro;refine⟨fun w' hw'=>?_,?_⟩;(· ((try dsimp only at hw');go_simp;(try with_reducible rfl))))|(refine plan_skip (by rfl) (by rfl) ?_));simp only[Act.put,List.getElem_toArray,List.getElem_cons_succ,pg3,pg4,pg5,pg6])
   refine plan_done ?_;go_wp2;go_loopw [6] (fun z wr=>∃j:Nat,j<=a.length/\z=.int .i64 j/\Below w.heap.size w wr) (fun z _=>a.length - (intOf z).toNat)
   case atStart=>exact⟨0,Nat.zero_le _,rfl,HD.out⟩
   case round=>
    obtain⟨j,hj,rfl,hb⟩:=hrel;have HB:=hd_ hb;clear hb HD;obtain⟨ca0,cb0⟩:=SS.out _ HB.out
    by_cases hjt:j<a.length
    ·obtain⟨b,hb⟩:∃b,a[j]? =some b:=⟨_,List.getElem?_eq_getElem hjt⟩
     have j0:(0:Int)<=(j:Int):=by omega
     have j1:(j:Int)<(a.length:Int):=by omega
     obtain⟨g3,z1,e1,p3,rfl,_,_,s1,l1,m1,da0⟩:=row_at R1.out hb;obtain⟨g4,z2,e2,p4,rfl,_,_,s2,_,_,db0⟩:=row_at R2.out hb;have hmb:b.length<=maxLen:=Nat.le_trans l1 m1;have S1:=hd_ s1;have S2:=hd_ s2;clear s1 s2 l1 m1 hb
     have ST:=hd_ (fun w' (hb:Below w.heap.size w w')=>show w'.cell? ⟨g1,k,none⟩=some (.slice (some ⟨g3,0,none⟩) a.length d1)/\w'.cell? ⟨g2,k,none⟩=some (.slice (some ⟨g4,0,none⟩) a.length d2)/\w'.cell? ⟨g3,j,none⟩=some (.slice z1 b.length e1)/\w'.cell? ⟨g4,j,none⟩=some (.slice z2 b.length e2)from⟨(SS.out _ hb).1,(SS.out _ hb).2,cell_later hb da0,cell_later hb db0⟩);clear da0 db0;go_wp2
     clear ca0 cb0
     refine wp_region_plan 99 (.tk 0 14 (.alt 14 (.take 15 .done) .nomore)) (fun w'=>w'.cell? ⟨g1,k,none⟩=some (.slice (some ⟨g3,0,none⟩) a.length d1)/\w'.cell? ⟨g2,k,none⟩=some (.slice (some ⟨g4,0,none⟩) a.length d2)/\w'.cell? ⟨g3,j,none⟩=some (.slice z1 b.length e1)/\w'.cell? ⟨g4,j,none⟩=some (.slice z2 b.length e2)) (by kernel_rfl) (by kernel_rfl) (fun _ _ _ _ _ h=>h) (ST.out _ HB.out.drew) ?_
     have HD:=hd_ HB.out.drew;clear HB;generalize wr.drew=w4 at HD ⊢
     repeat ((first|(refine plan_take (by rfl) (by rfl) ?_;apply Exists.intro;refine⟨fun w' hw'=>?_,?_⟩;(· ((try dsimp only at hw');go_simp;(try with_reducible rfl))))|(refine plan_skip (by rfl) (by rfl) ?_));simp only[Act.put,List.getElem_toArray,List.getElem_cons_succ,pg3,pg4,pg5,pg6])
     refine plan_last (by rfl) (fun K hK=>?_);go_simp;refine (lkInts_eq _ (intsR_frame.below S1.out HD.out lr_) (intsR_frame.below S2.out HD.out lr_) hmb).mono ?_;rintro r w5 ⟨rfl,hb⟩;have HE:=hd_ (HD.out.trans (hb.mono HD.out.size));clear hb;refine hK _ _ (.inr (ST.out _ HE.out)) ?_;clear hK K
     try simp only[Act.put,List.getElem_toArray,List.getElem_cons_succ,pg3,pg4,pg5,pg6]
     repeat ((first|(refine plan_take (by rfl) (by rfl) ?_;apply Exists.intro;refine⟨fun w' hw'=>?_,?_⟩;(· ((try dsimp only at hw');go_simp;(try with_reducible rfl))))|(refine plan_skip (by rfl) (by rfl) ?_));simp only[Act.put,List.getElem_toArray,List.getElem_cons_succ,pg3,pg4,pg5,pg6])
     refine plan_done ?_;clear ST HD;go_wp2;go_roundw
     case rel=>exact⟨j+1,hjt,by go_num,HE.out⟩
     case measure=>simp[intOf];omega
    ·clear SS
     go_wp2;go_roundw
     case rel=>exact⟨k+1,hlt,by go_num,HB.out⟩
     case measure=>simp[intOf];omega
  ·go_wp2
   go_ret;exact⟨rfl,HB.out⟩
structure SmN (n:Nt):Prop where
 ns:SmNs n.nodes
 ws:SmWs n.words
theorem lkNet_same (w:World) {a:Nt} {x1a x1b x1c x1d x2a x2b x2c x2d:Option Addr} {n1a n1b n1c n1d n2a n2b n2c n2d c1a c1b c1c c1d c2a c2b c2c c2d:Nat} {f1 f2:List Nat} (h1:netR TY w [.slice x1a n1a c1a,.slice x1b n1b c1b,.slice x1c n1c c1c,.slice x1d n1d c1d] a f1) (h2:netR TY w [.slice x2a n2a c2a,.slice x2b n2b c2b,.slice x2c n2c c2c,.slice x2d n2d c2d] a f2) (hl:SmN a):
  Calls Tryz.prog 20 #[.agg #[.slice x1a n1a c1a,.slice x1b n1b c1b,.slice x1c n1c c1c,.slice x1d n1d c1d],.agg #[.slice x2a n2a c2a,.slice x2b n2b c2b,.slice x2c n2c c2c,.slice x2d n2d c2d]] w fun r w'=>r=.returned (.bool true)/\Below w.heap.size w w':=by
 have H:=hd_ (((M.start w).alloc #[.slice x1a n1a c1a,.slice x1b n1b c1b,.slice x1c n1c c1c,.slice x1d n1d c1d] 30).alloc #[.slice x2a n2a c2a,.slice x2b n2b c2b,.slice x2c n2c c2c,.slice x2d n2d c2d] 30);obtain⟨_,_,_,_,_,_,_,_,e1,_,ra1,ra2,ra3,ra4⟩:=netR_iff.1 h1;cases e1;obtain⟨_,_,_,_,_,_,_,_,e2,_,rb1,rb2,rb3,rb4⟩:=netR_iff.1 h2;cases e2;have A1:=hd_ ra1;have A2:=hd_ ra2;have A3:=hd_ ra3
 have A4:=hd_ ra4;have B1:=hd_ rb1;have B2:=hd_ rb2;have B3:=hd_ rb3;have B4:=hd_ rb4;have HL:=hd_ hl;clear h1 h2 hl ra1 ra2 ra3 ra4 rb1 rb2 rb3 rb4;obtain⟨c0,c1,c2,c3⟩:=H.out.p1.cells4;obtain⟨d0,d1,d2,d3⟩:=H.out.cells4;simp only[World.size_alloc]at d0 d1 d2 d3;go_enter Tryz.func20,Tryz.ntmps20
 go_wp2_with fail
 refine (lkNodes_same _ (nodesR_frame.below A1.out H.out.below lr_) (nodesR_frame.below B1.out H.out.below lr_) HL.out.ns).mono ?_;rintro r w1 ⟨rfl,hb⟩;have H1:=hd_ (H.out.later hb);clear hb c0 c1 c2 c3 d0 d1 d2 d3;obtain⟨c0,c1,c2,c3⟩:=H1.out.p1.cells4;obtain⟨d0,d1,d2,d3⟩:=H1.out.cells4;simp only[World.size_alloc]at d0 d1 d2 d3
 go_wp2_with fail
 refine (lkWords_same _ (wordsR_frame.below A3.out H1.out.below lr_) (wordsR_frame.below B3.out H1.out.below lr_) HL.out.ws).mono ?_;rintro r w2 ⟨rfl,hb⟩;have H2:=hd_ (H1.out.later hb);clear hb c0 c1 c2 c3 d0 d1 d2 d3;obtain⟨c0,c1,c2,c3⟩:=H2.out.p1.cells4;obtain⟨d0,d1,d2,d3⟩:=H2.out.cells4;simp only[World.size_alloc]at d0 d1 d2 d3
 go_wp2_with fail
 refine (lkBools_same _ (linksR_frame.below A2.out H2.out.below lr_) (linksR_frame.below B2.out H2.out.below lr_)).mono ?_;rintro r w3 ⟨rfl,hb⟩;have H3:=hd_ (H2.out.later hb);clear hb c0 c1 c2 c3 d0 d1 d2 d3;obtain⟨c0,c1,c2,c3⟩:=H3.out.p1.cells4;obtain⟨d0,d1,d2,d3⟩:=H3.out.cells4;simp only[World.size_alloc]at d0 d1 d2 d3
 go_wp2_with fail
 refine (lkPast_same _ (pastR_frame.below A4.out H3.out.below lr_) (pastR_frame.below B4.out H3.out.below lr_)).mono ?_;rintro r w4 ⟨rfl,hb⟩;have H4:=hd_ (H3.out.later hb);clear hb c0 c1 c2 c3 d0 d1 d2 d3;obtain⟨c0,c1,c2,c3⟩:=H4.out.p1.cells4;obtain⟨d0,d1,d2,d3⟩:=H4.out.cells4;simp only[World.size_alloc]at d0 d1 d2 d3;go_wp2;go_ret;exact⟨rfl,H4.out.below⟩
end N
end Go.Proofs.YtcblbdpdbggkbaaGreat
set_option linter.unusedVariables false
namespace Go.Proofs.YtcblbdpdbggkbaaGreat
open Go.RowKit Go.Sort
def allS (s:Sm):Int:=if okS s=true then s.al else -1
theorem imSumAll_at (w:World) (V:SV) (s:Sm) (h1:RdS w V s):
  Calls Tryz.prog 23 #[.agg #[.slice V.xr V.nr V.cr,.slice V.xf V.nf V.cf,.slice V.xt V.nt V.ct,.int .i64 s.lo,.int .i64 s.al,.slice V.xk V.nk V.ck,.int .i64 s.ka]] w fun e w'=>e=.returned (.int .i64 (allS s))/\Below w.heap.size w w':=by
 have hA:=(Below.refl w.heap.size w).alloc lr_ (.cells #[.slice V.xr V.nr V.cr,.slice V.xf V.nf V.cf,.slice V.xt V.nt V.ct,.int .i64 s.lo,.int .i64 s.al,.slice V.xk V.nk V.ck,.int .i64 s.ka] 46);have X:=Box7.new w 46 (.slice V.xr V.nr V.cr) (.slice V.xf V.nf V.cf) (.slice V.xt V.nt V.ct) (.int .i64 s.lo) (.int .i64 s.al) (.slice V.xk V.nk V.ck) (.int .i64 s.ka)
 obtain⟨ax0,ax1,ax2,ax3,ax4,ax5,ax6⟩:=(X).cells;obtain⟨W0,hW⟩:∃W,W=w.alloc (.cells #[.slice V.xr V.nr V.cr,.slice V.xf V.nf V.cf,.slice V.xt V.nt V.ct,.int .i64 s.lo,.int .i64 s.al,.slice V.xk V.nk V.ck,.int .i64 s.ka] 46):=⟨_,rfl⟩
 rw[<-hW]at hA X;have B:=hd_ hA;have H1:=hd_ h1;clear hA h1;go_enter Tryz.func23,Tryz.ntmps23
 go_wp2_with fail
 rw[<-hW];clear hW ax0 ax1 ax2 ax3 ax4 ax5 ax6;have K1:=imSumOk_at W0 V s (H1.out.below B.out lr_);cases ok:okS s with
 |false=>
  rw[ok]at K1;refine (K1).mono ?_;rintro e w1 ⟨rfl,hb⟩;clear K1;replace X:=X.later hb;replace B:=hd_ (B.out.trans (hb.mono B.out.size));clear hb;go_wp2;go_ret;exact⟨by unfold allS;rw[ok];rfl,B.out⟩
 |true=>
  rw[ok]at K1;have AV:=hd_ ((okS_iff _).1 ok).ra;have HOK:=hd_ ok;clear ok;refine (K1).mono ?_;rintro e w1 ⟨rfl,hb⟩;clear K1;replace X:=X.later hb;replace B:=hd_ (B.out.trans (hb.mono B.out.size));clear hb;obtain⟨cx0,cx1,cx2,cx3,cx4,cx5,cx6⟩:=(X).cells
  go_wp2_with fail
  refine (roughAll_at w1 (.slice V.xr V.nr V.cr) s.rs (H1.out.below B.out lr_).r).mono ?_;rintro e w2 ⟨rfl,hb⟩;clear cx0 cx1 cx2 cx3 cx4 cx5 cx6;replace X:=X.later hb;replace B:=hd_ (B.out.trans (hb.mono B.out.size));clear hb;go_wp2;go_ret;exact⟨by unfold allS;rw[HOK.out,AV.out];rfl,B.out⟩
end Go.Proofs.YtcblbdpdbggkbaaGreat
set_option linter.unusedVariables false
set_option linter.unusedSectionVars false
set_option linter.unusedSimpArgs false
namespace Go.Proofs.YtcblbdpdbggkbaaGreat
open Go.RowKit Go.Sort
namespace N
theorem net_rd {w:World} {v1 v2 v3 v4:Value} {n:Nt} {f:List Nat} (hf:netR TY w [v1,v2,v3,v4] n f):NetRd w v1 v2 v3 v4 n:=by
 obtain⟨_,_,_,_,f1,f2,f3,f4,e,_,h1,h2,h3,h4⟩:=netR_iff.1 hf;cases e;exact⟨⟨f1,h1⟩,⟨f2,h2⟩,⟨f3,h3⟩,f4,h4⟩
theorem sm_new (ks:List Int):SmN ((newN ks).getD noNt):=by
 unfold newN
 split
 ·refine⟨fun x hx=>?_,fun x hx=>by cases hx⟩
  have hx':x ∈ (List.range 5).map (fun i:Nat=>l21Born i 1):=hx;obtain⟨i,_,rfl⟩:=List.mem_map.1 hx';intro e he;obtain rfl:=List.mem_singleton.1 he;exact new_ok.small
 ·exact⟨fun x hx=>(by cases hx),fun x hx=>(by cases hx)⟩
theorem sum_new {l:List Int} {n:Nt} (e:newN l=some n):okNB n=true/\∃s,sumF n 0=some s/\allS s=0:=by
 have h:=okNB_iff.2 (ok_new e);refine⟨h,joinS newSm newSm,?_,by decide+kernel⟩;unfold sumF;rw[if_pos ⟨h,by decide⟩,(new_linked e).2.2.2]
 rfl
theorem link_new {l:List Int} {n:Nt} (e:newN l=some n) {j:Nat} {k:Nat} (hj:j=2 * k) (h:j+1<l.length):∃a b:Nat,l.getD j 0=a/\l.getD (j+1) 0=b/\a<=4/\b<=4/\n.links[a * 5+b]? =some true:=by
 obtain⟨⟨⟨a0,a4⟩,b0,b4⟩,hw⟩:=(new_linked e).1 k (by omega);subst hj;obtain⟨a,ha⟩:∃a:Nat,l.getD (2 * k) 0=a:=⟨_,(Int.toNat_of_nonneg a0).symm⟩
 obtain⟨b,hb⟩:∃a:Nat,l.getD (2 * k+1) 0=a:=⟨_,(Int.toNat_of_nonneg b0).symm⟩
 rw[ha]at a4 hw;rw[hb]at b4 hw;refine⟨a,b,ha,hb,by omega,by omega,?_⟩;unfold whole at hw;rw[show ((a:Int) * 5+b).toNat=a * 5+b by omega,List.getD_eq_getElem?_getD]at hw;cases q:n.links[a * 5+b]? with
 |none=>rw[q]at hw;cases hw
 |some t=>rw[q]at hw;exact congrArg some hw
theorem even_new {l:List Int} {n:Nt} (e:newN l=some n):l.length % 2=0/\n.words=[]/\n.links.length=25:=by
 refine⟨?_,(new_linked e).2.1,?_⟩
 ·unfold newN at e
  split at e
  ·rename_i q;exact q.1.1
  ·cases e
 ·exact (ok_new e).links
end N
end Go.Proofs.YtcblbdpdbggkbaaGreat
set_option linter.unusedVariables false
set_option linter.unusedSectionVars false
set_option linter.unusedSimpArgs false
namespace Go.Proofs.YtcblbdpdbggkbaaGreat
open Go.RowKit Go.Sort
namespace N
variable {B:Nat} {w0 w w':World} {l:List Ch}
theorem ans_got {o:Option Nt} {e:Ending} (h:M B w0 w l) (ha:AnsN w o e w'):∃xa na ca xb nb cb xc nc cc xd nd cd,e=.returned (.tuple #[.agg #[.slice xa na ca,.slice xb nb cb,.slice xc nc cc,.slice xd nd cd],.bool o.isSome])/\M B w0 w' (netC (.slice xa na ca) (.slice xb nb cb) (.slice xc nc cc) (.slice xd nd cd) (o.getD noNt)::l):=by
 obtain⟨v1,v2,v3,v4,fp,rfl,hs,hb⟩:=ha;have hm:M B w0 w' (netC v1 v2 v3 v4 (o.getD noNt)::l):=M.got (netR_frame (T:=TY)) h hb hs;obtain⟨_,_,_,_,_,_,_,_,e,_,r1,r2,r3,r4⟩:=netR_iff.1 hs.1;cases e;obtain⟨xa,ca,rfl,_⟩:=slcR_value r1;obtain⟨xb,cb,rfl,_⟩:=slcR_value r2;obtain⟨xc,cc,rfl,_⟩:=slcR_value r3;obtain⟨xd,cd,rfl,_⟩:=slcR_value r4;exact⟨_,_,_,_,_,_,_,_,_,_,_,_,rfl,hm⟩
theorem _root_.Go.Proofs.YtcblbdpdbggkbaaGreat.M.ints {v:Value} {zs:List Int} (h:M B w0 w (intsC v zs::l)):Ints w v zs:=by
 obtain⟨f,hf,_⟩:=h.first;obtain⟨_,e,o,_⟩:=intsR_to hf;cases e;exact o
theorem _root_.Go.Proofs.YtcblbdpdbggkbaaGreat.M.netRd {v1 v2 v3 v4:Value} {a:Nt} (h:M B w0 w (netC v1 v2 v3 v4 a::l)):∃f,netR TY w [v1,v2,v3,v4] a f:=let ⟨f,hf,_⟩:=h.first;⟨f,hf⟩
end N
end Go.Proofs.YtcblbdpdbggkbaaGreat
set_option linter.unusedVariables false
set_option linter.unusedSectionVars false
set_option linter.unusedSimpArgs false
namespace Go.Proofs.YtcblbdpdbggkbaaGreat
open Go.RowKit Go.Sort
namespace N
def AnsS (w:World) (o:Option Sm) (r:Ending) (w':World):Prop:=∃U:SV,r=.returned (.tuple #[.agg #[.slice U.xr U.nr U.cr,.slice U.xf U.nf U.cf,.slice U.xt U.nt U.ct,.int .i64 (o.getD noSm).lo,.int .i64 (o.getD noSm).al,.slice U.xk U.nk U.ck,.int .i64 (o.getD noSm).ka],.bool o.isSome])/\M w.heap.size w w' [sumR_frame.ch [.slice U.xr U.nr U.cr,.slice U.xf U.nf U.cf,.slice U.xt U.nt U.ct,.int .i64 (o.getD noSm).lo,.int .i64 (o.getD noSm).al,.slice U.xk U.nk U.ck,.int .i64 (o.getD noSm).ka] (o.getD noSm)]
def SV0:SV:=⟨none,0,0,none,0,0,none,0,0,none,0,0⟩
theorem _root_.Go.Proofs.YtcblbdpdbggkbaaGreat.M.noSum {B:Nat} {w0 w:World} {l:List Ch} (h:M B w0 w l):M B w0 w (sumR_frame.ch [.slice SV0.xr SV0.nr SV0.cr,.slice SV0.xf SV0.nf SV0.cf,.slice SV0.xt SV0.nt SV0.ct,.int .i64 noSm.lo,.int .i64 noSm.al,.slice SV0.xk SV0.nk SV0.ck,.int .i64 noSm.ka] noSm::l):=
 M.sumWhole (V:=SV0) (s:=noSm) (M.nil intsR_frame 23 1 (M.nil (flatR_frame encI) 3 1 (M.nil (flatR_frame encP2) 213 2 (M.nil (flatR_frame encP2) 152 2 h).soft).soft).soft)
theorem _root_.Go.Proofs.YtcblbdpdbggkbaaGreat.M.rdS {B:Nat} {w0 w:World} {l:List Ch} {V:SV} {s:Sm} (h:M B w0 w (sumR_frame.ch [.slice V.xr V.nr V.cr,.slice V.xf V.nf V.cf,.slice V.xt V.nt V.ct,.int .i64 s.lo,.int .i64 s.al,.slice V.xk V.nk V.ck,.int .i64 s.ka] s::l)):RdS w V s:=let ⟨_,hf,_⟩:=h.first;rds_of hf
theorem _root_.Go.Proofs.YtcblbdpdbggkbaaGreat.M.knownR' {B:Nat} {w0 w:World} {l:List Ch} {v:Value} {es:List En} (h:M B w0 w (knownC v es::l)):∃f,knownR TY w [v] es f:=let ⟨f,hf,_⟩:=h.first;⟨f,hf⟩
theorem imNetSum_at (w:World) {x1 x2 x3 x4:Option Addr} {k1 c1 k2 c2 k3 c3 k4 c4:Nat} {n:Nt} (hn:NetRd w (.slice x1 k1 c1) (.slice x2 k2 c2) (.slice x3 k3 c3) (.slice x4 k4 c4) n) (i:Int):
  Calls Tryz.prog 21 #[.agg #[.slice x1 k1 c1,.slice x2 k2 c2,.slice x3 k3 c3,.slice x4 k4 c4],.int .i64 i] w (AnsS w (sumF n i)):=by
 have HN:=hd_ hn;rw[sumF_known];obtain⟨kl,kf⟩:=knownF_fine n i;obtain⟨es,hes⟩:∃es,es=knownF n i:=⟨_,rfl⟩
 have KK:=hd_ (fun (W:World) (hb:Below w.heap.size w W)=>imNetKnown_at W (hn.below hb lr_) i);rw[<-hes]at kl kf KK ⊢;obtain⟨o,hoo⟩:∃o:Option Sm,o=if es.length=0 then none else some (sumK es):=⟨_,rfl⟩
 rw[<-hoo];have OE:=hd_ hoo;clear hoo;have KF:=hd_ (fun e he=>And.intro (kf e he).1 (kf e he).2.1);have KL:=hd_ kl;have X:=((M.start w).alloc #[.slice x1 k1 c1,.slice x2 k2 c2,.slice x3 k3 c3,.slice x4 k4 c4] 30).alloc #[.slice none 0 0,.slice none 0 0,.slice none 0 0,.int .i64 0,.int .i64 0,.slice none 0 0,.int .i64 0] 46;simp only[World.size_alloc]at X;obtain⟨p2,hp2⟩:∃p,p=w.heap.size:=⟨_,rfl⟩
 obtain⟨p4,hp4⟩:∃p,p=w.heap.size+1:=⟨_,rfl⟩
 obtain⟨W0,hW0⟩:∃W,W=(w.alloc (.cells #[.slice x1 k1 c1,.slice x2 k2 c2,.slice x3 k3 c3,.slice x4 k4 c4] 30)).alloc (.cells #[.slice none 0 0,.slice none 0 0,.slice none 0 0,.int .i64 0,.int .i64 0,.slice none 0 0,.int .i64 0] 46):=⟨_,rfl⟩
 rw[<-hW0, <-hp4]at X;have H0:=hd_ (show M w.heap.size w W0 [boxC p4 46 #[.slice none 0 0,.slice none 0 0,.slice none 0 0,.int .i64 0,.int .i64 0,.slice none 0 0,.int .i64 0],boxC p2 30 #[.slice x1 k1 c1,.slice x2 k2 c2,.slice x3 k3 c3,.slice x4 k4 c4]] by rw[hp2];exact X);clear X hn hes kf kl;go_enter Tryz.func21,Tryz.ntmps21;go_upto_region 1 with fail
 rw[<-hW0, <-hp4, <-hp2];clear hW0 hp4 hp2;have KN:=hd_ (imSumNew_at W0)
 go_wp2_with (go_at_call 77;refine KN.out.mono ?_;rintro r w1 ⟨V,rfl,ho,hb⟩;have h1:=(H0.out.sum hb ho).alloc #[.slice V.xr V.nr V.cr,.slice V.xf V.nf V.cf,.slice V.xt V.nt V.ct,.int .i64 newSm.lo,.int .i64 newSm.al,.slice V.xk V.nk V.ck,.int .i64 newSm.ka] 46;obtain⟨a0,a1,a2,a3⟩:=h1.p3.cells4;clear KN)
 obtain⟨p6,hp6⟩:∃p,p=w1.heap.size:=⟨_,rfl⟩
 obtain⟨W1,hW1⟩:∃W,W=w1.alloc (.cells #[.slice V.xr V.nr V.cr,.slice V.xf V.nf V.cf,.slice V.xt V.nt V.ct,.int .i64 newSm.lo,.int .i64 newSm.al,.slice V.xk V.nk V.ck,.int .i64 newSm.ka] 46):=⟨_,rfl⟩
 rw[<-hW1, <-hp6]at h1;have H1:=hd_ h1;clear h1 ho hb H0 a0 a1 a2 a3;rw[<-hW1, <-hp6];clear hW1 hp6;refine (KK.out _ H1.out.below).mono ?_;rintro r w2 ⟨y,cy,rfl,hm⟩;have H2:=hd_ (H1.out.plus hm).p2;obtain⟨ne,hne⟩:∃n,n=es.length:=⟨_,rfl⟩
 rw[<-hne]at H2 ⊢;have n5:ne<=5:=by rw[hne];exact KL.out
 have NE:=hd_ hne;clear hm H1 KK hne;go_wp2
 go_loopw [7,15] (fun b z wr=>∃(j:Nat) (V:SV) (s:Sm),j<=ne/\z=.int .i64 (j:Int)/\b=.bool (decide (0<j))/\s=sumK (es.take j)/\M w.heap.size w wr [sumR_frame.ch [.slice V.xr V.nr V.cr,.slice V.xf V.nf V.cf,.slice V.xt V.nt V.ct,.int .i64 s.lo,.int .i64 s.al,.slice V.xk V.nk V.ck,.int .i64 s.ka] s,knownC (.slice y ne cy) es,boxC p6 46 #[.slice V.xr V.nr V.cr,.slice V.xf V.nf V.cf,.slice V.xt V.nt V.ct,.int .i64 s.lo,.int .i64 s.al,.slice V.xk V.nk V.ck,.int .i64 s.ka],boxC p4 46 #[.slice none 0 0,.slice none 0 0,.slice none 0 0,.int .i64 0,.int .i64 0,.slice none 0 0,.int .i64 0]]) (fun _ z _=>ne - (intOf z).toNat)
 case atStart=>exact⟨0,V,newSm,Nat.zero_le _,rfl,rfl,rfl,H2.out.p4.drop⟩
 case round=>
  clear H2;obtain⟨j,V,s,hj,rfl,rfl,hs,hM⟩:=hrel;have H:=hd_ hM;have HS:=hd_ hs;clear hM hs
  by_cases hlt:j<ne
  ·obtain⟨e,he⟩:∃e,es[j]? =some e:=⟨_,List.getElem?_eq_getElem (by rw[<-NE.out];exact hlt)⟩
   obtain⟨fe,hfe⟩:=H.out.p1.knownR';obtain⟨g,Ve,_,rfl,_,_,sr,ca0,ca1,ca2,cas⟩:=known_at hfe he;obtain⟨st,jo⟩:=sumK_join KF.out KL.out he;have ca3:=cas 0 _ rfl;have ca4:=cas 1 _ rfl;have ca5:=cas 2 _ rfl;have ca6:=cas 3 _ rfl;have ca7:=cas 4 _ rfl;have ca8:=cas 5 _ rfl;have ca9:=cas 6 _ rfl;have j0:(0:Int)<=(j:Int):=by omega
   have j1:(j:Int)<(ne:Int):=by omega
   rw[<-HS.out]at st jo;have ST:=hd_ st;have JO:=hd_ jo;have h2:=H.out.alloc #[.int .i64 e.node,.int .i64 e.born,.int .i64 e.num,.slice Ve.xr Ve.nr Ve.cr,.slice Ve.xf Ve.nf Ve.cf,.slice Ve.xt Ve.nt Ve.ct,.int .i64 (e.s).lo,.int .i64 (e.s).al,.slice Ve.xk Ve.nk Ve.ck,.int .i64 (e.s).ka] 64;obtain⟨p9,hp9⟩:∃p,p=wr.heap.size:=⟨_,rfl⟩
   obtain⟨W,hW⟩:∃W',W'=wr.alloc (.cells #[.int .i64 e.node,.int .i64 e.born,.int .i64 e.num,.slice Ve.xr Ve.nr Ve.cr,.slice Ve.xf Ve.nf Ve.cf,.slice Ve.xt Ve.nt Ve.ct,.int .i64 (e.s).lo,.int .i64 (e.s).al,.slice Ve.xk Ve.nk Ve.ck,.int .i64 (e.s).ka] 64):=⟨_,rfl⟩
   have bW:Below wr.heap.size wr W:=by rw[hW];exact (Below.refl _ _).alloc lr_ _
   rw[<-hW, <-hp9]at h2;have H3:=hd_ h2;have KJ:=hd_ (imSumJoin_at W V Ve s e.s h2.p1.rdS (rds_of (sumR_frame.below sr bW lr_)));rw[jo, <-st]at KJ;clear h2 cas sr he hfe bW st jo H HS;go_upto_region 5 with fail
   rw[<-hW, <-hp9];clear hW hp9 ca0 ca1 ca2 ca3 ca4 ca5 ca6 ca7 ca8 ca9;obtain⟨d0,d1,d2,d3,d4,d5,d6,d7,d8,d9⟩:=H3.out.cells10;obtain⟨b0,b1,b2,b3,b4,b5,b6⟩:=H3.out.p3.cells7;obtain⟨s2,hs2⟩:∃s,s=sumK (es.take (j+1)):=⟨_,rfl⟩
   have ES:=hd_ hs2;rw[<-hs2]at KJ;clear hs2
   go_wp2_with fail
   refine KJ.out.mono ?_;rintro r2 w3 ⟨U,rfl,ho,hb⟩;have H4:=hd_ (H3.out.sum hb ho);clear ho hb KJ H3 d0 d1 d2 d3 d4 d5 d6 d7 d8 d9 b0 b1 b2 b3 b4 b5 b6
   go_wp2_with (refine wpList_mstore H4.out.p4 (vs:=[.slice U.xr U.nr U.cr,.slice U.xf U.nf U.cf,.slice U.xt U.nt U.ct,.int .i64 s2.lo,.int .i64 s2.al,.slice U.xk U.nk U.ck,.int .i64 s2.ka]) (ys:=#[.slice U.xr U.nr U.cr,.slice U.xf U.nf U.cf,.slice U.xt U.nt U.ct,.int .i64 s2.lo,.int .i64 s2.al,.slice U.xk U.nk U.ck,.int .i64 s2.ka]) rfl rfl rfl rfl sumI rfl (by simp) (by simp[putA]) ?_;intro w5 h5;have H5:=hd_ h5;clear h5 H4)
   go_roundw
   case rel=>exact⟨j+1,U,s2,by omega,by go_num,by simp,ES.out,(H5.out.p2.drop.p1.p2.drop.p2.p1)⟩
   case measure=>simp[intOf];omega
  ·obtain rfl:j=ne:=by omega
   have ST:Hid (es.take j=es):=hd_ (by rw[NE.out];exact List.take_length);rw[ST.out]at HS
   by_cases hz:j=0
   ·subst hz
    have F:Hid (o=none):=hd_ (OE.out.trans (if_pos NE.out.symm));have g0:decide (0<0)=false:=rfl;obtain⟨b0,b1,b2,b3,b4,b5,b6⟩:=H.out.p3.cells7
    go_wp2_with (refine wpList_mstore H.out.p3 (vs:=[.slice SV0.xr SV0.nr SV0.cr,.slice SV0.xf SV0.nf SV0.cf,.slice SV0.xt SV0.nt SV0.ct,.int .i64 noSm.lo,.int .i64 noSm.al,.slice SV0.xk SV0.nk SV0.ck,.int .i64 noSm.ka]) (ys:=#[.slice SV0.xr SV0.nr SV0.cr,.slice SV0.xf SV0.nf SV0.cf,.slice SV0.xt SV0.nt SV0.ct,.int .i64 noSm.lo,.int .i64 noSm.al,.slice SV0.xk SV0.nk SV0.ck,.int .i64 noSm.ka]) rfl rfl rfl rfl sumI rfl (by simp) (by simp[putA]) ?_;intro w5 h5;have H5:=hd_ h5;clear h5 H)
    obtain⟨e0,e1,e2,e3,e4,e5,e6⟩:=H5.out.cells7;rw[F.out]
    exact bodyPost_ret (v:=.tuple #[.agg #[.slice SV0.xr SV0.nr SV0.cr,.slice SV0.xf SV0.nf SV0.cf,.slice SV0.xt SV0.nt SV0.ct,.int .i64 noSm.lo,.int .i64 noSm.al,.slice SV0.xk SV0.nk SV0.ck,.int .i64 noSm.ka],.bool false]) (by simp[results,Tryz.results21,go_sem,e0,e1,e2,e3,e4,e5,e6]) rfl ⟨SV0,rfl,(H5.out.noSum.p1.drop.p1.drop.p1.drop.p1.drop)⟩
   ·have F:Hid (o=some (sumK es)):=hd_ (OE.out.trans (if_neg (by rw[<-NE.out];exact hz)))
    have g0:decide (0<j)=true:=decide_eq_true (by omega);rw[<-HS.out]at F;obtain⟨d0,d1,d2,d3,d4,d5,d6⟩:=H.out.p2.cells7
    go_wp2_with (refine wpList_mstore H.out.p3 (vs:=[.slice V.xr V.nr V.cr,.slice V.xf V.nf V.cf,.slice V.xt V.nt V.ct,.int .i64 s.lo,.int .i64 s.al,.slice V.xk V.nk V.ck,.int .i64 s.ka]) (ys:=#[.slice V.xr V.nr V.cr,.slice V.xf V.nf V.cf,.slice V.xt V.nt V.ct,.int .i64 s.lo,.int .i64 s.al,.slice V.xk V.nk V.ck,.int .i64 s.ka]) rfl rfl rfl rfl sumI rfl (by simp) (by simp[putA]) ?_;intro w5 h5;have H5:=hd_ h5;clear h5 H)
    obtain⟨e0,e1,e2,e3,e4,e5,e6⟩:=H5.out.cells7;rw[F.out];exact bodyPost_ret (v:=.tuple #[.agg #[.slice V.xr V.nr V.cr,.slice V.xf V.nf V.cf,.slice V.xt V.nt V.ct,.int .i64 s.lo,.int .i64 s.al,.slice V.xk V.nk V.ck,.int .i64 s.ka],.bool true]) (by simp[results,Tryz.results21,go_sem,e0,e1,e2,e3,e4,e5,e6]) rfl ⟨V,rfl,H5.out.drop.p1.drop.p1.drop⟩
end N
end Go.Proofs.YtcblbdpdbggkbaaGreat
namespace Go.Proofs.YtcblbdpdbggkbaaGreat
open Go
def headN:List Nat:=[104,97,114,110,101,115,115,32,52,55,98,57,53,55,48,102,50,98,49,100,51,51,53,98,53,100,50,48,54,100,54,102,56,51,54,55,51,53,54,51,55,57,57,55,97,54,48,97,97,98,102,52,99,52,99,102,101,97,55,52,48,48,52,51,98,52,55,100,99,48,98,55,32,99,117,116,32]
def tailN:List Nat:=[97,116,32,108,111,111,112,46,101,120,97,109,112,108,101,47,105,110,107,108,105,110,103,47,108,97,119,115,46,70,110,78,101,116,78,101,119,32,108,111,111,112,46,101,120,97,109,112,108,101,47,105,110,107,108,105,110,103,47,108,97,119,115,46,70,110,78,101,116,79,107,32,108,111,111,112,46,101,120,97,109,112,108,101,47,105,110,107,108,105,110,103,47,108,97,119,115,46,70,110,78,101,116,82,101,97,99,104,32,108,111,111,112,46,101,120,97,109,112,108,101,47,105,110,107,108,105,110,103,47,108,97,119,115,46,70,110,78,101,116,82,101,97,99,104,80,97,116,104,32,108,111,111,112,46,101,120,97,109,112,108,101,47,105,110,107,108,105,110,103,47,108,97,119,115,46,70,110,78,101,116,75,110,111,119,110,32,108,111,111,112,46,101,120,97,109,112,108,101,47,105,110,107,108,105,110,103,47,108,97,119,115,46,70,110,78,101,116,83,117,109,32,108,111,111,112,46,101,120,97,109,112,108,101,47,105,110,107,108,105,110,103,47,108,97,119,115,46,70,110,78,101,116,83,117,109,71,101,116,32,108,111,111,112,46,101,120,97,109,112,108,101,47,105,110,107,108,105,110,103,47,108,97,119,115,46,70,110,78,101,116,83,117,109,70,97,114,32,108,111,111,112,46,101,120,97,109,112,108,101,47,105,110,107,108,105,110,103,47,108,97,119,115,46,70,110,78,101,116,76,105,115,116,32,108,111,111,112,46,101,120,97,109,112,108,101,47,105,110,107,108,105,110,103,47,108,97,119,115,46,70,110,69,120,97,99,116,78,101,116,79,107,32,108,111,111,112,46,101,120,97,109,112,108,101,47,105,110,107,108,105,110,103,47,108,97,119,115,46,70,110,69,120,97,99,116,78,101,116,82,101,97,99,104,32,108,111,111,112,46,101,120,97,109,112,108,101,47,105,110,107,108,105,110,103,47,108,97,119,115,46,70,110,69,120,97,99,116,78,101,116,75,110,111,119,110,32,108,111,111,112,46,101,120,97,109,112,108,101,47,105,110,107,108,105,110,103,47,108,97,119,115,46,70,110,69,120,97,99,116,78,101,116,83,117,109,32,108,111,111,112,46,101,120,97,109,112,108,101,47,105,110,107,108,105,110,103,47,108,97,119,115,46,70,110,69,120,97,99,116,78,101,116,76,105,115,116]
theorem a1:Tryz.prog.initOrder=String.ofList (headN.map Char.ofNat++tailN.map Char.ofNat):=by kernel_rfl
theorem a2:Tryz.prog.initOrder.toList=headN.map Char.ofNat++tailN.map Char.ofNat:=by rw[a1,String.toList_ofList]
theorem a3 (t:List Char):behindMainWord (wordsSigns (headN.map Char.ofNat++t))= "cut".toList::wordsSigns t:=by kernel_rfl
theorem bm:∃X,behindMainWord (wordsSigns Tryz.prog.initOrder.toList)= "cut".toList::X:=⟨_,by rw[a2,a3]⟩
theorem may_of {P:Program} {c:List Char} {rest:List (List Char)} (h:behindMainWord (wordsSigns P.initOrder.toList)=c::rest):P.mayEnter=
  (((c== "gc".toList || c== "spec".toList)&&(rest.isEmpty || rest.head? ==some "stop".toList)) ||
    (c== "carried".toList&&rest.take 2==["gc".toList, "cut".toList]&& !P.laysLater&& !P.bearsReflect) ||
    ((stripLifts liftWords (c::rest)).2.head? ==some "cut".toList&&
      ((stripLifts liftWords (c::rest)).1.contains "finals" || !P.laysLater)&&((stripLifts liftWords (c::rest)).1.contains "reflectrows" || !P.bearsReflect)&&
      ((stripLifts liftWords (c::rest)).1.contains "reflectrows" || !(stripLifts liftWords (c::rest)).1.contains "leanrows")&&
      P.doorFits (stripLifts liftWords (c::rest)).1)):=by
 unfold Program.mayEnter;rw[h]
theorem lift_of {P:Program} {c:List Char} {rest:List (List Char)} (h:behindMainWord (wordsSigns P.initOrder.toList)=c::rest):P.headLifts=if (stripLifts liftWords (c::rest)).2.head? ==some "cut".toList then (stripLifts liftWords (c::rest)).1 else []:=by
 unfold Program.headLifts;rw[h]
theorem strip (X:List (List Char)):stripLifts liftWords ("cut".toList::X)=([], "cut".toList::X):=by kernel_rfl
theorem make_of {P:Program} {rest:List (List Char)} (h:behindMainWord (wordsSigns P.initOrder.toList)= "cut".toList::rest):P.make=some .cut:=by
 unfold Program.make;rw[h];kernel_rfl
theorem may_cut {P:Program} {rest:List (List Char)} (h:behindMainWord (wordsSigns P.initOrder.toList)= "cut".toList::rest) (h1:P.laysLater=false) (h2:P.bearsReflect=false) (h3:P.doorFits []=true):P.mayEnter=true:=by
 rw[may_of h,strip,h1,h2,h3];kernel_rfl
theorem final_cut {P:Program} {rest:List (List Char)} (h:behindMainWord (wordsSigns P.initOrder.toList)= "cut".toList::rest):P.liftsFinal=false:=by
 unfold Program.liftsFinal;rw[lift_of h,h,strip];kernel_rfl
theorem lays0:Tryz.prog.laysLater=false:=by kernel_rfl
theorem refl0:Tryz.prog.bearsReflect=false:=by kernel_rfl
theorem door0:Tryz.prog.doorFits []=true:=by kernel_rfl
theorem mayE:Tryz.prog.mayEnter=true:=by
 obtain⟨X,h⟩:=bm;exact may_cut h lays0 refl0 door0
theorem liftF:Tryz.prog.liftsFinal=false:=by
 obtain⟨X,h⟩:=bm;exact final_cut h
theorem makeC:Tryz.prog.make=some .cut:=by
 obtain⟨X,h⟩:=bm;exact make_of h
end Go.Proofs.YtcblbdpdbggkbaaGreat
