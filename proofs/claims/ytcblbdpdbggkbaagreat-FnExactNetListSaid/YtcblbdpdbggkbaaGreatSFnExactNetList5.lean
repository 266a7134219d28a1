/-
  What the law FnExactNetList needs of the texts before it, part 5.
-/
import Derived.Carry
import Derived.Deep.DeepCutAuto
import Derived.Handy
import Derived.KernelRfl
import Derived.Maps.Own
import Derived.Test.YtcblbdpdbggkbaaGreatSFnExactNetList4
set_option maxRecDepth 100000
set_option maxHeartbeats 16000000
set_option linter.unusedVariables false
set_option linter.unusedSectionVars false
set_option linter.unusedSimpArgs false
set_option linter.unusedVariables false
set_option linter.unusedSectionVars false
set_option linter.unusedSimpArgs false
namespace Go.Proofs.YtcblbdpdbggkbaaGreat
open Go.RowKit Go.ChangeShapes Go.WideShapes Go.ChangeAt Go.Deep Go.Joins
namespace N
section
variable {H:Type} {enc:TypeId × Value->H} {w:World}
theorem opens_entry:Opens enc Tryz.prog w 183 entryA:=
 opens_via (opens_four Tryz.underlying183 rfl rfl rfl rfl (s0:=1) (s1:=1) (s2:=1) (s3:=7) (by kernel_rfl) (by kernel_rfl) (by kernel_rfl) (by kernel_rfl) (by kernel_rfl) (opens_int Tryz.underlying3) (opens_int Tryz.underlying3) (opens_int Tryz.underlying3) opens_sum) _ (fun p=>⟨p.1,p.2.1,p.2.2.1,p.2.2.2⟩) fun _=>rfl
theorem opens_known:Opens enc Tryz.prog w 88 knownA:=opens_slice Tryz.underlying88 (by kernel_rfl) (by decide) opens_entry
theorem opens_node:Opens enc Tryz.prog w 220 nodeA:=
 opens_via (opens_five Tryz.underlying220 rfl rfl rfl rfl rfl (s0:=1) (s1:=1) (s2:=1) (s3:=1) (s4:=1) (by kernel_rfl) (by kernel_rfl) (by kernel_rfl) (by kernel_rfl) (by kernel_rfl) (by kernel_rfl) (opens_int Tryz.underlying3) opens_known (opens_int Tryz.underlying3) (opens_int Tryz.underlying3) (opens_int Tryz.underlying3)) _ (fun p=>⟨p.1,p.2.1,p.2.2.1,p.2.2.2.1,p.2.2.2.2⟩) fun _=>rfl
theorem opens_word:Opens enc Tryz.prog w 223 wordA:=
 opens_via (opens_six Tryz.underlying223 rfl rfl rfl rfl rfl rfl (s0:=1) (s1:=1) (s2:=1) (s3:=1) (s4:=1) (s5:=1) (by kernel_rfl) (by kernel_rfl) (by kernel_rfl) (by kernel_rfl) (by kernel_rfl) (by kernel_rfl) (by kernel_rfl) (opens_int Tryz.underlying3) (opens_int Tryz.underlying3) (opens_int Tryz.underlying3) (opens_int Tryz.underlying3) (opens_int Tryz.underlying3) opens_known) _ (fun p=>⟨p.1,p.2.1,p.2.2.1,p.2.2.2.1,p.2.2.2.2.1,p.2.2.2.2.2⟩) fun _=>rfl
theorem opens_past:Opens enc Tryz.prog w 28 pastA:=opens_slice Tryz.underlying28 (by kernel_rfl) (by decide) (opens_slice Tryz.underlying34 (by kernel_rfl) (by decide) (opens_slice Tryz.underlying23 (by kernel_rfl) (by decide) (opens_int Tryz.underlying3)))
theorem opens_net:Opens enc Tryz.prog w 80 netA:=
 opens_via (opens_four Tryz.underlying80 rfl rfl rfl rfl (s0:=1) (s1:=1) (s2:=1) (s3:=1) (by kernel_rfl) (by kernel_rfl) (by kernel_rfl) (by kernel_rfl) (by kernel_rfl) (opens_slice Tryz.underlying77 (by kernel_rfl) (by decide) opens_node) (opens_slice Tryz.underlying26 (by kernel_rfl) (by decide) (opens_bool Tryz.underlying4)) (opens_slice Tryz.underlying78 (by kernel_rfl) (by decide) opens_word) opens_past) _ (fun p=>⟨p.1,p.2.1,p.2.2.1,p.2.2.2⟩) fun _=>rfl
end
structure NV where
 x1:Option Addr
 k1:Nat
 c1:Nat
 x2:Option Addr
 k2:Nat
 c2:Nat
 x3:Option Addr
 k3:Nat
 c3:Nat
 x4:Option Addr
 k4:Nat
 c4:Nat
def ArgN (w:World) (V:NV) (n:Nt):Prop:=netA w [.slice V.x1 V.k1 V.c1,.slice V.x2 V.k2 V.c2,.slice V.x3 V.k3 V.c3,.slice V.x4 V.k4 V.c4] n
def ArgK (w:World) (v:Value) (es:List En):Prop:=knownA w [v] es
theorem open_net {H:Type} {enc:TypeId × Value->H} {w:World} {r:Reach} {b0:Nat} {v:Value} {d:DataW H} {p:List MemPlace} (hv:Value.okWide Tryz.prog w r b0 80 v)
  (h:DataW.Trod enc Tryz.prog w 0 (fun _=>true) true 80 v d p):∃V n,v=.agg #[.slice V.x1 V.k1 V.c1,.slice V.x2 V.k2 V.c2,.slice V.x3 V.k3 V.c3,.slice V.x4 V.k4 V.c4]/\ArgN w V n:=by
 obtain⟨cs,rfl,_⟩:=okWide_struct Tryz.underlying80 hv;obtain⟨fuel,hf⟩:=h;obtain⟨n,hn⟩:=opens_net fuel _ _ hf;obtain⟨v1,v2,v3,v4,ec,h1,h2,h3,h4⟩:=netA_iff.1 hn;obtain⟨x1,c1,e1,_⟩:=slcA_form h1;obtain⟨x2,c2,e2,_⟩:=slcA_form h2;obtain⟨x3,c3,e3,_⟩:=slcA_form h3;obtain⟨x4,c4,e4,_⟩:=slcA_form h4;cases e1;cases e2;cases e3;cases e4;have ec':cs.toList=_:=ec;obtain⟨cs⟩:=cs;simp only at ec';subst ec'
 exact⟨⟨x1,_,c1,x2,_,c2,x3,_,c3,x4,_,c4⟩,n,rfl,hn⟩
theorem open_knownV {H:Type} {enc:TypeId × Value->H} {w:World} {r:Reach} {b0:Nat} {v:Value} {d:DataW H} {p:List MemPlace} (hv:Value.okWide Tryz.prog w r b0 88 v)
  (h:DataW.Trod enc Tryz.prog w 0 (fun _=>true) true 88 v d p):∃es,ArgK w v es:=by
 obtain⟨a0,l0,c0,rfl⟩:=okWide_slice Tryz.underlying88 hv;obtain⟨fuel,hf⟩:=h;exact opens_known fuel _ _ hf
end N
end Go.Proofs.YtcblbdpdbggkbaaGreat
set_option linter.unusedVariables false
set_option linter.unusedSectionVars false
set_option linter.unusedSimpArgs false
namespace Go.Proofs.YtcblbdpdbggkbaaGreat
open Go.RowKit Go.Sort
namespace N
def LenEs (es:List En):Prop:=∀e ∈ es,LenS e.s
def LenNs (ns:List Nd):Prop:=∀x ∈ ns,LenEs x.known
def LenWs (ws:List Wd):Prop:=∀x ∈ ws,LenEs x.known
theorem eqEntry_same (w:World) (V1 V2:SV) (e:En) {f1 f2:List Nat} (h1:sumR w [.slice V1.xr V1.nr V1.cr,.slice V1.xf V1.nf V1.cf,.slice V1.xt V1.nt V1.ct,.int .i64 (e.s).lo,.int .i64 (e.s).al,.slice V1.xk V1.nk V1.ck,.int .i64 (e.s).ka] e.s f1) (h2:sumR w [.slice V2.xr V2.nr V2.cr,.slice V2.xf V2.nf V2.cf,.slice V2.xt V2.nt V2.ct,.int .i64 (e.s).lo,.int .i64 (e.s).al,.slice V2.xk V2.nk V2.ck,.int .i64 (e.s).ka] e.s f2) (hl:LenS e.s):
  Calls Tryz.prog 128 #[.agg #[.int .i64 e.node,.int .i64 e.born,.int .i64 e.num,.slice V1.xr V1.nr V1.cr,.slice V1.xf V1.nf V1.cf,.slice V1.xt V1.nt V1.ct,.int .i64 (e.s).lo,.int .i64 (e.s).al,.slice V1.xk V1.nk V1.ck,.int .i64 (e.s).ka],.agg #[.int .i64 e.node,.int .i64 e.born,.int .i64 e.num,.slice V2.xr V2.nr V2.cr,.slice V2.xf V2.nf V2.cf,.slice V2.xt V2.nt V2.ct,.int .i64 (e.s).lo,.int .i64 (e.s).al,.slice V2.xk V2.nk V2.ck,.int .i64 (e.s).ka]] w fun r w'=>r=.returned (.bool true)/\Below w.heap.size w w':=by
 obtain⟨i,bo,nu,s⟩:=e;simp only at h1 h2 hl ⊢
 have H:=hd_ (((M.start w).alloc #[.int .i64 i,.int .i64 bo,.int .i64 nu,.slice V1.xr V1.nr V1.cr,.slice V1.xf V1.nf V1.cf,.slice V1.xt V1.nt V1.ct,.int .i64 s.lo,.int .i64 s.al,.slice V1.xk V1.nk V1.ck,.int .i64 s.ka] 64).alloc #[.int .i64 i,.int .i64 bo,.int .i64 nu,.slice V2.xr V2.nr V2.cr,.slice V2.xf V2.nf V2.cf,.slice V2.xt V2.nt V2.ct,.int .i64 s.lo,.int .i64 s.al,.slice V2.xk V2.nk V2.ck,.int .i64 s.ka] 64)
 obtain⟨U1,e1,r1⟩:=sumR_rd (sumR_frame.below h1 H.out.below lr_);obtain⟨U2,e2,r2⟩:=sumR_rd (sumR_frame.below h2 H.out.below lr_);have K:=hd_ (eqSum_at _ U1 U2 s r1 r2 hl);simp only[List.cons.injEq,Value.slice.injEq,true_and,and_true]at e1 e2;obtain⟨⟨a1,a2,a3⟩,⟨a4,a5,a6⟩,⟨a7,a8,a9⟩,a10,a11,a12⟩:=e1;obtain⟨⟨b1,b2,b3⟩,⟨b4,b5,b6⟩,⟨b7,b8,b9⟩,b10,b11,b12⟩:=e2
 rw[<-a1, <-a2, <-a3, <-a4, <-a5, <-a6, <-a7, <-a8, <-a9, <-a10, <-a11, <-a12, <-b1, <-b2, <-b3, <-b4, <-b5, <-b6, <-b7, <-b8, <-b9, <-b10, <-b11, <-b12]at K;clear a1 a2 a3 a4 a5 a6 a7 a8 a9 a10 a11 a12 b1 b2 b3 b4 b5 b6 b7 b8 b9 b10 b11 b12 r1 r2 h1 h2 hl;obtain⟨c0,c1,c2,c3,c4,c5,c6,c7,c8,c9⟩:=H.out.p1.cells10;obtain⟨d0,d1,d2,d3,d4,d5,d6,d7,d8,d9⟩:=H.out.cells10
 simp only[World.size_alloc]at d0 d1 d2 d3 d4 d5 d6 d7 d8 d9;go_enter Tryz.func128,Tryz.ntmps128
 go_wp2_with fail
 refine K.out.mono ?_;rintro r w1 ⟨rfl,hb⟩;have H1:=hd_ (H.out.later hb);clear K hb c0 c1 c2 c3 c4 c5 c6 c7 c8 c9 d0 d1 d2 d3 d4 d5 d6 d7 d8 d9 H;go_wp2;go_ret;exact⟨rfl,H1.out.below⟩
theorem eqEntryS_same (w:World) {x1 x2:Option Addr} {n m c1 c2:Nat} {xs:List En} {f1 f2:List Nat} (h1:knownR TY w [.slice x1 n c1] xs f1) (h2:knownR TY w [.slice x2 m c2] xs f2) (hl:LenEs xs):
  Calls Tryz.prog 55 #[.slice x1 n c1,.slice x2 m c2] w fun r w'=>r=.returned (.bool true)/\Below w.heap.size w w':=by
 obtain rfl:n=xs.length:=(slcR_row h1).1;obtain rfl:m=xs.length:=(slcR_row h2).1;obtain⟨_,_,e1,q1,q2⟩:=slcR_value h1;have hm:xs.length<=maxLen:=Nat.le_trans q1 q2;unfold maxLen at hm;clear e1 q1 q2;have H1:=hd_ h1;have H2:=hd_ h2;have HL:=hd_ hl;have n0:((xs.length:Int) != (xs.length:Int))=false:=by simp
 clear h1 h2 hl;go_enter Tryz.func55,Tryz.ntmps55;go_wp2;go_loopw [5] (fun i wr=>∃k:Nat,k<=xs.length/\i=.int .i64 k/\Below w.heap.size w wr) (fun i _=>xs.length - (intOf i).toNat)
 case atStart=>exact⟨0,Nat.zero_le _,rfl,Below.refl _ _⟩
 case round=>
  obtain⟨k,hk,rfl,hb⟩:=hrel;have HB:=hd_ hb;clear hb
  by_cases hlt:k<xs.length
  ·obtain⟨a,ha⟩:∃a,xs[k]? =some a:=⟨_,List.getElem?_eq_getElem hlt⟩
   have k0:(0:Int)<=(k:Int):=by omega
   have k1:(k:Int)<(xs.length:Int):=by omega
   obtain⟨g1,V1,p1,rfl,q1,_,r1,ca0,ca1,ca2,cas⟩:=known_at H1.out ha;obtain⟨g2,V2,p2,rfl,q2,_,r2,cb0,cb1,cb2,cbs⟩:=known_at H2.out ha;have ca3:=cas 0 _ rfl;have ca4:=cas 1 _ rfl;have ca5:=cas 2 _ rfl;have ca6:=cas 3 _ rfl;have ca7:=cas 4 _ rfl;have ca8:=cas 5 _ rfl;have ca9:=cas 6 _ rfl;have cb3:=cbs 0 _ rfl;have cb4:=cbs 1 _ rfl;have cb5:=cbs 2 _ rfl;have cb6:=cbs 3 _ rfl;have cb7:=cbs 4 _ rfl
   have cb8:=cbs 5 _ rfl;have cb9:=cbs 6 _ rfl;have R1:=hd_ r1;have R2:=hd_ r2;clear cas cbs r1 r2 q1 q2;have LA:=hd_ (HL.out a (List.mem_of_getElem? ha));clear ha
   have SS:=hd_ (fun w' (hb:Below w.heap.size w w')=>show w'.cell? ⟨g1,k * 10,none⟩=some (.int .i64 a.node)/\w'.cell? ⟨g1,k * 10+1,none⟩=some (.int .i64 a.born)/\w'.cell? ⟨g1,k * 10+2,none⟩=some (.int .i64 a.num)/\w'.cell? ⟨g1,k * 10+3,none⟩=some (.slice V1.xr V1.nr V1.cr)/\w'.cell? ⟨g1,k * 10+4,none⟩=some (.slice V1.xf V1.nf V1.cf)/\w'.cell? ⟨g1,k * 10+5,none⟩=some (.slice V1.xt V1.nt V1.ct)/\w'.cell? ⟨g1,k * 10+6,none⟩=some (.int .i64 a.s.lo)/\w'.cell? ⟨g1,k * 10+7,none⟩=some (.int .i64 a.s.al)/\w'.cell? ⟨g1,k * 10+8,none⟩=some (.slice V1.xk V1.nk V1.ck)/\w'.cell? ⟨g1,k * 10+9,none⟩=some (.int .i64 a.s.ka)/\w'.cell? ⟨g2,k * 10,none⟩=some (.int .i64 a.node)/\w'.cell? ⟨g2,k * 10+1,none⟩=some (.int .i64 a.born)/\w'.cell? ⟨g2,k * 10+2,none⟩=some (.int .i64 a.num)/\w'.cell? ⟨g2,k * 10+3,none⟩=some (.slice V2.xr V2.nr V2.cr)/\w'.cell? ⟨g2,k * 10+4,none⟩=some (.slice V2.xf V2.nf V2.cf)/\w'.cell? ⟨g2,k * 10+5,none⟩=some (.slice V2.xt V2.nt V2.ct)/\w'.cell? ⟨g2,k * 10+6,none⟩=some (.int .i64 a.s.lo)/\w'.cell? ⟨g2,k * 10+7,none⟩=some (.int .i64 a.s.al)/\w'.cell? ⟨g2,k * 10+8,none⟩=some (.slice V2.xk V2.nk V2.ck)/\w'.cell? ⟨g2,k * 10+9,none⟩=some (.int .i64 a.s.ka)from⟨cell_later hb ca0,cell_later hb ca1,cell_later hb ca2,cell_later hb ca3,cell_later hb ca4,cell_later hb ca5,cell_later hb ca6,cell_later hb ca7,cell_later hb ca8,cell_later hb ca9,cell_later hb cb0,cell_later hb cb1,cell_later hb cb2,cell_later hb cb3,cell_later hb cb4,cell_later hb cb5,cell_later hb cb6,cell_later hb cb7,cell_later hb cb8,cell_later hb cb9⟩)
   clear ca0 ca1 ca2 ca3 ca4 ca5 ca6 ca7 ca8 ca9 cb0 cb1 cb2 cb3 cb4 cb5 cb6 cb7 cb8 cb9;go_wp2
   refine wp_region_plan 99 (.tk 0 8 (.alt 8 (.take 9 .done) .nomore)) (fun w'=>w'.cell? ⟨g1,k * 10,none⟩=some (.int .i64 a.node)/\w'.cell? ⟨g1,k * 10+1,none⟩=some (.int .i64 a.born)/\w'.cell? ⟨g1,k * 10+2,none⟩=some (.int .i64 a.num)/\w'.cell? ⟨g1,k * 10+3,none⟩=some (.slice V1.xr V1.nr V1.cr)/\w'.cell? ⟨g1,k * 10+4,none⟩=some (.slice V1.xf V1.nf V1.cf)/\w'.cell? ⟨g1,k * 10+5,none⟩=some (.slice V1.xt V1.nt V1.ct)/\w'.cell? ⟨g1,k * 10+6,none⟩=some (.int .i64 a.s.lo)/\w'.cell? ⟨g1,k * 10+7,none⟩=some (.int .i64 a.s.al)/\w'.cell? ⟨g1,k * 10+8,none⟩=some (.slice V1.xk V1.nk V1.ck)/\w'.cell? ⟨g1,k * 10+9,none⟩=some (.int .i64 a.s.ka)/\w'.cell? ⟨g2,k * 10,none⟩=some (.int .i64 a.node)/\w'.cell? ⟨g2,k * 10+1,none⟩=some (.int .i64 a.born)/\w'.cell? ⟨g2,k * 10+2,none⟩=some (.int .i64 a.num)/\w'.cell? ⟨g2,k * 10+3,none⟩=some (.slice V2.xr V2.nr V2.cr)/\w'.cell? ⟨g2,k * 10+4,none⟩=some (.slice V2.xf V2.nf V2.cf)/\w'.cell? ⟨g2,k * 10+5,none⟩=some (.slice V2.xt V2.nt V2.ct)/\w'.cell? ⟨g2,k * 10+6,none⟩=some (.int .i64 a.s.lo)/\w'.cell? ⟨g2,k * 10+7,none⟩=some (.int .i64 a.s.al)/\w'.cell? ⟨g2,k * 10+8,none⟩=some (.slice V2.xk V2.nk V2.ck)/\w'.cell? ⟨g2,k * 10+9,none⟩=some (.int .i64 a.s.ka)) (by kernel_rfl) (by kernel_rfl) (fun _ _ _ _ _ h=>h) (SS.out _ HB.out.drew) ?_
   have HD:=hd_ HB.out.drew;clear HB;generalize wr.drew=w3 at HD ⊢
   repeat ((first|(refine plan_take (by rfl) (by rfl) ?_;apply Exists.intro;refine⟨fun w' hw'=>?_,?_⟩;(· ((try dsimp only at hw');go_simp;(try with_reducible rfl))))|(refine plan_skip (by rfl) (by rfl) ?_));simp only[Act.put,List.getElem_toArray,List.getElem_cons_succ,pg3,pg4,pg5,pg6])
   refine plan_last (by rfl) (fun K hK=>?_);go_simp;refine (eqEntry_same _ V1 V2 a (sumR_frame.below R1.out HD.out lr_) (sumR_frame.below R2.out HD.out lr_) LA.out).mono ?_;rintro r w4 ⟨rfl,hb⟩;have HE:=hd_ (HD.out.trans (hb.mono HD.out.size));clear hb;refine hK _ _ (.inr (SS.out _ HE.out)) ?_;clear hK K
   try simp only[Act.put,List.getElem_toArray,List.getElem_cons_succ,pg3,pg4,pg5,pg6]
   repeat ((first|(refine plan_take (by rfl) (by rfl) ?_;apply Exists.intro;refine⟨fun w' hw'=>?_,?_⟩;(· ((try dsimp only at hw');go_simp;(try with_reducible rfl))))|(refine plan_skip (by rfl) (by rfl) ?_));simp only[Act.put,List.getElem_toArray,List.getElem_cons_succ,pg3,pg4,pg5,pg6])
   refine plan_done ?_;clear SS HD;go_wp2;go_roundw
   case rel=>exact⟨k+1,hlt,by go_num,HE.out⟩
   case measure=>simp[intOf];omega
  ·go_wp2
   go_ret;exact⟨rfl,HB.out⟩
theorem eqNode_same (w:World) {a:Nd} {x1 x2:Option Addr} {n1 n2 c1 c2:Nat} {f1 f2:List Nat} (h1:knownR TY w [.slice x1 n1 c1] a.known f1) (h2:knownR TY w [.slice x2 n2 c2] a.known f2) (hl:LenEs a.known):
  Calls Tryz.prog 188 #[.agg #[.int .i64 a.born,.slice x1 n1 c1,.int .i64 a.beacon,.int .i64 a.level,.int .i64 a.up],.agg #[.int .i64 a.born,.slice x2 n2 c2,.int .i64 a.beacon,.int .i64 a.level,.int .i64 a.up]] w fun r w'=>r=.returned (.bool true)/\Below w.heap.size w w':=by
 have H:=hd_ (((M.start w).alloc #[.int .i64 a.born,.slice x1 n1 c1,.int .i64 a.beacon,.int .i64 a.level,.int .i64 a.up] 55).alloc #[.int .i64 a.born,.slice x2 n2 c2,.int .i64 a.beacon,.int .i64 a.level,.int .i64 a.up] 55);have R1:=hd_ h1;have R2:=hd_ h2;have HL:=hd_ hl;clear h1 h2 hl;obtain⟨c0,c1,c2,c3,c4⟩:=H.out.p1.cells5;obtain⟨d0,d1,d2,d3,d4⟩:=H.out.cells5
 simp only[World.size_alloc]at d0 d1 d2 d3 d4;go_enter Tryz.func188,Tryz.ntmps188
 go_wp2_with fail
 refine (eqEntryS_same _ (knownR_frame.below R1.out H.out.below lr_) (knownR_frame.below R2.out H.out.below lr_) HL.out).mono ?_;rintro r w1 ⟨rfl,hb⟩;have H1:=hd_ (H.out.later hb);clear hb c0 c1 c2 c3 c4 d0 d1 d2 d3 d4;obtain⟨c0,c1,c2,c3,c4⟩:=H1.out.p1.cells5;obtain⟨d0,d1,d2,d3,d4⟩:=H1.out.cells5;simp only[World.size_alloc]at d0 d1 d2 d3 d4;go_wp2;go_ret;exact⟨rfl,H1.out.below⟩
theorem eqNodeS_same (w:World) {x1 x2:Option Addr} {n m c1 c2:Nat} {xs:List Nd} {f1 f2:List Nat} (h1:nodesR TY w [.slice x1 n c1] xs f1) (h2:nodesR TY w [.slice x2 m c2] xs f2) (hl:LenNs xs):
  Calls Tryz.prog 120 #[.slice x1 n c1,.slice x2 m c2] w fun r w'=>r=.returned (.bool true)/\Below w.heap.size w w':=by
 obtain rfl:n=xs.length:=(slcR_row h1).1;obtain rfl:m=xs.length:=(slcR_row h2).1;obtain⟨_,_,e1,q1,q2⟩:=slcR_value h1;have hm:xs.length<=maxLen:=Nat.le_trans q1 q2;unfold maxLen at hm;clear e1 q1 q2;have H1:=hd_ h1;have H2:=hd_ h2;have HL:=hd_ hl;have n0:((xs.length:Int) != (xs.length:Int))=false:=by simp
 clear h1 h2 hl;go_enter Tryz.func120,Tryz.ntmps120;go_wp2;go_loopw [5] (fun i wr=>∃k:Nat,k<=xs.length/\i=.int .i64 k/\Below w.heap.size w wr) (fun i _=>xs.length - (intOf i).toNat)
 case atStart=>exact⟨0,Nat.zero_le _,rfl,Below.refl _ _⟩
 case round=>
  obtain⟨k,hk,rfl,hb⟩:=hrel;have HB:=hd_ hb;clear hb
  by_cases hlt:k<xs.length
  ·obtain⟨a,ha⟩:∃a,xs[k]? =some a:=⟨_,List.getElem?_eq_getElem hlt⟩
   have k0:(0:Int)<=(k:Int):=by omega
   have k1:(k:Int)<(xs.length:Int):=by omega
   obtain⟨g1,y1,d1,p1,rfl,q1,_,r1,_,_,ca0,ca1,ca2,ca3,ca4⟩:=node_at H1.out ha;obtain⟨g2,y2,d2,p2,rfl,q2,_,r2,_,_,cb0,cb1,cb2,cb3,cb4⟩:=node_at H2.out ha;have R1:=hd_ r1;have R2:=hd_ r2;clear r1 r2 q1 q2;have LA:=hd_ (HL.out a (List.mem_of_getElem? ha));clear ha
   have SS:=hd_ (fun w' (hb:Below w.heap.size w w')=>show w'.cell? ⟨g1,k * 5,none⟩=some (.int .i64 a.born)/\w'.cell? ⟨g1,k * 5+1,none⟩=some (.slice y1 a.known.length d1)/\w'.cell? ⟨g1,k * 5+2,none⟩=some (.int .i64 a.beacon)/\w'.cell? ⟨g1,k * 5+3,none⟩=some (.int .i64 a.level)/\w'.cell? ⟨g1,k * 5+4,none⟩=some (.int .i64 a.up)/\w'.cell? ⟨g2,k * 5,none⟩=some (.int .i64 a.born)/\w'.cell? ⟨g2,k * 5+1,none⟩=some (.slice y2 a.known.length d2)/\w'.cell? ⟨g2,k * 5+2,none⟩=some (.int .i64 a.beacon)/\w'.cell? ⟨g2,k * 5+3,none⟩=some (.int .i64 a.level)/\w'.cell? ⟨g2,k * 5+4,none⟩=some (.int .i64 a.up)from⟨cell_later hb ca0,cell_later hb ca1,cell_later hb ca2,cell_later hb ca3,cell_later hb ca4,cell_later hb cb0,cell_later hb cb1,cell_later hb cb2,cell_later hb cb3,cell_later hb cb4⟩)
   clear ca0 ca1 ca2 ca3 ca4 cb0 cb1 cb2 cb3 cb4;go_wp2
   refine wp_region_plan 99 (.tk 0 8 (.alt 8 (.take 9 .done) .nomore)) (fun w'=>w'.cell? ⟨g1,k * 5,none⟩=some (.int .i64 a.born)/\w'.cell? ⟨g1,k * 5+1,none⟩=some (.slice y1 a.known.length d1)/\w'.cell? ⟨g1,k * 5+2,none⟩=some (.int .i64 a.beacon)/\w'.cell? ⟨g1,k * 5+3,none⟩=some (.int .i64 a.level)/\w'.cell? ⟨g1,k * 5+4,none⟩=some (.int .i64 a.up)/\w'.cell? ⟨g2,k * 5,none⟩=some (.int .i64 a.born)/\w'.cell? ⟨g2,k * 5+1,none⟩=some (.slice y2 a.known.length d2)/\w'.cell? ⟨g2,k * 5+2,none⟩=some (.int .i64 a.beacon)/\w'.cell? ⟨g2,k * 5+3,none⟩=some (.int .i64 a.level)/\w'.cell? ⟨g2,k * 5+4,none⟩=some (.int .i64 a.up)) (by kernel_rfl) (by kernel_rfl) (fun _ _ _ _ _ h=>h) (SS.out _ HB.out.drew) ?_
   have HD:=hd_ HB.out.drew;clear HB;generalize wr.drew=w3 at HD ⊢
   repeat ((first|(refine plan_take (by rfl) (by rfl) ?_;apply Exists.intro;refine⟨fun w' hw'=>?_,?_⟩;(· ((try dsimp only at hw');go_simp;(try with_reducible rfl))))|(refine plan_skip (by rfl) (by rfl) ?_));simp only[Act.put,List.getElem_toArray,List.getElem_cons_succ,pg3,pg4,pg5,pg6])
   refine plan_last (by rfl) (fun K hK=>?_);go_simp;refine (eqNode_same _ (knownR_frame.below R1.out HD.out lr_) (knownR_frame.below R2.out HD.out lr_) LA.out).mono ?_;rintro r w4 ⟨rfl,hb⟩;have HE:=hd_ (HD.out.trans (hb.mono HD.out.size));clear hb;refine hK _ _ (.inr (SS.out _ HE.out)) ?_;clear hK K
   try simp only[Act.put,List.getElem_toArray,List.getElem_cons_succ,pg3,pg4,pg5,pg6]
   repeat ((first|(refine plan_take (by rfl) (by rfl) ?_;apply Exists.intro;refine⟨fun w' hw'=>?_,?_⟩;(· ((try dsimp only at hw');go_simp;(try with_reducible rfl))))|(refine plan_skip (by rfl) (by rfl) ?_));simp only[Act.put,List.getElem_toArray,List.getElem_cons_succ,pg3,pg4,pg5,pg6])
   refine plan_done ?_;clear SS HD;go_wp2;go_roundw
   case rel=>exact⟨k+1,hlt,by go_num,HE.out⟩
   case measure=>simp[intOf];omega
  ·go_wp2
   go_ret;exact⟨rfl,HB.out⟩
theorem eqWord_same (w:World) {a:Wd} {x1 x2:Option Addr} {n1 n2 c1 c2:Nat} {f1 f2:List Nat} (h1:knownR TY w [.slice x1 n1 c1] a.known f1) (h2:knownR TY w [.slice x2 n2 c2] a.known f2) (hl:LenEs a.known):
  Calls Tryz.prog 189 #[.agg #[.int .i64 a.kind,.int .i64 a.src,.int .i64 a.dst,.int .i64 a.beacon,.int .i64 a.level,.slice x1 n1 c1],.agg #[.int .i64 a.kind,.int .i64 a.src,.int .i64 a.dst,.int .i64 a.beacon,.int .i64 a.level,.slice x2 n2 c2]] w fun r w'=>r=.returned (.bool true)/\Below w.heap.size w w':=by
 have H:=hd_ (((M.start w).alloc #[.int .i64 a.kind,.int .i64 a.src,.int .i64 a.dst,.int .i64 a.beacon,.int .i64 a.level,.slice x1 n1 c1] 123).alloc #[.int .i64 a.kind,.int .i64 a.src,.int .i64 a.dst,.int .i64 a.beacon,.int .i64 a.level,.slice x2 n2 c2] 123);have R1:=hd_ h1;have R2:=hd_ h2;have HL:=hd_ hl;clear h1 h2 hl;obtain⟨c0,c1,c2,c3,c4,c5⟩:=H.out.p1.cells6
 obtain⟨d0,d1,d2,d3,d4,d5⟩:=H.out.cells6;simp only[World.size_alloc]at d0 d1 d2 d3 d4 d5;go_enter Tryz.func189,Tryz.ntmps189
 go_wp2_with fail
 refine (eqEntryS_same _ (knownR_frame.below R1.out H.out.below lr_) (knownR_frame.below R2.out H.out.below lr_) HL.out).mono ?_;rintro r w1 ⟨rfl,hb⟩;have H1:=hd_ (H.out.later hb);clear hb c0 c1 c2 c3 c4 c5 d0 d1 d2 d3 d4 d5;obtain⟨c0,c1,c2,c3,c4,c5⟩:=H1.out.p1.cells6;obtain⟨d0,d1,d2,d3,d4,d5⟩:=H1.out.cells6;simp only[World.size_alloc]at d0 d1 d2 d3 d4 d5;go_wp2;go_ret;exact⟨rfl,H1.out.below⟩
theorem eqWordS_same (w:World) {x1 x2:Option Addr} {n m c1 c2:Nat} {xs:List Wd} {f1 f2:List Nat} (h1:wordsR TY w [.slice x1 n c1] xs f1) (h2:wordsR TY w [.slice x2 m c2] xs f2) (hl:LenWs xs):
  Calls Tryz.prog 122 #[.slice x1 n c1,.slice x2 m c2] w fun r w'=>r=.returned (.bool true)/\Below w.heap.size w w':=by
 obtain rfl:n=xs.length:=(slcR_row h1).1;obtain rfl:m=xs.length:=(slcR_row h2).1;obtain⟨_,_,e1,q1,q2⟩:=slcR_value h1;have hm:xs.length<=maxLen:=Nat.le_trans q1 q2;unfold maxLen at hm;clear e1 q1 q2;have H1:=hd_ h1;have H2:=hd_ h2;have HL:=hd_ hl;have n0:((xs.length:Int) != (xs.length:Int))=false:=by simp
 clear h1 h2 hl;go_enter Tryz.func122,Tryz.ntmps122;go_wp2;go_loopw [5] (fun i wr=>∃k:Nat,k<=xs.length/\i=.int .i64 k/\Below w.heap.size w wr) (fun i _=>xs.length - (intOf i).toNat)
 case atStart=>exact⟨0,Nat.zero_le _,rfl,Below.refl _ _⟩
 case round=>
  obtain⟨k,hk,rfl,hb⟩:=hrel;have HB:=hd_ hb;clear hb
  by_cases hlt:k<xs.length
  ·obtain⟨a,ha⟩:∃a,xs[k]? =some a:=⟨_,List.getElem?_eq_getElem hlt⟩
   have k0:(0:Int)<=(k:Int):=by omega
   have k1:(k:Int)<(xs.length:Int):=by omega
   obtain⟨g1,y1,d1,p1,rfl,q1,_,r1,_,_,ca0,ca1,ca2,ca3,ca4,ca5⟩:=wordR_at H1.out ha;obtain⟨g2,y2,d2,p2,rfl,q2,_,r2,_,_,cb0,cb1,cb2,cb3,cb4,cb5⟩:=wordR_at H2.out ha;have R1:=hd_ r1;have R2:=hd_ r2;clear r1 r2 q1 q2;have LA:=hd_ (HL.out a (List.mem_of_getElem? ha));clear ha
   have SS:=hd_ (fun w' (hb:Below w.heap.size w w')=>show w'.cell? ⟨g1,k * 6,none⟩=some (.int .i64 a.kind)/\w'.cell? ⟨g1,k * 6+1,none⟩=some (.int .i64 a.src)/\w'.cell? ⟨g1,k * 6+2,none⟩=some (.int .i64 a.dst)/\w'.cell? ⟨g1,k * 6+3,none⟩=some (.int .i64 a.beacon)/\w'.cell? ⟨g1,k * 6+4,none⟩=some (.int .i64 a.level)/\w'.cell? ⟨g1,k * 6+5,none⟩=some (.slice y1 a.known.length d1)/\w'.cell? ⟨g2,k * 6,none⟩=some (.int .i64 a.kind)/\w'.cell? ⟨g2,k * 6+1,none⟩=some (.int .i64 a.src)/\w'.cell? ⟨g2,k * 6+2,none⟩=some (.int .i64 a.dst)/\w'.cell? ⟨g2,k * 6+3,none⟩=some (.int .i64 a.beacon)/\w'.cell? ⟨g2,k * 6+4,none⟩=some (.int .i64 a.level)/\w'.cell? ⟨g2,k * 6+5,none⟩=some (.slice y2 a.known.length d2)from⟨cell_later hb ca0,cell_later hb ca1,cell_later hb ca2,cell_later hb ca3,cell_later hb ca4,cell_later hb ca5,cell_later hb cb0,cell_later hb cb1,cell_later hb cb2,cell_later hb cb3,cell_later hb cb4,cell_later hb cb5⟩)
   clear ca0 ca1 ca2 ca3 ca4 ca5 cb0 cb1 cb2 cb3 cb4 cb5;go_wp2
   refine wp_region_plan 99 (.tk 0 8 (.alt 8 (.take 9 .done) .nomore)) (fun w'=>w'.cell? ⟨g1,k * 6,none⟩=some (.int .i64 a.kind)/\w'.cell? ⟨g1,k * 6+1,none⟩=some (.int .i64 a.src)/\w'.cell? ⟨g1,k * 6+2,none⟩=some (.int .i64 a.dst)/\w'.cell? ⟨g1,k * 6+3,none⟩=some (.int .i64 a.beacon)/\w'.cell? ⟨g1,k * 6+4,none⟩=some (.int .i64 a.level)/\w'.cell? ⟨g1,k * 6+5,none⟩=some (.slice y1 a.known.length d1)/\w'.cell? ⟨g2,k * 6,none⟩=some (.int .i64 a.kind)/\w'.cell? ⟨g2,k * 6+1,none⟩=some (.int .i64 a.src)/\w'.cell? ⟨g2,k * 6+2,none⟩=some (.int .i64 a.dst)/\w'.cell? ⟨g2,k * 6+3,none⟩=some (.int .i64 a.beacon)/\w'.cell? ⟨g2,k * 6+4,none⟩=some (.int .i64 a.level)/\w'.cell? ⟨g2,k * 6+5,none⟩=some (.slice y2 a.known.length d2)) (by kernel_rfl) (by kernel_rfl) (fun _ _ _ _ _ h=>h) (SS.out _ HB.out.drew) ?_
   have HD:=hd_ HB.out.drew;clear HB;generalize wr.drew=w3 at HD ⊢
   repeat ((first|(refine plan_take (by rfl) (by rfl) ?_;apply Exists.intro;refine⟨fun w' hw'=>?_,?_⟩;(· ((try dsimp only at hw');go_simp;(try with_reducible rfl))))|(refine plan_skip (by rfl) (by rfl) ?_));simp only[Act.put,List.getElem_toArray,List.getElem_cons_succ,pg3,pg4,pg5,pg6])
   refine plan_last (by rfl) (fun K hK=>?_);go_simp;refine (eqWord_same _ (knownR_frame.below R1.out HD.out lr_) (knownR_frame.below R2.out HD.out lr_) LA.out).mono ?_;rintro r w4 ⟨rfl,hb⟩;have HE:=hd_ (HD.out.trans (hb.mono HD.out.size));clear hb;refine hK _ _ (.inr (SS.out _ HE.out)) ?_;clear hK K
   try simp only[Act.put,List.getElem_toArray,List.getElem_cons_succ,pg3,pg4,pg5,pg6]
   repeat ((first|(refine plan_take (by rfl) (by rfl) ?_;apply Exists.intro;refine⟨fun w' hw'=>?_,?_⟩;(· ((try dsimp only at hw');go_simp;(try with_reducible rfl))))|(refine plan_skip (by rfl) (by rfl) ?_));simp only[Act.put,List.getElem_toArray,List.getElem_cons_succ,pg3,pg4,pg5,pg6])
   refine plan_done ?_;clear SS HD;go_wp2;go_roundw
   case rel=>exact⟨k+1,hlt,by go_num,HE.out⟩
   case measure=>simp[intOf];omega
  ·go_wp2
   go_ret;exact⟨rfl,HB.out⟩
theorem eqBoolS_same (w:World) {x1 x2:Option Addr} {n m c1 c2:Nat} {xs:List Bool} {f1 f2:List Nat} (h1:linksR TY w [.slice x1 n c1] xs f1) (h2:linksR TY w [.slice x2 m c2] xs f2):
  Calls Tryz.prog 121 #[.slice x1 n c1,.slice x2 m c2] w fun r w'=>r=.returned (.bool true)/\Below w.heap.size w w':=by
 obtain rfl:n=xs.length:=(slcR_row h1).1;obtain rfl:m=xs.length:=(slcR_row h2).1;obtain⟨_,_,e1,q1,q2⟩:=slcR_value h1;have hm:xs.length<=maxLen:=Nat.le_trans q1 q2;unfold maxLen at hm;clear e1 q1 q2;have H1:=hd_ h1;have H2:=hd_ h2;have n0:((xs.length:Int) != (xs.length:Int))=false:=by simp
 clear h1 h2;go_enter Tryz.func121,Tryz.ntmps121;go_wp2;go_loopw [5] (fun i wr=>∃k:Nat,k<=xs.length/\i=.int .i64 k/\Below w.heap.size w wr) (fun i _=>xs.length - (intOf i).toNat)
 case atStart=>exact⟨0,Nat.zero_le _,rfl,Below.refl _ _⟩
 case round=>
  obtain⟨k,hk,rfl,hb⟩:=hrel;have HB:=hd_ hb;clear hb
  by_cases hlt:k<xs.length
  ·obtain⟨a,ha⟩:∃a,xs[k]? =some a:=⟨_,List.getElem?_eq_getElem hlt⟩
   have k0:(0:Int)<=(k:Int):=by omega
   have k1:(k:Int)<(xs.length:Int):=by omega
   obtain⟨g1,rfl,_,ca0⟩:=link_at H1.out ha;obtain⟨g2,rfl,_,cb0⟩:=link_at H2.out ha;clear ha;have SS:=hd_ (fun w' (hb:Below w.heap.size w w')=>show w'.cell? ⟨g1,k,none⟩=some (.bool a)/\w'.cell? ⟨g2,k,none⟩=some (.bool a)from⟨cell_later hb ca0,cell_later hb cb0⟩);clear ca0 cb0;go_wp2
   refine wp_region_plan 99 (.tk 0 9 .done) (fun w'=>w'.cell? ⟨g1,k,none⟩=some (.bool a)/\w'.cell? ⟨g2,k,none⟩=some (.bool a)) (by kernel_rfl) (by kernel_rfl) (fun _ _ _ _ _ h=>h) (SS.out _ HB.out.drew) ?_;have HD:=hd_ HB.out.drew;clear HB;generalize wr.drew=w3 at HD ⊢
   repeat ((first|(refine plan_take (by rfl) (by rfl) ?_;apply Exists.intro;refine⟨fun w' hw'=>?_,?_⟩;(· ((try dsimp only at hw');go_simp;(try with_reducible rfl))))|(refine plan_skip (by rfl) (by rfl) ?_));simp only[Act.put,List.getElem_toArray,List.getElem_cons_succ,pg3,pg4,pg5,pg6])
   have HE:=HD;refine plan_done ?_;clear SS HD;go_wp2;go_roundw
   case rel=>exact⟨k+1,hlt,by go_num,HE.out⟩
   case measure=>simp[intOf];omega
  ·go_wp2
   go_ret;exact⟨rfl,HB.out⟩
theorem eqIntSS_same (w:World) {v1 v2:Value} {rs:List (List Int)} {f1 f2:List Nat} (h1:rowsR w [v1] rs f1) (h2:rowsR w [v2] rs f2):
  Calls Tryz.prog 190 #[v1,v2] w fun r w'=>r=.returned (.bool true)/\Below w.heap.size w w':=by
 have hm:rs.length<=maxLen:=by obtain⟨_,_,_,q1,q2⟩:=slcR_value h1;exact Nat.le_trans q1 q2
 have hr:∀i,i<rs.length->(rs.getD i []).length<=maxLen:=fun i hi=>by
  obtain⟨x,c,rfl,_⟩:=slcR_value h1;have hi':rs[i]? =some (rs.getD i []):=by simp[List.getD,hi]
  obtain⟨_,_,_,_,_,_,_,_,q1,q2,_⟩:=row_at h1 hi';exact Nat.le_trans q1 q2
 obtain⟨u1,e1,r1⟩:=rowsR_rd h1;obtain⟨u2,e2,r2⟩:=rowsR_rd h2;cases e1;cases e2;have K:=eqIntSS_at w v1 v2 rs rs r1 r2 hm hr;rw[show decide (rs=rs)=true from decide_eq_true rfl]at K;exact K
theorem eqIntSSS_same (w:World) {x1 x2:Option Addr} {n m c1 c2:Nat} {xs:List (List (List Int))} {f1 f2:List Nat} (h1:pastR TY w [.slice x1 n c1] xs f1) (h2:pastR TY w [.slice x2 m c2] xs f2):
  Calls Tryz.prog 123 #[.slice x1 n c1,.slice x2 m c2] w fun r w'=>r=.returned (.bool true)/\Below w.heap.size w w':=by
 obtain rfl:n=xs.length:=(slcR_row h1).1;obtain rfl:m=xs.length:=(slcR_row h2).1;obtain⟨_,_,e1,q1,q2⟩:=slcR_value h1;have hm:xs.length<=maxLen:=Nat.le_trans q1 q2;unfold maxLen at hm;clear e1 q1 q2;have H1:=hd_ h1;have H2:=hd_ h2;have n0:((xs.length:Int) != (xs.length:Int))=false:=by simp
 clear h1 h2;go_enter Tryz.func123,Tryz.ntmps123;go_wp2;go_loopw [5] (fun i wr=>∃k:Nat,k<=xs.length/\i=.int .i64 k/\Below w.heap.size w wr) (fun i _=>xs.length - (intOf i).toNat)
 case atStart=>exact⟨0,Nat.zero_le _,rfl,Below.refl _ _⟩
 case round=>
  obtain⟨k,hk,rfl,hb⟩:=hrel;have HB:=hd_ hb;clear hb
  by_cases hlt:k<xs.length
  ·obtain⟨a,ha⟩:∃a,xs[k]? =some a:=⟨_,List.getElem?_eq_getElem hlt⟩
   have k0:(0:Int)<=(k:Int):=by omega
   have k1:(k:Int)<(xs.length:Int):=by omega
   obtain⟨g1,y1,d1,p1,rfl,q1,_,r1,_,_,ca0⟩:=past_at H1.out ha;obtain⟨g2,y2,d2,p2,rfl,q2,_,r2,_,_,cb0⟩:=past_at H2.out ha;have R1:=hd_ r1;have R2:=hd_ r2;clear r1 r2 q1 q2;clear ha;have SS:=hd_ (fun w' (hb:Below w.heap.size w w')=>show w'.cell? ⟨g1,k,none⟩=some (.slice y1 a.length d1)/\w'.cell? ⟨g2,k,none⟩=some (.slice y2 a.length d2)from⟨cell_later hb ca0,cell_later hb cb0⟩);clear ca0 cb0;go_wp2
   refine wp_region_plan 99 (.tk 0 8 (.alt 8 (.take 9 .done) .nomore)) (fun w'=>w'.cell? ⟨g1,k,none⟩=some (.slice y1 a.length d1)/\w'.cell? ⟨g2,k,none⟩=some (.slice y2 a.length d2)) (by kernel_rfl) (by kernel_rfl) (fun _ _ _ _ _ h=>h) (SS.out _ HB.out.drew) ?_;have HD:=hd_ HB.out.drew;clear HB;generalize wr.drew=w3 at HD ⊢
   repeat ((first|(refine plan_take (by rfl) (by rfl) ?_;apply Exists.intro;refine⟨fun w' hw'=>?_,?_⟩;(· ((try dsimp only at hw');go_simp;(try with_reducible rfl))))|(refine plan_skip (by rfl) (by rfl) ?_));simp only[Act.put,List.getElem_toArray,List.getElem_cons_succ,pg3,pg4,pg5,pg6])
   refine plan_last (by rfl) (fun K hK=>?_);go_simp;refine (eqIntSS_same _ (rowsR_frame.below R1.out HD.out lr_) (rowsR_frame.below R2.out HD.out lr_)).mono ?_;rintro r w4 ⟨rfl,hb⟩;have HE:=hd_ (HD.out.trans (hb.mono HD.out.size));clear hb;refine hK _ _ (.inr (SS.out _ HE.out)) ?_;clear hK K
   try simp only[Act.put,List.getElem_toArray,List.getElem_cons_succ,pg3,pg4,pg5,pg6]
   repeat ((first|(refine plan_take (by rfl) (by rfl) ?_;apply Exists.intro;refine⟨fun w' hw'=>?_,?_⟩;(· ((try dsimp only at hw');go_simp;(try with_reducible rfl))))|(refine plan_skip (by rfl) (by rfl) ?_));simp only[Act.put,List.getElem_toArray,List.getElem_cons_succ,pg3,pg4,pg5,pg6])
   refine plan_done ?_;clear SS HD;go_wp2;go_roundw
   case rel=>exact⟨k+1,hlt,by go_num,HE.out⟩
   case measure=>simp[intOf];omega
  ·go_wp2
   go_ret;exact⟨rfl,HB.out⟩
structure LenN (n:Nt):Prop where
 ns:LenNs n.nodes
 ws:LenWs n.words
theorem eqNet_same (w:World) {a:Nt} {x1a x1b x1c x1d x2a x2b x2c x2d:Option Addr} {n1a n1b n1c n1d n2a n2b n2c n2d c1a c1b c1c c1d c2a c2b c2c c2d:Nat} {f1 f2:List Nat} (h1:netR TY w [.slice x1a n1a c1a,.slice x1b n1b c1b,.slice x1c n1c c1c,.slice x1d n1d c1d] a f1) (h2:netR TY w [.slice x2a n2a c2a,.slice x2b n2b c2b,.slice x2c n2c c2c,.slice x2d n2d c2d] a f2) (hl:LenN a):
  Calls Tryz.prog 50 #[.agg #[.slice x1a n1a c1a,.slice x1b n1b c1b,.slice x1c n1c c1c,.slice x1d n1d c1d],.agg #[.slice x2a n2a c2a,.slice x2b n2b c2b,.slice x2c n2c c2c,.slice x2d n2d c2d]] w fun r w'=>r=.returned (.bool true)/\Below w.heap.size w w':=by
 have H:=hd_ (((M.start w).alloc #[.slice x1a n1a c1a,.slice x1b n1b c1b,.slice x1c n1c c1c,.slice x1d n1d c1d] 30).alloc #[.slice x2a n2a c2a,.slice x2b n2b c2b,.slice x2c n2c c2c,.slice x2d n2d c2d] 30);obtain⟨_,_,_,_,_,_,_,_,e1,_,ra1,ra2,ra3,ra4⟩:=netR_iff.1 h1;cases e1;obtain⟨_,_,_,_,_,_,_,_,e2,_,rb1,rb2,rb3,rb4⟩:=netR_iff.1 h2;cases e2;have A1:=hd_ ra1;have A2:=hd_ ra2;have A3:=hd_ ra3
 have A4:=hd_ ra4;have B1:=hd_ rb1;have B2:=hd_ rb2;have B3:=hd_ rb3;have B4:=hd_ rb4;have HL:=hd_ hl;clear h1 h2 hl ra1 ra2 ra3 ra4 rb1 rb2 rb3 rb4;obtain⟨c0,c1,c2,c3⟩:=H.out.p1.cells4;obtain⟨d0,d1,d2,d3⟩:=H.out.cells4;simp only[World.size_alloc]at d0 d1 d2 d3;go_enter Tryz.func50,Tryz.ntmps50
 go_wp2_with fail
 refine (eqNodeS_same _ (nodesR_frame.below A1.out H.out.below lr_) (nodesR_frame.below B1.out H.out.below lr_) HL.out.ns).mono ?_;rintro r w1 ⟨rfl,hb⟩;have H1:=hd_ (H.out.later hb);clear hb c0 c1 c2 c3 d0 d1 d2 d3;obtain⟨c0,c1,c2,c3⟩:=H1.out.p1.cells4;obtain⟨d0,d1,d2,d3⟩:=H1.out.cells4;simp only[World.size_alloc]at d0 d1 d2 d3
 go_wp2_with fail
 refine (eqBoolS_same _ (linksR_frame.below A2.out H1.out.below lr_) (linksR_frame.below B2.out H1.out.below lr_)).mono ?_;rintro r w2 ⟨rfl,hb⟩;have H2:=hd_ (H1.out.later hb);clear hb c0 c1 c2 c3 d0 d1 d2 d3;obtain⟨c0,c1,c2,c3⟩:=H2.out.p1.cells4;obtain⟨d0,d1,d2,d3⟩:=H2.out.cells4;simp only[World.size_alloc]at d0 d1 d2 d3
 go_wp2_with fail
 refine (eqWordS_same _ (wordsR_frame.below A3.out H2.out.below lr_) (wordsR_frame.below B3.out H2.out.below lr_) HL.out.ws).mono ?_;rintro r w3 ⟨rfl,hb⟩;have H3:=hd_ (H2.out.later hb);clear hb c0 c1 c2 c3 d0 d1 d2 d3;obtain⟨c0,c1,c2,c3⟩:=H3.out.p1.cells4;obtain⟨d0,d1,d2,d3⟩:=H3.out.cells4;simp only[World.size_alloc]at d0 d1 d2 d3
 go_wp2_with fail
 refine (eqIntSSS_same _ (pastR_frame.below A4.out H3.out.below lr_) (pastR_frame.below B4.out H3.out.below lr_)).mono ?_;rintro r w4 ⟨rfl,hb⟩;have H4:=hd_ (H3.out.later hb);clear hb c0 c1 c2 c3 d0 d1 d2 d3;obtain⟨c0,c1,c2,c3⟩:=H4.out.p1.cells4;obtain⟨d0,d1,d2,d3⟩:=H4.out.cells4;simp only[World.size_alloc]at d0 d1 d2 d3;go_wp2;go_ret;exact⟨rfl,H4.out.below⟩
end N
end Go.Proofs.YtcblbdpdbggkbaaGreat
set_option linter.unusedVariables false
set_option linter.unusedSectionVars false
set_option linter.unusedSimpArgs false
namespace Go.Proofs.YtcblbdpdbggkbaaGreat
open Go.RowKit Go.Sort
theorem steps2 {a b:Bool} {P:Prop} (h0:a=false->P) (h1:a=true->b=false->P) (h2:a=true->b=true->P):P:=by
 cases a
 case false=>exact h0 rfl
 cases b
 case false=>exact h1 rfl rfl
 exact h2 rfl rfl
theorem steps3 {a b c:Bool} {P:Prop} (h0:a=false->P) (h1:a=true->b=false->P) (h2:a=true->b=true->c=false->P) (h3:a=true->b=true->c=true->P):P:=by
 cases a
 case false=>exact h0 rfl
 cases b
 case false=>exact h1 rfl rfl
 cases c
 case false=>exact h2 rfl rfl rfl
 exact h3 rfl rfl rfl
theorem steps4 {a b c d:Bool} {P:Prop} (h0:a=false->P) (h1:a=true->b=false->P) (h2:a=true->b=true->c=false->P) (h3:a=true->b=true->c=true->d=false->P) (h4:a=true->b=true->c=true->d=true->P):P:=by
 cases a
 case false=>exact h0 rfl
 cases b
 case false=>exact h1 rfl rfl
 cases c
 case false=>exact h2 rfl rfl rfl
 cases d
 case false=>exact h3 rfl rfl rfl rfl
 exact h4 rfl rfl rfl rfl
theorem steps5 {a b c d e:Bool} {P:Prop} (h0:a=false->P) (h1:a=true->b=false->P) (h2:a=true->b=true->c=false->P) (h3:a=true->b=true->c=true->d=false->P) (h4:a=true->b=true->c=true->d=true->e=false->P) (h5:a=true->b=true->c=true->d=true->e=true->P):P:=by
 cases a
 case false=>exact h0 rfl
 cases b
 case false=>exact h1 rfl rfl
 cases c
 case false=>exact h2 rfl rfl rfl
 cases d
 case false=>exact h3 rfl rfl rfl rfl
 cases e
 case false=>exact h4 rfl rfl rfl rfl rfl
 exact h5 rfl rfl rfl rfl rfl
theorem dec_iff (P Q:Prop) [Decidable P] [Decidable Q]:decide (P↔Q)=(decide P==decide Q):=by by_cases p:P<;>by_cases q:Q<;>simp[p,q]
def Cells (w:World):List (Addr × Value)->Prop
 | []=>True
 |x::l=>w.cell? x.1=some x.2/\Cells w l
theorem Cells.below {W w':World}:∀{l:List (Addr × Value)},Cells W l->Below W.heap.size W w'->Cells w' l
 | [],_,_=>trivial
 |_::_,h,hb=>⟨(hb.cell (World.block_lt_of_cell? _ _ h.1)).trans h.1,Cells.below h.2 hb⟩
theorem Cells_app {w:World} {a b:List (Addr × Value)}:Cells w (a++b)↔Cells w a/\Cells w b:=by
 induction a with
 |nil=>simp[Cells]
 |cons x l ih=>simp[Cells,ih,and_assoc]
def b4L (p:Nat) (v0 v1 v2 v3:Value):List (Addr × Value):=[(⟨p,0,none⟩,v0),(⟨p,1,none⟩,v1),(⟨p,2,none⟩,v2),(⟨p,3,none⟩,v3)]
def b5L (p:Nat) (v0 v1 v2 v3 v4:Value):List (Addr × Value):=[(⟨p,0,none⟩,v0),(⟨p,1,none⟩,v1),(⟨p,2,none⟩,v2),(⟨p,3,none⟩,v3),(⟨p,4,none⟩,v4)]
def b6L (p:Nat) (v0 v1 v2 v3 v4 v5:Value):List (Addr × Value):=[(⟨p,0,none⟩,v0),(⟨p,1,none⟩,v1),(⟨p,2,none⟩,v2),(⟨p,3,none⟩,v3),(⟨p,4,none⟩,v4),(⟨p,5,none⟩,v5)]
def b7L (p:Nat) (V:SV) (s:Sm):List (Addr × Value):=[(⟨p,0,none⟩,.slice V.xr V.nr V.cr),(⟨p,1,none⟩,.slice V.xf V.nf V.cf),(⟨p,2,none⟩,.slice V.xt V.nt V.ct),(⟨p,3,none⟩,.int .i64 s.lo),(⟨p,4,none⟩,.int .i64 s.al),(⟨p,5,none⟩,.slice V.xk V.nk V.ck),(⟨p,6,none⟩,.int .i64 s.ka)]
def b10L (p:Nat) (i b n:Int) (V:SV) (s:Sm):List (Addr × Value):=[(⟨p,0,none⟩,.int .i64 i),(⟨p,1,none⟩,.int .i64 b),(⟨p,2,none⟩,.int .i64 n),(⟨p,3,none⟩,.slice V.xr V.nr V.cr),(⟨p,4,none⟩,.slice V.xf V.nf V.cf),(⟨p,5,none⟩,.slice V.xt V.nt V.ct),(⟨p,6,none⟩,.int .i64 s.lo),(⟨p,7,none⟩,.int .i64 s.al),(⟨p,8,none⟩,.slice V.xk V.nk V.ck),(⟨p,9,none⟩,.int .i64 s.ka)]
namespace N
def entL (g j:Nat) (V:SV) (e:En):List (Addr × Value):=[(⟨g,j * 10,none⟩,.int .i64 e.node),(⟨g,j * 10+1,none⟩,.int .i64 e.born),(⟨g,j * 10+2,none⟩,.int .i64 e.num),(⟨g,j * 10+3,none⟩,.slice V.xr V.nr V.cr),(⟨g,j * 10+4,none⟩,.slice V.xf V.nf V.cf),(⟨g,j * 10+5,none⟩,.slice V.xt V.nt V.ct),(⟨g,j * 10+6,none⟩,.int .i64 e.s.lo),(⟨g,j * 10+7,none⟩,.int .i64 e.s.al),(⟨g,j * 10+8,none⟩,.slice V.xk V.nk V.ck),(⟨g,j * 10+9,none⟩,.int .i64 e.s.ka)]
section
variable {w w0:World} {B p:Nat} {l:List Ch} {n:Nt} {v1 v2 v3 v4:Value}
end
end N
end Go.Proofs.YtcblbdpdbggkbaaGreat
set_option linter.unusedVariables false
set_option linter.unusedSectionVars false
set_option linter.unusedSimpArgs false
namespace Go.Proofs.YtcblbdpdbggkbaaGreat
open Go.RowKit Go.Sort
namespace N
theorem spKnown_at (w:World) {x1 x4 xk:Option Addr} {k1 c1 k4 c4 k ck:Nat} {v2 v3:Value} {n:Nt} {es:List En} {f:List Nat} (hn:NetRd w (.slice x1 k1 c1) v2 v3 (.slice x4 k4 c4) n) (hs:Shape n) (h:knownR TY w [.slice xk k ck] es f):
  Calls Tryz.prog 160 #[.agg #[.slice x1 k1 c1,v2,v3,.slice x4 k4 c4],.slice xk k ck] w fun r w'=>r=.returned (.bool (knownB n es))/\Below w.heap.size w w':=by
 obtain rfl:k=es.length:=(slcR_row h).1;obtain⟨_,_,e1,q1,q2⟩:=slcR_value h;have hm:es.length<=maxLen:=Nat.le_trans q1 q2;unfold maxLen at hm;clear e1 q1 q2;have H1:=hd_ h;have HN:=hd_ hn;have HS:=hd_ hs;clear h hn hs;have H:=hd_ ((M.start w).alloc #[.slice x1 k1 c1,v2,v3,.slice x4 k4 c4] 30);go_enter Tryz.func160,Tryz.ntmps160;go_wp2;obtain⟨p1,hp1⟩:∃p,p=w.heap.size:=⟨_,rfl⟩
 have HP:=hd_ hp1;rw[<-hp1]at H;rw[<-hp1];clear hp1;generalize (w.alloc (.cells #[.slice x1 k1 c1,v2,v3,.slice x4 k4 c4] 30))=w1 at H ⊢;go_loopw [5] (fun z wr=>∃j:Nat,j<=es.length/\z=.int .i64 j/\(∀(a:Nat) (x:En),a<j->es[a]? =some x->entryB n x=true/\(0<a->∀d:En,es[a - 1]? =some d->d.node<x.node))/\M p1 w wr [boxC p1 30 #[.slice x1 k1 c1,v2,v3,.slice x4 k4 c4]]) (fun z _=>es.length - (intOf z).toNat)
 case atStart=>exact⟨0,Nat.zero_le _,rfl,fun a x h=>absurd h (Nat.not_lt_zero _),H.out⟩
 case round=>
  clear H;obtain⟨j,hj,rfl,hno,h⟩:=hrel;have NO:=hd_ hno;have H:=hd_ h;clear hno h;have hWB:=H.out.below;rw[HP.out]at hWB
  by_cases hlt:j<es.length
  ·obtain⟨W,hW⟩:∃W,W=wr.drew:=⟨_,rfl⟩
   have H2:=H.out.drew;rw[<-hW]at H2;have EW:=hd_ hW;have WB:=Below.drew hWB;rw[<-hW]at WB;clear hW hWB;obtain⟨x,hx⟩:∃x,es[j]? =some x:=⟨_,List.getElem?_eq_getElem hlt⟩
   obtain⟨g,V,fe,rfl,_,_,sr,ca0,ca1,ca2,cas⟩:=known_at ((slcR_frame entryR_frame _ _).below H1.out WB lr_) hx;obtain⟨V',eV,rV⟩:=sumR_rd sr;cases sv_inj eV;have ca3:=cas 0 _ rfl;have ca4:=cas 1 _ rfl;have ca5:=cas 2 _ rfl;have ca6:=cas 3 _ rfl;have ca7:=cas 4 _ rfl;have ca8:=cas 5 _ rfl;have ca9:=cas 6 _ rfl;obtain⟨a0,a1,a2,a3⟩:=H2.cells4
   have KE:=hd_ (spEntry_at W (e:=x) (HN.out.below WB lr_) HS.out rV);have k0:(0:Int)<=(j:Int):=by omega
   have k1':(j:Int)<(es.length:Int):=by omega
   have HX:=hd_ hx;clear cas sr eV rV hx WB
   by_cases eb:entryB n x=true
   case neg=>
    have gb:entryB n x=false:=by simpa using eb
    have F:=hd_ (known_bad HX.out (.inl gb));rw[gb]at KE;clear eb gb;have C0:=hd_ (show Cells W (b4L p1 (.slice x1 k1 c1) v2 v3 (.slice x4 k4 c4)++entL g j V x)from⟨a0,a1,a2,a3,ca0,ca1,ca2,ca3,ca4,ca5,ca6,ca7,ca8,ca9,trivial⟩);clear a0 a1 a2 a3 ca0 ca1 ca2 ca3 ca4 ca5 ca6 ca7 ca8 ca9;go_upto_region 4 with fail
    refine wp_region_plan 99 (.tk 0 5 (.alt 5 (.tk 6 19 .done) .nomore)) (fun w'=>Cells w' (b4L p1 (.slice x1 k1 c1) v2 v3 (.slice x4 k4 c4)++entL g j V x)) (by kernel_rfl) (by kernel_rfl) (fun _ _ _ _ _ h=>h) (by rw[<-EW.out];exact C0.out) ?_;rw[<-EW.out]
    repeat ((first|(refine plan_take (by rfl) (by rfl) ?_;apply Exists.intro;refine⟨fun w' hw'=>?_,?_⟩;(· ((try simp only[Cells,Cells_app,b4L,b5L,b6L,b7L,b10L,N.entL,and_true]at hw');go_simp;(try with_reducible rfl))))|(refine plan_skip (by rfl) (by rfl) ?_));simp only[Act.put,List.getElem_toArray,List.getElem_cons_succ,pg3,pg4,pg5,pg6])
    refine plan_last (by rfl) (fun K' hK=>?_);go_simp;refine KE.out.mono ?_;rintro r w3 ⟨rfl,hb⟩;have H3:=hd_ (H2.later hb);refine hK _ _ (.inr (C0.out.below hb)) ?_;clear hK K'
    try simp only[Act.put,List.getElem_toArray,List.getElem_cons_succ,pg3,pg4,pg5,pg6]
    clear hb KE C0
    repeat ((first|(refine plan_take (by rfl) (by rfl) ?_;apply Exists.intro;refine⟨fun w' hw'=>?_,?_⟩;(· ((try simp only[Cells,Cells_app,b4L,b5L,b6L,b7L,b10L,N.entL,and_true]at hw');go_simp;(try with_reducible rfl))))|(refine plan_skip (by rfl) (by rfl) ?_));simp only[Act.put,List.getElem_toArray,List.getElem_cons_succ,pg3,pg4,pg5,pg6])
    refine plan_done ?_;go_wp2;go_ret;exact⟨by rw[F.out];rfl,by have:=H3.out.below;rwa[HP.out]at this⟩
   have EB:=hd_ eb;rw[eb]at KE;clear eb
   by_cases j0:j=0
   ·have jn:decide (0<j)=false:=by simp;omega
    have jp:decide ((0:Int)<(j:Int))=false:=by simp;omega
    have J0:=hd_ j0;clear j0;have NO2:Hid (∀(a:Nat) (y:En),a<j+1->es[a]? =some y->entryB n y=true/\(0<a->∀d:En,es[a - 1]? =some d->d.node<y.node)):=hd_ fun a y ha hy=>by
     have:=J0.out;obtain rfl:a=j:=by omega
     rw[HX.out]at hy;cases hy;exact⟨EB.out,fun q=>absurd q (by omega)⟩
    have C0:=hd_ (show Cells W (b4L p1 (.slice x1 k1 c1) v2 v3 (.slice x4 k4 c4)++entL g j V x)from⟨a0,a1,a2,a3,ca0,ca1,ca2,ca3,ca4,ca5,ca6,ca7,ca8,ca9,trivial⟩);clear a0 a1 a2 a3 ca0 ca1 ca2 ca3 ca4 ca5 ca6 ca7 ca8 ca9;go_upto_region 4 with fail
    refine wp_region_plan 99 (.tk 0 5 (.alt 5 (.tk 6 19 .done) .nomore)) (fun w'=>Cells w' (b4L p1 (.slice x1 k1 c1) v2 v3 (.slice x4 k4 c4)++entL g j V x)) (by kernel_rfl) (by kernel_rfl) (fun _ _ _ _ _ h=>h) (by rw[<-EW.out];exact C0.out) ?_;rw[<-EW.out]
    repeat ((first|(refine plan_take (by rfl) (by rfl) ?_;apply Exists.intro;refine⟨fun w' hw'=>?_,?_⟩;(· ((try simp only[Cells,Cells_app,b4L,b5L,b6L,b7L,b10L,N.entL,and_true]at hw');go_simp;(try with_reducible rfl))))|(refine plan_skip (by rfl) (by rfl) ?_));simp only[Act.put,List.getElem_toArray,List.getElem_cons_succ,pg3,pg4,pg5,pg6])
    refine plan_last (by rfl) (fun K' hK=>?_);go_simp;refine KE.out.mono ?_;rintro r w3 ⟨rfl,hb⟩;have H3:=hd_ (H2.later hb);refine hK _ _ (.inr (C0.out.below hb)) ?_;clear hK K'
    try simp only[Act.put,List.getElem_toArray,List.getElem_cons_succ,pg3,pg4,pg5,pg6]
    clear hb KE C0
    repeat ((first|(refine plan_take (by rfl) (by rfl) ?_;apply Exists.intro;refine⟨fun w' hw'=>?_,?_⟩;(· ((try simp only[Cells,Cells_app,b4L,b5L,b6L,b7L,b10L,N.entL,and_true]at hw');go_simp;(try with_reducible rfl))))|(refine plan_skip (by rfl) (by rfl) ?_));simp only[Act.put,List.getElem_toArray,List.getElem_cons_succ,pg3,pg4,pg5,pg6])
    refine plan_done ?_;go_wp2;go_roundw
    case rel=>exact⟨j+1,by omega,by go_num,NO2.out,H3.out⟩
    case measure=>simp[intOf];omega
   ·obtain⟨d,hd⟩:∃d,es[j - 1]? =some d:=⟨_,List.getElem?_eq_getElem (by omega)⟩
    obtain⟨g',V',fe',eg,_,_,_,cb0,_⟩:=known_at ((slcR_frame entryR_frame _ _).below H1.out (by have:=H2.below;rwa[HP.out]at this) lr_) hd;cases eg;have jp:decide ((0:Int)<(j:Int))=true:=by simp;omega
    have jn:decide (0<j)=true:=by simp;omega
    have js:IntKind.i64.wrap ((j:Int) - 1)=(j:Int) - 1:=IntWalk.i64_in _ (by omega);have jt:((j:Int) - 1).toNat=j - 1:=by omega
    have j1:(1:Int)<=(j:Int):=by omega
    have j2:(j:Int) - 1<(es.length:Int):=by omega
    have HD:=hd_ hd;clear hd
    by_cases ed:d.node<x.node
    case neg=>
     have gd:decide (x.node<=d.node)=true:=by simp;omega
     have F:Hid (knownB n es=false):=hd_ (known_bad HX.out (.inr ⟨by omega,d,HD.out,by omega⟩));clear ed;have C0:=hd_ (show Cells W (b4L p1 (.slice x1 k1 c1) v2 v3 (.slice x4 k4 c4)++(entL g j V x++[(⟨g,(j - 1) * 10,none⟩,.int .i64 d.node)]))from⟨a0,a1,a2,a3,ca0,ca1,ca2,ca3,ca4,ca5,ca6,ca7,ca8,ca9,cb0,trivial⟩);clear a0 a1 a2 a3 ca0 ca1 ca2 ca3 ca4 ca5 ca6 ca7 ca8 ca9 cb0
     go_upto_region 4 with fail
     refine wp_region_plan 99 (.tk 0 5 (.alt 5 (.tk 6 19 .done) .nomore)) (fun w'=>Cells w' (b4L p1 (.slice x1 k1 c1) v2 v3 (.slice x4 k4 c4)++(entL g j V x++[(⟨g,(j - 1) * 10,none⟩,.int .i64 d.node)]))) (by kernel_rfl) (by kernel_rfl) (fun _ _ _ _ _ h=>h) (by rw[<-EW.out];exact C0.out) ?_;rw[<-EW.out]
     repeat ((first|(refine plan_take (by rfl) (by rfl) ?_;apply Exists.intro;refine⟨fun w' hw'=>?_,?_⟩;(· ((try simp only[Cells,Cells_app,b4L,b5L,b6L,b7L,b10L,N.entL,and_true]at hw');go_simp;(try with_reducible rfl))))|(refine plan_skip (by rfl) (by rfl) ?_));simp only[Act.put,List.getElem_toArray,List.getElem_cons_succ,pg3,pg4,pg5,pg6])
     refine plan_last (by rfl) (fun K' hK=>?_);go_simp;refine KE.out.mono ?_;rintro r w3 ⟨rfl,hb⟩;have H3:=hd_ (H2.later hb);refine hK _ _ (.inr (C0.out.below hb)) ?_;clear hK K'
     try simp only[Act.put,List.getElem_toArray,List.getElem_cons_succ,pg3,pg4,pg5,pg6]
     clear hb KE C0
     repeat ((first|(refine plan_take (by rfl) (by rfl) ?_;apply Exists.intro;refine⟨fun w' hw'=>?_,?_⟩;(· ((try simp only[Cells,Cells_app,b4L,b5L,b6L,b7L,b10L,N.entL,and_true]at hw');go_simp;(try with_reducible rfl))))|(refine plan_skip (by rfl) (by rfl) ?_));simp only[Act.put,List.getElem_toArray,List.getElem_cons_succ,pg3,pg4,pg5,pg6])
     refine plan_done ?_;go_wp2;go_ret;exact⟨by rw[F.out];rfl,by have:=H3.out.below;rwa[HP.out]at this⟩
    have gd:decide (x.node<=d.node)=false:=by simp;omega
    have NO2:Hid (∀(a:Nat) (y:En),a<j+1->es[a]? =some y->entryB n y=true/\(0<a->∀d:En,es[a - 1]? =some d->d.node<y.node)):=hd_ fun a y ha hy=>by
     by_cases q:a<j
     ·exact NO.out a y q hy
     ·obtain rfl:a=j:=by omega
      rw[HX.out]at hy;cases hy;refine⟨EB.out,fun _ d' hd'=>?_⟩;rw[HD.out]at hd';cases hd';exact ed
    clear ed;have C0:=hd_ (show Cells W (b4L p1 (.slice x1 k1 c1) v2 v3 (.slice x4 k4 c4)++(entL g j V x++[(⟨g,(j - 1) * 10,none⟩,.int .i64 d.node)]))from⟨a0,a1,a2,a3,ca0,ca1,ca2,ca3,ca4,ca5,ca6,ca7,ca8,ca9,cb0,trivial⟩);clear a0 a1 a2 a3 ca0 ca1 ca2 ca3 ca4 ca5 ca6 ca7 ca8 ca9 cb0;go_upto_region 4 with fail
    refine wp_region_plan 99 (.tk 0 5 (.alt 5 (.tk 6 19 .done) .nomore)) (fun w'=>Cells w' (b4L p1 (.slice x1 k1 c1) v2 v3 (.slice x4 k4 c4)++(entL g j V x++[(⟨g,(j - 1) * 10,none⟩,.int .i64 d.node)]))) (by kernel_rfl) (by kernel_rfl) (fun _ _ _ _ _ h=>h) (by rw[<-EW.out];exact C0.out) ?_;rw[<-EW.out]
    repeat ((first|(refine plan_take (by rfl) (by rfl) ?_;apply Exists.intro;refine⟨fun w' hw'=>?_,?_⟩;(· ((try simp only[Cells,Cells_app,b4L,b5L,b6L,b7L,b10L,N.entL,and_true]at hw');go_simp;(try with_reducible rfl))))|(refine plan_skip (by rfl) (by rfl) ?_));simp only[Act.put,List.getElem_toArray,List.getElem_cons_succ,pg3,pg4,pg5,pg6])
    refine plan_last (by rfl) (fun K' hK=>?_);go_simp;refine KE.out.mono ?_;rintro r w3 ⟨rfl,hb⟩;have H3:=hd_ (H2.later hb);refine hK _ _ (.inr (C0.out.below hb)) ?_;clear hK K'
    try simp only[Act.put,List.getElem_toArray,List.getElem_cons_succ,pg3,pg4,pg5,pg6]
    clear hb KE C0
    repeat ((first|(refine plan_take (by rfl) (by rfl) ?_;apply Exists.intro;refine⟨fun w' hw'=>?_,?_⟩;(· ((try simp only[Cells,Cells_app,b4L,b5L,b6L,b7L,b10L,N.entL,and_true]at hw');go_simp;(try with_reducible rfl))))|(refine plan_skip (by rfl) (by rfl) ?_));simp only[Act.put,List.getElem_toArray,List.getElem_cons_succ,pg3,pg4,pg5,pg6])
    refine plan_done ?_;go_wp2;go_roundw
    case rel=>exact⟨j+1,by omega,by go_num,NO2.out,H3.out⟩
    case measure=>simp[intOf];omega
  ·have F:Hid (knownB n es=true):=hd_ (known_idx.2 fun i e hi=>NO.out i e (by have:=(List.getElem?_eq_some_iff.1 hi).1;omega) hi)
   have g:decide (j<es.length)=false:=by simpa using hlt
   clear NO hWB;go_wp2;go_ret;exact⟨by rw[F.out];rfl,by have:=H.out.below;rwa[HP.out]at this⟩
end N
end Go.Proofs.YtcblbdpdbggkbaaGreat
set_option linter.unusedVariables false
set_option linter.unusedSectionVars false
set_option linter.unusedSimpArgs false
namespace Go.Proofs.YtcblbdpdbggkbaaGreat
open Go.RowKit Go.Sort
namespace N
theorem ints_el {w:World} {x:Option Addr} {k c:Nat} {l:List Int} (h:Ints w (.slice x k c) l) {j:Nat} (hj:j<l.length):∃b o,x=some ⟨b,o,Option.none⟩/\w.cell? ⟨b,o+j,Option.none⟩=some (.int .i64 (l.getD j 0)):=by
 rcases h with ⟨_,rfl⟩|⟨b,o,cap,e,_,_,_,hc⟩
 ·cases hj
 ·exact⟨b,o,(Value.slice.inj e).1,hc j hj⟩
theorem row_bad {l:List Int} {j:Nat} (hj:j<l.length) (h:in6 (l.getD j 0) 0 63=false):rowB l=false:=by
 unfold rowB;rw[all_bad (i:=j) (a:=l.getD j 0) (by rw[List.getD_eq_getElem?_getD,List.getElem?_eq_getElem hj];rfl) h,Bool.false_and]
theorem row_long {l:List Int} (h:100<l.length):rowB l=false:=by
 unfold rowB;rw[decide_eq_false (by omega),Bool.and_false]
theorem row_ok {l:List Int} (h:∀a,a<l.length->in6 (l.getD a 0) 0 63=true) (h2:¬ 100<l.length):rowB l=true:=by
 unfold rowB;rw[decide_eq_true (by omega),Bool.and_true];exact all_idx.2 fun a t ht=>by
  have q:=h a (List.getElem?_eq_some_iff.1 ht).1;rwa[List.getD_eq_getElem?_getD,ht]at q
theorem spPastOk_at (w:World) {x1 x4:Option Addr} {k1 c1 k4 c4:Nat} {v2 v3:Value} {n:Nt} (hn:NetRd w (.slice x1 k1 c1) v2 v3 (.slice x4 k4 c4) n) (h5:n.nodes.length=5) (p5:n.past.length=5) {i:Nat} (i5:i<5) (hbn:1<=(nodeAt n i).born/\(nodeAt n i).born<=20):
  Calls Tryz.prog 86 #[.agg #[.slice x1 k1 c1,v2,v3,.slice x4 k4 c4],.int .i64 (i:Int)] w fun r w'=>r=.returned (.bool (pastB n i))/\Below w.heap.size w w':=by
 obtain⟨f1,n1⟩:=hn.nodes;obtain⟨f4,n4⟩:=hn.past;obtain rfl:k1=5:=(slcR_row n1).1.trans h5;obtain rfl:k4=5:=(slcR_row n4).1.trans p5;obtain⟨nd,hnd⟩:∃nd,n.nodes[i]? =some nd:=⟨_,List.getElem?_eq_getElem (by rw[h5];exact i5)⟩
 obtain⟨rs,hrs⟩:∃rs,n.past[i]? =some rs:=⟨_,List.getElem?_eq_getElem (by rw[p5];exact i5)⟩
 have eN:nodeAt n (i:Int)=nd:=by unfold nodeAt;rw[List.getD_eq_getElem?_getD,Int.toNat_natCast,hnd];rfl
 have eR:rowsAt n (i:Int)=rs:=by unfold rowsAt;rw[List.getD_eq_getElem?_getD,Int.toNat_natCast,hrs];rfl
 have PB:Hid (pastB n (i:Int)=(decide ((rs.length:Int)=nd.born+1)&&(decide ((rs.getD 0 []).length=0)&&rs.all rowB))):=hd_ (by unfold pastB pastAt;rw[eN,eR];rfl);rw[eN]at hbn;have H0:=(M.start w).alloc #[.slice x1 5 c1,v2,v3,.slice x4 5 c4] 30;have N1:=hd_ n1;have N4:=hd_ n4;clear hn n1 n4 h5 p5 eN eR;go_enter Tryz.func86,Tryz.ntmps86;go_upto_region 1 with fail
 obtain⟨p1,hp1⟩:∃p,p=w.heap.size:=⟨_,rfl⟩
 have HP:=hd_ hp1;rw[<-hp1]at H0;rw[<-hp1];clear hp1;generalize (w.alloc (.cells #[.slice x1 5 c1,v2,v3,.slice x4 5 c4] 30))=w1 at H0 ⊢;obtain⟨W,hW⟩:∃W,W=w1.drew:=⟨_,rfl⟩
 have H1:=H0.drew;rw[<-hW]at H1;have EW:=hd_ hW;have H:=hd_ H1;clear H0 H1 hW;obtain⟨a0,a1,a2,a3⟩:=H.out.cells4;have hWB:=H.out.below;rw[HP.out]at hWB;obtain⟨g1,xk,ck,fk,rfl,_,_,_,_,_,b0,_⟩:=node_at ((slcR_frame nodeR_frame _ _).below N1.out hWB lr_) hnd;obtain⟨g4,xr,cr,fr,rfl,_,_,rr,rcr,rcm,b1⟩:=past_at ((slcR_frame rowsR_frame _ _).below N4.out hWB lr_) hrs;clear hnd hrs hWB;unfold maxLen at rcm
 have i0:(0:Int)<=(i:Int):=by omega
 have i5':(i:Int)<5:=by omega
 have bw:IntKind.i64.wrap (nd.born+1)=nd.born+1:=IntWalk.i64_in _ (by omega);have PLN:True:=trivial
 by_cases hA:(rs.length:Int)=nd.born+1
 case neg=>
  have F:Hid (pastB n (i:Int)=false):=hd_ (by rw[PB.out,decide_eq_false hA];rfl);have gA:((rs.length:Int) != nd.born+1)=true:=by simpa using hA
  clear hA;refine wp_region_plan 99 (.tk 0 25 .done) (fun w'=>w'=W) (by kernel_rfl) (by kernel_rfl) (fun _ _ _ _ _ h=>h) EW.out.symm ?_;rw[<-EW.out]
  repeat ((first|(refine plan_take (by rfl) (by rfl) ?_;apply Exists.intro;refine⟨fun w' hw'=>?_,?_⟩;(· ((try dsimp only at hw');go_simp;(try with_reducible rfl))))|(refine plan_skip (by rfl) (by rfl) ?_));simp only[Act.put,List.getElem_toArray,List.getElem_cons_succ,pg3,pg4,pg5,pg6])
  refine plan_done ?_;go_wp2;go_ret;exact⟨by rw[F.out];rfl,by have:=H.out.below;rwa[HP.out]at this⟩
 have gA:((rs.length:Int) != nd.born+1)=false:=by simpa using hA
 have HA:=hd_ hA;have r0:0<rs.length:=by omega
 clear hA;obtain⟨l0,hl0⟩:∃l,rs[0]? =some l:=⟨_,List.getElem?_eq_getElem r0⟩
 obtain⟨g5,xl,cl,fl,rfl,_,_,_,_,_,b2⟩:=row_at rr hl0;have EL0:Hid (rs.getD 0 []=l0):=hd_ (by rw[List.getD_eq_getElem?_getD,hl0];rfl);clear hl0
 by_cases hB:l0.length=0
 case neg=>
  have F:Hid (pastB n (i:Int)=false):=hd_ (by rw[PB.out,EL0.out,decide_eq_false hB,Bool.false_and,Bool.and_false]);have gB:((l0.length:Int) != 0)=true:=by simp only[bne_iff_ne,ne_eq];omega
  clear hB;refine wp_region_plan 99 (.tk 0 25 .done) (fun w'=>w'=W) (by kernel_rfl) (by kernel_rfl) (fun _ _ _ _ _ h=>h) EW.out.symm ?_;rw[<-EW.out]
  repeat ((first|(refine plan_take (by rfl) (by rfl) ?_;apply Exists.intro;refine⟨fun w' hw'=>?_,?_⟩;(· ((try dsimp only at hw');go_simp;(try with_reducible rfl))))|(refine plan_skip (by rfl) (by rfl) ?_));simp only[Act.put,List.getElem_toArray,List.getElem_cons_succ,pg3,pg4,pg5,pg6])
  refine plan_done ?_;go_wp2;go_ret;exact⟨by rw[F.out];rfl,by have:=H.out.below;rwa[HP.out]at this⟩
 have gB:((l0.length:Int) != 0)=false:=by simp only[bne_eq_false_iff_eq];omega
 have FB:Hid (pastB n (i:Int)=rs.all rowB):=hd_ (by rw[PB.out,EL0.out,decide_eq_true HA.out,decide_eq_true hB];rfl);clear hB;refine wp_region_plan 99 (.tk 0 25 .done) (fun w'=>w'=W) (by kernel_rfl) (by kernel_rfl) (fun _ _ _ _ _ h=>h) EW.out.symm ?_;rw[<-EW.out]
 repeat ((first|(refine plan_take (by rfl) (by rfl) ?_;apply Exists.intro;refine⟨fun w' hw'=>?_,?_⟩;(· ((try dsimp only at hw');go_simp;(try with_reducible rfl))))|(refine plan_skip (by rfl) (by rfl) ?_));simp only[Act.put,List.getElem_toArray,List.getElem_cons_succ,pg3,pg4,pg5,pg6])
 refine plan_done ?_;clear b2 b0;go_wp2;have RR:=hd_ rr;clear rr gA gB bw;go_loopw [5] (fun z wr=>∃j:Nat,j<=rs.length/\z=.int .i64 j/\(∀(a:Nat) (x:List Int),a<j->rs[a]? =some x->rowB x=true)/\wr=W) (fun z _=>rs.length - (intOf z).toNat)
 case atStart=>exact⟨0,Nat.zero_le _,rfl,fun a x h=>absurd h (Nat.not_lt_zero _),rfl⟩
 case round=>
  obtain⟨j,hj,rfl,hno,hwr⟩:=hrel;subst wr;have NO:=hd_ hno;clear hno
  by_cases hlt:j<rs.length
  ·obtain⟨lb,hlb⟩:∃l,rs[j]? =some l:=⟨_,List.getElem?_eq_getElem hlt⟩
   obtain⟨g6,xb,cb,fb,eg,_,_,rb,rbc,rbm,b3⟩:=row_at RR.out hlb;cases eg;have IB:Hid (Ints W (.slice xb lb.length cb) lb):=hd_ (by
        obtain⟨v,ev,ho,_⟩:=intsR_to rb
        cases ev
        exact ho)
   have HLB:=hd_ hlb;unfold maxLen at rbm;have j0:(0:Int)<=(j:Int):=by omega
   have j1:(j:Int)<(rs.length:Int):=by omega
   clear rb hlb;go_wp2;go_loopw [6] (fun z wr=>∃q:Nat,q<=lb.length/\z=.int .i64 q/\(∀a:Nat,a<q->in6 (lb.getD a 0) 0 63=true)/\wr=W) (fun z _=>lb.length - (intOf z).toNat)
   case atStart=>exact⟨0,Nat.zero_le _,rfl,fun a h=>absurd h (Nat.not_lt_zero _),rfl⟩
   case round=>
    obtain⟨q,hq,rfl,hin,hwr⟩:=hrel;subst wr;have IN:=hd_ hin;clear hin
    by_cases hql:q<lb.length
    ·obtain⟨b6,o6,rfl,c6⟩:=ints_el IB.out hql
     have KI:=hd_ (in6_at (lb.getD q 0) 0 63 W);have HV:=hd_ (fun (h:in6 (lb.getD q 0) 0 63=false)=>row_bad hql h);have IN2:Hid (in6 (lb.getD q 0) 0 63=true->∀a:Nat,a<q+1->in6 (lb.getD a 0) 0 63=true):=hd_ fun h a ha=>by
      by_cases e:a<q
      ·exact IN.out a e
      ·obtain rfl:a=q:=by omega
       exact h
     obtain⟨v,hv⟩:∃v,v=lb.getD q 0:=⟨_,rfl⟩
     rw[<-hv]at c6 KI HV IN2;clear hv;have q0:(0:Int)<=(q:Int):=by omega
     have q1:(q:Int)<(lb.length:Int):=by omega
     generalize in6 v 0 63=t at KI HV IN2
     go_wp2_with fail
     refine KI.out.mono ?_;rintro r w' ⟨rfl,hw'⟩;rw[hw'];clear hw' w' KI;cases t with
     |false=>
      have F:Hid (pastB n (i:Int)=false):=hd_ (by rw[FB.out];exact all_bad HLB.out (HV.out rfl));clear HV IN2;go_wp2;go_ret;exact⟨by rw[F.out];rfl,by have:=H.out.below;rwa[HP.out]at this⟩
     |true=>
      have IN3:=hd_ (IN2.out rfl);clear HV IN2;go_wp2;go_roundw
      case rel=>exact⟨q+1,by omega,by go_num,IN3.out,by first|rfl|trivial⟩
      case measure=>simp[intOf];omega
    ·obtain rfl:q=lb.length:=by omega
     by_cases hg:100<lb.length
     ·have F:Hid (pastB n (i:Int)=false):=hd_ (by rw[FB.out];exact all_bad HLB.out (row_long hg))
      have gg:decide ((100:Int)<(lb.length:Int))=true:=by simp;omega
      clear hg;go_wp2;go_ret;exact⟨by rw[F.out];rfl,by have:=H.out.below;rwa[HP.out]at this⟩
     ·have RO:=hd_ (row_ok IN.out hg)
      have gg:decide ((100:Int)<(lb.length:Int))=false:=by simp;omega
      have NO2:Hid (∀(a:Nat) (x:List Int),a<j+1->rs[a]? =some x->rowB x=true):=hd_ fun a x ha hx=>by
       by_cases e:a<j
       ·exact NO.out a x e hx
       ·obtain rfl:a=j:=by omega
        rw[HLB.out]at hx;cases hx;exact RO.out
      clear hg;go_wp2;go_roundw
      case rel=>exact⟨j+1,by omega,by go_num,NO2.out,by first|rfl|trivial⟩
      case measure=>simp[intOf];omega
  ·have F:Hid (pastB n (i:Int)=true):=hd_ (by rw[FB.out];exact all_idx.2 fun a x hx=>NO.out a x (by have:=(List.getElem?_eq_some_iff.1 hx).1;omega) hx)
   obtain rfl:j=rs.length:=by omega
   go_wp2;go_ret;exact⟨by rw[F.out];rfl,by have:=H.out.below;rwa[HP.out]at this⟩
end N
end Go.Proofs.YtcblbdpdbggkbaaGreat
set_option linter.unusedVariables false
set_option linter.unusedSectionVars false
set_option linter.unusedSimpArgs false
namespace Go.Proofs.YtcblbdpdbggkbaaGreat
open Go.RowKit Go.Sort
namespace N
theorem in6_is {z lo hi:Int} {b:Bool} (h:b=in6 z lo hi) (w:World):Calls Tryz.prog 66 #[.int .i64 z,.int .i64 lo,.int .i64 hi] w fun e w'=>e=.returned (.bool b)/\w'=w:=by
 rw[h];exact in6_at z lo hi w
theorem spNodeOk_at (w:World) {x1 x4:Option Addr} {k1 c1 k4 c4:Nat} {v2 v3:Value} {n:Nt} (hn:NetRd w (.slice x1 k1 c1) v2 v3 (.slice x4 k4 c4) n) (hs:Shape n) {i:Nat} (i5:i<5) (hbn:1<=(nodeAt n i).born):
  Calls Tryz.prog 87 #[.agg #[.slice x1 k1 c1,v2,v3,.slice x4 k4 c4],.int .i64 (i:Int)] w fun r w'=>r=.returned (.bool (nodeB n i))/\Below w.heap.size w w':=by
 obtain⟨f1,n1⟩:=hn.nodes;obtain⟨f4,n4⟩:=hn.past;obtain rfl:k1=5:=(slcR_row n1).1.trans hs.nodes;obtain rfl:k4=5:=(slcR_row n4).1.trans hs.past;obtain⟨nd,hnd⟩:∃nd,n.nodes[i]? =some nd:=⟨_,List.getElem?_eq_getElem (by rw[hs.nodes];exact i5)⟩
 obtain⟨r0,hr0⟩:∃nd,n.nodes[0]? =some nd:=⟨_,List.getElem?_eq_getElem (by rw[hs.nodes];decide)⟩
 obtain⟨rs,hrs⟩:∃rs,n.past[i]? =some rs:=⟨_,List.getElem?_eq_getElem (by rw[hs.past];exact i5)⟩
 have eN:nodeAt n (i:Int)=nd:=by unfold nodeAt;rw[List.getD_eq_getElem?_getD,Int.toNat_natCast,hnd];rfl
 have e0:nodeAt n 0=r0:=by unfold nodeAt;rw[List.getD_eq_getElem?_getD,show (0:Int).toNat=0 from rfl,hr0];rfl
 have eR:rowsAt n (i:Int)=rs:=by unfold rowsAt;rw[List.getD_eq_getElem?_getD,Int.toNat_natCast,hrs];rfl
 have eL:=hs.rows i i5;rw[eN,eR]at eL;rw[eN]at hbn;obtain⟨j,hj⟩:∃j:Nat,nd.born=j:=⟨nd.born.toNat,by omega⟩
 obtain⟨lp,hlp⟩:∃lp,rs[j]? =some lp:=⟨_,List.getElem?_eq_getElem (by omega)⟩
 have eP:pastAt n (i:Int) nd.born=lp:=by unfold pastAt;rw[eR,List.getD_eq_getElem?_getD,hj,Int.toNat_natCast,hlp];rfl
 have jr:j<rs.length:=by omega
 have NB:Hid (nodeB n (i:Int)=((match findE nd.known (i:Int)with|some e=>decide (e.born=nd.born)&&decide (e.num=(lp.length:Int))|none=>false)&&(knownB n nd.known&&(if (i:Int)=0 then decide (nd.level=0)&&(decide (nd.up= -1)&&decide (0<=nd.beacon))else in6 nd.beacon 0 r0.beacon&&(in6 nd.level 1 5&&(decide (nd.up= -1↔nd.level=5)&&(in6 nd.up (-1) 4&&decide (nd.up≠(i:Int))))))))):=hd_ (by unfold nodeB ownB wayB;rw[eN,e0,eP];cases findE nd.known (i:Int)<;>rfl)
 have H0:=(M.start w).alloc #[.slice x1 5 c1,v2,v3,.slice x4 5 c4] 30;have HN:=hd_ hn;have HS:=hd_ hs;have hWB:=H0.below;obtain⟨g1,xk,ck,fk,rfl,_,_,rk,_,_,b0,b1,b2,b3,b4⟩:=node_at n1 hnd;obtain⟨_,xk0,ck0,fk0,eg,_,_,_,_,_,z0,z1,z2,z3,z4⟩:=node_at n1 hr0;cases eg;obtain⟨g4,xr,cr,fr,rfl,_,_,rr,_,_,y0⟩:=past_at n4 hrs;obtain⟨g5,xl,cl,fl,rfl,_,_,_,lc,lm,y1⟩:=row_at rr hlp;replace b0:=cell_later hWB b0
 replace b1:=cell_later hWB b1;replace b2:=cell_later hWB b2;replace b3:=cell_later hWB b3;replace b4:=cell_later hWB b4;replace z2:=cell_later hWB z2;replace y0:=cell_later hWB y0;replace y1:=cell_later hWB y1;rw[hj]at b0;have EJ:=hd_ hj;have RK:=hd_ rk;clear hn hs hnd hr0 hrs eN e0 eR eL hbn hlp eP hWB rr n1 n4 rk lc lm z0 z1 z3 z4;simp only[Nat.zero_mul,Nat.zero_add]at z2
 have i0:(0:Int)<=(i:Int):=by omega
 have i5':(i:Int)<5:=by omega
 have j0:(0:Int)<=(j:Int):=by omega
 have j1:(j:Int)<(rs.length:Int):=by omega
 clear jr hj;go_enter Tryz.func87,Tryz.ntmps87;obtain⟨p1,hp1⟩:∃p,p=w.heap.size:=⟨_,rfl⟩
 have HP:=hd_ hp1;obtain⟨w1,hw1⟩:∃W,W=w.alloc (.cells #[.slice (some ⟨g1,0,none⟩) 5 c1,v2,v3,.slice (some ⟨g4,0,none⟩) 5 c4] 30):=⟨_,rfl⟩
 rw[<-hw1]at H0 b0 b1 b2 b3 b4 z2 y0 y1;have hw01:Below w.heap.size w w1:=H0.below;have H1:=(H0.alloc #[.int .i64 (j:Int),.slice xk nd.known.length ck,.int .i64 nd.beacon,.int .i64 nd.level,.int .i64 nd.up] 55)
 have KO:=hd_ (spOwn_at (w1.alloc (.cells #[.int .i64 (j:Int),.slice xk nd.known.length ck,.int .i64 nd.beacon,.int .i64 nd.level,.int .i64 nd.up] 55)) ((slcR_frame entryR_frame _ _).below RK.out (hw01.trans (((M.start w1).alloc #[.int .i64 (j:Int),.slice xk nd.known.length ck,.int .i64 nd.beacon,.int .i64 nd.level,.int .i64 nd.up] 55).below.mono hw01.size)) lr_) (i:Int) (j:Int) nd.beacon nd.level nd.up)
 have C1:Hid (Cells w1 [(⟨g1,2,none⟩,.int .i64 r0.beacon),(⟨g4,i,none⟩,.slice (some ⟨g5,0,none⟩) rs.length cr),(⟨g5,j,none⟩,.slice xl lp.length cl)]):=hd_ ⟨z2,y0,y1,trivial⟩;have H:=hd_ H1;rw[hw1]at b0 b1 b2 b3 b4;clear H1 z2 y0 y1 hw01
 go_wp2_with fail
 rw[<-hw1];have hs1:w1.heap.size=w.heap.size+1:=by rw[hw1];simp
 obtain⟨p2,hp2⟩:∃p,p=w.heap.size+1:=⟨_,rfl⟩
 rw[hs1, <-hp2, <-hp1]at H;rw[<-hp2, <-hp1];clear hw1 hp1 hp2 b0 b1 b2 b3 b4 hs1;refine KO.out.mono ?_;rintro r w3 ⟨⟨u,rfl,hu⟩,hb⟩;have H2:=hd_ (H.out.later hb);have hb1:=((M.start w1).alloc #[.int .i64 (j:Int),.slice xk nd.known.length ck,.int .i64 nd.beacon,.int .i64 nd.level,.int .i64 nd.up] 55).below;have C2:=hd_ (C1.out.below (hb1.trans (hb.mono hb1.size)));clear hb KO H hb1
 rcases hu with ⟨e,V,he,_,rfl⟩|⟨he,rfl⟩
 case inr=>
  rw[he]at NB;have h3:=H2.out.alloc #[.int .i64 0,.int .i64 0,.int .i64 0,.slice none 0 0,.slice none 0 0,.slice none 0 0,.int .i64 0,.int .i64 0,.slice none 0 0,.int .i64 0] 64;have H9:=hd_ h3.drew;clear H2 h3 he;go_wp2;refine wp_region_plan 99 (.tk 0 6 (.alt 6 (.tk 7 24 .done) .nomore)) (fun w'=>True) (by kernel_rfl) (by kernel_rfl) (fun _ _ _ _ _ h=>h) trivial ?_
  repeat ((first|(refine plan_take (by rfl) (by rfl) ?_;apply Exists.intro;refine⟨fun w' hw'=>?_,?_⟩;(· ((try simp only[Cells,Cells_app,b4L,b5L,b6L,b7L,b10L,N.entL,and_true]at hw');go_simp;(try with_reducible rfl))))|(refine plan_skip (by rfl) (by rfl) ?_));simp only[Act.put,List.getElem_toArray,List.getElem_cons_succ,pg3,pg4,pg5,pg6])
  refine plan_last (by rfl) (fun K' hK=>?_);go_simp;refine hK _ _ (.inr trivial) ?_;clear hK K'
  try simp only[Act.put,List.getElem_toArray,List.getElem_cons_succ,pg3,pg4,pg5,pg6]
  repeat ((first|(refine plan_take (by rfl) (by rfl) ?_;apply Exists.intro;refine⟨fun w' hw'=>?_,?_⟩;(· ((try simp only[Cells,Cells_app,b4L,b5L,b6L,b7L,b10L,N.entL,and_true]at hw');go_simp;(try with_reducible rfl))))|(refine plan_skip (by rfl) (by rfl) ?_));simp only[Act.put,List.getElem_toArray,List.getElem_cons_succ,pg3,pg4,pg5,pg6])
  refine plan_done ?_;go_wp2;go_ret;exact⟨by rw[NB.out];rfl,by have:=H9.out.below;rwa[HP.out]at this⟩
 rw[he]at NB;have h3:=H2.out.alloc #[.int .i64 e.node,.int .i64 e.born,.int .i64 e.num,.slice V.xr V.nr V.cr,.slice V.xf V.nf V.cf,.slice V.xt V.nt V.ct,.int .i64 (e.s).lo,.int .i64 (e.s).al,.slice V.xk V.nk V.ck,.int .i64 (e.s).ka] 64;obtain⟨p3,hp3⟩:∃p,p=w3.heap.size:=⟨_,rfl⟩
 rw[<-hp3]at h3;obtain⟨w4,hw4⟩:∃W,W=w3.alloc (.cells #[.int .i64 e.node,.int .i64 e.born,.int .i64 e.num,.slice V.xr V.nr V.cr,.slice V.xf V.nf V.cf,.slice V.xt V.nt V.ct,.int .i64 (e.s).lo,.int .i64 (e.s).al,.slice V.xk V.nk V.ck,.int .i64 (e.s).ka] 64):=⟨_,rfl⟩
 rw[<-hw4]at h3;have hb4:Below w3.heap.size w3 w4:=by rw[hw4];exact (Below.refl _ _).alloc lr_ _
 have S0:Hid (Cells w4 (b4L p1 (.slice (some ⟨g1,0,none⟩) 5 c1) v2 v3 (.slice (some ⟨g4,0,none⟩) 5 c4)++(b5L p2 (.int .i64 (j:Int)) (.slice xk nd.known.length ck) (.int .i64 nd.beacon) (.int .i64 nd.level) (.int .i64 nd.up)++(b10L p3 e.node e.born e.num V e.s++[(⟨g1,2,none⟩,.int .i64 r0.beacon),(⟨g4,i,none⟩,.slice (some ⟨g5,0,none⟩) rs.length cr),(⟨g5,j,none⟩,.slice xl lp.length cl)])))):=hd_ (by
    obtain⟨y0,y1,y2,y3,y4,y5,y6,y7,y8,y9⟩:=h3.cells10
    obtain⟨z0,z1,z2,z3,z4⟩:=h3.p1.cells5
    obtain⟨x0,x1,x2,x3⟩:=h3.p2.cells4
    obtain⟨t1,t2,t3,_⟩:=C2.out.below hb4
    exact⟨x0,x1,x2,x3,z0,z1,z2,z3,z4,y0,y1,y2,y3,y4,y5,y6,y7,y8,y9,t1,t2,t3,trivial⟩)
 obtain⟨W,hW⟩:∃W,W=w4.drew:=⟨_,rfl⟩
 have h4:=h3.drew;rw[<-hW]at h4;have S1:=hd_ (S0.out.below (Below.drew (Below.refl _ _)));rw[<-hW]at S1;have EW:=hd_ hW;have H4:=hd_ h4;have hWB:=h4.below;rw[HP.out]at hWB;have KN:=hd_ (spKnown_at W (HN.out.below hWB lr_) HS.out ((slcR_frame entryR_frame _ _).below RK.out hWB lr_));clear h3 h4 H2 hW hWB hb4 C2 he;obtain⟨s1,hs1⟩:∃b,b=knownB n nd.known:=⟨_,rfl⟩
 rw[<-hs1]at KN NB;clear hs1;go_wp2;rw[<-hp3, <-hw4];clear hp3 hw4;rcases s1 with _|_
 case false=>
  refine wp_region_plan 99 (.tk 0 6 (.alt 6 (.tk 7 24 .done) .nomore)) (fun w'=>Cells w' (b4L p1 (.slice (some ⟨g1,0,none⟩) 5 c1) v2 v3 (.slice (some ⟨g4,0,none⟩) 5 c4)++(b5L p2 (.int .i64 (j:Int)) (.slice xk nd.known.length ck) (.int .i64 nd.beacon) (.int .i64 nd.level) (.int .i64 nd.up)++(b10L p3 e.node e.born e.num V e.s++[(⟨g1,2,none⟩,.int .i64 r0.beacon),(⟨g4,i,none⟩,.slice (some ⟨g5,0,none⟩) rs.length cr),(⟨g5,j,none⟩,.slice xl lp.length cl)])))) (by kernel_rfl) (by kernel_rfl) (fun _ _ _ _ _ h=>h) (S0.out.below (Below.drew (Below.refl _ _))) ?_
  rw[<-EW.out]
  repeat ((first|(refine plan_take (by rfl) (by rfl) ?_;apply Exists.intro;refine⟨fun w' hw'=>?_,?_⟩;(· ((try simp only[Cells,Cells_app,b4L,b5L,b6L,b7L,b10L,N.entL,and_true]at hw');go_simp;(try with_reducible rfl))))|(refine plan_skip (by rfl) (by rfl) ?_));simp only[Act.put,List.getElem_toArray,List.getElem_cons_succ,pg3,pg4,pg5,pg6])
  refine plan_last (by rfl) (fun K' hK=>?_);go_simp;refine KN.out.mono ?_;rintro r w5 ⟨rfl,hb⟩;have H9:=hd_ (H4.out.later hb);have S9:=hd_ (S1.out.below hb);refine hK _ _ (.inr S9.out) ?_;clear hK K'
  try simp only[Act.put,List.getElem_toArray,List.getElem_cons_succ,pg3,pg4,pg5,pg6]
  clear hb KN
  repeat ((first|(refine plan_take (by rfl) (by rfl) ?_;apply Exists.intro;refine⟨fun w' hw'=>?_,?_⟩;(· ((try simp only[Cells,Cells_app,b4L,b5L,b6L,b7L,b10L,N.entL,and_true]at hw');go_simp;(try with_reducible rfl))))|(refine plan_skip (by rfl) (by rfl) ?_));simp only[Act.put,List.getElem_toArray,List.getElem_cons_succ,pg3,pg4,pg5,pg6])
  refine plan_done ?_;go_wp2;go_ret;exact⟨by rw[NB.out];simp,by have:=H9.out.below;rwa[HP.out]at this⟩
 by_cases eb:e.born=(j:Int)
 case neg=>
  have g1':(e.born != (j:Int))=true:=by simpa using eb
  have F:=hd_ (show decide (e.born=nd.born)=false from decide_eq_false (by rw[EJ.out];exact eb));clear eb
  refine wp_region_plan 99 (.tk 0 6 (.alt 6 (.tk 7 24 .done) .nomore)) (fun w'=>Cells w' (b4L p1 (.slice (some ⟨g1,0,none⟩) 5 c1) v2 v3 (.slice (some ⟨g4,0,none⟩) 5 c4)++(b5L p2 (.int .i64 (j:Int)) (.slice xk nd.known.length ck) (.int .i64 nd.beacon) (.int .i64 nd.level) (.int .i64 nd.up)++(b10L p3 e.node e.born e.num V e.s++[(⟨g1,2,none⟩,.int .i64 r0.beacon),(⟨g4,i,none⟩,.slice (some ⟨g5,0,none⟩) rs.length cr),(⟨g5,j,none⟩,.slice xl lp.length cl)])))) (by kernel_rfl) (by kernel_rfl) (fun _ _ _ _ _ h=>h) (S0.out.below (Below.drew (Below.refl _ _))) ?_
  rw[<-EW.out]
  repeat ((first|(refine plan_take (by rfl) (by rfl) ?_;apply Exists.intro;refine⟨fun w' hw'=>?_,?_⟩;(· ((try simp only[Cells,Cells_app,b4L,b5L,b6L,b7L,b10L,N.entL,and_true]at hw');go_simp;(try with_reducible rfl))))|(refine plan_skip (by rfl) (by rfl) ?_));simp only[Act.put,List.getElem_toArray,List.getElem_cons_succ,pg3,pg4,pg5,pg6])
  refine plan_last (by rfl) (fun K' hK=>?_);go_simp;refine KN.out.mono ?_;rintro r w5 ⟨rfl,hb⟩;have H9:=hd_ (H4.out.later hb);have S9:=hd_ (S1.out.below hb);refine hK _ _ (.inr S9.out) ?_;clear hK K'
  try simp only[Act.put,List.getElem_toArray,List.getElem_cons_succ,pg3,pg4,pg5,pg6]
  clear hb KN
  repeat ((first|(refine plan_take (by rfl) (by rfl) ?_;apply Exists.intro;refine⟨fun w' hw'=>?_,?_⟩;(· ((try simp only[Cells,Cells_app,b4L,b5L,b6L,b7L,b10L,N.entL,and_true]at hw');go_simp;(try with_reducible rfl))))|(refine plan_skip (by rfl) (by rfl) ?_));simp only[Act.put,List.getElem_toArray,List.getElem_cons_succ,pg3,pg4,pg5,pg6])
  refine plan_done ?_;go_wp2;go_ret;exact⟨by rw[NB.out];rw[F.out];rfl,by have:=H9.out.below;rwa[HP.out]at this⟩
 have g1':(e.born != (j:Int))=false:=by simpa using eb
 have F1:=hd_ (show decide (e.born=nd.born)=true from decide_eq_true (by rw[EJ.out];exact eb));clear eb
 by_cases en:e.num=(lp.length:Int)
 case neg=>
  have g2':(e.num != (lp.length:Int))=true:=by simpa using en
  have F:=hd_ (show decide (e.num=(lp.length:Int))=false from decide_eq_false en);clear en
  refine wp_region_plan 99 (.tk 0 6 (.alt 6 (.tk 7 24 .done) .nomore)) (fun w'=>Cells w' (b4L p1 (.slice (some ⟨g1,0,none⟩) 5 c1) v2 v3 (.slice (some ⟨g4,0,none⟩) 5 c4)++(b5L p2 (.int .i64 (j:Int)) (.slice xk nd.known.length ck) (.int .i64 nd.beacon) (.int .i64 nd.level) (.int .i64 nd.up)++(b10L p3 e.node e.born e.num V e.s++[(⟨g1,2,none⟩,.int .i64 r0.beacon),(⟨g4,i,none⟩,.slice (some ⟨g5,0,none⟩) rs.length cr),(⟨g5,j,none⟩,.slice xl lp.length cl)])))) (by kernel_rfl) (by kernel_rfl) (fun _ _ _ _ _ h=>h) (S0.out.below (Below.drew (Below.refl _ _))) ?_
  rw[<-EW.out]
  repeat ((first|(refine plan_take (by rfl) (by rfl) ?_;apply Exists.intro;refine⟨fun w' hw'=>?_,?_⟩;(· ((try simp only[Cells,Cells_app,b4L,b5L,b6L,b7L,b10L,N.entL,and_true]at hw');go_simp;(try with_reducible rfl))))|(refine plan_skip (by rfl) (by rfl) ?_));simp only[Act.put,List.getElem_toArray,List.getElem_cons_succ,pg3,pg4,pg5,pg6])
  refine plan_last (by rfl) (fun K' hK=>?_);go_simp;refine KN.out.mono ?_;rintro r w5 ⟨rfl,hb⟩;have H9:=hd_ (H4.out.later hb);have S9:=hd_ (S1.out.below hb);refine hK _ _ (.inr S9.out) ?_;clear hK K'
  try simp only[Act.put,List.getElem_toArray,List.getElem_cons_succ,pg3,pg4,pg5,pg6]
  clear hb KN
  repeat ((first|(refine plan_take (by rfl) (by rfl) ?_;apply Exists.intro;refine⟨fun w' hw'=>?_,?_⟩;(· ((try simp only[Cells,Cells_app,b4L,b5L,b6L,b7L,b10L,N.entL,and_true]at hw');go_simp;(try with_reducible rfl))))|(refine plan_skip (by rfl) (by rfl) ?_));simp only[Act.put,List.getElem_toArray,List.getElem_cons_succ,pg3,pg4,pg5,pg6])
  refine plan_done ?_;go_wp2;go_ret;exact⟨by rw[NB.out];rw[F.out];simp,by have:=H9.out.below;rwa[HP.out]at this⟩
 have g2':(e.num != (lp.length:Int))=false:=by simpa using en
 have F2:=hd_ (show decide (e.num=(lp.length:Int))=true from decide_eq_true en);clear en
 refine wp_region_plan 99 (.tk 0 6 (.alt 6 (.tk 7 24 .done) .nomore)) (fun w'=>Cells w' (b4L p1 (.slice (some ⟨g1,0,none⟩) 5 c1) v2 v3 (.slice (some ⟨g4,0,none⟩) 5 c4)++(b5L p2 (.int .i64 (j:Int)) (.slice xk nd.known.length ck) (.int .i64 nd.beacon) (.int .i64 nd.level) (.int .i64 nd.up)++(b10L p3 e.node e.born e.num V e.s++[(⟨g1,2,none⟩,.int .i64 r0.beacon),(⟨g4,i,none⟩,.slice (some ⟨g5,0,none⟩) rs.length cr),(⟨g5,j,none⟩,.slice xl lp.length cl)])))) (by kernel_rfl) (by kernel_rfl) (fun _ _ _ _ _ h=>h) (S0.out.below (Below.drew (Below.refl _ _))) ?_
 rw[<-EW.out]
 repeat ((first|(refine plan_take (by rfl) (by rfl) ?_;apply Exists.intro;refine⟨fun w' hw'=>?_,?_⟩;(· ((try simp only[Cells,Cells_app,b4L,b5L,b6L,b7L,b10L,N.entL,and_true]at hw');go_simp;(try with_reducible rfl))))|(refine plan_skip (by rfl) (by rfl) ?_));simp only[Act.put,List.getElem_toArray,List.getElem_cons_succ,pg3,pg4,pg5,pg6])
 refine plan_last (by rfl) (fun K' hK=>?_);go_simp;refine KN.out.mono ?_;rintro r w5 ⟨rfl,hb⟩;have H9:=hd_ (H4.out.later hb);have S9:=hd_ (S1.out.below hb);refine hK _ _ (.inr S9.out) ?_;clear hK K'
 try simp only[Act.put,List.getElem_toArray,List.getElem_cons_succ,pg3,pg4,pg5,pg6]
 clear hb KN
 repeat ((first|(refine plan_take (by rfl) (by rfl) ?_;apply Exists.intro;refine⟨fun w' hw'=>?_,?_⟩;(· ((try simp only[Cells,Cells_app,b4L,b5L,b6L,b7L,b10L,N.entL,and_true]at hw');go_simp;(try with_reducible rfl))))|(refine plan_skip (by rfl) (by rfl) ?_));simp only[Act.put,List.getElem_toArray,List.getElem_cons_succ,pg3,pg4,pg5,pg6])
 refine plan_done ?_;clear S0 S1 H4 EW;rw[F1.out,F2.out]at NB;obtain⟨y0,y1,y2,y3⟩:=H9.out.p2.cells4;obtain⟨z0,z1,z2,z3,z4⟩:=H9.out.p1.cells5
 by_cases hi:i=0
 ·subst hi
  obtain⟨l0,hl0⟩:∃b,b=(nd.level==0):=⟨_,rfl⟩
  obtain⟨u0,hu0⟩:∃b,b=(nd.up== -1):=⟨_,rfl⟩
  obtain⟨b0,hb0⟩:∃b,b=decide (0<=nd.beacon):=⟨_,rfl⟩
  have NB2:Hid (nodeB n ((0:Nat):Int)=(l0&&(u0&&b0))):=hd_ (by rw[NB.out,if_pos (by rfl),hl0,hu0,hb0];rfl);have ga:=hl0.symm;have gb:=hu0.symm;have gc:=hb0.symm;clear hl0 hu0 hb0 NB S9;refine steps2 (a:=l0) (b:=u0) ?_ ?_ ?_
  all_goals
   first
    |(intro e1 e2;subst e1 e2)
    |(intro e1;subst e1)
   go_wp2;go_ret;exact⟨by rw[NB2.out];rfl,by have:=H9.out.below;rwa[HP.out]at this⟩
 have hi':((i:Int)==0)=false:=by simpa using hi
 obtain⟨s2,hs2⟩:∃b,b=in6 nd.beacon 0 r0.beacon:=⟨_,rfl⟩
 obtain⟨s3,hs3⟩:∃b,b=in6 nd.level 1 5:=⟨_,rfl⟩
 obtain⟨t1,ht1⟩:∃b,b=(nd.up== -1):=⟨_,rfl⟩
 obtain⟨t2,ht2⟩:∃b,b=(nd.level==5):=⟨_,rfl⟩
 obtain⟨s5,hs5⟩:∃b,b=in6 nd.up (-1) 4:=⟨_,rfl⟩
 obtain⟨t3,ht3⟩:∃b,b=(nd.up != (i:Int)):=⟨_,rfl⟩
 have NB2:Hid (nodeB n (i:Int)=(s2&&(s3&&((t1==t2)&&(s5&&t3))))):=hd_ (by
    rw[NB.out,if_neg (by simpa using hi),hs2,hs3,hs5]
    have e1:decide (nd.up= -1↔nd.level=5)=(t1==t2):=by
      rw[ht1,ht2]
      exact dec_iff _ _
    have e2:decide (nd.up≠(i:Int))=t3:=by
      rw[ht3]
      simp only[ne_eq,decide_not];rfl
    rw[e1,e2];simp)
 have K2:=hd_ (in6_is hs2);have K3:=hd_ (in6_is hs3);have K5:=hd_ (in6_is hs5);have ga:=ht1.symm;have gb:=ht2.symm;have gc:=ht3.symm;clear hs2 hs3 ht1 ht2 hs5 ht3 NB;have S8:=hd_ (S9.out.below (Below.drew (Below.refl _ _)));obtain⟨W8,hW8⟩:∃W,W=w5.drew:=⟨_,rfl⟩
 have H8:=H9.out.drew;rw[<-hW8]at H8 S8;have EW8:=hd_ hW8;replace H9:=hd_ H8;clear H8 S9 hW8;obtain⟨tt,htt⟩:∃b,b=(t1==t2):=⟨_,rfl⟩
 rw[<-htt]at NB2;have gd:=htt.symm;clear htt;refine steps5 (a:=s2) (b:=s3) (c:=tt) (d:=s5) (e:=t3) ?_ ?_ ?_ ?_ ?_ ?_
 all_goals
  first
   |(intro e1 e2 e3 e4 e5;subst e1 e2 e3 e4 e5)
   |(intro e1 e2 e3 e4;subst e1 e2 e3 e4)
   |(intro e1 e2 e3;subst e1 e2 e3)
   |(intro e1 e2;subst e1 e2)
   |(intro e1;subst e1)
  go_wp2
  refine wp_region_plan 99 (.tk 0 7 (.alt 7 (.tk 8 3 (.alt 11 (.tk 12 17 (.alt 29 (.tk 30 7 (.alt 37 .done .nomore)) .nomore)) .nomore)) .nomore)) (fun w'=>Cells w' (b4L p1 (.slice (some ⟨g1,0,none⟩) 5 c1) v2 v3 (.slice (some ⟨g4,0,none⟩) 5 c4)++(b5L p2 (.int .i64 (j:Int)) (.slice xk nd.known.length ck) (.int .i64 nd.beacon) (.int .i64 nd.level) (.int .i64 nd.up)++(b10L p3 e.node e.born e.num V e.s++[(⟨g1,2,none⟩,.int .i64 r0.beacon),(⟨g4,i,none⟩,.slice (some ⟨g5,0,none⟩) rs.length cr),(⟨g5,j,none⟩,.slice xl lp.length cl)])))) (by kernel_rfl) (by kernel_rfl) (fun _ _ _ _ _ h=>h) (by rw[<-EW8.out];exact S8.out) ?_
  rw[<-EW8.out]
  repeat ((first|(refine plan_take (by rfl) (by rfl) ?_;apply Exists.intro;refine⟨fun w' hw'=>?_,?_⟩;(· ((try simp only[Cells,Cells_app,b4L,b5L,b6L,b7L,b10L,N.entL,and_true]at hw');go_simp;(try with_reducible rfl))))|(refine plan_skip (by rfl) (by rfl) ?_));simp only[Act.put,List.getElem_toArray,List.getElem_cons_succ,pg3,pg4,pg5,pg6])
  refine plan_last (by rfl) (fun K' hK=>?_);go_simp;refine (K2.out W8).mono ?_;rintro e' w' ⟨rfl,hw'⟩;rw[hw'];clear hw' w';refine hK _ _ (.inr S8.out) ?_;clear hK K'
  try simp only[Act.put,List.getElem_toArray,List.getElem_cons_succ,pg3,pg4,pg5,pg6]
  repeat ((first|(refine plan_take (by rfl) (by rfl) ?_;apply Exists.intro;refine⟨fun w' hw'=>?_,?_⟩;(· ((try simp only[Cells,Cells_app,b4L,b5L,b6L,b7L,b10L,N.entL,and_true]at hw');go_simp;(try with_reducible rfl))))|(refine plan_skip (by rfl) (by rfl) ?_));simp only[Act.put,List.getElem_toArray,List.getElem_cons_succ,pg3,pg4,pg5,pg6])
  refine plan_last (by rfl) (fun K' hK=>?_);go_simp
  first
   |(refine (K3.out W8).mono ?_;rintro e' w' ⟨rfl,hw'⟩;rw[hw'];clear hw' w';refine hK _ _ (.inr S8.out) ?_)
   |refine hK _ _ (.inr S8.out) ?_
  clear hK K'
  repeat ((first|(refine plan_take (by rfl) (by rfl) ?_;apply Exists.intro;refine⟨fun w' hw'=>?_,?_⟩;(· ((try simp only[Cells,Cells_app,b4L,b5L,b6L,b7L,b10L,N.entL,and_true]at hw');go_simp;(try with_reducible rfl))))|(refine plan_skip (by rfl) (by rfl) ?_));simp only[Act.put,List.getElem_toArray,List.getElem_cons_succ,pg3,pg4,pg5,pg6])
  refine plan_last (by rfl) (fun K' hK=>?_);go_simp
  first
   |(refine (K5.out W8).mono ?_;rintro e' w' ⟨rfl,hw'⟩;rw[hw'];clear hw' w';refine hK _ _ (.inr S8.out) ?_)
   |refine hK _ _ (.inr S8.out) ?_
  clear hK K'
  repeat ((first|(refine plan_take (by rfl) (by rfl) ?_;apply Exists.intro;refine⟨fun w' hw'=>?_,?_⟩;(· ((try simp only[Cells,Cells_app,b4L,b5L,b6L,b7L,b10L,N.entL,and_true]at hw');go_simp;(try with_reducible rfl))))|(refine plan_skip (by rfl) (by rfl) ?_));simp only[Act.put,List.getElem_toArray,List.getElem_cons_succ,pg3,pg4,pg5,pg6])
  refine plan_last (by rfl) (fun K' hK=>?_);go_simp;refine hK _ _ (.inr S8.out) ?_;clear hK K'
  repeat ((first|(refine plan_take (by rfl) (by rfl) ?_;apply Exists.intro;refine⟨fun w' hw'=>?_,?_⟩;(· ((try simp only[Cells,Cells_app,b4L,b5L,b6L,b7L,b10L,N.entL,and_true]at hw');go_simp;(try with_reducible rfl))))|(refine plan_skip (by rfl) (by rfl) ?_));simp only[Act.put,List.getElem_toArray,List.getElem_cons_succ,pg3,pg4,pg5,pg6])
  refine plan_done ?_;go_wp2;go_ret;exact⟨by rw[NB2.out];rfl,by have:=H9.out.below;rwa[HP.out]at this⟩
end N
end Go.Proofs.YtcblbdpdbggkbaaGreat
set_option linter.unusedVariables false
set_option linter.unusedSectionVars false
set_option linter.unusedSimpArgs false
namespace Go.Proofs.YtcblbdpdbggkbaaGreat
open Go.RowKit Go.Sort
namespace N
theorem spWordOk_at (w:World) {x1 x4 xk:Option Addr} {k1 c1 k4 c4 k ck:Nat} {v2 v3:Value} {n:Nt} {x:Wd} {f:List Nat} (hn:NetRd w (.slice x1 k1 c1) v2 v3 (.slice x4 k4 c4) n) (hs:Shape n) (hk:knownR TY w [.slice xk k ck] x.known f):
  Calls Tryz.prog 88 #[.agg #[.slice x1 k1 c1,v2,v3,.slice x4 k4 c4],.agg #[.int .i64 x.kind,.int .i64 x.src,.int .i64 x.dst,.int .i64 x.beacon,.int .i64 x.level,.slice xk k ck]] w fun r w'=>r=.returned (.bool (wordB n x))/\Below w.heap.size w w':=by
 obtain⟨kind,src,dst,beacon,level,es⟩:=x;simp only at hk ⊢;obtain rfl:k=es.length:=(slcR_row hk).1;obtain⟨_,_,e1,q1,q2⟩:=slcR_value hk;have hm:es.length<=maxLen:=Nat.le_trans q1 q2;unfold maxLen at hm;clear e1 q1 q2;obtain⟨f1,n1⟩:=hn.nodes;obtain rfl:k1=5:=(slcR_row n1).1.trans hs.nodes;obtain⟨r0,hr0⟩:∃nd,n.nodes[0]? =some nd:=⟨_,List.getElem?_eq_getElem (by rw[hs.nodes];decide)⟩
 have e0:nodeAt n 0=r0:=by unfold nodeAt;rw[List.getD_eq_getElem?_getD,show (0:Int).toNat=0 from rfl,hr0];rfl
 have WB:Hid (wordB n ⟨kind,src,dst,beacon,level,es⟩=if kind=1 then (in6 src 0 4&&(in6 dst 0 4&&decide (src≠dst)))&&(in6 beacon 0 r0.beacon&&(in6 level 0 4&&decide (es.length=0)))else if kind=2 then (in6 src 0 4&&(in6 dst 0 4&&decide (src≠dst)))&&(decide (beacon=0)&&(decide (level=0)&&knownB n es))else false):=hd_ (by unfold wordB endsB;rw[e0])
 have H0:=((M.start w).alloc #[.slice x1 5 c1,v2,v3,.slice x4 k4 c4] 30).alloc #[.int .i64 kind,.int .i64 src,.int .i64 dst,.int .i64 beacon,.int .i64 level,.slice xk es.length ck] 123;simp only[World.size_alloc]at H0;have hWB:=H0.below;obtain⟨g1,xk0,ck0,fk0,rfl,_,_,_,_,_,z0,z1,z2,z3,z4⟩:=node_at ((slcR_frame nodeR_frame _ _).below n1 hWB lr_) hr0;simp only[Nat.zero_mul,Nat.zero_add]at z2
 clear z0 z1 z3 z4 hr0 e0 n1;obtain⟨W,hW⟩:∃W,W=(w.alloc (.cells #[.slice (some ⟨g1,0,none⟩) 5 c1,v2,v3,.slice x4 k4 c4] 30)).alloc (.cells #[.int .i64 kind,.int .i64 src,.int .i64 dst,.int .i64 beacon,.int .i64 level,.slice xk es.length ck] 123):=⟨_,rfl⟩
 rw[<-hW]at H0 hWB z2;obtain⟨p1,hp1⟩:∃p,p=w.heap.size:=⟨_,rfl⟩
 obtain⟨p2,hp2⟩:∃p,p=w.heap.size+1:=⟨_,rfl⟩
 rw[<-hp2, <-hp1]at H0;have HP:=hd_ hp1;have H:=hd_ H0;have KN:=hd_ (spKnown_at W (hn.below hWB lr_) hs ((slcR_frame entryR_frame _ _).below hk hWB lr_));obtain⟨a0,a1,a2,a3,a4,a5⟩:=H0.cells6;obtain⟨d0,d1,d2,d3⟩:=H0.p1.cells4
 have C0:Hid (Cells W.drew (b4L p1 (.slice (some ⟨g1,0,none⟩) 5 c1) v2 v3 (.slice x4 k4 c4)++(b6L p2 (.int .i64 kind) (.int .i64 src) (.int .i64 dst) (.int .i64 beacon) (.int .i64 level) (.slice xk es.length ck)++[(⟨g1,2,none⟩,.int .i64 r0.beacon)]))):=hd_ (by
    refine Cells.below (W:=W) ?_ (Below.drew (Below.refl _ _))
    exact⟨d0,d1,d2,d3,a0,a1,a2,a3,a4,a5,z2,trivial⟩)
 clear hn hs hk H0 hWB z2;obtain⟨s1,hs1⟩:∃b,b=in6 src 0 4:=⟨_,rfl⟩
 obtain⟨s2,hs2⟩:∃b,b=in6 dst 0 4:=⟨_,rfl⟩
 obtain⟨s3,hs3⟩:∃b,b=decide (src≠dst):=⟨_,rfl⟩
 obtain⟨s4,hs4⟩:∃b,b=in6 beacon 0 r0.beacon:=⟨_,rfl⟩
 obtain⟨s5,hs5⟩:∃b,b=in6 level 0 4:=⟨_,rfl⟩
 obtain⟨s6,hs6⟩:∃b,b=knownB n es:=⟨_,rfl⟩
 rw[<-hs1, <-hs2, <-hs3, <-hs4, <-hs5, <-hs6]at WB;rw[<-hs6]at KN;have K1:=hd_ (in6_is hs1);have K2:=hd_ (in6_is hs2);have K4:=hd_ (in6_is hs4);have K5:=hd_ (in6_is hs5);have g3:(src != dst)=s3:=by rw[hs3];by_cases q:src=dst<;>simp[q]
 clear hs1 hs2 hs3 hs4 hs5 hs6;have HB0:=hd_ (show Below w.heap.size w W.drew from by have:=H.out.drew.below;rwa[HP.out]at this);have HB1:=hd_ (show Below w.heap.size w W from by have:=H.out.below;rwa[HP.out]at this);obtain⟨e,he⟩:∃e:Bool,e=(s1&&(s2&&s3)):=⟨_,rfl⟩
 have WB2:Hid (wordB n ⟨kind,src,dst,beacon,level,es⟩=if kind=1 then e&&(s4&&(s5&&decide (es.length=0)))else if kind=2 then e&&(decide (beacon=0)&&(decide (level=0)&&s6))else false):=hd_ (by rw[WB.out,he]);have HE:=hd_ he;clear he WB;obtain⟨z1,hz1⟩:∃b,b=decide (es.length=0):=⟨_,rfl⟩
 obtain⟨z2,hz2⟩:∃b,b=(beacon==0):=⟨_,rfl⟩
 obtain⟨z3,hz3⟩:∃b,b=(level==0):=⟨_,rfl⟩
 have gz1:((es.length:Int)==0)=z1:=by rw[hz1];by_cases q:es.length=0<;>simp[q]
 have gz2:=hz2.symm;have gz3:=hz3.symm;rw[<-hz1,show decide (beacon=0)=z2 from hz2.symm,show decide (level=0)=z3 from hz3.symm]at WB2;clear hz1 hz2 hz3;rcases Decidable.em (kind=1)with rfl|k1
 ·rw[if_pos rfl]at WB2
  go_enter Tryz.func88,Tryz.ntmps88;have R:∀(P:Prop),(s1=false->e=false->P)->(s1=true->s2=false->e=false->P)->(s1=true->s2=true->s3=false->e=false->P)->(s1=true->s2=true->s3=true->e=true->s4=false->P)->(s1=true->s2=true->s3=true->e=true->s4=true->s5=false->P)->(s1=true->s2=true->s3=true->e=true->s4=true->s5=true->P)->P:=fun P h1 h2 h3 h4 h5 h6=>by
   have he:=HE.out;refine steps5 (a:=s1) (b:=s2) (c:=s3) (d:=s4) (e:=s5) (fun a=>h1 a (by rw[he,a];rfl)) (fun a b=>h2 a b (by rw[he,a,b];rfl)) (fun a b c=>h3 a b c (by rw[he,a,b,c];rfl)) (fun a b c d=>h4 a b c (by rw[he,a,b,c];rfl) d) (fun a b c d f=>h5 a b c (by rw[he,a,b,c];rfl) d f) (fun a b c d f=>h6 a b c (by rw[he,a,b,c];rfl) d f)
  clear HE;refine R _ ?_ ?_ ?_ ?_ ?_ ?_<;>clear R
  all_goals
   first
    |(intro e1 e2 e3 e4 e5 e6;subst e1 e2 e3 e4 e5 e6)
    |(intro e1 e2 e3 e4 e5;subst e1 e2 e3 e4 e5)
    |(intro e1 e2 e3 e4;subst e1 e2 e3 e4)
    |(intro e1 e2 e3;subst e1 e2 e3)
    |(intro e1 e2;subst e1 e2)
   go_wp2_with (first|((with_reducible refine (K1.out _).mono ?_);rintro e' w' ⟨rfl,hw'⟩;rw[hw'];clear hw' w')|((with_reducible refine (K2.out _).mono ?_);rintro e' w' ⟨rfl,hw'⟩;rw[hw'];clear hw' w'))
   rw[<-hp2, <-hp1, <-hW];clear hp2 hp1 hW
   refine wp_region_plan 99 (.tk 0 9 (.alt 9 (.tk 10 4 (.alt 14 (.tk 15 7 (.alt 22 .done .nomore)) .nomore)) .nomore)) (fun w'=>Cells w' (b4L p1 (.slice (some ⟨g1,0,none⟩) 5 c1) v2 v3 (.slice x4 k4 c4)++(b6L p2 (.int .i64 1) (.int .i64 src) (.int .i64 dst) (.int .i64 beacon) (.int .i64 level) (.slice xk es.length ck)++[(⟨g1,2,none⟩,.int .i64 r0.beacon)]))) (by kernel_rfl) (by kernel_rfl) (fun _ _ _ _ _ h=>h) C0.out ?_
   repeat ((first|(refine plan_take (by rfl) (by rfl) ?_;apply Exists.intro;refine⟨fun w' hw'=>?_,?_⟩;(· ((try simp only[Cells,Cells_app,b4L,b5L,b6L,b7L,b10L,N.entL,and_true]at hw');go_simp;(try with_reducible rfl))))|(refine plan_skip (by rfl) (by rfl) ?_));simp only[Act.put,List.getElem_toArray,List.getElem_cons_succ,pg3,pg4,pg5,pg6])
   refine plan_last (by rfl) (fun K' hK=>?_);go_simp
   first
    |(refine (K4.out _).mono ?_;rintro e' w' ⟨rfl,hw'⟩;rw[hw'];clear hw' w';refine hK _ _ (.inr C0.out) ?_)
    |refine hK _ _ (.inr C0.out) ?_
   clear hK K'
   repeat ((first|(refine plan_take (by rfl) (by rfl) ?_;apply Exists.intro;refine⟨fun w' hw'=>?_,?_⟩;(· ((try simp only[Cells,Cells_app,b4L,b5L,b6L,b7L,b10L,N.entL,and_true]at hw');go_simp;(try with_reducible rfl))))|(refine plan_skip (by rfl) (by rfl) ?_));simp only[Act.put,List.getElem_toArray,List.getElem_cons_succ,pg3,pg4,pg5,pg6])
   refine plan_last (by rfl) (fun K' hK=>?_);go_simp
   first
    |(refine (K5.out _).mono ?_;rintro e' w' ⟨rfl,hw'⟩;rw[hw'];clear hw' w';refine hK _ _ (.inr C0.out) ?_)
    |refine hK _ _ (.inr C0.out) ?_
   clear hK K'
   repeat ((first|(refine plan_take (by rfl) (by rfl) ?_;apply Exists.intro;refine⟨fun w' hw'=>?_,?_⟩;(· ((try simp only[Cells,Cells_app,b4L,b5L,b6L,b7L,b10L,N.entL,and_true]at hw');go_simp;(try with_reducible rfl))))|(refine plan_skip (by rfl) (by rfl) ?_));simp only[Act.put,List.getElem_toArray,List.getElem_cons_succ,pg3,pg4,pg5,pg6])
   refine plan_last (by rfl) (fun K' hK=>?_);go_simp;refine hK _ _ (.inr C0.out) ?_;clear hK K';refine plan_done ?_;go_wp2;go_ret;exact⟨by rw[WB2.out];rfl,HB0.out⟩
 rcases Decidable.em (kind=2)with rfl|k2
 ·rw[if_neg (by decide),if_pos rfl]at WB2
  go_enter Tryz.func88,Tryz.ntmps88;have R:∀(P:Prop),(s1=false->e=false->P)->(s1=true->s2=false->e=false->P)->(s1=true->s2=true->s3=false->e=false->P)->(s1=true->s2=true->s3=true->e=true->z2=false->P)->(s1=true->s2=true->s3=true->e=true->z2=true->z3=false->P)->(s1=true->s2=true->s3=true->e=true->z2=true->z3=true->P)->P:=fun P h1 h2 h3 h4 h5 h6=>by
   have he:=HE.out;refine steps5 (a:=s1) (b:=s2) (c:=s3) (d:=z2) (e:=z3) (fun a=>h1 a (by rw[he,a];rfl)) (fun a b=>h2 a b (by rw[he,a,b];rfl)) (fun a b c=>h3 a b c (by rw[he,a,b,c];rfl)) (fun a b c d=>h4 a b c (by rw[he,a,b,c];rfl) d) (fun a b c d f=>h5 a b c (by rw[he,a,b,c];rfl) d f) (fun a b c d f=>h6 a b c (by rw[he,a,b,c];rfl) d f)
  clear HE;refine R _ ?_ ?_ ?_ ?_ ?_ ?last<;>clear R
  case last=>
   intro e1 e2 e3 e4 e5 e6;subst e1 e2 e3 e4 e5 e6
   go_wp2_with (first|((with_reducible refine (K1.out _).mono ?_);rintro e' w' ⟨rfl,hw'⟩;rw[hw'];clear hw' w')|((with_reducible refine (K2.out _).mono ?_);rintro e' w' ⟨rfl,hw'⟩;rw[hw'];clear hw' w'))
   rw[<-hp2, <-hp1, <-hW];clear hp2 hp1 hW;refine KN.out.mono ?_;rintro e' w' ⟨rfl,hb⟩;have F:=hd_ (HB1.out.trans (hb.mono HB1.out.size));clear hb KN;go_wp2;go_ret;exact⟨by rw[WB2.out];simp,F.out⟩
  all_goals
   first
    |(intro e1 e2 e3 e4 e5 e6;subst e1 e2 e3 e4 e5 e6)
    |(intro e1 e2 e3 e4 e5;subst e1 e2 e3 e4 e5)
    |(intro e1 e2 e3 e4;subst e1 e2 e3 e4)
    |(intro e1 e2 e3;subst e1 e2 e3)
    |(intro e1 e2;subst e1 e2)
   go_wp2_with (first|((with_reducible refine (K1.out _).mono ?_);rintro e' w' ⟨rfl,hw'⟩;rw[hw'];clear hw' w')|((with_reducible refine (K2.out _).mono ?_);rintro e' w' ⟨rfl,hw'⟩;rw[hw'];clear hw' w'))
   go_ret;rw[<-hW];exact⟨by rw[WB2.out];rfl,HB1.out⟩
 ·rw[if_neg k1,if_neg k2]at WB2
  have g1':(kind==1)=false:=by simpa using k1
  have g2':(kind==2)=false:=by simpa using k2
  clear HE k1 k2;go_enter Tryz.func88,Tryz.ntmps88;refine steps2 (a:=s1) (b:=s2) ?_ ?_ ?_
  all_goals
   first
    |(intro e1 e2;subst e1 e2)
    |(intro e1;subst e1)
   go_wp2_with (first|((with_reducible refine (K1.out _).mono ?_);rintro e' w' ⟨rfl,hw'⟩;rw[hw'];clear hw' w')|((with_reducible refine (K2.out _).mono ?_);rintro e' w' ⟨rfl,hw'⟩;rw[hw'];clear hw' w'))
   go_ret;rw[<-hW];exact⟨by rw[WB2.out];rfl,HB1.out⟩
end N
end Go.Proofs.YtcblbdpdbggkbaaGreat
set_option linter.unusedVariables false
set_option linter.unusedSectionVars false
set_option linter.unusedSimpArgs false
namespace Go.Proofs.YtcblbdpdbggkbaaGreat
open Go.RowKit Go.Sort
namespace N
theorem spLink_at (w:World) (a b:Int) (h:0<=a/\a<=4/\0<=b/\b<=4):Calls Tryz.prog 67 #[.int .i64 a,.int .i64 b] w fun e w'=>e=.returned (.int .i64 (a * 5+b))/\w=w':=by
 obtain⟨h0,h1,h2,h3⟩:=h;go_enter Tryz.func67,Tryz.ntmps67;go_wp2;go_ret;exact⟨rfl,rfl⟩
theorem spLinkN_at (w:World) {a b:Int} (h:0<=a/\a<=4/\0<=b/\b<=4) {q:Nat} (hq:a * 5+b=q):Calls Tryz.prog 67 #[.int .i64 a,.int .i64 b] w fun e w'=>e=.returned (.int .i64 (q:Int))/\w=w':=by
 rw[<-hq];exact spLink_at w a b h
end N
end Go.Proofs.YtcblbdpdbggkbaaGreat
set_option linter.unusedVariables false
set_option linter.unusedSectionVars false
set_option linter.unusedSimpArgs false
namespace Go.Proofs.YtcblbdpdbggkbaaGreat
open Go.RowKit Go.Sort
namespace N
theorem seat_bad {n:Nt} {a:Nat} (h5:a<5) (h:seatB n a=false):okNB n=false:=by
 unfold okNB;rw[all_bad (i:=a) (a:=a) (p:=fun a:Nat=>seatB n a) (by rw[List.getElem?_range h5]) h];simp
theorem node_bad {n:Nt} {a:Nat} (h5:a<5) (h:nodeB n a=false):okNB n=false:=by
 unfold okNB;rw[all_bad (i:=a) (a:=a) (p:=fun a:Nat=>nodeB n a) (by rw[List.getElem?_range h5]) h];simp
theorem word_bad {n:Nt} {i:Nat} {x:Wd} (hi:n.words[i]? =some x) (h:wordB n x=false):okNB n=false:=by
 unfold okNB;rw[all_bad hi h];simp
theorem size_bad {n:Nt} (h:sizeB n=false):okNB n=false:=by unfold okNB;rw[h];rfl
theorem ok_all' {n:Nt} (h1:sizeB n=true) (h2:∀a:Nat,a<5->seatB n a=true) (h3:∀a:Nat,a<5->nodeB n a=true) (h4:∀(i:Nat) (x:Wd),n.words[i]? =some x->wordB n x=true):okNB n=in6 (nodeAt n 0).beacon 0 1000:=by
 unfold okNB;rw[h1,List.all_eq_true.2 (fun a ha=>h2 a (List.mem_range.1 ha)),List.all_eq_true.2 (fun a ha=>h3 a (List.mem_range.1 ha)),all_idx.2 h4]
 rfl
theorem shape_of {n:Nt} (h1:n.nodes.length=5) (h2:n.past.length=5) (h:∀a:Nat,a<5->seatB n a=true):Shape n:=by
 refine⟨h1,h2,fun i hi=>?_⟩;have:=h i hi;unfold seatB pastB at this;simp only[Bool.and_eq_true,decide_eq_true_eq]at this;exact this.2.1.1
theorem whole_at' {n:Nt} {a b:Nat} {u:Bool} (h:n.links[a * 5+b]? =some u):whole n (a:Int) (b:Int)=u:=by
 unfold whole;rw[List.getD_eq_getElem?_getD,show ((a:Int) * 5+(b:Int)).toNat=a * 5+b by omega,h];rfl
theorem spNetOk_at (w:World) {x1 x2 x3 x4:Option Addr} {k1 c1 k2 c2 k3 c3 k4 c4:Nat} {n:Nt} (hn:NetRd w (.slice x1 k1 c1) (.slice x2 k2 c2) (.slice x3 k3 c3) (.slice x4 k4 c4) n):
  Calls Tryz.prog 25 #[.agg #[.slice x1 k1 c1,.slice x2 k2 c2,.slice x3 k3 c3,.slice x4 k4 c4]] w fun r w'=>r=.returned (.bool (okNB n))/\Below w.heap.size w w':=by
 obtain⟨f1,n1⟩:=hn.nodes;obtain⟨f2,n2⟩:=hn.links;obtain⟨f3,n3⟩:=hn.words;obtain⟨f4,n4⟩:=hn.past;have e1:k1=n.nodes.length:=(slcR_row n1).1;have e2:k2=n.links.length:=(slcR_row n2).1;have e3:k3=n.words.length:=(slcR_row n3).1;have e4:k4=n.past.length:=(slcR_row n4).1;have m3:k3<=maxLen:=by obtain⟨_,_,q,q1,q2⟩:=slcR_value n3;rw[e3];exact Nat.le_trans q1 q2
 unfold maxLen at m3;have h0:=(M.start w).alloc #[.slice x1 k1 c1,.slice x2 k2 c2,.slice x3 k3 c3,.slice x4 k4 c4] 30;obtain⟨w1,hw1⟩:∃W,W=w.alloc (.cells #[.slice x1 k1 c1,.slice x2 k2 c2,.slice x3 k3 c3,.slice x4 k4 c4] 30):=⟨_,rfl⟩
 obtain⟨p1,hp1⟩:∃p,p=w.heap.size:=⟨_,rfl⟩
 have HP:=hd_ hp1;rw[<-hw1, <-hp1]at h0;have H:=hd_ h0;obtain⟨a0,a1,a2,a3⟩:=h0.cells4;have HN:=hd_ hn;have N1:=hd_ n1;have N2:=hd_ n2;have N3:=hd_ n3;have N4:=hd_ n4;have SB:Hid (sizeB n=(decide (k1=5)&&(decide (k4=5)&&(decide (k2=25)&&decide (k3<=24))))):=hd_ (by rw[e1,e2,e3,e4];rfl);have E1:=hd_ e1;have E2:=hd_ e2;have E3:=hd_ e3;have E4:=hd_ e4;clear hn n1 n2 n3 n4 e1 e2 e3 e4 h0
 obtain⟨q1,hq1⟩:∃b,b=decide (k1=5):=⟨_,rfl⟩
 obtain⟨q4,hq4⟩:∃b,b=decide (k4=5):=⟨_,rfl⟩
 obtain⟨q2,hq2⟩:∃b,b=decide (k2=25):=⟨_,rfl⟩
 obtain⟨q3,hq3⟩:∃b,b=decide (k3<=24):=⟨_,rfl⟩
 rw[<-hq1, <-hq4, <-hq2, <-hq3]at SB;have z1:((k1:Int) != 5)= !q1:=by rw[hq1];by_cases q:k1=5<;>simp[q];omega
 have z4:((k4:Int) != 5)= !q4:=by rw[hq4];by_cases q:k4=5<;>simp[q];omega
 have z2:((k2:Int) != 25)= !q2:=by rw[hq2];by_cases q:k2=25<;>simp[q];omega
 have z3:decide ((24:Int)<(k3:Int))= !q3:=by rw[hq3];by_cases q:k3<=24<;>simp[q]<;>omega
 go_enter Tryz.func25,Tryz.ntmps25;have QS:=hd_ (And.intro (And.intro hq1 hq4) (And.intro hq2 hq3));clear hq1 hq2 hq3 hq4;refine steps4 (a:=q1) (b:=q4) (c:=q2) (d:=q3) ?_ ?_ ?_ ?_ ?last
 case last=>
  intro e1 e2 e3 e4;subst e1 e2 e3 e4;obtain⟨⟨y1,y4⟩,y2,y3⟩:=QS.out;obtain rfl:=of_decide_eq_true y1.symm;obtain rfl:=of_decide_eq_true y4.symm;obtain rfl:=of_decide_eq_true y2.symm;have k24:=of_decide_eq_true y3.symm;clear y1 y2 y3 y4 QS z1 z2 z4 z3;have z3:decide ((24:Int)<(k3:Int))=false:=by simp;omega
  go_wp2;rw[<-hp1, <-hw1];clear hp1 hw1 a0 a1 a2 a3 z3;go_loopw [3] (fun z wr=>∃a:Nat,a<=5/\z=.int .i64 (a:Int)/\(∀b:Nat,b<a->seatB n b=true)/\M p1 w wr [boxC p1 30 #[.slice x1 5 c1,.slice x2 25 c2,.slice x3 k3 c3,.slice x4 5 c4]]) (fun z _=>5 - (intOf z).toNat)
  case atStart=>exact⟨0,Nat.zero_le _,rfl,fun b h=>absurd h (Nat.not_lt_zero _),H.out⟩
  case round=>
   clear H;obtain⟨a,ha5,rfl,hall,hm⟩:=hrel;have ALL:=hd_ hall;have H:=hd_ hm;clear hall hm;have hWB:Below w.heap.size w wr:=by have:=H.out.below;rwa[HP.out]at this
   by_cases hlt:a<5
   ·obtain⟨nd,hnd⟩:∃nd,n.nodes[a]? =some nd:=⟨_,List.getElem?_eq_getElem (by rw[<-E1.out];exact hlt)⟩
    obtain⟨u,hu⟩:∃u,n.links[a * 5+a]? =some u:=⟨_,List.getElem?_eq_getElem (by rw[<-E2.out];omega)⟩
    have eN:nodeAt n (a:Int)=nd:=by unfold nodeAt;rw[List.getD_eq_getElem?_getD,Int.toNat_natCast,hnd];rfl
    have eW:=whole_at' hu;obtain⟨g1,xk,ck,fk,rfl,_,_,_,_,_,b0,_⟩:=node_at N1.out hnd;obtain⟨g2,rfl,_,l0⟩:=link_at N2.out hu;replace b0:=cell_later hWB b0;replace l0:=cell_later hWB l0;obtain⟨q,hq⟩:∃q,q=a * 5+a:=⟨_,rfl⟩
    rw[<-hq]at l0;obtain⟨W,hW⟩:∃W,W=wr.drew:=⟨_,rfl⟩
    have h2:=H.out.drew;rw[<-hW]at h2;have EW:=hd_ hW;have H2:=hd_ h2;have hWB2:Below w.heap.size w W:=by have:=h2.below;rwa[HP.out]at this
    have C0:Hid (Cells W (b4L p1 (.slice (some ⟨g1,0,none⟩) 5 c1) (.slice (some ⟨g2,0,none⟩) 25 c2) (.slice x3 k3 c3) (.slice x4 5 c4)++[(⟨g1,a * 5,none⟩,.int .i64 nd.born),(⟨g2,q,none⟩,.bool u)])):=hd_ (by
          obtain⟨a0,a1,a2,a3⟩:=h2.cells4
          rw[hW]
          exact⟨by rw[<-hW];exact a0,by rw[<-hW];exact a1,by rw[<-hW];exact a2,by rw[<-hW];exact a3,b0,l0,trivial⟩)
    obtain⟨s1,hs1⟩:∃b,b=in6 nd.born 1 20:=⟨_,rfl⟩
    obtain⟨s2,hs2⟩:∃b,b=pastB n (a:Int):=⟨_,rfl⟩
    have SE:Hid (seatB n (a:Int)=(s1&&(s2&&((u==false)&&(List.range a).all fun b=>whole n (a:Int) (b:Int)==whole n (b:Int) (a:Int))))):=hd_ (by unfold seatB;rw[eN,eW,hs1,hs2,Int.toNat_natCast]);have K1:=hd_ (in6_is hs1)
    have K2:=hd_ (fun (q:s1=true)=>show Calls Tryz.prog 86 #[.agg #[.slice (some ⟨g1,0,none⟩) 5 c1,.slice (some ⟨g2,0,none⟩) 25 c2,.slice x3 k3 c3,.slice x4 5 c4],.int .i64 (a:Int)] W fun r w'=>r=.returned (.bool s2)/\Below W.heap.size W w' by
          have:=in6_iff.1 (hs1.symm.trans q)
          rw[hs2]
          exact spPastOk_at W (HN.out.below hWB2 lr_) E1.out.symm E4.out.symm hlt (by rw[eN];exact this))
    have K3:=hd_ (fun W=>spLinkN_at W (a:=(a:Int)) (b:=(a:Int)) (by omega) (q:=q) (by omega));have k0:(0:Int)<=(a:Int):=by omega
    have k1':(a:Int)<5:=by omega
    have kl0:(0:Int)<=(q:Int):=by omega
    have kl1:(q:Int)<25:=by omega
    clear hnd hu eN eW hWB b0 l0 hW hWB2 hs1 hs2 h2 hq;refine steps3 (a:=s1) (b:=s2) (c:= !u) ?l1 ?l2 ?l3 ?ok
    case ok=>
     intro e1 e2 e3;subst e1 e2;obtain rfl:u=false:=by simpa using e3
     have K2a:=hd_ (K2.out rfl);clear e3 K2;go_wp2
     refine wp_region_plan 99 (.tk 0 6 (.alt 6 (.tk 7 4 (.alt 11 (.tk 12 7 (.alt 19 (.tk 20 3 .done) .nomore)) .nomore)) .nomore)) (fun w'=>Cells w' (b4L p1 (.slice (some ⟨g1,0,none⟩) 5 c1) (.slice (some ⟨g2,0,none⟩) 25 c2) (.slice x3 k3 c3) (.slice x4 5 c4)++[(⟨g1,a * 5,none⟩,.int .i64 nd.born),(⟨g2,q,none⟩,.bool false)])) (by kernel_rfl) (by kernel_rfl) (fun _ _ _ _ _ h=>h) (by rw[<-EW.out];exact C0.out) ?_
     rw[<-EW.out]
     repeat ((first|(refine plan_take (by rfl) (by rfl) ?_;apply Exists.intro;refine⟨fun w' hw'=>?_,?_⟩;(· ((try simp only[Cells,Cells_app,b4L,b5L,b6L,b7L,b10L,N.entL,and_true]at hw');go_simp;(try with_reducible rfl))))|(refine plan_skip (by rfl) (by rfl) ?_));simp only[Act.put,List.getElem_toArray,List.getElem_cons_succ,pg3,pg4,pg5,pg6])
     refine plan_last (by rfl) (fun K' hK=>?_);go_simp;refine (K1.out W).mono ?_;rintro e' w' ⟨rfl,hw'⟩;rw[hw'];clear hw' w';refine hK _ _ (.inr C0.out) ?_;clear hK K'
     try simp only[Act.put,List.getElem_toArray,List.getElem_cons_succ,pg3,pg4,pg5,pg6]
     repeat ((first|(refine plan_take (by rfl) (by rfl) ?_;apply Exists.intro;refine⟨fun w' hw'=>?_,?_⟩;(· ((try simp only[Cells,Cells_app,b4L,b5L,b6L,b7L,b10L,N.entL,and_true]at hw');go_simp;(try with_reducible rfl))))|(refine plan_skip (by rfl) (by rfl) ?_));simp only[Act.put,List.getElem_toArray,List.getElem_cons_succ,pg3,pg4,pg5,pg6])
     refine plan_last (by rfl) (fun K' hK=>?_);go_simp;refine K2a.out.mono ?_;rintro e' w3 ⟨rfl,hb⟩;have C1:=hd_ (C0.out.below hb);have H3:=hd_ (H2.out.later hb);clear hb K2a;refine hK _ _ (.inr C1.out) ?_;clear hK K'
     try simp only[Act.put,List.getElem_toArray,List.getElem_cons_succ,pg3,pg4,pg5,pg6]
     repeat ((first|(refine plan_take (by rfl) (by rfl) ?_;apply Exists.intro;refine⟨fun w' hw'=>?_,?_⟩;(· ((try simp only[Cells,Cells_app,b4L,b5L,b6L,b7L,b10L,N.entL,and_true]at hw');go_simp;(try with_reducible rfl))))|(refine plan_skip (by rfl) (by rfl) ?_));simp only[Act.put,List.getElem_toArray,List.getElem_cons_succ,pg3,pg4,pg5,pg6])
     refine plan_last (by rfl) (fun K' hK=>?_);go_simp;refine (K3.out w3).mono ?_;rintro e' w' ⟨rfl,hw'⟩;rw[<-hw'];clear hw' w';refine hK _ _ (.inr C1.out) ?_;clear hK K'
     try simp only[Act.put,List.getElem_toArray,List.getElem_cons_succ,pg3,pg4,pg5,pg6]
     repeat ((first|(refine plan_take (by rfl) (by rfl) ?_;apply Exists.intro;refine⟨fun w' hw'=>?_,?_⟩;(· ((try simp only[Cells,Cells_app,b4L,b5L,b6L,b7L,b10L,N.entL,and_true]at hw');go_simp;(try with_reducible rfl))))|(refine plan_skip (by rfl) (by rfl) ?_));simp only[Act.put,List.getElem_toArray,List.getElem_cons_succ,pg3,pg4,pg5,pg6])
     refine plan_done ?_;go_wp2;clear C0 C1 H H2 EW K1 K3;go_loopw [4] (fun z wr=>∃b:Nat,b<=a/\z=.int .i64 (b:Int)/\(∀c:Nat,c<b->whole n (a:Int) (c:Int)=whole n (c:Int) (a:Int))/\M p1 w wr [boxC p1 30 #[.slice (some ⟨g1,0,none⟩) 5 c1,.slice (some ⟨g2,0,none⟩) 25 c2,.slice x3 k3 c3,.slice x4 5 c4]]) (fun z _=>a - (intOf z).toNat)
     case atStart=>exact⟨0,Nat.zero_le _,rfl,fun b h=>absurd h (Nat.not_lt_zero _),H3.out⟩
     case round=>
      clear H3;obtain⟨b,hba,rfl,hsym,hm⟩:=hrel;have SY:=hd_ hsym;have H:=hd_ hm;clear hsym hm;have hWB:Below w.heap.size w wr:=by have:=H.out.below;rwa[HP.out]at this
      by_cases hblt:b<a
      ·obtain⟨ua,hua⟩:∃u,n.links[a * 5+b]? =some u:=⟨_,List.getElem?_eq_getElem (by rw[<-E2.out];omega)⟩
       obtain⟨ub,hub⟩:∃u,n.links[b * 5+a]? =some u:=⟨_,List.getElem?_eq_getElem (by rw[<-E2.out];omega)⟩
       have eW1:=hd_ (whole_at' hua);have eW2:=hd_ (whole_at' hub);obtain⟨_,eg,_,l1⟩:=link_at N2.out hua;cases eg;obtain⟨_,eg,_,l2⟩:=link_at N2.out hub;cases eg;replace l1:=cell_later hWB l1;replace l2:=cell_later hWB l2;obtain⟨r1,hr1⟩:∃q,q=a * 5+b:=⟨_,rfl⟩
       obtain⟨r2,hr2⟩:∃q,q=b * 5+a:=⟨_,rfl⟩
       rw[<-hr1]at l1;rw[<-hr2]at l2;obtain⟨W,hW⟩:∃W,W=wr.drew:=⟨_,rfl⟩
       have h2:=H.out.drew;rw[<-hW]at h2;have EW:=hd_ hW;have H2:=hd_ h2;have C0:Hid (Cells W (b4L p1 (.slice (some ⟨g1,0,none⟩) 5 c1) (.slice (some ⟨g2,0,none⟩) 25 c2) (.slice x3 k3 c3) (.slice x4 5 c4)++[(⟨g2,r1,none⟩,.bool ua),(⟨g2,r2,none⟩,.bool ub)])):=hd_ (by
                obtain⟨a0,a1,a2,a3⟩:=h2.cells4
                rw[hW]
                exact⟨by rw[<-hW];exact a0,by rw[<-hW];exact a1,by rw[<-hW];exact a2,by rw[<-hW];exact a3,l1,l2,trivial⟩)
       have K3:=hd_ (fun W=>spLinkN_at W (a:=(a:Int)) (b:=(b:Int)) (by omega) (q:=r1) (by omega));have K4:=hd_ (fun W=>spLinkN_at W (a:=(b:Int)) (b:=(a:Int)) (by omega) (q:=r2) (by omega));have kb0:(0:Int)<=(r1:Int):=by omega
       have kb1:(r1:Int)<25:=by omega
       have kc0:(0:Int)<=(r2:Int):=by omega
       have kc1:(r2:Int)<25:=by omega
       have ib:(b:Int)<(a:Int):=by omega
       clear hua hub hWB l1 l2 hW h2 hr1 hr2;go_wp2
       refine wp_region_plan 99 (.tk 0 4 (.tk 7 4 (.alt 4 (.tk 5 2 (.alt 11 (.tk 12 3 .done) .nomore)) .nomore))) (fun w'=>Cells w' (b4L p1 (.slice (some ⟨g1,0,none⟩) 5 c1) (.slice (some ⟨g2,0,none⟩) 25 c2) (.slice x3 k3 c3) (.slice x4 5 c4)++[(⟨g2,r1,none⟩,.bool ua),(⟨g2,r2,none⟩,.bool ub)])) (by kernel_rfl) (by kernel_rfl) (fun _ _ _ _ _ h=>h) (by rw[<-EW.out];exact C0.out) ?_;rw[<-EW.out]
       repeat ((first|(refine plan_take (by rfl) (by rfl) ?_;apply Exists.intro;refine⟨fun w' hw'=>?_,?_⟩;(· ((try simp only[Cells,Cells_app,b4L,b5L,b6L,b7L,b10L,N.entL,and_true]at hw');go_simp;(try with_reducible rfl))))|(refine plan_skip (by rfl) (by rfl) ?_));simp only[Act.put,List.getElem_toArray,List.getElem_cons_succ,pg3,pg4,pg5,pg6])
       refine plan_last (by rfl) (fun K' hK=>?_);go_simp;refine (K3.out W).mono ?_;rintro e' w' ⟨rfl,hw'⟩;rw[<-hw'];clear hw' w';refine hK _ _ (.inr C0.out) ?_;clear hK K'
       try simp only[Act.put,List.getElem_toArray,List.getElem_cons_succ,pg3,pg4,pg5,pg6]
       repeat ((first|(refine plan_take (by rfl) (by rfl) ?_;apply Exists.intro;refine⟨fun w' hw'=>?_,?_⟩;(· ((try simp only[Cells,Cells_app,b4L,b5L,b6L,b7L,b10L,N.entL,and_true]at hw');go_simp;(try with_reducible rfl))))|(refine plan_skip (by rfl) (by rfl) ?_));simp only[Act.put,List.getElem_toArray,List.getElem_cons_succ,pg3,pg4,pg5,pg6])
       refine plan_last (by rfl) (fun K' hK=>?_);go_simp;refine (K4.out W).mono ?_;rintro e' w' ⟨rfl,hw'⟩;rw[<-hw'];clear hw' w';refine hK _ _ (.inr C0.out) ?_;clear hK K'
       try simp only[Act.put,List.getElem_toArray,List.getElem_cons_succ,pg3,pg4,pg5,pg6]
       repeat ((first|(refine plan_take (by rfl) (by rfl) ?_;apply Exists.intro;refine⟨fun w' hw'=>?_,?_⟩;(· ((try simp only[Cells,Cells_app,b4L,b5L,b6L,b7L,b10L,N.entL,and_true]at hw');go_simp;(try with_reducible rfl))))|(refine plan_skip (by rfl) (by rfl) ?_));simp only[Act.put,List.getElem_toArray,List.getElem_cons_succ,pg3,pg4,pg5,pg6])
       refine plan_done ?_;clear K3 K4 EW H;have SY2:Hid (ua=ub->∀c:Nat,c<b+1->whole n (a:Int) (c:Int)=whole n (c:Int) (a:Int)):=hd_ fun hq c hc=>by
        by_cases q:c<b
        ·exact SY.out c q
        ·obtain rfl:c=b:=by omega
         rw[eW1.out,eW2.out,hq]
       have F:Hid (ua≠ub->okNB n=false):=hd_ fun hq=>seat_bad hlt (by
                rw[SE.out]
                simp only[Bool.true_and,beq_self_eq_true]
                rw[all_bad (i:=b) (a:=b) (p:=fun b:Nat=>whole n (a:Int) (b:Int)==whole n (b:Int) (a:Int)) (by rw[List.getElem?_range hblt]) (by rw[eW1.out,eW2.out];simpa using hq)])
       clear C0 eW1 eW2 SY;rcases ua with _|_<;>rcases ub with _|_
       case false.false=>
        have SY3:=hd_ (SY2.out rfl);clear F SY2;go_wp2;go_roundw
        case rel=>exact⟨b+1,by omega,by go_num,SY3.out,H2.out⟩
        case measure=>simp[intOf];omega
       case true.true=>
        have SY3:=hd_ (SY2.out rfl);clear F SY2;go_wp2;go_roundw
        case rel=>exact⟨b+1,by omega,by go_num,SY3.out,H2.out⟩
        case measure=>simp[intOf];omega
       all_goals
        have F:=hd_ (F.out (by simp));clear SY2;go_wp2;go_ret;exact⟨by rw[F.out];rfl,by rw[<-HP.out];exact H2.out.below⟩
      ·obtain rfl:a=b:=by omega
       have ALL2:Hid (∀c:Nat,c<a+1->seatB n c=true):=hd_ fun c hc=>by
        by_cases q:c<a
        ·exact ALL.out c q
        ·obtain rfl:c=a:=by omega
         rw[SE.out,List.all_eq_true.2 fun d hd=>by rw[SY.out d (List.mem_range.1 hd)];simp]
         rfl
       go_wp2;go_roundw
       case rel=>exact⟨a+1,by omega,by go_num,ALL2.out,H.out⟩
       case measure=>simp[intOf];omega
    case l1=>
     intro e1;subst e1;clear K2;have F:=hd_ (seat_bad hlt (by rw[SE.out];rfl));go_wp2
     refine wp_region_plan 99 (.tk 0 6 (.alt 6 (.tk 7 4 (.alt 11 (.tk 12 7 (.alt 19 (.tk 20 3 .done) .nomore)) .nomore)) .nomore)) (fun w'=>Cells w' (b4L p1 (.slice (some ⟨g1,0,none⟩) 5 c1) (.slice (some ⟨g2,0,none⟩) 25 c2) (.slice x3 k3 c3) (.slice x4 5 c4)++[(⟨g1,a * 5,none⟩,.int .i64 nd.born),(⟨g2,q,none⟩,.bool u)])) (by kernel_rfl) (by kernel_rfl) (fun _ _ _ _ _ h=>h) (by rw[<-EW.out];exact C0.out) ?_
     rw[<-EW.out]
     repeat ((first|(refine plan_take (by rfl) (by rfl) ?_;apply Exists.intro;refine⟨fun w' hw'=>?_,?_⟩;(· ((try simp only[Cells,Cells_app,b4L,b5L,b6L,b7L,b10L,N.entL,and_true]at hw');go_simp;(try with_reducible rfl))))|(refine plan_skip (by rfl) (by rfl) ?_));simp only[Act.put,List.getElem_toArray,List.getElem_cons_succ,pg3,pg4,pg5,pg6])
     refine plan_last (by rfl) (fun K' hK=>?_);go_simp;refine (K1.out W).mono ?_;rintro e' w' ⟨rfl,hw'⟩;rw[hw'];clear hw' w';refine hK _ _ (.inr C0.out) ?_;clear hK K'
     try simp only[Act.put,List.getElem_toArray,List.getElem_cons_succ,pg3,pg4,pg5,pg6]
     repeat ((first|(refine plan_take (by rfl) (by rfl) ?_;apply Exists.intro;refine⟨fun w' hw'=>?_,?_⟩;(· ((try simp only[Cells,Cells_app,b4L,b5L,b6L,b7L,b10L,N.entL,and_true]at hw');go_simp;(try with_reducible rfl))))|(refine plan_skip (by rfl) (by rfl) ?_));simp only[Act.put,List.getElem_toArray,List.getElem_cons_succ,pg3,pg4,pg5,pg6])
     refine plan_last (by rfl) (fun K' hK=>?_);go_simp;refine hK _ _ (.inr C0.out) ?_;clear hK K'
     try simp only[Act.put,List.getElem_toArray,List.getElem_cons_succ,pg3,pg4,pg5,pg6]
     repeat ((first|(refine plan_take (by rfl) (by rfl) ?_;apply Exists.intro;refine⟨fun w' hw'=>?_,?_⟩;(· ((try simp only[Cells,Cells_app,b4L,b5L,b6L,b7L,b10L,N.entL,and_true]at hw');go_simp;(try with_reducible rfl))))|(refine plan_skip (by rfl) (by rfl) ?_));simp only[Act.put,List.getElem_toArray,List.getElem_cons_succ,pg3,pg4,pg5,pg6])
     refine plan_last (by rfl) (fun K' hK=>?_);go_simp;refine hK _ _ (.inr C0.out) ?_;clear hK K'
     try simp only[Act.put,List.getElem_toArray,List.getElem_cons_succ,pg3,pg4,pg5,pg6]
     repeat ((first|(refine plan_take (by rfl) (by rfl) ?_;apply Exists.intro;refine⟨fun w' hw'=>?_,?_⟩;(· ((try simp only[Cells,Cells_app,b4L,b5L,b6L,b7L,b10L,N.entL,and_true]at hw');go_simp;(try with_reducible rfl))))|(refine plan_skip (by rfl) (by rfl) ?_));simp only[Act.put,List.getElem_toArray,List.getElem_cons_succ,pg3,pg4,pg5,pg6])
     refine plan_done ?_;go_wp2;go_ret;exact⟨by rw[F.out];rfl,by rw[<-HP.out];exact H2.out.below⟩
    case l2=>
     intro e1 e2;subst e1 e2;have K2a:=hd_ (K2.out rfl);clear K2;have F:=hd_ (seat_bad hlt (by rw[SE.out];rfl));go_wp2
     refine wp_region_plan 99 (.tk 0 6 (.alt 6 (.tk 7 4 (.alt 11 (.tk 12 7 (.alt 19 (.tk 20 3 .done) .nomore)) .nomore)) .nomore)) (fun w'=>Cells w' (b4L p1 (.slice (some ⟨g1,0,none⟩) 5 c1) (.slice (some ⟨g2,0,none⟩) 25 c2) (.slice x3 k3 c3) (.slice x4 5 c4)++[(⟨g1,a * 5,none⟩,.int .i64 nd.born),(⟨g2,q,none⟩,.bool u)])) (by kernel_rfl) (by kernel_rfl) (fun _ _ _ _ _ h=>h) (by rw[<-EW.out];exact C0.out) ?_
     rw[<-EW.out]
     repeat ((first|(refine plan_take (by rfl) (by rfl) ?_;apply Exists.intro;refine⟨fun w' hw'=>?_,?_⟩;(· ((try simp only[Cells,Cells_app,b4L,b5L,b6L,b7L,b10L,N.entL,and_true]at hw');go_simp;(try with_reducible rfl))))|(refine plan_skip (by rfl) (by rfl) ?_));simp only[Act.put,List.getElem_toArray,List.getElem_cons_succ,pg3,pg4,pg5,pg6])
     refine plan_last (by rfl) (fun K' hK=>?_);go_simp;refine (K1.out W).mono ?_;rintro e' w' ⟨rfl,hw'⟩;rw[hw'];clear hw' w';refine hK _ _ (.inr C0.out) ?_;clear hK K'
     try simp only[Act.put,List.getElem_toArray,List.getElem_cons_succ,pg3,pg4,pg5,pg6]
     repeat ((first|(refine plan_take (by rfl) (by rfl) ?_;apply Exists.intro;refine⟨fun w' hw'=>?_,?_⟩;(· ((try simp only[Cells,Cells_app,b4L,b5L,b6L,b7L,b10L,N.entL,and_true]at hw');go_simp;(try with_reducible rfl))))|(refine plan_skip (by rfl) (by rfl) ?_));simp only[Act.put,List.getElem_toArray,List.getElem_cons_succ,pg3,pg4,pg5,pg6])
     refine plan_last (by rfl) (fun K' hK=>?_);go_simp;refine K2a.out.mono ?_;rintro e' w3 ⟨rfl,hb⟩;have C1:=hd_ (C0.out.below hb);have H3:=hd_ (H2.out.later hb);clear hb K2a;refine hK _ _ (.inr C1.out) ?_;clear hK K'
     try simp only[Act.put,List.getElem_toArray,List.getElem_cons_succ,pg3,pg4,pg5,pg6]
     repeat ((first|(refine plan_take (by rfl) (by rfl) ?_;apply Exists.intro;refine⟨fun w' hw'=>?_,?_⟩;(· ((try simp only[Cells,Cells_app,b4L,b5L,b6L,b7L,b10L,N.entL,and_true]at hw');go_simp;(try with_reducible rfl))))|(refine plan_skip (by rfl) (by rfl) ?_));simp only[Act.put,List.getElem_toArray,List.getElem_cons_succ,pg3,pg4,pg5,pg6])
     refine plan_last (by rfl) (fun K' hK=>?_);go_simp;refine hK _ _ (.inr C1.out) ?_;clear hK K'
     try simp only[Act.put,List.getElem_toArray,List.getElem_cons_succ,pg3,pg4,pg5,pg6]
     repeat ((first|(refine plan_take (by rfl) (by rfl) ?_;apply Exists.intro;refine⟨fun w' hw'=>?_,?_⟩;(· ((try simp only[Cells,Cells_app,b4L,b5L,b6L,b7L,b10L,N.entL,and_true]at hw');go_simp;(try with_reducible rfl))))|(refine plan_skip (by rfl) (by rfl) ?_));simp only[Act.put,List.getElem_toArray,List.getElem_cons_succ,pg3,pg4,pg5,pg6])
     refine plan_done ?_;go_wp2;go_ret;exact⟨by rw[F.out];rfl,by rw[<-HP.out];exact H3.out.below⟩
    case l3=>
     intro e1 e2 e3;subst e1 e2;obtain rfl:u=true:=by simpa using e3
     clear e3;have K2a:=hd_ (K2.out rfl);clear K2;have F:=hd_ (seat_bad hlt (by rw[SE.out];rfl));go_wp2
     refine wp_region_plan 99 (.tk 0 6 (.alt 6 (.tk 7 4 (.alt 11 (.tk 12 7 (.alt 19 (.tk 20 3 .done) .nomore)) .nomore)) .nomore)) (fun w'=>Cells w' (b4L p1 (.slice (some ⟨g1,0,none⟩) 5 c1) (.slice (some ⟨g2,0,none⟩) 25 c2) (.slice x3 k3 c3) (.slice x4 5 c4)++[(⟨g1,a * 5,none⟩,.int .i64 nd.born),(⟨g2,q,none⟩,.bool true)])) (by kernel_rfl) (by kernel_rfl) (fun _ _ _ _ _ h=>h) (by rw[<-EW.out];exact C0.out) ?_
     rw[<-EW.out]
     repeat ((first|(refine plan_take (by rfl) (by rfl) ?_;apply Exists.intro;refine⟨fun w' hw'=>?_,?_⟩;(· ((try simp only[Cells,Cells_app,b4L,b5L,b6L,b7L,b10L,N.entL,and_true]at hw');go_simp;(try with_reducible rfl))))|(refine plan_skip (by rfl) (by rfl) ?_));simp only[Act.put,List.getElem_toArray,List.getElem_cons_succ,pg3,pg4,pg5,pg6])
     refine plan_last (by rfl) (fun K' hK=>?_);go_simp;refine (K1.out W).mono ?_;rintro e' w' ⟨rfl,hw'⟩;rw[hw'];clear hw' w';refine hK _ _ (.inr C0.out) ?_;clear hK K'
     try simp only[Act.put,List.getElem_toArray,List.getElem_cons_succ,pg3,pg4,pg5,pg6]
     repeat ((first|(refine plan_take (by rfl) (by rfl) ?_;apply Exists.intro;refine⟨fun w' hw'=>?_,?_⟩;(· ((try simp only[Cells,Cells_app,b4L,b5L,b6L,b7L,b10L,N.entL,and_true]at hw');go_simp;(try with_reducible rfl))))|(refine plan_skip (by rfl) (by rfl) ?_));simp only[Act.put,List.getElem_toArray,List.getElem_cons_succ,pg3,pg4,pg5,pg6])
     refine plan_last (by rfl) (fun K' hK=>?_);go_simp;refine K2a.out.mono ?_;rintro e' w3 ⟨rfl,hb⟩;have C1:=hd_ (C0.out.below hb);have H3:=hd_ (H2.out.later hb);clear hb K2a;refine hK _ _ (.inr C1.out) ?_;clear hK K'
     try simp only[Act.put,List.getElem_toArray,List.getElem_cons_succ,pg3,pg4,pg5,pg6]
     repeat ((first|(refine plan_take (by rfl) (by rfl) ?_;apply Exists.intro;refine⟨fun w' hw'=>?_,?_⟩;(· ((try simp only[Cells,Cells_app,b4L,b5L,b6L,b7L,b10L,N.entL,and_true]at hw');go_simp;(try with_reducible rfl))))|(refine plan_skip (by rfl) (by rfl) ?_));simp only[Act.put,List.getElem_toArray,List.getElem_cons_succ,pg3,pg4,pg5,pg6])
     refine plan_last (by rfl) (fun K' hK=>?_);go_simp;refine (K3.out w3).mono ?_;rintro e' w' ⟨rfl,hw'⟩;rw[<-hw'];clear hw' w';refine hK _ _ (.inr C1.out) ?_;clear hK K'
     try simp only[Act.put,List.getElem_toArray,List.getElem_cons_succ,pg3,pg4,pg5,pg6]
     repeat ((first|(refine plan_take (by rfl) (by rfl) ?_;apply Exists.intro;refine⟨fun w' hw'=>?_,?_⟩;(· ((try simp only[Cells,Cells_app,b4L,b5L,b6L,b7L,b10L,N.entL,and_true]at hw');go_simp;(try with_reducible rfl))))|(refine plan_skip (by rfl) (by rfl) ?_));simp only[Act.put,List.getElem_toArray,List.getElem_cons_succ,pg3,pg4,pg5,pg6])
     refine plan_done ?_;go_wp2;go_ret;exact⟨by rw[F.out];rfl,by rw[<-HP.out];exact H3.out.below⟩
   ·obtain rfl:a=5:=by omega
    simp only[Int.cast_ofNat_Int];have SHP:=hd_ (shape_of E1.out.symm E4.out.symm ALL.out);clear hWB;go_wp2;go_loopw [5] (fun z wr=>∃a:Nat,a<=5/\z=.int .i64 (a:Int)/\(∀b:Nat,b<a->nodeB n b=true)/\M p1 w wr [boxC p1 30 #[.slice x1 5 c1,.slice x2 25 c2,.slice x3 k3 c3,.slice x4 5 c4]]) (fun z _=>5 - (intOf z).toNat)
    case atStart=>exact⟨0,Nat.zero_le _,rfl,fun b h=>absurd h (Nat.not_lt_zero _),H.out⟩
    case round=>
     clear H;obtain⟨a,ha5,rfl,hnod,hm⟩:=hrel;have NOD:=hd_ hnod;have H:=hd_ hm;clear hnod hm;have hWB:Below w.heap.size w wr:=by have:=H.out.below;rwa[HP.out]at this
     by_cases hlt:a<5
     ·obtain⟨s1,hs1⟩:∃b,b=nodeB n (a:Int):=⟨_,rfl⟩
      have hborn:1<=(nodeAt n (a:Int)).born:=by
       have:=ALL.out a hlt;unfold seatB at this;simp only[Bool.and_eq_true,in6_iff]at this;exact this.1.1
      have K1:=spNodeOk_at wr (HN.out.below hWB lr_) SHP.out hlt hborn;rw[<-hs1]at K1;have KN:=hd_ K1;have k0:(0:Int)<=(a:Int):=by omega
      have k1':(a:Int)<5:=by omega
      obtain⟨a0,a1,a2,a3⟩:=H.out.cells4;have S1:=hd_ hs1;clear hs1 hborn K1 hWB
      go_wp2_with fail
      refine KN.out.mono ?_;rintro e' w3 ⟨rfl,hb⟩;have H3:=hd_ (H.out.later hb);clear hb KN a0 a1 a2 a3 H;cases s1 with
      |false=>
       have F:=hd_ (node_bad hlt S1.out.symm);go_wp2;go_ret;exact⟨by rw[F.out];rfl,by rw[<-HP.out];exact H3.out.below⟩
      |true=>
       have NOD2:Hid (∀c:Nat,c<a+1->nodeB n c=true):=hd_ fun c hc=>by
        by_cases q:c<a
        ·exact NOD.out c q
        ·obtain rfl:c=a:=by omega
         exact S1.out.symm
       go_wp2;go_roundw
       case rel=>exact⟨a+1,by omega,by go_num,NOD2.out,H3.out⟩
       case measure=>simp[intOf];omega
     ·obtain rfl:a=5:=by omega
      simp only[Int.cast_ofNat_Int];clear hWB;go_wp2;go_loopw [6] (fun z wr=>∃i:Nat,i<=k3/\z=.int .i64 (i:Int)/\(∀(b:Nat) (x:Wd),b<i->n.words[b]? =some x->wordB n x=true)/\M p1 w wr [boxC p1 30 #[.slice x1 5 c1,.slice x2 25 c2,.slice x3 k3 c3,.slice x4 5 c4]]) (fun z _=>k3 - (intOf z).toNat)
      case atStart=>exact⟨0,Nat.zero_le _,rfl,fun b x h=>absurd h (Nat.not_lt_zero _),H.out⟩
      case round=>
       clear H;obtain⟨i,hi3,rfl,hwd,hm⟩:=hrel;have WDS:=hd_ hwd;have H:=hd_ hm;clear hwd hm;have hWB:Below w.heap.size w wr:=by have:=H.out.below;rwa[HP.out]at this
       obtain⟨a0,a1,a2,a3⟩:=H.out.cells4
       by_cases hlt:i<k3
       ·obtain⟨x,hx⟩:∃x,n.words[i]? =some x:=⟨_,List.getElem?_eq_getElem (by rw[<-E3.out];exact hlt)⟩
        obtain⟨g3,xk,ck,fk,rfl,_,_,rk,_,_,y0,y1,y2,y3,y4,y5⟩:=wordR_at N3.out hx;replace y0:=cell_later hWB y0;replace y1:=cell_later hWB y1;replace y2:=cell_later hWB y2;replace y3:=cell_later hWB y3;replace y4:=cell_later hWB y4;replace y5:=cell_later hWB y5;obtain⟨W,hW⟩:∃W,W=wr.drew:=⟨_,rfl⟩
        have h2:=H.out.drew;rw[<-hW]at h2;have EW:=hd_ hW;have H2:=hd_ h2;have hWB2:Below w.heap.size w W:=by have:=h2.below;rwa[HP.out]at this
        have C0:Hid (Cells W (b4L p1 (.slice x1 5 c1) (.slice x2 25 c2) (.slice (some ⟨g3,0,none⟩) k3 c3) (.slice x4 5 c4)++[(⟨g3,i * 6,none⟩,.int .i64 x.kind),(⟨g3,i * 6+1,none⟩,.int .i64 x.src),(⟨g3,i * 6+2,none⟩,.int .i64 x.dst),(⟨g3,i * 6+3,none⟩,.int .i64 x.beacon),(⟨g3,i * 6+4,none⟩,.int .i64 x.level),(⟨g3,i * 6+5,none⟩,.slice xk x.known.length ck)])):=hd_ (by
                  rw[hW]
                  exact⟨a0,a1,a2,a3,y0,y1,y2,y3,y4,y5,trivial⟩)
        obtain⟨s1,hs1⟩:∃b,b=wordB n x:=⟨_,rfl⟩
        have K1:=spWordOk_at W (x:=x) (HN.out.below hWB2 lr_) SHP.out ((slcR_frame entryR_frame _ _).below rk hWB2 lr_);rw[<-hs1]at K1;have KN:=hd_ K1;have k0:(0:Int)<=(i:Int):=by omega
        have k1':(i:Int)<(k3:Int):=by omega
        have S1:=hd_ hs1;have HX:=hd_ hx;clear hs1 K1 hWB hWB2 hx y0 y1 y2 y3 y4 y5 h2 hW rk;go_wp2;clear a0 a1 a2 a3
        refine wp_region_plan 99 (.tk 0 6 (.alt 6 (.take 7 .done) .nomore)) (fun w'=>Cells w' (b4L p1 (.slice x1 5 c1) (.slice x2 25 c2) (.slice (some ⟨g3,0,none⟩) k3 c3) (.slice x4 5 c4)++[(⟨g3,i * 6,none⟩,.int .i64 x.kind),(⟨g3,i * 6+1,none⟩,.int .i64 x.src),(⟨g3,i * 6+2,none⟩,.int .i64 x.dst),(⟨g3,i * 6+3,none⟩,.int .i64 x.beacon),(⟨g3,i * 6+4,none⟩,.int .i64 x.level),(⟨g3,i * 6+5,none⟩,.slice xk x.known.length ck)])) (by kernel_rfl) (by kernel_rfl) (fun _ _ _ _ _ h=>h) (by rw[<-EW.out];exact C0.out) ?_
        rw[<-EW.out]
        repeat ((first|(refine plan_take (by rfl) (by rfl) ?_;apply Exists.intro;refine⟨fun w' hw'=>?_,?_⟩;(· ((try simp only[Cells,Cells_app,b4L,b5L,b6L,b7L,b10L,N.entL,and_true]at hw');go_simp;(try with_reducible rfl))))|(refine plan_skip (by rfl) (by rfl) ?_));simp only[Act.put,List.getElem_toArray,List.getElem_cons_succ,pg3,pg4,pg5,pg6])
        refine plan_last (by rfl) (fun K' hK=>?_);go_simp;refine KN.out.mono ?_;rintro e' w3 ⟨rfl,hb⟩;have C1:=hd_ (C0.out.below hb);have H3:=hd_ (H2.out.later hb);clear hb KN;refine hK _ _ (.inr C1.out) ?_;clear hK K'
        try simp only[Act.put,List.getElem_toArray,List.getElem_cons_succ,pg3,pg4,pg5,pg6]
        repeat ((first|(refine plan_take (by rfl) (by rfl) ?_;apply Exists.intro;refine⟨fun w' hw'=>?_,?_⟩;(· ((try simp only[Cells,Cells_app,b4L,b5L,b6L,b7L,b10L,N.entL,and_true]at hw');go_simp;(try with_reducible rfl))))|(refine plan_skip (by rfl) (by rfl) ?_));simp only[Act.put,List.getElem_toArray,List.getElem_cons_succ,pg3,pg4,pg5,pg6])
        refine plan_done ?_;clear C0 C1 EW H H2;cases s1 with
        |false=>
         have F:=hd_ (word_bad HX.out S1.out.symm);go_wp2;go_ret;exact⟨by rw[F.out];rfl,by rw[<-HP.out];exact H3.out.below⟩
        |true=>
         have WDS2:Hid (∀(b:Nat) (y:Wd),b<i+1->n.words[b]? =some y->wordB n y=true):=hd_ fun c y hc hy=>by
          by_cases q:c<i
          ·exact WDS.out c y q hy
          ·obtain rfl:c=i:=by omega
           rw[HX.out]at hy;cases hy;exact S1.out.symm
         go_wp2;go_roundw
         case rel=>exact⟨i+1,by omega,by go_num,WDS2.out,H3.out⟩
         case measure=>simp[intOf];omega
       ·obtain rfl:i=k3:=by omega
        have EQ:=hd_ (ok_all' (n:=n) (by rw[SB.out];rfl) ALL.out NOD.out (fun b x hx=>WDS.out b x (by rw[E3.out];exact (List.getElem?_eq_some_iff.1 hx).1) hx));obtain⟨r0,hr0⟩:∃nd,n.nodes[0]? =some nd:=⟨_,List.getElem?_eq_getElem (by rw[<-E1.out];decide)⟩
        have e0:nodeAt n 0=r0:=by unfold nodeAt;rw[List.getD_eq_getElem?_getD,show (0:Int).toNat=0 from rfl,hr0];rfl
        rw[e0]at EQ;obtain⟨g1,xk,ck,fk,rfl,_,_,_,_,_,z0,z1,z2,z3,z4⟩:=node_at N1.out hr0;replace z2:=cell_later hWB z2;simp only[Nat.zero_mul,Nat.zero_add]at z2;obtain⟨s1,hs1⟩:∃b,b=in6 r0.beacon 0 1000:=⟨_,rfl⟩
        rw[<-hs1]at EQ;have K1:=hd_ (in6_is hs1);clear hs1 hr0 e0 z0 z1 z3 z4 hWB
        go_wp2_with fail
        refine (K1.out wr).mono ?_;rintro e' w' ⟨rfl,hw'⟩;rw[hw'];clear hw' w';go_wp2;go_ret;exact⟨by rw[EQ.out];rfl,by rw[<-HP.out];exact H.out.below⟩
 all_goals
  first
   |(intro e1 e2 e3 e4;subst e1 e2 e3 e4)
   |(intro e1 e2 e3;subst e1 e2 e3)
   |(intro e1 e2;subst e1 e2)
   |(intro e1;subst e1)
  have F:=hd_ (size_bad (n:=n) (by rw[SB.out];simp));go_wp2;go_ret;rw[<-hw1];exact⟨by rw[F.out];rfl,by rw[<-HP.out];exact H.out.below⟩
end N
end Go.Proofs.YtcblbdpdbggkbaaGreat
set_option linter.unusedVariables false
set_option linter.unusedSectionVars false
set_option linter.unusedSimpArgs false
namespace Go.Proofs.YtcblbdpdbggkbaaGreat
open Go.RowKit Go.Sort
namespace N
section
variable {B L m:Nat} {w0 w:World} {l:List Ch} {ps:List (Option Nat)} {ns:List (Option Nd)} {vw vp:Value}
end
def endV (k:Int × Int):Value:=.agg #[.int .i64 k.1,.int .i64 k.2]
def EndOk (k:Int × Int):Prop:=(-9223372036854775808<=k.1/\k.1<9223372036854775808)/\(-9223372036854775808<=k.2/\k.2<9223372036854775808)
theorem endT:KeyT Tryz.prog 130 EndOk endV:=by
 refine⟨Go.Maps.Keyed.of_law (deep_law_gate (by kernel_rfl) (by decide+kernel) (by decide+kernel) (by kernel_rfl) (by kernel_rfl)),fun k hk=>?_,fun x y h=>?_⟩
 ·obtain⟨⟨a0,a1⟩,b0,b1⟩:=hk
  have c2:Tryz.prog.cellsOf 130=2:=by kernel_rfl
  have c1:Tryz.prog.cellsOf 3=1:=by kernel_rfl
  have ht:Tryz.prog.keyType 130=true:=by kernel_rfl
  have hn:1<=Tryz.prog.types.size:=by decide+kernel
  obtain⟨d,hd⟩:∃d,Tryz.prog.types.size+1=d+2:=⟨Tryz.prog.types.size - 1,by omega⟩
  have w1:(Lit.int .i64 k.1).wf=true:=by simp[Lit.wf,IntKind.min,IntKind.max,IntKind.bits,IntKind.signed];omega
  have w2:(Lit.int .i64 k.2).wf=true:=by simp[Lit.wf,IntKind.min,IntKind.max,IntKind.bits,IntKind.signed];omega
  refine⟨.string (keyBytes [.int .i64 k.1,.int .i64 k.2]),?_⟩;have hl:Tryz.prog.keyLits (d+2) 130 [.int .i64 k.1,.int .i64 k.2]=some [.int .i64 k.1,.int .i64 k.2]:=by
   simp only[Program.keyLits,Tryz.underlying130,c2];simp[Program.keyLits,c1,Tryz.underlying3,w1,w2]
  have hf:(endV k).formed Tryz.prog 130=true:=by unfold endV Value.formed;simp only[Tryz.underlying130,c2];rfl
  have hc:(endV k).cells.toList=[.int .i64 k.1,.int .i64 k.2]:=rfl;simp only[keyOf,Tryz.underlying130,ht,hf,hd,hc,hl,Bool.and_self,if_true,Option.map_some]
 ·unfold endV at h
  injection h with h
  have h':=congrArg Array.toList h;simp at h';exact Prod.ext h'.1 h'.2
def LinksAre (g:Int × Int->Option Value) (lk:Int->Int->Bool):Prop:=∀k,(g k).getD (.bool false)=.bool (lk k.1 k.2)
theorem boolZ (w:World):(zeroValue 4).run Tryz.prog w=.ok (.bool false) w:=by
 obtain⟨i,hi,hz,_⟩:=info_parts linkS.info;simp[zeroValue,typeInfo,hi,hz]
theorem look_link {B m:Nat} {w0 w:World} {l:List Ch} {g:Int × Int->Option Value} {lk:Int->Int->Bool} (h:M B w0 w (mapC EndOk endV m g::l)) (hlk:LinksAre g lk) (a b:Int) (hk:EndOk (a,b)):
  (Instr.lookup 100 (.map (some m)) (.agg #[.int .i64 a,.int .i64 b]) false).run Tryz.prog w=.ok (.bool (lk a b)) w:=by
 have:=h.look endT Tryz.underlying100 (boolZ w) hk false;rw[hlk (a,b)]at this;exact this
theorem isNode_yes (w:World) (a:Int) (h:in6 a 0 4=true):Calls Tryz.prog 95 #[.int .i64 a] w fun e w'=>e=.returned (.bool true)/\w=w':=by
 obtain⟨h0,h1⟩:0<=a/\a<=4:=by simpa[in6]using h
 have h2:a<5:=by omega
 clear h h1;go_enter Tryz.func95,Tryz.ntmps95;go_wp2;go_ret;exact⟨rfl,rfl⟩
theorem isNode_no (w:World) (a:Int) (h:in6 a 0 4=false):Calls Tryz.prog 95 #[.int .i64 a] w fun e w'=>e=.returned (.bool false)/\w=w':=by
 have h':¬(0<=a/\a<=4):=by simpa[in6]using h
 clear h
 by_cases h0:0<=a
 ·have h1:decide (a<5)=false:=by simp;omega
  clear h';go_enter Tryz.func95,Tryz.ntmps95;go_wp2;go_ret;exact⟨rfl,rfl⟩
 ·have h1:decide (0<=a)=false:=by simp;omega
  clear h' h0;go_enter Tryz.func95,Tryz.ntmps95;go_wp2;go_ret;exact⟨rfl,rfl⟩
def two (a b:Int):Bool:=(in6 a 0 4&&in6 b 0 4)&&decide (a≠b)
theorem areTwo_at (w:World) (a b:Int):Calls Tryz.prog 70 #[.int .i64 a,.int .i64 b] w fun e w'=>e=.returned (.bool (two a b))/\w=w':=by
 cases ga:in6 a 0 4 with
 |false=>
  have e1:two a b=false:=by unfold two;rw[ga];rfl
  rw[e1];have G:=hd_ ga;clear ga e1;go_enter Tryz.func70,Tryz.ntmps70
  go_wp2_with (go_at_call 95;(with_reducible refine (isNode_no _ a G.out).mono ?_);rintro e w' ⟨rfl,rfl⟩)
  go_ret;exact⟨rfl,rfl⟩
 |true=>
  have GA:=hd_ ga;cases gb:in6 b 0 4 with
  |false=>
   have e1:two a b=false:=by unfold two;rw[ga,gb];rfl
   rw[e1];have GB:=hd_ gb;clear ga gb e1;go_enter Tryz.func70,Tryz.ntmps70
   go_wp2_with (first|(go_at_call 95;(with_reducible refine (isNode_yes _ a GA.out).mono ?_);rintro e w' ⟨rfl,rfl⟩)|(go_at_call 95;(with_reducible refine (isNode_no _ b GB.out).mono ?_);rintro e w' ⟨rfl,rfl⟩))
   go_ret;exact⟨rfl,rfl⟩
  |true=>
   have GB:=hd_ gb;have e1:two a b=decide (a≠b):=by unfold two;rw[ga,gb];rfl
   rw[e1];clear ga gb e1;go_enter Tryz.func70,Tryz.ntmps70
   go_wp2_with (first|(go_at_call 95;(with_reducible refine (isNode_yes _ a GA.out).mono ?_);rintro e w' ⟨rfl,rfl⟩)|(go_at_call 95;(with_reducible refine (isNode_yes _ b GB.out).mono ?_);rintro e w' ⟨rfl,rfl⟩))
   go_ret;exact⟨ret_bool (by by_cases q:a=b<;>simp[q]),rfl⟩
theorem endsAt_at (w:World) (p:Nat) (h:p<25):Calls Tryz.prog 149 #[.int .i64 p] w fun e w'=>e=.returned (.agg #[.int .i64 ((p / 5:Nat):Int),.int .i64 ((p % 5:Nat):Int)])/\Below w.heap.size w w':=by
 have h0:(0:Int)<=(p:Int):=by omega
 have h1:(p:Int)<25:=by omega
 have H:=hd_ ((M.start w).alloc #[.int .i64 ((p:Int) / 5),.int .i64 ((p:Int) % 5)] 130);clear h;go_enter Tryz.func149,Tryz.ntmps149;go_wp2;obtain⟨c0,c1⟩:=H.out.cells2;exact bodyPost_ret (v:=.agg #[.int .i64 ((p:Int) / 5),.int .i64 ((p:Int) % 5)]) (by simp[results,Tryz.results149,go_sem,c0,c1]) rfl ⟨by simp,H.out.below⟩
def upto {α:Type} (xs:List α):List (Option α):=xs.map some++List.replicate (5 - xs.length) none
end N
end Go.Proofs.YtcblbdpdbggkbaaGreat
set_option linter.unusedVariables false
set_option linter.unusedSectionVars false
set_option linter.unusedSimpArgs false
namespace Go.Proofs.YtcblbdpdbggkbaaGreat
open Go.RowKit Go.Sort
namespace N
def lkP (ls:List Bool) (k:Nat) (a b:Int):Bool:=decide ((0<=a/\a<=4)/\(0<=b/\b<=4)/\a * 5+b<k)&&ls.getD (a * 5+b).toNat false
theorem lkP_zero (ls:List Bool) (a b:Int):lkP ls 0 a b=false:=by
 unfold lkP;rw[decide_eq_false (by omega)];rfl
theorem lkP_step {ls:List Bool} {k:Nat} (hk:k<25) {u:Bool} (hu:ls.getD k false=u) (a b:Int):lkP ls (k+1) a b=if (a,b)=(((k:Int) / 5),((k:Int) % 5))then u else lkP ls k a b:=by
 by_cases h:(a,b)=(((k:Int) / 5),((k:Int) % 5))
 ·rw[if_pos h]
  simp only[Prod.mk.injEq]at h;obtain⟨rfl,rfl⟩:=h;unfold lkP;rw[decide_eq_true (by omega),Bool.true_and, <-hu]
  congr 1
  omega
 ·rw[if_neg h]
  simp only[Prod.mk.injEq]at h;unfold lkP
  congr 1
  exact decide_eq_decide.2 (by omega)
theorem links_step {g:Int × Int->Option Value} {ls:List Bool} {k:Nat} (hk:k<25) {u:Bool} (hu:ls.getD k false=u) (h:LinksAre g (lkP ls k)):LinksAre (fun y=>if y=(((k:Int) / 5),((k:Int) % 5))then some (.bool u)else g y) (lkP ls (k+1)):=fun y=>by
 rw[lkP_step hk hu];simp only
 by_cases q:y=(((k:Int) / 5),((k:Int) % 5))
 ·rw[if_pos q,if_pos (by rw[<-q])];rfl
 ·rw[if_neg q,if_neg (show ¬(y.1,y.2)=_ from q)]
  exact h y
theorem imLinksOf_at (w:World) {x:Option Addr} {c:Nat} {ls:List Bool} {f:List Nat} (h:linksR TY w [.slice x 25 c] ls f):
  Calls Tryz.prog 89 #[.slice x 25 c] w fun r w'=>∃m g,r=.returned (.map (some m))/\M w.heap.size w w' [mapC EndOk endV m g]/\LinksAre g (lkP ls 25):=by
 have hl:25=ls.length:=(slcR_row h).1;have H1:=hd_ h;have HL:=hd_ hl;clear h hl;have h0:=(M.start w).map EndOk endV;have H0:=hd_ h0;clear h0;have hmm:=@run_makeMap Tryz.prog;go_enter Tryz.func89,Tryz.ntmps89;go_wp2;clear hmm;obtain⟨m,hm⟩:∃m,m=w.heap.size:=⟨_,rfl⟩
 have HM:=hd_ hm;rw[<-hm]at H0 ⊢;clear hm;generalize w.alloc (.map #[] 0)=w1 at H0 ⊢;have l0:(0:Int)<=25:=by decide
 go_loopw [9] (fun z wr=>∃(k:Nat) (g:Int × Int->Option Value),k<=25/\z=.int .i64 (k:Int)/\M m w wr [mapC EndOk endV m g]/\LinksAre g (lkP ls k)) (fun z _=>25 - (intOf z).toNat)
 case atStart=>exact⟨0,fun _=>none,Nat.zero_le _,rfl,H0.out,fun y=>by rw[lkP_zero];rfl⟩
 case round=>
  clear H0;obtain⟨k,g,hk,rfl,hm,hg⟩:=hrel;have H:=hd_ hm;have HG:=hd_ hg;clear hm hg
  by_cases hlt:k<25
  ·obtain⟨u,hu⟩:∃u,ls[k]? =some u:=⟨_,List.getElem?_eq_getElem (by rw[<-HL.out];exact hlt)⟩
   obtain⟨g1,rfl,_,c0⟩:=link_at H1.out hu;have HU:Hid (ls.getD k false=u):=hd_ (by rw[List.getD_eq_getElem?_getD,hu];rfl);replace c0:=cell_later (by have:=H.out.below;rwa[HM.out]at this) c0;have KE:=hd_ (fun W=>endsAt_at W k hlt);have EO:=hd_ (show EndOk ((k:Int) / 5,(k:Int) % 5)from⟨⟨by simp;omega,by simp;omega⟩,⟨by simp;omega,by simp;omega⟩⟩);have k0:(0:Int)<=(k:Int):=by omega
   have k1:(k:Int)<25:=by omega
   clear hu
   go_wp2_with fail
   refine (KE.out _).mono ?_;rintro e w4 ⟨rfl,hb⟩;have H2:=hd_ (H.out.later hb);clear hb H KE c0
   go_wp2_with (at_mapUpdate;go_loud (refine wpList_mset endT Tryz.underlying100 H2.out EO.out rfl rfl rfl rfl rfl ?_))
   intro w5 h5 hs5;have H5:=hd_ h5;have G5:=hd_ (links_step hlt HU.out HG.out);clear h5 hs5 H2;go_wp2;go_roundw
   case rel=>exact⟨k+1,_,by omega,by go_num,H5.out,G5.out⟩
   case measure=>simp[intOf];omega
  ·obtain rfl:k=25:=by omega
   go_wp2;go_ret;exact⟨m,g,rfl,by rw[HM.out]at *;exact H.out,HG.out⟩
end N
end Go.Proofs.YtcblbdpdbggkbaaGreat
set_option linter.unusedVariables false
set_option linter.unusedSectionVars false
set_option linter.unusedSimpArgs false
namespace Go.Proofs.YtcblbdpdbggkbaaGreat
open Go.RowKit Go.Sort
namespace N
theorem eqI_short (x y:Option Addr) (n m c d:Nat) (w:World) (h:n≠m\/(n=0/\m=0)):
  Calls Tryz.prog 256 #[.slice x n c,.slice y m d] w fun e w'=>e=.returned (.bool (decide (n=m)))/\Below w.heap.size w w':=by
 rcases h with h|⟨rfl,rfl⟩
 ·have hn:((n:Int) != (m:Int))=true:=by simp;omega
  go_enter Tryz.func256,Tryz.ntmps256;go_wp2;go_ret;exact⟨by simpa using h,Below.refl _ _⟩
 ·go_enter Tryz.func256,Tryz.ntmps256
  go_wp2;refine wp_loop_rounds 1 ?_;rw[rounds_succ];go_wp2;go_ret;exact⟨by simp,Below.refl _ _⟩
theorem eqI_at (w:World) {x y:Option Addr} {n m c d:Nat} {ps qs:List Int} (h1:Ints w (.slice x n c) ps) (h2:Ints w (.slice y m d) qs):
  Calls Tryz.prog 256 #[.slice x n c,.slice y m d] w fun e w'=>e=.returned (.bool (decide (ps=qs)))/\Below w.heap.size w w':=by
 obtain rfl:n=ps.length:=h1.len;obtain rfl:m=qs.length:=h2.len;have hm:=ints_max h1;unfold maxLen at hm
 by_cases hs:ps.length≠qs.length\/(ps.length=0/\qs.length=0)
 ·refine (eqI_short x y _ _ c d w hs).mono fun e w' ⟨he,hw⟩=>⟨?_,hw⟩
  rw[he];refine ret_bool ?_;rcases hs with q|⟨q1,q2⟩
  ·rw[decide_eq_false q,decide_eq_false (fun e=>q (by rw[e]))]
  ·rw[List.eq_nil_of_length_eq_zero q1,List.eq_nil_of_length_eq_zero q2];simp
 have el:ps.length=qs.length:=by omega
 have g0:((ps.length:Int) != (qs.length:Int))=false:=by simp;omega
 have HL:=hd_ el;have R1:=hd_ h1;have R2:=hd_ h2;clear h1 h2 hs el;go_enter Tryz.func256,Tryz.ntmps256;go_wp2;clear g0;go_loopw [13] (fun i wr=>∃k:Nat,k<=ps.length/\i=.int .i64 k/\(∀j,j<k->ps.getD j 0=qs.getD j 0)/\Below w.heap.size w wr) (fun i _=>ps.length - (intOf i).toNat)
 case atStart=>exact⟨0,Nat.zero_le _,rfl,fun _ h=>absurd h (Nat.not_lt_zero _),Below.refl _ _⟩
 case round=>
  obtain⟨k,hk,rfl,heq,hb⟩:=hrel;have HE:=hd_ heq;have HB:=hd_ hb;clear heq hb
  by_cases hlt:k<ps.length
  ·obtain⟨b1,o1,rfl,ra1⟩:=ints_el (R1.out.below HB.out lr_) hlt
   obtain⟨b2,o2,rfl,ra2⟩:=ints_el (R2.out.below HB.out lr_) (j:=k) (by rw[<-HL.out];exact hlt);obtain⟨x1,hx1⟩:∃x,x=ps.getD k 0:=⟨_,rfl⟩
   obtain⟨x2,hx2⟩:∃x,x=qs.getD k 0:=⟨_,rfl⟩
   rw[<-hx1]at ra1;rw[<-hx2]at ra2;have X1:=hd_ hx1;have X2:=hd_ hx2;clear hx1 hx2;have k0:(0:Int)<=(k:Int):=by omega
   have k1:(k:Int)<(ps.length:Int):=by omega
   have k2:(k:Int)<(qs.length:Int):=by have:=HL.out;omega
   have B2:=hd_ (Below.drew HB.out);go_wp2;refine wp_region_plan 99 (.tk 0 9 .done) (fun w'=>w'.cell? ⟨b1,o1+k,Option.none⟩=some (.int .i64 x1)/\w'.cell? ⟨b2,o2+k,Option.none⟩=some (.int .i64 x2)) (by kernel_rfl) (by kernel_rfl) (fun _ _ _ _ _ h=>h) ⟨ra1,ra2⟩ ?_;clear ra1 ra2
   by_cases eq:x1=x2
   case neg=>
    have F:=hd_ (show decide (ps=qs)=false from decide_eq_false fun e=>eq (by rw[X1.out,X2.out,e]));have ex:(x1 != x2)=true:=by simpa using eq
    clear eq
    repeat ((first|(refine plan_take (by rfl) (by rfl) ?_;apply Exists.intro;refine⟨fun w' hw'=>?_,?_⟩;(· ((try dsimp only at hw');go_simp;(try with_reducible rfl))))|(refine plan_skip (by rfl) (by rfl) ?_));simp only[Act.put,List.getElem_toArray,List.getElem_cons_succ,pg3,pg4,pg5,pg6])
    refine plan_done ?_;go_wp2;go_ret;exact⟨by rw[F.out];rfl,B2.out⟩
   have HE2:Hid (∀j,j<k+1->ps.getD j 0=qs.getD j 0):=hd_ fun j hj=>by
    by_cases h:j<k
    ·exact HE.out j h
    ·obtain rfl:j=k:=by omega
     rw[<-X1.out, <-X2.out,eq]
   subst eq
   repeat ((first|(refine plan_take (by rfl) (by rfl) ?_;apply Exists.intro;refine⟨fun w' hw'=>?_,?_⟩;(· ((try dsimp only at hw');go_simp;(try with_reducible rfl))))|(refine plan_skip (by rfl) (by rfl) ?_));simp only[Act.put,List.getElem_toArray,List.getElem_cons_succ,pg3,pg4,pg5,pg6])
   refine plan_done ?_;go_wp2;go_roundw
   case rel=>exact⟨k+1,by omega,by go_num,HE2.out,B2.out⟩
   case measure=>simp[intOf];omega
  ·have F:Hid (decide (ps=qs)=true):=hd_ (eq_of_get (d:=0) rfl HL.out.symm (fun i hi=>HE.out i (by omega)))
   have g:decide (k<ps.length)=false:=by simpa using hlt
   clear HE;go_wp2;go_ret;exact⟨by rw[F.out];rfl,HB.out⟩
theorem eqPr_at_short (x y:Option Addr) (n m c d:Nat) (w:World) (h:n≠m\/(n=0/\m=0)):
  Calls Tryz.prog 257 #[.slice x n c,.slice y m d] w fun e w'=>e=.returned (.bool (decide (n=m)))/\Below w.heap.size w w':=by
 rcases h with h|⟨rfl,rfl⟩
 ·have hn:((n:Int) != (m:Int))=true:=by simp;omega
  go_enter Tryz.func257,Tryz.ntmps257;go_wp2;go_ret;exact⟨by simpa using h,Below.refl _ _⟩
 ·go_enter Tryz.func257,Tryz.ntmps257
  go_wp2;refine wp_loop_rounds 1 ?_;rw[rounds_succ];go_wp2;go_ret;exact⟨by simp,Below.refl _ _⟩
theorem eqPr_at (w:World) {x y:Option Addr} {n m c d:Nat} {ps qs:List (Int × Int)} (h1:T.Prs w (.slice x n c) ps) (h2:T.Prs w (.slice y m d) qs):
  Calls Tryz.prog 257 #[.slice x n c,.slice y m d] w fun e w'=>e=.returned (.bool (decide (ps=qs)))/\Below w.heap.size w w':=by
 obtain⟨_,_,e1,l1,l2⟩:=h1.form;obtain⟨_,_,e2,_,_⟩:=h2.form;obtain rfl:n=ps.length:=(Value.slice.inj e1).2.1;obtain rfl:m=qs.length:=(Value.slice.inj e2).2.1;have hm:ps.length<=maxLen:=by omega
 unfold maxLen at hm;clear e1 e2 l1 l2
 by_cases hs:ps.length≠qs.length\/(ps.length=0/\qs.length=0)
 ·refine (eqPr_at_short x y _ _ c d w hs).mono fun e w' ⟨he,hw⟩=>⟨?_,hw⟩
  rw[he];refine ret_bool ?_;rcases hs with q|⟨q1,q2⟩
  ·rw[decide_eq_false q,decide_eq_false (fun e=>q (by rw[e]))]
  ·rw[List.eq_nil_of_length_eq_zero q1,List.eq_nil_of_length_eq_zero q2];simp
 have el:ps.length=qs.length:=by omega
 have g0:((ps.length:Int) != (qs.length:Int))=false:=by simp;omega
 have HL:=hd_ el;have R1:=hd_ h1;have R2:=hd_ h2;clear h1 h2 hs el;go_enter Tryz.func257,Tryz.ntmps257;go_wp2;clear g0;go_loopw [13] (fun i wr=>∃k:Nat,k<=ps.length/\i=.int .i64 k/\(∀j,j<k->T.pr ps j=T.pr qs j)/\Below w.heap.size w wr) (fun i _=>ps.length - (intOf i).toNat)
 case atStart=>exact⟨0,Nat.zero_le _,rfl,fun _ h=>absurd h (Nat.not_lt_zero _),Below.refl _ _⟩
 case round=>
  obtain⟨k,hk,rfl,heq,hb⟩:=hrel;have HE:=hd_ heq;have HB:=hd_ hb;clear heq hb
  by_cases hlt:k<ps.length
  ·obtain⟨b1,o1,rfl,_,ra1,rb1⟩:=(R1.out.below HB.out lr_).cells k hlt
   obtain⟨b2,o2,rfl,_,ra2,rb2⟩:=(R2.out.below HB.out lr_).cells k (by rw[<-HL.out];exact hlt);obtain⟨x1,hx1⟩:∃x,x=(T.pr ps k).1:=⟨_,rfl⟩
   obtain⟨y1,hy1⟩:∃x,x=(T.pr ps k).2:=⟨_,rfl⟩
   obtain⟨x2,hx2⟩:∃x,x=(T.pr qs k).1:=⟨_,rfl⟩
   obtain⟨y2,hy2⟩:∃x,x=(T.pr qs k).2:=⟨_,rfl⟩
   rw[<-hx1]at ra1;rw[<-hy1]at rb1;rw[<-hx2]at ra2;rw[<-hy2]at rb2;have EQ:Hid (T.pr ps k=T.pr qs k↔x1=x2/\y1=y2):=hd_ (by rw[hx1,hx2,hy1,hy2];exact Prod.ext_iff);clear hx1 hx2 hy1 hy2;have k0:(0:Int)<=(k:Int):=by omega
   have k1:(k:Int)<(ps.length:Int):=by omega
   have k2:(k:Int)<(qs.length:Int):=by have:=HL.out;omega
   have B2:=hd_ (Below.drew HB.out);go_wp2;refine wp_region_plan 99 (.tk 0 9 .done) (fun w'=>w'.cell? ⟨b1,o1+k * 2,Option.none⟩=some (.int .i64 x1)/\w'.cell? ⟨b1,o1+k * 2+1,Option.none⟩=some (.int .i64 y1)/\w'.cell? ⟨b2,o2+k * 2,Option.none⟩=some (.int .i64 x2)/\w'.cell? ⟨b2,o2+k * 2+1,Option.none⟩=some (.int .i64 y2)) (by kernel_rfl) (by kernel_rfl) (fun _ _ _ _ _ h=>h) ⟨ra1,rb1,ra2,rb2⟩ ?_
   clear ra1 rb1 ra2 rb2
   by_cases eq:x1=x2/\y1=y2
   case neg=>
    have F:=hd_ (show decide (ps=qs)=false from decide_eq_false fun e=>eq (EQ.out.1 (by rw[e])))
    by_cases ex:x1=x2
    ·have ey:(y1==y2)=false:=by
      have:¬y1=y2:=fun e=>eq ⟨ex,e⟩
      simpa using this
     have ey':(y1 != y2)=true:=by simpa using ey
     subst ex;clear eq EQ
     repeat ((first|(refine plan_take (by rfl) (by rfl) ?_;apply Exists.intro;refine⟨fun w' hw'=>?_,?_⟩;(· ((try dsimp only at hw');go_simp;(try with_reducible rfl))))|(refine plan_skip (by rfl) (by rfl) ?_));simp only[Act.put,List.getElem_toArray,List.getElem_cons_succ,pg3,pg4,pg5,pg6])
     refine plan_done ?_;go_wp2;go_ret;exact⟨by rw[F.out];rfl,B2.out⟩
    ·have ex':(x1==x2)=false:=by simpa using ex
     clear eq EQ ex
     repeat ((first|(refine plan_take (by rfl) (by rfl) ?_;apply Exists.intro;refine⟨fun w' hw'=>?_,?_⟩;(· ((try dsimp only at hw');go_simp;(try with_reducible rfl))))|(refine plan_skip (by rfl) (by rfl) ?_));simp only[Act.put,List.getElem_toArray,List.getElem_cons_succ,pg3,pg4,pg5,pg6])
     refine plan_done ?_;go_wp2;go_ret;exact⟨by rw[F.out];rfl,B2.out⟩
   have HE2:Hid (∀j,j<k+1->T.pr ps j=T.pr qs j):=hd_ fun j hj=>by
    by_cases h:j<k
    ·exact HE.out j h
    ·obtain rfl:j=k:=by omega
     exact EQ.out.2 eq
   obtain⟨rfl,rfl⟩:=eq;clear EQ
   repeat ((first|(refine plan_take (by rfl) (by rfl) ?_;apply Exists.intro;refine⟨fun w' hw'=>?_,?_⟩;(· ((try dsimp only at hw');go_simp;(try with_reducible rfl))))|(refine plan_skip (by rfl) (by rfl) ?_));simp only[Act.put,List.getElem_toArray,List.getElem_cons_succ,pg3,pg4,pg5,pg6])
   refine plan_done ?_;go_wp2;go_roundw
   case rel=>exact⟨k+1,by omega,by go_num,HE2.out,B2.out⟩
   case measure=>simp[intOf];omega
  ·have F:Hid (decide (ps=qs)=true):=hd_ (decide_eq_true (pairs_ext HL.out (fun i hi=>HE.out i (by omega))))
   have g:decide (k<ps.length)=false:=by simpa using hlt
   clear HE;go_wp2;go_ret;exact⟨by rw[F.out];rfl,HB.out⟩
theorem eqKn_at_short (x y:Option Addr) (n m c d:Nat) (w:World) (h:n≠m\/(n=0/\m=0)):
  Calls Tryz.prog 258 #[.slice x n c,.slice y m d] w fun e w'=>e=.returned (.bool (decide (n=m)))/\Below w.heap.size w w':=by
 rcases h with h|⟨rfl,rfl⟩
 ·have hn:((n:Int) != (m:Int))=true:=by simp;omega
  go_enter Tryz.func258,Tryz.ntmps258;go_wp2;go_ret;exact⟨by simpa using h,Below.refl _ _⟩
 ·go_enter Tryz.func258,Tryz.ntmps258
  go_wp2;refine wp_loop_rounds 1 ?_;rw[rounds_succ];go_wp2;go_ret;exact⟨by simp,Below.refl _ _⟩
theorem eqKn_at (w:World) {x y:Option Addr} {n m c d:Nat} {ps qs:List (Int × Int)} (h1:K.Prs w (.slice x n c) ps) (h2:K.Prs w (.slice y m d) qs):
  Calls Tryz.prog 258 #[.slice x n c,.slice y m d] w fun e w'=>e=.returned (.bool (decide (ps=qs)))/\Below w.heap.size w w':=by
 obtain⟨_,_,e1,l1,l2⟩:=h1.form;obtain⟨_,_,e2,_,_⟩:=h2.form;obtain rfl:n=ps.length:=(Value.slice.inj e1).2.1;obtain rfl:m=qs.length:=(Value.slice.inj e2).2.1;have hm:ps.length<=maxLen:=by omega
 unfold maxLen at hm;clear e1 e2 l1 l2
 by_cases hs:ps.length≠qs.length\/(ps.length=0/\qs.length=0)
 ·refine (eqKn_at_short x y _ _ c d w hs).mono fun e w' ⟨he,hw⟩=>⟨?_,hw⟩
  rw[he];refine ret_bool ?_;rcases hs with q|⟨q1,q2⟩
  ·rw[decide_eq_false q,decide_eq_false (fun e=>q (by rw[e]))]
  ·rw[List.eq_nil_of_length_eq_zero q1,List.eq_nil_of_length_eq_zero q2];simp
 have el:ps.length=qs.length:=by omega
 have g0:((ps.length:Int) != (qs.length:Int))=false:=by simp;omega
 have HL:=hd_ el;have R1:=hd_ h1;have R2:=hd_ h2;clear h1 h2 hs el;go_enter Tryz.func258,Tryz.ntmps258;go_wp2;clear g0;go_loopw [13] (fun i wr=>∃k:Nat,k<=ps.length/\i=.int .i64 k/\(∀j,j<k->K.pr ps j=K.pr qs j)/\Below w.heap.size w wr) (fun i _=>ps.length - (intOf i).toNat)
 case atStart=>exact⟨0,Nat.zero_le _,rfl,fun _ h=>absurd h (Nat.not_lt_zero _),Below.refl _ _⟩
 case round=>
  obtain⟨k,hk,rfl,heq,hb⟩:=hrel;have HE:=hd_ heq;have HB:=hd_ hb;clear heq hb
  by_cases hlt:k<ps.length
  ·obtain⟨b1,o1,rfl,_,ra1,rb1⟩:=(R1.out.below HB.out lr_).cells k hlt
   obtain⟨b2,o2,rfl,_,ra2,rb2⟩:=(R2.out.below HB.out lr_).cells k (by rw[<-HL.out];exact hlt);obtain⟨x1,hx1⟩:∃x,x=(K.pr ps k).1:=⟨_,rfl⟩
   obtain⟨y1,hy1⟩:∃x,x=(K.pr ps k).2:=⟨_,rfl⟩
   obtain⟨x2,hx2⟩:∃x,x=(K.pr qs k).1:=⟨_,rfl⟩
   obtain⟨y2,hy2⟩:∃x,x=(K.pr qs k).2:=⟨_,rfl⟩
   rw[<-hx1]at ra1;rw[<-hy1]at rb1;rw[<-hx2]at ra2;rw[<-hy2]at rb2;have EQ:Hid (K.pr ps k=K.pr qs k↔x1=x2/\y1=y2):=hd_ (by rw[hx1,hx2,hy1,hy2];exact Prod.ext_iff);clear hx1 hx2 hy1 hy2;have k0:(0:Int)<=(k:Int):=by omega
   have k1:(k:Int)<(ps.length:Int):=by omega
   have k2:(k:Int)<(qs.length:Int):=by have:=HL.out;omega
   have B2:=hd_ (Below.drew HB.out);go_wp2;refine wp_region_plan 99 (.tk 0 9 .done) (fun w'=>w'.cell? ⟨b1,o1+k * 2,Option.none⟩=some (.int .i64 x1)/\w'.cell? ⟨b1,o1+k * 2+1,Option.none⟩=some (.int .i64 y1)/\w'.cell? ⟨b2,o2+k * 2,Option.none⟩=some (.int .i64 x2)/\w'.cell? ⟨b2,o2+k * 2+1,Option.none⟩=some (.int .i64 y2)) (by kernel_rfl) (by kernel_rfl) (fun _ _ _ _ _ h=>h) ⟨ra1,rb1,ra2,rb2⟩ ?_
   clear ra1 rb1 ra2 rb2
   by_cases eq:x1=x2/\y1=y2
   case neg=>
    have F:=hd_ (show decide (ps=qs)=false from decide_eq_false fun e=>eq (EQ.out.1 (by rw[e])))
    by_cases ex:x1=x2
    ·have ey:(y1==y2)=false:=by
      have:¬y1=y2:=fun e=>eq ⟨ex,e⟩
      simpa using this
     have ey':(y1 != y2)=true:=by simpa using ey
     subst ex;clear eq EQ
     repeat ((first|(refine plan_take (by rfl) (by rfl) ?_;apply Exists.intro;refine⟨fun w' hw'=>?_,?_⟩;(· ((try dsimp only at hw');go_simp;(try with_reducible rfl))))|(refine plan_skip (by rfl) (by rfl) ?_));simp only[Act.put,List.getElem_toArray,List.getElem_cons_succ,pg3,pg4,pg5,pg6])
     refine plan_done ?_;go_wp2;go_ret;exact⟨by rw[F.out];rfl,B2.out⟩
    ·have ex':(x1==x2)=false:=by simpa using ex
     clear eq EQ ex
     repeat ((first|(refine plan_take (by rfl) (by rfl) ?_;apply Exists.intro;refine⟨fun w' hw'=>?_,?_⟩;(· ((try dsimp only at hw');go_simp;(try with_reducible rfl))))|(refine plan_skip (by rfl) (by rfl) ?_));simp only[Act.put,List.getElem_toArray,List.getElem_cons_succ,pg3,pg4,pg5,pg6])
     refine plan_done ?_;go_wp2;go_ret;exact⟨by rw[F.out];rfl,B2.out⟩
   have HE2:Hid (∀j,j<k+1->K.pr ps j=K.pr qs j):=hd_ fun j hj=>by
    by_cases h:j<k
    ·exact HE.out j h
    ·obtain rfl:j=k:=by omega
     exact EQ.out.2 eq
   obtain⟨rfl,rfl⟩:=eq;clear EQ
   repeat ((first|(refine plan_take (by rfl) (by rfl) ?_;apply Exists.intro;refine⟨fun w' hw'=>?_,?_⟩;(· ((try dsimp only at hw');go_simp;(try with_reducible rfl))))|(refine plan_skip (by rfl) (by rfl) ?_));simp only[Act.put,List.getElem_toArray,List.getElem_cons_succ,pg3,pg4,pg5,pg6])
   refine plan_done ?_;go_wp2;go_roundw
   case rel=>exact⟨k+1,by omega,by go_num,HE2.out,B2.out⟩
   case measure=>simp[intOf];omega
  ·have F:Hid (decide (ps=qs)=true):=hd_ (decide_eq_true (pairs_ext HL.out (fun i hi=>HE.out i (by omega))))
   have g:decide (k<ps.length)=false:=by simpa using hlt
   clear HE;go_wp2;go_ret;exact⟨by rw[F.out];rfl,HB.out⟩
theorem eqR_short (x y:Option Addr) (n m c d:Nat) (w:World) (h:n≠m\/(n=0/\m=0)):
  Calls Tryz.prog 255 #[.slice x n c,.slice y m d,.func (.func 256) #[] #[]] w fun e w'=>e=.returned (.bool (decide (n=m)))/\Below w.heap.size w w':=by
 rcases h with h|⟨rfl,rfl⟩
 ·have hn:((n:Int) != (m:Int))=true:=by simp;omega
  go_enter Tryz.func255,Tryz.ntmps255;go_wp2;go_ret;exact⟨by simpa using h,Below.refl _ _⟩
 ·go_enter Tryz.func255,Tryz.ntmps255
  go_wp2;refine wp_loop_rounds 1 ?_;rw[rounds_succ];go_wp2;go_ret;exact⟨by simp,Below.refl _ _⟩
theorem eqR_at (w:World) {x y:Option Addr} {n m c d:Nat} {ps qs:List (List Int)} (h1:Rws w (.slice x n c) ps) (h2:Rws w (.slice y m d) qs):
  Calls Tryz.prog 255 #[.slice x n c,.slice y m d,.func (.func 256) #[] #[]] w fun e w'=>e=.returned (.bool (decide (ps=qs)))/\Below w.heap.size w w':=by
 obtain rfl:n=ps.length:=h1.len;obtain rfl:m=qs.length:=h2.len;have hm:=rws_max h1;unfold maxLen at hm
 by_cases hs:ps.length≠qs.length\/(ps.length=0/\qs.length=0)
 ·refine (eqR_short x y _ _ c d w hs).mono fun e w' ⟨he,hw⟩=>⟨?_,hw⟩
  rw[he];refine ret_bool ?_;rcases hs with q|⟨q1,q2⟩
  ·rw[decide_eq_false q,decide_eq_false (fun e=>q (by rw[e]))]
  ·rw[List.eq_nil_of_length_eq_zero q1,List.eq_nil_of_length_eq_zero q2];simp
 have el:ps.length=qs.length:=by omega
 have g0:((ps.length:Int) != (qs.length:Int))=false:=by simp;omega
 have HL:=hd_ el;have R1:=hd_ h1;have R2:=hd_ h2;clear h1 h2 hs el;go_enter Tryz.func255,Tryz.ntmps255;go_wp2;clear g0;go_loopw [17] (fun i wr=>∃k:Nat,k<=ps.length/\i=.int .i64 k/\(∀j,j<k->ps.getD j []=qs.getD j [])/\Below w.heap.size w wr) (fun i _=>ps.length - (intOf i).toNat)
 case atStart=>exact⟨0,Nat.zero_le _,rfl,fun _ h=>absurd h (Nat.not_lt_zero _),Below.refl _ _⟩
 case round=>
  obtain⟨k,hk,rfl,heq,hb⟩:=hrel;have HE:=hd_ heq;have HB:=hd_ hb;clear heq hb
  by_cases hlt:k<ps.length
  ·obtain⟨b1,o1,u1,rfl,ra1,i1⟩:=rws_at (R1.out.below HB.out lr_) hlt
   obtain⟨b2,o2,u2,rfl,ra2,i2⟩:=rws_at (R2.out.below HB.out lr_) (k:=k) (by rw[<-HL.out];exact hlt);obtain⟨⟨z1,c1,rfl⟩,_⟩:=i1.cases;obtain⟨⟨z2,c2,rfl⟩,_⟩:=i2.cases;have KE:=hd_ (eqI_at wr i1 i2);obtain⟨x1,hx1⟩:∃x,x=ps.getD k []:=⟨_,rfl⟩
   obtain⟨x2,hx2⟩:∃x,x=qs.getD k []:=⟨_,rfl⟩
   rw[<-hx1]at ra1 KE;rw[<-hx2]at ra2 KE;have X1:=hd_ hx1;have X2:=hd_ hx2;clear hx1 hx2 i1 i2;generalize x1.length=n1 at ra1 KE;generalize x2.length=n2 at ra2 KE;have k0:(0:Int)<=(k:Int):=by omega
   have k1:(k:Int)<(ps.length:Int):=by omega
   have k2:(k:Int)<(qs.length:Int):=by have:=HL.out;omega
   by_cases eq:x1=x2
   case neg=>
    have F:=hd_ (show decide (ps=qs)=false from decide_eq_false fun e=>eq (by rw[X1.out,X2.out,e]));rw[decide_eq_false eq]at KE;clear eq
    go_wp2_with fail
    refine KE.out.mono ?_;rintro e w3 ⟨rfl,hb⟩;have B2:=hd_ (HB.out.trans (hb.mono HB.out.size));clear KE hb HB ra1 ra2;go_wp2;go_ret;exact⟨by rw[F.out];rfl,B2.out⟩
   rw[decide_eq_true eq]at KE;have HE2:Hid (∀j,j<k+1->ps.getD j []=qs.getD j []):=hd_ fun j hj=>by
    by_cases h:j<k
    ·exact HE.out j h
    ·obtain rfl:j=k:=by omega
     rw[<-X1.out, <-X2.out,eq]
   clear eq
   go_wp2_with fail
   refine KE.out.mono ?_;rintro e w3 ⟨rfl,hb⟩;have B2:=hd_ (HB.out.trans (hb.mono HB.out.size));clear KE hb HB ra1 ra2;go_wp2;go_roundw
   case rel=>exact⟨k+1,by omega,by go_num,HE2.out,B2.out⟩
   case measure=>simp[intOf];omega
  ·have F:Hid (decide (ps=qs)=true):=hd_ (eq_of_get (d:=[]) rfl HL.out.symm (fun i hi=>HE.out i (by omega)))
   have g:decide (k<ps.length)=false:=by simpa using hlt
   clear HE;go_wp2;go_ret;exact⟨by rw[F.out];rfl,HB.out⟩
theorem imSameSum_at (w:World) {V1 V2:SV} {s1 s2:Sm} (h1:RdS w V1 s1) (h2:RdS w V2 s2):
  Calls Tryz.prog 199 #[.agg #[.slice V1.xr V1.nr V1.cr,.slice V1.xf V1.nf V1.cf,.slice V1.xt V1.nt V1.ct,.int .i64 s1.lo,.int .i64 s1.al,.slice V1.xk V1.nk V1.ck,.int .i64 s1.ka],.agg #[.slice V2.xr V2.nr V2.cr,.slice V2.xf V2.nf V2.cf,.slice V2.xt V2.nt V2.ct,.int .i64 s2.lo,.int .i64 s2.al,.slice V2.xk V2.nk V2.ck,.int .i64 s2.ka]] w fun e w'=>e=.returned (.bool (sameS s1 s2))/\Below w.heap.size w w':=by
 have H0:=((M.start w).alloc #[.slice V1.xr V1.nr V1.cr,.slice V1.xf V1.nf V1.cf,.slice V1.xt V1.nt V1.ct,.int .i64 s1.lo,.int .i64 s1.al,.slice V1.xk V1.nk V1.ck,.int .i64 s1.ka] 46).alloc #[.slice V2.xr V2.nr V2.cr,.slice V2.xf V2.nf V2.cf,.slice V2.xt V2.nt V2.ct,.int .i64 s2.lo,.int .i64 s2.al,.slice V2.xk V2.nk V2.ck,.int .i64 s2.ka] 46;simp only[World.size_alloc]at H0
 obtain⟨p1,hp1⟩:∃p,p=w.heap.size:=⟨_,rfl⟩
 obtain⟨p2,hp2⟩:∃p,p=w.heap.size+1:=⟨_,rfl⟩
 have HP:=hd_ hp1;have HP2:=hd_ hp2
 obtain⟨w1,hw1⟩:∃W,W=(w.alloc (.cells #[.slice V1.xr V1.nr V1.cr,.slice V1.xf V1.nf V1.cf,.slice V1.xt V1.nt V1.ct,.int .i64 s1.lo,.int .i64 s1.al,.slice V1.xk V1.nk V1.ck,.int .i64 s1.ka] 46)).alloc (.cells #[.slice V2.xr V2.nr V2.cr,.slice V2.xf V2.nf V2.cf,.slice V2.xt V2.nt V2.ct,.int .i64 s2.lo,.int .i64 s2.al,.slice V2.xk V2.nk V2.ck,.int .i64 s2.ka] 46):=⟨_,rfl⟩
 rw[<-hp2, <-hp1, <-hw1]at H0;have R1:=hd_ h1;have R2:=hd_ h2;have H:=hd_ H0;obtain⟨b0,hb0⟩:∃b,b=decide (s1.rs=s2.rs):=⟨_,rfl⟩
 obtain⟨b1,hb1⟩:∃b,b=decide (s1.zs=s2.zs):=⟨_,rfl⟩
 obtain⟨b2,hb2⟩:∃b,b=decide (s1.ps=s2.ps):=⟨_,rfl⟩
 obtain⟨b3,hb3⟩:∃b,b=(s1.lo==s2.lo):=⟨_,rfl⟩
 obtain⟨b4,hb4⟩:∃b,b=(s1.al==s2.al):=⟨_,rfl⟩
 obtain⟨b5,hb5⟩:∃b,b=decide (s1.ks=s2.ks):=⟨_,rfl⟩
 obtain⟨b6,hb6⟩:∃b,b=(s1.ka==s2.ka):=⟨_,rfl⟩
 have SS:Hid (sameS s1 s2=(b0&&(b1&&(b2&&(b3&&(b4&&(b5&&b6))))))):=hd_ (by
    unfold sameS
    rw[hb0,hb1,hb2,hb3,hb4,hb5,hb6]
    rfl)
 have K0:=hd_ (fun W (hb:Below w.heap.size w W)=>eqR_at W (R1.out.r.below hb lr_) (R2.out.r.below hb lr_));have K1:=hd_ (fun W (hb:Below w.heap.size w W)=>eqI_at W (R1.out.f.below hb lr_) (R2.out.f.below hb lr_));have K2:=hd_ (fun W (hb:Below w.heap.size w W)=>eqPr_at W (R1.out.t.below hb lr_) (R2.out.t.below hb lr_))
 have K5:=hd_ (fun W (hb:Below w.heap.size w W)=>eqKn_at W (R1.out.k.below hb lr_) (R2.out.k.below hb lr_));rw[<-hb0]at K0;rw[<-hb1]at K1;rw[<-hb2]at K2;rw[<-hb5]at K5;have g3:=hb3.symm;have g4:=hb4.symm;have g6:=hb6.symm;obtain⟨c0,c1,c2,c3,c4,c5,c6⟩:=H0.p1.cells7;obtain⟨d0,d1,d2,d3,d4,d5,d6⟩:=H0.cells7;rw[hw1,hp1]at c0 c1 c2 c3 c4 c5 c6;rw[hw1,hp2]at d0 d1 d2 d3 d4 d5 d6
 clear h1 h2 H0 hb0 hb1 hb2 hb3 hb4 hb5 hb6;go_enter Tryz.func199,Tryz.ntmps199
 go_wp2_with fail
 rw[<-hw1, <-hp2, <-hp1];clear hw1 hp1 hp2 c0 c1 c2 c3 c4 c5 c6 d0 d1 d2 d3 d4 d5 d6;refine (K0.out _ (by have:=H.out.below;rwa[HP.out]at this)).mono ?_;rintro e w2 ⟨rfl,hb⟩;replace H:=hd_ (H.out.later hb);clear hb K0;rcases b0 with _|_
 case false=>
  obtain⟨c0,c1,c2,c3,c4,c5,c6⟩:=H.out.p1.cells7;obtain⟨d0,d1,d2,d3,d4,d5,d6⟩:=H.out.cells7;go_wp2;go_ret;exact⟨by rw[SS.out];rfl,by have:=H.out.below;rwa[HP.out]at this⟩
 obtain⟨c0,c1,c2,c3,c4,c5,c6⟩:=H.out.p1.cells7;obtain⟨d0,d1,d2,d3,d4,d5,d6⟩:=H.out.cells7
 go_wp2_with fail
 clear c0 c1 c2 c3 c4 c5 c6 d0 d1 d2 d3 d4 d5 d6;refine (K1.out _ (by have:=H.out.below;rwa[HP.out]at this)).mono ?_;rintro e w2 ⟨rfl,hb⟩;replace H:=hd_ (H.out.later hb);clear hb K1;rcases b1 with _|_
 case false=>
  obtain⟨c0,c1,c2,c3,c4,c5,c6⟩:=H.out.p1.cells7;obtain⟨d0,d1,d2,d3,d4,d5,d6⟩:=H.out.cells7;go_wp2;go_ret;exact⟨by rw[SS.out];rfl,by have:=H.out.below;rwa[HP.out]at this⟩
 obtain⟨c0,c1,c2,c3,c4,c5,c6⟩:=H.out.p1.cells7;obtain⟨d0,d1,d2,d3,d4,d5,d6⟩:=H.out.cells7
 go_wp2_with fail
 clear c0 c1 c2 c3 c4 c5 c6 d0 d1 d2 d3 d4 d5 d6;refine (K2.out _ (by have:=H.out.below;rwa[HP.out]at this)).mono ?_;rintro e w2 ⟨rfl,hb⟩;replace H:=hd_ (H.out.later hb);clear hb K2;rcases b2 with _|_
 case false=>
  obtain⟨c0,c1,c2,c3,c4,c5,c6⟩:=H.out.p1.cells7;obtain⟨d0,d1,d2,d3,d4,d5,d6⟩:=H.out.cells7;go_wp2;go_ret;exact⟨by rw[SS.out];rfl,by have:=H.out.below;rwa[HP.out]at this⟩
 obtain⟨c0,c1,c2,c3,c4,c5,c6⟩:=H.out.p1.cells7;obtain⟨d0,d1,d2,d3,d4,d5,d6⟩:=H.out.cells7;rcases b3 with _|_
 case false=>
  go_wp2;go_ret;exact⟨by rw[SS.out];rfl,by have:=H.out.below;rwa[HP.out]at this⟩
 rcases b4 with _|_
 case false=>
  go_wp2;go_ret;exact⟨by rw[SS.out];rfl,by have:=H.out.below;rwa[HP.out]at this⟩
 go_wp2_with fail
 clear c0 c1 c2 c3 c4 c5 c6 d0 d1 d2 d3 d4 d5 d6;refine (K5.out _ (by have:=H.out.below;rwa[HP.out]at this)).mono ?_;rintro e w2 ⟨rfl,hb⟩;replace H:=hd_ (H.out.later hb);clear hb K5;rcases b5 with _|_
 case false=>
  obtain⟨c0,c1,c2,c3,c4,c5,c6⟩:=H.out.p1.cells7;obtain⟨d0,d1,d2,d3,d4,d5,d6⟩:=H.out.cells7;go_wp2;go_ret;exact⟨by rw[SS.out];rfl,by have:=H.out.below;rwa[HP.out]at this⟩
 obtain⟨c0,c1,c2,c3,c4,c5,c6⟩:=H.out.p1.cells7;obtain⟨d0,d1,d2,d3,d4,d5,d6⟩:=H.out.cells7;rcases b6 with _|_
 case false=>
  go_wp2;go_ret;exact⟨by rw[SS.out];rfl,by have:=H.out.below;rwa[HP.out]at this⟩
 go_wp2;go_ret;exact⟨by rw[SS.out];rfl,by have:=H.out.below;rwa[HP.out]at this⟩
end N
end Go.Proofs.YtcblbdpdbggkbaaGreat
set_option linter.unusedVariables false
set_option linter.unusedSectionVars false
set_option linter.unusedSimpArgs false
namespace Go.Proofs.YtcblbdpdbggkbaaGreat
open Go.RowKit Go.Sort
namespace N
theorem imEntryOf_at (w:World) {xk:Option Addr} {k ck:Nat} {es:List En} {f:List Nat} (h:knownR TY w [.slice xk k ck] es f) (i:Int):
  Calls Tryz.prog 155 #[.slice xk k ck,.int .i64 i] w fun r w'=>(∃u,r=.returned u/\((∃e V,findE es i=some e/\RdS w V e.s/\u=entV V e)\/(findE es i=none/\u=noEntV)))/\Below w.heap.size w w':=by
 obtain rfl:k=es.length:=(slcR_row h).1;obtain⟨_,_,e1,q1,q2⟩:=slcR_value h;have hm:es.length<=maxLen:=Nat.le_trans q1 q2;unfold maxLen at hm;clear e1 q1 q2;have H1:=hd_ h;clear h;have H0:=hd_ ((M.start w).alloc #[.int .i64 0,.int .i64 0,.int .i64 0,.slice none 0 0,.slice none 0 0,.slice none 0 0,.int .i64 0,.int .i64 0,.slice none 0 0,.int .i64 0] 64);go_enter Tryz.func155,Tryz.ntmps155;go_wp2
 obtain⟨p1,hp1⟩:∃p,p=w.heap.size:=⟨_,rfl⟩
 have HP:=hd_ hp1;rw[<-hp1]at H0;rw[<-hp1];clear hp1;generalize (w.alloc (.cells #[.int .i64 0,.int .i64 0,.int .i64 0,.slice none 0 0,.slice none 0 0,.slice none 0 0,.int .i64 0,.int .i64 0,.slice none 0 0,.int .i64 0] 64))=w1 at H0 ⊢
 go_loopw [9] (fun z wr=>∃j:Nat,j<=es.length/\z=.int .i64 j/\(∀(a:Nat) (x:En),a<j->es[a]? =some x->x.node≠i)/\M p1 w wr [boxC p1 64 #[.int .i64 0,.int .i64 0,.int .i64 0,.slice none 0 0,.slice none 0 0,.slice none 0 0,.int .i64 0,.int .i64 0,.slice none 0 0,.int .i64 0]]) (fun z _=>es.length - (intOf z).toNat)
 case atStart=>exact⟨0,Nat.zero_le _,rfl,fun a x h=>absurd h (Nat.not_lt_zero _),H0.out⟩
 case round=>
  clear H0;obtain⟨j,hj,rfl,hno,hm'⟩:=hrel;have NO:=hd_ hno;have H:=hd_ hm';clear hno hm';have hWB:=H.out.below;rw[HP.out]at hWB;obtain⟨d0,d1,d2,d3,d4,d5,d6,d7,d8,d9⟩:=H.out.cells10
  by_cases hlt:j<es.length
  ·obtain⟨x,hx⟩:∃x,es[j]? =some x:=⟨_,List.getElem?_eq_getElem hlt⟩
   obtain⟨g,V,fe,rfl,_,_,sr,ca0,ca1,ca2,cas⟩:=known_at H1.out hx;have RV:=hd_ (rds_of sr);replace ca0:=cell_later hWB ca0;replace ca1:=cell_later hWB ca1;replace ca2:=cell_later hWB ca2;have ca3:=cell_later hWB (cas 0 _ rfl);have ca4:=cell_later hWB (cas 1 _ rfl);have ca5:=cell_later hWB (cas 2 _ rfl);have ca6:=cell_later hWB (cas 3 _ rfl);have ca7:=cell_later hWB (cas 4 _ rfl)
   have ca8:=cell_later hWB (cas 5 _ rfl);have ca9:=cell_later hWB (cas 6 _ rfl);clear cas hWB sr;have k0:(0:Int)<=(j:Int):=by omega
   have k1:(j:Int)<(es.length:Int):=by omega
   have h2:=H.out.alloc #[.int .i64 x.node,.int .i64 x.born,.int .i64 x.num,.slice V.xr V.nr V.cr,.slice V.xf V.nf V.cf,.slice V.xt V.nt V.ct,.int .i64 (x.s).lo,.int .i64 (x.s).al,.slice V.xk V.nk V.ck,.int .i64 (x.s).ka] 64
   by_cases eq:x.node=i
   ·have g0:(x.node==i)=true:=by simpa using eq
    have F:=hd_ (find_at NO.out hx eq);have ef:=h2.p1.free;have N:=hd_ (h2.p1.set10 (.int .i64 x.node) (.int .i64 x.born) (.int .i64 x.num) (.slice V.xr V.nr V.cr) (.slice V.xf V.nf V.cf) (.slice V.xt V.nt V.ct) (.int .i64 x.s.lo) (.int .i64 x.s.al) (.slice V.xk V.nk V.ck) (.int .i64 x.s.ka));obtain⟨y0,y1,y2,y3,y4,y5,y6,y7,y8,y9⟩:=h2.cells10;obtain⟨z0,z1,z2,z3,z4,z5,z6,z7,z8,z9⟩:=h2.p1.cells10
    clear eq NO hx h2;go_wp2;obtain⟨e0,e1,e2,e3,e4,e5,e6,e7,e8,e9⟩:=N.out.cells10;exact bodyPost_ret (v:=entV V x) (by simp[results,Tryz.results155,go_sem,e0,e1,e2,e3,e4,e5,e6,e7,e8,e9]) rfl ⟨⟨_,rfl,.inl ⟨x,V,F.out,RV.out,rfl⟩⟩,by rw[<-HP.out];exact N.out.below⟩
   ·have g0:(x.node==i)=false:=by simpa using eq
    have NO2:Hid (∀(a:Nat) (y:En),a<j+1->es[a]? =some y->y.node≠i):=hd_ fun a y ha hy=>by
     by_cases q:a<j
     ·exact NO.out a y q hy
     ·obtain rfl:a=j:=by omega
      rw[hx]at hy;cases hy;exact eq
    have H2:=hd_ h2.p1;obtain⟨y0,y1,y2,y3,y4,y5,y6,y7,y8,y9⟩:=h2.cells10;clear eq NO hx h2;go_wp2;go_roundw
    case rel=>exact⟨j+1,by omega,by go_num,NO2.out,H2.out.p1.drop⟩
    case measure=>simp[intOf];omega
  ·have F:=hd_ (find_no (es:=es) (i:=i) fun a x hx=>NO.out a x (by have:=(List.getElem?_eq_some_iff.1 hx).1;omega) hx)
   have ef:=H.out.free;have N:=hd_ (H.out.set10 (.int .i64 0) (.int .i64 0) (.int .i64 0) (.slice Option.none 0 0) (.slice Option.none 0 0) (.slice Option.none 0 0) (.int .i64 0) (.int .i64 0) (.slice Option.none 0 0) (.int .i64 0));have g:decide (j<es.length)=false:=by simpa using hlt
   clear NO hWB;go_wp2;obtain⟨e0,e1,e2,e3,e4,e5,e6,e7,e8,e9⟩:=N.out.cells10;exact bodyPost_ret (v:=noEntV) (by simp[results,Tryz.results155,go_sem,e0,e1,e2,e3,e4,e5,e6,e7,e8,e9]) rfl ⟨⟨_,rfl,.inr ⟨F.out,rfl⟩⟩,by rw[<-HP.out];exact N.out.below⟩
end N
end Go.Proofs.YtcblbdpdbggkbaaGreat
set_option linter.unusedVariables false
set_option linter.unusedSectionVars false
set_option linter.unusedSimpArgs false
namespace Go.Proofs.YtcblbdpdbggkbaaGreat
open Go.RowKit Go.Sort
namespace N
theorem isNode_is {a:Int} {b:Bool} (h:b=in6 a 0 4) (w:World):Calls Tryz.prog 95 #[.int .i64 a] w fun e w'=>e=.returned (.bool b)/\w'=w:=by
 cases b with
 |true=>exact (isNode_yes w a h.symm).mono fun e w' ⟨h1,h2⟩=>⟨h1,h2.symm⟩
 |false=>exact (isNode_no w a h.symm).mono fun e w' ⟨h1,h2⟩=>⟨h1,h2.symm⟩
def wasB (n:Nt) (e:En):Bool:=in6 e.node 0 4&&(in6 e.born 1 (nodeAt n e.node).born&&in6 e.num 0 (pastAt n e.node e.born).length)
theorem imWas_at (w:World) {x1 x4:Option Addr} {k1 c1 k4 c4:Nat} {v2 v3:Value} {n:Nt} (V:SV) (e:En) (hn:NetRd w (.slice x1 k1 c1) v2 v3 (.slice x4 k4 c4) n) (hs:Shape n):
  Calls Tryz.prog 103 #[.agg #[.slice x1 k1 c1,v2,v3,.slice x4 k4 c4],entV V e] w fun r w'=>r=.returned (.bool (wasB n e))/\Below w.heap.size w w':=by
 obtain⟨f1,n1⟩:=hn.nodes;obtain⟨f4,n4⟩:=hn.past;obtain rfl:k1=5:=(slcR_row n1).1.trans hs.nodes;obtain rfl:k4=5:=(slcR_row n4).1.trans hs.past;obtain⟨node,born,num,s⟩:=e;have WB:Hid (wasB n ⟨node,born,num,s⟩=(in6 node 0 4&&(in6 born 1 (nodeAt n node).born&&in6 num 0 (pastAt n node born).length))):=hd_ rfl
 have H0:=((M.start w).alloc #[.slice x1 5 c1,v2,v3,.slice x4 5 c4] 30).alloc #[.int .i64 node,.int .i64 born,.int .i64 num,.slice V.xr V.nr V.cr,.slice V.xf V.nf V.cf,.slice V.xt V.nt V.ct,.int .i64 s.lo,.int .i64 s.al,.slice V.xk V.nk V.ck,.int .i64 s.ka] 64;simp only[World.size_alloc]at H0
 obtain⟨w1,hw1⟩:∃W,W=((w.alloc (.cells #[.slice x1 5 c1,v2,v3,.slice x4 5 c4] 30)).alloc (.cells #[.int .i64 node,.int .i64 born,.int .i64 num,.slice V.xr V.nr V.cr,.slice V.xf V.nf V.cf,.slice V.xt V.nt V.ct,.int .i64 s.lo,.int .i64 s.al,.slice V.xk V.nk V.ck,.int .i64 s.ka] 64)):=⟨_,rfl⟩
 obtain⟨p1,hp1⟩:∃p,p=w.heap.size:=⟨_,rfl⟩
 obtain⟨p2,hp2⟩:∃p,p=w.heap.size+1:=⟨_,rfl⟩
 rw[<-hw1, <-hp2, <-hp1]at H0;have HP:=hd_ hp1;have HS:=hd_ hs;have H1:=H0.drew;obtain⟨W,hW⟩:∃W,W=w1.drew:=⟨_,rfl⟩
 rw[<-hW]at H1;have EW:=hd_ hW;have H:=hd_ H1;have hWB:Below w.heap.size w W:=by have:=H1.below;rwa[hp1]at this
 obtain⟨d0,d1,d2,d3,d4,d5,d6,d7,d8,d9⟩:=H1.cells10;obtain⟨a0,a1,a2,a3⟩:=H1.p1.cells4;clear H0 H1 hW hs hn;go_enter Tryz.func103,Tryz.ntmps103;go_wp2;rw[<-hw1, <-hp2, <-hp1];clear hw1 hp1 hp2;obtain⟨b1,hb1⟩:∃b,b=in6 node 0 4:=⟨_,rfl⟩
 rw[<-hb1]at WB;have K1:=hd_ (isNode_is hb1);cases b1 with
 |false=>
  clear hb1;refine wp_region_plan 99 (.tk 0 2 (.alt 2 (.tk 3 18 .done) .nomore)) (fun w'=>Cells w' (b4L p1 (.slice x1 5 c1) v2 v3 (.slice x4 5 c4)++b10L p2 node born num V s)) (by kernel_rfl) (by kernel_rfl) (fun _ _ _ _ _ h=>h) (by rw[<-EW.out];exact⟨a0,a1,a2,a3,d0,d1,d2,d3,d4,d5,d6,d7,d8,d9,trivial⟩) ?_;rw[<-EW.out]
  repeat ((first|(refine plan_take (by rfl) (by rfl) ?_;apply Exists.intro;refine⟨fun w' hw'=>?_,?_⟩;(· ((try simp only[Cells,Cells_app,b4L,b5L,b6L,b7L,b10L,N.entL,and_true]at hw');go_simp;(try with_reducible rfl))))|(refine plan_skip (by rfl) (by rfl) ?_));simp only[Act.put,List.getElem_toArray,List.getElem_cons_succ,pg3,pg4,pg5,pg6])
  refine plan_last (by rfl) (fun K' hK=>?_);go_simp;refine (K1.out W).mono ?_;rintro e' w' ⟨rfl,hw'⟩;rw[hw'];clear hw' w';refine hK _ _ (.inr ⟨a0,a1,a2,a3,d0,d1,d2,d3,d4,d5,d6,d7,d8,d9,trivial⟩) ?_;clear hK K'
  try simp only[Act.put,List.getElem_toArray,List.getElem_cons_succ,pg3,pg4,pg5,pg6]
  repeat ((first|(refine plan_take (by rfl) (by rfl) ?_;apply Exists.intro;refine⟨fun w' hw'=>?_,?_⟩;(· ((try simp only[Cells,Cells_app,b4L,b5L,b6L,b7L,b10L,N.entL,and_true]at hw');go_simp;(try with_reducible rfl))))|(refine plan_skip (by rfl) (by rfl) ?_));simp only[Act.put,List.getElem_toArray,List.getElem_cons_succ,pg3,pg4,pg5,pg6])
  refine plan_done ?_;go_wp2;go_ret;exact⟨by rw[WB.out];rfl,by have:=H.out.below;rwa[HP.out]at this⟩
 |true=>
  obtain⟨iA,iB⟩:=in6_iff.1 hb1.symm;obtain⟨i,rfl⟩:∃i:Nat,node=i:=⟨node.toNat,by omega⟩
  have i5:i<5:=by omega
  obtain⟨nd,hnd⟩:∃nd,n.nodes[i]? =some nd:=⟨_,List.getElem?_eq_getElem (by rw[HS.out.nodes];exact i5)⟩
  obtain⟨rs,hrs⟩:∃rs,n.past[i]? =some rs:=⟨_,List.getElem?_eq_getElem (by rw[HS.out.past];exact i5)⟩
  have eN:nodeAt n (i:Int)=nd:=by unfold nodeAt;rw[List.getD_eq_getElem?_getD,Int.toNat_natCast,hnd];rfl
  have eR:rowsAt n (i:Int)=rs:=by unfold rowsAt;rw[List.getD_eq_getElem?_getD,Int.toNat_natCast,hrs];rfl
  have eL:=HS.out.rows i i5;rw[eN,eR]at eL;rw[eN]at WB;obtain⟨g1,xk,ck,fk,rfl,_,_,_,_,_,b0,_⟩:=node_at n1 hnd;obtain⟨g4,xr,cr,fr,rfl,_,_,rr,_,_,y0⟩:=past_at n4 hrs;replace b0:=cell_later hWB b0;replace y0:=cell_later hWB y0;have ER:=hd_ eR;have EL:=hd_ eL;clear hb1 iA iB hnd hrs eN eR eL n1 n4;have i0:(0:Int)<=(i:Int):=by omega
  have i5':(i:Int)<5:=by omega
  have bad:∀(hf:in6 born 1 nd.born=false),wasB n ⟨(i:Int),born,num,s⟩=false:=fun hf=>by rw[WB.out,hf];rfl
  have BAD:=hd_ bad;clear bad;have C0:Hid (Cells W (b4L p1 (.slice (some ⟨g1,0,none⟩) 5 c1) v2 v3 (.slice (some ⟨g4,0,none⟩) 5 c4)++(b10L p2 (i:Int) born num V s++[(⟨g1,i * 5,none⟩,.int .i64 nd.born),(⟨g4,i,none⟩,.slice xr rs.length cr)]))):=hd_ ⟨a0,a1,a2,a3,d0,d1,d2,d3,d4,d5,d6,d7,d8,d9,b0,y0,trivial⟩;clear a0 a1 a2 a3 d0 d1 d2 d3 d4 d5 d6 d7 d8 d9 b0 y0
  obtain⟨q1,hq1⟩:∃b,b=decide (born<1):=⟨_,rfl⟩
  obtain⟨q2,hq2⟩:∃b,b=decide (nd.born<born):=⟨_,rfl⟩
  have g1':=hq1.symm;have g2':=hq2.symm;have Q1:=hd_ hq1;have Q2:=hd_ hq2;clear hq1 hq2;rcases q1 with _|_
  case true=>
   have F:=hd_ (BAD.out (decide_eq_false (by have:=of_decide_eq_true Q1.out.symm;omega)))
   refine wp_region_plan 99 (.tk 0 2 (.alt 2 (.tk 3 18 .done) .nomore)) (fun w'=>Cells w' (b4L p1 (.slice (some ⟨g1,0,none⟩) 5 c1) v2 v3 (.slice (some ⟨g4,0,none⟩) 5 c4)++(b10L p2 (i:Int) born num V s++[(⟨g1,i * 5,none⟩,.int .i64 nd.born),(⟨g4,i,none⟩,.slice xr rs.length cr)]))) (by kernel_rfl) (by kernel_rfl) (fun _ _ _ _ _ h=>h) (by rw[<-EW.out];exact C0.out) ?_;rw[<-EW.out]
   repeat ((first|(refine plan_take (by rfl) (by rfl) ?_;apply Exists.intro;refine⟨fun w' hw'=>?_,?_⟩;(· ((try simp only[Cells,Cells_app,b4L,b5L,b6L,b7L,b10L,N.entL,and_true]at hw');go_simp;(try with_reducible rfl))))|(refine plan_skip (by rfl) (by rfl) ?_));simp only[Act.put,List.getElem_toArray,List.getElem_cons_succ,pg3,pg4,pg5,pg6])
   refine plan_last (by rfl) (fun K' hK=>?_);go_simp;refine (K1.out W).mono ?_;rintro e' w' ⟨rfl,hw'⟩;rw[hw'];clear hw' w';refine hK _ _ (.inr C0.out) ?_;clear hK K'
   try simp only[Act.put,List.getElem_toArray,List.getElem_cons_succ,pg3,pg4,pg5,pg6]
   repeat ((first|(refine plan_take (by rfl) (by rfl) ?_;apply Exists.intro;refine⟨fun w' hw'=>?_,?_⟩;(· ((try simp only[Cells,Cells_app,b4L,b5L,b6L,b7L,b10L,N.entL,and_true]at hw');go_simp;(try with_reducible rfl))))|(refine plan_skip (by rfl) (by rfl) ?_));simp only[Act.put,List.getElem_toArray,List.getElem_cons_succ,pg3,pg4,pg5,pg6])
   refine plan_done ?_;go_wp2;go_ret;exact⟨by rw[F.out];rfl,by have:=H.out.below;rwa[HP.out]at this⟩
  have R1:=hd_ (fun (F:Prop) (h1:(born<1)->F)=>h1)
  refine wp_region_plan 99 (.tk 0 2 (.alt 2 (.tk 3 18 .done) .nomore)) (fun w'=>Cells w' (b4L p1 (.slice (some ⟨g1,0,none⟩) 5 c1) v2 v3 (.slice (some ⟨g4,0,none⟩) 5 c4)++(b10L p2 (i:Int) born num V s++[(⟨g1,i * 5,none⟩,.int .i64 nd.born),(⟨g4,i,none⟩,.slice xr rs.length cr)]))) (by kernel_rfl) (by kernel_rfl) (fun _ _ _ _ _ h=>h) (by rw[<-EW.out];exact C0.out) ?_;rw[<-EW.out]
  repeat ((first|(refine plan_take (by rfl) (by rfl) ?_;apply Exists.intro;refine⟨fun w' hw'=>?_,?_⟩;(· ((try simp only[Cells,Cells_app,b4L,b5L,b6L,b7L,b10L,N.entL,and_true]at hw');go_simp;(try with_reducible rfl))))|(refine plan_skip (by rfl) (by rfl) ?_));simp only[Act.put,List.getElem_toArray,List.getElem_cons_succ,pg3,pg4,pg5,pg6])
  refine plan_last (by rfl) (fun K' hK=>?_);go_simp;refine (K1.out W).mono ?_;rintro e' w' ⟨rfl,hw'⟩;rw[hw'];clear hw' w';refine hK _ _ (.inr C0.out) ?_;clear hK K'
  try simp only[Act.put,List.getElem_toArray,List.getElem_cons_succ,pg3,pg4,pg5,pg6]
  repeat ((first|(refine plan_take (by rfl) (by rfl) ?_;apply Exists.intro;refine⟨fun w' hw'=>?_,?_⟩;(· ((try simp only[Cells,Cells_app,b4L,b5L,b6L,b7L,b10L,N.entL,and_true]at hw');go_simp;(try with_reducible rfl))))|(refine plan_skip (by rfl) (by rfl) ?_));simp only[Act.put,List.getElem_toArray,List.getElem_cons_succ,pg3,pg4,pg5,pg6])
  refine plan_done ?_;rcases q2 with _|_
  case true=>
   have F:=hd_ (BAD.out (decide_eq_false (by have:=of_decide_eq_true Q2.out.symm;omega)));go_wp2;go_ret;exact⟨by rw[F.out];rfl,by have:=H.out.below;rwa[HP.out]at this⟩
  have o1:=of_decide_eq_false Q1.out.symm;have o2:=of_decide_eq_false Q2.out.symm;obtain⟨j,rfl⟩:∃j:Nat,born=j:=⟨born.toNat,by omega⟩
  have jr:j<rs.length:=by have:=EL.out;omega
  obtain⟨lp,hlp⟩:∃lp,rs[j]? =some lp:=⟨_,List.getElem?_eq_getElem jr⟩
  have EP:Hid (pastAt n (i:Int) (j:Int)=lp):=hd_ (by unfold pastAt;rw[ER.out,List.getD_eq_getElem?_getD,Int.toNat_natCast,hlp];rfl);obtain⟨g5,xl,cl,fl,rfl,_,_,_,lc,lm,y1⟩:=row_at rr hlp;replace y1:=cell_later hWB y1;have WB2:Hid (wasB n ⟨(i:Int),(j:Int),num,s⟩=in6 num 0 (lp.length:Int)):=hd_ (by rw[WB.out,EP.out,show in6 (j:Int) 1 nd.born=true from decide_eq_true (by omega)];rfl)
  have j0:(0:Int)<=(j:Int):=by omega
  have j1:(j:Int)<(rs.length:Int):=by omega
  have C1:=hd_ (show Cells W.drew (b4L p1 (.slice (some ⟨g1,0,none⟩) 5 c1) v2 v3 (.slice (some ⟨g4,0,none⟩) 5 c4)++(b10L p2 (i:Int) (j:Int) num V s++[(⟨g4,i,none⟩,.slice (some ⟨g5,0,none⟩) rs.length cr),(⟨g5,j,none⟩,.slice xl lp.length cl)])) by
      refine Cells.below (W:=W) ?_ (Below.drew (Below.refl _ _))
      obtain⟨c0,c1,c2,c3,e0,e1,e2,e3,e4,e5,e6,e7,e8,e9,_,t0,_⟩:=C0.out
      exact⟨c0,c1,c2,c3,e0,e1,e2,e3,e4,e5,e6,e7,e8,e9,t0,y1,trivial⟩)
  clear o1 o2 hlp rr lc lm y1 jr C0 BAD WB Q1 Q2 K1;obtain⟨q3,hq3⟩:∃b,b=decide (0<=num):=⟨_,rfl⟩
  obtain⟨q4,hq4⟩:∃b,b=decide (num<=(lp.length:Int)):=⟨_,rfl⟩
  have WB3:Hid (wasB n ⟨(i:Int),(j:Int),num,s⟩=(q3&&q4)):=hd_ (by
      rw[WB2.out,hq3,hq4]
      unfold in6
      by_cases x:0<=num<;>by_cases y:num<=(lp.length:Int)<;>simp[x,y])
  have g3':=hq3.symm;have g4':=hq4.symm;clear hq3 hq4 WB2;have H2:=hd_ H.out.drew;rcases q3 with _|_
  all_goals
   go_wp2;refine wp_region_plan 99 (.tk 0 19 (.alt 19 .done .nomore)) (fun w'=>Cells w' (b4L p1 (.slice (some ⟨g1,0,none⟩) 5 c1) v2 v3 (.slice (some ⟨g4,0,none⟩) 5 c4)++(b10L p2 (i:Int) (j:Int) num V s++[(⟨g4,i,none⟩,.slice (some ⟨g5,0,none⟩) rs.length cr),(⟨g5,j,none⟩,.slice xl lp.length cl)]))) (by kernel_rfl) (by kernel_rfl) (fun _ _ _ _ _ h=>h) C1.out ?_
   repeat ((first|(refine plan_take (by rfl) (by rfl) ?_;apply Exists.intro;refine⟨fun w' hw'=>?_,?_⟩;(· ((try simp only[Cells,Cells_app,b4L,b5L,b6L,b7L,b10L,N.entL,and_true]at hw');go_simp;(try with_reducible rfl))))|(refine plan_skip (by rfl) (by rfl) ?_));simp only[Act.put,List.getElem_toArray,List.getElem_cons_succ,pg3,pg4,pg5,pg6])
   refine plan_last (by rfl) (fun K' hK=>?_);go_simp;refine hK _ _ (.inr C1.out) ?_;clear hK K';refine plan_done ?_;go_wp2;go_ret;exact⟨by rw[WB3.out];rfl,by have:=H2.out.below;rwa[HP.out]at this⟩
end N
end Go.Proofs.YtcblbdpdbggkbaaGreat
set_option linter.unusedVariables false
set_option linter.unusedSectionVars false
set_option linter.unusedSimpArgs false
namespace Go.Proofs.YtcblbdpdbggkbaaGreat
open Go.RowKit Go.Sort Go.ChangeMaps
namespace N
def moV (k:Int × Int × Int):Value:=.agg #[.int .i64 k.1,.int .i64 k.2.1,.int .i64 k.2.2]
def In63 (x:Int):Prop:= -9223372036854775808<=x/\x<9223372036854775808
def MoOk (k:Int × Int × Int):Prop:=In63 k.1/\In63 k.2.1/\In63 k.2.2
theorem moT:KeyT Tryz.prog 234 MoOk moV:=by
 refine⟨Go.Maps.Keyed.of_law (deep_law_gate (by kernel_rfl) (by decide+kernel) (by decide+kernel) (by kernel_rfl) (by kernel_rfl)),fun k hk=>?_,fun x y h=>?_⟩
 ·obtain⟨⟨a0,a1⟩,⟨b0,b1⟩,c0,c1'⟩:=hk
  have c3:Tryz.prog.cellsOf 234=3:=by kernel_rfl
  have c1:Tryz.prog.cellsOf 3=1:=by kernel_rfl
  have ht:Tryz.prog.keyType 234=true:=by kernel_rfl
  have hn:1<=Tryz.prog.types.size:=by decide+kernel
  obtain⟨d,hd⟩:∃d,Tryz.prog.types.size+1=d+2:=⟨Tryz.prog.types.size - 1,by omega⟩
  have w1:(Lit.int .i64 k.1).wf=true:=by simp[Lit.wf,IntKind.min,IntKind.max,IntKind.bits,IntKind.signed];omega
  have w2:(Lit.int .i64 k.2.1).wf=true:=by simp[Lit.wf,IntKind.min,IntKind.max,IntKind.bits,IntKind.signed];omega
  have w3:(Lit.int .i64 k.2.2).wf=true:=by simp[Lit.wf,IntKind.min,IntKind.max,IntKind.bits,IntKind.signed];omega
  refine⟨.string (keyBytes [.int .i64 k.1,.int .i64 k.2.1,.int .i64 k.2.2]),?_⟩;have hl:Tryz.prog.keyLits (d+2) 234 [.int .i64 k.1,.int .i64 k.2.1,.int .i64 k.2.2]=some [.int .i64 k.1,.int .i64 k.2.1,.int .i64 k.2.2]:=by
   simp only[Program.keyLits,Tryz.underlying234,c3];simp[Program.keyLits,c1,Tryz.underlying3,w1,w2,w3]
  have hf:(moV k).formed Tryz.prog 234=true:=by unfold moV Value.formed;simp only[Tryz.underlying234,c3];rfl
  have hc:(moV k).cells.toList=[.int .i64 k.1,.int .i64 k.2.1,.int .i64 k.2.2]:=rfl;simp only[keyOf,Tryz.underlying234,ht,hf,hd,hc,hl,Bool.and_self,if_true,Option.map_some]
 ·unfold moV at h
  injection h with h
  have h':=congrArg Array.toList h;simp at h';exact Prod.ext h'.1 (Prod.ext h'.2.1 h'.2.2)
theorem sum_info:(Tryz.prog.info? 46).map (fun i=>(i.zero,i.size,i.bytes))=some (some (.agg #[.slice none 0 0,.slice none 0 0,.slice none 0 0,.int .i64 0,.int .i64 0,.slice none 0 0,.int .i64 0]),7,120):=by kernel_rfl
theorem sumZ (w:World):(zeroValue 46).run Tryz.prog w=.ok (.agg #[.slice none 0 0,.slice none 0 0,.slice none 0 0,.int .i64 0,.int .i64 0,.slice none 0 0,.int .i64 0]) w:=by
 obtain⟨i,hi,hz,_⟩:=info_parts sum_info;simp[zeroValue,typeInfo,hi,hz]
abbrev sumC (V:SV) (s:Sm):Ch:=sumR_frame.ch [.slice V.xr V.nr V.cr,.slice V.xf V.nf V.cf,.slice V.xt V.nt V.ct,.int .i64 s.lo,.int .i64 s.al,.slice V.xk V.nk V.ck,.int .i64 s.ka] s
def MemoIs (m:Nat) (S:Int × Int × Int->Sm) (g:Int × Int × Int->Option Value) (w:World) (f:List Nat):Prop:=(∀b ∈ f,b<w.heap.size)/\m ∈ f/\MapIs MoOk moV w m g/\∀k v,g k=some v->∃V:SV,∃fp:List Nat,v=.agg #[.slice V.xr V.nr V.cr,.slice V.xf V.nf V.cf,.slice V.xt V.nt V.ct,.int .i64 (S k).lo,.int .i64 (S k).al,.slice V.xk V.nk V.ck,.int .i64 (S k).ka]/\sumR w [.slice V.xr V.nr V.cr,.slice V.xf V.nf V.cf,.slice V.xt V.nt V.ct,.int .i64 (S k).lo,.int .i64 (S k).al,.slice V.xk V.nk V.ck,.int .i64 (S k).ka] (S k) fp/\∀b ∈ fp,b ∈ f/\b≠m
theorem MemoIs.keep {m:Nat} {S:Int × Int × Int->Sm} {g:Int × Int × Int->Option Value} {w w':World} {f:List Nat} (h:MemoIs m S g w f) (hk:∀b ∈ f,w'.heap[b]? =w.heap[b]?) (hs:w.heap.size<=w'.heap.size):MemoIs m S g w' f:=by
 obtain⟨lt,hm,⟨es,c,hb,r⟩,hg⟩:=h;refine⟨fun b hb=>Nat.lt_of_lt_of_le (lt b hb) hs,hm,⟨es,c,(hk m hm).trans hb,r⟩,fun k v hv=>?_⟩;obtain⟨V,fp,e,hr,hf⟩:=hg k v hv;exact⟨V,fp,e,sumR_frame.keep hr (fun b hb=>hk b (hf b hb).1) hs,hf⟩
def memoG (m:Nat) (S:Int × Int × Int->Sm) (g:Int × Int × Int->Option Value):Ch:=⟨fun w f=>MemoIs m S g w f,fun h=>h.1,fun h=>h.keep⟩
def memoC (m:Nat) (S:Int × Int × Int->Sm):Ch:=Ch.ex (memoG m S)
def BesideIs (m:Nat) (V:SV) (s:Sm) (w:World) (f:List Nat):Prop:=∃fp:List Nat,sumR w [.slice V.xr V.nr V.cr,.slice V.xf V.nf V.cf,.slice V.xt V.nt V.ct,.int .i64 s.lo,.int .i64 s.al,.slice V.xk V.nk V.ck,.int .i64 s.ka] s fp/\∀b ∈ fp,b ∈ f/\b≠m
theorem BesideIs.keep {m:Nat} {V:SV} {s:Sm} {w w':World} {f:List Nat} (h:BesideIs m V s w f) (hk:∀b ∈ f,w'.heap[b]? =w.heap[b]?) (hs:w.heap.size<=w'.heap.size):BesideIs m V s w' f:=by
 obtain⟨fp,hr,hf⟩:=h;exact⟨fp,sumR_frame.keep hr (fun b hb=>hk b (hf b hb).1) hs,hf⟩
def memoE (m:Nat) (S:Int × Int × Int->Sm) (V:SV) (s:Sm) (g:Int × Int × Int->Option Value):Ch:=⟨fun w f=>MemoIs m S g w f/\BesideIs m V s w f,fun h=>h.1.1,fun h hk hs=>⟨h.1.keep hk hs,h.2.keep hk hs⟩⟩
def memoV (m:Nat) (S:Int × Int × Int->Sm) (V:SV) (s:Sm):Ch:=Ch.ex (memoE m S V s)
section
variable {B m:Nat} {w w0:World} {l:List Ch} {S:Int × Int × Int->Sm} {k:Int × Int × Int} {V:SV} {s:Sm}
theorem memo_new (h:M B w0 w l) (S:Int × Int × Int->Sm):M B w0 (w.alloc (.map #[] 0)) (memoC w.heap.size S::l):=
 M.in (c:=memoG w.heap.size S) (fun _=>none) ((h.map MoOk moV).to fun f hf nd=>by
    obtain⟨hm,rfl⟩:=hf
    exact⟨_,⟨fun b hb=>by rw[List.mem_singleton.1 hb];simp,List.mem_singleton_self _,hm,fun k v hv=>by cases hv⟩,nd,fun b hb=>hb⟩)
theorem memo_forget (h:M B w0 w (memoV m S V s::l)):M B w0 w (memoC m S::l):=by
 obtain⟨g,h⟩:=M.ex h;exact M.in (c:=memoG m S) g (h.to fun f hf nd=>⟨f,hf.1,nd,fun b hb=>hb⟩)
theorem memo_rd (h:M B w0 w (memoV m S V s::l)):RdS w V s:=by
 obtain⟨g,h⟩:=M.ex h;obtain⟨f,⟨_,fp,hr,_⟩,_⟩:=h.first;exact rds_of hr
theorem memo_put (h:M B w0 w (sumC V s::memoC m S::l)):M B w0 w (memoV m S V s::l):=by
 obtain⟨g,h⟩:=M.ex (M.p1 h);exact M.in (c:=memoE m S V s) g ((M.sep h).to fun f hf nd=>by
    obtain⟨f2,f1,rfl,h2,h1⟩:=hf
    obtain⟨n1,n2,n3⟩:=List.nodup_append.1 nd
    have l1:=sumR_frame.lt h1
    obtain⟨lt,hm,hmap,hg⟩:=h2
    refine⟨f2++f1,⟨⟨fun b hb=>?_,List.mem_append_left _ hm,hmap,fun k v hv=>?_⟩,f1,h1,fun b hb=>⟨List.mem_append_right _ hb,fun e=>n3 m hm b hb e.symm⟩⟩,nd,fun b hb=>hb⟩
    · rcases List.mem_append.1 hb with q|q
      · exact lt b q
      · exact l1 b q
    · obtain⟨V',fp,e,hr,hf⟩:=hg k v hv
      exact⟨V',fp,e,hr,fun b hb=>⟨List.mem_append_left _ (hf b hb).1,(hf b hb).2⟩⟩)
theorem memo_look (h:M B w0 w (memoC m S::l)) (hk:MoOk k):∃(b:Bool) (V:SV) (s:Sm),(Instr.lookup 118 (.map (some m)) (moV k) true).run Tryz.prog w=.ok (.tuple #[.agg #[.slice V.xr V.nr V.cr,.slice V.xf V.nf V.cf,.slice V.xt V.nt V.ct,.int .i64 s.lo,.int .i64 s.al,.slice V.xk V.nk V.ck,.int .i64 s.ka],.bool b]) w/\(b=true->s=S k/\M B w0 w (memoV m S V s::l)):=by
 obtain⟨g,h⟩:=M.ex h;obtain⟨f,hf,_⟩:=h.first;have hr:=hf.2.2.1.look moT Tryz.underlying118 (sumZ w) hk true;cases hgk:g k with
 |none=>
  rw[hgk]at hr;exact⟨false,SV.none,noSm,hr,fun e=>by cases e⟩
 |some v=>
  obtain⟨V,fp,rfl,hs,hfp⟩:=hf.2.2.2 k v hgk;rw[hgk]at hr;refine⟨true,V,S k,hr,fun _=>⟨rfl,M.in (c:=memoE m S V (S k)) g (h.to fun f' hf' nd=>?_)⟩⟩;obtain⟨V',fp',e',hs',hfp'⟩:=hf'.2.2.2 k _ hgk;obtain rfl:V=V':=sv_inj (s:=S k) (by simpa using e');exact⟨f',⟨hf',fp',hs',hfp'⟩,nd,fun b hb=>hb⟩
theorem memo_set (h:M B w0 w (memoV m S V (S k)::l)) (hk:MoOk k):∃w',(Instr.mapUpdate 118 (.map (some m)) (moV k) (.agg #[.slice V.xr V.nr V.cr,.slice V.xf V.nf V.cf,.slice V.xt V.nt V.ct,.int .i64 (S k).lo,.int .i64 (S k).al,.slice V.xk V.nk V.ck,.int .i64 (S k).ka])).run Tryz.prog w=.ok () w'/\M B w0 w' (memoV m S V (S k)::l)/\w'.heap.size=w.heap.size:=by
 obtain⟨g,h⟩:=M.ex h;obtain⟨f0,hf0,_⟩:=h.first;obtain⟨es,c,hr,hm⟩:=hf0.1.2.2.1.store moT Tryz.underlying118 hk (.agg #[.slice V.xr V.nr V.cr,.slice V.xf V.nf V.cf,.slice V.xt V.nt V.ct,.int .i64 (S k).lo,.int .i64 (S k).al,.slice V.xk V.nk V.ck,.int .i64 (S k).ka])
 refine⟨_,hr,M.in (c:=memoE m S V (S k)) (fun y=>if y=k then some (.agg #[.slice V.xr V.nr V.cr,.slice V.xf V.nf V.cf,.slice V.xt V.nt V.ct,.int .i64 (S k).lo,.int .i64 (S k).al,.slice V.xk V.nk V.ck,.int .i64 (S k).ka])else g y) (h.turn fun f hf nd lo=>?_),by simp[setBlock]⟩;obtain⟨⟨lt,hm0,_,hg⟩,fp,hs,hfp⟩:=hf;have sz:(setBlock w m (.map es c)).heap.size=w.heap.size:=by simp[setBlock]
 have other:∀q,q≠m->(setBlock w m (.map es c)).heap[q]? =w.heap[q]? :=fun q hq=>by
  have ne:¬m=q:=fun e=>hq e.symm
  simp[setBlock,Array.getElem?_setIfInBounds,ne]
 have keep:∀{V2:SV} {s2:Sm} {fp':List Nat},sumR w [.slice V2.xr V2.nr V2.cr,.slice V2.xf V2.nf V2.cf,.slice V2.xt V2.nt V2.ct,.int .i64 s2.lo,.int .i64 s2.al,.slice V2.xk V2.nk V2.ck,.int .i64 s2.ka] s2 fp'->(∀b ∈ fp',b ∈ f/\b≠m)->sumR (setBlock w m (.map es c)) [.slice V2.xr V2.nr V2.cr,.slice V2.xf V2.nf V2.cf,.slice V2.xt V2.nt V2.ct,.int .i64 s2.lo,.int .i64 s2.al,.slice V2.xk V2.nk V2.ck,.int .i64 s2.ka] s2 fp':=fun hr' hf'=>sumR_frame.keep hr' (fun b hb=>other b (hf' b hb).2) (Nat.le_of_eq sz.symm)
 refine⟨⟨rfl,rfl,rfl,Nat.le_of_eq sz.symm,fun q _ hq=>other q fun e=>hq (by rw[e];exact hm0)⟩,f,⟨⟨fun b hb=>by rw[sz];exact lt b hb,hm0,hm,fun y v hv=>?_⟩,fp,keep hs hfp,hfp⟩,nd,fun b hb=>.inl hb⟩
 by_cases e:y=k
 ·subst e
  obtain rfl:(.agg #[.slice V.xr V.nr V.cr,.slice V.xf V.nf V.cf,.slice V.xt V.nt V.ct,.int .i64 (S y).lo,.int .i64 (S y).al,.slice V.xk V.nk V.ck,.int .i64 (S y).ka])=v:=by simpa using hv
  exact⟨V,fp,rfl,keep hs hfp,hfp⟩
 ·replace hv:=(if_neg e).symm.trans hv
  obtain⟨V',fp',e1,hr',hf'⟩:=hg y v hv;exact⟨V',fp',e1,keep hr' hf',hf'⟩
theorem wp_memo {K:Act->World->Prop} {o:Oper} {a:Act} {Q:Exit->Act->World->Prop} {mo ko vo:Operand} (h:M B w0 w (memoV m S V s::l)) (hk:MoOk k) (es:s=S k) (hop:o.op=.mapUpdate 118 mo ko vo) {x y:Value}
  (hm:a.eval mo=.map (some m)) (hx:a.eval ko=x) (hy:a.eval vo=y) (ex:x=moV k) (ey:y=.agg #[.slice V.xr V.nr V.cr,.slice V.xf V.nf V.cf,.slice V.xt V.nt V.ct,.int .i64 s.lo,.int .i64 s.al,.slice V.xk V.nk V.ck,.int .i64 s.ka]) (n:∀w',M B w0 w' (memoV m S V s::l)->K (a.put o.dst undef) w'):o.wp Tryz.prog a w K Q:=by
 subst es;obtain⟨w',hr,hM,hs⟩:=memo_set h hk;rw[<-ex, <-ey]at hr;clear ex ey;unfold Oper.wp;simp[execOp,hop,hm,hx,hy,hr,Result.andThen,Oper.upon];exact n w' hM
theorem wpList_memo {ops:Array Oper} {rest:List Oper} {o:Oper} {a:Act} {Q:Exit->Act->World->Prop} {mo ko vo:Operand} (h:M B w0 w (memoV m S V s::l)) (hk:MoOk k) (es:s=S k) (hgd:o.guard=none) (hop:o.op=.mapUpdate 118 mo ko vo) {x y:Value}
  (hm:a.eval mo=.map (some m)) (hx:a.eval ko=x) (hy:a.eval vo=y) (ex:x=moV k) (ey:y=.agg #[.slice V.xr V.nr V.cr,.slice V.xf V.nf V.cf,.slice V.xt V.nt V.ct,.int .i64 s.lo,.int .i64 s.al,.slice V.xk V.nk V.ck,.int .i64 s.ka]) (n:∀w',M B w0 w' (memoV m S V s::l)->wpList Tryz.prog ops Q rest (a.put o.dst undef) w'):wpList Tryz.prog ops Q (o::rest) a w:=
 wpList_plain hgd fun _ hK=>wp_memo h hk es hop hm hx hy ex ey fun w' h1=>hK _ _ (n w' h1)
end
end N
end Go.Proofs.YtcblbdpdbggkbaaGreat
set_option linter.unusedVariables false
namespace Go.Proofs.YtcblbdpdbggkbaaGreat
open Go.RowKit Go.Sort
def wayR (V:SV):Value:=.iface 36 (.agg #[.slice V.xr V.nr V.cr])
def wayF (V:SV):Value:=.iface 38 (.agg #[.slice V.xf V.nf V.cf])
def wayT (V:SV) (s:Sm):Value:=.iface 41 (.agg #[.slice V.xt V.nt V.ct,.int .i64 s.lo,.int .i64 s.al])
def wayK (V:SV) (s:Sm):Value:=.iface 44 (.agg #[.slice V.xk V.nk V.ck,.int .i64 s.ka])
theorem isOkR_at (w:World) (x:Option Addr) (n c:Nat) (rs:List (List Int)) (h:Rws w (.slice x n c) rs):
  Calls Tryz.prog 352 #[.agg #[.slice x n c]] w fun e w'=>e=.returned (.bool (okB rs))/\Below w.heap.size w w':=by
 have hA:=(Below.refl w.heap.size w).alloc lr_ (.cells #[.slice x n c] 36);have K:=hd_ (imOk_at _ _ rs (h.below hA lr_));have HA:=hd_ hA;clear h hA;go_enter Tryz.func352,Tryz.ntmps352
 go_wp2_with fail
 refine K.out.mono ?_;rintro e w1 ⟨rfl,hb⟩;go_wp2;go_ret;exact⟨rfl,HA.out.trans (hb.mono HA.out.size)⟩
theorem isOkF_at (w:World) (x:Option Addr) (n c:Nat) (zs:List Int) (h:Ints w (.slice x n c) zs):
  Calls Tryz.prog 353 #[.agg #[.slice x n c]] w fun e w'=>e=.returned (.bool (fewB zs))/\Below w.heap.size w w':=by
 have hA:=(Below.refl w.heap.size w).alloc lr_ (.cells #[.slice x n c] 38);have K:=hd_ (imFewOk_at _ _ zs (h.below hA lr_));have HA:=hd_ hA;clear h hA;go_enter Tryz.func353,Tryz.ntmps353
 go_wp2_with fail
 refine K.out.mono ?_;rintro e w1 ⟨rfl,hb⟩;go_wp2;go_ret;exact⟨rfl,HA.out.trans (hb.mono HA.out.size)⟩
theorem isOkT_at (w:World) (x:Option Addr) (n c:Nat) (ps:List T.Pr) (lo al:Int) (h:T.Prs w (.slice x n c) ps):
  Calls Tryz.prog 354 #[.agg #[.slice x n c,.int .i64 lo,.int .i64 al]] w fun e w'=>e=.returned (.bool (T.topB ps lo al))/\Below w.heap.size w w':=by
 have hA:=(Below.refl w.heap.size w).alloc lr_ (.cells #[.slice x n c,.int .i64 lo,.int .i64 al] 41);have K:=hd_ (T.imTopOk_at _ _ ps lo al (h.below hA lr_));have HA:=hd_ hA;clear h hA;go_enter Tryz.func354,Tryz.ntmps354
 go_wp2_with fail
 refine K.out.mono ?_;rintro e w1 ⟨rfl,hb⟩;go_wp2;go_ret;exact⟨rfl,HA.out.trans (hb.mono HA.out.size)⟩
theorem isOkK_at (w:World) (x:Option Addr) (n c:Nat) (ps:List K.Pr) (al:Int) (h:K.Prs w (.slice x n c) ps):
  Calls Tryz.prog 355 #[.agg #[.slice x n c,.int .i64 al]] w fun e w'=>e=.returned (.bool (K.rankB ps al))/\Below w.heap.size w w':=by
 have hA:=(Below.refl w.heap.size w).alloc lr_ (.cells #[.slice x n c,.int .i64 al] 44);have K:=hd_ (K.imRankOk_at _ _ ps al (h.below hA lr_));have HA:=hd_ hA;clear h hA;go_enter Tryz.func355,Tryz.ntmps355
 go_wp2_with fail
 refine K.out.mono ?_;rintro e w1 ⟨rfl,hb⟩;go_wp2;go_ret;exact⟨rfl,HA.out.trans (hb.mono HA.out.size)⟩
theorem waysOf_at (w:World) (V:SV) (s:Sm):
  Calls Tryz.prog 105 #[.agg #[.slice V.xr V.nr V.cr,.slice V.xf V.nf V.cf,.slice V.xt V.nt V.ct,.int .i64 s.lo,.int .i64 s.al,.slice V.xk V.nk V.ck,.int .i64 s.ka]] w fun e w'=>e=.returned (.agg #[wayR V,wayF V,wayT V s,wayK V s])/\Below w.heap.size w w':=by
 obtain⟨xr,nr,cr,xf,nf,cf,xt,nt,ct,xk,nk,ck⟩:=V;obtain⟨rs,zs,ps,lo,al,ks,ka⟩:=s;unfold wayR wayF wayT wayK;simp only;go_enter Tryz.func105,Tryz.ntmps105;go_wp2
 go_returns
 exact⟨rfl,((Below.refl _ _).alloc lr_ _).alloc (by simp) _⟩
theorem index_way (a b c d:Value) (w:World):(Instr.index 143 (.agg #[a,b,c,d]) (.int .i64 0)).run Tryz.prog w=.ok a w/\(Instr.index 143 (.agg #[a,b,c,d]) (.int .i64 1)).run Tryz.prog w=.ok b w/\
  (Instr.index 143 (.agg #[a,b,c,d]) (.int .i64 2)).run Tryz.prog w=.ok c w/\(Instr.index 143 (.agg #[a,b,c,d]) (.int .i64 3)).run Tryz.prog w=.ok d w:=
 ⟨by kernel_rfl,by kernel_rfl,by kernel_rfl,by kernel_rfl⟩
end Go.Proofs.YtcblbdpdbggkbaaGreat
set_option linter.unusedVariables false
namespace Go.Proofs.YtcblbdpdbggkbaaGreat
open Go.RowKit Go.Sort
def okUpto (s:Sm) (j:Nat):Prop:=(0<j->okB s.rs=true)/\(1<j->fewB s.zs=true)/\(2<j->T.topB s.ps s.lo s.al=true)/\(3<j->K.rankB s.ks s.ka=true)
theorem imSumOk_at (w:World) (V:SV) (s:Sm) (h:RdS w V s):
  Calls Tryz.prog 41 #[.agg #[.slice V.xr V.nr V.cr,.slice V.xf V.nf V.cf,.slice V.xt V.nt V.ct,.int .i64 s.lo,.int .i64 s.al,.slice V.xk V.nk V.ck,.int .i64 s.ka]] w fun e w'=>e=.returned (.bool (okS s))/\Below w.heap.size w w':=by
 have hA:=(Below.refl w.heap.size w).alloc lr_ (.cells #[.slice V.xr V.nr V.cr,.slice V.xf V.nf V.cf,.slice V.xt V.nt V.ct,.int .i64 s.lo,.int .i64 s.al,.slice V.xk V.nk V.ck,.int .i64 s.ka] 46);have X0:=Box7.new w 46 (.slice V.xr V.nr V.cr) (.slice V.xf V.nf V.cf) (.slice V.xt V.nt V.ct) (.int .i64 s.lo) (.int .i64 s.al) (.slice V.xk V.nk V.ck) (.int .i64 s.ka);have HA:=hd_ hA
 have R0:=hd_ (h.below hA lr_);have KW:=hd_ (waysOf_at (w.alloc (.cells #[.slice V.xr V.nr V.cr,.slice V.xf V.nf V.cf,.slice V.xt V.nt V.ct,.int .i64 s.lo,.int .i64 s.al,.slice V.xk V.nk V.ck,.int .i64 s.ka] 46)) V s);have fl:=hd_ h.lens.2.1;clear h hA;go_enter Tryz.func41,Tryz.ntmps41
 go_wp2_with fail
 refine KW.out.mono ?_;rintro e w1 ⟨rfl,hb1⟩;have X1:=X0.later hb1;have R1:=hd_ (R0.out.later hb1);have B1:=hd_ (HA.out.trans (hb1.mono HA.out.size));clear hb1 X0 R0 HA KW;go_wp2;go_loopw [8] (fun i wr=>∃j:Nat,i=.int .i64 j/\j<=4/\okUpto s j/\Below w1.heap.size w1 wr) (fun i _=>4 - (intOf i).toNat)
 case atStart=>exact⟨0,rfl,by omega,by simp[okUpto],Below.refl _ _⟩
 case round=>
  obtain⟨j,rfl,hj,hu,hbl⟩:=hrel;have HU:=hd_ hu;have HB:=hd_ hbl;have R2:=hd_ (R1.out.below hbl lr_);have X2:=X1.later hbl;clear hu hbl;have IW:=fun w=>index_way (wayR V) (wayF V) (wayT V s) (wayK V s) w
  unfold wayR wayF wayT wayK at IW ⊢;rcases (by omega:j=4\/j=0\/j=1\/j=2\/j=3)with rfl|rfl|rfl|rfl|rfl
  ·clear IW
   have u:=HU.out;have r1:=u.1 (by omega);have f1:=u.2.1 (by omega);have t1:=u.2.2.1 (by omega);have k1:=u.2.2.2 (by omega);have hok:okS s=(decide (allV s.rs=s.al)&&(decide (s.al=s.ka)&&decide (0<s.zs.length↔0<s.al))):=by
    unfold okS;rw[r1,f1,t1,k1]
    rfl
   have HOK:=hd_ hok;have KA:=hd_ (roughAll_at wr _ s.rs R2.out.r);obtain⟨A,hA⟩:∃A,A=allV s.rs:=⟨_,rfl⟩
   rw[<-hA]at KA;have HAA:=hd_ hA;clear u r1 f1 t1 k1 hok hA HU;obtain⟨c0,c1,c2,c3,c4,c5,c6⟩:=X2.cells
   go_wp2_with fail
   refine KA.out.mono ?_;rintro e w2 ⟨rfl,hb2⟩;have X3:=X2.later hb2;have HB2:=hd_ (HB.out.trans (hb2.mono HB.out.size));clear hb2 c0 c1 c2 c3 c4 c5 c6 X2 R2 KA;obtain⟨c0,c1,c2,c3,c4,c5,c6⟩:=X3.cells;rw[<-HAA.out]at HOK;have hn:=fl.out;go_wp2
   all_goals
    go_ret;refine⟨?_,B1.out.trans (HB2.out.mono B1.out.size)⟩;rw[HOK.out];refine congrArg (fun b=>Ending.returned (Value.bool b)) ?_;rw[Bool.eq_iff_iff];simp;omega
  ·have I1:=fun w=>(IW w).1
   clear IW;have KI:=hd_ (isOkR_at wr _ _ _ s.rs R2.out.r);obtain⟨ok,hok⟩:∃ok,ok=okB s.rs:=⟨_,rfl⟩
   rw[<-hok]at KI;have HOK:=hd_ hok;clear hok
   go_wp2_with fail
   refine KI.out.mono ?_;rintro e w2 ⟨rfl,hb2⟩;have HB2:=hd_ (HB.out.trans (hb2.mono HB.out.size));clear hb2 KI;cases ok with
   |false=>
    go_wp2;go_ret;refine⟨?_,B1.out.trans (HB2.out.mono B1.out.size)⟩;have u:=HU.out;have q:=HOK.out;unfold okS;rw[<-q];simp
   |true=>
    go_wp2;go_roundw
    case rel=>exact⟨1,rfl,by omega,⟨fun _=>HOK.out.symm,fun q=>by omega,fun q=>by omega,fun q=>by omega⟩,HB2.out⟩
    case measure=>simp[intOf]
  ·have I1:=fun w=>(IW w).2.1
   clear IW;have KI:=hd_ (isOkF_at wr _ _ _ s.zs R2.out.f);obtain⟨ok,hok⟩:∃ok,ok=fewB s.zs:=⟨_,rfl⟩
   rw[<-hok]at KI;have HOK:=hd_ hok;clear hok
   go_wp2_with fail
   refine KI.out.mono ?_;rintro e w2 ⟨rfl,hb2⟩;have HB2:=hd_ (HB.out.trans (hb2.mono HB.out.size));clear hb2 KI;cases ok with
   |false=>
    go_wp2;go_ret;refine⟨?_,B1.out.trans (HB2.out.mono B1.out.size)⟩;have u:=HU.out;have q:=HOK.out;unfold okS;rw[<-q];simp
   |true=>
    go_wp2;go_roundw
    case rel=>exact⟨2,rfl,by omega,⟨fun _=>HU.out.1 (by omega),fun _=>HOK.out.symm,fun q=>by omega,fun q=>by omega⟩,HB2.out⟩
    case measure=>simp[intOf]
  ·have I1:=fun w=>(IW w).2.2.1
   clear IW;have KI:=hd_ (isOkT_at wr _ _ _ s.ps s.lo s.al R2.out.t);obtain⟨ok,hok⟩:∃ok,ok=T.topB s.ps s.lo s.al:=⟨_,rfl⟩
   rw[<-hok]at KI;have HOK:=hd_ hok;clear hok
   go_wp2_with fail
   refine KI.out.mono ?_;rintro e w2 ⟨rfl,hb2⟩;have HB2:=hd_ (HB.out.trans (hb2.mono HB.out.size));clear hb2 KI;cases ok with
   |false=>
    go_wp2;go_ret;refine⟨?_,B1.out.trans (HB2.out.mono B1.out.size)⟩;have u:=HU.out;have q:=HOK.out;unfold okS;rw[<-q];simp
   |true=>
    go_wp2;go_roundw
    case rel=>exact⟨3,rfl,by omega,⟨fun _=>HU.out.1 (by omega),fun _=>HU.out.2.1 (by omega),fun _=>HOK.out.symm,fun q=>by omega⟩,HB2.out⟩
    case measure=>simp[intOf]
  ·have I1:=fun w=>(IW w).2.2.2
   clear IW;have KI:=hd_ (isOkK_at wr _ _ _ s.ks s.ka R2.out.k);obtain⟨ok,hok⟩:∃ok,ok=K.rankB s.ks s.ka:=⟨_,rfl⟩
   rw[<-hok]at KI;have HOK:=hd_ hok;clear hok
   go_wp2_with fail
   refine KI.out.mono ?_;rintro e w2 ⟨rfl,hb2⟩;have HB2:=hd_ (HB.out.trans (hb2.mono HB.out.size));clear hb2 KI;cases ok with
   |false=>
    go_wp2;go_ret;refine⟨?_,B1.out.trans (HB2.out.mono B1.out.size)⟩;have u:=HU.out;have q:=HOK.out;unfold okS;rw[<-q];simp
   |true=>
    go_wp2;go_roundw
    case rel=>exact⟨4,rfl,by omega,⟨fun _=>HU.out.1 (by omega),fun _=>HU.out.2.1 (by omega),fun _=>HU.out.2.2.1 (by omega),fun _=>HOK.out.symm⟩,HB2.out⟩
    case measure=>simp[intOf]
end Go.Proofs.YtcblbdpdbggkbaaGreat
set_option linter.unusedVariables false
namespace Go.Proofs.YtcblbdpdbggkbaaGreat
open Go.RowKit Go.Sort
theorem oneS_eq (t:Int):oneS t=⟨addA zero3 t 1,addF [] t,(T.addT [] 0 0 t).1,(T.addT [] 0 0 t).2.1,(T.addT [] 0 0 t).2.2,(K.addK [] 0 t).1,(K.addK [] 0 t).2⟩:=by
 by_cases h:0<=t/\t<=63
 ·have A:=addAll (s:=newSm) (t:=t) (by rw[one_addOk];exact decide_eq_true h)
  unfold oneS;rw[addS_yes (by rw[one_addOk];exact decide_eq_true h)];unfold addS0 addA;rw[show addB zero3 t 1=true from A.r]
  rfl
 ·rw[one_no h]
  have a:addB zero3 t 1=false:=by
   cases q:addB zero3 t 1 with
   |false=>rfl
   |true=>have:=(addB_iff _ _ _).1 q;omega
  have b:addOkF [] t=false:=by
   unfold addOkF inThings;rw[decide_eq_false (by omega)];cases fewB []<;>rfl
  have c:T.addOk [] 0 0 t=false:=by
   unfold T.addOk T.isT;rw[decide_eq_false (by omega)];cases T.topB [] 0 0<;>rfl
  have d:K.addOkK [] 0 t=false:=by
   unfold K.addOkK;rw[decide_eq_false (by omega)];cases K.rankB [] 0<;>rfl
  unfold addA;rw[a,addF_no b,T.addT_no c,K.addK_no d]
  rfl
theorem imOne_at (w:World) (t:Int):
  Calls Tryz.prog 174 #[.int .i64 t] w fun e w'=>∃V,e=.returned (.agg #[.slice V.xr V.nr V.cr,.slice V.xf V.nf V.cf,.slice V.xt V.nt V.ct,.int .i64 (oneS t).lo,.int .i64 (oneS t).al,.slice V.xk V.nk V.ck,.int .i64 (oneS t).ka])/\OwnS w' w.heap.size w'.heap.size V (oneS t)/\Below w.heap.size w w':=by
 obtain⟨A,hAA⟩:∃A,A=addA zero3 t 1:=⟨_,rfl⟩
 have HAA:=hd_ hAA;clear hAA;have hA:=(Below.refl w.heap.size w).alloc lr_ (.cells #[.slice none 0 0,.slice none 0 0,.slice none 0 0,.int .i64 0,.int .i64 0,.slice none 0 0,.int .i64 0] 46);have B:=hd_ (hA);clear hA;have R:=Box7.new w 46 (.slice none 0 0) (.slice none 0 0) (.slice none 0 0) (.int .i64 0) (.int .i64 0) (.slice none 0 0) (.int .i64 0)
 have S0:Hid ((w.alloc (.cells #[.slice none 0 0,.slice none 0 0,.slice none 0 0,.int .i64 0,.int .i64 0,.slice none 0 0,.int .i64 0] 46)).heap.size=w.heap.size+1):=by show _=_;simp
 go_enter Tryz.func174,Tryz.ntmps174
 go_wp2_with fail
 refine (imNew_at _).mono ?_;rintro e w1 ⟨u,G,C,rfl,ho,hb⟩;obtain⟨x1,c1,rfl⟩:=ho.form;replace B:=hd_ (B.out.trans (hb.mono B.out.size));replace R:=R.later hb;have P1:=hd_ (ho.rws);clear hb;clear ho;have KA:=imAddRR w1 _ zero3 t 1 P1.out;rw[<-HAA.out]at KA;generalize addB zero3 t 1=o1 at KA
 go_wp2_with fail
 refine (KA).mono ?_;rintro e w2 ⟨x2,c2,rfl,ho,hb⟩;obtain⟨n2,hn2⟩:∃n,n=A.length:=⟨_,rfl⟩
 rw[<-hn2]at ho ⊢;have L2:=hd_ B.out.size;have S2:=hd_ hb.size;clear hn2 KA;clear P1;replace B:=hd_ (B.out.trans (hb.mono B.out.size));replace R:=R.later hb;have O2:=hd_ (ho);clear hb;obtain⟨W2,hW⟩:∃W,W=(w2.alloc (.cells #[.slice x2 n2 c2] 36)):=⟨_,rfl⟩
 replace B:=hd_ ((B.out).alloc (Nat.le_trans B.out.size (by simp)) (.cells #[.slice x2 n2 c2] 36));rw[<-hW]at B;replace R:=R.alloc (.cells #[.slice x2 n2 c2] 36);rw[<-hW]at R;replace O2:=hd_ (O2.out.alloc (.cells #[.slice x2 n2 c2] 36));rw[<-hW]at O2;have X2:=Go.Boxed.new w2 36 (.slice x2 n2 c2);rw[<-hW]at X2
 go_wp2_with fail
 rw[<-hW];clear hW;clear ho;have KA:=imFewAdd_at W2 (.slice none 0 0) [] t (.inl ⟨rfl,rfl⟩);obtain⟨F,hF⟩:∃F,F=addF [] t:=⟨_,rfl⟩
 rw[<-hF]at KA;have HF:=hd_ hF;generalize addOkF [] t=o2 at KA;clear hF
 go_wp2_with fail
 refine (KA).mono ?_;rintro e w3 ⟨v,rfl,ho,hb⟩;obtain⟨x3,c3,rfl⟩:=ho.form';obtain⟨n3,hn3⟩:∃n,n=F.length:=⟨_,rfl⟩
 rw[<-hn3]at ho ⊢;have T2:=hd_ O2.out.top;have L3':=hd_ (Nat.le_trans L2.out (show w1.heap.size<=w2.heap.size from S2.out));clear hn3 KA;replace B:=hd_ (B.out.trans (hb.mono B.out.size));replace R:=R.later hb;replace O2:=hd_ (O2.out.below hb);replace X2:=boxed_below X2 hb;have O3:=hd_ (ho);clear hb;obtain⟨W3,hW⟩:∃W,W=(w3.alloc (.cells #[.slice x3 n3 c3] 38)):=⟨_,rfl⟩
 replace B:=hd_ ((B.out).alloc (Nat.le_trans B.out.size (by simp)) (.cells #[.slice x3 n3 c3] 38));rw[<-hW]at B;replace R:=R.alloc (.cells #[.slice x3 n3 c3] 38);rw[<-hW]at R;replace O2:=hd_ (O2.out.alloc (.cells #[.slice x3 n3 c3] 38));rw[<-hW]at O2;replace X2:=X2.alloc (.cells #[.slice x3 n3 c3] 38);rw[<-hW]at X2;replace O3:=hd_ (O3.out.alloc (.cells #[.slice x3 n3 c3] 38));rw[<-hW]at O3
 have X3:=Go.Boxed.new w3 38 (.slice x3 n3 c3);rw[<-hW]at X3
 go_wp2_with fail
 rw[<-hW];clear hW;clear ho;have KA:=T.imTopAdd_at W3 (.slice none 0 0) [] 0 0 t (.inl ⟨rfl,rfl⟩);obtain⟨TT,hF⟩:∃F,F=T.addT [] 0 0 t:=⟨_,rfl⟩
 rw[<-hF]at KA;have HT:=hd_ hF;generalize T.addOk [] 0 0 t=o3 at KA;obtain⟨tp,tl,ta⟩:=TT;simp only at KA;clear hF
 go_wp2_with fail
 refine (KA).mono ?_;rintro e w4 ⟨v,rfl,ho,hb⟩;obtain⟨x4,c4,rfl⟩:=ho.form';obtain⟨n4,hn4⟩:∃n,n=tp.length:=⟨_,rfl⟩
 rw[<-hn4]at ho ⊢;have T3:=hd_ O3.out.lt;have L4:=hd_ B.out.size;clear hn4 KA;replace B:=hd_ (B.out.trans (hb.mono B.out.size));replace R:=R.later hb;replace O2:=hd_ (O2.out.below hb);replace X2:=boxed_below X2 hb;replace O3:=hd_ (O3.out.below hb);replace X3:=boxed_below X3 hb;have O4:=hd_ (ho);clear hb;obtain⟨W4,hW⟩:∃W,W=(w4.alloc (.cells #[.slice x4 n4 c4,.int .i64 tl,.int .i64 ta] 41)):=⟨_,rfl⟩
 replace B:=hd_ ((B.out).alloc (Nat.le_trans B.out.size (by simp)) (.cells #[.slice x4 n4 c4,.int .i64 tl,.int .i64 ta] 41));rw[<-hW]at B;replace R:=R.alloc (.cells #[.slice x4 n4 c4,.int .i64 tl,.int .i64 ta] 41);rw[<-hW]at R;replace O2:=hd_ (O2.out.alloc (.cells #[.slice x4 n4 c4,.int .i64 tl,.int .i64 ta] 41));rw[<-hW]at O2
 replace X2:=X2.alloc (.cells #[.slice x4 n4 c4,.int .i64 tl,.int .i64 ta] 41);rw[<-hW]at X2;replace O3:=hd_ (O3.out.alloc (.cells #[.slice x4 n4 c4,.int .i64 tl,.int .i64 ta] 41));rw[<-hW]at O3;replace X3:=X3.alloc (.cells #[.slice x4 n4 c4,.int .i64 tl,.int .i64 ta] 41);rw[<-hW]at X3;replace O4:=hd_ (O4.out.alloc (.cells #[.slice x4 n4 c4,.int .i64 tl,.int .i64 ta] 41));rw[<-hW]at O4
 have X4:=T.Box3.new w4 41 (.slice x4 n4 c4) (.int .i64 tl) (.int .i64 ta);rw[<-hW]at X4
 go_wp2_with fail
 rw[<-hW];clear hW;clear ho;have KA:=K.imRankAdd_at W4 (.slice none 0 0) [] 0 t (.inl ⟨rfl,rfl⟩);obtain⟨TT,hF⟩:∃F,F=K.addK [] 0 t:=⟨_,rfl⟩
 rw[<-hF]at KA;have HK:=hd_ hF;generalize K.addOkK [] 0 t=o4 at KA;obtain⟨kp,ka⟩:=TT;simp only at KA;clear hF
 go_wp2_with fail
 refine (KA).mono ?_;rintro e w5 ⟨v,rfl,ho,hb⟩;obtain⟨x5,c5,rfl⟩:=ho.form';obtain⟨n5,hn5⟩:∃n,n=kp.length:=⟨_,rfl⟩
 rw[<-hn5]at ho ⊢;have T4:=hd_ (fun k e=>(World.ownsRow.lt O4.out k e).2);have L5:=hd_ B.out.size;clear hn5 KA;replace B:=hd_ (B.out.trans (hb.mono B.out.size));replace R:=R.later hb;replace O2:=hd_ (O2.out.below hb);replace X2:=boxed_below X2 hb;replace O3:=hd_ (O3.out.below hb);replace X3:=boxed_below X3 hb;replace O4:=hd_ (O4.out.below hb);replace X4:=X4.later hb;have O5:=hd_ (ho);clear hb
 obtain⟨W5,hW⟩:∃W,W=(w5.alloc (.cells #[.slice x5 n5 c5,.int .i64 ka] 44)):=⟨_,rfl⟩
 have ax20:=((X2.alloc (.cells #[.slice x5 n5 c5,.int .i64 ka] 44))).cell;have ax30:=((X3.alloc (.cells #[.slice x5 n5 c5,.int .i64 ka] 44))).cell;have ax40:=((X4.alloc (.cells #[.slice x5 n5 c5,.int .i64 ka] 44))).cell0;have ax41:=((X4.alloc (.cells #[.slice x5 n5 c5,.int .i64 ka] 44))).cell1;have ax42:=((X4.alloc (.cells #[.slice x5 n5 c5,.int .i64 ka] 44))).cell2
 obtain⟨ar0,ar1,ar2,ar3,ar4,ar5,ar6⟩:=((R.alloc (.cells #[.slice x5 n5 c5,.int .i64 ka] 44))).cells;have frr:=(R.alloc (.cells #[.slice x5 n5 c5,.int .i64 ka] 44)).free;replace B:=hd_ ((B.out).alloc (Nat.le_trans B.out.size (by simp)) (.cells #[.slice x5 n5 c5,.int .i64 ka] 44));rw[<-hW]at B;replace R:=R.alloc (.cells #[.slice x5 n5 c5,.int .i64 ka] 44);rw[<-hW]at R
 replace O2:=hd_ (O2.out.alloc (.cells #[.slice x5 n5 c5,.int .i64 ka] 44));rw[<-hW]at O2;replace X2:=X2.alloc (.cells #[.slice x5 n5 c5,.int .i64 ka] 44);rw[<-hW]at X2;replace O3:=hd_ (O3.out.alloc (.cells #[.slice x5 n5 c5,.int .i64 ka] 44));rw[<-hW]at O3;replace X3:=X3.alloc (.cells #[.slice x5 n5 c5,.int .i64 ka] 44);rw[<-hW]at X3
 replace O4:=hd_ (O4.out.alloc (.cells #[.slice x5 n5 c5,.int .i64 ka] 44));rw[<-hW]at O4;replace X4:=X4.alloc (.cells #[.slice x5 n5 c5,.int .i64 ka] 44);rw[<-hW]at X4;replace O5:=hd_ (O5.out.alloc (.cells #[.slice x5 n5 c5,.int .i64 ka] 44));rw[<-hW]at O5;have X5:=K.Box2.new w5 44 (.slice x5 n5 c5) (.int .i64 ka);rw[<-hW]at X5;clear ho;have e1:=oneS_eq t;rw[<-HAA.out, <-HF.out, <-HT.out, <-HK.out]at e1
 have E1:=hd_ e1;clear e1;have F1:=HF;clear HF;have fin:=R.set (.slice x2 n2 c2) (.slice x3 n3 c3) (.slice x4 n4 c4) (.int .i64 tl) (.int .i64 ta) (.slice x5 n5 c5) (.int .i64 ka)
 have OF:=OwnS.box7 (OwnS.make (V:=⟨x2,n2,c2,x3,n3,c3,x4,n4,c4,x5,n5,c5⟩) (s:=⟨A,F,tp,tl,ta,kp,ka⟩) O2.out O3.out O4.out O5.out L2.out L3'.out T2.out L4.out L5.out) R (.slice x2 n2 c2) (.slice x3 n3 c3) (.slice x4 n4 c4) (.int .i64 tl) (.int .i64 ta) (.slice x5 n5 c5) (.int .i64 ka)
 have BF:=below_set7 B.out lr_ (.slice x2 n2 c2) (.slice x3 n3 c3) (.slice x4 n4 c4) (.int .i64 tl) (.int .i64 ta) (.slice x5 n5 c5) (.int .i64 ka);have SF:=set7_size W5 w.heap.size (.slice x2 n2 c2) (.slice x3 n3 c3) (.slice x4 n4 c4) (.int .i64 tl) (.int .i64 ta) (.slice x5 n5 c5) (.int .i64 ka);have HF:=hd_ (And.intro (OwnS.base OF lr_ (Nat.le_of_eq SF.symm) lr_) BF);have HY:=hd_ fin
 clear fin OF BF SF;go_wp2;rw[<-hW];clear hW ax20 ax30 ax40 ax41 ax42 ar0 ar1 ar2 ar3 ar4 ar5 ar6 frr;show bodyPost _ _ _ _ _ (set7 W5 w.heap.size (.slice x2 n2 c2) (.slice x3 n3 c3) (.slice x4 n4 c4) (.int .i64 tl) (.int .i64 ta) (.slice x5 n5 c5) (.int .i64 ka))
 obtain⟨d0,d1,d2,d3,d4,d5,d6⟩:=HY.out.cells;generalize set7 W5 w.heap.size (.slice x2 n2 c2) (.slice x3 n3 c3) (.slice x4 n4 c4) (.int .i64 tl) (.int .i64 ta) (.slice x5 n5 c5) (.int .i64 ka)=WF at HF d0 d1 d2 d3 d4 d5 d6 ⊢
 refine bodyPost_ret (v:=.agg #[.slice x2 n2 c2,.slice x3 n3 c3,.slice x4 n4 c4,.int .i64 tl,.int .i64 ta,.slice x5 n5 c5,.int .i64 ka]) (by simp[results,Tryz.results174,go_sem,d0,d1,d2,d3,d4,d5,d6]) rfl ?_;rw[E1.out];exact⟨⟨x2,n2,c2,x3,n3,c3,x4,n4,c4,x5,n5,c5⟩,rfl,HF.out⟩
end Go.Proofs.YtcblbdpdbggkbaaGreat
set_option linter.unusedVariables false
namespace Go.Proofs.YtcblbdpdbggkbaaGreat
open Go.RowKit Go.Sort
theorem ask_R (v:Value) (w:World):(Instr.typeAssert (.iface 36 v) 142 36 true).run Tryz.prog w=.ok (.tuple #[v,.bool true]) w:=by kernel_rfl
theorem ask_F (v:Value) (w:World):(Instr.typeAssert (.iface 38 v) 142 36 true).run Tryz.prog w=.ok (.tuple #[.agg #[.slice none 0 0],.bool false]) w/\
  (Instr.typeAssert (.iface 38 v) 142 38 true).run Tryz.prog w=.ok (.tuple #[v,.bool true]) w:=⟨by kernel_rfl,by kernel_rfl⟩
theorem ask_T (v:Value) (w:World):(Instr.typeAssert (.iface 41 v) 142 36 true).run Tryz.prog w=.ok (.tuple #[.agg #[.slice none 0 0],.bool false]) w/\
  (Instr.typeAssert (.iface 41 v) 142 38 true).run Tryz.prog w=.ok (.tuple #[.agg #[.slice none 0 0],.bool false]) w/\
  (Instr.typeAssert (.iface 41 v) 142 41 true).run Tryz.prog w=.ok (.tuple #[v,.bool true]) w:=⟨by kernel_rfl,by kernel_rfl,by kernel_rfl⟩
theorem ask_K (v:Value) (w:World):(Instr.typeAssert (.iface 44 v) 142 36 true).run Tryz.prog w=.ok (.tuple #[.agg #[.slice none 0 0],.bool false]) w/\
  (Instr.typeAssert (.iface 44 v) 142 38 true).run Tryz.prog w=.ok (.tuple #[.agg #[.slice none 0 0],.bool false]) w/\
  (Instr.typeAssert (.iface 44 v) 142 41 true).run Tryz.prog w=.ok (.tuple #[.agg #[.slice none 0 0,.int .i64 0,.int .i64 0],.bool false]) w/\
  (Instr.typeAssert (.iface 44 v) 142 44 true).run Tryz.prog w=.ok (.tuple #[v,.bool true]) w:=⟨by kernel_rfl,by kernel_rfl,by kernel_rfl,by kernel_rfl⟩
end Go.Proofs.YtcblbdpdbggkbaaGreat
set_option linter.unusedVariables false
namespace Go.Proofs.YtcblbdpdbggkbaaGreat
open Go.RowKit Go.Sort
theorem imWithR_at (w:World) (V:SV) (s:Sm) (x:Option Addr) (n c:Nat) (rs:List (List Int)) (h:RdS w V s) (hu:Rws w (.slice x n c) rs):
  Calls Tryz.prog 153 #[.agg #[.slice V.xr V.nr V.cr,.slice V.xf V.nf V.cf,.slice V.xt V.nt V.ct,.int .i64 s.lo,.int .i64 s.al,.slice V.xk V.nk V.ck,.int .i64 s.ka],.iface 36 (.agg #[.slice x n c])] w fun e w'=>∃y m d,e=.returned (.tuple #[.agg #[.slice y m d,.slice V.xf V.nf V.cf,.slice V.xt V.nt V.ct,.int .i64 s.lo,.int .i64 s.al,.slice V.xk V.nk V.ck,.int .i64 s.ka],.bool (joinB s.rs rs)])/\OwnRR w' w.heap.size w'.heap.size (.slice y m d) (joinA s.rs rs)/\Below w.heap.size w w':=by
 have I1:=fun w=>ask_R (.agg #[.slice x n c]) w
 have hA:=((((Below.refl w.heap.size w).alloc lr_ (.cells #[.slice V.xr V.nr V.cr,.slice V.xf V.nf V.cf,.slice V.xt V.nt V.ct,.int .i64 s.lo,.int .i64 s.al,.slice V.xk V.nk V.ck,.int .i64 s.ka] 46)).alloc (by simp) (.cells #[.slice none 0 0,.slice none 0 0,.slice none 0 0,.int .i64 0,.int .i64 0,.slice none 0 0,.int .i64 0] 46)).alloc (by simp;omega) (.cells #[.slice x n c] 36))
 have X:=((Box7.new w 46 (.slice V.xr V.nr V.cr) (.slice V.xf V.nf V.cf) (.slice V.xt V.nt V.ct) (.int .i64 s.lo) (.int .i64 s.al) (.slice V.xk V.nk V.ck) (.int .i64 s.ka)).alloc (.cells #[.slice none 0 0,.slice none 0 0,.slice none 0 0,.int .i64 0,.int .i64 0,.slice none 0 0,.int .i64 0] 46)).alloc (.cells #[.slice x n c] 36)
 have R:=(Box7.new (w.alloc (.cells #[.slice V.xr V.nr V.cr,.slice V.xf V.nf V.cf,.slice V.xt V.nt V.ct,.int .i64 s.lo,.int .i64 s.al,.slice V.xk V.nk V.ck,.int .i64 s.ka] 46)) 46 (.slice none 0 0) (.slice none 0 0) (.slice none 0 0) (.int .i64 0) (.int .i64 0) (.slice none 0 0) (.int .i64 0)).alloc (.cells #[.slice x n c] 36);rw[World.size_alloc]at R
 have D:=Go.Boxed.new ((w.alloc (.cells #[.slice V.xr V.nr V.cr,.slice V.xf V.nf V.cf,.slice V.xt V.nt V.ct,.int .i64 s.lo,.int .i64 s.al,.slice V.xk V.nk V.ck,.int .i64 s.ka] 46)).alloc (.cells #[.slice none 0 0,.slice none 0 0,.slice none 0 0,.int .i64 0,.int .i64 0,.slice none 0 0,.int .i64 0] 46)) 36 (.slice x n c);rw[World.size_alloc,World.size_alloc]at D
 obtain⟨ax0,ax1,ax2,ax3,ax4,ax5,ax6⟩:=(X).cells;have ad0:=(D).cell
 obtain⟨W1,hW⟩:∃W,W=((w.alloc (.cells #[.slice V.xr V.nr V.cr,.slice V.xf V.nf V.cf,.slice V.xt V.nt V.ct,.int .i64 s.lo,.int .i64 s.al,.slice V.xk V.nk V.ck,.int .i64 s.ka] 46)).alloc (.cells #[.slice none 0 0,.slice none 0 0,.slice none 0 0,.int .i64 0,.int .i64 0,.slice none 0 0,.int .i64 0] 46)).alloc (.cells #[.slice x n c] 36):=⟨_,rfl⟩
 rw[<-hW]at hA X R D;have S:Hid (RdS W1 V s):=hd_ (h.below hA lr_);have P:=hd_ (hu.below hA lr_);have B:=hd_ hA;have SZ0:Hid (w.heap.size+2<=W1.heap.size):=by show _<=_;rw[hW];simp
 clear hA h hu;have KA:=imJoinRR W1 (.slice V.xr V.nr V.cr) (.slice x n c) s.rs rs S.out.r P.out;obtain⟨A,hA⟩:∃A,A=joinA s.rs rs:=⟨_,rfl⟩
 have HA:=hd_ hA;rw[<-hA]at KA;generalize joinB s.rs rs=ok at KA ⊢;clear hA;go_enter Tryz.func153,Tryz.ntmps153
 go_wp2_with fail
 rw[<-hW];clear hW ax0 ax1 ax2 ax3 ax4 ax5 ax6 ad0;refine (KA).mono ?_;rintro e w1 ⟨y,d,rfl,ho,hb⟩;obtain⟨m,hm⟩:∃m,m=(A).length:=⟨_,rfl⟩
 rw[<-hm]at ho ⊢;have Sw0:=hd_ hb.size;clear hm KA;clear S;clear P;clear D;replace X:=X.later hb;replace R:=R.later hb;replace B:=hd_ (B.out.trans (hb.mono B.out.size));have O:=hd_ (ho);clear hb;obtain⟨cx0,cx1,cx2,cx3,cx4,cx5,cx6⟩:=(X).cells;obtain⟨cr0,cr1,cr2,cr3,cr4,cr5,cr6⟩:=(R).cells;have frx:=X.free;have frr:=R.free;clear ho;have Y:=X;replace Y:=Y.set0 (.slice y m d)
 obtain⟨y0,y1,y2,y3,y4,y5,y6⟩:=Y.cells;clear Y;have G1:=hd_ (grownBy_setCell w1 ⟨w.heap.size,0,none⟩ (.slice y m d));have BX:Hid (Below w.heap.size w ((w1.setCell ⟨w.heap.size,0,none⟩ (.slice y m d)))):=hd_ ((B.out.setCell lr_ _));have RX:=R.kept G1.out (by simp);have SZ:Hid (w.heap.size+2<=W1.heap.size):=SZ0;have Sw:Hid (W1.heap.size<=w1.heap.size):=Sw0;clear X R B;go_wp2
 show bodyPost _ _ _ _ _ (set7 (w1.setCell ⟨w.heap.size,0,none⟩ (.slice y m d)) (w.heap.size+1) (.slice y m d) (.slice V.xf V.nf V.cf) (.slice V.xt V.nt V.ct) (.int .i64 s.lo) (.int .i64 s.al) (.slice V.xk V.nk V.ck) (.int .i64 s.ka))
 generalize (w1.setCell ⟨w.heap.size,0,none⟩ (.slice y m d))=WX at G1 BX RX ⊢;have G2:=set7_grown WX (w.heap.size+1) (.slice y m d) (.slice V.xf V.nf V.cf) (.slice V.xt V.nt V.ct) (.int .i64 s.lo) (.int .i64 s.al) (.slice V.xk V.nk V.ck) (.int .i64 s.ka)
 have Y:=RX.set (.slice y m d) (.slice V.xf V.nf V.cf) (.slice V.xt V.nt V.ct) (.int .i64 s.lo) (.int .i64 s.al) (.slice V.xk V.nk V.ck) (.int .i64 s.ka);have BF:=below_set7 BX.out (Nat.le_add_right _ 1) (.slice y m d) (.slice V.xf V.nf V.cf) (.slice V.xt V.nt V.ct) (.int .i64 s.lo) (.int .i64 s.al) (.slice V.xk V.nk V.ck) (.int .i64 s.ka)
 generalize set7 WX (w.heap.size+1) (.slice y m d) (.slice V.xf V.nf V.cf) (.slice V.xt V.nt V.ct) (.int .i64 s.lo) (.int .i64 s.al) (.slice V.xk V.nk V.ck) (.int .i64 s.ka)=WF at G2 Y BF ⊢;have s1:=SZ.out;have s2:=Sw.out;have s3:=G1.out.size;have s4:=G2.size
 have HK:KeptB (fun k=>k<W1.heap.size) w1 WF:=(KeptB.of_grown G1.out (show w.heap.size<W1.heap.size by omega)).trans (KeptB.of_grown G2 (show w.heap.size+1<W1.heap.size by omega));obtain⟨d0,d1,d2,d3,d4,d5,d6⟩:=Y.cells
 refine bodyPost_ret (v:=.tuple #[.agg #[.slice y m d,.slice V.xf V.nf V.cf,.slice V.xt V.nt V.ct,.int .i64 s.lo,.int .i64 s.al,.slice V.xk V.nk V.ck,.int .i64 s.ka],.bool ok]) (by simp[results,Tryz.results153,go_sem,d0,d1,d2,d3,d4,d5,d6]) rfl ?_;rw[<-HA.out];exact⟨y,m,d,rfl,((O.out.keptB HK (fun k q1 _ q=>by omega)).base (by omega)).upto (by omega) lr_,BF⟩
theorem imWithF_at (w:World) (V:SV) (s:Sm) (x:Option Addr) (n c:Nat) (zs:List Int) (h:RdS w V s) (hu:Ints w (.slice x n c) zs):
  Calls Tryz.prog 153 #[.agg #[.slice V.xr V.nr V.cr,.slice V.xf V.nf V.cf,.slice V.xt V.nt V.ct,.int .i64 s.lo,.int .i64 s.al,.slice V.xk V.nk V.ck,.int .i64 s.ka],.iface 38 (.agg #[.slice x n c])] w fun e w'=>∃y m d,e=.returned (.tuple #[.agg #[.slice V.xr V.nr V.cr,.slice y m d,.slice V.xt V.nt V.ct,.int .i64 s.lo,.int .i64 s.al,.slice V.xk V.nk V.ck,.int .i64 s.ka],.bool (joinOkF s.zs zs)])/\OwnI w' w.heap.size (.slice y m d) (joinF s.zs zs)/\Below w.heap.size w w':=by
 have I1:=fun w=>(ask_F (.agg #[.slice x n c]) w).1
 have I2:=fun w=>(ask_F (.agg #[.slice x n c]) w).2
 have hA:=((((Below.refl w.heap.size w).alloc lr_ (.cells #[.slice V.xr V.nr V.cr,.slice V.xf V.nf V.cf,.slice V.xt V.nt V.ct,.int .i64 s.lo,.int .i64 s.al,.slice V.xk V.nk V.ck,.int .i64 s.ka] 46)).alloc (by simp) (.cells #[.slice none 0 0,.slice none 0 0,.slice none 0 0,.int .i64 0,.int .i64 0,.slice none 0 0,.int .i64 0] 46)).alloc (by simp;omega) (.cells #[.slice x n c] 38))
 have X:=((Box7.new w 46 (.slice V.xr V.nr V.cr) (.slice V.xf V.nf V.cf) (.slice V.xt V.nt V.ct) (.int .i64 s.lo) (.int .i64 s.al) (.slice V.xk V.nk V.ck) (.int .i64 s.ka)).alloc (.cells #[.slice none 0 0,.slice none 0 0,.slice none 0 0,.int .i64 0,.int .i64 0,.slice none 0 0,.int .i64 0] 46)).alloc (.cells #[.slice x n c] 38)
 have R:=(Box7.new (w.alloc (.cells #[.slice V.xr V.nr V.cr,.slice V.xf V.nf V.cf,.slice V.xt V.nt V.ct,.int .i64 s.lo,.int .i64 s.al,.slice V.xk V.nk V.ck,.int .i64 s.ka] 46)) 46 (.slice none 0 0) (.slice none 0 0) (.slice none 0 0) (.int .i64 0) (.int .i64 0) (.slice none 0 0) (.int .i64 0)).alloc (.cells #[.slice x n c] 38);rw[World.size_alloc]at R
 have D:=Go.Boxed.new ((w.alloc (.cells #[.slice V.xr V.nr V.cr,.slice V.xf V.nf V.cf,.slice V.xt V.nt V.ct,.int .i64 s.lo,.int .i64 s.al,.slice V.xk V.nk V.ck,.int .i64 s.ka] 46)).alloc (.cells #[.slice none 0 0,.slice none 0 0,.slice none 0 0,.int .i64 0,.int .i64 0,.slice none 0 0,.int .i64 0] 46)) 38 (.slice x n c);rw[World.size_alloc,World.size_alloc]at D
 obtain⟨ax0,ax1,ax2,ax3,ax4,ax5,ax6⟩:=(X).cells;have ad0:=(D).cell
 obtain⟨W1,hW⟩:∃W,W=((w.alloc (.cells #[.slice V.xr V.nr V.cr,.slice V.xf V.nf V.cf,.slice V.xt V.nt V.ct,.int .i64 s.lo,.int .i64 s.al,.slice V.xk V.nk V.ck,.int .i64 s.ka] 46)).alloc (.cells #[.slice none 0 0,.slice none 0 0,.slice none 0 0,.int .i64 0,.int .i64 0,.slice none 0 0,.int .i64 0] 46)).alloc (.cells #[.slice x n c] 38):=⟨_,rfl⟩
 rw[<-hW]at hA X R D;have S:Hid (RdS W1 V s):=hd_ (h.below hA lr_);have P:=hd_ (hu.below hA lr_);have B:=hd_ hA;have SZ0:Hid (w.heap.size+2<=W1.heap.size):=by show _<=_;rw[hW];simp
 clear hA h hu;have KA:=imFewJoin_at W1 (.slice V.xf V.nf V.cf) (.slice x n c) s.zs zs S.out.f P.out;obtain⟨A,hA⟩:∃A,A=joinF s.zs zs:=⟨_,rfl⟩
 have HA:=hd_ hA;rw[<-hA]at KA;generalize joinOkF s.zs zs=ok at KA ⊢;clear hA;go_enter Tryz.func153,Tryz.ntmps153
 go_wp2_with fail
 rw[<-hW];clear hW ax0 ax1 ax2 ax3 ax4 ax5 ax6 ad0;refine (KA).mono ?_;rintro e w1 ⟨v,rfl,ho,hb⟩;obtain⟨y,d,rfl⟩:=ho.form';obtain⟨m,hm⟩:∃m,m=(A).length:=⟨_,rfl⟩
 rw[<-hm]at ho ⊢;have Sw0:=hd_ hb.size;clear hm KA;clear S;clear P;clear D;replace X:=X.later hb;replace R:=R.later hb;replace B:=hd_ (B.out.trans (hb.mono B.out.size));have O:=hd_ (ho);clear hb;obtain⟨cx0,cx1,cx2,cx3,cx4,cx5,cx6⟩:=(X).cells;obtain⟨cr0,cr1,cr2,cr3,cr4,cr5,cr6⟩:=(R).cells;have frx:=X.free;have frr:=R.free;clear ho;have Y:=X;replace Y:=Y.set1 (.slice y m d)
 obtain⟨y0,y1,y2,y3,y4,y5,y6⟩:=Y.cells;clear Y;have G1:=hd_ (grownBy_setCell w1 ⟨w.heap.size,1,none⟩ (.slice y m d));have BX:Hid (Below w.heap.size w ((w1.setCell ⟨w.heap.size,1,none⟩ (.slice y m d)))):=hd_ ((B.out.setCell lr_ _));have RX:=R.kept G1.out (by simp);have SZ:Hid (w.heap.size+2<=W1.heap.size):=SZ0;have Sw:Hid (W1.heap.size<=w1.heap.size):=Sw0;clear X R B;go_wp2
 show bodyPost _ _ _ _ _ (set7 (w1.setCell ⟨w.heap.size,1,none⟩ (.slice y m d)) (w.heap.size+1) (.slice V.xr V.nr V.cr) (.slice y m d) (.slice V.xt V.nt V.ct) (.int .i64 s.lo) (.int .i64 s.al) (.slice V.xk V.nk V.ck) (.int .i64 s.ka))
 generalize (w1.setCell ⟨w.heap.size,1,none⟩ (.slice y m d))=WX at G1 BX RX ⊢;have G2:=set7_grown WX (w.heap.size+1) (.slice V.xr V.nr V.cr) (.slice y m d) (.slice V.xt V.nt V.ct) (.int .i64 s.lo) (.int .i64 s.al) (.slice V.xk V.nk V.ck) (.int .i64 s.ka)
 have Y:=RX.set (.slice V.xr V.nr V.cr) (.slice y m d) (.slice V.xt V.nt V.ct) (.int .i64 s.lo) (.int .i64 s.al) (.slice V.xk V.nk V.ck) (.int .i64 s.ka);have BF:=below_set7 BX.out (Nat.le_add_right _ 1) (.slice V.xr V.nr V.cr) (.slice y m d) (.slice V.xt V.nt V.ct) (.int .i64 s.lo) (.int .i64 s.al) (.slice V.xk V.nk V.ck) (.int .i64 s.ka)
 generalize set7 WX (w.heap.size+1) (.slice V.xr V.nr V.cr) (.slice y m d) (.slice V.xt V.nt V.ct) (.int .i64 s.lo) (.int .i64 s.al) (.slice V.xk V.nk V.ck) (.int .i64 s.ka)=WF at G2 Y BF ⊢;have s1:=SZ.out;have s2:=Sw.out;have s3:=G1.out.size;have s4:=G2.size
 have HK:KeptB (fun k=>k<W1.heap.size) w1 WF:=(KeptB.of_grown G1.out (show w.heap.size<W1.heap.size by omega)).trans (KeptB.of_grown G2 (show w.heap.size+1<W1.heap.size by omega));obtain⟨d0,d1,d2,d3,d4,d5,d6⟩:=Y.cells
 refine bodyPost_ret (v:=.tuple #[.agg #[.slice V.xr V.nr V.cr,.slice y m d,.slice V.xt V.nt V.ct,.int .i64 s.lo,.int .i64 s.al,.slice V.xk V.nk V.ck,.int .i64 s.ka],.bool ok]) (by simp[results,Tryz.results153,go_sem,d0,d1,d2,d3,d4,d5,d6]) rfl ?_;rw[<-HA.out];exact⟨y,m,d,rfl,ownsRow_base (ownsRow_keptB O.out HK (fun k e q=>by have:=(World.ownsRow.lt O.out k e).1;omega)) (by omega),BF⟩
theorem imWithT_at (w:World) (V:SV) (s:Sm) (x:Option Addr) (n c:Nat) (ps:List T.Pr) (lo al:Int) (h:RdS w V s) (hu:T.Prs w (.slice x n c) ps):
  Calls Tryz.prog 153 #[.agg #[.slice V.xr V.nr V.cr,.slice V.xf V.nf V.cf,.slice V.xt V.nt V.ct,.int .i64 s.lo,.int .i64 s.al,.slice V.xk V.nk V.ck,.int .i64 s.ka],.iface 41 (.agg #[.slice x n c,.int .i64 lo,.int .i64 al])] w fun e w'=>∃y m d,e=.returned (.tuple #[.agg #[.slice V.xr V.nr V.cr,.slice V.xf V.nf V.cf,.slice y m d,.int .i64 (T.joinT s.ps s.lo s.al ps lo al).2.1,.int .i64 (T.joinT s.ps s.lo s.al ps lo al).2.2,.slice V.xk V.nk V.ck,.int .i64 s.ka],.bool (T.joinOk s.ps s.lo s.al ps lo al)])/\T.OwnP w' w.heap.size (.slice y m d) (T.joinT s.ps s.lo s.al ps lo al).1/\Below w.heap.size w w':=by
 have I1:=fun w=>(ask_T (.agg #[.slice x n c,.int .i64 lo,.int .i64 al]) w).1
 have I2:=fun w=>(ask_T (.agg #[.slice x n c,.int .i64 lo,.int .i64 al]) w).2.1
 have I3:=fun w=>(ask_T (.agg #[.slice x n c,.int .i64 lo,.int .i64 al]) w).2.2
 have hA:=((((Below.refl w.heap.size w).alloc lr_ (.cells #[.slice V.xr V.nr V.cr,.slice V.xf V.nf V.cf,.slice V.xt V.nt V.ct,.int .i64 s.lo,.int .i64 s.al,.slice V.xk V.nk V.ck,.int .i64 s.ka] 46)).alloc (by simp) (.cells #[.slice none 0 0,.slice none 0 0,.slice none 0 0,.int .i64 0,.int .i64 0,.slice none 0 0,.int .i64 0] 46)).alloc (by simp;omega) (.cells #[.slice x n c,.int .i64 lo,.int .i64 al] 41))
 have X:=((Box7.new w 46 (.slice V.xr V.nr V.cr) (.slice V.xf V.nf V.cf) (.slice V.xt V.nt V.ct) (.int .i64 s.lo) (.int .i64 s.al) (.slice V.xk V.nk V.ck) (.int .i64 s.ka)).alloc (.cells #[.slice none 0 0,.slice none 0 0,.slice none 0 0,.int .i64 0,.int .i64 0,.slice none 0 0,.int .i64 0] 46)).alloc (.cells #[.slice x n c,.int .i64 lo,.int .i64 al] 41)
 have R:=(Box7.new (w.alloc (.cells #[.slice V.xr V.nr V.cr,.slice V.xf V.nf V.cf,.slice V.xt V.nt V.ct,.int .i64 s.lo,.int .i64 s.al,.slice V.xk V.nk V.ck,.int .i64 s.ka] 46)) 46 (.slice none 0 0) (.slice none 0 0) (.slice none 0 0) (.int .i64 0) (.int .i64 0) (.slice none 0 0) (.int .i64 0)).alloc (.cells #[.slice x n c,.int .i64 lo,.int .i64 al] 41);rw[World.size_alloc]at R
 have D:=T.Box3.new ((w.alloc (.cells #[.slice V.xr V.nr V.cr,.slice V.xf V.nf V.cf,.slice V.xt V.nt V.ct,.int .i64 s.lo,.int .i64 s.al,.slice V.xk V.nk V.ck,.int .i64 s.ka] 46)).alloc (.cells #[.slice none 0 0,.slice none 0 0,.slice none 0 0,.int .i64 0,.int .i64 0,.slice none 0 0,.int .i64 0] 46)) 41 (.slice x n c) (.int .i64 lo) (.int .i64 al);rw[World.size_alloc,World.size_alloc]at D
 obtain⟨ax0,ax1,ax2,ax3,ax4,ax5,ax6⟩:=(X).cells;have ad0:=(D).cell0;have ad1:=(D).cell1;have ad2:=(D).cell2
 obtain⟨W1,hW⟩:∃W,W=((w.alloc (.cells #[.slice V.xr V.nr V.cr,.slice V.xf V.nf V.cf,.slice V.xt V.nt V.ct,.int .i64 s.lo,.int .i64 s.al,.slice V.xk V.nk V.ck,.int .i64 s.ka] 46)).alloc (.cells #[.slice none 0 0,.slice none 0 0,.slice none 0 0,.int .i64 0,.int .i64 0,.slice none 0 0,.int .i64 0] 46)).alloc (.cells #[.slice x n c,.int .i64 lo,.int .i64 al] 41):=⟨_,rfl⟩
 rw[<-hW]at hA X R D;have S:Hid (RdS W1 V s):=hd_ (h.below hA lr_);have P:=hd_ (hu.below hA lr_);have B:=hd_ hA;have SZ0:Hid (w.heap.size+2<=W1.heap.size):=by show _<=_;rw[hW];simp
 clear hA h hu;have KA:=T.imTopJoin_at W1 (.slice V.xt V.nt V.ct) (.slice x n c) s.ps ps s.lo s.al lo al S.out.t P.out;generalize T.joinT s.ps s.lo s.al ps lo al=A at KA ⊢;generalize T.joinOk s.ps s.lo s.al ps lo al=ok at KA ⊢;go_enter Tryz.func153,Tryz.ntmps153
 go_wp2_with fail
 rw[<-hW];clear hW ax0 ax1 ax2 ax3 ax4 ax5 ax6 ad0 ad1 ad2;refine (KA).mono ?_;rintro e w1 ⟨v,rfl,ho,hb⟩;obtain⟨y,d,rfl⟩:=ho.form';obtain⟨m,hm⟩:∃m,m=(A.1).length:=⟨_,rfl⟩
 rw[<-hm]at ho ⊢;have Sw0:=hd_ hb.size;clear hm KA;clear S;clear P;clear D;replace X:=X.later hb;replace R:=R.later hb;replace B:=hd_ (B.out.trans (hb.mono B.out.size));have O:=hd_ (ho);clear hb;obtain⟨cx0,cx1,cx2,cx3,cx4,cx5,cx6⟩:=(X).cells;obtain⟨cr0,cr1,cr2,cr3,cr4,cr5,cr6⟩:=(R).cells;have frx:=X.free;have frr:=R.free;clear ho;have Y:=X;replace Y:=Y.set2 (.slice y m d)
 replace Y:=Y.set3 (.int .i64 A.2.1);replace Y:=Y.set4 (.int .i64 A.2.2);obtain⟨y0,y1,y2,y3,y4,y5,y6⟩:=Y.cells;clear Y;have G1:=hd_ (grownBy_trans (grownBy_trans (grownBy_setCell w1 ⟨w.heap.size,2,none⟩ (.slice y m d)) (grownBy_setCell _ ⟨w.heap.size,3,none⟩ (.int .i64 A.2.1))) (grownBy_setCell _ ⟨w.heap.size,4,none⟩ (.int .i64 A.2.2)))
 have BX:Hid (Below w.heap.size w ((((w1.setCell ⟨w.heap.size,2,none⟩ (.slice y m d)).setCell ⟨w.heap.size,3,none⟩ (.int .i64 A.2.1)).setCell ⟨w.heap.size,4,none⟩ (.int .i64 A.2.2)))):=hd_ ((((B.out.setCell lr_ _).setCell lr_ _).setCell lr_ _));have RX:=R.kept G1.out (by simp);have SZ:Hid (w.heap.size+2<=W1.heap.size):=SZ0;have Sw:Hid (W1.heap.size<=w1.heap.size):=Sw0;clear X R B;go_wp2
 show bodyPost _ _ _ _ _ (set7 (((w1.setCell ⟨w.heap.size,2,none⟩ (.slice y m d)).setCell ⟨w.heap.size,3,none⟩ (.int .i64 A.2.1)).setCell ⟨w.heap.size,4,none⟩ (.int .i64 A.2.2)) (w.heap.size+1) (.slice V.xr V.nr V.cr) (.slice V.xf V.nf V.cf) (.slice y m d) (.int .i64 A.2.1) (.int .i64 A.2.2) (.slice V.xk V.nk V.ck) (.int .i64 s.ka))
 generalize (((w1.setCell ⟨w.heap.size,2,none⟩ (.slice y m d)).setCell ⟨w.heap.size,3,none⟩ (.int .i64 A.2.1)).setCell ⟨w.heap.size,4,none⟩ (.int .i64 A.2.2))=WX at G1 BX RX ⊢;have G2:=set7_grown WX (w.heap.size+1) (.slice V.xr V.nr V.cr) (.slice V.xf V.nf V.cf) (.slice y m d) (.int .i64 A.2.1) (.int .i64 A.2.2) (.slice V.xk V.nk V.ck) (.int .i64 s.ka)
 have Y:=RX.set (.slice V.xr V.nr V.cr) (.slice V.xf V.nf V.cf) (.slice y m d) (.int .i64 A.2.1) (.int .i64 A.2.2) (.slice V.xk V.nk V.ck) (.int .i64 s.ka);have BF:=below_set7 BX.out (Nat.le_add_right _ 1) (.slice V.xr V.nr V.cr) (.slice V.xf V.nf V.cf) (.slice y m d) (.int .i64 A.2.1) (.int .i64 A.2.2) (.slice V.xk V.nk V.ck) (.int .i64 s.ka)
 generalize set7 WX (w.heap.size+1) (.slice V.xr V.nr V.cr) (.slice V.xf V.nf V.cf) (.slice y m d) (.int .i64 A.2.1) (.int .i64 A.2.2) (.slice V.xk V.nk V.ck) (.int .i64 s.ka)=WF at G2 Y BF ⊢;have s1:=SZ.out;have s2:=Sw.out;have s3:=G1.out.size;have s4:=G2.size
 have HK:KeptB (fun k=>k<W1.heap.size) w1 WF:=(KeptB.of_grown G1.out (show w.heap.size<W1.heap.size by omega)).trans (KeptB.of_grown G2 (show w.heap.size+1<W1.heap.size by omega));obtain⟨d0,d1,d2,d3,d4,d5,d6⟩:=Y.cells
 refine bodyPost_ret (v:=.tuple #[.agg #[.slice V.xr V.nr V.cr,.slice V.xf V.nf V.cf,.slice y m d,.int .i64 A.2.1,.int .i64 A.2.2,.slice V.xk V.nk V.ck,.int .i64 s.ka],.bool ok]) (by simp[results,Tryz.results153,go_sem,d0,d1,d2,d3,d4,d5,d6]) rfl ?_;exact⟨y,m,d,rfl,ownsRow_base (ownsRow_keptB O.out HK (fun k e q=>by have:=(World.ownsRow.lt O.out k e).1;omega)) (by omega),BF⟩
theorem imWithK_at (w:World) (V:SV) (s:Sm) (x:Option Addr) (n c:Nat) (ps:List K.Pr) (al:Int) (h:RdS w V s) (hu:K.Prs w (.slice x n c) ps):
  Calls Tryz.prog 153 #[.agg #[.slice V.xr V.nr V.cr,.slice V.xf V.nf V.cf,.slice V.xt V.nt V.ct,.int .i64 s.lo,.int .i64 s.al,.slice V.xk V.nk V.ck,.int .i64 s.ka],.iface 44 (.agg #[.slice x n c,.int .i64 al])] w fun e w'=>∃y m d,e=.returned (.tuple #[.agg #[.slice V.xr V.nr V.cr,.slice V.xf V.nf V.cf,.slice V.xt V.nt V.ct,.int .i64 s.lo,.int .i64 s.al,.slice y m d,.int .i64 (K.joinK s.ks s.ka ps al).2],.bool (K.joinOkK s.ks s.ka ps al)])/\K.OwnP w' w.heap.size (.slice y m d) (K.joinK s.ks s.ka ps al).1/\Below w.heap.size w w':=by
 have I1:=fun w=>(ask_K (.agg #[.slice x n c,.int .i64 al]) w).1
 have I2:=fun w=>(ask_K (.agg #[.slice x n c,.int .i64 al]) w).2.1
 have I3:=fun w=>(ask_K (.agg #[.slice x n c,.int .i64 al]) w).2.2.1
 have I4:=fun w=>(ask_K (.agg #[.slice x n c,.int .i64 al]) w).2.2.2
 have hA:=((((Below.refl w.heap.size w).alloc lr_ (.cells #[.slice V.xr V.nr V.cr,.slice V.xf V.nf V.cf,.slice V.xt V.nt V.ct,.int .i64 s.lo,.int .i64 s.al,.slice V.xk V.nk V.ck,.int .i64 s.ka] 46)).alloc (by simp) (.cells #[.slice none 0 0,.slice none 0 0,.slice none 0 0,.int .i64 0,.int .i64 0,.slice none 0 0,.int .i64 0] 46)).alloc (by simp;omega) (.cells #[.slice x n c,.int .i64 al] 44))
 have X:=((Box7.new w 46 (.slice V.xr V.nr V.cr) (.slice V.xf V.nf V.cf) (.slice V.xt V.nt V.ct) (.int .i64 s.lo) (.int .i64 s.al) (.slice V.xk V.nk V.ck) (.int .i64 s.ka)).alloc (.cells #[.slice none 0 0,.slice none 0 0,.slice none 0 0,.int .i64 0,.int .i64 0,.slice none 0 0,.int .i64 0] 46)).alloc (.cells #[.slice x n c,.int .i64 al] 44)
 have R:=(Box7.new (w.alloc (.cells #[.slice V.xr V.nr V.cr,.slice V.xf V.nf V.cf,.slice V.xt V.nt V.ct,.int .i64 s.lo,.int .i64 s.al,.slice V.xk V.nk V.ck,.int .i64 s.ka] 46)) 46 (.slice none 0 0) (.slice none 0 0) (.slice none 0 0) (.int .i64 0) (.int .i64 0) (.slice none 0 0) (.int .i64 0)).alloc (.cells #[.slice x n c,.int .i64 al] 44);rw[World.size_alloc]at R
 have D:=K.Box2.new ((w.alloc (.cells #[.slice V.xr V.nr V.cr,.slice V.xf V.nf V.cf,.slice V.xt V.nt V.ct,.int .i64 s.lo,.int .i64 s.al,.slice V.xk V.nk V.ck,.int .i64 s.ka] 46)).alloc (.cells #[.slice none 0 0,.slice none 0 0,.slice none 0 0,.int .i64 0,.int .i64 0,.slice none 0 0,.int .i64 0] 46)) 44 (.slice x n c) (.int .i64 al);rw[World.size_alloc,World.size_alloc]at D
 obtain⟨ax0,ax1,ax2,ax3,ax4,ax5,ax6⟩:=(X).cells;have ad0:=(D).cell0;have ad1:=(D).cell1
 obtain⟨W1,hW⟩:∃W,W=((w.alloc (.cells #[.slice V.xr V.nr V.cr,.slice V.xf V.nf V.cf,.slice V.xt V.nt V.ct,.int .i64 s.lo,.int .i64 s.al,.slice V.xk V.nk V.ck,.int .i64 s.ka] 46)).alloc (.cells #[.slice none 0 0,.slice none 0 0,.slice none 0 0,.int .i64 0,.int .i64 0,.slice none 0 0,.int .i64 0] 46)).alloc (.cells #[.slice x n c,.int .i64 al] 44):=⟨_,rfl⟩
 rw[<-hW]at hA X R D;have S:Hid (RdS W1 V s):=hd_ (h.below hA lr_);have P:=hd_ (hu.below hA lr_);have B:=hd_ hA;have SZ0:Hid (w.heap.size+2<=W1.heap.size):=by show _<=_;rw[hW];simp
 clear hA h hu;have KA:=K.imRankJoin_at W1 (.slice V.xk V.nk V.ck) (.slice x n c) s.ks s.ka ps al S.out.k P.out;generalize K.joinK s.ks s.ka ps al=A at KA ⊢;generalize K.joinOkK s.ks s.ka ps al=ok at KA ⊢;go_enter Tryz.func153,Tryz.ntmps153
 go_wp2_with fail
 rw[<-hW];clear hW ax0 ax1 ax2 ax3 ax4 ax5 ax6 ad0 ad1;refine (KA).mono ?_;rintro e w1 ⟨v,rfl,ho,hb⟩;obtain⟨y,d,rfl⟩:=ho.form';obtain⟨m,hm⟩:∃m,m=(A.1).length:=⟨_,rfl⟩
 rw[<-hm]at ho ⊢;have Sw0:=hd_ hb.size;clear hm KA;clear S;clear P;clear D;replace X:=X.later hb;replace R:=R.later hb;replace B:=hd_ (B.out.trans (hb.mono B.out.size));have O:=hd_ (ho);clear hb;obtain⟨cx0,cx1,cx2,cx3,cx4,cx5,cx6⟩:=(X).cells;obtain⟨cr0,cr1,cr2,cr3,cr4,cr5,cr6⟩:=(R).cells;have frx:=X.free;have frr:=R.free;clear ho;have Y:=X;replace Y:=Y.set5 (.slice y m d)
 replace Y:=Y.set6 (.int .i64 A.2);obtain⟨y0,y1,y2,y3,y4,y5,y6⟩:=Y.cells;clear Y;have G1:=hd_ (grownBy_trans (grownBy_setCell w1 ⟨w.heap.size,5,none⟩ (.slice y m d)) (grownBy_setCell _ ⟨w.heap.size,6,none⟩ (.int .i64 A.2)))
 have BX:Hid (Below w.heap.size w (((w1.setCell ⟨w.heap.size,5,none⟩ (.slice y m d)).setCell ⟨w.heap.size,6,none⟩ (.int .i64 A.2)))):=hd_ (((B.out.setCell lr_ _).setCell lr_ _));have RX:=R.kept G1.out (by simp);have SZ:Hid (w.heap.size+2<=W1.heap.size):=SZ0;have Sw:Hid (W1.heap.size<=w1.heap.size):=Sw0;clear X R B;go_wp2
 show bodyPost _ _ _ _ _ (set7 ((w1.setCell ⟨w.heap.size,5,none⟩ (.slice y m d)).setCell ⟨w.heap.size,6,none⟩ (.int .i64 A.2)) (w.heap.size+1) (.slice V.xr V.nr V.cr) (.slice V.xf V.nf V.cf) (.slice V.xt V.nt V.ct) (.int .i64 s.lo) (.int .i64 s.al) (.slice y m d) (.int .i64 A.2))
 generalize ((w1.setCell ⟨w.heap.size,5,none⟩ (.slice y m d)).setCell ⟨w.heap.size,6,none⟩ (.int .i64 A.2))=WX at G1 BX RX ⊢;have G2:=set7_grown WX (w.heap.size+1) (.slice V.xr V.nr V.cr) (.slice V.xf V.nf V.cf) (.slice V.xt V.nt V.ct) (.int .i64 s.lo) (.int .i64 s.al) (.slice y m d) (.int .i64 A.2)
 have Y:=RX.set (.slice V.xr V.nr V.cr) (.slice V.xf V.nf V.cf) (.slice V.xt V.nt V.ct) (.int .i64 s.lo) (.int .i64 s.al) (.slice y m d) (.int .i64 A.2);have BF:=below_set7 BX.out (Nat.le_add_right _ 1) (.slice V.xr V.nr V.cr) (.slice V.xf V.nf V.cf) (.slice V.xt V.nt V.ct) (.int .i64 s.lo) (.int .i64 s.al) (.slice y m d) (.int .i64 A.2)
 generalize set7 WX (w.heap.size+1) (.slice V.xr V.nr V.cr) (.slice V.xf V.nf V.cf) (.slice V.xt V.nt V.ct) (.int .i64 s.lo) (.int .i64 s.al) (.slice y m d) (.int .i64 A.2)=WF at G2 Y BF ⊢;have s1:=SZ.out;have s2:=Sw.out;have s3:=G1.out.size;have s4:=G2.size
 have HK:KeptB (fun k=>k<W1.heap.size) w1 WF:=(KeptB.of_grown G1.out (show w.heap.size<W1.heap.size by omega)).trans (KeptB.of_grown G2 (show w.heap.size+1<W1.heap.size by omega));obtain⟨d0,d1,d2,d3,d4,d5,d6⟩:=Y.cells
 refine bodyPost_ret (v:=.tuple #[.agg #[.slice V.xr V.nr V.cr,.slice V.xf V.nf V.cf,.slice V.xt V.nt V.ct,.int .i64 s.lo,.int .i64 s.al,.slice y m d,.int .i64 A.2],.bool ok]) (by simp[results,Tryz.results153,go_sem,d0,d1,d2,d3,d4,d5,d6]) rfl ?_;exact⟨y,m,d,rfl,ownsRow_base (ownsRow_keptB O.out HK (fun k e q=>by have:=(World.ownsRow.lt O.out k e).1;omega)) (by omega),BF⟩
end Go.Proofs.YtcblbdpdbggkbaaGreat
