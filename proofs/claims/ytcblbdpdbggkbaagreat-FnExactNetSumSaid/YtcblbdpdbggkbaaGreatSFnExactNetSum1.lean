/-
  The walk of the law.
-/
import Derived.Deep.DeepCutAuto
import Derived.Test.YtcblbdpdbggkbaaGreatRows
import Derived.WalkKit
import Derived.ProofKit
import Derived.OpenShut
import Derived.ShutString
import Derived.ChangeOld
import Derived.Below
import Derived.Test.YtcblbdpdbggkbaaGreatSXS13
namespace Go.Proofs.YtcblbdpdbggkbaaGreat.fnExactNetSum
open _root_.Go.Proofs.Tryz
open Go.ChangeShapes Go.WideShapes Go.ChangeAt Go.RowKit
open Go.ChangeMaps (open_string shut_string)
set_option linter.unusedVariables false
set_option linter.unusedSimpArgs false

theorem own:ownKnob prog.godebug=none:=by kernel_rfl
theorem laidOut:laidOutB prog=true:=by kernel_rfl

set_option maxRecDepth 20000 in
set_option maxHeartbeats 2000000 in
theorem walk (V0:N.NV) (z0:N.Nt) (a1:Int) (w:World) (w0:N.aM9 w V0 z0) (w1:(Lit.int .i64 a1).wf=true):
  Calls prog 15 #[.agg #[.slice V0.x1 V0.k1 V0.c1,.slice V0.x2 V0.k2 V0.c2,.slice V0.x3 V0.k3 V0.c3,.slice V0.x4 V0.k4 V0.c4],iv a1] w fun e w'=>e=.returned (.bool true)/\Below w.heap.size w w':=by
 open N in
 obtain⟨x1,k1,c1,x2,k2,c2,x3,k3,c3,x4,k4,c4⟩:=V0;have hA:N.aFV w [.slice x1 k1 c1,.slice x2 k2 c2,.slice x3 k3 c3,.slice x4 k4 c4] z0:=w0;simp only;have A0:=hd_ hA;have h0:=(M.start w).alloc #[.slice x1 k1 c1,.slice x2 k2 c2,.slice x3 k3 c3,.slice x4 k4 c4] 80;obtain⟨p1,hp1⟩:=nm_ w.heap.size
 obtain⟨W1,hW1⟩:=nm_ (w.alloc (.cells #[.slice x1 k1 c1,.slice x2 k2 c2,.slice x3 k3 c3,.slice x4 k4 c4] 80));rw[<-hW1]at h0;have H1:=hd_ (show M w.heap.size w W1 [bO p1 80 #[.slice x1 k1 c1,.slice x2 k2 c2,.slice x3 k3 c3,.slice x4 k4 c4]] by rw[hp1];exact h0);clear h0 hA w0 w1;have ST:=hd_ (fun (W:World) (hb:Below w.heap.size w W)=>(N.aIP.keep A0.out hb (Nat.le_refl _)))
 obtain⟨o,ho⟩:=nm_ (N.yP z0 a1);obtain⟨s,hs⟩:=nm_ (o.getD eC);obtain⟨b,hb⟩:=nm_ o.isSome;have KSP:=hd_ (fun (W:World) {y1 y2 y3 y4:Option Addr} {m1 d1 m2 d2 m3 d3 m4 d4:Nat} (hn:N.jF W (.slice y1 m1 d1) (.slice y2 m2 d2) (.slice y3 m3 d3) (.slice y4 m4 d4) z0)=>by have k:=N.aEs W hn a1;rw[<-ho]at k;unfold N.aL6 at k;rw[<-hs, <-hb]at k;exact k)
 have KIM:=hd_ (fun (W:World) {y1 y2 y3 y4:Option Addr} {m1 d1 m2 d2 m3 d3 m4 d4:Nat} (hn:N.jF W (.slice y1 m1 d1) (.slice y2 m2 d2) (.slice y3 m3 d3) (.slice y4 m4 d4) z0)=>by have k:=N.aD5 W hn a1;rw[<-ho]at k;unfold N.aL6 at k;rw[<-hs, <-hb]at k;exact k);have SM:xZ s:=by
  cases o with
  |none=>exact vM (.inr hs)
  |some s'=>obtain rfl:s=s':=hs;exact vM (.inl ((bM _).2 (N.aIz ho.symm).1.ok))
 have LE:=hd_ SM.lens;have C4:0<=N.aBz s/\N.aBz s<=400:=by
  have h1:=N.aFY SM;have h2:=N.iH s.rs;unfold N.aDJ at h1;unfold N.aBz;omega
 obtain⟨cr,hcr⟩:=nm_ (N.aBz s);have CR:=hd_ hcr;have C5:=hd_ (show 0<=cr/\cr<=400 by rw[hcr];exact C4);have eb:(b != b)=false:=by cases b<;>rfl
 clear hs hb ho SM C4 hcr;go_enter func15,ntmps15;go_upto_region 1 with fail
 rw[<-hW1, <-hp1];clear hW1 hp1;obtain⟨a0,a1,a2,a3⟩:=H1.out.cells4;have KS:=hd_ (N.aJ3 W1 z0 1048576 (ST.out _ H1.out.below) dc_ dc_);obtain⟨sz,hsz⟩:=nm_ (N.aFE z0);rw[<-hsz]at KS;have SZ:=hd_ hsz;clear hsz
 go_wp2_with fail
 refine KS.out.mono ?_;rintro r w2 ⟨rfl,hb⟩;have H2:=hd_ (H1.out.later hb);clear hb KS H1 a0 a1 a2 a3;obtain⟨a0,a1,a2,a3⟩:=H2.out.cells4;unfold szV
 by_cases hle:(1048576:Int)<(sz:Int)
 ·rw[if_pos hle]
  go_wp2;go_ret;exact⟨rfl,H2.out.below⟩
 rw[if_neg hle];have nz:¬(1048576:Int) - (sz:Int)<0:=o_;have LA:=hd_ (N.aIL.arg (n:=z0) (by rw[<-SZ.out];omega));obtain⟨cn,hcn⟩:=nm_ (N.tL z0);have CN:=hd_ hcn;have QC:=hd_ (show 1+N.tL z0<=100000000 by have:=N.aJk z0;rw[<-SZ.out]at this;omega);have ed:¬(1:Int)+cn<0:=by have:=N.aKa z0;omega
 have KT:=hd_ (fun (W:World) (hb:Below w.heap.size w W)=>N.aKB W z0 (ST.out W hb) LA.out);clear hcn
 go_wp2_with fail
 refine (KT.out _ H2.out.below).mono ?_;rintro r w3 ⟨y1,d1,y2,d2,y3,d3,y4,d4,rfl,hU⟩;have H3:=hd_ (H2.out.gotNet hU);clear hU H2 a0 a1 a2 a3;have K1:=hd_ (KSP.out w3 H3.out.netIs)
 go_wp2_with fail
 refine K1.out.mono ?_;rintro r w4 ⟨U1,rfl,hm⟩;have h4:=(H3.out.plus hm).p1.drop.alloc (cS U1 s) 46;clear hm K1 H3 KSP;obtain⟨p6,hp⟩:=nm_ w4.heap.size;obtain⟨W4,hW⟩:=nm_ (w4.alloc (.cells (cS U1 s) 46));rw[<-hW, <-hp]at h4;have H4:=hd_ h4;clear h4;go_upto_region 6 with fail
 rw[<-hW, <-hp];clear hW hp;obtain⟨a0,a1,a2,a3⟩:=H4.out.p2.cells4;have KT2:=hd_ (KT.out _ H4.out.below)
 go_wp2_with fail
 refine KT2.out.mono ?_;rintro r w5 ⟨u1,e1,u2,e2,u3,e3,u4,e4,rfl,hU⟩;have h5:=(H4.out.gotNet hU).alloc #[.slice u1 z0.nodes.length e1,.slice u2 z0.links.length e2,.slice u3 z0.words.length e3,.slice u4 z0.past.length e4] 30;clear hU KT2 H4 a0 a1 a2 a3;obtain⟨p8,hp⟩:=nm_ w5.heap.size
 obtain⟨W5,hW⟩:=nm_ (w5.alloc (.cells #[.slice u1 z0.nodes.length e1,.slice u2 z0.links.length e2,.slice u3 z0.words.length e3,.slice u4 z0.past.length e4] 30));rw[<-hW, <-hp]at h5;have H5:=hd_ h5;clear h5;go_upto_region 7 with fail
 rw[<-hW, <-hp];clear hW hp;obtain⟨b0,b1,b2,b3⟩:=H5.out.cells4;have K1:=hd_ (KIM.out W5 H5.out.p1.netIs)
 go_wp2_with fail
 refine K1.out.mono ?_;rintro r w6 ⟨U2,rfl,hm⟩;have h6:=(H5.out.plus hm).alloc (cS U2 s) 46;clear hm K1 H5 b0 b1 b2 b3;obtain⟨p9,hp⟩:=nm_ w6.heap.size;obtain⟨W6,hW⟩:=nm_ (w6.alloc (.cells (cS U2 s) 46));rw[<-hW, <-hp]at h6;have H6:=hd_ h6;clear h6;go_upto_region 8 with fail
 rw[<-hW, <-hp];clear hW hp;obtain⟨d0,d1,d2,d3,d4,d5,d6⟩:=H6.out.cells7;obtain⟨e0',e1',e2',e3',e4',e5',e6'⟩:=H6.out.p4.cells7;have K1:=hd_ (uZ W6 U2 U1 s (M.rdS (V:=U2) H6.out.drop) (M.rdS (V:=U1) H6.out.drop.drop.drop.drop.drop) LE.out)
 go_wp2_with fail
 refine K1.out.mono ?_;rintro r w7 ⟨rfl,hb⟩;have H7:=hd_ ((H6.out.later hb).drew);clear K1 hb H6 d0 d1 d2 d3 d4 d5 d6 e0' e1' e2' e3' e4' e5' e6';go_upto_region 10 with fail
 obtain⟨W,hW⟩:=nm_ w7.drew;rw[<-hW]at H7;have EW:=hd_ hW;clear hW;obtain⟨b0,b1,b2,b3⟩:=H7.out.p2.cells4;obtain⟨a0,a1,a2,a3⟩:=H7.out.p6.cells4
 have C0:=hd_ (show bD W (b4L p8 (.slice u1 z0.nodes.length e1) (.slice u2 z0.links.length e2) (.slice u3 z0.words.length e3) (.slice u4 z0.past.length e4)++b4L p1 (.slice x1 k1 c1) (.slice x2 k2 c2) (.slice x3 k3 c3) (.slice x4 k4 c4))from⟨b0,b1,b2,b3,a0,a1,a2,a3,trivial⟩);clear b0 b1 b2 b3 a0 a1 a2 a3
 refine aC 99 (.take 0 (.take 1 (.alt 2 (.alt 3 (.take 4 .done) .nomore) .nomore))) (fun w'=>bD w' (b4L p8 (.slice u1 z0.nodes.length e1) (.slice u2 z0.links.length e2) (.slice u3 z0.words.length e3) (.slice u4 z0.past.length e4)++b4L p1 (.slice x1 k1 c1) (.slice x2 k2 c2) (.slice x3 k3 c3) (.slice x4 k4 c4))) kr_ kr_ (by intro _ _ _ _ _ h;exact h) (by rw[<-EW.out];exact C0.out) ?_
 rw[<-EW.out];clear EW
 repeat (first|refine tC_ ?_|refine tB_ ?_)
 refine aB r_ (fun K' hK=>?_);go_simp;refine (KT.out W H7.out.below).mono ?_;rintro r w8 ⟨t1,f1,t2,f2,t3,f3,t4,f4,rfl,hU⟩;have H8:=hd_ (H7.out.gotNet hU);have C8:=hd_ (bD.below C0.out hU.below);clear hU H7 C0;refine hK _ _ (.inr C8.out) ?_;clear hK K'
 try refine tP_ ?_
 refine aB r_ (fun K' hK=>?_);go_simp;obtain⟨_,r1⟩:=H8.out.p4.netR';obtain⟨_,r2⟩:=H8.out.netR';refine (N.aFM w8 r1 r2 LA.out.n).mono ?_;rintro r w9 ⟨rfl,hb⟩;have H9:=hd_ (H8.out.later hb).drop;have C9:=hd_ (bD.below C8.out hb);clear hb H8 C8 r1 r2;refine hK _ _ (.inr C9.out) ?_;clear hK K'
 try refine tP_ ?_
 repeat (first|refine tC_ ?_|refine tB_ ?_)
 refine aG ?_;clear C9;obtain⟨b0,b1,b2,b3⟩:=H9.out.p2.cells4;have K1:=N.aH5 (k:=1) H9.out.p3 o_ QC.out;rw[<-CN.out]at K1
 go_wp2_with fail
 refine K1.mono ?_;rintro r w10 ⟨rfl,h10⟩;have H10:=hd_ h10.drop;clear K1 h10 H9 b0 b1 b2 b3;obtain⟨d0,d1,d2,d3,d4,d5,d6⟩:=H10.out.cells7;obtain⟨e0',e1',e2',e3',e4',e5',e6'⟩:=H10.out.p3.cells7;have K1:=hd_ (uZ w10 U2 U1 s (M.rdS (V:=U2) H10.out.drop) (M.rdS (V:=U1) H10.out.drop.drop.drop.drop) LE.out)
 go_wp2_with fail
 refine K1.out.mono ?_;rintro r w11 ⟨rfl,hb⟩;have H11:=hd_ (H10.out.later hb);clear K1 hb H10 d0 d1 d2 d3 d4 d5 d6 e0' e1' e2' e3' e4' e5' e6';have ee:((1:Int)+cr != 1+cr)=false:=by simp
 have ef:¬(1:Int)+cr<0:=by have:=C5.out;omega
 obtain⟨d0,d1,d2,d3,d4,d5,d6⟩:=H11.out.cells7;have K1:=N.aIe (k:=1) H11.out.p1 o_ (by rw[<-CR.out];have:=C5.out;omega);rw[<-CR.out]at K1
 go_wp2_with fail
 refine K1.mono ?_;rintro r w12 ⟨rfl,h12⟩;have H12:=hd_ h12;clear K1 h12 H11 d0 d1 d2 d3 d4 d5 d6;obtain⟨d0,d1,d2,d3,d4,d5,d6⟩:=H12.out.p1.cells7;have KH:=hd_ (let ⟨_,r,_⟩:=H12.out.first;N.aB2 (k:=1) (s:=s) r o_ (by rw[<-CR.out];have:=C5.out;omega));rw[<-CR.out]at KH
 go_wp2_with fail
 refine KH.out.mono ?_;rintro r w13 ⟨rfl,hb⟩;have H13:=hd_ (H12.out.later hb);clear hb KH H12 d0 d1 d2 d3 d4 d5 d6;obtain⟨a0,a1,a2,a3⟩:=H13.out.p5.cells4;have KT2:=hd_ (KT.out _ H13.out.below)
 go_wp2_with fail
 refine KT2.out.mono ?_;rintro r w14 ⟨s1,g1,s2,g2,s3,g3,s4,g4,rfl,hU⟩;have H14:=hd_ (H13.out.gotNet hU);clear hU KT2 H13 a0 a1 a2 a3;have K1:=hd_ (KIM.out w14 H14.out.netIs)
 go_wp2_with fail
 refine K1.out.mono ?_;rintro r w15 ⟨U3,rfl,hm⟩;have h15:=(H14.out.plus hm).p1.drop.alloc (cS U3 s) 46;clear hm K1 H14;obtain⟨p14,hp⟩:=nm_ w15.heap.size;obtain⟨W15,hW⟩:=nm_ (w15.alloc (.cells (cS U3 s) 46));rw[<-hW, <-hp]at h15;have H15:=hd_ h15;clear h15;go_upto_region 25 with fail
 rw[<-hW, <-hp];clear hW hp;obtain⟨d0,d1,d2,d3,d4,d5,d6⟩:=H15.out.cells7;obtain⟨e0',e1',e2',e3',e4',e5',e6'⟩:=H15.out.p5.cells7;have K1:=hd_ (uZ W15 U3 U1 s (M.rdS (V:=U3) H15.out.drop) (M.rdS (V:=U1) H15.out.drop.drop.drop.drop.drop.drop) LE.out)
 go_wp2_with fail
 refine K1.out.mono ?_;rintro r w16 ⟨rfl,hb⟩;have H16:=hd_ (H15.out.later hb);clear K1 hb H15 d0 d1 d2 d3 d4 d5 d6 e0' e1' e2' e3' e4' e5' e6';obtain⟨d0,d1,d2,d3,d4,d5,d6⟩:=H16.out.p3.cells7;have KH:=hd_ (let ⟨_,r,_⟩:=H16.out.p2.first;N.aB2 (k:=1) (s:=s) r o_ (by rw[<-CR.out];have:=C5.out;omega));rw[<-CR.out]at KH
 go_wp2_with fail
 refine KH.out.mono ?_;rintro r w17 ⟨rfl,hb⟩;have H17:=hd_ (H16.out.later hb);clear hb KH H16 d0 d1 d2 d3 d4 d5 d6;go_wp2;go_ret;exact⟨rfl,H17.out.below⟩

-- the row's step
set_option maxRecDepth 100000 in
theorem lifted (os:Os) (started:os.Started) (H:Type) (enc:TypeId × Value->H):
  ReturnsInHanded {} Tryz.checked os 15 .any (Rows.fnExactNetSumSpec.pre6 enc prog Tryz.f15 Rows.fnExactNetSumRow.domain false) (Rows.fnExactNetSumSpec.post enc prog Tryz.f15 false true false false):=by
 refine returnsInHanded_of_change (C:=Tryz.checked) own started kr_ func15
  (ChangeSpec.witness6 (enc:=enc) (C:=Tryz.checked) false ⟨#[],#[.agg #[zn,zn,zn,zn],iv 0],[]⟩ 8 kr_ kr_ kr_ kr_) ?_
 intro W base args ds gs before hval0 hW hcnd _;have hval:∀(j:Nat) t v,Tryz.f15.params[j]? =some t->args[j]? =some v->Value.okWide prog W .any base t v:=hval0
 have hW':=hW;obtain⟨p,q,hA0,hV,rfl,hfz,hnd⟩:=hW;have hA:DataW.TrodAll enc prog W 0 (fun _=>true) true Tryz.f15.params.toList args.toList ds p:=hA0;rw[Tryz.params15 ]at hA hval;obtain⟨v0,vs0,d0,ds0,p0,q0,hargs,rfl,rfl,h0,r0⟩:=trodAll_cons hA;obtain⟨v1,vs1,d1,ds1,p1,q1,rfl,rfl,rfl,h1,r1⟩:=trodAll_cons r0;obtain⟨rfl,rfl,rfl⟩:=trodAll_nil r1;obtain rfl:args=#[v0,v1]:=by cases args;simp_all
 obtain⟨rfl,rfl⟩:=trodVars_none hV;have k0:=h0;have lt0:∀x ∈ p0,x.block<W.heap.size:=by obtain⟨m,hm⟩:=k0;exact DataW.trod_lt m _ _ _ hm
 obtain⟨U0,z0,rfl,w0⟩:=N.aKE (hval 0 80 v0 rfl rfl) h0;obtain⟨a1,rfl,rfl,rfl,w1⟩:=open_int underlying3 (hval 1 3 v1 rfl rfl) h1;clear hA0 hval0;refine (walk U0 z0 a1 W w0 w1).mono fun e W' ⟨he,bel⟩=>?_
 subst he;exact⟨_,rfl,_,_,_,[],_,[],hW',trodAll_mk1 (shut_bool underlying4 _),(trodAll_cons_mk (Below.trod laidOut kr_ (of_decide_eq_true kr_) k0 bel lt0) (trodAll_cons_mk (shut_int underlying3 w1) trodAll_mk0)),rfl,bel.frame _,fun h=>by cases h⟩
end Go.Proofs.YtcblbdpdbggkbaaGreat.fnExactNetSum
