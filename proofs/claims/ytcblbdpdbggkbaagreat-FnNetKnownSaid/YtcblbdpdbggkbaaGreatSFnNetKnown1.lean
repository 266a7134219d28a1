/-
  The walk of the law.
-/
import Derived.Deep.RegionHeld3
import Derived.Deep.RegionWith
import Derived.Deep.DeepCutAuto
import Derived.Test.YtcblbdpdbggkbaaGreatRows
import Derived.WalkKit
import Derived.ProofKit
import Derived.OpenShut
import Derived.ShutString
import Derived.ChangeOld
import Derived.Below
import Derived.Test.YtcblbdpdbggkbaaGreatSKn13
namespace Go.Proofs.YtcblbdpdbggkbaaGreat.fnNetKnown
open _root_.Go.Proofs.Tryz
open Go.ChangeShapes Go.WideShapes Go.ChangeAt Go.RowKit
open Go.ChangeMaps (open_string shut_string)
set_option linter.unusedVariables false
set_option linter.unusedSimpArgs false

theorem own:ownKnob prog.godebug=none:=by kernel_rfl
theorem laidOut:laidOutB prog=true:=by kernel_rfl

/-- WHAT THE WALK IS TOLD OF A SLICE OF INTEGERS THAT CAME IN:it is nil;or it leads to a row of 'cap' cells,the numbers 'zs' (the first 'len' are its elements,the rest its spare room),each fitting its kind. -/
def aEe (k:IntKind) (w:World) (a:Option Addr) (len cap:Nat) (zs:List Int):Prop:=
 (a=none/\len=0/\cap=0/\zs=[])\/
 ∃x,a=some x/\len<=cap/\cap<=maxLen/\zs.length=cap/\(∀i,i<zs.length->w.cell? (x.add i)=some (.int k (zs.getD i 0)))/\∀n ∈ zs,(Lit.int k n).wf=true

/-! ### STEP 1:THE WALK:the Go text returns true,AND WRITES NOTHING THAT WAS THERE: 'Below w.heap.size w w'' (Derived/Below.lean: '.refl', '.alloc', '.drew', '.setCell' at a new block, '.trans'). Open each 'IsRow' by 'rcases' AHEAD of 'go_enter';part every test ahead of the walk. -/
theorem walk (a0:Option Addr) (len0 cap0:Nat) (z0:List Int) (w:World) (w0:aEe .u8 w a0 len0 cap0 z0):
  Calls prog 7 #[.slice a0 len0 cap0] w fun e w'=>e=.returned (.bool true)/\Below w.heap.size w w':=by
 obtain⟨hb,hl⟩:=aJf w a0 len0 cap0 z0 w0;rcases hl with hl|hl
 ·go_enter func7,ntmps7
  go_wp2;go_ret;exact⟨rfl,Below.refl _ _⟩
 have HB:=hd_ hb;have h0:=M.start w;obtain⟨B0,hB0⟩:=nm_ w.heap.size;rw[<-hB0]at HB h0 ⊢;clear hb w0 hB0;have H0:=hd_ h0;clear h0;go_enter func7,ntmps7
 go_wp2_with fail
 refine (N.zS H0.out ⟨_,_,rfl⟩ HB.out).mono ?_;rintro r w1 ⟨v1,v2,v3,v4,n,who,rfl,i0,i1,n5,h1⟩;obtain⟨x1,c1,rfl,_⟩:=M.form h1;obtain⟨x2,c2,rfl,_⟩:=M.form h1.p1;obtain⟨x3,c3,rfl,_⟩:=M.form h1.p2;obtain⟨x4,c4,rfl,_⟩:=M.form h1.p3;obtain⟨k1,hk1⟩:=nm_ n.nodes.length;obtain⟨k2,hk2⟩:=nm_ n.links.length;obtain⟨k3,hk3⟩:=nm_ n.words.length;obtain⟨k4,hk4⟩:=nm_ n.past.length
 rw[<-hk1, <-hk2, <-hk3, <-hk4]at h1 ⊢;have K4:=hd_ hk4;clear hk2 hk3 hk4;have h2:=h1.alloc #[.slice x1 k1 c1,.slice x2 k2 c2,.slice x3 k3 c3,.slice x4 k4 c4] 30;obtain⟨q,hq⟩:=nm_ w1.heap.size;obtain⟨W1,hW1⟩:=nm_ (w1.alloc (.cells #[.slice x1 k1 c1,.slice x2 k2 c2,.slice x3 k3 c3,.slice x4 k4 c4] 30));rw[<-hW1, <-hq]at h2;have H2:=hd_ h2;clear h1 h2 H0;have K1:=hd_ (hk1.trans n5);clear hk1 n5
 obtain⟨R,hR⟩:=nm_ (N.dQ n who);have KSP:=hd_ (fun (W:World) (hn:N.iP W (.slice x1 k1 c1) (.slice x2 k2 c2) (.slice x3 k3 c3) (.slice x4 k4 c4) n)=>by have k:=N.aBI W hn who;rw[<-hR]at k;exact k);have KIM:=hd_ (fun (W:World) (hn:N.iP W (.slice x1 k1 c1) (.slice x2 k2 c2) (.slice x3 k3 c3) (.slice x4 k4 c4) n)=>by have k:=N.aBC W hn who;rw[<-hR]at k;exact k);have HR:=hd_ hR
 have RS:Hid (N.aMc R):=hd_ (by rw[hR];exact fun e he=>aAh (.inl ((N.oY n who).2 e he).1));clear hR;obtain⟨nr,hnr⟩:=nm_ R.length;rw[<-hnr]at KSP KIM;have NR:=hd_ hnr;clear hnr;go_upto_region 4 with fail
 rw[<-hW1, <-hq];clear hW1 hq;obtain⟨a0',a1,a2,a3⟩:=H2.out.cells4;have KI:=hd_ (KIM.out W1 (M.rdNet (b:=.bool true) H2.out))
 go_wp2_with fail
 refine KI.out.mono ?_;rintro r w2 ⟨y,cy,rfl,hm⟩;have H3:=hd_ (H2.out.plus hm);clear hm H2 KI a0' a1 a2 a3 KIM;obtain⟨a0',a1,a2,a3⟩:=H3.out.p1.cells4;have KS:=hd_ (KSP.out w2 (M.rdNet (b:=.bool true) H3.out.drop))
 go_wp2_with fail
 refine KS.out.mono ?_;rintro r w3 ⟨y2,cy2,rfl,hm⟩;have H4:=hd_ (H3.out.plus hm);clear hm H3 KS a0' a1 a2 a3;have KL:=hd_ (let ⟨f1,hf1,_⟩:=H4.out.p1.first;let ⟨f2,hf2,_⟩:=H4.out.first;N.wW w3 hf1 hf2 RS.out);obtain⟨a0',a1,a2,a3⟩:=H4.out.p2.cells4
 go_wp2_with fail
 refine KL.out.mono ?_;rintro r w4 ⟨rfl,hb⟩;have H5:=hd_ (H4.out.later hb);clear hb H4 KL a0' a1 a2 a3
 by_cases n0:nr=0
 ·subst n0
  obtain⟨a0',a1,a2,a3⟩:=H5.out.p2.cells4;have KS:=hd_ (KSP.out w4 (M.rdNet (b:=.bool true) H5.out.drop.drop))
  go_wp2_with fail
  refine KS.out.mono ?_;rintro r w5 ⟨y3,cy3,rfl,hm⟩;have H6:=hd_ (H5.out.plus hm);clear hm H5 KS a0' a1 a2 a3;have KL:=hd_ (let ⟨f1,hf1,_⟩:=H6.out.p2.first;let ⟨f2,hf2,_⟩:=H6.out.first;N.wW w5 hf1 hf2 RS.out)
  go_wp2_with fail
  refine KL.out.mono ?_;rintro r w6 ⟨rfl,hb⟩;have H7:=hd_ (H6.out.later hb);clear hb H6 KL;go_wp2;go_ret;exact⟨rfl,H7.out.below⟩
 have n0':¬(nr:Int)=0:=o_;have H6:=hd_ H5.out.drop;clear H5 KSP;have N1:1<=nr:=o_;have N5:nr<=5:=by rw[NR.out,HR.out];exact (N.oY n who).1
 obtain⟨ok,hwho⟩:N.jF n=true/\N.in6 who 0 4=true:=by
  by_cases c:N.jF n=true/\N.in6 who 0 4=true
  ·exact c
  ·exact absurd (by rw[NR.out,HR.out];unfold N.dQ;rw[if_neg c];rfl) n0
 have OK:=hd_ ok;have WH:=hd_ hwho;have RK:Hid (R=(N.aA n who).known):=hd_ (by rw[HR.out];unfold N.dQ;rw[if_pos ⟨ok,hwho⟩]);have AS:Hid (R.Pairwise N.gV):=hd_ (by rw[RK.out];exact (N.uN ok hwho).1.asc);clear ok hwho n0 n0';go_wp2
 go_loopw [6] (fun z wr=>∃i:Nat,1<=i/\i<=nr/\z=.int .i64 (i:Int)/\M B0 w wr [N.eQ (.slice y nr cy) R,aL q 30 #[.slice x1 k1 c1,.slice x2 k2 c2,.slice x3 k3 c3,.slice x4 k4 c4],N.bE (.slice x1 k1 c1) n.nodes,N.bY (.slice x2 k2 c2) n.links,N.bG (.slice x3 k3 c3) n.words,N.dN (.slice x4 k4 c4) n.past]) (fun z _=>nr - (intOf z).toNat)
 case atStart=>exact⟨1,Nat.le_refl _,N1,rfl,H6.out⟩
 case round=>
  clear H6;obtain⟨i,h1,hi,rfl,hm⟩:=hrel;have H3:=hd_ hm.drew;have H:=hd_ hm;clear hm
  by_cases hlt:(i:Int)<(nr:Int)
  ·clear H
   obtain⟨w8,hw8⟩:=nm_ wr.drew;rw[<-hw8]at H3;have EW:=hd_ hw8;clear hw8;obtain⟨i',ei⟩:∃j,i=j+1:=⟨i - 1,o_⟩
   obtain⟨e0,he0⟩:∃e,R[i']? =some e:=⟨_,List.getElem?_eq_getElem (by rw[<-NR.out];omega)⟩
   obtain⟨e1,he1⟩:∃e,R[i]? =some e:=⟨_,List.getElem?_eq_getElem (by rw[<-NR.out];omega)⟩
   have lt:e0.node<e1.node:=by
    obtain⟨p0,rfl⟩:=List.getElem?_eq_some_iff.1 he0;obtain⟨p1,rfl⟩:=List.getElem?_eq_some_iff.1 he1;exact List.pairwise_iff_getElem.1 AS.out i' i p0 p1 o_
   obtain⟨f,hf⟩:=H3.out.knownR';obtain⟨g,_,_,rfl,_,_,_,m0,_⟩:=N.gY hf he0;obtain⟨_,_,_,eq,_,_,_,m1,_⟩:=N.gY hf he1;cases eq;have ge:¬e1.node<=e0.node:=o_;have bs:IntKind.i64.wrap ((i:Int) - 1)=(i':Int):=by
    rw[show ((i:Int) - 1)=(i':Int) by omega];exact IntWalk.i64_in _ o_
   have bi:IntKind.i64.wrap ((i:Int)+1)=(i:Int)+1:=IntWalk.i64_in _ o_;have s0:(0:Int)<=(i':Int):=o_;have s1:(i':Int)<(nr:Int):=o_;clear ei he0 he1 hf lt;go_upto_region 10 with fail
   refine aC 99 (.take 0 (.take 1 (.take 2 (.take 3 (.take 4 (.take 5 (.take 6 (.take 7 (.take 8 (.take 9 (.take 10 (.take 11 .done)))))))))))) (fun w'=>w'=w8) kr_ kr_ (fun _ _ _ _ _ h=>h) EW.out.symm ?_;rw[<-EW.out]
   repeat (first|refine tA_ ?_|refine tB_ ?_)
   refine aD ?_;clear m0 m1;go_wp2;go_roundw
   case rel=>exact⟨i+1,o_,o_,gn_,H3.out⟩
   case measure=>simp[intOf];omega
  ·clear H3
   have wn:N.aE who:=N.bH.1 WH.out;obtain⟨j,rfl⟩:∃j:Nat,who=(j:Int):=⟨who.toNat,by have:=wn.1;omega⟩
   have j5:j<5:=by have:=wn.2;omega
   have ON:=N.hZ.1 OK.out;obtain⟨⟨en0,bo0,nu0,s0⟩,he,eb,en⟩:=ON.own (j:Int) wn;have bo:=ON.born (j:Int) wn;have pl:=(ON.pasts (j:Int) wn).len;obtain⟨b,hb⟩:∃b:Nat,(N.aA n (j:Int)).born=(b:Int):=⟨(N.aA n (j:Int)).born.toNat,o_⟩
   obtain⟨rs,hrs⟩:=nm_ (N.aO n (j:Int));have hlb:b<rs.length:=by rw[hrs];omega
   obtain⟨lp,hlp⟩:∃l,rs[b]? =some l:=⟨_,List.getElem?_eq_getElem hlb⟩
   have PA:N.aN n (j:Int) (N.aA n (j:Int)).born=lp:=by
    unfold N.aN;rw[hb,Int.toNat_natCast, <-hrs,List.getD_eq_getElem?_getD,hlp]
    rfl
   simp only at eb en;rw[PA]at en;rw[hb]at eb;subst eb en;have FE:Hid (N.bM R (j:Int)=some ⟨en0,(b:Int),(lp.length:Int),s0⟩):=hd_ (by rw[RK.out];exact he);have ND:=hd_ (N.eY ON.nodes j5);have PD:=hd_ (N.pJ ON.past j5);have HBN:=hd_ hb;have HRS:=hd_ hrs;have HLP:=hd_ hlp;obtain rfl:k1=5:=K1.out;obtain rfl:k4=5:=K4.out.trans ON.past;obtain⟨nl,hnl⟩:=nm_ lp.length;obtain⟨nq,hnq⟩:=nm_ rs.length
   have KF:=hd_ (let ⟨f,hf⟩:=H.out.knownR';N.aG8 wr hf (j:Int));rw[<-hnl]at FE;rw[<-hnq]at hlb;have HNL:=hd_ hnl;have HNQ:=hd_ hnq;clear PA he bo pl hb hrs hlp ON wn AS RK WH OK K1 K4 HR NR N1 N5 hnl hnq
   go_wp2_with fail
   refine KF.out.mono ?_;rintro r w5 ⟨⟨u,rfl,hu⟩,hb5⟩;obtain⟨V,rfl⟩:∃V:SV,u=.tuple #[.agg #[iv en0,iv (b:Int),iv (nl:Int),.slice V.xr V.nr V.cr,.slice V.xf V.nf V.cf,.slice V.xt V.nt V.ct,iv s0.lo,iv s0.al,.slice V.xk V.nk V.ck,iv s0.ka],.bool true]:=by
    rcases hu with ⟨e',V,q1,_,q2⟩|⟨q1,_⟩
    ·rw[FE.out]at q1
     cases q1;exact⟨V,q2⟩
    ·rw[FE.out]at q1
     cases q1
   have h6:=(H.out.later hb5).alloc #[iv en0,iv (b:Int),iv (nl:Int),.slice V.xr V.nr V.cr,.slice V.xf V.nf V.cf,.slice V.xt V.nt V.ct,iv s0.lo,iv s0.al,.slice V.xk V.nk V.ck,iv s0.ka] 64;clear hb5 H KF FE hu;obtain⟨p7,hp⟩:=nm_ w5.heap.size
   obtain⟨W5,hW⟩:=nm_ (w5.alloc (.cells #[iv en0,iv (b:Int),iv (nl:Int),.slice V.xr V.nr V.cr,.slice V.xf V.nf V.cf,.slice V.xt V.nt V.ct,iv s0.lo,iv s0.al,.slice V.xk V.nk V.ck,iv s0.ka] 64));rw[<-hW, <-hp]at h6;have H8:=hd_ h6.drew;clear h6;go_upto_region 13 with fail
   rw[<-hW, <-hp];clear hW hp;obtain⟨w8,hw8⟩:=nm_ W5.drew;rw[<-hw8]at H8;have EW:=hd_ hw8;clear hw8;obtain⟨d0,d1,d2,d3,d4,d5,d6,d7,d8,d9⟩:=H8.out.cells10;obtain⟨q0,q1,q2,q3⟩:=H8.out.p2.cells4;obtain⟨f1,n1⟩:=H8.out.p3.nodesRd;obtain⟨f4,n4⟩:=H8.out.p6.pastRd;obtain⟨g1,xk,ck,fk,rfl,_,_,_,_,_,b0,_⟩:=N.cB n1 ND.out;obtain⟨g4,xr,cr,fr,rfl,_,_,rr,_,_,b1⟩:=N.jO n4 PD.out;rw[<-HRS.out]at rr b1
   obtain⟨g5,xl,cl,fl,rfl,_,_,_,_,_,b2⟩:=N.lH rr HLP.out;rw[HBN.out]at b0;rw[<-HNQ.out]at b1;rw[<-HNL.out]at b2;have j0:(0:Int)<=(j:Int):=o_;have j5':(j:Int)<5:=o_;have z0:(0:Int)<=(b:Int):=o_;have z1:(b:Int)<(nq:Int):=o_;clear rr n1 n4 d0 d3 d4 d5 d6 d7 d8 d9 q1 q2 HRS HLP HBN HNQ HNL ND PD hlb j5
   refine aC 27 (.take 0 (.take 1 (.take 2 (.take 3 (.take 4 (.take 5 (.take 6 (.take 7 (.take 8 (.take 9 (.take 10 (.take 11 (.take 12 (.take 13 (.take 14 (.take 15 (.take 16 (.take 17 (.take 18 (.take 19 (.take 20 (.take 21 (.take 22 (.take 23 (.take 24 (.take 25 (.take 26 (.alt 27 .done .nomore)))))))))))))))))))))))))))) (fun w'=>w'=w8) kr_ kr_ (fun _ _ _ _ _ h=>h) EW.out.symm ?_
   rw[<-EW.out]
   repeat (first|refine tA_ ?_|refine tB_ ?_)
   refine aB r_ (fun K' hK=>?_);refine hK _ _ (.inl rfl) ?_;clear hK K'
   try refine tP_ ?_
   refine aD ?_;go_wp2;go_ret;exact⟨rfl,H8.out.below⟩

/-! ### THE ROW's STEP:WRITTEN OUT:LEAVE IT -/
set_option maxRecDepth 100000 in
theorem lifted (os:Os) (started:os.Started) (H:Type) (enc:TypeId × Value->H):
  ReturnsInHanded {} Tryz.checked os 7 .any (Rows.fnNetKnownSpec.pre6 enc prog Tryz.f7 Rows.fnNetKnownRow.domain false) (Rows.fnNetKnownSpec.post enc prog Tryz.f7 false true false false):=by
 refine returnsInHanded_of_change (C:=Tryz.checked) own started kr_ func7
  (ChangeSpec.witness6 (enc:=enc) (C:=Tryz.checked) false ⟨#[],#[zn],[]⟩ 8 kr_ kr_ kr_ kr_) ?_
 intro W base args ds gs before hval0 hW hcnd _;have hval:∀(j:Nat) t v,Tryz.f7.params[j]? =some t->args[j]? =some v->Value.okWide prog W .any base t v:=hval0
 have hW':=hW;obtain⟨p,q,hA0,hV,rfl,hfz,hnd⟩:=hW;have hA:DataW.TrodAll enc prog W 0 (fun _=>true) true Tryz.f7.params.toList args.toList ds p:=hA0;rw[Tryz.params7]at hA hval;obtain⟨v0,vs0,d0,ds0,p0,q0,hargs,rfl,rfl,h0,r0⟩:=trodAll_cons hA;obtain⟨rfl,rfl,rfl⟩:=trodAll_nil r0;obtain rfl:args=#[v0]:=by cases args;simp_all
 obtain⟨rfl,rfl⟩:=trodVars_none hV;obtain⟨a0,len0,cap0,rfl⟩:=okWide_slice underlying22 (hval 0 22 v0 rfl rfl);have k0:=h0;have lt0:∀x ∈ p0,x.block<W.heap.size:=by obtain⟨m,hm⟩:=k0;exact DataW.trod_lt m _ _ _ hm
 obtain⟨z0,w0⟩:∃zs,aEe .u8 W a0 len0 cap0 zs:=by
  obtain⟨fuel,hf⟩:=h0;rcases open_ints underlying22 underlying5 kr_ hf with ⟨hcs,_⟩|⟨x,l,c,zs,hcs,_,hl,hm,hz,_,hcell,hwz⟩
  ·simp[Value.cells]at hcs
   obtain⟨rfl,rfl,rfl⟩:=hcs;exact⟨[],.inl ⟨rfl,rfl,rfl,rfl⟩⟩
  ·simp[Value.cells]at hcs
   obtain⟨rfl,rfl,rfl⟩:=hcs;exact⟨zs,.inr ⟨_,rfl,hl,hm,by simpa using hz,hcell,hwz⟩⟩
 clear hA0 hval0;refine (walk a0 len0 cap0 z0 W w0).mono fun e W' ⟨he,bel⟩=>?_
 subst he;exact⟨_,rfl,_,_,_,[],_,[],hW',trodAll_mk1 (shut_bool underlying4 _),(trodAll_cons_mk (Below.trod laidOut kr_ (of_decide_eq_true kr_) k0 bel lt0) trodAll_mk0),rfl,bel.frame _,fun h=>by cases h⟩
end Go.Proofs.YtcblbdpdbggkbaaGreat.fnNetKnown
