/-
  The walk of the law.
-/
import Derived.Deep.RegionHeld3
import Derived.Deep.RegionWith
import Derived.Deep.DeepCutAuto
import Derived.Test.YtcblbdpdbggkbaaGreatRows
import Derived.WalkKit
import Derived.ProofKit
import Derived.OpenShut
import Derived.ShutString
import Derived.ChangeOld
import Derived.Below
import Derived.Test.YtcblbdpdbggkbaaGreatSKn13
namespace Go.Proofs.YtcblbdpdbggkbaaGreat.fnNetOk
open _root_.Go.Proofs.Tryz
open Go.ChangeShapes Go.WideShapes Go.ChangeAt Go.RowKit
open Go.ChangeMaps (open_string shut_string)
set_option linter.unusedVariables false
set_option linter.unusedSimpArgs false

theorem own:ownKnob prog.godebug=none:=by kernel_rfl
theorem laidOut:laidOutB prog=true:=by kernel_rfl

/-- WHAT THE WALK IS TOLD OF A SLICE OF INTEGERS THAT CAME IN:it is nil;or it leads to a row of 'cap' cells,the numbers 'zs' (the first 'len' are its elements,the rest its spare room),each fitting its kind. -/
def aEe (k:IntKind) (w:World) (a:Option Addr) (len cap:Nat) (zs:List Int):Prop:=
 (a=none/\len=0/\cap=0/\zs=[])\/
 ∃x,a=some x/\len<=cap/\cap<=maxLen/\zs.length=cap/\(∀i,i<zs.length->w.cell? (x.add i)=some (.int k (zs.getD i 0)))/\∀n ∈ zs,(Lit.int k n).wf=true

/-! ### STEP 1:THE WALK:the Go text returns true,AND WRITES NOTHING THAT WAS THERE: 'Below w.heap.size w w'' (Derived/Below.lean: '.refl', '.alloc', '.drew', '.setCell' at a new block, '.trans'). Open each 'IsRow' by 'rcases' AHEAD of 'go_enter';part every test ahead of the walk. -/
theorem walk (a0:Option Addr) (len0 cap0:Nat) (z0:List Int) (w:World) (w0:aEe .u8 w a0 len0 cap0 z0):
  Calls prog 4 #[.slice a0 len0 cap0] w fun e w'=>e=.returned (.bool true)/\Below w.heap.size w w':=by
 obtain⟨hb,hl⟩:=aJf w a0 len0 cap0 z0 w0;rcases hl with hl|hl
 ·go_enter func4,ntmps4
  go_wp2;go_ret;exact⟨rfl,Below.refl _ _⟩
 have HB:=hd_ hb;have h0:=M.start w;obtain⟨B0,hB0⟩:=nm_ w.heap.size;rw[<-hB0]at HB h0 ⊢;clear hb w0 hB0;have H0:=hd_ h0;clear h0;go_enter func4,ntmps4
 go_wp2_with fail
 refine (N.aDw H0.out ⟨_,_,rfl⟩ HB.out).mono ?_;rintro r w1 ⟨v1,v2,v3,v4,n,rfl,n5,h1⟩;obtain⟨x1,c1,rfl,_⟩:=M.form h1;obtain⟨x2,c2,rfl,_⟩:=M.form h1.p1;obtain⟨x3,c3,rfl,_⟩:=M.form h1.p2;obtain⟨x4,c4,rfl,_⟩:=M.form h1.p3;obtain⟨k1,hk1⟩:=nm_ n.nodes.length;obtain⟨k2,hk2⟩:=nm_ n.links.length;obtain⟨k3,hk3⟩:=nm_ n.words.length;obtain⟨k4,hk4⟩:=nm_ n.past.length;rw[<-hk1, <-hk2, <-hk3, <-hk4]at h1 ⊢
 have K2:=hd_ hk2;have K3:=hd_ hk3;clear hk2 hk3 hk4;have h2:=h1.alloc #[.slice x1 k1 c1,.slice x2 k2 c2,.slice x3 k3 c3,.slice x4 k4 c4] 30;obtain⟨q,hq⟩:=nm_ w1.heap.size;obtain⟨W1,hW1⟩:=nm_ (w1.alloc (.cells #[.slice x1 k1 c1,.slice x2 k2 c2,.slice x3 k3 c3,.slice x4 k4 c4] 30));rw[<-hW1, <-hq]at h2;have H2:=hd_ h2;clear h1 h2 H0;obtain⟨bo,hbo⟩:=nm_ (N.jF n);have BO:=hd_ hbo
 have K1:=hd_ (hk1.trans n5);clear hk1 n5;have eb:(bo != bo)=false:=by cases bo<;>rfl
 have ec:(bo==bo)=true:=by cases bo<;>rfl
 clear hbo;go_upto_region 4 with fail
 rw[<-hW1, <-hq];clear hW1 hq;obtain⟨a0',a1,a2,a3⟩:=H2.out.cells4;have KI:=hd_ (N.aAJ W1 (M.rdNet (b:=.bool true) H2.out));rw[<-BO.out]at KI
 go_wp2_with fail
 refine KI.out.mono ?_;rintro r w2 ⟨rfl,hb⟩;have H3:=hd_ (H2.out.later hb);clear hb H2 KI a0' a1 a2 a3;obtain⟨a0',a1,a2,a3⟩:=H3.out.cells4;have KI:=hd_ (N.oA w2 (M.rdNet (b:=.bool true) H3.out));rw[<-BO.out]at KI
 go_wp2_with fail
 refine KI.out.mono ?_;rintro r w3 ⟨rfl,hb⟩;have H4:=hd_ (H3.out.later hb);clear hb H3 KI a0' a1 a2 a3;cases bo with
 |false=>
  obtain⟨a0',a1,a2,a3⟩:=H4.out.cells4;have KI:=hd_ (N.oA w3 (M.rdNet (b:=.bool true) H4.out));rw[<-BO.out]at KI
  go_wp2_with fail
  refine KI.out.mono ?_;rintro r w4 ⟨rfl,hb⟩;have H5:=hd_ (H4.out.later hb);clear hb H4 KI a0' a1 a2 a3;go_wp2;go_ret;exact⟨rfl,H5.out.below⟩
 |true=>
  have OK:=hd_ (N.hZ.1 BO.out.symm);obtain rfl:k2=25:=K2.out.trans OK.out.links;clear K2 BO;go_wp2;go_loopw [5] (fun z wr=>∃a:Nat,a<=5/\z=.int .i64 (a:Int)/\M B0 w wr [aL q 30 #[.slice x1 k1 c1,.slice x2 25 c2,.slice x3 k3 c3,.slice x4 k4 c4],N.bE (.slice x1 k1 c1) n.nodes,N.bY (.slice x2 25 c2) n.links,N.bG (.slice x3 k3 c3) n.words,N.dN (.slice x4 k4 c4) n.past]) (fun z _=>5 - (intOf z).toNat)
  case atStart=>exact⟨0,o_,rfl,H4.out⟩
  case round=>
   clear H4;obtain⟨a,ha,rfl,hm⟩:=hrel;have H:=hd_ hm;clear hm
   by_cases hlt:(a:Int)<5
   ·go_wp2
    go_loopw [6] (fun z wr=>∃b:Nat,b<=5/\z=.int .i64 (b:Int)/\M B0 w wr [aL q 30 #[.slice x1 k1 c1,.slice x2 25 c2,.slice x3 k3 c3,.slice x4 k4 c4],N.bE (.slice x1 k1 c1) n.nodes,N.bY (.slice x2 25 c2) n.links,N.bG (.slice x3 k3 c3) n.words,N.dN (.slice x4 k4 c4) n.past]) (fun z _=>5 - (intOf z).toNat)
    case atStart=>exact⟨0,o_,rfl,H.out⟩
    case round=>
     clear H;obtain⟨b,hb',rfl,hm⟩:=hrel;have H3:=hd_ hm.drew;have H:=hd_ hm;clear hm
     by_cases hlt2:(b:Int)<5
     ·clear H
      obtain⟨w8,hw8⟩:=nm_ wr.drew;rw[<-hw8]at H3;have EW:=hd_ hw8;clear hw8;have na:N.aE (a:Int):=⟨o_,o_⟩
      have nb:N.aE (b:Int):=⟨o_,o_⟩
      obtain⟨g,gx,_,l0⟩:∃g,x2=some ⟨g,0,none⟩/\g<w8.heap.size/\w8.cell? ⟨g,a * 5+b,none⟩=some (.bool (N.whole n a b)):=by
       obtain⟨_,r2⟩:=H3.out.p2.linksRd;exact N.mX r2 (N.wJ OK.out.links na nb o_)
      subst gx;obtain⟨_,gx,_,l1⟩:∃g',(some ⟨g,0,none⟩:Option Addr)=some ⟨g',0,none⟩/\g'<w8.heap.size/\w8.cell? ⟨g',b * 5+a,none⟩=some (.bool (N.whole n b a)):=by
       obtain⟨_,r2⟩:=H3.out.p2.linksRd;exact N.mX r2 (N.wJ OK.out.links nb na o_)
      cases gx;rw[<-OK.out.either a b na nb]at l1;rw[<-show ((a:Int) * 5+(b:Int)).toNat=a * 5+b by omega]at l0;rw[<-show ((b:Int) * 5+(a:Int)).toNat=b * 5+a by omega]at l1;have SF:=hd_ (OK.out.self a na);have bw:IntKind.i64.wrap ((a:Int) * 5)=(a:Int) * 5:=IntWalk.i64_in _ o_;have bu:IntKind.i64.wrap ((a:Int) * 5+(b:Int))=(a:Int) * 5+(b:Int):=IntWalk.i64_in _ o_
      have bw':IntKind.i64.wrap ((b:Int) * 5)=(b:Int) * 5:=IntWalk.i64_in _ o_;have bu':IntKind.i64.wrap ((b:Int) * 5+(a:Int))=(b:Int) * 5+(a:Int):=IntWalk.i64_in _ o_;have bk:IntKind.i64.wrap ((b:Int)+1)=(b:Int)+1:=IntWalk.i64_in _ o_;have u0:(0:Int)<=(a:Int) * 5+(b:Int):=o_;have u1:(a:Int) * 5+(b:Int)<25:=o_;have u0':(0:Int)<=(b:Int) * 5+(a:Int):=o_;have u1':(b:Int) * 5+(a:Int)<25:=o_
      obtain⟨wh,hwh⟩:=nm_ (N.whole n a b);rw[<-hwh]at l0 l1;have WH:=hd_ hwh;have ew:(wh != wh)=false:=by cases wh<;>rfl
      obtain⟨a0',a1,a2,a3⟩:=H3.out.cells4;clear hwh na nb;go_upto_region 13 with fail
      by_cases eab:a=b
      ·subst eab
       obtain rfl:wh=false:=by rw[WH.out];exact SF.out
       refine aC 99 (.take 0 (.take 1 (.take 2 (.take 3 (.take 4 (.take 5 (.take 6 (.take 7 (.take 8 (.take 9 (.take 10 (.take 11 (.take 12 (.take 13 (.take 14 (.take 15 (.take 16 (.take 17 (.take 18 (.take 19 (.take 20 (.take 21 (.take 22 (.take 23 (.take 24 (.take 25 (.take 26 (.take 27 (.take 28 (.take 29 (.take 30 (.take 31 .done)))))))))))))))))))))))))))))))) (fun w'=>w'=w8) kr_ kr_ (fun _ _ _ _ _ h=>h) EW.out.symm ?_
       rw[<-EW.out]
       repeat (first|refine tA_ ?_|refine tB_ ?_)
       refine aD ?_;clear a0' a1 a2 a3 l0 l1;go_wp2;go_roundw
       case rel=>exact⟨a+1,o_,gn_,H3.out⟩
       case measure=>simp[intOf];omega
      ·have eab':¬(a:Int)=(b:Int):=o_
       have eab2:((a:Int)==(b:Int))=false:=by simpa using eab'
       refine aC 99 (.take 0 (.take 1 (.take 2 (.take 3 (.take 4 (.take 5 (.take 6 (.take 7 (.take 8 (.take 9 (.take 10 (.take 11 (.take 12 (.take 13 (.take 14 (.take 15 (.take 16 (.take 17 (.take 18 (.take 19 (.take 20 (.take 21 (.take 22 (.take 23 (.take 24 (.take 25 (.take 26 (.take 27 (.take 28 (.take 29 (.take 30 (.take 31 .done)))))))))))))))))))))))))))))))) (fun w'=>w'=w8) kr_ kr_ (fun _ _ _ _ _ h=>h) EW.out.symm ?_
       rw[<-EW.out]
       repeat (first|refine tA_ ?_|refine tB_ ?_)
       refine aD ?_;clear a0' a1 a2 a3 l0 l1;go_wp2;go_roundw
       case rel=>exact⟨b+1,o_,gn_,H3.out⟩
       case measure=>simp[intOf];omega
     ·clear H3
      have bj:IntKind.i64.wrap ((a:Int)+1)=(a:Int)+1:=IntWalk.i64_in _ o_;go_wp2;go_roundw
      case rel=>exact⟨a+1,o_,gn_,H.out⟩
      case measure=>simp[intOf];omega
   ·obtain⟨a0',a1,a2,a3⟩:=H.out.cells4
    obtain⟨f1,hf1⟩:=H.out.p1.nodesRd;obtain⟨g1,_,_,_,rfl,_,_,_,_,_,_,_,_,d3,_⟩:=N.cB hf1 (N.eY (i:=0) OK.out.nodes o_);rw[show ((0:Nat):Int)=0 from rfl,((OK.out.way 0 ⟨o_,o_⟩).root rfl).1]at d3;replace d3:wr.cell? ⟨g1,3,none⟩=some (.int .i64 0):=d3;obtain rfl:k1=5:=K1.out;have k3b:(k3:Int)<=24:=by have:=OK.out.words;have:=K3.out;omega
    go_wp2;go_ret;exact⟨rfl,H.out.below⟩

/-! ### THE ROW's STEP:WRITTEN OUT:LEAVE IT -/
set_option maxRecDepth 100000 in
theorem lifted (os:Os) (started:os.Started) (H:Type) (enc:TypeId × Value->H):
  ReturnsInHanded {} Tryz.checked os 4 .any (Rows.fnNetOkSpec.pre6 enc prog Tryz.f4 Rows.fnNetOkRow.domain false) (Rows.fnNetOkSpec.post enc prog Tryz.f4 false true false false):=by
 refine returnsInHanded_of_change (C:=Tryz.checked) own started kr_ func4
  (ChangeSpec.witness6 (enc:=enc) (C:=Tryz.checked) false ⟨#[],#[zn],[]⟩ 8 kr_ kr_ kr_ kr_) ?_
 intro W base args ds gs before hval0 hW hcnd _;have hval:∀(j:Nat) t v,Tryz.f4.params[j]? =some t->args[j]? =some v->Value.okWide prog W .any base t v:=hval0
 have hW':=hW;obtain⟨p,q,hA0,hV,rfl,hfz,hnd⟩:=hW;have hA:DataW.TrodAll enc prog W 0 (fun _=>true) true Tryz.f4.params.toList args.toList ds p:=hA0;rw[Tryz.params4]at hA hval;obtain⟨v0,vs0,d0,ds0,p0,q0,hargs,rfl,rfl,h0,r0⟩:=trodAll_cons hA;obtain⟨rfl,rfl,rfl⟩:=trodAll_nil r0;obtain rfl:args=#[v0]:=by cases args;simp_all
 obtain⟨rfl,rfl⟩:=trodVars_none hV;obtain⟨a0,len0,cap0,rfl⟩:=okWide_slice underlying22 (hval 0 22 v0 rfl rfl);have k0:=h0;have lt0:∀x ∈ p0,x.block<W.heap.size:=by obtain⟨m,hm⟩:=k0;exact DataW.trod_lt m _ _ _ hm
 obtain⟨z0,w0⟩:∃zs,aEe .u8 W a0 len0 cap0 zs:=by
  obtain⟨fuel,hf⟩:=h0;rcases open_ints underlying22 underlying5 kr_ hf with ⟨hcs,_⟩|⟨x,l,c,zs,hcs,_,hl,hm,hz,_,hcell,hwz⟩
  ·simp[Value.cells]at hcs
   obtain⟨rfl,rfl,rfl⟩:=hcs;exact⟨[],.inl ⟨rfl,rfl,rfl,rfl⟩⟩
  ·simp[Value.cells]at hcs
   obtain⟨rfl,rfl,rfl⟩:=hcs;exact⟨zs,.inr ⟨_,rfl,hl,hm,by simpa using hz,hcell,hwz⟩⟩
 clear hA0 hval0;refine (walk a0 len0 cap0 z0 W w0).mono fun e W' ⟨he,bel⟩=>?_
 subst he;exact⟨_,rfl,_,_,_,[],_,[],hW',trodAll_mk1 (shut_bool underlying4 _),(trodAll_cons_mk (Below.trod laidOut kr_ (of_decide_eq_true kr_) k0 bel lt0) trodAll_mk0),rfl,bel.frame _,fun h=>by cases h⟩
end Go.Proofs.YtcblbdpdbggkbaaGreat.fnNetOk
