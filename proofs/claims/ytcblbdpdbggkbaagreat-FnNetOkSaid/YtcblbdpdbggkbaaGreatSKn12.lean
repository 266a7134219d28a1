/-
  What the laws of Kn need of the texts before it, part 12.
-/
import Derived.ArgAppend
import Derived.BigQuiet
import Derived.Carry
import Derived.ChangeSame
import Derived.Deep.AppendLies
import Derived.Deep.Cut
import Derived.Deep.DeepCutAuto
import Derived.Deep.DrawnRows
import Derived.Deep.Fields
import Derived.Deep.Matrix
import Derived.Deep.MidRow
import Derived.Deep.OwnRows
import Derived.Deep.QuietTactic
import Derived.Deep.RegionHeld3
import Derived.Deep.RegionLaw
import Derived.Deep.RegionLawGrows
import Derived.Deep.RegionWith
import Derived.Deep.Slices
import Derived.Deep.WholeRow
import Derived.DeepKeys5
import Derived.Handy
import Derived.IntWalk
import Derived.KernelRfl
import Derived.Laws.AppendOwnNone
import Derived.Laws.EntriesVeiled
import Derived.Laws.ResultCell
import Derived.Lib.AppendZerosOnto
import Derived.Lib.Hide
import Derived.Lib.QuietBelow
import Derived.Lib.SliceRun
import Derived.Lib.SmallJoins
import Derived.Lib.Walk
import Derived.LoopIn
import Derived.LoopN
import Derived.LoopNIn
import Derived.Maps.AppendAt
import Derived.Maps.Keyed
import Derived.Maps.Own
import Derived.OneCell
import Derived.OpenShut
import Derived.OrdersHeld
import Derived.OwnWalkIn
import Derived.RangeFuncBound
import Derived.RangeFuncBox
import Derived.RangeFuncCalls
import Derived.RangeFuncLeaves
import Derived.RangeFuncNested
import Derived.RegionTactic
import Derived.Shelf.Abstract
import Derived.Shelf.RegionOpen
import Derived.Shelf.SlSortCmp.InsertionK
import Derived.StillTail
import Derived.TacticsInMore
import Derived.Test.YtcblbdpdbggkbaaGreatRows
import Derived.WalkKit
import Derived.WalkLawsBesides
import Derived.WalkSmall
import Derived.WalkSpells
import Derived.Test.YtcblbdpdbggkbaaGreatSKn11
set_option maxRecDepth 100000
set_option maxHeartbeats 16000000
set_option linter.unusedVariables false
set_option linter.unusedSectionVars false
set_option linter.unusedSimpArgs false
namespace Go.Proofs.YtcblbdpdbggkbaaGreat
theorem zh {P:Prop} (h:P:=by
 subst hc;have k3':(k:Int)<=(k:Int)+1:=o_;have k5':(nw:Int)<=(k:Int)+1:=o_;clear k3 k5
 refine aC 22 (.take 0 (.tk 2 7 (.tk 10 8 (.alt 1 (.alt 9 (.alt 18 (.tk 19 3 (.alt 22 .done .nomore)) .nomore) .nomore) .nomore)))) (fun w'=>aH w' (b4L p (.slice x1 m.nodes.length c1) (.slice x2 m.links.length c2) (.slice (some ⟨g,0,none⟩) nw (k+1)) (.slice x4 m.past.length c4))) kr_ kr_ (fun _ _ _ _ _ h=>h) (S0.out.below (Below.drew (Below.refl _ _))) ?_
 rw[<-EV.out]
 repeat (first|refine tC_ ?_|refine tB_ ?_)
 have n1:=((M.start V).alloc #[] 123).empty (aG yH) 6;refine aB r_ (fun K hK=>?_);go_simp;refine hK _ _ (.inr (S1.out.below n1.below)) ?_;clear hK K
 try refine tP_ ?_
 refine aB r_ (fun K hK=>bR sC gZ mD n1 (R1.out _ n1.below _) r_ r_ r_ r_ (by rw[List.length_nil,List.length_take,RL.out];unfold maxLen;omega) (by rw[List.length_nil,List.length_take,RL.out];omega) (N:=k) (by rw[List.length_nil,List.length_take,RL.out];omega) (fun y1 cap1 v1 n2=>?_));rw[List.nil_append]at n2
 refine hK _ _ (.inr (S1.out.below n2.below)) ?_;clear hK K
 try refine tP_ ?_
 refine aB r_ (fun K hK=>bR sC gZ mD n2 (by have z:=R2.out _ n2.below 0 ⟨g,0,none⟩ (.inl o_);rwa[show nw - (k+1)=0 by omega]at z) r_ r_ r_ r_ (by rw[List.length_take,List.length_drop,RL.out];unfold maxLen;omega) (by rw[List.length_take,List.length_drop,RL.out];omega) (N:=nw - 1) (by rw[List.length_take,List.length_drop,RL.out];omega) (fun y2 cap2 v2 n3=>?_))
 refine hK _ _ (.inr (S1.out.below n3.below)) ?_;clear hK K
 try refine tP_ ?_
 repeat (first|refine tC_ ?_|refine tB_ ?_)
 have h7:=(FI.out _ _ _ n3).p1;obtain⟨a0,a1,a2,a3⟩:=h7.cells4;have af:=h7.free;have h8:=h7.set (i:=2) (.slice y2 (nw - 1) cap2);simp only[List.setIfInBounds_toArray,List.set_cons_zero,List.set_cons_succ]at h8;have H8:=hd_ h8;clear n1 n2 h7 h8;refine aB r_ (fun K hK=>?_);go_simp;refine hK _ _ (.inl rfl) ?_;clear hK K
 try refine tP_ ?_
 refine aD ?_;obtain⟨w5,hw5⟩:=nm_ (v2.setCell ⟨p,2,none⟩ (.slice y2 (nw - 1) cap2));rw[<-hw5]at H8 ⊢;clear hw5 a0 a1 a2 a3 af n3;go_wp2;go_ret;rw[Y1.out];exact⟨rfl,(H8.out.p5.drop.p3.p3.p2).unlive⟩):P:=h
theorem zAc {P:Prop} (h:P:=by
 clear hin
 go_wp2_with fail
 refine KS.out.mono ?_;rintro r w2 ⟨rfl,n',hn',h2⟩;have H2:=hd_ h2;have HN:=hd_ hn';rw[<-E.out]at HN ⊢;clear h2 hn' KS H E;go_wp2;go_ret;exact⟨rfl,n',HN.out,H2.out.p1.drop⟩):P:=h
theorem zAn {P:Prop} (h:P:=by
 exact⟨a0,a1,a2,a3,trivial⟩):P:=h
theorem zAp {P:Prop} (h:P:=by
 go_wp2_with fail
 refine KO.out.mono ?_;rintro r w1 ⟨rfl,hb1⟩;have H:=hd_ (H0.out.later hb1);clear hb1 KO H0 b0 b1 b2 b3;obtain⟨a0,a1,a2,a3⟩:=H.out.cells4;have af:=H.out.free;have F:=hd_ (H.out.set4 zn zn zn zn);clear H;go_wp2;obtain⟨e0,e1,e2,e3⟩:=F.out.cells4
 (try simp only[Exit.inBlock,Exit.then])
 refine bodyPost_ret (v:=.tuple #[.agg #[zn,zn,zn,zn],.bool false]) (by simp[results,results202,go_sem,e0,e1,e2,e3]) rfl ?_;rw[E.out];exact tO F.out):P:=h
theorem zAu {P:Prop} (h:P:=by
 clear hin o1 nn;unfold jG at KH
 go_wp2_with fail
 refine KH.out.mono ?_;rintro r0 w2 ⟨rfl,h2⟩;have KA:=hd_ (sQ h2 O1.out);unfold jG at KA;clear h2 KH H
 go_wp2_with fail
 refine KA.out.mono ?_;rintro r1 w3 ⟨rfl,h3⟩;have H3:=hd_ h3;have O3:=hd_ (xH O1.out);clear h3 KA;go_wp2;go_roundw
 case rel=>exact⟨k+1,o_,gn_,by rw[PX.out];exact O3.out,by rw[PX.out];exact H3.out⟩
 case measure=>simp[intOf];omega):P:=h
theorem zAE {P:Prop} (h:P:=by
 obtain⟨a0,a1,a2,a3⟩:=H.out.cells4;have af:=H.out.free;have F:=hd_ (H.out.set4 zn zn zn zn);clear H;go_wp2;obtain⟨e0,e1,e2,e3⟩:=F.out.cells4
 (try simp only[Exit.inBlock,Exit.then])
 refine bodyPost_ret (v:=.tuple #[.agg #[zn,zn,zn,zn],.bool false]) (by simp[results,results204,go_sem,e0,e1,e2,e3]) rfl ?_;rw[E.out];exact tO F.out):P:=h
theorem zAI {P:Prop} (h:P:=by
 go_wp2_with fail
 refine KS.out.mono ?_;rintro r w2 ⟨rfl,h2⟩;have H2:=hd_ h2;clear h2 KS H;go_wp2;go_ret;rw[E.out];exact pW ⟨rfl,H2.out.p1.drop⟩):P:=h
theorem zA2 {P:Prop} (h:P:=by
 simp only[List.setIfInBounds_toArray,List.set_cons_zero,List.set_cons_succ]at h7;have H7:=hd_ h7;clear h7;go_roundw
 case rel=>exact⟨j+1,d9,y9,o_,gn_,by rw[ST.out];exact H7.out⟩
 case measure=>simp[intOf];omega):P:=h
theorem zBm {P:Prop} (h:P:=by
 go_wp2;go_roundw
 case rel=>exact⟨r+1,o_,gn_,by rw[<-PX.out];exact OK.out,by rw[<-PX.out];exact H.out⟩
 case measure=>simp[intOf];omega):P:=h
theorem zBE {P:Prop} (h:P:=by
 have Y1:=hd_ (YES.out.trans (by rw[if_pos rfl]));go_wp2;go_ret;rw[Y1.out];exact⟨rfl,H5.out.p1.drop⟩):P:=h
end Go.Proofs.YtcblbdpdbggkbaaGreat
namespace Go.Proofs.YtcblbdpdbggkbaaGreat
open _root_.Go.Proofs.Tryz
open Go.RowKit Go.Sort
namespace N
section
variable {B:Nat} {w0 w:World} {l:List Ch} {p:Nat}
theorem aDZ {ks:List En} {j:Nat} {e:En} (h:ks[j]? =some e) (es:List En) (i:Int):dJ es i (ks.take (j+1))=if e.node=i then dJ es i (ks.take j)else fP (dJ es i (ks.take j)) e:=by
 rw[lX h];unfold dJ;rw[List.foldl_append]
 rfl
theorem aGl (es:List En) (i:Int):∀(ks:List En),(dJ es i ks).length<=es.length+ks.length:=by
 intro ks
 induction ks generalizing es with
 |nil=>exact Nat.le_refl _
 |cons e ks ih=>
  have h1:dJ es i (e::ks)=dJ (if e.node=i then es else fP es e) i ks:=rfl;rw[h1,List.length_cons];have h3:=aGu es e
  by_cases hh:e.node=i
  ·rw[if_pos hh];have h2:=ih es;omega
  ·rw[if_neg hh];have h2:=ih (fP es e);omega
theorem _root_.Go.Proofs.YtcblbdpdbggkbaaGreat.M.pullC {k:Nat} {v:Value} {es:List En} {x:En} {c:Nat->List Value} (h:M B w0 w (nY k v es c::l)) (hk:es[k]? =some x):∃V,M B w0 w (aHi V x::nY (k+1) v es c::l)/\c k=[.int .i64 x.node,.int .i64 x.born,.int .i64 x.num,.slice V.xr V.nr V.cr,.slice V.xf V.nf V.cf,.slice V.xt V.nt V.ct,.int .i64 (x.s).lo,.int .i64 (x.s).al,.slice V.xk V.nk V.ck,.int .i64 (x.s).ka]:=by
 have h1:=M.pull h hk;obtain⟨f,hf,_⟩:=h1.first;obtain⟨cs,ec,hs⟩:=jU.1 hf;obtain⟨V,_,_,_,_,rfl,_⟩:=hs;rw[ec]at h1;exact⟨V,h1,ec⟩
theorem _root_.Go.Proofs.YtcblbdpdbggkbaaGreat.M.cellsE {k j g n cap:Nat} {es:List En} {x:En} {V:SV} {c:Nat->List Value} (h:M B w0 w (nY k (.slice (some ⟨g,0,none⟩) n cap) es c::l)) (hj:es[j]? =some x) (hc:c j=[.int .i64 x.node,.int .i64 x.born,.int .i64 x.num,.slice V.xr V.nr V.cr,.slice V.xf V.nf V.cf,.slice V.xt V.nt V.ct,.int .i64 (x.s).lo,.int .i64 (x.s).al,.slice V.xk V.nk V.ck,.int .i64 (x.s).ka]):aH w (uB g j V x):=by
 obtain⟨g',cap',ev,_,_,_,hl⟩:=M.lrow h (List.getElem?_eq_some_iff.1 hj).1;obtain⟨e1,_,e2⟩:=Value.slice.inj ev;cases e1;rw[hc]at hl;exact⟨hl 0 _ rfl,hl 1 _ rfl,hl 2 _ rfl,hl 3 _ rfl,hl 4 _ rfl,hl 5 _ rfl,hl 6 _ rfl,hl 7 _ rfl,hl 8 _ rfl,hl 9 _ rfl,trivial⟩
theorem aBT {n:Nt} {x:Wd} {y:Option Addr} {k cy:Nat} {d:Nat} (h:M B w0 w (cU p n::eQ (.slice y k cy) x.known::l)) (hs:oP n) (hd:x.dst=(d:Int)) (d5:d<5) (hk:x.kind=2) (hl:(aA n (d:Int)).known.length<=1000) (hm:x.known.length<=1000):
  Calls prog 306 #[jG p,.agg #[iv 2,iv x.src,iv (d:Int),iv x.beacon,iv x.level,.slice y k cy]] w fun r w'=>r=.returned (.tuple #[])/\M B w0 w' (cU p (aQ n x)::l):=by
 obtain⟨kind,src,dst,beacon,level,ks⟩:=x;simp only at h hd hk hm ⊢;subst hk hd;obtain⟨y',cy',ev,_,cm⟩:=h.p1.form;cases ev;obtain⟨nd,hnd⟩:=nm_ (aA n (d:Int));have gx:=eY hs.nodes d5;rw[<-hnd]at gx hl;have HE:Hid (aQ n ⟨2,src,(d:Int),beacon,level,ks⟩={ n with nodes:=n.nodes.set d { nd with known:=dJ nd.known (d:Int) ks } }):=hd_ (by
    unfold aQ fB
    simp only[if_true, <-hnd]
    rfl)
 obtain⟨c,hL⟩:=M.loose aP h.p1;have h0:=hL.p1.alloc #[iv 2,iv src,iv (d:Int),iv beacon,iv level,.slice y ks.length cy] 123;obtain⟨pw,hpw⟩:=nm_ w.heap.size;obtain⟨W0,hW0⟩:=nm_ (w.alloc (.cells #[iv 2,iv src,iv (d:Int),iv beacon,iv level,.slice y ks.length cy] 123));rw[<-hW0, <-hpw]at h0;obtain⟨ns,ls,ws,ps⟩:=n;obtain⟨hs1,hs2,hs3,hs4⟩:=hs;simp only at hs1 hs2 hs3 hs4 gx
 obtain⟨x1,c1,x2,c2,x3,c3,x4,c4,h1⟩:=h0.p1.live;simp only at h1;rw[hs1]at h1;obtain⟨f1,hf1⟩:=h1.p1.nodesRd;obtain⟨g1,xk,ck,fk,rfl,_,_,kr,_,_,d0,d1,d2,d3,d4⟩:=cB hf1 gx;have e0:ns.set d { nd with known:=dJ nd.known (d:Int) (ks.take 0) }=ns:=by
  obtain⟨hd,e⟩:=List.getElem?_eq_some_iff.1 gx;exact (by rw[<-e];exact List.set_getElem_self hd)
 obtain⟨n',hn⟩:=nm_ ks.length;rw[<-hn]at h1 hm ⊢
 have H1:=hd_ (show M B w0 W0 (bE (.slice (some ⟨g1,0,none⟩) 5 c1) (ns.set d { nd with known:=dJ nd.known (d:Int) (ks.take 0) })::nY 0 (.slice y n' cy) ks c::aL p 289 #[.slice (some ⟨g1,0,none⟩) 5 c1,.slice x2 ls.length c2,.slice x3 ws.length c3,.slice x4 ps.length c4]::aL pw 123 #[iv 2,iv src,iv (d:Int),iv beacon,iv level,.slice y n' cy]::bY (.slice x2 ls.length c2) ls::bG (.slice x3 ws.length c3) ws::dN (.slice x4 ps.length c4) ps::l)from by rw[e0];exact h1.p5.p6.p1.p2.p2.p3)
 have GX:=hd_ gx;have HN:=hd_ hn;have HK:=hd_ hl;have i0:(0:Int)<=(d:Int):=o_;have i1:(d:Int)<5:=o_;clear h h0 h1 hnd gx hf1 kr d0 d1 d2 d3 d4 hs1 hs2 hs3 hs4 e0 hn hl hL;rw[<-HN.out]at hW0;unfold jG;go_enter func306,ntmps306;go_upto_region 1 with fail
 rw[<-hW0, <-hpw];clear hW0 hpw;obtain⟨b0,b1,b2,b3,b4,b5⟩:=H1.out.p3.cells6;go_wp2;clear b0 b1 b2 b3 b4 b5
 go_loopw [4] (fun z wr=>∃(j:Nat),j<=n'/\z=.int .i64 (j:Int)/\M B w0 wr (bE (.slice (some ⟨g1,0,none⟩) 5 c1) (ns.set d { nd with known:=dJ nd.known (d:Int) (ks.take j) })::nY j (.slice y n' cy) ks c::aL p 289 #[.slice (some ⟨g1,0,none⟩) 5 c1,.slice x2 ls.length c2,.slice x3 ws.length c3,.slice x4 ps.length c4]::aL pw 123 #[iv 2,iv src,iv (d:Int),iv beacon,iv level,.slice y n' cy]::bY (.slice x2 ls.length c2) ls::bG (.slice x3 ws.length c3) ws::dN (.slice x4 ps.length c4) ps::l)) (fun z _=>n' - (intOf z).toNat)
 case atStart=>exact⟨0,Nat.zero_le _,rfl,H1.out⟩
 case round=>
  clear H1;obtain⟨j,hj,rfl,hM⟩:=hrel;have H:=hd_ hM;clear hM;obtain⟨b0,b1,b2,b3,b4,b5⟩:=H.out.p3.cells6
  by_cases hlt:j<n'
  case neg=>
   obtain rfl:j=n':=o_;have TT:Hid (ks.take j=ks):=hd_ (by rw[HN.out];exact List.take_length);rw[TT.out]at H;go_wp2
   (try simp only[Exit.inBlock,Exit.then])
   refine bodyPost_ret (v:=.tuple #[]) (by simp[results,results306,go_sem]) rfl ?_;rw[HE.out];exact⟨rfl,(H.out.p1.drop.p2.drop.p1).unlive⟩
  clear b0 b1 b2 b3 b4 b5;obtain⟨e,he⟩:∃e,ks[j]? =some e:=⟨_,List.getElem?_eq_getElem (by have:=HN.out;omega)⟩
  obtain⟨gy,cap,ev,z0,z1,z2⟩:=M.peekE H.out.p1 lr_ he;obtain⟨e1,e3,e2⟩:=Value.slice.inj ev;cases e1;cases e2;clear ev z1 z2 e3;have PN:=hd_ (aDZ he nd.known (d:Int));have PL:Hid ((dJ nd.known (d:Int) (ks.take j)).length<=1048576):=hd_ (by have h1:=aGl nd.known (d:Int) (ks.take j);have h2:=List.length_take_le j ks;have h3:=HK.out;omega);have HEE:=hd_ he
  have j0:(0:Int)<=(j:Int):=o_;have j1:(j:Int)<(n':Int):=o_;obtain⟨b0,b1,b2,b3,b4,b5⟩:=H.out.p3.cells6;have S0:Hid (aH wr (b6L pw (iv 2) (iv src) (iv (d:Int)) (iv beacon) (iv level) (.slice (some ⟨gy,0,none⟩) n' cy)++[(⟨gy,j * 10,none⟩,.int .i64 e.node)])):=hd_ ⟨b0,b1,b2,b3,b4,b5,z0,trivial⟩;go_wp2;clear b0 b1 b2 b3 b4 b5 z0 he
  refine aC 99 (.tk 0 9 .done) (fun w'=>aH w' (b6L pw (iv 2) (iv src) (iv (d:Int)) (iv beacon) (iv level) (.slice (some ⟨gy,0,none⟩) n' cy)++[(⟨gy,j * 10,none⟩,.int .i64 e.node)])) kr_ kr_ (fun _ _ _ _ _ h=>h) (S0.out.below (Below.drew (Below.refl _ _))) ?_
  repeat (first|refine tC_ ?_|refine tB_ ?_)
  refine aD ?_;have h0:=H.out.drew;obtain⟨W,hW⟩:=nm_ wr.drew;rw[<-hW]at h0 ⊢;clear hW H S0;obtain⟨U,hp,hcj⟩:=M.pullC h0.p1 HEE.out;have CJ:=hd_ hcj;clear hcj
  by_cases hne:e.node=(d:Int)
  case pos=>
   have gne:(e.node != (d:Int))=false:=by simpa using hne
   have PE:=hd_ (PN.out.trans (if_pos hne));have H2:=hd_ (hp.drop.p1);clear hp h0 hne CJ;go_wp2;go_roundw
   case rel=>exact⟨j+1,o_,gn_,by rw[PE.out];exact H2.out⟩
   case measure=>simp[intOf];omega
  have gne:(e.node != (d:Int))=true:=by simpa using hne
  have PE:=hd_ (PN.out.trans (if_neg hne));clear hne PN;obtain⟨yk,cyk,h6⟩:=M.openKnown hp.p2 (oE GX.out _);simp only at h6;have gk:=h6.p1.hcell (i:=d) (j:=1) (by rw[List.length_set];exact (List.getElem?_eq_some_iff.1 GX.out).1) rfl;obtain⟨c0,c1',c2',c3'⟩:=h6.p4.cells4;obtain⟨b0,b1,b2,b3,b4,b5⟩:=h6.p5.cells6
  have S1:Hid (aH W (b4L p (.slice (some ⟨g1,0,none⟩) 5 c1) (.slice x2 ls.length c2) (.slice x3 ws.length c3) (.slice x4 ps.length c4)++(b6L pw (iv 2) (iv src) (iv (d:Int)) (iv beacon) (iv level) (.slice (some ⟨gy,0,none⟩) n' cy)++([(⟨g1,d * 5+1,none⟩,.slice yk (dJ nd.known (d:Int) (ks.take j)).length cyk)]++uB gy j U e)))):=hd_ ⟨c0,c1',c2',c3',b0,b1,b2,b3,b4,b5,gk,M.cellsE h6.p3 HEE.out CJ.out⟩
  have h7:=(h6.p2.p1).drew;have S2:=hd_ (S1.out.below (Below.drew (Below.refl _ _)));clear b0 b1 b2 b3 b4 b5 c0 c1' c2' c3' gk hp h0;obtain⟨W5,hW5⟩:=nm_ W.drew;rw[<-hW5]at h7 S2;have EW:=hd_ hW5;have KP:=hd_ (aEL (V:=U) (e:=e) h7 PL.out);clear h7 h6 hW5;go_wp2
  refine aC 25 (.tk 0 22 (.alt 22 (.tk 23 2 (.alt 25 .done .nomore)) .nomore)) (fun w'=>aH w' (b4L p (.slice (some ⟨g1,0,none⟩) 5 c1) (.slice x2 ls.length c2) (.slice x3 ws.length c3) (.slice x4 ps.length c4)++(b6L pw (iv 2) (iv src) (iv (d:Int)) (iv beacon) (iv level) (.slice (some ⟨gy,0,none⟩) n' cy)++([(⟨g1,d * 5+1,none⟩,.slice yk (dJ nd.known (d:Int) (ks.take j)).length cyk)]++uB gy j U e)))) kr_ kr_ (fun _ _ _ _ _ h=>h) (S1.out.below (Below.drew (Below.refl _ _))) ?_
  rw[<-EW.out]
  repeat (first|refine tC_ ?_|refine tB_ ?_)
  refine aB r_ (fun K' hK=>?_);go_simp;refine KP.out.mono ?_;rintro r w6 ⟨y6,c6,rfl,h8⟩;obtain⟨gk,gf,h9⟩:=M.shutKnown h8 (oE GX.out _)
  have S8:Hid (aH w6 (b4L p (.slice (some ⟨g1,0,none⟩) 5 c1) (.slice x2 ls.length c2) (.slice x3 ws.length c3) (.slice x4 ps.length c4)++(b6L pw (iv 2) (iv src) (iv (d:Int)) (iv beacon) (iv level) (.slice (some ⟨gy,0,none⟩) n' cy)++([(⟨g1,d * 5+1,none⟩,.slice yk (dJ nd.known (d:Int) (ks.take j)).length cyk)]++uB gy j U e)))):=hd_ (by
      obtain⟨c0,c1',c2',c3'⟩:=h8.p3.cells4
      obtain⟨b0,b1,b2,b3,b4,b5⟩:=h8.p4.cells6
      exact⟨c0,c1',c2',c3',b0,b1,b2,b3,b4,b5,gk,M.cellsE h8.p2 HEE.out CJ.out⟩)
  refine hK _ _ (.inr S8.out) ?_;clear hK K'
  try refine tP_ ?_
  repeat (first|refine tC_ ?_|refine tB_ ?_)
  have H9:=hd_ h9;clear h9 h8 S8 S1 S2 KP EW;refine aB r_ (fun K hK=>?_);go_simp;refine hK _ _ (.inl rfl) ?_;clear hK K
  try refine tP_ ?_
  refine aD ?_;obtain⟨w7,hw7⟩:=nm_ (w6.setCell ⟨g1,d * 5+1,none⟩ (.slice y6 (fP (dJ nd.known (d:Int) (ks.take j)) e).length c6));rw[<-hw7]at H9 ⊢;rw[List.set_set]at H9;clear hw7 gk gf;go_wp2;go_roundw
  case rel=>exact⟨j+1,o_,gn_,by rw[PE.out];exact H9.out⟩
  case measure=>simp[intOf];omega
end
def aGn:Type:={ x:List Value // x.length=6/\∀u ∈ x,u.oneCell'=true }
def yH (a:aGn):List Value:=a.1
theorem gZ (a:aGn):(yH a).length=6:=a.2.1
theorem mD (a:aGn):∀u ∈ yH a,u.oneCell'=true:=a.2.2
theorem uO {α:Type} {enc:α->List Value} {size:Nat} (hl:∀a,(enc a).length=size):∀(xs:List α) (k:Nat),(xs.take k).flatMap enc=(xs.flatMap enc).take (k * size)
 | [],k=>by simp
 |x::xs,0=>by simp
 |x::xs,k+1=>by
  rw[List.take_succ_cons,List.flatMap_cons,List.flatMap_cons,uO hl xs k,Nat.succ_mul,Nat.add_comm (k * size), <-hl x,List.take_length_add_append]
theorem qP {α:Type} {enc:α->List Value} {size:Nat} (hl:∀a,(enc a).length=size):∀(xs:List α) (k:Nat),(xs.drop k).flatMap enc=(xs.flatMap enc).drop (k * size)
 | [],k=>by simp
 |x::xs,0=>by simp
 |x::xs,k+1=>by
  rw[List.drop_succ_cons,List.flatMap_cons,qP hl xs k,Nat.succ_mul,Nat.add_comm (k * size), <-hl x,List.drop_length_add_append]
section
variable {B:Nat} {w0 w:World} {l:List Ch} {ws:List Wd}
theorem aFn {w:World} {B B' size n:Nat} {e:TypeId} {v:Value} {xs:List Value} (h:w.ownsRow B e size v n xs) (hb:∀g,v.ownBlock=some g->B'<=g):w.ownsRow B' e size v n xs:=by
 refine⟨h.1,?_⟩;rcases h.2 with hn|⟨g,cap,cur,rfl,_,r⟩
 ·exact .inl hn
 ·exact .inr ⟨g,cap,cur,rfl,hb g rfl,r⟩
theorem _root_.Go.Proofs.YtcblbdpdbggkbaaGreat.M.cutW {x:Option Addr} {n cap k:Nat} (h:M B w0 w (bG (.slice x n cap) ws::l)) (hk:k<ws.length):∃(rows:List aGn) (g:Nat),x=some ⟨g,0,none⟩/\n=ws.length/\rows.length=ws.length/\n<=cap/\cap<=maxLen/\
  (∀W,Below w.heap.size w W->∀c,RdL yH W (.slice (some ⟨g,0,none⟩) k c) (rows.take k))/\(∀W,Below w.heap.size w W->∀c ad,(ws.length - (k+1)=0\/ad=⟨g,(k+1) * 6,none⟩)->RdL yH W (.slice (some ad) (ws.length - (k+1)) c) (rows.drop (k+1)))/\
  ∀(w':World) (v':Value) (l':List Ch),M w.heap.size w w' (fL (aG yH) 123 6 v' (rows.take k++rows.drop (k+1))::l')->M B w0 w' (bG v' (ws.eraseIdx k)::l):=by
 obtain⟨f,hf,nd,lo⟩:=h.first;obtain⟨v0,c,fe,ev,E,ef⟩:=gX hf;cases ev;have one:∀i,i<ws.length->(c i).length=6/\∀u ∈ c i,u.oneCell'=true:=fun i hi=>by
  have:=E.one i _ (List.getElem?_eq_getElem hi);exact⟨(pO (T:=TY)).len this,(pO (T:=TY)).one this⟩
 obtain⟨rows,hrl,hrf⟩:∃rows:List aGn,rows.length=ws.length/\rows.flatMap yH=((List.range ws.length).map c).flatten:=by
  have key:∀m,m<=ws.length->∃rows:List aGn,rows.length=m/\rows.flatMap yH=((List.range m).map c).flatten:=fun m=>by
   induction m with
   |zero=>exact fun _=>⟨[],rfl,rfl⟩
   |succ m ih=>
    intro hm;obtain⟨rows,h1,h2⟩:=ih o_;refine⟨rows++[⟨c m,one m o_⟩],by rw[List.length_append,h1];rfl,?_⟩;rw[List.flatMap_append,h2,List.range_succ,List.map_append,List.flatten_append];have e:List.flatMap yH [(⟨c m,one m o_⟩:aGn)]=c m:=List.append_nil _;rw[e];simp
  exact key _ lr_
 obtain⟨cells,g,cap',ev,cl,cc,cn,cm,gl,cut⟩:=pI.cut (gQ (T:=TY)) (v:=.slice x n cap) (xs:=ws) ⟨hf,nd,lo⟩ hk;cases ev;have ec:cells=rows.flatMap yH:=by
  rw[hrf];apply List.ext_getElem?;intro j
  by_cases hj:j<ws.length * 6
  ·have q:=World.ownsRow.cellAt E.own j hj
   have z:=cc j _ (List.getElem?_eq_getElem (by rw[cl];exact hj));rw[q]at z;rw[z,List.getElem?_eq_getElem]
  ·rw[List.getElem?_eq_none (by rw[cl];omega),List.getElem?_eq_none (by rw[kK E.len];omega)]
 refine⟨rows,g,rfl,rfl,hrl,cn,cm,fun W hW c'=>.inr ⟨_,c',by rw[List.length_take,hrl,Nat.min_eq_left o_],fun j z hz=>?_⟩,fun W hW c' ad had=>.inr ⟨ad,c',by rw[List.length_drop,hrl],fun j z hz=>?_⟩,fun w' v' l' kN=>?_⟩
 ·rw[uO gZ, <-ec,List.getElem?_take]at hz
  split at hz
  ·rw[Addr.add_mid,Nat.zero_add]
   exact cell_later hW (cc j z hz)
  ·cases hz
 ·rw[qP gZ, <-ec,List.getElem?_drop]at hz
  rcases had with h0|rfl
  ·exfalso
   have:=(List.getElem?_eq_some_iff.1 hz).1;rw[cl]at this;have:ws.length<=k+1:=o_;have:ws.length * 6<=(k+1) * 6:=Nat.mul_le_mul_right _ this;omega
  ·rw[Addr.add_mid]
   exact cell_later hW (cc _ z hz)
 ·obtain⟨f2,hf2,_,lo2⟩:=kN.first
  obtain⟨_,ev,ho,rfl⟩:=eE hf2;cases ev;have kk:∀F:List Nat,(∀b ∈ F,b<w.heap.size)->dO (fun b=>b ∈ F) w w':=fun F _=>⟨kN.below.os,kN.below.tape,kN.below.output,kN.below.size,fun b hb _=>kN.below.block b hb⟩
  refine h.turn fun F hF nF lF=>⟨kk F fun b hb=>(bG (.slice (some ⟨g,0,none⟩) ws.length cap) ws).lt hF b hb,?_⟩
  obtain⟨cells2,g2,cap2,ev2,cl2,cc2,_,_,_,cut2⟩:=pI.cut (gQ (T:=TY)) (v:=.slice (some ⟨g,0,none⟩) ws.length cap) (xs:=ws) ⟨hF,nF,lF⟩ hk;cases ev2;have e2:cells2=cells:=by
   apply List.ext_getElem?;intro j
   by_cases hj:j<ws.length * 6
   ·have z2:=cc2 j _ (List.getElem?_eq_getElem (by rw[cl2];exact hj))
    have z1:=cc j _ (List.getElem?_eq_getElem (by rw[cl];exact hj));rw[z1]at z2;rw[List.getElem?_eq_getElem (by rw[cl2];exact hj),List.getElem?_eq_getElem (by rw[cl];exact hj)];exact z2.symm
   ·rw[List.getElem?_eq_none (by rw[cl2];omega),List.getElem?_eq_none (by rw[cl];omega)]
  have hv:∀b,v'.ownBlock=some b->w.heap.size<=b:=fun b q=>lo2 b (by simp[q])
  have ho':=aFn ho fun b q=>Nat.le_trans h.low (hv b q)
  rw[List.flatMap_append,uO gZ,qP gZ, <-ec, <-e2,show (rows.take k++rows.drop (k+1)).length=ws.length - 1 by rw[List.length_append,List.length_take,List.length_drop,hrl];omega]at ho';obtain⟨f',s,m⟩:=cut2 w' v' ho' (fun b hb=>kN.below.block b ((bG (.slice (some ⟨g,0,none⟩) ws.length cap) ws).lt hF b hb)) kN.below.size (fun b q hb=>by
      have:=(bG (.slice (some ⟨g,0,none⟩) ws.length cap) ws).lt hF b hb
      have:=hv b q
      omega)
  exact⟨f',s.1,s.2.1,fun b hb=>(m b hb).imp id fun q=>hv b q⟩
end
section
variable {B:Nat} {w0 w:World} {l:List Ch} {p:Nat}
theorem aE5 (n:Nt) (x:Wd):(aQ n x).words=n.words/\(aQ n x).links=n.links/\(aQ n x).past=n.past/\(aQ n x).nodes.length=n.nodes.length:=by
 unfold aQ fB;simp only
 split
 ·exact⟨rfl,rfl,rfl,List.length_set⟩
 ·split
  ·exact⟨rfl,rfl,rfl,rfl⟩
  ·split
   ·exact⟨rfl,rfl,rfl,List.length_set⟩
   ·exact⟨rfl,rfl,rfl,rfl⟩
theorem qG {n:Nt} {es:List En} (h:jP n es):∀e ∈ es,okS e.s=true:=fun e he=>by
 have:=h.all e he;rw[this.s];exact this.ok
theorem aHJ {n:Nt} {x:Wd} {y:Option Addr} {k cy:Nat} (h:M B w0 w (cU p n::eQ (.slice y k cy) x.known::l)) (ok:aM n) (hx:gH n x):
  Calls prog 306 #[jG p,.agg #[iv x.kind,iv x.src,iv x.dst,iv x.beacon,iv x.level,.slice y k cy]] w fun r w'=>r=.returned (.tuple #[])/\M B w0 w' (cU p (aQ n x)::l):=by
 have hd:=hx.dst;unfold aE at hd;obtain⟨d,hd'⟩:∃d:Nat,x.dst=d:=⟨x.dst.toNat,o_⟩
 rw[hd'];rcases hx.kind with ⟨k1,_,lv,_⟩|⟨k2,_,_,kn⟩
 ·exact aAB h.p1.drop (iW ok) hd' o_ o_ o_
 ·rw[k2]
  refine aBT h (iW ok) hd' o_ k2 ?_ ?_
  ·have:=iZ (ok.known (d:Int) (by unfold aE;omega));omega
  ·have:=iZ kn;omega
theorem tQ {n:Nt} (h:M B w0 w (cU p n::l)) (ok:aM n) (a:Int) (heard kept:Bool):
  Calls prog 292 #[jG p,iv a,.bool heard,.bool kept] w fun r w'=>r=.returned (.bool (lC n a heard kept).isSome)/\M B w0 w' (cU p ((lC n a heard kept).getD n)::l):=by
 have HL:=hd_ h;have hs:=iW ok;obtain⟨nw,hnw⟩:=nm_ n.words.length;obtain⟨b,hb⟩:=nm_ (in6 a 0 ((nw:Int) - 1));have KI:=hd_ (fun W=>lT hb W);obtain⟨x1,c1,x2,c2,x3,c3,x4,c4,h1⟩:=h.live;rw[<-hnw]at h1;obtain⟨a0,a1,a2,a3⟩:=h1.cells4;have nw0:nw<=24:=by have:=hs.words;omega
 have wr0:IntKind.i64.wrap ((nw:Int) - 1)=(nw:Int) - 1:=IntWalk.i64_in _ o_;unfold jG;go_enter func292,ntmps292;cases b
 case false=>
  have NO:=hd_ (show lC n a heard kept=none by
      unfold lC
      rw[if_neg]
      intro q
      unfold rK at q
      rw[<-hnw]at q
      have:=bH.2 (show 0<=a/\a<=(nw:Int) - 1 by omega)
      rw[<-hb]at this;cases this)
  clear hb hnw h1 h hs
  go_wp2_with (refine (KI.out _).mono ?_;rintro r w5 ⟨rfl,e5⟩;rw[e5];clear e5 w5)
  go_ret;rw[NO.out];exact⟨rfl,HL.out⟩
 obtain⟨k,hk⟩:∃k:Nat,a=k:=⟨a.toNat,by have:=bH.1 hb.symm;omega⟩
 subst hk;have klt:k<nw:=by have:=bH.1 hb.symm;omega
 obtain⟨x,hx⟩:∃x,n.words[k]? =some x:=⟨_,List.getElem?_eq_getElem o_⟩
 have hxo:gH n x:=ok.word x (List.mem_of_getElem? hx);have xk:x.known.length<=5/\∀e ∈ x.known,okS e.s=true:=by
  rcases hxo.kind with ⟨_,_,_,kn⟩|⟨_,_,_,kn⟩
  ·rw[kn];exact⟨Nat.zero_le _,fun e he=>by cases he⟩
  ·exact⟨iZ kn,qG kn⟩
 obtain⟨m,hm⟩:∃m,m=if heard=true then aQ n x else n:=⟨_,rfl⟩
 have YES:=hd_ (show lC n (k:Int) heard kept=some (if kept=true then m else { m with words:=m.words.eraseIdx k }) by
    unfold lC
    rw[if_pos (show rK n (k:Int) by unfold rK;rw[<-hnw];omega)]
    have e:kW n (k:Int)=x:=by unfold kW;rw[List.getD_eq_getElem?_getD,Int.toNat_natCast,hx];rfl
    rw[hm,e]
    rfl)
 obtain⟨f3,hf3⟩:=h1.p3.wordsRd;obtain⟨g,xw,cw,fw,rfl,_,_,kr,_,_,d0,d1,d2,d3,d4,d5⟩:=xG hf3 hx;obtain⟨kl,hkl⟩:=nm_ x.known.length;have KL:=hd_ hkl;rw[<-hkl]at d5 kr;have k0:(0:Int)<=(k:Int):=o_;have k1:(k:Int)<(nw:Int):=o_;have h2:=h.alloc #[iv x.kind,iv x.src,iv x.dst,iv x.beacon,iv x.level,.slice xw kl cw] 123;obtain⟨px,hpx⟩:=nm_ w.heap.size
 obtain⟨W0,hW0⟩:=nm_ (w.alloc (.cells #[iv x.kind,iv x.src,iv x.dst,iv x.beacon,iv x.level,.slice xw kl cw] 123));have hb0:Below w.heap.size w W0:=by rw[hW0];exact (Below.refl _ _).alloc lr_ _
 rw[<-hW0, <-hpx]at h2;have KR:=hd_ (gR.below kr hb0 lr_);have H2:=hd_ h2.p1;have OK:=hd_ ok;have XO:=hd_ hxo;have XK:=hd_ xk;have HM:=hd_ hm;have NW:=hd_ hnw;have SZ:=hd_ hs;clear h h1 h2 hb0 hb kr hkl hf3 ok hxo xk hm hnw hs hx HL;go_upto_region 4 with (refine (KI.out _).mono ?_;rintro r w5 ⟨rfl,e5⟩;rw[e5];clear e5 w5)
 rw[<-hW0, <-hpx];clear hW0 hpx a0 a1 a2 a3 d0 d1 d2 d3 d4 d5;cases heard
 case true=>
  have HM1:Hid (m=aQ n x):=hd_ (HM.out.trans (if_pos rfl));have MW:Hid (m.words.length=nw):=hd_ (by rw[HM1.out,(aE5 n x).1,NW.out]);have KE:=hd_ (kG W0 (x:=xw) (c:=cw) (es:=x.known) (by rw[<-KL.out];exact KR.out) (by have:=XK.out.1;omega) XK.out.2);rw[<-KL.out]at KE;obtain⟨d0,d1,d2,d3,d4,d5⟩:=H2.out.p1.cells6
  go_wp2_with fail
  refine KE.out.mono ?_;rintro r w1 ⟨y,cy,rfl,hm1⟩;have h3:=(H2.out.plus hm1).p2;clear d0 d1 d2 d3 d4 d5 hm1 KE KR H2;obtain⟨d0,d1,d2,d3,d4,d5⟩:=h3.cells6;have df:=h3.free;have h4:=h3.set (i:=5) (.slice y kl cy);simp only[List.setIfInBounds_toArray,List.set_cons_zero,List.set_cons_succ]at h4;obtain⟨W1,hW1⟩:=nm_ (w1.setCell ⟨px,5,none⟩ (.slice y kl cy));rw[<-hW1]at h4;have H4:=hd_ h4;clear h3 h4
  go_upto_region 6 with fail
  rw[<-hW1];clear hW1 d0 d1 d2 d3 d4 d5 df;obtain⟨d0,d1,d2,d3,d4,d5⟩:=H4.out.cells6;have KH:=hd_ (aHJ (x:=x) H4.out.p1.p2 OK.out XO.out)
  go_wp2_with fail
  refine KH.out.mono ?_;rintro r w2 ⟨rfl,h5⟩;rw[<-HM1.out]at h5;have H5:=hd_ h5;clear h5 KH H4 d0 d1 d2 d3 d4 d5 KL XK OK XO HM HM1;cases kept
  case true=>
   exact zBE
  have Y1:=hd_ (YES.out.trans (by rw[if_neg dc_]));obtain⟨x1,c1,x2,c2,x3,c3,x4,c4,h1⟩:=H5.out.live;rw[MW.out]at h1;have h6:=h1.drew;obtain⟨rows,g,e1,e9,rl,nc,cm,rd1,rd2,fin⟩:=M.cutW h6.p3 (k:=k) (by rw[MW.out];omega);cases e1;clear e9;rw[MW.out]at rl rd2;unfold maxLen at cm
  have S0:Hid (aH w2 (b4L p (.slice x1 m.nodes.length c1) (.slice x2 m.links.length c2) (.slice (some ⟨g,0,none⟩) nw c3) (.slice x4 m.past.length c4))):=hd_ (by obtain⟨a0,a1,a2,a3⟩:=h1.cells4;exact⟨a0,a1,a2,a3,trivial⟩);have S1:=hd_ (S0.out.below (Below.drew (Below.refl _ _)));have RL:=hd_ rl;have R1:=hd_ rd1;have R2:=hd_ rd2;have FI:=hd_ fin;have H6:=hd_ h6;obtain⟨V,hV⟩:=nm_ w2.drew
  rw[<-hV]at S1 R1 R2 FI H6;have EV:=hd_ hV;clear h1 h6 rl rd1 rd2 fin hV H5;have wr1:IntKind.i64.wrap ((k:Int)+1)=(k:Int)+1:=IntWalk.i64_in _ o_;have k2:(k:Int)+1<=(nw:Int):=o_;have k3:(k:Int)<=(c3:Int):=o_;have k4:(0:Int)<=(k:Int)+1:=o_;have k5:(nw:Int)<=(c3:Int):=o_;go_wp2
  by_cases hc:c3=k+1
  case pos=>
   exact zh
  refine aC 22 (.take 0 (.tk 2 7 (.tk 10 8 (.alt 1 (.alt 9 (.alt 18 (.tk 19 3 (.alt 22 .done .nomore)) .nomore) .nomore) .nomore)))) (fun w'=>aH w' (b4L p (.slice x1 m.nodes.length c1) (.slice x2 m.links.length c2) (.slice (some ⟨g,0,none⟩) nw c3) (.slice x4 m.past.length c4))) kr_ kr_ (fun _ _ _ _ _ h=>h) (S0.out.below (Below.drew (Below.refl _ _))) ?_
  rw[<-EV.out]
  repeat (first|refine tC_ ?_|refine tB_ ?_)
  have n1:=((M.start V).alloc #[] 123).empty (aG yH) 6;refine aB r_ (fun K hK=>?_);go_simp;refine hK _ _ (.inr (S1.out.below n1.below)) ?_;clear hK K
  try refine tP_ ?_
  refine aB r_ (fun K hK=>bR sC gZ mD n1 (R1.out _ n1.below _) r_ r_ r_ r_ (by rw[List.length_nil,List.length_take,RL.out];unfold maxLen;omega) (by rw[List.length_nil,List.length_take,RL.out];omega) (N:=k) (by rw[List.length_nil,List.length_take,RL.out];omega) (fun y1 cap1 v1 n2=>?_));rw[List.nil_append]at n2
  refine hK _ _ (.inr (S1.out.below n2.below)) ?_;clear hK K
  try refine tP_ ?_
  refine aB r_ (fun K hK=>bR sC gZ mD n2 (R2.out _ n2.below _ ⟨g,(k+1) * 6,none⟩ (.inr rfl)) r_ r_ r_ r_ (by rw[List.length_take,List.length_drop,RL.out];unfold maxLen;omega) (by rw[List.length_take,List.length_drop,RL.out];omega) (N:=nw - 1) (by rw[List.length_take,List.length_drop,RL.out];omega) (fun y2 cap2 v2 n3=>?_))
  refine hK _ _ (.inr (S1.out.below n3.below)) ?_;clear hK K
  try refine tP_ ?_
  repeat (first|refine tC_ ?_|refine tB_ ?_)
  have h7:=(FI.out _ _ _ n3).p1;obtain⟨a0,a1,a2,a3⟩:=h7.cells4;have af:=h7.free;have h8:=h7.set (i:=2) (.slice y2 (nw - 1) cap2);simp only[List.setIfInBounds_toArray,List.set_cons_zero,List.set_cons_succ]at h8;have H8:=hd_ h8;clear n1 n2 h7 h8;refine aB r_ (fun K hK=>?_);go_simp;refine hK _ _ (.inl rfl) ?_;clear hK K
  try refine tP_ ?_
  refine aD ?_;obtain⟨w5,hw5⟩:=nm_ (v2.setCell ⟨p,2,none⟩ (.slice y2 (nw - 1) cap2));rw[<-hw5]at H8 ⊢;clear hw5 a0 a1 a2 a3 af n3;go_wp2;go_ret;rw[Y1.out];exact⟨rfl,(H8.out.p5.drop.p3.p3.p2).unlive⟩
 have HM1:Hid (m=n):=hd_ (HM.out.trans (if_neg dc_));have MW:Hid (m.words.length=nw):=hd_ (by rw[HM1.out,NW.out]);have H5:Hid (M B w0 W0 (cU p m::aL px 123 #[iv x.kind,iv x.src,iv x.dst,iv x.beacon,iv x.level,.slice xw kl cw]::l)):=hd_ (by rw[HM1.out];exact H2.out);clear KL XK OK XO HM HM1 KR H2;cases kept
 case true=>
  exact zBE
 have Y1:=hd_ (YES.out.trans (by rw[if_neg dc_]));obtain⟨x1,c1,x2,c2,x3,c3,x4,c4,h1⟩:=H5.out.live;rw[MW.out]at h1;have h6:=h1.drew;obtain⟨rows,g,e1,e9,rl,nc,cm,rd1,rd2,fin⟩:=M.cutW h6.p3 (k:=k) (by rw[MW.out];omega);cases e1;clear e9;rw[MW.out]at rl rd2;unfold maxLen at cm
 have S0:Hid (aH W0 (b4L p (.slice x1 m.nodes.length c1) (.slice x2 m.links.length c2) (.slice (some ⟨g,0,none⟩) nw c3) (.slice x4 m.past.length c4))):=hd_ (by obtain⟨a0,a1,a2,a3⟩:=h1.cells4;exact⟨a0,a1,a2,a3,trivial⟩);have S1:=hd_ (S0.out.below (Below.drew (Below.refl _ _)));have RL:=hd_ rl;have R1:=hd_ rd1;have R2:=hd_ rd2;have FI:=hd_ fin;have H6:=hd_ h6;obtain⟨V,hV⟩:=nm_ W0.drew
 rw[<-hV]at S1 R1 R2 FI H6;have EV:=hd_ hV;clear h1 h6 rl rd1 rd2 fin hV H5;have wr1:IntKind.i64.wrap ((k:Int)+1)=(k:Int)+1:=IntWalk.i64_in _ o_;have k2:(k:Int)+1<=(nw:Int):=o_;have k3:(k:Int)<=(c3:Int):=o_;have k4:(0:Int)<=(k:Int)+1:=o_;have k5:(nw:Int)<=(c3:Int):=o_;go_wp2
 by_cases hc:c3=k+1
 case pos=>
  exact zh
 refine aC 22 (.take 0 (.tk 2 7 (.tk 10 8 (.alt 1 (.alt 9 (.alt 18 (.tk 19 3 (.alt 22 .done .nomore)) .nomore) .nomore) .nomore)))) (fun w'=>aH w' (b4L p (.slice x1 m.nodes.length c1) (.slice x2 m.links.length c2) (.slice (some ⟨g,0,none⟩) nw c3) (.slice x4 m.past.length c4))) kr_ kr_ (fun _ _ _ _ _ h=>h) (S0.out.below (Below.drew (Below.refl _ _))) ?_
 rw[<-EV.out]
 repeat (first|refine tC_ ?_|refine tB_ ?_)
 have n1:=((M.start V).alloc #[] 123).empty (aG yH) 6;refine aB r_ (fun K hK=>?_);go_simp;refine hK _ _ (.inr (S1.out.below n1.below)) ?_;clear hK K
 try refine tP_ ?_
 refine aB r_ (fun K hK=>bR sC gZ mD n1 (R1.out _ n1.below _) r_ r_ r_ r_ (by rw[List.length_nil,List.length_take,RL.out];unfold maxLen;omega) (by rw[List.length_nil,List.length_take,RL.out];omega) (N:=k) (by rw[List.length_nil,List.length_take,RL.out];omega) (fun y1 cap1 v1 n2=>?_));rw[List.nil_append]at n2
 refine hK _ _ (.inr (S1.out.below n2.below)) ?_;clear hK K
 try refine tP_ ?_
 refine aB r_ (fun K hK=>bR sC gZ mD n2 (R2.out _ n2.below _ ⟨g,(k+1) * 6,none⟩ (.inr rfl)) r_ r_ r_ r_ (by rw[List.length_take,List.length_drop,RL.out];unfold maxLen;omega) (by rw[List.length_take,List.length_drop,RL.out];omega) (N:=nw - 1) (by rw[List.length_take,List.length_drop,RL.out];omega) (fun y2 cap2 v2 n3=>?_))
 refine hK _ _ (.inr (S1.out.below n3.below)) ?_;clear hK K
 try refine tP_ ?_
 repeat (first|refine tC_ ?_|refine tB_ ?_)
 have h7:=(FI.out _ _ _ n3).p1;obtain⟨a0,a1,a2,a3⟩:=h7.cells4;have af:=h7.free;have h8:=h7.set (i:=2) (.slice y2 (nw - 1) cap2);simp only[List.setIfInBounds_toArray,List.set_cons_zero,List.set_cons_succ]at h8;have H8:=hd_ h8;clear n1 n2 h7 h8;refine aB r_ (fun K hK=>?_);go_simp;refine hK _ _ (.inl rfl) ?_;clear hK K
 try refine tP_ ?_
 refine aD ?_;obtain⟨w5,hw5⟩:=nm_ (v2.setCell ⟨p,2,none⟩ (.slice y2 (nw - 1) cap2));rw[<-hw5]at H8 ⊢;clear hw5 a0 a1 a2 a3 af n3;go_wp2;go_ret;rw[Y1.out];exact⟨rfl,(H8.out.p5.drop.p3.p3.p2).unlive⟩
end
def aBz:Type:={ u:Value // u.oneCell'=true }
def uS (a:aBz):List Value:=[a.1]
theorem hO (a:aBz):(uS a).length=1:=rfl
theorem iF (a:aBz):∀u ∈ uS a,u.oneCell'=true:=fun u hu=>by rw[List.mem_singleton.1 hu];exact a.2
section
variable {B:Nat} {w0 w:World} {l:List Ch} {p:Nat}
theorem _root_.Go.Proofs.YtcblbdpdbggkbaaGreat.M.growRows {v:Value} {rs:List (List Int)} (h:M B w0 w (rQ v rs::l)):∃raws:List aBz,raws.length=rs.length/\(∀W,Below w.heap.size w W->RdL uS W v raws)/\
  ∀(w':World) (v':Value) (u:aBz) (l':List Ch),M w.heap.size w w' (fL (aG uS) 23 1 v' (raws++[u])::uJ u.1 []::l')->M B w0 w' (rQ v' (rs++[[]])::l):=by
 obtain⟨f,hf,nd,lo⟩:=h.first;obtain⟨v0,c,fe,ev,E,ef⟩:=gX hf;cases ev;have one:∀i,i<rs.length->∃u:aBz,c i=[u.1]:=fun i hi=>by
  have q:=E.one i _ (List.getElem?_eq_getElem hi);obtain⟨u,e,_⟩:=mI q;exact⟨⟨u,tT.one q u (by rw[e];exact List.mem_singleton_self _)⟩,e⟩
 obtain⟨raws,hrl,hrf⟩:∃raws:List aBz,raws.length=rs.length/\raws.flatMap uS=((List.range rs.length).map c).flatten:=by
  have key:∀m,m<=rs.length->∃raws:List aBz,raws.length=m/\raws.flatMap uS=((List.range m).map c).flatten:=fun m=>by
   induction m with
   |zero=>exact fun _=>⟨[],rfl,rfl⟩
   |succ m ih=>
    intro hm;obtain⟨raws,h1,h2⟩:=ih o_;obtain⟨u,hu⟩:=one m o_;refine⟨raws++[u],by rw[List.length_append,h1];rfl,?_⟩;rw[List.flatMap_append,h2,List.range_succ,List.map_append,List.flatten_append];have e:List.flatMap uS [u]=c m:=by rw[hu];rfl
    rw[e];simp
  exact key _ lr_
 have own:=E.own;rw[<-hrf]at own;refine⟨raws,hrl,fun W hW=>?_,fun w' v' u l' kN=>?_⟩
 ·have o2:W.ownsRow 0 23 1 v rs.length (raws.flatMap uS):=mW own fun g hg=>hW.block g ((own.lt g hg).2)
  exact RdL.row o2 hrl.symm
 ·have low:∀F:List Nat,(rQ v rs).at_ w F->∀b ∈ F,b<w.heap.size:=fun F hF=>(rQ v rs).lt hF
  refine h.turn fun F hF nF lF=>⟨⟨kN.below.os,kN.below.tape,kN.below.output,kN.below.size,fun b hb _=>kN.below.block b hb⟩,?_⟩
  obtain⟨_,c2,fe2,ev2,E2,rfl⟩:=gX hF;cases ev2;have o2:=E2.own;obtain⟨_,⟨g1,g2,rfl,hg1,g3,g4,rfl,hg3,_⟩,nk,lk⟩:=kN.own;obtain⟨_,ev3,ho,rfl⟩:=eE hg1;cases ev3;have ec:((List.range rs.length).map c2).flatten=raws.flatMap uS:=by
   apply List.ext_getElem?;intro j
   by_cases hj:j<rs.length * 1
   ·rcases own.2 with ⟨_,h0⟩|⟨g,cap,cur,ev,_⟩
    ·omega
    ·rw[ev]at own o2
     have z1:=World.ownsRow.cellAt own j hj;have z2:=World.ownsRow.cellAt o2 j hj;rw[z1]at z2;exact z2.symm
   ·rw[List.getElem?_eq_none (by rw[kK E2.len];omega),List.getElem?_eq_none (by rw[own.1];omega)]
  have n1:=List.nodup_append.1 nk;have n2:=List.nodup_append.1 n1.2.1;have vlo:∀b,v'.ownBlock=some b->w.heap.size<=b:=fun b q=>lk b (List.mem_append_left _ (by simp[q]))
  have flo:∀b ∈ g3,w.heap.size<=b:=fun b q=>lk b (List.mem_append_right _ (List.mem_append_left _ q))
  have S:=Els.snoc (w':=w') (v':=v') (cs:=[u.1]) (a:=[]) (fa:=g3) E2 cK (by
      rw[ec]
      have:(raws++[u]).length=rs.length+1:=by rw[List.length_append,hrl];rfl
      rw[this,List.flatMap_append]at ho
      exact ho) rfl (fun i hi b hb=>kN.below.block b (low _ hF b (iK hi hb))) kN.below.size hg3
  have R:=S.rep;have ln:(rs++[[]]).length=rs.length+1:=by simp
  rw[ln]at R;have old:∀i,i<rs.length->∀b ∈ fe2 i,b<w.heap.size:=fun i hi b hb=>low _ hF b (iK hi hb)
  refine⟨_,R,aEC nF n2.1 (fun b hb i hi q=>?_) (fun g hg=>⟨fun i hi q=>?_,fun q=>?_⟩),fun b hb=>?_⟩
  ·have:=flo b hb;have:=old i hi b q;omega
  ·have:=vlo g hg;have:=old i hi g q;omega
  ·exact n1.2.2 g (by simp[hg]) g (List.mem_append_left _ q) rfl
  ·rcases qJ hb with q|q|q
   ·exact .inr (vlo b q)
   ·exact .inl q
   ·exact .inr (flo b q)
end
theorem aJ5 {n:Nt} {i:Int} (h:¬(aA n i).born+1<=20):lK n i=none:=by unfold lK;simp only[if_neg h]
theorem aHD {n:Nt} {i:Nat} (h:(aA n (i:Int)).born+1<=20):lK n (i:Int)=some { n with nodes:=n.nodes.set i ⟨(aA n (i:Int)).born+1,[⟨(i:Int),(aA n (i:Int)).born+1,0,dK⟩],if (i:Int)=0 then (aA n (i:Int)).beacon else 0,if (i:Int)=0 then 0 else 5, -1⟩,past:=n.past.set i (aO n (i:Int)++[[]]) }:=by
 unfold lK;simp only[if_pos h]
 rfl
section
variable {B:Nat} {w0 w:World} {l:List Ch} {p:Nat}
theorem tL {b:Nat} {e:TypeId} {v:Value} (h:M B w0 w (aL b e #[v]::l)) (hv:v.oneCell'=true):RdL uS w (.slice (some ⟨b,0,none⟩) 1 1) [⟨v,hv⟩]:=
 .inr ⟨_,1,rfl,fun j z hz=>by
    match j,hz with
    | 0,hz=>have e:v=z:=Option.some.inj hz;rw[<-e];exact h.cell rfl
    |j+1,hz=>(have h1:=(List.getElem?_eq_some_iff.1 hz).1;have h2:(List.flatMap uS [(⟨v,hv⟩:aBz)]).length=1:=rfl;omega)⟩
theorem aFv {n:Nt} {i:Nat} (h:M B w0 w (cU p n::l)) (hs:oP n) (hi:i<5) (hb:0<=(aA n (i:Int)).born/\(aA n (i:Int)).born<=1000) (hr:(aO n (i:Int)).length<=1000):
  Calls prog 308 #[jG p,iv (i:Int)] w fun r w'=>r=.returned (.bool (lK n (i:Int)).isSome)/\M B w0 w' (cU p ((lK n (i:Int)).getD n)::l):=by
 obtain⟨hb0,hb1⟩:=hb;obtain⟨rs,hrs⟩:=nm_ (aO n (i:Int));obtain⟨nd,hnd⟩:=nm_ (aA n (i:Int));have gx:=eY hs.nodes hi;have gr:=pJ hs.past hi;have CY:=hd_ (fun q:nd.born+1<=20=>aHD (n:=n) (i:=i) (by rw[<-hnd];exact q));have CN:=hd_ (fun q:¬nd.born+1<=20=>aJ5 (n:=n) (i:=(i:Int)) (by rw[<-hnd];exact q));rw[<-hnd]at gx hb0 hb1;rw[<-hrs]at gr hr;rw[<-hnd, <-hrs]at CY;have HL:=hd_ h
 obtain⟨ns,ls,ws,ps⟩:=n;obtain⟨hs1,hs2,hs3,hs4⟩:=hs;simp only at hs1 hs2 hs3 hs4 gx gr CY;obtain⟨x1,c1,x2,c2,x3,c3,x4,c4,h1⟩:=h.live;simp only at h1;rw[hs1,hs3]at h1;obtain⟨f1,hf1⟩:=h1.p1.nodesRd;obtain⟨f4,hf4⟩:=h1.p4.pastRd;obtain⟨g1,xk,ck,fk,rfl,_,_,kr,_,_,d0,d1,d2,d3,d4⟩:=cB hf1 gx;obtain⟨g4,xr0,cr0,fr,rfl,_,_,rr,_,_,y0⟩:=jO hf4 gr;obtain⟨a0,a1,a2,a3⟩:=h1.cells4
 have i0:(0:Int)<=(i:Int):=o_;have i1:(i:Int)<5:=o_;have wr1:IntKind.i64.wrap (nd.born+1)=nd.born+1:=IntWalk.i64_in _ o_;have GX:=hd_ gx;have GR:=hd_ gr;have GI:Hid (i<ps.length):=hd_ o_;have H1:=hd_ h1;have RS:=hd_ hr;clear h h1 hf1 hf4 kr rr gx gr hrs hnd hs1 hs2 hs3 hs4 d1 d2 d3 d4 y0;unfold jG;go_enter func308,ntmps308
 by_cases hle:nd.born+1<=20
 case neg=>
  have CF:=hd_ (CN.out hle);have gg:(20:Int)<nd.born+1:=o_;clear hle;go_wp2;go_ret;rw[CF.out];exact⟨rfl,HL.out⟩
 have CF:=hd_ (CY.out hle);have gg:¬(20:Int)<nd.born+1:=o_;clear CY CN HL hle;have KN:=hd_ (aCE H1.out (i:Int) (nd.born+1));obtain⟨lv,hlv⟩:∃lv:Int,lv=if (i:Int)=0 then 0 else 5:=⟨_,rfl⟩
 rw[<-hlv]at KN CF;clear hlv
 go_wp2_with fail
 refine KN.out.mono ?_;rintro r w1 ⟨v,rfl,h2⟩;obtain⟨y,cy,ev,_⟩:=M.form h2;subst ev;have h3:=h2.alloc #[iv (nd.born+1),.slice y 1 cy,iv 0,iv lv,iv (-1)] 55;obtain⟨px,hpx⟩:=nm_ w1.heap.size;obtain⟨W1,hW1⟩:=nm_ (w1.alloc (.cells #[iv (nd.born+1),.slice y 1 cy,iv 0,iv lv,iv (-1)] 55));have e1:[(⟨(i:Int),nd.born+1,0,dK⟩:En)].length=1:=rfl;rw[e1]at h3;clear e1;rw[<-hW1, <-hpx]at h3;have H3:=hd_ h3
 clear h2 h3 KN H1 d0 a0 a1 a2 a3
 go_upto_if 23 with fail
 rw[<-hW1, <-hpx];clear hW1 hpx;obtain⟨bc,hbc⟩:∃z:Int,z=if (i:Int)=0 then nd.beacon else 0:=⟨_,rfl⟩
 rw[<-hbc]at CF;have E:=hd_ CF.out;have BC:=hd_ hbc;clear hbc CF
 go_cut [] (fun wx=>M B w0 wx (eQ (.slice y 1 cy) [⟨(i:Int),nd.born+1,0,dK⟩]::aL px 55 #[iv (nd.born+1),.slice y 1 cy,iv bc,iv lv,iv (-1)]::aL p 289 #[.slice (some ⟨g1,0,none⟩) 5 c1,.slice x2 ls.length c2,.slice x3 ws.length c3,.slice (some ⟨g4,0,none⟩) 5 c4]::bE (.slice (some ⟨g1,0,none⟩) 5 c1) ns::bY (.slice x2 ls.length c2) ls::bG (.slice x3 ws.length c3) ws::dN (.slice (some ⟨g4,0,none⟩) 5 c4) ps::l))
 case first=>
  by_cases hz:(i:Int)=0
  case pos=>
   have gz:((i:Int)==0)=true:=by simpa using hz
   have EB:Hid (bc=nd.beacon):=hd_ (by rw[BC.out,if_pos hz]);have h3:=H3.out;obtain⟨f1,hf1⟩:=h3.p3.nodesRd;obtain⟨g1',xk',ck',fk',ev',_,_,kr,_,_,d0,d1,d2,d3,d4⟩:=cB hf1 GX.out;cases ev';have z0:i=0:=o_;rw[z0,Nat.zero_mul,Nat.zero_add]at d2;obtain⟨a0,a1,a2,a3⟩:=h3.p2.cells4;obtain⟨e0,e1,e2,e3,e4⟩:=h3.cells5;have ef:=h3.free;have h4:=h3.set (i:=2) (iv nd.beacon)
   simp only[List.setIfInBounds_toArray,List.set_cons_zero,List.set_cons_succ]at h4;rw[<-EB.out]at h4;have H4:=hd_ h4;clear hz hf1 kr d0 d1 d3 d4 z0 h3 h4 H3
   go_wp2_with fail
   go_meet
   rw[<-EB.out];exact H4.out.p1
  case neg=>
   have gz:((i:Int)==0)=false:=by simpa using hz
   have EB:Hid (bc=0):=hd_ (by rw[BC.out,if_neg hz]);clear hz
   go_wp2_with fail
   go_meet
   rw[EB.out];exact H3.out.p1
 case rest=>
  have H4:=hd_ hcut;clear hcut H3;obtain⟨yo,cyo,h5⟩:=M.openKnown (H4.out.drew.p3) GX.out;have h6:=h5.drop;have S0:Hid (aH wc.drew (b4L p (.slice (some ⟨g1,0,none⟩) 5 c1) (.slice x2 ls.length c2) (.slice x3 ws.length c3) (.slice (some ⟨g4,0,none⟩) 5 c4)++b5L px (iv (nd.born+1)) (.slice y 1 cy) (iv bc) (iv lv) (iv (-1)))):=hd_ (by
      obtain⟨a0,a1,a2,a3⟩:=h6.p3.cells4
      obtain⟨e0,e1,e2,e3,e4⟩:=h6.p2.cells5
      exact⟨a0,a1,a2,a3,e0,e1,e2,e3,e4,trivial⟩)
  obtain⟨V7,hV7⟩:=nm_ wc.drew;rw[<-hV7]at h6 S0;have EV7:=hd_ hV7;have H6:=hd_ h6;have GL:Hid (i<ns.length):=hd_ (List.getElem?_eq_some_iff.1 GX.out).1;clear h5 h6 hV7 H4;go_wp2
  refine aC 8 (.tk 0 8 (.alt 8 .done .nomore)) (fun w'=>aH w' (b4L p (.slice (some ⟨g1,0,none⟩) 5 c1) (.slice x2 ls.length c2) (.slice x3 ws.length c3) (.slice (some ⟨g4,0,none⟩) 5 c4)++b5L px (iv (nd.born+1)) (.slice y 1 cy) (iv bc) (iv lv) (iv (-1)))) kr_ kr_ (fun _ _ _ _ _ h=>h) (by rw[<-EV7.out];exact S0.out) ?_;rw[<-EV7.out]
  repeat (first|refine tC_ ?_|refine tB_ ?_)
  refine aB r_ (fun K hK=>aD9 (vs:=[iv (nd.born+1),.slice y 1 cy,iv bc,iv lv,iv (-1)]) H6.out GL.out r_ r_ r_ r_ (j:=0) r_ r_ aMt r_ (by simp) (ci':=[iv (nd.born+1),.slice y 1 cy,iv bc,iv lv,iv (-1)]) r_ (fun wv h7=>?_));refine hK _ _ (.inl rfl) ?_;clear hK K
  try refine tP_ ?_
  refine aD ?_
  have H7:=hd_ (show M B w0 wv (dN (.slice (some ⟨g4,0,none⟩) 5 c4) ps::bE (.slice (some ⟨g1,0,none⟩) 5 c1) (ns.set i ⟨nd.born+1,[⟨(i:Int),nd.born+1,0,dK⟩],bc,lv, -1⟩)::aL px 55 #[iv (nd.born+1),.slice y 1 cy,iv bc,iv lv,iv (-1)]::aL p 289 #[.slice (some ⟨g1,0,none⟩) 5 c1,.slice x2 ls.length c2,.slice x3 ws.length c3,.slice (some ⟨g4,0,none⟩) 5 c4]::bY (.slice x2 ls.length c2) ls::bG (.slice x3 ws.length c3) ws::l)from (M.close (FA:=aY (T:=TY)) (x:=⟨nd.born+1,[⟨(i:Int),nd.born+1,0,dK⟩],bc,lv, -1⟩) (M.node (nd.born+1) bc lv (-1) h7.p1) GL.out).p5)
  clear h7 H6 S0 EV7;go_upto_region 8 with fail
  go_cut [] (fun wx=>M B w0 wx (dN (.slice (some ⟨g4,0,none⟩) 5 c4) (ps.set i (rs++[[]]))::bE (.slice (some ⟨g1,0,none⟩) 5 c1) (ns.set i ⟨nd.born+1,[⟨(i:Int),nd.born+1,0,dK⟩],bc,lv, -1⟩)::aL px 55 #[iv (nd.born+1),.slice y 1 cy,iv bc,iv lv,iv (-1)]::aL p 289 #[.slice (some ⟨g1,0,none⟩) 5 c1,.slice x2 ls.length c2,.slice x3 ws.length c3,.slice (some ⟨g4,0,none⟩) 5 c4]::bY (.slice x2 ls.length c2) ls::bG (.slice x3 ws.length c3) ws::l))
  case first=>
   have h0:=H7.out.drew;obtain⟨gq,capq,ci,evq,hcq,ho⟩:=M.open bS h0 GR.out;obtain⟨eq1,eq2,eq3⟩:=Value.slice.inj evq;cases eq1;cases eq3;clear eq2 evq;obtain⟨vr,rfl⟩:=sL hcq;obtain⟨raws,rl,r4,fin⟩:=M.growRows (v:=vr) (rs:=rs) ho;have gp:=ho.p1.hcell1 GI.out;obtain⟨xr,cr,ev5⟩:∃xr cr,vr=.slice xr rs.length cr:=by
    obtain⟨x',c',e',_⟩:=M.form (FA:=cK) (e:=23) (size:=1) (v:=vr) (xs:=rs) ho;exact⟨x',c',e'⟩
   subst ev5;have C0:Hid (aH wv.drew (b4L p (.slice (some ⟨g1,0,none⟩) 5 c1) (.slice x2 ls.length c2) (.slice x3 ws.length c3) (.slice (some ⟨g4,0,none⟩) 5 c4)++[(⟨g4,i,none⟩,.slice xr rs.length cr)])):=hd_ (by
        obtain⟨a0,a1,a2,a3⟩:=h0.p3.cells4
        exact⟨a0,a1,a2,a3,gp,trivial⟩)
   obtain⟨V,hV⟩:=nm_ wv.drew;rw[<-hV]at C0 r4 fin ho;have EV:=hd_ hV;have C4:=C0;have R4:=hd_ r4;have RL:=hd_ rl
   have FIN:Hid (∀(w':World) (v':Value) (u:aBz) (l':List Ch),M V.heap.size V w' (fL (aG uS) 23 1 v' (raws++[u])::uJ u.1 []::l')->(∃u,w'.cell? ⟨g4,i,none⟩=some u)/\w'.frozen? ⟨g4,i,none⟩=false/\M B w0 (w'.setCell ⟨g4,i,none⟩ v') (dN (.slice (some ⟨g4,0,none⟩) 5 c4) (ps.set i (rs++[[]]))::bE (.slice (some ⟨g1,0,none⟩) 5 c1) (ns.set i ⟨nd.born+1,[⟨(i:Int),nd.born+1,0,dK⟩],bc,lv, -1⟩)::aL px 55 #[iv (nd.born+1),.slice y 1 cy,iv bc,iv lv,iv (-1)]::aL p 289 #[.slice (some ⟨g1,0,none⟩) 5 c1,.slice x2 ls.length c2,.slice x3 ws.length c3,.slice (some ⟨g4,0,none⟩) 5 c4]::bY (.slice x2 ls.length c2) ls::bG (.slice x3 ws.length c3) ws::l)):=hd_ (by
        intro w' v' u l' k
        have q:=fin w' v' u l' k
        have q1:=q.p1.hset1 GI.out v'
        exact⟨⟨_,q.p1.hcell1 GI.out⟩,q.p1.hfree i,M.close (FA:=bS) (ci:=[v']) (x:=rs++[[]]) q1.p1 GI.out⟩)
   clear hV h0 ho rl r4 fin gp hcq
   refine aC 20 (.tk 0 6 (.tk 7 8 (.alt 6 (.alt 15 (.alt 16 (.alt 17 (.alt 18 (.take 19 (.alt 20 .done .nomore)) .nomore) .nomore) .nomore) (.alt 16 (.alt 15 (.alt 17 (.alt 18 (.take 19 (.alt 20 .done .nomore)) .nomore) .nomore) (.alt 17 (.alt 15 (.alt 18 (.take 19 (.alt 20 .done .nomore)) .nomore) .nomore) .nomore)) .nomore)) (.alt 16 (.alt 6 (.alt 15 (.alt 17 (.alt 18 (.take 19 (.alt 20 .done .nomore)) .nomore) .nomore) (.alt 17 (.alt 15 (.alt 18 (.take 19 (.alt 20 .done .nomore)) .nomore) .nomore) .nomore)) (.alt 17 (.alt 6 (.alt 15 (.alt 18 (.take 19 (.alt 20 .done .nomore)) .nomore) .nomore) .nomore) .nomore)) .nomore)))) (fun w'=>aH w' (b4L p (.slice (some ⟨g1,0,none⟩) 5 c1) (.slice x2 ls.length c2) (.slice x3 ws.length c3) (.slice (some ⟨g4,0,none⟩) 5 c4)++[(⟨g4,i,none⟩,.slice xr rs.length cr)])) kr_ kr_ (fun _ _ _ _ _ h=>h) (by rw[<-EV.out];exact C0.out) ?_
   rw[<-EV.out]
   repeat (first|refine tC_ ?_|refine tB_ ?_)
   refine bP r_ (fun K hK=>?_) ?_
   ·have k1:=((M.start V).alloc #[] 23).empty (aG uS) 1
    try simp only[World.size_alloc]at k1
    go_simp;refine hK _ _ (.inr (C4.out.below k1.below)) ?_;clear hK K
    try refine tP_ ?_
    refine bP r_ (fun K hK=>bR rA hO iF k1 (R4.out _ k1.below) r_ r_ r_ r_ (by rw[List.length_nil,RL.out];unfold maxLen;omega) (by rw[List.length_nil,RL.out];omega) (N:=rs.length) (by rw[List.length_nil,RL.out];omega) (fun y2 cap2 v2 k2=>?_)) ?_
    ·rw[List.nil_append]at k2
     refine hK _ _ (.inr (C4.out.below k2.below)) ?_;clear hK K
     try refine tP_ ?_
     refine aB r_ (fun K hK=>?_);have k3:=(((k2).alloc #[] 3).empty (aG kY) 1).soft
     try simp only[World.size_alloc]at k3
     go_simp;refine hK _ _ (.inr (C4.out.below k3.below)) ?_;clear hK K
     try refine tP_ ?_
     refine aB r_ (fun K hK=>?_);have k4:=(k3).alloc #[.slice (some ⟨v2.heap.size,0,none⟩) 0 0] 23
     try simp only[World.size_alloc]at k4
     go_simp;refine hK _ _ (.inr (C4.out.below k4.below)) ?_;clear hK K
     try refine tP_ ?_
     refine aB r_ (fun K hK=>bR rA hO iF k4.p2 (tL k4 rfl) r_ r_ r_ r_ (show raws.length+1<=maxLen by rw[RL.out];unfold maxLen;omega) (show (raws.length+1) * 24<=140737488355328 by rw[RL.out];omega) (N:=rs.length+1) (show rs.length+1=raws.length+1 by rw[RL.out]) (fun y5 cap5 v5 k5=>?_));refine hK _ _ (.inr (C4.out.below k5.below)) ?_
     clear hK K
     try refine tP_ ?_
     repeat (first|refine tC_ ?_|refine tB_ ?_)
     obtain⟨⟨u,cu⟩,fu,hN⟩:=FIN.out _ _ _ _ ((k5.p2).p1);exact zr
    refine aB r_ (fun K hK=>?_);have k6:=(((k1).alloc #[] 3).empty (aG kY) 1).soft
    try simp only[World.size_alloc]at k6
    go_simp;refine hK _ _ (.inr (C4.out.below k6.below)) ?_;clear hK K
    try refine tP_ ?_
    refine bP r_ (fun K hK=>bR rA hO iF k6.p1 (R4.out _ k6.below) r_ r_ r_ r_ (by rw[List.length_nil,RL.out];unfold maxLen;omega) (by rw[List.length_nil,RL.out];omega) (N:=rs.length) (by rw[List.length_nil,RL.out];omega) (fun y7 cap7 v7 k7=>?_)) ?_
    ·rw[List.nil_append]at k7
     refine hK _ _ (.inr (C4.out.below k7.below)) ?_;clear hK K
     try refine tP_ ?_
     refine aB r_ (fun K hK=>?_);have k8:=(k7).alloc #[.slice (some ⟨V.heap.size+1,0,none⟩) 0 0] 23
     try simp only[World.size_alloc]at k8
     go_simp;refine hK _ _ (.inr (C4.out.below k8.below)) ?_;clear hK K
     try refine tP_ ?_
     refine aB r_ (fun K hK=>bR rA hO iF k8.p1 (tL k8 rfl) r_ r_ r_ r_ (show raws.length+1<=maxLen by rw[RL.out];unfold maxLen;omega) (show (raws.length+1) * 24<=140737488355328 by rw[RL.out];omega) (N:=rs.length+1) (show rs.length+1=raws.length+1 by rw[RL.out]) (fun y9 cap9 v9 k9=>?_));refine hK _ _ (.inr (C4.out.below k9.below)) ?_
     clear hK K
     try refine tP_ ?_
     repeat (first|refine tC_ ?_|refine tB_ ?_)
     obtain⟨⟨u,cu⟩,fu,hN⟩:=FIN.out _ _ _ _ ((k9.p2).p1);exact zr
    refine aB r_ (fun K hK=>?_);have k10:=(k6).alloc #[.slice (some ⟨V.heap.size+1,0,none⟩) 0 0] 23
    try simp only[World.size_alloc]at k10
    go_simp;refine hK _ _ (.inr (C4.out.below k10.below)) ?_;clear hK K
    try refine tP_ ?_
    refine aB r_ (fun K hK=>bR rA hO iF k10.p2 (R4.out _ k10.below) r_ r_ r_ r_ (by rw[List.length_nil,RL.out];unfold maxLen;omega) (by rw[List.length_nil,RL.out];omega) (N:=rs.length) (by rw[List.length_nil,RL.out];omega) (fun y11 cap11 v11 k11=>?_));rw[List.nil_append]at k11;refine hK _ _ (.inr (C4.out.below k11.below)) ?_;clear hK K
    try refine tP_ ?_
    refine aB r_ (fun K hK=>bR rA hO iF k11 (tL k11.p1 rfl) r_ r_ r_ r_ (show raws.length+1<=maxLen by rw[RL.out];unfold maxLen;omega) (show (raws.length+1) * 24<=140737488355328 by rw[RL.out];omega) (N:=rs.length+1) (show rs.length+1=raws.length+1 by rw[RL.out]) (fun y12 cap12 v12 k12=>?_))
    refine hK _ _ (.inr (C4.out.below k12.below)) ?_;clear hK K
    try refine tP_ ?_
    repeat (first|refine tC_ ?_|refine tB_ ?_)
    obtain⟨⟨u,cu⟩,fu,hN⟩:=FIN.out _ _ _ _ ((k12.p2).p1);exact zr
   refine aB r_ (fun K hK=>?_);have k13:=(((M.start V).alloc #[] 3).empty (aG kY) 1).soft
   try simp only[World.size_alloc]at k13
   go_simp;refine hK _ _ (.inr (C4.out.below k13.below)) ?_;clear hK K
   try refine tP_ ?_
   refine bP r_ (fun K hK=>?_) ?_
   ·have k14:=((k13).alloc #[] 23).empty (aG uS) 1
    try simp only[World.size_alloc]at k14
    go_simp;refine hK _ _ (.inr (C4.out.below k14.below)) ?_;clear hK K
    try refine tP_ ?_
    refine bP r_ (fun K hK=>bR rA hO iF k14 (R4.out _ k14.below) r_ r_ r_ r_ (by rw[List.length_nil,RL.out];unfold maxLen;omega) (by rw[List.length_nil,RL.out];omega) (N:=rs.length) (by rw[List.length_nil,RL.out];omega) (fun y15 cap15 v15 k15=>?_)) ?_
    ·rw[List.nil_append]at k15
     refine hK _ _ (.inr (C4.out.below k15.below)) ?_;clear hK K
     try refine tP_ ?_
     refine aB r_ (fun K hK=>?_);have k16:=(k15).alloc #[.slice (some ⟨V.heap.size,0,none⟩) 0 0] 23
     try simp only[World.size_alloc]at k16
     go_simp;refine hK _ _ (.inr (C4.out.below k16.below)) ?_;clear hK K
     try refine tP_ ?_
     refine aB r_ (fun K hK=>bR rA hO iF k16.p1 (tL k16 rfl) r_ r_ r_ r_ (show raws.length+1<=maxLen by rw[RL.out];unfold maxLen;omega) (show (raws.length+1) * 24<=140737488355328 by rw[RL.out];omega) (N:=rs.length+1) (show rs.length+1=raws.length+1 by rw[RL.out]) (fun y17 cap17 v17 k17=>?_))
     refine hK _ _ (.inr (C4.out.below k17.below)) ?_;clear hK K
     try refine tP_ ?_
     repeat (first|refine tC_ ?_|refine tB_ ?_)
     obtain⟨⟨u,cu⟩,fu,hN⟩:=FIN.out _ _ _ _ ((k17.p2).p1);exact zr
    refine aB r_ (fun K hK=>?_);have k18:=(k14).alloc #[.slice (some ⟨V.heap.size,0,none⟩) 0 0] 23
    try simp only[World.size_alloc]at k18
    go_simp;refine hK _ _ (.inr (C4.out.below k18.below)) ?_;clear hK K
    try refine tP_ ?_
    refine aB r_ (fun K hK=>bR rA hO iF k18.p1 (R4.out _ k18.below) r_ r_ r_ r_ (by rw[List.length_nil,RL.out];unfold maxLen;omega) (by rw[List.length_nil,RL.out];omega) (N:=rs.length) (by rw[List.length_nil,RL.out];omega) (fun y19 cap19 v19 k19=>?_));rw[List.nil_append]at k19;refine hK _ _ (.inr (C4.out.below k19.below)) ?_;clear hK K
    try refine tP_ ?_
    refine aB r_ (fun K hK=>bR rA hO iF k19 (tL k19.p1 rfl) r_ r_ r_ r_ (show raws.length+1<=maxLen by rw[RL.out];unfold maxLen;omega) (show (raws.length+1) * 24<=140737488355328 by rw[RL.out];omega) (N:=rs.length+1) (show rs.length+1=raws.length+1 by rw[RL.out]) (fun y20 cap20 v20 k20=>?_))
    refine hK _ _ (.inr (C4.out.below k20.below)) ?_;clear hK K
    try refine tP_ ?_
    repeat (first|refine tC_ ?_|refine tB_ ?_)
    obtain⟨⟨u,cu⟩,fu,hN⟩:=FIN.out _ _ _ _ ((k20.p2).p1);exact zr
   refine aB r_ (fun K hK=>?_);have k21:=(k13).alloc #[.slice (some ⟨V.heap.size,0,none⟩) 0 0] 23
   try simp only[World.size_alloc]at k21
   go_simp;refine hK _ _ (.inr (C4.out.below k21.below)) ?_;clear hK K
   try refine tP_ ?_
   refine aB r_ (fun K hK=>?_);have k22:=((k21).alloc #[] 23).empty (aG uS) 1
   try simp only[World.size_alloc]at k22
   go_simp;refine hK _ _ (.inr (C4.out.below k22.below)) ?_;clear hK K
   try refine tP_ ?_
   refine aB r_ (fun K hK=>bR rA hO iF k22 (R4.out _ k22.below) r_ r_ r_ r_ (by rw[List.length_nil,RL.out];unfold maxLen;omega) (by rw[List.length_nil,RL.out];omega) (N:=rs.length) (by rw[List.length_nil,RL.out];omega) (fun y23 cap23 v23 k23=>?_));rw[List.nil_append]at k23;refine hK _ _ (.inr (C4.out.below k23.below)) ?_;clear hK K
   try refine tP_ ?_
   refine aB r_ (fun K hK=>bR rA hO iF k23 (tL k23.p1 rfl) r_ r_ r_ r_ (show raws.length+1<=maxLen by rw[RL.out];unfold maxLen;omega) (show (raws.length+1) * 24<=140737488355328 by rw[RL.out];omega) (N:=rs.length+1) (show rs.length+1=raws.length+1 by rw[RL.out]) (fun y24 cap24 v24 k24=>?_))
   refine hK _ _ (.inr (C4.out.below k24.below)) ?_;clear hK K
   try refine tP_ ?_
   repeat (first|refine tC_ ?_|refine tB_ ?_)
   obtain⟨⟨u,cu⟩,fu,hN⟩:=FIN.out _ _ _ _ ((k24.p2).p1);exact zr
  case rest=>
   have H8:=hd_ hcut;go_wp2;go_ret;rw[E.out];exact⟨rfl,(H8.out.p2.drop.p2.p4.p4.p4.p3).unlive⟩
end
section
variable {B:Nat} {w0 w:World} {l:List Ch} {p:Nat}
theorem aD6 (w:World) {a b:Int} (h:aE a/\aE b) {q:Nat} (hq:a * 5+b=q):Calls prog 67 #[iv a,iv b] w fun e w'=>e=.returned (iv (q:Int))/\w'=w:=
 (jQ w ⟨h.1.1,h.1.2,h.2.1,h.2.2⟩ hq).mono fun _ _ h=>⟨h.1,h.2.symm⟩
theorem aF2 {n:Nt} (h:M B w0 w (cU p n::l)) (hs:oP n) {a b:Int} (ha:aE a) (hb:aE b) (u:Bool):
  Calls prog 309 #[jG p,iv a,iv b,.bool u] w fun r w'=>r=.returned (.bool (pX n a b u).isSome)/\M B w0 w' (cU p ((pX n a b u).getD n)::l):=by
 have HL:=hd_ h;obtain⟨q,hq⟩:∃q:Nat,a * 5+b=q:=⟨(a * 5+b).toNat,by unfold aE at ha hb;omega⟩
 obtain⟨r,hr⟩:∃r:Nat,b * 5+a=r:=⟨(b * 5+a).toNat,by unfold aE at ha hb;omega⟩
 have q0:(0:Int)<=(q:Int):=o_;have q1:(q:Int)<25:=by unfold aE at ha hb;omega
 have r0:(0:Int)<=(r:Int):=o_;have r1:(r:Int)<25:=by unfold aE at ha hb;omega
 have K1:=hd_ (fun W=>aD6 W ⟨ha,hb⟩ hq);have K2:=hd_ (fun W=>aD6 W ⟨hb,ha⟩ hr);have WH:=hd_ (wJ hs.links ha hb hq)
 by_cases hab:a=b
 case pos=>
  have E:=hd_ (show pX n a b u=none by unfold pX;rw[if_pos (.inl hab)]);have gab:(a==b)=true:=by simpa using hab
  clear hab h hs ha hb hq hr K1 K2 WH q0 q1 r0 r1;unfold jG;go_enter func309,ntmps309;go_wp2;refine aC 99 (.tk 0 11 (.take 14 (.alt 11 (.tk 12 2 (.tk 15 2 .done)) .nomore))) (fun w'=>True) kr_ kr_ (fun _ _ _ _ _ h=>h) trivial ?_
  repeat (first|refine tC_ ?_|refine tB_ ?_)
  refine aB r_ (fun K' hK=>?_);go_simp;refine hK _ _ (.inr trivial) ?_;clear hK K'
  try refine tP_ ?_
  repeat (first|refine tC_ ?_|refine tB_ ?_)
  refine aD ?_;have H9:=hd_ HL.out.drew;go_wp2;go_ret;rw[E.out];exact⟨rfl,H9.out⟩
 have gab:(a==b)=false:=by simpa using hab
 obtain⟨ns,ls,ws,ps⟩:=n;obtain⟨hs1,hs2,hs3,hs4⟩:=hs;simp only at hs1 hs2 hs3 hs4 WH;obtain⟨x1,c1,x2,c2,x3,c3,x4,c4,h1⟩:=h.live;simp only at h1;rw[hs2]at h1;obtain⟨f2,hf2⟩:=h1.p2.linksRd;obtain⟨g2,rfl,_,lk⟩:=mX hf2 WH.out;obtain⟨v,hv⟩:=nm_ (whole ⟨ns,ls,ws,ps⟩ a b);rw[<-hv]at lk;have SE:=hd_ (show pX ⟨ns,ls,ws,ps⟩ a b u=if v=u then none else some ⟨ns,(ls.set q u).set r u,ws,ps⟩ by
    unfold pX
    rw[<-hv,show (a * 5+b).toNat=q by omega,show (b * 5+a).toNat=r by omega]
    by_cases z:v=u
    · rw[if_pos (.inr z),if_pos z]
    · rw[if_neg (fun y=>y.elim hab z),if_neg z])
 have H1:=hd_ (show M B w0 w (bY (.slice (some ⟨g2,0,none⟩) 25 c2) ls::aL p 289 #[.slice x1 ns.length c1,.slice (some ⟨g2,0,none⟩) 25 c2,.slice x3 ws.length c3,.slice x4 ps.length c4]::bE (.slice x1 ns.length c1) ns::bG (.slice x3 ws.length c3) ws::dN (.slice x4 ps.length c4) ps::l)from h1.p2)
 have S0:Hid (aH w (b4L p (.slice x1 ns.length c1) (.slice (some ⟨g2,0,none⟩) 25 c2) (.slice x3 ws.length c3) (.slice x4 ps.length c4)++[(⟨g2,q,none⟩,.bool v)])):=hd_ (by
    obtain⟨a0,a1,a2,a3⟩:=h1.cells4
    exact⟨a0,a1,a2,a3,lk,trivial⟩)
 have CC:∀(w':World) (ls':List Bool),M B w0 w' (bY (.slice (some ⟨g2,0,none⟩) 25 c2) ls'::aL p 289 #[.slice x1 ns.length c1,.slice (some ⟨g2,0,none⟩) 25 c2,.slice x3 ws.length c3,.slice x4 ps.length c4]::bE (.slice x1 ns.length c1) ns::bG (.slice x3 ws.length c3) ws::dN (.slice x4 ps.length c4) ps::l)->aH w' (b4L p (.slice x1 ns.length c1) (.slice (some ⟨g2,0,none⟩) 25 c2) (.slice x3 ws.length c3) (.slice x4 ps.length c4)):=fun w' ls' h=>by
  obtain⟨a0,a1,a2,a3⟩:=h.p1.cells4;exact zAn
 have LL:=hd_ hs2;obtain⟨gu,hgu⟩:=nm_ (v==u);have GU:=hgu.symm;clear hgu;clear h h1 hf2 lk hv hs1 hs2 hs3 hs4 ha hb hq hr hab WH;have S1:=hd_ (S0.out.below (Below.drew (Below.refl _ _)));have H2:=hd_ H1.out.drew;obtain⟨W,hW⟩:=nm_ w.drew;rw[<-hW]at S1 H2;have EW:=hd_ hW;clear hW;unfold jG;go_enter func309,ntmps309;go_wp2
 refine aC 99 (.tk 0 11 (.take 14 (.alt 11 (.tk 12 2 (.tk 15 2 .done)) .nomore))) (fun w'=>aH w' (b4L p (.slice x1 ns.length c1) (.slice (some ⟨g2,0,none⟩) 25 c2) (.slice x3 ws.length c3) (.slice x4 ps.length c4)++[(⟨g2,q,none⟩,.bool v)])) kr_ kr_ (fun _ _ _ _ _ h=>h) (S0.out.below (Below.drew (Below.refl _ _))) ?_;rw[<-EW.out]
 repeat (first|refine tC_ ?_|refine tB_ ?_)
 refine aB r_ (fun K' hK=>?_);go_simp;refine (K1.out W).mono ?_;rintro z w5 ⟨rfl,e5⟩;rw[e5];clear e5 w5;refine hK _ _ (.inr S1.out) ?_;clear hK K'
 try refine tP_ ?_
 repeat (first|refine tC_ ?_|refine tB_ ?_)
 refine aD ?_;cases gu
 case true=>
  have E:=hd_ (SE.out.trans (if_pos (by simpa using GU)));clear GU;go_wp2;go_ret;rw[E.out];exact⟨rfl,(H2.out.p2.p2).unlive⟩
 have E:=hd_ (SE.out.trans (if_neg (by simpa using GU)));clear GU S1 S0 HL;have S5:=hd_ (CC _ _ H2.out.drew);obtain⟨⟨z5,cz5⟩,fz5,h5⟩:=H2.out.drew.setEl (i:=q) (by rw[LL.out];omega) u (u:=.bool u) rfl;obtain⟨V5,hV⟩:=nm_ W.drew;rw[<-hV]at S5 cz5 fz5 h5;have EV5:=hd_ hV;have H3:=hd_ h5;clear hV h5;go_wp2
 refine aC 10 (.tk 0 7 (.take 8 (.alt 7 (.take 9 (.alt 10 .done .nomore)) .nomore))) (fun w'=>aH w' (b4L p (.slice x1 ns.length c1) (.slice (some ⟨g2,0,none⟩) 25 c2) (.slice x3 ws.length c3) (.slice x4 ps.length c4))) kr_ kr_ (fun _ _ _ _ _ h=>h) (by rw[<-EV5.out];exact S5.out) ?_;rw[<-EV5.out]
 repeat (first|refine tC_ ?_|refine tB_ ?_)
 refine aB r_ (fun K' hK=>?_);go_simp;refine (K1.out V5).mono ?_;rintro z w5 ⟨rfl,e5⟩;rw[e5];clear e5 w5;refine hK _ _ (.inr S5.out) ?_;clear hK K'
 try refine tP_ ?_
 repeat (first|refine tC_ ?_|refine tB_ ?_)
 refine aB r_ (fun K hK=>?_);go_simp;refine hK _ _ (.inl rfl) ?_;clear hK K
 try refine tP_ ?_
 refine aD ?_;obtain⟨U5,hU⟩:=nm_ (V5.setCell ⟨g2,q,none⟩ (.bool u));rw[<-hU]at H3 ⊢;clear hU cz5 fz5 S5 EV5;have S6:=hd_ (CC _ _ H3.out.drew);obtain⟨⟨z6,cz6⟩,fz6,h6⟩:=H3.out.drew.setEl (i:=r) (by rw[List.length_set,LL.out];omega) u (u:=.bool u) rfl;obtain⟨V6,hV⟩:=nm_ U5.drew;rw[<-hV]at S6 cz6 fz6 h6;have EV6:=hd_ hV;have H4:=hd_ h6;clear hV h6;go_wp2
 refine aC 10 (.tk 0 7 (.take 8 (.alt 7 (.take 9 (.alt 10 .done .nomore)) .nomore))) (fun w'=>aH w' (b4L p (.slice x1 ns.length c1) (.slice (some ⟨g2,0,none⟩) 25 c2) (.slice x3 ws.length c3) (.slice x4 ps.length c4))) kr_ kr_ (fun _ _ _ _ _ h=>h) (by rw[<-EV6.out];exact S6.out) ?_;rw[<-EV6.out]
 repeat (first|refine tC_ ?_|refine tB_ ?_)
 refine aB r_ (fun K' hK=>?_);go_simp;refine (K2.out V6).mono ?_;rintro z w5 ⟨rfl,e5⟩;rw[e5];clear e5 w5;refine hK _ _ (.inr S6.out) ?_;clear hK K'
 try refine tP_ ?_
 repeat (first|refine tC_ ?_|refine tB_ ?_)
 refine aB r_ (fun K hK=>?_);go_simp;refine hK _ _ (.inl rfl) ?_;clear hK K
 try refine tP_ ?_
 refine aD ?_;obtain⟨U6,hU⟩:=nm_ (V6.setCell ⟨g2,r,none⟩ (.bool u));rw[<-hU]at H4 ⊢;clear hU cz6 fz6 S6 EV6;go_wp2;go_ret;rw[E.out];exact⟨rfl,(H4.out.p2.p2).unlive⟩
end
section
variable {B:Nat} {w0 w:World} {l:List Ch} {p:Nat}
theorem aHl {n:Nt} (ok:aM n) {i:Nat} (hi:i<5):∃b,aI9 n i b:=by
 have hn:aE (i:Int):=by unfold aE;omega
 obtain⟨b1,b2⟩:=ok.born _ hn;have P:=ok.pasts _ hn;obtain⟨e,he,hb,hm⟩:=ok.own _ hn;have hr:=P.len;refine⟨(aA n (i:Int)).born.toNat,iW ok,hi,o_,o_,?_,iZ (ok.known _ hn),e,he,?_⟩
 ·have hf:(aN n (i:Int) ((aA n (i:Int)).born.toNat:Int)) ∈ aO n (i:Int):=by
   unfold aN;rw[Int.toNat_natCast,List.getD_eq_getElem?_getD,List.getElem?_eq_getElem o_];exact List.getElem_mem _
  exact P.few _ hf
 ·have hf:(aN n (i:Int) (aA n (i:Int)).born).length<=100:=by
   apply P.few;unfold aN;rw[List.getD_eq_getElem?_getD,List.getElem?_eq_getElem o_];exact List.getElem_mem _
  omega
theorem aKd {n:Nt} (ok:aM n) {i:Int} (hi:aE i):(aA n i).up<=4:=by
 by_cases h:i=0
 ·have:=((ok.way i hi).root h).2;omega
 ·exact ((ok.way i hi).up h).1.2
def aKJ (B:Nat) (w0:World) (l:List Ch) (p:Nat) (o:Option Nt) (r:Ending) (w':World):Prop:=r=.returned (.bool o.isSome)/\∃n',(∀m,o=some m->n'=m)/\M B w0 w' (cU p n'::l)
theorem pW {o:Option Nt} {n:Nt} {r:Ending} {w':World} (h:r=.returned (.bool o.isSome)/\M B w0 w' (cU p (o.getD n)::l)):aKJ B w0 l p o r w':=⟨h.1,_,fun m hm=>by rw[hm];rfl,h.2⟩
theorem aCg {y:Nt × Bool} {r:Ending} {w':World} (h:r=.returned (.bool y.2)/\M B w0 w' (cU p y.1::l)):aKJ B w0 l p (nV y) r w':=by
 obtain⟨m,b⟩:=y;refine⟨?_,m,fun q hq=>?_,h.2⟩
 ·rw[h.1];cases b<;>rfl
 ·cases b
  ·cases hq
  ·exact Option.some.inj hq
def sR (n:Nt) (d:De):Option Nt:=
 if d.kind=1 then lI n d.a d.b
 else if d.kind=2 then nV (cA n d.a)
 else if d.kind=3 then nV (fX n d.a)
 else if d.kind=7 then lK n d.a
 else if d.kind=9\/d.kind=10 then (if aE d.b then pX n d.a d.b (decide (d.kind=10))else none)
 else none
theorem aBR {n:Nt} (h:M B w0 w (cU p n::l)) (ok:aM n) {i:Nat} (hi:i<5) (k b:Int):
  Calls prog 293 #[jG p,.agg #[iv k,iv (i:Int),iv b]] w (aKJ B w0 l p (sR n ⟨k,(i:Int),b⟩)):=by
 have h1:=h.alloc #[iv k,iv (i:Int),iv b] 292;obtain⟨pd,hpd⟩:∃q,q=w.heap.size:=⟨_,rfl⟩
 obtain⟨W0,hW0⟩:∃W,W=w.alloc (.cells #[iv k,iv (i:Int),iv b] 292):=⟨_,rfl⟩
 rw[<-hW0, <-hpd]at h1;have H:=hd_ h1.p1;have OK:=hd_ ok;have hin:aE (i:Int):=by unfold aE;omega
 clear h h1 ok;go_enter func293,ntmps293;go_upto_region 1 with fail
 rw[<-hW0, <-hpd];clear hW0 hpd;obtain⟨d0,d1,d2⟩:=H.out.p1.cells3
 by_cases hk1:k=1
 case pos=>
  subst hk1;obtain⟨bq,hc⟩:=aHl OK.out hi;have KS:=hd_ ((aEp H.out hc b).mono fun _ _=>pW);have E:=hd_ (show sR n ⟨1,(i:Int),b⟩=lI n (i:Int) b from rfl);exact zAc
 have g1:(k==1)=false:=by simpa using hk1
 by_cases hk2:k=2
 case pos=>
  subst hk2;have KS:=hd_ ((aAm H.out (iW OK.out) hi).mono fun _ _=>aCg);have E:=hd_ (show sR n ⟨2,(i:Int),b⟩=nV (cA n (i:Int))from rfl);exact zAc
 have g2:(k==2)=false:=by simpa using hk2
 by_cases hk3:k=3
 case pos=>
  subst hk3;have KS:=hd_ ((aCB H.out (iW OK.out) hi (aKd OK.out hin) (by have:=iZ (OK.out.known _ hin);omega) (qG (OK.out.known _ hin))).mono fun _ _=>aCg);have E:=hd_ (show sR n ⟨3,(i:Int),b⟩=nV (fX n (i:Int))from rfl);exact zAc
 have g3:(k==3)=false:=by simpa using hk3
 by_cases hk7:k=7
 case pos=>
  subst hk7;have KS:=hd_ ((aFv H.out (iW OK.out) hi (by have:=OK.out.born _ hin;omega) (by have:=(OK.out.pasts _ hin).len;have:=OK.out.born _ hin;omega)).mono fun _ _=>pW);have E:=hd_ (show sR n ⟨7,(i:Int),b⟩=lK n (i:Int)from rfl);exact zAc
 have g7:(k==7)=false:=by simpa using hk7
 by_cases h9:k=9\/k=10
 case neg=>
  have g9:(k==9)=false:=by simp;omega
  have g10:(k==10)=false:=by simp;omega
  have E:=hd_ (show sR n ⟨k,(i:Int),b⟩=none by unfold sR;simp only[if_neg hk1,if_neg hk2,if_neg hk3,if_neg hk7,if_neg h9]);clear hk1 hk2 hk3 hk7 h9;go_wp2;go_ret;rw[E.out];exact⟨rfl,n,(fun m hm=>by cases hm),H.out.p1.drop⟩
 obtain⟨ib,hib⟩:∃q,q=in6 b 0 4:=⟨_,rfl⟩
 have KI:=hd_ (fun W=>lT hib W);obtain⟨u,hu⟩:∃u,u=(k==10):=⟨_,rfl⟩
 have E0:=hd_ (show sR n ⟨k,(i:Int),b⟩=if aE b then pX n (i:Int) b u else none by
    unfold sR
    simp only[if_neg hk1,if_neg hk2,if_neg hk3,if_neg hk7,if_pos h9]
    rw[hu]
    rfl)
 have gk:(k==9)= !u:=by
  rw[hu];rcases h9 with rfl|rfl<;>rfl
 have gu:=hu.symm;have KL:=hd_ (fun q:aE b=>aF2 H.out (iW OK.out) hin q u);have IB:=hd_ (show ib=true↔aE b by rw[hib,bH];rfl);clear hk1 hk2 hk3 hk7 h9 hu hib hin;cases ib
 case false=>
  have E:=hd_ (E0.out.trans (if_neg (fun q=>by have:=IB.out.2 q;cases this)));cases u
  all_goals
   go_wp2_with (refine (KI.out _).mono ?_;rintro r w5 ⟨rfl,e5⟩;rw[e5];clear e5 w5)
   go_ret;rw[E.out];exact⟨rfl,n,(fun m hm=>by cases hm),H.out.p1.drop⟩
 have E:=hd_ (E0.out.trans (if_pos (IB.out.1 rfl)));have KK:=hd_ (KL.out (IB.out.1 rfl));clear KL;cases u
 all_goals
  go_wp2_with (first|(refine (KI.out _).mono ?_;rintro r w5 ⟨rfl,e5⟩;rw[e5];clear e5 w5)|(refine KK.out.mono ?_;rintro r w5 ⟨rfl,h5⟩;have H5:=hd_ h5;clear h5 KK d0 d1 d2))
  go_ret;rw[E.out];exact pW ⟨rfl,H5.out.p1.drop⟩
end
section
variable {B:Nat} {w0 w:World} {l:List Ch} {p:Nat}
theorem aKB {n:Nt} {d:De}:(d.kind=4->doN n d=lC n d.a true false)/\(d.kind=5->doN n d=lC n d.a true true)/\(d.kind=6->doN n d=lC n d.a false false):=by
 refine⟨fun h=>?_,fun h=>?_,fun h=>?_⟩<;>(unfold doN;simp[h])
theorem aJl {n:Nt} {d:De} (h:d.kind=8):doN n d=if (aA n 0).beacon+1<=1000 then some (fB n 0 { aA n 0 with beacon:=(aA n 0).beacon+1 })else none:=by unfold doN;simp[h]
theorem aLg {n:Nt} {d:De} (h4:d.kind≠4) (h5:d.kind≠5) (h6:d.kind≠6) (h8:d.kind≠8):doN n d=if aE d.a then sR n d else none:=by
 unfold doN sR;simp only[if_neg h4,if_neg h5,if_neg h6,if_neg h8]
theorem aKH {n:Nt} (h:M B w0 w (cU p n::l)) (ok:aM n) (k a b:Int):
  Calls prog 260 #[jG p,.agg #[iv k,iv a,iv b]] w (aKJ B w0 l p (doN n ⟨k,a,b⟩)):=by
 have h1:=h.alloc #[iv k,iv a,iv b] 292;obtain⟨pd,hpd⟩:=nm_ w.heap.size;obtain⟨W0,hW0⟩:=nm_ (w.alloc (.cells #[iv k,iv a,iv b] 292));rw[<-hW0, <-hpd]at h1;have H:=hd_ h1.p1;have OK:=hd_ ok;have DT:=hd_ (aKB (n:=n) (d:=⟨k,a,b⟩));clear h h1 ok;go_enter func260,ntmps260;go_upto_region 1 with fail
 rw[<-hW0, <-hpd];clear hW0 hpd;obtain⟨d0,d1,d2⟩:=H.out.p1.cells3
 by_cases hk4:k=4
 case pos=>
  subst hk4;have E:=hd_ (DT.out.1 rfl);have KS:=hd_ (tQ H.out OK.out a true false)
  exact zAI
 have g4:(k==4)=false:=by simpa using hk4
 by_cases hk5:k=5
 case pos=>
  subst hk5;have E:=hd_ (DT.out.2.1 rfl);have KS:=hd_ (tQ H.out OK.out a true true)
  exact zAI
 have g5:(k==5)=false:=by simpa using hk5
 by_cases hk6:k=6
 case pos=>
  subst hk6;have E:=hd_ (DT.out.2.2 rfl);have KS:=hd_ (tQ H.out OK.out a false false)
  exact zAI
 have g6:(k==6)=false:=by simpa using hk6
 by_cases hk8:k=8
 case pos=>
  subst hk8;obtain⟨nd,hnd⟩:=nm_ (aA n 0);have bz:0<=nd.beacon/\nd.beacon<=1000:=by
   rw[hnd];exact⟨((OK.out.way 0 (by unfold aE;omega)).beacon).1,OK.out.beacon⟩
  have hs:=iW OK.out;have gx:n.nodes[0]? =some nd:=by rw[hnd];exact eY (i:=0) hs.nodes o_
  have E:=hd_ (show doN n ⟨8,a,b⟩=if nd.beacon+1<=1000 then some { n with nodes:=n.nodes.set 0 { nd with beacon:=nd.beacon+1 } }else none by rw[aJl rfl,hnd];rfl);obtain⟨ns,ls,ws,ps⟩:=n;obtain⟨hs1,hs2,hs3,hs4⟩:=hs;simp only at hs1 hs2 hs3 hs4 gx;obtain⟨x1,c1,x2,c2,x3,c3,x4,c4,h1⟩:=H.out.live;simp only at h1;rw[hs1]at h1;have h2:=h1.drew;obtain⟨f1,hf1⟩:=h2.p1.nodesRd
  obtain⟨g1,xk,ck,fk,rfl,_,_,kr,_,_,z0,z1,z2,z3,z4⟩:=cB hf1 gx;rw[Nat.zero_mul,Nat.zero_add]at z2;obtain⟨a0,a1,a2,a3⟩:=h2.cells4;have S0:Hid (aH W0.drew (b4L p (.slice (some ⟨g1,0,none⟩) 5 c1) (.slice x2 ls.length c2) (.slice x3 ws.length c3) (.slice x4 ps.length c4)++[(⟨g1,2,none⟩,.int .i64 nd.beacon)])):=hd_ ⟨a0,a1,a2,a3,z2,trivial⟩
  obtain⟨⟨u,cu⟩,fu,h3⟩:=(M.setNum h2.p1 gx (nd.beacon+1)).2.1;rw[Nat.zero_mul,Nat.zero_add]at cu fu h3;have wr1:IntKind.i64.wrap (nd.beacon+1)=nd.beacon+1:=IntWalk.i64_in _ o_;obtain⟨V,hV⟩:=nm_ W0.drew;rw[<-hV]at S0 cu fu h3;have EV:=hd_ hV;have GX:=hd_ gx;have H3:=hd_ h3;clear hV h1 h2 h3 hf1 kr z0 z1 z2 z3 z4 a0 a1 a2 a3 hnd H OK DT gx hs1 hs2 hs3 hs4;unfold jG;go_wp2
  refine aC 16 (.tk 0 16 (.alt 16 .done .nomore)) (fun w'=>aH w' (b4L p (.slice (some ⟨g1,0,none⟩) 5 c1) (.slice x2 ls.length c2) (.slice x3 ws.length c3) (.slice x4 ps.length c4)++[(⟨g1,2,none⟩,.int .i64 nd.beacon)])) kr_ kr_ (fun _ _ _ _ _ h=>h) (by rw[<-EV.out];exact S0.out) ?_;rw[<-EV.out]
  repeat (first|refine tC_ ?_|refine tB_ ?_)
  refine aB r_ (fun K hK=>?_);go_simp;refine hK _ _ (.inl rfl) ?_;clear hK K
  try refine tP_ ?_
  refine aD ?_;obtain⟨V2,hV2⟩:=nm_ (V.setCell ⟨g1,2,none⟩ (iv (nd.beacon+1)));rw[<-hV2]at H3 ⊢;clear hV2 cu fu S0 EV d0 d1 d2;obtain⟨f1,hf1⟩:=H3.out.nodesRd;obtain⟨g1',xk',ck',fk',ev,_,_,kr,_,_,z0,z1,z2,z3,z4⟩:=cB hf1 (List.getElem?_set_self (List.getElem?_eq_some_iff.1 GX.out).1);cases ev;rw[Nat.zero_mul,Nat.zero_add]at z2;obtain⟨a0,a1,a2,a3⟩:=H3.out.p1.cells4
  clear hf1 kr z0 z1 z3 z4
  by_cases hle:nd.beacon+1<=1000
  case pos=>
   have E2:=hd_ (E.out.trans (if_pos hle));go_wp2;go_ret;rw[E2.out];exact⟨rfl,_,fun m hm=>Option.some.inj hm,(H3.out.p1.p5.drop).unlive⟩
  have E2:=hd_ (E.out.trans (if_neg hle));go_wp2;go_ret;rw[E2.out];exact⟨rfl,_,(fun m hm=>by cases hm),(H3.out.p1.p5.drop).unlive⟩
 have g8:(k==8)=false:=by simpa using hk8
 have E0:=hd_ (aLg (n:=n) (d:=⟨k,a,b⟩) hk4 hk5 hk6 hk8);clear hk4 hk5 hk6 hk8 DT;obtain⟨ib,hib⟩:=nm_ (in6 a 0 4);have KI:=hd_ (fun W=>lT hib W);have IB:=hd_ (show ib=true↔aE a by rw[hib,bH];rfl);clear hib;cases ib
 case false=>
  have E:=hd_ (E0.out.trans (if_neg (fun q=>by have:=IB.out.2 q;cases this)))
  go_wp2_with (refine (KI.out _).mono ?_;rintro r w5 ⟨rfl,e5⟩;rw[e5];clear e5 w5)
  go_ret;rw[E.out];exact⟨rfl,n,(fun m hm=>by cases hm),H.out.p1.drop⟩
 have E:=hd_ (E0.out.trans (if_pos (IB.out.1 rfl)));have hia:=IB.out.1 rfl;unfold aE at hia;obtain⟨i,hi⟩:∃i:Nat,a=i:=⟨a.toNat,o_⟩
 subst hi;have KK:=hd_ (aBR H.out OK.out (i:=i) o_ k b);clear hia IB E0
 go_wp2_with (first|(refine (KI.out _).mono ?_;rintro r w5 ⟨rfl,e5⟩;rw[e5];clear e5 w5)|(refine KK.out.mono ?_;rintro r w5 ⟨rfl,n',hn',h5⟩;have H5:=hd_ h5;have HN:=hd_ hn';clear h5 hn' KK d0 d1 d2))
 go_ret;rw[E.out];exact⟨rfl,n',HN.out,H5.out.p1.drop⟩
end
structure aKo (n:Nt):Prop where
 nl:n.nodes.length<=1048576
 ll:n.links.length<=1048576
 wl:n.words.length<=1048576
 pl:n.past.length<=1048576
 nk:∀x ∈ n.nodes,x.known.length<=1048576/\∀e ∈ x.known,okS e.s=true
 wk:∀x ∈ n.words,x.known.length<=1048576/\∀e ∈ x.known,okS e.s=true
 pk:∀rs ∈ n.past,rs.length<=1048576/\∀r ∈ rs,r.length<=1048576
theorem aKw {w:World} {v:Value} {xs:List Bool} {f:List Nat} (h:sK TY w [v] xs f):RdL zV w v xs:=by
 obtain⟨_,e,o,_⟩:=eE h;cases e;exact RdL.row o rfl
theorem aIa (a:Bool):∀u ∈ zV a,u.oneCell'=true:=fun u hu=>by rw[List.mem_singleton.1 hu];rfl
theorem xZ (w:World) {x1 x2 x3 x4:Option Addr} {k1 c1 k2 c2 k3 c3 k4 c4:Nat} {n:Nt} (hn:iP w (.slice x1 k1 c1) (.slice x2 k2 c2) (.slice x3 k3 c3) (.slice x4 k4 c4) n) (hc:aKo n):
  Calls prog 259 #[.agg #[.slice x1 k1 c1,.slice x2 k2 c2,.slice x3 k3 c3,.slice x4 k4 c4]] w fun r w'=>∃v1 v2 v3 v4,r=.returned (.agg #[v1,v2,v3,v4])/\M w.heap.size w w' [bE v1 n.nodes,bY v2 n.links,bG v3 n.words,dN v4 n.past]:=by
 obtain⟨f1,n1⟩:=hn.nodes;obtain⟨f2,n2⟩:=hn.links;obtain⟨f3,n3⟩:=hn.words;obtain⟨f4,n4⟩:=hn.past;obtain rfl:k1=n.nodes.length:=(aT n1).1;obtain rfl:k2=n.links.length:=(aT n2).1;obtain rfl:k3=n.words.length:=(aT n3).1;obtain rfl:k4=n.past.length:=(aT n4).1;have N1:=hd_ n1;have N2:=hd_ n2;have N3:=hd_ n3;have N4:=hd_ n4;obtain⟨nl,ll,wl,pl,nk,wk,pk⟩:=hc;have NK:=hd_ nk
 have WK:=hd_ wk;have PK:=hd_ pk;obtain⟨nodes,links,words,past⟩:=n;simp only at *;obtain⟨ln,hln⟩:=nm_ nodes.length;obtain⟨lb,hlb⟩:=nm_ links.length;obtain⟨lw,hlw⟩:=nm_ words.length;obtain⟨lp,hlp⟩:=nm_ past.length;rw[<-hln]at N1 nl ⊢;rw[<-hlb]at N2 ll ⊢;rw[<-hlw]at N3 wl ⊢;rw[<-hlp]at N4 pl ⊢;have LN:=hd_ hln;have LB:=hd_ hlb;have LW:=hd_ hlw;have LP:=hd_ hlp
 have X:=((M.start w).alloc #[.slice x1 ln c1,.slice x2 lb c2,.slice x3 lw c3,.slice x4 lp c4] 30).alloc #[zn,zn,zn,zn] 30;simp only[World.size_alloc]at X;obtain⟨p1,hp1⟩:=nm_ w.heap.size;obtain⟨p2,hp2⟩:=nm_ (w.heap.size+1);obtain⟨W0,hW0⟩:=nm_ ((w.alloc (.cells #[.slice x1 ln c1,.slice x2 lb c2,.slice x3 lw c3,.slice x4 lp c4] 30)).alloc (.cells #[zn,zn,zn,zn] 30));rw[<-hW0, <-hp2]at X
 have H0:=hd_ (show M w.heap.size w W0 [aL p1 30 #[.slice x1 ln c1,.slice x2 lb c2,.slice x3 lw c3,.slice x4 lp c4],aL p2 30 #[zn,zn,zn,zn]] by rw[hp1];exact X.p1);clear X hn n1 n2 n3 n4 nk wk pk hln hlb hlw hlp;go_enter func259,ntmps259;go_upto_region 1 with fail
 rw[<-hW0, <-hp2, <-hp1];clear hW0 hp2 hp1;have E1:=hd_ ((H0.out.alloc #[] 4).empty (aG zV) 1);have R1:=hd_ (aKw ((aV (aG zV) _ _).below N2.out E1.out.below lr_));obtain⟨a0,a1,a2,a3⟩:=E1.out.p1.cells4
 go_upto_region 2 with (at_builtin;go_loud (refine dW aB3 (fun _=>rfl) aIa E1.out R1.out rfl rfl rfl rfl (by rw[List.length_nil, <-LB.out];unfold maxLen;omega) (by rw[List.length_nil, <-LB.out];omega) (N:=lb) (by rw[List.length_nil,Nat.zero_add,LB.out]) ?_);intro yl dl u1 h;have E2:=hd_ ((((h.alloc #[] 123).empty (gQ (T:=TY)) 6)).alloc #[zn,.slice yl lb dl,.slice (some ⟨u1.heap.size,0,none⟩) 0 0,zn] 30))
 obtain⟨pw,hpw⟩:=nm_ u1.heap.size;rw[List.nil_append]at E2;obtain⟨p3,hp3⟩:=nm_ ((u1.alloc (.cells #[] 123)).heap.size);obtain⟨W2,hW2⟩:=nm_ ((u1.alloc (.cells #[] 123)).alloc (.cells #[zn,.slice yl lb dl,.slice (some ⟨u1.heap.size,0,none⟩) 0 0,zn] 30));have ep:u1.heap.size+1=p3:=by rw[hp3,World.size_alloc]
 rw[<-hW2, <-hp3, <-hpw]at E2;rw[<-hW2,ep, <-hpw];have HA:=hd_ (M.nil (aY (T:=TY)) 55 5 E2.out).p1.p3.p2.p2;clear hW2 hp3 hpw ep E2 E1 R1 a0 a1 a2 a3;go_wp2
 go_loopw [4] (fun z wr=>∃(j c:Nat) (y:Option Addr),j<=ln/\z=.int .i64 (j:Int)/\M w.heap.size w wr [aL p3 30 #[.slice y j c,.slice yl lb dl,.slice (some ⟨pw,0,none⟩) 0 0,zn],bE (.slice y j c) (nodes.take j),bY (.slice yl lb dl) links,bG (.slice (some ⟨pw,0,none⟩) 0 0) [],aL p1 30 #[.slice x1 ln c1,.slice x2 lb c2,.slice x3 lw c3,.slice x4 lp c4],aL p2 30 #[zn,zn,zn,zn]]) (fun z _=>ln - (intOf z).toNat)
 case atStart=>exact⟨0,0,_,Nat.zero_le _,rfl,HA.out⟩
 case round=>
  clear HA;obtain⟨j,dn,yn,hj,rfl,hM⟩:=hrel;have H:=hd_ hM;clear hM;obtain⟨a0,a1,a2,a3⟩:=H.out.p4.cells4
  by_cases hlt:j<ln
  case pos=>
   obtain⟨x,hx⟩:∃x,nodes[j]? =some x:=⟨_,List.getElem?_eq_getElem (by have:=LN.out;omega)⟩
   obtain⟨g,xk,ck,fk,rfl,_,_,kr,_,_,d0,d1,d2,d3,d4⟩:=cB N1.out hx;have hWB:=H.out.below;replace d0:=cell_later hWB d0;replace d1:=cell_later hWB d1;replace d2:=cell_later hWB d2;replace d3:=cell_later hWB d3;replace d4:=cell_later hWB d4;obtain⟨hk,ho⟩:=NK.out x (List.mem_of_getElem? hx);have ST:=hd_ (lX hx)
   have LT:Hid ((nodes.take j).length=j):=hd_ (by rw[List.length_take];have:=LN.out;omega);have j0:(0:Int)<=(j:Int):=o_;have j1:(j:Int)<(ln:Int):=o_;have h2:=H.out.alloc #[iv x.born,.slice xk x.known.length ck,iv x.beacon,iv x.level,iv x.up] 55;obtain⟨p5,hp5⟩:=nm_ wr.heap.size;obtain⟨W,hW⟩:=nm_ (wr.alloc (.cells #[iv x.born,.slice xk x.known.length ck,iv x.beacon,iv x.level,iv x.up] 55))
   rw[<-hW, <-hp5]at h2;have H2:=hd_ h2;have KE:=hd_ (kG W (gR.below kr h2.below lr_) hk ho);clear h2 hWB kr hx hk ho H;go_upto_region 6 with fail
   rw[<-hW, <-hp5];clear hW hp5 d0 d1 d2 d3 d4 a0 a1 a2 a3;obtain⟨d0,d1,d2,d3,d4⟩:=H2.out.cells5
   go_wp2_with fail
   refine KE.out.mono ?_;rintro r2 w2 ⟨yk,cy,rfl,hm⟩;have h3:=(H2.out.plus hm).p1;clear hm KE H2 d0 d1 d2 d3 d4;obtain⟨d0,d1,d2,d3,d4⟩:=h3.cells5;have df:=h3.free;have h4:=h3.set (i:=1) (.slice yk x.known.length cy);simp only[List.setIfInBounds_toArray,List.set_cons_zero,List.set_cons_succ]at h4;obtain⟨W3,hW3⟩:=nm_ (w2.setCell ⟨p5,1,none⟩ (.slice yk x.known.length cy));rw[<-hW3]at h4
   have H4:=hd_ h4;clear h3 h4;go_upto_region 7 with fail
   rw[<-hW3];clear hW3 d0 d1 d2 d3 d4 df;obtain⟨d0,d1,d2,d3,d4⟩:=H4.out.cells5;obtain⟨b0,b1,b2,b3⟩:=H4.out.p2.cells4;have h5:=H4.out.alloc #[iv x.born,.slice yk x.known.length cy,iv x.beacon,iv x.level,iv x.up] 55;have E:=hd_ (M.node x.born x.beacon x.level x.up h5.p2).p4.p2;clear h5
   go_wp2_with (at_builtin;go_loud (refine dA aLJ (aCw (T:=TY)) E.out rfl rfl rfl rfl (by rw[LT.out];unfold maxLen;omega) (by rw[LT.out];omega) (N:=j+1) (by rw[LT.out]) ?_);intro y9 d9 w9 h9;have H6:=hd_ h9.p1.drop.p1;clear h9 b0 b1 b2 b3;obtain⟨b0,b1,b2,b3⟩:=H6.out.cells4;have bf:=H6.out.free)
   have h7:=H6.out.set (i:=0) (.slice y9 (j+1) d9);exact zA2
  obtain rfl:ln=j:=o_;have TT:Hid (nodes.take ln=nodes):=hd_ (by rw[LN.out];exact List.take_length);rw[TT.out]at H;have HB:=hd_ H.out.p3.p1;go_wp2;clear H a0 a1 a2 a3
  go_loopw [6] (fun z wr=>∃(j c:Nat) (y:Option Addr),j<=lw/\z=.int .i64 (j:Int)/\M w.heap.size w wr [aL p3 30 #[.slice yn ln dn,.slice yl lb dl,.slice y j c,zn],bG (.slice y j c) (words.take j),bE (.slice yn ln dn) nodes,bY (.slice yl lb dl) links,aL p1 30 #[.slice x1 ln c1,.slice x2 lb c2,.slice x3 lw c3,.slice x4 lp c4],aL p2 30 #[zn,zn,zn,zn]]) (fun z _=>lw - (intOf z).toNat)
  case atStart=>exact⟨0,0,_,Nat.zero_le _,rfl,HB.out⟩
  case round=>
   clear HB;obtain⟨j,dw,yw,hj,rfl,hM⟩:=hrel;have H:=hd_ hM;clear hM;obtain⟨a0,a1,a2,a3⟩:=H.out.p4.cells4
   by_cases hlt:j<lw
   case pos=>
    obtain⟨x,hx⟩:∃x,words[j]? =some x:=⟨_,List.getElem?_eq_getElem (by have:=LW.out;omega)⟩
    obtain⟨g,xk,ck,fk,rfl,_,_,kr,_,_,d0,d1,d2,d3,d4,d5⟩:=xG N3.out hx;have hWB:=H.out.below;replace d0:=cell_later hWB d0;replace d1:=cell_later hWB d1;replace d2:=cell_later hWB d2;replace d3:=cell_later hWB d3;replace d4:=cell_later hWB d4;replace d5:=cell_later hWB d5;obtain⟨hk,ho⟩:=WK.out x (List.mem_of_getElem? hx);have ST:=hd_ (lX hx)
    have LT:Hid ((words.take j).length=j):=hd_ (by rw[List.length_take];have:=LW.out;omega);have j0:(0:Int)<=(j:Int):=o_;have j1:(j:Int)<(lw:Int):=o_;have h2:=H.out.alloc #[iv x.kind,iv x.src,iv x.dst,iv x.beacon,iv x.level,.slice xk x.known.length ck] 123;obtain⟨p5,hp5⟩:=nm_ wr.heap.size
    obtain⟨W,hW⟩:=nm_ (wr.alloc (.cells #[iv x.kind,iv x.src,iv x.dst,iv x.beacon,iv x.level,.slice xk x.known.length ck] 123));rw[<-hW, <-hp5]at h2;have H2:=hd_ h2;have KE:=hd_ (kG W (gR.below kr h2.below lr_) hk ho);clear h2 hWB kr hx hk ho H;go_upto_region 12 with fail
    rw[<-hW, <-hp5];clear hW hp5 d0 d1 d2 d3 d4 d5 a0 a1 a2 a3;obtain⟨d0,d1,d2,d3,d4,d5⟩:=H2.out.cells6
    go_wp2_with fail
    refine KE.out.mono ?_;rintro r2 w2 ⟨yk,cy,rfl,hm⟩;have h3:=(H2.out.plus hm).p1;clear hm KE H2 d0 d1 d2 d3 d4 d5;obtain⟨d0,d1,d2,d3,d4,d5⟩:=h3.cells6;have df:=h3.free;have h4:=h3.set (i:=5) (.slice yk x.known.length cy);simp only[List.setIfInBounds_toArray,List.set_cons_zero,List.set_cons_succ]at h4;obtain⟨W3,hW3⟩:=nm_ (w2.setCell ⟨p5,5,none⟩ (.slice yk x.known.length cy));rw[<-hW3]at h4
    have H4:=hd_ h4;clear h3 h4;go_upto_region 13 with fail
    rw[<-hW3];clear hW3 d0 d1 d2 d3 d4 d5 df;obtain⟨d0,d1,d2,d3,d4,d5⟩:=H4.out.cells6;obtain⟨b0,b1,b2,b3⟩:=H4.out.p2.cells4;have h5:=H4.out.alloc #[iv x.kind,iv x.src,iv x.dst,iv x.beacon,iv x.level,.slice yk x.known.length cy] 123;have E:=hd_ (M.word x.kind x.src x.dst x.beacon x.level h5.p2).p4.p2;clear h5
    go_wp2_with (at_builtin;go_loud (refine dA sC (pO (T:=TY)) E.out rfl rfl rfl rfl (by rw[LT.out];unfold maxLen;omega) (by rw[LT.out];omega) (N:=j+1) (by rw[LT.out]) ?_);intro y9 d9 w9 h9;have H6:=hd_ h9.p1.drop.p1;clear h9 b0 b1 b2 b3;obtain⟨b0,b1,b2,b3⟩:=H6.out.cells4;have bf:=H6.out.free)
    have h7:=H6.out.set (i:=2) (.slice y9 (j+1) d9);exact zA2
   obtain rfl:lw=j:=o_;have TT:Hid (words.take lw=words):=hd_ (by rw[LW.out];exact List.take_length);rw[TT.out]at H;have HC:=hd_ (M.nil bS 34 1 H.out).p1;go_wp2;clear H a0 a1 a2 a3
   go_loopw [8] (fun z wr=>∃(j c:Nat) (y:Option Addr),j<=lp/\z=.int .i64 (j:Int)/\M w.heap.size w wr [aL p3 30 #[.slice yn ln dn,.slice yl lb dl,.slice yw lw dw,.slice y j c],dN (.slice y j c) (past.take j),bG (.slice yw lw dw) words,bE (.slice yn ln dn) nodes,bY (.slice yl lb dl) links,aL p1 30 #[.slice x1 ln c1,.slice x2 lb c2,.slice x3 lw c3,.slice x4 lp c4],aL p2 30 #[zn,zn,zn,zn]]) (fun z _=>lp - (intOf z).toNat)
   case atStart=>exact⟨0,0,_,Nat.zero_le _,rfl,HC.out⟩
   case round=>
    clear HC;obtain⟨j,c,y,hj,rfl,hM⟩:=hrel;have H:=hd_ hM;clear hM;obtain⟨a0,a1,a2,a3⟩:=H.out.p5.cells4
    by_cases hlt:j<lp
    case pos=>
     obtain⟨rs,hx⟩:∃rs,past[j]? =some rs:=⟨_,List.getElem?_eq_getElem (by have:=LP.out;omega)⟩
     obtain⟨g,xr,cr,fr,rfl,_,_,rr,_,_,d0⟩:=jO N4.out hx;obtain⟨hk,ho⟩:=PK.out rs (List.mem_of_getElem? hx);have ST:=hd_ (lX hx);have LT:Hid ((past.take j).length=j):=hd_ (by rw[List.length_take];have:=LP.out;omega);have j0:(0:Int)<=(j:Int):=o_;have j1:(j:Int)<(lp:Int):=o_;have RR:=hd_ rr;have HO:=hd_ ho;have D0:=hd_ (fun W (h:Below w.heap.size w W)=>cell_later h d0)
     have H2:=hd_ ((H.out.alloc #[] 23).empty cK 1);clear hx rr ho d0 H;go_wp2
     go_loopw [9,10] (fun q z wr=>∃(i c9:Nat) (x9:Option Addr),i<=rs.length/\z=.int .i64 (i:Int)/\q=.slice x9 i c9/\M w.heap.size w wr [rQ (.slice x9 i c9) (rs.take i),aL p3 30 #[.slice yn ln dn,.slice yl lb dl,.slice yw lw dw,.slice y j c],dN (.slice y j c) (past.take j),bG (.slice yw lw dw) words,bE (.slice yn ln dn) nodes,bY (.slice yl lb dl) links,aL p1 30 #[.slice x1 ln c1,.slice x2 lb c2,.slice x3 lw c3,.slice (some ⟨g,0,none⟩) lp c4],aL p2 30 #[zn,zn,zn,zn]]) (fun _ z _=>rs.length - (intOf z).toNat)
     case atStart=>exact⟨0,0,_,Nat.zero_le _,rfl,rfl,H2.out⟩
     case round=>
      clear H2 a0 a1 a2 a3;obtain⟨i,c9,x9,hi,rfl,rfl,hM⟩:=hrel;have HI:=hd_ hM;clear hM;obtain⟨a0,a1,a2,a3⟩:=HI.out.p6.cells4;have d0:=D0.out _ HI.out.below
      by_cases hit:i<rs.length
      case pos=>
       obtain⟨r,hr⟩:∃r,rs[i]? =some r:=⟨_,List.getElem?_eq_getElem hit⟩
       obtain⟨g2,xi,ci,fi,rfl,_,_,ir,_,_,e0⟩:=lH RR.out hr;have lr:=HO.out r (List.mem_of_getElem? hr);have ST2:=hd_ (lX hr);have LT2:Hid ((rs.take i).length=i):=hd_ (by rw[List.length_take];omega);have i0:(0:Int)<=(i:Int):=o_;have i1:(i:Int)<(rs.length:Int):=o_;have E1:=hd_ ((HI.out.alloc #[] 3).empty (aG kY) 1)
       have R1:=hd_ (RdL.fl (cK.below ir E1.out.below lr_));obtain⟨b0,b1,b2,b3⟩:=E1.out.drop.p6.cells4;have d0':=D0.out _ E1.out.below;have e0':=cell_later E1.out.below e0;clear ir hr HI e0
       go_wp2_with (at_builtin;first|(go_loud (refine dA rA tT E2.out rfl rfl rfl rfl (by rw[LT2.out];unfold maxLen;omega) (by rw[LT2.out];omega) (N:=i+1) (by rw[LT2.out]) ?_);intro y9 d9 w9 h9;have H6:=hd_ h9;clear h9 E2)|(go_loud (refine dW sJ (fun _=>rfl) fE E1.out R1.out rfl rfl rfl rfl (by rw[List.length_nil];unfold maxLen;omega) (by rw[List.length_nil];omega) (N:=r.length) (by rw[List.length_nil,Nat.zero_add]) ?_);intro yi di u1 h;rw[List.nil_append]at h;have E2:=hd_ (h.soft.alloc #[.slice yi r.length di] 23).p2.p1;clear h E1 R1 a0 a1 a2 a3 b0 b1 b2 b3 d0 d0' e0'))
       go_roundw
       case rel=>exact⟨i+1,d9,y9,o_,gn_,rfl,by rw[ST2.out];exact H6.out⟩
       case measure=>simp[intOf];omega
      obtain rfl:i=rs.length:=o_;have TT:Hid (rs.take rs.length=rs):=hd_ List.take_length;rw[TT.out]at HI;obtain⟨b0,b1,b2,b3⟩:=HI.out.p1.cells4;have h5:=HI.out.alloc #[.slice x9 rs.length c9] 34;obtain⟨e0,e1,e2,e3⟩:=h5.p2.cells4;have E:=hd_ (h5.p3.p1);clear h5 HI
      go_wp2_with (at_builtin;go_loud (refine dA aLH (nM _ _ _) E.out rfl rfl rfl rfl (by rw[LT.out];unfold maxLen;omega) (by rw[LT.out];omega) (N:=j+1) (by rw[LT.out]) ?_);intro y8 d8 w9 h9;have H6:=hd_ h9.p1;clear h9 b0 b1 b2 b3 e0 e1 e2 e3;obtain⟨b0,b1,b2,b3⟩:=H6.out.cells4;have bf:=H6.out.free)
      have h7:=H6.out.set (i:=3) (.slice y8 (j+1) d8);simp only[List.setIfInBounds_toArray,List.set_cons_zero,List.set_cons_succ]at h7;have H7:=hd_ h7;clear h7;go_roundw
      case rel=>exact⟨j+1,d8,y8,o_,gn_,by rw[ST.out];exact H7.out⟩
      case measure=>simp[intOf];omega
    obtain rfl:lp=j:=o_;have TT:Hid (past.take lp=past):=hd_ (by rw[LP.out];exact List.take_length);rw[TT.out]at H;obtain⟨b0,b1,b2,b3⟩:=H.out.cells4;have H8:=hd_ H.out.p6
    go_wp2_with (refine dG H8.out (vs:=[.slice yn ln dn,.slice yl lb dl,.slice yw lw dw,.slice y lp c]) (ys:=#[.slice yn ln dn,.slice yl lb dl,.slice yw lw dw,.slice y lp c]) rfl rfl rfl rfl aHp rfl (by simp) (by simp[pK]) ?_;intro w3 h3;have H9:=hd_ h3;clear h3)
    obtain⟨e0,e1,e2,e3⟩:=H9.out.cells4;exact bodyPost_ret (v:=.agg #[.slice yn ln dn,.slice yl lb dl,.slice yw lw dw,.slice y lp c]) (by simp[results,results259,go_sem,e0,e1,e2,e3]) rfl ⟨_,_,_,_,rfl,H9.out.drop.drop.p4.drop.p1.p3.p3⟩
def wordsLen (p:Nat) (w:World):Nat:=match w.cell? ⟨p,2,none⟩with
 |some (.slice _ n _)=>n
 |_=>0
section
variable {B:Nat} {w0 w:World} {l:List Ch} {p:Nat}
theorem _root_.Go.Proofs.YtcblbdpdbggkbaaGreat.M.wordsLen {n:Nt} (h:M B w0 w (cU p n::l)):wordsLen p w=n.words.length:=by
 obtain⟨x1,c1,x2,c2,x3,c3,x4,c4,h1⟩:=h.live;obtain⟨a0,a1,a2,a3⟩:=h1.cells4;unfold N.wordsLen;rw[a2]
theorem aKP {n:Nt} (h:n.words.length=0):gI n=n:=by
 obtain⟨ns,ls,ws,ps⟩:=n;obtain rfl:ws=[]:=List.eq_nil_of_length_eq_zero h
 rfl
theorem sQ {n:Nt} (h:M B w0 w (cU p n::l)) (ok:aM n):
  Calls prog 262 #[jG p] w fun r w'=>r=.returned (.tuple #[])/\M B w0 w' (cU p (gI n)::l):=by
 have H0:=hd_ h;have OK:=hd_ ok;clear h ok;go_enter func262,ntmps262;go_wp2;go_loopw [] (fun wr=>∃m,aM m/\gI m=gI n/\M B w0 wr (cU p m::l)) (fun wr=>wordsLen p wr)
 case atStart=>exact⟨n,OK.out,rfl,H0.out⟩
 case round=>
  clear H0 OK;obtain⟨m,okm,am,hM⟩:=hrel;have H:=hd_ hM;have OK:=hd_ okm;have AM:=hd_ am;have WL:=hd_ hM.wordsLen;obtain⟨x1,c1,x2,c2,x3,c3,x4,c4,h1⟩:=hM.live;obtain⟨a0,a1,a2,a3⟩:=h1.cells4;obtain⟨nw,hnw⟩:=nm_ m.words.length;rw[<-hnw]at a2 WL;have NW:=hd_ hnw;clear hM okm am h1 hnw
  by_cases hz:0<nw
  case neg=>
   have E:=hd_ (aKP (n:=m) (by rw[<-NW.out];omega));have z1:¬(0:Int)<(nw:Int):=o_;clear hz;unfold jG;go_wp2
   (try simp only[Exit.inBlock,Exit.then])
   first
    |go_end0
    |(refine bodyPost_ret (v:=.tuple #[]) (by simp[results,results262,go_sem]) rfl ?_)
   rw[<-AM.out,E.out];exact⟨rfl,H.out⟩
  obtain⟨s1,s2,s3⟩:=aJ1 (n:=m) (by rw[<-NW.out];exact hz);have KT:=hd_ (tQ H.out OK.out 0 true false);have O2:=hd_ (zY OK.out s1);rw[s1]at KT;have S2:=hd_ s2;have S3:=hd_ s3;have z1:(0:Int)<(nw:Int):=o_;clear s1 s2 s3 hz;unfold jG at *
  go_wp2_with fail
  refine KT.out.mono ?_;rintro r w2 ⟨rfl,h2⟩;have H2:=hd_ h2;clear h2 KT H a0 a1 a2 a3;go_wp2;go_roundw
  case rel=>exact⟨_,O2.out,by rw[S2.out];exact AM.out,H2.out⟩
  case measure=>
   have h3:=H2.out.wordsLen;have h4:=S3.out;have h5:=WL.out;have h6:=NW.out;simp only[Option.getD_some]at h3;omega
end
def aL3 (w:World) (o:Option Nt) (e:Ending) (w':World):Prop:=∃v1 v2 v3 v4,e=.returned (.tuple #[.agg #[v1,v2,v3,v4],.bool o.isSome])/\M w.heap.size w w' [bE v1 (o.getD aJm).nodes,bY v2 (o.getD aJm).links,bG v3 (o.getD aJm).words,dN v4 (o.getD aJm).past]
theorem tO {w w':World} {l:List Ch} (h:M w.heap.size w w' l):aL3 w none (.returned (.tuple #[.agg #[zn,zn,zn,zn],.bool false])) w':=by
 have h':M w.heap.size w w' []:=⟨h.below,h.low,[],rfl,List.nodup_nil,fun b hb=>by cases hb⟩
 exact⟨_,_,_,_,rfl,(((h'.nil bS 34 1).nil (gQ (T:=TY)) 123 6).nil (aG zV) 4 1).nil (aY (T:=TY)) 55 5⟩
theorem aJ0 {B:Nat} {w0 w:World} {c1 c2 c3 c4:Ch}:∀{l:List Ch},M B w0 w (c1::c2::c3::c4::l)->M B w0 w [c1,c2,c3,c4]
 | [],h=>h
 |_::_,h=>aJ0 h.p4.drop
theorem yY {n:Nt} (ok:aM n):aKo n:=by
 refine⟨by rw[ok.nodes];decide,by rw[ok.links];decide,by have:=ok.words;omega,by rw[ok.past];decide,fun x hx=>?_,fun x hx=>?_,fun rs hr=>?_⟩
 ·obtain⟨i,hi,e⟩:=List.getElem_of_mem hx
  have h5:i<5:=by rw[<-ok.nodes];exact hi
  have hn:aE (i:Int):=by unfold aE;omega
  have ex:aA n (i:Int)=x:=by
   have:=eY ok.nodes h5;rw[List.getElem?_eq_getElem hi,e]at this;exact (Option.some.inj this).symm
  have K:=ok.known _ hn;rw[ex]at K;exact⟨by have:=iZ K;omega,qG K⟩
 ·rcases (ok.word x hx).kind with ⟨_,_,_,kn⟩|⟨_,_,_,kn⟩
  ·rw[kn];exact⟨Nat.zero_le _,fun e he=>by cases he⟩
  ·exact⟨by have:=iZ kn;omega,qG kn⟩
 ·obtain⟨i,hi,e⟩:=List.getElem_of_mem hr
  have h5:i<5:=by rw[<-ok.past];exact hi
  have hn:aE (i:Int):=by unfold aE;omega
  have ex:aO n (i:Int)=rs:=by
   have:=pJ ok.past h5;rw[List.getElem?_eq_getElem hi,e]at this;exact (Option.some.inj this).symm
  have P:=ok.pasts _ hn;have L:=P.len;have B:=ok.born _ hn;have F:=P.few;rw[ex]at L F;exact⟨o_,fun r hr=>by have:=F r hr;omega⟩
def aMm (w:World) (v:Value) (ds:List De):Prop:=(∃x c,v=.slice x ds.length c/\c<=maxLen/\ds.length<=c)/\∀j d,ds[j]? =some d->∃g o c,v=.slice (some ⟨g,o,none⟩) ds.length c/\w.cell? ⟨g,o+j * 3,none⟩=some (.int .i64 d.kind)/\w.cell? ⟨g,o+j * 3+1,none⟩=some (.int .i64 d.a)/\w.cell? ⟨g,o+j * 3+2,none⟩=some (.int .i64 d.b)
def nZ (n:Nt) (ds:List De):Option Nt:=if jF n=true/\ds.length<=200 then some (cO n ds)else none
theorem aJB {n:Nt} {ds:List De} {j:Nat} {d:De} (h:ds[j]? =some d):cO n (ds.take (j+1))=(doN (cO n (ds.take j)) d).getD (cO n (ds.take j)):=by
 unfold cO;rw[lX h,List.foldl_append]
 rfl
theorem aIA {α:Type} {l:List α} {j:Nat} (h:j=l.length):l.take j=l:=by rw[h];exact List.take_length
section
variable {B:Nat} {w0 w:World} {l:List Ch} {p:Nat}
theorem _root_.Go.Proofs.YtcblbdpdbggkbaaGreat.M.rdNet {b v1 v2 v3 v4:Value} {n:Nt} {c:Ch} (h:M B w0 w (c::bE v1 n.nodes::bY v2 n.links::bG v3 n.words::dN v4 n.past::l)):iP w v1 v2 v3 v4 n:=⟨h.p1.nodesRd,h.p2.linksRd,h.p3.wordsRd,h.p4.pastRd⟩
theorem mR (w:World) {x1 x2 x3 x4:Option Addr} {k1 c1 k2 c2 k3 c3 k4 c4:Nat} {n:Nt} {v:Value} {ds:List De} (hn:iP w (.slice x1 k1 c1) (.slice x2 k2 c2) (.slice x3 k3 c3) (.slice x4 k4 c4) n) (hd:aMm w v ds):
  Calls prog 202 #[.agg #[.slice x1 k1 c1,.slice x2 k2 c2,.slice x3 k3 c3,.slice x4 k4 c4],v] w (aL3 w (nZ n ds)):=by
 obtain⟨⟨xd,cd,rfl,cm,dl⟩,hd⟩:=hd;unfold maxLen at cm;obtain⟨m,hm⟩:=nm_ ds.length;have HD:=hd_ hd;rw[<-hm]at HD dl ⊢;have HM:=hd_ hm;have HN:=hd_ hn;have X:=((M.start w).alloc #[.slice x1 k1 c1,.slice x2 k2 c2,.slice x3 k3 c3,.slice x4 k4 c4] 30).alloc #[zn,zn,zn,zn] 30;simp only[World.size_alloc]at X;obtain⟨q1,hq1⟩:=nm_ w.heap.size;obtain⟨q2,hq2⟩:=nm_ (w.heap.size+1)
 obtain⟨W0,hW0⟩:=nm_ ((w.alloc (.cells #[.slice x1 k1 c1,.slice x2 k2 c2,.slice x3 k3 c3,.slice x4 k4 c4] 30)).alloc (.cells #[zn,zn,zn,zn] 30));rw[<-hW0, <-hq2]at X;have H0:=hd_ (show M w.heap.size w W0 [aL q2 30 #[zn,zn,zn,zn],aL q1 30 #[.slice x1 k1 c1,.slice x2 k2 c2,.slice x3 k3 c3,.slice x4 k4 c4]] by rw[hq1];exact X);clear X hd hm hn;obtain⟨b,hb⟩:=nm_ (jF n)
 have KO:=hd_ (oA W0 (HN.out.below H0.out.below lr_));rw[<-hb]at KO;have OB:=hd_ hb;clear hb;go_enter func202,ntmps202;go_upto_region 1 with fail
 rw[<-hW0, <-hq2, <-hq1];clear hW0 hq2 hq1;obtain⟨b0,b1,b2,b3⟩:=H0.out.p1.cells4;cases b
 case false=>
  have E:=hd_ (show nZ n ds=none by unfold nZ;rw[if_neg (fun q=>by rw[<-OB.out]at q;cases q.1)])
  exact zAp
 by_cases hle:m<=200
 case neg=>
  have E:=hd_ (show nZ n ds=none by unfold nZ;rw[if_neg (fun q=>hle (by rw[HM.out];exact q.2))]);have g2:(200:Int)<(m:Int):=o_
  exact zAp
 have E:=hd_ (show nZ n ds=some (cO n ds) by unfold nZ;rw[if_pos ⟨OB.out.symm,by rw[<-HM.out];exact hle⟩]);have OK:=hd_ (hZ.1 OB.out.symm);have g2:¬(200:Int)<(m:Int):=o_
 go_wp2_with fail
 refine KO.out.mono ?_;rintro r w1 ⟨rfl,hb1⟩;have H:=hd_ (H0.out.later hb1);clear hb1 KO H0 b0 b1 b2 b3;go_upto_region 3 with fail
 obtain⟨b0,b1,b2,b3⟩:=H.out.p1.cells4;have KC:=hd_ (xZ w1 (HN.out.below H.out.below lr_) (yY OK.out))
 go_wp2_with fail
 refine KC.out.mono ?_;rintro r w2 ⟨v1,v2,v3,v4,rfl,h2⟩;have h3:=H.out.plus ((h2.alloc #[v1,v2,v3,v4] 289).unlive);obtain⟨y1,d1,rfl,_⟩:=M.form h2;obtain⟨y2,d2,rfl,_⟩:=M.form h2.p1;obtain⟨y3,d3,rfl,_⟩:=M.form h2.p2;obtain⟨y4,d4,rfl,_⟩:=M.form h2.p3;have H3:=hd_ h3;clear h2 h3 KC H b0 b1 b2 b3;go_wp2;generalize w2.alloc _=w3 at H3 ⊢;generalize w2.heap.size=p0 at H3 ⊢
 go_loopw [6,7] (fun y z wr=>∃(j p:Nat),j<=m/\z=.int .i64 (j:Int)/\y=.pointer (some ⟨p,0,none⟩)/\aM (cO n (ds.take j))/\M w.heap.size w wr [cU p (cO n (ds.take j)),aL q2 30 #[zn,zn,zn,zn],aL q1 30 #[.slice x1 k1 c1,.slice x2 k2 c2,.slice x3 k3 c3,.slice x4 k4 c4]]) (fun _ z _=>m - (intOf z).toNat)
 case atStart=>exact⟨0,p0,Nat.zero_le _,rfl,rfl,OK.out,H3.out⟩
 case round=>
  clear H3 OK;obtain⟨j,p,hj,rfl,rfl,hok,hM⟩:=hrel;have H:=hd_ hM;have OK:=hd_ hok;clear hM hok
  by_cases hlt:j<m
  case neg=>
   obtain rfl:j=m:=o_;have TT:Hid (ds.take j=ds):=hd_ (aIA HM.out);rw[TT.out]at H;obtain⟨z1,e1,z2,e2,z3,e3,z4,e4,h1⟩:=H.out.live;obtain⟨a0,a1,a2,a3⟩:=h1.cells4;obtain⟨b0,b1,b2,b3⟩:=h1.p5.cells4;have bf:=h1.p5.free
   have F:=hd_ (h1.p5.set4 (.slice z1 (cO n ds).nodes.length e1) (.slice z2 (cO n ds).links.length e2) (.slice z3 (cO n ds).words.length e3) (.slice z4 (cO n ds).past.length e4));clear h1 H;go_wp2;obtain⟨i0,i1,i2,i3⟩:=F.out.cells4
   (try simp only[Exit.inBlock,Exit.then])
   refine bodyPost_ret (v:=.tuple #[.agg #[.slice z1 (cO n ds).nodes.length e1,.slice z2 (cO n ds).links.length e2,.slice z3 (cO n ds).words.length e3,.slice z4 (cO n ds).past.length e4],.bool true]) (by simp[results,results202,go_sem,i0,i1,i2,i3]) rfl ?_;rw[E.out];exact⟨_,_,_,_,rfl,aJ0 F.out.drop.drop⟩
  obtain⟨d,hd⟩:∃d,ds[j]? =some d:=⟨_,List.getElem?_eq_getElem (by have:=HM.out;omega)⟩
  obtain⟨gd,od,cd',ev,t0,t1,t2⟩:=HD.out j d hd;obtain⟨ev1,_,ev2⟩:=Value.slice.inj ev;cases ev1;cases ev2;clear ev;have hWB:=H.out.below;have RN:=hd_ (aJB (n:=n) hd);have T0:=hd_ (fun W (h:Below w.heap.size w W)=>And.intro (cell_later h t0) (And.intro (cell_later h t1) (cell_later h t2)));obtain⟨z1,e1,z2,e2,z3,e3,z4,e4,h1⟩:=H.out.live;obtain⟨a0,a1,a2,a3⟩:=h1.cells4
  have j0:(0:Int)<=(j:Int):=o_;have j1:(j:Int)<(m:Int):=o_;have KC:=hd_ (xZ wr (M.rdNet (b:=.bool true) h1) (yY OK.out));clear h1 hd t0 t1 t2 hWB
  go_wp2_with fail
  refine KC.out.mono ?_;rintro r w2 ⟨v1,v2,v3,v4,rfl,h2⟩;have h3:=H.out.plus ((h2.alloc #[v1,v2,v3,v4] 289).unlive);obtain⟨y1,d1,rfl,_⟩:=M.form h2;obtain⟨y2,d2,rfl,_⟩:=M.form h2.p1;obtain⟨y3,d3,rfl,_⟩:=M.form h2.p2;obtain⟨y4,d4,rfl,_⟩:=M.form h2.p3;have H3:=hd_ h3;clear h2 h3 KC H a0 a1 a2 a3;go_upto_region 8 with fail
  generalize w2.alloc _=w3 at H3 ⊢;generalize w2.heap.size=p3 at H3 ⊢;obtain⟨t0,t1,t2⟩:=T0.out w3 H3.out.below;have KD:=hd_ (aKH (n:=cO n (ds.take j)) H3.out OK.out d.kind d.a d.b);unfold jG at KD
  go_wp2_with fail
  refine KD.out.mono ?_;rintro r w4 ⟨rfl,n',hn',h4⟩;have H4:=hd_ h4;have N4:=hd_ hn';have RN2:Hid (cO n (ds.take (j+1))=(doN (cO n (ds.take j)) ⟨d.kind,d.a,d.b⟩).getD (cO n (ds.take j))):=hd_ RN.out;clear h4 hn' KD H3 t0 t1 t2 RN;obtain⟨o,ho⟩:=nm_ (doN (cO n (ds.take j)) ⟨d.kind,d.a,d.b⟩);have OO:=hd_ ho;rw[<-ho]at N4 RN2 ⊢;clear ho;cases o
  case none=>
   have H5:=hd_ H4.out.drop;go_wp2;go_roundw
   case rel=>exact⟨j+1,p,o_,gn_,rfl,by rw[RN2.out];exact OK.out,by rw[RN2.out];exact H5.out⟩
   case measure=>simp[intOf];omega
  case some nx=>
   have e5:=N4.out nx rfl;subst e5;have O5:=hd_ (aI4 OK.out OO.out.symm);have H5:=hd_ H4.out.p1.drop;go_wp2;go_roundw
   case rel=>exact⟨j+1,p3,o_,gn_,rfl,by rw[RN2.out];exact O5.out,by rw[RN2.out];exact H5.out⟩
   case measure=>simp[intOf];omega
end
def pD (m:Nt) (i:Int):Nt:=(cA m i).1
def sZ (m:Nt) (i:Int):Nt:=(fX m i).1
def uA (f:Nt->Int->Nt) (r:Nat) (n:Nt):Nt:=(List.range r).foldl (fun m _=>gF f m) n
def zT (f:Nt->Int->Nt) (r k:Nat) (n:Nt):Nt:=(List.range k).foldl (fun (m:Nt) (j:Nat)=>gI (f m (j:Int))) (uA f r n)
theorem aEZ (f:Nt->Int->Nt) (r k:Nat) (n:Nt):zT f r (k+1) n=gI (f (zT f r k n) (k:Int)):=by unfold zT;rw[List.range_succ,List.foldl_append];rfl
theorem vO (f:Nt->Int->Nt) (r:Nat) (n:Nt):zT f r 0 n=uA f r n:=rfl
theorem xA (f:Nt->Int->Nt) (n:Nt):uA f 0 n=n:=rfl
theorem aGv (f:Nt->Int->Nt) (r:Nat) (n:Nt):zT f r 5 n=uA f (r+1) n:=by unfold zT uA;rw[show List.range (r+1)=List.range r++[r]from List.range_succ,List.foldl_append];rfl
def nP (n:Nt):Option Nt:=if jF n=true/\(aA n 0).beacon<1000 then some (aAS n)else none
theorem aKM (n:Nt):aAS n=uA sZ 5 (uA pD 5 (fB (gI n) 0 { aA (gI n) 0 with beacon:=(aA (gI n) 0).beacon+1 })):=rfl
theorem aCZ (w:World) {x1 x2 x3 x4:Option Addr} {k1 c1 k2 c2 k3 c3 k4 c4:Nat} {n:Nt} (hn:iP w (.slice x1 k1 c1) (.slice x2 k2 c2) (.slice x3 k3 c3) (.slice x4 k4 c4) n):
  Calls prog 204 #[.agg #[.slice x1 k1 c1,.slice x2 k2 c2,.slice x3 k3 c3,.slice x4 k4 c4]] w (aL3 w (nP n)):=by
 have HN:=hd_ hn;have X:=((M.start w).alloc #[.slice x1 k1 c1,.slice x2 k2 c2,.slice x3 k3 c3,.slice x4 k4 c4] 30).alloc #[zn,zn,zn,zn] 30;simp only[World.size_alloc]at X;obtain⟨q1,hq1⟩:=nm_ w.heap.size;obtain⟨q2,hq2⟩:=nm_ (w.heap.size+1);obtain⟨W0,hW0⟩:=nm_ ((w.alloc (.cells #[.slice x1 k1 c1,.slice x2 k2 c2,.slice x3 k3 c3,.slice x4 k4 c4] 30)).alloc (.cells #[zn,zn,zn,zn] 30))
 rw[<-hW0, <-hq2]at X;have H0:=hd_ (show M w.heap.size w W0 [aL q2 30 #[zn,zn,zn,zn],aL q1 30 #[.slice x1 k1 c1,.slice x2 k2 c2,.slice x3 k3 c3,.slice x4 k4 c4]] by rw[hq1];exact X);clear X;obtain⟨b,hb⟩:=nm_ (jF n);have KO:=hd_ (oA W0 (HN.out.below H0.out.below lr_));rw[<-hb]at KO;have OB:=hd_ hb;clear hb;obtain⟨fn,n1⟩:=hn.nodes;go_enter func204,ntmps204
 go_upto_region 1 with fail
 rw[<-hW0, <-hq2, <-hq1];clear hW0 hq2 hq1 hn;obtain⟨b0,b1,b2,b3⟩:=H0.out.p1.cells4;cases b
 case false=>
  have E:=hd_ (show nP n=none by unfold nP;rw[if_neg (fun q=>by rw[<-OB.out]at q;cases q.1)]);clear n1
  go_wp2_with fail
  refine KO.out.mono ?_;rintro r w1 ⟨rfl,hb1⟩;have H:=hd_ (H0.out.later hb1);clear hb1 KO H0 b0 b1 b2 b3;exact zAE
 have OK:=hd_ (hZ.1 OB.out.symm);obtain rfl:k1=5:=(aT n1).1.trans OK.out.nodes;obtain⟨nd,hnd⟩:=nm_ (aA n 0);have gx:n.nodes[0]? =some nd:=by rw[hnd];exact eY (i:=0) OK.out.nodes o_
 obtain⟨g0,xk,ck,fk,rfl,_,_,kr,_,_,y0,y1,bz,y3,y4⟩:=cB n1 gx;rw[Nat.zero_mul,Nat.zero_add]at bz;replace bz:=cell_later H0.out.below bz;have ND:=hd_ hnd;clear n1 kr y0 y1 y3 y4 gx hnd
 by_cases hle:nd.beacon<1000
 case neg=>
  have E:=hd_ (show nP n=none by unfold nP;rw[if_neg (fun q=>hle (by rw[ND.out];exact q.2))]);have g2:(1000:Int)<=nd.beacon:=o_;clear hle
  go_wp2_with fail
  refine KO.out.mono ?_;rintro r w1 ⟨rfl,hb1⟩;have H:=hd_ (H0.out.later hb1);have bz':=cell_later hb1 bz;clear hb1 KO H0 b0 b1 b2 b3 bz;obtain⟨b0,b1,b2,b3⟩:=H.out.p1.cells4;exact zAE
 have E:=hd_ (show nP n=some (aAS n) by unfold nP;rw[if_pos ⟨OB.out.symm,by rw[<-ND.out];exact hle⟩]);have BB:Hid ((aA (gI n) 0).beacon+1<=1000):=hd_ (by
    have b0:(aA (gI n) 0).beacon=(aA n 0).beacon:=(uQ n.words OK.out OK.out.word).1
    rw[b0, <-ND.out];omega)
 have g2:¬(1000:Int)<=nd.beacon:=o_;clear hle
 go_wp2_with fail
 refine KO.out.mono ?_;rintro r w1 ⟨rfl,hb1⟩;have H:=hd_ (H0.out.later hb1);have bz':=cell_later hb1 bz;clear hb1 KO H0 b0 b1 b2 b3 bz;obtain⟨b0,b1,b2,b3⟩:=H.out.p1.cells4;have KC:=hd_ (xZ w1 (HN.out.below H.out.below lr_) (yY OK.out))
 go_wp2_with fail
 refine KC.out.mono ?_;rintro r w2 ⟨v1,v2,v3,v4,rfl,h2⟩;have h3:=H.out.plus ((h2.alloc #[v1,v2,v3,v4] 289).unlive);obtain⟨y1,d1,rfl,_⟩:=M.form h2;obtain⟨y2,d2,rfl,_⟩:=M.form h2.p1;obtain⟨y3,d3,rfl,_⟩:=M.form h2.p2;obtain⟨y4,d4,rfl,_⟩:=M.form h2.p3;have H3:=hd_ h3;clear h2 h3 KC H b0 b1 b2 b3 bz';go_upto_region 4 with fail
 generalize w2.alloc _=w3 at H3 ⊢;generalize w2.heap.size=p0 at H3 ⊢;have KA:=hd_ (sQ (n:=n) H3.out OK.out);unfold jG at KA
 go_wp2_with fail
 refine KA.out.mono ?_;rintro r w4 ⟨rfl,h4⟩;have H4:=hd_ h4;have O4:=hd_ (xH OK.out);clear h4 KA H3 OK;obtain⟨m0,hm0⟩:=nm_ (gI n);obtain⟨n1,hn1⟩:=nm_ (fB m0 0 { aA m0 0 with beacon:=(aA m0 0).beacon+1 });have E1:Hid (nP n=some (uA sZ 5 (uA pD 5 n1))):=hd_ (by rw[E.out,aKM, <-hm0, <-hn1]);rw[<-hm0]at H4 O4 BB
 have O5:Hid (aM n1):=hd_ (by rw[hn1];exact yR O4.out BB.out);clear E;have E:=E1;clear E1 hm0;obtain⟨md,hmd⟩:=nm_ (aA m0 0);have gx:m0.nodes[0]? =some md:=by rw[hmd];exact eY (i:=0) O4.out.nodes o_
 have bm:0<=md.beacon/\md.beacon+1<=1000:=by
  rw[hmd];exact⟨((O4.out.way 0 bA).beacon).1,BB.out⟩
 obtain⟨bm0,bm1⟩:=bm;have l5:=O4.out.nodes;rw[<-hmd]at hn1;have en1:n1={ m0 with nodes:=m0.nodes.set 0 { md with beacon:=md.beacon+1 } }:=hn1;obtain⟨ns,ls,ws,ps⟩:=m0;simp only at gx l5 en1;obtain⟨z1,e1,z2,e2,z3,e3,z4,e4,h1⟩:=H4.out.live;simp only at h1;rw[l5]at h1;have h2:=h1.drew;obtain⟨f1,hf1⟩:=h2.p1.nodesRd;obtain⟨g1,xk1,ck1,fk1,rfl,_,_,kr,_,_,y0,yy1,bz,yy3,yy4⟩:=cB hf1 gx
 rw[Nat.zero_mul,Nat.zero_add]at bz;obtain⟨a0,a1,a2,a3⟩:=h2.cells4;have S0:Hid (aH w4.drew (b4L p0 (.slice (some ⟨g1,0,none⟩) 5 e1) (.slice z2 ls.length e2) (.slice z3 ws.length e3) (.slice z4 ps.length e4)++[(⟨g1,2,none⟩,.int .i64 md.beacon)])):=hd_ ⟨a0,a1,a2,a3,bz,trivial⟩;obtain⟨⟨u,cu⟩,fu,h3⟩:=(M.setNum h2.p1 gx (md.beacon+1)).2.1;rw[Nat.zero_mul,Nat.zero_add]at cu fu h3
 have wr1:IntKind.i64.wrap (md.beacon+1)=md.beacon+1:=IntWalk.i64_in _ o_;obtain⟨V,hV⟩:=nm_ w4.drew;rw[<-hV]at S0 cu fu h3;have EV:=hd_ hV;have H5':=hd_ (show M w.heap.size w _ [cU p0 n1,aL q2 30 #[zn,zn,zn,zn],aL q1 30 #[.slice (some ⟨g0,0,none⟩) 5 c1,.slice x2 k2 c2,.slice x3 k3 c3,.slice x4 k4 c4]] by rw[en1];exact (h3.p1).unlive)
 clear hV h1 h2 h3 hf1 kr y0 yy1 bz yy3 yy4 a0 a1 a2 a3 hmd H4 O4 gx l5 en1 hn1 BB OB ND HN;go_wp2
 refine aC 16 (.tk 0 16 (.alt 16 .done .nomore)) (fun w'=>aH w' (b4L p0 (.slice (some ⟨g1,0,none⟩) 5 e1) (.slice z2 ls.length e2) (.slice z3 ws.length e3) (.slice z4 ps.length e4)++[(⟨g1,2,none⟩,.int .i64 md.beacon)])) kr_ kr_ (fun _ _ _ _ _ h=>h) (by rw[<-EV.out];exact S0.out) ?_;rw[<-EV.out]
 repeat (first|refine tC_ ?_|refine tB_ ?_)
 refine aB r_ (fun K hK=>?_);go_simp;refine hK _ _ (.inl rfl) ?_;clear hK K
 try refine tP_ ?_
 refine aD ?_;obtain⟨V2,hV2⟩:=nm_ (V.setCell ⟨g1,2,none⟩ (iv (md.beacon+1)));rw[<-hV2]at H5' ⊢;have H5:=H5';clear hV2 cu fu S0 EV H5';go_wp2
 go_loopw [5] (fun z wr=>∃r:Nat,r<=5/\z=.int .i64 (r:Int)/\aM (uA pD r n1)/\M w.heap.size w wr [cU p0 (uA pD r n1),aL q2 30 #[zn,zn,zn,zn],aL q1 30 #[.slice (some ⟨g0,0,none⟩) 5 c1,.slice x2 k2 c2,.slice x3 k3 c3,.slice x4 k4 c4]]) (fun z _=>5 - (intOf z).toNat)
 case atStart=>exact⟨0,o_,rfl,by rw[xA];exact O5.out,by rw[xA];exact H5.out⟩
 case round=>
  clear H5 O5;obtain⟨r,hr,rfl,hok,hM⟩:=hrel;have H:=hd_ hM;have OK:=hd_ hok;clear hM hok
  by_cases hr5:r<5
  case pos=>
   have r1:(r:Int)<5:=o_;go_wp2;go_loopw [6] (fun z wr=>∃k:Nat,k<=5/\z=.int .i64 (k:Int)/\aM (zT pD r k n1)/\M w.heap.size w wr [cU p0 (zT pD r k n1),aL q2 30 #[zn,zn,zn,zn],aL q1 30 #[.slice (some ⟨g0,0,none⟩) 5 c1,.slice x2 k2 c2,.slice x3 k3 c3,.slice x4 k4 c4]]) (fun z _=>5 - (intOf z).toNat)
   case atStart=>exact⟨0,o_,rfl,by rw[vO];exact OK.out,by rw[vO];exact H.out⟩
   case round=>
    clear H OK;obtain⟨k,hk,rfl,hok,hM⟩:=hrel;have H:=hd_ hM;have OK:=hd_ hok;clear hM hok
    by_cases hk5:k<5
    case pos=>
     have k1:(k:Int)<5:=o_;have hin:aE (k:Int):=by unfold aE;omega
     obtain⟨o1,nn,_,_⟩:=pA OK.out hin;have O1:=hd_ o1;have KH:=hd_ (aAm (n:=zT pD r k n1) (i:=k) H.out (iW OK.out) hk5);have PX:=hd_ (aEZ pD r k n1);exact zAu
    obtain rfl:k=5:=o_;have PX:=hd_ (aGv pD r n1);exact zBm
  obtain rfl:r=5:=o_
  try simp only[Int.cast_ofNat_Int]
  obtain⟨n2,hn2⟩:=nm_ (uA pD 5 n1);rw[<-hn2]at H OK;have HN2:=hd_ hn2;clear hn2;have H7:=H;have O7:=OK;clear H OK;go_wp2
  go_loopw [7] (fun z wr=>∃r:Nat,r<=5/\z=.int .i64 (r:Int)/\aM (uA sZ r n2)/\M w.heap.size w wr [cU p0 (uA sZ r n2),aL q2 30 #[zn,zn,zn,zn],aL q1 30 #[.slice (some ⟨g0,0,none⟩) 5 c1,.slice x2 k2 c2,.slice x3 k3 c3,.slice x4 k4 c4]]) (fun z _=>5 - (intOf z).toNat)
  case atStart=>exact⟨0,o_,rfl,by rw[xA];exact O7.out,by rw[xA];exact H7.out⟩
  case round=>
   clear H7 O7;obtain⟨r,hr,rfl,hok,hM⟩:=hrel;have H:=hd_ hM;have OK:=hd_ hok;clear hM hok
   by_cases hr5:r<5
   case pos=>
    have r1:(r:Int)<5:=o_;go_wp2;go_loopw [8] (fun z wr=>∃k:Nat,k<=5/\z=.int .i64 (k:Int)/\aM (zT sZ r k n2)/\M w.heap.size w wr [cU p0 (zT sZ r k n2),aL q2 30 #[zn,zn,zn,zn],aL q1 30 #[.slice (some ⟨g0,0,none⟩) 5 c1,.slice x2 k2 c2,.slice x3 k3 c3,.slice x4 k4 c4]]) (fun z _=>5 - (intOf z).toNat)
    case atStart=>exact⟨0,o_,rfl,by rw[vO];exact OK.out,by rw[vO];exact H.out⟩
    case round=>
     clear H OK;obtain⟨k,hk,rfl,hok,hM⟩:=hrel;have H:=hd_ hM;have OK:=hd_ hok;clear hM hok
     by_cases hk5:k<5
     case pos=>
      have k1:(k:Int)<5:=o_;have hin:aE (k:Int):=by unfold aE;omega
      obtain⟨o1,nn,_,_⟩:=aAH OK.out hin;have O1:=hd_ o1;have KH:=hd_ (aCB (n:=zT sZ r k n2) (i:=k) H.out (iW OK.out) hk5 (aKd OK.out hin) (by have:=iZ (OK.out.known _ hin);omega) (qG (OK.out.known _ hin)));have PX:=hd_ (aEZ sZ r k n2);exact zAu
     obtain rfl:k=5:=o_;have PX:=hd_ (aGv sZ r n2);exact zBm
   obtain rfl:r=5:=o_
   try simp only[Int.cast_ofNat_Int]
   have E2:Hid (nP n=some (uA sZ 5 n2)):=hd_ (by rw[E.out,HN2.out]);obtain⟨mm,hmm⟩:=nm_ (uA sZ 5 n2);rw[<-hmm]at H E2;clear hmm;obtain⟨z1,e1,z2,e2,z3,e3,z4,e4,h1⟩:=H.out.live;obtain⟨a0,a1,a2,a3⟩:=h1.cells4;obtain⟨b0,b1,b2,b3⟩:=h1.p5.cells4;have bf:=h1.p5.free
   have F:=hd_ (h1.p5.set4 (.slice z1 mm.nodes.length e1) (.slice z2 mm.links.length e2) (.slice z3 mm.words.length e3) (.slice z4 mm.past.length e4));clear h1 H;go_wp2;obtain⟨i0,i1,i2,i3⟩:=F.out.cells4
   (try simp only[Exit.inBlock,Exit.then])
   refine bodyPost_ret (v:=.tuple #[.agg #[.slice z1 mm.nodes.length e1,.slice z2 mm.links.length e2,.slice z3 mm.words.length e3,.slice z4 mm.past.length e4],.bool true]) (by simp[results,results204,go_sem,i0,i1,i2,i3]) rfl ?_;rw[E2.out];exact⟨_,_,_,_,rfl,aJ0 F.out.drop.drop⟩
def rN (d:De):List Value:=[iv d.kind,iv d.a,iv d.b]
theorem tV (d:De):(rN d).length=3:=rfl
theorem aCa (d:De):∀u ∈ rN d,u.oneCell'=true:=fun u hu=>by
 simp only[rN,List.mem_cons,List.mem_nil_iff,or_false]at hu;rcases hu with rfl|rfl|rfl<;>rfl
def dsC (v:Value) (ds:List De):Ch:=fL (aG rN) 292 3 v ds
theorem aMj:SlT prog 237 292 (.agg #[iv 0,iv 0,iv 0]) 3 24:=⟨underlying237,by kernel_rfl,rfl,by decide⟩
theorem aJn {α:Type} {B b:Nat} {w0 w:World} {l:List Ch} {e:TypeId} {enc:α->List Value} {xs:List α} (h:M B w0 w (aL b e (xs.flatMap enc).toArray::l)) (c:Nat):RdL enc w (.slice (some ⟨b,0,none⟩) xs.length c) xs:=
 .inr ⟨_,c,rfl,fun j z hz=>by rw[Addr.add_mid,Nat.zero_add];exact h.cell (by simpa using hz)⟩
theorem aLd {B b:Nat} {w0 w:World} {l:List Ch} {e:TypeId} {x y z:Int} (h:M B w0 w (aL b e #[iv x,iv y,iv z]::l)):RdL rN w (.slice (some ⟨b,0,none⟩) 1 1) [(⟨x,y,z⟩:De)]:=aJn (xs:=[(⟨x,y,z⟩:De)]) h 1
def aLN:List De:=[⟨2,0,0⟩,⟨4,0,0⟩,⟨2,1,0⟩,⟨4,0,0⟩]
section
variable {B a k:Nat} {w0 w:World} {l:List Ch}
theorem _root_.Go.Proofs.YtcblbdpdbggkbaaGreat.M.dsRd {v:Value} {ds:List De} (h:M B w0 w (dsC v ds::l)):aMm w v ds:=by
 obtain⟨f,hf,_⟩:=h.first;obtain⟨_,e,o,_⟩:=eE hf;cases e;rcases o.2 with ⟨rfl,h0⟩|⟨g,cap,cur,rfl,_,hg,hn,hc,hs,ht⟩
 ·obtain rfl:ds=[]:=List.eq_nil_of_length_eq_zero h0
  exact⟨⟨_,0,rfl,Nat.zero_le _,Nat.le_refl _⟩,fun j d hd=>by simp at hd⟩
 ·refine⟨⟨_,cap,rfl,hc,hn⟩,fun j d hd=>⟨g,0,cap,rfl,?_⟩⟩
  have hj:=(List.getElem?_eq_some_iff.1 hd).1;have fl:∀i,i<3->(ds.flatMap rN)[j * 3+i]? =(rN d)[i]? :=fun i hi=>by
   have e1:(ds.flatMap rN).drop (j * 3)=(ds.drop j).flatMap rN:=(qP tV ds j).symm;rw[<-List.getElem?_drop,e1,aAa hd,List.flatMap_cons,List.getElem?_append_left (by rw[tV];exact hi)]
  have cl:∀i,i<3->w.cell? ⟨g,j * 3+i,none⟩=(rN d)[i]? :=fun i hi=>by
   rw[World.ownsRow.cellAt o _ o_,fl i hi]
  simp only[Nat.zero_add];exact⟨by have:=cl 0 o_;rwa[Nat.add_zero]at this,cl 1 o_,cl 2 o_⟩
theorem nE (h:M B w0 w (rdC w0 B a k::l)) (hk:k<=90000) {most:Int} (hm:0<=most/\most<=100):Calls prog 203 #[.pointer (some ⟨a,0,Option.none⟩),iv most] w fun e w'=>∃x m c ds,e=.returned (.slice x m c)/\m=ds.length/\m<=104/\M B w0 w' (dsC (.slice x m c) ds::rdC w0 B a (k+402)::l):=by
 obtain⟨hm0,hm1⟩:=hm;have wr1:IntKind.i64.wrap (most+1)=most+1:=IntWalk.i64_in _ o_;have H:=hd_ ((h.alloc #[] 292).empty (aG rN) 3);clear h;obtain⟨p,hp⟩:=nm_ w.heap.size;obtain⟨W,hW⟩:=nm_ (w.alloc (.cells #[] 292));rw[<-hW, <-hp]at H;go_enter func203,ntmps203;go_upto_region 2 with fail
 rw[<-hW, <-hp];clear hW hp
 go_wp2_with fail
 refine (H.out.p1.pick o_ 2 o_ o_).mono ?_;rintro e wA ⟨q,rfl,q0,q1,hA⟩;have HA:=hd_ hA.p1;clear hA H
 go_upto_if 10 with fail
 go_cut [5] (fun v wx=>∃x m c ds,v=.slice x m c/\m=ds.length/\m<=4/\M B w0 wx (dsC (.slice x m c) ds::rdC w0 B a (k+1)::l))
 case first=>
  by_cases hq:q=0
  case pos=>
   subst hq;have hD:=HA.out.alloc #[iv 2,iv 0,iv 0,iv 4,iv 0,iv 0,iv 2,iv 1,iv 0,iv 4,iv 0,iv 0] 292;have RD:=hd_ (aJn (xs:=aLN) (enc:=rN) hD 4);have HD:=hd_ hD.p1;clear hD HA
   go_wp2_with (at_builtin;go_loud (refine dW aMj tV aCa HD.out RD.out rfl rfl rfl rfl (by unfold maxLen aLN;simp only[List.length_cons,List.length_nil];omega) (by unfold aLN;simp only[List.length_cons,List.length_nil];omega) (N:=4) r_ ?_);intro y9 d9 w' h1;have HF:=hd_ h1.p1.drop;clear h1)
   go_meet
   exact⟨y9,4,d9,_,rfl,rfl,o_,HF.out⟩
  case neg=>
   have gq:(q==0)=false:=by simpa using hq
   clear hq
   go_wp2_with fail
   go_meet
   exact⟨_,0,0,[],rfl,rfl,o_,HA.out⟩
 case rest=>
  obtain⟨x,m,c,ds,rfl,hm,m4,hM⟩:=hcut;have H2:=hd_ hM;have HM:=hd_ hm;clear hm hM HA
  go_wp2_with fail
  refine (H2.out.p1.pick o_ (most+1) o_ o_).mono ?_;rintro e wB ⟨q2,rfl,r0,r1,hB⟩;obtain⟨j0,rfl⟩:∃j:Nat,q2=j:=⟨q2.toNat,o_⟩
  have HB:=hd_ hB.p1;clear hB H2;have j0m:j0<=100:=o_;clear r0 r1;go_wp2;go_loopw [5,6] (fun y z wr=>∃(j m c:Nat) (x:Option Addr) (ds:List De),j<=j0/\z=.int .i64 (j:Int)/\y=.slice x m c/\m=ds.length/\m+j<=4+j0/\M B w0 wr (dsC (.slice x m c) ds::rdC w0 B a (k+2+4 * (j0 - j))::l)) (fun _ z _=>(intOf z).toNat)
  case atStart=>exact⟨j0,m,c,x,ds,o_,rfl,rfl,HM.out,o_,(dU HB.out.p1 o_).p1⟩
  case round=>
   clear HB HM;obtain⟨j,m,c,x,ds,hj,rfl,rfl,hm,mj,hM⟩:=hrel;have H:=hd_ hM;have HM:=hd_ hm;clear hm hM
   by_cases hz:0<j
   case neg=>
    obtain rfl:j=0:=o_;go_wp2;go_ret;exact⟨x,m,c,ds,rfl,HM.out,o_,(dU H.out.p1 o_).p1⟩
   have z1:(0:Int)<(j:Int):=o_;have wr2:IntKind.i64.wrap ((j:Int) - 1)=(j:Int) - 1:=IntWalk.i64_in _ o_
   go_wp2_with fail
   refine (aEV H.out.p1 o_).mono ?_;rintro e wC ⟨d1,d2,d3,rfl,hC⟩;have hD:=hC.alloc #[iv d1,iv d2,iv d3] 292;have RD:=hd_ (aLd hD);have HD:=hd_ hD.p2;clear hC hD H
   go_wp2_with (at_builtin;go_loud (refine dW aMj tV aCa HD.out RD.out rfl rfl rfl rfl (by rw[<-HM.out];unfold maxLen;simp only[List.length_cons,List.length_nil];omega) (by rw[<-HM.out];simp only[List.length_cons,List.length_nil];omega) (N:=m+1) (by rw[<-HM.out];rfl) ?_);intro y9 d9 w' h1;have HF:=hd_ h1.p1.drop;clear h1)
   go_roundw
   case rel=>exact⟨j - 1,m+1,d9,y9,ds++[(⟨d1,d2,d3⟩:De)],o_,gn_,rfl,by rw[List.length_append, <-HM.out];rfl,o_,(dU HF.out.p1 o_).p1⟩
   case measure=>simp[intOf];omega
end
structure aBo (zs:List Int):Prop where
 even:zs.length % 2=0
 two:fO zs=true
theorem aAs:∀(zs:List Int) (a b:Int),zs.length % 2=0->fO zs=true->(in6 a 0 4&&(in6 b 0 4&&decide (a≠b)))=true->fO (zs++[a,b])=true
 | [],a,b,_,_,h=>by
  show ((in6 a 0 4&&(in6 b 0 4&&decide (a≠b)))&&true)=true
  rw[h];rfl
 | [_],_,_,h,_,_=>by simp at h
 |x::y::zs,a,b,h,hp,hab=>by
  rw[List.length_cons,List.length_cons]at h;have hp':((in6 x 0 4&&(in6 y 0 4&&decide (x≠y)))&&fO zs)=true:=hp;rw[Bool.and_eq_true]at hp';show ((in6 x 0 4&&(in6 y 0 4&&decide (x≠y)))&&fO (zs++[a,b]))=true
  rw[hp'.1,aAs zs a b o_ hp'.2 hab]
  rfl
theorem aBo.more {zs:List Int} (h:aBo zs) {a b:Int} (ha:0<=a/\a<=4) (hb:0<=b/\b<=4) (hab:a≠b):aBo (zs++[a,b]):=
 ⟨by rw[List.length_append];have:=h.even;simp only[List.length_cons,List.length_nil];omega,aAs zs a b h.even h.two (by
    have h1:in6 a 0 4=true:=by unfold in6;exact decide_eq_true ha
    have h2:in6 b 0 4=true:=by unfold in6;exact decide_eq_true hb
    rw[h1,h2,decide_eq_true hab];rfl)⟩
section
variable {B a k:Nat} {w0 w:World} {l:List Ch}
theorem aBv (h:M B w0 w (rdC w0 B a k::l)) (hk:k<=99900):Calls prog 64 #[.pointer (some ⟨a,0,Option.none⟩)] w fun e w'=>∃x m c zs,e=.returned (.slice x m c)/\m=zs.length/\aBo zs/\m<=16/\M B w0 w' (aGy (.slice x m c) zs::rdC w0 B a (k+16)::l):=by
 have H:=hd_ ((h.alloc #[] 3).empty (aG kY) 1);clear h;obtain⟨p,hp⟩:=nm_ w.heap.size;obtain⟨W,hW⟩:=nm_ (w.alloc (.cells #[] 3));rw[<-hW, <-hp]at H;go_enter func64,ntmps64;go_upto_region 2 with fail
 rw[<-hW, <-hp];clear hW hp;go_wp2;go_loopw [3,4] (fun y z wr=>∃(j m c:Nat) (x:Option Addr) (zs:List Int),1<=j/\j<=5/\z=.int .i64 (j:Int)/\y=.slice x m c/\m=zs.length/\aBo zs/\m<=4 * (j - 1)/\M B w0 wr (aGy (.slice x m c) zs::rdC w0 B a (k+4 * (j - 1))::l)) (fun _ z _=>5 - (intOf z).toNat)
 case atStart=>exact⟨1,0,0,_,[],o_,o_,rfl,rfl,rfl,⟨rfl,rfl⟩,o_,H.out⟩
 case round=>
  clear H;obtain⟨j,m,c,x,zs,j1,j5,rfl,rfl,hm,hpk,mm,hM⟩:=hrel;have PK:=hd_ hpk;clear hpk;have H:=hd_ hM;have HM:=hd_ hm;clear hm hM
  by_cases hlt:j<5
  case neg=>
   obtain rfl:j=5:=o_;go_wp2;go_ret;exact⟨x,m,c,zs,rfl,HM.out,PK.out,o_,H.out⟩
  have k1':(j:Int)<5:=o_
  go_wp2_with fail
  refine (H.out.p1.pick o_ 8 o_ o_).mono ?_;rintro e wA ⟨p,rfl,p0,p1,hA⟩;have HA:=hd_ hA.p1;clear hA H
  by_cases hp:0<p
  case neg=>
   go_wp2_with fail
   refine (HA.out.p1.pick o_ 3 o_ o_).mono ?_;rintro e wB ⟨q,rfl,q0,q1,hB⟩;have HB:=hd_ hB.p1;clear hB HA
   by_cases hq:q=0
   case neg=>
    have gq:(q==0)=false:=by simpa using hq
    go_wp2;go_roundw
    case rel=>exact⟨j+1,m,c,x,zs,o_,o_,gn_,rfl,HM.out,PK.out,o_,(dU HB.out.p1 o_).p1⟩
    case measure=>simp[intOf];omega
   subst hq
   go_wp2_with fail
   refine (HB.out.p1.pick o_ 5 o_ o_).mono ?_;rintro e wC ⟨s,rfl,s0,s1,hC⟩;have HC:=hd_ hC.p1;clear hC HB
   by_cases hs:s=(j:Int)
   case pos=>
    have gs:(s != (j:Int))=false:=by simpa using hs
    go_wp2;go_roundw
    case rel=>exact⟨j+1,m,c,x,zs,o_,o_,gn_,rfl,HM.out,PK.out,o_,(dU HC.out.p1 o_).p1⟩
    case measure=>simp[intOf];omega
   have gs:(s != (j:Int))=true:=by simpa using hs
   have hD:=HC.out.alloc #[iv (j:Int),iv s] 3;have RD:=hd_ (aFR hD);have HD:=hd_ hD.p1;clear hD HC
   go_wp2_with (at_builtin;go_loud (refine dW sJ (fun _=>rfl) fE HD.out RD.out rfl rfl rfl rfl (by rw[<-HM.out];unfold maxLen;simp only[List.length_cons,List.length_nil];omega) (by rw[<-HM.out];simp only[List.length_cons,List.length_nil];omega) (N:=m+2) (by rw[<-HM.out];rfl) ?_);intro y9 d9 w' h1;have HF:=hd_ h1.p1.drop;clear h1)
   go_roundw
   case rel=>exact⟨j+1,m+2,d9,y9,zs++[(j:Int),s],o_,o_,gn_,rfl,by rw[List.length_append, <-HM.out];rfl,PK.out.more o_ o_ (fun q=>hs q.symm),o_,(dU HF.out.p1 o_).p1⟩
   case measure=>simp[intOf];omega
  go_wp2_with fail
  refine (HA.out.p1.pick o_ (j:Int) o_ o_).mono ?_;rintro e wG ⟨r,rfl,r0,r1,hG⟩;have hD:=hG.p1.alloc #[iv (j:Int),iv r] 3;have RG:=hd_ (aFR hD);have HG:=hd_ hD.p1;clear hG hD HA;obtain⟨m',hm'⟩:=nm_ (m+2);have HP:=hd_ hm';clear hm'
  go_upto_region 7 with (at_builtin;go_loud (refine dW sJ (fun _=>rfl) fE HG.out RG.out rfl rfl rfl rfl (by rw[<-HM.out];unfold maxLen;simp only[List.length_cons,List.length_nil];omega) (by rw[<-HM.out];simp only[List.length_cons,List.length_nil];omega) (N:=m') (by rw[<-HM.out,HP.out];rfl) ?_);intro y8 d8 w' h1;have HJ:=hd_ h1.p1.drop;clear h1)
  have HN:=hd_ (show m'=(zs++[(j:Int),r]).length by rw[List.length_append, <-HM.out,HP.out];rfl);have mp:m'<=4 * (j - 1)+2:=by have:=HP.out;omega
  clear HG RG HM HP;have PK2:=hd_ (PK.out.more (a:=(j:Int)) (b:=r) o_ o_ o_);generalize zs++[(j:Int),r]=zt at HJ HN PK2
  go_wp2_with fail
  refine (HJ.out.p1.pick o_ 3 o_ o_).mono ?_;rintro e wB ⟨q,rfl,q0,q1,hB⟩;have HB:=hd_ hB.p1;clear hB HJ
  by_cases hq:q=0
  case neg=>
   have gq:(q==0)=false:=by simpa using hq
   go_wp2;go_roundw
   case rel=>exact⟨j+1,m',d8,y8,zt,o_,o_,gn_,rfl,HN.out,PK2.out,o_,(dU HB.out.p1 o_).p1⟩
   case measure=>simp[intOf];omega
  subst hq
  go_wp2_with fail
  refine (HB.out.p1.pick o_ 5 o_ o_).mono ?_;rintro e wC ⟨s,rfl,s0,s1,hC⟩;have HC:=hd_ hC.p1;clear hC HB
  by_cases hs:s=(j:Int)
  case pos=>
   have gs:(s != (j:Int))=false:=by simpa using hs
   go_wp2;go_roundw
   case rel=>exact⟨j+1,m',d8,y8,zt,o_,o_,gn_,rfl,HN.out,PK2.out,o_,(dU HC.out.p1 o_).p1⟩
   case measure=>simp[intOf];omega
  have gs:(s != (j:Int))=true:=by simpa using hs
  have hD:=HC.out.alloc #[iv (j:Int),iv s] 3;have RD:=hd_ (aFR hD);have HD:=hd_ hD.p1;clear hD HC
  go_wp2_with (at_builtin;go_loud (refine dW sJ (fun _=>rfl) fE HD.out RD.out rfl rfl rfl rfl (by rw[<-HN.out];unfold maxLen;simp only[List.length_cons,List.length_nil];omega) (by rw[<-HN.out];simp only[List.length_cons,List.length_nil];omega) (N:=m'+2) (by rw[<-HN.out];rfl) ?_);intro y9 d9 w' h1;have HF:=hd_ h1.p1.drop;clear h1)
  go_roundw
  case rel=>exact⟨j+1,m'+2,d9,y9,zt++[(j:Int),s],o_,o_,gn_,rfl,by rw[List.length_append, <-HN.out];rfl,PK2.out.more o_ o_ (fun q=>hs q.symm),o_,(dU HF.out.p1 o_).p1⟩
  case measure=>simp[intOf];omega
end
end N
end Go.Proofs.YtcblbdpdbggkbaaGreat
