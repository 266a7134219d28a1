/-
  What the laws of Kn need of the texts before it, part 11.
-/
import Derived.ArgAppend
import Derived.BigQuiet
import Derived.Carry
import Derived.ChangeSame
import Derived.Deep.AppendLies
import Derived.Deep.Cut
import Derived.Deep.DeepCutAuto
import Derived.Deep.DrawnRows
import Derived.Deep.Fields
import Derived.Deep.Matrix
import Derived.Deep.MidRow
import Derived.Deep.OwnRows
import Derived.Deep.QuietTactic
import Derived.Deep.RegionHeld3
import Derived.Deep.RegionLaw
import Derived.Deep.RegionLawGrows
import Derived.Deep.RegionWith
import Derived.Deep.Slices
import Derived.Deep.WholeRow
import Derived.DeepKeys5
import Derived.Handy
import Derived.IntWalk
import Derived.KernelRfl
import Derived.Laws.AppendOwnNone
import Derived.Laws.EntriesVeiled
import Derived.Laws.ResultCell
import Derived.Lib.AppendZerosOnto
import Derived.Lib.Hide
import Derived.Lib.QuietBelow
import Derived.Lib.SliceRun
import Derived.Lib.SmallJoins
import Derived.Lib.Walk
import Derived.LoopIn
import Derived.LoopN
import Derived.LoopNIn
import Derived.Maps.AppendAt
import Derived.Maps.Keyed
import Derived.Maps.Own
import Derived.OneCell
import Derived.OpenShut
import Derived.OrdersHeld
import Derived.OwnWalkIn
import Derived.RangeFuncBound
import Derived.RangeFuncBox
import Derived.RangeFuncCalls
import Derived.RangeFuncLeaves
import Derived.RangeFuncNested
import Derived.RegionTactic
import Derived.Shelf.Abstract
import Derived.Shelf.RegionOpen
import Derived.Shelf.SlSortCmp.InsertionK
import Derived.StillTail
import Derived.TacticsInMore
import Derived.Test.YtcblbdpdbggkbaaGreatRows
import Derived.WalkKit
import Derived.WalkLawsBesides
import Derived.WalkSmall
import Derived.WalkSpells
import Derived.Test.YtcblbdpdbggkbaaGreatSKn10
set_option maxRecDepth 100000
set_option maxHeartbeats 16000000
set_option linter.unusedVariables false
set_option linter.unusedSectionVars false
set_option linter.unusedSimpArgs false
namespace Go.Proofs.YtcblbdpdbggkbaaGreat
theorem zr {P:Prop} (h:P:=by
 refine aB r_ (fun K hK=>?_);go_simp;refine hK _ _ (.inl rfl) ?_;clear hK K
 try refine tP_ ?_
 refine aD ?_
 go_wp2_with fail
 go_meet
 exact hN):P:=h
theorem zAd {P:Prop} (h:P:=by
 go_wp2
 first
  |go_end0
  |((try simp only[Exit.inBlock,Exit.then]);refine bodyPost_ret (v:=.tuple #[]) (by simp[results,results306,go_sem]) rfl ?_)
 rw[E.out];exact⟨rfl,(H3.out.p2.drop.p2.drop.p1).unlive⟩):P:=h
theorem zAl {P:Prop} (h:P:=by
 rw[List.nil_append]at k4;refine hK _ _ (.inr (C4.out.below k4.below)) ?_;clear hK K
 try refine tP_ ?_
 refine aB r_ (fun K hK=>bR sJ (fun _=>rfl) fE k4 (aCN k4.p1) r_ r_ r_ r_ (by simp only[List.length_cons,List.length_nil];unfold maxLen;omega) (by simp only[List.length_cons,List.length_nil];omega) (N:=lp.length+1) r_ (fun y9 cap9 w9 k9=>?_));refine hK _ _ (.inr (C4.out.below k9.below)) ?_;clear hK K
 try refine tP_ ?_
 repeat (first|refine tC_ ?_|refine tB_ ?_)
 obtain⟨⟨u,cu⟩,fu,hN⟩:=FIN.out _ _ _ k9;exact zr):P:=h
theorem zA0 {P:Prop} (h:P:=by
 go_wp2;go_ret;exact⟨by rw[F.out];rfl,by rw[<-HP.out];exact H3.out.below⟩):P:=h
theorem zA1 {P:Prop} (h:P:=by
 go_wp2_with fail
 refine KE.out.mono ?_;rintro r w3 ⟨y,cy,rfl,hm⟩;have H3:=hd_ (H2.out.plus hm);clear hm KE H2 a0 a1 a2 a3 b1;go_wp2;go_ret;exact⟨y,cy,by rw[EF.out];rfl,by rw[EF.out];exact H3.out.p1.drop⟩):P:=h
theorem zBl {P:Prop} (h:P:=by
 obtain rfl:j=es.length:=o_
 have ST:Hid (es.take es.length=es):=hd_ List.take_length;rw[ST.out]at H;go_wp2;go_ret;exact⟨_,_,rfl,H.out⟩):P:=h
theorem zBn {P:Prop} (h:P:=by
 have SY3:=hd_ (SY2.out rfl);clear F SY2;go_wp2;go_roundw
 case rel=>exact⟨b+1,o_,gn_,SY3.out,H2.out⟩
 case measure=>simp[intOf];omega):P:=h
theorem zBs {P:Prop} (h:P:=by
 go_wp2_with (refine (KT.out _).mono ?_;rintro r w5 ⟨rfl,e5⟩;rw[e5];clear e5 w5)
 go_ret;rw[CF.out];exact⟨rfl,HL.out⟩):P:=h
theorem zBt {P:Prop} (h:P:=by
 refine hK _ _ (.inr C1.out) ?_;clear hK K'
 try refine tP_ ?_
 repeat (first|refine tC_ ?_|refine tB_ ?_)
 refine aD ?_;exact zA0):P:=h
theorem zBD {P:Prop} (h:P:=by
 have F:=hd_ (NIL.out (by unfold dQ;rw[if_neg (by rw[<-HQ.out];simp)]) _ H2.out);go_wp2;go_ret;exact F.out):P:=h
theorem zBL {P:Prop} (h:P:=by
 obtain⟨k,k1,k2⟩:=a3 w hm
 exact⟨k,by omega,k2⟩):P:=h
end Go.Proofs.YtcblbdpdbggkbaaGreat
namespace Go.Proofs.YtcblbdpdbggkbaaGreat
open _root_.Go.Proofs.Tryz
open Go.RowKit Go.Sort
namespace N
structure aI9 (n:Nt) (i b:Nat):Prop where
 sized:oP n
 node:i<5
 born:(aA n (i:Int)).born=b
 rows:(aO n (i:Int)).length=b+1
 few:(aN n (i:Int) b).length<=100
 known:(aA n (i:Int)).known.length<=5
 own:∃e,bM (aA n (i:Int)).known (i:Int)=some e/\ -1000000<=e.num/\e.num<=1000000
theorem aH4 {n:Nt} {i b:Nat} {t:Int} {e:En} (hb:(aA n (i:Int)).born=b) (he:bM (aA n (i:Int)).known (i:Int)=some e) (ht:in6 t 0 63=true) (hl:(aN n (i:Int) b).length<100):
  lI n i t=some { n with past:=n.past.set i ((aO n i).set b (aN n i b++[t])),nodes:=n.nodes.set i { aA n i with known:=fP (aA n i).known ⟨i,b,e.num+1,dC e.s t⟩ } }:=by
 unfold lI;simp only[hb,he];rw[if_pos ⟨bH.1 ht,hl⟩];simp
theorem aJc {n:Nt} {i b:Nat} {t:Int} (hb:(aA n (i:Int)).born=b) (h:in6 t 0 63=false\/¬(aN n (i:Int) b).length<100):lI n i t=none:=by
 unfold lI;simp only[hb];rw[if_neg];rintro⟨q1,q2⟩;rcases h with h|h
 ·rw[bH.2 q1]at h;cases h
 ·exact h q2
section
variable {B:Nat} {w0 w:World} {l:List Ch} {p:Nat} {n:Nt}
theorem aEp (h:M B w0 w (cU p n::l)) {i b:Nat} (hc:aI9 n i b) (t:Int):
  Calls prog 307 #[jG p,iv (i:Int),iv t] w fun r w'=>r=.returned (.bool (lI n (i:Int) t).isSome)/\M B w0 w' (cU p ((lI n (i:Int) t).getD n)::l):=by
 obtain⟨hs,hi,hb,hr,hf,hk,⟨e,he,en0,en1⟩⟩:=hc;obtain⟨rs,hrs⟩:=nm_ (aO n (i:Int));obtain⟨x,hx⟩:=nm_ (aA n (i:Int));have gx:=eY hs.nodes hi;have gr:=pJ hs.past hi;rw[<-hx]at gx hb hk he;rw[<-hrs]at gr hr;obtain⟨lp,hlp⟩:∃lp,rs[b]? =some lp:=⟨_,List.getElem?_eq_getElem o_⟩
 have eP:aN n (i:Int) (b:Int)=lp:=by unfold aN;rw[<-hrs,List.getD_eq_getElem?_getD,Int.toNat_natCast,hlp];rfl
 rw[eP]at hf;have CY:=hd_ (fun (q1:in6 t 0 63=true) (q2:lp.length<100)=>aH4 (n:=n) (i:=i) (b:=b) (t:=t) (e:=e) (by rw[<-hx];exact hb) (by rw[<-hx];exact he) q1 (by rw[eP];exact q2));have CN:=hd_ (fun (q:in6 t 0 63=false\/¬lp.length<100)=>aJc (n:=n) (i:=i) (b:=b) (t:=t) (by rw[<-hx];exact hb) (by rw[eP];exact q));rw[eP, <-hx, <-hrs]at CY;have HL:=hd_ h;obtain⟨ns,ls,ws,ps⟩:=n
 simp only at gx gr CY;obtain⟨hs1,hs2,hs3,hs4⟩:=hs;simp only at hs1 hs2 hs3 hs4;obtain⟨x1,c1,x2,c2,x3,c3,x4,c4,h1⟩:=h.live;simp only at h1;rw[hs1,hs3]at h1;obtain⟨f1,hf1⟩:=h1.p1.nodesRd;obtain⟨f4,hf4⟩:=h1.p4.pastRd;obtain⟨g1,xk,ck,fk,rfl,_,_,kr,_,_,d0,d1,d2,d3,d4⟩:=cB hf1 gx;obtain⟨g4,xr,cr,fr,rfl,_,_,rr,_,_,y0⟩:=jO hf4 gr;obtain⟨g5,xl,cl,fl,rfl,_,_,ir,_,_,y1⟩:=lH rr hlp
 obtain⟨a0,a1,a2,a3⟩:=h1.cells4;rw[hb]at d0;obtain⟨m,hm⟩:=nm_ rs.length;rw[<-hm]at y0;have i0:(0:Int)<=(i:Int):=o_;have i1:(i:Int)<5:=o_;have b0:(0:Int)<=(b:Int):=o_;have b1:(b:Int)<(m:Int):=o_;have RI:=hd_ (RdL.fl ir);have KR:=hd_ kr;have HE:=hd_ he;have GX:=hd_ gx;have GR:=hd_ gr;have LP:=hd_ hlp;have H1:=hd_ h1;have KB:=hd_ hk;have EN:=hd_ (And.intro en0 en1);have HB:=hd_ hb;have HR:=hd_ hm
 obtain⟨tb,htb⟩:=nm_ (in6 t 0 63);have KT:=hd_ (fun W=>lT htb W);rw[<-htb]at CY CN;clear h h1 hf1 hf4 kr rr ir he gx gr hlp hk en0 en1 hb hr hrs hm hx eP htb hs1 hs2 hs3 hs4;unfold jG;go_enter func307,ntmps307;cases tb
 case false=>
  have CF:=hd_ (CN.out (.inl rfl))
  exact zBs
 by_cases hlt:lp.length<100
 case neg=>
  have CF:=hd_ (CN.out (.inr hlt));have g1:(100:Int)<=(lp.length:Int):=o_;clear hlt
  exact zBs
 have CF:=hd_ (CY.out rfl hlt);have g1':¬(100:Int)<=(lp.length:Int):=o_;clear CY CN HL;have C0:Hid (aH w [(⟨p,0,none⟩,.slice (some ⟨g1,0,none⟩) 5 c1),(⟨p,3,none⟩,.slice (some ⟨g4,0,none⟩) 5 c4),(⟨g1,i * 5+1,none⟩,.slice xk x.known.length ck),(⟨g4,i,none⟩,.slice (some ⟨g5,0,none⟩) m cr),(⟨g5,b,none⟩,.slice xl lp.length cl)]):=hd_ ⟨a0,a3,d1,y0,y1,trivial⟩
 have KO:=hd_ (aEm w KR.out (i:Int) (b:Int) x.beacon x.level x.up);go_upto_region 4 with (refine (KT.out _).mono ?_;rintro r w5 ⟨rfl,e5⟩;rw[e5];clear e5 w5)
 go_wp2_with fail
 refine KO.out.mono ?_;rintro r w1 ⟨⟨u,rfl,hu⟩,hb1⟩;rcases hu with ⟨e',V,he',rv,rfl⟩|⟨he',rfl⟩
 case inr=>have:=HE.out.symm.trans he';cases this
 obtain rfl:e=e':=Option.some.inj (HE.out.symm.trans he');have BW1:=hd_ hb1;have h2:=(H1.out.later hb1).alloc #[iv e.node,iv e.born,iv e.num,.slice V.xr V.nr V.cr,.slice V.xf V.nf V.cf,.slice V.xt V.nt V.ct,.int .i64 (e.s).lo,.int .i64 (e.s).al,.slice V.xk V.nk V.ck,.int .i64 (e.s).ka] 64;obtain⟨q1,hq1⟩:=nm_ w1.heap.size
 obtain⟨W1,hW1⟩:=nm_ (w1.alloc (.cells #[iv e.node,iv e.born,iv e.num,.slice V.xr V.nr V.cr,.slice V.xf V.nf V.cf,.slice V.xt V.nt V.ct,.int .i64 (e.s).lo,.int .i64 (e.s).al,.slice V.xk V.nk V.ck,.int .i64 (e.s).ka] 64));have hb2:Below w1.heap.size w1 W1:=by rw[hW1];exact (Below.refl _ _).alloc lr_ _
 rw[<-hW1, <-hq1]at h2;have BW2:=hd_ (BW1.out.trans (hb2.mono BW1.out.size));have KA:=hd_ (zF W1 V e.s t (rv.later BW2.out));have H2:=hd_ h2;clear h2 hb1 hb2 rv he' KO H1 a0 a1 a2 a3 d0 d1 d2 d3 d4 y0 y1;go_upto_region 5 with fail
 rw[<-hW1, <-hq1];clear hW1 hq1;obtain⟨e0,e1,e2,e3,e4,e5,e6,e7,e8,e9⟩:=H2.out.cells10
 go_wp2_with fail
 refine KA.out.mono ?_;rintro r w2 ⟨U,rfl,ho,hb3⟩;obtain⟨s2,hs2⟩:=nm_ (dC e.s t);rw[<-hs2]at ho CF ⊢;have h3:=(H2.out.sum hb3 ho).alloc (cS U s2) 46;obtain⟨q2,hq2⟩:=nm_ w2.heap.size;obtain⟨W2,hW2⟩:=nm_ (w2.alloc (.cells (cS U s2) 46));have hb4:Below w2.heap.size w2 W2:=by rw[hW2];exact (Below.refl _ _).alloc lr_ _
 rw[<-hW2, <-hq2]at h3;have BW3:=hd_ ((BW2.out.trans (hb3.mono BW2.out.size)).trans (hb4.mono (BW2.out.trans (hb3.mono BW2.out.size)).size));have H3:=hd_ h3;clear h3 hb3 hb4 ho KA H2 BW1 BW2 hs2 e0 e1 e2 e3 e4 e5 e6 e7 e8 e9;go_upto_region 6 with fail
 rw[<-hW2, <-hq2];clear hW2 hq2;have BW4:=hd_ (BW3.out.trans ((Below.drew (Below.refl W2.heap.size W2)).mono BW3.out.size))
 go_cut [] (fun wx=>M B w0 wx (dN (.slice (some ⟨g4,0,none⟩) 5 c4) (ps.set i (rs.set b (lp++[t])))::aL q2 46 (cS U s2)::bF.ch (cS U s2) s2::aL q1 64 #[iv e.node,iv e.born,iv e.num,.slice V.xr V.nr V.cr,.slice V.xf V.nf V.cf,.slice V.xt V.nt V.ct,.int .i64 (e.s).lo,.int .i64 (e.s).al,.slice V.xk V.nk V.ck,.int .i64 (e.s).ka]::aL p 289 #[.slice (some ⟨g1,0,none⟩) 5 c1,.slice x2 ls.length c2,.slice x3 ws.length c3,.slice (some ⟨g4,0,none⟩) 5 c4]::bE (.slice (some ⟨g1,0,none⟩) 5 c1) ns::bY (.slice x2 ls.length c2) ls::bG (.slice x3 ws.length c3) ws::l))
 case first=>
  refine aC 26 (.tk 0 9 (.tk 10 11 (.take 22 (.alt 9 (.alt 21 (.alt 23 (.alt 24 (.take 25 (.alt 26 .done .nomore)) .nomore) .nomore) (.alt 23 (.alt 21 (.alt 24 (.take 25 (.alt 26 .done .nomore)) .nomore) .nomore) .nomore)) (.alt 23 (.alt 9 (.alt 21 (.alt 24 (.take 25 (.alt 26 .done .nomore)) .nomore) .nomore) .nomore) .nomore))))) (fun w'=>aH w' [(⟨p,0,none⟩,.slice (some ⟨g1,0,none⟩) 5 c1),(⟨p,3,none⟩,.slice (some ⟨g4,0,none⟩) 5 c4),(⟨g1,i * 5+1,none⟩,.slice xk x.known.length ck),(⟨g4,i,none⟩,.slice (some ⟨g5,0,none⟩) m cr),(⟨g5,b,none⟩,.slice xl lp.length cl)]) kr_ kr_ (fun _ _ _ _ _ h=>h) (C0.out.below BW4.out) ?_
  have H4:=hd_ H3.out.drew;have C4:=hd_ (C0.out.below BW4.out);have R4:=hd_ (RI.out.later BW4.out);obtain⟨W4,hW4⟩:=nm_ W2.drew;rw[<-hW4]at H4 C4 R4 BW4 ⊢;clear hW4 H3 C0 RI BW3
  repeat (first|refine tC_ ?_|refine tB_ ?_)
  have FIN:Hid (∀(w':World) (v:Value) (l':List Ch),M W4.heap.size W4 w' (aGy v (lp++[t])::l')->((∃u,w'.cell? ⟨g5,b,none⟩=some u)/\w'.frozen? ⟨g5,b,none⟩=false/\M B w0 (w'.setCell ⟨g5,b,none⟩ v) (dN (.slice (some ⟨g4,0,none⟩) 5 c4) (ps.set i (rs.set b (lp++[t])))::aL q2 46 (cS U s2)::bF.ch (cS U s2) s2::aL q1 64 #[iv e.node,iv e.born,iv e.num,.slice V.xr V.nr V.cr,.slice V.xf V.nf V.cf,.slice V.xt V.nt V.ct,.int .i64 (e.s).lo,.int .i64 (e.s).al,.slice V.xk V.nk V.ck,.int .i64 (e.s).ka]::aL p 289 #[.slice (some ⟨g1,0,none⟩) 5 c1,.slice x2 ls.length c2,.slice x3 ws.length c3,.slice (some ⟨g4,0,none⟩) 5 c4]::bE (.slice (some ⟨g1,0,none⟩) 5 c1) ns::bY (.slice x2 ls.length c2) ls::bG (.slice x3 ws.length c3) ws::l))):=hd_ (by
      intro w' v l' k
      have h5:=H4.out.plus k.soft
      have y0:=(C4.out.below k.below).2.2.2.1
      exact M.setRow (h5.p8.p1) GR.out LP.out y0)
  refine bP r_ (fun K hK=>?_) ?_
  ·go_simp
   have k1:=((M.start W4).alloc #[] 3).empty (aG kY) 1;refine hK _ _ (.inr (C4.out.below k1.below)) ?_;clear hK K
   try refine tP_ ?_
   refine bP r_ (fun K hK=>bR sJ (fun _=>rfl) fE k1 (R4.out.later k1.below) r_ r_ r_ r_ (by rw[List.length_nil];unfold maxLen;omega) (by rw[List.length_nil];omega) (N:=lp.length) (by rw[List.length_nil,Nat.zero_add]) (fun y cap w6 k4=>?_)) ?_
   ·rw[List.nil_append]at k4
    refine hK _ _ (.inr (C4.out.below k4.below)) ?_;clear hK K
    try refine tP_ ?_
    refine aB r_ (fun K hK=>?_);go_simp;have k5:=k4.alloc #[iv t] 3;refine hK _ _ (.inr (C4.out.below k5.below)) ?_;clear hK K
    try refine tP_ ?_
    refine aB r_ (fun K hK=>bR sJ (fun _=>rfl) fE k5.p1 (aCN k5) r_ r_ r_ r_ (by simp only[List.length_cons,List.length_nil];unfold maxLen;omega) (by simp only[List.length_cons,List.length_nil];omega) (N:=lp.length+1) r_ (fun y9 cap9 w9 k9=>?_));refine hK _ _ (.inr (C4.out.below k9.below)) ?_;clear hK K
    try refine tP_ ?_
    repeat (first|refine tC_ ?_|refine tB_ ?_)
    obtain⟨⟨u,cu⟩,fu,hN⟩:=FIN.out _ _ _ k9;exact zr
   ·refine aB r_ (fun K hK=>?_)
    go_simp;have k2:=k1.alloc #[iv t] 3;simp only[World.size_alloc]at k2;refine hK _ _ (.inr (C4.out.below k2.below)) ?_;clear hK K
    try refine tP_ ?_
    refine aB r_ (fun K hK=>bR sJ (fun _=>rfl) fE k2.p1 (R4.out.later k2.below) r_ r_ r_ r_ (by rw[List.length_nil];unfold maxLen;omega) (by rw[List.length_nil];omega) (N:=lp.length) (by rw[List.length_nil,Nat.zero_add]) (fun y cap w6 k4=>?_));exact zAl
  ·refine aB r_ (fun K hK=>?_)
   go_simp;have k1:=(M.start W4).alloc #[iv t] 3;refine hK _ _ (.inr (C4.out.below k1.below)) ?_;clear hK K
   try refine tP_ ?_
   refine aB r_ (fun K hK=>?_);go_simp;have k2:=(k1.alloc #[] 3).empty (aG kY) 1;simp only[World.size_alloc]at k2;refine hK _ _ (.inr (C4.out.below k2.below)) ?_;clear hK K
   try refine tP_ ?_
   refine aB r_ (fun K hK=>bR sJ (fun _=>rfl) fE k2 (R4.out.later k2.below) r_ r_ r_ r_ (by rw[List.length_nil];unfold maxLen;omega) (by rw[List.length_nil];omega) (N:=lp.length) (by rw[List.length_nil,Nat.zero_add]) (fun y cap w6 k4=>?_));exact zAl
 case rest=>
  have hM:=hcut.p5;obtain⟨y,cy,h6⟩:=M.openKnown hM GX.out;have gk:=h6.p1.hcell (i:=i) (j:=1) (by have:=(List.getElem?_eq_some_iff.1 GX.out).1;exact this) rfl;obtain⟨a0,a1,a2,a3⟩:=h6.p6.cells4;obtain⟨e0,e1,e2,e3,e4,e5,e6,e7,e8,e9⟩:=h6.p5.cells10;obtain⟨f0,f1,f2,f3,f4,f5,f6⟩:=h6.p3.cells7
  have S0:Hid (aH wc ([(⟨p,0,none⟩,.slice (some ⟨g1,0,none⟩) 5 c1),(⟨g1,i * 5+1,none⟩,.slice y x.known.length cy)]++(jJ q1 e.node e.born e.num V e.s++b7L q2 U s2))):=hd_ ⟨a0,gk,e0,e1,e2,e3,e4,e5,e6,e7,e8,e9,f0,f1,f2,f3,f4,f5,f6,trivial⟩;clear a0 a1 a2 a3 e0 e1 e2 e3 e4 e5 e6 e7 e8 e9 f0 f1 f2 f3 f4 f5 f6 gk hM;have h7:=((h6.p4.entry (i:Int) (b:Int) (e.num+1)).p1).drew
  have S1:=hd_ (S0.out.below (Below.drew (Below.refl _ _)));have wr1:IntKind.i64.wrap (e.num+1)=e.num+1:=IntWalk.i64_in _ (by have:=EN.out;omega);obtain⟨W5,hW5⟩:=nm_ wc.drew;rw[<-hW5]at h7 S1;have EW:=hd_ hW5;have KP:=hd_ (aEL (V:=U) (e:=⟨(i:Int),(b:Int),e.num+1,s2⟩) h7 (by have:=KB.out;omega));clear h7 h6 hW5 hcut;go_wp2
  refine aC 25 (.tk 0 22 (.alt 22 (.tk 23 2 (.alt 25 .done .nomore)) .nomore)) (fun w'=>aH w' ([(⟨p,0,none⟩,.slice (some ⟨g1,0,none⟩) 5 c1),(⟨g1,i * 5+1,none⟩,.slice y x.known.length cy)]++(jJ q1 e.node e.born e.num V e.s++b7L q2 U s2))) kr_ kr_ (fun _ _ _ _ _ h=>h) (S0.out.below (Below.drew (Below.refl _ _))) ?_;rw[<-EW.out]
  repeat (first|refine tC_ ?_|refine tB_ ?_)
  refine aB r_ (fun K' hK=>?_);go_simp;refine KP.out.mono ?_;rintro r w6 ⟨y6,c6,rfl,h8⟩;obtain⟨gk,gf,h9⟩:=M.shutKnown h8 GX.out;have S8:Hid (aH w6 ([(⟨p,0,none⟩,.slice (some ⟨g1,0,none⟩) 5 c1),(⟨g1,i * 5+1,none⟩,.slice y x.known.length cy)]++(jJ q1 e.node e.born e.num V e.s++b7L q2 U s2))):=hd_ (by
      obtain⟨a0,a1,a2,a3⟩:=h8.p5.cells4
      obtain⟨e0,e1,e2,e3,e4,e5,e6,e7,e8,e9⟩:=h8.p4.cells10
      obtain⟨f0,f1,f2,f3,f4,f5,f6⟩:=h8.p3.cells7
      exact⟨a0,gk,e0,e1,e2,e3,e4,e5,e6,e7,e8,e9,f0,f1,f2,f3,f4,f5,f6,trivial⟩)
  refine hK _ _ (.inr S8.out) ?_;clear hK K'
  try refine tP_ ?_
  repeat (first|refine tC_ ?_|refine tB_ ?_)
  have H9:=hd_ h9;clear h9 h8 S8 S1 S0 KP EW;refine aB r_ (fun K hK=>?_);go_simp;refine hK _ _ (.inl rfl) ?_;clear hK K
  try refine tP_ ?_
  refine aD ?_;obtain⟨w7,hw7⟩:=nm_ (w6.setCell ⟨g1,i * 5+1,none⟩ (.slice y6 (fP x.known ⟨(i:Int),(b:Int),e.num+1,s2⟩).length c6));rw[<-hw7]at H9 ⊢;clear hw7 gk gf;go_wp2;go_ret;rw[CF.out];exact⟨rfl,(H9.out.p2.drop.p2.drop.p2.p4.p4.p3.p3).unlive⟩
end
theorem aAy (w:World) {V:SV} {s:Sm} {f:List Nat} (h:rS w (cS V s) s f) (hl:aFm s):
  Calls prog 217 #[.agg #[.slice V.xr V.nr V.cr,.slice V.xf V.nf V.cf,.slice V.xt V.nt V.ct,iv s.lo,iv s.al,.slice V.xk V.nk V.ck,iv s.ka]] w fun r w'=>∃U:SV,r=.returned (vS U s)/\M w.heap.size w w' [bF.ch (cS U s) s]:=by
 obtain⟨fr,ff,ft,fk,hr,hf,ht,hk⟩:=aCq h;have LR:=hd_ (And.intro hl.r.1 hl.r.2);have LF:=hd_ hl.f;have LT:=hd_ hl.t;have LK:=hd_ hl.k;have HR:=hd_ hr;have HF:=hd_ (RdL.fl hf);have HT:=hd_ (RdL.fl ht);have HK:=hd_ (RdL.fl hk);clear h hl hr hf ht hk;have X:=((M.start w).alloc (cS V s) 46).alloc #[zn,zn,zn,iv 0,iv 0,zn,iv 0] 46;simp only[World.size_alloc]at X;obtain⟨p1,hp1⟩:=nm_ w.heap.size
 obtain⟨p2,hp2⟩:=nm_ (w.heap.size+1);obtain⟨W0,hW0⟩:=nm_ ((w.alloc (.cells (cS V s) 46)).alloc (.cells #[zn,zn,zn,iv 0,iv 0,zn,iv 0] 46));rw[<-hW0, <-hp2]at X;have H0:=hd_ (show M w.heap.size w W0 [aL p1 46 (cS V s),aL p2 46 #[zn,zn,zn,iv 0,iv 0,zn,iv 0]] by rw[hp1];exact X.p1);clear X;go_enter func217,ntmps217;go_upto_region 1 with fail
 rw[<-hW0, <-hp2, <-hp1];clear hW0 hp2 hp1;obtain⟨c0,c1,c2,c3,c4,c5,c6⟩:=H0.out.cells7;have K1:=hd_ (xK W0 (bS.below HR.out H0.out.below lr_) LR.out.1 (fun r hr=>by obtain⟨i,hi,rfl⟩:=List.getElem_of_mem hr;have:=LR.out.2 i hi;rwa[List.getD_eq_getElem?_getD,List.getElem?_eq_getElem hi]at this))
 go_wp2_with fail
 refine K1.out.mono ?_;rintro r v1 ⟨yr,dr,rfl,hm⟩;have X:=(H0.out.plus hm).p1;clear hm K1 H0 c0 c1 c2 c3 c4 c5 c6;obtain⟨c0,c1,c2,c3,c4,c5,c6⟩:=X.cells7;have cf:=X.free;have Y:=X.set (i:=0) (.slice yr s.rs.length dr);simp only[List.setIfInBounds_toArray,List.set_cons_zero,List.set_cons_succ]at Y;obtain⟨W1,hW⟩:=nm_ (v1.setCell ⟨p1,0,none⟩ (.slice yr s.rs.length dr));rw[<-hW]at Y;have H1:=hd_ Y
 clear X Y;go_upto_region 2 with fail
 rw[<-hW];clear hW c0 c1 c2 c3 c4 c5 c6 cf;obtain⟨c0,c1,c2,c3,c4,c5,c6⟩:=H1.out.cells7;have K2:=hd_ (zD W1 (HF.out.later H1.out.below) LF.out)
 go_wp2_with fail
 refine K2.out.mono ?_;rintro r v2 ⟨yf,df,rfl,hm⟩;have X:=(H1.out.plus hm).soft.p1;clear hm K2 H1 c0 c1 c2 c3 c4 c5 c6;obtain⟨c0,c1,c2,c3,c4,c5,c6⟩:=X.cells7;have cf:=X.free;have Y:=X.set (i:=1) (.slice yf s.zs.length df);simp only[List.setIfInBounds_toArray,List.set_cons_zero,List.set_cons_succ]at Y;obtain⟨W2,hW⟩:=nm_ (v2.setCell ⟨p1,1,none⟩ (.slice yf s.zs.length df));rw[<-hW]at Y;have H2:=hd_ Y
 clear X Y;go_upto_region 3 with fail
 rw[<-hW];clear hW c0 c1 c2 c3 c4 c5 c6 cf;obtain⟨c0,c1,c2,c3,c4,c5,c6⟩:=H2.out.cells7;have K3:=hd_ (aDR W2 (HT.out.later H2.out.below) LT.out)
 go_wp2_with fail
 refine K3.out.mono ?_;rintro r v3 ⟨yt,dt,rfl,hm⟩;have X:=(H2.out.plus hm).soft.p1;clear hm K3 H2 c0 c1 c2 c3 c4 c5 c6;obtain⟨c0,c1,c2,c3,c4,c5,c6⟩:=X.cells7;have cf:=X.free;have Y:=X.set (i:=2) (.slice yt s.ps.length dt);simp only[List.setIfInBounds_toArray,List.set_cons_zero,List.set_cons_succ]at Y;obtain⟨W3,hW⟩:=nm_ (v3.setCell ⟨p1,2,none⟩ (.slice yt s.ps.length dt));rw[<-hW]at Y;have H3:=hd_ Y
 clear X Y;go_upto_region 4 with fail
 rw[<-hW];clear hW c0 c1 c2 c3 c4 c5 c6 cf;obtain⟨c0,c1,c2,c3,c4,c5,c6⟩:=H3.out.cells7;have K4:=hd_ (aDL W3 (HK.out.later H3.out.below) LK.out)
 go_wp2_with fail
 refine K4.out.mono ?_;rintro r v4 ⟨yk,dk,rfl,hm⟩;have X:=(H3.out.plus hm).soft.p1;clear hm K4 H3 c0 c1 c2 c3 c4 c5 c6;obtain⟨c0,c1,c2,c3,c4,c5,c6⟩:=X.cells7;have cf:=X.free;have Y:=X.set (i:=5) (.slice yk s.ks.length dk);simp only[List.setIfInBounds_toArray,List.set_cons_zero,List.set_cons_succ]at Y;obtain⟨W4,hW⟩:=nm_ (v4.setCell ⟨p1,5,none⟩ (.slice yk s.ks.length dk));rw[<-hW]at Y;have H4:=hd_ Y
 clear X Y;go_upto_region 5 with fail
 rw[<-hW];clear hW c0 c1 c2 c3 c4 c5 c6 cf;obtain⟨U,hU⟩:∃U:SV,U=⟨yr,s.rs.length,dr,yf,s.zs.length,df,yt,s.ps.length,dt,yk,s.ks.length,dk⟩:=⟨_,rfl⟩
 have H5:=hd_ (show M w.heap.size w W4 (aL p1 46 (cS U s)::aFp (.slice U.xk U.nk U.ck) s.ks::aFO (.slice U.xt U.nt U.ct) s.ps::uJ (.slice U.xf U.nf U.cf) s.zs::rQ (.slice U.xr U.nr U.cr) s.rs::[aL p2 46 #[zn,zn,zn,iv 0,iv 0,zn,iv 0]]) by rw[hU];exact H4.out);have EU:Hid (∀x:SV,x=⟨yr,s.rs.length,dr,yf,s.zs.length,df,yt,s.ps.length,dt,yk,s.ks.length,dk⟩->True):=hd_ fun _ _=>trivial
 obtain⟨c0,c1,c2,c3,c4,c5,c6⟩:=H5.out.cells7;have ev:(#[.slice yr s.rs.length dr,.slice yf s.zs.length df,.slice yt s.ps.length dt,iv s.lo,iv s.al,.slice yk s.ks.length dk,iv s.ka]:Array Value)=#[.slice U.xr U.nr U.cr,.slice U.xf U.nf U.cf,.slice U.xt U.nt U.ct,.int .i64 s.lo,.int .i64 s.al,.slice U.xk U.nk U.ck,.int .i64 s.ka]:=by rw[hU]
 go_wp2_with (go_loud (refine dG H5.out.p5 (vs:=[.slice U.xr U.nr U.cr,.slice U.xf U.nf U.cf,.slice U.xt U.nt U.ct,.int .i64 s.lo,.int .i64 s.al,.slice U.xk U.nk U.ck,.int .i64 s.ka]) (ys:=#[.slice U.xr U.nr U.cr,.slice U.xf U.nf U.cf,.slice U.xt U.nt U.ct,.int .i64 s.lo,.int .i64 s.al,.slice U.xk U.nk U.ck,.int .i64 s.ka]) rfl rfl rfl (by first|rfl|simp) aDJ rfl (by simp) (by simp[pK]) ?_);intro w9 h9;have H9:=hd_ h9;clear h9 H5)
 obtain⟨e0,e1,e2,e3,e4,e5,e6⟩:=H9.out.cells7;exact bodyPost_ret (v:=.agg #[.slice U.xr U.nr U.cr,.slice U.xf U.nf U.cf,.slice U.xt U.nt U.ct,iv s.lo,iv s.al,.slice U.xk U.nk U.ck,iv s.ka]) (by simp[results,results217,go_sem,e0,e1,e2,e3,e4,e5,e6]) rfl ⟨U,rfl,M.sumWhole ((H9.out.drop.drop).perm (List.reverse_perm [_,_,_,_] |>.symm))⟩
theorem xN (w:World) {V:SV} {e:En} {f:List Nat} (h:rS w (cS V (e.s)) e.s f) (hl:aFm e.s):
  Calls prog 166 #[aAn V e] w fun r w'=>∃U,r=.returned (aAn U e)/\M w.heap.size w w' [aHi U e]:=by
 obtain⟨node,born,num,s⟩:=e;simp only at h hl;show Calls prog 166 #[.agg #[iv node,iv born,iv num,.slice V.xr V.nr V.cr,.slice V.xf V.nf V.cf,.slice V.xt V.nt V.ct,iv s.lo,iv s.al,.slice V.xk V.nk V.ck,iv s.ka]] w _
 have HS:=hd_ h;have HL:=hd_ hl;clear h hl;have X:=((M.start w).alloc #[iv node,iv born,iv num,.slice V.xr V.nr V.cr,.slice V.xf V.nf V.cf,.slice V.xt V.nt V.ct,iv s.lo,iv s.al,.slice V.xk V.nk V.ck,iv s.ka] 64).alloc #[iv 0,iv 0,iv 0,zn,zn,zn,iv 0,iv 0,zn,iv 0] 64;simp only[World.size_alloc]at X;obtain⟨p1,hp1⟩:=nm_ w.heap.size;obtain⟨p2,hp2⟩:=nm_ (w.heap.size+1)
 obtain⟨W0,hW0⟩:=nm_ ((w.alloc (.cells #[iv node,iv born,iv num,.slice V.xr V.nr V.cr,.slice V.xf V.nf V.cf,.slice V.xt V.nt V.ct,iv s.lo,iv s.al,.slice V.xk V.nk V.ck,iv s.ka] 64)).alloc (.cells #[iv 0,iv 0,iv 0,zn,zn,zn,iv 0,iv 0,zn,iv 0] 64));rw[<-hW0, <-hp2]at X
 have H0:=hd_ (show M w.heap.size w W0 [aL p1 64 #[iv node,iv born,iv num,.slice V.xr V.nr V.cr,.slice V.xf V.nf V.cf,.slice V.xt V.nt V.ct,iv s.lo,iv s.al,.slice V.xk V.nk V.ck,iv s.ka],aL p2 64 #[iv 0,iv 0,iv 0,zn,zn,zn,iv 0,iv 0,zn,iv 0]] by rw[hp1];exact X.p1);clear X;go_enter func166,ntmps166;go_upto_region 1 with fail
 rw[<-hW0, <-hp2, <-hp1];clear hW0 hp2 hp1;obtain⟨c0,c1,c2,c3,c4,c5,c6,c7,c8,c9⟩:=H0.out.cells10;have K1:=hd_ (aAy W0 (bF.below HS.out H0.out.below lr_) HL.out)
 go_wp2_with fail
 refine K1.out.mono ?_;rintro r v1 ⟨U,rfl,hm⟩;have H1:=hd_ (H0.out.plus hm).p1;clear hm K1 H0 c0 c1 c2 c3 c4 c5 c6 c7 c8 c9
 go_wp2_with (first|(refine dG H1.out (vs:=[.slice U.xr U.nr U.cr,.slice U.xf U.nf U.cf,.slice U.xt U.nt U.ct,.int .i64 s.lo,.int .i64 s.al,.slice U.xk U.nk U.ck,.int .i64 s.ka]) (ys:=#[.int .i64 node,.int .i64 born,.int .i64 num,.slice U.xr U.nr U.cr,.slice U.xf U.nf U.cf,.slice U.xt U.nt U.ct,.int .i64 s.lo,.int .i64 s.al,.slice U.xk U.nk U.ck,.int .i64 s.ka]) rfl rfl rfl rfl aDJ rfl (by simp) (by simp[pK]) ?_;intro w2 h2;have H2:=hd_ h2;obtain⟨c0,c1,c2,c3,c4,c5,c6,c7,c8,c9⟩:=h2.cells10;clear h2 H1)|(refine dG H2.out.p2 (vs:=[.int .i64 node,.int .i64 born,.int .i64 num,.slice U.xr U.nr U.cr,.slice U.xf U.nf U.cf,.slice U.xt U.nt U.ct,.int .i64 s.lo,.int .i64 s.al,.slice U.xk U.nk U.ck,.int .i64 s.ka]) (ys:=#[.int .i64 node,.int .i64 born,.int .i64 num,.slice U.xr U.nr U.cr,.slice U.xf U.nf U.cf,.slice U.xt U.nt U.ct,.int .i64 s.lo,.int .i64 s.al,.slice U.xk U.nk U.ck,.int .i64 s.ka]) rfl rfl rfl rfl aMD rfl (by simp) (by simp[pK]) ?_;intro w3 h3;have H3:=hd_ h3;clear h3 H2))
 obtain⟨e0,e1,e2,e3,e4,e5,e6,e7,e8,e9⟩:=H3.out.cells10;exact bodyPost_ret (v:=.agg #[iv node,iv born,iv num,.slice U.xr U.nr U.cr,.slice U.xf U.nf U.cf,.slice U.xt U.nt U.ct,iv s.lo,iv s.al,.slice U.xk U.nk U.ck,iv s.ka]) (by simp[results,results166,go_sem,e0,e1,e2,e3,e4,e5,e6,e7,e8,e9]) rfl ⟨U,rfl,(H3.out.drop.drop.entry node born num)⟩
theorem uR (w:World) {x:Option Addr} {c:Nat} {es:List En} {f:List Nat} (h:gD TY w [.slice x es.length c] es f) (hk:es.length<=1048576) (hr:∀e ∈ es,aFm e.s):
  Calls prog 96 #[.slice x es.length c] w fun r w'=>∃y cy,r=.returned (.slice y es.length cy)/\M w.heap.size w w' [eQ (.slice y es.length cy) es]:=by
 have H1:=hd_ h;have HR:=hd_ hr;clear h hr;have KC:Hid (Calls prog 165 #[.slice x es.length c,.func (.func 166) #[] #[]] w fun r w'=>∃y cy,r=.returned (.slice y es.length cy)/\M w.heap.size w w' [eQ (.slice y es.length cy) es]):=by
  refine hd_ ?_;go_enter func165,ntmps165;go_wp2;go_loopw [5,10] (fun y z wr=>∃(j cy:Nat) (xy:Option Addr),j<=es.length/\z=.int .i64 (j:Int)/\y=.slice xy j cy/\M w.heap.size w wr [eQ (.slice xy j cy) (es.take j)]) (fun _ z _=>es.length - (intOf z).toNat)
  case atStart=>exact⟨0,0,none,Nat.zero_le _,rfl,rfl,M.nil aP 64 10 (M.start w)⟩
  case round=>
   obtain⟨j,cy,xy,hj,rfl,rfl,hM⟩:=hrel;have H:=hd_ hM;clear hM
   by_cases hlt:j<es.length
   ·obtain⟨e,he⟩:∃e,es[j]? =some e:=⟨_,List.getElem?_eq_getElem hlt⟩
    obtain⟨g,V,fe,rfl,_,_,sr,ca0,ca1,ca2,cas⟩:=gY H1.out he;have hWB:=H.out.below;have LL:aFm e.s:=HR.out e (List.mem_of_getElem? he);have ST:=hd_ (lX he);have LT:Hid ((es.take j).length=j):=hd_ (by rw[List.length_take];omega);replace ca0:=cell_later hWB ca0;replace ca1:=cell_later hWB ca1;replace ca2:=cell_later hWB ca2;have ca3:=cell_later hWB (cas 0 _ rfl)
    have ca4:=cell_later hWB (cas 1 _ rfl);have ca5:=cell_later hWB (cas 2 _ rfl);have ca6:=cell_later hWB (cas 3 _ rfl);have ca7:=cell_later hWB (cas 4 _ rfl);have ca8:=cell_later hWB (cas 5 _ rfl);have ca9:=cell_later hWB (cas 6 _ rfl);have j0:(0:Int)<=(j:Int):=o_;have j1:(j:Int)<(es.length:Int):=o_
    have h2:=H.out.alloc #[iv e.node,iv e.born,iv e.num,.slice V.xr V.nr V.cr,.slice V.xf V.nf V.cf,.slice V.xt V.nt V.ct,.int .i64 (e.s).lo,.int .i64 (e.s).al,.slice V.xk V.nk V.ck,.int .i64 (e.s).ka] 64;obtain⟨p7,hp7⟩:=nm_ wr.heap.size
    obtain⟨W,hW⟩:=nm_ (wr.alloc (.cells #[iv e.node,iv e.born,iv e.num,.slice V.xr V.nr V.cr,.slice V.xf V.nf V.cf,.slice V.xt V.nt V.ct,.int .i64 (e.s).lo,.int .i64 (e.s).al,.slice V.xk V.nk V.ck,.int .i64 (e.s).ka] 64));rw[<-hW, <-hp7]at h2;have H2:=hd_ h2;have KE:=hd_ (xN W (V:=V) (e:=e) (bF.below sr h2.below lr_) LL);clear h2 cas hWB sr he LL H
    go_upto_region 5 with fail
    rw[<-hW, <-hp7];clear hW hp7 ca0 ca1 ca2 ca3 ca4 ca5 ca6 ca7 ca8 ca9;obtain⟨d0,d1,d2,d3,d4,d5,d6,d7,d8,d9⟩:=H2.out.cells10
    go_wp2_with fail
    refine KE.out.mono ?_;rintro r2 w2 ⟨U,rfl,hm⟩;have H3:=hd_ ((H2.out.plus hm).p2.alloc #[iv e.node,iv e.born,iv e.num,.slice U.xr U.nr U.cr,.slice U.xf U.nf U.cf,.slice U.xt U.nt U.ct,.int .i64 (e.s).lo,.int .i64 (e.s).al,.slice U.xk U.nk U.ck,.int .i64 (e.s).ka] 64);clear hm KE H2 d0 d1 d2 d3 d4 d5 d6 d7 d8 d9;unfold aAn
    go_wp2_with (at_builtin;go_loud (refine dA aC2 gT H3.out rfl rfl rfl rfl (by rw[LT.out];unfold maxLen;omega) (by rw[LT.out];omega) (N:=j+1) (by rw[LT.out]) ?_);intro y3 c3 w3 h4;have H4:=hd_ h4;clear h4 H3)
    go_roundw
    case rel=>exact⟨j+1,c3,y3,o_,gn_,rfl,by rw[ST.out];exact H4.out.p1.drop⟩
    case measure=>simp[intOf];omega
   ·exact zBl
 go_enter func96,ntmps96
 go_wp2_with fail
 refine KC.out.mono ?_;rintro r w' ⟨y,cy,rfl,hm⟩;have H:=hd_ hm;clear hm;go_wp2;go_ret;exact⟨_,_,rfl,H.out⟩
theorem aFa (w:World) {x1 x4 xk:Option Addr} {k1 c1 k4 c4 k ck:Nat} {v2 v3:Value} {n:Nt} {x:Wd} {f:List Nat} (hn:iP w (.slice x1 k1 c1) v2 v3 (.slice x4 k4 c4) n) (hs:oX n) (hk:gD TY w [.slice xk k ck] x.known f):
  Calls prog 88 #[.agg #[.slice x1 k1 c1,v2,v3,.slice x4 k4 c4],.agg #[iv x.kind,iv x.src,iv x.dst,iv x.beacon,iv x.level,.slice xk k ck]] w fun r w'=>r=.returned (.bool (iT n x))/\Below w.heap.size w w':=by
 obtain⟨kind,src,dst,beacon,level,es⟩:=x;simp only at hk ⊢;obtain rfl:k=es.length:=(aT hk).1;obtain⟨_,_,e1,q1,q2⟩:=cM hk;have hm:es.length<=maxLen:=Nat.le_trans q1 q2;unfold maxLen at hm;clear e1 q1 q2;obtain⟨f1,n1⟩:=hn.nodes;obtain rfl:k1=5:=(aT n1).1.trans hs.nodes;obtain⟨r0,hr0⟩:∃nd,n.nodes[0]? =some nd:=⟨_,List.getElem?_eq_getElem (by rw[hs.nodes];decide)⟩
 have e0:aA n 0=r0:=by unfold aA;rw[List.getD_eq_getElem?_getD,show (0:Int).toNat=0 from rfl,hr0];rfl
 have WB:Hid (iT n ⟨kind,src,dst,beacon,level,es⟩=if kind=1 then (in6 src 0 4&&(in6 dst 0 4&&decide (src≠dst)))&&(in6 beacon 0 r0.beacon&&(in6 level 0 4&&decide (es.length=0)))else if kind=2 then (in6 src 0 4&&(in6 dst 0 4&&decide (src≠dst)))&&(decide (beacon=0)&&(decide (level=0)&&dY n es))else false):=hd_ (by unfold iT aCF;rw[e0])
 have H0:=((M.start w).alloc #[.slice x1 5 c1,v2,v3,.slice x4 k4 c4] 30).alloc #[iv kind,iv src,iv dst,iv beacon,iv level,.slice xk es.length ck] 123;simp only[World.size_alloc]at H0;have hWB:=H0.below;obtain⟨g1,xk0,ck0,fk0,rfl,_,_,_,_,_,z0,z1,z2,z3,z4⟩:=cB ((aV aY _ _).below n1 hWB lr_) hr0;simp only[Nat.zero_mul,Nat.zero_add]at z2;clear z0 z1 z3 z4 hr0 e0 n1
 obtain⟨W,hW⟩:=nm_ ((w.alloc (.cells #[.slice (some ⟨g1,0,none⟩) 5 c1,v2,v3,.slice x4 k4 c4] 30)).alloc (.cells #[iv kind,iv src,iv dst,iv beacon,iv level,.slice xk es.length ck] 123));rw[<-hW]at H0 hWB z2;obtain⟨p1,hp1⟩:=nm_ w.heap.size;obtain⟨p2,hp2⟩:=nm_ (w.heap.size+1);rw[<-hp2, <-hp1]at H0;have HP:=hd_ hp1;have H:=hd_ H0
 have KN:=hd_ (aAR W (hn.below hWB lr_) hs ((aV aP _ _).below hk hWB lr_));obtain⟨a0,a1,a2,a3,a4,a5⟩:=H0.cells6;obtain⟨d0,d1,d2,d3⟩:=H0.p1.cells4;have C0:Hid (aH W.drew (b4L p1 (.slice (some ⟨g1,0,none⟩) 5 c1) v2 v3 (.slice x4 k4 c4)++(b6L p2 (iv kind) (iv src) (iv dst) (iv beacon) (iv level) (.slice xk es.length ck)++[(⟨g1,2,none⟩,.int .i64 r0.beacon)]))):=hd_ (by
    refine aH.below (W:=W) ?_ (Below.drew (Below.refl _ _))
    exact⟨d0,d1,d2,d3,a0,a1,a2,a3,a4,a5,z2,trivial⟩)
 clear hn hs hk H0 hWB z2;obtain⟨s1,hs1⟩:=nm_ (in6 src 0 4);obtain⟨s2,hs2⟩:=nm_ (in6 dst 0 4);obtain⟨s3,hs3⟩:=nm_ (decide (src≠dst));obtain⟨s4,hs4⟩:=nm_ (in6 beacon 0 r0.beacon);obtain⟨s5,hs5⟩:=nm_ (in6 level 0 4);obtain⟨s6,hs6⟩:=nm_ (dY n es);rw[<-hs1, <-hs2, <-hs3, <-hs4, <-hs5, <-hs6]at WB;rw[<-hs6]at KN;have K1:=hd_ (lT hs1);have K2:=hd_ (lT hs2);have K4:=hd_ (lT hs4)
 have K5:=hd_ (lT hs5);have g3:(src != dst)=s3:=by rw[hs3];by_cases q:src=dst<;>simp[q]
 clear hs1 hs2 hs3 hs4 hs5 hs6;have HB0:=hd_ (show Below w.heap.size w W.drew from by have:=H.out.drew.below;rwa[HP.out]at this);have HB1:=hd_ (show Below w.heap.size w W from by have:=H.out.below;rwa[HP.out]at this);obtain⟨e,he⟩:∃e:Bool,e=(s1&&(s2&&s3)):=⟨_,rfl⟩
 have WB2:Hid (iT n ⟨kind,src,dst,beacon,level,es⟩=if kind=1 then e&&(s4&&(s5&&decide (es.length=0)))else if kind=2 then e&&(decide (beacon=0)&&(decide (level=0)&&s6))else false):=hd_ (by rw[WB.out,he]);have HE:=hd_ he;clear he WB;obtain⟨z1,hz1⟩:=nm_ (decide (es.length=0));obtain⟨z2,hz2⟩:=nm_ (beacon==0);obtain⟨z3,hz3⟩:=nm_ (level==0)
 have gz1:((es.length:Int)==0)=z1:=by rw[hz1];by_cases q:es.length=0<;>simp[q]
 have gz2:=hz2.symm;have gz3:=hz3.symm;rw[<-hz1,show decide (beacon=0)=z2 from hz2.symm,show decide (level=0)=z3 from hz3.symm]at WB2;clear hz1 hz2 hz3;rcases Decidable.em (kind=1)with rfl|k1
 ·rw[if_pos rfl]at WB2
  go_enter func88,ntmps88;have R:∀(P:Prop),(s1=false->e=false->P)->(s1=true->s2=false->e=false->P)->(s1=true->s2=true->s3=false->e=false->P)->(s1=true->s2=true->s3=true->e=true->s4=false->P)->(s1=true->s2=true->s3=true->e=true->s4=true->s5=false->P)->(s1=true->s2=true->s3=true->e=true->s4=true->s5=true->P)->P:=fun P h1 h2 h3 h4 h5 h6=>by
   have he:=HE.out;refine aFX (a:=s1) (b:=s2) (c:=s3) (d:=s4) (e:=s5) (fun a=>h1 a (by rw[he,a];rfl)) (fun a b=>h2 a b (by rw[he,a,b];rfl)) (fun a b c=>h3 a b c (by rw[he,a,b,c];rfl)) (fun a b c d=>h4 a b c (by rw[he,a,b,c];rfl) d) (fun a b c d f=>h5 a b c (by rw[he,a,b,c];rfl) d f) (fun a b c d f=>h6 a b c (by rw[he,a,b,c];rfl) d f)
  clear HE;refine R _ ?_ ?_ ?_ ?_ ?_ ?_<;>clear R
  all_goals
   first
    |(intro e1 e2 e3 e4 e5 e6;subst e1 e2 e3 e4 e5 e6)
    |(intro e1 e2 e3 e4 e5;subst e1 e2 e3 e4 e5)
    |(intro e1 e2 e3 e4;subst e1 e2 e3 e4)
    |(intro e1 e2 e3;subst e1 e2 e3)
    |(intro e1 e2;subst e1 e2)
   go_wp2_with (first|((with_reducible refine (K1.out _).mono ?_);rintro e' w' ⟨rfl,hw'⟩;rw[hw'];clear hw' w')|((with_reducible refine (K2.out _).mono ?_);rintro e' w' ⟨rfl,hw'⟩;rw[hw'];clear hw' w'))
   rw[<-hp2, <-hp1, <-hW];clear hp2 hp1 hW
   refine aC 99 (.tk 0 9 (.alt 9 (.tk 10 4 (.alt 14 (.tk 15 7 (.alt 22 .done .nomore)) .nomore)) .nomore)) (fun w'=>aH w' (b4L p1 (.slice (some ⟨g1,0,none⟩) 5 c1) v2 v3 (.slice x4 k4 c4)++(b6L p2 (iv 1) (iv src) (iv dst) (iv beacon) (iv level) (.slice xk es.length ck)++[(⟨g1,2,none⟩,.int .i64 r0.beacon)]))) kr_ kr_ (fun _ _ _ _ _ h=>h) C0.out ?_
   repeat (first|refine tC_ ?_|refine tB_ ?_)
   refine aB r_ (fun K' hK=>?_);go_simp
   first
    |(refine (K4.out _).mono ?_;rintro e' w' ⟨rfl,hw'⟩;rw[hw'];clear hw' w';refine hK _ _ (.inr C0.out) ?_)
    |refine hK _ _ (.inr C0.out) ?_
   clear hK K'
   repeat (first|refine tC_ ?_|refine tB_ ?_)
   refine aB r_ (fun K' hK=>?_);go_simp
   first
    |(refine (K5.out _).mono ?_;rintro e' w' ⟨rfl,hw'⟩;rw[hw'];clear hw' w';refine hK _ _ (.inr C0.out) ?_)
    |refine hK _ _ (.inr C0.out) ?_
   clear hK K'
   repeat (first|refine tC_ ?_|refine tB_ ?_)
   refine aB r_ (fun K' hK=>?_);go_simp;refine hK _ _ (.inr C0.out) ?_;clear hK K';refine aD ?_;go_wp2;go_ret;exact⟨by rw[WB2.out];rfl,HB0.out⟩
 rcases Decidable.em (kind=2)with rfl|k2
 ·rw[if_neg dc_,if_pos rfl]at WB2
  go_enter func88,ntmps88;have R:∀(P:Prop),(s1=false->e=false->P)->(s1=true->s2=false->e=false->P)->(s1=true->s2=true->s3=false->e=false->P)->(s1=true->s2=true->s3=true->e=true->z2=false->P)->(s1=true->s2=true->s3=true->e=true->z2=true->z3=false->P)->(s1=true->s2=true->s3=true->e=true->z2=true->z3=true->P)->P:=fun P h1 h2 h3 h4 h5 h6=>by
   have he:=HE.out;refine aFX (a:=s1) (b:=s2) (c:=s3) (d:=z2) (e:=z3) (fun a=>h1 a (by rw[he,a];rfl)) (fun a b=>h2 a b (by rw[he,a,b];rfl)) (fun a b c=>h3 a b c (by rw[he,a,b,c];rfl)) (fun a b c d=>h4 a b c (by rw[he,a,b,c];rfl) d) (fun a b c d f=>h5 a b c (by rw[he,a,b,c];rfl) d f) (fun a b c d f=>h6 a b c (by rw[he,a,b,c];rfl) d f)
  clear HE;refine R _ ?_ ?_ ?_ ?_ ?_ ?last<;>clear R
  case last=>
   intro e1 e2 e3 e4 e5 e6;subst e1 e2 e3 e4 e5 e6
   go_wp2_with (first|((with_reducible refine (K1.out _).mono ?_);rintro e' w' ⟨rfl,hw'⟩;rw[hw'];clear hw' w')|((with_reducible refine (K2.out _).mono ?_);rintro e' w' ⟨rfl,hw'⟩;rw[hw'];clear hw' w'))
   rw[<-hp2, <-hp1, <-hW];clear hp2 hp1 hW;refine KN.out.mono ?_;rintro e' w' ⟨rfl,hb⟩;have F:=hd_ (HB1.out.trans (hb.mono HB1.out.size));clear hb KN;go_wp2;go_ret;exact⟨by rw[WB2.out];simp,F.out⟩
  all_goals
   first
    |(intro e1 e2 e3 e4 e5 e6;subst e1 e2 e3 e4 e5 e6)
    |(intro e1 e2 e3 e4 e5;subst e1 e2 e3 e4 e5)
    |(intro e1 e2 e3 e4;subst e1 e2 e3 e4)
    |(intro e1 e2 e3;subst e1 e2 e3)
    |(intro e1 e2;subst e1 e2)
   go_wp2_with (first|((with_reducible refine (K1.out _).mono ?_);rintro e' w' ⟨rfl,hw'⟩;rw[hw'];clear hw' w')|((with_reducible refine (K2.out _).mono ?_);rintro e' w' ⟨rfl,hw'⟩;rw[hw'];clear hw' w'))
   go_ret;rw[<-hW];exact⟨by rw[WB2.out];rfl,HB1.out⟩
 ·rw[if_neg k1,if_neg k2]at WB2
  have g1':(kind==1)=false:=by simpa using k1
  have g2':(kind==2)=false:=by simpa using k2
  clear HE k1 k2;go_enter func88,ntmps88;refine aDq (a:=s1) (b:=s2) ?_ ?_ ?_
  all_goals
   first
    |(intro e1 e2;subst e1 e2)
    |(intro e1;subst e1)
   go_wp2_with (first|((with_reducible refine (K1.out _).mono ?_);rintro e' w' ⟨rfl,hw'⟩;rw[hw'];clear hw' w')|((with_reducible refine (K2.out _).mono ?_);rintro e' w' ⟨rfl,hw'⟩;rw[hw'];clear hw' w'))
   go_ret;rw[<-hW];exact⟨by rw[WB2.out];rfl,HB1.out⟩
theorem vK {n:Nt} {a:Nat} (h5:a<5) (h:oT n a=false):jF n=false:=by
 unfold jF;rw[mA (i:=a) (a:=a) (p:=fun a:Nat=>oT n a) (by rw[List.getElem?_range h5]) h];simp
theorem aJs {n:Nt} {a:Nat} (h5:a<5) (h:nQ n a=false):jF n=false:=by
 unfold jF;rw[mA (i:=a) (a:=a) (p:=fun a:Nat=>nQ n a) (by rw[List.getElem?_range h5]) h];simp
theorem aJy {n:Nt} {i:Nat} {x:Wd} (hi:n.words[i]? =some x) (h:iT n x=false):jF n=false:=by
 unfold jF;rw[mA hi h];simp
theorem aJe {n:Nt} (h:aB8 n=false):jF n=false:=by unfold jF;rw[h];rfl
theorem aK5 {n:Nt} (h1:aB8 n=true) (h2:∀a:Nat,a<5->oT n a=true) (h3:∀a:Nat,a<5->nQ n a=true) (h4:∀(i:Nat) (x:Wd),n.words[i]? =some x->iT n x=true):jF n=in6 (aA n 0).beacon 0 1000:=by
 unfold jF;rw[h1,List.all_eq_true.2 (fun a ha=>h2 a (List.mem_range.1 ha)),List.all_eq_true.2 (fun a ha=>h3 a (List.mem_range.1 ha)),wQ.2 h4]
 rfl
theorem aD0 {n:Nt} (h1:n.nodes.length=5) (h2:n.past.length=5) (h:∀a:Nat,a<5->oT n a=true):oX n:=by
 refine⟨h1,h2,fun i hi=>?_⟩;have:=h i hi;unfold oT lD at this;simp only[Bool.and_eq_true,decide_eq_true_eq]at this;exact this.2.1.1
theorem yW {n:Nt} {a b:Nat} {u:Bool} (h:n.links[a * 5+b]? =some u):whole n (a:Int) (b:Int)=u:=by
 unfold whole;rw[List.getD_eq_getElem?_getD,show ((a:Int) * 5+(b:Int)).toNat=a * 5+b by omega,h];rfl
theorem oA (w:World) {x1 x2 x3 x4:Option Addr} {k1 c1 k2 c2 k3 c3 k4 c4:Nat} {n:Nt} (hn:iP w (.slice x1 k1 c1) (.slice x2 k2 c2) (.slice x3 k3 c3) (.slice x4 k4 c4) n):
  Calls prog 25 #[.agg #[.slice x1 k1 c1,.slice x2 k2 c2,.slice x3 k3 c3,.slice x4 k4 c4]] w fun r w'=>r=.returned (.bool (jF n))/\Below w.heap.size w w':=by
 obtain⟨f1,n1⟩:=hn.nodes;obtain⟨f2,n2⟩:=hn.links;obtain⟨f3,n3⟩:=hn.words;obtain⟨f4,n4⟩:=hn.past;have e1:k1=n.nodes.length:=(aT n1).1;have e2:k2=n.links.length:=(aT n2).1;have e3:k3=n.words.length:=(aT n3).1;have e4:k4=n.past.length:=(aT n4).1;have m3:k3<=maxLen:=by obtain⟨_,_,q,q1,q2⟩:=cM n3;rw[e3];exact Nat.le_trans q1 q2
 unfold maxLen at m3;have h0:=(M.start w).alloc #[.slice x1 k1 c1,.slice x2 k2 c2,.slice x3 k3 c3,.slice x4 k4 c4] 30;obtain⟨w1,hw1⟩:=nm_ (w.alloc (.cells #[.slice x1 k1 c1,.slice x2 k2 c2,.slice x3 k3 c3,.slice x4 k4 c4] 30));obtain⟨p1,hp1⟩:=nm_ w.heap.size;have HP:=hd_ hp1;rw[<-hw1, <-hp1]at h0;have H:=hd_ h0;obtain⟨a0,a1,a2,a3⟩:=h0.cells4;have HN:=hd_ hn;have N1:=hd_ n1;have N2:=hd_ n2
 have N3:=hd_ n3;have N4:=hd_ n4;have SB:Hid (aB8 n=(decide (k1=5)&&(decide (k4=5)&&(decide (k2=25)&&decide (k3<=24))))):=hd_ (by rw[e1,e2,e3,e4];rfl);have E1:=hd_ e1;have E2:=hd_ e2;have E3:=hd_ e3;have E4:=hd_ e4;clear hn n1 n2 n3 n4 e1 e2 e3 e4 h0;obtain⟨q1,hq1⟩:=nm_ (decide (k1=5));obtain⟨q4,hq4⟩:=nm_ (decide (k4=5));obtain⟨q2,hq2⟩:=nm_ (decide (k2=25));obtain⟨q3,hq3⟩:=nm_ (decide (k3<=24))
 rw[<-hq1, <-hq4, <-hq2, <-hq3]at SB;have z1:((k1:Int) != 5)= !q1:=by rw[hq1];by_cases q:k1=5<;>simp[q];omega
 have z4:((k4:Int) != 5)= !q4:=by rw[hq4];by_cases q:k4=5<;>simp[q];omega
 have z2:((k2:Int) != 25)= !q2:=by rw[hq2];by_cases q:k2=25<;>simp[q];omega
 have z3:decide ((24:Int)<(k3:Int))= !q3:=by rw[hq3];by_cases q:k3<=24<;>simp[q]<;>omega
 go_enter func25,ntmps25;have QS:=hd_ (And.intro (And.intro hq1 hq4) (And.intro hq2 hq3));clear hq1 hq2 hq3 hq4;refine aIn (a:=q1) (b:=q4) (c:=q2) (d:=q3) ?_ ?_ ?_ ?_ ?last
 case last=>
  intro e1 e2 e3 e4;subst e1 e2 e3 e4;obtain⟨⟨y1,y4⟩,y2,y3⟩:=QS.out;obtain rfl:=of_decide_eq_true y1.symm;obtain rfl:=of_decide_eq_true y4.symm;obtain rfl:=of_decide_eq_true y2.symm;have k24:=of_decide_eq_true y3.symm;clear y1 y2 y3 y4 QS z1 z2 z4 z3;have z3:decide ((24:Int)<(k3:Int))=false:=by simp;omega
  go_wp2;rw[<-hp1, <-hw1];clear hp1 hw1 a0 a1 a2 a3 z3;go_loopw [3] (fun z wr=>∃a:Nat,a<=5/\z=.int .i64 (a:Int)/\(∀b:Nat,b<a->oT n b=true)/\M p1 w wr [aL p1 30 #[.slice x1 5 c1,.slice x2 25 c2,.slice x3 k3 c3,.slice x4 5 c4]]) (fun z _=>5 - (intOf z).toNat)
  case atStart=>exact⟨0,Nat.zero_le _,rfl,fun b h=>absurd h (Nat.not_lt_zero _),H.out⟩
  case round=>
   clear H;obtain⟨a,ha5,rfl,hall,hm⟩:=hrel;have ALL:=hd_ hall;have H:=hd_ hm;clear hall hm;have hWB:Below w.heap.size w wr:=by have:=H.out.below;rwa[HP.out]at this
   by_cases hlt:a<5
   ·obtain⟨nd,hnd⟩:∃nd,n.nodes[a]? =some nd:=⟨_,List.getElem?_eq_getElem (by rw[<-E1.out];exact hlt)⟩
    obtain⟨u,hu⟩:∃u,n.links[a * 5+a]? =some u:=⟨_,List.getElem?_eq_getElem (by rw[<-E2.out];omega)⟩
    have eN:aA n (a:Int)=nd:=by unfold aA;rw[List.getD_eq_getElem?_getD,Int.toNat_natCast,hnd];rfl
    have eW:=yW hu;obtain⟨g1,xk,ck,fk,rfl,_,_,_,_,_,b0,_⟩:=cB N1.out hnd;obtain⟨g2,rfl,_,l0⟩:=mX N2.out hu;replace b0:=cell_later hWB b0;replace l0:=cell_later hWB l0;obtain⟨q,hq⟩:=nm_ (a * 5+a);rw[<-hq]at l0;obtain⟨W,hW⟩:=nm_ wr.drew;have h2:=H.out.drew;rw[<-hW]at h2;have EW:=hd_ hW;have H2:=hd_ h2;have hWB2:Below w.heap.size w W:=by have:=h2.below;rwa[HP.out]at this
    have C0:Hid (aH W (b4L p1 (.slice (some ⟨g1,0,none⟩) 5 c1) (.slice (some ⟨g2,0,none⟩) 25 c2) (.slice x3 k3 c3) (.slice x4 5 c4)++[(⟨g1,a * 5,none⟩,.int .i64 nd.born),(⟨g2,q,none⟩,.bool u)])):=hd_ (by
          obtain⟨a0,a1,a2,a3⟩:=h2.cells4
          rw[hW]
          exact⟨by rw[<-hW];exact a0,by rw[<-hW];exact a1,by rw[<-hW];exact a2,by rw[<-hW];exact a3,b0,l0,trivial⟩)
    obtain⟨s1,hs1⟩:=nm_ (in6 nd.born 1 20);obtain⟨s2,hs2⟩:=nm_ (lD n (a:Int));have SE:Hid (oT n (a:Int)=(s1&&(s2&&((u==false)&&(List.range a).all fun b=>whole n (a:Int) (b:Int)==whole n (b:Int) (a:Int))))):=hd_ (by unfold oT;rw[eN,eW,hs1,hs2,Int.toNat_natCast]);have K1:=hd_ (lT hs1)
    have K2:=hd_ (fun (q:s1=true)=>show Calls prog 86 #[.agg #[.slice (some ⟨g1,0,none⟩) 5 c1,.slice (some ⟨g2,0,none⟩) 25 c2,.slice x3 k3 c3,.slice x4 5 c4],iv (a:Int)] W fun r w'=>r=.returned (.bool s2)/\Below W.heap.size W w' by
          have:=bH.1 (hs1.symm.trans q)
          rw[hs2]
          exact aEr W (HN.out.below hWB2 lr_) E1.out.symm E4.out.symm hlt (by rw[eN];exact this))
    have K3:=hd_ (fun W=>jQ W (a:=(a:Int)) (b:=(a:Int)) o_ (q:=q) o_);have k0:(0:Int)<=(a:Int):=o_;have k1':(a:Int)<5:=o_;have kl0:(0:Int)<=(q:Int):=o_;have kl1:(q:Int)<25:=o_;clear hnd hu eN eW hWB b0 l0 hW hWB2 hs1 hs2 h2 hq;refine aJA (a:=s1) (b:=s2) (c:= !u) ?l1 ?l2 ?l3 ?ok
    case ok=>
     intro e1 e2 e3;subst e1 e2;obtain rfl:u=false:=by simpa using e3
     have K2a:=hd_ (K2.out rfl);clear e3 K2;go_wp2
     refine aC 99 (.tk 0 6 (.alt 6 (.tk 7 4 (.alt 11 (.tk 12 7 (.alt 19 (.tk 20 3 .done) .nomore)) .nomore)) .nomore)) (fun w'=>aH w' (b4L p1 (.slice (some ⟨g1,0,none⟩) 5 c1) (.slice (some ⟨g2,0,none⟩) 25 c2) (.slice x3 k3 c3) (.slice x4 5 c4)++[(⟨g1,a * 5,none⟩,.int .i64 nd.born),(⟨g2,q,none⟩,.bool false)])) kr_ kr_ (fun _ _ _ _ _ h=>h) (by rw[<-EW.out];exact C0.out) ?_
     rw[<-EW.out]
     repeat (first|refine tC_ ?_|refine tB_ ?_)
     refine aB r_ (fun K' hK=>?_);go_simp;refine (K1.out W).mono ?_;rintro e' w' ⟨rfl,hw'⟩;rw[hw'];clear hw' w';refine hK _ _ (.inr C0.out) ?_;clear hK K'
     try refine tP_ ?_
     repeat (first|refine tC_ ?_|refine tB_ ?_)
     refine aB r_ (fun K' hK=>?_);go_simp;refine K2a.out.mono ?_;rintro e' w3 ⟨rfl,hb⟩;have C1:=hd_ (C0.out.below hb);have H3:=hd_ (H2.out.later hb);clear hb K2a;refine hK _ _ (.inr C1.out) ?_;clear hK K'
     try refine tP_ ?_
     repeat (first|refine tC_ ?_|refine tB_ ?_)
     refine aB r_ (fun K' hK=>?_);go_simp;refine (K3.out w3).mono ?_;rintro e' w' ⟨rfl,hw'⟩;rw[<-hw'];clear hw' w';refine hK _ _ (.inr C1.out) ?_;clear hK K'
     try refine tP_ ?_
     repeat (first|refine tC_ ?_|refine tB_ ?_)
     refine aD ?_;go_wp2;clear C0 C1 H H2 EW K1 K3;go_loopw [4] (fun z wr=>∃b:Nat,b<=a/\z=.int .i64 (b:Int)/\(∀c:Nat,c<b->whole n (a:Int) (c:Int)=whole n (c:Int) (a:Int))/\M p1 w wr [aL p1 30 #[.slice (some ⟨g1,0,none⟩) 5 c1,.slice (some ⟨g2,0,none⟩) 25 c2,.slice x3 k3 c3,.slice x4 5 c4]]) (fun z _=>a - (intOf z).toNat)
     case atStart=>exact⟨0,Nat.zero_le _,rfl,fun b h=>absurd h (Nat.not_lt_zero _),H3.out⟩
     case round=>
      clear H3;obtain⟨b,hba,rfl,hsym,hm⟩:=hrel;have SY:=hd_ hsym;have H:=hd_ hm;clear hsym hm;have hWB:Below w.heap.size w wr:=by have:=H.out.below;rwa[HP.out]at this
      by_cases hblt:b<a
      ·obtain⟨ua,hua⟩:∃u,n.links[a * 5+b]? =some u:=⟨_,List.getElem?_eq_getElem (by rw[<-E2.out];omega)⟩
       obtain⟨ub,hub⟩:∃u,n.links[b * 5+a]? =some u:=⟨_,List.getElem?_eq_getElem (by rw[<-E2.out];omega)⟩
       have eW1:=hd_ (yW hua);have eW2:=hd_ (yW hub);obtain⟨_,eg,_,l1⟩:=mX N2.out hua;cases eg;obtain⟨_,eg,_,l2⟩:=mX N2.out hub;cases eg;replace l1:=cell_later hWB l1;replace l2:=cell_later hWB l2;obtain⟨r1,hr1⟩:=nm_ (a * 5+b);obtain⟨r2,hr2⟩:=nm_ (b * 5+a);rw[<-hr1]at l1;rw[<-hr2]at l2;obtain⟨W,hW⟩:=nm_ wr.drew;have h2:=H.out.drew;rw[<-hW]at h2;have EW:=hd_ hW
       have H2:=hd_ h2;have C0:Hid (aH W (b4L p1 (.slice (some ⟨g1,0,none⟩) 5 c1) (.slice (some ⟨g2,0,none⟩) 25 c2) (.slice x3 k3 c3) (.slice x4 5 c4)++[(⟨g2,r1,none⟩,.bool ua),(⟨g2,r2,none⟩,.bool ub)])):=hd_ (by
                obtain⟨a0,a1,a2,a3⟩:=h2.cells4
                rw[hW]
                exact⟨by rw[<-hW];exact a0,by rw[<-hW];exact a1,by rw[<-hW];exact a2,by rw[<-hW];exact a3,l1,l2,trivial⟩)
       have K3:=hd_ (fun W=>jQ W (a:=(a:Int)) (b:=(b:Int)) o_ (q:=r1) o_);have K4:=hd_ (fun W=>jQ W (a:=(b:Int)) (b:=(a:Int)) o_ (q:=r2) o_);have kb0:(0:Int)<=(r1:Int):=o_;have kb1:(r1:Int)<25:=o_;have kc0:(0:Int)<=(r2:Int):=o_;have kc1:(r2:Int)<25:=o_;have ib:(b:Int)<(a:Int):=o_;clear hua hub hWB l1 l2 hW h2 hr1 hr2;go_wp2
       refine aC 99 (.tk 0 4 (.tk 7 4 (.alt 4 (.tk 5 2 (.alt 11 (.tk 12 3 .done) .nomore)) .nomore))) (fun w'=>aH w' (b4L p1 (.slice (some ⟨g1,0,none⟩) 5 c1) (.slice (some ⟨g2,0,none⟩) 25 c2) (.slice x3 k3 c3) (.slice x4 5 c4)++[(⟨g2,r1,none⟩,.bool ua),(⟨g2,r2,none⟩,.bool ub)])) kr_ kr_ (fun _ _ _ _ _ h=>h) (by rw[<-EW.out];exact C0.out) ?_;rw[<-EW.out]
       repeat (first|refine tC_ ?_|refine tB_ ?_)
       refine aB r_ (fun K' hK=>?_);go_simp;refine (K3.out W).mono ?_;rintro e' w' ⟨rfl,hw'⟩;rw[<-hw'];clear hw' w';refine hK _ _ (.inr C0.out) ?_;clear hK K'
       try refine tP_ ?_
       repeat (first|refine tC_ ?_|refine tB_ ?_)
       refine aB r_ (fun K' hK=>?_);go_simp;refine (K4.out W).mono ?_;rintro e' w' ⟨rfl,hw'⟩;rw[<-hw'];clear hw' w';refine hK _ _ (.inr C0.out) ?_;clear hK K'
       try refine tP_ ?_
       repeat (first|refine tC_ ?_|refine tB_ ?_)
       refine aD ?_;clear K3 K4 EW H;have SY2:Hid (ua=ub->∀c:Nat,c<b+1->whole n (a:Int) (c:Int)=whole n (c:Int) (a:Int)):=hd_ fun hq c hc=>by
        by_cases q:c<b
        ·exact SY.out c q
        ·obtain rfl:c=b:=o_
         rw[eW1.out,eW2.out,hq]
       have F:Hid (ua≠ub->jF n=false):=hd_ fun hq=>vK hlt (by
                rw[SE.out]
                simp only[Bool.true_and,beq_self_eq_true]
                rw[mA (i:=b) (a:=b) (p:=fun b:Nat=>whole n (a:Int) (b:Int)==whole n (b:Int) (a:Int)) (by rw[List.getElem?_range hblt]) (by rw[eW1.out,eW2.out];simpa using hq)])
       clear C0 eW1 eW2 SY;rcases ua with _|_<;>rcases ub with _|_
       case false.false=>
        exact zBn
       case true.true=>
        exact zBn
       all_goals
        have F:=hd_ (F.out (by simp));clear SY2;go_wp2;go_ret;exact⟨by rw[F.out];rfl,by rw[<-HP.out];exact H2.out.below⟩
      ·obtain rfl:a=b:=o_
       have ALL2:Hid (∀c:Nat,c<a+1->oT n c=true):=hd_ fun c hc=>by
        by_cases q:c<a
        ·exact ALL.out c q
        ·obtain rfl:c=a:=o_
         rw[SE.out,List.all_eq_true.2 fun d hd=>by rw[SY.out d (List.mem_range.1 hd)];simp]
         rfl
       go_wp2;go_roundw
       case rel=>exact⟨a+1,o_,gn_,ALL2.out,H.out⟩
       case measure=>simp[intOf];omega
    case l1=>
     intro e1;subst e1;clear K2;have F:=hd_ (vK hlt (by rw[SE.out];rfl));go_wp2
     refine aC 99 (.tk 0 6 (.alt 6 (.tk 7 4 (.alt 11 (.tk 12 7 (.alt 19 (.tk 20 3 .done) .nomore)) .nomore)) .nomore)) (fun w'=>aH w' (b4L p1 (.slice (some ⟨g1,0,none⟩) 5 c1) (.slice (some ⟨g2,0,none⟩) 25 c2) (.slice x3 k3 c3) (.slice x4 5 c4)++[(⟨g1,a * 5,none⟩,.int .i64 nd.born),(⟨g2,q,none⟩,.bool u)])) kr_ kr_ (fun _ _ _ _ _ h=>h) (by rw[<-EW.out];exact C0.out) ?_
     rw[<-EW.out]
     repeat (first|refine tC_ ?_|refine tB_ ?_)
     refine aB r_ (fun K' hK=>?_);go_simp;refine (K1.out W).mono ?_;rintro e' w' ⟨rfl,hw'⟩;rw[hw'];clear hw' w';refine hK _ _ (.inr C0.out) ?_;clear hK K'
     try refine tP_ ?_
     repeat (first|refine tC_ ?_|refine tB_ ?_)
     refine aB r_ (fun K' hK=>?_);go_simp;refine hK _ _ (.inr C0.out) ?_;clear hK K'
     try refine tP_ ?_
     repeat (first|refine tC_ ?_|refine tB_ ?_)
     refine aB r_ (fun K' hK=>?_);go_simp;refine hK _ _ (.inr C0.out) ?_;clear hK K'
     try refine tP_ ?_
     repeat (first|refine tC_ ?_|refine tB_ ?_)
     refine aD ?_;go_wp2;go_ret;exact⟨by rw[F.out];rfl,by rw[<-HP.out];exact H2.out.below⟩
    case l2=>
     intro e1 e2;subst e1 e2;have K2a:=hd_ (K2.out rfl);clear K2;have F:=hd_ (vK hlt (by rw[SE.out];rfl));go_wp2
     refine aC 99 (.tk 0 6 (.alt 6 (.tk 7 4 (.alt 11 (.tk 12 7 (.alt 19 (.tk 20 3 .done) .nomore)) .nomore)) .nomore)) (fun w'=>aH w' (b4L p1 (.slice (some ⟨g1,0,none⟩) 5 c1) (.slice (some ⟨g2,0,none⟩) 25 c2) (.slice x3 k3 c3) (.slice x4 5 c4)++[(⟨g1,a * 5,none⟩,.int .i64 nd.born),(⟨g2,q,none⟩,.bool u)])) kr_ kr_ (fun _ _ _ _ _ h=>h) (by rw[<-EW.out];exact C0.out) ?_
     rw[<-EW.out]
     repeat (first|refine tC_ ?_|refine tB_ ?_)
     refine aB r_ (fun K' hK=>?_);go_simp;refine (K1.out W).mono ?_;rintro e' w' ⟨rfl,hw'⟩;rw[hw'];clear hw' w';refine hK _ _ (.inr C0.out) ?_;clear hK K'
     try refine tP_ ?_
     repeat (first|refine tC_ ?_|refine tB_ ?_)
     refine aB r_ (fun K' hK=>?_);go_simp;refine K2a.out.mono ?_;rintro e' w3 ⟨rfl,hb⟩;have C1:=hd_ (C0.out.below hb);have H3:=hd_ (H2.out.later hb);clear hb K2a;refine hK _ _ (.inr C1.out) ?_;clear hK K'
     try refine tP_ ?_
     repeat (first|refine tC_ ?_|refine tB_ ?_)
     refine aB r_ (fun K' hK=>?_);go_simp;exact zBt
    case l3=>
     intro e1 e2 e3;subst e1 e2;obtain rfl:u=true:=by simpa using e3
     clear e3;have K2a:=hd_ (K2.out rfl);clear K2;have F:=hd_ (vK hlt (by rw[SE.out];rfl));go_wp2
     refine aC 99 (.tk 0 6 (.alt 6 (.tk 7 4 (.alt 11 (.tk 12 7 (.alt 19 (.tk 20 3 .done) .nomore)) .nomore)) .nomore)) (fun w'=>aH w' (b4L p1 (.slice (some ⟨g1,0,none⟩) 5 c1) (.slice (some ⟨g2,0,none⟩) 25 c2) (.slice x3 k3 c3) (.slice x4 5 c4)++[(⟨g1,a * 5,none⟩,.int .i64 nd.born),(⟨g2,q,none⟩,.bool true)])) kr_ kr_ (fun _ _ _ _ _ h=>h) (by rw[<-EW.out];exact C0.out) ?_
     rw[<-EW.out]
     repeat (first|refine tC_ ?_|refine tB_ ?_)
     refine aB r_ (fun K' hK=>?_);go_simp;refine (K1.out W).mono ?_;rintro e' w' ⟨rfl,hw'⟩;rw[hw'];clear hw' w';refine hK _ _ (.inr C0.out) ?_;clear hK K'
     try refine tP_ ?_
     repeat (first|refine tC_ ?_|refine tB_ ?_)
     refine aB r_ (fun K' hK=>?_);go_simp;refine K2a.out.mono ?_;rintro e' w3 ⟨rfl,hb⟩;have C1:=hd_ (C0.out.below hb);have H3:=hd_ (H2.out.later hb);clear hb K2a;refine hK _ _ (.inr C1.out) ?_;clear hK K'
     try refine tP_ ?_
     repeat (first|refine tC_ ?_|refine tB_ ?_)
     refine aB r_ (fun K' hK=>?_);go_simp;refine (K3.out w3).mono ?_;rintro e' w' ⟨rfl,hw'⟩;rw[<-hw'];clear hw' w';exact zBt
   ·obtain rfl:a=5:=o_
    simp only[Int.cast_ofNat_Int];have SHP:=hd_ (aD0 E1.out.symm E4.out.symm ALL.out);clear hWB;go_wp2;go_loopw [5] (fun z wr=>∃a:Nat,a<=5/\z=.int .i64 (a:Int)/\(∀b:Nat,b<a->nQ n b=true)/\M p1 w wr [aL p1 30 #[.slice x1 5 c1,.slice x2 25 c2,.slice x3 k3 c3,.slice x4 5 c4]]) (fun z _=>5 - (intOf z).toNat)
    case atStart=>exact⟨0,Nat.zero_le _,rfl,fun b h=>absurd h (Nat.not_lt_zero _),H.out⟩
    case round=>
     clear H;obtain⟨a,ha5,rfl,hnod,hm⟩:=hrel;have NOD:=hd_ hnod;have H:=hd_ hm;clear hnod hm;have hWB:Below w.heap.size w wr:=by have:=H.out.below;rwa[HP.out]at this
     by_cases hlt:a<5
     ·obtain⟨s1,hs1⟩:=nm_ (nQ n (a:Int))
      have hborn:1<=(aA n (a:Int)).born:=by
       have:=ALL.out a hlt;unfold oT at this;simp only[Bool.and_eq_true,bH]at this;exact this.1.1
      have K1:=aEA wr (HN.out.below hWB lr_) SHP.out hlt hborn;rw[<-hs1]at K1;have KN:=hd_ K1;have k0:(0:Int)<=(a:Int):=o_;have k1':(a:Int)<5:=o_;obtain⟨a0,a1,a2,a3⟩:=H.out.cells4;have S1:=hd_ hs1;clear hs1 hborn K1 hWB
      go_wp2_with fail
      refine KN.out.mono ?_;rintro e' w3 ⟨rfl,hb⟩;have H3:=hd_ (H.out.later hb);clear hb KN a0 a1 a2 a3 H;cases s1 with
      |false=>
       have F:=hd_ (aJs hlt S1.out.symm);exact zA0
      |true=>
       have NOD2:Hid (∀c:Nat,c<a+1->nQ n c=true):=hd_ fun c hc=>by
        by_cases q:c<a
        ·exact NOD.out c q
        ·obtain rfl:c=a:=o_
         exact S1.out.symm
       go_wp2;go_roundw
       case rel=>exact⟨a+1,o_,gn_,NOD2.out,H3.out⟩
       case measure=>simp[intOf];omega
     ·obtain rfl:a=5:=o_
      simp only[Int.cast_ofNat_Int];clear hWB;go_wp2;go_loopw [6] (fun z wr=>∃i:Nat,i<=k3/\z=.int .i64 (i:Int)/\(∀(b:Nat) (x:Wd),b<i->n.words[b]? =some x->iT n x=true)/\M p1 w wr [aL p1 30 #[.slice x1 5 c1,.slice x2 25 c2,.slice x3 k3 c3,.slice x4 5 c4]]) (fun z _=>k3 - (intOf z).toNat)
      case atStart=>exact⟨0,Nat.zero_le _,rfl,fun b x h=>absurd h (Nat.not_lt_zero _),H.out⟩
      case round=>
       clear H;obtain⟨i,hi3,rfl,hwd,hm⟩:=hrel;have WDS:=hd_ hwd;have H:=hd_ hm;clear hwd hm;have hWB:Below w.heap.size w wr:=by have:=H.out.below;rwa[HP.out]at this
       obtain⟨a0,a1,a2,a3⟩:=H.out.cells4
       by_cases hlt:i<k3
       ·obtain⟨x,hx⟩:∃x,n.words[i]? =some x:=⟨_,List.getElem?_eq_getElem (by rw[<-E3.out];exact hlt)⟩
        obtain⟨g3,xk,ck,fk,rfl,_,_,rk,_,_,y0,y1,y2,y3,y4,y5⟩:=xG N3.out hx;replace y0:=cell_later hWB y0;replace y1:=cell_later hWB y1;replace y2:=cell_later hWB y2;replace y3:=cell_later hWB y3;replace y4:=cell_later hWB y4;replace y5:=cell_later hWB y5;obtain⟨W,hW⟩:=nm_ wr.drew;have h2:=H.out.drew;rw[<-hW]at h2;have EW:=hd_ hW;have H2:=hd_ h2
        have hWB2:Below w.heap.size w W:=by have:=h2.below;rwa[HP.out]at this
        have C0:Hid (aH W (b4L p1 (.slice x1 5 c1) (.slice x2 25 c2) (.slice (some ⟨g3,0,none⟩) k3 c3) (.slice x4 5 c4)++[(⟨g3,i * 6,none⟩,.int .i64 x.kind),(⟨g3,i * 6+1,none⟩,.int .i64 x.src),(⟨g3,i * 6+2,none⟩,.int .i64 x.dst),(⟨g3,i * 6+3,none⟩,.int .i64 x.beacon),(⟨g3,i * 6+4,none⟩,.int .i64 x.level),(⟨g3,i * 6+5,none⟩,.slice xk x.known.length ck)])):=hd_ (by
                  rw[hW]
                  exact⟨a0,a1,a2,a3,y0,y1,y2,y3,y4,y5,trivial⟩)
        obtain⟨s1,hs1⟩:=nm_ (iT n x);have K1:=aFa W (x:=x) (HN.out.below hWB2 lr_) SHP.out ((aV aP _ _).below rk hWB2 lr_);rw[<-hs1]at K1;have KN:=hd_ K1;have k0:(0:Int)<=(i:Int):=o_;have k1':(i:Int)<(k3:Int):=o_;have S1:=hd_ hs1;have HX:=hd_ hx;clear hs1 K1 hWB hWB2 hx y0 y1 y2 y3 y4 y5 h2 hW rk;go_wp2;clear a0 a1 a2 a3
        refine aC 99 (.tk 0 6 (.alt 6 (.take 7 .done) .nomore)) (fun w'=>aH w' (b4L p1 (.slice x1 5 c1) (.slice x2 25 c2) (.slice (some ⟨g3,0,none⟩) k3 c3) (.slice x4 5 c4)++[(⟨g3,i * 6,none⟩,.int .i64 x.kind),(⟨g3,i * 6+1,none⟩,.int .i64 x.src),(⟨g3,i * 6+2,none⟩,.int .i64 x.dst),(⟨g3,i * 6+3,none⟩,.int .i64 x.beacon),(⟨g3,i * 6+4,none⟩,.int .i64 x.level),(⟨g3,i * 6+5,none⟩,.slice xk x.known.length ck)])) kr_ kr_ (fun _ _ _ _ _ h=>h) (by rw[<-EW.out];exact C0.out) ?_
        rw[<-EW.out]
        repeat (first|refine tC_ ?_|refine tB_ ?_)
        refine aB r_ (fun K' hK=>?_);go_simp;refine KN.out.mono ?_;rintro e' w3 ⟨rfl,hb⟩;have C1:=hd_ (C0.out.below hb);have H3:=hd_ (H2.out.later hb);clear hb KN;refine hK _ _ (.inr C1.out) ?_;clear hK K'
        try refine tP_ ?_
        repeat (first|refine tC_ ?_|refine tB_ ?_)
        refine aD ?_;clear C0 C1 EW H H2;cases s1 with
        |false=>
         have F:=hd_ (aJy HX.out S1.out.symm);exact zA0
        |true=>
         have WDS2:Hid (∀(b:Nat) (y:Wd),b<i+1->n.words[b]? =some y->iT n y=true):=hd_ fun c y hc hy=>by
          by_cases q:c<i
          ·exact WDS.out c y q hy
          ·obtain rfl:c=i:=o_
           rw[HX.out]at hy;cases hy;exact S1.out.symm
         go_wp2;go_roundw
         case rel=>exact⟨i+1,o_,gn_,WDS2.out,H3.out⟩
         case measure=>simp[intOf];omega
       ·obtain rfl:i=k3:=o_
        have EQ:=hd_ (aK5 (n:=n) (by rw[SB.out];rfl) ALL.out NOD.out (fun b x hx=>WDS.out b x (by rw[E3.out];exact (List.getElem?_eq_some_iff.1 hx).1) hx));obtain⟨r0,hr0⟩:∃nd,n.nodes[0]? =some nd:=⟨_,List.getElem?_eq_getElem (by rw[<-E1.out];decide)⟩
        have e0:aA n 0=r0:=by unfold aA;rw[List.getD_eq_getElem?_getD,show (0:Int).toNat=0 from rfl,hr0];rfl
        rw[e0]at EQ;obtain⟨g1,xk,ck,fk,rfl,_,_,_,_,_,z0,z1,z2,z3,z4⟩:=cB N1.out hr0;replace z2:=cell_later hWB z2;simp only[Nat.zero_mul,Nat.zero_add]at z2;obtain⟨s1,hs1⟩:=nm_ (in6 r0.beacon 0 1000);rw[<-hs1]at EQ;have K1:=hd_ (lT hs1);clear hs1 hr0 e0 z0 z1 z3 z4 hWB
        go_wp2_with fail
        refine (K1.out wr).mono ?_;rintro e' w' ⟨rfl,hw'⟩;rw[hw'];clear hw' w';go_wp2;go_ret;exact⟨by rw[EQ.out];rfl,by rw[<-HP.out];exact H.out.below⟩
 all_goals
  first
   |(intro e1 e2 e3 e4;subst e1 e2 e3 e4)
   |(intro e1 e2 e3;subst e1 e2 e3)
   |(intro e1 e2;subst e1 e2)
   |(intro e1;subst e1)
  have F:=hd_ (aJe (n:=n) (by rw[SB.out];simp));go_wp2;go_ret;rw[<-hw1];exact⟨by rw[F.out];rfl,by rw[<-HP.out];exact H.out.below⟩
theorem aKZ {l:List Int} (h:lO l=true):l.length<=100:=by
 unfold lO at h;rw[Bool.and_eq_true,decide_eq_true_eq]at h;exact h.2
theorem oF {n:Nt} (h:jF n=true):oX n/\oM n:=by
 unfold jF aB8 at h;simp only[Bool.and_eq_true,decide_eq_true_eq,List.all_eq_true,List.mem_range]at h;obtain⟨⟨h1,h2,_⟩,h3,_⟩:=h;refine⟨aD0 h1 h2 h3,fun i hi=>?_⟩;have:=h3 i hi;unfold oT lD at this;simp only[Bool.and_eq_true,decide_eq_true_eq]at this;exact this.2.1.2.2
end N
end Go.Proofs.YtcblbdpdbggkbaaGreat
namespace Go.Proofs.YtcblbdpdbggkbaaGreat.N
open _root_.Go.Proofs.Tryz
open Go.RowKit Go.Sort
def wl (ls:List Bool) (a b:Int):Bool:=ls.getD (a * 5+b).toNat false
def Rk (ls:List Bool):Nat->Int->Prop
 | 0,b=>b=0
 |k+1,b=>Rk ls k b\/∃a,aE a/\Rk ls k a/\wl ls a b=true
structure Hi (β:Int) (m:Nt):Prop where
 ok:aM m
 root:(aA m 0).beacon=β
 hello:∀w ∈ m.words,w.kind=1/\whole m w.src w.dst=true/\(w.beacon=β->(aA m w.src).beacon=β/\(aA m w.src).level<=w.level/\Rk m.links w.level.toNat w.src)
 way:∀j,aE j->(aA m j).beacon=β->Rk m.links (aA m j).level.toNat j/\(j≠0->(aA m j).up≠ -1->whole m j (aA m j).up=true/\(aA m (aA m j).up).beacon=β/\(aA m (aA m j).up).level<(aA m j).level)
def nC (β:Int) (m:Nt) (b l:Int):Prop:=(aA m b).beacon=β/\(aA m b).level<=l
theorem nW {n:Nt} (h:aM n) {w:Wd} (hw:gH n w) (k1:w.kind=1) {j:Int} (hj:aE j):
  aA (aQ n w) j=aA n j\/(j=w.dst/\w.dst≠0/\((aA n j).beacon<w.beacon\/(w.beacon=(aA n j).beacon/\w.level+1<(aA n j).level))/\
      aA (aQ n w) j={ aA n j with beacon:=w.beacon,level:=w.level+1,up:=if 5<=w.level+1 then -1 else w.src }):=by
 unfold aQ;simp only;rw[if_neg (by omega)]
 split
 ·exact .inl rfl
 ·rename_i hd
  have hd0:w.dst≠0:=fun c=>hd (.inl c)
  split
  ·rename_i hb
   rw[oQ h hw.dst,dL h hw.dst hj]
   by_cases q:j=w.dst
   ·rw[if_pos q]
    subst q;exact .inr ⟨rfl,hd0,hb,rfl⟩
   ·rw[if_neg q];exact .inl rfl
  ·exact .inl rfl
theorem vH (n:Nt) (w:Wd) (a b:Int):whole (aQ n w) a b=whole n a b:=by unfold whole;rw[(kA n w).2.1]
theorem yA {β:Int} {n:Nt} (h:aM n) (hr:(aA n 0).beacon=β) {w:Wd} (hw:gH n w) (k1:w.kind=1) {b l:Int} (hb:aE b) (N:nC β n b l):nC β (aQ n w) b l:=by
 unfold nC at *;rcases nW h hw k1 hb with e|⟨_,_,c,e⟩
 ·rw[e];exact N
 ·rw[e]
  have wb:w.beacon<=β:=by
   rcases hw.kind with ⟨_,k,_⟩|⟨k,_⟩
   ·omega
   ·omega
  show w.beacon=β/\w.level+1<=l
  omega
theorem aLx {β:Int} {n:Nt} (h:aM n) (hr:(aA n 0).beacon=β)
  (way:∀j,aE j->(aA n j).beacon=β->Rk n.links (aA n j).level.toNat j/\(j≠0->(aA n j).up≠ -1->whole n j (aA n j).up=true/\(aA n (aA n j).up).beacon=β/\(aA n (aA n j).up).level<(aA n j).level))
  {w:Wd} (hw:gH n w) (k1:w.kind=1) (hwh:whole n w.src w.dst=true) (hs:w.beacon=β->(aA n w.src).beacon=β/\(aA n w.src).level<=w.level/\Rk n.links w.level.toNat w.src):
  (aA (aQ n w) 0).beacon=β/\∀j,aE j->(aA (aQ n w) j).beacon=β->Rk (aQ n w).links (aA (aQ n w) j).level.toNat j/\(j≠0->(aA (aQ n w) j).up≠ -1->whole (aQ n w) j (aA (aQ n w) j).up=true/\(aA (aQ n w) (aA (aQ n w) j).up).beacon=β/\(aA (aQ n w) (aA (aQ n w) j).up).level<(aA (aQ n w) j).level):=by
 obtain⟨kb,kl⟩:(0<=w.beacon/\w.beacon<=(aA n 0).beacon)/\(0<=w.level/\w.level<=4):=by
  rcases hw.kind with ⟨_,k,l,_⟩|⟨k,_⟩
  ·exact⟨k,l⟩
  ·omega
 refine⟨?_,fun j hj fj=>?_⟩
 ·rcases nW h hw k1 bA with e|⟨e0,e1,_⟩
  ·rw[e];exact hr
  ·exact absurd e0.symm e1
 ·rw[(kA n w).2.1]
  have stays:∀u,aE u->u≠w.dst->aA (aQ n w) u=aA n u:=fun u hu q=>by
   rcases nW h hw k1 hu with e|⟨e0,_⟩
   ·exact e
   ·exact absurd e0 q
  rcases nW h hw k1 hj with e|⟨rfl,d0,c,e⟩
  ·rw[e]at fj ⊢
   obtain⟨r,u⟩:=way j hj fj;refine⟨r,fun j0 un=>?_⟩;obtain⟨u1,u2,u3⟩:=u j0 un;have hu:aE (aA n j).up:=by
    have U:=((h.way j hj).up j0).1;exact⟨by omega,U.2⟩
   have N:=yA h hr hw k1 hu ⟨u2,Int.le_refl _⟩;exact⟨by rw[vH];exact u1,N.1,by have:=N.2;omega⟩
  ·rw[e]at fj ⊢
   have fj:w.beacon=β:=fj;obtain⟨s1,s2,s3⟩:=hs fj;have st:=stays w.src hw.src hw.other;refine⟨?_,fun _ un=>?_⟩
   ·show Rk n.links (w.level+1).toNat w.dst
    have:(w.level+1).toNat=w.level.toNat+1:=by omega
    rw[this];exact .inr ⟨w.src,hw.src,s3,hwh⟩
   ·have eu:(if 5<=w.level+1 then (-1:Int)else w.src)=w.src:=by
     rw[if_neg];intro q;exact un (show (if 5<=w.level+1 then (-1:Int)else w.src)= -1 from if_pos q)
    show whole (aQ n w) w.dst (if 5<=w.level+1 then (-1:Int)else w.src)=true/\(aA (aQ n w) (if 5<=w.level+1 then (-1:Int)else w.src)).beacon=β/\(aA (aQ n w) (if 5<=w.level+1 then (-1:Int)else w.src)).level<w.level+1
    rw[eu,st,vH,h.either _ _ hw.dst hw.src];exact⟨hwh,s1,by omega⟩
theorem aK0 {β:Int} {n:Nt} (h:aM n) (hr:(aA n 0).beacon=β) {w:Wd} (hw:gH n w) (k1:w.kind=1) (wb:w.beacon=β):nC β (aQ n w) w.dst (w.level+1):=by
 have W:=h.way w.dst hw.dst;unfold nC;have kl:0<=w.level/\w.level<=4:=by
  rcases hw.kind with ⟨_,_,l,_⟩|⟨k,_⟩
  ·exact l
  ·omega
 unfold aQ;simp only;rw[if_neg (by omega)]
 split
 ·rename_i q
  by_cases z:w.dst=0
  ·rw[z]
   have:=(h.way 0 bA).root rfl;exact⟨hr,by omega⟩
  ·have:=W.level z
   have:=W.beacon;omega
 ·rename_i q
  have z:w.dst≠0:=fun c=>q (.inl c)
  split
  ·rw[oQ h hw.dst,dL h hw.dst hw.dst,if_pos rfl]
   exact⟨wb,Int.le_refl _⟩
  ·have:=W.beacon
   omega
theorem aEW {β:Int}:∀(ws:List Wd) {n:Nt},aM n->(aA n 0).beacon=β->
  (∀j,aE j->(aA n j).beacon=β->Rk n.links (aA n j).level.toNat j/\(j≠0->(aA n j).up≠ -1->whole n j (aA n j).up=true/\(aA n (aA n j).up).beacon=β/\(aA n (aA n j).up).level<(aA n j).level))->
  (∀w ∈ ws,gH n w/\w.kind=1/\whole n w.src w.dst=true/\(w.beacon=β->(aA n w.src).beacon=β/\(aA n w.src).level<=w.level/\Rk n.links w.level.toNat w.src))->
  (aM (ws.foldl aQ n)/\(aA (ws.foldl aQ n) 0).beacon=β/\(ws.foldl aQ n).links=n.links/\(ws.foldl aQ n).past=n.past)/\
  (∀j,aE j->(aA (ws.foldl aQ n) j).beacon=β->Rk (ws.foldl aQ n).links (aA (ws.foldl aQ n) j).level.toNat j/\(j≠0->(aA (ws.foldl aQ n) j).up≠ -1->whole (ws.foldl aQ n) j (aA (ws.foldl aQ n) j).up=true/\(aA (ws.foldl aQ n) (aA (ws.foldl aQ n) j).up).beacon=β/\(aA (ws.foldl aQ n) (aA (ws.foldl aQ n) j).up).level<(aA (ws.foldl aQ n) j).level))/\
  (∀b l,aE b->nC β n b l->nC β (ws.foldl aQ n) b l)/\
  (∀w ∈ ws,w.beacon=β->nC β (ws.foldl aQ n) w.dst (w.level+1))
 | [],n,h,hr,way,_=>⟨⟨h,hr,rfl,rfl⟩,way,fun _ _ _ N=>N,fun w hw=>by cases hw⟩
 |w::ws,n,h,hr,way,hws=>by
  obtain⟨hw,k1,wh,hs⟩:=hws w (List.mem_cons_self ..);have L:=vF h hw;have I:=aLx h hr way hw k1 wh hs;have hb0:(aA (aQ n w) 0).beacon=β:=I.1;have r:=aEW ws (zX h hw) hb0 I.2 (fun v hv=>by
      obtain⟨a,b,c,d⟩:=hws v (List.mem_cons_of_mem _ hv)
      refine⟨a.later L.1 L.2,b,by rw[vH];exact c,fun vb=>?_⟩
      obtain⟨d1,d2,d3⟩:=d vb
      have N:=yA h hr hw k1 a.src ⟨d1,Int.le_refl _⟩
      exact⟨N.1,by have:=N.2;omega,by rw[(kA n w).2.1];exact d3⟩)
  rw[List.foldl_cons];refine⟨⟨r.1.1,r.1.2.1,r.1.2.2.1.trans (kA n w).2.1,r.1.2.2.2.trans (kA n w).2.2⟩,r.2.1,fun b l hb N=>r.2.2.1 b l hb (yA h hr hw k1 hb N),fun v hv vb=>?_⟩;rcases List.mem_cons.1 hv with rfl|hv
  ·exact r.2.2.1 _ _ hw.dst (aK0 h hr hw k1 vb)
  ·exact r.2.2.2 v hv vb
theorem aFg {n:Nt} (h:aM n) (hw:n.words=[]) {i:Int} (hi:aE i):
  (∀w ∈ (cA n i).1.words,w.kind=1/\w.src=i/\aE w.dst/\w.dst≠i/\w.beacon=(aA n i).beacon/\w.level=(aA n i).level/\whole n i w.dst=true)/\
  ((aA n i).level<5->∀b,aE b->b≠i->whole n i b=true->∃w ∈ (cA n i).1.words,w.dst=b/\w.beacon=(aA n i).beacon/\w.level=(aA n i).level):=by
 unfold cA;simp only
 split
 ·have key:∀c:Nat,c<=5->∀F,F=(List.range c).foldl (fun (m:Nt × Bool) (k:Nat)=>if (k:Int)=i then m else ((dF m.1 ⟨1,i,k,(aA n i).beacon,(aA n i).level,[]⟩).1,m.2 || (dF m.1 ⟨1,i,k,(aA n i).beacon,(aA n i).level,[]⟩).2)) (n,false)->
    F.1.links=n.links/\F.1.words.length<=c/\(∀w ∈ F.1.words,∃k:Nat,k<c/\(k:Int)≠i/\whole n i k=true/\w=⟨1,i,k,(aA n i).beacon,(aA n i).level,[]⟩)/\
    (∀k:Nat,k<c->(k:Int)≠i->whole n i k=true->(⟨1,i,k,(aA n i).beacon,(aA n i).level,[]⟩:Wd) ∈ F.1.words):=by
   intro c
   induction c with
   |zero=>
    rintro _ F rfl;refine⟨rfl,by show n.words.length<=0;rw[hw];exact Nat.le_refl _,fun w hm=>?_,fun k hk=>by omega⟩;have hm:w ∈ n.words:=hm;rw[hw]at hm;cases hm
   |succ c ih=>
    rintro hc F rfl;obtain⟨a1,a2,a3,a4⟩:=ih (by omega) _ rfl;rw[List.range_succ,List.foldl_append];simp only[List.foldl_cons,List.foldl_nil];generalize (List.range c).foldl (fun (m:Nt × Bool) (k:Nat)=>if (k:Int)=i then m else ((dF m.1 ⟨1,i,k,(aA n i).beacon,(aA n i).level,[]⟩).1,m.2 || (dF m.1 ⟨1,i,k,(aA n i).beacon,(aA n i).level,[]⟩).2)) (n,false)=F at a1 a2 a3 a4 ⊢
    by_cases q:(c:Int)=i
    ·rw[if_pos q]
     refine⟨a1,by omega,fun w hm=>?_,fun k hk ki kw=>?_⟩
     ·exact zBL
     ·exact a4 k (by (have:k≠c:=fun e=>ki (by rw[e];exact q));omega) ki kw
    ·rw[if_neg q]
     show (dF F.1 _).1.links=n.links/\(dF F.1 _).1.words.length<=c+1/\(∀w ∈ (dF F.1 _).1.words,_)/\(∀k:Nat,k<c+1->(k:Int)≠i->whole n i k=true->_ ∈ (dF F.1 _).1.words)
     have ew:whole F.1 i c=whole n i c:=by unfold whole;rw[a1]
     unfold dF
     by_cases g:whole n i c=true
     ·rw[if_pos ⟨by rw[ew];exact g,by omega⟩]
      refine⟨a1,by rw[List.length_append];simp;omega,fun w hm=>?_,fun k hk ki kw=>?_⟩
      ·rcases List.mem_append.1 hm with hm|hm
       ·exact zBL
       ·exact⟨c,by omega,q,g,List.mem_singleton.1 hm⟩
      ·by_cases e:k=c
       ·subst e;exact List.mem_append_right _ (List.mem_singleton.2 rfl)
       ·exact List.mem_append_left _ (a4 k (by omega) ki kw)
     ·rw[if_neg (fun z=>g (by rw[<-ew];exact z.1))]
      refine⟨a1,Nat.le_succ_of_le a2,fun w hm=>?_,fun k hk ki kw=>?_⟩
      ·exact zBL
      ·by_cases e:k=c
       ·subst e;exact absurd kw g
       ·exact a4 k (by omega) ki kw
  obtain⟨_,_,b1,b2⟩:=key 5 lr_ _ rfl;refine⟨fun w hm=>?_,fun _ b hb bi bw=>?_⟩
  ·obtain⟨k,k1,k2,k3,rfl⟩:=b1 w hm
   exact⟨rfl,rfl,⟨by show (0:Int)<=k;omega,by show (k:Int)<=4;omega⟩,k2,rfl,rfl,k3⟩
  ·have hb':=hb
   unfold aE at hb';have e:((b.toNat:Nat):Int)=b:=by omega
   exact⟨_,b2 b.toNat (by omega) (by rw[e];exact bi) (by rw[e];exact bw),e,rfl,rfl⟩
 ·rename_i q
  refine⟨fun w hm=>?_,fun z=>absurd z q⟩;have hm:w ∈ n.words:=hm;rw[hw]at hm;cases hm
theorem aLv {β:Int} {n:Nt} (H:Hi β n) (hw:n.words=[]) {i:Int} (hi:aE i):
  (Hi β (gI (cA n i).1)/\(gI (cA n i).1).words=[]/\(gI (cA n i).1).links=n.links/\(gI (cA n i).1).past=n.past)/\
  (∀b l,aE b->nC β n b l->nC β (gI (cA n i).1) b l)/\
  (∀l,nC β n i l->l<=4->∀b,aE b->b≠i->whole n i b=true->nC β (gI (cA n i).1) b (l+1)):=by
 have Kp:=pA H.ok hi;obtain⟨W1,W2⟩:=aFg H.ok hw hi;generalize (cA n i).1=m at Kp W1 W2 ⊢;obtain⟨mo,mn,ml,mp⟩:=Kp;have en:∀j,aA m j=aA n j:=pU mn
 have ew:∀a b,whole m a b=whole n a b:=fun a b=>by unfold whole;rw[ml]
 have R:=aEW (β:=β) m.words mo (by rw[en];exact H.root) (fun j hj fj=>by
      rw[en]at fj ⊢
      rw[ml]
      obtain⟨a,b⟩:=H.way j hj fj
      exact⟨a,fun j0 un=>by rw[ew,en];exact b j0 un⟩) (fun w hm=>by
      obtain⟨a1,a2,a3,a4,a5,a6,a7⟩:=W1 w hm
      refine⟨mo.word w hm,a1,by rw[ew,a2];exact a7,fun wb=>?_⟩
      rw[a2,en,ml]
      have fj:(aA n i).beacon=β:=by rw[<-a5];exact wb
      exact⟨fj,by rw[a6];exact Int.le_refl _,by rw[a6];exact (H.way i hi fj).1⟩)
 have O:=xH mo;obtain⟨⟨r1,r2,r3,r4⟩,r5,r6,r7⟩:=R;refine⟨⟨⟨O,r2,(fun w hm=>by cases hm),r5⟩,rfl,r3.trans ml,r4.trans mp⟩,fun b l hb N=>r6 b l hb (by unfold nC at *;rw[en];exact N),fun l N l4 b hb bi bw=>?_⟩;obtain⟨w,wm,w1,w2,w3⟩:=W2 (by have:=N.2;omega) b hb bi bw;have:=r7 w wm (by rw[w2];exact N.1);rw[w1,w3]at this
 exact⟨this.1,by have a:=this.2;have c:=N.2;show (aA (m.words.foldl aQ m) b).level<=l+1;omega⟩
theorem aJN {β:Int} {n:Nt} (H:Hi β n) (hw:n.words=[]):
  (Hi β (gF (fun m i=>(cA m i).1) n)/\(gF (fun m i=>(cA m i).1) n).words=[]/\(gF (fun m i=>(cA m i).1) n).links=n.links/\(gF (fun m i=>(cA m i).1) n).past=n.past)/\
  (∀b l,aE b->nC β n b l->nC β (gF (fun m i=>(cA m i).1) n) b l)/\
  (∀a l,aE a->nC β n a l->l<=4->∀b,aE b->b≠a->whole n a b=true->nC β (gF (fun m i=>(cA m i).1) n) b (l+1)):=by
 unfold gF;have key:∀c:Nat,c<=5->∀F,F=(List.range c).foldl (fun (m:Nt) (k:Nat)=>gI (cA m (k:Int)).1) n->
   (Hi β F/\F.words=[]/\F.links=n.links/\F.past=n.past)/\(∀b l,aE b->nC β n b l->nC β F b l)/\(∀a l,aE a->a<c->nC β n a l->l<=4->∀b,aE b->b≠a->whole n a b=true->nC β F b (l+1)):=by
  intro c
  induction c with
  |zero=>rintro _ F rfl;exact⟨⟨H,hw,rfl,rfl⟩,fun _ _ _ N=>N,fun a l ha h0=>by unfold aE at ha;omega⟩
  |succ c ih=>
   rintro hc F rfl;obtain⟨⟨a1,a2,a3,a4⟩,a5,a6⟩:=ih (by omega) _ rfl;rw[List.range_succ,List.foldl_append];simp only[List.foldl_cons,List.foldl_nil];generalize (List.range c).foldl (fun (m:Nt) (k:Nat)=>gI (cA m (k:Int)).1) n=F at a1 a2 a3 a4 a5 a6 ⊢;have hcn:aE (c:Int):=⟨by omega,by omega⟩
   obtain⟨⟨s1,s2,s3,s4⟩,s5,s6⟩:=aLv a1 a2 hcn;refine⟨⟨s1,s2,s3.trans a3,s4.trans a4⟩,fun b l hb N=>s5 b l hb (a5 b l hb N),fun a l ha ac N l4 b hb ba bw=>?_⟩
   by_cases q:a=(c:Int)
   ·subst q
    exact s6 l (a5 _ l ha N) l4 b hb ba (by unfold whole;rw[a3];exact bw)
   ·exact s5 b (l+1) hb (a6 a l ha (by omega) N l4 b hb ba bw)
 obtain⟨k1,k2,k3⟩:=key 5 lr_ _ rfl;exact⟨k1,k2,fun a l ha N l4 b hb ba bw=>k3 a l ha (by unfold aE at ha;omega) N l4 b hb ba bw⟩
theorem aIh {β:Int} {n:Nt} (H:Hi β n) (hw:n.words=[]):∀k:Nat,k<=5->∀F,F=(List.range k).foldl (fun m _=>gF (fun m i=>(cA m i).1) m) n->
  (Hi β F/\F.words=[]/\F.links=n.links/\F.past=n.past)/\∀q:Nat,q<=k->∀b,aE b->Rk n.links q b->nC β F b q:=by
 intro k
 induction k with
 |zero=>
  rintro _ F rfl;refine⟨⟨H,hw,rfl,rfl⟩,fun q hq b hb r=>?_⟩;obtain rfl:q=0:=by omega
  have r:b=0:=r;subst r;exact⟨H.root,Int.le_of_eq ((H.ok.way 0 bA).root rfl).1⟩
 |succ k ih=>
  rintro hk F rfl;obtain⟨⟨a1,a2,a3,a4⟩,a5⟩:=ih (by omega) _ rfl;rw[List.range_succ,List.foldl_append];simp only[List.foldl_cons,List.foldl_nil];generalize (List.range k).foldl (fun m _=>gF (fun m i=>(cA m i).1) m) n=F at a1 a2 a3 a4 a5 ⊢;obtain⟨⟨s1,s2,s3,s4⟩,s5,s6⟩:=aJN a1 a2;refine⟨⟨s1,s2,s3.trans a3,s4.trans a4⟩,fun q hq b hb r=>?_⟩
  have main:∀q:Nat,q<=k+1->Rk n.links q b->nC β (gF (fun m i=>(cA m i).1) F) b q:=by
   intro q
   induction q with
   |zero=>intro _ r;exact s5 b _ hb (a5 0 (by omega) b hb r)
   |succ q iq=>
    intro hq r;rcases r with r|⟨a,ha,ra,w⟩
    ·have N:=iq (by omega) r
     exact⟨N.1,by have:=N.2;omega⟩
    ·have N:=s6 a q ha (a5 q (by omega) a ha ra) (by omega) b hb (fun e=>by
            subst e
            have z:=a1.ok.self b hb
            unfold whole at z
            rw[a3]at z
            unfold wl at w
            rw[z]at w;cases w) (by unfold whole;rw[a3];exact w)
     exact⟨N.1,by have:=N.2;omega⟩
  exact main q hq r
def cH (a b:En):Prop:=b.born<a.born\/(b.born=a.born/\b.num<=a.num)
theorem cH.refl (a:En):cH a a:=.inr ⟨rfl,Int.le_refl _⟩
theorem cH.trans {a b c:En} (h:cH a b) (k:cH b c):cH a c:=by unfold cH at *;omega
theorem aHw {a b:En} (h:jM a b=true):cH a b:=by unfold jM at h;unfold cH;simp at h;omega
theorem aJP {a b:En} (h:¬jM a b=true):cH b a:=by unfold jM at h;unfold cH;simp at h;omega
def oZ (m:Nt) (j:Int) (e:En):Prop:=∃x,bM (aA m j).known e.node=some x/\cH x e
theorem aHd {es:List En} (h:es.Pairwise gV) {e x:En} {u:Int} (hx:bM es u=some x):∃y,bM (fP es e) u=some y/\cH y x:=by
 rw[sP h,hx]
 split
 ·refine⟨_,rfl,?_⟩
  show cH (if jM e x=true then e else x) x
  split
  ·rename_i q;exact aHw q
  ·exact cH.refl _
 ·exact⟨x,rfl,cH.refl _⟩
theorem aK6 {es:List En} (h:es.Pairwise gV) (e:En):∃y,bM (fP es e) e.node=some y/\cH y e:=by
 rw[sP h,if_pos rfl];cases bM es e.node with
 |none=>exact⟨e,rfl,cH.refl _⟩
 |some x=>
  refine⟨_,rfl,?_⟩;show cH (if jM e x=true then e else x) e
  split
  ·exact cH.refl _
  ·rename_i q;exact aJP q
theorem kJ:∀{news es:List En} {i:Int},es.Pairwise gV->∀{u:Int} {x:En},bM es u=some x->∃y,bM (dJ es i news) u=some y/\cH y x
 | [],_,_,_,_,x,hx=>⟨x,hx,cH.refl _⟩
 |e::news,es,i,h,u,x,hx=>by
  show ∃y,bM (dJ (if e.node=i then es else fP es e) i news) u=some y/\_
  split
  ·exact kJ h hx
  ·obtain⟨y,hy,a⟩:=aHd (e:=e) h hx
   obtain⟨z,hz,b⟩:=kJ (news:=news) (i:=i) (rL h) hy;exact⟨z,hz,b.trans a⟩
theorem vE:∀{news es:List En} {i:Int},es.Pairwise gV->∀{e:En},e ∈ news->e.node≠i->∃y,bM (dJ es i news) e.node=some y/\cH y e
 | [],_,_,_,e,h,_=>by cases h
 |x::news,es,i,h,e,he,hi=>by
  show ∃y,bM (dJ (if x.node=i then es else fP es x) i news) e.node=some y/\_
  rcases List.mem_cons.1 he with rfl|he
  ·rw[if_neg hi]
   obtain⟨y,hy,a⟩:=aK6 h e;obtain⟨z,hz,b⟩:=kJ (news:=news) (i:=i) (rL h) hy;exact⟨z,hz,b.trans a⟩
  ·split
   ·exact vE h he hi
   ·exact vE (rL h) he hi
theorem aCl {n:Nt} (h:aM n) {w:Wd} (hw:gH n w) (k2:w.kind=2) {j:Int} (hj:aE j):aA (aQ n w) j=if j=w.dst then { aA n j with known:=dJ (aA n j).known w.dst w.known }else aA n j:=by
 unfold aQ;simp only;rw[if_pos k2,oQ h hw.dst,dL h hw.dst hj]
 by_cases q:j=w.dst
 ·rw[if_pos q,if_pos q,q]
 ·rw[if_neg q,if_neg q]
structure pC (n m:Nt):Prop where
 ok:aM m
 words:m.words=[]
 links:m.links=n.links
 past:m.past=n.past
 same:∀j,aE j->(aA m j).born=(aA n j).born/\(aA m j).beacon=(aA n j).beacon/\(aA m j).level=(aA n j).level/\(aA m j).up=(aA n j).up
 known:∀j e,aE j->oZ n j e->oZ m j e
theorem pC.refl {n:Nt} (h:aM n) (hw:n.words=[]):pC n n:=⟨h,hw,rfl,rfl,fun _ _=>⟨rfl,rfl,rfl,rfl⟩,fun _ _ _ k=>k⟩
theorem pC.trans {a b c:Nt} (h:pC a b) (k:pC b c):pC a c:=
 ⟨k.ok,k.words,k.links.trans h.links,k.past.trans h.past,fun j hj=>by
    have x:=h.same j hj
    have y:=k.same j hj
    exact⟨y.1.trans x.1,y.2.1.trans x.2.1,y.2.2.1.trans x.2.2.1,y.2.2.2.trans x.2.2.2⟩,fun j e hj q=>k.known j e hj (h.known j e hj q)⟩
theorem pC.later {n m:Nt} (h:pC n m):kM n m:=
 ⟨fun i hi=>Int.le_of_eq (h.same i hi).1.symm,fun i _ b _ _=>⟨[],by unfold aN aO;rw[h.past,List.append_nil]⟩⟩
theorem pC.whole {n m:Nt} (h:pC n m) (a b:Int):whole m a b=whole n a b:=by unfold N.whole;rw[h.links]
theorem aHR {n:Nt} (h:aM n) {e:En} (T:tF n e):oZ n e.node e:=by
 obtain⟨o,o1,o2,o3⟩:=h.own e.node T.node;refine⟨o,o1,?_⟩;have b:=T.born;have m:=T.num;unfold cH
 by_cases q:e.born=(aA n e.node).born
 ·rw[q]at m
  omega
 ·omega
theorem aG3 {n:Nt} (h:aM n) (hw:n.words=[]) {i:Int} (hi:aE i):pC n (gI (fX n i).1)/\
  (0<=(aA n i).up->whole n i (aA n i).up=true->∀e,oZ n i e->tF n e->oZ (gI (fX n i).1) (aA n i).up e):=by
 unfold fX;simp only
 by_cases u0:(aA n i).up<0
 ·rw[if_pos u0]
  have e:gI n=n:=by
   unfold gI;rw[hw];show ({ n with words:=[] }:Nt)=n
   rw[<-hw]
  show pC n (gI n)/\_
  rw[e];exact⟨pC.refl h hw,fun c=>by omega⟩
 ·rw[if_neg u0]
  have W:=h.way i hi;have i0:i≠0:=fun c=>by have:=(W.root c).2;omega
  have U:=W.up i0;have hu:aE (aA n i).up:=⟨by omega,U.1.2⟩
  unfold dF
  by_cases g:whole n i (aA n i).up=true
  ·rw[if_pos ⟨g,by rw[hw];decide⟩]
   have hm:aM { n with words:=n.words++[⟨2,i,(aA n i).up,0,0,(aA n i).known⟩] }:=by
    refine vW h (by rw[hw];simp) (fun w hm=>?_);rw[hw]at hm;rw[List.mem_singleton.1 hm];exact⟨hi,hu,fun c=>U.2 c.symm,.inr ⟨rfl,rfl,rfl,h.known i hi⟩⟩
   have ea:gI { n with words:=n.words++[⟨2,i,(aA n i).up,0,0,(aA n i).known⟩] }={ aQ { n with words:=n.words++[⟨2,i,(aA n i).up,0,0,(aA n i).known⟩] } ⟨2,i,(aA n i).up,0,0,(aA n i).known⟩with words:=[] }:=by
    unfold gI;rw[hw]
    rfl
   have O:=xH hm;have tn:=fun j (hj:aE j)=>aCl hm (hm.word _ (List.mem_append_right _ (List.mem_singleton.2 rfl))) rfl hj
   have hr:=kA { n with words:=n.words++[⟨2,i,(aA n i).up,0,0,(aA n i).known⟩] } ⟨2,i,(aA n i).up,0,0,(aA n i).known⟩;rw[ea]at O ⊢
   have nn:∀j,aE j->aA { aQ { n with words:=n.words++[⟨2,i,(aA n i).up,0,0,(aA n i).known⟩] } ⟨2,i,(aA n i).up,0,0,(aA n i).known⟩with words:=[] } j=if j=(aA n i).up then { aA n j with known:=dJ (aA n j).known (aA n i).up (aA n i).known }else aA n j:=fun j hj=>tn j hj
   refine⟨⟨O,rfl,hr.2.1,hr.2.2,fun j hj=>?_,fun j e hj k=>?_⟩,fun _ _ e k T=>?_⟩
   ·rw[nn j hj]
    split<;>exact⟨rfl,rfl,rfl,rfl⟩
   ·unfold oZ at k ⊢
    rw[nn j hj]
    split
    ·obtain⟨x,hx,a⟩:=k
     obtain⟨y,hy,b⟩:=kJ (news:=(aA n i).known) (i:=(aA n i).up) (h.known j hj).asc hx;exact⟨y,hy,b.trans a⟩
    ·exact k
   ·obtain⟨x,hx,a⟩:=k
    have xm:=iG hx
    by_cases q:e.node=(aA n i).up
    ·have k:=aHR h T
     rw[q]at k;unfold oZ at k ⊢;rw[nn _ hu,if_pos rfl];obtain⟨x,hx,a⟩:=k;obtain⟨y,hy,b⟩:=kJ (news:=(aA n i).known) (i:=(aA n i).up) (h.known _ hu).asc hx;exact⟨y,hy,b.trans a⟩
    ·unfold oZ
     rw[nn _ hu,if_pos rfl];obtain⟨y,hy,b⟩:=vE (i:=(aA n i).up) (h.known _ hu).asc xm.1 (by rw[xm.2];exact q);rw[xm.2]at hy;exact⟨y,hy,b.trans a⟩
  ·rw[if_neg (fun z=>g z.1)]
   have e:gI n=n:=by
    unfold gI;rw[hw];show ({ n with words:=[] }:Nt)=n
    rw[<-hw]
   show pC n (gI n)/\_
   rw[e];exact⟨pC.refl h hw,fun _ c=>absurd c g⟩
theorem aAg {n:Nt} (h:aM n) (hw:n.words=[]):pC n (gF (fun m i=>(fX m i).1) n)/\
  (∀i,aE i->0<=(aA n i).up->whole n i (aA n i).up=true->∀e,oZ n i e->tF n e->oZ (gF (fun m i=>(fX m i).1) n) (aA n i).up e):=by
 unfold gF;have key:∀c:Nat,c<=5->∀F,F=(List.range c).foldl (fun (m:Nt) (k:Nat)=>gI (fX m (k:Int)).1) n->
   pC n F/\(∀i:Int,aE i->i<c->0<=(aA n i).up->whole n i (aA n i).up=true->∀e,oZ n i e->tF n e->oZ F (aA n i).up e):=by
  intro c
  induction c with
  |zero=>
   intro _ F hF;rw[show F=n from hF];exact⟨pC.refl h hw,fun i hi h0=>by unfold aE at hi;omega⟩
  |succ c ih=>
   rintro hc F rfl;obtain⟨a1,a2⟩:=ih (by omega) _ rfl;rw[List.range_succ,List.foldl_append];simp only[List.foldl_cons,List.foldl_nil];generalize (List.range c).foldl (fun (m:Nt) (k:Nat)=>gI (fX m (k:Int)).1) n=F at a1 a2 ⊢;have hcn:aE (c:Int):=⟨by omega,by omega⟩
   obtain⟨s1,s2⟩:=aG3 a1.ok a1.words hcn;refine⟨a1.trans s1,fun i hi ic u0 uw e k T=>?_⟩;have hu:aE (aA n i).up:=by
    have W:=h.way i hi;have i0:i≠0:=fun c=>by have:=(W.root c).2;omega
    exact⟨u0,(W.up i0).1.2⟩
   by_cases q:i=(c:Int)
   ·subst q
    have su:=(a1.same _ hi).2.2.2;rw[<-su];refine s2 (by rw[su];exact u0) (by rw[a1.whole,su];exact uw) e (a1.known _ e hi k) (T.later a1.later)
   ·exact s1.known _ e hu (a2 i hi (by omega) u0 uw e k T)
 obtain⟨k1,k2⟩:=key 5 lr_ _ rfl;exact⟨k1,fun i hi=>k2 i hi (by unfold aE at hi;omega)⟩
theorem aFz {α:Type} (f:α->α) (k:Nat):∀x:α,(List.range (k+1)).foldl (fun m _=>f m) x=(List.range k).foldl (fun m _=>f m) (f x):=by
 induction k with
 |zero=>intro x;rfl
 |succ k ih=>intro x;rw[List.range_succ,List.foldl_append,ih,List.range_succ,List.foldl_append];rfl
theorem zI {n:Nt} (h:aM n) (hw:n.words=[]) (k:Nat):pC n ((List.range k).foldl (fun m _=>gF (fun m i=>(fX m i).1) m) n):=by
 induction k with
 |zero=>exact pC.refl h hw
 |succ k ih=>
  rw[List.range_succ,List.foldl_append];simp only[List.foldl_cons,List.foldl_nil];generalize (List.range k).foldl (fun m _=>gF (fun m i=>(fX m i).1) m) n=F at ih ⊢;exact ih.trans (aAg ih.ok ih.words).1
def Way (β:Int) (n:Nt):Prop:=∀j,aE j->(aA n j).beacon=β->j≠0->(aA n j).up≠ -1->whole n j (aA n j).up=true/\(aA n (aA n j).up).beacon=β/\(aA n (aA n j).up).level<(aA n j).level
theorem aGs {n:Nt} (h:aM n) {j:Int} (hj:aE j) (j0:j≠0) (u:(aA n j).up≠ -1):aE (aA n j).up:=by
 have W:=(h.way j hj).up j0;exact⟨by omega,W.1.2⟩
theorem Way.calm {β:Int} {n m:Nt} (h:aM n) (W:Way β n) (C:pC n m):Way β m:=fun j hj fj j0 u=>by
 have s:=C.same j hj;rw[s.2.1]at fj;rw[s.2.2.2]at u ⊢;rw[s.2.2.1];obtain⟨a,b,c⟩:=W j hj fj j0 u;have t:=C.same _ (aGs h hj j0 u);exact⟨by rw[C.whole];exact a,by rw[t.2.1];exact b,by rw[t.2.2.1];exact c⟩
theorem aMn {β:Int} (L:Nat):∀{n:Nt},aM n->n.words=[]->Way β n->∀b,aE b->(aA n b).beacon=β->(aA n b).level<=L->(aA n b).level<=4->∀e,oZ n b e->tF n e->
  oZ ((List.range L).foldl (fun m _=>gF (fun m i=>(fX m i).1) m) n) 0 e:=by
 induction L with
 |zero=>
  intro n h hw W b hb fb lb l4 e k T
  by_cases b0:b=0
  ·subst b0;exact k
  ·have lv:=(h.way b hb).level b0
   omega
 |succ L ih=>
  intro n h hw W b hb fb lb l4 e k T
  by_cases b0:b=0
  ·subst b0
   exact (zI h hw (L+1)).known 0 e bA k
  ·have Wb:=h.way b hb
   have lv:=Wb.level b0;have u:(aA n b).up≠ -1:=fun c=>by have:=(Wb.none b0).1 c;omega
   have hu:=aGs h hb b0 u;obtain⟨w1,w2,w3⟩:=W b hb fb b0 u;obtain⟨C,up⟩:=aAg h hw;have s:=C.same _ hu;rw[aFz];exact ih C.ok C.words (W.calm h C) _ hu (by rw[s.2.1];exact w2) (by rw[s.2.2.1];omega) (by rw[s.2.2.1];omega) e (up b hb hu.1 w1 e k T) (T.later C.later)
theorem aBX {n:Nt} (h:aM n) {w:Wd} (hw:gH n w):(aA (aQ n w) 0).beacon=(aA n 0).beacon:=by
 rcases hw.kind with ⟨k,_⟩|⟨k,_⟩
 ·rcases nW h hw k bA with e|⟨e0,e1,_⟩
  ·rw[e]
  ·exact absurd e0.symm e1
 ·rw[aCl h hw k bA]
  split<;>rfl
theorem uQ:∀(ws:List Wd) {n:Nt},aM n->(∀w ∈ ws,gH n w)->(aA (ws.foldl aQ n) 0).beacon=(aA n 0).beacon/\(ws.foldl aQ n).links=n.links/\(ws.foldl aQ n).past=n.past
 | [],_,_,_=>⟨rfl,rfl,rfl⟩
 |w::ws,n,h,hw=>by
  have w0:=hw w (List.mem_cons_self ..);have L:=vF h w0;have r:=uQ ws (zX h w0) (fun v hv=>(hw v (List.mem_cons_of_mem _ hv)).later L.1 L.2);have q:=kA n w;rw[List.foldl_cons];exact⟨r.1.trans (aBX h w0),r.2.1.trans q.2.1,r.2.2.trans q.2.2⟩
theorem aHn {n m:Nt} (h:aM n) (k:aM m) (e:m.past=n.past) {j:Int} (hj:aE j):(aA m j).born=(aA n j).born:=by
 have a:=(h.pasts j hj).len;have b:=(k.pasts j hj).len;have r:aO m j=aO n j:=by unfold aO;rw[e]
 rw[r]at b;omega
theorem aLU {n:Nt} (h:aM n) {b:Int} (hb:aE b) {o y:En} (ho:bM (aA n b).known b=some o) (T:tF n y) (yb:y.node=b) (a:cH y o):y=o:=by
 obtain⟨o',o1,o2,o3⟩:=h.own b hb;rw[ho]at o1;obtain rfl:=Option.some.inj o1;have To:=(h.known b hb).all o (iG ho).1;have on:=(iG ho).2;have tb:=T.born;have tn:=T.num;rw[yb]at tb tn;unfold cH at a;have e1:y.born=o.born:=by omega
 rw[e1,o2]at tn;have e2:y.num=o.num:=by rw[e1]at a;omega
 have e3:y.s=o.s:=by rw[T.s,To.s,yb,on,e1,e2]
 cases y;cases o;simp only at yb on e1 e2 e3;rw[yb,on,e1,e2,e3]
structure aLP (n x:Nt):Prop where
 ok:aM x
 words:x.words=[]
 links:x.links=n.links
 past:x.past=n.past
 born:∀j,aE j->(aA x j).born=(aA n j).born
 beacon:(aA x 0).beacon=(aA n 0).beacon+1
 near:∀q:Nat,q<=5->∀b,aE b->Rk n.links q b->nC ((aA n 0).beacon+1) x b q
 far:∀j,aE j->(aA x j).beacon=(aA n 0).beacon+1->Rk n.links (aA x j).level.toNat j
 way:Way ((aA n 0).beacon+1) x
 knows:∀b,aE b->Rk n.links 4 b->bM (aA x 0).known b=bM (aA x b).known b
theorem aLO {n:Nt} (h:aM n) (hb:(aA n 0).beacon<1000):aLP n (aAS n):=by
 have o0:=xH h;obtain⟨b0,l0,p0⟩:=uQ n.words h h.word;have b0:(aA (gI n) 0).beacon=(aA n 0).beacon:=b0;have l0:(gI n).links=n.links:=l0;have p0:(gI n).past=n.past:=p0;have w0:(gI n).words=[]:=rfl;unfold aAS;generalize gI n=n0 at o0 b0 l0 p0 w0 ⊢;simp only;have o1:=yR o0 (by omega)
 have N1:∀j,aE j->aA (fB n0 0 { aA n0 0 with beacon:=(aA n0 0).beacon+1 }) j=if j=0 then { aA n0 0 with beacon:=(aA n0 0).beacon+1 }else aA n0 j:=fun j hj=>by
  rw[oQ o0 bA];exact dL o0 bA hj
 have l1:(fB n0 0 { aA n0 0 with beacon:=(aA n0 0).beacon+1 }).links=n0.links:=rfl;have p1:(fB n0 0 { aA n0 0 with beacon:=(aA n0 0).beacon+1 }).past=n0.past:=rfl;have w1:(fB n0 0 { aA n0 0 with beacon:=(aA n0 0).beacon+1 }).words=n0.words:=rfl;generalize fB n0 0 { aA n0 0 with beacon:=(aA n0 0).beacon+1 }=n1 at o1 N1 l1 p1 w1 ⊢
 have r1:(aA n1 0).beacon=(aA n 0).beacon+1:=by
  rw[N1 0 bA,if_pos rfl];show (aA n0 0).beacon+1=_
  rw[b0]
 have H1:Hi ((aA n 0).beacon+1) n1:=by
  refine⟨o1,r1,fun w hw=>?_,fun j hj fj=>?_⟩
  ·rw[w1,w0]at hw;cases hw
  ·by_cases z:j=0
   ·subst z
    have e:=((o1.way 0 bA).root rfl).1;exact⟨by rw[e];rfl,fun c=>absurd rfl c⟩
   ·rw[N1 j hj,if_neg z]at fj
    have:=(o0.way j hj).beacon;omega
 obtain⟨⟨H2,w2,l2,p2⟩,near⟩:=aIh H1 (by rw[w1,w0]) 5 lr_ _ rfl;generalize (List.range 5).foldl (fun m _=>gF (fun m i=>(cA m i).1) m) n1=n2 at H2 w2 l2 p2 near ⊢;have C:=zI H2.ok w2 5;have W2:Way ((aA n 0).beacon+1) n2:=fun j hj fj j0 u=>(H2.way j hj fj).2 j0 u
 have co:=fun b hb fb lb l4 e k T=>aMn (β:=(aA n 0).beacon+1) 5 H2.ok w2 W2 b hb fb lb l4 e k T
 generalize (List.range 5).foldl (fun m _=>gF (fun m i=>(fX m i).1) m) n2=x at C co ⊢;have lx:x.links=n.links:=C.links.trans (l2.trans (l1.trans l0));have px:x.past=n.past:=C.past.trans (p2.trans (p1.trans p0));have ll:n1.links=n.links:=l1.trans l0;refine⟨C.ok,C.words,lx,px,fun j hj=>aHn h C.ok px hj,?_,fun q hq b hb r=>?_,fun j hj fj=>?_,W2.calm H2.ok C,fun b hb r=>?_⟩
 ·rw[(C.same 0 bA).2.1];exact H2.root
 ·have N:=near q hq b hb (by rw[ll];exact r)
  have s:=C.same b hb;exact⟨by rw[s.2.1];exact N.1,by rw[s.2.2.1];exact N.2⟩
 ·have s:=C.same j hj
  rw[s.2.1]at fj;rw[s.2.2.1];have:=(H2.way j hj fj).1;rwa[l2,ll]at this
 ·have N:=near 4 dc_ b hb (by rw[ll];exact r)
  obtain⟨o,o1',o2,o3⟩:=H2.ok.own b hb;have To:=(H2.ok.known b hb).all o (iG o1').1;have on:=(iG o1').2;have k:=co b hb N.1 (by have:=N.2;omega) N.2 o ⟨o,by rw[on];exact o1',cH.refl _⟩ To;obtain⟨y,y1,ya⟩:=k;rw[on]at y1;have yn:=(iG y1).2;have Ty:=(C.ok.known 0 bA).all y (iG y1).1;obtain⟨ox,x1,x2,x3⟩:=C.ok.own b hb;have bs:=(C.same b hb).1
  have ax:cH y ox:=by
   refine ya.trans (.inr ⟨by rw[x2,o2,bs],?_⟩);have e:aN x b (aA x b).born=aN n2 b (aA n2 b).born:=by unfold aN aO;rw[C.past,bs]
   rw[x3,o3,e];exact Int.le_refl _
  rw[y1,x1,aLU C.ok hb x1 Ty yn ax]
theorem aGE:∀{a:List Int} {lo:Int},a.Pairwise (· <·)->(∀x ∈ a,lo<=x/\x<=4)->lo<=5->(a.length:Int)<=5 - lo
 | [],lo,_,_,h=>by simp;omega
 |x::a,lo,ha,h,_=>by
  have hx:=List.pairwise_cons.1 ha;have h1:=h x List.mem_cons_self;have:=aGE (a:=a) (lo:=x+1) hx.2 (fun y hy=>⟨by have:=hx.1 y hy;omega,(h y (List.mem_cons_of_mem _ hy)).2⟩) (by omega);simp only[List.length_cons];omega
end Go.Proofs.YtcblbdpdbggkbaaGreat.N
namespace Go.Proofs.YtcblbdpdbggkbaaGreat
open _root_.Go.Proofs.Tryz
open Go.RowKit Go.Sort
namespace N
theorem uN {n:Nt} (h:jF n=true) {i:Int} (hi:in6 i 0 4=true):jP n (aA n i).known/\(aA n i).known≠[]:=by
 unfold jF at h;simp only[Bool.and_eq_true,List.all_eq_true,List.mem_range]at h;obtain⟨-, -,h3, -⟩:=h;obtain⟨a,b⟩:=bH.1 hi;have:=h3 i.toNat o_;rw[show ((i.toNat:Nat):Int)=i by omega]at this;unfold nQ wL at this;rw[Bool.and_eq_true,Bool.and_eq_true]at this;refine⟨lE.1 this.2.1,fun e=>?_⟩;have t1:=this.1;rw[e]at t1;simp[bM]at t1
theorem iZ {n:Nt} {es:List En} (h:jP n es):es.length<=5:=by
 have h1:(es.map fun e=>e.node).Pairwise (· <·):=List.pairwise_map.2 h.asc;have h2:=aGE (lo:=0) h1 (fun x hx=>by
    obtain⟨e,he,rfl⟩:=List.mem_map.1 hx
    exact (h.all e he).node) o_
 rw[List.length_map]at h2;omega
theorem aFj {n:Nt} {es:List En} (hf:oM n) (h:jP n es) (e:En) (he:e ∈ es):okS e.s=true/\e.s.al<=100/\aFm e.s:=by
 have T:=h.all e he;have hl:((aN n e.node e.born).take e.num.toNat).length<=100:=by
  have hr:lO (aN n e.node e.born)=true:=aE7 (by
      have a:=T.node
      unfold aE at a
      have:=hf e.node.toNat o_
      rwa[show ((e.node.toNat:Nat):Int)=e.node by omega]at this)
  have:=aKZ hr;rw[List.length_take];omega
 rw[T.s];have:=(aKu T.ok).1;exact⟨T.ok,o_,(aIy _).lens⟩
def dQ (n:Nt) (i:Int):List En:=if jF n=true/\in6 i 0 4=true then (aA n i).known else []
theorem oY (n:Nt) (i:Int):(dQ n i).length<=5/\∀e ∈ dQ n i,okS e.s=true/\e.s.al<=100/\aFm e.s:=by
 unfold dQ
 split
 ·rename_i h
  exact⟨iZ (uN h.1 h.2).1,aFj (oF h.1).2 (uN h.1 h.2).1⟩
 ·exact⟨Nat.zero_le _,fun e he=>by cases he⟩
theorem aBC (w:World) {x1 x2 x3 x4:Option Addr} {k1 c1 k2 c2 k3 c3 k4 c4:Nat} {n:Nt} (hn:iP w (.slice x1 k1 c1) (.slice x2 k2 c2) (.slice x3 k3 c3) (.slice x4 k4 c4) n) (i:Int):
  Calls prog 32 #[.agg #[.slice x1 k1 c1,.slice x2 k2 c2,.slice x3 k3 c3,.slice x4 k4 c4],iv i] w fun r w'=>∃y c,r=.returned (.slice y (dQ n i).length c)/\M w.heap.size w w' [eQ (.slice y (dQ n i).length c) (dQ n i)]:=by
 have HN:=hd_ hn;have KF:=hd_ (oY n i);have h0:=(M.start w).alloc #[.slice x1 k1 c1,.slice x2 k2 c2,.slice x3 k3 c3,.slice x4 k4 c4] 30;obtain⟨p2,hp2⟩:=nm_ w.heap.size;obtain⟨W1,hW1⟩:=nm_ (w.alloc (.cells #[.slice x1 k1 c1,.slice x2 k2 c2,.slice x3 k3 c3,.slice x4 k4 c4] 30));rw[<-hW1]at h0
 have H1:=hd_ (show M w.heap.size w W1 [aL p2 30 #[.slice x1 k1 c1,.slice x2 k2 c2,.slice x3 k3 c3,.slice x4 k4 c4]] by rw[hp2];exact h0);clear h0 hn;go_enter func32,ntmps32;go_upto_region 1 with fail
 rw[<-hW1, <-hp2];clear hW1 hp2;obtain⟨a0,a1,a2,a3⟩:=H1.out.cells4;obtain⟨q,hq⟩:=nm_ (jF n);have KN:=hd_ (aAJ W1 (HN.out.below H1.out.below lr_));rw[<-hq]at KN;have HQ:=hd_ hq;clear hq
 have NIL:Hid (dQ n i=[]->∀w',M w.heap.size w w' [aL p2 30 #[.slice x1 k1 c1,.slice x2 k2 c2,.slice x3 k3 c3,.slice x4 k4 c4]]->∃y c,Ending.returned (Value.slice none 0 0)=.returned (.slice y (dQ n i).length c)/\M w.heap.size w w' [eQ (.slice y (dQ n i).length c) (dQ n i)]):=hd_ fun e w' h=>by
  rw[e];exact⟨none,0,rfl,(M.nil aP 64 10 h).p1.drop⟩
 go_wp2_with fail
 refine KN.out.mono ?_;rintro r w2 ⟨rfl,hb⟩;have H2:=hd_ (H1.out.later hb);clear hb KN H1 a0 a1 a2 a3;cases q with
 |false=>
  exact zBD
 |true=>
  cases gi:in6 i 0 4 with
  |false=>
   have G:=hd_ gi;have F:=hd_ (NIL.out (by unfold dQ;rw[if_neg (by rw[gi];simp)]) _ H2.out);clear gi
   go_wp2_with fail
   refine (tY _ i G.out).mono ?_;rintro r w' ⟨rfl,hw⟩;rw[<-hw];clear hw w';go_wp2;go_ret;exact F.out
  |true=>
   have G:=hd_ gi;have EF:Hid (dQ n i=(aA n i).known):=hd_ (by unfold dQ;rw[if_pos ⟨HQ.out.symm,gi⟩]);obtain⟨iA,iB⟩:=bH.1 gi;obtain⟨f1,n1⟩:=HN.out.nodes;obtain rfl:k1=5:=(aT n1).1.trans (oF HQ.out.symm).1.nodes;obtain⟨j,rfl⟩:∃j:Nat,i=j:=⟨i.toNat,o_⟩
   have j5:j<5:=o_;obtain⟨nd,hnd⟩:∃nd,n.nodes[j]? =some nd:=⟨_,List.getElem?_eq_getElem (by rw[(oF HQ.out.symm).1.nodes];exact j5)⟩
   have eN:aA n (j:Int)=nd:=by unfold aA;rw[List.getD_eq_getElem?_getD,Int.toNat_natCast,hnd];rfl
   rw[eN]at EF;obtain⟨g1,xk,ck,fk,rfl,_,_,kr,_,_,b0,b1,_⟩:=cB n1 hnd;have j0:(0:Int)<=(j:Int):=o_;have j1:(j:Int)<5:=o_;have R:=hd_ kr;replace b1:=cell_later H2.out.below b1;obtain⟨a0,a1,a2,a3⟩:=H2.out.cells4;clear gi hnd eN b0 n1 kr iA iB
   have KE:=hd_ (uR w2 (es:=nd.known) ((aV aP _ _).below R.out H2.out.below lr_) (by rw[<-EF.out];have:=KF.out.1;omega) (by rw[<-EF.out];exact fun e he=>(KF.out.2 e he).2.2))
   go_wp2_with fail
   refine (oG _ _ G.out).mono ?_;rintro r w' ⟨rfl,hw⟩;rw[<-hw];clear hw w'
   exact zA1
theorem _root_.Go.Proofs.YtcblbdpdbggkbaaGreat.M.ownR {B:Nat} {w0 w w':World} {l:List Ch} {v:Value} {rs:List (List Int)} {G C:Nat->Nat} (h:M B w0 w l) (hb:Below w.heap.size w w') (ho:dP w' w.heap.size v rs G C):M B w0 w' (rQ v rs::l):=
 h.add hb (aEb ho) (List.nodup_append.2 ⟨fW _,List.pairwise_map.2 (List.Pairwise.imp_of_mem (fun {i j} hi hj q e=>ho.apart i j (List.mem_range.1 hi) (List.mem_range.1 hj) q e) List.nodup_range),fun a ha b hb e=>by
    obtain⟨i,hi,rfl⟩:=List.mem_map.1 hb
    exact ho.off i (List.mem_range.1 hi) (by rw[bL ha,e])⟩) fun b hb=>by
   rcases List.mem_append.1 hb with hb|hb
   ·exact (World.ownsRow.lt ho.hdr b (bL hb)).1
   ·obtain⟨i,hi,rfl⟩:=List.mem_map.1 hb
    exact ((ho.row i (List.mem_range.1 hi)).lt (G i) rfl).1
theorem aCI (w:World) {V:SV} {s:Sm} {f:List Nat} (h:rS w (cS V s) s f) (hs:okS s=true):
  Calls prog 167 #[.agg #[.slice V.xr V.nr V.cr,.slice V.xf V.nf V.cf,.slice V.xt V.nt V.ct,iv s.lo,iv s.al,.slice V.xk V.nk V.ck,iv s.ka]] w fun r w'=>∃U:SV,r=.returned (vS U s)/\M w.heap.size w w' [bF.ch (cS U s) s]:=by
 obtain⟨fr,ff,ft,fk,hr,hf,ht,hk⟩:=aCq h;obtain⟨v',ev,rr⟩:=aFe hr;cases ev;have hl:=((eZ _).1 hs).small.lens;have HO:=hd_ ((eZ _).1 hs).r;have LF:=hd_ hl.f;have LT:=hd_ hl.t;have LK:=hd_ hl.k;have HR:=hd_ rr;have HF:=hd_ (RdL.fl hf);have HT:=hd_ (RdL.fl ht);have HK:=hd_ (RdL.fl hk);clear h hl hr hf ht hk hs rr
 have X:=((M.start w).alloc (cS V s) 46).alloc #[zn,zn,zn,iv 0,iv 0,zn,iv 0] 46;simp only[World.size_alloc]at X;obtain⟨p1,hp1⟩:=nm_ w.heap.size;obtain⟨p2,hp2⟩:=nm_ (w.heap.size+1);obtain⟨W0,hW0⟩:=nm_ ((w.alloc (.cells (cS V s) 46)).alloc (.cells #[zn,zn,zn,iv 0,iv 0,zn,iv 0] 46));rw[<-hW0, <-hp2]at X
 have H0:=hd_ (show M w.heap.size w W0 [aL p1 46 (cS V s),aL p2 46 #[zn,zn,zn,iv 0,iv 0,zn,iv 0]] by rw[hp1];exact X.p1);clear X;go_enter func167,ntmps167;go_upto_region 1 with fail
 rw[<-hW0, <-hp2, <-hp1];clear hW0 hp2 hp1;obtain⟨c0,c1,c2,c3,c4,c5,c6⟩:=H0.out.cells7;have K1:=hd_ (aGS W0 _ s.rs (HR.out.below H0.out.below lr_) HO.out)
 go_wp2_with fail
 refine K1.out.mono ?_;rintro r v1 ⟨yr,dr,G,C,rfl,ho,hb⟩;have X:=(H0.out.ownR hb ho).p1;clear ho hb K1 H0 c0 c1 c2 c3 c4 c5 c6;obtain⟨c0,c1,c2,c3,c4,c5,c6⟩:=X.cells7;have cf:=X.free;have Y:=X.set (i:=0) (.slice yr 3 dr);simp only[List.setIfInBounds_toArray,List.set_cons_zero,List.set_cons_succ]at Y;obtain⟨W1,hW⟩:=nm_ (v1.setCell ⟨p1,0,none⟩ (.slice yr 3 dr));rw[<-hW]at Y;have H1:=hd_ Y;clear X Y
 go_upto_region 2 with fail
 rw[<-hW];clear hW c0 c1 c2 c3 c4 c5 c6 cf;have e1:=(H1.out.alloc #[] 3).empty (aG kY) 1;obtain⟨c0,c1,c2,c3,c4,c5,c6⟩:=e1.p1.cells7;have E1:=hd_ e1;have R1:=hd_ (HF.out.later e1.below);clear e1 H1
 go_upto_region 3 with (at_builtin;go_loud (refine dW sJ (fun _=>rfl) fE E1.out R1.out rfl rfl rfl rfl (by rw[List.length_nil];have:=LF.out;unfold maxLen;omega) (by rw[List.length_nil];have:=LF.out;omega) (N:=s.zs.length) (by rw[List.length_nil,Nat.zero_add]) ?_);intro yf df u1 h;clear c0 c1 c2 c3 c4 c5 c6;obtain⟨c0,c1,c2,c3,c4,c5,c6⟩:=h.p1.cells7;have cf:=h.p1.free;have Y:=h.soft.p1.set (i:=1) (.slice yf s.zs.length df);simp only[List.setIfInBounds_toArray,List.set_cons_zero,List.set_cons_succ]at Y;clear h E1 R1)
 obtain⟨W2,hW⟩:=nm_ (u1.setCell ⟨p1,1,none⟩ (.slice yf s.zs.length df));rw[<-hW]at Y ⊢;have H2:=hd_ Y;clear Y hW c0 c1 c2 c3 c4 c5 c6 cf;have e2:=(H2.out.alloc #[] 213).empty (aG qH) 2;obtain⟨c0,c1,c2,c3,c4,c5,c6⟩:=e2.p1.cells7;have E2:=hd_ e2;have R2:=hd_ (HT.out.later e2.below);clear e2 H2
 go_upto_region 4 with (at_builtin;go_loud (refine dW aLK (fun _=>rfl) rI E2.out R2.out rfl rfl rfl rfl (by rw[List.length_nil];have:=LT.out;unfold maxLen;omega) (by rw[List.length_nil];have:=LT.out;omega) (N:=s.ps.length) (by rw[List.length_nil,Nat.zero_add]) ?_);intro yt dt u2 h;clear c0 c1 c2 c3 c4 c5 c6;obtain⟨c0,c1,c2,c3,c4,c5,c6⟩:=h.p1.cells7;have cf:=h.p1.free;have Y:=h.soft.p1.set (i:=2) (.slice yt s.ps.length dt);simp only[List.setIfInBounds_toArray,List.set_cons_zero,List.set_cons_succ]at Y;clear h E2 R2)
 obtain⟨W3,hW⟩:=nm_ (u2.setCell ⟨p1,2,none⟩ (.slice yt s.ps.length dt));rw[<-hW]at Y ⊢;have H3:=hd_ Y;clear Y hW c0 c1 c2 c3 c4 c5 c6 cf;have e3:=(H3.out.alloc #[] 152).empty (aG qH) 2;obtain⟨c0,c1,c2,c3,c4,c5,c6⟩:=e3.p1.cells7;have E3:=hd_ e3;have R3:=hd_ (HK.out.later e3.below);clear e3 H3
 go_upto_region 5 with (at_builtin;go_loud (refine dW aLC (fun _=>rfl) rI E3.out R3.out rfl rfl rfl rfl (by rw[List.length_nil];have:=LK.out;unfold maxLen;omega) (by rw[List.length_nil];have:=LK.out;omega) (N:=s.ks.length) (by rw[List.length_nil,Nat.zero_add]) ?_);intro yk dk u3 h;clear c0 c1 c2 c3 c4 c5 c6;obtain⟨c0,c1,c2,c3,c4,c5,c6⟩:=h.p1.cells7;have cf:=h.p1.free;have Y:=h.soft.p1.set (i:=5) (.slice yk s.ks.length dk);simp only[List.setIfInBounds_toArray,List.set_cons_zero,List.set_cons_succ]at Y;clear h E3 R3)
 obtain⟨W4,hW⟩:=nm_ (u3.setCell ⟨p1,5,none⟩ (.slice yk s.ks.length dk));rw[<-hW]at Y ⊢;have H4:=hd_ Y;clear Y hW c0 c1 c2 c3 c4 c5 c6 cf;obtain⟨U,hU⟩:∃U:SV,U=⟨yr,3,dr,yf,s.zs.length,df,yt,s.ps.length,dt,yk,s.ks.length,dk⟩:=⟨_,rfl⟩
 have H5:=hd_ (show M w.heap.size w W4 (aL p1 46 (cS U s)::aFp (.slice U.xk U.nk U.ck) s.ks::aFO (.slice U.xt U.nt U.ct) s.ps::uJ (.slice U.xf U.nf U.cf) s.zs::rQ (.slice U.xr U.nr U.cr) s.rs::[aL p2 46 #[zn,zn,zn,iv 0,iv 0,zn,iv 0]]) by rw[hU];exact H4.out);clear hU H4;obtain⟨c0,c1,c2,c3,c4,c5,c6⟩:=H5.out.cells7
 go_wp2_with (go_loud (refine dG H5.out.p5 (vs:=[.slice U.xr U.nr U.cr,.slice U.xf U.nf U.cf,.slice U.xt U.nt U.ct,iv s.lo,iv s.al,.slice U.xk U.nk U.ck,iv s.ka]) (ys:=#[.slice U.xr U.nr U.cr,.slice U.xf U.nf U.cf,.slice U.xt U.nt U.ct,iv s.lo,iv s.al,.slice U.xk U.nk U.ck,iv s.ka]) rfl rfl rfl (by first|rfl|simp) aDJ rfl (by simp) (by simp[pK]) ?_);intro w9 h9;have H9:=hd_ h9;clear h9 H5)
 obtain⟨e0,e1,e2,e3,e4,e5,e6⟩:=H9.out.cells7;exact bodyPost_ret (v:=.agg #[.slice U.xr U.nr U.cr,.slice U.xf U.nf U.cf,.slice U.xt U.nt U.ct,iv s.lo,iv s.al,.slice U.xk U.nk U.ck,iv s.ka]) (by simp[results,results167,go_sem,e0,e1,e2,e3,e4,e5,e6]) rfl ⟨U,rfl,M.sumWhole ((H9.out.drop.drop).perm (List.reverse_perm [_,_,_,_] |>.symm))⟩
theorem kG (w:World) {x:Option Addr} {c:Nat} {es:List En} {f:List Nat} (h:gD TY w [.slice x es.length c] es f) (hk:es.length<=1048576) (hr:∀e ∈ es,okS e.s=true):
  Calls prog 98 #[.slice x es.length c] w fun r w'=>∃y cy,r=.returned (.slice y es.length cy)/\M w.heap.size w w' [eQ (.slice y es.length cy) es]:=by
 have H1:=hd_ h;have HR:=hd_ hr;have H0:=hd_ (((M.start w).alloc #[] 64).empty aP 10);clear h hr;go_enter func98,ntmps98;go_wp2;go_loopw [3,4] (fun y z wr=>∃(j cy:Nat) (xy:Option Addr),j<=es.length/\z=.int .i64 (j:Int)/\y=.slice xy j cy/\M w.heap.size w wr [eQ (.slice xy j cy) (es.take j)]) (fun _ z _=>es.length - (intOf z).toNat)
 case atStart=>exact⟨0,0,_,Nat.zero_le _,rfl,rfl,H0.out⟩
 case round=>
  clear H0;obtain⟨j,cy,xy,hj,rfl,rfl,hM⟩:=hrel;have H:=hd_ hM;clear hM
  by_cases hlt:j<es.length
  ·obtain⟨e,he⟩:∃e,es[j]? =some e:=⟨_,List.getElem?_eq_getElem hlt⟩
   obtain⟨g,V,fe,rfl,_,_,sr,ca0,ca1,ca2,cas⟩:=gY H1.out he;have hWB:=H.out.below;have LL:okS e.s=true:=HR.out e (List.mem_of_getElem? he);have ST:=hd_ (lX he);have LT:Hid ((es.take j).length=j):=hd_ (by rw[List.length_take];omega);replace ca0:=cell_later hWB ca0;replace ca1:=cell_later hWB ca1;replace ca2:=cell_later hWB ca2;have ca3:=cell_later hWB (cas 0 _ rfl)
   have ca4:=cell_later hWB (cas 1 _ rfl);have ca5:=cell_later hWB (cas 2 _ rfl);have ca6:=cell_later hWB (cas 3 _ rfl);have ca7:=cell_later hWB (cas 4 _ rfl);have ca8:=cell_later hWB (cas 5 _ rfl);have ca9:=cell_later hWB (cas 6 _ rfl);have j0:(0:Int)<=(j:Int):=o_;have j1:(j:Int)<(es.length:Int):=o_
   have h2:=H.out.alloc #[iv e.node,iv e.born,iv e.num,.slice V.xr V.nr V.cr,.slice V.xf V.nf V.cf,.slice V.xt V.nt V.ct,.int .i64 (e.s).lo,.int .i64 (e.s).al,.slice V.xk V.nk V.ck,.int .i64 (e.s).ka] 64;obtain⟨p7,hp7⟩:=nm_ wr.heap.size
   obtain⟨W,hW⟩:=nm_ (wr.alloc (.cells #[iv e.node,iv e.born,iv e.num,.slice V.xr V.nr V.cr,.slice V.xf V.nf V.cf,.slice V.xt V.nt V.ct,.int .i64 (e.s).lo,.int .i64 (e.s).al,.slice V.xk V.nk V.ck,.int .i64 (e.s).ka] 64));rw[<-hW, <-hp7]at h2;have H2:=hd_ h2;have KE:=hd_ (aCI W (V:=V) (s:=e.s) (bF.below sr h2.below lr_) LL);clear h2 cas hWB sr he LL H;go_upto_region 6 with fail
   rw[<-hW, <-hp7];clear hW hp7 ca0 ca1 ca2 ca3 ca4 ca5 ca6 ca7 ca8 ca9;obtain⟨d0,d1,d2,d3,d4,d5,d6,d7,d8,d9⟩:=H2.out.cells10
   go_wp2_with fail
   refine KE.out.mono ?_;rintro r2 w2 ⟨U,rfl,hm⟩;have H3:=hd_ (H2.out.plus hm).p1;clear hm KE H2 d0 d1 d2 d3 d4 d5 d6 d7 d8 d9
   go_upto_region 7 with (refine dG H3.out (vs:=[.slice U.xr U.nr U.cr,.slice U.xf U.nf U.cf,.slice U.xt U.nt U.ct,.int .i64 (e.s).lo,.int .i64 (e.s).al,.slice U.xk U.nk U.ck,.int .i64 (e.s).ka]) (ys:=#[iv e.node,iv e.born,iv e.num,.slice U.xr U.nr U.cr,.slice U.xf U.nf U.cf,.slice U.xt U.nt U.ct,.int .i64 (e.s).lo,.int .i64 (e.s).al,.slice U.xk U.nk U.ck,.int .i64 (e.s).ka]) rfl rfl rfl rfl aDJ rfl (by simp) (by simp[pK]) ?_;intro w3 h3;obtain⟨d0,d1,d2,d3,d4,d5,d6,d7,d8,d9⟩:=h3.cells10;have H4:=hd_ (((h3.p1.entry e.node e.born e.num).p2).alloc #[iv e.node,iv e.born,iv e.num,.slice U.xr U.nr U.cr,.slice U.xf U.nf U.cf,.slice U.xt U.nt U.ct,.int .i64 (e.s).lo,.int .i64 (e.s).al,.slice U.xk U.nk U.ck,.int .i64 (e.s).ka] 64);clear h3 H3)
   have H5:=H4;clear H4
   go_wp2_with (at_builtin;go_loud (refine dA aC2 gT H5.out rfl rfl rfl rfl (by rw[LT.out];unfold maxLen;omega) (by rw[LT.out];omega) (N:=j+1) (by rw[LT.out]) ?_);intro y3 c3 w4 h6;have H6:=hd_ h6;clear h6 H5 d0 d1 d2 d3 d4 d5 d6 d7 d8 d9)
   go_roundw
   case rel=>exact⟨j+1,c3,y3,o_,gn_,rfl,by rw[ST.out];exact H6.out.p1.drop⟩
   case measure=>simp[intOf];omega
  ·exact zBl
section
variable {B:Nat} {w0 w:World} {l:List Ch} {p:Nat} {n:Nt}
theorem aHS {n:Nt} {i:Int} (h:(aA n i).up<0):fX n i=(n,false):=by unfold fX;simp only[if_pos h]
theorem aHr {n:Nt} {i:Int} (h:¬(aA n i).up<0):fX n i=dF n ⟨2,i,(aA n i).up,0,0,(aA n i).known⟩:=by unfold fX;simp only[if_neg h]
theorem aCB (h:M B w0 w (cU p n::l)) (hs:oP n) {i:Nat} (hi:i<5) (hu:(aA n (i:Int)).up<=4) (hk:(aA n (i:Int)).known.length<=1048576) (ho:∀e ∈ (aA n (i:Int)).known,okS e.s=true):
  Calls prog 264 #[jG p,iv (i:Int)] w fun r w'=>r=.returned (.bool (fX n (i:Int)).2)/\M B w0 w' (cU p (fX n (i:Int)).1::l):=by
 obtain⟨g,c1,v2,v3,v4,xk,ck,fk,a0,a1,a2,a3,kr,d0,d1,d2,d3,d4⟩:=h.liveNode hs hi;obtain⟨x,hx⟩:=nm_ (aA n (i:Int));have TN:=hd_ (fun q:x.up<0=>aHS (n:=n) (i:=(i:Int)) (by rw[<-hx];exact q));have TS:=hd_ (fun q:¬x.up<0=>aHr (n:=n) (i:=(i:Int)) (by rw[<-hx];exact q));rw[<-hx]at d0 d1 d2 d3 d4 kr hu hk ho TS;obtain⟨kl,hkl⟩:=nm_ x.known.length;have HKL:=hd_ hkl;rw[<-hkl]at d1 kr hk
 have i0:(0:Int)<=(i:Int):=o_;have i1:(i:Int)<5:=o_;have IN:Hid (aE (i:Int)):=hd_ (by unfold aE;omega);have h1:=h.alloc #[iv x.born,.slice xk kl ck,iv x.beacon,iv x.level,iv x.up] 55;obtain⟨px,hpx⟩:=nm_ w.heap.size;obtain⟨W0,hW0⟩:=nm_ (w.alloc (.cells #[iv x.born,.slice xk kl ck,iv x.beacon,iv x.level,iv x.up] 55))
 have hb0:Below w.heap.size w W0:=by rw[hW0];exact (Below.refl _ _).alloc lr_ _
 rw[<-hW0, <-hpx]at h1;have KR:=hd_ (gR.below kr hb0 lr_);have HO:=hd_ ho;have HS:=hd_ hs;have H0:=hd_ h1.p1;clear h h1 hx kr hkl hs hi ho hb0;unfold jG;go_enter func264,ntmps264;go_upto_region 2 with fail
 rw[<-hW0, <-hpx];clear hW0 hpx a0 a1 a2 a3 d0 d1 d2 d3 d4;obtain⟨d0,d1,d2,d3,d4⟩:=H0.out.p1.cells5
 by_cases hup:x.up<0
 case pos=>
  have TT:=hd_ (TN.out hup);go_wp2;go_ret;rw[TT.out];exact⟨rfl,H0.out.p1.drop⟩
 have TT:=hd_ (TS.out hup);have UP:Hid (aE x.up):=hd_ (by unfold aE;omega);have S0:Hid (aH W0 (b5L px (iv x.born) (.slice xk kl ck) (iv x.beacon) (iv x.level) (iv x.up))):=hd_ ⟨d0,d1,d2,d3,d4,trivial⟩;go_wp2;have H1:=hd_ H0.out.drew;obtain⟨W1,hW1⟩:=nm_ W0.drew;have hb1:Below W0.heap.size W0 W1:=by rw[hW1];exact Below.drew (Below.refl _ _)
 rw[<-hW1]at H1;have EW:=hd_ hW1;have S1:=hd_ (S0.out.below hb1);have KE:=hd_ (kG W1 (x:=xk) (c:=ck) (es:=x.known) (by rw[<-HKL.out];exact gR.below KR.out hb1 lr_) (by rw[<-HKL.out];exact hk) HO.out);rw[<-HKL.out]at KE;clear hW1 hb1 H0 KR d0 d1 d2 d3 d4
 refine aC 9 (.tk 0 6 (.alt 6 (.take 7 (.alt 8 (.alt 9 .done .nomore) .nomore)) .nomore)) (fun w'=>aH w' (b5L px (iv x.born) (.slice xk kl ck) (iv x.beacon) (iv x.level) (iv x.up))) kr_ kr_ (fun _ _ _ _ _ h=>h) (by rw[<-EW.out];exact S1.out) ?_;rw[<-EW.out]
 repeat (first|refine tC_ ?_|refine tB_ ?_)
 refine aB r_ (fun K' hK=>?_);go_simp;refine KE.out.mono ?_;rintro r w2 ⟨y,cy,rfl,hm⟩;have h3:=H1.out.plus hm;have S2:=hd_ (S1.out.below hm.below);refine hK _ _ (.inr S2.out) ?_;clear hK K'
 try refine tP_ ?_
 repeat (first|refine tC_ ?_|refine tB_ ?_)
 have KS:=hd_ (aBV (x:=⟨2,(i:Int),x.up,0,0,x.known⟩) ((M.word 2 (i:Int) x.up 0 0 h3).p1) HS.out.links (by have:=HS.out.words;omega) IN.out UP.out);clear h3 hm KE H1 S1;refine aB r_ (fun K' hK=>?_);go_simp;refine KS.out.mono ?_;rintro r w3 ⟨rfl,h4⟩;obtain⟨d0,d1,d2,d3,d4⟩:=h4.p1.cells5;refine hK _ _ (.inr ⟨d0,d1,d2,d3,d4,trivial⟩) ?_;clear hK K'
 try refine tP_ ?_
 have H4:=hd_ h4;clear h4 KS S2 d0 d1 d2 d3 d4;refine aB r_ (fun K' hK=>?_);go_simp;refine hK _ _ (.inl rfl) ?_;clear hK K'
 try refine tP_ ?_
 refine aD ?_;go_wp2;go_ret;rw[TT.out];exact⟨rfl,H4.out.p1.drop⟩
end
section
variable {B:Nat} {w0 w:World} {l:List Ch} {p:Nat}
theorem oE {ns:List Nd} {d:Nat} {x:Nd} (h:ns[d]? =some x) (y:Nd):(ns.set d y)[d]? =some y:=by rw[List.getElem?_set_self (List.getElem?_eq_some_iff.1 h).1]
theorem aAB {n:Nt} {x:Wd} {v:Value} {d:Nat} (h:M B w0 w (cU p n::l)) (hs:oP n) (hd:x.dst=(d:Int)) (d5:d<5) (hk:x.kind≠2) (hlv:0<=x.level/\x.level<=1000000):
  Calls prog 306 #[jG p,.agg #[iv x.kind,iv x.src,iv (d:Int),iv x.beacon,iv x.level,v]] w fun r w'=>r=.returned (.tuple #[])/\M B w0 w' (cU p (aQ n x)::l):=by
 obtain⟨lv0,lv1⟩:=hlv;obtain⟨nd,hnd⟩:=nm_ (aA n (d:Int));have gx:=eY hs.nodes d5;rw[<-hnd]at gx;have HE:Hid (aQ n x=if (d:Int)=0\/(5<=x.level+1/\x.beacon<=nd.beacon)then n else if nd.beacon<x.beacon\/(x.beacon=nd.beacon/\x.level+1<nd.level)then { n with nodes:=n.nodes.set d { nd with beacon:=x.beacon,level:=x.level+1,up:=if 5<=x.level+1 then -1 else x.src } }else n):=hd_ (by
    unfold aQ fB
    simp only[hd,if_neg hk, <-hnd]
    rfl)
 have h0:=h.alloc #[iv x.kind,iv x.src,iv (d:Int),iv x.beacon,iv x.level,v] 123;obtain⟨pw,hpw⟩:=nm_ w.heap.size;obtain⟨W0,hW0⟩:=nm_ (w.alloc (.cells #[iv x.kind,iv x.src,iv (d:Int),iv x.beacon,iv x.level,v] 123));rw[<-hW0, <-hpw]at h0;have HL0:=hd_ h0.drop;obtain⟨ns,ls,ws,ps⟩:=n;obtain⟨hs1,hs2,hs3,hs4⟩:=hs;simp only at hs1 hs2 hs3 hs4 gx;obtain⟨x1,c1,x2,c2,x3,c3,x4,c4,h1⟩:=h0.p1.live
 simp only at h1;rw[hs1]at h1;obtain⟨f1,hf1⟩:=h1.p1.nodesRd;obtain⟨g1,xk,ck,fk,rfl,_,_,kr,_,_,d0,d1,d2,d3,d4⟩:=cB hf1 gx;obtain⟨kl,hkl⟩:=nm_ nd.known.length;rw[<-hkl]at d1
 have H1:=hd_ (show M B w0 W0 (bE (.slice (some ⟨g1,0,none⟩) 5 c1) ns::aL p 289 #[.slice (some ⟨g1,0,none⟩) 5 c1,.slice x2 ls.length c2,.slice x3 ws.length c3,.slice x4 ps.length c4]::aL pw 123 #[iv x.kind,iv x.src,iv (d:Int),iv x.beacon,iv x.level,v]::bY (.slice x2 ls.length c2) ls::bG (.slice x3 ws.length c3) ws::dN (.slice x4 ps.length c4) ps::l)from h1.p1.p5.p2.p2)
 have GX:=hd_ gx;have D0:Hid (aH W0 [(⟨g1,d * 5,none⟩,.int .i64 nd.born),(⟨g1,d * 5+1,none⟩,.slice xk kl ck),(⟨g1,d * 5+2,none⟩,.int .i64 nd.beacon),(⟨g1,d * 5+3,none⟩,.int .i64 nd.level),(⟨g1,d * 5+4,none⟩,.int .i64 nd.up)]):=hd_ ⟨d0,d1,d2,d3,d4,trivial⟩
 have CC:∀(w':World) (c':Ch) (l':List Ch),M B w0 w' (aL pw 123 #[iv x.kind,iv x.src,iv (d:Int),iv x.beacon,iv x.level,v]::c'::aL p 289 #[.slice (some ⟨g1,0,none⟩) 5 c1,.slice x2 ls.length c2,.slice x3 ws.length c3,.slice x4 ps.length c4]::l')->aH w' (b4L p (.slice (some ⟨g1,0,none⟩) 5 c1) (.slice x2 ls.length c2) (.slice x3 ws.length c3) (.slice x4 ps.length c4)++b6L pw (iv x.kind) (iv x.src) (iv (d:Int)) (iv x.beacon) (iv x.level) v):=fun w' c' l' h=>by
  obtain⟨b0,b1,b2,b3,b4,b5⟩:=h.cells6;obtain⟨a0,a1,a2,a3⟩:=h.p2.cells4;exact⟨a0,a1,a2,a3,b0,b1,b2,b3,b4,b5,trivial⟩
 have i0:(0:Int)<=(d:Int):=o_;have i1:(d:Int)<5:=o_;have gk:(x.kind==2)=false:=by simpa using hk
 clear h h0 h1 hnd gx hk hd hf1 kr hkl d0 d1 d2 d3 d4 hs1 hs2 hs3 hs4;unfold jG;go_enter func306,ntmps306;go_upto_region 1 with fail
 rw[<-hW0, <-hpw];clear hW0 hpw;obtain⟨b0,b1,b2,b3,b4,b5⟩:=H1.out.p2.cells6;go_wp2;clear b0 b1 b2 b3 b4 b5
 have S0:Hid (aH W0 ((b4L p (.slice (some ⟨g1,0,none⟩) 5 c1) (.slice x2 ls.length c2) (.slice x3 ws.length c3) (.slice x4 ps.length c4)++b6L pw (iv x.kind) (iv x.src) (iv (d:Int)) (iv x.beacon) (iv x.level) v)++[(⟨g1,d * 5,none⟩,.int .i64 nd.born),(⟨g1,d * 5+1,none⟩,.slice xk kl ck),(⟨g1,d * 5+2,none⟩,.int .i64 nd.beacon),(⟨g1,d * 5+3,none⟩,.int .i64 nd.level),(⟨g1,d * 5+4,none⟩,.int .i64 nd.up)])):=hd_ (tJ.2 ⟨CC _ _ _ H1.out.p2,D0.out⟩)
 refine aC 10 (.tk 0 9 (.alt 9 (.alt 10 .done .nomore) .nomore)) (fun w'=>aH w' ((b4L p (.slice (some ⟨g1,0,none⟩) 5 c1) (.slice x2 ls.length c2) (.slice x3 ws.length c3) (.slice x4 ps.length c4)++b6L pw (iv x.kind) (iv x.src) (iv (d:Int)) (iv x.beacon) (iv x.level) v)++[(⟨g1,d * 5,none⟩,.int .i64 nd.born),(⟨g1,d * 5+1,none⟩,.slice xk kl ck),(⟨g1,d * 5+2,none⟩,.int .i64 nd.beacon),(⟨g1,d * 5+3,none⟩,.int .i64 nd.level),(⟨g1,d * 5+4,none⟩,.int .i64 nd.up)])) kr_ kr_ (fun _ _ _ _ _ h=>h) (S0.out.below (Below.drew (Below.refl _ _))) ?_
 have H2:=hd_ H1.out.drew;have S1:=hd_ (S0.out.below (Below.drew (Below.refl _ _)));obtain⟨W1,hW⟩:=nm_ W0.drew;rw[<-hW]at H2 S1 ⊢;clear hW S0 H1 D0
 repeat (first|refine tC_ ?_|refine tB_ ?_)
 refine aB r_ (fun K hK=>?_);go_simp;refine hK _ _ (.inr (S1.out.below ((Below.refl _ _).alloc lr_ _))) ?_;clear hK K
 try refine tP_ ?_
 have h3:=H2.out.alloc #[iv nd.born,.slice xk kl ck,iv nd.beacon,iv nd.level,iv nd.up] 55;refine aB r_ (fun K hK=>?_);go_simp;refine hK _ _ (.inl rfl) ?_;clear hK K
 try refine tP_ ?_
 refine aD ?_;obtain⟨px,hpx⟩:=nm_ W1.heap.size;obtain⟨W2,hW⟩:=nm_ (W1.alloc (.cells #[iv nd.born,.slice xk kl ck,iv nd.beacon,iv nd.level,iv nd.up] 55));rw[<-hW, <-hpx]at h3;rw[<-hW, <-hpx]
 have H3:=hd_ (show M B w0 W2 (bE (.slice (some ⟨g1,0,none⟩) 5 c1) ns::aL p 289 #[.slice (some ⟨g1,0,none⟩) 5 c1,.slice x2 ls.length c2,.slice x3 ws.length c3,.slice x4 ps.length c4]::aL pw 123 #[iv x.kind,iv x.src,iv (d:Int),iv x.beacon,iv x.level,v]::aL px 55 #[iv nd.born,.slice xk kl ck,iv nd.beacon,iv nd.level,iv nd.up]::bY (.slice x2 ls.length c2) ls::bG (.slice x3 ws.length c3) ws::dN (.slice x4 ps.length c4) ps::l)from h3.p3.p3.p3)
 clear hW hpx h3 H2 S1;obtain⟨b0,b1,b2,b3,b4,b5⟩:=H3.out.p2.cells6;obtain⟨e0,e1,e2,e3,e4⟩:=H3.out.p3.cells5
 by_cases hz:(d:Int)=0
 case pos=>
  have E:=hd_ (HE.out.trans (if_pos (.inl hz)));have gz:((d:Int)==0)=true:=by simpa using hz
  clear hz;exact zAd
 have gz:((d:Int)==0)=false:=by simpa using hz
 by_cases h5:5<=x.level+1
 case pos=>
  by_cases hb:x.beacon<=nd.beacon
  case pos=>
   have E:=hd_ (HE.out.trans (if_pos (.inr ⟨h5,hb⟩)));clear hz;exact zAd
  have hb':nd.beacon<x.beacon:=o_;have E:=hd_ (HE.out.trans ((if_neg (fun q=>q.elim hz (fun q=>hb q.2))).trans ((if_pos (.inl hb')).trans (by rw[if_pos h5]))));clear hz HE;go_wp2;clear b0 b1 b2 b3 b4 b5 e0 e1 e2 e3 e4
  refine aC 11 (.tk 0 11 (.alt 11 .done .nomore)) (fun w'=>aH w' (b4L p (.slice (some ⟨g1,0,none⟩) 5 c1) (.slice x2 ls.length c2) (.slice x3 ws.length c3) (.slice x4 ps.length c4)++b6L pw (iv x.kind) (iv x.src) (iv (d:Int)) (iv x.beacon) (iv x.level) v)) kr_ kr_ (fun _ _ _ _ _ h=>h) (CC _ _ _ H3.out.drew.p2) ?_;have h0:=H3.out.drew
  obtain⟨V2,hW⟩:=nm_ W2.drew;rw[<-hW]at h0 ⊢;clear hW
  repeat (first|refine tC_ ?_|refine tB_ ?_)
  obtain⟨⟨u,cu⟩,fu,h1⟩:=(M.setNum h0 GX.out x.beacon).2.1;refine aB r_ (fun K hK=>?_);go_simp;refine hK _ _ (.inl rfl) ?_;clear hK K
  try refine tP_ ?_
  refine aD ?_;have H4:=hd_ h1;obtain⟨V2',hW⟩:=nm_ (V2.setCell ⟨g1,d * 5+2,none⟩ (iv x.beacon));rw[<-hW]at H4 ⊢;clear hW h0 h1 cu fu H3;have G1:=hd_ (oE (ns:=ns) (d:=d) GX.out { nd with beacon:=x.beacon });go_wp2
  refine aC 12 (.tk 0 12 (.alt 12 .done .nomore)) (fun w'=>aH w' (b4L p (.slice (some ⟨g1,0,none⟩) 5 c1) (.slice x2 ls.length c2) (.slice x3 ws.length c3) (.slice x4 ps.length c4)++b6L pw (iv x.kind) (iv x.src) (iv (d:Int)) (iv x.beacon) (iv x.level) v)) kr_ kr_ (fun _ _ _ _ _ h=>h) (CC _ _ _ H4.out.drew.p2) ?_;have h0:=H4.out.drew
  obtain⟨V3,hW⟩:=nm_ V2'.drew;rw[<-hW]at h0 ⊢;clear hW;have wr1:IntKind.i64.wrap (x.level+1)=x.level+1:=IntWalk.i64_in _ o_
  repeat (first|refine tC_ ?_|refine tB_ ?_)
  obtain⟨⟨u,cu⟩,fu,h1⟩:=(M.setNum h0 G1.out (x.level+1)).2.2.1;refine aB r_ (fun K hK=>?_);go_simp;refine hK _ _ (.inl rfl) ?_;clear hK K
  try refine tP_ ?_
  refine aD ?_;have H5:=hd_ h1;obtain⟨V3',hW⟩:=nm_ (V3.setCell ⟨g1,d * 5+3,none⟩ (iv (x.level+1)));rw[<-hW]at H5 ⊢;clear hW h0 h1 cu fu H4;rw[List.set_set]at H5;have G2:=hd_ (oE (ns:=ns) (d:=d) GX.out { nd with beacon:=x.beacon,level:=x.level+1 });go_wp2
  refine aC 11 (.tk 0 11 (.alt 11 .done .nomore)) (fun w'=>aH w' (b4L p (.slice (some ⟨g1,0,none⟩) 5 c1) (.slice x2 ls.length c2) (.slice x3 ws.length c3) (.slice x4 ps.length c4)++b6L pw (iv x.kind) (iv x.src) (iv (d:Int)) (iv x.beacon) (iv x.level) v)) kr_ kr_ (fun _ _ _ _ _ h=>h) (CC _ _ _ H5.out.drew.p2) ?_;have h0:=H5.out.drew
  obtain⟨V4,hW⟩:=nm_ V3'.drew;rw[<-hW]at h0 ⊢;clear hW
  repeat (first|refine tC_ ?_|refine tB_ ?_)
  obtain⟨⟨u,cu⟩,fu,h1⟩:=(M.setNum h0 G2.out x.src).2.2.2;refine aB r_ (fun K hK=>?_);go_simp;refine hK _ _ (.inl rfl) ?_;clear hK K
  try refine tP_ ?_
  refine aD ?_;have H6:=hd_ h1;obtain⟨V4',hW⟩:=nm_ (V4.setCell ⟨g1,d * 5+4,none⟩ (iv x.src));rw[<-hW]at H6 ⊢;clear hW h0 h1 cu fu H5;rw[List.set_set]at H6;have G3:=hd_ (oE (ns:=ns) (d:=d) GX.out { nd with beacon:=x.beacon,level:=x.level+1,up:=x.src });obtain⟨c0,c1',c2',c3',c4',c5⟩:=H6.out.p2.cells6;go_wp2
  refine aC 9 (.tk 0 9 (.alt 9 .done .nomore)) (fun w'=>aH w' (b4L p (.slice (some ⟨g1,0,none⟩) 5 c1) (.slice x2 ls.length c2) (.slice x3 ws.length c3) (.slice x4 ps.length c4)++b6L pw (iv x.kind) (iv x.src) (iv (d:Int)) (iv x.beacon) (iv x.level) v)) kr_ kr_ (fun _ _ _ _ _ h=>h) (CC _ _ _ H6.out.drew.p2) ?_;have h0:=H6.out.drew;obtain⟨V5,hW⟩:=nm_ V4'.drew
  rw[<-hW]at h0 ⊢;clear hW;clear c0 c1' c2' c3' c4' c5
  repeat (first|refine tC_ ?_|refine tB_ ?_)
  obtain⟨⟨u,cu⟩,fu,h1⟩:=(M.setNum h0 G3.out (-1)).2.2.2;refine aB r_ (fun K hK=>?_);go_simp;refine hK _ _ (.inl rfl) ?_;clear hK K
  try refine tP_ ?_
  refine aD ?_;have H7:=hd_ h1;obtain⟨V5',hW⟩:=nm_ (V5.setCell ⟨g1,d * 5+4,none⟩ (iv (-1)));rw[<-hW]at H7 ⊢;clear hW h0 h1 cu fu H6;rw[List.set_set]at H7;go_wp2
  first
   |go_end0
   |((try simp only[Exit.inBlock,Exit.then]);refine bodyPost_ret (v:=.tuple #[]) (by simp[results,results306,go_sem]) rfl ?_)
  rw[E.out];exact⟨rfl,(H7.out.p2.drop.p2.drop.p1).unlive⟩
 by_cases h4:nd.beacon<x.beacon
 case pos=>
  have E:=hd_ (HE.out.trans ((if_neg (fun q=>q.elim hz (fun q=>h5 q.1))).trans ((if_pos (.inl h4)).trans (by rw[if_neg h5]))));clear hz HE;go_wp2;clear b0 b1 b2 b3 b4 b5 e0 e1 e2 e3 e4
  refine aC 11 (.tk 0 11 (.alt 11 .done .nomore)) (fun w'=>aH w' (b4L p (.slice (some ⟨g1,0,none⟩) 5 c1) (.slice x2 ls.length c2) (.slice x3 ws.length c3) (.slice x4 ps.length c4)++b6L pw (iv x.kind) (iv x.src) (iv (d:Int)) (iv x.beacon) (iv x.level) v)) kr_ kr_ (fun _ _ _ _ _ h=>h) (CC _ _ _ H3.out.drew.p2) ?_;have h0:=H3.out.drew
  obtain⟨V2,hW⟩:=nm_ W2.drew;rw[<-hW]at h0 ⊢;clear hW
  repeat (first|refine tC_ ?_|refine tB_ ?_)
  obtain⟨⟨u,cu⟩,fu,h1⟩:=(M.setNum h0 GX.out x.beacon).2.1;refine aB r_ (fun K hK=>?_);go_simp;refine hK _ _ (.inl rfl) ?_;clear hK K
  try refine tP_ ?_
  refine aD ?_;have H4:=hd_ h1;obtain⟨V2',hW⟩:=nm_ (V2.setCell ⟨g1,d * 5+2,none⟩ (iv x.beacon));rw[<-hW]at H4 ⊢;clear hW h0 h1 cu fu H3;have G1:=hd_ (oE (ns:=ns) (d:=d) GX.out { nd with beacon:=x.beacon });go_wp2
  refine aC 12 (.tk 0 12 (.alt 12 .done .nomore)) (fun w'=>aH w' (b4L p (.slice (some ⟨g1,0,none⟩) 5 c1) (.slice x2 ls.length c2) (.slice x3 ws.length c3) (.slice x4 ps.length c4)++b6L pw (iv x.kind) (iv x.src) (iv (d:Int)) (iv x.beacon) (iv x.level) v)) kr_ kr_ (fun _ _ _ _ _ h=>h) (CC _ _ _ H4.out.drew.p2) ?_;have h0:=H4.out.drew
  obtain⟨V3,hW⟩:=nm_ V2'.drew;rw[<-hW]at h0 ⊢;clear hW;have wr1:IntKind.i64.wrap (x.level+1)=x.level+1:=IntWalk.i64_in _ o_
  repeat (first|refine tC_ ?_|refine tB_ ?_)
  obtain⟨⟨u,cu⟩,fu,h1⟩:=(M.setNum h0 G1.out (x.level+1)).2.2.1;refine aB r_ (fun K hK=>?_);go_simp;refine hK _ _ (.inl rfl) ?_;clear hK K
  try refine tP_ ?_
  refine aD ?_;have H5:=hd_ h1;obtain⟨V3',hW⟩:=nm_ (V3.setCell ⟨g1,d * 5+3,none⟩ (iv (x.level+1)));rw[<-hW]at H5 ⊢;clear hW h0 h1 cu fu H4;rw[List.set_set]at H5;have G2:=hd_ (oE (ns:=ns) (d:=d) GX.out { nd with beacon:=x.beacon,level:=x.level+1 });go_wp2
  refine aC 11 (.tk 0 11 (.alt 11 .done .nomore)) (fun w'=>aH w' (b4L p (.slice (some ⟨g1,0,none⟩) 5 c1) (.slice x2 ls.length c2) (.slice x3 ws.length c3) (.slice x4 ps.length c4)++b6L pw (iv x.kind) (iv x.src) (iv (d:Int)) (iv x.beacon) (iv x.level) v)) kr_ kr_ (fun _ _ _ _ _ h=>h) (CC _ _ _ H5.out.drew.p2) ?_;have h0:=H5.out.drew
  obtain⟨V4,hW⟩:=nm_ V3'.drew;rw[<-hW]at h0 ⊢;clear hW
  repeat (first|refine tC_ ?_|refine tB_ ?_)
  obtain⟨⟨u,cu⟩,fu,h1⟩:=(M.setNum h0 G2.out x.src).2.2.2;refine aB r_ (fun K hK=>?_);go_simp;refine hK _ _ (.inl rfl) ?_;clear hK K
  try refine tP_ ?_
  refine aD ?_;have H6:=hd_ h1;obtain⟨V4',hW⟩:=nm_ (V4.setCell ⟨g1,d * 5+4,none⟩ (iv x.src));rw[<-hW]at H6 ⊢;clear hW h0 h1 cu fu H5;rw[List.set_set]at H6;have G3:=hd_ (oE (ns:=ns) (d:=d) GX.out { nd with beacon:=x.beacon,level:=x.level+1,up:=x.src });obtain⟨c0,c1',c2',c3',c4',c5⟩:=H6.out.p2.cells6;go_wp2
  first
   |go_end0
   |((try simp only[Exit.inBlock,Exit.then]);refine bodyPost_ret (v:=.tuple #[]) (by simp[results,results306,go_sem]) rfl ?_)
  rw[E.out];exact⟨rfl,(H6.out.p2.drop.p2.drop.p1).unlive⟩
 by_cases hq:x.beacon=nd.beacon
 case neg=>
  have E:=hd_ (HE.out.trans ((if_neg (fun q=>q.elim hz (fun q=>h5 q.1))).trans (if_neg (fun q=>q.elim h4 (fun q=>hq q.1)))));have gq:(x.beacon==nd.beacon)=false:=by simpa using hq
  clear hz HE hq;exact zAd
 have gq:(x.beacon==nd.beacon)=true:=by simpa using hq
 by_cases hl:x.level+1<nd.level
 case neg=>
  have E:=hd_ (HE.out.trans ((if_neg (fun q=>q.elim hz (fun q=>h5 q.1))).trans (if_neg (fun q=>q.elim h4 (fun q=>hl q.2)))));clear hz HE hq;exact zAd
 have E:=hd_ (HE.out.trans ((if_neg (fun q=>q.elim hz (fun q=>h5 q.1))).trans ((if_pos (.inr ⟨hq,hl⟩)).trans (by rw[if_neg h5]))));clear hz HE hq;go_wp2;clear b0 b1 b2 b3 b4 b5 e0 e1 e2 e3 e4
 refine aC 11 (.tk 0 11 (.alt 11 .done .nomore)) (fun w'=>aH w' (b4L p (.slice (some ⟨g1,0,none⟩) 5 c1) (.slice x2 ls.length c2) (.slice x3 ws.length c3) (.slice x4 ps.length c4)++b6L pw (iv x.kind) (iv x.src) (iv (d:Int)) (iv x.beacon) (iv x.level) v)) kr_ kr_ (fun _ _ _ _ _ h=>h) (CC _ _ _ H3.out.drew.p2) ?_;have h0:=H3.out.drew;obtain⟨V2,hW⟩:=nm_ W2.drew
 rw[<-hW]at h0 ⊢;clear hW
 repeat (first|refine tC_ ?_|refine tB_ ?_)
 obtain⟨⟨u,cu⟩,fu,h1⟩:=(M.setNum h0 GX.out x.beacon).2.1;refine aB r_ (fun K hK=>?_);go_simp;refine hK _ _ (.inl rfl) ?_;clear hK K
 try refine tP_ ?_
 refine aD ?_;have H4:=hd_ h1;obtain⟨V2',hW⟩:=nm_ (V2.setCell ⟨g1,d * 5+2,none⟩ (iv x.beacon));rw[<-hW]at H4 ⊢;clear hW h0 h1 cu fu H3;have G1:=hd_ (oE (ns:=ns) (d:=d) GX.out { nd with beacon:=x.beacon });go_wp2
 refine aC 12 (.tk 0 12 (.alt 12 .done .nomore)) (fun w'=>aH w' (b4L p (.slice (some ⟨g1,0,none⟩) 5 c1) (.slice x2 ls.length c2) (.slice x3 ws.length c3) (.slice x4 ps.length c4)++b6L pw (iv x.kind) (iv x.src) (iv (d:Int)) (iv x.beacon) (iv x.level) v)) kr_ kr_ (fun _ _ _ _ _ h=>h) (CC _ _ _ H4.out.drew.p2) ?_;have h0:=H4.out.drew;obtain⟨V3,hW⟩:=nm_ V2'.drew
 rw[<-hW]at h0 ⊢;clear hW;have wr1:IntKind.i64.wrap (x.level+1)=x.level+1:=IntWalk.i64_in _ o_
 repeat (first|refine tC_ ?_|refine tB_ ?_)
 obtain⟨⟨u,cu⟩,fu,h1⟩:=(M.setNum h0 G1.out (x.level+1)).2.2.1;refine aB r_ (fun K hK=>?_);go_simp;refine hK _ _ (.inl rfl) ?_;clear hK K
 try refine tP_ ?_
 refine aD ?_;have H5:=hd_ h1;obtain⟨V3',hW⟩:=nm_ (V3.setCell ⟨g1,d * 5+3,none⟩ (iv (x.level+1)));rw[<-hW]at H5 ⊢;clear hW h0 h1 cu fu H4;rw[List.set_set]at H5;have G2:=hd_ (oE (ns:=ns) (d:=d) GX.out { nd with beacon:=x.beacon,level:=x.level+1 });go_wp2
 refine aC 11 (.tk 0 11 (.alt 11 .done .nomore)) (fun w'=>aH w' (b4L p (.slice (some ⟨g1,0,none⟩) 5 c1) (.slice x2 ls.length c2) (.slice x3 ws.length c3) (.slice x4 ps.length c4)++b6L pw (iv x.kind) (iv x.src) (iv (d:Int)) (iv x.beacon) (iv x.level) v)) kr_ kr_ (fun _ _ _ _ _ h=>h) (CC _ _ _ H5.out.drew.p2) ?_;have h0:=H5.out.drew;obtain⟨V4,hW⟩:=nm_ V3'.drew
 rw[<-hW]at h0 ⊢;clear hW
 repeat (first|refine tC_ ?_|refine tB_ ?_)
 obtain⟨⟨u,cu⟩,fu,h1⟩:=(M.setNum h0 G2.out x.src).2.2.2;refine aB r_ (fun K hK=>?_);go_simp;refine hK _ _ (.inl rfl) ?_;clear hK K
 try refine tP_ ?_
 refine aD ?_;have H6:=hd_ h1;obtain⟨V4',hW⟩:=nm_ (V4.setCell ⟨g1,d * 5+4,none⟩ (iv x.src));rw[<-hW]at H6 ⊢;clear hW h0 h1 cu fu H5;rw[List.set_set]at H6;have G3:=hd_ (oE (ns:=ns) (d:=d) GX.out { nd with beacon:=x.beacon,level:=x.level+1,up:=x.src });obtain⟨c0,c1',c2',c3',c4',c5⟩:=H6.out.p2.cells6;go_wp2
 first
  |go_end0
  |((try simp only[Exit.inBlock,Exit.then]);refine bodyPost_ret (v:=.tuple #[]) (by simp[results,results306,go_sem]) rfl ?_)
 rw[E.out];exact⟨rfl,(H6.out.p2.drop.p2.drop.p1).unlive⟩
end
end N
end Go.Proofs.YtcblbdpdbggkbaaGreat
namespace Go.Proofs.YtcblbdpdbggkbaaGreat.N
open _root_.Go.Proofs.Tryz
open Go.RowKit Go.Sort
theorem aHI {n x:Nt} {i t:Int} (e:lI n i t=some x):((0<=t/\t<=63)/\(aN n i (aA n i).born).length<100)/\
  x=put n i { aA n i with known:=fP (aA n i).known ⟨i,(aA n i).born,((bM (aA n i).known i).getD ⟨0,0,0,oN⟩).num+1,dC ((bM (aA n i).known i).getD ⟨0,0,0,oN⟩).s t⟩ } ((aO n i).set (aA n i).born.toNat (aN n i (aA n i).born++[t])):=by
 unfold lI at e;simp only at e
 split at e
 ·rename_i hc
  exact⟨hc,(Option.some.inj e).symm⟩
 ·cases e
theorem aHk {n x:Nt} {i:Int} (e:lK n i=some x):(aA n i).born+1<=20/\
  x=put n i { wK i ((aA n i).born+1)with beacon:=if i=0 then (aA n i).beacon else 0 } (aO n i++[[]]):=by
 unfold lK at e;simp only at e
 split at e
 ·rename_i hc
  exact⟨hc,(Option.some.inj e).symm⟩
 ·cases e
theorem aFL (n:Nt) (ws:List Wd) (w:Wd):aQ { n with words:=ws } w={ aQ n w with words:=ws }:=by
 unfold aQ fB;simp only;show (if w.kind=2 then _ else if w.dst=0\/(5<=w.level+1/\w.beacon<=(aA n w.dst).beacon)then _ else if (aA n w.dst).beacon<w.beacon\/(w.beacon=(aA n w.dst).beacon/\w.level+1<(aA n w.dst).level)then _ else _)=_
 split
 ·rfl
 ·split
  ·rfl
  ·split<;>rfl
theorem zB:∀(us ws:List Wd) (n:Nt),us.foldl aQ { n with words:=ws }={ us.foldl aQ n with words:=ws }
 | [],_,_=>rfl
 |u::us,ws,n=>by
  rw[List.foldl_cons,List.foldl_cons,aFL,zB us ws]
theorem aJ1 {n:Nt} (h:0<n.words.length):lC n 0 true false=some (zM (aQ n (kW n 0)) 0)/\gI (zM (aQ n (kW n 0)) 0)=gI n/\(zM (aQ n (kW n 0)) 0).words.length+1=n.words.length:=by
 obtain⟨w,ws,e⟩:∃w ws,n.words=w::ws:=by
  cases q:n.words with
  |nil=>rw[q]at h;simp at h
  |cons w ws=>exact⟨w,ws,rfl⟩
 have wa:kW n 0=w:=by unfold kW;rw[e];rfl
 have hw:(aQ n w).words=w::ws:=(kA n w).1.trans e;refine⟨?_,?_,?_⟩
 ·unfold lC
  rw[if_pos (by unfold rK;omega)]
  rfl
 ·rw[wa]
  unfold gI zM;simp only;rw[hw,e];show ({ ws.foldl aQ { aQ n w with words:=ws }with words:=[] }:Nt)={ (w::ws).foldl aQ n with words:=[] }
  rw[zB,List.foldl_cons]
 ·rw[wa]
  unfold zM;rw[hw,e]
  rfl
theorem aGK:aM vZ:=hZ.1 (by decide+kernel)
theorem vC {a b:Int} {l:List Int} (h:fO (a::b::l)=true):aE a/\aE b/\a≠b/\fO l=true:=by
 unfold fO at h;simp only[Bool.and_eq_true,bH,decide_eq_true_eq]at h;exact⟨h.1.1,h.1.2.1,h.1.2.2,h.2⟩
theorem aCS {n:Nt} (h:aM n) {a b:Int} (ha:aE a) (hb:aE b) (ne:a≠b) (w:Bool):aM { n with links:=(n.links.set (a * 5+b).toNat w).set (b * 5+a).toNat w }:=by
 by_cases q:whole n a b=w
 ·have q3:whole n b a=w:=by rw[<-h.either a b ha hb];exact q
  have l25:=h.links;unfold aE at ha hb;rw[<-q,show n.links.set (a * 5+b).toNat (whole n a b)=n.links from aA6 _ _ _ (by omega),q, <-q3,show n.links.set (b * 5+a).toNat (whole n b a)=n.links from aA6 _ _ _ (by omega)];exact h
 ·exact aGH h ha hb (w:=w) (by unfold pX;rw[if_neg (fun c=>by rcases c with c|c;exact ne c;exact q c)])
theorem aEs:∀(l:List Int) {n:Nt},aM n->fO l=true->aM { n with links:=jI n.links l }
 | [],n,h,_=>h
 | [_],n,h,_=>h
 |a::b::l,n,h,p=>by
  obtain⟨ha,hb,ne,p'⟩:=vC p;exact aEs l (aCS h ha hb ne true) p'
theorem aL1 {l:List Int} {n:Nt} (e:rR l=some n):aM n:=by
 unfold rR at e
 split at e
 ·rename_i q
  obtain rfl:=Option.some.inj e;exact aEs l aGK q.2
 ·cases e
theorem aAE:∀(l:List Int) {n:Nt},aM n->fO l=true->∀{c d:Int},aE c->aE d->whole n c d=true->whole { n with links:=jI n.links l } c d=true
 | [],n,_,_,_,_,_,_,w=>w
 | [_],n,_,_,_,_,_,_,w=>w
 |a::b::l,n,h,p,c,d,hc,hd,w=>by
  obtain⟨ha,hb,ne,p'⟩:=vC p;refine aAE l (aCS h ha hb ne true) p' hc hd ?_;rw[qC h ha hb hc hd,w]
  split<;>rfl
theorem vN:∀(l:List Int) {n:Nt},aM n->fO l=true->∀k:Nat,2 * k+1<l.length->(aE (l.getD (2 * k) 0)/\aE (l.getD (2 * k+1) 0))/\whole { n with links:=jI n.links l } (l.getD (2 * k) 0) (l.getD (2 * k+1) 0)=true
 | [],n,_,_,k,hk=>by simp at hk
 | [_],n,_,_,k,hk=>by simp at hk
 |a::b::l,n,h,p,k,hk=>by
  obtain⟨ha,hb,ne,p'⟩:=vC p;have o:=aCS h ha hb ne true;cases k with
  |zero=>
   refine⟨⟨ha,hb⟩,aAE l o p' ha hb ?_⟩;have e:=qC h ha hb ha hb true;rw[if_pos (.inl ⟨rfl,rfl⟩)]at e;exact e
  |succ k=>
   have r:=vN l o p' k (by simp at hk;omega);have e1:(a::b::l).getD (2 * (k+1)) 0=l.getD (2 * k) 0:=by
    rw[show 2 * (k+1)=2 * k+1+1 by omega];rfl
   have e2:(a::b::l).getD (2 * (k+1)+1) 0=l.getD (2 * k+1) 0:=by
    rw[show 2 * (k+1)+1=2 * k+1+1+1 by omega];rfl
   rw[e1,e2];exact r
theorem aF4 {l:List Int} {n:Nt} (e:rR l=some n):(∀k:Nat,2 * k+1<l.length->(aE (l.getD (2 * k) 0)/\aE (l.getD (2 * k+1) 0))/\whole n (l.getD (2 * k) 0) (l.getD (2 * k+1) 0)=true)/\n.words=[]/\(aA n 0).beacon=0/\(aA n 0).known=[⟨0,1,0,dK⟩]:=by
 unfold rR at e
 split at e
 ·rename_i q
  obtain rfl:=Option.some.inj e;exact⟨vN l aGK q.2,rfl,rfl,rfl⟩
 ·cases e
theorem aGf (n:Nt) (w:Wd):(dF n w).1.nodes=n.nodes:=(tP n w).1
theorem rW {n x:Nt} (h:aM n) {k:Int} {heard kept:Bool} (e:lC n k heard kept=some x):(aA x 0).beacon=(aA n 0).beacon:=by
 unfold lC at e
 split at e
 ·rename_i hk
  obtain rfl:=Option.some.inj e;have m:(aA (if heard=true then aQ n (kW n k)else n) 0).beacon=(aA n 0).beacon:=by
   split
   ·exact aBX h (h.word _ (aGD hk))
   ·rfl
  split
  ·exact m
  ·rw[pU (show (zM (if heard=true then aQ n (kW n k)else n) k).nodes=(if heard=true then aQ n (kW n k)else n).nodes from rfl)]
   exact m
 ·cases e
theorem aHh {n x:Nt} {d:De} (h:aM n) (e:doN n d=some x):(aA x 0).beacon<=(aA n 0).beacon+1:=by
 unfold doN at e
 split at e
 ·rw[rW h e];omega
 split at e
 ·rw[rW h e];omega
 split at e
 ·rw[rW h e];omega
 split at e
 ·split at e
  ·obtain rfl:=Option.some.inj e
   rw[oQ h bA,dL h bA bA,if_pos rfl];exact Int.le_refl _
  ·cases e
 split at e
 ·rename_i hd
  split at e
  ·obtain⟨_,rfl⟩:=aHI e
   rw[dL h hd bA]
   split
   ·rename_i q
    rw[<-q];show (aA n 0).beacon<=_
    omega
   ·omega
  split at e
  ·unfold nV at e
   split at e
   ·obtain rfl:=Option.some.inj e
    rw[pU (pA h hd).2.1];omega
   ·cases e
  split at e
  ·unfold nV at e
   split at e
   ·obtain rfl:=Option.some.inj e
    have t:(fX n d.a).1.nodes=n.nodes:=by
     unfold fX;simp only
     split
     ·rfl
     ·exact aGf _ _
    rw[pU t];omega
   ·cases e
  split at e
  ·obtain⟨_,rfl⟩:=aHk e
   rw[dL h hd bA]
   split
   ·rename_i q
    rw[if_pos q.symm, <-q];show (aA n 0).beacon<=_
    omega
   ·omega
  split at e
  ·split at e
   ·unfold pX at e
    split at e
    ·cases e
    ·obtain rfl:=Option.some.inj e
     show (aA n 0).beacon<=_
     omega
   ·cases e
  ·cases e
 ·cases e
theorem nT:∀(ds:List De) {n:Nt},aM n->(aA (cO n ds) 0).beacon<=(aA n 0).beacon+ds.length
 | [],n,_=>by show (aA n 0).beacon<=_;simp
 |d::ds,n,h=>by
  show (aA (cO ((doN n d).getD n) ds) 0).beacon<=_
  rw[List.length_cons];cases e:doN n d with
  |none=>
   have:=nT ds h;simp only[Option.getD_none];omega
  |some x=>
   have a:=aHh h e;have:=nT ds (aI4 h e);simp only[Option.getD_some];omega
end Go.Proofs.YtcblbdpdbggkbaaGreat.N
