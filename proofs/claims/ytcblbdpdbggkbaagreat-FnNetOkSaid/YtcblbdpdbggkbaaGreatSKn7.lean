/-
  What the laws of Kn need of the texts before it, part 7.
-/
import Derived.ArgAppend
import Derived.BigQuiet
import Derived.Carry
import Derived.Deep.AppendLies
import Derived.Deep.Cut
import Derived.Deep.DeepCutAuto
import Derived.Deep.DrawnRows
import Derived.Deep.MidRow
import Derived.Deep.OwnRows
import Derived.Deep.QuietTactic
import Derived.Deep.RegionHeld3
import Derived.Deep.RegionLaw
import Derived.Deep.RegionLawGrows
import Derived.Deep.RegionWith
import Derived.Deep.WholeRow
import Derived.DeepKeys5
import Derived.IntWalk
import Derived.KernelRfl
import Derived.Laws.AppendOwnNone
import Derived.Laws.EntriesVeiled
import Derived.Laws.ResultCell
import Derived.Lib.AppendZerosOnto
import Derived.Lib.Hide
import Derived.Lib.QuietBelow
import Derived.Lib.SliceRun
import Derived.Lib.Walk
import Derived.LoopIn
import Derived.LoopNIn
import Derived.Maps.AppendAt
import Derived.Maps.Keyed
import Derived.Maps.Own
import Derived.OneCell
import Derived.OpenShut
import Derived.OrdersHeld
import Derived.OwnWalkIn
import Derived.RangeFuncBound
import Derived.RangeFuncBox
import Derived.RangeFuncCalls
import Derived.RangeFuncLeaves
import Derived.RangeFuncNested
import Derived.RegionTactic
import Derived.Shelf.Abstract
import Derived.Shelf.RegionOpen
import Derived.Shelf.SlSortCmp.InsertionK
import Derived.StillTail
import Derived.TacticsInMore
import Derived.Test.YtcblbdpdbggkbaaGreatRows
import Derived.WalkKit
import Derived.WalkLawsBesides
import Derived.WalkSpells
import Derived.Test.YtcblbdpdbggkbaaGreatSKn5
import Derived.Test.YtcblbdpdbggkbaaGreatSKn6
set_option maxRecDepth 100000
set_option maxHeartbeats 16000000
set_option linter.unusedVariables false
set_option linter.unusedSectionVars false
set_option linter.unusedSimpArgs false
namespace Go.Proofs.YtcblbdpdbggkbaaGreat
theorem zp {P:Prop} (h:P:=by
 have E:=hd_ (show rR ks=none by
      unfold rR
      rw[if_neg (fun z=>by have:=HN.out;omega)])
 clear hs hp;go_enter func18,ntmps18
 go_wp2_with (at_make;refine tX aB3 (enc:=zV) (z0:=false) rfl rfl (fun _=>rfl) H0.out rfl rfl 25 rfl rfl rfl rfl dc_ dc_ ?_;intro w1 h1 hb1;have h2:=(h1.alloc #[] 123).alloc #[zn,.slice (some ⟨w.heap.size+1,0,none⟩) 25 25,.slice (some ⟨w1.heap.size,0,none⟩) 0 0,zn] 30;have F:=hd_ (h2.p3.set4 zn zn zn zn);obtain⟨d0,d1,d2,d3⟩:=h2.p3.cells4;have df:=h2.p3.free;clear H0 h1 h2 hb1)
 obtain⟨e0,e1,e2',e3⟩:=F.out.cells4
 (try simp only[Exit.inBlock,Exit.then])
 refine bodyPost_ret (v:=.tuple #[.agg #[zn,zn,zn,zn],.bool false]) (by simp[results,results18,go_sem,e0,e1,e2',e3]) rfl ?_;rw[E.out];exact qE F.out):P:=h
theorem zAq {P:Prop} (h:P:=by
 obtain⟨e0,e1,e2',e3⟩:=F.out.cells4
 (try simp only[Exit.inBlock,Exit.then])
 refine bodyPost_ret (v:=.tuple #[.agg #[zn,zn,zn,zn],.bool false]) (by simp[results,results18,go_sem,e0,e1,e2',e3]) rfl ?_;rw[E.out];exact qE F.out):P:=h
theorem zAA {P:Prop} (h:P:=by
 go_wp2;go_ret;exact⟨by rw[F.out];rfl,H.out.below⟩):P:=h
theorem zAU {P:Prop} (h:P:=by
 exact⟨_,rfl,.inr ⟨b,o,0,rfl,Nat.le_refl _,Nat.zero_le _,hb,fun i hi=>absurd hi (Nat.not_lt_zero i)⟩,fun q=>absurd rfl q⟩):P:=h
theorem zAV {P:Prop} (h:P:=by
 exact bodyPost_ret (v:=.tuple #[.agg #[zn,iv 0],.bool false]) (by simp[results,results198,go_sem,hr0,hr1]) rfl ⟨rfl,BZ.out⟩):P:=h
theorem zAX {P:Prop} (h:P:=by
 rcases h with ⟨e,rfl⟩|⟨b,o,cap,e,_⟩
 ·simp at e;simp[e]
 ·simp at e;omega):P:=h
theorem zBc {P:Prop} (h:P:=by
 rcases h with ⟨e,rfl⟩|⟨b,o,cap,e,h1,h2,hb,hc⟩
 ·simp at e;exact⟨0,0,.inl e.2.1⟩
 ·simp at e;obtain⟨rfl,rfl,rfl⟩:=e;exact⟨b,o,.inr ⟨rfl,hb,hc⟩⟩):P:=h
theorem zBy {P:Prop} (h:P:=by
 have h:=bD.new ((w.alloc (.cells #[u,iv a] 44)).alloc (.cells #[v,iv b] 44)) 44 zn (iv 0);rw[hW];simpa using h):P:=h
theorem zBz {P:Prop} (h:P:=by
 have h:=(bD.new (w.alloc (.cells #[u,iv a] 44)) 44 v (iv b)).alloc (.cells #[zn,iv 0] 44);rw[hW];simpa using h):P:=h
theorem zBP {P:Prop} (h:P:=by
 have r:=h5 0 _ rfl;rw[Nat.mul_one,Nat.add_zero]at r;exact⟨g,xr,cr,fi,q,h1,h3,h2,l1,l2,r⟩):P:=h
theorem zBQ {P:Prop} (h:P:=by
 have g2:(a.born==b.born)=true:=by simpa using h2
 clear h2;go_enter func324,ntmps324;exact zAA):P:=h
end Go.Proofs.YtcblbdpdbggkbaaGreat
namespace Go.Proofs.YtcblbdpdbggkbaaGreat.K
open _root_.Go.Proofs.Tryz
open Go.RowKit Go.Sort
def dZ (ps:List Pr) (a:Int) (qs:List Pr) (b:Int):Bool:=cX ps a&&(cX qs b&&decide (a+b<=2000))
def jD (ps:List Pr) (a:Int) (qs:List Pr) (b:Int):List Pr × Int:=if dZ ps a qs b then (pV ps a qs b,a+b)else ([],0)
theorem aKj {ps:List Pr} {a:Int} {qs:List Pr} {b:Int} (h:dZ ps a qs b=false):jD ps a qs b=([],0):=by simp[jD,h]
theorem yL {ps:List Pr} {a:Int} {qs:List Pr} {b:Int} (h:dZ ps a qs b=true):jD ps a qs b=(pV ps a qs b,a+b):=by simp[jD,h]
theorem zG {ps:List Pr} {a:Int} {qs:List Pr} {b:Int} (h:dZ ps a qs b=true):cX ps a=true/\cX qs b=true/\a+b<=2000:=by
 unfold dZ at h;simpa using h
theorem aMw (N:List Int) (D:Int):∀s,s<=63->(sqz N D s).getD 0 0=N.getD 0 0:=by
 intro s
 induction s with
 |zero=>intro _;rfl
 |succ s ih=>intro h;rw[sqz,aLL _ o_];exact ih o_
theorem dM.len {ps:List Pr} {all:Int} (h:dM ps all):ps.length<=127:=aAf h.2.1
theorem KnB.append {ps qs:List Pr} (h:KnB ps) (h':KnB qs):KnB (ps++qs):=fun i hi=>by
 have m:∀{l:List Pr},KnB l->∀p ∈ l,(0<=p.1/\p.1<=127)/\0<=p.2/\p.2<=2000:=fun hl p hp=>by
  obtain⟨j,hj,rfl⟩:=lA hp;exact hl j hj
 rcases List.mem_append.1 (jH hi)with e|e
 ·exact m h _ e
 ·exact m h' _ e
theorem aAj (w:World) (u v:Value) (ps:List Pr) (a:Int) (qs:List Pr) (b:Int) (hp:Prs w u ps) (hq:Prs w v qs) (ka:cX ps a=true) (kb:cX qs b=true) (hab:a+b<=2000):
  Calls prog 198 #[.agg #[u,iv a],.agg #[v,iv b]] w fun e w'=>∃x,e=.returned (.tuple #[.agg #[x,iv (a+b)],.bool true])/\aJ w' w.heap.size x (pV ps a qs b)/\Below w.heap.size w w':=by
 have PA:=(fS _ _).1 ka;have PB:=(fS _ _).1 kb;have la:=PA.len;have lb:=PB.len;have kn:=PA.knB.append PB.knB;have aa:=PA.1.1;have bb:=PB.1.1;have hat:=PA.atK.append PB.atK;have HAT:=hd_ hat;obtain⟨W,hW⟩:=nm_ (((w.alloc (.cells #[u,iv a] 44)).alloc (.cells #[v,iv b] 44)).alloc (.cells #[zn,iv 0] 44))
 have hA:Below w.heap.size w W:=by rw[hW];exact (((Below.refl _ _).alloc lr_ _).alloc (by simp) _).alloc (by simp;omega) _
 have sW:W.heap.size=w.heap.size+3:=by rw[hW];simp
 have X:bD W w.heap.size 44 u (iv a):=by rw[hW];exact ((bD.new _ _ _ _).alloc _).alloc _
 have Y:bD W (w.heap.size+1) 44 v (iv b):=by
  exact zBz
 have R:bD W (w.heap.size+1+1) 44 zn (iv 0):=by
  exact zBy
 have IA:=hd_ (hp.below hA lr_);have IB:=hd_ (hq.below hA lr_);have KA:=hd_ (mE W u ps a IA.out);have KB:Hid (∀W,Prs W v qs->Calls prog 110 #[.agg #[v,iv b]] W fun e w'=>e=.returned (.bool true)/\Below W.heap.size W w'):=fun W h=>by rw[<-kb];exact mE W v qs b h
 rw[ka]at KA;obtain⟨x,c,rfl,_,_⟩:=hp.form;obtain⟨y,d,rfl,_,_⟩:=hq.form;obtain⟨na,hna⟩:=nm_ ps.length;obtain⟨nb,hnb⟩:=nm_ qs.length;rw[<-hna]at KA hW X IA la;rw[<-hnb]at KB hW Y IB lb;rw[<-hna, <-hnb];have HNA:=hd_ hna;have HNB:=hd_ hnb;have HA:=hd_ hA;have HS:=hd_ sW;have KN:=hd_ kn;obtain⟨A,hAll⟩:=nm_ (a+b);rw[<-hAll]at hab ⊢;have ws:IntKind.i64.wrap (a+b)=A:=by rw[hAll];exact IntWalk.i64_in _ o_
 have hgt:decide ((2000:Int)<A)=false:=decide_eq_false o_;have HAL:=hd_ hAll;have A0:0<=A:=o_;have EB:Hid (pV ps a qs b=tA (sqz (cY (ps++qs)) (A / 8) 63)):=by show _=_;unfold pV nR;rw[hAll]
 have x0:=X.cell0;have x1:=X.cell1;have y0:=Y.cell0;have y1:=Y.cell1;clear hp hq ka kb PA PB kn hat hA sW hna hnb hAll;go_enter func198,ntmps198
 go_wp2_with fail
 rw[<-hW];clear hW
 go_wp2_with fail
 refine KA.out.mono ?_;rintro e w1 ⟨rfl,hb1⟩;have X1:=X.later hb1;have Y1:=Y.later hb1;have R1:=R.later hb1;have B1:=hd_ (HA.out.trans (hb1.mono HA.out.size));have IA1:=hd_ (IA.out.below hb1 lr_);have IB1:=hd_ (IB.out.below hb1 lr_);clear hb1 X Y R x0 x1 y0 y1 KA IA IB;have x0:=X1.cell0;have x1:=X1.cell1;have y0:=Y1.cell0;have y1:=Y1.cell1
 go_wp2_with fail
 refine (KB.out _ IB1.out).mono ?_;rintro e w2 ⟨rfl,hb2⟩;have X2:=X1.later hb2;have Y2:=Y1.later hb2;have R2:=R1.later hb2;have B2:=hd_ (B1.out.trans (hb2.mono B1.out.size));have IA2:=hd_ (IA1.out.below hb2 lr_);have IB2:=hd_ (IB1.out.below hb2 lr_);clear hb2 X1 Y1 R1 x0 x1 y0 y1 KB IA1 IB1;have x0:=X2.cell0;have x1:=X2.cell1;have y0:=Y2.cell0;have y1:=Y2.cell1;go_upto_region 4 with fail
 go_step
 refine qF rfl rfl ?_;obtain⟨W3,hW⟩:=nm_ (w2.alloc (.cells (iQ (List.replicate 128 0)) 281));rw[<-hW];have N3:Hid (dS W3 w2.heap.size (List.replicate 128 0)):=by show dS _ _ _;rw[hW];exact dS.new w2 _ (by simp)
 have hA3:Below w2.heap.size w2 W3:=by rw[hW];exact (Below.refl _ _).alloc lr_ _
 have s3:W3.heap.size=w2.heap.size+1:=by rw[hW];simp
 have X3:=X2.later hA3;have Y3:=Y2.later hA3;have R3:=R2.later hA3;have B3:=hd_ (B2.out.trans (hA3.mono B2.out.size));have IA3:=hd_ (IA2.out.below hA3 lr_);have IB3:=hd_ (IB2.out.below hA3 lr_);have S3:=hd_ s3;have LR:=hd_ R2.lt;clear hW hA3 s3 X2 Y2 R2 x0 x1 y0 y1 IA2 IB2 B2;have x0:=X3.cell0;have y0:=Y3.cell0
 -- the two lists,in one literal
 obtain⟨W4,hW4⟩:=nm_ (W3.alloc (.cells #[.slice x na c,.slice y nb d] 42));have hA4:Below W3.heap.size W3 W4:=by rw[hW4];exact (Below.refl _ _).alloc lr_ _
 have KC:Hid (Calls prog 252 #[.slice (some ⟨W3.heap.size,0,none⟩) 2 2] W4 fun e w'=>∃v,e=.returned v/\aJ w' W4.heap.size v (ps++qs)/\Below W4.heap.size W4 w'):=
  yV W4 W3.heap.size na nb c d x y ps qs HNA.out.symm HNB.out.symm la lb (IA3.out.below hA4 lr_) (IB3.out.below hA4 lr_) (by rw[hW4];simp) (by rw[hW4];simp)
 have X4:=X3.later hA4;have Y4:=Y3.later hA4;have R4:=R3.later hA4;have N4:=hd_ (N3.out.later hA4);have B4:=hd_ (B3.out.trans (hA4.mono B3.out.size));have S4:=hd_ hA4.size;clear X3 Y3 R3 N3 B3 IA3 IB3 hA4
 go_wp2_with fail
 rw[<-hW4];clear hW4 x0 y0;refine KC.out.mono ?_;rintro e w5 ⟨v,rfl,ho5,hb5⟩;have R5:=R4.later hb5;have N5:=hd_ (N4.out.later hb5);have B5:=hd_ (B4.out.trans (hb5.mono B4.out.size));obtain⟨z,cz,rfl,_,_⟩:=ho5.form;have hcs:=ho5.rd.cells;obtain⟨n,hn⟩:=nm_ ((ps++qs).length);have n300:n<=300:=by rw[hn,List.length_append, <-HNA.out, <-HNB.out];omega
 have HP5:Hid (∀i,i<n->∃b o,z=some ⟨b,o,none⟩/\b<w5.heap.size/\b≠w2.heap.size/\w5.cell? ⟨b,o+i * 2,none⟩=some (.int .i64 (pr (ps++qs) i).1)/\w5.cell? ⟨b,o+i * 2+1,none⟩=some (.int .i64 (pr (ps++qs) i).2)):=fun i hi=>by
  obtain⟨b,o,e,h1,h2,h3⟩:=hcs i (by rw[<-hn];exact hi);refine⟨b,o,e,h1,?_,h2,h3⟩;have:=(World.ownsRow.lt ho5 b (by rw[e];rfl)).1;have:=S3.out;have:=S4.out;omega
 rw[<-hn];have HN:=hd_ hn;have SZ5:Hid (w2.heap.size<w5.heap.size):=by show _<_;have:=S3.out;have:=S4.out;have:=hb5.size;omega
 have LR5:Hid (w.heap.size+1+1<w2.heap.size):=LR;clear ho5 hb5 hcs hn X4 Y4 R4 N4 B4 KC;generalize hps:ps++qs=ks at *
 go_wp2_with fail
 go_loopw [39] (fun i wr=>∃k:Nat,k<=n/\i=.int .i64 k/\dS wr w2.heap.size (cY (ks.take k))/\w5.grownBy wr (some w2.heap.size)) (fun i _=>n - (intOf i).toNat)
 case atStart=>exact⟨0,Nat.zero_le _,rfl,N5.out,qM _ _⟩
 case round=>
  obtain⟨k,hk,rfl,hrow,hgr⟩:=hrel;have HR:=hd_ hrow;have HG:=hd_ hgr
  by_cases hlt:k<n
  ·obtain⟨g,o,rfl,hg,hne,h1,h2⟩:=HP5.out k hlt
   have e5:=hgr.block g hg (fun e=>hne (by cases e;rfl));rw[<-World.cell?_of_block (a:=⟨g,o+k * 2,none⟩) e5]at h1;rw[<-World.cell?_of_block (a:=⟨g,o+k * 2+1,none⟩) e5]at h2;have gk:=KN.out k (by rw[<-HN.out];exact hlt);have bd:=aA1 KN.out k (by rw[<-HN.out];omega);have hs:=hd_ (uT ks k (by rw[<-HN.out];exact hlt));generalize pr ks k=q at h1 h2 hs gk;obtain⟨t,m⟩:=q;simp only at h1 h2 gk
   obtain⟨⟨t0,t1⟩,m0,m1⟩:=gk;obtain⟨T,rfl⟩:∃T:Nat,t=(T:Int):=⟨t.toNat,o_⟩
   have T1:(T:Int)<128:=o_;have bT:=bd T;unfold mZ at hs;simp only[Int.toNat_natCast]at hs;have l2:w2.heap.size<wr.heap.size:=Nat.lt_of_lt_of_le SZ5.out hgr.size;obtain⟨wk,hwk⟩:=nm_ (wr.alloc (.cells #[iv T,iv m] 152));have hK:Below wr.heap.size wr wk:=by rw[hwk];exact (Below.refl _ _).alloc lr_ _
   have bK:bD wk wr.heap.size 152 (iv T) (iv m):=by rw[hwk];exact bD.new _ _ _ _
   have k0':=bK.cell0;have k1':=bK.cell1;have HRK:=hd_ (HR.out.later hK);have HGK:=hd_ (bC HG.out (dH (row:=some w2.heap.size) hK));have c0:=HRK.out.cell (i:=T) o_;have f0:=HRK.out.free T;generalize cY (ks.take k)=N at *;obtain⟨V,hV⟩:=nm_ (N.getD T 0);rw[<-hV]at c0 bT hs;have kk0:(0:Int)<=(k:Int):=o_;have kn':(k:Int)<(n:Int):=o_
   have wsV:IntKind.i64.wrap (V+m)=V+m:=IntWalk.i64_in _ o_;have r0:=cell_regrown c0;have r1:=cell_regrown k0';have r2:=cell_regrown k1';clear hrow hgr bd hV e5 bK
   go_wp2_with fail
   rw[<-hwk];clear hwk;refine kE (C:=fun w'=>∃p:Regrown,w'=grow (redrawn wk p.d) p.os) 8 _ rfl rfl rfl kr_ kr_ kr_ kr_ kr_ ⟨⟨wk.drawn+1,#[]⟩,by rw[grow_empty];rfl⟩ ?_;simp only[List.take_succ_cons,List.take_zero]
   repeat (refine dX (fun K hK=>?_);go_simp;first|(refine hK _ ?_;clear hK K)|(apply Exists.intro;refine⟨fun _=>?_,hK _ ?_⟩;(fail);clear hK K))
   refine fF ?_;intro _ hw';obtain⟨⟨dq,oq⟩,hw''⟩:=hw';subst hw'';have hb_w4:=below_regrown wk dq oq;obtain⟨w4,hq_w4⟩:=nm_ (grow (redrawn wk dq) oq);rw[<-hq_w4]at hb_w4 ⊢;clear hq_w4;have R4:=HRK.out.later (hb_w4);have d0:=R4.cell (i:=T) o_;have d1:=R4.free T;have RS:=hd_ (R4.set T (V+m))
   have GS:=hd_ (bC (bC HGK.out (dH (row:=some w2.heap.size) hb_w4)) (aF w4 ⟨w2.heap.size,T,none⟩ (iv (V+m))));clear R4 hb_w4 r0 r1 r2 c0 f0 h1 h2 wsV k0' k1' hK;go_wp2;go_roundw
   case rel=>exact⟨k+1,o_,gn_,by rw[hs.out];exact RS.out,GS.out⟩
   case measure=>simp[intOf];omega
  ·obtain rfl:k=n:=o_
   have e1:ks.take k=ks:=List.take_of_length_le (by rw[<-HN.out];exact Nat.le_refl _);rw[e1]at HR;have nb6:=aCd KN.out (by rw[<-HN.out];exact n300);have n0:=aDy ks HAT.out;have nl:=lP ks;have Rr:=R5.kept hgr (by simp;have:=LR5.out;omega);have Br:Hid (Below w.heap.size w wr):=hd_ (B5.out.trans (sH hgr (by have:=LR5.out;omega) B5.out.size))
   clear hrow hgr e1 HP5 HN hk hlt R5 N5 B5;generalize cY ks=N at *;have KS:=hd_ (aEj wr N A nl nb6 A0 hab);have lq:(sqz N (A / 8) 63).length=128:=by rw[aDg];exact nl
   have q0:(sqz N (A / 8) 63).getD 0 0=0:=(aMw N (A / 8) 63 lr_).trans n0;generalize sqz N (A / 8) 63=Q at *;have KO:Hid (∀W,Calls prog 253 #[.agg (iQ Q)] W fun e w'=>∃v,e=.returned v/\aJ w' W.heap.size v (tA Q)/\Below W.heap.size W w'):=fun W=>aFA W Q lq q0
   generalize tA Q=ls at *;have SR:Hid (w.heap.size+1+1<wr.heap.size):=Rr.lt;clear nb6 n0 nl lq q0
   go_wp2_with (refine mU rfl _ rfl _ N rfl HR.out ?_)
   refine KS.out.mono ?_;rintro e w6 ⟨rfl,hb6⟩;have R6:=Rr.later hb6;have B6:=hd_ (Br.out.trans (hb6.mono Br.out.size));have S6:=hd_ hb6.size;clear hb6 Rr Br
   go_wp2_with fail
   refine (KO.out _).mono ?_;rintro e w7 ⟨v,rfl,ho7,hb7⟩;obtain⟨xz,cz',rfl,_,_⟩:=ho7.form;have R7:=R6.later hb7;have B7:=hd_ (B6.out.trans (hb7.mono B6.out.size));have z0:=R7.cell0;have z1:=R7.cell1;have f2:=R7.free;have RZ:=R7.set (.slice xz ls.length cz') (iv A);have hr0:=RZ.cell0;have hr1:=RZ.cell1
   have OZ:=hd_ ((ho7.set2 (R7.not_row dc_ ho7) (.slice xz ls.length cz') (iv A)).base (B':=w.heap.size) (by have:=S6.out;have:=SR.out;omega));have BZ:=hd_ (lJ (b:=w.heap.size+1+1) B7.out o_ (.slice xz ls.length cz') (iv A));clear ho7 hb7 R7 RZ R6;go_wp2
   exact bodyPost_ret (v:=.tuple #[.agg #[.slice xz ls.length cz',iv A],.bool true]) (by simp[results,results198,go_sem,hr0,hr1]) rfl ⟨_,rfl,by rw[EB.out];exact OZ.out,BZ.out⟩
theorem aBQ (w:World) (u v:Value) (ps:List Pr) (a:Int) (qs:List Pr) (b:Int) (hp:Prs w u ps) (hq:Prs w v qs) (hno:dZ ps a qs b=false):
  Calls prog 198 #[.agg #[u,iv a],.agg #[v,iv b]] w fun e w'=>e=.returned (.tuple #[.agg #[zn,iv 0],.bool false])/\Below w.heap.size w w':=by
 obtain⟨W,hW⟩:=nm_ (((w.alloc (.cells #[u,iv a] 44)).alloc (.cells #[v,iv b] 44)).alloc (.cells #[zn,iv 0] 44));have hA:Below w.heap.size w W:=by rw[hW];exact (((Below.refl _ _).alloc lr_ _).alloc (by simp) _).alloc (by simp;omega) _
 have X:bD W w.heap.size 44 u (iv a):=by rw[hW];exact ((bD.new _ _ _ _).alloc _).alloc _
 have Y:bD W (w.heap.size+1) 44 v (iv b):=by
  exact zBz
 have R:bD W (w.heap.size+1+1) 44 zn (iv 0):=by
  exact zBy
 have IA:=hd_ (hp.below hA lr_);have IB:=hd_ (hq.below hA lr_);have KA:=hd_ (mE W u ps a IA.out);have KB:Hid (∀W,Prs W v qs->Calls prog 110 #[.agg #[v,iv b]] W fun e w'=>e=.returned (.bool (cX qs b))/\Below W.heap.size W w'):=fun W h=>mE W v qs b h
 obtain⟨x,c,rfl,_,_⟩:=hp.form;obtain⟨y,d,rfl,_,_⟩:=hq.form;obtain⟨na,hna⟩:=nm_ ps.length;obtain⟨nb,hnb⟩:=nm_ qs.length;rw[<-hna]at KA hW X IA;rw[<-hnb]at KB hW Y IB;rw[<-hna, <-hnb];have HA:=hd_ hA;have x0:=X.cell0;have x1:=X.cell1;have y0:=Y.cell0;have y1:=Y.cell1;have CASES:Hid (cX ps a=true->cX qs b=true->(0<=a/\a<=2000)/\(0<=b/\b<=2000)/\2000<a+b):=fun h1 h2=>by
  unfold dZ at hno;rw[h1,h2]at hno;simp at hno;exact⟨((fS _ _).1 h1).1,((fS _ _).1 h2).1,hno⟩
 have HW:=hd_ hW;have END:Hid (∀w1,Below W.heap.size W w1->bD w1 (w.heap.size+1+1) 44 zn (iv 0)/\Below w.heap.size w ((w1.setCell ⟨w.heap.size+1+1,0,none⟩ zn).setCell ⟨w.heap.size+1+1,1,none⟩ (iv 0))):=fun w1 h=>
  ⟨R.later h,lJ (b:=w.heap.size+1+1) (hA.trans (h.mono hA.size)) o_ zn (iv 0)⟩
 clear hp hq hno hA hna hnb hW R;cases ka:cX ps a with
 |false=>
  rw[ka]at KA;clear CASES ka;go_enter func198,ntmps198
  go_wp2_with fail
  rw[<-HW.out]
  go_wp2_with fail
  refine KA.out.mono ?_;rintro e w1 ⟨rfl,hb1⟩;obtain⟨R1,hl⟩:=END.out w1 hb1;have BZ:=hd_ hl;have z0:=R1.cell0;have z1:=R1.cell1;have f2:=R1.free;have RZ:=R1.set zn (iv 0);have hr0:=RZ.cell0;have hr1:=RZ.cell1;clear R1 RZ x0 x1 y0 y1 X Y hb1 hl;go_wp2;exact zAV
 |true=>
  rw[ka]at KA;cases kb:cX qs b with
  |false=>
   rw[kb]at KB;clear CASES ka kb;go_enter func198,ntmps198
   go_wp2_with fail
   rw[<-HW.out]
   go_wp2_with fail
   refine KA.out.mono ?_;rintro e w1 ⟨rfl,hb1⟩;have X1:=X.later hb1;have Y1:=Y.later hb1;have IB1:=hd_ (IB.out.below hb1 lr_);have HB1:=hd_ hb1;clear hb1 X Y x0 x1 y0 y1;have x0:=X1.cell0;have x1:=X1.cell1;have y0:=Y1.cell0;have y1:=Y1.cell1
   go_wp2_with fail
   refine (KB.out _ IB1.out).mono ?_;rintro e w2 ⟨rfl,hb2⟩;obtain⟨R1,hl⟩:=END.out w2 (HB1.out.trans (hb2.mono HB1.out.size));have BZ:=hd_ hl;have z0:=R1.cell0;have z1:=R1.cell1;have f2:=R1.free;have RZ:=R1.set zn (iv 0);have hr0:=RZ.cell0;have hr1:=RZ.cell1;clear R1 RZ x0 x1 y0 y1 X1 Y1 hb2 hl;go_wp2
   exact zAV
  |true=>
   rw[kb]at KB;obtain⟨⟨a0,a1⟩,⟨b0,b1⟩,hs⟩:=CASES.out ka kb;have ws:IntKind.i64.wrap (a+b)=a+b:=IntWalk.i64_in _ o_;have hgt:decide ((2000:Int)<a+b)=true:=decide_eq_true hs;clear CASES ka kb;go_enter func198,ntmps198
   go_wp2_with fail
   rw[<-HW.out]
   go_wp2_with fail
   refine KA.out.mono ?_;rintro e w1 ⟨rfl,hb1⟩;have X1:=X.later hb1;have Y1:=Y.later hb1;have IB1:=hd_ (IB.out.below hb1 lr_);have HB1:=hd_ hb1;clear hb1 X Y x0 x1 y0 y1;have x0:=X1.cell0;have x1:=X1.cell1;have y0:=Y1.cell0;have y1:=Y1.cell1
   go_wp2_with fail
   refine (KB.out _ IB1.out).mono ?_;rintro e w2 ⟨rfl,hb2⟩;obtain⟨R1,hl⟩:=END.out w2 (HB1.out.trans (hb2.mono HB1.out.size));have X2:=X1.later hb2;have Y2:=Y1.later hb2;have BZ:=hd_ hl;have z0:=R1.cell0;have z1:=R1.cell1;have f2:=R1.free;have RZ:=R1.set zn (iv 0);have hr0:=RZ.cell0;have hr1:=RZ.cell1;clear R1 RZ x0 x1 y0 y1 X1 Y1 hb2 hl;have x1:=X2.cell1;have y1:=Y2.cell1;clear X2 Y2;go_wp2
   exact zAV
theorem uG (w:World) (u v:Value) (ps:List Pr) (a:Int) (qs:List Pr) (b:Int) (hp:Prs w u ps) (hq:Prs w v qs):
  Calls prog 198 #[.agg #[u,iv a],.agg #[v,iv b]] w fun e w'=>∃x,e=.returned (.tuple #[.agg #[x,.int .i64 (jD ps a qs b).2],.bool (dZ ps a qs b)])/\aJ w' w.heap.size x (jD ps a qs b).1/\Below w.heap.size w w':=by
 cases h:dZ ps a qs b with
 |false=>
  rw[aKj h];exact (aBQ w u v ps a qs b hp hq h).mono fun e w' ⟨he,hb⟩=>⟨_,he,aJ.nil _ _,hb⟩
 |true=>
  rw[yL h];obtain⟨k1,k2,k3⟩:=zG h;exact aAj w u v ps a qs b hp hq k1 k2 k3
theorem aAW (ps:List Pr) (a t:Int) (h:0<=t/\t<=63):dZ ps a [(64+t,1)] 1=fN ps a t/\jD ps a [(64+t,1)] 1=nN ps a t:=by
 have e:dZ ps a [(64+t,1)] 1=fN ps a t:=by
  unfold dZ fN;rw[(fS _ _).2 (aLZ t h)];have h1:decide (0<=t/\t<=63)=true:=decide_eq_true h;have h2:decide (a+1<=2000)=decide (a<2000):=decide_eq_decide.2 ⟨fun _=>by omega,fun _=>by omega⟩;rw[h1,h2]
 refine⟨e,?_⟩;unfold jD nN;rw[e,aIG]
theorem aDG (w:World) (u:Value) (ps:List Pr) (all t:Int) (hp:Prs w u ps):
  Calls prog 234 #[.agg #[u,iv all],iv t] w fun e w'=>∃v,e=.returned (.tuple #[.agg #[v,.int .i64 (nN ps all t).2],.bool (fN ps all t)])/\aJ w' w.heap.size v (nN ps all t).1/\Below w.heap.size w w':=by
 obtain⟨W,hW⟩:=nm_ ((w.alloc (.cells #[u,iv all] 44)).alloc (.cells #[zn,iv 0] 44));have hA:Below w.heap.size w W:=by rw[hW];exact ((Below.refl _ _).alloc lr_ _).alloc (by simp) _
 have sW:W.heap.size=w.heap.size+2:=by rw[hW];simp
 have X:bD W w.heap.size 44 u (iv all):=by rw[hW];exact (bD.new _ _ _ _).alloc _
 have R:bD W (w.heap.size+1) 44 zn (iv 0):=by
  have h:=bD.new (w.alloc (.cells #[u,iv all] 44)) 44 zn (iv 0);rw[hW];simpa using h
 have IA:=hd_ (hp.below hA lr_);obtain⟨x,c,rfl,_,_⟩:=hp.form;obtain⟨n,hn⟩:=nm_ ps.length;rw[<-hn]at hW X IA ⊢;have HN:=hd_ hn;have HA:=hd_ hA;have HS:=hd_ sW;have x0:=X.cell0;have x1:=X.cell1
 by_cases ht:0<=t/\t<=63
 ·have AJ:=aAW ps all t ht
  rw[<-AJ.1, <-AJ.2]
  -- one thing,counted once
  obtain⟨W1,hW1⟩:=nm_ (W.alloc (.cells #[iv (64+t),iv 1] 152));have hA1:Below W.heap.size W W1:=by rw[hW1];exact (Below.refl _ _).alloc lr_ _
  have O1:Prs W1 (.slice (some ⟨W.heap.size,0,none⟩) 1 1) [(64+t,1)]:=by
   refine .inr ⟨W.heap.size,0,1,rfl,by simp,by simp[maxLen],by rw[hW1];simp,fun i hi=>?_⟩;obtain rfl:i=0:=by simpa using hi
   rw[hW1];simp[pr]
  have KJ:=hd_ (uG W1 _ _ ps all [(64+t,1)] 1 (IA.out.below hA1 lr_) O1);have R1:=R.later hA1;have B1:=hd_ (HA.out.trans (hA1.mono HA.out.size));have S1:=hd_ hA1.size;generalize jD ps all [(64+t,1)] 1=J at *;generalize dZ ps all [(64+t,1)] 1=ok at *;obtain⟨js,ja⟩:=J;simp only at KJ ⊢;have wt:IntKind.i64.wrap (64+t)=64+t:=IntWalk.i64_in _ o_
  have KT:Hid (∀W,Calls prog 106 #[iv t] W fun e w'=>e=.returned (.bool true)/\W=w'):=fun W=>kC t W ht.1 o_
  have HJ1:=hd_ (aJ.base (B':=w.heap.size) (w:=W) (B:=w.heap.size+1) (aJ.nil _ _) (Nat.le_succ _));clear hp hA sW hn hA1 O1 X R AJ HJ1 ht;go_enter func234,ntmps234
  go_wp2_with fail
  rw[<-hW];clear hW
  go_wp2_with fail
  refine (KT.out _).mono ?_;rintro e w' ⟨rfl,rfl⟩
  go_wp2_with fail
  rw[<-hW1];clear hW1;refine KJ.out.mono ?_;rintro e w2 ⟨v,rfl,ho,hb⟩;obtain⟨xz,cz,rfl,_,_⟩:=ho.form;have R2:=R1.later hb;have B2:=hd_ (B1.out.trans (hb.mono B1.out.size));have z0:=R2.cell0;have z1:=R2.cell1;have f2:=R2.free;have RZ:=R2.set (.slice xz js.length cz) (iv ja);have hr0:=RZ.cell0;have hr1:=RZ.cell1
  have OZ:=hd_ ((ho.set2 (R2.not_row dc_ ho) (.slice xz js.length cz) (iv ja)).base (B':=w.heap.size) (by have:=HS.out;have:=S1.out;omega));have BZ:=hd_ (lJ (b:=w.heap.size+1) B2.out (Nat.le_succ _) (.slice xz js.length cz) (iv ja));clear ho hb R2 RZ R1 x0 x1;go_wp2
  exact bodyPost_ret (v:=.tuple #[.agg #[.slice xz js.length cz,iv ja],.bool ok]) (by simp[results,results234,go_sem,hr0,hr1]) rfl ⟨_,rfl,OZ.out,BZ.out⟩
 ·have hno:fN ps all t=false:=by unfold fN;simp[ht]
  rw[aDs hno,hno];have KT:Hid (∀W,Calls prog 106 #[iv t] W fun e w'=>e=.returned (.bool false)/\W=w'):=fun W=>nS t W o_
  have BZ:=hd_ (lJ (b:=w.heap.size+1) HA.out (Nat.le_succ _) zn (iv 0));have z0:=R.cell0;have z1:=R.cell1;have f2:=R.free;have RZ:=R.set zn (iv 0);have hr0:=RZ.cell0;have hr1:=RZ.cell1;clear hp hA sW hn X R RZ x0 x1 ht hno;go_enter func234,ntmps234
  go_wp2_with fail
  rw[<-hW];clear hW
  go_wp2_with fail
  refine (KT.out _).mono ?_;rintro e w' ⟨rfl,rfl⟩;go_wp2;exact bodyPost_ret (v:=.tuple #[.agg #[zn,iv 0],.bool false]) (by simp[results,results234,go_sem,hr0,hr1]) rfl ⟨_,rfl,aJ.nil _ _,BZ.out⟩
end Go.Proofs.YtcblbdpdbggkbaaGreat.K
namespace Go.Proofs.YtcblbdpdbggkbaaGreat.K
open _root_.Go.Proofs.Tryz
theorem aHZ {ps qs:List Pr} {a b:Int} (h:dZ ps a qs b=true):
  dM ps a/\dM qs b/\dZ qs b ps a=true/\jD qs b ps a=jD ps a qs b/\(jD ps a qs b).2=a+b/\dM (jD ps a qs b).1 (jD ps a qs b).2/\
   ∀t:Int,kF (jD ps a qs b).1 t<=kF ps t+kF qs t/\oS ps t+oS qs t<=oS (jD ps a qs b).1 t:=by
 obtain⟨ka,kb,hs⟩:=zG h;have PA:=(fS _ _).1 ka;have PB:=(fS _ _).1 kb;have hb:dZ qs b ps a=true:=by
  unfold dZ;rw[ka,kb];simp;omega
 rw[yL h,yL hb];refine⟨PA,PB,hb,?_,rfl,aKG PA PB hs,fun t=>⟨aGc PA PB t,aHK PA PB t⟩⟩;rw[aG2 PB PA,Int.add_comm]
theorem aIX {ps:List Pr} {a t:Int} (h:fN ps a t=true):
  dM ps a/\(0<=t/\t<=63)/\(nN ps a t).2=a+1/\dM (nN ps a t).1 (nN ps a t).2/\
   ∀i:Int,kF (nN ps a t).1 i<=kF ps i+(if t<=i then 1 else 0)/\oS ps i+(if t<=i then 1 else 0)<=oS (nN ps a t).1 i:=by
 obtain⟨ka,ht,hs⟩:=aAD h;have J:=aAW ps a t ht;rw[<-J.1]at h;obtain⟨p1,p2,p3,p4,p5,p6,p7⟩:=aHZ h;rw[<-J.2];refine⟨p1,ht,p5,p6,fun i=>?_⟩;have:=p7 i;rw[aIi t i ht,aJj t i ht]at this;exact this
end Go.Proofs.YtcblbdpdbggkbaaGreat.K
namespace Go.Proofs.YtcblbdpdbggkbaaGreat
open _root_.Go.Proofs.Tryz
open Go.RowKit Go.Sort
structure Sm where
 rs:List (List Int)
 zs:List Int
 ps:List T.Pr
 lo:Int
 al:Int
 ks:List K.Pr
 ka:Int
def oN:Sm:=⟨[],[],[],0,0,[],0⟩
def dK:Sm:=⟨kH,[],[],0,0,[],0⟩
def okS (s:Sm):Bool:=okB s.rs&&(fD s.zs&&(T.dB s.ps s.lo s.al&&(K.cX s.ks s.ka&&(decide (dD s.rs=s.al)&&(decide (s.al=s.ka)&&decide (0<s.zs.length↔0<s.al))))))
structure Ok (s:Sm):Prop where
 r:okB s.rs=true
 f:fD s.zs=true
 t:T.dB s.ps s.lo s.al=true
 k:K.cX s.ks s.ka=true
 ra:dD s.rs=s.al
 ta:s.al=s.ka
 fa:0<s.zs.length↔0<s.al
theorem eZ (s:Sm):okS s=true↔Ok s:=by
 unfold okS;simp only[Bool.and_eq_true,decide_eq_true_eq];exact⟨fun⟨a,b,c,d,e,f,g⟩=>⟨a,b,c,d,e,f,g⟩,fun⟨a,b,c,d,e,f,g⟩=>⟨a,b,c,d,e,f,g⟩⟩
theorem aJ8:okS oN=false:=rfl
theorem wH:okS dK=true:=by decide+kernel
theorem Ok.al0 {s:Sm} (h:Ok s):0<=s.al/\s.al<=2000:=by
 have:=((T.eX _ _ _).1 h.t).1;exact this.2.2
def cF (s:Sm) (t:Int):Bool:=okS s&&(decide (0<=t/\t<=63)&&decide (s.al<2000))
def aBr (s:Sm) (t:Int):Sm:=⟨wM s.rs t 1,lU s.zs t,(T.iL s.ps s.lo s.al t).1,(T.iL s.ps s.lo s.al t).2.1,(T.iL s.ps s.lo s.al t).2.2,(K.nN s.ks s.ka t).1,(K.nN s.ks s.ka t).2⟩
def dC (s:Sm) (t:Int):Sm:=if cF s t=true then aBr s t else oN
theorem nA {s:Sm} {t:Int} (h:cF s t=false):dC s t=oN:=if_neg (by rw[h];simp)
theorem nX {s:Sm} {t:Int} (h:cF s t=true):dC s t=aBr s t:=if_pos h
theorem oC (s:Sm) (t:Int):cF s t=true↔Ok s/\(0<=t/\t<=63)/\s.al<2000:=by
 unfold cF;simp only[Bool.and_eq_true,decide_eq_true_eq,eZ]
structure aIw (s:Sm) (u:Int):Prop where
 ok:Ok s
 thing:0<=u/\u<=63
 room:s.al<2000
 r:oL s.rs u 1=true
 f:fC s.zs u=true
 t:T.iR s.ps s.lo s.al u=true
 k:K.fN s.ks s.ka u=true
theorem aAY {s:Sm} {t:Int} (h:cF s t=true):aIw s t:=by
 obtain⟨ok,ht,hr⟩:=(oC s t).1 h;have ra:=ok.ra;have ta:=ok.ta;refine⟨ok,ht,hr,(kS _ _ _).2 ⟨ok.r,ht.1,by omega,by omega,by omega⟩,?_,?_,?_⟩
 ·unfold fC jL
  rw[ok.f,decide_eq_true (by omega)];rfl
 ·unfold T.iR T.isT
  rw[ok.t,decide_eq_true (by omega),decide_eq_true (by omega)];rfl
 ·unfold K.fN
  rw[ok.k,decide_eq_true (by omega),decide_eq_true (by omega)];rfl
theorem wZ {s:Sm} {t:Int} (h:cF s t=true):Ok (dC s t)/\(dC s t).al=s.al+1:=by
 have A:=aAY h;have R:=aLi A.r;have F:=aG0 A.f;have M:=T.aKS A.t;have S:=K.aIX A.k;have f0:0<(lU s.zs t).length:=by
  apply Classical.byContradiction;intro q;have e:lU s.zs t=[]:=List.eq_nil_of_length_eq_zero (by omega);rw[sX A.f,vU (rF A.ok.f)]at e;have:gL t ∈ eJ s.zs [gL t]:=(gM _ _ _).2 (.inr (by simp));unfold eK at e;have e':eJ s.zs [gL t]=[]:=by
   cases hq:eJ s.zs [gL t]with
   |nil=>rfl
   |cons x l=>rw[hq]at e;simp at e
  rw[e']at this;simp at this
 rw[nX h];have a0:=A.ok.al0;refine⟨⟨R.1,F.1,M.top,(K.fS _ _).2 S.2.2.2.1,?_,?_,?_⟩,M.na'⟩
 ·show dD (wM s.rs t 1)=(T.iL s.ps s.lo s.al t).2.2
  rw[R.2,M.na',A.ok.ra]
 ·show (T.iL s.ps s.lo s.al t).2.2=(K.nN s.ks s.ka t).2
  rw[M.na',S.2.2.1,A.ok.ta]
 ·show 0<(lU s.zs t).length↔0<(T.iL s.ps s.lo s.al t).2.2
  rw[M.na'];exact⟨fun _=>by omega,fun _=>f0⟩
def dT (a b:Sm):Bool:=okS a&&(okS b&&decide (a.al+b.al<=2000))
def aCY (a b:Sm):Sm:=⟨gO a.rs b.rs,mV a.zs b.zs,(T.jY a.ps a.lo a.al b.ps b.lo b.al).1,(T.jY a.ps a.lo a.al b.ps b.lo b.al).2.1,(T.jY a.ps a.lo a.al b.ps b.lo b.al).2.2,(K.jD a.ks a.ka b.ks b.ka).1,(K.jD a.ks a.ka b.ks b.ka).2⟩
def gW (a b:Sm):Sm:=if dT a b=true then aCY a b else oN
theorem wV {a b:Sm} (h:dT a b=false):gW a b=oN:=if_neg (by rw[h];simp)
theorem aCA {a b:Sm} (h:dT a b=true):gW a b=aCY a b:=if_pos h
theorem zC (a b:Sm):dT a b=true↔Ok a/\Ok b/\a.al+b.al<=2000:=by
 unfold dT;simp only[Bool.and_eq_true,decide_eq_true_eq,eZ]
structure aLu (a b:Sm):Prop where
 oka:Ok a
 okb:Ok b
 room:a.al+b.al<=2000
 r:kZ a.rs b.rs=true
 f:fY a.zs b.zs=true
 t:T.iV a.ps a.lo a.al b.ps b.lo b.al=true
 k:K.dZ a.ks a.ka b.ks b.ka=true
theorem tK {a b:Sm} (h:dT a b=true):aLu a b:=by
 obtain⟨oa,ob,hr⟩:=(zC a b).1 h;have:=oa.ra;have:=oa.ta;have:=ob.ra;have:=ob.ta;refine⟨oa,ob,hr,(nG _ _).2 ⟨oa.r,ob.r,by omega⟩,?_,?_,?_⟩
 ·unfold fY
  rw[oa.f,ob.f];rfl
 ·unfold T.iV
  rw[oa.t,ob.t,decide_eq_true (by omega)];rfl
 ·unfold K.dZ
  rw[oa.k,ob.k,decide_eq_true (by omega)];rfl
def xB (t:Int):Sm:=dC dK t
theorem pY (t:Int):cF dK t=decide (0<=t/\t<=63):=by
 unfold cF;rw[wH];show (true&&(_&&decide ((0:Int)<2000)))=_
 simp
theorem aJh:∀t:Fin 64,K.nN [] 0 (t.val:Int)=([(64+(t.val:Int),1)],1):=by decide+kernel
theorem aLn:∀t:Fin 64,T.iL [] 0 0 (t.val:Int)=([((t.val:Int),1)],0,1):=by decide+kernel
theorem aLh:∀t:Fin 64,lU [] (t.val:Int)=[gL (t.val:Int)]:=by decide+kernel
theorem aJk:∀t:Fin 64,wM kH (t.val:Int) 1=xU (t.val:Int) 1:=by decide+kernel
theorem aLY {t:Int} (h0:0<=t) (h1:t<=63):xB t=⟨xU t 1,[gL t],[(t,1)],0,1,[(64+t,1)],1⟩:=by
 obtain⟨n,rfl⟩:=Int.eq_ofNat_of_zero_le h0;have hn:n<64:=by omega
 have a:=aJh ⟨n,hn⟩;have b:=aLn ⟨n,hn⟩;have c:=aLh ⟨n,hn⟩;have d:=aJk ⟨n,hn⟩;simp only at a b c d;unfold xB;rw[nX (by rw[pY];simp;omega)];unfold aBr dK;simp only[a,b,c,d]
theorem aJ6 {t:Int} (h:¬(0<=t/\t<=63)):xB t=oN:=nA (by rw[pY];exact decide_eq_false h)
theorem uL (s:Sm) (t:Int):dT s (xB t)=cF s t:=by
 by_cases h:0<=t/\t<=63
 ·have o:=(wZ (s:=dK) (t:=t) (by rw[pY];exact decide_eq_true h))
  have e:(xB t).al=1:=o.2;unfold dT cF;rw[(eZ (xB t)).2 o.1,e,decide_eq_true h,show decide (s.al+1<=2000)=decide (s.al<2000)from decide_eq_decide.2 ⟨fun q=>by omega,fun q=>by omega⟩]
 ·rw[aJ6 h]
  unfold dT cF;rw[aJ8,decide_eq_false h];cases okS s<;>rfl
theorem aGY (s:Sm) (t:Int):gW s (xB t)=dC s t:=by
 by_cases h:cF s t=true
 ·have A:=aAY h
  rw[nX h,aCA (by rw[uL];exact h),aLY A.thing.1 A.thing.2];unfold aCY aBr;simp only;rw[T.yU,xI, <-aH8 A.r,(K.aAW s.ks s.ka t A.thing).2]
 ·rw[Bool.not_eq_true]at h
  rw[nA h,wV (by rw[uL];exact h)]
def upS (l:List Int):Sm:=l.foldl dC dK
theorem aAQ (l:List Int) (t:Int):upS (l++[t])=dC (upS l) t:=by simp[upS]
theorem aJa (t:Int):dC oN t=oN:=nA rfl
theorem aK4 (l:List Int):l.foldl dC oN=oN:=by
 induction l with
 |nil=>rfl
 |cons t l ih=>simp only[List.foldl_cons,aJa,ih]
theorem aKE {l:List Int} {k:Nat} (hk:k<l.length) (h:cF (upS (l.take k)) (l.getD k 0)=false):upS l=oN:=by
 have e:l=l.take k++(l.getD k 0::l.drop (k+1)):=by
  conv=>lhs;rw[<-List.take_append_drop k l]
  rw[List.drop_eq_getElem_cons hk];simp[hk]
 rw[e];unfold upS;rw[List.foldl_append];show List.foldl dC (dC (upS (l.take k)) (l.getD k 0)) _=_
 rw[nA h,aK4]
theorem aAb {l:List Int} {k:Nat} (hk:k<l.length):upS (l.take (k+1))=dC (upS (l.take k)) (l.getD k 0):=by
 rw[List.take_succ_eq_append_getElem hk,aAQ];simp[hk]
theorem aL8 {P:List Int->Sm->Prop} (h0:P [] dK) (h1:∀l s t,P l s->aIw s t->P (l++[t]) (aBr s t)):∀l:List Int,okS (upS l)=true->P l (upS l):=by
 have key:∀n (l:List Int),l.length=n->okS (upS l)=true->P l (upS l):=by
  intro n
  induction n with
  |zero=>intro l hl _;obtain rfl:=List.eq_nil_of_length_eq_zero hl;exact h0
  |succ n ih=>
   intro l hl ok;have e:l=l.take n++[l.getD n 0]:=by
    conv=>lhs;rw[<-List.take_of_length_le (Nat.le_of_eq hl)]
    rw[List.take_succ_eq_append_getElem (by omega)];simp[show n<l.length by omega]
   rw[e]at ok ⊢;rw[aAQ]at ok ⊢
   by_cases ha:cF (upS (l.take n)) (l.getD n 0)=true
   ·have A:=aAY ha
    rw[nX ha];exact h1 _ _ _ (ih (l.take n) (by simp;omega) ((eZ _).2 A.ok)) A
   ·rw[Bool.not_eq_true]at ha
    rw[nA ha]at ok;exact absurd ok (by rw[aJ8];simp)
 exact fun l=>key l.length l rfl
theorem aKu {l:List Int} (h:okS (upS l)=true):(upS l).al=l.length/\∀t ∈ l,0<=t/\t<=63:=by
 refine aL8 (P:=fun l s=>s.al=l.length/\∀t ∈ l,0<=t/\t<=63) ⟨rfl,by simp⟩ (fun l s t hp A=>⟨?_,fun u hu=>?_⟩) l h
 ·have:=(wZ (s:=s) (t:=t) ((oC _ _).2 ⟨A.ok,A.thing,A.room⟩))
  rw[nX ((oC _ _).2 ⟨A.ok,A.thing,A.room⟩)]at this;rw[this.2,hp.1];simp
 ·rcases List.mem_append.1 hu with q|q
  ·exact hp.2 u q
  ·rw[List.mem_singleton.1 q];exact A.thing
theorem aGT {l:List Int} (h:∀t ∈ l,0<=t/\t<=63) (hl:l.length<=2000):okS (upS l)=true:=by
 have key:∀n,n<=l.length->okS (upS (l.take n))=true:=by
  intro n
  induction n with
  |zero=>intro _;rw[List.take_zero];exact wH
  |succ n ih=>
   intro hn;have ok:=ih (by omega);rw[aAb (by omega)];have g:=h (l.getD n 0) (kQ l n 0 (by omega));have e:=(aKu ok).1;rw[List.length_take]at e;have ha:cF (upS (l.take n)) (l.getD n 0)=true:=(oC _ _).2 ⟨(eZ _).1 ok,g,by omega⟩;exact (eZ _).2 (wZ ha).1
 have:=key l.length lr_;rwa[List.take_length]at this
theorem aMi {l:List Int} (h:okS (upS l)=false):upS l=oN:=by
 have key:∀n,n<=l.length->okS (upS (l.take n))=true\/upS (l.take n)=oN:=by
  intro n
  induction n with
  |zero=>intro _;left;rw[List.take_zero];exact wH
  |succ n ih=>
   intro hn;rw[aAb (by omega)]
   by_cases ha:cF (upS (l.take n)) (l.getD n 0)=true
   ·left;exact (eZ _).2 (wZ ha).1
   ·rw[Bool.not_eq_true]at ha
    right;exact nA ha
 have:=key l.length lr_;rw[List.take_length,h]at this;rcases this with q|q
 ·cases q
 ·exact q
theorem cE.keep {w w':World} {B:Nat} {v:Value} {zs:List Int} {row:Option Nat} (h:cE w B v zs) (hg:w.grownBy w' row) (hr:v.ownBlock≠row):cE w' B v zs:=World.ownsRow.kept h hg (.inr hr)
theorem cE.below {w w':World} {B:Nat} {v:Value} {zs:List Int} (h:cE w B v zs) (hb:Below w.heap.size w w'):cE w' B v zs:=h.kept (row:=Option.none) (dH hb) (fun _ e=>by cases e)
theorem cE.lt {w:World} {B:Nat} {p:Value} {zs:List Int} (hp:cE w B p zs):∀k,p.ownBlock=some k->k<w.heap.size:=fun k e=>(World.ownsRow.lt hp k e).2
theorem mP {W w':World} {b:Nat} {t:TypeId} {v:Value} (h:Go.Boxed W b t v) (hb:Below W.heap.size W w'):Go.Boxed w' b t v:=(hb.block _ h.lt).trans h
def dV (W:World) (B T:Nat) (v:Value) (rs:List (List Int)):Prop:=∃G C,dP W B v rs G C/\(∀k,v.ownBlock=some k->k<T)/\(∀i,i<rs.length->G i<T)/\T<=W.heap.size
theorem dP.bounds {W:World} {B:Nat} {v:Value} {rs:List (List Int)} {G C:Nat->Nat} (h:dP W B v rs G C):dV W B W.heap.size v rs:=
 ⟨G,C,h,fun k e=>(World.ownsRow.lt h.hdr k e).2,fun i hi=>((h.row i hi).lt (G i) rfl).2,Nat.le_refl _⟩
theorem dV.top {W:World} {B T:Nat} {v:Value} {rs:List (List Int)} (h:dV W B T v rs):T<=W.heap.size:=by obtain⟨_,_,_,_,_,h⟩:=h;exact h
theorem dV.rd {W:World} {B T:Nat} {v:Value} {rs:List (List Int)} (h:dV W B T v rs):Rws W v rs:=by obtain⟨G,C,h,_⟩:=h;exact h.rws
theorem dV.below {W W':World} {B T:Nat} {v:Value} {rs:List (List Int)} (h:dV W B T v rs) (hb:Below W.heap.size W W'):dV W' B T v rs:=by
 obtain⟨G,C,h,h1,h2,h3⟩:=h;exact⟨G,C,h.below hb lr_,h1,h2,Nat.le_trans h3 hb.size⟩
theorem dV.alloc {W:World} {B T:Nat} {v:Value} {rs:List (List Int)} (h:dV W B T v rs) (o:Obj):dV (W.alloc o) B T v rs:=h.below ((Below.refl _ _).alloc lr_ o)
theorem dV.nil (W:World) (B T:Nat) (hT:T<=W.heap.size):dV W B T zn []:=
 ⟨fun _=>0,fun _=>0,⟨World.ownsRow_nil W B _ 1,fun i hi=>absurd hi (Nat.not_lt_zero i),fun i hi=>absurd hi (Nat.not_lt_zero i),fun i j hi=>absurd hi (Nat.not_lt_zero i)⟩,(fun k e=>by cases e),(fun i hi=>absurd hi (Nat.not_lt_zero i)),hT⟩
theorem aIU.own {w w':World} {ok:Bool} {rs:List (List Int)} {e:Ending} (h3:ok=true->rs.length=3) (h:aIU w ok rs e w'):
  ∃x c,e=.returned (.tuple #[.agg #[.slice x (aHt ok rs).length c],.bool ok])/\dV w' w.heap.size w'.heap.size (.slice x (aHt ok rs).length c) (aHt ok rs)/\Below w.heap.size w w':=by
 obtain⟨x,m,c,he,hb,h0,h1⟩:=h;cases ok with
 |false=>obtain⟨rfl,rfl,rfl⟩:=h0 rfl;exact⟨none,0,he,dV.nil _ _ _ lr_,hb⟩
 |true=>
  obtain⟨rfl,G,C,ho⟩:=h1 rfl;have e3:(aHt true rs).length=3:=h3 rfl;rw[e3];exact⟨x,c,he,ho.bounds,hb⟩
theorem cV {w w':World} {B:Nat} {e:TypeId} {size:Nat} {v:Value} {n:Nat} {xs:List Value} {S:Nat->Prop} (h:w.ownsRow B e size v n xs) (hk:dO S w w') (hS:∀k,v.ownBlock=some k->¬S k):w'.ownsRow B e size v n xs:=by
 obtain⟨h1,h2⟩:=h;refine⟨h1,?_⟩;rcases h2 with h2|⟨g,cap,cur,hv,hg,hh,r⟩
 ·exact .inl h2
 ·refine .inr ⟨g,cap,cur,hv,hg,?_,r⟩
  rw[hk.block g (Array.getElem?_eq_some_iff.1 hh).1 (hS g (by rw[hv];rfl))];exact hh
theorem dV.keptB {w w':World} {B T:Nat} {v:Value} {rs:List (List Int)} {S:Nat->Prop} (h:dV w B T v rs) (hk:dO S w w') (hS:∀k,B<=k->k<T->¬S k):dV w' B T v rs:=by
 obtain⟨G,C,h,h1,h2,h3⟩:=h;refine⟨G,C,⟨cV h.hdr hk fun k e=>hS k (World.ownsRow.lt h.hdr k e).1 (h1 k e),fun i hi=>cV (h.row i hi) hk fun k e=>?_,h.off,h.apart⟩,h1,h2,Nat.le_trans h3 hk.size⟩;have l:=(World.ownsRow.lt (h.row i hi) k e).1;have e':G i=k:=by simpa[oK,Value.ownBlock]using e
 exact hS k l (by rw[<-e'];exact h2 i hi)
def yC (rs:List (List Int)) (t n:Int):List (List Int):=aHt (oL rs t n) (wM rs t n)
def rP (ra rb:List (List Int)):List (List Int):=aHt (kZ ra rb) (gO ra rb)
theorem aK9 (W:World) (u:Value) (rs:List (List Int)) (t n:Int) (h:Rws W u rs):Calls prog 310 #[.agg #[u],iv t,iv n] W fun e w'=>∃x c,e=.returned (.tuple #[.agg #[.slice x (yC rs t n).length c],.bool (oL rs t n)])/\dV w' W.heap.size w'.heap.size (.slice x (yC rs t n).length c) (yC rs t n)/\Below W.heap.size W w':=
 (aG4 W u rs t n h).mono fun _ _ he=>he.own (fun _=>rfl)
theorem aKW (W:World) (u:Value) (rs:List (List Int)) (t n:Int) (h:Rws W u rs):Calls prog 231 #[.agg #[u],iv t,iv n] W fun e w'=>∃x c,e=.returned (.tuple #[.agg #[.slice x (yC rs t n).length c],.bool (oL rs t n)])/\dV w' W.heap.size w'.heap.size (.slice x (yC rs t n).length c) (yC rs t n)/\Below W.heap.size W w':=
 (aG1 W u rs t n h).mono fun _ _ he=>he.own (fun _=>rfl)
theorem aJY (W:World) (u v:Value) (ra rb:List (List Int)) (ha:Rws W u ra) (hb:Rws W v rb):Calls prog 195 #[.agg #[u],.agg #[v]] W fun e w'=>∃x c,e=.returned (.tuple #[.agg #[.slice x (rP ra rb).length c],.bool (kZ ra rb)])/\dV w' W.heap.size w'.heap.size (.slice x (rP ra rb).length c) (rP ra rb)/\Below W.heap.size W w':=
 (aGh W u v ra rb ha hb).mono fun _ _ he=>he.own (fun _=>rfl)
def aR (W:World) (b:Nat) (t:TypeId) (x0 x1 x2 x3 x4 x5 x6:Value):Prop:=W.heap[b]? =some (.cells #[x0,x1,x2,x3,x4,x5,x6] t (0,0))
section
variable {W W':World} {b:Nat} {t:TypeId} {x0 x1 x2 x3 x4 x5 x6:Value}
theorem aR.lt (h:aR W b t x0 x1 x2 x3 x4 x5 x6):b<W.heap.size:=(Array.getElem?_eq_some_iff.1 h).1
theorem aR.new (W:World) (t:TypeId) (x0 x1 x2 x3 x4 x5 x6:Value):aR (W.alloc (.cells #[x0,x1,x2,x3,x4,x5,x6] t)) W.heap.size t x0 x1 x2 x3 x4 x5 x6:=heap_alloc_new W _
theorem aR.below (h:aR W b t x0 x1 x2 x3 x4 x5 x6) {B:Nat} (hb:Below B W W') (hB:b<B):aR W' b t x0 x1 x2 x3 x4 x5 x6:=(hb.block b hB).trans h
theorem aR.later (h:aR W b t x0 x1 x2 x3 x4 x5 x6) (hb:Below W.heap.size W W'):aR W' b t x0 x1 x2 x3 x4 x5 x6:=h.below hb h.lt
theorem aR.drew (h:aR W b t x0 x1 x2 x3 x4 x5 x6):aR W.drew b t x0 x1 x2 x3 x4 x5 x6:=h
theorem aR.alloc (h:aR W b t x0 x1 x2 x3 x4 x5 x6) (o:Obj):aR (W.alloc o) b t x0 x1 x2 x3 x4 x5 x6:=h.later ((Below.refl _ _).alloc lr_ o)
theorem aR.kept {row:Option Nat} (h:aR W b t x0 x1 x2 x3 x4 x5 x6) (hg:W.grownBy W' row) (hr:row≠some b):aR W' b t x0 x1 x2 x3 x4 x5 x6:=(hg.block b h.lt (fun e=>hr e.symm)).trans h
theorem aR.cell0 (h:aR W b t x0 x1 x2 x3 x4 x5 x6):W.cell? ⟨b,0,none⟩=some x0:=by unfold aR at h;simp[World.cell?,h]
theorem aR.cell1 (h:aR W b t x0 x1 x2 x3 x4 x5 x6):W.cell? ⟨b,1,none⟩=some x1:=by unfold aR at h;simp[World.cell?,h]
theorem aR.cell2 (h:aR W b t x0 x1 x2 x3 x4 x5 x6):W.cell? ⟨b,2,none⟩=some x2:=by unfold aR at h;simp[World.cell?,h]
theorem aR.cell3 (h:aR W b t x0 x1 x2 x3 x4 x5 x6):W.cell? ⟨b,3,none⟩=some x3:=by unfold aR at h;simp[World.cell?,h]
theorem aR.cell4 (h:aR W b t x0 x1 x2 x3 x4 x5 x6):W.cell? ⟨b,4,none⟩=some x4:=by unfold aR at h;simp[World.cell?,h]
theorem aR.cell5 (h:aR W b t x0 x1 x2 x3 x4 x5 x6):W.cell? ⟨b,5,none⟩=some x5:=by unfold aR at h;simp[World.cell?,h]
theorem aR.cell6 (h:aR W b t x0 x1 x2 x3 x4 x5 x6):W.cell? ⟨b,6,none⟩=some x6:=by unfold aR at h;simp[World.cell?,h]
theorem aR.cells (h:aR W b t x0 x1 x2 x3 x4 x5 x6):W.cell? ⟨b,0,none⟩=some x0/\W.cell? ⟨b,1,none⟩=some x1/\W.cell? ⟨b,2,none⟩=some x2/\W.cell? ⟨b,3,none⟩=some x3/\W.cell? ⟨b,4,none⟩=some x4/\W.cell? ⟨b,5,none⟩=some x5/\W.cell? ⟨b,6,none⟩=some x6:=
 ⟨h.cell0,h.cell1,h.cell2,h.cell3,h.cell4,h.cell5,h.cell6⟩
theorem aR.free (h:aR W b t x0 x1 x2 x3 x4 x5 x6) (i:Nat):W.frozen? ⟨b,i,none⟩=false:=by unfold aR at h;simp[World.frozen?,h]
theorem aR.set0 (h:aR W b t x0 x1 x2 x3 x4 x5 x6) (u:Value):aR (W.setCell ⟨b,0,none⟩ u) b t u x1 x2 x3 x4 x5 x6:=by unfold aR at h ⊢;rw[heap_setCell_same W b 0 _ _ _ h];rfl
theorem aR.set1 (h:aR W b t x0 x1 x2 x3 x4 x5 x6) (u:Value):aR (W.setCell ⟨b,1,none⟩ u) b t x0 u x2 x3 x4 x5 x6:=by unfold aR at h ⊢;rw[heap_setCell_same W b 1 _ _ _ h];rfl
theorem aR.set2 (h:aR W b t x0 x1 x2 x3 x4 x5 x6) (u:Value):aR (W.setCell ⟨b,2,none⟩ u) b t x0 x1 u x3 x4 x5 x6:=by unfold aR at h ⊢;rw[heap_setCell_same W b 2 _ _ _ h];rfl
theorem aR.set3 (h:aR W b t x0 x1 x2 x3 x4 x5 x6) (u:Value):aR (W.setCell ⟨b,3,none⟩ u) b t x0 x1 x2 u x4 x5 x6:=by unfold aR at h ⊢;rw[heap_setCell_same W b 3 _ _ _ h];rfl
theorem aR.set4 (h:aR W b t x0 x1 x2 x3 x4 x5 x6) (u:Value):aR (W.setCell ⟨b,4,none⟩ u) b t x0 x1 x2 x3 u x5 x6:=by unfold aR at h ⊢;rw[heap_setCell_same W b 4 _ _ _ h];rfl
theorem aR.set5 (h:aR W b t x0 x1 x2 x3 x4 x5 x6) (u:Value):aR (W.setCell ⟨b,5,none⟩ u) b t x0 x1 x2 x3 x4 u x6:=by unfold aR at h ⊢;rw[heap_setCell_same W b 5 _ _ _ h];rfl
theorem aR.set6 (h:aR W b t x0 x1 x2 x3 x4 x5 x6) (u:Value):aR (W.setCell ⟨b,6,none⟩ u) b t x0 x1 x2 x3 x4 x5 u:=by unfold aR at h ⊢;rw[heap_setCell_same W b 6 _ _ _ h];rfl
theorem aR.not_row {B:Nat} {e:TypeId} {size n:Nat} {v:Value} {xs:List Value} (h:aR W b t x0 x1 x2 x3 x4 x5 x6) (ht:t≠e) (ho:W.ownsRow B e size v n xs):v.ownBlock≠some b:=fun hb=>by
 rcases ho.2 with ⟨rfl,_⟩|⟨g,cap,cur,rfl,_,hg,_⟩
 ·cases hb
 ·obtain rfl:g=b:=by simpa[Value.ownBlock]using hb
  unfold aR at h;rw[hg]at h;cases h;exact ht rfl
end
def set7 (W:World) (b:Nat) (x0 x1 x2 x3 x4 x5 x6:Value):World:=
 ((((((W.setCell ⟨b,0,none⟩ x0).setCell ⟨b,1,none⟩ x1).setCell ⟨b,2,none⟩ x2).setCell ⟨b,3,none⟩ x3).setCell ⟨b,4,none⟩ x4).setCell ⟨b,5,none⟩ x5).setCell ⟨b,6,none⟩ x6
theorem dI (W:World) (b:Nat) (x0 x1 x2 x3 x4 x5 x6:Value):W.grownBy (set7 W b x0 x1 x2 x3 x4 x5 x6) (some b):=
 bC (bC (bC (bC (bC (bC (aF W ⟨b,0,none⟩ x0) (aF _ ⟨b,1,none⟩ x1)) (aF _ ⟨b,2,none⟩ x2)) (aF _ ⟨b,3,none⟩ x3)) (aF _ ⟨b,4,none⟩ x4)) (aF _ ⟨b,5,none⟩ x5)) (aF _ ⟨b,6,none⟩ x6)
theorem aR.set {W:World} {b:Nat} {t:TypeId} {x0 x1 x2 x3 x4 x5 x6:Value} (h:aR W b t x0 x1 x2 x3 x4 x5 x6) (y0 y1 y2 y3 y4 y5 y6:Value):aR (set7 W b y0 y1 y2 y3 y4 y5 y6) b t y0 y1 y2 y3 y4 y5 y6:=
 ((((((h.set0 y0).set1 y1).set2 y2).set3 y3).set4 y4).set5 y5).set6 y6
theorem bB {B b:Nat} {w W:World} (h:Below B w W) (hb:B<=b) (x0 x1 x2 x3 x4 x5 x6:Value):Below B w (set7 W b x0 x1 x2 x3 x4 x5 x6):=((((((h.setCell hb _).setCell hb _).setCell hb _).setCell hb _).setCell hb _).setCell hb _).setCell hb _
theorem cT (W:World) (b:Nat) (x0 x1 x2 x3 x4 x5 x6:Value):(set7 W b x0 x1 x2 x3 x4 x5 x6).heap.size=W.heap.size:=by unfold set7;simp
structure SV where
 xr:Option Addr
 nr:Nat
 cr:Nat
 xf:Option Addr
 nf:Nat
 cf:Nat
 xt:Option Addr
 nt:Nat
 ct:Nat
 xk:Option Addr
 nk:Nat
 ck:Nat
inductive S7_ where
 |mk (V:SV) (s:Sm)
inductive C7_ where
 |mk (V:SV) (s:Sm)
def vS (V:SV) (s:Sm):S7_:=.mk V s
def cS (V:SV) (s:Sm):C7_:=.mk V s
instance (V:SV) (s:Sm):CoeDep S7_ (vS V s) Value:=⟨.agg #[.slice V.xr V.nr V.cr,.slice V.xf V.nf V.cf,.slice V.xt V.nt V.ct,iv s.lo,iv s.al,.slice V.xk V.nk V.ck,iv s.ka]⟩
instance (V:SV) (s:Sm):CoeDep C7_ (cS V s) (Array Value):=⟨#[.slice V.xr V.nr V.cr,.slice V.xf V.nf V.cf,.slice V.xt V.nt V.ct,iv s.lo,iv s.al,.slice V.xk V.nk V.ck,iv s.ka]⟩
instance (V:SV) (s:Sm):CoeDep C7_ (cS V s) (List Value):=⟨[.slice V.xr V.nr V.cr,.slice V.xf V.nf V.cf,.slice V.xt V.nt V.ct,iv s.lo,iv s.al,.slice V.xk V.nk V.ck,iv s.ka]⟩
def SV.none:SV:=⟨.none,0,0,.none,0,0,.none,0,0,.none,0,0⟩
def SV.r (V:SV):Value:=.slice V.xr V.nr V.cr
def SV.f (V:SV):Value:=.slice V.xf V.nf V.cf
def SV.t (V:SV):Value:=.slice V.xt V.nt V.ct
def SV.k (V:SV):Value:=.slice V.xk V.nk V.ck
def aLa (W:World) (b:Nat) (V:SV) (s:Sm):Prop:=aR W b 46 V.r V.f V.t (iv s.lo) (iv s.al) V.k (iv s.ka)
theorem aLa.box {W:World} {b:Nat} {V:SV} {s:Sm} (h:aLa W b V s):aR W b 46 (.slice V.xr V.nr V.cr) (.slice V.xf V.nf V.cf) (.slice V.xt V.nt V.ct) (iv s.lo) (iv s.al) (.slice V.xk V.nk V.ck) (iv s.ka):=h
theorem dE.len {w:World} {x:Option Addr} {n c:Nat} {zs:List Int} (h:dE w (.slice x n c) zs):n=zs.length:=by
 exact zAX
theorem Rws.len {w:World} {x:Option Addr} {n c:Nat} {zs:List (List Int)} (h:Rws w (.slice x n c) zs):n=zs.length:=by
 exact zAX
theorem T.Prs.len {w:World} {x:Option Addr} {n c:Nat} {zs:List T.Pr} (h:T.Prs w (.slice x n c) zs):n=zs.length:=by
 exact zAX
theorem K.Prs.len {w:World} {x:Option Addr} {n c:Nat} {zs:List K.Pr} (h:K.Prs w (.slice x n c) zs):n=zs.length:=by
 exact zAX
structure RdS (w:World) (V:SV) (s:Sm):Prop where
 r:Rws w V.r s.rs
 f:dE w V.f s.zs
 t:T.Prs w V.t s.ps
 k:K.Prs w V.k s.ks
theorem RdS.below {w w':World} {V:SV} {s:Sm} (h:RdS w V s) {B:Nat} (hb:Below B w w') (hB:w.heap.size<=B):RdS w' V s:=⟨h.r.below hb hB,h.f.below hb hB,h.t.below hb hB,h.k.below hb hB⟩
theorem RdS.lens {w:World} {V:SV} {s:Sm} (h:RdS w V s):V.nr=s.rs.length/\V.nf=s.zs.length/\V.nt=s.ps.length/\V.nk=s.ks.length:=⟨Rws.len h.r,dE.len h.f,T.Prs.len h.t,K.Prs.len h.k⟩
theorem RdS.later {w w':World} {V:SV} {s:Sm} (h:RdS w V s) (hb:Below w.heap.size w w'):RdS w' V s:=h.below hb lr_
theorem RdS.alloc {w:World} {V:SV} {s:Sm} (h:RdS w V s) (o:Obj):RdS (w.alloc o) V s:=h.later ((Below.refl _ _).alloc lr_ o)
theorem RdS.drew {w:World} {V:SV} {s:Sm} (h:RdS w V s):RdS w.drew V s:=h.later (Below.drew (Below.refl _ _))
structure bN (w:World) (B U:Nat) (V:SV) (s:Sm):Prop where
 mid:∃M,B<=M/\M<=U/\dV w B M V.r s.rs/\cE w M V.f s.zs
 t:T.aJ w B V.t s.ps
 k:K.aJ w B V.k s.ks
 ft:∀g,V.f.ownBlock=some g->g<U
 tt:∀g,V.t.ownBlock=some g->g<U
 kt:∀g,V.k.ownBlock=some g->g<U
 top:U<=w.heap.size
theorem bN.rd {w:World} {B U:Nat} {V:SV} {s:Sm} (h:bN w B U V s):RdS w V s:=by
 obtain⟨M,_,_,hr,hf⟩:=h.mid;exact⟨hr.rd,hf.rd,h.t.rd,h.k.rd⟩
theorem bN.below {w w':World} {B U:Nat} {V:SV} {s:Sm} (h:bN w B U V s) (hb:Below w.heap.size w w'):bN w' B U V s:=by
 obtain⟨M,h1,h2,hr,hf⟩:=h.mid;exact⟨⟨M,h1,h2,hr.below hb,hf.below hb⟩,h.t.below hb,h.k.below hb,h.ft,h.tt,h.kt,Nat.le_trans h.top hb.size⟩
theorem bN.alloc {w:World} {B U:Nat} {V:SV} {s:Sm} (h:bN w B U V s) (o:Obj):bN (w.alloc o) B U V s:=h.below ((Below.refl _ _).alloc lr_ o)
theorem dV.base {w:World} {B B' U:Nat} {v:Value} {rs:List (List Int)} (h:dV w B U v rs) (hB:B'<=B):dV w B' U v rs:=by
 obtain⟨G,C,h,h1,h2,h3⟩:=h;exact⟨G,C,⟨aU h.hdr hB,fun i hi=>aU (h.row i hi) hB,h.off,h.apart⟩,h1,h2,h3⟩
theorem dV.upto {w:World} {B U U':Nat} {v:Value} {rs:List (List Int)} (h:dV w B U v rs) (hU:U<=U') (hU':U'<=w.heap.size):dV w B U' v rs:=by
 obtain⟨G,C,h,h1,h2,h3⟩:=h;exact⟨G,C,h,fun k e=>Nat.lt_of_lt_of_le (h1 k e) hU,fun i hi=>Nat.lt_of_lt_of_le (h2 i hi) hU,hU'⟩
theorem bN.base {w:World} {B B' U U':Nat} {V:SV} {s:Sm} (h:bN w B U V s) (hB:B'<=B) (hT:U<=U') (hU':U'<=w.heap.size):bN w B' U' V s:=by
 obtain⟨M,h1,h2,hr,hf⟩:=h.mid;exact⟨⟨M,o_,o_,hr.base hB,hf⟩,aU h.t hB,aU h.k hB,fun g e=>by have:=h.ft g e;omega,fun g e=>by have:=h.tt g e;omega,fun g e=>by have:=h.kt g e;omega,hU'⟩
theorem bN.none (w:World) (B U:Nat) (hB:B<=U) (hT:U<=w.heap.size):bN w B U SV.none oN:=
 ⟨⟨U,hB,Nat.le_refl _,dV.nil _ _ _ hT,World.ownsRow_nil _ _ _ _⟩,World.ownsRow_nil _ _ _ _,World.ownsRow_nil _ _ _ _,fun _ e=>(by cases e),fun _ e=>(by cases e),fun _ e=>(by cases e),hT⟩
structure wI (s:Sm):Prop where
 r:s.rs.length<=3/\∀i,i<s.rs.length->(s.rs.getD i []).length<=8
 f:s.zs.length<=6
 t:s.ps.length<=4
 k:s.ks.length<=127
theorem K.rank_len {ps:List K.Pr} {all:Int} (h:K.cX ps all=true):ps.length<=127:=by
 have P:=(K.fS _ _).1 h
 by_cases h0:ps.length=0
 ·omega
 ·have a:=K.aIN P.2.1 (ps.length - 1) o_
  have b:=(P.2.1 (ps.length - 1) o_).1.1.2;omega
theorem Ok.small {s:Sm} (h:Ok s):wI s:=by
 obtain⟨l3,g⟩:=(fM _).1 h.r;exact⟨⟨Nat.le_of_eq l3,fun i hi=>Nat.le_of_eq (g i o_).1⟩,((aAZ _).1 h.f).1,((T.eX _ _ _).1 h.t).1.1,K.rank_len h.k⟩
theorem aIt:wI oN:=⟨⟨by decide,fun i hi=>absurd hi (Nat.not_lt_zero i)⟩,by decide,by decide,by decide⟩
theorem aAh {s:Sm} (h:okS s=true\/s=oN):wI s:=by
 rcases h with h|rfl
 ·exact ((eZ _).1 h).small
 ·exact aIt
theorem aIy (l:List Int):wI (upS l):=by
 cases h:okS (upS l)with
 |true=>exact aAh (.inl h)
 |false=>exact aAh (.inr (aMi h))
theorem vD {w:World} {B B':Nat} {e e':TypeId} {z z' n n':Nat} {u v:Value} {xs ys:List Value} (h:w.ownsRow B e z u n xs) (h':w.ownsRow B' e' z' v n' ys) (he:e≠e'):u.ownBlock=none\/u.ownBlock≠v.ownBlock:=by
 rcases h.2 with ⟨rfl,_⟩|⟨g,cap,cur,rfl,_,hg,_⟩
 ·exact .inl rfl
 ·refine .inr fun q=>?_
  rcases h'.2 with ⟨rfl,_⟩|⟨g',cap',cur',rfl,_,hg',_⟩
  ·cases q
  ·have q':g=g':=by simpa[Value.ownBlock]using q
   subst q';rw[hg]at hg';simp at hg';exact he hg'.2
end Go.Proofs.YtcblbdpdbggkbaaGreat
namespace Go.Proofs.YtcblbdpdbggkbaaGreat.N
open _root_.Go.Proofs.Tryz
open Go.RowKit Go.Sort
structure En where
 node:Int
 born:Int
 num:Int
 s:Sm
structure Nd where
 born:Int
 known:List En
 beacon:Int
 level:Int
 up:Int
structure Wd where
 kind:Int
 src:Int
 dst:Int
 beacon:Int
 level:Int
 known:List En
structure Nt where
 nodes:List Nd
 links:List Bool
 words:List Wd
 past:List (List (List Int))
def in6 (x a b:Int):Bool:=decide (a<=x/\x<=b)
def aMf:Nd:=⟨0,[],0,0,0⟩
def aJm:Nt:=⟨[],[],[],[]⟩
def aA (n:Nt) (i:Int):Nd:=n.nodes.getD i.toNat aMf
def aO (n:Nt) (i:Int):List (List Int):=n.past.getD i.toNat []
def aN (n:Nt) (i b:Int):List Int:=(aO n i).getD b.toNat []
def whole (n:Nt) (a b:Int):Bool:=n.links.getD (a * 5+b).toNat false
def aE (i:Int):Prop:=0<=i/\i<=4
structure tF (n:Nt) (e:En):Prop where
 node:aE e.node
 born:1<=e.born/\e.born<=(aA n e.node).born
 num:0<=e.num/\e.num<=(aN n e.node e.born).length
 ok:okS (upS ((aN n e.node e.born).take e.num.toNat))=true
 s:e.s=upS ((aN n e.node e.born).take e.num.toNat)
def gV (x y:En):Prop:=x.node<y.node
structure jP (n:Nt) (es:List En):Prop where
 all:∀e ∈ es,tF n e
 asc:es.Pairwise gV
def bM (es:List En) (i:Int):Option En:=es.find? fun e=>e.node==i
structure aJd (n:Nt) (i:Int):Prop where
 len:((aO n i).length:Int)=(aA n i).born+1
 none:aN n i 0=[]
 few:∀l ∈ aO n i,l.length<=100
 things:∀l ∈ aO n i,∀t ∈ l,0<=t/\t<=63
def aGP (n:Nt) (i:Int):Prop:=∃e,bM (aA n i).known i=some e/\e.born=(aA n i).born/\e.num=(aN n i (aA n i).born).length
structure aLD (n:Nt) (i:Int):Prop where
 beacon:0<=(aA n i).beacon/\(aA n i).beacon<=(aA n 0).beacon
 root:i=0->(aA n i).level=0/\(aA n i).up= -1
 level:i≠0->1<=(aA n i).level/\(aA n i).level<=5
 none:i≠0->((aA n i).up= -1↔(aA n i).level=5)
 up:i≠0->(-1<=(aA n i).up/\(aA n i).up<=4)/\(aA n i).up≠i
structure gH (n:Nt) (w:Wd):Prop where
 src:aE w.src
 dst:aE w.dst
 other:w.src≠w.dst
 kind:w.kind=1/\(0<=w.beacon/\w.beacon<=(aA n 0).beacon)/\(0<=w.level/\w.level<=4)/\w.known=[]\/w.kind=2/\w.beacon=0/\w.level=0/\jP n w.known
structure aM (n:Nt):Prop where
 nodes:n.nodes.length=5
 past:n.past.length=5
 links:n.links.length=25
 words:n.words.length<=24
 born:∀i,aE i->1<=(aA n i).born/\(aA n i).born<=20
 pasts:∀i,aE i->aJd n i
 self:∀i,aE i->whole n i i=false
 either:∀i j,aE i->aE j->whole n i j=whole n j i
 own:∀i,aE i->aGP n i
 known:∀i,aE i->jP n (aA n i).known
 way:∀i,aE i->aLD n i
 word:∀w ∈ n.words,gH n w
 beacon:(aA n 0).beacon<=1000
def jM (a b:En):Bool:=decide (b.born<a.born) || (decide (a.born=b.born)&&decide (b.num<a.num))
def fP:List En->En->List En
 | [],e=>[e]
 |x::xs,e=>if x.node<e.node then x::fP xs e else if x.node=e.node then (if jM e x=true then e else x)::xs else e::x::xs
theorem qQ:∀{es:List En} {e x:En},x ∈ fP es e->x=e\/x ∈ es
 | [],e,x,h=>.inl (List.mem_singleton.1 h)
 |y::ys,e,x,h=>by
  unfold fP at h
  split at h
  ·rcases List.mem_cons.1 h with h|h
   ·exact .inr (by simp[h])
   ·rcases qQ h with h|h
    ·exact .inl h
    ·exact .inr (by simp[h])
  ·split at h
   ·rcases List.mem_cons.1 h with h|h
    ·split at h
     ·exact .inl h
     ·exact .inr (by simp[h])
    ·exact .inr (by simp[h])
   ·rcases List.mem_cons.1 h with h|h
    ·exact .inl h
    ·exact .inr h
theorem rL:∀{es:List En} {e:En},es.Pairwise gV->(fP es e).Pairwise gV
 | [],e,_=>List.pairwise_singleton _ _
 |y::ys,e,h=>by
  have hy:=List.pairwise_cons.1 h;unfold fP
  split
  ·rename_i h1
   refine List.pairwise_cons.2 ⟨fun z hz=>?_,rL hy.2⟩;rcases qQ hz with rfl|hz
   ·exact h1
   ·exact hy.1 z hz
  ·rename_i h1
   split
   ·rename_i h2
    refine List.pairwise_cons.2 ⟨fun z hz=>?_,hy.2⟩;have:=hy.1 z hz;unfold gV at this ⊢
    split<;>omega
   ·rename_i h2
    refine List.pairwise_cons.2 ⟨fun z hz=>?_,h⟩;unfold gV;rcases List.mem_cons.1 hz with rfl|hz
    ·omega
    ·have:=hy.1 z hz
     unfold gV at this;omega
theorem lR (x:En) (xs:List En) (i:Int):bM (x::xs) i=if x.node=i then some x else bM xs i:=by
 unfold bM;rw[List.find?_cons]
 by_cases h:x.node=i
 ·simp[h]
 ·have:(x.node==i)=false:=by simpa using h
  simp[this,h]
theorem iG {es:List En} {i:Int} {e:En} (h:bM es i=some e):e ∈ es/\e.node=i:=by
 have:=List.find?_some h;exact⟨List.mem_of_find?_eq_some h,by simpa using this⟩
theorem aCz {es:List En} {i:Int} (h:∀e ∈ es,e.node≠i):bM es i=none:=by
 unfold bM;rw[List.find?_eq_none];intro e he;simpa using h e he
theorem sP:∀{es:List En} {e:En},es.Pairwise gV->∀i,bM (fP es e) i=if i=e.node then some (match bM es i with|some x=>if jM e x=true then e else x|none=>e)else bM es i
 | [],e,_,i=>by
  unfold fP;rw[lR]
  by_cases h:i=e.node
  ·simp[h,bM]
  ·have h':¬e.node=i:=fun q=>h q.symm
   simp[h,h',bM]
 |y::ys,e,h,i=>by
  have hy:=List.pairwise_cons.1 h;unfold fP
  split
  ·rename_i h1
   rw[lR,lR,sP hy.2 i]
   by_cases q:y.node=i
   ·subst q
    have:¬y.node=e.node:=o_;simp[this]
   ·simp[q]
  ·rename_i h1
   split
   ·rename_i h2
    rw[lR,lR]
    by_cases q:i=e.node
    ·subst q
     rw[if_pos rfl]
     by_cases nw:jM e y=true
     ·simp[nw,h2]
     ·simp[nw,h2]
    ·have q2:¬y.node=i:=o_
     have q3:¬(if jM e y=true then e else y).node=i:=by split<;>omega
     rw[if_neg q3,if_neg q,if_neg q2]
   ·rename_i h2
    rw[lR]
    by_cases q:i=e.node
    ·subst q
     have hn:bM (y::ys) e.node=none:=aCz fun z hz=>by
      rcases List.mem_cons.1 hz with rfl|hz
      ·exact h2
      ·have:=hy.1 z hz
       unfold gV at this;omega
     rw[if_pos rfl,if_pos rfl,hn]
    ·have q2:¬e.node=i:=fun x=>q x.symm
     rw[if_neg q2,if_neg q]
def wK (i born:Int):Nd:=⟨born,[⟨i,born,0,dK⟩],0,if i=0 then 0 else 5, -1⟩
def fB (n:Nt) (i:Int) (x:Nd):Nt:={ n with nodes:=n.nodes.set i.toNat x }
def dF (n:Nt) (w:Wd):Nt × Bool:=if whole n w.src w.dst=true/\n.words.length<24 then ({ n with words:=n.words++[w] },true)else (n,false)
def lI (n:Nt) (i t:Int):Option Nt:=
 let x:=aA n i
 if (0<=t/\t<=63)/\(aN n i x.born).length<100 then
  let own:=(bM x.known i).getD ⟨0,0,0,oN⟩
  some { n with past:=n.past.set i.toNat ((aO n i).set x.born.toNat (aN n i x.born++[t])),nodes:=n.nodes.set i.toNat { x with known:=fP x.known ⟨i,x.born,own.num+1,dC own.s t⟩ } }
 else none
def cA (n:Nt) (i:Int):Nt × Bool:=
 let x:=aA n i
 if x.level<5 then (List.range 5).foldl (fun (m:Nt × Bool) (k:Nat)=>if (k:Int)=i then m else ((dF m.1 ⟨1,i,k,x.beacon,x.level,[]⟩).1,m.2 || (dF m.1 ⟨1,i,k,x.beacon,x.level,[]⟩).2)) (n,false)else (n,false)
def fX (n:Nt) (i:Int):Nt × Bool:=
 let x:=aA n i
 if x.up<0 then (n,false)else dF n ⟨2,i,x.up,0,0,x.known⟩
def dJ (es:List En) (i:Int) (news:List En):List En:=news.foldl (fun ks e=>if e.node=i then ks else fP ks e) es
def aQ (n:Nt) (w:Wd):Nt:=
 let x:=aA n w.dst
 if w.kind=2 then fB n w.dst { x with known:=dJ x.known w.dst w.known }
 else if w.dst=0\/(5<=w.level+1/\w.beacon<=x.beacon)then n
 else if x.beacon<w.beacon\/(w.beacon=x.beacon/\w.level+1<x.level)then fB n w.dst { x with beacon:=w.beacon,level:=w.level+1,up:=if 5<=w.level+1 then -1 else w.src }
 else n
def rK (n:Nt) (at_:Int):Prop:=0<=at_/\at_<n.words.length
instance (n:Nt) (at_:Int):Decidable (rK n at_):=by unfold rK;infer_instance
instance (i:Int):Decidable (aE i):=by unfold aE;infer_instance
def kW (n:Nt) (at_:Int):Wd:=n.words.getD at_.toNat ⟨0,0,0,0,0,[]⟩
def zM (n:Nt) (at_:Int):Nt:={ n with words:=n.words.eraseIdx at_.toNat }
def lC (n:Nt) (at_:Int) (heard kept:Bool):Option Nt:=
 if rK n at_ then
  let m:=if heard=true then aQ n (kW n at_)else n
  some (if kept=true then m else zM m at_)
 else none
def lK (n:Nt) (i:Int):Option Nt:=
 let x:=aA n i
 if x.born+1<=20 then
  some { n with nodes:=n.nodes.set i.toNat { wK i (x.born+1)with beacon:=if i=0 then x.beacon else 0 },past:=n.past.set i.toNat (aO n i++[[]]) }
 else none
def pX (n:Nt) (a b:Int) (w:Bool):Option Nt:=
 if a=b\/whole n a b=w then none else some { n with links:=(n.links.set (a * 5+b).toNat w).set (b * 5+a).toNat w }
def nV (m:Nt × Bool):Option Nt:=if m.2=true then some m.1 else none
def doN (n:Nt) (d:De):Option Nt:=
 if d.kind=4 then lC n d.a true false
 else if d.kind=5 then lC n d.a true true
 else if d.kind=6 then lC n d.a false false
 else if d.kind=8 then (if (aA n 0).beacon+1<=1000 then some (fB n 0 { aA n 0 with beacon:=(aA n 0).beacon+1 })else none)
 else if aE d.a then
  (if d.kind=1 then lI n d.a d.b
     else if d.kind=2 then nV (cA n d.a)
     else if d.kind=3 then nV (fX n d.a)
     else if d.kind=7 then lK n d.a
     else if d.kind=9\/d.kind=10 then (if aE d.b then pX n d.a d.b (decide (d.kind=10))else none)
     else none)
 else none
def cO (n:Nt) (ds:List De):Nt:=ds.foldl (fun m d=>(doN m d).getD m) n
def gI (n:Nt):Nt:={ n.words.foldl aQ n with words:=[] }
def gF (f:Nt->Int->Nt) (n:Nt):Nt:=(List.range 5).foldl (fun (m:Nt) (k:Nat)=>gI (f m (k:Int))) n
def aAS (n:Nt):Nt:=
 let n0:=gI n
 let n1:=fB n0 0 { aA n0 0 with beacon:=(aA n0 0).beacon+1 }
 let n2:=(List.range 5).foldl (fun m _=>gF (fun m i=>(cA m i).1) m) n1
 (List.range 5).foldl (fun m _=>gF (fun m i=>(fX m i).1) m) n2
def fO:List Int->Bool
 |a::b::l=>(in6 a 0 4&&(in6 b 0 4&&decide (a≠b)))&&fO l
 |_=>true
def jI (ls:List Bool):List Int->List Bool
 |a::b::l=>jI ((ls.set (a * 5+b).toNat true).set (b * 5+a).toNat true) l
 |_=>ls
def vZ:Nt:=⟨(List.range 5).map (fun i:Nat=>wK i 1),List.replicate 25 false,[],List.replicate 5 [[],[]]⟩
def rR (l:List Int):Option Nt:=if (l.length % 2=0/\l.length<=40)/\fO l=true then some { vZ with links:=jI vZ.links l }else none
end Go.Proofs.YtcblbdpdbggkbaaGreat.N
namespace Go.Proofs.YtcblbdpdbggkbaaGreat
open _root_.Go.Proofs.Tryz
open Go.RowKit Go.Sort
def qH (p:Int × Int):List Value:=[.int .i64 p.1,.int .i64 p.2]
def aBn:Rep (List (Int × Int)):=flR 213 2 qH
def aAx:Rep (List (Int × Int)):=flR 152 2 qH
theorem qX:aBn.Frame:=tM
theorem rD:aAx.Frame:=tM
theorem xR (zs:List Int):zs.flatMap kY=cC zs:=by
 induction zs with
 |nil=>rfl
 |cons z zs ih=>rw[List.flatMap_cons,ih];rfl
theorem aDI {w:World} {B:Nat} {v:Value} {zs:List Int} (h:cE w B v zs):uD w [v] zs v.ownBlock.toList:=
 .inl (kD (by rw[xR];exact h) (fun _=>rfl))
theorem mI {w:World} {cs:List Value} {zs:List Int} {fp:List Nat} (h:uD w cs zs fp):∃v,cs=[v]/\dE w v zs/\(zs≠[]->cE w 0 v zs/\fp=v.ownBlock.toList):=by
 rcases h with h|⟨rfl,rfl,b,o,rfl,hb⟩
 ·obtain⟨v,e,ho,hf⟩:=eE h
  rw[xR]at ho;exact⟨v,e,cE.rd ho,fun _=>⟨ho,hf⟩⟩
 ·exact zAU
theorem aHz {w:World} {B:Nat} {v:Value} {ps:List T.Pr} (h:T.aJ w B v ps):aBn w [v] ps v.ownBlock.toList:=.inl (kD h (fun _=>rfl))
theorem aHV {w:World} {cs:List Value} {ps:List T.Pr} {fp:List Nat} (h:aBn w cs ps fp):∃v,cs=[v]/\T.Prs w v ps/\(ps≠[]->T.aJ w 0 v ps/\fp=v.ownBlock.toList):=by
 rcases h with h|⟨rfl,rfl,b,o,rfl,hb⟩
 ·obtain⟨v,e,ho,hf⟩:=eE h
  exact⟨v,e,T.aJ.rd ho,fun _=>⟨ho,hf⟩⟩
 ·exact zAU
theorem aHT {w:World} {B:Nat} {v:Value} {ps:List K.Pr} (h:K.aJ w B v ps):aAx w [v] ps v.ownBlock.toList:=.inl (kD h (fun _=>rfl))
theorem aHL {w:World} {cs:List Value} {ps:List K.Pr} {fp:List Nat} (h:aAx w cs ps fp):∃v,cs=[v]/\K.Prs w v ps/\(ps≠[]->K.aJ w 0 v ps/\fp=v.ownBlock.toList):=by
 rcases h with h|⟨rfl,rfl,b,o,rfl,hb⟩
 ·obtain⟨v,e,ho,hf⟩:=eE h
  exact⟨v,e,K.aJ.rd ho,fun _=>⟨ho,hf⟩⟩
 ·exact zAU
theorem aEb {w:World} {B:Nat} {v:Value} {rs:List (List Int)} {G C:Nat->Nat} (h:dP w B v rs G C):uK w [v] rs (v.ownBlock.toList++(List.range rs.length).map G):=by
 refine⟨v,fun i=>[oK rs G C i],fun i=>[G i],rfl,?_,fun i hi=>rfl,fun i a hi=>?_,?_⟩
 ·rw[aEx]
  exact aU h.hdr (Nat.zero_le _)
 ·have hlt:=(List.getElem?_eq_some_iff.1 hi).1
  have e:rs.getD i []=a:=by rw[List.getD_eq_getElem?_getD,hi];rfl
  have r:=h.row i hlt;rw[e]at r;exact aDI r
 ·rw[aEx]
theorem aFe {w:World} {cs:List Value} {rs:List (List Int)} {fp:List Nat} (h:uK w cs rs fp):∃v,cs=[v]/\Rws w v rs:=by
 obtain⟨v,c,f,rfl,ho,hl,ha,rfl⟩:=h;refine⟨v,rfl,?_⟩;rcases ho.2 with ⟨rfl,h0⟩|⟨g,cap,cur,rfl,hb,hg,hn,hc,hs,ht⟩
 ·exact zA7
 ·refine .inr ⟨g,0,cap,rfl,hn,hc,(Array.getElem?_eq_some_iff.1 hg).1,fun i hi=>?_⟩
  obtain⟨x,hx,hox,_⟩:=mI (ha i _ (List.getElem?_eq_getElem hi));have q:=World.ownsRow.cellAt ho i o_;have z:=qT (k:=0) hl hi o_;rw[Nat.mul_one,Nat.add_zero]at z;refine⟨x,by rw[Nat.zero_add,q,z,hx];rfl,?_⟩;rw[List.getD_eq_getElem?_getD,List.getElem?_eq_getElem hi];exact hox
def rS:Rep Sm:=fun w cs s fp=>∃V f1 f2 f3 f4,cs=[.slice V.xr V.nr V.cr,.slice V.xf V.nf V.cf,.slice V.xt V.nt V.ct,.int .i64 s.lo,.int .i64 s.al,.slice V.xk V.nk V.ck,.int .i64 s.ka]/\fp=f1++(f2++(f3++f4))/\uK w [SV.r V] s.rs f1/\uD w [SV.f V] s.zs f2/\aBn w [SV.t V] s.ps f3/\aAx w [SV.k V] s.ks f4
theorem bF:rS.Frame:=by
 refine⟨?_,?_⟩
 ·rintro w cs s fp ⟨V,f1,f2,f3,f4,rfl,rfl,h1,h2,h3,h4⟩ b hm
  simp only[List.mem_append]at hm;rcases hm with hm|hm|hm|hm
  ·exact bS.lt h1 b hm
  ·exact cK.lt h2 b hm
  ·exact qX.lt h3 b hm
  ·exact rD.lt h4 b hm
 ·rintro w w' cs s fp ⟨V,f1,f2,f3,f4,rfl,rfl,h1,h2,h3,h4⟩ hk hs
  exact⟨V,f1,f2,f3,f4,rfl,rfl,bS.keep h1 (fun b hm=>hk b (by simp[hm])) hs,cK.keep h2 (fun b hm=>hk b (by simp[hm])) hs,qX.keep h3 (fun b hm=>hk b (by simp[hm])) hs,rD.keep h4 (fun b hm=>hk b (by simp[hm])) hs⟩
theorem wO {w:World} {cs:List Value} {s:Sm} {fp:List Nat} (h:rS w cs s fp):∃V,cs=[.slice V.xr V.nr V.cr,.slice V.xf V.nf V.cf,.slice V.xt V.nt V.ct,.int .i64 s.lo,.int .i64 s.al,.slice V.xk V.nk V.ck,.int .i64 s.ka]/\RdS w V s:=by
 obtain⟨V,f1,f2,f3,f4,rfl,rfl,h1,h2,h3,h4⟩:=h;obtain⟨v1,e1,r1⟩:=aFe h1;obtain⟨v2,e2,r2,_⟩:=mI h2;obtain⟨v3,e3,r3,_⟩:=aHV h3;obtain⟨v4,e4,r4,_⟩:=aHL h4;cases e1;cases e2;cases e3;cases e4;exact⟨V,rfl,r1,r2,r3,r4⟩
theorem bN.rep {w:World} {B U:Nat} {V:SV} {s:Sm} (h:bN w B U V s):∃fp,rS w (cS V s) s fp/\fp.Nodup/\∀b ∈ fp,B<=b/\b<U:=by
 obtain⟨M,m1,m2,⟨G,C,o,q1,q2,q3⟩,hf⟩:=h.mid;refine⟨_,⟨V,_,_,_,_,rfl,rfl,aEb o,aDI hf,aHz h.t,aHT h.k⟩,?_,?_⟩
 ·have gG:∀i,i<s.rs.length->B<=G i/\G i<M:=fun i hi=>⟨((o.row i hi).lt (G i) rfl).1,q2 i hi⟩
  have gr:∀b,V.r.ownBlock=some b->B<=b/\b<M:=fun b e=>⟨(World.ownsRow.lt o.hdr b e).1,q1 b e⟩
  have gf:∀b,V.f.ownBlock=some b->M<=b:=fun b e=>(World.ownsRow.lt hf b e).1
  have tr:∀b,V.t.ownBlock=some b->V.r.ownBlock≠some b:=fun b e e'=>by
   rcases vD h.t o.hdr dc_ with n|n
   ·rw[n]at e;cases e
   ·exact n (e.trans e'.symm)
  have tg:∀b,V.t.ownBlock=some b->∀i,i<s.rs.length->G i≠b:=fun b e i hi e'=>by
   rcases vD h.t (o.row i hi) dc_ with n|n
   ·rw[n]at e;cases e
   ·exact n (e.trans (by rw[<-e'];rfl))
  have tf:∀b,V.t.ownBlock=some b->V.f.ownBlock≠some b:=fun b e e'=>by
   rcases vD h.t hf dc_ with n|n
   ·rw[n]at e;cases e
   ·exact n (e.trans e'.symm)
  have kr:∀b,V.k.ownBlock=some b->V.r.ownBlock≠some b:=fun b e e'=>by
   rcases vD h.k o.hdr dc_ with n|n
   ·rw[n]at e;cases e
   ·exact n (e.trans e'.symm)
  have kg:∀b,V.k.ownBlock=some b->∀i,i<s.rs.length->G i≠b:=fun b e i hi e'=>by
   rcases vD h.k (o.row i hi) dc_ with n|n
   ·rw[n]at e;cases e
   ·exact n (e.trans (by rw[<-e'];rfl))
  have kf:∀b,V.k.ownBlock=some b->V.f.ownBlock≠some b:=fun b e e'=>by
   rcases vD h.k hf dc_ with n|n
   ·rw[n]at e;cases e
   ·exact n (e.trans e'.symm)
  have kt:∀b,V.k.ownBlock=some b->V.t.ownBlock≠some b:=fun b e e'=>by
   rcases vD h.k h.t dc_ with n|n
   ·rw[n]at e;cases e
   ·exact n (e.trans e'.symm)
  refine List.nodup_append.2 ⟨List.nodup_append.2 ⟨fW _,?_,?_⟩,List.nodup_append.2 ⟨fW _,List.nodup_append.2 ⟨fW _,fW _,?_⟩,?_⟩,?_⟩
  ·exact List.pairwise_map.2 (List.Pairwise.imp_of_mem (fun {i j} hi hj q e=>o.apart i j (List.mem_range.1 hi) (List.mem_range.1 hj) q e) List.nodup_range)
  ·intro a ha b hb e
   obtain⟨i,hi,rfl⟩:=List.mem_map.1 hb;exact o.off i (List.mem_range.1 hi) (by rw[bL ha,e])
  ·intro a ha b hb e
   exact kt b (bL hb) (by rw[bL ha,e])
  ·intro a ha b hb e
   rcases List.mem_append.1 hb with hb|hb
   ·exact tf b (bL hb) (by rw[bL ha,e])
   ·exact kf b (bL hb) (by rw[bL ha,e])
  ·intro a ha b hb e
   subst e;rcases List.mem_append.1 ha with ha|ha
   ·have e1:=bL ha
    rcases List.mem_append.1 hb with hb|hb
    ·have:=gf a (bL hb);have:=(gr a e1).2;omega
    ·rcases List.mem_append.1 hb with hb|hb
     ·exact tr a (bL hb) e1
     ·exact kr a (bL hb) e1
   ·obtain⟨i,hi,rfl⟩:=List.mem_map.1 ha
    have hi:=List.mem_range.1 hi;rcases List.mem_append.1 hb with hb|hb
    ·have:=gf _ (bL hb);have:=(gG i hi).2;omega
    ·rcases List.mem_append.1 hb with hb|hb
     ·exact tg _ (bL hb) i hi rfl
     ·exact kg _ (bL hb) i hi rfl
 ·intro b hb
  simp only[List.mem_append]at hb;rcases hb with (hb|hb)|hb|hb|hb
  ·have e:=bL hb
   have:=(World.ownsRow.lt o.hdr b e).1;have:=q1 b e;omega
  ·obtain⟨i,hi,rfl⟩:=List.mem_map.1 hb
   have hi:=List.mem_range.1 hi;have:=((o.row i hi).lt (G i) rfl).1;have:=q2 i hi;omega
  ·have e:=bL hb
   have:=(World.ownsRow.lt hf b e).1;have:=h.ft b e;omega
  ·have e:=bL hb
   exact⟨(World.ownsRow.lt h.t b e).1,h.tt b e⟩
  ·have e:=bL hb
   exact⟨(World.ownsRow.lt h.k b e).1,h.kt b e⟩
theorem aIB:rS.One 7:=by
 refine⟨?_,?_⟩
 ·rintro w cs s fp ⟨V,f1,f2,f3,f4,rfl,_⟩;rfl
 ·rintro w cs s fp ⟨V,f1,f2,f3,f4,rfl,_,h1,h2,h3,h4⟩ u hu
  have o1:=(nM uD 23 1).one h1;have o2:=tT.one h2;have o3:=tT.one h3;have o4:=tT.one h4;simp only[List.mem_singleton,forall_eq]at o1 o2 o3 o4;simp only[List.mem_cons,List.not_mem_nil,or_false]at hu;rcases hu with rfl|rfl|rfl|rfl|rfl|rfl|rfl<;>first|assumption|rfl
namespace N
structure Ty where
 entry:TypeId
 node:TypeId
 word:TypeId
 bool:TypeId
 rows:TypeId
variable {T:Ty}
def zV (b:Bool):List Value:=[.bool b]
def aDp:Rep En:=aIf (sN xE (sN xE (sN xE rS))) fun e=>(e.node,e.born,e.num,e.s)
def gD (T:Ty):Rep (List En):=mY T.entry 10 aDp
def aGw (T:Ty):Rep Nd:=aIf (sN xE (sN (gD T) (sN xE (sN xE xE)))) fun x=>(x.born,x.known,x.beacon,x.level,x.up)
def aGW (T:Ty):Rep Wd:=aIf (sN xE (sN xE (sN xE (sN xE (sN xE (gD T)))))) fun x=>(x.kind,x.src,x.dst,x.beacon,x.level,x.known)
def uM (T:Ty):Rep (List Nd):=mY T.node 5 (aGw T)
def aBk (T:Ty):Rep (List Wd):=mY T.word 6 (aGW T)
def sK (T:Ty):Rep (List Bool):=mY T.bool 1 (aBg zV)
def aD8 (T:Ty):Rep (List (List (List Int))):=mY T.rows 1 uK
def aLq (T:Ty):Rep Nt:=aIf (sN (uM T) (sN (sK T) (sN (aBk T) (aD8 T)))) fun n=>(n.nodes,n.links,n.words,n.past)
theorem aP:aDp.Frame:=uY (eO eT (eO eT (eO eT bF))) _
theorem gR:(gD T).Frame:=aV aP _ _
theorem aY:(aGw T).Frame:=uY (eO eT (eO gR (eO eT (eO eT eT)))) _
theorem gQ:(aGW T).Frame:=uY (eO eT (eO eT (eO eT (eO eT (eO eT gR))))) _
theorem gT:aDp.One 10:=aA3 (iC iD (iC iD (iC iD aIB))) _
theorem aCw:(aGw T).One 5:=aA3 (iC iD (iC (nM _ _ _) (iC iD (iC iD iD)))) _
theorem pO:(aGW T).One 6:=aA3 (iC iD (iC iD (iC iD (iC iD (iC iD (nM _ _ _)))))) _
section
variable {w:World} {cs:List Value} {fp:List Nat}
theorem jU {e:En}:aDp w cs e fp↔∃c,cs=.int .i64 e.node::.int .i64 e.born::.int .i64 e.num::c/\rS w c e.s fp:=by
 constructor
 ·rintro⟨_,_,_,_,rfl,rfl,⟨rfl,rfl⟩,⟨_,_,_,_,rfl,rfl,⟨rfl,rfl⟩,⟨_,_,_,_,rfl,rfl,⟨rfl,rfl⟩,h⟩⟩⟩
  exact⟨_,rfl,h⟩
 ·rintro⟨c,rfl,h⟩
  exact⟨[_],_,[],fp,rfl,rfl,⟨rfl,rfl⟩,⟨[_],_,[],fp,rfl,rfl,⟨rfl,rfl⟩,⟨[_],_,[],fp,rfl,rfl,⟨rfl,rfl⟩,h⟩⟩⟩
theorem tU {x:Nd}:aGw T w cs x fp↔∃v,cs=[.int .i64 x.born,v,.int .i64 x.beacon,.int .i64 x.level,.int .i64 x.up]/\gD T w [v] x.known fp:=by
 constructor
 ·rintro⟨_,_,_,_,rfl,rfl,⟨rfl,rfl⟩,⟨_,_,_,_,rfl,rfl,h,⟨_,_,_,_,rfl,rfl,⟨rfl,rfl⟩,⟨_,_,_,_,rfl,rfl,⟨rfl,rfl⟩,⟨rfl,rfl⟩⟩⟩⟩⟩
  obtain⟨v,c,f,rfl,h'⟩:=h;refine⟨v,rfl,?_⟩;simp only[List.nil_append,List.append_nil];exact⟨v,c,f,rfl,h'⟩
 ·rintro⟨v,rfl,h⟩
  refine⟨[_],[v,_,_,_],[],fp,rfl,rfl,⟨rfl,rfl⟩,⟨[v],[_,_,_],fp,[],rfl,(List.append_nil _).symm,h,⟨[_],[_,_],[],[],rfl,rfl,⟨rfl,rfl⟩,⟨[_],[_],[],[],rfl,rfl,⟨rfl,rfl⟩,⟨rfl,rfl⟩⟩⟩⟩⟩
theorem aBZ {x:Wd}:aGW T w cs x fp↔∃v,cs=[.int .i64 x.kind,.int .i64 x.src,.int .i64 x.dst,.int .i64 x.beacon,.int .i64 x.level,v]/\gD T w [v] x.known fp:=by
 constructor
 ·rintro⟨_,_,_,_,rfl,rfl,⟨rfl,rfl⟩,⟨_,_,_,_,rfl,rfl,⟨rfl,rfl⟩,⟨_,_,_,_,rfl,rfl,⟨rfl,rfl⟩,⟨_,_,_,_,rfl,rfl,⟨rfl,rfl⟩,⟨_,_,_,_,rfl,rfl,⟨rfl,rfl⟩,h⟩⟩⟩⟩⟩
  obtain⟨v,c,f,rfl,h'⟩:=h;exact⟨v,rfl,⟨v,c,f,rfl,h'⟩⟩
 ·rintro⟨v,rfl,h⟩
  exact⟨[_],_,[],fp,rfl,rfl,⟨rfl,rfl⟩,⟨[_],_,[],fp,rfl,rfl,⟨rfl,rfl⟩,⟨[_],_,[],fp,rfl,rfl,⟨rfl,rfl⟩,⟨[_],_,[],fp,rfl,rfl,⟨rfl,rfl⟩,⟨[_],_,[],fp,rfl,rfl,⟨rfl,rfl⟩,h⟩⟩⟩⟩⟩
theorem aEI {n:Nt}:aLq T w cs n fp↔∃v1 v2 v3 v4 f1 f2 f3 f4,cs=[v1,v2,v3,v4]/\fp=f1++(f2++(f3++f4))/\uM T w [v1] n.nodes f1/\sK T w [v2] n.links f2/\aBk T w [v3] n.words f3/\aD8 T w [v4] n.past f4:=by
 constructor
 ·rintro⟨_,_,f1,_,rfl,rfl,⟨v1,a1,b1,rfl,h1⟩,⟨_,_,f2,_,rfl,rfl,⟨v2,a2,b2,rfl,h2⟩,⟨_,_,f3,f4,rfl,rfl,⟨v3,a3,b3,rfl,h3⟩,⟨v4,a4,b4,rfl,h4⟩⟩⟩⟩
  exact⟨v1,v2,v3,v4,f1,f2,f3,f4,rfl,rfl,⟨v1,a1,b1,rfl,h1⟩,⟨v2,a2,b2,rfl,h2⟩,⟨v3,a3,b3,rfl,h3⟩,⟨v4,a4,b4,rfl,h4⟩⟩
 ·rintro⟨v1,v2,v3,v4,f1,f2,f3,f4,rfl,rfl,h1,h2,h3,h4⟩
  exact⟨[v1],[v2,v3,v4],f1,_,rfl,rfl,h1,⟨[v2],[v3,v4],f2,_,rfl,rfl,h2,⟨[v3],[v4],f3,f4,rfl,rfl,h3,h4⟩⟩⟩
end
end N
end Go.Proofs.YtcblbdpdbggkbaaGreat
namespace Go.Proofs.YtcblbdpdbggkbaaGreat
open _root_.Go.Proofs.Tryz
open Go.RowKit Go.Sort
namespace N
variable {T:Ty} {w:World} {B:Nat} {n:Nt} {fp:List Nat} {v1 v2 v3 v4:Value}
variable {T:Ty} {w:World} {fp:List Nat} {x:Option Addr} {k c:Nat}
theorem gY {es:List En} (h:gD T w [.slice x k c] es fp) {i:Nat} {e:En} (hi:es[i]? =some e):∃(g:Nat) (V:SV) (fe:List Nat),x=some ⟨g,0,none⟩/\g<w.heap.size/\(∀b ∈ fe,b ∈ fp)/\rS w (cS V (e.s)) e.s fe/\
  w.cell? ⟨g,i * 10,none⟩=some (.int .i64 e.node)/\w.cell? ⟨g,i * 10+1,none⟩=some (.int .i64 e.born)/\w.cell? ⟨g,i * 10+2,none⟩=some (.int .i64 e.num)/\
  ∀j z,((cS V (e.s)):List Value)[j]? =some z->w.cell? ⟨g,i * 10+(3+j),none⟩=some z:=by
 obtain⟨_,at_⟩:=aT h;obtain⟨g,ci,fi,q,h1,h2,h3,h4,h5⟩:=at_ hi;obtain⟨cs,rfl,hs⟩:=jU.1 h2;obtain⟨V,f1,f2,f3,f4,rfl,r⟩:=hs;refine⟨g,V,fi,q,h1,h3,⟨V,f1,f2,f3,f4,rfl,r⟩,h5 0 _ rfl,h5 1 _ rfl,h5 2 _ rfl,fun j z hz=>h5 (3+j) z ?_⟩;rw[Nat.add_comm];exact hz
theorem cB {ns:List Nd} (h:uM T w [.slice x k c] ns fp) {i:Nat} {a:Nd} (hi:ns[i]? =some a):∃g xk ck fk,x=some ⟨g,0,none⟩/\g<w.heap.size/\(∀b ∈ fk,b ∈ fp)/\gD T w [.slice xk a.known.length ck] a.known fk/\a.known.length<=ck/\ck<=maxLen/\
  w.cell? ⟨g,i * 5,none⟩=some (.int .i64 a.born)/\w.cell? ⟨g,i * 5+1,none⟩=some (.slice xk a.known.length ck)/\w.cell? ⟨g,i * 5+2,none⟩=some (.int .i64 a.beacon)/\w.cell? ⟨g,i * 5+3,none⟩=some (.int .i64 a.level)/\w.cell? ⟨g,i * 5+4,none⟩=some (.int .i64 a.up):=by
 obtain⟨_,at_⟩:=aT h;obtain⟨g,ci,fi,q,h1,h2,h3,h4,h5⟩:=at_ hi;obtain⟨kn,rfl,hk⟩:=tU.1 h2;obtain⟨xk,ck,rfl,l1,l2⟩:=cM hk;exact⟨g,xk,ck,fi,q,h1,h3,hk,l1,l2,h5 0 _ rfl,h5 1 _ rfl,h5 2 _ rfl,h5 3 _ rfl,h5 4 _ rfl⟩
theorem xG {ws:List Wd} (h:aBk T w [.slice x k c] ws fp) {i:Nat} {a:Wd} (hi:ws[i]? =some a):∃g xk ck fk,x=some ⟨g,0,none⟩/\g<w.heap.size/\(∀b ∈ fk,b ∈ fp)/\gD T w [.slice xk a.known.length ck] a.known fk/\a.known.length<=ck/\ck<=maxLen/\
  w.cell? ⟨g,i * 6,none⟩=some (.int .i64 a.kind)/\w.cell? ⟨g,i * 6+1,none⟩=some (.int .i64 a.src)/\w.cell? ⟨g,i * 6+2,none⟩=some (.int .i64 a.dst)/\w.cell? ⟨g,i * 6+3,none⟩=some (.int .i64 a.beacon)/\w.cell? ⟨g,i * 6+4,none⟩=some (.int .i64 a.level)/\w.cell? ⟨g,i * 6+5,none⟩=some (.slice xk a.known.length ck):=by
 obtain⟨_,at_⟩:=aT h;obtain⟨g,ci,fi,q,h1,h2,h3,h4,h5⟩:=at_ hi;obtain⟨kn,rfl,hk⟩:=aBZ.1 h2;obtain⟨xk,ck,rfl,l1,l2⟩:=cM hk;exact⟨g,xk,ck,fi,q,h1,h3,hk,l1,l2,h5 0 _ rfl,h5 1 _ rfl,h5 2 _ rfl,h5 3 _ rfl,h5 4 _ rfl,h5 5 _ rfl⟩
theorem mX {ls:List Bool} (h:sK T w [.slice x k c] ls fp) {i:Nat} {b:Bool} (hi:ls[i]? =some b):∃g,x=some ⟨g,0,none⟩/\g<w.heap.size/\w.cell? ⟨g,i,none⟩=some (.bool b):=by
 obtain⟨_,at_⟩:=aT h;obtain⟨g,ci,fi,q,h1,h2,h3,h4,h5⟩:=at_ hi;refine⟨g,q,h1,?_⟩;have r:=h5 0 (.bool b) (by rw[h2.1];rfl);rwa[Nat.mul_one,Nat.add_zero]at r
theorem jO {ps:List (List (List Int))} (h:aD8 T w [.slice x k c] ps fp) {i:Nat} {rs:List (List Int)} (hi:ps[i]? =some rs):∃g xr cr fr,x=some ⟨g,0,none⟩/\g<w.heap.size/\(∀b ∈ fr,b ∈ fp)/\uK w [.slice xr rs.length cr] rs fr/\rs.length<=cr/\cr<=maxLen/\w.cell? ⟨g,i,none⟩=some (.slice xr rs.length cr):=by
 obtain⟨_,at_⟩:=aT h;obtain⟨g,ci,fi,q,h1,h2,h3,h4,h5⟩:=at_ hi;obtain⟨vr,rfl⟩:∃vr,ci=[vr]:=by
  obtain⟨vr,a,b,e,_⟩:=h2;exact⟨vr,e⟩
 obtain⟨xr,cr,rfl,l1,l2⟩:=cM h2;exact zBP
theorem lH {rs:List (List Int)} (h:uK w [.slice x k c] rs fp) {i:Nat} {l:List Int} (hi:rs[i]? =some l):∃g xr cr fr,x=some ⟨g,0,none⟩/\g<w.heap.size/\(∀b ∈ fr,b ∈ fp)/\uD w [.slice xr l.length cr] l fr/\l.length<=cr/\cr<=maxLen/\w.cell? ⟨g,i,none⟩=some (.slice xr l.length cr):=by
 obtain⟨_,at_⟩:=aT h;obtain⟨g,ci,fi,q,h1,h2,h3,h4,h5⟩:=at_ hi;obtain⟨vr,rfl⟩:∃vr,ci=[vr]:=by
  obtain⟨vr,e,_⟩:=mI h2;exact⟨vr,e⟩
 obtain⟨xr,cr,rfl,l1,l2⟩:=yI h2;exact zBP
end N
end Go.Proofs.YtcblbdpdbggkbaaGreat
namespace Go.Proofs.YtcblbdpdbggkbaaGreat
open _root_.Go.Proofs.Tryz
open Go.RowKit Go.Sort
section
variable {w w0 w':World} {B b:Nat} {l:List Ch} {t:TypeId}
theorem M.sum {V:SV} {s:Sm} (h:M B w0 w l) (hb:Below w.heap.size w w') (ho:bN w' w.heap.size w'.heap.size V s):M B w0 w' (bF.ch (cS V s) s::l):=by
 obtain⟨fp,h1,h2,h3⟩:=ho.rep;exact h.got bF hb ⟨h1,h2,fun b hb=>(h3 b hb).1⟩
end
namespace N
def TY:Ty:=⟨64,55,123,4,34⟩
def eQ (v:Value) (es:List En):Ch:=fL aP 64 10 v es
def aLG (cs:List Value) (x:Nd):Ch:=(aY (T:=TY)).ch cs x
def aLB (cs:List Value) (x:Wd):Ch:=(gQ (T:=TY)).ch cs x
def bE (v:Value) (xs:List Nd):Ch:=fL (aY (T:=TY)) 55 5 v xs
def bG (v:Value) (xs:List Wd):Ch:=fL (gQ (T:=TY)) 123 6 v xs
def bY (v:Value) (xs:List Bool):Ch:=fL (aG zV) 4 1 v xs
def uJ (v:Value) (xs:List Int):Ch:=cK.ch [v] xs
def rQ (v:Value) (xs:List (List Int)):Ch:=fL cK 23 1 v xs
def dN (v:Value) (xs:List (List (List Int))):Ch:=fL bS 34 1 v xs
theorem aC2:SlT prog 53 64 (.agg #[iv 0,iv 0,iv 0,zn,zn,zn,iv 0,iv 0,zn,iv 0]) 10 144:=⟨underlying53,by kernel_rfl,rfl,by decide⟩
theorem aLJ:SlT prog 25 55 (.agg #[iv 0,zn,iv 0,iv 0,iv 0]) 5 56:=⟨underlying25,by kernel_rfl,rfl,by decide⟩
theorem sC:SlT prog 27 123 (.agg #[iv 0,iv 0,iv 0,iv 0,iv 0,zn]) 6 64:=⟨underlying27,by kernel_rfl,rfl,by decide⟩
theorem aB3:SlT prog 26 4 (.bool false) 1 1:=⟨underlying26,by kernel_rfl,rfl,by decide⟩
theorem sJ:SlT prog 23 3 (iv 0) 1 8:=⟨underlying23,by kernel_rfl,rfl,by decide⟩
theorem rA:SlT prog 34 23 zn 1 24:=⟨underlying34,by kernel_rfl,rfl,by decide⟩
theorem aLH:SlT prog 28 34 zn 1 24:=⟨underlying28,by kernel_rfl,rfl,by decide⟩
section
variable {w w0 w':World} {B b:Nat} {l:List Ch}
theorem _root_.Go.Proofs.YtcblbdpdbggkbaaGreat.M.soft {α:Type} {enc:α->List Value} {e:TypeId} {size:Nat} {v:Value} {xs:List α} (h:M B w0 w (fL (aG enc) e size v xs::l)):M B w0 w ((tM (e:=e) (size:=size) (enc:=enc)).ch [v] xs::l):=
 h.to fun f hf nd=>⟨f,.inl hf,nd,fun _ hb=>hb⟩
theorem _root_.Go.Proofs.YtcblbdpdbggkbaaGreat.M.entry {V:SV} {s:Sm} (i born num:Int) (h:M B w0 w (bF.ch (cS V s) s::l)):M B w0 w (aP.ch [iv i,iv born,iv num,.slice V.xr V.nr V.cr,.slice V.xf V.nf V.cf,.slice V.xt V.nt V.ct,iv s.lo,iv s.al,.slice V.xk V.nk V.ck,iv s.ka] ⟨i,born,num,s⟩::l):=
 h.to fun f hf nd=>⟨f,jU.2 ⟨_,rfl,hf⟩,nd,fun _ h=>h⟩
theorem _root_.Go.Proofs.YtcblbdpdbggkbaaGreat.M.node {v:Value} {es:List En} (born beacon level up:Int) (h:M B w0 w (eQ v es::l)):M B w0 w (aLG [iv born,v,iv beacon,iv level,iv up] ⟨born,es,beacon,level,up⟩::l):=
 h.to fun f hf nd=>⟨f,tU.2 ⟨_,rfl,hf⟩,nd,fun _ h=>h⟩
theorem _root_.Go.Proofs.YtcblbdpdbggkbaaGreat.M.word {v:Value} {es:List En} (kind src dst beacon level:Int) (h:M B w0 w (eQ v es::l)):M B w0 w (aLB [iv kind,iv src,iv dst,iv beacon,iv level,v] ⟨kind,src,dst,beacon,level,es⟩::l):=
 h.to fun f hf nd=>⟨f,aBZ.2 ⟨_,rfl,hf⟩,nd,fun _ h=>h⟩
theorem _root_.Go.Proofs.YtcblbdpdbggkbaaGreat.M.net {v1 v2 v3 v4:Value} {ns:List Nd} {ls:List Bool} {ws:List Wd} {ps:List (List (List Int))} (h:M B w0 w (bE v1 ns::bY v2 ls::bG v3 ws::dN v4 ps::l)):∃fp,pI (aLq TY) B w [v1,v2,v3,v4] ⟨ns,ls,ws,ps⟩ fp:=by
 obtain⟨_,⟨f1,_,rfl,h1,⟨f2,_,rfl,h2,⟨f3,_,rfl,h3,⟨f4,f5,rfl,h4,_⟩⟩⟩⟩,nd,lo⟩:=h.own;have e:f1++(f2++(f3++(f4++f5)))=(f1++(f2++(f3++f4)))++f5:=by simp
 rw[e]at nd lo;exact⟨_,aEI.2 ⟨_,_,_,_,_,_,_,_,rfl,rfl,h1,h2,h3,h4⟩,(List.nodup_append.1 nd).1,fun b hb=>lo b (List.mem_append_left _ hb)⟩
end
end N
section
variable {α:Type} {A:Rep α} {e:TypeId} {size:Nat} {w w' w0:World} {B i:Nat} {l:List Ch} {xs:List α} {x:α} {v:Value} {ci:List Value}
def lB (FA:A.Frame) (e:TypeId) (size i:Nat) (v:Value) (xs:List α) (ci:List Value):Ch:=⟨fun w fp=>∃c f,w.ownsRow 0 e size v xs.length ((List.range xs.length).map c).flatten/\(∀j,j<xs.length->(c j).length=size)/\c i=ci/\f i=[]/\(∀j a,j≠i->xs[j]? =some a->A w (c j) a (f j))/\fp=fps v xs.length f,
  fun⟨c,f,ho,_,_,hf,ha,e1⟩ b hb=>(by
    rw[e1]at hb
    rcases jW hb with q|⟨j,hj,q⟩
    · exact (ho.lt b q).2
    · by_cases ji:j=i
      · rw[ji,hf]at q;cases q
      · exact FA.lt (ha j _ ji (List.getElem?_eq_getElem hj)) b q),
  fun⟨c,f,ho,hl,hc,hf,ha,e1⟩ hk hs=>⟨c,f,mW ho (fun g hg=>hk g (by rw[e1];exact lW hg)),hl,hc,hf,fun j a ji hj=>FA.keep (ha j a ji hj) (fun b hb=>hk b (by rw[e1];exact iK (List.getElem?_eq_some_iff.1 hj).1 hb)) hs,e1⟩⟩
theorem M.open (FA:A.Frame) (h:M B w0 w (fL FA e size v xs::l)) (hi:xs[i]? =some x):∃g cap ci,v=.slice (some ⟨g,0,none⟩) xs.length cap/\ci.length=size/\M B w0 w (FA.ch ci x::lB FA e size i v xs ci::l):=by
 have hlt:i<xs.length:=(List.getElem?_eq_some_iff.1 hi).1;obtain⟨f,hf,_⟩:=h.first;obtain⟨v',c,f,ev,E,_⟩:=gX hf;cases ev;obtain⟨g,cap,ev⟩:∃g cap,v=.slice (some ⟨g,0,none⟩) xs.length cap:=by
  rcases E.own.2 with ⟨_,h0⟩|⟨g,cap,cur,e1,_⟩
  ·omega
  ·exact⟨g,cap,e1⟩
 have key:∀F,(fL FA e size v xs).at_ w F->F.Nodup->∃F',((FA.ch (c i) x).sep (lB FA e size i v xs (c i))).at_ w F'/\F'.Nodup/\∀b ∈ F',b ∈ F:=fun F hF nd=>by
  obtain⟨v2,c2,f2,ev2,E2,rfl⟩:=gX hF;cases ev2;have ec:c2 i=c i:=by
   apply List.ext_getElem?;intro k
   by_cases hk:k<size
   ·have z1:(c i)[k]? =some ((c i)[k]'(by rw[E.len i hlt];exact hk)):=List.getElem?_eq_getElem _
    have z2:(c2 i)[k]? =some ((c2 i)[k]'(by rw[E2.len i hlt];exact hk)):=List.getElem?_eq_getElem _;obtain⟨g1,_,q1,_,_,_,_,r1⟩:=E.cell hlt z1;obtain⟨g2,_,q2,_,_,_,_,r2⟩:=E2.cell hlt z2;rw[q1]at q2;cases q2;rw[r1]at r2;rw[z1,z2,r2]
   ·rw[List.getElem?_eq_none (by rw[E2.len i hlt];omega),List.getElem?_eq_none (by rw[E.len i hlt];omega)]
  obtain⟨⟨n1,n2⟩,n3⟩:=fH.1 nd;have nh:(fps v xs.length (upd f2 i [])).Nodup:=oW nd hlt List.nodup_nil (fun b hb=>by cases hb);have sub:∀b ∈ fps v xs.length (upd f2 i []),b ∈ fps v xs.length f2/\b ∉ f2 i:=fun b hb=>by
   rcases jW hb with q|⟨j,hj,q⟩
   ·exact⟨lW q,n3 b q i hlt⟩
   ·by_cases ji:j=i
    ·rw[ji,bU]at q;cases q
    ·rw[aX _ _ ji]at q
     exact⟨iK hj q,fun q2=>n2 j i hj hlt ji b q q2⟩
  refine⟨f2 i++fps v xs.length (upd f2 i []),⟨_,_,rfl,by rw[<-ec];exact E2.one i x hi,c2,upd f2 i [],aU E2.own (Nat.zero_le _),E2.len,ec,bU _ _ _,fun j a ji hj=>by rw[aX _ _ ji];exact E2.one j a hj,rfl⟩,List.nodup_append.2 ⟨n1 i hlt,nh,fun a h1 b h2 e1=>(sub b h2).2 (by rw[<-e1];exact h1)⟩,fun b hb=>?_⟩;rcases List.mem_append.1 hb with q|q
  ·exact iK hlt q
  ·exact (sub b q).1
 exact⟨g,cap,c i,ev,E.len i hlt,(h.to key).two⟩
theorem M.close {FA:A.Frame} (h:M B w0 w (FA.ch ci x::lB FA e size i v xs ci::l)) (hi:i<xs.length):M B w0 w (fL FA e size v (xs.set i x)::l):=
 h.sep.to fun F hF nd=>by
  obtain⟨f1,_,rfl,hx,c,f,ho,hl,hc,hf,ha,rfl⟩:=hF;obtain⟨n1,n2,n3⟩:=List.nodup_append.1 nd;have ln:(xs.set i x).length=xs.length:=List.length_set;refine⟨fps v (xs.set i x).length (upd f i f1),Els.rep (B:=0) ⟨by rw[ln];exact ho,fun j hj=>hl j (by rw[<-ln];exact hj),fun j a hj=>?_⟩,?_,fun b hb=>?_⟩
  ·by_cases ji:j=i
   ·subst ji
    rw[bU];rw[List.getElem?_set_self hi]at hj;cases hj;rw[hc];exact hx
   ·rw[aX _ _ ji]
    rw[List.getElem?_set_ne (fun q=>ji q.symm)]at hj;exact ha j a ji hj
  ·rw[ln]
   refine oW n2 hi n1 fun b hb=>.inr fun q=>n3 b hb b q rfl
  ·rw[ln]at hb
   rcases mS hb with q|q
   ·exact List.mem_append_right _ q
   ·exact List.mem_append_left _ q
section
variable {g n cap j:Nat} {FA:A.Frame} {u:Value}
theorem M.hcell (h:M B w0 w (lB FA e size i (.slice (some ⟨g,0,none⟩) n cap) xs ci::l)) (hi:i<xs.length) (hj:ci[j]? =some u):w.cell? ⟨g,i * size+j,none⟩=some u:=by
 obtain⟨F,⟨c,f,ho,hl,hc,hf,ha,rfl⟩,_⟩:=h.first;have hk:j<size:=by have:=(List.getElem?_eq_some_iff.1 hj).1;rw[<-hc,hl i hi]at this;exact this
 have lt:i * size+j<xs.length * size:=by
  exact zBM
 have ho':w.ownsRow 0 e size (.slice (some ⟨g,0,none⟩) xs.length cap) xs.length ((List.range xs.length).map c).flatten:=by
  rcases ho.2 with ⟨q,_⟩|⟨_,_,_,q,_⟩
  ·cases q
  ·cases q;exact ho
 have:=World.ownsRow.cellAt ho' _ lt;rw[this,qT hl hi hk,hc,hj]
theorem M.hfree (h:M B w0 w (lB FA e size i (.slice (some ⟨g,0,none⟩) n cap) xs ci::l)) (k:Nat):w.frozen? ⟨g,k,none⟩=false:=by
 obtain⟨F,⟨c,f,ho,_⟩,_⟩:=h.first;rcases ho.2 with ⟨q,_⟩|⟨g',cap',cur,q,_,hg,_⟩
 ·cases q
 ·cases q;simp[World.frozen?,hg]
theorem M.hset (h:M B w0 w (lB FA e size i (.slice (some ⟨g,0,none⟩) n cap) xs ci::l)) (hi:i<xs.length) (hj:j<size) (u:Value):M B w0 (w.setCell ⟨g,i * size+j,none⟩ u) (lB FA e size i (.slice (some ⟨g,0,none⟩) n cap) xs (ci.set j u)::l):=
 h.turn fun F hF nd lo=>by
  obtain⟨c,f,ho,hl,hc,hf,ha,rfl⟩:=hF;obtain⟨⟨n1,n2⟩,n3⟩:=fH.1 nd;have ho':w.ownsRow 0 e size (.slice (some ⟨g,0,none⟩) xs.length cap) xs.length ((List.range xs.length).map c).flatten:=by
   rcases ho.2 with ⟨q,_⟩|⟨_,_,_,q,_⟩
   ·cases q
   ·cases q;exact ho
  have en:n=xs.length:=by
   rcases ho.2 with ⟨q,_⟩|⟨_,_,_,q,_⟩
   ·cases q
   ·cases q;rfl
  obtain⟨s1,s2⟩:=World.ownsRow.stored ho' (i * size+j) u;refine⟨dO.of_grown s2 (lW rfl),fps (.slice (some ⟨g,0,none⟩) n cap) xs.length f,⟨upd c i (ci.set j u),f,?_,fun k hk=>?_,bU _ _ _,hf,fun k a ki hk=>?_,rfl⟩,nd,fun b hb=>.inl hb⟩
  ·rw[<-hc, <-aEN hl hi hj,en];exact s1
  ·by_cases q:k=i
   ·rw[q,bU,List.length_set, <-hc];exact hl i hi
   ·rw[aX _ _ q];exact hl k hk
  ·rw[aX _ _ ki]
   have kl:=(List.getElem?_eq_some_iff.1 hk).1;exact FA.keep (ha k a ki hk) (fun b hb=>s2.block b (FA.lt (ha k a ki hk) b hb) fun q=>n3 b q.symm k kl hb) s2.size
theorem M.hcell1 {u:Value} (h:M B w0 w (lB FA e 1 i (.slice (some ⟨g,0,none⟩) n cap) xs [u]::l)) (hi:i<xs.length):w.cell? ⟨g,i,none⟩=some u:=by
 have:=h.hcell (j:=0) (u:=u) hi rfl;rwa[Nat.mul_one,Nat.add_zero]at this
theorem M.hset1 {u:Value} (h:M B w0 w (lB FA e 1 i (.slice (some ⟨g,0,none⟩) n cap) xs [u]::l)) (hi:i<xs.length) (y:Value):M B w0 (w.setCell ⟨g,i,none⟩ y) (lB FA e 1 i (.slice (some ⟨g,0,none⟩) n cap) xs [y]::l):=by
 have:=h.hset hi (j:=0) o_ y;rwa[Nat.mul_one,Nat.add_zero]at this
end
end
section
variable {α:Type} {A:Rep α} {e:TypeId} {size:Nat} {w w' w0:World} {B k:Nat} {l:List Ch} {xs:List α} {x:α} {v:Value} {c:Nat->List Value}
def aAL (FA:A.Frame) (e:TypeId) (size k:Nat) (v:Value) (xs:List α) (c:Nat->List Value):Ch:=⟨fun w fp=>∃f,w.ownsRow 0 e size v xs.length ((List.range xs.length).map c).flatten/\(∀j,j<xs.length->(c j).length=size)/\(∀j,j<k->f j=[])/\(∀j a,k<=j->xs[j]? =some a->A w (c j) a (f j))/\fp=fps v xs.length f,
  fun⟨f,ho,_,hf,ha,e1⟩ b hb=>(by
    rw[e1]at hb
    rcases jW hb with q|⟨j,hj,q⟩
    · exact (ho.lt b q).2
    · by_cases jk:j<k
      · rw[hf j jk]at q;cases q
      · exact FA.lt (ha j _ o_ (List.getElem?_eq_getElem hj)) b q),
  fun⟨f,ho,hl,hf,ha,e1⟩ hk hs=>⟨f,mW ho (fun g hg=>hk g (by rw[e1];exact lW hg)),hl,hf,fun j a jk hj=>FA.keep (ha j a jk hj) (fun b hb=>hk b (by rw[e1];exact iK (List.getElem?_eq_some_iff.1 hj).1 hb)) hs,e1⟩⟩
theorem M.loose (FA:A.Frame) (h:M B w0 w (fL FA e size v xs::l)):∃c,M B w0 w (aAL FA e size 0 v xs c::l):=by
 obtain⟨_,⟨f,g,rfl,hf,hg⟩,nd,lo⟩:=h.own;obtain⟨v',c,ff,ev,E,rfl⟩:=gX hf;cases ev;exact⟨c,h.below,h.low,_,⟨_,g,rfl,⟨ff,E.own,E.len,fun j hj=>absurd hj (Nat.not_lt_zero j),fun j a _ hj=>E.one j a hj,rfl⟩,hg⟩,nd,lo⟩
theorem M.pull {FA:A.Frame} (h:M B w0 w (aAL FA e size k v xs c::l)) (hk:xs[k]? =some x):M B w0 w (FA.ch (c k) x::aAL FA e size (k+1) v xs c::l):=by
 refine M.two (h.to fun F hF nd=>?_);obtain⟨f,ho,hl,hf,ha,rfl⟩:=hF;have hlt:=(List.getElem?_eq_some_iff.1 hk).1;obtain⟨⟨n1,n2⟩,n3⟩:=fH.1 nd;have nh:(fps v xs.length (upd f k [])).Nodup:=oW nd hlt List.nodup_nil (fun b hb=>by cases hb);have sub:∀b ∈ fps v xs.length (upd f k []),b ∈ fps v xs.length f/\b ∉ f k:=fun b hb=>by
  rcases jW hb with q|⟨j,hj,q⟩
  ·exact⟨lW q,n3 b q k hlt⟩
  ·by_cases ji:j=k
   ·rw[ji,bU]at q;cases q
   ·rw[aX _ _ ji]at q
    exact⟨iK hj q,fun q2=>n2 j k hj hlt ji b q q2⟩
 refine⟨f k++fps v xs.length (upd f k []),⟨_,_,rfl,ha k x lr_ hk,upd f k [],ho,hl,fun j hj=>?_,fun j a kj hj=>?_,rfl⟩,List.nodup_append.2 ⟨n1 k hlt,nh,fun a h1 b h2 e1=>(sub b h2).2 (by rw[<-e1];exact h1)⟩,fun b hb=>?_⟩
 ·by_cases q:j=k
  ·rw[q,bU]
  ·rw[aX _ _ q];exact hf j o_
 ·rw[aX _ _ o_];exact ha j a o_ hj
 ·rcases List.mem_append.1 hb with q|q
  ·exact iK hlt q
  ·exact (sub b q).1
theorem M.lrow {FA:A.Frame} (h:M B w0 w (aAL FA e size k v xs c::l)) {j:Nat} (hj:j<xs.length):∃g cap,v=.slice (some ⟨g,0,none⟩) xs.length cap/\xs.length<=cap/\cap<=maxLen/\(c j).length=size/\∀i u,(c j)[i]? =some u->w.cell? ⟨g,j * size+i,none⟩=some u:=by
 obtain⟨F,⟨f,ho,hl,_,_,rfl⟩,_⟩:=h.first;rcases ho.2 with ⟨rfl,h0⟩|⟨g,cap,cur,rfl,hb,hg,hn,hc,hs,ht⟩
 ·omega
 ·refine⟨g,cap,rfl,hn,hc,hl j hj,fun i u hu=>?_⟩
  have hk:i<size:=by have:=(List.getElem?_eq_some_iff.1 hu).1;rwa[hl j hj]at this
  have lt:j * size+i<xs.length * size:=by
   have:j * size+size<=xs.length * size:=by rw[<-Nat.succ_mul];exact Nat.mul_le_mul_right _ hj
   omega
  rw[World.ownsRow.cellAt ho _ lt,qT hl hj hk,hu]
theorem M.plus {d:Ch} {l':List Ch} (h:M B w0 w l) (k:M w.heap.size w w' (d::l')):M B w0 w' (d::l):=by
 obtain⟨f,hf,nd,lo⟩:=k.first;exact h.add k.below hf nd lo
theorem M.form {FA:A.Frame} (h:M B w0 w (fL FA e size v xs::l)):∃x c,v=.slice x xs.length c/\xs.length<=c/\c<=maxLen:=by
 obtain⟨f,hf,_⟩:=h.first;obtain⟨x,c,e1,h1,h2⟩:=cM hf;exact⟨x,c,e1,h1,h2⟩
end
namespace N
variable {w w' w0:World} {B k:Nat} {l:List Ch} {v:Value} {es:List En} {x:En} {c:Nat->List Value}
def aHi (V:SV) (e:En):Ch:=aP.ch [iv e.node,iv e.born,iv e.num,.slice V.xr V.nr V.cr,.slice V.xf V.nf V.cf,.slice V.xt V.nt V.ct,.int .i64 (e.s).lo,.int .i64 (e.s).al,.slice V.xk V.nk V.ck,.int .i64 (e.s).ka] e
def nY (k:Nat) (v:Value) (es:List En) (c:Nat->List Value):Ch:=aAL aP 64 10 k v es c
theorem _root_.Go.Proofs.YtcblbdpdbggkbaaGreat.M.pullE (h:M B w0 w (nY k v es c::l)) (hk:es[k]? =some x):∃g cap V,v=.slice (some ⟨g,0,none⟩) es.length cap/\M B w0 w (aHi V x::nY (k+1) v es c::l)/\
  w.cell? ⟨g,k * 10,none⟩=some (.int .i64 x.node)/\w.cell? ⟨g,k * 10+1,none⟩=some (.int .i64 x.born)/\w.cell? ⟨g,k * 10+2,none⟩=some (.int .i64 x.num)/\w.cell? ⟨g,k * 10+3,none⟩=some (.slice V.xr V.nr V.cr)/\w.cell? ⟨g,k * 10+4,none⟩=some (.slice V.xf V.nf V.cf)/\w.cell? ⟨g,k * 10+5,none⟩=some (.slice V.xt V.nt V.ct)/\w.cell? ⟨g,k * 10+6,none⟩=some (.int .i64 x.s.lo)/\w.cell? ⟨g,k * 10+7,none⟩=some (.int .i64 x.s.al)/\w.cell? ⟨g,k * 10+8,none⟩=some (.slice V.xk V.nk V.ck)/\w.cell? ⟨g,k * 10+9,none⟩=some (.int .i64 x.s.ka):=by
 obtain⟨g,cap,ev,_,_,hl,hc⟩:=M.lrow h (List.getElem?_eq_some_iff.1 hk).1;have h1:=M.pull h hk;obtain⟨f,hf,_⟩:=h1.first;obtain⟨cs,ec,hs⟩:=jU.1 hf;obtain⟨V,_,_,_,_,rfl,_⟩:=hs;rw[ec]at hc h1;exact⟨g,cap,V,ev,h1,hc 0 _ rfl,hc 1 _ rfl,hc 2 _ rfl,hc 3 _ rfl,hc 4 _ rfl,hc 5 _ rfl,hc 6 _ rfl,hc 7 _ rfl,hc 8 _ rfl,hc 9 _ rfl⟩
theorem _root_.Go.Proofs.YtcblbdpdbggkbaaGreat.M.peekE (h:M B w0 w (nY k v es c::l)) {j:Nat} (kj:k<=j) (hk:es[j]? =some x):∃g cap,v=.slice (some ⟨g,0,none⟩) es.length cap/\w.cell? ⟨g,j * 10,none⟩=some (.int .i64 x.node)/\w.cell? ⟨g,j * 10+1,none⟩=some (.int .i64 x.born)/\w.cell? ⟨g,j * 10+2,none⟩=some (.int .i64 x.num):=by
 obtain⟨g,cap,ev,_,_,hl,hc⟩:=M.lrow h (List.getElem?_eq_some_iff.1 hk).1;obtain⟨_,⟨f,_,_,_,ha,_⟩,_⟩:=h.first;obtain⟨cs,ec,hs⟩:=jU.1 (ha j x kj hk);rw[ec]at hc;exact⟨g,cap,ev,hc 0 _ rfl,hc 1 _ rfl,hc 2 _ rfl⟩
end N
theorem aDq {a b:Bool} {P:Prop} (h0:a=false->P) (h1:a=true->b=false->P) (h2:a=true->b=true->P):P:=by
 cases a
 case false=>exact h0 rfl
 cases b
 case false=>exact h1 rfl rfl
 exact h2 rfl rfl
theorem aJA {a b c:Bool} {P:Prop} (h0:a=false->P) (h1:a=true->b=false->P) (h2:a=true->b=true->c=false->P) (h3:a=true->b=true->c=true->P):P:=by
 cases a
 case false=>exact h0 rfl
 cases b
 case false=>exact h1 rfl rfl
 cases c
 case false=>exact h2 rfl rfl rfl
 exact h3 rfl rfl rfl
theorem aIn {a b c d:Bool} {P:Prop} (h0:a=false->P) (h1:a=true->b=false->P) (h2:a=true->b=true->c=false->P) (h3:a=true->b=true->c=true->d=false->P) (h4:a=true->b=true->c=true->d=true->P):P:=by
 cases a
 case false=>exact h0 rfl
 cases b
 case false=>exact h1 rfl rfl
 cases c
 case false=>exact h2 rfl rfl rfl
 cases d
 case false=>exact h3 rfl rfl rfl rfl
 exact h4 rfl rfl rfl rfl
theorem aFX {a b c d e:Bool} {P:Prop} (h0:a=false->P) (h1:a=true->b=false->P) (h2:a=true->b=true->c=false->P) (h3:a=true->b=true->c=true->d=false->P) (h4:a=true->b=true->c=true->d=true->e=false->P) (h5:a=true->b=true->c=true->d=true->e=true->P):P:=by
 cases a
 case false=>exact h0 rfl
 cases b
 case false=>exact h1 rfl rfl
 cases c
 case false=>exact h2 rfl rfl rfl
 cases d
 case false=>exact h3 rfl rfl rfl rfl
 cases e
 case false=>exact h4 rfl rfl rfl rfl rfl
 exact h5 rfl rfl rfl rfl rfl
theorem aLm (P Q:Prop) [Decidable P] [Decidable Q]:decide (P↔Q)=(decide P==decide Q):=by by_cases p:P<;>by_cases q:Q<;>simp[p,q]
def aH (w:World):List (Addr × Value)->Prop
 | []=>True
 |x::l=>w.cell? x.1=some x.2/\aH w l
theorem aH.below {W w':World}:∀{l:List (Addr × Value)},aH W l->Below W.heap.size W w'->aH w' l
 | [],_,_=>trivial
 |_::_,h,hb=>⟨(hb.cell (World.block_lt_of_cell? _ _ h.1)).trans h.1,aH.below h.2 hb⟩
theorem tJ {w:World} {a b:List (Addr × Value)}:aH w (a++b)↔aH w a/\aH w b:=by
 induction a with
 |nil=>simp[aH]
 |cons x l ih=>simp[aH,ih,and_assoc]
def b4L (p:Nat) (v0 v1 v2 v3:Value):List (Addr × Value):=[(⟨p,0,none⟩,v0),(⟨p,1,none⟩,v1),(⟨p,2,none⟩,v2),(⟨p,3,none⟩,v3)]
def b5L (p:Nat) (v0 v1 v2 v3 v4:Value):List (Addr × Value):=[(⟨p,0,none⟩,v0),(⟨p,1,none⟩,v1),(⟨p,2,none⟩,v2),(⟨p,3,none⟩,v3),(⟨p,4,none⟩,v4)]
def b6L (p:Nat) (v0 v1 v2 v3 v4 v5:Value):List (Addr × Value):=[(⟨p,0,none⟩,v0),(⟨p,1,none⟩,v1),(⟨p,2,none⟩,v2),(⟨p,3,none⟩,v3),(⟨p,4,none⟩,v4),(⟨p,5,none⟩,v5)]
def b7L (p:Nat) (V:SV) (s:Sm):List (Addr × Value):=[(⟨p,0,none⟩,.slice V.xr V.nr V.cr),(⟨p,1,none⟩,.slice V.xf V.nf V.cf),(⟨p,2,none⟩,.slice V.xt V.nt V.ct),(⟨p,3,none⟩,.int .i64 s.lo),(⟨p,4,none⟩,.int .i64 s.al),(⟨p,5,none⟩,.slice V.xk V.nk V.ck),(⟨p,6,none⟩,.int .i64 s.ka)]
def jJ (p:Nat) (i b n:Int) (V:SV) (s:Sm):List (Addr × Value):=[(⟨p,0,none⟩,.int .i64 i),(⟨p,1,none⟩,.int .i64 b),(⟨p,2,none⟩,.int .i64 n),(⟨p,3,none⟩,.slice V.xr V.nr V.cr),(⟨p,4,none⟩,.slice V.xf V.nf V.cf),(⟨p,5,none⟩,.slice V.xt V.nt V.ct),(⟨p,6,none⟩,.int .i64 s.lo),(⟨p,7,none⟩,.int .i64 s.al),(⟨p,8,none⟩,.slice V.xk V.nk V.ck),(⟨p,9,none⟩,.int .i64 s.ka)]
namespace N
def uB (g j:Nat) (V:SV) (e:En):List (Addr × Value):=[(⟨g,j * 10,none⟩,.int .i64 e.node),(⟨g,j * 10+1,none⟩,.int .i64 e.born),(⟨g,j * 10+2,none⟩,.int .i64 e.num),(⟨g,j * 10+3,none⟩,.slice V.xr V.nr V.cr),(⟨g,j * 10+4,none⟩,.slice V.xf V.nf V.cf),(⟨g,j * 10+5,none⟩,.slice V.xt V.nt V.ct),(⟨g,j * 10+6,none⟩,.int .i64 e.s.lo),(⟨g,j * 10+7,none⟩,.int .i64 e.s.al),(⟨g,j * 10+8,none⟩,.slice V.xk V.nk V.ck),(⟨g,j * 10+9,none⟩,.int .i64 e.s.ka)]
structure V4 where
 a:Value
 b:Value
 c:Value
 d:Value
def cU (p:Nat) (n:Nt):Ch:=Ch.ex fun u:V4=>(aL p 289 #[u.a,u.b,u.c,u.d]).sep ((bE u.a n.nodes).sep ((bY u.b n.links).sep ((bG u.c n.words).sep (dN u.d n.past))))
section
variable {w w0:World} {B p:Nat} {l:List Ch} {n:Nt} {v1 v2 v3 v4:Value}
theorem _root_.Go.Proofs.YtcblbdpdbggkbaaGreat.M.unlive {ns:List Nd} {ls:List Bool} {ws:List Wd} {ps:List (List (List Int))} (h:M B w0 w (aL p 289 #[v1,v2,v3,v4]::bE v1 ns::bY v2 ls::bG v3 ws::dN v4 ps::l)):M B w0 w (cU p ⟨ns,ls,ws,ps⟩::l):=
 M.in (c:=fun u:V4=>(aL p 289 #[u.a,u.b,u.c,u.d]).sep ((bE u.a ns).sep ((bY u.b ls).sep ((bG u.c ws).sep (dN u.d ps))))) ⟨v1,v2,v3,v4⟩ (h.p4.p4.sep.p3.sep.p2.sep.p1.sep)
theorem _root_.Go.Proofs.YtcblbdpdbggkbaaGreat.M.live (h:M B w0 w (cU p n::l)):∃x1 c1 x2 c2 x3 c3 x4 c4,M B w0 w (aL p 289 #[.slice x1 n.nodes.length c1,.slice x2 n.links.length c2,.slice x3 n.words.length c3,.slice x4 n.past.length c4]::bE (.slice x1 n.nodes.length c1) n.nodes::bY (.slice x2 n.links.length c2) n.links::bG (.slice x3 n.words.length c3) n.words::dN (.slice x4 n.past.length c4) n.past::l):=by
 obtain⟨⟨v1,v2,v3,v4⟩,h⟩:=h.ex;have h:=h.two.p1.two.p1.two.p1.two.p2.p3.p4;obtain⟨x1,c1,rfl,_⟩:=M.form h.p1;obtain⟨x2,c2,rfl,_⟩:=M.form h.p2;obtain⟨x3,c3,rfl,_⟩:=M.form h.p3;obtain⟨x4,c4,rfl,_⟩:=M.form h.p4;exact⟨x1,c1,x2,c2,x3,c3,x4,c4,h⟩
end
end N
theorem dP.form {w:World} {B:Nat} {u:Value} {rs:List (List Int)} {G C:Nat->Nat} (h:dP w B u rs G C):∃x c,u=.slice x rs.length c:=by
 rcases h.hdr.2 with ⟨rfl,h0⟩|⟨g,cap,cur,rfl,_⟩
 ·exact⟨none,0,by rw[h0]⟩
 ·exact⟨_,_,rfl⟩
theorem cE.form' {w:World} {B:Nat} {u:Value} {zs:List Int} (h:cE w B u zs):∃x c,u=.slice x zs.length c:=by
 exact zAM
theorem T.aJ.form' {w:World} {B:Nat} {u:Value} {zs:List T.Pr} (h:T.aJ w B u zs):∃x c,u=.slice x zs.length c:=by
 exact zAM
theorem K.aJ.form' {w:World} {B:Nat} {u:Value} {zs:List K.Pr} (h:K.aJ w B u zs):∃x c,u=.slice x zs.length c:=by
 exact zAM
theorem bN.rows {w:World} {B:Nat} {x:Option Addr} {n c:Nat} {rs:List (List Int)} {G C:Nat->Nat} (h:dP w B (.slice x n c) rs G C) (hB:B<=w.heap.size):bN w B w.heap.size ⟨x,n,c,Option.none,0,0,Option.none,0,0,Option.none,0,0⟩ ⟨rs,[],[],0,0,[],0⟩:=
 ⟨⟨w.heap.size,hB,Nat.le_refl _,h.bounds,World.ownsRow_nil _ _ _ _⟩,World.ownsRow_nil _ _ _ _,World.ownsRow_nil _ _ _ _,fun _ e=>(by cases e),fun _ e=>(by cases e),fun _ e=>(by cases e),Nat.le_refl _⟩
section
variable {w:World} {B U b:Nat} {x0 x1 x2 x3 x4 x5 x6:Value}
theorem dV.box7 {v:Value} {rs:List (List Int)} (h:dV w B U v rs) (X:aR w b 46 x0 x1 x2 x3 x4 x5 x6) (y0 y1 y2 y3 y4 y5 y6:Value):dV (set7 w b y0 y1 y2 y3 y4 y5 y6) B U v rs:=by
 obtain⟨G,C,ho,q1,q2,q3⟩:=h;have hk:dO (fun k=>k=b) w (set7 w b y0 y1 y2 y3 y4 y5 y6):=dO.of_grown (dI w b y0 y1 y2 y3 y4 y5 y6) rfl;exact⟨G,C,⟨cV ho.hdr hk fun k e1 e2=>X.not_row dc_ ho.hdr (by rw[e1,e2]),fun i hi=>cV (ho.row i hi) hk fun k e1 e2=>X.not_row dc_ (ho.row i hi) (by rw[e1,e2]),ho.off,ho.apart⟩,q1,q2,by rw[cT];exact q3⟩
theorem cE.box7 {v:Value} {zs:List Int} (h:cE w B v zs) (X:aR w b 46 x0 x1 x2 x3 x4 x5 x6) (y0 y1 y2 y3 y4 y5 y6:Value):cE (set7 w b y0 y1 y2 y3 y4 y5 y6) B v zs:=h.keep (dI w b y0 y1 y2 y3 y4 y5 y6) (X.not_row dc_ h)
theorem T.aJ.box7 {v:Value} {zs:List T.Pr} (h:T.aJ w B v zs) (X:aR w b 46 x0 x1 x2 x3 x4 x5 x6) (y0 y1 y2 y3 y4 y5 y6:Value):T.aJ (set7 w b y0 y1 y2 y3 y4 y5 y6) B v zs:=h.keep (dI w b y0 y1 y2 y3 y4 y5 y6) (X.not_row dc_ h)
theorem K.aJ.box7 {v:Value} {zs:List K.Pr} (h:K.aJ w B v zs) (X:aR w b 46 x0 x1 x2 x3 x4 x5 x6) (y0 y1 y2 y3 y4 y5 y6:Value):K.aJ (set7 w b y0 y1 y2 y3 y4 y5 y6) B v zs:=h.keep (dI w b y0 y1 y2 y3 y4 y5 y6) (X.not_row dc_ h)
theorem dV.cell7 {v:Value} {rs:List (List Int)} (h:dV w B U v rs) (X:aR w b 46 x0 x1 x2 x3 x4 x5 x6) (i:Nat) (y:Value):dV (w.setCell ⟨b,i,none⟩ y) B U v rs:=by
 obtain⟨G,C,ho,q1,q2,q3⟩:=h;have hk:dO (fun k=>k=b) w (w.setCell ⟨b,i,none⟩ y):=dO.of_grown (aF w ⟨b,i,none⟩ y) rfl;exact⟨G,C,⟨cV ho.hdr hk fun k e1 e2=>X.not_row dc_ ho.hdr (by rw[e1,e2]),fun i hi=>cV (ho.row i hi) hk fun k e1 e2=>X.not_row dc_ (ho.row i hi) (by rw[e1,e2]),ho.off,ho.apart⟩,q1,q2,by simpa using q3⟩
theorem cE.cell7 {v:Value} {zs:List Int} (h:cE w B v zs) (X:aR w b 46 x0 x1 x2 x3 x4 x5 x6) (i:Nat) (y:Value):cE (w.setCell ⟨b,i,none⟩ y) B v zs:=h.keep (aF w ⟨b,i,none⟩ y) (X.not_row dc_ h)
theorem T.aJ.cell7 {v:Value} {zs:List T.Pr} (h:T.aJ w B v zs) (X:aR w b 46 x0 x1 x2 x3 x4 x5 x6) (i:Nat) (y:Value):T.aJ (w.setCell ⟨b,i,none⟩ y) B v zs:=h.keep (aF w ⟨b,i,none⟩ y) (X.not_row dc_ h)
theorem K.aJ.cell7 {v:Value} {zs:List K.Pr} (h:K.aJ w B v zs) (X:aR w b 46 x0 x1 x2 x3 x4 x5 x6) (i:Nat) (y:Value):K.aJ (w.setCell ⟨b,i,none⟩ y) B v zs:=h.keep (aF w ⟨b,i,none⟩ y) (X.not_row dc_ h)
end
theorem bN.box7 {w:World} {B U b:Nat} {V:SV} {s:Sm} {x0 x1 x2 x3 x4 x5 x6:Value} (h:bN w B U V s) (X:aR w b 46 x0 x1 x2 x3 x4 x5 x6) (y0 y1 y2 y3 y4 y5 y6:Value):bN (set7 w b y0 y1 y2 y3 y4 y5 y6) B U V s:=by
 obtain⟨M,h1,h2,hr,hf⟩:=h.mid;have hg:=dI w b y0 y1 y2 y3 y4 y5 y6;have hk:dO (fun k=>k=b) w (set7 w b y0 y1 y2 y3 y4 y5 y6):=dO.of_grown hg rfl;have e:=cT w b y0 y1 y2 y3 y4 y5 y6;refine⟨⟨M,h1,h2,?_,?_⟩,?_,?_,h.ft,h.tt,h.kt,by rw[e];exact h.top⟩
 ·obtain⟨G,C,ho,q1,q2,q3⟩:=hr
  exact⟨G,C,⟨cV ho.hdr hk fun k e1 e2=>X.not_row dc_ ho.hdr (by rw[e1,e2]),fun i hi=>cV (ho.row i hi) hk fun k e1 e2=>X.not_row dc_ (ho.row i hi) (by rw[e1,e2]),ho.off,ho.apart⟩,q1,q2,by rw[e];exact q3⟩
 ·exact hf.keep hg (X.not_row dc_ hf)
 ·exact h.t.keep hg (X.not_row dc_ h.t)
 ·exact h.k.keep hg (X.not_row dc_ h.k)
theorem bN.make {W:World} {B B1 M B2 B3 B4:Nat} {V:SV} {s:Sm} (hr:dV W B1 M V.r s.rs) (hf:cE W B2 V.f s.zs) (ht:T.aJ W B3 V.t s.ps) (hk:K.aJ W B4 V.k s.ks) (h1:B<=B1) (hM:B<=M) (h2:M<=B2) (h3:B<=B3) (h4:B<=B4):bN W B W.heap.size V s:=
 ⟨⟨M,hM,hr.top,hr.base h1,aU hf h2⟩,aU ht h3,aU hk h4,fun _ e=>(World.ownsRow.lt hf _ e).2,fun _ e=>(World.ownsRow.lt ht _ e).2,fun _ e=>(World.ownsRow.lt hk _ e).2,Nat.le_refl _⟩
theorem aHP {ra rb:List (List Int)} (h:kZ ra rb=true):rP ra rb=gO ra rb:=by unfold rP;rw[h];rfl
structure Got (w wx:World) (P:Nat) (V:SV) (s:Sm):Prop where
 below:Below w.heap.size w wx
 own:bN wx w.heap.size wx.heap.size V s
 box:aLa wx P V s
 lo:w.heap.size<=P
theorem Got.last {w wx:World} {B:Nat} {V:SV} {s:Sm} (hb:Below w.heap.size w wx) (ho:bN wx B wx.heap.size V s) (hB:w.heap.size<=B):Got w (wx.alloc (.cells (cS V s) 46)) wx.heap.size V s:=
 ⟨hb.alloc hb.size _,(ho.alloc _).base hB (by simp) lr_,aR.new _ _ _ _ _ _ _ _ _,hb.size⟩
theorem Got.stored {w wx:World} {B P:Nat} {V:SV} {s:Sm} {x0 x1 x2 x3 x4 x5 x6:Value} (hb:Below w.heap.size w wx) (ho:bN wx B wx.heap.size V s) (hB:w.heap.size<=B) (X:aR wx P 46 x0 x1 x2 x3 x4 x5 x6) (hP:w.heap.size<=P):
  Got w (set7 wx P (.slice V.xr V.nr V.cr) (.slice V.xf V.nf V.cf) (.slice V.xt V.nt V.ct) (iv s.lo) (iv s.al) (.slice V.xk V.nk V.ck) (iv s.ka)) P V s:=
 ⟨bB hb hP _ _ _ _ _ _ _,(ho.box7 X _ _ _ _ _ _ _).base hB (by rw[cT];exact Nat.le_refl _) lr_,X.set _ _ _ _ _ _ _,hP⟩
theorem aEu (w:World):
  Calls prog 77 #[] w fun e w'=>∃V,e=.returned (vS V dK)/\bN w' w.heap.size w'.heap.size V dK/\Below w.heap.size w w':=by
 have hA:=(Below.refl w.heap.size w).alloc lr_ (.cells #[zn,zn,zn,iv 0,iv 0,zn,iv 0] 46);have X0:=aR.new w 46 zn zn zn (iv 0) (iv 0) zn (iv 0);have HA:=hd_ hA;have S0:Hid ((w.alloc (.cells #[zn,zn,zn,iv 0,iv 0,zn,iv 0] 46)).heap.size=w.heap.size+1):=by show _=_;simp
 clear hA;go_enter func77,ntmps77
 go_wp2_with fail
 refine (aAv _).mono ?_;rintro e w1 ⟨u,G,C,rfl,ho,hb⟩;obtain⟨x,c,rfl⟩:=ho.form;have X1:=X0.later hb;have HB:=hd_ (HA.out.trans (hb.mono HA.out.size));have hs:=S0.out;rw[hs]at ho;have HS:=bN.box7 (bN.rows ho (by have:=hb.size;omega)) X1 (.slice x 3 c) zn zn (iv 0) (iv 0) zn (iv 0);have Y:=X1.set (.slice x 3 c) zn zn (iv 0) (iv 0) zn (iv 0)
 have HW:=bB HB.out lr_ (.slice x 3 c) zn zn (iv 0) (iv 0) zn (iv 0);have e:=cT w1 w.heap.size (.slice x 3 c) zn zn (iv 0) (iv 0) zn (iv 0);obtain⟨W,hW⟩:=nm_ (set7 w1 w.heap.size (.slice x 3 c) zn zn (iv 0) (iv 0) zn (iv 0));rw[<-hW]at HS Y HW e;have fin:=hd_ (And.intro (HS.base (B':=w.heap.size) o_ (Nat.le_of_eq e.symm) lr_) HW);have YY:=hd_ Y;have f:=X1.free
 obtain⟨c0,c1,c2,c3,c4,c5,c6⟩:=X1.cells;unfold set7 at hW;have HH:=hd_ hW;clear ho hb hs S0 HS HW Y e hW;go_wp2;show bodyPost _ _ _ _ _ (((((((w1.setCell _ (.slice x 3 c)).setCell _ _).setCell _ _).setCell _ _).setCell _ _).setCell _ _).setCell _ _)
 rw[<-HH.out];obtain⟨d0,d1,d2,d3,d4,d5,d6⟩:=YY.out.cells;refine bodyPost_ret (v:=.agg #[.slice x 3 c,zn,zn,iv 0,iv 0,zn,iv 0]) (by simp[results,results77,go_sem,d0,d1,d2,d3,d4,d5,d6]) rfl ?_;exact⟨_,rfl,fin.out⟩
theorem zH (w:World):
  Calls prog 99 #[] w fun e w'=>∃V,e=.returned (vS V dK)/\bN w' w.heap.size w'.heap.size V dK/\Below w.heap.size w w':=by
 have hA:=(Below.refl w.heap.size w).alloc lr_ (.cells #[zn,zn,zn,iv 0,iv 0,zn,iv 0] 46);have X0:=aR.new w 46 zn zn zn (iv 0) (iv 0) zn (iv 0);have HA:=hd_ hA;have S0:Hid ((w.alloc (.cells #[zn,zn,zn,iv 0,iv 0,zn,iv 0] 46)).heap.size=w.heap.size+1):=by show _=_;simp
 clear hA;go_enter func99,ntmps99
 go_wp2_with fail
 refine (aKg _).mono ?_;rintro e w1 ⟨u,G,C,rfl,ho,hb⟩;obtain⟨x,c,rfl⟩:=ho.form;have X1:=X0.later hb;have HB:=hd_ (HA.out.trans (hb.mono HA.out.size));have hs:=S0.out;rw[hs]at ho;have HS:=bN.box7 (bN.rows ho (by have:=hb.size;omega)) X1 (.slice x 3 c) zn zn (iv 0) (iv 0) zn (iv 0);have Y:=X1.set (.slice x 3 c) zn zn (iv 0) (iv 0) zn (iv 0)
 have HW:=bB HB.out lr_ (.slice x 3 c) zn zn (iv 0) (iv 0) zn (iv 0);have e:=cT w1 w.heap.size (.slice x 3 c) zn zn (iv 0) (iv 0) zn (iv 0);obtain⟨W,hW⟩:=nm_ (set7 w1 w.heap.size (.slice x 3 c) zn zn (iv 0) (iv 0) zn (iv 0));rw[<-hW]at HS Y HW e;have fin:=hd_ (And.intro (HS.base (B':=w.heap.size) o_ (Nat.le_of_eq e.symm) lr_) HW);have YY:=hd_ Y;have f:=X1.free
 obtain⟨c0,c1,c2,c3,c4,c5,c6⟩:=X1.cells;unfold set7 at hW;have HH:=hd_ hW;clear ho hb hs S0 HS HW Y e hW;go_wp2;show bodyPost _ _ _ _ _ (((((((w1.setCell _ (.slice x 3 c)).setCell _ _).setCell _ _).setCell _ _).setCell _ _).setCell _ _).setCell _ _)
 rw[<-HH.out];obtain⟨d0,d1,d2,d3,d4,d5,d6⟩:=YY.out.cells;refine bodyPost_ret (v:=.agg #[.slice x 3 c,zn,zn,iv 0,iv 0,zn,iv 0]) (by simp[results,results99,go_sem,d0,d1,d2,d3,d4,d5,d6]) rfl ?_;exact⟨_,rfl,fin.out⟩
end Go.Proofs.YtcblbdpdbggkbaaGreat
namespace Go.Proofs.YtcblbdpdbggkbaaGreat
open _root_.Go.Proofs.Tryz
open Go.RowKit Go.Sort
namespace N
theorem aIl (w:World) (a b:Int) (h:0<=a/\a<=4/\0<=b/\b<=4):Calls prog 67 #[iv a,iv b] w fun e w'=>e=.returned (iv (a * 5+b))/\w=w':=by
 obtain⟨h0,h1,h2,h3⟩:=h;go_enter func67,ntmps67;exact zAb
theorem jQ (w:World) {a b:Int} (h:0<=a/\a<=4/\0<=b/\b<=4) {q:Nat} (hq:a * 5+b=q):Calls prog 67 #[iv a,iv b] w fun e w'=>e=.returned (iv (q:Int))/\w=w':=by
 rw[<-hq];exact aIl w a b h
theorem aCE {B:Nat} {w0 w:World} {l:List Ch} (h:M B w0 w l) (i born:Int):Calls prog 68 #[iv i,iv born] w fun e w'=>∃v,e=.returned (.agg #[iv born,v,iv 0,iv (if i=0 then 0 else 5),iv (-1)])/\M B w0 w' (eQ v [⟨i,born,0,dK⟩]::l):=by
 have h1:=hd_ (h.alloc #[iv 0,zn,iv 0,iv 0,iv 0] 55);clear h;rcases Decidable.em (i=0)with rfl|hi
 all_goals
  go_enter func68,ntmps68
  go_wp2_with fail
  refine (zH _).mono ?_;rintro e w1 ⟨V,rfl,ho,hb⟩;have h2:=h1.out.sum hb ho;clear ho hb h1
 ·have h3:=h2.alloc #[iv 0,iv born,iv 0,.slice V.xr V.nr V.cr,.slice V.xf V.nf V.cf,.slice V.xt V.nt V.ct,iv dK.lo,iv dK.al,.slice V.xk V.nk V.ck,iv dK.ka] 64
  have H:=hd_ (h3.p2.set5 (iv born) (.slice (some ⟨w1.heap.size,0,none⟩) 1 1) (iv 0) (iv 0) (iv (-1)));obtain⟨c0,c1,c2,c3,c4⟩:=h3.p2.cells5;have cf:=h3.p2.free;clear h2 h3;go_wp2;obtain⟨d0,d1,d2,d3,d4⟩:=H.out.cells5
  refine bodyPost_ret (v:=.agg #[iv born,.slice (some ⟨w1.heap.size,0,none⟩) 1 1,iv 0,iv 0,iv (-1)]) (by simp[results,results68,go_sem,d0,d1,d2,d3,d4]) rfl ⟨_,rfl,(H.out.drop.p1.entry 0 born 0).p1.one aP rfl⟩
 ·have h3:=h2.alloc #[iv i,iv born,iv 0,.slice V.xr V.nr V.cr,.slice V.xf V.nf V.cf,.slice V.xt V.nt V.ct,iv dK.lo,iv dK.al,.slice V.xk V.nk V.ck,iv dK.ka] 64
  have H:=hd_ (h3.p2.set5 (iv born) (.slice (some ⟨w1.heap.size,0,none⟩) 1 1) (iv 0) (iv 5) (iv (-1)));obtain⟨c0,c1,c2,c3,c4⟩:=h3.p2.cells5;have cf:=h3.p2.free;clear h2 h3;go_wp2;obtain⟨d0,d1,d2,d3,d4⟩:=H.out.cells5
  refine bodyPost_ret (v:=.agg #[iv born,.slice (some ⟨w1.heap.size,0,none⟩) 1 1,iv 0,iv 5,iv (-1)]) (by simp[results,results68,go_sem,d0,d1,d2,d3,d4]) rfl ⟨_,rfl,(H.out.drop.p1.entry i born 0).p1.one aP rfl⟩
def aLV (w:World) (o:Option Nt) (e:Ending) (w':World):Prop:=∃v1 v2 v3 v4 fp,e=.returned (.tuple #[.agg #[v1,v2,v3,v4],.bool o.isSome])/\pI (aLq TY) w.heap.size w' [v1,v2,v3,v4] (o.getD aJm) fp/\Below w.heap.size w w'
theorem qE {w w':World} {l:List Ch} (h:M w.heap.size w w' l):aLV w none (.returned (.tuple #[.agg #[zn,zn,zn,zn],.bool false])) w':=by
 have h':M w.heap.size w w' (bE _ []::bY _ []::bG _ []::dN _ []::l):=(((h.nil _ _ _).nil _ _ _).nil _ _ _).nil _ _ _;obtain⟨fp,hs⟩:=h'.net;exact⟨_,_,_,_,fp,rfl,hs,h.below⟩
theorem aIu {w w':World} {l:List Ch} {v1 v2 v3 v4:Value} {ns:List Nd} {ls:List Bool} {ws:List Wd} {ps:List (List (List Int))} (h:M w.heap.size w w' (bE v1 ns::bY v2 ls::bG v3 ws::dN v4 ps::l)):
  aLV w (some ⟨ns,ls,ws,ps⟩) (.returned (.tuple #[.agg #[v1,v2,v3,v4],.bool true])) w':=by
 obtain⟨fp,hs⟩:=h.net;exact⟨_,_,_,_,fp,rfl,hs,h.below⟩
theorem tR (w:World) (a lo hi:Int) (h:in6 a lo hi=true):Calls prog 66 #[iv a,iv lo,iv hi] w fun e w'=>e=.returned (.bool true)/\w=w':=by
 obtain⟨h0,h1⟩:lo<=a/\a<=hi:=by simpa[in6]using h
 clear h;go_enter func66,ntmps66;exact zAb
theorem aEt (w:World) (a lo hi:Int) (h:in6 a lo hi=false):Calls prog 66 #[iv a,iv lo,iv hi] w fun e w'=>e=.returned (.bool false)/\w=w':=by
 have h':¬(lo<=a/\a<=hi):=by simpa[in6]using h
 clear h
 by_cases h0:lo<=a
 ·have h1:decide (a<=hi)=false:=by simp;omega
  clear h';go_enter func66,ntmps66;exact zAb
 ·have h1:decide (lo<=a)=false:=by simp;omega
  clear h' h0;go_enter func66,ntmps66;exact zAb
theorem aE8 (w:World) (x:Option Addr) (n c:Nat) (ks:List Int) (h:dE w (.slice x n c) ks):Calls prog 18 #[.slice x n c] w (aLV w (rR ks)):=by
 obtain⟨b,o,hx⟩:∃b o,n=0\/(x=some ⟨b,o,none⟩/\b<w.heap.size/\∀i,i<n->w.cell? ⟨b,o+i,none⟩=some (.int .i64 (ks.getD i 0))):=by
  exact zBc
 have HX:=hd_ hx;have hnl:n=ks.length:=by
  rcases h with ⟨e,rfl⟩|⟨b,o,cap,e,h1,h2,_⟩
  ·simp at e;simp[e]
  ·simp at e;omega
 have HN:=hd_ hnl;have hm:n<=maxLen:=by
  rcases h with ⟨e,rfl⟩|⟨b,o,cap,e,h1,h2,_⟩
  ·rw[hnl];simp
  ·simp at e;omega
 unfold maxLen at hm;clear hx h hnl;have h0:=(M.start w).alloc #[zn,zn,zn,zn] 30;have H0:=hd_ h0;clear h0
 by_cases hs:n<=40
 ·by_cases hp:n % 2=0
  ·have n0:(0:Int)<=(n:Int):=o_
   have n1:(n:Int)<=40:=o_;have e2:(n:Int) % 2=0:=o_;go_enter func18,ntmps18
   go_wp2_with (at_make;refine tX aB3 (enc:=zV) (z0:=false) rfl rfl (fun _=>rfl) H0.out rfl rfl 25 rfl rfl rfl rfl dc_ dc_ ?_;intro w1 h1 hb1;clear H0)
   have h2:=(h1.alloc #[] 123).alloc #[zn,.slice (some ⟨w.heap.size+1,0,none⟩) 25 25,.slice (some ⟨w1.heap.size,0,none⟩) 0 0,zn] 30;simp only[World.size_alloc]at h1 h2;generalize (w1.alloc (Obj.cells #[] 123)).alloc (Obj.cells #[zn,.slice (some ⟨w.heap.size+1,0,none⟩) 25 25,.slice (some ⟨w1.heap.size,0,none⟩) 0 0,zn] 30)=w2 at h2 ⊢;have H:=hd_ (h2.p1.empty (gQ (T:=TY)) 6)
   clear h1 h2 hb1;generalize w1.heap.size=q1 at H ⊢;clear e2 n1;go_loopw [5] (fun i wr=>∃(j:Nat) (ls:List Bool),i=.int .i64 (j:Int)/\j % 2=0/\j<=n/\ls.length=25/\fO (ks.drop j)=fO ks/\jI ls (ks.drop j)=jI (List.replicate 25 false) ks/\
        M w.heap.size w wr [bG (.slice (some ⟨q1,0,none⟩) 0 0) [],aL (q1+1) 30 #[zn,.slice (some ⟨w.heap.size+1,0,none⟩) 25 25,.slice (some ⟨q1,0,none⟩) 0 0,zn],bY (.slice (some ⟨w.heap.size+1,0,none⟩) 25 25) ls,aL w.heap.size 30 #[zn,zn,zn,zn]]) (fun i _=>n - (intOf i).toNat)
   case atStart=>exact⟨0,List.replicate 25 false,rfl,rfl,Nat.zero_le _,rfl,by rw[List.drop_zero],by rw[List.drop_zero],H.out⟩
   case round=>
    clear H;obtain⟨j,ls,rfl,hj2,hjn,hl,hp1,hs1,h⟩:=hrel;have HL:=hd_ hl;have HP:=hd_ hp1;have HS:=hd_ hs1;have HJ:=hd_ hj2;have H:=hd_ h;clear hl hp1 hs1 h hj2
    by_cases hlt:j<n
    ·have hj1:j+1<n:=by have:=HJ.out;omega
     obtain⟨rfl,hbw,hce⟩:=HX.out.resolve_left o_;obtain⟨ka,hka⟩:=nm_ (ks.getD j 0);obtain⟨kb,hkb⟩:=nm_ (ks.getD (j+1) 0);have ca:wr.cell? ⟨b,o+j,none⟩=some (.int .i64 ka):=by rw[hka];exact cell_later H.out.below (hce j hlt)
     have cb:wr.cell? ⟨b,o+(j+1),none⟩=some (.int .i64 kb):=by rw[hkb];exact cell_later H.out.below (hce (j+1) hj1)
     have DR:=hd_ (show ks.drop j=ka::kb::ks.drop (j+2) by
            rw[List.drop_eq_getElem_cons (by rw[<-HN.out];exact hlt),List.drop_eq_getElem_cons (by rw[<-HN.out];exact hj1),hka,hkb]
            simp[List.getD,show j<ks.length by rw[<-HN.out];exact hlt,show j+1<ks.length by rw[<-HN.out];exact hj1])
     clear hka hkb hce hbw HX;obtain⟨d0,d1,d2,d3⟩:=H.out.p3.cells4;have df:=H.out.p3.free;have F:=hd_ (H.out.p3.set4 zn zn zn zn);have BAD:=hd_ (fun q:fO (ka::kb::ks.drop (j+2))=false=>show rR ks=none by
            have e:=HP.out
            rw[DR.out,q]at e
            unfold rR
            rw[if_neg (fun z=>by rw[<-e]at z;cases z.2)])
     cases ga:in6 ka 0 4 with
     |false=>
      have E:=hd_ (BAD.out (by unfold fO;rw[ga];rfl));have GA:=hd_ ga;clear BAD ga H DR
      go_wp2_with (go_at_call 66;refine (aEt _ _ _ _ GA.out).mono ?_;rintro e w' ⟨rfl,rfl⟩)
      exact zAq
     |true=>
      have GA:=hd_ ga;cases gb:in6 kb 0 4 with
      |false=>
       have E:=hd_ (BAD.out (by unfold fO;rw[ga,gb];rfl));have GB:=hd_ gb;clear BAD ga gb H DR
       go_wp2_with (first|(go_at_call 66;(with_reducible refine (tR _ ka _ _ GA.out).mono ?_);rintro e w' ⟨rfl,rfl⟩)|(go_at_call 66;(with_reducible refine (aEt _ kb _ _ GB.out).mono ?_);rintro e w' ⟨rfl,rfl⟩))
       exact zAq
      |true=>
       have GB:=hd_ gb
       by_cases hne:ka=kb
       ·have E:=hd_ (BAD.out (by unfold fO;rw[ga,gb,hne];simp))
        subst hne;clear BAD ga gb H DR
        go_wp2_with (go_at_call 66;(with_reducible refine (tR _ ka _ _ GA.out).mono ?_);rintro e w' ⟨rfl,rfl⟩)
        exact zAq
       ·have hn':(ka==kb)=false:=by simpa using hne
        have PB:=hd_ (show fO (ka::kb::ks.drop (j+2))=fO (ks.drop (j+2)) by
                  conv=>lhs;unfold fO
                  rw[ga,gb,decide_eq_true hne];rfl)
        obtain⟨a0,a1⟩:0<=ka/\ka<=4:=by simpa[in6]using ga
        obtain⟨b0,b1⟩:0<=kb/\kb<=4:=by simpa[in6]using gb
        obtain⟨qa,hqa⟩:∃q:Nat,ka * 5+kb=q:=⟨(ka * 5+kb).toNat,o_⟩
        obtain⟨qb,hqb⟩:∃q:Nat,kb * 5+ka=q:=⟨(kb * 5+ka).toNat,o_⟩
        have x0:(0:Int)<=(qa:Int):=o_;have x1:(qa:Int)<25:=o_;have y0:(0:Int)<=(qb:Int):=o_;have y1:(qb:Int)<25:=o_;have QA:=hd_ (show (ka * 5+kb).toNat=qa by omega);have QB:=hd_ (show (kb * 5+ka).toNat=qb by omega);have K1:=hd_ (fun W=>jQ W (a:=ka) (b:=kb) ⟨a0,a1,b0,b1⟩ hqa);have K2:=hd_ (fun W=>jQ W (a:=kb) (b:=ka) ⟨b0,b1,a0,a1⟩ hqb)
        clear BAD F d0 d1 d2 d3 df ga gb hne hqa hqb a0 a1 b0 b1;have HL':ls.length=25:=HL.out;obtain⟨⟨z,cz⟩,fz,h1⟩:=H.out.p2.drew.setEl (i:=qa) (by rw[HL'];omega) true (u:=.bool true) rfl;obtain⟨⟨z2,cz2⟩,fz2,h2⟩:=h1.drew.setEl (i:=qb) (by rw[List.length_set,HL'];omega) true (u:=.bool true) rfl;have S1:=hd_ (H.out.p1.drew.cell (i:=1) rfl);have S2:=hd_ (h1.drew.p2.cell (i:=1) rfl)
        have CZ:=hd_ (And.intro cz fz);have CZ2:=hd_ (And.intro cz2 fz2);have H2:=hd_ h2;clear cz fz h1 cz2 fz2 h2 HL' H
        go_wp2_with (first|(go_at_call 66;(with_reducible refine (tR _ ka _ _ GA.out).mono ?_);rintro e w' ⟨rfl,rfl⟩)|(go_at_call 66;(with_reducible refine (tR _ kb _ _ GB.out).mono ?_);rintro e w' ⟨rfl,rfl⟩))
        refine aC 6 (.tk 0 4 (.alt 4 (.take 5 (.alt 6 .done .nomore)) .nomore)) (fun w'=>w'.cell? ⟨q1+1,1,none⟩=some (.slice (some ⟨w.heap.size+1,0,none⟩) 25 25)) kr_ kr_ (fun _ _ _ _ _ h=>h) S1.out ?_
        repeat (first|refine tA_ ?_|refine tB_ ?_)
        refine aB r_ (fun K hK=>?_);go_simp;refine (K1.out _).mono ?_;rintro e w' ⟨rfl,rfl⟩;refine hK _ _ (.inr S1.out) ?_;clear hK K
        try refine tP_ ?_
        repeat (first|refine tA_ ?_|refine tB_ ?_)
        obtain⟨cz,fz⟩:=CZ.out;refine aB r_ (fun K hK=>?_);go_simp;refine hK _ _ (.inl rfl) ?_;clear hK K
        try refine tP_ ?_
        refine aD ?_;clear cz fz CZ S1;obtain⟨w5,hw5⟩:=nm_ ((wr.setCell ⟨w.heap.size+1,qa,none⟩ (.bool true)).drew);have hd:wr.drew.setCell ⟨w.heap.size+1,qa,none⟩ (.bool true)=w5:=hw5.symm;rw[hd]at H2 S2 CZ2;rw[<-hw5];clear hw5 hd;go_wp2
        refine aC 6 (.tk 0 4 (.alt 4 (.take 5 (.alt 6 .done .nomore)) .nomore)) (fun w'=>w'.cell? ⟨q1+1,1,none⟩=some (.slice (some ⟨w.heap.size+1,0,none⟩) 25 25)) kr_ kr_ (fun _ _ _ _ _ h=>h) S2.out ?_
        repeat (first|refine tA_ ?_|refine tB_ ?_)
        refine aB r_ (fun K hK=>?_);go_simp;refine (K2.out _).mono ?_;rintro e w' ⟨rfl,rfl⟩;refine hK _ _ (.inr S2.out) ?_;clear hK K
        try refine tP_ ?_
        repeat (first|refine tA_ ?_|refine tB_ ?_)
        obtain⟨cz,fz⟩:=CZ2.out;refine aB r_ (fun K hK=>?_);go_simp;refine hK _ _ (.inl rfl) ?_;clear hK K
        try refine tP_ ?_
        refine aD ?_;clear cz fz;go_wp2;go_roundw
        case rel=>
         refine⟨j+2,(ls.set qa true).set qb true,gn_,by have:=HJ.out;omega,o_,by rw[List.length_set,List.length_set];exact HL.out,?_,?_,H2.out.p2.p2⟩
         ·rw[<-PB.out, <-DR.out];exact HP.out
         ·rw[<-HS.out,DR.out]
          conv=>rhs;unfold jI
          rw[QA.out,QB.out]
        case measure=>simp[intOf];omega
    ·obtain rfl:j=n:=o_
     have EQ:=hd_ (show rR ks=some ⟨vZ.nodes,ls,[],vZ.past⟩ by
            have e:ks.drop j=[]:=List.drop_eq_nil_of_le (by rw[<-HN.out];exact Nat.le_refl _)
            have e1:=HS.out
            have e2:=HP.out
            rw[e]at e1 e2
            unfold rR
            rw[if_pos ⟨⟨by rw[<-HN.out];exact HJ.out,by rw[<-HN.out];exact hs⟩,e2.symm⟩]
            have:jI vZ.links ks=ls:=e1.symm
            rw[this];rfl)
     clear HS HP HL HX HN HJ hjn hp n0 hs hlt;go_wp2
     go_loopw [8] (fun i wr=>∃(k:Nat) (xn:Option Addr) (cn:Nat) (xp:Option Addr) (cp:Nat),i=.int .i64 (k:Int)/\k<=5/\M w.heap.size w wr [bE (.slice xn k cn) ((List.range k).map fun i:Nat=>wK i 1),dN (.slice xp k cp) (List.replicate k [[],[]]),aL (q1+1) 30 #[.slice xn k cn,.slice (some ⟨w.heap.size+1,0,none⟩) 25 25,.slice (some ⟨q1,0,none⟩) 0 0,.slice xp k cp],bG (.slice (some ⟨q1,0,none⟩) 0 0) [],bY (.slice (some ⟨w.heap.size+1,0,none⟩) 25 25) ls,aL w.heap.size 30 #[zn,zn,zn,zn]]) (fun i _=>5 - (intOf i).toNat)
     case atStart=>exact⟨0,none,0,none,0,rfl,Nat.zero_le _,((H.out.p1).nil bS 34 1).nil (aY (T:=TY)) 55 5⟩
     case round=>
      clear H;obtain⟨k,xn,cn,xp,cp,rfl,hk,h⟩:=hrel;have H:=hd_ h;clear h
      by_cases hk5:k<5
      ·go_wp2
       refine aC 7 (.tk 0 3 (.alt 3 (.alt 4 (.alt 5 (.take 6 (.alt 7 .done .nomore)) .nomore) .nomore) .nomore)) (fun w'=>w'.cell? ⟨q1+1,0,none⟩=some (.slice xn k cn)) kr_ kr_ (fun _ _ _ _ _ h=>h) (H.out.p2.drew.cell rfl) ?_
       repeat (first|refine tA_ ?_|refine tB_ ?_)
       obtain⟨lv,hlv⟩:∃lv:Int,lv=if (k:Int)=0 then 0 else 5:=⟨_,rfl⟩
       have KN:=hd_ (aCE H.out.drew (k:Int) 1);have BN:=hd_ (show wK (k:Int) 1=⟨1,[⟨(k:Int),1,0,dK⟩],0,lv, -1⟩ by rw[hlv];rfl);rw[<-hlv]at KN;clear hlv H;refine aB r_ (fun K hK=>?_);go_simp;refine KN.out.mono ?_;rintro e w3 ⟨v,rfl,h1⟩;obtain⟨xv,cv,rfl⟩:∃xv cv,v=.slice xv 1 cv:=by obtain⟨f,hf,_⟩:=h1.first;obtain⟨_,_,e,_⟩:=cM hf;exact⟨_,_,e⟩
       refine hK _ _ (.inr (h1.p3.cell rfl)) ?_;clear hK K
       try refine tP_ ?_
       refine aB r_ (fun K hK=>?_);go_simp;have h2:=((h1.node 1 0 lv (-1)).p1).alloc #[iv 1,.slice xv 1 cv,iv 0,iv lv,iv (-1)] 55;refine hK _ _ (.inr (h2.p4.cell rfl)) ?_;clear hK K
       try refine tP_ ?_
       refine aB r_ (fun K hK=>aAP aLJ (aCw (T:=TY)) h2 r_ r_ r_ r_ (by simp[maxLen];omega) (by simp;omega) (N:=k+1) (by simp) (fun y cap w4 h3=>?_));refine hK _ _ (.inr (h3.p2.cell rfl)) ?_;clear hK K
       try refine tP_ ?_
       repeat (first|refine tA_ ?_|refine tB_ ?_)
       obtain⟨c0,c1,c2,c3⟩:=h3.p2.cells4;have cf:=h3.p2.free;have h4:=h3.p2.set (i:=0) (.slice y (k+1) cap);simp only[List.setIfInBounds_toArray,List.set_cons_zero,List.set_cons_succ]at h4;have H4:=hd_ h4;clear h1 h2 h3 h4 KN;refine aB r_ (fun K hK=>?_);go_simp;refine hK _ _ (.inl rfl) ?_;clear hK K
       try refine tP_ ?_
       refine aD ?_;clear c0 c1 c2 c3 cf;obtain⟨w5,hw5⟩:=nm_ (w4.setCell ⟨q1+1,0,none⟩ (.slice y (k+1) cap));rw[<-hw5]at H4 ⊢;clear hw5;have h8:=(((H4.out.alloc #[] 3).alloc #[] 3).alloc #[.slice (some ⟨w5.heap.size,0,none⟩) 0 0,.slice (some ⟨w5.heap.size+1,0,none⟩) 0 0] 23).alloc #[.slice (some ⟨w5.heap.size+1+1,0,none⟩) 2 2] 34;simp only[World.size_alloc]at h8
       have h9:=(M.pair (cs:=[.slice (some ⟨w5.heap.size,0,none⟩) 0 0]) (ds:=[.slice (some ⟨w5.heap.size+1,0,none⟩) 0 0]) cK ((((h8.p3.empty (aG kY) 1).soft.p3.empty (aG kY) 1).soft.p1).p3) rfl rfl).p1.p4.p1;obtain⟨c0,c1,c2,c3⟩:=H4.out.cells4;clear h8;have H9:=hd_ h9;clear h9 H4
       go_wp2_with (at_builtin;go_loud (refine dA aLH (nM _ _ _) H9.out rfl rfl rfl rfl (by simp[maxLen];omega) (by simp;omega) (N:=k+1) (by simp) ?_);intro y2 cap2 w6 h10;obtain⟨d0,d1,d2,d3⟩:=h10.p1.cells4;have df:=h10.p1.free;have h11:=h10.p1.set (i:=3) (.slice y2 (k+1) cap2);simp only[List.setIfInBounds_toArray,List.set_cons_zero,List.set_cons_succ]at h11;have H11:=hd_ h11;clear h10 h11 H9 c0 c1 c2 c3)
       go_roundw
       case rel=>
        refine⟨k+1,y,cap,y2,cap2,gn_,hk5,?_⟩;rw[List.range_succ,List.map_append,List.replicate_succ'];have e:=H11.out.p1.p2;rw[<-BN.out]at e;exact e
       case measure=>simp[intOf];omega
      ·obtain rfl:k=5:=o_
       obtain⟨c0,c1,c2,c3⟩:=H.out.p2.cells4;obtain⟨d0,d1,d2,d3⟩:=H.out.p5.cells4;have df:=H.out.p5.free;have F:=hd_ (H.out.p5.set4 (.slice xn 5 cn) (.slice (some ⟨w.heap.size+1,0,none⟩) 25 25) (.slice (some ⟨q1,0,none⟩) 0 0) (.slice xp 5 cp));clear H;go_wp2;obtain⟨e0,e1,e2,e3⟩:=F.out.cells4
       (try simp only[Exit.inBlock,Exit.then])
       refine bodyPost_ret (v:=.tuple #[.agg #[.slice xn 5 cn,.slice (some ⟨w.heap.size+1,0,none⟩) 25 25,.slice (some ⟨q1,0,none⟩) 0 0,.slice xp 5 cp],.bool true]) (by simp[results,results18,go_sem,e0,e1,e2,e3]) rfl ?_;rw[EQ.out];exact aIu F.out.drop.p1.p3.p4.p3
  ·have e2:(n:Int) % 2=1:=o_
   have n0:(0:Int)<=(n:Int):=o_;exact zp
 ·by_cases hp:n % 2=0
  ·have e2:(n:Int) % 2=0:=o_
   have g4:decide ((40:Int)<(n:Int))=true:=by simp;omega
   have n0:(0:Int)<=(n:Int):=o_;exact zp
  ·have e2:(n:Int) % 2=1:=o_
   have n0:(0:Int)<=(n:Int):=o_;exact zp
theorem wT {a b:En}:jM a b=true↔b.born<a.born\/(a.born=b.born/\b.num<a.num):=by unfold jM;simp
theorem aFk (w:World) (V1 V2:SV) (a b:En):
  Calls prog 324 #[.agg #[iv a.node,iv a.born,iv a.num,.slice V1.xr V1.nr V1.cr,.slice V1.xf V1.nf V1.cf,.slice V1.xt V1.nt V1.ct,.int .i64 (a.s).lo,.int .i64 (a.s).al,.slice V1.xk V1.nk V1.ck,.int .i64 (a.s).ka],.agg #[iv b.node,iv b.born,iv b.num,.slice V2.xr V2.nr V2.cr,.slice V2.xf V2.nf V2.cf,.slice V2.xt V2.nt V2.ct,.int .i64 (b.s).lo,.int .i64 (b.s).al,.slice V2.xk V2.nk V2.ck,.int .i64 (b.s).ka]] w fun r w'=>r=.returned (.bool (jM a b))/\Below w.heap.size w w':=by
 have H:=hd_ (((M.start w).alloc #[iv a.node,iv a.born,iv a.num,.slice V1.xr V1.nr V1.cr,.slice V1.xf V1.nf V1.cf,.slice V1.xt V1.nt V1.ct,.int .i64 (a.s).lo,.int .i64 (a.s).al,.slice V1.xk V1.nk V1.ck,.int .i64 (a.s).ka] 64).alloc #[iv b.node,iv b.born,iv b.num,.slice V2.xr V2.nr V2.cr,.slice V2.xf V2.nf V2.cf,.slice V2.xt V2.nt V2.ct,.int .i64 (b.s).lo,.int .i64 (b.s).al,.slice V2.xk V2.nk V2.ck,.int .i64 (b.s).ka] 64)
 obtain⟨c0,c1,c2,c3,c4,c5,c6,c7,c8,c9⟩:=H.out.p1.cells10;obtain⟨d0,d1,d2,d3,d4,d5,d6,d7,d8,d9⟩:=H.out.cells10;simp only[World.size_alloc]at d0 d1 d2 d3 d4 d5 d6 d7 d8 d9;clear c0 c3 c4 c5 c6 c7 c8 c9 d0 d3 d4 d5 d6 d7 d8 d9
 by_cases h1:b.born<a.born
 ·have F:Hid (jM a b=true):=hd_ (wT.2 (.inl h1))
  go_enter func324,ntmps324;exact zAA
 ·by_cases h2:a.born=b.born
  ·by_cases h3:b.num<a.num
   ·have F:Hid (jM a b=true):=hd_ (wT.2 (.inr ⟨h2,h3⟩))
    exact zBQ
   ·have F:Hid (jM a b=false):=hd_ (Bool.eq_false_iff.2 fun q=>(wT.1 q).elim h1 fun q=>h3 q.2)
    exact zBQ
  ·have F:Hid (jM a b=false):=hd_ (Bool.eq_false_iff.2 fun q=>(wT.1 q).elim h1 fun q=>h2 q.1)
   have g2:(a.born==b.born)=false:=by simpa using h2
   clear h2;go_enter func324,ntmps324;exact zAA
def aBO (k:Int × Int):Value:=.agg #[iv k.1,iv k.2]
def vQ (k:Int × Int):Prop:=(-9223372036854775808<=k.1/\k.1<9223372036854775808)/\(-9223372036854775808<=k.2/\k.2<9223372036854775808)
theorem aMs:aEi prog 130 vQ aBO:=by
 refine⟨Go.Maps.Keyed.of_law (deep_law_gate kr_ (by decide+kernel) (by decide+kernel) kr_ kr_),fun k hk=>?_,fun x y h=>?_⟩
 ·obtain⟨⟨a0,a1⟩,b0,b1⟩:=hk
  have c2:prog.cellsOf 130=2:=by kernel_rfl
  have c1:prog.cellsOf 3=1:=by kernel_rfl
  have ht:prog.keyType 130=true:=by kernel_rfl
  have hn:1<=prog.types.size:=by decide+kernel
  obtain⟨d,hd⟩:∃d,prog.types.size+1=d+2:=⟨prog.types.size - 1,by omega⟩
  have w1:(Lit.int .i64 k.1).wf=true:=by simp[Lit.wf,IntKind.min,IntKind.max,IntKind.bits,IntKind.signed];omega
  have w2:(Lit.int .i64 k.2).wf=true:=by simp[Lit.wf,IntKind.min,IntKind.max,IntKind.bits,IntKind.signed];omega
  refine⟨.string (keyBytes [.int .i64 k.1,.int .i64 k.2]),?_⟩;have hl:prog.keyLits (d+2) 130 [.int .i64 k.1,.int .i64 k.2]=some [.int .i64 k.1,.int .i64 k.2]:=by
   simp only[Program.keyLits,underlying130,c2];simp[Program.keyLits,c1,underlying3,w1,w2]
  have hf:(aBO k).formed prog 130=true:=by unfold aBO Value.formed;simp only[underlying130,c2];rfl
  have hc:(aBO k).cells.toList=[.int .i64 k.1,.int .i64 k.2]:=rfl;simp only[keyOf,underlying130,ht,hf,hd,hc,hl,Bool.and_self,if_true,Option.map_some]
 ·unfold aBO at h
  injection h with h
  have h':=congrArg Array.toList h;simp at h';exact Prod.ext h'.1 h'.2
def tD (g:Int × Int->Option Value) (lk:Int->Int->Bool):Prop:=∀k,(g k).getD (.bool false)=.bool (lk k.1 k.2)
theorem aMd (w:World):(zeroValue 4).run prog w=.ok (.bool false) w:=by
 obtain⟨i,hi,hz,_⟩:=info_parts aB3.info;simp[zeroValue,typeInfo,hi,hz]
theorem aGX {B m:Nat} {w0 w:World} {l:List Ch} {g:Int × Int->Option Value} {lk:Int->Int->Bool} (h:M B w0 w (zW vQ aBO m g::l)) (hlk:tD g lk) (a b:Int) (hk:vQ (a,b)):
  (Instr.lookup 100 (.map (some m)) (.agg #[iv a,iv b]) false).run prog w=.ok (.bool (lk a b)) w:=by
 have:=h.look aMs underlying100 (aMd w) hk false;rw[hlk (a,b)]at this;exact this
theorem oG (w:World) (a:Int) (h:in6 a 0 4=true):Calls prog 95 #[iv a] w fun e w'=>e=.returned (.bool true)/\w=w':=by
 obtain⟨h0,h1⟩:0<=a/\a<=4:=by simpa[in6]using h
 have h2:a<5:=o_;clear h h1;go_enter func95,ntmps95;exact zAb
theorem tY (w:World) (a:Int) (h:in6 a 0 4=false):Calls prog 95 #[iv a] w fun e w'=>e=.returned (.bool false)/\w=w':=by
 have h':¬(0<=a/\a<=4):=by simpa[in6]using h
 clear h
 by_cases h0:0<=a
 ·have h1:decide (a<5)=false:=by simp;omega
  clear h';go_enter func95,ntmps95;exact zAb
 ·have h1:decide (0<=a)=false:=by simp;omega
  clear h' h0;go_enter func95,ntmps95;exact zAb
def two (a b:Int):Bool:=(in6 a 0 4&&in6 b 0 4)&&decide (a≠b)
theorem aCr (w:World) (a b:Int):Calls prog 70 #[iv a,iv b] w fun e w'=>e=.returned (.bool (two a b))/\w=w':=by
 cases ga:in6 a 0 4 with
 |false=>
  have e1:two a b=false:=by unfold two;rw[ga];rfl
  rw[e1];have G:=hd_ ga;clear ga e1;go_enter func70,ntmps70
  go_wp2_with (go_at_call 95;(with_reducible refine (tY _ a G.out).mono ?_);rintro e w' ⟨rfl,rfl⟩)
  go_ret;exact⟨rfl,rfl⟩
 |true=>
  have GA:=hd_ ga;cases gb:in6 b 0 4 with
  |false=>
   have e1:two a b=false:=by unfold two;rw[ga,gb];rfl
   rw[e1];have GB:=hd_ gb;clear ga gb e1;go_enter func70,ntmps70
   go_wp2_with (first|(go_at_call 95;(with_reducible refine (oG _ a GA.out).mono ?_);rintro e w' ⟨rfl,rfl⟩)|(go_at_call 95;(with_reducible refine (tY _ b GB.out).mono ?_);rintro e w' ⟨rfl,rfl⟩))
   go_ret;exact⟨rfl,rfl⟩
  |true=>
   have GB:=hd_ gb;have e1:two a b=decide (a≠b):=by unfold two;rw[ga,gb];rfl
   rw[e1];clear ga gb e1;go_enter func70,ntmps70
   go_wp2_with (first|(go_at_call 95;(with_reducible refine (oG _ a GA.out).mono ?_);rintro e w' ⟨rfl,rfl⟩)|(go_at_call 95;(with_reducible refine (oG _ b GB.out).mono ?_);rintro e w' ⟨rfl,rfl⟩))
   go_ret;exact⟨aK (by by_cases q:a=b<;>simp[q]),rfl⟩
theorem aB1 (w:World) (p:Nat) (h:p<25):Calls prog 149 #[iv p] w fun e w'=>e=.returned (.agg #[iv ((p / 5:Nat):Int),iv ((p % 5:Nat):Int)])/\Below w.heap.size w w':=by
 have h0:(0:Int)<=(p:Int):=o_;have h1:(p:Int)<25:=o_;have H:=hd_ ((M.start w).alloc #[iv ((p:Int) / 5),iv ((p:Int) % 5)] 130);clear h;go_enter func149,ntmps149;go_wp2;obtain⟨c0,c1⟩:=H.out.cells2;exact bodyPost_ret (v:=.agg #[iv ((p:Int) / 5),iv ((p:Int) % 5)]) (by simp[results,results149,go_sem,c0,c1]) rfl ⟨by simp,H.out.below⟩
def upto {α:Type} (xs:List α):List (Option α):=xs.map some++List.replicate (5 - xs.length) none
end N
end Go.Proofs.YtcblbdpdbggkbaaGreat
