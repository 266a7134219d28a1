/-
  What the laws of XS need of the texts before it, part 5.
-/
import Derived.BigQuiet
import Derived.Deep.AppendLies
import Derived.Deep.OwnRows
import Derived.Deep.QuietTactic
import Derived.Deep.RegionHeld3
import Derived.Deep.RegionLaw
import Derived.Deep.RegionWith
import Derived.IntWalk
import Derived.Laws.AppendOwnNone
import Derived.Laws.EntriesVeiled
import Derived.Lib.AppendZerosOnto
import Derived.Lib.Hide
import Derived.Lib.QuietBelow
import Derived.Lib.SliceRun
import Derived.Lib.Walk
import Derived.LoopIn
import Derived.LoopNIn
import Derived.Maps.AppendAt
import Derived.OneCell
import Derived.OwnWalkIn
import Derived.RangeFuncBound
import Derived.RangeFuncBox
import Derived.RangeFuncCalls
import Derived.RangeFuncLeaves
import Derived.RangeFuncNested
import Derived.Shelf.Abstract
import Derived.Shelf.RegionOpen
import Derived.Shelf.SlSortCmp.InsertionK
import Derived.StillTail
import Derived.TacticsInMore
import Derived.Test.YtcblbdpdbggkbaaGreatRows
import Derived.WalkKit
import Derived.WalkLawsBesides
import Derived.WalkSpells
import Derived.Test.YtcblbdpdbggkbaaGreatSXS4
set_option maxRecDepth 100000
set_option maxHeartbeats 16000000
set_option linter.unusedVariables false
set_option linter.unusedSectionVars false
set_option linter.unusedSimpArgs false
namespace Go.Proofs.YtcblbdpdbggkbaaGreat
open _root_.Go.Proofs.Tryz
theorem ze {P:Prop} (h:P:=by
 clear x0 x1 x2 xa0 ya0 ya1 ya2 y0 y1 y2;obtain⟨k,L,hk,rfl,hLk,hown,hbl⟩:=hrel;obtain⟨z,cz,hu,_,_⟩:=hown.form;obtain⟨nl,hnl⟩:=nm_ L.length;rw[<-hnl]at hu;subst hu;have HLK:=hd_ hLk;have HO:=hd_ hown;have HB:=hd_ hbl;have HNL:=hd_ hnl;have Xr:=X2.later hbl;have Yr:=Y2.later hbl;have Rr:=R2.later hbl;have PBr:=hd_ ((PB2.out.below hbl lr_).cells);have gk:=GA.out k;rw[<-hLk]at gk;have GK:=hd_ gk
 have y0:=Yr.cell0;have y1:=Yr.cell1;have y2:=Yr.cell2;have hsz:=hbl.size;clear hLk hown hbl gk hnl
 by_cases hlt:k<nb
 ·obtain⟨b,o,rfl,hb,h1,h2⟩:=PBr.out k (by rw[<-HNB.out];exact hlt)
  have hsu:=hd_ (aA8 ps qs k (by rw[<-HNB.out];exact hlt));have hm:=HBB.out.at k (by rw[<-HNB.out];exact hlt);generalize pr qs k=q at h1 h2 hsu hm;obtain⟨t,m⟩:=q;simp only at h1 h2 hm;obtain⟨m0,m1⟩:=hm;have k0:(0:Int)<=(k:Int):=o_;have kn:(k:Int)<(nb:Int):=o_;have KPU:=hd_ (aA7 wr (.slice z nl cz) L t m HO.out.rd (by have:=GK.out.2;omega) ((GK.out.1.mono o_).at) m0 o_)
  go_wp2_with fail
  refine KPU.out.mono ?_;rintro e w4 ⟨r,rfl,ho4,hb4⟩;obtain⟨xz,cz',rfl,_,_⟩:=ho4.form;have O4:=hd_ (ho4.base hsz);have B4:=hd_ (HB.out.trans (hb4.mono hsz));clear ho4 hb4;go_wp2;go_roundw
  case rel=>exact⟨k+1,dC L (t,m),o_,gn_,by rw[hsu.out,HLK.out],O4.out,B4.out⟩
  case measure=>simp[intOf];omega
 ·obtain rfl:k=nb:=o_
  have e1:L=bL ps qs:=by rw[HLK.out,List.take_of_length_le (by rw[HNB.out];exact Nat.le_refl _)]
  have KC3:=hd_ (KC.out wr (.slice z nl cz) (by rw[<-e1];exact HO.out.base (Nat.zero_le _)));have x1:=Xr.cell1;have x2:=Xr.cell2;obtain⟨bs,hbs⟩:=nm_ (bL ps qs);rw[<-hbs]at KC3;have HBS:=hd_ hbs;obtain⟨ov,hov⟩:=nm_ (bN bs);rw[<-hov]at KC3;have HOV:Hid (ov=bN (bL ps qs)):=by show _=_;rw[hov,hbs]
  clear e1 hbs hov KC
  go_wp2_with fail
  refine KC3.out.mono ?_;rintro e w4 ⟨r,rfl,ho4,hb⟩;have R4:=Rr.later hb;obtain⟨cs,hcs⟩:=nm_ (mH bs);rw[<-hcs]at ho4;obtain⟨xz,cz',rfl,_,_⟩:=ho4.form;have HCS:=hd_ hcs;have z0:=R4.cell0;have z1:=R4.cell1;have z2:=R4.cell2;have f2:=R4.free;have RZ:=R4.set (.slice xz cs.length cz') (iv (la+lb+ov)) (iv (aa+ab));have hr0:=RZ.cell0;have hr1:=RZ.cell1;have hr2:=RZ.cell2
  have B4:=B2.out.trans ((HB.out.trans (hb.mono hsz)).mono B2.out.size);have OZ:=hd_ ((ho4.set3 (b:=w.heap.size+1+1) (R4.not_row dc_ ho4) (.slice xz cs.length cz') (iv (la+lb+ov)) (iv (aa+ab))).base (B':=w.heap.size) o_);have BZ:=hd_ (cT (b:=w.heap.size+1+1) B4 o_ (.slice xz cs.length cz') (iv (la+lb+ov)) (iv (aa+ab)))
  have FIN:Hid (aAZ w ps qs (((w4.setCell ⟨w.heap.size+1+1,0,none⟩ (.slice xz cs.length cz')).setCell ⟨w.heap.size+1+1,1,none⟩ (iv (la+lb+ov))).setCell ⟨w.heap.size+1+1,2,none⟩ (iv (aa+ab))) (.slice xz cs.length cz')):=by
   refine⟨?_,BZ.out⟩;rw[<-HBS.out, <-HCS.out];exact OZ.out
  clear RZ R4 ho4 hb hcs OZ BZ B4 Xr Yr Rr;go_wp2;exact bodyPost_ret (v:=.tuple #[.agg #[.slice xz cs.length cz',iv (la+lb+ov),iv (aa+ab)],.bool true]) (by simp[results,results172,go_sem,hr0,hr1,hr2]) rfl ⟨.slice xz cs.length cz',by rw[<-HOV.out],FIN.out⟩):P:=h
theorem zAa {P:Prop} (h:P:=by
 obtain rfl:k=n:=o_
 have e1:ps.take k=ps:=List.take_of_length_le (by rw[HL.out];exact Nat.le_refl _);rw[e1]at hsb ⊢;have HF:Hid (cC ps=all->cL ps all=true):=fun h=>(dN _ _).2 ⟨⟨ha0,ha1⟩,fun i hi=>G.out i (by rw[HL.out]at hi;exact hi),h⟩
 have HN:Hid (¬cC ps=all->cL ps all=false):=fun h=>nF (fun q=>h q.2.2)
 generalize cC ps=S at *;clear hg hbl hX1 e1
 by_cases he:S=all
 ·have fv:=hd_ (HF.out he)
  have e2:(S==all)=true:=by simpa using he
  go_wp2;go_ret;exact⟨aH (by first|(rw[fv.out];done)|(rw[fv.out];simp[he])),FIN.out⟩
 ·have fv:=hd_ (HN.out he)
  have e2:(S==all)=false:=by simpa using he
  go_wp2;go_ret;exact⟨aH (by first|(rw[fv.out];done)|(rw[fv.out];simp[he])),FIN.out⟩):P:=h
theorem zAn {P:Prop} (h:P:=by
 go_wp2;go_ret;exact⟨aH bd.out.symm,below_drewN FIN2.out _⟩):P:=h
theorem zAQ {P:Prop} (h:P:=by
 exact bodyPost_ret (v:=.tuple #[.agg #[zn,iv 0,iv 0],.bool false]) (by simp[results,results197,go_sem,hr0,hr1,hr2]) rfl ⟨rfl,BZ.out⟩):P:=h
theorem zAR {P:Prop} (h:P:=by
 exact bodyPost_ret (v:=.tuple #[.agg #[zn,iv 0,iv 0],.bool false]) (by simp[results,results172,go_sem,hr0,hr1,hr2]) rfl ⟨rfl,BZ.out⟩):P:=h
theorem zAS {P:Prop} (h:P:=by
 have eD:decide (D<m)=true:=decide_eq_true hD8
 have bd:=hd_ (bad.out (fun q=>by have:=(HQ.out.1 q).2.2 h64;(try simp at this);omega));clear HQ bad
 go_quiet (first|(with_reducible exact aE (aJ _ _ _ _ ht0 ht1))|(with_reducible exact aE (aJ _ _ _ _ hm0 hm1)))
 exact zAn):P:=h
theorem zA7 {P:Prop} (h:P:=by
 rw[pA h,h]
 exact (qR w u v ps qs la aa lb ab hp hq h).mono fun e w' ⟨he,hb⟩=>⟨_,he,aF.nil _ _,hb⟩):P:=h
theorem zA8 {P:Prop} (h:P:=by
 rw[pA h,h]
 exact (pZ w u v ps qs la aa lb ab hp hq h).mono fun e w' ⟨he,hb⟩=>⟨_,he,aF.nil _ _,hb⟩):P:=h
theorem zBc {P:Prop} (h:P:=by
 go_wp2
 go_quiet (fail)
 go_wp2;go_roundw
 case rel=>exact⟨j - 1,I - 2,o_,by have:=HI.out;omega,by congr 1;omega,by rw[hs.out,e.out];exact HR.out.drewN _,oR HG.out _⟩
 case measure=>simp[intOf];omega):P:=h
end Go.Proofs.YtcblbdpdbggkbaaGreat
namespace Go.Proofs.YtcblbdpdbggkbaaGreat.T
open _root_.Go.Proofs.Tryz
open Go.RowKit Go.Sort
def mrg (os:List Pr) (p:Pr):List Pr:=if 0<os.length/\(pr os (os.length - 1)).1=p.1 then os.set (os.length - 1) (p.1,(pr os (os.length - 1)).2+p.2)else os++[p]
theorem yY {os:List Pr} {p:Pr} (h:¬(0<os.length/\(pr os (os.length - 1)).1=p.1)):mrg os p=os++[p]:=if_neg h
theorem aDc {os:List Pr} {p:Pr} (h0:0<os.length) (h:(pr os (os.length - 1)).1=p.1):mrg os p=os.set (os.length - 1) (p.1,(pr os (os.length - 1)).2+p.2):=if_pos ⟨h0,h⟩
def mrgV (qs:List Pr):List Pr:=qs.foldl mrg []
theorem aLM (os:List Pr) (p:Pr):(mrg os p).length<=os.length+1:=by unfold mrg;split<;>simp
theorem nB (qs:List Pr) (k:Nat) (h:k<qs.length):mrgV (qs.take (k+1))=mrg (mrgV (qs.take k)) (pr qs k):=by
 rw[dV qs k h];simp[mrgV]
theorem aJh (qs:List Pr) {k:Nat} (h:k<=qs.length):(mrgV (qs.take k)).length<=k:=by
 induction k with
 |zero=>simp[mrgV]
 |succ k ih=>rw[nB qs k h];have:=aLM (mrgV (qs.take k)) (pr qs k);have:=ih o_;omega
theorem BdP.mrg {M N:Int} {os:List Pr} {p:Pr} (h:BdP M os) (h0:0<=M) (hp:0<=p.2/\p.2<=N):BdP (M+N) (mrg os p):=by
 unfold YtcblbdpdbggkbaaGreat.T.mrg
 split
 ·rename_i hc
  intro q hq;have hl:=h _ (jI (ps:=os) (i:=os.length - 1) o_);rcases List.mem_or_eq_of_mem_set hq with h1|h1
  ·have:=h q h1;omega
  ·rw[h1];exact⟨by simp;omega,by simp;omega⟩
 ·intro q hq
  rcases List.mem_append.1 hq with h1|h1
  ·have:=h q h1;omega
  ·simp at h1;subst h1;omega
theorem BdP.mrgV {N:Int} {qs:List Pr} (h:BdP N qs) (hN:0<=N) {k:Nat} (hk:k<=qs.length):BdP (N * k) (mrgV (qs.take k)):=by
 induction k with
 |zero=>intro q hq;simp[YtcblbdpdbggkbaaGreat.T.mrgV]at hq
 |succ k ih=>
  rw[nB qs k hk];have h3:=BdP.mrg (ih o_) (Int.mul_nonneg hN o_) (h.at k o_);have e:N * ((k+1:Nat):Int)=N * (k:Int)+N:=by rw[Int.natCast_add,Int.mul_add];simp
  rw[e];exact h3
theorem aLX (ps:List Pr) (k:Nat) (z:Int) (h:k<ps.length):(prs ps).set (k * 2+1) (iv z)=prs (ps.set k ((pr ps k).1,z)):=by
 induction ps generalizing k with
 |nil=>cases h
 |cons p ps ih=>
  rw[gE];cases k with
  |zero=>rfl
  |succ k=>
   have:=ih k (by simpa using h);rw[show (k+1) * 2+1=k * 2+1+1+1 by omega];simp only[List.set_cons_succ];rw[this]
   rfl
theorem aJM {w:World} {B j c:Nat} {x:Option Addr} {os:List Pr} (h:w.ownsRow B 213 2 (.slice x (j+1) c) (j+1) (prs os)) (hl:os.length=j+1):
  ∃g,x=some ⟨g,0,none⟩/\B<=g/\g<w.heap.size/\j+1<=c/\w.cell? ⟨g,j * 2,none⟩=some (.int .i64 (pr os j).1)/\w.cell? ⟨g,j * 2+1,none⟩=some (.int .i64 (pr os j).2)/\w.frozen? ⟨g,j * 2+1,none⟩=false:=by
 rcases h.2 with ⟨_,h0⟩|⟨g,cap,cur,e,hb,hg,hn,hc,hs,ht⟩
 ·omega
 ·obtain⟨e1,_,e3⟩:=Value.slice.inj e
  subst e1 e3;have e2:=oM os j o_;have a:=World.ownsRow.cells h (g:=g) rfl _ _ e2.1;have b:=World.ownsRow.cells h (g:=g) rfl _ _ e2.2;rw[gQ,Nat.zero_add]at a b;exact⟨g,rfl,hb,(Array.getElem?_eq_some_iff.1 hg).1,hn,a,b,World.ownsRow.frozenAt h _⟩
def aNj (w:World) (ps qs:List Pr) (w':World) (u:Value):Prop:=∃ss:List Pr,ss.Perm (ps++qs)/\qG wS ss/\aF w' w.heap.size u (mrgV ss)/\Below w.heap.size w w'
theorem aAe (w:World) (u v:Value) (ps qs:List Pr) (hp:Prs w u ps) (hq:Prs w v qs) (la:ps.length<=4) (lb:qs.length<=4) (ba:BdP 2000 ps) (bb:BdP 2000 qs):
  Calls prog 251 #[u,v] w fun e w'=>∃r,e=.returned r/\aNj w ps qs w' r:=by
 obtain⟨i0,hi,hz0,hz1,hz2⟩:=info_parts dY;obtain⟨x,ca,rfl,_,_⟩:=hp.form;obtain⟨y,cb,rfl,_,_⟩:=hq.form;obtain⟨na,hna⟩:=nm_ ps.length;obtain⟨nb,hnb⟩:=nm_ qs.length;rw[<-hna]at hp la ⊢;rw[<-hnb]at hq lb ⊢;obtain⟨W0,hW0⟩:=nm_ (w.alloc (.cells #[.slice x na ca,.slice y nb cb] 39));have B0:Hid (Below w.heap.size w W0):=by show Below _ _ _;rw[hW0];exact (Below.refl _ _).alloc lr_ _
 have KC:=hd_ (xR W0 w.heap.size na nb ca cb x y ps qs hna.symm hnb.symm o_ o_ (hp.below B0.out lr_) (hq.below B0.out lr_) (by rw[hW0];simp) (by rw[hW0];simp));have HW:=hd_ hW0;obtain⟨L,hL⟩:=nm_ (ps++qs);have HLEN:Hid (L.length<=8):=by show _<=_;rw[hL,List.length_append, <-hna, <-hnb];omega
 have HBD:Hid (BdP 2000 L):=fun p hp'=>by rw[hL]at hp';rcases List.mem_append.1 hp' with h|h;exact ba p h;exact bb p h
 have HLL:=hd_ hL;rw[<-hL]at KC;have KO:Hid (∀W r,Prs W r L->Calls prog 289 #[r,iv 0] W fun e w'=>∃u,e=.returned u/\pU wS W L w' u):=fun W r h=>aFm W r _ h HLEN.out
 clear hp hq ba bb hna hnb hW0 hL;go_enter func251,ntmps251
 go_wp2_with fail
 rw[<-HW.out];clear HW
 go_wp2_with fail
 refine KC.out.mono ?_;rintro e w1 ⟨r,rfl,ho1,hb1⟩;have B1:=hd_ (B0.out.trans (hb1.mono B0.out.size));have KO1:=hd_ (KO.out w1 r ho1.rd);obtain⟨xr,cr,rfl,_,_⟩:=ho1.form;generalize L.length=nl at KO1 ⊢;clear ho1 hb1 KC KO B0
 go_wp2_with fail
 refine KO1.out.mono ?_;rintro e w2 ⟨s,rfl,ss,hperm,hsort,hs,hb2⟩;have B2:=hd_ (B1.out.trans (hb2.mono B1.out.size));have PE:Hid (ss.Perm (ps++qs)):=by show List.Perm _ _;rw[<-HLL.out];exact hperm
 have SO:=hd_ hsort;obtain⟨xs,cs,rfl,_,_⟩:=hs.form;have HP:=hd_ hs.cells;obtain⟨n,hn⟩:=nm_ ss.length;have n8:n<=8:=by have h1:=hperm.length_eq;have h2:=HLEN.out;omega
 have HL:=hd_ hn;have BS:Hid (BdP 2000 ss):=fun p hp'=>HBD.out p (hperm.mem_iff.1 hp')
 rw[<-hn];clear hperm hsort hs hb2 hn KO1 B1;go_wp2;go_loopw [5,15] (fun q i wr=>∃(k:Nat) (os:List Pr),k<=n/\i=.int .i64 k/\os=mrgV (ss.take k)/\aF wr w2.heap.size q os/\Below w2.heap.size w2 wr) (fun _ i _=>n - (intOf i).toNat)
 case atStart=>exact⟨0,[],Nat.zero_le _,rfl,by simp[mrgV],aF.nil _ _,Below.refl _ _⟩
 case round=>
  obtain⟨k,os,hk,rfl,hos,hown,hbl⟩:=hrel;have olen:os.length<=k:=by rw[hos];exact aJh ss (by rw[<-HL.out];exact hk)
  have obd:BdP (2000 * k) os:=by rw[hos];exact BS.out.mrgV o_ (by rw[<-HL.out];exact hk)
  obtain⟨z,cz,hu,_,_⟩:=hown.form;obtain⟨no,hno⟩:=nm_ os.length;have no8:no<=8:=o_;rw[<-hno]at hu;subst hu;have HOS:=hd_ hos;have HN:=hd_ hno;have HB:=hd_ hbl;have OB:=hd_ obd;have hsz:=hbl.size;have ho:wr.ownsRow w2.heap.size 213 2 (.slice z no cz) no (prs os):=by have h:=hown;unfold aF at h;rw[<-hno]at h;exact h
  have HO:=hd_ ho;clear hbl hown ho hos obd olen hno
  by_cases hlt:k<n
  ·obtain⟨b,o,rfl,hb,h1,h2⟩:=HP.out k (by rw[<-HL.out];exact hlt)
   replace h1:=(HB.out.cell (p:=⟨b,o+k * 2,none⟩) hb).trans h1;replace h2:=(HB.out.cell (p:=⟨b,o+k * 2+1,none⟩) hb).trans h2;have hs:=hd_ (nB ss k (by rw[<-HL.out];exact hlt));have hm:=BS.out.at k (by rw[<-HL.out];exact hlt);generalize pr ss k=q at h1 h2 hs hm;obtain⟨t,m⟩:=q;simp only at h1 h2 hm;obtain⟨m0,m1⟩:=hm;have k0:(0:Int)<=(k:Int):=o_;have kn:(k:Int)<(n:Int):=o_
   rcases Nat.eq_zero_or_pos no with h0|h0
   ·subst h0
    have hz:Hid (mrg os (t,m)=os++[(t,m)]):=yY (fun h=>by have:=HN.out;omega);go_wp2
    go_quiet (fail)
    obtain⟨wq,hwq⟩:=nm_ ((wr.alloc (.cells #[iv t,iv m] 213)).drewN nq);have HOq:Hid (wq.ownsRow w2.heap.size 213 2 (.slice z 0 cz) 0 (prs os)):=by rw[hwq];exact HO.out.alloc _
    have HBq:Hid (Below w2.heap.size w2 wq):=by rw[hwq];exact below_drewN (HB.out.alloc hsz _) _
    have hszq:w2.heap.size<=wq.heap.size:=by rw[hwq];show _<=(wr.alloc (.cells #[iv t,iv m] 213)).heap.size;simp;omega
    have b0q:wq.cell? ⟨wr.heap.size,0,none⟩=some (.int .i64 t):=by rw[hwq];show (wr.alloc (.cells #[iv t,iv m] 213)).cell? _=_;simp
    have b1q:wq.cell? ⟨wr.heap.size,1,none⟩=some (.int .i64 m):=by rw[hwq];show (wr.alloc (.cells #[iv t,iv m] 213)).cell? _=_;simp
    rw[<-hwq];clear hwq
    go_wp2_with (first|(at_builtin;refine wpList_append_own _ rfl _ _ 39 rfl w2.heap.size 213 i0 (.agg #[iv 0,iv 0]) 2 16 underlying39 hi hz0 hz1 hz2 rfl dc_ _ _ _ rfl (HOq.out.alloc _) ⟨wq.heap.size,0,none⟩ 1 1 [iv t,iv m] rfl rfl (dI _ _ _ _) (by simp[Value.oneCell']) (by unfold maxLen;omega) o_ (by simp;omega) ?_;intro v1 w3 ho1 hg1 _;obtain⟨g_v1,c_v1,rfl,_,_⟩:=World.ownsRow.form ho1 (Nat.succ_pos _)))
    go_roundw
    case rel=>exact⟨k+1,os++[(t,m)],o_,gn_,by rw[hs.out, <-HOS.out,hz.out],fM ho1 HN.out,bU HBq.out hszq HOq.out hg1⟩
    case measure=>simp[intOf];omega
   ·obtain⟨j,rfl⟩:∃j,no=j+1:=⟨no - 1,o_⟩
    obtain⟨gz,rfl,gz0,gz1,gzc,q1,q2,q3⟩:=aJM HO.out HN.out.symm;have hlast:=OB.out.at j (by rw[<-HN.out];omega);have hsub:os.length - 1=j:=by rw[<-HN.out];omega
    have HM1:Hid ((pr os j).1=t->mrg os (t,m)=os.set j (t,(pr os j).2+m)):=fun e=>by have:=aDc (os:=os) (p:=(t,m)) (by rw[<-HN.out];omega) (by rw[hsub];exact e);rw[hsub]at this;exact this
    have HM2:Hid (¬(pr os j).1=t->mrg os (t,m)=os++[(t,m)]):=fun e=>yY (fun h=>e (by have:=h.2;rw[hsub]at this;exact this))
    have HST:Hid (∀W:World,W.ownsRow w2.heap.size 213 2 (.slice (some ⟨gz,0,none⟩) (j+1) cz) (j+1) (prs os)->∀x,(pr os j).1=t->aF (W.setCell ⟨gz,j * 2+1,none⟩ (iv x)) w2.heap.size (.slice (some ⟨gz,0,none⟩) (j+1) cz) (os.set j (t,x))/\W.grownBy (W.setCell ⟨gz,j * 2+1,none⟩ (iv x)) (some gz)):=fun W hW x e=>by
     have hst:=hW.stored (j * 2+1) (iv x);rw[aLX os j x (by rw[<-HN.out];omega),e]at hst;refine⟨?_,hst.2⟩;unfold aF;rw[List.length_set, <-HN.out];exact hst.1
    clear hsub;generalize pr os j=l at q1 q2 HM1 HM2 HST hlast;obtain⟨t0,m0'⟩:=l;simp only at q1 q2 hlast;obtain⟨hl0,hl1⟩:=hlast;have hl2:m0'<=16000:=by (have:(k:Int)<=8:=by omega);omega
    have p0:(0:Int)<=((j+1:Nat):Int) - 1:=o_;have e1:((j+1:Nat):Int) - 1=(j:Int):=o_;have j0:(0:Int)<=(j:Int):=o_;have jn:(j:Int)<((j+1:Nat):Int):=o_;have a1:=(World.cell?_alloc_lt (w:=wr) (o:=(.cells #[iv t,iv m] 213)) (a:=⟨gz,j * 2,none⟩) (h:=gz1)).trans q1;have a2:=(World.cell?_alloc_lt (w:=wr) (o:=(.cells #[iv t,iv m] 213)) (a:=⟨gz,j * 2+1,none⟩) (h:=gz1)).trans q2
    by_cases ht:t0=t
    ·have hd:(t0==t)=true:=by simpa using ht
     have hd2:decide (t0=t)=true:=by simpa using ht
     have fin:=hd_ (HM1.out ht);have FST:=hd_ (fun W hW x=>HST.out W hW x ht);have ws:IntKind.i64.wrap (m0'+m)=m0'+m:=IntWalk.i64_in _ o_;clear ht HM1 HM2 HST hl1;go_wp2
     go_quiet (fail)
     obtain⟨wq,hwq⟩:=nm_ ((wr.alloc (.cells #[iv t,iv m] 213)).drewN nq);have HOq:Hid (wq.ownsRow w2.heap.size 213 2 (.slice (some ⟨gz,0,none⟩) (j+1) cz) (j+1) (prs os)):=by rw[hwq];exact HO.out.alloc _
     have HBq:Hid (Below w2.heap.size w2 wq):=by rw[hwq];exact below_drewN (HB.out.alloc hsz _) _
     have hszq:w2.heap.size<=wq.heap.size:=by rw[hwq];show _<=(wr.alloc (.cells #[iv t,iv m] 213)).heap.size;simp;omega
     have b0q:wq.cell? ⟨wr.heap.size,0,none⟩=some (.int .i64 t):=by rw[hwq];show (wr.alloc (.cells #[iv t,iv m] 213)).cell? _=_;simp
     have b1q:wq.cell? ⟨wr.heap.size,1,none⟩=some (.int .i64 m):=by rw[hwq];show (wr.alloc (.cells #[iv t,iv m] 213)).cell? _=_;simp
     have a2q:wq.cell? ⟨gz,j * 2+1,none⟩=some (.int .i64 m0'):=by rw[hwq];exact a2
     have fq:wq.frozen? ⟨gz,j * 2+1,none⟩=false:=World.ownsRow.frozenAt HOq.out _;rw[<-hwq];clear hwq a1 a2 q1 q2 q3
     go_wp2_with fail
     go_region
     all_goals
      have fz:=FST.out wq HOq.out (m0'+m);have FZ:=hd_ fz;clear fz;go_wp2;go_roundw
      case rel=>exact⟨k+1,os.set j (t,m0'+m),o_,gn_,by rw[hs.out, <-HOS.out,fin.out],World.ownsRow.drew FZ.out.1,((HBq.out.grown FZ.out.2 hszq (fun k e=>by cases e;exact gz0)).trans (Below.drew (Below.refl _ _)))⟩
      case measure=>simp[intOf];omega
    ·have hd:(t0==t)=false:=by simpa using ht
     have hd2:decide (t0=t)=false:=by simpa using ht
     have fin:=hd_ (HM2.out ht);clear ht HM1 HM2 HST hl1;go_wp2
     go_quiet (fail)
     obtain⟨wq,hwq⟩:=nm_ ((wr.alloc (.cells #[iv t,iv m] 213)).drewN nq);have HOq:Hid (wq.ownsRow w2.heap.size 213 2 (.slice (some ⟨gz,0,none⟩) (j+1) cz) (j+1) (prs os)):=by rw[hwq];exact HO.out.alloc _
     have HBq:Hid (Below w2.heap.size w2 wq):=by rw[hwq];exact below_drewN (HB.out.alloc hsz _) _
     have hszq:w2.heap.size<=wq.heap.size:=by rw[hwq];show _<=(wr.alloc (.cells #[iv t,iv m] 213)).heap.size;simp;omega
     have b0q:wq.cell? ⟨wr.heap.size,0,none⟩=some (.int .i64 t):=by rw[hwq];show (wr.alloc (.cells #[iv t,iv m] 213)).cell? _=_;simp
     have b1q:wq.cell? ⟨wr.heap.size,1,none⟩=some (.int .i64 m):=by rw[hwq];show (wr.alloc (.cells #[iv t,iv m] 213)).cell? _=_;simp
     have a2q:wq.cell? ⟨gz,j * 2+1,none⟩=some (.int .i64 m0'):=by rw[hwq];exact a2
     have fq:wq.frozen? ⟨gz,j * 2+1,none⟩=false:=World.ownsRow.frozenAt HOq.out _;rw[<-hwq];clear hwq a1 a2 q1 q2 q3
     go_wp2_with (first|(at_builtin;refine wpList_append_own _ rfl _ _ 39 rfl w2.heap.size 213 i0 (.agg #[iv 0,iv 0]) 2 16 underlying39 hi hz0 hz1 hz2 rfl dc_ _ _ _ rfl (HOq.out.alloc _) ⟨wq.heap.size,0,none⟩ 1 1 [iv t,iv m] rfl rfl (dI _ _ _ _) (by simp[Value.oneCell']) (by unfold maxLen;omega) o_ (by simp;omega) ?_;intro v1 w3 ho1 hg1 _;obtain⟨g_v1,c_v1,rfl,_,_⟩:=World.ownsRow.form ho1 (Nat.succ_pos _)))
     go_roundw
     case rel=>exact⟨k+1,os++[(t,m)],o_,gn_,by rw[hs.out, <-HOS.out,fin.out],fM ho1 HN.out,bU HBq.out hszq HOq.out hg1⟩
     case measure=>simp[intOf];omega
  ·obtain rfl:k=n:=o_
   have e1:ss.take k=ss:=List.take_of_length_le (by rw[<-HL.out];exact Nat.le_refl _);have FIN:Hid (aNj w ps qs wr (.slice z no cz)):=⟨ss,PE.out,SO.out,by rw[e1]at HOS;rw[<-HOS.out];have h:=HO.out;rw[HN.out]at h ⊢;exact aF.base (B:=w2.heap.size) h B2.out.size,B2.out.trans (HB.out.mono B2.out.size)⟩
   clear e1;go_wp2;go_ret;exact⟨_,rfl,FIN.out⟩
theorem vV (ps qs:List Pr) (v:Int):cF (ps++qs) v=cF ps v+cF qs v:=by simp[cF]
theorem aAX {ps qs:List Pr} (h:ps.Perm qs) (v:Int):cF ps v=cF qs v:=(h.filter _).length_eq
theorem aHG {ps:List Pr} {v:Int} (h:∀p ∈ ps,v<=p.2):cF ps v=ps.length:=by
 unfold cF;rw[List.filter_eq_self.2 (fun p hp=>by simpa using h p hp)]
theorem aGx {ps:List Pr} {v:Int} (h:∀p ∈ ps,¬v<=p.2):cF ps v=0:=by
 unfold cF;rw[List.filter_eq_nil_iff.2 (fun p hp=>by simpa using h p hp)];rfl
theorem aFj {ps:List Pr} {k i:Nat} (hi:i<k) (h:4<cF ps (pr ps i).2):(pr ps i).2<=kE ps k:=by
 induction k with
 |zero=>omega
 |succ k ih=>
  unfold kE
  by_cases e:i=k
  ·subst e;rw[if_pos h];omega
  ·have:=ih (by omega)
   split<;>omega
theorem vK (ps:List Pr) {k:Nat} (hk:k<=ps.length):kE ps k=0\/∃i,i<k/\4<cF ps (pr ps i).2/\(pr ps i).2=kE ps k:=by
 induction k with
 |zero=>exact .inl rfl
 |succ k ih=>
  have h:=ih (by omega);unfold kE
  by_cases hc:4<cF ps (pr ps k).2
  ·rw[if_pos hc]
   rcases (by omega:max (kE ps k) (pr ps k).2=kE ps k\/max (kE ps k) (pr ps k).2=(pr ps k).2)with e|e
   ·rw[e]
    rcases h with h|⟨i,h1,h2,h3⟩
    ·exact .inl h
    ·exact .inr ⟨i,by omega,h2,h3⟩
   ·exact .inr ⟨k,by omega,hc,e.symm⟩
  ·rw[if_neg hc]
   rcases h with h|⟨i,h1,h2,h3⟩
   ·exact .inl h
   ·exact .inr ⟨i,by omega,h2,h3⟩
theorem aCA {ps:List Pr} (h:ps.length<=4):bN ps=0:=by
 rcases vK ps lr_ with e|⟨i,_,h2,_⟩
 ·exact e
 ·have:=vU ps (pr ps i).2;omega
theorem aGp {ps:List Pr} (h:∀p ∈ ps,0<p.2):cE ps 0=ps:=by
 induction ps with
 |nil=>rfl
 |cons p ps ih=>
  unfold cE;rw[if_pos (h p (by simp)),ih (fun q hq=>h q (by simp[hq]))];simp
theorem aGy {ps ss:List Pr} (hp:ss.Perm ps) (hs:qG aAr ss) (hl:4<ps.length) (h0:∀p ∈ ps,0<=p.2):(pr ss 4).2=bN ps:=by
 have hlen:=hp.length_eq;have ge:∀i j,i<j->j<ss.length->(pr ss j).2<=(pr ss i).2:=fun i j hij hj=>by
  have:=(aG7 _ _).1 (hs i j hij hj);omega
 have hsplit:∀v,cF ss v=cF (ss.take 4) v+cF (ss.drop 4) v:=fun v=>by rw[<-vV,List.take_append_drop]
 have mem_ps:∀i,i<ss.length->pr ss i ∈ ps:=fun i hi=>hp.mem_iff.1 (jI hi)
 -- at least aMO have as much as the fifth
 have h5:4<cF ps (pr ss 4).2:=by
  rw[<-aAX hp];have e:ss=ss.take 5++ss.drop 5:=(List.take_append_drop _ _).symm;rw[show cF ss (pr ss 4).2=cF (ss.take 5) (pr ss 4).2+cF (ss.drop 5) (pr ss 4).2 by rw[<-vV,List.take_append_drop]];rw[aHG (ps:=ss.take 5) (fun p hp'=>by
      obtain⟨i,hi,rfl⟩:=kX hp'
      simp at hi
      rw[aHi (by omega)]
      by_cases e:i=4
      · rw[e];exact Int.le_refl _
      · exact ge i 4 (by omega) (by omega))]
  simp;omega
 apply Int.le_antisymm
 ·obtain⟨i,hi,e⟩:=kX (mem_ps 4 (by omega))
  have:=aFj (ps:=ps) (k:=ps.length) hi (by rw[e];exact h5);rw[e]at this;exact this
 ·rcases vK ps lr_ with e|⟨i,hi,h2,h3⟩
  ·have:=h0 _ (mem_ps 4 (by omega))
   have e':bN ps=0:=e;omega
  ·have e':bN ps=(pr ps i).2:=h3.symm
   rw[e'];apply Classical.byContradiction;intro hlt;rw[<-aAX hp,hsplit,aGx (ps:=ss.drop 4) (fun p hp'=>by
        obtain⟨j,hj,rfl⟩:=kX hp'
        have e2:pr (ss.drop 4) j=pr ss (4+j):=by simp[pr]
        rw[e2]
        simp at hj
        by_cases ej:j=0
        · subst ej;exact fun h=>hlt h
        · have:=ge 4 (4+j) (by omega) (by omega);omega)]at h2
   have:=vU (ss.take 4) (pr ps i).2;simp at this;omega
def Cut (w:World) (B:Nat) (ps:List Pr) (w':World) (u:Value) (n:Int):Prop:=aF w' B u (mH ps)/\n=bN ps/\Below w.heap.size w w'
theorem aCM (w:World) (B:Nat) (u:Value) (ps:List Pr) (ho:aF w B u ps) (hl:ps.length<=4) (h1:∀p ∈ ps,0<p.2):
  Calls prog 250 #[u] w fun e w'=>∃r n,e=.returned (.tuple #[r,iv n])/\Cut w B ps w' r n:=by
 have HC:Hid (Cut w B ps w u 0):=⟨by unfold mH;rw[aCA hl,aGp h1];exact ho,(aCA hl).symm,Below.refl _ _⟩
 obtain⟨x,c,rfl,_,_⟩:=ho.form;obtain⟨n,hn⟩:=nm_ ps.length;rw[<-hn]at HC hl ⊢;have hl':(n:Int)<=4:=o_;clear ho h1 hn;go_enter func250,ntmps250;go_wp2
 go_ret2
 exact⟨_,_,rfl,HC.out⟩
theorem aBh (w:World) (B:Nat) (u:Value) (ps:List Pr) (hB:B<=w.heap.size) (ho:aF w B u ps) (hl:4<ps.length) (hl8:ps.length<=8) (h1:BdP 16000 ps):
  Calls prog 250 #[u] w fun e w'=>∃r n,e=.returned (.tuple #[r,iv n])/\Cut w B ps w' r n:=by
 obtain⟨i0,hi,hz0,hz1,hz2⟩:=info_parts dY;have hp:=ho.rd;have K:=hd_ (aD0 w u ps hp hl8);have H0:Hid (∀p ∈ ps,0<=p.2):=fun p hp=>(h1 p hp).1
 have HBD:=hd_ h1;have ob:=aAG (M:=16000) o_ h1.at;obtain⟨x,c,rfl,_,_⟩:=ho.form;have HPC:=hd_ hp.cells;obtain⟨n,hn⟩:=nm_ ps.length;have HL:=hd_ hn;rw[<-hn]at K hl hl8 ⊢;obtain⟨ov,hov⟩:=nm_ (bN ps);rw[<-hov]at ob;have HOV:=hd_ hov;have hl4:¬(n:Int)<=4:=o_;clear ho hp h1 hn hov;go_enter func250,ntmps250
 go_wp2_with fail
 refine K.out.mono ?_;rintro e w1 ⟨s,rfl,ss,hperm,hsort,hs,hb1⟩;have hov5:(pr ss 4).2=ov:=by rw[HOV.out];exact aGy hperm hsort (by rw[<-HL.out];exact hl) H0.out
 have hsl:ss.length=n:=by rw[hperm.length_eq];exact HL.out.symm
 obtain⟨xs,cs,rfl,_,_⟩:=hs.form;obtain⟨b,o,rfl,hb,s1,s2⟩:=hs.cells 4 o_;rw[hov5]at s2;rw[hsl];have n4:(4:Int)<(n:Int):=o_;have B1:=hd_ hb1;clear hperm hsort hs hb1 hov5 hsl s1 K;have s2':w1.cell? ⟨b,o+9,none⟩=some (.int .i64 ov):=s2;have s2'':w1.cell? ⟨b,o+8+1,none⟩=some (.int .i64 ov):=s2;go_wp2
 go_loopw [5,19] (fun q i wr=>∃(k:Nat) (os:List Pr),k<=n/\i=.int .i64 k/\os=cE (ps.take k) ov/\aF wr w1.heap.size q os/\Below w1.heap.size w1 wr) (fun _ i _=>n - (intOf i).toNat)
 case atStart=>exact⟨0,[],Nat.zero_le _,rfl,by simp[cE],aF.nil _ _,Below.refl _ _⟩
 case round=>
  clear s2 s2' s2'';obtain⟨k,os,hk,rfl,hos,hown,hbl⟩:=hrel;obtain⟨z,cz,hu,_,_⟩:=hown.form;obtain⟨no,hno⟩:=nm_ os.length;have no8:no<=8:=by have:=aCi (ps.take k) ov;have h2:=HL.out;rw[hno,hos];simp at this;omega
  rw[<-hno]at hu;subst hu;have HOS:=hd_ hos;have HN:=hd_ hno;have HB:=hd_ hbl;have hsz:=hbl.size;have ho:wr.ownsRow w1.heap.size 213 2 (.slice z no cz) no (prs os):=by have h:=hown;unfold aF at h;rw[<-hno]at h;exact h
  have HO:=hd_ ho;clear hbl hown ho hos hno
  by_cases hlt:k<n
  ·obtain⟨b',o',rfl,hb',h1,h2⟩:=HPC.out k (by rw[<-HL.out];exact hlt)
   have tr:∀j v,w.cell? ⟨b',j,none⟩=some v->wr.cell? ⟨b',j,none⟩=some v:=fun j v h=>
    (HB.out.cell (p:=⟨b',j,none⟩) (Nat.lt_of_lt_of_le hb' B1.out.size)).trans ((B1.out.cell (p:=⟨b',j,none⟩) hb').trans h)
   replace h1:=tr _ _ h1;replace h2:=tr _ _ h2;have hs:=hd_ (aA6 ps k ov (by rw[<-HL.out];exact hlt));have hm:=HBD.out.at k (by rw[<-HL.out];exact hlt);generalize pr ps k=q at h1 h2 hs hm;obtain⟨t,m⟩:=q;simp only at h1 h2 hm;obtain⟨m0,m1⟩:=hm;have k0:(0:Int)<=(k:Int):=o_;have kn:(k:Int)<(n:Int):=o_;clear tr
   by_cases hlm:ov<m
   ·rw[if_pos (by exact hlm)]at hs
    go_wp2_with (first|(at_builtin;refine wpList_append_own _ rfl _ _ 39 rfl w1.heap.size 213 i0 (.agg #[iv 0,iv 0]) 2 16 underlying39 hi hz0 hz1 hz2 rfl dc_ _ _ _ rfl ((HO.out.alloc _).alloc _) ⟨wr.heap.size+1,0,none⟩ 1 1 [iv t,iv (m - ov)] rfl rfl (by have:=dI (wr.alloc (.cells #[iv t,iv m] 213)) (iv t) (iv (m - ov)) 213;simpa using this) (by simp[Value.oneCell']) (by unfold maxLen;omega) o_ (by simp;omega) ?_;intro v1 w3 ho1 hg1 _;obtain⟨g_v1,c_v1,rfl,_,_⟩:=World.ownsRow.form ho1 (Nat.succ_pos _)))
    go_roundw
    case rel=>exact⟨k+1,os++[(t,m - ov)],o_,gn_,by rw[hs.out,HOS.out],fM ho1 HN.out,bU (HB.out.alloc hsz _) (by simp;omega) (HO.out.alloc _) hg1⟩
    case measure=>simp[intOf];omega
   ·rw[if_neg (by exact hlm)]at hs
    go_wp2;go_roundw
    case rel=>exact⟨k+1,os,o_,gn_,by rw[hs.out,HOS.out,List.append_nil],by have h:=HO.out.alloc (.cells #[iv t,iv m] 213);rw[HN.out]at h ⊢;exact h,HB.out.alloc hsz _⟩
    case measure=>simp[intOf];omega
  ·obtain rfl:k=n:=o_
   have e1:ps.take k=ps:=List.take_of_length_le (by rw[<-HL.out];exact Nat.le_refl _);have FIN:Hid (Cut w B ps wr (.slice z no cz) ov):=⟨by unfold mH;rw[e1]at HOS;rw[<-HOV.out, <-HOS.out];have h:=HO.out;rw[HN.out]at h ⊢;exact aF.base (B:=w1.heap.size) h (Nat.le_trans hB B1.out.size),HOV.out,B1.out.trans (HB.out.mono B1.out.size)⟩
   clear e1;go_wp2
   go_ret2
   exact⟨_,_,rfl,FIN.out⟩
theorem aEZ (w:World) (B:Nat) (u:Value) (ps:List Pr) (hB:B<=w.heap.size) (ho:aF w B u ps) (hl8:ps.length<=8) (h1:BdP 16000 ps) (h2:∀p ∈ ps,0<p.2):
  Calls prog 250 #[u] w fun e w'=>∃r n,e=.returned (.tuple #[r,iv n])/\Cut w B ps w' r n:=by
 by_cases hl:ps.length<=4
 ·exact aCM w B u ps ho hl h2
 ·exact aBh w B u ps hB ho o_ hl8 h1
def Up (ps:List Pr):Prop:=ps.Pairwise (fun p q=>p.1<q.1)
def Pos (ps:List Pr):Prop:=∀p ∈ ps,0<p.2
theorem Asc.up {ps:List Pr} (h:Asc ps):Up ps:=by
 unfold Up;rw[List.pairwise_iff_getElem];intro i j hi hj hij;have:=h.lt hij hj;simpa[pr,hi,hj]using this
theorem Up.asc {ps:List Pr} (h:Up ps):Asc ps:=fun i h0 hi=>by
 unfold Up at h;rw[List.pairwise_iff_getElem]at h;have:=h (i - 1) i (by omega) hi (by omega);have h1:i - 1<ps.length:=by omega
 simpa[pr,h1,hi]using this
theorem tZ.pos {ps:List Pr} {lost all:Int} (h:tZ ps lost all):Pos ps:=fun p hp=>by
 obtain⟨i,hi,rfl⟩:=kX hp;have:=(h.2.1 i hi).1.2;omega
theorem aJr:∀{L M:List Pr},Up L->Up M->Pos L->Pos M->(∀t,tot L t=tot M t)->L=M
 | [],[],_,_,_,_,_=>rfl
 | [],m::M,_,hM,_,pM,h=>by
  have h1:=h m.1;have h2:tot M m.1=0:=hZ fun q hq=>by have:=(List.pairwise_cons.1 hM).1 q hq;omega
  have h3:=pM m (by simp);simp[tot,h2]at h1;omega
 |l::L,[],hL,_,pL,_,h=>by
  have h1:=h l.1;have h2:tot L l.1=0:=hZ fun q hq=>by have:=(List.pairwise_cons.1 hL).1 q hq;omega
  have h3:=pL l (by simp);simp[tot,h2]at h1;omega
 |l::L,m::M,hL,hM,pL,pM,h=>by
  have hL':=List.pairwise_cons.1 hL;have hM':=List.pairwise_cons.1 hM;have p1:=pL l (by simp);have p2:=pM m (by simp);have a1:tot L l.1=0:=hZ fun q hq=>by have:=hL'.1 q hq;omega
  have a2:tot M m.1=0:=hZ fun q hq=>by have:=hM'.1 q hq;omega
  have e1:l.1=m.1:=by
   rcases (by omega:l.1<m.1\/l.1=m.1\/m.1<l.1)with hlt|he|hlt
   ·have h1:=h l.1
    have a3:tot M l.1=0:=hZ fun q hq=>by have:=hM'.1 q hq;omega
    have:¬m.1=l.1:=by omega
    simp[tot,a1,a3,this]at h1;omega
   ·exact he
   ·have h1:=h m.1
    have a3:tot L m.1=0:=hZ fun q hq=>by have:=hL'.1 q hq;omega
    have:¬l.1=m.1:=by omega
    simp[tot,a2,a3,this]at h1;omega
  have e2:l.2=m.2:=by
   have h1:=h l.1;rw[e1]at a1;simp[tot,e1,a1,a2]at h1;exact h1
  have e:l=m:=Prod.ext e1 e2;subst e
  congr 1
  refine aJr hL'.2 hM'.2 (fun q hq=>pL q (by simp[hq])) (fun q hq=>pM q (by simp[hq])) fun t=>?_
  have h1:=h t;simp only[tot]at h1;omega
theorem aKV {ps qs:List Pr} (h:ps.Perm qs) (t:Int):tot ps t=tot qs t:=by
 induction h with
 |nil=>rfl
 |cons x _ ih=>simp only[tot,ih]
 |swap x y l=>simp only[tot];omega
 |trans _ _ ih1 ih2=>rw[ih1,ih2]
theorem aDP (ps:List Pr) (x:Pr) (t:Int):tot (dC ps x) t=tot ps t+if x.1=t then x.2 else 0:=by
 induction ps with
 |nil=>simp[dC,tot]
 |cons p ps ih=>
  unfold dC
  split
  ·simp only[tot,ih];omega
  ·split
   ·rename_i h1 h2
    simp only[tot,h2]
    split<;>omega
   ·simp only[tot];omega
theorem aHd {ps:List Pr} {x q:Pr} (h:q ∈ dC ps x):q.1=x.1\/q ∈ ps:=by
 induction ps with
 |nil=>simp[dC]at h;exact .inl (by rw[h])
 |cons p ps ih=>
  unfold dC at h
  split at h
  ·rcases List.mem_cons.1 h with rfl|h
   ·exact .inr (by simp)
   ·rcases ih h with h|h
    ·exact .inl h
    ·exact .inr (by simp[h])
  ·split at h
   ·rcases List.mem_cons.1 h with rfl|h
    ·exact .inl rfl
    ·exact .inr (by simp[h])
   ·rcases List.mem_cons.1 h with rfl|h
    ·exact .inl rfl
    ·exact .inr h
theorem Up.put {ps:List Pr} {x:Pr} (h:Up ps):Up (dC ps x):=by
 induction ps with
 |nil=>simp[dC,Up]
 |cons p ps ih=>
  have h':=List.pairwise_cons.1 h;unfold dC
  split
  ·rename_i hlt
   refine List.pairwise_cons.2 ⟨fun q hq=>?_,ih h'.2⟩;rcases aHd hq with e|hq
   ·rw[e];exact hlt
   ·exact h'.1 q hq
  ·split
   ·rename_i h1 h2
    exact List.pairwise_cons.2 ⟨fun q hq=>by have:=h'.1 q hq;show x.1<q.1;omega,h'.2⟩
   ·rename_i h1 h2
    refine List.pairwise_cons.2 ⟨fun q hq=>?_,h⟩;rcases List.mem_cons.1 hq with rfl|hq
    ·omega
    ·have:=h'.1 q hq;omega
theorem Pos.put {ps:List Pr} {x:Pr} (h:Pos ps) (hx:0<x.2):Pos (dC ps x):=by
 induction ps with
 |nil=>intro q hq;simp[dC]at hq;rw[hq];exact hx
 |cons p ps ih=>
  have h1:=h p (by simp);have h2:Pos ps:=fun q hq=>h q (by simp[hq])
  intro q hq;unfold dC at hq
  split at hq
  ·rcases List.mem_cons.1 hq with rfl|hq
   ·exact h1
   ·exact ih h2 q hq
  ·split at hq
   ·rcases List.mem_cons.1 hq with rfl|hq
    ·show 0<x.2+p.2;omega
    ·exact h2 q hq
   ·rcases List.mem_cons.1 hq with rfl|hq
    ·exact hx
    ·exact h q hq
def bL (ps qs:List Pr):List Pr:=qs.foldl dC ps
theorem lD (ps qs:List Pr) (hu:Up ps) (hp:Pos ps) (hq:Pos qs):Up (bL ps qs)/\Pos (bL ps qs)/\(bL ps qs).length<=ps.length+qs.length/\∀t,tot (bL ps qs) t=tot ps t+tot qs t:=by
 induction qs generalizing ps with
 |nil=>exact⟨hu,hp,by simp[bL],fun t=>by simp[bL,tot]⟩
 |cons q qs ih=>
  have h1:=ih (dC ps q) hu.put (hp.put (hq q (by simp))) (fun p hp=>hq p (by simp[hp]));refine⟨h1.1,h1.2.1,?_,fun t=>?_⟩
  ·have:=h1.2.2.1
   have:=aD9 ps q;show (bL (dC ps q) qs).length<=_
   simp;omega
  ·show tot (bL (dC ps q) qs) t=_
   rw[h1.2.2.2 t,aDP];simp only[tot];omega
theorem aFf {os:List Pr} {j:Nat} (h:os.length=j+1) (x:Pr):os=os.take j++[pr os j]/\os.set j x=os.take j++[x]:=by
 have e:=dV os j (by omega);rw[<-h,List.take_length]at e;refine⟨e,?_⟩;have hl:(os.take j).length=j:=by simp;omega
 conv=>lhs;rw[e]
 rw[List.set_append_right _ _ (by rw[hl];exact Nat.le_refl _),hl,Nat.sub_self]
 rfl
theorem aLG (os:List Pr) (p:Pr) (t:Int):tot (mrg os p) t=tot os t+if p.1=t then p.2 else 0:=by
 by_cases h:0<os.length/\(pr os (os.length - 1)).1=p.1
 ·rw[aDc h.1 h.2]
  obtain⟨j,hj⟩:∃j,os.length=j+1:=⟨os.length - 1,by omega⟩
  have e0:os.length - 1=j:=by omega
  rw[e0]at h ⊢;have e:=aFf hj (p.1,(pr os j).2+p.2);have e1:tot os t=tot (os.take j) t+tot [pr os j] t:=by rw[<-lB, <-e.1]
  rw[e.2,lB,e1];simp only[tot,h.2]
  split<;>omega
 ·rw[yY h,lB]
  simp[tot]
theorem aKN (ss:List Pr) (t:Int):∀{k:Nat},k<=ss.length->tot (mrgV (ss.take k)) t=tot (ss.take k) t:=by
 intro k
 induction k with
 |zero=>intro _;simp[mrgV,tot]
 |succ k ih=>intro hk;rw[nB ss k hk,aLG,ih (by omega),aFl ss k t hk]
theorem aL8 {ss:List Pr} (hs:qG wS ss):∀{k:Nat},k<=ss.length->Up (mrgV (ss.take k))/\∀q ∈ mrgV (ss.take k),∃i,i<k/\q.1=(pr ss i).1:=by
 intro k
 induction k with
 |zero=>intro _;exact⟨by simp[mrgV,Up],fun q hq=>by simp[mrgV]at hq⟩
 |succ k ih=>
  intro hk;have h:=ih (by omega);rw[nB ss k hk];generalize mrgV (ss.take k)=os at h ⊢;have le:∀q ∈ os,q.1<=(pr ss k).1:=fun q hq=>by
   obtain⟨i,hi,e⟩:=h.2 q hq;have:=(aFG _ _).1 (hs i k hi hk);omega
  by_cases hc:0<os.length/\(pr os (os.length - 1)).1=(pr ss k).1
  ·rw[aDc hc.1 hc.2]
   obtain⟨j,hj⟩:∃j,os.length=j+1:=⟨os.length - 1,by omega⟩
   have e0:os.length - 1=j:=by omega
   rw[e0]at hc ⊢;have e:=aFf hj ((pr ss k).1,(pr os j).2+(pr ss k).2);rw[e.2];have hu:=h.1;rw[e.1]at hu;refine⟨?_,fun q hq=>?_⟩
   ·have hu':=List.pairwise_append.1 hu
    refine List.pairwise_append.2 ⟨hu'.1,by simp,fun a ha b hb=>?_⟩;simp at hb;subst hb;have:=hu'.2.2 a ha (pr os j) (by simp);show a.1<(pr ss k).1
    rw[<-hc.2];exact this
   ·rcases List.mem_append.1 hq with hq|hq
    ·obtain⟨i,hi,e3⟩:=h.2 q (List.mem_of_mem_take hq)
     exact⟨i,by omega,e3⟩
    ·simp at hq
     subst hq;exact⟨k,by omega,rfl⟩
  ·rw[yY hc]
   refine⟨List.pairwise_append.2 ⟨h.1,by simp,fun a ha b hb=>?_⟩,fun q hq=>?_⟩
   ·simp at hb
    subst hb;have h0:0<os.length:=List.length_pos_of_mem ha;have hl:(pr os (os.length - 1)).1<(pr ss k).1:=by
     have h1:=le _ (jI (ps:=os) (i:=os.length - 1) (by omega));have h2:¬(pr os (os.length - 1)).1=(pr ss k).1:=fun e=>hc ⟨h0,e⟩
     omega
    obtain⟨i,hi,rfl⟩:=kX ha
    by_cases e:i=os.length - 1
    ·rw[e];exact hl
    ·have:=(h.1.asc).lt (i:=i) (j:=os.length - 1) (by omega) (by omega);omega
   ·rcases List.mem_append.1 hq with hq|hq
    ·obtain⟨i,hi,e3⟩:=h.2 q hq
     exact⟨i,by omega,e3⟩
    ·simp at hq
     subst hq;exact⟨k,by omega,rfl⟩
theorem Pos.mrg {os:List Pr} {p:Pr} (h:Pos os) (hp:0<p.2):Pos (mrg os p):=by
 unfold YtcblbdpdbggkbaaGreat.T.mrg
 split
 ·rename_i hc
  intro q hq;have hl:=h _ (jI (ps:=os) (i:=os.length - 1) (by omega));rcases List.mem_or_eq_of_mem_set hq with h1|h1
  ·exact h q h1
  ·rw[h1];show 0<_+_;omega
 ·intro q hq
  rcases List.mem_append.1 hq with h1|h1
  ·exact h q h1
  ·simp at h1;subst h1;exact hp
theorem Pos.mrgV {ss:List Pr} (h:Pos ss):∀{k:Nat},k<=ss.length->Pos (mrgV (ss.take k)):=by
 intro k
 induction k with
 |zero=>intro _ q hq;simp[YtcblbdpdbggkbaaGreat.T.mrgV]at hq
 |succ k ih=>intro hk;rw[nB ss k hk];exact (ih (by omega)).mrg (h _ (jI hk))
theorem aIG {ps qs ss:List Pr} (hu:Up ps) (hp:Pos ps) (hq:Pos qs) (hperm:ss.Perm (ps++qs)) (hs:qG wS ss):mrgV ss=bL ps qs:=by
 have hb:=lD ps qs hu hp hq;have hpos:Pos ss:=fun p hp'=>by
  rcases List.mem_append.1 (hperm.mem_iff.1 hp')with h|h
  ·exact hp p h
  ·exact hq p h
 have e:ss.take ss.length=ss:=List.take_length;have h1:=(aL8 hs lr_).1;have h2:=hpos.mrgV lr_;have h3:=fun t=>aKN ss t lr_
 rw[e]at h1 h2 h3;exact aJr h1 hb.1 h2 hb.2.1 fun t=>by rw[h3 t,aKV hperm,lB,hb.2.2.2 t]
def fB (ps:List Pr) (la aa:Int) (qs:List Pr) (lb ab:Int):Bool:=cV ps la aa&&(cV qs lb ab&&decide (aa+ab<=2000))
def eO (ps:List Pr) (la aa:Int) (qs:List Pr) (lb ab:Int):Tp:=if fB ps la aa qs lb ab then (mH (bL ps qs),la+lb+bN (bL ps qs),aa+ab)else aHf
theorem pA {ps qs:List Pr} {la aa lb ab:Int} (h:fB ps la aa qs lb ab=false):eO ps la aa qs lb ab=aHf:=by simp[eO,h]
theorem oW {ps qs:List Pr} {la aa lb ab:Int} (h:fB ps la aa qs lb ab=true):eO ps la aa qs lb ab=(mH (bL ps qs),la+lb+bN (bL ps qs),aa+ab):=by simp[eO,h]
theorem iZ (ps:List Pr) (la aa:Int) (qs:List Pr) (lb ab:Int):(cV ps la aa=false/\fB ps la aa qs lb ab=false)\/(cV ps la aa=true/\cV qs lb ab=false/\fB ps la aa qs lb ab=false)\/(cV ps la aa=true/\cV qs lb ab=true/\2000<aa+ab/\fB ps la aa qs lb ab=false)\/(cV ps la aa=true/\cV qs lb ab=true/\aa+ab<=2000/\fB ps la aa qs lb ab=true):=by
 unfold fB;cases h:cV ps la aa
 ·exact .inl ⟨rfl,rfl⟩
 ·cases h':cV qs lb ab
  ·exact .inr (.inl ⟨rfl,rfl,rfl⟩)
  ·by_cases ha:aa+ab<=2000
   ·exact .inr (.inr (.inr ⟨rfl,rfl,ha,by simp[ha]⟩))
   ·exact .inr (.inr (.inl ⟨rfl,rfl,by omega,by simp[ha]⟩))
theorem oA (w:World) (x0 x1 x2 y0 y1 y2:Value):
  bP (((w.alloc (.cells #[x0,x1,x2] 41)).alloc (.cells #[y0,y1,y2] 41)).alloc (.cells #[zn,iv 0,iv 0] 41)) w.heap.size 41 x0 x1 x2/\
  bP (((w.alloc (.cells #[x0,x1,x2] 41)).alloc (.cells #[y0,y1,y2] 41)).alloc (.cells #[zn,iv 0,iv 0] 41)) (w.heap.size+1) 41 y0 y1 y2/\
  bP (((w.alloc (.cells #[x0,x1,x2] 41)).alloc (.cells #[y0,y1,y2] 41)).alloc (.cells #[zn,iv 0,iv 0] 41)) (w.heap.size+1+1) 41 zn (iv 0) (iv 0)/\
  Below w.heap.size w (((w.alloc (.cells #[x0,x1,x2] 41)).alloc (.cells #[y0,y1,y2] 41)).alloc (.cells #[zn,iv 0,iv 0] 41)):=by
 refine⟨((bP.new _ _ _ _ _).alloc _).alloc _,?_,?_,(((Below.refl _ _).alloc lr_ _).alloc (by simp) _).alloc (by simp;omega) _⟩
 ·have h:=bP.new (w.alloc (.cells #[x0,x1,x2] 41)) 41 y0 y1 y2
  have e:(w.alloc (.cells #[x0,x1,x2] 41)).heap.size=w.heap.size+1:=by simp
  rw[e]at h;exact h.alloc _
 ·have h:=bP.new ((w.alloc (.cells #[x0,x1,x2] 41)).alloc (.cells #[y0,y1,y2] 41)) 41 zn (iv 0) (iv 0)
  have e:((w.alloc (.cells #[x0,x1,x2] 41)).alloc (.cells #[y0,y1,y2] 41)).heap.size=w.heap.size+1+1:=by simp
  rw[e]at h;exact h
theorem BdP.tot {M:Int} {ps:List Pr} (h:BdP M ps) (hM:0<=M) (t:Int):0<=tot ps t/\tot ps t<=M * ps.length:=by
 induction ps with
 |nil=>simp[YtcblbdpdbggkbaaGreat.T.tot]
 |cons p ps ih=>
  have h1:=ih (fun q hq=>h q (by simp[hq]));have h2:=h p (by simp);have e:M * ((p::ps).length:Int)=M * (ps.length:Int)+M:=by simp[Int.mul_add]
  rw[e];simp only[YtcblbdpdbggkbaaGreat.T.tot]
  split<;>omega
theorem aFk {ps qs:List Pr} (ua:Up ps) (ba:BdP 2000 ps) (bb:BdP 2000 qs) (pa:Pos ps) (pb:Pos qs) (lb:qs.length<=4):BdP 16000 (bL ps qs):=fun p hp=>by
 have hb:=lD ps qs ua pa pb;have h0:=hb.2.1 p hp;obtain⟨i,hi,rfl⟩:=kX hp;have e:=hb.1.asc.at hi;rw[hb.2.2.2]at e;have h2:=bb.tot o_ (pr (bL ps qs) i).1;have h1:tot ps (pr (bL ps qs) i).1<=2000:=by
  by_cases hx:∃j,j<ps.length/\(pr ps j).1=(pr (bL ps qs) i).1
  ·obtain⟨j,hj,ej⟩:=hx
   rw[<-ej,ua.asc.at hj];exact (ba.at j hj).2
  ·rw[hZ fun q hq ej=>by obtain⟨j,hj,rfl⟩:=kX hq;exact hx ⟨j,hj,ej⟩]
   omega
 omega
theorem pZ (w:World) (u v:Value) (ps qs:List Pr) (la aa lb ab:Int) (hp:Prs w u ps) (hq:Prs w v qs) (hno:fB ps la aa qs lb ab=false):
  Calls prog 197 #[.agg #[u,iv la,iv aa],.agg #[v,iv lb,iv ab]] w fun e w'=>e=.returned (.tuple #[.agg #[zn,iv 0,iv 0],.bool false])/\Below w.heap.size w w':=by
 obtain⟨x,ca,rfl,_,_⟩:=hp.form;obtain⟨y,cb,rfl,_,_⟩:=hq.form;obtain⟨na,hna⟩:=nm_ ps.length;obtain⟨nb,hnb⟩:=nm_ qs.length;rw[<-hna]at hp ⊢;rw[<-hnb]at hq ⊢;obtain⟨X0,Y0,R0,hA⟩:=oA w (.slice x na ca) (iv la) (iv aa) (.slice y nb cb) (iv lb) (iv ab)
 obtain⟨W0,hW0⟩:=nm_ (((w.alloc (.cells #[.slice x na ca,iv la,iv aa] 41)).alloc (.cells #[.slice y nb cb,iv lb,iv ab] 41)).alloc (.cells #[zn,iv 0,iv 0] 41));rw[<-hW0]at X0 Y0 R0 hA;have HW0:=hd_ hW0;have HA:=hd_ hA;have PA:=hd_ (hp.below hA lr_);have PB:=hd_ (hq.below hA lr_);have KA:=hd_ (nW W0 _ ps la aa PA.out)
 have KB:Hid (∀W,Below W0.heap.size W0 W->Calls prog 177 #[.agg #[.slice y nb cb,iv lb,iv ab]] W fun e w'=>e=.returned (.bool (cV qs lb ab))/\Below W.heap.size W w'):=fun W h=>nW W _ qs lb ab (PB.out.below h lr_)
 have x0:=X0.cell0;have x1:=X0.cell1;have x2:=X0.cell2;have y0:=Y0.cell0;have y1:=Y0.cell1;have y2:=Y0.cell2;have HC:=hd_ (iZ ps la aa qs lb ab);have HNO:=hd_ hno;clear hp hq hna hnb hW0 hA hno;rcases HC.out with ⟨ha,_⟩|⟨ha,hb',_⟩|⟨ha,hb',hs,_⟩|⟨_,_,_,h⟩
 ·rw[ha]at KA
  clear ha KB HC;go_enter func197,ntmps197
  go_wp2_with fail
  rw[<-HW0.out];clear HW0
  go_wp2_with fail
  refine KA.out.mono ?_;rintro e w1 ⟨rfl,hb⟩;have R1:=R0.later hb;have B1:=HA.out.trans (hb.mono HA.out.size);clear x0 x1 x2 y0 y1 y2 X0 Y0 R0 hb;have z0:=R1.cell0;have z1:=R1.cell1;have z2:=R1.cell2;have f2:=R1.free;have RZ:=R1.set zn (iv 0) (iv 0);have hr0:=RZ.cell0;have hr1:=RZ.cell1;have hr2:=RZ.cell2;have BZ:=hd_ (cT (b:=w.heap.size+1+1) B1 o_ zn (iv 0) (iv 0));clear RZ;go_wp2
  exact zAQ
 ·rw[ha]at KA
  rw[hb']at KB;clear ha hb' HC;go_enter func197,ntmps197
  go_wp2_with fail
  rw[<-HW0.out];clear HW0
  go_wp2_with fail
  refine KA.out.mono ?_;rintro e w1 ⟨rfl,hb⟩;have R1:=R0.later hb;have Y1:=Y0.later hb;have B1:=hd_ (HA.out.trans (hb.mono HA.out.size));have KB1:=hd_ (KB.out w1 hb);clear x0 x1 x2 y0 y1 y2 X0 Y0 R0 hb KB;have y0:=Y1.cell0;have y1:=Y1.cell1;have y2:=Y1.cell2
  go_wp2_with fail
  refine KB1.out.mono ?_;rintro e w2 ⟨rfl,hb⟩;have R2:=R1.later hb;have B2:=B1.out.trans (hb.mono B1.out.size);clear y0 y1 y2 Y1 R1 hb;have z0:=R2.cell0;have z1:=R2.cell1;have z2:=R2.cell2;have f2:=R2.free;have RZ:=R2.set zn (iv 0) (iv 0);have hr0:=RZ.cell0;have hr1:=RZ.cell1;have hr2:=RZ.cell2;have BZ:=hd_ (cT (b:=w.heap.size+1+1) B2 o_ zn (iv 0) (iv 0));clear RZ;go_wp2
  exact zAQ
 ·rw[ha]at KA
  rw[hb']at KB;have hPa:=(cG _ _ _).1 ha;have hPb:=(cG _ _ _).1 hb';have a1:=hPa.1.2.2;have a2:=hPb.1.2.2;clear ha hb' HC hPa hPb;go_enter func197,ntmps197
  go_wp2_with fail
  rw[<-HW0.out];clear HW0
  go_wp2_with fail
  refine KA.out.mono ?_;rintro e w1 ⟨rfl,hb⟩;have X1:=X0.later hb;have R1:=R0.later hb;have Y1:=Y0.later hb;have B1:=hd_ (HA.out.trans (hb.mono HA.out.size));have KB1:=hd_ (KB.out w1 hb);clear x0 x1 x2 y0 y1 y2 X0 Y0 R0 hb KB;have y0:=Y1.cell0;have y1:=Y1.cell1;have y2:=Y1.cell2
  go_wp2_with fail
  refine KB1.out.mono ?_;rintro e w2 ⟨rfl,hb⟩;have X2:=X1.later hb;have Y2:=Y1.later hb;have R2:=R1.later hb;have B2:=B1.out.trans (hb.mono B1.out.size);clear y0 y1 y2 Y1 R1 X1 hb;have x2:=X2.cell2;have y2:=Y2.cell2;have z0:=R2.cell0;have z1:=R2.cell1;have z2:=R2.cell2;have f2:=R2.free;have RZ:=R2.set zn (iv 0) (iv 0);have hr0:=RZ.cell0;have hr1:=RZ.cell1;have hr2:=RZ.cell2
  have BZ:=hd_ (cT (b:=w.heap.size+1+1) B2 o_ zn (iv 0) (iv 0));clear RZ;go_wp2;exact zAQ
 ·rw[HNO.out]at h;cases h
theorem qR (w:World) (u v:Value) (ps qs:List Pr) (la aa lb ab:Int) (hp:Prs w u ps) (hq:Prs w v qs) (hno:fB ps la aa qs lb ab=false):
  Calls prog 172 #[.agg #[u,iv la,iv aa],.agg #[v,iv lb,iv ab]] w fun e w'=>e=.returned (.tuple #[.agg #[zn,iv 0,iv 0],.bool false])/\Below w.heap.size w w':=by
 obtain⟨x,ca,rfl,_,_⟩:=hp.form;obtain⟨y,cb,rfl,_,_⟩:=hq.form;obtain⟨na,hna⟩:=nm_ ps.length;obtain⟨nb,hnb⟩:=nm_ qs.length;rw[<-hna]at hp ⊢;rw[<-hnb]at hq ⊢;obtain⟨X0,Y0,R0,hA⟩:=oA w (.slice x na ca) (iv la) (iv aa) (.slice y nb cb) (iv lb) (iv ab)
 obtain⟨W0,hW0⟩:=nm_ (((w.alloc (.cells #[.slice x na ca,iv la,iv aa] 41)).alloc (.cells #[.slice y nb cb,iv lb,iv ab] 41)).alloc (.cells #[zn,iv 0,iv 0] 41));rw[<-hW0]at X0 Y0 R0 hA;have HW0:=hd_ hW0;have HA:=hd_ hA;have PA:=hd_ (hp.below hA lr_);have PB:=hd_ (hq.below hA lr_);have KA:=hd_ (jY W0 _ ps la aa PA.out)
 have KB:Hid (∀W,Below W0.heap.size W0 W->Calls prog 221 #[.agg #[.slice y nb cb,iv lb,iv ab]] W fun e w'=>e=.returned (.bool (cV qs lb ab))/\Below W.heap.size W w'):=fun W h=>jY W _ qs lb ab (PB.out.below h lr_)
 have x0:=X0.cell0;have x1:=X0.cell1;have x2:=X0.cell2;have y0:=Y0.cell0;have y1:=Y0.cell1;have y2:=Y0.cell2;have HC:=hd_ (iZ ps la aa qs lb ab);have HNO:=hd_ hno;clear hp hq hna hnb hW0 hA hno;rcases HC.out with ⟨ha,_⟩|⟨ha,hb',_⟩|⟨ha,hb',hs,_⟩|⟨_,_,_,h⟩
 ·rw[ha]at KA
  clear ha KB HC;go_enter func172,ntmps172
  go_wp2_with fail
  rw[<-HW0.out];clear HW0
  go_wp2_with fail
  refine KA.out.mono ?_;rintro e w1 ⟨rfl,hb⟩;have R1:=R0.later hb;have B1:=HA.out.trans (hb.mono HA.out.size);clear x0 x1 x2 y0 y1 y2 X0 Y0 R0 hb;have z0:=R1.cell0;have z1:=R1.cell1;have z2:=R1.cell2;have f2:=R1.free;have RZ:=R1.set zn (iv 0) (iv 0);have hr0:=RZ.cell0;have hr1:=RZ.cell1;have hr2:=RZ.cell2;have BZ:=hd_ (cT (b:=w.heap.size+1+1) B1 o_ zn (iv 0) (iv 0));clear RZ;go_wp2
  exact zAR
 ·rw[ha]at KA
  rw[hb']at KB;clear ha hb' HC;go_enter func172,ntmps172
  go_wp2_with fail
  rw[<-HW0.out];clear HW0
  go_wp2_with fail
  refine KA.out.mono ?_;rintro e w1 ⟨rfl,hb⟩;have R1:=R0.later hb;have Y1:=Y0.later hb;have B1:=hd_ (HA.out.trans (hb.mono HA.out.size));have KB1:=hd_ (KB.out w1 hb);clear x0 x1 x2 y0 y1 y2 X0 Y0 R0 hb KB;have y0:=Y1.cell0;have y1:=Y1.cell1;have y2:=Y1.cell2
  go_wp2_with fail
  refine KB1.out.mono ?_;rintro e w2 ⟨rfl,hb⟩;have R2:=R1.later hb;have B2:=B1.out.trans (hb.mono B1.out.size);clear y0 y1 y2 Y1 R1 hb;have z0:=R2.cell0;have z1:=R2.cell1;have z2:=R2.cell2;have f2:=R2.free;have RZ:=R2.set zn (iv 0) (iv 0);have hr0:=RZ.cell0;have hr1:=RZ.cell1;have hr2:=RZ.cell2;have BZ:=hd_ (cT (b:=w.heap.size+1+1) B2 o_ zn (iv 0) (iv 0));clear RZ;go_wp2
  exact zAR
 ·rw[ha]at KA
  rw[hb']at KB;have hPa:=(cG _ _ _).1 ha;have hPb:=(cG _ _ _).1 hb';have a1:=hPa.1.2.2;have a2:=hPb.1.2.2;clear ha hb' HC hPa hPb;go_enter func172,ntmps172
  go_wp2_with fail
  rw[<-HW0.out];clear HW0
  go_wp2_with fail
  refine KA.out.mono ?_;rintro e w1 ⟨rfl,hb⟩;have X1:=X0.later hb;have R1:=R0.later hb;have Y1:=Y0.later hb;have B1:=hd_ (HA.out.trans (hb.mono HA.out.size));have KB1:=hd_ (KB.out w1 hb);clear x0 x1 x2 y0 y1 y2 X0 Y0 R0 hb KB;have y0:=Y1.cell0;have y1:=Y1.cell1;have y2:=Y1.cell2
  go_wp2_with fail
  refine KB1.out.mono ?_;rintro e w2 ⟨rfl,hb⟩;have X2:=X1.later hb;have Y2:=Y1.later hb;have R2:=R1.later hb;have B2:=B1.out.trans (hb.mono B1.out.size);clear y0 y1 y2 Y1 R1 X1 hb;have x2:=X2.cell2;have y2:=Y2.cell2;have z0:=R2.cell0;have z1:=R2.cell1;have z2:=R2.cell2;have f2:=R2.free;have RZ:=R2.set zn (iv 0) (iv 0);have hr0:=RZ.cell0;have hr1:=RZ.cell1;have hr2:=RZ.cell2
  have BZ:=hd_ (cT (b:=w.heap.size+1+1) B2 o_ zn (iv 0) (iv 0));clear RZ;go_wp2;exact zAR
 ·rw[HNO.out]at h;cases h
def aAZ (w:World) (ps qs:List Pr) (w':World) (r:Value):Prop:=aF w' w.heap.size r (mH (bL ps qs))/\Below w.heap.size w w'
theorem aBH (w:World) (u v:Value) (ps qs:List Pr) (la aa lb ab:Int) (hp:Prs w u ps) (hq:Prs w v qs) (ha:cV ps la aa=true) (hb':cV qs lb ab=true) (hs:aa+ab<=2000):
  Calls prog 197 #[.agg #[u,iv la,iv aa],.agg #[v,iv lb,iv ab]] w fun e w'=>∃r,e=.returned (.tuple #[.agg #[r,iv (la+lb+bN (bL ps qs)),iv (aa+ab)],.bool true])/\aAZ w ps qs w' r:=by
 obtain⟨x,ca,rfl,_,_⟩:=hp.form;obtain⟨y,cb,rfl,_,_⟩:=hq.form;obtain⟨na,hna⟩:=nm_ ps.length;obtain⟨nb,hnb⟩:=nm_ qs.length;rw[<-hna]at hp ⊢;rw[<-hnb]at hq ⊢;obtain⟨X0,Y0,R0,hA⟩:=oA w (.slice x na ca) (iv la) (iv aa) (.slice y nb cb) (iv lb) (iv ab)
 obtain⟨W0,hW0⟩:=nm_ (((w.alloc (.cells #[.slice x na ca,iv la,iv aa] 41)).alloc (.cells #[.slice y nb cb,iv lb,iv ab] 41)).alloc (.cells #[zn,iv 0,iv 0] 41));rw[<-hW0]at X0 Y0 R0 hA;have HW0:=hd_ hW0;have HA:=hd_ hA;have PA:=hd_ (hp.below hA lr_);have PB:=hd_ (hq.below hA lr_);have KA:=hd_ (nW W0 _ ps la aa PA.out)
 have KB:Hid (∀W,Below W0.heap.size W0 W->Calls prog 177 #[.agg #[.slice y nb cb,iv lb,iv ab]] W fun e w'=>e=.returned (.bool (cV qs lb ab))/\Below W.heap.size W w'):=fun W h=>nW W _ qs lb ab (PB.out.below h lr_)
 have x0:=X0.cell0;have x1:=X0.cell1;have x2:=X0.cell2;have y0:=Y0.cell0;have y1:=Y0.cell1;have y2:=Y0.cell2;have hPa:=(cG _ _ _).1 ha;have hPb:=(cG _ _ _).1 hb';have la4:=hPa.1.1;have lb4:=hPb.1.1;have la2:=hPa.1.2.1;have lb2:=hPb.1.2.1;have a1:=hPa.1.2.2;have a2:=hPb.1.2.2;have ba:=hPa.bd;have bb:=hPb.bd;have pa:=hPa.pos;have pb:=hPb.pos;have ua:=hPa.asc.up;rw[ha]at KA;rw[hb']at KB
 have KP:Hid (∀W,Prs W (.slice x na ca) ps->Prs W (.slice y nb cb) qs->Calls prog 251 #[.slice x na ca,.slice y nb cb] W fun e w'=>∃r,e=.returned r/\aF w' W.heap.size r (bL ps qs)/\Below W.heap.size W w'):=fun W h1 h2=>
  (aAe W _ _ ps qs h1 h2 la4 lb4 ba bb).mono fun e w' ⟨r,he,ss,q1,q2,q3,q4⟩=>⟨r,he,by rw[<-aIG ua pa pb q1 q2];exact q3,q4⟩
 have hbp:=lD ps qs ua pa pb;have LB:Hid ((bL ps qs).length<=8):=by show _<=_;have:=hbp.2.2.1;omega
 have PB':=hd_ hbp.2.1;have BD:Hid (BdP 16000 (bL ps qs)):=aFk ua ba bb pa pb lb4;have ob:=aAG (M:=16000) o_ BD.out.at;obtain⟨bs,hbs⟩:=nm_ (bL ps qs);rw[<-hbs]at KP LB PB' BD ob ⊢;obtain⟨ov,hov⟩:=nm_ (bN bs);rw[<-hov]at ob ⊢;have HBS:=hd_ hbs;have HOV:=hd_ hov;have KCU:Hid (∀W r,aF W W.heap.size r bs->True):=fun _ _ _=>trivial
 clear hp hq hna hnb hW0 hA ha hb' hPa hPb ba bb pa pb ua hbp hbs hov KCU;go_enter func197,ntmps197
 go_wp2_with fail
 rw[<-HW0.out];clear HW0
 go_wp2_with fail
 refine KA.out.mono ?_;rintro e w1 ⟨rfl,hb⟩;have X1:=X0.later hb;have R1:=R0.later hb;have Y1:=Y0.later hb;have B1:=hd_ (HA.out.trans (hb.mono HA.out.size));have PA1:=hd_ (PA.out.below hb lr_);have PB1:=hd_ (PB.out.below hb lr_);have KB1:=hd_ (KB.out w1 hb);clear x0 x1 x2 y0 y1 y2 X0 Y0 R0 hb KB KA PA PB;have y0:=Y1.cell0;have y1:=Y1.cell1;have y2:=Y1.cell2
 go_wp2_with fail
 refine KB1.out.mono ?_;rintro e w2 ⟨rfl,hb⟩;have X2:=X1.later hb;have Y2:=Y1.later hb;have R2:=R1.later hb;have B2:=hd_ (B1.out.trans (hb.mono B1.out.size));have PA2:=hd_ (PA1.out.below hb lr_);have PB2:=hd_ (PB1.out.below hb lr_);clear y0 y1 y2 Y1 R1 X1 hb KB1 PA1 PB1 B1;have x0:=X2.cell0;have x1:=X2.cell1;have x2:=X2.cell2;have y0:=Y2.cell0;have y1:=Y2.cell1;have y2:=Y2.cell2
 go_wp2_with fail
 refine (KP.out w2 PA2.out PB2.out).mono ?_;rintro e w3 ⟨r,rfl,ho3,hb⟩;obtain⟨xr,cr,rfl,_,_⟩:=ho3.form;have X3:=X2.later hb;have Y3:=Y2.later hb;have R3:=R2.later hb;have B3:=hd_ (B2.out.trans (hb.mono B2.out.size));have s23:=hb.size;have KC:=hd_ (aEZ w3 w2.heap.size _ bs hb.size ho3 LB.out BD.out PB'.out);have OB3:=hd_ (fun k e=>(World.ownsRow.lt ho3 k e).1)
 generalize bs.length=nbs at KC ⊢;clear x0 x1 x2 y0 y1 y2 X2 Y2 R2 hb ho3 KP PA2 PB2
 go_wp2_with fail
 refine KC.out.mono ?_;rintro e w4 ⟨r,n,rfl,ho4,hn,hb⟩;have X4:=X3.later hb;have Y4:=Y3.later hb;have R4:=R3.later hb;have B4:=hd_ (B3.out.trans (hb.mono B3.out.size));rw[<-HOV.out]at hn;subst hn;obtain⟨xz,cz,rfl,_,_⟩:=ho4.form;obtain⟨cs,hcs⟩:=nm_ (mH bs);rw[<-hcs]at ho4 ⊢;have HCS:=hd_ hcs;have x1:=X4.cell1;have x2:=X4.cell2;have y1:=Y4.cell1;have y2:=Y4.cell2;have z0:=R4.cell0;have z1:=R4.cell1
 have z2:=R4.cell2;have f2:=R4.free;have RZ:=R4.set (.slice xz cs.length cz) (iv (la+lb+n)) (iv (aa+ab));have hr0:=RZ.cell0;have hr1:=RZ.cell1;have hr2:=RZ.cell2;have OZ:=hd_ ((ho4.set3 (b:=w.heap.size+1+1) (R4.not_row dc_ ho4) (.slice xz cs.length cz) (iv (la+lb+n)) (iv (aa+ab))).base (B':=w.heap.size) (B2.out.size))
 have BZ:=hd_ (cT (b:=w.heap.size+1+1) B4.out o_ (.slice xz cs.length cz) (iv (la+lb+n)) (iv (aa+ab)));have FIN:Hid (aAZ w ps qs (((w4.setCell ⟨w.heap.size+1+1,0,none⟩ (.slice xz cs.length cz)).setCell ⟨w.heap.size+1+1,1,none⟩ (iv (la+lb+n))).setCell ⟨w.heap.size+1+1,2,none⟩ (iv (aa+ab))) (.slice xz cs.length cz)):=by
  refine⟨?_,BZ.out⟩;rw[<-HBS.out, <-HCS.out];exact OZ.out
 clear RZ X3 Y3 R3 X4 Y4 R4 ho4 hb hcs OZ BZ;go_wp2;exact bodyPost_ret (v:=.tuple #[.agg #[.slice xz cs.length cz,iv (la+lb+n),iv (aa+ab)],.bool true]) (by simp[results,results197,go_sem,hr0,hr1,hr2]) rfl ⟨_,rfl,FIN.out⟩
theorem aA8 (ps qs:List Pr) (k:Nat) (h:k<qs.length):bL ps (qs.take (k+1))=dC (bL ps (qs.take k)) (pr qs k):=by
 rw[dV qs k h];simp[bL]
theorem aBL (w:World) (u v:Value) (ps qs:List Pr) (la aa lb ab:Int) (hp:Prs w u ps) (hq:Prs w v qs) (ha:cV ps la aa=true) (hb':cV qs lb ab=true) (hs:aa+ab<=2000):
  Calls prog 172 #[.agg #[u,iv la,iv aa],.agg #[v,iv lb,iv ab]] w fun e w'=>∃r,e=.returned (.tuple #[.agg #[r,iv (la+lb+bN (bL ps qs)),iv (aa+ab)],.bool true])/\aAZ w ps qs w' r:=by
 obtain⟨x,ca,rfl,_,_⟩:=hp.form;obtain⟨y,cb,rfl,_,_⟩:=hq.form;obtain⟨na,hna⟩:=nm_ ps.length;obtain⟨nb,hnb⟩:=nm_ qs.length;rw[<-hna]at hp ⊢;rw[<-hnb]at hq ⊢;obtain⟨X0,Y0,R0,hA⟩:=oA w (.slice x na ca) (iv la) (iv aa) (.slice y nb cb) (iv lb) (iv ab)
 obtain⟨W0,hW0⟩:=nm_ (((w.alloc (.cells #[.slice x na ca,iv la,iv aa] 41)).alloc (.cells #[.slice y nb cb,iv lb,iv ab] 41)).alloc (.cells #[zn,iv 0,iv 0] 41));rw[<-hW0]at X0 Y0 R0 hA;have HW0:=hd_ hW0;have HA:=hd_ hA;have PA:=hd_ (hp.below hA lr_);have PB:=hd_ (hq.below hA lr_);have KA:=hd_ (jY W0 _ ps la aa PA.out)
 have KB:Hid (∀W,Below W0.heap.size W0 W->Calls prog 221 #[.agg #[.slice y nb cb,iv lb,iv ab]] W fun e w'=>e=.returned (.bool (cV qs lb ab))/\Below W.heap.size W w'):=fun W h=>jY W _ qs lb ab (PB.out.below h lr_)
 have x0:=X0.cell0;have x1:=X0.cell1;have x2:=X0.cell2;have y0:=Y0.cell0;have y1:=Y0.cell1;have y2:=Y0.cell2;have hPa:=(cG _ _ _).1 ha;have hPb:=(cG _ _ _).1 hb';have la4:=hPa.1.1;have lb4:=hPb.1.1;have la2:=hPa.1.2.1;have lb2:=hPb.1.2.1;have a1:=hPa.1.2.2;have a2:=hPb.1.2.2;have ba:=hPa.bd;have bb:=hPb.bd;have pa:=hPa.pos;have pb:=hPb.pos;have ua:=hPa.asc.up;rw[ha]at KA;rw[hb']at KB
 obtain⟨i0,hi,hz0,hz1,hz2⟩:=info_parts dY;have GA:=hd_ (fun k=>(⟨aFk (qs:=qs.take k) ua ba (fun p hp=>bb p (List.mem_of_mem_take hp)) pa (fun p hp=>pb p (List.mem_of_mem_take hp)) (by simp;omega),by have h:=(lD ps (qs.take k) ua pa (fun p hp=>pb p (List.mem_of_mem_take hp))).2.2.1;simp at h;omega⟩:BdP 16000 (bL ps (qs.take k))/\(bL ps (qs.take k)).length<=8))
 have HBB:=hd_ bb;have HNA:=hd_ hna;have HNB:=hd_ hnb;have na4:na<=4:=o_;have nb4:nb<=4:=o_;have NX:Hid (x=none->ps=[]/\na=0/\ca=0):=fun e=>by
  subst e;rcases hp with ⟨e,h0⟩|⟨b,o,c,e,_⟩
  ·injection e with e1 e2 e3;exact⟨h0,e2,e3⟩
  ·cases e
 have SX:Hid (∀a,x=some a->∃b o,a=⟨b,o,none⟩):=fun a e=>by
  rcases hp with ⟨e',_⟩|⟨b,o,c,e',_⟩
  ·rw[e]at e';cases e'
  ·exact zA0
 have KC:Hid (∀W r,aF W 0 r (bL ps qs)->Calls prog 227 #[.agg #[r,iv (la+lb),iv (aa+ab)]] W fun e w'=>∃v,e=.returned (.agg #[v,iv (la+lb+bN (bL ps qs)),iv (aa+ab)])/\aF w' W.heap.size v (mH (bL ps qs))/\Below W.heap.size W w'):=fun W r h=>
  aFu W r (bL ps qs) (la+lb) (aa+ab) h.rd (by have h:=(GA.out qs.length).2;rw[List.take_length]at h;omega) (by have h:=(GA.out qs.length).1;rw[List.take_length]at h;exact (h.mono o_).at) o_ o_
 clear hp hq hna hnb hW0 hA ha hb' hPa hPb ba bb pa pb ua;go_enter func172,ntmps172
 go_wp2_with fail
 rw[<-HW0.out];clear HW0
 go_wp2_with fail
 refine KA.out.mono ?_;rintro e w1 ⟨rfl,hb⟩;have X1:=X0.later hb;have R1:=R0.later hb;have Y1:=Y0.later hb;have B1:=hd_ (HA.out.trans (hb.mono HA.out.size));have PA1:=hd_ (PA.out.below hb lr_);have PB1:=hd_ (PB.out.below hb lr_);have KB1:=hd_ (KB.out w1 hb);clear x0 x1 x2 y0 y1 y2 X0 Y0 R0 hb KB KA PA PB;have y0:=Y1.cell0;have y1:=Y1.cell1;have y2:=Y1.cell2
 go_wp2_with fail
 refine KB1.out.mono ?_;rintro e w2 ⟨rfl,hb⟩;have X2:=X1.later hb;have Y2:=Y1.later hb;have R2:=R1.later hb;have B2:=hd_ (B1.out.trans (hb.mono B1.out.size));have PA2:=hd_ (PA1.out.below hb lr_);have PB2:=hd_ (PB1.out.below hb lr_);clear y0 y1 y2 Y1 R1 X1 hb KB1 PA1 PB1 B1;have x0:=X2.cell0;have x1:=X2.cell1;have x2:=X2.cell2;have y0:=Y2.cell0;have y1:=Y2.cell1;have y2:=Y2.cell2
 have E2:Hid ((w2.alloc (.cells #[] 213)).ownsRow w2.heap.size 213 2 (.slice (some ⟨w2.heap.size,0,none⟩) 0 0) 0 []):=lJ w2 w2.heap.size lr_;have Xa:=X2.alloc (.cells #[] 213);have Ya:=Y2.alloc (.cells #[] 213);have xa0:=Xa.cell0;have ya0:=Ya.cell0;have ya1:=Ya.cell1;have ya2:=Ya.cell2;clear Xa Ya;have s02:w.heap.size+1+1<w2.heap.size:=R2.lt;rcases hx:x with _|⟨bx,ox,sx⟩
 ·subst hx
  obtain⟨eps,rfl,rfl⟩:=NX.out rfl;have EPS:=hd_ eps;clear eps
  go_wp2_with (first|(at_builtin;refine wpList_append_own_none rfl _ _ 39 rfl w2.heap.size 213 i0 2 underlying39 hi (.slice (some ⟨w2.heap.size,0,none⟩) 0 0) 0 [] rfl E2.out rfl ?_;have tok1:True:=trivial))
  go_wp2;go_loopw [6,7] (fun q i wr=>∃(k:Nat) (L:List Pr),k<=nb/\i=.int .i64 k/\L=bL ps (qs.take k)/\aF wr w2.heap.size q L/\Below w2.heap.size w2 wr) (fun _ i _=>nb - (intOf i).toNat)
  case atStart=>exact⟨0,ps,Nat.zero_le _,rfl,by simp[bL],by rw[EPS.out];exact E2.out,(Below.refl _ _).alloc lr_ _⟩
  case round=>
   exact ze
 ·obtain⟨bx',ox',ex⟩:=SX.out _ hx
  obtain⟨rfl,rfl,rfl⟩:bx=bx'/\ox=ox'/\sx=none:=by injection ex with e1 e2 e3;exact⟨e1,e2,e3⟩
  subst hx;clear ex;have PA3:=hd_ (PA2.out.below ((Below.refl w2.heap.size w2).alloc lr_ (.cells #[] 213)) lr_)
  go_wp2_with (first|(at_builtin;refine wpList_append_own _ rfl _ _ 39 rfl w2.heap.size 213 i0 (.agg #[iv 0,iv 0]) 2 16 underlying39 hi hz0 hz1 hz2 rfl dc_ (.slice (some ⟨w2.heap.size,0,none⟩) 0 0) 0 [] rfl E2.out ⟨bx,ox,none⟩ na ca (prs ps) rfl (by rw[eZ,HNA.out]) (PA3.out.news) (kO _) (by unfold maxLen;omega) o_ (by simp) ?_;intro v3 w3 ho3 hg3 _;simp only[Nat.zero_add,List.nil_append]at ho3;obtain⟨z3,cz3,rfl⟩:=iQ ho3;have O3:=hd_ ho3;have B3:=hd_ (((Below.refl w2.heap.size w2).alloc lr_ (.cells #[] 213)).grown hg3 (by simp) (fun k e=>(E2.out.lt k e).1));have Yq:=Y2.later B3.out;have y0:=Yq.cell0;have y1:=Yq.cell1;have y2:=Yq.cell2))
  go_wp2;go_loopw [6,7] (fun q i wr=>∃(k:Nat) (L:List Pr),k<=nb/\i=.int .i64 k/\L=bL ps (qs.take k)/\aF wr w2.heap.size q L/\Below w2.heap.size w2 wr) (fun _ i _=>nb - (intOf i).toNat)
  case atStart=>exact⟨0,ps,Nat.zero_le _,rfl,by simp[bL],by have h:=O3.out;rw[HNA.out]at h ⊢;exact h,B3.out⟩
  case round=>
   exact ze
theorem vF (w:World) (u v:Value) (ps qs:List Pr) (la aa lb ab:Int) (hp:Prs w u ps) (hq:Prs w v qs):
  Calls prog 197 #[.agg #[u,iv la,iv aa],.agg #[v,iv lb,iv ab]] w fun e w'=>∃r,e=.returned (.tuple #[.agg #[r,.int .i64 (eO ps la aa qs lb ab).2.1,.int .i64 (eO ps la aa qs lb ab).2.2],.bool (fB ps la aa qs lb ab)])/\aF w' w.heap.size r (eO ps la aa qs lb ab).1/\Below w.heap.size w w':=by
 rcases iZ ps la aa qs lb ab with ⟨_,h⟩|⟨_,_,h⟩|⟨_,_,_,h⟩|⟨ha,hb,hs,h⟩
 ·exact zA8
 ·exact zA8
 ·exact zA8
 ·rw[oW h,h]
  exact (aBH w u v ps qs la aa lb ab hp hq ha hb hs).mono fun e w' ⟨r,he,ho,hb⟩=>⟨r,he,ho,hb⟩
theorem aDE (w:World) (u v:Value) (ps qs:List Pr) (la aa lb ab:Int) (hp:Prs w u ps) (hq:Prs w v qs):
  Calls prog 172 #[.agg #[u,iv la,iv aa],.agg #[v,iv lb,iv ab]] w fun e w'=>∃r,e=.returned (.tuple #[.agg #[r,.int .i64 (eO ps la aa qs lb ab).2.1,.int .i64 (eO ps la aa qs lb ab).2.2],.bool (fB ps la aa qs lb ab)])/\aF w' w.heap.size r (eO ps la aa qs lb ab).1/\Below w.heap.size w w':=by
 rcases iZ ps la aa qs lb ab with ⟨_,h⟩|⟨_,_,h⟩|⟨_,_,_,h⟩|⟨ha,hb,hs,h⟩
 ·exact zA7
 ·exact zA7
 ·exact zA7
 ·rw[oW h,h]
  exact (aBL w u v ps qs la aa lb ab hp hq ha hb hs).mono fun e w' ⟨r,he,ho,hb⟩=>⟨r,he,ho,hb⟩
theorem aKZ (t:Int):cV [(t,1)] 0 1=isT t:=by
 have h:tZ [(t,1)] 0 1↔(0<=t/\t<64):=by
  unfold tZ
  constructor
  ·intro h
   have:=(h.2.1 0 (by simp)).1.1;simp[pr]at this;omega
  ·intro h
   refine⟨⟨by simp,o_,o_⟩,fun i hi=>?_,by simp[cC]⟩;simp at hi;subst hi;refine⟨⟨?_,?_⟩,fun h=>absurd h (Nat.lt_irrefl _)⟩
   ·simp[pr];omega
   ·simp[pr]
 simp[cV,isT,h]
theorem uG (ps:List Pr) (lost all t:Int):fB ps lost all [(t,1)] 0 1=iJ ps lost all t:=by
 unfold fB iJ;rw[aKZ]
 congr 2
theorem xS (ps:List Pr) (lost all t:Int):eO ps lost all [(t,1)] 0 1=gJ ps lost all t:=by
 unfold eO gJ;rw[uG];simp[bL]
theorem aEq (w:World) (u:Value) (ps:List Pr) (lost all t:Int) (hp:Prs w u ps):
  Calls prog 233 #[.agg #[u,iv lost,iv all],iv t] w fun e w'=>∃r,e=.returned (.tuple #[.agg #[r,.int .i64 (gJ ps lost all t).2.1,.int .i64 (gJ ps lost all t).2.2],.bool (iJ ps lost all t)])/\aF w' w.heap.size r (gJ ps lost all t).1/\Below w.heap.size w w':=by
 obtain⟨x,c,rfl,_,_⟩:=hp.form;obtain⟨n,hn⟩:=nm_ ps.length;rw[<-hn]at hp ⊢;obtain⟨W0,hW0⟩:=nm_ ((w.alloc (.cells #[.slice x n c,iv lost,iv all] 41)).alloc (.cells #[zn,iv 0,iv 0] 41));have X0:bP W0 w.heap.size 41 (.slice x n c) (iv lost) (iv all):=by rw[hW0];exact (bP.new _ _ _ _ _).alloc _
 have R0:bP W0 (w.heap.size+1) 41 zn (iv 0) (iv 0):=by
  exact zAI
 have B0:Hid (Below w.heap.size w W0):=by show Below _ _ _;rw[hW0];exact ((Below.refl _ _).alloc lr_ _).alloc (by simp) _
 have s0:W0.heap.size=w.heap.size+2:=by rw[hW0];simp
 obtain⟨W1,hW1⟩:=nm_ (W0.alloc (.cells #[iv t,iv 1] 213));have B1:Hid (Below w.heap.size w W1):=by show Below _ _ _;rw[hW1];exact B0.out.alloc B0.out.size _
 have R1:bP W1 (w.heap.size+1) 41 zn (iv 0) (iv 0):=by rw[hW1];exact R0.alloc _
 have Q1:Hid (Prs W1 (.slice (some ⟨w.heap.size+2,0,none⟩) 1 1) [(t,1)]):=by
  refine .inr ⟨w.heap.size+2,0,1,rfl,Nat.le_refl _,by simp[maxLen],by rw[hW1, <-s0];simp,fun i hi=>?_⟩;simp at hi;subst hi;rw[hW1, <-s0]
  constructor
  ·show (W0.alloc _).cell? ⟨W0.heap.size,0,none⟩=_;simp[pr]
  ·show (W0.alloc _).cell? ⟨W0.heap.size,1,none⟩=_;simp[pr]
 have K:=hd_ (vF W1 (.slice x n c) (.slice (some ⟨w.heap.size+2,0,none⟩) 1 1) ps [(t,1)] lost all 0 1 (hp.below B1.out lr_) Q1.out);rw[xS,uG]at K;obtain⟨T,hT⟩:=nm_ (gJ ps lost all t);obtain⟨ok,hok⟩:=nm_ (iJ ps lost all t);rw[<-hT, <-hok]at K ⊢;have HW0:=hd_ hW0;have HW1:=hd_ hW1;obtain⟨zs,lo,al⟩:=T;simp only at K ⊢;have x0:=X0.cell0;have x1:=X0.cell1;have x2:=X0.cell2
 have S0:=hd_ s0;have e2:w.heap.size+2=w.heap.size+1+1:=rfl;clear hp hn hW0 hW1 hT hok s0 e2;go_enter func233,ntmps233
 go_wp2_with fail
 rw[<-HW0.out];clear HW0
 go_wp2_with fail
 rw[<-HW1.out];clear HW1;refine K.out.mono ?_;rintro e w3 ⟨r,rfl,ho3,hb⟩;have R3:=R1.later hb;obtain⟨xz,cz,rfl,_,_⟩:=ho3.form;have z0:=R3.cell0;have z1:=R3.cell1;have z2:=R3.cell2;have f2:=R3.free;have RZ:=R3.set (.slice xz zs.length cz) (iv lo) (iv al);have hr0:=RZ.cell0;have hr1:=RZ.cell1;have hr2:=RZ.cell2;have B3:=B1.out.trans (hb.mono B1.out.size)
 have OZ:=hd_ ((ho3.set3 (b:=w.heap.size+1) (R3.not_row dc_ ho3) (.slice xz zs.length cz) (iv lo) (iv al)).base (B':=w.heap.size) (B1.out.size));have BZ:=hd_ (cT (b:=w.heap.size+1) B3 (Nat.le_succ _) (.slice xz zs.length cz) (iv lo) (iv al));clear RZ R3 R1 R0 X0 ho3 hb B3 x0 x1 x2;go_wp2
 exact bodyPost_ret (v:=.tuple #[.agg #[.slice xz zs.length cz,iv lo,iv al],.bool ok]) (by simp[results,results233,go_sem,hr0,hr1,hr2]) rfl ⟨_,rfl,OZ.out,BZ.out⟩
def mC:List Pr->Int
 | []=>0
 |p::ps=>p.2+mC ps
theorem xW {ps:List Pr} (h:∀p ∈ ps,0<=p.2):0<=mC ps:=by
 induction ps with
 |nil=>simp[mC]
 |cons p ps ih=>
  have:=h p (by simp);have:=ih (fun q hq=>h q (by simp[hq]));simp only[mC];omega
theorem aKM {ps:List Pr} (h:∀p ∈ ps,0<=p.2) {p:Pr} (hp:p ∈ ps):p.2<=mC ps:=by
 induction ps with
 |nil=>cases hp
 |cons q ps ih=>
  have h0:=h q (by simp);have h1:=xW (fun q hq=>h q (by simp[hq]):∀q ∈ ps,0<=q.2);simp only[mC];rcases List.mem_cons.1 hp with rfl|hp
  ·omega
  ·have:=ih (fun q hq=>h q (by simp[hq])) hp
   omega
theorem aLk (ps:List Pr) (x:Pr):mC (dC ps x)=mC ps+x.2:=by
 induction ps with
 |nil=>simp[dC,mC]
 |cons q ps ih=>
  unfold dC
  split
  ·simp only[mC,ih];omega
  ·split
   ·simp only[mC];omega
   ·simp only[mC];omega
theorem aI3 (ps qs:List Pr):mC (bL ps qs)=mC ps+mC qs:=by
 unfold bL
 induction qs generalizing ps with
 |nil=>simp[mC]
 |cons q qs ih=>
  simp only[List.foldl_cons,mC,ih,aLk];omega
theorem iL (p:Pr) (ps:List Pr) (n:Int):cF (p::ps) n=cF ps n+if n<=p.2 then 1 else 0:=by
 unfold cF
 by_cases h:n<=p.2<;>simp[h]
theorem aIl {ps:List Pr} {n:Int} (hn:0<=n) (h:∀p ∈ ps,0<=p.2):mC (cE ps n)+n * (cF ps n:Int)<=mC ps:=by
 induction ps with
 |nil=>simp[cE,mC,cF]
 |cons p ps ih=>
  have h0:=h p (by simp);have:=ih (fun q hq=>h q (by simp[hq]));rw[iL];unfold cE
  by_cases h1:n<p.2
  ·rw[if_pos h1,if_pos (by omega)]
   simp only[mC];rw[show ((cF ps n+1:Nat):Int)=(cF ps n:Int)+1 by omega,Int.mul_add];omega
  ·rw[if_neg h1]
   simp only[mC]
   by_cases h2:n<=p.2
   ·rw[if_pos h2,show ((cF ps n+1:Nat):Int)=(cF ps n:Int)+1 by omega,Int.mul_add]
    omega
   ·rw[if_neg h2,Nat.add_zero];omega
theorem vH {ps:List Pr} {n:Int} {p:Pr} (h:p ∈ cE ps n):∃q ∈ ps,q.1=p.1/\n<q.2/\p.2=q.2 - n:=by
 induction ps with
 |nil=>cases h
 |cons q ps ih=>
  unfold cE at h
  split at h
  ·rcases List.mem_cons.1 h with rfl|h
   ·exact⟨q,by simp,rfl,by assumption,rfl⟩
   ·obtain⟨q',hq,r⟩:=ih h
    exact⟨q',by simp[hq],r⟩
  ·obtain⟨q',hq,r⟩:=ih h
   exact⟨q',by simp[hq],r⟩
theorem Up.less {ps:List Pr} (h:Up ps) (n:Int):Up (cE ps n):=by
 unfold Up at h ⊢
 induction ps with
 |nil=>simp[cE]
 |cons p ps ih=>
  rw[List.pairwise_cons]at h;unfold cE
  split
  ·rw[List.pairwise_cons]
   refine⟨fun q hq=>?_,ih h.2⟩;obtain⟨q',hq',e,_⟩:=vH hq;have:=h.1 q' hq';simp only;omega
  ·exact ih h.2
theorem aKW (ps:List Pr) (n:Int):(cE ps n).length<=cF ps (n+1):=by
 induction ps with
 |nil=>simp[cE]
 |cons p ps ih=>
  rw[iL];unfold cE
  split
  ·rw[if_pos (by omega)];simp;omega
  ·omega
theorem aGC (ps:List Pr) {m n:Int} (h:m<=n):cF ps n<=cF ps m:=by
 induction ps with
 |nil=>simp[cF]
 |cons p ps ih=>
  rw[iL,iL]
  split<;>split<;>omega
theorem aEQ {ps:List Pr} {n:Int} (h:0<cF ps n):∃i,i<ps.length/\n<=(pr ps i).2/\cF ps (pr ps i).2=cF ps n:=by
 -- the least number of those that have at least n
 have h':∃l:List Pr,l=ps.filter fun p=>decide (n<=p.2):=⟨_,rfl⟩
 obtain⟨l,hl⟩:=h';have key:∀l:List Pr,l≠[]->∃p ∈ l,∀q ∈ l,p.2<=q.2:=by
  intro l
  induction l with
  |nil=>intro h;exact absurd rfl h
  |cons x l ih=>
   intro _
   by_cases e:l=[]
   ·subst e;exact⟨x,by simp,by simp⟩
   ·obtain⟨p,hp,hq⟩:=ih e
    by_cases hx:x.2<=p.2
    ·refine⟨x,by simp,fun q hq'=>?_⟩
     rcases List.mem_cons.1 hq' with rfl|hq'
     ·omega
     ·have:=hq q hq';omega
    ·refine⟨p,by simp[hp],fun q hq'=>?_⟩
     rcases List.mem_cons.1 hq' with rfl|hq'
     ·omega
     ·exact hq q hq'
 have hne:l≠[]:=by
  intro e;unfold cF at h;rw[<-hl,e]at h;simp at h
 obtain⟨p,hp,hq⟩:=key l hne;rw[hl]at hp;have hp2:=List.mem_filter.1 hp;obtain⟨i,hi,rfl⟩:=kX hp2.1;have hn:n<=(pr ps i).2:=by simpa using hp2.2
 refine⟨i,hi,hn,Nat.le_antisymm (aGC ps hn) ?_⟩;unfold cF;have:∀ms:List Pr,(∀q ∈ ms,n<=q.2->(pr ps i).2<=q.2)->(ms.filter fun p=>decide (n<=p.2)).length<=(ms.filter fun p=>decide ((pr ps i).2<=p.2)).length:=by
  intro ms
  induction ms with
  |nil=>intro _;simp
  |cons x ms ih=>
   intro hm;have:=ih (fun q hq=>hm q (by simp[hq]));have hx:=hm x (by simp)
   by_cases h1:n<=x.2
   ·have:=hx h1
    simp[h1,this];omega
   ·by_cases h2:(pr ps i).2<=x.2
    ·simp[h1,h2];omega
    ·simp[h1,h2];omega
 exact this ps (fun q hqm hqn=>hq q (by rw[hl];exact List.mem_filter.2 ⟨hqm,by simpa using hqn⟩))
theorem aKY {ps:List Pr} (h:∀p ∈ ps,0<=p.2):(mH ps).length<=4:=by
 refine Decidable.byContradiction fun hc=>?_
 have h1:=aKW ps (bN ps);unfold mH at hc;have h2:4<cF ps (bN ps+1):=by omega
 obtain⟨i,hi,hn,he⟩:=aEQ (ps:=ps) (n:=bN ps+1) (by omega);have:=aFj (ps:=ps) (k:=ps.length) (i:=i) hi (by omega);have e:bN ps=kE ps ps.length:=rfl;omega
theorem vG {ps:List Pr} (h:∀p ∈ ps,0<=p.2):mC (mH ps)+bN ps * 5<=mC ps/\0<=bN ps:=by
 have ov:0<=bN ps/\(0<bN ps->5<=cF ps (bN ps)):=by
  rcases vK ps (k:=ps.length) lr_ with e|⟨i,hi,hc,e⟩
  ·have e':bN ps=0:=e
   omega
  ·have e':(pr ps i).2=bN ps:=e
   have:=h _ (jI hi);rw[e']at hc this;omega
 refine⟨?_,ov.1⟩;have hs:=aIl ov.1 h
 by_cases h0:0<bN ps
 ·have h5:=ov.2 h0
  have:bN ps * 5<=bN ps * (cF ps (bN ps):Int):=Int.mul_le_mul_of_nonneg_left (by omega) ov.1;unfold mH;omega
 ·have e0:bN ps=0:=by omega
  unfold mH;rw[e0]at hs ⊢;omega
theorem aCt (ps:List Pr):cC ps=mC ps:=by
 induction ps with
 |nil=>rfl
 |cons p ps ih=>simp[cC,mC]at ih ⊢;omega
theorem aFT {ps qs:List Pr} {la aa lb ab:Int} (A:tZ ps la aa) (B:tZ qs lb ab) {q:Pr} (h:q ∈ bL ps qs):0<=q.1/\q.1<=63:=by
 have key:∀(qs ps:List Pr),(∀p ∈ ps,0<=p.1/\p.1<=63)->(∀p ∈ qs,0<=p.1/\p.1<=63)->∀q ∈ bL ps qs,0<=q.1/\q.1<=63:=by
  intro qs
  induction qs with
  |nil=>intro ps h1 _ q hq;exact h1 q hq
  |cons x qs ih=>
   intro ps h1 h2 q hq;refine ih (dC ps x) (fun p hp=>?_) (fun p hp=>h2 p (by simp[hp])) q hq;rcases aHd hp with e|hp
   ·rw[e];exact h2 x (by simp)
   ·exact h1 p hp
 refine key qs ps (fun p hp=>?_) (fun p hp=>?_) q h
 ·obtain⟨i,hi,rfl⟩:=kX hp
  exact (A.2.1 i hi).1.1
 ·obtain⟨i,hi,rfl⟩:=kX hp
  exact (B.2.1 i hi).1.1
theorem aEC {ps qs:List Pr} {la aa lb ab:Int} (h:fB ps la aa qs lb ab=true):cV (eO ps la aa qs lb ab).1 (eO ps la aa qs lb ab).2.1 (eO ps la aa qs lb ab).2.2=true:=by
 rcases iZ ps la aa qs lb ab with ⟨_,h'⟩|⟨_,_,h'⟩|⟨_,_,_,h'⟩|⟨ha,hb,hs,_⟩
 ·exact zBq
 ·exact zBq
 ·exact zBq
 rw[oW h];have A:=(cG _ _ _).1 ha;have B:=(cG _ _ _).1 hb;obtain⟨bu,bp,_,bt⟩:=lD ps qs A.asc.up A.pos B.pos;have nn:∀p ∈ bL ps qs,0<=p.2:=fun p hp=>by have:=bp p hp;omega
 have c4:=aKY nn;obtain⟨c5,o0⟩:=vG nn;have sb:=aI3 ps qs;have fa:=A.2.2;have fb:=B.2.2;have a1:=A.1.2;have b1:=B.1.2;rw[aCt]at fa fb;have cn:∀p ∈ mH (bL ps qs),0<p.2:=fun p hp=>by
  obtain⟨q,_,_,h1,h2⟩:=vH hp;omega
 have cu:Up (mH (bL ps qs)):=bu.less _;have cs:=xW (fun p hp=>by have:=cn p hp;omega:∀p ∈ mH (bL ps qs),0<=p.2);show cV (mH (bL ps qs)) (la+lb+bN (bL ps qs)) (aa+ab)=true
 refine (cG _ _ _).2 ⟨⟨c4,⟨by omega,by omega⟩,by omega,by omega⟩,fun i hi=>⟨⟨?_,?_⟩,fun h0=>cu.asc i h0 hi⟩,by rw[aCt];omega⟩
 ·obtain⟨q,hq,e,_⟩:=vH (jI hi)
  have:=aFT A B hq;rw[e]at this;exact this
 ·have m1:=cn _ (jI hi)
  have m2:=aKM (fun p hp=>by have:=cn p hp;omega:∀p ∈ mH (bL ps qs),0<=p.2) (jI hi);omega
theorem xV (ps:List Pr) (la aa:Int) (qs:List Pr) (lb ab:Int):fB qs lb ab ps la aa=fB ps la aa qs lb ab:=by
 unfold fB;rw[show ab+aa=aa+ab by omega];cases cV ps la aa<;>cases cV qs lb ab<;>rfl
theorem aJs (ps:List Pr) (t n:Int) (hn:2<=n):cF (dC ps (t,1)) n<=ps.length:=by
 induction ps with
 |nil=>simp[dC,cF,List.filter_cons];omega
 |cons q ps ih=>
  have:=vU ps n;unfold dC
  split
  ·rw[iL];split<;>simp<;>omega
  ·split
   ·rw[iL];split<;>simp<;>omega
   ·rw[iL,iL];split<;>split<;>simp_all<;>omega
theorem zR {ps:List Pr} (h:Up ps) {n:Int} (hn:0<=n) (hp:∀p ∈ ps,0<=p.2) (t:Int):tot (cE ps n) t<=tot ps t/\tot ps t<=tot (cE ps n) t+n:=by
 unfold Up at h
 induction ps with
 |nil=>simp[cE,tot];omega
 |cons p ps ih=>
  rw[List.pairwise_cons]at h;have i:=ih h.2 (fun q hq=>hp q (by simp[hq]));have p0:=hp p (by simp)
  by_cases e:p.1=t
  ·have z:tot ps t=0:=hZ fun q hq=>by have:=h.1 q hq;omega
   have z':tot (cE ps n) t=0:=hZ fun q hq=>by
    obtain⟨q',hq',e',_⟩:=vH hq;have:=h.1 q' hq';omega
   unfold cE
   split<;>simp only[tot,e,if_true,z,z']<;>omega
  ·unfold cE
   split<;>simp only[tot,if_neg e]<;>omega
theorem aLc {ps:List Pr} {lost all t:Int} (h:iJ ps lost all t=true):cV (gJ ps lost all t).1 (gJ ps lost all t).2.1 (gJ ps lost all t).2.2=true/\(gJ ps lost all t).2.2=all+1/\(0<=(gJ ps lost all t).2.1 - lost/\(gJ ps lost all t).2.1 - lost<=1)/\tot (gJ ps lost all t).1 t<=tot ps t+1/\tot ps t+lost<=tot (gJ ps lost all t).1 t+(gJ ps lost all t).2.1:=by
 refine⟨?_,?_⟩
 ·have:=aEC (ps:=ps) (la:=lost) (aa:=all) (qs:=[(t,1)]) (lb:=0) (ab:=1) (by rw[uG];exact h)
  rwa[xS]at this
 rcases oF ps lost all t with ⟨_,h'⟩|⟨_,_,h'⟩|⟨_,_,_,h'⟩|⟨ha,ht,hs,_⟩
 ·exact zBq
 ·exact zBq
 ·exact zBq
 rw[aA9 h];have A:=(cG _ _ _).1 ha;have up:Up (dC ps (t,1)):=A.asc.up.put;have pp:Pos (dC ps (t,1)):=A.pos.put (by simp);have nn:∀p ∈ dC ps (t,1),0<=p.2:=fun p hp=>by have:=pp p hp;omega
 have o0:=(vG nn).2;have o1:bN (dC ps (t,1))<=1:=by
  refine Decidable.byContradiction fun hc=>?_
  rcases vK (dC ps (t,1)) (k:=(dC ps (t,1)).length) lr_ with e|⟨i,hi,hk,e⟩
  ·have e':bN (dC ps (t,1))=0:=e
   omega
  ·have e':(pr (dC ps (t,1)) i).2=bN (dC ps (t,1)):=e
   have:=aJs ps t (pr (dC ps (t,1)) i).2 (by omega);have:=A.1.1;omega
 obtain⟨t1,t2⟩:=zR up o0 nn t;have tp:=aDP ps (t,1) t;simp only[if_true]at tp;refine⟨rfl,⟨by simp only;omega,by simp only;omega⟩,?_,?_⟩
 ·show tot (cE (dC ps (t,1)) (bN (dC ps (t,1)))) t<=_
  omega
 ·show _<=tot (cE (dC ps (t,1)) (bN (dC ps (t,1)))) t+(lost+bN (dC ps (t,1)))
  omega
structure aL5 (ps:List Pr) (lost all t:Int) (ns:List Pr) (nl na:Int):Prop where
 was:cV ps lost all=true
 top:cV ns nl na=true
 thing:0<=t/\t<64
 all':0<=all/\all<2000
 na':na=all+1
 nl':0<=nl - lost/\nl - lost<=1
 ge:tot ns t<=tot ps t+1
 le:tot ps t+lost<=tot ns t+nl
 old:0<=tot ps t/\tot ps t<=2000
 new:0<=tot ns t/\tot ns t<=2000
 lost':0<=lost/\lost<=2000
theorem aHx {ps:List Pr} {lost all t:Int} (h:iJ ps lost all t=true):aL5 ps lost all t (gJ ps lost all t).1 (gJ ps lost all t).2.1 (gJ ps lost all t).2.2:=by
 obtain⟨a,b,c,d,e⟩:=aLc h;rcases oF ps lost all t with ⟨_,h'⟩|⟨_,_,h'⟩|⟨_,_,_,h'⟩|⟨ha,ht,hs,_⟩
 ·exact zBq
 ·exact zBq
 ·exact zBq
 have A:=(cG _ _ _).1 ha;have B:=(cG _ _ _).1 a;exact⟨ha,a,by omega,⟨A.1.2.2.1,hs⟩,b,c,d,e,aJp A.2.1 A.asc,aJp B.2.1 B.asc,A.1.2.1⟩
structure aJO (ps:List Pr) (la aa:Int) (qs:List Pr) (lb ab:Int) (ns:List Pr) (nl na:Int):Prop where
 was:cV ps la aa=true
 top:cV ns nl na=true
 na':na=aa+ab
 nl':la+lb<=nl
 la':0<=la/\la<=2000
 lb':0<=lb/\lb<=2000
 al':0<=aa/\0<=ab/\aa+ab<=2000
theorem aA1 {ps qs:List Pr} {la aa lb ab:Int} (h:fB ps la aa qs lb ab=true):aJO ps la aa qs lb ab (eO ps la aa qs lb ab).1 (eO ps la aa qs lb ab).2.1 (eO ps la aa qs lb ab).2.2:=by
 have top:=aEC h;rcases iZ ps la aa qs lb ab with ⟨_,h'⟩|⟨_,_,h'⟩|⟨_,_,_,h'⟩|⟨ha,hb,hs,_⟩
 ·exact zBq
 ·exact zBq
 ·exact zBq
 have A:=(cG _ _ _).1 ha;have B:=(cG _ _ _).1 hb;rw[oW h]at top ⊢;have bp:=(lD ps qs A.asc.up A.pos B.pos).2.1;have o0:=(vG (fun p hp=>by have:=bp p hp;omega:∀p ∈ bL ps qs,0<=p.2)).2;exact⟨ha,top,rfl,by show la+lb<=la+lb+bN (bL ps qs);omega,A.1.2.1,B.1.2.1,A.1.2.2.1,B.1.2.2.1,hs⟩
end Go.Proofs.YtcblbdpdbggkbaaGreat.T
namespace Go.Proofs.YtcblbdpdbggkbaaGreat.K
open _root_.Go.Proofs.Tryz
open Go.RowKit Go.Sort
abbrev Pr:=Int × Int
def pr (ps:List Pr) (i:Nat):Pr:=ps.getD i (0,0)
def prs (ps:List Pr):List Value:=ps.flatMap fun p=>[.int .i64 p.1,.int .i64 p.2]
theorem gE (p:Pr) (ps:List Pr):prs (p::ps)=.int .i64 p.1::.int .i64 p.2::prs ps:=rfl
theorem qX (ps qs:List Pr):prs (ps++qs)=prs ps++prs qs:=by simp[prs]
theorem rT (ps:List Pr) (p:Pr):prs (ps++[p])=prs ps++[.int .i64 p.1,.int .i64 p.2]:=by simp[prs]
theorem eZ (ps:List Pr):(prs ps).length=ps.length * 2:=by
 induction ps with
 |nil=>rfl
 |cons p ps ih=>rw[gE];simp[ih];omega
theorem oM (ps:List Pr) (i:Nat) (h:i<ps.length):(prs ps)[i * 2]? =some (.int .i64 (pr ps i).1)/\(prs ps)[i * 2+1]? =some (.int .i64 (pr ps i).2):=by
 induction ps generalizing i with
 |nil=>cases h
 |cons p ps ih=>
  exact zBh
theorem jI {ps:List Pr} {i:Nat} (h:i<ps.length):pr ps i ∈ ps:=lW ps i (0,0) h
theorem kX {ps:List Pr} {p:Pr} (h:p ∈ ps):∃i,i<ps.length/\pr ps i=p:=by
 obtain⟨i,hi,rfl⟩:=List.getElem_of_mem h;exact⟨i,hi,by simp[pr,hi]⟩
def Prs (w:World) (v:Value) (ps:List Pr):Prop:=
 (v=.slice none 0 0/\ps=[])\/
 ∃b o cap,v=.slice (some ⟨b,o,none⟩) ps.length cap/\ps.length<=cap/\cap<=maxLen/\b<w.heap.size/\
  ∀i,i<ps.length->w.cell? ⟨b,o+i * 2,none⟩=some (.int .i64 (pr ps i).1)/\w.cell? ⟨b,o+i * 2+1,none⟩=some (.int .i64 (pr ps i).2)
theorem Prs.below {w w':World} {v:Value} {ps:List Pr} (h:Prs w v ps) {B:Nat} (hb:Below B w w') (hB:w.heap.size<=B):Prs w' v ps:=by
 exact zA4
theorem Prs.form {w:World} {v:Value} {ps:List Pr} (h:Prs w v ps):∃x c,v=.slice x ps.length c/\ps.length<=c/\c<=maxLen:=by
 exact zBC
theorem Prs.cells {w:World} {x:Option Addr} {n c:Nat} {ps:List Pr} (h:Prs w (.slice x n c) ps):∀i,i<ps.length->∃b o,x=some ⟨b,o,none⟩/\b<w.heap.size/\w.cell? ⟨b,o+i * 2,none⟩=some (.int .i64 (pr ps i).1)/\w.cell? ⟨b,o+i * 2+1,none⟩=some (.int .i64 (pr ps i).2):=fun i hi=>by
 exact zBR
def aF (w:World) (B:Nat) (v:Value) (ps:List Pr):Prop:=w.ownsRow B 152 2 v ps.length (prs ps)
theorem gQ (b o i:Nat):(⟨b,o,none⟩:Addr).add i=⟨b,o+i,none⟩:=by unfold Addr.add;split<;>simp_all
theorem aF.rd {w:World} {B:Nat} {v:Value} {ps:List Pr} (h:aF w B v ps):Prs w v ps:=by
 exact zAw
theorem aF.base {w:World} {B B':Nat} {v:Value} {ps:List Pr} (h:aF w B v ps) (hB:B'<=B):aF w B' v ps:=aM h hB
theorem aF.kept {w w':World} {B:Nat} {v:Value} {ps:List Pr} {row:Option Nat} (h:aF w B v ps) (hg:w.grownBy w' row) (hr:∀k,row=some k->k<B):aF w' B v ps:=by
 exact zAj
theorem aF.keep {w w':World} {B:Nat} {v:Value} {ps:List Pr} {row:Option Nat} (h:aF w B v ps) (hg:w.grownBy w' row) (hr:v.ownBlock≠row):aF w' B v ps:=World.ownsRow.kept h hg (.inr hr)
theorem aF.alloc {w:World} {B:Nat} {v:Value} {ps:List Pr} (h:aF w B v ps) (o:Obj):aF (w.alloc o) B v ps:=World.ownsRow.alloc h o
theorem aF.below {w w':World} {B:Nat} {v:Value} {ps:List Pr} (h:aF w B v ps) (hb:Below w.heap.size w w'):aF w' B v ps:=h.kept (row:=none) (cU hb) (fun _ e=>by cases e)
theorem aF.nil (w:World) (B:Nat):aF w B zn []:=World.ownsRow_nil w B _ 2
theorem aF.form {w:World} {B:Nat} {v:Value} {ps:List Pr} (h:aF w B v ps):∃x c,v=.slice x ps.length c/\ps.length<=c/\c<=maxLen:=h.rd.form
theorem dY:(prog.info? 152).map (fun i=>(i.zero,i.size,i.bytes))=some (some (.agg #[iv 0,iv 0]),2,16):=by kernel_rfl
theorem lJ (w:World) (B:Nat) (hB:B<=w.heap.size):aF (w.alloc (.cells #[] 152)) B (.slice (some ⟨w.heap.size,0,none⟩) 0 0) []:=
 World.ownsRow_lit (base:=B) (e:=152) (size:=2) w #[] 0 hB (by simp[maxLen]) (by simp)
def aS (W:World) (b:Nat) (t:TypeId) (x y:Value):Prop:=W.heap[b]? =some (.cells #[x,y] t (0,0))
section
variable {W W':World} {b:Nat} {t:TypeId} {x y:Value}
theorem aS.lt (h:aS W b t x y):b<W.heap.size:=(Array.getElem?_eq_some_iff.1 h).1
theorem aS.new (W:World) (t:TypeId) (x y:Value):aS (W.alloc (.cells #[x,y] t)) W.heap.size t x y:=heap_alloc_new W _
theorem aS.below (h:aS W b t x y) {B:Nat} (hb:Below B W W') (hB:b<B):aS W' b t x y:=(hb.block b hB).trans h
theorem aS.later (h:aS W b t x y) (hb:Below W.heap.size W W'):aS W' b t x y:=h.below hb h.lt
theorem aS.drew (h:aS W b t x y):aS W.drew b t x y:=h
theorem aS.alloc (h:aS W b t x y) (o:Obj):aS (W.alloc o) b t x y:=h.later ((Below.refl _ _).alloc lr_ o)
theorem aS.kept {row:Option Nat} (h:aS W b t x y) (hg:W.grownBy W' row) (hr:row≠some b):aS W' b t x y:=(hg.block b h.lt (fun e=>hr e.symm)).trans h
theorem aS.cell0 (h:aS W b t x y):W.cell? ⟨b,0,none⟩=some x:=by unfold aS at h;simp[World.cell?,h]
theorem aS.cell1 (h:aS W b t x y):W.cell? ⟨b,1,none⟩=some y:=by unfold aS at h;simp[World.cell?,h]
theorem aS.free (h:aS W b t x y) (i:Nat):W.frozen? ⟨b,i,none⟩=false:=by unfold aS at h;simp[World.frozen?,h]
theorem aS.set0 (h:aS W b t x y) (u:Value):aS (W.setCell ⟨b,0,none⟩ u) b t u y:=by unfold aS at h ⊢;rw[heap_setCell_same W b 0 _ _ _ h];rfl
theorem aS.set1 (h:aS W b t x y) (u:Value):aS (W.setCell ⟨b,1,none⟩ u) b t x u:=by unfold aS at h ⊢;rw[heap_setCell_same W b 1 _ _ _ h];rfl
theorem aS.set (h:aS W b t x y) (x' y':Value):aS ((W.setCell ⟨b,0,none⟩ x').setCell ⟨b,1,none⟩ y') b t x' y':=(h.set0 x').set1 y'
theorem aS.not_row {B:Nat} {e:TypeId} {size n:Nat} {v:Value} {xs:List Value} (h:aS W b t x y) (ht:t≠e) (ho:W.ownsRow B e size v n xs):v.ownBlock≠some b:=fun hb=>by
 rcases ho.2 with ⟨rfl,_⟩|⟨g,cap,cur,rfl,_,hg,_⟩
 ·cases hb
 ·obtain rfl:g=b:=by simpa[Value.ownBlock]using hb
  unfold aS at h;rw[hg]at h;cases h;exact ht rfl
end
theorem gF {B b:Nat} {w W:World} (h:Below B w W) (hb:B<=b) (x y:Value):Below B w ((W.setCell ⟨b,0,none⟩ x).setCell ⟨b,1,none⟩ y):=(h.setCell hb _).setCell hb _
theorem aF.set2 {W:World} {B b:Nat} {v:Value} {ps:List Pr} (h:aF W B v ps) (hv:v.ownBlock≠some b) (x y:Value):aF ((W.setCell ⟨b,0,none⟩ x).setCell ⟨b,1,none⟩ y) B v ps:=
 (h.keep (aA W ⟨b,0,none⟩ x) hv).keep (aA _ ⟨b,1,none⟩ y) hv
theorem rL:(prog.info? 3).map (fun i=>(i.zero,i.size,i.bytes))=some (some (.int .i64 0),1,8):=by kernel_rfl
def aZ (w:World) (B:Nat) (v:Value) (zs:List Int):Prop:=w.ownsRow B 3 1 v zs.length (bG zs)
theorem aZ.kept {w w':World} {B:Nat} {v:Value} {zs:List Int} {row:Option Nat} (h:aZ w B v zs) (hg:w.grownBy w' row) (hr:∀k,row=some k->k<B):aZ w' B v zs:=by
 exact zAj
theorem aZ.below {w w':World} {B:Nat} {v:Value} {zs:List Int} (h:aZ w B v zs) (hb:Below w.heap.size w w'):aZ w' B v zs:=h.kept (row:=Option.none) (cU hb) (fun _ e=>by cases e)
theorem aAR (zs:List Int) (k:Nat) (x:Int):(bG zs).set k (iv x)=bG (zs.set k x):=by simp[bG,List.map_set]
def jJ (w:World) (B g n c:Nat) (zs:List Int):Prop:=zs.length=n/\w.ownsRow B 3 1 (.slice (some ⟨g,0,none⟩) n c) n (bG zs)
section
variable {w w':World} {B g n c:Nat} {zs:List Int}
theorem jJ.own (h:jJ w B g n c zs):aZ w B (.slice (some ⟨g,0,none⟩) n c) zs:=by unfold aZ;rw[h.1];exact h.2
theorem jJ.cell (h:jJ w B g n c zs) {i:Nat} (hi:i<n):w.cell? ⟨g,i,none⟩=some (.int .i64 (zs.getD i 0)):=by
 rw[h.2.cellAt i o_];exact iM _ _ (by rw[h.1];exact hi)
theorem jJ.free (h:jJ w B g n c zs) (i:Nat):w.frozen? ⟨g,i,none⟩=false:=h.2.frozenAt i
theorem jJ.set (h:jJ w B g n c zs) (i:Nat) (x:Int):jJ (w.setCell ⟨g,i,none⟩ (iv x)) B g n c (zs.set i x):=by
 have hs:=(h.2.stored i (iv x)).1;rw[aAR]at hs;exact⟨by simpa using h.1,hs⟩
theorem jJ.grown (h:jJ w B g n c zs) (i:Nat) (x:Int):w.grownBy (w.setCell ⟨g,i,none⟩ (iv x)) (some g):=(h.2.stored i (iv x)).2
theorem jJ.below (h:jJ w B g n c zs) (hb:Below w.heap.size w w'):jJ w' B g n c zs:=by
 have h2:=h.own.below hb;unfold aZ at h2;rw[h.1]at h2;exact⟨h.1,h2⟩
theorem jJ.drewN (h:jJ w B g n c zs) (k:Nat):jJ (w.drewN k) B g n c zs:=h
theorem jJ.lt (h:jJ w B g n c zs):B<=g/\g<w.heap.size:=World.ownsRow.lt h.2 g rfl
end
theorem aHN (w:World) (n:Nat) (hn:n<=1048576):jJ (w.alloc (.cells (madeCells #[iv 0] n) 3)) w.heap.size w.heap.size n n (List.replicate n 0):=by
 have:=World.ownsRow_lit (base:=w.heap.size) (e:=3) (size:=1) w (madeCells #[iv 0] n) n lr_ (by unfold maxLen;omega) (by rw[size_madeCells];omega);rw[toList_madeCells_one]at this;exact⟨by simp,by simpa[bG]using this⟩
def aM8:Nat->Int->Int
 | 0,x=>x
 |f+1,x=>if x<64 then aM8 f (2 * x)else x
def aNi:Nat->Int->Int->Int
 | 0,_,h=>h
 |f+1,x,h=>if x<64 then aNi f (2 * x) (2 * h+1)else h
def rO (a:Int):Int:=aM8 7 a - 64
def kK (a:Int):Int:=aNi 7 a a - 64
theorem uU:∀n:Nat,n<127->(0<=rO ((n:Int)+1)/\rO ((n:Int)+1)<=kK ((n:Int)+1)/\kK ((n:Int)+1)<=63)/\(63<=n->rO ((n:Int)+1)=(n:Int)+1 - 64/\kK ((n:Int)+1)=(n:Int)+1 - 64)/\
  (n<63->rO (2 * ((n:Int)+1))=rO ((n:Int)+1)/\kK (2 * ((n:Int)+1))+1=rO (2 * ((n:Int)+1)+1)/\kK (2 * ((n:Int)+1)+1)=kK ((n:Int)+1)/\kK (2 * ((n:Int)+1)) - rO (2 * ((n:Int)+1))=kK ((n:Int)+1) - kK (2 * ((n:Int)+1)) - 1):=by decide+kernel
def cC (ps:List Pr):Int:=(ps.map (·.2)).sum
theorem rX (ps qs:List Pr):cC (ps++qs)=cC ps+cC qs:=by simp[cC]
theorem dV (ps:List Pr) (k:Nat) (h:k<ps.length):ps.take (k+1)=ps.take k++[pr ps k]:=by
 rw[List.take_succ_eq_append_getElem h];simp[pr,h]
theorem kF (ps:List Pr) (k:Nat) (h:k<ps.length):cC (ps.take (k+1))=cC (ps.take k)+(pr ps k).2:=by
 rw[dV ps k h,rX];simp[cC]
def KnG (ps:List Pr) (all:Int) (i:Nat):Prop:=((1<=(pr ps i).1/\(pr ps i).1<=127)/\1<=(pr ps i).2/\(pr ps i).2<=2000)/\(0<i->(pr ps (i - 1)).1<(pr ps i).1)/\((pr ps i).1<64->(pr ps i).2<=all / 8)
instance (ps:List Pr) (all:Int) (i:Nat):Decidable (KnG ps all i):=by unfold KnG;infer_instance
def dS (ps:List Pr) (all:Int):Prop:=(0<=all/\all<=2000)/\(∀i,i<ps.length->KnG ps all i)/\cC ps=all
instance (ps:List Pr) (all:Int):Decidable (dS ps all):=by unfold dS;infer_instance
def cL (ps:List Pr) (all:Int):Bool:=decide (dS ps all)
theorem dN (ps:List Pr) (all:Int):cL ps all=true↔dS ps all:=by simp[cL]
theorem nF {ps:List Pr} {all:Int} (h:¬dS ps all):cL ps all=false:=by simpa[cL]using h
theorem aJv {ps:List Pr} {all:Int} {k:Nat} (h:∀i,i<k->KnG ps all i):∀i,i<k->(i:Int)+1<=(pr ps i).1:=fun i hi=>by
 induction i with
 |zero=>have:=(h 0 hi).1.1.1;omega
 |succ i ih=>
  have:=ih o_;have:=(h (i+1) hi).2.1 o_;simp only[Nat.add_sub_cancel]at this;omega
theorem yR {ps:List Pr} {all:Int} {k:Nat} (h:∀i,i<k->KnG ps all i):k<=127:=by
 cases k with
 |zero=>omega
 |succ k=>
  have:=aJv h k o_;have:=(h k o_).1.1.2;omega
theorem aDB {ps:List Pr} {all:Int} {k:Nat} (hk:k<=ps.length) (h:∀i,i<k->KnG ps all i):0<=cC (ps.take k)/\cC (ps.take k)<=2000 * k:=by
 induction k with
 |zero=>simp[cC]
 |succ k ih=>
  have:=ih o_ (fun i hi=>h i o_);have g:=(h k o_).1.2;rw[kF ps k o_];omega
theorem aFv (w:World) (x:Option Addr) (n c:Nat) (ps:List Pr) (all:Int) (hl:ps.length=n) (hp:Prs w (.slice x n c) ps) (hn:n<=maxLen):
  Calls prog 222 #[.agg #[.slice x n c,iv all]] w fun e w'=>e=.returned (.bool (cL ps all))/\Below w.heap.size w w':=by
 unfold maxLen at hn;have HPR:=hd_ hp;have HP:=hd_ hp.cells;have HL:=hd_ hl;obtain⟨W,hW⟩:=nm_ (w.alloc (.cells #[.slice x n c,iv all] 44));have hA:Below w.heap.size w W:=by rw[hW];exact (Below.refl w.heap.size w).alloc lr_ _
 have sW:W.heap.size=w.heap.size+1:=by rw[hW];simp
 have X:aS W w.heap.size 44 (.slice x n c) (iv all):=by rw[hW];exact aS.new _ _ _ _
 have HA:=hd_ hA;have HS:=hd_ sW;have HX:=hd_ X;have x0:=X.cell0;have x1:=X.cell1;clear hl hp hA sW X
 by_cases ha:all<0\/2000<all
 ·have bd:Hid (cL ps all=false):=nF (fun q=>by have:=q.1;omega)
  go_enter func222,ntmps222
  go_wp2_with fail
  rw[<-hW];clear hW;refine (fY _ _ _ _ ha).mono ?_;rintro e w' ⟨rfl,rfl⟩;go_wp2;go_ret;exact⟨aH bd.out.symm,HA.out⟩
 have ha0:0<=all:=o_;have ha1:all<=2000:=o_;have hD:all.tdiv 8=all / 8:=Int.tdiv_eq_ediv_of_nonneg ha0;obtain⟨D,hDD⟩:=nm_ (all / 8);rw[<-hDD]at hD;have HDD:=hd_ hDD;have d0:0<=D:=o_;have d1:D<=250:=o_;clear hDD;go_enter func222,ntmps222
 go_wp2_with fail
 rw[<-hW];clear hW;refine (aJ _ _ _ _ ha0 ha1).mono ?_;rintro e w' ⟨rfl,rfl⟩;go_wp2;go_loopw [3,4] (fun q i wr=>∃k:Nat,k<=n/\i=.int .i64 k/\q=.int .i64 (cC (ps.take k))/\(∀i,i<k->KnG ps all i)/\Below (w.heap.size+1) W wr) (fun _ i _=>n - (intOf i).toNat)
 case atStart=>exact⟨0,Nat.zero_le _,rfl,rfl,fun _ h=>absurd h (Nat.not_lt_zero _),Below.refl _ _⟩
 case round=>
  obtain⟨k,hk,rfl,rfl,hg,hbl⟩:=hrel;have G:=hd_ hg;have HB:=hd_ hbl;have kf:=yR hg;have hsb:=aDB (by rw[HL.out];exact hk) hg;have hX1:=HX.out.below HB.out (Nat.lt_succ_self _);have cw0:=hX1.cell0;have cw1:=hX1.cell1;have FIN:=hd_ (HA.out.trans (HB.out.mono (Nat.le_succ _)));have sw:w.heap.size+1<=wr.heap.size:=by have:=HB.out.size;have:=HS.out;omega
  by_cases hlt:k<n
  ·obtain⟨b,o,rfl,hb,h1,h2⟩:=HP.out k (by rw[HL.out];exact hlt)
   have tr:∀j v,w.cell? ⟨b,j,none⟩=some v->wr.cell? ⟨b,j,none⟩=some v:=fun j v h=>by
    exact zAz
   have TR:=hd_ tr;replace h1:=tr _ _ h1;replace h2:=tr _ _ h2;have lb:b<wr.heap.size:=o_;have HQ:Hid (KnG ps all k↔(((1<=(pr ps k).1/\(pr ps k).1<=127)/\1<=(pr ps k).2/\(pr ps k).2<=2000)/\(0<k->(pr ps (k - 1)).1<(pr ps k).1)/\((pr ps k).1<64->(pr ps k).2<=all / 8))):=Iff.rfl;rw[<-HDD.out]at HQ;have bad:Hid (¬KnG ps all k->cL ps all=false):=fun h=>nF (fun q=>h (q.2.1 k (by rw[HL.out];exact hlt)))
   have hs:=hd_ (kF ps k (by rw[HL.out];exact hlt));generalize pr ps k=q at h1 h2 HQ hs;obtain⟨t,m⟩:=q;have k0:(0:Int)<=(k:Int):=o_;have kn:(k:Int)<(n:Int):=o_
   -- the world with this round's box
   obtain⟨wk,hwk⟩:=nm_ (wr.alloc (.cells #[iv t,iv m] 152));have hK:Below wr.heap.size wr wk:=by rw[hwk];exact (Below.refl _ _).alloc lr_ _
   have bK:aS wk wr.heap.size 152 (iv t) (iv m):=by rw[hwk];exact aS.new _ _ _ _
   have y0:=bK.cell0;have y1:=bK.cell1;have yX:=hX1.later hK;have xk0:=yX.cell0;have xk1:=yX.cell1;have HB2:=hd_ (HB.out.trans (hK.mono sw));have FIN2:=hd_ (FIN.out.trans (hK.mono FIN.out.size));have HK:=hd_ hK;generalize hSS:cC (ps.take k)=S at *;clear hg hbl tr hX1 bK yX hSS hK
   go_wp2_with fail
   rw[<-hwk];clear hwk
   by_cases ht:t<1\/127<t
   ·skip
    have bd:=hd_ (bad.out (fun q=>by have:=(HQ.out.1 q).1.1;(try simp at this);omega));clear HQ bad
    go_quiet (first|(with_reducible exact aE (fY _ _ _ _ ht)))
    exact zAn
   have ht0:1<=t:=o_;have ht1:t<=127:=o_
   by_cases hm:m<1\/2000<m
   ·skip
    have bd:=hd_ (bad.out (fun q=>by have:=(HQ.out.1 q).1.2;(try simp at this);omega));clear HQ bad
    go_quiet (first|(with_reducible exact aE (aJ _ _ _ _ ht0 ht1))|(with_reducible exact aE (fY _ _ _ _ hm)))
    exact zAn
   have hm0:1<=m:=o_;have hm1:m<=2000:=o_;rcases Nat.eq_zero_or_pos k with h0|h0
   ·subst h0
    by_cases h64:t<64
    ·have e64:decide (t<64)=true:=decide_eq_true h64
     by_cases hD8:D<m
     ·exact zAS
     ·have eD:decide (D<m)=false:=decide_eq_false hD8
      have good:=hd_ (HQ.out.2 ⟨⟨⟨ht0,ht1⟩,hm0,hm1⟩,fun h=>absurd h (Nat.lt_irrefl _),fun _=>by (try simp);omega⟩);clear HQ bad
      go_quiet (first|(with_reducible exact aE (aJ _ _ _ _ ht0 ht1))|(with_reducible exact aE (aJ _ _ _ _ hm0 hm1)))
      go_wp2;go_roundw
      case rel=>exact⟨0+1,o_,gn_,by rw[hs.out],fun i hi=>by
              by_cases h:i<0
              · exact G.out i h
              · obtain rfl:i=0:=o_
                exact good.out,below_drewN HB2.out _⟩
      case measure=>simp[intOf];omega
    ·have e64:decide (t<64)=false:=decide_eq_false h64
     have good:=hd_ (HQ.out.2 ⟨⟨⟨ht0,ht1⟩,hm0,hm1⟩,fun h=>absurd h (Nat.lt_irrefl _),fun h=>absurd h h64⟩);clear HQ bad
     go_quiet (first|(with_reducible exact aE (aJ _ _ _ _ ht0 ht1))|(with_reducible exact aE (aJ _ _ _ _ hm0 hm1)))
     go_wp2;go_roundw
     case rel=>exact⟨0+1,o_,gn_,by rw[hs.out],fun i hi=>by
            by_cases h:i<0
            · exact G.out i h
            · obtain rfl:i=0:=o_
              exact good.out,below_drewN HB2.out _⟩
     case measure=>simp[intOf];omega
   ·obtain⟨j,rfl⟩:∃j,k=j+1:=⟨k - 1,o_⟩
    obtain⟨b',o',e',hb',h3,_⟩:=HP.out j (by rw[HL.out];omega);cases e';replace h3:=(HK.out.cell (p:=⟨b,o+j * 2,none⟩) lb).trans (TR.out _ _ h3);rw[Nat.add_sub_cancel]at HQ;generalize pr ps j=q' at h3 HQ;obtain⟨t',m'⟩:=q';have p0:(0:Int)<((j+1:Nat):Int):=o_;have e1:((j+1:Nat):Int) - 1=(j:Int):=o_;have j0:(0:Int)<=(j:Int):=o_;have jn:(j:Int)<(n:Int):=o_
    by_cases hyx:t<=t'
    ·have hd:decide (t<=t')=true:=decide_eq_true hyx
     have bd:=hd_ (bad.out (fun q=>by have:=(HQ.out.1 q).2.1 h0;(try simp at this);omega));clear HQ bad
     go_quiet (first|(with_reducible exact aE (aJ _ _ _ _ ht0 ht1))|(with_reducible exact aE (aJ _ _ _ _ hm0 hm1)))
     exact zAn
    have hd:decide (t<=t')=false:=decide_eq_false hyx
    by_cases h64:t<64
    ·have e64:decide (t<64)=true:=decide_eq_true h64
     by_cases hD8:D<m
     ·exact zAS
     ·have eD:decide (D<m)=false:=decide_eq_false hD8
      have good:=hd_ (HQ.out.2 ⟨⟨⟨ht0,ht1⟩,hm0,hm1⟩,fun _=>by (try simp);omega,fun _=>by (try simp);omega⟩);clear HQ bad
      go_quiet (first|(with_reducible exact aE (aJ _ _ _ _ ht0 ht1))|(with_reducible exact aE (aJ _ _ _ _ hm0 hm1)))
      go_wp2;go_roundw
      case rel=>exact⟨(j+1)+1,o_,gn_,by rw[hs.out],fun i hi=>by
              by_cases h:i<(j+1)
              · exact G.out i h
              · obtain rfl:i=(j+1):=o_
                exact good.out,below_drewN HB2.out _⟩
      case measure=>simp[intOf];omega
    ·have e64:decide (t<64)=false:=decide_eq_false h64
     have good:=hd_ (HQ.out.2 ⟨⟨⟨ht0,ht1⟩,hm0,hm1⟩,fun _=>by (try simp);omega,fun h=>absurd h h64⟩);clear HQ bad
     go_quiet (first|(with_reducible exact aE (aJ _ _ _ _ ht0 ht1))|(with_reducible exact aE (aJ _ _ _ _ hm0 hm1)))
     go_wp2;go_roundw
     case rel=>exact⟨(j+1)+1,o_,gn_,by rw[hs.out],fun i hi=>by
            by_cases h:i<(j+1)
            · exact G.out i h
            · obtain rfl:i=(j+1):=o_
              exact good.out,below_drewN HB2.out _⟩
     case measure=>simp[intOf];omega
  ·exact zAa
theorem iS (w:World) (u:Value) (ps:List Pr) (all:Int) (hp:Prs w u ps):
  Calls prog 222 #[.agg #[u,iv all]] w fun e w'=>e=.returned (.bool (cL ps all))/\Below w.heap.size w w':=by
 obtain⟨x,c,rfl,hc0,hc⟩:=hp.form;exact aFv w x _ c ps all rfl hp o_
def mV (a:List Int) (p:Pr):List Int:=a.set p.1.toNat (a.getD p.1.toNat 0+p.2)
def dB (ps:List Pr):List Int:=ps.foldl mV (List.replicate 128 0)
theorem lG (ps:List Pr):(dB ps).length=128:=by
 unfold dB;have:∀(ps:List Pr) (a:List Int),a.length=128->(ps.foldl mV a).length=128:=by
  intro ps
  induction ps with
  |nil=>intro a h;exact h
  |cons p ps ih=>intro a h;exact ih _ (by simpa[mV]using h)
 exact this ps _ (by simp)
theorem uJ (ps:List Pr) (k:Nat) (h:k<ps.length):dB (ps.take (k+1))=mV (dB (ps.take k)) (pr ps k):=by
 rw[dV ps k h];simp[dB]
def KnB (ps:List Pr):Prop:=∀i,i<ps.length->(0<=(pr ps i).1/\(pr ps i).1<=127)/\0<=(pr ps i).2/\(pr ps i).2<=2000
theorem aAU {ps:List Pr} (h:KnB ps):∀k,k<=ps.length->∀i,0<=(dB (ps.take k)).getD i 0/\(dB (ps.take k)).getD i 0<=2000 * (k:Int):=by
 intro k
 induction k with
 |zero=>
  intro _ i;have e0:∀n,(List.replicate n (0:Int)).getD i 0=0:=fun n=>by
   by_cases hi:i<n<;>simp[hi]
  have e:=e0 128;show 0<=(List.replicate 128 (0:Int)).getD i 0/\(List.replicate 128 (0:Int)).getD i 0<=_
  rw[e];omega
 |succ k ih=>
  intro hk i;have h1:=ih o_ i;have h2:=ih o_ (pr ps k).1.toNat;have h3:=(h k o_).2;rw[uJ ps k o_];unfold mV
  by_cases e:(pr ps k).1.toNat=i
  ·subst e
   by_cases hl:(pr ps k).1.toNat<(dB (ps.take k)).length
   ·rw[List.getD_eq_getElem?_getD,List.getElem?_set_self hl]
    simp only[Option.getD_some];omega
   ·rw[List.set_eq_of_length_le o_];omega
  ·have e1:((dB (ps.take k)).set (pr ps k).1.toNat ((dB (ps.take k)).getD (pr ps k).1.toNat 0+(pr ps k).2)).getD i 0=(dB (ps.take k)).getD i 0:=by simp[e]
   rw[e1];omega
theorem aCw (w:World) (x:Option Addr) (n c:Nat) (ps:List Pr) (hl:ps.length=n) (hp:Prs w (.slice x n c) ps) (hn:n<=300) (hk:KnB ps):
  Calls prog 228 #[.slice x n c] w fun e w'=>e=.returned (.slice (some ⟨w.heap.size,0,none⟩) 128 128)/\jJ w' w.heap.size w.heap.size 128 128 (dB ps)/\Below w.heap.size w w':=by
 have hmk:∀w,(Instr.makeSlice 23 (iv 128) (iv 128)).run prog w=.ok (.slice (some ⟨w.heap.size,0,none⟩) 128 128) (w.alloc (.cells (madeCells #[iv 0] 128) 3)):=fun w=>
  run_make_row' (P:=prog) 23 3 (iv 0) 8 underlying23 rL rfl .i64 .i64 128 o_ o_ w
 have R0:=hd_ (aHN w 128 o_);have HP:=hd_ hp.cells;have HL:=hd_ hl;have KB:=hd_ hk;clear hl hp hk;go_enter func228,ntmps228;go_wp2;go_loopw [4] (fun i wr=>∃k:Nat,k<=n/\i=.int .i64 k/\jJ wr w.heap.size w.heap.size 128 128 (dB (ps.take k))/\Below w.heap.size w wr) (fun i _=>n - (intOf i).toNat)
 case atStart=>exact⟨0,Nat.zero_le _,rfl,R0.out,(Below.refl _ _).alloc lr_ _⟩
 case round=>
  obtain⟨k,hk,rfl,hrow,hbl⟩:=hrel;have HR:=hd_ hrow;have HB:=hd_ hbl
  by_cases hlt:k<n
  ·obtain⟨b,o,rfl,hb,h1,h2⟩:=HP.out k (by rw[HL.out];exact hlt)
   rw[<-HB.out.cell (p:=⟨b,o+k * 2,none⟩) hb]at h1;rw[<-HB.out.cell (p:=⟨b,o+k * 2+1,none⟩) hb]at h2;have g:=KB.out k (by rw[HL.out];exact hlt);have bd:=aAU KB.out k (by rw[HL.out];omega);have hs:=hd_ (uJ ps k (by rw[HL.out];exact hlt));generalize pr ps k=q at h1 h2 hs g;obtain⟨t,m⟩:=q;simp only at h1 h2 g;obtain⟨⟨t0,t1⟩,m0,m1⟩:=g;obtain⟨T,rfl⟩:∃T:Nat,t=(T:Int):=⟨t.toNat,o_⟩
   have T1:(T:Int)<128:=o_;have bT:=bd T;have c0:=hrow.cell (i:=T) o_;have f0:=hrow.free T;unfold mV at hs;simp only[Int.toNat_natCast]at hs;generalize dB (ps.take k)=N at *;obtain⟨V,hV⟩:=nm_ (N.getD T 0);rw[<-hV]at c0 bT hs;have k0:(0:Int)<=(k:Int):=o_;have kn:(k:Int)<(n:Int):=o_;have ws:IntKind.i64.wrap (V+m)=V+m:=IntWalk.i64_in _ o_;have r0:=cell_regrown c0;have r1:=cell_regrown h1
   have r2:=cell_regrown h2;have gl:=hrow.lt.2;clear hrow hbl bd hV;go_wp2;refine iP (C:=fun w'=>∃p:Regrown,w'=grow (redrawn wr p.d) p.os) 21 _ rfl rfl rfl kr_ kr_ kr_ kr_ kr_ ⟨⟨wr.drawn+1,#[]⟩,by rw[grow_empty];rfl⟩ ?_;simp only[List.take_succ_cons,List.take_zero]
   repeat (refine cK (fun K hK=>?_);go_simp;first|(refine hK _ ?_;clear hK K)|(apply Exists.intro;refine⟨fun _=>?_,hK _ ?_⟩;(fail);clear hK K))
   refine dE ?_;intro _ hw';obtain⟨⟨dq,oq⟩,hw''⟩:=hw';subst hw'';have hb_w4:=below_regrown wr dq oq;obtain⟨w4,hq_w4⟩:=nm_ (grow (redrawn wr dq) oq);rw[<-hq_w4]at hb_w4 ⊢;clear hq_w4;have R4:=HR.out.below hb_w4;have d0:=R4.cell (i:=T) o_;have d1:=R4.free T;have RS:=hd_ (R4.set T (V+m));have B4:=hd_ (HB.out.trans (hb_w4.mono HB.out.size));clear R4 hb_w4 r0 r1 r2 c0 f0 h1 h2 ws;go_wp2
   go_roundw
   case rel=>exact⟨k+1,o_,gn_,by rw[hs.out];exact RS.out,B4.out.setCell lr_ _⟩
   case measure=>simp[intOf];omega
  ·obtain rfl:k=n:=o_
   have e1:ps.take k=ps:=List.take_of_length_le (by rw[HL.out];exact Nat.le_refl _);rw[e1]at HR;clear hrow hbl;go_wp2;go_ret;exact⟨rfl,HR.out,HB.out⟩
def sq1 (N:List Int) (D:Int) (j:Nat):List Int:=
 if 0<N.getD (2 * j) 0+N.getD (2 * j+1) 0/\N.getD (2 * j) 0+N.getD (2 * j+1) 0+N.getD j 0<=D then ((N.set j (N.getD j 0+(N.getD (2 * j) 0+N.getD (2 * j+1) 0))).set (2 * j) 0).set (2 * j+1) 0 else N
def sqz (N:List Int) (D:Int):Nat->List Int
 | 0=>N
 |s+1=>sq1 (sqz N D s) D (63 - s)
theorem aHk (N:List Int) (D:Int) (j:Nat):(sq1 N D j).length=N.length:=by unfold sq1;split<;>simp
theorem aCW (N:List Int) (D:Int) (s:Nat):(sqz N D s).length=N.length:=by
 induction s with
 |zero=>rfl
 |succ s ih=>rw[sqz,aHk,ih]
def BdN (N:List Int) (M:Int):Prop:=∀i,0<=N.getD i 0/\N.getD i 0<=M
theorem BdN.set {N:List Int} {M:Int} (h:BdN N M) (i:Nat) {x:Int} (h0:0<=x) (h1:x<=M):BdN (N.set i x) M:=fun j=>by
 have:=h j
 by_cases e:i=j
 ·subst e
  by_cases hl:i<N.length
  ·rw[List.getD_eq_getElem?_getD,List.getElem?_set_self hl];exact⟨h0,h1⟩
  ·rw[List.set_eq_of_length_le o_];exact this
 ·have e1:(N.set i x).getD j 0=N.getD j 0:=by simp[e]
  rw[e1];exact this
theorem aMY {N:List Int} {M D:Int} (h:BdN N M) (hD:D<=M) (hM:0<=M) (j:Nat):BdN (sq1 N D j) M:=by
 unfold sq1
 split
 ·rename_i hc
  have a:=h j;have b:=h (2 * j);have c:=h (2 * j+1);exact ((h.set j o_ o_).set _ (Int.le_refl _) hM).set _ (Int.le_refl _) hM
 ·exact h
theorem aKO {N:List Int} {M D:Int} (h:BdN N M) (hD:D<=M) (hM:0<=M) (s:Nat):BdN (sqz N D s) M:=by
 induction s with
 |zero=>exact h
 |succ s ih=>exact aMY ih hD hM _
theorem vQ (w:World) (B g c:Nat) (N:List Int) (all M:Int) (h:jJ w B g 128 c N) (hb:BdN N M) (a0:0<=all) (hD:all / 8<=M) (hM:M<=10000000):
  Calls prog 230 #[.slice (some ⟨g,0,none⟩) 128 c,iv all] w fun e w'=>e=.returned (.slice (some ⟨g,0,none⟩) 128 c)/\jJ w' B g 128 c (sqz N (all / 8) 63)/\w.grownBy w' (some g):=by
 have ht:all.tdiv 8=all / 8:=Int.tdiv_eq_ediv_of_nonneg a0;obtain⟨D,hDD⟩:=nm_ (all / 8);rw[<-hDD]at ht hD ⊢;have d0:0<=D:=o_;have HR0:=hd_ h;have HB0:=hd_ hb;clear h hb hDD;go_enter func230,ntmps230;go_wp2;go_loopw [5] (fun i wr=>∃(j I:Nat),j<=63/\I=2 * j/\i=.int .i64 I/\jJ wr B g 128 c (sqz N D (63 - j))/\w.grownBy wr (some g)) (fun i _=>(intOf i).toNat)
 case atStart=>exact⟨63,126,Nat.le_refl _,rfl,by first|rfl|go_num,HR0.out,eS _ _⟩
 case round=>
  obtain⟨j,I,hj,hI,rfl,hrow,hgr⟩:=hrel;have HG:=hd_ hgr;clear hgr
  by_cases h1:1<=j
  ·have bd:=aKO HB0.out hD o_ (63 - j)
   have hs:=hd_ (show sqz N D (63 - (j - 1))=sq1 (sqz N D (63 - j)) D j by rw[show 63 - (j - 1)=(63 - j)+1 by omega,sqz,show 63 - (63 - j)=j by omega]);generalize sqz N D (63 - j)=Z at *;obtain⟨I1,hI1⟩:∃I1:Nat,(I:Int)+1=(I1:Int):=⟨I+1,o_⟩
   have hI2:I1=2 * j+1:=o_;have cI:=hrow.cell (i:=I) o_;have cI1:=hrow.cell (i:=I1) o_;have cJ:=hrow.cell (i:=j) o_;have fI:=hrow.free I;have fI1:=hrow.free I1;have fJ:=hrow.free j;have bI:=bd I;have bI1:=bd I1;have bJ:=bd j
   have HSQ:Hid (∀V0 V1 VJ:Int,V0=Z.getD I 0->V1=Z.getD I1 0->VJ=Z.getD j 0->sq1 Z D j=if 0<V0+V1/\V0+V1+VJ<=D then ((Z.set j (VJ+(V0+V1))).set I 0).set I1 0 else Z):=fun V0 V1 VJ e0 e1 e2=>by
    subst e0 e1 e2 hI2 hI;rfl
   obtain⟨V0,hV0⟩:=nm_ (Z.getD I 0);obtain⟨V1,hV1⟩:=nm_ (Z.getD I1 0);obtain⟨VJ,hVJ⟩:=nm_ (Z.getD j 0);have SQ:=hd_ (HSQ.out V0 V1 VJ hV0 hV1 hVJ);rw[<-hV0]at cI bI;rw[<-hV1]at cI1 bI1;rw[<-hVJ]at cJ bJ;have HR:=hd_ hrow;have q2:(I:Int).tdiv 2=(j:Int):=by rw[Int.tdiv_eq_ediv_of_nonneg o_];omega
   have i0:(0:Int)<=(I:Int):=o_;have i1:(I:Int)<128:=o_;have i2:(2:Int)<=(I:Int):=o_;have i3:(I1:Int)<128:=o_;have j0:(j:Int)<128:=o_;have w1:IntKind.i64.wrap (V0+V1)=V0+V1:=IntWalk.i64_in _ o_;have w2:IntKind.i64.wrap (V0+V1+VJ)=V0+V1+VJ:=IntWalk.i64_in _ o_;have w3:IntKind.i64.wrap (VJ+(V0+V1))=VJ+(V0+V1):=IntWalk.i64_in _ o_;have HI:=hd_ hI;have HI2:=hd_ hI2
   clear hV0 hV1 hVJ HSQ bd hrow hI hI2
   by_cases c1:0<V0+V1
   ·by_cases c2:V0+V1+VJ<=D
    ·have e:=hd_ (SQ.out.trans (if_pos ⟨c1,c2⟩))
     have ne1:I≠j:=by have:=HI.out;omega
     have ne2:I1≠j:=by have:=HI2.out;omega
     have ne3:I1≠I:=by have:=HI2.out;have:=HI.out;omega
     have RA:=fun q=>(HR.out.drewN q).set j (VJ+(V0+V1))
     have RB:=fun q=>(RA q).set I 0
     have RC:=hd_ (fun q=>(RB q).set I1 0);have GC:=hd_ (fun q=>aL (oR HG.out q) (aL ((HR.out.drewN q).grown j (VJ+(V0+V1))) (aL ((RA q).grown I 0) ((RB q).grown I1 0))));clear RA RB;go_wp2
     go_quiet (fail)
     go_wp2;go_roundw
     case rel=>exact⟨j - 1,I - 2,o_,by have:=HI.out;omega,by congr 1;omega,by rw[hs.out,e.out];exact RC.out _,GC.out _⟩
     case measure=>simp[intOf];omega
    ·have e:=hd_ (SQ.out.trans (if_neg (fun h=>c2 h.2)))
     exact zBc
   ·have e:=hd_ (SQ.out.trans (if_neg (fun h=>c1 h.1)))
    exact zBc
  ·obtain rfl:j=0:=o_
   obtain rfl:I=0:=o_;have HR:=hd_ hrow;clear hrow hI h1 hj;go_wp2;go_ret;exact⟨rfl,HR.out,HG.out⟩
theorem dI (w:World) (x y:Value) (t:TypeId):∀j u,[x,y][j]? =some u->(w.alloc (.cells #[x,y] t)).cell? ((⟨w.heap.size,0,none⟩:Addr).add j)=some u:=by
 exact zBV
theorem fM {w:World} {B no:Nat} {v:Value} {os:List Pr} {t m:Int} (h:w.ownsRow B 152 2 v (no+1) (prs os++[.int .i64 t,.int .i64 m])) (hn:no=os.length):aF w B v (os++[(t,m)]):=by
 unfold aF;rw[rT,List.length_append, <-hn];exact h
theorem bU {B:Nat} {w wr w':World} {o:Obj} {e:TypeId} {size:Nat} {v:Value} {n:Nat} {xs:List Value} (hb:Below B w wr) (hB:B<=wr.heap.size) (ho:wr.ownsRow B e size v n xs) (hg:(wr.alloc o).grownBy w' v.ownBlock):Below B w w':=
 (hb.alloc hB o).grown hg (Nat.le_trans hB (by simp)) (fun k e=>(ho.lt k e).1)
def iG (N:List Int):Nat->List Pr
 | 0=>[]
 |k+1=>iG N k++if 0<N.getD (k+1) 0 then [(((k+1:Nat):Int),N.getD (k+1) 0)]else []
def kV (N:List Int):List Pr:=iG N 127
theorem aB7 (N:List Int) (k:Nat):(iG N k).length<=k:=by
 induction k with
 |zero=>exact Nat.le_refl _
 |succ k ih=>unfold iG;split<;>simp<;>omega
theorem aB0 (w:World) (B g c:Nat) (N:List Int) (h:jJ w B g 128 c N):
  Calls prog 229 #[.slice (some ⟨g,0,none⟩) 128 c] w fun e w'=>∃v,e=.returned v/\aF w' w.heap.size v (kV N)/\Below w.heap.size w w':=by
 obtain⟨i0,hi,hz0,hz1,hz2⟩:=info_parts dY;have HR:=hd_ h;have HG:=hd_ h.lt.2;have HE:=hd_ (lJ w w.heap.size lr_);clear h;go_enter func229,ntmps229;go_wp2
 go_loopw [3,4] (fun o i wr=>∃(k no:Nat) (x:Option Addr) (co:Nat),k<=127/\i=.int .i64 ((k+1:Nat):Int)/\o=.slice x no co/\no=(iG N k).length/\aF wr w.heap.size (.slice x no co) (iG N k)/\Below w.heap.size w wr) (fun _ i _=>128 - (intOf i).toNat)
 case atStart=>exact⟨0,0,_,_,Nat.zero_le _,by first|rfl|go_num,rfl,rfl,HE.out,(Below.refl _ _).alloc lr_ _⟩
 case round=>
  obtain⟨k,no,x,co,hk,rfl,rfl,hno,hown,hbl⟩:=hrel;have HB:=hd_ hbl;have szr:=hbl.size;have ho:wr.ownsRow w.heap.size 152 2 (.slice x no co) no (prs (iG N k)):=by have h:=hown;unfold aF at h;rw[<-hno]at h;exact h
  have HO:=hd_ ho;have HN:=hd_ hno;have ln:=aB7 N k;have nb:no<=127:=o_;have hs:=hd_ (show iG N (k+1)=iG N k++if 0<N.getD (k+1) 0 then [(((k+1:Nat):Int),N.getD (k+1) 0)]else []from rfl);have hfin:Hid (k=127->iG N k=kV N):=fun e=>by rw[e];rfl
  generalize iG N k=os at *;obtain⟨K,hK⟩:=nm_ (k+1);rw[<-hK]at hs ⊢;have HKK:=hd_ hK;clear hbl ho hno hown ln
  by_cases hlt:k<127
  ·have cN:=(HR.out.below (by have:=HB.out;exact this.mono lr_)).cell (i:=K) o_
   obtain⟨V,hV⟩:=nm_ (N.getD K 0);rw[<-hV]at hs cN;have k0:(0:Int)<=(K:Int):=o_;have kn:(K:Int)<128:=o_;clear hV hK
   by_cases hp:0<V
   ·have e:=hd_ (hs.out.trans (by rw[if_pos hp]))
    go_wp2_with (first|(at_builtin;refine wpList_append_own _ rfl _ _ 42 rfl w.heap.size 152 i0 (.agg #[iv 0,iv 0]) 2 16 underlying42 hi hz0 hz1 hz2 rfl dc_ _ _ _ rfl (HO.out.alloc _) ⟨wr.heap.size,0,none⟩ 1 1 [iv K,iv V] rfl rfl (dI _ _ _ _) (by simp[Value.oneCell']) (by unfold maxLen;omega) o_ (by simp;omega) ?_;intro v1 w3 ho1 hg1 _;obtain⟨g_v1,c_v1,rfl,_,_⟩:=World.ownsRow.form ho1 (Nat.succ_pos _)))
    go_roundw
    case rel=>exact⟨K,no+1,_,_,o_,gn_,rfl,by rw[HKK.out, <-HKK.out,e.out];simp[HN.out],by rw[e.out];exact fM ho1 HN.out,bU HB.out szr HO.out hg1⟩
    case measure=>simp[intOf];omega
   ·have e:=hd_ (hs.out.trans (by rw[if_neg hp,List.append_nil]))
    have OW:Hid (aF wr w.heap.size (.slice x no co) os):=by show aF _ _ _ _;unfold aF;rw[<-HN.out];exact HO.out
    go_wp2;go_roundw
    case rel=>exact⟨K,no,_,_,o_,gn_,rfl,by rw[e.out];exact HN.out,by rw[e.out];exact OW.out,HB.out⟩
    case measure=>simp[intOf];omega
  ·have ef:=hd_ (hfin.out o_)
   clear hfin;obtain rfl:k=127:=o_;obtain rfl:K=128:=o_;have OW:Hid (aF wr w.heap.size (.slice x no co) os):=by show aF _ _ _ _;unfold aF;rw[<-HN.out];exact HO.out
   clear hK hlt hk;go_wp2;go_ret;exact⟨_,rfl,ef.out ▸ OW.out,HB.out⟩
def gX:List Pr->Int->Int
 | [],_=>0
 |p::ps,t=>(if kK p.1<=t then p.2 else 0)+gX ps t
def kL:List Pr->Int->Int
 | [],_=>0
 |p::ps,t=>(if rO p.1<=t then p.2 else 0)+kL ps t
end Go.Proofs.YtcblbdpdbggkbaaGreat.K
