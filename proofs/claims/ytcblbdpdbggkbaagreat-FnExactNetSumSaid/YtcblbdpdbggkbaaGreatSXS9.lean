/-
  What the laws of XS need of the texts before it, part 9.
-/
import Derived.ArgAppend
import Derived.Below
import Derived.BigQuiet
import Derived.Carry
import Derived.ChangeAt
import Derived.ChangeOld
import Derived.ChangeSame
import Derived.Deep.AppendLies
import Derived.Deep.Cut
import Derived.Deep.DeepCutAuto
import Derived.Deep.DrawnRows
import Derived.Deep.Fields
import Derived.Deep.Matrix
import Derived.Deep.MidRow
import Derived.Deep.OwnRows
import Derived.Deep.QuietTactic
import Derived.Deep.RegionHeld3
import Derived.Deep.RegionLaw
import Derived.Deep.RegionLawGrows
import Derived.Deep.RegionWith
import Derived.Deep.Slices
import Derived.Deep.WholeRow
import Derived.DeepKeys5
import Derived.IntWalk
import Derived.KernelRfl
import Derived.Laws.AppendOwnNone
import Derived.Laws.EntriesVeiled
import Derived.Laws.ResultCell
import Derived.Lib.AppendZerosOnto
import Derived.Lib.Hide
import Derived.Lib.QuietBelow
import Derived.Lib.SliceRun
import Derived.Lib.SmallJoins
import Derived.Lib.Walk
import Derived.LoopIn
import Derived.LoopNIn
import Derived.Maps.AppendAt
import Derived.Maps.Keyed
import Derived.OneCell
import Derived.OpenShut
import Derived.OrdersHeld
import Derived.OwnWalkIn
import Derived.RangeFuncBound
import Derived.RangeFuncBox
import Derived.RangeFuncCalls
import Derived.RangeFuncLeaves
import Derived.RangeFuncNested
import Derived.RegionTactic
import Derived.Shelf.Abstract
import Derived.Shelf.RegionOpen
import Derived.Shelf.SlSortCmp.InsertionK
import Derived.StillTail
import Derived.TacticsInMore
import Derived.Test.YtcblbdpdbggkbaaGreatRows
import Derived.WalkKit
import Derived.WalkLawsBesides
import Derived.WalkSmall
import Derived.WalkSpells
import Derived.Test.YtcblbdpdbggkbaaGreatSXS8
set_option maxRecDepth 100000
set_option maxHeartbeats 16000000
set_option linter.unusedVariables false
set_option linter.unusedSectionVars false
set_option linter.unusedSimpArgs false
namespace Go.Proofs.YtcblbdpdbggkbaaGreat
open _root_.Go.Proofs.Tryz
theorem zd {P:Prop} (h:P:=by
 go_enter func169,ntmps169;go_wp2;rw[<-hW];clear hW;refine cY kr_ kr_ ?_
 repeat (refine cK (fun K hK=>?_);go_simp;first|(refine hK _ ?_;clear hK K)|(apply Exists.intro;refine⟨fun _=>?_,hK _ ?_⟩;(first|(with_reducible exact HR.out _ _)|(with_reducible exact HF.out _ _)|(with_reducible exact HT.out _ _)|(with_reducible exact HK.out _ _)|(with_reducible exact HA.out _ _));clear hK K))
 refine dE ?_;intro _ hw';obtain⟨⟨dq,oq⟩,hw''⟩:=hw';subst hw'';have hb_w1:=below_regrown W0 dq oq;obtain⟨w1,hq_w1⟩:=nm_ (grow (redrawn W0 dq) oq);rw[<-hq_w1]at hb_w1 ⊢;clear hq_w1;go_wp2;go_ret;exact⟨by first|rfl|simp,B.out.trans (hb_w1.mono B.out.size)⟩):P:=h
theorem zo {P:Prop} (h:P:=by
 rw[dL o_]at KS
 have h3:¬left - (n:Int) - (a:Int) - (m:Int)<0:=o_
 go_wp2_with fail
 refine KS.out.mono ?_;rintro e w1 ⟨rfl,hb1⟩;have B2:=hd_ (HB.out.trans (hb1.mono HB.out.size));clear hb1 HB KS;go_wp2;go_roundw
 case rel=>exact⟨j+1,a+m,o_,gn_,by rw[show left - (n:Int) - (a:Int) - (m:Int)=left - n - ((a+m:Nat):Int) by omega],E3.out.symm,o_,B2.out⟩
 case measure=>simp[intOf];omega):P:=h
theorem zu {P:Prop} (h:P:=by
 refine hK _ _ (.inr rfl) ?_;clear hK K'
 try simp only[Act.put,List.getElem_toArray,List.getElem_cons_succ,pg3,pg4,pg5,pg6]
 repeat ((first|(refine cX r_ r_ ?_;apply Exists.intro;refine⟨fun w' hw'=>?_,?_⟩;(· ((try dsimp only at hw');go_simp;(try with_reducible rfl))))|(refine cZ r_ r_ ?_));simp only[Act.put,List.getElem_toArray,List.getElem_cons_succ,pg3,pg4,pg5,pg6])
 refine aG ?_;go_wp2;go_ret;exact⟨by rw[F.out];rfl,by have:=H.out.below;rwa[HP.out]at this⟩):P:=h
theorem zv {P:Prop} (h:P:=by
 refine aB r_ (fun K hK=>?_);go_simp;refine hK _ _ (.inl rfl) ?_;clear hK K
 try simp only[Act.put,List.getElem_toArray,List.getElem_cons_succ,pg3,pg4,pg5,pg6]
 refine aG ?_;cases ok with
 |false=>
  have F:=hd_ (show fC n ⟨(i:Int),(j:Int),(q:Int),s⟩=false by rw[FB.out];rfl);go_wp2;go_ret;exact⟨by rw[F.out];rfl,by have:=H6.out.below;rwa[HP.out]at this⟩
 |true=>
  have F:=hd_ (show fC n ⟨(i:Int),(j:Int),(q:Int),s⟩=mE sm s by rw[FB.out];rfl);obtain⟨e0,e1,e2,e3,e4,e5,e6⟩:=N6.out.cells7;obtain⟨d0,d1,d2,d3,d4,d5,d6,d7,d8,d9⟩:=H6.out.cells10;have KS:=hd_ (aB1 _ (V1:=U) (V2:=V) (s1:=sm) (s2:=s) R6.out (HE.out.below (by have:=H6.out.below;rwa[HP.out]at this) lr_));clear R6
  go_wp2_with fail
  refine KS.out.mono ?_;rintro r w7 ⟨rfl,hb⟩;have H7:=hd_ (H6.out.later hb);clear KS hb e0 e1 e2 e3 e4 e5 e6 d0 d1 d2 d3 d4 d5 d6 d7 d8 d9 N6 H6;go_wp2;go_ret;exact⟨by rw[F.out];rfl,by have:=H7.out.below;rwa[HP.out]at this⟩):P:=h
theorem zy {P:Prop} (h:P:=by
 go_wp2_with fail
 rw[<-hW];refine K.out.mono ?_;rintro e w1 ⟨rfl,hb⟩;have B:=hd_ (HA.out.trans (hb.mono HA.out.size));clear hb hW K;go_wp2;go_ret;exact⟨rfl,B.out⟩):P:=h
theorem zAc {P:Prop} (h:P:=by
 go_wp2;go_ret;exact⟨by rw[F.out];rfl,by have:=H.out.below;rwa[HP.out]at this⟩):P:=h
theorem zAd {P:Prop} (h:P:=by
 have F:=hd_ (jM (a:=s1) (b:=s2) fun e=>eq (EQ.out.1 (by rw[e])))
 by_cases ex:x1=x2
 ·have ey:(y1==y2)=false:=by
   have:¬y1=y2:=fun e=>eq ⟨ex,e⟩
   simpa using this
  have ey':(y1 != y2)=true:=by simpa using ey
  subst ex;clear eq EQ
  repeat (first|refine tA_ ?_|refine tB_ ?_)
  refine aG ?_;go_wp2;go_ret;exact⟨by rw[F.out];rfl,by have:=H2.out.below;rwa[HP.out]at this⟩
 ·have ex':(x1==x2)=false:=by simpa using ex
  clear eq EQ ex
  repeat (first|refine tA_ ?_|refine tB_ ?_)
  refine aG ?_;go_wp2;go_ret;exact⟨by rw[F.out];rfl,by have:=H2.out.below;rwa[HP.out]at this⟩):P:=h
theorem zAf {P:Prop} (h:P:=by
 go_wp2_with fail
 refine KS.out.mono ?_;rintro e w1 ⟨rfl,hb1⟩;have B2:=hd_ (HB.out.trans (hb1.mono HB.out.size));clear hb1 HB KS H1;go_wp2;go_ret;exact⟨by rw[fin.out];rfl,B2.out⟩):P:=h
theorem zAl {P:Prop} (h:P:=by
 go_wp2;go_ret;exact⟨by exact congrArg (fun z=>Ending.returned (Value.int .i64 z)) (if_pos (show left<((n1+n2+n3+n4:Nat):Int) by omega)).symm,F.out.below⟩):P:=h
theorem zAq {P:Prop} (h:P:=by
 refine hK _ _ (.inr rfl) ?_;clear hK K'
 try simp only[Act.put,List.getElem_toArray,List.getElem_cons_succ,pg3,pg4,pg5,pg6]
 repeat ((first|(refine cX r_ r_ ?_;apply Exists.intro;refine⟨fun w' hw'=>?_,?_⟩;(· ((try dsimp only at hw');go_simp;(try with_reducible rfl))))|(refine cZ r_ r_ ?_));simp only[Act.put,List.getElem_toArray,List.getElem_cons_succ,pg3,pg4,pg5,pg6])
 refine aB r_ (fun K' hK=>?_);go_simp;exact zu):P:=h
theorem zAx {P:Prop} (h:P:=by
 go_wp2;go_ret;exact⟨by rw[F.out];rfl,by have:=H1.out.below;rwa[HP.out]at this⟩):P:=h
theorem zBb {P:Prop} (h:P:=by
 by_cases h:j<k
 ·exact HE.out j h
 ·obtain rfl:j=k:=o_
  exact EQ.out.2 eq):P:=h
theorem zBd {P:Prop} (h:P:=by
 go_roundw
 case rel=>exact⟨j+1,o_,gn_,NO2.out,by first|rfl|trivial⟩
 case measure=>simp[intOf];omega):P:=h
theorem zBn {P:Prop} (h:P:=by
 clear EQ
 repeat (first|refine tA_ ?_|refine tB_ ?_)
 refine aG ?_;go_wp2;go_roundw
 case rel=>exact⟨k+1,o_,gn_,HE2.out,H2.out⟩
 case measure=>simp[intOf];omega):P:=h
theorem zBo {P:Prop} (h:P:=by
 go_wp2;go_ret;exact⟨by rw[E.out];rfl,Below.refl _ _⟩):P:=h
theorem zBM {P:Prop} (h:P:=by
 have F:=hd_ (H.out.later hb);clear hb H d0 d1 d2 d3;exact zAl):P:=h
theorem zBP {P:Prop} (h:P:=by
 go_ret;exact⟨by rw[fin.out];rfl,HB.out⟩):P:=h
end Go.Proofs.YtcblbdpdbggkbaaGreat
namespace Go.Proofs.YtcblbdpdbggkbaaGreat
open _root_.Go.Proofs.Tryz
open Go.RowKit Go.Sort
namespace N
def szS {α:Type} (f:α->Nat) (l:List α):Nat:=(l.map f).sum
def szK (es:List En):Nat:=es.length+szS (fun e=>sR e.s) es
def aBv (xs:List Nd):Nat:=xs.length+szS (fun x=>szK x.known) xs
def aBQ (xs:List Wd):Nat:=xs.length+szS (fun x=>szK x.known) xs
def szP (ps:List (List (List Int))):Nat:=ps.length+szS (fun rs=>rs.length+eX rs rs.length) ps
def aFE (n:Nt):Nat:=aBv n.nodes+n.links.length+aBQ n.words+szP n.past
theorem aAQ {α:Type} {f:α->Nat} {l:List α} {i:Nat} {a:α} (h:l[i]? =some a):szS f (l.take (i+1))=szS f (l.take i)+f a:=by
 unfold szS;rw[List.take_add_one,h];simp
theorem rQ {α:Type} (f:α->Nat) (l:List α) (i:Nat):szS f (l.take i)<=szS f l:=by
 conv=>rhs;rw[<-List.take_append_drop i l]
 unfold szS;rw[List.map_append,List.sum_append];exact Nat.le_add_right _ _
theorem aFN (w:World) (V:SV) (e:En) (h:aDi w V e.s) (left:Int) (h0:0<=left) (h1:left<=1048576):
  Calls prog 147 #[.agg #[iv e.node,iv e.born,iv e.num,.slice V.xr V.nr V.cr,.slice V.xf V.nf V.cf,.slice V.xt V.nt V.ct,.int .i64 (e.s).lo,.int .i64 (e.s).al,.slice V.xk V.nk V.ck,.int .i64 (e.s).ka],iv left] w fun r w'=>r=.returned (iv (szV left (sR e.s)))/\Below w.heap.size w w':=by
 have X:=(M.start w).alloc #[iv e.node,iv e.born,iv e.num,.slice V.xr V.nr V.cr,.slice V.xf V.nf V.cf,.slice V.xt V.nt V.ct,.int .i64 (e.s).lo,.int .i64 (e.s).al,.slice V.xk V.nk V.ck,.int .i64 (e.s).ka] 183;have HA:=hd_ X.below
 have K:=hd_ (aJU (w.alloc (.cells #[iv e.node,iv e.born,iv e.num,.slice V.xr V.nr V.cr,.slice V.xf V.nf V.cf,.slice V.xt V.nt V.ct,.int .i64 (e.s).lo,.int .i64 (e.s).al,.slice V.xk V.nk V.ck,.int .i64 (e.s).ka] 183)) V e.s left (h.below X.below lr_) h0 h1)
 change Hid (Calls _ _ _ _ fun e1 w1=>e1=.returned (iv (szV left (sR e.s)))/\_)at K
 obtain⟨m,hm⟩:=nm_ (sR e.s);rw[<-hm]at K ⊢;clear h hm;obtain⟨W0,hW⟩:=nm_ (w.alloc (.cells #[iv e.node,iv e.born,iv e.num,.slice V.xr V.nr V.cr,.slice V.xf V.nf V.cf,.slice V.xt V.nt V.ct,.int .i64 (e.s).lo,.int .i64 (e.s).al,.slice V.xk V.nk V.ck,.int .i64 (e.s).ka] 183));rw[<-hW]at X K HA;have YtcblbdpdbggkbaaGreat0:=hd_ X;clear X
 by_cases hle:left<m
 ·rw[bF hle]at K ⊢
  go_enter func147,ntmps147
  exact zy
 ·rw[dL o_]at K ⊢
  have h2:¬left - (m:Int)<0:=o_;go_enter func147,ntmps147
  exact zy
theorem aAV (w:World) (v:Value) (xs:List (En)) (left:Int) (h:mM w [v] xs) (h0:0<=left) (h1:left<=1048576):
  Calls prog 61 #[v,iv left] w fun e w'=>e=.returned (iv (szV left (szK xs)))/\Below w.heap.size w w':=by
 obtain⟨x,c,ev,hl⟩:=bB h;cases ev;obtain⟨n,hn⟩:=nm_ xs.length;rw[<-hn]at h ⊢ hl;have SZ:Hid (szK xs=n+szS (fun e:En=>sR e.s) xs):=hd_ (by rw[hn];rfl);have HN:=hd_ hn;have H1:=hd_ h;unfold maxLen at hl;clear h hn
 by_cases hle:left<n
 ·have E:Hid (szV left (szK xs)= -1):=hd_ (bF (by rw[SZ.out];omega))
  have h2:left - (n:Int)<0:=o_;go_enter func61,ntmps61;exact zBo
 ·have h2:¬left - (n:Int)<0:=o_
  go_enter func61,ntmps61;go_wp2;go_loopw [1,5] (fun q i wr=>∃j a:Nat,j<=n/\i=.int .i64 (j:Int)/\q=.int .i64 (left - n - a)/\a=szS (fun e:En=>sR e.s) (xs.take j)/\(a:Int)<=left - n/\Below w.heap.size w wr) (fun _ i _=>n - (intOf i).toNat)
  case atStart=>exact⟨0,0,Nat.zero_le _,rfl,by simp,rfl,o_,Below.refl _ _⟩
  case round=>
   obtain⟨j,a,hj,rfl,rfl,ha,hal,hb⟩:=hrel;have HA:=hd_ ha;have HB:=hd_ hb;clear ha hb
   by_cases hlt:j<n
   ·obtain⟨y,hy⟩:∃y,xs[j]? =some y:=⟨_,List.getElem?_eq_getElem (by rw[<-HN.out];exact hlt)⟩
    obtain⟨b,o,ci,rfl,_,lc,hr,hA⟩:=mT (gU.keep H1.out HB.out lr_) hy;obtain⟨cs,ec,V,ec2,hs⟩:=zX.1 hA;subst ec2;subst ec;have d0:=hr 0 _ rfl;have d1:=hr 1 _ rfl;have d2:=hr 2 _ rfl;have d3:=hr 3 _ rfl;have d4:=hr 4 _ rfl;have d5:=hr 5 _ rfl;have d6:=hr 6 _ rfl;have d7:=hr 7 _ rfl;have d8:=hr 8 _ rfl;have d9:=hr 9 _ rfl;simp only[Nat.add_zero]at d0
    obtain⟨m,hm⟩:=nm_ ((fun e:En=>sR e.s) y);have KS:=hd_ (aFN wr V y hs (left - n - a) o_ o_);rw[show sR y.s=m from hm.symm]at KS;have E3:=hd_ (show szS (fun e:En=>sR e.s) (xs.take (j+1))=a+m by rw[aAQ hy, <-HA.out,hm]);have mo:=rQ (fun e:En=>sR e.s) xs (j+1);rw[E3.out]at mo;have MO:=hd_ mo;have k0:(0:Int)<=(j:Int):=o_;have kn:(j:Int)<(n:Int):=o_;clear hm mo hy lc hr hA
    by_cases hlm:left - n - a<m
    ·rw[bF hlm]at KS
     have fin:Hid (szV left (szK xs)= -1):=hd_ (bF (by rw[SZ.out];have:=MO.out;omega))
     exact zAf
    ·exact zo
   ·obtain rfl:j=n:=o_
    have fin:Hid (szV left (szK xs)=left - j - a):=by
     have e1:xs.take j=xs:=List.take_of_length_le (by rw[HN.out];exact Nat.le_refl _);have e2:=HA.out;rw[e1]at e2;show szV left (szK xs)=_
     rw[SZ.out, <-e2,dL o_];omega
    go_wp2;exact zBP
theorem aJf (w:World) {y:Option Addr} {m0 cy:Nat} (x:Nd) (h:mM w [.slice y m0 cy] x.known) (left:Int) (h0:0<=left) (h1:left<=1048576):
  Calls prog 182 #[.agg #[iv x.born,.slice y m0 cy,iv x.beacon,iv x.level,iv x.up],iv left] w fun r w'=>r=.returned (iv (szV left (szK x.known)))/\Below w.heap.size w w':=by
 have X:=(M.start w).alloc #[iv x.born,.slice y m0 cy,iv x.beacon,iv x.level,iv x.up] 220;have HA:=hd_ X.below;have K:=hd_ (aAV (w.alloc (.cells #[iv x.born,.slice y m0 cy,iv x.beacon,iv x.level,iv x.up] 220)) _ x.known left (gU.keep h X.below lr_) h0 h1);obtain⟨m,hm⟩:=nm_ (szK x.known);rw[<-hm]at K ⊢;clear h hm
 obtain⟨W0,hW⟩:=nm_ (w.alloc (.cells #[iv x.born,.slice y m0 cy,iv x.beacon,iv x.level,iv x.up] 220));rw[<-hW]at X K HA;have YtcblbdpdbggkbaaGreat0:=hd_ X;clear X
 by_cases hle:left<m
 ·rw[bF hle]at K ⊢
  go_enter func182,ntmps182
  exact zy
 ·rw[dL o_]at K ⊢
  have h2:¬left - (m:Int)<0:=o_;go_enter func182,ntmps182
  exact zy
theorem aGb (w:World) (v:Value) (xs:List (Nd)) (left:Int) (h:rR 5 aAO w [v] xs) (h0:0<=left) (h1:left<=1048576):
  Calls prog 112 #[v,iv left] w fun e w'=>e=.returned (iv (szV left (aBv xs)))/\Below w.heap.size w w':=by
 obtain⟨x,c,ev,hl⟩:=bB h;cases ev;obtain⟨n,hn⟩:=nm_ xs.length;rw[<-hn]at h ⊢ hl;have SZ:Hid (aBv xs=n+szS (fun x:Nd=>szK x.known) xs):=hd_ (by rw[hn];rfl);have HN:=hd_ hn;have H1:=hd_ h;unfold maxLen at hl;clear h hn
 by_cases hle:left<n
 ·have E:Hid (szV left (aBv xs)= -1):=hd_ (bF (by rw[SZ.out];omega))
  have h2:left - (n:Int)<0:=o_;go_enter func112,ntmps112;exact zBo
 ·have h2:¬left - (n:Int)<0:=o_
  go_enter func112,ntmps112;go_wp2;go_loopw [1,5] (fun q i wr=>∃j a:Nat,j<=n/\i=.int .i64 (j:Int)/\q=.int .i64 (left - n - a)/\a=szS (fun x:Nd=>szK x.known) (xs.take j)/\(a:Int)<=left - n/\Below w.heap.size w wr) (fun _ i _=>n - (intOf i).toNat)
  case atStart=>exact⟨0,0,Nat.zero_le _,rfl,by simp,rfl,o_,Below.refl _ _⟩
  case round=>
   obtain⟨j,a,hj,rfl,rfl,ha,hal,hb⟩:=hrel;have HA:=hd_ ha;have HB:=hd_ hb;clear ha hb
   by_cases hlt:j<n
   ·obtain⟨y,hy⟩:∃y,xs[j]? =some y:=⟨_,List.getElem?_eq_getElem (by rw[<-HN.out];exact hlt)⟩
    obtain⟨b,o,ci,rfl,_,lc,hr,hA⟩:=mT ((eJ nH 5).keep H1.out HB.out lr_) hy;obtain⟨v,ec,hs⟩:=aCc.1 hA;subst ec;obtain⟨z,cz,ez,_⟩:=bB hs;cases ez;have d0:=hr 0 _ rfl;have d1:=hr 1 _ rfl;have d2:=hr 2 _ rfl;have d3:=hr 3 _ rfl;have d4:=hr 4 _ rfl;simp only[Nat.add_zero]at d0;obtain⟨m,hm⟩:=nm_ ((fun x:Nd=>szK x.known) y)
    have KS:=hd_ (aJf wr y hs (left - n - a) o_ o_);rw[show szK y.known=m from hm.symm]at KS;have E3:=hd_ (show szS (fun x:Nd=>szK x.known) (xs.take (j+1))=a+m by rw[aAQ hy, <-HA.out,hm]);have mo:=rQ (fun x:Nd=>szK x.known) xs (j+1);rw[E3.out]at mo;have MO:=hd_ mo;have k0:(0:Int)<=(j:Int):=o_;have kn:(j:Int)<(n:Int):=o_;clear hm mo hy lc hr hA
    by_cases hlm:left - n - a<m
    ·rw[bF hlm]at KS
     have fin:Hid (szV left (aBv xs)= -1):=hd_ (bF (by rw[SZ.out];have:=MO.out;omega))
     exact zAf
    ·exact zo
   ·obtain rfl:j=n:=o_
    have fin:Hid (szV left (aBv xs)=left - j - a):=by
     have e1:xs.take j=xs:=List.take_of_length_le (by rw[HN.out];exact Nat.le_refl _);have e2:=HA.out;rw[e1]at e2;show szV left (aBv xs)=_
     rw[SZ.out, <-e2,dL o_];omega
    go_wp2;exact zBP
theorem aIW (w:World) {y:Option Addr} {m0 cy:Nat} (x:Wd) (h:mM w [.slice y m0 cy] x.known) (left:Int) (h0:0<=left) (h1:left<=1048576):
  Calls prog 183 #[.agg #[iv x.kind,iv x.src,iv x.dst,iv x.beacon,iv x.level,.slice y m0 cy],iv left] w fun r w'=>r=.returned (iv (szV left (szK x.known)))/\Below w.heap.size w w':=by
 have X:=(M.start w).alloc #[iv x.kind,iv x.src,iv x.dst,iv x.beacon,iv x.level,.slice y m0 cy] 223;have HA:=hd_ X.below;have K:=hd_ (aAV (w.alloc (.cells #[iv x.kind,iv x.src,iv x.dst,iv x.beacon,iv x.level,.slice y m0 cy] 223)) _ x.known left (gU.keep h X.below lr_) h0 h1);obtain⟨m,hm⟩:=nm_ (szK x.known);rw[<-hm]at K ⊢;clear h hm
 obtain⟨W0,hW⟩:=nm_ (w.alloc (.cells #[iv x.kind,iv x.src,iv x.dst,iv x.beacon,iv x.level,.slice y m0 cy] 223));rw[<-hW]at X K HA;have YtcblbdpdbggkbaaGreat0:=hd_ X;clear X
 by_cases hle:left<m
 ·rw[bF hle]at K ⊢
  go_enter func183,ntmps183
  exact zy
 ·rw[dL o_]at K ⊢
  have h2:¬left - (m:Int)<0:=o_;go_enter func183,ntmps183
  exact zy
theorem aGQ (w:World) (v:Value) (xs:List (Wd)) (left:Int) (h:rR 6 aAh w [v] xs) (h0:0<=left) (h1:left<=1048576):
  Calls prog 114 #[v,iv left] w fun e w'=>e=.returned (iv (szV left (aBQ xs)))/\Below w.heap.size w w':=by
 obtain⟨x,c,ev,hl⟩:=bB h;cases ev;obtain⟨n,hn⟩:=nm_ xs.length;rw[<-hn]at h ⊢ hl;have SZ:Hid (aBQ xs=n+szS (fun x:Wd=>szK x.known) xs):=hd_ (by rw[hn];rfl);have HN:=hd_ hn;have H1:=hd_ h;unfold maxLen at hl;clear h hn
 by_cases hle:left<n
 ·have E:Hid (szV left (aBQ xs)= -1):=hd_ (bF (by rw[SZ.out];omega))
  have h2:left - (n:Int)<0:=o_;go_enter func114,ntmps114;exact zBo
 ·have h2:¬left - (n:Int)<0:=o_
  go_enter func114,ntmps114;go_wp2;go_loopw [1,5] (fun q i wr=>∃j a:Nat,j<=n/\i=.int .i64 (j:Int)/\q=.int .i64 (left - n - a)/\a=szS (fun x:Wd=>szK x.known) (xs.take j)/\(a:Int)<=left - n/\Below w.heap.size w wr) (fun _ i _=>n - (intOf i).toNat)
  case atStart=>exact⟨0,0,Nat.zero_le _,rfl,by simp,rfl,o_,Below.refl _ _⟩
  case round=>
   obtain⟨j,a,hj,rfl,rfl,ha,hal,hb⟩:=hrel;have HA:=hd_ ha;have HB:=hd_ hb;clear ha hb
   by_cases hlt:j<n
   ·obtain⟨y,hy⟩:∃y,xs[j]? =some y:=⟨_,List.getElem?_eq_getElem (by rw[<-HN.out];exact hlt)⟩
    obtain⟨b,o,ci,rfl,_,lc,hr,hA⟩:=mT ((eJ nK 6).keep H1.out HB.out lr_) hy;obtain⟨v,ec,hs⟩:=aBU.1 hA;subst ec;obtain⟨z,cz,ez,_⟩:=bB hs;cases ez;have d0:=hr 0 _ rfl;have d1:=hr 1 _ rfl;have d2:=hr 2 _ rfl;have d3:=hr 3 _ rfl;have d4:=hr 4 _ rfl;have d5:=hr 5 _ rfl;simp only[Nat.add_zero]at d0;obtain⟨m,hm⟩:=nm_ ((fun x:Wd=>szK x.known) y)
    have KS:=hd_ (aIW wr y hs (left - n - a) o_ o_);rw[show szK y.known=m from hm.symm]at KS;have E3:=hd_ (show szS (fun x:Wd=>szK x.known) (xs.take (j+1))=a+m by rw[aAQ hy, <-HA.out,hm]);have mo:=rQ (fun x:Wd=>szK x.known) xs (j+1);rw[E3.out]at mo;have MO:=hd_ mo;have k0:(0:Int)<=(j:Int):=o_;have kn:(j:Int)<(n:Int):=o_;clear hm mo hy lc hr hA
    by_cases hlm:left - n - a<m
    ·rw[bF hlm]at KS
     have fin:Hid (szV left (aBQ xs)= -1):=hd_ (bF (by rw[SZ.out];have:=MO.out;omega))
     exact zAf
    ·exact zo
   ·obtain rfl:j=n:=o_
    have fin:Hid (szV left (aBQ xs)=left - j - a):=by
     have e1:xs.take j=xs:=List.take_of_length_le (by rw[HN.out];exact Nat.le_refl _);have e2:=HA.out;rw[e1]at e2;show szV left (aBQ xs)=_
     rw[SZ.out, <-e2,dL o_];omega
    go_wp2;exact zBP
theorem aEd (w:World) (v:Value) (rs:List (List Int)) (h:pC w v rs) (left:Int) (h0:0<=left) (h1:left<=1048576):
  Calls prog 184 #[v,iv left] w fun e w'=>e=.returned (iv (szV left (rs.length+eX rs rs.length)))/\Below w.heap.size w w':=
 (zN w v rs left h h0 h1).mono fun _ _ ⟨a,b⟩=>⟨a,by rw[<-b];exact Below.refl _ _⟩
theorem aHR (w:World) (v:Value) (xs:List (List (List Int))) (left:Int) (h:aCk w [v] xs) (h0:0<=left) (h1:left<=1048576):
  Calls prog 115 #[v,iv left] w fun e w'=>e=.returned (iv (szV left (szP xs)))/\Below w.heap.size w w':=by
 obtain⟨x,c,ev,hl⟩:=bB h;cases ev;obtain⟨n,hn⟩:=nm_ xs.length;rw[<-hn]at h ⊢ hl;have SZ:Hid (szP xs=n+szS (fun rs:List (List Int)=>rs.length+eX rs rs.length) xs):=hd_ (by rw[hn];rfl);have HN:=hd_ hn;have H1:=hd_ h;unfold maxLen at hl;clear h hn
 by_cases hle:left<n
 ·have E:Hid (szV left (szP xs)= -1):=hd_ (bF (by rw[SZ.out];omega))
  have h2:left - (n:Int)<0:=o_;go_enter func115,ntmps115;exact zBo
 ·have h2:¬left - (n:Int)<0:=o_
  go_enter func115,ntmps115;go_wp2;go_loopw [1,5] (fun q i wr=>∃j a:Nat,j<=n/\i=.int .i64 (j:Int)/\q=.int .i64 (left - n - a)/\a=szS (fun rs:List (List Int)=>rs.length+eX rs rs.length) (xs.take j)/\(a:Int)<=left - n/\Below w.heap.size w wr) (fun _ i _=>n - (intOf i).toNat)
  case atStart=>exact⟨0,0,Nat.zero_le _,rfl,by simp,rfl,o_,Below.refl _ _⟩
  case round=>
   obtain⟨j,a,hj,rfl,rfl,ha,hal,hb⟩:=hrel;have HA:=hd_ ha;have HB:=hd_ hb;clear ha hb
   by_cases hlt:j<n
   ·obtain⟨y,hy⟩:∃y,xs[j]? =some y:=⟨_,List.getElem?_eq_getElem (by rw[<-HN.out];exact hlt)⟩
    obtain⟨b,o,ci,rfl,_,lc,hr,hA⟩:=mT (nR.keep H1.out HB.out lr_) hy;obtain⟨z,cz,ez,_⟩:=bB hA;subst ez;have d0:=hr 0 _ rfl;simp only[Nat.mul_one,Nat.add_zero]at d0;obtain⟨m,hm⟩:=nm_ ((fun rs:List (List Int)=>rs.length+eX rs rs.length) y);have KS:=hd_ (aEd wr _ y (aCx hA) (left - n - a) o_ o_);rw[show y.length+eX y y.length=m from hm.symm]at KS
    have E3:=hd_ (show szS (fun rs:List (List Int)=>rs.length+eX rs rs.length) (xs.take (j+1))=a+m by rw[aAQ hy, <-HA.out,hm]);have mo:=rQ (fun rs:List (List Int)=>rs.length+eX rs rs.length) xs (j+1);rw[E3.out]at mo;have MO:=hd_ mo;have k0:(0:Int)<=(j:Int):=o_;have kn:(j:Int)<(n:Int):=o_;clear hm mo hy lc hr hA
    by_cases hlm:left - n - a<m
    ·rw[bF hlm]at KS
     have fin:Hid (szV left (szP xs)= -1):=hd_ (bF (by rw[SZ.out];have:=MO.out;omega))
     exact zAf
    ·exact zo
   ·obtain rfl:j=n:=o_
    have fin:Hid (szV left (szP xs)=left - j - a):=by
     have e1:xs.take j=xs:=List.take_of_length_le (by rw[HN.out];exact Nat.le_refl _);have e2:=HA.out;rw[e1]at e2;show szV left (szP xs)=_
     rw[SZ.out, <-e2,dL o_];omega
    go_wp2;exact zBP
theorem aGS (w:World) (v:Value) (xs:List Bool) (left:Int) (h:aAI w [v] xs) (h0:0<=left) (h1:left<=1048576):
  Calls prog 113 #[v,iv left] w fun e w'=>e=.returned (iv (szV left xs.length))/\Below w.heap.size w w':=by
 obtain⟨x,c,ev,hl⟩:=bB h;cases ev;obtain⟨n,hn⟩:=nm_ xs.length;rw[<-hn]at h ⊢ hl;unfold maxLen at hl;clear h hn
 by_cases hle:left<n
 ·rw[bF hle]
  have h2:left - (n:Int)<0:=o_;go_enter func113,ntmps113;go_wp2;go_ret;exact⟨rfl,Below.refl _ _⟩
 ·rw[dL o_]
  have h2:¬left - (n:Int)<0:=o_;go_enter func113,ntmps113;go_wp2;go_ret;exact⟨rfl,Below.refl _ _⟩
theorem aJ3 (w:World) {x1 x2 x3 x4:Option Addr} {k1 k2 k3 k4 c1 c2 c3 c4:Nat} (n:Nt) (left:Int) (h:aFV w [.slice x1 k1 c1,.slice x2 k2 c2,.slice x3 k3 c3,.slice x4 k4 c4] n) (l0:0<=left) (l1:left<=1048576):
  Calls prog 48 #[.agg #[.slice x1 k1 c1,.slice x2 k2 c2,.slice x3 k3 c3,.slice x4 k4 c4],iv left] w fun e w'=>e=.returned (iv (szV left (aFE n)))/\Below w.heap.size w w':=by
 obtain⟨_,_,_,_,ev,h1,h2,h3,h4⟩:=zT.1 h;cases ev;obtain⟨n1,e1⟩:=nm_ (aBv n.nodes);obtain⟨n2,e2⟩:=nm_ n.links.length;obtain⟨n3,e3⟩:=nm_ (aBQ n.words);obtain⟨n4,e4⟩:=nm_ (szP n.past);have L:aFE n=n1+n2+n3+n4:=by rw[e1,e2,e3,e4];rfl
 rw[L];clear L h;have E1:=hd_ e1;have E2:=hd_ e2;have E3:=hd_ e3;have E4:=hd_ e4;clear e1 e2 e3 e4;have X:=(M.start w).alloc #[.slice x1 k1 c1,.slice x2 k2 c2,.slice x3 k3 c3,.slice x4 k4 c4] 80;obtain⟨W0,hW⟩:=nm_ (w.alloc (.cells #[.slice x1 k1 c1,.slice x2 k2 c2,.slice x3 k3 c3,.slice x4 k4 c4] 80));rw[<-hW]at X;have H:=hd_ X;have H1:=hd_ h1;have H2:=hd_ h2;have H3:=hd_ h3;have H4:=hd_ h4
 clear X h1 h2 h3 h4;go_enter func48,ntmps48
 go_wp2_with fail
 rw[<-hW];clear hW;have K:=aGb W0 _ n.nodes (left) ((eJ nH 5).keep H1.out H.out.below lr_) o_ o_;rw[<-E1.out]at K
 by_cases c1':(left:Int)<(n1:Int)
 ·rw[bF c1']at K
  refine K.mono ?_;rintro e w1 ⟨rfl,hb⟩;have F:=hd_ (H.out.later hb);clear hb H;exact zAl
 rw[dL o_]at K;have nz1:¬(left:Int) - (n1:Int)<0:=o_;refine K.mono ?_;rintro e w1 ⟨rfl,hb⟩;replace H:=hd_ (H.out.later hb);clear hb K c1';obtain⟨d0,d1,d2,d3⟩:=H.out.cells4;have K:=aGS w1 _ n.links (left - (n1:Int)) (oO.keep H2.out H.out.below lr_) o_ o_;rw[<-E2.out]at K
 by_cases c2':(left - (n1:Int):Int)<(n2:Int)
 ·rw[bF c2']at K
  go_wp2_with fail
  refine K.mono ?_;rintro e w2 ⟨rfl,hb⟩;exact zBM
 rw[dL o_]at K;have nz2:¬(left - (n1:Int):Int) - (n2:Int)<0:=o_
 go_wp2_with fail
 refine K.mono ?_;rintro e w2 ⟨rfl,hb⟩;replace H:=hd_ (H.out.later hb);clear hb K c2' d0 d1 d2 d3;obtain⟨d0,d1,d2,d3⟩:=H.out.cells4;have K:=aGQ w2 _ n.words (left - (n1:Int) - (n2:Int)) ((eJ nK 6).keep H3.out H.out.below lr_) o_ o_;rw[<-E3.out]at K
 by_cases c3':(left - (n1:Int) - (n2:Int):Int)<(n3:Int)
 ·rw[bF c3']at K
  go_wp2_with fail
  refine K.mono ?_;rintro e w3 ⟨rfl,hb⟩;exact zBM
 rw[dL o_]at K;have nz3:¬(left - (n1:Int) - (n2:Int):Int) - (n3:Int)<0:=o_
 go_wp2_with fail
 refine K.mono ?_;rintro e w3 ⟨rfl,hb⟩;replace H:=hd_ (H.out.later hb);clear hb K c3' d0 d1 d2 d3;obtain⟨d0,d1,d2,d3⟩:=H.out.cells4;have K:=aHR w3 _ n.past (left - (n1:Int) - (n2:Int) - (n3:Int)) (nR.keep H4.out H.out.below lr_) o_ o_;rw[<-E4.out]at K
 by_cases c4':(left - (n1:Int) - (n2:Int) - (n3:Int):Int)<(n4:Int)
 ·rw[bF c4']at K
  go_wp2_with fail
  refine K.mono ?_;rintro e w4 ⟨rfl,hb⟩;exact zBM
 rw[dL o_]at K;have nz4:¬(left - (n1:Int) - (n2:Int) - (n3:Int):Int) - (n4:Int)<0:=o_
 go_wp2_with fail
 refine K.mono ?_;rintro e w4 ⟨rfl,hb⟩;replace H:=hd_ (H.out.later hb);clear hb K c4' d0 d1 d2 d3;go_wp2;go_ret;exact⟨by exact congrArg (fun z=>Ending.returned (Value.int .i64 z)) (show left - (n1:Int) - (n2:Int) - (n3:Int) - (n4:Int)=if left<((n1+n2+n3+n4:Nat):Int)then -1 else left - ((n1+n2+n3+n4:Nat):Int) by rw[if_neg o_];omega),H.out.below⟩
end N
end Go.Proofs.YtcblbdpdbggkbaaGreat
namespace Go.Proofs.YtcblbdpdbggkbaaGreat
open _root_.Go.Proofs.Tryz
open Go.RowKit Go.Sort
section
variable {w w0 w':World} {B b:Nat} {l:List Ch} {t:TypeId}
theorem M.sum {V:SV} {s:Sm} (h:M B w0 w l) (hb:Below w.heap.size w w') (ho:aV w' w.heap.size w'.heap.size V s):M B w0 w' (aQ.ch (cS V s) s::l):=by
 obtain⟨fp,h1,h2,h3⟩:=ho.rep;exact h.got aQ hb ⟨h1,h2,fun b hb=>(h3 b hb).1⟩
end
namespace N
def TY:Ty:=⟨64,55,123,4,34⟩
def jG (v:Value) (es:List En):Ch:=jH aX 64 10 v es
def aMw (cs:List Value) (x:Nd):Ch:=(cP (T:=TY)).ch cs x
def aMx (cs:List Value) (x:Wd):Ch:=(gD (T:=TY)).ch cs x
def mJ (v:Value) (xs:List Nd):Ch:=jH (cP (T:=TY)) 55 5 v xs
def mN (v:Value) (xs:List Wd):Ch:=jH (gD (T:=TY)) 123 6 v xs
def lL (v:Value) (xs:List Bool):Ch:=jH (aO aMy) 4 1 v xs
def tJ (v:Value) (xs:List Int):Ch:=fG.ch [v] xs
def oG (v:Value) (xs:List (List Int)):Ch:=jH fG 23 1 v xs
def pQ (v:Value) (xs:List (List (List Int))):Ch:=jH cA 34 1 v xs
theorem aNl:SlT prog 53 64 (.agg #[iv 0,iv 0,iv 0,zn,zn,zn,iv 0,iv 0,zn,iv 0]) 10 144:=⟨underlying53,by kernel_rfl,rfl,by decide⟩
theorem aM6:SlT prog 25 55 (.agg #[iv 0,zn,iv 0,iv 0,iv 0]) 5 56:=⟨underlying25,by kernel_rfl,rfl,by decide⟩
theorem aM7:SlT prog 27 123 (.agg #[iv 0,iv 0,iv 0,iv 0,iv 0,zn]) 6 64:=⟨underlying27,by kernel_rfl,rfl,by decide⟩
theorem aMl:SlT prog 26 4 (.bool false) 1 1:=⟨underlying26,by kernel_rfl,rfl,by decide⟩
theorem aNu:SlT prog 23 3 (iv 0) 1 8:=⟨underlying23,by kernel_rfl,rfl,by decide⟩
theorem aIs:SlT prog 34 23 zn 1 24:=⟨underlying34,by kernel_rfl,rfl,by decide⟩
theorem aM2:SlT prog 28 34 zn 1 24:=⟨underlying28,by kernel_rfl,rfl,by decide⟩
section
variable {w w0 w':World} {B b:Nat} {l:List Ch}
theorem _root_.Go.Proofs.YtcblbdpdbggkbaaGreat.M.soft {α:Type} {enc:α->List Value} {e:TypeId} {size:Nat} {v:Value} {xs:List α} (h:M B w0 w (jH (aO enc) e size v xs::l)):M B w0 w ((tF (e:=e) (size:=size) (enc:=enc)).ch [v] xs::l):=
 h.to fun f hf nd=>⟨f,.inl hf,nd,fun _ hb=>hb⟩
theorem _root_.Go.Proofs.YtcblbdpdbggkbaaGreat.M.entry {V:SV} {s:Sm} (i born num:Int) (h:M B w0 w (aQ.ch (cS V s) s::l)):M B w0 w (aX.ch [iv i,iv born,iv num,.slice V.xr V.nr V.cr,.slice V.xf V.nf V.cf,.slice V.xt V.nt V.ct,iv s.lo,iv s.al,.slice V.xk V.nk V.ck,iv s.ka] ⟨i,born,num,s⟩::l):=
 h.to fun f hf nd=>⟨f,kZ.2 ⟨_,rfl,hf⟩,nd,fun _ h=>h⟩
theorem _root_.Go.Proofs.YtcblbdpdbggkbaaGreat.M.node {v:Value} {es:List En} (born beacon level up:Int) (h:M B w0 w (jG v es::l)):M B w0 w (aMw [iv born,v,iv beacon,iv level,iv up] ⟨born,es,beacon,level,up⟩::l):=
 h.to fun f hf nd=>⟨f,nA.2 ⟨_,rfl,hf⟩,nd,fun _ h=>h⟩
theorem _root_.Go.Proofs.YtcblbdpdbggkbaaGreat.M.word {v:Value} {es:List En} (kind src dst beacon level:Int) (h:M B w0 w (jG v es::l)):M B w0 w (aMx [iv kind,iv src,iv dst,iv beacon,iv level,v] ⟨kind,src,dst,beacon,level,es⟩::l):=
 h.to fun f hf nd=>⟨f,mZ.2 ⟨_,rfl,hf⟩,nd,fun _ h=>h⟩
theorem _root_.Go.Proofs.YtcblbdpdbggkbaaGreat.M.net {v1 v2 v3 v4:Value} {ns:List Nd} {ls:List Bool} {ws:List Wd} {ps:List (List (List Int))} (h:M B w0 w (mJ v1 ns::lL v2 ls::mN v3 ws::pQ v4 ps::l)):∃fp,vR (aIo TY) B w [v1,v2,v3,v4] ⟨ns,ls,ws,ps⟩ fp:=by
 obtain⟨_,⟨f1,_,rfl,h1,⟨f2,_,rfl,h2,⟨f3,_,rfl,h3,⟨f4,f5,rfl,h4,_⟩⟩⟩⟩,nd,lo⟩:=h.own;have e:f1++(f2++(f3++(f4++f5)))=(f1++(f2++(f3++f4)))++f5:=by simp
 rw[e]at nd lo;exact⟨_,pO.2 ⟨_,_,_,_,_,_,_,_,rfl,rfl,h1,h2,h3,h4⟩,(List.nodup_append.1 nd).1,fun b hb=>lo b (List.mem_append_left _ hb)⟩
end
end N
section
variable {α:Type} {A:Rep α} {e:TypeId} {size:Nat} {w w' w0:World} {B i:Nat} {l:List Ch} {xs:List α} {x:α} {v:Value} {ci:List Value}
def kA (FA:A.Frame) (e:TypeId) (size i:Nat) (v:Value) (xs:List α) (ci:List Value):Ch:=⟨fun w fp=>∃c f,w.ownsRow 0 e size v xs.length ((List.range xs.length).map c).flatten/\(∀j,j<xs.length->(c j).length=size)/\c i=ci/\f i=[]/\(∀j a,j≠i->xs[j]? =some a->A w (c j) a (f j))/\fp=fps v xs.length f,
  fun⟨c,f,ho,_,_,hf,ha,e1⟩ b hb=>(by
    rw[e1]at hb
    rcases tA hb with q|⟨j,hj,q⟩
    · exact (ho.lt b q).2
    · by_cases ji:j=i
      · rw[ji,hf]at q;cases q
      · exact FA.lt (ha j _ ji (List.getElem?_eq_getElem hj)) b q),
  fun⟨c,f,ho,hl,hc,hf,ha,e1⟩ hk hs=>⟨c,f,uY ho (fun g hg=>hk g (by rw[e1];exact oN hg)),hl,hc,hf,fun j a ji hj=>FA.keep (ha j a ji hj) (fun b hb=>hk b (by rw[e1];exact qY (List.getElem?_eq_some_iff.1 hj).1 hb)) hs,e1⟩⟩
theorem M.open (FA:A.Frame) (h:M B w0 w (jH FA e size v xs::l)) (hi:xs[i]? =some x):∃g cap ci,v=.slice (some ⟨g,0,none⟩) xs.length cap/\ci.length=size/\M B w0 w (FA.ch ci x::kA FA e size i v xs ci::l):=by
 have hlt:i<xs.length:=(List.getElem?_eq_some_iff.1 hi).1;obtain⟨f,hf,_⟩:=h.first;obtain⟨v',c,f,ev,E,_⟩:=mB hf;cases ev;obtain⟨g,cap,ev⟩:∃g cap,v=.slice (some ⟨g,0,none⟩) xs.length cap:=by
  rcases E.own.2 with ⟨_,h0⟩|⟨g,cap,cur,e1,_⟩
  ·omega
  ·exact⟨g,cap,e1⟩
 have key:∀F,(jH FA e size v xs).at_ w F->F.Nodup->∃F',((FA.ch (c i) x).sep (kA FA e size i v xs (c i))).at_ w F'/\F'.Nodup/\∀b ∈ F',b ∈ F:=fun F hF nd=>by
  obtain⟨v2,c2,f2,ev2,E2,rfl⟩:=mB hF;cases ev2;have ec:c2 i=c i:=by
   apply List.ext_getElem?;intro k
   by_cases hk:k<size
   ·have z1:(c i)[k]? =some ((c i)[k]'(by rw[E.len i hlt];exact hk)):=List.getElem?_eq_getElem _
    have z2:(c2 i)[k]? =some ((c2 i)[k]'(by rw[E2.len i hlt];exact hk)):=List.getElem?_eq_getElem _;obtain⟨g1,_,q1,_,_,_,_,r1⟩:=E.cell hlt z1;obtain⟨g2,_,q2,_,_,_,_,r2⟩:=E2.cell hlt z2;rw[q1]at q2;cases q2;rw[r1]at r2;rw[z1,z2,r2]
   ·rw[List.getElem?_eq_none (by rw[E2.len i hlt];omega),List.getElem?_eq_none (by rw[E.len i hlt];omega)]
  obtain⟨⟨n1,n2⟩,n3⟩:=iD.1 nd;have nh:(fps v xs.length (upd f2 i [])).Nodup:=sC nd hlt List.nodup_nil (fun b hb=>by cases hb);have sub:∀b ∈ fps v xs.length (upd f2 i []),b ∈ fps v xs.length f2/\b ∉ f2 i:=fun b hb=>by
   rcases tA hb with q|⟨j,hj,q⟩
   ·exact⟨oN q,n3 b q i hlt⟩
   ·by_cases ji:j=i
    ·rw[ji,cM]at q;cases q
    ·rw[bC _ _ ji]at q
     exact⟨qY hj q,fun q2=>n2 j i hj hlt ji b q q2⟩
  refine⟨f2 i++fps v xs.length (upd f2 i []),⟨_,_,rfl,by rw[<-ec];exact E2.one i x hi,c2,upd f2 i [],aM E2.own (Nat.zero_le _),E2.len,ec,cM _ _ _,fun j a ji hj=>by rw[bC _ _ ji];exact E2.one j a hj,rfl⟩,List.nodup_append.2 ⟨n1 i hlt,nh,fun a h1 b h2 e1=>(sub b h2).2 (by rw[<-e1];exact h1)⟩,fun b hb=>?_⟩;rcases List.mem_append.1 hb with q|q
  ·exact qY hlt q
  ·exact (sub b q).1
 exact⟨g,cap,c i,ev,E.len i hlt,(h.to key).two⟩
theorem M.close {FA:A.Frame} (h:M B w0 w (FA.ch ci x::kA FA e size i v xs ci::l)) (hi:i<xs.length):M B w0 w (jH FA e size v (xs.set i x)::l):=
 h.sep.to fun F hF nd=>by
  obtain⟨f1,_,rfl,hx,c,f,ho,hl,hc,hf,ha,rfl⟩:=hF;obtain⟨n1,n2,n3⟩:=List.nodup_append.1 nd;have ln:(xs.set i x).length=xs.length:=List.length_set;refine⟨fps v (xs.set i x).length (upd f i f1),Els.rep (B:=0) ⟨by rw[ln];exact ho,fun j hj=>hl j (by rw[<-ln];exact hj),fun j a hj=>?_⟩,?_,fun b hb=>?_⟩
  ·by_cases ji:j=i
   ·subst ji
    rw[cM];rw[List.getElem?_set_self hi]at hj;cases hj;rw[hc];exact hx
   ·rw[bC _ _ ji]
    rw[List.getElem?_set_ne (fun q=>ji q.symm)]at hj;exact ha j a ji hj
  ·rw[ln]
   refine sC n2 hi n1 fun b hb=>.inr fun q=>n3 b hb b q rfl
  ·rw[ln]at hb
   rcases mK hb with q|q
   ·exact List.mem_append_right _ q
   ·exact List.mem_append_left _ q
section
variable {g n cap j:Nat} {FA:A.Frame} {u:Value}
theorem M.hcell (h:M B w0 w (kA FA e size i (.slice (some ⟨g,0,none⟩) n cap) xs ci::l)) (hi:i<xs.length) (hj:ci[j]? =some u):w.cell? ⟨g,i * size+j,none⟩=some u:=by
 obtain⟨F,⟨c,f,ho,hl,hc,hf,ha,rfl⟩,_⟩:=h.first;have hk:j<size:=by have:=(List.getElem?_eq_some_iff.1 hj).1;rw[<-hc,hl i hi]at this;exact this
 have lt:i * size+j<xs.length * size:=by
  exact zB4
 have ho':w.ownsRow 0 e size (.slice (some ⟨g,0,none⟩) xs.length cap) xs.length ((List.range xs.length).map c).flatten:=by
  rcases ho.2 with ⟨q,_⟩|⟨_,_,_,q,_⟩
  ·cases q
  ·cases q;exact ho
 have:=World.ownsRow.cellAt ho' _ lt;rw[this,qT hl hi hk,hc,hj]
theorem M.hfree (h:M B w0 w (kA FA e size i (.slice (some ⟨g,0,none⟩) n cap) xs ci::l)) (k:Nat):w.frozen? ⟨g,k,none⟩=false:=by
 obtain⟨F,⟨c,f,ho,_⟩,_⟩:=h.first;rcases ho.2 with ⟨q,_⟩|⟨g',cap',cur,q,_,hg,_⟩
 ·cases q
 ·cases q;simp[World.frozen?,hg]
theorem M.hset (h:M B w0 w (kA FA e size i (.slice (some ⟨g,0,none⟩) n cap) xs ci::l)) (hi:i<xs.length) (hj:j<size) (u:Value):M B w0 (w.setCell ⟨g,i * size+j,none⟩ u) (kA FA e size i (.slice (some ⟨g,0,none⟩) n cap) xs (ci.set j u)::l):=
 h.turn fun F hF nd lo=>by
  obtain⟨c,f,ho,hl,hc,hf,ha,rfl⟩:=hF;obtain⟨⟨n1,n2⟩,n3⟩:=iD.1 nd;have ho':w.ownsRow 0 e size (.slice (some ⟨g,0,none⟩) xs.length cap) xs.length ((List.range xs.length).map c).flatten:=by
   rcases ho.2 with ⟨q,_⟩|⟨_,_,_,q,_⟩
   ·cases q
   ·cases q;exact ho
  have en:n=xs.length:=by
   rcases ho.2 with ⟨q,_⟩|⟨_,_,_,q,_⟩
   ·cases q
   ·cases q;rfl
  obtain⟨s1,s2⟩:=World.ownsRow.stored ho' (i * size+j) u;refine⟨dZ.of_grown s2 (oN rfl),fps (.slice (some ⟨g,0,none⟩) n cap) xs.length f,⟨upd c i (ci.set j u),f,?_,fun k hk=>?_,cM _ _ _,hf,fun k a ki hk=>?_,rfl⟩,nd,fun b hb=>.inl hb⟩
  ·rw[<-hc, <-aFw hl hi hj,en];exact s1
  ·by_cases q:k=i
   ·rw[q,cM,List.length_set, <-hc];exact hl i hi
   ·rw[bC _ _ q];exact hl k hk
  ·rw[bC _ _ ki]
   have kl:=(List.getElem?_eq_some_iff.1 hk).1;exact FA.keep (ha k a ki hk) (fun b hb=>s2.block b (FA.lt (ha k a ki hk) b hb) fun q=>n3 b q.symm k kl hb) s2.size
theorem M.hcell1 {u:Value} (h:M B w0 w (kA FA e 1 i (.slice (some ⟨g,0,none⟩) n cap) xs [u]::l)) (hi:i<xs.length):w.cell? ⟨g,i,none⟩=some u:=by
 have:=h.hcell (j:=0) (u:=u) hi rfl;rwa[Nat.mul_one,Nat.add_zero]at this
theorem M.hset1 {u:Value} (h:M B w0 w (kA FA e 1 i (.slice (some ⟨g,0,none⟩) n cap) xs [u]::l)) (hi:i<xs.length) (y:Value):M B w0 (w.setCell ⟨g,i,none⟩ y) (kA FA e 1 i (.slice (some ⟨g,0,none⟩) n cap) xs [y]::l):=by
 have:=h.hset hi (j:=0) o_ y;rwa[Nat.mul_one,Nat.add_zero]at this
end
end
end Go.Proofs.YtcblbdpdbggkbaaGreat
namespace Go.Proofs.YtcblbdpdbggkbaaGreat
open _root_.Go.Proofs.Tryz
open Go.RowKit Go.Sort
namespace N
theorem jM {a b:Sm} (h:a≠b):mE a b=false:=by
 rw[Bool.eq_false_iff];exact fun e=>h (pF.1 e)
theorem aAM {w:World} {v:Value} {l:List Int} (h:cW w v l):l.length<=maxLen:=by
 rcases h with ⟨_,rfl⟩|⟨_,_,c,_,h1,h2,_⟩
 ·exact Nat.zero_le _
 ·omega
theorem aDH {w:World} {x:Option Addr} {n c:Nat} {rs:List (List Int)} (h:Rws w (.slice x n c) rs) {k:Nat} (hk:k<rs.length):∃b o v,x=some ⟨b,o,Option.none⟩/\w.cell? ⟨b,o+k,Option.none⟩=some v/\cW w v (rs.getD k []):=by
 obtain⟨_,q⟩:=h.cases;rcases q with q|⟨b,o,c',e,hc⟩
 ·omega
 ·obtain⟨v,h1,h2⟩:=hc k hk
  exact⟨b,o,v,(Value.slice.inj e).1,h1,h2⟩
theorem tG {a b:List (Int × Int)} (h:a.length=b.length) (h2:∀i,i<a.length->a.getD i (0,0)=b.getD i (0,0)):a=b:=of_decide_eq_true (fO (d:=((0,0):Int × Int)) rfl h.symm h2)
theorem aHF {w:World} {v:Value} {rs:List (List Int)} (h:Rws w v rs):rs.length<=maxLen:=by
 rcases h with ⟨_,rfl⟩|⟨_,_,c,_,h1,h2,_⟩
 ·exact Nat.zero_le _
 ·omega
theorem aB1 (w:World) {V1 V2:SV} {s1 s2:Sm} (h1:RdS w V1 s1) (h2:RdS w V2 s2):
  Calls prog 266 #[.agg #[.slice V1.xr V1.nr V1.cr,.slice V1.xf V1.nf V1.cf,.slice V1.xt V1.nt V1.ct,iv s1.lo,iv s1.al,.slice V1.xk V1.nk V1.ck,iv s1.ka],.agg #[.slice V2.xr V2.nr V2.cr,.slice V2.xf V2.nf V2.cf,.slice V2.xt V2.nt V2.ct,iv s2.lo,iv s2.al,.slice V2.xk V2.nk V2.ck,iv s2.ka]] w fun e w'=>e=.returned (.bool (mE s1 s2))/\Below w.heap.size w w':=by
 obtain⟨a1,a2,a3,a4⟩:=h1.lens;obtain⟨b1,b2,b3,b4⟩:=h2.lens;obtain⟨xr,nr,cr,xf,nf,cf,xt,nt,ct,xk,nk,ck⟩:=V1;obtain⟨yr,mr,dr,yf,mf,df,yt,mt,dt,yk,mk,dk⟩:=V2;simp only at a1 a2 a3 a4 b1 b2 b3 b4;subst a1 a2 a3 a4 b1 b2 b3 b4;have M1:=aHF h1.r;have M2:=aAM h1.f;have M3:s1.ps.length<=maxLen:=by obtain⟨x,c,e,l1,l2⟩:=h1.t.form;omega
 have M4:s1.ks.length<=maxLen:=by obtain⟨x,c,e,l1,l2⟩:=h1.k.form;omega
 unfold maxLen at M1 M2 M3 M4;have H0:=((M.start w).alloc #[.slice xr s1.rs.length cr,.slice xf s1.zs.length cf,.slice xt s1.ps.length ct,iv s1.lo,iv s1.al,.slice xk s1.ks.length ck,iv s1.ka] 46).alloc #[.slice yr s2.rs.length dr,.slice yf s2.zs.length df,.slice yt s2.ps.length dt,iv s2.lo,iv s2.al,.slice yk s2.ks.length dk,iv s2.ka] 46;simp only[World.size_alloc]at H0
 go_enter func266,ntmps266;go_upto_region 1 with fail
 obtain⟨p1,hp1⟩:=nm_ w.heap.size;obtain⟨p2,hp2⟩:=nm_ (w.heap.size+1);have HP:=hd_ hp1;rw[<-hp2, <-hp1]at H0;rw[<-hp2, <-hp1];clear hp1 hp2
 generalize ((w.alloc (.cells #[.slice xr s1.rs.length cr,.slice xf s1.zs.length cf,.slice xt s1.ps.length ct,iv s1.lo,iv s1.al,.slice xk s1.ks.length ck,iv s1.ka] 46)).alloc (.cells #[.slice yr s2.rs.length dr,.slice yf s2.zs.length df,.slice yt s2.ps.length dt,iv s2.lo,iv s2.al,.slice yk s2.ks.length dk,iv s2.ka] 46))=w1 at H0 ⊢;have H:=hd_ H0;have R1:=hd_ h1;have R2:=hd_ h2;clear h1 h2 H0
 simp only[List.append_eq,List.cons_append,List.nil_append];obtain⟨c0,c1,c2,c3,c4,c5,c6⟩:=H.out.p1.cells7;obtain⟨d0,d1,d2,d3,d4,d5,d6⟩:=H.out.cells7
 by_cases q1:s1.rs.length=s2.rs.length
 case neg=>
  have g:((s1.rs.length:Int) != (s2.rs.length:Int))=true:=by simp;omega
  have F:=hd_ (jM (a:=s1) (b:=s2) fun e=>q1 (by rw[e]));clear q1;exact zAc
 have g1:((s1.rs.length:Int) != (s2.rs.length:Int))=false:=by simp;omega
 have KZ:=hd_ (aCq _ _ _ _ _ (R1.out.f.below H.out.below (Nat.le_of_eq HP.out.symm)) (R2.out.f.below H.out.below (Nat.le_of_eq HP.out.symm)) (by unfold maxLen;exact M2));unfold SV.f at KZ;simp only at KZ;have Q1:=hd_ q1;clear q1
 go_wp2_with fail
 refine KZ.out.mono ?_;rintro e w2 ⟨rfl,m,rfl⟩;clear KZ c0 c1 c2 c3 c4 c5 c6 d0 d1 d2 d3 d4 d5 d6;have H1:=hd_ (H.out.later (below_drewN (Below.refl _ _) m));clear H;generalize World.drewN _ m=w2 at H1 ⊢;obtain⟨c0,c1,c2,c3,c4,c5,c6⟩:=H1.out.p1.cells7;obtain⟨d0,d1,d2,d3,d4,d5,d6⟩:=H1.out.cells7
 by_cases q2:s1.zs=s2.zs
 case neg=>
  have g:decide (s1.zs=s2.zs)=false:=decide_eq_false q2;have F:=hd_ (jM (a:=s1) (b:=s2) fun e=>q2 (by rw[e]));clear q2;exact zAx
 have g2:decide (s1.zs=s2.zs)=true:=decide_eq_true q2;have Q2:=hd_ q2;clear q2
 by_cases q3:s1.lo=s2.lo
 case neg=>
  have g:(s1.lo != s2.lo)=true:=by simpa using q3
  have F:=hd_ (jM (a:=s1) (b:=s2) fun e=>q3 (by rw[e]));clear q3;exact zAx
 have g3:(s1.lo != s2.lo)=false:=by simpa using q3
 have Q3:=hd_ q3;clear q3
 by_cases q4:s1.al=s2.al
 case neg=>
  have g:(s1.al != s2.al)=true:=by simpa using q4
  have F:=hd_ (jM (a:=s1) (b:=s2) fun e=>q4 (by rw[e]));clear q4;exact zAx
 have g4:(s1.al != s2.al)=false:=by simpa using q4
 have Q4:=hd_ q4;clear q4
 by_cases q5:s1.ka=s2.ka
 case neg=>
  have g:(s1.ka != s2.ka)=true:=by simpa using q5
  have F:=hd_ (jM (a:=s1) (b:=s2) fun e=>q5 (by rw[e]));clear q5;exact zAx
 have g5:(s1.ka != s2.ka)=false:=by simpa using q5
 have Q5:=hd_ q5;clear q5
 by_cases q6:s1.ps.length=s2.ps.length
 case neg=>
  have g:((s1.ps.length:Int) != (s2.ps.length:Int))=true:=by simp;omega
  have F:=hd_ (jM (a:=s1) (b:=s2) fun e=>q6 (by rw[e]));clear q6;exact zAx
 have g6:((s1.ps.length:Int) != (s2.ps.length:Int))=false:=by simp;omega
 have Q6:=hd_ q6;clear q6
 by_cases q7:s1.ks.length=s2.ks.length
 case neg=>
  have g:((s1.ks.length:Int) != (s2.ks.length:Int))=true:=by simp;omega
  have F:=hd_ (jM (a:=s1) (b:=s2) fun e=>q7 (by rw[e]));clear q7;exact zAx
 have g7:((s1.ks.length:Int) != (s2.ks.length:Int))=false:=by simp;omega
 have Q7:=hd_ q7;clear q7;go_wp2;clear c0 c1 c2 c3 c4 c5 c6 d0 d1 d2 d3 d4 d5 d6 g1 g2 g3 g4 g5 g6 g7
 go_loopw [5] (fun i wr=>∃k:Nat,k<=s1.rs.length/\i=.int .i64 k/\(∀j,j<k->s1.rs.getD j []=s2.rs.getD j [])/\M p1 w wr [bO p2 46 #[.slice yr s2.rs.length dr,.slice yf s2.zs.length df,.slice yt s2.ps.length dt,iv s2.lo,iv s2.al,.slice yk s2.ks.length dk,iv s2.ka],bO p1 46 #[.slice xr s1.rs.length cr,.slice xf s1.zs.length cf,.slice xt s1.ps.length ct,iv s1.lo,iv s1.al,.slice xk s1.ks.length ck,iv s1.ka]]) (fun i _=>s1.rs.length - (intOf i).toNat)
 case atStart=>exact⟨0,Nat.zero_le _,rfl,fun _ h=>absurd h (Nat.not_lt_zero _),H1.out⟩
 case round=>
  clear H1;obtain⟨k,hk,rfl,heq,h⟩:=hrel;have HE:=hd_ heq;have H:=hd_ h;clear heq h
  by_cases hlt:k<s1.rs.length
  ·obtain⟨b1,o1,v1,rfl,rc1,ri1⟩:=aDH (R1.out.r.below H.out.below (Nat.le_of_eq HP.out.symm)) hlt
   obtain⟨b2,o2,v2,rfl,rc2,ri2⟩:=aDH (R2.out.r.below H.out.below (Nat.le_of_eq HP.out.symm)) (k:=k) (by rw[<-Q1.out];exact hlt);have k0:(0:Int)<=(k:Int):=o_;have k1:(k:Int)<(s1.rs.length:Int):=o_;have k2:(k:Int)<(s2.rs.length:Int):=by have:=Q1.out;omega
   obtain⟨c0,c1,c2,c3,c4,c5,c6⟩:=H.out.p1.cells7;obtain⟨d0,d1,d2,d3,d4,d5,d6⟩:=H.out.cells7;obtain⟨l1,hl1⟩:=nm_ (s1.rs.getD k []);obtain⟨l2,hl2⟩:=nm_ (s2.rs.getD k []);rw[<-hl1]at ri1;rw[<-hl2]at ri2;have HL1:=hd_ hl1;have HL2:=hd_ hl2;clear hl1 hl2;have KZ:=hd_ (aCq wr.drew v1 v2 l1 l2 ri1 ri2 (aAM ri1));clear c1 c2 c3 c4 c5 c6 d1 d2 d3 d4 d5 d6 ri1 ri2;go_upto_region 6 with fail
   refine aC 99 (.tk 0 12 (.alt 12 (.take 13 .done) .nomore)) (fun w'=>w'.cell? ⟨p1,0,Option.none⟩=some (.slice (some ⟨b1,o1,Option.none⟩) s1.rs.length cr)/\w'.cell? ⟨p2,0,Option.none⟩=some (.slice (some ⟨b2,o2,Option.none⟩) s2.rs.length dr)/\w'.cell? ⟨b1,o1+k,Option.none⟩=some v1/\w'.cell? ⟨b2,o2+k,Option.none⟩=some v2) kr_ kr_ (fun _ _ _ _ _ h=>h) ⟨c0,d0,rc1,rc2⟩ ?_
   repeat (first|refine tA_ ?_|refine tB_ ?_)
   have S0:Hid (_/\_/\_/\_):=hd_ ⟨c0,d0,rc1,rc2⟩;clear c0 d0 rc1 rc2;refine aB r_ (fun K' hK=>?_);go_simp;refine KZ.out.mono ?_;rintro e w3 ⟨rfl,m,rfl⟩;clear KZ;have H3:=hd_ (H.out.drew.later (below_drewN (Below.refl _ _) m));clear H;refine hK _ _ (.inr S0.out) ?_;clear hK K'
   try refine tP_ ?_
   clear S0;generalize World.drewN _ m=w3 at H3 ⊢
   by_cases eq:l1=l2
   case neg=>
    have g:decide (l1=l2)=false:=decide_eq_false eq;have F:=hd_ (jM (a:=s1) (b:=s2) fun e=>eq (by rw[HL1.out,HL2.out,e]));clear eq
    repeat (first|refine tA_ ?_|refine tB_ ?_)
    refine aG ?_;go_wp2;go_ret;exact⟨by rw[F.out];rfl,by have:=H3.out.below;rwa[HP.out]at this⟩
   have g:decide (l1=l2)=true:=decide_eq_true eq;have HE2:Hid (∀j,j<k+1->s1.rs.getD j []=s2.rs.getD j []):=hd_ fun j hj=>by
    by_cases h:j<k
    ·exact HE.out j h
    ·obtain rfl:j=k:=o_
     rw[<-HL1.out, <-HL2.out,eq]
   clear eq
   repeat (first|refine tA_ ?_|refine tB_ ?_)
   refine aG ?_;go_wp2;go_roundw
   case rel=>exact⟨k+1,o_,gn_,HE2.out,H3.out⟩
   case measure=>simp[intOf];omega
  ·have ER:Hid (s1.rs=s2.rs):=hd_ (of_decide_eq_true (fO (d:=[]) rfl Q1.out.symm (fun i hi=>HE.out i o_)))
   have g:decide (k<s1.rs.length)=false:=by simpa using hlt
   obtain⟨c0,c1,c2,c3,c4,c5,c6⟩:=H.out.p1.cells7;obtain⟨d0,d1,d2,d3,d4,d5,d6⟩:=H.out.cells7;clear HE;go_wp2;clear c0 c1 c2 c3 c4 c5 c6 d0 d1 d2 d3 d4 d5 d6 g hlt
   go_loopw [6] (fun i wr=>∃k:Nat,k<=s1.ps.length/\i=.int .i64 k/\(∀j,j<k->T.pr s1.ps j=T.pr s2.ps j)/\M p1 w wr [bO p2 46 #[.slice yr s2.rs.length dr,.slice yf s2.zs.length df,.slice yt s2.ps.length dt,iv s2.lo,iv s2.al,.slice yk s2.ks.length dk,iv s2.ka],bO p1 46 #[.slice xr s1.rs.length cr,.slice xf s1.zs.length cf,.slice xt s1.ps.length ct,iv s1.lo,iv s1.al,.slice xk s1.ks.length ck,iv s1.ka]]) (fun i _=>s1.ps.length - (intOf i).toNat)
   case atStart=>exact⟨0,Nat.zero_le _,rfl,fun _ h=>absurd h (Nat.not_lt_zero _),H.out⟩
   case round=>
    clear H;obtain⟨k,hk,rfl,heq,h⟩:=hrel;have HE:=hd_ heq;have H:=hd_ h;clear heq h
    by_cases hlt:k<s1.ps.length
    ·obtain⟨b1,o1,rfl,_,ra1,rb1⟩:=(R1.out.t.below H.out.below (Nat.le_of_eq HP.out.symm)).cells k hlt
     obtain⟨b2,o2,rfl,_,ra2,rb2⟩:=(R2.out.t.below H.out.below (Nat.le_of_eq HP.out.symm)).cells k (by rw[<-Q6.out];exact hlt);obtain⟨x1,hx1⟩:=nm_ ((T.pr s1.ps k).1);obtain⟨y1,hy1⟩:=nm_ ((T.pr s1.ps k).2);obtain⟨x2,hx2⟩:=nm_ ((T.pr s2.ps k).1);obtain⟨y2,hy2⟩:=nm_ ((T.pr s2.ps k).2);rw[<-hx1]at ra1;rw[<-hy1]at rb1;rw[<-hx2]at ra2;rw[<-hy2]at rb2
     have EQ:Hid (T.pr s1.ps k=T.pr s2.ps k↔x1=x2/\y1=y2):=hd_ (by rw[hx1,hx2,hy1,hy2];exact Prod.ext_iff);clear hx1 hx2 hy1 hy2;have k0:(0:Int)<=(k:Int):=o_;have k1:(k:Int)<(s1.ps.length:Int):=o_;have k2:(k:Int)<(s2.ps.length:Int):=by have:=Q6.out;omega
     obtain⟨c0,c1,c2,c3,c4,c5,c6⟩:=H.out.p1.cells7;obtain⟨d0,d1,d2,d3,d4,d5,d6⟩:=H.out.cells7;have H2:=hd_ H.out.drew;go_upto_region 11 with fail
     refine aC 99 (.tk 0 13 .done) (fun w'=>w'.cell? ⟨p1,2,Option.none⟩=some (.slice (some ⟨b1,o1,Option.none⟩) s1.ps.length ct)/\w'.cell? ⟨p2,2,Option.none⟩=some (.slice (some ⟨b2,o2,Option.none⟩) s2.ps.length dt)/\w'.cell? ⟨b1,o1+k * 2,Option.none⟩=some (.int .i64 x1)/\w'.cell? ⟨b1,o1+k * 2+1,Option.none⟩=some (.int .i64 y1)/\w'.cell? ⟨b2,o2+k * 2,Option.none⟩=some (.int .i64 x2)/\w'.cell? ⟨b2,o2+k * 2+1,Option.none⟩=some (.int .i64 y2)) kr_ kr_ (fun _ _ _ _ _ h=>h) ⟨c2,d2,ra1,rb1,ra2,rb2⟩ ?_
     clear c0 c1 c2 c3 c4 c5 c6 d0 d1 d2 d3 d4 d5 d6 ra1 rb1 ra2 rb2 H;generalize wr.drew=w3 at H2 ⊢
     by_cases eq:x1=x2/\y1=y2
     case neg=>
      exact zAd
     have HE2:Hid (∀j,j<k+1->T.pr s1.ps j=T.pr s2.ps j):=hd_ fun j hj=>by
      exact zBb
     obtain⟨rfl,rfl⟩:=eq;exact zBn
    ·have Eps:Hid (s1.ps=s2.ps):=hd_ (tG Q6.out (fun i hi=>HE.out i o_))
     have g:decide (k<s1.ps.length)=false:=by simpa using hlt
     obtain⟨c0,c1,c2,c3,c4,c5,c6⟩:=H.out.p1.cells7;obtain⟨d0,d1,d2,d3,d4,d5,d6⟩:=H.out.cells7;clear HE;go_wp2;clear c0 c1 c2 c3 c4 c5 c6 d0 d1 d2 d3 d4 d5 d6 g
     go_loopw [7] (fun i wr=>∃k:Nat,k<=s1.ks.length/\i=.int .i64 k/\(∀j,j<k->K.pr s1.ks j=K.pr s2.ks j)/\M p1 w wr [bO p2 46 #[.slice yr s2.rs.length dr,.slice yf s2.zs.length df,.slice yt s2.ps.length dt,iv s2.lo,iv s2.al,.slice yk s2.ks.length dk,iv s2.ka],bO p1 46 #[.slice xr s1.rs.length cr,.slice xf s1.zs.length cf,.slice xt s1.ps.length ct,iv s1.lo,iv s1.al,.slice xk s1.ks.length ck,iv s1.ka]]) (fun i _=>s1.ks.length - (intOf i).toNat)
     case atStart=>exact⟨0,Nat.zero_le _,rfl,fun _ h=>absurd h (Nat.not_lt_zero _),H.out⟩
     case round=>
      clear H;obtain⟨k,hk,rfl,heq,h⟩:=hrel;have HE:=hd_ heq;have H:=hd_ h;clear heq h
      by_cases hlt:k<s1.ks.length
      ·obtain⟨b1,o1,rfl,_,ra1,rb1⟩:=(R1.out.k.below H.out.below (Nat.le_of_eq HP.out.symm)).cells k hlt
       obtain⟨b2,o2,rfl,_,ra2,rb2⟩:=(R2.out.k.below H.out.below (Nat.le_of_eq HP.out.symm)).cells k (by rw[<-Q7.out];exact hlt);obtain⟨x1,hx1⟩:=nm_ ((K.pr s1.ks k).1);obtain⟨y1,hy1⟩:=nm_ ((K.pr s1.ks k).2);obtain⟨x2,hx2⟩:=nm_ ((K.pr s2.ks k).1);obtain⟨y2,hy2⟩:=nm_ ((K.pr s2.ks k).2);rw[<-hx1]at ra1;rw[<-hy1]at rb1;rw[<-hx2]at ra2;rw[<-hy2]at rb2
       have EQ:Hid (K.pr s1.ks k=K.pr s2.ks k↔x1=x2/\y1=y2):=hd_ (by rw[hx1,hx2,hy1,hy2];exact Prod.ext_iff);clear hx1 hx2 hy1 hy2;have k0:(0:Int)<=(k:Int):=o_;have k1:(k:Int)<(s1.ks.length:Int):=o_;have k2:(k:Int)<(s2.ks.length:Int):=by have:=Q7.out;omega
       obtain⟨c0,c1,c2,c3,c4,c5,c6⟩:=H.out.p1.cells7;obtain⟨d0,d1,d2,d3,d4,d5,d6⟩:=H.out.cells7;have H2:=hd_ H.out.drew;go_upto_region 16 with fail
       refine aC 99 (.tk 0 13 .done) (fun w'=>w'.cell? ⟨p1,5,Option.none⟩=some (.slice (some ⟨b1,o1,Option.none⟩) s1.ks.length ck)/\w'.cell? ⟨p2,5,Option.none⟩=some (.slice (some ⟨b2,o2,Option.none⟩) s2.ks.length dk)/\w'.cell? ⟨b1,o1+k * 2,Option.none⟩=some (.int .i64 x1)/\w'.cell? ⟨b1,o1+k * 2+1,Option.none⟩=some (.int .i64 y1)/\w'.cell? ⟨b2,o2+k * 2,Option.none⟩=some (.int .i64 x2)/\w'.cell? ⟨b2,o2+k * 2+1,Option.none⟩=some (.int .i64 y2)) kr_ kr_ (fun _ _ _ _ _ h=>h) ⟨c5,d5,ra1,rb1,ra2,rb2⟩ ?_
       clear c0 c1 c2 c3 c4 c5 c6 d0 d1 d2 d3 d4 d5 d6 ra1 rb1 ra2 rb2 H;generalize wr.drew=w3 at H2 ⊢
       by_cases eq:x1=x2/\y1=y2
       case neg=>
        exact zAd
       have HE2:Hid (∀j,j<k+1->K.pr s1.ks j=K.pr s2.ks j):=hd_ fun j hj=>by
        exact zBb
       obtain⟨rfl,rfl⟩:=eq;exact zBn
      ·have Eks:Hid (s1.ks=s2.ks):=hd_ (tG Q7.out (fun i hi=>HE.out i o_))
       have g:decide (k<s1.ks.length)=false:=by simpa using hlt
       obtain⟨c0,c1,c2,c3,c4,c5,c6⟩:=H.out.p1.cells7;obtain⟨d0,d1,d2,d3,d4,d5,d6⟩:=H.out.cells7;clear HE;go_wp2;go_ret;have F:mE s1 s2=true:=pF.2 (by
                have a1:=ER.out;have a2:=Q2.out;have a3:=Eps.out;have a4:=Q3.out;have a5:=Q4.out;have a6:=Eks.out;have a7:=Q5.out
                cases s1;cases s2
                simp only at a1 a2 a3 a4 a5 a6 a7
                rw[a1,a2,a3,a4,a5,a6,a7])
       exact⟨by rw[F];rfl,by have:=H.out.below;rwa[HP.out]at this⟩
end N
end Go.Proofs.YtcblbdpdbggkbaaGreat
namespace Go.Proofs.YtcblbdpdbggkbaaGreat
open _root_.Go.Proofs.Tryz
open Go.RowKit Go.Sort
theorem fP (w:World) (V:SV) (s:Sm) (h1:RdS w V s):
  Calls prog 169 #[.agg #[.slice V.xr V.nr V.cr,.slice V.xf V.nf V.cf,.slice V.xt V.nt V.ct,iv s.lo,iv s.al,.slice V.xk V.nk V.ck,iv s.ka]] w fun e w'=>e=.returned (.bool (okS s))/\Below w.heap.size w w':=by
 have hA:=(Below.refl w.heap.size w).alloc lr_ (.cells (cS V s) 46);have X:=aI.new w 46 (.slice V.xr V.nr V.cr) (.slice V.xf V.nf V.cf) (.slice V.xt V.nt V.ct) (iv s.lo) (iv s.al) (.slice V.xk V.nk V.ck) (iv s.ka);obtain⟨W0,hW⟩:=nm_ (w.alloc (.cells (cS V s) 46));rw[<-hW]at hA X;have B:=hd_ hA;have RD:=h1.below hA lr_;have fl:=h1.lens.2.1
 have KR:=fun d os=>Calls.regrown_of (rM _ s.rs (grow (redrawn W0 d) os) (RD.r.below (below_regrown W0 d os) lr_))
 have KF:=fun d os=>Calls.regrown_of (jX (grow (redrawn W0 d) os) _ s.zs (RD.f.below (below_regrown W0 d os) lr_))
 have KT:=fun d os=>Calls.regrown_of (T.jY (grow (redrawn W0 d) os) _ s.ps s.lo s.al (RD.t.below (below_regrown W0 d os) lr_))
 have KK:=fun d os=>Calls.regrown_of (K.iS (grow (redrawn W0 d) os) _ s.ks s.ka (RD.k.below (below_regrown W0 d os) lr_))
 have KA:=fun d os=>Calls.regrown_of (aKT (grow (redrawn W0 d) os) _ s.rs (RD.r.below (below_regrown W0 d os) lr_))
 unfold SV.r at KR KA;unfold SV.f at KF;unfold SV.t at KT;unfold SV.k at KK;unfold okS;rw[<-fl];clear RD h1 hA fl;obtain⟨xr,nr,cr,xf,nf,cf,xt,nt,ct,xk,nk,ck⟩:=V;obtain⟨rs,zs,ps,lo,al,ks,ka⟩:=s;simp only at KR KF KT KK KA X hW ⊢;generalize okB rs=o1 at KR ⊢;generalize eE zs=o2 at KF ⊢;generalize T.cV ps lo al=o3 at KT ⊢;generalize K.cL ks ka=o4 at KK ⊢;generalize dA rs=rv at KA ⊢
 have HR:=hd_ KR;have HF:=hd_ KF;have HT:=hd_ KT;have HK:=hd_ KK;have HA:=hd_ KA;clear KR KF KT KK KA;obtain⟨x0,x1,x2,x3,x4,x5,x6⟩:=X.cells;have c0:=cell_regrown x0;have c1:=cell_regrown x1;have c2:=cell_regrown x2;have c3:=cell_regrown x3;have c4:=cell_regrown x4;have c5:=cell_regrown x5;have c6:=cell_regrown x6;clear X x0 x1 x2 x3 x4 x5 x6;cases o1 with
 |false=>
  exact zd
 |true=>
  cases o2 with
  |false=>
   exact zd
  |true=>
   cases o3 with
   |false=>
    exact zd
   |true=>
    cases o4 with
    |false=>
     exact zd
    |true=>
     by_cases ha:rv=al
     ·have d1:decide (rv=al)=true:=decide_eq_true ha
      have q1:(rv==al)=true:=by simpa using ha
      by_cases hk:al=ka
      ·have d2:decide (al=ka)=true:=decide_eq_true hk
       have q2:(al==ka)=true:=by simpa using hk
       rw[d1,d2];clear d1 d2 ha hk;go_enter func169,ntmps169;go_wp2;rw[<-hW];clear hW;refine cY kr_ kr_ ?_
       repeat (refine cK (fun K hK=>?_);go_simp;first|(refine hK _ ?_;clear hK K)|(apply Exists.intro;refine⟨fun _=>?_,hK _ ?_⟩;(first|(with_reducible exact HR.out _ _)|(with_reducible exact HF.out _ _)|(with_reducible exact HT.out _ _)|(with_reducible exact HK.out _ _)|(with_reducible exact HA.out _ _));clear hK K))
       refine dE ?_;intro _ hw';obtain⟨⟨dq,oq⟩,hw''⟩:=hw';subst hw'';have hb_w1:=below_regrown W0 dq oq;obtain⟨w1,hq_w1⟩:=nm_ (grow (redrawn W0 dq) oq);rw[<-hq_w1]at hb_w1 ⊢;clear hq_w1;go_wp2;go_ret;exact⟨by first|rfl|(simp;done)|(refine congrArg (fun b=>Ending.returned (Value.bool b)) ?_;rw[Bool.eq_iff_iff];simp),B.out.trans (hb_w1.mono B.out.size)⟩
      ·have d2:decide (al=ka)=false:=decide_eq_false hk
       have q2:(al==ka)=false:=by simpa using hk
       rw[d1,d2];clear d1 d2 ha hk;exact zd
     ·have d1:decide (rv=al)=false:=decide_eq_false ha
      have q1:(rv==al)=false:=by simpa using ha
      rw[d1];clear d1 ha;exact zd
theorem aDT (w:World) (V1:SV) (a:Sm) (t:Int) (h1:RdS w V1 a) (okA:okS a=false):
  Calls prog 295 #[.agg #[.slice V1.xr V1.nr V1.cr,.slice V1.xf V1.nf V1.cf,.slice V1.xt V1.nt V1.ct,iv a.lo,iv a.al,.slice V1.xk V1.nk V1.ck,iv a.ka],iv t] w fun e w'=>∃U,e=.returned (.tuple #[.agg #[.slice U.xr U.nr U.cr,.slice U.xf U.nf U.cf,.slice U.xt U.nt U.ct,.int .i64 (eT a t).lo,.int .i64 (eT a t).al,.slice U.xk U.nk U.ck,.int .i64 (eT a t).ka],.bool (cH a t)])/\aV w' w.heap.size w'.heap.size U (eT a t)/\Below w.heap.size w w':=by
 have hno:cH a t=false:=by unfold cH;rw[okA];rfl
 have hA:=((Below.refl w.heap.size w).alloc lr_ (.cells (cS V1 a) 46)).alloc (by simp) (.cells #[zn,zn,zn,iv 0,iv 0,zn,iv 0] 46);have XA:=(aI.new w 46 (.slice V1.xr V1.nr V1.cr) (.slice V1.xf V1.nf V1.cf) (.slice V1.xt V1.nt V1.ct) (iv a.lo) (iv a.al) (.slice V1.xk V1.nk V1.ck) (iv a.ka)).alloc (.cells #[zn,zn,zn,iv 0,iv 0,zn,iv 0] 46)
 have R:=aI.new (w.alloc (.cells (cS V1 a) 46)) 46 zn zn zn (iv 0) (iv 0) zn (iv 0);rw[World.size_alloc]at R;obtain⟨axa0,axa1,axa2,axa3,axa4,axa5,axa6⟩:=(XA).cells;obtain⟨W0,hW⟩:=nm_ ((w.alloc (.cells (cS V1 a) 46)).alloc (.cells #[zn,zn,zn,iv 0,iv 0,zn,iv 0] 46));rw[<-hW]at hA XA R;have B:=hd_ hA;have H1:=hd_ h1;have SZ:Hid (W0.heap.size=w.heap.size+2):=by show _=_;rw[hW];simp
 clear hA h1;have K1:=fP W0 V1 a (H1.out.below B.out lr_);rw[okA]at K1;go_enter func295,ntmps295
 go_wp2_with fail
 rw[<-hW];clear hW axa0 axa1 axa2 axa3 axa4 axa5 axa6;refine (K1).mono ?_;rintro e w1 ⟨rfl,hb⟩;clear K1;have SZ1:=hd_ hb.size;replace XA:=XA.later hb;replace R:=R.later hb;replace B:=hd_ (B.out.trans (hb.mono B.out.size));clear hb;obtain⟨cr0,cr1,cr2,cr3,cr4,cr5,cr6⟩:=(R).cells;have frr:=R.free;have fin:=R.set zn zn zn (iv 0) (iv 0) zn (iv 0)
 have OF:=aV.box7 (aV.none _ _ _ B.out.size lr_) R zn zn zn (iv 0) (iv 0) zn (iv 0);have BF:=aR B.out (Nat.le_add_right w.heap.size 1) zn zn zn (iv 0) (iv 0) zn (iv 0);have SF:=bS w1 (w.heap.size+1) zn zn zn (iv 0) (iv 0) zn (iv 0);have HF:=hd_ (And.intro (aV.base OF lr_ (Nat.le_of_eq SF.symm) lr_) BF);have HY:=hd_ fin;clear fin OF BF SF;go_wp2
 show bodyPost _ _ _ _ _ (set7 w1 (w.heap.size+1) zn zn zn (iv 0) (iv 0) zn (iv 0))
 obtain⟨d0,d1,d2,d3,d4,d5,d6⟩:=HY.out.cells;generalize set7 w1 (w.heap.size+1) zn zn zn (iv 0) (iv 0) zn (iv 0)=WF at HF d0 d1 d2 d3 d4 d5 d6 ⊢;refine bodyPost_ret (v:=.tuple #[.agg #[zn,zn,zn,iv 0,iv 0,zn,iv 0],.bool false]) (by simp[results,results295,go_sem,d0,d1,d2,d3,d4,d5,d6]) rfl ?_;rw[mW hno,hno];exact⟨SV.none,rfl,HF.out⟩
theorem aDg (w:World) (V1:SV) (a:Sm) (t:Int) (h1:RdS w V1 a) (okA:okS a=true) (ht:t<0\/63<t):
  Calls prog 295 #[.agg #[.slice V1.xr V1.nr V1.cr,.slice V1.xf V1.nf V1.cf,.slice V1.xt V1.nt V1.ct,iv a.lo,iv a.al,.slice V1.xk V1.nk V1.ck,iv a.ka],iv t] w fun e w'=>∃U,e=.returned (.tuple #[.agg #[.slice U.xr U.nr U.cr,.slice U.xf U.nf U.cf,.slice U.xt U.nt U.ct,.int .i64 (eT a t).lo,.int .i64 (eT a t).al,.slice U.xk U.nk U.ck,.int .i64 (eT a t).ka],.bool (cH a t)])/\aV w' w.heap.size w'.heap.size U (eT a t)/\Below w.heap.size w w':=by
 have hno:cH a t=false:=by unfold cH;rw[okA,decide_eq_false o_];rfl
 have hA:=((Below.refl w.heap.size w).alloc lr_ (.cells (cS V1 a) 46)).alloc (by simp) (.cells #[zn,zn,zn,iv 0,iv 0,zn,iv 0] 46);have XA:=(aI.new w 46 (.slice V1.xr V1.nr V1.cr) (.slice V1.xf V1.nf V1.cf) (.slice V1.xt V1.nt V1.ct) (iv a.lo) (iv a.al) (.slice V1.xk V1.nk V1.ck) (iv a.ka)).alloc (.cells #[zn,zn,zn,iv 0,iv 0,zn,iv 0] 46)
 have R:=aI.new (w.alloc (.cells (cS V1 a) 46)) 46 zn zn zn (iv 0) (iv 0) zn (iv 0);rw[World.size_alloc]at R;obtain⟨axa0,axa1,axa2,axa3,axa4,axa5,axa6⟩:=(XA).cells;obtain⟨W0,hW⟩:=nm_ ((w.alloc (.cells (cS V1 a) 46)).alloc (.cells #[zn,zn,zn,iv 0,iv 0,zn,iv 0] 46));rw[<-hW]at hA XA R;have B:=hd_ hA;have H1:=hd_ h1;have SZ:Hid (W0.heap.size=w.heap.size+2):=by show _=_;rw[hW];simp
 clear hA h1;have K1:=fP W0 V1 a (H1.out.below B.out lr_);rw[okA]at K1;go_enter func295,ntmps295
 go_wp2_with fail
 rw[<-hW];clear hW axa0 axa1 axa2 axa3 axa4 axa5 axa6;refine (K1).mono ?_;rintro e w1 ⟨rfl,hb⟩;clear K1;have SZ1:=hd_ hb.size;replace XA:=XA.later hb;replace R:=R.later hb;replace B:=hd_ (B.out.trans (hb.mono B.out.size));clear hb;obtain⟨cr0,cr1,cr2,cr3,cr4,cr5,cr6⟩:=(R).cells;have frr:=R.free;have fin:=R.set zn zn zn (iv 0) (iv 0) zn (iv 0)
 have OF:=aV.box7 (aV.none _ _ _ B.out.size lr_) R zn zn zn (iv 0) (iv 0) zn (iv 0);have BF:=aR B.out (Nat.le_add_right w.heap.size 1) zn zn zn (iv 0) (iv 0) zn (iv 0);have SF:=bS w1 (w.heap.size+1) zn zn zn (iv 0) (iv 0) zn (iv 0);have HF:=hd_ (And.intro (aV.base OF lr_ (Nat.le_of_eq SF.symm) lr_) BF);have HY:=hd_ fin;clear fin OF BF SF
 go_wp2_with (go_at_call 66;refine (fY _ _ _ _ ht).mono ?_;rintro e w' ⟨rfl,rfl⟩)
 show bodyPost _ _ _ _ _ (set7 w1 (w.heap.size+1) zn zn zn (iv 0) (iv 0) zn (iv 0))
 obtain⟨d0,d1,d2,d3,d4,d5,d6⟩:=HY.out.cells;generalize set7 w1 (w.heap.size+1) zn zn zn (iv 0) (iv 0) zn (iv 0)=WF at HF d0 d1 d2 d3 d4 d5 d6 ⊢;refine bodyPost_ret (v:=.tuple #[.agg #[zn,zn,zn,iv 0,iv 0,zn,iv 0],.bool false]) (by simp[results,results295,go_sem,d0,d1,d2,d3,d4,d5,d6]) rfl ?_;rw[mW hno,hno];exact⟨SV.none,rfl,HF.out⟩
theorem aBA (w:World) (V1:SV) (a:Sm) (t:Int) (h1:RdS w V1 a) (okA:okS a=true) (ht:0<=t/\t<=63) (hs:2000<=a.al):
  Calls prog 295 #[.agg #[.slice V1.xr V1.nr V1.cr,.slice V1.xf V1.nf V1.cf,.slice V1.xt V1.nt V1.ct,iv a.lo,iv a.al,.slice V1.xk V1.nk V1.ck,iv a.ka],iv t] w fun e w'=>∃U,e=.returned (.tuple #[.agg #[.slice U.xr U.nr U.cr,.slice U.xf U.nf U.cf,.slice U.xt U.nt U.ct,.int .i64 (eT a t).lo,.int .i64 (eT a t).al,.slice U.xk U.nk U.ck,.int .i64 (eT a t).ka],.bool (cH a t)])/\aV w' w.heap.size w'.heap.size U (eT a t)/\Below w.heap.size w w':=by
 have hno:cH a t=false:=by unfold cH;rw[okA,decide_eq_false (show ¬a.al<2000 by omega),decide_eq_true ht];rfl
 obtain⟨t0,t1⟩:=ht;have hA:=((Below.refl w.heap.size w).alloc lr_ (.cells (cS V1 a) 46)).alloc (by simp) (.cells #[zn,zn,zn,iv 0,iv 0,zn,iv 0] 46);have XA:=(aI.new w 46 (.slice V1.xr V1.nr V1.cr) (.slice V1.xf V1.nf V1.cf) (.slice V1.xt V1.nt V1.ct) (iv a.lo) (iv a.al) (.slice V1.xk V1.nk V1.ck) (iv a.ka)).alloc (.cells #[zn,zn,zn,iv 0,iv 0,zn,iv 0] 46)
 have R:=aI.new (w.alloc (.cells (cS V1 a) 46)) 46 zn zn zn (iv 0) (iv 0) zn (iv 0);rw[World.size_alloc]at R;obtain⟨axa0,axa1,axa2,axa3,axa4,axa5,axa6⟩:=(XA).cells;obtain⟨W0,hW⟩:=nm_ ((w.alloc (.cells (cS V1 a) 46)).alloc (.cells #[zn,zn,zn,iv 0,iv 0,zn,iv 0] 46));rw[<-hW]at hA XA R;have B:=hd_ hA;have H1:=hd_ h1;have SZ:Hid (W0.heap.size=w.heap.size+2):=by show _=_;rw[hW];simp
 clear hA h1;have K1:=fP W0 V1 a (H1.out.below B.out lr_);rw[okA]at K1;go_enter func295,ntmps295
 go_wp2_with fail
 rw[<-hW];clear hW axa0 axa1 axa2 axa3 axa4 axa5 axa6;refine (K1).mono ?_;rintro e w1 ⟨rfl,hb⟩;clear K1;have SZ1:=hd_ hb.size;replace XA:=XA.later hb;replace R:=R.later hb;replace B:=hd_ (B.out.trans (hb.mono B.out.size));clear hb;obtain⟨cxa0,cxa1,cxa2,cxa3,cxa4,cxa5,cxa6⟩:=(XA).cells;obtain⟨cr0,cr1,cr2,cr3,cr4,cr5,cr6⟩:=(R).cells;have frr:=R.free;have fin:=R.set zn zn zn (iv 0) (iv 0) zn (iv 0)
 have OF:=aV.box7 (aV.none _ _ _ B.out.size lr_) R zn zn zn (iv 0) (iv 0) zn (iv 0);have BF:=aR B.out (Nat.le_add_right w.heap.size 1) zn zn zn (iv 0) (iv 0) zn (iv 0);have SF:=bS w1 (w.heap.size+1) zn zn zn (iv 0) (iv 0) zn (iv 0);have HF:=hd_ (And.intro (aV.base OF lr_ (Nat.le_of_eq SF.symm) lr_) BF);have HY:=hd_ fin;clear fin OF BF SF
 go_wp2_with (go_at_call 66;refine (aJ _ _ _ _ t0 t1).mono ?_;rintro e w' ⟨rfl,rfl⟩)
 show bodyPost _ _ _ _ _ (set7 w1 (w.heap.size+1) zn zn zn (iv 0) (iv 0) zn (iv 0))
 obtain⟨d0,d1,d2,d3,d4,d5,d6⟩:=HY.out.cells;generalize set7 w1 (w.heap.size+1) zn zn zn (iv 0) (iv 0) zn (iv 0)=WF at HF d0 d1 d2 d3 d4 d5 d6 ⊢;refine bodyPost_ret (v:=.tuple #[.agg #[zn,zn,zn,iv 0,iv 0,zn,iv 0],.bool false]) (by simp[results,results295,go_sem,d0,d1,d2,d3,d4,d5,d6]) rfl ?_;rw[mW hno,hno];exact⟨SV.none,rfl,HF.out⟩
theorem aDw (w:World) (V1:SV) (a:Sm) (t:Int) (h1:RdS w V1 a) (hok:cH a t=true):
  Calls prog 295 #[.agg #[.slice V1.xr V1.nr V1.cr,.slice V1.xf V1.nf V1.cf,.slice V1.xt V1.nt V1.ct,iv a.lo,iv a.al,.slice V1.xk V1.nk V1.ck,iv a.ka],iv t] w fun e w'=>∃U,e=.returned (.tuple #[.agg #[.slice U.xr U.nr U.cr,.slice U.xf U.nf U.cf,.slice U.xt U.nt U.ct,.int .i64 (eT a t).lo,.int .i64 (eT a t).al,.slice U.xk U.nk U.ck,.int .i64 (eT a t).ka],.bool (cH a t)])/\aV w' w.heap.size w'.heap.size U (eT a t)/\Below w.heap.size w w':=by
 have AA:=wZ hok;have okA:=(bM _).2 AA.ok;obtain⟨t0,t1⟩:=AA.thing;have rm:¬ 2000<=a.al:=by have:=AA.room;omega
 have JA:=hd_ (show wD a.rs t 1=tH a.rs t 1 by unfold wD;rw[AA.r];rfl);clear AA;have hA:=((Below.refl w.heap.size w).alloc lr_ (.cells (cS V1 a) 46)).alloc (by simp) (.cells #[zn,zn,zn,iv 0,iv 0,zn,iv 0] 46)
 have XA:=(aI.new w 46 (.slice V1.xr V1.nr V1.cr) (.slice V1.xf V1.nf V1.cf) (.slice V1.xt V1.nt V1.ct) (iv a.lo) (iv a.al) (.slice V1.xk V1.nk V1.ck) (iv a.ka)).alloc (.cells #[zn,zn,zn,iv 0,iv 0,zn,iv 0] 46);have R:=aI.new (w.alloc (.cells (cS V1 a) 46)) 46 zn zn zn (iv 0) (iv 0) zn (iv 0);rw[World.size_alloc]at R;obtain⟨axa0,axa1,axa2,axa3,axa4,axa5,axa6⟩:=(XA).cells
 obtain⟨W0,hW⟩:=nm_ ((w.alloc (.cells (cS V1 a) 46)).alloc (.cells #[zn,zn,zn,iv 0,iv 0,zn,iv 0] 46));rw[<-hW]at hA XA R;have B:=hd_ hA;have H1:=hd_ h1;have SZ:Hid (W0.heap.size=w.heap.size+2):=by show _=_;rw[hW];simp
 clear hA h1;have K1:=fP W0 V1 a (H1.out.below B.out lr_);rw[okA]at K1;go_enter func295,ntmps295
 go_wp2_with fail
 rw[<-hW];clear hW axa0 axa1 axa2 axa3 axa4 axa5 axa6;refine (K1).mono ?_;rintro e w1 ⟨rfl,hb⟩;clear K1;have SZ1:=hd_ hb.size;replace XA:=XA.later hb;replace R:=R.later hb;replace B:=hd_ (B.out.trans (hb.mono B.out.size));clear hb;obtain⟨cxa0,cxa1,cxa2,cxa3,cxa4,cxa5,cxa6⟩:=(XA).cells;have frr:=R.free;have HOK:=hd_ hok;clear hok
 have hA:=B.out.alloc B.out.size (.cells #[zn,zn,zn,iv 0,iv 0,zn,iv 0] 46);have X6:=aI.new w1 46 zn zn zn (iv 0) (iv 0) zn (iv 0);have SZ2:=hd_ (Nat.le_trans (Nat.le_of_eq SZ.out.symm) SZ1.out);have LL:=hd_ B.out.size;obtain⟨W1,hW⟩:=nm_ (w1.alloc (.cells #[zn,zn,zn,iv 0,iv 0,zn,iv 0] 46));replace XA:=XA.alloc (.cells #[zn,zn,zn,iv 0,iv 0,zn,iv 0] 46)
 replace R:=R.alloc (.cells #[zn,zn,zn,iv 0,iv 0,zn,iv 0] 46);obtain⟨bxa0,bxa1,bxa2,bxa3,bxa4,bxa5,bxa6⟩:=(XA).cells;rw[<-hW]at hA X6 XA R;replace B:=hd_ hA;clear hA
 go_wp2_with (go_at_call 66;refine (aJ _ _ _ _ t0 t1).mono ?_;rintro e w' ⟨rfl,rfl⟩)
 rw[<-hW];clear hW bxa0 bxa1 bxa2 bxa3 bxa4 bxa5 bxa6;clear cxa0 cxa1 cxa2 cxa3 cxa4 cxa5 cxa6 frr;have Q:=H1.out.below B.out lr_;have K1:=aL7 W1 (.slice V1.xr V1.nr V1.cr) a.rs t 1 Q.r;generalize hA:wD a.rs t 1=A0 at K1;have HA0:=hd_ hA;generalize nZ a.rs t 1=ok0 at K1;clear hA Q
 go_wp2_with fail
 refine (K1).mono ?_;rintro e w2 ⟨y0,c0',rfl,ho,hb⟩;obtain⟨m0,hm⟩:=nm_ ((A0).length);rw[<-hm]at ho ⊢;clear hm K1;have M0:=hd_ B.out.size;have q6:=SZ2.out;have N0:=hd_ hb.size;replace XA:=XA.later hb;replace R:=R.later hb;replace B:=hd_ (B.out.trans (hb.mono B.out.size));replace X6:=X6.later hb;have O0:=hd_ (ho);clear hb;obtain⟨W2,hW⟩:=nm_ (w2.setCell ⟨w1.heap.size,0,none⟩ (.slice y0 m0 c0'))
 obtain⟨ax60,ax61,ax62,ax63,ax64,ax65,ax66⟩:=(X6).cells;have frx6:=X6.free;replace B:=hd_ (B.out);replace XA:=XA.kept (aA _ ⟨w1.heap.size,0,none⟩ (.slice y0 m0 c0')) (by simp;omega);replace R:=R.kept (aA _ ⟨w1.heap.size,0,none⟩ (.slice y0 m0 c0')) (by simp;omega);replace B:=hd_ (B.out.setCell (p:=⟨w1.heap.size,0,none⟩) LL.out (.slice y0 m0 c0'))
 replace O0:=hd_ (O0.out.cell7 X6 0 (.slice y0 m0 c0'));replace X6:=X6.set0 (.slice y0 m0 c0');obtain⟨bxa0,bxa1,bxa2,bxa3,bxa4,bxa5,bxa6⟩:=(XA).cells;rw[<-hW]at XA;rw[<-hW]at R;rw[<-hW]at B;rw[<-hW]at X6;rw[<-hW]at O0
 go_wp2_with fail
 rw[<-hW];clear hW ax60 ax61 ax62 ax63 ax64 ax65 ax66 frx6 bxa0 bxa1 bxa2 bxa3 bxa4 bxa5 bxa6;clear ho q6;have Q:=H1.out.below B.out lr_;have K1:=aFy W2 (.slice V1.xf V1.nf V1.cf) a.zs t Q.f;generalize hA:kP a.zs t=A1 at K1;have HA1:=hd_ hA;generalize fF a.zs t=ok1 at K1;clear hA Q
 go_wp2_with fail
 refine (K1).mono ?_;rintro e w3 ⟨v,rfl,ho,hb⟩;obtain⟨y1,c1',rfl⟩:=ho.form';obtain⟨m1,hm⟩:=nm_ ((A1).length);rw[<-hm]at ho ⊢;clear hm K1;have M1:=hd_ B.out.size;have q6:=SZ2.out;have T1:=hd_ O0.out.top;replace XA:=XA.later hb;replace R:=R.later hb;replace B:=hd_ (B.out.trans (hb.mono B.out.size));replace X6:=X6.later hb;replace O0:=hd_ (O0.out.below hb);have O1:=hd_ (ho);clear hb
 obtain⟨W3,hW⟩:=nm_ (w3.setCell ⟨w1.heap.size,1,none⟩ (.slice y1 m1 c1'));obtain⟨ax60,ax61,ax62,ax63,ax64,ax65,ax66⟩:=(X6).cells;have frx6:=X6.free;replace B:=hd_ (B.out);replace XA:=XA.kept (aA _ ⟨w1.heap.size,1,none⟩ (.slice y1 m1 c1')) (by simp;omega);replace R:=R.kept (aA _ ⟨w1.heap.size,1,none⟩ (.slice y1 m1 c1')) (by simp;omega)
 replace B:=hd_ (B.out.setCell (p:=⟨w1.heap.size,1,none⟩) LL.out (.slice y1 m1 c1'));replace O0:=hd_ (O0.out.cell7 X6 1 (.slice y1 m1 c1'));replace O1:=hd_ (O1.out.cell7 X6 1 (.slice y1 m1 c1'));replace X6:=X6.set1 (.slice y1 m1 c1');obtain⟨bxa0,bxa1,bxa2,bxa3,bxa4,bxa5,bxa6⟩:=(XA).cells;rw[<-hW]at XA;rw[<-hW]at R;rw[<-hW]at B;rw[<-hW]at X6;rw[<-hW]at O0;rw[<-hW]at O1
 go_wp2_with fail
 rw[<-hW];clear hW ax60 ax61 ax62 ax63 ax64 ax65 ax66 frx6 bxa0 bxa1 bxa2 bxa3 bxa4 bxa5 bxa6;clear ho q6;have Q:=H1.out.below B.out lr_;have K1:=T.aEh W3 (.slice V1.xt V1.nt V1.ct) a.ps a.lo a.al t Q.t;generalize hA:T.gJ a.ps a.lo a.al t=A2 at K1;have HA2:=hd_ hA;generalize T.iJ a.ps a.lo a.al t=ok2 at K1;clear hA Q
 go_wp2_with fail
 refine (K1).mono ?_;rintro e w4 ⟨v,rfl,ho,hb⟩;obtain⟨y2,c2',rfl⟩:=ho.form';obtain⟨m2,hm⟩:=nm_ ((A2.1).length);rw[<-hm]at ho ⊢;clear hm K1;have M2:=hd_ B.out.size;have q6:=SZ2.out;replace XA:=XA.later hb;replace R:=R.later hb;replace B:=hd_ (B.out.trans (hb.mono B.out.size));replace X6:=X6.later hb;replace O0:=hd_ (O0.out.below hb);replace O1:=hd_ (O1.out.below hb);have O2:=hd_ (ho);clear hb
 obtain⟨W4,hW⟩:=nm_ (((w4.setCell ⟨w1.heap.size,2,none⟩ (.slice y2 m2 c2')).setCell ⟨w1.heap.size,3,none⟩ (iv A2.2.1)).setCell ⟨w1.heap.size,4,none⟩ (iv A2.2.2));obtain⟨ax60,ax61,ax62,ax63,ax64,ax65,ax66⟩:=(X6).cells;have frx6:=X6.free;replace B:=hd_ (B.out);replace XA:=XA.kept (aA _ ⟨w1.heap.size,2,none⟩ (.slice y2 m2 c2')) (by simp;omega)
 replace R:=R.kept (aA _ ⟨w1.heap.size,2,none⟩ (.slice y2 m2 c2')) (by simp;omega);replace B:=hd_ (B.out.setCell (p:=⟨w1.heap.size,2,none⟩) LL.out (.slice y2 m2 c2'));replace O0:=hd_ (O0.out.cell7 X6 2 (.slice y2 m2 c2'));replace O1:=hd_ (O1.out.cell7 X6 2 (.slice y2 m2 c2'));replace O2:=hd_ (O2.out.cell7 X6 2 (.slice y2 m2 c2'));replace X6:=X6.set2 (.slice y2 m2 c2')
 replace XA:=XA.kept (aA _ ⟨w1.heap.size,3,none⟩ (iv A2.2.1)) (by simp;omega);replace R:=R.kept (aA _ ⟨w1.heap.size,3,none⟩ (iv A2.2.1)) (by simp;omega);replace B:=hd_ (B.out.setCell (p:=⟨w1.heap.size,3,none⟩) LL.out (iv A2.2.1));replace O0:=hd_ (O0.out.cell7 X6 3 (iv A2.2.1));replace O1:=hd_ (O1.out.cell7 X6 3 (iv A2.2.1));replace O2:=hd_ (O2.out.cell7 X6 3 (iv A2.2.1))
 replace X6:=X6.set3 (iv A2.2.1);replace XA:=XA.kept (aA _ ⟨w1.heap.size,4,none⟩ (iv A2.2.2)) (by simp;omega);replace R:=R.kept (aA _ ⟨w1.heap.size,4,none⟩ (iv A2.2.2)) (by simp;omega);replace B:=hd_ (B.out.setCell (p:=⟨w1.heap.size,4,none⟩) LL.out (iv A2.2.2));replace O0:=hd_ (O0.out.cell7 X6 4 (iv A2.2.2));replace O1:=hd_ (O1.out.cell7 X6 4 (iv A2.2.2))
 replace O2:=hd_ (O2.out.cell7 X6 4 (iv A2.2.2));replace X6:=X6.set4 (iv A2.2.2);obtain⟨bxa0,bxa1,bxa2,bxa3,bxa4,bxa5,bxa6⟩:=(XA).cells;rw[<-hW]at XA;rw[<-hW]at R;rw[<-hW]at B;rw[<-hW]at X6;rw[<-hW]at O0;rw[<-hW]at O1;rw[<-hW]at O2
 go_wp2_with fail
 rw[<-hW];clear hW ax60 ax61 ax62 ax63 ax64 ax65 ax66 frx6 bxa0 bxa1 bxa2 bxa3 bxa4 bxa5 bxa6;clear ho q6;have Q:=H1.out.below B.out lr_;have K1:=K.aDd W4 (.slice V1.xk V1.nk V1.ck) a.ks a.ka t Q.k;generalize hA:K.mG a.ks a.ka t=A3 at K1;have HA3:=hd_ hA;generalize K.fT a.ks a.ka t=ok3 at K1;clear hA Q
 go_wp2_with fail
 refine (K1).mono ?_;rintro e w5 ⟨v,rfl,ho,hb⟩;obtain⟨y3,c3',rfl⟩:=ho.form';obtain⟨m3,hm⟩:=nm_ ((A3.1).length);rw[<-hm]at ho ⊢;clear hm K1;have M3:=hd_ B.out.size;have q6:=SZ2.out;replace XA:=XA.later hb;replace R:=R.later hb;replace B:=hd_ (B.out.trans (hb.mono B.out.size));replace X6:=X6.later hb;replace O0:=hd_ (O0.out.below hb);replace O1:=hd_ (O1.out.below hb)
 replace O2:=hd_ (O2.out.below hb);have O3:=hd_ (ho);clear hb;obtain⟨W5,hW⟩:=nm_ ((w5.setCell ⟨w1.heap.size,5,none⟩ (.slice y3 m3 c3')).setCell ⟨w1.heap.size,6,none⟩ (iv A3.2));obtain⟨ax60,ax61,ax62,ax63,ax64,ax65,ax66⟩:=(X6).cells;have frx6:=X6.free;replace B:=hd_ (B.out);replace XA:=XA.kept (aA _ ⟨w1.heap.size,5,none⟩ (.slice y3 m3 c3')) (by simp;omega)
 replace R:=R.kept (aA _ ⟨w1.heap.size,5,none⟩ (.slice y3 m3 c3')) (by simp;omega);replace B:=hd_ (B.out.setCell (p:=⟨w1.heap.size,5,none⟩) LL.out (.slice y3 m3 c3'));replace O0:=hd_ (O0.out.cell7 X6 5 (.slice y3 m3 c3'));replace O1:=hd_ (O1.out.cell7 X6 5 (.slice y3 m3 c3'));replace O2:=hd_ (O2.out.cell7 X6 5 (.slice y3 m3 c3'));replace O3:=hd_ (O3.out.cell7 X6 5 (.slice y3 m3 c3'))
 replace X6:=X6.set5 (.slice y3 m3 c3');replace XA:=XA.kept (aA _ ⟨w1.heap.size,6,none⟩ (iv A3.2)) (by simp;omega);replace R:=R.kept (aA _ ⟨w1.heap.size,6,none⟩ (iv A3.2)) (by simp;omega);replace B:=hd_ (B.out.setCell (p:=⟨w1.heap.size,6,none⟩) LL.out (iv A3.2));replace O0:=hd_ (O0.out.cell7 X6 6 (iv A3.2));replace O1:=hd_ (O1.out.cell7 X6 6 (iv A3.2))
 replace O2:=hd_ (O2.out.cell7 X6 6 (iv A3.2));replace O3:=hd_ (O3.out.cell7 X6 6 (iv A3.2));replace X6:=X6.set6 (iv A3.2);obtain⟨bx60,bx61,bx62,bx63,bx64,bx65,bx66⟩:=(X6).cells;obtain⟨br0,br1,br2,br3,br4,br5,br6⟩:=(R).cells;have fbr:=R.free;rw[<-hW]at XA;rw[<-hW]at R;rw[<-hW]at B;rw[<-hW]at X6;rw[<-hW]at O0;rw[<-hW]at O1;rw[<-hW]at O2;rw[<-hW]at O3;clear ho q6
 have EJ:=hd_ (show (eT a t)=⟨A0,A1,A2.1,A2.2.1,A2.2.2,A3.1,A3.2⟩ by rw[kH HOK.out];unfold aAb;rw[<-JA.out,HA0.out,HA1.out,HA2.out,HA3.out]);have fin:=R.set (.slice y0 m0 c0') (.slice y1 m1 c1') (.slice y2 m2 c2') (iv A2.2.1) (iv A2.2.2) (.slice y3 m3 c3') (iv A3.2)
 have OF:=aV.box7 (aV.make (V:=⟨y0,m0,c0',y1,m1,c1',y2,m2,c2',y3,m3,c3'⟩) (s:=⟨A0,A1,A2.1,A2.2.1,A2.2.2,A3.1,A3.2⟩) O0.out O1.out O2.out O3.out M0.out (Nat.le_trans M0.out N0.out) T1.out M2.out M3.out) R (.slice y0 m0 c0') (.slice y1 m1 c1') (.slice y2 m2 c2') (iv A2.2.1) (iv A2.2.2) (.slice y3 m3 c3') (iv A3.2)
 have BF:=aR B.out (Nat.le_add_right w.heap.size 1) (.slice y0 m0 c0') (.slice y1 m1 c1') (.slice y2 m2 c2') (iv A2.2.1) (iv A2.2.2) (.slice y3 m3 c3') (iv A3.2);have SF:=bS W5 (w.heap.size+1) (.slice y0 m0 c0') (.slice y1 m1 c1') (.slice y2 m2 c2') (iv A2.2.1) (iv A2.2.2) (.slice y3 m3 c3') (iv A3.2);have HF:=hd_ (And.intro (aV.base OF lr_ (Nat.le_of_eq SF.symm) lr_) BF)
 have HY:=hd_ fin;clear fin OF BF SF;go_wp2;rw[<-hW];clear hW ax60 ax61 ax62 ax63 ax64 ax65 ax66 frx6 bx60 bx61 bx62 bx63 bx64 bx65 bx66 br0 br1 br2 br3 br4 br5 br6 fbr;show bodyPost _ _ _ _ _ (set7 W5 (w.heap.size+1) (.slice y0 m0 c0') (.slice y1 m1 c1') (.slice y2 m2 c2') (iv A2.2.1) (iv A2.2.2) (.slice y3 m3 c3') (iv A3.2))
 obtain⟨d0,d1,d2,d3,d4,d5,d6⟩:=HY.out.cells;generalize set7 W5 (w.heap.size+1) (.slice y0 m0 c0') (.slice y1 m1 c1') (.slice y2 m2 c2') (iv A2.2.1) (iv A2.2.2) (.slice y3 m3 c3') (iv A3.2)=WF at HF d0 d1 d2 d3 d4 d5 d6 ⊢
 refine bodyPost_ret (v:=.tuple #[.agg #[.slice y0 m0 c0',.slice y1 m1 c1',.slice y2 m2 c2',iv A2.2.1,iv A2.2.2,.slice y3 m3 c3',iv A3.2],.bool true]) (by simp[results,results295,go_sem,d0,d1,d2,d3,d4,d5,d6]) rfl ?_;rw[EJ.out,HOK.out];exact⟨⟨y0,m0,c0',y1,m1,c1',y2,m2,c2',y3,m3,c3'⟩,rfl,HF.out⟩
theorem aFr (w:World) (V:SV) (s:Sm) (t:Int) (h1:RdS w V s):
  Calls prog 295 #[.agg #[.slice V.xr V.nr V.cr,.slice V.xf V.nf V.cf,.slice V.xt V.nt V.ct,iv s.lo,iv s.al,.slice V.xk V.nk V.ck,iv s.ka],iv t] w fun e w'=>∃U,e=.returned (.tuple #[.agg #[.slice U.xr U.nr U.cr,.slice U.xf U.nf U.cf,.slice U.xt U.nt U.ct,.int .i64 (eT s t).lo,.int .i64 (eT s t).al,.slice U.xk U.nk U.ck,.int .i64 (eT s t).ka],.bool (cH s t)])/\aV w' w.heap.size w'.heap.size U (eT s t)/\Below w.heap.size w w':=by
 cases okA:okS s with
 |false=>exact aDT w V s t h1 okA
 |true=>
  by_cases ht:0<=t/\t<=63
  ·by_cases hs:s.al<2000
   ·exact aDw w V s t h1 ((jR s t).2 ⟨(bM _).1 okA,ht,hs⟩)
   ·exact aBA w V s t h1 okA ht o_
  ·exact aDg w V s t h1 okA o_
theorem yC (w:World):
  Calls prog 77 #[] w fun e w'=>∃V,e=.returned (vS V fE)/\aV w' w.heap.size w'.heap.size V fE/\Below w.heap.size w w':=by
 have hA:=(Below.refl w.heap.size w).alloc lr_ (.cells #[zn,zn,zn,iv 0,iv 0,zn,iv 0] 46);have X0:=aI.new w 46 zn zn zn (iv 0) (iv 0) zn (iv 0);have HA:=hd_ hA;have S0:Hid ((w.alloc (.cells #[zn,zn,zn,iv 0,iv 0,zn,iv 0] 46)).heap.size=w.heap.size+1):=by show _=_;simp
 clear hA;go_enter func77,ntmps77
 go_wp2_with fail
 refine (aAs _).mono ?_;rintro e w1 ⟨u,G,C,rfl,ho,hb⟩;obtain⟨x,c,rfl⟩:=ho.form;have X1:=X0.later hb;have HB:=hd_ (HA.out.trans (hb.mono HA.out.size));have hs:=S0.out;rw[hs]at ho;have HS:=aV.box7 (aV.rows ho (by have:=hb.size;omega)) X1 (.slice x 3 c) zn zn (iv 0) (iv 0) zn (iv 0);have Y:=X1.set (.slice x 3 c) zn zn (iv 0) (iv 0) zn (iv 0)
 have HW:=aR HB.out lr_ (.slice x 3 c) zn zn (iv 0) (iv 0) zn (iv 0);have e:=bS w1 w.heap.size (.slice x 3 c) zn zn (iv 0) (iv 0) zn (iv 0);obtain⟨W,hW⟩:=nm_ (set7 w1 w.heap.size (.slice x 3 c) zn zn (iv 0) (iv 0) zn (iv 0));rw[<-hW]at HS Y HW e;have fin:=hd_ (And.intro (HS.base (B':=w.heap.size) o_ (Nat.le_of_eq e.symm) lr_) HW);have YY:=hd_ Y;have f:=X1.free
 obtain⟨c0,c1,c2,c3,c4,c5,c6⟩:=X1.cells;unfold set7 at hW;have HH:=hd_ hW;clear ho hb hs S0 HS HW Y e hW;go_wp2;show bodyPost _ _ _ _ _ (((((((w1.setCell _ (.slice x 3 c)).setCell _ _).setCell _ _).setCell _ _).setCell _ _).setCell _ _).setCell _ _)
 rw[<-HH.out];obtain⟨d0,d1,d2,d3,d4,d5,d6⟩:=YY.out.cells;refine bodyPost_ret (v:=.agg #[.slice x 3 c,zn,zn,iv 0,iv 0,zn,iv 0]) (by simp[results,results77,go_sem,d0,d1,d2,d3,d4,d5,d6]) rfl ?_;exact⟨_,rfl,fin.out⟩
theorem yB (w:World):
  Calls prog 99 #[] w fun e w'=>∃V,e=.returned (vS V fE)/\aV w' w.heap.size w'.heap.size V fE/\Below w.heap.size w w':=by
 have hA:=(Below.refl w.heap.size w).alloc lr_ (.cells #[zn,zn,zn,iv 0,iv 0,zn,iv 0] 46);have X0:=aI.new w 46 zn zn zn (iv 0) (iv 0) zn (iv 0);have HA:=hd_ hA;have S0:Hid ((w.alloc (.cells #[zn,zn,zn,iv 0,iv 0,zn,iv 0] 46)).heap.size=w.heap.size+1):=by show _=_;simp
 clear hA;go_enter func99,ntmps99
 go_wp2_with fail
 refine (aKb _).mono ?_;rintro e w1 ⟨u,G,C,rfl,ho,hb⟩;obtain⟨x,c,rfl⟩:=ho.form;have X1:=X0.later hb;have HB:=hd_ (HA.out.trans (hb.mono HA.out.size));have hs:=S0.out;rw[hs]at ho;have HS:=aV.box7 (aV.rows ho (by have:=hb.size;omega)) X1 (.slice x 3 c) zn zn (iv 0) (iv 0) zn (iv 0);have Y:=X1.set (.slice x 3 c) zn zn (iv 0) (iv 0) zn (iv 0)
 have HW:=aR HB.out lr_ (.slice x 3 c) zn zn (iv 0) (iv 0) zn (iv 0);have e:=bS w1 w.heap.size (.slice x 3 c) zn zn (iv 0) (iv 0) zn (iv 0);obtain⟨W,hW⟩:=nm_ (set7 w1 w.heap.size (.slice x 3 c) zn zn (iv 0) (iv 0) zn (iv 0));rw[<-hW]at HS Y HW e;have fin:=hd_ (And.intro (HS.base (B':=w.heap.size) o_ (Nat.le_of_eq e.symm) lr_) HW);have YY:=hd_ Y;have f:=X1.free
 obtain⟨c0,c1,c2,c3,c4,c5,c6⟩:=X1.cells;unfold set7 at hW;have HH:=hd_ hW;clear ho hb hs S0 HS HW Y e hW;go_wp2;show bodyPost _ _ _ _ _ (((((((w1.setCell _ (.slice x 3 c)).setCell _ _).setCell _ _).setCell _ _).setCell _ _).setCell _ _).setCell _ _)
 rw[<-HH.out];obtain⟨d0,d1,d2,d3,d4,d5,d6⟩:=YY.out.cells;refine bodyPost_ret (v:=.agg #[.slice x 3 c,zn,zn,iv 0,iv 0,zn,iv 0]) (by simp[results,results99,go_sem,d0,d1,d2,d3,d4,d5,d6]) rfl ?_;exact⟨_,rfl,fin.out⟩
theorem aGO (w:World) (x:Option Addr) (n c:Nat) (l:List Int) (h:cW w (.slice x n c) l):
  Calls prog 265 #[.slice x n c] w fun e w'=>∃U,e=.returned (.tuple #[.agg #[.slice U.xr U.nr U.cr,.slice U.xf U.nf U.cf,.slice U.xt U.nt U.ct,.int .i64 (upS l).lo,.int .i64 (upS l).al,.slice U.xk U.nk U.ck,.int .i64 (upS l).ka],.bool (okS (upS l))])/\aV w' w.heap.size w'.heap.size U (upS l)/\Below w.heap.size w w':=by
 obtain⟨b,o,hx⟩:∃b o,n=0\/(x=some ⟨b,o,none⟩/\b<w.heap.size/\∀i,i<n->w.cell? ⟨b,o+i,none⟩=some (.int .i64 (l.getD i 0))):=by
  rcases h with ⟨e,rfl⟩|⟨b,o,cap,e,h1,h2,hb,hc⟩
  ·simp at e;exact⟨0,0,.inl e.2.1⟩
  ·simp at e;obtain⟨rfl,rfl,rfl⟩:=e;exact⟨b,o,.inr ⟨rfl,hb,hc⟩⟩
 have HX:=hd_ hx;have hnl:n=l.length:=cW.len h;have HN:=hd_ hnl;have hmx:n<2 ^ 63:=by
  rcases h with ⟨e,rfl⟩|⟨b,o,cap,e,h1,h2,_⟩
  ·rw[hnl];simp
  ·unfold maxLen at h2;omega
 clear hx h hnl;have hA:=(Below.refl w.heap.size w).alloc lr_ (.cells #[zn,zn,zn,iv 0,iv 0,zn,iv 0] 46);have R:=aI.new w 46 zn zn zn (iv 0) (iv 0) zn (iv 0);obtain⟨W0,hW⟩:=nm_ (w.alloc (.cells #[zn,zn,zn,iv 0,iv 0,zn,iv 0] 46));rw[<-hW]at hA R;have B:=hd_ hA;have SZ:Hid (W0.heap.size=w.heap.size+1):=by show _=_;rw[hW];simp
 clear hA;go_enter func265,ntmps265
 go_wp2_with fail
 rw[<-hW];clear hW;refine (yB W0).mono ?_;rintro e w1 ⟨V0,rfl,ho,hb⟩;have L4:=hd_ (Nat.le_trans (Nat.le_of_eq SZ.out.symm) hb.size);replace ho:=ho.base (B':=w.heap.size) B.out.size lr_ lr_;replace R:=R.later hb;replace B:=hd_ (B.out.trans (hb.mono B.out.size));have O:=hd_ (ho);clear hb;obtain⟨W1,hW⟩:=nm_ (w1.alloc (.cells (cS V0 fE) 46));replace R:=R.alloc (.cells (cS V0 fE) 46)
 rw[<-hW]at R;replace B:=hd_ ((B.out).alloc (Nat.le_trans B.out.size (by simp)) (.cells (cS V0 fE) 46));rw[<-hW]at B;replace O:=hd_ (O.out.alloc (.cells (cS V0 fE) 46));rw[<-hW]at O;have X4:=aI.new w1 46 (.slice V0.xr V0.nr V0.cr) (.slice V0.xf V0.nf V0.cf) (.slice V0.xt V0.nt V0.ct) (iv fE.lo) (iv fE.al) (.slice V0.xk V0.nk V0.ck) (iv fE.ka);rw[<-hW]at X4;clear ho
 obtain⟨b4,hb4⟩:=nm_ w1.heap.size;rw[<-hb4]at X4 L4;have HO:=hd_ (show aV W1 w.heap.size b4 V0 fE by rw[hb4];exact O.out);clear O;go_wp2;rw[<-hW, <-hb4];clear hW hb4
 go_loopw [5] (fun i wr=>∃(j:Nat) (V:SV) (T:Nat),i=.int .i64 j/\j<=n/\okS (upS (l.take j))=true/\aV wr w.heap.size T V (upS (l.take j))/\aLY wr b4 V (upS (l.take j))/\aI wr w.heap.size 46 zn zn zn (iv 0) (iv 0) zn (iv 0)/\Below w.heap.size w wr) (fun i _=>n - (intOf i).toNat)
 case atStart=>exact⟨0,V0,b4,rfl,Nat.zero_le _,sU,HO.out,X4,R,B.out⟩
 case round=>
  clear HO X4 R B SZ;obtain⟨j,V,T,rfl,hj,hok,ho,hX,hR,hB⟩:=hrel;obtain⟨s,hs⟩:=nm_ (upS (l.take j));rw[<-hs]at hok ho hX;have HS:=hd_ hs;have HOK:=hd_ hok;have O:=hd_ ho;have X4:=hX.box;have R:=hR;have B:=hd_ hB;clear hs hok ho hX hR hB
  by_cases hlt:j<n
  ·obtain⟨t,ht⟩:=nm_ (l.getD j 0)
   obtain⟨rfl,hbw,hce⟩:=HX.out.resolve_left o_;have ce:wr.cell? ⟨b,o+j,none⟩=some (.int .i64 t):=by rw[ht];exact cell_later B.out (hce j hlt)
   have HT:=hd_ ht;clear ht hce hbw HX;have UP:=hd_ (show upS (l.take (j+1))=eT s t by rw[HS.out,HT.out];exact zC (by rw[<-HN.out];exact hlt));have NO:=hd_ (show cH s t=false->okS (upS l)=false/\upS l=eC from fun q=>by have e:=aMc (l:=l) (k:=j) (by rw[<-HN.out];exact hlt) (by rw[<-HS.out, <-HT.out];exact q);exact⟨by rw[e];rfl,e⟩)
   have YES:=hd_ (show cH s t=true->okS (eT s t)=true from fun q=>(bM _).2 (tB q).1);clear HS HT;have KS:=hd_ (fun (W:World) (h:RdS W V s)=>aFr W V s t h);generalize cH s t=ok at KS NO YES;generalize eT s t=r at KS UP YES;obtain⟨c0,c1,c2,c3,c4,c5,c6⟩:=X4.drew.cells;obtain⟨e0,e1,e2,e3,e4,e5,e6⟩:=(X4.alloc (.cells #[zn,zn,zn,iv 0,iv 0,zn,iv 0] 46)).drew.cells
   have cb:=cell_later (Below.drew (Below.refl wr.heap.size wr)) ce;have cb':=cell_later (((Below.refl wr.heap.size wr).alloc lr_ (.cells #[zn,zn,zn,iv 0,iv 0,zn,iv 0] 46)).drew) ce;have k0:(0:Int)<=(j:Int):=o_;have k1:(j:Int)<(n:Int):=o_;go_wp2
   go_region_with (first
        |(go_at_call 295;refine (KS.out wr.drew O.out.rd.drew).mono ?_;rintro e w2 ⟨U,rfl,ho,hb⟩;have HO:=hd_ ho;have HB:=hd_ (Below.trans (Below.drew (Below.refl wr.heap.size wr)) hb);clear ho hb)
        |(go_at_call 295;refine (KS.out (wr.alloc (.cells #[zn,zn,zn,iv 0,iv 0,zn,iv 0] 46)).drew (O.out.rd.alloc _).drew).mono ?_;rintro e w2 ⟨U,rfl,ho,hb⟩;have HO:=hd_ ho;have HB:=hd_ (Below.trans (((Below.refl wr.heap.size wr).alloc lr_ (.cells #[zn,zn,zn,iv 0,iv 0,zn,iv 0] 46)).drew) (hb.mono (by simp)));have XN:=(aI.new wr 46 zn zn zn (iv 0) (iv 0) zn (iv 0)).drew.later hb;obtain⟨f0,f1,f2,f3,f4,f5,f6⟩:=XN.cells;have ff:=XN.free;clear ho hb))
   all_goals
    first
     |(have G:=Got.last HB.out HO.out lr_;generalize w2.alloc (.cells (cS U r) 46)=WN at G ⊢;generalize w2.heap.size=PN at G ⊢)
     |(have G:=Got.stored HB.out HO.out (show wr.heap.size<=(wr.alloc (.cells #[zn,zn,zn,iv 0,iv 0,zn,iv 0] 46)).drew.heap.size by simp) XN lr_;show Exit.then _ _ _ _ (set7 w2 wr.heap.size (.slice U.xr U.nr U.cr) (.slice U.xf U.nf U.cf) (.slice U.xt U.nt U.ct) (iv r.lo) (iv r.al) (.slice U.xk U.nk U.ck) (iv r.ka));generalize set7 w2 wr.heap.size (.slice U.xr U.nr U.cr) (.slice U.xf U.nf U.cf) (.slice U.xt U.nt U.ct) (iv r.lo) (iv r.al) (.slice U.xk U.nk U.ck) (iv r.ka)=WN at G ⊢;obtain⟨PN,hPN⟩:=nm_ wr.heap.size;clear f0 f1 f2 f3 f4 f5 f6 ff XN;rw[<-hPN]at G ⊢;clear hPN)
    have X4':=X4.later G.below;have R':=R.later G.below;have B':=hd_ (B.out.trans (G.below.mono B.out.size));have XP:=G.box.box;have lo4:=X4.lt;have O':=hd_ (G.own.base (B':=w.heap.size) B.out.size lr_ lr_);have GLO:=hd_ G.lo;have sep:=hd_ (show b4≠PN from fun e=>by have:=G.lo;omega);clear G HB HO c0 c1 c2 c3 c4 c5 c6 e0 e1 e2 e3 e4 e5 e6 cb cb' lo4 X4 R B O ce k0 k1;have X4:=X4';have R:=R'
    have B:=B';have O:=O';clear X4' R' B' O';cases ok with
    |false=>
     have NO1:=hd_ (NO.out rfl).1;have NO2:=hd_ (NO.out rfl).2;clear NO YES UP;obtain⟨cr0,cr1,cr2,cr3,cr4,cr5,cr6⟩:=(R).cells;have frr:=R.free;have fin:=R.set zn zn zn (iv 0) (iv 0) zn (iv 0);have OF:=aV.box7 (aV.none _ _ _ B.out.size lr_) R zn zn zn (iv 0) (iv 0) zn (iv 0);have BF:=aR B.out lr_ zn zn zn (iv 0) (iv 0) zn (iv 0)
     have SF:=bS WN w.heap.size zn zn zn (iv 0) (iv 0) zn (iv 0);have HF:=hd_ (And.intro (aV.base OF lr_ (Nat.le_of_eq SF.symm) lr_) BF);have HY:=hd_ fin;clear fin OF BF SF;go_wp2;show bodyPost _ _ _ _ _ (set7 WN w.heap.size zn zn zn (iv 0) (iv 0) zn (iv 0))
     obtain⟨d0,d1,d2,d3,d4,d5,d6⟩:=HY.out.cells;generalize set7 WN w.heap.size zn zn zn (iv 0) (iv 0) zn (iv 0)=WF at HF d0 d1 d2 d3 d4 d5 d6 ⊢;refine bodyPost_ret (v:=.tuple #[.agg #[zn,zn,zn,iv 0,iv 0,zn,iv 0],.bool false]) (by simp[results,results265,go_sem,d0,d1,d2,d3,d4,d5,d6]) rfl ?_;rw[NO1.out,NO2.out];exact⟨SV.none,rfl,HF.out⟩
    |true=>
     have YS:=hd_ (YES.out rfl);clear NO YES;obtain⟨cxp0,cxp1,cxp2,cxp3,cxp4,cxp5,cxp6⟩:=(XP).cells;obtain⟨cx40,cx41,cx42,cx43,cx44,cx45,cx46⟩:=(X4).cells;have fr4:=X4.free;have OX:=hd_ (O.out.box7 X4 (.slice U.xr U.nr U.cr) (.slice U.xf U.nf U.cf) (.slice U.xt U.nt U.ct) (iv r.lo) (iv r.al) (.slice U.xk U.nk U.ck) (iv r.ka))
     have YtcblbdpdbggkbaaGreat4:=X4.set (.slice U.xr U.nr U.cr) (.slice U.xf U.nf U.cf) (.slice U.xt U.nt U.ct) (iv r.lo) (iv r.al) (.slice U.xk U.nk U.ck) (iv r.ka);have RX:=R.kept (dU _ b4 (.slice U.xr U.nr U.cr) (.slice U.xf U.nf U.cf) (.slice U.xt U.nt U.ct) (iv r.lo) (iv r.al) (.slice U.xk U.nk U.ck) (iv r.ka)) (by have:=L4.out;simp;omega)
     have BX:=hd_ (aR B.out (Nat.le_trans (Nat.le_add_right _ 1) L4.out) (.slice U.xr U.nr U.cr) (.slice U.xf U.nf U.cf) (.slice U.xt U.nt U.ct) (iv r.lo) (iv r.al) (.slice U.xk U.nk U.ck) (iv r.ka));have SX:=bS WN b4 (.slice U.xr U.nr U.cr) (.slice U.xf U.nf U.cf) (.slice U.xt U.nt U.ct) (iv r.lo) (iv r.al) (.slice U.xk U.nk U.ck) (iv r.ka);go_wp2;go_roundw
     case rel=>exact⟨j+1,U,WN.heap.size,gn_,hlt,by rw[UP.out];exact YS.out,by rw[UP.out];exact OX.out,by rw[UP.out];exact YtcblbdpdbggkbaaGreat4,RX,BX.out⟩
     case measure=>simp[intOf];omega
  ·obtain rfl:j=n:=o_
   have ES:=hd_ (show upS l=s by rw[HS.out,HN.out,List.take_length]);clear HX HS hlt hj;obtain⟨cx40,cx41,cx42,cx43,cx44,cx45,cx46⟩:=(X4).cells;obtain⟨cr0,cr1,cr2,cr3,cr4,cr5,cr6⟩:=(R).cells;have frr:=R.free;have fin:=R.set (.slice V.xr V.nr V.cr) (.slice V.xf V.nf V.cf) (.slice V.xt V.nt V.ct) (iv s.lo) (iv s.al) (.slice V.xk V.nk V.ck) (iv s.ka)
   have OF:=aV.box7 (O.out.base lr_ O.out.top lr_) R (.slice V.xr V.nr V.cr) (.slice V.xf V.nf V.cf) (.slice V.xt V.nt V.ct) (iv s.lo) (iv s.al) (.slice V.xk V.nk V.ck) (iv s.ka);have BF:=aR B.out lr_ (.slice V.xr V.nr V.cr) (.slice V.xf V.nf V.cf) (.slice V.xt V.nt V.ct) (iv s.lo) (iv s.al) (.slice V.xk V.nk V.ck) (iv s.ka)
   have SF:=bS wr w.heap.size (.slice V.xr V.nr V.cr) (.slice V.xf V.nf V.cf) (.slice V.xt V.nt V.ct) (iv s.lo) (iv s.al) (.slice V.xk V.nk V.ck) (iv s.ka);have HF:=hd_ (And.intro (aV.base OF lr_ (Nat.le_of_eq SF.symm) lr_) BF);have HY:=hd_ fin;clear fin OF BF SF;go_wp2
   show bodyPost _ _ _ _ _ (set7 wr w.heap.size (.slice V.xr V.nr V.cr) (.slice V.xf V.nf V.cf) (.slice V.xt V.nt V.ct) (iv s.lo) (iv s.al) (.slice V.xk V.nk V.ck) (iv s.ka))
   obtain⟨d0,d1,d2,d3,d4,d5,d6⟩:=HY.out.cells;generalize set7 wr w.heap.size (.slice V.xr V.nr V.cr) (.slice V.xf V.nf V.cf) (.slice V.xt V.nt V.ct) (iv s.lo) (iv s.al) (.slice V.xk V.nk V.ck) (iv s.ka)=WF at HF d0 d1 d2 d3 d4 d5 d6 ⊢
   refine bodyPost_ret (v:=.tuple #[.agg #[.slice V.xr V.nr V.cr,.slice V.xf V.nf V.cf,.slice V.xt V.nt V.ct,iv s.lo,iv s.al,.slice V.xk V.nk V.ck,iv s.ka],.bool true]) (by simp[results,results265,go_sem,d0,d1,d2,d3,d4,d5,d6]) rfl ?_;rw[ES.out,HOK.out];exact⟨V,rfl,HF.out⟩
end Go.Proofs.YtcblbdpdbggkbaaGreat
namespace Go.Proofs.YtcblbdpdbggkbaaGreat
open _root_.Go.Proofs.Tryz
open Go.RowKit Go.Sort
namespace N
theorem aK4 {w:World} {x:Option Addr} {n c:Nat} {zs:List Int} (h:cW w (.slice x n c) zs) {k:Nat} (hk:k<=n):cW w (.slice x k c) (zs.take k):=by
 have hn:=h.len;rcases h with ⟨e,rfl⟩|⟨b,o,cap,e,h1,h2,h3,h4⟩
 ·simp at e
  obtain rfl:k=0:=by omega
  exact .inl ⟨by simp[e],by simp⟩
 ·simp at e
  obtain⟨rfl, -,rfl⟩:=e;have hl:(zs.take k).length=k:=by rw[List.length_take];omega
  exact .inr ⟨b,o,c,by rw[hl],by omega,h2,h3,fun i hi=>by
      have hi':i<k:=by omega
      rw[h4 i (by omega),List.getD_eq_getElem?_getD,List.getD_eq_getElem?_getD,List.getElem?_take_of_lt hi']⟩
theorem aCR {V1 V2:SV} {s:Sm} (h:([.slice V1.xr V1.nr V1.cr,.slice V1.xf V1.nf V1.cf,.slice V1.xt V1.nt V1.ct,.int .i64 s.lo,.int .i64 s.al,.slice V1.xk V1.nk V1.ck,.int .i64 s.ka]:List Value)=[.slice V2.xr V2.nr V2.cr,.slice V2.xf V2.nf V2.cf,.slice V2.xt V2.nt V2.ct,.int .i64 s.lo,.int .i64 s.al,.slice V2.xk V2.nk V2.ck,.int .i64 s.ka]):V1=V2:=by
 cases V1;cases V2;simp only[List.cons.injEq,Value.slice.injEq,true_and,and_true]at h;obtain⟨⟨a1,a2,a3⟩,⟨a4,a5,a6⟩,⟨a7,a8,a9⟩,a10,a11,a12⟩:=h;subst a1 a2 a3 a4 a5 a6 a7 a8 a9 a10 a11 a12
 rfl
theorem mF (z lo hi:Int) (w:World):Calls prog 66 #[.int .i64 z,.int .i64 lo,.int .i64 hi] w fun e w'=>e=.returned (.bool (in6 z lo hi))/\w'=w:=by
 unfold in6
 by_cases h:lo<=z/\z<=hi
 ·exact (aJ z lo hi w h.1 h.2).mono fun e w' ⟨h1,h2⟩=>⟨by rw[h1,decide_eq_true h],h2.symm⟩
 ·exact (fY z lo hi w (by omega)).mono fun e w' ⟨h1,h2⟩=>⟨by rw[h1,decide_eq_false h],h2.symm⟩
structure jF (w:World) (v1 v2 v3 v4:Value) (n:Nt):Prop where
 nodes:∃f,qL TY w [v1] n.nodes f
 links:∃f,qM TY w [v2] n.links f
 words:∃f,uC TY w [v3] n.words f
 past:∃f,aAq TY w [v4] n.past f
theorem jF.below {w w':World} {v1 v2 v3 v4:Value} {n:Nt} (h:jF w v1 v2 v3 v4 n) {B:Nat} (hb:Below B w w') (hB:w.heap.size<=B):jF w' v1 v2 v3 v4 n:=by
 obtain⟨⟨f1,h1⟩,⟨f2,h2⟩,⟨f3,h3⟩,f4,h4⟩:=h;exact⟨⟨f1,(aN cP _ _).below h1 hb hB⟩,⟨f2,(aN (aO _) _ _).below h2 hb hB⟩,⟨f3,(aN gD _ _).below h3 hb hB⟩,f4,(aN cA _ _).below h4 hb hB⟩
structure oC (n:Nt):Prop where
 nodes:n.nodes.length=5
 past:n.past.length=5
 rows:∀i:Nat,i<5->((dF n i).length:Int)=(aD n i).born+1
theorem aFL (w:World) {x1 x4:Option Addr} {k1 c1 k4 c4:Nat} {v2 v3:Value} {n:Nt} {V:SV} {e:En} (hn:jF w (.slice x1 k1 c1) v2 v3 (.slice x4 k4 c4) n) (hs:oC n) (he:RdS w V e.s):
  Calls prog 205 #[.agg #[.slice x1 k1 c1,v2,v3,.slice x4 k4 c4],.agg #[.int .i64 e.node,.int .i64 e.born,.int .i64 e.num,.slice V.xr V.nr V.cr,.slice V.xf V.nf V.cf,.slice V.xt V.nt V.ct,.int .i64 (e.s).lo,.int .i64 (e.s).al,.slice V.xk V.nk V.ck,.int .i64 (e.s).ka]] w fun r w'=>r=.returned (.bool (fC n e))/\Below w.heap.size w w':=by
 obtain⟨f1,n1⟩:=hn.nodes;obtain⟨f4,n4⟩:=hn.past;obtain rfl:k1=5:=(aK n1).1.trans hs.nodes;obtain rfl:k4=5:=(aK n4).1.trans hs.past;obtain⟨node,born,num,s⟩:=e;simp only at he ⊢
 have H0:=((M.start w).alloc #[.slice x1 5 c1,v2,v3,.slice x4 5 c4] 30).alloc #[.int .i64 node,.int .i64 born,.int .i64 num,.slice V.xr V.nr V.cr,.slice V.xf V.nf V.cf,.slice V.xt V.nt V.ct,.int .i64 s.lo,.int .i64 s.al,.slice V.xk V.nk V.ck,.int .i64 s.ka] 64;simp only[World.size_alloc]at H0
 have EB:Hid (fC n ⟨node,born,num,s⟩=(in6 node 0 4&&(in6 born 1 (aD n node).born&&(in6 num 0 (bZ n node born).length&&(okS (upS ((bZ n node born).take num.toNat))&&mE (upS ((bZ n node born).take num.toNat)) s))))):=hd_ rfl;have HS:=hd_ hs;have HE:=hd_ he;have N1:=hd_ n1;have N4:=hd_ n4;clear hn hs he n1 n4;go_enter func205,ntmps205;go_upto_region 1 with fail
 obtain⟨p1,hp1⟩:∃p,p=w.heap.size:=⟨_,rfl⟩
 obtain⟨p2,hp2⟩:∃p,p=w.heap.size+1:=⟨_,rfl⟩
 have HP:=hd_ hp1;rw[<-hp2, <-hp1]at H0;rw[<-hp2, <-hp1];clear hp1 hp2;generalize ((w.alloc (.cells #[.slice x1 5 c1,v2,v3,.slice x4 5 c4] 30)).alloc (.cells #[.int .i64 node,.int .i64 born,.int .i64 num,.slice V.xr V.nr V.cr,.slice V.xf V.nf V.cf,.slice V.xt V.nt V.ct,.int .i64 s.lo,.int .i64 s.al,.slice V.xk V.nk V.ck,.int .i64 s.ka] 64))=w1 at H0 ⊢;obtain⟨W,hW⟩:∃W,W=w1.drew:=⟨_,rfl⟩
 have H1:=H0.drew;rw[<-hW]at H1;have EW:=hd_ hW;have H:=hd_ H1;clear H0 H1 hW;obtain⟨d0,d1,d2,d3,d4,d5,d6,d7,d8,d9⟩:=H.out.cells10;obtain⟨a0,a1,a2,a3⟩:=H.out.p1.cells4
 by_cases hA:in6 node 0 4=true
 case neg=>
  have gA:in6 node 0 4=false:=by simpa using hA
  have F:=hd_ (show fC n ⟨node,born,num,s⟩=false by rw[EB.out,gA];rfl);clear hA;go_upto_region 1 with fail
  refine aC 99 (.tk 0 6 (.alt 6 (.tk 7 11 (.alt 18 (.tk 19 16 (.alt 35 (.tk 36 2 .done) .nomore)) .nomore)) .nomore)) (fun w'=>w'=W) kr_ kr_ (fun _ _ _ _ _ h=>h) EW.out.symm ?_;rw[<-EW.out]
  repeat ((first|(refine cX r_ r_ ?_;apply Exists.intro;refine⟨fun w' hw'=>?_,?_⟩;(· ((try dsimp only at hw');go_simp;(try with_reducible rfl))))|(refine cZ r_ r_ ?_));simp only[Act.put,List.getElem_toArray,List.getElem_cons_succ,pg3,pg4,pg5,pg6])
  refine aB r_ (fun K' hK=>?_);go_simp;refine (mF node 0 4 W).mono ?_;rintro e w' ⟨rfl,hw'⟩;rw[hw'];clear hw' w';refine hK _ _ (.inr rfl) ?_;clear hK K'
  try simp only[Act.put,List.getElem_toArray,List.getElem_cons_succ,pg3,pg4,pg5,pg6]
  repeat ((first|(refine cX r_ r_ ?_;apply Exists.intro;refine⟨fun w' hw'=>?_,?_⟩;(· ((try dsimp only at hw');go_simp;(try with_reducible rfl))))|(refine cZ r_ r_ ?_));simp only[Act.put,List.getElem_toArray,List.getElem_cons_succ,pg3,pg4,pg5,pg6])
  refine aB r_ (fun K' hK=>?_);go_simp;exact zAq
 have gA:=hd_ hA;obtain⟨iA,iB⟩:=cO.1 hA;clear hA;obtain⟨i,rfl⟩:∃i:Nat,node=i:=⟨node.toNat,by omega⟩
 have i5:i<5:=by omega
 clear iA iB;obtain⟨nd,hnd⟩:∃nd,n.nodes[i]? =some nd:=⟨_,List.getElem?_eq_getElem (by rw[HS.out.nodes];exact i5)⟩
 obtain⟨rs,hrs⟩:∃rs,n.past[i]? =some rs:=⟨_,List.getElem?_eq_getElem (by rw[HS.out.past];exact i5)⟩
 have eN:aD n (i:Int)=nd:=by unfold aD;rw[List.getD_eq_getElem?_getD,Int.toNat_natCast,hnd];rfl
 have eR:dF n (i:Int)=rs:=by unfold dF;rw[List.getD_eq_getElem?_getD,Int.toNat_natCast,hrs];rfl
 have eL:=HS.out.rows i i5;rw[eN,eR]at eL;have EN:=hd_ eN;have hWB:=H.out.below;rw[HP.out]at hWB;obtain⟨g1,xk,ck,fk,rfl,_,_,_,_,_,b0,_⟩:=gM ((aN cP _ _).below N1.out hWB lr_) hnd;obtain⟨g4,xr,cr,fr,rfl,_,_,rr,_,_,b1⟩:=mS ((aN cA _ _).below N4.out hWB lr_) hrs;have ER:=hd_ eR;have HL:=hd_ eL;clear hnd hrs eN eR eL hWB;have i0:(0:Int)<=(i:Int):=by omega
 have i5':(i:Int)<5:=by omega
 by_cases hB:in6 born 1 nd.born=true
 case neg=>
  have gB:in6 born 1 nd.born=false:=by simpa using hB
  have F:=hd_ (show fC n ⟨(i:Int),born,num,s⟩=false by rw[EB.out,EN.out,gA.out,gB];rfl);have gA:=gA.out;clear hB;go_upto_region 1 with fail
  refine aC 99 (.tk 0 6 (.alt 6 (.tk 7 11 (.alt 18 (.tk 19 16 (.alt 35 (.tk 36 2 .done) .nomore)) .nomore)) .nomore)) (fun w'=>w'=W) kr_ kr_ (fun _ _ _ _ _ h=>h) EW.out.symm ?_;rw[<-EW.out]
  repeat ((first|(refine cX r_ r_ ?_;apply Exists.intro;refine⟨fun w' hw'=>?_,?_⟩;(· ((try dsimp only at hw');go_simp;(try with_reducible rfl))))|(refine cZ r_ r_ ?_));simp only[Act.put,List.getElem_toArray,List.getElem_cons_succ,pg3,pg4,pg5,pg6])
  refine aB r_ (fun K' hK=>?_);go_simp;refine (mF (i:Int) 0 4 W).mono ?_;rintro e w' ⟨rfl,hw'⟩;rw[hw'];clear hw' w';refine hK _ _ (.inr rfl) ?_;clear hK K'
  try simp only[Act.put,List.getElem_toArray,List.getElem_cons_succ,pg3,pg4,pg5,pg6]
  repeat ((first|(refine cX r_ r_ ?_;apply Exists.intro;refine⟨fun w' hw'=>?_,?_⟩;(· ((try dsimp only at hw');go_simp;(try with_reducible rfl))))|(refine cZ r_ r_ ?_));simp only[Act.put,List.getElem_toArray,List.getElem_cons_succ,pg3,pg4,pg5,pg6])
  refine aB r_ (fun K' hK=>?_);go_simp;refine (mF born 1 nd.born W).mono ?_;rintro e w' ⟨rfl,hw'⟩;rw[hw'];clear hw' w';exact zAq
 have gB:=hd_ hB;obtain⟨jA,jB⟩:=cO.1 hB;clear hB;obtain⟨j,rfl⟩:∃j:Nat,born=j:=⟨born.toNat,by omega⟩
 have jr:j<rs.length:=by have:=HL.out;omega
 have j0:(0:Int)<=(j:Int):=by omega
 have j1:(j:Int)<(rs.length:Int):=by omega
 clear jA jB;obtain⟨lp,hlp⟩:∃lp,rs[j]? =some lp:=⟨_,List.getElem?_eq_getElem jr⟩
 have EP:Hid (bZ n (i:Int) (j:Int)=lp):=hd_ (by unfold bZ;rw[ER.out,List.getD_eq_getElem?_getD,Int.toNat_natCast,hlp];rfl);obtain⟨g5,xl,cl,fl,rfl,_,_,rl,lc,lm,b2⟩:=mL rr hlp;have RL:=hd_ rl;clear hlp rr rl jr
 by_cases hC:in6 num 0 (lp.length:Int)=true
 case neg=>
  have gC:in6 num 0 (lp.length:Int)=false:=by simpa using hC
  have F:=hd_ (show fC n ⟨(i:Int),(j:Int),num,s⟩=false by rw[EB.out,EN.out,EP.out,gA.out,gB.out,gC];rfl);have gA:=gA.out;have gB:=gB.out;clear hC;go_upto_region 1 with fail
  refine aC 99 (.tk 0 6 (.alt 6 (.tk 7 11 (.alt 18 (.tk 19 16 (.alt 35 (.tk 36 2 .done) .nomore)) .nomore)) .nomore)) (fun w'=>w'=W) kr_ kr_ (fun _ _ _ _ _ h=>h) EW.out.symm ?_;rw[<-EW.out]
  repeat ((first|(refine cX r_ r_ ?_;apply Exists.intro;refine⟨fun w' hw'=>?_,?_⟩;(· ((try dsimp only at hw');go_simp;(try with_reducible rfl))))|(refine cZ r_ r_ ?_));simp only[Act.put,List.getElem_toArray,List.getElem_cons_succ,pg3,pg4,pg5,pg6])
  refine aB r_ (fun K' hK=>?_);go_simp;refine (mF (i:Int) 0 4 W).mono ?_;rintro e w' ⟨rfl,hw'⟩;rw[hw'];clear hw' w';refine hK _ _ (.inr rfl) ?_;clear hK K'
  try simp only[Act.put,List.getElem_toArray,List.getElem_cons_succ,pg3,pg4,pg5,pg6]
  repeat ((first|(refine cX r_ r_ ?_;apply Exists.intro;refine⟨fun w' hw'=>?_,?_⟩;(· ((try dsimp only at hw');go_simp;(try with_reducible rfl))))|(refine cZ r_ r_ ?_));simp only[Act.put,List.getElem_toArray,List.getElem_cons_succ,pg3,pg4,pg5,pg6])
  refine aB r_ (fun K' hK=>?_);go_simp;refine (mF (j:Int) 1 nd.born W).mono ?_;rintro e w' ⟨rfl,hw'⟩;rw[hw'];clear hw' w';refine hK _ _ (.inr rfl) ?_;clear hK K'
  try simp only[Act.put,List.getElem_toArray,List.getElem_cons_succ,pg3,pg4,pg5,pg6]
  repeat ((first|(refine cX r_ r_ ?_;apply Exists.intro;refine⟨fun w' hw'=>?_,?_⟩;(· ((try dsimp only at hw');go_simp;(try with_reducible rfl))))|(refine cZ r_ r_ ?_));simp only[Act.put,List.getElem_toArray,List.getElem_cons_succ,pg3,pg4,pg5,pg6])
  refine aB r_ (fun K' hK=>?_);go_simp;refine (mF num 0 (lp.length:Int) W).mono ?_;rintro e w' ⟨rfl,hw'⟩;rw[hw'];clear hw' w';exact zu
 have gC:=hd_ hC;obtain⟨qA,qB⟩:=cO.1 hC;obtain⟨q,rfl⟩:∃q:Nat,num=q:=⟨num.toNat,by omega⟩
 have FB:Hid (fC n ⟨(i:Int),(j:Int),(q:Int),s⟩=(okS (upS (lp.take q))&&mE (upS (lp.take q)) s)):=hd_ (by rw[EB.out,EN.out,EP.out,gA.out,gB.out,gC.out,Int.toNat_natCast];rfl);have hA:=gA.out;have hB:=gB.out;clear qA;go_upto_region 1 with fail
 refine aC 99 (.tk 0 6 (.alt 6 (.tk 7 11 (.alt 18 (.tk 19 16 (.alt 35 (.tk 36 2 .done) .nomore)) .nomore)) .nomore)) (fun w'=>w'=W) kr_ kr_ (fun _ _ _ _ _ h=>h) EW.out.symm ?_;rw[<-EW.out]
 repeat ((first|(refine cX r_ r_ ?_;apply Exists.intro;refine⟨fun w' hw'=>?_,?_⟩;(· ((try dsimp only at hw');go_simp;(try with_reducible rfl))))|(refine cZ r_ r_ ?_));simp only[Act.put,List.getElem_toArray,List.getElem_cons_succ,pg3,pg4,pg5,pg6])
 refine aB r_ (fun K' hK=>?_);go_simp;refine (mF (i:Int) 0 4 W).mono ?_;rintro e w' ⟨rfl,hw'⟩;rw[hw'];clear hw' w';refine hK _ _ (.inr rfl) ?_;clear hK K'
 try simp only[Act.put,List.getElem_toArray,List.getElem_cons_succ,pg3,pg4,pg5,pg6]
 repeat ((first|(refine cX r_ r_ ?_;apply Exists.intro;refine⟨fun w' hw'=>?_,?_⟩;(· ((try dsimp only at hw');go_simp;(try with_reducible rfl))))|(refine cZ r_ r_ ?_));simp only[Act.put,List.getElem_toArray,List.getElem_cons_succ,pg3,pg4,pg5,pg6])
 refine aB r_ (fun K' hK=>?_);go_simp;refine (mF (j:Int) 1 nd.born W).mono ?_;rintro e w' ⟨rfl,hw'⟩;rw[hw'];clear hw' w';refine hK _ _ (.inr rfl) ?_;clear hK K'
 try simp only[Act.put,List.getElem_toArray,List.getElem_cons_succ,pg3,pg4,pg5,pg6]
 repeat ((first|(refine cX r_ r_ ?_;apply Exists.intro;refine⟨fun w' hw'=>?_,?_⟩;(· ((try dsimp only at hw');go_simp;(try with_reducible rfl))))|(refine cZ r_ r_ ?_));simp only[Act.put,List.getElem_toArray,List.getElem_cons_succ,pg3,pg4,pg5,pg6])
 refine aB r_ (fun K' hK=>?_);go_simp;refine (mF (q:Int) 0 (lp.length:Int) W).mono ?_;rintro e w' ⟨rfl,hw'⟩;rw[hw'];clear hw' w';refine hK _ _ (.inr rfl) ?_;clear hK K'
 try simp only[Act.put,List.getElem_toArray,List.getElem_cons_succ,pg3,pg4,pg5,pg6]
 repeat ((first|(refine cX r_ r_ ?_;apply Exists.intro;refine⟨fun w' hw'=>?_,?_⟩;(· ((try dsimp only at hw');go_simp;(try with_reducible rfl))))|(refine cZ r_ r_ ?_));simp only[Act.put,List.getElem_toArray,List.getElem_cons_succ,pg3,pg4,pg5,pg6])
 refine aG ?_;clear hA hB hC b0;have hb2:(q:Int)<=(cl:Int):=by omega
 have q0:(0:Int)<=(q:Int):=by omega
 have IL:Hid (cW W (.slice xl q cl) (lp.take q)):=hd_ (by
    obtain⟨v,ev,ho,_⟩:=iT RL.out
    cases ev
    exact aK4 ho (by omega))
 have qn:(q:Int).toNat=q:=Int.toNat_natCast q;go_upto_region 3 with fail
 have S0:Hid (∀w',Below W.heap.size W w'->w'.cell? ⟨p1,3,Option.none⟩=some (.slice (some ⟨g4,0,Option.none⟩) 5 c4)/\w'.cell? ⟨p2,0,Option.none⟩=some (.int .i64 (i:Int))/\w'.cell? ⟨p2,1,Option.none⟩=some (.int .i64 (j:Int))/\w'.cell? ⟨p2,2,Option.none⟩=some (.int .i64 (q:Int))/\w'.cell? ⟨g4,i,Option.none⟩=some (.slice (some ⟨g5,0,Option.none⟩) rs.length cr)/\w'.cell? ⟨g5,j,Option.none⟩=some (.slice xl lp.length cl)):=hd_ fun w' hb=>by
  have k:∀(g o:Nat) (v:Value),W.cell? ⟨g,o,Option.none⟩=some v->w'.cell? ⟨g,o,Option.none⟩=some v:=fun g o v hc=>(hb.cell (p:=⟨g,o,Option.none⟩) (World.block_lt_of_cell? _ _ hc)).trans hc
  exact⟨k _ _ _ a3,k _ _ _ d0,k _ _ _ d1,k _ _ _ d2,k _ _ _ b1,k _ _ _ b2⟩
 clear a0 a1 a2 a3 b1 b2 d0 d1 d2 d3 d4 d5 d6 d7 d8 d9
 refine aC 19 (.tk 0 13 (.alt 13 (.tk 14 3 (.alt 17 (.alt 18 (.alt 19 .done .nomore) .nomore) .nomore)) (.alt 17 (.alt 13 (.tk 14 3 (.alt 18 (.alt 19 .done .nomore) .nomore)) .nomore) .nomore))) (fun w'=>w'.cell? ⟨p1,3,Option.none⟩=some (.slice (some ⟨g4,0,Option.none⟩) 5 c4)/\w'.cell? ⟨p2,0,Option.none⟩=some (.int .i64 (i:Int))/\w'.cell? ⟨p2,1,Option.none⟩=some (.int .i64 (j:Int))/\w'.cell? ⟨p2,2,Option.none⟩=some (.int .i64 (q:Int))/\w'.cell? ⟨g4,i,Option.none⟩=some (.slice (some ⟨g5,0,Option.none⟩) rs.length cr)/\w'.cell? ⟨g5,j,Option.none⟩=some (.slice xl lp.length cl)) kr_ kr_ (fun _ _ _ _ _ h=>h) (S0.out _ (Below.drew (Below.refl _ _))) ?_
 repeat ((first|(refine cX r_ r_ ?_;apply Exists.intro;refine⟨fun w' hw'=>?_,?_⟩;(· ((try dsimp only at hw');go_simp;(try with_reducible rfl))))|(refine cZ r_ r_ ?_));simp only[Act.put,List.getElem_toArray,List.getElem_cons_succ,pg3,pg4,pg5,pg6])
 have H3:=hd_ H.out.drew;have BW:Hid (Below W.heap.size W W.drew):=hd_ (Below.drew (Below.refl _ _));have I3:Hid (cW W.drew (.slice xl q cl) (lp.take q)):=hd_ (IL.out.below BW.out lr_);clear H IL;have hsz:W.heap.size=W.drew.heap.size:=rfl;have HSZ:=hd_ hsz;clear hsz;generalize W.drew=W3 at H3 I3 BW HSZ ⊢
 have KO:=hd_ (fun w' (hb:Below W3.heap.size W3 w')=>aGO w' xl q cl (lp.take q) (I3.out.below hb lr_));generalize upS (lp.take q)=sm at KO FB;obtain⟨ok,hok⟩:∃ok,ok=okS sm:=⟨_,rfl⟩
 rw[<-hok]at KO FB;clear hok;clear I3;refine aEB r_ (fun K' hK=>?_) ?_
 ·go_simp
  refine (KO.out _ (Below.refl _ _)).mono ?_;rintro e w4 ⟨U,rfl,ho,hb⟩;have N4:=(M.start W3).later hb;refine hK _ _ (.inr (S0.out _ (BW.out.trans (by rw[HSZ.out];exact N4.below)))) ?_;clear hK K'
  try simp only[Act.put,List.getElem_toArray,List.getElem_cons_succ,pg3,pg4,pg5,pg6]
  repeat ((first|(refine cX r_ r_ ?_;apply Exists.intro;refine⟨fun w' hw'=>?_,?_⟩;(· ((try dsimp only at hw');go_simp;(try with_reducible rfl))))|(refine cZ r_ r_ ?_));simp only[Act.put,List.getElem_toArray,List.getElem_cons_succ,pg3,pg4,pg5,pg6])
  have N5:=N4.alloc #[.slice none 0 0,.slice none 0 0,.slice none 0 0,.int .i64 0,.int .i64 0,.slice none 0 0,.int .i64 0] 46;refine aB r_ (fun K' hK=>?_);go_simp;refine hK _ _ (.inr (S0.out _ (BW.out.trans (by rw[HSZ.out];exact N5.below)))) ?_;clear hK K'
  try simp only[Act.put,List.getElem_toArray,List.getElem_cons_succ,pg3,pg4,pg5,pg6]
  have N6:=hd_ (N4.alloc #[.slice U.xr U.nr U.cr,.slice U.xf U.nf U.cf,.slice U.xt U.nt U.ct,.int .i64 sm.lo,.int .i64 sm.al,.slice U.xk U.nk U.ck,.int .i64 sm.ka] 46);have R6:=hd_ (ho.rd.below ((M.start w4).alloc #[.slice U.xr U.nr U.cr,.slice U.xf U.nf U.cf,.slice U.xt U.nt U.ct,.int .i64 sm.lo,.int .i64 sm.al,.slice U.xk U.nk U.ck,.int .i64 sm.ka] 46).below lr_)
  have H6:=hd_ (H3.out.later N6.out.below);clear N4 ho hb;refine aB r_ (fun K' hK=>?_);go_simp;refine hK _ _ (.inr (S0.out _ (BW.out.trans (by rw[HSZ.out];exact N6.out.below)))) ?_;clear hK K'
  try simp only[Act.put,List.getElem_toArray,List.getElem_cons_succ,pg3,pg4,pg5,pg6]
  clear N5 S0 BW KO;exact zv
 ·refine aB r_ (fun K' hK=>?_)
  go_simp;have N4:=(M.start W3).alloc #[.slice none 0 0,.slice none 0 0,.slice none 0 0,.int .i64 0,.int .i64 0,.slice none 0 0,.int .i64 0] 46;refine hK _ _ (.inr (S0.out _ (BW.out.trans (by rw[HSZ.out];exact N4.below)))) ?_;clear hK K'
  try simp only[Act.put,List.getElem_toArray,List.getElem_cons_succ,pg3,pg4,pg5,pg6]
  refine aB r_ (fun K' hK=>?_);go_simp;refine (KO.out _ N4.below).mono ?_;rintro e w5 ⟨U,rfl,ho,hb⟩;have N5s:=N4.sum hb ho;have N5:=N5s.p1;refine hK _ _ (.inr (S0.out _ (BW.out.trans (by rw[HSZ.out];exact N5.below)))) ?_;clear hK K'
  try simp only[Act.put,List.getElem_toArray,List.getElem_cons_succ,pg3,pg4,pg5,pg6]
  repeat ((first|(refine cX r_ r_ ?_;apply Exists.intro;refine⟨fun w' hw'=>?_,?_⟩;(· ((try dsimp only at hw');go_simp;(try with_reducible rfl))))|(refine cZ r_ r_ ?_));simp only[Act.put,List.getElem_toArray,List.getElem_cons_succ,pg3,pg4,pg5,pg6])
  obtain⟨e0,e1,e2,e3,e4,e5,e6⟩:=N5.cells7;have ef:=N5.free;have N6:=hd_ (N5.set7 (.slice U.xr U.nr U.cr) (.slice U.xf U.nf U.cf) (.slice U.xt U.nt U.ct) (.int .i64 sm.lo) (.int .i64 sm.al) (.slice U.xk U.nk U.ck) (.int .i64 sm.ka));have H6:=hd_ (H3.out.later N6.out.below);have R6:Hid (RdS _ U sm):=hd_ (by
      obtain⟨f6,h6,_⟩:=N6.out.p1.first
      obtain⟨U',eU,rU⟩:=vB h6
      cases aCR eU
      exact rU)
  clear ho hb N4 N5s;refine aB r_ (fun K' hK=>?_);go_simp;refine hK _ _ (.inr (S0.out _ (BW.out.trans (by rw[HSZ.out];exact N6.out.below)))) ?_;clear hK K'
  try simp only[Act.put,List.getElem_toArray,List.getElem_cons_succ,pg3,pg4,pg5,pg6]
  clear e0 e1 e2 e3 e4 e5 e6 ef N5 S0 BW KO;exact zv
end N
end Go.Proofs.YtcblbdpdbggkbaaGreat
namespace Go.Proofs.YtcblbdpdbggkbaaGreat.N
open _root_.Go.Proofs.Tryz
open Go.RowKit Go.Sort
theorem aLL {α:Type} {l:List α} {k:Nat} {a:α} (h:l[k]? =some a):l.drop k=a::l.drop (k+1):=by
 obtain⟨hk,rfl⟩:=List.getElem?_eq_some_iff.1 h;exact List.drop_eq_getElem_cons hk
theorem aDA {α:Type} {l:List α} {k:Nat} {a:α} (h:l[k]? =some a):l.take (k+1)=l.take k++[a]:=by
 rw[List.take_add_one,h];rfl
theorem aHA {α β:Type} (f:β->α->β) (b:β) {l:List α} {k:Nat} {a:α} (h:l[k]? =some a):(l.take (k+1)).foldl f b=f ((l.take k).foldl f b) a:=by
 rw[aDA h,List.foldl_append];rfl
theorem aHD {es:List En} {i:Int} {k:Nat} {e:En} (no:∀(j:Nat) (x:En),j<k->es[j]? =some x->x.node≠i) (h:es[k]? =some e) (q:e.node=i):mA es i=some e:=by
 rw[<-List.take_append_drop k es,aLL h];unfold mA;rw[List.find?_append];have n:(es.take k).find? (fun x=>x.node==i)=none:=by
  rw[List.find?_eq_none];intro x hx;obtain⟨j,hj,rfl⟩:=List.getElem_of_mem hx;rw[List.length_take]at hj;rw[List.getElem_take];have:=no j _ (by omega) (List.getElem?_eq_getElem (by omega));simpa using this
 rw[n,List.find?_cons];simp[q]
theorem aHj {es:List En} {i:Int} (no:∀(j:Nat) (x:En),es[j]? =some x->x.node≠i):mA es i=none:=aHW fun x hx=>by
 obtain⟨j,hj,rfl⟩:=List.getElem_of_mem hx;exact no j _ (List.getElem?_eq_getElem hj)
theorem xE {n:Nt} {es:List En}:eG n es=true↔∀(i:Nat) (e:En),es[i]? =some e->fC n e=true/\(0<i->∀d:En,es[i - 1]? =some d->d.node<e.node):=by
 rw[lI]
 constructor
 ·intro h i e hi
  refine⟨qH.2 (h.all e (List.mem_of_getElem? hi)),fun i0 d hd=>?_⟩;obtain⟨a,rfl⟩:=List.getElem?_eq_some_iff.1 hi;obtain⟨b,rfl⟩:=List.getElem?_eq_some_iff.1 hd;exact List.pairwise_iff_getElem.1 h.asc (i - 1) i b a (by omega)
 ·intro h
  refine⟨fun e he=>?_,?_⟩
  ·obtain⟨i,hi⟩:=List.getElem?_of_mem he
   exact qH.1 (h i e hi).1
  ·refine List.pairwise_iff_getElem.2 fun i j hi hj ij=>?_
   have key:∀k,i<k->(hk:k<es.length)->es[i].node<es[k].node:=by
    intro k
    induction k with
    |zero=>intro c;omega
    |succ k ih=>
     intro c hk;have s:=(h (k+1) _ (List.getElem?_eq_getElem hk)).2 (by omega) es[k] (List.getElem?_eq_getElem (by omega))
     by_cases q:i=k
     ·subst q;exact s
     ·have:=ih (by omega) (by omega);omega
   exact key j ij hj
theorem nC {n:Nt} {es:List En} {i:Nat} {e:En} (hi:es[i]? =some e) (h:fC n e=false\/(0<i/\∃d:En,es[i - 1]? =some d/\e.node<=d.node)):eG n es=false:=by
 rw[Bool.eq_false_iff];intro c;obtain⟨c1,c2⟩:=xE.1 c i e hi;rcases h with h|⟨i0,d,hd,l⟩
 ·rw[h]at c1;cases c1
 ·have:=c2 i0 d hd;omega
theorem vI {α:Type} {p:α->Bool} {l:List α}:l.all p=true↔∀(i:Nat) (a:α),l[i]? =some a->p a=true:=by
 rw[List.all_eq_true];exact⟨fun h i a hi=>h a (List.mem_of_getElem? hi),fun h a ha=>by
    obtain⟨i,hi⟩:=List.getElem?_of_mem ha
    exact h i a hi⟩
theorem lM {α:Type} {p:α->Bool} {l:List α} {i:Nat} {a:α} (hi:l[i]? =some a) (h:p a=false):l.all p=false:=by
 rw[Bool.eq_false_iff];intro c;rw[vI.1 c i a hi]at h;cases h
end Go.Proofs.YtcblbdpdbggkbaaGreat.N
namespace Go.Proofs.YtcblbdpdbggkbaaGreat
open _root_.Go.Proofs.Tryz
open Go.RowKit Go.Sort
namespace N
theorem tU {w:World} {V:SV} {s:Sm} {f:List Nat} (h:qC w (cS V s) s f):RdS w V s:=by
 obtain⟨V',e,r⟩:=vB h;cases aCR e;exact r
abbrev aBw (V:SV) (e:En):Value:=.agg #[iv e.node,iv e.born,iv e.num,.slice V.xr V.nr V.cr,.slice V.xf V.nf V.cf,.slice V.xt V.nt V.ct,.int .i64 (e.s).lo,.int .i64 (e.s).al,.slice V.xk V.nk V.ck,.int .i64 (e.s).ka]
abbrev aCG:Value:=.agg #[iv 0,iv 0,iv 0,zn,zn,zn,iv 0,iv 0,zn,iv 0]
theorem aKn (w:World) {xk:Option Addr} {k ck:Nat} {es:List En} {f:List Nat} (h:fU TY w [.slice xk k ck] es f) (i b0 b1 b2 b3:Int):
  Calls prog 159 #[.agg #[iv b0,.slice xk k ck,iv b1,iv b2,iv b3],iv i] w fun r w'=>(∃u,r=.returned u/\((∃e V,mA es i=some e/\RdS w V e.s/\u=.tuple #[aBw V e,.bool true])\/(mA es i=none/\u=.tuple #[aCG,.bool false])))/\Below w.heap.size w w':=by
 obtain rfl:k=es.length:=(aK h).1;obtain⟨_,_,e1,q1,q2⟩:=aP h;have hm:es.length<=maxLen:=Nat.le_trans q1 q2;unfold maxLen at hm;clear e1 q1 q2;have H1:=hd_ h;clear h;have H0:=((M.start w).alloc #[iv b0,.slice xk es.length ck,iv b1,iv b2,iv b3] 55).alloc #[iv 0,iv 0,iv 0,zn,zn,zn,iv 0,iv 0,zn,iv 0] 64;simp only[World.size_alloc]at H0;go_enter func159,ntmps159;go_wp2
 obtain⟨p1,hp1⟩:=nm_ w.heap.size;obtain⟨p2,hp2⟩:=nm_ (w.heap.size+1);have HP:=hd_ hp1;rw[<-hp2, <-hp1]at H0;rw[<-hp2, <-hp1];clear hp1 hp2;generalize ((w.alloc (.cells #[iv b0,.slice xk es.length ck,iv b1,iv b2,iv b3] 55)).alloc (.cells #[iv 0,iv 0,iv 0,zn,zn,zn,iv 0,iv 0,zn,iv 0] 64))=w1 at H0 ⊢;have H:=hd_ H0;clear H0
 go_loopw [6] (fun z wr=>∃j:Nat,j<=es.length/\z=.int .i64 j/\(∀(a:Nat) (x:En),a<j->es[a]? =some x->x.node≠i)/\wr=w1) (fun z _=>es.length - (intOf z).toNat)
 case atStart=>exact⟨0,Nat.zero_le _,rfl,fun a x h=>absurd h (Nat.not_lt_zero _),rfl⟩
 case round=>
  obtain⟨j,hj,rfl,hno,rfl⟩:=hrel;have NO:=hd_ hno;clear hno;have hWB:=H.out.below;rw[HP.out]at hWB;obtain⟨d0,d1,d2,d3,d4,d5,d6,d7,d8,d9⟩:=H.out.cells10;obtain⟨a0,a1,a2,a3,a4⟩:=H.out.p1.cells5
  by_cases hlt:j<es.length
  ·obtain⟨x,hx⟩:∃x,es[j]? =some x:=⟨_,List.getElem?_eq_getElem hlt⟩
   obtain⟨g,V,fe,rfl,_,_,sr,ca0,ca1,ca2,cas⟩:=jP H1.out hx;have RV:=hd_ (tU sr);replace ca0:=cell_later hWB ca0;replace ca1:=cell_later hWB ca1;replace ca2:=cell_later hWB ca2;have ca3:=cell_later hWB (cas 0 _ rfl);have ca4:=cell_later hWB (cas 1 _ rfl);have ca5:=cell_later hWB (cas 2 _ rfl);have ca6:=cell_later hWB (cas 3 _ rfl);have ca7:=cell_later hWB (cas 4 _ rfl)
   have ca8:=cell_later hWB (cas 5 _ rfl);have ca9:=cell_later hWB (cas 6 _ rfl);clear sr;clear cas hWB;have k0:(0:Int)<=(j:Int):=o_;have k1:(j:Int)<(es.length:Int):=o_
   by_cases eq:x.node=i
   ·have g0:(x.node==i)=true:=by simpa using eq
    have F:=hd_ (aHD NO.out hx eq);have ef:=H.out.free;have N:=hd_ (H.out.set10 (iv x.node) (iv x.born) (iv x.num) (.slice V.xr V.nr V.cr) (.slice V.xf V.nf V.cf) (.slice V.xt V.nt V.ct) (iv x.s.lo) (iv x.s.al) (.slice V.xk V.nk V.ck) (iv x.s.ka));clear eq NO hx;go_wp2;obtain⟨e0,e1,e2,e3,e4,e5,e6,e7,e8,e9⟩:=N.out.cells10
    exact bodyPost_ret (v:=.tuple #[aBw V x,.bool true]) (by simp[results,results159,go_sem,e0,e1,e2,e3,e4,e5,e6,e7,e8,e9]) rfl ⟨⟨_,rfl,.inl ⟨x,V,F.out,RV.out,rfl⟩⟩,by have:=N.out.below;rwa[HP.out]at this⟩
   ·have g0:(x.node==i)=false:=by simpa using eq
    have NO2:Hid (∀(a:Nat) (y:En),a<j+1->es[a]? =some y->y.node≠i):=hd_ fun a y ha hy=>by
     by_cases q:a<j
     ·exact NO.out a y q hy
     ·obtain rfl:a=j:=o_
      rw[hx]at hy;cases hy;exact eq
    clear eq NO hx;go_wp2;exact zBd
  ·have F:=hd_ (aHj (es:=es) (i:=i) fun a x hx=>NO.out a x (by have:=(List.getElem?_eq_some_iff.1 hx).1;omega) hx)
   have ef:=H.out.free;have N:=hd_ (H.out.set10 (iv 0) (iv 0) (iv 0) zn zn zn (iv 0) (iv 0) zn (iv 0));have g:decide (j<es.length)=false:=by simpa using hlt
   clear NO hWB;go_wp2;obtain⟨e0,e1,e2,e3,e4,e5,e6,e7,e8,e9⟩:=N.out.cells10;exact bodyPost_ret (v:=.tuple #[aCG,.bool false]) (by simp[results,results159,go_sem,e0,e1,e2,e3,e4,e5,e6,e7,e8,e9]) rfl ⟨⟨_,rfl,.inr ⟨F.out,rfl⟩⟩,by have:=N.out.below;rwa[HP.out]at this⟩
end N
end Go.Proofs.YtcblbdpdbggkbaaGreat
namespace Go.Proofs.YtcblbdpdbggkbaaGreat
open _root_.Go.Proofs.Tryz
open Go.RowKit Go.Sort
section
variable {α:Type} {A:Rep α} {e:TypeId} {size:Nat} {w w' w0:World} {B k:Nat} {l:List Ch} {xs:List α} {x:α} {v:Value} {c:Nat->List Value}
theorem M.plus {d:Ch} {l':List Ch} (h:M B w0 w l) (k:M w.heap.size w w' (d::l')):M B w0 w' (d::l):=by
 obtain⟨f,hf,nd,lo⟩:=k.first;exact h.add k.below hf nd lo
end
namespace N
variable {w w' w0:World} {B k:Nat} {l:List Ch} {v:Value} {es:List En} {x:En} {c:Nat->List Value}
def aNf (V:SV) (e:En):Ch:=aX.ch [iv e.node,iv e.born,iv e.num,.slice V.xr V.nr V.cr,.slice V.xf V.nf V.cf,.slice V.xt V.nt V.ct,.int .i64 (e.s).lo,.int .i64 (e.s).al,.slice V.xk V.nk V.ck,.int .i64 (e.s).ka] e
end N
end Go.Proofs.YtcblbdpdbggkbaaGreat
namespace Go.Proofs.YtcblbdpdbggkbaaGreat
open _root_.Go.Proofs.Tryz
open Go.RowKit Go.Sort Go.Deep
def nO:Array Value->Nat->List Value->Array Value
 |xs,_,[]=>xs
 |xs,o,v::r=>nO (xs.setIfInBounds o v) (o+1) r
def aGk:List Value->Nat->List Value->List Value
 |xs,_,[]=>xs
 |xs,o,v::r=>aGk (xs.set o v) (o+1) r
section
variable {w w0:World} {B b:Nat} {l:List Ch} {t:TypeId} {xs:Array Value}
theorem M.setCells:∀(vs:List Value) {xs:Array Value} {o:Nat} {w:World},M B w0 w (bO b t xs::l)->M B w0 (w.setCells b o vs) (bO b t (nO xs o vs)::l)
 | [],_,_,_,h=>h
 |v::r,_,_,_,h=>M.setCells r (h.set v)
theorem M.there (h:M B w0 w (bO b t xs::l)) {o n:Nat} (hl:o+n<=xs.size):w.there b o n:=fun j hj=>
 ⟨by rw[h.cell (i:=o+j) (Array.getElem?_eq_getElem o_)];rfl,h.free _⟩
section
variable {P:Program} {op:Oper} {a:Act} {K:Act->World->Prop} {Q:Exit->Act->World->Prop} {ty:TypeId} {x y:Operand} {o:Nat} {vs:List Value} {ys:Array Value}
theorem aBZ (h:M B w0 w (bO b t xs::l)) (ho:op.op=.store ty x y) (hx:a.eval x=.pointer (some ⟨b,o,none⟩)) (hy:a.eval y=.agg vs.toArray) (hi:(P.info? ty).map (·.size)=some vs.length) (h1:(vs.all (·.oneCell'))=true) (hl:o+vs.length<=xs.size) (he:nO xs o vs=ys)
  (k:∀w',M B w0 w' (bO b t ys::l)->K (a.put op.dst undef) w'):op.wp P a w K Q:=
 wp_store_mid ty x y ho b o vs.toArray hx hy (by rw[List.size_toArray];exact h.there hl) (by rw[List.size_toArray];exact hi) (by rw[List.all_toArray];exact h1) (k _ (by rw[<-he];exact h.setCells vs))
theorem bE {ops:Array Oper} {rest:List Oper} (h:M B w0 w (bO b t xs::l)) (hgd:op.guard=none) (ho:op.op=.store ty x y) (hx:a.eval x=.pointer (some ⟨b,o,none⟩)) (hy:a.eval y=.agg vs.toArray) (hi:(P.info? ty).map (·.size)=some vs.length) (h1:(vs.all (·.oneCell'))=true) (hl:o+vs.length<=xs.size) (he:nO xs o vs=ys)
  (k:∀w',M B w0 w' (bO b t ys::l)->wpList P ops Q rest (a.put op.dst undef) w'):wpList P ops Q (op::rest) a w:=
 wpList_plain hgd fun _ hK=>aBZ h ho hx hy hi h1 hl he fun w' h'=>hK _ _ (k w' h')
theorem yM {ops:Array Oper} {E:Prop} (h:M B w0 w (bO b t xs::l)) (hgd:op.guard=none) (ho:op.op=.store ty x y) (hx:a.eval x=.pointer (some ⟨b,o,none⟩)) (hy:a.eval y=.agg vs.toArray) (hi:(P.info? ty).map (·.size)=some vs.length) (h1:(vs.all (·.oneCell'))=true) (hl:o+vs.length<=xs.size) (he:nO xs o vs=ys)
  (k:∀w',M B w0 w' (bO b t ys::l)->K (a.put op.dst undef) w'):if Region.wanted op (yielded ops a.tmps)=true then Oper.wp P op a w K Q else E:=by
 rw[if_pos (by simp[Region.wanted,hgd])];exact aBZ h ho hx hy hi h1 hl he k
end
section
variable {α:Type} {A:Rep α} {FA:A.Frame} {e:TypeId} {size i g n cap:Nat} {zs:List α}
theorem M.hsetCells (hi:i<zs.length):∀(vs:List Value) {ci:List Value} {j:Nat} {w:World},j+vs.length<=size->M B w0 w (kA FA e size i (.slice (some ⟨g,0,none⟩) n cap) zs ci::l)->M B w0 (w.setCells g (i * size+j) vs) (kA FA e size i (.slice (some ⟨g,0,none⟩) n cap) zs (aGk ci j vs)::l)
 | [],_,_,_,_,h=>h
 |v::r,ci,j,w,hl,h=>by
  rw[List.length_cons]at hl;have:=M.hsetCells hi r (j:=j+1) o_ (h.hset hi (j:=j) o_ v);rw[World.setCells];exact this
theorem M.hthere {ci:List Value} (h:M B w0 w (kA FA e size i (.slice (some ⟨g,0,none⟩) n cap) zs ci::l)) (hi:i<zs.length) (hc:ci.length=size) {j m:Nat} (hl:j+m<=size):w.there g (i * size+j) m:=fun k hk=>
 ⟨by rw[Nat.add_assoc,h.hcell hi (j:=j+k) (List.getElem?_eq_getElem o_)];rfl,h.hfree _⟩
variable {P:Program} {op:Oper} {a:Act} {K:Act->World->Prop} {Q:Exit->Act->World->Prop} {ty:TypeId} {x y:Operand} {o j:Nat} {vs ci ci':List Value}
theorem aIa (h:M B w0 w (kA FA e size i (.slice (some ⟨g,0,none⟩) n cap) zs ci::l)) (hi0:i<zs.length) (hc:ci.length=size) (ho:op.op=.store ty x y) (hx:a.eval x=.pointer (some ⟨g,o,none⟩)) (hj:o=i * size+j) (hy:a.eval y=.agg vs.toArray) (hi:(P.info? ty).map (·.size)=some vs.length) (h1:(vs.all (·.oneCell'))=true) (hl:j+vs.length<=size) (he:aGk ci j vs=ci')
  (k:∀w',M B w0 w' (kA FA e size i (.slice (some ⟨g,0,none⟩) n cap) zs ci'::l)->K (a.put op.dst undef) w'):op.wp P a w K Q:=by
 subst hj;exact wp_store_mid ty x y ho g (i * size+j) vs.toArray hx hy (by rw[List.size_toArray];exact h.hthere hi0 hc hl) (by rw[List.size_toArray];exact hi) (by rw[List.all_toArray];exact h1) (k _ (by rw[<-he];exact h.hsetCells hi0 vs hl))
theorem oS {ops:Array Oper} {rest:List Oper} (h:M B w0 w (kA FA e size i (.slice (some ⟨g,0,none⟩) n cap) zs ci::l)) (hi0:i<zs.length) (hc:ci.length=size) (hgd:op.guard=none) (ho:op.op=.store ty x y) (hx:a.eval x=.pointer (some ⟨g,o,none⟩)) (hj:o=i * size+j) (hy:a.eval y=.agg vs.toArray) (hi:(P.info? ty).map (·.size)=some vs.length) (h1:(vs.all (·.oneCell'))=true) (hl:j+vs.length<=size) (he:aGk ci j vs=ci')
  (k:∀w',M B w0 w' (kA FA e size i (.slice (some ⟨g,0,none⟩) n cap) zs ci'::l)->wpList P ops Q rest (a.put op.dst undef) w'):wpList P ops Q (op::rest) a w:=
 wpList_plain hgd fun _ hK=>aIa h hi0 hc ho hx hj hy hi h1 hl he fun w' h'=>hK _ _ (k w' h')
end
end
namespace N
theorem vD:(prog.info? 46).map (·.size)=some 7:=by kernel_rfl
theorem aMG:(prog.info? 64).map (·.size)=some 10:=by kernel_rfl
theorem aMn:(prog.info? 55).map (·.size)=some 5:=by kernel_rfl
theorem aMp:(prog.info? 123).map (·.size)=some 6:=by kernel_rfl
end N
end Go.Proofs.YtcblbdpdbggkbaaGreat
namespace Go.Proofs.YtcblbdpdbggkbaaGreat
open _root_.Go.Proofs.Tryz
open Go.RowKit Go.Sort
theorem aDx {a b:Bool} {P:Prop} (h0:a=false->P) (h1:a=true->b=false->P) (h2:a=true->b=true->P):P:=by
 cases a
 case false=>exact h0 rfl
 cases b
 case false=>exact h1 rfl rfl
 exact h2 rfl rfl
theorem aK7 {a b c:Bool} {P:Prop} (h0:a=false->P) (h1:a=true->b=false->P) (h2:a=true->b=true->c=false->P) (h3:a=true->b=true->c=true->P):P:=by
 cases a
 case false=>exact h0 rfl
 cases b
 case false=>exact h1 rfl rfl
 cases c
 case false=>exact h2 rfl rfl rfl
 exact h3 rfl rfl rfl
theorem aJx {a b c d:Bool} {P:Prop} (h0:a=false->P) (h1:a=true->b=false->P) (h2:a=true->b=true->c=false->P) (h3:a=true->b=true->c=true->d=false->P) (h4:a=true->b=true->c=true->d=true->P):P:=by
 cases a
 case false=>exact h0 rfl
 cases b
 case false=>exact h1 rfl rfl
 cases c
 case false=>exact h2 rfl rfl rfl
 cases d
 case false=>exact h3 rfl rfl rfl rfl
 exact h4 rfl rfl rfl rfl
theorem aGG {a b c d e:Bool} {P:Prop} (h0:a=false->P) (h1:a=true->b=false->P) (h2:a=true->b=true->c=false->P) (h3:a=true->b=true->c=true->d=false->P) (h4:a=true->b=true->c=true->d=true->e=false->P) (h5:a=true->b=true->c=true->d=true->e=true->P):P:=by
 cases a
 case false=>exact h0 rfl
 cases b
 case false=>exact h1 rfl rfl
 cases c
 case false=>exact h2 rfl rfl rfl
 cases d
 case false=>exact h3 rfl rfl rfl rfl
 cases e
 case false=>exact h4 rfl rfl rfl rfl rfl
 exact h5 rfl rfl rfl rfl rfl
theorem aLO (P Q:Prop) [Decidable P] [Decidable Q]:decide (P↔Q)=(decide P==decide Q):=by by_cases p:P<;>by_cases q:Q<;>simp[p,q]
def bD (w:World):List (Addr × Value)->Prop
 | []=>True
 |x::l=>w.cell? x.1=some x.2/\bD w l
theorem bD.below {W w':World}:∀{l:List (Addr × Value)},bD W l->Below W.heap.size W w'->bD w' l
 | [],_,_=>trivial
 |_::_,h,hb=>⟨(hb.cell (World.block_lt_of_cell? _ _ h.1)).trans h.1,bD.below h.2 hb⟩
theorem aIp {w:World} {a b:List (Addr × Value)}:bD w (a++b)↔bD w a/\bD w b:=by
 induction a with
 |nil=>simp[bD]
 |cons x l ih=>simp[bD,ih,and_assoc]
def b4L (p:Nat) (v0 v1 v2 v3:Value):List (Addr × Value):=[(⟨p,0,none⟩,v0),(⟨p,1,none⟩,v1),(⟨p,2,none⟩,v2),(⟨p,3,none⟩,v3)]
def b5L (p:Nat) (v0 v1 v2 v3 v4:Value):List (Addr × Value):=[(⟨p,0,none⟩,v0),(⟨p,1,none⟩,v1),(⟨p,2,none⟩,v2),(⟨p,3,none⟩,v3),(⟨p,4,none⟩,v4)]
def b6L (p:Nat) (v0 v1 v2 v3 v4 v5:Value):List (Addr × Value):=[(⟨p,0,none⟩,v0),(⟨p,1,none⟩,v1),(⟨p,2,none⟩,v2),(⟨p,3,none⟩,v3),(⟨p,4,none⟩,v4),(⟨p,5,none⟩,v5)]
def b7L (p:Nat) (V:SV) (s:Sm):List (Addr × Value):=[(⟨p,0,none⟩,.slice V.xr V.nr V.cr),(⟨p,1,none⟩,.slice V.xf V.nf V.cf),(⟨p,2,none⟩,.slice V.xt V.nt V.ct),(⟨p,3,none⟩,.int .i64 s.lo),(⟨p,4,none⟩,.int .i64 s.al),(⟨p,5,none⟩,.slice V.xk V.nk V.ck),(⟨p,6,none⟩,.int .i64 s.ka)]
def oV (p:Nat) (i b n:Int) (V:SV) (s:Sm):List (Addr × Value):=[(⟨p,0,none⟩,.int .i64 i),(⟨p,1,none⟩,.int .i64 b),(⟨p,2,none⟩,.int .i64 n),(⟨p,3,none⟩,.slice V.xr V.nr V.cr),(⟨p,4,none⟩,.slice V.xf V.nf V.cf),(⟨p,5,none⟩,.slice V.xt V.nt V.ct),(⟨p,6,none⟩,.int .i64 s.lo),(⟨p,7,none⟩,.int .i64 s.al),(⟨p,8,none⟩,.slice V.xk V.nk V.ck),(⟨p,9,none⟩,.int .i64 s.ka)]
namespace N
def zY (g j:Nat) (V:SV) (e:En):List (Addr × Value):=[(⟨g,j * 10,none⟩,.int .i64 e.node),(⟨g,j * 10+1,none⟩,.int .i64 e.born),(⟨g,j * 10+2,none⟩,.int .i64 e.num),(⟨g,j * 10+3,none⟩,.slice V.xr V.nr V.cr),(⟨g,j * 10+4,none⟩,.slice V.xf V.nf V.cf),(⟨g,j * 10+5,none⟩,.slice V.xt V.nt V.ct),(⟨g,j * 10+6,none⟩,.int .i64 e.s.lo),(⟨g,j * 10+7,none⟩,.int .i64 e.s.al),(⟨g,j * 10+8,none⟩,.slice V.xk V.nk V.ck),(⟨g,j * 10+9,none⟩,.int .i64 e.s.ka)]
end N
end Go.Proofs.YtcblbdpdbggkbaaGreat
namespace Go.Proofs.YtcblbdpdbggkbaaGreat
open _root_.Go.Proofs.Tryz
open Go.RowKit Go.Sort
namespace N
theorem aH4 (w:World) (a b:Int) (h:0<=a/\a<=4/\0<=b/\b<=4):Calls prog 67 #[iv a,iv b] w fun e w'=>e=.returned (iv (a * 5+b))/\w=w':=by
 obtain⟨h0,h1,h2,h3⟩:=h;go_enter func67,ntmps67;exact zt
theorem tY (w:World) {a b:Int} (h:0<=a/\a<=4/\0<=b/\b<=4) {q:Nat} (hq:a * 5+b=q):Calls prog 67 #[iv a,iv b] w fun e w'=>e=.returned (iv (q:Int))/\w=w':=by
 rw[<-hq];exact aH4 w a b h
end N
end Go.Proofs.YtcblbdpdbggkbaaGreat

