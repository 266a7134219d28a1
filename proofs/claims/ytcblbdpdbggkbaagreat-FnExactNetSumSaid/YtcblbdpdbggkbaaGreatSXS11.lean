/-
  What the laws of XS need of the texts before it, part 11.
-/
import Derived.ArgAppend
import Derived.BigQuiet
import Derived.Carry
import Derived.Deep.AppendLies
import Derived.Deep.Cut
import Derived.Deep.DeepCutAuto
import Derived.Deep.DrawnRows
import Derived.Deep.MidRow
import Derived.Deep.OwnRows
import Derived.Deep.QuietTactic
import Derived.Deep.RegionHeld3
import Derived.Deep.RegionLaw
import Derived.Deep.RegionLawGrows
import Derived.Deep.RegionWith
import Derived.Deep.WholeRow
import Derived.DeepKeys5
import Derived.Handy
import Derived.IntWalk
import Derived.KernelRfl
import Derived.Laws.AppendOwnNone
import Derived.Laws.EntriesVeiled
import Derived.Laws.ResultCell
import Derived.Lib.AppendZerosOnto
import Derived.Lib.Hide
import Derived.Lib.QuietBelow
import Derived.Lib.SliceRun
import Derived.Lib.Walk
import Derived.LoopIn
import Derived.LoopN
import Derived.LoopNIn
import Derived.Maps.AppendAt
import Derived.Maps.Keyed
import Derived.Maps.Own
import Derived.OneCell
import Derived.OpenShut
import Derived.OrdersHeld
import Derived.OwnWalkIn
import Derived.RangeFuncBound
import Derived.RangeFuncBox
import Derived.RangeFuncCalls
import Derived.RangeFuncLeaves
import Derived.RangeFuncNested
import Derived.RegionTactic
import Derived.Shelf.Abstract
import Derived.Shelf.RegionOpen
import Derived.Shelf.SlSortCmp.InsertionK
import Derived.StillTail
import Derived.TacticsInMore
import Derived.Test.YtcblbdpdbggkbaaGreatRows
import Derived.WalkKit
import Derived.WalkLawsBesides
import Derived.WalkSmall
import Derived.WalkSpells
import Derived.Test.YtcblbdpdbggkbaaGreatSXS10
set_option maxRecDepth 100000
set_option maxHeartbeats 16000000
set_option linter.unusedVariables false
set_option linter.unusedSectionVars false
set_option linter.unusedSimpArgs false
namespace Go.Proofs.YtcblbdpdbggkbaaGreat
open _root_.Go.Proofs.Tryz
theorem zAe {P:Prop} (h:P:=by
 rw[he];refine aH ?_;rcases hs with q|⟨q1,q2⟩
 ·rw[decide_eq_false q,decide_eq_false (fun e=>q (by rw[e]))]
 ·rw[List.eq_nil_of_length_eq_zero q1,List.eq_nil_of_length_eq_zero q2];simp):P:=h
theorem zAg {P:Prop} (h:P:=by
 obtain⟨c0,c1,c2,c3,c4,c5,c6⟩:=H.out.p1.cells7;obtain⟨d0,d1,d2,d3,d4,d5,d6⟩:=H.out.cells7;go_wp2;go_ret;exact⟨by rw[SS.out];rfl,by have:=H.out.below;rwa[HP.out]at this⟩):P:=h
theorem zAi {P:Prop} (h:P:=by
 have F:=hd_ (show decide (ps=qs)=false from decide_eq_false fun e=>eq (EQ.out.1 (by rw[e])))
 by_cases ex:x1=x2
 ·have ey:(y1==y2)=false:=by
   have:¬y1=y2:=fun e=>eq ⟨ex,e⟩
   simpa using this
  have ey':(y1 != y2)=true:=by simpa using ey
  subst ex;clear eq EQ
  repeat (first|refine tA_ ?_|refine tB_ ?_)
  refine aG ?_;go_wp2;go_ret;exact⟨by rw[F.out];rfl,B2.out⟩
 ·have ex':(x1==x2)=false:=by simpa using ex
  clear eq EQ ex
  repeat (first|refine tA_ ?_|refine tB_ ?_)
  refine aG ?_;go_wp2;go_ret;exact⟨by rw[F.out];rfl,B2.out⟩):P:=h
theorem zAD {P:Prop} (h:P:=by
 go_wp2;go_ret;refine⟨?_,B1.out.trans (HB2.out.mono B1.out.size)⟩;have u:=HU.out;have q:=HOK.out;unfold okS;rw[<-q];simp):P:=h
theorem zAF {P:Prop} (h:P:=by
 have g:decide (k<ps.length)=false:=by simpa using hlt
 clear HE;go_wp2;go_ret;exact⟨by rw[F.out];rfl,HB.out⟩):P:=h
theorem zAK {P:Prop} (h:P:=by
 repeat (first|refine tA_ ?_|refine tB_ ?_)
 refine aG ?_;go_wp2;go_roundw
 case rel=>exact⟨k+1,o_,gn_,HE2.out,B2.out⟩
 case measure=>simp[intOf];omega):P:=h
theorem zBl {P:Prop} (h:P:=by
 go_wp2;go_ret;exact⟨by rw[SS.out];rfl,by have:=H.out.below;rwa[HP.out]at this⟩):P:=h
theorem zB0 {P:Prop} (h:P:=by
 have F:Hid (decide (ps=qs)=true):=hd_ (decide_eq_true (tG HL.out (fun i hi=>HE.out i o_)))
 exact zAF):P:=h
end Go.Proofs.YtcblbdpdbggkbaaGreat
namespace Go.Proofs.YtcblbdpdbggkbaaGreat
open _root_.Go.Proofs.Tryz
open Go.RowKit Go.Sort
namespace N
theorem aIQ (x y:Option Addr) (n m c d:Nat) (w:World) (h:n≠m\/(n=0/\m=0)):
  Calls prog 256 #[.slice x n c,.slice y m d] w fun e w'=>e=.returned (.bool (decide (n=m)))/\Below w.heap.size w w':=by
 rcases h with h|⟨rfl,rfl⟩
 ·have hn:((n:Int) != (m:Int))=true:=by simp;omega
  go_enter func256,ntmps256;exact zBa
 ·go_enter func256,ntmps256
  exact zAA
theorem aJu (w:World) {x y:Option Addr} {n m c d:Nat} {ps qs:List Int} (h1:cW w (.slice x n c) ps) (h2:cW w (.slice y m d) qs):
  Calls prog 256 #[.slice x n c,.slice y m d] w fun e w'=>e=.returned (.bool (decide (ps=qs)))/\Below w.heap.size w w':=by
 obtain rfl:n=ps.length:=h1.len;obtain rfl:m=qs.length:=h2.len;have hm:=aAM h1;unfold maxLen at hm
 by_cases hs:ps.length≠qs.length\/(ps.length=0/\qs.length=0)
 ·refine (aIQ x y _ _ c d w hs).mono fun e w' ⟨he,hw⟩=>⟨?_,hw⟩
  exact zAe
 have el:ps.length=qs.length:=o_;have g0:((ps.length:Int) != (qs.length:Int))=false:=by simp;omega
 have HL:=hd_ el;have R1:=hd_ h1;have R2:=hd_ h2;clear h1 h2 hs el;go_enter func256,ntmps256;go_wp2;clear g0;go_loopw [13] (fun i wr=>∃k:Nat,k<=ps.length/\i=.int .i64 k/\(∀j,j<k->ps.getD j 0=qs.getD j 0)/\Below w.heap.size w wr) (fun i _=>ps.length - (intOf i).toNat)
 case atStart=>exact⟨0,Nat.zero_le _,rfl,fun _ h=>absurd h (Nat.not_lt_zero _),Below.refl _ _⟩
 case round=>
  obtain⟨k,hk,rfl,heq,hb⟩:=hrel;have HE:=hd_ heq;have HB:=hd_ hb;clear heq hb
  by_cases hlt:k<ps.length
  ·obtain⟨b1,o1,rfl,ra1⟩:=vE (R1.out.below HB.out lr_) hlt
   obtain⟨b2,o2,rfl,ra2⟩:=vE (R2.out.below HB.out lr_) (j:=k) (by rw[<-HL.out];exact hlt);obtain⟨x1,hx1⟩:=nm_ (ps.getD k 0);obtain⟨x2,hx2⟩:=nm_ (qs.getD k 0);rw[<-hx1]at ra1;rw[<-hx2]at ra2;have X1:=hd_ hx1;have X2:=hd_ hx2;clear hx1 hx2;have k0:(0:Int)<=(k:Int):=o_;have k1:(k:Int)<(ps.length:Int):=o_;have k2:(k:Int)<(qs.length:Int):=by have:=HL.out;omega
   have B2:=hd_ (Below.drew HB.out);go_wp2;refine aC 99 (.tk 0 9 .done) (fun w'=>w'.cell? ⟨b1,o1+k,Option.none⟩=some (.int .i64 x1)/\w'.cell? ⟨b2,o2+k,Option.none⟩=some (.int .i64 x2)) kr_ kr_ (fun _ _ _ _ _ h=>h) ⟨ra1,ra2⟩ ?_;clear ra1 ra2
   by_cases eq:x1=x2
   case neg=>
    have F:=hd_ (show decide (ps=qs)=false from decide_eq_false fun e=>eq (by rw[X1.out,X2.out,e]));have ex:(x1 != x2)=true:=by simpa using eq
    clear eq
    repeat (first|refine tA_ ?_|refine tB_ ?_)
    refine aG ?_;go_wp2;go_ret;exact⟨by rw[F.out];rfl,B2.out⟩
   have HE2:Hid (∀j,j<k+1->ps.getD j 0=qs.getD j 0):=hd_ fun j hj=>by
    by_cases h:j<k
    ·exact HE.out j h
    ·obtain rfl:j=k:=o_
     rw[<-X1.out, <-X2.out,eq]
   subst eq
   exact zAK
  ·have F:Hid (decide (ps=qs)=true):=hd_ (fO (d:=0) rfl HL.out.symm (fun i hi=>HE.out i o_))
   exact zAF
theorem aBj (x y:Option Addr) (n m c d:Nat) (w:World) (h:n≠m\/(n=0/\m=0)):
  Calls prog 257 #[.slice x n c,.slice y m d] w fun e w'=>e=.returned (.bool (decide (n=m)))/\Below w.heap.size w w':=by
 rcases h with h|⟨rfl,rfl⟩
 ·have hn:((n:Int) != (m:Int))=true:=by simp;omega
  go_enter func257,ntmps257;exact zBa
 ·go_enter func257,ntmps257
  exact zAA
theorem aLA (w:World) {x y:Option Addr} {n m c d:Nat} {ps qs:List (Int × Int)} (h1:T.Prs w (.slice x n c) ps) (h2:T.Prs w (.slice y m d) qs):
  Calls prog 257 #[.slice x n c,.slice y m d] w fun e w'=>e=.returned (.bool (decide (ps=qs)))/\Below w.heap.size w w':=by
 obtain⟨_,_,e1,l1,l2⟩:=h1.form;obtain⟨_,_,e2,_,_⟩:=h2.form;obtain rfl:n=ps.length:=(Value.slice.inj e1).2.1;obtain rfl:m=qs.length:=(Value.slice.inj e2).2.1;have hm:ps.length<=maxLen:=o_;unfold maxLen at hm;clear e1 e2 l1 l2
 by_cases hs:ps.length≠qs.length\/(ps.length=0/\qs.length=0)
 ·refine (aBj x y _ _ c d w hs).mono fun e w' ⟨he,hw⟩=>⟨?_,hw⟩
  exact zAe
 have el:ps.length=qs.length:=o_;have g0:((ps.length:Int) != (qs.length:Int))=false:=by simp;omega
 have HL:=hd_ el;have R1:=hd_ h1;have R2:=hd_ h2;clear h1 h2 hs el;go_enter func257,ntmps257;go_wp2;clear g0;go_loopw [13] (fun i wr=>∃k:Nat,k<=ps.length/\i=.int .i64 k/\(∀j,j<k->T.pr ps j=T.pr qs j)/\Below w.heap.size w wr) (fun i _=>ps.length - (intOf i).toNat)
 case atStart=>exact⟨0,Nat.zero_le _,rfl,fun _ h=>absurd h (Nat.not_lt_zero _),Below.refl _ _⟩
 case round=>
  obtain⟨k,hk,rfl,heq,hb⟩:=hrel;have HE:=hd_ heq;have HB:=hd_ hb;clear heq hb
  by_cases hlt:k<ps.length
  ·obtain⟨b1,o1,rfl,_,ra1,rb1⟩:=(R1.out.below HB.out lr_).cells k hlt
   obtain⟨b2,o2,rfl,_,ra2,rb2⟩:=(R2.out.below HB.out lr_).cells k (by rw[<-HL.out];exact hlt);obtain⟨x1,hx1⟩:=nm_ ((T.pr ps k).1);obtain⟨y1,hy1⟩:=nm_ ((T.pr ps k).2);obtain⟨x2,hx2⟩:=nm_ ((T.pr qs k).1);obtain⟨y2,hy2⟩:=nm_ ((T.pr qs k).2);rw[<-hx1]at ra1;rw[<-hy1]at rb1;rw[<-hx2]at ra2;rw[<-hy2]at rb2;have EQ:Hid (T.pr ps k=T.pr qs k↔x1=x2/\y1=y2):=hd_ (by rw[hx1,hx2,hy1,hy2];exact Prod.ext_iff)
   clear hx1 hx2 hy1 hy2;have k0:(0:Int)<=(k:Int):=o_;have k1:(k:Int)<(ps.length:Int):=o_;have k2:(k:Int)<(qs.length:Int):=by have:=HL.out;omega
   have B2:=hd_ (Below.drew HB.out);go_wp2;refine aC 99 (.tk 0 9 .done) (fun w'=>w'.cell? ⟨b1,o1+k * 2,Option.none⟩=some (.int .i64 x1)/\w'.cell? ⟨b1,o1+k * 2+1,Option.none⟩=some (.int .i64 y1)/\w'.cell? ⟨b2,o2+k * 2,Option.none⟩=some (.int .i64 x2)/\w'.cell? ⟨b2,o2+k * 2+1,Option.none⟩=some (.int .i64 y2)) kr_ kr_ (fun _ _ _ _ _ h=>h) ⟨ra1,rb1,ra2,rb2⟩ ?_
   clear ra1 rb1 ra2 rb2
   by_cases eq:x1=x2/\y1=y2
   case neg=>
    exact zAi
   have HE2:Hid (∀j,j<k+1->T.pr ps j=T.pr qs j):=hd_ fun j hj=>by
    exact zBb
   obtain⟨rfl,rfl⟩:=eq;clear EQ
   exact zAK
  ·exact zB0
theorem aBi (x y:Option Addr) (n m c d:Nat) (w:World) (h:n≠m\/(n=0/\m=0)):
  Calls prog 258 #[.slice x n c,.slice y m d] w fun e w'=>e=.returned (.bool (decide (n=m)))/\Below w.heap.size w w':=by
 rcases h with h|⟨rfl,rfl⟩
 ·have hn:((n:Int) != (m:Int))=true:=by simp;omega
  go_enter func258,ntmps258;exact zBa
 ·go_enter func258,ntmps258
  exact zAA
theorem aLF (w:World) {x y:Option Addr} {n m c d:Nat} {ps qs:List (Int × Int)} (h1:K.Prs w (.slice x n c) ps) (h2:K.Prs w (.slice y m d) qs):
  Calls prog 258 #[.slice x n c,.slice y m d] w fun e w'=>e=.returned (.bool (decide (ps=qs)))/\Below w.heap.size w w':=by
 obtain⟨_,_,e1,l1,l2⟩:=h1.form;obtain⟨_,_,e2,_,_⟩:=h2.form;obtain rfl:n=ps.length:=(Value.slice.inj e1).2.1;obtain rfl:m=qs.length:=(Value.slice.inj e2).2.1;have hm:ps.length<=maxLen:=o_;unfold maxLen at hm;clear e1 e2 l1 l2
 by_cases hs:ps.length≠qs.length\/(ps.length=0/\qs.length=0)
 ·refine (aBi x y _ _ c d w hs).mono fun e w' ⟨he,hw⟩=>⟨?_,hw⟩
  exact zAe
 have el:ps.length=qs.length:=o_;have g0:((ps.length:Int) != (qs.length:Int))=false:=by simp;omega
 have HL:=hd_ el;have R1:=hd_ h1;have R2:=hd_ h2;clear h1 h2 hs el;go_enter func258,ntmps258;go_wp2;clear g0;go_loopw [13] (fun i wr=>∃k:Nat,k<=ps.length/\i=.int .i64 k/\(∀j,j<k->K.pr ps j=K.pr qs j)/\Below w.heap.size w wr) (fun i _=>ps.length - (intOf i).toNat)
 case atStart=>exact⟨0,Nat.zero_le _,rfl,fun _ h=>absurd h (Nat.not_lt_zero _),Below.refl _ _⟩
 case round=>
  obtain⟨k,hk,rfl,heq,hb⟩:=hrel;have HE:=hd_ heq;have HB:=hd_ hb;clear heq hb
  by_cases hlt:k<ps.length
  ·obtain⟨b1,o1,rfl,_,ra1,rb1⟩:=(R1.out.below HB.out lr_).cells k hlt
   obtain⟨b2,o2,rfl,_,ra2,rb2⟩:=(R2.out.below HB.out lr_).cells k (by rw[<-HL.out];exact hlt);obtain⟨x1,hx1⟩:=nm_ ((K.pr ps k).1);obtain⟨y1,hy1⟩:=nm_ ((K.pr ps k).2);obtain⟨x2,hx2⟩:=nm_ ((K.pr qs k).1);obtain⟨y2,hy2⟩:=nm_ ((K.pr qs k).2);rw[<-hx1]at ra1;rw[<-hy1]at rb1;rw[<-hx2]at ra2;rw[<-hy2]at rb2;have EQ:Hid (K.pr ps k=K.pr qs k↔x1=x2/\y1=y2):=hd_ (by rw[hx1,hx2,hy1,hy2];exact Prod.ext_iff)
   clear hx1 hx2 hy1 hy2;have k0:(0:Int)<=(k:Int):=o_;have k1:(k:Int)<(ps.length:Int):=o_;have k2:(k:Int)<(qs.length:Int):=by have:=HL.out;omega
   have B2:=hd_ (Below.drew HB.out);go_wp2;refine aC 99 (.tk 0 9 .done) (fun w'=>w'.cell? ⟨b1,o1+k * 2,Option.none⟩=some (.int .i64 x1)/\w'.cell? ⟨b1,o1+k * 2+1,Option.none⟩=some (.int .i64 y1)/\w'.cell? ⟨b2,o2+k * 2,Option.none⟩=some (.int .i64 x2)/\w'.cell? ⟨b2,o2+k * 2+1,Option.none⟩=some (.int .i64 y2)) kr_ kr_ (fun _ _ _ _ _ h=>h) ⟨ra1,rb1,ra2,rb2⟩ ?_
   clear ra1 rb1 ra2 rb2
   by_cases eq:x1=x2/\y1=y2
   case neg=>
    exact zAi
   have HE2:Hid (∀j,j<k+1->K.pr ps j=K.pr qs j):=hd_ fun j hj=>by
    exact zBb
   obtain⟨rfl,rfl⟩:=eq;clear EQ
   exact zAK
  ·exact zB0
theorem aIU (x y:Option Addr) (n m c d:Nat) (w:World) (h:n≠m\/(n=0/\m=0)):
  Calls prog 255 #[.slice x n c,.slice y m d,.func (.func 256) #[] #[]] w fun e w'=>e=.returned (.bool (decide (n=m)))/\Below w.heap.size w w':=by
 rcases h with h|⟨rfl,rfl⟩
 ·have hn:((n:Int) != (m:Int))=true:=by simp;omega
  go_enter func255,ntmps255;exact zBa
 ·go_enter func255,ntmps255
  exact zAA
theorem aMF (w:World) {x y:Option Addr} {n m c d:Nat} {ps qs:List (List Int)} (h1:Rws w (.slice x n c) ps) (h2:Rws w (.slice y m d) qs):
  Calls prog 255 #[.slice x n c,.slice y m d,.func (.func 256) #[] #[]] w fun e w'=>e=.returned (.bool (decide (ps=qs)))/\Below w.heap.size w w':=by
 obtain rfl:n=ps.length:=h1.len;obtain rfl:m=qs.length:=h2.len;have hm:=aHF h1;unfold maxLen at hm
 by_cases hs:ps.length≠qs.length\/(ps.length=0/\qs.length=0)
 ·refine (aIU x y _ _ c d w hs).mono fun e w' ⟨he,hw⟩=>⟨?_,hw⟩
  exact zAe
 have el:ps.length=qs.length:=o_;have g0:((ps.length:Int) != (qs.length:Int))=false:=by simp;omega
 have HL:=hd_ el;have R1:=hd_ h1;have R2:=hd_ h2;clear h1 h2 hs el;go_enter func255,ntmps255;go_wp2;clear g0;go_loopw [17] (fun i wr=>∃k:Nat,k<=ps.length/\i=.int .i64 k/\(∀j,j<k->ps.getD j []=qs.getD j [])/\Below w.heap.size w wr) (fun i _=>ps.length - (intOf i).toNat)
 case atStart=>exact⟨0,Nat.zero_le _,rfl,fun _ h=>absurd h (Nat.not_lt_zero _),Below.refl _ _⟩
 case round=>
  obtain⟨k,hk,rfl,heq,hb⟩:=hrel;have HE:=hd_ heq;have HB:=hd_ hb;clear heq hb
  by_cases hlt:k<ps.length
  ·obtain⟨b1,o1,u1,rfl,ra1,i1⟩:=aDH (R1.out.below HB.out lr_) hlt
   obtain⟨b2,o2,u2,rfl,ra2,i2⟩:=aDH (R2.out.below HB.out lr_) (k:=k) (by rw[<-HL.out];exact hlt);obtain⟨⟨z1,c1,rfl⟩,_⟩:=i1.cases;obtain⟨⟨z2,c2,rfl⟩,_⟩:=i2.cases;have KE:=hd_ (aJu wr i1 i2);obtain⟨x1,hx1⟩:=nm_ (ps.getD k []);obtain⟨x2,hx2⟩:=nm_ (qs.getD k []);rw[<-hx1]at ra1 KE;rw[<-hx2]at ra2 KE;have X1:=hd_ hx1;have X2:=hd_ hx2;clear hx1 hx2 i1 i2;generalize x1.length=n1 at ra1 KE
   generalize x2.length=n2 at ra2 KE;have k0:(0:Int)<=(k:Int):=o_;have k1:(k:Int)<(ps.length:Int):=o_;have k2:(k:Int)<(qs.length:Int):=by have:=HL.out;omega
   by_cases eq:x1=x2
   case neg=>
    have F:=hd_ (show decide (ps=qs)=false from decide_eq_false fun e=>eq (by rw[X1.out,X2.out,e]));rw[decide_eq_false eq]at KE;clear eq
    go_wp2_with fail
    refine KE.out.mono ?_;rintro e w3 ⟨rfl,hb⟩;have B2:=hd_ (HB.out.trans (hb.mono HB.out.size));clear KE hb HB ra1 ra2;go_wp2;go_ret;exact⟨by rw[F.out];rfl,B2.out⟩
   rw[decide_eq_true eq]at KE;have HE2:Hid (∀j,j<k+1->ps.getD j []=qs.getD j []):=hd_ fun j hj=>by
    by_cases h:j<k
    ·exact HE.out j h
    ·obtain rfl:j=k:=o_
     rw[<-X1.out, <-X2.out,eq]
   clear eq
   go_wp2_with fail
   refine KE.out.mono ?_;rintro e w3 ⟨rfl,hb⟩;have B2:=hd_ (HB.out.trans (hb.mono HB.out.size));clear KE hb HB ra1 ra2;go_wp2;go_roundw
   case rel=>exact⟨k+1,o_,gn_,HE2.out,B2.out⟩
   case measure=>simp[intOf];omega
  ·have F:Hid (decide (ps=qs)=true):=hd_ (fO (d:=[]) rfl HL.out.symm (fun i hi=>HE.out i o_))
   exact zAF
theorem vA (w:World) {V1 V2:SV} {s1 s2:Sm} (h1:RdS w V1 s1) (h2:RdS w V2 s2):
  Calls prog 199 #[.agg #[.slice V1.xr V1.nr V1.cr,.slice V1.xf V1.nf V1.cf,.slice V1.xt V1.nt V1.ct,iv s1.lo,iv s1.al,.slice V1.xk V1.nk V1.ck,iv s1.ka],.agg #[.slice V2.xr V2.nr V2.cr,.slice V2.xf V2.nf V2.cf,.slice V2.xt V2.nt V2.ct,iv s2.lo,iv s2.al,.slice V2.xk V2.nk V2.ck,iv s2.ka]] w fun e w'=>e=.returned (.bool (mE s1 s2))/\Below w.heap.size w w':=by
 have H0:=((M.start w).alloc (cS V1 s1) 46).alloc (cS V2 s2) 46;simp only[World.size_alloc]at H0;obtain⟨p1,hp1⟩:=nm_ w.heap.size;obtain⟨p2,hp2⟩:=nm_ (w.heap.size+1);have HP:=hd_ hp1;have HP2:=hd_ hp2;obtain⟨w1,hw1⟩:=nm_ ((w.alloc (.cells (cS V1 s1) 46)).alloc (.cells (cS V2 s2) 46));rw[<-hp2, <-hp1, <-hw1]at H0;have R1:=hd_ h1;have R2:=hd_ h2;have H:=hd_ H0;obtain⟨b0,hb0⟩:=nm_ (decide (s1.rs=s2.rs))
 obtain⟨b1,hb1⟩:=nm_ (decide (s1.zs=s2.zs));obtain⟨b2,hb2⟩:=nm_ (decide (s1.ps=s2.ps));obtain⟨b3,hb3⟩:=nm_ (s1.lo==s2.lo);obtain⟨b4,hb4⟩:=nm_ (s1.al==s2.al);obtain⟨b5,hb5⟩:=nm_ (decide (s1.ks=s2.ks));obtain⟨b6,hb6⟩:=nm_ (s1.ka==s2.ka);have SS:Hid (mE s1 s2=(b0&&(b1&&(b2&&(b3&&(b4&&(b5&&b6))))))):=hd_ (by
    unfold mE
    rw[hb0,hb1,hb2,hb3,hb4,hb5,hb6]
    rfl)
 have K0:=hd_ (fun W (hb:Below w.heap.size w W)=>aMF W (R1.out.r.below hb lr_) (R2.out.r.below hb lr_));have K1:=hd_ (fun W (hb:Below w.heap.size w W)=>aJu W (R1.out.f.below hb lr_) (R2.out.f.below hb lr_));have K2:=hd_ (fun W (hb:Below w.heap.size w W)=>aLA W (R1.out.t.below hb lr_) (R2.out.t.below hb lr_))
 have K5:=hd_ (fun W (hb:Below w.heap.size w W)=>aLF W (R1.out.k.below hb lr_) (R2.out.k.below hb lr_));rw[<-hb0]at K0;rw[<-hb1]at K1;rw[<-hb2]at K2;rw[<-hb5]at K5;have g3:=hb3.symm;have g4:=hb4.symm;have g6:=hb6.symm;obtain⟨c0,c1,c2,c3,c4,c5,c6⟩:=H0.p1.cells7;obtain⟨d0,d1,d2,d3,d4,d5,d6⟩:=H0.cells7;rw[hw1,hp1]at c0 c1 c2 c3 c4 c5 c6;rw[hw1,hp2]at d0 d1 d2 d3 d4 d5 d6
 clear h1 h2 H0 hb0 hb1 hb2 hb3 hb4 hb5 hb6;go_enter func199,ntmps199
 go_wp2_with fail
 rw[<-hw1, <-hp2, <-hp1];clear hw1 hp1 hp2 c0 c1 c2 c3 c4 c5 c6 d0 d1 d2 d3 d4 d5 d6;refine (K0.out _ (by have:=H.out.below;rwa[HP.out]at this)).mono ?_;rintro e w2 ⟨rfl,hb⟩;replace H:=hd_ (H.out.later hb);clear hb K0;rcases b0 with _|_
 case false=>
  exact zAg
 obtain⟨c0,c1,c2,c3,c4,c5,c6⟩:=H.out.p1.cells7;obtain⟨d0,d1,d2,d3,d4,d5,d6⟩:=H.out.cells7
 go_wp2_with fail
 clear c0 c1 c2 c3 c4 c5 c6 d0 d1 d2 d3 d4 d5 d6;refine (K1.out _ (by have:=H.out.below;rwa[HP.out]at this)).mono ?_;rintro e w2 ⟨rfl,hb⟩;replace H:=hd_ (H.out.later hb);clear hb K1;rcases b1 with _|_
 case false=>
  exact zAg
 obtain⟨c0,c1,c2,c3,c4,c5,c6⟩:=H.out.p1.cells7;obtain⟨d0,d1,d2,d3,d4,d5,d6⟩:=H.out.cells7
 go_wp2_with fail
 clear c0 c1 c2 c3 c4 c5 c6 d0 d1 d2 d3 d4 d5 d6;refine (K2.out _ (by have:=H.out.below;rwa[HP.out]at this)).mono ?_;rintro e w2 ⟨rfl,hb⟩;replace H:=hd_ (H.out.later hb);clear hb K2;rcases b2 with _|_
 case false=>
  exact zAg
 obtain⟨c0,c1,c2,c3,c4,c5,c6⟩:=H.out.p1.cells7;obtain⟨d0,d1,d2,d3,d4,d5,d6⟩:=H.out.cells7;rcases b3 with _|_
 case false=>
  exact zBl
 rcases b4 with _|_
 case false=>
  exact zBl
 go_wp2_with fail
 clear c0 c1 c2 c3 c4 c5 c6 d0 d1 d2 d3 d4 d5 d6;refine (K5.out _ (by have:=H.out.below;rwa[HP.out]at this)).mono ?_;rintro e w2 ⟨rfl,hb⟩;replace H:=hd_ (H.out.later hb);clear hb K5;rcases b5 with _|_
 case false=>
  exact zAg
 obtain⟨c0,c1,c2,c3,c4,c5,c6⟩:=H.out.p1.cells7;obtain⟨d0,d1,d2,d3,d4,d5,d6⟩:=H.out.cells7;rcases b6 with _|_
 case false=>
  exact zBl
 go_wp2;go_ret;exact⟨by rw[SS.out];rfl,by have:=H.out.below;rwa[HP.out]at this⟩
theorem aCT (w:World) {xk:Option Addr} {k ck:Nat} {es:List En} {f:List Nat} (h:fU TY w [.slice xk k ck] es f) (i:Int):
  Calls prog 155 #[.slice xk k ck,iv i] w fun r w'=>(∃u,r=.returned u/\((∃e V,mA es i=some e/\RdS w V e.s/\u=aBw V e)\/(mA es i=none/\u=aCG)))/\Below w.heap.size w w':=by
 obtain rfl:k=es.length:=(aK h).1;obtain⟨_,_,e1,q1,q2⟩:=aP h;have hm:es.length<=maxLen:=Nat.le_trans q1 q2;unfold maxLen at hm;clear e1 q1 q2;have H1:=hd_ h;clear h;have H0:=hd_ ((M.start w).alloc #[iv 0,iv 0,iv 0,zn,zn,zn,iv 0,iv 0,zn,iv 0] 64);go_enter func155,ntmps155;go_wp2;obtain⟨p1,hp1⟩:=nm_ w.heap.size;have HP:=hd_ hp1;rw[<-hp1]at H0;rw[<-hp1];clear hp1
 generalize (w.alloc (.cells #[iv 0,iv 0,iv 0,zn,zn,zn,iv 0,iv 0,zn,iv 0] 64))=w1 at H0 ⊢;go_loopw [9] (fun z wr=>∃j:Nat,j<=es.length/\z=.int .i64 j/\(∀(a:Nat) (x:En),a<j->es[a]? =some x->x.node≠i)/\M p1 w wr [bO p1 64 #[iv 0,iv 0,iv 0,zn,zn,zn,iv 0,iv 0,zn,iv 0]]) (fun z _=>es.length - (intOf z).toNat)
 case atStart=>exact⟨0,Nat.zero_le _,rfl,fun a x h=>absurd h (Nat.not_lt_zero _),H0.out⟩
 case round=>
  clear H0;obtain⟨j,hj,rfl,hno,hm'⟩:=hrel;have NO:=hd_ hno;have H:=hd_ hm';clear hno hm';have hWB:=H.out.below;rw[HP.out]at hWB;obtain⟨d0,d1,d2,d3,d4,d5,d6,d7,d8,d9⟩:=H.out.cells10
  by_cases hlt:j<es.length
  ·obtain⟨x,hx⟩:∃x,es[j]? =some x:=⟨_,List.getElem?_eq_getElem hlt⟩
   obtain⟨g,V,fe,rfl,_,_,sr,ca0,ca1,ca2,cas⟩:=jP H1.out hx;have RV:=hd_ (tU sr);replace ca0:=cell_later hWB ca0;replace ca1:=cell_later hWB ca1;replace ca2:=cell_later hWB ca2;have ca3:=cell_later hWB (cas 0 _ rfl);have ca4:=cell_later hWB (cas 1 _ rfl);have ca5:=cell_later hWB (cas 2 _ rfl);have ca6:=cell_later hWB (cas 3 _ rfl);have ca7:=cell_later hWB (cas 4 _ rfl)
   have ca8:=cell_later hWB (cas 5 _ rfl);have ca9:=cell_later hWB (cas 6 _ rfl);clear cas hWB sr;have k0:(0:Int)<=(j:Int):=o_;have k1:(j:Int)<(es.length:Int):=o_;have h2:=H.out.alloc #[iv x.node,iv x.born,iv x.num,.slice V.xr V.nr V.cr,.slice V.xf V.nf V.cf,.slice V.xt V.nt V.ct,.int .i64 (x.s).lo,.int .i64 (x.s).al,.slice V.xk V.nk V.ck,.int .i64 (x.s).ka] 64
   by_cases eq:x.node=i
   ·have g0:(x.node==i)=true:=by simpa using eq
    have F:=hd_ (aHD NO.out hx eq);have ef:=h2.p1.free;have N:=hd_ (h2.p1.set10 (iv x.node) (iv x.born) (iv x.num) (.slice V.xr V.nr V.cr) (.slice V.xf V.nf V.cf) (.slice V.xt V.nt V.ct) (iv x.s.lo) (iv x.s.al) (.slice V.xk V.nk V.ck) (iv x.s.ka));obtain⟨y0,y1,y2,y3,y4,y5,y6,y7,y8,y9⟩:=h2.cells10;obtain⟨z0,z1,z2,z3,z4,z5,z6,z7,z8,z9⟩:=h2.p1.cells10;clear eq NO hx h2;go_wp2
    obtain⟨e0,e1,e2,e3,e4,e5,e6,e7,e8,e9⟩:=N.out.cells10;exact bodyPost_ret (v:=aBw V x) (by simp[results,results155,go_sem,e0,e1,e2,e3,e4,e5,e6,e7,e8,e9]) rfl ⟨⟨_,rfl,.inl ⟨x,V,F.out,RV.out,rfl⟩⟩,by rw[<-HP.out];exact N.out.below⟩
   ·have g0:(x.node==i)=false:=by simpa using eq
    have NO2:Hid (∀(a:Nat) (y:En),a<j+1->es[a]? =some y->y.node≠i):=hd_ fun a y ha hy=>by
     by_cases q:a<j
     ·exact NO.out a y q hy
     ·obtain rfl:a=j:=o_
      rw[hx]at hy;cases hy;exact eq
    have H2:=hd_ h2.p1;obtain⟨y0,y1,y2,y3,y4,y5,y6,y7,y8,y9⟩:=h2.cells10;clear eq NO hx h2;go_wp2;go_roundw
    case rel=>exact⟨j+1,o_,gn_,NO2.out,H2.out.p1.drop⟩
    case measure=>simp[intOf];omega
  ·have F:=hd_ (aHj (es:=es) (i:=i) fun a x hx=>NO.out a x (by have:=(List.getElem?_eq_some_iff.1 hx).1;omega) hx)
   have ef:=H.out.free;have N:=hd_ (H.out.set10 (iv 0) (iv 0) (iv 0) zn zn zn (iv 0) (iv 0) zn (iv 0));have g:decide (j<es.length)=false:=by simpa using hlt
   clear NO hWB;go_wp2;obtain⟨e0,e1,e2,e3,e4,e5,e6,e7,e8,e9⟩:=N.out.cells10;exact bodyPost_ret (v:=aCG) (by simp[results,results155,go_sem,e0,e1,e2,e3,e4,e5,e6,e7,e8,e9]) rfl ⟨⟨_,rfl,.inr ⟨F.out,rfl⟩⟩,by rw[<-HP.out];exact N.out.below⟩
theorem aIh {a:Int} {b:Bool} (h:b=in6 a 0 4) (w:World):Calls prog 95 #[iv a] w fun e w'=>e=.returned (.bool b)/\w'=w:=by
 cases b with
 |true=>exact (nE w a h.symm).mono fun e w' ⟨h1,h2⟩=>⟨h1,h2.symm⟩
 |false=>exact (tC w a h.symm).mono fun e w' ⟨h1,h2⟩=>⟨h1,h2.symm⟩
def wG (n:Nt) (e:En):Bool:=in6 e.node 0 4&&(in6 e.born 1 (aD n e.node).born&&in6 e.num 0 (bZ n e.node e.born).length)
theorem aKg (w:World) {x1 x4:Option Addr} {k1 c1 k4 c4:Nat} {v2 v3:Value} {n:Nt} (V:SV) (e:En) (hn:jF w (.slice x1 k1 c1) v2 v3 (.slice x4 k4 c4) n) (hs:oC n):
  Calls prog 103 #[.agg #[.slice x1 k1 c1,v2,v3,.slice x4 k4 c4],aBw V e] w fun r w'=>r=.returned (.bool (wG n e))/\Below w.heap.size w w':=by
 obtain⟨f1,n1⟩:=hn.nodes;obtain⟨f4,n4⟩:=hn.past;obtain rfl:k1=5:=(aK n1).1.trans hs.nodes;obtain rfl:k4=5:=(aK n4).1.trans hs.past;obtain⟨node,born,num,s⟩:=e;have WB:Hid (wG n ⟨node,born,num,s⟩=(in6 node 0 4&&(in6 born 1 (aD n node).born&&in6 num 0 (bZ n node born).length))):=hd_ rfl
 have H0:=((M.start w).alloc #[.slice x1 5 c1,v2,v3,.slice x4 5 c4] 30).alloc #[iv node,iv born,iv num,.slice V.xr V.nr V.cr,.slice V.xf V.nf V.cf,.slice V.xt V.nt V.ct,iv s.lo,iv s.al,.slice V.xk V.nk V.ck,iv s.ka] 64;simp only[World.size_alloc]at H0
 obtain⟨w1,hw1⟩:=nm_ ((w.alloc (.cells #[.slice x1 5 c1,v2,v3,.slice x4 5 c4] 30)).alloc (.cells #[iv node,iv born,iv num,.slice V.xr V.nr V.cr,.slice V.xf V.nf V.cf,.slice V.xt V.nt V.ct,iv s.lo,iv s.al,.slice V.xk V.nk V.ck,iv s.ka] 64));obtain⟨p1,hp1⟩:=nm_ w.heap.size;obtain⟨p2,hp2⟩:=nm_ (w.heap.size+1);rw[<-hw1, <-hp2, <-hp1]at H0;have HP:=hd_ hp1;have HS:=hd_ hs;have H1:=H0.drew
 obtain⟨W,hW⟩:=nm_ w1.drew;rw[<-hW]at H1;have EW:=hd_ hW;have H:=hd_ H1;have hWB:Below w.heap.size w W:=by have:=H1.below;rwa[hp1]at this
 obtain⟨d0,d1,d2,d3,d4,d5,d6,d7,d8,d9⟩:=H1.cells10;obtain⟨a0,a1,a2,a3⟩:=H1.p1.cells4;clear H0 H1 hW hs hn;go_enter func103,ntmps103;go_wp2;rw[<-hw1, <-hp2, <-hp1];clear hw1 hp1 hp2;obtain⟨b1,hb1⟩:=nm_ (in6 node 0 4);rw[<-hb1]at WB;have K1:=hd_ (aIh hb1);cases b1 with
 |false=>
  clear hb1;refine aC 99 (.tk 0 2 (.alt 2 (.tk 3 18 .done) .nomore)) (fun w'=>bD w' (b4L p1 (.slice x1 5 c1) v2 v3 (.slice x4 5 c4)++oV p2 node born num V s)) kr_ kr_ (fun _ _ _ _ _ h=>h) (by rw[<-EW.out];exact⟨a0,a1,a2,a3,d0,d1,d2,d3,d4,d5,d6,d7,d8,d9,trivial⟩) ?_;rw[<-EW.out]
  repeat (first|refine tC_ ?_|refine tB_ ?_)
  refine aB r_ (fun K' hK=>?_);go_simp;refine (K1.out W).mono ?_;rintro e' w' ⟨rfl,hw'⟩;rw[hw'];clear hw' w';refine hK _ _ (.inr ⟨a0,a1,a2,a3,d0,d1,d2,d3,d4,d5,d6,d7,d8,d9,trivial⟩) ?_;clear hK K'
  try refine tP_ ?_
  repeat (first|refine tC_ ?_|refine tB_ ?_)
  refine aG ?_;go_wp2;go_ret;exact⟨by rw[WB.out];rfl,by have:=H.out.below;rwa[HP.out]at this⟩
 |true=>
  obtain⟨iA,iB⟩:=cO.1 hb1.symm;obtain⟨i,rfl⟩:∃i:Nat,node=i:=⟨node.toNat,o_⟩
  have i5:i<5:=o_;obtain⟨nd,hnd⟩:∃nd,n.nodes[i]? =some nd:=⟨_,List.getElem?_eq_getElem (by rw[HS.out.nodes];exact i5)⟩
  obtain⟨rs,hrs⟩:∃rs,n.past[i]? =some rs:=⟨_,List.getElem?_eq_getElem (by rw[HS.out.past];exact i5)⟩
  have eN:aD n (i:Int)=nd:=by unfold aD;rw[List.getD_eq_getElem?_getD,Int.toNat_natCast,hnd];rfl
  have eR:dF n (i:Int)=rs:=by unfold dF;rw[List.getD_eq_getElem?_getD,Int.toNat_natCast,hrs];rfl
  have eL:=HS.out.rows i i5;rw[eN,eR]at eL;rw[eN]at WB;obtain⟨g1,xk,ck,fk,rfl,_,_,_,_,_,b0,_⟩:=gM n1 hnd;obtain⟨g4,xr,cr,fr,rfl,_,_,rr,_,_,y0⟩:=mS n4 hrs;replace b0:=cell_later hWB b0;replace y0:=cell_later hWB y0;have ER:=hd_ eR;have EL:=hd_ eL;clear hb1 iA iB hnd hrs eN eR eL n1 n4;have i0:(0:Int)<=(i:Int):=o_;have i5':(i:Int)<5:=o_
  have bad:∀(hf:in6 born 1 nd.born=false),wG n ⟨(i:Int),born,num,s⟩=false:=fun hf=>by rw[WB.out,hf];rfl
  have BAD:=hd_ bad;clear bad;have C0:Hid (bD W (b4L p1 (.slice (some ⟨g1,0,none⟩) 5 c1) v2 v3 (.slice (some ⟨g4,0,none⟩) 5 c4)++(oV p2 (i:Int) born num V s++[(⟨g1,i * 5,none⟩,.int .i64 nd.born),(⟨g4,i,none⟩,.slice xr rs.length cr)]))):=hd_ ⟨a0,a1,a2,a3,d0,d1,d2,d3,d4,d5,d6,d7,d8,d9,b0,y0,trivial⟩;clear a0 a1 a2 a3 d0 d1 d2 d3 d4 d5 d6 d7 d8 d9 b0 y0;obtain⟨q1,hq1⟩:=nm_ (decide (born<1))
  obtain⟨q2,hq2⟩:=nm_ (decide (nd.born<born));have g1':=hq1.symm;have g2':=hq2.symm;have Q1:=hd_ hq1;have Q2:=hd_ hq2;clear hq1 hq2;rcases q1 with _|_
  case true=>
   have F:=hd_ (BAD.out (decide_eq_false (by have:=of_decide_eq_true Q1.out.symm;omega)))
   refine aC 99 (.tk 0 2 (.alt 2 (.tk 3 18 .done) .nomore)) (fun w'=>bD w' (b4L p1 (.slice (some ⟨g1,0,none⟩) 5 c1) v2 v3 (.slice (some ⟨g4,0,none⟩) 5 c4)++(oV p2 (i:Int) born num V s++[(⟨g1,i * 5,none⟩,.int .i64 nd.born),(⟨g4,i,none⟩,.slice xr rs.length cr)]))) kr_ kr_ (fun _ _ _ _ _ h=>h) (by rw[<-EW.out];exact C0.out) ?_;rw[<-EW.out]
   repeat (first|refine tC_ ?_|refine tB_ ?_)
   refine aB r_ (fun K' hK=>?_);go_simp;refine (K1.out W).mono ?_;rintro e' w' ⟨rfl,hw'⟩;rw[hw'];clear hw' w';refine hK _ _ (.inr C0.out) ?_;clear hK K'
   try refine tP_ ?_
   repeat (first|refine tC_ ?_|refine tB_ ?_)
   refine aG ?_;exact zAc
  have R1:=hd_ (fun (F:Prop) (h1:(born<1)->F)=>h1)
  refine aC 99 (.tk 0 2 (.alt 2 (.tk 3 18 .done) .nomore)) (fun w'=>bD w' (b4L p1 (.slice (some ⟨g1,0,none⟩) 5 c1) v2 v3 (.slice (some ⟨g4,0,none⟩) 5 c4)++(oV p2 (i:Int) born num V s++[(⟨g1,i * 5,none⟩,.int .i64 nd.born),(⟨g4,i,none⟩,.slice xr rs.length cr)]))) kr_ kr_ (fun _ _ _ _ _ h=>h) (by rw[<-EW.out];exact C0.out) ?_;rw[<-EW.out]
  repeat (first|refine tC_ ?_|refine tB_ ?_)
  refine aB r_ (fun K' hK=>?_);go_simp;refine (K1.out W).mono ?_;rintro e' w' ⟨rfl,hw'⟩;rw[hw'];clear hw' w';refine hK _ _ (.inr C0.out) ?_;clear hK K'
  try refine tP_ ?_
  repeat (first|refine tC_ ?_|refine tB_ ?_)
  refine aG ?_;rcases q2 with _|_
  case true=>
   have F:=hd_ (BAD.out (decide_eq_false (by have:=of_decide_eq_true Q2.out.symm;omega)));exact zAc
  have o1:=of_decide_eq_false Q1.out.symm;have o2:=of_decide_eq_false Q2.out.symm;obtain⟨j,rfl⟩:∃j:Nat,born=j:=⟨born.toNat,o_⟩
  have jr:j<rs.length:=by have:=EL.out;omega
  obtain⟨lp,hlp⟩:∃lp,rs[j]? =some lp:=⟨_,List.getElem?_eq_getElem jr⟩
  have EP:Hid (bZ n (i:Int) (j:Int)=lp):=hd_ (by unfold bZ;rw[ER.out,List.getD_eq_getElem?_getD,Int.toNat_natCast,hlp];rfl);obtain⟨g5,xl,cl,fl,rfl,_,_,_,lc,lm,y1⟩:=mL rr hlp;replace y1:=cell_later hWB y1;have WB2:Hid (wG n ⟨(i:Int),(j:Int),num,s⟩=in6 num 0 (lp.length:Int)):=hd_ (by rw[WB.out,EP.out,show in6 (j:Int) 1 nd.born=true from decide_eq_true o_];rfl)
  have j0:(0:Int)<=(j:Int):=o_;have j1:(j:Int)<(rs.length:Int):=o_;have C1:=hd_ (show bD W.drew (b4L p1 (.slice (some ⟨g1,0,none⟩) 5 c1) v2 v3 (.slice (some ⟨g4,0,none⟩) 5 c4)++(oV p2 (i:Int) (j:Int) num V s++[(⟨g4,i,none⟩,.slice (some ⟨g5,0,none⟩) rs.length cr),(⟨g5,j,none⟩,.slice xl lp.length cl)])) by
      refine bD.below (W:=W) ?_ (Below.drew (Below.refl _ _))
      obtain⟨c0,c1,c2,c3,e0,e1,e2,e3,e4,e5,e6,e7,e8,e9,_,t0,_⟩:=C0.out
      exact⟨c0,c1,c2,c3,e0,e1,e2,e3,e4,e5,e6,e7,e8,e9,t0,y1,trivial⟩)
  clear o1 o2 hlp rr lc lm y1 jr C0 BAD WB Q1 Q2 K1;obtain⟨q3,hq3⟩:=nm_ (decide (0<=num));obtain⟨q4,hq4⟩:=nm_ (decide (num<=(lp.length:Int)));have WB3:Hid (wG n ⟨(i:Int),(j:Int),num,s⟩=(q3&&q4)):=hd_ (by
      rw[WB2.out,hq3,hq4]
      unfold in6
      by_cases x:0<=num<;>by_cases y:num<=(lp.length:Int)<;>simp[x,y])
  have g3':=hq3.symm;have g4':=hq4.symm;clear hq3 hq4 WB2;have H2:=hd_ H.out.drew;rcases q3 with _|_
  all_goals
   go_wp2;refine aC 99 (.tk 0 19 (.alt 19 .done .nomore)) (fun w'=>bD w' (b4L p1 (.slice (some ⟨g1,0,none⟩) 5 c1) v2 v3 (.slice (some ⟨g4,0,none⟩) 5 c4)++(oV p2 (i:Int) (j:Int) num V s++[(⟨g4,i,none⟩,.slice (some ⟨g5,0,none⟩) rs.length cr),(⟨g5,j,none⟩,.slice xl lp.length cl)]))) kr_ kr_ (fun _ _ _ _ _ h=>h) C1.out ?_
   repeat (first|refine tC_ ?_|refine tB_ ?_)
   refine aB r_ (fun K' hK=>?_);go_simp;refine hK _ _ (.inr C1.out) ?_;clear hK K';refine aG ?_;go_wp2;go_ret;exact⟨by rw[WB3.out];rfl,by have:=H2.out.below;rwa[HP.out]at this⟩
end N
end Go.Proofs.YtcblbdpdbggkbaaGreat
namespace Go.Proofs.YtcblbdpdbggkbaaGreat
open _root_.Go.Proofs.Tryz
open Go.RowKit Go.Sort Go.ChangeMaps
namespace N
def moV (k:Int × Int × Int):Value:=.agg #[iv k.1,iv k.2.1,iv k.2.2]
def aK8 (x:Int):Prop:= -9223372036854775808<=x/\x<9223372036854775808
def aFd (k:Int × Int × Int):Prop:=aK8 k.1/\aK8 k.2.1/\aK8 k.2.2
theorem moT:aEn prog 234 aFd moV:=by
 refine⟨Go.Maps.Keyed.of_law (deep_law_gate kr_ (by decide+kernel) (by decide+kernel) kr_ kr_),fun k hk=>?_,fun x y h=>?_⟩
 ·obtain⟨⟨a0,a1⟩,⟨b0,b1⟩,c0,c1'⟩:=hk
  have c3:prog.cellsOf 234=3:=by kernel_rfl
  have c1:prog.cellsOf 3=1:=by kernel_rfl
  have ht:prog.keyType 234=true:=by kernel_rfl
  have hn:1<=prog.types.size:=by decide+kernel
  obtain⟨d,hd⟩:∃d,prog.types.size+1=d+2:=⟨prog.types.size - 1,o_⟩
  have w1:(Lit.int .i64 k.1).wf=true:=by simp[Lit.wf,IntKind.min,IntKind.max,IntKind.bits,IntKind.signed];omega
  have w2:(Lit.int .i64 k.2.1).wf=true:=by simp[Lit.wf,IntKind.min,IntKind.max,IntKind.bits,IntKind.signed];omega
  have w3:(Lit.int .i64 k.2.2).wf=true:=by simp[Lit.wf,IntKind.min,IntKind.max,IntKind.bits,IntKind.signed];omega
  refine⟨.string (keyBytes [.int .i64 k.1,.int .i64 k.2.1,.int .i64 k.2.2]),?_⟩;have hl:prog.keyLits (d+2) 234 [.int .i64 k.1,.int .i64 k.2.1,.int .i64 k.2.2]=some [.int .i64 k.1,.int .i64 k.2.1,.int .i64 k.2.2]:=by
   simp only[Program.keyLits,underlying234,c3];simp[Program.keyLits,c1,underlying3,w1,w2,w3]
  have hf:(moV k).formed prog 234=true:=by unfold moV Value.formed;simp only[underlying234,c3];rfl
  have hc:(moV k).cells.toList=[.int .i64 k.1,.int .i64 k.2.1,.int .i64 k.2.2]:=rfl;simp only[keyOf,underlying234,ht,hf,hd,hc,hl,Bool.and_self,if_true,Option.map_some]
 ·unfold moV at h
  injection h with h
  have h':=congrArg Array.toList h;simp at h';exact Prod.ext h'.1 (Prod.ext h'.2.1 h'.2.2)
theorem aKh:(prog.info? 46).map (fun i=>(i.zero,i.size,i.bytes))=some (some (.agg #[zn,zn,zn,iv 0,iv 0,zn,iv 0]),7,120):=by kernel_rfl
theorem aNs (w:World):(zeroValue 46).run prog w=.ok (.agg #[zn,zn,zn,iv 0,iv 0,zn,iv 0]) w:=by
 obtain⟨i,hi,hz,_⟩:=info_parts aKh;simp[zeroValue,typeInfo,hi,hz]
abbrev aNw (V:SV) (s:Sm):Ch:=aQ.ch (cS V s) s
def zH (m:Nat) (S:Int × Int × Int->Sm) (g:Int × Int × Int->Option Value) (w:World) (f:List Nat):Prop:=(∀b ∈ f,b<w.heap.size)/\m ∈ f/\aAJ aFd moV w m g/\∀k v,g k=some v->∃V:SV,∃fp:List Nat,v=.agg #[.slice V.xr V.nr V.cr,.slice V.xf V.nf V.cf,.slice V.xt V.nt V.ct,.int .i64 (S k).lo,.int .i64 (S k).al,.slice V.xk V.nk V.ck,.int .i64 (S k).ka]/\qC w (cS V (S k)) (S k) fp/\∀b ∈ fp,b ∈ f/\b≠m
theorem zH.keep {m:Nat} {S:Int × Int × Int->Sm} {g:Int × Int × Int->Option Value} {w w':World} {f:List Nat} (h:zH m S g w f) (hk:∀b ∈ f,w'.heap[b]? =w.heap[b]?) (hs:w.heap.size<=w'.heap.size):zH m S g w' f:=by
 obtain⟨lt,hm,⟨es,c,hb,r⟩,hg⟩:=h;refine⟨fun b hb=>Nat.lt_of_lt_of_le (lt b hb) hs,hm,⟨es,c,(hk m hm).trans hb,r⟩,fun k v hv=>?_⟩;obtain⟨V,fp,e,hr,hf⟩:=hg k v hv;exact⟨V,fp,e,aQ.keep hr (fun b hb=>hk b (hf b hb).1) hs,hf⟩
def aKQ (m:Nat) (S:Int × Int × Int->Sm) (g:Int × Int × Int->Option Value):Ch:=⟨fun w f=>zH m S g w f,fun h=>h.1,fun h=>h.keep⟩
def kR (m:Nat) (S:Int × Int × Int->Sm):Ch:=Ch.ex (aKQ m S)
def vO (m:Nat) (V:SV) (s:Sm) (w:World) (f:List Nat):Prop:=∃fp:List Nat,qC w (cS V s) s fp/\∀b ∈ fp,b ∈ f/\b≠m
theorem vO.keep {m:Nat} {V:SV} {s:Sm} {w w':World} {f:List Nat} (h:vO m V s w f) (hk:∀b ∈ f,w'.heap[b]? =w.heap[b]?) (hs:w.heap.size<=w'.heap.size):vO m V s w' f:=by
 obtain⟨fp,hr,hf⟩:=h;exact⟨fp,aQ.keep hr (fun b hb=>hk b (hf b hb).1) hs,hf⟩
def aHh (m:Nat) (S:Int × Int × Int->Sm) (V:SV) (s:Sm) (g:Int × Int × Int->Option Value):Ch:=⟨fun w f=>zH m S g w f/\vO m V s w f,fun h=>h.1.1,fun h hk hs=>⟨h.1.keep hk hs,h.2.keep hk hs⟩⟩
def rC (m:Nat) (S:Int × Int × Int->Sm) (V:SV) (s:Sm):Ch:=Ch.ex (aHh m S V s)
section
variable {B m:Nat} {w w0:World} {l:List Ch} {S:Int × Int × Int->Sm} {k:Int × Int × Int} {V:SV} {s:Sm}
theorem aJW (h:M B w0 w l) (S:Int × Int × Int->Sm):M B w0 (w.alloc (.map #[] 0)) (kR w.heap.size S::l):=
 M.in (c:=aKQ w.heap.size S) (fun _=>none) ((h.map aFd moV).to fun f hf nd=>by
    obtain⟨hm,rfl⟩:=hf
    exact⟨_,⟨fun b hb=>by rw[List.mem_singleton.1 hb];simp,List.mem_singleton_self _,hm,fun k v hv=>by cases hv⟩,nd,fun b hb=>hb⟩)
theorem sJ (h:M B w0 w (rC m S V s::l)):M B w0 w (kR m S::l):=by
 obtain⟨g,h⟩:=M.ex h;exact M.in (c:=aKQ m S) g (h.to fun f hf nd=>⟨f,hf.1,nd,fun b hb=>hb⟩)
theorem aC0 (h:M B w0 w (rC m S V s::l)):RdS w V s:=by
 obtain⟨g,h⟩:=M.ex h;obtain⟨f,⟨_,fp,hr,_⟩,_⟩:=h.first;exact tU hr
theorem aEt (h:M B w0 w (aNw V s::kR m S::l)):M B w0 w (rC m S V s::l):=by
 obtain⟨g,h⟩:=M.ex (M.p1 h);exact M.in (c:=aHh m S V s) g ((M.sep h).to fun f hf nd=>by
    obtain⟨f2,f1,rfl,h2,h1⟩:=hf
    obtain⟨n1,n2,n3⟩:=List.nodup_append.1 nd
    have l1:=aQ.lt h1
    obtain⟨lt,hm,hmap,hg⟩:=h2
    refine⟨f2++f1,⟨⟨fun b hb=>?_,List.mem_append_left _ hm,hmap,fun k v hv=>?_⟩,f1,h1,fun b hb=>⟨List.mem_append_right _ hb,fun e=>n3 m hm b hb e.symm⟩⟩,nd,fun b hb=>hb⟩
    · rcases List.mem_append.1 hb with q|q
      · exact lt b q
      · exact l1 b q
    · obtain⟨V',fp,e,hr,hf⟩:=hg k v hv
      exact⟨V',fp,e,hr,fun b hb=>⟨List.mem_append_left _ (hf b hb).1,(hf b hb).2⟩⟩)
theorem aIT (h:M B w0 w (kR m S::l)) (hk:aFd k):∃(b:Bool) (V:SV) (s:Sm),(Instr.lookup 118 (.map (some m)) (moV k) true).run prog w=.ok (.tuple #[.agg #[.slice V.xr V.nr V.cr,.slice V.xf V.nf V.cf,.slice V.xt V.nt V.ct,iv s.lo,iv s.al,.slice V.xk V.nk V.ck,iv s.ka],.bool b]) w/\(b=true->s=S k/\M B w0 w (rC m S V s::l)):=by
 obtain⟨g,h⟩:=M.ex h;obtain⟨f,hf,_⟩:=h.first;have hr:=hf.2.2.1.look moT underlying118 (aNs w) hk true;cases hgk:g k with
 |none=>
  rw[hgk]at hr;exact⟨false,SV.none,eC,hr,fun e=>by cases e⟩
 |some v=>
  obtain⟨V,fp,rfl,hs,hfp⟩:=hf.2.2.2 k v hgk;rw[hgk]at hr;refine⟨true,V,S k,hr,fun _=>⟨rfl,M.in (c:=aHh m S V (S k)) g (h.to fun f' hf' nd=>?_)⟩⟩;obtain⟨V',fp',e',hs',hfp'⟩:=hf'.2.2.2 k _ hgk;obtain rfl:V=V':=aCR (s:=S k) (by simpa using e');exact⟨f',⟨hf',fp',hs',hfp'⟩,nd,fun b hb=>hb⟩
theorem aJZ (h:M B w0 w (rC m S V (S k)::l)) (hk:aFd k):∃w',(Instr.mapUpdate 118 (.map (some m)) (moV k) (vS V (S k))).run prog w=.ok () w'/\M B w0 w' (rC m S V (S k)::l)/\w'.heap.size=w.heap.size:=by
 obtain⟨g,h⟩:=M.ex h;obtain⟨f0,hf0,_⟩:=h.first;obtain⟨es,c,hr,hm⟩:=hf0.1.2.2.1.store moT underlying118 hk (vS V (S k));refine⟨_,hr,M.in (c:=aHh m S V (S k)) (fun y=>if y=k then some (vS V (S k))else g y) (h.turn fun f hf nd lo=>?_),by simp[setBlock]⟩;obtain⟨⟨lt,hm0,_,hg⟩,fp,hs,hfp⟩:=hf;have sz:(setBlock w m (.map es c)).heap.size=w.heap.size:=by simp[setBlock]
 have other:∀q,q≠m->(setBlock w m (.map es c)).heap[q]? =w.heap[q]? :=fun q hq=>by
  have ne:¬m=q:=fun e=>hq e.symm
  simp[setBlock,Array.getElem?_setIfInBounds,ne]
 have keep:∀{V2:SV} {s2:Sm} {fp':List Nat},qC w (cS V2 s2) s2 fp'->(∀b ∈ fp',b ∈ f/\b≠m)->qC (setBlock w m (.map es c)) (cS V2 s2) s2 fp':=fun hr' hf'=>aQ.keep hr' (fun b hb=>other b (hf' b hb).2) (Nat.le_of_eq sz.symm)
 refine⟨⟨rfl,rfl,rfl,Nat.le_of_eq sz.symm,fun q _ hq=>other q fun e=>hq (by rw[e];exact hm0)⟩,f,⟨⟨fun b hb=>by rw[sz];exact lt b hb,hm0,hm,fun y v hv=>?_⟩,fp,keep hs hfp,hfp⟩,nd,fun b hb=>.inl hb⟩
 by_cases e:y=k
 ·subst e
  obtain rfl:Value.agg (cS V (S y))=v:=by simpa using hv
  exact⟨V,fp,rfl,keep hs hfp,hfp⟩
 ·replace hv:=(if_neg e).symm.trans hv
  obtain⟨V',fp',e1,hr',hf'⟩:=hg y v hv;exact⟨V',fp',e1,keep hr' hf',hf'⟩
theorem aLZ {K:Act->World->Prop} {o:Oper} {a:Act} {Q:Exit->Act->World->Prop} {mo ko vo:Operand} (h:M B w0 w (rC m S V s::l)) (hk:aFd k) (es:s=S k) (hop:o.op=.mapUpdate 118 mo ko vo) {x y:Value}
  (hm:a.eval mo=.map (some m)) (hx:a.eval ko=x) (hy:a.eval vo=y) (ex:x=moV k) (ey:y=.agg #[.slice V.xr V.nr V.cr,.slice V.xf V.nf V.cf,.slice V.xt V.nt V.ct,iv s.lo,iv s.al,.slice V.xk V.nk V.ck,iv s.ka]) (n:∀w',M B w0 w' (rC m S V s::l)->K (a.put o.dst undef) w'):o.wp prog a w K Q:=by
 subst es;obtain⟨w',hr,hM,hs⟩:=aJZ h hk;rw[<-ex, <-ey]at hr;clear ex ey;unfold Oper.wp;simp[execOp,hop,hm,hx,hy,hr,Result.andThen,Oper.upon];exact n w' hM
theorem aER {ops:Array Oper} {rest:List Oper} {o:Oper} {a:Act} {Q:Exit->Act->World->Prop} {mo ko vo:Operand} (h:M B w0 w (rC m S V s::l)) (hk:aFd k) (es:s=S k) (hgd:o.guard=none) (hop:o.op=.mapUpdate 118 mo ko vo) {x y:Value}
  (hm:a.eval mo=.map (some m)) (hx:a.eval ko=x) (hy:a.eval vo=y) (ex:x=moV k) (ey:y=.agg #[.slice V.xr V.nr V.cr,.slice V.xf V.nf V.cf,.slice V.xt V.nt V.ct,iv s.lo,iv s.al,.slice V.xk V.nk V.ck,iv s.ka]) (n:∀w',M B w0 w' (rC m S V s::l)->wpList prog ops Q rest (a.put o.dst undef) w'):wpList prog ops Q (o::rest) a w:=
 wpList_plain hgd fun _ hK=>aLZ h hk es hop hm hx hy ex ey fun w' h1=>hK _ _ (n w' h1)
end
end N
end Go.Proofs.YtcblbdpdbggkbaaGreat
namespace Go.Proofs.YtcblbdpdbggkbaaGreat
open _root_.Go.Proofs.Tryz
open Go.RowKit Go.Sort
def aBt (V:SV):Value:=.iface 36 (.agg #[.slice V.xr V.nr V.cr])
def aBq (V:SV):Value:=.iface 38 (.agg #[.slice V.xf V.nf V.cf])
def aBu (V:SV) (s:Sm):Value:=.iface 41 (.agg #[.slice V.xt V.nt V.ct,iv s.lo,iv s.al])
def aBB (V:SV) (s:Sm):Value:=.iface 44 (.agg #[.slice V.xk V.nk V.ck,iv s.ka])
theorem aKS (w:World) (x:Option Addr) (n c:Nat) (rs:List (List Int)) (h:Rws w (.slice x n c) rs):
  Calls prog 352 #[.agg #[.slice x n c]] w fun e w'=>e=.returned (.bool (okB rs))/\Below w.heap.size w w':=by
 have hA:=(Below.refl w.heap.size w).alloc lr_ (.cells #[.slice x n c] 36);have K:=hd_ (aMb _ _ rs (h.below hA lr_));have HA:=hd_ hA;clear h hA;go_enter func352,ntmps352
 go_wp2_with fail
 refine K.out.mono ?_;rintro e w1 ⟨rfl,hb⟩;go_wp2;go_ret;exact⟨rfl,HA.out.trans (hb.mono HA.out.size)⟩
theorem aKm (w:World) (x:Option Addr) (n c:Nat) (zs:List Int) (h:cW w (.slice x n c) zs):
  Calls prog 353 #[.agg #[.slice x n c]] w fun e w'=>e=.returned (.bool (eE zs))/\Below w.heap.size w w':=by
 have hA:=(Below.refl w.heap.size w).alloc lr_ (.cells #[.slice x n c] 38);have K:=hd_ (nL _ _ zs (h.below hA lr_));have HA:=hd_ hA;clear h hA;go_enter func353,ntmps353
 go_wp2_with fail
 refine K.out.mono ?_;rintro e w1 ⟨rfl,hb⟩;go_wp2;go_ret;exact⟨rfl,HA.out.trans (hb.mono HA.out.size)⟩
theorem aKq (w:World) (x:Option Addr) (n c:Nat) (ps:List T.Pr) (lo al:Int) (h:T.Prs w (.slice x n c) ps):
  Calls prog 354 #[.agg #[.slice x n c,iv lo,iv al]] w fun e w'=>e=.returned (.bool (T.cV ps lo al))/\Below w.heap.size w w':=by
 have hA:=(Below.refl w.heap.size w).alloc lr_ (.cells #[.slice x n c,iv lo,iv al] 41);have K:=hd_ (T.nW _ _ ps lo al (h.below hA lr_));have HA:=hd_ hA;clear h hA;go_enter func354,ntmps354
 go_wp2_with fail
 refine K.out.mono ?_;rintro e w1 ⟨rfl,hb⟩;go_wp2;go_ret;exact⟨rfl,HA.out.trans (hb.mono HA.out.size)⟩
theorem aJz (w:World) (x:Option Addr) (n c:Nat) (ps:List K.Pr) (al:Int) (h:K.Prs w (.slice x n c) ps):
  Calls prog 355 #[.agg #[.slice x n c,iv al]] w fun e w'=>e=.returned (.bool (K.cL ps al))/\Below w.heap.size w w':=by
 have hA:=(Below.refl w.heap.size w).alloc lr_ (.cells #[.slice x n c,iv al] 44);have K:=hd_ (K.mD _ _ ps al (h.below hA lr_));have HA:=hd_ hA;clear h hA;go_enter func355,ntmps355
 go_wp2_with fail
 refine K.out.mono ?_;rintro e w1 ⟨rfl,hb⟩;go_wp2;go_ret;exact⟨rfl,HA.out.trans (hb.mono HA.out.size)⟩
theorem xJ (w:World) (V:SV) (s:Sm):
  Calls prog 105 #[.agg #[.slice V.xr V.nr V.cr,.slice V.xf V.nf V.cf,.slice V.xt V.nt V.ct,iv s.lo,iv s.al,.slice V.xk V.nk V.ck,iv s.ka]] w fun e w'=>e=.returned (.agg #[aBt V,aBq V,aBu V s,aBB V s])/\Below w.heap.size w w':=by
 obtain⟨xr,nr,cr,xf,nf,cf,xt,nt,ct,xk,nk,ck⟩:=V;obtain⟨rs,zs,ps,lo,al,ks,ka⟩:=s;unfold aBt aBq aBu aBB;simp only;go_enter func105,ntmps105;go_wp2
 go_returns
 exact⟨rfl,((Below.refl _ _).alloc lr_ _).alloc (by simp) _⟩
theorem wR (a b c d:Value) (w:World):(Instr.index 143 (.agg #[a,b,c,d]) (iv 0)).run prog w=.ok a w/\(Instr.index 143 (.agg #[a,b,c,d]) (iv 1)).run prog w=.ok b w/\
  (Instr.index 143 (.agg #[a,b,c,d]) (iv 2)).run prog w=.ok c w/\(Instr.index 143 (.agg #[a,b,c,d]) (iv 3)).run prog w=.ok d w:=
 ⟨by kernel_rfl,by kernel_rfl,by kernel_rfl,by kernel_rfl⟩
def aJS (s:Sm) (j:Nat):Prop:=(0<j->okB s.rs=true)/\(1<j->eE s.zs=true)/\(2<j->T.cV s.ps s.lo s.al=true)/\(3<j->K.cL s.ks s.ka=true)
theorem jU (w:World) (V:SV) (s:Sm) (h:RdS w V s):
  Calls prog 41 #[.agg #[.slice V.xr V.nr V.cr,.slice V.xf V.nf V.cf,.slice V.xt V.nt V.ct,iv s.lo,iv s.al,.slice V.xk V.nk V.ck,iv s.ka]] w fun e w'=>e=.returned (.bool (okS s))/\Below w.heap.size w w':=by
 have hA:=(Below.refl w.heap.size w).alloc lr_ (.cells (cS V s) 46);have X0:=aI.new w 46 (.slice V.xr V.nr V.cr) (.slice V.xf V.nf V.cf) (.slice V.xt V.nt V.ct) (iv s.lo) (iv s.al) (.slice V.xk V.nk V.ck) (iv s.ka);have HA:=hd_ hA;have R0:=hd_ (h.below hA lr_);have KW:=hd_ (xJ (w.alloc (.cells (cS V s) 46)) V s);have fl:=hd_ h.lens.2.1;clear h hA;go_enter func41,ntmps41
 go_wp2_with fail
 refine KW.out.mono ?_;rintro e w1 ⟨rfl,hb1⟩;have X1:=X0.later hb1;have R1:=hd_ (R0.out.later hb1);have B1:=hd_ (HA.out.trans (hb1.mono HA.out.size));clear hb1 X0 R0 HA KW;go_wp2;go_loopw [8] (fun i wr=>∃j:Nat,i=.int .i64 j/\j<=4/\aJS s j/\Below w1.heap.size w1 wr) (fun i _=>4 - (intOf i).toNat)
 case atStart=>exact⟨0,rfl,o_,by simp[aJS],Below.refl _ _⟩
 case round=>
  obtain⟨j,rfl,hj,hu,hbl⟩:=hrel;have HU:=hd_ hu;have HB:=hd_ hbl;have R2:=hd_ (R1.out.below hbl lr_);have X2:=X1.later hbl;clear hu hbl;have IW:=fun w=>wR (aBt V) (aBq V) (aBu V s) (aBB V s) w
  unfold aBt aBq aBu aBB at IW ⊢;rcases (by omega:j=4\/j=0\/j=1\/j=2\/j=3)with rfl|rfl|rfl|rfl|rfl
  ·clear IW
   have u:=HU.out;have r1:=u.1 o_;have f1:=u.2.1 o_;have t1:=u.2.2.1 o_;have k1:=u.2.2.2 o_;have hok:okS s=(decide (dA s.rs=s.al)&&(decide (s.al=s.ka)&&decide (0<s.zs.length↔0<s.al))):=by
    unfold okS;rw[r1,f1,t1,k1]
    rfl
   have HOK:=hd_ hok;have KA:=hd_ (sK wr _ s.rs R2.out.r);obtain⟨A,hA⟩:=nm_ (dA s.rs);rw[<-hA]at KA;have HAA:=hd_ hA;clear u r1 f1 t1 k1 hok hA HU;obtain⟨c0,c1,c2,c3,c4,c5,c6⟩:=X2.cells
   go_wp2_with fail
   refine KA.out.mono ?_;rintro e w2 ⟨rfl,hb2⟩;have X3:=X2.later hb2;have HB2:=hd_ (HB.out.trans (hb2.mono HB.out.size));clear hb2 c0 c1 c2 c3 c4 c5 c6 X2 R2 KA;obtain⟨c0,c1,c2,c3,c4,c5,c6⟩:=X3.cells;rw[<-HAA.out]at HOK;have hn:=fl.out;go_wp2
   all_goals
    go_ret;refine⟨?_,B1.out.trans (HB2.out.mono B1.out.size)⟩;rw[HOK.out];refine congrArg (fun b=>Ending.returned (Value.bool b)) ?_;rw[Bool.eq_iff_iff];simp;omega
  ·have I1:=fun w=>(IW w).1
   clear IW;have KI:=hd_ (aKS wr _ _ _ s.rs R2.out.r);obtain⟨ok,hok⟩:=nm_ (okB s.rs);rw[<-hok]at KI;have HOK:=hd_ hok;clear hok
   go_wp2_with fail
   refine KI.out.mono ?_;rintro e w2 ⟨rfl,hb2⟩;have HB2:=hd_ (HB.out.trans (hb2.mono HB.out.size));clear hb2 KI;cases ok with
   |false=>
    exact zAD
   |true=>
    go_wp2;go_roundw
    case rel=>exact⟨1,rfl,o_,⟨fun _=>HOK.out.symm,fun q=>by omega,fun q=>by omega,fun q=>by omega⟩,HB2.out⟩
    case measure=>simp[intOf]
  ·have I1:=fun w=>(IW w).2.1
   clear IW;have KI:=hd_ (aKm wr _ _ _ s.zs R2.out.f);obtain⟨ok,hok⟩:=nm_ (eE s.zs);rw[<-hok]at KI;have HOK:=hd_ hok;clear hok
   go_wp2_with fail
   refine KI.out.mono ?_;rintro e w2 ⟨rfl,hb2⟩;have HB2:=hd_ (HB.out.trans (hb2.mono HB.out.size));clear hb2 KI;cases ok with
   |false=>
    exact zAD
   |true=>
    go_wp2;go_roundw
    case rel=>exact⟨2,rfl,o_,⟨fun _=>HU.out.1 o_,fun _=>HOK.out.symm,fun q=>by omega,fun q=>by omega⟩,HB2.out⟩
    case measure=>simp[intOf]
  ·have I1:=fun w=>(IW w).2.2.1
   clear IW;have KI:=hd_ (aKq wr _ _ _ s.ps s.lo s.al R2.out.t);obtain⟨ok,hok⟩:=nm_ (T.cV s.ps s.lo s.al);rw[<-hok]at KI;have HOK:=hd_ hok;clear hok
   go_wp2_with fail
   refine KI.out.mono ?_;rintro e w2 ⟨rfl,hb2⟩;have HB2:=hd_ (HB.out.trans (hb2.mono HB.out.size));clear hb2 KI;cases ok with
   |false=>
    exact zAD
   |true=>
    go_wp2;go_roundw
    case rel=>exact⟨3,rfl,o_,⟨fun _=>HU.out.1 o_,fun _=>HU.out.2.1 o_,fun _=>HOK.out.symm,fun q=>by omega⟩,HB2.out⟩
    case measure=>simp[intOf]
  ·have I1:=fun w=>(IW w).2.2.2
   clear IW;have KI:=hd_ (aJz wr _ _ _ s.ks s.ka R2.out.k);obtain⟨ok,hok⟩:=nm_ (K.cL s.ks s.ka);rw[<-hok]at KI;have HOK:=hd_ hok;clear hok
   go_wp2_with fail
   refine KI.out.mono ?_;rintro e w2 ⟨rfl,hb2⟩;have HB2:=hd_ (HB.out.trans (hb2.mono HB.out.size));clear hb2 KI;cases ok with
   |false=>
    exact zAD
   |true=>
    go_wp2;go_roundw
    case rel=>exact⟨4,rfl,o_,⟨fun _=>HU.out.1 o_,fun _=>HU.out.2.1 o_,fun _=>HU.out.2.2.1 o_,fun _=>HOK.out.symm⟩,HB2.out⟩
    case measure=>simp[intOf]
theorem aLH (t:Int):uM t=⟨wD gW t 1,kP [] t,(T.gJ [] 0 0 t).1,(T.gJ [] 0 0 t).2.1,(T.gJ [] 0 0 t).2.2,(K.mG [] 0 t).1,(K.mG [] 0 t).2⟩:=by
 by_cases h:0<=t/\t<=63
 ·have A:=wZ (s:=fE) (t:=t) (by rw[pE];exact decide_eq_true h)
  unfold uM;rw[kH (by rw[pE];exact decide_eq_true h)];unfold aAb wD;rw[show nZ gW t 1=true from A.r]
  rfl
 ·rw[aJ6 h]
  have a:nZ gW t 1=false:=by
   cases q:nZ gW t 1 with
   |false=>rfl
   |true=>have:=(kQ _ _ _).1 q;omega
  have b:fF [] t=false:=by
   unfold fF jL;rw[decide_eq_false o_];cases eE []<;>rfl
  have c:T.iJ [] 0 0 t=false:=by
   unfold T.iJ T.isT;rw[decide_eq_false o_];cases T.cV [] 0 0<;>rfl
  have d:K.fT [] 0 t=false:=by
   unfold K.fT;rw[decide_eq_false o_];cases K.cL [] 0<;>rfl
  unfold wD;rw[a,aDa b,T.aHr c,K.aC9 d]
  rfl
theorem aJR (w:World) (t:Int):
  Calls prog 174 #[iv t] w fun e w'=>∃V,e=.returned (vS V (uM t))/\aV w' w.heap.size w'.heap.size V (uM t)/\Below w.heap.size w w':=by
 obtain⟨A,hAA⟩:=nm_ (wD gW t 1);have HAA:=hd_ hAA;clear hAA;have hA:=(Below.refl w.heap.size w).alloc lr_ (.cells #[zn,zn,zn,iv 0,iv 0,zn,iv 0] 46);have B:=hd_ (hA);clear hA;have R:=aI.new w 46 zn zn zn (iv 0) (iv 0) zn (iv 0);have S0:Hid ((w.alloc (.cells #[zn,zn,zn,iv 0,iv 0,zn,iv 0] 46)).heap.size=w.heap.size+1):=by show _=_;simp
 go_enter func174,ntmps174
 go_wp2_with fail
 refine (aAs _).mono ?_;rintro e w1 ⟨u,G,C,rfl,ho,hb⟩;obtain⟨x1,c1,rfl⟩:=ho.form;replace B:=hd_ (B.out.trans (hb.mono B.out.size));replace R:=R.later hb;have P1:=hd_ (ho.rws);clear hb;clear ho;have KA:=aLJ w1 _ gW t 1 P1.out;rw[<-HAA.out]at KA;generalize nZ gW t 1=o1 at KA
 go_wp2_with fail
 refine (KA).mono ?_;rintro e w2 ⟨x2,c2,rfl,ho,hb⟩;obtain⟨n2,hn2⟩:=nm_ A.length;rw[<-hn2]at ho ⊢;have L2:=hd_ B.out.size;have S2:=hd_ hb.size;clear hn2 KA;clear P1;replace B:=hd_ (B.out.trans (hb.mono B.out.size));replace R:=R.later hb;have O2:=hd_ (ho);clear hb;obtain⟨W2,hW⟩:=nm_ (w2.alloc (.cells #[.slice x2 n2 c2] 36))
 replace B:=hd_ ((B.out).alloc (Nat.le_trans B.out.size (by simp)) (.cells #[.slice x2 n2 c2] 36));rw[<-hW]at B;replace R:=R.alloc (.cells #[.slice x2 n2 c2] 36);rw[<-hW]at R;replace O2:=hd_ (O2.out.alloc (.cells #[.slice x2 n2 c2] 36));rw[<-hW]at O2;have X2:=Go.Boxed.new w2 36 (.slice x2 n2 c2);rw[<-hW]at X2
 go_wp2_with fail
 rw[<-hW];clear hW;clear ho;have KA:=aE4 W2 zn [] t (.inl ⟨rfl,rfl⟩);obtain⟨F,hF⟩:=nm_ (kP [] t);rw[<-hF]at KA;have HF:=hd_ hF;generalize fF [] t=o2 at KA;clear hF
 go_wp2_with fail
 refine (KA).mono ?_;rintro e w3 ⟨v,rfl,ho,hb⟩;obtain⟨x3,c3,rfl⟩:=ho.form';obtain⟨n3,hn3⟩:=nm_ F.length;rw[<-hn3]at ho ⊢;have T2:=hd_ O2.out.top;have L3':=hd_ (Nat.le_trans L2.out (show w1.heap.size<=w2.heap.size from S2.out));clear hn3 KA;replace B:=hd_ (B.out.trans (hb.mono B.out.size));replace R:=R.later hb;replace O2:=hd_ (O2.out.below hb);replace X2:=lY X2 hb;have O3:=hd_ (ho)
 clear hb;obtain⟨W3,hW⟩:=nm_ (w3.alloc (.cells #[.slice x3 n3 c3] 38));replace B:=hd_ ((B.out).alloc (Nat.le_trans B.out.size (by simp)) (.cells #[.slice x3 n3 c3] 38));rw[<-hW]at B;replace R:=R.alloc (.cells #[.slice x3 n3 c3] 38);rw[<-hW]at R;replace O2:=hd_ (O2.out.alloc (.cells #[.slice x3 n3 c3] 38));rw[<-hW]at O2;replace X2:=X2.alloc (.cells #[.slice x3 n3 c3] 38);rw[<-hW]at X2
 replace O3:=hd_ (O3.out.alloc (.cells #[.slice x3 n3 c3] 38));rw[<-hW]at O3;have X3:=Go.Boxed.new w3 38 (.slice x3 n3 c3);rw[<-hW]at X3
 go_wp2_with fail
 rw[<-hW];clear hW;clear ho;have KA:=T.aEq W3 zn [] 0 0 t (.inl ⟨rfl,rfl⟩);obtain⟨TT,hF⟩:=nm_ (T.gJ [] 0 0 t);rw[<-hF]at KA;have HT:=hd_ hF;generalize T.iJ [] 0 0 t=o3 at KA;obtain⟨tp,tl,ta⟩:=TT;simp only at KA;clear hF
 go_wp2_with fail
 refine (KA).mono ?_;rintro e w4 ⟨v,rfl,ho,hb⟩;obtain⟨x4,c4,rfl⟩:=ho.form';obtain⟨n4,hn4⟩:=nm_ tp.length;rw[<-hn4]at ho ⊢;have T3:=hd_ O3.out.lt;have L4:=hd_ B.out.size;clear hn4 KA;replace B:=hd_ (B.out.trans (hb.mono B.out.size));replace R:=R.later hb;replace O2:=hd_ (O2.out.below hb);replace X2:=lY X2 hb;replace O3:=hd_ (O3.out.below hb);replace X3:=lY X3 hb;have O4:=hd_ (ho)
 clear hb;obtain⟨W4,hW⟩:=nm_ (w4.alloc (.cells #[.slice x4 n4 c4,iv tl,iv ta] 41));replace B:=hd_ ((B.out).alloc (Nat.le_trans B.out.size (by simp)) (.cells #[.slice x4 n4 c4,iv tl,iv ta] 41));rw[<-hW]at B;replace R:=R.alloc (.cells #[.slice x4 n4 c4,iv tl,iv ta] 41);rw[<-hW]at R;replace O2:=hd_ (O2.out.alloc (.cells #[.slice x4 n4 c4,iv tl,iv ta] 41));rw[<-hW]at O2
 replace X2:=X2.alloc (.cells #[.slice x4 n4 c4,iv tl,iv ta] 41);rw[<-hW]at X2;replace O3:=hd_ (O3.out.alloc (.cells #[.slice x4 n4 c4,iv tl,iv ta] 41));rw[<-hW]at O3;replace X3:=X3.alloc (.cells #[.slice x4 n4 c4,iv tl,iv ta] 41);rw[<-hW]at X3;replace O4:=hd_ (O4.out.alloc (.cells #[.slice x4 n4 c4,iv tl,iv ta] 41));rw[<-hW]at O4;have X4:=T.bP.new w4 41 (.slice x4 n4 c4) (iv tl) (iv ta)
 rw[<-hW]at X4
 go_wp2_with fail
 rw[<-hW];clear hW;clear ho;have KA:=K.aDS W4 zn [] 0 t (.inl ⟨rfl,rfl⟩);obtain⟨TT,hF⟩:=nm_ (K.mG [] 0 t);rw[<-hF]at KA;have HK:=hd_ hF;generalize K.fT [] 0 t=o4 at KA;obtain⟨kp,ka⟩:=TT;simp only at KA;clear hF
 go_wp2_with fail
 refine (KA).mono ?_;rintro e w5 ⟨v,rfl,ho,hb⟩;obtain⟨x5,c5,rfl⟩:=ho.form';obtain⟨n5,hn5⟩:=nm_ kp.length;rw[<-hn5]at ho ⊢;have T4:=hd_ (fun k e=>(World.ownsRow.lt O4.out k e).2);have L5:=hd_ B.out.size;clear hn5 KA;replace B:=hd_ (B.out.trans (hb.mono B.out.size));replace R:=R.later hb;replace O2:=hd_ (O2.out.below hb);replace X2:=lY X2 hb;replace O3:=hd_ (O3.out.below hb)
 replace X3:=lY X3 hb;replace O4:=hd_ (O4.out.below hb);replace X4:=X4.later hb;have O5:=hd_ (ho);clear hb;obtain⟨W5,hW⟩:=nm_ (w5.alloc (.cells #[.slice x5 n5 c5,iv ka] 44));have ax20:=((X2.alloc (.cells #[.slice x5 n5 c5,iv ka] 44))).cell;have ax30:=((X3.alloc (.cells #[.slice x5 n5 c5,iv ka] 44))).cell;have ax40:=((X4.alloc (.cells #[.slice x5 n5 c5,iv ka] 44))).cell0
 have ax41:=((X4.alloc (.cells #[.slice x5 n5 c5,iv ka] 44))).cell1;have ax42:=((X4.alloc (.cells #[.slice x5 n5 c5,iv ka] 44))).cell2;obtain⟨ar0,ar1,ar2,ar3,ar4,ar5,ar6⟩:=((R.alloc (.cells #[.slice x5 n5 c5,iv ka] 44))).cells;have frr:=(R.alloc (.cells #[.slice x5 n5 c5,iv ka] 44)).free;replace B:=hd_ ((B.out).alloc (Nat.le_trans B.out.size (by simp)) (.cells #[.slice x5 n5 c5,iv ka] 44))
 rw[<-hW]at B;replace R:=R.alloc (.cells #[.slice x5 n5 c5,iv ka] 44);rw[<-hW]at R;replace O2:=hd_ (O2.out.alloc (.cells #[.slice x5 n5 c5,iv ka] 44));rw[<-hW]at O2;replace X2:=X2.alloc (.cells #[.slice x5 n5 c5,iv ka] 44);rw[<-hW]at X2;replace O3:=hd_ (O3.out.alloc (.cells #[.slice x5 n5 c5,iv ka] 44));rw[<-hW]at O3;replace X3:=X3.alloc (.cells #[.slice x5 n5 c5,iv ka] 44);rw[<-hW]at X3
 replace O4:=hd_ (O4.out.alloc (.cells #[.slice x5 n5 c5,iv ka] 44));rw[<-hW]at O4;replace X4:=X4.alloc (.cells #[.slice x5 n5 c5,iv ka] 44);rw[<-hW]at X4;replace O5:=hd_ (O5.out.alloc (.cells #[.slice x5 n5 c5,iv ka] 44));rw[<-hW]at O5;have X5:=K.aS.new w5 44 (.slice x5 n5 c5) (iv ka);rw[<-hW]at X5;clear ho;have e1:=aLH t;rw[<-HAA.out, <-HF.out, <-HT.out, <-HK.out]at e1;have E1:=hd_ e1;clear e1
 have F1:=HF;clear HF;have fin:=R.set (.slice x2 n2 c2) (.slice x3 n3 c3) (.slice x4 n4 c4) (iv tl) (iv ta) (.slice x5 n5 c5) (iv ka);have OF:=aV.box7 (aV.make (V:=⟨x2,n2,c2,x3,n3,c3,x4,n4,c4,x5,n5,c5⟩) (s:=⟨A,F,tp,tl,ta,kp,ka⟩) O2.out O3.out O4.out O5.out L2.out L3'.out T2.out L4.out L5.out) R (.slice x2 n2 c2) (.slice x3 n3 c3) (.slice x4 n4 c4) (iv tl) (iv ta) (.slice x5 n5 c5) (iv ka)
 have BF:=aR B.out lr_ (.slice x2 n2 c2) (.slice x3 n3 c3) (.slice x4 n4 c4) (iv tl) (iv ta) (.slice x5 n5 c5) (iv ka);have SF:=bS W5 w.heap.size (.slice x2 n2 c2) (.slice x3 n3 c3) (.slice x4 n4 c4) (iv tl) (iv ta) (.slice x5 n5 c5) (iv ka);have HF:=hd_ (And.intro (aV.base OF lr_ (Nat.le_of_eq SF.symm) lr_) BF);have HY:=hd_ fin;clear fin OF BF SF;go_wp2;rw[<-hW]
 clear hW ax20 ax30 ax40 ax41 ax42 ar0 ar1 ar2 ar3 ar4 ar5 ar6 frr;show bodyPost _ _ _ _ _ (set7 W5 w.heap.size (.slice x2 n2 c2) (.slice x3 n3 c3) (.slice x4 n4 c4) (iv tl) (iv ta) (.slice x5 n5 c5) (iv ka))
 obtain⟨d0,d1,d2,d3,d4,d5,d6⟩:=HY.out.cells;generalize set7 W5 w.heap.size (.slice x2 n2 c2) (.slice x3 n3 c3) (.slice x4 n4 c4) (iv tl) (iv ta) (.slice x5 n5 c5) (iv ka)=WF at HF d0 d1 d2 d3 d4 d5 d6 ⊢;refine bodyPost_ret (v:=.agg #[.slice x2 n2 c2,.slice x3 n3 c3,.slice x4 n4 c4,iv tl,iv ta,.slice x5 n5 c5,iv ka]) (by simp[results,results174,go_sem,d0,d1,d2,d3,d4,d5,d6]) rfl ?_;rw[E1.out]
 exact⟨⟨x2,n2,c2,x3,n3,c3,x4,n4,c4,x5,n5,c5⟩,rfl,HF.out⟩
theorem aNo (v:Value) (w:World):(Instr.typeAssert (.iface 36 v) 142 36 true).run prog w=.ok (.tuple #[v,.bool true]) w:=by kernel_rfl
theorem aMr (v:Value) (w:World):(Instr.typeAssert (.iface 38 v) 142 36 true).run prog w=.ok (.tuple #[.agg #[zn],.bool false]) w/\
  (Instr.typeAssert (.iface 38 v) 142 38 true).run prog w=.ok (.tuple #[v,.bool true]) w:=⟨by kernel_rfl,by kernel_rfl⟩
theorem aJm (v:Value) (w:World):(Instr.typeAssert (.iface 41 v) 142 36 true).run prog w=.ok (.tuple #[.agg #[zn],.bool false]) w/\
  (Instr.typeAssert (.iface 41 v) 142 38 true).run prog w=.ok (.tuple #[.agg #[zn],.bool false]) w/\
  (Instr.typeAssert (.iface 41 v) 142 41 true).run prog w=.ok (.tuple #[v,.bool true]) w:=⟨by kernel_rfl,by kernel_rfl,by kernel_rfl⟩
theorem aHq (v:Value) (w:World):(Instr.typeAssert (.iface 44 v) 142 36 true).run prog w=.ok (.tuple #[.agg #[zn],.bool false]) w/\
  (Instr.typeAssert (.iface 44 v) 142 38 true).run prog w=.ok (.tuple #[.agg #[zn],.bool false]) w/\
  (Instr.typeAssert (.iface 44 v) 142 41 true).run prog w=.ok (.tuple #[.agg #[zn,iv 0,iv 0],.bool false]) w/\
  (Instr.typeAssert (.iface 44 v) 142 44 true).run prog w=.ok (.tuple #[v,.bool true]) w:=⟨by kernel_rfl,by kernel_rfl,by kernel_rfl,by kernel_rfl⟩
theorem aBc (w:World) (V:SV) (s:Sm) (x:Option Addr) (n c:Nat) (rs:List (List Int)) (h:RdS w V s) (hu:Rws w (.slice x n c) rs):
  Calls prog 153 #[.agg #[.slice V.xr V.nr V.cr,.slice V.xf V.nf V.cf,.slice V.xt V.nt V.ct,iv s.lo,iv s.al,.slice V.xk V.nk V.ck,iv s.ka],.iface 36 (.agg #[.slice x n c])] w fun e w'=>∃y m d,e=.returned (.tuple #[.agg #[.slice y m d,.slice V.xf V.nf V.cf,.slice V.xt V.nt V.ct,iv s.lo,iv s.al,.slice V.xk V.nk V.ck,iv s.ka],.bool (hO s.rs rs)])/\dX w' w.heap.size w'.heap.size (.slice y m d) (mQ s.rs rs)/\Below w.heap.size w w':=by
 have I1:=fun w=>aNo (.agg #[.slice x n c]) w
 have hA:=((((Below.refl w.heap.size w).alloc lr_ (.cells (cS V s) 46)).alloc (by simp) (.cells #[zn,zn,zn,iv 0,iv 0,zn,iv 0] 46)).alloc (by simp;omega) (.cells #[.slice x n c] 36))
 have X:=((aI.new w 46 (.slice V.xr V.nr V.cr) (.slice V.xf V.nf V.cf) (.slice V.xt V.nt V.ct) (iv s.lo) (iv s.al) (.slice V.xk V.nk V.ck) (iv s.ka)).alloc (.cells #[zn,zn,zn,iv 0,iv 0,zn,iv 0] 46)).alloc (.cells #[.slice x n c] 36);have R:=(aI.new (w.alloc (.cells (cS V s) 46)) 46 zn zn zn (iv 0) (iv 0) zn (iv 0)).alloc (.cells #[.slice x n c] 36);rw[World.size_alloc]at R
 have D:=Go.Boxed.new ((w.alloc (.cells (cS V s) 46)).alloc (.cells #[zn,zn,zn,iv 0,iv 0,zn,iv 0] 46)) 36 (.slice x n c);rw[World.size_alloc,World.size_alloc]at D;obtain⟨ax0,ax1,ax2,ax3,ax4,ax5,ax6⟩:=(X).cells;have ad0:=(D).cell;obtain⟨W1,hW⟩:=nm_ (((w.alloc (.cells (cS V s) 46)).alloc (.cells #[zn,zn,zn,iv 0,iv 0,zn,iv 0] 46)).alloc (.cells #[.slice x n c] 36));rw[<-hW]at hA X R D
 have S:Hid (RdS W1 V s):=hd_ (h.below hA lr_);have P:=hd_ (hu.below hA lr_);have B:=hd_ hA;have SZ0:Hid (w.heap.size+2<=W1.heap.size):=by show _<=_;rw[hW];simp
 clear hA h hu;have KA:=aJI W1 (.slice V.xr V.nr V.cr) (.slice x n c) s.rs rs S.out.r P.out;obtain⟨A,hA⟩:=nm_ (mQ s.rs rs);have HA:=hd_ hA;rw[<-hA]at KA;generalize hO s.rs rs=ok at KA ⊢;clear hA;go_enter func153,ntmps153
 go_wp2_with fail
 rw[<-hW];clear hW ax0 ax1 ax2 ax3 ax4 ax5 ax6 ad0;refine (KA).mono ?_;rintro e w1 ⟨y,d,rfl,ho,hb⟩;obtain⟨m,hm⟩:=nm_ ((A).length);rw[<-hm]at ho ⊢;have Sw0:=hd_ hb.size;clear hm KA;clear S;clear P;clear D;replace X:=X.later hb;replace R:=R.later hb;replace B:=hd_ (B.out.trans (hb.mono B.out.size));have O:=hd_ (ho);clear hb;obtain⟨cx0,cx1,cx2,cx3,cx4,cx5,cx6⟩:=(X).cells
 obtain⟨cr0,cr1,cr2,cr3,cr4,cr5,cr6⟩:=(R).cells;have frx:=X.free;have frr:=R.free;clear ho;have Y:=X;replace Y:=Y.set0 (.slice y m d);obtain⟨y0,y1,y2,y3,y4,y5,y6⟩:=Y.cells;clear Y;have G1:=hd_ (aA w1 ⟨w.heap.size,0,none⟩ (.slice y m d));have BX:Hid (Below w.heap.size w ((w1.setCell ⟨w.heap.size,0,none⟩ (.slice y m d)))):=hd_ ((B.out.setCell lr_ _));have RX:=R.kept G1.out (by simp)
 have SZ:Hid (w.heap.size+2<=W1.heap.size):=SZ0;have Sw:Hid (W1.heap.size<=w1.heap.size):=Sw0;clear X R B;go_wp2;show bodyPost _ _ _ _ _ (set7 (w1.setCell ⟨w.heap.size,0,none⟩ (.slice y m d)) (w.heap.size+1) (.slice y m d) (.slice V.xf V.nf V.cf) (.slice V.xt V.nt V.ct) (iv s.lo) (iv s.al) (.slice V.xk V.nk V.ck) (iv s.ka))
 generalize (w1.setCell ⟨w.heap.size,0,none⟩ (.slice y m d))=WX at G1 BX RX ⊢;have G2:=dU WX (w.heap.size+1) (.slice y m d) (.slice V.xf V.nf V.cf) (.slice V.xt V.nt V.ct) (iv s.lo) (iv s.al) (.slice V.xk V.nk V.ck) (iv s.ka);have Y:=RX.set (.slice y m d) (.slice V.xf V.nf V.cf) (.slice V.xt V.nt V.ct) (iv s.lo) (iv s.al) (.slice V.xk V.nk V.ck) (iv s.ka)
 have BF:=aR BX.out (Nat.le_add_right _ 1) (.slice y m d) (.slice V.xf V.nf V.cf) (.slice V.xt V.nt V.ct) (iv s.lo) (iv s.al) (.slice V.xk V.nk V.ck) (iv s.ka);generalize set7 WX (w.heap.size+1) (.slice y m d) (.slice V.xf V.nf V.cf) (.slice V.xt V.nt V.ct) (iv s.lo) (iv s.al) (.slice V.xk V.nk V.ck) (iv s.ka)=WF at G2 Y BF ⊢;have s1:=SZ.out;have s2:=Sw.out;have s3:=G1.out.size
 have s4:=G2.size;have HK:dZ (fun k=>k<W1.heap.size) w1 WF:=(dZ.of_grown G1.out (show w.heap.size<W1.heap.size by omega)).trans (dZ.of_grown G2 (show w.heap.size+1<W1.heap.size by omega));obtain⟨d0,d1,d2,d3,d4,d5,d6⟩:=Y.cells
 refine bodyPost_ret (v:=.tuple #[.agg #[.slice y m d,.slice V.xf V.nf V.cf,.slice V.xt V.nt V.ct,iv s.lo,iv s.al,.slice V.xk V.nk V.ck,iv s.ka],.bool ok]) (by simp[results,results153,go_sem,d0,d1,d2,d3,d4,d5,d6]) rfl ?_;rw[<-HA.out];exact⟨y,m,d,rfl,((O.out.keptB HK (fun k q1 _ q=>by omega)).base o_).upto o_ lr_,BF⟩
theorem aGP (w:World) (V:SV) (s:Sm) (x:Option Addr) (n c:Nat) (zs:List Int) (h:RdS w V s) (hu:cW w (.slice x n c) zs):
  Calls prog 153 #[.agg #[.slice V.xr V.nr V.cr,.slice V.xf V.nf V.cf,.slice V.xt V.nt V.ct,iv s.lo,iv s.al,.slice V.xk V.nk V.ck,iv s.ka],.iface 38 (.agg #[.slice x n c])] w fun e w'=>∃y m d,e=.returned (.tuple #[.agg #[.slice V.xr V.nr V.cr,.slice y m d,.slice V.xt V.nt V.ct,iv s.lo,iv s.al,.slice V.xk V.nk V.ck,iv s.ka],.bool (aU s.zs zs)])/\aZ w' w.heap.size (.slice y m d) (fH s.zs zs)/\Below w.heap.size w w':=by
 have I1:=fun w=>(aMr (.agg #[.slice x n c]) w).1
 have I2:=fun w=>(aMr (.agg #[.slice x n c]) w).2
 have hA:=((((Below.refl w.heap.size w).alloc lr_ (.cells (cS V s) 46)).alloc (by simp) (.cells #[zn,zn,zn,iv 0,iv 0,zn,iv 0] 46)).alloc (by simp;omega) (.cells #[.slice x n c] 38))
 have X:=((aI.new w 46 (.slice V.xr V.nr V.cr) (.slice V.xf V.nf V.cf) (.slice V.xt V.nt V.ct) (iv s.lo) (iv s.al) (.slice V.xk V.nk V.ck) (iv s.ka)).alloc (.cells #[zn,zn,zn,iv 0,iv 0,zn,iv 0] 46)).alloc (.cells #[.slice x n c] 38);have R:=(aI.new (w.alloc (.cells (cS V s) 46)) 46 zn zn zn (iv 0) (iv 0) zn (iv 0)).alloc (.cells #[.slice x n c] 38);rw[World.size_alloc]at R
 have D:=Go.Boxed.new ((w.alloc (.cells (cS V s) 46)).alloc (.cells #[zn,zn,zn,iv 0,iv 0,zn,iv 0] 46)) 38 (.slice x n c);rw[World.size_alloc,World.size_alloc]at D;obtain⟨ax0,ax1,ax2,ax3,ax4,ax5,ax6⟩:=(X).cells;have ad0:=(D).cell;obtain⟨W1,hW⟩:=nm_ (((w.alloc (.cells (cS V s) 46)).alloc (.cells #[zn,zn,zn,iv 0,iv 0,zn,iv 0] 46)).alloc (.cells #[.slice x n c] 38));rw[<-hW]at hA X R D
 have S:Hid (RdS W1 V s):=hd_ (h.below hA lr_);have P:=hd_ (hu.below hA lr_);have B:=hd_ hA;have SZ0:Hid (w.heap.size+2<=W1.heap.size):=by show _<=_;rw[hW];simp
 clear hA h hu;have KA:=uT W1 (.slice V.xf V.nf V.cf) (.slice x n c) s.zs zs S.out.f P.out;obtain⟨A,hA⟩:=nm_ (fH s.zs zs);have HA:=hd_ hA;rw[<-hA]at KA;generalize aU s.zs zs=ok at KA ⊢;clear hA;go_enter func153,ntmps153
 go_wp2_with fail
 rw[<-hW];clear hW ax0 ax1 ax2 ax3 ax4 ax5 ax6 ad0;refine (KA).mono ?_;rintro e w1 ⟨v,rfl,ho,hb⟩;obtain⟨y,d,rfl⟩:=ho.form';obtain⟨m,hm⟩:=nm_ ((A).length);rw[<-hm]at ho ⊢;have Sw0:=hd_ hb.size;clear hm KA;clear S;clear P;clear D;replace X:=X.later hb;replace R:=R.later hb;replace B:=hd_ (B.out.trans (hb.mono B.out.size));have O:=hd_ (ho);clear hb;obtain⟨cx0,cx1,cx2,cx3,cx4,cx5,cx6⟩:=(X).cells
 obtain⟨cr0,cr1,cr2,cr3,cr4,cr5,cr6⟩:=(R).cells;have frx:=X.free;have frr:=R.free;clear ho;have Y:=X;replace Y:=Y.set1 (.slice y m d);obtain⟨y0,y1,y2,y3,y4,y5,y6⟩:=Y.cells;clear Y;have G1:=hd_ (aA w1 ⟨w.heap.size,1,none⟩ (.slice y m d));have BX:Hid (Below w.heap.size w ((w1.setCell ⟨w.heap.size,1,none⟩ (.slice y m d)))):=hd_ ((B.out.setCell lr_ _));have RX:=R.kept G1.out (by simp)
 have SZ:Hid (w.heap.size+2<=W1.heap.size):=SZ0;have Sw:Hid (W1.heap.size<=w1.heap.size):=Sw0;clear X R B;go_wp2;show bodyPost _ _ _ _ _ (set7 (w1.setCell ⟨w.heap.size,1,none⟩ (.slice y m d)) (w.heap.size+1) (.slice V.xr V.nr V.cr) (.slice y m d) (.slice V.xt V.nt V.ct) (iv s.lo) (iv s.al) (.slice V.xk V.nk V.ck) (iv s.ka))
 generalize (w1.setCell ⟨w.heap.size,1,none⟩ (.slice y m d))=WX at G1 BX RX ⊢;have G2:=dU WX (w.heap.size+1) (.slice V.xr V.nr V.cr) (.slice y m d) (.slice V.xt V.nt V.ct) (iv s.lo) (iv s.al) (.slice V.xk V.nk V.ck) (iv s.ka);have Y:=RX.set (.slice V.xr V.nr V.cr) (.slice y m d) (.slice V.xt V.nt V.ct) (iv s.lo) (iv s.al) (.slice V.xk V.nk V.ck) (iv s.ka)
 have BF:=aR BX.out (Nat.le_add_right _ 1) (.slice V.xr V.nr V.cr) (.slice y m d) (.slice V.xt V.nt V.ct) (iv s.lo) (iv s.al) (.slice V.xk V.nk V.ck) (iv s.ka);generalize set7 WX (w.heap.size+1) (.slice V.xr V.nr V.cr) (.slice y m d) (.slice V.xt V.nt V.ct) (iv s.lo) (iv s.al) (.slice V.xk V.nk V.ck) (iv s.ka)=WF at G2 Y BF ⊢;have s1:=SZ.out;have s2:=Sw.out;have s3:=G1.out.size
 have s4:=G2.size;have HK:dZ (fun k=>k<W1.heap.size) w1 WF:=(dZ.of_grown G1.out (show w.heap.size<W1.heap.size by omega)).trans (dZ.of_grown G2 (show w.heap.size+1<W1.heap.size by omega));obtain⟨d0,d1,d2,d3,d4,d5,d6⟩:=Y.cells
 refine bodyPost_ret (v:=.tuple #[.agg #[.slice V.xr V.nr V.cr,.slice y m d,.slice V.xt V.nt V.ct,iv s.lo,iv s.al,.slice V.xk V.nk V.ck,iv s.ka],.bool ok]) (by simp[results,results153,go_sem,d0,d1,d2,d3,d4,d5,d6]) rfl ?_;rw[<-HA.out];exact⟨y,m,d,rfl,aM (dH O.out HK (fun k e q=>by have:=(World.ownsRow.lt O.out k e).1;omega)) o_,BF⟩
theorem aGn (w:World) (V:SV) (s:Sm) (x:Option Addr) (n c:Nat) (ps:List T.Pr) (lo al:Int) (h:RdS w V s) (hu:T.Prs w (.slice x n c) ps):
  Calls prog 153 #[.agg #[.slice V.xr V.nr V.cr,.slice V.xf V.nf V.cf,.slice V.xt V.nt V.ct,iv s.lo,iv s.al,.slice V.xk V.nk V.ck,iv s.ka],.iface 41 (.agg #[.slice x n c,iv lo,iv al])] w fun e w'=>∃y m d,e=.returned (.tuple #[.agg #[.slice V.xr V.nr V.cr,.slice V.xf V.nf V.cf,.slice y m d,.int .i64 (T.eO s.ps s.lo s.al ps lo al).2.1,.int .i64 (T.eO s.ps s.lo s.al ps lo al).2.2,.slice V.xk V.nk V.ck,iv s.ka],.bool (T.fB s.ps s.lo s.al ps lo al)])/\T.aF w' w.heap.size (.slice y m d) (T.eO s.ps s.lo s.al ps lo al).1/\Below w.heap.size w w':=by
 have I1:=fun w=>(aJm (.agg #[.slice x n c,iv lo,iv al]) w).1
 have I2:=fun w=>(aJm (.agg #[.slice x n c,iv lo,iv al]) w).2.1
 have I3:=fun w=>(aJm (.agg #[.slice x n c,iv lo,iv al]) w).2.2
 have hA:=((((Below.refl w.heap.size w).alloc lr_ (.cells (cS V s) 46)).alloc (by simp) (.cells #[zn,zn,zn,iv 0,iv 0,zn,iv 0] 46)).alloc (by simp;omega) (.cells #[.slice x n c,iv lo,iv al] 41))
 have X:=((aI.new w 46 (.slice V.xr V.nr V.cr) (.slice V.xf V.nf V.cf) (.slice V.xt V.nt V.ct) (iv s.lo) (iv s.al) (.slice V.xk V.nk V.ck) (iv s.ka)).alloc (.cells #[zn,zn,zn,iv 0,iv 0,zn,iv 0] 46)).alloc (.cells #[.slice x n c,iv lo,iv al] 41);have R:=(aI.new (w.alloc (.cells (cS V s) 46)) 46 zn zn zn (iv 0) (iv 0) zn (iv 0)).alloc (.cells #[.slice x n c,iv lo,iv al] 41)
 rw[World.size_alloc]at R;have D:=T.bP.new ((w.alloc (.cells (cS V s) 46)).alloc (.cells #[zn,zn,zn,iv 0,iv 0,zn,iv 0] 46)) 41 (.slice x n c) (iv lo) (iv al);rw[World.size_alloc,World.size_alloc]at D;obtain⟨ax0,ax1,ax2,ax3,ax4,ax5,ax6⟩:=(X).cells;have ad0:=(D).cell0;have ad1:=(D).cell1;have ad2:=(D).cell2
 obtain⟨W1,hW⟩:=nm_ (((w.alloc (.cells (cS V s) 46)).alloc (.cells #[zn,zn,zn,iv 0,iv 0,zn,iv 0] 46)).alloc (.cells #[.slice x n c,iv lo,iv al] 41));rw[<-hW]at hA X R D;have S:Hid (RdS W1 V s):=hd_ (h.below hA lr_);have P:=hd_ (hu.below hA lr_);have B:=hd_ hA;have SZ0:Hid (w.heap.size+2<=W1.heap.size):=by show _<=_;rw[hW];simp
 clear hA h hu;have KA:=T.vF W1 (.slice V.xt V.nt V.ct) (.slice x n c) s.ps ps s.lo s.al lo al S.out.t P.out;generalize T.eO s.ps s.lo s.al ps lo al=A at KA ⊢;generalize T.fB s.ps s.lo s.al ps lo al=ok at KA ⊢;go_enter func153,ntmps153
 go_wp2_with fail
 rw[<-hW];clear hW ax0 ax1 ax2 ax3 ax4 ax5 ax6 ad0 ad1 ad2;refine (KA).mono ?_;rintro e w1 ⟨v,rfl,ho,hb⟩;obtain⟨y,d,rfl⟩:=ho.form';obtain⟨m,hm⟩:=nm_ ((A.1).length);rw[<-hm]at ho ⊢;have Sw0:=hd_ hb.size;clear hm KA;clear S;clear P;clear D;replace X:=X.later hb;replace R:=R.later hb;replace B:=hd_ (B.out.trans (hb.mono B.out.size));have O:=hd_ (ho);clear hb
 obtain⟨cx0,cx1,cx2,cx3,cx4,cx5,cx6⟩:=(X).cells;obtain⟨cr0,cr1,cr2,cr3,cr4,cr5,cr6⟩:=(R).cells;have frx:=X.free;have frr:=R.free;clear ho;have Y:=X;replace Y:=Y.set2 (.slice y m d);replace Y:=Y.set3 (iv A.2.1);replace Y:=Y.set4 (iv A.2.2);obtain⟨y0,y1,y2,y3,y4,y5,y6⟩:=Y.cells;clear Y
 have G1:=hd_ (aL (aL (aA w1 ⟨w.heap.size,2,none⟩ (.slice y m d)) (aA _ ⟨w.heap.size,3,none⟩ (iv A.2.1))) (aA _ ⟨w.heap.size,4,none⟩ (iv A.2.2)))
 have BX:Hid (Below w.heap.size w ((((w1.setCell ⟨w.heap.size,2,none⟩ (.slice y m d)).setCell ⟨w.heap.size,3,none⟩ (iv A.2.1)).setCell ⟨w.heap.size,4,none⟩ (iv A.2.2)))):=hd_ ((((B.out.setCell lr_ _).setCell lr_ _).setCell lr_ _));have RX:=R.kept G1.out (by simp);have SZ:Hid (w.heap.size+2<=W1.heap.size):=SZ0;have Sw:Hid (W1.heap.size<=w1.heap.size):=Sw0;clear X R B;go_wp2
 show bodyPost _ _ _ _ _ (set7 (((w1.setCell ⟨w.heap.size,2,none⟩ (.slice y m d)).setCell ⟨w.heap.size,3,none⟩ (iv A.2.1)).setCell ⟨w.heap.size,4,none⟩ (iv A.2.2)) (w.heap.size+1) (.slice V.xr V.nr V.cr) (.slice V.xf V.nf V.cf) (.slice y m d) (iv A.2.1) (iv A.2.2) (.slice V.xk V.nk V.ck) (iv s.ka))
 generalize (((w1.setCell ⟨w.heap.size,2,none⟩ (.slice y m d)).setCell ⟨w.heap.size,3,none⟩ (iv A.2.1)).setCell ⟨w.heap.size,4,none⟩ (iv A.2.2))=WX at G1 BX RX ⊢;have G2:=dU WX (w.heap.size+1) (.slice V.xr V.nr V.cr) (.slice V.xf V.nf V.cf) (.slice y m d) (iv A.2.1) (iv A.2.2) (.slice V.xk V.nk V.ck) (iv s.ka)
 have Y:=RX.set (.slice V.xr V.nr V.cr) (.slice V.xf V.nf V.cf) (.slice y m d) (iv A.2.1) (iv A.2.2) (.slice V.xk V.nk V.ck) (iv s.ka);have BF:=aR BX.out (Nat.le_add_right _ 1) (.slice V.xr V.nr V.cr) (.slice V.xf V.nf V.cf) (.slice y m d) (iv A.2.1) (iv A.2.2) (.slice V.xk V.nk V.ck) (iv s.ka)
 generalize set7 WX (w.heap.size+1) (.slice V.xr V.nr V.cr) (.slice V.xf V.nf V.cf) (.slice y m d) (iv A.2.1) (iv A.2.2) (.slice V.xk V.nk V.ck) (iv s.ka)=WF at G2 Y BF ⊢;have s1:=SZ.out;have s2:=Sw.out;have s3:=G1.out.size;have s4:=G2.size
 have HK:dZ (fun k=>k<W1.heap.size) w1 WF:=(dZ.of_grown G1.out (show w.heap.size<W1.heap.size by omega)).trans (dZ.of_grown G2 (show w.heap.size+1<W1.heap.size by omega));obtain⟨d0,d1,d2,d3,d4,d5,d6⟩:=Y.cells
 refine bodyPost_ret (v:=.tuple #[.agg #[.slice V.xr V.nr V.cr,.slice V.xf V.nf V.cf,.slice y m d,iv A.2.1,iv A.2.2,.slice V.xk V.nk V.ck,iv s.ka],.bool ok]) (by simp[results,results153,go_sem,d0,d1,d2,d3,d4,d5,d6]) rfl ?_;exact⟨y,m,d,rfl,aM (dH O.out HK (fun k e q=>by have:=(World.ownsRow.lt O.out k e).1;omega)) o_,BF⟩
theorem aGV (w:World) (V:SV) (s:Sm) (x:Option Addr) (n c:Nat) (ps:List K.Pr) (al:Int) (h:RdS w V s) (hu:K.Prs w (.slice x n c) ps):
  Calls prog 153 #[.agg #[.slice V.xr V.nr V.cr,.slice V.xf V.nf V.cf,.slice V.xt V.nt V.ct,iv s.lo,iv s.al,.slice V.xk V.nk V.ck,iv s.ka],.iface 44 (.agg #[.slice x n c,iv al])] w fun e w'=>∃y m d,e=.returned (.tuple #[.agg #[.slice V.xr V.nr V.cr,.slice V.xf V.nf V.cf,.slice V.xt V.nt V.ct,iv s.lo,iv s.al,.slice y m d,.int .i64 (K.gK s.ks s.ka ps al).2],.bool (K.dD s.ks s.ka ps al)])/\K.aF w' w.heap.size (.slice y m d) (K.gK s.ks s.ka ps al).1/\Below w.heap.size w w':=by
 have I1:=fun w=>(aHq (.agg #[.slice x n c,iv al]) w).1
 have I2:=fun w=>(aHq (.agg #[.slice x n c,iv al]) w).2.1
 have I3:=fun w=>(aHq (.agg #[.slice x n c,iv al]) w).2.2.1
 have I4:=fun w=>(aHq (.agg #[.slice x n c,iv al]) w).2.2.2
 have hA:=((((Below.refl w.heap.size w).alloc lr_ (.cells (cS V s) 46)).alloc (by simp) (.cells #[zn,zn,zn,iv 0,iv 0,zn,iv 0] 46)).alloc (by simp;omega) (.cells #[.slice x n c,iv al] 44))
 have X:=((aI.new w 46 (.slice V.xr V.nr V.cr) (.slice V.xf V.nf V.cf) (.slice V.xt V.nt V.ct) (iv s.lo) (iv s.al) (.slice V.xk V.nk V.ck) (iv s.ka)).alloc (.cells #[zn,zn,zn,iv 0,iv 0,zn,iv 0] 46)).alloc (.cells #[.slice x n c,iv al] 44);have R:=(aI.new (w.alloc (.cells (cS V s) 46)) 46 zn zn zn (iv 0) (iv 0) zn (iv 0)).alloc (.cells #[.slice x n c,iv al] 44);rw[World.size_alloc]at R
 have D:=K.aS.new ((w.alloc (.cells (cS V s) 46)).alloc (.cells #[zn,zn,zn,iv 0,iv 0,zn,iv 0] 46)) 44 (.slice x n c) (iv al);rw[World.size_alloc,World.size_alloc]at D;obtain⟨ax0,ax1,ax2,ax3,ax4,ax5,ax6⟩:=(X).cells;have ad0:=(D).cell0;have ad1:=(D).cell1;obtain⟨W1,hW⟩:=nm_ (((w.alloc (.cells (cS V s) 46)).alloc (.cells #[zn,zn,zn,iv 0,iv 0,zn,iv 0] 46)).alloc (.cells #[.slice x n c,iv al] 44))
 rw[<-hW]at hA X R D;have S:Hid (RdS W1 V s):=hd_ (h.below hA lr_);have P:=hd_ (hu.below hA lr_);have B:=hd_ hA;have SZ0:Hid (w.heap.size+2<=W1.heap.size):=by show _<=_;rw[hW];simp
 clear hA h hu;have KA:=K.tO W1 (.slice V.xk V.nk V.ck) (.slice x n c) s.ks s.ka ps al S.out.k P.out;generalize K.gK s.ks s.ka ps al=A at KA ⊢;generalize K.dD s.ks s.ka ps al=ok at KA ⊢;go_enter func153,ntmps153
 go_wp2_with fail
 rw[<-hW];clear hW ax0 ax1 ax2 ax3 ax4 ax5 ax6 ad0 ad1;refine (KA).mono ?_;rintro e w1 ⟨v,rfl,ho,hb⟩;obtain⟨y,d,rfl⟩:=ho.form';obtain⟨m,hm⟩:=nm_ ((A.1).length);rw[<-hm]at ho ⊢;have Sw0:=hd_ hb.size;clear hm KA;clear S;clear P;clear D;replace X:=X.later hb;replace R:=R.later hb;replace B:=hd_ (B.out.trans (hb.mono B.out.size));have O:=hd_ (ho);clear hb;obtain⟨cx0,cx1,cx2,cx3,cx4,cx5,cx6⟩:=(X).cells
 obtain⟨cr0,cr1,cr2,cr3,cr4,cr5,cr6⟩:=(R).cells;have frx:=X.free;have frr:=R.free;clear ho;have Y:=X;replace Y:=Y.set5 (.slice y m d);replace Y:=Y.set6 (iv A.2);obtain⟨y0,y1,y2,y3,y4,y5,y6⟩:=Y.cells;clear Y;have G1:=hd_ (aL (aA w1 ⟨w.heap.size,5,none⟩ (.slice y m d)) (aA _ ⟨w.heap.size,6,none⟩ (iv A.2)))
 have BX:Hid (Below w.heap.size w (((w1.setCell ⟨w.heap.size,5,none⟩ (.slice y m d)).setCell ⟨w.heap.size,6,none⟩ (iv A.2)))):=hd_ (((B.out.setCell lr_ _).setCell lr_ _));have RX:=R.kept G1.out (by simp);have SZ:Hid (w.heap.size+2<=W1.heap.size):=SZ0;have Sw:Hid (W1.heap.size<=w1.heap.size):=Sw0;clear X R B;go_wp2
 show bodyPost _ _ _ _ _ (set7 ((w1.setCell ⟨w.heap.size,5,none⟩ (.slice y m d)).setCell ⟨w.heap.size,6,none⟩ (iv A.2)) (w.heap.size+1) (.slice V.xr V.nr V.cr) (.slice V.xf V.nf V.cf) (.slice V.xt V.nt V.ct) (iv s.lo) (iv s.al) (.slice y m d) (iv A.2))
 generalize ((w1.setCell ⟨w.heap.size,5,none⟩ (.slice y m d)).setCell ⟨w.heap.size,6,none⟩ (iv A.2))=WX at G1 BX RX ⊢;have G2:=dU WX (w.heap.size+1) (.slice V.xr V.nr V.cr) (.slice V.xf V.nf V.cf) (.slice V.xt V.nt V.ct) (iv s.lo) (iv s.al) (.slice y m d) (iv A.2)
 have Y:=RX.set (.slice V.xr V.nr V.cr) (.slice V.xf V.nf V.cf) (.slice V.xt V.nt V.ct) (iv s.lo) (iv s.al) (.slice y m d) (iv A.2);have BF:=aR BX.out (Nat.le_add_right _ 1) (.slice V.xr V.nr V.cr) (.slice V.xf V.nf V.cf) (.slice V.xt V.nt V.ct) (iv s.lo) (iv s.al) (.slice y m d) (iv A.2)
 generalize set7 WX (w.heap.size+1) (.slice V.xr V.nr V.cr) (.slice V.xf V.nf V.cf) (.slice V.xt V.nt V.ct) (iv s.lo) (iv s.al) (.slice y m d) (iv A.2)=WF at G2 Y BF ⊢;have s1:=SZ.out;have s2:=Sw.out;have s3:=G1.out.size;have s4:=G2.size
 have HK:dZ (fun k=>k<W1.heap.size) w1 WF:=(dZ.of_grown G1.out (show w.heap.size<W1.heap.size by omega)).trans (dZ.of_grown G2 (show w.heap.size+1<W1.heap.size by omega));obtain⟨d0,d1,d2,d3,d4,d5,d6⟩:=Y.cells
 refine bodyPost_ret (v:=.tuple #[.agg #[.slice V.xr V.nr V.cr,.slice V.xf V.nf V.cf,.slice V.xt V.nt V.ct,iv s.lo,iv s.al,.slice y m d,iv A.2],.bool ok]) (by simp[results,results153,go_sem,d0,d1,d2,d3,d4,d5,d6]) rfl ?_;exact⟨y,m,d,rfl,aM (dH O.out HK (fun k e q=>by have:=(World.ownsRow.lt O.out k e).1;omega)) o_,BF⟩
theorem aBF (w:World) (V1 V2:SV) (a b:Sm) (h1:RdS w V1 a) (h2:RdS w V2 b) (okA:okS a=false):
  Calls prog 78 #[.agg #[.slice V1.xr V1.nr V1.cr,.slice V1.xf V1.nf V1.cf,.slice V1.xt V1.nt V1.ct,iv a.lo,iv a.al,.slice V1.xk V1.nk V1.ck,iv a.ka],.agg #[.slice V2.xr V2.nr V2.cr,.slice V2.xf V2.nf V2.cf,.slice V2.xt V2.nt V2.ct,iv b.lo,iv b.al,.slice V2.xk V2.nk V2.ck,iv b.ka]] w fun e w'=>∃U,e=.returned (.tuple #[.agg #[.slice U.xr U.nr U.cr,.slice U.xf U.nf U.cf,.slice U.xt U.nt U.ct,.int .i64 (bY a b).lo,.int .i64 (bY a b).al,.slice U.xk U.nk U.ck,.int .i64 (bY a b).ka],.bool (aY a b)])/\aV w' w.heap.size w'.heap.size U (bY a b)/\Below w.heap.size w w':=by
 have hno:aY a b=false:=by unfold aY;rw[okA];rfl
 have hA:=(((Below.refl w.heap.size w).alloc lr_ (.cells (cS V1 a) 46)).alloc (by simp) (.cells (cS V2 b) 46)).alloc (by simp;omega) (.cells #[zn,zn,zn,iv 0,iv 0,zn,iv 0] 46)
 have XA:=((aI.new w 46 (.slice V1.xr V1.nr V1.cr) (.slice V1.xf V1.nf V1.cf) (.slice V1.xt V1.nt V1.ct) (iv a.lo) (iv a.al) (.slice V1.xk V1.nk V1.ck) (iv a.ka)).alloc (.cells (cS V2 b) 46)).alloc (.cells #[zn,zn,zn,iv 0,iv 0,zn,iv 0] 46)
 have XB:=(aI.new (w.alloc (.cells (cS V1 a) 46)) 46 (.slice V2.xr V2.nr V2.cr) (.slice V2.xf V2.nf V2.cf) (.slice V2.xt V2.nt V2.ct) (iv b.lo) (iv b.al) (.slice V2.xk V2.nk V2.ck) (iv b.ka)).alloc (.cells #[zn,zn,zn,iv 0,iv 0,zn,iv 0] 46);rw[World.size_alloc]at XB;have R:=aI.new ((w.alloc (.cells (cS V1 a) 46)).alloc (.cells (cS V2 b) 46)) 46 zn zn zn (iv 0) (iv 0) zn (iv 0)
 rw[World.size_alloc,World.size_alloc]at R;obtain⟨axa0,axa1,axa2,axa3,axa4,axa5,axa6⟩:=(XA).cells;obtain⟨W0,hW⟩:=nm_ (((w.alloc (.cells (cS V1 a) 46)).alloc (.cells (cS V2 b) 46)).alloc (.cells #[zn,zn,zn,iv 0,iv 0,zn,iv 0] 46));rw[<-hW]at hA XA XB R;have B:=hd_ hA;have H1:=hd_ h1;have H2:=hd_ h2;have SZ:Hid (W0.heap.size=w.heap.size+3):=by show _=_;rw[hW];simp
 clear hA h1 h2;have K1:=jU W0 V1 a (H1.out.below B.out lr_);rw[okA]at K1;go_enter func78,ntmps78
 go_wp2_with fail
 rw[<-hW];clear hW axa0 axa1 axa2 axa3 axa4 axa5 axa6;refine (K1).mono ?_;rintro e w1 ⟨rfl,hb⟩;clear K1;have SZ1:=hd_ hb.size;replace XA:=XA.later hb;replace XB:=XB.later hb;replace R:=R.later hb;replace B:=hd_ (B.out.trans (hb.mono B.out.size));clear hb;obtain⟨cr0,cr1,cr2,cr3,cr4,cr5,cr6⟩:=(R).cells;have frr:=R.free;have fin:=R.set zn zn zn (iv 0) (iv 0) zn (iv 0)
 have OF:=aV.box7 (aV.none _ _ _ B.out.size lr_) R zn zn zn (iv 0) (iv 0) zn (iv 0);have BF:=aR B.out (show w.heap.size<=w.heap.size+1+1 by omega) zn zn zn (iv 0) (iv 0) zn (iv 0);have SF:=bS w1 (w.heap.size+1+1) zn zn zn (iv 0) (iv 0) zn (iv 0);have HF:=hd_ (And.intro (aV.base OF lr_ (Nat.le_of_eq SF.symm) lr_) BF);have HY:=hd_ fin;clear fin OF BF SF;go_wp2
 show bodyPost _ _ _ _ _ (set7 w1 (w.heap.size+1+1) zn zn zn (iv 0) (iv 0) zn (iv 0))
 obtain⟨d0,d1,d2,d3,d4,d5,d6⟩:=HY.out.cells;generalize set7 w1 (w.heap.size+1+1) zn zn zn (iv 0) (iv 0) zn (iv 0)=WF at HF d0 d1 d2 d3 d4 d5 d6 ⊢;refine bodyPost_ret (v:=.tuple #[.agg #[zn,zn,zn,iv 0,iv 0,zn,iv 0],.bool false]) (by simp[results,results78,go_sem,d0,d1,d2,d3,d4,d5,d6]) rfl ?_;rw[nM hno,hno];exact⟨SV.none,rfl,HF.out⟩
theorem aBP (w:World) (V1 V2:SV) (a b:Sm) (h1:RdS w V1 a) (h2:RdS w V2 b) (okA:okS a=true) (okB':okS b=false):
  Calls prog 78 #[.agg #[.slice V1.xr V1.nr V1.cr,.slice V1.xf V1.nf V1.cf,.slice V1.xt V1.nt V1.ct,iv a.lo,iv a.al,.slice V1.xk V1.nk V1.ck,iv a.ka],.agg #[.slice V2.xr V2.nr V2.cr,.slice V2.xf V2.nf V2.cf,.slice V2.xt V2.nt V2.ct,iv b.lo,iv b.al,.slice V2.xk V2.nk V2.ck,iv b.ka]] w fun e w'=>∃U,e=.returned (.tuple #[.agg #[.slice U.xr U.nr U.cr,.slice U.xf U.nf U.cf,.slice U.xt U.nt U.ct,.int .i64 (bY a b).lo,.int .i64 (bY a b).al,.slice U.xk U.nk U.ck,.int .i64 (bY a b).ka],.bool (aY a b)])/\aV w' w.heap.size w'.heap.size U (bY a b)/\Below w.heap.size w w':=by
 have hno:aY a b=false:=by unfold aY;rw[okB'];cases okS a<;>rfl
 have hA:=(((Below.refl w.heap.size w).alloc lr_ (.cells (cS V1 a) 46)).alloc (by simp) (.cells (cS V2 b) 46)).alloc (by simp;omega) (.cells #[zn,zn,zn,iv 0,iv 0,zn,iv 0] 46)
 have XA:=((aI.new w 46 (.slice V1.xr V1.nr V1.cr) (.slice V1.xf V1.nf V1.cf) (.slice V1.xt V1.nt V1.ct) (iv a.lo) (iv a.al) (.slice V1.xk V1.nk V1.ck) (iv a.ka)).alloc (.cells (cS V2 b) 46)).alloc (.cells #[zn,zn,zn,iv 0,iv 0,zn,iv 0] 46)
 have XB:=(aI.new (w.alloc (.cells (cS V1 a) 46)) 46 (.slice V2.xr V2.nr V2.cr) (.slice V2.xf V2.nf V2.cf) (.slice V2.xt V2.nt V2.ct) (iv b.lo) (iv b.al) (.slice V2.xk V2.nk V2.ck) (iv b.ka)).alloc (.cells #[zn,zn,zn,iv 0,iv 0,zn,iv 0] 46);rw[World.size_alloc]at XB;have R:=aI.new ((w.alloc (.cells (cS V1 a) 46)).alloc (.cells (cS V2 b) 46)) 46 zn zn zn (iv 0) (iv 0) zn (iv 0)
 rw[World.size_alloc,World.size_alloc]at R;obtain⟨axa0,axa1,axa2,axa3,axa4,axa5,axa6⟩:=(XA).cells;obtain⟨W0,hW⟩:=nm_ (((w.alloc (.cells (cS V1 a) 46)).alloc (.cells (cS V2 b) 46)).alloc (.cells #[zn,zn,zn,iv 0,iv 0,zn,iv 0] 46));rw[<-hW]at hA XA XB R;have B:=hd_ hA;have H1:=hd_ h1;have H2:=hd_ h2;have SZ:Hid (W0.heap.size=w.heap.size+3):=by show _=_;rw[hW];simp
 clear hA h1 h2;have K1:=jU W0 V1 a (H1.out.below B.out lr_);rw[okA]at K1;go_enter func78,ntmps78
 go_wp2_with fail
 rw[<-hW];clear hW axa0 axa1 axa2 axa3 axa4 axa5 axa6;refine (K1).mono ?_;rintro e w1 ⟨rfl,hb⟩;clear K1;have SZ1:=hd_ hb.size;replace XA:=XA.later hb;replace XB:=XB.later hb;replace R:=R.later hb;replace B:=hd_ (B.out.trans (hb.mono B.out.size));clear hb;obtain⟨cxb0,cxb1,cxb2,cxb3,cxb4,cxb5,cxb6⟩:=(XB).cells;have frr:=R.free;have K1:=jU w1 V2 b (H2.out.below B.out lr_);rw[okB']at K1
 go_wp2_with fail
 refine (K1).mono ?_;rintro e w2 ⟨rfl,hb⟩;clear K1;clear cxb0 cxb1 cxb2 cxb3 cxb4 cxb5 cxb6 frr;replace XA:=XA.later hb;replace XB:=XB.later hb;replace R:=R.later hb;replace B:=hd_ (B.out.trans (hb.mono B.out.size));clear hb;obtain⟨cr0,cr1,cr2,cr3,cr4,cr5,cr6⟩:=(R).cells;have frr:=R.free;have fin:=R.set zn zn zn (iv 0) (iv 0) zn (iv 0)
 have OF:=aV.box7 (aV.none _ _ _ B.out.size lr_) R zn zn zn (iv 0) (iv 0) zn (iv 0);have BF:=aR B.out (show w.heap.size<=w.heap.size+1+1 by omega) zn zn zn (iv 0) (iv 0) zn (iv 0);have SF:=bS w2 (w.heap.size+1+1) zn zn zn (iv 0) (iv 0) zn (iv 0);have HF:=hd_ (And.intro (aV.base OF lr_ (Nat.le_of_eq SF.symm) lr_) BF);have HY:=hd_ fin;clear fin OF BF SF;go_wp2
 show bodyPost _ _ _ _ _ (set7 w2 (w.heap.size+1+1) zn zn zn (iv 0) (iv 0) zn (iv 0))
 obtain⟨d0,d1,d2,d3,d4,d5,d6⟩:=HY.out.cells;generalize set7 w2 (w.heap.size+1+1) zn zn zn (iv 0) (iv 0) zn (iv 0)=WF at HF d0 d1 d2 d3 d4 d5 d6 ⊢;refine bodyPost_ret (v:=.tuple #[.agg #[zn,zn,zn,iv 0,iv 0,zn,iv 0],.bool false]) (by simp[results,results78,go_sem,d0,d1,d2,d3,d4,d5,d6]) rfl ?_;rw[nM hno,hno];exact⟨SV.none,rfl,HF.out⟩
theorem aAW (w:World) (V1 V2:SV) (a b:Sm) (h1:RdS w V1 a) (h2:RdS w V2 b) (okA:okS a=true) (okB':okS b=true) (hs:¬a.al+b.al<=2000):
  Calls prog 78 #[.agg #[.slice V1.xr V1.nr V1.cr,.slice V1.xf V1.nf V1.cf,.slice V1.xt V1.nt V1.ct,iv a.lo,iv a.al,.slice V1.xk V1.nk V1.ck,iv a.ka],.agg #[.slice V2.xr V2.nr V2.cr,.slice V2.xf V2.nf V2.cf,.slice V2.xt V2.nt V2.ct,iv b.lo,iv b.al,.slice V2.xk V2.nk V2.ck,iv b.ka]] w fun e w'=>∃U,e=.returned (.tuple #[.agg #[.slice U.xr U.nr U.cr,.slice U.xf U.nf U.cf,.slice U.xt U.nt U.ct,.int .i64 (bY a b).lo,.int .i64 (bY a b).al,.slice U.xk U.nk U.ck,.int .i64 (bY a b).ka],.bool (aY a b)])/\aV w' w.heap.size w'.heap.size U (bY a b)/\Below w.heap.size w w':=by
 have hno:aY a b=false:=by unfold aY;rw[okA,okB',decide_eq_false hs];rfl
 have hj:hO a.rs b.rs=false:=by
  cases q:hO a.rs b.rs with
  |false=>rfl
  |true=>have:=(jC _ _).1 q;have:=((bM _).1 okA).ra;have:=((bM _).1 okB').ra;omega
 have hA:=(((Below.refl w.heap.size w).alloc lr_ (.cells (cS V1 a) 46)).alloc (by simp) (.cells (cS V2 b) 46)).alloc (by simp;omega) (.cells #[zn,zn,zn,iv 0,iv 0,zn,iv 0] 46)
 have XA:=((aI.new w 46 (.slice V1.xr V1.nr V1.cr) (.slice V1.xf V1.nf V1.cf) (.slice V1.xt V1.nt V1.ct) (iv a.lo) (iv a.al) (.slice V1.xk V1.nk V1.ck) (iv a.ka)).alloc (.cells (cS V2 b) 46)).alloc (.cells #[zn,zn,zn,iv 0,iv 0,zn,iv 0] 46)
 have XB:=(aI.new (w.alloc (.cells (cS V1 a) 46)) 46 (.slice V2.xr V2.nr V2.cr) (.slice V2.xf V2.nf V2.cf) (.slice V2.xt V2.nt V2.ct) (iv b.lo) (iv b.al) (.slice V2.xk V2.nk V2.ck) (iv b.ka)).alloc (.cells #[zn,zn,zn,iv 0,iv 0,zn,iv 0] 46);rw[World.size_alloc]at XB;have R:=aI.new ((w.alloc (.cells (cS V1 a) 46)).alloc (.cells (cS V2 b) 46)) 46 zn zn zn (iv 0) (iv 0) zn (iv 0)
 rw[World.size_alloc,World.size_alloc]at R;obtain⟨axa0,axa1,axa2,axa3,axa4,axa5,axa6⟩:=(XA).cells;obtain⟨W0,hW⟩:=nm_ (((w.alloc (.cells (cS V1 a) 46)).alloc (.cells (cS V2 b) 46)).alloc (.cells #[zn,zn,zn,iv 0,iv 0,zn,iv 0] 46));rw[<-hW]at hA XA XB R;have B:=hd_ hA;have H1:=hd_ h1;have H2:=hd_ h2;have SZ:Hid (W0.heap.size=w.heap.size+3):=by show _=_;rw[hW];simp
 clear hA h1 h2;have K1:=jU W0 V1 a (H1.out.below B.out lr_);rw[okA]at K1;go_enter func78,ntmps78
 go_wp2_with fail
 rw[<-hW];clear hW axa0 axa1 axa2 axa3 axa4 axa5 axa6;refine (K1).mono ?_;rintro e w1 ⟨rfl,hb⟩;clear K1;have SZ1:=hd_ hb.size;replace XA:=XA.later hb;replace XB:=XB.later hb;replace R:=R.later hb;replace B:=hd_ (B.out.trans (hb.mono B.out.size));clear hb;obtain⟨cxb0,cxb1,cxb2,cxb3,cxb4,cxb5,cxb6⟩:=(XB).cells;have frr:=R.free;have K1:=jU w1 V2 b (H2.out.below B.out lr_);rw[okB']at K1
 go_wp2_with fail
 refine (K1).mono ?_;rintro e w2 ⟨rfl,hb⟩;clear K1;have SZ2:=hd_ (Nat.le_trans (Nat.le_of_eq SZ.out.symm) (Nat.le_trans SZ1.out hb.size));clear cxb0 cxb1 cxb2 cxb3 cxb4 cxb5 cxb6 frr;replace XA:=XA.later hb;replace XB:=XB.later hb;replace R:=R.later hb;replace B:=hd_ (B.out.trans (hb.mono B.out.size));clear hb;obtain⟨cxa0,cxa1,cxa2,cxa3,cxa4,cxa5,cxa6⟩:=(XA).cells
 obtain⟨cxb0,cxb1,cxb2,cxb3,cxb4,cxb5,cxb6⟩:=(XB).cells;have hA:=B.out.alloc B.out.size (.cells (cS V1 a) 46);have X6:=aI.new w2 46 (.slice V1.xr V1.nr V1.cr) (.slice V1.xf V1.nf V1.cf) (.slice V1.xt V1.nt V1.ct) (iv a.lo) (iv a.al) (.slice V1.xk V1.nk V1.ck) (iv a.ka);obtain⟨W2,hW⟩:=nm_ (w2.alloc (.cells (cS V1 a) 46));have hsz:=B.out.size;have L6:=hd_ hsz;have S6:=hd_ SZ2.out;clear hsz
 replace XA:=XA.alloc (.cells (cS V1 a) 46);replace XB:=XB.alloc (.cells (cS V1 a) 46);replace R:=R.alloc (.cells (cS V1 a) 46);obtain⟨bxb0,bxb1,bxb2,bxb3,bxb4,bxb5,bxb6⟩:=(XB).cells;rw[<-hW]at hA X6 XA XB R;replace B:=hd_ hA;clear hA;have IW:=fun w=>wR (aBt V2) (aBq V2) (aBu V2 b) (aBB V2 b) w
 unfold aBt aBq aBu aBB at IW;have I1:=fun w=>(IW w).1
 have I2:=fun w=>(IW w).2.1
 have I3:=fun w=>(IW w).2.2.1
 have I4:=fun w=>(IW w).2.2.2
 clear IW;have K1:=xJ W2 V2 b;unfold aBt aBq aBu aBB at K1
 go_wp2_with fail
 rw[<-hW];clear hW bxb0 bxb1 bxb2 bxb3 bxb4 bxb5 bxb6;clear cxa0 cxa1 cxa2 cxa3 cxa4 cxa5 cxa6 cxb0 cxb1 cxb2 cxb3 cxb4 cxb5 cxb6;refine (K1).mono ?_;rintro e w3 ⟨rfl,hb⟩;clear K1;replace XA:=XA.later hb;replace XB:=XB.later hb;replace R:=R.later hb;replace B:=hd_ (B.out.trans (hb.mono B.out.size));replace X6:=X6.later hb;clear hb;obtain⟨cx60,cx61,cx62,cx63,cx64,cx65,cx66⟩:=(X6).cells;clear XB
 go_wp2;refine wp_loop_rounds 5 ?_;rw[rounds_succ];have K1:=aBc w3 V1 a V2.xr V2.nr V2.cr b.rs (H1.out.below B.out lr_) (H2.out.below B.out lr_).r;rw[hj]at K1
 go_wp2_with fail
 refine (K1).mono ?_;rintro e w4 ⟨y,m,d,rfl,ho,hb⟩;clear K1 ho;clear XA;clear X6;clear cx60 cx61 cx62 cx63 cx64 cx65 cx66;replace R:=R.later hb;replace B:=hd_ (B.out.trans (hb.mono B.out.size));clear hb;obtain⟨W4,hW⟩:=nm_ (w4.alloc (.cells #[.slice y m d,.slice V1.xf V1.nf V1.cf,.slice V1.xt V1.nt V1.ct,iv a.lo,iv a.al,.slice V1.xk V1.nk V1.ck,iv a.ka] 46))
 obtain⟨ar0,ar1,ar2,ar3,ar4,ar5,ar6⟩:=((R.alloc (.cells #[.slice y m d,.slice V1.xf V1.nf V1.cf,.slice V1.xt V1.nt V1.ct,iv a.lo,iv a.al,.slice V1.xk V1.nk V1.ck,iv a.ka] 46))).cells;have frr:=(R.alloc (.cells #[.slice y m d,.slice V1.xf V1.nf V1.cf,.slice V1.xt V1.nt V1.ct,iv a.lo,iv a.al,.slice V1.xk V1.nk V1.ck,iv a.ka] 46)).free
 replace R:=R.alloc (.cells #[.slice y m d,.slice V1.xf V1.nf V1.cf,.slice V1.xt V1.nt V1.ct,iv a.lo,iv a.al,.slice V1.xk V1.nk V1.ck,iv a.ka] 46);rw[<-hW]at R;replace B:=hd_ ((B.out).alloc (Nat.le_trans B.out.size (by simp)) (.cells #[.slice y m d,.slice V1.xf V1.nf V1.cf,.slice V1.xt V1.nt V1.ct,iv a.lo,iv a.al,.slice V1.xk V1.nk V1.ck,iv a.ka] 46));rw[<-hW]at B
 have X9:=aI.new w4 46 (.slice y m d) (.slice V1.xf V1.nf V1.cf) (.slice V1.xt V1.nt V1.ct) (iv a.lo) (iv a.al) (.slice V1.xk V1.nk V1.ck) (iv a.ka);rw[<-hW]at X9;have fin:=R.set zn zn zn (iv 0) (iv 0) zn (iv 0);have OF:=aV.box7 (aV.none _ _ _ B.out.size lr_) R zn zn zn (iv 0) (iv 0) zn (iv 0)
 have BF:=aR B.out (show w.heap.size<=w.heap.size+1+1 by omega) zn zn zn (iv 0) (iv 0) zn (iv 0);have SF:=bS W4 (w.heap.size+1+1) zn zn zn (iv 0) (iv 0) zn (iv 0);have HF:=hd_ (And.intro (aV.base OF lr_ (Nat.le_of_eq SF.symm) lr_) BF);have HY:=hd_ fin;clear fin OF BF SF;go_wp2;rw[<-hW];clear hW ar0 ar1 ar2 ar3 ar4 ar5 ar6 frr
 show bodyPost _ _ _ _ _ (set7 W4 (w.heap.size+1+1) zn zn zn (iv 0) (iv 0) zn (iv 0))
 obtain⟨d0,d1,d2,d3,d4,d5,d6⟩:=HY.out.cells;generalize set7 W4 (w.heap.size+1+1) zn zn zn (iv 0) (iv 0) zn (iv 0)=WF at HF d0 d1 d2 d3 d4 d5 d6 ⊢;refine bodyPost_ret (v:=.tuple #[.agg #[zn,zn,zn,iv 0,iv 0,zn,iv 0],.bool false]) (by simp[results,results78,go_sem,d0,d1,d2,d3,d4,d5,d6]) rfl ?_;rw[nM hno,hno];exact⟨SV.none,rfl,HF.out⟩
theorem aBO (w:World) (V1 V2:SV) (a b:Sm) (h1:RdS w V1 a) (h2:RdS w V2 b) (hok:aY a b=true):
  Calls prog 78 #[.agg #[.slice V1.xr V1.nr V1.cr,.slice V1.xf V1.nf V1.cf,.slice V1.xt V1.nt V1.ct,iv a.lo,iv a.al,.slice V1.xk V1.nk V1.ck,iv a.ka],.agg #[.slice V2.xr V2.nr V2.cr,.slice V2.xf V2.nf V2.cf,.slice V2.xt V2.nt V2.ct,iv b.lo,iv b.al,.slice V2.xk V2.nk V2.ck,iv b.ka]] w fun e w'=>∃U,e=.returned (.tuple #[.agg #[.slice U.xr U.nr U.cr,.slice U.xf U.nf U.cf,.slice U.xt U.nt U.ct,.int .i64 (bY a b).lo,.int .i64 (bY a b).al,.slice U.xk U.nk U.ck,.int .i64 (bY a b).ka],.bool (aY a b)])/\aV w' w.heap.size w'.heap.size U (bY a b)/\Below w.heap.size w w':=by
 have okA:=(bM _).2 (mX hok).oka;have okB':=(bM _).2 (mX hok).okb;have jr:=(mX hok).r;have jf:=(mX hok).f;have jt:=(mX hok).t;have jk:=(mX hok).k;have JA:=hd_ (aCj jr);have HOK:=hd_ hok;clear hok
 have hA:=(((Below.refl w.heap.size w).alloc lr_ (.cells (cS V1 a) 46)).alloc (by simp) (.cells (cS V2 b) 46)).alloc (by simp;omega) (.cells #[zn,zn,zn,iv 0,iv 0,zn,iv 0] 46)
 have XA:=((aI.new w 46 (.slice V1.xr V1.nr V1.cr) (.slice V1.xf V1.nf V1.cf) (.slice V1.xt V1.nt V1.ct) (iv a.lo) (iv a.al) (.slice V1.xk V1.nk V1.ck) (iv a.ka)).alloc (.cells (cS V2 b) 46)).alloc (.cells #[zn,zn,zn,iv 0,iv 0,zn,iv 0] 46)
 have XB:=(aI.new (w.alloc (.cells (cS V1 a) 46)) 46 (.slice V2.xr V2.nr V2.cr) (.slice V2.xf V2.nf V2.cf) (.slice V2.xt V2.nt V2.ct) (iv b.lo) (iv b.al) (.slice V2.xk V2.nk V2.ck) (iv b.ka)).alloc (.cells #[zn,zn,zn,iv 0,iv 0,zn,iv 0] 46);rw[World.size_alloc]at XB;have R:=aI.new ((w.alloc (.cells (cS V1 a) 46)).alloc (.cells (cS V2 b) 46)) 46 zn zn zn (iv 0) (iv 0) zn (iv 0)
 rw[World.size_alloc,World.size_alloc]at R;obtain⟨axa0,axa1,axa2,axa3,axa4,axa5,axa6⟩:=(XA).cells;obtain⟨W0,hW⟩:=nm_ (((w.alloc (.cells (cS V1 a) 46)).alloc (.cells (cS V2 b) 46)).alloc (.cells #[zn,zn,zn,iv 0,iv 0,zn,iv 0] 46));rw[<-hW]at hA XA XB R;have B:=hd_ hA;have H1:=hd_ h1;have H2:=hd_ h2;have SZ:Hid (W0.heap.size=w.heap.size+3):=by show _=_;rw[hW];simp
 clear hA h1 h2;have K1:=jU W0 V1 a (H1.out.below B.out lr_);rw[okA]at K1;go_enter func78,ntmps78
 go_wp2_with fail
 rw[<-hW];clear hW axa0 axa1 axa2 axa3 axa4 axa5 axa6;refine (K1).mono ?_;rintro e w1 ⟨rfl,hb⟩;clear K1;have SZ1:=hd_ hb.size;replace XA:=XA.later hb;replace XB:=XB.later hb;replace R:=R.later hb;replace B:=hd_ (B.out.trans (hb.mono B.out.size));clear hb;obtain⟨cxb0,cxb1,cxb2,cxb3,cxb4,cxb5,cxb6⟩:=(XB).cells;have frr:=R.free;have K1:=jU w1 V2 b (H2.out.below B.out lr_);rw[okB']at K1
 go_wp2_with fail
 refine (K1).mono ?_;rintro e w2 ⟨rfl,hb⟩;clear K1;have SZ2:=hd_ (Nat.le_trans (Nat.le_of_eq SZ.out.symm) (Nat.le_trans SZ1.out hb.size));clear cxb0 cxb1 cxb2 cxb3 cxb4 cxb5 cxb6 frr;replace XA:=XA.later hb;replace XB:=XB.later hb;replace R:=R.later hb;replace B:=hd_ (B.out.trans (hb.mono B.out.size));clear hb;obtain⟨cxa0,cxa1,cxa2,cxa3,cxa4,cxa5,cxa6⟩:=(XA).cells
 obtain⟨cxb0,cxb1,cxb2,cxb3,cxb4,cxb5,cxb6⟩:=(XB).cells;have hA:=B.out.alloc B.out.size (.cells (cS V1 a) 46);have X6:=aI.new w2 46 (.slice V1.xr V1.nr V1.cr) (.slice V1.xf V1.nf V1.cf) (.slice V1.xt V1.nt V1.ct) (iv a.lo) (iv a.al) (.slice V1.xk V1.nk V1.ck) (iv a.ka);obtain⟨W2,hW⟩:=nm_ (w2.alloc (.cells (cS V1 a) 46));have hsz:=B.out.size;have L6:=hd_ hsz;have S6:=hd_ SZ2.out;clear hsz
 replace XA:=XA.alloc (.cells (cS V1 a) 46);replace XB:=XB.alloc (.cells (cS V1 a) 46);replace R:=R.alloc (.cells (cS V1 a) 46);obtain⟨bxb0,bxb1,bxb2,bxb3,bxb4,bxb5,bxb6⟩:=(XB).cells;rw[<-hW]at hA X6 XA XB R;replace B:=hd_ hA;clear hA;have IW:=fun w=>wR (aBt V2) (aBq V2) (aBu V2 b) (aBB V2 b) w
 unfold aBt aBq aBu aBB at IW;have I1:=fun w=>(IW w).1
 have I2:=fun w=>(IW w).2.1
 have I3:=fun w=>(IW w).2.2.1
 have I4:=fun w=>(IW w).2.2.2
 clear IW;have K1:=xJ W2 V2 b;unfold aBt aBq aBu aBB at K1
 go_wp2_with fail
 rw[<-hW];clear hW bxb0 bxb1 bxb2 bxb3 bxb4 bxb5 bxb6;clear cxa0 cxa1 cxa2 cxa3 cxa4 cxa5 cxa6 cxb0 cxb1 cxb2 cxb3 cxb4 cxb5 cxb6;refine (K1).mono ?_;rintro e w3 ⟨rfl,hb⟩;clear K1;replace XA:=XA.later hb;replace XB:=XB.later hb;replace R:=R.later hb;replace B:=hd_ (B.out.trans (hb.mono B.out.size));replace X6:=X6.later hb;clear hb;obtain⟨cx60,cx61,cx62,cx63,cx64,cx65,cx66⟩:=(X6).cells;clear XB
 go_wp2;refine wp_loop_rounds 5 ?_;rw[rounds_succ];clear XA;have Q:=H1.out.below B.out lr_;have K1:=aBc w3 ⟨V1.xr,V1.nr,V1.cr,V1.xf,V1.nf,V1.cf,V1.xt,V1.nt,V1.ct,V1.xk,V1.nk,V1.ck⟩ ⟨a.rs,a.zs,a.ps,a.lo,a.al,a.ks,a.ka⟩ V2.xr V2.nr V2.cr b.rs ⟨Q.r,Q.f,Q.t,Q.k⟩ (H2.out.below B.out lr_).r;simp only at K1;rw[jr]at K1;clear Q
 go_wp2_with fail
 refine (K1).mono ?_;rintro e w4 ⟨y0,m0,d0',rfl,ho,hb⟩;clear K1;have M0:=hd_ B.out.size;have N0:=hd_ hb.size;have q6:=S6.out;clear cx60 cx61 cx62 cx63 cx64 cx65 cx66;replace R:=R.later hb;replace B:=hd_ (B.out.trans (hb.mono B.out.size));replace X6:=X6.later hb;have O0:=hd_ (ho);clear hb
 obtain⟨W4,hW⟩:=nm_ (set7 (w4.alloc (.cells #[.slice y0 m0 d0',.slice V1.xf V1.nf V1.cf,.slice V1.xt V1.nt V1.ct,iv (a.lo),iv (a.al),.slice V1.xk V1.nk V1.ck,iv (a.ka)] 46)) w2.heap.size (.slice y0 m0 d0') (.slice V1.xf V1.nf V1.cf) (.slice V1.xt V1.nt V1.ct) (iv (a.lo)) (iv (a.al)) (.slice V1.xk V1.nk V1.ck) (iv (a.ka)))
 obtain⟨ax60,ax61,ax62,ax63,ax64,ax65,ax66⟩:=((X6.alloc (.cells #[.slice y0 m0 d0',.slice V1.xf V1.nf V1.cf,.slice V1.xt V1.nt V1.ct,iv (a.lo),iv (a.al),.slice V1.xk V1.nk V1.ck,iv (a.ka)] 46))).cells;have frx6:=(X6.alloc (.cells #[.slice y0 m0 d0',.slice V1.xf V1.nf V1.cf,.slice V1.xt V1.nt V1.ct,iv (a.lo),iv (a.al),.slice V1.xk V1.nk V1.ck,iv (a.ka)] 46)).free
 replace R:=R.alloc (.cells #[.slice y0 m0 d0',.slice V1.xf V1.nf V1.cf,.slice V1.xt V1.nt V1.ct,iv (a.lo),iv (a.al),.slice V1.xk V1.nk V1.ck,iv (a.ka)] 46);replace B:=hd_ ((B.out).alloc (Nat.le_trans B.out.size (by simp)) (.cells #[.slice y0 m0 d0',.slice V1.xf V1.nf V1.cf,.slice V1.xt V1.nt V1.ct,iv (a.lo),iv (a.al),.slice V1.xk V1.nk V1.ck,iv (a.ka)] 46))
 replace X6:=X6.alloc (.cells #[.slice y0 m0 d0',.slice V1.xf V1.nf V1.cf,.slice V1.xt V1.nt V1.ct,iv (a.lo),iv (a.al),.slice V1.xk V1.nk V1.ck,iv (a.ka)] 46);replace O0:=hd_ (O0.out.alloc (.cells #[.slice y0 m0 d0',.slice V1.xf V1.nf V1.cf,.slice V1.xt V1.nt V1.ct,iv (a.lo),iv (a.al),.slice V1.xk V1.nk V1.ck,iv (a.ka)] 46))
 replace R:=R.kept (dU _ w2.heap.size (.slice y0 m0 d0') (.slice V1.xf V1.nf V1.cf) (.slice V1.xt V1.nt V1.ct) (iv (a.lo)) (iv (a.al)) (.slice V1.xk V1.nk V1.ck) (iv (a.ka))) (by simp;omega);replace B:=hd_ (aR B.out L6.out (.slice y0 m0 d0') (.slice V1.xf V1.nf V1.cf) (.slice V1.xt V1.nt V1.ct) (iv (a.lo)) (iv (a.al)) (.slice V1.xk V1.nk V1.ck) (iv (a.ka)))
 replace O0:=hd_ (O0.out.box7 X6 (.slice y0 m0 d0') (.slice V1.xf V1.nf V1.cf) (.slice V1.xt V1.nt V1.ct) (iv (a.lo)) (iv (a.al)) (.slice V1.xk V1.nk V1.ck) (iv (a.ka)));replace X6:=X6.set (.slice y0 m0 d0') (.slice V1.xf V1.nf V1.cf) (.slice V1.xt V1.nt V1.ct) (iv (a.lo)) (iv (a.al)) (.slice V1.xk V1.nk V1.ck) (iv (a.ka));rw[<-hW]at R;rw[<-hW]at B;rw[<-hW]at X6;rw[<-hW]at O0;unfold set7 at hW
 go_wp2_with fail
 rw[<-hW];clear hW ax60 ax61 ax62 ax63 ax64 ax65 ax66 frx6;clear ho q6;rw[rounds_succ];obtain⟨cx60,cx61,cx62,cx63,cx64,cx65,cx66⟩:=(X6).cells;have Q:=H1.out.below B.out lr_;have K1:=aGP W4 ⟨y0,m0,d0',V1.xf,V1.nf,V1.cf,V1.xt,V1.nt,V1.ct,V1.xk,V1.nk,V1.ck⟩ ⟨mQ a.rs b.rs,a.zs,a.ps,a.lo,a.al,a.ks,a.ka⟩ V2.xf V2.nf V2.cf b.zs ⟨O0.out.rd,Q.f,Q.t,Q.k⟩ (H2.out.below B.out lr_).f;simp only at K1
 rw[jf]at K1;clear Q
 go_wp2_with fail
 refine (K1).mono ?_;rintro e w5 ⟨y1,m1,d1',rfl,ho,hb⟩;clear K1;have M1:=hd_ B.out.size;have N1:=hd_ hb.size;have q6:=S6.out;have T1:=hd_ (show w4.heap.size<=W4.heap.size from Nat.le_trans (O0.out.top) lr_);clear cx60 cx61 cx62 cx63 cx64 cx65 cx66;replace R:=R.later hb;replace B:=hd_ (B.out.trans (hb.mono B.out.size));replace X6:=X6.later hb;replace O0:=hd_ (O0.out.below hb);have O1:=hd_ (ho)
 clear hb;obtain⟨W5,hW⟩:=nm_ (set7 (w5.alloc (.cells #[.slice y0 m0 d0',.slice y1 m1 d1',.slice V1.xt V1.nt V1.ct,iv (a.lo),iv (a.al),.slice V1.xk V1.nk V1.ck,iv (a.ka)] 46)) w2.heap.size (.slice y0 m0 d0') (.slice y1 m1 d1') (.slice V1.xt V1.nt V1.ct) (iv (a.lo)) (iv (a.al)) (.slice V1.xk V1.nk V1.ck) (iv (a.ka)))
 obtain⟨ax60,ax61,ax62,ax63,ax64,ax65,ax66⟩:=((X6.alloc (.cells #[.slice y0 m0 d0',.slice y1 m1 d1',.slice V1.xt V1.nt V1.ct,iv (a.lo),iv (a.al),.slice V1.xk V1.nk V1.ck,iv (a.ka)] 46))).cells;have frx6:=(X6.alloc (.cells #[.slice y0 m0 d0',.slice y1 m1 d1',.slice V1.xt V1.nt V1.ct,iv (a.lo),iv (a.al),.slice V1.xk V1.nk V1.ck,iv (a.ka)] 46)).free
 replace R:=R.alloc (.cells #[.slice y0 m0 d0',.slice y1 m1 d1',.slice V1.xt V1.nt V1.ct,iv (a.lo),iv (a.al),.slice V1.xk V1.nk V1.ck,iv (a.ka)] 46);replace B:=hd_ ((B.out).alloc (Nat.le_trans B.out.size (by simp)) (.cells #[.slice y0 m0 d0',.slice y1 m1 d1',.slice V1.xt V1.nt V1.ct,iv (a.lo),iv (a.al),.slice V1.xk V1.nk V1.ck,iv (a.ka)] 46))
 replace X6:=X6.alloc (.cells #[.slice y0 m0 d0',.slice y1 m1 d1',.slice V1.xt V1.nt V1.ct,iv (a.lo),iv (a.al),.slice V1.xk V1.nk V1.ck,iv (a.ka)] 46);replace O0:=hd_ (O0.out.alloc (.cells #[.slice y0 m0 d0',.slice y1 m1 d1',.slice V1.xt V1.nt V1.ct,iv (a.lo),iv (a.al),.slice V1.xk V1.nk V1.ck,iv (a.ka)] 46))
 replace O1:=hd_ (O1.out.alloc (.cells #[.slice y0 m0 d0',.slice y1 m1 d1',.slice V1.xt V1.nt V1.ct,iv (a.lo),iv (a.al),.slice V1.xk V1.nk V1.ck,iv (a.ka)] 46));replace R:=R.kept (dU _ w2.heap.size (.slice y0 m0 d0') (.slice y1 m1 d1') (.slice V1.xt V1.nt V1.ct) (iv (a.lo)) (iv (a.al)) (.slice V1.xk V1.nk V1.ck) (iv (a.ka))) (by simp;omega)
 replace B:=hd_ (aR B.out L6.out (.slice y0 m0 d0') (.slice y1 m1 d1') (.slice V1.xt V1.nt V1.ct) (iv (a.lo)) (iv (a.al)) (.slice V1.xk V1.nk V1.ck) (iv (a.ka)));replace O0:=hd_ (O0.out.box7 X6 (.slice y0 m0 d0') (.slice y1 m1 d1') (.slice V1.xt V1.nt V1.ct) (iv (a.lo)) (iv (a.al)) (.slice V1.xk V1.nk V1.ck) (iv (a.ka)))
 replace O1:=hd_ (O1.out.box7 X6 (.slice y0 m0 d0') (.slice y1 m1 d1') (.slice V1.xt V1.nt V1.ct) (iv (a.lo)) (iv (a.al)) (.slice V1.xk V1.nk V1.ck) (iv (a.ka)));replace X6:=X6.set (.slice y0 m0 d0') (.slice y1 m1 d1') (.slice V1.xt V1.nt V1.ct) (iv (a.lo)) (iv (a.al)) (.slice V1.xk V1.nk V1.ck) (iv (a.ka));rw[<-hW]at R;rw[<-hW]at B;rw[<-hW]at X6;rw[<-hW]at O0;rw[<-hW]at O1;unfold set7 at hW
 go_wp2_with fail
 rw[<-hW];clear hW ax60 ax61 ax62 ax63 ax64 ax65 ax66 frx6;clear ho q6;rw[rounds_succ];obtain⟨cx60,cx61,cx62,cx63,cx64,cx65,cx66⟩:=(X6).cells;have Q:=H1.out.below B.out lr_
 have K1:=aGn W5 ⟨y0,m0,d0',y1,m1,d1',V1.xt,V1.nt,V1.ct,V1.xk,V1.nk,V1.ck⟩ ⟨mQ a.rs b.rs,fH a.zs b.zs,a.ps,a.lo,a.al,a.ks,a.ka⟩ V2.xt V2.nt V2.ct b.ps b.lo b.al ⟨O0.out.rd,O1.out.rd,Q.t,Q.k⟩ (H2.out.below B.out lr_).t;simp only at K1;rw[jt]at K1;clear Q;generalize hgjT:T.eO a.ps a.lo a.al b.ps b.lo b.al=jT at K1;have HGjT:=hd_ hgjT;clear hgjT
 go_wp2_with fail
 refine (K1).mono ?_;rintro e w6 ⟨y2,m2,d2',rfl,ho,hb⟩;clear K1;have M2:=hd_ B.out.size;have N2:=hd_ hb.size;have q6:=S6.out;clear cx60 cx61 cx62 cx63 cx64 cx65 cx66;replace R:=R.later hb;replace B:=hd_ (B.out.trans (hb.mono B.out.size));replace X6:=X6.later hb;replace O0:=hd_ (O0.out.below hb);replace O1:=hd_ (O1.out.below hb);have O2:=hd_ (ho);clear hb
 obtain⟨W6,hW⟩:=nm_ (set7 (w6.alloc (.cells #[.slice y0 m0 d0',.slice y1 m1 d1',.slice y2 m2 d2',iv (jT.2.1),iv (jT.2.2),.slice V1.xk V1.nk V1.ck,iv (a.ka)] 46)) w2.heap.size (.slice y0 m0 d0') (.slice y1 m1 d1') (.slice y2 m2 d2') (iv (jT.2.1)) (iv (jT.2.2)) (.slice V1.xk V1.nk V1.ck) (iv (a.ka)))
 obtain⟨ax60,ax61,ax62,ax63,ax64,ax65,ax66⟩:=((X6.alloc (.cells #[.slice y0 m0 d0',.slice y1 m1 d1',.slice y2 m2 d2',iv (jT.2.1),iv (jT.2.2),.slice V1.xk V1.nk V1.ck,iv (a.ka)] 46))).cells;have frx6:=(X6.alloc (.cells #[.slice y0 m0 d0',.slice y1 m1 d1',.slice y2 m2 d2',iv (jT.2.1),iv (jT.2.2),.slice V1.xk V1.nk V1.ck,iv (a.ka)] 46)).free
 replace R:=R.alloc (.cells #[.slice y0 m0 d0',.slice y1 m1 d1',.slice y2 m2 d2',iv (jT.2.1),iv (jT.2.2),.slice V1.xk V1.nk V1.ck,iv (a.ka)] 46);replace B:=hd_ ((B.out).alloc (Nat.le_trans B.out.size (by simp)) (.cells #[.slice y0 m0 d0',.slice y1 m1 d1',.slice y2 m2 d2',iv (jT.2.1),iv (jT.2.2),.slice V1.xk V1.nk V1.ck,iv (a.ka)] 46))
 replace X6:=X6.alloc (.cells #[.slice y0 m0 d0',.slice y1 m1 d1',.slice y2 m2 d2',iv (jT.2.1),iv (jT.2.2),.slice V1.xk V1.nk V1.ck,iv (a.ka)] 46);replace O0:=hd_ (O0.out.alloc (.cells #[.slice y0 m0 d0',.slice y1 m1 d1',.slice y2 m2 d2',iv (jT.2.1),iv (jT.2.2),.slice V1.xk V1.nk V1.ck,iv (a.ka)] 46))
 replace O1:=hd_ (O1.out.alloc (.cells #[.slice y0 m0 d0',.slice y1 m1 d1',.slice y2 m2 d2',iv (jT.2.1),iv (jT.2.2),.slice V1.xk V1.nk V1.ck,iv (a.ka)] 46));replace O2:=hd_ (O2.out.alloc (.cells #[.slice y0 m0 d0',.slice y1 m1 d1',.slice y2 m2 d2',iv (jT.2.1),iv (jT.2.2),.slice V1.xk V1.nk V1.ck,iv (a.ka)] 46))
 replace R:=R.kept (dU _ w2.heap.size (.slice y0 m0 d0') (.slice y1 m1 d1') (.slice y2 m2 d2') (iv (jT.2.1)) (iv (jT.2.2)) (.slice V1.xk V1.nk V1.ck) (iv (a.ka))) (by simp;omega);replace B:=hd_ (aR B.out L6.out (.slice y0 m0 d0') (.slice y1 m1 d1') (.slice y2 m2 d2') (iv (jT.2.1)) (iv (jT.2.2)) (.slice V1.xk V1.nk V1.ck) (iv (a.ka)))
 replace O0:=hd_ (O0.out.box7 X6 (.slice y0 m0 d0') (.slice y1 m1 d1') (.slice y2 m2 d2') (iv (jT.2.1)) (iv (jT.2.2)) (.slice V1.xk V1.nk V1.ck) (iv (a.ka)));replace O1:=hd_ (O1.out.box7 X6 (.slice y0 m0 d0') (.slice y1 m1 d1') (.slice y2 m2 d2') (iv (jT.2.1)) (iv (jT.2.2)) (.slice V1.xk V1.nk V1.ck) (iv (a.ka)))
 replace O2:=hd_ (O2.out.box7 X6 (.slice y0 m0 d0') (.slice y1 m1 d1') (.slice y2 m2 d2') (iv (jT.2.1)) (iv (jT.2.2)) (.slice V1.xk V1.nk V1.ck) (iv (a.ka)));replace X6:=X6.set (.slice y0 m0 d0') (.slice y1 m1 d1') (.slice y2 m2 d2') (iv (jT.2.1)) (iv (jT.2.2)) (.slice V1.xk V1.nk V1.ck) (iv (a.ka));rw[<-hW]at R;rw[<-hW]at B;rw[<-hW]at X6;rw[<-hW]at O0;rw[<-hW]at O1;rw[<-hW]at O2;unfold set7 at hW
 go_wp2_with fail
 rw[<-hW];clear hW ax60 ax61 ax62 ax63 ax64 ax65 ax66 frx6;clear ho q6;rw[rounds_succ];obtain⟨cx60,cx61,cx62,cx63,cx64,cx65,cx66⟩:=(X6).cells;have Q:=H1.out.below B.out lr_;have K1:=aGV W6 ⟨y0,m0,d0',y1,m1,d1',y2,m2,d2',V1.xk,V1.nk,V1.ck⟩ ⟨mQ a.rs b.rs,fH a.zs b.zs,jT.1,jT.2.1,jT.2.2,a.ks,a.ka⟩ V2.xk V2.nk V2.ck b.ks b.ka ⟨O0.out.rd,O1.out.rd,O2.out.rd,Q.k⟩ (H2.out.below B.out lr_).k
 simp only at K1;rw[jk]at K1;clear Q;generalize hgjK:K.gK a.ks a.ka b.ks b.ka=jK at K1;have HGjK:=hd_ hgjK;clear hgjK
 go_wp2_with fail
 refine (K1).mono ?_;rintro e w7 ⟨y3,m3,d3',rfl,ho,hb⟩;clear K1;have M3:=hd_ B.out.size;have N3:=hd_ hb.size;have q6:=S6.out;clear cx60 cx61 cx62 cx63 cx64 cx65 cx66;replace R:=R.later hb;replace B:=hd_ (B.out.trans (hb.mono B.out.size));replace X6:=X6.later hb;replace O0:=hd_ (O0.out.below hb);replace O1:=hd_ (O1.out.below hb);replace O2:=hd_ (O2.out.below hb);have O3:=hd_ (ho);clear hb
 obtain⟨W7,hW⟩:=nm_ (set7 (w7.alloc (.cells #[.slice y0 m0 d0',.slice y1 m1 d1',.slice y2 m2 d2',iv (jT.2.1),iv (jT.2.2),.slice y3 m3 d3',iv (jK.2)] 46)) w2.heap.size (.slice y0 m0 d0') (.slice y1 m1 d1') (.slice y2 m2 d2') (iv (jT.2.1)) (iv (jT.2.2)) (.slice y3 m3 d3') (iv (jK.2)))
 obtain⟨ax60,ax61,ax62,ax63,ax64,ax65,ax66⟩:=((X6.alloc (.cells #[.slice y0 m0 d0',.slice y1 m1 d1',.slice y2 m2 d2',iv (jT.2.1),iv (jT.2.2),.slice y3 m3 d3',iv (jK.2)] 46))).cells;have frx6:=(X6.alloc (.cells #[.slice y0 m0 d0',.slice y1 m1 d1',.slice y2 m2 d2',iv (jT.2.1),iv (jT.2.2),.slice y3 m3 d3',iv (jK.2)] 46)).free
 replace R:=R.alloc (.cells #[.slice y0 m0 d0',.slice y1 m1 d1',.slice y2 m2 d2',iv (jT.2.1),iv (jT.2.2),.slice y3 m3 d3',iv (jK.2)] 46);replace B:=hd_ ((B.out).alloc (Nat.le_trans B.out.size (by simp)) (.cells #[.slice y0 m0 d0',.slice y1 m1 d1',.slice y2 m2 d2',iv (jT.2.1),iv (jT.2.2),.slice y3 m3 d3',iv (jK.2)] 46))
 replace X6:=X6.alloc (.cells #[.slice y0 m0 d0',.slice y1 m1 d1',.slice y2 m2 d2',iv (jT.2.1),iv (jT.2.2),.slice y3 m3 d3',iv (jK.2)] 46);replace O0:=hd_ (O0.out.alloc (.cells #[.slice y0 m0 d0',.slice y1 m1 d1',.slice y2 m2 d2',iv (jT.2.1),iv (jT.2.2),.slice y3 m3 d3',iv (jK.2)] 46))
 replace O1:=hd_ (O1.out.alloc (.cells #[.slice y0 m0 d0',.slice y1 m1 d1',.slice y2 m2 d2',iv (jT.2.1),iv (jT.2.2),.slice y3 m3 d3',iv (jK.2)] 46));replace O2:=hd_ (O2.out.alloc (.cells #[.slice y0 m0 d0',.slice y1 m1 d1',.slice y2 m2 d2',iv (jT.2.1),iv (jT.2.2),.slice y3 m3 d3',iv (jK.2)] 46))
 replace O3:=hd_ (O3.out.alloc (.cells #[.slice y0 m0 d0',.slice y1 m1 d1',.slice y2 m2 d2',iv (jT.2.1),iv (jT.2.2),.slice y3 m3 d3',iv (jK.2)] 46));replace R:=R.kept (dU _ w2.heap.size (.slice y0 m0 d0') (.slice y1 m1 d1') (.slice y2 m2 d2') (iv (jT.2.1)) (iv (jT.2.2)) (.slice y3 m3 d3') (iv (jK.2))) (by simp;omega)
 replace B:=hd_ (aR B.out L6.out (.slice y0 m0 d0') (.slice y1 m1 d1') (.slice y2 m2 d2') (iv (jT.2.1)) (iv (jT.2.2)) (.slice y3 m3 d3') (iv (jK.2)));replace O0:=hd_ (O0.out.box7 X6 (.slice y0 m0 d0') (.slice y1 m1 d1') (.slice y2 m2 d2') (iv (jT.2.1)) (iv (jT.2.2)) (.slice y3 m3 d3') (iv (jK.2)))
 replace O1:=hd_ (O1.out.box7 X6 (.slice y0 m0 d0') (.slice y1 m1 d1') (.slice y2 m2 d2') (iv (jT.2.1)) (iv (jT.2.2)) (.slice y3 m3 d3') (iv (jK.2)));replace O2:=hd_ (O2.out.box7 X6 (.slice y0 m0 d0') (.slice y1 m1 d1') (.slice y2 m2 d2') (iv (jT.2.1)) (iv (jT.2.2)) (.slice y3 m3 d3') (iv (jK.2)))
 replace O3:=hd_ (O3.out.box7 X6 (.slice y0 m0 d0') (.slice y1 m1 d1') (.slice y2 m2 d2') (iv (jT.2.1)) (iv (jT.2.2)) (.slice y3 m3 d3') (iv (jK.2)));replace X6:=X6.set (.slice y0 m0 d0') (.slice y1 m1 d1') (.slice y2 m2 d2') (iv (jT.2.1)) (iv (jT.2.2)) (.slice y3 m3 d3') (iv (jK.2));rw[<-hW]at R;rw[<-hW]at B;rw[<-hW]at X6;rw[<-hW]at O0;rw[<-hW]at O1;rw[<-hW]at O2;rw[<-hW]at O3;unfold set7 at hW
 go_wp2_with fail
 rw[<-hW];clear hW ax60 ax61 ax62 ax63 ax64 ax65 ax66 frx6;clear ho q6;rw[rounds_succ];obtain⟨cx60,cx61,cx62,cx63,cx64,cx65,cx66⟩:=(X6).cells;obtain⟨cr0,cr1,cr2,cr3,cr4,cr5,cr6⟩:=(R).cells;have frr:=R.free;have EJ:=hd_ (show bY a b=⟨mQ a.rs b.rs,fH a.zs b.zs,jT.1,jT.2.1,jT.2.2,jK.1,jK.2⟩ by rw[kC HOK.out,JA.out];unfold zM;rw[HGjT.out,HGjK.out])
 have fin:=R.set (.slice y0 m0 d0') (.slice y1 m1 d1') (.slice y2 m2 d2') (iv (jT.2.1)) (iv (jT.2.2)) (.slice y3 m3 d3') (iv (jK.2))
 have OF:=aV.box7 (aV.make (V:=⟨y0,m0,d0',y1,m1,d1',y2,m2,d2',y3,m3,d3'⟩) (s:=⟨mQ a.rs b.rs,fH a.zs b.zs,jT.1,jT.2.1,jT.2.2,jK.1,jK.2⟩) O0.out O1.out O2.out O3.out M0.out (Nat.le_trans M0.out N0.out) T1.out M2.out M3.out) R (.slice y0 m0 d0') (.slice y1 m1 d1') (.slice y2 m2 d2') (iv (jT.2.1)) (iv (jT.2.2)) (.slice y3 m3 d3') (iv (jK.2))
 have BF:=aR B.out (show w.heap.size<=w.heap.size+1+1 by omega) (.slice y0 m0 d0') (.slice y1 m1 d1') (.slice y2 m2 d2') (iv (jT.2.1)) (iv (jT.2.2)) (.slice y3 m3 d3') (iv (jK.2));have SF:=bS W7 (w.heap.size+1+1) (.slice y0 m0 d0') (.slice y1 m1 d1') (.slice y2 m2 d2') (iv (jT.2.1)) (iv (jT.2.2)) (.slice y3 m3 d3') (iv (jK.2))
 have HF:=hd_ (And.intro (aV.base OF lr_ (Nat.le_of_eq SF.symm) lr_) BF);have HY:=hd_ fin;clear fin OF BF SF;go_wp2;show bodyPost _ _ _ _ _ (set7 W7 (w.heap.size+1+1) (.slice y0 m0 d0') (.slice y1 m1 d1') (.slice y2 m2 d2') (iv (jT.2.1)) (iv (jT.2.2)) (.slice y3 m3 d3') (iv (jK.2)))
 obtain⟨d0,d1,d2,d3,d4,d5,d6⟩:=HY.out.cells;generalize set7 W7 (w.heap.size+1+1) (.slice y0 m0 d0') (.slice y1 m1 d1') (.slice y2 m2 d2') (iv (jT.2.1)) (iv (jT.2.2)) (.slice y3 m3 d3') (iv (jK.2))=WF at HF d0 d1 d2 d3 d4 d5 d6 ⊢
 refine bodyPost_ret (v:=.tuple #[.agg #[.slice y0 m0 d0',.slice y1 m1 d1',.slice y2 m2 d2',iv (jT.2.1),iv (jT.2.2),.slice y3 m3 d3',iv (jK.2)],.bool true]) (by simp[results,results78,go_sem,d0,d1,d2,d3,d4,d5,d6]) rfl ?_;rw[EJ.out,HOK.out];exact⟨⟨y0,m0,d0',y1,m1,d1',y2,m2,d2',y3,m3,d3'⟩,rfl,HF.out⟩
theorem uQ (w:World) (V1 V2:SV) (a b:Sm) (h1:RdS w V1 a) (h2:RdS w V2 b):
  Calls prog 78 #[.agg #[.slice V1.xr V1.nr V1.cr,.slice V1.xf V1.nf V1.cf,.slice V1.xt V1.nt V1.ct,iv a.lo,iv a.al,.slice V1.xk V1.nk V1.ck,iv a.ka],.agg #[.slice V2.xr V2.nr V2.cr,.slice V2.xf V2.nf V2.cf,.slice V2.xt V2.nt V2.ct,iv b.lo,iv b.al,.slice V2.xk V2.nk V2.ck,iv b.ka]] w fun e w'=>∃U,e=.returned (.tuple #[.agg #[.slice U.xr U.nr U.cr,.slice U.xf U.nf U.cf,.slice U.xt U.nt U.ct,.int .i64 (bY a b).lo,.int .i64 (bY a b).al,.slice U.xk U.nk U.ck,.int .i64 (bY a b).ka],.bool (aY a b)])/\aV w' w.heap.size w'.heap.size U (bY a b)/\Below w.heap.size w w':=by
 cases okA:okS a with
 |false=>exact aBF w V1 V2 a b h1 h2 okA
 |true=>
  cases okB:okS b with
  |false=>exact aBP w V1 V2 a b h1 h2 okA okB
  |true=>
   by_cases hs:a.al+b.al<=2000
   ·exact aBO w V1 V2 a b h1 h2 ((kB a b).2 ⟨(bM _).1 okA,(bM _).1 okB,hs⟩)
   ·exact aAW w V1 V2 a b h1 h2 okA okB hs
theorem aEK (w:World) (V:SV) (s:Sm) (t:Int) (h1:RdS w V s):
  Calls prog 104 #[.agg #[.slice V.xr V.nr V.cr,.slice V.xf V.nf V.cf,.slice V.xt V.nt V.ct,iv s.lo,iv s.al,.slice V.xk V.nk V.ck,iv s.ka],iv t] w fun e w'=>∃U,e=.returned (.tuple #[.agg #[.slice U.xr U.nr U.cr,.slice U.xf U.nf U.cf,.slice U.xt U.nt U.ct,.int .i64 (eT s t).lo,.int .i64 (eT s t).al,.slice U.xk U.nk U.ck,.int .i64 (eT s t).ka],.bool (cH s t)])/\aV w' w.heap.size w'.heap.size U (eT s t)/\Below w.heap.size w w':=by
 have hA:=((Below.refl w.heap.size w).alloc lr_ (.cells (cS V s) 46)).alloc (by simp) (.cells #[zn,zn,zn,iv 0,iv 0,zn,iv 0] 46);have XA:=(aI.new w 46 (.slice V.xr V.nr V.cr) (.slice V.xf V.nf V.cf) (.slice V.xt V.nt V.ct) (iv s.lo) (iv s.al) (.slice V.xk V.nk V.ck) (iv s.ka)).alloc (.cells #[zn,zn,zn,iv 0,iv 0,zn,iv 0] 46)
 have R:=aI.new (w.alloc (.cells (cS V s) 46)) 46 zn zn zn (iv 0) (iv 0) zn (iv 0);rw[World.size_alloc]at R;obtain⟨axa0,axa1,axa2,axa3,axa4,axa5,axa6⟩:=(XA).cells;obtain⟨W0,hW⟩:=nm_ ((w.alloc (.cells (cS V s) 46)).alloc (.cells #[zn,zn,zn,iv 0,iv 0,zn,iv 0] 46));rw[<-hW]at hA XA R;have B:=hd_ hA;have H1:=hd_ h1;have SZ:=hd_ hA.size;clear hA h1
 have K1:Hid (Calls prog 174 #[iv t] W0.drew fun e w'=>∃V,e=.returned (vS V (uM t))/\aV w' W0.drew.heap.size w'.heap.size V (uM t)/\Below W0.drew.heap.size W0.drew w'):=hd_ (aJR W0.drew t);generalize hso:uM t=so at K1;have J1:bY s so=eT s t:=by rw[<-hso];exact aIv s t
 have J2:aY s so=cH s t:=by rw[<-hso];exact tW s t
 clear hso
 have KJ:Hid (∀(W:World) (V2:SV),RdS W V s->RdS W V2 so->Calls prog 78 #[.agg #[.slice V.xr V.nr V.cr,.slice V.xf V.nf V.cf,.slice V.xt V.nt V.ct,iv s.lo,iv s.al,.slice V.xk V.nk V.ck,iv s.ka],.agg #[.slice V2.xr V2.nr V2.cr,.slice V2.xf V2.nf V2.cf,.slice V2.xt V2.nt V2.ct,iv so.lo,iv so.al,.slice V2.xk V2.nk V2.ck,iv so.ka]] W fun e w'=>∃U,e=.returned (.tuple #[.agg #[.slice U.xr U.nr U.cr,.slice U.xf U.nf U.cf,.slice U.xt U.nt U.ct,.int .i64 (eT s t).lo,.int .i64 (eT s t).al,.slice U.xk U.nk U.ck,.int .i64 (eT s t).ka],.bool (cH s t)])/\aV w' W.heap.size w'.heap.size U (eT s t)/\Below W.heap.size W w'):=hd_ fun W V2 p q=>by
  have h:=uQ W V V2 s so p q;rw[J1,J2]at h;exact h
 clear J1 J2;generalize eT s t=r at KJ ⊢;generalize cH s t=ok at KJ ⊢;go_enter func104,ntmps104
 go_wp2_with fail
 rw[<-hW];clear hW axa0 axa1 axa2 axa3 axa4 axa5 axa6;obtain⟨cxa0,cxa1,cxa2,cxa3,cxa4,cxa5,cxa6⟩:=(XA).cells;go_wp2
 go_region_with (first
    |(go_at_call 174;refine K1.out.mono ?_;rintro e w1 ⟨V2,rfl,ho,hb⟩;have XA1:=XA.drew.later hb;obtain⟨e0,e1,e2,e3,e4,e5,e6⟩:=XA1.cells;have HO:=hd_ ho;have HB:=hd_ hb;clear ho hb)
    |(go_at_call 78;refine (KJ.out w1 V2 ((H1.out.below B.out lr_).below (Below.trans (Below.drew (Below.refl _ W0)) HB.out) lr_) HO.out.rd).mono ?_;rintro e w2 ⟨U,rfl,hu,hb⟩;have R2:=(R.drew.later HB.out).later hb;obtain⟨r0,r1,r2,r3,r4,r5,r6⟩:=R2.cells;have fr:=R2.free;have HU:=hd_ hu;have HB2:=hd_ hb;clear hu hb))
 all_goals
  replace B:=hd_ (B.out.trans ((Below.trans (Below.drew (Below.refl _ W0)) (HB.out.trans (HB2.out.mono HB.out.size))).mono B.out.size));have fin:=R2.set (.slice U.xr U.nr U.cr) (.slice U.xf U.nf U.cf) (.slice U.xt U.nt U.ct) (iv r.lo) (iv r.al) (.slice U.xk U.nk U.ck) (iv r.ka)
  have OF:=aV.box7 (HU.out.base (B':=w.heap.size) (Nat.le_trans (Nat.le_trans (show w.heap.size<=W0.heap.size from SZ.out) HB.out.size) lr_) lr_ lr_) R2 (.slice U.xr U.nr U.cr) (.slice U.xf U.nf U.cf) (.slice U.xt U.nt U.ct) (iv r.lo) (iv r.al) (.slice U.xk U.nk U.ck) (iv r.ka)
  have BF:=aR B.out (Nat.le_add_right w.heap.size 1) (.slice U.xr U.nr U.cr) (.slice U.xf U.nf U.cf) (.slice U.xt U.nt U.ct) (iv r.lo) (iv r.al) (.slice U.xk U.nk U.ck) (iv r.ka);have SF:=bS w2 (w.heap.size+1) (.slice U.xr U.nr U.cr) (.slice U.xf U.nf U.cf) (.slice U.xt U.nt U.ct) (iv r.lo) (iv r.al) (.slice U.xk U.nk U.ck) (iv r.ka)
  have HF:=hd_ (And.intro (aV.base OF lr_ (Nat.le_of_eq SF.symm) lr_) BF);have HY:=hd_ fin;clear fin OF BF SF;go_wp2;show bodyPost _ _ _ _ _ (set7 w2 (w.heap.size+1) (.slice U.xr U.nr U.cr) (.slice U.xf U.nf U.cf) (.slice U.xt U.nt U.ct) (iv r.lo) (iv r.al) (.slice U.xk U.nk U.ck) (iv r.ka))
  obtain⟨d0,d1,d2,d3,d4,d5,d6⟩:=HY.out.cells;generalize set7 w2 (w.heap.size+1) (.slice U.xr U.nr U.cr) (.slice U.xf U.nf U.cf) (.slice U.xt U.nt U.ct) (iv r.lo) (iv r.al) (.slice U.xk U.nk U.ck) (iv r.ka)=WF at HF d0 d1 d2 d3 d4 d5 d6 ⊢
  refine bodyPost_ret (v:=.tuple #[.agg #[.slice U.xr U.nr U.cr,.slice U.xf U.nf U.cf,.slice U.xt U.nt U.ct,iv r.lo,iv r.al,.slice U.xk U.nk U.ck,iv r.ka],.bool ok]) (by simp[results,results104,go_sem,d0,d1,d2,d3,d4,d5,d6]) rfl ?_;exact⟨U,rfl,HF.out⟩
end Go.Proofs.YtcblbdpdbggkbaaGreat
namespace Go.Proofs.YtcblbdpdbggkbaaGreat
open _root_.Go.Proofs.Tryz
open Go.RowKit Go.Sort Go.ChangeMaps
namespace N
theorem tM (w:World) (V:SV) (e:En):
  Calls prog 201 #[aBw V e] w fun r w'=>r=.returned (.agg #[iv e.node,iv e.born,iv e.num])/\Below w.heap.size w w':=by
 have h0:=(M.start w).alloc #[iv e.node,iv e.born,iv e.num,.slice V.xr V.nr V.cr,.slice V.xf V.nf V.cf,.slice V.xt V.nt V.ct,.int .i64 (e.s).lo,.int .i64 (e.s).al,.slice V.xk V.nk V.ck,.int .i64 (e.s).ka] 64;have h1:=h0.alloc #[iv e.node,iv e.born,iv e.num] 234;simp only[World.size_alloc]at h1;have H1:=hd_ h1;obtain⟨e0,e1,e2⟩:=h1.cells3;have H0:=(h0.alloc #[iv 0,iv 0,iv 0] 234).p1.cells10
 obtain⟨d0,d1,d2,d3,d4,d5,d6,d7,d8,d9⟩:=H0;clear h0 h1;go_enter func201,ntmps201;go_wp2;exact bodyPost_ret (v:=.agg #[iv e.node,iv e.born,iv e.num]) (by simp[results,results201,go_sem,e0,e1,e2]) rfl ⟨rfl,H1.out.below⟩
def cC (n:Nt) (k:Int × Int × Int):Sm:=upS ((bZ n k.1 k.2.1).take k.2.2.toNat)
theorem aIB {n:Nt} {a b:Int} {q:Nat} {l:List Int} (hl:bZ n a b=l) (hq:q<l.length) {z:Int} (hz:z=(q:Int)+1):cC n (a,b,z)=eT (cC n (a,b,(q:Int))) (l.getD q 0):=by
 subst hz;unfold cC;simp only[hl,Int.toNat_natCast];rw[show ((q:Int)+1).toNat=q+1 by omega];exact zC hq
theorem aF3 {n:Nt} {w0:World} {v1 v2 v3:Value} {x4:Option Addr} {c4:Nat} (hn:jF w0 v1 v2 v3 (.slice x4 5 c4) n) (hs:oC n) {i j:Nat} (hi:i<5) (hj:j<(dF n (i:Int)).length):
  ∀(q:Nat),q<=(bZ n (i:Int) (j:Int)).length->∀{l:List Ch} {w:World} {m:Nat} {z:Int},z=(q:Int)->M w0.heap.size w0 w (kR m (cC n)::l)->
  Calls prog 200 #[.agg #[.slice x4 5 c4,.map (some m)],.agg #[iv (i:Int),iv (j:Int),iv z]] w fun r w'=>∃V s,r=.returned (vS V s)/\s=cC n ((i:Int),(j:Int),z)/\M w0.heap.size w0 w' (rC m (cC n) V s::l):=by
 obtain⟨f4,n4⟩:=hn.past;obtain⟨rs,hrs⟩:∃rs,n.past[i]? =some rs:=⟨_,List.getElem?_eq_getElem (by rw[hs.past];exact hi)⟩
 have eR:dF n (i:Int)=rs:=by unfold dF;rw[List.getD_eq_getElem?_getD,Int.toNat_natCast,hrs];rfl
 obtain⟨g4,xr,cr,fr,rfl,_,_,rr,rc,rm,y0⟩:=mS n4 hrs;rw[eR]at hj;obtain⟨lp,hlp⟩:∃lp,rs[j]? =some lp:=⟨_,List.getElem?_eq_getElem hj⟩
 have EP:Hid (bZ n (i:Int) (j:Int)=lp):=hd_ (by unfold bZ;rw[eR,List.getD_eq_getElem?_getD,Int.toNat_natCast,hlp];rfl);obtain⟨g5,xl,cl,fl,rfl,_,_,rl,lc,lm,y1⟩:=mL rr hlp;have IB:Hid (cW w0 (.slice xl lp.length cl) lp):=hd_ (by
    obtain⟨v,ev,ho,_⟩:=iT rl
    cases ev
    exact ho)
 have Y0:=hd_ y0;have Y1:=hd_ y1;have i0:(0:Int)<=(i:Int):=o_;have i5:(i:Int)<5:=o_;have j0:(0:Int)<=(j:Int):=o_;have j1:(j:Int)<(rs.length:Int):=o_;have IO:=hd_ (show aK8 (i:Int)from⟨o_,o_⟩);unfold maxLen at rm lm;have JO:=hd_ (show aK8 (j:Int)from⟨o_,o_⟩);rw[EP.out];have LM:=hd_ (Nat.le_trans lc lm);have RM:rs.length<=2 ^ 63 - 1:=o_;clear n4 hrs eR rr hlp rl lc lm rc rm y0 y1 hn hs hi hj;intro q
 induction q with
 |zero=>
  intro _ l w m z hz hm;subst hz;have h0:=((hm.alloc #[.slice (some ⟨g4,0,none⟩) 5 c4,.map (some m)] 120).alloc #[iv (i:Int),iv (j:Int),iv 0] 234).alloc #[zn,zn,zn,iv 0,iv 0,zn,iv 0] 46;simp only[World.size_alloc]at h0
  obtain⟨W,hW⟩:=nm_ (((w.alloc (.cells #[.slice (some ⟨g4,0,none⟩) 5 c4,.map (some m)] 120)).alloc (.cells #[iv (i:Int),iv (j:Int),iv 0] 234)).alloc (.cells #[zn,zn,zn,iv 0,iv 0,zn,iv 0] 46));obtain⟨p2,hp2⟩:=nm_ w.heap.size;obtain⟨p3,hp3⟩:=nm_ (w.heap.size+1);obtain⟨p4,hp4⟩:=nm_ (w.heap.size+1+1);rw[<-hW, <-hp4, <-hp3, <-hp2]at h0;have H:=hd_ h0;obtain⟨b0,b1,b2⟩:=h0.p1.cells3
  obtain⟨d0,d1,d2,d3,d4,d5,d6⟩:=h0.cells7;have ff:=h0.free;clear h0 hm;have KN:=hd_ (yC W);obtain⟨sn,hsn⟩:=nm_ fE;rw[<-hsn]at KN;have SN:=hd_ hsn;clear hsn;go_enter func200,ntmps200
  go_wp2_with fail
  rw[<-hW];clear hW b0 b1 b2 d0 d1 d2 d3 d4 d5 d6 ff;refine KN.out.mono ?_;rintro r w1 ⟨V,rfl,ho,hb⟩;have H2:=hd_ (H.out.sum hb ho);clear H ho hb KN;rw[<-hp4];clear hp2 hp3 hp4
  go_wp2_with (refine bE H2.out.p1 (vs:=[.slice V.xr V.nr V.cr,.slice V.xf V.nf V.cf,.slice V.xt V.nt V.ct,iv sn.lo,iv sn.al,.slice V.xk V.nk V.ck,iv sn.ka]) (ys:=#[.slice V.xr V.nr V.cr,.slice V.xf V.nf V.cf,.slice V.xt V.nt V.ct,iv sn.lo,iv sn.al,.slice V.xk V.nk V.ck,iv sn.ka]) rfl rfl rfl rfl vD rfl (by simp) (by simp[nO]) ?_;intro w2 h3;have H4:=hd_ h3;clear h3 H2)
  obtain⟨e0,e1,e2,e3,e4,e5,e6⟩:=H4.out.cells7;exact bodyPost_ret (v:=.agg #[.slice V.xr V.nr V.cr,.slice V.xf V.nf V.cf,.slice V.xt V.nt V.ct,iv sn.lo,iv sn.al,.slice V.xk V.nk V.ck,iv sn.ka]) (by simp[results,results200,go_sem,e0,e1,e2,e3,e4,e5,e6]) rfl ⟨V,sn,rfl,SN.out,aEt H4.out.drop.p1.drop.p1.drop⟩
 |succ q ih=>
  intro hq l w m z hz hm;have bw:IntKind.i64.wrap (z - 1)=(q:Int):=by have:=LM.out;rw[hz,IntWalk.i64_in _ o_];omega
  have gz:(z==0)=false:=by rw[hz];simp;omega
  have hz':z=(q:Int)+1:=o_;have ES:=hd_ (aIB EP.out o_ hz');obtain⟨b6,o6,rfl,c6⟩:=vE IB.out (show q<lp.length by omega);obtain⟨vq,hvq⟩:=nm_ (lp.getD q 0);rw[<-hvq]at c6 ES;have C6:=hd_ c6;clear c6;clear hvq;have q0:(0:Int)<=(q:Int):=o_;have q1:(q:Int)<(lp.length:Int):=o_
  have MO:=hd_ (show aFd ((i:Int),(j:Int),z)from⟨IO.out,JO.out,(show -9223372036854775808<=z/\z<9223372036854775808 by have:=LM.out;omega)⟩);have IH:=hd_ (fun (l':List Ch) (w':World) (h:M w0.heap.size w0 w' (kR m (cC n)::l'))=>ih o_ (l:=l') (w:=w') (m:=m) (z:=(q:Int)) rfl h)
  have h0:=((hm.alloc #[.slice (some ⟨g4,0,none⟩) 5 c4,.map (some m)] 120).alloc #[iv (i:Int),iv (j:Int),iv z] 234).alloc #[zn,zn,zn,iv 0,iv 0,zn,iv 0] 46;simp only[World.size_alloc]at h0;obtain⟨W,hW⟩:=nm_ (((w.alloc (.cells #[.slice (some ⟨g4,0,none⟩) 5 c4,.map (some m)] 120)).alloc (.cells #[iv (i:Int),iv (j:Int),iv z] 234)).alloc (.cells #[zn,zn,zn,iv 0,iv 0,zn,iv 0] 46))
  obtain⟨p2,hp2⟩:=nm_ w.heap.size;obtain⟨p3,hp3⟩:=nm_ (w.heap.size+1);obtain⟨p4,hp4⟩:=nm_ (w.heap.size+1+1);rw[<-hW, <-hp4, <-hp3, <-hp2]at h0;have H:=hd_ h0;obtain⟨b0,b1,b2⟩:=h0.p1.cells3;obtain⟨a0,a1⟩:=h0.p2.cells2;clear h0 hm hz hz' ih hq;go_enter func200,ntmps200;go_upto_region 3 with fail
  rw[<-hW, <-hp4, <-hp3, <-hp2];clear hW hp2 hp3 hp4;obtain⟨b,V0,s0,LL0,hb⟩:=aIT H.out.p3 MO.out;have LL:(Instr.lookup 118 (.map (some m)) (.agg #[iv (i:Int),iv (j:Int),iv z]) true).run prog W=.ok (.tuple #[.agg #[.slice V0.xr V0.nr V0.cr,.slice V0.xf V0.nf V0.cf,.slice V0.xt V0.nt V0.ct,iv s0.lo,iv s0.al,.slice V0.xk V0.nk V0.ck,iv s0.ka],.bool b]) W:=LL0;have HB:=hd_ hb;clear hb LL0
  cases b with
  |true=>
   obtain⟨e0,h1⟩:=HB.out rfl;have E0:=hd_ e0;have H5:=hd_ (h1.alloc (cS V0 s0) 46);clear h1 e0 HB H;obtain⟨p5,hp5⟩:=nm_ W.heap.size;obtain⟨W5,hW5⟩:=nm_ (W.alloc (.cells (cS V0 s0) 46));rw[<-hp5, <-hW5]at H5;obtain⟨x0,x1,x2,x3,x4,x5,x6⟩:=H5.out.cells7;go_upto_region 4 with fail
   rw[<-hW5, <-hp5];clear hp5 hW5 LL a0 a1 b0 b1 b2
   go_wp2_with (refine bE H5.out.p2 (vs:=[.slice V0.xr V0.nr V0.cr,.slice V0.xf V0.nf V0.cf,.slice V0.xt V0.nt V0.ct,iv s0.lo,iv s0.al,.slice V0.xk V0.nk V0.ck,iv s0.ka]) (ys:=#[.slice V0.xr V0.nr V0.cr,.slice V0.xf V0.nf V0.cf,.slice V0.xt V0.nt V0.ct,iv s0.lo,iv s0.al,.slice V0.xk V0.nk V0.ck,iv s0.ka]) rfl rfl rfl rfl vD rfl (by simp) (by simp[nO]) ?_;intro w2 h3;have H6:=hd_ h3;clear h3 H5)
   obtain⟨e0,e1,e2,e3,e4,e5,e6⟩:=H6.out.cells7;exact bodyPost_ret (v:=.agg #[.slice V0.xr V0.nr V0.cr,.slice V0.xf V0.nf V0.cf,.slice V0.xt V0.nt V0.ct,iv s0.lo,iv s0.al,.slice V0.xk V0.nk V0.ck,iv s0.ka]) (by simp[results,results200,go_sem,e0,e1,e2,e3,e4,e5,e6]) rfl ⟨V0,s0,rfl,E0.out,H6.out.drop.drop.p2.drop.p1 |>.p1.p1.drop |> fun h=>h⟩
  |false=>
   clear HB;have h5:=H.out.alloc (cS V0 s0) 46;obtain⟨p5,hp5⟩:=nm_ W.heap.size;obtain⟨W5,hW5⟩:=nm_ (W.alloc (.cells (cS V0 s0) 46));rw[<-hW5, <-hp5]at h5;have H5:=hd_ h5;clear h5 H;go_upto_region 4 with fail
   rw[<-hW5, <-hp5];clear hp5 hW5 LL a0 a1 b0 b1 b2;obtain⟨b0,b1,b2⟩:=H5.out.p2.cells3;have h6:=H5.out.alloc #[iv (i:Int),iv (j:Int),iv (q:Int)] 234;obtain⟨p7,hp7⟩:=nm_ W5.heap.size;obtain⟨W6,hW6⟩:=nm_ (W5.alloc (.cells #[iv (i:Int),iv (j:Int),iv (q:Int)] 234));rw[<-hW6, <-hp7]at h6;have H6:=hd_ h6.drew;clear h6 H5;go_upto_region 6 with fail
   rw[<-hW6, <-hp7];clear hp7 hW6 b0 b1 b2
   have hcells:∀(W':World) (c1 c2:Ch) (l':List Ch) (vs:Array Value),M w0.heap.size w0 W' (c1::bO p7 234 #[iv (i:Int),iv (j:Int),iv (q:Int)]::bO p5 46 vs::c2::bO p3 234 #[iv (i:Int),iv (j:Int),iv z]::bO p2 120 #[.slice (some ⟨g4,0,none⟩) 5 c4,.map (some m)]::l')->bD W' [(⟨p2,0,none⟩,.slice (some ⟨g4,0,none⟩) 5 c4),(⟨p2,1,none⟩,.map (some m)),(⟨p3,0,none⟩,.int .i64 (i:Int)),(⟨p3,1,none⟩,.int .i64 (j:Int)),(⟨p3,2,none⟩,.int .i64 z),(⟨p7,0,none⟩,.int .i64 (i:Int)),(⟨p7,1,none⟩,.int .i64 (j:Int)),(⟨p7,2,none⟩,.int .i64 (q:Int)),(⟨g4,i,none⟩,.slice (some ⟨g5,0,none⟩) rs.length cr),(⟨g5,j,none⟩,.slice (some ⟨b6,o6,none⟩) lp.length cl),(⟨b6,o6+q,none⟩,.int .i64 vq)]:=fun _ _ _ _ _ h=>by
    obtain⟨m0,m1,m2⟩:=h.p1.cells3;obtain⟨k0,k1,k2⟩:=h.p4.cells3;obtain⟨t0,t1⟩:=h.p5.cells2;exact⟨t0,t1,k0,k1,k2,m0,m1,m2,cell_later h.below Y0.out,cell_later h.below Y1.out,cell_later h.below C6.out,trivial⟩
   have HC:=hd_ hcells
   have KA:Hid (∀(W':World) (V1:SV) (s1:Sm),RdS W' V1 s1->Calls prog 104 #[.agg #[.slice V1.xr V1.nr V1.cr,.slice V1.xf V1.nf V1.cf,.slice V1.xt V1.nt V1.ct,iv s1.lo,iv s1.al,.slice V1.xk V1.nk V1.ck,iv s1.ka],iv vq] W' fun e w'=>∃U ok,e=.returned (.tuple #[.agg #[.slice U.xr U.nr U.cr,.slice U.xf U.nf U.cf,.slice U.xt U.nt U.ct,.int .i64 (eT s1 vq).lo,.int .i64 (eT s1 vq).al,.slice U.xk U.nk U.ck,.int .i64 (eT s1 vq).ka],.bool ok])/\aV w' W'.heap.size w'.heap.size U (eT s1 vq)/\Below W'.heap.size W' w'):=hd_ fun W' V1 s1 h1=>(aEK W' V1 s1 vq h1).mono fun e w' ⟨U,h1,h2,h3⟩=>⟨U,_,h1,h2,h3⟩
   clear hcells
   refine aC 99 (.tk 0 2 (.tk 3 14 (.alt 2 (.alt 17 (.tk 18 3 (.alt 21 .done .nomore)) .nomore) .nomore))) (fun w'=>bD w' [(⟨p2,0,none⟩,.slice (some ⟨g4,0,none⟩) 5 c4),(⟨p2,1,none⟩,.map (some m)),(⟨p3,0,none⟩,.int .i64 (i:Int)),(⟨p3,1,none⟩,.int .i64 (j:Int)),(⟨p3,2,none⟩,.int .i64 z),(⟨p7,0,none⟩,.int .i64 (i:Int)),(⟨p7,1,none⟩,.int .i64 (j:Int)),(⟨p7,2,none⟩,.int .i64 (q:Int)),(⟨g4,i,none⟩,.slice (some ⟨g5,0,none⟩) rs.length cr),(⟨g5,j,none⟩,.slice (some ⟨b6,o6,none⟩) lp.length cl),(⟨b6,o6+q,none⟩,.int .i64 vq)]) kr_ kr_ (fun _ _ _ _ _ h=>h) (HC.out _ _ _ _ _ H6.out.p5) ?_
   repeat (first|refine tC_ ?_|refine tB_ ?_)
   refine aB r_ (fun K' hK=>?_);go_simp;refine (IH.out _ _ H6.out.p5).mono ?_;rintro e' w1 ⟨V1,s1,rfl,es1,hm1⟩;have HM1:=hd_ hm1;have ES1:Hid (eT s1 vq=cC n ((i:Int),(j:Int),z)):=hd_ (by rw[ES.out,es1]);clear es1 hm1 IH H6 ES;refine hK _ _ (.inr (HC.out _ _ _ _ _ HM1.out)) ?_;clear hK K'
   try refine tP_ ?_
   refine aB r_ (fun K' hK=>?_);go_simp;refine (KA.out w1 V1 s1 (aC0 HM1.out)).mono ?_;rintro e' w2 ⟨U,ok,rfl,ho,hb⟩;obtain⟨sk,hsk⟩:=nm_ (eT s1 vq);rw[<-hsk]at ES1 ho;rw[<-hsk];have HM2:=hd_ (aEt ((sJ HM1.out).sum hb ho));clear hsk ho hb KA HM1;refine hK _ _ (.inr (HC.out _ _ _ _ _ HM2.out)) ?_;clear hK K'
   try refine tP_ ?_
   repeat (first|refine tC_ ?_|refine tB_ ?_)
   refine aB r_ (fun K' hK=>?_);refine yM HM2.out.p2 (vs:=[.slice U.xr U.nr U.cr,.slice U.xf U.nf U.cf,.slice U.xt U.nt U.ct,iv sk.lo,iv sk.al,.slice U.xk U.nk U.ck,iv sk.ka]) (ys:=#[.slice U.xr U.nr U.cr,.slice U.xf U.nf U.cf,.slice U.xt U.nt U.ct,iv sk.lo,iv sk.al,.slice U.xk U.nk U.ck,iv sk.ka]) rfl rfl rfl rfl vD rfl (by simp) (by simp[nO]) ?_;intro w3 h3
   have HM3:=hd_ h3.p2.p2;clear h3 HM2;refine hK _ _ (.inr (HC.out _ _ _ _ _ HM3.out)) ?_;clear hK K'
   try refine tP_ ?_
   refine aG ?_;obtain⟨x0,x1,x2,x3,x4,x5,x6⟩:=HM3.out.p2.cells7;obtain⟨b0,b1,b2⟩:=HM3.out.p4.cells3;obtain⟨a0,a1⟩:=HM3.out.p5.cells2
   go_wp2_with (first|(refine aER HM3.out MO.out ES1.out rfl rfl rfl rfl rfl rfl rfl ?_;intro w4 h4;have HM4:=hd_ h4;obtain⟨z0,z1,z2,z3,z4,z5,z6⟩:=h4.p2.cells7;clear h4 HM3)|(refine bE HM4.out.p3 (vs:=[.slice U.xr U.nr U.cr,.slice U.xf U.nf U.cf,.slice U.xt U.nt U.ct,iv sk.lo,iv sk.al,.slice U.xk U.nk U.ck,iv sk.ka]) (ys:=#[.slice U.xr U.nr U.cr,.slice U.xf U.nf U.cf,.slice U.xt U.nt U.ct,iv sk.lo,iv sk.al,.slice U.xk U.nk U.ck,iv sk.ka]) rfl rfl rfl rfl vD rfl (by simp) (by simp[nO]) ?_;intro w5 h5;have HM5:=hd_ h5;clear h5 HM4))
   obtain⟨e0,e1,e2,e3,e4,e5,e6⟩:=HM5.out.cells7;exact bodyPost_ret (v:=.agg #[.slice U.xr U.nr U.cr,.slice U.xf U.nf U.cf,.slice U.xt U.nt U.ct,iv sk.lo,iv sk.al,.slice U.xk U.nk U.ck,iv sk.ka]) (by simp[results,results200,go_sem,e0,e1,e2,e3,e4,e5,e6]) rfl ⟨U,sk,rfl,ES1.out,HM5.out.drop.p1.drop.p1.drop.p1.drop.p1.drop⟩
end N
end Go.Proofs.YtcblbdpdbggkbaaGreat
namespace Go.Proofs.YtcblbdpdbggkbaaGreat
open _root_.Go.Proofs.Tryz
open Go.RowKit Go.Sort
theorem aMH {a b:List Int} (ha:okS (upS a)=true) (hb:okS (upS b)=true) (hl:a.length+b.length<=2000):okS (upS (a++b))=true:=
 aCV (fun t ht=>by
    rcases List.mem_append.1 ht with q|q
    · exact (pV ha).2 t q
    · exact (pV hb).2 t q) (by rw[List.length_append];exact hl)
end Go.Proofs.YtcblbdpdbggkbaaGreat
namespace Go.Proofs.YtcblbdpdbggkbaaGreat.N
open _root_.Go.Proofs.Tryz
open Go.RowKit Go.Sort
structure kW (s:Sm) (l:List Int):Prop where
 ok:Ok s
 fine:okS (upS l)=true
 al:s.al=l.length
 rs:s.rs=(upS l).rs
 zs:s.zs=(upS l).zs
 top:∀t,T.tot s.ps t<=aA4 l t/\aA4 l t<=T.tot s.ps t+s.lo
 rank:∀t,K.gX s.ks t<=zF l t/\zF l t<=K.kL s.ks t
theorem kW.up {l:List Int} (h:okS (upS l)=true):kW (upS l) l:=⟨(bM _).1 h,h,(pV h).1,rfl,rfl,aJY l h,aIc l h⟩
theorem kW.new:kW fE []:=kW.up (l:=[]) sU
theorem kW.join {s r:Sm} {l m:List Int} (A:kW s l) (B:kW r m) (hl:l.length+m.length<=2000):aY s r=true/\kW (bY s r) (l++m):=by
 have hj:aY s r=true:=(kB _ _).2 ⟨A.ok,B.ok,by rw[A.al,B.al];omega⟩;have J:=mX hj;have ok:=aEH hj;have R:=aE5 A.fine m B.fine (by rw[(pV A.fine).1,(pV B.fine).1];omega);obtain⟨_,_,_,_,eal,P,say⟩:=K.wJ J.k;refine⟨hj,ok.1,aMH A.fine B.fine hl,?_,?_,?_,fun t=>?_,fun t=>?_⟩
 ·rw[ok.2,A.al,B.al,List.length_append];omega
 ·rw[kC hj]
  show dP s.rs r.rs=_
  rw[A.rs,B.rs,R.1]
 ·rw[kC hj]
  show fH s.zs r.zs=_
  rw[A.zs,B.zs,R.2]
 ·rw[kC hj,show aA4 (l++m) t=aA4 l t+aA4 m t from aAo l m _]
  have h:=T.join_tot J.t t;have x:=A.top t;have y:=B.top t;show T.tot (T.eO _ _ _ _ _ _).1 t<=_/\_<=T.tot (T.eO _ _ _ _ _ _).1 t+(T.eO _ _ _ _ _ _).2.1
  omega
 ·rw[kC hj,show zF (l++m) t=zF l t+zF m t from aAo l m _]
  have h:=say t;have x:=A.rank t;have y:=B.rank t;show K.gX (K.gK _ _ _ _).1 t<=_/\_<=K.kL (K.gK _ _ _ _).1 t
  omega
def aMA (es:List En):Sm:=es.foldl (fun s e=>bY s e.s) fE
def zA (n:Nt) (e:En):List Int:=(bZ n e.node e.born).take e.num.toNat
def aFb (n:Nt) (es:List En):List Int:=es.flatMap (zA n)
theorem aBS.tells {n:Nt} {e:En} (h:aBS n e):kW e.s (zA n e):=by rw[h.s];exact kW.up h.ok
theorem aCf {n:Nt}:∀(es:List En) {s:Sm} {l:List Int},kW s l->(∀e ∈ es,aBS n e/\(zA n e).length<=100)->l.length+100 * es.length<=2000->kW (es.foldl (fun s e=>bY s e.s) s) (l++aFb n es)
 | [],s,l,h,_,_=>by
  show kW s (l++[])
  rw[List.append_nil];exact h
 |e::es,s,l,h,k,hl=>by
  obtain⟨k1,k2⟩:=k e (List.mem_cons_self ..);rw[List.length_cons]at hl;have j:=(h.join k1.tells (by omega)).2;have r:=aCf es j (fun x hx=>k x (List.mem_cons_of_mem _ hx)) (by rw[List.length_append];omega);rw[List.append_assoc]at r;exact r
theorem aLs {es:List En} (h:es.Pairwise wH) (k:∀e ∈ es,bA e.node):es.length<=5:=by
 have key:∀(es:List En) (c:Int),es.Pairwise wH->(∀e ∈ es,c<=e.node/\e.node<=4)->c<=5->(es.length:Int)<=5 - c:=by
  intro es
  induction es with
  |nil=>intro c _ _ hc;simp;omega
  |cons e es ih=>
   intro c h k hc;have hh:=List.pairwise_cons.1 h;have b:=k e (List.mem_cons_self ..);have r:=ih (e.node+1) hh.2 (fun x hx=>by
        have:=hh.1 x hx
        unfold wH at this
        exact⟨by omega,(k x (List.mem_cons_of_mem _ hx)).2⟩) (by omega)
   rw[List.length_cons];omega
 have:=key es 0 h (fun e he=>k e he) (by omega);omega
theorem aD8 {n:Nt} {es:List En} (h:qK n es) (P:∀i,bA i->aFQ n i) (born:∀e ∈ es,e.born<=(aD n e.node).born):kW (aMA es) (aFb n es):=by
 have few:=aLs h.asc (fun e he=>(h.all e he).node);have r:=aCf (n:=n) es kW.new (fun e he=>⟨h.all e he,?_⟩) (by rw[List.length_nil];omega)
 ·rw[List.nil_append]at r
  exact r
 ·have T:=h.all e he
  have p:=P e.node T.node;unfold zA;rw[List.length_take];have q:(bZ n e.node e.born).length<=100:=by
   unfold bZ
   by_cases b:e.born.toNat<(dF n e.node).length
   ·rw[List.getD_eq_getElem?_getD,List.getElem?_eq_getElem b]
    exact p.few _ (List.getElem_mem b)
   ·rw[List.getD_eq_getElem?_getD,List.getElem?_eq_none (by omega)]
    exact Nat.zero_le _
  omega
theorem aF8 {n:Nt} (h:aHm n) {i:Int} (hi:bA i):kW (aMA (aD n i).known) (aFb n (aD n i).known):=
 aD8 (h.known i hi) h.pasts (fun e he=>((h.known i hi).all e he).born.2)
end Go.Proofs.YtcblbdpdbggkbaaGreat.N
